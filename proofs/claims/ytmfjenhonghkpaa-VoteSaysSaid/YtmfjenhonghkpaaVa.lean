/- Layer 16: the document's right trees. -/
import Derived.Test.YtmfjenhonghkpaaUz
import Derived.Test.YtmfjenhonghkpaaUs
namespace Go.Proofs.Ytmfjenhonghkpaa
open Go Go.RowKit
set_option linter.unusedVariables false
set_option linter.unusedSimpArgs false

/-- How deep a forest is. -/
def dep : Fo → Nat
  | .nil => 0
  | .cons _ k r => max (dep k + 1) (dep r)
theorem okD_dep : ∀ (f : Fo) (n : Nat), okD n f = true ↔ dep f ≤ n
  | .nil, n => by simp [okD, dep]
  | .cons v k r, n => by
    simp only [okD, dep, Bool.and_eq_true, decide_eq_true_eq, okD_dep k (n - 1), okD_dep r n]
    omega
theorem cntM_full : ∀ (most : Nat) (f : Fo) (n d : Nat), most < n → cntM most n d f = (n, d)
  | _, .nil, _, _, _ => rfl
  | _, .cons _ _ _, _, _, h => by simp only [cntM]; rw [if_neg (by omega)]
theorem cntM_in : ∀ (f : Fo) (most n d : Nat), 1 ≤ d → n + f.cnt ≤ most → cntM most n d f = (n + f.cnt, max d (dep f + 1))
  | .nil, most, n, d, h1, h2 => by simp only [cntM, Fo.cnt, dep]; congr 1; omega
  | .cons v k r, most, n, d, h1, h2 => by
    simp only [Fo.cnt] at h2
    simp only [cntM]
    rw [if_pos (by omega), cntM_in k (most - n) 1 1 (by omega) (by omega)]
    dsimp only
    rw [show max 1 (dep k + 1) = dep k + 1 by omega, show (if d ≤ dep k + 1 then dep k + 1 + 1 else d) = max d (dep k + 2) by split <;> omega]
    rw [cntM_in r most _ _ (by omega) (by omega)]
    simp only [Fo.cnt, dep]
    congr 1 <;> omega
theorem cntM_out : ∀ (f : Fo) (most n d : Nat), 1 ≤ d → most < n + f.cnt → most < (cntM most n d f).1
  | .nil, most, n, d, h1, h2 => by simpa [cntM, Fo.cnt] using h2
  | .cons v k r, most, n, d, h1, h2 => by
    simp only [Fo.cnt] at h2
    simp only [cntM]
    by_cases h : n ≤ most
    · rw [if_pos h]
      by_cases hk : 1 + k.cnt ≤ most - n
      · refine cntM_out r most _ _ (by split <;> omega) ?_
        rw [cntM_in k (most - n) 1 1 (by omega) hk]
        dsimp only
        omega
      · have := cntM_out k (most - n) 1 1 (by omega) (by omega)
        rw [cntM_full _ _ _ _ (by omega)]
        dsimp only
        omega
    · rw [if_neg h]; dsimp only; omega
/-- A right tree, by the document's count. -/
theorem right_doc (v : Int) (k : Fo) : rightB v k = true ↔ ((cntM 64 1 1 k).1 ≤ 64 ∧ (cntM 64 1 1 k).2 ≤ 8) ∧ ∀ z ∈ v :: votesF k, voteB z = true := by
  rw [right_iff, okD_dep]
  simp only [List.mem_cons, forall_eq_or_imp]
  by_cases hc : 1 + k.cnt ≤ 64
  · rw [cntM_in k 64 1 1 (by omega) hc]
    dsimp only
    constructor
    · rintro ⟨h1, h2, h3, h4⟩; exact ⟨⟨by omega, by omega⟩, h1, h3⟩
    · rintro ⟨⟨h1, h2⟩, h3, h4⟩; exact ⟨h3, by omega, h4, by omega⟩
  · have := cntM_out k 64 1 1 (by omega) (by omega)
    constructor
    · rintro ⟨h1, h2, h3, h4⟩; omega
    · rintro ⟨⟨h1, h2⟩, h3, h4⟩; omega
theorem right_small {v : Int} {k : Fo} (h : (cntM 64 1 1 k).1 ≤ 64) : k.cnt + 1 ≤ 64 := by
  by_cases hc : 1 + k.cnt ≤ 64
  · omega
  · have := cntM_out k 64 1 1 (by omega) (by omega); omega
end Go.Proofs.Ytmfjenhonghkpaa
