/- Layer 3: many records, one behind the other. -/
import Derived.Test.YthaamnkihnbgaaaZp
import Derived.Test.YthaamnkihnbgaaaZe
namespace Go.Proofs.Ythaamnkihnbgaaa
open Go.RowKit
set_option linter.unusedVariables false
set_option linter.unusedSimpArgs false

def Good (v : Int × List UInt8) : Prop := 1 ≤ v.1 ∧ v.1 ≤ 255 ∧ v.2.length ≤ 1024
def recsL : List (Int × List UInt8) → List UInt8
  | [] => []
  | v :: vs => recL v.1.toNat v.2 ++ recsL vs
theorem recsL_append (a b : List (Int × List UInt8)) : recsL (a ++ b) = recsL a ++ recsL b := by
  induction a with
  | nil => rfl
  | cons v a ih => show recL _ _ ++ recsL (a ++ b) = (recL _ _ ++ recsL a) ++ recsL b; rw [ih, List.append_assoc]
theorem recsL_snoc (vs : List (Int × List UInt8)) (k : Nat) (h : k < vs.length) : recsL (vs.take (k + 1)) = recsL (vs.take k) ++ recL (vs[k]'h).1.toNat (vs[k]'h).2 := by
  rw [List.take_add_one, List.getElem?_eq_getElem h, Option.toList_some, recsL_append]
  show _ ++ (recL _ _ ++ []) = _
  rw [List.append_nil]
theorem writeR_good {v : Int × List UInt8} (h : Good v) : writeR v.1 v.2 = (recL v.1.toNat v.2, 0) := by
  unfold writeR; rw [if_neg (by have := h.1; have := h.2.1; omega), if_neg (by have := h.2.2; omega)]
theorem writeR_bad {k : Int} {d : List UInt8} (h : (writeR k d).2 ≠ 0) : (writeR k d).1 = [] := by
  unfold writeR at h ⊢
  split
  · rfl
  · split
    · rfl
    · rename_i h1 h2; rw [if_neg h1, if_neg h2] at h; exact absurd rfl h
theorem good_of {k : Int} {d : List UInt8} (h : (writeR k d).2 = 0) : Good (k, d) := by
  unfold writeR at h
  split at h
  · cases h
  · split at h
    · cases h
    · exact ⟨by show 1 ≤ k; omega, by show k ≤ 255; omega, by show d.length ≤ 1024; omega⟩
theorem frontR_good {v : Int × List UInt8} (h : Good v) (rest : List UInt8) : frontR (recL v.1.toNat v.2 ++ rest) = some (v.1.toNat, v.2, v.2.length + 7) :=
  frontR_rec (by have := h.1; omega) (by have := h.2.1; omega) h.2.2
theorem drop_rec (k : Nat) (d rest : List UInt8) : (recL k d ++ rest).drop (d.length + 7) = rest := by
  rw [List.drop_append_of_le_length (by rw [recL_length]; omega), List.drop_of_length_le (by rw [recL_length]; omega), List.nil_append]
/-- What was written is read, cut anywhere up to the record that is cut. -/
theorem readL_recs : ∀ (vs : List (Int × List UInt8)), (∀ v ∈ vs, Good v) → ∀ (k m j : Nat), m ≤ k → j ≤ vs.length → (recsL (vs.take j)).length ≤ m → (j < vs.length → m < (recsL (vs.take (j + 1))).length) →
    readL k ((recsL vs).take m) = (vs.take j, (recsL (vs.take j)).length) := by
  intro vs
  induction vs with
  | nil =>
    intro _ k m j _ hj _ _
    obtain rfl : j = 0 := by simpa using hj
    show readL k (([] : List UInt8).take m) = ([], 0)
    rw [List.take_nil, readL_nil]
  | cons v vs ih =>
    intro hg k m j hk hj h1 h2
    have hv := hg v (by simp)
    have hf : frontR (recsL (v :: vs)) = some (v.1.toNat, v.2, v.2.length + 7) := frontR_good hv (recsL vs)
    have hl : (recsL (v :: vs)).length = v.2.length + 7 + (recsL vs).length := by show (recL _ _ ++ recsL vs).length = _; rw [List.length_append, recL_length]
    rcases j with _ | j
    · have h3 : m < v.2.length + 7 := by
        have := h2 (by simp)
        rw [show (v :: vs).take (0 + 1) = [v] by simp] at this
        have e : (recsL [v]).length = v.2.length + 7 := by show (recL _ _ ++ []).length = _; rw [List.append_nil, recL_length]
        omega
      rw [readL_none (frontR_cut hf h3)]
      rfl
    · have h1' : v.2.length + 7 + (recsL (vs.take j)).length ≤ m := by
        have e : (recsL ((v :: vs).take (j + 1))).length = v.2.length + 7 + (recsL (vs.take j)).length := by rw [List.take_succ_cons]; show (recL _ _ ++ recsL _).length = _; rw [List.length_append, recL_length]
        omega
      have h2' : j < vs.length → m < v.2.length + 7 + (recsL (vs.take (j + 1))).length := fun hj' => by
        have := h2 (by simpa using hj')
        have e : (recsL ((v :: vs).take (j + 1 + 1))).length = v.2.length + 7 + (recsL (vs.take (j + 1))).length := by rw [List.take_succ_cons]; show (recL _ _ ++ recsL _).length = _; rw [List.length_append, recL_length]
        omega
      obtain ⟨k2, rfl⟩ : ∃ k2, k = k2 + 1 := ⟨k - 1, by omega⟩
      have hd : ((recsL (v :: vs)).take m).drop (v.2.length + 7) = (recsL vs).take (m - (v.2.length + 7)) := by
        rw [List.drop_take]
        show List.take _ ((recL _ _ ++ recsL vs).drop _) = _
        rw [drop_rec]
      have hif := ih (fun x hx => hg x (by simp [hx])) k2 (m - (v.2.length + 7)) j (by omega) (by simpa using hj) (by omega) (fun h => by have := h2' h; omega)
      rw [readL_some (frontR_take (m := m) hf (by omega)), hd, hif, List.take_succ_cons]
      have ev : ((v.1.toNat : Int), v.2) = v := by rw [Int.toNat_of_nonneg (by have := hv.1; omega)]
      rw [ev]
      show (v :: vs.take j, v.2.length + 7 + (recsL (vs.take j)).length) = (v :: vs.take j, (recL _ _ ++ recsL (vs.take j)).length)
      rw [List.length_append, recL_length]
theorem readR_cut {vs : List (Int × List UInt8)} (hg : ∀ v ∈ vs, Good v) {m j : Nat} (hm : m ≤ (recsL vs).length) (hj : j ≤ vs.length) (h1 : (recsL (vs.take j)).length ≤ m) (h2 : j < vs.length → m < (recsL (vs.take (j + 1))).length) :
    readR ((recsL vs).take m) = (vs.take j, (recsL (vs.take j)).length) := by
  unfold readR
  exact readL_recs vs hg _ m j (by rw [List.length_take]; omega) hj h1 h2
theorem readR_all {vs : List (Int × List UInt8)} (hg : ∀ v ∈ vs, Good v) : readR (recsL vs) = (vs, (recsL vs).length) := by
  have h := readR_cut hg (m := (recsL vs).length) (j := vs.length) (Nat.le_refl _) (Nat.le_refl _) (by rw [List.take_length]; exact Nat.le_refl _) (fun h => absurd h (by omega))
  rw [List.take_length, List.take_length] at h
  exact h
end Go.Proofs.Ythaamnkihnbgaaa
