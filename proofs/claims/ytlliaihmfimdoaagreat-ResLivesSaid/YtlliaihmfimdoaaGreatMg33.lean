/- Parts D5 of one proof. -/
import Derived.Test.YtlliaihmfimdoaaGreatMg28
import Derived.Test.YtlliaihmfimdoaaGreatMg32
namespace Go.Proofs.YtlliaihmfimdoaaGreat.Dr
open Go.RowKit Go.Maps Go.Joins Go.Deep Go.Proofs.YtlliaihmfimdoaaGreat
set_option linter.unusedVariables false
set_option linter.unusedSimpArgs false
def kk (c : Ch) : Bool := decide (c.k = 1) || decide (c.k = 2)
def okS : List Ch → Bool → Bool
 | [], _ => true
 | c :: l, s => if kk c then (!s && okS l s) else okS l true
def aS (l : List Ch) (j : Nat) : List Ch := (l.take j).filter kk
def bS (l : List Ch) (j : Nat) : List Ch := (l.take j).filter fun c => !kk c
theorem aS_zero (l : List Ch) : aS l 0 = [] := by simp [aS]
theorem bS_zero (l : List Ch) : bS l 0 = [] := by simp [bS]
theorem aS_le (l : List Ch) (j : Nat) : (aS l j).length ≤ l.length := Nat.le_trans (List.length_filter_le _ _) (by rw [List.length_take]; omega)
theorem bS_le (l : List Ch) (j : Nat) : (bS l j).length ≤ l.length := Nat.le_trans (List.length_filter_le _ _) (by rw [List.length_take]; omega)
theorem aS_snoc {l : List Ch} {j : Nat} (hj : j < l.length) : aS l (j + 1) = if kk (l[j]'hj) then aS l j ++ [l[j]'hj] else aS l j := by
 unfold aS
 rw [List.take_succ_eq_append_getElem hj, List.filter_append]
 by_cases h : kk (l[j]'hj) = true <;> simp [h]
theorem bS_snoc {l : List Ch} {j : Nat} (hj : j < l.length) : bS l (j + 1) = if kk (l[j]'hj) then bS l j else bS l j ++ [l[j]'hj] := by
 unfold bS
 rw [List.take_succ_eq_append_getElem hj, List.filter_append]
 by_cases h : kk (l[j]'hj) = true <;> simp [h]
theorem okS_drop {l : List Ch} {j : Nat} (hj : j < l.length) (s : Bool) : okS (l.drop j) s = if kk (l[j]'hj) then (!s && okS (l.drop (j + 1)) s) else okS (l.drop (j + 1)) true := by
 rw [List.drop_eq_getElem_cons hj]
 rfl
theorem okS_end (l : List Ch) {j : Nat} (hj : l.length ≤ j) (s : Bool) : okS (l.drop j) s = true := by
 rw [List.drop_eq_nil_of_le hj]
 rfl
theorem kk_eq (c : Ch) : kk c = Re.isK c := by
 unfold kk Re.isK
 by_cases h1 : c.k = 1
 ·rw [h1]; decide
 ·by_cases h2 : c.k = 2
  ·rw [h2]; decide
  ·simp only [h1, h2, decide_false, Bool.or_self]
   symm
   rw [Bool.and_eq_false_iff]
   by_cases h3 : 1 ≤ c.k
   ·right; exact decide_eq_false (by omega)
   ·left; exact decide_eq_false h3
theorem okS_true (l : List Ch) : okS l true = !(l.any Re.isK) := by
 induction l with
 | nil => rfl
 | cons c l ih =>
  unfold okS
  rw [List.any_cons, ← kk_eq, ih]
  cases kk c <;> simp
theorem endK_cons (c : Ch) (l : List Ch) : Re.endK (c :: l) = if kk c then Re.endK l + 1 else 0 := by
 unfold Re.endK Re.posC
 rw [List.findIdx_cons]
 unfold Re.notK
 rw [← kk_eq]
 cases kk c <;> rfl
theorem okS_false (l : List Ch) : okS l false = !((l.drop (Re.endK l)).any Re.isK) := by
 induction l with
 | nil => rfl
 | cons c l ih =>
  rw [endK_cons]
  unfold okS
  by_cases h : kk c = true
  ·rw [if_pos h, if_pos h, ih]; simp
  ·rw [if_neg h, if_neg h, okS_true, List.drop_zero, List.any_cons, ← kk_eq]
   simp [h]
theorem filt_none {l : List Ch} (h : l.any Re.isK = false) : l.filter kk = [] ∧ (l.filter fun c => !kk c) = l := by
 rw [List.any_eq_false] at h
 constructor
 ·rw [List.filter_eq_nil_iff]
  intro c hc
  rw [kk_eq]
  exact h c hc
 ·rw [List.filter_eq_self]
  intro c hc
  rw [kk_eq]
  have := h c hc
  simpa using this
theorem spl_of {l : List Ch} (h : okS l false = true) : l.filter kk = l.take (Re.endK l) ∧ (l.filter fun c => !kk c) = l.drop (Re.endK l) := by
 induction l with
 | nil => exact ⟨rfl, rfl⟩
 | cons c l ih =>
  rw [endK_cons]
  unfold okS at h
  by_cases hc : kk c = true
  ·rw [if_pos hc] at h ⊢
   obtain ⟨h1, h2⟩ := ih (by simpa using h)
   rw [List.filter_cons_of_pos hc, List.take_succ_cons, List.drop_succ_cons, ← h1, ← h2]
   refine ⟨rfl, ?_⟩
   rw [List.filter_cons_of_neg (by simp [hc])]
  ·rw [if_neg hc] at h ⊢
   rw [okS_true] at h
   obtain ⟨h1, h2⟩ := filt_none (l := l) (by simpa using h)
   rw [List.filter_cons_of_neg hc, List.filter_cons_of_pos (by simp [hc]), h1, h2]
   exact ⟨rfl, rfl⟩
end Go.Proofs.YtlliaihmfimdoaaGreat.Dr

