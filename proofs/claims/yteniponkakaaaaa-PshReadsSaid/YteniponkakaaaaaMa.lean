/- Messages: what each kind has; which ones are right. -/
import Derived.Test.YteniponkakaaaaaLd
namespace Go.Proofs.Yteniponkakaaaaa
open Go.RowKit
set_option linter.unusedVariables false
set_option linter.unusedSimpArgs false

def fKn (k : Int) : Bool := decide (1 ≤ k) && decide (k ≤ 13)
def fLu (k : Int) : Bool := decide (1 ≤ k) && decide (k ≤ 11)
def fMi (k : Int) : Bool := decide (k = 9)
def fNa (k : Int) : Bool := decide (k = 12)
def fv (a b c d : Bool) : Value := .agg #[.bool a, .bool b, .bool c, .bool d]
theorem kinds (k : Int) : k < 1 ∨ 13 < k ∨ k = 1 ∨ k = 2 ∨ k = 3 ∨ k = 4 ∨ k = 5 ∨ k = 6 ∨ k = 7 ∨ k = 8 ∨ k = 9 ∨ k = 10 ∨ k = 11 ∨ k = 12 ∨ k = 13 := by omega
theorem f_low (k : Int) (h : k < 1 ∨ 13 < k) : fv (fKn k) (fLu k) (fMi k) (fNa k) = fv false false false false := by
  have h1 : fKn k = false := by unfold fKn; rcases h with h | h <;> simp <;> omega
  have h2 : fLu k = false := by unfold fLu; rcases h with h | h <;> simp <;> omega
  have h3 : fMi k = false := decide_eq_false (by omega)
  have h4 : fNa k = false := decide_eq_false (by omega)
  rw [h1, h2, h3, h4]

set_option maxHeartbeats 2000000 in
theorem fieldsOf_any (k : Int) (w : World) : Calls Try.prog 23 #[.int .i64 k] w fun e w' => e = .returned (fv (fKn k) (fLu k) (fMi k) (fNa k)) ∧ Below w.heap.size w w' := by
  rcases kinds k with h | h | rfl | rfl | rfl | rfl | rfl | rfl | rfl | rfl | rfl | rfl | rfl | rfl | rfl
  · rw [f_low k (.inl h)]
    have Hne : Hid (∀ c : Int, 1 ≤ c → c ≤ 13 → (k == c) = false) := Lib.hid (fun c h1 h2 => beq_eq_false_iff_ne.2 (by omega))
    have n1 := Hne.out 1 (by omega) (by omega)
    have n2 := Hne.out 2 (by omega) (by omega)
    have n3 := Hne.out 3 (by omega) (by omega)
    have n4 := Hne.out 4 (by omega) (by omega)
    have n5 := Hne.out 5 (by omega) (by omega)
    have n6 := Hne.out 6 (by omega) (by omega)
    have n7 := Hne.out 7 (by omega) (by omega)
    have n8 := Hne.out 8 (by omega) (by omega)
    have n9 := Hne.out 9 (by omega) (by omega)
    have n10 := Hne.out 10 (by omega) (by omega)
    have n11 := Hne.out 11 (by omega) (by omega)
    have n12 := Hne.out 12 (by omega) (by omega)
    have n13 := Hne.out 13 (by omega) (by omega)
    clear h
    go_enter Try.func23, Try.ntmps23
    go_wp2
    go_returns
    exact ⟨rfl, bt (ba _ _) (ba _ _)⟩
  · rw [f_low k (.inr h)]
    have Hne : Hid (∀ c : Int, 1 ≤ c → c ≤ 13 → (k == c) = false) := Lib.hid (fun c h1 h2 => beq_eq_false_iff_ne.2 (by omega))
    have n1 := Hne.out 1 (by omega) (by omega)
    have n2 := Hne.out 2 (by omega) (by omega)
    have n3 := Hne.out 3 (by omega) (by omega)
    have n4 := Hne.out 4 (by omega) (by omega)
    have n5 := Hne.out 5 (by omega) (by omega)
    have n6 := Hne.out 6 (by omega) (by omega)
    have n7 := Hne.out 7 (by omega) (by omega)
    have n8 := Hne.out 8 (by omega) (by omega)
    have n9 := Hne.out 9 (by omega) (by omega)
    have n10 := Hne.out 10 (by omega) (by omega)
    have n11 := Hne.out 11 (by omega) (by omega)
    have n12 := Hne.out 12 (by omega) (by omega)
    have n13 := Hne.out 13 (by omega) (by omega)
    clear h
    go_enter Try.func23, Try.ntmps23
    go_wp2
    go_returns
    exact ⟨rfl, bt (ba _ _) (ba _ _)⟩
  all_goals
    go_enter Try.func23, Try.ntmps23
    go_wp2
    go_returns
    exact ⟨rfl, bt (ba _ _) (ba _ _)⟩
end Go.Proofs.Yteniponkakaaaaa
