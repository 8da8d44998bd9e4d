/- Which names may be, and their order: both programs' Right, Less, Next. -/
import Derived.Test.YtmdogmmmjopibaaLw
import Derived.Test.YtmdogmmmjopibaaBase2
import Derived.Test.YtmdogmmmjopibaaProg
namespace Go.Proofs.Ytmdogmmmjopibaa
open Go.RowKit
set_option linter.unusedVariables false
set_option linter.unusedSimpArgs false

def lv (u : Int) (a q : Nat) : Value := .agg #[.int .i64 u, .int .u32 a, .int .u32 q]

set_option maxHeartbeats 400000 in
theorem right_any (u : Int) (a q : Nat) (w : World) : Calls Try.prog 14 #[lv u a q] w fun e w' => e = .returned (.bool (okL u q)) ∧ Below w.heap.size w w' := by
  unfold lv
  by_cases h1 : 0 ≤ u
  · by_cases h2 : u < 6
    · by_cases h3 : q = 0
      · rw [okL_not u q (by omega)]
        have hq : ((q : Int) != 0) = false := by subst h3; rfl
        clear h3
        go_enter Try.func14, Try.ntmps14
        go_wp2
        go_ret
        exact ⟨rfl, ba _ _⟩
      · rw [(okL_iff u q).2 (by omega)]
        have hq : ((q : Int) != 0) = true := by simp; omega
        clear h3
        go_enter Try.func14, Try.ntmps14
        go_wp2
        go_ret
        exact ⟨rfl, ba _ _⟩
    · rw [okL_not u q (by omega)]
      go_enter Try.func14, Try.ntmps14
      go_wp2
      go_ret
      exact ⟨rfl, ba _ _⟩
  · rw [okL_not u q (by omega)]
    go_enter Try.func14, Try.ntmps14
    go_wp2
    go_ret
    exact ⟨rfl, ba _ _⟩

set_option maxHeartbeats 400000 in
theorem refright_any (u : Int) (a q : Nat) (w : World) : Calls Try.prog 15 #[lv u a q] w fun e w' => e = .returned (.bool (okL u q)) ∧ Below w.heap.size w w' := by
  unfold lv
  by_cases h1 : 0 ≤ u
  · by_cases h2 : u < 6
    · by_cases h3 : q = 0
      · rw [okL_not u q (by omega)]
        have hq : ((q : Int) != 0) = false := by subst h3; rfl
        clear h3
        go_enter Try.func15, Try.ntmps15
        go_wp2
        go_ret
        exact ⟨rfl, ba _ _⟩
      · rw [(okL_iff u q).2 (by omega)]
        have hq : ((q : Int) != 0) = true := by simp; omega
        clear h3
        go_enter Try.func15, Try.ntmps15
        go_wp2
        go_ret
        exact ⟨rfl, ba _ _⟩
    · rw [okL_not u q (by omega)]
      go_enter Try.func15, Try.ntmps15
      go_wp2
      go_ret
      exact ⟨rfl, ba _ _⟩
  · rw [okL_not u q (by omega)]
    go_enter Try.func15, Try.ntmps15
    go_wp2
    go_ret
    exact ⟨rfl, ba _ _⟩

/-- Which of two names stands ahead. -/
theorem lessL_u (u v : Int) (a b q r : Nat) (h : u ≠ v) : lessL u v a b q r = decide (u < v) := if_neg h
theorem lessL_a (u : Int) (a b q r : Nat) (h : a ≠ b) : lessL u u a b q r = decide (a < b) := by unfold lessL; rw [if_pos rfl, if_neg h]
theorem lessL_q (u : Int) (a q r : Nat) : lessL u u a a q r = decide (q < r) := by unfold lessL; rw [if_pos rfl, if_pos rfl]

set_option maxHeartbeats 400000 in
theorem less_any (u v : Int) (a b q r : Nat) (w : World) : Calls Try.prog 22 #[lv u a q, lv v b r] w fun e w' => e = .returned (.bool (lessL u v a b q r)) ∧ Below w.heap.size w w' := by
  unfold lv
  by_cases h1 : u = v
  · subst h1
    by_cases h2 : a = b
    · subst h2
      rw [lessL_q]
      go_enter Try.func22, Try.ntmps22
      go_wp2
      go_ret
      exact ⟨rfl, bt (ba _ _) (ba _ _)⟩
    · rw [lessL_a _ _ _ _ _ h2]
      have h : ((a : Int) == b) = false := beq_eq_false_iff_ne.2 (by omega)
      have h' : ((a : Int) != b) = true := by simp; omega
      clear h2
      go_enter Try.func22, Try.ntmps22
      go_wp2
      go_ret
      exact ⟨rfl, bt (ba _ _) (ba _ _)⟩
  · rw [lessL_u _ _ _ _ _ _ h1]
    have h : (u == v) = false := beq_eq_false_iff_ne.2 h1
    have h' : (u != v) = true := by simp; omega
    clear h1
    go_enter Try.func22, Try.ntmps22
    go_wp2
    go_ret
    exact ⟨rfl, bt (ba _ _) (ba _ _)⟩
set_option maxHeartbeats 400000 in
theorem refless_any (u v : Int) (a b q r : Nat) (w : World) : Calls Try.prog 23 #[lv u a q, lv v b r] w fun e w' => e = .returned (.bool (lessL u v a b q r)) ∧ Below w.heap.size w w' := by
  unfold lv
  by_cases h1 : u = v
  · subst h1
    by_cases h2 : a = b
    · subst h2
      rw [lessL_q]
      go_enter Try.func23, Try.ntmps23
      go_wp2
      go_ret
      exact ⟨rfl, bt (ba _ _) (ba _ _)⟩
    · rw [lessL_a _ _ _ _ _ h2]
      have h : ((a : Int) == b) = false := beq_eq_false_iff_ne.2 (by omega)
      have h' : ((a : Int) != b) = true := by simp; omega
      clear h2
      go_enter Try.func23, Try.ntmps23
      go_wp2
      go_ret
      exact ⟨rfl, bt (ba _ _) (ba _ _)⟩
  · rw [lessL_u _ _ _ _ _ _ h1]
    have h : (u == v) = false := beq_eq_false_iff_ne.2 h1
    have h' : (u != v) = true := by simp; omega
    clear h1
    go_enter Try.func23, Try.ntmps23
    go_wp2
    go_ret
    exact ⟨rfl, bt (ba _ _) (ba _ _)⟩
end Go.Proofs.Ytmdogmmmjopibaa
