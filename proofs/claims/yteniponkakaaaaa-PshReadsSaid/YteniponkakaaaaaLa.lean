/- Which names may be, and their order: both programs' Right, Less, Next. -/
import Derived.Test.YteniponkakaaaaaLw
import Derived.Test.YteniponkakaaaaaBase2
import Derived.Test.YteniponkakaaaaaProg
namespace Go.Proofs.Yteniponkakaaaaa
open Go.RowKit
set_option linter.unusedVariables false
set_option linter.unusedSimpArgs false

def lv (u : Int) (a q : Nat) : Value := .agg #[.int .i64 u, .int .u32 a, .int .u32 q]

set_option maxHeartbeats 400000 in
theorem right_any (u : Int) (a q : Nat) (w : World) : Calls Try.prog 24 #[lv u a q] w fun e w' => e = .returned (.bool (okL u q)) ∧ Below w.heap.size w w' := by
  unfold lv
  by_cases h1 : 0 ≤ u
  · by_cases h2 : u < 6
    · by_cases h3 : q = 0
      · rw [okL_not u q (by omega)]
        have hq : ((q : Int) != 0) = false := by subst h3; rfl
        clear h3
        go_enter Try.func24, Try.ntmps24
        go_wp2
        go_ret
        exact ⟨rfl, ba _ _⟩
      · rw [(okL_iff u q).2 (by omega)]
        have hq : ((q : Int) != 0) = true := by simp; omega
        clear h3
        go_enter Try.func24, Try.ntmps24
        go_wp2
        go_ret
        exact ⟨rfl, ba _ _⟩
    · rw [okL_not u q (by omega)]
      go_enter Try.func24, Try.ntmps24
      go_wp2
      go_ret
      exact ⟨rfl, ba _ _⟩
  · rw [okL_not u q (by omega)]
    go_enter Try.func24, Try.ntmps24
    go_wp2
    go_ret
    exact ⟨rfl, ba _ _⟩

set_option maxHeartbeats 400000 in
theorem refright_any (u : Int) (a q : Nat) (w : World) : Calls Try.prog 25 #[lv u a q] w fun e w' => e = .returned (.bool (okL u q)) ∧ Below w.heap.size w w' := by
  unfold lv
  by_cases h1 : 0 ≤ u
  · by_cases h2 : u < 6
    · by_cases h3 : q = 0
      · rw [okL_not u q (by omega)]
        have hq : ((q : Int) != 0) = false := by subst h3; rfl
        clear h3
        go_enter Try.func25, Try.ntmps25
        go_wp2
        go_ret
        exact ⟨rfl, ba _ _⟩
      · rw [(okL_iff u q).2 (by omega)]
        have hq : ((q : Int) != 0) = true := by simp; omega
        clear h3
        go_enter Try.func25, Try.ntmps25
        go_wp2
        go_ret
        exact ⟨rfl, ba _ _⟩
    · rw [okL_not u q (by omega)]
      go_enter Try.func25, Try.ntmps25
      go_wp2
      go_ret
      exact ⟨rfl, ba _ _⟩
  · rw [okL_not u q (by omega)]
    go_enter Try.func25, Try.ntmps25
    go_wp2
    go_ret
    exact ⟨rfl, ba _ _⟩

/-- Which of two names stands ahead. -/
theorem lessL_u (u v : Int) (a b q r : Nat) (h : u ≠ v) : lessL u v a b q r = decide (u < v) := if_neg h
theorem lessL_a (u : Int) (a b q r : Nat) (h : a ≠ b) : lessL u u a b q r = decide (a < b) := by unfold lessL; rw [if_pos rfl, if_neg h]
theorem lessL_q (u : Int) (a q r : Nat) : lessL u u a a q r = decide (q < r) := by unfold lessL; rw [if_pos rfl, if_pos rfl]

end Go.Proofs.Yteniponkakaaaaa
