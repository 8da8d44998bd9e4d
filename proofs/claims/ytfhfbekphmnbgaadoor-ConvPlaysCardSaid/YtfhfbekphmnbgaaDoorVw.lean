/- Layer 10: the state that a number of a row names. -/
import Derived.Test.YtfhfbekphmnbgaaDoorVs
namespace Go.Proofs.YtfhfbekphmnbgaaDoor
open Go.RowKit
set_option linter.unusedVariables false
set_option linter.unusedSimpArgs false

def toM (c : Int × Int × Bool × Int × Bool × Int) (s : Bool) (n : Int) : Int := if n = 0 then stM c s else if n < 0 then baseM c s else n
set_option maxHeartbeats 800000 in
theorem to_f (l s0 : Int) (w0 : Bool) (s1 : Int) (w1 : Bool) (t n : Int) (w : World) : Calls Tryd.prog 29 #[.agg #[.int .i64 l, .int .i64 s0, .int .i64 s1, .bool w0, .bool w1, .int .i64 t], .int .i64 0, .int .i64 n] w fun e w' => e = .returned (.int .i64 (toM (l, s0, w0, s1, w1, t) false n)) ∧ Below w.heap.size w w' := by
  unfold toM
  by_cases h0 : n = 0
  · rw [if_pos h0]
    have g0 : (n == 0) = true := by simpa using h0
    have hst : stM (l, s0, w0, s1, w1, t) false = s0 := rfl
    rw [hst]
    clear h0 hst
    go_enter Tryd.func29, Tryd.ntmps29
    go_wp2
    go_ret
    exact ⟨rfl, ba _ _⟩
  · rw [if_neg h0]
    have g0 : (n == 0) = false := by simpa using h0
    by_cases h1 : n < 0
    · rw [if_pos h1]
      have g1 : decide (n < 0) = true := decide_eq_true h1
      have hbs := fun w => refbase_any l s0 w0 s1 w1 t w false
      generalize baseM (l, s0, w0, s1, w1, t) false = bb at *
      simp only [bi, if_true, if_false, Bool.false_eq_true] at hbs
      clear h0 h1
      go_enter Tryd.func29, Tryd.ntmps29
      go_wp2_with fail
      refine (hbs _).mono ?_
      rintro e v ⟨rfl, hb⟩
      go_wp2
      go_ret
      exact ⟨rfl, bt (ba _ _) hb⟩
    · rw [if_neg h1]
      have g1 : decide (n < 0) = false := decide_eq_false h1
      clear h0 h1
      go_enter Tryd.func29, Tryd.ntmps29
      go_wp2
      go_ret
      exact ⟨rfl, ba _ _⟩
set_option maxHeartbeats 800000 in
theorem to_t (l s0 : Int) (w0 : Bool) (s1 : Int) (w1 : Bool) (t n : Int) (w : World) : Calls Tryd.prog 29 #[.agg #[.int .i64 l, .int .i64 s0, .int .i64 s1, .bool w0, .bool w1, .int .i64 t], .int .i64 1, .int .i64 n] w fun e w' => e = .returned (.int .i64 (toM (l, s0, w0, s1, w1, t) true n)) ∧ Below w.heap.size w w' := by
  unfold toM
  by_cases h0 : n = 0
  · rw [if_pos h0]
    have g0 : (n == 0) = true := by simpa using h0
    have hst : stM (l, s0, w0, s1, w1, t) true = s1 := rfl
    rw [hst]
    clear h0 hst
    go_enter Tryd.func29, Tryd.ntmps29
    go_wp2
    go_ret
    exact ⟨rfl, ba _ _⟩
  · rw [if_neg h0]
    have g0 : (n == 0) = false := by simpa using h0
    by_cases h1 : n < 0
    · rw [if_pos h1]
      have g1 : decide (n < 0) = true := decide_eq_true h1
      have hbs := fun w => refbase_any l s0 w0 s1 w1 t w true
      generalize baseM (l, s0, w0, s1, w1, t) true = bb at *
      simp only [bi, if_true, if_false, Bool.false_eq_true] at hbs
      clear h0 h1
      go_enter Tryd.func29, Tryd.ntmps29
      go_wp2_with fail
      refine (hbs _).mono ?_
      rintro e v ⟨rfl, hb⟩
      go_wp2
      go_ret
      exact ⟨rfl, bt (ba _ _) hb⟩
    · rw [if_neg h1]
      have g1 : decide (n < 0) = false := decide_eq_false h1
      clear h0 h1
      go_enter Tryd.func29, Tryd.ntmps29
      go_wp2
      go_ret
      exact ⟨rfl, ba _ _⟩
end Go.Proofs.YtfhfbekphmnbgaaDoor
