/- Layer 10: the document's small functions, and a conversation as the document's. -/
import Derived.Test.YtfhfbekphmnbgaaDoorVk
namespace Go.Proofs.YtfhfbekphmnbgaaDoor
open Go.RowKit
set_option linter.unusedVariables false
set_option linter.unusedSimpArgs false

def rv : Int × Int × Bool × Int × Bool × Int → Value
  | (l, s0, w0, s1, w1, t) => .agg #[.int .i64 l, .int .i64 s0, .int .i64 s1, .bool w0, .bool w1, .int .i64 t]
def shapeM (c : Int × Int × Bool × Int × Bool × Int) (i : Bool) (one : Int) (wt : Bool) (other least : Int) : Bool := stM c i == one && (wtM c i == wt && (stM c (!i) == other && (!wtM c (!i) && decide (least ≤ c.1))))
section
variable (l s0 : Int) (w0 : Bool) (s1 : Int) (w1 : Bool) (t : Int) (w : World)
set_option maxHeartbeats 800000 in
theorem as_any : Calls Tryd.prog 14 #[.agg #[.int .i64 l, .int .i64 s0, .bool w0, .int .i64 s1, .bool w1, .int .i64 t]] w fun e w' => e = .returned (.agg #[.int .i64 l, .int .i64 s0, .int .i64 s1, .bool w0, .bool w1, .int .i64 t]) ∧ Below w.heap.size w w' := by
  go_enter Tryd.func14, Tryd.ntmps14
  go_wp2
  go_returns
  exact ⟨rfl, bt (ba _ _) (ba _ _)⟩
theorem refbase_any (it : Bool) : Calls Tryd.prog 25 #[.agg #[.int .i64 l, .int .i64 s0, .int .i64 s1, .bool w0, .bool w1, .int .i64 t], .int .i64 (bi it)] w fun e w' => e = .returned (.int .i64 (baseM (l, s0, w0, s1, w1, t) it)) ∧ Below w.heap.size w w' := by
  unfold baseM
  by_cases h : t = bi it
  · subst h
    have g : (bi it == bi it) = true := by simp
    generalize bi it = z at *
    go_enter Tryd.func25, Tryd.ntmps25
    go_wp2
    go_ret
    exact ⟨by simp, ba _ _⟩
  · have g : (t == bi it) = false := by simpa using h
    simp only [if_neg h]
    generalize bi it = z at *
    clear h
    go_enter Tryd.func25, Tryd.ntmps25
    go_wp2
    go_ret
    exact ⟨rfl, ba _ _⟩
set_option maxHeartbeats 1000000 in
theorem shape_f (one : Int) (wt : Bool) (other least : Int) : Calls Tryd.prog 24 #[.agg #[.int .i64 l, .int .i64 s0, .int .i64 s1, .bool w0, .bool w1, .int .i64 t], .int .i64 0, .int .i64 one, .bool wt, .int .i64 other, .int .i64 least] w fun e w' => e = .returned (.bool (shapeM (l, s0, w0, s1, w1, t) false one wt other least)) ∧ Below w.heap.size w w' := by
  have hs : shapeM (l, s0, w0, s1, w1, t) false one wt other least = (s0 == one && (w0 == wt && (s1 == other && (!w1 && decide (least ≤ l))))) := rfl
  rw [hs]
  clear hs
  rcases h1 : (s0 == one) with _ | _
  · simp only [Bool.false_and]
    go_enter Tryd.func24, Tryd.ntmps24
    go_wp2
    go_ret
    exact ⟨rfl, ba _ _⟩
  rcases h2 : (w0 == wt) with _ | _
  · simp only [Bool.false_and, Bool.and_false]
    go_enter Tryd.func24, Tryd.ntmps24
    go_wp2
    go_ret
    exact ⟨rfl, ba _ _⟩
  rcases h3 : (s1 == other) with _ | _
  · simp only [Bool.false_and, Bool.and_false]
    go_enter Tryd.func24, Tryd.ntmps24
    go_wp2
    go_ret
    exact ⟨rfl, ba _ _⟩
  cases w1
  · rcases h5 : decide (least ≤ l) with _ | _
    all_goals
      go_enter Tryd.func24, Tryd.ntmps24
      go_wp2
      go_ret
      exact ⟨rfl, ba _ _⟩
  · simp only [Bool.not_true, Bool.false_and, Bool.and_false]
    go_enter Tryd.func24, Tryd.ntmps24
    go_wp2
    go_ret
    exact ⟨rfl, ba _ _⟩

set_option maxHeartbeats 1000000 in
theorem shape_t (one : Int) (wt : Bool) (other least : Int) : Calls Tryd.prog 24 #[.agg #[.int .i64 l, .int .i64 s0, .int .i64 s1, .bool w0, .bool w1, .int .i64 t], .int .i64 1, .int .i64 one, .bool wt, .int .i64 other, .int .i64 least] w fun e w' => e = .returned (.bool (shapeM (l, s0, w0, s1, w1, t) true one wt other least)) ∧ Below w.heap.size w w' := by
  have hs : shapeM (l, s0, w0, s1, w1, t) true one wt other least = (s1 == one && (w1 == wt && (s0 == other && (!w0 && decide (least ≤ l))))) := rfl
  rw [hs]
  clear hs
  rcases h1 : (s1 == one) with _ | _
  · simp only [Bool.false_and]
    go_enter Tryd.func24, Tryd.ntmps24
    go_wp2
    go_ret
    exact ⟨rfl, ba _ _⟩
  rcases h2 : (w1 == wt) with _ | _
  · simp only [Bool.false_and, Bool.and_false]
    go_enter Tryd.func24, Tryd.ntmps24
    go_wp2
    go_ret
    exact ⟨rfl, ba _ _⟩
  rcases h3 : (s0 == other) with _ | _
  · simp only [Bool.false_and, Bool.and_false]
    go_enter Tryd.func24, Tryd.ntmps24
    go_wp2
    go_ret
    exact ⟨rfl, ba _ _⟩
  cases w0
  · rcases h5 : decide (least ≤ l) with _ | _
    all_goals
      go_enter Tryd.func24, Tryd.ntmps24
      go_wp2
      go_ret
      exact ⟨rfl, ba _ _⟩
  · simp only [Bool.not_true, Bool.false_and, Bool.and_false]
    go_enter Tryd.func24, Tryd.ntmps24
    go_wp2
    go_ret
    exact ⟨rfl, ba _ _⟩

theorem shape_any (i : Bool) (one : Int) (wt : Bool) (other least : Int) : Calls Tryd.prog 24 #[.agg #[.int .i64 l, .int .i64 s0, .int .i64 s1, .bool w0, .bool w1, .int .i64 t], .int .i64 (bi i), .int .i64 one, .bool wt, .int .i64 other, .int .i64 least] w fun e w' => e = .returned (.bool (shapeM (l, s0, w0, s1, w1, t) i one wt other least)) ∧ Below w.heap.size w w' := by
  cases i
  · exact shape_f l s0 w0 s1 w1 t w one wt other least
  · exact shape_t l s0 w0 s1 w1 t w one wt other least
end
set_option maxHeartbeats 800000 in
theorem refnew_any (n : Int) (w : World) : Calls Tryd.prog 12 #[.int .i64 n] w fun e w' => e = .returned (.tuple #[rv (newM n).1, .int .i64 (newM n).2]) ∧ Below w.heap.size w w' := by
  unfold newM
  by_cases h0 : n < 0
  · rw [if_neg (by omega)]
    have g0 : decide (n < 0) = true := decide_eq_true h0
    clear h0
    unfold rv
    go_enter Tryd.func12, Tryd.ntmps12
    go_wp2
    go_returns
    exact ⟨rfl, ba _ _⟩
  · by_cases h1 : n > 2
    · rw [if_neg (by omega)]
      have g0 : decide (n < 0) = false := decide_eq_false h0
      have g1 : decide (n > 2) = true := decide_eq_true h1
      have g2 : decide (2 < n) = true := g1
      clear h0 h1
      unfold rv
      go_enter Tryd.func12, Tryd.ntmps12
      go_wp2
      go_returns
      exact ⟨rfl, ba _ _⟩
    · rw [if_pos (by omega)]
      have g0 : decide (n < 0) = false := decide_eq_false h0
      have g1 : decide (n > 2) = false := decide_eq_false h1
      have g2 : decide (2 < n) = false := g1
      clear h0 h1
      unfold rv
      go_enter Tryd.func12, Tryd.ntmps12
      go_wp2
      go_returns
      exact ⟨rfl, ba _ _⟩
theorem eq30d (d : Nat) (a b a' b' : Int) (w : World) : (Op.equalIn (d + 1 + 1) 30 (.agg #[.int .i64 a, .int .i64 b]) (.agg #[.int .i64 a', .int .i64 b'])).run Tryd.prog w = .ok (a == a' && b == b') w := by
  obtain ⟨i, hi⟩ : ∃ i, Tryd.prog.info? 3 = some i := Option.isSome_iff_exists.1 (by kernel_rfl)
  rw [run_equalIn_array w _ _ _ Tryd.underlying30 hi]
  have hc : Tryd.prog.cellsOf 3 = 1 := by kernel_rfl
  rw [hc]
  cases h1 : a == a' <;> cases h2 : b == b' <;> simp [Op.eqItems, List.range, List.range.loop, go_sem, h1, h2]
theorem eq31d (d : Nat) (a b a' b' : Bool) (w : World) : (Op.equalIn (d + 1 + 1) 31 (.agg #[.bool a, .bool b]) (.agg #[.bool a', .bool b'])).run Tryd.prog w = .ok (a == a' && b == b') w := by
  obtain ⟨i, hi⟩ : ∃ i, Tryd.prog.info? 4 = some i := Option.isSome_iff_exists.1 (by kernel_rfl)
  rw [run_equalIn_array w _ _ _ Tryd.underlying31 hi]
  have hc : Tryd.prog.cellsOf 4 = 1 := by kernel_rfl
  rw [hc]
  cases h1 : a == a' <;> cases h2 : b == b' <;> simp [Op.eqItems, List.range, List.range.loop, go_sem, h1, h2]
theorem eqR (l a b : Int) (x y : Bool) (t : Int) (w : World) : (binOp .eql 33 (.agg #[.int .i64 l, .int .i64 a, .int .i64 b, .bool x, .bool y, .int .i64 t]) (.agg #[.int .i64 l, .int .i64 a, .int .i64 b, .bool x, .bool y, .int .i64 t])).run Tryd.prog w = .ok (.bool true) w := by
  rw [run_eql_struct, run_equalIn_struct w 9999 33 _ _ (by kernel_rfl) (by kernel_rfl)]
  have hA := fun w => eq30d 9997 a b a b w
  have hB := fun w => eq31d 9997 x y x y w
  simp only [Nat.reduceAdd, beq_self_eq_true, Bool.and_self] at hA hB
  simp [Op.eqFields, Program.fieldsOf, Tryd.underlying33, go_sem, hA, hB]
end Go.Proofs.YtfhfbekphmnbgaaDoor
