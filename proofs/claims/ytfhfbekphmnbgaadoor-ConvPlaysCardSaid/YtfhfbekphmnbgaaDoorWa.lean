/- Layer 10: the document's Do where the side waits; of any conversation. -/
import Derived.Test.YtfhfbekphmnbgaaDoorVz
namespace Go.Proofs.YtfhfbekphmnbgaaDoor
open Go.RowKit
set_option linter.unusedVariables false
set_option linter.unusedSimpArgs false
set_option maxRecDepth 100000 in
set_option maxHeartbeats 4000000 in
theorem refdo_wait_f (l s0 : Int) (w1 : Bool) (s1 : Int) (t verb : Int) (w : World) (hrt : rightM (l, s0, true, s1, w1, t) = true) (h1 : 1 ≤ verb) (h2 : verb ≤ 13) : Calls Tryd.prog 18 #[.agg #[.int .i64 l, .int .i64 s0, .int .i64 s1, .bool true, .bool w1, .int .i64 t], .int .i64 0, .int .i64 verb] w fun e w' => e = .returned (.tuple #[rv zeroC, .int .i64 7]) ∧ Below w.heap.size w w' := by
  have hr := fun w => refright_any l s0 true s1 w1 t w
  have hrows := fun w => rows_any w
  rw [hrt] at hr
  rw [rows_all] at hrows
  have g3 : decide (verb < 1) = false := decide_eq_false (by omega)
  have g4 : decide (verb > 13) = false := decide_eq_false (by omega)
  have g5 : decide (13 < verb) = false := g4
  clear hrt h1 h2
  go_enter Tryd.func18, Tryd.ntmps18
  go_wp2_with fail
  refine (hr _).mono ?_
  rintro e wA ⟨rfl, hbA⟩
  have kb := Blk.below (g := w.heap.size) (t := 33) (cs := #[.int .i64 l, .int .i64 s0, .int .i64 s1, .bool true, .bool w1, .int .i64 t]) (by exact (Blk.new _ _ _).alloc _) hbA (by simp; omega)
  have kz := Blk.below (g := w.heap.size + 1) (t := 33) (cs := #[.int .i64 0, .int .i64 0, .int .i64 0, .bool false, .bool false, .int .i64 0]) (by exact Blk.new2 _ _ _ _) hbA (by simp)
  have hbA := bt (ba2 _ _ _) hbA
  go_wp2_with fail
  refine (hrows _).mono ?_
  rintro e wB ⟨v, rfl, hown, hb⟩
  obtain ⟨g, c, rfl, hrw⟩ := hown.at
  have kb0 := kb.below hb kb.lt
  have kz0 := kz.below hb kz.lt
  have hb0 := bt hbA hb
  clear kb kz hbA hb hown
  go_wp2_with fail
  go_loopw [9] (fun i wr => i = .int .i64 0 ∧ (Blk wr w.heap.size 33 #[.int .i64 l, .int .i64 s0, .int .i64 s1, .bool true, .bool w1, .int .i64 t] ∧ (Blk wr (w.heap.size + 1) 33 #[.int .i64 0, .int .i64 0, .int .i64 0, .bool false, .bool false, .int .i64 0] ∧ Below w.heap.size w wr))) (fun _ _ => 0)
  case atStart => exact ⟨rfl, kb0, kz0, hb0⟩
  case round =>
    obtain ⟨rfl, kb, kz, hbw⟩ := hrel
    clear kb0 kz0 hb0
    obtain ⟨c0, k0, c1, k1, c2, k2, c3, k3, c4, k4, c5, k5, r0, r1, r2, r3, r4, r5⟩ := kz.set6 (.int .i64 0) (.int .i64 0) (.int .i64 0) (.bool false) (.bool false) (.int .i64 0)
    have hbb := below_set6 (B := w.heap.size) (w := w) (g := w.heap.size + 1) hbw (by omega) (.int .i64 0) (.int .i64 0) (.int .i64 0) (.bool false) (.bool false) (.int .i64 0)
    have y0 := kb.cell 0
    have y1 := kb.cell 1
    have y2 := kb.cell 2
    have y3 := kb.cell 3
    have y4 := kb.cell 4
    have y5 := kb.cell 5
    simp only [List.getElem?_toArray, List.getElem?_cons_zero, List.getElem?_cons_succ] at y0 y1 y2 y3 y4 y5
    go_wp2
    refine bodyPost_ret (by simp [results, Tryd.results18, go_sem, r0, r1, r2, r3, r4, r5]; try rfl) rfl ?_
    exact ⟨rfl, hbb⟩
set_option maxRecDepth 100000 in
set_option maxHeartbeats 4000000 in
theorem refdo_wait_t (l s0 : Int) (w0 : Bool) (s1 : Int) (t verb : Int) (w : World) (hrt : rightM (l, s0, w0, s1, true, t) = true) (h1 : 1 ≤ verb) (h2 : verb ≤ 13) : Calls Tryd.prog 18 #[.agg #[.int .i64 l, .int .i64 s0, .int .i64 s1, .bool w0, .bool true, .int .i64 t], .int .i64 1, .int .i64 verb] w fun e w' => e = .returned (.tuple #[rv zeroC, .int .i64 7]) ∧ Below w.heap.size w w' := by
  have hr := fun w => refright_any l s0 w0 s1 true t w
  have hrows := fun w => rows_any w
  rw [hrt] at hr
  rw [rows_all] at hrows
  have g3 : decide (verb < 1) = false := decide_eq_false (by omega)
  have g4 : decide (verb > 13) = false := decide_eq_false (by omega)
  have g5 : decide (13 < verb) = false := g4
  clear hrt h1 h2
  go_enter Tryd.func18, Tryd.ntmps18
  go_wp2_with fail
  refine (hr _).mono ?_
  rintro e wA ⟨rfl, hbA⟩
  have kb := Blk.below (g := w.heap.size) (t := 33) (cs := #[.int .i64 l, .int .i64 s0, .int .i64 s1, .bool w0, .bool true, .int .i64 t]) (by exact (Blk.new _ _ _).alloc _) hbA (by simp; omega)
  have kz := Blk.below (g := w.heap.size + 1) (t := 33) (cs := #[.int .i64 0, .int .i64 0, .int .i64 0, .bool false, .bool false, .int .i64 0]) (by exact Blk.new2 _ _ _ _) hbA (by simp)
  have hbA := bt (ba2 _ _ _) hbA
  go_wp2_with fail
  refine (hrows _).mono ?_
  rintro e wB ⟨v, rfl, hown, hb⟩
  obtain ⟨g, c, rfl, hrw⟩ := hown.at
  have kb0 := kb.below hb kb.lt
  have kz0 := kz.below hb kz.lt
  have hb0 := bt hbA hb
  clear kb kz hbA hb hown
  go_wp2_with fail
  go_loopw [9] (fun i wr => i = .int .i64 0 ∧ (Blk wr w.heap.size 33 #[.int .i64 l, .int .i64 s0, .int .i64 s1, .bool w0, .bool true, .int .i64 t] ∧ (Blk wr (w.heap.size + 1) 33 #[.int .i64 0, .int .i64 0, .int .i64 0, .bool false, .bool false, .int .i64 0] ∧ Below w.heap.size w wr))) (fun _ _ => 0)
  case atStart => exact ⟨rfl, kb0, kz0, hb0⟩
  case round =>
    obtain ⟨rfl, kb, kz, hbw⟩ := hrel
    clear kb0 kz0 hb0
    obtain ⟨c0, k0, c1, k1, c2, k2, c3, k3, c4, k4, c5, k5, r0, r1, r2, r3, r4, r5⟩ := kz.set6 (.int .i64 0) (.int .i64 0) (.int .i64 0) (.bool false) (.bool false) (.int .i64 0)
    have hbb := below_set6 (B := w.heap.size) (w := w) (g := w.heap.size + 1) hbw (by omega) (.int .i64 0) (.int .i64 0) (.int .i64 0) (.bool false) (.bool false) (.int .i64 0)
    have y0 := kb.cell 0
    have y1 := kb.cell 1
    have y2 := kb.cell 2
    have y3 := kb.cell 3
    have y4 := kb.cell 4
    have y5 := kb.cell 5
    simp only [List.getElem?_toArray, List.getElem?_cons_zero, List.getElem?_cons_succ] at y0 y1 y2 y3 y4 y5
    go_wp2
    refine bodyPost_ret (by simp [results, Tryd.results18, go_sem, r0, r1, r2, r3, r4, r5]; try rfl) rfl ?_
    exact ⟨rfl, hbb⟩
end Go.Proofs.YtfhfbekphmnbgaaDoor
