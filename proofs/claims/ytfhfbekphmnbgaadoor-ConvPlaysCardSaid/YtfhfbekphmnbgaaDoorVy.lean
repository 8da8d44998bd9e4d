/- Layer 10: the document's Do where it refuses. -/
import Derived.Test.YtfhfbekphmnbgaaDoorVt
import Derived.Test.YtfhfbekphmnbgaaDoorVj
namespace Go.Proofs.YtfhfbekphmnbgaaDoor
open Go.RowKit
set_option linter.unusedVariables false
set_option linter.unusedSimpArgs false

section
variable (l s0 : Int) (w0 : Bool) (s1 : Int) (w1 : Bool) (t : Int)
set_option maxHeartbeats 2000000 in
theorem refdo_bad (side verb : Int) (w : World) (hbad : (rightM (l, s0, w0, s1, w1, t) && sdM side) = false) : Calls Tryd.prog 18 #[.agg #[.int .i64 l, .int .i64 s0, .int .i64 s1, .bool w0, .bool w1, .int .i64 t], .int .i64 side, .int .i64 verb] w fun e w' => e = .returned (.tuple #[rv (doM (l, s0, w0, s1, w1, t) side verb).1, .int .i64 (doM (l, s0, w0, s1, w1, t) side verb).2]) ∧ Below w.heap.size w w' := by
  have hd : doM (l, s0, w0, s1, w1, t) side verb = (zeroC, 1) := if_neg (by rw [hbad]; exact Bool.false_ne_true)
  rw [hd]
  clear hd
  have hr := fun w => refright_any l s0 w0 s1 w1 t w
  rcases hR : rightM (l, s0, w0, s1, w1, t) with _ | _
  · rw [hR] at hr
    clear hbad hR
    simp only [rv, zeroC] at *
    go_enter Tryd.func18, Tryd.ntmps18
    go_wp2_with fail
    refine (hr _).mono ?_
    rintro e wA ⟨rfl, hbA⟩
    have kb := Blk.below (g := w.heap.size) (t := 33) (cs := #[.int .i64 l, .int .i64 s0, .int .i64 s1, .bool w0, .bool w1, .int .i64 t]) (by exact (Blk.new _ _ _).alloc _) hbA (by simp; omega)
    have kz := Blk.below (g := w.heap.size + 1) (t := 33) (cs := #[.int .i64 0, .int .i64 0, .int .i64 0, .bool false, .bool false, .int .i64 0]) (by exact Blk.new2 _ _ _ _) hbA (by simp)
    have hbA := bt (ba2 _ _ _) hbA
    obtain ⟨c0, f0, c1, f1, c2, f2, c3, f3, c4, f4, c5, f5, r0, r1, r2, r3, r4, r5⟩ := kz.set6 (.int .i64 0) (.int .i64 0) (.int .i64 0) (.bool false) (.bool false) (.int .i64 0)
    have hbb := below_set6 (B := w.heap.size) (w := w) (g := w.heap.size + 1) hbA (by omega) (.int .i64 0) (.int .i64 0) (.int .i64 0) (.bool false) (.bool false) (.int .i64 0)
    go_wp2
    refine bodyPost_ret (by simp [results, Tryd.results18, go_sem, r0, r1, r2, r3, r4, r5]; try rfl) rfl ?_
    exact ⟨rfl, hbb⟩
  · rw [hR] at hr hbad
    have hS : sdM side = false := by simpa using hbad
    have hsd : ¬ side = 0 ∧ ¬ side = 1 := by simpa [sdM] using hS
    clear hbad hR hS
    by_cases h0 : side < 0
    · have g0 : decide (side < 0) = true := decide_eq_true h0
      clear hsd h0
      simp only [rv, zeroC] at *
      go_enter Tryd.func18, Tryd.ntmps18
      go_wp2_with fail
      refine (hr _).mono ?_
      rintro e wA ⟨rfl, hbA⟩
      have kb := Blk.below (g := w.heap.size) (t := 33) (cs := #[.int .i64 l, .int .i64 s0, .int .i64 s1, .bool w0, .bool w1, .int .i64 t]) (by exact (Blk.new _ _ _).alloc _) hbA (by simp; omega)
      have kz := Blk.below (g := w.heap.size + 1) (t := 33) (cs := #[.int .i64 0, .int .i64 0, .int .i64 0, .bool false, .bool false, .int .i64 0]) (by exact Blk.new2 _ _ _ _) hbA (by simp)
      have hbA := bt (ba2 _ _ _) hbA
      obtain ⟨c0, f0, c1, f1, c2, f2, c3, f3, c4, f4, c5, f5, r0, r1, r2, r3, r4, r5⟩ := kz.set6 (.int .i64 0) (.int .i64 0) (.int .i64 0) (.bool false) (.bool false) (.int .i64 0)
      have hbb := below_set6 (B := w.heap.size) (w := w) (g := w.heap.size + 1) hbA (by omega) (.int .i64 0) (.int .i64 0) (.int .i64 0) (.bool false) (.bool false) (.int .i64 0)
      go_wp2
      refine bodyPost_ret (by simp [results, Tryd.results18, go_sem, r0, r1, r2, r3, r4, r5]; try rfl) rfl ?_
      exact ⟨rfl, hbb⟩
    · have g0 : decide (side < 0) = false := decide_eq_false h0
      have g1 : decide (side > 1) = true := decide_eq_true (by omega)
      have g2 : decide (1 < side) = true := g1
      clear hsd h0
      simp only [rv, zeroC] at *
      go_enter Tryd.func18, Tryd.ntmps18
      go_wp2_with fail
      refine (hr _).mono ?_
      rintro e wA ⟨rfl, hbA⟩
      have kb := Blk.below (g := w.heap.size) (t := 33) (cs := #[.int .i64 l, .int .i64 s0, .int .i64 s1, .bool w0, .bool w1, .int .i64 t]) (by exact (Blk.new _ _ _).alloc _) hbA (by simp; omega)
      have kz := Blk.below (g := w.heap.size + 1) (t := 33) (cs := #[.int .i64 0, .int .i64 0, .int .i64 0, .bool false, .bool false, .int .i64 0]) (by exact Blk.new2 _ _ _ _) hbA (by simp)
      have hbA := bt (ba2 _ _ _) hbA
      obtain ⟨c0, f0, c1, f1, c2, f2, c3, f3, c4, f4, c5, f5, r0, r1, r2, r3, r4, r5⟩ := kz.set6 (.int .i64 0) (.int .i64 0) (.int .i64 0) (.bool false) (.bool false) (.int .i64 0)
      have hbb := below_set6 (B := w.heap.size) (w := w) (g := w.heap.size + 1) hbA (by omega) (.int .i64 0) (.int .i64 0) (.int .i64 0) (.bool false) (.bool false) (.int .i64 0)
      go_wp2
      refine bodyPost_ret (by simp [results, Tryd.results18, go_sem, r0, r1, r2, r3, r4, r5]; try rfl) rfl ?_
      exact ⟨rfl, hbb⟩

set_option maxHeartbeats 2000000 in
theorem refdo_verb (side verb : Int) (w : World) (hrt : rightM (l, s0, w0, s1, w1, t) = true) (hs : sdM side = true) (hv : ¬ (1 ≤ verb ∧ verb ≤ 13)) : Calls Tryd.prog 18 #[.agg #[.int .i64 l, .int .i64 s0, .int .i64 s1, .bool w0, .bool w1, .int .i64 t], .int .i64 side, .int .i64 verb] w fun e w' => e = .returned (.tuple #[rv (doM (l, s0, w0, s1, w1, t) side verb).1, .int .i64 (doM (l, s0, w0, s1, w1, t) side verb).2]) ∧ Below w.heap.size w w' := by
  have hd : doM (l, s0, w0, s1, w1, t) side verb = (zeroC, 100) := by
    unfold doM
    rw [if_pos (by rw [hrt, hs]; rfl), if_neg hv]
  rw [hd]
  clear hd
  have hr := fun w => refright_any l s0 w0 s1 w1 t w
  rw [hrt] at hr
  have hsd : side = 0 ∨ side = 1 := by simpa [sdM] using hs
  have g0 : decide (side < 0) = false := decide_eq_false (by omega)
  have g1 : decide (side > 1) = false := decide_eq_false (by omega)
  have g2 : decide (1 < side) = false := g1
  clear hrt hs hsd
  simp only [rv, zeroC] at *
  by_cases h1 : verb < 1
  · have g3 : decide (verb < 1) = true := decide_eq_true h1
    clear hv h1
    go_enter Tryd.func18, Tryd.ntmps18
    go_wp2_with fail
    refine (hr _).mono ?_
    rintro e wA ⟨rfl, hbA⟩
    have kb := Blk.below (g := w.heap.size) (t := 33) (cs := #[.int .i64 l, .int .i64 s0, .int .i64 s1, .bool w0, .bool w1, .int .i64 t]) (by exact (Blk.new _ _ _).alloc _) hbA (by simp; omega)
    have kz := Blk.below (g := w.heap.size + 1) (t := 33) (cs := #[.int .i64 0, .int .i64 0, .int .i64 0, .bool false, .bool false, .int .i64 0]) (by exact Blk.new2 _ _ _ _) hbA (by simp)
    have hbA := bt (ba2 _ _ _) hbA
    obtain ⟨c0, f0, c1, f1, c2, f2, c3, f3, c4, f4, c5, f5, r0, r1, r2, r3, r4, r5⟩ := kz.set6 (.int .i64 0) (.int .i64 0) (.int .i64 0) (.bool false) (.bool false) (.int .i64 0)
    have hbb := below_set6 (B := w.heap.size) (w := w) (g := w.heap.size + 1) hbA (by omega) (.int .i64 0) (.int .i64 0) (.int .i64 0) (.bool false) (.bool false) (.int .i64 0)
    go_wp2
    refine bodyPost_ret (by simp [results, Tryd.results18, go_sem, r0, r1, r2, r3, r4, r5]; try rfl) rfl ?_
    exact ⟨rfl, hbb⟩
  · have g3 : decide (verb < 1) = false := decide_eq_false h1
    have g4 : decide (verb > 13) = true := decide_eq_true (by omega)
    have g5 : decide (13 < verb) = true := g4
    clear hv h1
    go_enter Tryd.func18, Tryd.ntmps18
    go_wp2_with fail
    refine (hr _).mono ?_
    rintro e wA ⟨rfl, hbA⟩
    have kb := Blk.below (g := w.heap.size) (t := 33) (cs := #[.int .i64 l, .int .i64 s0, .int .i64 s1, .bool w0, .bool w1, .int .i64 t]) (by exact (Blk.new _ _ _).alloc _) hbA (by simp; omega)
    have kz := Blk.below (g := w.heap.size + 1) (t := 33) (cs := #[.int .i64 0, .int .i64 0, .int .i64 0, .bool false, .bool false, .int .i64 0]) (by exact Blk.new2 _ _ _ _) hbA (by simp)
    have hbA := bt (ba2 _ _ _) hbA
    obtain ⟨c0, f0, c1, f1, c2, f2, c3, f3, c4, f4, c5, f5, r0, r1, r2, r3, r4, r5⟩ := kz.set6 (.int .i64 0) (.int .i64 0) (.int .i64 0) (.bool false) (.bool false) (.int .i64 0)
    have hbb := below_set6 (B := w.heap.size) (w := w) (g := w.heap.size + 1) hbA (by omega) (.int .i64 0) (.int .i64 0) (.int .i64 0) (.bool false) (.bool false) (.int .i64 0)
    go_wp2
    refine bodyPost_ret (by simp [results, Tryd.results18, go_sem, r0, r1, r2, r3, r4, r5]; try rfl) rfl ?_
    exact ⟨rfl, hbb⟩
end
end Go.Proofs.YtfhfbekphmnbgaaDoor
