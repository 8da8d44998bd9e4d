/- Layer 10: the program's functions on a side that is known. -/
import Derived.Test.YtfhfbekphmnbgaaDoorVa
namespace Go.Proofs.YtfhfbekphmnbgaaDoor
open Go.RowKit
set_option linter.unusedVariables false
set_option linter.unusedSimpArgs false

theorem Blk.set6 {w : World} {g : Nat} {T : TypeId} {x0 x1 x2 x3 x4 x5 : Value} (h : Blk w g T #[x0, x1, x2, x3, x4, x5]) (y0 y1 y2 y3 y4 y5 : Value) :
    w.cell? ⟨g, 0, none⟩ = some x0 ∧
    w.frozen? ⟨g, 0, none⟩ = false ∧
    (w.setCell ⟨g, 0, none⟩ y0).cell? ⟨g, 1, none⟩ = some x1 ∧
    (w.setCell ⟨g, 0, none⟩ y0).frozen? ⟨g, 1, none⟩ = false ∧
    ((w.setCell ⟨g, 0, none⟩ y0).setCell ⟨g, 1, none⟩ y1).cell? ⟨g, 2, none⟩ = some x2 ∧
    ((w.setCell ⟨g, 0, none⟩ y0).setCell ⟨g, 1, none⟩ y1).frozen? ⟨g, 2, none⟩ = false ∧
    (((w.setCell ⟨g, 0, none⟩ y0).setCell ⟨g, 1, none⟩ y1).setCell ⟨g, 2, none⟩ y2).cell? ⟨g, 3, none⟩ = some x3 ∧
    (((w.setCell ⟨g, 0, none⟩ y0).setCell ⟨g, 1, none⟩ y1).setCell ⟨g, 2, none⟩ y2).frozen? ⟨g, 3, none⟩ = false ∧
    ((((w.setCell ⟨g, 0, none⟩ y0).setCell ⟨g, 1, none⟩ y1).setCell ⟨g, 2, none⟩ y2).setCell ⟨g, 3, none⟩ y3).cell? ⟨g, 4, none⟩ = some x4 ∧
    ((((w.setCell ⟨g, 0, none⟩ y0).setCell ⟨g, 1, none⟩ y1).setCell ⟨g, 2, none⟩ y2).setCell ⟨g, 3, none⟩ y3).frozen? ⟨g, 4, none⟩ = false ∧
    (((((w.setCell ⟨g, 0, none⟩ y0).setCell ⟨g, 1, none⟩ y1).setCell ⟨g, 2, none⟩ y2).setCell ⟨g, 3, none⟩ y3).setCell ⟨g, 4, none⟩ y4).cell? ⟨g, 5, none⟩ = some x5 ∧
    (((((w.setCell ⟨g, 0, none⟩ y0).setCell ⟨g, 1, none⟩ y1).setCell ⟨g, 2, none⟩ y2).setCell ⟨g, 3, none⟩ y3).setCell ⟨g, 4, none⟩ y4).frozen? ⟨g, 5, none⟩ = false ∧
    ((((((w.setCell ⟨g, 0, none⟩ y0).setCell ⟨g, 1, none⟩ y1).setCell ⟨g, 2, none⟩ y2).setCell ⟨g, 3, none⟩ y3).setCell ⟨g, 4, none⟩ y4).setCell ⟨g, 5, none⟩ y5).cell? ⟨g, 0, none⟩ = some y0 ∧
    ((((((w.setCell ⟨g, 0, none⟩ y0).setCell ⟨g, 1, none⟩ y1).setCell ⟨g, 2, none⟩ y2).setCell ⟨g, 3, none⟩ y3).setCell ⟨g, 4, none⟩ y4).setCell ⟨g, 5, none⟩ y5).cell? ⟨g, 1, none⟩ = some y1 ∧
    ((((((w.setCell ⟨g, 0, none⟩ y0).setCell ⟨g, 1, none⟩ y1).setCell ⟨g, 2, none⟩ y2).setCell ⟨g, 3, none⟩ y3).setCell ⟨g, 4, none⟩ y4).setCell ⟨g, 5, none⟩ y5).cell? ⟨g, 2, none⟩ = some y2 ∧
    ((((((w.setCell ⟨g, 0, none⟩ y0).setCell ⟨g, 1, none⟩ y1).setCell ⟨g, 2, none⟩ y2).setCell ⟨g, 3, none⟩ y3).setCell ⟨g, 4, none⟩ y4).setCell ⟨g, 5, none⟩ y5).cell? ⟨g, 3, none⟩ = some y3 ∧
    ((((((w.setCell ⟨g, 0, none⟩ y0).setCell ⟨g, 1, none⟩ y1).setCell ⟨g, 2, none⟩ y2).setCell ⟨g, 3, none⟩ y3).setCell ⟨g, 4, none⟩ y4).setCell ⟨g, 5, none⟩ y5).cell? ⟨g, 4, none⟩ = some y4 ∧
    ((((((w.setCell ⟨g, 0, none⟩ y0).setCell ⟨g, 1, none⟩ y1).setCell ⟨g, 2, none⟩ y2).setCell ⟨g, 3, none⟩ y3).setCell ⟨g, 4, none⟩ y4).setCell ⟨g, 5, none⟩ y5).cell? ⟨g, 5, none⟩ = some y5 := by
  have k1 : Blk (w.setCell ⟨g, 0, none⟩ y0) g T #[y0, x1, x2, x3, x4, x5] := by simpa using h.set_ 0 y0
  have k2 : Blk ((w.setCell ⟨g, 0, none⟩ y0).setCell ⟨g, 1, none⟩ y1) g T #[y0, y1, x2, x3, x4, x5] := by simpa using k1.set_ 1 y1
  have k3 : Blk (((w.setCell ⟨g, 0, none⟩ y0).setCell ⟨g, 1, none⟩ y1).setCell ⟨g, 2, none⟩ y2) g T #[y0, y1, y2, x3, x4, x5] := by simpa using k2.set_ 2 y2
  have k4 : Blk ((((w.setCell ⟨g, 0, none⟩ y0).setCell ⟨g, 1, none⟩ y1).setCell ⟨g, 2, none⟩ y2).setCell ⟨g, 3, none⟩ y3) g T #[y0, y1, y2, y3, x4, x5] := by simpa using k3.set_ 3 y3
  have k5 : Blk (((((w.setCell ⟨g, 0, none⟩ y0).setCell ⟨g, 1, none⟩ y1).setCell ⟨g, 2, none⟩ y2).setCell ⟨g, 3, none⟩ y3).setCell ⟨g, 4, none⟩ y4) g T #[y0, y1, y2, y3, y4, x5] := by simpa using k4.set_ 4 y4
  have k6 : Blk ((((((w.setCell ⟨g, 0, none⟩ y0).setCell ⟨g, 1, none⟩ y1).setCell ⟨g, 2, none⟩ y2).setCell ⟨g, 3, none⟩ y3).setCell ⟨g, 4, none⟩ y4).setCell ⟨g, 5, none⟩ y5) g T #[y0, y1, y2, y3, y4, y5] := by simpa using k5.set_ 5 y5
  exact ⟨by simpa using h.cell 0, h.frozen 0, by simpa using k1.cell 1, k1.frozen 1, by simpa using k2.cell 2, k2.frozen 2, by simpa using k3.cell 3, k3.frozen 3, by simpa using k4.cell 4, k4.frozen 4, by simpa using k5.cell 5, k5.frozen 5, by simpa using k6.cell 0, by simpa using k6.cell 1, by simpa using k6.cell 2, by simpa using k6.cell 3, by simpa using k6.cell 4, by simpa using k6.cell 5⟩
theorem below_set6 {w w' : World} {B g : Nat} (h : Below B w w') (hg : B ≤ g) (y0 y1 y2 y3 y4 y5 : Value) : Below B w ((((((w'.setCell ⟨g, 0, none⟩ y0).setCell ⟨g, 1, none⟩ y1).setCell ⟨g, 2, none⟩ y2).setCell ⟨g, 3, none⟩ y3).setCell ⟨g, 4, none⟩ y4).setCell ⟨g, 5, none⟩ y5) :=
  (((((h.setCell hg _).setCell hg _).setCell hg _).setCell hg _).setCell hg _).setCell hg _

section
variable (l s0 : Int) (w0 : Bool) (s1 : Int) (w1 : Bool) (t : Int) (w : World)
set_option maxHeartbeats 800000 in
theorem speak_any (it : Bool) : Calls Tryd.prog 21 #[cv (l, s0, w0, s1, w1, t), .int .i64 (bi it)] w fun e w' => e = .returned (cv (speakM (l, s0, w0, s1, w1, t) it)) ∧ Below w.heap.size w w' := by
  have ho := fun w => other_any it w
  unfold cv speakM
  cases it
  all_goals
    simp only [bi, Bool.not_true, Bool.not_false, if_true, if_false, Bool.false_eq_true] at *
    go_enter Tryd.func21, Tryd.ntmps21
    go_wp2_with fail
    refine (ho _).mono ?_
    rintro e wA ⟨rfl, rfl⟩
    go_wp2
    go_returns
    exact ⟨rfl, bt (ba _ _) (ba _ _)⟩
set_option maxHeartbeats 800000 in
theorem ask_any (it : Bool) (o : Int) : Calls Tryd.prog 33 #[cv (l, s0, w0, s1, w1, t), .int .i64 (bi it), .int .i64 o] w fun e w' => e = .returned (cv (askM (l, s0, w0, s1, w1, t) it o)) ∧ Below w.heap.size w w' := by
  have ho := fun w => other_any it w
  unfold cv askM
  cases it
  all_goals
    simp only [bi, Bool.not_true, Bool.not_false, if_true, if_false, Bool.false_eq_true] at *
    go_enter Tryd.func33, Tryd.ntmps33
    go_wp2_with fail
    refine (ho _).mono ?_
    rintro e wA ⟨rfl, rfl⟩
    go_wp2
    go_returns
    exact ⟨rfl, bt (ba _ _) (ba _ _)⟩
end
def newM (n : Int) : (Int × Int × Bool × Int × Bool × Int) × Int := if 0 ≤ n ∧ n ≤ 2 then ((n, 1, false, 2, false, 0), 0) else ((0, 0, false, 0, false, 0), 1)
set_option maxHeartbeats 800000 in
theorem new_any (n : Int) (w : World) : Calls Tryd.prog 11 #[.int .i64 n] w fun e w' => e = .returned (.tuple #[cv (newM n).1, .int .i64 (newM n).2]) ∧ Below w.heap.size w w' := by
  have hl := fun w => isLevel_any n w
  have hs := fun w => speak_any n 0 false 0 false 0 w false
  unfold newM
  rcases h : (decide (0 ≤ n) && decide (n ≤ 2)) with _ | _
  · rw [if_neg (by simpa using h)]
    rw [h] at hl
    clear h
    unfold cv
    go_enter Tryd.func11, Tryd.ntmps11
    go_wp2_with fail
    refine (hl _).mono ?_
    rintro e wA ⟨rfl, rfl⟩
    go_wp2
    go_returns
    exact ⟨rfl, ba _ _⟩
  · rw [if_pos (by simpa using h)]
    rw [h] at hl
    clear h
    unfold cv speakM bi at *
    simp only [Bool.false_eq_true, if_false] at hs
    go_enter Tryd.func11, Tryd.ntmps11
    go_wp2_with fail
    refine (hl _).mono ?_
    rintro e wA ⟨rfl, rfl⟩
    go_wp2_with fail
    refine (hs _).mono ?_
    rintro e wA ⟨rfl, hb⟩
    obtain ⟨c0, f0, c1, f1, c2, f2, c3, f3, c4, f4, c5, f5, r0, r1, r2, r3, r4, r5⟩ := ((Blk.new w 26 #[.int .i64 0, .int .i64 0, .bool false, .int .i64 0, .bool false, .int .i64 0]).below hb (by simp)).set6 (.int .i64 n) (.int .i64 1) (.bool false) (.int .i64 2) (.bool false) (.int .i64 0)
    have hbb := below_set6 (bt (ba _ _) hb) (Nat.le_refl _) (.int .i64 n) (.int .i64 1) (.bool false) (.int .i64 2) (.bool false) (.int .i64 0)
    go_wp2
    refine bodyPost_ret (by simp [results, Tryd.results11, go_sem, r0, r1, r2, r3, r4, r5]; try rfl) rfl ?_
    exact ⟨rfl, hbb⟩
end Go.Proofs.YtfhfbekphmnbgaaDoor
