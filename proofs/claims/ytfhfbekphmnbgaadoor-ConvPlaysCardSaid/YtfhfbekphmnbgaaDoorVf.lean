/- Layer 10: what comes of a verb that may be said. -/
import Derived.Test.YtfhfbekphmnbgaaDoorVe
namespace Go.Proofs.YtfhfbekphmnbgaaDoor
open Go.RowKit
set_option linter.unusedVariables false
set_option linter.unusedSimpArgs false

def actM (c : Int × Int × Bool × Int × Bool × Int) (it : Bool) (v : Int) : Int × Int × Bool × Int × Bool × Int :=
  if v = 2 then speakM c (!it) else if v = 3 then askM c it 3 else if v = 4 then askM c it 4 else if v = 5 then askM c it 5 else if v = 6 then agreeM c it
  else if v = 7 then speakM c it else if v = 8 then endM c else if v = 9 then endM c else if v = 10 then syncM c it else if v = 11 then setS c it 10 else if v = 12 then setS c it 11
  else if v = 13 then backM c it (match c with | (_, _, _, _, _, t) => decide (t = 1)) else c

section
variable (l s0 : Int) (w0 : Bool) (s1 : Int) (w1 : Bool) (t : Int) (w : World)
set_option maxHeartbeats 2000000 in
theorem act_1f : Calls Tryd.prog 27 #[cv (l, s0, w0, s1, w1, t), .int .i64 0, .int .i64 1] w fun e w' => e = .returned (cv (actM (l, s0, w0, s1, w1, t) false 1)) ∧ Below w.heap.size w w' := by
  · have hact : actM (l, s0, w0, s1, w1, t) false 1 = (l, s0, w0, s1, w1, t) := rfl
    rw [hact]
    clear hact
    simp only [cv, speakM, askM, endM, setT, setS, bi, Bool.not_true, Bool.not_false, if_true, if_false, Bool.false_eq_true] at *
    go_enter Tryd.func27, Tryd.ntmps27
    go_wp2
    go_returns
    exact ⟨rfl, ba2 _ _ _⟩
set_option maxHeartbeats 2000000 in
theorem act_2f : Calls Tryd.prog 27 #[cv (l, s0, w0, s1, w1, t), .int .i64 0, .int .i64 2] w fun e w' => e = .returned (cv (actM (l, s0, w0, s1, w1, t) false 2)) ∧ Below w.heap.size w w' := by
  · have hact : actM (l, s0, w0, s1, w1, t) false 2 = speakM (l, s0, w0, s1, w1, t) true := rfl
    rw [hact]
    clear hact
    have ho := fun w => other_any false w
    have hs := fun w => speak_any l s0 w0 s1 w1 t w true
    simp only [cv, speakM, askM, endM, setT, setS, bi, Bool.not_true, Bool.not_false, if_true, if_false, Bool.false_eq_true] at *
    go_enter Tryd.func27, Tryd.ntmps27
    go_wp2_with fail
    go_region_with (first
      | (go_at_call 30; refine (ho _).mono ?_; rintro e wB ⟨rfl, rfl⟩)
      | (go_at_call 21; refine (hs _).mono ?_; rintro e wA ⟨rfl, hb⟩; (have kz := Blk.below (g := w.heap.size + 1) (t := 26) (cs := #[.int .i64 0, .int .i64 0, .bool false, .int .i64 0, .bool false, .int .i64 0]) (by exact Blk.new2 _ _ _ _) hb (by simp); obtain ⟨c0, f0, c1, f1, c2, f2, c3, f3, c4, f4, c5, f5, r0, r1, r2, r3, r4, r5⟩ := kz.set6 (.int .i64 l) (.int .i64 2) (.bool false) (.int .i64 1) (.bool false) (.int .i64 t); have hbb := below_set6 (B := w.heap.size) (w := w) (g := w.heap.size + 1) (by first | exact bt (ba2 _ _ _) hb | exact bt (bt (ba2 _ _ _) (bdr _)) hb) (by omega) (.int .i64 l) (.int .i64 2) (.bool false) (.int .i64 1) (.bool false) (.int .i64 t); clear kz)))
    all_goals
      go_wp2
      refine bodyPost_ret (by simp [results, Tryd.results27, go_sem, r0, r1, r2, r3, r4, r5]; try rfl) rfl ?_
      exact ⟨rfl, hbb⟩
set_option maxHeartbeats 2000000 in
theorem act_3f : Calls Tryd.prog 27 #[cv (l, s0, w0, s1, w1, t), .int .i64 0, .int .i64 3] w fun e w' => e = .returned (cv (actM (l, s0, w0, s1, w1, t) false 3)) ∧ Below w.heap.size w w' := by
  · have hact : actM (l, s0, w0, s1, w1, t) false 3 = askM (l, s0, w0, s1, w1, t) false 3 := rfl
    rw [hact]
    clear hact
    have hs := fun o w => ask_any l s0 w0 s1 w1 t w false o
    simp only [cv, speakM, askM, endM, setT, setS, bi, Bool.not_true, Bool.not_false, if_true, if_false, Bool.false_eq_true] at *
    go_enter Tryd.func27, Tryd.ntmps27
    go_wp2_with fail
    refine (hs _ _).mono ?_
    rintro e wA ⟨rfl, hb⟩
    have kz := Blk.below (g := w.heap.size + 1) (t := 26) (cs := #[.int .i64 0, .int .i64 0, .bool false, .int .i64 0, .bool false, .int .i64 0]) (by exact Blk.new2 _ _ _ _) hb (by simp)
    obtain ⟨c0, f0, c1, f1, c2, f2, c3, f3, c4, f4, c5, f5, r0, r1, r2, r3, r4, r5⟩ := kz.set6 (.int .i64 l) (.int .i64 s0) (.bool true) (.int .i64 3) (.bool false) (.int .i64 t)
    have hbb := below_set6 (B := w.heap.size) (w := w) (g := w.heap.size + 1) (by first | exact bt (ba2 _ _ _) hb | exact bt (bt (ba2 _ _ _) (bdr _)) hb) (by omega) (.int .i64 l) (.int .i64 s0) (.bool true) (.int .i64 3) (.bool false) (.int .i64 t)
    clear kz
    go_wp2
    refine bodyPost_ret (by simp [results, Tryd.results27, go_sem, r0, r1, r2, r3, r4, r5]; try rfl) rfl ?_
    exact ⟨rfl, hbb⟩
set_option maxHeartbeats 2000000 in
theorem act_4f : Calls Tryd.prog 27 #[cv (l, s0, w0, s1, w1, t), .int .i64 0, .int .i64 4] w fun e w' => e = .returned (cv (actM (l, s0, w0, s1, w1, t) false 4)) ∧ Below w.heap.size w w' := by
  · have hact : actM (l, s0, w0, s1, w1, t) false 4 = askM (l, s0, w0, s1, w1, t) false 4 := rfl
    rw [hact]
    clear hact
    have hs := fun o w => ask_any l s0 w0 s1 w1 t w false o
    simp only [cv, speakM, askM, endM, setT, setS, bi, Bool.not_true, Bool.not_false, if_true, if_false, Bool.false_eq_true] at *
    go_enter Tryd.func27, Tryd.ntmps27
    go_wp2_with fail
    refine (hs _ _).mono ?_
    rintro e wA ⟨rfl, hb⟩
    have kz := Blk.below (g := w.heap.size + 1) (t := 26) (cs := #[.int .i64 0, .int .i64 0, .bool false, .int .i64 0, .bool false, .int .i64 0]) (by exact Blk.new2 _ _ _ _) hb (by simp)
    obtain ⟨c0, f0, c1, f1, c2, f2, c3, f3, c4, f4, c5, f5, r0, r1, r2, r3, r4, r5⟩ := kz.set6 (.int .i64 l) (.int .i64 s0) (.bool true) (.int .i64 4) (.bool false) (.int .i64 t)
    have hbb := below_set6 (B := w.heap.size) (w := w) (g := w.heap.size + 1) (by first | exact bt (ba2 _ _ _) hb | exact bt (bt (ba2 _ _ _) (bdr _)) hb) (by omega) (.int .i64 l) (.int .i64 s0) (.bool true) (.int .i64 4) (.bool false) (.int .i64 t)
    clear kz
    go_wp2
    refine bodyPost_ret (by simp [results, Tryd.results27, go_sem, r0, r1, r2, r3, r4, r5]; try rfl) rfl ?_
    exact ⟨rfl, hbb⟩
set_option maxHeartbeats 2000000 in
theorem act_5f : Calls Tryd.prog 27 #[cv (l, s0, w0, s1, w1, t), .int .i64 0, .int .i64 5] w fun e w' => e = .returned (cv (actM (l, s0, w0, s1, w1, t) false 5)) ∧ Below w.heap.size w w' := by
  · have hact : actM (l, s0, w0, s1, w1, t) false 5 = askM (l, s0, w0, s1, w1, t) false 5 := rfl
    rw [hact]
    clear hact
    have hs := fun o w => ask_any l s0 w0 s1 w1 t w false o
    simp only [cv, speakM, askM, endM, setT, setS, bi, Bool.not_true, Bool.not_false, if_true, if_false, Bool.false_eq_true] at *
    go_enter Tryd.func27, Tryd.ntmps27
    go_wp2_with fail
    refine (hs _ _).mono ?_
    rintro e wA ⟨rfl, hb⟩
    have kz := Blk.below (g := w.heap.size + 1) (t := 26) (cs := #[.int .i64 0, .int .i64 0, .bool false, .int .i64 0, .bool false, .int .i64 0]) (by exact Blk.new2 _ _ _ _) hb (by simp)
    obtain ⟨c0, f0, c1, f1, c2, f2, c3, f3, c4, f4, c5, f5, r0, r1, r2, r3, r4, r5⟩ := kz.set6 (.int .i64 l) (.int .i64 s0) (.bool true) (.int .i64 5) (.bool false) (.int .i64 t)
    have hbb := below_set6 (B := w.heap.size) (w := w) (g := w.heap.size + 1) (by first | exact bt (ba2 _ _ _) hb | exact bt (bt (ba2 _ _ _) (bdr _)) hb) (by omega) (.int .i64 l) (.int .i64 s0) (.bool true) (.int .i64 5) (.bool false) (.int .i64 t)
    clear kz
    go_wp2
    refine bodyPost_ret (by simp [results, Tryd.results27, go_sem, r0, r1, r2, r3, r4, r5]; try rfl) rfl ?_
    exact ⟨rfl, hbb⟩
set_option maxHeartbeats 2000000 in
theorem act_6f : Calls Tryd.prog 27 #[cv (l, s0, w0, s1, w1, t), .int .i64 0, .int .i64 6] w fun e w' => e = .returned (cv (actM (l, s0, w0, s1, w1, t) false 6)) ∧ Below w.heap.size w w' := by
  · have hact : actM (l, s0, w0, s1, w1, t) false 6 = agreeM (l, s0, w0, s1, w1, t) false := rfl
    rw [hact]
    clear hact
    have ha := fun w => agree_any l s0 w0 s1 w1 t w false
    obtain ⟨y0, y1, y2, y3, y4, y5, hy⟩ : ∃ y0 y1 y2 y3 y4 y5, agreeM (l, s0, w0, s1, w1, t) false = (y0, y1, y2, y3, y4, y5) := ⟨_, _, _, _, _, _, rfl⟩
    simp only [hy] at *
    clear hy
    simp only [cv, speakM, askM, endM, setT, setS, bi, Bool.not_true, Bool.not_false, if_true, if_false, Bool.false_eq_true] at *
    go_enter Tryd.func27, Tryd.ntmps27
    go_wp2_with fail
    refine (ha _).mono ?_
    rintro e wA ⟨rfl, hb⟩
    have kz := Blk.below (g := w.heap.size + 1) (t := 26) (cs := #[.int .i64 0, .int .i64 0, .bool false, .int .i64 0, .bool false, .int .i64 0]) (by exact Blk.new2 _ _ _ _) hb (by simp)
    obtain ⟨c0, f0, c1, f1, c2, f2, c3, f3, c4, f4, c5, f5, r0, r1, r2, r3, r4, r5⟩ := kz.set6 (.int .i64 y0) (.int .i64 y1) (.bool y2) (.int .i64 y3) (.bool y4) (.int .i64 y5)
    have hbb := below_set6 (B := w.heap.size) (w := w) (g := w.heap.size + 1) (by first | exact bt (ba2 _ _ _) hb | exact bt (bt (ba2 _ _ _) (bdr _)) hb) (by omega) (.int .i64 y0) (.int .i64 y1) (.bool y2) (.int .i64 y3) (.bool y4) (.int .i64 y5)
    clear kz
    go_wp2
    refine bodyPost_ret (by simp [results, Tryd.results27, go_sem, r0, r1, r2, r3, r4, r5]; try rfl) rfl ?_
    exact ⟨rfl, hbb⟩
set_option maxHeartbeats 2000000 in
theorem act_10f : Calls Tryd.prog 27 #[cv (l, s0, w0, s1, w1, t), .int .i64 0, .int .i64 10] w fun e w' => e = .returned (cv (actM (l, s0, w0, s1, w1, t) false 10)) ∧ Below w.heap.size w w' := by
  · have hact : actM (l, s0, w0, s1, w1, t) false 10 = syncM (l, s0, w0, s1, w1, t) false := rfl
    rw [hact]
    clear hact
    have ha := fun w => sync_any l s0 w0 s1 w1 t w false
    obtain ⟨y0, y1, y2, y3, y4, y5, hy⟩ : ∃ y0 y1 y2 y3 y4 y5, syncM (l, s0, w0, s1, w1, t) false = (y0, y1, y2, y3, y4, y5) := ⟨_, _, _, _, _, _, rfl⟩
    simp only [hy] at *
    clear hy
    simp only [cv, speakM, askM, endM, setT, setS, bi, Bool.not_true, Bool.not_false, if_true, if_false, Bool.false_eq_true] at *
    go_enter Tryd.func27, Tryd.ntmps27
    go_wp2_with fail
    refine (ha _).mono ?_
    rintro e wA ⟨rfl, hb⟩
    have kz := Blk.below (g := w.heap.size + 1) (t := 26) (cs := #[.int .i64 0, .int .i64 0, .bool false, .int .i64 0, .bool false, .int .i64 0]) (by exact Blk.new2 _ _ _ _) hb (by simp)
    obtain ⟨c0, f0, c1, f1, c2, f2, c3, f3, c4, f4, c5, f5, r0, r1, r2, r3, r4, r5⟩ := kz.set6 (.int .i64 y0) (.int .i64 y1) (.bool y2) (.int .i64 y3) (.bool y4) (.int .i64 y5)
    have hbb := below_set6 (B := w.heap.size) (w := w) (g := w.heap.size + 1) (by first | exact bt (ba2 _ _ _) hb | exact bt (bt (ba2 _ _ _) (bdr _)) hb) (by omega) (.int .i64 y0) (.int .i64 y1) (.bool y2) (.int .i64 y3) (.bool y4) (.int .i64 y5)
    clear kz
    go_wp2
    refine bodyPost_ret (by simp [results, Tryd.results27, go_sem, r0, r1, r2, r3, r4, r5]; try rfl) rfl ?_
    exact ⟨rfl, hbb⟩
set_option maxHeartbeats 2000000 in
theorem act_7f : Calls Tryd.prog 27 #[cv (l, s0, w0, s1, w1, t), .int .i64 0, .int .i64 7] w fun e w' => e = .returned (cv (actM (l, s0, w0, s1, w1, t) false 7)) ∧ Below w.heap.size w w' := by
  · have hact : actM (l, s0, w0, s1, w1, t) false 7 = speakM (l, s0, w0, s1, w1, t) false := rfl
    rw [hact]
    clear hact
    have hs := fun w => speak_any l s0 w0 s1 w1 t w false
    simp only [cv, speakM, askM, endM, setT, setS, bi, Bool.not_true, Bool.not_false, if_true, if_false, Bool.false_eq_true] at *
    go_enter Tryd.func27, Tryd.ntmps27
    go_wp2_with fail
    refine (hs _).mono ?_
    rintro e wA ⟨rfl, hb⟩
    have kz := Blk.below (g := w.heap.size + 1) (t := 26) (cs := #[.int .i64 0, .int .i64 0, .bool false, .int .i64 0, .bool false, .int .i64 0]) (by exact Blk.new2 _ _ _ _) hb (by simp)
    obtain ⟨c0, f0, c1, f1, c2, f2, c3, f3, c4, f4, c5, f5, r0, r1, r2, r3, r4, r5⟩ := kz.set6 (.int .i64 l) (.int .i64 1) (.bool false) (.int .i64 2) (.bool false) (.int .i64 t)
    have hbb := below_set6 (B := w.heap.size) (w := w) (g := w.heap.size + 1) (by first | exact bt (ba2 _ _ _) hb | exact bt (bt (ba2 _ _ _) (bdr _)) hb) (by omega) (.int .i64 l) (.int .i64 1) (.bool false) (.int .i64 2) (.bool false) (.int .i64 t)
    clear kz
    go_wp2
    refine bodyPost_ret (by simp [results, Tryd.results27, go_sem, r0, r1, r2, r3, r4, r5]; try rfl) rfl ?_
    exact ⟨rfl, hbb⟩
set_option maxHeartbeats 2000000 in
theorem act_8f : Calls Tryd.prog 27 #[cv (l, s0, w0, s1, w1, t), .int .i64 0, .int .i64 8] w fun e w' => e = .returned (cv (actM (l, s0, w0, s1, w1, t) false 8)) ∧ Below w.heap.size w w' := by
  · have hact : actM (l, s0, w0, s1, w1, t) false 8 = endM (l, s0, w0, s1, w1, t) := rfl
    rw [hact]
    clear hact
    have hs := fun w => end_any l s0 w0 s1 w1 t w
    simp only [cv, speakM, askM, endM, setT, setS, bi, Bool.not_true, Bool.not_false, if_true, if_false, Bool.false_eq_true] at *
    go_enter Tryd.func27, Tryd.ntmps27
    go_wp2_with fail
    refine (hs _).mono ?_
    rintro e wA ⟨rfl, hb⟩
    have kz := Blk.below (g := w.heap.size + 1) (t := 26) (cs := #[.int .i64 0, .int .i64 0, .bool false, .int .i64 0, .bool false, .int .i64 0]) (by exact Blk.new2 _ _ _ _) hb (by simp)
    obtain ⟨c0, f0, c1, f1, c2, f2, c3, f3, c4, f4, c5, f5, r0, r1, r2, r3, r4, r5⟩ := kz.set6 (.int .i64 l) (.int .i64 12) (.bool false) (.int .i64 12) (.bool false) (.int .i64 t)
    have hbb := below_set6 (B := w.heap.size) (w := w) (g := w.heap.size + 1) (by first | exact bt (ba2 _ _ _) hb | exact bt (bt (ba2 _ _ _) (bdr _)) hb) (by omega) (.int .i64 l) (.int .i64 12) (.bool false) (.int .i64 12) (.bool false) (.int .i64 t)
    clear kz
    go_wp2
    refine bodyPost_ret (by simp [results, Tryd.results27, go_sem, r0, r1, r2, r3, r4, r5]; try rfl) rfl ?_
    exact ⟨rfl, hbb⟩
set_option maxHeartbeats 2000000 in
theorem act_9f : Calls Tryd.prog 27 #[cv (l, s0, w0, s1, w1, t), .int .i64 0, .int .i64 9] w fun e w' => e = .returned (cv (actM (l, s0, w0, s1, w1, t) false 9)) ∧ Below w.heap.size w w' := by
  · have hact : actM (l, s0, w0, s1, w1, t) false 9 = endM (l, s0, w0, s1, w1, t) := rfl
    rw [hact]
    clear hact
    have hs := fun w => end_any l s0 w0 s1 w1 t w
    simp only [cv, speakM, askM, endM, setT, setS, bi, Bool.not_true, Bool.not_false, if_true, if_false, Bool.false_eq_true] at *
    go_enter Tryd.func27, Tryd.ntmps27
    go_wp2_with fail
    refine (hs _).mono ?_
    rintro e wA ⟨rfl, hb⟩
    have kz := Blk.below (g := w.heap.size + 1) (t := 26) (cs := #[.int .i64 0, .int .i64 0, .bool false, .int .i64 0, .bool false, .int .i64 0]) (by exact Blk.new2 _ _ _ _) hb (by simp)
    obtain ⟨c0, f0, c1, f1, c2, f2, c3, f3, c4, f4, c5, f5, r0, r1, r2, r3, r4, r5⟩ := kz.set6 (.int .i64 l) (.int .i64 12) (.bool false) (.int .i64 12) (.bool false) (.int .i64 t)
    have hbb := below_set6 (B := w.heap.size) (w := w) (g := w.heap.size + 1) (by first | exact bt (ba2 _ _ _) hb | exact bt (bt (ba2 _ _ _) (bdr _)) hb) (by omega) (.int .i64 l) (.int .i64 12) (.bool false) (.int .i64 12) (.bool false) (.int .i64 t)
    clear kz
    go_wp2
    refine bodyPost_ret (by simp [results, Tryd.results27, go_sem, r0, r1, r2, r3, r4, r5]; try rfl) rfl ?_
    exact ⟨rfl, hbb⟩
set_option maxHeartbeats 2000000 in
theorem act_11f : Calls Tryd.prog 27 #[cv (l, s0, w0, s1, w1, t), .int .i64 0, .int .i64 11] w fun e w' => e = .returned (cv (actM (l, s0, w0, s1, w1, t) false 11)) ∧ Below w.heap.size w w' := by
  · have hact : actM (l, s0, w0, s1, w1, t) false 11 = setS (l, s0, w0, s1, w1, t) false 10 := rfl
    rw [hact]
    clear hact
    simp only [cv, speakM, askM, endM, setT, setS, bi, Bool.not_true, Bool.not_false, if_true, if_false, Bool.false_eq_true] at *
    go_enter Tryd.func27, Tryd.ntmps27
    go_wp2
    go_returns
    exact ⟨rfl, ba2 _ _ _⟩
set_option maxHeartbeats 2000000 in
theorem act_12f : Calls Tryd.prog 27 #[cv (l, s0, w0, s1, w1, t), .int .i64 0, .int .i64 12] w fun e w' => e = .returned (cv (actM (l, s0, w0, s1, w1, t) false 12)) ∧ Below w.heap.size w w' := by
  · have hact : actM (l, s0, w0, s1, w1, t) false 12 = setS (l, s0, w0, s1, w1, t) false 11 := rfl
    rw [hact]
    clear hact
    simp only [cv, speakM, askM, endM, setT, setS, bi, Bool.not_true, Bool.not_false, if_true, if_false, Bool.false_eq_true] at *
    go_enter Tryd.func27, Tryd.ntmps27
    go_wp2
    go_returns
    exact ⟨rfl, ba2 _ _ _⟩
set_option maxHeartbeats 2000000 in
theorem act_13f (tb : Bool) (ht : t = bi tb) : Calls Tryd.prog 27 #[cv (l, s0, w0, s1, w1, t), .int .i64 0, .int .i64 13] w fun e w' => e = .returned (cv (actM (l, s0, w0, s1, w1, t) false 13)) ∧ Below w.heap.size w w' := by
  · have hact : actM (l, s0, w0, s1, w1, t) false 13 = backM (l, s0, w0, s1, w1, t) false tb := by
      subst ht
      cases tb <;> rfl
    rw [hact]
    clear hact
    have ha := fun w => back_any l s0 w0 s1 w1 w false tb
    rw [← ht] at ha
    obtain ⟨y0, y1, y2, y3, y4, y5, hy⟩ : ∃ y0 y1 y2 y3 y4 y5, backM (l, s0, w0, s1, w1, t) false tb = (y0, y1, y2, y3, y4, y5) := ⟨_, _, _, _, _, _, rfl⟩
    simp only [hy] at *
    clear hy ht
    simp only [cv, speakM, askM, endM, setT, setS, bi, Bool.not_true, Bool.not_false, if_true, if_false, Bool.false_eq_true] at *
    go_enter Tryd.func27, Tryd.ntmps27
    go_wp2_with fail
    refine (ha _).mono ?_
    rintro e wA ⟨rfl, hb⟩
    have kz := Blk.below (g := w.heap.size + 1) (t := 26) (cs := #[.int .i64 0, .int .i64 0, .bool false, .int .i64 0, .bool false, .int .i64 0]) (by exact Blk.new2 _ _ _ _) hb (by simp)
    obtain ⟨c0, f0, c1, f1, c2, f2, c3, f3, c4, f4, c5, f5, r0, r1, r2, r3, r4, r5⟩ := kz.set6 (.int .i64 y0) (.int .i64 y1) (.bool y2) (.int .i64 y3) (.bool y4) (.int .i64 y5)
    have hbb := below_set6 (B := w.heap.size) (w := w) (g := w.heap.size + 1) (by first | exact bt (ba2 _ _ _) hb | exact bt (bt (ba2 _ _ _) (bdr _)) hb) (by omega) (.int .i64 y0) (.int .i64 y1) (.bool y2) (.int .i64 y3) (.bool y4) (.int .i64 y5)
    clear kz
    go_wp2
    refine bodyPost_ret (by simp [results, Tryd.results27, go_sem, r0, r1, r2, r3, r4, r5]; try rfl) rfl ?_
    exact ⟨rfl, hbb⟩
set_option maxHeartbeats 2000000 in
theorem act_1t : Calls Tryd.prog 27 #[cv (l, s0, w0, s1, w1, t), .int .i64 1, .int .i64 1] w fun e w' => e = .returned (cv (actM (l, s0, w0, s1, w1, t) true 1)) ∧ Below w.heap.size w w' := by
  · have hact : actM (l, s0, w0, s1, w1, t) true 1 = (l, s0, w0, s1, w1, t) := rfl
    rw [hact]
    clear hact
    simp only [cv, speakM, askM, endM, setT, setS, bi, Bool.not_true, Bool.not_false, if_true, if_false, Bool.false_eq_true] at *
    go_enter Tryd.func27, Tryd.ntmps27
    go_wp2
    go_returns
    exact ⟨rfl, ba2 _ _ _⟩
set_option maxHeartbeats 2000000 in
theorem act_2t : Calls Tryd.prog 27 #[cv (l, s0, w0, s1, w1, t), .int .i64 1, .int .i64 2] w fun e w' => e = .returned (cv (actM (l, s0, w0, s1, w1, t) true 2)) ∧ Below w.heap.size w w' := by
  · have hact : actM (l, s0, w0, s1, w1, t) true 2 = speakM (l, s0, w0, s1, w1, t) false := rfl
    rw [hact]
    clear hact
    have ho := fun w => other_any true w
    have hs := fun w => speak_any l s0 w0 s1 w1 t w false
    simp only [cv, speakM, askM, endM, setT, setS, bi, Bool.not_true, Bool.not_false, if_true, if_false, Bool.false_eq_true] at *
    go_enter Tryd.func27, Tryd.ntmps27
    go_wp2_with fail
    go_region_with (first
      | (go_at_call 30; refine (ho _).mono ?_; rintro e wB ⟨rfl, rfl⟩)
      | (go_at_call 21; refine (hs _).mono ?_; rintro e wA ⟨rfl, hb⟩; (have kz := Blk.below (g := w.heap.size + 1) (t := 26) (cs := #[.int .i64 0, .int .i64 0, .bool false, .int .i64 0, .bool false, .int .i64 0]) (by exact Blk.new2 _ _ _ _) hb (by simp); obtain ⟨c0, f0, c1, f1, c2, f2, c3, f3, c4, f4, c5, f5, r0, r1, r2, r3, r4, r5⟩ := kz.set6 (.int .i64 l) (.int .i64 1) (.bool false) (.int .i64 2) (.bool false) (.int .i64 t); have hbb := below_set6 (B := w.heap.size) (w := w) (g := w.heap.size + 1) (by first | exact bt (ba2 _ _ _) hb | exact bt (bt (ba2 _ _ _) (bdr _)) hb) (by omega) (.int .i64 l) (.int .i64 1) (.bool false) (.int .i64 2) (.bool false) (.int .i64 t); clear kz)))
    all_goals
      go_wp2
      refine bodyPost_ret (by simp [results, Tryd.results27, go_sem, r0, r1, r2, r3, r4, r5]; try rfl) rfl ?_
      exact ⟨rfl, hbb⟩
set_option maxHeartbeats 2000000 in
theorem act_3t : Calls Tryd.prog 27 #[cv (l, s0, w0, s1, w1, t), .int .i64 1, .int .i64 3] w fun e w' => e = .returned (cv (actM (l, s0, w0, s1, w1, t) true 3)) ∧ Below w.heap.size w w' := by
  · have hact : actM (l, s0, w0, s1, w1, t) true 3 = askM (l, s0, w0, s1, w1, t) true 3 := rfl
    rw [hact]
    clear hact
    have hs := fun o w => ask_any l s0 w0 s1 w1 t w true o
    simp only [cv, speakM, askM, endM, setT, setS, bi, Bool.not_true, Bool.not_false, if_true, if_false, Bool.false_eq_true] at *
    go_enter Tryd.func27, Tryd.ntmps27
    go_wp2_with fail
    refine (hs _ _).mono ?_
    rintro e wA ⟨rfl, hb⟩
    have kz := Blk.below (g := w.heap.size + 1) (t := 26) (cs := #[.int .i64 0, .int .i64 0, .bool false, .int .i64 0, .bool false, .int .i64 0]) (by exact Blk.new2 _ _ _ _) hb (by simp)
    obtain ⟨c0, f0, c1, f1, c2, f2, c3, f3, c4, f4, c5, f5, r0, r1, r2, r3, r4, r5⟩ := kz.set6 (.int .i64 l) (.int .i64 3) (.bool false) (.int .i64 s1) (.bool true) (.int .i64 t)
    have hbb := below_set6 (B := w.heap.size) (w := w) (g := w.heap.size + 1) (by first | exact bt (ba2 _ _ _) hb | exact bt (bt (ba2 _ _ _) (bdr _)) hb) (by omega) (.int .i64 l) (.int .i64 3) (.bool false) (.int .i64 s1) (.bool true) (.int .i64 t)
    clear kz
    go_wp2
    refine bodyPost_ret (by simp [results, Tryd.results27, go_sem, r0, r1, r2, r3, r4, r5]; try rfl) rfl ?_
    exact ⟨rfl, hbb⟩
set_option maxHeartbeats 2000000 in
theorem act_4t : Calls Tryd.prog 27 #[cv (l, s0, w0, s1, w1, t), .int .i64 1, .int .i64 4] w fun e w' => e = .returned (cv (actM (l, s0, w0, s1, w1, t) true 4)) ∧ Below w.heap.size w w' := by
  · have hact : actM (l, s0, w0, s1, w1, t) true 4 = askM (l, s0, w0, s1, w1, t) true 4 := rfl
    rw [hact]
    clear hact
    have hs := fun o w => ask_any l s0 w0 s1 w1 t w true o
    simp only [cv, speakM, askM, endM, setT, setS, bi, Bool.not_true, Bool.not_false, if_true, if_false, Bool.false_eq_true] at *
    go_enter Tryd.func27, Tryd.ntmps27
    go_wp2_with fail
    refine (hs _ _).mono ?_
    rintro e wA ⟨rfl, hb⟩
    have kz := Blk.below (g := w.heap.size + 1) (t := 26) (cs := #[.int .i64 0, .int .i64 0, .bool false, .int .i64 0, .bool false, .int .i64 0]) (by exact Blk.new2 _ _ _ _) hb (by simp)
    obtain ⟨c0, f0, c1, f1, c2, f2, c3, f3, c4, f4, c5, f5, r0, r1, r2, r3, r4, r5⟩ := kz.set6 (.int .i64 l) (.int .i64 4) (.bool false) (.int .i64 s1) (.bool true) (.int .i64 t)
    have hbb := below_set6 (B := w.heap.size) (w := w) (g := w.heap.size + 1) (by first | exact bt (ba2 _ _ _) hb | exact bt (bt (ba2 _ _ _) (bdr _)) hb) (by omega) (.int .i64 l) (.int .i64 4) (.bool false) (.int .i64 s1) (.bool true) (.int .i64 t)
    clear kz
    go_wp2
    refine bodyPost_ret (by simp [results, Tryd.results27, go_sem, r0, r1, r2, r3, r4, r5]; try rfl) rfl ?_
    exact ⟨rfl, hbb⟩
set_option maxHeartbeats 2000000 in
theorem act_5t : Calls Tryd.prog 27 #[cv (l, s0, w0, s1, w1, t), .int .i64 1, .int .i64 5] w fun e w' => e = .returned (cv (actM (l, s0, w0, s1, w1, t) true 5)) ∧ Below w.heap.size w w' := by
  · have hact : actM (l, s0, w0, s1, w1, t) true 5 = askM (l, s0, w0, s1, w1, t) true 5 := rfl
    rw [hact]
    clear hact
    have hs := fun o w => ask_any l s0 w0 s1 w1 t w true o
    simp only [cv, speakM, askM, endM, setT, setS, bi, Bool.not_true, Bool.not_false, if_true, if_false, Bool.false_eq_true] at *
    go_enter Tryd.func27, Tryd.ntmps27
    go_wp2_with fail
    refine (hs _ _).mono ?_
    rintro e wA ⟨rfl, hb⟩
    have kz := Blk.below (g := w.heap.size + 1) (t := 26) (cs := #[.int .i64 0, .int .i64 0, .bool false, .int .i64 0, .bool false, .int .i64 0]) (by exact Blk.new2 _ _ _ _) hb (by simp)
    obtain ⟨c0, f0, c1, f1, c2, f2, c3, f3, c4, f4, c5, f5, r0, r1, r2, r3, r4, r5⟩ := kz.set6 (.int .i64 l) (.int .i64 5) (.bool false) (.int .i64 s1) (.bool true) (.int .i64 t)
    have hbb := below_set6 (B := w.heap.size) (w := w) (g := w.heap.size + 1) (by first | exact bt (ba2 _ _ _) hb | exact bt (bt (ba2 _ _ _) (bdr _)) hb) (by omega) (.int .i64 l) (.int .i64 5) (.bool false) (.int .i64 s1) (.bool true) (.int .i64 t)
    clear kz
    go_wp2
    refine bodyPost_ret (by simp [results, Tryd.results27, go_sem, r0, r1, r2, r3, r4, r5]; try rfl) rfl ?_
    exact ⟨rfl, hbb⟩
set_option maxHeartbeats 2000000 in
theorem act_6t : Calls Tryd.prog 27 #[cv (l, s0, w0, s1, w1, t), .int .i64 1, .int .i64 6] w fun e w' => e = .returned (cv (actM (l, s0, w0, s1, w1, t) true 6)) ∧ Below w.heap.size w w' := by
  · have hact : actM (l, s0, w0, s1, w1, t) true 6 = agreeM (l, s0, w0, s1, w1, t) true := rfl
    rw [hact]
    clear hact
    have ha := fun w => agree_any l s0 w0 s1 w1 t w true
    obtain ⟨y0, y1, y2, y3, y4, y5, hy⟩ : ∃ y0 y1 y2 y3 y4 y5, agreeM (l, s0, w0, s1, w1, t) true = (y0, y1, y2, y3, y4, y5) := ⟨_, _, _, _, _, _, rfl⟩
    simp only [hy] at *
    clear hy
    simp only [cv, speakM, askM, endM, setT, setS, bi, Bool.not_true, Bool.not_false, if_true, if_false, Bool.false_eq_true] at *
    go_enter Tryd.func27, Tryd.ntmps27
    go_wp2_with fail
    refine (ha _).mono ?_
    rintro e wA ⟨rfl, hb⟩
    have kz := Blk.below (g := w.heap.size + 1) (t := 26) (cs := #[.int .i64 0, .int .i64 0, .bool false, .int .i64 0, .bool false, .int .i64 0]) (by exact Blk.new2 _ _ _ _) hb (by simp)
    obtain ⟨c0, f0, c1, f1, c2, f2, c3, f3, c4, f4, c5, f5, r0, r1, r2, r3, r4, r5⟩ := kz.set6 (.int .i64 y0) (.int .i64 y1) (.bool y2) (.int .i64 y3) (.bool y4) (.int .i64 y5)
    have hbb := below_set6 (B := w.heap.size) (w := w) (g := w.heap.size + 1) (by first | exact bt (ba2 _ _ _) hb | exact bt (bt (ba2 _ _ _) (bdr _)) hb) (by omega) (.int .i64 y0) (.int .i64 y1) (.bool y2) (.int .i64 y3) (.bool y4) (.int .i64 y5)
    clear kz
    go_wp2
    refine bodyPost_ret (by simp [results, Tryd.results27, go_sem, r0, r1, r2, r3, r4, r5]; try rfl) rfl ?_
    exact ⟨rfl, hbb⟩
set_option maxHeartbeats 2000000 in
theorem act_10t : Calls Tryd.prog 27 #[cv (l, s0, w0, s1, w1, t), .int .i64 1, .int .i64 10] w fun e w' => e = .returned (cv (actM (l, s0, w0, s1, w1, t) true 10)) ∧ Below w.heap.size w w' := by
  · have hact : actM (l, s0, w0, s1, w1, t) true 10 = syncM (l, s0, w0, s1, w1, t) true := rfl
    rw [hact]
    clear hact
    have ha := fun w => sync_any l s0 w0 s1 w1 t w true
    obtain ⟨y0, y1, y2, y3, y4, y5, hy⟩ : ∃ y0 y1 y2 y3 y4 y5, syncM (l, s0, w0, s1, w1, t) true = (y0, y1, y2, y3, y4, y5) := ⟨_, _, _, _, _, _, rfl⟩
    simp only [hy] at *
    clear hy
    simp only [cv, speakM, askM, endM, setT, setS, bi, Bool.not_true, Bool.not_false, if_true, if_false, Bool.false_eq_true] at *
    go_enter Tryd.func27, Tryd.ntmps27
    go_wp2_with fail
    refine (ha _).mono ?_
    rintro e wA ⟨rfl, hb⟩
    have kz := Blk.below (g := w.heap.size + 1) (t := 26) (cs := #[.int .i64 0, .int .i64 0, .bool false, .int .i64 0, .bool false, .int .i64 0]) (by exact Blk.new2 _ _ _ _) hb (by simp)
    obtain ⟨c0, f0, c1, f1, c2, f2, c3, f3, c4, f4, c5, f5, r0, r1, r2, r3, r4, r5⟩ := kz.set6 (.int .i64 y0) (.int .i64 y1) (.bool y2) (.int .i64 y3) (.bool y4) (.int .i64 y5)
    have hbb := below_set6 (B := w.heap.size) (w := w) (g := w.heap.size + 1) (by first | exact bt (ba2 _ _ _) hb | exact bt (bt (ba2 _ _ _) (bdr _)) hb) (by omega) (.int .i64 y0) (.int .i64 y1) (.bool y2) (.int .i64 y3) (.bool y4) (.int .i64 y5)
    clear kz
    go_wp2
    refine bodyPost_ret (by simp [results, Tryd.results27, go_sem, r0, r1, r2, r3, r4, r5]; try rfl) rfl ?_
    exact ⟨rfl, hbb⟩
set_option maxHeartbeats 2000000 in
theorem act_7t : Calls Tryd.prog 27 #[cv (l, s0, w0, s1, w1, t), .int .i64 1, .int .i64 7] w fun e w' => e = .returned (cv (actM (l, s0, w0, s1, w1, t) true 7)) ∧ Below w.heap.size w w' := by
  · have hact : actM (l, s0, w0, s1, w1, t) true 7 = speakM (l, s0, w0, s1, w1, t) true := rfl
    rw [hact]
    clear hact
    have hs := fun w => speak_any l s0 w0 s1 w1 t w true
    simp only [cv, speakM, askM, endM, setT, setS, bi, Bool.not_true, Bool.not_false, if_true, if_false, Bool.false_eq_true] at *
    go_enter Tryd.func27, Tryd.ntmps27
    go_wp2_with fail
    refine (hs _).mono ?_
    rintro e wA ⟨rfl, hb⟩
    have kz := Blk.below (g := w.heap.size + 1) (t := 26) (cs := #[.int .i64 0, .int .i64 0, .bool false, .int .i64 0, .bool false, .int .i64 0]) (by exact Blk.new2 _ _ _ _) hb (by simp)
    obtain ⟨c0, f0, c1, f1, c2, f2, c3, f3, c4, f4, c5, f5, r0, r1, r2, r3, r4, r5⟩ := kz.set6 (.int .i64 l) (.int .i64 2) (.bool false) (.int .i64 1) (.bool false) (.int .i64 t)
    have hbb := below_set6 (B := w.heap.size) (w := w) (g := w.heap.size + 1) (by first | exact bt (ba2 _ _ _) hb | exact bt (bt (ba2 _ _ _) (bdr _)) hb) (by omega) (.int .i64 l) (.int .i64 2) (.bool false) (.int .i64 1) (.bool false) (.int .i64 t)
    clear kz
    go_wp2
    refine bodyPost_ret (by simp [results, Tryd.results27, go_sem, r0, r1, r2, r3, r4, r5]; try rfl) rfl ?_
    exact ⟨rfl, hbb⟩
set_option maxHeartbeats 2000000 in
theorem act_8t : Calls Tryd.prog 27 #[cv (l, s0, w0, s1, w1, t), .int .i64 1, .int .i64 8] w fun e w' => e = .returned (cv (actM (l, s0, w0, s1, w1, t) true 8)) ∧ Below w.heap.size w w' := by
  · have hact : actM (l, s0, w0, s1, w1, t) true 8 = endM (l, s0, w0, s1, w1, t) := rfl
    rw [hact]
    clear hact
    have hs := fun w => end_any l s0 w0 s1 w1 t w
    simp only [cv, speakM, askM, endM, setT, setS, bi, Bool.not_true, Bool.not_false, if_true, if_false, Bool.false_eq_true] at *
    go_enter Tryd.func27, Tryd.ntmps27
    go_wp2_with fail
    refine (hs _).mono ?_
    rintro e wA ⟨rfl, hb⟩
    have kz := Blk.below (g := w.heap.size + 1) (t := 26) (cs := #[.int .i64 0, .int .i64 0, .bool false, .int .i64 0, .bool false, .int .i64 0]) (by exact Blk.new2 _ _ _ _) hb (by simp)
    obtain ⟨c0, f0, c1, f1, c2, f2, c3, f3, c4, f4, c5, f5, r0, r1, r2, r3, r4, r5⟩ := kz.set6 (.int .i64 l) (.int .i64 12) (.bool false) (.int .i64 12) (.bool false) (.int .i64 t)
    have hbb := below_set6 (B := w.heap.size) (w := w) (g := w.heap.size + 1) (by first | exact bt (ba2 _ _ _) hb | exact bt (bt (ba2 _ _ _) (bdr _)) hb) (by omega) (.int .i64 l) (.int .i64 12) (.bool false) (.int .i64 12) (.bool false) (.int .i64 t)
    clear kz
    go_wp2
    refine bodyPost_ret (by simp [results, Tryd.results27, go_sem, r0, r1, r2, r3, r4, r5]; try rfl) rfl ?_
    exact ⟨rfl, hbb⟩
set_option maxHeartbeats 2000000 in
theorem act_9t : Calls Tryd.prog 27 #[cv (l, s0, w0, s1, w1, t), .int .i64 1, .int .i64 9] w fun e w' => e = .returned (cv (actM (l, s0, w0, s1, w1, t) true 9)) ∧ Below w.heap.size w w' := by
  · have hact : actM (l, s0, w0, s1, w1, t) true 9 = endM (l, s0, w0, s1, w1, t) := rfl
    rw [hact]
    clear hact
    have hs := fun w => end_any l s0 w0 s1 w1 t w
    simp only [cv, speakM, askM, endM, setT, setS, bi, Bool.not_true, Bool.not_false, if_true, if_false, Bool.false_eq_true] at *
    go_enter Tryd.func27, Tryd.ntmps27
    go_wp2_with fail
    refine (hs _).mono ?_
    rintro e wA ⟨rfl, hb⟩
    have kz := Blk.below (g := w.heap.size + 1) (t := 26) (cs := #[.int .i64 0, .int .i64 0, .bool false, .int .i64 0, .bool false, .int .i64 0]) (by exact Blk.new2 _ _ _ _) hb (by simp)
    obtain ⟨c0, f0, c1, f1, c2, f2, c3, f3, c4, f4, c5, f5, r0, r1, r2, r3, r4, r5⟩ := kz.set6 (.int .i64 l) (.int .i64 12) (.bool false) (.int .i64 12) (.bool false) (.int .i64 t)
    have hbb := below_set6 (B := w.heap.size) (w := w) (g := w.heap.size + 1) (by first | exact bt (ba2 _ _ _) hb | exact bt (bt (ba2 _ _ _) (bdr _)) hb) (by omega) (.int .i64 l) (.int .i64 12) (.bool false) (.int .i64 12) (.bool false) (.int .i64 t)
    clear kz
    go_wp2
    refine bodyPost_ret (by simp [results, Tryd.results27, go_sem, r0, r1, r2, r3, r4, r5]; try rfl) rfl ?_
    exact ⟨rfl, hbb⟩
set_option maxHeartbeats 2000000 in
theorem act_11t : Calls Tryd.prog 27 #[cv (l, s0, w0, s1, w1, t), .int .i64 1, .int .i64 11] w fun e w' => e = .returned (cv (actM (l, s0, w0, s1, w1, t) true 11)) ∧ Below w.heap.size w w' := by
  · have hact : actM (l, s0, w0, s1, w1, t) true 11 = setS (l, s0, w0, s1, w1, t) true 10 := rfl
    rw [hact]
    clear hact
    simp only [cv, speakM, askM, endM, setT, setS, bi, Bool.not_true, Bool.not_false, if_true, if_false, Bool.false_eq_true] at *
    go_enter Tryd.func27, Tryd.ntmps27
    go_wp2
    go_returns
    exact ⟨rfl, ba2 _ _ _⟩
set_option maxHeartbeats 2000000 in
theorem act_12t : Calls Tryd.prog 27 #[cv (l, s0, w0, s1, w1, t), .int .i64 1, .int .i64 12] w fun e w' => e = .returned (cv (actM (l, s0, w0, s1, w1, t) true 12)) ∧ Below w.heap.size w w' := by
  · have hact : actM (l, s0, w0, s1, w1, t) true 12 = setS (l, s0, w0, s1, w1, t) true 11 := rfl
    rw [hact]
    clear hact
    simp only [cv, speakM, askM, endM, setT, setS, bi, Bool.not_true, Bool.not_false, if_true, if_false, Bool.false_eq_true] at *
    go_enter Tryd.func27, Tryd.ntmps27
    go_wp2
    go_returns
    exact ⟨rfl, ba2 _ _ _⟩
set_option maxHeartbeats 2000000 in
theorem act_13t (tb : Bool) (ht : t = bi tb) : Calls Tryd.prog 27 #[cv (l, s0, w0, s1, w1, t), .int .i64 1, .int .i64 13] w fun e w' => e = .returned (cv (actM (l, s0, w0, s1, w1, t) true 13)) ∧ Below w.heap.size w w' := by
  · have hact : actM (l, s0, w0, s1, w1, t) true 13 = backM (l, s0, w0, s1, w1, t) true tb := by
      subst ht
      cases tb <;> rfl
    rw [hact]
    clear hact
    have ha := fun w => back_any l s0 w0 s1 w1 w true tb
    rw [← ht] at ha
    obtain ⟨y0, y1, y2, y3, y4, y5, hy⟩ : ∃ y0 y1 y2 y3 y4 y5, backM (l, s0, w0, s1, w1, t) true tb = (y0, y1, y2, y3, y4, y5) := ⟨_, _, _, _, _, _, rfl⟩
    simp only [hy] at *
    clear hy ht
    simp only [cv, speakM, askM, endM, setT, setS, bi, Bool.not_true, Bool.not_false, if_true, if_false, Bool.false_eq_true] at *
    go_enter Tryd.func27, Tryd.ntmps27
    go_wp2_with fail
    refine (ha _).mono ?_
    rintro e wA ⟨rfl, hb⟩
    have kz := Blk.below (g := w.heap.size + 1) (t := 26) (cs := #[.int .i64 0, .int .i64 0, .bool false, .int .i64 0, .bool false, .int .i64 0]) (by exact Blk.new2 _ _ _ _) hb (by simp)
    obtain ⟨c0, f0, c1, f1, c2, f2, c3, f3, c4, f4, c5, f5, r0, r1, r2, r3, r4, r5⟩ := kz.set6 (.int .i64 y0) (.int .i64 y1) (.bool y2) (.int .i64 y3) (.bool y4) (.int .i64 y5)
    have hbb := below_set6 (B := w.heap.size) (w := w) (g := w.heap.size + 1) (by first | exact bt (ba2 _ _ _) hb | exact bt (bt (ba2 _ _ _) (bdr _)) hb) (by omega) (.int .i64 y0) (.int .i64 y1) (.bool y2) (.int .i64 y3) (.bool y4) (.int .i64 y5)
    clear kz
    go_wp2
    refine bodyPost_ret (by simp [results, Tryd.results27, go_sem, r0, r1, r2, r3, r4, r5]; try rfl) rfl ?_
    exact ⟨rfl, hbb⟩
theorem act_any (it : Bool) (v : Int) (h1 : 1 ≤ v) (h2 : v ≤ 13) (tb : Bool) (ht : t = bi tb) : Calls Tryd.prog 27 #[cv (l, s0, w0, s1, w1, t), .int .i64 (bi it), .int .i64 v] w fun e w' => e = .returned (cv (actM (l, s0, w0, s1, w1, t) it v)) ∧ Below w.heap.size w w' := by
  have hv : v = 1 ∨ v = 2 ∨ v = 3 ∨ v = 4 ∨ v = 5 ∨ v = 6 ∨ v = 7 ∨ v = 8 ∨ v = 9 ∨ v = 10 ∨ v = 11 ∨ v = 12 ∨ v = 13 := by omega
  clear h1 h2
  rcases hv with rfl | rfl | rfl | rfl | rfl | rfl | rfl | rfl | rfl | rfl | rfl | rfl | rfl
  all_goals cases it
  · exact act_1f l s0 w0 s1 w1 t w
  · exact act_1t l s0 w0 s1 w1 t w
  · exact act_2f l s0 w0 s1 w1 t w
  · exact act_2t l s0 w0 s1 w1 t w
  · exact act_3f l s0 w0 s1 w1 t w
  · exact act_3t l s0 w0 s1 w1 t w
  · exact act_4f l s0 w0 s1 w1 t w
  · exact act_4t l s0 w0 s1 w1 t w
  · exact act_5f l s0 w0 s1 w1 t w
  · exact act_5t l s0 w0 s1 w1 t w
  · exact act_6f l s0 w0 s1 w1 t w
  · exact act_6t l s0 w0 s1 w1 t w
  · exact act_7f l s0 w0 s1 w1 t w
  · exact act_7t l s0 w0 s1 w1 t w
  · exact act_8f l s0 w0 s1 w1 t w
  · exact act_8t l s0 w0 s1 w1 t w
  · exact act_9f l s0 w0 s1 w1 t w
  · exact act_9t l s0 w0 s1 w1 t w
  · exact act_10f l s0 w0 s1 w1 t w
  · exact act_10t l s0 w0 s1 w1 t w
  · exact act_11f l s0 w0 s1 w1 t w
  · exact act_11t l s0 w0 s1 w1 t w
  · exact act_12f l s0 w0 s1 w1 t w
  · exact act_12t l s0 w0 s1 w1 t w
  · exact act_13f l s0 w0 s1 w1 t w tb ht
  · exact act_13t l s0 w0 s1 w1 t w tb ht
end
end Go.Proofs.YtfhfbekphmnbgaaDoor
