/- Layer 10: what comes of a confirmation, a sync point, a backout. -/
import Derived.Test.YtfhfbekphmnbgaaDoorVb
import Derived.Deep.RegionWith
namespace Go.Proofs.YtfhfbekphmnbgaaDoor
open Go.RowKit
set_option linter.unusedVariables false
set_option linter.unusedSimpArgs false

theorem bdr (w : World) : Below w.heap.size w w.drew := ⟨rfl, rfl, rfl, Nat.le_refl _, fun _ _ => rfl⟩
theorem Blk.new2 (w : World) (p : Obj) (t : TypeId) (cs : Array Value) : Blk ((w.alloc p).alloc (.cells cs t)) (w.heap.size + 1) t cs := by simpa using Blk.new (w.alloc p) t cs
theorem ba2 (w : World) (p q : Obj) : Below w.heap.size w ((w.alloc p).alloc q) := bt (ba _ _) (ba _ _)
section
variable (l s0 : Int) (w0 : Bool) (s1 : Int) (w1 : Bool) (t : Int) (w : World)
set_option maxHeartbeats 2000000 in
theorem agree_f : Calls Tryd.prog 34 #[cv (l, s0, w0, s1, w1, t), .int .i64 0] w fun e w' => e = .returned (cv (agreeM (l, s0, w0, s1, w1, t) false)) ∧ Below w.heap.size w w' := by
  have ho := fun w => other_any false w
  have hs0 := fun t w => speak_any l s0 w0 s1 w1 t w false
  have hs1 := fun t w => speak_any l s0 w0 s1 w1 t w true
  have he := fun w => end_any l s0 w0 s1 w1 t w
  unfold agreeM stM
  by_cases h6 : s0 = 6
  · subst h6
    simp only [cv, speakM, endM, setT, bi, Bool.not_true, Bool.not_false, if_true, if_false, Bool.false_eq_true] at *
    go_enter Tryd.func34, Tryd.ntmps34
    go_wp2_with fail
    refine (ho _).mono ?_
    rintro e wA ⟨rfl, rfl⟩
    go_wp2_with fail
    go_region_with (first
      | (go_at_call 30; refine (ho _).mono ?_; rintro e wB ⟨rfl, rfl⟩)
      | (go_at_call 21; refine (hs1 _ _).mono ?_; rintro e wA ⟨rfl, hb⟩; (have kz := Blk.below (g := w.heap.size + 1) (t := 26) (cs := #[.int .i64 0, .int .i64 0, .bool false, .int .i64 0, .bool false, .int .i64 0]) (by exact Blk.new2 _ _ _ _) hb (by simp); obtain ⟨c0, f0, c1, f1, c2, f2, c3, f3, c4, f4, c5, f5, r0, r1, r2, r3, r4, r5⟩ := kz.set6 (.int .i64 l) (.int .i64 2) (.bool false) (.int .i64 1) (.bool false) (.int .i64 1); have hbb := below_set6 (B := w.heap.size) (w := w) (g := w.heap.size + 1) (by first | exact bt (ba2 _ _ _) hb | exact bt (bt (ba2 _ _ _) (bdr _)) hb) (by omega) (.int .i64 l) (.int .i64 2) (.bool false) (.int .i64 1) (.bool false) (.int .i64 1); clear kz)))
    all_goals
      go_wp2
      refine bodyPost_ret (by simp [results, Tryd.results34, go_sem, r0, r1, r2, r3, r4, r5]; try rfl) rfl ?_
      exact ⟨rfl, hbb⟩
  by_cases h3 : s0 = 3
  · subst h3
    simp only [cv, speakM, endM, setT, bi, Bool.not_true, Bool.not_false, if_true, if_false, Bool.false_eq_true] at *
    simp only [show ((3 : Int) = 6) = False from by simp, show ((3 : Int) = 3) = True from by simp, show ((3 : Int) = 7) = False from by simp, show ((3 : Int) = 4) = False from by simp, if_true, if_false]
    clear h6
    go_enter Tryd.func34, Tryd.ntmps34
    go_wp2_with fail
    go_region_with (first
      | (go_at_call 30; refine (ho _).mono ?_; rintro e wB ⟨rfl, rfl⟩)
      | (go_at_call 21; refine (hs1 _ _).mono ?_; rintro e wA ⟨rfl, hb⟩; (have kz := Blk.below (g := w.heap.size + 1) (t := 26) (cs := #[.int .i64 0, .int .i64 0, .bool false, .int .i64 0, .bool false, .int .i64 0]) (by exact Blk.new2 _ _ _ _) hb (by simp); obtain ⟨c0, f0, c1, f1, c2, f2, c3, f3, c4, f4, c5, f5, r0, r1, r2, r3, r4, r5⟩ := kz.set6 (.int .i64 l) (.int .i64 2) (.bool false) (.int .i64 1) (.bool false) (.int .i64 t); have hbb := below_set6 (B := w.heap.size) (w := w) (g := w.heap.size + 1) (by first | exact bt (ba2 _ _ _) hb | exact bt (bt (ba2 _ _ _) (bdr _)) hb) (by omega) (.int .i64 l) (.int .i64 2) (.bool false) (.int .i64 1) (.bool false) (.int .i64 t); clear kz)))
    all_goals
      go_wp2
      refine bodyPost_ret (by simp [results, Tryd.results34, go_sem, r0, r1, r2, r3, r4, r5]; try rfl) rfl ?_
      exact ⟨rfl, hbb⟩
  by_cases h7 : s0 = 7
  · subst h7
    simp only [cv, speakM, endM, setT, bi, Bool.not_true, Bool.not_false, if_true, if_false, Bool.false_eq_true] at *
    simp only [show ((7 : Int) = 6) = False from by simp, show ((7 : Int) = 3) = False from by simp, show ((7 : Int) = 7) = True from by simp, show ((7 : Int) = 4) = False from by simp, if_true, if_false]
    clear h6 h3
    go_enter Tryd.func34, Tryd.ntmps34
    go_wp2_with fail
    refine (hs0 _ _).mono ?_
    rintro e wA ⟨rfl, hb⟩
    have kz := Blk.below (g := w.heap.size + 1) (t := 26) (cs := #[.int .i64 0, .int .i64 0, .bool false, .int .i64 0, .bool false, .int .i64 0]) (by exact Blk.new2 _ _ _ _) hb (by simp)
    obtain ⟨c0, f0, c1, f1, c2, f2, c3, f3, c4, f4, c5, f5, r0, r1, r2, r3, r4, r5⟩ := kz.set6 (.int .i64 l) (.int .i64 1) (.bool false) (.int .i64 2) (.bool false) (.int .i64 0)
    have hbb := below_set6 (B := w.heap.size) (w := w) (g := w.heap.size + 1) (by first | exact bt (ba2 _ _ _) hb | exact bt (bt (ba2 _ _ _) (bdr _)) hb) (by omega) (.int .i64 l) (.int .i64 1) (.bool false) (.int .i64 2) (.bool false) (.int .i64 0)
    clear kz
    go_wp2
    refine bodyPost_ret (by simp [results, Tryd.results34, go_sem, r0, r1, r2, r3, r4, r5]; try rfl) rfl ?_
    exact ⟨rfl, hbb⟩
  by_cases h4 : s0 = 4
  · subst h4
    simp only [cv, speakM, endM, setT, bi, Bool.not_true, Bool.not_false, if_true, if_false, Bool.false_eq_true] at *
    simp only [show ((4 : Int) = 6) = False from by simp, show ((4 : Int) = 3) = False from by simp, show ((4 : Int) = 7) = False from by simp, show ((4 : Int) = 4) = True from by simp, if_true, if_false]
    clear h6 h3 h7
    go_enter Tryd.func34, Tryd.ntmps34
    go_wp2_with fail
    refine (hs0 _ _).mono ?_
    rintro e wA ⟨rfl, hb⟩
    have kz := Blk.below (g := w.heap.size + 1) (t := 26) (cs := #[.int .i64 0, .int .i64 0, .bool false, .int .i64 0, .bool false, .int .i64 0]) (by exact Blk.new2 _ _ _ _) hb (by simp)
    obtain ⟨c0, f0, c1, f1, c2, f2, c3, f3, c4, f4, c5, f5, r0, r1, r2, r3, r4, r5⟩ := kz.set6 (.int .i64 l) (.int .i64 1) (.bool false) (.int .i64 2) (.bool false) (.int .i64 t)
    have hbb := below_set6 (B := w.heap.size) (w := w) (g := w.heap.size + 1) (by first | exact bt (ba2 _ _ _) hb | exact bt (bt (ba2 _ _ _) (bdr _)) hb) (by omega) (.int .i64 l) (.int .i64 1) (.bool false) (.int .i64 2) (.bool false) (.int .i64 t)
    clear kz
    go_wp2
    refine bodyPost_ret (by simp [results, Tryd.results34, go_sem, r0, r1, r2, r3, r4, r5]; try rfl) rfl ?_
    exact ⟨rfl, hbb⟩
  have g6 : (s0 == 6) = false := by simpa using h6
  have g3 : (s0 == 3) = false := by simpa using h3
  have g7 : (s0 == 7) = false := by simpa using h7
  have g4 : (s0 == 4) = false := by simpa using h4
  rw [if_neg (by simpa using h6), if_neg (by simpa using h3), if_neg (by simpa using h7), if_neg (by simpa using h4)]
  clear h6 h3 h7 h4
  · simp only [cv, speakM, endM, setT, bi, Bool.not_true, Bool.not_false, if_true, if_false, Bool.false_eq_true] at *
    go_enter Tryd.func34, Tryd.ntmps34
    go_wp2_with fail
    refine (he _).mono ?_
    rintro e wA ⟨rfl, hb⟩
    have kz := Blk.below (g := w.heap.size + 1) (t := 26) (cs := #[.int .i64 0, .int .i64 0, .bool false, .int .i64 0, .bool false, .int .i64 0]) (by exact Blk.new2 _ _ _ _) hb (by simp)
    obtain ⟨c0, f0, c1, f1, c2, f2, c3, f3, c4, f4, c5, f5, r0, r1, r2, r3, r4, r5⟩ := kz.set6 (.int .i64 l) (.int .i64 12) (.bool false) (.int .i64 12) (.bool false) (.int .i64 t)
    have hbb := below_set6 (B := w.heap.size) (w := w) (g := w.heap.size + 1) (by first | exact bt (ba2 _ _ _) hb | exact bt (bt (ba2 _ _ _) (bdr _)) hb) (by omega) (.int .i64 l) (.int .i64 12) (.bool false) (.int .i64 12) (.bool false) (.int .i64 t)
    clear kz
    go_wp2
    refine bodyPost_ret (by simp [results, Tryd.results34, go_sem, r0, r1, r2, r3, r4, r5]; try rfl) rfl ?_
    exact ⟨rfl, hbb⟩
set_option maxHeartbeats 2000000 in
theorem agree_t : Calls Tryd.prog 34 #[cv (l, s0, w0, s1, w1, t), .int .i64 1] w fun e w' => e = .returned (cv (agreeM (l, s0, w0, s1, w1, t) true)) ∧ Below w.heap.size w w' := by
  have ho := fun w => other_any true w
  have hs0 := fun t w => speak_any l s0 w0 s1 w1 t w false
  have hs1 := fun t w => speak_any l s0 w0 s1 w1 t w true
  have he := fun w => end_any l s0 w0 s1 w1 t w
  unfold agreeM stM
  by_cases h6 : s1 = 6
  · subst h6
    simp only [cv, speakM, endM, setT, bi, Bool.not_true, Bool.not_false, if_true, if_false, Bool.false_eq_true] at *
    go_enter Tryd.func34, Tryd.ntmps34
    go_wp2_with fail
    refine (ho _).mono ?_
    rintro e wA ⟨rfl, rfl⟩
    go_wp2_with fail
    go_region_with (first
      | (go_at_call 30; refine (ho _).mono ?_; rintro e wB ⟨rfl, rfl⟩)
      | (go_at_call 21; refine (hs0 _ _).mono ?_; rintro e wA ⟨rfl, hb⟩; (have kz := Blk.below (g := w.heap.size + 1) (t := 26) (cs := #[.int .i64 0, .int .i64 0, .bool false, .int .i64 0, .bool false, .int .i64 0]) (by exact Blk.new2 _ _ _ _) hb (by simp); obtain ⟨c0, f0, c1, f1, c2, f2, c3, f3, c4, f4, c5, f5, r0, r1, r2, r3, r4, r5⟩ := kz.set6 (.int .i64 l) (.int .i64 1) (.bool false) (.int .i64 2) (.bool false) (.int .i64 0); have hbb := below_set6 (B := w.heap.size) (w := w) (g := w.heap.size + 1) (by first | exact bt (ba2 _ _ _) hb | exact bt (bt (ba2 _ _ _) (bdr _)) hb) (by omega) (.int .i64 l) (.int .i64 1) (.bool false) (.int .i64 2) (.bool false) (.int .i64 0); clear kz)))
    all_goals
      go_wp2
      refine bodyPost_ret (by simp [results, Tryd.results34, go_sem, r0, r1, r2, r3, r4, r5]; try rfl) rfl ?_
      exact ⟨rfl, hbb⟩
  by_cases h3 : s1 = 3
  · subst h3
    simp only [cv, speakM, endM, setT, bi, Bool.not_true, Bool.not_false, if_true, if_false, Bool.false_eq_true] at *
    simp only [show ((3 : Int) = 6) = False from by simp, show ((3 : Int) = 3) = True from by simp, show ((3 : Int) = 7) = False from by simp, show ((3 : Int) = 4) = False from by simp, if_true, if_false]
    clear h6
    go_enter Tryd.func34, Tryd.ntmps34
    go_wp2_with fail
    go_region_with (first
      | (go_at_call 30; refine (ho _).mono ?_; rintro e wB ⟨rfl, rfl⟩)
      | (go_at_call 21; refine (hs0 _ _).mono ?_; rintro e wA ⟨rfl, hb⟩; (have kz := Blk.below (g := w.heap.size + 1) (t := 26) (cs := #[.int .i64 0, .int .i64 0, .bool false, .int .i64 0, .bool false, .int .i64 0]) (by exact Blk.new2 _ _ _ _) hb (by simp); obtain ⟨c0, f0, c1, f1, c2, f2, c3, f3, c4, f4, c5, f5, r0, r1, r2, r3, r4, r5⟩ := kz.set6 (.int .i64 l) (.int .i64 1) (.bool false) (.int .i64 2) (.bool false) (.int .i64 t); have hbb := below_set6 (B := w.heap.size) (w := w) (g := w.heap.size + 1) (by first | exact bt (ba2 _ _ _) hb | exact bt (bt (ba2 _ _ _) (bdr _)) hb) (by omega) (.int .i64 l) (.int .i64 1) (.bool false) (.int .i64 2) (.bool false) (.int .i64 t); clear kz)))
    all_goals
      go_wp2
      refine bodyPost_ret (by simp [results, Tryd.results34, go_sem, r0, r1, r2, r3, r4, r5]; try rfl) rfl ?_
      exact ⟨rfl, hbb⟩
  by_cases h7 : s1 = 7
  · subst h7
    simp only [cv, speakM, endM, setT, bi, Bool.not_true, Bool.not_false, if_true, if_false, Bool.false_eq_true] at *
    simp only [show ((7 : Int) = 6) = False from by simp, show ((7 : Int) = 3) = False from by simp, show ((7 : Int) = 7) = True from by simp, show ((7 : Int) = 4) = False from by simp, if_true, if_false]
    clear h6 h3
    go_enter Tryd.func34, Tryd.ntmps34
    go_wp2_with fail
    refine (hs1 _ _).mono ?_
    rintro e wA ⟨rfl, hb⟩
    have kz := Blk.below (g := w.heap.size + 1) (t := 26) (cs := #[.int .i64 0, .int .i64 0, .bool false, .int .i64 0, .bool false, .int .i64 0]) (by exact Blk.new2 _ _ _ _) hb (by simp)
    obtain ⟨c0, f0, c1, f1, c2, f2, c3, f3, c4, f4, c5, f5, r0, r1, r2, r3, r4, r5⟩ := kz.set6 (.int .i64 l) (.int .i64 2) (.bool false) (.int .i64 1) (.bool false) (.int .i64 1)
    have hbb := below_set6 (B := w.heap.size) (w := w) (g := w.heap.size + 1) (by first | exact bt (ba2 _ _ _) hb | exact bt (bt (ba2 _ _ _) (bdr _)) hb) (by omega) (.int .i64 l) (.int .i64 2) (.bool false) (.int .i64 1) (.bool false) (.int .i64 1)
    clear kz
    go_wp2
    refine bodyPost_ret (by simp [results, Tryd.results34, go_sem, r0, r1, r2, r3, r4, r5]; try rfl) rfl ?_
    exact ⟨rfl, hbb⟩
  by_cases h4 : s1 = 4
  · subst h4
    simp only [cv, speakM, endM, setT, bi, Bool.not_true, Bool.not_false, if_true, if_false, Bool.false_eq_true] at *
    simp only [show ((4 : Int) = 6) = False from by simp, show ((4 : Int) = 3) = False from by simp, show ((4 : Int) = 7) = False from by simp, show ((4 : Int) = 4) = True from by simp, if_true, if_false]
    clear h6 h3 h7
    go_enter Tryd.func34, Tryd.ntmps34
    go_wp2_with fail
    refine (hs1 _ _).mono ?_
    rintro e wA ⟨rfl, hb⟩
    have kz := Blk.below (g := w.heap.size + 1) (t := 26) (cs := #[.int .i64 0, .int .i64 0, .bool false, .int .i64 0, .bool false, .int .i64 0]) (by exact Blk.new2 _ _ _ _) hb (by simp)
    obtain ⟨c0, f0, c1, f1, c2, f2, c3, f3, c4, f4, c5, f5, r0, r1, r2, r3, r4, r5⟩ := kz.set6 (.int .i64 l) (.int .i64 2) (.bool false) (.int .i64 1) (.bool false) (.int .i64 t)
    have hbb := below_set6 (B := w.heap.size) (w := w) (g := w.heap.size + 1) (by first | exact bt (ba2 _ _ _) hb | exact bt (bt (ba2 _ _ _) (bdr _)) hb) (by omega) (.int .i64 l) (.int .i64 2) (.bool false) (.int .i64 1) (.bool false) (.int .i64 t)
    clear kz
    go_wp2
    refine bodyPost_ret (by simp [results, Tryd.results34, go_sem, r0, r1, r2, r3, r4, r5]; try rfl) rfl ?_
    exact ⟨rfl, hbb⟩
  have g6 : (s1 == 6) = false := by simpa using h6
  have g3 : (s1 == 3) = false := by simpa using h3
  have g7 : (s1 == 7) = false := by simpa using h7
  have g4 : (s1 == 4) = false := by simpa using h4
  rw [if_neg (by simpa using h6), if_neg (by simpa using h3), if_neg (by simpa using h7), if_neg (by simpa using h4)]
  clear h6 h3 h7 h4
  · simp only [cv, speakM, endM, setT, bi, Bool.not_true, Bool.not_false, if_true, if_false, Bool.false_eq_true] at *
    go_enter Tryd.func34, Tryd.ntmps34
    go_wp2_with fail
    refine (he _).mono ?_
    rintro e wA ⟨rfl, hb⟩
    have kz := Blk.below (g := w.heap.size + 1) (t := 26) (cs := #[.int .i64 0, .int .i64 0, .bool false, .int .i64 0, .bool false, .int .i64 0]) (by exact Blk.new2 _ _ _ _) hb (by simp)
    obtain ⟨c0, f0, c1, f1, c2, f2, c3, f3, c4, f4, c5, f5, r0, r1, r2, r3, r4, r5⟩ := kz.set6 (.int .i64 l) (.int .i64 12) (.bool false) (.int .i64 12) (.bool false) (.int .i64 t)
    have hbb := below_set6 (B := w.heap.size) (w := w) (g := w.heap.size + 1) (by first | exact bt (ba2 _ _ _) hb | exact bt (bt (ba2 _ _ _) (bdr _)) hb) (by omega) (.int .i64 l) (.int .i64 12) (.bool false) (.int .i64 12) (.bool false) (.int .i64 t)
    clear kz
    go_wp2
    refine bodyPost_ret (by simp [results, Tryd.results34, go_sem, r0, r1, r2, r3, r4, r5]; try rfl) rfl ?_
    exact ⟨rfl, hbb⟩
end
end Go.Proofs.YtfhfbekphmnbgaaDoor
