/- Layer 10: what comes of a sync point, or a backout. -/
import Derived.Test.YtfhfbekphmnbgaaDoorVc
namespace Go.Proofs.YtfhfbekphmnbgaaDoor
open Go.RowKit
set_option linter.unusedVariables false
set_option linter.unusedSimpArgs false

section
variable (l s0 : Int) (w0 : Bool) (s1 : Int) (w1 : Bool) (t : Int) (w : World)
theorem agree_any (it : Bool) : Calls Tryd.prog 34 #[cv (l, s0, w0, s1, w1, t), .int .i64 (bi it)] w fun e w' => e = .returned (cv (agreeM (l, s0, w0, s1, w1, t) it)) ∧ Below w.heap.size w w' := by
  cases it
  · exact agree_f l s0 w0 s1 w1 t w
  · exact agree_t l s0 w0 s1 w1 t w
set_option maxHeartbeats 2000000 in
theorem sync_f : Calls Tryd.prog 36 #[cv (l, s0, w0, s1, w1, t), .int .i64 0] w fun e w' => e = .returned (cv (syncM (l, s0, w0, s1, w1, t) false)) ∧ Below w.heap.size w w' := by
  unfold syncM
  have hst : stM (l, s0, w0, s1, w1, t) false = s0 := rfl
  rw [hst]
  clear hst
  by_cases h1 : s0 = 1
  · subst h1
    have ha := fun o w => ask_any l 1 w0 s1 w1 t w false o
    simp only [cv, speakM, askM, endM, setT, setS, bi, Bool.not_true, Bool.not_false, if_true, if_false, Bool.false_eq_true] at *
    go_enter Tryd.func36, Tryd.ntmps36
    go_wp2_with fail
    refine (ha _ _).mono ?_
    rintro e wA ⟨rfl, hb⟩
    have kz := Blk.below (g := w.heap.size + 1) (t := 26) (cs := #[.int .i64 0, .int .i64 0, .bool false, .int .i64 0, .bool false, .int .i64 0]) (by exact Blk.new2 _ _ _ _) hb (by simp)
    obtain ⟨c0, f0, c1, f1, c2, f2, c3, f3, c4, f4, c5, f5, r0, r1, r2, r3, r4, r5⟩ := kz.set6 (.int .i64 l) (.int .i64 1) (.bool true) (.int .i64 6) (.bool false) (.int .i64 t)
    have hbb := below_set6 (B := w.heap.size) (w := w) (g := w.heap.size + 1) (by first | exact bt (ba2 _ _ _) hb | exact bt (bt (ba2 _ _ _) (bdr _)) hb) (by omega) (.int .i64 l) (.int .i64 1) (.bool true) (.int .i64 6) (.bool false) (.int .i64 t)
    clear kz
    go_wp2
    refine bodyPost_ret (by simp [results, Tryd.results36, go_sem, r0, r1, r2, r3, r4, r5]; try rfl) rfl ?_
    exact ⟨rfl, hbb⟩
  rw [if_neg h1]
  have g1 : (s0 == 1) = false := by simpa using h1
  clear h1
  by_cases h1 : s0 = 10
  · subst h1
    have ha := fun o w => ask_any l 10 w0 s1 w1 t w false o
    simp only [cv, speakM, askM, endM, setT, setS, bi, Bool.not_true, Bool.not_false, if_true, if_false, Bool.false_eq_true] at *
    go_enter Tryd.func36, Tryd.ntmps36
    go_wp2_with fail
    refine (ha _ _).mono ?_
    rintro e wA ⟨rfl, hb⟩
    have kz := Blk.below (g := w.heap.size + 1) (t := 26) (cs := #[.int .i64 0, .int .i64 0, .bool false, .int .i64 0, .bool false, .int .i64 0]) (by exact Blk.new2 _ _ _ _) hb (by simp)
    obtain ⟨c0, f0, c1, f1, c2, f2, c3, f3, c4, f4, c5, f5, r0, r1, r2, r3, r4, r5⟩ := kz.set6 (.int .i64 l) (.int .i64 10) (.bool true) (.int .i64 7) (.bool false) (.int .i64 t)
    have hbb := below_set6 (B := w.heap.size) (w := w) (g := w.heap.size + 1) (by first | exact bt (ba2 _ _ _) hb | exact bt (bt (ba2 _ _ _) (bdr _)) hb) (by omega) (.int .i64 l) (.int .i64 10) (.bool true) (.int .i64 7) (.bool false) (.int .i64 t)
    clear kz
    go_wp2
    refine bodyPost_ret (by simp [results, Tryd.results36, go_sem, r0, r1, r2, r3, r4, r5]; try rfl) rfl ?_
    exact ⟨rfl, hbb⟩
  rw [if_neg h1]
  have h10 := h1
  clear h1
  by_cases h1 : s0 = 11
  · subst h1
    have ha := fun o w => ask_any l 11 w0 s1 w1 t w false o
    clear h10
    simp only [cv, speakM, askM, endM, setT, setS, bi, Bool.not_true, Bool.not_false, if_true, if_false, Bool.false_eq_true] at *
    go_enter Tryd.func36, Tryd.ntmps36
    go_wp2_with fail
    refine (ha _ _).mono ?_
    rintro e wA ⟨rfl, hb⟩
    have kz := Blk.below (g := w.heap.size + 1) (t := 26) (cs := #[.int .i64 0, .int .i64 0, .bool false, .int .i64 0, .bool false, .int .i64 0]) (by exact Blk.new2 _ _ _ _) hb (by simp)
    obtain ⟨c0, f0, c1, f1, c2, f2, c3, f3, c4, f4, c5, f5, r0, r1, r2, r3, r4, r5⟩ := kz.set6 (.int .i64 l) (.int .i64 11) (.bool true) (.int .i64 8) (.bool false) (.int .i64 t)
    have hbb := below_set6 (B := w.heap.size) (w := w) (g := w.heap.size + 1) (by first | exact bt (ba2 _ _ _) hb | exact bt (bt (ba2 _ _ _) (bdr _)) hb) (by omega) (.int .i64 l) (.int .i64 11) (.bool true) (.int .i64 8) (.bool false) (.int .i64 t)
    clear kz
    go_wp2
    refine bodyPost_ret (by simp [results, Tryd.results36, go_sem, r0, r1, r2, r3, r4, r5]; try rfl) rfl ?_
    exact ⟨rfl, hbb⟩
  rw [if_neg h1]
  have g10 : (s0 == 10) = false := by simpa using h10
  have g11 : (s0 == 11) = false := by simpa using h1
  clear h1 h10
  · have ha := fun w => agree_any l s0 w0 s1 w1 t w false
    obtain ⟨y0, y1, y2, y3, y4, y5, hy⟩ : ∃ y0 y1 y2 y3 y4 y5, agreeM (l, s0, w0, s1, w1, t) false = (y0, y1, y2, y3, y4, y5) := ⟨_, _, _, _, _, _, rfl⟩
    simp only [hy] at *
    clear hy
    simp only [cv, speakM, askM, endM, setT, setS, bi, Bool.not_true, Bool.not_false, if_true, if_false, Bool.false_eq_true] at *
    go_enter Tryd.func36, Tryd.ntmps36
    go_wp2_with fail
    refine (ha _).mono ?_
    rintro e wA ⟨rfl, hb⟩
    have kz := Blk.below (g := w.heap.size + 1) (t := 26) (cs := #[.int .i64 0, .int .i64 0, .bool false, .int .i64 0, .bool false, .int .i64 0]) (by exact Blk.new2 _ _ _ _) hb (by simp)
    obtain ⟨c0, f0, c1, f1, c2, f2, c3, f3, c4, f4, c5, f5, r0, r1, r2, r3, r4, r5⟩ := kz.set6 (.int .i64 y0) (.int .i64 y1) (.bool y2) (.int .i64 y3) (.bool y4) (.int .i64 y5)
    have hbb := below_set6 (B := w.heap.size) (w := w) (g := w.heap.size + 1) (by first | exact bt (ba2 _ _ _) hb | exact bt (bt (ba2 _ _ _) (bdr _)) hb) (by omega) (.int .i64 y0) (.int .i64 y1) (.bool y2) (.int .i64 y3) (.bool y4) (.int .i64 y5)
    clear kz
    go_wp2
    refine bodyPost_ret (by simp [results, Tryd.results36, go_sem, r0, r1, r2, r3, r4, r5]; try rfl) rfl ?_
    exact ⟨rfl, hbb⟩
set_option maxHeartbeats 2000000 in
theorem sync_t : Calls Tryd.prog 36 #[cv (l, s0, w0, s1, w1, t), .int .i64 1] w fun e w' => e = .returned (cv (syncM (l, s0, w0, s1, w1, t) true)) ∧ Below w.heap.size w w' := by
  unfold syncM
  have hst : stM (l, s0, w0, s1, w1, t) true = s1 := rfl
  rw [hst]
  clear hst
  by_cases h1 : s1 = 1
  · subst h1
    have ha := fun o w => ask_any l s0 w0 1 w1 t w true o
    simp only [cv, speakM, askM, endM, setT, setS, bi, Bool.not_true, Bool.not_false, if_true, if_false, Bool.false_eq_true] at *
    go_enter Tryd.func36, Tryd.ntmps36
    go_wp2_with fail
    refine (ha _ _).mono ?_
    rintro e wA ⟨rfl, hb⟩
    have kz := Blk.below (g := w.heap.size + 1) (t := 26) (cs := #[.int .i64 0, .int .i64 0, .bool false, .int .i64 0, .bool false, .int .i64 0]) (by exact Blk.new2 _ _ _ _) hb (by simp)
    obtain ⟨c0, f0, c1, f1, c2, f2, c3, f3, c4, f4, c5, f5, r0, r1, r2, r3, r4, r5⟩ := kz.set6 (.int .i64 l) (.int .i64 6) (.bool false) (.int .i64 1) (.bool true) (.int .i64 t)
    have hbb := below_set6 (B := w.heap.size) (w := w) (g := w.heap.size + 1) (by first | exact bt (ba2 _ _ _) hb | exact bt (bt (ba2 _ _ _) (bdr _)) hb) (by omega) (.int .i64 l) (.int .i64 6) (.bool false) (.int .i64 1) (.bool true) (.int .i64 t)
    clear kz
    go_wp2
    refine bodyPost_ret (by simp [results, Tryd.results36, go_sem, r0, r1, r2, r3, r4, r5]; try rfl) rfl ?_
    exact ⟨rfl, hbb⟩
  rw [if_neg h1]
  have g1 : (s1 == 1) = false := by simpa using h1
  clear h1
  by_cases h1 : s1 = 10
  · subst h1
    have ha := fun o w => ask_any l s0 w0 10 w1 t w true o
    simp only [cv, speakM, askM, endM, setT, setS, bi, Bool.not_true, Bool.not_false, if_true, if_false, Bool.false_eq_true] at *
    go_enter Tryd.func36, Tryd.ntmps36
    go_wp2_with fail
    refine (ha _ _).mono ?_
    rintro e wA ⟨rfl, hb⟩
    have kz := Blk.below (g := w.heap.size + 1) (t := 26) (cs := #[.int .i64 0, .int .i64 0, .bool false, .int .i64 0, .bool false, .int .i64 0]) (by exact Blk.new2 _ _ _ _) hb (by simp)
    obtain ⟨c0, f0, c1, f1, c2, f2, c3, f3, c4, f4, c5, f5, r0, r1, r2, r3, r4, r5⟩ := kz.set6 (.int .i64 l) (.int .i64 7) (.bool false) (.int .i64 10) (.bool true) (.int .i64 t)
    have hbb := below_set6 (B := w.heap.size) (w := w) (g := w.heap.size + 1) (by first | exact bt (ba2 _ _ _) hb | exact bt (bt (ba2 _ _ _) (bdr _)) hb) (by omega) (.int .i64 l) (.int .i64 7) (.bool false) (.int .i64 10) (.bool true) (.int .i64 t)
    clear kz
    go_wp2
    refine bodyPost_ret (by simp [results, Tryd.results36, go_sem, r0, r1, r2, r3, r4, r5]; try rfl) rfl ?_
    exact ⟨rfl, hbb⟩
  rw [if_neg h1]
  have h10 := h1
  clear h1
  by_cases h1 : s1 = 11
  · subst h1
    have ha := fun o w => ask_any l s0 w0 11 w1 t w true o
    clear h10
    simp only [cv, speakM, askM, endM, setT, setS, bi, Bool.not_true, Bool.not_false, if_true, if_false, Bool.false_eq_true] at *
    go_enter Tryd.func36, Tryd.ntmps36
    go_wp2_with fail
    refine (ha _ _).mono ?_
    rintro e wA ⟨rfl, hb⟩
    have kz := Blk.below (g := w.heap.size + 1) (t := 26) (cs := #[.int .i64 0, .int .i64 0, .bool false, .int .i64 0, .bool false, .int .i64 0]) (by exact Blk.new2 _ _ _ _) hb (by simp)
    obtain ⟨c0, f0, c1, f1, c2, f2, c3, f3, c4, f4, c5, f5, r0, r1, r2, r3, r4, r5⟩ := kz.set6 (.int .i64 l) (.int .i64 8) (.bool false) (.int .i64 11) (.bool true) (.int .i64 t)
    have hbb := below_set6 (B := w.heap.size) (w := w) (g := w.heap.size + 1) (by first | exact bt (ba2 _ _ _) hb | exact bt (bt (ba2 _ _ _) (bdr _)) hb) (by omega) (.int .i64 l) (.int .i64 8) (.bool false) (.int .i64 11) (.bool true) (.int .i64 t)
    clear kz
    go_wp2
    refine bodyPost_ret (by simp [results, Tryd.results36, go_sem, r0, r1, r2, r3, r4, r5]; try rfl) rfl ?_
    exact ⟨rfl, hbb⟩
  rw [if_neg h1]
  have g10 : (s1 == 10) = false := by simpa using h10
  have g11 : (s1 == 11) = false := by simpa using h1
  clear h1 h10
  · have ha := fun w => agree_any l s0 w0 s1 w1 t w true
    obtain ⟨y0, y1, y2, y3, y4, y5, hy⟩ : ∃ y0 y1 y2 y3 y4 y5, agreeM (l, s0, w0, s1, w1, t) true = (y0, y1, y2, y3, y4, y5) := ⟨_, _, _, _, _, _, rfl⟩
    simp only [hy] at *
    clear hy
    simp only [cv, speakM, askM, endM, setT, setS, bi, Bool.not_true, Bool.not_false, if_true, if_false, Bool.false_eq_true] at *
    go_enter Tryd.func36, Tryd.ntmps36
    go_wp2_with fail
    refine (ha _).mono ?_
    rintro e wA ⟨rfl, hb⟩
    have kz := Blk.below (g := w.heap.size + 1) (t := 26) (cs := #[.int .i64 0, .int .i64 0, .bool false, .int .i64 0, .bool false, .int .i64 0]) (by exact Blk.new2 _ _ _ _) hb (by simp)
    obtain ⟨c0, f0, c1, f1, c2, f2, c3, f3, c4, f4, c5, f5, r0, r1, r2, r3, r4, r5⟩ := kz.set6 (.int .i64 y0) (.int .i64 y1) (.bool y2) (.int .i64 y3) (.bool y4) (.int .i64 y5)
    have hbb := below_set6 (B := w.heap.size) (w := w) (g := w.heap.size + 1) (by first | exact bt (ba2 _ _ _) hb | exact bt (bt (ba2 _ _ _) (bdr _)) hb) (by omega) (.int .i64 y0) (.int .i64 y1) (.bool y2) (.int .i64 y3) (.bool y4) (.int .i64 y5)
    clear kz
    go_wp2
    refine bodyPost_ret (by simp [results, Tryd.results36, go_sem, r0, r1, r2, r3, r4, r5]; try rfl) rfl ?_
    exact ⟨rfl, hbb⟩
end
end Go.Proofs.YtfhfbekphmnbgaaDoor
