/- Layer 10: what comes of a sync point, or a backout. -/
import Derived.Test.YtfhfbekphmnbgaaDoorVd
namespace Go.Proofs.YtfhfbekphmnbgaaDoor
open Go.RowKit
set_option linter.unusedVariables false
set_option linter.unusedSimpArgs false

section
variable (l s0 : Int) (w0 : Bool) (s1 : Int) (w1 : Bool) (t : Int) (w : World)

set_option maxHeartbeats 2000000 in
theorem back_ff : Calls Tryd.prog 37 #[cv (l, s0, w0, s1, w1, 0), .int .i64 0] w fun e w' => e = .returned (cv (backM (l, s0, w0, s1, w1, 0) false false)) ∧ Below w.heap.size w w' := by
  unfold backM
  have hst : stM (l, s0, w0, s1, w1, 0) false = s0 := rfl
  rw [hst]
  clear hst
  by_cases h1 : s0 = 9
  · subst h1
    rw [if_pos rfl]
    have ha := fun w => speak_any l 9 w0 s1 w1 0 w false
    simp only [cv, speakM, askM, endM, setT, setS, bi, Bool.not_true, Bool.not_false, if_true, if_false, Bool.false_eq_true] at *
    go_enter Tryd.func37, Tryd.ntmps37
    go_wp2_with fail
    refine (ha _).mono ?_
    rintro e wA ⟨rfl, hb⟩
    have kz := Blk.below (g := w.heap.size + 1) (t := 26) (cs := #[.int .i64 0, .int .i64 0, .bool false, .int .i64 0, .bool false, .int .i64 0]) (by exact Blk.new2 _ _ _ _) hb (by simp)
    obtain ⟨c0, f0, c1, f1, c2, f2, c3, f3, c4, f4, c5, f5, r0, r1, r2, r3, r4, r5⟩ := kz.set6 (.int .i64 l) (.int .i64 1) (.bool false) (.int .i64 2) (.bool false) (.int .i64 0)
    have hbb := below_set6 (B := w.heap.size) (w := w) (g := w.heap.size + 1) (by first | exact bt (ba2 _ _ _) hb | exact bt (bt (ba2 _ _ _) (bdr _)) hb) (by omega) (.int .i64 l) (.int .i64 1) (.bool false) (.int .i64 2) (.bool false) (.int .i64 0)
    clear kz
    go_wp2
    refine bodyPost_ret (by simp [results, Tryd.results37, go_sem, r0, r1, r2, r3, r4, r5]; try rfl) rfl ?_
    exact ⟨rfl, hbb⟩
  rw [if_neg h1]
  have g9 : (s0 == 9) = false := by simpa using h1
  clear h1
  · have hb0 := fun w => base_any l s0 w0 s1 w1 0 w false
    have hbm : baseM (l, s0, w0, s1, w1, 0) false = 1 := by simp [baseM, bi]
    simp only [hbm] at hb0 ⊢
    have ha := fun o w => ask_any l 1 w0 s1 w1 0 w false o
    clear hbm
    simp only [cv, speakM, askM, endM, setT, setS, bi, Bool.not_true, Bool.not_false, if_true, if_false, Bool.false_eq_true] at *
    go_enter Tryd.func37, Tryd.ntmps37
    go_wp2_with fail
    refine (hb0 _).mono ?_
    rintro e wB ⟨rfl, hbB⟩
    have kx := Blk.below (g := w.heap.size) (t := 26) (cs := #[.int .i64 l, .int .i64 s0, .bool w0, .int .i64 s1, .bool w1, .int .i64 0]) (by exact (Blk.new _ _ _).alloc _) hbB (by simp; omega)
    have e1 := kx.frozen 1
    have d1 := kx.cell 1
    have kx2 := kx.set_ 1 (.int .i64 1)
    have d6 := kx2.cell 0
    have d7 := kx2.cell 1
    have d2 := kx2.cell 2
    have d3 := kx2.cell 3
    have d4 := kx2.cell 4
    have d5 := kx2.cell 5
    simp at d1 d6 d7 d2 d3 d4 d5
    have kr := Blk.below (g := w.heap.size + 1) (t := 26) (cs := #[.int .i64 0, .int .i64 0, .bool false, .int .i64 0, .bool false, .int .i64 0]) (by exact Blk.new2 _ _ _ _) hbB (by simp)
    have kr2 := kr.far (p := ⟨w.heap.size, 1, none⟩) (by simp) (.int .i64 1)
    have hbC := (bt (ba2 _ _ _) hbB).setCell (p := ⟨w.heap.size, 1, none⟩) (Nat.le_refl w.heap.size) (.int .i64 1)
    clear kx kx2 kr hbB
    go_wp2_with fail
    refine (ha _ _).mono ?_
    rintro e wA ⟨rfl, hb⟩
    have kz := kr2.below hb kr2.lt
    obtain ⟨c0, f0, c1, f1, c2, f2, c3, f3, c4, f4, c5, f5, r0, r1, r2, r3, r4, r5⟩ := kz.set6 (.int .i64 l) (.int .i64 1) (.bool true) (.int .i64 9) (.bool false) (.int .i64 0)
    have hbb := below_set6 (B := w.heap.size) (w := w) (g := w.heap.size + 1) (bt hbC hb) (by omega) (.int .i64 l) (.int .i64 1) (.bool true) (.int .i64 9) (.bool false) (.int .i64 0)
    clear kz kr2 hbC
    go_wp2
    refine bodyPost_ret (by simp [results, Tryd.results37, go_sem, r0, r1, r2, r3, r4, r5]; try rfl) rfl ?_
    exact ⟨rfl, hbb⟩
set_option maxHeartbeats 2000000 in
theorem back_ft : Calls Tryd.prog 37 #[cv (l, s0, w0, s1, w1, 1), .int .i64 0] w fun e w' => e = .returned (cv (backM (l, s0, w0, s1, w1, 1) false true)) ∧ Below w.heap.size w w' := by
  unfold backM
  have hst : stM (l, s0, w0, s1, w1, 1) false = s0 := rfl
  rw [hst]
  clear hst
  by_cases h1 : s0 = 9
  · subst h1
    rw [if_pos rfl]
    have ha := fun w => speak_any l 9 w0 s1 w1 1 w true
    simp only [cv, speakM, askM, endM, setT, setS, bi, Bool.not_true, Bool.not_false, if_true, if_false, Bool.false_eq_true] at *
    go_enter Tryd.func37, Tryd.ntmps37
    go_wp2_with fail
    refine (ha _).mono ?_
    rintro e wA ⟨rfl, hb⟩
    have kz := Blk.below (g := w.heap.size + 1) (t := 26) (cs := #[.int .i64 0, .int .i64 0, .bool false, .int .i64 0, .bool false, .int .i64 0]) (by exact Blk.new2 _ _ _ _) hb (by simp)
    obtain ⟨c0, f0, c1, f1, c2, f2, c3, f3, c4, f4, c5, f5, r0, r1, r2, r3, r4, r5⟩ := kz.set6 (.int .i64 l) (.int .i64 2) (.bool false) (.int .i64 1) (.bool false) (.int .i64 1)
    have hbb := below_set6 (B := w.heap.size) (w := w) (g := w.heap.size + 1) (by first | exact bt (ba2 _ _ _) hb | exact bt (bt (ba2 _ _ _) (bdr _)) hb) (by omega) (.int .i64 l) (.int .i64 2) (.bool false) (.int .i64 1) (.bool false) (.int .i64 1)
    clear kz
    go_wp2
    refine bodyPost_ret (by simp [results, Tryd.results37, go_sem, r0, r1, r2, r3, r4, r5]; try rfl) rfl ?_
    exact ⟨rfl, hbb⟩
  rw [if_neg h1]
  have g9 : (s0 == 9) = false := by simpa using h1
  clear h1
  · have hb0 := fun w => base_any l s0 w0 s1 w1 1 w false
    have hbm : baseM (l, s0, w0, s1, w1, 1) false = 2 := by simp [baseM, bi]
    simp only [hbm] at hb0 ⊢
    have ha := fun o w => ask_any l 2 w0 s1 w1 1 w false o
    clear hbm
    simp only [cv, speakM, askM, endM, setT, setS, bi, Bool.not_true, Bool.not_false, if_true, if_false, Bool.false_eq_true] at *
    go_enter Tryd.func37, Tryd.ntmps37
    go_wp2_with fail
    refine (hb0 _).mono ?_
    rintro e wB ⟨rfl, hbB⟩
    have kx := Blk.below (g := w.heap.size) (t := 26) (cs := #[.int .i64 l, .int .i64 s0, .bool w0, .int .i64 s1, .bool w1, .int .i64 1]) (by exact (Blk.new _ _ _).alloc _) hbB (by simp; omega)
    have e1 := kx.frozen 1
    have d1 := kx.cell 1
    have kx2 := kx.set_ 1 (.int .i64 2)
    have d6 := kx2.cell 0
    have d7 := kx2.cell 1
    have d2 := kx2.cell 2
    have d3 := kx2.cell 3
    have d4 := kx2.cell 4
    have d5 := kx2.cell 5
    simp at d1 d6 d7 d2 d3 d4 d5
    have kr := Blk.below (g := w.heap.size + 1) (t := 26) (cs := #[.int .i64 0, .int .i64 0, .bool false, .int .i64 0, .bool false, .int .i64 0]) (by exact Blk.new2 _ _ _ _) hbB (by simp)
    have kr2 := kr.far (p := ⟨w.heap.size, 1, none⟩) (by simp) (.int .i64 2)
    have hbC := (bt (ba2 _ _ _) hbB).setCell (p := ⟨w.heap.size, 1, none⟩) (Nat.le_refl w.heap.size) (.int .i64 2)
    clear kx kx2 kr hbB
    go_wp2_with fail
    refine (ha _ _).mono ?_
    rintro e wA ⟨rfl, hb⟩
    have kz := kr2.below hb kr2.lt
    obtain ⟨c0, f0, c1, f1, c2, f2, c3, f3, c4, f4, c5, f5, r0, r1, r2, r3, r4, r5⟩ := kz.set6 (.int .i64 l) (.int .i64 2) (.bool true) (.int .i64 9) (.bool false) (.int .i64 1)
    have hbb := below_set6 (B := w.heap.size) (w := w) (g := w.heap.size + 1) (bt hbC hb) (by omega) (.int .i64 l) (.int .i64 2) (.bool true) (.int .i64 9) (.bool false) (.int .i64 1)
    clear kz kr2 hbC
    go_wp2
    refine bodyPost_ret (by simp [results, Tryd.results37, go_sem, r0, r1, r2, r3, r4, r5]; try rfl) rfl ?_
    exact ⟨rfl, hbb⟩
set_option maxHeartbeats 2000000 in
theorem back_tf : Calls Tryd.prog 37 #[cv (l, s0, w0, s1, w1, 0), .int .i64 1] w fun e w' => e = .returned (cv (backM (l, s0, w0, s1, w1, 0) true false)) ∧ Below w.heap.size w w' := by
  unfold backM
  have hst : stM (l, s0, w0, s1, w1, 0) true = s1 := rfl
  rw [hst]
  clear hst
  by_cases h1 : s1 = 9
  · subst h1
    rw [if_pos rfl]
    have ha := fun w => speak_any l s0 w0 9 w1 0 w false
    simp only [cv, speakM, askM, endM, setT, setS, bi, Bool.not_true, Bool.not_false, if_true, if_false, Bool.false_eq_true] at *
    go_enter Tryd.func37, Tryd.ntmps37
    go_wp2_with fail
    refine (ha _).mono ?_
    rintro e wA ⟨rfl, hb⟩
    have kz := Blk.below (g := w.heap.size + 1) (t := 26) (cs := #[.int .i64 0, .int .i64 0, .bool false, .int .i64 0, .bool false, .int .i64 0]) (by exact Blk.new2 _ _ _ _) hb (by simp)
    obtain ⟨c0, f0, c1, f1, c2, f2, c3, f3, c4, f4, c5, f5, r0, r1, r2, r3, r4, r5⟩ := kz.set6 (.int .i64 l) (.int .i64 1) (.bool false) (.int .i64 2) (.bool false) (.int .i64 0)
    have hbb := below_set6 (B := w.heap.size) (w := w) (g := w.heap.size + 1) (by first | exact bt (ba2 _ _ _) hb | exact bt (bt (ba2 _ _ _) (bdr _)) hb) (by omega) (.int .i64 l) (.int .i64 1) (.bool false) (.int .i64 2) (.bool false) (.int .i64 0)
    clear kz
    go_wp2
    refine bodyPost_ret (by simp [results, Tryd.results37, go_sem, r0, r1, r2, r3, r4, r5]; try rfl) rfl ?_
    exact ⟨rfl, hbb⟩
  rw [if_neg h1]
  have g9 : (s1 == 9) = false := by simpa using h1
  clear h1
  · have hb0 := fun w => base_any l s0 w0 s1 w1 0 w true
    have hbm : baseM (l, s0, w0, s1, w1, 0) true = 2 := by simp [baseM, bi]
    simp only [hbm] at hb0 ⊢
    have ha := fun o w => ask_any l s0 w0 2 w1 0 w true o
    clear hbm
    simp only [cv, speakM, askM, endM, setT, setS, bi, Bool.not_true, Bool.not_false, if_true, if_false, Bool.false_eq_true] at *
    go_enter Tryd.func37, Tryd.ntmps37
    go_wp2_with fail
    refine (hb0 _).mono ?_
    rintro e wB ⟨rfl, hbB⟩
    have kx := Blk.below (g := w.heap.size) (t := 26) (cs := #[.int .i64 l, .int .i64 s0, .bool w0, .int .i64 s1, .bool w1, .int .i64 0]) (by exact (Blk.new _ _ _).alloc _) hbB (by simp; omega)
    have e1 := kx.frozen 3
    have d1 := kx.cell 3
    have kx2 := kx.set_ 3 (.int .i64 2)
    have d6 := kx2.cell 0
    have d7 := kx2.cell 1
    have d2 := kx2.cell 2
    have d3 := kx2.cell 3
    have d4 := kx2.cell 4
    have d5 := kx2.cell 5
    simp at d1 d6 d7 d2 d3 d4 d5
    have kr := Blk.below (g := w.heap.size + 1) (t := 26) (cs := #[.int .i64 0, .int .i64 0, .bool false, .int .i64 0, .bool false, .int .i64 0]) (by exact Blk.new2 _ _ _ _) hbB (by simp)
    have kr2 := kr.far (p := ⟨w.heap.size, 3, none⟩) (by simp) (.int .i64 2)
    have hbC := (bt (ba2 _ _ _) hbB).setCell (p := ⟨w.heap.size, 3, none⟩) (Nat.le_refl w.heap.size) (.int .i64 2)
    clear kx kx2 kr hbB
    go_wp2_with fail
    refine (ha _ _).mono ?_
    rintro e wA ⟨rfl, hb⟩
    have kz := kr2.below hb kr2.lt
    obtain ⟨c0, f0, c1, f1, c2, f2, c3, f3, c4, f4, c5, f5, r0, r1, r2, r3, r4, r5⟩ := kz.set6 (.int .i64 l) (.int .i64 9) (.bool false) (.int .i64 2) (.bool true) (.int .i64 0)
    have hbb := below_set6 (B := w.heap.size) (w := w) (g := w.heap.size + 1) (bt hbC hb) (by omega) (.int .i64 l) (.int .i64 9) (.bool false) (.int .i64 2) (.bool true) (.int .i64 0)
    clear kz kr2 hbC
    go_wp2
    refine bodyPost_ret (by simp [results, Tryd.results37, go_sem, r0, r1, r2, r3, r4, r5]; try rfl) rfl ?_
    exact ⟨rfl, hbb⟩
set_option maxHeartbeats 2000000 in
theorem back_tt : Calls Tryd.prog 37 #[cv (l, s0, w0, s1, w1, 1), .int .i64 1] w fun e w' => e = .returned (cv (backM (l, s0, w0, s1, w1, 1) true true)) ∧ Below w.heap.size w w' := by
  unfold backM
  have hst : stM (l, s0, w0, s1, w1, 1) true = s1 := rfl
  rw [hst]
  clear hst
  by_cases h1 : s1 = 9
  · subst h1
    rw [if_pos rfl]
    have ha := fun w => speak_any l s0 w0 9 w1 1 w true
    simp only [cv, speakM, askM, endM, setT, setS, bi, Bool.not_true, Bool.not_false, if_true, if_false, Bool.false_eq_true] at *
    go_enter Tryd.func37, Tryd.ntmps37
    go_wp2_with fail
    refine (ha _).mono ?_
    rintro e wA ⟨rfl, hb⟩
    have kz := Blk.below (g := w.heap.size + 1) (t := 26) (cs := #[.int .i64 0, .int .i64 0, .bool false, .int .i64 0, .bool false, .int .i64 0]) (by exact Blk.new2 _ _ _ _) hb (by simp)
    obtain ⟨c0, f0, c1, f1, c2, f2, c3, f3, c4, f4, c5, f5, r0, r1, r2, r3, r4, r5⟩ := kz.set6 (.int .i64 l) (.int .i64 2) (.bool false) (.int .i64 1) (.bool false) (.int .i64 1)
    have hbb := below_set6 (B := w.heap.size) (w := w) (g := w.heap.size + 1) (by first | exact bt (ba2 _ _ _) hb | exact bt (bt (ba2 _ _ _) (bdr _)) hb) (by omega) (.int .i64 l) (.int .i64 2) (.bool false) (.int .i64 1) (.bool false) (.int .i64 1)
    clear kz
    go_wp2
    refine bodyPost_ret (by simp [results, Tryd.results37, go_sem, r0, r1, r2, r3, r4, r5]; try rfl) rfl ?_
    exact ⟨rfl, hbb⟩
  rw [if_neg h1]
  have g9 : (s1 == 9) = false := by simpa using h1
  clear h1
  · have hb0 := fun w => base_any l s0 w0 s1 w1 1 w true
    have hbm : baseM (l, s0, w0, s1, w1, 1) true = 1 := by simp [baseM, bi]
    simp only [hbm] at hb0 ⊢
    have ha := fun o w => ask_any l s0 w0 1 w1 1 w true o
    clear hbm
    simp only [cv, speakM, askM, endM, setT, setS, bi, Bool.not_true, Bool.not_false, if_true, if_false, Bool.false_eq_true] at *
    go_enter Tryd.func37, Tryd.ntmps37
    go_wp2_with fail
    refine (hb0 _).mono ?_
    rintro e wB ⟨rfl, hbB⟩
    have kx := Blk.below (g := w.heap.size) (t := 26) (cs := #[.int .i64 l, .int .i64 s0, .bool w0, .int .i64 s1, .bool w1, .int .i64 1]) (by exact (Blk.new _ _ _).alloc _) hbB (by simp; omega)
    have e1 := kx.frozen 3
    have d1 := kx.cell 3
    have kx2 := kx.set_ 3 (.int .i64 1)
    have d6 := kx2.cell 0
    have d7 := kx2.cell 1
    have d2 := kx2.cell 2
    have d3 := kx2.cell 3
    have d4 := kx2.cell 4
    have d5 := kx2.cell 5
    simp at d1 d6 d7 d2 d3 d4 d5
    have kr := Blk.below (g := w.heap.size + 1) (t := 26) (cs := #[.int .i64 0, .int .i64 0, .bool false, .int .i64 0, .bool false, .int .i64 0]) (by exact Blk.new2 _ _ _ _) hbB (by simp)
    have kr2 := kr.far (p := ⟨w.heap.size, 3, none⟩) (by simp) (.int .i64 1)
    have hbC := (bt (ba2 _ _ _) hbB).setCell (p := ⟨w.heap.size, 3, none⟩) (Nat.le_refl w.heap.size) (.int .i64 1)
    clear kx kx2 kr hbB
    go_wp2_with fail
    refine (ha _ _).mono ?_
    rintro e wA ⟨rfl, hb⟩
    have kz := kr2.below hb kr2.lt
    obtain ⟨c0, f0, c1, f1, c2, f2, c3, f3, c4, f4, c5, f5, r0, r1, r2, r3, r4, r5⟩ := kz.set6 (.int .i64 l) (.int .i64 9) (.bool false) (.int .i64 1) (.bool true) (.int .i64 1)
    have hbb := below_set6 (B := w.heap.size) (w := w) (g := w.heap.size + 1) (bt hbC hb) (by omega) (.int .i64 l) (.int .i64 9) (.bool false) (.int .i64 1) (.bool true) (.int .i64 1)
    clear kz kr2 hbC
    go_wp2
    refine bodyPost_ret (by simp [results, Tryd.results37, go_sem, r0, r1, r2, r3, r4, r5]; try rfl) rfl ?_
    exact ⟨rfl, hbb⟩
theorem back_any (it tb : Bool) : Calls Tryd.prog 37 #[cv (l, s0, w0, s1, w1, bi tb), .int .i64 (bi it)] w fun e w' => e = .returned (cv (backM (l, s0, w0, s1, w1, bi tb) it tb)) ∧ Below w.heap.size w w' := by
  cases it <;> cases tb
  · exact back_ff l s0 w0 s1 w1 w
  · exact back_ft l s0 w0 s1 w1 w
  · exact back_tf l s0 w0 s1 w1 w
  · exact back_tt l s0 w0 s1 w1 w
theorem sync_any (it : Bool) : Calls Tryd.prog 36 #[cv (l, s0, w0, s1, w1, t), .int .i64 (bi it)] w fun e w' => e = .returned (cv (syncM (l, s0, w0, s1, w1, t) it)) ∧ Below w.heap.size w w' := by
  cases it
  · exact sync_f l s0 w0 s1 w1 t w
  · exact sync_t l s0 w0 s1 w1 t w
end
end Go.Proofs.YtfhfbekphmnbgaaDoor
