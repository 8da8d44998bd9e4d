/- Layer 10: Right and Do. -/
import Derived.Test.YtfhfbekphmnbgaaDoorVf
import Derived.Test.YtfhfbekphmnbgaaDoorVg
import Derived.Test.YtfhfbekphmnbgaaDoorVh
namespace Go.Proofs.YtfhfbekphmnbgaaDoor
open Go.RowKit
set_option linter.unusedVariables false
set_option linter.unusedSimpArgs false

def lvM (n : Int) : Bool := decide (0 ≤ n) && decide (n ≤ 2)
def sdM (n : Int) : Bool := (n == 0) || (n == 1)
def rightM (c : Int × Int × Bool × Int × Bool × Int) : Bool := match c with
  | (l, _, _, _, _, t) => lvM l && (sdM t && (meetM c false || meetM c true))
def zeroC : Int × Int × Bool × Int × Bool × Int := (0, 0, false, 0, false, 0)
def doM (c : Int × Int × Bool × Int × Bool × Int) (side verb : Int) : (Int × Int × Bool × Int × Bool × Int) × Int :=
  if (rightM c && sdM side) = true then
    if 1 ≤ verb ∧ verb ≤ 13 then
      if (wtM c (decide (side = 1)) || !mayM verb (stM c (decide (side = 1))) c.1) = true then (zeroC, 7) else (actM c (decide (side = 1)) verb, 0)
    else (zeroC, 100)
  else (zeroC, 1)
section
variable (l s0 : Int) (w0 : Bool) (s1 : Int) (w1 : Bool) (t : Int)
set_option maxHeartbeats 2000000 in
theorem right_any (w : World) (h : Meets w) : Calls Tryd.prog 15 #[cv (l, s0, w0, s1, w1, t)] w fun e w' => e = .returned (.bool (rightM (l, s0, w0, s1, w1, t))) ∧ Below w.heap.size w w' := by
  have hl := fun w => isLevel_any l w
  have hs := fun w => isSide_any t w
  have hm0 := fun w h => meet_f l s0 w0 s1 w1 t w h
  have hm1 := fun w h => meet_t l s0 w0 s1 w1 t w h
  have hM0 := h.bt (ba w (.cells #[.int .i64 l, .int .i64 s0, .bool w0, .int .i64 s1, .bool w1, .int .i64 t] 26))
  have hb0 := ba w (.cells #[.int .i64 l, .int .i64 s0, .bool w0, .int .i64 s1, .bool w1, .int .i64 t] 26)
  have hr : rightM (l, s0, w0, s1, w1, t) = (lvM l && (sdM t && (meetM (l, s0, w0, s1, w1, t) false || meetM (l, s0, w0, s1, w1, t) true))) := rfl
  rw [hr]
  clear hr
  have e1 : (decide (0 ≤ l) && decide (l ≤ 2)) = lvM l := rfl
  have e2 : ((t == 0) || (t == 1)) = sdM t := rfl
  rw [e1] at hl
  rw [e2] at hs
  generalize lvM l = L at *
  generalize sdM t = S at *
  generalize meetM (l, s0, w0, s1, w1, t) false = M0 at *
  generalize meetM (l, s0, w0, s1, w1, t) true = M1 at *
  clear e1 e2
  simp only [cv] at *
  cases L
  · go_enter Tryd.func15, Tryd.ntmps15
    go_wp2_with fail
    refine (hl _).mono ?_
    rintro e wA ⟨rfl, rfl⟩
    go_wp2
    go_ret
    exact ⟨rfl, hb0⟩
  cases S
  · go_enter Tryd.func15, Tryd.ntmps15
    go_wp2_with fail
    refine (hl _).mono ?_
    rintro e wA ⟨rfl, rfl⟩
    go_wp2_with fail
    refine (hs _).mono ?_
    rintro e wA ⟨rfl, rfl⟩
    go_wp2
    go_ret
    exact ⟨rfl, hb0⟩
  cases M0
  · go_enter Tryd.func15, Tryd.ntmps15
    go_wp2_with fail
    refine (hl _).mono ?_
    rintro e wA ⟨rfl, rfl⟩
    go_wp2_with fail
    refine (hs _).mono ?_
    rintro e wA ⟨rfl, rfl⟩
    go_wp2_with fail
    refine (hm0 _ hM0).mono ?_
    rintro e wA ⟨rfl, hbA⟩
    have kb := (Blk.new w 26 #[.int .i64 l, .int .i64 s0, .bool w0, .int .i64 s1, .bool w1, .int .i64 t]).below hbA (by simp)
    have c0 := kb.cell 0
    have c1 := kb.cell 1
    have c2 := kb.cell 2
    have c3 := kb.cell 3
    have c4 := kb.cell 4
    have c5 := kb.cell 5
    simp only [List.getElem?_toArray, List.getElem?_cons_zero, List.getElem?_cons_succ] at c0 c1 c2 c3 c4 c5
    go_wp2_with fail
    refine (hm1 _ (hM0.bt hbA)).mono ?_
    rintro e wB ⟨rfl, hbB⟩
    go_wp2
    go_ret
    exact ⟨rfl, bt (bt hb0 hbA) hbB⟩
  · go_enter Tryd.func15, Tryd.ntmps15
    go_wp2_with fail
    refine (hl _).mono ?_
    rintro e wA ⟨rfl, rfl⟩
    go_wp2_with fail
    refine (hs _).mono ?_
    rintro e wA ⟨rfl, rfl⟩
    go_wp2_with fail
    refine (hm0 _ hM0).mono ?_
    rintro e wA ⟨rfl, hbA⟩
    go_wp2
    go_ret
    exact ⟨rfl, bt hb0 hbA⟩
set_option maxHeartbeats 2000000 in
theorem do_bad (side verb : Int) (w : World) (h : Meets w) (hbad : (rightM (l, s0, w0, s1, w1, t) && sdM side) = false) : Calls Tryd.prog 17 #[cv (l, s0, w0, s1, w1, t), .int .i64 side, .int .i64 verb] w fun e w' => e = .returned (.tuple #[cv (doM (l, s0, w0, s1, w1, t) side verb).1, .int .i64 (doM (l, s0, w0, s1, w1, t) side verb).2]) ∧ Below w.heap.size w w' := by
  have hd : doM (l, s0, w0, s1, w1, t) side verb = (zeroC, 1) := if_neg (by rw [hbad]; exact Bool.false_ne_true)
  rw [hd]
  clear hd
  have hs := fun w => isSide_any side w
  have e2 : ((side == 0) || (side == 1)) = sdM side := rfl
  rw [e2] at hs
  have hr := fun w h => right_any l s0 w0 s1 w1 t w h
  have hM0 := h.bt (ba2 w (.cells #[.int .i64 l, .int .i64 s0, .bool w0, .int .i64 s1, .bool w1, .int .i64 t] 26) (.cells #[.int .i64 0, .int .i64 0, .bool false, .int .i64 0, .bool false, .int .i64 0] 26))
  generalize rightM (l, s0, w0, s1, w1, t) = R at *
  generalize sdM side = S at *
  clear e2
  simp only [cv, zeroC] at *
  cases R
  · clear hbad hs
    go_enter Tryd.func17, Tryd.ntmps17
    go_wp2_with fail
    refine (hr _ hM0).mono ?_
    rintro e wA ⟨rfl, hbA⟩
    have kb := Blk.below (g := w.heap.size) (t := 26) (cs := #[.int .i64 l, .int .i64 s0, .bool w0, .int .i64 s1, .bool w1, .int .i64 t]) (by exact (Blk.new _ _ _).alloc _) hbA (by simp; omega)
    have kz := Blk.below (g := w.heap.size + 1) (t := 26) (cs := #[.int .i64 0, .int .i64 0, .bool false, .int .i64 0, .bool false, .int .i64 0]) (by exact Blk.new2 _ _ _ _) hbA (by simp)
    have hbA := bt (ba2 _ _ _) hbA
    obtain ⟨c0, f0, c1, f1, c2, f2, c3, f3, c4, f4, c5, f5, r0, r1, r2, r3, r4, r5⟩ := kz.set6 (.int .i64 0) (.int .i64 0) (.bool false) (.int .i64 0) (.bool false) (.int .i64 0)
    have hbb := below_set6 (B := w.heap.size) (w := w) (g := w.heap.size + 1) hbA (by omega) (.int .i64 0) (.int .i64 0) (.bool false) (.int .i64 0) (.bool false) (.int .i64 0)
    go_wp2
    refine bodyPost_ret (by simp [results, Tryd.results17, go_sem, r0, r1, r2, r3, r4, r5]; try rfl) rfl ?_
    exact ⟨rfl, hbb⟩
  · obtain rfl : S = false := by simpa using hbad
    clear hbad
    go_enter Tryd.func17, Tryd.ntmps17
    go_wp2_with fail
    refine (hr _ hM0).mono ?_
    rintro e wA ⟨rfl, hbA⟩
    have kb := Blk.below (g := w.heap.size) (t := 26) (cs := #[.int .i64 l, .int .i64 s0, .bool w0, .int .i64 s1, .bool w1, .int .i64 t]) (by exact (Blk.new _ _ _).alloc _) hbA (by simp; omega)
    have kz := Blk.below (g := w.heap.size + 1) (t := 26) (cs := #[.int .i64 0, .int .i64 0, .bool false, .int .i64 0, .bool false, .int .i64 0]) (by exact Blk.new2 _ _ _ _) hbA (by simp)
    have hbA := bt (ba2 _ _ _) hbA
    have d0 := kb.cell 0
    have d1 := kb.cell 1
    have d2 := kb.cell 2
    have d3 := kb.cell 3
    have d4 := kb.cell 4
    have d5 := kb.cell 5
    simp only [List.getElem?_toArray, List.getElem?_cons_zero, List.getElem?_cons_succ] at d0 d1 d2 d3 d4 d5
    go_wp2_with fail
    refine (hs _).mono ?_
    rintro e wB ⟨rfl, rfl⟩
    obtain ⟨c0, f0, c1, f1, c2, f2, c3, f3, c4, f4, c5, f5, r0, r1, r2, r3, r4, r5⟩ := kz.set6 (.int .i64 0) (.int .i64 0) (.bool false) (.int .i64 0) (.bool false) (.int .i64 0)
    have hbb := below_set6 (B := w.heap.size) (w := w) (g := w.heap.size + 1) hbA (by omega) (.int .i64 0) (.int .i64 0) (.bool false) (.int .i64 0) (.bool false) (.int .i64 0)
    go_wp2
    refine bodyPost_ret (by simp [results, Tryd.results17, go_sem, r0, r1, r2, r3, r4, r5]; try rfl) rfl ?_
    exact ⟨rfl, hbb⟩

set_option maxHeartbeats 2000000 in
theorem do_verb (it : Bool) (verb : Int) (w : World) (h : Meets w) (hrt : rightM (l, s0, w0, s1, w1, t) = true) (hv : ¬ (1 ≤ verb ∧ verb ≤ 13)) : Calls Tryd.prog 17 #[cv (l, s0, w0, s1, w1, t), .int .i64 (bi it), .int .i64 verb] w fun e w' => e = .returned (.tuple #[cv (doM (l, s0, w0, s1, w1, t) (bi it) verb).1, .int .i64 (doM (l, s0, w0, s1, w1, t) (bi it) verb).2]) ∧ Below w.heap.size w w' := by
  have hsd : sdM (bi it) = true := by cases it <;> rfl
  have hd : doM (l, s0, w0, s1, w1, t) (bi it) verb = (zeroC, 100) := by
    unfold doM
    rw [if_pos (by rw [hrt, hsd]; rfl), if_neg hv]
  rw [hd]
  clear hd
  have hs := fun w => isSide_any (bi it) w
  have e2 : ((bi it == 0) || (bi it == 1)) = sdM (bi it) := rfl
  rw [e2, hsd] at hs
  have hr := fun w h => right_any l s0 w0 s1 w1 t w h
  have hM0 := h.bt (ba2 w (.cells #[.int .i64 l, .int .i64 s0, .bool w0, .int .i64 s1, .bool w1, .int .i64 t] 26) (.cells #[.int .i64 0, .int .i64 0, .bool false, .int .i64 0, .bool false, .int .i64 0] 26))
  rw [hrt] at hr
  clear e2 hsd hrt
  generalize bi it = side at *
  simp only [cv, zeroC] at *
  by_cases h1 : verb < 1
  · have g1 : decide (verb < 1) = true := decide_eq_true h1
    clear hv h1
    go_enter Tryd.func17, Tryd.ntmps17
    go_wp2_with fail
    refine (hr _ hM0).mono ?_
    rintro e wA ⟨rfl, hbA⟩
    have kb := Blk.below (g := w.heap.size) (t := 26) (cs := #[.int .i64 l, .int .i64 s0, .bool w0, .int .i64 s1, .bool w1, .int .i64 t]) (by exact (Blk.new _ _ _).alloc _) hbA (by simp; omega)
    have kz := Blk.below (g := w.heap.size + 1) (t := 26) (cs := #[.int .i64 0, .int .i64 0, .bool false, .int .i64 0, .bool false, .int .i64 0]) (by exact Blk.new2 _ _ _ _) hbA (by simp)
    have hbA := bt (ba2 _ _ _) hbA
    have d0 := kb.cell 0
    have d1 := kb.cell 1
    have d2 := kb.cell 2
    have d3 := kb.cell 3
    have d4 := kb.cell 4
    have d5 := kb.cell 5
    simp only [List.getElem?_toArray, List.getElem?_cons_zero, List.getElem?_cons_succ] at d0 d1 d2 d3 d4 d5
    go_wp2_with fail
    refine (hs _).mono ?_
    rintro e wB ⟨rfl, rfl⟩
    obtain ⟨c0, f0, c1, f1, c2, f2, c3, f3, c4, f4, c5, f5, r0, r1, r2, r3, r4, r5⟩ := kz.set6 (.int .i64 0) (.int .i64 0) (.bool false) (.int .i64 0) (.bool false) (.int .i64 0)
    have hbb := below_set6 (B := w.heap.size) (w := w) (g := w.heap.size + 1) hbA (by omega) (.int .i64 0) (.int .i64 0) (.bool false) (.int .i64 0) (.bool false) (.int .i64 0)
    go_wp2
    refine bodyPost_ret (by simp [results, Tryd.results17, go_sem, r0, r1, r2, r3, r4, r5]; try rfl) rfl ?_
    exact ⟨rfl, hbb⟩
  · have g1 : decide (verb < 1) = false := decide_eq_false h1
    have g2 : decide (verb > 13) = true := decide_eq_true (by omega)
    have g3 : decide (13 < verb) = true := g2
    clear hv h1
    go_enter Tryd.func17, Tryd.ntmps17
    go_wp2_with fail
    refine (hr _ hM0).mono ?_
    rintro e wA ⟨rfl, hbA⟩
    have kb := Blk.below (g := w.heap.size) (t := 26) (cs := #[.int .i64 l, .int .i64 s0, .bool w0, .int .i64 s1, .bool w1, .int .i64 t]) (by exact (Blk.new _ _ _).alloc _) hbA (by simp; omega)
    have kz := Blk.below (g := w.heap.size + 1) (t := 26) (cs := #[.int .i64 0, .int .i64 0, .bool false, .int .i64 0, .bool false, .int .i64 0]) (by exact Blk.new2 _ _ _ _) hbA (by simp)
    have hbA := bt (ba2 _ _ _) hbA
    have d0 := kb.cell 0
    have d1 := kb.cell 1
    have d2 := kb.cell 2
    have d3 := kb.cell 3
    have d4 := kb.cell 4
    have d5 := kb.cell 5
    simp only [List.getElem?_toArray, List.getElem?_cons_zero, List.getElem?_cons_succ] at d0 d1 d2 d3 d4 d5
    go_wp2_with fail
    refine (hs _).mono ?_
    rintro e wB ⟨rfl, rfl⟩
    obtain ⟨c0, f0, c1, f1, c2, f2, c3, f3, c4, f4, c5, f5, r0, r1, r2, r3, r4, r5⟩ := kz.set6 (.int .i64 0) (.int .i64 0) (.bool false) (.int .i64 0) (.bool false) (.int .i64 0)
    have hbb := below_set6 (B := w.heap.size) (w := w) (g := w.heap.size + 1) hbA (by omega) (.int .i64 0) (.int .i64 0) (.bool false) (.int .i64 0) (.bool false) (.int .i64 0)
    go_wp2
    refine bodyPost_ret (by simp [results, Tryd.results17, go_sem, r0, r1, r2, r3, r4, r5]; try rfl) rfl ?_
    exact ⟨rfl, hbb⟩

end
end Go.Proofs.YtfhfbekphmnbgaaDoor
