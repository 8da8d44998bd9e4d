/- Layer 10: sync points and backouts (P10.5), side and turn known. -/
import Derived.Test.YtflaliadiihhbaaDoorVp
namespace Go.Proofs.YtflaliadiihhbaaDoor
open Go.RowKit
set_option linter.unusedVariables false
set_option linter.unusedSimpArgs false

set_option maxRecDepth 100000 in
set_option maxHeartbeats 8000000 in
theorem convSyncs_10 (l s0 : Int) (w0 : Bool) (s1 : Int) (w1 : Bool) (w : World) (hM : Meets w) (hR : rightM (l, s0, w0, s1, w1, 0) = true) : Calls Tryd.prog 8 #[cv (l, s0, w0, s1, w1, 0), .int .i64 1] w fun e w' => e = .returned (.bool true) ∧ Below w.heap.size w w' := by
  have ha := fun w h => alive_any w h
  have hr := fun w h => right_any l s0 w0 s1 w1 0 w h
  have hd1 := fun w h => do_any l s0 w0 s1 w1 0 1 10 w h
  have hd3 := fun w h => do_any l s0 w0 s1 w1 0 1 13 w h
  have hQ := all_convs QS QS_all hR (s := 1) rfl
  unfold QS at hQ
  rw [hR] at hQ hr
  have hst : stM (l, s0, w0, s1, w1, 0) ((1 : Int) == 1) = s1 := rfl
  rw [hst] at hQ
  obtain ⟨⟨y0, y1, y2, y3, y4, y5⟩, E, hy⟩ : ∃ d E, doM (l, s0, w0, s1, w1, 0) 1 10 = (d, E) := ⟨_, _, rfl⟩
  obtain ⟨⟨u0, u1, u2, u3, u4, u5⟩, H, hu⟩ : ∃ d E, doM (l, s0, w0, s1, w1, 0) 1 13 = (d, E) := ⟨_, _, rfl⟩
  rw [hy, hu] at hQ
  rw [hy] at hd1
  rw [hu] at hd3
  have hwt : wtM (y0, y1, y2, y3, y4, y5) ((1 : Int) == 1) = y4 := rfl
  have hsb : (1 - (1 : Int)) = 0 := rfl
  rw [hsb] at hQ
  simp only [] at hQ
  rw [hwt] at hQ
  obtain ⟨⟨z0, z1, z2, z3, z4, z5⟩, G, hz⟩ : ∃ d E, doM (y0, y1, y2, y3, y4, y5) 0 10 = (d, E) := ⟨_, _, rfl⟩
  obtain ⟨⟨k0, k1, k2, k3, k4, k5⟩, J, hk⟩ : ∃ d E, doM (u0, u1, u2, u3, u4, u5) 0 13 = (d, E) := ⟨_, _, rfl⟩
  have hd2 := fun w h => do_any y0 y1 y2 y3 y4 y5 0 10 w h
  have hd4 := fun w h => do_any u0 u1 u2 u3 u4 u5 0 13 w h
  rw [hz, hk] at hQ
  rw [hz] at hd2
  rw [hk] at hd4
  clear hy hu hz hk hst hwt hR hsb
  simp only [stM, Bool.not_true, Bool.false_or, if_true, if_false, Bool.false_eq_true] at hQ
  rw [Bool.and_eq_true] at hQ
  obtain ⟨q1, q2⟩ := hQ
  simp only [cv] at *
  rcases e1 : (E == 0) with _ | _
  · clear q1
    rcases e3 : (H == 0) with _ | _
    · have f3 : (H != 0) = true := by simpa using e3
      clear q2
      go_enter Tryd.func8, Tryd.ntmps8
      have hbw := Below.refl w.heap.size w
      have kb := Blk.new w 26 #[.int .i64 l, .int .i64 s0, .bool w0, .int .i64 s1, .bool w1, .int .i64 0]
      have hbw := bt hbw (ba w (.cells #[.int .i64 l, .int .i64 s0, .bool w0, .int .i64 s1, .bool w1, .int .i64 0] 26))
      have hM := hM.bt (ba w (.cells #[.int .i64 l, .int .i64 s0, .bool w0, .int .i64 s1, .bool w1, .int .i64 0] 26))
      have cb0 := kb.cell 0
      have cb1 := kb.cell 1
      have cb2 := kb.cell 2
      have cb3 := kb.cell 3
      have cb4 := kb.cell 4
      have cb5 := kb.cell 5
      simp only [List.getElem?_toArray, List.getElem?_cons_zero, List.getElem?_cons_succ] at cb0 cb1 cb2 cb3 cb4 cb5
      go_wp2_with fail
      refine (hr _ hM).mono ?_
      rintro e v1 ⟨rfl, hb⟩
      have kb := kb.below hb kb.lt
      have hbw := bt hbw hb
      have hM := hM.bt hb
      clear hb
      clear cb0 cb1 cb2 cb3 cb4 cb5
      have cb0 := kb.cell 0
      have cb1 := kb.cell 1
      have cb2 := kb.cell 2
      have cb3 := kb.cell 3
      have cb4 := kb.cell 4
      have cb5 := kb.cell 5
      simp only [List.getElem?_toArray, List.getElem?_cons_zero, List.getElem?_cons_succ] at cb0 cb1 cb2 cb3 cb4 cb5
      go_wp2_with fail
      refine (hd1 _ hM).mono ?_
      rintro e v2 ⟨rfl, hb⟩
      have kb := kb.below hb kb.lt
      have hbw := bt hbw hb
      have hM := hM.bt hb
      clear hb
      clear cb0 cb1 cb2 cb3 cb4 cb5
      have kb := kb.alloc (.cells #[.int .i64 y0, .int .i64 y1, .bool y2, .int .i64 y3, .bool y4, .int .i64 y5] 26)
      have kd := Blk.new v2 26 #[.int .i64 y0, .int .i64 y1, .bool y2, .int .i64 y3, .bool y4, .int .i64 y5]
      have hbw := bt hbw (ba v2 (.cells #[.int .i64 y0, .int .i64 y1, .bool y2, .int .i64 y3, .bool y4, .int .i64 y5] 26))
      have hM := hM.bt (ba v2 (.cells #[.int .i64 y0, .int .i64 y1, .bool y2, .int .i64 y3, .bool y4, .int .i64 y5] 26))
      have cb0 := kb.cell 0
      have cb1 := kb.cell 1
      have cb2 := kb.cell 2
      have cb3 := kb.cell 3
      have cb4 := kb.cell 4
      have cb5 := kb.cell 5
      simp only [List.getElem?_toArray, List.getElem?_cons_zero, List.getElem?_cons_succ] at cb0 cb1 cb2 cb3 cb4 cb5
      have cd0 := kd.cell 0
      have cd1 := kd.cell 1
      have cd2 := kd.cell 2
      have cd3 := kd.cell 3
      have cd4 := kd.cell 4
      have cd5 := kd.cell 5
      simp only [List.getElem?_toArray, List.getElem?_cons_zero, List.getElem?_cons_succ] at cd0 cd1 cd2 cd3 cd4 cd5
      go_wp2_with fail
      refine (hd2 _ hM).mono ?_
      rintro e v3 ⟨rfl, hb⟩
      have kb := kb.below hb kb.lt
      have kd := kd.below hb kd.lt
      have hbw := bt hbw hb
      have hM := hM.bt hb
      clear hb
      clear cb0 cb1 cb2 cb3 cb4 cb5 cd0 cd1 cd2 cd3 cd4 cd5
      have kb := kb.alloc (.cells #[.int .i64 z0, .int .i64 z1, .bool z2, .int .i64 z3, .bool z4, .int .i64 z5] 26)
      have kd := kd.alloc (.cells #[.int .i64 z0, .int .i64 z1, .bool z2, .int .i64 z3, .bool z4, .int .i64 z5] 26)
      have kf := Blk.new v3 26 #[.int .i64 z0, .int .i64 z1, .bool z2, .int .i64 z3, .bool z4, .int .i64 z5]
      have hbw := bt hbw (ba v3 (.cells #[.int .i64 z0, .int .i64 z1, .bool z2, .int .i64 z3, .bool z4, .int .i64 z5] 26))
      have hM := hM.bt (ba v3 (.cells #[.int .i64 z0, .int .i64 z1, .bool z2, .int .i64 z3, .bool z4, .int .i64 z5] 26))
      have cb0 := kb.cell 0
      have cb1 := kb.cell 1
      have cb2 := kb.cell 2
      have cb3 := kb.cell 3
      have cb4 := kb.cell 4
      have cb5 := kb.cell 5
      simp only [List.getElem?_toArray, List.getElem?_cons_zero, List.getElem?_cons_succ] at cb0 cb1 cb2 cb3 cb4 cb5
      have cd0 := kd.cell 0
      have cd1 := kd.cell 1
      have cd2 := kd.cell 2
      have cd3 := kd.cell 3
      have cd4 := kd.cell 4
      have cd5 := kd.cell 5
      simp only [List.getElem?_toArray, List.getElem?_cons_zero, List.getElem?_cons_succ] at cd0 cd1 cd2 cd3 cd4 cd5
      have cf0 := kf.cell 0
      have cf1 := kf.cell 1
      have cf2 := kf.cell 2
      have cf3 := kf.cell 3
      have cf4 := kf.cell 4
      have cf5 := kf.cell 5
      simp only [List.getElem?_toArray, List.getElem?_cons_zero, List.getElem?_cons_succ] at cf0 cf1 cf2 cf3 cf4 cf5
      go_wp2_with fail
      refine (hd3 _ hM).mono ?_
      rintro e v4 ⟨rfl, hb⟩
      have kb := kb.below hb kb.lt
      have kd := kd.below hb kd.lt
      have kf := kf.below hb kf.lt
      have hbw := bt hbw hb
      have hM := hM.bt hb
      clear hb
      clear cb0 cb1 cb2 cb3 cb4 cb5 cd0 cd1 cd2 cd3 cd4 cd5 cf0 cf1 cf2 cf3 cf4 cf5
      have kb := kb.alloc (.cells #[.int .i64 u0, .int .i64 u1, .bool u2, .int .i64 u3, .bool u4, .int .i64 u5] 26)
      have kd := kd.alloc (.cells #[.int .i64 u0, .int .i64 u1, .bool u2, .int .i64 u3, .bool u4, .int .i64 u5] 26)
      have kf := kf.alloc (.cells #[.int .i64 u0, .int .i64 u1, .bool u2, .int .i64 u3, .bool u4, .int .i64 u5] 26)
      have kx := Blk.new v4 26 #[.int .i64 u0, .int .i64 u1, .bool u2, .int .i64 u3, .bool u4, .int .i64 u5]
      have hbw := bt hbw (ba v4 (.cells #[.int .i64 u0, .int .i64 u1, .bool u2, .int .i64 u3, .bool u4, .int .i64 u5] 26))
      have hM := hM.bt (ba v4 (.cells #[.int .i64 u0, .int .i64 u1, .bool u2, .int .i64 u3, .bool u4, .int .i64 u5] 26))
      have cb0 := kb.cell 0
      have cb1 := kb.cell 1
      have cb2 := kb.cell 2
      have cb3 := kb.cell 3
      have cb4 := kb.cell 4
      have cb5 := kb.cell 5
      simp only [List.getElem?_toArray, List.getElem?_cons_zero, List.getElem?_cons_succ] at cb0 cb1 cb2 cb3 cb4 cb5
      have cd0 := kd.cell 0
      have cd1 := kd.cell 1
      have cd2 := kd.cell 2
      have cd3 := kd.cell 3
      have cd4 := kd.cell 4
      have cd5 := kd.cell 5
      simp only [List.getElem?_toArray, List.getElem?_cons_zero, List.getElem?_cons_succ] at cd0 cd1 cd2 cd3 cd4 cd5
      have cf0 := kf.cell 0
      have cf1 := kf.cell 1
      have cf2 := kf.cell 2
      have cf3 := kf.cell 3
      have cf4 := kf.cell 4
      have cf5 := kf.cell 5
      simp only [List.getElem?_toArray, List.getElem?_cons_zero, List.getElem?_cons_succ] at cf0 cf1 cf2 cf3 cf4 cf5
      have cx0 := kx.cell 0
      have cx1 := kx.cell 1
      have cx2 := kx.cell 2
      have cx3 := kx.cell 3
      have cx4 := kx.cell 4
      have cx5 := kx.cell 5
      simp only [List.getElem?_toArray, List.getElem?_cons_zero, List.getElem?_cons_succ] at cx0 cx1 cx2 cx3 cx4 cx5
      go_wp2_with fail
      refine (ha _ hM).mono ?_
      rintro e v5 ⟨rfl, hb⟩
      have kb := kb.below hb kb.lt
      have kd := kd.below hb kd.lt
      have kf := kf.below hb kf.lt
      have kx := kx.below hb kx.lt
      have hbw := bt hbw hb
      have hM := hM.bt hb
      clear hb
      clear cb0 cb1 cb2 cb3 cb4 cb5 cd0 cd1 cd2 cd3 cd4 cd5 cf0 cf1 cf2 cf3 cf4 cf5 cx0 cx1 cx2 cx3 cx4 cx5
      have cb0 := kb.cell 0
      have cb1 := kb.cell 1
      have cb2 := kb.cell 2
      have cb3 := kb.cell 3
      have cb4 := kb.cell 4
      have cb5 := kb.cell 5
      simp only [List.getElem?_toArray, List.getElem?_cons_zero, List.getElem?_cons_succ] at cb0 cb1 cb2 cb3 cb4 cb5
      have cd0 := kd.cell 0
      have cd1 := kd.cell 1
      have cd2 := kd.cell 2
      have cd3 := kd.cell 3
      have cd4 := kd.cell 4
      have cd5 := kd.cell 5
      simp only [List.getElem?_toArray, List.getElem?_cons_zero, List.getElem?_cons_succ] at cd0 cd1 cd2 cd3 cd4 cd5
      have cf0 := kf.cell 0
      have cf1 := kf.cell 1
      have cf2 := kf.cell 2
      have cf3 := kf.cell 3
      have cf4 := kf.cell 4
      have cf5 := kf.cell 5
      simp only [List.getElem?_toArray, List.getElem?_cons_zero, List.getElem?_cons_succ] at cf0 cf1 cf2 cf3 cf4 cf5
      have cx0 := kx.cell 0
      have cx1 := kx.cell 1
      have cx2 := kx.cell 2
      have cx3 := kx.cell 3
      have cx4 := kx.cell 4
      have cx5 := kx.cell 5
      simp only [List.getElem?_toArray, List.getElem?_cons_zero, List.getElem?_cons_succ] at cx0 cx1 cx2 cx3 cx4 cx5
      go_wp2
      go_ret
      exact ⟨rfl, hbw⟩
    · have f3 : (H != 0) = false := by simpa using e3
      rcases e4 : (s1 == 9) with _ | _
      · rw [f3, e4] at q2
        simp only [Bool.false_or, Bool.and_eq_true, beq_iff_eq, if_true, Prod.mk.injEq] at q2
        obtain ⟨rfl, rfl, rfl, rfl, rfl, rfl⟩ := q2
        have h23a := eq23 1 false 1 false
        have h23b := eq23 2 false 2 false
        simp only [beq_self_eq_true, Bool.and_self] at h23a h23b
        go_enter Tryd.func8, Tryd.ntmps8
        have hbw := Below.refl w.heap.size w
        have kb := Blk.new w 26 #[.int .i64 l, .int .i64 s0, .bool w0, .int .i64 s1, .bool w1, .int .i64 0]
        have hbw := bt hbw (ba w (.cells #[.int .i64 l, .int .i64 s0, .bool w0, .int .i64 s1, .bool w1, .int .i64 0] 26))
        have hM := hM.bt (ba w (.cells #[.int .i64 l, .int .i64 s0, .bool w0, .int .i64 s1, .bool w1, .int .i64 0] 26))
        have cb0 := kb.cell 0
        have cb1 := kb.cell 1
        have cb2 := kb.cell 2
        have cb3 := kb.cell 3
        have cb4 := kb.cell 4
        have cb5 := kb.cell 5
        simp only [List.getElem?_toArray, List.getElem?_cons_zero, List.getElem?_cons_succ] at cb0 cb1 cb2 cb3 cb4 cb5
        go_wp2_with fail
        refine (hr _ hM).mono ?_
        rintro e v1 ⟨rfl, hb⟩
        have kb := kb.below hb kb.lt
        have hbw := bt hbw hb
        have hM := hM.bt hb
        clear hb
        clear cb0 cb1 cb2 cb3 cb4 cb5
        have cb0 := kb.cell 0
        have cb1 := kb.cell 1
        have cb2 := kb.cell 2
        have cb3 := kb.cell 3
        have cb4 := kb.cell 4
        have cb5 := kb.cell 5
        simp only [List.getElem?_toArray, List.getElem?_cons_zero, List.getElem?_cons_succ] at cb0 cb1 cb2 cb3 cb4 cb5
        go_wp2_with fail
        refine (hd1 _ hM).mono ?_
        rintro e v2 ⟨rfl, hb⟩
        have kb := kb.below hb kb.lt
        have hbw := bt hbw hb
        have hM := hM.bt hb
        clear hb
        clear cb0 cb1 cb2 cb3 cb4 cb5
        have kb := kb.alloc (.cells #[.int .i64 y0, .int .i64 y1, .bool y2, .int .i64 y3, .bool y4, .int .i64 y5] 26)
        have kd := Blk.new v2 26 #[.int .i64 y0, .int .i64 y1, .bool y2, .int .i64 y3, .bool y4, .int .i64 y5]
        have hbw := bt hbw (ba v2 (.cells #[.int .i64 y0, .int .i64 y1, .bool y2, .int .i64 y3, .bool y4, .int .i64 y5] 26))
        have hM := hM.bt (ba v2 (.cells #[.int .i64 y0, .int .i64 y1, .bool y2, .int .i64 y3, .bool y4, .int .i64 y5] 26))
        have cb0 := kb.cell 0
        have cb1 := kb.cell 1
        have cb2 := kb.cell 2
        have cb3 := kb.cell 3
        have cb4 := kb.cell 4
        have cb5 := kb.cell 5
        simp only [List.getElem?_toArray, List.getElem?_cons_zero, List.getElem?_cons_succ] at cb0 cb1 cb2 cb3 cb4 cb5
        have cd0 := kd.cell 0
        have cd1 := kd.cell 1
        have cd2 := kd.cell 2
        have cd3 := kd.cell 3
        have cd4 := kd.cell 4
        have cd5 := kd.cell 5
        simp only [List.getElem?_toArray, List.getElem?_cons_zero, List.getElem?_cons_succ] at cd0 cd1 cd2 cd3 cd4 cd5
        go_wp2_with fail
        refine (hd2 _ hM).mono ?_
        rintro e v3 ⟨rfl, hb⟩
        have kb := kb.below hb kb.lt
        have kd := kd.below hb kd.lt
        have hbw := bt hbw hb
        have hM := hM.bt hb
        clear hb
        clear cb0 cb1 cb2 cb3 cb4 cb5 cd0 cd1 cd2 cd3 cd4 cd5
        have kb := kb.alloc (.cells #[.int .i64 z0, .int .i64 z1, .bool z2, .int .i64 z3, .bool z4, .int .i64 z5] 26)
        have kd := kd.alloc (.cells #[.int .i64 z0, .int .i64 z1, .bool z2, .int .i64 z3, .bool z4, .int .i64 z5] 26)
        have kf := Blk.new v3 26 #[.int .i64 z0, .int .i64 z1, .bool z2, .int .i64 z3, .bool z4, .int .i64 z5]
        have hbw := bt hbw (ba v3 (.cells #[.int .i64 z0, .int .i64 z1, .bool z2, .int .i64 z3, .bool z4, .int .i64 z5] 26))
        have hM := hM.bt (ba v3 (.cells #[.int .i64 z0, .int .i64 z1, .bool z2, .int .i64 z3, .bool z4, .int .i64 z5] 26))
        have cb0 := kb.cell 0
        have cb1 := kb.cell 1
        have cb2 := kb.cell 2
        have cb3 := kb.cell 3
        have cb4 := kb.cell 4
        have cb5 := kb.cell 5
        simp only [List.getElem?_toArray, List.getElem?_cons_zero, List.getElem?_cons_succ] at cb0 cb1 cb2 cb3 cb4 cb5
        have cd0 := kd.cell 0
        have cd1 := kd.cell 1
        have cd2 := kd.cell 2
        have cd3 := kd.cell 3
        have cd4 := kd.cell 4
        have cd5 := kd.cell 5
        simp only [List.getElem?_toArray, List.getElem?_cons_zero, List.getElem?_cons_succ] at cd0 cd1 cd2 cd3 cd4 cd5
        have cf0 := kf.cell 0
        have cf1 := kf.cell 1
        have cf2 := kf.cell 2
        have cf3 := kf.cell 3
        have cf4 := kf.cell 4
        have cf5 := kf.cell 5
        simp only [List.getElem?_toArray, List.getElem?_cons_zero, List.getElem?_cons_succ] at cf0 cf1 cf2 cf3 cf4 cf5
        go_wp2_with fail
        refine (hd3 _ hM).mono ?_
        rintro e v4 ⟨rfl, hb⟩
        have kb := kb.below hb kb.lt
        have kd := kd.below hb kd.lt
        have kf := kf.below hb kf.lt
        have hbw := bt hbw hb
        have hM := hM.bt hb
        clear hb
        clear cb0 cb1 cb2 cb3 cb4 cb5 cd0 cd1 cd2 cd3 cd4 cd5 cf0 cf1 cf2 cf3 cf4 cf5
        have kb := kb.alloc (.cells #[.int .i64 u0, .int .i64 u1, .bool u2, .int .i64 u3, .bool u4, .int .i64 u5] 26)
        have kd := kd.alloc (.cells #[.int .i64 u0, .int .i64 u1, .bool u2, .int .i64 u3, .bool u4, .int .i64 u5] 26)
        have kf := kf.alloc (.cells #[.int .i64 u0, .int .i64 u1, .bool u2, .int .i64 u3, .bool u4, .int .i64 u5] 26)
        have kx := Blk.new v4 26 #[.int .i64 u0, .int .i64 u1, .bool u2, .int .i64 u3, .bool u4, .int .i64 u5]
        have hbw := bt hbw (ba v4 (.cells #[.int .i64 u0, .int .i64 u1, .bool u2, .int .i64 u3, .bool u4, .int .i64 u5] 26))
        have hM := hM.bt (ba v4 (.cells #[.int .i64 u0, .int .i64 u1, .bool u2, .int .i64 u3, .bool u4, .int .i64 u5] 26))
        have cb0 := kb.cell 0
        have cb1 := kb.cell 1
        have cb2 := kb.cell 2
        have cb3 := kb.cell 3
        have cb4 := kb.cell 4
        have cb5 := kb.cell 5
        simp only [List.getElem?_toArray, List.getElem?_cons_zero, List.getElem?_cons_succ] at cb0 cb1 cb2 cb3 cb4 cb5
        have cd0 := kd.cell 0
        have cd1 := kd.cell 1
        have cd2 := kd.cell 2
        have cd3 := kd.cell 3
        have cd4 := kd.cell 4
        have cd5 := kd.cell 5
        simp only [List.getElem?_toArray, List.getElem?_cons_zero, List.getElem?_cons_succ] at cd0 cd1 cd2 cd3 cd4 cd5
        have cf0 := kf.cell 0
        have cf1 := kf.cell 1
        have cf2 := kf.cell 2
        have cf3 := kf.cell 3
        have cf4 := kf.cell 4
        have cf5 := kf.cell 5
        simp only [List.getElem?_toArray, List.getElem?_cons_zero, List.getElem?_cons_succ] at cf0 cf1 cf2 cf3 cf4 cf5
        have cx0 := kx.cell 0
        have cx1 := kx.cell 1
        have cx2 := kx.cell 2
        have cx3 := kx.cell 3
        have cx4 := kx.cell 4
        have cx5 := kx.cell 5
        simp only [List.getElem?_toArray, List.getElem?_cons_zero, List.getElem?_cons_succ] at cx0 cx1 cx2 cx3 cx4 cx5
        go_wp2_with fail
        refine (hd4 _ hM).mono ?_
        rintro e v5 ⟨rfl, hb⟩
        have kb := kb.below hb kb.lt
        have kd := kd.below hb kd.lt
        have kf := kf.below hb kf.lt
        have kx := kx.below hb kx.lt
        have hbw := bt hbw hb
        have hM := hM.bt hb
        clear hb
        clear cb0 cb1 cb2 cb3 cb4 cb5 cd0 cd1 cd2 cd3 cd4 cd5 cf0 cf1 cf2 cf3 cf4 cf5 cx0 cx1 cx2 cx3 cx4 cx5
        have kb := kb.alloc (.cells #[.int .i64 k0, .int .i64 1, .bool false, .int .i64 2, .bool false, .int .i64 0] 26)
        have kd := kd.alloc (.cells #[.int .i64 k0, .int .i64 1, .bool false, .int .i64 2, .bool false, .int .i64 0] 26)
        have kf := kf.alloc (.cells #[.int .i64 k0, .int .i64 1, .bool false, .int .i64 2, .bool false, .int .i64 0] 26)
        have kx := kx.alloc (.cells #[.int .i64 k0, .int .i64 1, .bool false, .int .i64 2, .bool false, .int .i64 0] 26)
        have ky := Blk.new v5 26 #[.int .i64 k0, .int .i64 1, .bool false, .int .i64 2, .bool false, .int .i64 0]
        have hbw := bt hbw (ba v5 (.cells #[.int .i64 k0, .int .i64 1, .bool false, .int .i64 2, .bool false, .int .i64 0] 26))
        have hM := hM.bt (ba v5 (.cells #[.int .i64 k0, .int .i64 1, .bool false, .int .i64 2, .bool false, .int .i64 0] 26))
        have cb0 := kb.cell 0
        have cb1 := kb.cell 1
        have cb2 := kb.cell 2
        have cb3 := kb.cell 3
        have cb4 := kb.cell 4
        have cb5 := kb.cell 5
        simp only [List.getElem?_toArray, List.getElem?_cons_zero, List.getElem?_cons_succ] at cb0 cb1 cb2 cb3 cb4 cb5
        have cd0 := kd.cell 0
        have cd1 := kd.cell 1
        have cd2 := kd.cell 2
        have cd3 := kd.cell 3
        have cd4 := kd.cell 4
        have cd5 := kd.cell 5
        simp only [List.getElem?_toArray, List.getElem?_cons_zero, List.getElem?_cons_succ] at cd0 cd1 cd2 cd3 cd4 cd5
        have cf0 := kf.cell 0
        have cf1 := kf.cell 1
        have cf2 := kf.cell 2
        have cf3 := kf.cell 3
        have cf4 := kf.cell 4
        have cf5 := kf.cell 5
        simp only [List.getElem?_toArray, List.getElem?_cons_zero, List.getElem?_cons_succ] at cf0 cf1 cf2 cf3 cf4 cf5
        have cx0 := kx.cell 0
        have cx1 := kx.cell 1
        have cx2 := kx.cell 2
        have cx3 := kx.cell 3
        have cx4 := kx.cell 4
        have cx5 := kx.cell 5
        simp only [List.getElem?_toArray, List.getElem?_cons_zero, List.getElem?_cons_succ] at cx0 cx1 cx2 cx3 cx4 cx5
        have cy0 := ky.cell 0
        have cy1 := ky.cell 1
        have cy2 := ky.cell 2
        have cy3 := ky.cell 3
        have cy4 := ky.cell 4
        have cy5 := ky.cell 5
        simp only [List.getElem?_toArray, List.getElem?_cons_zero, List.getElem?_cons_succ] at cy0 cy1 cy2 cy3 cy4 cy5
        go_wp2_with fail
        refine (ha _ hM).mono ?_
        rintro e v6 ⟨rfl, hb⟩
        have kb := kb.below hb kb.lt
        have kd := kd.below hb kd.lt
        have kf := kf.below hb kf.lt
        have kx := kx.below hb kx.lt
        have ky := ky.below hb ky.lt
        have hbw := bt hbw hb
        have hM := hM.bt hb
        clear hb
        clear cb0 cb1 cb2 cb3 cb4 cb5 cd0 cd1 cd2 cd3 cd4 cd5 cf0 cf1 cf2 cf3 cf4 cf5 cx0 cx1 cx2 cx3 cx4 cx5 cy0 cy1 cy2 cy3 cy4 cy5
        have cb0 := kb.cell 0
        have cb1 := kb.cell 1
        have cb2 := kb.cell 2
        have cb3 := kb.cell 3
        have cb4 := kb.cell 4
        have cb5 := kb.cell 5
        simp only [List.getElem?_toArray, List.getElem?_cons_zero, List.getElem?_cons_succ] at cb0 cb1 cb2 cb3 cb4 cb5
        have cd0 := kd.cell 0
        have cd1 := kd.cell 1
        have cd2 := kd.cell 2
        have cd3 := kd.cell 3
        have cd4 := kd.cell 4
        have cd5 := kd.cell 5
        simp only [List.getElem?_toArray, List.getElem?_cons_zero, List.getElem?_cons_succ] at cd0 cd1 cd2 cd3 cd4 cd5
        have cf0 := kf.cell 0
        have cf1 := kf.cell 1
        have cf2 := kf.cell 2
        have cf3 := kf.cell 3
        have cf4 := kf.cell 4
        have cf5 := kf.cell 5
        simp only [List.getElem?_toArray, List.getElem?_cons_zero, List.getElem?_cons_succ] at cf0 cf1 cf2 cf3 cf4 cf5
        have cx0 := kx.cell 0
        have cx1 := kx.cell 1
        have cx2 := kx.cell 2
        have cx3 := kx.cell 3
        have cx4 := kx.cell 4
        have cx5 := kx.cell 5
        simp only [List.getElem?_toArray, List.getElem?_cons_zero, List.getElem?_cons_succ] at cx0 cx1 cx2 cx3 cx4 cx5
        have cy0 := ky.cell 0
        have cy1 := ky.cell 1
        have cy2 := ky.cell 2
        have cy3 := ky.cell 3
        have cy4 := ky.cell 4
        have cy5 := ky.cell 5
        simp only [List.getElem?_toArray, List.getElem?_cons_zero, List.getElem?_cons_succ] at cy0 cy1 cy2 cy3 cy4 cy5
        go_wp2
        go_ret
        exact ⟨rfl, hbw⟩
      · clear q2
        go_enter Tryd.func8, Tryd.ntmps8
        have hbw := Below.refl w.heap.size w
        have kb := Blk.new w 26 #[.int .i64 l, .int .i64 s0, .bool w0, .int .i64 s1, .bool w1, .int .i64 0]
        have hbw := bt hbw (ba w (.cells #[.int .i64 l, .int .i64 s0, .bool w0, .int .i64 s1, .bool w1, .int .i64 0] 26))
        have hM := hM.bt (ba w (.cells #[.int .i64 l, .int .i64 s0, .bool w0, .int .i64 s1, .bool w1, .int .i64 0] 26))
        have cb0 := kb.cell 0
        have cb1 := kb.cell 1
        have cb2 := kb.cell 2
        have cb3 := kb.cell 3
        have cb4 := kb.cell 4
        have cb5 := kb.cell 5
        simp only [List.getElem?_toArray, List.getElem?_cons_zero, List.getElem?_cons_succ] at cb0 cb1 cb2 cb3 cb4 cb5
        go_wp2_with fail
        refine (hr _ hM).mono ?_
        rintro e v1 ⟨rfl, hb⟩
        have kb := kb.below hb kb.lt
        have hbw := bt hbw hb
        have hM := hM.bt hb
        clear hb
        clear cb0 cb1 cb2 cb3 cb4 cb5
        have cb0 := kb.cell 0
        have cb1 := kb.cell 1
        have cb2 := kb.cell 2
        have cb3 := kb.cell 3
        have cb4 := kb.cell 4
        have cb5 := kb.cell 5
        simp only [List.getElem?_toArray, List.getElem?_cons_zero, List.getElem?_cons_succ] at cb0 cb1 cb2 cb3 cb4 cb5
        go_wp2_with fail
        refine (hd1 _ hM).mono ?_
        rintro e v2 ⟨rfl, hb⟩
        have kb := kb.below hb kb.lt
        have hbw := bt hbw hb
        have hM := hM.bt hb
        clear hb
        clear cb0 cb1 cb2 cb3 cb4 cb5
        have kb := kb.alloc (.cells #[.int .i64 y0, .int .i64 y1, .bool y2, .int .i64 y3, .bool y4, .int .i64 y5] 26)
        have kd := Blk.new v2 26 #[.int .i64 y0, .int .i64 y1, .bool y2, .int .i64 y3, .bool y4, .int .i64 y5]
        have hbw := bt hbw (ba v2 (.cells #[.int .i64 y0, .int .i64 y1, .bool y2, .int .i64 y3, .bool y4, .int .i64 y5] 26))
        have hM := hM.bt (ba v2 (.cells #[.int .i64 y0, .int .i64 y1, .bool y2, .int .i64 y3, .bool y4, .int .i64 y5] 26))
        have cb0 := kb.cell 0
        have cb1 := kb.cell 1
        have cb2 := kb.cell 2
        have cb3 := kb.cell 3
        have cb4 := kb.cell 4
        have cb5 := kb.cell 5
        simp only [List.getElem?_toArray, List.getElem?_cons_zero, List.getElem?_cons_succ] at cb0 cb1 cb2 cb3 cb4 cb5
        have cd0 := kd.cell 0
        have cd1 := kd.cell 1
        have cd2 := kd.cell 2
        have cd3 := kd.cell 3
        have cd4 := kd.cell 4
        have cd5 := kd.cell 5
        simp only [List.getElem?_toArray, List.getElem?_cons_zero, List.getElem?_cons_succ] at cd0 cd1 cd2 cd3 cd4 cd5
        go_wp2_with fail
        refine (hd2 _ hM).mono ?_
        rintro e v3 ⟨rfl, hb⟩
        have kb := kb.below hb kb.lt
        have kd := kd.below hb kd.lt
        have hbw := bt hbw hb
        have hM := hM.bt hb
        clear hb
        clear cb0 cb1 cb2 cb3 cb4 cb5 cd0 cd1 cd2 cd3 cd4 cd5
        have kb := kb.alloc (.cells #[.int .i64 z0, .int .i64 z1, .bool z2, .int .i64 z3, .bool z4, .int .i64 z5] 26)
        have kd := kd.alloc (.cells #[.int .i64 z0, .int .i64 z1, .bool z2, .int .i64 z3, .bool z4, .int .i64 z5] 26)
        have kf := Blk.new v3 26 #[.int .i64 z0, .int .i64 z1, .bool z2, .int .i64 z3, .bool z4, .int .i64 z5]
        have hbw := bt hbw (ba v3 (.cells #[.int .i64 z0, .int .i64 z1, .bool z2, .int .i64 z3, .bool z4, .int .i64 z5] 26))
        have hM := hM.bt (ba v3 (.cells #[.int .i64 z0, .int .i64 z1, .bool z2, .int .i64 z3, .bool z4, .int .i64 z5] 26))
        have cb0 := kb.cell 0
        have cb1 := kb.cell 1
        have cb2 := kb.cell 2
        have cb3 := kb.cell 3
        have cb4 := kb.cell 4
        have cb5 := kb.cell 5
        simp only [List.getElem?_toArray, List.getElem?_cons_zero, List.getElem?_cons_succ] at cb0 cb1 cb2 cb3 cb4 cb5
        have cd0 := kd.cell 0
        have cd1 := kd.cell 1
        have cd2 := kd.cell 2
        have cd3 := kd.cell 3
        have cd4 := kd.cell 4
        have cd5 := kd.cell 5
        simp only [List.getElem?_toArray, List.getElem?_cons_zero, List.getElem?_cons_succ] at cd0 cd1 cd2 cd3 cd4 cd5
        have cf0 := kf.cell 0
        have cf1 := kf.cell 1
        have cf2 := kf.cell 2
        have cf3 := kf.cell 3
        have cf4 := kf.cell 4
        have cf5 := kf.cell 5
        simp only [List.getElem?_toArray, List.getElem?_cons_zero, List.getElem?_cons_succ] at cf0 cf1 cf2 cf3 cf4 cf5
        go_wp2_with fail
        refine (hd3 _ hM).mono ?_
        rintro e v4 ⟨rfl, hb⟩
        have kb := kb.below hb kb.lt
        have kd := kd.below hb kd.lt
        have kf := kf.below hb kf.lt
        have hbw := bt hbw hb
        have hM := hM.bt hb
        clear hb
        clear cb0 cb1 cb2 cb3 cb4 cb5 cd0 cd1 cd2 cd3 cd4 cd5 cf0 cf1 cf2 cf3 cf4 cf5
        have kb := kb.alloc (.cells #[.int .i64 u0, .int .i64 u1, .bool u2, .int .i64 u3, .bool u4, .int .i64 u5] 26)
        have kd := kd.alloc (.cells #[.int .i64 u0, .int .i64 u1, .bool u2, .int .i64 u3, .bool u4, .int .i64 u5] 26)
        have kf := kf.alloc (.cells #[.int .i64 u0, .int .i64 u1, .bool u2, .int .i64 u3, .bool u4, .int .i64 u5] 26)
        have kx := Blk.new v4 26 #[.int .i64 u0, .int .i64 u1, .bool u2, .int .i64 u3, .bool u4, .int .i64 u5]
        have hbw := bt hbw (ba v4 (.cells #[.int .i64 u0, .int .i64 u1, .bool u2, .int .i64 u3, .bool u4, .int .i64 u5] 26))
        have hM := hM.bt (ba v4 (.cells #[.int .i64 u0, .int .i64 u1, .bool u2, .int .i64 u3, .bool u4, .int .i64 u5] 26))
        have cb0 := kb.cell 0
        have cb1 := kb.cell 1
        have cb2 := kb.cell 2
        have cb3 := kb.cell 3
        have cb4 := kb.cell 4
        have cb5 := kb.cell 5
        simp only [List.getElem?_toArray, List.getElem?_cons_zero, List.getElem?_cons_succ] at cb0 cb1 cb2 cb3 cb4 cb5
        have cd0 := kd.cell 0
        have cd1 := kd.cell 1
        have cd2 := kd.cell 2
        have cd3 := kd.cell 3
        have cd4 := kd.cell 4
        have cd5 := kd.cell 5
        simp only [List.getElem?_toArray, List.getElem?_cons_zero, List.getElem?_cons_succ] at cd0 cd1 cd2 cd3 cd4 cd5
        have cf0 := kf.cell 0
        have cf1 := kf.cell 1
        have cf2 := kf.cell 2
        have cf3 := kf.cell 3
        have cf4 := kf.cell 4
        have cf5 := kf.cell 5
        simp only [List.getElem?_toArray, List.getElem?_cons_zero, List.getElem?_cons_succ] at cf0 cf1 cf2 cf3 cf4 cf5
        have cx0 := kx.cell 0
        have cx1 := kx.cell 1
        have cx2 := kx.cell 2
        have cx3 := kx.cell 3
        have cx4 := kx.cell 4
        have cx5 := kx.cell 5
        simp only [List.getElem?_toArray, List.getElem?_cons_zero, List.getElem?_cons_succ] at cx0 cx1 cx2 cx3 cx4 cx5
        go_wp2_with fail
        refine (ha _ hM).mono ?_
        rintro e v5 ⟨rfl, hb⟩
        have kb := kb.below hb kb.lt
        have kd := kd.below hb kd.lt
        have kf := kf.below hb kf.lt
        have kx := kx.below hb kx.lt
        have hbw := bt hbw hb
        have hM := hM.bt hb
        clear hb
        clear cb0 cb1 cb2 cb3 cb4 cb5 cd0 cd1 cd2 cd3 cd4 cd5 cf0 cf1 cf2 cf3 cf4 cf5 cx0 cx1 cx2 cx3 cx4 cx5
        have cb0 := kb.cell 0
        have cb1 := kb.cell 1
        have cb2 := kb.cell 2
        have cb3 := kb.cell 3
        have cb4 := kb.cell 4
        have cb5 := kb.cell 5
        simp only [List.getElem?_toArray, List.getElem?_cons_zero, List.getElem?_cons_succ] at cb0 cb1 cb2 cb3 cb4 cb5
        have cd0 := kd.cell 0
        have cd1 := kd.cell 1
        have cd2 := kd.cell 2
        have cd3 := kd.cell 3
        have cd4 := kd.cell 4
        have cd5 := kd.cell 5
        simp only [List.getElem?_toArray, List.getElem?_cons_zero, List.getElem?_cons_succ] at cd0 cd1 cd2 cd3 cd4 cd5
        have cf0 := kf.cell 0
        have cf1 := kf.cell 1
        have cf2 := kf.cell 2
        have cf3 := kf.cell 3
        have cf4 := kf.cell 4
        have cf5 := kf.cell 5
        simp only [List.getElem?_toArray, List.getElem?_cons_zero, List.getElem?_cons_succ] at cf0 cf1 cf2 cf3 cf4 cf5
        have cx0 := kx.cell 0
        have cx1 := kx.cell 1
        have cx2 := kx.cell 2
        have cx3 := kx.cell 3
        have cx4 := kx.cell 4
        have cx5 := kx.cell 5
        simp only [List.getElem?_toArray, List.getElem?_cons_zero, List.getElem?_cons_succ] at cx0 cx1 cx2 cx3 cx4 cx5
        go_wp2
        go_ret
        exact ⟨rfl, hbw⟩
  · have f1 : (E != 0) = false := by simpa using e1
    rw [f1] at q1
    cases y4
    · clear q1
      rcases e3 : (H == 0) with _ | _
      · have f3 : (H != 0) = true := by simpa using e3
        clear q2
        go_enter Tryd.func8, Tryd.ntmps8
        have hbw := Below.refl w.heap.size w
        have kb := Blk.new w 26 #[.int .i64 l, .int .i64 s0, .bool w0, .int .i64 s1, .bool w1, .int .i64 0]
        have hbw := bt hbw (ba w (.cells #[.int .i64 l, .int .i64 s0, .bool w0, .int .i64 s1, .bool w1, .int .i64 0] 26))
        have hM := hM.bt (ba w (.cells #[.int .i64 l, .int .i64 s0, .bool w0, .int .i64 s1, .bool w1, .int .i64 0] 26))
        have cb0 := kb.cell 0
        have cb1 := kb.cell 1
        have cb2 := kb.cell 2
        have cb3 := kb.cell 3
        have cb4 := kb.cell 4
        have cb5 := kb.cell 5
        simp only [List.getElem?_toArray, List.getElem?_cons_zero, List.getElem?_cons_succ] at cb0 cb1 cb2 cb3 cb4 cb5
        go_wp2_with fail
        refine (hr _ hM).mono ?_
        rintro e v1 ⟨rfl, hb⟩
        have kb := kb.below hb kb.lt
        have hbw := bt hbw hb
        have hM := hM.bt hb
        clear hb
        clear cb0 cb1 cb2 cb3 cb4 cb5
        have cb0 := kb.cell 0
        have cb1 := kb.cell 1
        have cb2 := kb.cell 2
        have cb3 := kb.cell 3
        have cb4 := kb.cell 4
        have cb5 := kb.cell 5
        simp only [List.getElem?_toArray, List.getElem?_cons_zero, List.getElem?_cons_succ] at cb0 cb1 cb2 cb3 cb4 cb5
        go_wp2_with fail
        refine (hd1 _ hM).mono ?_
        rintro e v2 ⟨rfl, hb⟩
        have kb := kb.below hb kb.lt
        have hbw := bt hbw hb
        have hM := hM.bt hb
        clear hb
        clear cb0 cb1 cb2 cb3 cb4 cb5
        have kb := kb.alloc (.cells #[.int .i64 y0, .int .i64 y1, .bool y2, .int .i64 y3, .bool false, .int .i64 y5] 26)
        have kd := Blk.new v2 26 #[.int .i64 y0, .int .i64 y1, .bool y2, .int .i64 y3, .bool false, .int .i64 y5]
        have hbw := bt hbw (ba v2 (.cells #[.int .i64 y0, .int .i64 y1, .bool y2, .int .i64 y3, .bool false, .int .i64 y5] 26))
        have hM := hM.bt (ba v2 (.cells #[.int .i64 y0, .int .i64 y1, .bool y2, .int .i64 y3, .bool false, .int .i64 y5] 26))
        have cb0 := kb.cell 0
        have cb1 := kb.cell 1
        have cb2 := kb.cell 2
        have cb3 := kb.cell 3
        have cb4 := kb.cell 4
        have cb5 := kb.cell 5
        simp only [List.getElem?_toArray, List.getElem?_cons_zero, List.getElem?_cons_succ] at cb0 cb1 cb2 cb3 cb4 cb5
        have cd0 := kd.cell 0
        have cd1 := kd.cell 1
        have cd2 := kd.cell 2
        have cd3 := kd.cell 3
        have cd4 := kd.cell 4
        have cd5 := kd.cell 5
        simp only [List.getElem?_toArray, List.getElem?_cons_zero, List.getElem?_cons_succ] at cd0 cd1 cd2 cd3 cd4 cd5
        go_wp2_with fail
        refine (hd2 _ hM).mono ?_
        rintro e v3 ⟨rfl, hb⟩
        have kb := kb.below hb kb.lt
        have kd := kd.below hb kd.lt
        have hbw := bt hbw hb
        have hM := hM.bt hb
        clear hb
        clear cb0 cb1 cb2 cb3 cb4 cb5 cd0 cd1 cd2 cd3 cd4 cd5
        have kb := kb.alloc (.cells #[.int .i64 z0, .int .i64 z1, .bool z2, .int .i64 z3, .bool z4, .int .i64 z5] 26)
        have kd := kd.alloc (.cells #[.int .i64 z0, .int .i64 z1, .bool z2, .int .i64 z3, .bool z4, .int .i64 z5] 26)
        have kf := Blk.new v3 26 #[.int .i64 z0, .int .i64 z1, .bool z2, .int .i64 z3, .bool z4, .int .i64 z5]
        have hbw := bt hbw (ba v3 (.cells #[.int .i64 z0, .int .i64 z1, .bool z2, .int .i64 z3, .bool z4, .int .i64 z5] 26))
        have hM := hM.bt (ba v3 (.cells #[.int .i64 z0, .int .i64 z1, .bool z2, .int .i64 z3, .bool z4, .int .i64 z5] 26))
        have cb0 := kb.cell 0
        have cb1 := kb.cell 1
        have cb2 := kb.cell 2
        have cb3 := kb.cell 3
        have cb4 := kb.cell 4
        have cb5 := kb.cell 5
        simp only [List.getElem?_toArray, List.getElem?_cons_zero, List.getElem?_cons_succ] at cb0 cb1 cb2 cb3 cb4 cb5
        have cd0 := kd.cell 0
        have cd1 := kd.cell 1
        have cd2 := kd.cell 2
        have cd3 := kd.cell 3
        have cd4 := kd.cell 4
        have cd5 := kd.cell 5
        simp only [List.getElem?_toArray, List.getElem?_cons_zero, List.getElem?_cons_succ] at cd0 cd1 cd2 cd3 cd4 cd5
        have cf0 := kf.cell 0
        have cf1 := kf.cell 1
        have cf2 := kf.cell 2
        have cf3 := kf.cell 3
        have cf4 := kf.cell 4
        have cf5 := kf.cell 5
        simp only [List.getElem?_toArray, List.getElem?_cons_zero, List.getElem?_cons_succ] at cf0 cf1 cf2 cf3 cf4 cf5
        go_wp2_with fail
        refine (hd3 _ hM).mono ?_
        rintro e v4 ⟨rfl, hb⟩
        have kb := kb.below hb kb.lt
        have kd := kd.below hb kd.lt
        have kf := kf.below hb kf.lt
        have hbw := bt hbw hb
        have hM := hM.bt hb
        clear hb
        clear cb0 cb1 cb2 cb3 cb4 cb5 cd0 cd1 cd2 cd3 cd4 cd5 cf0 cf1 cf2 cf3 cf4 cf5
        have kb := kb.alloc (.cells #[.int .i64 u0, .int .i64 u1, .bool u2, .int .i64 u3, .bool u4, .int .i64 u5] 26)
        have kd := kd.alloc (.cells #[.int .i64 u0, .int .i64 u1, .bool u2, .int .i64 u3, .bool u4, .int .i64 u5] 26)
        have kf := kf.alloc (.cells #[.int .i64 u0, .int .i64 u1, .bool u2, .int .i64 u3, .bool u4, .int .i64 u5] 26)
        have kx := Blk.new v4 26 #[.int .i64 u0, .int .i64 u1, .bool u2, .int .i64 u3, .bool u4, .int .i64 u5]
        have hbw := bt hbw (ba v4 (.cells #[.int .i64 u0, .int .i64 u1, .bool u2, .int .i64 u3, .bool u4, .int .i64 u5] 26))
        have hM := hM.bt (ba v4 (.cells #[.int .i64 u0, .int .i64 u1, .bool u2, .int .i64 u3, .bool u4, .int .i64 u5] 26))
        have cb0 := kb.cell 0
        have cb1 := kb.cell 1
        have cb2 := kb.cell 2
        have cb3 := kb.cell 3
        have cb4 := kb.cell 4
        have cb5 := kb.cell 5
        simp only [List.getElem?_toArray, List.getElem?_cons_zero, List.getElem?_cons_succ] at cb0 cb1 cb2 cb3 cb4 cb5
        have cd0 := kd.cell 0
        have cd1 := kd.cell 1
        have cd2 := kd.cell 2
        have cd3 := kd.cell 3
        have cd4 := kd.cell 4
        have cd5 := kd.cell 5
        simp only [List.getElem?_toArray, List.getElem?_cons_zero, List.getElem?_cons_succ] at cd0 cd1 cd2 cd3 cd4 cd5
        have cf0 := kf.cell 0
        have cf1 := kf.cell 1
        have cf2 := kf.cell 2
        have cf3 := kf.cell 3
        have cf4 := kf.cell 4
        have cf5 := kf.cell 5
        simp only [List.getElem?_toArray, List.getElem?_cons_zero, List.getElem?_cons_succ] at cf0 cf1 cf2 cf3 cf4 cf5
        have cx0 := kx.cell 0
        have cx1 := kx.cell 1
        have cx2 := kx.cell 2
        have cx3 := kx.cell 3
        have cx4 := kx.cell 4
        have cx5 := kx.cell 5
        simp only [List.getElem?_toArray, List.getElem?_cons_zero, List.getElem?_cons_succ] at cx0 cx1 cx2 cx3 cx4 cx5
        go_wp2_with fail
        refine (ha _ hM).mono ?_
        rintro e v5 ⟨rfl, hb⟩
        have kb := kb.below hb kb.lt
        have kd := kd.below hb kd.lt
        have kf := kf.below hb kf.lt
        have kx := kx.below hb kx.lt
        have hbw := bt hbw hb
        have hM := hM.bt hb
        clear hb
        clear cb0 cb1 cb2 cb3 cb4 cb5 cd0 cd1 cd2 cd3 cd4 cd5 cf0 cf1 cf2 cf3 cf4 cf5 cx0 cx1 cx2 cx3 cx4 cx5
        have cb0 := kb.cell 0
        have cb1 := kb.cell 1
        have cb2 := kb.cell 2
        have cb3 := kb.cell 3
        have cb4 := kb.cell 4
        have cb5 := kb.cell 5
        simp only [List.getElem?_toArray, List.getElem?_cons_zero, List.getElem?_cons_succ] at cb0 cb1 cb2 cb3 cb4 cb5
        have cd0 := kd.cell 0
        have cd1 := kd.cell 1
        have cd2 := kd.cell 2
        have cd3 := kd.cell 3
        have cd4 := kd.cell 4
        have cd5 := kd.cell 5
        simp only [List.getElem?_toArray, List.getElem?_cons_zero, List.getElem?_cons_succ] at cd0 cd1 cd2 cd3 cd4 cd5
        have cf0 := kf.cell 0
        have cf1 := kf.cell 1
        have cf2 := kf.cell 2
        have cf3 := kf.cell 3
        have cf4 := kf.cell 4
        have cf5 := kf.cell 5
        simp only [List.getElem?_toArray, List.getElem?_cons_zero, List.getElem?_cons_succ] at cf0 cf1 cf2 cf3 cf4 cf5
        have cx0 := kx.cell 0
        have cx1 := kx.cell 1
        have cx2 := kx.cell 2
        have cx3 := kx.cell 3
        have cx4 := kx.cell 4
        have cx5 := kx.cell 5
        simp only [List.getElem?_toArray, List.getElem?_cons_zero, List.getElem?_cons_succ] at cx0 cx1 cx2 cx3 cx4 cx5
        go_wp2
        go_ret
        exact ⟨rfl, hbw⟩
      · have f3 : (H != 0) = false := by simpa using e3
        rcases e4 : (s1 == 9) with _ | _
        · rw [f3, e4] at q2
          simp only [Bool.false_or, Bool.and_eq_true, beq_iff_eq, if_true, Prod.mk.injEq] at q2
          obtain ⟨rfl, rfl, rfl, rfl, rfl, rfl⟩ := q2
          have h23a := eq23 1 false 1 false
          have h23b := eq23 2 false 2 false
          simp only [beq_self_eq_true, Bool.and_self] at h23a h23b
          go_enter Tryd.func8, Tryd.ntmps8
          have hbw := Below.refl w.heap.size w
          have kb := Blk.new w 26 #[.int .i64 l, .int .i64 s0, .bool w0, .int .i64 s1, .bool w1, .int .i64 0]
          have hbw := bt hbw (ba w (.cells #[.int .i64 l, .int .i64 s0, .bool w0, .int .i64 s1, .bool w1, .int .i64 0] 26))
          have hM := hM.bt (ba w (.cells #[.int .i64 l, .int .i64 s0, .bool w0, .int .i64 s1, .bool w1, .int .i64 0] 26))
          have cb0 := kb.cell 0
          have cb1 := kb.cell 1
          have cb2 := kb.cell 2
          have cb3 := kb.cell 3
          have cb4 := kb.cell 4
          have cb5 := kb.cell 5
          simp only [List.getElem?_toArray, List.getElem?_cons_zero, List.getElem?_cons_succ] at cb0 cb1 cb2 cb3 cb4 cb5
          go_wp2_with fail
          refine (hr _ hM).mono ?_
          rintro e v1 ⟨rfl, hb⟩
          have kb := kb.below hb kb.lt
          have hbw := bt hbw hb
          have hM := hM.bt hb
          clear hb
          clear cb0 cb1 cb2 cb3 cb4 cb5
          have cb0 := kb.cell 0
          have cb1 := kb.cell 1
          have cb2 := kb.cell 2
          have cb3 := kb.cell 3
          have cb4 := kb.cell 4
          have cb5 := kb.cell 5
          simp only [List.getElem?_toArray, List.getElem?_cons_zero, List.getElem?_cons_succ] at cb0 cb1 cb2 cb3 cb4 cb5
          go_wp2_with fail
          refine (hd1 _ hM).mono ?_
          rintro e v2 ⟨rfl, hb⟩
          have kb := kb.below hb kb.lt
          have hbw := bt hbw hb
          have hM := hM.bt hb
          clear hb
          clear cb0 cb1 cb2 cb3 cb4 cb5
          have kb := kb.alloc (.cells #[.int .i64 y0, .int .i64 y1, .bool y2, .int .i64 y3, .bool false, .int .i64 y5] 26)
          have kd := Blk.new v2 26 #[.int .i64 y0, .int .i64 y1, .bool y2, .int .i64 y3, .bool false, .int .i64 y5]
          have hbw := bt hbw (ba v2 (.cells #[.int .i64 y0, .int .i64 y1, .bool y2, .int .i64 y3, .bool false, .int .i64 y5] 26))
          have hM := hM.bt (ba v2 (.cells #[.int .i64 y0, .int .i64 y1, .bool y2, .int .i64 y3, .bool false, .int .i64 y5] 26))
          have cb0 := kb.cell 0
          have cb1 := kb.cell 1
          have cb2 := kb.cell 2
          have cb3 := kb.cell 3
          have cb4 := kb.cell 4
          have cb5 := kb.cell 5
          simp only [List.getElem?_toArray, List.getElem?_cons_zero, List.getElem?_cons_succ] at cb0 cb1 cb2 cb3 cb4 cb5
          have cd0 := kd.cell 0
          have cd1 := kd.cell 1
          have cd2 := kd.cell 2
          have cd3 := kd.cell 3
          have cd4 := kd.cell 4
          have cd5 := kd.cell 5
          simp only [List.getElem?_toArray, List.getElem?_cons_zero, List.getElem?_cons_succ] at cd0 cd1 cd2 cd3 cd4 cd5
          go_wp2_with fail
          refine (hd2 _ hM).mono ?_
          rintro e v3 ⟨rfl, hb⟩
          have kb := kb.below hb kb.lt
          have kd := kd.below hb kd.lt
          have hbw := bt hbw hb
          have hM := hM.bt hb
          clear hb
          clear cb0 cb1 cb2 cb3 cb4 cb5 cd0 cd1 cd2 cd3 cd4 cd5
          have kb := kb.alloc (.cells #[.int .i64 z0, .int .i64 z1, .bool z2, .int .i64 z3, .bool z4, .int .i64 z5] 26)
          have kd := kd.alloc (.cells #[.int .i64 z0, .int .i64 z1, .bool z2, .int .i64 z3, .bool z4, .int .i64 z5] 26)
          have kf := Blk.new v3 26 #[.int .i64 z0, .int .i64 z1, .bool z2, .int .i64 z3, .bool z4, .int .i64 z5]
          have hbw := bt hbw (ba v3 (.cells #[.int .i64 z0, .int .i64 z1, .bool z2, .int .i64 z3, .bool z4, .int .i64 z5] 26))
          have hM := hM.bt (ba v3 (.cells #[.int .i64 z0, .int .i64 z1, .bool z2, .int .i64 z3, .bool z4, .int .i64 z5] 26))
          have cb0 := kb.cell 0
          have cb1 := kb.cell 1
          have cb2 := kb.cell 2
          have cb3 := kb.cell 3
          have cb4 := kb.cell 4
          have cb5 := kb.cell 5
          simp only [List.getElem?_toArray, List.getElem?_cons_zero, List.getElem?_cons_succ] at cb0 cb1 cb2 cb3 cb4 cb5
          have cd0 := kd.cell 0
          have cd1 := kd.cell 1
          have cd2 := kd.cell 2
          have cd3 := kd.cell 3
          have cd4 := kd.cell 4
          have cd5 := kd.cell 5
          simp only [List.getElem?_toArray, List.getElem?_cons_zero, List.getElem?_cons_succ] at cd0 cd1 cd2 cd3 cd4 cd5
          have cf0 := kf.cell 0
          have cf1 := kf.cell 1
          have cf2 := kf.cell 2
          have cf3 := kf.cell 3
          have cf4 := kf.cell 4
          have cf5 := kf.cell 5
          simp only [List.getElem?_toArray, List.getElem?_cons_zero, List.getElem?_cons_succ] at cf0 cf1 cf2 cf3 cf4 cf5
          go_wp2_with fail
          refine (hd3 _ hM).mono ?_
          rintro e v4 ⟨rfl, hb⟩
          have kb := kb.below hb kb.lt
          have kd := kd.below hb kd.lt
          have kf := kf.below hb kf.lt
          have hbw := bt hbw hb
          have hM := hM.bt hb
          clear hb
          clear cb0 cb1 cb2 cb3 cb4 cb5 cd0 cd1 cd2 cd3 cd4 cd5 cf0 cf1 cf2 cf3 cf4 cf5
          have kb := kb.alloc (.cells #[.int .i64 u0, .int .i64 u1, .bool u2, .int .i64 u3, .bool u4, .int .i64 u5] 26)
          have kd := kd.alloc (.cells #[.int .i64 u0, .int .i64 u1, .bool u2, .int .i64 u3, .bool u4, .int .i64 u5] 26)
          have kf := kf.alloc (.cells #[.int .i64 u0, .int .i64 u1, .bool u2, .int .i64 u3, .bool u4, .int .i64 u5] 26)
          have kx := Blk.new v4 26 #[.int .i64 u0, .int .i64 u1, .bool u2, .int .i64 u3, .bool u4, .int .i64 u5]
          have hbw := bt hbw (ba v4 (.cells #[.int .i64 u0, .int .i64 u1, .bool u2, .int .i64 u3, .bool u4, .int .i64 u5] 26))
          have hM := hM.bt (ba v4 (.cells #[.int .i64 u0, .int .i64 u1, .bool u2, .int .i64 u3, .bool u4, .int .i64 u5] 26))
          have cb0 := kb.cell 0
          have cb1 := kb.cell 1
          have cb2 := kb.cell 2
          have cb3 := kb.cell 3
          have cb4 := kb.cell 4
          have cb5 := kb.cell 5
          simp only [List.getElem?_toArray, List.getElem?_cons_zero, List.getElem?_cons_succ] at cb0 cb1 cb2 cb3 cb4 cb5
          have cd0 := kd.cell 0
          have cd1 := kd.cell 1
          have cd2 := kd.cell 2
          have cd3 := kd.cell 3
          have cd4 := kd.cell 4
          have cd5 := kd.cell 5
          simp only [List.getElem?_toArray, List.getElem?_cons_zero, List.getElem?_cons_succ] at cd0 cd1 cd2 cd3 cd4 cd5
          have cf0 := kf.cell 0
          have cf1 := kf.cell 1
          have cf2 := kf.cell 2
          have cf3 := kf.cell 3
          have cf4 := kf.cell 4
          have cf5 := kf.cell 5
          simp only [List.getElem?_toArray, List.getElem?_cons_zero, List.getElem?_cons_succ] at cf0 cf1 cf2 cf3 cf4 cf5
          have cx0 := kx.cell 0
          have cx1 := kx.cell 1
          have cx2 := kx.cell 2
          have cx3 := kx.cell 3
          have cx4 := kx.cell 4
          have cx5 := kx.cell 5
          simp only [List.getElem?_toArray, List.getElem?_cons_zero, List.getElem?_cons_succ] at cx0 cx1 cx2 cx3 cx4 cx5
          go_wp2_with fail
          refine (hd4 _ hM).mono ?_
          rintro e v5 ⟨rfl, hb⟩
          have kb := kb.below hb kb.lt
          have kd := kd.below hb kd.lt
          have kf := kf.below hb kf.lt
          have kx := kx.below hb kx.lt
          have hbw := bt hbw hb
          have hM := hM.bt hb
          clear hb
          clear cb0 cb1 cb2 cb3 cb4 cb5 cd0 cd1 cd2 cd3 cd4 cd5 cf0 cf1 cf2 cf3 cf4 cf5 cx0 cx1 cx2 cx3 cx4 cx5
          have kb := kb.alloc (.cells #[.int .i64 k0, .int .i64 1, .bool false, .int .i64 2, .bool false, .int .i64 0] 26)
          have kd := kd.alloc (.cells #[.int .i64 k0, .int .i64 1, .bool false, .int .i64 2, .bool false, .int .i64 0] 26)
          have kf := kf.alloc (.cells #[.int .i64 k0, .int .i64 1, .bool false, .int .i64 2, .bool false, .int .i64 0] 26)
          have kx := kx.alloc (.cells #[.int .i64 k0, .int .i64 1, .bool false, .int .i64 2, .bool false, .int .i64 0] 26)
          have ky := Blk.new v5 26 #[.int .i64 k0, .int .i64 1, .bool false, .int .i64 2, .bool false, .int .i64 0]
          have hbw := bt hbw (ba v5 (.cells #[.int .i64 k0, .int .i64 1, .bool false, .int .i64 2, .bool false, .int .i64 0] 26))
          have hM := hM.bt (ba v5 (.cells #[.int .i64 k0, .int .i64 1, .bool false, .int .i64 2, .bool false, .int .i64 0] 26))
          have cb0 := kb.cell 0
          have cb1 := kb.cell 1
          have cb2 := kb.cell 2
          have cb3 := kb.cell 3
          have cb4 := kb.cell 4
          have cb5 := kb.cell 5
          simp only [List.getElem?_toArray, List.getElem?_cons_zero, List.getElem?_cons_succ] at cb0 cb1 cb2 cb3 cb4 cb5
          have cd0 := kd.cell 0
          have cd1 := kd.cell 1
          have cd2 := kd.cell 2
          have cd3 := kd.cell 3
          have cd4 := kd.cell 4
          have cd5 := kd.cell 5
          simp only [List.getElem?_toArray, List.getElem?_cons_zero, List.getElem?_cons_succ] at cd0 cd1 cd2 cd3 cd4 cd5
          have cf0 := kf.cell 0
          have cf1 := kf.cell 1
          have cf2 := kf.cell 2
          have cf3 := kf.cell 3
          have cf4 := kf.cell 4
          have cf5 := kf.cell 5
          simp only [List.getElem?_toArray, List.getElem?_cons_zero, List.getElem?_cons_succ] at cf0 cf1 cf2 cf3 cf4 cf5
          have cx0 := kx.cell 0
          have cx1 := kx.cell 1
          have cx2 := kx.cell 2
          have cx3 := kx.cell 3
          have cx4 := kx.cell 4
          have cx5 := kx.cell 5
          simp only [List.getElem?_toArray, List.getElem?_cons_zero, List.getElem?_cons_succ] at cx0 cx1 cx2 cx3 cx4 cx5
          have cy0 := ky.cell 0
          have cy1 := ky.cell 1
          have cy2 := ky.cell 2
          have cy3 := ky.cell 3
          have cy4 := ky.cell 4
          have cy5 := ky.cell 5
          simp only [List.getElem?_toArray, List.getElem?_cons_zero, List.getElem?_cons_succ] at cy0 cy1 cy2 cy3 cy4 cy5
          go_wp2_with fail
          refine (ha _ hM).mono ?_
          rintro e v6 ⟨rfl, hb⟩
          have kb := kb.below hb kb.lt
          have kd := kd.below hb kd.lt
          have kf := kf.below hb kf.lt
          have kx := kx.below hb kx.lt
          have ky := ky.below hb ky.lt
          have hbw := bt hbw hb
          have hM := hM.bt hb
          clear hb
          clear cb0 cb1 cb2 cb3 cb4 cb5 cd0 cd1 cd2 cd3 cd4 cd5 cf0 cf1 cf2 cf3 cf4 cf5 cx0 cx1 cx2 cx3 cx4 cx5 cy0 cy1 cy2 cy3 cy4 cy5
          have cb0 := kb.cell 0
          have cb1 := kb.cell 1
          have cb2 := kb.cell 2
          have cb3 := kb.cell 3
          have cb4 := kb.cell 4
          have cb5 := kb.cell 5
          simp only [List.getElem?_toArray, List.getElem?_cons_zero, List.getElem?_cons_succ] at cb0 cb1 cb2 cb3 cb4 cb5
          have cd0 := kd.cell 0
          have cd1 := kd.cell 1
          have cd2 := kd.cell 2
          have cd3 := kd.cell 3
          have cd4 := kd.cell 4
          have cd5 := kd.cell 5
          simp only [List.getElem?_toArray, List.getElem?_cons_zero, List.getElem?_cons_succ] at cd0 cd1 cd2 cd3 cd4 cd5
          have cf0 := kf.cell 0
          have cf1 := kf.cell 1
          have cf2 := kf.cell 2
          have cf3 := kf.cell 3
          have cf4 := kf.cell 4
          have cf5 := kf.cell 5
          simp only [List.getElem?_toArray, List.getElem?_cons_zero, List.getElem?_cons_succ] at cf0 cf1 cf2 cf3 cf4 cf5
          have cx0 := kx.cell 0
          have cx1 := kx.cell 1
          have cx2 := kx.cell 2
          have cx3 := kx.cell 3
          have cx4 := kx.cell 4
          have cx5 := kx.cell 5
          simp only [List.getElem?_toArray, List.getElem?_cons_zero, List.getElem?_cons_succ] at cx0 cx1 cx2 cx3 cx4 cx5
          have cy0 := ky.cell 0
          have cy1 := ky.cell 1
          have cy2 := ky.cell 2
          have cy3 := ky.cell 3
          have cy4 := ky.cell 4
          have cy5 := ky.cell 5
          simp only [List.getElem?_toArray, List.getElem?_cons_zero, List.getElem?_cons_succ] at cy0 cy1 cy2 cy3 cy4 cy5
          go_wp2
          go_ret
          exact ⟨rfl, hbw⟩
        · clear q2
          go_enter Tryd.func8, Tryd.ntmps8
          have hbw := Below.refl w.heap.size w
          have kb := Blk.new w 26 #[.int .i64 l, .int .i64 s0, .bool w0, .int .i64 s1, .bool w1, .int .i64 0]
          have hbw := bt hbw (ba w (.cells #[.int .i64 l, .int .i64 s0, .bool w0, .int .i64 s1, .bool w1, .int .i64 0] 26))
          have hM := hM.bt (ba w (.cells #[.int .i64 l, .int .i64 s0, .bool w0, .int .i64 s1, .bool w1, .int .i64 0] 26))
          have cb0 := kb.cell 0
          have cb1 := kb.cell 1
          have cb2 := kb.cell 2
          have cb3 := kb.cell 3
          have cb4 := kb.cell 4
          have cb5 := kb.cell 5
          simp only [List.getElem?_toArray, List.getElem?_cons_zero, List.getElem?_cons_succ] at cb0 cb1 cb2 cb3 cb4 cb5
          go_wp2_with fail
          refine (hr _ hM).mono ?_
          rintro e v1 ⟨rfl, hb⟩
          have kb := kb.below hb kb.lt
          have hbw := bt hbw hb
          have hM := hM.bt hb
          clear hb
          clear cb0 cb1 cb2 cb3 cb4 cb5
          have cb0 := kb.cell 0
          have cb1 := kb.cell 1
          have cb2 := kb.cell 2
          have cb3 := kb.cell 3
          have cb4 := kb.cell 4
          have cb5 := kb.cell 5
          simp only [List.getElem?_toArray, List.getElem?_cons_zero, List.getElem?_cons_succ] at cb0 cb1 cb2 cb3 cb4 cb5
          go_wp2_with fail
          refine (hd1 _ hM).mono ?_
          rintro e v2 ⟨rfl, hb⟩
          have kb := kb.below hb kb.lt
          have hbw := bt hbw hb
          have hM := hM.bt hb
          clear hb
          clear cb0 cb1 cb2 cb3 cb4 cb5
          have kb := kb.alloc (.cells #[.int .i64 y0, .int .i64 y1, .bool y2, .int .i64 y3, .bool false, .int .i64 y5] 26)
          have kd := Blk.new v2 26 #[.int .i64 y0, .int .i64 y1, .bool y2, .int .i64 y3, .bool false, .int .i64 y5]
          have hbw := bt hbw (ba v2 (.cells #[.int .i64 y0, .int .i64 y1, .bool y2, .int .i64 y3, .bool false, .int .i64 y5] 26))
          have hM := hM.bt (ba v2 (.cells #[.int .i64 y0, .int .i64 y1, .bool y2, .int .i64 y3, .bool false, .int .i64 y5] 26))
          have cb0 := kb.cell 0
          have cb1 := kb.cell 1
          have cb2 := kb.cell 2
          have cb3 := kb.cell 3
          have cb4 := kb.cell 4
          have cb5 := kb.cell 5
          simp only [List.getElem?_toArray, List.getElem?_cons_zero, List.getElem?_cons_succ] at cb0 cb1 cb2 cb3 cb4 cb5
          have cd0 := kd.cell 0
          have cd1 := kd.cell 1
          have cd2 := kd.cell 2
          have cd3 := kd.cell 3
          have cd4 := kd.cell 4
          have cd5 := kd.cell 5
          simp only [List.getElem?_toArray, List.getElem?_cons_zero, List.getElem?_cons_succ] at cd0 cd1 cd2 cd3 cd4 cd5
          go_wp2_with fail
          refine (hd2 _ hM).mono ?_
          rintro e v3 ⟨rfl, hb⟩
          have kb := kb.below hb kb.lt
          have kd := kd.below hb kd.lt
          have hbw := bt hbw hb
          have hM := hM.bt hb
          clear hb
          clear cb0 cb1 cb2 cb3 cb4 cb5 cd0 cd1 cd2 cd3 cd4 cd5
          have kb := kb.alloc (.cells #[.int .i64 z0, .int .i64 z1, .bool z2, .int .i64 z3, .bool z4, .int .i64 z5] 26)
          have kd := kd.alloc (.cells #[.int .i64 z0, .int .i64 z1, .bool z2, .int .i64 z3, .bool z4, .int .i64 z5] 26)
          have kf := Blk.new v3 26 #[.int .i64 z0, .int .i64 z1, .bool z2, .int .i64 z3, .bool z4, .int .i64 z5]
          have hbw := bt hbw (ba v3 (.cells #[.int .i64 z0, .int .i64 z1, .bool z2, .int .i64 z3, .bool z4, .int .i64 z5] 26))
          have hM := hM.bt (ba v3 (.cells #[.int .i64 z0, .int .i64 z1, .bool z2, .int .i64 z3, .bool z4, .int .i64 z5] 26))
          have cb0 := kb.cell 0
          have cb1 := kb.cell 1
          have cb2 := kb.cell 2
          have cb3 := kb.cell 3
          have cb4 := kb.cell 4
          have cb5 := kb.cell 5
          simp only [List.getElem?_toArray, List.getElem?_cons_zero, List.getElem?_cons_succ] at cb0 cb1 cb2 cb3 cb4 cb5
          have cd0 := kd.cell 0
          have cd1 := kd.cell 1
          have cd2 := kd.cell 2
          have cd3 := kd.cell 3
          have cd4 := kd.cell 4
          have cd5 := kd.cell 5
          simp only [List.getElem?_toArray, List.getElem?_cons_zero, List.getElem?_cons_succ] at cd0 cd1 cd2 cd3 cd4 cd5
          have cf0 := kf.cell 0
          have cf1 := kf.cell 1
          have cf2 := kf.cell 2
          have cf3 := kf.cell 3
          have cf4 := kf.cell 4
          have cf5 := kf.cell 5
          simp only [List.getElem?_toArray, List.getElem?_cons_zero, List.getElem?_cons_succ] at cf0 cf1 cf2 cf3 cf4 cf5
          go_wp2_with fail
          refine (hd3 _ hM).mono ?_
          rintro e v4 ⟨rfl, hb⟩
          have kb := kb.below hb kb.lt
          have kd := kd.below hb kd.lt
          have kf := kf.below hb kf.lt
          have hbw := bt hbw hb
          have hM := hM.bt hb
          clear hb
          clear cb0 cb1 cb2 cb3 cb4 cb5 cd0 cd1 cd2 cd3 cd4 cd5 cf0 cf1 cf2 cf3 cf4 cf5
          have kb := kb.alloc (.cells #[.int .i64 u0, .int .i64 u1, .bool u2, .int .i64 u3, .bool u4, .int .i64 u5] 26)
          have kd := kd.alloc (.cells #[.int .i64 u0, .int .i64 u1, .bool u2, .int .i64 u3, .bool u4, .int .i64 u5] 26)
          have kf := kf.alloc (.cells #[.int .i64 u0, .int .i64 u1, .bool u2, .int .i64 u3, .bool u4, .int .i64 u5] 26)
          have kx := Blk.new v4 26 #[.int .i64 u0, .int .i64 u1, .bool u2, .int .i64 u3, .bool u4, .int .i64 u5]
          have hbw := bt hbw (ba v4 (.cells #[.int .i64 u0, .int .i64 u1, .bool u2, .int .i64 u3, .bool u4, .int .i64 u5] 26))
          have hM := hM.bt (ba v4 (.cells #[.int .i64 u0, .int .i64 u1, .bool u2, .int .i64 u3, .bool u4, .int .i64 u5] 26))
          have cb0 := kb.cell 0
          have cb1 := kb.cell 1
          have cb2 := kb.cell 2
          have cb3 := kb.cell 3
          have cb4 := kb.cell 4
          have cb5 := kb.cell 5
          simp only [List.getElem?_toArray, List.getElem?_cons_zero, List.getElem?_cons_succ] at cb0 cb1 cb2 cb3 cb4 cb5
          have cd0 := kd.cell 0
          have cd1 := kd.cell 1
          have cd2 := kd.cell 2
          have cd3 := kd.cell 3
          have cd4 := kd.cell 4
          have cd5 := kd.cell 5
          simp only [List.getElem?_toArray, List.getElem?_cons_zero, List.getElem?_cons_succ] at cd0 cd1 cd2 cd3 cd4 cd5
          have cf0 := kf.cell 0
          have cf1 := kf.cell 1
          have cf2 := kf.cell 2
          have cf3 := kf.cell 3
          have cf4 := kf.cell 4
          have cf5 := kf.cell 5
          simp only [List.getElem?_toArray, List.getElem?_cons_zero, List.getElem?_cons_succ] at cf0 cf1 cf2 cf3 cf4 cf5
          have cx0 := kx.cell 0
          have cx1 := kx.cell 1
          have cx2 := kx.cell 2
          have cx3 := kx.cell 3
          have cx4 := kx.cell 4
          have cx5 := kx.cell 5
          simp only [List.getElem?_toArray, List.getElem?_cons_zero, List.getElem?_cons_succ] at cx0 cx1 cx2 cx3 cx4 cx5
          go_wp2_with fail
          refine (ha _ hM).mono ?_
          rintro e v5 ⟨rfl, hb⟩
          have kb := kb.below hb kb.lt
          have kd := kd.below hb kd.lt
          have kf := kf.below hb kf.lt
          have kx := kx.below hb kx.lt
          have hbw := bt hbw hb
          have hM := hM.bt hb
          clear hb
          clear cb0 cb1 cb2 cb3 cb4 cb5 cd0 cd1 cd2 cd3 cd4 cd5 cf0 cf1 cf2 cf3 cf4 cf5 cx0 cx1 cx2 cx3 cx4 cx5
          have cb0 := kb.cell 0
          have cb1 := kb.cell 1
          have cb2 := kb.cell 2
          have cb3 := kb.cell 3
          have cb4 := kb.cell 4
          have cb5 := kb.cell 5
          simp only [List.getElem?_toArray, List.getElem?_cons_zero, List.getElem?_cons_succ] at cb0 cb1 cb2 cb3 cb4 cb5
          have cd0 := kd.cell 0
          have cd1 := kd.cell 1
          have cd2 := kd.cell 2
          have cd3 := kd.cell 3
          have cd4 := kd.cell 4
          have cd5 := kd.cell 5
          simp only [List.getElem?_toArray, List.getElem?_cons_zero, List.getElem?_cons_succ] at cd0 cd1 cd2 cd3 cd4 cd5
          have cf0 := kf.cell 0
          have cf1 := kf.cell 1
          have cf2 := kf.cell 2
          have cf3 := kf.cell 3
          have cf4 := kf.cell 4
          have cf5 := kf.cell 5
          simp only [List.getElem?_toArray, List.getElem?_cons_zero, List.getElem?_cons_succ] at cf0 cf1 cf2 cf3 cf4 cf5
          have cx0 := kx.cell 0
          have cx1 := kx.cell 1
          have cx2 := kx.cell 2
          have cx3 := kx.cell 3
          have cx4 := kx.cell 4
          have cx5 := kx.cell 5
          simp only [List.getElem?_toArray, List.getElem?_cons_zero, List.getElem?_cons_succ] at cx0 cx1 cx2 cx3 cx4 cx5
          go_wp2
          go_ret
          exact ⟨rfl, hbw⟩
    · simp only [Bool.false_or, Bool.and_eq_true, Bool.or_eq_true, show (true == false) = false from rfl, Bool.false_eq_true, false_or] at q1
      obtain ⟨e2, q1⟩ := q1
      have f2 : (G != 0) = false := by simpa using e2
      rcases p1 : (z1 == 12) with _ | _
      · have p2 : (z1 != 12) = true := by simpa using p1
        rw [p1] at q1
        simp only [Bool.false_eq_true, false_or, beq_iff_eq] at q1
        rcases q1 with ⟨rfl, rfl⟩ | ⟨rfl, rfl⟩
        · clear p1
          rcases e3 : (H == 0) with _ | _
          · have f3 : (H != 0) = true := by simpa using e3
            clear q2
            go_enter Tryd.func8, Tryd.ntmps8
            have hbw := Below.refl w.heap.size w
            have kb := Blk.new w 26 #[.int .i64 l, .int .i64 s0, .bool w0, .int .i64 s1, .bool w1, .int .i64 0]
            have hbw := bt hbw (ba w (.cells #[.int .i64 l, .int .i64 s0, .bool w0, .int .i64 s1, .bool w1, .int .i64 0] 26))
            have hM := hM.bt (ba w (.cells #[.int .i64 l, .int .i64 s0, .bool w0, .int .i64 s1, .bool w1, .int .i64 0] 26))
            have cb0 := kb.cell 0
            have cb1 := kb.cell 1
            have cb2 := kb.cell 2
            have cb3 := kb.cell 3
            have cb4 := kb.cell 4
            have cb5 := kb.cell 5
            simp only [List.getElem?_toArray, List.getElem?_cons_zero, List.getElem?_cons_succ] at cb0 cb1 cb2 cb3 cb4 cb5
            go_wp2_with fail
            refine (hr _ hM).mono ?_
            rintro e v1 ⟨rfl, hb⟩
            have kb := kb.below hb kb.lt
            have hbw := bt hbw hb
            have hM := hM.bt hb
            clear hb
            clear cb0 cb1 cb2 cb3 cb4 cb5
            have cb0 := kb.cell 0
            have cb1 := kb.cell 1
            have cb2 := kb.cell 2
            have cb3 := kb.cell 3
            have cb4 := kb.cell 4
            have cb5 := kb.cell 5
            simp only [List.getElem?_toArray, List.getElem?_cons_zero, List.getElem?_cons_succ] at cb0 cb1 cb2 cb3 cb4 cb5
            go_wp2_with fail
            refine (hd1 _ hM).mono ?_
            rintro e v2 ⟨rfl, hb⟩
            have kb := kb.below hb kb.lt
            have hbw := bt hbw hb
            have hM := hM.bt hb
            clear hb
            clear cb0 cb1 cb2 cb3 cb4 cb5
            have kb := kb.alloc (.cells #[.int .i64 y0, .int .i64 y1, .bool y2, .int .i64 y3, .bool true, .int .i64 y5] 26)
            have kd := Blk.new v2 26 #[.int .i64 y0, .int .i64 y1, .bool y2, .int .i64 y3, .bool true, .int .i64 y5]
            have hbw := bt hbw (ba v2 (.cells #[.int .i64 y0, .int .i64 y1, .bool y2, .int .i64 y3, .bool true, .int .i64 y5] 26))
            have hM := hM.bt (ba v2 (.cells #[.int .i64 y0, .int .i64 y1, .bool y2, .int .i64 y3, .bool true, .int .i64 y5] 26))
            have cb0 := kb.cell 0
            have cb1 := kb.cell 1
            have cb2 := kb.cell 2
            have cb3 := kb.cell 3
            have cb4 := kb.cell 4
            have cb5 := kb.cell 5
            simp only [List.getElem?_toArray, List.getElem?_cons_zero, List.getElem?_cons_succ] at cb0 cb1 cb2 cb3 cb4 cb5
            have cd0 := kd.cell 0
            have cd1 := kd.cell 1
            have cd2 := kd.cell 2
            have cd3 := kd.cell 3
            have cd4 := kd.cell 4
            have cd5 := kd.cell 5
            simp only [List.getElem?_toArray, List.getElem?_cons_zero, List.getElem?_cons_succ] at cd0 cd1 cd2 cd3 cd4 cd5
            go_wp2_with fail
            refine (hd2 _ hM).mono ?_
            rintro e v3 ⟨rfl, hb⟩
            have kb := kb.below hb kb.lt
            have kd := kd.below hb kd.lt
            have hbw := bt hbw hb
            have hM := hM.bt hb
            clear hb
            clear cb0 cb1 cb2 cb3 cb4 cb5 cd0 cd1 cd2 cd3 cd4 cd5
            have kb := kb.alloc (.cells #[.int .i64 z0, .int .i64 1, .bool z2, .int .i64 z3, .bool z4, .int .i64 0] 26)
            have kd := kd.alloc (.cells #[.int .i64 z0, .int .i64 1, .bool z2, .int .i64 z3, .bool z4, .int .i64 0] 26)
            have kf := Blk.new v3 26 #[.int .i64 z0, .int .i64 1, .bool z2, .int .i64 z3, .bool z4, .int .i64 0]
            have hbw := bt hbw (ba v3 (.cells #[.int .i64 z0, .int .i64 1, .bool z2, .int .i64 z3, .bool z4, .int .i64 0] 26))
            have hM := hM.bt (ba v3 (.cells #[.int .i64 z0, .int .i64 1, .bool z2, .int .i64 z3, .bool z4, .int .i64 0] 26))
            have cb0 := kb.cell 0
            have cb1 := kb.cell 1
            have cb2 := kb.cell 2
            have cb3 := kb.cell 3
            have cb4 := kb.cell 4
            have cb5 := kb.cell 5
            simp only [List.getElem?_toArray, List.getElem?_cons_zero, List.getElem?_cons_succ] at cb0 cb1 cb2 cb3 cb4 cb5
            have cd0 := kd.cell 0
            have cd1 := kd.cell 1
            have cd2 := kd.cell 2
            have cd3 := kd.cell 3
            have cd4 := kd.cell 4
            have cd5 := kd.cell 5
            simp only [List.getElem?_toArray, List.getElem?_cons_zero, List.getElem?_cons_succ] at cd0 cd1 cd2 cd3 cd4 cd5
            have cf0 := kf.cell 0
            have cf1 := kf.cell 1
            have cf2 := kf.cell 2
            have cf3 := kf.cell 3
            have cf4 := kf.cell 4
            have cf5 := kf.cell 5
            simp only [List.getElem?_toArray, List.getElem?_cons_zero, List.getElem?_cons_succ] at cf0 cf1 cf2 cf3 cf4 cf5
            go_wp2_with fail
            refine (hd3 _ hM).mono ?_
            rintro e v4 ⟨rfl, hb⟩
            have kb := kb.below hb kb.lt
            have kd := kd.below hb kd.lt
            have kf := kf.below hb kf.lt
            have hbw := bt hbw hb
            have hM := hM.bt hb
            clear hb
            clear cb0 cb1 cb2 cb3 cb4 cb5 cd0 cd1 cd2 cd3 cd4 cd5 cf0 cf1 cf2 cf3 cf4 cf5
            have kb := kb.alloc (.cells #[.int .i64 u0, .int .i64 u1, .bool u2, .int .i64 u3, .bool u4, .int .i64 u5] 26)
            have kd := kd.alloc (.cells #[.int .i64 u0, .int .i64 u1, .bool u2, .int .i64 u3, .bool u4, .int .i64 u5] 26)
            have kf := kf.alloc (.cells #[.int .i64 u0, .int .i64 u1, .bool u2, .int .i64 u3, .bool u4, .int .i64 u5] 26)
            have kx := Blk.new v4 26 #[.int .i64 u0, .int .i64 u1, .bool u2, .int .i64 u3, .bool u4, .int .i64 u5]
            have hbw := bt hbw (ba v4 (.cells #[.int .i64 u0, .int .i64 u1, .bool u2, .int .i64 u3, .bool u4, .int .i64 u5] 26))
            have hM := hM.bt (ba v4 (.cells #[.int .i64 u0, .int .i64 u1, .bool u2, .int .i64 u3, .bool u4, .int .i64 u5] 26))
            have cb0 := kb.cell 0
            have cb1 := kb.cell 1
            have cb2 := kb.cell 2
            have cb3 := kb.cell 3
            have cb4 := kb.cell 4
            have cb5 := kb.cell 5
            simp only [List.getElem?_toArray, List.getElem?_cons_zero, List.getElem?_cons_succ] at cb0 cb1 cb2 cb3 cb4 cb5
            have cd0 := kd.cell 0
            have cd1 := kd.cell 1
            have cd2 := kd.cell 2
            have cd3 := kd.cell 3
            have cd4 := kd.cell 4
            have cd5 := kd.cell 5
            simp only [List.getElem?_toArray, List.getElem?_cons_zero, List.getElem?_cons_succ] at cd0 cd1 cd2 cd3 cd4 cd5
            have cf0 := kf.cell 0
            have cf1 := kf.cell 1
            have cf2 := kf.cell 2
            have cf3 := kf.cell 3
            have cf4 := kf.cell 4
            have cf5 := kf.cell 5
            simp only [List.getElem?_toArray, List.getElem?_cons_zero, List.getElem?_cons_succ] at cf0 cf1 cf2 cf3 cf4 cf5
            have cx0 := kx.cell 0
            have cx1 := kx.cell 1
            have cx2 := kx.cell 2
            have cx3 := kx.cell 3
            have cx4 := kx.cell 4
            have cx5 := kx.cell 5
            simp only [List.getElem?_toArray, List.getElem?_cons_zero, List.getElem?_cons_succ] at cx0 cx1 cx2 cx3 cx4 cx5
            go_wp2_with fail
            refine (ha _ hM).mono ?_
            rintro e v5 ⟨rfl, hb⟩
            have kb := kb.below hb kb.lt
            have kd := kd.below hb kd.lt
            have kf := kf.below hb kf.lt
            have kx := kx.below hb kx.lt
            have hbw := bt hbw hb
            have hM := hM.bt hb
            clear hb
            clear cb0 cb1 cb2 cb3 cb4 cb5 cd0 cd1 cd2 cd3 cd4 cd5 cf0 cf1 cf2 cf3 cf4 cf5 cx0 cx1 cx2 cx3 cx4 cx5
            have cb0 := kb.cell 0
            have cb1 := kb.cell 1
            have cb2 := kb.cell 2
            have cb3 := kb.cell 3
            have cb4 := kb.cell 4
            have cb5 := kb.cell 5
            simp only [List.getElem?_toArray, List.getElem?_cons_zero, List.getElem?_cons_succ] at cb0 cb1 cb2 cb3 cb4 cb5
            have cd0 := kd.cell 0
            have cd1 := kd.cell 1
            have cd2 := kd.cell 2
            have cd3 := kd.cell 3
            have cd4 := kd.cell 4
            have cd5 := kd.cell 5
            simp only [List.getElem?_toArray, List.getElem?_cons_zero, List.getElem?_cons_succ] at cd0 cd1 cd2 cd3 cd4 cd5
            have cf0 := kf.cell 0
            have cf1 := kf.cell 1
            have cf2 := kf.cell 2
            have cf3 := kf.cell 3
            have cf4 := kf.cell 4
            have cf5 := kf.cell 5
            simp only [List.getElem?_toArray, List.getElem?_cons_zero, List.getElem?_cons_succ] at cf0 cf1 cf2 cf3 cf4 cf5
            have cx0 := kx.cell 0
            have cx1 := kx.cell 1
            have cx2 := kx.cell 2
            have cx3 := kx.cell 3
            have cx4 := kx.cell 4
            have cx5 := kx.cell 5
            simp only [List.getElem?_toArray, List.getElem?_cons_zero, List.getElem?_cons_succ] at cx0 cx1 cx2 cx3 cx4 cx5
            go_wp2
            go_ret
            exact ⟨rfl, hbw⟩
          · have f3 : (H != 0) = false := by simpa using e3
            rcases e4 : (s1 == 9) with _ | _
            · rw [f3, e4] at q2
              simp only [Bool.false_or, Bool.and_eq_true, beq_iff_eq, if_true, Prod.mk.injEq] at q2
              obtain ⟨rfl, rfl, rfl, rfl, rfl, rfl⟩ := q2
              have h23a := eq23 1 false 1 false
              have h23b := eq23 2 false 2 false
              simp only [beq_self_eq_true, Bool.and_self] at h23a h23b
              go_enter Tryd.func8, Tryd.ntmps8
              have hbw := Below.refl w.heap.size w
              have kb := Blk.new w 26 #[.int .i64 l, .int .i64 s0, .bool w0, .int .i64 s1, .bool w1, .int .i64 0]
              have hbw := bt hbw (ba w (.cells #[.int .i64 l, .int .i64 s0, .bool w0, .int .i64 s1, .bool w1, .int .i64 0] 26))
              have hM := hM.bt (ba w (.cells #[.int .i64 l, .int .i64 s0, .bool w0, .int .i64 s1, .bool w1, .int .i64 0] 26))
              have cb0 := kb.cell 0
              have cb1 := kb.cell 1
              have cb2 := kb.cell 2
              have cb3 := kb.cell 3
              have cb4 := kb.cell 4
              have cb5 := kb.cell 5
              simp only [List.getElem?_toArray, List.getElem?_cons_zero, List.getElem?_cons_succ] at cb0 cb1 cb2 cb3 cb4 cb5
              go_wp2_with fail
              refine (hr _ hM).mono ?_
              rintro e v1 ⟨rfl, hb⟩
              have kb := kb.below hb kb.lt
              have hbw := bt hbw hb
              have hM := hM.bt hb
              clear hb
              clear cb0 cb1 cb2 cb3 cb4 cb5
              have cb0 := kb.cell 0
              have cb1 := kb.cell 1
              have cb2 := kb.cell 2
              have cb3 := kb.cell 3
              have cb4 := kb.cell 4
              have cb5 := kb.cell 5
              simp only [List.getElem?_toArray, List.getElem?_cons_zero, List.getElem?_cons_succ] at cb0 cb1 cb2 cb3 cb4 cb5
              go_wp2_with fail
              refine (hd1 _ hM).mono ?_
              rintro e v2 ⟨rfl, hb⟩
              have kb := kb.below hb kb.lt
              have hbw := bt hbw hb
              have hM := hM.bt hb
              clear hb
              clear cb0 cb1 cb2 cb3 cb4 cb5
              have kb := kb.alloc (.cells #[.int .i64 y0, .int .i64 y1, .bool y2, .int .i64 y3, .bool true, .int .i64 y5] 26)
              have kd := Blk.new v2 26 #[.int .i64 y0, .int .i64 y1, .bool y2, .int .i64 y3, .bool true, .int .i64 y5]
              have hbw := bt hbw (ba v2 (.cells #[.int .i64 y0, .int .i64 y1, .bool y2, .int .i64 y3, .bool true, .int .i64 y5] 26))
              have hM := hM.bt (ba v2 (.cells #[.int .i64 y0, .int .i64 y1, .bool y2, .int .i64 y3, .bool true, .int .i64 y5] 26))
              have cb0 := kb.cell 0
              have cb1 := kb.cell 1
              have cb2 := kb.cell 2
              have cb3 := kb.cell 3
              have cb4 := kb.cell 4
              have cb5 := kb.cell 5
              simp only [List.getElem?_toArray, List.getElem?_cons_zero, List.getElem?_cons_succ] at cb0 cb1 cb2 cb3 cb4 cb5
              have cd0 := kd.cell 0
              have cd1 := kd.cell 1
              have cd2 := kd.cell 2
              have cd3 := kd.cell 3
              have cd4 := kd.cell 4
              have cd5 := kd.cell 5
              simp only [List.getElem?_toArray, List.getElem?_cons_zero, List.getElem?_cons_succ] at cd0 cd1 cd2 cd3 cd4 cd5
              go_wp2_with fail
              refine (hd2 _ hM).mono ?_
              rintro e v3 ⟨rfl, hb⟩
              have kb := kb.below hb kb.lt
              have kd := kd.below hb kd.lt
              have hbw := bt hbw hb
              have hM := hM.bt hb
              clear hb
              clear cb0 cb1 cb2 cb3 cb4 cb5 cd0 cd1 cd2 cd3 cd4 cd5
              have kb := kb.alloc (.cells #[.int .i64 z0, .int .i64 1, .bool z2, .int .i64 z3, .bool z4, .int .i64 0] 26)
              have kd := kd.alloc (.cells #[.int .i64 z0, .int .i64 1, .bool z2, .int .i64 z3, .bool z4, .int .i64 0] 26)
              have kf := Blk.new v3 26 #[.int .i64 z0, .int .i64 1, .bool z2, .int .i64 z3, .bool z4, .int .i64 0]
              have hbw := bt hbw (ba v3 (.cells #[.int .i64 z0, .int .i64 1, .bool z2, .int .i64 z3, .bool z4, .int .i64 0] 26))
              have hM := hM.bt (ba v3 (.cells #[.int .i64 z0, .int .i64 1, .bool z2, .int .i64 z3, .bool z4, .int .i64 0] 26))
              have cb0 := kb.cell 0
              have cb1 := kb.cell 1
              have cb2 := kb.cell 2
              have cb3 := kb.cell 3
              have cb4 := kb.cell 4
              have cb5 := kb.cell 5
              simp only [List.getElem?_toArray, List.getElem?_cons_zero, List.getElem?_cons_succ] at cb0 cb1 cb2 cb3 cb4 cb5
              have cd0 := kd.cell 0
              have cd1 := kd.cell 1
              have cd2 := kd.cell 2
              have cd3 := kd.cell 3
              have cd4 := kd.cell 4
              have cd5 := kd.cell 5
              simp only [List.getElem?_toArray, List.getElem?_cons_zero, List.getElem?_cons_succ] at cd0 cd1 cd2 cd3 cd4 cd5
              have cf0 := kf.cell 0
              have cf1 := kf.cell 1
              have cf2 := kf.cell 2
              have cf3 := kf.cell 3
              have cf4 := kf.cell 4
              have cf5 := kf.cell 5
              simp only [List.getElem?_toArray, List.getElem?_cons_zero, List.getElem?_cons_succ] at cf0 cf1 cf2 cf3 cf4 cf5
              go_wp2_with fail
              refine (hd3 _ hM).mono ?_
              rintro e v4 ⟨rfl, hb⟩
              have kb := kb.below hb kb.lt
              have kd := kd.below hb kd.lt
              have kf := kf.below hb kf.lt
              have hbw := bt hbw hb
              have hM := hM.bt hb
              clear hb
              clear cb0 cb1 cb2 cb3 cb4 cb5 cd0 cd1 cd2 cd3 cd4 cd5 cf0 cf1 cf2 cf3 cf4 cf5
              have kb := kb.alloc (.cells #[.int .i64 u0, .int .i64 u1, .bool u2, .int .i64 u3, .bool u4, .int .i64 u5] 26)
              have kd := kd.alloc (.cells #[.int .i64 u0, .int .i64 u1, .bool u2, .int .i64 u3, .bool u4, .int .i64 u5] 26)
              have kf := kf.alloc (.cells #[.int .i64 u0, .int .i64 u1, .bool u2, .int .i64 u3, .bool u4, .int .i64 u5] 26)
              have kx := Blk.new v4 26 #[.int .i64 u0, .int .i64 u1, .bool u2, .int .i64 u3, .bool u4, .int .i64 u5]
              have hbw := bt hbw (ba v4 (.cells #[.int .i64 u0, .int .i64 u1, .bool u2, .int .i64 u3, .bool u4, .int .i64 u5] 26))
              have hM := hM.bt (ba v4 (.cells #[.int .i64 u0, .int .i64 u1, .bool u2, .int .i64 u3, .bool u4, .int .i64 u5] 26))
              have cb0 := kb.cell 0
              have cb1 := kb.cell 1
              have cb2 := kb.cell 2
              have cb3 := kb.cell 3
              have cb4 := kb.cell 4
              have cb5 := kb.cell 5
              simp only [List.getElem?_toArray, List.getElem?_cons_zero, List.getElem?_cons_succ] at cb0 cb1 cb2 cb3 cb4 cb5
              have cd0 := kd.cell 0
              have cd1 := kd.cell 1
              have cd2 := kd.cell 2
              have cd3 := kd.cell 3
              have cd4 := kd.cell 4
              have cd5 := kd.cell 5
              simp only [List.getElem?_toArray, List.getElem?_cons_zero, List.getElem?_cons_succ] at cd0 cd1 cd2 cd3 cd4 cd5
              have cf0 := kf.cell 0
              have cf1 := kf.cell 1
              have cf2 := kf.cell 2
              have cf3 := kf.cell 3
              have cf4 := kf.cell 4
              have cf5 := kf.cell 5
              simp only [List.getElem?_toArray, List.getElem?_cons_zero, List.getElem?_cons_succ] at cf0 cf1 cf2 cf3 cf4 cf5
              have cx0 := kx.cell 0
              have cx1 := kx.cell 1
              have cx2 := kx.cell 2
              have cx3 := kx.cell 3
              have cx4 := kx.cell 4
              have cx5 := kx.cell 5
              simp only [List.getElem?_toArray, List.getElem?_cons_zero, List.getElem?_cons_succ] at cx0 cx1 cx2 cx3 cx4 cx5
              go_wp2_with fail
              refine (hd4 _ hM).mono ?_
              rintro e v5 ⟨rfl, hb⟩
              have kb := kb.below hb kb.lt
              have kd := kd.below hb kd.lt
              have kf := kf.below hb kf.lt
              have kx := kx.below hb kx.lt
              have hbw := bt hbw hb
              have hM := hM.bt hb
              clear hb
              clear cb0 cb1 cb2 cb3 cb4 cb5 cd0 cd1 cd2 cd3 cd4 cd5 cf0 cf1 cf2 cf3 cf4 cf5 cx0 cx1 cx2 cx3 cx4 cx5
              have kb := kb.alloc (.cells #[.int .i64 k0, .int .i64 1, .bool false, .int .i64 2, .bool false, .int .i64 0] 26)
              have kd := kd.alloc (.cells #[.int .i64 k0, .int .i64 1, .bool false, .int .i64 2, .bool false, .int .i64 0] 26)
              have kf := kf.alloc (.cells #[.int .i64 k0, .int .i64 1, .bool false, .int .i64 2, .bool false, .int .i64 0] 26)
              have kx := kx.alloc (.cells #[.int .i64 k0, .int .i64 1, .bool false, .int .i64 2, .bool false, .int .i64 0] 26)
              have ky := Blk.new v5 26 #[.int .i64 k0, .int .i64 1, .bool false, .int .i64 2, .bool false, .int .i64 0]
              have hbw := bt hbw (ba v5 (.cells #[.int .i64 k0, .int .i64 1, .bool false, .int .i64 2, .bool false, .int .i64 0] 26))
              have hM := hM.bt (ba v5 (.cells #[.int .i64 k0, .int .i64 1, .bool false, .int .i64 2, .bool false, .int .i64 0] 26))
              have cb0 := kb.cell 0
              have cb1 := kb.cell 1
              have cb2 := kb.cell 2
              have cb3 := kb.cell 3
              have cb4 := kb.cell 4
              have cb5 := kb.cell 5
              simp only [List.getElem?_toArray, List.getElem?_cons_zero, List.getElem?_cons_succ] at cb0 cb1 cb2 cb3 cb4 cb5
              have cd0 := kd.cell 0
              have cd1 := kd.cell 1
              have cd2 := kd.cell 2
              have cd3 := kd.cell 3
              have cd4 := kd.cell 4
              have cd5 := kd.cell 5
              simp only [List.getElem?_toArray, List.getElem?_cons_zero, List.getElem?_cons_succ] at cd0 cd1 cd2 cd3 cd4 cd5
              have cf0 := kf.cell 0
              have cf1 := kf.cell 1
              have cf2 := kf.cell 2
              have cf3 := kf.cell 3
              have cf4 := kf.cell 4
              have cf5 := kf.cell 5
              simp only [List.getElem?_toArray, List.getElem?_cons_zero, List.getElem?_cons_succ] at cf0 cf1 cf2 cf3 cf4 cf5
              have cx0 := kx.cell 0
              have cx1 := kx.cell 1
              have cx2 := kx.cell 2
              have cx3 := kx.cell 3
              have cx4 := kx.cell 4
              have cx5 := kx.cell 5
              simp only [List.getElem?_toArray, List.getElem?_cons_zero, List.getElem?_cons_succ] at cx0 cx1 cx2 cx3 cx4 cx5
              have cy0 := ky.cell 0
              have cy1 := ky.cell 1
              have cy2 := ky.cell 2
              have cy3 := ky.cell 3
              have cy4 := ky.cell 4
              have cy5 := ky.cell 5
              simp only [List.getElem?_toArray, List.getElem?_cons_zero, List.getElem?_cons_succ] at cy0 cy1 cy2 cy3 cy4 cy5
              go_wp2_with fail
              refine (ha _ hM).mono ?_
              rintro e v6 ⟨rfl, hb⟩
              have kb := kb.below hb kb.lt
              have kd := kd.below hb kd.lt
              have kf := kf.below hb kf.lt
              have kx := kx.below hb kx.lt
              have ky := ky.below hb ky.lt
              have hbw := bt hbw hb
              have hM := hM.bt hb
              clear hb
              clear cb0 cb1 cb2 cb3 cb4 cb5 cd0 cd1 cd2 cd3 cd4 cd5 cf0 cf1 cf2 cf3 cf4 cf5 cx0 cx1 cx2 cx3 cx4 cx5 cy0 cy1 cy2 cy3 cy4 cy5
              have cb0 := kb.cell 0
              have cb1 := kb.cell 1
              have cb2 := kb.cell 2
              have cb3 := kb.cell 3
              have cb4 := kb.cell 4
              have cb5 := kb.cell 5
              simp only [List.getElem?_toArray, List.getElem?_cons_zero, List.getElem?_cons_succ] at cb0 cb1 cb2 cb3 cb4 cb5
              have cd0 := kd.cell 0
              have cd1 := kd.cell 1
              have cd2 := kd.cell 2
              have cd3 := kd.cell 3
              have cd4 := kd.cell 4
              have cd5 := kd.cell 5
              simp only [List.getElem?_toArray, List.getElem?_cons_zero, List.getElem?_cons_succ] at cd0 cd1 cd2 cd3 cd4 cd5
              have cf0 := kf.cell 0
              have cf1 := kf.cell 1
              have cf2 := kf.cell 2
              have cf3 := kf.cell 3
              have cf4 := kf.cell 4
              have cf5 := kf.cell 5
              simp only [List.getElem?_toArray, List.getElem?_cons_zero, List.getElem?_cons_succ] at cf0 cf1 cf2 cf3 cf4 cf5
              have cx0 := kx.cell 0
              have cx1 := kx.cell 1
              have cx2 := kx.cell 2
              have cx3 := kx.cell 3
              have cx4 := kx.cell 4
              have cx5 := kx.cell 5
              simp only [List.getElem?_toArray, List.getElem?_cons_zero, List.getElem?_cons_succ] at cx0 cx1 cx2 cx3 cx4 cx5
              have cy0 := ky.cell 0
              have cy1 := ky.cell 1
              have cy2 := ky.cell 2
              have cy3 := ky.cell 3
              have cy4 := ky.cell 4
              have cy5 := ky.cell 5
              simp only [List.getElem?_toArray, List.getElem?_cons_zero, List.getElem?_cons_succ] at cy0 cy1 cy2 cy3 cy4 cy5
              go_wp2
              go_ret
              exact ⟨rfl, hbw⟩
            · clear q2
              go_enter Tryd.func8, Tryd.ntmps8
              have hbw := Below.refl w.heap.size w
              have kb := Blk.new w 26 #[.int .i64 l, .int .i64 s0, .bool w0, .int .i64 s1, .bool w1, .int .i64 0]
              have hbw := bt hbw (ba w (.cells #[.int .i64 l, .int .i64 s0, .bool w0, .int .i64 s1, .bool w1, .int .i64 0] 26))
              have hM := hM.bt (ba w (.cells #[.int .i64 l, .int .i64 s0, .bool w0, .int .i64 s1, .bool w1, .int .i64 0] 26))
              have cb0 := kb.cell 0
              have cb1 := kb.cell 1
              have cb2 := kb.cell 2
              have cb3 := kb.cell 3
              have cb4 := kb.cell 4
              have cb5 := kb.cell 5
              simp only [List.getElem?_toArray, List.getElem?_cons_zero, List.getElem?_cons_succ] at cb0 cb1 cb2 cb3 cb4 cb5
              go_wp2_with fail
              refine (hr _ hM).mono ?_
              rintro e v1 ⟨rfl, hb⟩
              have kb := kb.below hb kb.lt
              have hbw := bt hbw hb
              have hM := hM.bt hb
              clear hb
              clear cb0 cb1 cb2 cb3 cb4 cb5
              have cb0 := kb.cell 0
              have cb1 := kb.cell 1
              have cb2 := kb.cell 2
              have cb3 := kb.cell 3
              have cb4 := kb.cell 4
              have cb5 := kb.cell 5
              simp only [List.getElem?_toArray, List.getElem?_cons_zero, List.getElem?_cons_succ] at cb0 cb1 cb2 cb3 cb4 cb5
              go_wp2_with fail
              refine (hd1 _ hM).mono ?_
              rintro e v2 ⟨rfl, hb⟩
              have kb := kb.below hb kb.lt
              have hbw := bt hbw hb
              have hM := hM.bt hb
              clear hb
              clear cb0 cb1 cb2 cb3 cb4 cb5
              have kb := kb.alloc (.cells #[.int .i64 y0, .int .i64 y1, .bool y2, .int .i64 y3, .bool true, .int .i64 y5] 26)
              have kd := Blk.new v2 26 #[.int .i64 y0, .int .i64 y1, .bool y2, .int .i64 y3, .bool true, .int .i64 y5]
              have hbw := bt hbw (ba v2 (.cells #[.int .i64 y0, .int .i64 y1, .bool y2, .int .i64 y3, .bool true, .int .i64 y5] 26))
              have hM := hM.bt (ba v2 (.cells #[.int .i64 y0, .int .i64 y1, .bool y2, .int .i64 y3, .bool true, .int .i64 y5] 26))
              have cb0 := kb.cell 0
              have cb1 := kb.cell 1
              have cb2 := kb.cell 2
              have cb3 := kb.cell 3
              have cb4 := kb.cell 4
              have cb5 := kb.cell 5
              simp only [List.getElem?_toArray, List.getElem?_cons_zero, List.getElem?_cons_succ] at cb0 cb1 cb2 cb3 cb4 cb5
              have cd0 := kd.cell 0
              have cd1 := kd.cell 1
              have cd2 := kd.cell 2
              have cd3 := kd.cell 3
              have cd4 := kd.cell 4
              have cd5 := kd.cell 5
              simp only [List.getElem?_toArray, List.getElem?_cons_zero, List.getElem?_cons_succ] at cd0 cd1 cd2 cd3 cd4 cd5
              go_wp2_with fail
              refine (hd2 _ hM).mono ?_
              rintro e v3 ⟨rfl, hb⟩
              have kb := kb.below hb kb.lt
              have kd := kd.below hb kd.lt
              have hbw := bt hbw hb
              have hM := hM.bt hb
              clear hb
              clear cb0 cb1 cb2 cb3 cb4 cb5 cd0 cd1 cd2 cd3 cd4 cd5
              have kb := kb.alloc (.cells #[.int .i64 z0, .int .i64 1, .bool z2, .int .i64 z3, .bool z4, .int .i64 0] 26)
              have kd := kd.alloc (.cells #[.int .i64 z0, .int .i64 1, .bool z2, .int .i64 z3, .bool z4, .int .i64 0] 26)
              have kf := Blk.new v3 26 #[.int .i64 z0, .int .i64 1, .bool z2, .int .i64 z3, .bool z4, .int .i64 0]
              have hbw := bt hbw (ba v3 (.cells #[.int .i64 z0, .int .i64 1, .bool z2, .int .i64 z3, .bool z4, .int .i64 0] 26))
              have hM := hM.bt (ba v3 (.cells #[.int .i64 z0, .int .i64 1, .bool z2, .int .i64 z3, .bool z4, .int .i64 0] 26))
              have cb0 := kb.cell 0
              have cb1 := kb.cell 1
              have cb2 := kb.cell 2
              have cb3 := kb.cell 3
              have cb4 := kb.cell 4
              have cb5 := kb.cell 5
              simp only [List.getElem?_toArray, List.getElem?_cons_zero, List.getElem?_cons_succ] at cb0 cb1 cb2 cb3 cb4 cb5
              have cd0 := kd.cell 0
              have cd1 := kd.cell 1
              have cd2 := kd.cell 2
              have cd3 := kd.cell 3
              have cd4 := kd.cell 4
              have cd5 := kd.cell 5
              simp only [List.getElem?_toArray, List.getElem?_cons_zero, List.getElem?_cons_succ] at cd0 cd1 cd2 cd3 cd4 cd5
              have cf0 := kf.cell 0
              have cf1 := kf.cell 1
              have cf2 := kf.cell 2
              have cf3 := kf.cell 3
              have cf4 := kf.cell 4
              have cf5 := kf.cell 5
              simp only [List.getElem?_toArray, List.getElem?_cons_zero, List.getElem?_cons_succ] at cf0 cf1 cf2 cf3 cf4 cf5
              go_wp2_with fail
              refine (hd3 _ hM).mono ?_
              rintro e v4 ⟨rfl, hb⟩
              have kb := kb.below hb kb.lt
              have kd := kd.below hb kd.lt
              have kf := kf.below hb kf.lt
              have hbw := bt hbw hb
              have hM := hM.bt hb
              clear hb
              clear cb0 cb1 cb2 cb3 cb4 cb5 cd0 cd1 cd2 cd3 cd4 cd5 cf0 cf1 cf2 cf3 cf4 cf5
              have kb := kb.alloc (.cells #[.int .i64 u0, .int .i64 u1, .bool u2, .int .i64 u3, .bool u4, .int .i64 u5] 26)
              have kd := kd.alloc (.cells #[.int .i64 u0, .int .i64 u1, .bool u2, .int .i64 u3, .bool u4, .int .i64 u5] 26)
              have kf := kf.alloc (.cells #[.int .i64 u0, .int .i64 u1, .bool u2, .int .i64 u3, .bool u4, .int .i64 u5] 26)
              have kx := Blk.new v4 26 #[.int .i64 u0, .int .i64 u1, .bool u2, .int .i64 u3, .bool u4, .int .i64 u5]
              have hbw := bt hbw (ba v4 (.cells #[.int .i64 u0, .int .i64 u1, .bool u2, .int .i64 u3, .bool u4, .int .i64 u5] 26))
              have hM := hM.bt (ba v4 (.cells #[.int .i64 u0, .int .i64 u1, .bool u2, .int .i64 u3, .bool u4, .int .i64 u5] 26))
              have cb0 := kb.cell 0
              have cb1 := kb.cell 1
              have cb2 := kb.cell 2
              have cb3 := kb.cell 3
              have cb4 := kb.cell 4
              have cb5 := kb.cell 5
              simp only [List.getElem?_toArray, List.getElem?_cons_zero, List.getElem?_cons_succ] at cb0 cb1 cb2 cb3 cb4 cb5
              have cd0 := kd.cell 0
              have cd1 := kd.cell 1
              have cd2 := kd.cell 2
              have cd3 := kd.cell 3
              have cd4 := kd.cell 4
              have cd5 := kd.cell 5
              simp only [List.getElem?_toArray, List.getElem?_cons_zero, List.getElem?_cons_succ] at cd0 cd1 cd2 cd3 cd4 cd5
              have cf0 := kf.cell 0
              have cf1 := kf.cell 1
              have cf2 := kf.cell 2
              have cf3 := kf.cell 3
              have cf4 := kf.cell 4
              have cf5 := kf.cell 5
              simp only [List.getElem?_toArray, List.getElem?_cons_zero, List.getElem?_cons_succ] at cf0 cf1 cf2 cf3 cf4 cf5
              have cx0 := kx.cell 0
              have cx1 := kx.cell 1
              have cx2 := kx.cell 2
              have cx3 := kx.cell 3
              have cx4 := kx.cell 4
              have cx5 := kx.cell 5
              simp only [List.getElem?_toArray, List.getElem?_cons_zero, List.getElem?_cons_succ] at cx0 cx1 cx2 cx3 cx4 cx5
              go_wp2_with fail
              refine (ha _ hM).mono ?_
              rintro e v5 ⟨rfl, hb⟩
              have kb := kb.below hb kb.lt
              have kd := kd.below hb kd.lt
              have kf := kf.below hb kf.lt
              have kx := kx.below hb kx.lt
              have hbw := bt hbw hb
              have hM := hM.bt hb
              clear hb
              clear cb0 cb1 cb2 cb3 cb4 cb5 cd0 cd1 cd2 cd3 cd4 cd5 cf0 cf1 cf2 cf3 cf4 cf5 cx0 cx1 cx2 cx3 cx4 cx5
              have cb0 := kb.cell 0
              have cb1 := kb.cell 1
              have cb2 := kb.cell 2
              have cb3 := kb.cell 3
              have cb4 := kb.cell 4
              have cb5 := kb.cell 5
              simp only [List.getElem?_toArray, List.getElem?_cons_zero, List.getElem?_cons_succ] at cb0 cb1 cb2 cb3 cb4 cb5
              have cd0 := kd.cell 0
              have cd1 := kd.cell 1
              have cd2 := kd.cell 2
              have cd3 := kd.cell 3
              have cd4 := kd.cell 4
              have cd5 := kd.cell 5
              simp only [List.getElem?_toArray, List.getElem?_cons_zero, List.getElem?_cons_succ] at cd0 cd1 cd2 cd3 cd4 cd5
              have cf0 := kf.cell 0
              have cf1 := kf.cell 1
              have cf2 := kf.cell 2
              have cf3 := kf.cell 3
              have cf4 := kf.cell 4
              have cf5 := kf.cell 5
              simp only [List.getElem?_toArray, List.getElem?_cons_zero, List.getElem?_cons_succ] at cf0 cf1 cf2 cf3 cf4 cf5
              have cx0 := kx.cell 0
              have cx1 := kx.cell 1
              have cx2 := kx.cell 2
              have cx3 := kx.cell 3
              have cx4 := kx.cell 4
              have cx5 := kx.cell 5
              simp only [List.getElem?_toArray, List.getElem?_cons_zero, List.getElem?_cons_succ] at cx0 cx1 cx2 cx3 cx4 cx5
              go_wp2
              go_ret
              exact ⟨rfl, hbw⟩
        · clear p1
          rcases e3 : (H == 0) with _ | _
          · have f3 : (H != 0) = true := by simpa using e3
            clear q2
            go_enter Tryd.func8, Tryd.ntmps8
            have hbw := Below.refl w.heap.size w
            have kb := Blk.new w 26 #[.int .i64 l, .int .i64 s0, .bool w0, .int .i64 s1, .bool w1, .int .i64 0]
            have hbw := bt hbw (ba w (.cells #[.int .i64 l, .int .i64 s0, .bool w0, .int .i64 s1, .bool w1, .int .i64 0] 26))
            have hM := hM.bt (ba w (.cells #[.int .i64 l, .int .i64 s0, .bool w0, .int .i64 s1, .bool w1, .int .i64 0] 26))
            have cb0 := kb.cell 0
            have cb1 := kb.cell 1
            have cb2 := kb.cell 2
            have cb3 := kb.cell 3
            have cb4 := kb.cell 4
            have cb5 := kb.cell 5
            simp only [List.getElem?_toArray, List.getElem?_cons_zero, List.getElem?_cons_succ] at cb0 cb1 cb2 cb3 cb4 cb5
            go_wp2_with fail
            refine (hr _ hM).mono ?_
            rintro e v1 ⟨rfl, hb⟩
            have kb := kb.below hb kb.lt
            have hbw := bt hbw hb
            have hM := hM.bt hb
            clear hb
            clear cb0 cb1 cb2 cb3 cb4 cb5
            have cb0 := kb.cell 0
            have cb1 := kb.cell 1
            have cb2 := kb.cell 2
            have cb3 := kb.cell 3
            have cb4 := kb.cell 4
            have cb5 := kb.cell 5
            simp only [List.getElem?_toArray, List.getElem?_cons_zero, List.getElem?_cons_succ] at cb0 cb1 cb2 cb3 cb4 cb5
            go_wp2_with fail
            refine (hd1 _ hM).mono ?_
            rintro e v2 ⟨rfl, hb⟩
            have kb := kb.below hb kb.lt
            have hbw := bt hbw hb
            have hM := hM.bt hb
            clear hb
            clear cb0 cb1 cb2 cb3 cb4 cb5
            have kb := kb.alloc (.cells #[.int .i64 y0, .int .i64 y1, .bool y2, .int .i64 y3, .bool true, .int .i64 y5] 26)
            have kd := Blk.new v2 26 #[.int .i64 y0, .int .i64 y1, .bool y2, .int .i64 y3, .bool true, .int .i64 y5]
            have hbw := bt hbw (ba v2 (.cells #[.int .i64 y0, .int .i64 y1, .bool y2, .int .i64 y3, .bool true, .int .i64 y5] 26))
            have hM := hM.bt (ba v2 (.cells #[.int .i64 y0, .int .i64 y1, .bool y2, .int .i64 y3, .bool true, .int .i64 y5] 26))
            have cb0 := kb.cell 0
            have cb1 := kb.cell 1
            have cb2 := kb.cell 2
            have cb3 := kb.cell 3
            have cb4 := kb.cell 4
            have cb5 := kb.cell 5
            simp only [List.getElem?_toArray, List.getElem?_cons_zero, List.getElem?_cons_succ] at cb0 cb1 cb2 cb3 cb4 cb5
            have cd0 := kd.cell 0
            have cd1 := kd.cell 1
            have cd2 := kd.cell 2
            have cd3 := kd.cell 3
            have cd4 := kd.cell 4
            have cd5 := kd.cell 5
            simp only [List.getElem?_toArray, List.getElem?_cons_zero, List.getElem?_cons_succ] at cd0 cd1 cd2 cd3 cd4 cd5
            go_wp2_with fail
            refine (hd2 _ hM).mono ?_
            rintro e v3 ⟨rfl, hb⟩
            have kb := kb.below hb kb.lt
            have kd := kd.below hb kd.lt
            have hbw := bt hbw hb
            have hM := hM.bt hb
            clear hb
            clear cb0 cb1 cb2 cb3 cb4 cb5 cd0 cd1 cd2 cd3 cd4 cd5
            have kb := kb.alloc (.cells #[.int .i64 z0, .int .i64 z1, .bool z2, .int .i64 1, .bool z4, .int .i64 1] 26)
            have kd := kd.alloc (.cells #[.int .i64 z0, .int .i64 z1, .bool z2, .int .i64 1, .bool z4, .int .i64 1] 26)
            have kf := Blk.new v3 26 #[.int .i64 z0, .int .i64 z1, .bool z2, .int .i64 1, .bool z4, .int .i64 1]
            have hbw := bt hbw (ba v3 (.cells #[.int .i64 z0, .int .i64 z1, .bool z2, .int .i64 1, .bool z4, .int .i64 1] 26))
            have hM := hM.bt (ba v3 (.cells #[.int .i64 z0, .int .i64 z1, .bool z2, .int .i64 1, .bool z4, .int .i64 1] 26))
            have cb0 := kb.cell 0
            have cb1 := kb.cell 1
            have cb2 := kb.cell 2
            have cb3 := kb.cell 3
            have cb4 := kb.cell 4
            have cb5 := kb.cell 5
            simp only [List.getElem?_toArray, List.getElem?_cons_zero, List.getElem?_cons_succ] at cb0 cb1 cb2 cb3 cb4 cb5
            have cd0 := kd.cell 0
            have cd1 := kd.cell 1
            have cd2 := kd.cell 2
            have cd3 := kd.cell 3
            have cd4 := kd.cell 4
            have cd5 := kd.cell 5
            simp only [List.getElem?_toArray, List.getElem?_cons_zero, List.getElem?_cons_succ] at cd0 cd1 cd2 cd3 cd4 cd5
            have cf0 := kf.cell 0
            have cf1 := kf.cell 1
            have cf2 := kf.cell 2
            have cf3 := kf.cell 3
            have cf4 := kf.cell 4
            have cf5 := kf.cell 5
            simp only [List.getElem?_toArray, List.getElem?_cons_zero, List.getElem?_cons_succ] at cf0 cf1 cf2 cf3 cf4 cf5
            go_wp2_with fail
            refine (hd3 _ hM).mono ?_
            rintro e v4 ⟨rfl, hb⟩
            have kb := kb.below hb kb.lt
            have kd := kd.below hb kd.lt
            have kf := kf.below hb kf.lt
            have hbw := bt hbw hb
            have hM := hM.bt hb
            clear hb
            clear cb0 cb1 cb2 cb3 cb4 cb5 cd0 cd1 cd2 cd3 cd4 cd5 cf0 cf1 cf2 cf3 cf4 cf5
            have kb := kb.alloc (.cells #[.int .i64 u0, .int .i64 u1, .bool u2, .int .i64 u3, .bool u4, .int .i64 u5] 26)
            have kd := kd.alloc (.cells #[.int .i64 u0, .int .i64 u1, .bool u2, .int .i64 u3, .bool u4, .int .i64 u5] 26)
            have kf := kf.alloc (.cells #[.int .i64 u0, .int .i64 u1, .bool u2, .int .i64 u3, .bool u4, .int .i64 u5] 26)
            have kx := Blk.new v4 26 #[.int .i64 u0, .int .i64 u1, .bool u2, .int .i64 u3, .bool u4, .int .i64 u5]
            have hbw := bt hbw (ba v4 (.cells #[.int .i64 u0, .int .i64 u1, .bool u2, .int .i64 u3, .bool u4, .int .i64 u5] 26))
            have hM := hM.bt (ba v4 (.cells #[.int .i64 u0, .int .i64 u1, .bool u2, .int .i64 u3, .bool u4, .int .i64 u5] 26))
            have cb0 := kb.cell 0
            have cb1 := kb.cell 1
            have cb2 := kb.cell 2
            have cb3 := kb.cell 3
            have cb4 := kb.cell 4
            have cb5 := kb.cell 5
            simp only [List.getElem?_toArray, List.getElem?_cons_zero, List.getElem?_cons_succ] at cb0 cb1 cb2 cb3 cb4 cb5
            have cd0 := kd.cell 0
            have cd1 := kd.cell 1
            have cd2 := kd.cell 2
            have cd3 := kd.cell 3
            have cd4 := kd.cell 4
            have cd5 := kd.cell 5
            simp only [List.getElem?_toArray, List.getElem?_cons_zero, List.getElem?_cons_succ] at cd0 cd1 cd2 cd3 cd4 cd5
            have cf0 := kf.cell 0
            have cf1 := kf.cell 1
            have cf2 := kf.cell 2
            have cf3 := kf.cell 3
            have cf4 := kf.cell 4
            have cf5 := kf.cell 5
            simp only [List.getElem?_toArray, List.getElem?_cons_zero, List.getElem?_cons_succ] at cf0 cf1 cf2 cf3 cf4 cf5
            have cx0 := kx.cell 0
            have cx1 := kx.cell 1
            have cx2 := kx.cell 2
            have cx3 := kx.cell 3
            have cx4 := kx.cell 4
            have cx5 := kx.cell 5
            simp only [List.getElem?_toArray, List.getElem?_cons_zero, List.getElem?_cons_succ] at cx0 cx1 cx2 cx3 cx4 cx5
            go_wp2_with fail
            refine (ha _ hM).mono ?_
            rintro e v5 ⟨rfl, hb⟩
            have kb := kb.below hb kb.lt
            have kd := kd.below hb kd.lt
            have kf := kf.below hb kf.lt
            have kx := kx.below hb kx.lt
            have hbw := bt hbw hb
            have hM := hM.bt hb
            clear hb
            clear cb0 cb1 cb2 cb3 cb4 cb5 cd0 cd1 cd2 cd3 cd4 cd5 cf0 cf1 cf2 cf3 cf4 cf5 cx0 cx1 cx2 cx3 cx4 cx5
            have cb0 := kb.cell 0
            have cb1 := kb.cell 1
            have cb2 := kb.cell 2
            have cb3 := kb.cell 3
            have cb4 := kb.cell 4
            have cb5 := kb.cell 5
            simp only [List.getElem?_toArray, List.getElem?_cons_zero, List.getElem?_cons_succ] at cb0 cb1 cb2 cb3 cb4 cb5
            have cd0 := kd.cell 0
            have cd1 := kd.cell 1
            have cd2 := kd.cell 2
            have cd3 := kd.cell 3
            have cd4 := kd.cell 4
            have cd5 := kd.cell 5
            simp only [List.getElem?_toArray, List.getElem?_cons_zero, List.getElem?_cons_succ] at cd0 cd1 cd2 cd3 cd4 cd5
            have cf0 := kf.cell 0
            have cf1 := kf.cell 1
            have cf2 := kf.cell 2
            have cf3 := kf.cell 3
            have cf4 := kf.cell 4
            have cf5 := kf.cell 5
            simp only [List.getElem?_toArray, List.getElem?_cons_zero, List.getElem?_cons_succ] at cf0 cf1 cf2 cf3 cf4 cf5
            have cx0 := kx.cell 0
            have cx1 := kx.cell 1
            have cx2 := kx.cell 2
            have cx3 := kx.cell 3
            have cx4 := kx.cell 4
            have cx5 := kx.cell 5
            simp only [List.getElem?_toArray, List.getElem?_cons_zero, List.getElem?_cons_succ] at cx0 cx1 cx2 cx3 cx4 cx5
            go_wp2
            go_ret
            exact ⟨rfl, hbw⟩
          · have f3 : (H != 0) = false := by simpa using e3
            rcases e4 : (s1 == 9) with _ | _
            · rw [f3, e4] at q2
              simp only [Bool.false_or, Bool.and_eq_true, beq_iff_eq, if_true, Prod.mk.injEq] at q2
              obtain ⟨rfl, rfl, rfl, rfl, rfl, rfl⟩ := q2
              have h23a := eq23 1 false 1 false
              have h23b := eq23 2 false 2 false
              simp only [beq_self_eq_true, Bool.and_self] at h23a h23b
              go_enter Tryd.func8, Tryd.ntmps8
              have hbw := Below.refl w.heap.size w
              have kb := Blk.new w 26 #[.int .i64 l, .int .i64 s0, .bool w0, .int .i64 s1, .bool w1, .int .i64 0]
              have hbw := bt hbw (ba w (.cells #[.int .i64 l, .int .i64 s0, .bool w0, .int .i64 s1, .bool w1, .int .i64 0] 26))
              have hM := hM.bt (ba w (.cells #[.int .i64 l, .int .i64 s0, .bool w0, .int .i64 s1, .bool w1, .int .i64 0] 26))
              have cb0 := kb.cell 0
              have cb1 := kb.cell 1
              have cb2 := kb.cell 2
              have cb3 := kb.cell 3
              have cb4 := kb.cell 4
              have cb5 := kb.cell 5
              simp only [List.getElem?_toArray, List.getElem?_cons_zero, List.getElem?_cons_succ] at cb0 cb1 cb2 cb3 cb4 cb5
              go_wp2_with fail
              refine (hr _ hM).mono ?_
              rintro e v1 ⟨rfl, hb⟩
              have kb := kb.below hb kb.lt
              have hbw := bt hbw hb
              have hM := hM.bt hb
              clear hb
              clear cb0 cb1 cb2 cb3 cb4 cb5
              have cb0 := kb.cell 0
              have cb1 := kb.cell 1
              have cb2 := kb.cell 2
              have cb3 := kb.cell 3
              have cb4 := kb.cell 4
              have cb5 := kb.cell 5
              simp only [List.getElem?_toArray, List.getElem?_cons_zero, List.getElem?_cons_succ] at cb0 cb1 cb2 cb3 cb4 cb5
              go_wp2_with fail
              refine (hd1 _ hM).mono ?_
              rintro e v2 ⟨rfl, hb⟩
              have kb := kb.below hb kb.lt
              have hbw := bt hbw hb
              have hM := hM.bt hb
              clear hb
              clear cb0 cb1 cb2 cb3 cb4 cb5
              have kb := kb.alloc (.cells #[.int .i64 y0, .int .i64 y1, .bool y2, .int .i64 y3, .bool true, .int .i64 y5] 26)
              have kd := Blk.new v2 26 #[.int .i64 y0, .int .i64 y1, .bool y2, .int .i64 y3, .bool true, .int .i64 y5]
              have hbw := bt hbw (ba v2 (.cells #[.int .i64 y0, .int .i64 y1, .bool y2, .int .i64 y3, .bool true, .int .i64 y5] 26))
              have hM := hM.bt (ba v2 (.cells #[.int .i64 y0, .int .i64 y1, .bool y2, .int .i64 y3, .bool true, .int .i64 y5] 26))
              have cb0 := kb.cell 0
              have cb1 := kb.cell 1
              have cb2 := kb.cell 2
              have cb3 := kb.cell 3
              have cb4 := kb.cell 4
              have cb5 := kb.cell 5
              simp only [List.getElem?_toArray, List.getElem?_cons_zero, List.getElem?_cons_succ] at cb0 cb1 cb2 cb3 cb4 cb5
              have cd0 := kd.cell 0
              have cd1 := kd.cell 1
              have cd2 := kd.cell 2
              have cd3 := kd.cell 3
              have cd4 := kd.cell 4
              have cd5 := kd.cell 5
              simp only [List.getElem?_toArray, List.getElem?_cons_zero, List.getElem?_cons_succ] at cd0 cd1 cd2 cd3 cd4 cd5
              go_wp2_with fail
              refine (hd2 _ hM).mono ?_
              rintro e v3 ⟨rfl, hb⟩
              have kb := kb.below hb kb.lt
              have kd := kd.below hb kd.lt
              have hbw := bt hbw hb
              have hM := hM.bt hb
              clear hb
              clear cb0 cb1 cb2 cb3 cb4 cb5 cd0 cd1 cd2 cd3 cd4 cd5
              have kb := kb.alloc (.cells #[.int .i64 z0, .int .i64 z1, .bool z2, .int .i64 1, .bool z4, .int .i64 1] 26)
              have kd := kd.alloc (.cells #[.int .i64 z0, .int .i64 z1, .bool z2, .int .i64 1, .bool z4, .int .i64 1] 26)
              have kf := Blk.new v3 26 #[.int .i64 z0, .int .i64 z1, .bool z2, .int .i64 1, .bool z4, .int .i64 1]
              have hbw := bt hbw (ba v3 (.cells #[.int .i64 z0, .int .i64 z1, .bool z2, .int .i64 1, .bool z4, .int .i64 1] 26))
              have hM := hM.bt (ba v3 (.cells #[.int .i64 z0, .int .i64 z1, .bool z2, .int .i64 1, .bool z4, .int .i64 1] 26))
              have cb0 := kb.cell 0
              have cb1 := kb.cell 1
              have cb2 := kb.cell 2
              have cb3 := kb.cell 3
              have cb4 := kb.cell 4
              have cb5 := kb.cell 5
              simp only [List.getElem?_toArray, List.getElem?_cons_zero, List.getElem?_cons_succ] at cb0 cb1 cb2 cb3 cb4 cb5
              have cd0 := kd.cell 0
              have cd1 := kd.cell 1
              have cd2 := kd.cell 2
              have cd3 := kd.cell 3
              have cd4 := kd.cell 4
              have cd5 := kd.cell 5
              simp only [List.getElem?_toArray, List.getElem?_cons_zero, List.getElem?_cons_succ] at cd0 cd1 cd2 cd3 cd4 cd5
              have cf0 := kf.cell 0
              have cf1 := kf.cell 1
              have cf2 := kf.cell 2
              have cf3 := kf.cell 3
              have cf4 := kf.cell 4
              have cf5 := kf.cell 5
              simp only [List.getElem?_toArray, List.getElem?_cons_zero, List.getElem?_cons_succ] at cf0 cf1 cf2 cf3 cf4 cf5
              go_wp2_with fail
              refine (hd3 _ hM).mono ?_
              rintro e v4 ⟨rfl, hb⟩
              have kb := kb.below hb kb.lt
              have kd := kd.below hb kd.lt
              have kf := kf.below hb kf.lt
              have hbw := bt hbw hb
              have hM := hM.bt hb
              clear hb
              clear cb0 cb1 cb2 cb3 cb4 cb5 cd0 cd1 cd2 cd3 cd4 cd5 cf0 cf1 cf2 cf3 cf4 cf5
              have kb := kb.alloc (.cells #[.int .i64 u0, .int .i64 u1, .bool u2, .int .i64 u3, .bool u4, .int .i64 u5] 26)
              have kd := kd.alloc (.cells #[.int .i64 u0, .int .i64 u1, .bool u2, .int .i64 u3, .bool u4, .int .i64 u5] 26)
              have kf := kf.alloc (.cells #[.int .i64 u0, .int .i64 u1, .bool u2, .int .i64 u3, .bool u4, .int .i64 u5] 26)
              have kx := Blk.new v4 26 #[.int .i64 u0, .int .i64 u1, .bool u2, .int .i64 u3, .bool u4, .int .i64 u5]
              have hbw := bt hbw (ba v4 (.cells #[.int .i64 u0, .int .i64 u1, .bool u2, .int .i64 u3, .bool u4, .int .i64 u5] 26))
              have hM := hM.bt (ba v4 (.cells #[.int .i64 u0, .int .i64 u1, .bool u2, .int .i64 u3, .bool u4, .int .i64 u5] 26))
              have cb0 := kb.cell 0
              have cb1 := kb.cell 1
              have cb2 := kb.cell 2
              have cb3 := kb.cell 3
              have cb4 := kb.cell 4
              have cb5 := kb.cell 5
              simp only [List.getElem?_toArray, List.getElem?_cons_zero, List.getElem?_cons_succ] at cb0 cb1 cb2 cb3 cb4 cb5
              have cd0 := kd.cell 0
              have cd1 := kd.cell 1
              have cd2 := kd.cell 2
              have cd3 := kd.cell 3
              have cd4 := kd.cell 4
              have cd5 := kd.cell 5
              simp only [List.getElem?_toArray, List.getElem?_cons_zero, List.getElem?_cons_succ] at cd0 cd1 cd2 cd3 cd4 cd5
              have cf0 := kf.cell 0
              have cf1 := kf.cell 1
              have cf2 := kf.cell 2
              have cf3 := kf.cell 3
              have cf4 := kf.cell 4
              have cf5 := kf.cell 5
              simp only [List.getElem?_toArray, List.getElem?_cons_zero, List.getElem?_cons_succ] at cf0 cf1 cf2 cf3 cf4 cf5
              have cx0 := kx.cell 0
              have cx1 := kx.cell 1
              have cx2 := kx.cell 2
              have cx3 := kx.cell 3
              have cx4 := kx.cell 4
              have cx5 := kx.cell 5
              simp only [List.getElem?_toArray, List.getElem?_cons_zero, List.getElem?_cons_succ] at cx0 cx1 cx2 cx3 cx4 cx5
              go_wp2_with fail
              refine (hd4 _ hM).mono ?_
              rintro e v5 ⟨rfl, hb⟩
              have kb := kb.below hb kb.lt
              have kd := kd.below hb kd.lt
              have kf := kf.below hb kf.lt
              have kx := kx.below hb kx.lt
              have hbw := bt hbw hb
              have hM := hM.bt hb
              clear hb
              clear cb0 cb1 cb2 cb3 cb4 cb5 cd0 cd1 cd2 cd3 cd4 cd5 cf0 cf1 cf2 cf3 cf4 cf5 cx0 cx1 cx2 cx3 cx4 cx5
              have kb := kb.alloc (.cells #[.int .i64 k0, .int .i64 1, .bool false, .int .i64 2, .bool false, .int .i64 0] 26)
              have kd := kd.alloc (.cells #[.int .i64 k0, .int .i64 1, .bool false, .int .i64 2, .bool false, .int .i64 0] 26)
              have kf := kf.alloc (.cells #[.int .i64 k0, .int .i64 1, .bool false, .int .i64 2, .bool false, .int .i64 0] 26)
              have kx := kx.alloc (.cells #[.int .i64 k0, .int .i64 1, .bool false, .int .i64 2, .bool false, .int .i64 0] 26)
              have ky := Blk.new v5 26 #[.int .i64 k0, .int .i64 1, .bool false, .int .i64 2, .bool false, .int .i64 0]
              have hbw := bt hbw (ba v5 (.cells #[.int .i64 k0, .int .i64 1, .bool false, .int .i64 2, .bool false, .int .i64 0] 26))
              have hM := hM.bt (ba v5 (.cells #[.int .i64 k0, .int .i64 1, .bool false, .int .i64 2, .bool false, .int .i64 0] 26))
              have cb0 := kb.cell 0
              have cb1 := kb.cell 1
              have cb2 := kb.cell 2
              have cb3 := kb.cell 3
              have cb4 := kb.cell 4
              have cb5 := kb.cell 5
              simp only [List.getElem?_toArray, List.getElem?_cons_zero, List.getElem?_cons_succ] at cb0 cb1 cb2 cb3 cb4 cb5
              have cd0 := kd.cell 0
              have cd1 := kd.cell 1
              have cd2 := kd.cell 2
              have cd3 := kd.cell 3
              have cd4 := kd.cell 4
              have cd5 := kd.cell 5
              simp only [List.getElem?_toArray, List.getElem?_cons_zero, List.getElem?_cons_succ] at cd0 cd1 cd2 cd3 cd4 cd5
              have cf0 := kf.cell 0
              have cf1 := kf.cell 1
              have cf2 := kf.cell 2
              have cf3 := kf.cell 3
              have cf4 := kf.cell 4
              have cf5 := kf.cell 5
              simp only [List.getElem?_toArray, List.getElem?_cons_zero, List.getElem?_cons_succ] at cf0 cf1 cf2 cf3 cf4 cf5
              have cx0 := kx.cell 0
              have cx1 := kx.cell 1
              have cx2 := kx.cell 2
              have cx3 := kx.cell 3
              have cx4 := kx.cell 4
              have cx5 := kx.cell 5
              simp only [List.getElem?_toArray, List.getElem?_cons_zero, List.getElem?_cons_succ] at cx0 cx1 cx2 cx3 cx4 cx5
              have cy0 := ky.cell 0
              have cy1 := ky.cell 1
              have cy2 := ky.cell 2
              have cy3 := ky.cell 3
              have cy4 := ky.cell 4
              have cy5 := ky.cell 5
              simp only [List.getElem?_toArray, List.getElem?_cons_zero, List.getElem?_cons_succ] at cy0 cy1 cy2 cy3 cy4 cy5
              go_wp2_with fail
              refine (ha _ hM).mono ?_
              rintro e v6 ⟨rfl, hb⟩
              have kb := kb.below hb kb.lt
              have kd := kd.below hb kd.lt
              have kf := kf.below hb kf.lt
              have kx := kx.below hb kx.lt
              have ky := ky.below hb ky.lt
              have hbw := bt hbw hb
              have hM := hM.bt hb
              clear hb
              clear cb0 cb1 cb2 cb3 cb4 cb5 cd0 cd1 cd2 cd3 cd4 cd5 cf0 cf1 cf2 cf3 cf4 cf5 cx0 cx1 cx2 cx3 cx4 cx5 cy0 cy1 cy2 cy3 cy4 cy5
              have cb0 := kb.cell 0
              have cb1 := kb.cell 1
              have cb2 := kb.cell 2
              have cb3 := kb.cell 3
              have cb4 := kb.cell 4
              have cb5 := kb.cell 5
              simp only [List.getElem?_toArray, List.getElem?_cons_zero, List.getElem?_cons_succ] at cb0 cb1 cb2 cb3 cb4 cb5
              have cd0 := kd.cell 0
              have cd1 := kd.cell 1
              have cd2 := kd.cell 2
              have cd3 := kd.cell 3
              have cd4 := kd.cell 4
              have cd5 := kd.cell 5
              simp only [List.getElem?_toArray, List.getElem?_cons_zero, List.getElem?_cons_succ] at cd0 cd1 cd2 cd3 cd4 cd5
              have cf0 := kf.cell 0
              have cf1 := kf.cell 1
              have cf2 := kf.cell 2
              have cf3 := kf.cell 3
              have cf4 := kf.cell 4
              have cf5 := kf.cell 5
              simp only [List.getElem?_toArray, List.getElem?_cons_zero, List.getElem?_cons_succ] at cf0 cf1 cf2 cf3 cf4 cf5
              have cx0 := kx.cell 0
              have cx1 := kx.cell 1
              have cx2 := kx.cell 2
              have cx3 := kx.cell 3
              have cx4 := kx.cell 4
              have cx5 := kx.cell 5
              simp only [List.getElem?_toArray, List.getElem?_cons_zero, List.getElem?_cons_succ] at cx0 cx1 cx2 cx3 cx4 cx5
              have cy0 := ky.cell 0
              have cy1 := ky.cell 1
              have cy2 := ky.cell 2
              have cy3 := ky.cell 3
              have cy4 := ky.cell 4
              have cy5 := ky.cell 5
              simp only [List.getElem?_toArray, List.getElem?_cons_zero, List.getElem?_cons_succ] at cy0 cy1 cy2 cy3 cy4 cy5
              go_wp2
              go_ret
              exact ⟨rfl, hbw⟩
            · clear q2
              go_enter Tryd.func8, Tryd.ntmps8
              have hbw := Below.refl w.heap.size w
              have kb := Blk.new w 26 #[.int .i64 l, .int .i64 s0, .bool w0, .int .i64 s1, .bool w1, .int .i64 0]
              have hbw := bt hbw (ba w (.cells #[.int .i64 l, .int .i64 s0, .bool w0, .int .i64 s1, .bool w1, .int .i64 0] 26))
              have hM := hM.bt (ba w (.cells #[.int .i64 l, .int .i64 s0, .bool w0, .int .i64 s1, .bool w1, .int .i64 0] 26))
              have cb0 := kb.cell 0
              have cb1 := kb.cell 1
              have cb2 := kb.cell 2
              have cb3 := kb.cell 3
              have cb4 := kb.cell 4
              have cb5 := kb.cell 5
              simp only [List.getElem?_toArray, List.getElem?_cons_zero, List.getElem?_cons_succ] at cb0 cb1 cb2 cb3 cb4 cb5
              go_wp2_with fail
              refine (hr _ hM).mono ?_
              rintro e v1 ⟨rfl, hb⟩
              have kb := kb.below hb kb.lt
              have hbw := bt hbw hb
              have hM := hM.bt hb
              clear hb
              clear cb0 cb1 cb2 cb3 cb4 cb5
              have cb0 := kb.cell 0
              have cb1 := kb.cell 1
              have cb2 := kb.cell 2
              have cb3 := kb.cell 3
              have cb4 := kb.cell 4
              have cb5 := kb.cell 5
              simp only [List.getElem?_toArray, List.getElem?_cons_zero, List.getElem?_cons_succ] at cb0 cb1 cb2 cb3 cb4 cb5
              go_wp2_with fail
              refine (hd1 _ hM).mono ?_
              rintro e v2 ⟨rfl, hb⟩
              have kb := kb.below hb kb.lt
              have hbw := bt hbw hb
              have hM := hM.bt hb
              clear hb
              clear cb0 cb1 cb2 cb3 cb4 cb5
              have kb := kb.alloc (.cells #[.int .i64 y0, .int .i64 y1, .bool y2, .int .i64 y3, .bool true, .int .i64 y5] 26)
              have kd := Blk.new v2 26 #[.int .i64 y0, .int .i64 y1, .bool y2, .int .i64 y3, .bool true, .int .i64 y5]
              have hbw := bt hbw (ba v2 (.cells #[.int .i64 y0, .int .i64 y1, .bool y2, .int .i64 y3, .bool true, .int .i64 y5] 26))
              have hM := hM.bt (ba v2 (.cells #[.int .i64 y0, .int .i64 y1, .bool y2, .int .i64 y3, .bool true, .int .i64 y5] 26))
              have cb0 := kb.cell 0
              have cb1 := kb.cell 1
              have cb2 := kb.cell 2
              have cb3 := kb.cell 3
              have cb4 := kb.cell 4
              have cb5 := kb.cell 5
              simp only [List.getElem?_toArray, List.getElem?_cons_zero, List.getElem?_cons_succ] at cb0 cb1 cb2 cb3 cb4 cb5
              have cd0 := kd.cell 0
              have cd1 := kd.cell 1
              have cd2 := kd.cell 2
              have cd3 := kd.cell 3
              have cd4 := kd.cell 4
              have cd5 := kd.cell 5
              simp only [List.getElem?_toArray, List.getElem?_cons_zero, List.getElem?_cons_succ] at cd0 cd1 cd2 cd3 cd4 cd5
              go_wp2_with fail
              refine (hd2 _ hM).mono ?_
              rintro e v3 ⟨rfl, hb⟩
              have kb := kb.below hb kb.lt
              have kd := kd.below hb kd.lt
              have hbw := bt hbw hb
              have hM := hM.bt hb
              clear hb
              clear cb0 cb1 cb2 cb3 cb4 cb5 cd0 cd1 cd2 cd3 cd4 cd5
              have kb := kb.alloc (.cells #[.int .i64 z0, .int .i64 z1, .bool z2, .int .i64 1, .bool z4, .int .i64 1] 26)
              have kd := kd.alloc (.cells #[.int .i64 z0, .int .i64 z1, .bool z2, .int .i64 1, .bool z4, .int .i64 1] 26)
              have kf := Blk.new v3 26 #[.int .i64 z0, .int .i64 z1, .bool z2, .int .i64 1, .bool z4, .int .i64 1]
              have hbw := bt hbw (ba v3 (.cells #[.int .i64 z0, .int .i64 z1, .bool z2, .int .i64 1, .bool z4, .int .i64 1] 26))
              have hM := hM.bt (ba v3 (.cells #[.int .i64 z0, .int .i64 z1, .bool z2, .int .i64 1, .bool z4, .int .i64 1] 26))
              have cb0 := kb.cell 0
              have cb1 := kb.cell 1
              have cb2 := kb.cell 2
              have cb3 := kb.cell 3
              have cb4 := kb.cell 4
              have cb5 := kb.cell 5
              simp only [List.getElem?_toArray, List.getElem?_cons_zero, List.getElem?_cons_succ] at cb0 cb1 cb2 cb3 cb4 cb5
              have cd0 := kd.cell 0
              have cd1 := kd.cell 1
              have cd2 := kd.cell 2
              have cd3 := kd.cell 3
              have cd4 := kd.cell 4
              have cd5 := kd.cell 5
              simp only [List.getElem?_toArray, List.getElem?_cons_zero, List.getElem?_cons_succ] at cd0 cd1 cd2 cd3 cd4 cd5
              have cf0 := kf.cell 0
              have cf1 := kf.cell 1
              have cf2 := kf.cell 2
              have cf3 := kf.cell 3
              have cf4 := kf.cell 4
              have cf5 := kf.cell 5
              simp only [List.getElem?_toArray, List.getElem?_cons_zero, List.getElem?_cons_succ] at cf0 cf1 cf2 cf3 cf4 cf5
              go_wp2_with fail
              refine (hd3 _ hM).mono ?_
              rintro e v4 ⟨rfl, hb⟩
              have kb := kb.below hb kb.lt
              have kd := kd.below hb kd.lt
              have kf := kf.below hb kf.lt
              have hbw := bt hbw hb
              have hM := hM.bt hb
              clear hb
              clear cb0 cb1 cb2 cb3 cb4 cb5 cd0 cd1 cd2 cd3 cd4 cd5 cf0 cf1 cf2 cf3 cf4 cf5
              have kb := kb.alloc (.cells #[.int .i64 u0, .int .i64 u1, .bool u2, .int .i64 u3, .bool u4, .int .i64 u5] 26)
              have kd := kd.alloc (.cells #[.int .i64 u0, .int .i64 u1, .bool u2, .int .i64 u3, .bool u4, .int .i64 u5] 26)
              have kf := kf.alloc (.cells #[.int .i64 u0, .int .i64 u1, .bool u2, .int .i64 u3, .bool u4, .int .i64 u5] 26)
              have kx := Blk.new v4 26 #[.int .i64 u0, .int .i64 u1, .bool u2, .int .i64 u3, .bool u4, .int .i64 u5]
              have hbw := bt hbw (ba v4 (.cells #[.int .i64 u0, .int .i64 u1, .bool u2, .int .i64 u3, .bool u4, .int .i64 u5] 26))
              have hM := hM.bt (ba v4 (.cells #[.int .i64 u0, .int .i64 u1, .bool u2, .int .i64 u3, .bool u4, .int .i64 u5] 26))
              have cb0 := kb.cell 0
              have cb1 := kb.cell 1
              have cb2 := kb.cell 2
              have cb3 := kb.cell 3
              have cb4 := kb.cell 4
              have cb5 := kb.cell 5
              simp only [List.getElem?_toArray, List.getElem?_cons_zero, List.getElem?_cons_succ] at cb0 cb1 cb2 cb3 cb4 cb5
              have cd0 := kd.cell 0
              have cd1 := kd.cell 1
              have cd2 := kd.cell 2
              have cd3 := kd.cell 3
              have cd4 := kd.cell 4
              have cd5 := kd.cell 5
              simp only [List.getElem?_toArray, List.getElem?_cons_zero, List.getElem?_cons_succ] at cd0 cd1 cd2 cd3 cd4 cd5
              have cf0 := kf.cell 0
              have cf1 := kf.cell 1
              have cf2 := kf.cell 2
              have cf3 := kf.cell 3
              have cf4 := kf.cell 4
              have cf5 := kf.cell 5
              simp only [List.getElem?_toArray, List.getElem?_cons_zero, List.getElem?_cons_succ] at cf0 cf1 cf2 cf3 cf4 cf5
              have cx0 := kx.cell 0
              have cx1 := kx.cell 1
              have cx2 := kx.cell 2
              have cx3 := kx.cell 3
              have cx4 := kx.cell 4
              have cx5 := kx.cell 5
              simp only [List.getElem?_toArray, List.getElem?_cons_zero, List.getElem?_cons_succ] at cx0 cx1 cx2 cx3 cx4 cx5
              go_wp2_with fail
              refine (ha _ hM).mono ?_
              rintro e v5 ⟨rfl, hb⟩
              have kb := kb.below hb kb.lt
              have kd := kd.below hb kd.lt
              have kf := kf.below hb kf.lt
              have kx := kx.below hb kx.lt
              have hbw := bt hbw hb
              have hM := hM.bt hb
              clear hb
              clear cb0 cb1 cb2 cb3 cb4 cb5 cd0 cd1 cd2 cd3 cd4 cd5 cf0 cf1 cf2 cf3 cf4 cf5 cx0 cx1 cx2 cx3 cx4 cx5
              have cb0 := kb.cell 0
              have cb1 := kb.cell 1
              have cb2 := kb.cell 2
              have cb3 := kb.cell 3
              have cb4 := kb.cell 4
              have cb5 := kb.cell 5
              simp only [List.getElem?_toArray, List.getElem?_cons_zero, List.getElem?_cons_succ] at cb0 cb1 cb2 cb3 cb4 cb5
              have cd0 := kd.cell 0
              have cd1 := kd.cell 1
              have cd2 := kd.cell 2
              have cd3 := kd.cell 3
              have cd4 := kd.cell 4
              have cd5 := kd.cell 5
              simp only [List.getElem?_toArray, List.getElem?_cons_zero, List.getElem?_cons_succ] at cd0 cd1 cd2 cd3 cd4 cd5
              have cf0 := kf.cell 0
              have cf1 := kf.cell 1
              have cf2 := kf.cell 2
              have cf3 := kf.cell 3
              have cf4 := kf.cell 4
              have cf5 := kf.cell 5
              simp only [List.getElem?_toArray, List.getElem?_cons_zero, List.getElem?_cons_succ] at cf0 cf1 cf2 cf3 cf4 cf5
              have cx0 := kx.cell 0
              have cx1 := kx.cell 1
              have cx2 := kx.cell 2
              have cx3 := kx.cell 3
              have cx4 := kx.cell 4
              have cx5 := kx.cell 5
              simp only [List.getElem?_toArray, List.getElem?_cons_zero, List.getElem?_cons_succ] at cx0 cx1 cx2 cx3 cx4 cx5
              go_wp2
              go_ret
              exact ⟨rfl, hbw⟩
      · have p2 : (z1 != 12) = false := by simpa using p1
        clear q1
        rcases e3 : (H == 0) with _ | _
        · have f3 : (H != 0) = true := by simpa using e3
          clear q2
          go_enter Tryd.func8, Tryd.ntmps8
          have hbw := Below.refl w.heap.size w
          have kb := Blk.new w 26 #[.int .i64 l, .int .i64 s0, .bool w0, .int .i64 s1, .bool w1, .int .i64 0]
          have hbw := bt hbw (ba w (.cells #[.int .i64 l, .int .i64 s0, .bool w0, .int .i64 s1, .bool w1, .int .i64 0] 26))
          have hM := hM.bt (ba w (.cells #[.int .i64 l, .int .i64 s0, .bool w0, .int .i64 s1, .bool w1, .int .i64 0] 26))
          have cb0 := kb.cell 0
          have cb1 := kb.cell 1
          have cb2 := kb.cell 2
          have cb3 := kb.cell 3
          have cb4 := kb.cell 4
          have cb5 := kb.cell 5
          simp only [List.getElem?_toArray, List.getElem?_cons_zero, List.getElem?_cons_succ] at cb0 cb1 cb2 cb3 cb4 cb5
          go_wp2_with fail
          refine (hr _ hM).mono ?_
          rintro e v1 ⟨rfl, hb⟩
          have kb := kb.below hb kb.lt
          have hbw := bt hbw hb
          have hM := hM.bt hb
          clear hb
          clear cb0 cb1 cb2 cb3 cb4 cb5
          have cb0 := kb.cell 0
          have cb1 := kb.cell 1
          have cb2 := kb.cell 2
          have cb3 := kb.cell 3
          have cb4 := kb.cell 4
          have cb5 := kb.cell 5
          simp only [List.getElem?_toArray, List.getElem?_cons_zero, List.getElem?_cons_succ] at cb0 cb1 cb2 cb3 cb4 cb5
          go_wp2_with fail
          refine (hd1 _ hM).mono ?_
          rintro e v2 ⟨rfl, hb⟩
          have kb := kb.below hb kb.lt
          have hbw := bt hbw hb
          have hM := hM.bt hb
          clear hb
          clear cb0 cb1 cb2 cb3 cb4 cb5
          have kb := kb.alloc (.cells #[.int .i64 y0, .int .i64 y1, .bool y2, .int .i64 y3, .bool true, .int .i64 y5] 26)
          have kd := Blk.new v2 26 #[.int .i64 y0, .int .i64 y1, .bool y2, .int .i64 y3, .bool true, .int .i64 y5]
          have hbw := bt hbw (ba v2 (.cells #[.int .i64 y0, .int .i64 y1, .bool y2, .int .i64 y3, .bool true, .int .i64 y5] 26))
          have hM := hM.bt (ba v2 (.cells #[.int .i64 y0, .int .i64 y1, .bool y2, .int .i64 y3, .bool true, .int .i64 y5] 26))
          have cb0 := kb.cell 0
          have cb1 := kb.cell 1
          have cb2 := kb.cell 2
          have cb3 := kb.cell 3
          have cb4 := kb.cell 4
          have cb5 := kb.cell 5
          simp only [List.getElem?_toArray, List.getElem?_cons_zero, List.getElem?_cons_succ] at cb0 cb1 cb2 cb3 cb4 cb5
          have cd0 := kd.cell 0
          have cd1 := kd.cell 1
          have cd2 := kd.cell 2
          have cd3 := kd.cell 3
          have cd4 := kd.cell 4
          have cd5 := kd.cell 5
          simp only [List.getElem?_toArray, List.getElem?_cons_zero, List.getElem?_cons_succ] at cd0 cd1 cd2 cd3 cd4 cd5
          go_wp2_with fail
          refine (hd2 _ hM).mono ?_
          rintro e v3 ⟨rfl, hb⟩
          have kb := kb.below hb kb.lt
          have kd := kd.below hb kd.lt
          have hbw := bt hbw hb
          have hM := hM.bt hb
          clear hb
          clear cb0 cb1 cb2 cb3 cb4 cb5 cd0 cd1 cd2 cd3 cd4 cd5
          have kb := kb.alloc (.cells #[.int .i64 z0, .int .i64 z1, .bool z2, .int .i64 z3, .bool z4, .int .i64 z5] 26)
          have kd := kd.alloc (.cells #[.int .i64 z0, .int .i64 z1, .bool z2, .int .i64 z3, .bool z4, .int .i64 z5] 26)
          have kf := Blk.new v3 26 #[.int .i64 z0, .int .i64 z1, .bool z2, .int .i64 z3, .bool z4, .int .i64 z5]
          have hbw := bt hbw (ba v3 (.cells #[.int .i64 z0, .int .i64 z1, .bool z2, .int .i64 z3, .bool z4, .int .i64 z5] 26))
          have hM := hM.bt (ba v3 (.cells #[.int .i64 z0, .int .i64 z1, .bool z2, .int .i64 z3, .bool z4, .int .i64 z5] 26))
          have cb0 := kb.cell 0
          have cb1 := kb.cell 1
          have cb2 := kb.cell 2
          have cb3 := kb.cell 3
          have cb4 := kb.cell 4
          have cb5 := kb.cell 5
          simp only [List.getElem?_toArray, List.getElem?_cons_zero, List.getElem?_cons_succ] at cb0 cb1 cb2 cb3 cb4 cb5
          have cd0 := kd.cell 0
          have cd1 := kd.cell 1
          have cd2 := kd.cell 2
          have cd3 := kd.cell 3
          have cd4 := kd.cell 4
          have cd5 := kd.cell 5
          simp only [List.getElem?_toArray, List.getElem?_cons_zero, List.getElem?_cons_succ] at cd0 cd1 cd2 cd3 cd4 cd5
          have cf0 := kf.cell 0
          have cf1 := kf.cell 1
          have cf2 := kf.cell 2
          have cf3 := kf.cell 3
          have cf4 := kf.cell 4
          have cf5 := kf.cell 5
          simp only [List.getElem?_toArray, List.getElem?_cons_zero, List.getElem?_cons_succ] at cf0 cf1 cf2 cf3 cf4 cf5
          go_wp2_with fail
          refine (hd3 _ hM).mono ?_
          rintro e v4 ⟨rfl, hb⟩
          have kb := kb.below hb kb.lt
          have kd := kd.below hb kd.lt
          have kf := kf.below hb kf.lt
          have hbw := bt hbw hb
          have hM := hM.bt hb
          clear hb
          clear cb0 cb1 cb2 cb3 cb4 cb5 cd0 cd1 cd2 cd3 cd4 cd5 cf0 cf1 cf2 cf3 cf4 cf5
          have kb := kb.alloc (.cells #[.int .i64 u0, .int .i64 u1, .bool u2, .int .i64 u3, .bool u4, .int .i64 u5] 26)
          have kd := kd.alloc (.cells #[.int .i64 u0, .int .i64 u1, .bool u2, .int .i64 u3, .bool u4, .int .i64 u5] 26)
          have kf := kf.alloc (.cells #[.int .i64 u0, .int .i64 u1, .bool u2, .int .i64 u3, .bool u4, .int .i64 u5] 26)
          have kx := Blk.new v4 26 #[.int .i64 u0, .int .i64 u1, .bool u2, .int .i64 u3, .bool u4, .int .i64 u5]
          have hbw := bt hbw (ba v4 (.cells #[.int .i64 u0, .int .i64 u1, .bool u2, .int .i64 u3, .bool u4, .int .i64 u5] 26))
          have hM := hM.bt (ba v4 (.cells #[.int .i64 u0, .int .i64 u1, .bool u2, .int .i64 u3, .bool u4, .int .i64 u5] 26))
          have cb0 := kb.cell 0
          have cb1 := kb.cell 1
          have cb2 := kb.cell 2
          have cb3 := kb.cell 3
          have cb4 := kb.cell 4
          have cb5 := kb.cell 5
          simp only [List.getElem?_toArray, List.getElem?_cons_zero, List.getElem?_cons_succ] at cb0 cb1 cb2 cb3 cb4 cb5
          have cd0 := kd.cell 0
          have cd1 := kd.cell 1
          have cd2 := kd.cell 2
          have cd3 := kd.cell 3
          have cd4 := kd.cell 4
          have cd5 := kd.cell 5
          simp only [List.getElem?_toArray, List.getElem?_cons_zero, List.getElem?_cons_succ] at cd0 cd1 cd2 cd3 cd4 cd5
          have cf0 := kf.cell 0
          have cf1 := kf.cell 1
          have cf2 := kf.cell 2
          have cf3 := kf.cell 3
          have cf4 := kf.cell 4
          have cf5 := kf.cell 5
          simp only [List.getElem?_toArray, List.getElem?_cons_zero, List.getElem?_cons_succ] at cf0 cf1 cf2 cf3 cf4 cf5
          have cx0 := kx.cell 0
          have cx1 := kx.cell 1
          have cx2 := kx.cell 2
          have cx3 := kx.cell 3
          have cx4 := kx.cell 4
          have cx5 := kx.cell 5
          simp only [List.getElem?_toArray, List.getElem?_cons_zero, List.getElem?_cons_succ] at cx0 cx1 cx2 cx3 cx4 cx5
          go_wp2_with fail
          refine (ha _ hM).mono ?_
          rintro e v5 ⟨rfl, hb⟩
          have kb := kb.below hb kb.lt
          have kd := kd.below hb kd.lt
          have kf := kf.below hb kf.lt
          have kx := kx.below hb kx.lt
          have hbw := bt hbw hb
          have hM := hM.bt hb
          clear hb
          clear cb0 cb1 cb2 cb3 cb4 cb5 cd0 cd1 cd2 cd3 cd4 cd5 cf0 cf1 cf2 cf3 cf4 cf5 cx0 cx1 cx2 cx3 cx4 cx5
          have cb0 := kb.cell 0
          have cb1 := kb.cell 1
          have cb2 := kb.cell 2
          have cb3 := kb.cell 3
          have cb4 := kb.cell 4
          have cb5 := kb.cell 5
          simp only [List.getElem?_toArray, List.getElem?_cons_zero, List.getElem?_cons_succ] at cb0 cb1 cb2 cb3 cb4 cb5
          have cd0 := kd.cell 0
          have cd1 := kd.cell 1
          have cd2 := kd.cell 2
          have cd3 := kd.cell 3
          have cd4 := kd.cell 4
          have cd5 := kd.cell 5
          simp only [List.getElem?_toArray, List.getElem?_cons_zero, List.getElem?_cons_succ] at cd0 cd1 cd2 cd3 cd4 cd5
          have cf0 := kf.cell 0
          have cf1 := kf.cell 1
          have cf2 := kf.cell 2
          have cf3 := kf.cell 3
          have cf4 := kf.cell 4
          have cf5 := kf.cell 5
          simp only [List.getElem?_toArray, List.getElem?_cons_zero, List.getElem?_cons_succ] at cf0 cf1 cf2 cf3 cf4 cf5
          have cx0 := kx.cell 0
          have cx1 := kx.cell 1
          have cx2 := kx.cell 2
          have cx3 := kx.cell 3
          have cx4 := kx.cell 4
          have cx5 := kx.cell 5
          simp only [List.getElem?_toArray, List.getElem?_cons_zero, List.getElem?_cons_succ] at cx0 cx1 cx2 cx3 cx4 cx5
          go_wp2
          go_ret
          exact ⟨rfl, hbw⟩
        · have f3 : (H != 0) = false := by simpa using e3
          rcases e4 : (s1 == 9) with _ | _
          · rw [f3, e4] at q2
            simp only [Bool.false_or, Bool.and_eq_true, beq_iff_eq, if_true, Prod.mk.injEq] at q2
            obtain ⟨rfl, rfl, rfl, rfl, rfl, rfl⟩ := q2
            have h23a := eq23 1 false 1 false
            have h23b := eq23 2 false 2 false
            simp only [beq_self_eq_true, Bool.and_self] at h23a h23b
            go_enter Tryd.func8, Tryd.ntmps8
            have hbw := Below.refl w.heap.size w
            have kb := Blk.new w 26 #[.int .i64 l, .int .i64 s0, .bool w0, .int .i64 s1, .bool w1, .int .i64 0]
            have hbw := bt hbw (ba w (.cells #[.int .i64 l, .int .i64 s0, .bool w0, .int .i64 s1, .bool w1, .int .i64 0] 26))
            have hM := hM.bt (ba w (.cells #[.int .i64 l, .int .i64 s0, .bool w0, .int .i64 s1, .bool w1, .int .i64 0] 26))
            have cb0 := kb.cell 0
            have cb1 := kb.cell 1
            have cb2 := kb.cell 2
            have cb3 := kb.cell 3
            have cb4 := kb.cell 4
            have cb5 := kb.cell 5
            simp only [List.getElem?_toArray, List.getElem?_cons_zero, List.getElem?_cons_succ] at cb0 cb1 cb2 cb3 cb4 cb5
            go_wp2_with fail
            refine (hr _ hM).mono ?_
            rintro e v1 ⟨rfl, hb⟩
            have kb := kb.below hb kb.lt
            have hbw := bt hbw hb
            have hM := hM.bt hb
            clear hb
            clear cb0 cb1 cb2 cb3 cb4 cb5
            have cb0 := kb.cell 0
            have cb1 := kb.cell 1
            have cb2 := kb.cell 2
            have cb3 := kb.cell 3
            have cb4 := kb.cell 4
            have cb5 := kb.cell 5
            simp only [List.getElem?_toArray, List.getElem?_cons_zero, List.getElem?_cons_succ] at cb0 cb1 cb2 cb3 cb4 cb5
            go_wp2_with fail
            refine (hd1 _ hM).mono ?_
            rintro e v2 ⟨rfl, hb⟩
            have kb := kb.below hb kb.lt
            have hbw := bt hbw hb
            have hM := hM.bt hb
            clear hb
            clear cb0 cb1 cb2 cb3 cb4 cb5
            have kb := kb.alloc (.cells #[.int .i64 y0, .int .i64 y1, .bool y2, .int .i64 y3, .bool true, .int .i64 y5] 26)
            have kd := Blk.new v2 26 #[.int .i64 y0, .int .i64 y1, .bool y2, .int .i64 y3, .bool true, .int .i64 y5]
            have hbw := bt hbw (ba v2 (.cells #[.int .i64 y0, .int .i64 y1, .bool y2, .int .i64 y3, .bool true, .int .i64 y5] 26))
            have hM := hM.bt (ba v2 (.cells #[.int .i64 y0, .int .i64 y1, .bool y2, .int .i64 y3, .bool true, .int .i64 y5] 26))
            have cb0 := kb.cell 0
            have cb1 := kb.cell 1
            have cb2 := kb.cell 2
            have cb3 := kb.cell 3
            have cb4 := kb.cell 4
            have cb5 := kb.cell 5
            simp only [List.getElem?_toArray, List.getElem?_cons_zero, List.getElem?_cons_succ] at cb0 cb1 cb2 cb3 cb4 cb5
            have cd0 := kd.cell 0
            have cd1 := kd.cell 1
            have cd2 := kd.cell 2
            have cd3 := kd.cell 3
            have cd4 := kd.cell 4
            have cd5 := kd.cell 5
            simp only [List.getElem?_toArray, List.getElem?_cons_zero, List.getElem?_cons_succ] at cd0 cd1 cd2 cd3 cd4 cd5
            go_wp2_with fail
            refine (hd2 _ hM).mono ?_
            rintro e v3 ⟨rfl, hb⟩
            have kb := kb.below hb kb.lt
            have kd := kd.below hb kd.lt
            have hbw := bt hbw hb
            have hM := hM.bt hb
            clear hb
            clear cb0 cb1 cb2 cb3 cb4 cb5 cd0 cd1 cd2 cd3 cd4 cd5
            have kb := kb.alloc (.cells #[.int .i64 z0, .int .i64 z1, .bool z2, .int .i64 z3, .bool z4, .int .i64 z5] 26)
            have kd := kd.alloc (.cells #[.int .i64 z0, .int .i64 z1, .bool z2, .int .i64 z3, .bool z4, .int .i64 z5] 26)
            have kf := Blk.new v3 26 #[.int .i64 z0, .int .i64 z1, .bool z2, .int .i64 z3, .bool z4, .int .i64 z5]
            have hbw := bt hbw (ba v3 (.cells #[.int .i64 z0, .int .i64 z1, .bool z2, .int .i64 z3, .bool z4, .int .i64 z5] 26))
            have hM := hM.bt (ba v3 (.cells #[.int .i64 z0, .int .i64 z1, .bool z2, .int .i64 z3, .bool z4, .int .i64 z5] 26))
            have cb0 := kb.cell 0
            have cb1 := kb.cell 1
            have cb2 := kb.cell 2
            have cb3 := kb.cell 3
            have cb4 := kb.cell 4
            have cb5 := kb.cell 5
            simp only [List.getElem?_toArray, List.getElem?_cons_zero, List.getElem?_cons_succ] at cb0 cb1 cb2 cb3 cb4 cb5
            have cd0 := kd.cell 0
            have cd1 := kd.cell 1
            have cd2 := kd.cell 2
            have cd3 := kd.cell 3
            have cd4 := kd.cell 4
            have cd5 := kd.cell 5
            simp only [List.getElem?_toArray, List.getElem?_cons_zero, List.getElem?_cons_succ] at cd0 cd1 cd2 cd3 cd4 cd5
            have cf0 := kf.cell 0
            have cf1 := kf.cell 1
            have cf2 := kf.cell 2
            have cf3 := kf.cell 3
            have cf4 := kf.cell 4
            have cf5 := kf.cell 5
            simp only [List.getElem?_toArray, List.getElem?_cons_zero, List.getElem?_cons_succ] at cf0 cf1 cf2 cf3 cf4 cf5
            go_wp2_with fail
            refine (hd3 _ hM).mono ?_
            rintro e v4 ⟨rfl, hb⟩
            have kb := kb.below hb kb.lt
            have kd := kd.below hb kd.lt
            have kf := kf.below hb kf.lt
            have hbw := bt hbw hb
            have hM := hM.bt hb
            clear hb
            clear cb0 cb1 cb2 cb3 cb4 cb5 cd0 cd1 cd2 cd3 cd4 cd5 cf0 cf1 cf2 cf3 cf4 cf5
            have kb := kb.alloc (.cells #[.int .i64 u0, .int .i64 u1, .bool u2, .int .i64 u3, .bool u4, .int .i64 u5] 26)
            have kd := kd.alloc (.cells #[.int .i64 u0, .int .i64 u1, .bool u2, .int .i64 u3, .bool u4, .int .i64 u5] 26)
            have kf := kf.alloc (.cells #[.int .i64 u0, .int .i64 u1, .bool u2, .int .i64 u3, .bool u4, .int .i64 u5] 26)
            have kx := Blk.new v4 26 #[.int .i64 u0, .int .i64 u1, .bool u2, .int .i64 u3, .bool u4, .int .i64 u5]
            have hbw := bt hbw (ba v4 (.cells #[.int .i64 u0, .int .i64 u1, .bool u2, .int .i64 u3, .bool u4, .int .i64 u5] 26))
            have hM := hM.bt (ba v4 (.cells #[.int .i64 u0, .int .i64 u1, .bool u2, .int .i64 u3, .bool u4, .int .i64 u5] 26))
            have cb0 := kb.cell 0
            have cb1 := kb.cell 1
            have cb2 := kb.cell 2
            have cb3 := kb.cell 3
            have cb4 := kb.cell 4
            have cb5 := kb.cell 5
            simp only [List.getElem?_toArray, List.getElem?_cons_zero, List.getElem?_cons_succ] at cb0 cb1 cb2 cb3 cb4 cb5
            have cd0 := kd.cell 0
            have cd1 := kd.cell 1
            have cd2 := kd.cell 2
            have cd3 := kd.cell 3
            have cd4 := kd.cell 4
            have cd5 := kd.cell 5
            simp only [List.getElem?_toArray, List.getElem?_cons_zero, List.getElem?_cons_succ] at cd0 cd1 cd2 cd3 cd4 cd5
            have cf0 := kf.cell 0
            have cf1 := kf.cell 1
            have cf2 := kf.cell 2
            have cf3 := kf.cell 3
            have cf4 := kf.cell 4
            have cf5 := kf.cell 5
            simp only [List.getElem?_toArray, List.getElem?_cons_zero, List.getElem?_cons_succ] at cf0 cf1 cf2 cf3 cf4 cf5
            have cx0 := kx.cell 0
            have cx1 := kx.cell 1
            have cx2 := kx.cell 2
            have cx3 := kx.cell 3
            have cx4 := kx.cell 4
            have cx5 := kx.cell 5
            simp only [List.getElem?_toArray, List.getElem?_cons_zero, List.getElem?_cons_succ] at cx0 cx1 cx2 cx3 cx4 cx5
            go_wp2_with fail
            refine (hd4 _ hM).mono ?_
            rintro e v5 ⟨rfl, hb⟩
            have kb := kb.below hb kb.lt
            have kd := kd.below hb kd.lt
            have kf := kf.below hb kf.lt
            have kx := kx.below hb kx.lt
            have hbw := bt hbw hb
            have hM := hM.bt hb
            clear hb
            clear cb0 cb1 cb2 cb3 cb4 cb5 cd0 cd1 cd2 cd3 cd4 cd5 cf0 cf1 cf2 cf3 cf4 cf5 cx0 cx1 cx2 cx3 cx4 cx5
            have kb := kb.alloc (.cells #[.int .i64 k0, .int .i64 1, .bool false, .int .i64 2, .bool false, .int .i64 0] 26)
            have kd := kd.alloc (.cells #[.int .i64 k0, .int .i64 1, .bool false, .int .i64 2, .bool false, .int .i64 0] 26)
            have kf := kf.alloc (.cells #[.int .i64 k0, .int .i64 1, .bool false, .int .i64 2, .bool false, .int .i64 0] 26)
            have kx := kx.alloc (.cells #[.int .i64 k0, .int .i64 1, .bool false, .int .i64 2, .bool false, .int .i64 0] 26)
            have ky := Blk.new v5 26 #[.int .i64 k0, .int .i64 1, .bool false, .int .i64 2, .bool false, .int .i64 0]
            have hbw := bt hbw (ba v5 (.cells #[.int .i64 k0, .int .i64 1, .bool false, .int .i64 2, .bool false, .int .i64 0] 26))
            have hM := hM.bt (ba v5 (.cells #[.int .i64 k0, .int .i64 1, .bool false, .int .i64 2, .bool false, .int .i64 0] 26))
            have cb0 := kb.cell 0
            have cb1 := kb.cell 1
            have cb2 := kb.cell 2
            have cb3 := kb.cell 3
            have cb4 := kb.cell 4
            have cb5 := kb.cell 5
            simp only [List.getElem?_toArray, List.getElem?_cons_zero, List.getElem?_cons_succ] at cb0 cb1 cb2 cb3 cb4 cb5
            have cd0 := kd.cell 0
            have cd1 := kd.cell 1
            have cd2 := kd.cell 2
            have cd3 := kd.cell 3
            have cd4 := kd.cell 4
            have cd5 := kd.cell 5
            simp only [List.getElem?_toArray, List.getElem?_cons_zero, List.getElem?_cons_succ] at cd0 cd1 cd2 cd3 cd4 cd5
            have cf0 := kf.cell 0
            have cf1 := kf.cell 1
            have cf2 := kf.cell 2
            have cf3 := kf.cell 3
            have cf4 := kf.cell 4
            have cf5 := kf.cell 5
            simp only [List.getElem?_toArray, List.getElem?_cons_zero, List.getElem?_cons_succ] at cf0 cf1 cf2 cf3 cf4 cf5
            have cx0 := kx.cell 0
            have cx1 := kx.cell 1
            have cx2 := kx.cell 2
            have cx3 := kx.cell 3
            have cx4 := kx.cell 4
            have cx5 := kx.cell 5
            simp only [List.getElem?_toArray, List.getElem?_cons_zero, List.getElem?_cons_succ] at cx0 cx1 cx2 cx3 cx4 cx5
            have cy0 := ky.cell 0
            have cy1 := ky.cell 1
            have cy2 := ky.cell 2
            have cy3 := ky.cell 3
            have cy4 := ky.cell 4
            have cy5 := ky.cell 5
            simp only [List.getElem?_toArray, List.getElem?_cons_zero, List.getElem?_cons_succ] at cy0 cy1 cy2 cy3 cy4 cy5
            go_wp2_with fail
            refine (ha _ hM).mono ?_
            rintro e v6 ⟨rfl, hb⟩
            have kb := kb.below hb kb.lt
            have kd := kd.below hb kd.lt
            have kf := kf.below hb kf.lt
            have kx := kx.below hb kx.lt
            have ky := ky.below hb ky.lt
            have hbw := bt hbw hb
            have hM := hM.bt hb
            clear hb
            clear cb0 cb1 cb2 cb3 cb4 cb5 cd0 cd1 cd2 cd3 cd4 cd5 cf0 cf1 cf2 cf3 cf4 cf5 cx0 cx1 cx2 cx3 cx4 cx5 cy0 cy1 cy2 cy3 cy4 cy5
            have cb0 := kb.cell 0
            have cb1 := kb.cell 1
            have cb2 := kb.cell 2
            have cb3 := kb.cell 3
            have cb4 := kb.cell 4
            have cb5 := kb.cell 5
            simp only [List.getElem?_toArray, List.getElem?_cons_zero, List.getElem?_cons_succ] at cb0 cb1 cb2 cb3 cb4 cb5
            have cd0 := kd.cell 0
            have cd1 := kd.cell 1
            have cd2 := kd.cell 2
            have cd3 := kd.cell 3
            have cd4 := kd.cell 4
            have cd5 := kd.cell 5
            simp only [List.getElem?_toArray, List.getElem?_cons_zero, List.getElem?_cons_succ] at cd0 cd1 cd2 cd3 cd4 cd5
            have cf0 := kf.cell 0
            have cf1 := kf.cell 1
            have cf2 := kf.cell 2
            have cf3 := kf.cell 3
            have cf4 := kf.cell 4
            have cf5 := kf.cell 5
            simp only [List.getElem?_toArray, List.getElem?_cons_zero, List.getElem?_cons_succ] at cf0 cf1 cf2 cf3 cf4 cf5
            have cx0 := kx.cell 0
            have cx1 := kx.cell 1
            have cx2 := kx.cell 2
            have cx3 := kx.cell 3
            have cx4 := kx.cell 4
            have cx5 := kx.cell 5
            simp only [List.getElem?_toArray, List.getElem?_cons_zero, List.getElem?_cons_succ] at cx0 cx1 cx2 cx3 cx4 cx5
            have cy0 := ky.cell 0
            have cy1 := ky.cell 1
            have cy2 := ky.cell 2
            have cy3 := ky.cell 3
            have cy4 := ky.cell 4
            have cy5 := ky.cell 5
            simp only [List.getElem?_toArray, List.getElem?_cons_zero, List.getElem?_cons_succ] at cy0 cy1 cy2 cy3 cy4 cy5
            go_wp2
            go_ret
            exact ⟨rfl, hbw⟩
          · clear q2
            go_enter Tryd.func8, Tryd.ntmps8
            have hbw := Below.refl w.heap.size w
            have kb := Blk.new w 26 #[.int .i64 l, .int .i64 s0, .bool w0, .int .i64 s1, .bool w1, .int .i64 0]
            have hbw := bt hbw (ba w (.cells #[.int .i64 l, .int .i64 s0, .bool w0, .int .i64 s1, .bool w1, .int .i64 0] 26))
            have hM := hM.bt (ba w (.cells #[.int .i64 l, .int .i64 s0, .bool w0, .int .i64 s1, .bool w1, .int .i64 0] 26))
            have cb0 := kb.cell 0
            have cb1 := kb.cell 1
            have cb2 := kb.cell 2
            have cb3 := kb.cell 3
            have cb4 := kb.cell 4
            have cb5 := kb.cell 5
            simp only [List.getElem?_toArray, List.getElem?_cons_zero, List.getElem?_cons_succ] at cb0 cb1 cb2 cb3 cb4 cb5
            go_wp2_with fail
            refine (hr _ hM).mono ?_
            rintro e v1 ⟨rfl, hb⟩
            have kb := kb.below hb kb.lt
            have hbw := bt hbw hb
            have hM := hM.bt hb
            clear hb
            clear cb0 cb1 cb2 cb3 cb4 cb5
            have cb0 := kb.cell 0
            have cb1 := kb.cell 1
            have cb2 := kb.cell 2
            have cb3 := kb.cell 3
            have cb4 := kb.cell 4
            have cb5 := kb.cell 5
            simp only [List.getElem?_toArray, List.getElem?_cons_zero, List.getElem?_cons_succ] at cb0 cb1 cb2 cb3 cb4 cb5
            go_wp2_with fail
            refine (hd1 _ hM).mono ?_
            rintro e v2 ⟨rfl, hb⟩
            have kb := kb.below hb kb.lt
            have hbw := bt hbw hb
            have hM := hM.bt hb
            clear hb
            clear cb0 cb1 cb2 cb3 cb4 cb5
            have kb := kb.alloc (.cells #[.int .i64 y0, .int .i64 y1, .bool y2, .int .i64 y3, .bool true, .int .i64 y5] 26)
            have kd := Blk.new v2 26 #[.int .i64 y0, .int .i64 y1, .bool y2, .int .i64 y3, .bool true, .int .i64 y5]
            have hbw := bt hbw (ba v2 (.cells #[.int .i64 y0, .int .i64 y1, .bool y2, .int .i64 y3, .bool true, .int .i64 y5] 26))
            have hM := hM.bt (ba v2 (.cells #[.int .i64 y0, .int .i64 y1, .bool y2, .int .i64 y3, .bool true, .int .i64 y5] 26))
            have cb0 := kb.cell 0
            have cb1 := kb.cell 1
            have cb2 := kb.cell 2
            have cb3 := kb.cell 3
            have cb4 := kb.cell 4
            have cb5 := kb.cell 5
            simp only [List.getElem?_toArray, List.getElem?_cons_zero, List.getElem?_cons_succ] at cb0 cb1 cb2 cb3 cb4 cb5
            have cd0 := kd.cell 0
            have cd1 := kd.cell 1
            have cd2 := kd.cell 2
            have cd3 := kd.cell 3
            have cd4 := kd.cell 4
            have cd5 := kd.cell 5
            simp only [List.getElem?_toArray, List.getElem?_cons_zero, List.getElem?_cons_succ] at cd0 cd1 cd2 cd3 cd4 cd5
            go_wp2_with fail
            refine (hd2 _ hM).mono ?_
            rintro e v3 ⟨rfl, hb⟩
            have kb := kb.below hb kb.lt
            have kd := kd.below hb kd.lt
            have hbw := bt hbw hb
            have hM := hM.bt hb
            clear hb
            clear cb0 cb1 cb2 cb3 cb4 cb5 cd0 cd1 cd2 cd3 cd4 cd5
            have kb := kb.alloc (.cells #[.int .i64 z0, .int .i64 z1, .bool z2, .int .i64 z3, .bool z4, .int .i64 z5] 26)
            have kd := kd.alloc (.cells #[.int .i64 z0, .int .i64 z1, .bool z2, .int .i64 z3, .bool z4, .int .i64 z5] 26)
            have kf := Blk.new v3 26 #[.int .i64 z0, .int .i64 z1, .bool z2, .int .i64 z3, .bool z4, .int .i64 z5]
            have hbw := bt hbw (ba v3 (.cells #[.int .i64 z0, .int .i64 z1, .bool z2, .int .i64 z3, .bool z4, .int .i64 z5] 26))
            have hM := hM.bt (ba v3 (.cells #[.int .i64 z0, .int .i64 z1, .bool z2, .int .i64 z3, .bool z4, .int .i64 z5] 26))
            have cb0 := kb.cell 0
            have cb1 := kb.cell 1
            have cb2 := kb.cell 2
            have cb3 := kb.cell 3
            have cb4 := kb.cell 4
            have cb5 := kb.cell 5
            simp only [List.getElem?_toArray, List.getElem?_cons_zero, List.getElem?_cons_succ] at cb0 cb1 cb2 cb3 cb4 cb5
            have cd0 := kd.cell 0
            have cd1 := kd.cell 1
            have cd2 := kd.cell 2
            have cd3 := kd.cell 3
            have cd4 := kd.cell 4
            have cd5 := kd.cell 5
            simp only [List.getElem?_toArray, List.getElem?_cons_zero, List.getElem?_cons_succ] at cd0 cd1 cd2 cd3 cd4 cd5
            have cf0 := kf.cell 0
            have cf1 := kf.cell 1
            have cf2 := kf.cell 2
            have cf3 := kf.cell 3
            have cf4 := kf.cell 4
            have cf5 := kf.cell 5
            simp only [List.getElem?_toArray, List.getElem?_cons_zero, List.getElem?_cons_succ] at cf0 cf1 cf2 cf3 cf4 cf5
            go_wp2_with fail
            refine (hd3 _ hM).mono ?_
            rintro e v4 ⟨rfl, hb⟩
            have kb := kb.below hb kb.lt
            have kd := kd.below hb kd.lt
            have kf := kf.below hb kf.lt
            have hbw := bt hbw hb
            have hM := hM.bt hb
            clear hb
            clear cb0 cb1 cb2 cb3 cb4 cb5 cd0 cd1 cd2 cd3 cd4 cd5 cf0 cf1 cf2 cf3 cf4 cf5
            have kb := kb.alloc (.cells #[.int .i64 u0, .int .i64 u1, .bool u2, .int .i64 u3, .bool u4, .int .i64 u5] 26)
            have kd := kd.alloc (.cells #[.int .i64 u0, .int .i64 u1, .bool u2, .int .i64 u3, .bool u4, .int .i64 u5] 26)
            have kf := kf.alloc (.cells #[.int .i64 u0, .int .i64 u1, .bool u2, .int .i64 u3, .bool u4, .int .i64 u5] 26)
            have kx := Blk.new v4 26 #[.int .i64 u0, .int .i64 u1, .bool u2, .int .i64 u3, .bool u4, .int .i64 u5]
            have hbw := bt hbw (ba v4 (.cells #[.int .i64 u0, .int .i64 u1, .bool u2, .int .i64 u3, .bool u4, .int .i64 u5] 26))
            have hM := hM.bt (ba v4 (.cells #[.int .i64 u0, .int .i64 u1, .bool u2, .int .i64 u3, .bool u4, .int .i64 u5] 26))
            have cb0 := kb.cell 0
            have cb1 := kb.cell 1
            have cb2 := kb.cell 2
            have cb3 := kb.cell 3
            have cb4 := kb.cell 4
            have cb5 := kb.cell 5
            simp only [List.getElem?_toArray, List.getElem?_cons_zero, List.getElem?_cons_succ] at cb0 cb1 cb2 cb3 cb4 cb5
            have cd0 := kd.cell 0
            have cd1 := kd.cell 1
            have cd2 := kd.cell 2
            have cd3 := kd.cell 3
            have cd4 := kd.cell 4
            have cd5 := kd.cell 5
            simp only [List.getElem?_toArray, List.getElem?_cons_zero, List.getElem?_cons_succ] at cd0 cd1 cd2 cd3 cd4 cd5
            have cf0 := kf.cell 0
            have cf1 := kf.cell 1
            have cf2 := kf.cell 2
            have cf3 := kf.cell 3
            have cf4 := kf.cell 4
            have cf5 := kf.cell 5
            simp only [List.getElem?_toArray, List.getElem?_cons_zero, List.getElem?_cons_succ] at cf0 cf1 cf2 cf3 cf4 cf5
            have cx0 := kx.cell 0
            have cx1 := kx.cell 1
            have cx2 := kx.cell 2
            have cx3 := kx.cell 3
            have cx4 := kx.cell 4
            have cx5 := kx.cell 5
            simp only [List.getElem?_toArray, List.getElem?_cons_zero, List.getElem?_cons_succ] at cx0 cx1 cx2 cx3 cx4 cx5
            go_wp2_with fail
            refine (ha _ hM).mono ?_
            rintro e v5 ⟨rfl, hb⟩
            have kb := kb.below hb kb.lt
            have kd := kd.below hb kd.lt
            have kf := kf.below hb kf.lt
            have kx := kx.below hb kx.lt
            have hbw := bt hbw hb
            have hM := hM.bt hb
            clear hb
            clear cb0 cb1 cb2 cb3 cb4 cb5 cd0 cd1 cd2 cd3 cd4 cd5 cf0 cf1 cf2 cf3 cf4 cf5 cx0 cx1 cx2 cx3 cx4 cx5
            have cb0 := kb.cell 0
            have cb1 := kb.cell 1
            have cb2 := kb.cell 2
            have cb3 := kb.cell 3
            have cb4 := kb.cell 4
            have cb5 := kb.cell 5
            simp only [List.getElem?_toArray, List.getElem?_cons_zero, List.getElem?_cons_succ] at cb0 cb1 cb2 cb3 cb4 cb5
            have cd0 := kd.cell 0
            have cd1 := kd.cell 1
            have cd2 := kd.cell 2
            have cd3 := kd.cell 3
            have cd4 := kd.cell 4
            have cd5 := kd.cell 5
            simp only [List.getElem?_toArray, List.getElem?_cons_zero, List.getElem?_cons_succ] at cd0 cd1 cd2 cd3 cd4 cd5
            have cf0 := kf.cell 0
            have cf1 := kf.cell 1
            have cf2 := kf.cell 2
            have cf3 := kf.cell 3
            have cf4 := kf.cell 4
            have cf5 := kf.cell 5
            simp only [List.getElem?_toArray, List.getElem?_cons_zero, List.getElem?_cons_succ] at cf0 cf1 cf2 cf3 cf4 cf5
            have cx0 := kx.cell 0
            have cx1 := kx.cell 1
            have cx2 := kx.cell 2
            have cx3 := kx.cell 3
            have cx4 := kx.cell 4
            have cx5 := kx.cell 5
            simp only [List.getElem?_toArray, List.getElem?_cons_zero, List.getElem?_cons_succ] at cx0 cx1 cx2 cx3 cx4 cx5
            go_wp2
            go_ret
            exact ⟨rfl, hbw⟩

end Go.Proofs.YtflaliadiihhbaaDoor
