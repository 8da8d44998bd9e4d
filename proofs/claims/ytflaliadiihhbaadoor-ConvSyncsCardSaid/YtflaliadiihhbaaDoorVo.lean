/- Layer 10: only a side in Send sends (P10.2). -/
import Derived.Test.YtflaliadiihhbaaDoorVm
namespace Go.Proofs.YtflaliadiihhbaaDoor
open Go.RowKit
set_option linter.unusedVariables false
set_option linter.unusedSimpArgs false

def QT (c : Int × Int × Bool × Int × Bool × Int) (s : Int) : Bool := !rightM c || (((doM c s 1).2 == 0) == (stM c (decide (s = 1)) == 1 && wtM c (decide (s = 1)) == false) && (((doM c s 1).2 != 0 || (doM c s 1).1 == c) && ((doM c s 1).2 != 0 || ((doM c s 2).2 == 0 && ((doM (doM c s 2).1 s 1).2 == 7 && ((doM (doM c s 2).1 (1 - s) 2).2 == 0 && (doM (doM c s 2).1 (1 - s) 2).1 == c))))))
theorem QT_all : (allC.all fun c => [0, 1].all fun s => QT c s) = true := by decide +kernel
theorem eq23 (a : Int) (x : Bool) (a' : Int) (x' : Bool) (w : World) : (binOp .eql 23 (.agg #[.int .i64 a, .bool x]) (.agg #[.int .i64 a', .bool x'])).run Tryd.prog w = .ok (.bool (a == a' && x == x')) w := by
  rw [run_eql_struct, run_equalIn_struct w 9999 23 _ _ (by kernel_rfl) (by kernel_rfl)]
  cases h1 : a == a' <;> cases h2 : x == x' <;> simp [Op.eqFields, Program.fieldsOf, Tryd.underlying23, go_sem, h1, h2]
theorem eqM_self (l a : Int) (x : Bool) (b : Int) (y : Bool) (t : Int) : eqM l a x b y t l a x b y t = true := by simp [eqM]

set_option maxRecDepth 100000 in
set_option maxHeartbeats 4000000 in
theorem convTalks_0 (l s0 : Int) (w0 : Bool) (s1 : Int) (w1 : Bool) (t : Int) (w : World) (hM : Meets w) (hR : rightM (l, s0, w0, s1, w1, t) = true) : Calls Tryd.prog 10 #[cv (l, s0, w0, s1, w1, t), .int .i64 0] w fun e w' => e = .returned (.bool true) ∧ Below w.heap.size w w' := by
  have ha := fun w h => alive_any w h
  have hr := fun w h => right_any l s0 w0 s1 w1 t w h
  rw [hR] at hr
  have hd1 := fun w h => do_any l s0 w0 s1 w1 t 0 1 w h
  have hd2 := fun w h => do_any l s0 w0 s1 w1 t 0 2 w h
  have hQ := all_convs QT QT_all hR (s := 0) rfl
  unfold QT at hQ
  rw [hR] at hQ
  have hst : stM (l, s0, w0, s1, w1, t) (decide ((0 : Int) = 1)) = s0 := rfl
  have hwt : wtM (l, s0, w0, s1, w1, t) (decide ((0 : Int) = 1)) = w0 := rfl
  rw [hst, hwt] at hQ
  clear hst hwt
  obtain ⟨⟨y0, y1, y2, y3, y4, y5⟩, E, hy⟩ : ∃ d E, doM (l, s0, w0, s1, w1, t) 0 1 = (d, E) := ⟨_, _, rfl⟩
  obtain ⟨⟨z0, z1, z2, z3, z4, z5⟩, G, hz⟩ : ∃ d E, doM (l, s0, w0, s1, w1, t) 0 2 = (d, E) := ⟨_, _, rfl⟩
  have hd3 := fun w h => do_any z0 z1 z2 z3 z4 z5 0 1 w h
  have hd4 := fun w h => do_any z0 z1 z2 z3 z4 z5 1 2 w h
  rw [hy] at hQ hd1
  rw [hz] at hQ hd2
  obtain ⟨⟨u0, u1, u2, u3, u4, u5⟩, H, hu⟩ : ∃ d E, doM (z0, z1, z2, z3, z4, z5) 0 1 = (d, E) := ⟨_, _, rfl⟩
  obtain ⟨⟨k0, k1, k2, k3, k4, k5⟩, J, hk⟩ : ∃ d E, doM (z0, z1, z2, z3, z4, z5) 1 2 = (d, E) := ⟨_, _, rfl⟩
  rw [hu] at hd3
  rw [hk] at hd4
  simp only [Int.sub_self, Int.sub_zero] at hQ
  rw [hu, hk] at hQ
  clear hy hz hu hk hR
  have he23 := eq23 s0 w0 1 false
  have e0 : E = 0 ∨ E ≠ 0 := by omega
  generalize (s0 == 1 && w0 == false) = R at *
  simp only [Bool.not_true, Bool.false_or, Bool.and_eq_true] at hQ
  obtain ⟨q1, q2, q3⟩ := hQ
  rcases e0 with rfl | e0
  · obtain rfl : R = true := by simpa using q1
    simp only [bne_self_eq_false, Bool.false_or, Bool.and_eq_true, beq_iff_eq, Prod.mk.injEq] at q2 q3
    obtain ⟨rfl, rfl, rfl, rfl, rfl, rfl⟩ := q2
    obtain ⟨rfl, rfl, rfl, rfl, rfl, rfl, rfl, rfl, rfl⟩ := q3
    have hen := neC k0 k1 k2 k3 k4 k5 k0 k1 k2 k3 k4 k5
    have hee := eqC k0 k1 k2 k3 k4 k5 k0 k1 k2 k3 k4 k5
    rw [eqM_self] at hen hee
    clear q1
    simp only [cv] at *
    go_enter Tryd.func10, Tryd.ntmps10
    have hbw := Below.refl w.heap.size w
    have kb := Blk.new w 26 #[.int .i64 k0, .int .i64 k1, .bool k2, .int .i64 k3, .bool k4, .int .i64 k5]
    have hbw := bt hbw (ba w (.cells #[.int .i64 k0, .int .i64 k1, .bool k2, .int .i64 k3, .bool k4, .int .i64 k5] 26))
    have hM := hM.bt (ba w (.cells #[.int .i64 k0, .int .i64 k1, .bool k2, .int .i64 k3, .bool k4, .int .i64 k5] 26))
    have cb0 := kb.cell 0
    have cb1 := kb.cell 1
    have cb2 := kb.cell 2
    have cb3 := kb.cell 3
    have cb4 := kb.cell 4
    have cb5 := kb.cell 5
    simp only [List.getElem?_toArray, List.getElem?_cons_zero, List.getElem?_cons_succ] at cb0 cb1 cb2 cb3 cb4 cb5
    go_wp2_with fail
    refine (hr _ hM).mono ?_
    rintro e v1 ⟨rfl, hb⟩
    have kb := kb.below hb kb.lt
    have hbw := bt hbw hb
    have hM := hM.bt hb
    clear hb
    clear cb0 cb1 cb2 cb3 cb4 cb5
    have cb0 := kb.cell 0
    have cb1 := kb.cell 1
    have cb2 := kb.cell 2
    have cb3 := kb.cell 3
    have cb4 := kb.cell 4
    have cb5 := kb.cell 5
    simp only [List.getElem?_toArray, List.getElem?_cons_zero, List.getElem?_cons_succ] at cb0 cb1 cb2 cb3 cb4 cb5
    go_wp2_with fail
    refine (hd1 _ hM).mono ?_
    rintro e v2 ⟨rfl, hb⟩
    have kb := kb.below hb kb.lt
    have hbw := bt hbw hb
    have hM := hM.bt hb
    clear hb
    clear cb0 cb1 cb2 cb3 cb4 cb5
    have kb := kb.alloc (.cells #[.int .i64 k0, .int .i64 k1, .bool k2, .int .i64 k3, .bool k4, .int .i64 k5] 26)
    have kd := Blk.new v2 26 #[.int .i64 k0, .int .i64 k1, .bool k2, .int .i64 k3, .bool k4, .int .i64 k5]
    have hbw := bt hbw (ba v2 (.cells #[.int .i64 k0, .int .i64 k1, .bool k2, .int .i64 k3, .bool k4, .int .i64 k5] 26))
    have hM := hM.bt (ba v2 (.cells #[.int .i64 k0, .int .i64 k1, .bool k2, .int .i64 k3, .bool k4, .int .i64 k5] 26))
    have cb0 := kb.cell 0
    have cb1 := kb.cell 1
    have cb2 := kb.cell 2
    have cb3 := kb.cell 3
    have cb4 := kb.cell 4
    have cb5 := kb.cell 5
    simp only [List.getElem?_toArray, List.getElem?_cons_zero, List.getElem?_cons_succ] at cb0 cb1 cb2 cb3 cb4 cb5
    have cd0 := kd.cell 0
    have cd1 := kd.cell 1
    have cd2 := kd.cell 2
    have cd3 := kd.cell 3
    have cd4 := kd.cell 4
    have cd5 := kd.cell 5
    simp only [List.getElem?_toArray, List.getElem?_cons_zero, List.getElem?_cons_succ] at cd0 cd1 cd2 cd3 cd4 cd5
    go_wp2_with fail
    refine (hd2 _ hM).mono ?_
    rintro e v3 ⟨rfl, hb⟩
    have kb := kb.below hb kb.lt
    have kd := kd.below hb kd.lt
    have hbw := bt hbw hb
    have hM := hM.bt hb
    clear hb
    clear cb0 cb1 cb2 cb3 cb4 cb5 cd0 cd1 cd2 cd3 cd4 cd5
    have kb := kb.alloc (.cells #[.int .i64 z0, .int .i64 z1, .bool z2, .int .i64 z3, .bool z4, .int .i64 z5] 26)
    have kd := kd.alloc (.cells #[.int .i64 z0, .int .i64 z1, .bool z2, .int .i64 z3, .bool z4, .int .i64 z5] 26)
    have kf := Blk.new v3 26 #[.int .i64 z0, .int .i64 z1, .bool z2, .int .i64 z3, .bool z4, .int .i64 z5]
    have hbw := bt hbw (ba v3 (.cells #[.int .i64 z0, .int .i64 z1, .bool z2, .int .i64 z3, .bool z4, .int .i64 z5] 26))
    have hM := hM.bt (ba v3 (.cells #[.int .i64 z0, .int .i64 z1, .bool z2, .int .i64 z3, .bool z4, .int .i64 z5] 26))
    have cb0 := kb.cell 0
    have cb1 := kb.cell 1
    have cb2 := kb.cell 2
    have cb3 := kb.cell 3
    have cb4 := kb.cell 4
    have cb5 := kb.cell 5
    simp only [List.getElem?_toArray, List.getElem?_cons_zero, List.getElem?_cons_succ] at cb0 cb1 cb2 cb3 cb4 cb5
    have cd0 := kd.cell 0
    have cd1 := kd.cell 1
    have cd2 := kd.cell 2
    have cd3 := kd.cell 3
    have cd4 := kd.cell 4
    have cd5 := kd.cell 5
    simp only [List.getElem?_toArray, List.getElem?_cons_zero, List.getElem?_cons_succ] at cd0 cd1 cd2 cd3 cd4 cd5
    have cf0 := kf.cell 0
    have cf1 := kf.cell 1
    have cf2 := kf.cell 2
    have cf3 := kf.cell 3
    have cf4 := kf.cell 4
    have cf5 := kf.cell 5
    simp only [List.getElem?_toArray, List.getElem?_cons_zero, List.getElem?_cons_succ] at cf0 cf1 cf2 cf3 cf4 cf5
    go_wp2_with fail
    refine (hd3 _ hM).mono ?_
    rintro e v4 ⟨rfl, hb⟩
    have kb := kb.below hb kb.lt
    have kd := kd.below hb kd.lt
    have kf := kf.below hb kf.lt
    have hbw := bt hbw hb
    have hM := hM.bt hb
    clear hb
    clear cb0 cb1 cb2 cb3 cb4 cb5 cd0 cd1 cd2 cd3 cd4 cd5 cf0 cf1 cf2 cf3 cf4 cf5
    have kb := kb.alloc (.cells #[.int .i64 u0, .int .i64 u1, .bool u2, .int .i64 u3, .bool u4, .int .i64 u5] 26)
    have kd := kd.alloc (.cells #[.int .i64 u0, .int .i64 u1, .bool u2, .int .i64 u3, .bool u4, .int .i64 u5] 26)
    have kf := kf.alloc (.cells #[.int .i64 u0, .int .i64 u1, .bool u2, .int .i64 u3, .bool u4, .int .i64 u5] 26)
    have kh := Blk.new v4 26 #[.int .i64 u0, .int .i64 u1, .bool u2, .int .i64 u3, .bool u4, .int .i64 u5]
    have hbw := bt hbw (ba v4 (.cells #[.int .i64 u0, .int .i64 u1, .bool u2, .int .i64 u3, .bool u4, .int .i64 u5] 26))
    have hM := hM.bt (ba v4 (.cells #[.int .i64 u0, .int .i64 u1, .bool u2, .int .i64 u3, .bool u4, .int .i64 u5] 26))
    have cb0 := kb.cell 0
    have cb1 := kb.cell 1
    have cb2 := kb.cell 2
    have cb3 := kb.cell 3
    have cb4 := kb.cell 4
    have cb5 := kb.cell 5
    simp only [List.getElem?_toArray, List.getElem?_cons_zero, List.getElem?_cons_succ] at cb0 cb1 cb2 cb3 cb4 cb5
    have cd0 := kd.cell 0
    have cd1 := kd.cell 1
    have cd2 := kd.cell 2
    have cd3 := kd.cell 3
    have cd4 := kd.cell 4
    have cd5 := kd.cell 5
    simp only [List.getElem?_toArray, List.getElem?_cons_zero, List.getElem?_cons_succ] at cd0 cd1 cd2 cd3 cd4 cd5
    have cf0 := kf.cell 0
    have cf1 := kf.cell 1
    have cf2 := kf.cell 2
    have cf3 := kf.cell 3
    have cf4 := kf.cell 4
    have cf5 := kf.cell 5
    simp only [List.getElem?_toArray, List.getElem?_cons_zero, List.getElem?_cons_succ] at cf0 cf1 cf2 cf3 cf4 cf5
    have ch0 := kh.cell 0
    have ch1 := kh.cell 1
    have ch2 := kh.cell 2
    have ch3 := kh.cell 3
    have ch4 := kh.cell 4
    have ch5 := kh.cell 5
    simp only [List.getElem?_toArray, List.getElem?_cons_zero, List.getElem?_cons_succ] at ch0 ch1 ch2 ch3 ch4 ch5
    go_wp2_with fail
    refine (hd4 _ hM).mono ?_
    rintro e v5 ⟨rfl, hb⟩
    have kb := kb.below hb kb.lt
    have kd := kd.below hb kd.lt
    have kf := kf.below hb kf.lt
    have kh := kh.below hb kh.lt
    have hbw := bt hbw hb
    have hM := hM.bt hb
    clear hb
    clear cb0 cb1 cb2 cb3 cb4 cb5 cd0 cd1 cd2 cd3 cd4 cd5 cf0 cf1 cf2 cf3 cf4 cf5 ch0 ch1 ch2 ch3 ch4 ch5
    have kb := kb.alloc (.cells #[.int .i64 k0, .int .i64 k1, .bool k2, .int .i64 k3, .bool k4, .int .i64 k5] 26)
    have kd := kd.alloc (.cells #[.int .i64 k0, .int .i64 k1, .bool k2, .int .i64 k3, .bool k4, .int .i64 k5] 26)
    have kf := kf.alloc (.cells #[.int .i64 k0, .int .i64 k1, .bool k2, .int .i64 k3, .bool k4, .int .i64 k5] 26)
    have kh := kh.alloc (.cells #[.int .i64 k0, .int .i64 k1, .bool k2, .int .i64 k3, .bool k4, .int .i64 k5] 26)
    have kk := Blk.new v5 26 #[.int .i64 k0, .int .i64 k1, .bool k2, .int .i64 k3, .bool k4, .int .i64 k5]
    have hbw := bt hbw (ba v5 (.cells #[.int .i64 k0, .int .i64 k1, .bool k2, .int .i64 k3, .bool k4, .int .i64 k5] 26))
    have hM := hM.bt (ba v5 (.cells #[.int .i64 k0, .int .i64 k1, .bool k2, .int .i64 k3, .bool k4, .int .i64 k5] 26))
    have cb0 := kb.cell 0
    have cb1 := kb.cell 1
    have cb2 := kb.cell 2
    have cb3 := kb.cell 3
    have cb4 := kb.cell 4
    have cb5 := kb.cell 5
    simp only [List.getElem?_toArray, List.getElem?_cons_zero, List.getElem?_cons_succ] at cb0 cb1 cb2 cb3 cb4 cb5
    have cd0 := kd.cell 0
    have cd1 := kd.cell 1
    have cd2 := kd.cell 2
    have cd3 := kd.cell 3
    have cd4 := kd.cell 4
    have cd5 := kd.cell 5
    simp only [List.getElem?_toArray, List.getElem?_cons_zero, List.getElem?_cons_succ] at cd0 cd1 cd2 cd3 cd4 cd5
    have cf0 := kf.cell 0
    have cf1 := kf.cell 1
    have cf2 := kf.cell 2
    have cf3 := kf.cell 3
    have cf4 := kf.cell 4
    have cf5 := kf.cell 5
    simp only [List.getElem?_toArray, List.getElem?_cons_zero, List.getElem?_cons_succ] at cf0 cf1 cf2 cf3 cf4 cf5
    have ch0 := kh.cell 0
    have ch1 := kh.cell 1
    have ch2 := kh.cell 2
    have ch3 := kh.cell 3
    have ch4 := kh.cell 4
    have ch5 := kh.cell 5
    simp only [List.getElem?_toArray, List.getElem?_cons_zero, List.getElem?_cons_succ] at ch0 ch1 ch2 ch3 ch4 ch5
    have ck0 := kk.cell 0
    have ck1 := kk.cell 1
    have ck2 := kk.cell 2
    have ck3 := kk.cell 3
    have ck4 := kk.cell 4
    have ck5 := kk.cell 5
    simp only [List.getElem?_toArray, List.getElem?_cons_zero, List.getElem?_cons_succ] at ck0 ck1 ck2 ck3 ck4 ck5
    go_wp2_with fail
    refine (ha _ hM).mono ?_
    rintro e v6 ⟨rfl, hb⟩
    have kb := kb.below hb kb.lt
    have kd := kd.below hb kd.lt
    have kf := kf.below hb kf.lt
    have kh := kh.below hb kh.lt
    have kk := kk.below hb kk.lt
    have hbw := bt hbw hb
    have hM := hM.bt hb
    clear hb
    clear cb0 cb1 cb2 cb3 cb4 cb5 cd0 cd1 cd2 cd3 cd4 cd5 cf0 cf1 cf2 cf3 cf4 cf5 ch0 ch1 ch2 ch3 ch4 ch5 ck0 ck1 ck2 ck3 ck4 ck5
    have cb0 := kb.cell 0
    have cb1 := kb.cell 1
    have cb2 := kb.cell 2
    have cb3 := kb.cell 3
    have cb4 := kb.cell 4
    have cb5 := kb.cell 5
    simp only [List.getElem?_toArray, List.getElem?_cons_zero, List.getElem?_cons_succ] at cb0 cb1 cb2 cb3 cb4 cb5
    have cd0 := kd.cell 0
    have cd1 := kd.cell 1
    have cd2 := kd.cell 2
    have cd3 := kd.cell 3
    have cd4 := kd.cell 4
    have cd5 := kd.cell 5
    simp only [List.getElem?_toArray, List.getElem?_cons_zero, List.getElem?_cons_succ] at cd0 cd1 cd2 cd3 cd4 cd5
    have cf0 := kf.cell 0
    have cf1 := kf.cell 1
    have cf2 := kf.cell 2
    have cf3 := kf.cell 3
    have cf4 := kf.cell 4
    have cf5 := kf.cell 5
    simp only [List.getElem?_toArray, List.getElem?_cons_zero, List.getElem?_cons_succ] at cf0 cf1 cf2 cf3 cf4 cf5
    have ch0 := kh.cell 0
    have ch1 := kh.cell 1
    have ch2 := kh.cell 2
    have ch3 := kh.cell 3
    have ch4 := kh.cell 4
    have ch5 := kh.cell 5
    simp only [List.getElem?_toArray, List.getElem?_cons_zero, List.getElem?_cons_succ] at ch0 ch1 ch2 ch3 ch4 ch5
    have ck0 := kk.cell 0
    have ck1 := kk.cell 1
    have ck2 := kk.cell 2
    have ck3 := kk.cell 3
    have ck4 := kk.cell 4
    have ck5 := kk.cell 5
    simp only [List.getElem?_toArray, List.getElem?_cons_zero, List.getElem?_cons_succ] at ck0 ck1 ck2 ck3 ck4 ck5
    go_wp2
    go_ret
    exact ⟨rfl, hbw⟩
  · have f1 : (E == 0) = false := by simpa using e0
    have f2 : (E != 0) = true := by simpa using e0
    obtain rfl : R = false := by simpa [f1] using q1
    clear q1 q2 q3 e0
    simp only [cv] at *
    go_enter Tryd.func10, Tryd.ntmps10
    have hbw := Below.refl w.heap.size w
    have kb := Blk.new w 26 #[.int .i64 l, .int .i64 s0, .bool w0, .int .i64 s1, .bool w1, .int .i64 t]
    have hbw := bt hbw (ba w (.cells #[.int .i64 l, .int .i64 s0, .bool w0, .int .i64 s1, .bool w1, .int .i64 t] 26))
    have hM := hM.bt (ba w (.cells #[.int .i64 l, .int .i64 s0, .bool w0, .int .i64 s1, .bool w1, .int .i64 t] 26))
    have cb0 := kb.cell 0
    have cb1 := kb.cell 1
    have cb2 := kb.cell 2
    have cb3 := kb.cell 3
    have cb4 := kb.cell 4
    have cb5 := kb.cell 5
    simp only [List.getElem?_toArray, List.getElem?_cons_zero, List.getElem?_cons_succ] at cb0 cb1 cb2 cb3 cb4 cb5
    go_wp2_with fail
    refine (hr _ hM).mono ?_
    rintro e v1 ⟨rfl, hb⟩
    have kb := kb.below hb kb.lt
    have hbw := bt hbw hb
    have hM := hM.bt hb
    clear hb
    clear cb0 cb1 cb2 cb3 cb4 cb5
    have cb0 := kb.cell 0
    have cb1 := kb.cell 1
    have cb2 := kb.cell 2
    have cb3 := kb.cell 3
    have cb4 := kb.cell 4
    have cb5 := kb.cell 5
    simp only [List.getElem?_toArray, List.getElem?_cons_zero, List.getElem?_cons_succ] at cb0 cb1 cb2 cb3 cb4 cb5
    go_wp2_with fail
    refine (hd1 _ hM).mono ?_
    rintro e v2 ⟨rfl, hb⟩
    have kb := kb.below hb kb.lt
    have hbw := bt hbw hb
    have hM := hM.bt hb
    clear hb
    clear cb0 cb1 cb2 cb3 cb4 cb5
    have kb := kb.alloc (.cells #[.int .i64 y0, .int .i64 y1, .bool y2, .int .i64 y3, .bool y4, .int .i64 y5] 26)
    have kd := Blk.new v2 26 #[.int .i64 y0, .int .i64 y1, .bool y2, .int .i64 y3, .bool y4, .int .i64 y5]
    have hbw := bt hbw (ba v2 (.cells #[.int .i64 y0, .int .i64 y1, .bool y2, .int .i64 y3, .bool y4, .int .i64 y5] 26))
    have hM := hM.bt (ba v2 (.cells #[.int .i64 y0, .int .i64 y1, .bool y2, .int .i64 y3, .bool y4, .int .i64 y5] 26))
    have cb0 := kb.cell 0
    have cb1 := kb.cell 1
    have cb2 := kb.cell 2
    have cb3 := kb.cell 3
    have cb4 := kb.cell 4
    have cb5 := kb.cell 5
    simp only [List.getElem?_toArray, List.getElem?_cons_zero, List.getElem?_cons_succ] at cb0 cb1 cb2 cb3 cb4 cb5
    have cd0 := kd.cell 0
    have cd1 := kd.cell 1
    have cd2 := kd.cell 2
    have cd3 := kd.cell 3
    have cd4 := kd.cell 4
    have cd5 := kd.cell 5
    simp only [List.getElem?_toArray, List.getElem?_cons_zero, List.getElem?_cons_succ] at cd0 cd1 cd2 cd3 cd4 cd5
    go_wp2_with fail
    refine (ha _ hM).mono ?_
    rintro e v3 ⟨rfl, hb⟩
    have kb := kb.below hb kb.lt
    have kd := kd.below hb kd.lt
    have hbw := bt hbw hb
    have hM := hM.bt hb
    clear hb
    clear cb0 cb1 cb2 cb3 cb4 cb5 cd0 cd1 cd2 cd3 cd4 cd5
    have cb0 := kb.cell 0
    have cb1 := kb.cell 1
    have cb2 := kb.cell 2
    have cb3 := kb.cell 3
    have cb4 := kb.cell 4
    have cb5 := kb.cell 5
    simp only [List.getElem?_toArray, List.getElem?_cons_zero, List.getElem?_cons_succ] at cb0 cb1 cb2 cb3 cb4 cb5
    have cd0 := kd.cell 0
    have cd1 := kd.cell 1
    have cd2 := kd.cell 2
    have cd3 := kd.cell 3
    have cd4 := kd.cell 4
    have cd5 := kd.cell 5
    simp only [List.getElem?_toArray, List.getElem?_cons_zero, List.getElem?_cons_succ] at cd0 cd1 cd2 cd3 cd4 cd5
    go_wp2
    go_ret
    exact ⟨rfl, hbw⟩

set_option maxRecDepth 100000 in
set_option maxHeartbeats 4000000 in
theorem convTalks_1 (l s0 : Int) (w0 : Bool) (s1 : Int) (w1 : Bool) (t : Int) (w : World) (hM : Meets w) (hR : rightM (l, s0, w0, s1, w1, t) = true) : Calls Tryd.prog 10 #[cv (l, s0, w0, s1, w1, t), .int .i64 1] w fun e w' => e = .returned (.bool true) ∧ Below w.heap.size w w' := by
  have ha := fun w h => alive_any w h
  have hr := fun w h => right_any l s0 w0 s1 w1 t w h
  rw [hR] at hr
  have hd1 := fun w h => do_any l s0 w0 s1 w1 t 1 1 w h
  have hd2 := fun w h => do_any l s0 w0 s1 w1 t 1 2 w h
  have hQ := all_convs QT QT_all hR (s := 1) rfl
  unfold QT at hQ
  rw [hR] at hQ
  have hst : stM (l, s0, w0, s1, w1, t) (decide ((1 : Int) = 1)) = s1 := rfl
  have hwt : wtM (l, s0, w0, s1, w1, t) (decide ((1 : Int) = 1)) = w1 := rfl
  rw [hst, hwt] at hQ
  clear hst hwt
  obtain ⟨⟨y0, y1, y2, y3, y4, y5⟩, E, hy⟩ : ∃ d E, doM (l, s0, w0, s1, w1, t) 1 1 = (d, E) := ⟨_, _, rfl⟩
  obtain ⟨⟨z0, z1, z2, z3, z4, z5⟩, G, hz⟩ : ∃ d E, doM (l, s0, w0, s1, w1, t) 1 2 = (d, E) := ⟨_, _, rfl⟩
  have hd3 := fun w h => do_any z0 z1 z2 z3 z4 z5 1 1 w h
  have hd4 := fun w h => do_any z0 z1 z2 z3 z4 z5 0 2 w h
  rw [hy] at hQ hd1
  rw [hz] at hQ hd2
  obtain ⟨⟨u0, u1, u2, u3, u4, u5⟩, H, hu⟩ : ∃ d E, doM (z0, z1, z2, z3, z4, z5) 1 1 = (d, E) := ⟨_, _, rfl⟩
  obtain ⟨⟨k0, k1, k2, k3, k4, k5⟩, J, hk⟩ : ∃ d E, doM (z0, z1, z2, z3, z4, z5) 0 2 = (d, E) := ⟨_, _, rfl⟩
  rw [hu] at hd3
  rw [hk] at hd4
  simp only [Int.sub_self, Int.sub_zero] at hQ
  rw [hu, hk] at hQ
  clear hy hz hu hk hR
  have he23 := eq23 s1 w1 1 false
  have e0 : E = 0 ∨ E ≠ 0 := by omega
  generalize (s1 == 1 && w1 == false) = R at *
  simp only [Bool.not_true, Bool.false_or, Bool.and_eq_true] at hQ
  obtain ⟨q1, q2, q3⟩ := hQ
  rcases e0 with rfl | e0
  · obtain rfl : R = true := by simpa using q1
    simp only [bne_self_eq_false, Bool.false_or, Bool.and_eq_true, beq_iff_eq, Prod.mk.injEq] at q2 q3
    obtain ⟨rfl, rfl, rfl, rfl, rfl, rfl⟩ := q2
    obtain ⟨rfl, rfl, rfl, rfl, rfl, rfl, rfl, rfl, rfl⟩ := q3
    have hen := neC k0 k1 k2 k3 k4 k5 k0 k1 k2 k3 k4 k5
    have hee := eqC k0 k1 k2 k3 k4 k5 k0 k1 k2 k3 k4 k5
    rw [eqM_self] at hen hee
    clear q1
    simp only [cv] at *
    go_enter Tryd.func10, Tryd.ntmps10
    have hbw := Below.refl w.heap.size w
    have kb := Blk.new w 26 #[.int .i64 k0, .int .i64 k1, .bool k2, .int .i64 k3, .bool k4, .int .i64 k5]
    have hbw := bt hbw (ba w (.cells #[.int .i64 k0, .int .i64 k1, .bool k2, .int .i64 k3, .bool k4, .int .i64 k5] 26))
    have hM := hM.bt (ba w (.cells #[.int .i64 k0, .int .i64 k1, .bool k2, .int .i64 k3, .bool k4, .int .i64 k5] 26))
    have cb0 := kb.cell 0
    have cb1 := kb.cell 1
    have cb2 := kb.cell 2
    have cb3 := kb.cell 3
    have cb4 := kb.cell 4
    have cb5 := kb.cell 5
    simp only [List.getElem?_toArray, List.getElem?_cons_zero, List.getElem?_cons_succ] at cb0 cb1 cb2 cb3 cb4 cb5
    go_wp2_with fail
    refine (hr _ hM).mono ?_
    rintro e v1 ⟨rfl, hb⟩
    have kb := kb.below hb kb.lt
    have hbw := bt hbw hb
    have hM := hM.bt hb
    clear hb
    clear cb0 cb1 cb2 cb3 cb4 cb5
    have cb0 := kb.cell 0
    have cb1 := kb.cell 1
    have cb2 := kb.cell 2
    have cb3 := kb.cell 3
    have cb4 := kb.cell 4
    have cb5 := kb.cell 5
    simp only [List.getElem?_toArray, List.getElem?_cons_zero, List.getElem?_cons_succ] at cb0 cb1 cb2 cb3 cb4 cb5
    go_wp2_with fail
    refine (hd1 _ hM).mono ?_
    rintro e v2 ⟨rfl, hb⟩
    have kb := kb.below hb kb.lt
    have hbw := bt hbw hb
    have hM := hM.bt hb
    clear hb
    clear cb0 cb1 cb2 cb3 cb4 cb5
    have kb := kb.alloc (.cells #[.int .i64 k0, .int .i64 k1, .bool k2, .int .i64 k3, .bool k4, .int .i64 k5] 26)
    have kd := Blk.new v2 26 #[.int .i64 k0, .int .i64 k1, .bool k2, .int .i64 k3, .bool k4, .int .i64 k5]
    have hbw := bt hbw (ba v2 (.cells #[.int .i64 k0, .int .i64 k1, .bool k2, .int .i64 k3, .bool k4, .int .i64 k5] 26))
    have hM := hM.bt (ba v2 (.cells #[.int .i64 k0, .int .i64 k1, .bool k2, .int .i64 k3, .bool k4, .int .i64 k5] 26))
    have cb0 := kb.cell 0
    have cb1 := kb.cell 1
    have cb2 := kb.cell 2
    have cb3 := kb.cell 3
    have cb4 := kb.cell 4
    have cb5 := kb.cell 5
    simp only [List.getElem?_toArray, List.getElem?_cons_zero, List.getElem?_cons_succ] at cb0 cb1 cb2 cb3 cb4 cb5
    have cd0 := kd.cell 0
    have cd1 := kd.cell 1
    have cd2 := kd.cell 2
    have cd3 := kd.cell 3
    have cd4 := kd.cell 4
    have cd5 := kd.cell 5
    simp only [List.getElem?_toArray, List.getElem?_cons_zero, List.getElem?_cons_succ] at cd0 cd1 cd2 cd3 cd4 cd5
    go_wp2_with fail
    refine (hd2 _ hM).mono ?_
    rintro e v3 ⟨rfl, hb⟩
    have kb := kb.below hb kb.lt
    have kd := kd.below hb kd.lt
    have hbw := bt hbw hb
    have hM := hM.bt hb
    clear hb
    clear cb0 cb1 cb2 cb3 cb4 cb5 cd0 cd1 cd2 cd3 cd4 cd5
    have kb := kb.alloc (.cells #[.int .i64 z0, .int .i64 z1, .bool z2, .int .i64 z3, .bool z4, .int .i64 z5] 26)
    have kd := kd.alloc (.cells #[.int .i64 z0, .int .i64 z1, .bool z2, .int .i64 z3, .bool z4, .int .i64 z5] 26)
    have kf := Blk.new v3 26 #[.int .i64 z0, .int .i64 z1, .bool z2, .int .i64 z3, .bool z4, .int .i64 z5]
    have hbw := bt hbw (ba v3 (.cells #[.int .i64 z0, .int .i64 z1, .bool z2, .int .i64 z3, .bool z4, .int .i64 z5] 26))
    have hM := hM.bt (ba v3 (.cells #[.int .i64 z0, .int .i64 z1, .bool z2, .int .i64 z3, .bool z4, .int .i64 z5] 26))
    have cb0 := kb.cell 0
    have cb1 := kb.cell 1
    have cb2 := kb.cell 2
    have cb3 := kb.cell 3
    have cb4 := kb.cell 4
    have cb5 := kb.cell 5
    simp only [List.getElem?_toArray, List.getElem?_cons_zero, List.getElem?_cons_succ] at cb0 cb1 cb2 cb3 cb4 cb5
    have cd0 := kd.cell 0
    have cd1 := kd.cell 1
    have cd2 := kd.cell 2
    have cd3 := kd.cell 3
    have cd4 := kd.cell 4
    have cd5 := kd.cell 5
    simp only [List.getElem?_toArray, List.getElem?_cons_zero, List.getElem?_cons_succ] at cd0 cd1 cd2 cd3 cd4 cd5
    have cf0 := kf.cell 0
    have cf1 := kf.cell 1
    have cf2 := kf.cell 2
    have cf3 := kf.cell 3
    have cf4 := kf.cell 4
    have cf5 := kf.cell 5
    simp only [List.getElem?_toArray, List.getElem?_cons_zero, List.getElem?_cons_succ] at cf0 cf1 cf2 cf3 cf4 cf5
    go_wp2_with fail
    refine (hd3 _ hM).mono ?_
    rintro e v4 ⟨rfl, hb⟩
    have kb := kb.below hb kb.lt
    have kd := kd.below hb kd.lt
    have kf := kf.below hb kf.lt
    have hbw := bt hbw hb
    have hM := hM.bt hb
    clear hb
    clear cb0 cb1 cb2 cb3 cb4 cb5 cd0 cd1 cd2 cd3 cd4 cd5 cf0 cf1 cf2 cf3 cf4 cf5
    have kb := kb.alloc (.cells #[.int .i64 u0, .int .i64 u1, .bool u2, .int .i64 u3, .bool u4, .int .i64 u5] 26)
    have kd := kd.alloc (.cells #[.int .i64 u0, .int .i64 u1, .bool u2, .int .i64 u3, .bool u4, .int .i64 u5] 26)
    have kf := kf.alloc (.cells #[.int .i64 u0, .int .i64 u1, .bool u2, .int .i64 u3, .bool u4, .int .i64 u5] 26)
    have kh := Blk.new v4 26 #[.int .i64 u0, .int .i64 u1, .bool u2, .int .i64 u3, .bool u4, .int .i64 u5]
    have hbw := bt hbw (ba v4 (.cells #[.int .i64 u0, .int .i64 u1, .bool u2, .int .i64 u3, .bool u4, .int .i64 u5] 26))
    have hM := hM.bt (ba v4 (.cells #[.int .i64 u0, .int .i64 u1, .bool u2, .int .i64 u3, .bool u4, .int .i64 u5] 26))
    have cb0 := kb.cell 0
    have cb1 := kb.cell 1
    have cb2 := kb.cell 2
    have cb3 := kb.cell 3
    have cb4 := kb.cell 4
    have cb5 := kb.cell 5
    simp only [List.getElem?_toArray, List.getElem?_cons_zero, List.getElem?_cons_succ] at cb0 cb1 cb2 cb3 cb4 cb5
    have cd0 := kd.cell 0
    have cd1 := kd.cell 1
    have cd2 := kd.cell 2
    have cd3 := kd.cell 3
    have cd4 := kd.cell 4
    have cd5 := kd.cell 5
    simp only [List.getElem?_toArray, List.getElem?_cons_zero, List.getElem?_cons_succ] at cd0 cd1 cd2 cd3 cd4 cd5
    have cf0 := kf.cell 0
    have cf1 := kf.cell 1
    have cf2 := kf.cell 2
    have cf3 := kf.cell 3
    have cf4 := kf.cell 4
    have cf5 := kf.cell 5
    simp only [List.getElem?_toArray, List.getElem?_cons_zero, List.getElem?_cons_succ] at cf0 cf1 cf2 cf3 cf4 cf5
    have ch0 := kh.cell 0
    have ch1 := kh.cell 1
    have ch2 := kh.cell 2
    have ch3 := kh.cell 3
    have ch4 := kh.cell 4
    have ch5 := kh.cell 5
    simp only [List.getElem?_toArray, List.getElem?_cons_zero, List.getElem?_cons_succ] at ch0 ch1 ch2 ch3 ch4 ch5
    go_wp2_with fail
    refine (hd4 _ hM).mono ?_
    rintro e v5 ⟨rfl, hb⟩
    have kb := kb.below hb kb.lt
    have kd := kd.below hb kd.lt
    have kf := kf.below hb kf.lt
    have kh := kh.below hb kh.lt
    have hbw := bt hbw hb
    have hM := hM.bt hb
    clear hb
    clear cb0 cb1 cb2 cb3 cb4 cb5 cd0 cd1 cd2 cd3 cd4 cd5 cf0 cf1 cf2 cf3 cf4 cf5 ch0 ch1 ch2 ch3 ch4 ch5
    have kb := kb.alloc (.cells #[.int .i64 k0, .int .i64 k1, .bool k2, .int .i64 k3, .bool k4, .int .i64 k5] 26)
    have kd := kd.alloc (.cells #[.int .i64 k0, .int .i64 k1, .bool k2, .int .i64 k3, .bool k4, .int .i64 k5] 26)
    have kf := kf.alloc (.cells #[.int .i64 k0, .int .i64 k1, .bool k2, .int .i64 k3, .bool k4, .int .i64 k5] 26)
    have kh := kh.alloc (.cells #[.int .i64 k0, .int .i64 k1, .bool k2, .int .i64 k3, .bool k4, .int .i64 k5] 26)
    have kk := Blk.new v5 26 #[.int .i64 k0, .int .i64 k1, .bool k2, .int .i64 k3, .bool k4, .int .i64 k5]
    have hbw := bt hbw (ba v5 (.cells #[.int .i64 k0, .int .i64 k1, .bool k2, .int .i64 k3, .bool k4, .int .i64 k5] 26))
    have hM := hM.bt (ba v5 (.cells #[.int .i64 k0, .int .i64 k1, .bool k2, .int .i64 k3, .bool k4, .int .i64 k5] 26))
    have cb0 := kb.cell 0
    have cb1 := kb.cell 1
    have cb2 := kb.cell 2
    have cb3 := kb.cell 3
    have cb4 := kb.cell 4
    have cb5 := kb.cell 5
    simp only [List.getElem?_toArray, List.getElem?_cons_zero, List.getElem?_cons_succ] at cb0 cb1 cb2 cb3 cb4 cb5
    have cd0 := kd.cell 0
    have cd1 := kd.cell 1
    have cd2 := kd.cell 2
    have cd3 := kd.cell 3
    have cd4 := kd.cell 4
    have cd5 := kd.cell 5
    simp only [List.getElem?_toArray, List.getElem?_cons_zero, List.getElem?_cons_succ] at cd0 cd1 cd2 cd3 cd4 cd5
    have cf0 := kf.cell 0
    have cf1 := kf.cell 1
    have cf2 := kf.cell 2
    have cf3 := kf.cell 3
    have cf4 := kf.cell 4
    have cf5 := kf.cell 5
    simp only [List.getElem?_toArray, List.getElem?_cons_zero, List.getElem?_cons_succ] at cf0 cf1 cf2 cf3 cf4 cf5
    have ch0 := kh.cell 0
    have ch1 := kh.cell 1
    have ch2 := kh.cell 2
    have ch3 := kh.cell 3
    have ch4 := kh.cell 4
    have ch5 := kh.cell 5
    simp only [List.getElem?_toArray, List.getElem?_cons_zero, List.getElem?_cons_succ] at ch0 ch1 ch2 ch3 ch4 ch5
    have ck0 := kk.cell 0
    have ck1 := kk.cell 1
    have ck2 := kk.cell 2
    have ck3 := kk.cell 3
    have ck4 := kk.cell 4
    have ck5 := kk.cell 5
    simp only [List.getElem?_toArray, List.getElem?_cons_zero, List.getElem?_cons_succ] at ck0 ck1 ck2 ck3 ck4 ck5
    go_wp2_with fail
    refine (ha _ hM).mono ?_
    rintro e v6 ⟨rfl, hb⟩
    have kb := kb.below hb kb.lt
    have kd := kd.below hb kd.lt
    have kf := kf.below hb kf.lt
    have kh := kh.below hb kh.lt
    have kk := kk.below hb kk.lt
    have hbw := bt hbw hb
    have hM := hM.bt hb
    clear hb
    clear cb0 cb1 cb2 cb3 cb4 cb5 cd0 cd1 cd2 cd3 cd4 cd5 cf0 cf1 cf2 cf3 cf4 cf5 ch0 ch1 ch2 ch3 ch4 ch5 ck0 ck1 ck2 ck3 ck4 ck5
    have cb0 := kb.cell 0
    have cb1 := kb.cell 1
    have cb2 := kb.cell 2
    have cb3 := kb.cell 3
    have cb4 := kb.cell 4
    have cb5 := kb.cell 5
    simp only [List.getElem?_toArray, List.getElem?_cons_zero, List.getElem?_cons_succ] at cb0 cb1 cb2 cb3 cb4 cb5
    have cd0 := kd.cell 0
    have cd1 := kd.cell 1
    have cd2 := kd.cell 2
    have cd3 := kd.cell 3
    have cd4 := kd.cell 4
    have cd5 := kd.cell 5
    simp only [List.getElem?_toArray, List.getElem?_cons_zero, List.getElem?_cons_succ] at cd0 cd1 cd2 cd3 cd4 cd5
    have cf0 := kf.cell 0
    have cf1 := kf.cell 1
    have cf2 := kf.cell 2
    have cf3 := kf.cell 3
    have cf4 := kf.cell 4
    have cf5 := kf.cell 5
    simp only [List.getElem?_toArray, List.getElem?_cons_zero, List.getElem?_cons_succ] at cf0 cf1 cf2 cf3 cf4 cf5
    have ch0 := kh.cell 0
    have ch1 := kh.cell 1
    have ch2 := kh.cell 2
    have ch3 := kh.cell 3
    have ch4 := kh.cell 4
    have ch5 := kh.cell 5
    simp only [List.getElem?_toArray, List.getElem?_cons_zero, List.getElem?_cons_succ] at ch0 ch1 ch2 ch3 ch4 ch5
    have ck0 := kk.cell 0
    have ck1 := kk.cell 1
    have ck2 := kk.cell 2
    have ck3 := kk.cell 3
    have ck4 := kk.cell 4
    have ck5 := kk.cell 5
    simp only [List.getElem?_toArray, List.getElem?_cons_zero, List.getElem?_cons_succ] at ck0 ck1 ck2 ck3 ck4 ck5
    go_wp2
    go_ret
    exact ⟨rfl, hbw⟩
  · have f1 : (E == 0) = false := by simpa using e0
    have f2 : (E != 0) = true := by simpa using e0
    obtain rfl : R = false := by simpa [f1] using q1
    clear q1 q2 q3 e0
    simp only [cv] at *
    go_enter Tryd.func10, Tryd.ntmps10
    have hbw := Below.refl w.heap.size w
    have kb := Blk.new w 26 #[.int .i64 l, .int .i64 s0, .bool w0, .int .i64 s1, .bool w1, .int .i64 t]
    have hbw := bt hbw (ba w (.cells #[.int .i64 l, .int .i64 s0, .bool w0, .int .i64 s1, .bool w1, .int .i64 t] 26))
    have hM := hM.bt (ba w (.cells #[.int .i64 l, .int .i64 s0, .bool w0, .int .i64 s1, .bool w1, .int .i64 t] 26))
    have cb0 := kb.cell 0
    have cb1 := kb.cell 1
    have cb2 := kb.cell 2
    have cb3 := kb.cell 3
    have cb4 := kb.cell 4
    have cb5 := kb.cell 5
    simp only [List.getElem?_toArray, List.getElem?_cons_zero, List.getElem?_cons_succ] at cb0 cb1 cb2 cb3 cb4 cb5
    go_wp2_with fail
    refine (hr _ hM).mono ?_
    rintro e v1 ⟨rfl, hb⟩
    have kb := kb.below hb kb.lt
    have hbw := bt hbw hb
    have hM := hM.bt hb
    clear hb
    clear cb0 cb1 cb2 cb3 cb4 cb5
    have cb0 := kb.cell 0
    have cb1 := kb.cell 1
    have cb2 := kb.cell 2
    have cb3 := kb.cell 3
    have cb4 := kb.cell 4
    have cb5 := kb.cell 5
    simp only [List.getElem?_toArray, List.getElem?_cons_zero, List.getElem?_cons_succ] at cb0 cb1 cb2 cb3 cb4 cb5
    go_wp2_with fail
    refine (hd1 _ hM).mono ?_
    rintro e v2 ⟨rfl, hb⟩
    have kb := kb.below hb kb.lt
    have hbw := bt hbw hb
    have hM := hM.bt hb
    clear hb
    clear cb0 cb1 cb2 cb3 cb4 cb5
    have kb := kb.alloc (.cells #[.int .i64 y0, .int .i64 y1, .bool y2, .int .i64 y3, .bool y4, .int .i64 y5] 26)
    have kd := Blk.new v2 26 #[.int .i64 y0, .int .i64 y1, .bool y2, .int .i64 y3, .bool y4, .int .i64 y5]
    have hbw := bt hbw (ba v2 (.cells #[.int .i64 y0, .int .i64 y1, .bool y2, .int .i64 y3, .bool y4, .int .i64 y5] 26))
    have hM := hM.bt (ba v2 (.cells #[.int .i64 y0, .int .i64 y1, .bool y2, .int .i64 y3, .bool y4, .int .i64 y5] 26))
    have cb0 := kb.cell 0
    have cb1 := kb.cell 1
    have cb2 := kb.cell 2
    have cb3 := kb.cell 3
    have cb4 := kb.cell 4
    have cb5 := kb.cell 5
    simp only [List.getElem?_toArray, List.getElem?_cons_zero, List.getElem?_cons_succ] at cb0 cb1 cb2 cb3 cb4 cb5
    have cd0 := kd.cell 0
    have cd1 := kd.cell 1
    have cd2 := kd.cell 2
    have cd3 := kd.cell 3
    have cd4 := kd.cell 4
    have cd5 := kd.cell 5
    simp only [List.getElem?_toArray, List.getElem?_cons_zero, List.getElem?_cons_succ] at cd0 cd1 cd2 cd3 cd4 cd5
    go_wp2_with fail
    refine (ha _ hM).mono ?_
    rintro e v3 ⟨rfl, hb⟩
    have kb := kb.below hb kb.lt
    have kd := kd.below hb kd.lt
    have hbw := bt hbw hb
    have hM := hM.bt hb
    clear hb
    clear cb0 cb1 cb2 cb3 cb4 cb5 cd0 cd1 cd2 cd3 cd4 cd5
    have cb0 := kb.cell 0
    have cb1 := kb.cell 1
    have cb2 := kb.cell 2
    have cb3 := kb.cell 3
    have cb4 := kb.cell 4
    have cb5 := kb.cell 5
    simp only [List.getElem?_toArray, List.getElem?_cons_zero, List.getElem?_cons_succ] at cb0 cb1 cb2 cb3 cb4 cb5
    have cd0 := kd.cell 0
    have cd1 := kd.cell 1
    have cd2 := kd.cell 2
    have cd3 := kd.cell 3
    have cd4 := kd.cell 4
    have cd5 := kd.cell 5
    simp only [List.getElem?_toArray, List.getElem?_cons_zero, List.getElem?_cons_succ] at cd0 cd1 cd2 cd3 cd4 cd5
    go_wp2
    go_ret
    exact ⟨rfl, hbw⟩

set_option maxRecDepth 100000 in
set_option maxHeartbeats 4000000 in
theorem convTalks_walk (l s0 : Int) (w0 : Bool) (s1 : Int) (w1 : Bool) (t side : Int) (w : World) (hM : Meets w) : Calls Tryd.prog 10 #[cv (l, s0, w0, s1, w1, t), .int .i64 side] w fun e w' => e = .returned (.bool true) ∧ Below w.heap.size w w' := by
  have ha := fun w h => alive_any w h
  have hr := fun w h => right_any l s0 w0 s1 w1 t w h
  rcases hR : rightM (l, s0, w0, s1, w1, t) with _ | _
  · rw [hR] at hr
    clear hR
    simp only [cv] at *
    go_enter Tryd.func10, Tryd.ntmps10
    have hbw := Below.refl w.heap.size w
    have kb := Blk.new w 26 #[.int .i64 l, .int .i64 s0, .bool w0, .int .i64 s1, .bool w1, .int .i64 t]
    have hbw := bt hbw (ba w (.cells #[.int .i64 l, .int .i64 s0, .bool w0, .int .i64 s1, .bool w1, .int .i64 t] 26))
    have hM := hM.bt (ba w (.cells #[.int .i64 l, .int .i64 s0, .bool w0, .int .i64 s1, .bool w1, .int .i64 t] 26))
    have cb0 := kb.cell 0
    have cb1 := kb.cell 1
    have cb2 := kb.cell 2
    have cb3 := kb.cell 3
    have cb4 := kb.cell 4
    have cb5 := kb.cell 5
    simp only [List.getElem?_toArray, List.getElem?_cons_zero, List.getElem?_cons_succ] at cb0 cb1 cb2 cb3 cb4 cb5
    go_wp2_with fail
    refine (hr _ hM).mono ?_
    rintro e v1 ⟨rfl, hb⟩
    have kb := kb.below hb kb.lt
    have hbw := bt hbw hb
    have hM := hM.bt hb
    clear hb
    clear cb0 cb1 cb2 cb3 cb4 cb5
    have cb0 := kb.cell 0
    have cb1 := kb.cell 1
    have cb2 := kb.cell 2
    have cb3 := kb.cell 3
    have cb4 := kb.cell 4
    have cb5 := kb.cell 5
    simp only [List.getElem?_toArray, List.getElem?_cons_zero, List.getElem?_cons_succ] at cb0 cb1 cb2 cb3 cb4 cb5
    go_wp2_with fail
    refine (ha _ hM).mono ?_
    rintro e v2 ⟨rfl, hb⟩
    have kb := kb.below hb kb.lt
    have hbw := bt hbw hb
    have hM := hM.bt hb
    clear hb
    clear cb0 cb1 cb2 cb3 cb4 cb5
    have cb0 := kb.cell 0
    have cb1 := kb.cell 1
    have cb2 := kb.cell 2
    have cb3 := kb.cell 3
    have cb4 := kb.cell 4
    have cb5 := kb.cell 5
    simp only [List.getElem?_toArray, List.getElem?_cons_zero, List.getElem?_cons_succ] at cb0 cb1 cb2 cb3 cb4 cb5
    go_wp2
    go_ret
    exact ⟨rfl, hbw⟩
  · by_cases h0 : side < 0
    · have g0 : decide (side < 0) = true := decide_eq_true h0
      rw [hR] at hr
      clear hR h0
      simp only [cv] at *
      go_enter Tryd.func10, Tryd.ntmps10
      have hbw := Below.refl w.heap.size w
      have kb := Blk.new w 26 #[.int .i64 l, .int .i64 s0, .bool w0, .int .i64 s1, .bool w1, .int .i64 t]
      have hbw := bt hbw (ba w (.cells #[.int .i64 l, .int .i64 s0, .bool w0, .int .i64 s1, .bool w1, .int .i64 t] 26))
      have hM := hM.bt (ba w (.cells #[.int .i64 l, .int .i64 s0, .bool w0, .int .i64 s1, .bool w1, .int .i64 t] 26))
      have cb0 := kb.cell 0
      have cb1 := kb.cell 1
      have cb2 := kb.cell 2
      have cb3 := kb.cell 3
      have cb4 := kb.cell 4
      have cb5 := kb.cell 5
      simp only [List.getElem?_toArray, List.getElem?_cons_zero, List.getElem?_cons_succ] at cb0 cb1 cb2 cb3 cb4 cb5
      go_wp2_with fail
      refine (hr _ hM).mono ?_
      rintro e v1 ⟨rfl, hb⟩
      have kb := kb.below hb kb.lt
      have hbw := bt hbw hb
      have hM := hM.bt hb
      clear hb
      clear cb0 cb1 cb2 cb3 cb4 cb5
      have cb0 := kb.cell 0
      have cb1 := kb.cell 1
      have cb2 := kb.cell 2
      have cb3 := kb.cell 3
      have cb4 := kb.cell 4
      have cb5 := kb.cell 5
      simp only [List.getElem?_toArray, List.getElem?_cons_zero, List.getElem?_cons_succ] at cb0 cb1 cb2 cb3 cb4 cb5
      go_wp2_with fail
      refine (ha _ hM).mono ?_
      rintro e v2 ⟨rfl, hb⟩
      have kb := kb.below hb kb.lt
      have hbw := bt hbw hb
      have hM := hM.bt hb
      clear hb
      clear cb0 cb1 cb2 cb3 cb4 cb5
      have cb0 := kb.cell 0
      have cb1 := kb.cell 1
      have cb2 := kb.cell 2
      have cb3 := kb.cell 3
      have cb4 := kb.cell 4
      have cb5 := kb.cell 5
      simp only [List.getElem?_toArray, List.getElem?_cons_zero, List.getElem?_cons_succ] at cb0 cb1 cb2 cb3 cb4 cb5
      go_wp2
      go_ret
      exact ⟨rfl, hbw⟩
    · by_cases h1 : side > 1
      · have g0 : decide (side < 0) = false := decide_eq_false h0
        have g1 : decide (side > 1) = true := decide_eq_true h1
        have g2 : decide (1 < side) = true := g1
        rw [hR] at hr
        clear hR h0 h1
        simp only [cv] at *
        go_enter Tryd.func10, Tryd.ntmps10
        have hbw := Below.refl w.heap.size w
        have kb := Blk.new w 26 #[.int .i64 l, .int .i64 s0, .bool w0, .int .i64 s1, .bool w1, .int .i64 t]
        have hbw := bt hbw (ba w (.cells #[.int .i64 l, .int .i64 s0, .bool w0, .int .i64 s1, .bool w1, .int .i64 t] 26))
        have hM := hM.bt (ba w (.cells #[.int .i64 l, .int .i64 s0, .bool w0, .int .i64 s1, .bool w1, .int .i64 t] 26))
        have cb0 := kb.cell 0
        have cb1 := kb.cell 1
        have cb2 := kb.cell 2
        have cb3 := kb.cell 3
        have cb4 := kb.cell 4
        have cb5 := kb.cell 5
        simp only [List.getElem?_toArray, List.getElem?_cons_zero, List.getElem?_cons_succ] at cb0 cb1 cb2 cb3 cb4 cb5
        go_wp2_with fail
        refine (hr _ hM).mono ?_
        rintro e v1 ⟨rfl, hb⟩
        have kb := kb.below hb kb.lt
        have hbw := bt hbw hb
        have hM := hM.bt hb
        clear hb
        clear cb0 cb1 cb2 cb3 cb4 cb5
        have cb0 := kb.cell 0
        have cb1 := kb.cell 1
        have cb2 := kb.cell 2
        have cb3 := kb.cell 3
        have cb4 := kb.cell 4
        have cb5 := kb.cell 5
        simp only [List.getElem?_toArray, List.getElem?_cons_zero, List.getElem?_cons_succ] at cb0 cb1 cb2 cb3 cb4 cb5
        go_wp2_with fail
        refine (ha _ hM).mono ?_
        rintro e v2 ⟨rfl, hb⟩
        have kb := kb.below hb kb.lt
        have hbw := bt hbw hb
        have hM := hM.bt hb
        clear hb
        clear cb0 cb1 cb2 cb3 cb4 cb5
        have cb0 := kb.cell 0
        have cb1 := kb.cell 1
        have cb2 := kb.cell 2
        have cb3 := kb.cell 3
        have cb4 := kb.cell 4
        have cb5 := kb.cell 5
        simp only [List.getElem?_toArray, List.getElem?_cons_zero, List.getElem?_cons_succ] at cb0 cb1 cb2 cb3 cb4 cb5
        go_wp2
        go_ret
        exact ⟨rfl, hbw⟩
      · have hs : side = 0 ∨ side = 1 := by omega
        rcases hs with rfl | rfl
        · exact convTalks_0 l s0 w0 s1 w1 t w hM hR
        · exact convTalks_1 l s0 w0 s1 w1 t w hM hR
end Go.Proofs.YtflaliadiihhbaaDoor
