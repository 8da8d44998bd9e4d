/- Layer 10: a side that does not wait can end (P10.4). -/
import Derived.Test.YtflaliadiihhbaaDoorVm
namespace Go.Proofs.YtflaliadiihhbaaDoor
open Go.RowKit
set_option linter.unusedVariables false
set_option linter.unusedSimpArgs false

def QE1 (c : Int × Int × Bool × Int × Bool × Int) (s v : Int) : Bool := (doM c s v).2 != 0 || stM c false != 12
theorem QE1_all : (allC.all fun c => [0, 1].all fun s => [1, 2, 3, 4, 5, 6, 7, 8, 9, 10, 11, 12, 13].all fun v => QE1 c s v) = true := by decide +kernel
def QE2 (c : Int × Int × Bool × Int × Bool × Int) (s : Int) : Bool := stM c false == 12 || (!rightM c || (((doM c 0 9).2 == 0 || (doM c 1 9).2 == 0) && (((doM c 0 9).2 != 0 || (stM (doM c 0 9).1 false == 12 && stM (doM c 0 9).1 true == 12)) && ((doM c 1 9).2 != 0 || stM (doM c 1 9).1 true == 12))))
theorem QE2_all : (allC.all fun c => [0, 1].all fun s => QE2 c s) = true := by decide +kernel

set_option maxRecDepth 100000 in
set_option maxHeartbeats 4000000 in
theorem convCanEnd_walk (l s0 : Int) (w0 : Bool) (s1 : Int) (w1 : Bool) (t side verb : Int) (w : World) (hM : Meets w) : Calls Tryd.prog 7 #[cv (l, s0, w0, s1, w1, t), .int .i64 side, .int .i64 verb] w fun e w' => e = .returned (.bool true) ∧ Below w.heap.size w w' := by
  have ha := fun w h => alive_any w h
  have hr := fun w h => right_any l s0 w0 s1 w1 t w h
  rcases hR : rightM (l, s0, w0, s1, w1, t) with _ | _
  · rw [hR] at hr
    clear hR
    simp only [cv] at *
    go_enter Tryd.func7, Tryd.ntmps7
    have hbw := Below.refl w.heap.size w
    have kb := Blk.new w 26 #[.int .i64 l, .int .i64 s0, .bool w0, .int .i64 s1, .bool w1, .int .i64 t]
    have hbw := bt hbw (ba w (.cells #[.int .i64 l, .int .i64 s0, .bool w0, .int .i64 s1, .bool w1, .int .i64 t] 26))
    have hM := hM.bt (ba w (.cells #[.int .i64 l, .int .i64 s0, .bool w0, .int .i64 s1, .bool w1, .int .i64 t] 26))
    have cb0 := kb.cell 0
    have cb1 := kb.cell 1
    have cb2 := kb.cell 2
    have cb3 := kb.cell 3
    have cb4 := kb.cell 4
    have cb5 := kb.cell 5
    simp only [List.getElem?_toArray, List.getElem?_cons_zero, List.getElem?_cons_succ] at cb0 cb1 cb2 cb3 cb4 cb5
    go_wp2_with fail
    refine (hr _ hM).mono ?_
    rintro e v1 ⟨rfl, hb⟩
    have kb := kb.below hb kb.lt
    have hbw := bt hbw hb
    have hM := hM.bt hb
    clear hb
    clear cb0 cb1 cb2 cb3 cb4 cb5
    have cb0 := kb.cell 0
    have cb1 := kb.cell 1
    have cb2 := kb.cell 2
    have cb3 := kb.cell 3
    have cb4 := kb.cell 4
    have cb5 := kb.cell 5
    simp only [List.getElem?_toArray, List.getElem?_cons_zero, List.getElem?_cons_succ] at cb0 cb1 cb2 cb3 cb4 cb5
    go_wp2_with fail
    refine (ha _ hM).mono ?_
    rintro e v2 ⟨rfl, hb⟩
    have kb := kb.below hb kb.lt
    have hbw := bt hbw hb
    have hM := hM.bt hb
    clear hb
    clear cb0 cb1 cb2 cb3 cb4 cb5
    have cb0 := kb.cell 0
    have cb1 := kb.cell 1
    have cb2 := kb.cell 2
    have cb3 := kb.cell 3
    have cb4 := kb.cell 4
    have cb5 := kb.cell 5
    simp only [List.getElem?_toArray, List.getElem?_cons_zero, List.getElem?_cons_succ] at cb0 cb1 cb2 cb3 cb4 cb5
    go_wp2
    go_ret
    exact ⟨rfl, hbw⟩
  · rw [hR] at hr
    by_cases h12 : s0 = 12
    · subst h12
      have hd := fun w h => do_any l 12 w0 s1 w1 t side verb w h
      have hE : (doM (l, 12, w0, s1, w1, t) side verb).2 ≠ 0 := fun h0 => by
        obtain ⟨hrt, hsd, hv⟩ := doM_ok h0
        have hQ := all_cases QE1 QE1_all hrt hsd hv
        unfold QE1 at hQ
        rw [h0] at hQ
        cases hQ
      obtain ⟨⟨y0, y1, y2, y3, y4, y5⟩, E, hy⟩ : ∃ d E, doM (l, 12, w0, s1, w1, t) side verb = (d, E) := ⟨_, _, rfl⟩
      rw [hy] at hE hd
      simp only [] at hE
      have hE1 : (E != 0) = true := by simpa using hE
      have hE2 : (E == 0) = false := by simpa using hE
      clear hy hE hR
      simp only [cv] at *
      go_enter Tryd.func7, Tryd.ntmps7
      have hbw := Below.refl w.heap.size w
      have kb := Blk.new w 26 #[.int .i64 l, .int .i64 12, .bool w0, .int .i64 s1, .bool w1, .int .i64 t]
      have hbw := bt hbw (ba w (.cells #[.int .i64 l, .int .i64 12, .bool w0, .int .i64 s1, .bool w1, .int .i64 t] 26))
      have hM := hM.bt (ba w (.cells #[.int .i64 l, .int .i64 12, .bool w0, .int .i64 s1, .bool w1, .int .i64 t] 26))
      have cb0 := kb.cell 0
      have cb1 := kb.cell 1
      have cb2 := kb.cell 2
      have cb3 := kb.cell 3
      have cb4 := kb.cell 4
      have cb5 := kb.cell 5
      simp only [List.getElem?_toArray, List.getElem?_cons_zero, List.getElem?_cons_succ] at cb0 cb1 cb2 cb3 cb4 cb5
      go_wp2_with fail
      refine (hr _ hM).mono ?_
      rintro e v1 ⟨rfl, hb⟩
      have kb := kb.below hb kb.lt
      have hbw := bt hbw hb
      have hM := hM.bt hb
      clear hb
      clear cb0 cb1 cb2 cb3 cb4 cb5
      have cb0 := kb.cell 0
      have cb1 := kb.cell 1
      have cb2 := kb.cell 2
      have cb3 := kb.cell 3
      have cb4 := kb.cell 4
      have cb5 := kb.cell 5
      simp only [List.getElem?_toArray, List.getElem?_cons_zero, List.getElem?_cons_succ] at cb0 cb1 cb2 cb3 cb4 cb5
      go_wp2_with fail
      refine (hd _ hM).mono ?_
      rintro e v2 ⟨rfl, hb⟩
      have kb := kb.below hb kb.lt
      have hbw := bt hbw hb
      have hM := hM.bt hb
      clear hb
      clear cb0 cb1 cb2 cb3 cb4 cb5
      have kb := kb.alloc (.cells #[.int .i64 y0, .int .i64 y1, .bool y2, .int .i64 y3, .bool y4, .int .i64 y5] 26)
      have kd := Blk.new v2 26 #[.int .i64 y0, .int .i64 y1, .bool y2, .int .i64 y3, .bool y4, .int .i64 y5]
      have hbw := bt hbw (ba v2 (.cells #[.int .i64 y0, .int .i64 y1, .bool y2, .int .i64 y3, .bool y4, .int .i64 y5] 26))
      have hM := hM.bt (ba v2 (.cells #[.int .i64 y0, .int .i64 y1, .bool y2, .int .i64 y3, .bool y4, .int .i64 y5] 26))
      have cb0 := kb.cell 0
      have cb1 := kb.cell 1
      have cb2 := kb.cell 2
      have cb3 := kb.cell 3
      have cb4 := kb.cell 4
      have cb5 := kb.cell 5
      simp only [List.getElem?_toArray, List.getElem?_cons_zero, List.getElem?_cons_succ] at cb0 cb1 cb2 cb3 cb4 cb5
      have cd0 := kd.cell 0
      have cd1 := kd.cell 1
      have cd2 := kd.cell 2
      have cd3 := kd.cell 3
      have cd4 := kd.cell 4
      have cd5 := kd.cell 5
      simp only [List.getElem?_toArray, List.getElem?_cons_zero, List.getElem?_cons_succ] at cd0 cd1 cd2 cd3 cd4 cd5
      go_wp2_with fail
      refine (ha _ hM).mono ?_
      rintro e v3 ⟨rfl, hb⟩
      have kb := kb.below hb kb.lt
      have kd := kd.below hb kd.lt
      have hbw := bt hbw hb
      have hM := hM.bt hb
      clear hb
      clear cb0 cb1 cb2 cb3 cb4 cb5 cd0 cd1 cd2 cd3 cd4 cd5
      have cb0 := kb.cell 0
      have cb1 := kb.cell 1
      have cb2 := kb.cell 2
      have cb3 := kb.cell 3
      have cb4 := kb.cell 4
      have cb5 := kb.cell 5
      simp only [List.getElem?_toArray, List.getElem?_cons_zero, List.getElem?_cons_succ] at cb0 cb1 cb2 cb3 cb4 cb5
      have cd0 := kd.cell 0
      have cd1 := kd.cell 1
      have cd2 := kd.cell 2
      have cd3 := kd.cell 3
      have cd4 := kd.cell 4
      have cd5 := kd.cell 5
      simp only [List.getElem?_toArray, List.getElem?_cons_zero, List.getElem?_cons_succ] at cd0 cd1 cd2 cd3 cd4 cd5
      go_wp2
      go_ret
      exact ⟨rfl, hbw⟩
    · have hd1 := fun w h => do_any l s0 w0 s1 w1 t 0 9 w h
      have hd2 := fun w h => do_any l s0 w0 s1 w1 t 1 9 w h
      have hQ := all_convs QE2 QE2_all hR (s := 0) rfl
      unfold QE2 at hQ
      rw [hR] at hQ
      have hst : (stM (l, s0, w0, s1, w1, t) false == 12) = false := by simpa [stM] using h12
      rw [hst] at hQ
      obtain ⟨⟨y0, y1, y2, y3, y4, y5⟩, E, hy⟩ : ∃ d E, doM (l, s0, w0, s1, w1, t) 0 9 = (d, E) := ⟨_, _, rfl⟩
      obtain ⟨⟨z0, z1, z2, z3, z4, z5⟩, G, hz⟩ : ∃ d E, doM (l, s0, w0, s1, w1, t) 1 9 = (d, E) := ⟨_, _, rfl⟩
      rw [hy] at hQ hd1
      rw [hz] at hQ hd2
      have g12 : (s0 == 12) = false := by simpa using h12
      simp only [stM, Bool.not_true, Bool.false_or, if_true, if_false, Bool.false_eq_true] at hQ
      simp only [Bool.and_eq_true, Bool.or_eq_true] at hQ
      obtain ⟨q1, q2, q3⟩ := hQ
      simp only [cv] at *
      clear hy hz hR hst h12
      rcases e1 : (E == 0) with _ | _
      · have f1 : (E != 0) = true := by simpa using e1
        have e2 : (G == 0) = true := by simpa [e1] using q1
        have f2 : (G != 0) = false := by simpa using e2
        have p3 : (z3 == 12) = true := by simpa [f2] using q3
        clear q1 q2 q3
        go_enter Tryd.func7, Tryd.ntmps7
        have hbw := Below.refl w.heap.size w
        have kb := Blk.new w 26 #[.int .i64 l, .int .i64 s0, .bool w0, .int .i64 s1, .bool w1, .int .i64 t]
        have hbw := bt hbw (ba w (.cells #[.int .i64 l, .int .i64 s0, .bool w0, .int .i64 s1, .bool w1, .int .i64 t] 26))
        have hM := hM.bt (ba w (.cells #[.int .i64 l, .int .i64 s0, .bool w0, .int .i64 s1, .bool w1, .int .i64 t] 26))
        have cb0 := kb.cell 0
        have cb1 := kb.cell 1
        have cb2 := kb.cell 2
        have cb3 := kb.cell 3
        have cb4 := kb.cell 4
        have cb5 := kb.cell 5
        simp only [List.getElem?_toArray, List.getElem?_cons_zero, List.getElem?_cons_succ] at cb0 cb1 cb2 cb3 cb4 cb5
        go_wp2_with fail
        refine (hr _ hM).mono ?_
        rintro e v1 ⟨rfl, hb⟩
        have kb := kb.below hb kb.lt
        have hbw := bt hbw hb
        have hM := hM.bt hb
        clear hb
        clear cb0 cb1 cb2 cb3 cb4 cb5
        have cb0 := kb.cell 0
        have cb1 := kb.cell 1
        have cb2 := kb.cell 2
        have cb3 := kb.cell 3
        have cb4 := kb.cell 4
        have cb5 := kb.cell 5
        simp only [List.getElem?_toArray, List.getElem?_cons_zero, List.getElem?_cons_succ] at cb0 cb1 cb2 cb3 cb4 cb5
        go_wp2_with fail
        refine (hd1 _ hM).mono ?_
        rintro e v2 ⟨rfl, hb⟩
        have kb := kb.below hb kb.lt
        have hbw := bt hbw hb
        have hM := hM.bt hb
        clear hb
        clear cb0 cb1 cb2 cb3 cb4 cb5
        have kb := kb.alloc (.cells #[.int .i64 y0, .int .i64 y1, .bool y2, .int .i64 y3, .bool y4, .int .i64 y5] 26)
        have kd := Blk.new v2 26 #[.int .i64 y0, .int .i64 y1, .bool y2, .int .i64 y3, .bool y4, .int .i64 y5]
        have hbw := bt hbw (ba v2 (.cells #[.int .i64 y0, .int .i64 y1, .bool y2, .int .i64 y3, .bool y4, .int .i64 y5] 26))
        have hM := hM.bt (ba v2 (.cells #[.int .i64 y0, .int .i64 y1, .bool y2, .int .i64 y3, .bool y4, .int .i64 y5] 26))
        have cb0 := kb.cell 0
        have cb1 := kb.cell 1
        have cb2 := kb.cell 2
        have cb3 := kb.cell 3
        have cb4 := kb.cell 4
        have cb5 := kb.cell 5
        simp only [List.getElem?_toArray, List.getElem?_cons_zero, List.getElem?_cons_succ] at cb0 cb1 cb2 cb3 cb4 cb5
        have cd0 := kd.cell 0
        have cd1 := kd.cell 1
        have cd2 := kd.cell 2
        have cd3 := kd.cell 3
        have cd4 := kd.cell 4
        have cd5 := kd.cell 5
        simp only [List.getElem?_toArray, List.getElem?_cons_zero, List.getElem?_cons_succ] at cd0 cd1 cd2 cd3 cd4 cd5
        go_wp2_with fail
        refine (hd2 _ hM).mono ?_
        rintro e v3 ⟨rfl, hb⟩
        have kb := kb.below hb kb.lt
        have kd := kd.below hb kd.lt
        have hbw := bt hbw hb
        have hM := hM.bt hb
        clear hb
        clear cb0 cb1 cb2 cb3 cb4 cb5 cd0 cd1 cd2 cd3 cd4 cd5
        have kb := kb.alloc (.cells #[.int .i64 z0, .int .i64 z1, .bool z2, .int .i64 z3, .bool z4, .int .i64 z5] 26)
        have kd := kd.alloc (.cells #[.int .i64 z0, .int .i64 z1, .bool z2, .int .i64 z3, .bool z4, .int .i64 z5] 26)
        have kg := Blk.new v3 26 #[.int .i64 z0, .int .i64 z1, .bool z2, .int .i64 z3, .bool z4, .int .i64 z5]
        have hbw := bt hbw (ba v3 (.cells #[.int .i64 z0, .int .i64 z1, .bool z2, .int .i64 z3, .bool z4, .int .i64 z5] 26))
        have hM := hM.bt (ba v3 (.cells #[.int .i64 z0, .int .i64 z1, .bool z2, .int .i64 z3, .bool z4, .int .i64 z5] 26))
        have cb0 := kb.cell 0
        have cb1 := kb.cell 1
        have cb2 := kb.cell 2
        have cb3 := kb.cell 3
        have cb4 := kb.cell 4
        have cb5 := kb.cell 5
        simp only [List.getElem?_toArray, List.getElem?_cons_zero, List.getElem?_cons_succ] at cb0 cb1 cb2 cb3 cb4 cb5
        have cd0 := kd.cell 0
        have cd1 := kd.cell 1
        have cd2 := kd.cell 2
        have cd3 := kd.cell 3
        have cd4 := kd.cell 4
        have cd5 := kd.cell 5
        simp only [List.getElem?_toArray, List.getElem?_cons_zero, List.getElem?_cons_succ] at cd0 cd1 cd2 cd3 cd4 cd5
        have cg0 := kg.cell 0
        have cg1 := kg.cell 1
        have cg2 := kg.cell 2
        have cg3 := kg.cell 3
        have cg4 := kg.cell 4
        have cg5 := kg.cell 5
        simp only [List.getElem?_toArray, List.getElem?_cons_zero, List.getElem?_cons_succ] at cg0 cg1 cg2 cg3 cg4 cg5
        go_wp2_with fail
        refine (ha _ hM).mono ?_
        rintro e v4 ⟨rfl, hb⟩
        have kb := kb.below hb kb.lt
        have kd := kd.below hb kd.lt
        have kg := kg.below hb kg.lt
        have hbw := bt hbw hb
        have hM := hM.bt hb
        clear hb
        clear cb0 cb1 cb2 cb3 cb4 cb5 cd0 cd1 cd2 cd3 cd4 cd5 cg0 cg1 cg2 cg3 cg4 cg5
        have cb0 := kb.cell 0
        have cb1 := kb.cell 1
        have cb2 := kb.cell 2
        have cb3 := kb.cell 3
        have cb4 := kb.cell 4
        have cb5 := kb.cell 5
        simp only [List.getElem?_toArray, List.getElem?_cons_zero, List.getElem?_cons_succ] at cb0 cb1 cb2 cb3 cb4 cb5
        have cd0 := kd.cell 0
        have cd1 := kd.cell 1
        have cd2 := kd.cell 2
        have cd3 := kd.cell 3
        have cd4 := kd.cell 4
        have cd5 := kd.cell 5
        simp only [List.getElem?_toArray, List.getElem?_cons_zero, List.getElem?_cons_succ] at cd0 cd1 cd2 cd3 cd4 cd5
        have cg0 := kg.cell 0
        have cg1 := kg.cell 1
        have cg2 := kg.cell 2
        have cg3 := kg.cell 3
        have cg4 := kg.cell 4
        have cg5 := kg.cell 5
        simp only [List.getElem?_toArray, List.getElem?_cons_zero, List.getElem?_cons_succ] at cg0 cg1 cg2 cg3 cg4 cg5
        go_wp2
        go_ret
        exact ⟨rfl, hbw⟩
      · have f1 : (E != 0) = false := by simpa using e1
        have p1 : (y1 == 12) = true ∧ (y3 == 12) = true := by simpa [f1] using q2
        obtain ⟨p1, p2⟩ := p1
        rcases e2 : (G == 0) with _ | _
        · have f2 : (G != 0) = true := by simpa using e2
          clear q1 q2 q3
          go_enter Tryd.func7, Tryd.ntmps7
          have hbw := Below.refl w.heap.size w
          have kb := Blk.new w 26 #[.int .i64 l, .int .i64 s0, .bool w0, .int .i64 s1, .bool w1, .int .i64 t]
          have hbw := bt hbw (ba w (.cells #[.int .i64 l, .int .i64 s0, .bool w0, .int .i64 s1, .bool w1, .int .i64 t] 26))
          have hM := hM.bt (ba w (.cells #[.int .i64 l, .int .i64 s0, .bool w0, .int .i64 s1, .bool w1, .int .i64 t] 26))
          have cb0 := kb.cell 0
          have cb1 := kb.cell 1
          have cb2 := kb.cell 2
          have cb3 := kb.cell 3
          have cb4 := kb.cell 4
          have cb5 := kb.cell 5
          simp only [List.getElem?_toArray, List.getElem?_cons_zero, List.getElem?_cons_succ] at cb0 cb1 cb2 cb3 cb4 cb5
          go_wp2_with fail
          refine (hr _ hM).mono ?_
          rintro e v1 ⟨rfl, hb⟩
          have kb := kb.below hb kb.lt
          have hbw := bt hbw hb
          have hM := hM.bt hb
          clear hb
          clear cb0 cb1 cb2 cb3 cb4 cb5
          have cb0 := kb.cell 0
          have cb1 := kb.cell 1
          have cb2 := kb.cell 2
          have cb3 := kb.cell 3
          have cb4 := kb.cell 4
          have cb5 := kb.cell 5
          simp only [List.getElem?_toArray, List.getElem?_cons_zero, List.getElem?_cons_succ] at cb0 cb1 cb2 cb3 cb4 cb5
          go_wp2_with fail
          refine (hd1 _ hM).mono ?_
          rintro e v2 ⟨rfl, hb⟩
          have kb := kb.below hb kb.lt
          have hbw := bt hbw hb
          have hM := hM.bt hb
          clear hb
          clear cb0 cb1 cb2 cb3 cb4 cb5
          have kb := kb.alloc (.cells #[.int .i64 y0, .int .i64 y1, .bool y2, .int .i64 y3, .bool y4, .int .i64 y5] 26)
          have kd := Blk.new v2 26 #[.int .i64 y0, .int .i64 y1, .bool y2, .int .i64 y3, .bool y4, .int .i64 y5]
          have hbw := bt hbw (ba v2 (.cells #[.int .i64 y0, .int .i64 y1, .bool y2, .int .i64 y3, .bool y4, .int .i64 y5] 26))
          have hM := hM.bt (ba v2 (.cells #[.int .i64 y0, .int .i64 y1, .bool y2, .int .i64 y3, .bool y4, .int .i64 y5] 26))
          have cb0 := kb.cell 0
          have cb1 := kb.cell 1
          have cb2 := kb.cell 2
          have cb3 := kb.cell 3
          have cb4 := kb.cell 4
          have cb5 := kb.cell 5
          simp only [List.getElem?_toArray, List.getElem?_cons_zero, List.getElem?_cons_succ] at cb0 cb1 cb2 cb3 cb4 cb5
          have cd0 := kd.cell 0
          have cd1 := kd.cell 1
          have cd2 := kd.cell 2
          have cd3 := kd.cell 3
          have cd4 := kd.cell 4
          have cd5 := kd.cell 5
          simp only [List.getElem?_toArray, List.getElem?_cons_zero, List.getElem?_cons_succ] at cd0 cd1 cd2 cd3 cd4 cd5
          go_wp2_with fail
          refine (hd2 _ hM).mono ?_
          rintro e v3 ⟨rfl, hb⟩
          have kb := kb.below hb kb.lt
          have kd := kd.below hb kd.lt
          have hbw := bt hbw hb
          have hM := hM.bt hb
          clear hb
          clear cb0 cb1 cb2 cb3 cb4 cb5 cd0 cd1 cd2 cd3 cd4 cd5
          have kb := kb.alloc (.cells #[.int .i64 z0, .int .i64 z1, .bool z2, .int .i64 z3, .bool z4, .int .i64 z5] 26)
          have kd := kd.alloc (.cells #[.int .i64 z0, .int .i64 z1, .bool z2, .int .i64 z3, .bool z4, .int .i64 z5] 26)
          have kg := Blk.new v3 26 #[.int .i64 z0, .int .i64 z1, .bool z2, .int .i64 z3, .bool z4, .int .i64 z5]
          have hbw := bt hbw (ba v3 (.cells #[.int .i64 z0, .int .i64 z1, .bool z2, .int .i64 z3, .bool z4, .int .i64 z5] 26))
          have hM := hM.bt (ba v3 (.cells #[.int .i64 z0, .int .i64 z1, .bool z2, .int .i64 z3, .bool z4, .int .i64 z5] 26))
          have cb0 := kb.cell 0
          have cb1 := kb.cell 1
          have cb2 := kb.cell 2
          have cb3 := kb.cell 3
          have cb4 := kb.cell 4
          have cb5 := kb.cell 5
          simp only [List.getElem?_toArray, List.getElem?_cons_zero, List.getElem?_cons_succ] at cb0 cb1 cb2 cb3 cb4 cb5
          have cd0 := kd.cell 0
          have cd1 := kd.cell 1
          have cd2 := kd.cell 2
          have cd3 := kd.cell 3
          have cd4 := kd.cell 4
          have cd5 := kd.cell 5
          simp only [List.getElem?_toArray, List.getElem?_cons_zero, List.getElem?_cons_succ] at cd0 cd1 cd2 cd3 cd4 cd5
          have cg0 := kg.cell 0
          have cg1 := kg.cell 1
          have cg2 := kg.cell 2
          have cg3 := kg.cell 3
          have cg4 := kg.cell 4
          have cg5 := kg.cell 5
          simp only [List.getElem?_toArray, List.getElem?_cons_zero, List.getElem?_cons_succ] at cg0 cg1 cg2 cg3 cg4 cg5
          go_wp2_with fail
          refine (ha _ hM).mono ?_
          rintro e v4 ⟨rfl, hb⟩
          have kb := kb.below hb kb.lt
          have kd := kd.below hb kd.lt
          have kg := kg.below hb kg.lt
          have hbw := bt hbw hb
          have hM := hM.bt hb
          clear hb
          clear cb0 cb1 cb2 cb3 cb4 cb5 cd0 cd1 cd2 cd3 cd4 cd5 cg0 cg1 cg2 cg3 cg4 cg5
          have cb0 := kb.cell 0
          have cb1 := kb.cell 1
          have cb2 := kb.cell 2
          have cb3 := kb.cell 3
          have cb4 := kb.cell 4
          have cb5 := kb.cell 5
          simp only [List.getElem?_toArray, List.getElem?_cons_zero, List.getElem?_cons_succ] at cb0 cb1 cb2 cb3 cb4 cb5
          have cd0 := kd.cell 0
          have cd1 := kd.cell 1
          have cd2 := kd.cell 2
          have cd3 := kd.cell 3
          have cd4 := kd.cell 4
          have cd5 := kd.cell 5
          simp only [List.getElem?_toArray, List.getElem?_cons_zero, List.getElem?_cons_succ] at cd0 cd1 cd2 cd3 cd4 cd5
          have cg0 := kg.cell 0
          have cg1 := kg.cell 1
          have cg2 := kg.cell 2
          have cg3 := kg.cell 3
          have cg4 := kg.cell 4
          have cg5 := kg.cell 5
          simp only [List.getElem?_toArray, List.getElem?_cons_zero, List.getElem?_cons_succ] at cg0 cg1 cg2 cg3 cg4 cg5
          go_wp2
          go_ret
          exact ⟨rfl, hbw⟩
        · have f2 : (G != 0) = false := by simpa using e2
          have p3 : (z3 == 12) = true := by simpa [f2] using q3
          clear q1 q2 q3
          go_enter Tryd.func7, Tryd.ntmps7
          have hbw := Below.refl w.heap.size w
          have kb := Blk.new w 26 #[.int .i64 l, .int .i64 s0, .bool w0, .int .i64 s1, .bool w1, .int .i64 t]
          have hbw := bt hbw (ba w (.cells #[.int .i64 l, .int .i64 s0, .bool w0, .int .i64 s1, .bool w1, .int .i64 t] 26))
          have hM := hM.bt (ba w (.cells #[.int .i64 l, .int .i64 s0, .bool w0, .int .i64 s1, .bool w1, .int .i64 t] 26))
          have cb0 := kb.cell 0
          have cb1 := kb.cell 1
          have cb2 := kb.cell 2
          have cb3 := kb.cell 3
          have cb4 := kb.cell 4
          have cb5 := kb.cell 5
          simp only [List.getElem?_toArray, List.getElem?_cons_zero, List.getElem?_cons_succ] at cb0 cb1 cb2 cb3 cb4 cb5
          go_wp2_with fail
          refine (hr _ hM).mono ?_
          rintro e v1 ⟨rfl, hb⟩
          have kb := kb.below hb kb.lt
          have hbw := bt hbw hb
          have hM := hM.bt hb
          clear hb
          clear cb0 cb1 cb2 cb3 cb4 cb5
          have cb0 := kb.cell 0
          have cb1 := kb.cell 1
          have cb2 := kb.cell 2
          have cb3 := kb.cell 3
          have cb4 := kb.cell 4
          have cb5 := kb.cell 5
          simp only [List.getElem?_toArray, List.getElem?_cons_zero, List.getElem?_cons_succ] at cb0 cb1 cb2 cb3 cb4 cb5
          go_wp2_with fail
          refine (hd1 _ hM).mono ?_
          rintro e v2 ⟨rfl, hb⟩
          have kb := kb.below hb kb.lt
          have hbw := bt hbw hb
          have hM := hM.bt hb
          clear hb
          clear cb0 cb1 cb2 cb3 cb4 cb5
          have kb := kb.alloc (.cells #[.int .i64 y0, .int .i64 y1, .bool y2, .int .i64 y3, .bool y4, .int .i64 y5] 26)
          have kd := Blk.new v2 26 #[.int .i64 y0, .int .i64 y1, .bool y2, .int .i64 y3, .bool y4, .int .i64 y5]
          have hbw := bt hbw (ba v2 (.cells #[.int .i64 y0, .int .i64 y1, .bool y2, .int .i64 y3, .bool y4, .int .i64 y5] 26))
          have hM := hM.bt (ba v2 (.cells #[.int .i64 y0, .int .i64 y1, .bool y2, .int .i64 y3, .bool y4, .int .i64 y5] 26))
          have cb0 := kb.cell 0
          have cb1 := kb.cell 1
          have cb2 := kb.cell 2
          have cb3 := kb.cell 3
          have cb4 := kb.cell 4
          have cb5 := kb.cell 5
          simp only [List.getElem?_toArray, List.getElem?_cons_zero, List.getElem?_cons_succ] at cb0 cb1 cb2 cb3 cb4 cb5
          have cd0 := kd.cell 0
          have cd1 := kd.cell 1
          have cd2 := kd.cell 2
          have cd3 := kd.cell 3
          have cd4 := kd.cell 4
          have cd5 := kd.cell 5
          simp only [List.getElem?_toArray, List.getElem?_cons_zero, List.getElem?_cons_succ] at cd0 cd1 cd2 cd3 cd4 cd5
          go_wp2_with fail
          refine (hd2 _ hM).mono ?_
          rintro e v3 ⟨rfl, hb⟩
          have kb := kb.below hb kb.lt
          have kd := kd.below hb kd.lt
          have hbw := bt hbw hb
          have hM := hM.bt hb
          clear hb
          clear cb0 cb1 cb2 cb3 cb4 cb5 cd0 cd1 cd2 cd3 cd4 cd5
          have kb := kb.alloc (.cells #[.int .i64 z0, .int .i64 z1, .bool z2, .int .i64 z3, .bool z4, .int .i64 z5] 26)
          have kd := kd.alloc (.cells #[.int .i64 z0, .int .i64 z1, .bool z2, .int .i64 z3, .bool z4, .int .i64 z5] 26)
          have kg := Blk.new v3 26 #[.int .i64 z0, .int .i64 z1, .bool z2, .int .i64 z3, .bool z4, .int .i64 z5]
          have hbw := bt hbw (ba v3 (.cells #[.int .i64 z0, .int .i64 z1, .bool z2, .int .i64 z3, .bool z4, .int .i64 z5] 26))
          have hM := hM.bt (ba v3 (.cells #[.int .i64 z0, .int .i64 z1, .bool z2, .int .i64 z3, .bool z4, .int .i64 z5] 26))
          have cb0 := kb.cell 0
          have cb1 := kb.cell 1
          have cb2 := kb.cell 2
          have cb3 := kb.cell 3
          have cb4 := kb.cell 4
          have cb5 := kb.cell 5
          simp only [List.getElem?_toArray, List.getElem?_cons_zero, List.getElem?_cons_succ] at cb0 cb1 cb2 cb3 cb4 cb5
          have cd0 := kd.cell 0
          have cd1 := kd.cell 1
          have cd2 := kd.cell 2
          have cd3 := kd.cell 3
          have cd4 := kd.cell 4
          have cd5 := kd.cell 5
          simp only [List.getElem?_toArray, List.getElem?_cons_zero, List.getElem?_cons_succ] at cd0 cd1 cd2 cd3 cd4 cd5
          have cg0 := kg.cell 0
          have cg1 := kg.cell 1
          have cg2 := kg.cell 2
          have cg3 := kg.cell 3
          have cg4 := kg.cell 4
          have cg5 := kg.cell 5
          simp only [List.getElem?_toArray, List.getElem?_cons_zero, List.getElem?_cons_succ] at cg0 cg1 cg2 cg3 cg4 cg5
          go_wp2_with fail
          refine (ha _ hM).mono ?_
          rintro e v4 ⟨rfl, hb⟩
          have kb := kb.below hb kb.lt
          have kd := kd.below hb kd.lt
          have kg := kg.below hb kg.lt
          have hbw := bt hbw hb
          have hM := hM.bt hb
          clear hb
          clear cb0 cb1 cb2 cb3 cb4 cb5 cd0 cd1 cd2 cd3 cd4 cd5 cg0 cg1 cg2 cg3 cg4 cg5
          have cb0 := kb.cell 0
          have cb1 := kb.cell 1
          have cb2 := kb.cell 2
          have cb3 := kb.cell 3
          have cb4 := kb.cell 4
          have cb5 := kb.cell 5
          simp only [List.getElem?_toArray, List.getElem?_cons_zero, List.getElem?_cons_succ] at cb0 cb1 cb2 cb3 cb4 cb5
          have cd0 := kd.cell 0
          have cd1 := kd.cell 1
          have cd2 := kd.cell 2
          have cd3 := kd.cell 3
          have cd4 := kd.cell 4
          have cd5 := kd.cell 5
          simp only [List.getElem?_toArray, List.getElem?_cons_zero, List.getElem?_cons_succ] at cd0 cd1 cd2 cd3 cd4 cd5
          have cg0 := kg.cell 0
          have cg1 := kg.cell 1
          have cg2 := kg.cell 2
          have cg3 := kg.cell 3
          have cg4 := kg.cell 4
          have cg5 := kg.cell 5
          simp only [List.getElem?_toArray, List.getElem?_cons_zero, List.getElem?_cons_succ] at cg0 cg1 cg2 cg3 cg4 cg5
          go_wp2
          go_ret
          exact ⟨rfl, hbw⟩

end Go.Proofs.YtflaliadiihhbaaDoor
