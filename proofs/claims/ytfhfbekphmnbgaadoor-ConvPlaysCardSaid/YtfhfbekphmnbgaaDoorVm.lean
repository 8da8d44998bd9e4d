/- Layer 10: half duplex (P10.3). -/
import Derived.Test.YtfhfbekphmnbgaaDoorVl
namespace Go.Proofs.YtfhfbekphmnbgaaDoor
open Go.RowKit
set_option linter.unusedVariables false
set_option linter.unusedSimpArgs false

theorem doM_ok {c : Int × Int × Bool × Int × Bool × Int} {s v : Int} (h : (doM c s v).2 = 0) : rightM c = true ∧ sdM s = true ∧ 1 ≤ v ∧ v ≤ 13 := by
  unfold doM at h
  split at h
  · rename_i h1
    split at h
    · rename_i h2
      simp only [Bool.and_eq_true] at h1
      exact ⟨h1.1, h1.2, h2⟩
    · simp at h
  · simp at h
theorem doM_err {c : Int × Int × Bool × Int × Bool × Int} {s v : Int} (h : (doM c s v).2 ≠ 0) : (doM c s v).1 = zeroC := by
  unfold doM at h ⊢
  split
  · split
    · split
      · rfl
      · rename_i h1 h2 h3
        rw [if_pos h1, if_pos h2, if_neg h3] at h
        exact absurd rfl h
    · rfl
  · rfl
def QHalf (c : Int × Int × Bool × Int × Bool × Int) (s v : Int) : Bool := (doM c s v).2 != 0 || (match (doM c s v).1, c with | (l, a, x, b, y, t), (l', _, _, _, _, _) => rightM (l, a, x, b, y, t) && (!(a == 1 && b == 1) && (!(x && y) && l == l')))
theorem QHalf_all : (allC.all fun c => [0, 1].all fun s => [1, 2, 3, 4, 5, 6, 7, 8, 9, 10, 11, 12, 13].all fun v => QHalf c s v) = true := by decide +kernel

set_option maxRecDepth 100000 in
set_option maxHeartbeats 4000000 in
theorem convHalf_walk (l s0 : Int) (w0 : Bool) (s1 : Int) (w1 : Bool) (t side verb : Int) (w : World) (hM : Meets w) : Calls Tryd.prog 6 #[cv (l, s0, w0, s1, w1, t), .int .i64 side, .int .i64 verb] w fun e w' => e = .returned (.bool true) ∧ Below w.heap.size w w' := by
  have ha := fun w h => alive_any w h
  have hd := fun w h => do_any l s0 w0 s1 w1 t side verb w h
  obtain ⟨⟨y0, y1, y2, y3, y4, y5⟩, E, hy⟩ : ∃ d E, doM (l, s0, w0, s1, w1, t) side verb = (d, E) := ⟨_, _, rfl⟩
  by_cases hE : E = 0
  · subst hE
    obtain ⟨hrt, hsd, hv⟩ := doM_ok (c := (l, s0, w0, s1, w1, t)) (s := side) (v := verb) (by rw [hy])
    have hQ := all_cases QHalf QHalf_all hrt hsd hv
    unfold QHalf at hQ
    rw [hy] at hQ
    simp only [bne_self_eq_false, Bool.false_or, Bool.and_eq_true] at hQ
    obtain ⟨hrd', hs, hw, hl⟩ := hQ
    have hr := fun w h => right_any l s0 w0 s1 w1 t w h
    have hrd := fun w h => right_any y0 y1 y2 y3 y4 y5 w h
    rw [hrt] at hr
    rw [hrd'] at hrd
    rw [hy] at hd
    simp only [cv] at *
    clear hy hrt hsd hv hrd'
    rcases g1 : (y1 == 1) with _ | _
    · clear hs
      cases y2 <;> cases y4 <;> simp only [Bool.and_true, Bool.and_false, Bool.not_true, Bool.not_false, Bool.false_eq_true] at hw
      · go_enter Tryd.func6, Tryd.ntmps6
        have hbw := Below.refl w.heap.size w
        have kb := Blk.new w 26 #[.int .i64 l, .int .i64 s0, .bool w0, .int .i64 s1, .bool w1, .int .i64 t]
        have hbw := bt hbw (ba w (.cells #[.int .i64 l, .int .i64 s0, .bool w0, .int .i64 s1, .bool w1, .int .i64 t] 26))
        have hM := hM.bt (ba w (.cells #[.int .i64 l, .int .i64 s0, .bool w0, .int .i64 s1, .bool w1, .int .i64 t] 26))
        have cb0 := kb.cell 0
        have cb1 := kb.cell 1
        have cb2 := kb.cell 2
        have cb3 := kb.cell 3
        have cb4 := kb.cell 4
        have cb5 := kb.cell 5
        simp only [List.getElem?_toArray, List.getElem?_cons_zero, List.getElem?_cons_succ] at cb0 cb1 cb2 cb3 cb4 cb5
        go_wp2_with fail
        refine (hd _ hM).mono ?_
        rintro e v1 ⟨rfl, hb⟩
        have kb := kb.below hb kb.lt
        have hbw := bt hbw hb
        have hM := hM.bt hb
        clear hb
        clear cb0 cb1 cb2 cb3 cb4 cb5
        have kb := kb.alloc (.cells #[.int .i64 y0, .int .i64 y1, .bool false, .int .i64 y3, .bool false, .int .i64 y5] 26)
        have kd := Blk.new v1 26 #[.int .i64 y0, .int .i64 y1, .bool false, .int .i64 y3, .bool false, .int .i64 y5]
        have hbw := bt hbw (ba v1 (.cells #[.int .i64 y0, .int .i64 y1, .bool false, .int .i64 y3, .bool false, .int .i64 y5] 26))
        have hM := hM.bt (ba v1 (.cells #[.int .i64 y0, .int .i64 y1, .bool false, .int .i64 y3, .bool false, .int .i64 y5] 26))
        have cb0 := kb.cell 0
        have cb1 := kb.cell 1
        have cb2 := kb.cell 2
        have cb3 := kb.cell 3
        have cb4 := kb.cell 4
        have cb5 := kb.cell 5
        simp only [List.getElem?_toArray, List.getElem?_cons_zero, List.getElem?_cons_succ] at cb0 cb1 cb2 cb3 cb4 cb5
        have cd0 := kd.cell 0
        have cd1 := kd.cell 1
        have cd2 := kd.cell 2
        have cd3 := kd.cell 3
        have cd4 := kd.cell 4
        have cd5 := kd.cell 5
        simp only [List.getElem?_toArray, List.getElem?_cons_zero, List.getElem?_cons_succ] at cd0 cd1 cd2 cd3 cd4 cd5
        go_wp2_with fail
        refine (ha _ hM).mono ?_
        rintro e v2 ⟨rfl, hb⟩
        have kb := kb.below hb kb.lt
        have kd := kd.below hb kd.lt
        have hbw := bt hbw hb
        have hM := hM.bt hb
        clear hb
        clear cb0 cb1 cb2 cb3 cb4 cb5 cd0 cd1 cd2 cd3 cd4 cd5
        have cb0 := kb.cell 0
        have cb1 := kb.cell 1
        have cb2 := kb.cell 2
        have cb3 := kb.cell 3
        have cb4 := kb.cell 4
        have cb5 := kb.cell 5
        simp only [List.getElem?_toArray, List.getElem?_cons_zero, List.getElem?_cons_succ] at cb0 cb1 cb2 cb3 cb4 cb5
        have cd0 := kd.cell 0
        have cd1 := kd.cell 1
        have cd2 := kd.cell 2
        have cd3 := kd.cell 3
        have cd4 := kd.cell 4
        have cd5 := kd.cell 5
        simp only [List.getElem?_toArray, List.getElem?_cons_zero, List.getElem?_cons_succ] at cd0 cd1 cd2 cd3 cd4 cd5
        go_wp2_with fail
        refine (hr _ hM).mono ?_
        rintro e v3 ⟨rfl, hb⟩
        have kb := kb.below hb kb.lt
        have kd := kd.below hb kd.lt
        have hbw := bt hbw hb
        have hM := hM.bt hb
        clear hb
        clear cb0 cb1 cb2 cb3 cb4 cb5 cd0 cd1 cd2 cd3 cd4 cd5
        have cb0 := kb.cell 0
        have cb1 := kb.cell 1
        have cb2 := kb.cell 2
        have cb3 := kb.cell 3
        have cb4 := kb.cell 4
        have cb5 := kb.cell 5
        simp only [List.getElem?_toArray, List.getElem?_cons_zero, List.getElem?_cons_succ] at cb0 cb1 cb2 cb3 cb4 cb5
        have cd0 := kd.cell 0
        have cd1 := kd.cell 1
        have cd2 := kd.cell 2
        have cd3 := kd.cell 3
        have cd4 := kd.cell 4
        have cd5 := kd.cell 5
        simp only [List.getElem?_toArray, List.getElem?_cons_zero, List.getElem?_cons_succ] at cd0 cd1 cd2 cd3 cd4 cd5
        go_wp2_with fail
        refine (hrd _ hM).mono ?_
        rintro e v4 ⟨rfl, hb⟩
        have kb := kb.below hb kb.lt
        have kd := kd.below hb kd.lt
        have hbw := bt hbw hb
        have hM := hM.bt hb
        clear hb
        clear cb0 cb1 cb2 cb3 cb4 cb5 cd0 cd1 cd2 cd3 cd4 cd5
        have cb0 := kb.cell 0
        have cb1 := kb.cell 1
        have cb2 := kb.cell 2
        have cb3 := kb.cell 3
        have cb4 := kb.cell 4
        have cb5 := kb.cell 5
        simp only [List.getElem?_toArray, List.getElem?_cons_zero, List.getElem?_cons_succ] at cb0 cb1 cb2 cb3 cb4 cb5
        have cd0 := kd.cell 0
        have cd1 := kd.cell 1
        have cd2 := kd.cell 2
        have cd3 := kd.cell 3
        have cd4 := kd.cell 4
        have cd5 := kd.cell 5
        simp only [List.getElem?_toArray, List.getElem?_cons_zero, List.getElem?_cons_succ] at cd0 cd1 cd2 cd3 cd4 cd5
        go_wp2
        go_ret
        exact ⟨rfl, hbw⟩
      · go_enter Tryd.func6, Tryd.ntmps6
        have hbw := Below.refl w.heap.size w
        have kb := Blk.new w 26 #[.int .i64 l, .int .i64 s0, .bool w0, .int .i64 s1, .bool w1, .int .i64 t]
        have hbw := bt hbw (ba w (.cells #[.int .i64 l, .int .i64 s0, .bool w0, .int .i64 s1, .bool w1, .int .i64 t] 26))
        have hM := hM.bt (ba w (.cells #[.int .i64 l, .int .i64 s0, .bool w0, .int .i64 s1, .bool w1, .int .i64 t] 26))
        have cb0 := kb.cell 0
        have cb1 := kb.cell 1
        have cb2 := kb.cell 2
        have cb3 := kb.cell 3
        have cb4 := kb.cell 4
        have cb5 := kb.cell 5
        simp only [List.getElem?_toArray, List.getElem?_cons_zero, List.getElem?_cons_succ] at cb0 cb1 cb2 cb3 cb4 cb5
        go_wp2_with fail
        refine (hd _ hM).mono ?_
        rintro e v1 ⟨rfl, hb⟩
        have kb := kb.below hb kb.lt
        have hbw := bt hbw hb
        have hM := hM.bt hb
        clear hb
        clear cb0 cb1 cb2 cb3 cb4 cb5
        have kb := kb.alloc (.cells #[.int .i64 y0, .int .i64 y1, .bool false, .int .i64 y3, .bool true, .int .i64 y5] 26)
        have kd := Blk.new v1 26 #[.int .i64 y0, .int .i64 y1, .bool false, .int .i64 y3, .bool true, .int .i64 y5]
        have hbw := bt hbw (ba v1 (.cells #[.int .i64 y0, .int .i64 y1, .bool false, .int .i64 y3, .bool true, .int .i64 y5] 26))
        have hM := hM.bt (ba v1 (.cells #[.int .i64 y0, .int .i64 y1, .bool false, .int .i64 y3, .bool true, .int .i64 y5] 26))
        have cb0 := kb.cell 0
        have cb1 := kb.cell 1
        have cb2 := kb.cell 2
        have cb3 := kb.cell 3
        have cb4 := kb.cell 4
        have cb5 := kb.cell 5
        simp only [List.getElem?_toArray, List.getElem?_cons_zero, List.getElem?_cons_succ] at cb0 cb1 cb2 cb3 cb4 cb5
        have cd0 := kd.cell 0
        have cd1 := kd.cell 1
        have cd2 := kd.cell 2
        have cd3 := kd.cell 3
        have cd4 := kd.cell 4
        have cd5 := kd.cell 5
        simp only [List.getElem?_toArray, List.getElem?_cons_zero, List.getElem?_cons_succ] at cd0 cd1 cd2 cd3 cd4 cd5
        go_wp2_with fail
        refine (ha _ hM).mono ?_
        rintro e v2 ⟨rfl, hb⟩
        have kb := kb.below hb kb.lt
        have kd := kd.below hb kd.lt
        have hbw := bt hbw hb
        have hM := hM.bt hb
        clear hb
        clear cb0 cb1 cb2 cb3 cb4 cb5 cd0 cd1 cd2 cd3 cd4 cd5
        have cb0 := kb.cell 0
        have cb1 := kb.cell 1
        have cb2 := kb.cell 2
        have cb3 := kb.cell 3
        have cb4 := kb.cell 4
        have cb5 := kb.cell 5
        simp only [List.getElem?_toArray, List.getElem?_cons_zero, List.getElem?_cons_succ] at cb0 cb1 cb2 cb3 cb4 cb5
        have cd0 := kd.cell 0
        have cd1 := kd.cell 1
        have cd2 := kd.cell 2
        have cd3 := kd.cell 3
        have cd4 := kd.cell 4
        have cd5 := kd.cell 5
        simp only [List.getElem?_toArray, List.getElem?_cons_zero, List.getElem?_cons_succ] at cd0 cd1 cd2 cd3 cd4 cd5
        go_wp2_with fail
        refine (hr _ hM).mono ?_
        rintro e v3 ⟨rfl, hb⟩
        have kb := kb.below hb kb.lt
        have kd := kd.below hb kd.lt
        have hbw := bt hbw hb
        have hM := hM.bt hb
        clear hb
        clear cb0 cb1 cb2 cb3 cb4 cb5 cd0 cd1 cd2 cd3 cd4 cd5
        have cb0 := kb.cell 0
        have cb1 := kb.cell 1
        have cb2 := kb.cell 2
        have cb3 := kb.cell 3
        have cb4 := kb.cell 4
        have cb5 := kb.cell 5
        simp only [List.getElem?_toArray, List.getElem?_cons_zero, List.getElem?_cons_succ] at cb0 cb1 cb2 cb3 cb4 cb5
        have cd0 := kd.cell 0
        have cd1 := kd.cell 1
        have cd2 := kd.cell 2
        have cd3 := kd.cell 3
        have cd4 := kd.cell 4
        have cd5 := kd.cell 5
        simp only [List.getElem?_toArray, List.getElem?_cons_zero, List.getElem?_cons_succ] at cd0 cd1 cd2 cd3 cd4 cd5
        go_wp2_with fail
        refine (hrd _ hM).mono ?_
        rintro e v4 ⟨rfl, hb⟩
        have kb := kb.below hb kb.lt
        have kd := kd.below hb kd.lt
        have hbw := bt hbw hb
        have hM := hM.bt hb
        clear hb
        clear cb0 cb1 cb2 cb3 cb4 cb5 cd0 cd1 cd2 cd3 cd4 cd5
        have cb0 := kb.cell 0
        have cb1 := kb.cell 1
        have cb2 := kb.cell 2
        have cb3 := kb.cell 3
        have cb4 := kb.cell 4
        have cb5 := kb.cell 5
        simp only [List.getElem?_toArray, List.getElem?_cons_zero, List.getElem?_cons_succ] at cb0 cb1 cb2 cb3 cb4 cb5
        have cd0 := kd.cell 0
        have cd1 := kd.cell 1
        have cd2 := kd.cell 2
        have cd3 := kd.cell 3
        have cd4 := kd.cell 4
        have cd5 := kd.cell 5
        simp only [List.getElem?_toArray, List.getElem?_cons_zero, List.getElem?_cons_succ] at cd0 cd1 cd2 cd3 cd4 cd5
        go_wp2
        go_ret
        exact ⟨rfl, hbw⟩
      · go_enter Tryd.func6, Tryd.ntmps6
        have hbw := Below.refl w.heap.size w
        have kb := Blk.new w 26 #[.int .i64 l, .int .i64 s0, .bool w0, .int .i64 s1, .bool w1, .int .i64 t]
        have hbw := bt hbw (ba w (.cells #[.int .i64 l, .int .i64 s0, .bool w0, .int .i64 s1, .bool w1, .int .i64 t] 26))
        have hM := hM.bt (ba w (.cells #[.int .i64 l, .int .i64 s0, .bool w0, .int .i64 s1, .bool w1, .int .i64 t] 26))
        have cb0 := kb.cell 0
        have cb1 := kb.cell 1
        have cb2 := kb.cell 2
        have cb3 := kb.cell 3
        have cb4 := kb.cell 4
        have cb5 := kb.cell 5
        simp only [List.getElem?_toArray, List.getElem?_cons_zero, List.getElem?_cons_succ] at cb0 cb1 cb2 cb3 cb4 cb5
        go_wp2_with fail
        refine (hd _ hM).mono ?_
        rintro e v1 ⟨rfl, hb⟩
        have kb := kb.below hb kb.lt
        have hbw := bt hbw hb
        have hM := hM.bt hb
        clear hb
        clear cb0 cb1 cb2 cb3 cb4 cb5
        have kb := kb.alloc (.cells #[.int .i64 y0, .int .i64 y1, .bool true, .int .i64 y3, .bool false, .int .i64 y5] 26)
        have kd := Blk.new v1 26 #[.int .i64 y0, .int .i64 y1, .bool true, .int .i64 y3, .bool false, .int .i64 y5]
        have hbw := bt hbw (ba v1 (.cells #[.int .i64 y0, .int .i64 y1, .bool true, .int .i64 y3, .bool false, .int .i64 y5] 26))
        have hM := hM.bt (ba v1 (.cells #[.int .i64 y0, .int .i64 y1, .bool true, .int .i64 y3, .bool false, .int .i64 y5] 26))
        have cb0 := kb.cell 0
        have cb1 := kb.cell 1
        have cb2 := kb.cell 2
        have cb3 := kb.cell 3
        have cb4 := kb.cell 4
        have cb5 := kb.cell 5
        simp only [List.getElem?_toArray, List.getElem?_cons_zero, List.getElem?_cons_succ] at cb0 cb1 cb2 cb3 cb4 cb5
        have cd0 := kd.cell 0
        have cd1 := kd.cell 1
        have cd2 := kd.cell 2
        have cd3 := kd.cell 3
        have cd4 := kd.cell 4
        have cd5 := kd.cell 5
        simp only [List.getElem?_toArray, List.getElem?_cons_zero, List.getElem?_cons_succ] at cd0 cd1 cd2 cd3 cd4 cd5
        go_wp2_with fail
        refine (ha _ hM).mono ?_
        rintro e v2 ⟨rfl, hb⟩
        have kb := kb.below hb kb.lt
        have kd := kd.below hb kd.lt
        have hbw := bt hbw hb
        have hM := hM.bt hb
        clear hb
        clear cb0 cb1 cb2 cb3 cb4 cb5 cd0 cd1 cd2 cd3 cd4 cd5
        have cb0 := kb.cell 0
        have cb1 := kb.cell 1
        have cb2 := kb.cell 2
        have cb3 := kb.cell 3
        have cb4 := kb.cell 4
        have cb5 := kb.cell 5
        simp only [List.getElem?_toArray, List.getElem?_cons_zero, List.getElem?_cons_succ] at cb0 cb1 cb2 cb3 cb4 cb5
        have cd0 := kd.cell 0
        have cd1 := kd.cell 1
        have cd2 := kd.cell 2
        have cd3 := kd.cell 3
        have cd4 := kd.cell 4
        have cd5 := kd.cell 5
        simp only [List.getElem?_toArray, List.getElem?_cons_zero, List.getElem?_cons_succ] at cd0 cd1 cd2 cd3 cd4 cd5
        go_wp2_with fail
        refine (hr _ hM).mono ?_
        rintro e v3 ⟨rfl, hb⟩
        have kb := kb.below hb kb.lt
        have kd := kd.below hb kd.lt
        have hbw := bt hbw hb
        have hM := hM.bt hb
        clear hb
        clear cb0 cb1 cb2 cb3 cb4 cb5 cd0 cd1 cd2 cd3 cd4 cd5
        have cb0 := kb.cell 0
        have cb1 := kb.cell 1
        have cb2 := kb.cell 2
        have cb3 := kb.cell 3
        have cb4 := kb.cell 4
        have cb5 := kb.cell 5
        simp only [List.getElem?_toArray, List.getElem?_cons_zero, List.getElem?_cons_succ] at cb0 cb1 cb2 cb3 cb4 cb5
        have cd0 := kd.cell 0
        have cd1 := kd.cell 1
        have cd2 := kd.cell 2
        have cd3 := kd.cell 3
        have cd4 := kd.cell 4
        have cd5 := kd.cell 5
        simp only [List.getElem?_toArray, List.getElem?_cons_zero, List.getElem?_cons_succ] at cd0 cd1 cd2 cd3 cd4 cd5
        go_wp2_with fail
        refine (hrd _ hM).mono ?_
        rintro e v4 ⟨rfl, hb⟩
        have kb := kb.below hb kb.lt
        have kd := kd.below hb kd.lt
        have hbw := bt hbw hb
        have hM := hM.bt hb
        clear hb
        clear cb0 cb1 cb2 cb3 cb4 cb5 cd0 cd1 cd2 cd3 cd4 cd5
        have cb0 := kb.cell 0
        have cb1 := kb.cell 1
        have cb2 := kb.cell 2
        have cb3 := kb.cell 3
        have cb4 := kb.cell 4
        have cb5 := kb.cell 5
        simp only [List.getElem?_toArray, List.getElem?_cons_zero, List.getElem?_cons_succ] at cb0 cb1 cb2 cb3 cb4 cb5
        have cd0 := kd.cell 0
        have cd1 := kd.cell 1
        have cd2 := kd.cell 2
        have cd3 := kd.cell 3
        have cd4 := kd.cell 4
        have cd5 := kd.cell 5
        simp only [List.getElem?_toArray, List.getElem?_cons_zero, List.getElem?_cons_succ] at cd0 cd1 cd2 cd3 cd4 cd5
        go_wp2
        go_ret
        exact ⟨rfl, hbw⟩
    · have g3 : (y3 == 1) = false := by rw [g1] at hs; simpa using hs
      clear hs
      cases y2 <;> cases y4 <;> simp only [Bool.and_true, Bool.and_false, Bool.not_true, Bool.not_false, Bool.false_eq_true] at hw
      · go_enter Tryd.func6, Tryd.ntmps6
        have hbw := Below.refl w.heap.size w
        have kb := Blk.new w 26 #[.int .i64 l, .int .i64 s0, .bool w0, .int .i64 s1, .bool w1, .int .i64 t]
        have hbw := bt hbw (ba w (.cells #[.int .i64 l, .int .i64 s0, .bool w0, .int .i64 s1, .bool w1, .int .i64 t] 26))
        have hM := hM.bt (ba w (.cells #[.int .i64 l, .int .i64 s0, .bool w0, .int .i64 s1, .bool w1, .int .i64 t] 26))
        have cb0 := kb.cell 0
        have cb1 := kb.cell 1
        have cb2 := kb.cell 2
        have cb3 := kb.cell 3
        have cb4 := kb.cell 4
        have cb5 := kb.cell 5
        simp only [List.getElem?_toArray, List.getElem?_cons_zero, List.getElem?_cons_succ] at cb0 cb1 cb2 cb3 cb4 cb5
        go_wp2_with fail
        refine (hd _ hM).mono ?_
        rintro e v1 ⟨rfl, hb⟩
        have kb := kb.below hb kb.lt
        have hbw := bt hbw hb
        have hM := hM.bt hb
        clear hb
        clear cb0 cb1 cb2 cb3 cb4 cb5
        have kb := kb.alloc (.cells #[.int .i64 y0, .int .i64 y1, .bool false, .int .i64 y3, .bool false, .int .i64 y5] 26)
        have kd := Blk.new v1 26 #[.int .i64 y0, .int .i64 y1, .bool false, .int .i64 y3, .bool false, .int .i64 y5]
        have hbw := bt hbw (ba v1 (.cells #[.int .i64 y0, .int .i64 y1, .bool false, .int .i64 y3, .bool false, .int .i64 y5] 26))
        have hM := hM.bt (ba v1 (.cells #[.int .i64 y0, .int .i64 y1, .bool false, .int .i64 y3, .bool false, .int .i64 y5] 26))
        have cb0 := kb.cell 0
        have cb1 := kb.cell 1
        have cb2 := kb.cell 2
        have cb3 := kb.cell 3
        have cb4 := kb.cell 4
        have cb5 := kb.cell 5
        simp only [List.getElem?_toArray, List.getElem?_cons_zero, List.getElem?_cons_succ] at cb0 cb1 cb2 cb3 cb4 cb5
        have cd0 := kd.cell 0
        have cd1 := kd.cell 1
        have cd2 := kd.cell 2
        have cd3 := kd.cell 3
        have cd4 := kd.cell 4
        have cd5 := kd.cell 5
        simp only [List.getElem?_toArray, List.getElem?_cons_zero, List.getElem?_cons_succ] at cd0 cd1 cd2 cd3 cd4 cd5
        go_wp2_with fail
        refine (ha _ hM).mono ?_
        rintro e v2 ⟨rfl, hb⟩
        have kb := kb.below hb kb.lt
        have kd := kd.below hb kd.lt
        have hbw := bt hbw hb
        have hM := hM.bt hb
        clear hb
        clear cb0 cb1 cb2 cb3 cb4 cb5 cd0 cd1 cd2 cd3 cd4 cd5
        have cb0 := kb.cell 0
        have cb1 := kb.cell 1
        have cb2 := kb.cell 2
        have cb3 := kb.cell 3
        have cb4 := kb.cell 4
        have cb5 := kb.cell 5
        simp only [List.getElem?_toArray, List.getElem?_cons_zero, List.getElem?_cons_succ] at cb0 cb1 cb2 cb3 cb4 cb5
        have cd0 := kd.cell 0
        have cd1 := kd.cell 1
        have cd2 := kd.cell 2
        have cd3 := kd.cell 3
        have cd4 := kd.cell 4
        have cd5 := kd.cell 5
        simp only [List.getElem?_toArray, List.getElem?_cons_zero, List.getElem?_cons_succ] at cd0 cd1 cd2 cd3 cd4 cd5
        go_wp2_with fail
        refine (hr _ hM).mono ?_
        rintro e v3 ⟨rfl, hb⟩
        have kb := kb.below hb kb.lt
        have kd := kd.below hb kd.lt
        have hbw := bt hbw hb
        have hM := hM.bt hb
        clear hb
        clear cb0 cb1 cb2 cb3 cb4 cb5 cd0 cd1 cd2 cd3 cd4 cd5
        have cb0 := kb.cell 0
        have cb1 := kb.cell 1
        have cb2 := kb.cell 2
        have cb3 := kb.cell 3
        have cb4 := kb.cell 4
        have cb5 := kb.cell 5
        simp only [List.getElem?_toArray, List.getElem?_cons_zero, List.getElem?_cons_succ] at cb0 cb1 cb2 cb3 cb4 cb5
        have cd0 := kd.cell 0
        have cd1 := kd.cell 1
        have cd2 := kd.cell 2
        have cd3 := kd.cell 3
        have cd4 := kd.cell 4
        have cd5 := kd.cell 5
        simp only [List.getElem?_toArray, List.getElem?_cons_zero, List.getElem?_cons_succ] at cd0 cd1 cd2 cd3 cd4 cd5
        go_wp2_with fail
        refine (hrd _ hM).mono ?_
        rintro e v4 ⟨rfl, hb⟩
        have kb := kb.below hb kb.lt
        have kd := kd.below hb kd.lt
        have hbw := bt hbw hb
        have hM := hM.bt hb
        clear hb
        clear cb0 cb1 cb2 cb3 cb4 cb5 cd0 cd1 cd2 cd3 cd4 cd5
        have cb0 := kb.cell 0
        have cb1 := kb.cell 1
        have cb2 := kb.cell 2
        have cb3 := kb.cell 3
        have cb4 := kb.cell 4
        have cb5 := kb.cell 5
        simp only [List.getElem?_toArray, List.getElem?_cons_zero, List.getElem?_cons_succ] at cb0 cb1 cb2 cb3 cb4 cb5
        have cd0 := kd.cell 0
        have cd1 := kd.cell 1
        have cd2 := kd.cell 2
        have cd3 := kd.cell 3
        have cd4 := kd.cell 4
        have cd5 := kd.cell 5
        simp only [List.getElem?_toArray, List.getElem?_cons_zero, List.getElem?_cons_succ] at cd0 cd1 cd2 cd3 cd4 cd5
        go_wp2
        go_ret
        exact ⟨rfl, hbw⟩
      · go_enter Tryd.func6, Tryd.ntmps6
        have hbw := Below.refl w.heap.size w
        have kb := Blk.new w 26 #[.int .i64 l, .int .i64 s0, .bool w0, .int .i64 s1, .bool w1, .int .i64 t]
        have hbw := bt hbw (ba w (.cells #[.int .i64 l, .int .i64 s0, .bool w0, .int .i64 s1, .bool w1, .int .i64 t] 26))
        have hM := hM.bt (ba w (.cells #[.int .i64 l, .int .i64 s0, .bool w0, .int .i64 s1, .bool w1, .int .i64 t] 26))
        have cb0 := kb.cell 0
        have cb1 := kb.cell 1
        have cb2 := kb.cell 2
        have cb3 := kb.cell 3
        have cb4 := kb.cell 4
        have cb5 := kb.cell 5
        simp only [List.getElem?_toArray, List.getElem?_cons_zero, List.getElem?_cons_succ] at cb0 cb1 cb2 cb3 cb4 cb5
        go_wp2_with fail
        refine (hd _ hM).mono ?_
        rintro e v1 ⟨rfl, hb⟩
        have kb := kb.below hb kb.lt
        have hbw := bt hbw hb
        have hM := hM.bt hb
        clear hb
        clear cb0 cb1 cb2 cb3 cb4 cb5
        have kb := kb.alloc (.cells #[.int .i64 y0, .int .i64 y1, .bool false, .int .i64 y3, .bool true, .int .i64 y5] 26)
        have kd := Blk.new v1 26 #[.int .i64 y0, .int .i64 y1, .bool false, .int .i64 y3, .bool true, .int .i64 y5]
        have hbw := bt hbw (ba v1 (.cells #[.int .i64 y0, .int .i64 y1, .bool false, .int .i64 y3, .bool true, .int .i64 y5] 26))
        have hM := hM.bt (ba v1 (.cells #[.int .i64 y0, .int .i64 y1, .bool false, .int .i64 y3, .bool true, .int .i64 y5] 26))
        have cb0 := kb.cell 0
        have cb1 := kb.cell 1
        have cb2 := kb.cell 2
        have cb3 := kb.cell 3
        have cb4 := kb.cell 4
        have cb5 := kb.cell 5
        simp only [List.getElem?_toArray, List.getElem?_cons_zero, List.getElem?_cons_succ] at cb0 cb1 cb2 cb3 cb4 cb5
        have cd0 := kd.cell 0
        have cd1 := kd.cell 1
        have cd2 := kd.cell 2
        have cd3 := kd.cell 3
        have cd4 := kd.cell 4
        have cd5 := kd.cell 5
        simp only [List.getElem?_toArray, List.getElem?_cons_zero, List.getElem?_cons_succ] at cd0 cd1 cd2 cd3 cd4 cd5
        go_wp2_with fail
        refine (ha _ hM).mono ?_
        rintro e v2 ⟨rfl, hb⟩
        have kb := kb.below hb kb.lt
        have kd := kd.below hb kd.lt
        have hbw := bt hbw hb
        have hM := hM.bt hb
        clear hb
        clear cb0 cb1 cb2 cb3 cb4 cb5 cd0 cd1 cd2 cd3 cd4 cd5
        have cb0 := kb.cell 0
        have cb1 := kb.cell 1
        have cb2 := kb.cell 2
        have cb3 := kb.cell 3
        have cb4 := kb.cell 4
        have cb5 := kb.cell 5
        simp only [List.getElem?_toArray, List.getElem?_cons_zero, List.getElem?_cons_succ] at cb0 cb1 cb2 cb3 cb4 cb5
        have cd0 := kd.cell 0
        have cd1 := kd.cell 1
        have cd2 := kd.cell 2
        have cd3 := kd.cell 3
        have cd4 := kd.cell 4
        have cd5 := kd.cell 5
        simp only [List.getElem?_toArray, List.getElem?_cons_zero, List.getElem?_cons_succ] at cd0 cd1 cd2 cd3 cd4 cd5
        go_wp2_with fail
        refine (hr _ hM).mono ?_
        rintro e v3 ⟨rfl, hb⟩
        have kb := kb.below hb kb.lt
        have kd := kd.below hb kd.lt
        have hbw := bt hbw hb
        have hM := hM.bt hb
        clear hb
        clear cb0 cb1 cb2 cb3 cb4 cb5 cd0 cd1 cd2 cd3 cd4 cd5
        have cb0 := kb.cell 0
        have cb1 := kb.cell 1
        have cb2 := kb.cell 2
        have cb3 := kb.cell 3
        have cb4 := kb.cell 4
        have cb5 := kb.cell 5
        simp only [List.getElem?_toArray, List.getElem?_cons_zero, List.getElem?_cons_succ] at cb0 cb1 cb2 cb3 cb4 cb5
        have cd0 := kd.cell 0
        have cd1 := kd.cell 1
        have cd2 := kd.cell 2
        have cd3 := kd.cell 3
        have cd4 := kd.cell 4
        have cd5 := kd.cell 5
        simp only [List.getElem?_toArray, List.getElem?_cons_zero, List.getElem?_cons_succ] at cd0 cd1 cd2 cd3 cd4 cd5
        go_wp2_with fail
        refine (hrd _ hM).mono ?_
        rintro e v4 ⟨rfl, hb⟩
        have kb := kb.below hb kb.lt
        have kd := kd.below hb kd.lt
        have hbw := bt hbw hb
        have hM := hM.bt hb
        clear hb
        clear cb0 cb1 cb2 cb3 cb4 cb5 cd0 cd1 cd2 cd3 cd4 cd5
        have cb0 := kb.cell 0
        have cb1 := kb.cell 1
        have cb2 := kb.cell 2
        have cb3 := kb.cell 3
        have cb4 := kb.cell 4
        have cb5 := kb.cell 5
        simp only [List.getElem?_toArray, List.getElem?_cons_zero, List.getElem?_cons_succ] at cb0 cb1 cb2 cb3 cb4 cb5
        have cd0 := kd.cell 0
        have cd1 := kd.cell 1
        have cd2 := kd.cell 2
        have cd3 := kd.cell 3
        have cd4 := kd.cell 4
        have cd5 := kd.cell 5
        simp only [List.getElem?_toArray, List.getElem?_cons_zero, List.getElem?_cons_succ] at cd0 cd1 cd2 cd3 cd4 cd5
        go_wp2
        go_ret
        exact ⟨rfl, hbw⟩
      · go_enter Tryd.func6, Tryd.ntmps6
        have hbw := Below.refl w.heap.size w
        have kb := Blk.new w 26 #[.int .i64 l, .int .i64 s0, .bool w0, .int .i64 s1, .bool w1, .int .i64 t]
        have hbw := bt hbw (ba w (.cells #[.int .i64 l, .int .i64 s0, .bool w0, .int .i64 s1, .bool w1, .int .i64 t] 26))
        have hM := hM.bt (ba w (.cells #[.int .i64 l, .int .i64 s0, .bool w0, .int .i64 s1, .bool w1, .int .i64 t] 26))
        have cb0 := kb.cell 0
        have cb1 := kb.cell 1
        have cb2 := kb.cell 2
        have cb3 := kb.cell 3
        have cb4 := kb.cell 4
        have cb5 := kb.cell 5
        simp only [List.getElem?_toArray, List.getElem?_cons_zero, List.getElem?_cons_succ] at cb0 cb1 cb2 cb3 cb4 cb5
        go_wp2_with fail
        refine (hd _ hM).mono ?_
        rintro e v1 ⟨rfl, hb⟩
        have kb := kb.below hb kb.lt
        have hbw := bt hbw hb
        have hM := hM.bt hb
        clear hb
        clear cb0 cb1 cb2 cb3 cb4 cb5
        have kb := kb.alloc (.cells #[.int .i64 y0, .int .i64 y1, .bool true, .int .i64 y3, .bool false, .int .i64 y5] 26)
        have kd := Blk.new v1 26 #[.int .i64 y0, .int .i64 y1, .bool true, .int .i64 y3, .bool false, .int .i64 y5]
        have hbw := bt hbw (ba v1 (.cells #[.int .i64 y0, .int .i64 y1, .bool true, .int .i64 y3, .bool false, .int .i64 y5] 26))
        have hM := hM.bt (ba v1 (.cells #[.int .i64 y0, .int .i64 y1, .bool true, .int .i64 y3, .bool false, .int .i64 y5] 26))
        have cb0 := kb.cell 0
        have cb1 := kb.cell 1
        have cb2 := kb.cell 2
        have cb3 := kb.cell 3
        have cb4 := kb.cell 4
        have cb5 := kb.cell 5
        simp only [List.getElem?_toArray, List.getElem?_cons_zero, List.getElem?_cons_succ] at cb0 cb1 cb2 cb3 cb4 cb5
        have cd0 := kd.cell 0
        have cd1 := kd.cell 1
        have cd2 := kd.cell 2
        have cd3 := kd.cell 3
        have cd4 := kd.cell 4
        have cd5 := kd.cell 5
        simp only [List.getElem?_toArray, List.getElem?_cons_zero, List.getElem?_cons_succ] at cd0 cd1 cd2 cd3 cd4 cd5
        go_wp2_with fail
        refine (ha _ hM).mono ?_
        rintro e v2 ⟨rfl, hb⟩
        have kb := kb.below hb kb.lt
        have kd := kd.below hb kd.lt
        have hbw := bt hbw hb
        have hM := hM.bt hb
        clear hb
        clear cb0 cb1 cb2 cb3 cb4 cb5 cd0 cd1 cd2 cd3 cd4 cd5
        have cb0 := kb.cell 0
        have cb1 := kb.cell 1
        have cb2 := kb.cell 2
        have cb3 := kb.cell 3
        have cb4 := kb.cell 4
        have cb5 := kb.cell 5
        simp only [List.getElem?_toArray, List.getElem?_cons_zero, List.getElem?_cons_succ] at cb0 cb1 cb2 cb3 cb4 cb5
        have cd0 := kd.cell 0
        have cd1 := kd.cell 1
        have cd2 := kd.cell 2
        have cd3 := kd.cell 3
        have cd4 := kd.cell 4
        have cd5 := kd.cell 5
        simp only [List.getElem?_toArray, List.getElem?_cons_zero, List.getElem?_cons_succ] at cd0 cd1 cd2 cd3 cd4 cd5
        go_wp2_with fail
        refine (hr _ hM).mono ?_
        rintro e v3 ⟨rfl, hb⟩
        have kb := kb.below hb kb.lt
        have kd := kd.below hb kd.lt
        have hbw := bt hbw hb
        have hM := hM.bt hb
        clear hb
        clear cb0 cb1 cb2 cb3 cb4 cb5 cd0 cd1 cd2 cd3 cd4 cd5
        have cb0 := kb.cell 0
        have cb1 := kb.cell 1
        have cb2 := kb.cell 2
        have cb3 := kb.cell 3
        have cb4 := kb.cell 4
        have cb5 := kb.cell 5
        simp only [List.getElem?_toArray, List.getElem?_cons_zero, List.getElem?_cons_succ] at cb0 cb1 cb2 cb3 cb4 cb5
        have cd0 := kd.cell 0
        have cd1 := kd.cell 1
        have cd2 := kd.cell 2
        have cd3 := kd.cell 3
        have cd4 := kd.cell 4
        have cd5 := kd.cell 5
        simp only [List.getElem?_toArray, List.getElem?_cons_zero, List.getElem?_cons_succ] at cd0 cd1 cd2 cd3 cd4 cd5
        go_wp2_with fail
        refine (hrd _ hM).mono ?_
        rintro e v4 ⟨rfl, hb⟩
        have kb := kb.below hb kb.lt
        have kd := kd.below hb kd.lt
        have hbw := bt hbw hb
        have hM := hM.bt hb
        clear hb
        clear cb0 cb1 cb2 cb3 cb4 cb5 cd0 cd1 cd2 cd3 cd4 cd5
        have cb0 := kb.cell 0
        have cb1 := kb.cell 1
        have cb2 := kb.cell 2
        have cb3 := kb.cell 3
        have cb4 := kb.cell 4
        have cb5 := kb.cell 5
        simp only [List.getElem?_toArray, List.getElem?_cons_zero, List.getElem?_cons_succ] at cb0 cb1 cb2 cb3 cb4 cb5
        have cd0 := kd.cell 0
        have cd1 := kd.cell 1
        have cd2 := kd.cell 2
        have cd3 := kd.cell 3
        have cd4 := kd.cell 4
        have cd5 := kd.cell 5
        simp only [List.getElem?_toArray, List.getElem?_cons_zero, List.getElem?_cons_succ] at cd0 cd1 cd2 cd3 cd4 cd5
        go_wp2
        go_ret
        exact ⟨rfl, hbw⟩
  · have hz : (y0, y1, y2, y3, y4, y5) = zeroC := by
      have := doM_err (c := (l, s0, w0, s1, w1, t)) (s := side) (v := verb) (by rw [hy]; exact hE)
      rw [hy] at this
      exact this
    unfold zeroC at hz
    simp only [Prod.mk.injEq] at hz
    obtain ⟨rfl, rfl, rfl, rfl, rfl, rfl⟩ := hz
    have hE1 : (E != 0) = true := by simpa using hE
    have hE2 : (E == 0) = false := by simpa using hE
    have he := fun w => eqC 0 0 false 0 false 0 0 0 false 0 false 0 w
    have he2 : eqM 0 0 false 0 false 0 0 0 false 0 false 0 = true := by decide
    rw [he2] at he
    rw [hy] at hd
    simp only [cv] at *
    clear hy hE he2
    go_enter Tryd.func6, Tryd.ntmps6
    have hbw := Below.refl w.heap.size w
    have kb := Blk.new w 26 #[.int .i64 l, .int .i64 s0, .bool w0, .int .i64 s1, .bool w1, .int .i64 t]
    have hbw := bt hbw (ba w (.cells #[.int .i64 l, .int .i64 s0, .bool w0, .int .i64 s1, .bool w1, .int .i64 t] 26))
    have hM := hM.bt (ba w (.cells #[.int .i64 l, .int .i64 s0, .bool w0, .int .i64 s1, .bool w1, .int .i64 t] 26))
    have cb0 := kb.cell 0
    have cb1 := kb.cell 1
    have cb2 := kb.cell 2
    have cb3 := kb.cell 3
    have cb4 := kb.cell 4
    have cb5 := kb.cell 5
    simp only [List.getElem?_toArray, List.getElem?_cons_zero, List.getElem?_cons_succ] at cb0 cb1 cb2 cb3 cb4 cb5
    go_wp2_with fail
    refine (hd _ hM).mono ?_
    rintro e v1 ⟨rfl, hb⟩
    have kb := kb.below hb kb.lt
    have hbw := bt hbw hb
    have hM := hM.bt hb
    clear hb
    clear cb0 cb1 cb2 cb3 cb4 cb5
    have kb := kb.alloc (.cells #[.int .i64 0, .int .i64 0, .bool false, .int .i64 0, .bool false, .int .i64 0] 26)
    have kd := Blk.new v1 26 #[.int .i64 0, .int .i64 0, .bool false, .int .i64 0, .bool false, .int .i64 0]
    have hbw := bt hbw (ba v1 (.cells #[.int .i64 0, .int .i64 0, .bool false, .int .i64 0, .bool false, .int .i64 0] 26))
    have hM := hM.bt (ba v1 (.cells #[.int .i64 0, .int .i64 0, .bool false, .int .i64 0, .bool false, .int .i64 0] 26))
    have cb0 := kb.cell 0
    have cb1 := kb.cell 1
    have cb2 := kb.cell 2
    have cb3 := kb.cell 3
    have cb4 := kb.cell 4
    have cb5 := kb.cell 5
    simp only [List.getElem?_toArray, List.getElem?_cons_zero, List.getElem?_cons_succ] at cb0 cb1 cb2 cb3 cb4 cb5
    have cd0 := kd.cell 0
    have cd1 := kd.cell 1
    have cd2 := kd.cell 2
    have cd3 := kd.cell 3
    have cd4 := kd.cell 4
    have cd5 := kd.cell 5
    simp only [List.getElem?_toArray, List.getElem?_cons_zero, List.getElem?_cons_succ] at cd0 cd1 cd2 cd3 cd4 cd5
    go_wp2_with fail
    refine (ha _ hM).mono ?_
    rintro e v2 ⟨rfl, hb⟩
    have kb := kb.below hb kb.lt
    have kd := kd.below hb kd.lt
    have hbw := bt hbw hb
    have hM := hM.bt hb
    clear hb
    clear cb0 cb1 cb2 cb3 cb4 cb5 cd0 cd1 cd2 cd3 cd4 cd5
    have cd0 := kd.cell 0
    have cd1 := kd.cell 1
    have cd2 := kd.cell 2
    have cd3 := kd.cell 3
    have cd4 := kd.cell 4
    have cd5 := kd.cell 5
    simp only [List.getElem?_toArray, List.getElem?_cons_zero, List.getElem?_cons_succ] at cd0 cd1 cd2 cd3 cd4 cd5
    go_wp2
    go_ret
    exact ⟨rfl, hbw⟩

end Go.Proofs.YtfhfbekphmnbgaaDoor
