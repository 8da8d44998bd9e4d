/- Layer 10: sync points and backouts (P10.5), all cases. -/
import Derived.Test.YtflaliadiihhbaaDoorVp00
import Derived.Test.YtflaliadiihhbaaDoorVp01
import Derived.Test.YtflaliadiihhbaaDoorVp10
import Derived.Test.YtflaliadiihhbaaDoorVp11
namespace Go.Proofs.YtflaliadiihhbaaDoor
open Go.RowKit
set_option linter.unusedVariables false
set_option linter.unusedSimpArgs false

set_option maxRecDepth 100000 in
set_option maxHeartbeats 4000000 in
theorem convSyncs_walk (l s0 : Int) (w0 : Bool) (s1 : Int) (w1 : Bool) (t side : Int) (w : World) (hM : Meets w) : Calls Tryd.prog 8 #[cv (l, s0, w0, s1, w1, t), .int .i64 side] w fun e w' => e = .returned (.bool true) ∧ Below w.heap.size w w' := by
  have ha := fun w h => alive_any w h
  have hr := fun w h => right_any l s0 w0 s1 w1 t w h
  rcases hR : rightM (l, s0, w0, s1, w1, t) with _ | _
  · rw [hR] at hr
    clear hR
    simp only [cv] at *
    go_enter Tryd.func8, Tryd.ntmps8
    have hbw := Below.refl w.heap.size w
    have kb := Blk.new w 26 #[.int .i64 l, .int .i64 s0, .bool w0, .int .i64 s1, .bool w1, .int .i64 t]
    have hbw := bt hbw (ba w (.cells #[.int .i64 l, .int .i64 s0, .bool w0, .int .i64 s1, .bool w1, .int .i64 t] 26))
    have hM := hM.bt (ba w (.cells #[.int .i64 l, .int .i64 s0, .bool w0, .int .i64 s1, .bool w1, .int .i64 t] 26))
    have cb0 := kb.cell 0
    have cb1 := kb.cell 1
    have cb2 := kb.cell 2
    have cb3 := kb.cell 3
    have cb4 := kb.cell 4
    have cb5 := kb.cell 5
    simp only [List.getElem?_toArray, List.getElem?_cons_zero, List.getElem?_cons_succ] at cb0 cb1 cb2 cb3 cb4 cb5
    go_wp2_with fail
    refine (hr _ hM).mono ?_
    rintro e v1 ⟨rfl, hb⟩
    have kb := kb.below hb kb.lt
    have hbw := bt hbw hb
    have hM := hM.bt hb
    clear hb
    clear cb0 cb1 cb2 cb3 cb4 cb5
    have cb0 := kb.cell 0
    have cb1 := kb.cell 1
    have cb2 := kb.cell 2
    have cb3 := kb.cell 3
    have cb4 := kb.cell 4
    have cb5 := kb.cell 5
    simp only [List.getElem?_toArray, List.getElem?_cons_zero, List.getElem?_cons_succ] at cb0 cb1 cb2 cb3 cb4 cb5
    go_wp2_with fail
    refine (ha _ hM).mono ?_
    rintro e v2 ⟨rfl, hb⟩
    have kb := kb.below hb kb.lt
    have hbw := bt hbw hb
    have hM := hM.bt hb
    clear hb
    clear cb0 cb1 cb2 cb3 cb4 cb5
    have cb0 := kb.cell 0
    have cb1 := kb.cell 1
    have cb2 := kb.cell 2
    have cb3 := kb.cell 3
    have cb4 := kb.cell 4
    have cb5 := kb.cell 5
    simp only [List.getElem?_toArray, List.getElem?_cons_zero, List.getElem?_cons_succ] at cb0 cb1 cb2 cb3 cb4 cb5
    go_wp2
    go_ret
    exact ⟨rfl, hbw⟩
  · by_cases h0 : side < 0
    · have g0 : decide (side < 0) = true := decide_eq_true h0
      rw [hR] at hr
      clear hR h0
      simp only [cv] at *
      go_enter Tryd.func8, Tryd.ntmps8
      have hbw := Below.refl w.heap.size w
      have kb := Blk.new w 26 #[.int .i64 l, .int .i64 s0, .bool w0, .int .i64 s1, .bool w1, .int .i64 t]
      have hbw := bt hbw (ba w (.cells #[.int .i64 l, .int .i64 s0, .bool w0, .int .i64 s1, .bool w1, .int .i64 t] 26))
      have hM := hM.bt (ba w (.cells #[.int .i64 l, .int .i64 s0, .bool w0, .int .i64 s1, .bool w1, .int .i64 t] 26))
      have cb0 := kb.cell 0
      have cb1 := kb.cell 1
      have cb2 := kb.cell 2
      have cb3 := kb.cell 3
      have cb4 := kb.cell 4
      have cb5 := kb.cell 5
      simp only [List.getElem?_toArray, List.getElem?_cons_zero, List.getElem?_cons_succ] at cb0 cb1 cb2 cb3 cb4 cb5
      go_wp2_with fail
      refine (hr _ hM).mono ?_
      rintro e v1 ⟨rfl, hb⟩
      have kb := kb.below hb kb.lt
      have hbw := bt hbw hb
      have hM := hM.bt hb
      clear hb
      clear cb0 cb1 cb2 cb3 cb4 cb5
      have cb0 := kb.cell 0
      have cb1 := kb.cell 1
      have cb2 := kb.cell 2
      have cb3 := kb.cell 3
      have cb4 := kb.cell 4
      have cb5 := kb.cell 5
      simp only [List.getElem?_toArray, List.getElem?_cons_zero, List.getElem?_cons_succ] at cb0 cb1 cb2 cb3 cb4 cb5
      go_wp2_with fail
      refine (ha _ hM).mono ?_
      rintro e v2 ⟨rfl, hb⟩
      have kb := kb.below hb kb.lt
      have hbw := bt hbw hb
      have hM := hM.bt hb
      clear hb
      clear cb0 cb1 cb2 cb3 cb4 cb5
      have cb0 := kb.cell 0
      have cb1 := kb.cell 1
      have cb2 := kb.cell 2
      have cb3 := kb.cell 3
      have cb4 := kb.cell 4
      have cb5 := kb.cell 5
      simp only [List.getElem?_toArray, List.getElem?_cons_zero, List.getElem?_cons_succ] at cb0 cb1 cb2 cb3 cb4 cb5
      go_wp2
      go_ret
      exact ⟨rfl, hbw⟩
    · by_cases h1 : side > 1
      · have g0 : decide (side < 0) = false := decide_eq_false h0
        have g1 : decide (side > 1) = true := decide_eq_true h1
        have g2 : decide (1 < side) = true := g1
        rw [hR] at hr
        clear hR h0 h1
        simp only [cv] at *
        go_enter Tryd.func8, Tryd.ntmps8
        have hbw := Below.refl w.heap.size w
        have kb := Blk.new w 26 #[.int .i64 l, .int .i64 s0, .bool w0, .int .i64 s1, .bool w1, .int .i64 t]
        have hbw := bt hbw (ba w (.cells #[.int .i64 l, .int .i64 s0, .bool w0, .int .i64 s1, .bool w1, .int .i64 t] 26))
        have hM := hM.bt (ba w (.cells #[.int .i64 l, .int .i64 s0, .bool w0, .int .i64 s1, .bool w1, .int .i64 t] 26))
        have cb0 := kb.cell 0
        have cb1 := kb.cell 1
        have cb2 := kb.cell 2
        have cb3 := kb.cell 3
        have cb4 := kb.cell 4
        have cb5 := kb.cell 5
        simp only [List.getElem?_toArray, List.getElem?_cons_zero, List.getElem?_cons_succ] at cb0 cb1 cb2 cb3 cb4 cb5
        go_wp2_with fail
        refine (hr _ hM).mono ?_
        rintro e v1 ⟨rfl, hb⟩
        have kb := kb.below hb kb.lt
        have hbw := bt hbw hb
        have hM := hM.bt hb
        clear hb
        clear cb0 cb1 cb2 cb3 cb4 cb5
        have cb0 := kb.cell 0
        have cb1 := kb.cell 1
        have cb2 := kb.cell 2
        have cb3 := kb.cell 3
        have cb4 := kb.cell 4
        have cb5 := kb.cell 5
        simp only [List.getElem?_toArray, List.getElem?_cons_zero, List.getElem?_cons_succ] at cb0 cb1 cb2 cb3 cb4 cb5
        go_wp2_with fail
        refine (ha _ hM).mono ?_
        rintro e v2 ⟨rfl, hb⟩
        have kb := kb.below hb kb.lt
        have hbw := bt hbw hb
        have hM := hM.bt hb
        clear hb
        clear cb0 cb1 cb2 cb3 cb4 cb5
        have cb0 := kb.cell 0
        have cb1 := kb.cell 1
        have cb2 := kb.cell 2
        have cb3 := kb.cell 3
        have cb4 := kb.cell 4
        have cb5 := kb.cell 5
        simp only [List.getElem?_toArray, List.getElem?_cons_zero, List.getElem?_cons_succ] at cb0 cb1 cb2 cb3 cb4 cb5
        go_wp2
        go_ret
        exact ⟨rfl, hbw⟩
      · have hs : side = 0 ∨ side = 1 := by omega
        have ht : t = 0 ∨ t = 1 := by
          have hT : sdM t = true := by
            have := hR
            revert this
            show (lvM l && (sdM t && _)) = true → _
            cases lvM l <;> cases sdM t <;> simp
          simpa [sdM] using hT
        rcases hs with rfl | rfl <;> rcases ht with rfl | rfl
        · exact convSyncs_00 l s0 w0 s1 w1 w hM hR
        · exact convSyncs_01 l s0 w0 s1 w1 w hM hR
        · exact convSyncs_10 l s0 w0 s1 w1 w hM hR
        · exact convSyncs_11 l s0 w0 s1 w1 w hM hR
end Go.Proofs.YtflaliadiihhbaaDoor
