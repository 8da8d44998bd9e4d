/- Layer 10: the fixed calls of the laws. -/
import Derived.Test.YtfhfbekphmnbgaaDoorVk
namespace Go.Proofs.YtfhfbekphmnbgaaDoor
open Go.RowKit
set_option linter.unusedVariables false
set_option linter.unusedSimpArgs false

set_option maxRecDepth 100000 in
set_option maxHeartbeats 4000000 in
theorem alive_any (w : World) (hM : Meets w) : Calls Tryd.prog 13 #[] w fun e w' => e = .returned (.bool true) ∧ Below w.heap.size w w' := by
  have hn : ∀ w, Calls Tryd.prog 11 #[.int .i64 2] w fun e w' => e = .returned (.tuple #[.agg #[.int .i64 2, .int .i64 1, .bool false, .int .i64 2, .bool false, .int .i64 0], .int .i64 0]) ∧ Below w.heap.size w w' := fun w => by
    have h1 := new_any 2 w
    have h2 : newM 2 = ((2, 1, false, 2, false, 0), 0) := by decide +kernel
    rw [h2] at h1
    exact h1
  have hd1 : ∀ w, Meets w → Calls Tryd.prog 17 #[.agg #[.int .i64 2, .int .i64 1, .bool false, .int .i64 2, .bool false, .int .i64 0], .int .i64 0, .int .i64 10] w fun e w' => e = .returned (.tuple #[.agg #[.int .i64 2, .int .i64 1, .bool true, .int .i64 6, .bool false, .int .i64 0], .int .i64 0]) ∧ Below w.heap.size w w' := fun w h => by
    have h1 := do_any 2 1 false 2 false 0 0 10 w h
    have h2 : doM (2, 1, false, 2, false, 0) 0 10 = ((2, 1, true, 6, false, 0), 0) := by decide +kernel
    rw [h2] at h1
    exact h1
  have hd2 : ∀ w, Meets w → Calls Tryd.prog 17 #[.agg #[.int .i64 2, .int .i64 1, .bool true, .int .i64 6, .bool false, .int .i64 0], .int .i64 1, .int .i64 10] w fun e w' => e = .returned (.tuple #[.agg #[.int .i64 2, .int .i64 1, .bool false, .int .i64 2, .bool false, .int .i64 0], .int .i64 0]) ∧ Below w.heap.size w w' := fun w h => by
    have h1 := do_any 2 1 true 6 false 0 1 10 w h
    have h2 : doM (2, 1, true, 6, false, 0) 1 10 = ((2, 1, false, 2, false, 0), 0) := by decide +kernel
    rw [h2] at h1
    exact h1
  have hd3 : ∀ w, Meets w → Calls Tryd.prog 17 #[.agg #[.int .i64 2, .int .i64 1, .bool false, .int .i64 2, .bool false, .int .i64 0], .int .i64 1, .int .i64 1] w fun e w' => e = .returned (.tuple #[.agg #[.int .i64 0, .int .i64 0, .bool false, .int .i64 0, .bool false, .int .i64 0], .int .i64 7]) ∧ Below w.heap.size w w' := fun w h => by
    have h1 := do_any 2 1 false 2 false 0 1 1 w h
    have h2 : doM (2, 1, false, 2, false, 0) 1 1 = ((0, 0, false, 0, false, 0), 7) := by decide +kernel
    rw [h2] at h1
    exact h1
  have hr : ∀ w, Meets w → Calls Tryd.prog 15 #[.agg #[.int .i64 2, .int .i64 1, .bool false, .int .i64 2, .bool false, .int .i64 0]] w fun e w' => e = .returned (.bool true) ∧ Below w.heap.size w w' := fun w h => by
    have h1 := right_any 2 1 false 2 false 0 w h
    have h2 : rightM (2, 1, false, 2, false, 0) = true := by decide +kernel
    rw [h2] at h1
    exact h1
  have he := fun w => eqC 2 1 false 2 false 0 2 1 false 2 false 0 w
  have he2 : eqM 2 1 false 2 false 0 2 1 false 2 false 0 = true := by decide
  rw [he2] at he
  clear he2
  go_enter Tryd.func13, Tryd.ntmps13
  have hbw := Below.refl w.heap.size w
  go_wp2_with fail
  refine (hn _).mono ?_
  rintro e v1 ⟨rfl, hb⟩
  have hbw := bt hbw hb
  have hM := hM.bt hb
  clear hb
  have kc := Blk.new v1 26 #[.int .i64 2, .int .i64 1, .bool false, .int .i64 2, .bool false, .int .i64 0]
  have hbw := bt hbw (ba v1 (.cells #[.int .i64 2, .int .i64 1, .bool false, .int .i64 2, .bool false, .int .i64 0] 26))
  have hM := hM.bt (ba v1 (.cells #[.int .i64 2, .int .i64 1, .bool false, .int .i64 2, .bool false, .int .i64 0] 26))
  have cc0 := kc.cell 0
  have cc1 := kc.cell 1
  have cc2 := kc.cell 2
  have cc3 := kc.cell 3
  have cc4 := kc.cell 4
  have cc5 := kc.cell 5
  simp only [List.getElem?_toArray, List.getElem?_cons_zero, List.getElem?_cons_succ] at cc0 cc1 cc2 cc3 cc4 cc5
  go_wp2_with fail
  refine (hd1 _ hM).mono ?_
  rintro e v2 ⟨rfl, hb⟩
  have kc := kc.below hb kc.lt
  have hbw := bt hbw hb
  have hM := hM.bt hb
  clear hb
  clear cc0 cc1 cc2 cc3 cc4 cc5
  have kc := kc.alloc (.cells #[.int .i64 2, .int .i64 1, .bool true, .int .i64 6, .bool false, .int .i64 0] 26)
  have kd := Blk.new v2 26 #[.int .i64 2, .int .i64 1, .bool true, .int .i64 6, .bool false, .int .i64 0]
  have hbw := bt hbw (ba v2 (.cells #[.int .i64 2, .int .i64 1, .bool true, .int .i64 6, .bool false, .int .i64 0] 26))
  have hM := hM.bt (ba v2 (.cells #[.int .i64 2, .int .i64 1, .bool true, .int .i64 6, .bool false, .int .i64 0] 26))
  have cc0 := kc.cell 0
  have cc1 := kc.cell 1
  have cc2 := kc.cell 2
  have cc3 := kc.cell 3
  have cc4 := kc.cell 4
  have cc5 := kc.cell 5
  simp only [List.getElem?_toArray, List.getElem?_cons_zero, List.getElem?_cons_succ] at cc0 cc1 cc2 cc3 cc4 cc5
  have cd0 := kd.cell 0
  have cd1 := kd.cell 1
  have cd2 := kd.cell 2
  have cd3 := kd.cell 3
  have cd4 := kd.cell 4
  have cd5 := kd.cell 5
  simp only [List.getElem?_toArray, List.getElem?_cons_zero, List.getElem?_cons_succ] at cd0 cd1 cd2 cd3 cd4 cd5
  go_wp2_with fail
  refine (hd2 _ hM).mono ?_
  rintro e v3 ⟨rfl, hb⟩
  have kc := kc.below hb kc.lt
  have kd := kd.below hb kd.lt
  have hbw := bt hbw hb
  have hM := hM.bt hb
  clear hb
  clear cc0 cc1 cc2 cc3 cc4 cc5 cd0 cd1 cd2 cd3 cd4 cd5
  have kc := kc.alloc (.cells #[.int .i64 2, .int .i64 1, .bool false, .int .i64 2, .bool false, .int .i64 0] 26)
  have kd := kd.alloc (.cells #[.int .i64 2, .int .i64 1, .bool false, .int .i64 2, .bool false, .int .i64 0] 26)
  have kg := Blk.new v3 26 #[.int .i64 2, .int .i64 1, .bool false, .int .i64 2, .bool false, .int .i64 0]
  have hbw := bt hbw (ba v3 (.cells #[.int .i64 2, .int .i64 1, .bool false, .int .i64 2, .bool false, .int .i64 0] 26))
  have hM := hM.bt (ba v3 (.cells #[.int .i64 2, .int .i64 1, .bool false, .int .i64 2, .bool false, .int .i64 0] 26))
  have cc0 := kc.cell 0
  have cc1 := kc.cell 1
  have cc2 := kc.cell 2
  have cc3 := kc.cell 3
  have cc4 := kc.cell 4
  have cc5 := kc.cell 5
  simp only [List.getElem?_toArray, List.getElem?_cons_zero, List.getElem?_cons_succ] at cc0 cc1 cc2 cc3 cc4 cc5
  have cd0 := kd.cell 0
  have cd1 := kd.cell 1
  have cd2 := kd.cell 2
  have cd3 := kd.cell 3
  have cd4 := kd.cell 4
  have cd5 := kd.cell 5
  simp only [List.getElem?_toArray, List.getElem?_cons_zero, List.getElem?_cons_succ] at cd0 cd1 cd2 cd3 cd4 cd5
  have cg0 := kg.cell 0
  have cg1 := kg.cell 1
  have cg2 := kg.cell 2
  have cg3 := kg.cell 3
  have cg4 := kg.cell 4
  have cg5 := kg.cell 5
  simp only [List.getElem?_toArray, List.getElem?_cons_zero, List.getElem?_cons_succ] at cg0 cg1 cg2 cg3 cg4 cg5
  go_wp2_with fail
  refine (hd3 _ hM).mono ?_
  rintro e v4 ⟨rfl, hb⟩
  have kc := kc.below hb kc.lt
  have kd := kd.below hb kd.lt
  have kg := kg.below hb kg.lt
  have hbw := bt hbw hb
  have hM := hM.bt hb
  clear hb
  clear cc0 cc1 cc2 cc3 cc4 cc5 cd0 cd1 cd2 cd3 cd4 cd5 cg0 cg1 cg2 cg3 cg4 cg5
  have kc := kc.alloc (.cells #[.int .i64 0, .int .i64 0, .bool false, .int .i64 0, .bool false, .int .i64 0] 26)
  have kd := kd.alloc (.cells #[.int .i64 0, .int .i64 0, .bool false, .int .i64 0, .bool false, .int .i64 0] 26)
  have kg := kg.alloc (.cells #[.int .i64 0, .int .i64 0, .bool false, .int .i64 0, .bool false, .int .i64 0] 26)
  have ki := Blk.new v4 26 #[.int .i64 0, .int .i64 0, .bool false, .int .i64 0, .bool false, .int .i64 0]
  have hbw := bt hbw (ba v4 (.cells #[.int .i64 0, .int .i64 0, .bool false, .int .i64 0, .bool false, .int .i64 0] 26))
  have hM := hM.bt (ba v4 (.cells #[.int .i64 0, .int .i64 0, .bool false, .int .i64 0, .bool false, .int .i64 0] 26))
  have cc0 := kc.cell 0
  have cc1 := kc.cell 1
  have cc2 := kc.cell 2
  have cc3 := kc.cell 3
  have cc4 := kc.cell 4
  have cc5 := kc.cell 5
  simp only [List.getElem?_toArray, List.getElem?_cons_zero, List.getElem?_cons_succ] at cc0 cc1 cc2 cc3 cc4 cc5
  have cd0 := kd.cell 0
  have cd1 := kd.cell 1
  have cd2 := kd.cell 2
  have cd3 := kd.cell 3
  have cd4 := kd.cell 4
  have cd5 := kd.cell 5
  simp only [List.getElem?_toArray, List.getElem?_cons_zero, List.getElem?_cons_succ] at cd0 cd1 cd2 cd3 cd4 cd5
  have cg0 := kg.cell 0
  have cg1 := kg.cell 1
  have cg2 := kg.cell 2
  have cg3 := kg.cell 3
  have cg4 := kg.cell 4
  have cg5 := kg.cell 5
  simp only [List.getElem?_toArray, List.getElem?_cons_zero, List.getElem?_cons_succ] at cg0 cg1 cg2 cg3 cg4 cg5
  have ci0 := ki.cell 0
  have ci1 := ki.cell 1
  have ci2 := ki.cell 2
  have ci3 := ki.cell 3
  have ci4 := ki.cell 4
  have ci5 := ki.cell 5
  simp only [List.getElem?_toArray, List.getElem?_cons_zero, List.getElem?_cons_succ] at ci0 ci1 ci2 ci3 ci4 ci5
  go_wp2_with fail
  refine (hr _ hM).mono ?_
  rintro e v5 ⟨rfl, hb⟩
  have kc := kc.below hb kc.lt
  have kd := kd.below hb kd.lt
  have kg := kg.below hb kg.lt
  have ki := ki.below hb ki.lt
  have hbw := bt hbw hb
  have hM := hM.bt hb
  clear hb
  clear cc0 cc1 cc2 cc3 cc4 cc5 cd0 cd1 cd2 cd3 cd4 cd5 cg0 cg1 cg2 cg3 cg4 cg5 ci0 ci1 ci2 ci3 ci4 ci5
  go_wp2
  go_ret
  exact ⟨rfl, hbw⟩

end Go.Proofs.YtfhfbekphmnbgaaDoor
