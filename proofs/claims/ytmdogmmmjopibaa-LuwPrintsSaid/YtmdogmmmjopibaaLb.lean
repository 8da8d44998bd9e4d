/- The next name: both programs' Next. -/
import Derived.Test.YtmdogmmmjopibaaLa
import Derived.Test.YtmdogmmmjopibaaBlk
namespace Go.Proofs.Ytmdogmmmjopibaa
open Go.RowKit
set_option linter.unusedVariables false
set_option linter.unusedSimpArgs false

def nextL (u : Int) (a q : Nat) : (Int × Nat × Nat) × Int := if okL u q = true then (if q = 4294967295 then ((0, 0, 0), 5) else ((u, a, q + 1), 0)) else ((0, 0, 0), 50)
def lvE (r : (Int × Nat × Nat) × Int) : Ending := .returned (.tuple #[lv r.1.1 r.1.2.1 r.1.2.2, .int .i64 r.2])
theorem ba2 (w : World) (o o' : Obj) : Below w.heap.size w ((w.alloc o).alloc o') := bt (ba _ _) (ba _ _)

set_option maxHeartbeats 1000000 in
theorem next_any (u : Int) (a q : Nat) (w : World) (hq : q < 4294967296) : Calls Try.prog 20 #[lv u a q] w fun e w' => e = lvE (nextL u a q) ∧ Below w.heap.size w w' := by
  have hr := fun w => right_any u a q w
  unfold lv at hr ⊢
  rcases hk : okL u q with _ | _
  · rw [hk] at hr
    rw [show nextL u a q = ((0, 0, 0), 50) by unfold nextL; rw [hk]; rfl]
    clear hk
    go_enter Try.func20, Try.ntmps20
    go_wp2_with fail
    refine (hr _).mono ?_
    rintro e w1 ⟨rfl, hb1⟩
    have k0 : Blk w1 w.heap.size 24 #[.int .i64 u, .int .u32 a, .int .u32 q] := by
      have := ((Blk.new w 24 #[.int .i64 u, .int .u32 a, .int .u32 q]).alloc (.cells #[.int .i64 0, .int .u32 0, .int .u32 0] 24)).below hb1 (by simp; omega)
      simpa using this
    have k1 : Blk w1 (w.heap.size + 1) 24 #[.int .i64 0, .int .u32 0, .int .u32 0] := by
      have := (Blk.new (w.alloc (.cells #[.int .i64 u, .int .u32 (a : Int), .int .u32 (q : Int)] 24)) 24 #[.int .i64 0, .int .u32 0, .int .u32 0]).below hb1 (by simp)
      simpa using this
    have hbw := bt (ba2 w _ _) hb1
    have c0 := k0.cell 0
    have c1 := k0.cell 1
    have c2 := k0.cell 2
    have d0 := k1.cell 0
    have d1 := k1.cell 1
    have d2 := k1.cell 2
    have f0 := k1.frozen 0
    have f1 := k1.frozen 1
    have f2 := k1.frozen 2
    have f3 := k0.frozen 2
    have e0 := k1.set3_0 (x := .int .i64 0)
    have e1 := k1.set3_1 (x := .int .i64 0) (y := .int .u32 0)
    have e2 := k1.set3_2 (x := .int .i64 0) (y := .int .u32 0) (z := .int .u32 0)
    have hbf := below_set3 hbw (g := w.heap.size + 1) (by omega) (.int .i64 0) (.int .u32 0) (.int .u32 0)
    clear hbw hb1 k0 k1
    simp at c0 c1 c2 d0 d1 d2
    go_wp2
    refine bodyPost_ret (by simp [results, Try.results20, go_sem, e0, e1, e2]; try rfl) rfl ?_
    exact ⟨rfl, hbf⟩
  · rw [hk] at hr
    by_cases hm : q = 4294967295
    · have hne : ((q : Int) == 4294967295) = true := by subst hm; rfl
      rw [show nextL u a q = ((0, 0, 0), 5) by unfold nextL; rw [if_pos hk, if_pos hm]]
      clear hk hm
      go_enter Try.func20, Try.ntmps20
      go_wp2_with fail
      refine (hr _).mono ?_
      rintro e w1 ⟨rfl, hb1⟩
      have k0 : Blk w1 w.heap.size 24 #[.int .i64 u, .int .u32 a, .int .u32 q] := by
        have := ((Blk.new w 24 #[.int .i64 u, .int .u32 a, .int .u32 q]).alloc (.cells #[.int .i64 0, .int .u32 0, .int .u32 0] 24)).below hb1 (by simp; omega)
        simpa using this
      have k1 : Blk w1 (w.heap.size + 1) 24 #[.int .i64 0, .int .u32 0, .int .u32 0] := by
        have := (Blk.new (w.alloc (.cells #[.int .i64 u, .int .u32 (a : Int), .int .u32 (q : Int)] 24)) 24 #[.int .i64 0, .int .u32 0, .int .u32 0]).below hb1 (by simp)
        simpa using this
      have hbw := bt (ba2 w _ _) hb1
      have c0 := k0.cell 0
      have c1 := k0.cell 1
      have c2 := k0.cell 2
      have d0 := k1.cell 0
      have d1 := k1.cell 1
      have d2 := k1.cell 2
      have f0 := k1.frozen 0
      have f1 := k1.frozen 1
      have f2 := k1.frozen 2
      have f3 := k0.frozen 2
      have e0 := k1.set3_0 (x := .int .i64 0)
      have e1 := k1.set3_1 (x := .int .i64 0) (y := .int .u32 0)
      have e2 := k1.set3_2 (x := .int .i64 0) (y := .int .u32 0) (z := .int .u32 0)
      have hbf := below_set3 hbw (g := w.heap.size + 1) (by omega) (.int .i64 0) (.int .u32 0) (.int .u32 0)
      clear hbw hb1 k0 k1
      simp at c0 c1 c2 d0 d1 d2
      go_wp2
      refine bodyPost_ret (by simp [results, Try.results20, go_sem, e0, e1, e2]; try rfl) rfl ?_
      exact ⟨rfl, hbf⟩
    · have hne : ((q : Int) == 4294967295) = false := beq_eq_false_iff_ne.2 (by omega)
      have hm1 : ((q : Int) + 1) % 4294967296 = (q : Int) + 1 := by omega
      rw [show nextL u a q = ((u, a, q + 1), 0) by unfold nextL; rw [if_pos hk, if_neg hm]]
      clear hk hm
      go_enter Try.func20, Try.ntmps20
      go_wp2_with fail
      refine (hr _).mono ?_
      rintro e w1 ⟨rfl, hb1⟩
      have k0 : Blk w1 w.heap.size 24 #[.int .i64 u, .int .u32 a, .int .u32 q] := by
        have := ((Blk.new w 24 #[.int .i64 u, .int .u32 a, .int .u32 q]).alloc (.cells #[.int .i64 0, .int .u32 0, .int .u32 0] 24)).below hb1 (by simp; omega)
        simpa using this
      have k1 : Blk w1 (w.heap.size + 1) 24 #[.int .i64 0, .int .u32 0, .int .u32 0] := by
        have := (Blk.new (w.alloc (.cells #[.int .i64 u, .int .u32 (a : Int), .int .u32 (q : Int)] 24)) 24 #[.int .i64 0, .int .u32 0, .int .u32 0]).below hb1 (by simp)
        simpa using this
      have hbw := bt (ba2 w _ _) hb1
      have k2 := k1.far (p := ⟨w.heap.size, 2, none⟩) (by simp) (.int .u32 ((q : Int) + 1))
      have hbw := hbw.setCell (p := ⟨w.heap.size, 2, none⟩) (by simp) (.int .u32 ((q : Int) + 1))
      have c0 := k0.cell 0
      have c1 := k0.cell 1
      have c2 := k0.cell 2
      have d0 := k1.cell 0
      have d1 := k1.cell 1
      have d2 := k1.cell 2
      have f0 := k1.frozen 0
      have f1 := k1.frozen 1
      have f2 := k1.frozen 2
      have f3 := k0.frozen 2
      have e0 := k2.set3_0 (x := .int .i64 u)
      have e1 := k2.set3_1 (x := .int .i64 u) (y := .int .u32 a)
      have e2 := k2.set3_2 (x := .int .i64 u) (y := .int .u32 a) (z := .int .u32 ((q : Int) + 1))
      have hbf := below_set3 hbw (g := w.heap.size + 1) (by omega) (.int .i64 u) (.int .u32 a) (.int .u32 ((q : Int) + 1))
      clear hbw hb1 k0 k1 k2
      simp at c0 c1 c2 d0 d1 d2
      go_wp2
      refine bodyPost_ret (by simp [results, Try.results20, go_sem, e0, e1, e2]; try rfl) rfl ?_
      exact ⟨rfl, hbf⟩
set_option maxHeartbeats 1000000 in
theorem refnext_any (u : Int) (a q : Nat) (w : World) (hq : q < 4294967296) : Calls Try.prog 21 #[lv u a q] w fun e w' => e = lvE (nextL u a q) ∧ Below w.heap.size w w' := by
  have hr := fun w => refright_any u a q w
  unfold lv at hr ⊢
  rcases hk : okL u q with _ | _
  · rw [hk] at hr
    rw [show nextL u a q = ((0, 0, 0), 50) by unfold nextL; rw [hk]; rfl]
    clear hk
    go_enter Try.func21, Try.ntmps21
    go_wp2_with fail
    refine (hr _).mono ?_
    rintro e w1 ⟨rfl, hb1⟩
    have k0 : Blk w1 w.heap.size 24 #[.int .i64 u, .int .u32 a, .int .u32 q] := by
      have := ((Blk.new w 24 #[.int .i64 u, .int .u32 a, .int .u32 q]).alloc (.cells #[.int .i64 0, .int .u32 0, .int .u32 0] 24)).below hb1 (by simp; omega)
      simpa using this
    have k1 : Blk w1 (w.heap.size + 1) 24 #[.int .i64 0, .int .u32 0, .int .u32 0] := by
      have := (Blk.new (w.alloc (.cells #[.int .i64 u, .int .u32 (a : Int), .int .u32 (q : Int)] 24)) 24 #[.int .i64 0, .int .u32 0, .int .u32 0]).below hb1 (by simp)
      simpa using this
    have hbw := bt (ba2 w _ _) hb1
    have c0 := k0.cell 0
    have c1 := k0.cell 1
    have c2 := k0.cell 2
    have d0 := k1.cell 0
    have d1 := k1.cell 1
    have d2 := k1.cell 2
    have f0 := k1.frozen 0
    have f1 := k1.frozen 1
    have f2 := k1.frozen 2
    have f3 := k0.frozen 2
    have e0 := k1.set3_0 (x := .int .i64 0)
    have e1 := k1.set3_1 (x := .int .i64 0) (y := .int .u32 0)
    have e2 := k1.set3_2 (x := .int .i64 0) (y := .int .u32 0) (z := .int .u32 0)
    have hbf := below_set3 hbw (g := w.heap.size + 1) (by omega) (.int .i64 0) (.int .u32 0) (.int .u32 0)
    clear hbw hb1 k0 k1
    simp at c0 c1 c2 d0 d1 d2
    go_wp2
    refine bodyPost_ret (by simp [results, Try.results21, go_sem, e0, e1, e2]; try rfl) rfl ?_
    exact ⟨rfl, hbf⟩
  · rw [hk] at hr
    by_cases hm : q = 4294967295
    · have hne : ((q : Int) == 4294967295) = true := by subst hm; rfl
      rw [show nextL u a q = ((0, 0, 0), 5) by unfold nextL; rw [if_pos hk, if_pos hm]]
      clear hk hm
      go_enter Try.func21, Try.ntmps21
      go_wp2_with fail
      refine (hr _).mono ?_
      rintro e w1 ⟨rfl, hb1⟩
      have k0 : Blk w1 w.heap.size 24 #[.int .i64 u, .int .u32 a, .int .u32 q] := by
        have := ((Blk.new w 24 #[.int .i64 u, .int .u32 a, .int .u32 q]).alloc (.cells #[.int .i64 0, .int .u32 0, .int .u32 0] 24)).below hb1 (by simp; omega)
        simpa using this
      have k1 : Blk w1 (w.heap.size + 1) 24 #[.int .i64 0, .int .u32 0, .int .u32 0] := by
        have := (Blk.new (w.alloc (.cells #[.int .i64 u, .int .u32 (a : Int), .int .u32 (q : Int)] 24)) 24 #[.int .i64 0, .int .u32 0, .int .u32 0]).below hb1 (by simp)
        simpa using this
      have hbw := bt (ba2 w _ _) hb1
      have c0 := k0.cell 0
      have c1 := k0.cell 1
      have c2 := k0.cell 2
      have d0 := k1.cell 0
      have d1 := k1.cell 1
      have d2 := k1.cell 2
      have f0 := k1.frozen 0
      have f1 := k1.frozen 1
      have f2 := k1.frozen 2
      have f3 := k0.frozen 2
      have e0 := k1.set3_0 (x := .int .i64 0)
      have e1 := k1.set3_1 (x := .int .i64 0) (y := .int .u32 0)
      have e2 := k1.set3_2 (x := .int .i64 0) (y := .int .u32 0) (z := .int .u32 0)
      have hbf := below_set3 hbw (g := w.heap.size + 1) (by omega) (.int .i64 0) (.int .u32 0) (.int .u32 0)
      clear hbw hb1 k0 k1
      simp at c0 c1 c2 d0 d1 d2
      go_wp2
      refine bodyPost_ret (by simp [results, Try.results21, go_sem, e0, e1, e2]; try rfl) rfl ?_
      exact ⟨rfl, hbf⟩
    · have hne : ((q : Int) == 4294967295) = false := beq_eq_false_iff_ne.2 (by omega)
      have hm1 : ((q : Int) + 1) % 4294967296 = (q : Int) + 1 := by omega
      rw [show nextL u a q = ((u, a, q + 1), 0) by unfold nextL; rw [if_pos hk, if_neg hm]]
      clear hk hm
      go_enter Try.func21, Try.ntmps21
      go_wp2_with fail
      refine (hr _).mono ?_
      rintro e w1 ⟨rfl, hb1⟩
      have k0 : Blk w1 w.heap.size 24 #[.int .i64 u, .int .u32 a, .int .u32 q] := by
        have := ((Blk.new w 24 #[.int .i64 u, .int .u32 a, .int .u32 q]).alloc (.cells #[.int .i64 0, .int .u32 0, .int .u32 0] 24)).below hb1 (by simp; omega)
        simpa using this
      have k1 : Blk w1 (w.heap.size + 1) 24 #[.int .i64 0, .int .u32 0, .int .u32 0] := by
        have := (Blk.new (w.alloc (.cells #[.int .i64 u, .int .u32 (a : Int), .int .u32 (q : Int)] 24)) 24 #[.int .i64 0, .int .u32 0, .int .u32 0]).below hb1 (by simp)
        simpa using this
      have hbw := bt (ba2 w _ _) hb1
      have c0 := k0.cell 0
      have c1 := k0.cell 1
      have c2 := k0.cell 2
      have d0 := k1.cell 0
      have d1 := k1.cell 1
      have d2 := k1.cell 2
      have f0 := k1.frozen 0
      have f1 := k1.frozen 1
      have f2 := k1.frozen 2
      have f3 := k0.frozen 2
      have e0 := k1.set3_0 (x := .int .i64 u)
      have e1 := k1.set3_1 (x := .int .i64 u) (y := .int .u32 a)
      have e2 := k1.set3_2 (x := .int .i64 u) (y := .int .u32 a) (z := .int .u32 ((q : Int) + 1))
      have hbf := below_set3 hbw (g := w.heap.size + 1) (by omega) (.int .i64 u) (.int .u32 a) (.int .u32 ((q : Int) + 1))
      clear hbw hb1 k0 k1
      simp at c0 c1 c2 d0 d1 d2
      go_wp2
      refine bodyPost_ret (by simp [results, Try.results21, go_sem, e0, e1, e2]; try rfl) rfl ?_
      exact ⟨rfl, hbf⟩
end Go.Proofs.Ytmdogmmmjopibaa
