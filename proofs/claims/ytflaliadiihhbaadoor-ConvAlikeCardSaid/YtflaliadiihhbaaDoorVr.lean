/- Layer 10: the two sides are alike (P10.6). -/
import Derived.Test.YtflaliadiihhbaaDoorVm
namespace Go.Proofs.YtflaliadiihhbaaDoor
open Go.RowKit
set_option linter.unusedVariables false
set_option linter.unusedSimpArgs false

def turnM (c : Int × Int × Bool × Int × Bool × Int) : Int × Int × Bool × Int × Bool × Int := match c with | (l, s0, w0, s1, w1, t) => (l, s1, w1, s0, w0, 1 - t)
set_option maxHeartbeats 800000 in
theorem turned_any (l s0 : Int) (w0 : Bool) (s1 : Int) (w1 : Bool) (t : Int) (w : World) (ht : t = 0 ∨ t = 1) : Calls Tryd.prog 19 #[.agg #[.int .i64 l, .int .i64 s0, .bool w0, .int .i64 s1, .bool w1, .int .i64 t]] w fun e w' => e = .returned (.agg #[.int .i64 l, .int .i64 s1, .bool w1, .int .i64 s0, .bool w0, .int .i64 (1 - t)]) ∧ Below w.heap.size w w' := by
  have hw : wrap64 (1 - t) = 1 - t := by rcases ht with rfl | rfl <;> (simp [wrap64]; try rfl)
  have HW := Lib.hid hw
  clear ht hw
  go_enter Tryd.func19, Tryd.ntmps19
  go_wp2
  go_returns
  exact ⟨by rw [HW.out], bt (ba _ _) (ba _ _)⟩
theorem rightM_turn {l s0 : Int} {w0 : Bool} {s1 : Int} {w1 : Bool} {t : Int} (ht : t = 0 ∨ t = 1) : rightM (turnM (l, s0, w0, s1, w1, t)) = rightM (l, s0, w0, s1, w1, t) := by
  have h1 : rightM (turnM (l, s0, w0, s1, w1, t)) = (lvM l && (sdM (1 - t) && (meetM (l, s1, w1, s0, w0, 1 - t) false || meetM (l, s1, w1, s0, w0, 1 - t) true))) := rfl
  have h2 : rightM (l, s0, w0, s1, w1, t) = (lvM l && (sdM t && (meetM (l, s0, w0, s1, w1, t) false || meetM (l, s0, w0, s1, w1, t) true))) := rfl
  have e1 : meetM (l, s1, w1, s0, w0, 1 - t) false = meetM (l, s0, w0, s1, w1, t) true := by rcases ht with rfl | rfl <;> rfl
  have e2 : meetM (l, s1, w1, s0, w0, 1 - t) true = meetM (l, s0, w0, s1, w1, t) false := by rcases ht with rfl | rfl <;> rfl
  have e3 : sdM (1 - t) = sdM t := by rcases ht with rfl | rfl <;> rfl
  rw [h1, h2, e1, e2, e3, Bool.or_comm]
def QA (c : Int × Int × Bool × Int × Bool × Int) (s v : Int) : Bool := !rightM c || ((doM (turnM c) (1 - s) v).2 == (doM c s v).2 && ((doM c s v).2 != 0 || ((doM (turnM c) (1 - s) v).1 == turnM (doM c s v).1 && rightM (doM c s v).1)))
theorem QA_all : (allC.all fun c => [0, 1].all fun s => [1, 2, 3, 4, 5, 6, 7, 8, 9, 10, 11, 12, 13].all fun v => QA c s v) = true := by decide +kernel
theorem doM_turn {l s0 : Int} {w0 : Bool} {s1 : Int} {w1 : Bool} {t s v : Int} (ht : t = 0 ∨ t = 1) (hs : s = 0 ∨ s = 1) :
    (doM (turnM (l, s0, w0, s1, w1, t)) (1 - s) v).2 = (doM (l, s0, w0, s1, w1, t) s v).2 ∧ ((doM (l, s0, w0, s1, w1, t) s v).2 = 0 → (doM (turnM (l, s0, w0, s1, w1, t)) (1 - s) v).1 = turnM (doM (l, s0, w0, s1, w1, t) s v).1 ∧ rightM (doM (l, s0, w0, s1, w1, t) s v).1 = true) := by
  have hsd : sdM s = true := by rcases hs with rfl | rfl <;> rfl
  have hsd' : sdM (1 - s) = true := by rcases hs with rfl | rfl <;> rfl
  rcases hR : rightM (l, s0, w0, s1, w1, t) with _ | _
  · have h1 : doM (l, s0, w0, s1, w1, t) s v = (zeroC, 1) := if_neg (by rw [hR]; simp)
    have h2 : doM (turnM (l, s0, w0, s1, w1, t)) (1 - s) v = (zeroC, 1) := if_neg (by rw [rightM_turn ht, hR]; simp)
    rw [h1, h2]
    exact ⟨rfl, fun h => absurd h (by decide)⟩
  · by_cases hv : 1 ≤ v ∧ v ≤ 13
    · have hQ := all_cases QA QA_all hR hsd hv
      unfold QA at hQ
      rw [hR] at hQ
      simp only [Bool.not_true, Bool.false_or, Bool.and_eq_true, Bool.or_eq_true, beq_iff_eq, bne_iff_ne] at hQ
      exact ⟨hQ.1, fun h => hQ.2.resolve_left (fun h' => h' h)⟩
    · have h1 : doM (l, s0, w0, s1, w1, t) s v = (zeroC, 100) := by
        unfold doM
        rw [if_pos (by rw [hR, hsd]; rfl), if_neg hv]
      have h2 : doM (turnM (l, s0, w0, s1, w1, t)) (1 - s) v = (zeroC, 100) := by
        unfold doM
        rw [if_pos (by rw [rightM_turn ht, hR, hsd']; rfl), if_neg hv]
      rw [h1, h2]
      exact ⟨rfl, fun h => absurd h (by decide)⟩

def VAl (D F B T : Value) (i : Nat) (v : Value) (w : World) : Prop :=
  match i with
  | 0 => v = .bool true
  | 1 => v = .bool true
  | 2 => v = .int .i64 0
  | 3 => v = .bool true
  | 4 => v = .bool true
  | 5 => v = .bool true
  | 6 => v = F
  | 7 => v = D
  | 8 => v = F
  | 9 => v = .bool true
  | 10 => v = .bool true
  | 11 => v = .bool true
  | 12 => v = B
  | 13 => v = T
  | 14 => v = .bool true
  | 15 => v = .bool true
  | 16 => v = .bool true
  | _ => True

set_option maxRecDepth 100000 in
set_option maxHeartbeats 8000000 in
theorem convAlike_0 (l s0 : Int) (w0 : Bool) (s1 : Int) (w1 : Bool) (t verb : Int) (w : World) (hM : Meets w) (ht : t = 0 ∨ t = 1) : Calls Tryd.prog 9 #[cv (l, s0, w0, s1, w1, t), .int .i64 0, .int .i64 verb] w fun e w' => e = .returned (.bool true) ∧ Below w.heap.size w w' := by
  have ha := fun w h => alive_any w h
  have ht1 := fun w => turned_any l s0 w0 s1 w1 t w ht
  have hd1 := fun w h => do_any l s0 w0 s1 w1 t 0 verb w h
  have hd2 := fun w h => do_any l s1 w1 s0 w0 (1 - t) 1 verb w h
  obtain ⟨q1, q2⟩ := doM_turn (l := l) (s0 := s0) (w0 := w0) (s1 := s1) (w1 := w1) (s := 0) (v := verb) ht (by decide)
  have g0 : decide (t < 0) = false := decide_eq_false (by omega)
  have g1 : decide (t > 1) = false := decide_eq_false (by omega)
  have g2 : decide (1 < t) = false := g1
  have hz : doM (l, s1, w1, s0, w0, 1 - t) 1 verb = doM (turnM (l, s0, w0, s1, w1, t)) (1 - 0) verb := rfl
  rw [hz] at hd2
  obtain ⟨⟨y0, y1, y2, y3, y4, y5⟩, E, hy⟩ : ∃ d E, doM (l, s0, w0, s1, w1, t) 0 verb = (d, E) := ⟨_, _, rfl⟩
  obtain ⟨⟨z0, z1, z2, z3, z4, z5⟩, G, hzz⟩ : ∃ d E, doM (turnM (l, s0, w0, s1, w1, t)) (1 - 0) verb = (d, E) := ⟨_, _, rfl⟩
  rw [hzz] at hd2 q1 q2
  rw [hy] at hd1 q1 q2
  simp only [] at q1 q2
  subst q1
  have hrt0 : rightM (l, s1, w1, s0, w0, 1 - t) = rightM (l, s0, w0, s1, w1, t) := rightM_turn ht
  have hrt := fun w h => right_any l s1 w1 s0 w0 (1 - t) w h
  by_cases hE : G = 0
  · obtain ⟨q3, q4⟩ := q2 hE
    subst hE
    obtain ⟨hrc, _, _⟩ := doM_ok (c := (l, s0, w0, s1, w1, t)) (s := 0) (v := verb) (by rw [hy])
    rw [hrt0, hrc] at hrt
    have hy5 : y5 = 0 ∨ y5 = 1 := by
      have hT : sdM y5 = true := by
        revert q4
        show (lvM y0 && (sdM y5 && _)) = true → _
        cases lvM y0 <;> cases sdM y5 <;> simp
      simpa [sdM] using hT
    have ht2 := fun w => turned_any y0 y1 y2 y3 y4 y5 w hy5
    unfold turnM at q3
    simp only [Prod.mk.injEq] at q3
    obtain ⟨rfl, rfl, rfl, rfl, rfl, rfl⟩ := q3
    have hee := eqC z0 z1 z2 z3 z4 (1 - y5) z0 z1 z2 z3 z4 (1 - y5)
    rw [show eqM z0 z1 z2 z3 z4 (1 - y5) z0 z1 z2 z3 z4 (1 - y5) = true by simp [eqM]] at hee
    clear q2 q4 hy hzz hz hrt0 hrc ht hy5
    simp only [cv] at *
    generalize 1 - y5 = yy at *
    generalize 1 - t = tt at *
    go_enter Tryd.func9, Tryd.ntmps9
    have hbw := Below.refl w.heap.size w
    have kb := Blk.new w 26 #[.int .i64 l, .int .i64 s0, .bool w0, .int .i64 s1, .bool w1, .int .i64 t]
    have hbw := bt hbw (ba w (.cells #[.int .i64 l, .int .i64 s0, .bool w0, .int .i64 s1, .bool w1, .int .i64 t] 26))
    have hM := hM.bt (ba w (.cells #[.int .i64 l, .int .i64 s0, .bool w0, .int .i64 s1, .bool w1, .int .i64 t] 26))
    have cb0 := kb.cell 0
    have cb1 := kb.cell 1
    have cb2 := kb.cell 2
    have cb3 := kb.cell 3
    have cb4 := kb.cell 4
    have cb5 := kb.cell 5
    simp only [List.getElem?_toArray, List.getElem?_cons_zero, List.getElem?_cons_succ] at cb0 cb1 cb2 cb3 cb4 cb5
    go_wp2_with fail
    refine (hd1 _ hM).mono ?_
    rintro e v1 ⟨rfl, hb⟩
    have kb := kb.below hb kb.lt
    have hbw := bt hbw hb
    have hM := hM.bt hb
    clear hb
    clear cb0 cb1 cb2 cb3 cb4 cb5
    have kb := kb.alloc (.cells #[.int .i64 z0, .int .i64 z3, .bool z4, .int .i64 z1, .bool z2, .int .i64 y5] 26)
    have kd := Blk.new v1 26 #[.int .i64 z0, .int .i64 z3, .bool z4, .int .i64 z1, .bool z2, .int .i64 y5]
    have hbw := bt hbw (ba v1 (.cells #[.int .i64 z0, .int .i64 z3, .bool z4, .int .i64 z1, .bool z2, .int .i64 y5] 26))
    have hM := hM.bt (ba v1 (.cells #[.int .i64 z0, .int .i64 z3, .bool z4, .int .i64 z1, .bool z2, .int .i64 y5] 26))
    have cb0 := kb.cell 0
    have cb1 := kb.cell 1
    have cb2 := kb.cell 2
    have cb3 := kb.cell 3
    have cb4 := kb.cell 4
    have cb5 := kb.cell 5
    simp only [List.getElem?_toArray, List.getElem?_cons_zero, List.getElem?_cons_succ] at cb0 cb1 cb2 cb3 cb4 cb5
    have cd0 := kd.cell 0
    have cd1 := kd.cell 1
    have cd2 := kd.cell 2
    have cd3 := kd.cell 3
    have cd4 := kd.cell 4
    have cd5 := kd.cell 5
    simp only [List.getElem?_toArray, List.getElem?_cons_zero, List.getElem?_cons_succ] at cd0 cd1 cd2 cd3 cd4 cd5
    go_wp2_with fail
    refine (ht1 _).mono ?_
    rintro e v2 ⟨rfl, hb⟩
    have kb := kb.below hb kb.lt
    have kd := kd.below hb kd.lt
    have hbw := bt hbw hb
    have hM := hM.bt hb
    clear hb
    clear cb0 cb1 cb2 cb3 cb4 cb5 cd0 cd1 cd2 cd3 cd4 cd5
    have cb0 := kb.cell 0
    have cb1 := kb.cell 1
    have cb2 := kb.cell 2
    have cb3 := kb.cell 3
    have cb4 := kb.cell 4
    have cb5 := kb.cell 5
    simp only [List.getElem?_toArray, List.getElem?_cons_zero, List.getElem?_cons_succ] at cb0 cb1 cb2 cb3 cb4 cb5
    have cd0 := kd.cell 0
    have cd1 := kd.cell 1
    have cd2 := kd.cell 2
    have cd3 := kd.cell 3
    have cd4 := kd.cell 4
    have cd5 := kd.cell 5
    simp only [List.getElem?_toArray, List.getElem?_cons_zero, List.getElem?_cons_succ] at cd0 cd1 cd2 cd3 cd4 cd5
    go_wp2_with fail
    refine (hd2 _ hM).mono ?_
    rintro e v3 ⟨rfl, hb⟩
    have kb := kb.below hb kb.lt
    have kd := kd.below hb kd.lt
    have hbw := bt hbw hb
    have hM := hM.bt hb
    clear hb
    clear cb0 cb1 cb2 cb3 cb4 cb5 cd0 cd1 cd2 cd3 cd4 cd5
    have kb := kb.alloc (.cells #[.int .i64 z0, .int .i64 z1, .bool z2, .int .i64 z3, .bool z4, .int .i64 yy] 26)
    have kd := kd.alloc (.cells #[.int .i64 z0, .int .i64 z1, .bool z2, .int .i64 z3, .bool z4, .int .i64 yy] 26)
    have kf := Blk.new v3 26 #[.int .i64 z0, .int .i64 z1, .bool z2, .int .i64 z3, .bool z4, .int .i64 yy]
    have hbw := bt hbw (ba v3 (.cells #[.int .i64 z0, .int .i64 z1, .bool z2, .int .i64 z3, .bool z4, .int .i64 yy] 26))
    have hM := hM.bt (ba v3 (.cells #[.int .i64 z0, .int .i64 z1, .bool z2, .int .i64 z3, .bool z4, .int .i64 yy] 26))
    have cb0 := kb.cell 0
    have cb1 := kb.cell 1
    have cb2 := kb.cell 2
    have cb3 := kb.cell 3
    have cb4 := kb.cell 4
    have cb5 := kb.cell 5
    simp only [List.getElem?_toArray, List.getElem?_cons_zero, List.getElem?_cons_succ] at cb0 cb1 cb2 cb3 cb4 cb5
    have cd0 := kd.cell 0
    have cd1 := kd.cell 1
    have cd2 := kd.cell 2
    have cd3 := kd.cell 3
    have cd4 := kd.cell 4
    have cd5 := kd.cell 5
    simp only [List.getElem?_toArray, List.getElem?_cons_zero, List.getElem?_cons_succ] at cd0 cd1 cd2 cd3 cd4 cd5
    have cf0 := kf.cell 0
    have cf1 := kf.cell 1
    have cf2 := kf.cell 2
    have cf3 := kf.cell 3
    have cf4 := kf.cell 4
    have cf5 := kf.cell 5
    simp only [List.getElem?_toArray, List.getElem?_cons_zero, List.getElem?_cons_succ] at cf0 cf1 cf2 cf3 cf4 cf5
    go_wp2_with fail
    clear cb0 cb1 cb2 cb3 cb4 cb5 cd0 cd1 cd2 cd3 cd4 cd5 cf0 cf1 cf2 cf3 cf4 cf5
    refine wp_region_invT (F := ?FA) (V := VAl (.agg #[.int .i64 z0, .int .i64 z3, .bool z4, .int .i64 z1, .bool z2, .int .i64 y5]) (.agg #[.int .i64 z0, .int .i64 z1, .bool z2, .int .i64 z3, .bool z4, .int .i64 yy]) (.agg #[.int .i64 l, .int .i64 s0, .bool w0, .int .i64 s1, .bool w1, .int .i64 t]) (.agg #[.int .i64 l, .int .i64 s1, .bool w1, .int .i64 s0, .bool w0, .int .i64 tt])) (dead := fun _ => none) (T := fun _ _ => True) (C := fun u' => ((Blk u' w.heap.size 26 #[.int .i64 l, .int .i64 s0, .bool w0, .int .i64 s1, .bool w1, .int .i64 t] ∧ (Blk u' v1.heap.size 26 #[.int .i64 z0, .int .i64 z3, .bool z4, .int .i64 z1, .bool z2, .int .i64 y5] ∧ Blk u' v3.heap.size 26 #[.int .i64 z0, .int .i64 z1, .bool z2, .int .i64 z3, .bool z4, .int .i64 yy])) ∧ Meets u') ∧ Below w.heap.size w u') (E := fun _ _ _ => True) (by kernel_rfl) (by kernel_rfl) (by kernel_rfl) (fun x => ?hFA) ?hmonoA ?hTmA ?hTA ?hCA ?stepA ?finA
    case hFA => simp only [mkA, Act.put, List.setIfInBounds_toArray, List.set_cons_succ, List.set_cons_zero, Nat.reduceAdd, Nat.zero_add]; first | with_reducible rfl | rfl
    case hmonoA => exact fun k i v u u' he hik hwt hdd hv => by unfold VAl at hv ⊢; split at hv <;> exact hv
    case hTmA => exact fun _ _ _ _ _ _ _ _ => trivial
    case hTA => exact fun j => trivial
    case hCA => exact ⟨⟨⟨kb, kd, kf⟩, hM.bt (below_drew _)⟩, bt hbw (below_drew _)⟩
    case stepA =>
      refine AllOps.cons (fun x u hC hT hp K hK => ?_) ?_
      · clear hp hT
        go_simp
        refine (ha u hC.1.2).mono ?_
        rintro e wA ⟨rfl, hbu⟩
        refine hK _ _ _ ⟨⟨⟨hC.1.1.1.below hbu hC.1.1.1.lt, hC.1.1.2.1.below hbu hC.1.1.2.1.lt, hC.1.1.2.2.below hbu hC.1.1.2.2.lt⟩, hC.1.2.bt hbu⟩, bt hC.2 hbu⟩ trivial (by exact rfl) ?_
        first | (simp only [Act.put, List.setIfInBounds_toArray, List.set_cons_succ, List.set_cons_zero]; done) | simp [Act.put]
      refine AllOps.cons (fun x u hC hT hp K hK => ?_) ?_
      · simp [KnownTill, Region.binds, VAl] at hp
        clear hT
        go_simp
        refine hK _ _ _ hC trivial (by exact rfl) ?_
        first | (simp only [Act.put, List.setIfInBounds_toArray, List.set_cons_succ, List.set_cons_zero, hp]; done) | simp [Act.put, hp]
      refine AllOps.cons (fun x u hC hT hp K hK => ?_) ?_
      · simp [KnownTill, Region.binds, VAl] at hp
        clear hT
        go_simp
        refine hK _ _ _ hC trivial (by exact rfl) ?_
        first | (simp only [Act.put, List.setIfInBounds_toArray, List.set_cons_succ, List.set_cons_zero, hp]; done) | simp [Act.put, hp]
      refine AllOps.cons (fun x u hC hT hp K hK => ?_) ?_
      · simp [KnownTill, Region.binds, VAl] at hp
        clear hT
        go_simp
        refine hK _ _ _ hC trivial (by exact rfl) ?_
        first | (simp only [Act.put, List.setIfInBounds_toArray, List.set_cons_succ, List.set_cons_zero, hp]; done) | simp [Act.put, hp]
      refine AllOps.cons (fun x u hC hT hp K hK => ?_) ?_
      · simp [KnownTill, Region.binds, VAl] at hp
        clear hT
        go_simp
        refine hK _ _ _ hC trivial (by exact rfl) ?_
        first | (simp only [Act.put, List.setIfInBounds_toArray, List.set_cons_succ, List.set_cons_zero, hp]; done) | simp [Act.put, hp]
      refine AllOps.cons (fun x u hC hT hp K hK => ?_) ?_
      · simp [KnownTill, Region.binds, VAl] at hp
        clear hT
        go_simp
        refine hK _ _ _ hC trivial (by exact rfl) ?_
        first | (simp only [Act.put, List.setIfInBounds_toArray, List.set_cons_succ, List.set_cons_zero, hp]; done) | simp [Act.put, hp]
      refine AllOps.cons (fun x u hC hT hp K hK => ?_) ?_
      · simp [KnownTill, Region.binds, VAl] at hp
        clear hT
        have ca0 := (hC.1.1.2.2).cell 0
        have ca1 := (hC.1.1.2.2).cell 1
        have ca2 := (hC.1.1.2.2).cell 2
        have ca3 := (hC.1.1.2.2).cell 3
        have ca4 := (hC.1.1.2.2).cell 4
        have ca5 := (hC.1.1.2.2).cell 5
        simp only [List.getElem?_toArray, List.getElem?_cons_zero, List.getElem?_cons_succ] at ca0 ca1 ca2 ca3 ca4 ca5
        go_simp
        refine hK _ _ _ hC trivial (by exact rfl) ?_
        first | (simp only [Act.put, List.setIfInBounds_toArray, List.set_cons_succ, List.set_cons_zero, hp]; done) | simp [Act.put, hp]
      refine AllOps.cons (fun x u hC hT hp K hK => ?_) ?_
      · simp [KnownTill, Region.binds, VAl] at hp
        clear hT
        have ca0 := (hC.1.1.2.1).cell 0
        have ca1 := (hC.1.1.2.1).cell 1
        have ca2 := (hC.1.1.2.1).cell 2
        have ca3 := (hC.1.1.2.1).cell 3
        have ca4 := (hC.1.1.2.1).cell 4
        have ca5 := (hC.1.1.2.1).cell 5
        simp only [List.getElem?_toArray, List.getElem?_cons_zero, List.getElem?_cons_succ] at ca0 ca1 ca2 ca3 ca4 ca5
        go_simp
        refine hK _ _ _ hC trivial (by exact rfl) ?_
        first | (simp only [Act.put, List.setIfInBounds_toArray, List.set_cons_succ, List.set_cons_zero, hp]; done) | simp [Act.put, hp]
      refine AllOps.cons (fun x u hC hT hp K hK => ?_) ?_
      · simp [KnownTill, Region.binds, VAl] at hp
        clear hT
        go_simp
        refine (ht2 u).mono ?_
        rintro e wA ⟨rfl, hbu⟩
        refine hK _ _ _ ⟨⟨⟨hC.1.1.1.below hbu hC.1.1.1.lt, hC.1.1.2.1.below hbu hC.1.1.2.1.lt, hC.1.1.2.2.below hbu hC.1.1.2.2.lt⟩, hC.1.2.bt hbu⟩, bt hC.2 hbu⟩ trivial (by exact rfl) ?_
        first | (simp only [Act.put, List.setIfInBounds_toArray, List.set_cons_succ, List.set_cons_zero, hp]; done) | simp [Act.put, hp]
      refine AllOps.cons (fun x u hC hT hp K hK => ?_) ?_
      · simp [KnownTill, Region.binds, VAl] at hp
        clear hT
        go_simp
        refine hK _ _ _ hC trivial (by exact rfl) ?_
        first | (simp only [Act.put, List.setIfInBounds_toArray, List.set_cons_succ, List.set_cons_zero, hp]; done) | simp [Act.put, hp]
      refine AllOps.cons (fun x u hC hT hp K hK => ?_) ?_
      · simp [KnownTill, Region.binds, VAl] at hp
        clear hT
        go_simp
        refine hK _ _ _ hC trivial (by exact rfl) ?_
        first | (simp only [Act.put, List.setIfInBounds_toArray, List.set_cons_succ, List.set_cons_zero, hp]; done) | simp [Act.put, hp]
      refine AllOps.cons (fun x u hC hT hp K hK => ?_) ?_
      · simp [KnownTill, Region.binds, VAl] at hp
        clear hT
        go_simp
        refine hK _ _ _ hC trivial (by exact rfl) ?_
        first | (simp only [Act.put, List.setIfInBounds_toArray, List.set_cons_succ, List.set_cons_zero, hp]; done) | simp [Act.put, hp]
      refine AllOps.cons (fun x u hC hT hp K hK => ?_) ?_
      · simp [KnownTill, Region.binds, VAl] at hp
        clear hT
        have ca0 := (hC.1.1.1).cell 0
        have ca1 := (hC.1.1.1).cell 1
        have ca2 := (hC.1.1.1).cell 2
        have ca3 := (hC.1.1.1).cell 3
        have ca4 := (hC.1.1.1).cell 4
        have ca5 := (hC.1.1.1).cell 5
        simp only [List.getElem?_toArray, List.getElem?_cons_zero, List.getElem?_cons_succ] at ca0 ca1 ca2 ca3 ca4 ca5
        go_simp
        refine hK _ _ _ hC trivial (by exact rfl) ?_
        first | (simp only [Act.put, List.setIfInBounds_toArray, List.set_cons_succ, List.set_cons_zero, hp]; done) | simp [Act.put, hp]
      refine AllOps.cons (fun x u hC hT hp K hK => ?_) ?_
      · simp [KnownTill, Region.binds, VAl] at hp
        clear hT
        go_simp
        refine (ht1 u).mono ?_
        rintro e wA ⟨rfl, hbu⟩
        refine hK _ _ _ ⟨⟨⟨hC.1.1.1.below hbu hC.1.1.1.lt, hC.1.1.2.1.below hbu hC.1.1.2.1.lt, hC.1.1.2.2.below hbu hC.1.1.2.2.lt⟩, hC.1.2.bt hbu⟩, bt hC.2 hbu⟩ trivial (by exact rfl) ?_
        first | (simp only [Act.put, List.setIfInBounds_toArray, List.set_cons_succ, List.set_cons_zero, hp]; done) | simp [Act.put, hp]
      refine AllOps.cons (fun x u hC hT hp K hK => ?_) ?_
      · simp [KnownTill, Region.binds, VAl] at hp
        clear hT
        go_simp
        refine (hrt u hC.1.2).mono ?_
        rintro e wA ⟨rfl, hbu⟩
        refine hK _ _ _ ⟨⟨⟨hC.1.1.1.below hbu hC.1.1.1.lt, hC.1.1.2.1.below hbu hC.1.1.2.1.lt, hC.1.1.2.2.below hbu hC.1.1.2.2.lt⟩, hC.1.2.bt hbu⟩, bt hC.2 hbu⟩ trivial (by exact rfl) ?_
        first | (simp only [Act.put, List.setIfInBounds_toArray, List.set_cons_succ, List.set_cons_zero, hp]; done) | simp [Act.put, hp]
      refine AllOps.cons (fun x u hC hT hp K hK => ?_) ?_
      · simp [KnownTill, Region.binds, VAl] at hp
        clear hT
        go_simp
        refine hK _ _ _ hC trivial (by exact rfl) ?_
        first | (simp only [Act.put, List.setIfInBounds_toArray, List.set_cons_succ, List.set_cons_zero, hp]; done) | simp [Act.put, hp]
      refine AllOps.cons (fun x u hC hT hp K hK => ?_) ?_
      · simp [KnownTill, Region.binds, VAl] at hp
        clear hT
        go_simp
        refine hK _ _ _ hC trivial (by exact rfl) ?_
        first | (simp only [Act.put, List.setIfInBounds_toArray, List.set_cons_succ, List.set_cons_zero, hp]; done) | simp [Act.put, hp]
      exact AllOps.nil
    case finA =>
      intro x u hC hV
      have hz : x 16 = .bool true := hV 16 (by decide) rfl
      rw [hz]
      have hbz := hC.2
      clear hV hC hz
      go_wp2
      go_ret
      exact ⟨rfl, hbz⟩
  · have f1 : (G != 0) = true := by simpa using hE
    clear q2 hE hy hzz hz hrt0 hrt ht
    simp only [cv] at *
    generalize 1 - t = tt at *
    go_enter Tryd.func9, Tryd.ntmps9
    have hbw := Below.refl w.heap.size w
    have kb := Blk.new w 26 #[.int .i64 l, .int .i64 s0, .bool w0, .int .i64 s1, .bool w1, .int .i64 t]
    have hbw := bt hbw (ba w (.cells #[.int .i64 l, .int .i64 s0, .bool w0, .int .i64 s1, .bool w1, .int .i64 t] 26))
    have hM := hM.bt (ba w (.cells #[.int .i64 l, .int .i64 s0, .bool w0, .int .i64 s1, .bool w1, .int .i64 t] 26))
    have cb0 := kb.cell 0
    have cb1 := kb.cell 1
    have cb2 := kb.cell 2
    have cb3 := kb.cell 3
    have cb4 := kb.cell 4
    have cb5 := kb.cell 5
    simp only [List.getElem?_toArray, List.getElem?_cons_zero, List.getElem?_cons_succ] at cb0 cb1 cb2 cb3 cb4 cb5
    go_wp2_with fail
    refine (hd1 _ hM).mono ?_
    rintro e v1 ⟨rfl, hb⟩
    have kb := kb.below hb kb.lt
    have hbw := bt hbw hb
    have hM := hM.bt hb
    clear hb
    clear cb0 cb1 cb2 cb3 cb4 cb5
    have kb := kb.alloc (.cells #[.int .i64 y0, .int .i64 y1, .bool y2, .int .i64 y3, .bool y4, .int .i64 y5] 26)
    have kd := Blk.new v1 26 #[.int .i64 y0, .int .i64 y1, .bool y2, .int .i64 y3, .bool y4, .int .i64 y5]
    have hbw := bt hbw (ba v1 (.cells #[.int .i64 y0, .int .i64 y1, .bool y2, .int .i64 y3, .bool y4, .int .i64 y5] 26))
    have hM := hM.bt (ba v1 (.cells #[.int .i64 y0, .int .i64 y1, .bool y2, .int .i64 y3, .bool y4, .int .i64 y5] 26))
    have cb0 := kb.cell 0
    have cb1 := kb.cell 1
    have cb2 := kb.cell 2
    have cb3 := kb.cell 3
    have cb4 := kb.cell 4
    have cb5 := kb.cell 5
    simp only [List.getElem?_toArray, List.getElem?_cons_zero, List.getElem?_cons_succ] at cb0 cb1 cb2 cb3 cb4 cb5
    have cd0 := kd.cell 0
    have cd1 := kd.cell 1
    have cd2 := kd.cell 2
    have cd3 := kd.cell 3
    have cd4 := kd.cell 4
    have cd5 := kd.cell 5
    simp only [List.getElem?_toArray, List.getElem?_cons_zero, List.getElem?_cons_succ] at cd0 cd1 cd2 cd3 cd4 cd5
    go_wp2_with fail
    refine (ht1 _).mono ?_
    rintro e v2 ⟨rfl, hb⟩
    have kb := kb.below hb kb.lt
    have kd := kd.below hb kd.lt
    have hbw := bt hbw hb
    have hM := hM.bt hb
    clear hb
    clear cb0 cb1 cb2 cb3 cb4 cb5 cd0 cd1 cd2 cd3 cd4 cd5
    have cb0 := kb.cell 0
    have cb1 := kb.cell 1
    have cb2 := kb.cell 2
    have cb3 := kb.cell 3
    have cb4 := kb.cell 4
    have cb5 := kb.cell 5
    simp only [List.getElem?_toArray, List.getElem?_cons_zero, List.getElem?_cons_succ] at cb0 cb1 cb2 cb3 cb4 cb5
    have cd0 := kd.cell 0
    have cd1 := kd.cell 1
    have cd2 := kd.cell 2
    have cd3 := kd.cell 3
    have cd4 := kd.cell 4
    have cd5 := kd.cell 5
    simp only [List.getElem?_toArray, List.getElem?_cons_zero, List.getElem?_cons_succ] at cd0 cd1 cd2 cd3 cd4 cd5
    go_wp2_with fail
    refine (hd2 _ hM).mono ?_
    rintro e v3 ⟨rfl, hb⟩
    have kb := kb.below hb kb.lt
    have kd := kd.below hb kd.lt
    have hbw := bt hbw hb
    have hM := hM.bt hb
    clear hb
    clear cb0 cb1 cb2 cb3 cb4 cb5 cd0 cd1 cd2 cd3 cd4 cd5
    have kb := kb.alloc (.cells #[.int .i64 z0, .int .i64 z1, .bool z2, .int .i64 z3, .bool z4, .int .i64 z5] 26)
    have kd := kd.alloc (.cells #[.int .i64 z0, .int .i64 z1, .bool z2, .int .i64 z3, .bool z4, .int .i64 z5] 26)
    have kf := Blk.new v3 26 #[.int .i64 z0, .int .i64 z1, .bool z2, .int .i64 z3, .bool z4, .int .i64 z5]
    have hbw := bt hbw (ba v3 (.cells #[.int .i64 z0, .int .i64 z1, .bool z2, .int .i64 z3, .bool z4, .int .i64 z5] 26))
    have hM := hM.bt (ba v3 (.cells #[.int .i64 z0, .int .i64 z1, .bool z2, .int .i64 z3, .bool z4, .int .i64 z5] 26))
    have cb0 := kb.cell 0
    have cb1 := kb.cell 1
    have cb2 := kb.cell 2
    have cb3 := kb.cell 3
    have cb4 := kb.cell 4
    have cb5 := kb.cell 5
    simp only [List.getElem?_toArray, List.getElem?_cons_zero, List.getElem?_cons_succ] at cb0 cb1 cb2 cb3 cb4 cb5
    have cd0 := kd.cell 0
    have cd1 := kd.cell 1
    have cd2 := kd.cell 2
    have cd3 := kd.cell 3
    have cd4 := kd.cell 4
    have cd5 := kd.cell 5
    simp only [List.getElem?_toArray, List.getElem?_cons_zero, List.getElem?_cons_succ] at cd0 cd1 cd2 cd3 cd4 cd5
    have cf0 := kf.cell 0
    have cf1 := kf.cell 1
    have cf2 := kf.cell 2
    have cf3 := kf.cell 3
    have cf4 := kf.cell 4
    have cf5 := kf.cell 5
    simp only [List.getElem?_toArray, List.getElem?_cons_zero, List.getElem?_cons_succ] at cf0 cf1 cf2 cf3 cf4 cf5
    go_wp2_with fail
    refine (ha _ hM).mono ?_
    rintro e v4 ⟨rfl, hb⟩
    have kb := kb.below hb kb.lt
    have kd := kd.below hb kd.lt
    have kf := kf.below hb kf.lt
    have hbw := bt hbw hb
    have hM := hM.bt hb
    clear hb
    clear cb0 cb1 cb2 cb3 cb4 cb5 cd0 cd1 cd2 cd3 cd4 cd5 cf0 cf1 cf2 cf3 cf4 cf5
    have cb0 := kb.cell 0
    have cb1 := kb.cell 1
    have cb2 := kb.cell 2
    have cb3 := kb.cell 3
    have cb4 := kb.cell 4
    have cb5 := kb.cell 5
    simp only [List.getElem?_toArray, List.getElem?_cons_zero, List.getElem?_cons_succ] at cb0 cb1 cb2 cb3 cb4 cb5
    have cd0 := kd.cell 0
    have cd1 := kd.cell 1
    have cd2 := kd.cell 2
    have cd3 := kd.cell 3
    have cd4 := kd.cell 4
    have cd5 := kd.cell 5
    simp only [List.getElem?_toArray, List.getElem?_cons_zero, List.getElem?_cons_succ] at cd0 cd1 cd2 cd3 cd4 cd5
    have cf0 := kf.cell 0
    have cf1 := kf.cell 1
    have cf2 := kf.cell 2
    have cf3 := kf.cell 3
    have cf4 := kf.cell 4
    have cf5 := kf.cell 5
    simp only [List.getElem?_toArray, List.getElem?_cons_zero, List.getElem?_cons_succ] at cf0 cf1 cf2 cf3 cf4 cf5
    go_wp2
    go_ret
    exact ⟨rfl, hbw⟩

set_option maxRecDepth 100000 in
set_option maxHeartbeats 8000000 in
theorem convAlike_1 (l s0 : Int) (w0 : Bool) (s1 : Int) (w1 : Bool) (t verb : Int) (w : World) (hM : Meets w) (ht : t = 0 ∨ t = 1) : Calls Tryd.prog 9 #[cv (l, s0, w0, s1, w1, t), .int .i64 1, .int .i64 verb] w fun e w' => e = .returned (.bool true) ∧ Below w.heap.size w w' := by
  have ha := fun w h => alive_any w h
  have ht1 := fun w => turned_any l s0 w0 s1 w1 t w ht
  have hd1 := fun w h => do_any l s0 w0 s1 w1 t 1 verb w h
  have hd2 := fun w h => do_any l s1 w1 s0 w0 (1 - t) 0 verb w h
  obtain ⟨q1, q2⟩ := doM_turn (l := l) (s0 := s0) (w0 := w0) (s1 := s1) (w1 := w1) (s := 1) (v := verb) ht (by decide)
  have g0 : decide (t < 0) = false := decide_eq_false (by omega)
  have g1 : decide (t > 1) = false := decide_eq_false (by omega)
  have g2 : decide (1 < t) = false := g1
  have hz : doM (l, s1, w1, s0, w0, 1 - t) 0 verb = doM (turnM (l, s0, w0, s1, w1, t)) (1 - 1) verb := rfl
  rw [hz] at hd2
  obtain ⟨⟨y0, y1, y2, y3, y4, y5⟩, E, hy⟩ : ∃ d E, doM (l, s0, w0, s1, w1, t) 1 verb = (d, E) := ⟨_, _, rfl⟩
  obtain ⟨⟨z0, z1, z2, z3, z4, z5⟩, G, hzz⟩ : ∃ d E, doM (turnM (l, s0, w0, s1, w1, t)) (1 - 1) verb = (d, E) := ⟨_, _, rfl⟩
  rw [hzz] at hd2 q1 q2
  rw [hy] at hd1 q1 q2
  simp only [] at q1 q2
  subst q1
  have hrt0 : rightM (l, s1, w1, s0, w0, 1 - t) = rightM (l, s0, w0, s1, w1, t) := rightM_turn ht
  have hrt := fun w h => right_any l s1 w1 s0 w0 (1 - t) w h
  by_cases hE : G = 0
  · obtain ⟨q3, q4⟩ := q2 hE
    subst hE
    obtain ⟨hrc, _, _⟩ := doM_ok (c := (l, s0, w0, s1, w1, t)) (s := 1) (v := verb) (by rw [hy])
    rw [hrt0, hrc] at hrt
    have hy5 : y5 = 0 ∨ y5 = 1 := by
      have hT : sdM y5 = true := by
        revert q4
        show (lvM y0 && (sdM y5 && _)) = true → _
        cases lvM y0 <;> cases sdM y5 <;> simp
      simpa [sdM] using hT
    have ht2 := fun w => turned_any y0 y1 y2 y3 y4 y5 w hy5
    unfold turnM at q3
    simp only [Prod.mk.injEq] at q3
    obtain ⟨rfl, rfl, rfl, rfl, rfl, rfl⟩ := q3
    have hee := eqC z0 z1 z2 z3 z4 (1 - y5) z0 z1 z2 z3 z4 (1 - y5)
    rw [show eqM z0 z1 z2 z3 z4 (1 - y5) z0 z1 z2 z3 z4 (1 - y5) = true by simp [eqM]] at hee
    clear q2 q4 hy hzz hz hrt0 hrc ht hy5
    simp only [cv] at *
    generalize 1 - y5 = yy at *
    generalize 1 - t = tt at *
    go_enter Tryd.func9, Tryd.ntmps9
    have hbw := Below.refl w.heap.size w
    have kb := Blk.new w 26 #[.int .i64 l, .int .i64 s0, .bool w0, .int .i64 s1, .bool w1, .int .i64 t]
    have hbw := bt hbw (ba w (.cells #[.int .i64 l, .int .i64 s0, .bool w0, .int .i64 s1, .bool w1, .int .i64 t] 26))
    have hM := hM.bt (ba w (.cells #[.int .i64 l, .int .i64 s0, .bool w0, .int .i64 s1, .bool w1, .int .i64 t] 26))
    have cb0 := kb.cell 0
    have cb1 := kb.cell 1
    have cb2 := kb.cell 2
    have cb3 := kb.cell 3
    have cb4 := kb.cell 4
    have cb5 := kb.cell 5
    simp only [List.getElem?_toArray, List.getElem?_cons_zero, List.getElem?_cons_succ] at cb0 cb1 cb2 cb3 cb4 cb5
    go_wp2_with fail
    refine (hd1 _ hM).mono ?_
    rintro e v1 ⟨rfl, hb⟩
    have kb := kb.below hb kb.lt
    have hbw := bt hbw hb
    have hM := hM.bt hb
    clear hb
    clear cb0 cb1 cb2 cb3 cb4 cb5
    have kb := kb.alloc (.cells #[.int .i64 z0, .int .i64 z3, .bool z4, .int .i64 z1, .bool z2, .int .i64 y5] 26)
    have kd := Blk.new v1 26 #[.int .i64 z0, .int .i64 z3, .bool z4, .int .i64 z1, .bool z2, .int .i64 y5]
    have hbw := bt hbw (ba v1 (.cells #[.int .i64 z0, .int .i64 z3, .bool z4, .int .i64 z1, .bool z2, .int .i64 y5] 26))
    have hM := hM.bt (ba v1 (.cells #[.int .i64 z0, .int .i64 z3, .bool z4, .int .i64 z1, .bool z2, .int .i64 y5] 26))
    have cb0 := kb.cell 0
    have cb1 := kb.cell 1
    have cb2 := kb.cell 2
    have cb3 := kb.cell 3
    have cb4 := kb.cell 4
    have cb5 := kb.cell 5
    simp only [List.getElem?_toArray, List.getElem?_cons_zero, List.getElem?_cons_succ] at cb0 cb1 cb2 cb3 cb4 cb5
    have cd0 := kd.cell 0
    have cd1 := kd.cell 1
    have cd2 := kd.cell 2
    have cd3 := kd.cell 3
    have cd4 := kd.cell 4
    have cd5 := kd.cell 5
    simp only [List.getElem?_toArray, List.getElem?_cons_zero, List.getElem?_cons_succ] at cd0 cd1 cd2 cd3 cd4 cd5
    go_wp2_with fail
    refine (ht1 _).mono ?_
    rintro e v2 ⟨rfl, hb⟩
    have kb := kb.below hb kb.lt
    have kd := kd.below hb kd.lt
    have hbw := bt hbw hb
    have hM := hM.bt hb
    clear hb
    clear cb0 cb1 cb2 cb3 cb4 cb5 cd0 cd1 cd2 cd3 cd4 cd5
    have cb0 := kb.cell 0
    have cb1 := kb.cell 1
    have cb2 := kb.cell 2
    have cb3 := kb.cell 3
    have cb4 := kb.cell 4
    have cb5 := kb.cell 5
    simp only [List.getElem?_toArray, List.getElem?_cons_zero, List.getElem?_cons_succ] at cb0 cb1 cb2 cb3 cb4 cb5
    have cd0 := kd.cell 0
    have cd1 := kd.cell 1
    have cd2 := kd.cell 2
    have cd3 := kd.cell 3
    have cd4 := kd.cell 4
    have cd5 := kd.cell 5
    simp only [List.getElem?_toArray, List.getElem?_cons_zero, List.getElem?_cons_succ] at cd0 cd1 cd2 cd3 cd4 cd5
    go_wp2_with fail
    refine (hd2 _ hM).mono ?_
    rintro e v3 ⟨rfl, hb⟩
    have kb := kb.below hb kb.lt
    have kd := kd.below hb kd.lt
    have hbw := bt hbw hb
    have hM := hM.bt hb
    clear hb
    clear cb0 cb1 cb2 cb3 cb4 cb5 cd0 cd1 cd2 cd3 cd4 cd5
    have kb := kb.alloc (.cells #[.int .i64 z0, .int .i64 z1, .bool z2, .int .i64 z3, .bool z4, .int .i64 yy] 26)
    have kd := kd.alloc (.cells #[.int .i64 z0, .int .i64 z1, .bool z2, .int .i64 z3, .bool z4, .int .i64 yy] 26)
    have kf := Blk.new v3 26 #[.int .i64 z0, .int .i64 z1, .bool z2, .int .i64 z3, .bool z4, .int .i64 yy]
    have hbw := bt hbw (ba v3 (.cells #[.int .i64 z0, .int .i64 z1, .bool z2, .int .i64 z3, .bool z4, .int .i64 yy] 26))
    have hM := hM.bt (ba v3 (.cells #[.int .i64 z0, .int .i64 z1, .bool z2, .int .i64 z3, .bool z4, .int .i64 yy] 26))
    have cb0 := kb.cell 0
    have cb1 := kb.cell 1
    have cb2 := kb.cell 2
    have cb3 := kb.cell 3
    have cb4 := kb.cell 4
    have cb5 := kb.cell 5
    simp only [List.getElem?_toArray, List.getElem?_cons_zero, List.getElem?_cons_succ] at cb0 cb1 cb2 cb3 cb4 cb5
    have cd0 := kd.cell 0
    have cd1 := kd.cell 1
    have cd2 := kd.cell 2
    have cd3 := kd.cell 3
    have cd4 := kd.cell 4
    have cd5 := kd.cell 5
    simp only [List.getElem?_toArray, List.getElem?_cons_zero, List.getElem?_cons_succ] at cd0 cd1 cd2 cd3 cd4 cd5
    have cf0 := kf.cell 0
    have cf1 := kf.cell 1
    have cf2 := kf.cell 2
    have cf3 := kf.cell 3
    have cf4 := kf.cell 4
    have cf5 := kf.cell 5
    simp only [List.getElem?_toArray, List.getElem?_cons_zero, List.getElem?_cons_succ] at cf0 cf1 cf2 cf3 cf4 cf5
    go_wp2_with fail
    clear cb0 cb1 cb2 cb3 cb4 cb5 cd0 cd1 cd2 cd3 cd4 cd5 cf0 cf1 cf2 cf3 cf4 cf5
    refine wp_region_invT (F := ?FA) (V := VAl (.agg #[.int .i64 z0, .int .i64 z3, .bool z4, .int .i64 z1, .bool z2, .int .i64 y5]) (.agg #[.int .i64 z0, .int .i64 z1, .bool z2, .int .i64 z3, .bool z4, .int .i64 yy]) (.agg #[.int .i64 l, .int .i64 s0, .bool w0, .int .i64 s1, .bool w1, .int .i64 t]) (.agg #[.int .i64 l, .int .i64 s1, .bool w1, .int .i64 s0, .bool w0, .int .i64 tt])) (dead := fun _ => none) (T := fun _ _ => True) (C := fun u' => ((Blk u' w.heap.size 26 #[.int .i64 l, .int .i64 s0, .bool w0, .int .i64 s1, .bool w1, .int .i64 t] ∧ (Blk u' v1.heap.size 26 #[.int .i64 z0, .int .i64 z3, .bool z4, .int .i64 z1, .bool z2, .int .i64 y5] ∧ Blk u' v3.heap.size 26 #[.int .i64 z0, .int .i64 z1, .bool z2, .int .i64 z3, .bool z4, .int .i64 yy])) ∧ Meets u') ∧ Below w.heap.size w u') (E := fun _ _ _ => True) (by kernel_rfl) (by kernel_rfl) (by kernel_rfl) (fun x => ?hFA) ?hmonoA ?hTmA ?hTA ?hCA ?stepA ?finA
    case hFA => simp only [mkA, Act.put, List.setIfInBounds_toArray, List.set_cons_succ, List.set_cons_zero, Nat.reduceAdd, Nat.zero_add]; first | with_reducible rfl | rfl
    case hmonoA => exact fun k i v u u' he hik hwt hdd hv => by unfold VAl at hv ⊢; split at hv <;> exact hv
    case hTmA => exact fun _ _ _ _ _ _ _ _ => trivial
    case hTA => exact fun j => trivial
    case hCA => exact ⟨⟨⟨kb, kd, kf⟩, hM.bt (below_drew _)⟩, bt hbw (below_drew _)⟩
    case stepA =>
      refine AllOps.cons (fun x u hC hT hp K hK => ?_) ?_
      · clear hp hT
        go_simp
        refine (ha u hC.1.2).mono ?_
        rintro e wA ⟨rfl, hbu⟩
        refine hK _ _ _ ⟨⟨⟨hC.1.1.1.below hbu hC.1.1.1.lt, hC.1.1.2.1.below hbu hC.1.1.2.1.lt, hC.1.1.2.2.below hbu hC.1.1.2.2.lt⟩, hC.1.2.bt hbu⟩, bt hC.2 hbu⟩ trivial (by exact rfl) ?_
        first | (simp only [Act.put, List.setIfInBounds_toArray, List.set_cons_succ, List.set_cons_zero]; done) | simp [Act.put]
      refine AllOps.cons (fun x u hC hT hp K hK => ?_) ?_
      · simp [KnownTill, Region.binds, VAl] at hp
        clear hT
        go_simp
        refine hK _ _ _ hC trivial (by exact rfl) ?_
        first | (simp only [Act.put, List.setIfInBounds_toArray, List.set_cons_succ, List.set_cons_zero, hp]; done) | simp [Act.put, hp]
      refine AllOps.cons (fun x u hC hT hp K hK => ?_) ?_
      · simp [KnownTill, Region.binds, VAl] at hp
        clear hT
        go_simp
        refine hK _ _ _ hC trivial (by exact rfl) ?_
        first | (simp only [Act.put, List.setIfInBounds_toArray, List.set_cons_succ, List.set_cons_zero, hp]; done) | simp [Act.put, hp]
      refine AllOps.cons (fun x u hC hT hp K hK => ?_) ?_
      · simp [KnownTill, Region.binds, VAl] at hp
        clear hT
        go_simp
        refine hK _ _ _ hC trivial (by exact rfl) ?_
        first | (simp only [Act.put, List.setIfInBounds_toArray, List.set_cons_succ, List.set_cons_zero, hp]; done) | simp [Act.put, hp]
      refine AllOps.cons (fun x u hC hT hp K hK => ?_) ?_
      · simp [KnownTill, Region.binds, VAl] at hp
        clear hT
        go_simp
        refine hK _ _ _ hC trivial (by exact rfl) ?_
        first | (simp only [Act.put, List.setIfInBounds_toArray, List.set_cons_succ, List.set_cons_zero, hp]; done) | simp [Act.put, hp]
      refine AllOps.cons (fun x u hC hT hp K hK => ?_) ?_
      · simp [KnownTill, Region.binds, VAl] at hp
        clear hT
        go_simp
        refine hK _ _ _ hC trivial (by exact rfl) ?_
        first | (simp only [Act.put, List.setIfInBounds_toArray, List.set_cons_succ, List.set_cons_zero, hp]; done) | simp [Act.put, hp]
      refine AllOps.cons (fun x u hC hT hp K hK => ?_) ?_
      · simp [KnownTill, Region.binds, VAl] at hp
        clear hT
        have ca0 := (hC.1.1.2.2).cell 0
        have ca1 := (hC.1.1.2.2).cell 1
        have ca2 := (hC.1.1.2.2).cell 2
        have ca3 := (hC.1.1.2.2).cell 3
        have ca4 := (hC.1.1.2.2).cell 4
        have ca5 := (hC.1.1.2.2).cell 5
        simp only [List.getElem?_toArray, List.getElem?_cons_zero, List.getElem?_cons_succ] at ca0 ca1 ca2 ca3 ca4 ca5
        go_simp
        refine hK _ _ _ hC trivial (by exact rfl) ?_
        first | (simp only [Act.put, List.setIfInBounds_toArray, List.set_cons_succ, List.set_cons_zero, hp]; done) | simp [Act.put, hp]
      refine AllOps.cons (fun x u hC hT hp K hK => ?_) ?_
      · simp [KnownTill, Region.binds, VAl] at hp
        clear hT
        have ca0 := (hC.1.1.2.1).cell 0
        have ca1 := (hC.1.1.2.1).cell 1
        have ca2 := (hC.1.1.2.1).cell 2
        have ca3 := (hC.1.1.2.1).cell 3
        have ca4 := (hC.1.1.2.1).cell 4
        have ca5 := (hC.1.1.2.1).cell 5
        simp only [List.getElem?_toArray, List.getElem?_cons_zero, List.getElem?_cons_succ] at ca0 ca1 ca2 ca3 ca4 ca5
        go_simp
        refine hK _ _ _ hC trivial (by exact rfl) ?_
        first | (simp only [Act.put, List.setIfInBounds_toArray, List.set_cons_succ, List.set_cons_zero, hp]; done) | simp [Act.put, hp]
      refine AllOps.cons (fun x u hC hT hp K hK => ?_) ?_
      · simp [KnownTill, Region.binds, VAl] at hp
        clear hT
        go_simp
        refine (ht2 u).mono ?_
        rintro e wA ⟨rfl, hbu⟩
        refine hK _ _ _ ⟨⟨⟨hC.1.1.1.below hbu hC.1.1.1.lt, hC.1.1.2.1.below hbu hC.1.1.2.1.lt, hC.1.1.2.2.below hbu hC.1.1.2.2.lt⟩, hC.1.2.bt hbu⟩, bt hC.2 hbu⟩ trivial (by exact rfl) ?_
        first | (simp only [Act.put, List.setIfInBounds_toArray, List.set_cons_succ, List.set_cons_zero, hp]; done) | simp [Act.put, hp]
      refine AllOps.cons (fun x u hC hT hp K hK => ?_) ?_
      · simp [KnownTill, Region.binds, VAl] at hp
        clear hT
        go_simp
        refine hK _ _ _ hC trivial (by exact rfl) ?_
        first | (simp only [Act.put, List.setIfInBounds_toArray, List.set_cons_succ, List.set_cons_zero, hp]; done) | simp [Act.put, hp]
      refine AllOps.cons (fun x u hC hT hp K hK => ?_) ?_
      · simp [KnownTill, Region.binds, VAl] at hp
        clear hT
        go_simp
        refine hK _ _ _ hC trivial (by exact rfl) ?_
        first | (simp only [Act.put, List.setIfInBounds_toArray, List.set_cons_succ, List.set_cons_zero, hp]; done) | simp [Act.put, hp]
      refine AllOps.cons (fun x u hC hT hp K hK => ?_) ?_
      · simp [KnownTill, Region.binds, VAl] at hp
        clear hT
        go_simp
        refine hK _ _ _ hC trivial (by exact rfl) ?_
        first | (simp only [Act.put, List.setIfInBounds_toArray, List.set_cons_succ, List.set_cons_zero, hp]; done) | simp [Act.put, hp]
      refine AllOps.cons (fun x u hC hT hp K hK => ?_) ?_
      · simp [KnownTill, Region.binds, VAl] at hp
        clear hT
        have ca0 := (hC.1.1.1).cell 0
        have ca1 := (hC.1.1.1).cell 1
        have ca2 := (hC.1.1.1).cell 2
        have ca3 := (hC.1.1.1).cell 3
        have ca4 := (hC.1.1.1).cell 4
        have ca5 := (hC.1.1.1).cell 5
        simp only [List.getElem?_toArray, List.getElem?_cons_zero, List.getElem?_cons_succ] at ca0 ca1 ca2 ca3 ca4 ca5
        go_simp
        refine hK _ _ _ hC trivial (by exact rfl) ?_
        first | (simp only [Act.put, List.setIfInBounds_toArray, List.set_cons_succ, List.set_cons_zero, hp]; done) | simp [Act.put, hp]
      refine AllOps.cons (fun x u hC hT hp K hK => ?_) ?_
      · simp [KnownTill, Region.binds, VAl] at hp
        clear hT
        go_simp
        refine (ht1 u).mono ?_
        rintro e wA ⟨rfl, hbu⟩
        refine hK _ _ _ ⟨⟨⟨hC.1.1.1.below hbu hC.1.1.1.lt, hC.1.1.2.1.below hbu hC.1.1.2.1.lt, hC.1.1.2.2.below hbu hC.1.1.2.2.lt⟩, hC.1.2.bt hbu⟩, bt hC.2 hbu⟩ trivial (by exact rfl) ?_
        first | (simp only [Act.put, List.setIfInBounds_toArray, List.set_cons_succ, List.set_cons_zero, hp]; done) | simp [Act.put, hp]
      refine AllOps.cons (fun x u hC hT hp K hK => ?_) ?_
      · simp [KnownTill, Region.binds, VAl] at hp
        clear hT
        go_simp
        refine (hrt u hC.1.2).mono ?_
        rintro e wA ⟨rfl, hbu⟩
        refine hK _ _ _ ⟨⟨⟨hC.1.1.1.below hbu hC.1.1.1.lt, hC.1.1.2.1.below hbu hC.1.1.2.1.lt, hC.1.1.2.2.below hbu hC.1.1.2.2.lt⟩, hC.1.2.bt hbu⟩, bt hC.2 hbu⟩ trivial (by exact rfl) ?_
        first | (simp only [Act.put, List.setIfInBounds_toArray, List.set_cons_succ, List.set_cons_zero, hp]; done) | simp [Act.put, hp]
      refine AllOps.cons (fun x u hC hT hp K hK => ?_) ?_
      · simp [KnownTill, Region.binds, VAl] at hp
        clear hT
        go_simp
        refine hK _ _ _ hC trivial (by exact rfl) ?_
        first | (simp only [Act.put, List.setIfInBounds_toArray, List.set_cons_succ, List.set_cons_zero, hp]; done) | simp [Act.put, hp]
      refine AllOps.cons (fun x u hC hT hp K hK => ?_) ?_
      · simp [KnownTill, Region.binds, VAl] at hp
        clear hT
        go_simp
        refine hK _ _ _ hC trivial (by exact rfl) ?_
        first | (simp only [Act.put, List.setIfInBounds_toArray, List.set_cons_succ, List.set_cons_zero, hp]; done) | simp [Act.put, hp]
      exact AllOps.nil
    case finA =>
      intro x u hC hV
      have hz : x 16 = .bool true := hV 16 (by decide) rfl
      rw [hz]
      have hbz := hC.2
      clear hV hC hz
      go_wp2
      go_ret
      exact ⟨rfl, hbz⟩
  · have f1 : (G != 0) = true := by simpa using hE
    clear q2 hE hy hzz hz hrt0 hrt ht
    simp only [cv] at *
    generalize 1 - t = tt at *
    go_enter Tryd.func9, Tryd.ntmps9
    have hbw := Below.refl w.heap.size w
    have kb := Blk.new w 26 #[.int .i64 l, .int .i64 s0, .bool w0, .int .i64 s1, .bool w1, .int .i64 t]
    have hbw := bt hbw (ba w (.cells #[.int .i64 l, .int .i64 s0, .bool w0, .int .i64 s1, .bool w1, .int .i64 t] 26))
    have hM := hM.bt (ba w (.cells #[.int .i64 l, .int .i64 s0, .bool w0, .int .i64 s1, .bool w1, .int .i64 t] 26))
    have cb0 := kb.cell 0
    have cb1 := kb.cell 1
    have cb2 := kb.cell 2
    have cb3 := kb.cell 3
    have cb4 := kb.cell 4
    have cb5 := kb.cell 5
    simp only [List.getElem?_toArray, List.getElem?_cons_zero, List.getElem?_cons_succ] at cb0 cb1 cb2 cb3 cb4 cb5
    go_wp2_with fail
    refine (hd1 _ hM).mono ?_
    rintro e v1 ⟨rfl, hb⟩
    have kb := kb.below hb kb.lt
    have hbw := bt hbw hb
    have hM := hM.bt hb
    clear hb
    clear cb0 cb1 cb2 cb3 cb4 cb5
    have kb := kb.alloc (.cells #[.int .i64 y0, .int .i64 y1, .bool y2, .int .i64 y3, .bool y4, .int .i64 y5] 26)
    have kd := Blk.new v1 26 #[.int .i64 y0, .int .i64 y1, .bool y2, .int .i64 y3, .bool y4, .int .i64 y5]
    have hbw := bt hbw (ba v1 (.cells #[.int .i64 y0, .int .i64 y1, .bool y2, .int .i64 y3, .bool y4, .int .i64 y5] 26))
    have hM := hM.bt (ba v1 (.cells #[.int .i64 y0, .int .i64 y1, .bool y2, .int .i64 y3, .bool y4, .int .i64 y5] 26))
    have cb0 := kb.cell 0
    have cb1 := kb.cell 1
    have cb2 := kb.cell 2
    have cb3 := kb.cell 3
    have cb4 := kb.cell 4
    have cb5 := kb.cell 5
    simp only [List.getElem?_toArray, List.getElem?_cons_zero, List.getElem?_cons_succ] at cb0 cb1 cb2 cb3 cb4 cb5
    have cd0 := kd.cell 0
    have cd1 := kd.cell 1
    have cd2 := kd.cell 2
    have cd3 := kd.cell 3
    have cd4 := kd.cell 4
    have cd5 := kd.cell 5
    simp only [List.getElem?_toArray, List.getElem?_cons_zero, List.getElem?_cons_succ] at cd0 cd1 cd2 cd3 cd4 cd5
    go_wp2_with fail
    refine (ht1 _).mono ?_
    rintro e v2 ⟨rfl, hb⟩
    have kb := kb.below hb kb.lt
    have kd := kd.below hb kd.lt
    have hbw := bt hbw hb
    have hM := hM.bt hb
    clear hb
    clear cb0 cb1 cb2 cb3 cb4 cb5 cd0 cd1 cd2 cd3 cd4 cd5
    have cb0 := kb.cell 0
    have cb1 := kb.cell 1
    have cb2 := kb.cell 2
    have cb3 := kb.cell 3
    have cb4 := kb.cell 4
    have cb5 := kb.cell 5
    simp only [List.getElem?_toArray, List.getElem?_cons_zero, List.getElem?_cons_succ] at cb0 cb1 cb2 cb3 cb4 cb5
    have cd0 := kd.cell 0
    have cd1 := kd.cell 1
    have cd2 := kd.cell 2
    have cd3 := kd.cell 3
    have cd4 := kd.cell 4
    have cd5 := kd.cell 5
    simp only [List.getElem?_toArray, List.getElem?_cons_zero, List.getElem?_cons_succ] at cd0 cd1 cd2 cd3 cd4 cd5
    go_wp2_with fail
    refine (hd2 _ hM).mono ?_
    rintro e v3 ⟨rfl, hb⟩
    have kb := kb.below hb kb.lt
    have kd := kd.below hb kd.lt
    have hbw := bt hbw hb
    have hM := hM.bt hb
    clear hb
    clear cb0 cb1 cb2 cb3 cb4 cb5 cd0 cd1 cd2 cd3 cd4 cd5
    have kb := kb.alloc (.cells #[.int .i64 z0, .int .i64 z1, .bool z2, .int .i64 z3, .bool z4, .int .i64 z5] 26)
    have kd := kd.alloc (.cells #[.int .i64 z0, .int .i64 z1, .bool z2, .int .i64 z3, .bool z4, .int .i64 z5] 26)
    have kf := Blk.new v3 26 #[.int .i64 z0, .int .i64 z1, .bool z2, .int .i64 z3, .bool z4, .int .i64 z5]
    have hbw := bt hbw (ba v3 (.cells #[.int .i64 z0, .int .i64 z1, .bool z2, .int .i64 z3, .bool z4, .int .i64 z5] 26))
    have hM := hM.bt (ba v3 (.cells #[.int .i64 z0, .int .i64 z1, .bool z2, .int .i64 z3, .bool z4, .int .i64 z5] 26))
    have cb0 := kb.cell 0
    have cb1 := kb.cell 1
    have cb2 := kb.cell 2
    have cb3 := kb.cell 3
    have cb4 := kb.cell 4
    have cb5 := kb.cell 5
    simp only [List.getElem?_toArray, List.getElem?_cons_zero, List.getElem?_cons_succ] at cb0 cb1 cb2 cb3 cb4 cb5
    have cd0 := kd.cell 0
    have cd1 := kd.cell 1
    have cd2 := kd.cell 2
    have cd3 := kd.cell 3
    have cd4 := kd.cell 4
    have cd5 := kd.cell 5
    simp only [List.getElem?_toArray, List.getElem?_cons_zero, List.getElem?_cons_succ] at cd0 cd1 cd2 cd3 cd4 cd5
    have cf0 := kf.cell 0
    have cf1 := kf.cell 1
    have cf2 := kf.cell 2
    have cf3 := kf.cell 3
    have cf4 := kf.cell 4
    have cf5 := kf.cell 5
    simp only [List.getElem?_toArray, List.getElem?_cons_zero, List.getElem?_cons_succ] at cf0 cf1 cf2 cf3 cf4 cf5
    go_wp2_with fail
    refine (ha _ hM).mono ?_
    rintro e v4 ⟨rfl, hb⟩
    have kb := kb.below hb kb.lt
    have kd := kd.below hb kd.lt
    have kf := kf.below hb kf.lt
    have hbw := bt hbw hb
    have hM := hM.bt hb
    clear hb
    clear cb0 cb1 cb2 cb3 cb4 cb5 cd0 cd1 cd2 cd3 cd4 cd5 cf0 cf1 cf2 cf3 cf4 cf5
    have cb0 := kb.cell 0
    have cb1 := kb.cell 1
    have cb2 := kb.cell 2
    have cb3 := kb.cell 3
    have cb4 := kb.cell 4
    have cb5 := kb.cell 5
    simp only [List.getElem?_toArray, List.getElem?_cons_zero, List.getElem?_cons_succ] at cb0 cb1 cb2 cb3 cb4 cb5
    have cd0 := kd.cell 0
    have cd1 := kd.cell 1
    have cd2 := kd.cell 2
    have cd3 := kd.cell 3
    have cd4 := kd.cell 4
    have cd5 := kd.cell 5
    simp only [List.getElem?_toArray, List.getElem?_cons_zero, List.getElem?_cons_succ] at cd0 cd1 cd2 cd3 cd4 cd5
    have cf0 := kf.cell 0
    have cf1 := kf.cell 1
    have cf2 := kf.cell 2
    have cf3 := kf.cell 3
    have cf4 := kf.cell 4
    have cf5 := kf.cell 5
    simp only [List.getElem?_toArray, List.getElem?_cons_zero, List.getElem?_cons_succ] at cf0 cf1 cf2 cf3 cf4 cf5
    go_wp2
    go_ret
    exact ⟨rfl, hbw⟩

set_option maxRecDepth 100000 in
set_option maxHeartbeats 4000000 in
theorem convAlike_walk (l s0 : Int) (w0 : Bool) (s1 : Int) (w1 : Bool) (t side verb : Int) (w : World) (hM : Meets w) : Calls Tryd.prog 9 #[cv (l, s0, w0, s1, w1, t), .int .i64 side, .int .i64 verb] w fun e w' => e = .returned (.bool true) ∧ Below w.heap.size w w' := by
  have ha := fun w h => alive_any w h
  by_cases h0 : t < 0
  · have g0 : decide (t < 0) = true := decide_eq_true h0
    clear h0
    simp only [cv] at *
    go_enter Tryd.func9, Tryd.ntmps9
    have hbw := Below.refl w.heap.size w
    have kb := Blk.new w 26 #[.int .i64 l, .int .i64 s0, .bool w0, .int .i64 s1, .bool w1, .int .i64 t]
    have hbw := bt hbw (ba w (.cells #[.int .i64 l, .int .i64 s0, .bool w0, .int .i64 s1, .bool w1, .int .i64 t] 26))
    have hM := hM.bt (ba w (.cells #[.int .i64 l, .int .i64 s0, .bool w0, .int .i64 s1, .bool w1, .int .i64 t] 26))
    have cb0 := kb.cell 0
    have cb1 := kb.cell 1
    have cb2 := kb.cell 2
    have cb3 := kb.cell 3
    have cb4 := kb.cell 4
    have cb5 := kb.cell 5
    simp only [List.getElem?_toArray, List.getElem?_cons_zero, List.getElem?_cons_succ] at cb0 cb1 cb2 cb3 cb4 cb5
    go_wp2_with fail
    refine (ha _ hM).mono ?_
    rintro e v1 ⟨rfl, hb⟩
    have kb := kb.below hb kb.lt
    have hbw := bt hbw hb
    have hM := hM.bt hb
    clear hb
    clear cb0 cb1 cb2 cb3 cb4 cb5
    have cb0 := kb.cell 0
    have cb1 := kb.cell 1
    have cb2 := kb.cell 2
    have cb3 := kb.cell 3
    have cb4 := kb.cell 4
    have cb5 := kb.cell 5
    simp only [List.getElem?_toArray, List.getElem?_cons_zero, List.getElem?_cons_succ] at cb0 cb1 cb2 cb3 cb4 cb5
    go_wp2
    go_ret
    exact ⟨rfl, hbw⟩
  by_cases h1 : t > 1
  · have g0 : decide (t < 0) = false := decide_eq_false h0
    have g1 : decide (t > 1) = true := decide_eq_true h1
    have g2 : decide (1 < t) = true := g1
    clear h0 h1
    simp only [cv] at *
    go_enter Tryd.func9, Tryd.ntmps9
    have hbw := Below.refl w.heap.size w
    have kb := Blk.new w 26 #[.int .i64 l, .int .i64 s0, .bool w0, .int .i64 s1, .bool w1, .int .i64 t]
    have hbw := bt hbw (ba w (.cells #[.int .i64 l, .int .i64 s0, .bool w0, .int .i64 s1, .bool w1, .int .i64 t] 26))
    have hM := hM.bt (ba w (.cells #[.int .i64 l, .int .i64 s0, .bool w0, .int .i64 s1, .bool w1, .int .i64 t] 26))
    have cb0 := kb.cell 0
    have cb1 := kb.cell 1
    have cb2 := kb.cell 2
    have cb3 := kb.cell 3
    have cb4 := kb.cell 4
    have cb5 := kb.cell 5
    simp only [List.getElem?_toArray, List.getElem?_cons_zero, List.getElem?_cons_succ] at cb0 cb1 cb2 cb3 cb4 cb5
    go_wp2_with fail
    refine (ha _ hM).mono ?_
    rintro e v1 ⟨rfl, hb⟩
    have kb := kb.below hb kb.lt
    have hbw := bt hbw hb
    have hM := hM.bt hb
    clear hb
    clear cb0 cb1 cb2 cb3 cb4 cb5
    have cb0 := kb.cell 0
    have cb1 := kb.cell 1
    have cb2 := kb.cell 2
    have cb3 := kb.cell 3
    have cb4 := kb.cell 4
    have cb5 := kb.cell 5
    simp only [List.getElem?_toArray, List.getElem?_cons_zero, List.getElem?_cons_succ] at cb0 cb1 cb2 cb3 cb4 cb5
    go_wp2
    go_ret
    exact ⟨rfl, hbw⟩
  have g0 : decide (t < 0) = false := decide_eq_false h0
  have g1 : decide (t > 1) = false := decide_eq_false h1
  have g2 : decide (1 < t) = false := g1
  by_cases h2 : side < 0
  · have g3 : decide (side < 0) = true := decide_eq_true h2
    clear h0 h1 h2
    simp only [cv] at *
    go_enter Tryd.func9, Tryd.ntmps9
    have hbw := Below.refl w.heap.size w
    have kb := Blk.new w 26 #[.int .i64 l, .int .i64 s0, .bool w0, .int .i64 s1, .bool w1, .int .i64 t]
    have hbw := bt hbw (ba w (.cells #[.int .i64 l, .int .i64 s0, .bool w0, .int .i64 s1, .bool w1, .int .i64 t] 26))
    have hM := hM.bt (ba w (.cells #[.int .i64 l, .int .i64 s0, .bool w0, .int .i64 s1, .bool w1, .int .i64 t] 26))
    have cb0 := kb.cell 0
    have cb1 := kb.cell 1
    have cb2 := kb.cell 2
    have cb3 := kb.cell 3
    have cb4 := kb.cell 4
    have cb5 := kb.cell 5
    simp only [List.getElem?_toArray, List.getElem?_cons_zero, List.getElem?_cons_succ] at cb0 cb1 cb2 cb3 cb4 cb5
    go_wp2_with fail
    refine (ha _ hM).mono ?_
    rintro e v1 ⟨rfl, hb⟩
    have kb := kb.below hb kb.lt
    have hbw := bt hbw hb
    have hM := hM.bt hb
    clear hb
    clear cb0 cb1 cb2 cb3 cb4 cb5
    have cb0 := kb.cell 0
    have cb1 := kb.cell 1
    have cb2 := kb.cell 2
    have cb3 := kb.cell 3
    have cb4 := kb.cell 4
    have cb5 := kb.cell 5
    simp only [List.getElem?_toArray, List.getElem?_cons_zero, List.getElem?_cons_succ] at cb0 cb1 cb2 cb3 cb4 cb5
    go_wp2
    go_ret
    exact ⟨rfl, hbw⟩
  by_cases h3 : side > 1
  · have g3 : decide (side < 0) = false := decide_eq_false h2
    have g4 : decide (side > 1) = true := decide_eq_true h3
    have g5 : decide (1 < side) = true := g4
    clear h0 h1 h2 h3
    simp only [cv] at *
    go_enter Tryd.func9, Tryd.ntmps9
    have hbw := Below.refl w.heap.size w
    have kb := Blk.new w 26 #[.int .i64 l, .int .i64 s0, .bool w0, .int .i64 s1, .bool w1, .int .i64 t]
    have hbw := bt hbw (ba w (.cells #[.int .i64 l, .int .i64 s0, .bool w0, .int .i64 s1, .bool w1, .int .i64 t] 26))
    have hM := hM.bt (ba w (.cells #[.int .i64 l, .int .i64 s0, .bool w0, .int .i64 s1, .bool w1, .int .i64 t] 26))
    have cb0 := kb.cell 0
    have cb1 := kb.cell 1
    have cb2 := kb.cell 2
    have cb3 := kb.cell 3
    have cb4 := kb.cell 4
    have cb5 := kb.cell 5
    simp only [List.getElem?_toArray, List.getElem?_cons_zero, List.getElem?_cons_succ] at cb0 cb1 cb2 cb3 cb4 cb5
    go_wp2_with fail
    refine (ha _ hM).mono ?_
    rintro e v1 ⟨rfl, hb⟩
    have kb := kb.below hb kb.lt
    have hbw := bt hbw hb
    have hM := hM.bt hb
    clear hb
    clear cb0 cb1 cb2 cb3 cb4 cb5
    have cb0 := kb.cell 0
    have cb1 := kb.cell 1
    have cb2 := kb.cell 2
    have cb3 := kb.cell 3
    have cb4 := kb.cell 4
    have cb5 := kb.cell 5
    simp only [List.getElem?_toArray, List.getElem?_cons_zero, List.getElem?_cons_succ] at cb0 cb1 cb2 cb3 cb4 cb5
    go_wp2
    go_ret
    exact ⟨rfl, hbw⟩
  have hs : side = 0 ∨ side = 1 := by omega
  have ht : t = 0 ∨ t = 1 := by omega
  rcases hs with rfl | rfl
  · exact convAlike_0 l s0 w0 s1 w1 t verb w hM ht
  · exact convAlike_1 l s0 w0 s1 w1 t verb w hM ht
end Go.Proofs.YtflaliadiihhbaaDoor
