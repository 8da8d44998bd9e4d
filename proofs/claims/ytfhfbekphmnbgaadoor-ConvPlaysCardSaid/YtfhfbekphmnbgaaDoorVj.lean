/- Layer 10: Do, where it may be said. -/
import Derived.Test.YtfhfbekphmnbgaaDoorVi
namespace Go.Proofs.YtfhfbekphmnbgaaDoor
open Go.RowKit
set_option linter.unusedVariables false
set_option linter.unusedSimpArgs false

def VDa (g o : Nat) (it : Int) (wt : Bool) (i : Nat) (v : Value) (w : World) : Prop :=
  match i with
  | 0 => v = .int .i64 it
  | 1 => v = .pointer (some ⟨g, 1, none⟩)
  | 2 => v = .pointer (some ⟨g, o, none⟩)
  | 3 => v = .pointer (some ⟨g, o + 1, none⟩)
  | 4 => v = .bool wt
  | 5 => v = .bool wt
  | 16 => v = .bool true
  | 17 => v = .bool true
  | _ => True

def VDb (g o : Nat) (it : Int) (wt : Bool) (verb st l : Int) (M : Bool) (i : Nat) (v : Value) (w : World) : Prop :=
  match i with
  | 0 => v = .int .i64 it
  | 1 => v = .pointer (some ⟨g, 1, none⟩)
  | 2 => v = .pointer (some ⟨g, o, none⟩)
  | 3 => v = .pointer (some ⟨g, o + 1, none⟩)
  | 4 => v = .bool wt
  | 5 => v = .bool wt
  | 6 => v = .int .i64 verb
  | 7 => v = .int .i64 it
  | 8 => v = .pointer (some ⟨g, 1, none⟩)
  | 9 => v = .pointer (some ⟨g, o, none⟩)
  | 10 => v = .pointer (some ⟨g, o, none⟩)
  | 11 => v = .int .i64 st
  | 12 => v = .pointer (some ⟨g, 0, none⟩)
  | 13 => v = .int .i64 l
  | 14 => v = .bool M
  | 15 => v = .bool (!M)
  | 16 => v = .bool (!M)
  | 17 => v = .bool (!M)
  | _ => True

set_option maxRecDepth 100000 in
set_option maxHeartbeats 4000000 in
theorem do_wf (l s0 : Int) (w0 : Bool) (s1 : Int) (w1 : Bool) (t : Int) (verb : Int) (w : World) (h : Meets w) (hrt : rightM (l, s0, true, s1, w1, t) = true) (h1 : 1 ≤ verb) (h2 : verb ≤ 13) : Calls Tryd.prog 17 #[cv (l, s0, true, s1, w1, t), .int .i64 0, .int .i64 verb] w fun e w' => e = .returned (.tuple #[cv (doM (l, s0, true, s1, w1, t) 0 verb).1, .int .i64 (doM (l, s0, true, s1, w1, t) 0 verb).2]) ∧ Below w.heap.size w w' := by
  have hd : doM (l, s0, true, s1, w1, t) 0 verb = (zeroC, 7) := by
    unfold doM
    rw [if_pos (by rw [hrt]; rfl), if_pos ⟨h1, h2⟩]
    exact if_pos rfl
  rw [hd]
  clear hd
  have hs := fun w => isSide_any 0 w
  have e2 : (((0 : Int) == 0) || ((0 : Int) == 1)) = true := rfl
  rw [e2] at hs
  have hr := fun w h => right_any l s0 true s1 w1 t w h
  have hM0 := h.bt (ba2 w (.cells #[.int .i64 l, .int .i64 s0, .bool true, .int .i64 s1, .bool w1, .int .i64 t] 26) (.cells #[.int .i64 0, .int .i64 0, .bool false, .int .i64 0, .bool false, .int .i64 0] 26))
  rw [hrt] at hr
  have g1 : decide (verb < 1) = false := decide_eq_false (by omega)
  have g2 : decide (verb > 13) = false := decide_eq_false (by omega)
  have g3 : decide (13 < verb) = false := g2
  clear e2 hrt h1 h2
  simp only [cv, zeroC, bi, if_true, if_false, Bool.false_eq_true] at *
  · skip
    go_enter Tryd.func17, Tryd.ntmps17
    go_wp2_with fail
    refine (hr _ hM0).mono ?_
    rintro e wA ⟨rfl, hbA⟩
    have kb := Blk.below (g := w.heap.size) (t := 26) (cs := #[.int .i64 l, .int .i64 s0, .bool true, .int .i64 s1, .bool w1, .int .i64 t]) (by exact (Blk.new _ _ _).alloc _) hbA (by simp; omega)
    have kz := Blk.below (g := w.heap.size + 1) (t := 26) (cs := #[.int .i64 0, .int .i64 0, .bool false, .int .i64 0, .bool false, .int .i64 0]) (by exact Blk.new2 _ _ _ _) hbA (by simp)
    have hbA := bt (ba2 _ _ _) hbA
    have d0 := kb.cell 0
    have d1 := kb.cell 1
    have d2 := kb.cell 2
    have d3 := kb.cell 3
    have d4 := kb.cell 4
    have d5 := kb.cell 5
    simp only [List.getElem?_toArray, List.getElem?_cons_zero, List.getElem?_cons_succ] at d0 d1 d2 d3 d4 d5
    go_wp2_with fail
    refine (hs _).mono ?_
    rintro e wB ⟨rfl, rfl⟩
    go_wp2_with fail
    clear d0 d1 d2 d3 d4 d5
    refine wp_region_invT (F := ?FD) (V := VDa w.heap.size 1 0 true) (dead := fun _ => none) (T := fun _ _ => True) (C := fun u' => (Blk u' w.heap.size 26 #[.int .i64 l, .int .i64 s0, .bool true, .int .i64 s1, .bool w1, .int .i64 t] ∧ Blk u' (w.heap.size + 1) 26 #[.int .i64 0, .int .i64 0, .bool false, .int .i64 0, .bool false, .int .i64 0]) ∧ Below wA.heap.size wA u') (E := fun _ _ _ => True) (by kernel_rfl) (by kernel_rfl) (by kernel_rfl) (fun x => ?hFD) ?hmonoD ?hTmD ?hTD ?hCD ?stepD ?finD
    case hFD => simp only [mkA, Act.put, List.setIfInBounds_toArray, List.set_cons_succ, List.set_cons_zero, Nat.reduceAdd, Nat.zero_add]; first | with_reducible rfl | rfl
    case hmonoD => exact fun k i v u u' he hik hwt hdd hv => by unfold VDa at hv ⊢; split at hv <;> exact hv
    case hTmD => exact fun _ _ _ _ _ _ _ _ => trivial
    case hTD => exact fun j => trivial
    case hCD => exact ⟨⟨kb, kz⟩, below_drew _⟩
    case stepD =>
      refine AllOps.cons (fun x u hC hT hp K hK => ?_) ?_
      · clear hp hT
        go_simp
        refine hK _ _ _ hC trivial (by exact rfl) ?_
        first | (simp only [Act.put, List.setIfInBounds_toArray, List.set_cons_succ, List.set_cons_zero]; done) | simp [Act.put]
      refine AllOps.cons (fun x u hC hT hp K hK => ?_) ?_
      · clear hp hT
        go_simp
        refine hK _ _ _ hC trivial (by exact rfl) ?_
        first | (simp only [Act.put, List.setIfInBounds_toArray, List.set_cons_succ, List.set_cons_zero]; done) | simp [Act.put]
      refine AllOps.cons (fun x u hC hT hp K hK => ?_) ?_
      · simp [KnownTill, Region.binds, VDa] at hp
        clear hT
        go_simp
        refine hK _ _ _ hC trivial (by exact rfl) ?_
        first | (simp only [Act.put, List.setIfInBounds_toArray, List.set_cons_succ, List.set_cons_zero, hp]; done) | simp [Act.put, hp]
      refine AllOps.cons (fun x u hC hT hp K hK => ?_) ?_
      · simp [KnownTill, Region.binds, VDa] at hp
        clear hT
        go_simp
        refine hK _ _ _ hC trivial (by exact rfl) ?_
        first | (simp only [Act.put, List.setIfInBounds_toArray, List.set_cons_succ, List.set_cons_zero, hp]; done) | simp [Act.put, hp]
      refine AllOps.cons (fun x u hC hT hp K hK => ?_) ?_
      · simp [KnownTill, Region.binds, VDa] at hp
        clear hT
        have ca := hC.1.1.cell 2
        simp at ca
        go_simp
        refine hK _ _ _ hC trivial (by exact rfl) ?_
        first | (simp only [Act.put, List.setIfInBounds_toArray, List.set_cons_succ, List.set_cons_zero, hp]; done) | simp [Act.put, hp]
      refine AllOps.cons (fun x u hC hT hp K hK => ?_) ?_
      · simp [KnownTill, Region.binds, VDa] at hp
        clear hT
        go_simp
        refine hK _ _ _ hC trivial (by exact rfl) ?_
        first | (simp only [Act.put, List.setIfInBounds_toArray, List.set_cons_succ, List.set_cons_zero, hp]; done) | simp [Act.put, hp]
      refine AllOps.cons (fun x u hC hT hp K hK => ?_) ?_
      · simp [KnownTill, Region.binds, VDa] at hp
        clear hT
        go_simp
        refine hK undef _ _ hC trivial (by exact trivial) ?_
        first | (simp only [Act.put, List.setIfInBounds_toArray, List.set_cons_succ, List.set_cons_zero, hp]; done) | simp [Act.put, hp]
      refine AllOps.cons (fun x u hC hT hp K hK => ?_) ?_
      · simp [KnownTill, Region.binds, VDa] at hp
        clear hT
        go_simp
        refine hK undef _ _ hC trivial (by exact trivial) ?_
        first | (simp only [Act.put, List.setIfInBounds_toArray, List.set_cons_succ, List.set_cons_zero, hp]; done) | simp [Act.put, hp]
      refine AllOps.cons (fun x u hC hT hp K hK => ?_) ?_
      · simp [KnownTill, Region.binds, VDa] at hp
        clear hT
        go_simp
        refine hK undef _ _ hC trivial (by exact trivial) ?_
        first | (simp only [Act.put, List.setIfInBounds_toArray, List.set_cons_succ, List.set_cons_zero, hp]; done) | simp [Act.put, hp]
      refine AllOps.cons (fun x u hC hT hp K hK => ?_) ?_
      · simp [KnownTill, Region.binds, VDa] at hp
        clear hT
        go_simp
        refine hK undef _ _ hC trivial (by exact trivial) ?_
        first | (simp only [Act.put, List.setIfInBounds_toArray, List.set_cons_succ, List.set_cons_zero, hp]; done) | simp [Act.put, hp]
      refine AllOps.cons (fun x u hC hT hp K hK => ?_) ?_
      · simp [KnownTill, Region.binds, VDa] at hp
        clear hT
        go_simp
        refine hK undef _ _ hC trivial (by exact trivial) ?_
        first | (simp only [Act.put, List.setIfInBounds_toArray, List.set_cons_succ, List.set_cons_zero, hp]; done) | simp [Act.put, hp]
      refine AllOps.cons (fun x u hC hT hp K hK => ?_) ?_
      · simp [KnownTill, Region.binds, VDa] at hp
        clear hT
        go_simp
        refine hK undef _ _ hC trivial (by exact trivial) ?_
        first | (simp only [Act.put, List.setIfInBounds_toArray, List.set_cons_succ, List.set_cons_zero, hp]; done) | simp [Act.put, hp]
      refine AllOps.cons (fun x u hC hT hp K hK => ?_) ?_
      · simp [KnownTill, Region.binds, VDa] at hp
        clear hT
        go_simp
        refine hK undef _ _ hC trivial (by exact trivial) ?_
        first | (simp only [Act.put, List.setIfInBounds_toArray, List.set_cons_succ, List.set_cons_zero, hp]; done) | simp [Act.put, hp]
      refine AllOps.cons (fun x u hC hT hp K hK => ?_) ?_
      · simp [KnownTill, Region.binds, VDa] at hp
        clear hT
        go_simp
        refine hK undef _ _ hC trivial (by exact trivial) ?_
        first | (simp only [Act.put, List.setIfInBounds_toArray, List.set_cons_succ, List.set_cons_zero, hp]; done) | simp [Act.put, hp]
      refine AllOps.cons (fun x u hC hT hp K hK => ?_) ?_
      · simp [KnownTill, Region.binds, VDa] at hp
        clear hT
        go_simp
        refine hK undef _ _ hC trivial (by exact trivial) ?_
        first | (simp only [Act.put, List.setIfInBounds_toArray, List.set_cons_succ, List.set_cons_zero, hp]; done) | simp [Act.put, hp]
      refine AllOps.cons (fun x u hC hT hp K hK => ?_) ?_
      · simp [KnownTill, Region.binds, VDa] at hp
        clear hT
        go_simp
        refine hK undef _ _ hC trivial (by exact trivial) ?_
        first | (simp only [Act.put, List.setIfInBounds_toArray, List.set_cons_succ, List.set_cons_zero, hp]; done) | simp [Act.put, hp]
      refine AllOps.cons (fun x u hC hT hp K hK => ?_) ?_
      · simp [KnownTill, Region.binds, VDa] at hp
        clear hT
        go_simp
        refine hK _ _ _ hC trivial (by exact rfl) ?_
        first | (simp only [Act.put, List.setIfInBounds_toArray, List.set_cons_succ, List.set_cons_zero, hp]; done) | simp [Act.put, hp]
      refine AllOps.cons (fun x u hC hT hp K hK => ?_) ?_
      · simp [KnownTill, Region.binds, VDa] at hp
        clear hT
        go_simp
        refine hK _ _ _ hC trivial (by exact rfl) ?_
        first | (simp only [Act.put, List.setIfInBounds_toArray, List.set_cons_succ, List.set_cons_zero, hp]; done) | simp [Act.put, hp]
      exact AllOps.nil
    case finD =>
      intro x u hC hV
      have hz : x 17 = .bool true := hV 17 (by decide) rfl
      rw [hz]
      clear hV hz kb kz
      obtain ⟨⟨kb, kz⟩, hbu⟩ := hC
      have hbA := bt hbA hbu
      obtain ⟨c0, f0, c1, f1, c2, f2, c3, f3, c4, f4, c5, f5, r0, r1, r2, r3, r4, r5⟩ := kz.set6 (.int .i64 0) (.int .i64 0) (.bool false) (.int .i64 0) (.bool false) (.int .i64 0)
      have hbb := below_set6 (B := w.heap.size) (w := w) (g := w.heap.size + 1) hbA (by omega) (.int .i64 0) (.int .i64 0) (.bool false) (.int .i64 0) (.bool false) (.int .i64 0)
      go_wp2
      refine bodyPost_ret (by simp [results, Tryd.results17, go_sem, r0, r1, r2, r3, r4, r5]; try rfl) rfl ?_
      exact ⟨rfl, hbb⟩

set_option maxRecDepth 100000 in
set_option maxHeartbeats 4000000 in
theorem do_nf (l s0 : Int) (w0 : Bool) (s1 : Int) (w1 : Bool) (t : Int) (verb : Int) (w : World) (h : Meets w) (hrt : rightM (l, s0, false, s1, w1, t) = true) (h1 : 1 ≤ verb) (h2 : verb ≤ 13) (hmv : mayM verb s0 l = false) : Calls Tryd.prog 17 #[cv (l, s0, false, s1, w1, t), .int .i64 0, .int .i64 verb] w fun e w' => e = .returned (.tuple #[cv (doM (l, s0, false, s1, w1, t) 0 verb).1, .int .i64 (doM (l, s0, false, s1, w1, t) 0 verb).2]) ∧ Below w.heap.size w w' := by
  have hd : doM (l, s0, false, s1, w1, t) 0 verb = (zeroC, 7) := by
    unfold doM
    rw [if_pos (by rw [hrt]; rfl), if_pos ⟨h1, h2⟩]
    exact if_pos (show (false || !mayM verb s0 l) = true by rw [hmv]; rfl)
  rw [hd]
  clear hd
  have hs := fun w => isSide_any 0 w
  have e2 : (((0 : Int) == 0) || ((0 : Int) == 1)) = true := rfl
  rw [e2] at hs
  have hmay := fun w => may_any s0 l w verb h1 h2
  rw [hmv] at hmay
  clear hmv
  have hr := fun w h => right_any l s0 false s1 w1 t w h
  have hM0 := h.bt (ba2 w (.cells #[.int .i64 l, .int .i64 s0, .bool false, .int .i64 s1, .bool w1, .int .i64 t] 26) (.cells #[.int .i64 0, .int .i64 0, .bool false, .int .i64 0, .bool false, .int .i64 0] 26))
  rw [hrt] at hr
  have g1 : decide (verb < 1) = false := decide_eq_false (by omega)
  have g2 : decide (verb > 13) = false := decide_eq_false (by omega)
  have g3 : decide (13 < verb) = false := g2
  clear e2 hrt h1 h2
  simp only [cv, zeroC, bi, if_true, if_false, Bool.false_eq_true] at *
  · skip
    go_enter Tryd.func17, Tryd.ntmps17
    go_wp2_with fail
    refine (hr _ hM0).mono ?_
    rintro e wA ⟨rfl, hbA⟩
    have kb := Blk.below (g := w.heap.size) (t := 26) (cs := #[.int .i64 l, .int .i64 s0, .bool false, .int .i64 s1, .bool w1, .int .i64 t]) (by exact (Blk.new _ _ _).alloc _) hbA (by simp; omega)
    have kz := Blk.below (g := w.heap.size + 1) (t := 26) (cs := #[.int .i64 0, .int .i64 0, .bool false, .int .i64 0, .bool false, .int .i64 0]) (by exact Blk.new2 _ _ _ _) hbA (by simp)
    have hbA := bt (ba2 _ _ _) hbA
    have d0 := kb.cell 0
    have d1 := kb.cell 1
    have d2 := kb.cell 2
    have d3 := kb.cell 3
    have d4 := kb.cell 4
    have d5 := kb.cell 5
    simp only [List.getElem?_toArray, List.getElem?_cons_zero, List.getElem?_cons_succ] at d0 d1 d2 d3 d4 d5
    go_wp2_with fail
    refine (hs _).mono ?_
    rintro e wB ⟨rfl, rfl⟩
    go_wp2_with fail
    clear d0 d1 d2 d3 d4 d5
    refine wp_region_invT (F := ?FD) (V := VDb w.heap.size 1 0 false verb s0 l false) (dead := fun _ => none) (T := fun _ _ => True) (C := fun u' => (Blk u' w.heap.size 26 #[.int .i64 l, .int .i64 s0, .bool false, .int .i64 s1, .bool w1, .int .i64 t] ∧ Blk u' (w.heap.size + 1) 26 #[.int .i64 0, .int .i64 0, .bool false, .int .i64 0, .bool false, .int .i64 0]) ∧ Below wA.heap.size wA u') (E := fun _ _ _ => True) (by kernel_rfl) (by kernel_rfl) (by kernel_rfl) (fun x => ?hFD) ?hmonoD ?hTmD ?hTD ?hCD ?stepD ?finD
    case hFD => simp only [mkA, Act.put, List.setIfInBounds_toArray, List.set_cons_succ, List.set_cons_zero, Nat.reduceAdd, Nat.zero_add]; first | with_reducible rfl | rfl
    case hmonoD => exact fun k i v u u' he hik hwt hdd hv => by unfold VDb at hv ⊢; split at hv <;> exact hv
    case hTmD => exact fun _ _ _ _ _ _ _ _ => trivial
    case hTD => exact fun j => trivial
    case hCD => exact ⟨⟨kb, kz⟩, below_drew _⟩
    case stepD =>
      refine AllOps.cons (fun x u hC hT hp K hK => ?_) ?_
      · clear hp hT
        go_simp
        refine hK _ _ _ hC trivial (by exact rfl) ?_
        first | (simp only [Act.put, List.setIfInBounds_toArray, List.set_cons_succ, List.set_cons_zero]; done) | simp [Act.put]
      refine AllOps.cons (fun x u hC hT hp K hK => ?_) ?_
      · clear hp hT
        go_simp
        refine hK _ _ _ hC trivial (by exact rfl) ?_
        first | (simp only [Act.put, List.setIfInBounds_toArray, List.set_cons_succ, List.set_cons_zero]; done) | simp [Act.put]
      refine AllOps.cons (fun x u hC hT hp K hK => ?_) ?_
      · simp [KnownTill, Region.binds, VDb] at hp
        clear hT
        go_simp
        refine hK _ _ _ hC trivial (by exact rfl) ?_
        first | (simp only [Act.put, List.setIfInBounds_toArray, List.set_cons_succ, List.set_cons_zero, hp]; done) | simp [Act.put, hp]
      refine AllOps.cons (fun x u hC hT hp K hK => ?_) ?_
      · simp [KnownTill, Region.binds, VDb] at hp
        clear hT
        go_simp
        refine hK _ _ _ hC trivial (by exact rfl) ?_
        first | (simp only [Act.put, List.setIfInBounds_toArray, List.set_cons_succ, List.set_cons_zero, hp]; done) | simp [Act.put, hp]
      refine AllOps.cons (fun x u hC hT hp K hK => ?_) ?_
      · simp [KnownTill, Region.binds, VDb] at hp
        clear hT
        have ca := hC.1.1.cell 2
        simp at ca
        go_simp
        refine hK _ _ _ hC trivial (by exact rfl) ?_
        first | (simp only [Act.put, List.setIfInBounds_toArray, List.set_cons_succ, List.set_cons_zero, hp]; done) | simp [Act.put, hp]
      refine AllOps.cons (fun x u hC hT hp K hK => ?_) ?_
      · simp [KnownTill, Region.binds, VDb] at hp
        clear hT
        go_simp
        refine hK _ _ _ hC trivial (by exact rfl) ?_
        first | (simp only [Act.put, List.setIfInBounds_toArray, List.set_cons_succ, List.set_cons_zero, hp]; done) | simp [Act.put, hp]
      refine AllOps.cons (fun x u hC hT hp K hK => ?_) ?_
      · simp [KnownTill, Region.binds, VDb] at hp
        clear hT
        go_simp
        refine hK _ _ _ hC trivial (by exact rfl) ?_
        first | (simp only [Act.put, List.setIfInBounds_toArray, List.set_cons_succ, List.set_cons_zero, hp]; done) | simp [Act.put, hp]
      refine AllOps.cons (fun x u hC hT hp K hK => ?_) ?_
      · simp [KnownTill, Region.binds, VDb] at hp
        clear hT
        go_simp
        refine hK _ _ _ hC trivial (by exact rfl) ?_
        first | (simp only [Act.put, List.setIfInBounds_toArray, List.set_cons_succ, List.set_cons_zero, hp]; done) | simp [Act.put, hp]
      refine AllOps.cons (fun x u hC hT hp K hK => ?_) ?_
      · simp [KnownTill, Region.binds, VDb] at hp
        clear hT
        go_simp
        refine hK _ _ _ hC trivial (by exact rfl) ?_
        first | (simp only [Act.put, List.setIfInBounds_toArray, List.set_cons_succ, List.set_cons_zero, hp]; done) | simp [Act.put, hp]
      refine AllOps.cons (fun x u hC hT hp K hK => ?_) ?_
      · simp [KnownTill, Region.binds, VDb] at hp
        clear hT
        go_simp
        refine hK _ _ _ hC trivial (by exact rfl) ?_
        first | (simp only [Act.put, List.setIfInBounds_toArray, List.set_cons_succ, List.set_cons_zero, hp]; done) | simp [Act.put, hp]
      refine AllOps.cons (fun x u hC hT hp K hK => ?_) ?_
      · simp [KnownTill, Region.binds, VDb] at hp
        clear hT
        go_simp
        refine hK _ _ _ hC trivial (by exact rfl) ?_
        first | (simp only [Act.put, List.setIfInBounds_toArray, List.set_cons_succ, List.set_cons_zero, hp]; done) | simp [Act.put, hp]
      refine AllOps.cons (fun x u hC hT hp K hK => ?_) ?_
      · simp [KnownTill, Region.binds, VDb] at hp
        clear hT
        have ca := hC.1.1.cell 1
        simp at ca
        go_simp
        refine hK _ _ _ hC trivial (by exact rfl) ?_
        first | (simp only [Act.put, List.setIfInBounds_toArray, List.set_cons_succ, List.set_cons_zero, hp]; done) | simp [Act.put, hp]
      refine AllOps.cons (fun x u hC hT hp K hK => ?_) ?_
      · simp [KnownTill, Region.binds, VDb] at hp
        clear hT
        go_simp
        refine hK _ _ _ hC trivial (by exact rfl) ?_
        first | (simp only [Act.put, List.setIfInBounds_toArray, List.set_cons_succ, List.set_cons_zero, hp]; done) | simp [Act.put, hp]
      refine AllOps.cons (fun x u hC hT hp K hK => ?_) ?_
      · simp [KnownTill, Region.binds, VDb] at hp
        clear hT
        have ca := hC.1.1.cell 0
        simp at ca
        go_simp
        refine hK _ _ _ hC trivial (by exact rfl) ?_
        first | (simp only [Act.put, List.setIfInBounds_toArray, List.set_cons_succ, List.set_cons_zero, hp]; done) | simp [Act.put, hp]
      refine AllOps.cons (fun x u hC hT hp K hK => ?_) ?_
      · simp [KnownTill, Region.binds, VDb] at hp
        clear hT
        go_simp
        refine (hmay u).mono ?_
        rintro e wA ⟨rfl, hbu⟩
        refine hK _ _ _ ⟨⟨hC.1.1.below hbu hC.1.1.lt, hC.1.2.below hbu hC.1.2.lt⟩, bt hC.2 hbu⟩ trivial (by exact rfl) ?_
        first | (simp only [Act.put, List.setIfInBounds_toArray, List.set_cons_succ, List.set_cons_zero, hp]; done) | simp [Act.put, hp]
      refine AllOps.cons (fun x u hC hT hp K hK => ?_) ?_
      · simp [KnownTill, Region.binds, VDb] at hp
        clear hT
        go_simp
        refine hK _ _ _ hC trivial (by exact rfl) ?_
        first | (simp only [Act.put, List.setIfInBounds_toArray, List.set_cons_succ, List.set_cons_zero, hp]; done) | simp [Act.put, hp]
      refine AllOps.cons (fun x u hC hT hp K hK => ?_) ?_
      · simp [KnownTill, Region.binds, VDb] at hp
        clear hT
        go_simp
        refine hK _ _ _ hC trivial (by exact rfl) ?_
        first | (simp only [Act.put, List.setIfInBounds_toArray, List.set_cons_succ, List.set_cons_zero, hp]; done) | simp [Act.put, hp]
      refine AllOps.cons (fun x u hC hT hp K hK => ?_) ?_
      · simp [KnownTill, Region.binds, VDb] at hp
        clear hT
        go_simp
        refine hK _ _ _ hC trivial (by exact rfl) ?_
        first | (simp only [Act.put, List.setIfInBounds_toArray, List.set_cons_succ, List.set_cons_zero, hp]; done) | simp [Act.put, hp]
      exact AllOps.nil
    case finD =>
      intro x u hC hV
      have hz : x 17 = .bool true := hV 17 (by decide) rfl
      rw [hz]
      clear hV hz kb kz
      obtain ⟨⟨kb, kz⟩, hbu⟩ := hC
      have hbA := bt hbA hbu
      obtain ⟨c0, f0, c1, f1, c2, f2, c3, f3, c4, f4, c5, f5, r0, r1, r2, r3, r4, r5⟩ := kz.set6 (.int .i64 0) (.int .i64 0) (.bool false) (.int .i64 0) (.bool false) (.int .i64 0)
      have hbb := below_set6 (B := w.heap.size) (w := w) (g := w.heap.size + 1) hbA (by omega) (.int .i64 0) (.int .i64 0) (.bool false) (.int .i64 0) (.bool false) (.int .i64 0)
      go_wp2
      refine bodyPost_ret (by simp [results, Tryd.results17, go_sem, r0, r1, r2, r3, r4, r5]; try rfl) rfl ?_
      exact ⟨rfl, hbb⟩

set_option maxRecDepth 100000 in
set_option maxHeartbeats 4000000 in
theorem do_yf (l s0 : Int) (w0 : Bool) (s1 : Int) (w1 : Bool) (t : Int) (verb : Int) (w : World) (h : Meets w) (hrt : rightM (l, s0, false, s1, w1, t) = true) (h1 : 1 ≤ verb) (h2 : verb ≤ 13) (hmv : mayM verb s0 l = true) (tb : Bool) (ht : t = bi tb) : Calls Tryd.prog 17 #[cv (l, s0, false, s1, w1, t), .int .i64 0, .int .i64 verb] w fun e w' => e = .returned (.tuple #[cv (doM (l, s0, false, s1, w1, t) 0 verb).1, .int .i64 (doM (l, s0, false, s1, w1, t) 0 verb).2]) ∧ Below w.heap.size w w' := by
  have hd : doM (l, s0, false, s1, w1, t) 0 verb = (actM (l, s0, false, s1, w1, t) false verb, 0) := by
    unfold doM
    rw [if_pos (by rw [hrt]; rfl), if_pos ⟨h1, h2⟩]
    exact if_neg (show ¬ (false || !mayM verb s0 l) = true by rw [hmv]; simp)
  rw [hd]
  clear hd
  have hs := fun w => isSide_any 0 w
  have e2 : (((0 : Int) == 0) || ((0 : Int) == 1)) = true := rfl
  rw [e2] at hs
  have hmay := fun w => may_any s0 l w verb h1 h2
  rw [hmv] at hmay
  clear hmv
  have hact := fun w => act_any l s0 false s1 w1 t w false verb h1 h2 tb ht
  clear ht
  obtain ⟨y0, y1, y2, y3, y4, y5, hy⟩ : ∃ y0 y1 y2 y3 y4 y5, actM (l, s0, false, s1, w1, t) false verb = (y0, y1, y2, y3, y4, y5) := ⟨_, _, _, _, _, _, rfl⟩
  simp only [hy] at *
  clear hy
  have hr := fun w h => right_any l s0 false s1 w1 t w h
  have hM0 := h.bt (ba2 w (.cells #[.int .i64 l, .int .i64 s0, .bool false, .int .i64 s1, .bool w1, .int .i64 t] 26) (.cells #[.int .i64 0, .int .i64 0, .bool false, .int .i64 0, .bool false, .int .i64 0] 26))
  rw [hrt] at hr
  have g1 : decide (verb < 1) = false := decide_eq_false (by omega)
  have g2 : decide (verb > 13) = false := decide_eq_false (by omega)
  have g3 : decide (13 < verb) = false := g2
  clear e2 hrt h1 h2
  simp only [cv, zeroC, bi, if_true, if_false, Bool.false_eq_true] at *
  · skip
    go_enter Tryd.func17, Tryd.ntmps17
    go_wp2_with fail
    refine (hr _ hM0).mono ?_
    rintro e wA ⟨rfl, hbA⟩
    have kb := Blk.below (g := w.heap.size) (t := 26) (cs := #[.int .i64 l, .int .i64 s0, .bool false, .int .i64 s1, .bool w1, .int .i64 t]) (by exact (Blk.new _ _ _).alloc _) hbA (by simp; omega)
    have kz := Blk.below (g := w.heap.size + 1) (t := 26) (cs := #[.int .i64 0, .int .i64 0, .bool false, .int .i64 0, .bool false, .int .i64 0]) (by exact Blk.new2 _ _ _ _) hbA (by simp)
    have hbA := bt (ba2 _ _ _) hbA
    have d0 := kb.cell 0
    have d1 := kb.cell 1
    have d2 := kb.cell 2
    have d3 := kb.cell 3
    have d4 := kb.cell 4
    have d5 := kb.cell 5
    simp only [List.getElem?_toArray, List.getElem?_cons_zero, List.getElem?_cons_succ] at d0 d1 d2 d3 d4 d5
    go_wp2_with fail
    refine (hs _).mono ?_
    rintro e wB ⟨rfl, rfl⟩
    go_wp2_with fail
    clear d0 d1 d2 d3 d4 d5
    refine wp_region_invT (F := ?FD) (V := VDb w.heap.size 1 0 false verb s0 l true) (dead := fun _ => none) (T := fun _ _ => True) (C := fun u' => (Blk u' w.heap.size 26 #[.int .i64 l, .int .i64 s0, .bool false, .int .i64 s1, .bool w1, .int .i64 t] ∧ Blk u' (w.heap.size + 1) 26 #[.int .i64 0, .int .i64 0, .bool false, .int .i64 0, .bool false, .int .i64 0]) ∧ Below wA.heap.size wA u') (E := fun _ _ _ => True) (by kernel_rfl) (by kernel_rfl) (by kernel_rfl) (fun x => ?hFD) ?hmonoD ?hTmD ?hTD ?hCD ?stepD ?finD
    case hFD => simp only [mkA, Act.put, List.setIfInBounds_toArray, List.set_cons_succ, List.set_cons_zero, Nat.reduceAdd, Nat.zero_add]; first | with_reducible rfl | rfl
    case hmonoD => exact fun k i v u u' he hik hwt hdd hv => by unfold VDb at hv ⊢; split at hv <;> exact hv
    case hTmD => exact fun _ _ _ _ _ _ _ _ => trivial
    case hTD => exact fun j => trivial
    case hCD => exact ⟨⟨kb, kz⟩, below_drew _⟩
    case stepD =>
      refine AllOps.cons (fun x u hC hT hp K hK => ?_) ?_
      · clear hp hT
        go_simp
        refine hK _ _ _ hC trivial (by exact rfl) ?_
        first | (simp only [Act.put, List.setIfInBounds_toArray, List.set_cons_succ, List.set_cons_zero]; done) | simp [Act.put]
      refine AllOps.cons (fun x u hC hT hp K hK => ?_) ?_
      · clear hp hT
        go_simp
        refine hK _ _ _ hC trivial (by exact rfl) ?_
        first | (simp only [Act.put, List.setIfInBounds_toArray, List.set_cons_succ, List.set_cons_zero]; done) | simp [Act.put]
      refine AllOps.cons (fun x u hC hT hp K hK => ?_) ?_
      · simp [KnownTill, Region.binds, VDb] at hp
        clear hT
        go_simp
        refine hK _ _ _ hC trivial (by exact rfl) ?_
        first | (simp only [Act.put, List.setIfInBounds_toArray, List.set_cons_succ, List.set_cons_zero, hp]; done) | simp [Act.put, hp]
      refine AllOps.cons (fun x u hC hT hp K hK => ?_) ?_
      · simp [KnownTill, Region.binds, VDb] at hp
        clear hT
        go_simp
        refine hK _ _ _ hC trivial (by exact rfl) ?_
        first | (simp only [Act.put, List.setIfInBounds_toArray, List.set_cons_succ, List.set_cons_zero, hp]; done) | simp [Act.put, hp]
      refine AllOps.cons (fun x u hC hT hp K hK => ?_) ?_
      · simp [KnownTill, Region.binds, VDb] at hp
        clear hT
        have ca := hC.1.1.cell 2
        simp at ca
        go_simp
        refine hK _ _ _ hC trivial (by exact rfl) ?_
        first | (simp only [Act.put, List.setIfInBounds_toArray, List.set_cons_succ, List.set_cons_zero, hp]; done) | simp [Act.put, hp]
      refine AllOps.cons (fun x u hC hT hp K hK => ?_) ?_
      · simp [KnownTill, Region.binds, VDb] at hp
        clear hT
        go_simp
        refine hK _ _ _ hC trivial (by exact rfl) ?_
        first | (simp only [Act.put, List.setIfInBounds_toArray, List.set_cons_succ, List.set_cons_zero, hp]; done) | simp [Act.put, hp]
      refine AllOps.cons (fun x u hC hT hp K hK => ?_) ?_
      · simp [KnownTill, Region.binds, VDb] at hp
        clear hT
        go_simp
        refine hK _ _ _ hC trivial (by exact rfl) ?_
        first | (simp only [Act.put, List.setIfInBounds_toArray, List.set_cons_succ, List.set_cons_zero, hp]; done) | simp [Act.put, hp]
      refine AllOps.cons (fun x u hC hT hp K hK => ?_) ?_
      · simp [KnownTill, Region.binds, VDb] at hp
        clear hT
        go_simp
        refine hK _ _ _ hC trivial (by exact rfl) ?_
        first | (simp only [Act.put, List.setIfInBounds_toArray, List.set_cons_succ, List.set_cons_zero, hp]; done) | simp [Act.put, hp]
      refine AllOps.cons (fun x u hC hT hp K hK => ?_) ?_
      · simp [KnownTill, Region.binds, VDb] at hp
        clear hT
        go_simp
        refine hK _ _ _ hC trivial (by exact rfl) ?_
        first | (simp only [Act.put, List.setIfInBounds_toArray, List.set_cons_succ, List.set_cons_zero, hp]; done) | simp [Act.put, hp]
      refine AllOps.cons (fun x u hC hT hp K hK => ?_) ?_
      · simp [KnownTill, Region.binds, VDb] at hp
        clear hT
        go_simp
        refine hK _ _ _ hC trivial (by exact rfl) ?_
        first | (simp only [Act.put, List.setIfInBounds_toArray, List.set_cons_succ, List.set_cons_zero, hp]; done) | simp [Act.put, hp]
      refine AllOps.cons (fun x u hC hT hp K hK => ?_) ?_
      · simp [KnownTill, Region.binds, VDb] at hp
        clear hT
        go_simp
        refine hK _ _ _ hC trivial (by exact rfl) ?_
        first | (simp only [Act.put, List.setIfInBounds_toArray, List.set_cons_succ, List.set_cons_zero, hp]; done) | simp [Act.put, hp]
      refine AllOps.cons (fun x u hC hT hp K hK => ?_) ?_
      · simp [KnownTill, Region.binds, VDb] at hp
        clear hT
        have ca := hC.1.1.cell 1
        simp at ca
        go_simp
        refine hK _ _ _ hC trivial (by exact rfl) ?_
        first | (simp only [Act.put, List.setIfInBounds_toArray, List.set_cons_succ, List.set_cons_zero, hp]; done) | simp [Act.put, hp]
      refine AllOps.cons (fun x u hC hT hp K hK => ?_) ?_
      · simp [KnownTill, Region.binds, VDb] at hp
        clear hT
        go_simp
        refine hK _ _ _ hC trivial (by exact rfl) ?_
        first | (simp only [Act.put, List.setIfInBounds_toArray, List.set_cons_succ, List.set_cons_zero, hp]; done) | simp [Act.put, hp]
      refine AllOps.cons (fun x u hC hT hp K hK => ?_) ?_
      · simp [KnownTill, Region.binds, VDb] at hp
        clear hT
        have ca := hC.1.1.cell 0
        simp at ca
        go_simp
        refine hK _ _ _ hC trivial (by exact rfl) ?_
        first | (simp only [Act.put, List.setIfInBounds_toArray, List.set_cons_succ, List.set_cons_zero, hp]; done) | simp [Act.put, hp]
      refine AllOps.cons (fun x u hC hT hp K hK => ?_) ?_
      · simp [KnownTill, Region.binds, VDb] at hp
        clear hT
        go_simp
        refine (hmay u).mono ?_
        rintro e wA ⟨rfl, hbu⟩
        refine hK _ _ _ ⟨⟨hC.1.1.below hbu hC.1.1.lt, hC.1.2.below hbu hC.1.2.lt⟩, bt hC.2 hbu⟩ trivial (by exact rfl) ?_
        first | (simp only [Act.put, List.setIfInBounds_toArray, List.set_cons_succ, List.set_cons_zero, hp]; done) | simp [Act.put, hp]
      refine AllOps.cons (fun x u hC hT hp K hK => ?_) ?_
      · simp [KnownTill, Region.binds, VDb] at hp
        clear hT
        go_simp
        refine hK _ _ _ hC trivial (by exact rfl) ?_
        first | (simp only [Act.put, List.setIfInBounds_toArray, List.set_cons_succ, List.set_cons_zero, hp]; done) | simp [Act.put, hp]
      refine AllOps.cons (fun x u hC hT hp K hK => ?_) ?_
      · simp [KnownTill, Region.binds, VDb] at hp
        clear hT
        go_simp
        refine hK _ _ _ hC trivial (by exact rfl) ?_
        first | (simp only [Act.put, List.setIfInBounds_toArray, List.set_cons_succ, List.set_cons_zero, hp]; done) | simp [Act.put, hp]
      refine AllOps.cons (fun x u hC hT hp K hK => ?_) ?_
      · simp [KnownTill, Region.binds, VDb] at hp
        clear hT
        go_simp
        refine hK _ _ _ hC trivial (by exact rfl) ?_
        first | (simp only [Act.put, List.setIfInBounds_toArray, List.set_cons_succ, List.set_cons_zero, hp]; done) | simp [Act.put, hp]
      exact AllOps.nil
    case finD =>
      intro x u hC hV
      have hz : x 17 = .bool false := hV 17 (by decide) rfl
      rw [hz]
      clear hV hz kb kz
      obtain ⟨⟨kb, kz⟩, hbu⟩ := hC
      have hbA := bt hbA hbu
      have d0 := kb.cell 0
      have d1 := kb.cell 1
      have d2 := kb.cell 2
      have d3 := kb.cell 3
      have d4 := kb.cell 4
      have d5 := kb.cell 5
      simp only [List.getElem?_toArray, List.getElem?_cons_zero, List.getElem?_cons_succ] at d0 d1 d2 d3 d4 d5
      go_wp2_with fail
      refine (hact _).mono ?_
      rintro e wB ⟨rfl, hbB⟩
      have kz := kz.below hbB kz.lt
      have hbA := bt hbA hbB
      obtain ⟨c0, f0, c1, f1, c2, f2, c3, f3, c4, f4, c5, f5, r0, r1, r2, r3, r4, r5⟩ := kz.set6 (.int .i64 y0) (.int .i64 y1) (.bool y2) (.int .i64 y3) (.bool y4) (.int .i64 y5)
      have hbb := below_set6 (B := w.heap.size) (w := w) (g := w.heap.size + 1) hbA (by omega) (.int .i64 y0) (.int .i64 y1) (.bool y2) (.int .i64 y3) (.bool y4) (.int .i64 y5)
      go_wp2
      refine bodyPost_ret (by simp [results, Tryd.results17, go_sem, r0, r1, r2, r3, r4, r5]; try rfl) rfl ?_
      exact ⟨rfl, hbb⟩

set_option maxRecDepth 100000 in
set_option maxHeartbeats 4000000 in
theorem do_wt (l s0 : Int) (w0 : Bool) (s1 : Int) (w1 : Bool) (t : Int) (verb : Int) (w : World) (h : Meets w) (hrt : rightM (l, s0, w0, s1, true, t) = true) (h1 : 1 ≤ verb) (h2 : verb ≤ 13) : Calls Tryd.prog 17 #[cv (l, s0, w0, s1, true, t), .int .i64 1, .int .i64 verb] w fun e w' => e = .returned (.tuple #[cv (doM (l, s0, w0, s1, true, t) 1 verb).1, .int .i64 (doM (l, s0, w0, s1, true, t) 1 verb).2]) ∧ Below w.heap.size w w' := by
  have hd : doM (l, s0, w0, s1, true, t) 1 verb = (zeroC, 7) := by
    unfold doM
    rw [if_pos (by rw [hrt]; rfl), if_pos ⟨h1, h2⟩]
    exact if_pos rfl
  rw [hd]
  clear hd
  have hs := fun w => isSide_any 1 w
  have e2 : (((1 : Int) == 0) || ((1 : Int) == 1)) = true := rfl
  rw [e2] at hs
  have hr := fun w h => right_any l s0 w0 s1 true t w h
  have hM0 := h.bt (ba2 w (.cells #[.int .i64 l, .int .i64 s0, .bool w0, .int .i64 s1, .bool true, .int .i64 t] 26) (.cells #[.int .i64 0, .int .i64 0, .bool false, .int .i64 0, .bool false, .int .i64 0] 26))
  rw [hrt] at hr
  have g1 : decide (verb < 1) = false := decide_eq_false (by omega)
  have g2 : decide (verb > 13) = false := decide_eq_false (by omega)
  have g3 : decide (13 < verb) = false := g2
  clear e2 hrt h1 h2
  simp only [cv, zeroC, bi, if_true, if_false, Bool.false_eq_true] at *
  · skip
    go_enter Tryd.func17, Tryd.ntmps17
    go_wp2_with fail
    refine (hr _ hM0).mono ?_
    rintro e wA ⟨rfl, hbA⟩
    have kb := Blk.below (g := w.heap.size) (t := 26) (cs := #[.int .i64 l, .int .i64 s0, .bool w0, .int .i64 s1, .bool true, .int .i64 t]) (by exact (Blk.new _ _ _).alloc _) hbA (by simp; omega)
    have kz := Blk.below (g := w.heap.size + 1) (t := 26) (cs := #[.int .i64 0, .int .i64 0, .bool false, .int .i64 0, .bool false, .int .i64 0]) (by exact Blk.new2 _ _ _ _) hbA (by simp)
    have hbA := bt (ba2 _ _ _) hbA
    have d0 := kb.cell 0
    have d1 := kb.cell 1
    have d2 := kb.cell 2
    have d3 := kb.cell 3
    have d4 := kb.cell 4
    have d5 := kb.cell 5
    simp only [List.getElem?_toArray, List.getElem?_cons_zero, List.getElem?_cons_succ] at d0 d1 d2 d3 d4 d5
    go_wp2_with fail
    refine (hs _).mono ?_
    rintro e wB ⟨rfl, rfl⟩
    go_wp2_with fail
    clear d0 d1 d2 d3 d4 d5
    refine wp_region_invT (F := ?FD) (V := VDa w.heap.size 3 1 true) (dead := fun _ => none) (T := fun _ _ => True) (C := fun u' => (Blk u' w.heap.size 26 #[.int .i64 l, .int .i64 s0, .bool w0, .int .i64 s1, .bool true, .int .i64 t] ∧ Blk u' (w.heap.size + 1) 26 #[.int .i64 0, .int .i64 0, .bool false, .int .i64 0, .bool false, .int .i64 0]) ∧ Below wA.heap.size wA u') (E := fun _ _ _ => True) (by kernel_rfl) (by kernel_rfl) (by kernel_rfl) (fun x => ?hFD) ?hmonoD ?hTmD ?hTD ?hCD ?stepD ?finD
    case hFD => simp only [mkA, Act.put, List.setIfInBounds_toArray, List.set_cons_succ, List.set_cons_zero, Nat.reduceAdd, Nat.zero_add]; first | with_reducible rfl | rfl
    case hmonoD => exact fun k i v u u' he hik hwt hdd hv => by unfold VDa at hv ⊢; split at hv <;> exact hv
    case hTmD => exact fun _ _ _ _ _ _ _ _ => trivial
    case hTD => exact fun j => trivial
    case hCD => exact ⟨⟨kb, kz⟩, below_drew _⟩
    case stepD =>
      refine AllOps.cons (fun x u hC hT hp K hK => ?_) ?_
      · clear hp hT
        go_simp
        refine hK _ _ _ hC trivial (by exact rfl) ?_
        first | (simp only [Act.put, List.setIfInBounds_toArray, List.set_cons_succ, List.set_cons_zero]; done) | simp [Act.put]
      refine AllOps.cons (fun x u hC hT hp K hK => ?_) ?_
      · clear hp hT
        go_simp
        refine hK _ _ _ hC trivial (by exact rfl) ?_
        first | (simp only [Act.put, List.setIfInBounds_toArray, List.set_cons_succ, List.set_cons_zero]; done) | simp [Act.put]
      refine AllOps.cons (fun x u hC hT hp K hK => ?_) ?_
      · simp [KnownTill, Region.binds, VDa] at hp
        clear hT
        go_simp
        refine hK _ _ _ hC trivial (by exact rfl) ?_
        first | (simp only [Act.put, List.setIfInBounds_toArray, List.set_cons_succ, List.set_cons_zero, hp]; done) | simp [Act.put, hp]
      refine AllOps.cons (fun x u hC hT hp K hK => ?_) ?_
      · simp [KnownTill, Region.binds, VDa] at hp
        clear hT
        go_simp
        refine hK _ _ _ hC trivial (by exact rfl) ?_
        first | (simp only [Act.put, List.setIfInBounds_toArray, List.set_cons_succ, List.set_cons_zero, hp]; done) | simp [Act.put, hp]
      refine AllOps.cons (fun x u hC hT hp K hK => ?_) ?_
      · simp [KnownTill, Region.binds, VDa] at hp
        clear hT
        have ca := hC.1.1.cell 4
        simp at ca
        go_simp
        refine hK _ _ _ hC trivial (by exact rfl) ?_
        first | (simp only [Act.put, List.setIfInBounds_toArray, List.set_cons_succ, List.set_cons_zero, hp]; done) | simp [Act.put, hp]
      refine AllOps.cons (fun x u hC hT hp K hK => ?_) ?_
      · simp [KnownTill, Region.binds, VDa] at hp
        clear hT
        go_simp
        refine hK _ _ _ hC trivial (by exact rfl) ?_
        first | (simp only [Act.put, List.setIfInBounds_toArray, List.set_cons_succ, List.set_cons_zero, hp]; done) | simp [Act.put, hp]
      refine AllOps.cons (fun x u hC hT hp K hK => ?_) ?_
      · simp [KnownTill, Region.binds, VDa] at hp
        clear hT
        go_simp
        refine hK undef _ _ hC trivial (by exact trivial) ?_
        first | (simp only [Act.put, List.setIfInBounds_toArray, List.set_cons_succ, List.set_cons_zero, hp]; done) | simp [Act.put, hp]
      refine AllOps.cons (fun x u hC hT hp K hK => ?_) ?_
      · simp [KnownTill, Region.binds, VDa] at hp
        clear hT
        go_simp
        refine hK undef _ _ hC trivial (by exact trivial) ?_
        first | (simp only [Act.put, List.setIfInBounds_toArray, List.set_cons_succ, List.set_cons_zero, hp]; done) | simp [Act.put, hp]
      refine AllOps.cons (fun x u hC hT hp K hK => ?_) ?_
      · simp [KnownTill, Region.binds, VDa] at hp
        clear hT
        go_simp
        refine hK undef _ _ hC trivial (by exact trivial) ?_
        first | (simp only [Act.put, List.setIfInBounds_toArray, List.set_cons_succ, List.set_cons_zero, hp]; done) | simp [Act.put, hp]
      refine AllOps.cons (fun x u hC hT hp K hK => ?_) ?_
      · simp [KnownTill, Region.binds, VDa] at hp
        clear hT
        go_simp
        refine hK undef _ _ hC trivial (by exact trivial) ?_
        first | (simp only [Act.put, List.setIfInBounds_toArray, List.set_cons_succ, List.set_cons_zero, hp]; done) | simp [Act.put, hp]
      refine AllOps.cons (fun x u hC hT hp K hK => ?_) ?_
      · simp [KnownTill, Region.binds, VDa] at hp
        clear hT
        go_simp
        refine hK undef _ _ hC trivial (by exact trivial) ?_
        first | (simp only [Act.put, List.setIfInBounds_toArray, List.set_cons_succ, List.set_cons_zero, hp]; done) | simp [Act.put, hp]
      refine AllOps.cons (fun x u hC hT hp K hK => ?_) ?_
      · simp [KnownTill, Region.binds, VDa] at hp
        clear hT
        go_simp
        refine hK undef _ _ hC trivial (by exact trivial) ?_
        first | (simp only [Act.put, List.setIfInBounds_toArray, List.set_cons_succ, List.set_cons_zero, hp]; done) | simp [Act.put, hp]
      refine AllOps.cons (fun x u hC hT hp K hK => ?_) ?_
      · simp [KnownTill, Region.binds, VDa] at hp
        clear hT
        go_simp
        refine hK undef _ _ hC trivial (by exact trivial) ?_
        first | (simp only [Act.put, List.setIfInBounds_toArray, List.set_cons_succ, List.set_cons_zero, hp]; done) | simp [Act.put, hp]
      refine AllOps.cons (fun x u hC hT hp K hK => ?_) ?_
      · simp [KnownTill, Region.binds, VDa] at hp
        clear hT
        go_simp
        refine hK undef _ _ hC trivial (by exact trivial) ?_
        first | (simp only [Act.put, List.setIfInBounds_toArray, List.set_cons_succ, List.set_cons_zero, hp]; done) | simp [Act.put, hp]
      refine AllOps.cons (fun x u hC hT hp K hK => ?_) ?_
      · simp [KnownTill, Region.binds, VDa] at hp
        clear hT
        go_simp
        refine hK undef _ _ hC trivial (by exact trivial) ?_
        first | (simp only [Act.put, List.setIfInBounds_toArray, List.set_cons_succ, List.set_cons_zero, hp]; done) | simp [Act.put, hp]
      refine AllOps.cons (fun x u hC hT hp K hK => ?_) ?_
      · simp [KnownTill, Region.binds, VDa] at hp
        clear hT
        go_simp
        refine hK undef _ _ hC trivial (by exact trivial) ?_
        first | (simp only [Act.put, List.setIfInBounds_toArray, List.set_cons_succ, List.set_cons_zero, hp]; done) | simp [Act.put, hp]
      refine AllOps.cons (fun x u hC hT hp K hK => ?_) ?_
      · simp [KnownTill, Region.binds, VDa] at hp
        clear hT
        go_simp
        refine hK _ _ _ hC trivial (by exact rfl) ?_
        first | (simp only [Act.put, List.setIfInBounds_toArray, List.set_cons_succ, List.set_cons_zero, hp]; done) | simp [Act.put, hp]
      refine AllOps.cons (fun x u hC hT hp K hK => ?_) ?_
      · simp [KnownTill, Region.binds, VDa] at hp
        clear hT
        go_simp
        refine hK _ _ _ hC trivial (by exact rfl) ?_
        first | (simp only [Act.put, List.setIfInBounds_toArray, List.set_cons_succ, List.set_cons_zero, hp]; done) | simp [Act.put, hp]
      exact AllOps.nil
    case finD =>
      intro x u hC hV
      have hz : x 17 = .bool true := hV 17 (by decide) rfl
      rw [hz]
      clear hV hz kb kz
      obtain ⟨⟨kb, kz⟩, hbu⟩ := hC
      have hbA := bt hbA hbu
      obtain ⟨c0, f0, c1, f1, c2, f2, c3, f3, c4, f4, c5, f5, r0, r1, r2, r3, r4, r5⟩ := kz.set6 (.int .i64 0) (.int .i64 0) (.bool false) (.int .i64 0) (.bool false) (.int .i64 0)
      have hbb := below_set6 (B := w.heap.size) (w := w) (g := w.heap.size + 1) hbA (by omega) (.int .i64 0) (.int .i64 0) (.bool false) (.int .i64 0) (.bool false) (.int .i64 0)
      go_wp2
      refine bodyPost_ret (by simp [results, Tryd.results17, go_sem, r0, r1, r2, r3, r4, r5]; try rfl) rfl ?_
      exact ⟨rfl, hbb⟩

set_option maxRecDepth 100000 in
set_option maxHeartbeats 4000000 in
theorem do_nt (l s0 : Int) (w0 : Bool) (s1 : Int) (w1 : Bool) (t : Int) (verb : Int) (w : World) (h : Meets w) (hrt : rightM (l, s0, w0, s1, false, t) = true) (h1 : 1 ≤ verb) (h2 : verb ≤ 13) (hmv : mayM verb s1 l = false) : Calls Tryd.prog 17 #[cv (l, s0, w0, s1, false, t), .int .i64 1, .int .i64 verb] w fun e w' => e = .returned (.tuple #[cv (doM (l, s0, w0, s1, false, t) 1 verb).1, .int .i64 (doM (l, s0, w0, s1, false, t) 1 verb).2]) ∧ Below w.heap.size w w' := by
  have hd : doM (l, s0, w0, s1, false, t) 1 verb = (zeroC, 7) := by
    unfold doM
    rw [if_pos (by rw [hrt]; rfl), if_pos ⟨h1, h2⟩]
    exact if_pos (show (false || !mayM verb s1 l) = true by rw [hmv]; rfl)
  rw [hd]
  clear hd
  have hs := fun w => isSide_any 1 w
  have e2 : (((1 : Int) == 0) || ((1 : Int) == 1)) = true := rfl
  rw [e2] at hs
  have hmay := fun w => may_any s1 l w verb h1 h2
  rw [hmv] at hmay
  clear hmv
  have hr := fun w h => right_any l s0 w0 s1 false t w h
  have hM0 := h.bt (ba2 w (.cells #[.int .i64 l, .int .i64 s0, .bool w0, .int .i64 s1, .bool false, .int .i64 t] 26) (.cells #[.int .i64 0, .int .i64 0, .bool false, .int .i64 0, .bool false, .int .i64 0] 26))
  rw [hrt] at hr
  have g1 : decide (verb < 1) = false := decide_eq_false (by omega)
  have g2 : decide (verb > 13) = false := decide_eq_false (by omega)
  have g3 : decide (13 < verb) = false := g2
  clear e2 hrt h1 h2
  simp only [cv, zeroC, bi, if_true, if_false, Bool.false_eq_true] at *
  · skip
    go_enter Tryd.func17, Tryd.ntmps17
    go_wp2_with fail
    refine (hr _ hM0).mono ?_
    rintro e wA ⟨rfl, hbA⟩
    have kb := Blk.below (g := w.heap.size) (t := 26) (cs := #[.int .i64 l, .int .i64 s0, .bool w0, .int .i64 s1, .bool false, .int .i64 t]) (by exact (Blk.new _ _ _).alloc _) hbA (by simp; omega)
    have kz := Blk.below (g := w.heap.size + 1) (t := 26) (cs := #[.int .i64 0, .int .i64 0, .bool false, .int .i64 0, .bool false, .int .i64 0]) (by exact Blk.new2 _ _ _ _) hbA (by simp)
    have hbA := bt (ba2 _ _ _) hbA
    have d0 := kb.cell 0
    have d1 := kb.cell 1
    have d2 := kb.cell 2
    have d3 := kb.cell 3
    have d4 := kb.cell 4
    have d5 := kb.cell 5
    simp only [List.getElem?_toArray, List.getElem?_cons_zero, List.getElem?_cons_succ] at d0 d1 d2 d3 d4 d5
    go_wp2_with fail
    refine (hs _).mono ?_
    rintro e wB ⟨rfl, rfl⟩
    go_wp2_with fail
    clear d0 d1 d2 d3 d4 d5
    refine wp_region_invT (F := ?FD) (V := VDb w.heap.size 3 1 false verb s1 l false) (dead := fun _ => none) (T := fun _ _ => True) (C := fun u' => (Blk u' w.heap.size 26 #[.int .i64 l, .int .i64 s0, .bool w0, .int .i64 s1, .bool false, .int .i64 t] ∧ Blk u' (w.heap.size + 1) 26 #[.int .i64 0, .int .i64 0, .bool false, .int .i64 0, .bool false, .int .i64 0]) ∧ Below wA.heap.size wA u') (E := fun _ _ _ => True) (by kernel_rfl) (by kernel_rfl) (by kernel_rfl) (fun x => ?hFD) ?hmonoD ?hTmD ?hTD ?hCD ?stepD ?finD
    case hFD => simp only [mkA, Act.put, List.setIfInBounds_toArray, List.set_cons_succ, List.set_cons_zero, Nat.reduceAdd, Nat.zero_add]; first | with_reducible rfl | rfl
    case hmonoD => exact fun k i v u u' he hik hwt hdd hv => by unfold VDb at hv ⊢; split at hv <;> exact hv
    case hTmD => exact fun _ _ _ _ _ _ _ _ => trivial
    case hTD => exact fun j => trivial
    case hCD => exact ⟨⟨kb, kz⟩, below_drew _⟩
    case stepD =>
      refine AllOps.cons (fun x u hC hT hp K hK => ?_) ?_
      · clear hp hT
        go_simp
        refine hK _ _ _ hC trivial (by exact rfl) ?_
        first | (simp only [Act.put, List.setIfInBounds_toArray, List.set_cons_succ, List.set_cons_zero]; done) | simp [Act.put]
      refine AllOps.cons (fun x u hC hT hp K hK => ?_) ?_
      · clear hp hT
        go_simp
        refine hK _ _ _ hC trivial (by exact rfl) ?_
        first | (simp only [Act.put, List.setIfInBounds_toArray, List.set_cons_succ, List.set_cons_zero]; done) | simp [Act.put]
      refine AllOps.cons (fun x u hC hT hp K hK => ?_) ?_
      · simp [KnownTill, Region.binds, VDb] at hp
        clear hT
        go_simp
        refine hK _ _ _ hC trivial (by exact rfl) ?_
        first | (simp only [Act.put, List.setIfInBounds_toArray, List.set_cons_succ, List.set_cons_zero, hp]; done) | simp [Act.put, hp]
      refine AllOps.cons (fun x u hC hT hp K hK => ?_) ?_
      · simp [KnownTill, Region.binds, VDb] at hp
        clear hT
        go_simp
        refine hK _ _ _ hC trivial (by exact rfl) ?_
        first | (simp only [Act.put, List.setIfInBounds_toArray, List.set_cons_succ, List.set_cons_zero, hp]; done) | simp [Act.put, hp]
      refine AllOps.cons (fun x u hC hT hp K hK => ?_) ?_
      · simp [KnownTill, Region.binds, VDb] at hp
        clear hT
        have ca := hC.1.1.cell 4
        simp at ca
        go_simp
        refine hK _ _ _ hC trivial (by exact rfl) ?_
        first | (simp only [Act.put, List.setIfInBounds_toArray, List.set_cons_succ, List.set_cons_zero, hp]; done) | simp [Act.put, hp]
      refine AllOps.cons (fun x u hC hT hp K hK => ?_) ?_
      · simp [KnownTill, Region.binds, VDb] at hp
        clear hT
        go_simp
        refine hK _ _ _ hC trivial (by exact rfl) ?_
        first | (simp only [Act.put, List.setIfInBounds_toArray, List.set_cons_succ, List.set_cons_zero, hp]; done) | simp [Act.put, hp]
      refine AllOps.cons (fun x u hC hT hp K hK => ?_) ?_
      · simp [KnownTill, Region.binds, VDb] at hp
        clear hT
        go_simp
        refine hK _ _ _ hC trivial (by exact rfl) ?_
        first | (simp only [Act.put, List.setIfInBounds_toArray, List.set_cons_succ, List.set_cons_zero, hp]; done) | simp [Act.put, hp]
      refine AllOps.cons (fun x u hC hT hp K hK => ?_) ?_
      · simp [KnownTill, Region.binds, VDb] at hp
        clear hT
        go_simp
        refine hK _ _ _ hC trivial (by exact rfl) ?_
        first | (simp only [Act.put, List.setIfInBounds_toArray, List.set_cons_succ, List.set_cons_zero, hp]; done) | simp [Act.put, hp]
      refine AllOps.cons (fun x u hC hT hp K hK => ?_) ?_
      · simp [KnownTill, Region.binds, VDb] at hp
        clear hT
        go_simp
        refine hK _ _ _ hC trivial (by exact rfl) ?_
        first | (simp only [Act.put, List.setIfInBounds_toArray, List.set_cons_succ, List.set_cons_zero, hp]; done) | simp [Act.put, hp]
      refine AllOps.cons (fun x u hC hT hp K hK => ?_) ?_
      · simp [KnownTill, Region.binds, VDb] at hp
        clear hT
        go_simp
        refine hK _ _ _ hC trivial (by exact rfl) ?_
        first | (simp only [Act.put, List.setIfInBounds_toArray, List.set_cons_succ, List.set_cons_zero, hp]; done) | simp [Act.put, hp]
      refine AllOps.cons (fun x u hC hT hp K hK => ?_) ?_
      · simp [KnownTill, Region.binds, VDb] at hp
        clear hT
        go_simp
        refine hK _ _ _ hC trivial (by exact rfl) ?_
        first | (simp only [Act.put, List.setIfInBounds_toArray, List.set_cons_succ, List.set_cons_zero, hp]; done) | simp [Act.put, hp]
      refine AllOps.cons (fun x u hC hT hp K hK => ?_) ?_
      · simp [KnownTill, Region.binds, VDb] at hp
        clear hT
        have ca := hC.1.1.cell 3
        simp at ca
        go_simp
        refine hK _ _ _ hC trivial (by exact rfl) ?_
        first | (simp only [Act.put, List.setIfInBounds_toArray, List.set_cons_succ, List.set_cons_zero, hp]; done) | simp [Act.put, hp]
      refine AllOps.cons (fun x u hC hT hp K hK => ?_) ?_
      · simp [KnownTill, Region.binds, VDb] at hp
        clear hT
        go_simp
        refine hK _ _ _ hC trivial (by exact rfl) ?_
        first | (simp only [Act.put, List.setIfInBounds_toArray, List.set_cons_succ, List.set_cons_zero, hp]; done) | simp [Act.put, hp]
      refine AllOps.cons (fun x u hC hT hp K hK => ?_) ?_
      · simp [KnownTill, Region.binds, VDb] at hp
        clear hT
        have ca := hC.1.1.cell 0
        simp at ca
        go_simp
        refine hK _ _ _ hC trivial (by exact rfl) ?_
        first | (simp only [Act.put, List.setIfInBounds_toArray, List.set_cons_succ, List.set_cons_zero, hp]; done) | simp [Act.put, hp]
      refine AllOps.cons (fun x u hC hT hp K hK => ?_) ?_
      · simp [KnownTill, Region.binds, VDb] at hp
        clear hT
        go_simp
        refine (hmay u).mono ?_
        rintro e wA ⟨rfl, hbu⟩
        refine hK _ _ _ ⟨⟨hC.1.1.below hbu hC.1.1.lt, hC.1.2.below hbu hC.1.2.lt⟩, bt hC.2 hbu⟩ trivial (by exact rfl) ?_
        first | (simp only [Act.put, List.setIfInBounds_toArray, List.set_cons_succ, List.set_cons_zero, hp]; done) | simp [Act.put, hp]
      refine AllOps.cons (fun x u hC hT hp K hK => ?_) ?_
      · simp [KnownTill, Region.binds, VDb] at hp
        clear hT
        go_simp
        refine hK _ _ _ hC trivial (by exact rfl) ?_
        first | (simp only [Act.put, List.setIfInBounds_toArray, List.set_cons_succ, List.set_cons_zero, hp]; done) | simp [Act.put, hp]
      refine AllOps.cons (fun x u hC hT hp K hK => ?_) ?_
      · simp [KnownTill, Region.binds, VDb] at hp
        clear hT
        go_simp
        refine hK _ _ _ hC trivial (by exact rfl) ?_
        first | (simp only [Act.put, List.setIfInBounds_toArray, List.set_cons_succ, List.set_cons_zero, hp]; done) | simp [Act.put, hp]
      refine AllOps.cons (fun x u hC hT hp K hK => ?_) ?_
      · simp [KnownTill, Region.binds, VDb] at hp
        clear hT
        go_simp
        refine hK _ _ _ hC trivial (by exact rfl) ?_
        first | (simp only [Act.put, List.setIfInBounds_toArray, List.set_cons_succ, List.set_cons_zero, hp]; done) | simp [Act.put, hp]
      exact AllOps.nil
    case finD =>
      intro x u hC hV
      have hz : x 17 = .bool true := hV 17 (by decide) rfl
      rw [hz]
      clear hV hz kb kz
      obtain ⟨⟨kb, kz⟩, hbu⟩ := hC
      have hbA := bt hbA hbu
      obtain ⟨c0, f0, c1, f1, c2, f2, c3, f3, c4, f4, c5, f5, r0, r1, r2, r3, r4, r5⟩ := kz.set6 (.int .i64 0) (.int .i64 0) (.bool false) (.int .i64 0) (.bool false) (.int .i64 0)
      have hbb := below_set6 (B := w.heap.size) (w := w) (g := w.heap.size + 1) hbA (by omega) (.int .i64 0) (.int .i64 0) (.bool false) (.int .i64 0) (.bool false) (.int .i64 0)
      go_wp2
      refine bodyPost_ret (by simp [results, Tryd.results17, go_sem, r0, r1, r2, r3, r4, r5]; try rfl) rfl ?_
      exact ⟨rfl, hbb⟩

set_option maxRecDepth 100000 in
set_option maxHeartbeats 4000000 in
theorem do_yt (l s0 : Int) (w0 : Bool) (s1 : Int) (w1 : Bool) (t : Int) (verb : Int) (w : World) (h : Meets w) (hrt : rightM (l, s0, w0, s1, false, t) = true) (h1 : 1 ≤ verb) (h2 : verb ≤ 13) (hmv : mayM verb s1 l = true) (tb : Bool) (ht : t = bi tb) : Calls Tryd.prog 17 #[cv (l, s0, w0, s1, false, t), .int .i64 1, .int .i64 verb] w fun e w' => e = .returned (.tuple #[cv (doM (l, s0, w0, s1, false, t) 1 verb).1, .int .i64 (doM (l, s0, w0, s1, false, t) 1 verb).2]) ∧ Below w.heap.size w w' := by
  have hd : doM (l, s0, w0, s1, false, t) 1 verb = (actM (l, s0, w0, s1, false, t) true verb, 0) := by
    unfold doM
    rw [if_pos (by rw [hrt]; rfl), if_pos ⟨h1, h2⟩]
    exact if_neg (show ¬ (false || !mayM verb s1 l) = true by rw [hmv]; simp)
  rw [hd]
  clear hd
  have hs := fun w => isSide_any 1 w
  have e2 : (((1 : Int) == 0) || ((1 : Int) == 1)) = true := rfl
  rw [e2] at hs
  have hmay := fun w => may_any s1 l w verb h1 h2
  rw [hmv] at hmay
  clear hmv
  have hact := fun w => act_any l s0 w0 s1 false t w true verb h1 h2 tb ht
  clear ht
  obtain ⟨y0, y1, y2, y3, y4, y5, hy⟩ : ∃ y0 y1 y2 y3 y4 y5, actM (l, s0, w0, s1, false, t) true verb = (y0, y1, y2, y3, y4, y5) := ⟨_, _, _, _, _, _, rfl⟩
  simp only [hy] at *
  clear hy
  have hr := fun w h => right_any l s0 w0 s1 false t w h
  have hM0 := h.bt (ba2 w (.cells #[.int .i64 l, .int .i64 s0, .bool w0, .int .i64 s1, .bool false, .int .i64 t] 26) (.cells #[.int .i64 0, .int .i64 0, .bool false, .int .i64 0, .bool false, .int .i64 0] 26))
  rw [hrt] at hr
  have g1 : decide (verb < 1) = false := decide_eq_false (by omega)
  have g2 : decide (verb > 13) = false := decide_eq_false (by omega)
  have g3 : decide (13 < verb) = false := g2
  clear e2 hrt h1 h2
  simp only [cv, zeroC, bi, if_true, if_false, Bool.false_eq_true] at *
  · skip
    go_enter Tryd.func17, Tryd.ntmps17
    go_wp2_with fail
    refine (hr _ hM0).mono ?_
    rintro e wA ⟨rfl, hbA⟩
    have kb := Blk.below (g := w.heap.size) (t := 26) (cs := #[.int .i64 l, .int .i64 s0, .bool w0, .int .i64 s1, .bool false, .int .i64 t]) (by exact (Blk.new _ _ _).alloc _) hbA (by simp; omega)
    have kz := Blk.below (g := w.heap.size + 1) (t := 26) (cs := #[.int .i64 0, .int .i64 0, .bool false, .int .i64 0, .bool false, .int .i64 0]) (by exact Blk.new2 _ _ _ _) hbA (by simp)
    have hbA := bt (ba2 _ _ _) hbA
    have d0 := kb.cell 0
    have d1 := kb.cell 1
    have d2 := kb.cell 2
    have d3 := kb.cell 3
    have d4 := kb.cell 4
    have d5 := kb.cell 5
    simp only [List.getElem?_toArray, List.getElem?_cons_zero, List.getElem?_cons_succ] at d0 d1 d2 d3 d4 d5
    go_wp2_with fail
    refine (hs _).mono ?_
    rintro e wB ⟨rfl, rfl⟩
    go_wp2_with fail
    clear d0 d1 d2 d3 d4 d5
    refine wp_region_invT (F := ?FD) (V := VDb w.heap.size 3 1 false verb s1 l true) (dead := fun _ => none) (T := fun _ _ => True) (C := fun u' => (Blk u' w.heap.size 26 #[.int .i64 l, .int .i64 s0, .bool w0, .int .i64 s1, .bool false, .int .i64 t] ∧ Blk u' (w.heap.size + 1) 26 #[.int .i64 0, .int .i64 0, .bool false, .int .i64 0, .bool false, .int .i64 0]) ∧ Below wA.heap.size wA u') (E := fun _ _ _ => True) (by kernel_rfl) (by kernel_rfl) (by kernel_rfl) (fun x => ?hFD) ?hmonoD ?hTmD ?hTD ?hCD ?stepD ?finD
    case hFD => simp only [mkA, Act.put, List.setIfInBounds_toArray, List.set_cons_succ, List.set_cons_zero, Nat.reduceAdd, Nat.zero_add]; first | with_reducible rfl | rfl
    case hmonoD => exact fun k i v u u' he hik hwt hdd hv => by unfold VDb at hv ⊢; split at hv <;> exact hv
    case hTmD => exact fun _ _ _ _ _ _ _ _ => trivial
    case hTD => exact fun j => trivial
    case hCD => exact ⟨⟨kb, kz⟩, below_drew _⟩
    case stepD =>
      refine AllOps.cons (fun x u hC hT hp K hK => ?_) ?_
      · clear hp hT
        go_simp
        refine hK _ _ _ hC trivial (by exact rfl) ?_
        first | (simp only [Act.put, List.setIfInBounds_toArray, List.set_cons_succ, List.set_cons_zero]; done) | simp [Act.put]
      refine AllOps.cons (fun x u hC hT hp K hK => ?_) ?_
      · clear hp hT
        go_simp
        refine hK _ _ _ hC trivial (by exact rfl) ?_
        first | (simp only [Act.put, List.setIfInBounds_toArray, List.set_cons_succ, List.set_cons_zero]; done) | simp [Act.put]
      refine AllOps.cons (fun x u hC hT hp K hK => ?_) ?_
      · simp [KnownTill, Region.binds, VDb] at hp
        clear hT
        go_simp
        refine hK _ _ _ hC trivial (by exact rfl) ?_
        first | (simp only [Act.put, List.setIfInBounds_toArray, List.set_cons_succ, List.set_cons_zero, hp]; done) | simp [Act.put, hp]
      refine AllOps.cons (fun x u hC hT hp K hK => ?_) ?_
      · simp [KnownTill, Region.binds, VDb] at hp
        clear hT
        go_simp
        refine hK _ _ _ hC trivial (by exact rfl) ?_
        first | (simp only [Act.put, List.setIfInBounds_toArray, List.set_cons_succ, List.set_cons_zero, hp]; done) | simp [Act.put, hp]
      refine AllOps.cons (fun x u hC hT hp K hK => ?_) ?_
      · simp [KnownTill, Region.binds, VDb] at hp
        clear hT
        have ca := hC.1.1.cell 4
        simp at ca
        go_simp
        refine hK _ _ _ hC trivial (by exact rfl) ?_
        first | (simp only [Act.put, List.setIfInBounds_toArray, List.set_cons_succ, List.set_cons_zero, hp]; done) | simp [Act.put, hp]
      refine AllOps.cons (fun x u hC hT hp K hK => ?_) ?_
      · simp [KnownTill, Region.binds, VDb] at hp
        clear hT
        go_simp
        refine hK _ _ _ hC trivial (by exact rfl) ?_
        first | (simp only [Act.put, List.setIfInBounds_toArray, List.set_cons_succ, List.set_cons_zero, hp]; done) | simp [Act.put, hp]
      refine AllOps.cons (fun x u hC hT hp K hK => ?_) ?_
      · simp [KnownTill, Region.binds, VDb] at hp
        clear hT
        go_simp
        refine hK _ _ _ hC trivial (by exact rfl) ?_
        first | (simp only [Act.put, List.setIfInBounds_toArray, List.set_cons_succ, List.set_cons_zero, hp]; done) | simp [Act.put, hp]
      refine AllOps.cons (fun x u hC hT hp K hK => ?_) ?_
      · simp [KnownTill, Region.binds, VDb] at hp
        clear hT
        go_simp
        refine hK _ _ _ hC trivial (by exact rfl) ?_
        first | (simp only [Act.put, List.setIfInBounds_toArray, List.set_cons_succ, List.set_cons_zero, hp]; done) | simp [Act.put, hp]
      refine AllOps.cons (fun x u hC hT hp K hK => ?_) ?_
      · simp [KnownTill, Region.binds, VDb] at hp
        clear hT
        go_simp
        refine hK _ _ _ hC trivial (by exact rfl) ?_
        first | (simp only [Act.put, List.setIfInBounds_toArray, List.set_cons_succ, List.set_cons_zero, hp]; done) | simp [Act.put, hp]
      refine AllOps.cons (fun x u hC hT hp K hK => ?_) ?_
      · simp [KnownTill, Region.binds, VDb] at hp
        clear hT
        go_simp
        refine hK _ _ _ hC trivial (by exact rfl) ?_
        first | (simp only [Act.put, List.setIfInBounds_toArray, List.set_cons_succ, List.set_cons_zero, hp]; done) | simp [Act.put, hp]
      refine AllOps.cons (fun x u hC hT hp K hK => ?_) ?_
      · simp [KnownTill, Region.binds, VDb] at hp
        clear hT
        go_simp
        refine hK _ _ _ hC trivial (by exact rfl) ?_
        first | (simp only [Act.put, List.setIfInBounds_toArray, List.set_cons_succ, List.set_cons_zero, hp]; done) | simp [Act.put, hp]
      refine AllOps.cons (fun x u hC hT hp K hK => ?_) ?_
      · simp [KnownTill, Region.binds, VDb] at hp
        clear hT
        have ca := hC.1.1.cell 3
        simp at ca
        go_simp
        refine hK _ _ _ hC trivial (by exact rfl) ?_
        first | (simp only [Act.put, List.setIfInBounds_toArray, List.set_cons_succ, List.set_cons_zero, hp]; done) | simp [Act.put, hp]
      refine AllOps.cons (fun x u hC hT hp K hK => ?_) ?_
      · simp [KnownTill, Region.binds, VDb] at hp
        clear hT
        go_simp
        refine hK _ _ _ hC trivial (by exact rfl) ?_
        first | (simp only [Act.put, List.setIfInBounds_toArray, List.set_cons_succ, List.set_cons_zero, hp]; done) | simp [Act.put, hp]
      refine AllOps.cons (fun x u hC hT hp K hK => ?_) ?_
      · simp [KnownTill, Region.binds, VDb] at hp
        clear hT
        have ca := hC.1.1.cell 0
        simp at ca
        go_simp
        refine hK _ _ _ hC trivial (by exact rfl) ?_
        first | (simp only [Act.put, List.setIfInBounds_toArray, List.set_cons_succ, List.set_cons_zero, hp]; done) | simp [Act.put, hp]
      refine AllOps.cons (fun x u hC hT hp K hK => ?_) ?_
      · simp [KnownTill, Region.binds, VDb] at hp
        clear hT
        go_simp
        refine (hmay u).mono ?_
        rintro e wA ⟨rfl, hbu⟩
        refine hK _ _ _ ⟨⟨hC.1.1.below hbu hC.1.1.lt, hC.1.2.below hbu hC.1.2.lt⟩, bt hC.2 hbu⟩ trivial (by exact rfl) ?_
        first | (simp only [Act.put, List.setIfInBounds_toArray, List.set_cons_succ, List.set_cons_zero, hp]; done) | simp [Act.put, hp]
      refine AllOps.cons (fun x u hC hT hp K hK => ?_) ?_
      · simp [KnownTill, Region.binds, VDb] at hp
        clear hT
        go_simp
        refine hK _ _ _ hC trivial (by exact rfl) ?_
        first | (simp only [Act.put, List.setIfInBounds_toArray, List.set_cons_succ, List.set_cons_zero, hp]; done) | simp [Act.put, hp]
      refine AllOps.cons (fun x u hC hT hp K hK => ?_) ?_
      · simp [KnownTill, Region.binds, VDb] at hp
        clear hT
        go_simp
        refine hK _ _ _ hC trivial (by exact rfl) ?_
        first | (simp only [Act.put, List.setIfInBounds_toArray, List.set_cons_succ, List.set_cons_zero, hp]; done) | simp [Act.put, hp]
      refine AllOps.cons (fun x u hC hT hp K hK => ?_) ?_
      · simp [KnownTill, Region.binds, VDb] at hp
        clear hT
        go_simp
        refine hK _ _ _ hC trivial (by exact rfl) ?_
        first | (simp only [Act.put, List.setIfInBounds_toArray, List.set_cons_succ, List.set_cons_zero, hp]; done) | simp [Act.put, hp]
      exact AllOps.nil
    case finD =>
      intro x u hC hV
      have hz : x 17 = .bool false := hV 17 (by decide) rfl
      rw [hz]
      clear hV hz kb kz
      obtain ⟨⟨kb, kz⟩, hbu⟩ := hC
      have hbA := bt hbA hbu
      have d0 := kb.cell 0
      have d1 := kb.cell 1
      have d2 := kb.cell 2
      have d3 := kb.cell 3
      have d4 := kb.cell 4
      have d5 := kb.cell 5
      simp only [List.getElem?_toArray, List.getElem?_cons_zero, List.getElem?_cons_succ] at d0 d1 d2 d3 d4 d5
      go_wp2_with fail
      refine (hact _).mono ?_
      rintro e wB ⟨rfl, hbB⟩
      have kz := kz.below hbB kz.lt
      have hbA := bt hbA hbB
      obtain ⟨c0, f0, c1, f1, c2, f2, c3, f3, c4, f4, c5, f5, r0, r1, r2, r3, r4, r5⟩ := kz.set6 (.int .i64 y0) (.int .i64 y1) (.bool y2) (.int .i64 y3) (.bool y4) (.int .i64 y5)
      have hbb := below_set6 (B := w.heap.size) (w := w) (g := w.heap.size + 1) hbA (by omega) (.int .i64 y0) (.int .i64 y1) (.bool y2) (.int .i64 y3) (.bool y4) (.int .i64 y5)
      go_wp2
      refine bodyPost_ret (by simp [results, Tryd.results17, go_sem, r0, r1, r2, r3, r4, r5]; try rfl) rfl ?_
      exact ⟨rfl, hbb⟩

theorem do_any (l s0 : Int) (w0 : Bool) (s1 : Int) (w1 : Bool) (t : Int) (side verb : Int) (w : World) (h : Meets w) : Calls Tryd.prog 17 #[cv (l, s0, w0, s1, w1, t), .int .i64 side, .int .i64 verb] w fun e w' => e = .returned (.tuple #[cv (doM (l, s0, w0, s1, w1, t) side verb).1, .int .i64 (doM (l, s0, w0, s1, w1, t) side verb).2]) ∧ Below w.heap.size w w' := by
  rcases hb : (rightM (l, s0, w0, s1, w1, t) && sdM side) with _ | _
  · exact do_bad l s0 w0 s1 w1 t side verb w h hb
  · have hR : rightM (l, s0, w0, s1, w1, t) = true := by revert hb; cases rightM (l, s0, w0, s1, w1, t) <;> simp
    have hS : sdM side = true := by revert hb; cases sdM side <;> simp
    have hT : sdM t = true := by
      revert hR
      show (lvM l && (sdM t && _)) = true → _
      cases lvM l <;> cases sdM t <;> simp
    have hsd : side = 0 ∨ side = 1 := by simpa [sdM] using hS
    have htd : t = 0 ∨ t = 1 := by simpa [sdM] using hT
    obtain ⟨tb, ht⟩ : ∃ tb, t = bi tb := by
      rcases htd with rfl | rfl
      · exact ⟨false, rfl⟩
      · exact ⟨true, rfl⟩
    by_cases hv : 1 ≤ verb ∧ verb ≤ 13
    · rcases hsd with rfl | rfl
      · cases w0
        · rcases hm : mayM verb s0 l with _ | _
          · exact do_nf l s0 false s1 w1 t verb w h hR hv.1 hv.2 hm
          · exact do_yf l s0 false s1 w1 t verb w h hR hv.1 hv.2 hm tb ht
        · exact do_wf l s0 true s1 w1 t verb w h hR hv.1 hv.2
      · cases w1
        · rcases hm : mayM verb s1 l with _ | _
          · exact do_nt l s0 w0 s1 false t verb w h hR hv.1 hv.2 hm
          · exact do_yt l s0 w0 s1 false t verb w h hR hv.1 hv.2 hm tb ht
        · exact do_wt l s0 w0 s1 true t verb w h hR hv.1 hv.2
    · rcases hsd with rfl | rfl
      · exact do_verb l s0 w0 s1 w1 t false verb w h hR hv
      · exact do_verb l s0 w0 s1 w1 t true verb w h hR hv
end Go.Proofs.YtfhfbekphmnbgaaDoor
