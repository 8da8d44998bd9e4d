/- Layer 10: what a verb makes of any conversation is told (P10.2). -/
import Derived.Test.YtfhfbekphmnbgaaDoorVl
import Derived.Test.YtfhfbekphmnbgaaDoorWb
namespace Go.Proofs.YtfhfbekphmnbgaaDoor
open Go.RowKit
set_option linter.unusedVariables false
set_option linter.unusedSimpArgs false

def VDo (X RX : Value) (E : Int) (i : Nat) (v : Value) (w : World) : Prop :=
  match i with
  | 0 => v = .bool true
  | 1 => v = .bool true
  | 2 => v = X
  | 3 => v = RX
  | 4 => v = RX
  | 5 => v = .bool true
  | 6 => v = .bool true
  | 7 => v = .bool true
  | 8 => v = .int .i64 E
  | 9 => v = .int .i64 E
  | 10 => v = .bool true
  | 11 => v = .bool true
  | 12 => v = .bool true
  | _ => True

set_option maxRecDepth 100000 in
set_option maxHeartbeats 8000000 in
theorem convDoes_walk (l s0 : Int) (w0 : Bool) (s1 : Int) (w1 : Bool) (t : Int) (side verb : Int) (w : World) (hM : Meets w) : Calls Tryd.prog 4 #[cv (l, s0, w0, s1, w1, t), .int .i64 side, .int .i64 verb] w fun e w' => e = .returned (.bool true) ∧ Below w.heap.size w w' := by
  have ha := fun w h => alive_any w h
  have hd := fun w h => do_any l s0 w0 s1 w1 t side verb w h
  have hrd := fun w => refdo_any l s0 w0 s1 w1 t side verb w
  obtain ⟨⟨y0, y1, y2, y3, y4, y5⟩, E, hy⟩ : ∃ d E, doM (l, s0, w0, s1, w1, t) side verb = (d, E) := ⟨_, _, rfl⟩
  rw [hy] at hd hrd
  have hax := fun w => as_any y0 y1 y2 y3 y4 y5 w
  have hac := fun w => as_any l s0 w0 s1 w1 t w
  have hee := eqR y0 y1 y3 y2 y4 y5
  clear hy
  simp only [cv, rv] at *
  go_enter Tryd.func4, Tryd.ntmps4
  have hbw := Below.refl w.heap.size w
  have kb := Blk.new w 26 #[.int .i64 l, .int .i64 s0, .bool w0, .int .i64 s1, .bool w1, .int .i64 t]
  have hbw := bt hbw (ba w (.cells #[.int .i64 l, .int .i64 s0, .bool w0, .int .i64 s1, .bool w1, .int .i64 t] 26))
  have hM := hM.bt (ba w (.cells #[.int .i64 l, .int .i64 s0, .bool w0, .int .i64 s1, .bool w1, .int .i64 t] 26))
  have cb0 := kb.cell 0
  have cb1 := kb.cell 1
  have cb2 := kb.cell 2
  have cb3 := kb.cell 3
  have cb4 := kb.cell 4
  have cb5 := kb.cell 5
  simp only [List.getElem?_toArray, List.getElem?_cons_zero, List.getElem?_cons_succ] at cb0 cb1 cb2 cb3 cb4 cb5
  go_wp2_with fail
  refine (hd _ hM).mono ?_
  rintro e v1 ⟨rfl, hb⟩
  have kb := kb.below hb kb.lt
  have hbw := bt hbw hb
  have hM := hM.bt hb
  clear hb
  clear cb0 cb1 cb2 cb3 cb4 cb5
  have kb := kb.alloc (.cells #[.int .i64 y0, .int .i64 y1, .bool y2, .int .i64 y3, .bool y4, .int .i64 y5] 26)
  have kx := Blk.new v1 26 #[.int .i64 y0, .int .i64 y1, .bool y2, .int .i64 y3, .bool y4, .int .i64 y5]
  have hbw := bt hbw (ba v1 (.cells #[.int .i64 y0, .int .i64 y1, .bool y2, .int .i64 y3, .bool y4, .int .i64 y5] 26))
  have hM := hM.bt (ba v1 (.cells #[.int .i64 y0, .int .i64 y1, .bool y2, .int .i64 y3, .bool y4, .int .i64 y5] 26))
  have cb0 := kb.cell 0
  have cb1 := kb.cell 1
  have cb2 := kb.cell 2
  have cb3 := kb.cell 3
  have cb4 := kb.cell 4
  have cb5 := kb.cell 5
  simp only [List.getElem?_toArray, List.getElem?_cons_zero, List.getElem?_cons_succ] at cb0 cb1 cb2 cb3 cb4 cb5
  have cx0 := kx.cell 0
  have cx1 := kx.cell 1
  have cx2 := kx.cell 2
  have cx3 := kx.cell 3
  have cx4 := kx.cell 4
  have cx5 := kx.cell 5
  simp only [List.getElem?_toArray, List.getElem?_cons_zero, List.getElem?_cons_succ] at cx0 cx1 cx2 cx3 cx4 cx5
  go_wp2_with fail
  refine (hac _).mono ?_
  rintro e v2 ⟨rfl, hb⟩
  have kb := kb.below hb kb.lt
  have kx := kx.below hb kx.lt
  have hbw := bt hbw hb
  have hM := hM.bt hb
  clear hb
  clear cb0 cb1 cb2 cb3 cb4 cb5 cx0 cx1 cx2 cx3 cx4 cx5
  have cb0 := kb.cell 0
  have cb1 := kb.cell 1
  have cb2 := kb.cell 2
  have cb3 := kb.cell 3
  have cb4 := kb.cell 4
  have cb5 := kb.cell 5
  simp only [List.getElem?_toArray, List.getElem?_cons_zero, List.getElem?_cons_succ] at cb0 cb1 cb2 cb3 cb4 cb5
  have cx0 := kx.cell 0
  have cx1 := kx.cell 1
  have cx2 := kx.cell 2
  have cx3 := kx.cell 3
  have cx4 := kx.cell 4
  have cx5 := kx.cell 5
  simp only [List.getElem?_toArray, List.getElem?_cons_zero, List.getElem?_cons_succ] at cx0 cx1 cx2 cx3 cx4 cx5
  go_wp2_with fail
  refine (hrd _).mono ?_
  rintro e v3 ⟨rfl, hb⟩
  have kb := kb.below hb kb.lt
  have kx := kx.below hb kx.lt
  have hbw := bt hbw hb
  have hM := hM.bt hb
  clear hb
  clear cb0 cb1 cb2 cb3 cb4 cb5 cx0 cx1 cx2 cx3 cx4 cx5
  have kb := kb.alloc (.cells #[.int .i64 y0, .int .i64 y1, .int .i64 y3, .bool y2, .bool y4, .int .i64 y5] 33)
  have kx := kx.alloc (.cells #[.int .i64 y0, .int .i64 y1, .int .i64 y3, .bool y2, .bool y4, .int .i64 y5] 33)
  have ky := Blk.new v3 33 #[.int .i64 y0, .int .i64 y1, .int .i64 y3, .bool y2, .bool y4, .int .i64 y5]
  have hbw := bt hbw (ba v3 (.cells #[.int .i64 y0, .int .i64 y1, .int .i64 y3, .bool y2, .bool y4, .int .i64 y5] 33))
  have hM := hM.bt (ba v3 (.cells #[.int .i64 y0, .int .i64 y1, .int .i64 y3, .bool y2, .bool y4, .int .i64 y5] 33))
  have cb0 := kb.cell 0
  have cb1 := kb.cell 1
  have cb2 := kb.cell 2
  have cb3 := kb.cell 3
  have cb4 := kb.cell 4
  have cb5 := kb.cell 5
  simp only [List.getElem?_toArray, List.getElem?_cons_zero, List.getElem?_cons_succ] at cb0 cb1 cb2 cb3 cb4 cb5
  have cx0 := kx.cell 0
  have cx1 := kx.cell 1
  have cx2 := kx.cell 2
  have cx3 := kx.cell 3
  have cx4 := kx.cell 4
  have cx5 := kx.cell 5
  simp only [List.getElem?_toArray, List.getElem?_cons_zero, List.getElem?_cons_succ] at cx0 cx1 cx2 cx3 cx4 cx5
  have cy0 := ky.cell 0
  have cy1 := ky.cell 1
  have cy2 := ky.cell 2
  have cy3 := ky.cell 3
  have cy4 := ky.cell 4
  have cy5 := ky.cell 5
  simp only [List.getElem?_toArray, List.getElem?_cons_zero, List.getElem?_cons_succ] at cy0 cy1 cy2 cy3 cy4 cy5
  go_wp2_with fail
  clear cb0 cb1 cb2 cb3 cb4 cb5 cx0 cx1 cx2 cx3 cx4 cx5 cy0 cy1 cy2 cy3 cy4 cy5
  refine wp_region_invT (F := ?FG) (V := VDo (.agg #[.int .i64 y0, .int .i64 y1, .bool y2, .int .i64 y3, .bool y4, .int .i64 y5]) (.agg #[.int .i64 y0, .int .i64 y1, .int .i64 y3, .bool y2, .bool y4, .int .i64 y5]) E) (dead := fun _ => none) (T := fun _ _ => True) (C := fun u' => ((Blk u' w.heap.size 26 #[.int .i64 l, .int .i64 s0, .bool w0, .int .i64 s1, .bool w1, .int .i64 t] ∧ (Blk u' v1.heap.size 26 #[.int .i64 y0, .int .i64 y1, .bool y2, .int .i64 y3, .bool y4, .int .i64 y5] ∧ Blk u' v3.heap.size 33 #[.int .i64 y0, .int .i64 y1, .int .i64 y3, .bool y2, .bool y4, .int .i64 y5])) ∧ Meets u') ∧ Below w.heap.size w u') (E := fun _ _ _ => True) (by kernel_rfl) (by kernel_rfl) (by kernel_rfl) (fun x => ?hFG) ?hmonoG ?hTmG ?hTG ?hCG ?stepG ?finG
  case hFG => simp only [mkA, Act.put, List.setIfInBounds_toArray, List.set_cons_succ, List.set_cons_zero, Nat.reduceAdd, Nat.zero_add]; first | with_reducible rfl | rfl
  case hmonoG => exact fun k i v u u' he hik hwt hdd hv => by unfold VDo at hv ⊢; split at hv <;> exact hv
  case hTmG => exact fun _ _ _ _ _ _ _ _ => trivial
  case hTG => exact fun j => trivial
  case hCG => exact ⟨⟨⟨kb, kx, ky⟩, hM.bt (below_drew _)⟩, bt hbw (below_drew _)⟩
  case stepG =>
    refine AllOps.cons (fun x u hC hT hp K hK => ?_) ?_
    · clear hp hT
      go_simp
      refine (ha u hC.1.2).mono ?_
      rintro e wA ⟨rfl, hbu⟩
      refine hK _ _ _ ⟨⟨⟨hC.1.1.1.below hbu hC.1.1.1.lt, hC.1.1.2.1.below hbu hC.1.1.2.1.lt, hC.1.1.2.2.below hbu hC.1.1.2.2.lt⟩, hC.1.2.bt hbu⟩, bt hC.2 hbu⟩ trivial (by exact rfl) ?_
      first | (simp only [Act.put, List.setIfInBounds_toArray, List.set_cons_succ, List.set_cons_zero]; done) | simp [Act.put]
    refine AllOps.cons (fun x u hC hT hp K hK => ?_) ?_
    · simp [KnownTill, Region.binds, VDo] at hp
      clear hT
      go_simp
      refine hK _ _ _ hC trivial (by exact rfl) ?_
      first | (simp only [Act.put, List.setIfInBounds_toArray, List.set_cons_succ, List.set_cons_zero, hp]; done) | simp [Act.put, hp]
    refine AllOps.cons (fun x u hC hT hp K hK => ?_) ?_
    · simp [KnownTill, Region.binds, VDo] at hp
      clear hT
      have ca0 := (hC.1.1.2.1).cell 0
      have ca1 := (hC.1.1.2.1).cell 1
      have ca2 := (hC.1.1.2.1).cell 2
      have ca3 := (hC.1.1.2.1).cell 3
      have ca4 := (hC.1.1.2.1).cell 4
      have ca5 := (hC.1.1.2.1).cell 5
      simp only [List.getElem?_toArray, List.getElem?_cons_zero, List.getElem?_cons_succ] at ca0 ca1 ca2 ca3 ca4 ca5
      go_simp
      refine hK _ _ _ hC trivial (by exact rfl) ?_
      first | (simp only [Act.put, List.setIfInBounds_toArray, List.set_cons_succ, List.set_cons_zero, hp]; done) | simp [Act.put, hp]
    refine AllOps.cons (fun x u hC hT hp K hK => ?_) ?_
    · simp [KnownTill, Region.binds, VDo] at hp
      clear hT
      go_simp
      refine (hax u).mono ?_
      rintro e wA ⟨rfl, hbu⟩
      refine hK _ _ _ ⟨⟨⟨hC.1.1.1.below hbu hC.1.1.1.lt, hC.1.1.2.1.below hbu hC.1.1.2.1.lt, hC.1.1.2.2.below hbu hC.1.1.2.2.lt⟩, hC.1.2.bt hbu⟩, bt hC.2 hbu⟩ trivial (by exact rfl) ?_
      first | (simp only [Act.put, List.setIfInBounds_toArray, List.set_cons_succ, List.set_cons_zero, hp]; done) | simp [Act.put, hp]
    refine AllOps.cons (fun x u hC hT hp K hK => ?_) ?_
    · simp [KnownTill, Region.binds, VDo] at hp
      clear hT
      have ca0 := (hC.1.1.2.2).cell 0
      have ca1 := (hC.1.1.2.2).cell 1
      have ca2 := (hC.1.1.2.2).cell 2
      have ca3 := (hC.1.1.2.2).cell 3
      have ca4 := (hC.1.1.2.2).cell 4
      have ca5 := (hC.1.1.2.2).cell 5
      simp only [List.getElem?_toArray, List.getElem?_cons_zero, List.getElem?_cons_succ] at ca0 ca1 ca2 ca3 ca4 ca5
      go_simp
      refine hK _ _ _ hC trivial (by exact rfl) ?_
      first | (simp only [Act.put, List.setIfInBounds_toArray, List.set_cons_succ, List.set_cons_zero, hp]; done) | simp [Act.put, hp]
    refine AllOps.cons (fun x u hC hT hp K hK => ?_) ?_
    · simp [KnownTill, Region.binds, VDo] at hp
      clear hT
      go_simp
      refine hK _ _ _ hC trivial (by exact rfl) ?_
      first | (simp only [Act.put, List.setIfInBounds_toArray, List.set_cons_succ, List.set_cons_zero, hp]; done) | simp [Act.put, hp]
    refine AllOps.cons (fun x u hC hT hp K hK => ?_) ?_
    · simp [KnownTill, Region.binds, VDo] at hp
      clear hT
      go_simp
      refine hK _ _ _ hC trivial (by exact rfl) ?_
      first | (simp only [Act.put, List.setIfInBounds_toArray, List.set_cons_succ, List.set_cons_zero, hp]; done) | simp [Act.put, hp]
    refine AllOps.cons (fun x u hC hT hp K hK => ?_) ?_
    · simp [KnownTill, Region.binds, VDo] at hp
      clear hT
      go_simp
      refine hK _ _ _ hC trivial (by exact rfl) ?_
      first | (simp only [Act.put, List.setIfInBounds_toArray, List.set_cons_succ, List.set_cons_zero, hp]; done) | simp [Act.put, hp]
    refine AllOps.cons (fun x u hC hT hp K hK => ?_) ?_
    · simp [KnownTill, Region.binds, VDo] at hp
      clear hT
      go_simp
      refine hK _ _ _ hC trivial (by exact rfl) ?_
      first | (simp only [Act.put, List.setIfInBounds_toArray, List.set_cons_succ, List.set_cons_zero, hp]; done) | simp [Act.put, hp]
    refine AllOps.cons (fun x u hC hT hp K hK => ?_) ?_
    · simp [KnownTill, Region.binds, VDo] at hp
      clear hT
      go_simp
      refine hK _ _ _ hC trivial (by exact rfl) ?_
      first | (simp only [Act.put, List.setIfInBounds_toArray, List.set_cons_succ, List.set_cons_zero, hp]; done) | simp [Act.put, hp]
    refine AllOps.cons (fun x u hC hT hp K hK => ?_) ?_
    · simp [KnownTill, Region.binds, VDo] at hp
      clear hT
      go_simp
      refine hK _ _ _ hC trivial (by exact rfl) ?_
      first | (simp only [Act.put, List.setIfInBounds_toArray, List.set_cons_succ, List.set_cons_zero, hp]; done) | simp [Act.put, hp]
    refine AllOps.cons (fun x u hC hT hp K hK => ?_) ?_
    · simp [KnownTill, Region.binds, VDo] at hp
      clear hT
      go_simp
      refine hK _ _ _ hC trivial (by exact rfl) ?_
      first | (simp only [Act.put, List.setIfInBounds_toArray, List.set_cons_succ, List.set_cons_zero, hp]; done) | simp [Act.put, hp]
    refine AllOps.cons (fun x u hC hT hp K hK => ?_) ?_
    · simp [KnownTill, Region.binds, VDo] at hp
      clear hT
      go_simp
      refine hK _ _ _ hC trivial (by exact rfl) ?_
      first | (simp only [Act.put, List.setIfInBounds_toArray, List.set_cons_succ, List.set_cons_zero, hp]; done) | simp [Act.put, hp]
    exact AllOps.nil
  case finG =>
    intro x u hC hV
    have hz : x 12 = .bool true := hV 12 (by decide) rfl
    rw [hz]
    have hbz := hC.2
    clear hV hC hz
    go_wp2
    go_ret
    exact ⟨rfl, hbz⟩

end Go.Proofs.YtfhfbekphmnbgaaDoor
