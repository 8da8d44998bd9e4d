/- The law on unlike messages. -/
import Derived.Test.YteniponkakaaaaaMg
namespace Go.Proofs.Yteniponkakaaaaa
open Go.RowKit
set_option linter.unusedVariables false
set_option linter.unusedSimpArgs false


set_option maxHeartbeats 2000000 in
theorem apart_diff0 (k1 u1 : Int) (a1 q1 : Nat) (mx1 : Bool) (mi1 yo1 : Nat) (k2 u2 : Int) (a2 q2 : Nat) (mx2 : Bool) (mi2 yo2 : Nat) (w : World) (h1 : MsgOk ⟨k1, u1, a1, q1, mx1, mi1, yo1⟩) (h2 : MsgOk ⟨k2, u2, a2, q2, mx2, mi2, yo2⟩) (L1 L2 : List UInt8) (hr1 : writeM ⟨k1, u1, a1, q1, mx1, mi1, yo1⟩ = (L1, 0)) (hr2 : writeM ⟨k2, u2, a2, q2, mx2, mi2, yo2⟩ = (L2, 0)) (hL : L1 ≠ L2) (hmn : ¬ (k1 = k2)) : Calls Try.prog 7 #[.agg #[.int .i64 k1, .int .i64 u1, .int .u32 a1, .int .u32 q1, .bool mx1, .int .u32 mi1, .int .u32 yo1], .agg #[.int .i64 k2, .int .i64 u2, .int .u32 a2, .int .u32 q2, .bool mx2, .int .u32 mi2, .int .u32 yo2]] w fun e w' => e = .returned (.bool true) ∧ Below w.heap.size w w' := by
  have hne := hmn
  clear hmn
  have hw1 := fun w => writeM_any ⟨k1, u1, a1, q1, mx1, mi1, yo1⟩ w h1
  have hw2 := fun w => writeM_any ⟨k2, u2, a2, q2, mx2, mi2, yo2⟩ w h2
  unfold MsgV.val MsgV.cs at hw1 hw2
  unfold OutB at hw1 hw2
  simp only at hw1 hw2
  rw [hr1] at hw1
  rw [hr2] at hw2
  have kb1 := (Blk.new w 26 #[.int .i64 k1, .int .i64 u1, .int .u32 a1, .int .u32 q1, .bool mx1, .int .u32 mi1, .int .u32 yo1]).alloc (.cells #[.int .i64 k2, .int .i64 u2, .int .u32 a2, .int .u32 q2, .bool mx2, .int .u32 mi2, .int .u32 yo2] 26)
  have kb2 := (Blk.new (w.alloc (.cells #[.int .i64 k1, .int .i64 u1, .int .u32 a1, .int .u32 q1, .bool mx1, .int .u32 mi1, .int .u32 yo1] 26)) 26 #[.int .i64 k2, .int .i64 u2, .int .u32 a2, .int .u32 q2, .bool mx2, .int .u32 mi2, .int .u32 yo2])
  rw [show (w.alloc (.cells #[.int .i64 k1, .int .i64 u1, .int .u32 a1, .int .u32 q1, .bool mx1, .int .u32 mi1, .int .u32 yo1] 26)).heap.size = w.heap.size + 1 by simp] at kb2
  have hbw := ba2 w (.cells #[.int .i64 k1, .int .i64 u1, .int .u32 a1, .int .u32 q1, .bool mx1, .int .u32 mi1, .int .u32 yo1] 26) (.cells #[.int .i64 k2, .int .i64 u2, .int .u32 a2, .int .u32 q2, .bool mx2, .int .u32 mi2, .int .u32 yo2] 26)
  go_enter Try.func7, Try.ntmps7
  go_wp2_with fail
  refine (hw1 _).mono ?_
  rintro e w1 ⟨A1, c1, rfl, own1, hb1⟩
  have g1 := kb1.below hb1 kb1.lt
  have g2 := kb2.below hb1 kb2.lt
  have hbw := bt hbw hb1
  clear kb1 kb2 hb1
  have d0 := (g2).cell 0
  have d1 := (g2).cell 1
  have d2 := (g2).cell 2
  have d3 := (g2).cell 3
  have d4 := (g2).cell 4
  have d5 := (g2).cell 5
  have d6 := (g2).cell 6
  simp only [List.getElem?_toArray, List.getElem?_cons_zero, List.getElem?_cons_succ] at d0 d1 d2 d3 d4 d5 d6
  go_wp2_with fail
  refine (hw2 _).mono ?_
  rintro e w2 ⟨A2, c2, rfl, own2, hb2⟩
  have g3 := g1.below hb2 g1.lt
  have g4 := g2.below hb2 g2.lt
  have own1 := own1.below hb2 (Nat.le_refl _)
  have hbw := bt hbw hb2
  clear g1 g2 hb2 d0 d1 d2 d3 d4 d5 d6
  clear hr1 hr2 hw1 hw2
  have hl0 : (L1 == L2) = false := beq_eq_false_iff_ne.2 hL
  have hl1 : ((ByteArray.mk L1.toArray).toList == (ByteArray.mk L2.toArray).toList) = false := by rw [ByteArray.toList_eq, ByteArray.toList_eq]; exact hl0
  have hl4 : decide (L1 = L2) = false := decide_eq_false hL
  have hb : (k1 == k2) = false := beq_eq_false_iff_ne.2 hne
  go_wp2_with fail
  refine wp_region_invT (F := ?FA) (V := VAp A1 A2 c1 c2 L1 L2 #[.int .i64 k1, .int .i64 u1, .int .u32 a1, .int .u32 q1, .bool mx1, .int .u32 mi1, .int .u32 yo1] #[.int .i64 k2, .int .i64 u2, .int .u32 a2, .int .u32 q2, .bool mx2, .int .u32 mi2, .int .u32 yo2] false) (dead := fun _ => none) (T := fun _ _ => True) (C := fun u' => Below w2.heap.size w2 u') (E := fun _ _ _ => True) (by kernel_rfl) (by kernel_rfl) (by kernel_rfl) (fun x => ?hFA) ?hmonoA ?hTmA ?hTA ?hCA ?stepA ?finA
  case hFA => simp only [mkA, Act.put, List.setIfInBounds_toArray, List.set_cons_succ, List.set_cons_zero, Nat.reduceAdd, Nat.zero_add]; first | with_reducible rfl | rfl
  case hmonoA => exact fun k i v u u' he hik hwt hdd hv => VAp.mono hv
  case hTmA => exact fun _ _ _ _ _ _ _ _ => trivial
  case hTA => exact fun j => trivial
  case hCA => exact below_drew _
  case stepA =>
    refine AllOps.cons (fun x u hC hT hp K hK => ?_) ?_
    · clear hp hT
      go_simp
      refine (alive_any _).mono ?_
      rintro e wA ⟨rfl, hbA⟩
      refine hK _ _ _ (bt hC hbA) trivial (by exact rfl) ?_
      first | (simp only [Act.put, List.setIfInBounds_toArray, List.set_cons_succ, List.set_cons_zero]; done) | simp [Act.put]
    refine AllOps.cons (fun x u hC hT hp K hK => ?_) ?_
    · simp [KnownTill, Region.binds, VAp] at hp
      clear hT
      go_simp
      refine hK _ _ _ hC trivial (by exact rfl) ?_
      first | (simp only [Act.put, List.setIfInBounds_toArray, List.set_cons_succ, List.set_cons_zero, hp]; done) | simp [Act.put, hp]
    refine AllOps.cons (fun x u hC hT hp K hK => ?_) ?_
    · simp [KnownTill, Region.binds, VAp] at hp
      clear hT
      go_simp
      refine hK _ _ _ hC trivial (by exact rfl) ?_
      first | (simp only [Act.put, List.setIfInBounds_toArray, List.set_cons_succ, List.set_cons_zero, hp]; done) | simp [Act.put, hp]
    refine AllOps.cons (fun x u hC hT hp K hK => ?_) ?_
    · simp [KnownTill, Region.binds, VAp] at hp
      clear hT
      have cv : (convert 27 9 (.slice A1 L1.length c1)).run Try.prog u = .ok (.string ⟨L1.toArray⟩) u := conv_bytes Try.underlying27 Try.underlying5 Try.underlying9 (own1.below hC (Nat.le_refl _)).bs _
      go_simp
      refine hK _ _ _ hC trivial (by exact rfl) ?_
      first | (simp only [Act.put, List.setIfInBounds_toArray, List.set_cons_succ, List.set_cons_zero, hp]; done) | simp [Act.put, hp]
    refine AllOps.cons (fun x u hC hT hp K hK => ?_) ?_
    · simp [KnownTill, Region.binds, VAp] at hp
      clear hT
      go_simp
      refine hK _ _ _ hC trivial (by exact rfl) ?_
      first | (simp only [Act.put, List.setIfInBounds_toArray, List.set_cons_succ, List.set_cons_zero, hp]; done) | simp [Act.put, hp]
    refine AllOps.cons (fun x u hC hT hp K hK => ?_) ?_
    · simp [KnownTill, Region.binds, VAp] at hp
      clear hT
      have cv : (convert 27 9 (.slice A2 L2.length c2)).run Try.prog u = .ok (.string ⟨L2.toArray⟩) u := conv_bytes Try.underlying27 Try.underlying5 Try.underlying9 (own2.below hC (Nat.le_refl _)).bs _
      go_simp
      refine hK _ _ _ hC trivial (by exact rfl) ?_
      first | (simp only [Act.put, List.setIfInBounds_toArray, List.set_cons_succ, List.set_cons_zero, hp]; done) | simp [Act.put, hp]
    refine AllOps.cons (fun x u hC hT hp K hK => ?_) ?_
    · simp [KnownTill, Region.binds, VAp] at hp
      clear hT
      go_simp
      refine hK _ _ _ hC trivial (by exact rfl) ?_
      first | (simp only [Act.put, List.setIfInBounds_toArray, List.set_cons_succ, List.set_cons_zero, hp]; done) | simp [Act.put, hp]
    refine AllOps.cons (fun x u hC hT hp K hK => ?_) ?_
    · simp [KnownTill, Region.binds, VAp] at hp
      clear hT
      have d0 := ((g3.below hC g3.lt)).cell 0
      have d1 := ((g3.below hC g3.lt)).cell 1
      have d2 := ((g3.below hC g3.lt)).cell 2
      have d3 := ((g3.below hC g3.lt)).cell 3
      have d4 := ((g3.below hC g3.lt)).cell 4
      have d5 := ((g3.below hC g3.lt)).cell 5
      have d6 := ((g3.below hC g3.lt)).cell 6
      simp only [List.getElem?_toArray, List.getElem?_cons_zero, List.getElem?_cons_succ] at d0 d1 d2 d3 d4 d5 d6
      go_simp
      refine hK _ _ _ hC trivial (by exact rfl) ?_
      first | (simp only [Act.put, List.setIfInBounds_toArray, List.set_cons_succ, List.set_cons_zero, hp]; done) | simp [Act.put, hp]
    refine AllOps.cons (fun x u hC hT hp K hK => ?_) ?_
    · simp [KnownTill, Region.binds, VAp] at hp
      clear hT
      have d0 := ((g4.below hC g4.lt)).cell 0
      have d1 := ((g4.below hC g4.lt)).cell 1
      have d2 := ((g4.below hC g4.lt)).cell 2
      have d3 := ((g4.below hC g4.lt)).cell 3
      have d4 := ((g4.below hC g4.lt)).cell 4
      have d5 := ((g4.below hC g4.lt)).cell 5
      have d6 := ((g4.below hC g4.lt)).cell 6
      simp only [List.getElem?_toArray, List.getElem?_cons_zero, List.getElem?_cons_succ] at d0 d1 d2 d3 d4 d5 d6
      go_simp
      refine hK _ _ _ hC trivial (by exact rfl) ?_
      first | (simp only [Act.put, List.setIfInBounds_toArray, List.set_cons_succ, List.set_cons_zero, hp]; done) | simp [Act.put, hp]
    refine AllOps.cons (fun x u hC hT hp K hK => ?_) ?_
    · simp [KnownTill, Region.binds, VAp] at hp
      clear hT
      go_simp
      refine hK _ _ _ hC trivial (by exact rfl) ?_
      first | (simp only [Act.put, List.setIfInBounds_toArray, List.set_cons_succ, List.set_cons_zero, hp]; done) | simp [Act.put, hp]
    refine AllOps.cons (fun x u hC hT hp K hK => ?_) ?_
    · simp [KnownTill, Region.binds, VAp] at hp
      clear hT
      go_simp
      refine hK _ _ _ hC trivial (by exact rfl) ?_
      first | (simp only [Act.put, List.setIfInBounds_toArray, List.set_cons_succ, List.set_cons_zero, hp]; done) | simp [Act.put, hp]
    refine AllOps.cons (fun x u hC hT hp K hK => ?_) ?_
    · simp [KnownTill, Region.binds, VAp] at hp
      clear hT
      go_simp
      refine hK _ _ _ hC trivial (by exact rfl) ?_
      first | (simp only [Act.put, List.setIfInBounds_toArray, List.set_cons_succ, List.set_cons_zero, hp]; done) | simp [Act.put, hp]
    refine AllOps.cons (fun x u hC hT hp K hK => ?_) ?_
    · simp [KnownTill, Region.binds, VAp] at hp
      clear hT
      go_simp
      refine hK _ _ _ hC trivial (by exact rfl) ?_
      first | (simp only [Act.put, List.setIfInBounds_toArray, List.set_cons_succ, List.set_cons_zero, hp]; done) | simp [Act.put, hp]
    exact AllOps.nil
  case finA =>
    intro x u hC hV
    have hz : x 12 = .bool true := hV 12 (by decide) rfl
    rw [hz]
    have hbe := bt hbw hC
    clear hV hz hC g3 g4
    go_wp2
    go_ret
    exact ⟨rfl, hbe⟩

set_option maxHeartbeats 2000000 in
theorem apart_diff1 (k1 u1 : Int) (a1 q1 : Nat) (mx1 : Bool) (mi1 yo1 : Nat) (k2 u2 : Int) (a2 q2 : Nat) (mx2 : Bool) (mi2 yo2 : Nat) (w : World) (h1 : MsgOk ⟨k1, u1, a1, q1, mx1, mi1, yo1⟩) (h2 : MsgOk ⟨k2, u2, a2, q2, mx2, mi2, yo2⟩) (L1 L2 : List UInt8) (hr1 : writeM ⟨k1, u1, a1, q1, mx1, mi1, yo1⟩ = (L1, 0)) (hr2 : writeM ⟨k2, u2, a2, q2, mx2, mi2, yo2⟩ = (L2, 0)) (hL : L1 ≠ L2) (hmn : k1 = k2 ∧ ¬ (u1 = u2)) : Calls Try.prog 7 #[.agg #[.int .i64 k1, .int .i64 u1, .int .u32 a1, .int .u32 q1, .bool mx1, .int .u32 mi1, .int .u32 yo1], .agg #[.int .i64 k2, .int .i64 u2, .int .u32 a2, .int .u32 q2, .bool mx2, .int .u32 mi2, .int .u32 yo2]] w fun e w' => e = .returned (.bool true) ∧ Below w.heap.size w w' := by
  obtain ⟨rfl, hne⟩ := hmn
  have hw1 := fun w => writeM_any ⟨k1, u1, a1, q1, mx1, mi1, yo1⟩ w h1
  have hw2 := fun w => writeM_any ⟨k1, u2, a2, q2, mx2, mi2, yo2⟩ w h2
  unfold MsgV.val MsgV.cs at hw1 hw2
  unfold OutB at hw1 hw2
  simp only at hw1 hw2
  rw [hr1] at hw1
  rw [hr2] at hw2
  have kb1 := (Blk.new w 26 #[.int .i64 k1, .int .i64 u1, .int .u32 a1, .int .u32 q1, .bool mx1, .int .u32 mi1, .int .u32 yo1]).alloc (.cells #[.int .i64 k1, .int .i64 u2, .int .u32 a2, .int .u32 q2, .bool mx2, .int .u32 mi2, .int .u32 yo2] 26)
  have kb2 := (Blk.new (w.alloc (.cells #[.int .i64 k1, .int .i64 u1, .int .u32 a1, .int .u32 q1, .bool mx1, .int .u32 mi1, .int .u32 yo1] 26)) 26 #[.int .i64 k1, .int .i64 u2, .int .u32 a2, .int .u32 q2, .bool mx2, .int .u32 mi2, .int .u32 yo2])
  rw [show (w.alloc (.cells #[.int .i64 k1, .int .i64 u1, .int .u32 a1, .int .u32 q1, .bool mx1, .int .u32 mi1, .int .u32 yo1] 26)).heap.size = w.heap.size + 1 by simp] at kb2
  have hbw := ba2 w (.cells #[.int .i64 k1, .int .i64 u1, .int .u32 a1, .int .u32 q1, .bool mx1, .int .u32 mi1, .int .u32 yo1] 26) (.cells #[.int .i64 k1, .int .i64 u2, .int .u32 a2, .int .u32 q2, .bool mx2, .int .u32 mi2, .int .u32 yo2] 26)
  go_enter Try.func7, Try.ntmps7
  go_wp2_with fail
  refine (hw1 _).mono ?_
  rintro e w1 ⟨A1, c1, rfl, own1, hb1⟩
  have g1 := kb1.below hb1 kb1.lt
  have g2 := kb2.below hb1 kb2.lt
  have hbw := bt hbw hb1
  clear kb1 kb2 hb1
  have d0 := (g2).cell 0
  have d1 := (g2).cell 1
  have d2 := (g2).cell 2
  have d3 := (g2).cell 3
  have d4 := (g2).cell 4
  have d5 := (g2).cell 5
  have d6 := (g2).cell 6
  simp only [List.getElem?_toArray, List.getElem?_cons_zero, List.getElem?_cons_succ] at d0 d1 d2 d3 d4 d5 d6
  go_wp2_with fail
  refine (hw2 _).mono ?_
  rintro e w2 ⟨A2, c2, rfl, own2, hb2⟩
  have g3 := g1.below hb2 g1.lt
  have g4 := g2.below hb2 g2.lt
  have own1 := own1.below hb2 (Nat.le_refl _)
  have hbw := bt hbw hb2
  clear g1 g2 hb2 d0 d1 d2 d3 d4 d5 d6
  clear hr1 hr2 hw1 hw2
  have hl0 : (L1 == L2) = false := beq_eq_false_iff_ne.2 hL
  have hl1 : ((ByteArray.mk L1.toArray).toList == (ByteArray.mk L2.toArray).toList) = false := by rw [ByteArray.toList_eq, ByteArray.toList_eq]; exact hl0
  have hl4 : decide (L1 = L2) = false := decide_eq_false hL
  have hb : (u1 == u2) = false := beq_eq_false_iff_ne.2 hne
  go_wp2_with fail
  refine wp_region_invT (F := ?FA) (V := VAp A1 A2 c1 c2 L1 L2 #[.int .i64 k1, .int .i64 u1, .int .u32 a1, .int .u32 q1, .bool mx1, .int .u32 mi1, .int .u32 yo1] #[.int .i64 k1, .int .i64 u2, .int .u32 a2, .int .u32 q2, .bool mx2, .int .u32 mi2, .int .u32 yo2] false) (dead := fun _ => none) (T := fun _ _ => True) (C := fun u' => Below w2.heap.size w2 u') (E := fun _ _ _ => True) (by kernel_rfl) (by kernel_rfl) (by kernel_rfl) (fun x => ?hFA) ?hmonoA ?hTmA ?hTA ?hCA ?stepA ?finA
  case hFA => simp only [mkA, Act.put, List.setIfInBounds_toArray, List.set_cons_succ, List.set_cons_zero, Nat.reduceAdd, Nat.zero_add]; first | with_reducible rfl | rfl
  case hmonoA => exact fun k i v u u' he hik hwt hdd hv => VAp.mono hv
  case hTmA => exact fun _ _ _ _ _ _ _ _ => trivial
  case hTA => exact fun j => trivial
  case hCA => exact below_drew _
  case stepA =>
    refine AllOps.cons (fun x u hC hT hp K hK => ?_) ?_
    · clear hp hT
      go_simp
      refine (alive_any _).mono ?_
      rintro e wA ⟨rfl, hbA⟩
      refine hK _ _ _ (bt hC hbA) trivial (by exact rfl) ?_
      first | (simp only [Act.put, List.setIfInBounds_toArray, List.set_cons_succ, List.set_cons_zero]; done) | simp [Act.put]
    refine AllOps.cons (fun x u hC hT hp K hK => ?_) ?_
    · simp [KnownTill, Region.binds, VAp] at hp
      clear hT
      go_simp
      refine hK _ _ _ hC trivial (by exact rfl) ?_
      first | (simp only [Act.put, List.setIfInBounds_toArray, List.set_cons_succ, List.set_cons_zero, hp]; done) | simp [Act.put, hp]
    refine AllOps.cons (fun x u hC hT hp K hK => ?_) ?_
    · simp [KnownTill, Region.binds, VAp] at hp
      clear hT
      go_simp
      refine hK _ _ _ hC trivial (by exact rfl) ?_
      first | (simp only [Act.put, List.setIfInBounds_toArray, List.set_cons_succ, List.set_cons_zero, hp]; done) | simp [Act.put, hp]
    refine AllOps.cons (fun x u hC hT hp K hK => ?_) ?_
    · simp [KnownTill, Region.binds, VAp] at hp
      clear hT
      have cv : (convert 27 9 (.slice A1 L1.length c1)).run Try.prog u = .ok (.string ⟨L1.toArray⟩) u := conv_bytes Try.underlying27 Try.underlying5 Try.underlying9 (own1.below hC (Nat.le_refl _)).bs _
      go_simp
      refine hK _ _ _ hC trivial (by exact rfl) ?_
      first | (simp only [Act.put, List.setIfInBounds_toArray, List.set_cons_succ, List.set_cons_zero, hp]; done) | simp [Act.put, hp]
    refine AllOps.cons (fun x u hC hT hp K hK => ?_) ?_
    · simp [KnownTill, Region.binds, VAp] at hp
      clear hT
      go_simp
      refine hK _ _ _ hC trivial (by exact rfl) ?_
      first | (simp only [Act.put, List.setIfInBounds_toArray, List.set_cons_succ, List.set_cons_zero, hp]; done) | simp [Act.put, hp]
    refine AllOps.cons (fun x u hC hT hp K hK => ?_) ?_
    · simp [KnownTill, Region.binds, VAp] at hp
      clear hT
      have cv : (convert 27 9 (.slice A2 L2.length c2)).run Try.prog u = .ok (.string ⟨L2.toArray⟩) u := conv_bytes Try.underlying27 Try.underlying5 Try.underlying9 (own2.below hC (Nat.le_refl _)).bs _
      go_simp
      refine hK _ _ _ hC trivial (by exact rfl) ?_
      first | (simp only [Act.put, List.setIfInBounds_toArray, List.set_cons_succ, List.set_cons_zero, hp]; done) | simp [Act.put, hp]
    refine AllOps.cons (fun x u hC hT hp K hK => ?_) ?_
    · simp [KnownTill, Region.binds, VAp] at hp
      clear hT
      go_simp
      refine hK _ _ _ hC trivial (by exact rfl) ?_
      first | (simp only [Act.put, List.setIfInBounds_toArray, List.set_cons_succ, List.set_cons_zero, hp]; done) | simp [Act.put, hp]
    refine AllOps.cons (fun x u hC hT hp K hK => ?_) ?_
    · simp [KnownTill, Region.binds, VAp] at hp
      clear hT
      have d0 := ((g3.below hC g3.lt)).cell 0
      have d1 := ((g3.below hC g3.lt)).cell 1
      have d2 := ((g3.below hC g3.lt)).cell 2
      have d3 := ((g3.below hC g3.lt)).cell 3
      have d4 := ((g3.below hC g3.lt)).cell 4
      have d5 := ((g3.below hC g3.lt)).cell 5
      have d6 := ((g3.below hC g3.lt)).cell 6
      simp only [List.getElem?_toArray, List.getElem?_cons_zero, List.getElem?_cons_succ] at d0 d1 d2 d3 d4 d5 d6
      go_simp
      refine hK _ _ _ hC trivial (by exact rfl) ?_
      first | (simp only [Act.put, List.setIfInBounds_toArray, List.set_cons_succ, List.set_cons_zero, hp]; done) | simp [Act.put, hp]
    refine AllOps.cons (fun x u hC hT hp K hK => ?_) ?_
    · simp [KnownTill, Region.binds, VAp] at hp
      clear hT
      have d0 := ((g4.below hC g4.lt)).cell 0
      have d1 := ((g4.below hC g4.lt)).cell 1
      have d2 := ((g4.below hC g4.lt)).cell 2
      have d3 := ((g4.below hC g4.lt)).cell 3
      have d4 := ((g4.below hC g4.lt)).cell 4
      have d5 := ((g4.below hC g4.lt)).cell 5
      have d6 := ((g4.below hC g4.lt)).cell 6
      simp only [List.getElem?_toArray, List.getElem?_cons_zero, List.getElem?_cons_succ] at d0 d1 d2 d3 d4 d5 d6
      go_simp
      refine hK _ _ _ hC trivial (by exact rfl) ?_
      first | (simp only [Act.put, List.setIfInBounds_toArray, List.set_cons_succ, List.set_cons_zero, hp]; done) | simp [Act.put, hp]
    refine AllOps.cons (fun x u hC hT hp K hK => ?_) ?_
    · simp [KnownTill, Region.binds, VAp] at hp
      clear hT
      go_simp
      refine hK _ _ _ hC trivial (by exact rfl) ?_
      first | (simp only [Act.put, List.setIfInBounds_toArray, List.set_cons_succ, List.set_cons_zero, hp]; done) | simp [Act.put, hp]
    refine AllOps.cons (fun x u hC hT hp K hK => ?_) ?_
    · simp [KnownTill, Region.binds, VAp] at hp
      clear hT
      go_simp
      refine hK _ _ _ hC trivial (by exact rfl) ?_
      first | (simp only [Act.put, List.setIfInBounds_toArray, List.set_cons_succ, List.set_cons_zero, hp]; done) | simp [Act.put, hp]
    refine AllOps.cons (fun x u hC hT hp K hK => ?_) ?_
    · simp [KnownTill, Region.binds, VAp] at hp
      clear hT
      go_simp
      refine hK _ _ _ hC trivial (by exact rfl) ?_
      first | (simp only [Act.put, List.setIfInBounds_toArray, List.set_cons_succ, List.set_cons_zero, hp]; done) | simp [Act.put, hp]
    refine AllOps.cons (fun x u hC hT hp K hK => ?_) ?_
    · simp [KnownTill, Region.binds, VAp] at hp
      clear hT
      go_simp
      refine hK _ _ _ hC trivial (by exact rfl) ?_
      first | (simp only [Act.put, List.setIfInBounds_toArray, List.set_cons_succ, List.set_cons_zero, hp]; done) | simp [Act.put, hp]
    exact AllOps.nil
  case finA =>
    intro x u hC hV
    have hz : x 12 = .bool true := hV 12 (by decide) rfl
    rw [hz]
    have hbe := bt hbw hC
    clear hV hz hC g3 g4
    go_wp2
    go_ret
    exact ⟨rfl, hbe⟩

set_option maxHeartbeats 2000000 in
theorem apart_diff2 (k1 u1 : Int) (a1 q1 : Nat) (mx1 : Bool) (mi1 yo1 : Nat) (k2 u2 : Int) (a2 q2 : Nat) (mx2 : Bool) (mi2 yo2 : Nat) (w : World) (h1 : MsgOk ⟨k1, u1, a1, q1, mx1, mi1, yo1⟩) (h2 : MsgOk ⟨k2, u2, a2, q2, mx2, mi2, yo2⟩) (L1 L2 : List UInt8) (hr1 : writeM ⟨k1, u1, a1, q1, mx1, mi1, yo1⟩ = (L1, 0)) (hr2 : writeM ⟨k2, u2, a2, q2, mx2, mi2, yo2⟩ = (L2, 0)) (hL : L1 ≠ L2) (hmn : k1 = k2 ∧ u1 = u2 ∧ ¬ ((a1 : Int) = (a2 : Int))) : Calls Try.prog 7 #[.agg #[.int .i64 k1, .int .i64 u1, .int .u32 a1, .int .u32 q1, .bool mx1, .int .u32 mi1, .int .u32 yo1], .agg #[.int .i64 k2, .int .i64 u2, .int .u32 a2, .int .u32 q2, .bool mx2, .int .u32 mi2, .int .u32 yo2]] w fun e w' => e = .returned (.bool true) ∧ Below w.heap.size w w' := by
  obtain ⟨rfl, rfl, hne⟩ := hmn
  have hw1 := fun w => writeM_any ⟨k1, u1, a1, q1, mx1, mi1, yo1⟩ w h1
  have hw2 := fun w => writeM_any ⟨k1, u1, a2, q2, mx2, mi2, yo2⟩ w h2
  unfold MsgV.val MsgV.cs at hw1 hw2
  unfold OutB at hw1 hw2
  simp only at hw1 hw2
  rw [hr1] at hw1
  rw [hr2] at hw2
  have kb1 := (Blk.new w 26 #[.int .i64 k1, .int .i64 u1, .int .u32 a1, .int .u32 q1, .bool mx1, .int .u32 mi1, .int .u32 yo1]).alloc (.cells #[.int .i64 k1, .int .i64 u1, .int .u32 a2, .int .u32 q2, .bool mx2, .int .u32 mi2, .int .u32 yo2] 26)
  have kb2 := (Blk.new (w.alloc (.cells #[.int .i64 k1, .int .i64 u1, .int .u32 a1, .int .u32 q1, .bool mx1, .int .u32 mi1, .int .u32 yo1] 26)) 26 #[.int .i64 k1, .int .i64 u1, .int .u32 a2, .int .u32 q2, .bool mx2, .int .u32 mi2, .int .u32 yo2])
  rw [show (w.alloc (.cells #[.int .i64 k1, .int .i64 u1, .int .u32 a1, .int .u32 q1, .bool mx1, .int .u32 mi1, .int .u32 yo1] 26)).heap.size = w.heap.size + 1 by simp] at kb2
  have hbw := ba2 w (.cells #[.int .i64 k1, .int .i64 u1, .int .u32 a1, .int .u32 q1, .bool mx1, .int .u32 mi1, .int .u32 yo1] 26) (.cells #[.int .i64 k1, .int .i64 u1, .int .u32 a2, .int .u32 q2, .bool mx2, .int .u32 mi2, .int .u32 yo2] 26)
  go_enter Try.func7, Try.ntmps7
  go_wp2_with fail
  refine (hw1 _).mono ?_
  rintro e w1 ⟨A1, c1, rfl, own1, hb1⟩
  have g1 := kb1.below hb1 kb1.lt
  have g2 := kb2.below hb1 kb2.lt
  have hbw := bt hbw hb1
  clear kb1 kb2 hb1
  have d0 := (g2).cell 0
  have d1 := (g2).cell 1
  have d2 := (g2).cell 2
  have d3 := (g2).cell 3
  have d4 := (g2).cell 4
  have d5 := (g2).cell 5
  have d6 := (g2).cell 6
  simp only [List.getElem?_toArray, List.getElem?_cons_zero, List.getElem?_cons_succ] at d0 d1 d2 d3 d4 d5 d6
  go_wp2_with fail
  refine (hw2 _).mono ?_
  rintro e w2 ⟨A2, c2, rfl, own2, hb2⟩
  have g3 := g1.below hb2 g1.lt
  have g4 := g2.below hb2 g2.lt
  have own1 := own1.below hb2 (Nat.le_refl _)
  have hbw := bt hbw hb2
  clear g1 g2 hb2 d0 d1 d2 d3 d4 d5 d6
  clear hr1 hr2 hw1 hw2
  have hl0 : (L1 == L2) = false := beq_eq_false_iff_ne.2 hL
  have hl1 : ((ByteArray.mk L1.toArray).toList == (ByteArray.mk L2.toArray).toList) = false := by rw [ByteArray.toList_eq, ByteArray.toList_eq]; exact hl0
  have hl4 : decide (L1 = L2) = false := decide_eq_false hL
  have hb : ((a1 : Int) == (a2 : Int)) = false := beq_eq_false_iff_ne.2 hne
  go_wp2_with fail
  refine wp_region_invT (F := ?FA) (V := VAp A1 A2 c1 c2 L1 L2 #[.int .i64 k1, .int .i64 u1, .int .u32 a1, .int .u32 q1, .bool mx1, .int .u32 mi1, .int .u32 yo1] #[.int .i64 k1, .int .i64 u1, .int .u32 a2, .int .u32 q2, .bool mx2, .int .u32 mi2, .int .u32 yo2] false) (dead := fun _ => none) (T := fun _ _ => True) (C := fun u' => Below w2.heap.size w2 u') (E := fun _ _ _ => True) (by kernel_rfl) (by kernel_rfl) (by kernel_rfl) (fun x => ?hFA) ?hmonoA ?hTmA ?hTA ?hCA ?stepA ?finA
  case hFA => simp only [mkA, Act.put, List.setIfInBounds_toArray, List.set_cons_succ, List.set_cons_zero, Nat.reduceAdd, Nat.zero_add]; first | with_reducible rfl | rfl
  case hmonoA => exact fun k i v u u' he hik hwt hdd hv => VAp.mono hv
  case hTmA => exact fun _ _ _ _ _ _ _ _ => trivial
  case hTA => exact fun j => trivial
  case hCA => exact below_drew _
  case stepA =>
    refine AllOps.cons (fun x u hC hT hp K hK => ?_) ?_
    · clear hp hT
      go_simp
      refine (alive_any _).mono ?_
      rintro e wA ⟨rfl, hbA⟩
      refine hK _ _ _ (bt hC hbA) trivial (by exact rfl) ?_
      first | (simp only [Act.put, List.setIfInBounds_toArray, List.set_cons_succ, List.set_cons_zero]; done) | simp [Act.put]
    refine AllOps.cons (fun x u hC hT hp K hK => ?_) ?_
    · simp [KnownTill, Region.binds, VAp] at hp
      clear hT
      go_simp
      refine hK _ _ _ hC trivial (by exact rfl) ?_
      first | (simp only [Act.put, List.setIfInBounds_toArray, List.set_cons_succ, List.set_cons_zero, hp]; done) | simp [Act.put, hp]
    refine AllOps.cons (fun x u hC hT hp K hK => ?_) ?_
    · simp [KnownTill, Region.binds, VAp] at hp
      clear hT
      go_simp
      refine hK _ _ _ hC trivial (by exact rfl) ?_
      first | (simp only [Act.put, List.setIfInBounds_toArray, List.set_cons_succ, List.set_cons_zero, hp]; done) | simp [Act.put, hp]
    refine AllOps.cons (fun x u hC hT hp K hK => ?_) ?_
    · simp [KnownTill, Region.binds, VAp] at hp
      clear hT
      have cv : (convert 27 9 (.slice A1 L1.length c1)).run Try.prog u = .ok (.string ⟨L1.toArray⟩) u := conv_bytes Try.underlying27 Try.underlying5 Try.underlying9 (own1.below hC (Nat.le_refl _)).bs _
      go_simp
      refine hK _ _ _ hC trivial (by exact rfl) ?_
      first | (simp only [Act.put, List.setIfInBounds_toArray, List.set_cons_succ, List.set_cons_zero, hp]; done) | simp [Act.put, hp]
    refine AllOps.cons (fun x u hC hT hp K hK => ?_) ?_
    · simp [KnownTill, Region.binds, VAp] at hp
      clear hT
      go_simp
      refine hK _ _ _ hC trivial (by exact rfl) ?_
      first | (simp only [Act.put, List.setIfInBounds_toArray, List.set_cons_succ, List.set_cons_zero, hp]; done) | simp [Act.put, hp]
    refine AllOps.cons (fun x u hC hT hp K hK => ?_) ?_
    · simp [KnownTill, Region.binds, VAp] at hp
      clear hT
      have cv : (convert 27 9 (.slice A2 L2.length c2)).run Try.prog u = .ok (.string ⟨L2.toArray⟩) u := conv_bytes Try.underlying27 Try.underlying5 Try.underlying9 (own2.below hC (Nat.le_refl _)).bs _
      go_simp
      refine hK _ _ _ hC trivial (by exact rfl) ?_
      first | (simp only [Act.put, List.setIfInBounds_toArray, List.set_cons_succ, List.set_cons_zero, hp]; done) | simp [Act.put, hp]
    refine AllOps.cons (fun x u hC hT hp K hK => ?_) ?_
    · simp [KnownTill, Region.binds, VAp] at hp
      clear hT
      go_simp
      refine hK _ _ _ hC trivial (by exact rfl) ?_
      first | (simp only [Act.put, List.setIfInBounds_toArray, List.set_cons_succ, List.set_cons_zero, hp]; done) | simp [Act.put, hp]
    refine AllOps.cons (fun x u hC hT hp K hK => ?_) ?_
    · simp [KnownTill, Region.binds, VAp] at hp
      clear hT
      have d0 := ((g3.below hC g3.lt)).cell 0
      have d1 := ((g3.below hC g3.lt)).cell 1
      have d2 := ((g3.below hC g3.lt)).cell 2
      have d3 := ((g3.below hC g3.lt)).cell 3
      have d4 := ((g3.below hC g3.lt)).cell 4
      have d5 := ((g3.below hC g3.lt)).cell 5
      have d6 := ((g3.below hC g3.lt)).cell 6
      simp only [List.getElem?_toArray, List.getElem?_cons_zero, List.getElem?_cons_succ] at d0 d1 d2 d3 d4 d5 d6
      go_simp
      refine hK _ _ _ hC trivial (by exact rfl) ?_
      first | (simp only [Act.put, List.setIfInBounds_toArray, List.set_cons_succ, List.set_cons_zero, hp]; done) | simp [Act.put, hp]
    refine AllOps.cons (fun x u hC hT hp K hK => ?_) ?_
    · simp [KnownTill, Region.binds, VAp] at hp
      clear hT
      have d0 := ((g4.below hC g4.lt)).cell 0
      have d1 := ((g4.below hC g4.lt)).cell 1
      have d2 := ((g4.below hC g4.lt)).cell 2
      have d3 := ((g4.below hC g4.lt)).cell 3
      have d4 := ((g4.below hC g4.lt)).cell 4
      have d5 := ((g4.below hC g4.lt)).cell 5
      have d6 := ((g4.below hC g4.lt)).cell 6
      simp only [List.getElem?_toArray, List.getElem?_cons_zero, List.getElem?_cons_succ] at d0 d1 d2 d3 d4 d5 d6
      go_simp
      refine hK _ _ _ hC trivial (by exact rfl) ?_
      first | (simp only [Act.put, List.setIfInBounds_toArray, List.set_cons_succ, List.set_cons_zero, hp]; done) | simp [Act.put, hp]
    refine AllOps.cons (fun x u hC hT hp K hK => ?_) ?_
    · simp [KnownTill, Region.binds, VAp] at hp
      clear hT
      go_simp
      refine hK _ _ _ hC trivial (by exact rfl) ?_
      first | (simp only [Act.put, List.setIfInBounds_toArray, List.set_cons_succ, List.set_cons_zero, hp]; done) | simp [Act.put, hp]
    refine AllOps.cons (fun x u hC hT hp K hK => ?_) ?_
    · simp [KnownTill, Region.binds, VAp] at hp
      clear hT
      go_simp
      refine hK _ _ _ hC trivial (by exact rfl) ?_
      first | (simp only [Act.put, List.setIfInBounds_toArray, List.set_cons_succ, List.set_cons_zero, hp]; done) | simp [Act.put, hp]
    refine AllOps.cons (fun x u hC hT hp K hK => ?_) ?_
    · simp [KnownTill, Region.binds, VAp] at hp
      clear hT
      go_simp
      refine hK _ _ _ hC trivial (by exact rfl) ?_
      first | (simp only [Act.put, List.setIfInBounds_toArray, List.set_cons_succ, List.set_cons_zero, hp]; done) | simp [Act.put, hp]
    refine AllOps.cons (fun x u hC hT hp K hK => ?_) ?_
    · simp [KnownTill, Region.binds, VAp] at hp
      clear hT
      go_simp
      refine hK _ _ _ hC trivial (by exact rfl) ?_
      first | (simp only [Act.put, List.setIfInBounds_toArray, List.set_cons_succ, List.set_cons_zero, hp]; done) | simp [Act.put, hp]
    exact AllOps.nil
  case finA =>
    intro x u hC hV
    have hz : x 12 = .bool true := hV 12 (by decide) rfl
    rw [hz]
    have hbe := bt hbw hC
    clear hV hz hC g3 g4
    go_wp2
    go_ret
    exact ⟨rfl, hbe⟩

set_option maxHeartbeats 2000000 in
theorem apart_diff3 (k1 u1 : Int) (a1 q1 : Nat) (mx1 : Bool) (mi1 yo1 : Nat) (k2 u2 : Int) (a2 q2 : Nat) (mx2 : Bool) (mi2 yo2 : Nat) (w : World) (h1 : MsgOk ⟨k1, u1, a1, q1, mx1, mi1, yo1⟩) (h2 : MsgOk ⟨k2, u2, a2, q2, mx2, mi2, yo2⟩) (L1 L2 : List UInt8) (hr1 : writeM ⟨k1, u1, a1, q1, mx1, mi1, yo1⟩ = (L1, 0)) (hr2 : writeM ⟨k2, u2, a2, q2, mx2, mi2, yo2⟩ = (L2, 0)) (hL : L1 ≠ L2) (hmn : k1 = k2 ∧ u1 = u2 ∧ a1 = a2 ∧ ¬ ((q1 : Int) = (q2 : Int))) : Calls Try.prog 7 #[.agg #[.int .i64 k1, .int .i64 u1, .int .u32 a1, .int .u32 q1, .bool mx1, .int .u32 mi1, .int .u32 yo1], .agg #[.int .i64 k2, .int .i64 u2, .int .u32 a2, .int .u32 q2, .bool mx2, .int .u32 mi2, .int .u32 yo2]] w fun e w' => e = .returned (.bool true) ∧ Below w.heap.size w w' := by
  obtain ⟨rfl, rfl, rfl, hne⟩ := hmn
  have hw1 := fun w => writeM_any ⟨k1, u1, a1, q1, mx1, mi1, yo1⟩ w h1
  have hw2 := fun w => writeM_any ⟨k1, u1, a1, q2, mx2, mi2, yo2⟩ w h2
  unfold MsgV.val MsgV.cs at hw1 hw2
  unfold OutB at hw1 hw2
  simp only at hw1 hw2
  rw [hr1] at hw1
  rw [hr2] at hw2
  have kb1 := (Blk.new w 26 #[.int .i64 k1, .int .i64 u1, .int .u32 a1, .int .u32 q1, .bool mx1, .int .u32 mi1, .int .u32 yo1]).alloc (.cells #[.int .i64 k1, .int .i64 u1, .int .u32 a1, .int .u32 q2, .bool mx2, .int .u32 mi2, .int .u32 yo2] 26)
  have kb2 := (Blk.new (w.alloc (.cells #[.int .i64 k1, .int .i64 u1, .int .u32 a1, .int .u32 q1, .bool mx1, .int .u32 mi1, .int .u32 yo1] 26)) 26 #[.int .i64 k1, .int .i64 u1, .int .u32 a1, .int .u32 q2, .bool mx2, .int .u32 mi2, .int .u32 yo2])
  rw [show (w.alloc (.cells #[.int .i64 k1, .int .i64 u1, .int .u32 a1, .int .u32 q1, .bool mx1, .int .u32 mi1, .int .u32 yo1] 26)).heap.size = w.heap.size + 1 by simp] at kb2
  have hbw := ba2 w (.cells #[.int .i64 k1, .int .i64 u1, .int .u32 a1, .int .u32 q1, .bool mx1, .int .u32 mi1, .int .u32 yo1] 26) (.cells #[.int .i64 k1, .int .i64 u1, .int .u32 a1, .int .u32 q2, .bool mx2, .int .u32 mi2, .int .u32 yo2] 26)
  go_enter Try.func7, Try.ntmps7
  go_wp2_with fail
  refine (hw1 _).mono ?_
  rintro e w1 ⟨A1, c1, rfl, own1, hb1⟩
  have g1 := kb1.below hb1 kb1.lt
  have g2 := kb2.below hb1 kb2.lt
  have hbw := bt hbw hb1
  clear kb1 kb2 hb1
  have d0 := (g2).cell 0
  have d1 := (g2).cell 1
  have d2 := (g2).cell 2
  have d3 := (g2).cell 3
  have d4 := (g2).cell 4
  have d5 := (g2).cell 5
  have d6 := (g2).cell 6
  simp only [List.getElem?_toArray, List.getElem?_cons_zero, List.getElem?_cons_succ] at d0 d1 d2 d3 d4 d5 d6
  go_wp2_with fail
  refine (hw2 _).mono ?_
  rintro e w2 ⟨A2, c2, rfl, own2, hb2⟩
  have g3 := g1.below hb2 g1.lt
  have g4 := g2.below hb2 g2.lt
  have own1 := own1.below hb2 (Nat.le_refl _)
  have hbw := bt hbw hb2
  clear g1 g2 hb2 d0 d1 d2 d3 d4 d5 d6
  clear hr1 hr2 hw1 hw2
  have hl0 : (L1 == L2) = false := beq_eq_false_iff_ne.2 hL
  have hl1 : ((ByteArray.mk L1.toArray).toList == (ByteArray.mk L2.toArray).toList) = false := by rw [ByteArray.toList_eq, ByteArray.toList_eq]; exact hl0
  have hl4 : decide (L1 = L2) = false := decide_eq_false hL
  have hb : ((q1 : Int) == (q2 : Int)) = false := beq_eq_false_iff_ne.2 hne
  go_wp2_with fail
  refine wp_region_invT (F := ?FA) (V := VAp A1 A2 c1 c2 L1 L2 #[.int .i64 k1, .int .i64 u1, .int .u32 a1, .int .u32 q1, .bool mx1, .int .u32 mi1, .int .u32 yo1] #[.int .i64 k1, .int .i64 u1, .int .u32 a1, .int .u32 q2, .bool mx2, .int .u32 mi2, .int .u32 yo2] false) (dead := fun _ => none) (T := fun _ _ => True) (C := fun u' => Below w2.heap.size w2 u') (E := fun _ _ _ => True) (by kernel_rfl) (by kernel_rfl) (by kernel_rfl) (fun x => ?hFA) ?hmonoA ?hTmA ?hTA ?hCA ?stepA ?finA
  case hFA => simp only [mkA, Act.put, List.setIfInBounds_toArray, List.set_cons_succ, List.set_cons_zero, Nat.reduceAdd, Nat.zero_add]; first | with_reducible rfl | rfl
  case hmonoA => exact fun k i v u u' he hik hwt hdd hv => VAp.mono hv
  case hTmA => exact fun _ _ _ _ _ _ _ _ => trivial
  case hTA => exact fun j => trivial
  case hCA => exact below_drew _
  case stepA =>
    refine AllOps.cons (fun x u hC hT hp K hK => ?_) ?_
    · clear hp hT
      go_simp
      refine (alive_any _).mono ?_
      rintro e wA ⟨rfl, hbA⟩
      refine hK _ _ _ (bt hC hbA) trivial (by exact rfl) ?_
      first | (simp only [Act.put, List.setIfInBounds_toArray, List.set_cons_succ, List.set_cons_zero]; done) | simp [Act.put]
    refine AllOps.cons (fun x u hC hT hp K hK => ?_) ?_
    · simp [KnownTill, Region.binds, VAp] at hp
      clear hT
      go_simp
      refine hK _ _ _ hC trivial (by exact rfl) ?_
      first | (simp only [Act.put, List.setIfInBounds_toArray, List.set_cons_succ, List.set_cons_zero, hp]; done) | simp [Act.put, hp]
    refine AllOps.cons (fun x u hC hT hp K hK => ?_) ?_
    · simp [KnownTill, Region.binds, VAp] at hp
      clear hT
      go_simp
      refine hK _ _ _ hC trivial (by exact rfl) ?_
      first | (simp only [Act.put, List.setIfInBounds_toArray, List.set_cons_succ, List.set_cons_zero, hp]; done) | simp [Act.put, hp]
    refine AllOps.cons (fun x u hC hT hp K hK => ?_) ?_
    · simp [KnownTill, Region.binds, VAp] at hp
      clear hT
      have cv : (convert 27 9 (.slice A1 L1.length c1)).run Try.prog u = .ok (.string ⟨L1.toArray⟩) u := conv_bytes Try.underlying27 Try.underlying5 Try.underlying9 (own1.below hC (Nat.le_refl _)).bs _
      go_simp
      refine hK _ _ _ hC trivial (by exact rfl) ?_
      first | (simp only [Act.put, List.setIfInBounds_toArray, List.set_cons_succ, List.set_cons_zero, hp]; done) | simp [Act.put, hp]
    refine AllOps.cons (fun x u hC hT hp K hK => ?_) ?_
    · simp [KnownTill, Region.binds, VAp] at hp
      clear hT
      go_simp
      refine hK _ _ _ hC trivial (by exact rfl) ?_
      first | (simp only [Act.put, List.setIfInBounds_toArray, List.set_cons_succ, List.set_cons_zero, hp]; done) | simp [Act.put, hp]
    refine AllOps.cons (fun x u hC hT hp K hK => ?_) ?_
    · simp [KnownTill, Region.binds, VAp] at hp
      clear hT
      have cv : (convert 27 9 (.slice A2 L2.length c2)).run Try.prog u = .ok (.string ⟨L2.toArray⟩) u := conv_bytes Try.underlying27 Try.underlying5 Try.underlying9 (own2.below hC (Nat.le_refl _)).bs _
      go_simp
      refine hK _ _ _ hC trivial (by exact rfl) ?_
      first | (simp only [Act.put, List.setIfInBounds_toArray, List.set_cons_succ, List.set_cons_zero, hp]; done) | simp [Act.put, hp]
    refine AllOps.cons (fun x u hC hT hp K hK => ?_) ?_
    · simp [KnownTill, Region.binds, VAp] at hp
      clear hT
      go_simp
      refine hK _ _ _ hC trivial (by exact rfl) ?_
      first | (simp only [Act.put, List.setIfInBounds_toArray, List.set_cons_succ, List.set_cons_zero, hp]; done) | simp [Act.put, hp]
    refine AllOps.cons (fun x u hC hT hp K hK => ?_) ?_
    · simp [KnownTill, Region.binds, VAp] at hp
      clear hT
      have d0 := ((g3.below hC g3.lt)).cell 0
      have d1 := ((g3.below hC g3.lt)).cell 1
      have d2 := ((g3.below hC g3.lt)).cell 2
      have d3 := ((g3.below hC g3.lt)).cell 3
      have d4 := ((g3.below hC g3.lt)).cell 4
      have d5 := ((g3.below hC g3.lt)).cell 5
      have d6 := ((g3.below hC g3.lt)).cell 6
      simp only [List.getElem?_toArray, List.getElem?_cons_zero, List.getElem?_cons_succ] at d0 d1 d2 d3 d4 d5 d6
      go_simp
      refine hK _ _ _ hC trivial (by exact rfl) ?_
      first | (simp only [Act.put, List.setIfInBounds_toArray, List.set_cons_succ, List.set_cons_zero, hp]; done) | simp [Act.put, hp]
    refine AllOps.cons (fun x u hC hT hp K hK => ?_) ?_
    · simp [KnownTill, Region.binds, VAp] at hp
      clear hT
      have d0 := ((g4.below hC g4.lt)).cell 0
      have d1 := ((g4.below hC g4.lt)).cell 1
      have d2 := ((g4.below hC g4.lt)).cell 2
      have d3 := ((g4.below hC g4.lt)).cell 3
      have d4 := ((g4.below hC g4.lt)).cell 4
      have d5 := ((g4.below hC g4.lt)).cell 5
      have d6 := ((g4.below hC g4.lt)).cell 6
      simp only [List.getElem?_toArray, List.getElem?_cons_zero, List.getElem?_cons_succ] at d0 d1 d2 d3 d4 d5 d6
      go_simp
      refine hK _ _ _ hC trivial (by exact rfl) ?_
      first | (simp only [Act.put, List.setIfInBounds_toArray, List.set_cons_succ, List.set_cons_zero, hp]; done) | simp [Act.put, hp]
    refine AllOps.cons (fun x u hC hT hp K hK => ?_) ?_
    · simp [KnownTill, Region.binds, VAp] at hp
      clear hT
      go_simp
      refine hK _ _ _ hC trivial (by exact rfl) ?_
      first | (simp only [Act.put, List.setIfInBounds_toArray, List.set_cons_succ, List.set_cons_zero, hp]; done) | simp [Act.put, hp]
    refine AllOps.cons (fun x u hC hT hp K hK => ?_) ?_
    · simp [KnownTill, Region.binds, VAp] at hp
      clear hT
      go_simp
      refine hK _ _ _ hC trivial (by exact rfl) ?_
      first | (simp only [Act.put, List.setIfInBounds_toArray, List.set_cons_succ, List.set_cons_zero, hp]; done) | simp [Act.put, hp]
    refine AllOps.cons (fun x u hC hT hp K hK => ?_) ?_
    · simp [KnownTill, Region.binds, VAp] at hp
      clear hT
      go_simp
      refine hK _ _ _ hC trivial (by exact rfl) ?_
      first | (simp only [Act.put, List.setIfInBounds_toArray, List.set_cons_succ, List.set_cons_zero, hp]; done) | simp [Act.put, hp]
    refine AllOps.cons (fun x u hC hT hp K hK => ?_) ?_
    · simp [KnownTill, Region.binds, VAp] at hp
      clear hT
      go_simp
      refine hK _ _ _ hC trivial (by exact rfl) ?_
      first | (simp only [Act.put, List.setIfInBounds_toArray, List.set_cons_succ, List.set_cons_zero, hp]; done) | simp [Act.put, hp]
    exact AllOps.nil
  case finA =>
    intro x u hC hV
    have hz : x 12 = .bool true := hV 12 (by decide) rfl
    rw [hz]
    have hbe := bt hbw hC
    clear hV hz hC g3 g4
    go_wp2
    go_ret
    exact ⟨rfl, hbe⟩

set_option maxHeartbeats 2000000 in
theorem apart_diff4 (k1 u1 : Int) (a1 q1 : Nat) (mx1 : Bool) (mi1 yo1 : Nat) (k2 u2 : Int) (a2 q2 : Nat) (mx2 : Bool) (mi2 yo2 : Nat) (w : World) (h1 : MsgOk ⟨k1, u1, a1, q1, mx1, mi1, yo1⟩) (h2 : MsgOk ⟨k2, u2, a2, q2, mx2, mi2, yo2⟩) (L1 L2 : List UInt8) (hr1 : writeM ⟨k1, u1, a1, q1, mx1, mi1, yo1⟩ = (L1, 0)) (hr2 : writeM ⟨k2, u2, a2, q2, mx2, mi2, yo2⟩ = (L2, 0)) (hL : L1 ≠ L2) (hmn : k1 = k2 ∧ u1 = u2 ∧ a1 = a2 ∧ q1 = q2 ∧ ¬ (mx1 = mx2)) : Calls Try.prog 7 #[.agg #[.int .i64 k1, .int .i64 u1, .int .u32 a1, .int .u32 q1, .bool mx1, .int .u32 mi1, .int .u32 yo1], .agg #[.int .i64 k2, .int .i64 u2, .int .u32 a2, .int .u32 q2, .bool mx2, .int .u32 mi2, .int .u32 yo2]] w fun e w' => e = .returned (.bool true) ∧ Below w.heap.size w w' := by
  obtain ⟨rfl, rfl, rfl, rfl, hne⟩ := hmn
  have hw1 := fun w => writeM_any ⟨k1, u1, a1, q1, mx1, mi1, yo1⟩ w h1
  have hw2 := fun w => writeM_any ⟨k1, u1, a1, q1, mx2, mi2, yo2⟩ w h2
  unfold MsgV.val MsgV.cs at hw1 hw2
  unfold OutB at hw1 hw2
  simp only at hw1 hw2
  rw [hr1] at hw1
  rw [hr2] at hw2
  have kb1 := (Blk.new w 26 #[.int .i64 k1, .int .i64 u1, .int .u32 a1, .int .u32 q1, .bool mx1, .int .u32 mi1, .int .u32 yo1]).alloc (.cells #[.int .i64 k1, .int .i64 u1, .int .u32 a1, .int .u32 q1, .bool mx2, .int .u32 mi2, .int .u32 yo2] 26)
  have kb2 := (Blk.new (w.alloc (.cells #[.int .i64 k1, .int .i64 u1, .int .u32 a1, .int .u32 q1, .bool mx1, .int .u32 mi1, .int .u32 yo1] 26)) 26 #[.int .i64 k1, .int .i64 u1, .int .u32 a1, .int .u32 q1, .bool mx2, .int .u32 mi2, .int .u32 yo2])
  rw [show (w.alloc (.cells #[.int .i64 k1, .int .i64 u1, .int .u32 a1, .int .u32 q1, .bool mx1, .int .u32 mi1, .int .u32 yo1] 26)).heap.size = w.heap.size + 1 by simp] at kb2
  have hbw := ba2 w (.cells #[.int .i64 k1, .int .i64 u1, .int .u32 a1, .int .u32 q1, .bool mx1, .int .u32 mi1, .int .u32 yo1] 26) (.cells #[.int .i64 k1, .int .i64 u1, .int .u32 a1, .int .u32 q1, .bool mx2, .int .u32 mi2, .int .u32 yo2] 26)
  go_enter Try.func7, Try.ntmps7
  go_wp2_with fail
  refine (hw1 _).mono ?_
  rintro e w1 ⟨A1, c1, rfl, own1, hb1⟩
  have g1 := kb1.below hb1 kb1.lt
  have g2 := kb2.below hb1 kb2.lt
  have hbw := bt hbw hb1
  clear kb1 kb2 hb1
  have d0 := (g2).cell 0
  have d1 := (g2).cell 1
  have d2 := (g2).cell 2
  have d3 := (g2).cell 3
  have d4 := (g2).cell 4
  have d5 := (g2).cell 5
  have d6 := (g2).cell 6
  simp only [List.getElem?_toArray, List.getElem?_cons_zero, List.getElem?_cons_succ] at d0 d1 d2 d3 d4 d5 d6
  go_wp2_with fail
  refine (hw2 _).mono ?_
  rintro e w2 ⟨A2, c2, rfl, own2, hb2⟩
  have g3 := g1.below hb2 g1.lt
  have g4 := g2.below hb2 g2.lt
  have own1 := own1.below hb2 (Nat.le_refl _)
  have hbw := bt hbw hb2
  clear g1 g2 hb2 d0 d1 d2 d3 d4 d5 d6
  clear hr1 hr2 hw1 hw2
  have hl0 : (L1 == L2) = false := beq_eq_false_iff_ne.2 hL
  have hl1 : ((ByteArray.mk L1.toArray).toList == (ByteArray.mk L2.toArray).toList) = false := by rw [ByteArray.toList_eq, ByteArray.toList_eq]; exact hl0
  have hl4 : decide (L1 = L2) = false := decide_eq_false hL
  have hb : (mx1 == mx2) = false := beq_eq_false_iff_ne.2 hne
  go_wp2_with fail
  refine wp_region_invT (F := ?FA) (V := VAp A1 A2 c1 c2 L1 L2 #[.int .i64 k1, .int .i64 u1, .int .u32 a1, .int .u32 q1, .bool mx1, .int .u32 mi1, .int .u32 yo1] #[.int .i64 k1, .int .i64 u1, .int .u32 a1, .int .u32 q1, .bool mx2, .int .u32 mi2, .int .u32 yo2] false) (dead := fun _ => none) (T := fun _ _ => True) (C := fun u' => Below w2.heap.size w2 u') (E := fun _ _ _ => True) (by kernel_rfl) (by kernel_rfl) (by kernel_rfl) (fun x => ?hFA) ?hmonoA ?hTmA ?hTA ?hCA ?stepA ?finA
  case hFA => simp only [mkA, Act.put, List.setIfInBounds_toArray, List.set_cons_succ, List.set_cons_zero, Nat.reduceAdd, Nat.zero_add]; first | with_reducible rfl | rfl
  case hmonoA => exact fun k i v u u' he hik hwt hdd hv => VAp.mono hv
  case hTmA => exact fun _ _ _ _ _ _ _ _ => trivial
  case hTA => exact fun j => trivial
  case hCA => exact below_drew _
  case stepA =>
    refine AllOps.cons (fun x u hC hT hp K hK => ?_) ?_
    · clear hp hT
      go_simp
      refine (alive_any _).mono ?_
      rintro e wA ⟨rfl, hbA⟩
      refine hK _ _ _ (bt hC hbA) trivial (by exact rfl) ?_
      first | (simp only [Act.put, List.setIfInBounds_toArray, List.set_cons_succ, List.set_cons_zero]; done) | simp [Act.put]
    refine AllOps.cons (fun x u hC hT hp K hK => ?_) ?_
    · simp [KnownTill, Region.binds, VAp] at hp
      clear hT
      go_simp
      refine hK _ _ _ hC trivial (by exact rfl) ?_
      first | (simp only [Act.put, List.setIfInBounds_toArray, List.set_cons_succ, List.set_cons_zero, hp]; done) | simp [Act.put, hp]
    refine AllOps.cons (fun x u hC hT hp K hK => ?_) ?_
    · simp [KnownTill, Region.binds, VAp] at hp
      clear hT
      go_simp
      refine hK _ _ _ hC trivial (by exact rfl) ?_
      first | (simp only [Act.put, List.setIfInBounds_toArray, List.set_cons_succ, List.set_cons_zero, hp]; done) | simp [Act.put, hp]
    refine AllOps.cons (fun x u hC hT hp K hK => ?_) ?_
    · simp [KnownTill, Region.binds, VAp] at hp
      clear hT
      have cv : (convert 27 9 (.slice A1 L1.length c1)).run Try.prog u = .ok (.string ⟨L1.toArray⟩) u := conv_bytes Try.underlying27 Try.underlying5 Try.underlying9 (own1.below hC (Nat.le_refl _)).bs _
      go_simp
      refine hK _ _ _ hC trivial (by exact rfl) ?_
      first | (simp only [Act.put, List.setIfInBounds_toArray, List.set_cons_succ, List.set_cons_zero, hp]; done) | simp [Act.put, hp]
    refine AllOps.cons (fun x u hC hT hp K hK => ?_) ?_
    · simp [KnownTill, Region.binds, VAp] at hp
      clear hT
      go_simp
      refine hK _ _ _ hC trivial (by exact rfl) ?_
      first | (simp only [Act.put, List.setIfInBounds_toArray, List.set_cons_succ, List.set_cons_zero, hp]; done) | simp [Act.put, hp]
    refine AllOps.cons (fun x u hC hT hp K hK => ?_) ?_
    · simp [KnownTill, Region.binds, VAp] at hp
      clear hT
      have cv : (convert 27 9 (.slice A2 L2.length c2)).run Try.prog u = .ok (.string ⟨L2.toArray⟩) u := conv_bytes Try.underlying27 Try.underlying5 Try.underlying9 (own2.below hC (Nat.le_refl _)).bs _
      go_simp
      refine hK _ _ _ hC trivial (by exact rfl) ?_
      first | (simp only [Act.put, List.setIfInBounds_toArray, List.set_cons_succ, List.set_cons_zero, hp]; done) | simp [Act.put, hp]
    refine AllOps.cons (fun x u hC hT hp K hK => ?_) ?_
    · simp [KnownTill, Region.binds, VAp] at hp
      clear hT
      go_simp
      refine hK _ _ _ hC trivial (by exact rfl) ?_
      first | (simp only [Act.put, List.setIfInBounds_toArray, List.set_cons_succ, List.set_cons_zero, hp]; done) | simp [Act.put, hp]
    refine AllOps.cons (fun x u hC hT hp K hK => ?_) ?_
    · simp [KnownTill, Region.binds, VAp] at hp
      clear hT
      have d0 := ((g3.below hC g3.lt)).cell 0
      have d1 := ((g3.below hC g3.lt)).cell 1
      have d2 := ((g3.below hC g3.lt)).cell 2
      have d3 := ((g3.below hC g3.lt)).cell 3
      have d4 := ((g3.below hC g3.lt)).cell 4
      have d5 := ((g3.below hC g3.lt)).cell 5
      have d6 := ((g3.below hC g3.lt)).cell 6
      simp only [List.getElem?_toArray, List.getElem?_cons_zero, List.getElem?_cons_succ] at d0 d1 d2 d3 d4 d5 d6
      go_simp
      refine hK _ _ _ hC trivial (by exact rfl) ?_
      first | (simp only [Act.put, List.setIfInBounds_toArray, List.set_cons_succ, List.set_cons_zero, hp]; done) | simp [Act.put, hp]
    refine AllOps.cons (fun x u hC hT hp K hK => ?_) ?_
    · simp [KnownTill, Region.binds, VAp] at hp
      clear hT
      have d0 := ((g4.below hC g4.lt)).cell 0
      have d1 := ((g4.below hC g4.lt)).cell 1
      have d2 := ((g4.below hC g4.lt)).cell 2
      have d3 := ((g4.below hC g4.lt)).cell 3
      have d4 := ((g4.below hC g4.lt)).cell 4
      have d5 := ((g4.below hC g4.lt)).cell 5
      have d6 := ((g4.below hC g4.lt)).cell 6
      simp only [List.getElem?_toArray, List.getElem?_cons_zero, List.getElem?_cons_succ] at d0 d1 d2 d3 d4 d5 d6
      go_simp
      refine hK _ _ _ hC trivial (by exact rfl) ?_
      first | (simp only [Act.put, List.setIfInBounds_toArray, List.set_cons_succ, List.set_cons_zero, hp]; done) | simp [Act.put, hp]
    refine AllOps.cons (fun x u hC hT hp K hK => ?_) ?_
    · simp [KnownTill, Region.binds, VAp] at hp
      clear hT
      go_simp
      refine hK _ _ _ hC trivial (by exact rfl) ?_
      first | (simp only [Act.put, List.setIfInBounds_toArray, List.set_cons_succ, List.set_cons_zero, hp]; done) | simp [Act.put, hp]
    refine AllOps.cons (fun x u hC hT hp K hK => ?_) ?_
    · simp [KnownTill, Region.binds, VAp] at hp
      clear hT
      go_simp
      refine hK _ _ _ hC trivial (by exact rfl) ?_
      first | (simp only [Act.put, List.setIfInBounds_toArray, List.set_cons_succ, List.set_cons_zero, hp]; done) | simp [Act.put, hp]
    refine AllOps.cons (fun x u hC hT hp K hK => ?_) ?_
    · simp [KnownTill, Region.binds, VAp] at hp
      clear hT
      go_simp
      refine hK _ _ _ hC trivial (by exact rfl) ?_
      first | (simp only [Act.put, List.setIfInBounds_toArray, List.set_cons_succ, List.set_cons_zero, hp]; done) | simp [Act.put, hp]
    refine AllOps.cons (fun x u hC hT hp K hK => ?_) ?_
    · simp [KnownTill, Region.binds, VAp] at hp
      clear hT
      go_simp
      refine hK _ _ _ hC trivial (by exact rfl) ?_
      first | (simp only [Act.put, List.setIfInBounds_toArray, List.set_cons_succ, List.set_cons_zero, hp]; done) | simp [Act.put, hp]
    exact AllOps.nil
  case finA =>
    intro x u hC hV
    have hz : x 12 = .bool true := hV 12 (by decide) rfl
    rw [hz]
    have hbe := bt hbw hC
    clear hV hz hC g3 g4
    go_wp2
    go_ret
    exact ⟨rfl, hbe⟩

set_option maxHeartbeats 2000000 in
theorem apart_diff5 (k1 u1 : Int) (a1 q1 : Nat) (mx1 : Bool) (mi1 yo1 : Nat) (k2 u2 : Int) (a2 q2 : Nat) (mx2 : Bool) (mi2 yo2 : Nat) (w : World) (h1 : MsgOk ⟨k1, u1, a1, q1, mx1, mi1, yo1⟩) (h2 : MsgOk ⟨k2, u2, a2, q2, mx2, mi2, yo2⟩) (L1 L2 : List UInt8) (hr1 : writeM ⟨k1, u1, a1, q1, mx1, mi1, yo1⟩ = (L1, 0)) (hr2 : writeM ⟨k2, u2, a2, q2, mx2, mi2, yo2⟩ = (L2, 0)) (hL : L1 ≠ L2) (hmn : k1 = k2 ∧ u1 = u2 ∧ a1 = a2 ∧ q1 = q2 ∧ mx1 = mx2 ∧ ¬ ((mi1 : Int) = (mi2 : Int))) : Calls Try.prog 7 #[.agg #[.int .i64 k1, .int .i64 u1, .int .u32 a1, .int .u32 q1, .bool mx1, .int .u32 mi1, .int .u32 yo1], .agg #[.int .i64 k2, .int .i64 u2, .int .u32 a2, .int .u32 q2, .bool mx2, .int .u32 mi2, .int .u32 yo2]] w fun e w' => e = .returned (.bool true) ∧ Below w.heap.size w w' := by
  obtain ⟨rfl, rfl, rfl, rfl, rfl, hne⟩ := hmn
  have hw1 := fun w => writeM_any ⟨k1, u1, a1, q1, mx1, mi1, yo1⟩ w h1
  have hw2 := fun w => writeM_any ⟨k1, u1, a1, q1, mx1, mi2, yo2⟩ w h2
  unfold MsgV.val MsgV.cs at hw1 hw2
  unfold OutB at hw1 hw2
  simp only at hw1 hw2
  rw [hr1] at hw1
  rw [hr2] at hw2
  have kb1 := (Blk.new w 26 #[.int .i64 k1, .int .i64 u1, .int .u32 a1, .int .u32 q1, .bool mx1, .int .u32 mi1, .int .u32 yo1]).alloc (.cells #[.int .i64 k1, .int .i64 u1, .int .u32 a1, .int .u32 q1, .bool mx1, .int .u32 mi2, .int .u32 yo2] 26)
  have kb2 := (Blk.new (w.alloc (.cells #[.int .i64 k1, .int .i64 u1, .int .u32 a1, .int .u32 q1, .bool mx1, .int .u32 mi1, .int .u32 yo1] 26)) 26 #[.int .i64 k1, .int .i64 u1, .int .u32 a1, .int .u32 q1, .bool mx1, .int .u32 mi2, .int .u32 yo2])
  rw [show (w.alloc (.cells #[.int .i64 k1, .int .i64 u1, .int .u32 a1, .int .u32 q1, .bool mx1, .int .u32 mi1, .int .u32 yo1] 26)).heap.size = w.heap.size + 1 by simp] at kb2
  have hbw := ba2 w (.cells #[.int .i64 k1, .int .i64 u1, .int .u32 a1, .int .u32 q1, .bool mx1, .int .u32 mi1, .int .u32 yo1] 26) (.cells #[.int .i64 k1, .int .i64 u1, .int .u32 a1, .int .u32 q1, .bool mx1, .int .u32 mi2, .int .u32 yo2] 26)
  go_enter Try.func7, Try.ntmps7
  go_wp2_with fail
  refine (hw1 _).mono ?_
  rintro e w1 ⟨A1, c1, rfl, own1, hb1⟩
  have g1 := kb1.below hb1 kb1.lt
  have g2 := kb2.below hb1 kb2.lt
  have hbw := bt hbw hb1
  clear kb1 kb2 hb1
  have d0 := (g2).cell 0
  have d1 := (g2).cell 1
  have d2 := (g2).cell 2
  have d3 := (g2).cell 3
  have d4 := (g2).cell 4
  have d5 := (g2).cell 5
  have d6 := (g2).cell 6
  simp only [List.getElem?_toArray, List.getElem?_cons_zero, List.getElem?_cons_succ] at d0 d1 d2 d3 d4 d5 d6
  go_wp2_with fail
  refine (hw2 _).mono ?_
  rintro e w2 ⟨A2, c2, rfl, own2, hb2⟩
  have g3 := g1.below hb2 g1.lt
  have g4 := g2.below hb2 g2.lt
  have own1 := own1.below hb2 (Nat.le_refl _)
  have hbw := bt hbw hb2
  clear g1 g2 hb2 d0 d1 d2 d3 d4 d5 d6
  clear hr1 hr2 hw1 hw2
  have hl0 : (L1 == L2) = false := beq_eq_false_iff_ne.2 hL
  have hl1 : ((ByteArray.mk L1.toArray).toList == (ByteArray.mk L2.toArray).toList) = false := by rw [ByteArray.toList_eq, ByteArray.toList_eq]; exact hl0
  have hl4 : decide (L1 = L2) = false := decide_eq_false hL
  have hb : ((mi1 : Int) == (mi2 : Int)) = false := beq_eq_false_iff_ne.2 hne
  go_wp2_with fail
  refine wp_region_invT (F := ?FA) (V := VAp A1 A2 c1 c2 L1 L2 #[.int .i64 k1, .int .i64 u1, .int .u32 a1, .int .u32 q1, .bool mx1, .int .u32 mi1, .int .u32 yo1] #[.int .i64 k1, .int .i64 u1, .int .u32 a1, .int .u32 q1, .bool mx1, .int .u32 mi2, .int .u32 yo2] false) (dead := fun _ => none) (T := fun _ _ => True) (C := fun u' => Below w2.heap.size w2 u') (E := fun _ _ _ => True) (by kernel_rfl) (by kernel_rfl) (by kernel_rfl) (fun x => ?hFA) ?hmonoA ?hTmA ?hTA ?hCA ?stepA ?finA
  case hFA => simp only [mkA, Act.put, List.setIfInBounds_toArray, List.set_cons_succ, List.set_cons_zero, Nat.reduceAdd, Nat.zero_add]; first | with_reducible rfl | rfl
  case hmonoA => exact fun k i v u u' he hik hwt hdd hv => VAp.mono hv
  case hTmA => exact fun _ _ _ _ _ _ _ _ => trivial
  case hTA => exact fun j => trivial
  case hCA => exact below_drew _
  case stepA =>
    refine AllOps.cons (fun x u hC hT hp K hK => ?_) ?_
    · clear hp hT
      go_simp
      refine (alive_any _).mono ?_
      rintro e wA ⟨rfl, hbA⟩
      refine hK _ _ _ (bt hC hbA) trivial (by exact rfl) ?_
      first | (simp only [Act.put, List.setIfInBounds_toArray, List.set_cons_succ, List.set_cons_zero]; done) | simp [Act.put]
    refine AllOps.cons (fun x u hC hT hp K hK => ?_) ?_
    · simp [KnownTill, Region.binds, VAp] at hp
      clear hT
      go_simp
      refine hK _ _ _ hC trivial (by exact rfl) ?_
      first | (simp only [Act.put, List.setIfInBounds_toArray, List.set_cons_succ, List.set_cons_zero, hp]; done) | simp [Act.put, hp]
    refine AllOps.cons (fun x u hC hT hp K hK => ?_) ?_
    · simp [KnownTill, Region.binds, VAp] at hp
      clear hT
      go_simp
      refine hK _ _ _ hC trivial (by exact rfl) ?_
      first | (simp only [Act.put, List.setIfInBounds_toArray, List.set_cons_succ, List.set_cons_zero, hp]; done) | simp [Act.put, hp]
    refine AllOps.cons (fun x u hC hT hp K hK => ?_) ?_
    · simp [KnownTill, Region.binds, VAp] at hp
      clear hT
      have cv : (convert 27 9 (.slice A1 L1.length c1)).run Try.prog u = .ok (.string ⟨L1.toArray⟩) u := conv_bytes Try.underlying27 Try.underlying5 Try.underlying9 (own1.below hC (Nat.le_refl _)).bs _
      go_simp
      refine hK _ _ _ hC trivial (by exact rfl) ?_
      first | (simp only [Act.put, List.setIfInBounds_toArray, List.set_cons_succ, List.set_cons_zero, hp]; done) | simp [Act.put, hp]
    refine AllOps.cons (fun x u hC hT hp K hK => ?_) ?_
    · simp [KnownTill, Region.binds, VAp] at hp
      clear hT
      go_simp
      refine hK _ _ _ hC trivial (by exact rfl) ?_
      first | (simp only [Act.put, List.setIfInBounds_toArray, List.set_cons_succ, List.set_cons_zero, hp]; done) | simp [Act.put, hp]
    refine AllOps.cons (fun x u hC hT hp K hK => ?_) ?_
    · simp [KnownTill, Region.binds, VAp] at hp
      clear hT
      have cv : (convert 27 9 (.slice A2 L2.length c2)).run Try.prog u = .ok (.string ⟨L2.toArray⟩) u := conv_bytes Try.underlying27 Try.underlying5 Try.underlying9 (own2.below hC (Nat.le_refl _)).bs _
      go_simp
      refine hK _ _ _ hC trivial (by exact rfl) ?_
      first | (simp only [Act.put, List.setIfInBounds_toArray, List.set_cons_succ, List.set_cons_zero, hp]; done) | simp [Act.put, hp]
    refine AllOps.cons (fun x u hC hT hp K hK => ?_) ?_
    · simp [KnownTill, Region.binds, VAp] at hp
      clear hT
      go_simp
      refine hK _ _ _ hC trivial (by exact rfl) ?_
      first | (simp only [Act.put, List.setIfInBounds_toArray, List.set_cons_succ, List.set_cons_zero, hp]; done) | simp [Act.put, hp]
    refine AllOps.cons (fun x u hC hT hp K hK => ?_) ?_
    · simp [KnownTill, Region.binds, VAp] at hp
      clear hT
      have d0 := ((g3.below hC g3.lt)).cell 0
      have d1 := ((g3.below hC g3.lt)).cell 1
      have d2 := ((g3.below hC g3.lt)).cell 2
      have d3 := ((g3.below hC g3.lt)).cell 3
      have d4 := ((g3.below hC g3.lt)).cell 4
      have d5 := ((g3.below hC g3.lt)).cell 5
      have d6 := ((g3.below hC g3.lt)).cell 6
      simp only [List.getElem?_toArray, List.getElem?_cons_zero, List.getElem?_cons_succ] at d0 d1 d2 d3 d4 d5 d6
      go_simp
      refine hK _ _ _ hC trivial (by exact rfl) ?_
      first | (simp only [Act.put, List.setIfInBounds_toArray, List.set_cons_succ, List.set_cons_zero, hp]; done) | simp [Act.put, hp]
    refine AllOps.cons (fun x u hC hT hp K hK => ?_) ?_
    · simp [KnownTill, Region.binds, VAp] at hp
      clear hT
      have d0 := ((g4.below hC g4.lt)).cell 0
      have d1 := ((g4.below hC g4.lt)).cell 1
      have d2 := ((g4.below hC g4.lt)).cell 2
      have d3 := ((g4.below hC g4.lt)).cell 3
      have d4 := ((g4.below hC g4.lt)).cell 4
      have d5 := ((g4.below hC g4.lt)).cell 5
      have d6 := ((g4.below hC g4.lt)).cell 6
      simp only [List.getElem?_toArray, List.getElem?_cons_zero, List.getElem?_cons_succ] at d0 d1 d2 d3 d4 d5 d6
      go_simp
      refine hK _ _ _ hC trivial (by exact rfl) ?_
      first | (simp only [Act.put, List.setIfInBounds_toArray, List.set_cons_succ, List.set_cons_zero, hp]; done) | simp [Act.put, hp]
    refine AllOps.cons (fun x u hC hT hp K hK => ?_) ?_
    · simp [KnownTill, Region.binds, VAp] at hp
      clear hT
      go_simp
      refine hK _ _ _ hC trivial (by exact rfl) ?_
      first | (simp only [Act.put, List.setIfInBounds_toArray, List.set_cons_succ, List.set_cons_zero, hp]; done) | simp [Act.put, hp]
    refine AllOps.cons (fun x u hC hT hp K hK => ?_) ?_
    · simp [KnownTill, Region.binds, VAp] at hp
      clear hT
      go_simp
      refine hK _ _ _ hC trivial (by exact rfl) ?_
      first | (simp only [Act.put, List.setIfInBounds_toArray, List.set_cons_succ, List.set_cons_zero, hp]; done) | simp [Act.put, hp]
    refine AllOps.cons (fun x u hC hT hp K hK => ?_) ?_
    · simp [KnownTill, Region.binds, VAp] at hp
      clear hT
      go_simp
      refine hK _ _ _ hC trivial (by exact rfl) ?_
      first | (simp only [Act.put, List.setIfInBounds_toArray, List.set_cons_succ, List.set_cons_zero, hp]; done) | simp [Act.put, hp]
    refine AllOps.cons (fun x u hC hT hp K hK => ?_) ?_
    · simp [KnownTill, Region.binds, VAp] at hp
      clear hT
      go_simp
      refine hK _ _ _ hC trivial (by exact rfl) ?_
      first | (simp only [Act.put, List.setIfInBounds_toArray, List.set_cons_succ, List.set_cons_zero, hp]; done) | simp [Act.put, hp]
    exact AllOps.nil
  case finA =>
    intro x u hC hV
    have hz : x 12 = .bool true := hV 12 (by decide) rfl
    rw [hz]
    have hbe := bt hbw hC
    clear hV hz hC g3 g4
    go_wp2
    go_ret
    exact ⟨rfl, hbe⟩

set_option maxHeartbeats 2000000 in
theorem apart_diff6 (k1 u1 : Int) (a1 q1 : Nat) (mx1 : Bool) (mi1 yo1 : Nat) (k2 u2 : Int) (a2 q2 : Nat) (mx2 : Bool) (mi2 yo2 : Nat) (w : World) (h1 : MsgOk ⟨k1, u1, a1, q1, mx1, mi1, yo1⟩) (h2 : MsgOk ⟨k2, u2, a2, q2, mx2, mi2, yo2⟩) (L1 L2 : List UInt8) (hr1 : writeM ⟨k1, u1, a1, q1, mx1, mi1, yo1⟩ = (L1, 0)) (hr2 : writeM ⟨k2, u2, a2, q2, mx2, mi2, yo2⟩ = (L2, 0)) (hL : L1 ≠ L2) (hmn : k1 = k2 ∧ u1 = u2 ∧ a1 = a2 ∧ q1 = q2 ∧ mx1 = mx2 ∧ mi1 = mi2 ∧ ¬ ((yo1 : Int) = (yo2 : Int))) : Calls Try.prog 7 #[.agg #[.int .i64 k1, .int .i64 u1, .int .u32 a1, .int .u32 q1, .bool mx1, .int .u32 mi1, .int .u32 yo1], .agg #[.int .i64 k2, .int .i64 u2, .int .u32 a2, .int .u32 q2, .bool mx2, .int .u32 mi2, .int .u32 yo2]] w fun e w' => e = .returned (.bool true) ∧ Below w.heap.size w w' := by
  obtain ⟨rfl, rfl, rfl, rfl, rfl, rfl, hne⟩ := hmn
  have hw1 := fun w => writeM_any ⟨k1, u1, a1, q1, mx1, mi1, yo1⟩ w h1
  have hw2 := fun w => writeM_any ⟨k1, u1, a1, q1, mx1, mi1, yo2⟩ w h2
  unfold MsgV.val MsgV.cs at hw1 hw2
  unfold OutB at hw1 hw2
  simp only at hw1 hw2
  rw [hr1] at hw1
  rw [hr2] at hw2
  have kb1 := (Blk.new w 26 #[.int .i64 k1, .int .i64 u1, .int .u32 a1, .int .u32 q1, .bool mx1, .int .u32 mi1, .int .u32 yo1]).alloc (.cells #[.int .i64 k1, .int .i64 u1, .int .u32 a1, .int .u32 q1, .bool mx1, .int .u32 mi1, .int .u32 yo2] 26)
  have kb2 := (Blk.new (w.alloc (.cells #[.int .i64 k1, .int .i64 u1, .int .u32 a1, .int .u32 q1, .bool mx1, .int .u32 mi1, .int .u32 yo1] 26)) 26 #[.int .i64 k1, .int .i64 u1, .int .u32 a1, .int .u32 q1, .bool mx1, .int .u32 mi1, .int .u32 yo2])
  rw [show (w.alloc (.cells #[.int .i64 k1, .int .i64 u1, .int .u32 a1, .int .u32 q1, .bool mx1, .int .u32 mi1, .int .u32 yo1] 26)).heap.size = w.heap.size + 1 by simp] at kb2
  have hbw := ba2 w (.cells #[.int .i64 k1, .int .i64 u1, .int .u32 a1, .int .u32 q1, .bool mx1, .int .u32 mi1, .int .u32 yo1] 26) (.cells #[.int .i64 k1, .int .i64 u1, .int .u32 a1, .int .u32 q1, .bool mx1, .int .u32 mi1, .int .u32 yo2] 26)
  go_enter Try.func7, Try.ntmps7
  go_wp2_with fail
  refine (hw1 _).mono ?_
  rintro e w1 ⟨A1, c1, rfl, own1, hb1⟩
  have g1 := kb1.below hb1 kb1.lt
  have g2 := kb2.below hb1 kb2.lt
  have hbw := bt hbw hb1
  clear kb1 kb2 hb1
  have d0 := (g2).cell 0
  have d1 := (g2).cell 1
  have d2 := (g2).cell 2
  have d3 := (g2).cell 3
  have d4 := (g2).cell 4
  have d5 := (g2).cell 5
  have d6 := (g2).cell 6
  simp only [List.getElem?_toArray, List.getElem?_cons_zero, List.getElem?_cons_succ] at d0 d1 d2 d3 d4 d5 d6
  go_wp2_with fail
  refine (hw2 _).mono ?_
  rintro e w2 ⟨A2, c2, rfl, own2, hb2⟩
  have g3 := g1.below hb2 g1.lt
  have g4 := g2.below hb2 g2.lt
  have own1 := own1.below hb2 (Nat.le_refl _)
  have hbw := bt hbw hb2
  clear g1 g2 hb2 d0 d1 d2 d3 d4 d5 d6
  clear hr1 hr2 hw1 hw2
  have hl0 : (L1 == L2) = false := beq_eq_false_iff_ne.2 hL
  have hl1 : ((ByteArray.mk L1.toArray).toList == (ByteArray.mk L2.toArray).toList) = false := by rw [ByteArray.toList_eq, ByteArray.toList_eq]; exact hl0
  have hl4 : decide (L1 = L2) = false := decide_eq_false hL
  have hb : ((yo1 : Int) == (yo2 : Int)) = false := beq_eq_false_iff_ne.2 hne
  go_wp2_with fail
  refine wp_region_invT (F := ?FA) (V := VAp A1 A2 c1 c2 L1 L2 #[.int .i64 k1, .int .i64 u1, .int .u32 a1, .int .u32 q1, .bool mx1, .int .u32 mi1, .int .u32 yo1] #[.int .i64 k1, .int .i64 u1, .int .u32 a1, .int .u32 q1, .bool mx1, .int .u32 mi1, .int .u32 yo2] false) (dead := fun _ => none) (T := fun _ _ => True) (C := fun u' => Below w2.heap.size w2 u') (E := fun _ _ _ => True) (by kernel_rfl) (by kernel_rfl) (by kernel_rfl) (fun x => ?hFA) ?hmonoA ?hTmA ?hTA ?hCA ?stepA ?finA
  case hFA => simp only [mkA, Act.put, List.setIfInBounds_toArray, List.set_cons_succ, List.set_cons_zero, Nat.reduceAdd, Nat.zero_add]; first | with_reducible rfl | rfl
  case hmonoA => exact fun k i v u u' he hik hwt hdd hv => VAp.mono hv
  case hTmA => exact fun _ _ _ _ _ _ _ _ => trivial
  case hTA => exact fun j => trivial
  case hCA => exact below_drew _
  case stepA =>
    refine AllOps.cons (fun x u hC hT hp K hK => ?_) ?_
    · clear hp hT
      go_simp
      refine (alive_any _).mono ?_
      rintro e wA ⟨rfl, hbA⟩
      refine hK _ _ _ (bt hC hbA) trivial (by exact rfl) ?_
      first | (simp only [Act.put, List.setIfInBounds_toArray, List.set_cons_succ, List.set_cons_zero]; done) | simp [Act.put]
    refine AllOps.cons (fun x u hC hT hp K hK => ?_) ?_
    · simp [KnownTill, Region.binds, VAp] at hp
      clear hT
      go_simp
      refine hK _ _ _ hC trivial (by exact rfl) ?_
      first | (simp only [Act.put, List.setIfInBounds_toArray, List.set_cons_succ, List.set_cons_zero, hp]; done) | simp [Act.put, hp]
    refine AllOps.cons (fun x u hC hT hp K hK => ?_) ?_
    · simp [KnownTill, Region.binds, VAp] at hp
      clear hT
      go_simp
      refine hK _ _ _ hC trivial (by exact rfl) ?_
      first | (simp only [Act.put, List.setIfInBounds_toArray, List.set_cons_succ, List.set_cons_zero, hp]; done) | simp [Act.put, hp]
    refine AllOps.cons (fun x u hC hT hp K hK => ?_) ?_
    · simp [KnownTill, Region.binds, VAp] at hp
      clear hT
      have cv : (convert 27 9 (.slice A1 L1.length c1)).run Try.prog u = .ok (.string ⟨L1.toArray⟩) u := conv_bytes Try.underlying27 Try.underlying5 Try.underlying9 (own1.below hC (Nat.le_refl _)).bs _
      go_simp
      refine hK _ _ _ hC trivial (by exact rfl) ?_
      first | (simp only [Act.put, List.setIfInBounds_toArray, List.set_cons_succ, List.set_cons_zero, hp]; done) | simp [Act.put, hp]
    refine AllOps.cons (fun x u hC hT hp K hK => ?_) ?_
    · simp [KnownTill, Region.binds, VAp] at hp
      clear hT
      go_simp
      refine hK _ _ _ hC trivial (by exact rfl) ?_
      first | (simp only [Act.put, List.setIfInBounds_toArray, List.set_cons_succ, List.set_cons_zero, hp]; done) | simp [Act.put, hp]
    refine AllOps.cons (fun x u hC hT hp K hK => ?_) ?_
    · simp [KnownTill, Region.binds, VAp] at hp
      clear hT
      have cv : (convert 27 9 (.slice A2 L2.length c2)).run Try.prog u = .ok (.string ⟨L2.toArray⟩) u := conv_bytes Try.underlying27 Try.underlying5 Try.underlying9 (own2.below hC (Nat.le_refl _)).bs _
      go_simp
      refine hK _ _ _ hC trivial (by exact rfl) ?_
      first | (simp only [Act.put, List.setIfInBounds_toArray, List.set_cons_succ, List.set_cons_zero, hp]; done) | simp [Act.put, hp]
    refine AllOps.cons (fun x u hC hT hp K hK => ?_) ?_
    · simp [KnownTill, Region.binds, VAp] at hp
      clear hT
      go_simp
      refine hK _ _ _ hC trivial (by exact rfl) ?_
      first | (simp only [Act.put, List.setIfInBounds_toArray, List.set_cons_succ, List.set_cons_zero, hp]; done) | simp [Act.put, hp]
    refine AllOps.cons (fun x u hC hT hp K hK => ?_) ?_
    · simp [KnownTill, Region.binds, VAp] at hp
      clear hT
      have d0 := ((g3.below hC g3.lt)).cell 0
      have d1 := ((g3.below hC g3.lt)).cell 1
      have d2 := ((g3.below hC g3.lt)).cell 2
      have d3 := ((g3.below hC g3.lt)).cell 3
      have d4 := ((g3.below hC g3.lt)).cell 4
      have d5 := ((g3.below hC g3.lt)).cell 5
      have d6 := ((g3.below hC g3.lt)).cell 6
      simp only [List.getElem?_toArray, List.getElem?_cons_zero, List.getElem?_cons_succ] at d0 d1 d2 d3 d4 d5 d6
      go_simp
      refine hK _ _ _ hC trivial (by exact rfl) ?_
      first | (simp only [Act.put, List.setIfInBounds_toArray, List.set_cons_succ, List.set_cons_zero, hp]; done) | simp [Act.put, hp]
    refine AllOps.cons (fun x u hC hT hp K hK => ?_) ?_
    · simp [KnownTill, Region.binds, VAp] at hp
      clear hT
      have d0 := ((g4.below hC g4.lt)).cell 0
      have d1 := ((g4.below hC g4.lt)).cell 1
      have d2 := ((g4.below hC g4.lt)).cell 2
      have d3 := ((g4.below hC g4.lt)).cell 3
      have d4 := ((g4.below hC g4.lt)).cell 4
      have d5 := ((g4.below hC g4.lt)).cell 5
      have d6 := ((g4.below hC g4.lt)).cell 6
      simp only [List.getElem?_toArray, List.getElem?_cons_zero, List.getElem?_cons_succ] at d0 d1 d2 d3 d4 d5 d6
      go_simp
      refine hK _ _ _ hC trivial (by exact rfl) ?_
      first | (simp only [Act.put, List.setIfInBounds_toArray, List.set_cons_succ, List.set_cons_zero, hp]; done) | simp [Act.put, hp]
    refine AllOps.cons (fun x u hC hT hp K hK => ?_) ?_
    · simp [KnownTill, Region.binds, VAp] at hp
      clear hT
      go_simp
      refine hK _ _ _ hC trivial (by exact rfl) ?_
      first | (simp only [Act.put, List.setIfInBounds_toArray, List.set_cons_succ, List.set_cons_zero, hp]; done) | simp [Act.put, hp]
    refine AllOps.cons (fun x u hC hT hp K hK => ?_) ?_
    · simp [KnownTill, Region.binds, VAp] at hp
      clear hT
      go_simp
      refine hK _ _ _ hC trivial (by exact rfl) ?_
      first | (simp only [Act.put, List.setIfInBounds_toArray, List.set_cons_succ, List.set_cons_zero, hp]; done) | simp [Act.put, hp]
    refine AllOps.cons (fun x u hC hT hp K hK => ?_) ?_
    · simp [KnownTill, Region.binds, VAp] at hp
      clear hT
      go_simp
      refine hK _ _ _ hC trivial (by exact rfl) ?_
      first | (simp only [Act.put, List.setIfInBounds_toArray, List.set_cons_succ, List.set_cons_zero, hp]; done) | simp [Act.put, hp]
    refine AllOps.cons (fun x u hC hT hp K hK => ?_) ?_
    · simp [KnownTill, Region.binds, VAp] at hp
      clear hT
      go_simp
      refine hK _ _ _ hC trivial (by exact rfl) ?_
      first | (simp only [Act.put, List.setIfInBounds_toArray, List.set_cons_succ, List.set_cons_zero, hp]; done) | simp [Act.put, hp]
    exact AllOps.nil
  case finA =>
    intro x u hC hV
    have hz : x 12 = .bool true := hV 12 (by decide) rfl
    rw [hz]
    have hbe := bt hbw hC
    clear hV hz hC g3 g4
    go_wp2
    go_ret
    exact ⟨rfl, hbe⟩

theorem pshApart_walk (m n : MsgV) (w : World) (h1 : MsgOk m) (h2 : MsgOk n) : Calls Try.prog 7 #[m.val, n.val] w fun e w' => e = .returned (.bool true) ∧ Below w.heap.size w w' := by
  rcases writeM_cases m with ⟨L1, e1, o1⟩ | ⟨L1, e1⟩
  · rcases writeM_cases n with ⟨L2, e2, o2⟩ | ⟨L2, e2⟩
    · have hinj := writeM_inj m n h1 h2 o1 o2
      rw [e1, e2] at hinj
      simp only at hinj
      obtain ⟨k1, u1, a1, q1, mx1, mi1, yo1⟩ := m
      obtain ⟨k2, u2, a2, q2, mx2, mi2, yo2⟩ := n
      by_cases hL : L1 = L2
      · have := hinj hL
        injection this with x1 x2 x3 x4 x5 x6 x7
        exact apart_same _ _ _ _ _ _ _ _ _ _ _ _ _ _ w h1 h2 L1 L2 e1 e2 ⟨x1, x2, x3, x4, x5, x6, x7⟩
      · by_cases d0 : k1 = k2
        · by_cases d1 : u1 = u2
          · by_cases d2 : a1 = a2
            · by_cases d3 : q1 = q2
              · by_cases d4 : mx1 = mx2
                · by_cases d5 : mi1 = mi2
                  · by_cases d6 : yo1 = yo2
                    · subst d0 d1 d2 d3 d4 d5 d6
                      rw [e1] at e2
                      injection e2 with e2
                      exact absurd e2 hL
                    · exact apart_diff6 k1 u1 a1 q1 mx1 mi1 yo1 k2 u2 a2 q2 mx2 mi2 yo2 w h1 h2 L1 L2 e1 e2 hL ⟨d0, d1, d2, d3, d4, d5, fun e => d6 (by omega)⟩
                  · exact apart_diff5 k1 u1 a1 q1 mx1 mi1 yo1 k2 u2 a2 q2 mx2 mi2 yo2 w h1 h2 L1 L2 e1 e2 hL ⟨d0, d1, d2, d3, d4, fun e => d5 (by omega)⟩
                · exact apart_diff4 k1 u1 a1 q1 mx1 mi1 yo1 k2 u2 a2 q2 mx2 mi2 yo2 w h1 h2 L1 L2 e1 e2 hL ⟨d0, d1, d2, d3, d4⟩
              · exact apart_diff3 k1 u1 a1 q1 mx1 mi1 yo1 k2 u2 a2 q2 mx2 mi2 yo2 w h1 h2 L1 L2 e1 e2 hL ⟨d0, d1, d2, fun e => d3 (by omega)⟩
            · exact apart_diff2 k1 u1 a1 q1 mx1 mi1 yo1 k2 u2 a2 q2 mx2 mi2 yo2 w h1 h2 L1 L2 e1 e2 hL ⟨d0, d1, fun e => d2 (by omega)⟩
          · exact apart_diff1 k1 u1 a1 q1 mx1 mi1 yo1 k2 u2 a2 q2 mx2 mi2 yo2 w h1 h2 L1 L2 e1 e2 hL ⟨d0, d1⟩
        · exact apart_diff0 k1 u1 a1 q1 mx1 mi1 yo1 k2 u2 a2 q2 mx2 mi2 yo2 w h1 h2 L1 L2 e1 e2 hL d0
    · exact apart_err _ _ _ _ _ _ _ _ _ _ _ _ _ _ w h1 h2 L1 L2 0 30 e1 e2 (.inr ⟨rfl, rfl⟩)
  · rcases writeM_cases n with ⟨L2, e2, _⟩ | ⟨L2, e2⟩
    · exact apart_err _ _ _ _ _ _ _ _ _ _ _ _ _ _ w h1 h2 L1 L2 30 0 e1 e2 (.inl ⟨rfl, .inl rfl⟩)
    · exact apart_err _ _ _ _ _ _ _ _ _ _ _ _ _ _ w h1 h2 L1 L2 30 30 e1 e2 (.inl ⟨rfl, .inr rfl⟩)
end Go.Proofs.Yteniponkakaaaaa
