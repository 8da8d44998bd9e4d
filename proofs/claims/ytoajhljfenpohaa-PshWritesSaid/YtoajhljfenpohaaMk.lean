/- The law on the bytes of messages and the names of kinds. -/
import Derived.Test.YtoajhljfenpohaaMj
import Derived.Test.YtoajhljfenpohaaOpenM
namespace Go.Proofs.Ytoajhljfenpohaa
open Go.RowKit
set_option linter.unusedVariables false
set_option linter.unusedSimpArgs false

def VPw (mc : Array Value) (ok : Bool) (A1 A2 : Option Addr) (c1 c2 : Nat) (L : List UInt8) (e1 kk : Int) (nb : ByteArray) (i : Nat) (v : Value) (w : World) : Prop :=
  match i with
  | 0 => v = .bool true
  | 1 => v = .bool true
  | 2 => v = .agg mc
  | 3 => v = .bool ok
  | 4 => v = .agg mc
  | 5 => v = .bool ok
  | 6 => v = .bool true
  | 7 => v = .bool true
  | 8 => v = .bool true
  | 9 => v = .slice A1 L.length c1
  | 10 => v = .string ⟨L.toArray⟩
  | 11 => v = .slice A2 L.length c2
  | 12 => v = .string ⟨L.toArray⟩
  | 13 => v = .bool true
  | 14 => v = .bool true
  | 15 => v = .bool true
  | 16 => v = .int .i64 e1
  | 17 => v = .int .i64 e1
  | 18 => v = .bool true
  | 19 => v = .bool true
  | 20 => v = .bool true
  | 21 => v = .int .i64 kk
  | 22 => v = .string nb
  | 23 => v = .int .i64 kk
  | 24 => v = .string nb
  | 25 => v = .bool true
  | 26 => v = .bool true
  | 27 => v = .bool true
  | _ => True
theorem VPw.mono {mc : Array Value} {ok : Bool} {A1 A2 : Option Addr} {c1 c2 : Nat} {L : List UInt8} {e1 kk : Int} {nb : ByteArray} {i : Nat} {v : Value} {w w' : World} (hv : VPw mc ok A1 A2 c1 c2 L e1 kk nb i v w) : VPw mc ok A1 A2 c1 c2 L e1 kk nb i v w' := by
  unfold VPw at hv ⊢; split at hv <;> exact hv

set_option maxHeartbeats 2000000 in
theorem pshWrites_walk (m : MsgV) (kk : Int) (w : World) (hm : MsgOk m) (b1 : -9223372036854775808 ≤ kk) (b2 : kk ≤ 9223372036854775807) : Calls Try.prog 3 #[m.val, .int .i64 kk] w fun e w' => e = .returned (.bool true) ∧ Below w.heap.size w w' := by
  have hw1 := fun w => writeM_any m w hm
  have hw2 := fun w => refwriteM_any m w hm
  have hr1 := fun w => rightM_any m w
  have hr2 := fun w => refrightM_any m w
  have hn1 := fun w => name_any kk w b1 b2
  have hn2 := fun w => refname_any kk w b1 b2
  generalize writeM m = R at *
  obtain ⟨L, e1⟩ := R
  generalize okM m = ok at *
  generalize nameB kk = nb at *
  obtain ⟨k, uu, a, q, mx, mi, yo⟩ := m
  unfold MsgV.val MsgV.cs at *
  simp only at *
  unfold OutB at hw1 hw2
  have kb1 := Blk.new w 26 #[.int .i64 k, .int .i64 uu, .int .u32 a, .int .u32 q, .bool mx, .int .u32 mi, .int .u32 yo]
  have hbw := ba w (.cells #[.int .i64 k, .int .i64 uu, .int .u32 a, .int .u32 q, .bool mx, .int .u32 mi, .int .u32 yo] 26)
  go_enter Try.func3, Try.ntmps3
  go_wp2_with fail
  refine (hw1 _).mono ?_
  rintro e w1 ⟨A1, c1, rfl, own1, hb1⟩
  have g1 := kb1.below hb1 kb1.lt
  have hbw := bt hbw hb1
  clear kb1 hb1
  have d0 := (g1).cell 0
  have d1 := (g1).cell 1
  have d2 := (g1).cell 2
  have d3 := (g1).cell 3
  have d4 := (g1).cell 4
  have d5 := (g1).cell 5
  have d6 := (g1).cell 6
  simp only [List.getElem?_toArray, List.getElem?_cons_zero, List.getElem?_cons_succ] at d0 d1 d2 d3 d4 d5 d6
  go_wp2_with fail
  refine (hw2 _).mono ?_
  rintro e w2 ⟨A2, c2, rfl, own2, hb2⟩
  have g3 := g1.below hb2 g1.lt
  have own1 := own1.below hb2 (Nat.le_refl _)
  have hbw := bt hbw hb2
  clear g1 hb2 d0 d1 d2 d3 d4 d5 d6 hw1 hw2
  go_wp2_with fail
  refine wp_region_invT (F := ?FW) (V := VPw #[.int .i64 k, .int .i64 uu, .int .u32 a, .int .u32 q, .bool mx, .int .u32 mi, .int .u32 yo] ok A1 A2 c1 c2 L e1 kk nb) (dead := fun _ => none) (T := fun _ _ => True) (C := fun u' => Below w2.heap.size w2 u') (E := fun _ _ _ => True) (by kernel_rfl) (by kernel_rfl) (by kernel_rfl) (fun x => ?hFW) ?hmonoW ?hTmW ?hTW ?hCW ?stepW ?finW
  case hFW => simp only [mkA, Act.put, List.setIfInBounds_toArray, List.set_cons_succ, List.set_cons_zero, Nat.reduceAdd, Nat.zero_add]; first | with_reducible rfl | rfl
  case hmonoW => exact fun k i v u u' he hik hwt hdd hv => VPw.mono hv
  case hTmW => exact fun _ _ _ _ _ _ _ _ => trivial
  case hTW => exact fun j => trivial
  case hCW => exact below_drew _
  case stepW =>
    refine AllOps.cons (fun x u hC hT hp K hK => ?_) ?_
    · clear hp hT
      go_simp
      refine (alive_any _).mono ?_
      rintro e wA ⟨rfl, hbA⟩
      refine hK _ _ _ (bt hC hbA) trivial (by exact rfl) ?_
      first | (simp only [Act.put, List.setIfInBounds_toArray, List.set_cons_succ, List.set_cons_zero]; done) | simp [Act.put]
    refine AllOps.cons (fun x u hC hT hp K hK => ?_) ?_
    · simp [KnownTill, Region.binds, VPw] at hp
      clear hT
      go_simp
      refine hK _ _ _ hC trivial (by exact rfl) ?_
      first | (simp only [Act.put, List.setIfInBounds_toArray, List.set_cons_succ, List.set_cons_zero, hp]; done) | simp [Act.put, hp]
    refine AllOps.cons (fun x u hC hT hp K hK => ?_) ?_
    · simp [KnownTill, Region.binds, VPw] at hp
      clear hT
      have d0 := ((g3.below hC g3.lt)).cell 0
      have d1 := ((g3.below hC g3.lt)).cell 1
      have d2 := ((g3.below hC g3.lt)).cell 2
      have d3 := ((g3.below hC g3.lt)).cell 3
      have d4 := ((g3.below hC g3.lt)).cell 4
      have d5 := ((g3.below hC g3.lt)).cell 5
      have d6 := ((g3.below hC g3.lt)).cell 6
      simp only [List.getElem?_toArray, List.getElem?_cons_zero, List.getElem?_cons_succ] at d0 d1 d2 d3 d4 d5 d6
      go_simp
      refine hK _ _ _ hC trivial (by exact rfl) ?_
      first | (simp only [Act.put, List.setIfInBounds_toArray, List.set_cons_succ, List.set_cons_zero, hp]; done) | simp [Act.put, hp]
    refine AllOps.cons (fun x u hC hT hp K hK => ?_) ?_
    · simp [KnownTill, Region.binds, VPw] at hp
      clear hT
      go_simp
      refine (hr1 _).mono ?_
      rintro e wA ⟨rfl, hbA⟩
      refine hK _ _ _ (bt hC hbA) trivial (by exact rfl) ?_
      first | (simp only [Act.put, List.setIfInBounds_toArray, List.set_cons_succ, List.set_cons_zero, hp]; done) | simp [Act.put, hp]
    refine AllOps.cons (fun x u hC hT hp K hK => ?_) ?_
    · simp [KnownTill, Region.binds, VPw] at hp
      clear hT
      have d0 := ((g3.below hC g3.lt)).cell 0
      have d1 := ((g3.below hC g3.lt)).cell 1
      have d2 := ((g3.below hC g3.lt)).cell 2
      have d3 := ((g3.below hC g3.lt)).cell 3
      have d4 := ((g3.below hC g3.lt)).cell 4
      have d5 := ((g3.below hC g3.lt)).cell 5
      have d6 := ((g3.below hC g3.lt)).cell 6
      simp only [List.getElem?_toArray, List.getElem?_cons_zero, List.getElem?_cons_succ] at d0 d1 d2 d3 d4 d5 d6
      go_simp
      refine hK _ _ _ hC trivial (by exact rfl) ?_
      first | (simp only [Act.put, List.setIfInBounds_toArray, List.set_cons_succ, List.set_cons_zero, hp]; done) | simp [Act.put, hp]
    refine AllOps.cons (fun x u hC hT hp K hK => ?_) ?_
    · simp [KnownTill, Region.binds, VPw] at hp
      clear hT
      go_simp
      refine (hr2 _).mono ?_
      rintro e wA ⟨rfl, hbA⟩
      refine hK _ _ _ (bt hC hbA) trivial (by exact rfl) ?_
      first | (simp only [Act.put, List.setIfInBounds_toArray, List.set_cons_succ, List.set_cons_zero, hp]; done) | simp [Act.put, hp]
    refine AllOps.cons (fun x u hC hT hp K hK => ?_) ?_
    · simp [KnownTill, Region.binds, VPw] at hp
      clear hT
      go_simp
      refine hK _ _ _ hC trivial (by exact rfl) ?_
      first | (simp only [Act.put, List.setIfInBounds_toArray, List.set_cons_succ, List.set_cons_zero, hp]; done) | simp [Act.put, hp]
    refine AllOps.cons (fun x u hC hT hp K hK => ?_) ?_
    · simp [KnownTill, Region.binds, VPw] at hp
      clear hT
      go_simp
      refine hK _ _ _ hC trivial (by exact rfl) ?_
      first | (simp only [Act.put, List.setIfInBounds_toArray, List.set_cons_succ, List.set_cons_zero, hp]; done) | simp [Act.put, hp]
    refine AllOps.cons (fun x u hC hT hp K hK => ?_) ?_
    · simp [KnownTill, Region.binds, VPw] at hp
      clear hT
      go_simp
      refine hK _ _ _ hC trivial (by exact rfl) ?_
      first | (simp only [Act.put, List.setIfInBounds_toArray, List.set_cons_succ, List.set_cons_zero, hp]; done) | simp [Act.put, hp]
    refine AllOps.cons (fun x u hC hT hp K hK => ?_) ?_
    · simp [KnownTill, Region.binds, VPw] at hp
      clear hT
      go_simp
      refine hK _ _ _ hC trivial (by exact rfl) ?_
      first | (simp only [Act.put, List.setIfInBounds_toArray, List.set_cons_succ, List.set_cons_zero, hp]; done) | simp [Act.put, hp]
    refine AllOps.cons (fun x u hC hT hp K hK => ?_) ?_
    · simp [KnownTill, Region.binds, VPw] at hp
      clear hT
      have cv : (convert 27 9 (.slice A1 L.length c1)).run Try.prog u = .ok (.string ⟨L.toArray⟩) u := conv_bytes Try.underlying27 Try.underlying5 Try.underlying9 (own1.below hC (Nat.le_refl _)).bs _
      go_simp
      refine hK _ _ _ hC trivial (by exact rfl) ?_
      first | (simp only [Act.put, List.setIfInBounds_toArray, List.set_cons_succ, List.set_cons_zero, hp]; done) | simp [Act.put, hp]
    refine AllOps.cons (fun x u hC hT hp K hK => ?_) ?_
    · simp [KnownTill, Region.binds, VPw] at hp
      clear hT
      go_simp
      refine hK _ _ _ hC trivial (by exact rfl) ?_
      first | (simp only [Act.put, List.setIfInBounds_toArray, List.set_cons_succ, List.set_cons_zero, hp]; done) | simp [Act.put, hp]
    refine AllOps.cons (fun x u hC hT hp K hK => ?_) ?_
    · simp [KnownTill, Region.binds, VPw] at hp
      clear hT
      have cv : (convert 27 9 (.slice A2 L.length c2)).run Try.prog u = .ok (.string ⟨L.toArray⟩) u := conv_bytes Try.underlying27 Try.underlying5 Try.underlying9 (own2.below hC (Nat.le_refl _)).bs _
      go_simp
      refine hK _ _ _ hC trivial (by exact rfl) ?_
      first | (simp only [Act.put, List.setIfInBounds_toArray, List.set_cons_succ, List.set_cons_zero, hp]; done) | simp [Act.put, hp]
    refine AllOps.cons (fun x u hC hT hp K hK => ?_) ?_
    · simp [KnownTill, Region.binds, VPw] at hp
      clear hT
      go_simp
      refine hK _ _ _ hC trivial (by exact rfl) ?_
      first | (simp only [Act.put, List.setIfInBounds_toArray, List.set_cons_succ, List.set_cons_zero, hp]; done) | simp [Act.put, hp]
    refine AllOps.cons (fun x u hC hT hp K hK => ?_) ?_
    · simp [KnownTill, Region.binds, VPw] at hp
      clear hT
      go_simp
      refine hK _ _ _ hC trivial (by exact rfl) ?_
      first | (simp only [Act.put, List.setIfInBounds_toArray, List.set_cons_succ, List.set_cons_zero, hp]; done) | simp [Act.put, hp]
    refine AllOps.cons (fun x u hC hT hp K hK => ?_) ?_
    · simp [KnownTill, Region.binds, VPw] at hp
      clear hT
      go_simp
      refine hK _ _ _ hC trivial (by exact rfl) ?_
      first | (simp only [Act.put, List.setIfInBounds_toArray, List.set_cons_succ, List.set_cons_zero, hp]; done) | simp [Act.put, hp]
    refine AllOps.cons (fun x u hC hT hp K hK => ?_) ?_
    · simp [KnownTill, Region.binds, VPw] at hp
      clear hT
      go_simp
      refine hK _ _ _ hC trivial (by exact rfl) ?_
      first | (simp only [Act.put, List.setIfInBounds_toArray, List.set_cons_succ, List.set_cons_zero, hp]; done) | simp [Act.put, hp]
    refine AllOps.cons (fun x u hC hT hp K hK => ?_) ?_
    · simp [KnownTill, Region.binds, VPw] at hp
      clear hT
      go_simp
      refine hK _ _ _ hC trivial (by exact rfl) ?_
      first | (simp only [Act.put, List.setIfInBounds_toArray, List.set_cons_succ, List.set_cons_zero, hp]; done) | simp [Act.put, hp]
    refine AllOps.cons (fun x u hC hT hp K hK => ?_) ?_
    · simp [KnownTill, Region.binds, VPw] at hp
      clear hT
      go_simp
      refine hK _ _ _ hC trivial (by exact rfl) ?_
      first | (simp only [Act.put, List.setIfInBounds_toArray, List.set_cons_succ, List.set_cons_zero, hp]; done) | simp [Act.put, hp]
    refine AllOps.cons (fun x u hC hT hp K hK => ?_) ?_
    · simp [KnownTill, Region.binds, VPw] at hp
      clear hT
      go_simp
      refine hK _ _ _ hC trivial (by exact rfl) ?_
      first | (simp only [Act.put, List.setIfInBounds_toArray, List.set_cons_succ, List.set_cons_zero, hp]; done) | simp [Act.put, hp]
    refine AllOps.cons (fun x u hC hT hp K hK => ?_) ?_
    · simp [KnownTill, Region.binds, VPw] at hp
      clear hT
      go_simp
      refine hK _ _ _ hC trivial (by exact rfl) ?_
      first | (simp only [Act.put, List.setIfInBounds_toArray, List.set_cons_succ, List.set_cons_zero, hp]; done) | simp [Act.put, hp]
    refine AllOps.cons (fun x u hC hT hp K hK => ?_) ?_
    · simp [KnownTill, Region.binds, VPw] at hp
      clear hT
      go_simp
      refine hK _ _ _ hC trivial (by exact rfl) ?_
      first | (simp only [Act.put, List.setIfInBounds_toArray, List.set_cons_succ, List.set_cons_zero, hp]; done) | simp [Act.put, hp]
    refine AllOps.cons (fun x u hC hT hp K hK => ?_) ?_
    · simp [KnownTill, Region.binds, VPw] at hp
      clear hT
      go_simp
      refine (hn1 _).mono ?_
      rintro e wA ⟨rfl, hbA⟩
      refine hK _ _ _ (bt hC hbA) trivial (by exact rfl) ?_
      first | (simp only [Act.put, List.setIfInBounds_toArray, List.set_cons_succ, List.set_cons_zero, hp]; done) | simp [Act.put, hp]
    refine AllOps.cons (fun x u hC hT hp K hK => ?_) ?_
    · simp [KnownTill, Region.binds, VPw] at hp
      clear hT
      go_simp
      refine hK _ _ _ hC trivial (by exact rfl) ?_
      first | (simp only [Act.put, List.setIfInBounds_toArray, List.set_cons_succ, List.set_cons_zero, hp]; done) | simp [Act.put, hp]
    refine AllOps.cons (fun x u hC hT hp K hK => ?_) ?_
    · simp [KnownTill, Region.binds, VPw] at hp
      clear hT
      go_simp
      refine (hn2 _).mono ?_
      rintro e wA ⟨rfl, hbA⟩
      refine hK _ _ _ (bt hC hbA) trivial (by exact rfl) ?_
      first | (simp only [Act.put, List.setIfInBounds_toArray, List.set_cons_succ, List.set_cons_zero, hp]; done) | simp [Act.put, hp]
    refine AllOps.cons (fun x u hC hT hp K hK => ?_) ?_
    · simp [KnownTill, Region.binds, VPw] at hp
      clear hT
      go_simp
      refine hK _ _ _ hC trivial (by exact rfl) ?_
      first | (simp only [Act.put, List.setIfInBounds_toArray, List.set_cons_succ, List.set_cons_zero, hp]; done) | simp [Act.put, hp]
    refine AllOps.cons (fun x u hC hT hp K hK => ?_) ?_
    · simp [KnownTill, Region.binds, VPw] at hp
      clear hT
      go_simp
      refine hK _ _ _ hC trivial (by exact rfl) ?_
      first | (simp only [Act.put, List.setIfInBounds_toArray, List.set_cons_succ, List.set_cons_zero, hp]; done) | simp [Act.put, hp]
    refine AllOps.cons (fun x u hC hT hp K hK => ?_) ?_
    · simp [KnownTill, Region.binds, VPw] at hp
      clear hT
      go_simp
      refine hK _ _ _ hC trivial (by exact rfl) ?_
      first | (simp only [Act.put, List.setIfInBounds_toArray, List.set_cons_succ, List.set_cons_zero, hp]; done) | simp [Act.put, hp]
    exact AllOps.nil
  case finW =>
    intro x u hC hV
    have hz : x 27 = .bool true := hV 27 (by decide) rfl
    rw [hz]
    have hbe := bt hbw hC
    clear hV hz hC g3
    go_wp2
    go_ret
    exact ⟨rfl, hbe⟩
end Go.Proofs.Ytoajhljfenpohaa
