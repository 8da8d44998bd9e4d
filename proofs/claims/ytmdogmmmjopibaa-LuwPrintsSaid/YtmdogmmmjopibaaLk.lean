/- The law on the bytes of names. -/
import Derived.Test.YtmdogmmmjopibaaLj
namespace Go.Proofs.Ytmdogmmmjopibaa
open Go.RowKit
set_option linter.unusedVariables false
set_option linter.unusedSimpArgs false

def VWr (u : Int) (a q : Nat) (ok : Bool) (A1 : Option Addr) (c1 : Nat) (A2 : Option Addr) (c2 : Nat) (L : List UInt8) (e1 n1 : Int) (n2 n3 : Nat) (e2 : Int) (i : Nat) (v : Value) (w : World) : Prop :=
  match i with
  | 0 => v = .bool true
  | 1 => v = .bool true
  | 2 => v = .agg #[.int .i64 u, .int .u32 a, .int .u32 q]
  | 3 => v = .bool ok
  | 4 => v = .agg #[.int .i64 u, .int .u32 a, .int .u32 q]
  | 5 => v = .bool ok
  | 6 => v = .bool true
  | 7 => v = .bool true
  | 8 => v = .bool true
  | 9 => v = .slice A1 L.length c1
  | 10 => v = .string ⟨L.toArray⟩
  | 11 => v = .slice A2 L.length c2
  | 12 => v = .string ⟨L.toArray⟩
  | 13 => v = .bool true
  | 14 => v = .bool true
  | 15 => v = .bool true
  | 16 => v = .int .i64 e1
  | 17 => v = .int .i64 e1
  | 18 => v = .bool true
  | 19 => v = .bool true
  | 20 => v = .bool true
  | 21 => v = .agg #[.int .i64 n1, .int .u32 n2, .int .u32 n3]
  | 22 => v = .agg #[.int .i64 n1, .int .u32 n2, .int .u32 n3]
  | 23 => v = .bool true
  | 24 => v = .bool true
  | 25 => v = .bool true
  | 26 => v = .int .i64 e2
  | 27 => v = .int .i64 e2
  | 28 => v = .bool true
  | 29 => v = .bool true
  | 30 => v = .bool true
  | _ => True
theorem VWr.mono {u : Int} {a q : Nat} {ok : Bool} {A1 : Option Addr} {c1 : Nat} {A2 : Option Addr} {c2 : Nat} {L : List UInt8} {e1 n1 : Int} {n2 n3 : Nat} {e2 : Int} {i : Nat} {v : Value} {w w' : World} (hv : VWr u a q ok A1 c1 A2 c2 L e1 n1 n2 n3 e2 i v w) : VWr u a q ok A1 c1 A2 c2 L e1 n1 n2 n3 e2 i v w' := by
  unfold VWr at hv ⊢; split at hv <;> exact hv

set_option maxHeartbeats 2000000 in
theorem luwWrites_walk (o1 : LuwV) (A : Option Addr) (l : List UInt8) (c : Nat) (w : World) (h1 : LuwOk o1) (hs : Bs w w.heap.size A l) (hlc : l.length ≤ c) (hcm : c ≤ 9223372036854775807) :
    Calls Try.prog 3 #[o1.val, .slice A l.length c] w fun e w' => e = .returned (.bool true) ∧ Below w.heap.size w w' := by
  obtain ⟨u, a, q⟩ := o1
  obtain ⟨_, _, ha, hq⟩ := h1
  unfold LuwV.val
  simp only at ha hq
  have hw1 := fun w => write_any u a q w ha hq
  have hw2 := fun w => refwrite_any u a q w ha hq
  have hr1 := fun w => right_any u a q w
  have hr2 := fun w => refright_any u a q w
  have hd1 := fun w hs => read_any A l c w hlc hcm hs
  have hd2 := fun w hs => refread_any A l c w hlc hcm hs
  generalize wrL u a q = R at *
  obtain ⟨L, e1⟩ := R
  generalize rdL l = R at *
  obtain ⟨⟨n1, n2, n3⟩, e2⟩ := R
  generalize okL u q = ok at *
  unfold lv at hw1 hw2 hr1 hr2
  unfold OutB at hw1 hw2
  simp only [lvE, lv] at hd1 hd2
  have kb1 := Blk.new w 24 #[.int .i64 u, .int .u32 a, .int .u32 q]
  have Hs := Lib.hid hs
  have Hd1 := Lib.hid hd1
  have Hd2 := Lib.hid hd2
  clear hs hd1 hd2
  go_enter Try.func3, Try.ntmps3
  go_wp2_with fail
  refine (hw1 _).mono ?_
  rintro e w1 ⟨A1, c1, rfl, own1, hb1⟩
  have k1 := kb1.below hb1 kb1.lt
  have c0 := (k1).cell 0
  have c1_ := (k1).cell 1
  have c2_ := (k1).cell 2
  simp only [List.getElem?_toArray, List.getElem?_cons_zero, List.getElem?_cons_succ] at c0 c1_ c2_
  go_wp2_with fail
  refine (hw2 _).mono ?_
  rintro e w2 ⟨A2, c2, rfl, own2, hb2⟩
  have k2 := k1.below hb2 k1.lt
  have own1 := own1.below hb2 (Nat.le_refl _)
  have hbw := bt (ba w _) (bt hb1 hb2)
  clear c0 c1_ c2_ k1 kb1 hb1 hb2
  go_wp2_with fail
  refine (Hd1.out _ (Hs.out.bt hbw)).mono ?_
  rintro e w3 ⟨rfl, hb3⟩
  have k3 := (k2.below hb3 k2.lt).alloc (.cells #[.int .i64 n1, .int .u32 n2, .int .u32 n3] 24)
  have own1 := (own1.below hb3 (Nat.le_refl _)).alloc (.cells #[.int .i64 n1, .int .u32 n2, .int .u32 n3] 24)
  have own2 := (own2.below hb3 (Nat.le_refl _)).alloc (.cells #[.int .i64 n1, .int .u32 n2, .int .u32 n3] 24)
  have x1 := Blk.new w3 24 #[.int .i64 n1, .int .u32 n2, .int .u32 n3]
  have hbw := bt hbw (bt hb3 (ba w3 (.cells #[.int .i64 n1, .int .u32 n2, .int .u32 n3] 24)))
  clear k2 hb3
  go_wp2_with fail
  refine (Hd2.out _ (Hs.out.bt hbw)).mono ?_
  rintro e w4 ⟨rfl, hb4⟩
  have k4 := (k3.below hb4 k3.lt).alloc (.cells #[.int .i64 n1, .int .u32 n2, .int .u32 n3] 24)
  have own1 := ((own1.below hb4 (Nat.le_refl _)).alloc (.cells #[.int .i64 n1, .int .u32 n2, .int .u32 n3] 24)).bs
  have own2 := ((own2.below hb4 (Nat.le_refl _)).alloc (.cells #[.int .i64 n1, .int .u32 n2, .int .u32 n3] 24)).bs
  have x2 := (x1.below hb4 x1.lt).alloc (.cells #[.int .i64 n1, .int .u32 n2, .int .u32 n3] 24)
  have x3 := Blk.new w4 24 #[.int .i64 n1, .int .u32 n2, .int .u32 n3]
  have hbw := bt hbw (bt hb4 (ba w4 (.cells #[.int .i64 n1, .int .u32 n2, .int .u32 n3] 24)))
  clear k3 x1 hb4
  generalize w3.heap.size = p3 at *
  go_wp2_with fail
  generalize w4.alloc (.cells #[.int .i64 n1, .int .u32 n2, .int .u32 n3] 24) = w5 at *
  generalize w4.heap.size = p4 at *
  refine wp_region_invT (F := ?FW) (V := VWr u a q ok A1 c1 A2 c2 L e1 n1 n2 n3 e2) (dead := fun _ => none) (T := fun _ _ => True) (C := fun u' => Below w5.heap.size w5 u') (E := fun _ _ _ => True) (by kernel_rfl) (by kernel_rfl) (by kernel_rfl) (fun x => ?hFW) ?hmonoW ?hTmW ?hTW ?hCW ?stepW ?finW
  case hFW => simp only [mkA, Act.put, List.setIfInBounds_toArray, List.set_cons_succ, List.set_cons_zero, Nat.reduceAdd, Nat.zero_add]; first | with_reducible rfl | rfl
  case hmonoW => exact fun k i v u u' he hik hwt hdd hv => VWr.mono hv
  case hTmW => exact fun _ _ _ _ _ _ _ _ => trivial
  case hTW => exact fun j => trivial
  case hCW => exact below_drew _
  case stepW =>
    refine AllOps.cons (fun x u hC hT hp K hK => ?_) ?_
    · clear hp hT
      go_simp
      refine (alive_any _).mono ?_
      rintro e wA ⟨rfl, hbA⟩
      refine hK _ _ _ (bt hC hbA) trivial (by exact rfl) ?_
      first | (simp only [Act.put, List.setIfInBounds_toArray, List.set_cons_succ, List.set_cons_zero]; done) | simp [Act.put]
    refine AllOps.cons (fun x u hC hT hp K hK => ?_) ?_
    · simp [KnownTill, Region.binds, VWr] at hp
      clear hT
      go_simp
      refine hK _ _ _ hC trivial (by exact rfl) ?_
      first | (simp only [Act.put, List.setIfInBounds_toArray, List.set_cons_succ, List.set_cons_zero, hp]; done) | simp [Act.put, hp]
    refine AllOps.cons (fun x u hC hT hp K hK => ?_) ?_
    · simp [KnownTill, Region.binds, VWr] at hp
      clear hT
      have c0 := ((k4.below hC k4.lt)).cell 0
      have c1 := ((k4.below hC k4.lt)).cell 1
      have c2 := ((k4.below hC k4.lt)).cell 2
      simp only [List.getElem?_toArray, List.getElem?_cons_zero, List.getElem?_cons_succ] at c0 c1 c2
      go_simp
      refine hK _ _ _ hC trivial (by exact rfl) ?_
      first | (simp only [Act.put, List.setIfInBounds_toArray, List.set_cons_succ, List.set_cons_zero, hp]; done) | simp [Act.put, hp]
    refine AllOps.cons (fun x u hC hT hp K hK => ?_) ?_
    · simp [KnownTill, Region.binds, VWr] at hp
      clear hT
      go_simp
      refine (hr1 _).mono ?_
      rintro e wA ⟨rfl, hbA⟩
      refine hK _ _ _ (bt hC hbA) trivial (by exact rfl) ?_
      first | (simp only [Act.put, List.setIfInBounds_toArray, List.set_cons_succ, List.set_cons_zero, hp]; done) | simp [Act.put, hp]
    refine AllOps.cons (fun x u hC hT hp K hK => ?_) ?_
    · simp [KnownTill, Region.binds, VWr] at hp
      clear hT
      have c0 := ((k4.below hC k4.lt)).cell 0
      have c1 := ((k4.below hC k4.lt)).cell 1
      have c2 := ((k4.below hC k4.lt)).cell 2
      simp only [List.getElem?_toArray, List.getElem?_cons_zero, List.getElem?_cons_succ] at c0 c1 c2
      go_simp
      refine hK _ _ _ hC trivial (by exact rfl) ?_
      first | (simp only [Act.put, List.setIfInBounds_toArray, List.set_cons_succ, List.set_cons_zero, hp]; done) | simp [Act.put, hp]
    refine AllOps.cons (fun x u hC hT hp K hK => ?_) ?_
    · simp [KnownTill, Region.binds, VWr] at hp
      clear hT
      go_simp
      refine (hr2 _).mono ?_
      rintro e wA ⟨rfl, hbA⟩
      refine hK _ _ _ (bt hC hbA) trivial (by exact rfl) ?_
      first | (simp only [Act.put, List.setIfInBounds_toArray, List.set_cons_succ, List.set_cons_zero, hp]; done) | simp [Act.put, hp]
    refine AllOps.cons (fun x u hC hT hp K hK => ?_) ?_
    · simp [KnownTill, Region.binds, VWr] at hp
      clear hT
      go_simp
      refine hK _ _ _ hC trivial (by exact rfl) ?_
      first | (simp only [Act.put, List.setIfInBounds_toArray, List.set_cons_succ, List.set_cons_zero, hp]; done) | simp [Act.put, hp]
    refine AllOps.cons (fun x u hC hT hp K hK => ?_) ?_
    · simp [KnownTill, Region.binds, VWr] at hp
      clear hT
      go_simp
      refine hK _ _ _ hC trivial (by exact rfl) ?_
      first | (simp only [Act.put, List.setIfInBounds_toArray, List.set_cons_succ, List.set_cons_zero, hp]; done) | simp [Act.put, hp]
    refine AllOps.cons (fun x u hC hT hp K hK => ?_) ?_
    · simp [KnownTill, Region.binds, VWr] at hp
      clear hT
      go_simp
      refine hK _ _ _ hC trivial (by exact rfl) ?_
      first | (simp only [Act.put, List.setIfInBounds_toArray, List.set_cons_succ, List.set_cons_zero, hp]; done) | simp [Act.put, hp]
    refine AllOps.cons (fun x u hC hT hp K hK => ?_) ?_
    · simp [KnownTill, Region.binds, VWr] at hp
      clear hT
      go_simp
      refine hK _ _ _ hC trivial (by exact rfl) ?_
      first | (simp only [Act.put, List.setIfInBounds_toArray, List.set_cons_succ, List.set_cons_zero, hp]; done) | simp [Act.put, hp]
    refine AllOps.cons (fun x u hC hT hp K hK => ?_) ?_
    · simp [KnownTill, Region.binds, VWr] at hp
      clear hT
      have cv : (convert 25 9 (.slice A1 L.length c1)).run Try.prog u = .ok (.string ⟨L.toArray⟩) u := conv_bytes Try.underlying25 Try.underlying5 Try.underlying9 (own1.bt hC) _
      go_simp
      refine hK _ _ _ hC trivial (by exact rfl) ?_
      first | (simp only [Act.put, List.setIfInBounds_toArray, List.set_cons_succ, List.set_cons_zero, hp]; done) | simp [Act.put, hp]
    refine AllOps.cons (fun x u hC hT hp K hK => ?_) ?_
    · simp [KnownTill, Region.binds, VWr] at hp
      clear hT
      go_simp
      refine hK _ _ _ hC trivial (by exact rfl) ?_
      first | (simp only [Act.put, List.setIfInBounds_toArray, List.set_cons_succ, List.set_cons_zero, hp]; done) | simp [Act.put, hp]
    refine AllOps.cons (fun x u hC hT hp K hK => ?_) ?_
    · simp [KnownTill, Region.binds, VWr] at hp
      clear hT
      have cv : (convert 25 9 (.slice A2 L.length c2)).run Try.prog u = .ok (.string ⟨L.toArray⟩) u := conv_bytes Try.underlying25 Try.underlying5 Try.underlying9 (own2.bt hC) _
      go_simp
      refine hK _ _ _ hC trivial (by exact rfl) ?_
      first | (simp only [Act.put, List.setIfInBounds_toArray, List.set_cons_succ, List.set_cons_zero, hp]; done) | simp [Act.put, hp]
    refine AllOps.cons (fun x u hC hT hp K hK => ?_) ?_
    · simp [KnownTill, Region.binds, VWr] at hp
      clear hT
      go_simp
      refine hK _ _ _ hC trivial (by exact rfl) ?_
      first | (simp only [Act.put, List.setIfInBounds_toArray, List.set_cons_succ, List.set_cons_zero, hp]; done) | simp [Act.put, hp]
    refine AllOps.cons (fun x u hC hT hp K hK => ?_) ?_
    · simp [KnownTill, Region.binds, VWr] at hp
      clear hT
      go_simp
      refine hK _ _ _ hC trivial (by exact rfl) ?_
      first | (simp only [Act.put, List.setIfInBounds_toArray, List.set_cons_succ, List.set_cons_zero, hp]; done) | simp [Act.put, hp]
    refine AllOps.cons (fun x u hC hT hp K hK => ?_) ?_
    · simp [KnownTill, Region.binds, VWr] at hp
      clear hT
      go_simp
      refine hK _ _ _ hC trivial (by exact rfl) ?_
      first | (simp only [Act.put, List.setIfInBounds_toArray, List.set_cons_succ, List.set_cons_zero, hp]; done) | simp [Act.put, hp]
    refine AllOps.cons (fun x u hC hT hp K hK => ?_) ?_
    · simp [KnownTill, Region.binds, VWr] at hp
      clear hT
      go_simp
      refine hK _ _ _ hC trivial (by exact rfl) ?_
      first | (simp only [Act.put, List.setIfInBounds_toArray, List.set_cons_succ, List.set_cons_zero, hp]; done) | simp [Act.put, hp]
    refine AllOps.cons (fun x u hC hT hp K hK => ?_) ?_
    · simp [KnownTill, Region.binds, VWr] at hp
      clear hT
      go_simp
      refine hK _ _ _ hC trivial (by exact rfl) ?_
      first | (simp only [Act.put, List.setIfInBounds_toArray, List.set_cons_succ, List.set_cons_zero, hp]; done) | simp [Act.put, hp]
    refine AllOps.cons (fun x u hC hT hp K hK => ?_) ?_
    · simp [KnownTill, Region.binds, VWr] at hp
      clear hT
      go_simp
      refine hK _ _ _ hC trivial (by exact rfl) ?_
      first | (simp only [Act.put, List.setIfInBounds_toArray, List.set_cons_succ, List.set_cons_zero, hp]; done) | simp [Act.put, hp]
    refine AllOps.cons (fun x u hC hT hp K hK => ?_) ?_
    · simp [KnownTill, Region.binds, VWr] at hp
      clear hT
      go_simp
      refine hK _ _ _ hC trivial (by exact rfl) ?_
      first | (simp only [Act.put, List.setIfInBounds_toArray, List.set_cons_succ, List.set_cons_zero, hp]; done) | simp [Act.put, hp]
    refine AllOps.cons (fun x u hC hT hp K hK => ?_) ?_
    · simp [KnownTill, Region.binds, VWr] at hp
      clear hT
      go_simp
      refine hK _ _ _ hC trivial (by exact rfl) ?_
      first | (simp only [Act.put, List.setIfInBounds_toArray, List.set_cons_succ, List.set_cons_zero, hp]; done) | simp [Act.put, hp]
    refine AllOps.cons (fun x u hC hT hp K hK => ?_) ?_
    · simp [KnownTill, Region.binds, VWr] at hp
      clear hT
      have c0 := ((x2.below hC x2.lt)).cell 0
      have c1 := ((x2.below hC x2.lt)).cell 1
      have c2 := ((x2.below hC x2.lt)).cell 2
      simp only [List.getElem?_toArray, List.getElem?_cons_zero, List.getElem?_cons_succ] at c0 c1 c2
      go_simp
      refine hK _ _ _ hC trivial (by exact rfl) ?_
      first | (simp only [Act.put, List.setIfInBounds_toArray, List.set_cons_succ, List.set_cons_zero, hp]; done) | simp [Act.put, hp]
    refine AllOps.cons (fun x u hC hT hp K hK => ?_) ?_
    · simp [KnownTill, Region.binds, VWr] at hp
      clear hT
      have c0 := ((x3.below hC x3.lt)).cell 0
      have c1 := ((x3.below hC x3.lt)).cell 1
      have c2 := ((x3.below hC x3.lt)).cell 2
      simp only [List.getElem?_toArray, List.getElem?_cons_zero, List.getElem?_cons_succ] at c0 c1 c2
      go_simp
      refine hK _ _ _ hC trivial (by exact rfl) ?_
      first | (simp only [Act.put, List.setIfInBounds_toArray, List.set_cons_succ, List.set_cons_zero, hp]; done) | simp [Act.put, hp]
    refine AllOps.cons (fun x u hC hT hp K hK => ?_) ?_
    · simp [KnownTill, Region.binds, VWr] at hp
      clear hT
      go_simp
      refine hK _ _ _ hC trivial (by exact rfl) ?_
      first | (simp only [Act.put, List.setIfInBounds_toArray, List.set_cons_succ, List.set_cons_zero, hp]; done) | simp [Act.put, hp]
    refine AllOps.cons (fun x u hC hT hp K hK => ?_) ?_
    · simp [KnownTill, Region.binds, VWr] at hp
      clear hT
      go_simp
      refine hK _ _ _ hC trivial (by exact rfl) ?_
      first | (simp only [Act.put, List.setIfInBounds_toArray, List.set_cons_succ, List.set_cons_zero, hp]; done) | simp [Act.put, hp]
    refine AllOps.cons (fun x u hC hT hp K hK => ?_) ?_
    · simp [KnownTill, Region.binds, VWr] at hp
      clear hT
      go_simp
      refine hK _ _ _ hC trivial (by exact rfl) ?_
      first | (simp only [Act.put, List.setIfInBounds_toArray, List.set_cons_succ, List.set_cons_zero, hp]; done) | simp [Act.put, hp]
    refine AllOps.cons (fun x u hC hT hp K hK => ?_) ?_
    · simp [KnownTill, Region.binds, VWr] at hp
      clear hT
      go_simp
      refine hK _ _ _ hC trivial (by exact rfl) ?_
      first | (simp only [Act.put, List.setIfInBounds_toArray, List.set_cons_succ, List.set_cons_zero, hp]; done) | simp [Act.put, hp]
    refine AllOps.cons (fun x u hC hT hp K hK => ?_) ?_
    · simp [KnownTill, Region.binds, VWr] at hp
      clear hT
      go_simp
      refine hK _ _ _ hC trivial (by exact rfl) ?_
      first | (simp only [Act.put, List.setIfInBounds_toArray, List.set_cons_succ, List.set_cons_zero, hp]; done) | simp [Act.put, hp]
    refine AllOps.cons (fun x u hC hT hp K hK => ?_) ?_
    · simp [KnownTill, Region.binds, VWr] at hp
      clear hT
      go_simp
      refine hK _ _ _ hC trivial (by exact rfl) ?_
      first | (simp only [Act.put, List.setIfInBounds_toArray, List.set_cons_succ, List.set_cons_zero, hp]; done) | simp [Act.put, hp]
    refine AllOps.cons (fun x u hC hT hp K hK => ?_) ?_
    · simp [KnownTill, Region.binds, VWr] at hp
      clear hT
      go_simp
      refine hK _ _ _ hC trivial (by exact rfl) ?_
      first | (simp only [Act.put, List.setIfInBounds_toArray, List.set_cons_succ, List.set_cons_zero, hp]; done) | simp [Act.put, hp]
    refine AllOps.cons (fun x u hC hT hp K hK => ?_) ?_
    · simp [KnownTill, Region.binds, VWr] at hp
      clear hT
      go_simp
      refine hK _ _ _ hC trivial (by exact rfl) ?_
      first | (simp only [Act.put, List.setIfInBounds_toArray, List.set_cons_succ, List.set_cons_zero, hp]; done) | simp [Act.put, hp]
    exact AllOps.nil
  case finW =>
    intro x u hC hV
    have hz : x 30 = .bool true := hV 30 (by decide) rfl
    rw [hz]
    have hbe := bt hbw hC
    clear hV hz hC
    go_wp2
    go_ret
    exact ⟨rfl, hbe⟩
end Go.Proofs.Ytmdogmmmjopibaa
