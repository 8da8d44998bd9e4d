/- The law on the texts of names. -/
import Derived.Test.YtmdogmmmjopibaaLs
import Derived.Test.YtmdogmmmjopibaaOpenL
namespace Go.Proofs.Ytmdogmmmjopibaa
open Go.RowKit
set_option linter.unusedVariables false
set_option linter.unusedSimpArgs false

def VPl (u : Int) (a q : Nat) (P : ByteArray) (n1 : Int) (n2 n3 : Nat) (n4 : Int) (i : Nat) (v : Value) (w : World) : Prop :=
  match i with
  | 0 => v = .bool true
  | 1 => v = .bool true
  | 2 => v = .agg #[.int .i64 u, .int .u32 a, .int .u32 q]
  | 3 => v = .string P
  | 4 => v = .agg #[.int .i64 u, .int .u32 a, .int .u32 q]
  | 5 => v = .string P
  | 6 => v = .bool true
  | 7 => v = .bool true
  | 8 => v = .bool true
  | 9 => v = .agg #[.int .i64 n1, .int .u32 n2, .int .u32 n3]
  | 10 => v = .agg #[.int .i64 n1, .int .u32 n2, .int .u32 n3]
  | 11 => v = .bool true
  | 12 => v = .bool true
  | 13 => v = .bool true
  | 14 => v = .int .i64 n4
  | 15 => v = .int .i64 n4
  | 16 => v = .bool true
  | 17 => v = .bool true
  | 18 => v = .bool true
  | _ => True
theorem VPl.mono {u : Int} {a q : Nat} {P : ByteArray} {n1 : Int} {n2 n3 : Nat} {n4 : Int} {i : Nat} {v : Value} {w w' : World} (hv : VPl u a q P n1 n2 n3 n4 i v w) : VPl u a q P n1 n2 n3 n4 i v w' := by
  unfold VPl at hv ⊢; split at hv <;> exact hv

set_option maxHeartbeats 2000000 in
theorem luwPrints_walk (o1 : LuwV) (s : ByteArray) (w : World) (h1 : LuwOk o1) (hsz : s.size ≤ maxLen) :
    Calls Try.prog 4 #[o1.val, .string s] w fun e w' => e = .returned (.bool true) ∧ Below w.heap.size w w' := by
  obtain ⟨u, a, q⟩ := o1
  obtain ⟨_, _, ha, hq⟩ := h1
  unfold LuwV.val
  simp only at ha hq
  unfold maxLen at hsz
  by_cases hs100 : 100 < s.size
  · go_enter Try.func4, Try.ntmps4
    go_wp2_with fail
    refine (alive_any _).mono ?_
    rintro e wz ⟨rfl, hbz⟩
    go_wp2
    go_ret
    exact ⟨rfl, bt (ba _ _) hbz⟩
  have hp1 : ∀ w, Calls Try.prog 18 #[lv u a q] w fun e w' => e = .returned (.string (strB (printL u a q))) ∧ Below w.heap.size w w' := fun w => print_any u a q w ha hq
  have hp2 := fun w => refprint_any u a q w ha hq
  have hs1 := fun w => parse_any s w (by omega)
  have hs2 := fun w => refparse_any s w (by omega)
  unfold lv at hp1 hp2
  generalize strB (printL u a q) = P at *
  have kb1 := Blk.new w 24 #[.int .i64 u, .int .u32 a, .int .u32 q]
  have hbw := ba w (.cells #[.int .i64 u, .int .u32 a, .int .u32 q] 24)
  go_enter Try.func4, Try.ntmps4
  go_wp2_with fail
  refine (hs1 _).mono ?_
  rintro e w1 ⟨n1, n2, n3, n4, hpi, rfl, hb1⟩
  have k1 := (kb1.below hb1 kb1.lt).alloc (.cells #[.int .i64 n1, .int .u32 n2, .int .u32 n3] 24)
  have x1 := Blk.new w1 24 #[.int .i64 n1, .int .u32 n2, .int .u32 n3]
  have hbw := bt hbw (bt hb1 (ba w1 (.cells #[.int .i64 n1, .int .u32 n2, .int .u32 n3] 24)))
  clear kb1 hb1
  simp only [lvE, lv]
  go_wp2_with fail
  refine (hs2 _).mono ?_
  rintro e w2 ⟨m1, m2, m3, m4, hpi2, rfl, hb2⟩
  obtain ⟨rfl, rfl, rfl, rfl⟩ := hpi.same hpi2
  have k2 := (k1.below hb2 k1.lt).alloc (.cells #[.int .i64 n1, .int .u32 n2, .int .u32 n3] 24)
  have x2 := (x1.below hb2 x1.lt).alloc (.cells #[.int .i64 n1, .int .u32 n2, .int .u32 n3] 24)
  have x3 := Blk.new w2 24 #[.int .i64 n1, .int .u32 n2, .int .u32 n3]
  have hbw := bt hbw (bt hb2 (ba w2 (.cells #[.int .i64 n1, .int .u32 n2, .int .u32 n3] 24)))
  clear k1 x1 hb2 hpi hpi2 hs1 hs2
  generalize w1.heap.size = p1 at *
  simp only [lvE, lv]
  go_wp2_with fail
  generalize w2.alloc (.cells #[.int .i64 n1, .int .u32 n2, .int .u32 n3] 24) = w5 at *
  generalize w2.heap.size = p2 at *
  refine wp_region_invT (F := ?FL) (V := VPl u a q P n1 n2 n3 n4) (dead := fun _ => none) (T := fun _ _ => True) (C := fun u' => Below w5.heap.size w5 u') (E := fun _ _ _ => True) (by kernel_rfl) (by kernel_rfl) (by kernel_rfl) (fun x => ?hFL) ?hmonoL ?hTmL ?hTL ?hCL ?stepL ?finL
  case hFL => simp only [mkA, Act.put, List.setIfInBounds_toArray, List.set_cons_succ, List.set_cons_zero, Nat.reduceAdd, Nat.zero_add]; first | with_reducible rfl | rfl
  case hmonoL => exact fun k i v u u' he hik hwt hdd hv => VPl.mono hv
  case hTmL => exact fun _ _ _ _ _ _ _ _ => trivial
  case hTL => exact fun j => trivial
  case hCL => exact below_drew _
  case stepL =>
    refine AllOps.cons (fun x u hC hT hp K hK => ?_) ?_
    · clear hp hT
      go_simp
      refine (alive_any _).mono ?_
      rintro e wA ⟨rfl, hbA⟩
      refine hK _ _ _ (bt hC hbA) trivial (by exact rfl) ?_
      first | (simp only [Act.put, List.setIfInBounds_toArray, List.set_cons_succ, List.set_cons_zero]; done) | simp [Act.put]
    refine AllOps.cons (fun x u hC hT hp K hK => ?_) ?_
    · simp [KnownTill, Region.binds, VPl] at hp
      clear hT
      go_simp
      refine hK _ _ _ hC trivial (by exact rfl) ?_
      first | (simp only [Act.put, List.setIfInBounds_toArray, List.set_cons_succ, List.set_cons_zero, hp]; done) | simp [Act.put, hp]
    refine AllOps.cons (fun x u hC hT hp K hK => ?_) ?_
    · simp [KnownTill, Region.binds, VPl] at hp
      clear hT
      have c0 := ((k2.below hC k2.lt)).cell 0
      have c1 := ((k2.below hC k2.lt)).cell 1
      have c2 := ((k2.below hC k2.lt)).cell 2
      simp only [List.getElem?_toArray, List.getElem?_cons_zero, List.getElem?_cons_succ] at c0 c1 c2
      go_simp
      refine hK _ _ _ hC trivial (by exact rfl) ?_
      first | (simp only [Act.put, List.setIfInBounds_toArray, List.set_cons_succ, List.set_cons_zero, hp]; done) | simp [Act.put, hp]
    refine AllOps.cons (fun x u hC hT hp K hK => ?_) ?_
    · simp [KnownTill, Region.binds, VPl] at hp
      clear hT
      go_simp
      refine (hp1 _).mono ?_
      rintro e wA ⟨rfl, hbA⟩
      refine hK _ _ _ (bt hC hbA) trivial (by exact rfl) ?_
      first | (simp only [Act.put, List.setIfInBounds_toArray, List.set_cons_succ, List.set_cons_zero, hp]; done) | simp [Act.put, hp]
    refine AllOps.cons (fun x u hC hT hp K hK => ?_) ?_
    · simp [KnownTill, Region.binds, VPl] at hp
      clear hT
      have c0 := ((k2.below hC k2.lt)).cell 0
      have c1 := ((k2.below hC k2.lt)).cell 1
      have c2 := ((k2.below hC k2.lt)).cell 2
      simp only [List.getElem?_toArray, List.getElem?_cons_zero, List.getElem?_cons_succ] at c0 c1 c2
      go_simp
      refine hK _ _ _ hC trivial (by exact rfl) ?_
      first | (simp only [Act.put, List.setIfInBounds_toArray, List.set_cons_succ, List.set_cons_zero, hp]; done) | simp [Act.put, hp]
    refine AllOps.cons (fun x u hC hT hp K hK => ?_) ?_
    · simp [KnownTill, Region.binds, VPl] at hp
      clear hT
      go_simp
      refine (hp2 _).mono ?_
      rintro e wA ⟨rfl, hbA⟩
      refine hK _ _ _ (bt hC hbA) trivial (by exact rfl) ?_
      first | (simp only [Act.put, List.setIfInBounds_toArray, List.set_cons_succ, List.set_cons_zero, hp]; done) | simp [Act.put, hp]
    refine AllOps.cons (fun x u hC hT hp K hK => ?_) ?_
    · simp [KnownTill, Region.binds, VPl] at hp
      clear hT
      go_simp
      refine hK _ _ _ hC trivial (by exact rfl) ?_
      first | (simp only [Act.put, List.setIfInBounds_toArray, List.set_cons_succ, List.set_cons_zero, hp]; done) | simp [Act.put, hp]
    refine AllOps.cons (fun x u hC hT hp K hK => ?_) ?_
    · simp [KnownTill, Region.binds, VPl] at hp
      clear hT
      go_simp
      refine hK _ _ _ hC trivial (by exact rfl) ?_
      first | (simp only [Act.put, List.setIfInBounds_toArray, List.set_cons_succ, List.set_cons_zero, hp]; done) | simp [Act.put, hp]
    refine AllOps.cons (fun x u hC hT hp K hK => ?_) ?_
    · simp [KnownTill, Region.binds, VPl] at hp
      clear hT
      go_simp
      refine hK _ _ _ hC trivial (by exact rfl) ?_
      first | (simp only [Act.put, List.setIfInBounds_toArray, List.set_cons_succ, List.set_cons_zero, hp]; done) | simp [Act.put, hp]
    refine AllOps.cons (fun x u hC hT hp K hK => ?_) ?_
    · simp [KnownTill, Region.binds, VPl] at hp
      clear hT
      have c0 := ((x2.below hC x2.lt)).cell 0
      have c1 := ((x2.below hC x2.lt)).cell 1
      have c2 := ((x2.below hC x2.lt)).cell 2
      simp only [List.getElem?_toArray, List.getElem?_cons_zero, List.getElem?_cons_succ] at c0 c1 c2
      go_simp
      refine hK _ _ _ hC trivial (by exact rfl) ?_
      first | (simp only [Act.put, List.setIfInBounds_toArray, List.set_cons_succ, List.set_cons_zero, hp]; done) | simp [Act.put, hp]
    refine AllOps.cons (fun x u hC hT hp K hK => ?_) ?_
    · simp [KnownTill, Region.binds, VPl] at hp
      clear hT
      have c0 := ((x3.below hC x3.lt)).cell 0
      have c1 := ((x3.below hC x3.lt)).cell 1
      have c2 := ((x3.below hC x3.lt)).cell 2
      simp only [List.getElem?_toArray, List.getElem?_cons_zero, List.getElem?_cons_succ] at c0 c1 c2
      go_simp
      refine hK _ _ _ hC trivial (by exact rfl) ?_
      first | (simp only [Act.put, List.setIfInBounds_toArray, List.set_cons_succ, List.set_cons_zero, hp]; done) | simp [Act.put, hp]
    refine AllOps.cons (fun x u hC hT hp K hK => ?_) ?_
    · simp [KnownTill, Region.binds, VPl] at hp
      clear hT
      go_simp
      refine hK _ _ _ hC trivial (by exact rfl) ?_
      first | (simp only [Act.put, List.setIfInBounds_toArray, List.set_cons_succ, List.set_cons_zero, hp]; done) | simp [Act.put, hp]
    refine AllOps.cons (fun x u hC hT hp K hK => ?_) ?_
    · simp [KnownTill, Region.binds, VPl] at hp
      clear hT
      go_simp
      refine hK _ _ _ hC trivial (by exact rfl) ?_
      first | (simp only [Act.put, List.setIfInBounds_toArray, List.set_cons_succ, List.set_cons_zero, hp]; done) | simp [Act.put, hp]
    refine AllOps.cons (fun x u hC hT hp K hK => ?_) ?_
    · simp [KnownTill, Region.binds, VPl] at hp
      clear hT
      go_simp
      refine hK _ _ _ hC trivial (by exact rfl) ?_
      first | (simp only [Act.put, List.setIfInBounds_toArray, List.set_cons_succ, List.set_cons_zero, hp]; done) | simp [Act.put, hp]
    refine AllOps.cons (fun x u hC hT hp K hK => ?_) ?_
    · simp [KnownTill, Region.binds, VPl] at hp
      clear hT
      go_simp
      refine hK _ _ _ hC trivial (by exact rfl) ?_
      first | (simp only [Act.put, List.setIfInBounds_toArray, List.set_cons_succ, List.set_cons_zero, hp]; done) | simp [Act.put, hp]
    refine AllOps.cons (fun x u hC hT hp K hK => ?_) ?_
    · simp [KnownTill, Region.binds, VPl] at hp
      clear hT
      go_simp
      refine hK _ _ _ hC trivial (by exact rfl) ?_
      first | (simp only [Act.put, List.setIfInBounds_toArray, List.set_cons_succ, List.set_cons_zero, hp]; done) | simp [Act.put, hp]
    refine AllOps.cons (fun x u hC hT hp K hK => ?_) ?_
    · simp [KnownTill, Region.binds, VPl] at hp
      clear hT
      go_simp
      refine hK _ _ _ hC trivial (by exact rfl) ?_
      first | (simp only [Act.put, List.setIfInBounds_toArray, List.set_cons_succ, List.set_cons_zero, hp]; done) | simp [Act.put, hp]
    refine AllOps.cons (fun x u hC hT hp K hK => ?_) ?_
    · simp [KnownTill, Region.binds, VPl] at hp
      clear hT
      go_simp
      refine hK _ _ _ hC trivial (by exact rfl) ?_
      first | (simp only [Act.put, List.setIfInBounds_toArray, List.set_cons_succ, List.set_cons_zero, hp]; done) | simp [Act.put, hp]
    refine AllOps.cons (fun x u hC hT hp K hK => ?_) ?_
    · simp [KnownTill, Region.binds, VPl] at hp
      clear hT
      go_simp
      refine hK _ _ _ hC trivial (by exact rfl) ?_
      first | (simp only [Act.put, List.setIfInBounds_toArray, List.set_cons_succ, List.set_cons_zero, hp]; done) | simp [Act.put, hp]
    exact AllOps.nil
  case finL =>
    intro x u hC hV
    have hz : x 18 = .bool true := hV 18 (by decide) rfl
    rw [hz]
    have hbe := bt hbw hC
    clear hV hz hC
    go_wp2
    go_ret
    exact ⟨rfl, hbe⟩
end Go.Proofs.Ytmdogmmmjopibaa
