/- The law on the order of names. -/
import Derived.Test.YtmdogmmmjopibaaLi
namespace Go.Proofs.Ytmdogmmmjopibaa
open Go.RowKit
set_option linter.unusedVariables false
set_option linter.unusedSimpArgs false

def VOr (u v0 : Int) (a b q r : Nat) (ls : Bool) (n1 : Int) (n2 n3 : Nat) (n4 : Int) (i : Nat) (v : Value) (w : World) : Prop :=
  match i with
  | 0 => v = .bool true
  | 1 => v = .bool true
  | 2 => v = .agg #[.int .i64 u, .int .u32 a, .int .u32 q]
  | 3 => v = .agg #[.int .i64 v0, .int .u32 b, .int .u32 r]
  | 4 => v = .bool ls
  | 5 => v = .agg #[.int .i64 u, .int .u32 a, .int .u32 q]
  | 6 => v = .agg #[.int .i64 v0, .int .u32 b, .int .u32 r]
  | 7 => v = .bool ls
  | 8 => v = .bool true
  | 9 => v = .bool true
  | 10 => v = .bool true
  | 11 => v = .agg #[.int .i64 n1, .int .u32 n2, .int .u32 n3]
  | 12 => v = .agg #[.int .i64 n1, .int .u32 n2, .int .u32 n3]
  | 13 => v = .bool true
  | 14 => v = .bool true
  | 15 => v = .bool true
  | 16 => v = .int .i64 n4
  | 17 => v = .int .i64 n4
  | 18 => v = .bool true
  | 19 => v = .bool true
  | 20 => v = .bool true
  | _ => True
theorem VOr.mono {u v0 : Int} {a b q r : Nat} {ls : Bool} {n1 : Int} {n2 n3 : Nat} {n4 : Int} {i : Nat} {v : Value} {w w' : World} (hv : VOr u v0 a b q r ls n1 n2 n3 n4 i v w) : VOr u v0 a b q r ls n1 n2 n3 n4 i v w' := by
  unfold VOr at hv ⊢; split at hv <;> exact hv

set_option maxHeartbeats 2000000 in
theorem luwOrders_walk (o1 o2 : LuwV) (w : World) (h1 : LuwOk o1) (h2 : LuwOk o2) : Calls Try.prog 5 #[o1.val, o2.val] w fun e w' => e = .returned (.bool true) ∧ Below w.heap.size w w' := by
  obtain ⟨u, a, q⟩ := o1
  obtain ⟨v0, b, r⟩ := o2
  obtain ⟨_, _, ha, hq⟩ := h1
  obtain ⟨_, _, hb, hr⟩ := h2
  unfold LuwV.val
  simp only at ha hq hb hr
  have hn := fun w => next_any u a q w hq
  have hn2 := fun w => refnext_any u a q w hq
  have hl1 := fun w => less_any u v0 a b q r w
  have hl2 := fun w => refless_any u v0 a b q r w
  generalize nextL u a q = R at *
  obtain ⟨⟨n1, n2, n3⟩, n4⟩ := R
  generalize lessL u v0 a b q r = ls at *
  unfold lv at hl1 hl2 hn hn2
  simp only [lvE, lv] at hn hn2
  have kb1 := (Blk.new w 24 #[.int .i64 u, .int .u32 a, .int .u32 q]).alloc (.cells #[.int .i64 v0, .int .u32 b, .int .u32 r] 24)
  have kb2 := (Blk.new (w.alloc (.cells #[.int .i64 u, .int .u32 a, .int .u32 q] 24)) 24 #[.int .i64 v0, .int .u32 b, .int .u32 r])
  rw [show (w.alloc (.cells #[.int .i64 u, .int .u32 a, .int .u32 q] 24)).heap.size = w.heap.size + 1 by simp] at kb2
  have hb2 := ba2 w (.cells #[.int .i64 u, .int .u32 a, .int .u32 q] 24) (.cells #[.int .i64 v0, .int .u32 b, .int .u32 r] 24)
  go_enter Try.func5, Try.ntmps5
  go_wp2_with fail
  refine (hn _).mono ?_
  rintro e w1 ⟨rfl, hb3⟩
  have k1 := (kb1.below hb3 kb1.lt).alloc (.cells #[.int .i64 n1, .int .u32 n2, .int .u32 n3] 24)
  have k2 := (kb2.below hb3 kb2.lt).alloc (.cells #[.int .i64 n1, .int .u32 n2, .int .u32 n3] 24)
  have k3 := Blk.new w1 24 #[.int .i64 n1, .int .u32 n2, .int .u32 n3]
  have hbw := bt hb2 (bt hb3 (ba w1 (.cells #[.int .i64 n1, .int .u32 n2, .int .u32 n3] 24)))
  clear kb1 kb2 hb2 hb3
  have c0 := (k1).cell 0
  have c1 := (k1).cell 1
  have c2 := (k1).cell 2
  simp only [List.getElem?_toArray, List.getElem?_cons_zero, List.getElem?_cons_succ] at c0 c1 c2
  go_wp2_with fail
  refine (hn2 _).mono ?_
  rintro e w2 ⟨rfl, hb4⟩
  have g1 := (k1.below hb4 k1.lt).alloc (.cells #[.int .i64 n1, .int .u32 n2, .int .u32 n3] 24)
  have g2 := (k2.below hb4 k2.lt).alloc (.cells #[.int .i64 n1, .int .u32 n2, .int .u32 n3] 24)
  have g3 := (k3.below hb4 k3.lt).alloc (.cells #[.int .i64 n1, .int .u32 n2, .int .u32 n3] 24)
  have g4 := Blk.new w2 24 #[.int .i64 n1, .int .u32 n2, .int .u32 n3]
  have hbf := bt hbw (bt hb4 (ba w2 (.cells #[.int .i64 n1, .int .u32 n2, .int .u32 n3] 24)))
  clear k1 k2 k3 hbw hb4 c0 c1 c2
  generalize w1.heap.size = p3 at *
  go_wp2_with fail
  refine wp_region_invT (F := ?FO) (V := VOr u v0 a b q r ls n1 n2 n3 n4) (dead := fun _ => none) (T := fun _ _ => True) (C := fun u' => Blk u' w.heap.size 24 #[.int .i64 u, .int .u32 a, .int .u32 q] ∧ Blk u' (w.heap.size + 1) 24 #[.int .i64 v0, .int .u32 b, .int .u32 r] ∧ Blk u' p3 24 #[.int .i64 n1, .int .u32 n2, .int .u32 n3] ∧ Blk u' w2.heap.size 24 #[.int .i64 n1, .int .u32 n2, .int .u32 n3] ∧ Below w.heap.size w u') (E := fun _ _ _ => True) (by kernel_rfl) (by kernel_rfl) (by kernel_rfl) (fun x => ?hFO) ?hmonoO ?hTmO ?hTO ?hCO ?stepO ?finO
  case hFO => simp only [mkA, Act.put, List.setIfInBounds_toArray, List.set_cons_succ, List.set_cons_zero, Nat.reduceAdd, Nat.zero_add]; first | with_reducible rfl | rfl
  case hmonoO => exact fun k i v u u' he hik hwt hdd hv => VOr.mono hv
  case hTmO => exact fun _ _ _ _ _ _ _ _ => trivial
  case hTO => exact fun j => trivial
  case hCO => exact ⟨g1, g2, g3, g4, bt hbf (below_drew _)⟩
  case stepO =>
    refine AllOps.cons (fun x u hC hT hp K hK => ?_) ?_
    · clear hp hT
      go_simp
      refine (alive_any _).mono ?_
      rintro e wA ⟨rfl, hbA⟩
      refine hK _ _ _ ⟨hC.1.below hbA hC.1.lt, hC.2.1.below hbA hC.2.1.lt, hC.2.2.1.below hbA hC.2.2.1.lt, hC.2.2.2.1.below hbA hC.2.2.2.1.lt, bt hC.2.2.2.2 hbA⟩ trivial (by exact rfl) ?_
      first | (simp only [Act.put, List.setIfInBounds_toArray, List.set_cons_succ, List.set_cons_zero]; done) | simp [Act.put]
    refine AllOps.cons (fun x u hC hT hp K hK => ?_) ?_
    · simp [KnownTill, Region.binds, VOr] at hp
      clear hT
      go_simp
      refine hK _ _ _ hC trivial (by exact rfl) ?_
      first | (simp only [Act.put, List.setIfInBounds_toArray, List.set_cons_succ, List.set_cons_zero, hp]; done) | simp [Act.put, hp]
    refine AllOps.cons (fun x u hC hT hp K hK => ?_) ?_
    · simp [KnownTill, Region.binds, VOr] at hp
      clear hT
      have c0 := (hC.1).cell 0
      have c1 := (hC.1).cell 1
      have c2 := (hC.1).cell 2
      simp only [List.getElem?_toArray, List.getElem?_cons_zero, List.getElem?_cons_succ] at c0 c1 c2
      go_simp
      refine hK _ _ _ hC trivial (by exact rfl) ?_
      first | (simp only [Act.put, List.setIfInBounds_toArray, List.set_cons_succ, List.set_cons_zero, hp]; done) | simp [Act.put, hp]
    refine AllOps.cons (fun x u hC hT hp K hK => ?_) ?_
    · simp [KnownTill, Region.binds, VOr] at hp
      clear hT
      have c0 := (hC.2.1).cell 0
      have c1 := (hC.2.1).cell 1
      have c2 := (hC.2.1).cell 2
      simp only [List.getElem?_toArray, List.getElem?_cons_zero, List.getElem?_cons_succ] at c0 c1 c2
      go_simp
      refine hK _ _ _ hC trivial (by exact rfl) ?_
      first | (simp only [Act.put, List.setIfInBounds_toArray, List.set_cons_succ, List.set_cons_zero, hp]; done) | simp [Act.put, hp]
    refine AllOps.cons (fun x u hC hT hp K hK => ?_) ?_
    · simp [KnownTill, Region.binds, VOr] at hp
      clear hT
      go_simp
      refine (hl1 _).mono ?_
      rintro e wA ⟨rfl, hbA⟩
      refine hK _ _ _ ⟨hC.1.below hbA hC.1.lt, hC.2.1.below hbA hC.2.1.lt, hC.2.2.1.below hbA hC.2.2.1.lt, hC.2.2.2.1.below hbA hC.2.2.2.1.lt, bt hC.2.2.2.2 hbA⟩ trivial (by exact rfl) ?_
      first | (simp only [Act.put, List.setIfInBounds_toArray, List.set_cons_succ, List.set_cons_zero, hp]; done) | simp [Act.put, hp]
    refine AllOps.cons (fun x u hC hT hp K hK => ?_) ?_
    · simp [KnownTill, Region.binds, VOr] at hp
      clear hT
      have c0 := (hC.1).cell 0
      have c1 := (hC.1).cell 1
      have c2 := (hC.1).cell 2
      simp only [List.getElem?_toArray, List.getElem?_cons_zero, List.getElem?_cons_succ] at c0 c1 c2
      go_simp
      refine hK _ _ _ hC trivial (by exact rfl) ?_
      first | (simp only [Act.put, List.setIfInBounds_toArray, List.set_cons_succ, List.set_cons_zero, hp]; done) | simp [Act.put, hp]
    refine AllOps.cons (fun x u hC hT hp K hK => ?_) ?_
    · simp [KnownTill, Region.binds, VOr] at hp
      clear hT
      have c0 := (hC.2.1).cell 0
      have c1 := (hC.2.1).cell 1
      have c2 := (hC.2.1).cell 2
      simp only [List.getElem?_toArray, List.getElem?_cons_zero, List.getElem?_cons_succ] at c0 c1 c2
      go_simp
      refine hK _ _ _ hC trivial (by exact rfl) ?_
      first | (simp only [Act.put, List.setIfInBounds_toArray, List.set_cons_succ, List.set_cons_zero, hp]; done) | simp [Act.put, hp]
    refine AllOps.cons (fun x u hC hT hp K hK => ?_) ?_
    · simp [KnownTill, Region.binds, VOr] at hp
      clear hT
      go_simp
      refine (hl2 _).mono ?_
      rintro e wA ⟨rfl, hbA⟩
      refine hK _ _ _ ⟨hC.1.below hbA hC.1.lt, hC.2.1.below hbA hC.2.1.lt, hC.2.2.1.below hbA hC.2.2.1.lt, hC.2.2.2.1.below hbA hC.2.2.2.1.lt, bt hC.2.2.2.2 hbA⟩ trivial (by exact rfl) ?_
      first | (simp only [Act.put, List.setIfInBounds_toArray, List.set_cons_succ, List.set_cons_zero, hp]; done) | simp [Act.put, hp]
    refine AllOps.cons (fun x u hC hT hp K hK => ?_) ?_
    · simp [KnownTill, Region.binds, VOr] at hp
      clear hT
      go_simp
      refine hK _ _ _ hC trivial (by exact rfl) ?_
      first | (simp only [Act.put, List.setIfInBounds_toArray, List.set_cons_succ, List.set_cons_zero, hp]; done) | simp [Act.put, hp]
    refine AllOps.cons (fun x u hC hT hp K hK => ?_) ?_
    · simp [KnownTill, Region.binds, VOr] at hp
      clear hT
      go_simp
      refine hK _ _ _ hC trivial (by exact rfl) ?_
      first | (simp only [Act.put, List.setIfInBounds_toArray, List.set_cons_succ, List.set_cons_zero, hp]; done) | simp [Act.put, hp]
    refine AllOps.cons (fun x u hC hT hp K hK => ?_) ?_
    · simp [KnownTill, Region.binds, VOr] at hp
      clear hT
      go_simp
      refine hK _ _ _ hC trivial (by exact rfl) ?_
      first | (simp only [Act.put, List.setIfInBounds_toArray, List.set_cons_succ, List.set_cons_zero, hp]; done) | simp [Act.put, hp]
    refine AllOps.cons (fun x u hC hT hp K hK => ?_) ?_
    · simp [KnownTill, Region.binds, VOr] at hp
      clear hT
      have c0 := (hC.2.2.1).cell 0
      have c1 := (hC.2.2.1).cell 1
      have c2 := (hC.2.2.1).cell 2
      simp only [List.getElem?_toArray, List.getElem?_cons_zero, List.getElem?_cons_succ] at c0 c1 c2
      go_simp
      refine hK _ _ _ hC trivial (by exact rfl) ?_
      first | (simp only [Act.put, List.setIfInBounds_toArray, List.set_cons_succ, List.set_cons_zero, hp]; done) | simp [Act.put, hp]
    refine AllOps.cons (fun x u hC hT hp K hK => ?_) ?_
    · simp [KnownTill, Region.binds, VOr] at hp
      clear hT
      have c0 := (hC.2.2.2.1).cell 0
      have c1 := (hC.2.2.2.1).cell 1
      have c2 := (hC.2.2.2.1).cell 2
      simp only [List.getElem?_toArray, List.getElem?_cons_zero, List.getElem?_cons_succ] at c0 c1 c2
      go_simp
      refine hK _ _ _ hC trivial (by exact rfl) ?_
      first | (simp only [Act.put, List.setIfInBounds_toArray, List.set_cons_succ, List.set_cons_zero, hp]; done) | simp [Act.put, hp]
    refine AllOps.cons (fun x u hC hT hp K hK => ?_) ?_
    · simp [KnownTill, Region.binds, VOr] at hp
      clear hT
      go_simp
      refine hK _ _ _ hC trivial (by exact rfl) ?_
      first | (simp only [Act.put, List.setIfInBounds_toArray, List.set_cons_succ, List.set_cons_zero, hp]; done) | simp [Act.put, hp]
    refine AllOps.cons (fun x u hC hT hp K hK => ?_) ?_
    · simp [KnownTill, Region.binds, VOr] at hp
      clear hT
      go_simp
      refine hK _ _ _ hC trivial (by exact rfl) ?_
      first | (simp only [Act.put, List.setIfInBounds_toArray, List.set_cons_succ, List.set_cons_zero, hp]; done) | simp [Act.put, hp]
    refine AllOps.cons (fun x u hC hT hp K hK => ?_) ?_
    · simp [KnownTill, Region.binds, VOr] at hp
      clear hT
      go_simp
      refine hK _ _ _ hC trivial (by exact rfl) ?_
      first | (simp only [Act.put, List.setIfInBounds_toArray, List.set_cons_succ, List.set_cons_zero, hp]; done) | simp [Act.put, hp]
    refine AllOps.cons (fun x u hC hT hp K hK => ?_) ?_
    · simp [KnownTill, Region.binds, VOr] at hp
      clear hT
      go_simp
      refine hK _ _ _ hC trivial (by exact rfl) ?_
      first | (simp only [Act.put, List.setIfInBounds_toArray, List.set_cons_succ, List.set_cons_zero, hp]; done) | simp [Act.put, hp]
    refine AllOps.cons (fun x u hC hT hp K hK => ?_) ?_
    · simp [KnownTill, Region.binds, VOr] at hp
      clear hT
      go_simp
      refine hK _ _ _ hC trivial (by exact rfl) ?_
      first | (simp only [Act.put, List.setIfInBounds_toArray, List.set_cons_succ, List.set_cons_zero, hp]; done) | simp [Act.put, hp]
    refine AllOps.cons (fun x u hC hT hp K hK => ?_) ?_
    · simp [KnownTill, Region.binds, VOr] at hp
      clear hT
      go_simp
      refine hK _ _ _ hC trivial (by exact rfl) ?_
      first | (simp only [Act.put, List.setIfInBounds_toArray, List.set_cons_succ, List.set_cons_zero, hp]; done) | simp [Act.put, hp]
    refine AllOps.cons (fun x u hC hT hp K hK => ?_) ?_
    · simp [KnownTill, Region.binds, VOr] at hp
      clear hT
      go_simp
      refine hK _ _ _ hC trivial (by exact rfl) ?_
      first | (simp only [Act.put, List.setIfInBounds_toArray, List.set_cons_succ, List.set_cons_zero, hp]; done) | simp [Act.put, hp]
    refine AllOps.cons (fun x u hC hT hp K hK => ?_) ?_
    · simp [KnownTill, Region.binds, VOr] at hp
      clear hT
      go_simp
      refine hK _ _ _ hC trivial (by exact rfl) ?_
      first | (simp only [Act.put, List.setIfInBounds_toArray, List.set_cons_succ, List.set_cons_zero, hp]; done) | simp [Act.put, hp]
    exact AllOps.nil
  case finO =>
    intro x u hC hV
    have hz : x 20 = .bool true := hV 20 (by decide) rfl
    rw [hz]
    have hbe := hC.2.2.2.2
    clear hV hz hC g1 g2 g3 g4
    go_wp2
    go_ret
    exact ⟨rfl, hbe⟩
end Go.Proofs.Ytmdogmmmjopibaa
