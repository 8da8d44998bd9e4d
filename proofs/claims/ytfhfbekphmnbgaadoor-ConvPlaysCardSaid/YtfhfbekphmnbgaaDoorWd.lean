/- Layer 10: verb by verb a conversation goes the document's way (P10.2). -/
import Derived.Test.YtfhfbekphmnbgaaDoorVl
import Derived.Test.YtfhfbekphmnbgaaDoorWb
import Derived.Test.YtfhfbekphmnbgaaDoorOpenVs
import Derived.Test.YtfhfbekphmnbgaaDoorInvX
namespace Go.Proofs.YtfhfbekphmnbgaaDoor
open Go.RowKit
set_option linter.unusedVariables false
set_option linter.unusedSimpArgs false

/-- A new block of six cells that the slot p points to. -/
def NewAt (w : World) (base : Nat) (T : TypeId) (p : Value) (cs : Array Value) : Prop := ∃ q, p = .pointer (some ⟨q, 0, none⟩) ∧ base ≤ q ∧ Blk w q T cs
theorem NewAt.bt {w w' : World} {base : Nat} {T : TypeId} {p : Value} {cs : Array Value} (h : NewAt w base T p cs) (hb : Below w.heap.size w w') : NewAt w' base T p cs := by
  obtain ⟨q, h1, h2, h3⟩ := h; exact ⟨q, h1, h2, h3.below hb h3.lt⟩
def VPl (C S Tup Y : Value) (k side verb E : Int) (b f base : Nat) (T : TypeId) (zs ys : Array Value) (i : Nat) (v p : Value) (w : World) : Prop :=
  match i with
  | 0 => v = C
  | 1 => v = S
  | 2 => v = .int .i64 k
  | 3 => v = .pointer (some ⟨b, f, none⟩)
  | 4 => v = .pointer (some ⟨b, f, none⟩)
  | 5 => v = .int .i64 side
  | 6 => v = S
  | 7 => v = .int .i64 k
  | 8 => v = .pointer (some ⟨b, f, none⟩)
  | 9 => v = .pointer (some ⟨b, f + 1, none⟩)
  | 10 => v = .int .i64 verb
  | 11 => v = Tup
  | 12 => v = Tup
  | 13 => v = Y
  | 14 => v = .int .i64 E
  | 15 => NewAt w base T v zs
  | 16 => NewAt w base T p ys
  | 17 => v = .int .i64 E
  | _ => True
def EPl (k : Nat) (u u' : World) : Prop := match k with
  | 16 => True
  | _ => Below u.heap.size u u'
theorem VPl.mono {C S Tup Y : Value} {k side verb E : Int} {b f base : Nat} {T : TypeId} {zs ys : Array Value} {q i : Nat} {v p : Value} {u u' : World} (he : EPl q u u') (hiq : i ≠ q) (hd : i = 15 ∧ q = 16 → False) (h : VPl C S Tup Y k side verb E b f base T zs ys i v p u) : VPl C S Tup Y k side verb E b f base T zs ys i v p u' := by
  unfold EPl at he
  split at he
  · unfold VPl at h ⊢
    split at h <;> first | with_reducible exact h | exact absurd rfl hiq | exact (hd ⟨rfl, rfl⟩).elim
  · unfold VPl at h ⊢
    split at h <;> first | with_reducible exact h | exact NewAt.bt h he

theorem neR (l a b : Int) (x y : Bool) (t : Int) (w : World) : (binOp .neq 33 (.agg #[.int .i64 l, .int .i64 a, .int .i64 b, .bool x, .bool y, .int .i64 t]) (.agg #[.int .i64 l, .int .i64 a, .int .i64 b, .bool x, .bool y, .int .i64 t])).run Tryd.prog w = .ok (.bool false) w := by
  rw [run_neq_struct, run_equalIn_struct w 9999 33 _ _ (by kernel_rfl) (by kernel_rfl)]
  have hA := fun w => eq30d 9997 a b a b w
  have hB := fun w => eq31d 9997 x y x y w
  simp only [Nat.reduceAdd, beq_self_eq_true, Bool.and_self] at hA hB
  simp [Op.eqFields, Program.fieldsOf, Tryd.underlying33, go_sem, hA, hB]
theorem Blk.far6 {w : World} {g g2 : Nat} {T : TypeId} {cs : Array Value} (h : Blk w g T cs) (hne : g ≠ g2) (y0 y1 y2 y3 y4 y5 : Value) : Blk ((((((w.setCell ⟨g2, 0, none⟩ y0).setCell ⟨g2, 1, none⟩ y1).setCell ⟨g2, 2, none⟩ y2).setCell ⟨g2, 3, none⟩ y3).setCell ⟨g2, 4, none⟩ y4).setCell ⟨g2, 5, none⟩ y5) g T cs :=
  (((((h.far (p := ⟨g2, 0, none⟩) hne y0).far (p := ⟨g2, 1, none⟩) hne y1).far (p := ⟨g2, 2, none⟩) hne y2).far (p := ⟨g2, 3, none⟩) hne y3).far (p := ⟨g2, 4, none⟩) hne y4).far (p := ⟨g2, 5, none⟩) hne y5
def FarE (g2 : Nat) (u u' : World) : Prop := ∀ g T cs, g ≠ g2 → Blk u g T cs → Blk u' g T cs
def VSt (Y RY : Value) (gc gx : Nat) (T1 T2 : TypeId) (ys rys : Array Value) (i : Nat) (v : Value) (w : World) : Prop :=
  match i with
  | 0 => v = Y
  | 1 => v = RY
  | 2 => Blk w gc T1 ys
  | 3 => Blk w gx T2 rys
  | _ => True
def TSt (gc gx : Nat) (T1 T2 : TypeId) (cs rcs : Array Value) (j : Nat) (w : World) : Prop :=
  match j with
  | 2 => Blk w gc T1 cs
  | 3 => Blk w gx T2 rcs
  | _ => True
def ESt (gc gx : Nat) (k : Nat) (u u' : World) : Prop := match k with
  | 2 => FarE gc u u'
  | 3 => FarE gx u u'
  | _ => u' = u
theorem VSt.mono {Y RY : Value} {gc gx : Nat} {T1 T2 : TypeId} {ys rys : Array Value} {q i : Nat} {v : Value} {u u' : World} (hne : gc ≠ gx) (he : ESt gc gx q u u') (hiq : i ≠ q) (h : VSt Y RY gc gx T1 T2 ys rys i v u) : VSt Y RY gc gx T1 T2 ys rys i v u' := by
  unfold ESt at he
  unfold VSt at h ⊢
  split at he
  · split at h <;> first | with_reducible exact h | exact absurd rfl hiq | exact he _ _ _ hne.symm h
  · split at h <;> first | with_reducible exact h | exact absurd rfl hiq | exact he _ _ _ hne h
  · rw [he]; exact h
theorem TSt.mono {gc gx : Nat} {T1 T2 : TypeId} {cs rcs : Array Value} {q j : Nat} {u u' : World} (hne : gc ≠ gx) (he : ESt gc gx q u u') (hqj : q ≠ j) (h : TSt gc gx T1 T2 cs rcs j u) : TSt gc gx T1 T2 cs rcs j u' := by
  unfold ESt at he
  unfold TSt at h ⊢
  split at he
  · split at h <;> first | exact absurd rfl hqj | exact he _ _ _ hne.symm h | trivial
  · split at h <;> first | exact absurd rfl hqj | exact he _ _ _ hne h | trivial
  · rw [he]; exact h
def VAs (C X : Value) (i : Nat) (v : Value) (w : World) : Prop :=
  match i with
  | 0 => v = C
  | 1 => v = X
  | 2 => v = X
  | 3 => v = .bool false
  | _ => True

set_option maxRecDepth 100000 in
set_option maxHeartbeats 8000000 in
theorem convPlays_walk (level : Int) (A0 : Option Addr) (vs : List (Int × Int)) (c0 : Nat) (w : World) (hM : Meets w) (h : VerbsAt w A0 vs) : Calls Tryd.prog 5 #[.int .i64 level, .slice A0 vs.length c0] w fun e w' => e = .returned (.bool true) ∧ Below w.heap.size w w' := by
  have hlen := h.1
  unfold maxLen at hlen
  obtain ⟨m, hm⟩ : ∃ m, m = vs.length := ⟨_, rfl⟩
  rw [← hm] at hlen ⊢
  have Hm := Lib.hid hm
  clear hm
  have hn := fun w => new_any level w
  have hrn := fun w => refnew_any level w
  obtain ⟨⟨y0, y1, y2, y3, y4, y5⟩, E, hy⟩ : ∃ d E, newM level = (d, E) := ⟨_, _, rfl⟩
  rw [hy] at hn hrn
  clear hy
  simp only [cv, rv] at hn hrn
  go_enter Tryd.func5, Tryd.ntmps5
  go_wp2_with fail
  refine (hn _).mono ?_
  rintro e v1 ⟨rfl, hb1⟩
  have M1 := hM.bt hb1
  have kc := Blk.new v1 26 #[.int .i64 y0, .int .i64 y1, .bool y2, .int .i64 y3, .bool y4, .int .i64 y5]
  have M2 := M1.bt (ba v1 (.cells #[.int .i64 y0, .int .i64 y1, .bool y2, .int .i64 y3, .bool y4, .int .i64 y5] 26))
  have hb2 := bt hb1 (ba v1 (.cells #[.int .i64 y0, .int .i64 y1, .bool y2, .int .i64 y3, .bool y4, .int .i64 y5] 26))
  have hM0 := hM
  have hs1 := hb1.size
  clear hn hb1 M1 hM
  by_cases hE : E = 0
  · subst hE
    go_wp2_with fail
    refine (hrn _).mono ?_
    rintro e v2 ⟨rfl, hb3⟩
    have kc3 := kc.below hb3 kc.lt
    have M3 := M2.bt hb3
    have hb4 := bt hb2 hb3
    have kc4 := kc3.alloc (.cells #[.int .i64 y0, .int .i64 y1, .int .i64 y3, .bool y2, .bool y4, .int .i64 y5] 33)
    have kx4 := Blk.new v2 33 #[.int .i64 y0, .int .i64 y1, .int .i64 y3, .bool y2, .bool y4, .int .i64 y5]
    have M4 := M3.bt (ba v2 (.cells #[.int .i64 y0, .int .i64 y1, .int .i64 y3, .bool y2, .bool y4, .int .i64 y5] 33))
    have hb5 := bt hb4 (ba v2 (.cells #[.int .i64 y0, .int .i64 y1, .int .i64 y3, .bool y2, .bool y4, .int .i64 y5] 33))
    have hgc : w.heap.size ≤ v1.heap.size := hs1
    have hgcx : v1.heap.size ≠ v2.heap.size := by have := kc3.lt; omega
    have hgx : w.heap.size ≤ v2.heap.size := hb4.size
    generalize hgc1 : v1.heap.size = gc at *
    clear hrn kc kc3 M2 M3 hb2 hb3 hb4 hgc1
    go_wp2_with fail
    generalize hgx1 : v2.heap.size = gx at *
    clear hgx1
    go_loopw [9] (fun i wr => ∃ (k : Nat) (l s0 s1 t : Int) (w0 w1 : Bool), k ≤ m ∧ k ≤ 200 ∧ i = .int .i64 k ∧ Blk wr gc 26 #[.int .i64 l, .int .i64 s0, .bool w0, .int .i64 s1, .bool w1, .int .i64 t] ∧ Blk wr gx 33 #[.int .i64 l, .int .i64 s0, .int .i64 s1, .bool w0, .bool w1, .int .i64 t] ∧ Meets wr ∧ Below w.heap.size w wr) (fun i _ => 200 - (intOf i).toNat)
    case atStart => exact ⟨0, y0, y1, y3, y5, y2, y4, Nat.zero_le _, by omega, rfl, kc4, kx4, M4, hb5⟩
    case round =>
      clear kc4 kx4 M4 hb5
      obtain ⟨k, l, s0, s1, t, w0, w1, hk, hk200, rfl, kc, kx, hM, hbw⟩ := hrel
      by_cases hkl : k < m
      · by_cases hk2 : k < 200
        · obtain ⟨b, o, rfl, hlt, hcs⟩ := h.2 (by rw [← Hm.out]; omega)
          obtain ⟨q0, q1⟩ := hcs k (by rw [← Hm.out]; exact hkl)
          obtain ⟨⟨side, verb⟩, hv⟩ : ∃ v, v = vs[k]'(by rw [← Hm.out]; exact hkl) := ⟨_, rfl⟩
          rw [← hv] at q0 q1
          simp only at q0 q1
          clear hv hcs
          have hkI : (k : Int) < (m : Int) := by omega
          have hk2I : (k : Int) < 200 := by omega
          have hlt2 : b < wr.heap.size := Nat.lt_of_lt_of_le hlt hbw.size
          have q0' := (hbw.cell (p := ⟨b, o + k * 2, none⟩) hlt).trans q0
          have q1' := (hbw.cell (p := ⟨b, o + k * 2 + 1, none⟩) hlt).trans q1
          clear q0 q1
          have q0 := q0'
          have q1 := q1'
          clear q0' q1'
          have hdo := fun u h => do_any l s0 w0 s1 w1 t side verb u h
          have hrdo := fun u => refdo_any l s0 w0 s1 w1 t side verb u
          obtain ⟨⟨z0, z1, z2, z3, z4, z5⟩, E, hy⟩ : ∃ d E, doM (l, s0, w0, s1, w1, t) side verb = (d, E) := ⟨_, _, rfl⟩
          rw [hy] at hdo hrdo
          clear hy
          simp only [cv, rv] at hdo hrdo
          go_wp2_with fail
          refine wp_region_invX (F := ?FP8) (V := VPl (.agg #[.int .i64 l, .int .i64 s0, .bool w0, .int .i64 s1, .bool w1, .int .i64 t]) (.slice (some ⟨b, o, none⟩) m c0) (.tuple #[(.agg #[.int .i64 z0, .int .i64 z1, .bool z2, .int .i64 z3, .bool z4, .int .i64 z5]), .int .i64 E]) (.agg #[.int .i64 z0, .int .i64 z1, .bool z2, .int .i64 z3, .bool z4, .int .i64 z5]) k side verb E b (o + k * 2) wr.heap.size 26 #[.int .i64 0, .int .i64 0, .bool false, .int .i64 0, .bool false, .int .i64 0] #[.int .i64 z0, .int .i64 z1, .bool z2, .int .i64 z3, .bool z4, .int .i64 z5]) (par := fun i => if i = 16 then 15 else i) (dead := fun i => if i = 15 then some 16 else none) (T := fun _ _ => True) (C := fun u => Below wr.heap.size wr u) (E := EPl) (by kernel_rfl) (by kernel_rfl) (by kernel_rfl) (fun x => ?hFP8) (fun i _ => by by_cases h : i = 16; (subst h; exact .inr (by kernel_rfl)); exact .inl (if_neg h)) ?hmonoP8 ?hTmP8 ?hTP8 ?hCP8 ?stepP8 ?finP8
          case hFP8 => simp only [mkA, Act.put, List.setIfInBounds_toArray, List.set_cons_succ, List.set_cons_zero, Nat.reduceAdd, Nat.zero_add]; first | with_reducible rfl | rfl
          case hmonoP8 => exact fun q i v p u u' he hik hwt hdd hv => VPl.mono he hik (fun hh => hdd (by rw [hh.1, hh.2]; rfl)) hv
          case hTmP8 => exact fun _ _ _ _ _ _ _ _ => trivial
          case hTP8 => exact fun j => trivial
          case hCP8 => exact (Below.refl _ _).drew
          case stepP8 =>
            refine AllOps.cons (fun x u hC hT hp K hK => ?_) ?_
            · clear hp hT
              have kq := kc.below hC kc.lt
              have ca0 := kq.cell 0
              have ca1 := kq.cell 1
              have ca2 := kq.cell 2
              have ca3 := kq.cell 3
              have ca4 := kq.cell 4
              have ca5 := kq.cell 5
              simp only [List.getElem?_toArray, List.getElem?_cons_zero, List.getElem?_cons_succ] at ca0 ca1 ca2 ca3 ca4 ca5
              go_simp
              refine hK _ _ _ hC (Below.refl _ _) (by exact rfl) ?_
              first | (simp only [Act.put, List.setIfInBounds_toArray, List.set_cons_succ, List.set_cons_zero]; done) | simp [Act.put]
            refine AllOps.cons (fun x u hC hT hp K hK => ?_) ?_
            · clear hp hT
              go_simp
              refine hK _ _ _ hC (Below.refl _ _) (by exact rfl) ?_
              first | (simp only [Act.put, List.setIfInBounds_toArray, List.set_cons_succ, List.set_cons_zero]; done) | simp [Act.put]
            refine AllOps.cons (fun x u hC hT hp K hK => ?_) ?_
            · clear hp hT
              go_simp
              refine hK _ _ _ hC (Below.refl _ _) (by exact rfl) ?_
              first | (simp only [Act.put, List.setIfInBounds_toArray, List.set_cons_succ, List.set_cons_zero]; done) | simp [Act.put]
            refine AllOps.cons (fun x u hC hT hp K hK => ?_) ?_
            · simp [KnownTill, Region.binds, VPl] at hp
              clear hT
              go_simp
              refine hK _ _ _ hC (Below.refl _ _) (by exact rfl) ?_
              first | (simp only [Act.put, List.setIfInBounds_toArray, List.set_cons_succ, List.set_cons_zero, hp]; done) | simp [Act.put, hp]
            refine AllOps.cons (fun x u hC hT hp K hK => ?_) ?_
            · simp [KnownTill, Region.binds, VPl] at hp
              clear hT
              go_simp
              refine hK _ _ _ hC (Below.refl _ _) (by exact rfl) ?_
              first | (simp only [Act.put, List.setIfInBounds_toArray, List.set_cons_succ, List.set_cons_zero, hp]; done) | simp [Act.put, hp]
            refine AllOps.cons (fun x u hC hT hp K hK => ?_) ?_
            · simp [KnownTill, Region.binds, VPl] at hp
              clear hT
              have cq := (hC.cell (p := ⟨b, o + k * 2, none⟩) hlt2).trans q0
              go_simp
              refine hK _ _ _ hC (Below.refl _ _) (by exact rfl) ?_
              first | (simp only [Act.put, List.setIfInBounds_toArray, List.set_cons_succ, List.set_cons_zero, hp]; done) | simp [Act.put, hp]
            refine AllOps.cons (fun x u hC hT hp K hK => ?_) ?_
            · clear hp hT
              go_simp
              refine hK _ _ _ hC (Below.refl _ _) (by exact rfl) ?_
              first | (simp only [Act.put, List.setIfInBounds_toArray, List.set_cons_succ, List.set_cons_zero]; done) | simp [Act.put]
            refine AllOps.cons (fun x u hC hT hp K hK => ?_) ?_
            · clear hp hT
              go_simp
              refine hK _ _ _ hC (Below.refl _ _) (by exact rfl) ?_
              first | (simp only [Act.put, List.setIfInBounds_toArray, List.set_cons_succ, List.set_cons_zero]; done) | simp [Act.put]
            refine AllOps.cons (fun x u hC hT hp K hK => ?_) ?_
            · simp [KnownTill, Region.binds, VPl] at hp
              clear hT
              go_simp
              refine hK _ _ _ hC (Below.refl _ _) (by exact rfl) ?_
              first | (simp only [Act.put, List.setIfInBounds_toArray, List.set_cons_succ, List.set_cons_zero, hp]; done) | simp [Act.put, hp]
            refine AllOps.cons (fun x u hC hT hp K hK => ?_) ?_
            · simp [KnownTill, Region.binds, VPl] at hp
              clear hT
              go_simp
              refine hK _ _ _ hC (Below.refl _ _) (by exact rfl) ?_
              first | (simp only [Act.put, List.setIfInBounds_toArray, List.set_cons_succ, List.set_cons_zero, hp]; done) | simp [Act.put, hp]
            refine AllOps.cons (fun x u hC hT hp K hK => ?_) ?_
            · simp [KnownTill, Region.binds, VPl] at hp
              clear hT
              have cq := (hC.cell (p := ⟨b, o + k * 2 + 1, none⟩) hlt2).trans q1
              go_simp
              refine hK _ _ _ hC (Below.refl _ _) (by exact rfl) ?_
              first | (simp only [Act.put, List.setIfInBounds_toArray, List.set_cons_succ, List.set_cons_zero, hp]; done) | simp [Act.put, hp]
            refine AllOps.cons (fun x u hC hT hp K hK => ?_) ?_
            · simp [KnownTill, Region.binds, VPl] at hp
              clear hT
              go_simp
              refine (hdo u (hM.bt hC)).mono ?_
              rintro e wA ⟨rfl, hbA⟩
              refine hK _ _ _ (Go.Proofs.YtfhfbekphmnbgaaDoor.bt hC hbA) hbA (by exact rfl) ?_
              first | (simp only [Act.put, List.setIfInBounds_toArray, List.set_cons_succ, List.set_cons_zero, hp]; done) | simp [Act.put, hp]
            refine AllOps.cons (fun x u hC hT hp K hK => ?_) ?_
            · simp [KnownTill, Region.binds, VPl] at hp
              clear hT
              go_simp
              refine hK _ _ _ hC (Below.refl _ _) (by exact rfl) ?_
              first | (simp only [Act.put, List.setIfInBounds_toArray, List.set_cons_succ, List.set_cons_zero, hp]; done) | simp [Act.put, hp]
            refine AllOps.cons (fun x u hC hT hp K hK => ?_) ?_
            · simp [KnownTill, Region.binds, VPl] at hp
              clear hT
              go_simp
              refine hK _ _ _ hC (Below.refl _ _) (by exact rfl) ?_
              first | (simp only [Act.put, List.setIfInBounds_toArray, List.set_cons_succ, List.set_cons_zero, hp]; done) | simp [Act.put, hp]
            refine AllOps.cons (fun x u hC hT hp K hK => ?_) ?_
            · simp [KnownTill, Region.binds, VPl] at hp
              clear hT
              go_simp
              refine hK _ _ _ hC (Below.refl _ _) (by exact rfl) ?_
              first | (simp only [Act.put, List.setIfInBounds_toArray, List.set_cons_succ, List.set_cons_zero, hp]; done) | simp [Act.put, hp]
            refine AllOps.cons (fun x u hC hT hp K hK => ?_) ?_
            · clear hp hT
              go_simp
              refine hK _ _ _ (Go.Proofs.YtfhfbekphmnbgaaDoor.bt hC (ba u (.cells #[.int .i64 0, .int .i64 0, .bool false, .int .i64 0, .bool false, .int .i64 0] 26))) (ba u (.cells #[.int .i64 0, .int .i64 0, .bool false, .int .i64 0, .bool false, .int .i64 0] 26)) ⟨u.heap.size, rfl, hC.size, Blk.new u _ _⟩ ?_
              first | (simp only [Act.put, List.setIfInBounds_toArray, List.set_cons_succ, List.set_cons_zero]; done) | simp [Act.put]
            refine AllOps.cons (fun x u hC hT hp K hK => ?_) ?_
            · simp [KnownTill, Region.binds, VPl] at hp
              clear hT
              obtain ⟨q, h15, hq, kz⟩ : NewAt u wr.heap.size 26 (x 15) #[.int .i64 0, .int .i64 0, .bool false, .int .i64 0, .bool false, .int .i64 0] := by first | exact hp.1 | exact hp.2.1 | exact hp.2.2 | exact hp
              have h13 : x 13 = (.agg #[.int .i64 z0, .int .i64 z1, .bool z2, .int .i64 z3, .bool z4, .int .i64 z5]) := by first | exact hp.2.1 | exact hp.1 | exact hp.2
              clear hp
              obtain ⟨sc0, sk0, sc1, sk1, sc2, sk2, sc3, sk3, sc4, sk4, sc5, sk5, sr0, sr1, sr2, sr3, sr4, sr5⟩ := kz.set6 (.int .i64 z0) (.int .i64 z1) (.bool z2) (.int .i64 z3) (.bool z4) (.int .i64 z5)
              have hbb := below_set6 (B := wr.heap.size) (w := wr) (g := q) hC hq (.int .i64 z0) (.int .i64 z1) (.bool z2) (.int .i64 z3) (.bool z4) (.int .i64 z5)
              have kf := ((((((kz.set_ 0 (.int .i64 z0)).set_ 1 (.int .i64 z1)).set_ 2 (.bool z2)).set_ 3 (.int .i64 z3)).set_ 4 (.bool z4)).set_ 5 (.int .i64 z5))
              simp only [List.setIfInBounds_toArray, List.set_cons_zero, List.set_cons_succ] at kf
              have KF := Lib.hid kf
              have HBB := Lib.hid hbb
              clear kf hbb kz
              go_simp
              refine hK undef _ _ HBB.out trivial ⟨q, h15, hq, KF.out⟩ ?_
              simp [Act.put, h15, h13]
            refine AllOps.cons (fun x u hC hT hp K hK => ?_) ?_
            · simp [KnownTill, Region.binds, VPl] at hp
              clear hT
              go_simp
              refine hK _ _ _ hC (Below.refl _ _) (by exact rfl) ?_
              first | (simp only [Act.put, List.setIfInBounds_toArray, List.set_cons_succ, List.set_cons_zero, hp]; done) | simp [Act.put, hp]
            exact AllOps.nil
          case finP8 =>
            intro x W8 hC hV
            obtain ⟨q8, e15, hq8, k8⟩ : NewAt W8 wr.heap.size 26 (x 15) #[.int .i64 z0, .int .i64 z1, .bool z2, .int .i64 z3, .bool z4, .int .i64 z5] := hV 16 (by decide) rfl
            have e17 : x 17 = .int .i64 E := hV 17 (by decide) rfl
            clear hV
            rw [e15, e17]
            clear e15 e17
            have hgc8 : gc ≠ q8 := by have := kc.lt; omega
            have hgx8 : gx ≠ q8 := by have := kx.lt; omega
            have q0_W8 := (hC.cell (p := ⟨b, o + k * 2, none⟩) hlt2).trans q0
            have q1_W8 := (hC.cell (p := ⟨b, o + k * 2 + 1, none⟩) hlt2).trans q1
            have hlt2_W8 : b < W8.heap.size := Nat.lt_of_lt_of_le hlt2 hC.size
            have kx_W8 := kx.below hC kx.lt
            have kc_W8 := kc.below hC kc.lt
            have hM_W8 := hM.bt hC
            have hbw_W8 := bt hbw hC
            clear q0 q1 hlt2 kx kc hM hbw
            have q0 := q0_W8
            have q1 := q1_W8
            have hlt2 := hlt2_W8
            have kx := kx_W8
            have kc := kc_W8
            have hM := hM_W8
            have hbw := hbw_W8
            clear q0_W8 q1_W8 hlt2_W8 kx_W8 kc_W8 hM_W8 hbw_W8
            clear hC hdo
            go_wp2_with fail
            refine wp_region_invX (F := ?FP9) (V := VPl (.agg #[.int .i64 l, .int .i64 s0, .int .i64 s1, .bool w0, .bool w1, .int .i64 t]) (.slice (some ⟨b, o, none⟩) m c0) (.tuple #[(.agg #[.int .i64 z0, .int .i64 z1, .int .i64 z3, .bool z2, .bool z4, .int .i64 z5]), .int .i64 E]) (.agg #[.int .i64 z0, .int .i64 z1, .int .i64 z3, .bool z2, .bool z4, .int .i64 z5]) k side verb E b (o + k * 2) W8.heap.size 33 #[.int .i64 0, .int .i64 0, .int .i64 0, .bool false, .bool false, .int .i64 0] #[.int .i64 z0, .int .i64 z1, .int .i64 z3, .bool z2, .bool z4, .int .i64 z5]) (par := fun i => if i = 16 then 15 else i) (dead := fun i => if i = 15 then some 16 else none) (T := fun _ _ => True) (C := fun u => Below W8.heap.size W8 u) (E := EPl) (by kernel_rfl) (by kernel_rfl) (by kernel_rfl) (fun x => ?hFP9) (fun i _ => by by_cases h : i = 16; (subst h; exact .inr (by kernel_rfl)); exact .inl (if_neg h)) ?hmonoP9 ?hTmP9 ?hTP9 ?hCP9 ?stepP9 ?finP9
            case hFP9 => simp only [mkA, Act.put, List.setIfInBounds_toArray, List.set_cons_succ, List.set_cons_zero, Nat.reduceAdd, Nat.zero_add]; first | with_reducible rfl | rfl
            case hmonoP9 => exact fun q i v p u u' he hik hwt hdd hv => VPl.mono he hik (fun hh => hdd (by rw [hh.1, hh.2]; rfl)) hv
            case hTmP9 => exact fun _ _ _ _ _ _ _ _ => trivial
            case hTP9 => exact fun j => trivial
            case hCP9 => exact (Below.refl _ _).drew
            case stepP9 =>
              refine AllOps.cons (fun x u hC hT hp K hK => ?_) ?_
              · clear hp hT
                have kq := kx.below hC kx.lt
                have ca0 := kq.cell 0
                have ca1 := kq.cell 1
                have ca2 := kq.cell 2
                have ca3 := kq.cell 3
                have ca4 := kq.cell 4
                have ca5 := kq.cell 5
                simp only [List.getElem?_toArray, List.getElem?_cons_zero, List.getElem?_cons_succ] at ca0 ca1 ca2 ca3 ca4 ca5
                go_simp
                refine hK _ _ _ hC (Below.refl _ _) (by exact rfl) ?_
                first | (simp only [Act.put, List.setIfInBounds_toArray, List.set_cons_succ, List.set_cons_zero]; done) | simp [Act.put]
              refine AllOps.cons (fun x u hC hT hp K hK => ?_) ?_
              · clear hp hT
                go_simp
                refine hK _ _ _ hC (Below.refl _ _) (by exact rfl) ?_
                first | (simp only [Act.put, List.setIfInBounds_toArray, List.set_cons_succ, List.set_cons_zero]; done) | simp [Act.put]
              refine AllOps.cons (fun x u hC hT hp K hK => ?_) ?_
              · clear hp hT
                go_simp
                refine hK _ _ _ hC (Below.refl _ _) (by exact rfl) ?_
                first | (simp only [Act.put, List.setIfInBounds_toArray, List.set_cons_succ, List.set_cons_zero]; done) | simp [Act.put]
              refine AllOps.cons (fun x u hC hT hp K hK => ?_) ?_
              · simp [KnownTill, Region.binds, VPl] at hp
                clear hT
                go_simp
                refine hK _ _ _ hC (Below.refl _ _) (by exact rfl) ?_
                first | (simp only [Act.put, List.setIfInBounds_toArray, List.set_cons_succ, List.set_cons_zero, hp]; done) | simp [Act.put, hp]
              refine AllOps.cons (fun x u hC hT hp K hK => ?_) ?_
              · simp [KnownTill, Region.binds, VPl] at hp
                clear hT
                go_simp
                refine hK _ _ _ hC (Below.refl _ _) (by exact rfl) ?_
                first | (simp only [Act.put, List.setIfInBounds_toArray, List.set_cons_succ, List.set_cons_zero, hp]; done) | simp [Act.put, hp]
              refine AllOps.cons (fun x u hC hT hp K hK => ?_) ?_
              · simp [KnownTill, Region.binds, VPl] at hp
                clear hT
                have cq := (hC.cell (p := ⟨b, o + k * 2, none⟩) hlt2).trans q0
                go_simp
                refine hK _ _ _ hC (Below.refl _ _) (by exact rfl) ?_
                first | (simp only [Act.put, List.setIfInBounds_toArray, List.set_cons_succ, List.set_cons_zero, hp]; done) | simp [Act.put, hp]
              refine AllOps.cons (fun x u hC hT hp K hK => ?_) ?_
              · clear hp hT
                go_simp
                refine hK _ _ _ hC (Below.refl _ _) (by exact rfl) ?_
                first | (simp only [Act.put, List.setIfInBounds_toArray, List.set_cons_succ, List.set_cons_zero]; done) | simp [Act.put]
              refine AllOps.cons (fun x u hC hT hp K hK => ?_) ?_
              · clear hp hT
                go_simp
                refine hK _ _ _ hC (Below.refl _ _) (by exact rfl) ?_
                first | (simp only [Act.put, List.setIfInBounds_toArray, List.set_cons_succ, List.set_cons_zero]; done) | simp [Act.put]
              refine AllOps.cons (fun x u hC hT hp K hK => ?_) ?_
              · simp [KnownTill, Region.binds, VPl] at hp
                clear hT
                go_simp
                refine hK _ _ _ hC (Below.refl _ _) (by exact rfl) ?_
                first | (simp only [Act.put, List.setIfInBounds_toArray, List.set_cons_succ, List.set_cons_zero, hp]; done) | simp [Act.put, hp]
              refine AllOps.cons (fun x u hC hT hp K hK => ?_) ?_
              · simp [KnownTill, Region.binds, VPl] at hp
                clear hT
                go_simp
                refine hK _ _ _ hC (Below.refl _ _) (by exact rfl) ?_
                first | (simp only [Act.put, List.setIfInBounds_toArray, List.set_cons_succ, List.set_cons_zero, hp]; done) | simp [Act.put, hp]
              refine AllOps.cons (fun x u hC hT hp K hK => ?_) ?_
              · simp [KnownTill, Region.binds, VPl] at hp
                clear hT
                have cq := (hC.cell (p := ⟨b, o + k * 2 + 1, none⟩) hlt2).trans q1
                go_simp
                refine hK _ _ _ hC (Below.refl _ _) (by exact rfl) ?_
                first | (simp only [Act.put, List.setIfInBounds_toArray, List.set_cons_succ, List.set_cons_zero, hp]; done) | simp [Act.put, hp]
              refine AllOps.cons (fun x u hC hT hp K hK => ?_) ?_
              · simp [KnownTill, Region.binds, VPl] at hp
                clear hT
                go_simp
                refine (hrdo u).mono ?_
                rintro e wA ⟨rfl, hbA⟩
                refine hK _ _ _ (Go.Proofs.YtfhfbekphmnbgaaDoor.bt hC hbA) hbA (by exact rfl) ?_
                first | (simp only [Act.put, List.setIfInBounds_toArray, List.set_cons_succ, List.set_cons_zero, hp]; done) | simp [Act.put, hp]
              refine AllOps.cons (fun x u hC hT hp K hK => ?_) ?_
              · simp [KnownTill, Region.binds, VPl] at hp
                clear hT
                go_simp
                refine hK _ _ _ hC (Below.refl _ _) (by exact rfl) ?_
                first | (simp only [Act.put, List.setIfInBounds_toArray, List.set_cons_succ, List.set_cons_zero, hp]; done) | simp [Act.put, hp]
              refine AllOps.cons (fun x u hC hT hp K hK => ?_) ?_
              · simp [KnownTill, Region.binds, VPl] at hp
                clear hT
                go_simp
                refine hK _ _ _ hC (Below.refl _ _) (by exact rfl) ?_
                first | (simp only [Act.put, List.setIfInBounds_toArray, List.set_cons_succ, List.set_cons_zero, hp]; done) | simp [Act.put, hp]
              refine AllOps.cons (fun x u hC hT hp K hK => ?_) ?_
              · simp [KnownTill, Region.binds, VPl] at hp
                clear hT
                go_simp
                refine hK _ _ _ hC (Below.refl _ _) (by exact rfl) ?_
                first | (simp only [Act.put, List.setIfInBounds_toArray, List.set_cons_succ, List.set_cons_zero, hp]; done) | simp [Act.put, hp]
              refine AllOps.cons (fun x u hC hT hp K hK => ?_) ?_
              · clear hp hT
                go_simp
                refine hK _ _ _ (Go.Proofs.YtfhfbekphmnbgaaDoor.bt hC (ba u (.cells #[.int .i64 0, .int .i64 0, .int .i64 0, .bool false, .bool false, .int .i64 0] 33))) (ba u (.cells #[.int .i64 0, .int .i64 0, .int .i64 0, .bool false, .bool false, .int .i64 0] 33)) ⟨u.heap.size, rfl, hC.size, Blk.new u _ _⟩ ?_
                first | (simp only [Act.put, List.setIfInBounds_toArray, List.set_cons_succ, List.set_cons_zero]; done) | simp [Act.put]
              refine AllOps.cons (fun x u hC hT hp K hK => ?_) ?_
              · simp [KnownTill, Region.binds, VPl] at hp
                clear hT
                obtain ⟨q, h15, hq, kz⟩ : NewAt u W8.heap.size 33 (x 15) #[.int .i64 0, .int .i64 0, .int .i64 0, .bool false, .bool false, .int .i64 0] := by first | exact hp.1 | exact hp.2.1 | exact hp.2.2 | exact hp
                have h13 : x 13 = (.agg #[.int .i64 z0, .int .i64 z1, .int .i64 z3, .bool z2, .bool z4, .int .i64 z5]) := by first | exact hp.2.1 | exact hp.1 | exact hp.2
                clear hp
                obtain ⟨sc0, sk0, sc1, sk1, sc2, sk2, sc3, sk3, sc4, sk4, sc5, sk5, sr0, sr1, sr2, sr3, sr4, sr5⟩ := kz.set6 (.int .i64 z0) (.int .i64 z1) (.int .i64 z3) (.bool z2) (.bool z4) (.int .i64 z5)
                have hbb := below_set6 (B := W8.heap.size) (w := W8) (g := q) hC hq (.int .i64 z0) (.int .i64 z1) (.int .i64 z3) (.bool z2) (.bool z4) (.int .i64 z5)
                have kf := ((((((kz.set_ 0 (.int .i64 z0)).set_ 1 (.int .i64 z1)).set_ 2 (.int .i64 z3)).set_ 3 (.bool z2)).set_ 4 (.bool z4)).set_ 5 (.int .i64 z5))
                simp only [List.setIfInBounds_toArray, List.set_cons_zero, List.set_cons_succ] at kf
                have KF := Lib.hid kf
                have HBB := Lib.hid hbb
                clear kf hbb kz
                go_simp
                refine hK undef _ _ HBB.out trivial ⟨q, h15, hq, KF.out⟩ ?_
                simp [Act.put, h15, h13]
              refine AllOps.cons (fun x u hC hT hp K hK => ?_) ?_
              · simp [KnownTill, Region.binds, VPl] at hp
                clear hT
                go_simp
                refine hK _ _ _ hC (Below.refl _ _) (by exact rfl) ?_
                first | (simp only [Act.put, List.setIfInBounds_toArray, List.set_cons_succ, List.set_cons_zero, hp]; done) | simp [Act.put, hp]
              exact AllOps.nil
            case finP9 =>
              intro x W9 hC hV
              obtain ⟨q9, e15, hq9, k9⟩ : NewAt W9 W8.heap.size 33 (x 15) #[.int .i64 z0, .int .i64 z1, .int .i64 z3, .bool z2, .bool z4, .int .i64 z5] := hV 16 (by decide) rfl
              have e17 : x 17 = .int .i64 E := hV 17 (by decide) rfl
              clear hV
              rw [e15, e17]
              clear e15 e17
              have hgc9 : gc ≠ q9 := by have := kc.lt; omega
              have hgx9 : gx ≠ q9 := by have := kx.lt; omega
              have k8_9 := k8.below hC k8.lt
              have q0_W9 := (hC.cell (p := ⟨b, o + k * 2, none⟩) hlt2).trans q0
              have q1_W9 := (hC.cell (p := ⟨b, o + k * 2 + 1, none⟩) hlt2).trans q1
              have hlt2_W9 : b < W9.heap.size := Nat.lt_of_lt_of_le hlt2 hC.size
              have kx_W9 := kx.below hC kx.lt
              have kc_W9 := kc.below hC kc.lt
              have hM_W9 := hM.bt hC
              have hbw_W9 := bt hbw hC
              clear q0 q1 hlt2 kx kc hM hbw
              have q0 := q0_W9
              have q1 := q1_W9
              have hlt2 := hlt2_W9
              have kx := kx_W9
              have kc := kc_W9
              have hM := hM_W9
              have hbw := hbw_W9
              clear q0_W9 q1_W9 hlt2_W9 kx_W9 kc_W9 hM_W9 hbw_W9
              clear hC hrdo k8
              by_cases hE0 : E = 0
              · subst hE0
                go_wp2_with fail
                refine wp_region_invT (F := ?FS) (V := VSt (.agg #[.int .i64 z0, .int .i64 z1, .bool z2, .int .i64 z3, .bool z4, .int .i64 z5]) (.agg #[.int .i64 z0, .int .i64 z1, .int .i64 z3, .bool z2, .bool z4, .int .i64 z5]) gc gx 26 33 #[.int .i64 z0, .int .i64 z1, .bool z2, .int .i64 z3, .bool z4, .int .i64 z5] #[.int .i64 z0, .int .i64 z1, .int .i64 z3, .bool z2, .bool z4, .int .i64 z5]) (dead := fun _ => none) (T := TSt gc gx 26 33 #[.int .i64 l, .int .i64 s0, .bool w0, .int .i64 s1, .bool w1, .int .i64 t] #[.int .i64 l, .int .i64 s0, .int .i64 s1, .bool w0, .bool w1, .int .i64 t]) (C := fun u => (Blk u q8 26 #[.int .i64 z0, .int .i64 z1, .bool z2, .int .i64 z3, .bool z4, .int .i64 z5] ∧ Blk u q9 33 #[.int .i64 z0, .int .i64 z1, .int .i64 z3, .bool z2, .bool z4, .int .i64 z5]) ∧ Below w.heap.size w u) (E := ESt gc gx) (by kernel_rfl) (by kernel_rfl) (by kernel_rfl) (fun x => ?hFS) ?hmonoS ?hTmS ?hTS ?hCS ?stepS ?finS
                case hFS => simp only [mkA, Act.put, List.setIfInBounds_toArray, List.set_cons_succ, List.set_cons_zero, Nat.reduceAdd, Nat.zero_add]; first | with_reducible rfl | rfl
                case hmonoS => exact fun q i v u u' he hik hwt hdd hv => VSt.mono hgcx he hik hv
                case hTmS => exact fun q j u u' he hkj hwt hv => TSt.mono hgcx he hkj hv
                case hTS => exact fun j => by unfold TSt; split <;> first | exact kc | exact kx | trivial
                case hCS => exact ⟨⟨k8_9, k9⟩, bt hbw (below_drew _)⟩
                case stepS =>
                  refine AllOps.cons (fun x u hC hT hp K hK => ?_) ?_
                  · clear hp hT
                    have ca0 := (hC.1.1).cell 0
                    have ca1 := (hC.1.1).cell 1
                    have ca2 := (hC.1.1).cell 2
                    have ca3 := (hC.1.1).cell 3
                    have ca4 := (hC.1.1).cell 4
                    have ca5 := (hC.1.1).cell 5
                    simp only [List.getElem?_toArray, List.getElem?_cons_zero, List.getElem?_cons_succ] at ca0 ca1 ca2 ca3 ca4 ca5
                    go_simp
                    refine hK _ _ _ hC rfl (by exact rfl) ?_
                    first | (simp only [Act.put, List.setIfInBounds_toArray, List.set_cons_succ, List.set_cons_zero]; done) | simp [Act.put]
                  refine AllOps.cons (fun x u hC hT hp K hK => ?_) ?_
                  · clear hp hT
                    have ca0 := (hC.1.2).cell 0
                    have ca1 := (hC.1.2).cell 1
                    have ca2 := (hC.1.2).cell 2
                    have ca3 := (hC.1.2).cell 3
                    have ca4 := (hC.1.2).cell 4
                    have ca5 := (hC.1.2).cell 5
                    simp only [List.getElem?_toArray, List.getElem?_cons_zero, List.getElem?_cons_succ] at ca0 ca1 ca2 ca3 ca4 ca5
                    go_simp
                    refine hK _ _ _ hC rfl (by exact rfl) ?_
                    first | (simp only [Act.put, List.setIfInBounds_toArray, List.set_cons_succ, List.set_cons_zero]; done) | simp [Act.put]
                  refine AllOps.cons (fun x u hC hT hp K hK => ?_) ?_
                  · simp [KnownTill, Region.binds, VSt] at hp
                    have kz : Blk u gc 26 #[.int .i64 l, .int .i64 s0, .bool w0, .int .i64 s1, .bool w1, .int .i64 t] := hT
                    have hv0 : x 0 = (.agg #[.int .i64 z0, .int .i64 z1, .bool z2, .int .i64 z3, .bool z4, .int .i64 z5]) := by first | exact hp | exact hp.1 | exact hp.2 | exact hp.2.1 | exact hp.2.2
                    clear hp hT
                    obtain ⟨sc0, sk0, sc1, sk1, sc2, sk2, sc3, sk3, sc4, sk4, sc5, sk5, sr0, sr1, sr2, sr3, sr4, sr5⟩ := kz.set6 (.int .i64 z0) (.int .i64 z1) (.bool z2) (.int .i64 z3) (.bool z4) (.int .i64 z5)
                    have kf := ((((((kz.set_ 0 (.int .i64 z0)).set_ 1 (.int .i64 z1)).set_ 2 (.bool z2)).set_ 3 (.int .i64 z3)).set_ 4 (.bool z4)).set_ 5 (.int .i64 z5))
                    simp only [List.setIfInBounds_toArray, List.set_cons_zero, List.set_cons_succ] at kf
                    have hc8 := hC.1.1.far6 hgc8.symm (.int .i64 z0) (.int .i64 z1) (.bool z2) (.int .i64 z3) (.bool z4) (.int .i64 z5)
                    have hc9 := hC.1.2.far6 hgc9.symm (.int .i64 z0) (.int .i64 z1) (.bool z2) (.int .i64 z3) (.bool z4) (.int .i64 z5)
                    have hbb := below_set6 (B := w.heap.size) (w := w) (g := gc) hC.2 hgc (.int .i64 z0) (.int .i64 z1) (.bool z2) (.int .i64 z3) (.bool z4) (.int .i64 z5)
                    have hfe : FarE gc u _ := fun g T cs hne hb => hb.far6 hne (.int .i64 z0) (.int .i64 z1) (.bool z2) (.int .i64 z3) (.bool z4) (.int .i64 z5)
                    have KF := Lib.hid kf
                    have HC8 := Lib.hid hc8
                    have HC9 := Lib.hid hc9
                    have HBB := Lib.hid hbb
                    have HFE := Lib.hid hfe
                    clear kf hc8 hc9 hbb hfe kz hC
                    go_simp
                    refine hK undef _ _ ⟨⟨HC8.out, HC9.out⟩, HBB.out⟩ HFE.out KF.out ?_
                    simp [Act.put, hv0]
                  refine AllOps.cons (fun x u hC hT hp K hK => ?_) ?_
                  · simp [KnownTill, Region.binds, VSt] at hp
                    have kz : Blk u gx 33 #[.int .i64 l, .int .i64 s0, .int .i64 s1, .bool w0, .bool w1, .int .i64 t] := hT
                    have hv1 : x 1 = (.agg #[.int .i64 z0, .int .i64 z1, .int .i64 z3, .bool z2, .bool z4, .int .i64 z5]) := by first | exact hp | exact hp.1 | exact hp.2 | exact hp.2.1 | exact hp.2.2
                    clear hp hT
                    obtain ⟨sc0, sk0, sc1, sk1, sc2, sk2, sc3, sk3, sc4, sk4, sc5, sk5, sr0, sr1, sr2, sr3, sr4, sr5⟩ := kz.set6 (.int .i64 z0) (.int .i64 z1) (.int .i64 z3) (.bool z2) (.bool z4) (.int .i64 z5)
                    have kf := ((((((kz.set_ 0 (.int .i64 z0)).set_ 1 (.int .i64 z1)).set_ 2 (.int .i64 z3)).set_ 3 (.bool z2)).set_ 4 (.bool z4)).set_ 5 (.int .i64 z5))
                    simp only [List.setIfInBounds_toArray, List.set_cons_zero, List.set_cons_succ] at kf
                    have hc8 := hC.1.1.far6 hgx8.symm (.int .i64 z0) (.int .i64 z1) (.int .i64 z3) (.bool z2) (.bool z4) (.int .i64 z5)
                    have hc9 := hC.1.2.far6 hgx9.symm (.int .i64 z0) (.int .i64 z1) (.int .i64 z3) (.bool z2) (.bool z4) (.int .i64 z5)
                    have hbb := below_set6 (B := w.heap.size) (w := w) (g := gx) hC.2 hgx (.int .i64 z0) (.int .i64 z1) (.int .i64 z3) (.bool z2) (.bool z4) (.int .i64 z5)
                    have hfe : FarE gx u _ := fun g T cs hne hb => hb.far6 hne (.int .i64 z0) (.int .i64 z1) (.int .i64 z3) (.bool z2) (.bool z4) (.int .i64 z5)
                    have KF := Lib.hid kf
                    have HC8 := Lib.hid hc8
                    have HC9 := Lib.hid hc9
                    have HBB := Lib.hid hbb
                    have HFE := Lib.hid hfe
                    clear kf hc8 hc9 hbb hfe kz hC
                    go_simp
                    refine hK undef _ _ ⟨⟨HC8.out, HC9.out⟩, HBB.out⟩ HFE.out KF.out ?_
                    simp [Act.put, hv1]
                  exact AllOps.nil
                case finS =>
                  intro x u hC hV
                  have kcF : Blk u gc 26 #[.int .i64 z0, .int .i64 z1, .bool z2, .int .i64 z3, .bool z4, .int .i64 z5] := hV 2 (by decide) rfl
                  have kxF : Blk u gx 33 #[.int .i64 z0, .int .i64 z1, .int .i64 z3, .bool z2, .bool z4, .int .i64 z5] := hV 3 (by decide) rfl
                  have hbF := hC.2
                  clear hV hC k8_9 k9 kc kx hM hbw
                  have hasF := fun w => as_any z0 z1 z2 z3 z4 z5 w
                  have heeF := neR z0 z1 z3 z2 z4 z5
                  go_wp2_with fail
                  refine wp_region_invT (F := ?FA1) (V := VAs (.agg #[.int .i64 z0, .int .i64 z1, .bool z2, .int .i64 z3, .bool z4, .int .i64 z5]) (.agg #[.int .i64 z0, .int .i64 z1, .int .i64 z3, .bool z2, .bool z4, .int .i64 z5])) (dead := fun _ => none) (T := fun _ _ => True) (C := fun u => (Blk u gc 26 #[.int .i64 z0, .int .i64 z1, .bool z2, .int .i64 z3, .bool z4, .int .i64 z5] ∧ Blk u gx 33 #[.int .i64 z0, .int .i64 z1, .int .i64 z3, .bool z2, .bool z4, .int .i64 z5]) ∧ Below w.heap.size w u) (E := fun _ _ _ => True) (by kernel_rfl) (by kernel_rfl) (by kernel_rfl) (fun x => ?hFA1) ?hmonoA1 ?hTmA1 ?hTA1 ?hCA1 ?stepA1 ?finA1
                  case hFA1 => simp only [mkA, Act.put, List.setIfInBounds_toArray, List.set_cons_succ, List.set_cons_zero, Nat.reduceAdd, Nat.zero_add]; first | with_reducible rfl | rfl
                  case hmonoA1 => exact fun q i v u u' he hik hwt hdd hv => by unfold VAs at hv ⊢; split at hv <;> exact hv
                  case hTmA1 => exact fun _ _ _ _ _ _ _ _ => trivial
                  case hTA1 => exact fun j => trivial
                  case hCA1 => exact ⟨⟨kcF, kxF⟩, bt hbF (below_drew _)⟩
                  case stepA1 =>
                    refine AllOps.cons (fun x u hC hT hp K hK => ?_) ?_
                    · clear hp hT
                      have ca0 := (hC.1.1).cell 0
                      have ca1 := (hC.1.1).cell 1
                      have ca2 := (hC.1.1).cell 2
                      have ca3 := (hC.1.1).cell 3
                      have ca4 := (hC.1.1).cell 4
                      have ca5 := (hC.1.1).cell 5
                      simp only [List.getElem?_toArray, List.getElem?_cons_zero, List.getElem?_cons_succ] at ca0 ca1 ca2 ca3 ca4 ca5
                      go_simp
                      refine hK _ _ _ hC trivial (by exact rfl) ?_
                      first | (simp only [Act.put, List.setIfInBounds_toArray, List.set_cons_succ, List.set_cons_zero]; done) | simp [Act.put]
                    refine AllOps.cons (fun x u hC hT hp K hK => ?_) ?_
                    · simp [KnownTill, Region.binds, VAs] at hp
                      clear hT
                      go_simp
                      refine (hasF u).mono ?_
                      rintro e wA ⟨rfl, hbu⟩
                      refine hK _ _ _ ⟨⟨hC.1.1.below hbu hC.1.1.lt, hC.1.2.below hbu hC.1.2.lt⟩, bt hC.2 hbu⟩ trivial (by exact rfl) ?_
                      first | (simp only [Act.put, List.setIfInBounds_toArray, List.set_cons_succ, List.set_cons_zero, hp]; done) | simp [Act.put, hp]
                    refine AllOps.cons (fun x u hC hT hp K hK => ?_) ?_
                    · clear hp hT
                      have ca0 := (hC.1.2).cell 0
                      have ca1 := (hC.1.2).cell 1
                      have ca2 := (hC.1.2).cell 2
                      have ca3 := (hC.1.2).cell 3
                      have ca4 := (hC.1.2).cell 4
                      have ca5 := (hC.1.2).cell 5
                      simp only [List.getElem?_toArray, List.getElem?_cons_zero, List.getElem?_cons_succ] at ca0 ca1 ca2 ca3 ca4 ca5
                      go_simp
                      refine hK _ _ _ hC trivial (by exact rfl) ?_
                      first | (simp only [Act.put, List.setIfInBounds_toArray, List.set_cons_succ, List.set_cons_zero]; done) | simp [Act.put]
                    refine AllOps.cons (fun x u hC hT hp K hK => ?_) ?_
                    · simp [KnownTill, Region.binds, VAs] at hp
                      clear hT
                      go_simp
                      refine hK _ _ _ hC trivial (by exact rfl) ?_
                      first | (simp only [Act.put, List.setIfInBounds_toArray, List.set_cons_succ, List.set_cons_zero, hp]; done) | simp [Act.put, hp]
                    exact AllOps.nil
                  case finA1 =>
                    intro x u hC hV
                    have e3 : x 3 = .bool false := hV 3 (by decide) rfl
                    rw [e3]
                    clear hV e3
                    obtain ⟨⟨kcG, kxG⟩, hbG⟩ := hC
                    have hMG := hM0.bt hbG
                    clear kcF kxF hbF hasF heeF
                    go_wp2
                    go_roundw
                    case rel => exact ⟨k + 1, z0, z1, z3, z5, z2, z4, by omega, by omega, by first | go_num | simp, kcG, kxG, hMG, hbG⟩
                    case measure => simp [intOf]; omega
              · have hEb : (E == 0) = false := beq_eq_false_iff_ne.2 hE0
                have kcF := kc
                have kxF := kx
                have hbF := hbw
                clear kc kx hM hbw k8_9 k9
                have hasF := fun w => as_any l s0 w0 s1 w1 t w
                have heeF := neR l s0 s1 w0 w1 t
                go_wp2_with fail
                refine wp_region_invT (F := ?FA2) (V := VAs (.agg #[.int .i64 l, .int .i64 s0, .bool w0, .int .i64 s1, .bool w1, .int .i64 t]) (.agg #[.int .i64 l, .int .i64 s0, .int .i64 s1, .bool w0, .bool w1, .int .i64 t])) (dead := fun _ => none) (T := fun _ _ => True) (C := fun u => (Blk u gc 26 #[.int .i64 l, .int .i64 s0, .bool w0, .int .i64 s1, .bool w1, .int .i64 t] ∧ Blk u gx 33 #[.int .i64 l, .int .i64 s0, .int .i64 s1, .bool w0, .bool w1, .int .i64 t]) ∧ Below w.heap.size w u) (E := fun _ _ _ => True) (by kernel_rfl) (by kernel_rfl) (by kernel_rfl) (fun x => ?hFA2) ?hmonoA2 ?hTmA2 ?hTA2 ?hCA2 ?stepA2 ?finA2
                case hFA2 => simp only [mkA, Act.put, List.setIfInBounds_toArray, List.set_cons_succ, List.set_cons_zero, Nat.reduceAdd, Nat.zero_add]; first | with_reducible rfl | rfl
                case hmonoA2 => exact fun q i v u u' he hik hwt hdd hv => by unfold VAs at hv ⊢; split at hv <;> exact hv
                case hTmA2 => exact fun _ _ _ _ _ _ _ _ => trivial
                case hTA2 => exact fun j => trivial
                case hCA2 => exact ⟨⟨kcF, kxF⟩, bt hbF (below_drew _)⟩
                case stepA2 =>
                  refine AllOps.cons (fun x u hC hT hp K hK => ?_) ?_
                  · clear hp hT
                    have ca0 := (hC.1.1).cell 0
                    have ca1 := (hC.1.1).cell 1
                    have ca2 := (hC.1.1).cell 2
                    have ca3 := (hC.1.1).cell 3
                    have ca4 := (hC.1.1).cell 4
                    have ca5 := (hC.1.1).cell 5
                    simp only [List.getElem?_toArray, List.getElem?_cons_zero, List.getElem?_cons_succ] at ca0 ca1 ca2 ca3 ca4 ca5
                    go_simp
                    refine hK _ _ _ hC trivial (by exact rfl) ?_
                    first | (simp only [Act.put, List.setIfInBounds_toArray, List.set_cons_succ, List.set_cons_zero]; done) | simp [Act.put]
                  refine AllOps.cons (fun x u hC hT hp K hK => ?_) ?_
                  · simp [KnownTill, Region.binds, VAs] at hp
                    clear hT
                    go_simp
                    refine (hasF u).mono ?_
                    rintro e wA ⟨rfl, hbu⟩
                    refine hK _ _ _ ⟨⟨hC.1.1.below hbu hC.1.1.lt, hC.1.2.below hbu hC.1.2.lt⟩, bt hC.2 hbu⟩ trivial (by exact rfl) ?_
                    first | (simp only [Act.put, List.setIfInBounds_toArray, List.set_cons_succ, List.set_cons_zero, hp]; done) | simp [Act.put, hp]
                  refine AllOps.cons (fun x u hC hT hp K hK => ?_) ?_
                  · clear hp hT
                    have ca0 := (hC.1.2).cell 0
                    have ca1 := (hC.1.2).cell 1
                    have ca2 := (hC.1.2).cell 2
                    have ca3 := (hC.1.2).cell 3
                    have ca4 := (hC.1.2).cell 4
                    have ca5 := (hC.1.2).cell 5
                    simp only [List.getElem?_toArray, List.getElem?_cons_zero, List.getElem?_cons_succ] at ca0 ca1 ca2 ca3 ca4 ca5
                    go_simp
                    refine hK _ _ _ hC trivial (by exact rfl) ?_
                    first | (simp only [Act.put, List.setIfInBounds_toArray, List.set_cons_succ, List.set_cons_zero]; done) | simp [Act.put]
                  refine AllOps.cons (fun x u hC hT hp K hK => ?_) ?_
                  · simp [KnownTill, Region.binds, VAs] at hp
                    clear hT
                    go_simp
                    refine hK _ _ _ hC trivial (by exact rfl) ?_
                    first | (simp only [Act.put, List.setIfInBounds_toArray, List.set_cons_succ, List.set_cons_zero, hp]; done) | simp [Act.put, hp]
                  exact AllOps.nil
                case finA2 =>
                  intro x u hC hV
                  have e3 : x 3 = .bool false := hV 3 (by decide) rfl
                  rw [e3]
                  clear hV e3
                  obtain ⟨⟨kcG, kxG⟩, hbG⟩ := hC
                  have hMG := hM0.bt hbG
                  clear kcF kxF hbF hasF heeF
                  go_wp2
                  go_roundw
                  case rel => exact ⟨k + 1, l, s0, s1, t, w0, w1, by omega, by omega, by first | go_num | simp, kcG, kxG, hMG, hbG⟩
                  case measure => simp [intOf]; omega
        · have hk2I : ¬ (k : Int) < 200 := by omega
          go_wp2_with fail
          refine (alive_any _ hM).mono ?_
          rintro e wz ⟨rfl, hbz⟩
          go_wp2
          go_ret
          exact ⟨rfl, bt hbw hbz⟩
      · have hkI : ¬ (k : Int) < (m : Int) := by omega
        go_wp2_with fail
        refine (alive_any _ hM).mono ?_
        rintro e wz ⟨rfl, hbz⟩
        go_wp2
        go_ret
        exact ⟨rfl, bt hbw hbz⟩
  · have hEb : (E != 0) = true := bne_iff_ne.2 hE
    go_wp2_with fail
    refine (alive_any _ M2).mono ?_
    rintro e wz ⟨rfl, hbz⟩
    go_wp2
    go_ret
    exact ⟨rfl, bt hb2 hbz⟩

end Go.Proofs.YtfhfbekphmnbgaaDoor
