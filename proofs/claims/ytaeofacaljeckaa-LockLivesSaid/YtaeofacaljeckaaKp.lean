/- Layer 12: the law that what is refused changes nothing. -/
import Derived.Test.YtaeofacaljeckaaKo
namespace Go.Proofs.Ytaeofacaljeckaa
open Go.RowKit Go.Maps
set_option linter.unusedVariables false
set_option linter.unusedSimpArgs false

theorem Tab.apart {w w' : World} {g g2 : Nat} {L L2 : List LRow} (h : Tab w g2 L2) (hg : w.grownBy w' (some g)) (hk : Tab w g L) (hne : g2 ≠ g) : Tab w' g2 L2 := by
  obtain ⟨m, hb, hs⟩ := h.src
  obtain ⟨m', hb', _⟩ := hk.src
  exact Tab.of_src h.len (hb.kept hg (fun e => hne (by injection e))) (hs.kept hg hb')
def IsN (w : World) (n : Nat) (xs : List Int) (v : Value) : Prop := ∃ A c, v = .slice A n c ∧ IsAt w A xs
theorem IsN.below {w w' : World} {n : Nat} {xs : List Int} {v : Value} (h : IsN w n xs v) (hb : Below w.heap.size w w') : IsN w' n xs v := by
  obtain ⟨A, c, e, h⟩ := h; exact ⟨A, c, e, h.below hb⟩
theorem HeldKs.ok {L : List LRow} {o : Int} {ys : List Int} (h : HeldKs L o ys) (hL : LOk L) : ∀ z ∈ ys, -9223372036854775808 ≤ z ∧ z ≤ 9223372036854775807 := fun z hz => by
  obtain ⟨x, hx, h1, _⟩ := held_iff.1 ((h.mem z).1 hz)
  rw [← h1]; exact (hL.ok x hx).1
/-- Held, the keys named. -/
theorem held_is (g : Nat) (L : List LRow) (o : Int) (ys : List Int) (n : Nat) (hn : n = ys.length) (w : World) (h : Tab w g L) (hy : HeldKs L o ys) :
    Calls Try.prog 17 #[.pointer (some ⟨g, 0, none⟩), .int .i64 o] w fun e w' => ∃ v, e = .returned v ∧ IsN w' n ys v ∧ Below w.heap.size w w' := by
  have hok := h.ok
  refine (held_any g L o w h).mono ?_
  rintro e w' ⟨A, c, zs, rfl, hE, hK, hB⟩
  obtain rfl := hK.same hy
  exact ⟨_, rfl, ⟨A, c, by rw [hn], hE.is (hK.ok hok)⟩, hB⟩
/-- What an owner holds, as a list: there is one. -/
theorem heldKs_ex (L : List LRow) (hL : LOk L) (o : Int) : ∃ ys, HeldKs L o ys := by
  obtain ⟨l, hl⟩ : ∃ l, l = (L.filter fun x => decide (x.2.1 = o)).map (·.1) := ⟨_, rfl⟩
  have hnd : l.Nodup := by
    rw [hl]
    refine List.pairwise_map.2 ((hL.dis.filter _).imp_of_mem fun {a b} ha hb h e => h ⟨e, ?_⟩)
    have h1 := of_decide_eq_true (List.mem_filter.1 ha).2
    have h2 := of_decide_eq_true (List.mem_filter.1 hb).2
    rw [h1, h2]
  have hp := List.mergeSort_perm l fun x y => decide (x ≤ y)
  have hs := List.pairwise_mergeSort (le := fun x y : Int => decide (x ≤ y)) (by intro a b c; simp; omega) (by intro a b; simp; omega) l
  refine ⟨_, ((hs.and (hp.nodup_iff.2 hnd)).imp fun {a b} hab => ?_), fun k => ?_⟩
  · have := of_decide_eq_true hab.1
    have := hab.2
    omega
  · rw [hp.mem_iff, hl, held_iff, List.mem_map]
    constructor
    · rintro ⟨x, hx, e⟩
      have := List.mem_filter.1 hx
      exact ⟨x, this.1, e, of_decide_eq_true this.2⟩
    · rintro ⟨x, hx, e1, e2⟩
      exact ⟨x, List.mem_filter.2 ⟨hx, decide_eq_true e2⟩, e1⟩
theorem refuse_facts {L L' : List LRow} {o k r : Int} {a : Bool} (h : takeL L o k a = (r, L')) (hr : r = 0) : heldL L' k o = true ∧ (a = true → aloneL L' k o = true) := by
  obtain ⟨hc, rfl⟩ := take_ok h hr
  refine ⟨held_iff.2 ⟨_, put_new L k o _, rfl, rfl⟩, fun ha => alone_iff.2 ⟨_, put_new L k o _, rfl, rfl, ?_⟩⟩
  subst ha
  exact Bool.or_true _

def VRf120 (g g2 bq nl nk : Nat) (ok oo oy : Int) (oa hd al : Bool) (ys : List Int) (i : Nat) (v : Value) (w : World) : Prop :=
  match i with
  | 0 => v = .bool true
  | 1 => v = .bool true
  | 2 => v = .int .i64 120
  | 3 => v = .bool true
  | 4 => v = .bool true
  | 5 => v = undef
  | 6 => v = undef
  | 7 => v = undef
  | 8 => v = undef
  | 9 => v = undef
  | 10 => v = undef
  | 11 => v = undef
  | 12 => v = .bool true
  | 13 => v = .bool true
  | 14 => v = .bool true
  | 15 => v = .bool hd
  | 16 => v = .bool hd
  | 17 => v = .bool true
  | 18 => v = .bool true
  | 19 => v = .bool true
  | 20 => v = .bool al
  | 21 => v = .bool al
  | 22 => v = .bool true
  | 23 => v = .bool true
  | 24 => v = .bool true
  | 25 => v = .pointer (some ⟨g, 0, none⟩)
  | 26 => v = .int .i64 nl
  | 27 => v = .pointer (some ⟨g2, 0, none⟩)
  | 28 => v = .int .i64 nl
  | 29 => v = .bool true
  | 30 => v = .bool true
  | 31 => v = .bool true
  | 32 => v = .pointer (some ⟨g, 0, none⟩)
  | 33 => v = .pointer (some ⟨bq, 1, none⟩)
  | 34 => v = .int .i64 oo
  | 35 => IsN w nk ys v
  | 36 => v = .pointer (some ⟨g2, 0, none⟩)
  | 37 => v = .pointer (some ⟨bq, 1, none⟩)
  | 38 => v = .int .i64 oo
  | 39 => IsN w nk ys v
  | 40 => v = .bool true
  | 41 => v = .bool true
  | 42 => v = .bool true
  | _ => True
theorem VRf120.mono {g g2 bq nl nk : Nat} {ok oo oy : Int} {oa hd al : Bool} {ys : List Int} {q i : Nat} {v : Value} {u u' : World} (he : Below u.heap.size u u') (h : VRf120 g g2 bq nl nk ok oo oy oa hd al ys i v u) : VRf120 g g2 bq nl nk ok oo oy oa hd al ys i v u' := by
  unfold VRf120 at h ⊢
  split at h <;> first | with_reducible exact h | exact IsN.below h he

def VRf5 (g g2 bq nl nk : Nat) (ok oo oy : Int) (oa hd al : Bool) (ys : List Int) (i : Nat) (v : Value) (w : World) : Prop :=
  match i with
  | 0 => v = .bool true
  | 1 => v = .bool true
  | 2 => v = .int .i64 5
  | 3 => v = .bool false
  | 4 => v = .bool false
  | 5 => v = .int .i64 5
  | 6 => v = .bool true
  | 7 => v = .bool true
  | 8 => v = .pointer (some ⟨g, 0, none⟩)
  | 9 => v = .int .i64 nl
  | 10 => v = .bool true
  | 11 => v = .bool true
  | 12 => v = .bool true
  | 13 => v = .bool true
  | 14 => v = .bool true
  | 15 => v = .bool hd
  | 16 => v = .bool hd
  | 17 => v = .bool true
  | 18 => v = .bool true
  | 19 => v = .bool true
  | 20 => v = .bool al
  | 21 => v = .bool al
  | 22 => v = .bool true
  | 23 => v = .bool true
  | 24 => v = .bool true
  | 25 => v = .pointer (some ⟨g, 0, none⟩)
  | 26 => v = .int .i64 nl
  | 27 => v = .pointer (some ⟨g2, 0, none⟩)
  | 28 => v = .int .i64 nl
  | 29 => v = .bool true
  | 30 => v = .bool true
  | 31 => v = .bool true
  | 32 => v = .pointer (some ⟨g, 0, none⟩)
  | 33 => v = .pointer (some ⟨bq, 1, none⟩)
  | 34 => v = .int .i64 oo
  | 35 => IsN w nk ys v
  | 36 => v = .pointer (some ⟨g2, 0, none⟩)
  | 37 => v = .pointer (some ⟨bq, 1, none⟩)
  | 38 => v = .int .i64 oo
  | 39 => IsN w nk ys v
  | 40 => v = .bool true
  | 41 => v = .bool true
  | 42 => v = .bool true
  | _ => True
theorem VRf5.mono {g g2 bq nl nk : Nat} {ok oo oy : Int} {oa hd al : Bool} {ys : List Int} {q i : Nat} {v : Value} {u u' : World} (he : Below u.heap.size u u') (h : VRf5 g g2 bq nl nk ok oo oy oa hd al ys i v u) : VRf5 g g2 bq nl nk ok oo oy oa hd al ys i v u' := by
  unfold VRf5 at h ⊢
  split at h <;> first | with_reducible exact h | exact IsN.below h he

set_option maxRecDepth 100000 in
set_option maxHeartbeats 4000000 in
theorem lockRefuses_walk (A : Option Addr) (ops : List OpV) (c : Nat) (op : OpV) (w : World) (h : OpsAt w A ops) (hop : OpOk op) :
    Calls Try.prog 7 #[.slice A ops.length c, op.val] w fun e w' => e = .returned (.bool true) ∧ Below w.heap.size w w' := by
  obtain ⟨ok, oo, oy, oa⟩ := op
  unfold OpV.val
  have ho : i64ok oo := ⟨hop.o1, hop.o2⟩
  have hk : i64ok oy := ⟨hop.y1, hop.y2⟩
  have b0 := ba w (.cells #[.int .i64 ok, .int .i64 oo, .int .i64 oy, .bool oa] 30)
  have q0 := Blk.new w 30 #[.int .i64 ok, .int .i64 oo, .int .i64 oy, .bool oa]
  generalize hw0 : w.alloc (.cells #[.int .i64 ok, .int .i64 oo, .int .i64 oy, .bool oa] 30) = w0 at *
  have HW0 := Lib.hid hw0
  clear hw0
  have hpl1 := played_any A ops c w0 (h.below b0)
  have hpl2 := fun u (hb : Below w0.heap.size w0 u) => played_any A ops c u ((h.below b0).below hb)
  generalize playL ops = L at hpl1 hpl2
  generalize ops.length = n at hpl1 hpl2 ⊢
  have Hpl1 := Lib.hid hpl1
  have Hpl2 := Lib.hid hpl2
  clear hpl1 hpl2 h
  go_enter Try.func7, Try.ntmps7
  go_wp2_with fail
  rw [HW0.out]
  refine Hpl1.out.mono ?_
  clear Hpl1
  rintro e w1 ⟨rfl, t1, b1⟩
  have q1 := q0.below b1 q0.lt
  go_wp2_with fail
  refine (Hpl2.out w1 b1).mono ?_
  clear Hpl2
  rintro e w2 ⟨rfl, u2, b2⟩
  have t2 := t1.below b2
  have q2 := q1.below b2 q1.lt
  have hB2 := bt (bt b0 b1) b2
  obtain ⟨tg, htg⟩ : ∃ tg, tg = w0.heap.size := ⟨_, rfl⟩
  rw [← htg] at t1 t2 ⊢
  obtain ⟨ug, hug⟩ : ∃ ug, ug = w1.heap.size := ⟨_, rfl⟩
  have hgu : tg < ug := by have := t1.lt; omega
  have hwt : w.heap.size ≤ tg := by have := b0.size; omega
  rw [← hug] at u2 ⊢
  clear htg hug t1 b1 b2 q1 b0 q0 HW0
  obtain ⟨r, hr⟩ : ∃ r, r = takeL L oo oy oa := ⟨_, rfl⟩
  obtain ⟨rz, L1⟩ := r
  have htk := take_is _ _ _ _ _ _ _ w2 t2 hk ho hr.symm
  have Hr := Lib.hid hr.symm
  have Htk := Lib.hid htk
  clear hr htk
  have c1 := q2.cell 1
  have c2 := q2.cell 2
  have c3 := q2.cell 3
  simp only [List.getElem?_toArray, List.getElem?_cons_zero, List.getElem?_cons_succ] at c1 c2 c3
  go_wp2_with fail
  refine Htk.out.mono ?_
  clear Htk
  rintro e w3 ⟨rfl, t3, g3⟩
  have hqt : w.heap.size ≠ tg := by
    intro e
    obtain ⟨m, hm, _⟩ := t2.src
    exact q2.ne hm (by decide) e
  have u3 := u2.apart g3 t2 (by omega)
  have q3 := q2.kept g3 (fun e => hqt (by injection e))
  have hB3 := hB2.grown g3 hB2.size (fun k e => by cases e; exact hwt)
  clear c1 c2 c3 q2 t2 u2 hB2 g3
  have Hh3 := Lib.hid (holds_any _ _ oo oy w3 t3 hk ho)
  have c1 := q3.cell 1
  have c2 := q3.cell 2
  have c3 := q3.cell 3
  simp only [List.getElem?_toArray, List.getElem?_cons_zero, List.getElem?_cons_succ] at c1 c2 c3
  by_cases hr0 : rz = 0
  · obtain ⟨f1, f2⟩ := refuse_facts Hr.out hr0
    subst hr0
    rw [f1] at Hh3
    generalize aloneL L1 oy oo = al at f2 Hh3
    have F2 := Lib.hid f2
    clear f1 f2 Hr
    go_wp2_with fail
    refine Hh3.out.mono ?_
    rintro e w4 ⟨rfl, b4⟩
    have hB4 := bt hB3 b4
    have q4 := q3.below b4 q3.lt
    clear c1 c2 c3 q3 hB3 b4 Hh3 t3 u3
    go_wp2_with fail
    refine (alive_any _).mono ?_
    rintro e w5 ⟨rfl, b5⟩
    have hB5 := bt hB4 b5
    have q5 := q4.below b5 q4.lt
    have c3 := q5.cell 3
    simp only [List.getElem?_toArray, List.getElem?_cons_zero, List.getElem?_cons_succ] at c3
    clear q4 q5 hB4 b5
    rcases oa with _ | _
    · rcases al with _ | _
      · go_wp2
        go_ret
        exact ⟨rfl, hB5⟩
      · go_wp2
        go_ret
        exact ⟨rfl, hB5⟩
    · obtain rfl := F2.out rfl
      go_wp2
      go_ret
      exact ⟨rfl, hB5⟩
  · obtain ⟨rfl, hrr⟩ := take_not Hr.out hr0
    have Hh4 := Lib.hid (fun u (hu : Tab u ug L1) => holds_any _ _ oo oy u hu hk ho)
    generalize heldL L1 oy oo = hd at Hh3 Hh4
    generalize aloneL L1 oy oo = al at Hh3 Hh4
    have hl64 := t3.len
    have hLok := t3.ok
    clear Hr
    go_wp2_with fail
    refine Hh3.out.mono ?_
    rintro e w4 ⟨rfl, b4⟩
    have hB4 := bt hB3 b4
    have q4 := q3.below b4 q3.lt
    have t4 := t3.below b4
    have u4 := u3.below b4
    have c1 := q4.cell 1
    have c2 := q4.cell 2
    simp only [List.getElem?_toArray, List.getElem?_cons_zero, List.getElem?_cons_succ] at c1 c2
    clear c3 q3 hB3 b4 Hh3 t3 u3
    go_wp2_with fail
    refine (Hh4.out _ u4).mono ?_
    rintro e wq ⟨rfl, b5⟩
    have hB5 := bt hB4 b5
    have hq := q4.below b5 q4.lt
    have t5 := t4.below b5
    have u5 := u4.below b5
    clear c1 c2 q4 hB4 b5 Hh4 t4 u4
    obtain ⟨ys, hys⟩ := heldKs_ex L1 hLok oo
    obtain ⟨nk, hnk⟩ : ∃ nk, nk = ys.length := ⟨_, rfl⟩
    have HNk := Lib.hid hnk
    have HNk2 : Hid (nk ≤ 9223372036854775807) := Lib.hid (by
      have := nodup_le ys (L1.map (·.1)) (hys.up.imp (fun h => by omega)) (fun k hk => by
        obtain ⟨x, hx, h1, _⟩ := held_iff.1 ((hys.mem k).1 hk)
        exact List.mem_map.2 ⟨x, hx, h1⟩)
      rw [List.length_map] at this
      omega)
    have HLenHt := Lib.hid (fun u (hb : Below wq.heap.size wq u) => tlen_any _ _ u (t5.below hb))
    have HLenHu := Lib.hid (fun u (hb : Below wq.heap.size wq u) => tlen_any _ _ u (u5.below hb))
    have HHeldHt := Lib.hid (fun u (hb : Below wq.heap.size wq u) => held_is _ _ oo ys nk hnk u (t5.below hb) hys)
    have HHeldHu := Lib.hid (fun u (hb : Below wq.heap.size wq u) => held_is _ _ oo ys nk hnk u (u5.below hb) hys)
    clear hnk t5 u5 hys
    have hcs : rz = 120 ∨ (rz = 5 ∧ L1.length = 64) := hrr
    generalize L1.length = nl at *
    clear hrr
    rcases hcs with rfl | ⟨rfl, rfl⟩
    · go_wp2_with fail
      refine wp_region_invT (F := ?FA) (V := VRf120 tg ug w.heap.size nl nk ok oo oy oa hd al ys) (dead := fun _ => none) (T := fun _ _ => True) (C := fun u => Below wq.heap.size wq u) (E := fun _ u u' => Below u.heap.size u u') (by kernel_rfl) (by kernel_rfl) (by kernel_rfl) (fun x => ?hFA) ?hmonoA ?hTmA ?hTA ?hCA ?stepA ?finA
      case hFA => simp only [mkA, Act.put, List.setIfInBounds_toArray, List.set_cons_succ, List.set_cons_zero, Nat.reduceAdd, Nat.zero_add]; first | with_reducible rfl | rfl
      case hmonoA => exact fun q' i v u u' he hik hwt hdd hv => VRf120.mono (q := q') he hv
      case hTmA => exact fun _ _ _ _ _ _ _ _ => trivial
      case hTA => exact fun j => trivial
      case hCA => exact (Below.refl _ _).drew
      case stepA =>
        refine AllOps.cons (fun x u hC hT hp K hK => ?_) ?_
        · clear hp hT
          go_simp
          refine (alive_any _).mono ?_
          rintro e wA ⟨rfl, hbA⟩
          refine hK _ _ _ (bt hC hbA) hbA (by exact rfl) ?_
          first | (simp only [Act.put, List.setIfInBounds_toArray, List.set_cons_succ, List.set_cons_zero]; done) | simp [Act.put]
        refine AllOps.cons (fun x u hC hT hp K hK => ?_) ?_
        · simp [KnownTill, Region.binds, VRf120] at hp
          clear hT
          go_simp
          refine hK _ _ _ hC (Below.refl _ _) (by exact rfl) ?_
          first | (simp only [Act.put, List.setIfInBounds_toArray, List.set_cons_succ, List.set_cons_zero, hp]; done) | simp [Act.put, hp]
        refine AllOps.cons (fun x u hC hT hp K hK => ?_) ?_
        · simp [KnownTill, Region.binds, VRf120] at hp
          clear hT
          go_simp
          refine hK _ _ _ hC (Below.refl _ _) (by exact rfl) ?_
          first | (simp only [Act.put, List.setIfInBounds_toArray, List.set_cons_succ, List.set_cons_zero, hp]; done) | simp [Act.put, hp]
        refine AllOps.cons (fun x u hC hT hp K hK => ?_) ?_
        · simp [KnownTill, Region.binds, VRf120] at hp
          clear hT
          go_simp
          refine hK _ _ _ hC (Below.refl _ _) (by exact rfl) ?_
          first | (simp only [Act.put, List.setIfInBounds_toArray, List.set_cons_succ, List.set_cons_zero, hp]; done) | simp [Act.put, hp]
        refine AllOps.cons (fun x u hC hT hp K hK => ?_) ?_
        · simp [KnownTill, Region.binds, VRf120] at hp
          clear hT
          go_simp
          refine hK _ _ _ hC (Below.refl _ _) (by exact rfl) ?_
          first | (simp only [Act.put, List.setIfInBounds_toArray, List.set_cons_succ, List.set_cons_zero, hp]; done) | simp [Act.put, hp]
        refine AllOps.cons (fun x u hC hT hp K hK => ?_) ?_
        · simp [KnownTill, Region.binds, VRf120] at hp
          clear hT
          go_simp
          refine hK undef _ _ hC (Below.refl _ _) (by exact rfl) ?_
          first | (simp only [Act.put, List.setIfInBounds_toArray, List.set_cons_succ, List.set_cons_zero, hp]; done) | simp [Act.put, hp]
        refine AllOps.cons (fun x u hC hT hp K hK => ?_) ?_
        · simp [KnownTill, Region.binds, VRf120] at hp
          clear hT
          go_simp
          refine hK undef _ _ hC (Below.refl _ _) (by exact rfl) ?_
          first | (simp only [Act.put, List.setIfInBounds_toArray, List.set_cons_succ, List.set_cons_zero, hp]; done) | simp [Act.put, hp]
        refine AllOps.cons (fun x u hC hT hp K hK => ?_) ?_
        · simp [KnownTill, Region.binds, VRf120] at hp
          clear hT
          go_simp
          refine hK undef _ _ hC (Below.refl _ _) (by exact rfl) ?_
          first | (simp only [Act.put, List.setIfInBounds_toArray, List.set_cons_succ, List.set_cons_zero, hp]; done) | simp [Act.put, hp]
        refine AllOps.cons (fun x u hC hT hp K hK => ?_) ?_
        · simp [KnownTill, Region.binds, VRf120] at hp
          clear hT
          go_simp
          refine hK undef _ _ hC (Below.refl _ _) (by exact rfl) ?_
          first | (simp only [Act.put, List.setIfInBounds_toArray, List.set_cons_succ, List.set_cons_zero, hp]; done) | simp [Act.put, hp]
        refine AllOps.cons (fun x u hC hT hp K hK => ?_) ?_
        · simp [KnownTill, Region.binds, VRf120] at hp
          clear hT
          go_simp
          refine hK undef _ _ hC (Below.refl _ _) (by exact rfl) ?_
          first | (simp only [Act.put, List.setIfInBounds_toArray, List.set_cons_succ, List.set_cons_zero, hp]; done) | simp [Act.put, hp]
        refine AllOps.cons (fun x u hC hT hp K hK => ?_) ?_
        · simp [KnownTill, Region.binds, VRf120] at hp
          clear hT
          go_simp
          refine hK undef _ _ hC (Below.refl _ _) (by exact rfl) ?_
          first | (simp only [Act.put, List.setIfInBounds_toArray, List.set_cons_succ, List.set_cons_zero, hp]; done) | simp [Act.put, hp]
        refine AllOps.cons (fun x u hC hT hp K hK => ?_) ?_
        · simp [KnownTill, Region.binds, VRf120] at hp
          clear hT
          go_simp
          refine hK undef _ _ hC (Below.refl _ _) (by exact rfl) ?_
          first | (simp only [Act.put, List.setIfInBounds_toArray, List.set_cons_succ, List.set_cons_zero, hp]; done) | simp [Act.put, hp]
        refine AllOps.cons (fun x u hC hT hp K hK => ?_) ?_
        · simp [KnownTill, Region.binds, VRf120] at hp
          clear hT
          go_simp
          refine hK _ _ _ hC (Below.refl _ _) (by exact rfl) ?_
          first | (simp only [Act.put, List.setIfInBounds_toArray, List.set_cons_succ, List.set_cons_zero, hp]; done) | simp [Act.put, hp]
        refine AllOps.cons (fun x u hC hT hp K hK => ?_) ?_
        · simp [KnownTill, Region.binds, VRf120] at hp
          clear hT
          go_simp
          refine hK _ _ _ hC (Below.refl _ _) (by exact rfl) ?_
          first | (simp only [Act.put, List.setIfInBounds_toArray, List.set_cons_succ, List.set_cons_zero, hp]; done) | simp [Act.put, hp]
        refine AllOps.cons (fun x u hC hT hp K hK => ?_) ?_
        · simp [KnownTill, Region.binds, VRf120] at hp
          clear hT
          go_simp
          refine hK _ _ _ hC (Below.refl _ _) (by exact rfl) ?_
          first | (simp only [Act.put, List.setIfInBounds_toArray, List.set_cons_succ, List.set_cons_zero, hp]; done) | simp [Act.put, hp]
        refine AllOps.cons (fun x u hC hT hp K hK => ?_) ?_
        · simp [KnownTill, Region.binds, VRf120] at hp
          clear hT
          go_simp
          refine hK _ _ _ hC (Below.refl _ _) (by exact rfl) ?_
          first | (simp only [Act.put, List.setIfInBounds_toArray, List.set_cons_succ, List.set_cons_zero, hp]; done) | simp [Act.put, hp]
        refine AllOps.cons (fun x u hC hT hp K hK => ?_) ?_
        · simp [KnownTill, Region.binds, VRf120] at hp
          clear hT
          go_simp
          refine hK _ _ _ hC (Below.refl _ _) (by exact rfl) ?_
          first | (simp only [Act.put, List.setIfInBounds_toArray, List.set_cons_succ, List.set_cons_zero, hp]; done) | simp [Act.put, hp]
        refine AllOps.cons (fun x u hC hT hp K hK => ?_) ?_
        · simp [KnownTill, Region.binds, VRf120] at hp
          clear hT
          go_simp
          refine hK _ _ _ hC (Below.refl _ _) (by exact rfl) ?_
          first | (simp only [Act.put, List.setIfInBounds_toArray, List.set_cons_succ, List.set_cons_zero, hp]; done) | simp [Act.put, hp]
        refine AllOps.cons (fun x u hC hT hp K hK => ?_) ?_
        · simp [KnownTill, Region.binds, VRf120] at hp
          clear hT
          go_simp
          refine hK _ _ _ hC (Below.refl _ _) (by exact rfl) ?_
          first | (simp only [Act.put, List.setIfInBounds_toArray, List.set_cons_succ, List.set_cons_zero, hp]; done) | simp [Act.put, hp]
        refine AllOps.cons (fun x u hC hT hp K hK => ?_) ?_
        · simp [KnownTill, Region.binds, VRf120] at hp
          clear hT
          go_simp
          refine hK _ _ _ hC (Below.refl _ _) (by exact rfl) ?_
          first | (simp only [Act.put, List.setIfInBounds_toArray, List.set_cons_succ, List.set_cons_zero, hp]; done) | simp [Act.put, hp]
        refine AllOps.cons (fun x u hC hT hp K hK => ?_) ?_
        · simp [KnownTill, Region.binds, VRf120] at hp
          clear hT
          go_simp
          refine hK _ _ _ hC (Below.refl _ _) (by exact rfl) ?_
          first | (simp only [Act.put, List.setIfInBounds_toArray, List.set_cons_succ, List.set_cons_zero, hp]; done) | simp [Act.put, hp]
        refine AllOps.cons (fun x u hC hT hp K hK => ?_) ?_
        · simp [KnownTill, Region.binds, VRf120] at hp
          clear hT
          go_simp
          refine hK _ _ _ hC (Below.refl _ _) (by exact rfl) ?_
          first | (simp only [Act.put, List.setIfInBounds_toArray, List.set_cons_succ, List.set_cons_zero, hp]; done) | simp [Act.put, hp]
        refine AllOps.cons (fun x u hC hT hp K hK => ?_) ?_
        · simp [KnownTill, Region.binds, VRf120] at hp
          clear hT
          go_simp
          refine hK _ _ _ hC (Below.refl _ _) (by exact rfl) ?_
          first | (simp only [Act.put, List.setIfInBounds_toArray, List.set_cons_succ, List.set_cons_zero, hp]; done) | simp [Act.put, hp]
        refine AllOps.cons (fun x u hC hT hp K hK => ?_) ?_
        · simp [KnownTill, Region.binds, VRf120] at hp
          clear hT
          go_simp
          refine hK _ _ _ hC (Below.refl _ _) (by exact rfl) ?_
          first | (simp only [Act.put, List.setIfInBounds_toArray, List.set_cons_succ, List.set_cons_zero, hp]; done) | simp [Act.put, hp]
        refine AllOps.cons (fun x u hC hT hp K hK => ?_) ?_
        · simp [KnownTill, Region.binds, VRf120] at hp
          clear hT
          go_simp
          refine hK _ _ _ hC (Below.refl _ _) (by exact rfl) ?_
          first | (simp only [Act.put, List.setIfInBounds_toArray, List.set_cons_succ, List.set_cons_zero, hp]; done) | simp [Act.put, hp]
        refine AllOps.cons (fun x u hC hT hp K hK => ?_) ?_
        · simp [KnownTill, Region.binds, VRf120] at hp
          clear hT
          go_simp
          refine hK _ _ _ hC (Below.refl _ _) (by exact rfl) ?_
          first | (simp only [Act.put, List.setIfInBounds_toArray, List.set_cons_succ, List.set_cons_zero, hp]; done) | simp [Act.put, hp]
        refine AllOps.cons (fun x u hC hT hp K hK => ?_) ?_
        · simp [KnownTill, Region.binds, VRf120] at hp
          clear hT
          go_simp
          refine (HLenHt.out u hC).mono ?_
          rintro e wA ⟨rfl, rfl⟩
          refine hK _ _ _ hC (Below.refl _ _) (by exact rfl) ?_
          first | (simp only [Act.put, List.setIfInBounds_toArray, List.set_cons_succ, List.set_cons_zero, hp]; done) | simp [Act.put, hp]
        refine AllOps.cons (fun x u hC hT hp K hK => ?_) ?_
        · simp [KnownTill, Region.binds, VRf120] at hp
          clear hT
          go_simp
          refine hK _ _ _ hC (Below.refl _ _) (by exact rfl) ?_
          first | (simp only [Act.put, List.setIfInBounds_toArray, List.set_cons_succ, List.set_cons_zero, hp]; done) | simp [Act.put, hp]
        refine AllOps.cons (fun x u hC hT hp K hK => ?_) ?_
        · simp [KnownTill, Region.binds, VRf120] at hp
          clear hT
          go_simp
          refine (HLenHu.out u hC).mono ?_
          rintro e wA ⟨rfl, rfl⟩
          refine hK _ _ _ hC (Below.refl _ _) (by exact rfl) ?_
          first | (simp only [Act.put, List.setIfInBounds_toArray, List.set_cons_succ, List.set_cons_zero, hp]; done) | simp [Act.put, hp]
        refine AllOps.cons (fun x u hC hT hp K hK => ?_) ?_
        · simp [KnownTill, Region.binds, VRf120] at hp
          clear hT
          go_simp
          refine hK _ _ _ hC (Below.refl _ _) (by exact rfl) ?_
          first | (simp only [Act.put, List.setIfInBounds_toArray, List.set_cons_succ, List.set_cons_zero, hp]; done) | simp [Act.put, hp]
        refine AllOps.cons (fun x u hC hT hp K hK => ?_) ?_
        · simp [KnownTill, Region.binds, VRf120] at hp
          clear hT
          go_simp
          refine hK _ _ _ hC (Below.refl _ _) (by exact rfl) ?_
          first | (simp only [Act.put, List.setIfInBounds_toArray, List.set_cons_succ, List.set_cons_zero, hp]; done) | simp [Act.put, hp]
        refine AllOps.cons (fun x u hC hT hp K hK => ?_) ?_
        · simp [KnownTill, Region.binds, VRf120] at hp
          clear hT
          go_simp
          refine hK _ _ _ hC (Below.refl _ _) (by exact rfl) ?_
          first | (simp only [Act.put, List.setIfInBounds_toArray, List.set_cons_succ, List.set_cons_zero, hp]; done) | simp [Act.put, hp]
        refine AllOps.cons (fun x u hC hT hp K hK => ?_) ?_
        · simp [KnownTill, Region.binds, VRf120] at hp
          clear hT
          go_simp
          refine hK _ _ _ hC (Below.refl _ _) (by exact rfl) ?_
          first | (simp only [Act.put, List.setIfInBounds_toArray, List.set_cons_succ, List.set_cons_zero, hp]; done) | simp [Act.put, hp]
        refine AllOps.cons (fun x u hC hT hp K hK => ?_) ?_
        · simp [KnownTill, Region.binds, VRf120] at hp
          clear hT
          go_simp
          refine hK _ _ _ hC (Below.refl _ _) (by exact rfl) ?_
          first | (simp only [Act.put, List.setIfInBounds_toArray, List.set_cons_succ, List.set_cons_zero, hp]; done) | simp [Act.put, hp]
        refine AllOps.cons (fun x u hC hT hp K hK => ?_) ?_
        · simp [KnownTill, Region.binds, VRf120] at hp
          clear hT
          have kq := hq.below (hC : Below _ _ u) hq.lt
          have qq := kq.cell 1
          simp only [List.getElem?_toArray, List.getElem?_cons_zero, List.getElem?_cons_succ] at qq
          go_simp
          refine hK _ _ _ hC (Below.refl _ _) (by exact rfl) ?_
          first | (simp only [Act.put, List.setIfInBounds_toArray, List.set_cons_succ, List.set_cons_zero, hp]; done) | simp [Act.put, hp]
        refine AllOps.cons (fun x u hC hT hp K hK => ?_) ?_
        · simp [KnownTill, Region.binds, VRf120] at hp
          clear hT
          go_simp
          refine (HHeldHt.out u hC).mono ?_
          rintro e wA ⟨vA, rfl, hvA, hbA⟩
          refine hK _ _ _ (bt hC hbA) hbA hvA ?_
          first | (simp only [Act.put, List.setIfInBounds_toArray, List.set_cons_succ, List.set_cons_zero, hp]; done) | simp [Act.put, hp]
        refine AllOps.cons (fun x u hC hT hp K hK => ?_) ?_
        · simp [KnownTill, Region.binds, VRf120] at hp
          clear hT
          go_simp
          refine hK _ _ _ hC (Below.refl _ _) (by exact rfl) ?_
          first | (simp only [Act.put, List.setIfInBounds_toArray, List.set_cons_succ, List.set_cons_zero, hp]; done) | simp [Act.put, hp]
        refine AllOps.cons (fun x u hC hT hp K hK => ?_) ?_
        · simp [KnownTill, Region.binds, VRf120] at hp
          clear hT
          go_simp
          refine hK _ _ _ hC (Below.refl _ _) (by exact rfl) ?_
          first | (simp only [Act.put, List.setIfInBounds_toArray, List.set_cons_succ, List.set_cons_zero, hp]; done) | simp [Act.put, hp]
        refine AllOps.cons (fun x u hC hT hp K hK => ?_) ?_
        · simp [KnownTill, Region.binds, VRf120] at hp
          clear hT
          have kq := hq.below (hC : Below _ _ u) hq.lt
          have qq := kq.cell 1
          simp only [List.getElem?_toArray, List.getElem?_cons_zero, List.getElem?_cons_succ] at qq
          go_simp
          refine hK _ _ _ hC (Below.refl _ _) (by exact rfl) ?_
          first | (simp only [Act.put, List.setIfInBounds_toArray, List.set_cons_succ, List.set_cons_zero, hp]; done) | simp [Act.put, hp]
        refine AllOps.cons (fun x u hC hT hp K hK => ?_) ?_
        · simp [KnownTill, Region.binds, VRf120] at hp
          clear hT
          go_simp
          refine (HHeldHu.out u hC).mono ?_
          rintro e wA ⟨vA, rfl, hvA, hbA⟩
          refine hK _ _ _ (bt hC hbA) hbA hvA ?_
          first | (simp only [Act.put, List.setIfInBounds_toArray, List.set_cons_succ, List.set_cons_zero, hp]; done) | simp [Act.put, hp]
        refine AllOps.cons (fun x u hC hT hp K hK => ?_) ?_
        · simp [KnownTill, Region.binds, VRf120] at hp
          clear hT
          go_simp
          have h1 : IsN u nk ys (x 35) := by first | exact hp.1 | exact hp.2.1 | exact hp.2 | exact hp.2.2.1 | exact hp.2.2.2.1 | exact hp.2.2.1
          have h2 : IsN u nk ys (x 39) := by first | exact hp.2 | exact hp.2.1 | exact hp.2.2 | exact hp.2.2.1 | exact hp.2.2.2.1
          obtain ⟨A1, c1, e1, i1⟩ := h1
          obtain ⟨A2, c2, e2, i2⟩ := h2
          simp only [e1, e2]
          refine (ints_same A1 A2 nk c1 c2 ys u HNk.out HNk2.out i1 i2).mono ?_
          rintro e wA ⟨rfl, hbA⟩
          refine hK _ _ _ (bt hC hbA) hbA (by exact rfl) ?_
          simp [Act.put, hp, e1, e2]
        refine AllOps.cons (fun x u hC hT hp K hK => ?_) ?_
        · simp [KnownTill, Region.binds, VRf120] at hp
          clear hT
          go_simp
          refine hK _ _ _ hC (Below.refl _ _) (by exact rfl) ?_
          first | (simp only [Act.put, List.setIfInBounds_toArray, List.set_cons_succ, List.set_cons_zero, hp]; done) | simp [Act.put, hp]
        refine AllOps.cons (fun x u hC hT hp K hK => ?_) ?_
        · simp [KnownTill, Region.binds, VRf120] at hp
          clear hT
          go_simp
          refine hK _ _ _ hC (Below.refl _ _) (by exact rfl) ?_
          first | (simp only [Act.put, List.setIfInBounds_toArray, List.set_cons_succ, List.set_cons_zero, hp]; done) | simp [Act.put, hp]
        exact AllOps.nil
      case finA =>
        intro x u hC hV
        have e4 : x 42 = .bool true := hV 42 (by decide) rfl
        rw [e4]
        clear e4
        clear hV
        have hB6 : Below w.heap.size w u := bt hB5 hC
        go_wp2
        go_ret
        exact ⟨rfl, hB6⟩
    · go_wp2_with fail
      refine wp_region_invT (F := ?FB) (V := VRf5 tg ug w.heap.size 64 nk ok oo oy oa hd al ys) (dead := fun _ => none) (T := fun _ _ => True) (C := fun u => Below wq.heap.size wq u) (E := fun _ u u' => Below u.heap.size u u') (by kernel_rfl) (by kernel_rfl) (by kernel_rfl) (fun x => ?hFB) ?hmonoB ?hTmB ?hTB ?hCB ?stepB ?finB
      case hFB => simp only [mkA, Act.put, List.setIfInBounds_toArray, List.set_cons_succ, List.set_cons_zero, Nat.reduceAdd, Nat.zero_add]; first | with_reducible rfl | rfl
      case hmonoB => exact fun q' i v u u' he hik hwt hdd hv => VRf5.mono (q := q') he hv
      case hTmB => exact fun _ _ _ _ _ _ _ _ => trivial
      case hTB => exact fun j => trivial
      case hCB => exact (Below.refl _ _).drew
      case stepB =>
        refine AllOps.cons (fun x u hC hT hp K hK => ?_) ?_
        · clear hp hT
          go_simp
          refine (alive_any _).mono ?_
          rintro e wA ⟨rfl, hbA⟩
          refine hK _ _ _ (bt hC hbA) hbA (by exact rfl) ?_
          first | (simp only [Act.put, List.setIfInBounds_toArray, List.set_cons_succ, List.set_cons_zero]; done) | simp [Act.put]
        refine AllOps.cons (fun x u hC hT hp K hK => ?_) ?_
        · simp [KnownTill, Region.binds, VRf5] at hp
          clear hT
          go_simp
          refine hK _ _ _ hC (Below.refl _ _) (by exact rfl) ?_
          first | (simp only [Act.put, List.setIfInBounds_toArray, List.set_cons_succ, List.set_cons_zero, hp]; done) | simp [Act.put, hp]
        refine AllOps.cons (fun x u hC hT hp K hK => ?_) ?_
        · simp [KnownTill, Region.binds, VRf5] at hp
          clear hT
          go_simp
          refine hK _ _ _ hC (Below.refl _ _) (by exact rfl) ?_
          first | (simp only [Act.put, List.setIfInBounds_toArray, List.set_cons_succ, List.set_cons_zero, hp]; done) | simp [Act.put, hp]
        refine AllOps.cons (fun x u hC hT hp K hK => ?_) ?_
        · simp [KnownTill, Region.binds, VRf5] at hp
          clear hT
          go_simp
          refine hK _ _ _ hC (Below.refl _ _) (by exact rfl) ?_
          first | (simp only [Act.put, List.setIfInBounds_toArray, List.set_cons_succ, List.set_cons_zero, hp]; done) | simp [Act.put, hp]
        refine AllOps.cons (fun x u hC hT hp K hK => ?_) ?_
        · simp [KnownTill, Region.binds, VRf5] at hp
          clear hT
          go_simp
          refine hK _ _ _ hC (Below.refl _ _) (by exact rfl) ?_
          first | (simp only [Act.put, List.setIfInBounds_toArray, List.set_cons_succ, List.set_cons_zero, hp]; done) | simp [Act.put, hp]
        refine AllOps.cons (fun x u hC hT hp K hK => ?_) ?_
        · simp [KnownTill, Region.binds, VRf5] at hp
          clear hT
          go_simp
          refine hK _ _ _ hC (Below.refl _ _) (by exact rfl) ?_
          first | (simp only [Act.put, List.setIfInBounds_toArray, List.set_cons_succ, List.set_cons_zero, hp]; done) | simp [Act.put, hp]
        refine AllOps.cons (fun x u hC hT hp K hK => ?_) ?_
        · simp [KnownTill, Region.binds, VRf5] at hp
          clear hT
          go_simp
          refine hK _ _ _ hC (Below.refl _ _) (by exact rfl) ?_
          first | (simp only [Act.put, List.setIfInBounds_toArray, List.set_cons_succ, List.set_cons_zero, hp]; done) | simp [Act.put, hp]
        refine AllOps.cons (fun x u hC hT hp K hK => ?_) ?_
        · simp [KnownTill, Region.binds, VRf5] at hp
          clear hT
          go_simp
          refine hK _ _ _ hC (Below.refl _ _) (by exact rfl) ?_
          first | (simp only [Act.put, List.setIfInBounds_toArray, List.set_cons_succ, List.set_cons_zero, hp]; done) | simp [Act.put, hp]
        refine AllOps.cons (fun x u hC hT hp K hK => ?_) ?_
        · simp [KnownTill, Region.binds, VRf5] at hp
          clear hT
          go_simp
          refine hK _ _ _ hC (Below.refl _ _) (by exact rfl) ?_
          first | (simp only [Act.put, List.setIfInBounds_toArray, List.set_cons_succ, List.set_cons_zero, hp]; done) | simp [Act.put, hp]
        refine AllOps.cons (fun x u hC hT hp K hK => ?_) ?_
        · simp [KnownTill, Region.binds, VRf5] at hp
          clear hT
          go_simp
          refine (HLenHt.out u hC).mono ?_
          rintro e wA ⟨rfl, rfl⟩
          refine hK _ _ _ hC (Below.refl _ _) (by exact rfl) ?_
          first | (simp only [Act.put, List.setIfInBounds_toArray, List.set_cons_succ, List.set_cons_zero, hp]; done) | simp [Act.put, hp]
        refine AllOps.cons (fun x u hC hT hp K hK => ?_) ?_
        · simp [KnownTill, Region.binds, VRf5] at hp
          clear hT
          go_simp
          refine hK _ _ _ hC (Below.refl _ _) (by exact rfl) ?_
          first | (simp only [Act.put, List.setIfInBounds_toArray, List.set_cons_succ, List.set_cons_zero, hp]; done) | simp [Act.put, hp]
        refine AllOps.cons (fun x u hC hT hp K hK => ?_) ?_
        · simp [KnownTill, Region.binds, VRf5] at hp
          clear hT
          go_simp
          refine hK _ _ _ hC (Below.refl _ _) (by exact rfl) ?_
          first | (simp only [Act.put, List.setIfInBounds_toArray, List.set_cons_succ, List.set_cons_zero, hp]; done) | simp [Act.put, hp]
        refine AllOps.cons (fun x u hC hT hp K hK => ?_) ?_
        · simp [KnownTill, Region.binds, VRf5] at hp
          clear hT
          go_simp
          refine hK _ _ _ hC (Below.refl _ _) (by exact rfl) ?_
          first | (simp only [Act.put, List.setIfInBounds_toArray, List.set_cons_succ, List.set_cons_zero, hp]; done) | simp [Act.put, hp]
        refine AllOps.cons (fun x u hC hT hp K hK => ?_) ?_
        · simp [KnownTill, Region.binds, VRf5] at hp
          clear hT
          go_simp
          refine hK _ _ _ hC (Below.refl _ _) (by exact rfl) ?_
          first | (simp only [Act.put, List.setIfInBounds_toArray, List.set_cons_succ, List.set_cons_zero, hp]; done) | simp [Act.put, hp]
        refine AllOps.cons (fun x u hC hT hp K hK => ?_) ?_
        · simp [KnownTill, Region.binds, VRf5] at hp
          clear hT
          go_simp
          refine hK _ _ _ hC (Below.refl _ _) (by exact rfl) ?_
          first | (simp only [Act.put, List.setIfInBounds_toArray, List.set_cons_succ, List.set_cons_zero, hp]; done) | simp [Act.put, hp]
        refine AllOps.cons (fun x u hC hT hp K hK => ?_) ?_
        · simp [KnownTill, Region.binds, VRf5] at hp
          clear hT
          go_simp
          refine hK _ _ _ hC (Below.refl _ _) (by exact rfl) ?_
          first | (simp only [Act.put, List.setIfInBounds_toArray, List.set_cons_succ, List.set_cons_zero, hp]; done) | simp [Act.put, hp]
        refine AllOps.cons (fun x u hC hT hp K hK => ?_) ?_
        · simp [KnownTill, Region.binds, VRf5] at hp
          clear hT
          go_simp
          refine hK _ _ _ hC (Below.refl _ _) (by exact rfl) ?_
          first | (simp only [Act.put, List.setIfInBounds_toArray, List.set_cons_succ, List.set_cons_zero, hp]; done) | simp [Act.put, hp]
        refine AllOps.cons (fun x u hC hT hp K hK => ?_) ?_
        · simp [KnownTill, Region.binds, VRf5] at hp
          clear hT
          go_simp
          refine hK _ _ _ hC (Below.refl _ _) (by exact rfl) ?_
          first | (simp only [Act.put, List.setIfInBounds_toArray, List.set_cons_succ, List.set_cons_zero, hp]; done) | simp [Act.put, hp]
        refine AllOps.cons (fun x u hC hT hp K hK => ?_) ?_
        · simp [KnownTill, Region.binds, VRf5] at hp
          clear hT
          go_simp
          refine hK _ _ _ hC (Below.refl _ _) (by exact rfl) ?_
          first | (simp only [Act.put, List.setIfInBounds_toArray, List.set_cons_succ, List.set_cons_zero, hp]; done) | simp [Act.put, hp]
        refine AllOps.cons (fun x u hC hT hp K hK => ?_) ?_
        · simp [KnownTill, Region.binds, VRf5] at hp
          clear hT
          go_simp
          refine hK _ _ _ hC (Below.refl _ _) (by exact rfl) ?_
          first | (simp only [Act.put, List.setIfInBounds_toArray, List.set_cons_succ, List.set_cons_zero, hp]; done) | simp [Act.put, hp]
        refine AllOps.cons (fun x u hC hT hp K hK => ?_) ?_
        · simp [KnownTill, Region.binds, VRf5] at hp
          clear hT
          go_simp
          refine hK _ _ _ hC (Below.refl _ _) (by exact rfl) ?_
          first | (simp only [Act.put, List.setIfInBounds_toArray, List.set_cons_succ, List.set_cons_zero, hp]; done) | simp [Act.put, hp]
        refine AllOps.cons (fun x u hC hT hp K hK => ?_) ?_
        · simp [KnownTill, Region.binds, VRf5] at hp
          clear hT
          go_simp
          refine hK _ _ _ hC (Below.refl _ _) (by exact rfl) ?_
          first | (simp only [Act.put, List.setIfInBounds_toArray, List.set_cons_succ, List.set_cons_zero, hp]; done) | simp [Act.put, hp]
        refine AllOps.cons (fun x u hC hT hp K hK => ?_) ?_
        · simp [KnownTill, Region.binds, VRf5] at hp
          clear hT
          go_simp
          refine hK _ _ _ hC (Below.refl _ _) (by exact rfl) ?_
          first | (simp only [Act.put, List.setIfInBounds_toArray, List.set_cons_succ, List.set_cons_zero, hp]; done) | simp [Act.put, hp]
        refine AllOps.cons (fun x u hC hT hp K hK => ?_) ?_
        · simp [KnownTill, Region.binds, VRf5] at hp
          clear hT
          go_simp
          refine hK _ _ _ hC (Below.refl _ _) (by exact rfl) ?_
          first | (simp only [Act.put, List.setIfInBounds_toArray, List.set_cons_succ, List.set_cons_zero, hp]; done) | simp [Act.put, hp]
        refine AllOps.cons (fun x u hC hT hp K hK => ?_) ?_
        · simp [KnownTill, Region.binds, VRf5] at hp
          clear hT
          go_simp
          refine hK _ _ _ hC (Below.refl _ _) (by exact rfl) ?_
          first | (simp only [Act.put, List.setIfInBounds_toArray, List.set_cons_succ, List.set_cons_zero, hp]; done) | simp [Act.put, hp]
        refine AllOps.cons (fun x u hC hT hp K hK => ?_) ?_
        · simp [KnownTill, Region.binds, VRf5] at hp
          clear hT
          go_simp
          refine hK _ _ _ hC (Below.refl _ _) (by exact rfl) ?_
          first | (simp only [Act.put, List.setIfInBounds_toArray, List.set_cons_succ, List.set_cons_zero, hp]; done) | simp [Act.put, hp]
        refine AllOps.cons (fun x u hC hT hp K hK => ?_) ?_
        · simp [KnownTill, Region.binds, VRf5] at hp
          clear hT
          go_simp
          refine (HLenHt.out u hC).mono ?_
          rintro e wA ⟨rfl, rfl⟩
          refine hK _ _ _ hC (Below.refl _ _) (by exact rfl) ?_
          first | (simp only [Act.put, List.setIfInBounds_toArray, List.set_cons_succ, List.set_cons_zero, hp]; done) | simp [Act.put, hp]
        refine AllOps.cons (fun x u hC hT hp K hK => ?_) ?_
        · simp [KnownTill, Region.binds, VRf5] at hp
          clear hT
          go_simp
          refine hK _ _ _ hC (Below.refl _ _) (by exact rfl) ?_
          first | (simp only [Act.put, List.setIfInBounds_toArray, List.set_cons_succ, List.set_cons_zero, hp]; done) | simp [Act.put, hp]
        refine AllOps.cons (fun x u hC hT hp K hK => ?_) ?_
        · simp [KnownTill, Region.binds, VRf5] at hp
          clear hT
          go_simp
          refine (HLenHu.out u hC).mono ?_
          rintro e wA ⟨rfl, rfl⟩
          refine hK _ _ _ hC (Below.refl _ _) (by exact rfl) ?_
          first | (simp only [Act.put, List.setIfInBounds_toArray, List.set_cons_succ, List.set_cons_zero, hp]; done) | simp [Act.put, hp]
        refine AllOps.cons (fun x u hC hT hp K hK => ?_) ?_
        · simp [KnownTill, Region.binds, VRf5] at hp
          clear hT
          go_simp
          refine hK _ _ _ hC (Below.refl _ _) (by exact rfl) ?_
          first | (simp only [Act.put, List.setIfInBounds_toArray, List.set_cons_succ, List.set_cons_zero, hp]; done) | simp [Act.put, hp]
        refine AllOps.cons (fun x u hC hT hp K hK => ?_) ?_
        · simp [KnownTill, Region.binds, VRf5] at hp
          clear hT
          go_simp
          refine hK _ _ _ hC (Below.refl _ _) (by exact rfl) ?_
          first | (simp only [Act.put, List.setIfInBounds_toArray, List.set_cons_succ, List.set_cons_zero, hp]; done) | simp [Act.put, hp]
        refine AllOps.cons (fun x u hC hT hp K hK => ?_) ?_
        · simp [KnownTill, Region.binds, VRf5] at hp
          clear hT
          go_simp
          refine hK _ _ _ hC (Below.refl _ _) (by exact rfl) ?_
          first | (simp only [Act.put, List.setIfInBounds_toArray, List.set_cons_succ, List.set_cons_zero, hp]; done) | simp [Act.put, hp]
        refine AllOps.cons (fun x u hC hT hp K hK => ?_) ?_
        · simp [KnownTill, Region.binds, VRf5] at hp
          clear hT
          go_simp
          refine hK _ _ _ hC (Below.refl _ _) (by exact rfl) ?_
          first | (simp only [Act.put, List.setIfInBounds_toArray, List.set_cons_succ, List.set_cons_zero, hp]; done) | simp [Act.put, hp]
        refine AllOps.cons (fun x u hC hT hp K hK => ?_) ?_
        · simp [KnownTill, Region.binds, VRf5] at hp
          clear hT
          go_simp
          refine hK _ _ _ hC (Below.refl _ _) (by exact rfl) ?_
          first | (simp only [Act.put, List.setIfInBounds_toArray, List.set_cons_succ, List.set_cons_zero, hp]; done) | simp [Act.put, hp]
        refine AllOps.cons (fun x u hC hT hp K hK => ?_) ?_
        · simp [KnownTill, Region.binds, VRf5] at hp
          clear hT
          have kq := hq.below (hC : Below _ _ u) hq.lt
          have qq := kq.cell 1
          simp only [List.getElem?_toArray, List.getElem?_cons_zero, List.getElem?_cons_succ] at qq
          go_simp
          refine hK _ _ _ hC (Below.refl _ _) (by exact rfl) ?_
          first | (simp only [Act.put, List.setIfInBounds_toArray, List.set_cons_succ, List.set_cons_zero, hp]; done) | simp [Act.put, hp]
        refine AllOps.cons (fun x u hC hT hp K hK => ?_) ?_
        · simp [KnownTill, Region.binds, VRf5] at hp
          clear hT
          go_simp
          refine (HHeldHt.out u hC).mono ?_
          rintro e wA ⟨vA, rfl, hvA, hbA⟩
          refine hK _ _ _ (bt hC hbA) hbA hvA ?_
          first | (simp only [Act.put, List.setIfInBounds_toArray, List.set_cons_succ, List.set_cons_zero, hp]; done) | simp [Act.put, hp]
        refine AllOps.cons (fun x u hC hT hp K hK => ?_) ?_
        · simp [KnownTill, Region.binds, VRf5] at hp
          clear hT
          go_simp
          refine hK _ _ _ hC (Below.refl _ _) (by exact rfl) ?_
          first | (simp only [Act.put, List.setIfInBounds_toArray, List.set_cons_succ, List.set_cons_zero, hp]; done) | simp [Act.put, hp]
        refine AllOps.cons (fun x u hC hT hp K hK => ?_) ?_
        · simp [KnownTill, Region.binds, VRf5] at hp
          clear hT
          go_simp
          refine hK _ _ _ hC (Below.refl _ _) (by exact rfl) ?_
          first | (simp only [Act.put, List.setIfInBounds_toArray, List.set_cons_succ, List.set_cons_zero, hp]; done) | simp [Act.put, hp]
        refine AllOps.cons (fun x u hC hT hp K hK => ?_) ?_
        · simp [KnownTill, Region.binds, VRf5] at hp
          clear hT
          have kq := hq.below (hC : Below _ _ u) hq.lt
          have qq := kq.cell 1
          simp only [List.getElem?_toArray, List.getElem?_cons_zero, List.getElem?_cons_succ] at qq
          go_simp
          refine hK _ _ _ hC (Below.refl _ _) (by exact rfl) ?_
          first | (simp only [Act.put, List.setIfInBounds_toArray, List.set_cons_succ, List.set_cons_zero, hp]; done) | simp [Act.put, hp]
        refine AllOps.cons (fun x u hC hT hp K hK => ?_) ?_
        · simp [KnownTill, Region.binds, VRf5] at hp
          clear hT
          go_simp
          refine (HHeldHu.out u hC).mono ?_
          rintro e wA ⟨vA, rfl, hvA, hbA⟩
          refine hK _ _ _ (bt hC hbA) hbA hvA ?_
          first | (simp only [Act.put, List.setIfInBounds_toArray, List.set_cons_succ, List.set_cons_zero, hp]; done) | simp [Act.put, hp]
        refine AllOps.cons (fun x u hC hT hp K hK => ?_) ?_
        · simp [KnownTill, Region.binds, VRf5] at hp
          clear hT
          go_simp
          have h1 : IsN u nk ys (x 35) := by first | exact hp.1 | exact hp.2.1 | exact hp.2 | exact hp.2.2.1 | exact hp.2.2.2.1 | exact hp.2.2.1
          have h2 : IsN u nk ys (x 39) := by first | exact hp.2 | exact hp.2.1 | exact hp.2.2 | exact hp.2.2.1 | exact hp.2.2.2.1
          obtain ⟨A1, c1, e1, i1⟩ := h1
          obtain ⟨A2, c2, e2, i2⟩ := h2
          simp only [e1, e2]
          refine (ints_same A1 A2 nk c1 c2 ys u HNk.out HNk2.out i1 i2).mono ?_
          rintro e wA ⟨rfl, hbA⟩
          refine hK _ _ _ (bt hC hbA) hbA (by exact rfl) ?_
          simp [Act.put, hp, e1, e2]
        refine AllOps.cons (fun x u hC hT hp K hK => ?_) ?_
        · simp [KnownTill, Region.binds, VRf5] at hp
          clear hT
          go_simp
          refine hK _ _ _ hC (Below.refl _ _) (by exact rfl) ?_
          first | (simp only [Act.put, List.setIfInBounds_toArray, List.set_cons_succ, List.set_cons_zero, hp]; done) | simp [Act.put, hp]
        refine AllOps.cons (fun x u hC hT hp K hK => ?_) ?_
        · simp [KnownTill, Region.binds, VRf5] at hp
          clear hT
          go_simp
          refine hK _ _ _ hC (Below.refl _ _) (by exact rfl) ?_
          first | (simp only [Act.put, List.setIfInBounds_toArray, List.set_cons_succ, List.set_cons_zero, hp]; done) | simp [Act.put, hp]
        exact AllOps.nil
      case finB =>
        intro x u hC hV
        have e4 : x 42 = .bool true := hV 42 (by decide) rfl
        rw [e4]
        clear e4
        clear hV
        have hB6 : Below w.heap.size w u := bt hB5 hC
        go_wp2
        go_ret
        exact ⟨rfl, hB6⟩
end Go.Proofs.Ytaeofacaljeckaa
