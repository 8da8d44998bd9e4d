/- Layer 12: the law that a table has what the document says. -/
import Derived.Test.YtaeofacaljeckaaKu
namespace Go.Proofs.Ytaeofacaljeckaa
open Go.RowKit Go.Maps
set_option linter.unusedVariables false
set_option linter.unusedSimpArgs false

theorem rheld_is (B x : Nat) (L : List LRow) (o : Int) (ys : List Int) (n : Nat) (hn : n = ys.length) (w : World) (h : RTab w B x L) (hl : L.length ≤ 64) (hok : LOk L) (hy : HeldKs L o ys) :
    Calls Try.prog 18 #[.pointer (some ⟨x, 0, none⟩), .int .i64 o] w fun e w' => ∃ v, e = .returned v ∧ IsN w' n ys v ∧ Below w.heap.size w w' := by
  refine (rheld_any B x L o w h hl).mono ?_
  rintro e w' ⟨A, c, zs, rfl, hE, hK, hB⟩
  obtain rfl := hK.same hy
  exact ⟨_, rfl, ⟨A, c, by rw [hn], hE.is (hK.ok hok)⟩, hB⟩
theorem HeldKs.len {L : List LRow} {o : Int} {ys : List Int} (hys : HeldKs L o ys) : ys.length ≤ L.length := by
  have := nodup_le ys (L.map (·.1)) (hys.up.imp (fun h => by omega)) (fun k hk => by
    obtain ⟨x, hx, h1, _⟩ := held_iff.1 ((hys.mem k).1 hk)
    exact List.mem_map.2 ⟨x, hx, h1⟩)
  rw [List.length_map] at this
  exact this
/-- The program's table, beside the document's. -/
def TabX (u : World) (tg xb : Nat) (L : List LRow) : Prop := Tab u tg L ∧ ∃ cs, Blk u xb 28 cs
def RTabX (u : World) (B tg xb : Nat) (L : List LRow) : Prop := RTab u B xb L ∧ ∃ cs, Blk u tg 46 cs
theorem tab_blk {u : World} {g : Nat} {L : List LRow} (h : Tab u g L) : ∃ cs, Blk u g 46 cs := by obtain ⟨m, h, _⟩ := h.src; exact ⟨_, h⟩
theorem rtab_blk {u : World} {B x : Nat} {L : List LRow} (h : RTab u B x L) : ∃ cs, Blk u x 28 cs := by obtain ⟨A, n, c, _, h, _⟩ := h; exact ⟨_, h⟩
theorem TabX.x {u u' : World} {tg xb : Nat} {L : List LRow} (h : TabX u tg xb L) (hne : tg ≠ xb) (hg : u.grownBy u' (some xb)) (hb : ∃ cs, Blk u' xb 28 cs) : TabX u' tg xb L := by
  obtain ⟨ht, cs, hk⟩ := h
  obtain ⟨m, hb1, hs⟩ := ht.src
  exact ⟨Tab.of_src ht.len (hb1.kept hg (fun e => hne (by injection e))) (hs.kept hg hk), hb⟩
theorem RTabX.t {u u' : World} {B tg xb : Nat} {L : List LRow} (h : RTabX u B tg xb L) (hne : tg ≠ xb) (hg : u.grownBy u' (some tg)) (hb : ∃ cs, Blk u' tg 46 cs) : RTabX u' B tg xb L := by
  obtain ⟨ht, cs, hk⟩ := h
  exact ⟨ht.kept hg (fun r e => by cases e; exact ⟨hne, .inr ⟨_, _, by decide, hk⟩⟩), hb⟩
theorem TabX.below {u u' : World} {tg xb : Nat} {L : List LRow} (h : TabX u tg xb L) (hb : Below u.heap.size u u') : TabX u' tg xb L := by
  obtain ⟨ht, cs, hk⟩ := h; exact ⟨ht.below hb, cs, hk.below hb hk.lt⟩
theorem RTabX.below {u u' : World} {B tg xb : Nat} {L : List LRow} (h : RTabX u B tg xb L) (hb : Below u.heap.size u u') : RTabX u' B tg xb L := by
  obtain ⟨ht, cs, hk⟩ := h; exact ⟨ht.below hb, cs, hk.below hb hk.lt⟩
def VLv (tg xb bo B : Nat) (oo oy r : Int) (oa : Bool) (L1 : List LRow) (i : Nat) (v : Value) (w : World) : Prop :=
  match i with
  | 0 => v = .pointer (some ⟨bo, 0, none⟩)
  | 1 => v = .int .i64 0
  | 2 => v = .bool true
  | 3 => v = .bool true
  | 4 => v = .pointer (some ⟨tg, 0, none⟩)
  | 5 => v = .pointer (some ⟨bo, 1, none⟩)
  | 6 => v = .int .i64 oo
  | 7 => v = .pointer (some ⟨bo, 2, none⟩)
  | 8 => v = .int .i64 oy
  | 9 => v = .pointer (some ⟨bo, 3, none⟩)
  | 10 => v = .bool oa
  | 11 => v = .int .i64 r ∧ TabX w tg xb L1
  | 12 => v = .pointer (some ⟨xb, 0, none⟩)
  | 13 => v = .pointer (some ⟨bo, 1, none⟩)
  | 14 => v = .int .i64 oo
  | 15 => v = .pointer (some ⟨bo, 2, none⟩)
  | 16 => v = .int .i64 oy
  | 17 => v = .pointer (some ⟨bo, 3, none⟩)
  | 18 => v = .bool oa
  | 19 => v = .int .i64 r ∧ RTabX w B tg xb L1
  | 20 => v = .bool false
  | 21 => v = .bool false
  | _ => True
def ELv (tg xb k : Nat) (u u' : World) : Prop := match k with
  | 11 => u.grownBy u' (some tg) ∧ ∃ cs, Blk u' tg 46 cs
  | 19 => u.grownBy u' (some xb) ∧ ∃ cs, Blk u' xb 28 cs
  | _ => Below u.heap.size u u'
def TLv (tg xb B : Nat) (L : List LRow) (j : Nat) (u : World) : Prop := match j with
  | 11 => TabX u tg xb L
  | 19 => RTabX u B tg xb L
  | _ => True
theorem VLv.mono {tg xb bo B : Nat} {oo oy r : Int} {oa : Bool} {L1 : List LRow} {k i : Nat} {v : Value} {u u' : World} (hne : tg ≠ xb) (he : ELv tg xb k u u') (hik : i ≠ k) (h : VLv tg xb bo B oo oy r oa L1 i v u) : VLv tg xb bo B oo oy r oa L1 i v u' := by
  unfold VLv at h ⊢
  split at h
  case h_12 =>
    refine ⟨h.1, ?_⟩
    unfold ELv at he
    split at he
    · exact absurd rfl hik
    · exact h.2.x hne he.1 he.2
    · exact h.2.below he
  case h_20 =>
    refine ⟨h.1, ?_⟩
    unfold ELv at he
    split at he
    · exact h.2.t hne he.1 he.2
    · exact absurd rfl hik
    · exact h.2.below he
  all_goals exact h
theorem TLv.mono {tg xb B : Nat} {L : List LRow} {k j : Nat} {u u' : World} (hne : tg ≠ xb) (he : ELv tg xb k u u') (hkj : k ≠ j) (h : TLv tg xb B L j u) : TLv tg xb B L j u' := by
  unfold TLv at h ⊢
  split at h
  · unfold ELv at he
    split at he
    · exact absurd rfl hkj
    · exact h.x hne he.1 he.2
    · exact h.below he
  · unfold ELv at he
    split at he
    · exact h.t hne he.1 he.2
    · exact absurd rfl hkj
    · exact h.below he
  · trivial
def VLw (tg xb bo nl nk c : Nat) (A : Option Addr) (oo : Int) (hd al : Bool) (ys : List Int) (i : Nat) (v : Value) (w : World) : Prop :=
  match i with
  | 0 => v = .bool hd
  | 1 => v = .bool hd
  | 2 => v = .bool false
  | 3 => v = .bool false
  | 4 => v = .bool al
  | 5 => v = .bool al
  | 6 => v = .bool false
  | 7 => v = .bool false
  | 8 => v = .bool false
  | 9 => v = .pointer (some ⟨tg, 0, none⟩)
  | 10 => v = .pointer (some ⟨bo, 1, none⟩)
  | 11 => v = .int .i64 oo
  | 12 => IsN w nk ys v
  | 13 => v = .pointer (some ⟨xb, 0, none⟩)
  | 14 => v = .pointer (some ⟨bo, 1, none⟩)
  | 15 => v = .int .i64 oo
  | 16 => IsN w nk ys v
  | 17 => v = .bool true
  | 18 => v = .bool false
  | 19 => v = .bool false
  | 20 => v = .bool false
  | 21 => v = .pointer (some ⟨tg, 0, none⟩)
  | 22 => v = .int .i64 nl
  | 23 => v = .pointer (some ⟨xb, 0, none⟩)
  | 24 => v = .pointer (some ⟨xb, 0, none⟩)
  | 25 => v = .pointer (some ⟨xb, 0, none⟩)
  | 26 => v = .slice A nl c
  | 27 => v = .int .i64 nl
  | 28 => v = .bool false
  | 29 => v = .bool false
  | _ => True
theorem VLw.mono {tg xb bo nl nk c : Nat} {A : Option Addr} {oo : Int} {hd al : Bool} {ys : List Int} {q i : Nat} {v : Value} {u u' : World} (he : Below u.heap.size u u') (h : VLw tg xb bo nl nk c A oo hd al ys i v u) : VLw tg xb bo nl nk c A oo hd al ys i v u' := by
  unfold VLw at h ⊢
  split at h <;> first | with_reducible exact h | exact IsN.below h he

set_option maxRecDepth 100000 in
set_option maxHeartbeats 8000000 in
theorem lockLives_walk (A : Option Addr) (ops : List OpV) (c : Nat) (w : World) (h : OpsAt w A ops) :
    Calls Try.prog 3 #[.slice A ops.length c] w fun e w' => e = .returned (.bool true) ∧ Below w.heap.size w w' := by
  have hlen := h.1
  unfold maxLen at hlen
  obtain ⟨n, hn⟩ : ∃ n, n = ops.length := ⟨_, rfl⟩
  rw [← hn] at hlen ⊢
  have HN := Lib.hid hn
  have HO := Lib.hid h
  clear h hn
  go_enter Try.func3, Try.ntmps3
  go_wp2_with fail
  refine (tnew_any w).mono ?_
  rintro e w1 ⟨rfl, hT1, hb1⟩
  have hb2 := ba w1 (.cells #[.slice none 0 0] 28)
  have kx := Blk.new w1 28 #[.slice none 0 0]
  have hB2 : Below w.heap.size w (w1.alloc (.cells #[.slice none 0 0] 28)) := bt hb1 hb2
  have hx2 : RTab (w1.alloc (.cells #[.slice none 0 0] 28)) w.heap.size w1.heap.size [] := ⟨none, 0, 0, rfl, kx, LRows.empty _ _⟩
  have ht2 := hT1.below hb2
  have hlt1 := hT1.lt
  clear hT1 hb2 kx
  go_wp2_with fail
  obtain ⟨xb, hxb⟩ : ∃ xb, xb = w1.heap.size := ⟨_, rfl⟩
  have htx : w.heap.size ≠ xb := by have := hlt1; omega
  rw [← hxb] at hx2 ⊢
  have hwt : w.heap.size ≤ w.heap.size := by omega
  have hwx : w.heap.size ≤ xb := by have := hb1.size; omega
  have Hxb := Lib.hid hxb
  clear hb1 hlt1
  go_loopw [5] (fun i wr => ∃ (j : Nat) (L : List LRow), j ≤ n ∧ j ≤ 100 ∧ i = .int .i64 j ∧ Hid (NoClash L) ∧ TabX wr w.heap.size xb L ∧ RTabX wr w.heap.size w.heap.size xb L ∧ Below w.heap.size w wr) (fun i _ => 100 - (intOf i).toNat)
  case atStart => exact ⟨0, [], Nat.zero_le _, by omega, rfl, Lib.hid (fun x hx => by cases hx), ⟨ht2, rtab_blk hx2⟩, ⟨hx2, tab_blk ht2⟩, hB2⟩
  case round =>
    clear hB2 hx2 ht2 hxb
    obtain ⟨j, L, hj, hj1, rfl, hnc, ht, hx, hb⟩ := hrel
    by_cases hjn : j < n
    · by_cases hj3 : j < 100
      · have hjI : (j : Int) < (n : Int) := by omega
        have hj3I : (j : Int) < 100 := by omega
        obtain ⟨b, o, rfl, hlt, hcs⟩ := (HO.out.below hb).2.2 (by have := HN.out; omega)
        have hjo : j < ops.length := by have := HN.out; omega
        obtain ⟨q0, q1, q2, q3⟩ := hcs j hjo
        have hok := HO.out.2.1 _ (List.getElem_mem hjo)
        obtain ⟨op, hop⟩ : ∃ op, op = ops[j] := ⟨_, rfl⟩
        rw [← hop] at q0 q1 q2 q3 hok
        clear hop hcs hjo
        obtain ⟨ok, oo, oy, oa⟩ := op
        have hio : i64ok oo := ⟨hok.o1, hok.o2⟩
        have hik : i64ok oy := ⟨hok.y1, hok.y2⟩
        simp only at q0 q1 q2 q3
        go_wp2_with fail
        have hb3 := ba wr (.cells #[.int .i64 ok, .int .i64 oo, .int .i64 oy, .bool oa] 30)
        have ko := Blk.new wr 30 #[.int .i64 ok, .int .i64 oo, .int .i64 oy, .bool oa]
        have ht2 := ht.below hb3
        have hx2 := hx.below hb3
        have hBo : Below w.heap.size w (wr.alloc (.cells #[.int .i64 ok, .int .i64 oo, .int .i64 oy, .bool oa] 30)) := bt hb hb3
        obtain ⟨bo, hbo⟩ : ∃ bo, bo = wr.heap.size := ⟨_, rfl⟩
        rw [← hbo] at ko ⊢
        generalize hw2 : wr.alloc (.cells #[.int .i64 ok, .int .i64 oo, .int .i64 oy, .bool oa] 30) = w2 at *
        have hbt : bo ≠ w.heap.size := fun e => by obtain ⟨cs, hk⟩ := hx2.2; exact ko.ne hk (by decide) e
        have hbx : bo ≠ xb := fun e => by obtain ⟨cs, hk⟩ := ht2.2; exact ko.ne hk (by decide) e
        have hxt : xb ≠ w.heap.size := fun e => htx e.symm
        clear hw2 hbo ht hx hb hb3 q0 q1 q2 q3 hok
        have Hgr : Hid (∀ (u u' : World) (row : Nat), Below w.heap.size w u → u.grownBy u' (some row) → (row = w.heap.size ∨ row = xb) → Below w.heap.size w u') := Lib.hid (fun u u' row hu hg hr => hu.grown hg hu.size (fun k e => by cases e; rcases hr with e | e <;> rw [e] <;> assumption))
        by_cases hk0 : ok = 0
        · subst hk0
          obtain ⟨R, hR⟩ : ∃ R, R = takeL L oo oy oa := ⟨_, rfl⟩
          obtain ⟨r, L1⟩ := R
          have hnc1 : Hid (NoClash L1) := Lib.hid (by have := hnc.out.take oo oy oa; rw [← hR] at this; exact this)
          have Htk := Lib.hid (fun u (t : Tab u w.heap.size L) => take_is _ _ _ _ _ _ _ u t hik hio hR.symm)
          have hLen := ht2.1.len
          have hLok := ht2.1.ok
          have Hxk := Lib.hid (fun u (hu : Below w.heap.size w u) (t : RTab u w.heap.size xb L) => (show Calls Try.prog 11 #[.pointer (some ⟨xb, 0, none⟩), .int .i64 oo, .int .i64 oy, .bool oa] u (RTakeO u w.heap.size xb (r, L1)) from hR ▸ rtake_any w.heap.size xb L oo oy oa u t hLen hu.size hLok hnc.out))
          clear hR hnc hLen hLok
          refine wp_region_invT (F := ?FE) (V := VLv w.heap.size xb bo w.heap.size oo oy r oa L1) (dead := fun _ => none) (T := TLv w.heap.size xb w.heap.size L) (C := fun u => Blk u bo 30 #[.int .i64 0, .int .i64 oo, .int .i64 oy, .bool oa] ∧ Below w.heap.size w u) (E := ELv w.heap.size xb) (by kernel_rfl) (by kernel_rfl) (by kernel_rfl) (fun x => ?hFE) ?hmonoE ?hTmE ?hTE ?hCE ?stepE ?finE
          case hFE => simp only [mkA, Act.put, List.setIfInBounds_toArray, List.set_cons_succ, List.set_cons_zero, Nat.reduceAdd, Nat.zero_add]; first | with_reducible rfl | rfl
          case hmonoE => exact fun q' i v u u' he hik hwt hdd hv => VLv.mono htx he hik hv
          case hTmE => exact fun q j u u' he hkj hwt hv => TLv.mono htx he hkj hv
          case hTE => exact fun j => by unfold TLv; split <;> first | exact ht2.below ((Below.refl _ _).drew) | exact hx2.below ((Below.refl _ _).drew) | trivial
          case hCE => exact ⟨ko, hBo.drew⟩
          case stepE =>
            refine AllOps.cons (fun x u hC hT hp K hK => ?_) ?_
            · clear hp hT
              go_simp
              refine hK _ _ _ hC (Below.refl _ _) (by exact rfl) ?_
              first | (simp only [Act.put, List.setIfInBounds_toArray, List.set_cons_succ, List.set_cons_zero]; done) | simp [Act.put]
            refine AllOps.cons (fun x u hC hT hp K hK => ?_) ?_
            · simp [KnownTill, Region.binds, VLv] at hp
              clear hT
              have qq := hC.1.cell 0
              simp only [List.getElem?_toArray, List.getElem?_cons_zero, List.getElem?_cons_succ] at qq
              go_simp
              refine hK _ _ _ hC (Below.refl _ _) (by exact rfl) ?_
              first | (simp only [Act.put, List.setIfInBounds_toArray, List.set_cons_succ, List.set_cons_zero, hp]; done) | simp [Act.put, hp]
            refine AllOps.cons (fun x u hC hT hp K hK => ?_) ?_
            · simp [KnownTill, Region.binds, VLv] at hp
              clear hT
              go_simp
              refine hK _ _ _ hC (Below.refl _ _) (by exact rfl) ?_
              first | (simp only [Act.put, List.setIfInBounds_toArray, List.set_cons_succ, List.set_cons_zero, hp]; done) | simp [Act.put, hp]
            refine AllOps.cons (fun x u hC hT hp K hK => ?_) ?_
            · simp [KnownTill, Region.binds, VLv] at hp
              clear hT
              go_simp
              refine hK _ _ _ hC (Below.refl _ _) (by exact rfl) ?_
              first | (simp only [Act.put, List.setIfInBounds_toArray, List.set_cons_succ, List.set_cons_zero, hp]; done) | simp [Act.put, hp]
            refine AllOps.cons (fun x u hC hT hp K hK => ?_) ?_
            · simp [KnownTill, Region.binds, VLv] at hp
              clear hT
              go_simp
              refine hK _ _ _ hC (Below.refl _ _) (by exact rfl) ?_
              first | (simp only [Act.put, List.setIfInBounds_toArray, List.set_cons_succ, List.set_cons_zero, hp]; done) | simp [Act.put, hp]
            refine AllOps.cons (fun x u hC hT hp K hK => ?_) ?_
            · simp [KnownTill, Region.binds, VLv] at hp
              clear hT
              go_simp
              refine hK _ _ _ hC (Below.refl _ _) (by exact rfl) ?_
              first | (simp only [Act.put, List.setIfInBounds_toArray, List.set_cons_succ, List.set_cons_zero, hp]; done) | simp [Act.put, hp]
            refine AllOps.cons (fun x u hC hT hp K hK => ?_) ?_
            · simp [KnownTill, Region.binds, VLv] at hp
              clear hT
              have qq := hC.1.cell 1
              simp only [List.getElem?_toArray, List.getElem?_cons_zero, List.getElem?_cons_succ] at qq
              go_simp
              refine hK _ _ _ hC (Below.refl _ _) (by exact rfl) ?_
              first | (simp only [Act.put, List.setIfInBounds_toArray, List.set_cons_succ, List.set_cons_zero, hp]; done) | simp [Act.put, hp]
            refine AllOps.cons (fun x u hC hT hp K hK => ?_) ?_
            · simp [KnownTill, Region.binds, VLv] at hp
              clear hT
              go_simp
              refine hK _ _ _ hC (Below.refl _ _) (by exact rfl) ?_
              first | (simp only [Act.put, List.setIfInBounds_toArray, List.set_cons_succ, List.set_cons_zero, hp]; done) | simp [Act.put, hp]
            refine AllOps.cons (fun x u hC hT hp K hK => ?_) ?_
            · simp [KnownTill, Region.binds, VLv] at hp
              clear hT
              have qq := hC.1.cell 2
              simp only [List.getElem?_toArray, List.getElem?_cons_zero, List.getElem?_cons_succ] at qq
              go_simp
              refine hK _ _ _ hC (Below.refl _ _) (by exact rfl) ?_
              first | (simp only [Act.put, List.setIfInBounds_toArray, List.set_cons_succ, List.set_cons_zero, hp]; done) | simp [Act.put, hp]
            refine AllOps.cons (fun x u hC hT hp K hK => ?_) ?_
            · simp [KnownTill, Region.binds, VLv] at hp
              clear hT
              go_simp
              refine hK _ _ _ hC (Below.refl _ _) (by exact rfl) ?_
              first | (simp only [Act.put, List.setIfInBounds_toArray, List.set_cons_succ, List.set_cons_zero, hp]; done) | simp [Act.put, hp]
            refine AllOps.cons (fun x u hC hT hp K hK => ?_) ?_
            · simp [KnownTill, Region.binds, VLv] at hp
              clear hT
              have qq := hC.1.cell 3
              simp only [List.getElem?_toArray, List.getElem?_cons_zero, List.getElem?_cons_succ] at qq
              go_simp
              refine hK _ _ _ hC (Below.refl _ _) (by exact rfl) ?_
              first | (simp only [Act.put, List.setIfInBounds_toArray, List.set_cons_succ, List.set_cons_zero, hp]; done) | simp [Act.put, hp]
            refine AllOps.cons (fun x u hC hT hp K hK => ?_) ?_
            · simp [KnownTill, Region.binds, VLv] at hp
              go_simp
              have hT1 : TabX u w.heap.size xb L := hT
              refine (Htk.out u hT1.1).mono ?_
              rintro e uA ⟨rfl, p1, p2⟩
              refine hK _ _ _ ⟨hC.1.kept p2 (fun e => hbt (by injection e)), Hgr.out _ _ _ hC.2 p2 (Or.inl rfl)⟩ ⟨p2, tab_blk p1⟩ ⟨rfl, p1, (hT1.2.elim fun cs hk => ⟨cs, hk.kept p2 (fun e => hxt (by injection e))⟩)⟩ ?_
              first | (simp only [Act.put, List.setIfInBounds_toArray, List.set_cons_succ, List.set_cons_zero, hp]; done) | simp [Act.put, hp]
            refine AllOps.cons (fun x u hC hT hp K hK => ?_) ?_
            · simp [KnownTill, Region.binds, VLv] at hp
              clear hT
              go_simp
              refine hK _ _ _ hC (Below.refl _ _) (by exact rfl) ?_
              first | (simp only [Act.put, List.setIfInBounds_toArray, List.set_cons_succ, List.set_cons_zero, hp]; done) | simp [Act.put, hp]
            refine AllOps.cons (fun x u hC hT hp K hK => ?_) ?_
            · simp [KnownTill, Region.binds, VLv] at hp
              clear hT
              go_simp
              refine hK _ _ _ hC (Below.refl _ _) (by exact rfl) ?_
              first | (simp only [Act.put, List.setIfInBounds_toArray, List.set_cons_succ, List.set_cons_zero, hp]; done) | simp [Act.put, hp]
            refine AllOps.cons (fun x u hC hT hp K hK => ?_) ?_
            · simp [KnownTill, Region.binds, VLv] at hp
              clear hT
              have qq := hC.1.cell 1
              simp only [List.getElem?_toArray, List.getElem?_cons_zero, List.getElem?_cons_succ] at qq
              go_simp
              refine hK _ _ _ hC (Below.refl _ _) (by exact rfl) ?_
              first | (simp only [Act.put, List.setIfInBounds_toArray, List.set_cons_succ, List.set_cons_zero, hp]; done) | simp [Act.put, hp]
            refine AllOps.cons (fun x u hC hT hp K hK => ?_) ?_
            · simp [KnownTill, Region.binds, VLv] at hp
              clear hT
              go_simp
              refine hK _ _ _ hC (Below.refl _ _) (by exact rfl) ?_
              first | (simp only [Act.put, List.setIfInBounds_toArray, List.set_cons_succ, List.set_cons_zero, hp]; done) | simp [Act.put, hp]
            refine AllOps.cons (fun x u hC hT hp K hK => ?_) ?_
            · simp [KnownTill, Region.binds, VLv] at hp
              clear hT
              have qq := hC.1.cell 2
              simp only [List.getElem?_toArray, List.getElem?_cons_zero, List.getElem?_cons_succ] at qq
              go_simp
              refine hK _ _ _ hC (Below.refl _ _) (by exact rfl) ?_
              first | (simp only [Act.put, List.setIfInBounds_toArray, List.set_cons_succ, List.set_cons_zero, hp]; done) | simp [Act.put, hp]
            refine AllOps.cons (fun x u hC hT hp K hK => ?_) ?_
            · simp [KnownTill, Region.binds, VLv] at hp
              clear hT
              go_simp
              refine hK _ _ _ hC (Below.refl _ _) (by exact rfl) ?_
              first | (simp only [Act.put, List.setIfInBounds_toArray, List.set_cons_succ, List.set_cons_zero, hp]; done) | simp [Act.put, hp]
            refine AllOps.cons (fun x u hC hT hp K hK => ?_) ?_
            · simp [KnownTill, Region.binds, VLv] at hp
              clear hT
              have qq := hC.1.cell 3
              simp only [List.getElem?_toArray, List.getElem?_cons_zero, List.getElem?_cons_succ] at qq
              go_simp
              refine hK _ _ _ hC (Below.refl _ _) (by exact rfl) ?_
              first | (simp only [Act.put, List.setIfInBounds_toArray, List.set_cons_succ, List.set_cons_zero, hp]; done) | simp [Act.put, hp]
            refine AllOps.cons (fun x u hC hT hp K hK => ?_) ?_
            · simp [KnownTill, Region.binds, VLv] at hp
              go_simp
              have hT1 : RTabX u w.heap.size w.heap.size xb L := hT
              refine (Hxk.out u hC.2 hT1.1).mono ?_
              rintro e uA ⟨rfl, p1, p2⟩
              refine hK _ _ _ ⟨hC.1.kept p2 (fun e => hbx (by injection e)), Hgr.out _ _ _ hC.2 p2 (Or.inr rfl)⟩ ⟨p2, rtab_blk p1⟩ ⟨rfl, p1, (hT1.2.elim fun cs hk => ⟨cs, hk.kept p2 (fun e => hxt (by injection e; exact Eq.symm ‹_›))⟩)⟩ ?_
              first | (simp only [Act.put, List.setIfInBounds_toArray, List.set_cons_succ, List.set_cons_zero, hp]; done) | simp [Act.put, hp]
            refine AllOps.cons (fun x u hC hT hp K hK => ?_) ?_
            · simp [KnownTill, Region.binds, VLv] at hp
              clear hT
              go_simp
              refine hK _ _ _ hC (Below.refl _ _) (by exact rfl) ?_
              first | (simp only [Act.put, List.setIfInBounds_toArray, List.set_cons_succ, List.set_cons_zero, hp]; done) | simp [Act.put, hp]
            refine AllOps.cons (fun x u hC hT hp K hK => ?_) ?_
            · simp [KnownTill, Region.binds, VLv] at hp
              clear hT
              go_simp
              refine hK _ _ _ hC (Below.refl _ _) (by exact rfl) ?_
              first | (simp only [Act.put, List.setIfInBounds_toArray, List.set_cons_succ, List.set_cons_zero, hp]; done) | simp [Act.put, hp]
            exact AllOps.nil
          case finE =>
            intro x u8 hC hV
            obtain ⟨_, ht5⟩ : x 11 = .int .i64 r ∧ TabX u8 w.heap.size xb L1 := hV 11 (by decide) rfl
            obtain ⟨_, hx5⟩ : x 19 = .int .i64 r ∧ RTabX u8 w.heap.size w.heap.size xb L1 := hV 19 (by decide) rfl
            have e21 : x 21 = .bool false := hV 21 (by decide) rfl
            obtain ⟨ko5, hB5⟩ := hC
            rw [e21]
            clear hV e21 Htk Hxk ht2 hx2 ko hBo
            have d1 := ko5.cell 1
            have d2 := ko5.cell 2
            have d0 := ko5.cell 0
            simp only [List.getElem?_toArray, List.getElem?_cons_zero, List.getElem?_cons_succ] at d0 d1 d2
            have hLen := ht5.1.len
            have hLok := ht5.1.ok
            have Hh1 := Lib.hid (holds_any _ _ oo oy u8 ht5.1 hik hio)
            have Hh2 := Lib.hid (fun u (t : RTab u w.heap.size xb L1) => rholds_any w.heap.size xb L1 oo oy u t (by omega) hLok)
            obtain ⟨ys, hys⟩ := heldKs_ex L1 hLok oo
            obtain ⟨nk, hnk⟩ : ∃ nk, nk = ys.length := ⟨_, rfl⟩
            have HNk := Lib.hid hnk
            have HNk2 : Hid (nk ≤ 9223372036854775807) := Lib.hid (by have := hys.len; omega)
            generalize heldL L1 oy oo = hd at Hh1 Hh2
            generalize aloneL L1 oy oo = al at Hh1 Hh2
            go_wp2_with fail
            refine Hh1.out.mono ?_
            clear Hh1
            rintro e w6 ⟨rfl, b6⟩
            have ht6 := ht5.below b6
            have hx6 := hx5.below b6
            have ko6 := ko5.below b6 ko5.lt
            have hB6 := bt hB5 b6
            have d1 := ko6.cell 1
            have d2 := ko6.cell 2
            simp only [List.getElem?_toArray, List.getElem?_cons_zero, List.getElem?_cons_succ] at d1 d2
            clear ht5 hx5 ko5 hB5 b6
            go_wp2_with fail
            refine (Hh2.out w6 hx6.1).mono ?_
            clear Hh2
            rintro e wq ⟨rfl, b7⟩
            have ht7 := ht6.below b7
            have hx7 := hx6.below b7
            have kq6 := ko6.below b7 ko6.lt
            have hB7 := bt hB6 b7
            obtain ⟨A9, nl, c9, hnl, kx6, R9⟩ := hx7.1
            have Hth := Lib.hid (fun u (hb : Below wq.heap.size wq u) => held_is _ _ oo ys nk hnk u (ht7.1.below hb) hys)
            have Hxh := Lib.hid (fun u (hb : Below wq.heap.size wq u) => rheld_is w.heap.size _ _ oo ys nk hnk u (hx7.1.below hb) hLen hLok hys)
            have Htl := Lib.hid (fun u (hb : Below wq.heap.size wq u) => (show Calls Try.prog 19 #[.pointer (some ⟨w.heap.size, 0, none⟩)] u (fun e w' => e = .returned (.int .i64 nl) ∧ u = w') from hnl.out ▸ tlen_any _ _ u (ht7.1.below hb)))
            clear ht6 hx6 ko6 hB6 b7 d1 d2 R9 hnk hys hLen hLok
            go_wp2_with fail
            refine wp_region_invT (F := ?FFa) (V := VLw w.heap.size xb bo nl nk c9 A9 oo hd al ys) (dead := fun _ => none) (T := fun _ _ => True) (C := fun u => Below wq.heap.size wq u) (E := fun _ u u' => Below u.heap.size u u') (by kernel_rfl) (by kernel_rfl) (by kernel_rfl) (fun x => ?hFFa) ?hmonoFa ?hTmFa ?hTFa ?hCFa ?stepFa ?finFa
            case hFFa => simp only [mkA, Act.put, List.setIfInBounds_toArray, List.set_cons_succ, List.set_cons_zero, Nat.reduceAdd, Nat.zero_add]; first | with_reducible rfl | rfl
            case hmonoFa => exact fun q' i v u u' he hik hwt hdd hv => VLw.mono (q := q') he hv
            case hTmFa => exact fun _ _ _ _ _ _ _ _ => trivial
            case hTFa => exact fun j => trivial
            case hCFa => exact (Below.refl _ _).drew
            case stepFa =>
              refine AllOps.cons (fun x u hC hT hp K hK => ?_) ?_
              · clear hp hT
                go_simp
                refine hK _ _ _ hC (Below.refl _ _) (by exact rfl) ?_
                first | (simp only [Act.put, List.setIfInBounds_toArray, List.set_cons_succ, List.set_cons_zero]; done) | simp [Act.put]
              refine AllOps.cons (fun x u hC hT hp K hK => ?_) ?_
              · clear hp hT
                go_simp
                refine hK _ _ _ hC (Below.refl _ _) (by exact rfl) ?_
                first | (simp only [Act.put, List.setIfInBounds_toArray, List.set_cons_succ, List.set_cons_zero]; done) | simp [Act.put]
              refine AllOps.cons (fun x u hC hT hp K hK => ?_) ?_
              · simp [KnownTill, Region.binds, VLw] at hp
                clear hT
                go_simp
                refine hK _ _ _ hC (Below.refl _ _) (by exact rfl) ?_
                first | (simp only [Act.put, List.setIfInBounds_toArray, List.set_cons_succ, List.set_cons_zero, hp]; done) | simp [Act.put, hp]
              refine AllOps.cons (fun x u hC hT hp K hK => ?_) ?_
              · simp [KnownTill, Region.binds, VLw] at hp
                clear hT
                go_simp
                refine hK _ _ _ hC (Below.refl _ _) (by exact rfl) ?_
                first | (simp only [Act.put, List.setIfInBounds_toArray, List.set_cons_succ, List.set_cons_zero, hp]; done) | simp [Act.put, hp]
              refine AllOps.cons (fun x u hC hT hp K hK => ?_) ?_
              · simp [KnownTill, Region.binds, VLw] at hp
                clear hT
                go_simp
                refine hK _ _ _ hC (Below.refl _ _) (by exact rfl) ?_
                first | (simp only [Act.put, List.setIfInBounds_toArray, List.set_cons_succ, List.set_cons_zero, hp]; done) | simp [Act.put, hp]
              refine AllOps.cons (fun x u hC hT hp K hK => ?_) ?_
              · simp [KnownTill, Region.binds, VLw] at hp
                clear hT
                go_simp
                refine hK _ _ _ hC (Below.refl _ _) (by exact rfl) ?_
                first | (simp only [Act.put, List.setIfInBounds_toArray, List.set_cons_succ, List.set_cons_zero, hp]; done) | simp [Act.put, hp]
              refine AllOps.cons (fun x u hC hT hp K hK => ?_) ?_
              · simp [KnownTill, Region.binds, VLw] at hp
                clear hT
                go_simp
                refine hK _ _ _ hC (Below.refl _ _) (by exact rfl) ?_
                first | (simp only [Act.put, List.setIfInBounds_toArray, List.set_cons_succ, List.set_cons_zero, hp]; done) | simp [Act.put, hp]
              refine AllOps.cons (fun x u hC hT hp K hK => ?_) ?_
              · simp [KnownTill, Region.binds, VLw] at hp
                clear hT
                go_simp
                refine hK _ _ _ hC (Below.refl _ _) (by exact rfl) ?_
                first | (simp only [Act.put, List.setIfInBounds_toArray, List.set_cons_succ, List.set_cons_zero, hp]; done) | simp [Act.put, hp]
              refine AllOps.cons (fun x u hC hT hp K hK => ?_) ?_
              · simp [KnownTill, Region.binds, VLw] at hp
                clear hT
                go_simp
                refine hK _ _ _ hC (Below.refl _ _) (by exact rfl) ?_
                first | (simp only [Act.put, List.setIfInBounds_toArray, List.set_cons_succ, List.set_cons_zero, hp]; done) | simp [Act.put, hp]
              refine AllOps.cons (fun x u hC hT hp K hK => ?_) ?_
              · simp [KnownTill, Region.binds, VLw] at hp
                clear hT
                go_simp
                refine hK _ _ _ hC (Below.refl _ _) (by exact rfl) ?_
                first | (simp only [Act.put, List.setIfInBounds_toArray, List.set_cons_succ, List.set_cons_zero, hp]; done) | simp [Act.put, hp]
              refine AllOps.cons (fun x u hC hT hp K hK => ?_) ?_
              · simp [KnownTill, Region.binds, VLw] at hp
                clear hT
                go_simp
                refine hK _ _ _ hC (Below.refl _ _) (by exact rfl) ?_
                first | (simp only [Act.put, List.setIfInBounds_toArray, List.set_cons_succ, List.set_cons_zero, hp]; done) | simp [Act.put, hp]
              refine AllOps.cons (fun x u hC hT hp K hK => ?_) ?_
              · simp [KnownTill, Region.binds, VLw] at hp
                clear hT
                have kq := kq6.below (hC : Below _ _ u) kq6.lt
                have qq := kq.cell 1
                simp only [List.getElem?_toArray, List.getElem?_cons_zero, List.getElem?_cons_succ] at qq
                go_simp
                refine hK _ _ _ hC (Below.refl _ _) (by exact rfl) ?_
                first | (simp only [Act.put, List.setIfInBounds_toArray, List.set_cons_succ, List.set_cons_zero, hp]; done) | simp [Act.put, hp]
              refine AllOps.cons (fun x u hC hT hp K hK => ?_) ?_
              · simp [KnownTill, Region.binds, VLw] at hp
                clear hT
                go_simp
                refine (Hth.out u hC).mono ?_
                rintro e wA ⟨vA, rfl, hvA, hbA⟩
                refine hK _ _ _ (bt hC hbA) hbA hvA ?_
                first | (simp only [Act.put, List.setIfInBounds_toArray, List.set_cons_succ, List.set_cons_zero, hp]; done) | simp [Act.put, hp]
              refine AllOps.cons (fun x u hC hT hp K hK => ?_) ?_
              · simp [KnownTill, Region.binds, VLw] at hp
                clear hT
                go_simp
                refine hK _ _ _ hC (Below.refl _ _) (by exact rfl) ?_
                first | (simp only [Act.put, List.setIfInBounds_toArray, List.set_cons_succ, List.set_cons_zero, hp]; done) | simp [Act.put, hp]
              refine AllOps.cons (fun x u hC hT hp K hK => ?_) ?_
              · simp [KnownTill, Region.binds, VLw] at hp
                clear hT
                go_simp
                refine hK _ _ _ hC (Below.refl _ _) (by exact rfl) ?_
                first | (simp only [Act.put, List.setIfInBounds_toArray, List.set_cons_succ, List.set_cons_zero, hp]; done) | simp [Act.put, hp]
              refine AllOps.cons (fun x u hC hT hp K hK => ?_) ?_
              · simp [KnownTill, Region.binds, VLw] at hp
                clear hT
                have kq := kq6.below (hC : Below _ _ u) kq6.lt
                have qq := kq.cell 1
                simp only [List.getElem?_toArray, List.getElem?_cons_zero, List.getElem?_cons_succ] at qq
                go_simp
                refine hK _ _ _ hC (Below.refl _ _) (by exact rfl) ?_
                first | (simp only [Act.put, List.setIfInBounds_toArray, List.set_cons_succ, List.set_cons_zero, hp]; done) | simp [Act.put, hp]
              refine AllOps.cons (fun x u hC hT hp K hK => ?_) ?_
              · simp [KnownTill, Region.binds, VLw] at hp
                clear hT
                go_simp
                refine (Hxh.out u hC).mono ?_
                rintro e wA ⟨vA, rfl, hvA, hbA⟩
                refine hK _ _ _ (bt hC hbA) hbA hvA ?_
                first | (simp only [Act.put, List.setIfInBounds_toArray, List.set_cons_succ, List.set_cons_zero, hp]; done) | simp [Act.put, hp]
              refine AllOps.cons (fun x u hC hT hp K hK => ?_) ?_
              · simp [KnownTill, Region.binds, VLw] at hp
                clear hT
                go_simp
                have h1 : IsN u nk ys (x 12) := by first | exact hp.1 | exact hp.2.1 | exact hp.2 | exact hp.2.2.1 | exact hp.2.2.2.1 | exact hp.2.2.1
                have h2 : IsN u nk ys (x 16) := by first | exact hp.2 | exact hp.2.1 | exact hp.2.2 | exact hp.2.2.1 | exact hp.2.2.2.1
                obtain ⟨A1, c1, e1, i1⟩ := h1
                obtain ⟨A2, c2, e2, i2⟩ := h2
                simp only [e1, e2]
                refine (ints_same A1 A2 nk c1 c2 ys u HNk.out HNk2.out i1 i2).mono ?_
                rintro e wA ⟨rfl, hbA⟩
                refine hK _ _ _ (bt hC hbA) hbA (by exact rfl) ?_
                simp [Act.put, hp, e1, e2]
              refine AllOps.cons (fun x u hC hT hp K hK => ?_) ?_
              · simp [KnownTill, Region.binds, VLw] at hp
                clear hT
                go_simp
                refine hK _ _ _ hC (Below.refl _ _) (by exact rfl) ?_
                first | (simp only [Act.put, List.setIfInBounds_toArray, List.set_cons_succ, List.set_cons_zero, hp]; done) | simp [Act.put, hp]
              refine AllOps.cons (fun x u hC hT hp K hK => ?_) ?_
              · simp [KnownTill, Region.binds, VLw] at hp
                clear hT
                go_simp
                refine hK _ _ _ hC (Below.refl _ _) (by exact rfl) ?_
                first | (simp only [Act.put, List.setIfInBounds_toArray, List.set_cons_succ, List.set_cons_zero, hp]; done) | simp [Act.put, hp]
              refine AllOps.cons (fun x u hC hT hp K hK => ?_) ?_
              · simp [KnownTill, Region.binds, VLw] at hp
                clear hT
                go_simp
                refine hK _ _ _ hC (Below.refl _ _) (by exact rfl) ?_
                first | (simp only [Act.put, List.setIfInBounds_toArray, List.set_cons_succ, List.set_cons_zero, hp]; done) | simp [Act.put, hp]
              refine AllOps.cons (fun x u hC hT hp K hK => ?_) ?_
              · simp [KnownTill, Region.binds, VLw] at hp
                clear hT
                go_simp
                refine hK _ _ _ hC (Below.refl _ _) (by exact rfl) ?_
                first | (simp only [Act.put, List.setIfInBounds_toArray, List.set_cons_succ, List.set_cons_zero, hp]; done) | simp [Act.put, hp]
              refine AllOps.cons (fun x u hC hT hp K hK => ?_) ?_
              · simp [KnownTill, Region.binds, VLw] at hp
                clear hT
                go_simp
                refine (Htl.out u hC).mono ?_
                rintro e wA ⟨rfl, rfl⟩
                refine hK _ _ _ hC (Below.refl _ _) (by exact rfl) ?_
                first | (simp only [Act.put, List.setIfInBounds_toArray, List.set_cons_succ, List.set_cons_zero, hp]; done) | simp [Act.put, hp]
              refine AllOps.cons (fun x u hC hT hp K hK => ?_) ?_
              · simp [KnownTill, Region.binds, VLw] at hp
                clear hT
                go_simp
                refine hK _ _ _ hC (Below.refl _ _) (by exact rfl) ?_
                first | (simp only [Act.put, List.setIfInBounds_toArray, List.set_cons_succ, List.set_cons_zero, hp]; done) | simp [Act.put, hp]
              refine AllOps.cons (fun x u hC hT hp K hK => ?_) ?_
              · simp [KnownTill, Region.binds, VLw] at hp
                clear hT
                go_simp
                refine hK _ _ _ hC (Below.refl _ _) (by exact rfl) ?_
                first | (simp only [Act.put, List.setIfInBounds_toArray, List.set_cons_succ, List.set_cons_zero, hp]; done) | simp [Act.put, hp]
              refine AllOps.cons (fun x u hC hT hp K hK => ?_) ?_
              · simp [KnownTill, Region.binds, VLw] at hp
                clear hT
                go_simp
                refine hK _ _ _ hC (Below.refl _ _) (by exact rfl) ?_
                first | (simp only [Act.put, List.setIfInBounds_toArray, List.set_cons_succ, List.set_cons_zero, hp]; done) | simp [Act.put, hp]
              refine AllOps.cons (fun x u hC hT hp K hK => ?_) ?_
              · simp [KnownTill, Region.binds, VLw] at hp
                clear hT
                have kq := kx6.below (hC : Below _ _ u) kx6.lt
                have qq := kq.cell 0
                simp only [List.getElem?_toArray, List.getElem?_cons_zero, List.getElem?_cons_succ] at qq
                go_simp
                refine hK _ _ _ hC (Below.refl _ _) (by exact rfl) ?_
                first | (simp only [Act.put, List.setIfInBounds_toArray, List.set_cons_succ, List.set_cons_zero, hp]; done) | simp [Act.put, hp]
              refine AllOps.cons (fun x u hC hT hp K hK => ?_) ?_
              · simp [KnownTill, Region.binds, VLw] at hp
                clear hT
                go_simp
                refine hK _ _ _ hC (Below.refl _ _) (by exact rfl) ?_
                first | (simp only [Act.put, List.setIfInBounds_toArray, List.set_cons_succ, List.set_cons_zero, hp]; done) | simp [Act.put, hp]
              refine AllOps.cons (fun x u hC hT hp K hK => ?_) ?_
              · simp [KnownTill, Region.binds, VLw] at hp
                clear hT
                go_simp
                refine hK _ _ _ hC (Below.refl _ _) (by exact rfl) ?_
                first | (simp only [Act.put, List.setIfInBounds_toArray, List.set_cons_succ, List.set_cons_zero, hp]; done) | simp [Act.put, hp]
              refine AllOps.cons (fun x u hC hT hp K hK => ?_) ?_
              · simp [KnownTill, Region.binds, VLw] at hp
                clear hT
                go_simp
                refine hK _ _ _ hC (Below.refl _ _) (by exact rfl) ?_
                first | (simp only [Act.put, List.setIfInBounds_toArray, List.set_cons_succ, List.set_cons_zero, hp]; done) | simp [Act.put, hp]
              exact AllOps.nil
            case finFa =>
              intro x u hC hV
              have e121 : x 29 = .bool false := hV 29 (by decide) rfl
              rw [e121]
              clear e121
              clear hV
              have ht8 := ht7.below hC
              have hx8 := hx7.below hC
              have hB8 := bt hB7 hC
              clear hC ht7 hx7 hB7 Hth Hxh Htl
              go_wp2
              go_roundw
              case rel => exact ⟨j + 1, L1, by omega, by omega, by go_num, hnc1, ht8, hx8, hB8⟩
              case measure => simp [intOf]; omega
        · have k0 := ko.cell 0
          simp only [List.getElem?_toArray, List.getElem?_cons_zero] at k0
          have K0 := fun k : Nat => (show (w2.drewN k).cell? _ = _ from k0)
          have hk0b : (ok == 0) = false := by simp [hk0]
          clear k0
          go_quiet (fail)
          have hbd : Below w2.heap.size w2 (w2.drewN nq) := ⟨rfl, rfl, rfl, Nat.le_refl _, fun _ _ => rfl⟩
          have ht3 := ht2.below hbd
          have hx3 := hx2.below hbd
          have hB3 := bt hBo hbd
          have ko3 := ko.below hbd ko.lt
          generalize w2.drewN nq = w3 at *
          clear hbd ht2 hx2 hBo K0
          by_cases hk1 : ok = 1
          · subst hk1
            have d0 := ko3.cell 0
            have d1 := ko3.cell 1
            simp only [List.getElem?_toArray, List.getElem?_cons_zero, List.getElem?_cons_succ] at d0 d1
            obtain ⟨L1, hL1⟩ : ∃ L1, L1 = dropL L oo := ⟨_, rfl⟩
            have hdr := drop_is w.heap.size L L1 oo _ w3 ht3.1 hio hL1.symm rfl
            have hLen := ht3.1.len
            obtain ⟨dn, hdn⟩ : ∃ dn, dn = ((L.length : Int) - (L1.length : Int)) := ⟨_, rfl⟩
            rw [← hdn] at hdr
            have Hxd := Lib.hid (fun u (hu : Below w.heap.size w u) (t : RTab u w.heap.size xb L) => (show Calls Try.prog 13 #[.pointer (some ⟨xb, 0, none⟩), .int .i64 oo] u (fun e w' => e = .returned (.int .i64 dn) ∧ RTab w' w.heap.size xb L1 ∧ u.grownBy w' (some xb)) from by rw [hdn, hL1]; exact rdrop_any w.heap.size xb L oo u t (by omega) hu.size))
            have hnc1 : Hid (NoClash L1) := Lib.hid (by rw [hL1]; exact hnc.out.drop oo)
            have Hdr := Lib.hid hdr
            clear hdr hL1 hdn hLen hnc
            go_wp2_with fail
            refine Hdr.out.mono ?_
            clear Hdr
            rintro e w4 ⟨rfl, p1, p2⟩
            have ht4 : TabX w4 w.heap.size xb L1 := ⟨p1, (ht3.2.elim fun cs hk => ⟨cs, hk.kept p2 (fun e => hxt (by injection e))⟩)⟩
            have hx4 := hx3.t htx p2 (tab_blk p1)
            have ko4 := ko3.kept p2 (fun e => hbt (by injection e))
            have hB4 := Hgr.out _ _ _ hB3 p2 (Or.inl rfl)
            have d1 := ko4.cell 1
            simp only [List.getElem?_toArray, List.getElem?_cons_zero, List.getElem?_cons_succ] at d1
            clear ht3 hx3 ko3 hB3 p1 p2 d0
            go_wp2_with fail
            refine (Hxd.out w4 hB4 hx4.1).mono ?_
            clear Hxd
            rintro e w5 ⟨rfl, p1, p2⟩
            have hx5 : RTabX w5 w.heap.size w.heap.size xb L1 := ⟨p1, (hx4.2.elim fun cs hk => ⟨cs, hk.kept p2 (fun e => htx (by injection e))⟩)⟩
            have ht5 := ht4.x htx p2 (rtab_blk p1)
            have ko5 := ko4.kept p2 (fun e => hbx (by injection e))
            have hB5 := Hgr.out _ _ _ hB4 p2 (Or.inr rfl)
            clear ht4 hx4 ko4 hB4 p1 p2 d1
            have d1 := ko5.cell 1
            have d2 := ko5.cell 2
            have d0 := ko5.cell 0
            simp only [List.getElem?_toArray, List.getElem?_cons_zero, List.getElem?_cons_succ] at d0 d1 d2
            have hLen := ht5.1.len
            have hLok := ht5.1.ok
            have Hh1 := Lib.hid (holds_any _ _ oo oy w5 ht5.1 hik hio)
            have Hh2 := Lib.hid (fun u (t : RTab u w.heap.size xb L1) => rholds_any w.heap.size xb L1 oo oy u t (by omega) hLok)
            obtain ⟨ys, hys⟩ := heldKs_ex L1 hLok oo
            obtain ⟨nk, hnk⟩ : ∃ nk, nk = ys.length := ⟨_, rfl⟩
            have HNk := Lib.hid hnk
            have HNk2 : Hid (nk ≤ 9223372036854775807) := Lib.hid (by have := hys.len; omega)
            generalize heldL L1 oy oo = hd at Hh1 Hh2
            generalize aloneL L1 oy oo = al at Hh1 Hh2
            go_wp2_with fail
            refine Hh1.out.mono ?_
            clear Hh1
            rintro e w6 ⟨rfl, b6⟩
            have ht6 := ht5.below b6
            have hx6 := hx5.below b6
            have ko6 := ko5.below b6 ko5.lt
            have hB6 := bt hB5 b6
            have d1 := ko6.cell 1
            have d2 := ko6.cell 2
            simp only [List.getElem?_toArray, List.getElem?_cons_zero, List.getElem?_cons_succ] at d1 d2
            clear ht5 hx5 ko5 hB5 b6
            go_wp2_with fail
            refine (Hh2.out w6 hx6.1).mono ?_
            clear Hh2
            rintro e wq ⟨rfl, b7⟩
            have ht7 := ht6.below b7
            have hx7 := hx6.below b7
            have kq6 := ko6.below b7 ko6.lt
            have hB7 := bt hB6 b7
            obtain ⟨A9, nl, c9, hnl, kx6, R9⟩ := hx7.1
            have Hth := Lib.hid (fun u (hb : Below wq.heap.size wq u) => held_is _ _ oo ys nk hnk u (ht7.1.below hb) hys)
            have Hxh := Lib.hid (fun u (hb : Below wq.heap.size wq u) => rheld_is w.heap.size _ _ oo ys nk hnk u (hx7.1.below hb) hLen hLok hys)
            have Htl := Lib.hid (fun u (hb : Below wq.heap.size wq u) => (show Calls Try.prog 19 #[.pointer (some ⟨w.heap.size, 0, none⟩)] u (fun e w' => e = .returned (.int .i64 nl) ∧ u = w') from hnl.out ▸ tlen_any _ _ u (ht7.1.below hb)))
            clear ht6 hx6 ko6 hB6 b7 d1 d2 R9 hnk hys hLen hLok
            go_wp2_with fail
            refine wp_region_invT (F := ?FFb) (V := VLw w.heap.size xb bo nl nk c9 A9 oo hd al ys) (dead := fun _ => none) (T := fun _ _ => True) (C := fun u => Below wq.heap.size wq u) (E := fun _ u u' => Below u.heap.size u u') (by kernel_rfl) (by kernel_rfl) (by kernel_rfl) (fun x => ?hFFb) ?hmonoFb ?hTmFb ?hTFb ?hCFb ?stepFb ?finFb
            case hFFb => simp only [mkA, Act.put, List.setIfInBounds_toArray, List.set_cons_succ, List.set_cons_zero, Nat.reduceAdd, Nat.zero_add]; first | with_reducible rfl | rfl
            case hmonoFb => exact fun q' i v u u' he hik hwt hdd hv => VLw.mono (q := q') he hv
            case hTmFb => exact fun _ _ _ _ _ _ _ _ => trivial
            case hTFb => exact fun j => trivial
            case hCFb => exact (Below.refl _ _).drew
            case stepFb =>
              refine AllOps.cons (fun x u hC hT hp K hK => ?_) ?_
              · clear hp hT
                go_simp
                refine hK _ _ _ hC (Below.refl _ _) (by exact rfl) ?_
                first | (simp only [Act.put, List.setIfInBounds_toArray, List.set_cons_succ, List.set_cons_zero]; done) | simp [Act.put]
              refine AllOps.cons (fun x u hC hT hp K hK => ?_) ?_
              · clear hp hT
                go_simp
                refine hK _ _ _ hC (Below.refl _ _) (by exact rfl) ?_
                first | (simp only [Act.put, List.setIfInBounds_toArray, List.set_cons_succ, List.set_cons_zero]; done) | simp [Act.put]
              refine AllOps.cons (fun x u hC hT hp K hK => ?_) ?_
              · simp [KnownTill, Region.binds, VLw] at hp
                clear hT
                go_simp
                refine hK _ _ _ hC (Below.refl _ _) (by exact rfl) ?_
                first | (simp only [Act.put, List.setIfInBounds_toArray, List.set_cons_succ, List.set_cons_zero, hp]; done) | simp [Act.put, hp]
              refine AllOps.cons (fun x u hC hT hp K hK => ?_) ?_
              · simp [KnownTill, Region.binds, VLw] at hp
                clear hT
                go_simp
                refine hK _ _ _ hC (Below.refl _ _) (by exact rfl) ?_
                first | (simp only [Act.put, List.setIfInBounds_toArray, List.set_cons_succ, List.set_cons_zero, hp]; done) | simp [Act.put, hp]
              refine AllOps.cons (fun x u hC hT hp K hK => ?_) ?_
              · simp [KnownTill, Region.binds, VLw] at hp
                clear hT
                go_simp
                refine hK _ _ _ hC (Below.refl _ _) (by exact rfl) ?_
                first | (simp only [Act.put, List.setIfInBounds_toArray, List.set_cons_succ, List.set_cons_zero, hp]; done) | simp [Act.put, hp]
              refine AllOps.cons (fun x u hC hT hp K hK => ?_) ?_
              · simp [KnownTill, Region.binds, VLw] at hp
                clear hT
                go_simp
                refine hK _ _ _ hC (Below.refl _ _) (by exact rfl) ?_
                first | (simp only [Act.put, List.setIfInBounds_toArray, List.set_cons_succ, List.set_cons_zero, hp]; done) | simp [Act.put, hp]
              refine AllOps.cons (fun x u hC hT hp K hK => ?_) ?_
              · simp [KnownTill, Region.binds, VLw] at hp
                clear hT
                go_simp
                refine hK _ _ _ hC (Below.refl _ _) (by exact rfl) ?_
                first | (simp only [Act.put, List.setIfInBounds_toArray, List.set_cons_succ, List.set_cons_zero, hp]; done) | simp [Act.put, hp]
              refine AllOps.cons (fun x u hC hT hp K hK => ?_) ?_
              · simp [KnownTill, Region.binds, VLw] at hp
                clear hT
                go_simp
                refine hK _ _ _ hC (Below.refl _ _) (by exact rfl) ?_
                first | (simp only [Act.put, List.setIfInBounds_toArray, List.set_cons_succ, List.set_cons_zero, hp]; done) | simp [Act.put, hp]
              refine AllOps.cons (fun x u hC hT hp K hK => ?_) ?_
              · simp [KnownTill, Region.binds, VLw] at hp
                clear hT
                go_simp
                refine hK _ _ _ hC (Below.refl _ _) (by exact rfl) ?_
                first | (simp only [Act.put, List.setIfInBounds_toArray, List.set_cons_succ, List.set_cons_zero, hp]; done) | simp [Act.put, hp]
              refine AllOps.cons (fun x u hC hT hp K hK => ?_) ?_
              · simp [KnownTill, Region.binds, VLw] at hp
                clear hT
                go_simp
                refine hK _ _ _ hC (Below.refl _ _) (by exact rfl) ?_
                first | (simp only [Act.put, List.setIfInBounds_toArray, List.set_cons_succ, List.set_cons_zero, hp]; done) | simp [Act.put, hp]
              refine AllOps.cons (fun x u hC hT hp K hK => ?_) ?_
              · simp [KnownTill, Region.binds, VLw] at hp
                clear hT
                go_simp
                refine hK _ _ _ hC (Below.refl _ _) (by exact rfl) ?_
                first | (simp only [Act.put, List.setIfInBounds_toArray, List.set_cons_succ, List.set_cons_zero, hp]; done) | simp [Act.put, hp]
              refine AllOps.cons (fun x u hC hT hp K hK => ?_) ?_
              · simp [KnownTill, Region.binds, VLw] at hp
                clear hT
                have kq := kq6.below (hC : Below _ _ u) kq6.lt
                have qq := kq.cell 1
                simp only [List.getElem?_toArray, List.getElem?_cons_zero, List.getElem?_cons_succ] at qq
                go_simp
                refine hK _ _ _ hC (Below.refl _ _) (by exact rfl) ?_
                first | (simp only [Act.put, List.setIfInBounds_toArray, List.set_cons_succ, List.set_cons_zero, hp]; done) | simp [Act.put, hp]
              refine AllOps.cons (fun x u hC hT hp K hK => ?_) ?_
              · simp [KnownTill, Region.binds, VLw] at hp
                clear hT
                go_simp
                refine (Hth.out u hC).mono ?_
                rintro e wA ⟨vA, rfl, hvA, hbA⟩
                refine hK _ _ _ (bt hC hbA) hbA hvA ?_
                first | (simp only [Act.put, List.setIfInBounds_toArray, List.set_cons_succ, List.set_cons_zero, hp]; done) | simp [Act.put, hp]
              refine AllOps.cons (fun x u hC hT hp K hK => ?_) ?_
              · simp [KnownTill, Region.binds, VLw] at hp
                clear hT
                go_simp
                refine hK _ _ _ hC (Below.refl _ _) (by exact rfl) ?_
                first | (simp only [Act.put, List.setIfInBounds_toArray, List.set_cons_succ, List.set_cons_zero, hp]; done) | simp [Act.put, hp]
              refine AllOps.cons (fun x u hC hT hp K hK => ?_) ?_
              · simp [KnownTill, Region.binds, VLw] at hp
                clear hT
                go_simp
                refine hK _ _ _ hC (Below.refl _ _) (by exact rfl) ?_
                first | (simp only [Act.put, List.setIfInBounds_toArray, List.set_cons_succ, List.set_cons_zero, hp]; done) | simp [Act.put, hp]
              refine AllOps.cons (fun x u hC hT hp K hK => ?_) ?_
              · simp [KnownTill, Region.binds, VLw] at hp
                clear hT
                have kq := kq6.below (hC : Below _ _ u) kq6.lt
                have qq := kq.cell 1
                simp only [List.getElem?_toArray, List.getElem?_cons_zero, List.getElem?_cons_succ] at qq
                go_simp
                refine hK _ _ _ hC (Below.refl _ _) (by exact rfl) ?_
                first | (simp only [Act.put, List.setIfInBounds_toArray, List.set_cons_succ, List.set_cons_zero, hp]; done) | simp [Act.put, hp]
              refine AllOps.cons (fun x u hC hT hp K hK => ?_) ?_
              · simp [KnownTill, Region.binds, VLw] at hp
                clear hT
                go_simp
                refine (Hxh.out u hC).mono ?_
                rintro e wA ⟨vA, rfl, hvA, hbA⟩
                refine hK _ _ _ (bt hC hbA) hbA hvA ?_
                first | (simp only [Act.put, List.setIfInBounds_toArray, List.set_cons_succ, List.set_cons_zero, hp]; done) | simp [Act.put, hp]
              refine AllOps.cons (fun x u hC hT hp K hK => ?_) ?_
              · simp [KnownTill, Region.binds, VLw] at hp
                clear hT
                go_simp
                have h1 : IsN u nk ys (x 12) := by first | exact hp.1 | exact hp.2.1 | exact hp.2 | exact hp.2.2.1 | exact hp.2.2.2.1 | exact hp.2.2.1
                have h2 : IsN u nk ys (x 16) := by first | exact hp.2 | exact hp.2.1 | exact hp.2.2 | exact hp.2.2.1 | exact hp.2.2.2.1
                obtain ⟨A1, c1, e1, i1⟩ := h1
                obtain ⟨A2, c2, e2, i2⟩ := h2
                simp only [e1, e2]
                refine (ints_same A1 A2 nk c1 c2 ys u HNk.out HNk2.out i1 i2).mono ?_
                rintro e wA ⟨rfl, hbA⟩
                refine hK _ _ _ (bt hC hbA) hbA (by exact rfl) ?_
                simp [Act.put, hp, e1, e2]
              refine AllOps.cons (fun x u hC hT hp K hK => ?_) ?_
              · simp [KnownTill, Region.binds, VLw] at hp
                clear hT
                go_simp
                refine hK _ _ _ hC (Below.refl _ _) (by exact rfl) ?_
                first | (simp only [Act.put, List.setIfInBounds_toArray, List.set_cons_succ, List.set_cons_zero, hp]; done) | simp [Act.put, hp]
              refine AllOps.cons (fun x u hC hT hp K hK => ?_) ?_
              · simp [KnownTill, Region.binds, VLw] at hp
                clear hT
                go_simp
                refine hK _ _ _ hC (Below.refl _ _) (by exact rfl) ?_
                first | (simp only [Act.put, List.setIfInBounds_toArray, List.set_cons_succ, List.set_cons_zero, hp]; done) | simp [Act.put, hp]
              refine AllOps.cons (fun x u hC hT hp K hK => ?_) ?_
              · simp [KnownTill, Region.binds, VLw] at hp
                clear hT
                go_simp
                refine hK _ _ _ hC (Below.refl _ _) (by exact rfl) ?_
                first | (simp only [Act.put, List.setIfInBounds_toArray, List.set_cons_succ, List.set_cons_zero, hp]; done) | simp [Act.put, hp]
              refine AllOps.cons (fun x u hC hT hp K hK => ?_) ?_
              · simp [KnownTill, Region.binds, VLw] at hp
                clear hT
                go_simp
                refine hK _ _ _ hC (Below.refl _ _) (by exact rfl) ?_
                first | (simp only [Act.put, List.setIfInBounds_toArray, List.set_cons_succ, List.set_cons_zero, hp]; done) | simp [Act.put, hp]
              refine AllOps.cons (fun x u hC hT hp K hK => ?_) ?_
              · simp [KnownTill, Region.binds, VLw] at hp
                clear hT
                go_simp
                refine (Htl.out u hC).mono ?_
                rintro e wA ⟨rfl, rfl⟩
                refine hK _ _ _ hC (Below.refl _ _) (by exact rfl) ?_
                first | (simp only [Act.put, List.setIfInBounds_toArray, List.set_cons_succ, List.set_cons_zero, hp]; done) | simp [Act.put, hp]
              refine AllOps.cons (fun x u hC hT hp K hK => ?_) ?_
              · simp [KnownTill, Region.binds, VLw] at hp
                clear hT
                go_simp
                refine hK _ _ _ hC (Below.refl _ _) (by exact rfl) ?_
                first | (simp only [Act.put, List.setIfInBounds_toArray, List.set_cons_succ, List.set_cons_zero, hp]; done) | simp [Act.put, hp]
              refine AllOps.cons (fun x u hC hT hp K hK => ?_) ?_
              · simp [KnownTill, Region.binds, VLw] at hp
                clear hT
                go_simp
                refine hK _ _ _ hC (Below.refl _ _) (by exact rfl) ?_
                first | (simp only [Act.put, List.setIfInBounds_toArray, List.set_cons_succ, List.set_cons_zero, hp]; done) | simp [Act.put, hp]
              refine AllOps.cons (fun x u hC hT hp K hK => ?_) ?_
              · simp [KnownTill, Region.binds, VLw] at hp
                clear hT
                go_simp
                refine hK _ _ _ hC (Below.refl _ _) (by exact rfl) ?_
                first | (simp only [Act.put, List.setIfInBounds_toArray, List.set_cons_succ, List.set_cons_zero, hp]; done) | simp [Act.put, hp]
              refine AllOps.cons (fun x u hC hT hp K hK => ?_) ?_
              · simp [KnownTill, Region.binds, VLw] at hp
                clear hT
                have kq := kx6.below (hC : Below _ _ u) kx6.lt
                have qq := kq.cell 0
                simp only [List.getElem?_toArray, List.getElem?_cons_zero, List.getElem?_cons_succ] at qq
                go_simp
                refine hK _ _ _ hC (Below.refl _ _) (by exact rfl) ?_
                first | (simp only [Act.put, List.setIfInBounds_toArray, List.set_cons_succ, List.set_cons_zero, hp]; done) | simp [Act.put, hp]
              refine AllOps.cons (fun x u hC hT hp K hK => ?_) ?_
              · simp [KnownTill, Region.binds, VLw] at hp
                clear hT
                go_simp
                refine hK _ _ _ hC (Below.refl _ _) (by exact rfl) ?_
                first | (simp only [Act.put, List.setIfInBounds_toArray, List.set_cons_succ, List.set_cons_zero, hp]; done) | simp [Act.put, hp]
              refine AllOps.cons (fun x u hC hT hp K hK => ?_) ?_
              · simp [KnownTill, Region.binds, VLw] at hp
                clear hT
                go_simp
                refine hK _ _ _ hC (Below.refl _ _) (by exact rfl) ?_
                first | (simp only [Act.put, List.setIfInBounds_toArray, List.set_cons_succ, List.set_cons_zero, hp]; done) | simp [Act.put, hp]
              refine AllOps.cons (fun x u hC hT hp K hK => ?_) ?_
              · simp [KnownTill, Region.binds, VLw] at hp
                clear hT
                go_simp
                refine hK _ _ _ hC (Below.refl _ _) (by exact rfl) ?_
                first | (simp only [Act.put, List.setIfInBounds_toArray, List.set_cons_succ, List.set_cons_zero, hp]; done) | simp [Act.put, hp]
              exact AllOps.nil
            case finFb =>
              intro x u hC hV
              have e121 : x 29 = .bool false := hV 29 (by decide) rfl
              rw [e121]
              clear e121
              clear hV
              have ht8 := ht7.below hC
              have hx8 := hx7.below hC
              have hB8 := bt hB7 hC
              clear hC ht7 hx7 hB7 Hth Hxh Htl
              go_wp2
              go_roundw
              case rel => exact ⟨j + 1, L1, by omega, by omega, by go_num, hnc1, ht8, hx8, hB8⟩
              case measure => simp [intOf]; omega
          · have d0 := ko3.cell 0
            simp only [List.getElem?_toArray, List.getElem?_cons_zero] at d0
            have hk1b : (ok == 1) = false := by simp [hk1]
            obtain ⟨L1, hL1⟩ : ∃ L1, L1 = L := ⟨_, rfl⟩
            subst hL1
            have hnc1 := hnc
            have ht5 := ht3
            have hx5 := hx3
            have ko5 := ko3
            have hB5 := hB3
            clear ht3 hx3 ko3 hB3 hnc
            have d1 := ko5.cell 1
            have d2 := ko5.cell 2
            simp only [List.getElem?_toArray, List.getElem?_cons_zero, List.getElem?_cons_succ] at d1 d2
            have hLen := ht5.1.len
            have hLok := ht5.1.ok
            have Hh1 := Lib.hid (holds_any _ _ oo oy w3 ht5.1 hik hio)
            have Hh2 := Lib.hid (fun u (t : RTab u w.heap.size xb L1) => rholds_any w.heap.size xb L1 oo oy u t (by omega) hLok)
            obtain ⟨ys, hys⟩ := heldKs_ex L1 hLok oo
            obtain ⟨nk, hnk⟩ : ∃ nk, nk = ys.length := ⟨_, rfl⟩
            have HNk := Lib.hid hnk
            have HNk2 : Hid (nk ≤ 9223372036854775807) := Lib.hid (by have := hys.len; omega)
            generalize heldL L1 oy oo = hd at Hh1 Hh2
            generalize aloneL L1 oy oo = al at Hh1 Hh2
            go_wp2_with fail
            refine Hh1.out.mono ?_
            clear Hh1
            rintro e w6 ⟨rfl, b6⟩
            have ht6 := ht5.below b6
            have hx6 := hx5.below b6
            have ko6 := ko5.below b6 ko5.lt
            have hB6 := bt hB5 b6
            have d1 := ko6.cell 1
            have d2 := ko6.cell 2
            simp only [List.getElem?_toArray, List.getElem?_cons_zero, List.getElem?_cons_succ] at d1 d2
            clear ht5 hx5 ko5 hB5 b6
            go_wp2_with fail
            refine (Hh2.out w6 hx6.1).mono ?_
            clear Hh2
            rintro e wq ⟨rfl, b7⟩
            have ht7 := ht6.below b7
            have hx7 := hx6.below b7
            have kq6 := ko6.below b7 ko6.lt
            have hB7 := bt hB6 b7
            obtain ⟨A9, nl, c9, hnl, kx6, R9⟩ := hx7.1
            have Hth := Lib.hid (fun u (hb : Below wq.heap.size wq u) => held_is _ _ oo ys nk hnk u (ht7.1.below hb) hys)
            have Hxh := Lib.hid (fun u (hb : Below wq.heap.size wq u) => rheld_is w.heap.size _ _ oo ys nk hnk u (hx7.1.below hb) hLen hLok hys)
            have Htl := Lib.hid (fun u (hb : Below wq.heap.size wq u) => (show Calls Try.prog 19 #[.pointer (some ⟨w.heap.size, 0, none⟩)] u (fun e w' => e = .returned (.int .i64 nl) ∧ u = w') from hnl.out ▸ tlen_any _ _ u (ht7.1.below hb)))
            clear ht6 hx6 ko6 hB6 b7 d1 d2 R9 hnk hys hLen hLok
            go_wp2_with fail
            refine wp_region_invT (F := ?FFc) (V := VLw w.heap.size xb bo nl nk c9 A9 oo hd al ys) (dead := fun _ => none) (T := fun _ _ => True) (C := fun u => Below wq.heap.size wq u) (E := fun _ u u' => Below u.heap.size u u') (by kernel_rfl) (by kernel_rfl) (by kernel_rfl) (fun x => ?hFFc) ?hmonoFc ?hTmFc ?hTFc ?hCFc ?stepFc ?finFc
            case hFFc => simp only [mkA, Act.put, List.setIfInBounds_toArray, List.set_cons_succ, List.set_cons_zero, Nat.reduceAdd, Nat.zero_add]; first | with_reducible rfl | rfl
            case hmonoFc => exact fun q' i v u u' he hik hwt hdd hv => VLw.mono (q := q') he hv
            case hTmFc => exact fun _ _ _ _ _ _ _ _ => trivial
            case hTFc => exact fun j => trivial
            case hCFc => exact (Below.refl _ _).drew
            case stepFc =>
              refine AllOps.cons (fun x u hC hT hp K hK => ?_) ?_
              · clear hp hT
                go_simp
                refine hK _ _ _ hC (Below.refl _ _) (by exact rfl) ?_
                first | (simp only [Act.put, List.setIfInBounds_toArray, List.set_cons_succ, List.set_cons_zero]; done) | simp [Act.put]
              refine AllOps.cons (fun x u hC hT hp K hK => ?_) ?_
              · clear hp hT
                go_simp
                refine hK _ _ _ hC (Below.refl _ _) (by exact rfl) ?_
                first | (simp only [Act.put, List.setIfInBounds_toArray, List.set_cons_succ, List.set_cons_zero]; done) | simp [Act.put]
              refine AllOps.cons (fun x u hC hT hp K hK => ?_) ?_
              · simp [KnownTill, Region.binds, VLw] at hp
                clear hT
                go_simp
                refine hK _ _ _ hC (Below.refl _ _) (by exact rfl) ?_
                first | (simp only [Act.put, List.setIfInBounds_toArray, List.set_cons_succ, List.set_cons_zero, hp]; done) | simp [Act.put, hp]
              refine AllOps.cons (fun x u hC hT hp K hK => ?_) ?_
              · simp [KnownTill, Region.binds, VLw] at hp
                clear hT
                go_simp
                refine hK _ _ _ hC (Below.refl _ _) (by exact rfl) ?_
                first | (simp only [Act.put, List.setIfInBounds_toArray, List.set_cons_succ, List.set_cons_zero, hp]; done) | simp [Act.put, hp]
              refine AllOps.cons (fun x u hC hT hp K hK => ?_) ?_
              · simp [KnownTill, Region.binds, VLw] at hp
                clear hT
                go_simp
                refine hK _ _ _ hC (Below.refl _ _) (by exact rfl) ?_
                first | (simp only [Act.put, List.setIfInBounds_toArray, List.set_cons_succ, List.set_cons_zero, hp]; done) | simp [Act.put, hp]
              refine AllOps.cons (fun x u hC hT hp K hK => ?_) ?_
              · simp [KnownTill, Region.binds, VLw] at hp
                clear hT
                go_simp
                refine hK _ _ _ hC (Below.refl _ _) (by exact rfl) ?_
                first | (simp only [Act.put, List.setIfInBounds_toArray, List.set_cons_succ, List.set_cons_zero, hp]; done) | simp [Act.put, hp]
              refine AllOps.cons (fun x u hC hT hp K hK => ?_) ?_
              · simp [KnownTill, Region.binds, VLw] at hp
                clear hT
                go_simp
                refine hK _ _ _ hC (Below.refl _ _) (by exact rfl) ?_
                first | (simp only [Act.put, List.setIfInBounds_toArray, List.set_cons_succ, List.set_cons_zero, hp]; done) | simp [Act.put, hp]
              refine AllOps.cons (fun x u hC hT hp K hK => ?_) ?_
              · simp [KnownTill, Region.binds, VLw] at hp
                clear hT
                go_simp
                refine hK _ _ _ hC (Below.refl _ _) (by exact rfl) ?_
                first | (simp only [Act.put, List.setIfInBounds_toArray, List.set_cons_succ, List.set_cons_zero, hp]; done) | simp [Act.put, hp]
              refine AllOps.cons (fun x u hC hT hp K hK => ?_) ?_
              · simp [KnownTill, Region.binds, VLw] at hp
                clear hT
                go_simp
                refine hK _ _ _ hC (Below.refl _ _) (by exact rfl) ?_
                first | (simp only [Act.put, List.setIfInBounds_toArray, List.set_cons_succ, List.set_cons_zero, hp]; done) | simp [Act.put, hp]
              refine AllOps.cons (fun x u hC hT hp K hK => ?_) ?_
              · simp [KnownTill, Region.binds, VLw] at hp
                clear hT
                go_simp
                refine hK _ _ _ hC (Below.refl _ _) (by exact rfl) ?_
                first | (simp only [Act.put, List.setIfInBounds_toArray, List.set_cons_succ, List.set_cons_zero, hp]; done) | simp [Act.put, hp]
              refine AllOps.cons (fun x u hC hT hp K hK => ?_) ?_
              · simp [KnownTill, Region.binds, VLw] at hp
                clear hT
                go_simp
                refine hK _ _ _ hC (Below.refl _ _) (by exact rfl) ?_
                first | (simp only [Act.put, List.setIfInBounds_toArray, List.set_cons_succ, List.set_cons_zero, hp]; done) | simp [Act.put, hp]
              refine AllOps.cons (fun x u hC hT hp K hK => ?_) ?_
              · simp [KnownTill, Region.binds, VLw] at hp
                clear hT
                have kq := kq6.below (hC : Below _ _ u) kq6.lt
                have qq := kq.cell 1
                simp only [List.getElem?_toArray, List.getElem?_cons_zero, List.getElem?_cons_succ] at qq
                go_simp
                refine hK _ _ _ hC (Below.refl _ _) (by exact rfl) ?_
                first | (simp only [Act.put, List.setIfInBounds_toArray, List.set_cons_succ, List.set_cons_zero, hp]; done) | simp [Act.put, hp]
              refine AllOps.cons (fun x u hC hT hp K hK => ?_) ?_
              · simp [KnownTill, Region.binds, VLw] at hp
                clear hT
                go_simp
                refine (Hth.out u hC).mono ?_
                rintro e wA ⟨vA, rfl, hvA, hbA⟩
                refine hK _ _ _ (bt hC hbA) hbA hvA ?_
                first | (simp only [Act.put, List.setIfInBounds_toArray, List.set_cons_succ, List.set_cons_zero, hp]; done) | simp [Act.put, hp]
              refine AllOps.cons (fun x u hC hT hp K hK => ?_) ?_
              · simp [KnownTill, Region.binds, VLw] at hp
                clear hT
                go_simp
                refine hK _ _ _ hC (Below.refl _ _) (by exact rfl) ?_
                first | (simp only [Act.put, List.setIfInBounds_toArray, List.set_cons_succ, List.set_cons_zero, hp]; done) | simp [Act.put, hp]
              refine AllOps.cons (fun x u hC hT hp K hK => ?_) ?_
              · simp [KnownTill, Region.binds, VLw] at hp
                clear hT
                go_simp
                refine hK _ _ _ hC (Below.refl _ _) (by exact rfl) ?_
                first | (simp only [Act.put, List.setIfInBounds_toArray, List.set_cons_succ, List.set_cons_zero, hp]; done) | simp [Act.put, hp]
              refine AllOps.cons (fun x u hC hT hp K hK => ?_) ?_
              · simp [KnownTill, Region.binds, VLw] at hp
                clear hT
                have kq := kq6.below (hC : Below _ _ u) kq6.lt
                have qq := kq.cell 1
                simp only [List.getElem?_toArray, List.getElem?_cons_zero, List.getElem?_cons_succ] at qq
                go_simp
                refine hK _ _ _ hC (Below.refl _ _) (by exact rfl) ?_
                first | (simp only [Act.put, List.setIfInBounds_toArray, List.set_cons_succ, List.set_cons_zero, hp]; done) | simp [Act.put, hp]
              refine AllOps.cons (fun x u hC hT hp K hK => ?_) ?_
              · simp [KnownTill, Region.binds, VLw] at hp
                clear hT
                go_simp
                refine (Hxh.out u hC).mono ?_
                rintro e wA ⟨vA, rfl, hvA, hbA⟩
                refine hK _ _ _ (bt hC hbA) hbA hvA ?_
                first | (simp only [Act.put, List.setIfInBounds_toArray, List.set_cons_succ, List.set_cons_zero, hp]; done) | simp [Act.put, hp]
              refine AllOps.cons (fun x u hC hT hp K hK => ?_) ?_
              · simp [KnownTill, Region.binds, VLw] at hp
                clear hT
                go_simp
                have h1 : IsN u nk ys (x 12) := by first | exact hp.1 | exact hp.2.1 | exact hp.2 | exact hp.2.2.1 | exact hp.2.2.2.1 | exact hp.2.2.1
                have h2 : IsN u nk ys (x 16) := by first | exact hp.2 | exact hp.2.1 | exact hp.2.2 | exact hp.2.2.1 | exact hp.2.2.2.1
                obtain ⟨A1, c1, e1, i1⟩ := h1
                obtain ⟨A2, c2, e2, i2⟩ := h2
                simp only [e1, e2]
                refine (ints_same A1 A2 nk c1 c2 ys u HNk.out HNk2.out i1 i2).mono ?_
                rintro e wA ⟨rfl, hbA⟩
                refine hK _ _ _ (bt hC hbA) hbA (by exact rfl) ?_
                simp [Act.put, hp, e1, e2]
              refine AllOps.cons (fun x u hC hT hp K hK => ?_) ?_
              · simp [KnownTill, Region.binds, VLw] at hp
                clear hT
                go_simp
                refine hK _ _ _ hC (Below.refl _ _) (by exact rfl) ?_
                first | (simp only [Act.put, List.setIfInBounds_toArray, List.set_cons_succ, List.set_cons_zero, hp]; done) | simp [Act.put, hp]
              refine AllOps.cons (fun x u hC hT hp K hK => ?_) ?_
              · simp [KnownTill, Region.binds, VLw] at hp
                clear hT
                go_simp
                refine hK _ _ _ hC (Below.refl _ _) (by exact rfl) ?_
                first | (simp only [Act.put, List.setIfInBounds_toArray, List.set_cons_succ, List.set_cons_zero, hp]; done) | simp [Act.put, hp]
              refine AllOps.cons (fun x u hC hT hp K hK => ?_) ?_
              · simp [KnownTill, Region.binds, VLw] at hp
                clear hT
                go_simp
                refine hK _ _ _ hC (Below.refl _ _) (by exact rfl) ?_
                first | (simp only [Act.put, List.setIfInBounds_toArray, List.set_cons_succ, List.set_cons_zero, hp]; done) | simp [Act.put, hp]
              refine AllOps.cons (fun x u hC hT hp K hK => ?_) ?_
              · simp [KnownTill, Region.binds, VLw] at hp
                clear hT
                go_simp
                refine hK _ _ _ hC (Below.refl _ _) (by exact rfl) ?_
                first | (simp only [Act.put, List.setIfInBounds_toArray, List.set_cons_succ, List.set_cons_zero, hp]; done) | simp [Act.put, hp]
              refine AllOps.cons (fun x u hC hT hp K hK => ?_) ?_
              · simp [KnownTill, Region.binds, VLw] at hp
                clear hT
                go_simp
                refine (Htl.out u hC).mono ?_
                rintro e wA ⟨rfl, rfl⟩
                refine hK _ _ _ hC (Below.refl _ _) (by exact rfl) ?_
                first | (simp only [Act.put, List.setIfInBounds_toArray, List.set_cons_succ, List.set_cons_zero, hp]; done) | simp [Act.put, hp]
              refine AllOps.cons (fun x u hC hT hp K hK => ?_) ?_
              · simp [KnownTill, Region.binds, VLw] at hp
                clear hT
                go_simp
                refine hK _ _ _ hC (Below.refl _ _) (by exact rfl) ?_
                first | (simp only [Act.put, List.setIfInBounds_toArray, List.set_cons_succ, List.set_cons_zero, hp]; done) | simp [Act.put, hp]
              refine AllOps.cons (fun x u hC hT hp K hK => ?_) ?_
              · simp [KnownTill, Region.binds, VLw] at hp
                clear hT
                go_simp
                refine hK _ _ _ hC (Below.refl _ _) (by exact rfl) ?_
                first | (simp only [Act.put, List.setIfInBounds_toArray, List.set_cons_succ, List.set_cons_zero, hp]; done) | simp [Act.put, hp]
              refine AllOps.cons (fun x u hC hT hp K hK => ?_) ?_
              · simp [KnownTill, Region.binds, VLw] at hp
                clear hT
                go_simp
                refine hK _ _ _ hC (Below.refl _ _) (by exact rfl) ?_
                first | (simp only [Act.put, List.setIfInBounds_toArray, List.set_cons_succ, List.set_cons_zero, hp]; done) | simp [Act.put, hp]
              refine AllOps.cons (fun x u hC hT hp K hK => ?_) ?_
              · simp [KnownTill, Region.binds, VLw] at hp
                clear hT
                have kq := kx6.below (hC : Below _ _ u) kx6.lt
                have qq := kq.cell 0
                simp only [List.getElem?_toArray, List.getElem?_cons_zero, List.getElem?_cons_succ] at qq
                go_simp
                refine hK _ _ _ hC (Below.refl _ _) (by exact rfl) ?_
                first | (simp only [Act.put, List.setIfInBounds_toArray, List.set_cons_succ, List.set_cons_zero, hp]; done) | simp [Act.put, hp]
              refine AllOps.cons (fun x u hC hT hp K hK => ?_) ?_
              · simp [KnownTill, Region.binds, VLw] at hp
                clear hT
                go_simp
                refine hK _ _ _ hC (Below.refl _ _) (by exact rfl) ?_
                first | (simp only [Act.put, List.setIfInBounds_toArray, List.set_cons_succ, List.set_cons_zero, hp]; done) | simp [Act.put, hp]
              refine AllOps.cons (fun x u hC hT hp K hK => ?_) ?_
              · simp [KnownTill, Region.binds, VLw] at hp
                clear hT
                go_simp
                refine hK _ _ _ hC (Below.refl _ _) (by exact rfl) ?_
                first | (simp only [Act.put, List.setIfInBounds_toArray, List.set_cons_succ, List.set_cons_zero, hp]; done) | simp [Act.put, hp]
              refine AllOps.cons (fun x u hC hT hp K hK => ?_) ?_
              · simp [KnownTill, Region.binds, VLw] at hp
                clear hT
                go_simp
                refine hK _ _ _ hC (Below.refl _ _) (by exact rfl) ?_
                first | (simp only [Act.put, List.setIfInBounds_toArray, List.set_cons_succ, List.set_cons_zero, hp]; done) | simp [Act.put, hp]
              exact AllOps.nil
            case finFc =>
              intro x u hC hV
              have e121 : x 29 = .bool false := hV 29 (by decide) rfl
              rw [e121]
              clear e121
              clear hV
              have ht8 := ht7.below hC
              have hx8 := hx7.below hC
              have hB8 := bt hB7 hC
              clear hC ht7 hx7 hB7 Hth Hxh Htl
              go_wp2
              go_roundw
              case rel => exact ⟨j + 1, L1, by omega, by omega, by go_num, hnc1, ht8, hx8, hB8⟩
              case measure => simp [intOf]; omega
      · have hj3I : ¬ (j : Int) < 100 := by omega
        have hjI : (j : Int) < (n : Int) := by omega
        go_wp2_with fail
        refine (alive_any _).mono ?_
        rintro e w5 ⟨rfl, hb5⟩
        have hB5 := bt hb hb5
        go_wp2
        go_ret
        exact ⟨rfl, hB5⟩
    · have hjI : ¬ (j : Int) < (n : Int) := by omega
      go_wp2_with fail
      refine (alive_any _).mono ?_
      rintro e w5 ⟨rfl, hb5⟩
      have hB5 := bt hb hb5
      go_wp2
      go_ret
      exact ⟨rfl, hB5⟩
end Go.Proofs.Ytaeofacaljeckaa
