/- Parts In of one proof. -/
import Derived.Test.YtlliaihmfimdoaaGreatMg07
import Derived.Test.YtlliaihmfimdoaaGreatShelf
import Derived.Sort.OwnSortedInts
import Derived.Lib.SmallJoins
import Derived.Lib.OwnKind
namespace Go.Proofs.YtlliaihmfimdoaaGreat
open Go.RowKit Go.Maps Go.Sort
set_option linter.unusedVariables false
set_option linter.unusedSimpArgs false

theorem Tryz.infoInt : (Tryz.prog.info? 3).map (fun i => (i.zero, i.size, i.bytes)) = some (some (.int .i64 0), 1, 8) := by kernel_rfl
/-- A list of numbers of its own. -/
def EndsAt (u : World) (B : Nat) (A : Option Addr) (c : Nat) (es : List Int) : Prop := u.ownsRow B 3 1 (.slice A es.length c) es.length (es.map (Value.int .i64))
section
variable {u u' : World} {B : Nat} {A : Option Addr} {c : Nat} {es : List Int}
theorem EndsAt.nil (u : World) (B : Nat) : EndsAt u B none 0 [] := World.ownsRow_nil u _ _ _
theorem EndsAt.lt' (h : EndsAt u B A c es) : ∀ r, blk A = some r → B ≤ r ∧ r < u.heap.size := fun r e => World.ownsRow.lt h r (by rw [ownBlock_slice]; exact e)
theorem EndsAt.kept {row : Option Nat} (h : EndsAt u B A c es) (hg : u.grownBy u' row) (hr : ∀ r, row = some r → r < B ∨ u.heap.size ≤ r) : EndsAt u' B A c es := by
  refine World.ownsRow.kept h hg ?_
  rcases hb : (Value.slice A es.length c).ownBlock with _ | k
  · exact .inl rfl
  · refine .inr (fun e => ?_)
    have h2 := World.ownsRow.lt h k hb
    rcases hr k e.symm with h3 | h3 <;> omega
theorem EndsAt.base {B' : Nat} (h : EndsAt u B A c es) (hB : B' ≤ B) : EndsAt u B' A c es := by
  unfold EndsAt at h ⊢
  obtain ⟨h1, h2⟩ := h
  refine ⟨h1, ?_⟩
  rcases h2 with h2 | ⟨g', cap', cur, hv, hb, hrest⟩
  · exact .inl h2
  · exact .inr ⟨g', cap', cur, hv, Nat.le_trans hB hb, hrest⟩
theorem ends_more (h : EndsAt u B A c es) (n : Nat) (hn : n = es.length) (hl : n ≤ 1000000) (x : Int) (q : Nat) (hBu : B ≤ u.heap.size) (hq0 : u.cell? ⟨q, 0, none⟩ = some (.int .i64 x)) :
    ∃ A2 c2 u', (Builtin.append_ #[100, 100] 100 #[.slice A n c, .slice (some ⟨q, 0, none⟩) 1 1]).run Tryz.prog u = .ok (.slice A2 (n + 1) c2) u' ∧
      EndsAt u' B A2 c2 (es ++ [x]) ∧ u.grownBy u' (blk A) := by
  subst hn
  obtain ⟨i0, hi, hz0, hz1, hz2⟩ := info_parts Tryz.infoInt
  obtain ⟨v', w', hrun, hown, hgr, _, _⟩ := run_append_own_at (P := Tryz.prog) u B 100 100 3 i0 _ 1 8 Tryz.underlying100 hi hz0 hz1 hz2 rfl (by omega) (.slice A es.length c) es.length (es.map (Value.int .i64)) h ⟨q, 0, none⟩ 1 1 [.int .i64 x] rfl
    (fun j u hu => by
      match j, hu with
      | 0, hu => cases hu; exact hq0)
    (fun u hu => by simp at hu; subst hu; rfl) (by simp only [maxLen]; omega) (by omega) hBu
  obtain ⟨g2, c2, rfl⟩ := Joins.ownsRow_form hown (by omega)
  rw [ownBlock_slice] at hgr
  refine ⟨some ⟨g2, 0, none⟩, c2, w', hrun, ?_, hgr⟩
  unfold EndsAt
  rw [List.length_append, List.map_append]
  exact hown
end

/-- The keys that have come: each once. -/
structure KsOk (L : List LRow) (o : Int) (left : Lit → Bool) (ks : List Int) : Prop where
  nd : ks.Nodup
  mem : ∀ k, k ∈ ks ↔ ∃ x ∈ L, x.1 = k ∧ x.2.1 = o ∧ left (keyR x) = false
/-- The keys that an owner holds, rising. -/
structure HeldKs (L : List LRow) (o : Int) (ys : List Int) : Prop where
  up : ys.Pairwise (· < ·)
  mem : ∀ k, k ∈ ys ↔ heldL L k o = true
theorem up_same : ∀ {a b : List Int}, a.Pairwise (· < ·) → b.Pairwise (· < ·) → (∀ k, k ∈ a ↔ k ∈ b) → a = b
  | [], [], _, _, _ => rfl
  | [], y :: b, _, _, h => absurd ((h y).2 List.mem_cons_self) (by simp)
  | x :: a, [], _, _, h => absurd ((h x).1 List.mem_cons_self) (by simp)
  | x :: a, y :: b, ha, hb, h => by
    rw [List.pairwise_cons] at ha hb
    have hxy : x = y := by
      have h1 : x = y ∨ x ∈ b := List.mem_cons.1 ((h x).1 List.mem_cons_self)
      have h2 : y = x ∨ y ∈ a := List.mem_cons.1 ((h y).2 List.mem_cons_self)
      rcases h1 with h1 | h1
      · exact h1
      · rcases h2 with h2 | h2
        · exact h2.symm
        · have := hb.1 x h1; have := ha.1 y h2; omega
    subst hxy
    rw [up_same ha.2 hb.2 fun k => ?_]
    constructor
    · intro hk
      rcases List.mem_cons.1 ((h k).1 (List.mem_cons_of_mem _ hk)) with e | e
      · subst e; exact absurd (ha.1 _ hk) (by omega)
      · exact e
    · intro hk
      rcases List.mem_cons.1 ((h k).2 (List.mem_cons_of_mem _ hk)) with e | e
      · subst e; exact absurd (hb.1 _ hk) (by omega)
      · exact e
theorem HeldKs.same {L : List LRow} {o : Int} {a b : List Int} (ha : HeldKs L o a) (hb : HeldKs L o b) : a = b :=
  up_same ha.up hb.up fun k => (ha.mem k).trans (hb.mem k).symm
theorem KsOk.done {L : List LRow} {o : Int} {left : Lit → Bool} {ks : List Int} (h : KsOk L o left ks) (hl : ∀ kl, left kl = false) : HeldKs L o (ks.mergeSort fun x y => decide (x ≤ y)) := by
  have hp := List.mergeSort_perm ks fun x y => decide (x ≤ y)
  refine ⟨?_, fun k => ?_⟩
  · have hs := List.pairwise_mergeSort (le := fun x y : Int => decide (x ≤ y)) (by intro a b c; simp; omega) (by intro a b; simp; omega) ks
    have hn : (ks.mergeSort fun x y => decide (x ≤ y)).Nodup := hp.nodup_iff.2 h.nd
    exact (hs.and hn).imp fun {a b} hab => by
      have := of_decide_eq_true hab.1
      have := hab.2
      omega
  · rw [hp.mem_iff, h.mem k, held_iff]
    constructor
    · rintro ⟨x, hx, h1, h2, _⟩; exact ⟨x, hx, h1, h2⟩
    · rintro ⟨x, hx, h1, h2⟩; exact ⟨x, hx, h1, h2, hl _⟩
theorem KsOk.start {H : Type} {D : DataW H} {L : List LRow} {o : Int} (hR : Reads D L) : KsOk L o (Maps.has D) [] := by
  refine ⟨List.nodup_nil, fun k => ⟨by simp, ?_⟩⟩
  rintro ⟨x, hx, _, _, h3⟩
  rw [hR.has] at h3
  exact absurd (show anyK L (keyR x) = true from List.any_eq_true.2 ⟨x, hx, key_same _ _⟩) (by rw [h3]; simp)
theorem left_step {L : List LRow} (hL : LOk L) {left : Lit → Bool} {k o : Int} {c : Bool} (hm : (k, o, c) ∈ L) {x : LRow} (hx : x ∈ L) : ((left (keyR x) && !(keyR x).sameKey (litP k o)) = false) ↔ (left (keyR x) = false ∨ x = (k, o, c)) := by
  have hok := hL.ok _ hm
  have hs := same_at (hL.ok x hx) (k := k) (o := o) hok.1 hok.2
  rw [hs]
  constructor
  · intro h
    rcases hl : left (keyR x) with _ | _
    · exact .inl rfl
    · rw [hl] at h
      have : atB k o x = true := by simpa using h
      have := atB_iff.1 this
      exact .inr (at_same hL hx hm this.1 this.2)
  · rintro (h | rfl)
    · rw [h]; rfl
    · have : atB k o (k, o, c) = true := atB_iff.2 ⟨rfl, rfl⟩
      rw [this]; simp
theorem KsOk.skip {L : List LRow} (hL : LOk L) {left : Lit → Bool} {k o o' : Int} {c : Bool} {ks : List Int} (h : KsOk L o left ks) (hm : (k, o', c) ∈ L) (hne : o' ≠ o) : KsOk L o (fun z => left z && !z.sameKey (litP k o')) ks := by
  refine ⟨h.nd, fun q => (h.mem q).trans ?_⟩
  constructor
  · rintro ⟨x, hx, h1, h2, h3⟩
    exact ⟨x, hx, h1, h2, (left_step hL hm hx).2 (.inl h3)⟩
  · rintro ⟨x, hx, h1, h2, h3⟩
    rcases (left_step hL hm hx).1 h3 with h4 | rfl
    · exact ⟨x, hx, h1, h2, h4⟩
    · exact absurd h2 hne
theorem KsOk.more {L : List LRow} (hL : LOk L) {left : Lit → Bool} {k o : Int} {c : Bool} {ks : List Int} (h : KsOk L o left ks) (hm : (k, o, c) ∈ L) (hl : left (litP k o) = true) : KsOk L o (fun z => left z && !z.sameKey (litP k o)) (ks ++ [k]) := by
  refine ⟨List.nodup_append.2 ⟨h.nd, by simp, fun a ha b hb e => ?_⟩, fun q => ?_⟩
  · rw [List.mem_singleton] at hb; subst hb; subst e
    obtain ⟨x, hx, h1, h2, h3⟩ := (h.mem a).1 ha
    have : keyR x = litP a o := by unfold keyR; rw [h1, h2]
    rw [this, hl] at h3; cases h3
  · rw [List.mem_append, List.mem_singleton, h.mem q]
    constructor
    · rintro (⟨x, hx, h1, h2, h3⟩ | rfl)
      · exact ⟨x, hx, h1, h2, (left_step hL hm hx).2 (.inl h3)⟩
      · exact ⟨_, hm, rfl, rfl, (left_step hL hm hm).2 (.inr rfl)⟩
    · rintro ⟨x, hx, h1, h2, h3⟩
      rcases (left_step hL hm hx).1 h3 with h4 | rfl
      · exact .inl ⟨x, hx, h1, h2, h4⟩
      · exact .inr h1.symm
theorem KsOk.len {L : List LRow} {left : Lit → Bool} {o : Int} {ks : List Int} (h : KsOk L o left ks) : ks.length ≤ L.length := by
  have := nodup_le ks (L.map (·.1)) h.nd (fun k hk => by
    obtain ⟨x, hx, h1, _⟩ := (h.mem k).1 hk
    exact List.mem_map.2 ⟨x, hx, h1⟩)
  simpa using this

def HeldO (w : World) (L : List LRow) (o : Int) (e : Ending) (w' : World) : Prop := ∃ A c ys, e = .returned (.slice A (List.length ys) c) ∧ EndsAt w' w.heap.size A c ys ∧ HeldKs L o ys ∧ Below w.heap.size w w'

set_option maxRecDepth 100000 in
set_option maxHeartbeats 2000000 in
theorem held_any (g of : Nat) (tt : TypeId) (cs : Array Value) (L : List LRow) (o : Int) (w : World) (h : TabO w g of tt cs L) :
    Calls Tryz.prog 94 #[.pointer (some ⟨g, of, none⟩), .int .i64 o] w (HeldO w L o) := by
  have hLok := h.ok
  have hlen := h.len
  obtain ⟨m, hg, hcs, hs1⟩ := h.src
  have c0 := (hg.cell of).trans hcs
  clear hg h hcs
  rcases hs1 with ⟨rfl, rfl⟩ | ⟨b, D, rfl, hown, hR⟩
  · have hrg := run_range_nilMap (P := Tryz.prog) w 91 178 185 Tryz.underlying91
    have hnx : ∀ ty, (Instr.next (.pointer (some ⟨w.heap.size, 0, none⟩)) false ty).run Tryz.prog (w.alloc (.mapIter none 0 #[] 0)) = _ := fun ty => run_next_nilMap w ty 0 0 #[]
    have hsort := Tryz.slices_Sort_int_none none 0 (w.alloc (.mapIter none 0 #[] 0))
    go_enter Tryz.func94, Tryz.ntmps94
    go_wp2
    refine wp_loop_rounds 1 ?_
    rw [rounds_succ]
    go_wp2_with fail
    refine hsort.mono ?_
    rintro e w' ⟨rfl, rfl⟩
    go_wp2
    go_ret
    exact ⟨none, 0, [], rfl, EndsAt.nil _ _, ⟨List.Pairwise.nil, by simp [heldL]⟩, ba _ _⟩
  · go_enter Tryz.func94, Tryz.ntmps94
    go_wp2_with (first
      | (at_range; refine wpList_range_own _ rfl _ 91 rfl 178 185 lawP Tryz.underlying91 _ b L.length _ rfl hown ?_; intro w0 hrg0 hg0 hs0)
      | go_in)
    go_frame
    have hB0 : Below w.heap.size w w0 := lgrown_below hg0
    have hblt := hown.lt
    clear c0 hown
    go_loopw [5] (fun v wr => ∃ (left : Lit → Bool) (cnt : Nat) (A : Option Addr) (n c : Nat) (ks : List Int), v = .slice A n c ∧ Hid (n = ks.length) ∧ wr.ranges Tryz.prog 178 holdElem b w.heap.size L.length D left cnt ∧ (∀ kl, left kl = true → Maps.has D kl = true) ∧ EndsAt wr (w.heap.size + 1) A c ks ∧ KsOk L o left ks ∧ Below w.heap.size w wr ∧ w.heap.size + 1 ≤ wr.heap.size)
      (fun _ wr => wr.rangeLeft b w.heap.size)
    case atStart =>
      exact ⟨_, _, none, 0, 0, [], rfl, rfl, hrg0, fun _ h => h, EndsAt.nil _ _, KsOk.start hR, hB0, by omega⟩
    case round =>
      obtain ⟨left, cnt, A, n, c, ks, rfl, hn, hrg, hlf, hE, hK, hBr, hsz⟩ := hrel
      go_wp2_with (first
        | (at_next; refine wpList_next_lock _ rfl _ rfl b w.heap.size L.length _ _ _ rfl hrg ?_ ?_)
        | go_in)
      · intro hc0 hl0
        have hkl := hK.len
        have hD := hK.done hl0
        rcases hE.2 with ⟨hnil, hk0⟩ | ⟨g, cap, cur, hv, hbase, hb, h1, h2, h3, h4⟩
        · obtain rfl : ks = [] := List.eq_nil_of_length_eq_zero hk0
          simp at hnil
          obtain ⟨rfl, rfl⟩ := hnil
          obtain rfl : n = 0 := hn.out
          have hsort := Tryz.slices_Sort_int_none none 0 wr
          clear hrg hK hE hn
          go_wp2_with fail
          refine hsort.mono ?_
          rintro e w' ⟨rfl, rfl⟩
          go_wp2
          go_ret
          exact ⟨none, 0, [], rfl, EndsAt.nil _ _, by simpa using hD, hBr⟩
        · cases hv
          have hH : Holds (Value.int .i64) wr g 0 ks.toArray := holds_of_blockI hb (by simpa using h4)
          have hgl : g < wr.heap.size := (Array.getElem?_eq_some_iff.1 hb).1
          have hsort := Tryz.slices_Sort_int g 0 c ks wr hH hgl (by omega)
          have hl2 : (ks.mergeSort fun x y => decide (x ≤ y)).length = ks.length := List.length_mergeSort ks
          rw [← hn.out] at hsort
          have Hsort := Lib.hid hsort
          clear hrg hH hK hE hsort
          go_wp2_with fail
          refine Hsort.out.mono ?_
          rintro e w' ⟨rfl, nn, os, rfl⟩
          have hgr := grownBy_sortedI (w := wr) (g := g) (n := nn) (os := os) (ks.mergeSort fun x y => decide (x ≤ y)).toArray
          have hro := ownsRow_sortedI (n := nn) (os := os) (ts := ks.mergeSort fun x y => decide (x ≤ y)) hl2 hbase hb h1 h2 h3
          obtain ⟨w9, hw9⟩ : ∃ w9, w9 = grow (putRow (Value.int .i64) (Sort.ahead wr nn) g 0 (ks.mergeSort fun x y => decide (x ≤ y)).toArray) os := ⟨_, rfl⟩
          rw [← hw9] at hgr hro ⊢
          have hB9 := hBr.grown hgr hBr.size (fun k e => by cases e; omega)
          have Hfin : Hid (HeldO w L o (.returned (.slice (some ⟨g, 0, none⟩) n c)) w9) := Lib.hid (by
            refine ⟨some ⟨g, 0, none⟩, c, _, by rw [hl2, ← hn.out], ?_, hD, hB9⟩
            refine EndsAt.base (B := w.heap.size + 1) ?_ (by omega)
            unfold EndsAt
            rw [hl2]; exact hro)
          clear hw9 hgr hro Hsort hD hb h1 h2 h3 h4 hl2 hn
          go_wp2
          go_ret
          exact Hfin.out
      · intro e w1 cnt1 hc hen
        have hm := came_mem hc hR (hlf _)
        have hk0 := hK.len
        obtain ⟨w2, hw2⟩ : ∃ w2, w2 = w1.alloc (.cells #[.int .i64 e.k, .int .i64 e.o] 178) := ⟨_, rfl⟩
        have hb2 : Below w1.heap.size w1 w2 := by rw [hw2]; exact ba _ _
        have hrg2 := hc.rg.kept (lbelow_grown hb2 none) (by simp) (by simp)
        have E1 := hE.kept hc.gr (fun r e => by cases e; omega)
        have E2 := E1.kept (lbelow_grown hb2 none) (fun r e => by cases e)
        have hB1 : Below w.heap.size w w1 := hBr.grown hc.gr hBr.size (fun k e => by cases e; exact Nat.le_refl _)
        have hB2 : Below w.heap.size w w2 := bt hB1 hb2
        have hs1 := hc.sz
        have hs2 := hb2.size
        have hlt2 := hc.lt
        obtain ⟨ek, eo, ec⟩ := e
        simp only at hw2 hrg2 hen hm ⊢
        have hlf2 : ∀ kl, (fun z => left z && !z.sameKey (litP ek eo)) kl = true → Maps.has D kl = true := fun kl h => hlf kl (by simp at h; exact h.1)
        have Hms : Hid (cnt1 < wr.rangeLeft b w.heap.size) := Lib.hid (by rw [hrg.left_eq]; exact hlt2)
        have hlk : left (litP ek eo) = true := hc.lf
        by_cases hoo : eo = o
        · subst hoo
          have hK2 := hK.more hLok hm hlk
          have hb3 := ba w2 (.cells #[.int .i64 ek] 3)
          have E3 := E2.kept (lbelow_grown hb3 none) (fun r e => by cases e)
          have hs3 := hb3.size
          obtain ⟨A5, c5, w5, hrun, hE5, hg5⟩ := ends_more E3 n hn.out (by have := hn.out; omega) ek w2.heap.size (by omega) ((Blk.new w2 3 #[.int .i64 ek]).cell 0)
          have hB5 := (bt hB2 hb3).grown hg5 (by have := hBr.size; omega) (fun r e => by have := (E3.lt' r e).1; omega)
          have hrg3 := hrg2.kept (lbelow_grown hb3 none) (by simp) (by simp)
          have hrg5 := hrg3.kept hg5 (fun e => by have := (E3.lt' _ e.symm).1; omega) (fun e => by have := (E3.lt' _ e.symm).1; omega)
          have hsz5 := hg5.size
          have Hn2 : Hid (n + 1 = (ks ++ [ek]).length) := Lib.hid (by rw [List.length_append, ← hn.out]; rfl)
          have Hrel := Lib.hid (And.intro hrg5 (And.intro hlf2 (And.intro hE5 (And.intro hK2 (And.intro hB5 (show w.heap.size + 1 ≤ w5.heap.size by omega))))))
          rw [hw2] at hrun
          simp only [World.size_alloc] at hrun
          clear hw2 hrg2 hrg3 hrg5 hlf2 hE5 hK2 hB5 hb2 hb3 E1 E2 E3 hE hK hrg hBr hB1 hB2 hm hlf hg5 hn hc hlk hk0 hs1 hs2 hs3 hlt2 hsz hsz5
          go_wp2_with (first
            | (at_builtin; refine wpList_append_run rfl (.tmp 22) (.tmp 25) 100 rfl _ _ _ w5 rfl rfl hrun ?_)
            | go_in)
          go_roundw
          case rel => exact ⟨_, cnt1, A5, n + 1, c5, ks ++ [ek], rfl, Hn2, Hrel.out.1, Hrel.out.2.1, Hrel.out.2.2.1, Hrel.out.2.2.2.1, Hrel.out.2.2.2.2.1, Hrel.out.2.2.2.2.2⟩
          case measure => rw [Hrel.out.1.left_eq]; exact Hms.out
        · have hK2 := hK.skip hLok hm hoo
          have Hrel := Lib.hid (And.intro hrg2 (And.intro hlf2 (And.intro E2 (And.intro hK2 (And.intro hB2 (show w.heap.size + 1 ≤ w2.heap.size by omega))))))
          rw [hw2] at Hrel
          clear hw2 hrg2 hlf2 E2 hK2 hB2 hb2 E1 hE hK hrg hBr hB1 hm hlf hc hlk hk0 hs1 hs2 hlt2 hsz
          go_wp2
          go_roundw
          case rel => exact ⟨_, cnt1, A, n, c, ks, rfl, hn, Hrel.out.1, Hrel.out.2.1, Hrel.out.2.2.1, Hrel.out.2.2.2.1, Hrel.out.2.2.2.2.1, Hrel.out.2.2.2.2.2⟩
          case measure => rw [Hrel.out.1.left_eq]; exact Hms.out
end Go.Proofs.YtlliaihmfimdoaaGreat
