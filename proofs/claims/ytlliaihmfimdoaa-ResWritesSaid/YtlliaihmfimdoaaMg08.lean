/- Parts In of one proof. -/
import Derived.Test.YtlliaihmfimdoaaMg07
import Derived.Test.YtlliaihmfimdoaaShelf
import Derived.Sort.OwnSortedInts
import Derived.Lib.SmallJoins
import Derived.Lib.OwnKind
namespace Go.Proofs.Ytlliaihmfimdoaa
open Go.RowKit Go.Maps Go.Sort
set_option linter.unusedVariables false
set_option linter.unusedSimpArgs false

theorem Try.infoInt : (Try.prog.info? 3).map (fun i => (i.zero, i.size, i.bytes)) = some (some (.int .i64 0), 1, 8) := by kernel_rfl
/-- A list of numbers of its own. -/
def EndsAt (u : World) (B : Nat) (A : Option Addr) (c : Nat) (es : List Int) : Prop := u.ownsRow B 3 1 (.slice A es.length c) es.length (es.map (Value.int .i64))
section
variable {u u' : World} {B : Nat} {A : Option Addr} {c : Nat} {es : List Int}
theorem EndsAt.nil (u : World) (B : Nat) : EndsAt u B none 0 [] := World.ownsRow_nil u _ _ _
theorem EndsAt.lt' (h : EndsAt u B A c es) : ∀ r, blk A = some r → B ≤ r ∧ r < u.heap.size := fun r e => World.ownsRow.lt h r (by rw [ownBlock_slice]; exact e)
theorem EndsAt.kept {row : Option Nat} (h : EndsAt u B A c es) (hg : u.grownBy u' row) (hr : ∀ r, row = some r → r < B ∨ u.heap.size ≤ r) : EndsAt u' B A c es := by
  refine World.ownsRow.kept h hg ?_
  rcases hb : (Value.slice A es.length c).ownBlock with _ | k
  · exact .inl rfl
  · refine .inr (fun e => ?_)
    have h2 := World.ownsRow.lt h k hb
    rcases hr k e.symm with h3 | h3 <;> omega
theorem EndsAt.base {B' : Nat} (h : EndsAt u B A c es) (hB : B' ≤ B) : EndsAt u B' A c es := by
  unfold EndsAt at h ⊢
  obtain ⟨h1, h2⟩ := h
  refine ⟨h1, ?_⟩
  rcases h2 with h2 | ⟨g', cap', cur, hv, hb, hrest⟩
  · exact .inl h2
  · exact .inr ⟨g', cap', cur, hv, Nat.le_trans hB hb, hrest⟩
theorem ends_more (h : EndsAt u B A c es) (n : Nat) (hn : n = es.length) (hl : n ≤ 1000000) (x : Int) (q : Nat) (hBu : B ≤ u.heap.size) (hq0 : u.cell? ⟨q, 0, none⟩ = some (.int .i64 x)) :
    ∃ A2 c2 u', (Builtin.append_ #[64, 64] 64 #[.slice A n c, .slice (some ⟨q, 0, none⟩) 1 1]).run Try.prog u = .ok (.slice A2 (n + 1) c2) u' ∧
      EndsAt u' B A2 c2 (es ++ [x]) ∧ u.grownBy u' (blk A) := by
  subst hn
  obtain ⟨i0, hi, hz0, hz1, hz2⟩ := info_parts Try.infoInt
  obtain ⟨v', w', hrun, hown, hgr, _, _⟩ := run_append_own_at (P := Try.prog) u B 64 64 3 i0 _ 1 8 Try.underlying64 hi hz0 hz1 hz2 rfl (by omega) (.slice A es.length c) es.length (es.map (Value.int .i64)) h ⟨q, 0, none⟩ 1 1 [.int .i64 x] rfl
    (fun j u hu => by
      match j, hu with
      | 0, hu => cases hu; exact hq0)
    (fun u hu => by simp at hu; subst hu; rfl) (by simp only [maxLen]; omega) (by omega) hBu
  obtain ⟨g2, c2, rfl⟩ := Joins.ownsRow_form hown (by omega)
  rw [ownBlock_slice] at hgr
  refine ⟨some ⟨g2, 0, none⟩, c2, w', hrun, ?_, hgr⟩
  unfold EndsAt
  rw [List.length_append, List.map_append]
  exact hown
end

/-- The keys that have come: each once. -/
structure KsOk (L : List LRow) (o : Int) (left : Lit → Bool) (ks : List Int) : Prop where
  nd : ks.Nodup
  mem : ∀ k, k ∈ ks ↔ ∃ x ∈ L, x.1 = k ∧ x.2.1 = o ∧ left (keyR x) = false
/-- The keys that an owner holds, rising. -/
structure HeldKs (L : List LRow) (o : Int) (ys : List Int) : Prop where
  up : ys.Pairwise (· < ·)
  mem : ∀ k, k ∈ ys ↔ heldL L k o = true
theorem up_same : ∀ {a b : List Int}, a.Pairwise (· < ·) → b.Pairwise (· < ·) → (∀ k, k ∈ a ↔ k ∈ b) → a = b
  | [], [], _, _, _ => rfl
  | [], y :: b, _, _, h => absurd ((h y).2 List.mem_cons_self) (by simp)
  | x :: a, [], _, _, h => absurd ((h x).1 List.mem_cons_self) (by simp)
  | x :: a, y :: b, ha, hb, h => by
    rw [List.pairwise_cons] at ha hb
    have hxy : x = y := by
      have h1 : x = y ∨ x ∈ b := List.mem_cons.1 ((h x).1 List.mem_cons_self)
      have h2 : y = x ∨ y ∈ a := List.mem_cons.1 ((h y).2 List.mem_cons_self)
      rcases h1 with h1 | h1
      · exact h1
      · rcases h2 with h2 | h2
        · exact h2.symm
        · have := hb.1 x h1; have := ha.1 y h2; omega
    subst hxy
    rw [up_same ha.2 hb.2 fun k => ?_]
    constructor
    · intro hk
      rcases List.mem_cons.1 ((h k).1 (List.mem_cons_of_mem _ hk)) with e | e
      · subst e; exact absurd (ha.1 _ hk) (by omega)
      · exact e
    · intro hk
      rcases List.mem_cons.1 ((h k).2 (List.mem_cons_of_mem _ hk)) with e | e
      · subst e; exact absurd (hb.1 _ hk) (by omega)
      · exact e
theorem HeldKs.same {L : List LRow} {o : Int} {a b : List Int} (ha : HeldKs L o a) (hb : HeldKs L o b) : a = b :=
  up_same ha.up hb.up fun k => (ha.mem k).trans (hb.mem k).symm
theorem KsOk.done {L : List LRow} {o : Int} {left : Lit → Bool} {ks : List Int} (h : KsOk L o left ks) (hl : ∀ kl, left kl = false) : HeldKs L o (ks.mergeSort fun x y => decide (x ≤ y)) := by
  have hp := List.mergeSort_perm ks fun x y => decide (x ≤ y)
  refine ⟨?_, fun k => ?_⟩
  · have hs := List.pairwise_mergeSort (le := fun x y : Int => decide (x ≤ y)) (by intro a b c; simp; omega) (by intro a b; simp; omega) ks
    have hn : (ks.mergeSort fun x y => decide (x ≤ y)).Nodup := hp.nodup_iff.2 h.nd
    exact (hs.and hn).imp fun {a b} hab => by
      have := of_decide_eq_true hab.1
      have := hab.2
      omega
  · rw [hp.mem_iff, h.mem k, held_iff]
    constructor
    · rintro ⟨x, hx, h1, h2, _⟩; exact ⟨x, hx, h1, h2⟩
    · rintro ⟨x, hx, h1, h2⟩; exact ⟨x, hx, h1, h2, hl _⟩
theorem KsOk.start {H : Type} {D : DataW H} {L : List LRow} {o : Int} (hR : Reads D L) : KsOk L o (Maps.has D) [] := by
  refine ⟨List.nodup_nil, fun k => ⟨by simp, ?_⟩⟩
  rintro ⟨x, hx, _, _, h3⟩
  rw [hR.has] at h3
  exact absurd (show anyK L (keyR x) = true from List.any_eq_true.2 ⟨x, hx, key_same _ _⟩) (by rw [h3]; simp)
theorem left_step {L : List LRow} (hL : LOk L) {left : Lit → Bool} {k o : Int} {c : Bool} (hm : (k, o, c) ∈ L) {x : LRow} (hx : x ∈ L) : ((left (keyR x) && !(keyR x).sameKey (litP k o)) = false) ↔ (left (keyR x) = false ∨ x = (k, o, c)) := by
  have hok := hL.ok _ hm
  have hs := same_at (hL.ok x hx) (k := k) (o := o) hok.1 hok.2
  rw [hs]
  constructor
  · intro h
    rcases hl : left (keyR x) with _ | _
    · exact .inl rfl
    · rw [hl] at h
      have : atB k o x = true := by simpa using h
      have := atB_iff.1 this
      exact .inr (at_same hL hx hm this.1 this.2)
  · rintro (h | rfl)
    · rw [h]; rfl
    · have : atB k o (k, o, c) = true := atB_iff.2 ⟨rfl, rfl⟩
      rw [this]; simp
theorem KsOk.skip {L : List LRow} (hL : LOk L) {left : Lit → Bool} {k o o' : Int} {c : Bool} {ks : List Int} (h : KsOk L o left ks) (hm : (k, o', c) ∈ L) (hne : o' ≠ o) : KsOk L o (fun z => left z && !z.sameKey (litP k o')) ks := by
  refine ⟨h.nd, fun q => (h.mem q).trans ?_⟩
  constructor
  · rintro ⟨x, hx, h1, h2, h3⟩
    exact ⟨x, hx, h1, h2, (left_step hL hm hx).2 (.inl h3)⟩
  · rintro ⟨x, hx, h1, h2, h3⟩
    rcases (left_step hL hm hx).1 h3 with h4 | rfl
    · exact ⟨x, hx, h1, h2, h4⟩
    · exact absurd h2 hne
theorem KsOk.more {L : List LRow} (hL : LOk L) {left : Lit → Bool} {k o : Int} {c : Bool} {ks : List Int} (h : KsOk L o left ks) (hm : (k, o, c) ∈ L) (hl : left (litP k o) = true) : KsOk L o (fun z => left z && !z.sameKey (litP k o)) (ks ++ [k]) := by
  refine ⟨List.nodup_append.2 ⟨h.nd, by simp, fun a ha b hb e => ?_⟩, fun q => ?_⟩
  · rw [List.mem_singleton] at hb; subst hb; subst e
    obtain ⟨x, hx, h1, h2, h3⟩ := (h.mem a).1 ha
    have : keyR x = litP a o := by unfold keyR; rw [h1, h2]
    rw [this, hl] at h3; cases h3
  · rw [List.mem_append, List.mem_singleton, h.mem q]
    constructor
    · rintro (⟨x, hx, h1, h2, h3⟩ | rfl)
      · exact ⟨x, hx, h1, h2, (left_step hL hm hx).2 (.inl h3)⟩
      · exact ⟨_, hm, rfl, rfl, (left_step hL hm hm).2 (.inr rfl)⟩
    · rintro ⟨x, hx, h1, h2, h3⟩
      rcases (left_step hL hm hx).1 h3 with h4 | rfl
      · exact .inl ⟨x, hx, h1, h2, h4⟩
      · exact .inr h1.symm
theorem KsOk.len {L : List LRow} {left : Lit → Bool} {o : Int} {ks : List Int} (h : KsOk L o left ks) : ks.length ≤ L.length := by
  have := nodup_le ks (L.map (·.1)) h.nd (fun k hk => by
    obtain ⟨x, hx, h1, _⟩ := (h.mem k).1 hk
    exact List.mem_map.2 ⟨x, hx, h1⟩)
  simpa using this

def HeldO (w : World) (L : List LRow) (o : Int) (e : Ending) (w' : World) : Prop := ∃ A c ys, e = .returned (.slice A (List.length ys) c) ∧ EndsAt w' w.heap.size A c ys ∧ HeldKs L o ys ∧ Below w.heap.size w w'

end Go.Proofs.Ytlliaihmfimdoaa
