/- Layer 14: items in memory. -/
import Derived.Test.YtfcafahgmnnlnaaQ1
namespace Go.Proofs.Ytfcafahgmnnlnaa.Qu
open Go.RowKit
set_option linter.unusedVariables false
set_option linter.unusedSimpArgs false

/-- An item: its number, its value, its taker. -/
structure IT where
  n : Int
  v : Nat
  t : Int
def IT.val (x : IT) : Value := .agg #[.int .i64 x.n, .int .u64 (x.v : Nat), .int .i64 x.t]
def itV : List IT → List Value
  | [] => []
  | x :: l => .int .i64 x.n :: .int .u64 (x.v : Nat) :: .int .i64 x.t :: itV l
theorem itV_len : ∀ l : List IT, (itV l).length = l.length * 3
  | [] => rfl
  | x :: l => by simp only [itV, List.length_cons, itV_len l]; omega
theorem itV_app : ∀ l m : List IT, itV (l ++ m) = itV l ++ itV m
  | [], m => rfl
  | x :: l, m => by simp only [List.cons_append, itV, itV_app l m]
theorem itV_one : ∀ l : List IT, ∀ u ∈ itV l, u.oneCell' = true
  | [], u, h => by simp [itV] at h
  | x :: l, u, h => by
    simp only [itV, List.mem_cons] at h
    rcases h with rfl | rfl | rfl | h
    · rfl
    · rfl
    · rfl
    · exact itV_one l u h
theorem itV_at : ∀ (l : List IT) (i : Nat) (h : i < l.length), (itV l)[i * 3]? = some (.int .i64 (l[i]'h).n) ∧ (itV l)[i * 3 + 1]? = some (.int .u64 ((l[i]'h).v : Nat)) ∧ (itV l)[i * 3 + 2]? = some (.int .i64 (l[i]'h).t)
  | x :: l, 0, h => ⟨rfl, rfl, rfl⟩
  | x :: l, i + 1, h => by
    have := itV_at l i (by simpa using h)
    rw [show (i + 1) * 3 = i * 3 + 3 by omega]
    simpa [itV] using this
theorem itV_set : ∀ (l : List IT) (i : Nat) (x : IT), (((itV l).set (i * 3) (.int .i64 x.n)).set (i * 3 + 1) (.int .u64 (x.v : Nat))).set (i * 3 + 2) (.int .i64 x.t) = itV (l.set i x)
  | [], i, x => by simp [itV]
  | y :: l, 0, x => rfl
  | y :: l, i + 1, x => by
    have := itV_set l i x
    rw [show (i + 1) * 3 = i * 3 + 3 by omega]
    simp only [itV, List.set_cons_succ, this]
/-- Changes in memory, in a block of changes. -/
def ItAt (w : World) (B : Nat → Prop) (A : Option Addr) (l : List IT) : Prop := 0 < l.length → ∃ b o, A = some ⟨b, o, none⟩ ∧ (B b ∧ ∃ cs fz, w.heap[b]? = some (.cells cs 71 fz)) ∧ ∀ i, (h : i < l.length) →
  w.cell? ⟨b, o + i * 3, none⟩ = some (.int .i64 (l[i]'h).n) ∧ w.cell? ⟨b, o + i * 3 + 1, none⟩ = some (.int .u64 ((l[i]'h).v : Nat)) ∧ w.cell? ⟨b, o + i * 3 + 2, none⟩ = some (.int .i64 (l[i]'h).t)
theorem ItAt.same {w w' : World} {B : Nat → Prop} {A : Option Addr} {l : List IT} (h : ItAt w B A l) (hs : ∀ (b : Nat) (cs : Array Value) (fz : Nat × Nat), w.heap[b]? = some (Obj.cells cs 71 fz) → w'.heap[b]? = w.heap[b]?) : ItAt w' B A l := fun hl => by
  obtain ⟨b, o, rfl, ⟨hB, cs, fz, hb⟩, hc⟩ := h hl
  have e := hs b cs fz hb
  have hcell : ∀ i, w'.cell? ⟨b, i, none⟩ = w.cell? ⟨b, i, none⟩ := fun i => by unfold World.cell?; rw [e]
  exact ⟨b, o, rfl, ⟨hB, cs, fz, by rw [e]; exact hb⟩, fun i hi => by rw [hcell, hcell, hcell]; exact hc i hi⟩
theorem ItAt.below {w w' : World} {B : Nat → Prop} {A : Option Addr} {l : List IT} (h : ItAt w B A l) (hb : Below w.heap.size w w') : ItAt w' B A l :=
  h.same fun b cs fz hh => hb.block b (Array.getElem?_eq_some_iff.1 hh).1
theorem ItAt.kept {w w' : World} {B : Nat → Prop} {A : Option Addr} {l : List IT} {g : Nat} {t : TypeId} {cs : Array Value} (h : ItAt w B A l) (hg : w.grownBy w' (some g)) (hk : Blk w g t cs) (ht : t ≠ 71) : ItAt w' B A l :=
  h.same fun b cs' fz hh => hg.block b (Array.getElem?_eq_some_iff.1 hh).1 (fun e => by
    cases e
    unfold Blk at hk
    rw [hk] at hh
    injection hh with hh
    injection hh with _ e2
    exact ht e2)
theorem ItAt.mono {w : World} {B B' : Nat → Prop} {A : Option Addr} {l : List IT} (h : ItAt w B A l) (hB : ∀ b, B b → b < w.heap.size → B' b) : ItAt w B' A l := fun hl => by
  obtain ⟨b, o, rfl, ⟨hb, cs, fz, hh⟩, hc⟩ := h hl
  exact ⟨b, o, rfl, ⟨hB b hb (Array.getElem?_eq_some_iff.1 hh).1, cs, fz, hh⟩, hc⟩
/-- A list whose block is not the one that turns. -/
theorem ItAt.off {w w' : World} {B : Nat → Prop} {A : Option Addr} {l : List IT} {g : Nat} (h : ItAt w B A l) (hg : w.grownBy w' (some g)) (hB : ∀ b, B b → b ≠ g) : ItAt w' B A l := fun hl => by
  obtain ⟨b, o, rfl, ⟨hb, cs, fz, hh⟩, hc⟩ := h hl
  have e := hg.block b (Array.getElem?_eq_some_iff.1 hh).1 (fun e => hB b hb (Option.some.inj e))
  have hcell : ∀ i, w'.cell? ⟨b, i, none⟩ = w.cell? ⟨b, i, none⟩ := fun i => by unfold World.cell?; rw [e]
  exact ⟨b, o, rfl, ⟨hb, cs, fz, by rw [e]; exact hh⟩, fun i hi => by rw [hcell, hcell, hcell]; exact hc i hi⟩
/-- A list of changes of one's own. -/
def OwnI (w : World) (B : Nat) (A : Option Addr) (c : Nat) (l : List IT) : Prop := w.ownsRow B 71 3 (.slice A l.length c) l.length (itV l)
section
variable {u u' : World} {B : Nat} {A : Option Addr} {c : Nat} {l : List IT}
theorem OwnI.nil (w : World) (B : Nat) : OwnI w B none 0 [] := World.ownsRow_nil w _ _ _
theorem OwnI.lt' (h : OwnI u B A c l) : ∀ r, blk A = some r → B ≤ r ∧ r < u.heap.size := fun r e => World.ownsRow.lt h r (by rw [ownBlock_slice]; exact e)
theorem OwnI.kept {row : Option Nat} (h : OwnI u B A c l) (hg : u.grownBy u' row) (hr : ∀ r, row = some r → r < B) : OwnI u' B A c l := by
  refine World.ownsRow.kept h hg ?_
  rcases hb : (Value.slice A l.length c).ownBlock with _ | k
  · exact .inl rfl
  · exact .inr (fun e => by have := (h.lt k hb).1; have := hr k e.symm; omega)
theorem OwnI.at_ (h : OwnI u B A c l) : ItAt u (fun b => B ≤ b) A l := fun hl => by
  rcases h.2 with ⟨h1, h2⟩ | ⟨g, cap, cur, h1, hb, hg, hn, hm, hc, ht⟩
  · omega
  · injection h1 with e1 e2 e3
    refine ⟨g, 0, e1, ⟨hb, cur, _, hg⟩, fun i hi => ?_⟩
    have hcell : ∀ j v, (itV l)[j]? = some v → u.cell? ⟨g, 0 + j, none⟩ = some v := fun j v hv => by
      rw [Nat.zero_add, cell_of_row u g j cur _ (0, 0) hg]
      rw [← ht, List.getElem?_take] at hv
      split at hv
      · simpa using hv
      · cases hv
    obtain ⟨a1, a2, a3⟩ := itV_at l i hi
    exact ⟨hcell _ _ a1, hcell _ _ a2, hcell _ _ a3⟩
theorem Try.infoIt : (Try.prog.info? 71).map (fun i => (i.zero, i.size, i.bytes)) = some (some (.agg #[.int .i64 0, .int .u64 0, .int .i64 0]), 3, 24) := by kernel_rfl
/-- Changes of another list put behind one's own. -/
theorem it_app (h : OwnI u B A c l) (A' : Option Addr) (c' : Nat) (m : List IT) (n n' : Nat) (hn : n = l.length) (hn' : n' = m.length) (hz : ∀ b o, A' = some ⟨b, o, none⟩ → ∀ i (hi : i < m.length), u.cell? ⟨b, o + i * 3, none⟩ = some (.int .i64 (m[i]'hi).n) ∧ u.cell? ⟨b, o + i * 3 + 1, none⟩ = some (.int .u64 ((m[i]'hi).v : Nat)) ∧ u.cell? ⟨b, o + i * 3 + 2, none⟩ = some (.int .i64 (m[i]'hi).t)) (hA : 0 < m.length → ∃ b o, A' = some ⟨b, o, none⟩) (hc : n ≤ c) (hl : l.length + m.length ≤ 1000000) (hB : B ≤ u.heap.size) :
    ∃ A2 c2 u', (Builtin.append_ #[51, 51] 51 #[.slice A n c, .slice A' n' c']).run Try.prog u = .ok (.slice A2 (n + n') c2) u' ∧ OwnI u' B A2 c2 (l ++ m) ∧ u.grownBy u' (blk A) ∧ (∀ r, blk A2 = some r → blk A = some r ∨ r = u.heap.size) := by
  subst hn hn'
  obtain ⟨i0, hi, hz0, hz1, hz2⟩ := info_parts Try.infoIt
  rcases Nat.eq_zero_or_pos m.length with h0 | h0
  · have hm : m = [] := List.eq_nil_of_length_eq_zero h0
    subst hm
    refine ⟨A, c, u, ?_, by rw [List.append_nil]; exact h, ⟨rfl, rfl, rfl, Nat.le_refl _, fun _ _ _ => rfl⟩, fun r hr => .inl hr⟩
    exact run_append_nothing u 51 51 51 71 i0 Try.underlying51 hi A l.length c hc (.slice A' 0 c') ⟨.inl ⟨_, Try.underlying51⟩, fun _ => by cases A' <;> rfl, by rcases A' with _ | a; exact run_firstCells_none u i0.size 0 0 c'; exact run_firstCells_some u i0.size 0 a 0 c' [] (by simp) (by simp), by rcases A' with _ | a; exact run_firstCells_none u.drew i0.size 0 0 c'; exact run_firstCells_some u.drew i0.size 0 a 0 c' [] (by simp) (by simp), by simp, by simp⟩
  · obtain ⟨b, o, rfl⟩ := hA h0
    have hcs := hz b o rfl
    obtain ⟨v', w', hrun, hown, hgr, _, hob⟩ := run_append_own_at (P := Try.prog) u B 51 51 71 i0 _ 3 24 Try.underlying51 hi hz0 hz1 hz2 rfl (by omega) (.slice A l.length c) l.length (itV l) h ⟨b, o, none⟩ m.length c' (itV m) (itV_len m)
      (fun j v hv => by
        rw [Addr.add_lit]
        have hj : j < (itV m).length := (List.getElem?_eq_some_iff.1 hv).1
        rw [itV_len] at hj
        obtain ⟨q, r, hr, rfl⟩ : ∃ q r, r < 3 ∧ j = q * 3 + r := ⟨j / 3, j % 3, Nat.mod_lt _ (by omega), by omega⟩
        have hq : q < m.length := by omega
        obtain ⟨a1, a2, a3⟩ := itV_at m q hq
        obtain ⟨d1, d2, d3⟩ := hcs q hq
        match r, hr with
        | 0, _ => rw [Nat.add_zero] at hv ⊢; rw [a1] at hv; cases hv; exact d1
        | 1, _ => rw [a2] at hv; cases hv; exact d2
        | 2, _ => rw [a3] at hv; cases hv; exact d3)
      (itV_one m) (by simp only [maxLen]; omega) (by omega) hB
    obtain ⟨g2, c2, rfl⟩ := Joins.ownsRow_form hown (by omega)
    rw [ownBlock_slice] at hgr
    rw [ownBlock_slice, ownBlock_slice] at hob
    refine ⟨some ⟨g2, 0, none⟩, c2, w', hrun, ?_, hgr, fun r hr => by rcases hob with h | h; exact .inl (by rw [← h]; exact hr); rw [hr] at h; cases h; exact .inr rfl⟩
    unfold OwnI
    rw [List.length_append, itV_app]
    exact hown
theorem OwnI.cap (h : OwnI u B A c l) : l.length ≤ c := by
  obtain ⟨_, ⟨h1, h2⟩ | ⟨g, cap, cur, e, _, _, hle, _⟩⟩ := h
  · rw [h2]; exact Nat.zero_le _
  · cases e; exact hle
theorem OwnI.less {B' : Nat} (h : OwnI u B A c l) (hB : B' ≤ B) : OwnI u B' A c l := by
  obtain ⟨h1, h2⟩ := h
  refine ⟨h1, ?_⟩
  rcases h2 with h2 | ⟨g', cap', cur, hv, hb, hrest⟩
  · exact .inl h2
  · exact .inr ⟨g', cap', cur, hv, Nat.le_trans hB hb, hrest⟩
end
theorem iclone_any (A : Option Addr) (l : List IT) (n c : Nat) (w : World) (hn : Hid (n = l.length)) (hm : Hid (n ≤ 500000)) {B : Nat → Prop} (h : ItAt w B A l) :
    Calls Try.prog 56 #[.slice A n c] w fun e w' => ∃ A2 c2, e = .returned (.slice A2 n c2) ∧ OwnI w' w.heap.size A2 c2 l ∧ Below w.heap.size w w' := by
  cases A with
  | none =>
    have hl : l = [] := by
      cases l with
      | nil => rfl
      | cons x t => obtain ⟨b, o, e, _⟩ := h (by simp); cases e
    subst hl
    obtain rfl : n = 0 := hn.out
    have hnl : ∀ w, (binOp .eql 51 (.slice none 0 c) (.slice none 0 0)).run Try.prog w = .ok (.bool true) w := fun w => by simp [binOp, Go.run_equal_slice_nil w 51 71 none 0 c Try.underlying51]
    go_enter Try.func56, Try.ntmps56
    go_wp2
    go_ret
    exact ⟨none, 0, rfl, OwnI.nil _ _, Below.refl _ _⟩
  | some a =>
    obtain ⟨w1, hw1⟩ : ∃ w1, w1 = w.alloc (.cells #[] 71) := ⟨_, rfl⟩
    have ow : OwnI w1 w.heap.size (some ⟨w.heap.size, 0, none⟩) 0 [] := by
      rw [hw1]
      exact World.ownsRow_made w #[] 0 (Nat.le_refl _) (by simp [maxLen]) rfl
    have hbw : Below w.heap.size w w1 := by rw [hw1]; exact ba _ _
    have hat := h.below hbw
    obtain ⟨A2, c2, w2, hrun, own2, hg2, _⟩ := it_app ow (some a) c l 0 n rfl hn.out (fun b o e i hi => by
      obtain ⟨b', o', e', _, hc⟩ := hat (by omega)
      cases e; cases e'; exact hc i hi) (fun hl => by obtain ⟨b', o', e', _⟩ := hat hl; exact ⟨b', o', e'⟩) (Nat.zero_le _) (by have := hm.out; have := hn.out; simp; omega) hbw.size
    rw [Nat.zero_add] at hrun
    rw [List.nil_append] at own2
    have hF : Below w.heap.size w w2 := hbw.grown hg2 hbw.size (fun k e => by have := (ow.lt' k e).1; exact this)
    have HO := Lib.hid (And.intro own2 hF)
    rw [hw1] at hrun
    have hnl : ∀ w, (binOp .eql 51 (.slice (some a) n c) (.slice none 0 0)).run Try.prog w = .ok (.bool false) w := fun w => by simp [binOp, Go.run_equal_slice_nil w 51 71 (some a) n c Try.underlying51]
    clear hw1 ow hbw hat own2 hg2 hF h
    go_enter Try.func56, Try.ntmps56
    go_wp2_with (at_builtin; refine wpList_append_run rfl (.tmp 5) (.tmp 6) 51 rfl _ _ _ w2 rfl rfl hrun ?_)
    go_ret
    exact ⟨A2, c2, rfl, HO.out.1, HO.out.2⟩
end Go.Proofs.Ytfcafahgmnnlnaa.Qu
