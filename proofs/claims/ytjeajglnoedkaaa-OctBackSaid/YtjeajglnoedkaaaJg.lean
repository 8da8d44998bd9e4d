/- Layer 1: a fresh copy; a list of parts in memory of its own. -/
import Derived.Test.YtjeajglnoedkaaaJf
import Derived.Test.YtjeajglnoedkaaaInvIn
import Derived.Lib.OwnKind
import Derived.Lib.SmallJoins
namespace Go.Proofs.Ytjeajglnoedkaaa
open Go.RowKit
set_option linter.unusedVariables false
set_option linter.unusedSimpArgs false

set_option maxHeartbeats 1000000 in
theorem fresh_any (A : Option Addr) (l : List UInt8) (n c : Nat) (w : World) (hn : n = l.length) (hm : n ≤ 100000000) (h : Bs w w.heap.size A l) :
    Calls Try.prog 34 #[.slice A n c] w fun e w' => e = .returned (.slice (some ⟨w.heap.size, 0, none⟩) n n) ∧ Raw w' w.heap.size 5 l ∧ Below w.heap.size w w' := by
  obtain ⟨i0, hi, hz0, hz1, hz2⟩ := info_parts Try.infoU8j
  have hnI : ¬ (n : Int) < 0 := by omega
  have Hn := Lib.hid hn
  have Hm := Lib.hid hm
  clear hn hm
  go_enter Try.func34, Try.ntmps34
  go_wp2_with (first
    | (at_make; refine wpList_make_raw _ rfl _ _ 23 rfl 5 i0 Try.underlying23 hi hz0 hz1 hz2 .i64 .i64 _ _ n rfl rfl rfl rfl (by have := Hm.out; omega) ?_; intro w1 hr1 hb1)
    | (with_reducible refine wpList_copy_raw rfl (.tmp 7) (.tmp 8) 23 rfl 5 i0 Try.underlying23 hi hz1 _ _ _ _ _ _ rfl rfl w.heap.size 0 _ hr1 w.heap.size l (h.below hb1) Hn.out (by rw [Hn.out]; exact Nat.le_refl _) (fun _ => rfl) (by simp [Hn.out]) w.heap.size w hb1 (Nat.le_refl _) ?_))
  intro w2 hr2 hb2
  have h2 := hr2.out
  have e := splice_head l 0
  rw [Nat.add_zero] at e
  rw [Hn.out, e] at h2
  simp only [List.replicate_zero, List.append_nil] at h2
  clear hr1 hr2 e
  go_wp2
  go_ret
  exact ⟨rfl, h2, hb2⟩

set_option maxHeartbeats 400000 in
theorem pieces_any (A : Option Addr) (n c : Nat) (w : World) :
    Calls Try.prog 33 #[.slice A n c] w fun e w' => e = .returned (.func (.func 41) #[] #[.pointer (some ⟨w.heap.size, 0, none⟩)]) ∧
      Blk w' w.heap.size 23 #[.slice A n c] ∧ Below w.heap.size w w' ∧ w'.heap.size = w.heap.size + 1 := by
  go_enter Try.func33, Try.ntmps33
  go_wp2
  go_ret
  exact ⟨rfl, Blk.new _ _ _, ba _ _, by simp⟩

theorem Try.infoSlj : (Try.prog.info? 23).map (fun i => (i.zero, i.size, i.bytes)) = some (some (.slice none 0 0), 1, 24) := by kernel_rfl

/-- Bytes that lie in a row of bytes, from B on. -/
def FrB (u : World) (B : Nat) (A : Option Addr) (l : List UInt8) : Prop :=
  0 < l.length → ∃ g, A = some ⟨g, 0, none⟩ ∧ B ≤ g ∧ ∃ cs fz, u.heap[g]? = some (.cells cs 5 fz) ∧ ∀ i, (h : i < l.length) → cs[i]? = some (.int .u8 ((l[i]'h).toNat : Int))
section
variable {u u' : World} {B : Nat} {A : Option Addr} {l : List UInt8}
theorem Raw.fr {g : Nat} (h : Raw u g 5 l) (hB : B ≤ g) : FrB u B (some ⟨g, 0, none⟩) l := fun hn => ⟨g, rfl, hB, _, _, h, fun i hi => by simp [bv, hi]⟩
theorem Own.fr {base c : Nat} (h : Own u base 5 A c l) (hB : B ≤ base) : FrB u B A l := fun hn => by
  rcases h.2 with ⟨h1, h2⟩ | ⟨g, cap, cur, h1, hb, hg, hnc, hm, hsz, htk⟩
  · omega
  · simp only [Value.slice.injEq] at h1
    obtain ⟨rfl, _, _⟩ := h1
    refine ⟨g, rfl, by omega, cur, _, hg, fun i hi => ?_⟩
    have h3 := bv_get l i hi
    rw [← htk, List.getElem?_take] at h3
    split at h3
    · rw [← Array.getElem?_toList]; exact h3
    · cases h3
theorem FrB.bs (h : FrB u B A l) : Bs u u.heap.size A l := fun hn => by
  obtain ⟨g, e, h1, cs, fz, h2, h3⟩ := h hn
  refine ⟨g, 0, e, (Array.getElem?_eq_some_iff.1 h2).1, fun i hi => ?_⟩
  rw [Nat.zero_add, cell_of_row u g i cs _ fz h2, h3 i hi]
theorem FrB.kept {row : Option Nat} (h : FrB u B A l) (hg : u.grownBy u' row) (hr : ∀ r, row = some r → r < B ∨ ∀ cs fz, u.heap[r]? ≠ some (.cells cs 5 fz)) : FrB u' B A l := fun hn => by
  obtain ⟨g, e, h1, cs, fz, h2, h3⟩ := h hn
  refine ⟨g, e, h1, cs, fz, (hg.block g (Array.getElem?_eq_some_iff.1 h2).1 (fun e => ?_)).trans h2, h3⟩
  rcases hr g e.symm with h4 | h4
  · omega
  · exact h4 _ _ h2
theorem FrB.base {B' : Nat} (h : FrB u B A l) (hB : B' ≤ B) : FrB u B' A l := fun hn => by
  obtain ⟨g, e, h1, r⟩ := h hn; exact ⟨g, e, by omega, r⟩
theorem FrB.below (h : FrB u B A l) (hb : Below u.heap.size u u') : FrB u' B A l :=
  h.kept (row := none) ⟨hb.os, hb.tape, hb.output, hb.size, fun k hk _ => hb.block k hk⟩ (fun r e => by cases e)
end
/-- A list of texts of its own: its row, and each text's block, from B on. -/
def PartsAt (u : World) (B : Nat) (A : Option Addr) (c : Nat) (ls : List (List UInt8)) : Prop :=
  ∃ vs : List Value, u.ownsRow B 23 1 (.slice A ls.length c) ls.length vs ∧ ∀ i, (h : i < ls.length) → ∃ Ag cg, vs[i]? = some (.slice Ag (ls[i]'h).length cg) ∧ FrB u B Ag (ls[i]'h)
section
variable {u u' : World} {B : Nat} {A : Option Addr} {c : Nat} {ls : List (List UInt8)}
theorem PartsAt.nil (u : World) (B : Nat) : PartsAt u B none 0 [] := ⟨[], World.ownsRow_nil u _ _ _, fun i h => absurd h (by simp)⟩
theorem PartsAt.kept {row : Option Nat} (h : PartsAt u B A c ls) (hg : u.grownBy u' row) (hr : ∀ r, row = some r → r < B ∨ ∃ o, u.heap[r]? = some o ∧ o.isCells = false) : PartsAt u' B A c ls := by
  obtain ⟨vs, h1, h2⟩ := h
  refine ⟨vs, h1.kept hg ?_, fun i hi => ?_⟩
  · rcases hb : (Value.slice A ls.length c).ownBlock with _ | k
    · exact .inl rfl
    · refine .inr (fun e => ?_)
      rcases hr k e.symm with h3 | ⟨o, h3, h4⟩
      · have := (h1.lt k hb).1; omega
      · obtain ⟨cs, fz, h5⟩ := Lib.ownsRow_kind h1 k hb
        rw [h5] at h3; cases h3; cases h4
  · obtain ⟨Ag, cg, e1, e2⟩ := h2 i hi
    refine ⟨Ag, cg, e1, e2.kept hg (fun r e => ?_)⟩
    rcases hr r e with h3 | ⟨o, h3, h4⟩
    · exact .inl h3
    · exact .inr (fun cs fz h5 => by rw [h3] at h5; cases h5; cases h4)
theorem PartsAt.below (h : PartsAt u B A c ls) (hb : Below u.heap.size u u') : PartsAt u' B A c ls :=
  h.kept (row := none) ⟨hb.os, hb.tape, hb.output, hb.size, fun k hk _ => hb.block k hk⟩ (fun r e => by cases e)
/-- One more. -/
theorem parts_more (h : PartsAt u B A c ls) (n : Nat) (hn : n = ls.length) (hl : n ≤ 1000) (Ag : Option Addr) (m cg q : Nat) (l : List UInt8) (hm : m = l.length) (hr : FrB u B Ag l) (hBu : B ≤ u.heap.size) (hq : u.cell? ⟨q, 0, none⟩ = some (.slice Ag m cg)) :
    ∃ A2 c2 u', (Builtin.append_ #[31, 31] 31 #[.slice A n c, .slice (some ⟨q, 0, none⟩) 1 1]).run Try.prog u = .ok (.slice A2 (n + 1) c2) u' ∧
      PartsAt u' B A2 c2 (ls ++ [l]) ∧ ∃ row, u.grownBy u' row ∧ ∀ r, row = some r → B ≤ r ∧ ∃ cs fz, u.heap[r]? = some (.cells cs 23 fz) := by
  subst hn hm
  obtain ⟨i0, hi, hz0, hz1, hz2⟩ := info_parts Try.infoSlj
  obtain ⟨vs, h1, h2⟩ := h
  have hvl := h1.1
  rw [Nat.mul_one] at hvl
  obtain ⟨v', w', hrun, hown, hgr, _, _⟩ := run_append_own_at (P := Try.prog) u B 31 31 23 i0 (.slice none 0 0) 1 24 Try.underlying31 hi hz0 hz1 hz2 rfl (by omega) (.slice A ls.length c) ls.length vs h1 ⟨q, 0, none⟩ 1 1 [.slice Ag l.length cg] rfl
    (fun j u hu => by
      match j, hu with
      | 0, hu => cases hu; exact hq)
    (fun u hu => by simp at hu; subst hu; rfl) (by simp only [maxLen]; omega) (by omega) hBu
  obtain ⟨g2, c2, rfl⟩ := Joins.ownsRow_form hown (by omega)
  have hkind := Lib.ownsRow_kind h1
  refine ⟨some ⟨g2, 0, none⟩, c2, w', hrun, ⟨vs ++ [.slice Ag l.length cg], ?_, fun i hi2 => ?_⟩, _, hgr, fun r e => ⟨(h1.lt r e).1, hkind r e⟩⟩
  · rw [List.length_append]
    exact hown
  · have nz : ∀ r, (Value.slice A ls.length c).ownBlock = some r → r < B ∨ ∀ cs fz, u.heap[r]? ≠ some (.cells cs 5 fz) := fun r e => .inr (fun cs fz h5 => by
      obtain ⟨cs2, fz2, h6⟩ := hkind r e
      rw [h5] at h6; cases h6)
    rcases Nat.lt_or_ge i ls.length with h3 | h3
    · obtain ⟨Aq, cq, h4, h5⟩ := h2 i h3
      refine ⟨Aq, cq, ?_, ?_⟩
      · rw [List.getElem?_append_left (by omega), h4, List.getElem_append_left h3]
      · rw [List.getElem_append_left h3]; exact h5.kept hgr nz
    · rw [List.length_append, List.length_singleton] at hi2
      obtain rfl : i = ls.length := by omega
      refine ⟨Ag, cg, ?_, ?_⟩
      · rw [List.getElem?_append_right (by omega), hvl]; simp
      · simp only [List.getElem_concat_length]; exact hr.kept hgr nz
/-- As a list of texts that lies in memory from B on. -/
def ListFrom (w : World) (B : Nat) (A : Option Addr) (ls : List (List UInt8)) : Prop :=
  0 < ls.length → ∃ b, A = some ⟨b, 0, none⟩ ∧ B ≤ b ∧ b < w.heap.size ∧ ∀ i, (h : i < ls.length) → ∃ Ag ci, w.cell? ⟨b, i, none⟩ = some (.slice Ag (ls[i]'h).length ci) ∧ FrB w B Ag (ls[i]'h)
theorem PartsAt.list (h : PartsAt u B A c ls) : ListFrom u B A ls := fun hn => by
  obtain ⟨vs, h1, h2⟩ := h
  obtain ⟨g, cap, e⟩ := Joins.ownsRow_form h1 hn
  cases e
  have hlt := h1.lt g rfl
  refine ⟨g, rfl, hlt.1, hlt.2, fun i hi => ?_⟩
  obtain ⟨Aq, cq, h3, h4⟩ := h2 i hi
  exact ⟨Aq, cq, by rw [World.ownsRow.cellAt h1 i (by omega), h3], h4⟩
theorem ListFrom.nil (w : World) (B : Nat) (A : Option Addr) : ListFrom w B A [] := fun h => absurd h (by simp)
theorem ListFrom.at_ (h : ListFrom u B A ls) : ListAt u u.heap.size A ls := fun hn => by
  obtain ⟨b, e, h1, h2, h3⟩ := h hn
  refine ⟨b, 0, e, h2, fun i hi => ?_⟩
  obtain ⟨Ag, ci, h4, h5⟩ := h3 i hi
  exact ⟨Ag, ci, by rw [Nat.zero_add]; exact h4, h5.bs⟩
/-- What is turned below B, or is new, leaves it as it is. -/
theorem ListFrom.kept {row : Option Nat} (h : ListFrom u B A ls) (hg : u.grownBy u' row) (hr : ∀ r, row = some r → r < B) : ListFrom u' B A ls := fun hn => by
  obtain ⟨b, e, h1, h2, h3⟩ := h hn
  have ne : ∀ q, B ≤ q → some q ≠ row := fun q hq e => by have := hr q e.symm; omega
  refine ⟨b, e, h1, Nat.lt_of_lt_of_le h2 hg.size, fun i hi => ?_⟩
  obtain ⟨Ag, ci, h4, h5⟩ := h3 i hi
  refine ⟨Ag, ci, ?_, h5.kept hg (fun r e => .inl (hr r e))⟩
  rw [← h4]
  unfold World.cell?
  rw [hg.block b h2 (ne b h1)]
end
end Go.Proofs.Ytjeajglnoedkaaa
