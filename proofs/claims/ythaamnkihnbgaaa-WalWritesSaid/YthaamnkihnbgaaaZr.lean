/- Layer 3: a list of records in memory of its own. -/
import Derived.Test.YthaamnkihnbgaaaBlk
import Derived.Test.YthaamnkihnbgaaaProg
import Derived.Test.YthaamnkihnbgaaaSeqL
import Derived.Lib.OwnKind
import Derived.Lib.SmallJoins
namespace Go.Proofs.Ythaamnkihnbgaaa
open Go.RowKit
set_option linter.unusedVariables false
set_option linter.unusedSimpArgs false

/-- Bytes that lie in a row of bytes, from B on. -/
def FrB (u : World) (B : Nat) (A : Option Addr) (l : List UInt8) : Prop :=
  0 < l.length → ∃ g, A = some ⟨g, 0, none⟩ ∧ B ≤ g ∧ ∃ cs fz, u.heap[g]? = some (.cells cs 5 fz) ∧ ∀ i, (h : i < l.length) → cs[i]? = some (.int .u8 ((l[i]'h).toNat : Int))
section
variable {u u' : World} {B : Nat} {A : Option Addr} {l : List UInt8}
theorem Raw.fr {g : Nat} (h : Raw u g 5 l) (hB : B ≤ g) : FrB u B (some ⟨g, 0, none⟩) l := fun hn => ⟨g, rfl, hB, _, _, h, fun i hi => by simp [bv, hi]⟩
theorem Own.fr {base c : Nat} (h : Own u base 5 A c l) (hB : B ≤ base) : FrB u B A l := fun hn => by
  rcases h.2 with ⟨h1, h2⟩ | ⟨g, cap, cur, h1, hb, hg, hnc, hm, hsz, htk⟩
  · omega
  · simp only [Value.slice.injEq] at h1
    obtain ⟨rfl, _, _⟩ := h1
    refine ⟨g, rfl, by omega, cur, _, hg, fun i hi => ?_⟩
    have h3 := bv_get l i hi
    rw [← htk, List.getElem?_take] at h3
    split at h3
    · rw [← Array.getElem?_toList]; exact h3
    · cases h3
theorem FrB.bs (h : FrB u B A l) : Bs u u.heap.size A l := fun hn => by
  obtain ⟨g, e, h1, cs, fz, h2, h3⟩ := h hn
  refine ⟨g, 0, e, (Array.getElem?_eq_some_iff.1 h2).1, fun i hi => ?_⟩
  rw [Nat.zero_add, cell_of_row u g i cs _ fz h2, h3 i hi]
theorem FrB.kept {row : Option Nat} (h : FrB u B A l) (hg : u.grownBy u' row) (hr : ∀ r, row = some r → r < B ∨ ∀ cs fz, u.heap[r]? ≠ some (.cells cs 5 fz)) : FrB u' B A l := fun hn => by
  obtain ⟨g, e, h1, cs, fz, h2, h3⟩ := h hn
  refine ⟨g, e, h1, cs, fz, (hg.block g (Array.getElem?_eq_some_iff.1 h2).1 (fun e => ?_)).trans h2, h3⟩
  rcases hr g e.symm with h4 | h4
  · omega
  · exact h4 _ _ h2
theorem FrB.base {B' : Nat} (h : FrB u B A l) (hB : B' ≤ B) : FrB u B' A l := fun hn => by
  obtain ⟨g, e, h1, r⟩ := h hn; exact ⟨g, e, by omega, r⟩
theorem FrB.below (h : FrB u B A l) (hb : Below u.heap.size u u') : FrB u' B A l :=
  h.kept (row := none) ⟨hb.os, hb.tape, hb.output, hb.size, fun k hk _ => hb.block k hk⟩ (fun r e => by cases e)
end

theorem Try.infoRec : (Try.prog.info? 24).map (fun i => (i.zero, i.size, i.bytes)) = some (some (.agg #[.int .i64 0, .slice none 0 0]), 2, 32) := by kernel_rfl

/-- The cells of records, whose bytes lie from B on. -/
def RCells (u : World) (B : Nat) : List Value → List (Int × List UInt8) → Prop
  | [], [] => True
  | a :: b :: xs, v :: vs => a = .int .i64 v.1 ∧ (∃ A c, b = .slice A v.2.length c ∧ FrB u B A v.2) ∧ RCells u B xs vs
  | _, _ => False
theorem RCells.map {u u' : World} {B : Nat} (hd : ∀ A d, FrB u B A d → FrB u' B A d) : ∀ (xs : List Value) (vs : List (Int × List UInt8)), RCells u B xs vs → RCells u' B xs vs
  | [], [], _ => trivial
  | [], _ :: _, h => h
  | [_], [], h => h
  | [_], _ :: _, h => h
  | _ :: _ :: _, [], h => h
  | a :: b :: xs, v :: vs, h => by
    obtain ⟨h1, ⟨A, c, h2, h3⟩, h4⟩ := h
    exact ⟨h1, ⟨A, c, h2, hd _ _ h3⟩, RCells.map hd xs vs h4⟩
theorem RCells.snoc {u : World} {B : Nat} {id : Int} {d : List UInt8} {A : Option Addr} {c : Nat} (hd : FrB u B A d) : ∀ (xs : List Value) (vs : List (Int × List UInt8)), RCells u B xs vs → RCells u B (xs ++ [.int .i64 id, .slice A d.length c]) (vs ++ [(id, d)])
  | [], [], _ => ⟨rfl, ⟨A, c, rfl, hd⟩, trivial⟩
  | [], _ :: _, h => h.elim
  | [_], [], h => h.elim
  | [_], _ :: _, h => h.elim
  | _ :: _ :: _, [], h => h.elim
  | a :: b :: xs, v :: vs, h => ⟨h.1, h.2.1, RCells.snoc hd xs vs h.2.2⟩
theorem RCells.at_ {u : World} {B : Nat} : ∀ (xs : List Value) (vs : List (Int × List UInt8)), RCells u B xs vs → ∀ i, (h : i < vs.length) → xs[i * 2]? = some (.int .i64 (vs[i]'h).1) ∧ ∃ A c, xs[i * 2 + 1]? = some (.slice A (vs[i]'h).2.length c) ∧ FrB u B A (vs[i]'h).2
  | [], [], _, i, h => absurd h (by simp)
  | [], _ :: _, h, _, _ => h.elim
  | [_], [], h, _, _ => h.elim
  | [_], _ :: _, h, _, _ => h.elim
  | _ :: _ :: _, [], h, _, _ => h.elim
  | a :: b :: xs, v :: vs, h, 0, _ => by
    obtain ⟨h1, ⟨A, c, h2, h3⟩, _⟩ := h
    subst h1 h2
    exact ⟨rfl, A, c, rfl, h3⟩
  | a :: b :: xs, v :: vs, h, i + 1, hi => by
    have := RCells.at_ xs vs h.2.2 i (by simpa using hi)
    simpa [Nat.succ_mul] using this

/-- A list of records of its own. -/
def RecsAt (u : World) (B : Nat) (A : Option Addr) (c : Nat) (rs : List (Int × List UInt8)) : Prop :=
  ∃ xs : List Value, u.ownsRow B 24 2 (.slice A rs.length c) rs.length xs ∧ RCells u B xs rs
/-- Records in memory, from B on. -/
def RecsFrom (w : World) (B : Nat) (A : Option Addr) (rs : List (Int × List UInt8)) : Prop :=
  0 < rs.length → ∃ b, A = some ⟨b, 0, none⟩ ∧ B ≤ b ∧ b < w.heap.size ∧ ∀ i, (h : i < rs.length) → w.cell? ⟨b, i * 2, none⟩ = some (.int .i64 (rs[i]'h).1) ∧ ∃ Ai ci, w.cell? ⟨b, i * 2 + 1, none⟩ = some (.slice Ai (rs[i]'h).2.length ci) ∧ FrB w B Ai (rs[i]'h).2
/-- Records in memory. -/
def RecsIn (w : World) (B : Nat) (A : Option Addr) (rs : List (Int × List UInt8)) : Prop :=
  0 < rs.length → ∃ b o, A = some ⟨b, o, none⟩ ∧ b < B ∧ ∀ i, (h : i < rs.length) → w.cell? ⟨b, o + i * 2, none⟩ = some (.int .i64 (rs[i]'h).1) ∧ ∃ Ai ci, w.cell? ⟨b, o + i * 2 + 1, none⟩ = some (.slice Ai (rs[i]'h).2.length ci) ∧ Bs w B Ai (rs[i]'h).2
section
variable {u u' : World} {B : Nat} {A : Option Addr} {c : Nat} {rs : List (Int × List UInt8)}
theorem RecsAt.nil (u : World) (B : Nat) : RecsAt u B none 0 [] := ⟨[], World.ownsRow_nil u _ _ _, trivial⟩
theorem RecsAt.kept {row : Option Nat} (h : RecsAt u B A c rs) (hg : u.grownBy u' row) (hr : ∀ r, row = some r → r < B ∨ ∃ o, u.heap[r]? = some o ∧ o.isCells = false) : RecsAt u' B A c rs := by
  obtain ⟨xs, h1, h2⟩ := h
  refine ⟨xs, h1.kept hg ?_, RCells.map (fun A d hd => hd.kept hg (fun r e => ?_)) _ _ h2⟩
  · rcases hb : (Value.slice A rs.length c).ownBlock with _ | k
    · exact .inl rfl
    · refine .inr (fun e => ?_)
      rcases hr k e.symm with h3 | ⟨o, h3, h4⟩
      · have := (h1.lt k hb).1; omega
      · obtain ⟨cs, fz, h5⟩ := Lib.ownsRow_kind h1 k hb
        rw [h5] at h3; cases h3; cases h4
  · rcases hr r e with h3 | ⟨o, h3, h4⟩
    · exact .inl h3
    · exact .inr (fun cs fz h5 => by rw [h3] at h5; cases h5; cases h4)
theorem RecsAt.below (h : RecsAt u B A c rs) (hb : Below u.heap.size u u') : RecsAt u' B A c rs :=
  h.kept (row := none) ⟨hb.os, hb.tape, hb.output, hb.size, fun k hk _ => hb.block k hk⟩ (fun r e => by cases e)
/-- One more. -/
theorem recs_more (h : RecsAt u B A c rs) (n : Nat) (hn : n = rs.length) (hl : n ≤ 1000000) (k : Int) (Ag : Option Addr) (m cg q : Nat) (l : List UInt8) (hm : m = l.length) (hr : FrB u B Ag l) (hBu : B ≤ u.heap.size) (hq0 : u.cell? ⟨q, 0, none⟩ = some (.int .i64 k)) (hq1 : u.cell? ⟨q, 1, none⟩ = some (.slice Ag m cg)) :
    ∃ A2 c2 u', (Builtin.append_ #[30, 30] 30 #[.slice A n c, .slice (some ⟨q, 0, none⟩) 1 1]).run Try.prog u = .ok (.slice A2 (n + 1) c2) u' ∧
      RecsAt u' B A2 c2 (rs ++ [(k, l)]) ∧ ∃ row, u.grownBy u' row ∧ ∀ r, row = some r → B ≤ r ∧ ∃ cs fz, u.heap[r]? = some (.cells cs 24 fz) := by
  subst hn hm
  obtain ⟨i0, hi, hz0, hz1, hz2⟩ := info_parts Try.infoRec
  obtain ⟨xs, h1, h2⟩ := h
  obtain ⟨v', w', hrun, hown, hgr, _, _⟩ := run_append_own_at (P := Try.prog) u B 30 30 24 i0 _ 2 32 Try.underlying30 hi hz0 hz1 hz2 rfl (by omega) (.slice A rs.length c) rs.length xs h1 ⟨q, 0, none⟩ 1 1 [.int .i64 k, .slice Ag l.length cg] rfl
    (fun j u hu => by
      match j, hu with
      | 0, hu => cases hu; exact hq0
      | 1, hu => cases hu; exact hq1)
    (fun u hu => by simp at hu; rcases hu with rfl | rfl <;> rfl) (by simp only [maxLen]; omega) (by omega) hBu
  obtain ⟨g2, c2, rfl⟩ := Joins.ownsRow_form hown (by omega)
  have hkind := Lib.ownsRow_kind h1
  refine ⟨some ⟨g2, 0, none⟩, c2, w', hrun, ⟨xs ++ [.int .i64 k, .slice Ag l.length cg], ?_, ?_⟩, _, hgr, fun r e => ⟨(h1.lt r e).1, hkind r e⟩⟩
  · rw [List.length_append]
    exact hown
  · have nz : ∀ r, (Value.slice A rs.length c).ownBlock = some r → r < B ∨ ∀ cs fz, u.heap[r]? ≠ some (.cells cs 5 fz) := fun r e => .inr (fun cs fz h5 => by
      obtain ⟨cs2, fz2, h6⟩ := hkind r e
      rw [h5] at h6; cases h6)
    exact RCells.snoc (hr.kept hgr nz) _ _ (RCells.map (fun A d hd => hd.kept hgr nz) _ _ h2)
theorem RecsAt.list (h : RecsAt u B A c rs) : RecsFrom u B A rs := fun hn => by
  obtain ⟨xs, h1, h2⟩ := h
  obtain ⟨g, cap, e⟩ := Joins.ownsRow_form h1 hn
  cases e
  have hlt := h1.lt g rfl
  refine ⟨g, rfl, hlt.1, hlt.2, fun i hi => ?_⟩
  have hxl := h1.1
  obtain ⟨q0, Aq, cq, q1, q2⟩ := RCells.at_ xs rs h2 i hi
  exact ⟨by rw [World.ownsRow.cellAt h1 (i * 2) (by omega), q0], Aq, cq, by rw [World.ownsRow.cellAt h1 (i * 2 + 1) (by omega), q1], q2⟩
theorem RecsFrom.nil (w : World) (B : Nat) (A : Option Addr) : RecsFrom w B A [] := fun h => absurd h (by simp)
theorem RecsFrom.in_ (h : RecsFrom u B A rs) : RecsIn u u.heap.size A rs := fun hn => by
  obtain ⟨b, e, h1, h2, h3⟩ := h hn
  refine ⟨b, 0, e, h2, fun i hi => ?_⟩
  obtain ⟨h4, Ag, ci, h5, h6⟩ := h3 i hi
  exact ⟨by rw [Nat.zero_add]; exact h4, Ag, ci, by rw [Nat.zero_add]; exact h5, h6.bs⟩
theorem RecsFrom.kept {row : Option Nat} (h : RecsFrom u B A rs) (hg : u.grownBy u' row) (hr : ∀ r, row = some r → r < B) : RecsFrom u' B A rs := fun hn => by
  obtain ⟨b, e, h1, h2, h3⟩ := h hn
  have hc : ∀ i, u'.cell? ⟨b, i, none⟩ = u.cell? ⟨b, i, none⟩ := fun i => by
    unfold World.cell?
    rw [hg.block b h2 (fun e => by have := hr b e.symm; omega)]
  refine ⟨b, e, h1, Nat.lt_of_lt_of_le h2 hg.size, fun i hi => ?_⟩
  obtain ⟨h4, Ag, ci, h5, h6⟩ := h3 i hi
  exact ⟨(hc _).trans h4, Ag, ci, (hc _).trans h5, h6.kept hg (fun r e => .inl (hr r e))⟩
theorem RecsFrom.base {B' : Nat} (h : RecsFrom u B A rs) (hB : B' ≤ B) : RecsFrom u B' A rs := fun hn => by
  obtain ⟨b, e, h1, h2, h3⟩ := h hn
  refine ⟨b, e, Nat.le_trans hB h1, h2, fun i hi => ?_⟩
  obtain ⟨h4, Ag, ci, h5, h6⟩ := h3 i hi
  exact ⟨h4, Ag, ci, h5, h6.base hB⟩
theorem RecsIn.bt (h : RecsIn u u.heap.size A rs) (hb : Below u.heap.size u u') : RecsIn u' u'.heap.size A rs := fun hn => by
  obtain ⟨b, o, e, h1, h2⟩ := h hn
  refine ⟨b, o, e, Nat.lt_of_lt_of_le h1 hb.size, fun i hi => ?_⟩
  obtain ⟨h3, Ai, ci, h4, h5⟩ := h2 i hi
  exact ⟨(hb.cell (p := ⟨b, o + i * 2, none⟩) h1).trans h3, Ai, ci, (hb.cell (p := ⟨b, o + i * 2 + 1, none⟩) h1).trans h4, h5.bt hb⟩
/-- A front of them. -/
theorem RecsIn.take (h : RecsIn u B A rs) (k : Nat) : RecsIn u B A (rs.take k) := fun hn => by
  rw [List.length_take] at hn
  obtain ⟨b, o, e, h1, h2⟩ := h (by omega)
  refine ⟨b, o, e, h1, fun i hi => ?_⟩
  rw [List.length_take] at hi
  rw [List.getElem_take]
  exact h2 i (by omega)
end
end Go.Proofs.Ythaamnkihnbgaaa
