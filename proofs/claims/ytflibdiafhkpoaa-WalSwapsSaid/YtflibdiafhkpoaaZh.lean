/- Layer 3: what is written, record behind record, and where each ends. -/
import Derived.Test.YtflibdiafhkpoaaZk
import Derived.Test.YtflibdiafhkpoaaZg
namespace Go.Proofs.Ytflibdiafhkpoaa
open Go.RowKit
set_option linter.unusedVariables false
set_option linter.unusedSimpArgs false

theorem wpList_append_run {P : Program} {w : World} {ops : Array Oper} {rest : List Oper} {o : Oper} {a : Act} {Q : Exit → Act → World → Prop} (hgd : o.guard = none) (s x : Operand) (t : TypeId)
    (ho : o.op = .call { callee := .builtin .append, args := #[s, x], argTypes := #[t, t] }) (sv xv v : Value) (w' : World) (hs : a.eval s = sv) (hx : a.eval x = xv) (hrun : (Builtin.append_ #[t, t] o.type #[sv, xv]).run P w = .ok v w') (h : wpList P ops Q rest (a.put o.dst v) w') :
    wpList P ops Q (o :: rest) a w := by
  refine wpList_plain hgd fun _ hK => ?_
  unfold Oper.wp execOp
  simp only [ho, resolve, invoke, builtin, Sem.run_bind, Sem.run_pure, Result.andThen_ok, List.map_toArray, List.map_cons, List.map_nil, hs, hx, hrun]
  exact hK _ _ h

theorem Try.infoInt : (Try.prog.info? 3).map (fun i => (i.zero, i.size, i.bytes)) = some (some (.int .i64 0), 1, 8) := by kernel_rfl
/-- A list of numbers of its own. -/
def EndsAt (u : World) (B : Nat) (A : Option Addr) (c : Nat) (es : List Int) : Prop := u.ownsRow B 3 1 (.slice A es.length c) es.length (es.map (Value.int .i64))
section
variable {u u' : World} {B : Nat} {A : Option Addr} {c : Nat} {es : List Int}
theorem EndsAt.nil (u : World) (B : Nat) : EndsAt u B none 0 [] := World.ownsRow_nil u _ _ _
theorem EndsAt.kind (h : EndsAt u B A c es) : ∀ r, blk A = some r → ∃ cs fz, u.heap[r]? = some (.cells cs 3 fz) := fun r e => Lib.ownsRow_kind h r (by rw [ownBlock_slice]; exact e)
theorem EndsAt.lt' (h : EndsAt u B A c es) : ∀ r, blk A = some r → B ≤ r ∧ r < u.heap.size := fun r e => World.ownsRow.lt h r (by rw [ownBlock_slice]; exact e)
theorem EndsAt.kept {row : Option Nat} (h : EndsAt u B A c es) (hg : u.grownBy u' row) (hr : ∀ r, row = some r → r < B ∨ ∃ cs fz, u.heap[r]? = some (.cells cs 5 fz)) : EndsAt u' B A c es := by
  refine World.ownsRow.kept h hg ?_
  rcases hb : (Value.slice A es.length c).ownBlock with _ | k
  · exact .inl rfl
  · refine .inr (fun e => ?_)
    rcases hr k e.symm with h3 | ⟨cs, fz, h3⟩
    · have := (h.lt k hb).1; omega
    · obtain ⟨cs2, fz2, h5⟩ := Lib.ownsRow_kind h k hb
      rw [h5] at h3; cases h3
theorem ends_more (h : EndsAt u B A c es) (n : Nat) (hn : n = es.length) (hl : n ≤ 1000000) (x : Int) (q : Nat) (hBu : B ≤ u.heap.size) (hq0 : u.cell? ⟨q, 0, none⟩ = some (.int .i64 x)) :
    ∃ A2 c2 u', (Builtin.append_ #[71, 71] 71 #[.slice A n c, .slice (some ⟨q, 0, none⟩) 1 1]).run Try.prog u = .ok (.slice A2 (n + 1) c2) u' ∧
      EndsAt u' B A2 c2 (es ++ [x]) ∧ u.grownBy u' (blk A) := by
  subst hn
  obtain ⟨i0, hi, hz0, hz1, hz2⟩ := info_parts Try.infoInt
  obtain ⟨v', w', hrun, hown, hgr, _, _⟩ := run_append_own_at (P := Try.prog) u B 71 71 3 i0 _ 1 8 Try.underlying71 hi hz0 hz1 hz2 rfl (by omega) (.slice A es.length c) es.length (es.map (Value.int .i64)) h ⟨q, 0, none⟩ 1 1 [.int .i64 x] rfl
    (fun j u hu => by
      match j, hu with
      | 0, hu => cases hu; exact hq0)
    (fun u hu => by simp at hu; subst hu; rfl) (by simp only [maxLen]; omega) (by omega) hBu
  obtain ⟨g2, c2, rfl⟩ := Joins.ownsRow_form hown (by omega)
  rw [ownBlock_slice] at hgr
  refine ⟨some ⟨g2, 0, none⟩, c2, w', hrun, ?_, hgr⟩
  unfold EndsAt
  rw [List.length_append, List.map_append]
  exact hown
theorem EndsAt.cell (h : EndsAt u B A c es) (i : Nat) (hi : i < es.length) : ∃ g, A = some ⟨g, 0, none⟩ ∧ u.cell? ⟨g, i, none⟩ = some (.int .i64 (es[i]'hi)) := by
  obtain ⟨g, cap, e⟩ := Joins.ownsRow_form h (by omega)
  cases e
  refine ⟨g, rfl, ?_⟩
  rw [World.ownsRow.cellAt h i (by omega), List.getElem?_map, List.getElem?_eq_getElem hi]
  rfl
end

/-- Where each of the first k records ends. -/
def esL (cs : List (Int × List UInt8)) (k : Nat) : List Int := (List.range k).map fun i => ((recsL (cs.take (i + 1))).length : Int)
theorem esL_len (cs : List (Int × List UInt8)) (k : Nat) : (esL cs k).length = k := by unfold esL; simp
theorem esL_snoc (cs : List (Int × List UInt8)) (k : Nat) : esL cs (k + 1) = esL cs k ++ [((recsL (cs.take (k + 1))).length : Int)] := by unfold esL; rw [List.range_succ, List.map_append]; rfl
structure BI (w : World) (cs : List (Int × List UInt8)) (k : Nat) (A2 : Option Addr) (c2 : Nat) (A3 : Option Addr) (c3 : Nat) (wr : World) : Prop where
  out : Own wr w.heap.size 5 A2 c2 (recsL (cs.take k))
  ends : EndsAt wr w.heap.size A3 c3 (esL cs k)
  bel : Below w.heap.size w wr
theorem BI.below {w wr w1 : World} {cs : List (Int × List UInt8)} {k : Nat} {A2 A3 : Option Addr} {c2 c3 : Nat} (h : BI w cs k A2 c2 A3 c3 wr) (hb : Below wr.heap.size wr w1) : BI w cs k A2 c2 A3 c3 w1 :=
  ⟨h.out.below hb (Nat.le_refl _), h.ends.kept (gbelow hb none) (fun r e => by cases e), bt h.bel hb⟩
theorem own_kind {u : World} {B c : Nat} {A : Option Addr} {l : List UInt8} (h : Own u B 5 A c l) : ∀ r, blk A = some r → ∃ cs fz, u.heap[r]? = some (.cells cs 5 fz) := fun r e => Lib.ownsRow_kind h r (by rw [ownBlock_slice]; exact e)
theorem BI.more {w w1 w2 : World} {cs : List (Int × List UInt8)} {k : Nat} {A2 A3 A4 : Option Addr} {c2 c3 c4 n4 : Nat} {L : List UInt8} (h : BI w cs k A2 c2 A3 c3 w1) (own2 : Own w2 w.heap.size 5 A4 c4 L) (hg2 : w1.grownBy w2 (blk A2)) (hL : L = recsL (cs.take (k + 1))) (hk : k ≤ 1000000) (hn : n4 = L.length) :
    ∃ A5 c5 w4, (Builtin.append_ #[71, 71] 71 #[.slice A3 k c3, .slice (some ⟨w2.heap.size, 0, none⟩) 1 1]).run Try.prog (w2.alloc (.cells #[.int .i64 n4] 3)) = .ok (.slice A5 (k + 1) c5) w4 ∧ BI w cs (k + 1) A4 c4 A5 c5 w4 := by
  subst hL hn
  have hb2 : Below w.heap.size w w2 := h.bel.grown hg2 h.bel.size (fun r e => (h.out.lt r e).1)
  have hb3 := ba w2 (.cells #[.int .i64 ((recsL (cs.take (k + 1))).length : Nat)] 3)
  have hs := hb2.size
  have e3 := (h.ends.kept hg2 (fun r e => .inr (own_kind h.out r e))).kept (gbelow hb3 none) (fun r e => by cases e)
  have o3 := own2.below hb3 (Nat.le_refl _)
  obtain ⟨A5, c5, w4, hrun, he, hg⟩ := ends_more e3 k (esL_len cs k).symm hk ((recsL (cs.take (k + 1))).length : Nat) w2.heap.size (by have := hb3.size; omega) ((Blk.new w2 3 #[.int .i64 ((recsL (cs.take (k + 1))).length : Nat)]).cell 0)
  refine ⟨A5, c5, w4, hrun, o3.kept hg ?_, by rw [esL_snoc]; exact he, (bt hb2 hb3).grown hg (by have := hb3.size; omega) (fun r e => (e3.lt' r e).1)⟩
  rcases hb : blk A4 with _ | r
  · exact .inl rfl
  · refine .inr (fun e => ?_)
    obtain ⟨cs1, fz1, q1⟩ := own_kind o3 r hb
    obtain ⟨cs2, fz2, q2⟩ := e3.kind r e.symm
    rw [q1] at q2; cases q2
end Go.Proofs.Ytflibdiafhkpoaa
