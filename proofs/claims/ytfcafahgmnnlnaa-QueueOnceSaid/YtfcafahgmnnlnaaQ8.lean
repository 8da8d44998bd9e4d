/- Layer 14: Values. -/
import Derived.Test.YtfcafahgmnnlnaaQ7
namespace Go.Proofs.Ytfcafahgmnnlnaa.Qu
open Go.RowKit Go.Shelf Go.Maps
attribute [local go_sem] Oper.semAt_some
set_option linter.unusedVariables false
set_option linter.unusedSimpArgs false

theorem wpListIn_append_run {Fc : Fence} {n : Nat} {P : Program} (hFn : ∀ f, Fc.fn f) {w : World} {ops : Array Oper} {rest : List Oper} {o : Oper} {a : Act} {Q : Exit → Act → World → Prop} (hgd : o.guard = none) (s x : Operand) (t : TypeId)
    (ho : o.op = .call { callee := .builtin .append, args := #[s, x], argTypes := #[t, t] }) (sv xv v : Value) (w' : World) (hs : a.eval s = sv) (hx : a.eval x = xv) (hrun : (Builtin.append_ #[t, t] o.type #[sv, xv]).run P w = .ok v w') (h : wpListIn Fc n P ops Q rest (a.put o.dst v) w') :
    wpListIn Fc n P ops Q (o :: rest) a w := by
  refine wpListIn_plain hgd fun _ hK => ?_
  unfold Oper.wpIn
  refine ⟨fun f _ => hFn f, ?_⟩
  rw [Oper.semAt_eq _ _ _ (by intro c; rw [ho]; simp)]
  unfold execOp
  simp only [ho, resolve, invoke, builtin, Sem.run_bind, Sem.run_pure, Result.andThen_ok, List.map_toArray, List.map_cons, List.map_nil, hs, hx, hrun]
  exact hK _ _ h
/-- Numbers in a row of one's own. -/
def uV (vs : List Nat) : List Value := vs.map fun v => .int .u64 (v : Nat)
def OwnU (w : World) (B : Nat) (A : Option Addr) (c : Nat) (vs : List Nat) : Prop := w.ownsRow B 31 1 (.slice A vs.length c) vs.length (uV vs)
theorem Try.infoU : (Try.prog.info? 31).map (fun i => (i.zero, i.size, i.bytes)) = some (some (.int .u64 0), 1, 8) := by kernel_rfl
theorem OwnU.nil (w : World) (B : Nat) : OwnU w B none 0 [] := World.ownsRow_nil w _ _ _
theorem OwnU.lt' {u : World} {B : Nat} {A : Option Addr} {c : Nat} {l : List Nat} (h : OwnU u B A c l) : ∀ r, blk A = some r → B ≤ r ∧ r < u.heap.size := fun r e => World.ownsRow.lt h r (by rw [ownBlock_slice]; exact e)
theorem OwnU.grown {u u' : World} {B : Nat} {A : Option Addr} {c : Nat} {l : List Nat} {row : Option Nat} (h : OwnU u B A c l) (hg : u.grownBy u' row) (hr : ∀ r, row = some r → blk A ≠ some r) : OwnU u' B A c l := by
  refine World.ownsRow.kept h hg ?_
  rcases hb : (Value.slice A l.length c).ownBlock with _ | k
  · exact .inl rfl
  · rw [ownBlock_slice] at hb
    exact .inr (fun e => hr k e.symm hb)
theorem OwnU.less {u : World} {B B' : Nat} {A : Option Addr} {c : Nat} {l : List Nat} (h : OwnU u B A c l) (hB : B' ≤ B) : OwnU u B' A c l := by
  obtain ⟨h1, h2⟩ := h
  refine ⟨h1, ?_⟩
  rcases h2 with h2 | ⟨g', cap', cur, hv, hb, hrest⟩
  · exact .inl h2
  · exact .inr ⟨g', cap', cur, hv, Nat.le_trans hB hb, hrest⟩
theorem u_more {u : World} {B c : Nat} {A : Option Addr} {P : List Nat} (h : OwnU u B A c P) (n : Nat) (hn : n = P.length) (hl : n ≤ 1000) (v : Nat) (q : Nat) (hBu : B ≤ u.heap.size) (hq : Blk u q 31 #[.int .u64 (v : Nat)]) :
    ∃ A2 c2 u', (Builtin.append_ #[33, 33] 33 #[.slice A n c, .slice (some ⟨q, 0, none⟩) 1 1]).run Try.prog u = .ok (.slice A2 (n + 1) c2) u' ∧
      OwnU u' B A2 c2 (P ++ [v]) ∧ u.grownBy u' (blk A) := by
  subst hn
  obtain ⟨i0, hi, hz0, hz1, hz2⟩ := info_parts Try.infoU
  obtain ⟨v', w', hrun, hown, hgr, _, _⟩ := run_append_own_at (P := Try.prog) u B 33 33 31 i0 _ 1 8 Try.underlying33 hi hz0 hz1 hz2 rfl (by omega) (.slice A P.length c) P.length (uV P) h ⟨q, 0, none⟩ 1 1 [.int .u64 (v : Nat)] rfl
    (fun j v hv => by
      have := hq.cell j
      have e : (⟨q, 0, none⟩ : Addr).add j = ⟨q, j, none⟩ := by
        simp [Addr.add]
        try omega
      rw [e, this]
      rw [List.getElem?_toArray]; exact hv)
    (fun v hv => by simp at hv; subst hv; rfl) (by simp only [maxLen]; omega) (by omega) hBu
  obtain ⟨g2, c2, rfl⟩ := Joins.ownsRow_form hown (by omega)
  rw [ownBlock_slice] at hgr
  refine ⟨some ⟨g2, 0, none⟩, c2, w', hrun, ?_, hgr⟩
  unfold OwnU
  rw [List.length_append, show uV (P ++ [v]) = uV P ++ [.int .u64 (v : Nat)] by unfold uV; simp]
  exact hown
/-- Items with their places. -/
def ixsF : Nat → List IT → List (Nat × IT)
  | _, [] => []
  | k, x :: l => (k, x) :: ixsF (k + 1) l
def ixs (L : List IT) : List (Nat × IT) := ixsF 0 L
theorem ixsF_len : ∀ (L : List IT) (k : Nat), (ixsF k L).length = L.length
  | [], _ => rfl
  | x :: l, k => by simp [ixsF, ixsF_len l]
theorem ixsF_at : ∀ (L : List IT) (k i : Nat) (h : i < L.length), (ixsF k L)[i]? = some (k + i, L[i]'h)
  | x :: l, k, 0, _ => rfl
  | x :: l, k, i + 1, h => by
    have := ixsF_at l (k + 1) i (by simpa using h)
    simp only [ixsF, List.getElem?_cons_succ, List.getElem_cons_succ]
    rw [this]; congr 2; omega
theorem ixsF_snd : ∀ (L : List IT) (k : Nat), (ixsF k L).map (·.2) = L
  | [], _ => rfl
  | x :: l, k => by simp [ixsF, ixsF_snd l]
theorem ixs_take (L : List IT) (i : Nat) (h : i < L.length) : (ixs L).take (i + 1) = (ixs L).take i ++ [(i, L[i]'h)] := by
  have := ixsF_at L 0 i h
  rw [Nat.zero_add] at this
  unfold ixs
  rw [List.take_add_one, this]; rfl
theorem ixs_tlen (L : List IT) (i : Nat) (h : i ≤ L.length) : ((ixs L).take i).length = i := by
  unfold ixs; rw [List.length_take, ixsF_len]; omega
/-- Under way in Values. -/
structure VI (w : World) (pre : List (Nat × IT)) (W : World) : Prop where
  be : Below w.heap.size w W
  sz : w.heap.size + 1 ≤ W.heap.size
  ls : ∃ A2 c2, Blk W w.heap.size 33 #[.slice A2 pre.length c2] ∧ OwnU W (w.heap.size + 1) A2 c2 (pre.map fun x => x.2.v)
theorem VI.bel {w W W' : World} {pre : List (Nat × IT)} (h : VI w pre W) (hb : Below W.heap.size W W') : VI w pre W' := by
  obtain ⟨A2, c2, h1, h2⟩ := h.ls
  exact ⟨bt h.be hb, Nat.le_trans h.sz hb.size, A2, c2, h1.below hb h1.lt, h2.grown (lbelow_grown hb none) (fun r e => by cases e)⟩
theorem VI.put {w W : World} {pre : List (Nat × IT)} {l : Nat} {o o' : Obj} (h : VI w pre W) (hl : w.heap.size ≤ l) (ho : W.heap[l]? = some o) (hc : o.isCells = false) : VI w pre (W.putObj l o') := by
  obtain ⟨A2, c2, h1, h2⟩ := h.ls
  refine ⟨?_, by rw [World.putObj_size]; exact h.sz, A2, c2, ?_, ?_⟩
  · exact h.be.grown (grownBy_putObj' W l o') h.be.size (fun r e => by cases e; exact hl)
  · exact (World.putObj_heap_other (fun e => by subst e; unfold Blk at h1; rw [h1] at ho; cases ho; cases hc)).trans h1
  · exact ownsRow_putObj h2 o' ho hc
end Go.Proofs.Ytfcafahgmnnlnaa.Qu
