/- Layer 14: a work is backed out. -/
import Derived.Test.YtfcafahgmnnlnaaQ11
namespace Go.Proofs.Ytfcafahgmnnlnaa.Qu
open Go.RowKit Go.Shelf Go.Maps
attribute [local go_sem] Oper.semAt_some
set_option linter.unusedVariables false
set_option linter.unusedSimpArgs false

theorem giveI_app : ∀ (a : List IT) (x : IT) (b : List IT) (n : Int), giveI (a ++ x :: b) a.length n = a ++ { x with t := n } :: b
  | [], _, _, _ => rfl
  | y :: a, x, b, n => by
    have := giveI_app a x b n
    unfold giveI at this ⊢
    simp only [List.cons_append, List.length_cons, List.modify_succ_cons, this]
def freeI (n : Int) (x : IT) : IT := if x.t = n then { x with t := 0 } else x
def backI (L : List IT) (n : Int) (i : Nat) : List IT := (L.take i).map (freeI n) ++ L.drop i
theorem backI_len (L : List IT) (n : Int) (i : Nat) : (backI L n i).length = L.length := by
  unfold backI; rw [List.length_append, List.length_map, List.length_take, List.length_drop]; omega
theorem backI_step (L : List IT) (n : Int) (i : Nat) (h : i < L.length) : backI L n (i + 1) = if (L[i]'h).t = n then giveI (backI L n i) i 0 else backI L n i := by
  have e1 : L.drop i = L[i]'h :: L.drop (i + 1) := List.drop_eq_getElem_cons h
  have e2 : L.take (i + 1) = L.take i ++ [L[i]'h] := by rw [List.take_add_one, List.getElem?_eq_getElem h]; rfl
  have hl : ((L.take i).map (freeI n)).length = i := by rw [List.length_map, List.length_take]; omega
  have e3 : backI L n i = (L.take i).map (freeI n) ++ L[i]'h :: L.drop (i + 1) := by unfold backI; rw [e1]
  have e4 : backI L n (i + 1) = (L.take i).map (freeI n) ++ freeI n (L[i]'h) :: L.drop (i + 1) := by unfold backI; rw [e2, List.map_append, List.append_assoc]; rfl
  rw [e3, e4]
  unfold freeI
  split
  · rename_i ht
    have := giveI_app ((L.take i).map (freeI n)) (L[i]'h) (L.drop (i + 1)) 0
    rw [hl] at this
    exact this.symm
  · rfl
theorem backI_all (L : List IT) (n : Int) : backI L n L.length = L.map (freeI n) := by unfold backI; simp
/-- Under way in Backout. -/
structure BO (w W : World) (g of : Nat) (tt : TypeId) (cs : Array Value) (S : QS) (N : Nat) (n : Int) (i : Nat) : Prop where
  qo : ∃ v, QAt W g of tt (cs.setIfInBounds of v) { S with I := backI S.I n i } N
  gr : w.grownBy W (some g)
  sz : w.heap.size + 2 ≤ W.heap.size
  kq : Blk W w.heap.size 23 #[.pointer (some ⟨g, of, none⟩)]
  kn : Blk W (w.heap.size + 1) 3 #[.int .i64 n]
theorem BO.bel {w W W' : World} {g of : Nat} {tt : TypeId} {cs : Array Value} {S : QS} {N : Nat} {n : Int} {i : Nat} (h : BO w W g of tt cs S N n i) (hb : Below W.heap.size W W') : BO w W' g of tt cs S N n i :=
  ⟨h.qo.elim fun c hq => ⟨c, hq.below hb⟩, h.gr.trans (lbelow_grown hb _), Nat.le_trans h.sz hb.size, h.kq.below hb h.kq.lt, h.kn.below hb h.kn.lt⟩
theorem QAt.put {W : World} {g of N : Nat} {tt : TypeId} {cs : Array Value} {S : QS} {l : Nat} {o o' : Obj} (h : QAt W g of tt cs S N) (ho : W.heap[l]? = some o) (hc : o.isCells = false) (hm : ∀ b, cs[of + 2]? = some (.map (some b)) → b ≠ l) : QAt (W.putObj l o') g of tt cs S N := by
  have hb : ∀ (k : Nat) (cs : Array Value) (t : TypeId) (fz : Nat × Nat), W.heap[k]? = some (.cells cs t fz) → (W.putObj l o').heap[k]? = W.heap[k]? := fun k cs t fz e => World.putObj_heap_other (fun e2 => by subst e2; rw [e] at ho; cases ho; cases hc)
  obtain ⟨h1, h2, ⟨A, n, c, a1, a2, a3, a4, a5⟩, h3, ⟨m, G, h4, h5, h6⟩, h7, h8, h9⟩ := h
  refine ⟨blk_put h1 ho hc, h2, ⟨A, n, c, a1, a2, a3, a4, a5.same fun b cs' fz e => hb b cs' _ fz e⟩, h3, ⟨m, G, h4, ?_, h6.same fun A l hc' => hc'.same fun b cs' fz e => hb b cs' _ fz e⟩, h7, h8, h9⟩
  rcases h5 with h5 | ⟨b, D, e, ⟨es, cl, hbk, hr⟩, h'⟩
  · exact .inl h5
  · subst e
    exact .inr ⟨b, D, rfl, ⟨es, cl, (World.putObj_heap_other (hm b h4)).trans hbk, hr⟩, h'⟩
/-- The works' map lies in the old world. -/
theorem QAt.mapLt {w : World} {g of N : Nat} {tt : TypeId} {cs : Array Value} {S : QS} (h : QAt w g of tt cs S N) : ∀ b, cs[of + 2]? = some (.map (some b)) → b < w.heap.size := fun b e => by
  obtain ⟨m, G, h4, h5, h6⟩ := h.wk
  rw [h4] at e
  injection e with e
  injection e with e
  subst e
  rcases h5 with ⟨h5, _⟩ | ⟨b', D, e, ho, _⟩
  · cases h5
  · cases e; exact ho.lt
theorem QAt.mapObj {w : World} {g of N : Nat} {tt : TypeId} {cs : Array Value} {S : QS} (h : QAt w g of tt cs S N) : ∀ b, cs[of + 2]? = some (.map (some b)) → ∃ es cl, w.heap[b]? = some (.map es cl) := fun b e => by
  obtain ⟨m, G, h4, h5, h6⟩ := h.wk
  rw [h4] at e
  injection e with e
  injection e with e
  subst e
  rcases h5 with ⟨h5, _⟩ | ⟨b', D, e, ⟨es, cl, hb, _⟩, _⟩
  · cases h5
  · cases e; exact ⟨es, cl, hb⟩
/-- Behind a loop over the items: its mark is taken away. -/
theorem QAt.marked {W : World} {g of N D : Nat} {tt : TypeId} {cs : Array Value} {S : QS} {x : Option (List Deferred)} (h : QAt W g of tt cs S N) (hD : W.heap[D]? = some (.deferred x)) (o' : Obj) : QAt (W.putObj D o') g of tt cs S N :=
  h.put hD rfl (fun b e e2 => by obtain ⟨es, cl, hb⟩ := h.mapObj b e; subst e2; rw [hD] at hb; cases hb)
theorem set_get {cs : Array Value} {i j : Nat} {v : Value} (h : i ≠ j) : (cs.setIfInBounds i v)[j]? = cs[j]? := Array.getElem?_setIfInBounds_ne h
theorem BO.put {w W : World} {g of : Nat} {tt : TypeId} {cs : Array Value} {S : QS} {N : Nat} {n : Int} {i l : Nat} {o o' : Obj} (h : BO w W g of tt cs S N n i) (hw : ∀ b, cs[of + 2]? = some (.map (some b)) → b < w.heap.size) (hl : w.heap.size ≤ l) (ho : W.heap[l]? = some o) (hc : o.isCells = false) : BO w (W.putObj l o') g of tt cs S N n i := by
  obtain ⟨v, hq⟩ := h.qo
  refine ⟨⟨v, hq.put ho hc (fun b e => ?_)⟩, h.gr.andThen (grownBy_putObj' W l o') (fun j e => by cases e; exact .inl hl), by rw [World.putObj_size]; exact h.sz, blk_put h.kq ho hc, blk_put h.kn ho hc⟩
  rw [set_get (by omega)] at e
  have := hw b e
  omega
end Go.Proofs.Ytfcafahgmnnlnaa.Qu
