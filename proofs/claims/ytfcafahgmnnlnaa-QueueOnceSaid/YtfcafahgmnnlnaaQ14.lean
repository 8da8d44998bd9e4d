/- Layer 14: a work is committed: what is needed. -/
import Derived.Test.YtfcafahgmnnlnaaQ13
namespace Go.Proofs.Ytfcafahgmnnlnaa.Qu
open Go.RowKit Go.Shelf Go.Maps
attribute [local go_sem] Oper.semAt_some
set_option linter.unusedVariables false
set_option linter.unusedSimpArgs false

def keptI (L : List IT) (n : Int) : List IT := L.filter fun x => decide (x.t ≠ n)
/-- What a work's changes put in. -/
def newsQ (g : Int) : List Ch → List IT
  | [] => []
  | x :: r => if x.k = 3 then ⟨g + 1, x.v, 0⟩ :: newsQ (g + 1) r else newsQ g r
theorem newsQ_len : ∀ (l : List Ch) (g : Int), (newsQ g l).length = putsL l
  | [], _ => rfl
  | x :: r, g => by
    unfold newsQ putsL
    by_cases e : x.k = 3
    · rw [if_pos e, List.length_cons, newsQ_len r, List.filter_cons]
      simp [e, putsL]
    · rw [if_neg e, newsQ_len r, List.filter_cons]
      simp [e, putsL]
theorem newsQ_snoc : ∀ (l : List Ch) (g : Int) (x : Ch), newsQ g (l ++ [x]) = if x.k = 3 then newsQ g l ++ [⟨g + (putsL l : Nat) + 1, x.v, 0⟩] else newsQ g l
  | [], g, x => by simp [newsQ, putsL]
  | y :: r, g, x => by
    have h1 : newsQ g ((y :: r) ++ [x]) = if y.k = 3 then ⟨g + 1, y.v, 0⟩ :: newsQ (g + 1) (r ++ [x]) else newsQ g (r ++ [x]) := rfl
    have h2 : newsQ g (y :: r) = if y.k = 3 then ⟨g + 1, y.v, 0⟩ :: newsQ (g + 1) r else newsQ g r := rfl
    have h3 : putsL (y :: r) = (if y.k = 3 then 1 else 0) + putsL r := by
      unfold putsL; rw [List.filter_cons]
      by_cases e : y.k = 3
      · simp [e]; omega
      · simp [e]
    rw [h1, h2, h3]
    by_cases e : y.k = 3
    · rw [if_pos e, if_pos e, if_pos e, newsQ_snoc r (g + 1) x]
      split
      · simp only [List.cons_append]
        congr 3
        push_cast
        congr 1
        omega
      · rfl
    · rw [if_neg e, if_neg e, if_neg e, newsQ_snoc r g x]
      simp
def commitM (S : QS) (n : Int) : Int × QS := if n < 1 then (1, S) else (0, { S with I := keptI S.I n ++ newsQ S.g (curQ S.ws n).1, g := S.g + (putsL (curQ S.ws n).1 : Nat), ws := othersQ S.ws n })
/-- An item more, of one's own. -/
theorem it_one {u : World} {B c : Nat} {A : Option Addr} {l : List IT} (h : OwnI u B A c l) (x : IT) (q n : Nat) (hq : Blk u q 71 #[.int .i64 x.n, .int .u64 (x.v : Nat), .int .i64 x.t]) (hn : n = l.length) (hl : n ≤ 1000) (hB : B ≤ u.heap.size) :
    ∃ A2 c2 u', (Builtin.append_ #[51, 51] 51 #[.slice A n c, .slice (some ⟨q, 0, none⟩) 1 1]).run Try.prog u = .ok (.slice A2 (n + 1) c2) u' ∧ OwnI u' B A2 c2 (l ++ [x]) ∧ u.grownBy u' (blk A) := by
  obtain ⟨A2, c2, u', h1, h2, h3, _⟩ := it_app h (some ⟨q, 0, none⟩) 1 [x] n 1 hn rfl (fun b o e i hi => by
    cases e
    have hi0 : i = 0 := by simpa using hi
    subst hi0
    exact ⟨hq.cell 0, hq.cell 1, hq.cell 2⟩) (fun _ => ⟨_, _, rfl⟩) (by have := h.capB; omega) (by simp; omega) hB
  exact ⟨A2, c2, u', h1, h2, h3⟩
/-- Under way in Commit. -/
structure CI (w W : World) (n : Int) (K : List IT) : Prop where
  be : Below w.heap.size w W
  sz : w.heap.size + 2 ≤ W.heap.size
  kn : Blk W w.heap.size 3 #[.int .i64 n]
  ls : ∃ A2 c2 m, Blk W (w.heap.size + 1) 51 #[.slice A2 m c2] ∧ m = K.length ∧ OwnI W (w.heap.size + 2) A2 c2 K
theorem OwnI.grown {u u' : World} {B : Nat} {A : Option Addr} {c : Nat} {l : List IT} {row : Option Nat} (h : OwnI u B A c l) (hg : u.grownBy u' row) (hr : ∀ r, row = some r → blk A ≠ some r) : OwnI u' B A c l := by
  refine World.ownsRow.kept h hg ?_
  rcases hb : (Value.slice A l.length c).ownBlock with _ | k
  · exact .inl rfl
  · rw [ownBlock_slice] at hb
    exact .inr (fun e => hr k e.symm hb)
theorem CI.bel {w W W' : World} {n : Int} {K : List IT} (h : CI w W n K) (hb : Below W.heap.size W W') : CI w W' n K := by
  obtain ⟨A2, c2, m, h1, h2, h3⟩ := h.ls
  exact ⟨bt h.be hb, Nat.le_trans h.sz hb.size, h.kn.below hb h.kn.lt, A2, c2, m, h1.below hb h1.lt, h2, h3.grown (lbelow_grown hb none) (fun r e => by cases e)⟩
theorem CI.put {w W : World} {n : Int} {K : List IT} {l : Nat} {o o' : Obj} (h : CI w W n K) (hl : w.heap.size ≤ l) (ho : W.heap[l]? = some o) (hc : o.isCells = false) : CI w (W.putObj l o') n K := by
  obtain ⟨A2, c2, m, h1, h2, h3⟩ := h.ls
  exact ⟨h.be.grown (grownBy_putObj' W l o') h.be.size (fun r e => by cases e; exact hl), by rw [World.putObj_size]; exact h.sz, blk_put h.kn ho hc, A2, c2, m, blk_put h1 ho hc, h2, ownsRow_putObj h3 o' ho hc⟩
/-- An item is put behind. -/
theorem CI.more {w W : World} {n : Int} {K : List IT} (h : CI w W n K) (x : IT) (hl : K.length ≤ 900) :
    ∃ A2 c2 m A3 c3 w8, Blk W (w.heap.size + 1) 51 #[.slice A2 m c2] ∧
      (Builtin.append_ #[51, 51] 51 #[.slice A2 m c2, .slice (some ⟨W.heap.size, 0, none⟩) 1 1]).run Try.prog (W.alloc (.cells #[.int .i64 x.n, .int .u64 (x.v : Nat), .int .i64 x.t] 71)) = .ok (.slice A3 (m + 1) c3) w8 ∧
      Blk w8 (w.heap.size + 1) 51 #[.slice A2 m c2] ∧ CI w (w8.setCell ⟨w.heap.size + 1, 0, none⟩ (.slice A3 (m + 1) c3)) n (K ++ [x]) ∧ KeepsOthers W (w8.setCell ⟨w.heap.size + 1, 0, none⟩ (.slice A3 (m + 1) c3)) := by
  obtain ⟨A2, c2, m, k2, hm, own2⟩ := h.ls
  obtain ⟨Wb, hWb⟩ : ∃ Wb, Wb = W.alloc (.cells #[.int .i64 x.n, .int .u64 (x.v : Nat), .int .i64 x.t] 71) := ⟨_, rfl⟩
  have bb : Below W.heap.size W Wb := by rw [hWb]; exact ba _ _
  have kb : Blk Wb W.heap.size 71 #[.int .i64 x.n, .int .u64 (x.v : Nat), .int .i64 x.t] := by rw [hWb]; exact Blk.new _ _ _
  have ownb := own2.grown (lbelow_grown bb none) (fun r e => by cases e)
  obtain ⟨A3, c3, w8, hrun, own3, g8⟩ := it_one ownb x W.heap.size m kb hm (by omega) (by have := bb.size; have := h.sz; omega)
  have hrow : ∀ r, blk A2 = some r → w.heap.size + 2 ≤ r := fun r e => (World.ownsRow.lt ownb r (by rw [ownBlock_slice]; exact e)).1
  have kv8 := (k2.below bb k2.lt).kept g8 (fun e => by have := hrow _ e.symm; omega)
  have kn8 := (h.kn.below bb h.kn.lt).kept g8 (fun e => by have := hrow _ e.symm; omega)
  have hb8 : Below w.heap.size w w8 := (bt h.be bb).grown g8 (Nat.le_trans h.be.size bb.size) (fun r e => by have := hrow r e; omega)
  have hgs := lgrown_set w8 ⟨w.heap.size + 1, 0, none⟩ (.slice A3 (m + 1) c3)
  refine ⟨A2, c2, m, A3, c3, w8, k2, by rw [← hWb]; exact hrun, kv8, ⟨hb8.setCell (p := ⟨w.heap.size + 1, 0, none⟩) (by dsimp only; omega) _, ?_, ?_, A3, c3, m + 1, ?_, ?_, ?_⟩, ?_⟩
  · have := h.sz; have := bb.size; have := g8.size; rw [World.size_setCell]; omega
  · exact kn8.kept hgs (fun e => by injection e with e; dsimp only at e; omega)
  · simpa using kv8.set_ 0 (.slice A3 (m + 1) c3)
  · rw [List.length_append, hm]; rfl
  · exact own3.grown hgs (fun r e e2 => by cases e; have h9 := (World.ownsRow.lt own3 _ (by rw [ownBlock_slice]; exact e2)).1; dsimp only at h9; omega)
  · refine ((keepsOthers_below bb).trans (KeepsOthers.of_grownBy g8 fun j ob hj hob => ?_)).trans (KeepsOthers.setCell _ _ _)
    rcases ownb.2 with ⟨q1, q2⟩ | ⟨gg, cap, cur, q1, _, q3, _⟩
    · injection q1 with q1 _ _; rw [q1] at hj; cases hj
    · injection q1 with q1 _ _; rw [q1] at hj; injection hj with hj; have hj : gg = j := hj; subst hj; rw [q3] at hob; cases hob; rfl
/-- The queue, all of it turned but its works. -/
theorem QAt.both {w W : World} {g of N : Nat} {tt : TypeId} {cs cs' : Array Value} {S : QS} {I' : List IT} {g' : Int} (h : QAt w g of tt cs S N) (hg : w.grownBy W (some g)) {A : Option Addr} {n c : Nat} (hb : Blk W g tt cs') (h0 : cs'[of]? = some (.slice A n c)) (h1 : cs'[of + 1]? = some (.int .i64 g')) (h2 : cs'[of + 2]? = cs[of + 2]?) (hn : n = I'.length) (hc : n ≤ c ∧ c ≤ 9223372036854775807) (hi : ItAt W anyB A I') (hiv : QInv { S with I := I', g := g' }) : QAt W g of tt cs' { S with I := I', g := g' } N := by
  obtain ⟨k1, k2, ⟨A0, n0, c0, a1, a2, a3, a4, a5⟩, k3, ⟨m, G, k4, k5, k6⟩, k7, k8, k9⟩ := h
  exact ⟨hb, k2, ⟨A, n, c, h0, hn, hc.1, hc.2, hi⟩, h1, ⟨m, G, h2.trans k4, k5.kept hg k1, k6.same fun A l hc => hc.kept hg k1 k2.1⟩, k7, k8, hiv⟩
end Go.Proofs.Ytfcafahgmnnlnaa.Qu
