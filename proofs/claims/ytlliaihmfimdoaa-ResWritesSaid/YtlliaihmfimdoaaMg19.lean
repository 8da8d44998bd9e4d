/- Parts Q14 Q15 Q16 Q17 of one proof. -/
import Derived.Test.YtlliaihmfimdoaaMg18
import Derived.Test.YtlliaihmfimdoaaMg17
namespace Go.Proofs.Ytlliaihmfimdoaa.Qu
open Go.RowKit Go.Shelf Go.Maps
attribute [local go_sem] Oper.semAt_some
set_option linter.unusedVariables false
set_option linter.unusedSimpArgs false

def keptI (L : List IT) (n : Int) : List IT := L.filter fun x => decide (x.t ≠ n)
/-- What a work's changes put in. -/
def newsQ (g : Int) : List Ch → List IT
  | [] => []
  | x :: r => if x.k = 3 then ⟨g + 1, x.v, 0⟩ :: newsQ (g + 1) r else newsQ g r
theorem newsQ_len : ∀ (l : List Ch) (g : Int), (newsQ g l).length = putsL l
  | [], _ => rfl
  | x :: r, g => by
    unfold newsQ putsL
    by_cases e : x.k = 3
    · rw [if_pos e, List.length_cons, newsQ_len r, List.filter_cons]
      simp [e, putsL]
    · rw [if_neg e, newsQ_len r, List.filter_cons]
      simp [e, putsL]
theorem newsQ_snoc : ∀ (l : List Ch) (g : Int) (x : Ch), newsQ g (l ++ [x]) = if x.k = 3 then newsQ g l ++ [⟨g + (putsL l : Nat) + 1, x.v, 0⟩] else newsQ g l
  | [], g, x => by simp [newsQ, putsL]
  | y :: r, g, x => by
    have h1 : newsQ g ((y :: r) ++ [x]) = if y.k = 3 then ⟨g + 1, y.v, 0⟩ :: newsQ (g + 1) (r ++ [x]) else newsQ g (r ++ [x]) := rfl
    have h2 : newsQ g (y :: r) = if y.k = 3 then ⟨g + 1, y.v, 0⟩ :: newsQ (g + 1) r else newsQ g r := rfl
    have h3 : putsL (y :: r) = (if y.k = 3 then 1 else 0) + putsL r := by
      unfold putsL; rw [List.filter_cons]
      by_cases e : y.k = 3
      · simp [e]; omega
      · simp [e]
    rw [h1, h2, h3]
    by_cases e : y.k = 3
    · rw [if_pos e, if_pos e, if_pos e, newsQ_snoc r (g + 1) x]
      split
      · simp only [List.cons_append]
        congr 3
        push_cast
        congr 1
        omega
      · rfl
    · rw [if_neg e, if_neg e, if_neg e, newsQ_snoc r g x]
      simp
def commitM (S : QS) (n : Int) : Int × QS := if n < 1 then (1, S) else (0, { S with I := keptI S.I n ++ newsQ S.g (curQ S.ws n).1, g := S.g + (putsL (curQ S.ws n).1 : Nat), ws := othersQ S.ws n })
/-- An item more, of one's own. -/
theorem it_one {u : World} {B c : Nat} {A : Option Addr} {l : List IT} (h : OwnI u B A c l) (x : IT) (q n : Nat) (hq : Blk u q 131 #[.int .i64 x.n, .int .u64 (x.v : Nat), .int .i64 x.t]) (hn : n = l.length) (hl : n ≤ 1000) (hB : B ≤ u.heap.size) :
    ∃ A2 c2 u', (Builtin.append_ #[60, 60] 60 #[.slice A n c, .slice (some ⟨q, 0, none⟩) 1 1]).run Try.prog u = .ok (.slice A2 (n + 1) c2) u' ∧ OwnI u' B A2 c2 (l ++ [x]) ∧ u.grownBy u' (blk A) := by
  obtain ⟨A2, c2, u', h1, h2, h3, _⟩ := it_app h (some ⟨q, 0, none⟩) 1 [x] n 1 hn rfl (fun b o e i hi => by
    cases e
    have hi0 : i = 0 := by simpa using hi
    subst hi0
    exact ⟨hq.cell 0, hq.cell 1, hq.cell 2⟩) (fun _ => ⟨_, _, rfl⟩) (by have := h.capB; omega) (by simp; omega) hB
  exact ⟨A2, c2, u', h1, h2, h3⟩
/-- Under way in Commit. -/
structure CI (w W : World) (n : Int) (K : List IT) : Prop where
  be : Below w.heap.size w W
  sz : w.heap.size + 2 ≤ W.heap.size
  kn : Blk W w.heap.size 3 #[.int .i64 n]
  ls : ∃ A2 c2 m, Blk W (w.heap.size + 1) 60 #[.slice A2 m c2] ∧ m = K.length ∧ OwnI W (w.heap.size + 2) A2 c2 K
theorem OwnI.grown {u u' : World} {B : Nat} {A : Option Addr} {c : Nat} {l : List IT} {row : Option Nat} (h : OwnI u B A c l) (hg : u.grownBy u' row) (hr : ∀ r, row = some r → blk A ≠ some r) : OwnI u' B A c l := by
  refine World.ownsRow.kept h hg ?_
  rcases hb : (Value.slice A l.length c).ownBlock with _ | k
  · exact .inl rfl
  · rw [ownBlock_slice] at hb
    exact .inr (fun e => hr k e.symm hb)
theorem CI.bel {w W W' : World} {n : Int} {K : List IT} (h : CI w W n K) (hb : Below W.heap.size W W') : CI w W' n K := by
  obtain ⟨A2, c2, m, h1, h2, h3⟩ := h.ls
  exact ⟨bt h.be hb, Nat.le_trans h.sz hb.size, h.kn.below hb h.kn.lt, A2, c2, m, h1.below hb h1.lt, h2, h3.grown (lbelow_grown hb none) (fun r e => by cases e)⟩
theorem CI.put {w W : World} {n : Int} {K : List IT} {l : Nat} {o o' : Obj} (h : CI w W n K) (hl : w.heap.size ≤ l) (ho : W.heap[l]? = some o) (hc : o.isCells = false) : CI w (W.putObj l o') n K := by
  obtain ⟨A2, c2, m, h1, h2, h3⟩ := h.ls
  exact ⟨h.be.grown (grownBy_putObj' W l o') h.be.size (fun r e => by cases e; exact hl), by rw [World.putObj_size]; exact h.sz, blk_put h.kn ho hc, A2, c2, m, blk_put h1 ho hc, h2, ownsRow_putObj h3 o' ho hc⟩
set_option maxRecDepth 100000 in
/-- An item is put behind. -/
theorem CI.more {w W : World} {n : Int} {K : List IT} (h : CI w W n K) (x : IT) (hl : K.length ≤ 900) :
    ∃ A2 c2 m A3 c3 w8, Blk W (w.heap.size + 1) 60 #[.slice A2 m c2] ∧
      (Builtin.append_ #[60, 60] 60 #[.slice A2 m c2, .slice (some ⟨W.heap.size, 0, none⟩) 1 1]).run Try.prog (W.alloc (.cells #[.int .i64 x.n, .int .u64 (x.v : Nat), .int .i64 x.t] 131)) = .ok (.slice A3 (m + 1) c3) w8 ∧
      Blk w8 (w.heap.size + 1) 60 #[.slice A2 m c2] ∧ CI w (w8.setCell ⟨w.heap.size + 1, 0, none⟩ (.slice A3 (m + 1) c3)) n (K ++ [x]) ∧ KeepsOthers W (w8.setCell ⟨w.heap.size + 1, 0, none⟩ (.slice A3 (m + 1) c3)) := by
  obtain ⟨A2, c2, m, k2, hm, own2⟩ := h.ls
  obtain ⟨Wb, hWb⟩ : ∃ Wb, Wb = W.alloc (.cells #[.int .i64 x.n, .int .u64 (x.v : Nat), .int .i64 x.t] 131) := ⟨_, rfl⟩
  have bb : Below W.heap.size W Wb := by rw [hWb]; exact ba _ _
  have kb : Blk Wb W.heap.size 131 #[.int .i64 x.n, .int .u64 (x.v : Nat), .int .i64 x.t] := by rw [hWb]; exact Blk.new _ _ _
  have ownb := own2.grown (lbelow_grown bb none) (fun r e => by cases e)
  obtain ⟨A3, c3, w8, hrun, own3, g8⟩ := it_one ownb x W.heap.size m kb hm (by omega) (by have := bb.size; have := h.sz; omega)
  have hrow : ∀ r, blk A2 = some r → w.heap.size + 2 ≤ r := fun r e => (World.ownsRow.lt ownb r (by rw [ownBlock_slice]; exact e)).1
  have kv8 := (k2.below bb k2.lt).kept g8 (fun e => by have := hrow _ e.symm; omega)
  have kn8 := (h.kn.below bb h.kn.lt).kept g8 (fun e => by have := hrow _ e.symm; omega)
  have hb8 : Below w.heap.size w w8 := (bt h.be bb).grown g8 (Nat.le_trans h.be.size bb.size) (fun r e => by have := hrow r e; omega)
  have hgs := lgrown_set w8 ⟨w.heap.size + 1, 0, none⟩ (.slice A3 (m + 1) c3)
  refine ⟨A2, c2, m, A3, c3, w8, k2, by rw [← hWb]; exact hrun, kv8, ⟨hb8.setCell (p := ⟨w.heap.size + 1, 0, none⟩) (by dsimp only; omega) _, ?_, ?_, A3, c3, m + 1, ?_, ?_, ?_⟩, ?_⟩
  · have := h.sz; have := bb.size; have := g8.size; rw [World.size_setCell]; omega
  · exact kn8.kept hgs (fun e => by injection e with e; dsimp only at e; omega)
  · simpa using kv8.set_ 0 (.slice A3 (m + 1) c3)
  · rw [List.length_append, hm]; rfl
  · exact own3.grown hgs (fun r e e2 => by cases e; have h9 := (World.ownsRow.lt own3 _ (by rw [ownBlock_slice]; exact e2)).1; dsimp only at h9; omega)
  · refine ((keepsOthers_below bb).trans (KeepsOthers.of_grownBy g8 fun j ob hj hob => ?_)).trans (KeepsOthers.setCell _ _ _)
    rcases ownb.2 with ⟨q1, q2⟩ | ⟨gg, cap, cur, q1, _, q3, _⟩
    · injection q1 with q1 _ _; rw [q1] at hj; cases hj
    · injection q1 with q1 _ _; rw [q1] at hj; injection hj with hj; have hj : gg = j := hj; subst hj; rw [q3] at hob; cases hob; rfl
/-- The queue, all of it turned but its works. -/
theorem QAt.both {w W : World} {g of N : Nat} {tt : TypeId} {cs cs' : Array Value} {S : QS} {I' : List IT} {g' : Int} (h : QAt w g of tt cs S N) (hg : w.grownBy W (some g)) {A : Option Addr} {n c : Nat} (hb : Blk W g tt cs') (h0 : cs'[of]? = some (.slice A n c)) (h1 : cs'[of + 1]? = some (.int .i64 g')) (h2 : cs'[of + 2]? = cs[of + 2]?) (hn : n = I'.length) (hc : n ≤ c ∧ c ≤ 9223372036854775807) (hi : ItAt W anyB A I') (hiv : QInv { S with I := I', g := g' }) : QAt W g of tt cs' { S with I := I', g := g' } N := by
  obtain ⟨k1, k2, ⟨A0, n0, c0, a1, a2, a3, a4, a5⟩, k3, ⟨m, G, k4, k5, k6⟩, k7, k8, k9⟩ := h
  exact ⟨hb, k2, ⟨A, n, c, h0, hn, hc.1, hc.2, hi⟩, h1, ⟨m, G, h2.trans k4, k5.kept hg k1, k6.same fun A l hc => hc.kept hg k1 k2.1⟩, k7, k8, hiv⟩
end Go.Proofs.Ytlliaihmfimdoaa.Qu

namespace Go.Proofs.Ytlliaihmfimdoaa.Qu
open Go.RowKit Go.Shelf Go.Maps Go.Deep
attribute [local go_sem] Oper.semAt_some
set_option linter.unusedVariables false
set_option linter.unusedSimpArgs false

/-- Under way in Commit's second loop. -/
structure CJ (w W : World) (g of : Nat) (tt : TypeId) (cs : Array Value) (n : Int) (K : List IT) (gv : Int) (D : Nat) : Prop where
  gr : w.grownBy W (some g)
  bk : Blk W g tt (cs.setIfInBounds (of + 1) (.int .i64 gv))
  sz : w.heap.size + 2 ≤ W.heap.size
  kn : Blk W w.heap.size 3 #[.int .i64 n]
  ls : ∃ A2 c2 m, Blk W (w.heap.size + 1) 60 #[.slice A2 m c2] ∧ m = K.length ∧ OwnI W (w.heap.size + 2) A2 c2 K
  dm : W.heap[D]? = some (.deferred (some []))
theorem CJ.bel {w W W' : World} {g of : Nat} {tt : TypeId} {cs : Array Value} {n : Int} {K : List IT} {gv : Int} {D : Nat} (h : CJ w W g of tt cs n K gv D) (hb : Below W.heap.size W W') : CJ w W' g of tt cs n K gv D := by
  obtain ⟨A2, c2, m, h1, h2, h3⟩ := h.ls
  exact ⟨h.gr.trans (lbelow_grown hb _), h.bk.below hb h.bk.lt, Nat.le_trans h.sz hb.size, h.kn.below hb h.kn.lt, ⟨A2, c2, m, h1.below hb h1.lt, h2, h3.grown (lbelow_grown hb none) (fun r e => by cases e)⟩, (hb.block D (Array.getElem?_eq_some_iff.1 h.dm).1).trans h.dm⟩
theorem CJ.last {w W : World} {g of : Nat} {tt : TypeId} {cs : Array Value} {n : Int} {K : List IT} {gv : Int} {D : Nat} (h : CJ w W g of tt cs n K gv D) (hgl : g < w.heap.size) (gv' : Int) : CJ w (W.setCell ⟨g, of + 1, none⟩ (.int .i64 gv')) g of tt cs n K gv' D := by
  have hgs := lgrown_set W ⟨g, of + 1, none⟩ (.int .i64 gv')
  obtain ⟨A2, c2, m, h1, h2, h3⟩ := h.ls
  refine ⟨h.gr.trans hgs, ?_, by rw [World.size_setCell]; exact h.sz, h.kn.kept hgs (fun e => by injection e with e; dsimp only at e; omega), ⟨A2, c2, m, h1.kept hgs (fun e => by injection e with e; dsimp only at e; omega), h2, h3.grown hgs (fun r e e2 => by cases e; have h9 := (World.ownsRow.lt h3 _ (by rw [ownBlock_slice]; exact e2)).1; dsimp only at h9; omega)⟩, (hgs.block D (Array.getElem?_eq_some_iff.1 h.dm).1 (fun e => by
    injection e with e
    have h9 := h.dm
    have h8 := h.bk
    unfold Blk at h8
    rw [e] at h9
    rw [h8] at h9
    cases h9)).trans h.dm⟩
  have := h.bk.set_ (of + 1) (.int .i64 gv')
  rwa [Array.setIfInBounds_setIfInBounds] at this
theorem CJ.more {w W : World} {g of : Nat} {tt : TypeId} {cs : Array Value} {n : Int} {K : List IT} {gv : Int} {D : Nat} (h : CJ w W g of tt cs n K gv D) (hgl : g < w.heap.size) (hD : w.heap.size ≤ D) (x : IT) (hl : K.length ≤ 900) :
    ∃ A2 c2 m A3 c3 w8, Blk W (w.heap.size + 1) 60 #[.slice A2 m c2] ∧
      (Builtin.append_ #[60, 60] 60 #[.slice A2 m c2, .slice (some ⟨W.heap.size, 0, none⟩) 1 1]).run Try.prog (W.alloc (.cells #[.int .i64 x.n, .int .u64 (x.v : Nat), .int .i64 x.t] 131)) = .ok (.slice A3 (m + 1) c3) w8 ∧
      Blk w8 (w.heap.size + 1) 60 #[.slice A2 m c2] ∧ CJ w (w8.setCell ⟨w.heap.size + 1, 0, none⟩ (.slice A3 (m + 1) c3)) g of tt cs n (K ++ [x]) gv D := by
  obtain ⟨A2, c2, m, k2, hm, own2⟩ := h.ls
  obtain ⟨Wb, hWb⟩ : ∃ Wb, Wb = W.alloc (.cells #[.int .i64 x.n, .int .u64 (x.v : Nat), .int .i64 x.t] 131) := ⟨_, rfl⟩
  have bb : Below W.heap.size W Wb := by rw [hWb]; exact ba _ _
  have kb : Blk Wb W.heap.size 131 #[.int .i64 x.n, .int .u64 (x.v : Nat), .int .i64 x.t] := by rw [hWb]; exact Blk.new _ _ _
  have ownb := own2.grown (lbelow_grown bb none) (fun r e => by cases e)
  obtain ⟨A3, c3, w8, hrun, own3, g8⟩ := it_one ownb x W.heap.size m kb hm (by omega) (by have := bb.size; have := h.sz; omega)
  have hrow : ∀ r, blk A2 = some r → w.heap.size + 2 ≤ r := fun r e => (World.ownsRow.lt ownb r (by rw [ownBlock_slice]; exact e)).1
  have kv8 := (k2.below bb k2.lt).kept g8 (fun e => by have := hrow _ e.symm; omega)
  have kn8 := (h.kn.below bb h.kn.lt).kept g8 (fun e => by have := hrow _ e.symm; omega)
  have hgs := lgrown_set w8 ⟨w.heap.size + 1, 0, none⟩ (.slice A3 (m + 1) c3)
  have q8 : w.grownBy w8 (some g) := (h.gr.trans (lbelow_grown bb _)).andThen g8 (fun j e => .inl (by have := hrow j e; omega))
  refine ⟨A2, c2, m, A3, c3, w8, k2, by rw [← hWb]; exact hrun, kv8, ⟨q8.andThen hgs (fun j e => by cases e; exact .inl (by dsimp only; omega)), ?_, ?_, ?_, ⟨A3, c3, m + 1, ?_, ?_, ?_⟩, ?_⟩⟩
  · exact ((h.bk.below bb h.bk.lt).kept g8 (fun e => by have := hrow _ e.symm; omega)).kept hgs (fun e => by injection e with e; dsimp only at e; omega)
  · have := h.sz; have := bb.size; have := g8.size; rw [World.size_setCell]; omega
  · exact kn8.kept hgs (fun e => by injection e with e; dsimp only at e; omega)
  · simpa using kv8.set_ 0 (.slice A3 (m + 1) c3)
  · rw [List.length_append, hm]; rfl
  · exact own3.grown hgs (fun r e e2 => by cases e; have h9 := (World.ownsRow.lt own3 _ (by rw [ownBlock_slice]; exact e2)).1; dsimp only at h9; omega)
  · have d1 := (bb.block D (Array.getElem?_eq_some_iff.1 h.dm).1).trans h.dm
    have d2 := (g8.block D (Array.getElem?_eq_some_iff.1 d1).1 (fun e => by
      rcases ownb.2 with ⟨q1, q2⟩ | ⟨gg, cap, cur, q1, _, q3, _⟩
      · injection q1 with q1 _ _; rw [q1] at e; cases e
      · injection q1 with q1 _ _; rw [q1] at e; injection e with e; have e : D = gg := e; subst e; rw [d1] at q3; cases q3)).trans d1
    exact (hgs.block D (Array.getElem?_eq_some_iff.1 d2).1 (fun e => by injection e with e; dsimp only at e; subst e; unfold Blk at kv8; rw [kv8] at d2; cases d2)).trans d2
/-- What stays while an item is put behind. -/
structure CC (w u : World) (g of : Nat) (tt : TypeId) (cs : Array Value) (n : Int) (gv : Int) (D tb : Nat) (chv : Array Value) : Prop where
  gr : w.grownBy u (some g)
  bk : Blk u g tt (cs.setIfInBounds (of + 1) (.int .i64 gv))
  sz : w.heap.size + 2 ≤ u.heap.size
  kn : Blk u w.heap.size 3 #[.int .i64 n]
  dm : u.heap[D]? = some (.deferred (some []))
  ch : Blk u tb 39 chv
theorem CC.row {w u u' : World} {g of : Nat} {tt : TypeId} {cs : Array Value} {n : Int} {gv : Int} {D tb : Nat} {chv : Array Value} {row : Option Nat} (h : CC w u g of tt cs n gv D tb chv) (hgl : g < w.heap.size) (hg : u.grownBy u' row) (hr : ∀ r, row = some r → w.heap.size + 1 ≤ r ∧ ∃ cs t, t ≠ 39 ∧ Blk u r t cs) : CC w u' g of tt cs n gv D tb chv := by
  refine ⟨h.gr.andThen hg (fun j e => .inl (by have := (hr j e).1; omega)), h.bk.kept hg (fun e => by have := (hr _ e.symm).1; omega), Nat.le_trans h.sz hg.size, h.kn.kept hg (fun e => by have := (hr _ e.symm).1; omega), (hg.block D (Array.getElem?_eq_some_iff.1 h.dm).1 (fun e => ?_)).trans h.dm, h.ch.kept hg (fun e => ?_)⟩
  · obtain ⟨_, cs', t, _, hb⟩ := hr _ e.symm
    have := h.dm
    unfold Blk at hb
    rw [hb] at this
    cases this
  · obtain ⟨_, cs', t, ht, hb⟩ := hr _ e.symm
    exact hb.ne h.ch ht rfl
theorem CC.bel {w u u' : World} {g of : Nat} {tt : TypeId} {cs : Array Value} {n : Int} {gv : Int} {D tb : Nat} {chv : Array Value} (h : CC w u g of tt cs n gv D tb chv) (hgl : g < w.heap.size) (hb : Below u.heap.size u u') : CC w u' g of tt cs n gv D tb chv := h.row hgl (lbelow_grown hb none) (fun r e => by cases e)
theorem own_blk {u : World} {B : Nat} {A : Option Addr} {c : Nat} {l : List IT} (h : OwnI u B A c l) : ∀ r, blk A = some r → B ≤ r ∧ ∃ cs t, t ≠ 39 ∧ Blk u r t cs := fun r e => by
  rcases h.2 with ⟨q1, q2⟩ | ⟨gg, cap, cur, q1, hb, q3, _⟩
  · injection q1 with q1 _ _; rw [q1] at e; cases e
  · injection q1 with q1 _ _; rw [q1] at e; injection e with e; have e : gg = r := e; subst e; exact ⟨hb, cur, _, by decide, q3⟩
def VCo (w : World) (g of tb m2 c2 : Nat) (tt : TypeId) (cs : Array Value) (n : Int) (A2 : Option Addr) (K : List IT) (gv : Int) (v D : Nat) (chv : Array Value) (j : Nat) (z : Value) (u : World) : Prop :=
  match j with
  | 0 => z = .slice A2 m2 c2
  | 1 => z = .pointer (some ⟨g, of, none⟩)
  | 2 => z = .pointer (some ⟨g, of, none⟩)
  | 3 => z = .pointer (some ⟨g, of + 1, none⟩)
  | 4 => z = .int .i64 gv
  | 5 => z = .pointer (some ⟨tb, 2, none⟩)
  | 6 => z = .int .u64 (v : Nat)
  | 7 => z = .agg #[.int .i64 gv, .int .u64 (v : Nat), .int .i64 0]
  | 8 => ∃ qb, z = .slice (some ⟨qb, 0, none⟩) 1 1 ∧ Blk u qb 131 #[.int .i64 gv, .int .u64 (v : Nat), .int .i64 0] ∧ w.heap.size + 2 ≤ qb
  | 9 => ∃ A3 c3, z = .slice A3 (m2 + 1) c3 ∧ OwnI u (w.heap.size + 2) A3 c3 (K ++ [⟨gv, v, 0⟩])
  | 10 => CJ w u g of tt cs n (K ++ [⟨gv, v, 0⟩]) gv D
  | _ => True
def ECo (vb : Nat) (A2 : Option Addr) (k : Nat) (u u' : World) : Prop := match k with
  | 9 => u.grownBy u' (blk A2)
  | 10 => u.grownBy u' (some vb)
  | _ => Below u.heap.size u u'
theorem ECo.bel {vb : Nat} {A2 : Option Addr} {k : Nat} {u u' : World} (h : ECo vb A2 k u u') (h1 : k ≠ 9) (h2 : k ≠ 10) : Below u.heap.size u u' := by
  unfold ECo at h
  split at h
  · exact absurd rfl h1
  · exact absurd rfl h2
  · exact h
theorem VCo.mono {w : World} {g of tb m2 c2 : Nat} {tt : TypeId} {cs : Array Value} {n : Int} {A2 : Option Addr} {K : List IT} {gv : Int} {v D : Nat} {chv : Array Value} {j k : Nat} {z : Value} {u u' : World} (he : ECo (w.heap.size + 1) A2 k u u') (hjk : j ≠ k) (h8 : ¬ (j = 8 ∧ k = 9)) (h9 : ¬ (j = 9 ∧ k = 10)) (h10 : ¬ (j = 10 ∧ k = 9)) (h : VCo w g of tb m2 c2 tt cs n A2 K gv v D chv j z u) : VCo w g of tb m2 c2 tt cs n A2 K gv v D chv j z u' := by
  unfold VCo at h ⊢
  split at h
  all_goals first | exact h | skip
  · obtain ⟨qb, e, hb, hle⟩ := h
    by_cases k9 : k = 9
    · exact absurd ⟨rfl, k9⟩ h8
    by_cases k10 : k = 10
    · subst k10; exact ⟨qb, e, hb.kept he (fun e => by injection e; omega), hle⟩
    · exact ⟨qb, e, hb.below (he.bel k9 k10) hb.lt, hle⟩
  · obtain ⟨A3, c3, e, ho⟩ := h
    by_cases k10 : k = 10
    · exact absurd ⟨rfl, k10⟩ h9
    · exact ⟨A3, c3, e, ho.grown (lbelow_grown (he.bel (fun e => hjk e.symm) k10) none) (fun r e => by cases e)⟩
  · by_cases k9 : k = 9
    · exact absurd ⟨rfl, k9⟩ h10
    · exact h.bel (he.bel k9 (fun e => hjk e.symm))
def TCo (w : World) (m2 c2 : Nat) (A2 : Option Addr) (K : List IT) (j : Nat) (u : World) : Prop := match j with
  | 0 => Blk u (w.heap.size + 1) 60 #[.slice A2 m2 c2]
  | 9 => OwnI u (w.heap.size + 2) A2 c2 K
  | 10 => Blk u (w.heap.size + 1) 60 #[.slice A2 m2 c2] ∧ (∀ r, blk A2 = some r → w.heap.size + 2 ≤ r)
  | _ => True
theorem TCo.mono {w : World} {m2 c2 : Nat} {A2 : Option Addr} {K : List IT} {j k : Nat} {u u' : World} (he : ECo (w.heap.size + 1) A2 k u u') (hkj : k ≠ j) (h0 : ¬ (j = 0 ∧ (k = 9 ∨ k = 10))) (h9 : ¬ (j = 9 ∧ k = 10)) (h : TCo w m2 c2 A2 K j u) : TCo w m2 c2 A2 K j u' := by
  unfold TCo at h ⊢
  split at h
  · have hb := he.bel (fun e => h0 ⟨rfl, .inl e⟩) (fun e => h0 ⟨rfl, .inr e⟩)
    exact h.below hb h.lt
  · have hb := he.bel hkj (fun e => h9 ⟨rfl, e⟩)
    exact h.grown (lbelow_grown hb none) (fun r e => by cases e)
  · by_cases k9 : k = 9
    · subst k9
      exact ⟨h.1.kept he (fun e => by have := h.2 _ e.symm; omega), h.2⟩
    · have hb := he.bel k9 hkj
      exact ⟨h.1.below hb h.1.lt, h.2⟩
  · trivial
end Go.Proofs.Ytlliaihmfimdoaa.Qu

namespace Go.Proofs.Ytlliaihmfimdoaa.Qu
open Go.RowKit Go.Maps Go.Deep
set_option linter.unusedVariables false
set_option linter.unusedSimpArgs false

def eqIT (a1 : Int) (a2 : Nat) (a3 b1 : Int) (b2 : Nat) (b3 : Int) : Bool := (a1 == b1) && ((a2 == b2) && (a3 == b3))
theorem neI (a1 : Int) (a2 : Nat) (a3 b1 : Int) (b2 : Nat) (b3 : Int) (w : World) : (binOp .neq 131 (.agg #[.int .i64 a1, .int .u64 (a2 : Nat), .int .i64 a3]) (.agg #[.int .i64 b1, .int .u64 (b2 : Nat), .int .i64 b3])).run Try.prog w = .ok (.bool (!eqIT a1 a2 a3 b1 b2 b3)) w := by
  rw [run_neq_struct, run_equalIn_struct w 9999 131 _ _ (by kernel_rfl) (by kernel_rfl)]
  unfold eqIT
  have hc : ((a2 : Int) == (b2 : Int)) = (a2 == b2) := by
    rw [Bool.eq_iff_iff, beq_iff_eq, beq_iff_eq]; omega
  rw [← hc]
  by_cases h1 : a1 = b1
  · by_cases h2 : (a2 : Int) = b2
    · by_cases h3 : a3 = b3
      · simp [Op.eqFields, Program.fieldsOf, Try.underlying131, go_sem, h1, h2, h3]
      · simp [Op.eqFields, Program.fieldsOf, Try.underlying131, go_sem, h1, h2, h3]
    · simp [Op.eqFields, Program.fieldsOf, Try.underlying131, go_sem, h1, h2]
  · simp [Op.eqFields, Program.fieldsOf, Try.underlying131, go_sem, h1]
theorem cell_drew' {w : World} {a : Addr} {v : Value} (h : w.cell? a = v) (m : Nat) : (w.drewN m).cell? a = v := h
def fitsQ : List IT → List Ch → Bool
  | _, [] => true
  | L, x :: r => if x.k = 3 then (x.y == 0) && fitsQ L r else if x.k = 4 then (match L with
    | [] => false
    | i :: L' => eqIT i.n i.v i.t x.y x.v 0 && fitsQ L' r) else false
/-- A list without its first. -/
theorem ItAt.tail {u : World} {x : IT} {L : List IT} {b o : Nat} (h : ItAt u anyB (some ⟨b, o, none⟩) (x :: L)) : ItAt u anyB (some ⟨b, o + 3, none⟩) L := fun hl => by
  obtain ⟨b', o', e, hb, hc⟩ := h (by simp)
  cases e
  refine ⟨b, o + 3, rfl, hb, fun i hi => ?_⟩
  have := hc (i + 1) (by simpa using hi)
  rw [show o + (i + 1) * 3 = o + 3 + i * 3 by omega] at this
  exact this
end Go.Proofs.Ytlliaihmfimdoaa.Qu

namespace Go.Proofs.Ytlliaihmfimdoaa.Qu
open Go.RowKit Go.Maps Go.Deep
set_option linter.unusedVariables false
set_option linter.unusedSimpArgs false

theorem putsL_snoc (l : List Ch) (x : Ch) : putsL (l ++ [x]) = putsL l + (if x.k = 3 then 1 else 0) := by
  unfold putsL
  rw [List.filter_append, List.length_append]
  congr 1
  by_cases e : x.k = 3
  · simp [e]
  · simp [e]
theorem addQ_puts (ws : List WQ) (n : Int) (x : Ch) (hd : ws.Pairwise fun a b => a.n ≠ b.n) : putsW (addQ ws n x) = putsW ws + (if x.k = 3 then 1 else 0) := by
  have h := putsW_lay ws n ((curQ ws n).1 ++ [x]) (curQ ws n).2 hd
  rw [putsL_snoc] at h
  unfold addQ
  omega
theorem roomQ_one {S : QS} (h : ¬ roomQ S < 1) : S.I.length + putsW S.ws + 1 ≤ 16 ∧ S.g + 1 + (putsW S.ws : Int) + 1 ≤ 4611686018427387904 := by
  unfold roomQ at h
  omega
theorem QInv.add {S : QS} (h : QInv S) (hd : S.ws.Pairwise fun a b => a.n ≠ b.n) (n : Int) (x : Ch) (hr : x.k = 3 → ¬ roomQ S < 1) : QInv { S with ws := addQ S.ws n x } := by
  have hp := addQ_puts S.ws n x hd
  have h1 := h.room
  have h2 := h.last
  by_cases e : x.k = 3
  · obtain ⟨r1, r2⟩ := roomQ_one (hr e)
    rw [if_pos e] at hp
    exact ⟨by dsimp only; omega, h.g0, by dsimp only; omega⟩
  · rw [if_neg e] at hp
    exact ⟨by dsimp only; omega, h.g0, by dsimp only; omega⟩
theorem QOk.add {S : QS} (h : QOk S) (hd : S.ws.Pairwise fun a b => a.n ≠ b.n) (n : Int) (x : Ch) (hr : x.k = 3 → ¬ roomQ S < 1) : QOk { S with ws := addQ S.ws n x } := by
  have hp := addQ_puts S.ws n x hd
  have h1 := h.room
  have h2 := h.last
  by_cases e : x.k = 3
  · obtain ⟨r1, r2⟩ := roomQ_one (hr e)
    rw [if_pos e] at hp
    exact ⟨by dsimp only; omega, h.g0, by dsimp only; omega⟩
  · rw [if_neg e] at hp
    exact ⟨by dsimp only; omega, h.g0, by dsimp only; omega⟩
theorem openE_cases (S : QS) (n : Int) : (openE S n = 1 ∧ n < 1) ∨ (openE S n = 7 ∧ 1 ≤ n ∧ (curQ S.ws n).2 = true) ∨ (openE S n = 0 ∧ 1 ≤ n ∧ (curQ S.ws n).2 = false) := by
  unfold openE
  by_cases h : n < 1
  · exact .inl ⟨if_pos h, h⟩
  · rw [if_neg h]
    rcases hc : (curQ S.ws n).2 with _ | _
    · exact .inr (.inr ⟨by simp, by omega, rfl⟩)
    · exact .inr (.inl ⟨by simp, by omega, rfl⟩)
def putM (S : QS) (n : Int) (v : Nat) : Int × QS := if openE S n ≠ 0 then (openE S n, S) else if roomQ S < 1 then (5, S) else (0, { S with ws := addQ S.ws n ⟨3, 0, v⟩ })
theorem put_nil (n : Int) (v : Nat) (w : World) : Calls Try.prog 23 #[.pointer none, .int .i64 n, .int .u64 (v : Nat)] w fun e w' => e = .returned (.int .i64 6) ∧ w = w' := by
  go_enter Try.func23, Try.ntmps23
  go_wp2_with fail
  refine (open_nil n w).mono ?_
  rintro e w1 ⟨rfl, rfl⟩
  go_wp2
  go_ret
  exact ⟨rfl, rfl⟩
set_option maxRecDepth 100000 in
set_option maxHeartbeats 2000000 in
theorem put_any (g of : Nat) (tt : TypeId) (cs : Array Value) (S : QS) (N : Nat) (n : Int) (v : Nat) (w : World) (h : QAt w g of tt cs S N) (hN : N < 300000) (hn : i64ok n) (hB : ∀ b, w.heap.size ≤ b → S.B b) :
    Calls Try.prog 23 #[.pointer (some ⟨g, of, none⟩), .int .i64 n, .int .u64 (v : Nat)] w fun e w' => e = .returned (.int .i64 (putM S n v).1) ∧ QO w g of tt cs (putM S n v).2 (N + 1) w' := by
  have HO := Lib.hid (open_any g of tt cs S N n w h hn)
  obtain ⟨er, her⟩ : ∃ er, er = openE S n := ⟨_, rfl⟩
  rw [← her] at HO
  by_cases h0 : er = 0
  · subst h0
    have HR := Lib.hid (room_any g of tt cs S N w h (by omega))
    by_cases hr : roomQ S < 1
    · have hM : putM S n v = (5, S) := by unfold putM; rw [if_neg (by rw [← her]; simp), if_pos hr]
      rw [hM]
      have HF := Lib.hid (fun u (hb : Below w.heap.size w u) => QO.same (h.more (Nat.le_succ N)) hb)
      generalize roomQ S = rr at hr HR
      clear h hM her hB
      go_enter Try.func23, Try.ntmps23
      go_wp2_with fail
      refine HO.out.mono ?_
      rintro e w1 ⟨rfl, rfl⟩
      go_wp2_with fail
      refine HR.out.mono ?_
      rintro e w2 ⟨rfl, b2⟩
      have HF2 := Lib.hid (HF.out w2 b2)
      clear b2
      go_wp2
      go_ret
      exact ⟨rfl, HF2.out⟩
    · have hM : putM S n v = (0, { S with ws := addQ S.ws n ⟨3, 0, v⟩ }) := by unfold putM; rw [if_neg (by rw [← her]; simp), if_neg hr]
      rw [hM]
      have HA := Lib.hid (fun u (hb : Below w.heap.size w u) => add_any g of tt cs S N n ⟨3, 0, v⟩ u (h.below hb) hN hn (fun b hle => hB b (Nat.le_trans hb.size hle)) (h.iv.add h.nd n ⟨3, 0, v⟩ (fun _ => hr)))
      generalize roomQ S = rr at hr HR
      clear h hM her hB
      go_enter Try.func23, Try.ntmps23
      go_wp2_with fail
      refine HO.out.mono ?_
      rintro e w1 ⟨rfl, rfl⟩
      go_wp2_with fail
      refine HR.out.mono ?_
      rintro e w2 ⟨rfl, b2⟩
      have HA2 := Lib.hid (HA.out w2 b2)
      have HB := Lib.hid b2
      clear b2
      go_wp2_with fail
      refine HA2.out.mono ?_
      rintro e w3 ⟨rfl, hq⟩
      have HF2 := Lib.hid (QO.from Keep3.rfl' (lbelow_grown HB.out (some g)) hq)
      clear hq
      go_wp2
      go_ret
      exact ⟨rfl, HF2.out⟩
  · have hM : putM S n v = (er, S) := by unfold putM; rw [if_pos (by rw [← her]; exact h0), her]
    rw [hM]
    have HF := Lib.hid (QO.same (h.more (Nat.le_succ N)) (Below.refl _ _))
    have hb : (er != 0) = true := by simp [h0]
    clear h hM her hB
    go_enter Try.func23, Try.ntmps23
    go_wp2_with fail
    refine HO.out.mono ?_
    rintro e w1 ⟨rfl, rfl⟩
    go_wp2
    go_ret
    exact ⟨rfl, HF.out⟩
theorem front_ok {L : List IT} {n : Int} (h : (frontR L n).2 = 0) : ∃ hh : (frontR L n).1 < L.length, (L[(frontR L n).1]'hh).t = 0 ∧ (L[(frontR L n).1]'hh).t ≠ n ∧ ∀ j (hj : j < L.length), j < (frontR L n).1 → (L[j]'hj).t = n := by
  unfold frontR at h ⊢
  rcases hf : (ixs L).find? (fun x => decide (x.2.t ≠ n)) with _ | x
  · rw [hf] at h; simp at h
  · rw [hf] at h ⊢
    dsimp only at h ⊢
    by_cases h0 : x.2.t = 0
    · rw [if_pos h0] at h ⊢
      rw [List.find?_eq_some_iff_getElem] at hf
      obtain ⟨h1, i, hi, e, h2⟩ := hf
      have hil : i < L.length := by rw [show (ixs L).length = L.length from ixsF_len L 0] at hi; exact hi
      obtain ⟨hh, e2⟩ := ixs_get L i hil
      rw [e2] at e
      subst e
      dsimp only at h0 h1 ⊢
      refine ⟨hil, h0, by simpa using h1, fun j hj hji => ?_⟩
      obtain ⟨hh3, e3⟩ := ixs_get L j hj
      have := h2 j hji
      rw [e3] at this
      simpa using this
    · rw [if_neg h0] at h; simp at h
def takeM (S : QS) (n : Int) : (Nat × Int) × QS :=
  if openE S n ≠ 0 then ((0, openE S n), S)
  else if (frontR S.I n).2 ≠ 0 then ((0, (frontR S.I n).2), S)
  else match S.I[(frontR S.I n).1]? with
    | some x => ((x.v, 0), { S with I := giveI S.I (frontR S.I n).1 n, ws := addQ S.ws n ⟨4, x.n, x.v⟩ })
    | none => ((0, 0), S)
end Go.Proofs.Ytlliaihmfimdoaa.Qu
