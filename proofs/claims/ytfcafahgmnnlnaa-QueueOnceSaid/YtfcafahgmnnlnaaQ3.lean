/- Layer 14: the queue in memory. -/
import Derived.Test.YtfcafahgmnnlnaaQ2
namespace Go.Proofs.Ytfcafahgmnnlnaa.Qu
open Go.RowKit Go.Maps
set_option linter.unusedVariables false
set_option linter.unusedSimpArgs false

/-- A work, with its changes. -/
structure WQ where
  n : Int
  l : List Ch
  p : Bool
/-- The queue's state: where its lists may lie, items, the last number, works. -/
structure QS where
  B : Nat → Prop
  I : List IT
  g : Int
  ws : List WQ
def QS.zero (B : Nat → Prop) : QS := ⟨B, [], 0, []⟩
def findQ (ws : List WQ) (n : Int) : Option WQ := ws.find? fun y => decide (y.n = n)
def lookQ (ws : List WQ) (n : Int) : Option (List Ch × Bool) := (findQ ws n).map fun y => (y.l, y.p)
def curQ (ws : List WQ) (n : Int) : List Ch × Bool := (lookQ ws n).getD ([], false)
def layQ (ws : List WQ) (n : Int) (l : List Ch) (p : Bool) : List WQ := if (findQ ws n).isSome then ws.map (fun y => if y.n = n then ⟨n, l, p⟩ else y) else ws ++ [⟨n, l, p⟩]
def othersQ (ws : List WQ) (n : Int) : List WQ := ws.filter fun y => decide (y.n ≠ n)
def putsL (l : List Ch) : Nat := (l.filter fun x => decide (x.k = 3)).length
def putsW (ws : List WQ) : Nat := (ws.map fun y => putsL y.l).sum
theorem findQ_mem {ws : List WQ} {n : Int} {y : WQ} (h : findQ ws n = some y) : y ∈ ws ∧ y.n = n := by
  unfold findQ at h
  exact ⟨List.mem_of_find?_eq_some h, by simpa using List.find?_some h⟩
theorem findQ_cons (a : WQ) (r : List WQ) (k : Int) : findQ (a :: r) k = if a.n = k then some a else findQ r k := by
  unfold findQ
  rw [List.find?_cons]
  by_cases e : a.n = k
  · simp [e]
  · simp [e]
theorem findQ_none {ws : List WQ} {n : Int} : findQ ws n = none ↔ ∀ y ∈ ws, y.n ≠ n := by
  unfold findQ
  rw [List.find?_eq_none]
  simp
theorem findQ_of {ws : List WQ} {y : WQ} (hd : ws.Pairwise fun a b => a.n ≠ b.n) (hy : y ∈ ws) : findQ ws y.n = some y := by
  induction ws with
  | nil => cases hy
  | cons a r ih =>
    rw [List.pairwise_cons] at hd
    rw [findQ_cons]
    rcases List.mem_cons.1 hy with rfl | hy
    · rw [if_pos rfl]
    · rw [if_neg (hd.1 y hy)]; exact ih hd.2 hy
theorem findQ_map (ws : List WQ) (n : Int) (l : List Ch) (p : Bool) (m : Int) : findQ (ws.map (fun y => if y.n = n then (⟨n, l, p⟩ : WQ) else y)) m = if m = n then (findQ ws n).map (fun _ => ⟨n, l, p⟩) else findQ ws m := by
  induction ws with
  | nil => split <;> rfl
  | cons a r ih =>
    rw [List.map_cons, findQ_cons, findQ_cons, findQ_cons, ih]
    by_cases e : a.n = n
    · rw [if_pos e]
      by_cases em : m = n
      · rw [if_pos em, if_pos em, if_pos em.symm, if_pos e]; rfl
      · rw [if_neg em, if_neg em, if_neg (fun h => em h.symm), if_neg (fun h => em (h.symm.trans e))]
    · rw [if_neg e, if_neg e]
      by_cases em : m = n
      · rw [if_pos em, if_pos em, if_neg (fun h => e (h.trans em))]
      · rw [if_neg em, if_neg em]
theorem findQ_snoc (ws : List WQ) (z : WQ) (m : Int) : findQ (ws ++ [z]) m = (findQ ws m).or (if z.n = m then some z else none) := by
  unfold findQ
  rw [List.find?_append]
  congr 1
  by_cases e : z.n = m
  · simp [e]
  · simp [e]
theorem findQ_lay (ws : List WQ) (n : Int) (l : List Ch) (p : Bool) (m : Int) : findQ (layQ ws n l p) m = if m = n then some ⟨n, l, p⟩ else findQ ws m := by
  unfold layQ
  rcases hf : findQ ws n with _ | y
  · rw [if_neg (by simp), findQ_snoc]
    by_cases e : m = n
    · subst e; rw [hf, if_pos rfl]; simp
    · rw [if_neg e, if_neg (fun h => e h.symm)]; simp
  · rw [if_pos (by simp), findQ_map]
    by_cases e : m = n
    · rw [if_pos e, if_pos e, hf]; rfl
    · rw [if_neg e, if_neg e]
theorem findQ_others (ws : List WQ) (n m : Int) : findQ (othersQ ws n) m = if m = n then none else findQ ws m := by
  unfold findQ othersQ
  rw [List.find?_filter]
  split
  · rename_i e
    subst e
    rw [List.find?_eq_none]
    intro y hy
    simp
  · rename_i hmn
    congr 1
    funext y
    by_cases e : y.n = m
    · simp [e, hmn]
    · simp [e]
theorem lookQ_lay (ws : List WQ) (n : Int) (l : List Ch) (p : Bool) (m : Int) : lookQ (layQ ws n l p) m = if m = n then some (l, p) else lookQ ws m := by
  unfold lookQ; rw [findQ_lay]; split <;> rfl
theorem lookQ_others (ws : List WQ) (n m : Int) : lookQ (othersQ ws n) m = if m = n then none else lookQ ws m := by
  unfold lookQ; rw [findQ_others]; split <;> rfl
theorem layQ_mem {ws : List WQ} {n : Int} {l : List Ch} {p : Bool} {y : WQ} (h : y ∈ layQ ws n l p) : y = ⟨n, l, p⟩ ∨ (y ∈ ws ∧ y.n ≠ n) := by
  unfold layQ at h
  split at h
  · obtain ⟨x, hx, rfl⟩ := List.mem_map.1 h
    split
    · exact .inl rfl
    · rename_i hne; exact .inr ⟨hx, hne⟩
  · rename_i hf
    rcases List.mem_append.1 h with h | h
    · exact .inr ⟨h, by
        have : findQ ws n = none := by rcases hh : findQ ws n with _ | z; rfl; rw [hh] at hf; simp at hf
        exact findQ_none.1 this y h⟩
    · simp at h; exact .inl h
theorem layQ_nd {ws : List WQ} (hd : ws.Pairwise fun a b => a.n ≠ b.n) (n : Int) (l : List Ch) (p : Bool) : (layQ ws n l p).Pairwise fun a b => a.n ≠ b.n := by
  unfold layQ
  split
  · rw [List.pairwise_map]
    refine hd.imp fun {a b} hab => ?_
    by_cases e1 : a.n = n
    · by_cases e2 : b.n = n
      · exact absurd (e1.trans e2.symm) hab
      · rw [if_pos e1, if_neg e2]; exact fun h => e2 h.symm
    · by_cases e2 : b.n = n
      · rw [if_neg e1, if_pos e2]; exact e1
      · rw [if_neg e1, if_neg e2]; exact hab
  · rename_i hf
    have hn : findQ ws n = none := by rcases hh : findQ ws n with _ | z; rfl; rw [hh] at hf; simp at hf
    rw [List.pairwise_append]
    refine ⟨hd, List.pairwise_singleton _ _, fun a ha b hb => ?_⟩
    obtain rfl := List.mem_singleton.1 hb
    exact findQ_none.1 hn a ha
theorem othersQ_nd {ws : List WQ} (hd : ws.Pairwise fun a b => a.n ≠ b.n) (n : Int) : (othersQ ws n).Pairwise fun a b => a.n ≠ b.n := hd.sublist List.filter_sublist
theorem putsW_cons (a : WQ) (r : List WQ) : putsW (a :: r) = putsL a.l + putsW r := by unfold putsW; simp
theorem putsW_app (a b : List WQ) : putsW (a ++ b) = putsW a + putsW b := by unfold putsW; simp
theorem putsW_others : ∀ (ws : List WQ) (n : Int), ws.Pairwise (fun a b => a.n ≠ b.n) → putsW (othersQ ws n) + putsL (curQ ws n).1 = putsW ws
  | [], n, _ => rfl
  | a :: r, n, hd => by
    rw [List.pairwise_cons] at hd
    have ih := putsW_others r n hd.2
    have hc : curQ (a :: r) n = if a.n = n then (a.l, a.p) else curQ r n := by
      unfold curQ lookQ; rw [findQ_cons]; split <;> rfl
    have ho : othersQ (a :: r) n = if a.n = n then othersQ r n else a :: othersQ r n := by
      unfold othersQ; rw [List.filter_cons]
      by_cases e : a.n = n
      · simp [e]
      · simp [e]
    rw [hc, ho, putsW_cons]
    by_cases e : a.n = n
    · rw [if_pos e, if_pos e]
      have h0 : curQ r n = ([], false) := by
        unfold curQ lookQ
        rw [findQ_none.2 (fun y hy => fun h => hd.1 y hy (e.trans h.symm))]
        rfl
      rw [h0] at ih
      have : putsL ([] : List Ch) = 0 := rfl
      dsimp only at ih ⊢
      omega
    · rw [if_neg e, if_neg e, putsW_cons]
      omega
theorem othersQ_lay (ws : List WQ) (n : Int) (l : List Ch) (p : Bool) : othersQ (layQ ws n l p) n = othersQ ws n := by
  unfold layQ
  split
  · unfold othersQ
    rw [List.filter_map]
    have e1 : ((fun y : WQ => decide (y.n ≠ n)) ∘ fun y => if y.n = n then (⟨n, l, p⟩ : WQ) else y) = fun y : WQ => decide (y.n ≠ n) := by
      funext y
      simp only [Function.comp]
      by_cases e : y.n = n
      · simp [e]
      · simp [e]
    rw [e1]
    conv => rhs; rw [← List.map_id (List.filter _ ws)]
    refine List.map_congr_left fun y hy => ?_
    have := (List.mem_filter.1 hy).2
    rw [if_neg (by simpa using this)]; rfl
  · unfold othersQ
    rw [List.filter_append]
    simp
theorem putsW_lay (ws : List WQ) (n : Int) (l : List Ch) (p : Bool) (hd : ws.Pairwise fun a b => a.n ≠ b.n) : putsW (layQ ws n l p) + putsL (curQ ws n).1 = putsW ws + putsL l := by
  have h1 := putsW_others ws n hd
  have h2 := putsW_others (layQ ws n l p) n (layQ_nd hd n l p)
  rw [othersQ_lay] at h2
  have h3 : curQ (layQ ws n l p) n = (l, p) := by unfold curQ; rw [lookQ_lay, if_pos rfl]; rfl
  rw [h3] at h2
  dsimp only at h2
  omega
/-- How the works' map reads. -/
def WRel (w : World) (B : Nat → Prop) (G : Int → Option Value) (W : Int → Option (List Ch × Bool)) : Prop := ∀ k, (W k = none → G k = none) ∧ (∀ l p, W k = some (l, p) → ∃ A n c, G k = some (.agg #[.slice A n c, .bool p]) ∧ n = l.length ∧ ChAt w B A l)
theorem WRel.same {w w' : World} {B B' : Nat → Prop} {G : Int → Option Value} {W : Int → Option (List Ch × Bool)} (h : WRel w B G W) (hs : ∀ A l, ChAt w B A l → ChAt w' B' A l) : WRel w' B' G W := fun k => ⟨(h k).1, fun l p e => by
  obtain ⟨A, n, c, h1, h2, h3⟩ := (h k).2 l p e
  exact ⟨A, n, c, h1, h2, hs _ _ h3⟩⟩
theorem WRel.put {w : World} {B : Nat → Prop} {G : Int → Option Value} {ws : List WQ} (h : WRel w B G (lookQ ws)) (k : Int) (A : Option Addr) (n c : Nat) (l : List Ch) (p : Bool) (hn : n = l.length) (hc : ChAt w B A l) : WRel w B (putG G k (.agg #[.slice A n c, .bool p])) (lookQ (layQ ws k l p)) := fun j => by
  rw [lookQ_lay]
  unfold putG
  by_cases e : j = k
  · rw [if_pos e, if_pos e]
    exact ⟨fun h => by (cases h), fun l' p' e' => by cases e'; exact ⟨A, n, c, rfl, hn, hc⟩⟩
  · rw [if_neg e, if_neg e]; exact h j
theorem WRel.del {w : World} {B : Nat → Prop} {G : Int → Option Value} {ws : List WQ} (h : WRel w B G (lookQ ws)) (k : Int) : WRel w B (delG G k) (lookQ (othersQ ws k)) := fun j => by
  rw [lookQ_others]
  unfold delG
  by_cases e : j = k
  · rw [if_pos e, if_pos e]
    exact ⟨fun _ => rfl, fun l' p' e' => by cases e'⟩
  · rw [if_neg e, if_neg e]; exact h j
/-- A list that lies anywhere. -/
def anyB : Nat → Prop := fun _ => True
def Keep3 (of : Nat) (cs cs' : Array Value) : Prop := cs'.size = cs.size ∧ ∀ i, i ≠ of → i ≠ of + 1 → i ≠ of + 2 → cs'[i]? = cs[i]?
theorem Keep3.rfl' {of : Nat} {cs : Array Value} : Keep3 of cs cs := ⟨rfl, fun _ _ _ _ => rfl⟩
theorem Keep3.trans {of : Nat} {a b c : Array Value} (h : Keep3 of a b) (k : Keep3 of b c) : Keep3 of a c := ⟨k.1.trans h.1, fun i h1 h2 h3 => (k.2 i h1 h2 h3).trans (h.2 i h1 h2 h3)⟩
theorem Keep3.set {of : Nat} (cs : Array Value) (j : Nat) (hj : j = of ∨ j = of + 1 ∨ j = of + 2) (v : Value) : Keep3 of cs (cs.setIfInBounds j v) := ⟨by simp, fun i h1 h2 h3 => Array.getElem?_setIfInBounds_ne (by omega)⟩
structure QInv (S : QS) : Prop where
  room : S.I.length + putsW S.ws ≤ 48
  g0 : 0 ≤ S.g
  last : S.g + 1 + (putsW S.ws : Int) ≤ 4611686018427387952
/-- What holds between calls. -/
structure QOk (S : QS) : Prop where
  room : S.I.length + putsW S.ws ≤ 16
  g0 : 0 ≤ S.g
  last : S.g + 1 + (putsW S.ws : Int) ≤ 4611686018427387904
theorem QOk.inv {S : QS} (h : QOk S) : QInv S := ⟨by have := h.room; omega, h.g0, by have := h.last; omega⟩
/-- The queue in the block g, from cell of on. -/
structure QAt (w : World) (g of : Nat) (tt : TypeId) (cs : Array Value) (S : QS) (N : Nat) : Prop where
  bk : Blk w g tt cs
  ty : tt ≠ 49 ∧ tt ≠ 71
  it : ∃ A n c, cs[of]? = some (.slice A n c) ∧ n = S.I.length ∧ n ≤ c ∧ c ≤ 9223372036854775807 ∧ ItAt w anyB A S.I
  la : cs[of + 1]? = some (.int .i64 S.g)
  wk : ∃ m G, cs[of + 2]? = some (.map m) ∧ FSrc isWork w m N G ∧ WRel w S.B G (lookQ S.ws)
  nd : S.ws.Pairwise fun a b => a.n ≠ b.n
  le : ∀ y ∈ S.ws, y.l.length ≤ N ∧ i64ok y.n
  iv : QInv S
section
variable {w w' : World} {g of N : Nat} {tt : TypeId} {cs : Array Value} {S : QS}
theorem QAt.lt (h : QAt w g of tt cs S N) : g < w.heap.size := h.bk.lt
theorem QAt.below (h : QAt w g of tt cs S N) (hb : Below w.heap.size w w') : QAt w' g of tt cs S N := by
  obtain ⟨h1, h2, ⟨A, n, c, a1, a2, a3, a4, a5⟩, h3, ⟨m, G, h4, h5, h6⟩, h7, h8, h9⟩ := h
  exact ⟨h1.below hb h1.lt, h2, ⟨A, n, c, a1, a2, a3, a4, a5.below hb⟩, h3, ⟨m, G, h4, h5.below hb, h6.same fun A l hc => hc.below hb⟩, h7, h8, h9⟩
theorem QAt.far {g' : Nat} {t' : TypeId} {cs' : Array Value} (h : QAt w g of tt cs S N) (hg : w.grownBy w' (some g')) (hne : g ≠ g') (hk : Blk w g' t' cs') (ht : t' ≠ 49) (ht2 : t' ≠ 71) : QAt w' g of tt cs S N := by
  obtain ⟨h1, h2, ⟨A, n, c, a1, a2, a3, a4, a5⟩, h3, ⟨m, G, h4, h5, h6⟩, h7, h8, h9⟩ := h
  exact ⟨h1.kept hg (by simpa using hne), h2, ⟨A, n, c, a1, a2, a3, a4, a5.kept hg hk ht2⟩, h3, ⟨m, G, h4, h5.kept hg hk, h6.same fun A l hc => hc.kept hg hk ht⟩, h7, h8, h9⟩
theorem QAt.more {N' : Nat} (h : QAt w g of tt cs S N) (hN : N ≤ N') : QAt w g of tt cs S N' := by
  obtain ⟨h1, h2, h0, h3, ⟨m, G, h4, h5, h6⟩, h7, h8, h9⟩ := h
  exact ⟨h1, h2, h0, h3, ⟨m, G, h4, h5.more hN, h6⟩, h7, fun y hy => ⟨Nat.le_trans (h8 y hy).1 hN, (h8 y hy).2⟩, h9⟩
theorem QAt.rebase {B' : Nat → Prop} (h : QAt w g of tt cs S N) (hB : ∀ b, S.B b → b < w.heap.size → B' b) : QAt w g of tt cs { S with B := B' } N := by
  obtain ⟨h1, h2, h0, h3, ⟨m, G, h4, h5, h6⟩, h7, h8, h9⟩ := h
  exact ⟨h1, h2, h0, h3, ⟨m, G, h4, h5, h6.same fun A l hc => hc.mono hB⟩, h7, h8, ⟨h9.room, h9.g0, h9.last⟩⟩
/-- A block that holds none of the queue's turns. -/
theorem QAt.off {o : Nat} {t' : TypeId} {cs' : Array Value} (h : QAt w g of tt cs S N) (hg : w.grownBy w' (some o)) (hne : g ≠ o) (hk : Blk w o t' cs') (ht : t' ≠ 71) (hB : ∀ b, S.B b → b ≠ o) : QAt w' g of tt cs S N := by
  obtain ⟨h1, h2, ⟨A, n, c, a1, a2, a3, a4, a5⟩, h3, ⟨m, G, h4, h5, h6⟩, h7, h8, h9⟩ := h
  exact ⟨h1.kept hg (by simpa using hne), h2, ⟨A, n, c, a1, a2, a3, a4, a5.kept hg hk ht⟩, h3, ⟨m, G, h4, h5.kept hg hk, h6.same fun A l hc => hc.off hg hB⟩, h7, h8, h9⟩
end
/-- What a call leaves. -/
def QO (w : World) (g of : Nat) (tt : TypeId) (cs : Array Value) (S : QS) (N : Nat) (w' : World) : Prop := (∃ cs', QAt w' g of tt cs' S N ∧ Keep3 of cs cs') ∧ w.grownBy w' (some g)
theorem QO.same {w w' : World} {g of : Nat} {tt : TypeId} {cs : Array Value} {S : QS} {N : Nat} (h : QAt w g of tt cs S N) (hb : Below w.heap.size w w') : QO w g of tt cs S N w' := ⟨⟨cs, h.below hb, Keep3.rfl'⟩, lbelow_grown hb _⟩
theorem QO.from {a w w' : World} {g of : Nat} {tt : TypeId} {cs cs1 : Array Value} {S : QS} {N : Nat} (hk : Keep3 of cs cs1) (hg : a.grownBy w (some g)) (h : QO w g of tt cs1 S N w') : QO a g of tt cs S N w' := by
  obtain ⟨⟨cs', h1, h2⟩, h3⟩ := h
  exact ⟨⟨cs', h1, hk.trans h2⟩, hg.trans h3⟩
/-- What is looked up of a work. -/
theorem QAt.look {w : World} {g of N : Nat} {tt : TypeId} {cs : Array Value} {S : QS} (h : QAt w g of tt cs S N) {n : Int} (hn : i64ok n) : ∃ m A q c, cs[of + 2]? = some (.map m) ∧ q = (curQ S.ws n).1.length ∧ ChAt w S.B A (curQ S.ws n).1 ∧
    (Instr.lookup 52 (.map m) (.int .i64 n) false).run Try.prog w = .ok (.agg #[.slice A q c, .bool (curQ S.ws n).2]) w ∧ (Instr.lookup 52 (.map m) (.int .i64 n) true).run Try.prog w = .ok (.tuple #[.agg #[.slice A q c, .bool (curQ S.ws n).2], .bool (lookQ S.ws n).isSome]) w := by
  obtain ⟨m, G, h4, h5, h6⟩ := h.wk
  have r1 := h5.look 52 75 Try.underlying52 (z := .agg #[.slice none 0 0, .bool false]) rfl (Try.zeroValue75 w) hn
  have r2 := h5.look_ok 52 75 Try.underlying52 (z := .agg #[.slice none 0 0, .bool false]) rfl (Try.zeroValue75 w) hn
  unfold curQ
  rcases hW : lookQ S.ws n with _ | ⟨l, p⟩
  · have hG := (h6 n).1 hW
    rw [hG] at r1 r2
    exact ⟨m, none, 0, 0, h4, rfl, fun hl => by simp at hl, r1, r2⟩
  · obtain ⟨A, q, c, hG, hq, hc⟩ := (h6 n).2 l p hW
    rw [hG] at r1 r2
    exact ⟨m, A, q, c, h4, hq, hc, r1, r2⟩
theorem QAt.zero (B : Nat → Prop) (w : World) : QAt (w.alloc (.cells #[.slice none 0 0, .int .i64 0, .map none] 54)) w.heap.size 0 54 #[.slice none 0 0, .int .i64 0, .map none] (QS.zero B) 0 :=
  ⟨Blk.new _ _ _, by decide, ⟨none, 0, 0, rfl, rfl, Nat.le_refl _, by decide, fun h => by simp [QS.zero] at h⟩, rfl, ⟨none, fun _ => none, rfl, .inl ⟨rfl, rfl⟩, fun k => ⟨fun _ => rfl, fun l p h => by cases h⟩⟩, List.Pairwise.nil, (fun y hy => nomatch hy), ⟨Nat.zero_le _, Int.le_refl _, by show (0 : Int) + 1 + ((0 : Nat) : Int) ≤ 4611686018427387952; decide⟩⟩
end Go.Proofs.Ytfcafahgmnnlnaa.Qu
