/- Layer 13: a store as a state; it is opened, a work is laid. -/
import Derived.Test.YtnpoicgincndkaaBe
namespace Go.Proofs.Ytnpoicgincndkaa
open Go.RowKit Go.Maps
set_option linter.unusedVariables false
set_option linter.unusedSimpArgs false

/-- Values by keys, works, locks. -/
structure KS where
  B : Nat → Prop
  V : Nat → Nat × Bool
  W : Int → Option (List Ch × Bool)
  L : List LRow
def KS.zero (B : Nat → Prop) : KS := ⟨B, fun _ => (0, false), fun _ => none, []⟩
def updW (W : Int → Option (List Ch × Bool)) (n : Int) (x : Option (List Ch × Bool)) : Int → Option (List Ch × Bool) := fun j => if j = n then x else W j
/-- The works' map is these works. -/
def WRel (w : World) (B : Nat → Prop) (G : Int → Option Value) (W : Int → Option (List Ch × Bool)) : Prop := ∀ k, (W k = none → G k = none) ∧ (∀ l p, W k = some (l, p) → ∃ A n c, G k = some (.agg #[.slice A n c, .bool p]) ∧ n = l.length ∧ ChAt w B A l)
theorem WRel.same {w w' : World} {B B' : Nat → Prop} {G : Int → Option Value} {W : Int → Option (List Ch × Bool)} (h : WRel w B G W) (hs : ∀ A l, ChAt w B A l → ChAt w' B' A l) : WRel w' B' G W := fun k => ⟨(h k).1, fun l p e => by
  obtain ⟨A, n, c, h1, h2, h3⟩ := (h k).2 l p e
  exact ⟨A, n, c, h1, h2, hs _ _ h3⟩⟩
theorem WRel.put {w : World} {B : Nat → Prop} {G : Int → Option Value} {W : Int → Option (List Ch × Bool)} (h : WRel w B G W) (k : Int) (A : Option Addr) (n c : Nat) (l : List Ch) (p : Bool) (hn : n = l.length) (hc : ChAt w B A l) : WRel w B (putG G k (.agg #[.slice A n c, .bool p])) (updW W k (some (l, p))) := fun j => by
  unfold putG updW
  by_cases e : j = k
  · rw [if_pos e, if_pos e]
    exact ⟨(fun h => by cases h), (fun l' p' h => by cases h; exact ⟨A, n, c, rfl, hn, hc⟩)⟩
  · rw [if_neg e, if_neg e]; exact h j
theorem WRel.del {w : World} {B : Nat → Prop} {G : Int → Option Value} {W : Int → Option (List Ch × Bool)} (h : WRel w B G W) (k : Int) : WRel w B (delG G k) (updW W k none) := fun j => by
  unfold delG updW
  by_cases e : j = k
  · rw [if_pos e, if_pos e]
    exact ⟨(fun _ => rfl), (fun l' p' h => by cases h)⟩
  · rw [if_neg e, if_neg e]; exact h j
/-- Two rows of cells are the same behind a store's. -/
def Keep (cs cs' : Array Value) : Prop := cs'.size = cs.size ∧ ∀ i, 34 ≤ i → cs'[i]? = cs[i]?
theorem Keep.rfl' {cs : Array Value} : Keep cs cs := ⟨rfl, fun _ _ => rfl⟩
theorem Keep.trans {a b c : Array Value} (h : Keep a b) (k : Keep b c) : Keep a c := ⟨k.1.trans h.1, fun i hi => (k.2 i hi).trans (h.2 i hi)⟩
theorem Keep.set (cs : Array Value) (j : Nat) (hj : j < 34) (v : Value) : Keep cs (cs.setIfInBounds j v) := ⟨by simp, fun i hi => Array.getElem?_setIfInBounds_ne (by omega)⟩
/-- A store at the front of block g. -/
structure KvAt (w : World) (g : Nat) (tt : TypeId) (cs : Array Value) (S : KS) (N : Nat) : Prop where
  bk : Blk w g tt cs
  ty : tt ≠ 47
  vs : ∀ k, k < 16 → cs[2 * k]? = some (.int .u64 ((S.V k).1 : Nat)) ∧ cs[2 * k + 1]? = some (.bool (S.V k).2)
  wk : ∃ m G, cs[32]? = some (.map m) ∧ FSrc isWork w m N G ∧ WRel w S.B G S.W
  lk : S.L.length ≤ 64 ∧ ∃ m, cs[33]? = some (.map m) ∧ Src w m S.L
  le : ∀ k l p, S.W k = some (l, p) → l.length ≤ N ∧ ∀ x ∈ l, keyB x.y = true
section
variable {w w' : World} {g N : Nat} {tt : TypeId} {cs : Array Value} {S : KS}
theorem KvAt.below (h : KvAt w g tt cs S N) (hb : Below w.heap.size w w') : KvAt w' g tt cs S N := by
  obtain ⟨h1, h2, h3, ⟨m, G, h4, h5, h6⟩, ⟨h7, m2, h8, h9⟩, h10⟩ := h
  exact ⟨h1.below hb h1.lt, h2, h3, ⟨m, G, h4, h5.below hb, h6.same fun A l hc => hc.below hb⟩, ⟨h7, m2, h8, h9.below hb⟩, h10⟩
theorem KvAt.far {g' : Nat} {t' : TypeId} {cs' : Array Value} (h : KvAt w g tt cs S N) (hg : w.grownBy w' (some g')) (hne : g ≠ g') (hk : Blk w g' t' cs') (ht : t' ≠ 47) : KvAt w' g tt cs S N := by
  obtain ⟨h1, h2, h3, ⟨m, G, h4, h5, h6⟩, ⟨h7, m2, h8, h9⟩, h10⟩ := h
  exact ⟨h1.kept hg (by simpa using hne), h2, h3, ⟨m, G, h4, h5.kept hg hk, h6.same fun A l hc => hc.kept hg hk ht⟩, ⟨h7, m2, h8, h9.kept hg hk⟩, h10⟩
theorem KvAt.more {N' : Nat} (h : KvAt w g tt cs S N) (hN : N ≤ N') : KvAt w g tt cs S N' := by
  obtain ⟨h1, h2, h3, ⟨m, G, h4, h5, h6⟩, h7, h10⟩ := h
  exact ⟨h1, h2, h3, ⟨m, G, h4, h5.more hN, h6⟩, h7, fun k l p e => ⟨Nat.le_trans (h10 k l p e).1 hN, (h10 k l p e).2⟩⟩
theorem KvAt.lt (h : KvAt w g tt cs S N) : g < w.heap.size := h.bk.lt
theorem KvAt.tab (h : KvAt w g tt cs S N) : TabO w g 33 tt cs S.L := by
  obtain ⟨h7, m2, h8, h9⟩ := h.lk
  exact ⟨h7, m2, h.bk, h8, h9⟩
/-- The locks have turned. -/
theorem KvAt.locked {L' : List LRow} (h : KvAt w g tt cs S N) (hg : w.grownBy w' (some g)) (ht : ∃ m, TabO w' g 33 tt (cs.setIfInBounds 33 (.map m)) L') : ∃ cs', KvAt w' g tt cs' { S with L := L' } N ∧ Keep cs cs' := by
  obtain ⟨m, h7, m2, hb, hc, hs⟩ := ht
  obtain ⟨h1, h2, h3, ⟨mw, G, h4, h5, h6⟩, _, h10⟩ := h
  refine ⟨_, ⟨hb, h2, fun k hk => ?_, ⟨mw, G, ?_, h5.kept hg h1, h6.same fun A l hc => hc.kept hg h1 h2⟩, ⟨h7, m2, hc, hs⟩, h10⟩, Keep.set _ _ (by omega) _⟩
  · rw [Array.getElem?_setIfInBounds_ne (by omega), Array.getElem?_setIfInBounds_ne (by omega)]; exact h3 k hk
  · rw [Array.getElem?_setIfInBounds_ne (by omega)]; exact h4
end
def curW (S : KS) (n : Int) : List Ch × Bool := (S.W n).getD ([], false)
/-- What is looked up of a work. -/
theorem KvAt.look {w : World} {g N : Nat} {tt : TypeId} {cs : Array Value} {S : KS} (h : KvAt w g tt cs S N) {n : Int} (hn : i64ok n) : ∃ m A q c, cs[32]? = some (.map m) ∧ q = (curW S n).1.length ∧ ChAt w S.B A (curW S n).1 ∧
    (Instr.lookup 54 (.map m) (.int .i64 n) false).run Try.prog w = .ok (.agg #[.slice A q c, .bool (curW S n).2]) w ∧ (Instr.lookup 54 (.map m) (.int .i64 n) true).run Try.prog w = .ok (.tuple #[.agg #[.slice A q c, .bool (curW S n).2], .bool (S.W n).isSome]) w := by
  obtain ⟨m, G, h4, h5, h6⟩ := h.wk
  have r1 := h5.look 54 81 Try.underlying54 (z := .agg #[.slice none 0 0, .bool false]) rfl (Try.zeroValue81 w) hn
  have r2 := h5.look_ok 54 81 Try.underlying54 (z := .agg #[.slice none 0 0, .bool false]) rfl (Try.zeroValue81 w) hn
  unfold curW
  rcases hW : S.W n with _ | ⟨l, p⟩
  · have hG := (h6 n).1 hW
    rw [hG] at r1 r2
    exact ⟨m, none, 0, 0, h4, rfl, fun hl => by simp at hl, r1, r2⟩
  · obtain ⟨A, q, c, hG, hq, hc⟩ := (h6 n).2 l p hW
    rw [hG] at r1 r2
    exact ⟨m, A, q, c, h4, hq, hc, r1, r2⟩

set_option maxRecDepth 100000 in
set_option maxHeartbeats 1000000 in
theorem lay_any (g : Nat) (tt : TypeId) (cs : Array Value) (S : KS) (N : Nat) (n : Int) (A : Option Addr) (l : List Ch) (m c : Nat) (p : Bool) (w : World) (h : KvAt w g tt cs S N) (hN : N < 900000) (hn : i64ok n) (hm : m = l.length) (hl : l.length ≤ N + 1) (hkl : ∀ x ∈ l, keyB x.y = true) (hc : ChAt w S.B A l) :
    Calls Try.prog 41 #[.pointer (some ⟨g, 0, none⟩), .int .i64 n, .agg #[.slice A m c, .bool p]] w fun e w' => e = .returned (.tuple #[]) ∧ (∃ cs', KvAt w' g tt cs' { S with W := updW S.W n (some (l, p)) } (N + 1) ∧ Keep cs cs') ∧ w.grownBy w' (some g) := by
  have hkey := keyOf_i n hn
  have hmk : ∀ (q : Int) (u : World), (Instr.makeMap 54 (some (.int .i64 q))).run Try.prog u = .ok (.map (some u.heap.size)) (u.alloc (.map #[] 0)) := fun q u => by
    simp [Instr.makeMap, run_underlying Try.underlying54, asInt, go_sem, Result.andThen]
  obtain ⟨w1, hw1⟩ : ∃ w1, w1 = w.alloc (.cells #[.slice A m c, .bool p] 81) := ⟨_, rfl⟩
  have hb1 : Below w.heap.size w w1 := by rw [hw1]; exact ba _ _
  have hs1 : w1.heap.size = w.heap.size + 1 := by rw [hw1]; simp
  have k1 : Blk w1 w.heap.size 81 #[.slice A m c, .bool p] := by rw [hw1]; exact Blk.new _ _ _
  have h1 := h.below hb1
  obtain ⟨mw, G, h4, h5, h6⟩ := h1.wk
  obtain ⟨q, hq, hln⟩ := h5.len_run 54 81 Try.underlying54 3
  have c0 := (h1.bk.cell 32).trans h4
  have hb2 := ba w1 (.map #[] 0)
  have hmade : (w1.alloc (.map #[] 0)).ownsMap Try.prog 3 (asIf isWork) w1.heap.size 0 (.map []) := World.ownsMap_made (H := Value) w1 Try.prog 3 (asIf isWork)
  have hmlt : mw ≠ some w1.heap.size := fun e => by
    rcases h5 with ⟨e1, _⟩ | ⟨b, D, e1, e2, _⟩
    · rw [e1] at e; cases e
    · rw [e1] at e; have := e2.lt; have := Option.some.inj e; omega
  obtain ⟨D, hR, hcp⟩ := (h5.below hb2).copied (by omega) _ hmade hmlt
  have hg2 := h1.bk.below hb2 h1.bk.lt
  have c2 := (hg2.cell 32).trans h4
  have k12 := k1.below hb2 k1.lt
  generalize hbm : w1.heap.size = bm at *
  have hb12 := bt hb1 (hbm ▸ hb2)
  have hglt := h.lt
  rw [hw1] at c0 hln hcp c2
  have HW1 := Lib.hid hw1
  have Hst := Lib.hid (And.intro hR (And.intro h (And.intro hc (And.intro hm (And.intro hl (And.intro hn (And.intro h6 h4)))))))
  have Hb2 : Hid (Below w1.heap.size w1 (w1.alloc (.map #[] 0))) := Lib.hid (ba _ _)
  have hqb : IntKind.i64.wrap ((q : Int) + 1) = (q : Int) + 1 := by rw [IntWalk.i64_in _ (by omega)]
  clear hw1 h5 hmade hmlt hb1 k1 hb2 hR hc hm hl hn h6 h1 h4 h hq
  go_enter Try.func41, Try.ntmps41
  go_wp2_with fail
  have hbm1 : w.heap.size + 1 = bm := hs1.symm
  rw [hbm1]
  refine hcp.mono ?_
  rintro e w3 ⟨rfl, hown3, hg3⟩
  rw [← HW1.out] at hg3
  have hgm : g ≠ bm := by omega
  have g3 := hg2.kept hg3 (fun e => hgm (Option.some.inj e))
  have k13 := k12.kept hg3 (fun e => by have := Option.some.inj e; omega)
  have e0 := k13.cell 0
  have e1 := k13.cell 1
  simp only [List.getElem?_toArray, List.getElem?_cons_zero, List.getElem?_cons_succ] at e0 e1
  have Hbs := Lib.hid hs1
  clear hcp c0 c2 hln hg2 k12 hs1 hbm1
  have hnl : N < maxLen := by unfold maxLen; omega
  go_wp2_with (first
    | (at_mapUpdate; refine wpList_mapUpdate_own _ rfl _ _ _ 54 rfl 3 81 lawI Try.underlying54 _ bm _ _ rfl hown3 hnl _ _ _ rfl rfl hkey _ [] (asIf_mk (isWork_val ⟨A, m, c, p⟩)) ?_; intro w4 hown4 hg4; go_frame; have g4 := g3.kept hg4 (fun e => hgm (Option.some.inj e)); have d0 := (g4.cell 32).trans Hst.out.2.2.2.2.2.2.2; have f0 := g4.frozen 32)
    | go_in)
  go_wp2
  go_end0
  obtain ⟨hR, h, hc, hm, hl, hn, h6, h4⟩ := Hst.out
  have hbs := Hbs.out
  have hR4 := hR.put hown3.isMap n (.agg #[.slice A m c, .bool p])
  have q1 : w.grownBy w4 none := by
    refine ⟨hg4.os.trans (hg3.os.trans hb12.os), hg4.tape.trans (hg3.tape.trans hb12.tape), hg4.output.trans (hg3.output.trans hb12.output), Nat.le_trans hb12.size (Nat.le_trans hg3.size hg4.size), fun i hi _ => ?_⟩
    have hi2 := Nat.lt_of_lt_of_le hi hb12.size
    have hni : some i ≠ some bm := fun e => by have := Option.some.inj e; omega
    exact (hg4.block i (Nat.lt_of_lt_of_le hi2 hg3.size) hni).trans ((hg3.block i hi2 hni).trans (hb12.block i hi))
  have hh := h.below (lgrown_below q1)
  have hgs := lgrown_set w4 ⟨g, 32, none⟩ (.map (some bm))
  refine ⟨rfl, ⟨cs.setIfInBounds 32 (.map (some bm)), ⟨g4.set_ 32 _, h.ty, fun k hk => ?_, ⟨some bm, _, set_at h4, .inr ⟨bm, _, rfl, hown4.setCell (a := ⟨g, 32, none⟩) (fun e => hgm e.symm) _, hR4⟩, ?_⟩, ⟨h.lk.1, ?_⟩, fun k l' p' e => ?_⟩, Keep.set _ _ (by omega) _⟩, ?_⟩
  · rw [Array.getElem?_setIfInBounds_ne (by omega), Array.getElem?_setIfInBounds_ne (by omega)]; exact h.vs k hk
  · have q2 : Below w1.heap.size w1 w4 := by
      refine ⟨hg4.os.trans (hg3.os.trans Hb2.out.os), hg4.tape.trans (hg3.tape.trans Hb2.out.tape), hg4.output.trans (hg3.output.trans Hb2.out.output), Nat.le_trans Hb2.out.size (Nat.le_trans hg3.size hg4.size), fun i hi => ?_⟩
      have hi2 := Nat.lt_of_lt_of_le hi Hb2.out.size
      have hni : some i ≠ some bm := fun e => by have := Option.some.inj e; have := HW1.out; rw [this] at hi; simp at hi; omega
      exact (hg4.block i (Nat.lt_of_lt_of_le hi2 hg3.size) hni).trans ((hg3.block i hi2 hni).trans (Hb2.out.block i hi))
    exact ((h6.same fun A l hc => hc.below q2).put n A m c l p hm (hc.below (lgrown_below q1))).same fun A l hc => hc.kept hgs g4 h.ty
  · obtain ⟨h7, m2, h8, h9⟩ := hh.lk
    exact ⟨m2, by rw [Array.getElem?_setIfInBounds_ne (by omega)]; exact h8, h9.kept hgs g4⟩
  · have e : updW S.W n (some (l, p)) k = some (l', p') := e
    unfold updW at e
    split at e
    · cases e; exact ⟨hl, hkl⟩
    · have := h.le k l' p' e; exact ⟨by omega, this.2⟩
  · exact (q1.but (some g)).andThen hgs (fun j h => by cases h; exact .inr rfl)
end Go.Proofs.Ytnpoicgincndkaa
