/- Layer 12, within another layer's block: a lock is laid. -/
import Derived.Test.YtnpoicgincndkaaKd
namespace Go.Proofs.Ytnpoicgincndkaa
open Go.RowKit Go.Maps
set_option linter.unusedVariables false
set_option linter.unusedSimpArgs false

theorem own_ne_blk {w : World} {H : Type} {P : Program} {k t : TypeId} {R : Value → Option (DataW H × List MemPlace)} {b n g : Nat} {D : DataW H} {cs : Array Value} (h : w.ownsMap P k R b n D) (hb : Blk w g t cs) : b ≠ g := fun e => by
  obtain ⟨es, clock, h1, _⟩ := h
  subst e; unfold Blk at hb; rw [h1] at hb; cases hb
theorem own_below {w w' : World} {H : Type} {P : Program} {k : TypeId} {R : Value → Option (DataW H × List MemPlace)} {b n : Nat} {D : DataW H} (h : w.ownsMap P k R b n D) (hb : Below w.heap.size w w') : w'.ownsMap P k R b n D :=
  h.kept (row := none) ⟨hb.os, hb.tape, hb.output, hb.size, fun k hk _ => hb.block k hk⟩ (by simp)
theorem lbelow_grown {w w' : World} (hb : Below w.heap.size w w') (row : Option Nat) : w.grownBy w' row := ⟨hb.os, hb.tape, hb.output, hb.size, fun k hk _ => hb.block k hk⟩
theorem lgrown_below {w w' : World} (hg : w.grownBy w' none) : Below w.heap.size w w' := ⟨hg.os, hg.tape, hg.output, hg.size, fun k hk => hg.block k hk (by simp)⟩
theorem lgrown_set (w : World) (p : Addr) (u : Value) : w.grownBy (w.setCell p u) (some p.block) :=
  ⟨rfl, rfl, rfl, by simp [World.setCell], fun k _ hk => Below.heap_setCell w p u k (fun e => hk (by rw [e]))⟩
theorem run_makeMap_n (n : Int) (u : World) : (Instr.makeMap 55 (some (.int .i64 n))).run Try.prog u = .ok (.map (some u.heap.size)) (u.alloc (.map #[] 0)) := by
  simp [Instr.makeMap, run_underlying Try.underlying55, asInt, go_sem, Result.andThen]
/-- What is known of a table's map, wherever it lies. -/
def Src (w : World) (m : Option Nat) (L : List LRow) : Prop :=
  (m = none ∧ L = []) ∨ ∃ b, ∃ D : DataW Unit, m = some b ∧ w.ownsMap Try.prog 99 holdElem b L.length D ∧ Reads D L
theorem Src.below {w w' : World} {m : Option Nat} {L : List LRow} (h : Src w m L) (hb : Below w.heap.size w w') : Src w' m L := by
  rcases h with h | ⟨b, D, h1, h2, h3⟩
  · exact .inl h
  · exact .inr ⟨b, D, h1, own_below h2 hb, h3⟩
theorem Src.kept {w w' : World} {m : Option Nat} {L : List LRow} {g : Nat} {t : TypeId} {cs : Array Value} (h : Src w m L) (hg : w.grownBy w' (some g)) (hk : Blk w g t cs) : Src w' m L := by
  rcases h with h | ⟨b, D, h1, h2, h3⟩
  · exact .inl h
  · exact .inr ⟨b, D, h1, h2.kept hg (fun e => own_ne_blk h2 hk (Option.some.inj e)), h3⟩
theorem Src.ok {w : World} {m : Option Nat} {L : List LRow} (h : Src w m L) : LOk L := by
  rcases h with ⟨_, rfl⟩ | ⟨_, _, _, _, h⟩
  · exact LOk.nil
  · exact h.ok
/-- A table at a place of block g has the locks L. -/
def TabO (w : World) (g of : Nat) (t : TypeId) (cs : Array Value) (L : List LRow) : Prop :=
  L.length ≤ 64 ∧ ∃ m, Blk w g t cs ∧ cs[of]? = some (.map m) ∧ Src w m L
theorem TabO.lt {w : World} {g of : Nat} {t : TypeId} {cs : Array Value} {L : List LRow} (h : TabO w g of t cs L) : g < w.heap.size := by
  obtain ⟨_, m, h, _⟩ := h; exact h.lt
theorem TabO.len {w : World} {g of : Nat} {t : TypeId} {cs : Array Value} {L : List LRow} (h : TabO w g of t cs L) : L.length ≤ 64 := h.1
theorem TabO.ok {w : World} {g of : Nat} {t : TypeId} {cs : Array Value} {L : List LRow} (h : TabO w g of t cs L) : LOk L := by
  obtain ⟨_, m, _, _, h⟩ := h; exact h.ok
theorem TabO.src {w : World} {g of : Nat} {t : TypeId} {cs : Array Value} {L : List LRow} (h : TabO w g of t cs L) : ∃ m, Blk w g t cs ∧ cs[of]? = some (.map m) ∧ Src w m L := h.2
theorem TabO.of_src {w : World} {g of : Nat} {t : TypeId} {cs : Array Value} {L : List LRow} {m : Option Nat} (hl : L.length ≤ 64) (h : Blk w g t cs) (hc : cs[of]? = some (.map m)) (hs : Src w m L) : TabO w g of t cs L := ⟨hl, m, h, hc, hs⟩
theorem TabO.below {w w' : World} {g of : Nat} {t : TypeId} {cs : Array Value} {L : List LRow} (h : TabO w g of t cs L) (hb : Below w.heap.size w w') : TabO w' g of t cs L := by
  obtain ⟨h0, m, h1, h2, h3⟩ := h
  exact ⟨h0, m, h1.below hb h1.lt, h2, h3.below hb⟩
theorem set_self {cs : Array Value} {i : Nat} {v : Value} (h : cs[i]? = some v) : cs.setIfInBounds i v = cs := by
  obtain ⟨hi, e⟩ := Array.getElem?_eq_some_iff.1 h
  apply Array.ext_getElem?
  intro j
  by_cases hj : j = i
  · subst hj
    rw [Array.getElem?_setIfInBounds_self_of_lt hi, h]
  · rw [Array.getElem?_setIfInBounds_ne (fun e => hj e.symm)]
theorem set_at {cs : Array Value} {i : Nat} {v u : Value} (h : cs[i]? = some v) : (cs.setIfInBounds i u)[i]? = some u := by
  obtain ⟨hi, e⟩ := Array.getElem?_eq_some_iff.1 h
  simp [hi]
def PutO (w : World) (g of : Nat) (t : TypeId) (cs : Array Value) (L : List LRow) (e : Ending) (w' : World) : Prop := e = .returned (.tuple #[]) ∧ (∃ m, TabO w' g of t (cs.setIfInBounds of (.map m)) L) ∧ w.grownBy w' (some g)
theorem Src.len_run {w : World} {m : Option Nat} {L : List LRow} (h : Src w m L) (ty : TypeId) : (Builtin.len_ #[55] ty #[.map m]).run Try.prog w = .ok (.int .i64 L.length) w := by
  rcases h with ⟨rfl, rfl⟩ | ⟨b, D, rfl, h2, h3⟩
  · exact Maps.len_nil Try.underlying55 ty
  · rw [h2.len Try.underlying55 ty, Reads.size h2 h3]
theorem Src.copied {w : World} {m : Option Nat} {L : List LRow} (h : Src w m L) (hl : L.length ≤ 64) (bd : Nat) (hd : w.ownsMap (H := Unit) Try.prog 99 holdElem bd 0 (.map [])) (hne : m ≠ some bd) :
    ∃ D : DataW Unit, Reads D L ∧ Calls Try.prog 66 #[.map (some bd), .map m] w fun e w' => e = .returned (.tuple #[]) ∧ w'.ownsMap Try.prog 99 holdElem bd L.length D ∧ w.grownBy w' (some bd) := by
  rcases h with ⟨rfl, rfl⟩ | ⟨b, D, rfl, h2, h3⟩
  · refine ⟨.map [], Reads.empty, (copy_nil bd w).mono ?_⟩
    rintro e w' ⟨rfl, hb⟩
    exact ⟨rfl, own_below hd hb, lbelow_grown hb _⟩
  · have hs := Reads.size h2 h3
    have := copy_map b bd L.length D w (fun e => hne (by rw [e])) h2 hd (by rw [hs]; exact hl)
    rw [hs] at this
    exact ⟨D, h3, this⟩

set_option maxRecDepth 100000 in
set_option maxHeartbeats 1000000 in
theorem put_any (g of : Nat) (tt : TypeId) (cs : Array Value) (L : List LRow) (k o : Int) (a : Bool) (w : World) (h : TabO w g of tt cs L) (hk : i64ok k) (ho : i64ok o) (hl : (putL L k o a).length ≤ 64) :
    Calls Try.prog 58 #[.pointer (some ⟨g, of, none⟩), .agg #[.int .i64 k, .int .i64 o], .agg #[.bool a]] w (PutO w g of tt cs (putL L k o a)) := by
  have hkey := keyOf_pv k o hk ho
  unfold pv at hkey
  have hmk := run_makeMap_n
  have hglt := h.lt
  obtain ⟨m, hg, hcs, hsrc⟩ := h.src
  have hlen := h.1
  obtain ⟨n, hn⟩ : ∃ n, n = L.length := ⟨_, rfl⟩
  obtain ⟨w1, hw1⟩ : ∃ w1, w1 = (w.alloc (.cells #[.int .i64 k, .int .i64 o] 99)).alloc (.cells #[.bool a] 105) := ⟨_, rfl⟩
  have hb1 : Below w.heap.size w w1 := by rw [hw1]; exact bt (ba _ _) (ba _ _)
  have hs1 : w1.heap.size = w.heap.size + 2 := by rw [hw1]; simp
  have k1 : Blk w1 w.heap.size 99 #[.int .i64 k, .int .i64 o] := by rw [hw1]; exact (Blk.new _ _ _).alloc _
  have k2 : Blk w1 (w.heap.size + 1) 105 #[.bool a] := by
    rw [hw1]; have := Blk.new (w.alloc (.cells #[.int .i64 k, .int .i64 o] 99)) 105 #[.bool a]; rwa [World.size_alloc] at this
  have hg1 := hg.below hb1 hglt
  have hsrc1 := hsrc.below hb1
  have hln := hsrc1.len_run
  rw [← hn] at hln
  have c0 := (hg1.cell of).trans hcs
  have hb2 := ba w1 (.map #[] 0)
  have hmade := World.ownsMap_made (H := Unit) w1 Try.prog 99 holdElem
  have hmlt : m ≠ some w1.heap.size := fun e => by
    rcases hsrc1 with ⟨h1, _⟩ | ⟨b, D, h1, h2, _⟩
    · rw [h1] at e; cases e
    · rw [h1] at e; have := h2.lt; have := Option.some.inj e; omega
  obtain ⟨D, hR, hcp⟩ := (hsrc1.below hb2).copied hlen _ hmade hmlt
  have hg2 := hg1.below hb2 hg1.lt
  have c2 := (hg2.cell of).trans hcs
  have k12 := k1.below hb2 k1.lt
  have k22 := k2.below hb2 k2.lt
  have hbs : w1.heap.size = w.heap.size + 2 := hs1
  generalize hbm : w1.heap.size = bm at *
  have Hbm := Lib.hid hbm
  have hb12 := bt hb1 (hbm ▸ hb2)
  rw [hw1] at c0 hln hcp c2
  have HW1 := Lib.hid hw1
  have HN := Lib.hid (And.intro hn hlen)
  have Hst := Lib.hid (And.intro hR (And.intro hk (And.intro ho hl)))
  have hnb : (n : Int) ≤ 64 := by omega
  have Hcs := Lib.hid hcs
  clear hcs hw1 hg hsrc hsrc1 h hlen hmade hmlt hb1 hs1 k1 k2 hg1 hb2 hbm hn hR hk ho hl
  go_enter Try.func58, Try.ntmps58
  go_wp2_with fail
  have hbm1 : w.heap.size + 1 + 1 = bm := hbs.symm
  rw [hbm1]
  refine hcp.mono ?_
  rintro e w3 ⟨rfl, hown3, hg3⟩
  rw [← HW1.out] at hg3
  have hgm : g ≠ bm := by omega
  have g3 := hg2.kept hg3 (fun e => hgm (Option.some.inj e))
  have k13 := k12.kept hg3 (fun e => by have := Option.some.inj e; omega)
  have k23 := k22.kept hg3 (fun e => by have := Option.some.inj e; omega)
  have e0 := k13.cell 0
  have e1 := k13.cell 1
  have e2 := k23.cell 0
  simp only [List.getElem?_toArray, List.getElem?_cons_zero, List.getElem?_cons_succ] at e0 e1 e2
  have Hbs := Lib.hid hbs
  clear hcp c0 c2 hln hg2 k12 k22 hbs hbm1
  have hnl : L.length < maxLen := by have := HN.out.2; unfold maxLen; omega
  go_wp2_with (first
    | (at_mapUpdate; refine wpList_mapUpdate_own _ rfl _ _ _ 55 rfl 99 105 lawP Try.underlying55 _ bm _ _ rfl hown3 hnl _ _ _ rfl rfl hkey _ [] (holdElem_mk a) ?_; intro w4 hown4 hg4; go_frame; have g4 := g3.kept hg4 (fun e => hgm (Option.some.inj e)); have d0 := (g4.cell of).trans Hcs.out; have f0 := g4.frozen of)
    | go_in)
  go_wp2
  go_end0
  obtain ⟨hR, hk, ho, hl⟩ := Hst.out
  have hbs := Hbs.out
  have hR4 := Reads.put (w := w4) (b := bm) (n := 0) hown3.isMap hR hk ho a
  have hx := own_exact hown4
  rw [Reads.size hown4 hR4] at hx
  refine ⟨rfl, ⟨some bm, TabO.of_src hl (m := some bm) (g4.set_ of (.map (some bm))) (set_at Hcs.out) (.inr ⟨bm, _, rfl, hx.setCell (a := ⟨g, of, none⟩) (fun e => hgm e.symm) _, hR4⟩)⟩, ?_⟩
  · have q1 : w.grownBy w4 none := by
      refine ⟨hg4.os.trans (hg3.os.trans hb12.os), hg4.tape.trans (hg3.tape.trans hb12.tape), hg4.output.trans (hg3.output.trans hb12.output), Nat.le_trans hb12.size (Nat.le_trans hg3.size hg4.size), fun i hi _ => ?_⟩
      have hi2 := Nat.lt_of_lt_of_le hi hb12.size
      have hni : some i ≠ some bm := fun e => by have := Option.some.inj e; omega
      exact (hg4.block i (Nat.lt_of_lt_of_le hi2 hg3.size) hni).trans ((hg3.block i hi2 hni).trans (hb12.block i hi))
    exact (q1.but (some g)).andThen (lgrown_set w4 ⟨g, of, none⟩ (.map (some bm))) (fun j h => by cases h; exact .inr rfl)
end Go.Proofs.Ytnpoicgincndkaa
