/- Parts OpenB Io Ip of one proof. -/
import Derived.Test.YtihchfjdgeehoaaMg01
import Derived.Test.YtihchfjdgeehoaaMg12
import Derived.Lib.SmallJoins
import Derived.Deep.Slices
import Derived.Test.YtihchfjdgeehoaaMg07
namespace Go.Proofs.Ytihchfjdgeehoaa
open Go.RowKit Go.ChangeShapes Go.WideShapes Go.Joins Go.Deep
set_option linter.unusedVariables false

theorem add_spotB {w : World} {a : Addr} {v : Value} (h : w.cell? a = some v) : ∃ b o, a = ⟨b, o, none⟩ ∧ b < w.heap.size := by
  have hs := World.cell?_spot h
  have hl := World.block_lt_of_cell? _ _ h
  obtain ⟨b, o, s⟩ := a
  simp only at hs hl
  subst hs
  exact ⟨b, o, rfl, hl⟩
section
variable {H : Type} {enc : TypeId × Value → H} {P : Program} {W : World} {base : Nat} {spare : Nat → Bool} {held : Bool}
theorem i64_trodB {t : TypeId} {n : Nat} {v : Value} {y : DataW H × List MemPlace} (ht : P.underlying t = some (.int .i64)) (h : DataW.trod enc P W base spare held n t [v] = some y) :
    ∃ a : Int, v = .int .i64 a ∧ -9223372036854775808 ≤ a ∧ a ≤ 9223372036854775807 := by
  obtain ⟨a, e, _, hw⟩ := DataW.trod_int ht h
  simp at e
  exact ⟨a, e, i64_bd hw⟩
theorem u64_trodB {t : TypeId} {n : Nat} {v : Value} {y : DataW H × List MemPlace} (ht : P.underlying t = some (.int .u64)) (h : DataW.trod enc P W base spare held n t [v] = some y) :
    ∃ a : Nat, v = .int .u64 (a : Nat) ∧ a < 18446744073709551616 := by
  obtain ⟨a, e, _, hw⟩ := DataW.trod_int ht h
  simp at e
  obtain ⟨n, rfl, hn⟩ := u64_nat hw
  exact ⟨n, e, hn⟩
theorem u32_trodB {t : TypeId} {n : Nat} {v : Value} {y : DataW H × List MemPlace} (ht : P.underlying t = some (.int .u32)) (h : DataW.trod enc P W base spare held n t [v] = some y) :
    ∃ a : Nat, v = .int .u32 (a : Nat) ∧ a < 4294967296 := by
  obtain ⟨a, e, _, hw⟩ := DataW.trod_int ht h
  simp at e
  obtain ⟨n, rfl, hn⟩ := u32_nat hw
  exact ⟨n, e, hn⟩
theorem bool_trodB {t : TypeId} {n : Nat} {v : Value} {y : DataW H × List MemPlace} (ht : P.underlying t = some .bool) (h : DataW.trod enc P W base spare held n t [v] = some y) :
    ∃ a : Bool, v = .bool a := by
  obtain ⟨a, e, _⟩ := DataW.trod_bool ht h
  simp at e
  exact ⟨a, e⟩
end
def InLs (w : World) (A : Option Addr) (l : List Ch) : Prop := l.length ≤ maxLen ∧ InL w A l
section
variable {H : Type} {enc : TypeId × Value → H} {W : World}
set_option maxRecDepth 1000000 in
theorem ch_trod {fuel : Nat} {v : Value} {y : DataW H × List MemPlace} (hf : DataW.trod enc Try.prog W 0 (fun _ => true) true fuel 34 [v] = some y) :
    ∃ A ops c, v = .slice A (List.length ops) c ∧ InLs W A ops := by
  have hC : Try.prog.cellsOf 47 = 3 := by kernel_rfl
  rcases open_slice Try.underlying34 hf with ⟨hcs, _⟩ | ⟨x, len, cap, m, n, D, Pl, hcs, _, hl, hm, hmm, _, hi⟩
  · simp at hcs
    subst hcs
    exact ⟨none, [], 0, rfl, by simp [maxLen], fun h => absurd h (by simp)⟩
  · simp at hcs
    subst hcs
    simp only [if_true] at hmm
    subst hmm
    have each : ∀ i, i < m → ∃ o : Ch, W.cell? (x.add (i * 3)) = some (.int .i64 o.k) ∧ W.cell? ((x.add (i * 3)).add 1) = some (.int .i64 o.y) ∧ W.cell? ((x.add (i * 3)).add 2) = some (.int .u64 (o.v : Nat)) := by
      intro i him
      obtain ⟨cs', hc, ht⟩ := hi i him
      rw [hC] at hc
      obtain ⟨_, hcl, hat⟩ := World.cells?_some hc
      obtain ⟨xs, n', _, _, _, hxl, hf'⟩ := DataW.trod_struct Try.underlying47 ht
      match cs', hcl with
      | [c0, c1, c2], _ =>
        match xs, hxl with
        | [y0, y1, y2], _ =>
          have g0 := hf' 0 _ rfl
          have g1 := hf' 1 _ rfl
          have g2 := hf' 2 _ rfl
          have e_0 : Try.prog.cellsOf 3 = 1 := by kernel_rfl
          have e_1 : Try.prog.cellsOf 33 = 1 := by kernel_rfl
          simp [e_0, e_1] at g0 g1 g2
          obtain ⟨z0, rfl, b0, d0⟩ := i64_trodB Try.underlying3 g0
          obtain ⟨z1, rfl, b1, d1⟩ := i64_trodB Try.underlying3 g1
          obtain ⟨z2, rfl, b2⟩ := u64_trodB Try.underlying33 g2
          have a0 := hat 0 (by omega)
          have a1 := hat 1 (by omega)
          have a2 := hat 2 (by omega)
          have ez : (x.add (i * 3)).add 0 = x.add (i * 3) := by simp [Addr.add]
          rw [ez] at a0
          exact ⟨⟨z0, z1, z2⟩, a0, a1, a2⟩
    let f : Nat → Ch := fun i => if h : i < m then (each i h).choose else ⟨0, 0, 0⟩
    have hf1 : ∀ i, (h : i < m) → W.cell? (x.add (i * 3)) = some (.int .i64 (f i).k) ∧ W.cell? ((x.add (i * 3)).add 1) = some (.int .i64 (f i).y) ∧ W.cell? ((x.add (i * 3)).add 2) = some (.int .u64 ((f i).v : Nat)) := by
      intro i h
      have := (each i h).choose_spec
      simp only [f, dif_pos h]
      exact this
    refine ⟨some x, (List.range len).map f, _, by simp; rfl, by simp; omega, fun hpos => ?_⟩
    · have hpos' : 0 < len := by simpa using hpos
      have h00 := (hf1 0 (by omega)).1
      have ez : x.add (0 * 3) = x := by simp [Addr.add]
      rw [ez] at h00
      obtain ⟨b, o, rfl, hlt⟩ := add_spotB h00
      refine ⟨b, o, rfl, hlt, fun i hi' => ?_⟩
      have hi2 : i < len := by simpa using hi'
      have := (hf1 i (by omega))
      simp only [Addr.add_lit] at this
      simpa using this
end
def OpIn (w : World) (o : OpV) : Prop := OpOk o ∧ o.l.length ≤ maxLen ∧ InL w o.A o.l
section
variable {H : Type} {enc : TypeId × Value → H} {W : World}
set_option maxRecDepth 1000000 in
theorem ops_trod {fuel : Nat} {v : Value} {y : DataW H × List MemPlace} (hf : DataW.trod enc Try.prog W 0 (fun _ => true) true fuel 22 [v] = some y) :
    ∃ A ops c, v = .slice A (List.length ops) c ∧ OpsAt W A ops := by
  have hC : Try.prog.cellsOf 36 = 5 := by kernel_rfl
  rcases open_slice Try.underlying22 hf with ⟨hcs, _⟩ | ⟨x, len, cap, m, n, D, Pl, hcs, _, hl, hm, hmm, _, hi⟩
  · simp at hcs
    subst hcs
    exact ⟨none, [], 0, rfl, by simp [maxLen], by simp, fun h => absurd h (by simp)⟩
  · simp at hcs
    subst hcs
    simp only [if_true] at hmm
    subst hmm
    have each : ∀ i, i < m → ∃ o : OpV, OpIn W o ∧ W.cell? (x.add (i * 5)) = some (.int .i64 o.k) ∧ W.cell? ((x.add (i * 5)).add 1) = some (.int .i64 o.n) ∧ W.cell? ((x.add (i * 5)).add 2) = some (.int .i64 o.y) ∧ W.cell? ((x.add (i * 5)).add 3) = some (.int .u64 (o.v : Nat)) ∧ W.cell? ((x.add (i * 5)).add 4) = some (.slice o.A o.l.length o.c) := by
      intro i him
      obtain ⟨cs', hc, ht⟩ := hi i him
      rw [hC] at hc
      obtain ⟨_, hcl, hat⟩ := World.cells?_some hc
      obtain ⟨xs, n', _, _, _, hxl, hf'⟩ := DataW.trod_struct Try.underlying36 ht
      match cs', hcl with
      | [c0, c1, c2, c3, c4], _ =>
        match xs, hxl with
        | [y0, y1, y2, y3, y4], _ =>
          have g0 := hf' 0 _ rfl
          have g1 := hf' 1 _ rfl
          have g2 := hf' 2 _ rfl
          have g3 := hf' 3 _ rfl
          have g4 := hf' 4 _ rfl
          have e_0 : Try.prog.cellsOf 3 = 1 := by kernel_rfl
          have e_1 : Try.prog.cellsOf 33 = 1 := by kernel_rfl
          have e_2 : Try.prog.cellsOf 34 = 1 := by kernel_rfl
          simp [e_0, e_1, e_2] at g0 g1 g2 g3 g4
          obtain ⟨z0, rfl, b0, d0⟩ := i64_trodB Try.underlying3 g0
          obtain ⟨z1, rfl, b1, d1⟩ := i64_trodB Try.underlying3 g1
          obtain ⟨z2, rfl, b2, d2⟩ := i64_trodB Try.underlying3 g2
          obtain ⟨z3, rfl, b3⟩ := u64_trodB Try.underlying33 g3
          obtain ⟨A4, l4, c4', rfl, b4⟩ := ch_trod g4
          have a0 := hat 0 (by omega)
          have a1 := hat 1 (by omega)
          have a2 := hat 2 (by omega)
          have a3 := hat 3 (by omega)
          have a4 := hat 4 (by omega)
          have ez : (x.add (i * 5)).add 0 = x.add (i * 5) := by simp [Addr.add]
          rw [ez] at a0
          exact ⟨⟨z0, z1, z2, z3, A4, l4, c4'⟩, ⟨⟨⟨b1, d1⟩, ⟨b2, d2⟩, b3⟩, b4.1, b4.2⟩, a0, a1, a2, a3, a4⟩
    let f : Nat → OpV := fun i => if h : i < m then (each i h).choose else ⟨0, 0, 0, 0, none, [], 0⟩
    have hf1 : ∀ i, (h : i < m) → OpIn W (f i) ∧ W.cell? (x.add (i * 5)) = some (.int .i64 (f i).k) ∧ W.cell? ((x.add (i * 5)).add 1) = some (.int .i64 (f i).n) ∧ W.cell? ((x.add (i * 5)).add 2) = some (.int .i64 (f i).y) ∧ W.cell? ((x.add (i * 5)).add 3) = some (.int .u64 ((f i).v : Nat)) ∧ W.cell? ((x.add (i * 5)).add 4) = some (.slice (f i).A (f i).l.length (f i).c) := by
      intro i h
      have := (each i h).choose_spec
      simp only [f, dif_pos h]
      exact this
    refine ⟨some x, (List.range len).map f, _, by simp; rfl, by simp; omega, fun o ho => ?_, fun hpos => ?_⟩
    · obtain ⟨i, hi', rfl⟩ := List.mem_map.1 ho
      exact (hf1 i (by have := List.mem_range.1 hi'; omega)).1
    · have hpos' : 0 < len := by simpa using hpos
      have h00 := (hf1 0 (by omega)).2.1
      have ez : x.add (0 * 5) = x := by simp [Addr.add]
      rw [ez] at h00
      obtain ⟨b, o, rfl, hlt⟩ := add_spotB h00
      refine ⟨b, o, rfl, hlt, fun i hi' => ?_⟩
      have hi2 : i < len := by simpa using hi'
      have := (hf1 i (by omega)).2
      simp only [Addr.add_lit] at this
      simpa using this
end
section
variable {H : Type} {enc : TypeId × Value → H} {W : World}
set_option maxRecDepth 1000000 in
theorem open_ops {r : Reach} {b0 : Nat} {v : Value} {d : DataW H} {p : List MemPlace} (hval : Value.okWide Try.prog W r b0 22 v) (h : DataW.Trod enc Try.prog W 0 (fun _ => true) true 22 v d p) :
    ∃ A ops c, v = .slice A (List.length ops) c ∧ OpsAt W A ops := by
  obtain ⟨a, len, cap, rfl⟩ := okWide_slice Try.underlying22 hval
  obtain ⟨fuel, hf⟩ := h
  exact ops_trod hf
end
section
variable {H : Type} {enc : TypeId × Value → H} {W : World}
set_option maxRecDepth 1000000 in
theorem open_u64s {r : Reach} {b0 : Nat} {v : Value} {d : DataW H} {p : List MemPlace} (hval : Value.okWide Try.prog W r b0 75 v) (h : DataW.Trod enc Try.prog W 0 (fun _ => true) true 75 v d p) :
    ∃ A zs c, v = .slice A (List.length zs) c ∧ U64At W A zs := by
  obtain ⟨a, len, cap, rfl⟩ := okWide_slice Try.underlying75 hval
  obtain ⟨fuel, hf⟩ := h
  rcases open_ints Try.underlying75 Try.underlying33 (by kernel_rfl) hf with ⟨hcs, _⟩ | ⟨x, l, c, zs, hcs, _, hl, hm, hz, _, hcell, hwz⟩
  · simp [Value.cells] at hcs
    obtain ⟨rfl, rfl, rfl⟩ := hcs
    exact ⟨none, [], 0, rfl, by simp [maxLen], fun h => absurd h (by simp)⟩
  · simp [Value.cells] at hcs
    obtain ⟨rfl, rfl, rfl⟩ := hcs
    simp at hz
    refine ⟨some x, (zs.take len).map Int.toNat, cap, by simp; omega, by simp; omega, fun hn => ?_⟩
    have hn' : 0 < len := by simp at hn; omega
    have h0 := hcell 0 (by omega)
    obtain ⟨b, o, e0, hlt⟩ := add_spotB h0
    obtain ⟨xb, xo, xs⟩ := x
    simp [Addr.add] at e0
    obtain ⟨rfl, e1, e2⟩ := e0
    subst e2
    refine ⟨xb, xo, rfl, hlt, fun i hi => ?_⟩
    have hi' : i < len := by simp at hi; omega
    have hil : i < zs.length := by omega
    have hci := hcell i (by omega)
    rw [Addr.add_lit] at hci
    rw [hci]
    have hw := hwz (zs[i]'hil) (List.getElem_mem hil)
    obtain ⟨nn, hnn, _⟩ := u64_nat hw
    simp [List.getD, List.getElem?_eq_getElem hil]
    rw [hnn]; simp
end
end Go.Proofs.Ytihchfjdgeehoaa

namespace Go.Proofs.Ytihchfjdgeehoaa
open Go.RowKit Go.Maps Go.Joins Go.Deep
set_option linter.unusedVariables false
set_option linter.unusedSimpArgs false

theorem Try.infoLock : (Try.prog.info? 116).map (fun i => (i.zero, i.size, i.bytes)) = some (some (.agg #[.int .i64 0, .int .i64 0, .bool false]), 3, 24) := by kernel_rfl
def flatL (L : List LRow) : List Value := L.flatMap fun x => [.int .i64 x.1, .int .i64 x.2.1, .bool x.2.2]
theorem flatL_len (L : List LRow) : (flatL L).length = L.length * 3 := by
  induction L with
  | nil => rfl
  | cons o L ih => unfold flatL at ih ⊢; rw [List.flatMap_cons, List.length_append, ih]; simp; omega
theorem flatL_snoc (L : List LRow) (x : LRow) : flatL (L ++ [x]) = flatL L ++ [.int .i64 x.1, .int .i64 x.2.1, .bool x.2.2] := by unfold flatL; simp
theorem flatL_at : ∀ (L : List LRow) (i : Nat) (h : i < L.length), (flatL L)[i * 3]? = some (.int .i64 L[i].1) ∧ (flatL L)[i * 3 + 1]? = some (.int .i64 L[i].2.1) ∧ (flatL L)[i * 3 + 2]? = some (.bool L[i].2.2)
  | x :: L, 0, _ => by unfold flatL; simp
  | x :: L, i + 1, h => by
    have := flatL_at L i (by simpa using h)
    have e : flatL (x :: L) = [.int .i64 x.1, .int .i64 x.2.1, .bool x.2.2] ++ flatL L := by unfold flatL; rw [List.flatMap_cons]
    rw [e]
    have hs : ∀ j, ([.int .i64 x.1, .int .i64 x.2.1, .bool x.2.2] ++ flatL L)[(i + 1) * 3 + j]? = (flatL L)[i * 3 + j]? := by
      intro j
      rw [List.getElem?_append_right (by simp; omega)]
      congr 1
      simp
      omega
    exact ⟨(hs 0).trans this.1, (hs 1).trans this.2.1, (hs 2).trans this.2.2⟩
/-- The rows of a table of the document's, in a block at or above B. -/
structure LRows (u : World) (B : Nat) (A : Option Addr) (c : Nat) (L : List LRow) : Prop where
  nil : L = [] → A = none ∧ c = 0
  at_ : L ≠ [] → ∃ b cs, A = some ⟨b, 0, none⟩ ∧ B ≤ b ∧ Blk u b 116 cs ∧ ∀ i, (h : i < L.length) → cs[i * 3]? = some (.int .i64 (L[i]'h).1) ∧ cs[i * 3 + 1]? = some (.int .i64 (L[i]'h).2.1) ∧ cs[i * 3 + 2]? = some (.bool (L[i]'h).2.2)
theorem LRows.empty (u : World) (B : Nat) : LRows u B none 0 [] := ⟨fun _ => ⟨rfl, rfl⟩, fun h => absurd rfl h⟩
theorem LRows.kept {u u' : World} {B c : Nat} {A : Option Addr} {L : List LRow} {row : Option Nat} (h : LRows u B A c L) (hg : u.grownBy u' row) (hr : ∀ r, row = some r → r < B ∨ ∃ t cs, t ≠ 116 ∧ Blk u r t cs) : LRows u' B A c L := by
  refine ⟨h.nil, fun hn => ?_⟩
  obtain ⟨b, cs, e, hb, hk, hc⟩ := h.at_ hn
  refine ⟨b, cs, e, hb, hk.kept hg (fun e2 => ?_), hc⟩
  rcases hr b e2.symm with h1 | ⟨t, cs2, h1, h2⟩
  · omega
  · exact h2.ne hk h1 rfl
theorem LRows.below {u u' : World} {B c : Nat} {A : Option Addr} {L : List LRow} (h : LRows u B A c L) (hb : Below u.heap.size u u') : LRows u' B A c L := h.kept (lbelow_grown hb none) (fun r e => by cases e)
theorem LRows.base {u : World} {B B' c : Nat} {A : Option Addr} {L : List LRow} (h : LRows u B A c L) (hB : B' ≤ B) : LRows u B' A c L := ⟨h.nil, fun hn => by
  obtain ⟨b, cs, e, hb, hk, hc⟩ := h.at_ hn
  exact ⟨b, cs, e, Nat.le_trans hB hb, hk, hc⟩⟩
def OwnL (u : World) (B : Nat) (A : Option Addr) (c : Nat) (L : List LRow) : Prop := u.ownsRow B 116 3 (.slice A L.length c) L.length (flatL L)
theorem OwnL.rows {u : World} {B c : Nat} {A : Option Addr} {L : List LRow} (h : OwnL u B A c L) (hz : L = [] → A = none ∧ c = 0) : LRows u B A c L := by
  refine ⟨hz, fun hn => ?_⟩
  have hp : 0 < L.length := List.length_pos_iff.2 hn
  rcases h.2 with ⟨h1, h2⟩ | ⟨g, cap, cur, h1, hb, hg, h3, h4, h5, h6⟩
  · omega
  · cases h1
    have hc : ∀ j v, (flatL L)[j]? = some v → cur[j]? = some v := fun j v hv => by
      rw [← Array.getElem?_toList]
      rw [← h6, List.getElem?_take] at hv
      split at hv
      · exact hv
      · cases hv
    refine ⟨g, cur, rfl, hb, hg, fun i hi => ?_⟩
    obtain ⟨q0, q1, q2⟩ := flatL_at L i hi
    exact ⟨hc _ _ q0, hc _ _ q1, hc _ _ q2⟩
theorem OwnL.kept {u u' : World} {B c : Nat} {A : Option Addr} {L : List LRow} {row : Option Nat} (h : OwnL u B A c L) (hg : u.grownBy u' row) (hr : ∀ r, row = some r → r < B) : OwnL u' B A c L := by
  refine World.ownsRow.kept h hg ?_
  rcases hb : (Value.slice A L.length c).ownBlock with _ | k
  · exact .inl rfl
  · refine .inr (fun e => ?_)
    have h2 := World.ownsRow.lt h k hb
    have := hr k e.symm
    omega
/-- A copy of a table's rows. -/
theorem rows_copy {u : World} {B c : Nat} {A : Option Addr} {L : List LRow} (h : LRows u B A c L) (n : Nat) (hn : n = L.length) (hl : n ≤ 100) :
    ∃ A2 c2 u', (Builtin.append_ #[28, 28] 28 #[.slice none 0 0, .slice A n c]).run Try.prog u = .ok (.slice A2 n c2) u' ∧
      OwnL u' u.heap.size A2 c2 L ∧ (L = [] → A2 = none ∧ c2 = 0) ∧ Below u.heap.size u u' := by
  subst hn
  obtain ⟨i0, hi, hz0, hz1, hz2⟩ := info_parts Try.infoLock
  by_cases hL : L = []
  · subst hL
    obtain ⟨rfl, rfl⟩ := h.nil rfl
    exact ⟨none, 0, u, run_append_owned_none (P := Try.prog) (w := u) u.heap.size 28 28 116 i0 3 Try.underlying28 hi _ 0 [] (World.ownsRow_nil _ _ _ _), World.ownsRow_nil _ _ _ _, fun _ => ⟨rfl, rfl⟩, Below.refl _ _⟩
  · obtain ⟨b, cs, rfl, hb, hk, hc⟩ := h.at_ hL
    have hp : 0 < L.length := List.length_pos_iff.2 hL
    have hcell : ∀ j v, (flatL L)[j]? = some v → u.cell? ⟨b, j, none⟩ = some v := fun j v hv => by
      have hj : j < L.length * 3 := by rw [← flatL_len]; exact (List.getElem?_eq_some_iff.1 hv).1
      obtain ⟨q0, q1, q2⟩ := hc (j / 3) (by omega)
      obtain ⟨p0, p1, p2⟩ := flatL_at L (j / 3) (by omega)
      rw [hk.cell]
      have hm : j = j / 3 * 3 ∨ j = j / 3 * 3 + 1 ∨ j = j / 3 * 3 + 2 := by omega
      rcases hm with e | e | e
      · rw [e] at hv ⊢; rw [q0, ← p0, hv]
      · rw [e] at hv ⊢; rw [q1, ← p1, hv]
      · rw [e] at hv ⊢; rw [q2, ← p2, hv]
    obtain ⟨v', w', hrun, hown, hgr, _, _⟩ := run_append_own_at (P := Try.prog) u u.heap.size 28 28 116 i0 _ 3 24 Try.underlying28 hi hz0 hz1 hz2 rfl (by omega) (.slice none 0 0) 0 [] (World.ownsRow_nil _ _ _ _) ⟨b, 0, none⟩ L.length c (flatL L) (flatL_len L)
      (fun j v hv => by
        have e : (⟨b, 0, none⟩ : Addr).add j = ⟨b, j, none⟩ := by
          simp [Addr.add]
          try omega
        rw [e]; exact hcell j v hv)
      (fun v hv => by
        unfold flatL at hv
        obtain ⟨x, _, hx⟩ := List.mem_flatMap.1 hv
        simp at hx
        rcases hx with rfl | rfl | rfl <;> rfl) (by simp only [maxLen]; omega) (by omega) (Nat.le_refl _)
    obtain ⟨g2, c2, rfl⟩ := Joins.ownsRow_form hown (by omega)
    simp only [Nat.zero_add, List.nil_append] at hrun hown
    exact ⟨some ⟨g2, 0, none⟩, c2, w', hrun, hown, fun e => absurd e hL, lgrown_below hgr⟩
theorem rows_more {u : World} {B c : Nat} {A : Option Addr} {L : List LRow} (h : OwnL u B A c L) (n : Nat) (hn : n = L.length) (hl : n ≤ 100) (x : LRow) (q : Nat) (hBu : B ≤ u.heap.size)
    (hq : Blk u q 116 #[.int .i64 x.1, .int .i64 x.2.1, .bool x.2.2]) :
    ∃ A2 c2 u', (Builtin.append_ #[28, 28] 28 #[.slice A n c, .slice (some ⟨q, 0, none⟩) 1 1]).run Try.prog u = .ok (.slice A2 (n + 1) c2) u' ∧
      OwnL u' B A2 c2 (L ++ [x]) ∧ u.grownBy u' (blk A) := by
  subst hn
  obtain ⟨i0, hi, hz0, hz1, hz2⟩ := info_parts Try.infoLock
  obtain ⟨v', w', hrun, hown, hgr, _, _⟩ := run_append_own_at (P := Try.prog) u B 28 28 116 i0 _ 3 24 Try.underlying28 hi hz0 hz1 hz2 rfl (by omega) (.slice A L.length c) L.length (flatL L) h ⟨q, 0, none⟩ 1 1 [.int .i64 x.1, .int .i64 x.2.1, .bool x.2.2] rfl
    (fun j v hv => by
      have := hq.cell j
      have e : (⟨q, 0, none⟩ : Addr).add j = ⟨q, j, none⟩ := by
        simp [Addr.add]
        try omega
      rw [e, this]
      rw [List.getElem?_toArray]; exact hv)
    (fun v hv => by simp at hv; rcases hv with rfl | rfl | rfl <;> rfl) (by simp only [maxLen]; omega) (by omega) hBu
  obtain ⟨g2, c2, rfl⟩ := Joins.ownsRow_form hown (by omega)
  rw [ownBlock_slice] at hgr
  refine ⟨some ⟨g2, 0, none⟩, c2, w', hrun, ?_, hgr⟩
  unfold OwnL
  rw [List.length_append, flatL_snoc]
  exact hown
/-- The document's table. -/
def RTab (u : World) (B x : Nat) (L : List LRow) : Prop := ∃ A n c, Hid (n = L.length) ∧ Blk u x 30 #[.slice A n c] ∧ LRows u B A c L
theorem RTab.kept {u u' : World} {B x : Nat} {L : List LRow} {row : Option Nat} (h : RTab u B x L) (hg : u.grownBy u' row) (hr : ∀ r, row = some r → r ≠ x ∧ (r < B ∨ ∃ t cs, t ≠ 116 ∧ Blk u r t cs)) : RTab u' B x L := by
  obtain ⟨A, n, c, hn, hk, hR⟩ := h
  exact ⟨A, n, c, hn, hk.kept hg (fun e => (hr x e.symm).1 rfl), hR.kept hg fun r e => (hr r e).2⟩
theorem RTab.below {u u' : World} {B x : Nat} {L : List LRow} (h : RTab u B x L) (hb : Below u.heap.size u u') : RTab u' B x L := h.kept (lbelow_grown hb none) (fun r e => by cases e)
/-- The document's table within a block of another layer's. -/
def ROf (u : World) (B x of : Nat) (tt : TypeId) (cs : Array Value) (L : List LRow) : Prop := ∃ A n c, Hid (n = L.length) ∧ Blk u x tt cs ∧ cs[of]? = some (.slice A n c) ∧ LRows u B A c L
theorem ROf.below {u u' : World} {B x of : Nat} {tt : TypeId} {cs : Array Value} {L : List LRow} (h : ROf u B x of tt cs L) (hb : Below u.heap.size u u') : ROf u' B x of tt cs L := by
  obtain ⟨A, n, c, hn, hk, hcs, hR⟩ := h
  exact ⟨A, n, c, hn, hk.below hb hk.lt, hcs, hR.below hb⟩
/-- Where a lock stands. -/
def PlaceR (L : List LRow) (k o : Int) (p : Int) : Prop := (p = -1 ∧ heldL L k o = false) ∨ ∃ i, ∃ h : i < L.length, p = (i : Int) ∧ (L[i]'h).1 = k ∧ (L[i]'h).2.1 = o
theorem heldL_no {L : List LRow} {k o : Int} (h : ∀ x ∈ L, ¬ (x.1 = k ∧ x.2.1 = o)) : heldL L k o = false := by
  cases hh : heldL L k o with
  | false => rfl
  | true => obtain ⟨x, hx, e⟩ := held_iff.1 hh; exact absurd e (h x hx)

set_option maxRecDepth 100000 in
set_option maxHeartbeats 1000000 in
theorem place_any (B x : Nat) (L : List LRow) (ow k : Int) (w : World) (h : RTab w B x L) (hl : L.length ≤ 100) :
    Calls Try.prog 61 #[.pointer (some ⟨x, 0, none⟩), .int .i64 ow, .int .i64 k] w fun e w' => ∃ p, e = .returned (.int .i64 p) ∧ PlaceR L k ow p ∧ w = w' := by
  obtain ⟨A, n, c, hn, hk, hR⟩ := h
  have c0 := hk.cell 0
  simp only [List.getElem?_toArray, List.getElem?_cons_zero] at c0
  have hn100 : n ≤ 100 := by rw [hn.out]; exact hl
  have HR := Lib.hid hR
  clear hk hR hl
  go_enter Try.func61, Try.ntmps61
  go_wp2_with fail
  go_loopw [7] (fun i wr => ∃ j : Nat, j ≤ n ∧ i = .int .i64 j ∧ Hid (∀ i, (h : i < L.length) → i < j → ¬ ((L[i]'h).1 = k ∧ (L[i]'h).2.1 = ow)) ∧ w = wr) (fun i _ => n - (intOf i).toNat)
  case atStart => exact ⟨0, Nat.zero_le _, rfl, Lib.hid (fun i h h2 => by omega), rfl⟩
  case round =>
    obtain ⟨j, hj, rfl, hno, rfl⟩ := hrel
    by_cases hjn : j < n
    · have hjI : (j : Int) < (n : Int) := by omega
      have hjL : j < L.length := by have := hn.out; omega
      obtain ⟨b, cs, rfl, _, hkb, hc⟩ := HR.out.at_ (by intro e; rw [e] at hjL; simp at hjL)
      obtain ⟨q0, q1, q2⟩ := hc j hjL
      rw [← hkb.cell] at q0 q1 q2
      have hstep : Hid (¬ ((L[j]'hjL).1 = k ∧ (L[j]'hjL).2.1 = ow) → ∀ i, (h : i < L.length) → i < j + 1 → ¬ ((L[i]'h).1 = k ∧ (L[i]'h).2.1 = ow)) := Lib.hid (fun h1 i hi hij => by
        by_cases e : i = j
        · subst e; exact h1
        · exact hno.out i hi (by omega))
      have hyes : Hid ((L[j]'hjL).1 = k → (L[j]'hjL).2.1 = ow → PlaceR L k ow (j : Int)) := Lib.hid (fun h1 h2 => .inr ⟨j, hjL, rfl, h1, h2⟩)
      generalize L[j]'hjL = z at q0 q1 q2 hstep hyes
      obtain ⟨zk, zo, za⟩ := z
      simp only at q0 q1 q2 hstep hyes
      clear hc hkb hjL hno
      by_cases h1 : zk = k
      · by_cases h2 : zo = ow
        · have hP := hyes.out h1 h2
          subst h1
          subst h2
          have HP := Lib.hid hP
          clear hstep hyes hP
          go_wp2
          go_ret
          exact ⟨_, rfl, HP.out, rfl⟩
        · have hno2 : Hid _ := Lib.hid (hstep.out (fun e => h2 e.2))
          have e1 : (zk == k) = true := by simp [h1]
          have e2 : (zo == ow) = false := by simp [h2]
          clear hstep hyes
          subst h1
          go_wp2
          go_roundw
          case rel => exact ⟨j + 1, by omega, by go_num, hno2, by first | rfl | trivial⟩
          case measure => simp [intOf]; omega
      · have hno2 : Hid _ := Lib.hid (hstep.out (fun e => h1 e.1))
        have e1 : (zk == k) = false := by simp [h1]
        clear hstep hyes
        go_wp2
        go_roundw
        case rel => exact ⟨j + 1, by omega, by go_num, hno2, by first | rfl | trivial⟩
        case measure => simp [intOf]; omega
    · have hjI : ¬ (j : Int) < (n : Int) := by omega
      have HP : Hid (PlaceR L k ow (-1)) := Lib.hid (.inl ⟨rfl, heldL_no fun x hx e => by
        obtain ⟨i, hi, rfl⟩ := List.mem_iff_getElem.1 hx
        exact hno.out i hi (by have := hn.out; omega) e⟩)
      clear hno
      go_wp2
      go_ret
      exact ⟨_, rfl, HP.out, rfl⟩
end Go.Proofs.Ytihchfjdgeehoaa

namespace Go.Proofs.Ytihchfjdgeehoaa
open Go.RowKit Go.Maps
set_option linter.unusedVariables false
set_option linter.unusedSimpArgs false

def clash2 (x y : LRow) : Bool := decide (x.1 = y.1) && !decide (x.2.1 = y.2.1) && x.2.2
def clashR (L : List LRow) : Bool := L.any fun x => L.any fun y => clash2 x y
theorem clash2_iff {x y : LRow} : clash2 x y = true ↔ x.1 = y.1 ∧ x.2.1 ≠ y.2.1 ∧ x.2.2 = true := by
  unfold clash2; simp [and_assoc]
theorem clashR_iff {L : List LRow} : clashR L = true ↔ ¬ NoClash L := by
  unfold clashR
  rw [List.any_eq_true]
  constructor
  · rintro ⟨x, hx, h⟩ hn
    obtain ⟨y, hy, h⟩ := List.any_eq_true.1 h
    obtain ⟨h1, h2, h3⟩ := clash2_iff.1 h
    have := hn x hx y hy h1 h2
    rw [h3] at this; cases this
  · intro hn
    apply Classical.byContradiction
    intro hno
    refine hn fun x hx y hy h1 h2 => ?_
    cases ha : x.2.2 with
    | false => rfl
    | true => exact absurd ⟨x, hx, List.any_eq_true.2 ⟨y, hy, clash2_iff.2 ⟨h1, h2, ha⟩⟩⟩ hno
theorem clashR_no {L : List LRow} (h : ∀ x ∈ L, ∀ y ∈ L, clash2 x y = false) : clashR L = false := by
  unfold clashR
  rw [List.any_eq_false]
  intro x hx
  rw [Bool.not_eq_true, List.any_eq_false]
  intro y hy
  rw [h x hx y hy]; simp
theorem clash_same {L : List LRow} (h : NoClash L) (k o : Int) (a : Bool) : clashR (putL L k o (aloneL L k o || a)) = clashL L k o a := by
  cases hc : clashL L k o a with
  | false =>
    have := h.put hc
    cases hr : clashR (putL L k o (aloneL L k o || a)) with
    | false => rfl
    | true => exact absurd this (clashR_iff.1 hr)
  | true =>
    unfold clashL at hc
    obtain ⟨x, hx, hb⟩ := List.any_eq_true.1 hc
    simp only [Bool.and_eq_true, Bool.not_eq_true', decide_eq_true_eq, decide_eq_false_iff_not, Bool.or_eq_true] at hb
    rw [clashR_iff]
    intro hn
    have hx' : x ∈ putL L k o (aloneL L k o || a) := put_old hx (fun e => hb.1.2 e.2)
    rcases hb.2 with ha | ha
    · subst ha
      have := hn _ (put_new L k o _) x hx' hb.1.1.symm (fun e => hb.1.2 e.symm)
      simp at this
    · have := hn x hx' _ (put_new L k o _) hb.1.1 hb.1.2
      rw [ha] at this; cases this

set_option maxRecDepth 100000 in
set_option maxHeartbeats 2000000 in
theorem clashR_any (B x : Nat) (L : List LRow) (w : World) (h : RTab w B x L) (hl : L.length ≤ 100) :
    Calls Try.prog 62 #[.pointer (some ⟨x, 0, none⟩)] w fun e w' => e = .returned (.bool (clashR L)) ∧ Below w.heap.size w w' := by
  have hxl : x < w.heap.size := by obtain ⟨A, n, c, _, hk, _⟩ := h; exact hk.lt
  have H := Lib.hid h
  obtain ⟨n, hN⟩ : ∃ n, n = L.length := ⟨_, rfl⟩
  have HN := Lib.hid hN
  rw [← hN] at hl
  clear h hN
  go_enter Try.func62, Try.ntmps62
  go_wp2_with fail
  go_loopw [3] (fun i wr => ∃ j : Nat, j ≤ n ∧ i = .int .i64 j ∧ Hid (∀ i, (h : i < L.length) → i < j → ∀ y ∈ L, clash2 (L[i]'h) y = false) ∧ Below w.heap.size w wr) (fun i _ => n - (intOf i).toNat)
  case atStart => exact ⟨0, Nat.zero_le _, rfl, Lib.hid (fun i h h2 => by omega), Below.refl _ _⟩
  case round =>
    obtain ⟨j, hj, rfl, hno, hb⟩ := hrel
    obtain ⟨A, n1, c, hn, hk, hR⟩ := H.out.below hb
    have c0 := hk.cell 0
    simp only [List.getElem?_toArray, List.getElem?_cons_zero] at c0
    obtain rfl : n1 = n := hn.out.trans HN.out.symm
    clear hn hk hR
    by_cases hjn : j < n1
    · have hjI : (j : Int) < (n1 : Int) := by omega
      go_wp2_with fail
      go_loopw [4] (fun i wr => ∃ m : Nat, m ≤ n1 ∧ i = .int .i64 m ∧ Hid (∀ i, (h : i < L.length) → i < m → clash2 (L[j]'(by rw [← HN.out]; exact hjn)) (L[i]'h) = false) ∧ Below w.heap.size w wr) (fun i _ => n1 - (intOf i).toNat)
      case atStart => exact ⟨0, Nat.zero_le _, rfl, Lib.hid (fun i h h2 => by omega), hb⟩
      case round =>
        clear c0 hb
        obtain ⟨m, hm, rfl, hno2, hb⟩ := hrel
        obtain ⟨A', n', c', hn', hk, hR⟩ := H.out.below hb
        obtain rfl : n' = n1 := hn'.out.trans HN.out.symm
        by_cases hmn : m < n'
        · have hmI : (m : Int) < (n' : Int) := by omega
          have hjL : j < L.length := by rw [← HN.out]; exact hjn
          have hmL : m < L.length := by rw [← HN.out]; exact hmn
          obtain ⟨b, cs, rfl, _, hkb, hc⟩ := hR.at_ (by intro e; rw [e] at hjL; simp at hjL)
          obtain ⟨p0, p1, p2⟩ := hc j hjL
          obtain ⟨q0, q1, q2⟩ := hc m hmL
          rw [← hkb.cell] at p0 p1 p2 q0 q1 q2
          have c0 := hk.cell 0
          simp only [List.getElem?_toArray, List.getElem?_cons_zero] at c0
          have hyes : Hid (clash2 (L[j]'hjL) (L[m]'hmL) = true → clashR L = true) := Lib.hid (fun h1 => List.any_eq_true.2 ⟨_, List.getElem_mem hjL, List.any_eq_true.2 ⟨_, List.getElem_mem hmL, h1⟩⟩)
          have hstep : Hid (clash2 (L[j]'hjL) (L[m]'hmL) = false → ∀ i, (h : i < L.length) → i < m + 1 → clash2 (L[j]'hjL) (L[i]'h) = false) := Lib.hid (fun h1 i hi hij => by
            by_cases e : i = m
            · subst e; exact h1
            · exact hno2.out i hi (by omega))
          obtain ⟨z, hz⟩ : ∃ z, z = L[j]'hjL := ⟨_, rfl⟩
          obtain ⟨y, hy⟩ : ∃ y, y = L[m]'hmL := ⟨_, rfl⟩
          rw [← hz] at p0 p1 p2
          rw [← hy] at q0 q1 q2
          rw [← hz, ← hy] at hyes
          have HZ := Lib.hid (And.intro hz.symm hy.symm)
          clear hz hy
          obtain ⟨zk, zo, za⟩ := z
          obtain ⟨yk, yo, ya⟩ := y
          simp only at p0 p1 p2 q0 q1 q2 hyes
          have P0 := fun k : Nat => (show (wr.drewN k).cell? _ = _ from p0)
          have P1 := fun k : Nat => (show (wr.drewN k).cell? _ = _ from p1)
          have P2 := fun k : Nat => (show (wr.drewN k).cell? _ = _ from p2)
          have Q0 := fun k : Nat => (show (wr.drewN k).cell? _ = _ from q0)
          have Q1 := fun k : Nat => (show (wr.drewN k).cell? _ = _ from q1)
          have C0 := fun k : Nat => (show (wr.drewN k).cell? _ = _ from c0)
          have hbd : ∀ k, Below w.heap.size w (wr.drewN k) := fun k => ⟨hb.os, hb.tape, hb.output, hb.size, hb.block⟩
          clear hc hkb hk hR p0 p1 p2 q0 q1 q2
          by_cases h1 : zk = yk
          · subst h1
            by_cases h2 : zo = yo
            · subst h2
              have hs2 := Lib.hid (hstep.out (by rw [HZ.out.1, HZ.out.2]; simp [clash2]))
              clear hyes hstep HZ hno2
              go_wp2_with fail
              go_quiet (fail)
              have hb2 := hbd nq
              clear P0 P1 P2 Q0 Q1 C0 hbd
              go_wp2
              go_roundw
              case rel => exact ⟨m + 1, by omega, by go_num, hs2, hb2⟩
              case measure => simp [intOf]; omega
            · have e2 : (zo != yo) = true := by simp [h2]
              rcases za with _ | _
              · have hs2 := Lib.hid (hstep.out (by rw [HZ.out.1, HZ.out.2]; simp [clash2]))
                clear hyes hstep HZ hno2
                go_wp2_with fail
                go_quiet (fail)
                have hb2 := hbd nq
                clear P0 P1 P2 Q0 Q1 C0 hbd
                go_wp2
                go_roundw
                case rel => exact ⟨m + 1, by omega, by go_num, hs2, hb2⟩
                case measure => simp [intOf]; omega
              · have hY := hyes.out (clash2_iff.2 ⟨rfl, h2, rfl⟩)
                have HY := Lib.hid hY
                clear hyes hY hstep HZ hno2
                go_wp2_with fail
                go_quiet (fail)
                have hb2 := hbd nq
                clear P0 P1 P2 Q0 Q1 C0 hbd
                go_wp2
                go_ret
                exact ⟨by rw [HY.out]; rfl, hb2⟩
          · have e1 : (zk == yk) = false := by simp [h1]
            have hs2 := Lib.hid (hstep.out (by rw [HZ.out.1, HZ.out.2]; simp [clash2, h1]))
            clear hyes hstep HZ hno2
            go_wp2_with fail
            go_quiet (fail)
            have hb2 := hbd nq
            clear P0 P1 P2 Q0 Q1 C0 hbd
            go_wp2
            go_roundw
            case rel => exact ⟨m + 1, by omega, by go_num, hs2, hb2⟩
            case measure => simp [intOf]; omega
        · have hmI : ¬ (m : Int) < (n' : Int) := by omega
          have c0 := hk.cell 0
          simp only [List.getElem?_toArray, List.getElem?_cons_zero] at c0
          have hall : Hid (∀ i, (h : i < L.length) → i < j + 1 → ∀ y ∈ L, clash2 (L[i]'h) y = false) := Lib.hid (fun i hi hij y hy => by
            by_cases e : i = j
            · subst e
              obtain ⟨q, hq, rfl⟩ := List.mem_iff_getElem.1 hy
              exact hno2.out q hq (by have := HN.out; omega)
            · exact hno.out i hi (by omega) y hy)
          clear hno2 hk hR
          go_wp2
          go_roundw
          case rel => exact ⟨j + 1, by omega, by go_num, hall, hb⟩
          case measure => simp [intOf]; omega
    · have hjI : ¬ (j : Int) < (n1 : Int) := by omega
      have HR : Hid (clashR L = false) := Lib.hid (clashR_no fun x hx y hy => by
        obtain ⟨i, hi, rfl⟩ := List.mem_iff_getElem.1 hx
        exact hno.out i hi (by have := HN.out; omega) y hy)
      clear hno
      go_wp2
      go_ret
      exact ⟨by rw [HR.out]; rfl, hb⟩


theorem idx_same {L : List LRow} (h : LOk L) {i j : Nat} (hi : i < L.length) (hj : j < L.length) (h1 : (L[i]'hi).1 = (L[j]'hj).1) (h2 : (L[i]'hi).2.1 = (L[j]'hj).2.1) : i = j := by
  have hp := List.pairwise_iff_getElem.1 h.dis
  rcases Nat.lt_trichotomy i j with h3 | h3 | h3
  · exact absurd ⟨h1, h2⟩ (hp i j hi hj h3)
  · exact h3
  · exact absurd ⟨h1.symm, h2.symm⟩ (hp j i hj hi h3)
theorem alone_at {L : List LRow} (h : LOk L) {k o : Int} {i : Nat} (hi : i < L.length) (h1 : (L[i]'hi).1 = k) (h2 : (L[i]'hi).2.1 = o) : heldL L k o = true ∧ aloneL L k o = (L[i]'hi).2.2 := by
  refine ⟨held_iff.2 ⟨_, List.getElem_mem hi, h1, h2⟩, ?_⟩
  cases ha : (L[i]'hi).2.2 with
  | true => exact alone_iff.2 ⟨_, List.getElem_mem hi, h1, h2, ha⟩
  | false =>
    cases hal : aloneL L k o with
    | false => rfl
    | true =>
      obtain ⟨x, hx, x1, x2, x3⟩ := alone_iff.1 hal
      have := at_same h hx (List.getElem_mem hi) (x1.trans h1.symm) (x2.trans h2.symm)
      rw [this, ha] at x3; cases x3
theorem alone_no {L : List LRow} {k o : Int} (h : heldL L k o = false) : aloneL L k o = false := by
  cases hal : aloneL L k o with
  | false => rfl
  | true =>
    obtain ⟨x, hx, x1, x2, _⟩ := alone_iff.1 hal
    rw [held_iff.2 ⟨x, hx, x1, x2⟩] at h; cases h

set_option maxRecDepth 100000 in
set_option maxHeartbeats 1000000 in
theorem rdrop_any (B x of : Nat) (tt : TypeId) (cs : Array Value) (htt : tt ≠ 116) (L : List LRow) (ow : Int) (w : World) (h : ROf w B x of tt cs L) (hl : L.length ≤ 100) (hB : B ≤ w.heap.size) :
    Calls Try.prog 51 #[.pointer (some ⟨x, of, none⟩), .int .i64 ow] w fun e w' => e = .returned (.int .i64 ((L.length : Int) - ((dropL L ow).length : Int))) ∧ (∃ v, ROf w' B x of tt (cs.setIfInBounds of v) (dropL L ow)) ∧ w.grownBy w' (some x) := by
  have hxl : x < w.heap.size := by obtain ⟨A, n, c, _, hk, _, _⟩ := h; exact hk.lt
  have H := Lib.hid h
  obtain ⟨n, hn⟩ : ∃ n, n = L.length := ⟨_, rfl⟩
  have HN := Lib.hid hn
  rw [← hn] at hl ⊢
  clear h hn
  go_enter Try.func51, Try.ntmps51
  go_wp2_with fail
  go_loopw [5, 6] (fun v i wr => ∃ (j n2 c2 : Nat) (A2 : Option Addr) (K : List LRow), v = .slice A2 n2 c2 ∧ Hid (n2 = K.length) ∧ n2 ≤ j ∧ j ≤ n ∧ i = .int .i64 j ∧ OwnL wr w.heap.size A2 c2 K ∧ (K = [] → A2 = none ∧ c2 = 0) ∧ Hid (K = dropL (L.take j) ow) ∧ Below w.heap.size w wr) (fun _ i _ => n - (intOf i).toNat)
  case atStart => exact ⟨0, 0, 0, none, [], rfl, rfl, Nat.le_refl _, Nat.zero_le _, rfl, World.ownsRow_nil _ _ _ _, fun _ => ⟨rfl, rfl⟩, rfl, Below.refl _ _⟩
  case round =>
    obtain ⟨j, n2, c2, A2, K, rfl, hn2, hnj, hj, rfl, hown, hz, hK, hb⟩ := hrel
    obtain ⟨A, n', c, hn', hk, hcs, hR⟩ := H.out.below hb
    obtain rfl : n' = n := hn'.out.trans HN.out.symm
    have c0 := (hk.cell of).trans hcs
    by_cases hjn : j < n'
    · have hjI : (j : Int) < (n' : Int) := by omega
      have hjL : j < L.length := by rw [← HN.out]; exact hjn
      obtain ⟨b, cb, rfl, _, hkb, hc⟩ := hR.at_ (by intro e; rw [e] at hjL; simp at hjL)
      obtain ⟨q0, q1, q2⟩ := hc j hjL
      rw [← hkb.cell] at q0 q1 q2
      have hstep : dropL (L.take (j + 1)) ow = dropL (L.take j) ow ++ (if (L[j]'hjL).2.1 = ow then [] else [L[j]'hjL]) := by
        rw [take_snoc L j hjL]
        unfold dropL
        rw [List.filter_append]
        congr 1
        by_cases e : (L[j]'hjL).2.1 = ow <;> simp [e]
      rw [← hK.out] at hstep
      generalize L[j]'hjL = z at q0 q1 q2 hstep
      obtain ⟨zk, zo, za⟩ := z
      simp only at q0 q1 q2 hstep
      clear hc hkb hk hcs hR hK hjL
      by_cases h1 : zo = ow
      · rw [if_pos h1, List.append_nil] at hstep
        have HS := Lib.hid hstep.symm
        clear hstep
        subst h1
        go_wp2
        go_roundw
        case rel => exact ⟨j + 1, n2, c2, A2, K, rfl, hn2, by omega, by omega, by go_num, hown, hz, HS, hb⟩
        case measure => simp [intOf]; omega
      · rw [if_neg h1] at hstep
        have HS := Lib.hid hstep.symm
        have e1 : (zo != ow) = true := by simp [h1]
        have hb3 := ba wr (.cells #[.int .i64 zk, .int .i64 zo, .bool za] 116)
        have hown3 := hown.kept (lbelow_grown hb3 none) (fun r e => by cases e)
        obtain ⟨A5, c5, w5, hrun, hE5, hg5⟩ := rows_more hown3 n2 hn2.out (by omega) (zk, zo, za) wr.heap.size (by have := hb.size; have := hb3.size; omega) (Blk.new wr _ _)
        have hB5 := (bt hb hb3).grown hg5 (by have := hb.size; have := hb3.size; omega) (fun r e => (World.ownsRow.lt hown3 r (by rw [ownBlock_slice]; exact e)).1)
        have Hn5 : Hid (n2 + 1 = (K ++ [(zk, zo, za)]).length) := Lib.hid (by rw [List.length_append, ← hn2.out]; rfl)
        have HE5 := Lib.hid (And.intro hE5 hB5)
        clear hstep hE5 hB5 hown3 hb3 hg5
        go_wp2_with (first
          | (at_builtin; refine wpList_append_run rfl (.tmp 27) (.tmp 35) 28 rfl _ _ _ w5 rfl rfl hrun ?_)
          | go_in)
        go_roundw
        case rel => exact ⟨j + 1, n2 + 1, c5, A5, _, rfl, Hn5, by omega, by omega, by go_num, HE5.out.1, fun e => by simp at e, HS, HE5.out.2⟩
        case measure => simp [intOf]; omega
    · have hjI : ¬ (j : Int) < (n' : Int) := by omega
      have hKK : K = dropL L ow := by rw [hK.out, List.take_of_length_le (by have := HN.out; omega)]
      subst hKK
      have hset := lgrown_set wr ⟨x, of, none⟩ (.slice A2 n2 c2)
      have hR2 := (hown.rows hz).kept hset (fun r e => by cases e; exact .inl hxl)
      have hk2 := hk.set_ of (.slice A2 n2 c2)
      have hG := (lbelow_grown hb (some x)).andThen hset (fun r e => by cases e; exact .inr rfl)
      have f0 := hk.frozen of
      have Hfin := Lib.hid (And.intro (show ∃ v, ROf (wr.setCell ⟨x, of, none⟩ (.slice A2 n2 c2)) B x of tt (cs.setIfInBounds of v) (dropL L ow) from ⟨_, A2, n2, c2, hn2, hk2, set_at hcs, hR2.base hB⟩) hG)
      have HW : IntKind.i64.wrap ((n' : Int) - (n2 : Int)) = (n' : Int) - (n2 : Int) := IntWalk.i64_in _ (by omega)
      have Hn2 : Hid ((n2 : Int) = ((dropL L ow).length : Int)) := Lib.hid (by rw [hn2.out])
      clear hR2 hk2 hG hset hown hz hR hk hcs hn' hK hn2
      go_wp2
      go_ret
      exact ⟨by rw [← Hn2.out]; rfl, Hfin.out⟩
end Go.Proofs.Ytihchfjdgeehoaa
