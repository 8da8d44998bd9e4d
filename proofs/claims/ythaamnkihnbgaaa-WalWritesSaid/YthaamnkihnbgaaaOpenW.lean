/- Layer 3: the laws' arguments, opened: bytes with their capacity, a record, a list of records. -/
import Derived.Test.YthaamnkihnbgaaaOpen
import Derived.Test.YthaamnkihnbgaaaBase2
import Derived.Test.YthaamnkihnbgaaaProg
import Derived.Lib.SmallJoins
import Derived.Deep.Slices
namespace Go.Proofs.Ythaamnkihnbgaaa
open Go.RowKit Go.ChangeShapes Go.WideShapes Go.Joins Go.Deep
set_option linter.unusedVariables false

section
variable {H : Type} {enc : TypeId × Value → H} {P : Program} {W : World} {base : Nat} {spare : Nat → Bool} {held : Bool}
theorem bsc_trod {t e : TypeId} {n : Nat} {v : Value} {y : DataW H × List MemPlace} (ht : P.underlying t = some (.slice e)) (he : P.underlying e = some (.int .u8)) (hc : P.cellsOf e = 1)
    (h : DataW.trod enc P W 0 (fun _ => true) true n t [v] = some y) : ∃ A l c, v = .slice A l.length c ∧ Bs W W.heap.size A l ∧ l.length ≤ c ∧ c ≤ 9223372036854775807 := by
  rcases open_ints ht he hc h with ⟨hcs, _⟩ | ⟨x, l, c, zs, hcs, _, hl, hm, hz, _, hcell, hwz⟩
  · simp at hcs
    subst hcs
    exact ⟨none, [], 0, rfl, Bs.nil, by simp, by omega⟩
  · simp at hcs
    subst hcs
    obtain ⟨m, rfl, hm'⟩ := bs_of_ints hl (by simpa using hz) hcell hwz
    exact ⟨_, m, _, rfl, hm', hl, by unfold maxLen at hm; omega⟩
theorem int_trod {t : TypeId} {n : Nat} {v : Value} {y : DataW H × List MemPlace} (ht : P.underlying t = some (.int .i64)) (h : DataW.trod enc P W base spare held n t [v] = some y) :
    ∃ a : Int, v = .int .i64 a ∧ -9223372036854775808 ≤ a ∧ a ≤ 9223372036854775807 := by
  obtain ⟨a, e, _, hw⟩ := DataW.trod_int ht h
  simp at e
  exact ⟨a, e, i64_bd hw⟩
end


section
variable {H : Type} {enc : TypeId × Value → H} {W : World}
theorem open_bsc {r : Reach} {b0 : Nat} {v : Value} {d : DataW H} {p : List MemPlace} (hval : Value.okWide Try.prog W r b0 22 v) (h : DataW.Trod enc Try.prog W 0 (fun _ => true) true 22 v d p) :
    ∃ A l c, v = .slice A (List.length l) c ∧ Bs W W.heap.size A l ∧ l.length ≤ c ∧ c ≤ 9223372036854775807 := by
  obtain ⟨a, len, cap, rfl⟩ := okWide_slice Try.underlying22 hval
  obtain ⟨fuel, hf⟩ := h
  exact bsc_trod Try.underlying22 Try.underlying5 (by kernel_rfl) hf

structure RecV where
  id : Int
  A : Option Addr
  l : List UInt8
  c : Nat
structure RecOk (w : World) (o : RecV) : Prop where
  k1 : -9223372036854775808 ≤ o.id
  k2 : o.id ≤ 9223372036854775807
  bs : Bs w w.heap.size o.A o.l
  len : o.l.length ≤ o.c
  cap : o.c ≤ 9223372036854775807
def RecV.val (o : RecV) : Value := .agg #[.int .i64 o.id, .slice o.A o.l.length o.c]
theorem RecOk.below {w w' : World} {o : RecV} (h : RecOk w o) (hb : Below w.heap.size w w') : RecOk w' o := ⟨h.k1, h.k2, h.bs.bt hb, h.len, h.cap⟩

theorem open_rec {r : Reach} {b0 : Nat} {v : Value} {d : DataW H} {p : List MemPlace} (hval : Value.okWide Try.prog W r b0 24 v) (h : DataW.Trod enc Try.prog W 0 (fun _ => true) true 24 v d p) :
    ∃ o : RecV, v = o.val ∧ RecOk W o := by
  obtain ⟨v0, v1, y0, y1, n, rfl, _, _, h0, h1⟩ := open_agg2 Try.underlying24 (by kernel_rfl) (by kernel_rfl) hval h
  obtain ⟨k, rfl, k1, k2⟩ := int_trod Try.underlying3 h0
  obtain ⟨A, l, c, rfl, hb, hl, hc⟩ := bsc_trod Try.underlying22 Try.underlying5 (by kernel_rfl) h1
  exact ⟨⟨k, A, l, c⟩, rfl, k1, k2, hb, hl, hc⟩
end

/-- a list of records in memory. -/
def RecVsAt (w : World) (A : Option Addr) (vs : List RecV) : Prop :=
  vs.length ≤ maxLen ∧ (∀ o ∈ vs, RecOk w o) ∧ (0 < vs.length → ∃ b o, A = some ⟨b, o, none⟩ ∧ b < w.heap.size ∧ ∀ i, (h : i < vs.length) →
    w.cell? ⟨b, o + i * 2, none⟩ = some (.int .i64 (vs[i]'h).id) ∧ w.cell? ⟨b, o + i * 2 + 1, none⟩ = some (.slice (vs[i]'h).A (vs[i]'h).l.length (vs[i]'h).c))
theorem RecVsAt.below {w w' : World} {A : Option Addr} {vs : List RecV} (h : RecVsAt w A vs) (hb : Below w.heap.size w w') : RecVsAt w' A vs := by
  refine ⟨h.1, fun o ho => (h.2.1 o ho).below hb, fun hl => ?_⟩
  obtain ⟨b, o, rfl, hlt, hc⟩ := h.2.2 hl
  refine ⟨b, o, rfl, Nat.lt_of_lt_of_le hlt hb.size, fun i hi => ?_⟩
  obtain ⟨h1, h2⟩ := hc i hi
  exact ⟨(hb.cell (p := ⟨b, _, none⟩) hlt).trans h1, (hb.cell (p := ⟨b, _, none⟩) hlt).trans h2⟩
theorem add_spot {w : World} {a : Addr} {v : Value} (h : w.cell? a = some v) : ∃ b o, a = ⟨b, o, none⟩ ∧ b < w.heap.size := by
  have hs := World.cell?_spot h
  have hl := World.block_lt_of_cell? _ _ h
  obtain ⟨b, o, s⟩ := a
  simp only at hs hl
  subst hs
  exact ⟨b, o, rfl, hl⟩

section
variable {H : Type} {enc : TypeId × Value → H} {W : World}
theorem open_recs {r : Reach} {b0 : Nat} {v : Value} {d : DataW H} {p : List MemPlace} (hval : Value.okWide Try.prog W r b0 30 v) (h : DataW.Trod enc Try.prog W 0 (fun _ => true) true 30 v d p) :
    ∃ A ops c, v = .slice A (List.length ops) c ∧ RecVsAt W A ops ∧ ops.length ≤ c ∧ c ≤ 9223372036854775807 := by
  obtain ⟨a, len, cap, rfl⟩ := okWide_slice Try.underlying30 hval
  obtain ⟨fuel, hf⟩ := h
  have hC : Try.prog.cellsOf 24 = 2 := by kernel_rfl
  rcases open_slice Try.underlying30 hf with ⟨hcs, _⟩ | ⟨x, l, c, m, n, D, Pl, hcs, _, hl, hm, hmm, _, hi⟩
  · simp [Value.cells] at hcs
    obtain ⟨rfl, rfl, rfl⟩ := hcs
    exact ⟨none, [], 0, rfl, ⟨by simp [maxLen], by simp, fun h => absurd h (by simp)⟩, by simp, by omega⟩
  · simp [Value.cells] at hcs
    obtain ⟨rfl, rfl, rfl⟩ := hcs
    simp only [if_true] at hmm
    subst hmm
    have each : ∀ i, i < m → ∃ o : RecV, RecOk W o ∧ W.cell? (x.add (i * 2)) = some (.int .i64 o.id) ∧ W.cell? ((x.add (i * 2)).add 1) = some (.slice o.A o.l.length o.c) := by
      intro i him
      obtain ⟨cs', hc, ht⟩ := hi i him
      rw [hC] at hc
      obtain ⟨_, hcl, hat⟩ := World.cells?_some hc
      obtain ⟨xs, n', _, _, _, hxl, hf'⟩ := DataW.trod_struct Try.underlying24 ht
      match cs', hcl with
      | [c0, c1], _ =>
        match xs, hxl with
        | [y0, y1], _ =>
          have g0 := hf' 0 _ rfl
          have g1 := hf' 1 _ rfl
          have e3 : Try.prog.cellsOf 3 = 1 := by kernel_rfl
          have e30 : Try.prog.cellsOf 22 = 1 := by kernel_rfl
          simp [e3, e30] at g0 g1
          obtain ⟨k, rfl, k1, k2⟩ := int_trod Try.underlying3 g0
          obtain ⟨A, l, c, rfl, hb, hl', hc'⟩ := bsc_trod Try.underlying22 Try.underlying5 (by kernel_rfl) g1
          have a0 := hat 0 (by omega)
          have a1 := hat 1 (by omega)
          have ez : (x.add (i * 2)).add 0 = x.add (i * 2) := by simp [Addr.add]
          rw [ez] at a0
          exact ⟨⟨k, A, l, c⟩, ⟨k1, k2, hb, hl', hc'⟩, a0, a1⟩
    let f : Nat → RecV := fun i => if h : i < m then (each i h).choose else ⟨0, none, [], 0⟩
    have hf1 : ∀ i, (h : i < m) → RecOk W (f i) ∧ W.cell? (x.add (i * 2)) = some (.int .i64 (f i).id) ∧ W.cell? ((x.add (i * 2)).add 1) = some (.slice (f i).A (f i).l.length (f i).c) := by
      intro i h
      have := (each i h).choose_spec
      simp only [f, dif_pos h]
      exact this
    refine ⟨some x, (List.range len).map f, m, by simp, ⟨by simp; omega, fun o ho => ?_, fun hpos => ?_⟩, by simp; omega, by unfold maxLen at *; omega⟩
    · obtain ⟨i, hi', rfl⟩ := List.mem_map.1 ho
      exact (hf1 i (by have := List.mem_range.1 hi'; omega)).1
    · have hpos' : 0 < len := by simpa using hpos
      have h00 := (hf1 0 (by omega)).2.1
      have ez : x.add (0 * 2) = x := by simp [Addr.add]
      rw [ez] at h00
      obtain ⟨b, o, rfl, hlt⟩ := add_spot h00
      refine ⟨b, o, rfl, hlt, fun i hi' => ?_⟩
      have hi2 : i < len := by simpa using hi'
      have := (hf1 i (by omega)).2
      simp only [Addr.add_lit] at this
      simpa using this
end
end Go.Proofs.Ythaamnkihnbgaaa
