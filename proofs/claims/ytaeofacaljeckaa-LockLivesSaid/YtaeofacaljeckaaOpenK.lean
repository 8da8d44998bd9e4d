/- Layer 12: the laws' arguments, opened: an Op, a list of Ops, a list of numbers. -/
import Derived.Test.YtaeofacaljeckaaOpen
import Derived.Test.YtaeofacaljeckaaBase2
import Derived.Test.YtaeofacaljeckaaProg
import Derived.Lib.SmallJoins
import Derived.Deep.Slices
namespace Go.Proofs.Ytaeofacaljeckaa
open Go.RowKit Go.ChangeShapes Go.WideShapes Go.Joins Go.Deep
set_option linter.unusedVariables false

/-- An Op. -/
structure OpV where
  k : Int
  o : Int
  y : Int
  a : Bool
structure OpOk (v : OpV) : Prop where
  k1 : -9223372036854775808 ≤ v.k
  k2 : v.k ≤ 9223372036854775807
  o1 : -9223372036854775808 ≤ v.o
  o2 : v.o ≤ 9223372036854775807
  y1 : -9223372036854775808 ≤ v.y
  y2 : v.y ≤ 9223372036854775807
def OpV.val (v : OpV) : Value := .agg #[.int .i64 v.k, .int .i64 v.o, .int .i64 v.y, .bool v.a]
section
variable {H : Type} {enc : TypeId × Value → H} {P : Program} {W : World} {base : Nat} {spare : Nat → Bool} {held : Bool}
theorem int_trod {t : TypeId} {n : Nat} {v : Value} {y : DataW H × List MemPlace} (ht : P.underlying t = some (.int .i64)) (h : DataW.trod enc P W base spare held n t [v] = some y) :
    ∃ a : Int, v = .int .i64 a ∧ -9223372036854775808 ≤ a ∧ a ≤ 9223372036854775807 := by
  obtain ⟨a, e, _, hw⟩ := DataW.trod_int ht h
  simp at e
  exact ⟨a, e, i64_bd hw⟩
theorem bool_trod {t : TypeId} {n : Nat} {v : Value} {y : DataW H × List MemPlace} (ht : P.underlying t = some .bool) (h : DataW.trod enc P W base spare held n t [v] = some y) :
    ∃ a : Bool, v = .bool a := by
  obtain ⟨a, e, _⟩ := DataW.trod_bool ht h
  simp at e
  exact ⟨a, e⟩
end
section
variable {H : Type} {enc : TypeId × Value → H} {W : World}
theorem open_op {r : Reach} {b0 : Nat} {v : Value} {d : DataW H} {p : List MemPlace} (hval : Value.okWide Try.prog W r b0 30 v) (h : DataW.Trod enc Try.prog W 0 (fun _ => true) true 30 v d p) :
    ∃ o : OpV, v = o.val ∧ OpOk o := by
  obtain ⟨v0, v1, v2, v3, y0, y1, y2, y3, n, rfl, _, _, h0, h1, h2, h3⟩ := open_agg4 Try.underlying30 (by kernel_rfl) (by kernel_rfl) hval h
  obtain ⟨k, rfl, k1, k2⟩ := int_trod Try.underlying3 h0
  obtain ⟨o, rfl, o1, o2⟩ := int_trod Try.underlying3 h1
  obtain ⟨y, rfl, y1, y2⟩ := int_trod Try.underlying3 h2
  obtain ⟨a, rfl⟩ := bool_trod Try.underlying4 h3
  exact ⟨⟨k, o, y, a⟩, rfl, k1, k2, o1, o2, y1, y2⟩
end
/-- A list of Ops in memory. -/
def OpsAt (w : World) (A : Option Addr) (ops : List OpV) : Prop :=
  ops.length ≤ maxLen ∧ (∀ o ∈ ops, OpOk o) ∧ (0 < ops.length → ∃ b o, A = some ⟨b, o, none⟩ ∧ b < w.heap.size ∧ ∀ i, (h : i < ops.length) →
    w.cell? ⟨b, o + i * 4, none⟩ = some (.int .i64 (ops[i]'h).k) ∧ w.cell? ⟨b, o + i * 4 + 1, none⟩ = some (.int .i64 (ops[i]'h).o) ∧
    w.cell? ⟨b, o + i * 4 + 2, none⟩ = some (.int .i64 (ops[i]'h).y) ∧ w.cell? ⟨b, o + i * 4 + 3, none⟩ = some (.bool (ops[i]'h).a))
theorem OpsAt.below {w w' : World} {A : Option Addr} {ops : List OpV} (h : OpsAt w A ops) (hb : Below w.heap.size w w') : OpsAt w' A ops := by
  refine ⟨h.1, h.2.1, fun hl => ?_⟩
  obtain ⟨b, o, rfl, hlt, hc⟩ := h.2.2 hl
  refine ⟨b, o, rfl, Nat.lt_of_lt_of_le hlt hb.size, fun i hi => ?_⟩
  obtain ⟨h1, h2, h3, h4⟩ := hc i hi
  exact ⟨(hb.cell (p := ⟨b, _, none⟩) hlt).trans h1, (hb.cell (p := ⟨b, _, none⟩) hlt).trans h2, (hb.cell (p := ⟨b, _, none⟩) hlt).trans h3, (hb.cell (p := ⟨b, _, none⟩) hlt).trans h4⟩
theorem add_spot {w : World} {a : Addr} {v : Value} (h : w.cell? a = some v) : ∃ b o, a = ⟨b, o, none⟩ ∧ b < w.heap.size := by
  have hs := World.cell?_spot h
  have hl := World.block_lt_of_cell? _ _ h
  obtain ⟨b, o, s⟩ := a
  simp only at hs hl
  subst hs
  exact ⟨b, o, rfl, hl⟩
section
variable {H : Type} {enc : TypeId × Value → H} {W : World}
theorem open_ops {r : Reach} {b0 : Nat} {v : Value} {d : DataW H} {p : List MemPlace} (hval : Value.okWide Try.prog W r b0 22 v) (h : DataW.Trod enc Try.prog W 0 (fun _ => true) true 22 v d p) :
    ∃ A ops c, v = .slice A (List.length ops) c ∧ OpsAt W A ops := by
  obtain ⟨a, len, cap, rfl⟩ := okWide_slice Try.underlying22 hval
  obtain ⟨fuel, hf⟩ := h
  have hC : Try.prog.cellsOf 30 = 4 := by kernel_rfl
  rcases open_slice Try.underlying22 hf with ⟨hcs, _⟩ | ⟨x, l, c, m, n, D, Pl, hcs, _, hl, hm, hmm, _, hi⟩
  · simp [Value.cells] at hcs
    obtain ⟨rfl, rfl, rfl⟩ := hcs
    exact ⟨none, [], 0, rfl, by simp [maxLen], by simp, fun h => absurd h (by simp)⟩
  · simp [Value.cells] at hcs
    obtain ⟨rfl, rfl, rfl⟩ := hcs
    simp only [if_true] at hmm
    subst hmm
    have each : ∀ i, i < m → ∃ o : OpV, OpOk o ∧ W.cell? (x.add (i * 4)) = some (.int .i64 o.k) ∧ W.cell? ((x.add (i * 4)).add 1) = some (.int .i64 o.o) ∧ W.cell? ((x.add (i * 4)).add 2) = some (.int .i64 o.y) ∧ W.cell? ((x.add (i * 4)).add 3) = some (.bool o.a) := by
      intro i him
      obtain ⟨cs', hc, ht⟩ := hi i him
      rw [hC] at hc
      obtain ⟨_, hcl, hat⟩ := World.cells?_some hc
      obtain ⟨xs, n', _, _, _, hxl, hf'⟩ := DataW.trod_struct Try.underlying30 ht
      match cs', hcl with
      | [c0, c1, c2, c3], _ =>
        match xs, hxl with
        | [y0, y1, y2, y3], _ =>
          have g0 := hf' 0 _ rfl
          have g1 := hf' 1 _ rfl
          have g2 := hf' 2 _ rfl
          have g3 := hf' 3 _ rfl
          have e3 : Try.prog.cellsOf 3 = 1 := by kernel_rfl
          have e30 : Try.prog.cellsOf 4 = 1 := by kernel_rfl
          simp [e3, e30] at g0 g1 g2 g3
          obtain ⟨k, rfl, k1, k2⟩ := int_trod Try.underlying3 g0
          obtain ⟨q, rfl, n1, n2⟩ := int_trod Try.underlying3 g1
          obtain ⟨q2, rfl, n3, n4⟩ := int_trod Try.underlying3 g2
          obtain ⟨a, rfl⟩ := bool_trod Try.underlying4 g3
          have a0 := hat 0 (by omega)
          have a1 := hat 1 (by omega)
          have a2 := hat 2 (by omega)
          have a3 := hat 3 (by omega)
          have ez : (x.add (i * 4)).add 0 = x.add (i * 4) := by simp [Addr.add]
          rw [ez] at a0
          exact ⟨⟨k, q, q2, a⟩, ⟨k1, k2, n1, n2, n3, n4⟩, a0, a1, a2, a3⟩
    let f : Nat → OpV := fun i => if h : i < m then (each i h).choose else ⟨0, 0, 0, false⟩
    have hf1 : ∀ i, (h : i < m) → OpOk (f i) ∧ W.cell? (x.add (i * 4)) = some (.int .i64 (f i).k) ∧ W.cell? ((x.add (i * 4)).add 1) = some (.int .i64 (f i).o) ∧ W.cell? ((x.add (i * 4)).add 2) = some (.int .i64 (f i).y) ∧ W.cell? ((x.add (i * 4)).add 3) = some (.bool (f i).a) := by
      intro i h
      have := (each i h).choose_spec
      simp only [f, dif_pos h]
      exact this
    refine ⟨some x, (List.range len).map f, m, by simp, ⟨by simp; omega, fun o ho => ?_, fun hpos => ?_⟩⟩
    · obtain ⟨i, hi', rfl⟩ := List.mem_map.1 ho
      exact (hf1 i (by have := List.mem_range.1 hi'; omega)).1
    · have hpos' : 0 < len := by simpa using hpos
      have h00 := (hf1 0 (by omega)).2.1
      have ez : x.add (0 * 4) = x := by simp [Addr.add]
      rw [ez] at h00
      obtain ⟨b, o, rfl, hlt⟩ := add_spot h00
      refine ⟨b, o, rfl, hlt, fun i hi' => ?_⟩
      have hi2 : i < len := by simpa using hi'
      have := (hf1 i (by omega)).2
      simp only [Addr.add_lit] at this
      simpa using this
/-- A list of numbers in memory. -/
def IsAt (w : World) (A : Option Addr) (zs : List Int) : Prop :=
  (∀ z ∈ zs, -9223372036854775808 ≤ z ∧ z ≤ 9223372036854775807) ∧ (0 < zs.length → ∃ b o, A = some ⟨b, o, none⟩ ∧ b < w.heap.size ∧ ∀ i, (h : i < zs.length) → w.cell? ⟨b, o + i, none⟩ = some (.int .i64 (zs[i]'h)))
theorem IsAt.below {w w' : World} {A : Option Addr} {zs : List Int} (h : IsAt w A zs) (hb : Below w.heap.size w w') : IsAt w' A zs := ⟨h.1, fun hp => by
  obtain ⟨b, o, rfl, hlt, hc⟩ := h.2 hp
  exact ⟨b, o, rfl, Nat.lt_of_lt_of_le hlt hb.size, fun i hi => (hb.cell (p := ⟨b, _, none⟩) hlt).trans (hc i hi)⟩⟩
theorem open_is {r : Reach} {b0 : Nat} {v : Value} {d : DataW H} {p : List MemPlace} (hval : Value.okWide Try.prog W r b0 39 v) (h : DataW.Trod enc Try.prog W 0 (fun _ => true) true 39 v d p) :
    ∃ A zs c, v = .slice A (List.length zs) c ∧ IsAt W A zs ∧ zs.length ≤ maxLen := by
  obtain ⟨a, len, cap, rfl⟩ := okWide_slice Try.underlying39 hval
  obtain ⟨fuel, hf⟩ := h
  rcases open_ints Try.underlying39 Try.underlying3 (by kernel_rfl) hf with ⟨hcs, _⟩ | ⟨x, l, c, zs, hcs, _, hl, hm, hz, _, hcell, hwz⟩
  · simp [Value.cells] at hcs
    obtain ⟨rfl, rfl, rfl⟩ := hcs
    exact ⟨none, [], 0, rfl, ⟨by simp, fun h => absurd h (by simp)⟩, by simp [maxLen]⟩
  · simp [Value.cells] at hcs
    obtain ⟨rfl, rfl, rfl⟩ := hcs
    simp at hz
    refine ⟨some x, zs.take len, cap, by simp; omega, ⟨fun z hzz => i64_bd (hwz z (List.mem_of_mem_take hzz)), fun hn => ?_⟩, by simp; omega⟩
    have hn' : 0 < len := by simp at hn; omega
    have h0 := hcell 0 (by omega)
    obtain ⟨b, o, e0, hlt⟩ := add_spot h0
    obtain ⟨xb, xo, xs⟩ := x
    simp [Addr.add] at e0
    obtain ⟨rfl, e1, e2⟩ := e0
    subst e2
    refine ⟨xb, xo, rfl, hlt, fun i hi => ?_⟩
    have hi' : i < len := by simp at hi; omega
    have hci := hcell i (by omega)
    rw [Addr.add_lit] at hci
    rw [hci]
    simp [List.getD, List.getElem?_eq_getElem (show i < zs.length by omega)]
end
end Go.Proofs.Ytaeofacaljeckaa
