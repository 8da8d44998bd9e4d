/- Layer 2: the laws' arguments, opened: an Op, a list of Ops. -/
import Derived.Test.YtpkplgnpbddcjaaOpen
import Derived.Test.YtpkplgnpbddcjaaBase2
import Derived.Test.YtpkplgnpbddcjaaProg
import Derived.Lib.SmallJoins
import Derived.Deep.Slices
namespace Go.Proofs.Ytpkplgnpbddcjaa
open Go.RowKit Go.ChangeShapes Go.WideShapes Go.Joins Go.Deep
set_option linter.unusedVariables false

structure OpV where
  k : Int
  n : Int
  A : Option Addr
  b : List UInt8
  c : Nat

/-- The values of an Op: its bytes lie in memory. -/
structure OpOk (w : World) (o : OpV) : Prop where
  k1 : -9223372036854775808 ≤ o.k
  k2 : o.k ≤ 9223372036854775807
  n1 : -9223372036854775808 ≤ o.n
  n2 : o.n ≤ 9223372036854775807
  bs : Bs w w.heap.size o.A o.b
  len : o.b.length ≤ maxLen

def OpV.val (o : OpV) : Value := .agg #[.int .i64 o.k, .int .i64 o.n, .slice o.A o.b.length o.c]

section
variable {H : Type} {enc : TypeId × Value → H} {P : Program} {W : World} {base : Nat} {spare : Nat → Bool} {held : Bool}
theorem bs_trod {t e : TypeId} {n : Nat} {v : Value} {y : DataW H × List MemPlace} (ht : P.underlying t = some (.slice e)) (he : P.underlying e = some (.int .u8)) (hc : P.cellsOf e = 1)
    (h : DataW.trod enc P W 0 (fun _ => true) true n t [v] = some y) : ∃ A l c, v = .slice A l.length c ∧ Bs W W.heap.size A l ∧ l.length ≤ maxLen := by
  rcases open_ints ht he hc h with ⟨hcs, _⟩ | ⟨x, l, c, zs, hcs, _, hl, hm, hz, _, hcell, hwz⟩
  · simp at hcs
    subst hcs
    exact ⟨none, [], 0, rfl, Bs.nil, by simp⟩
  · simp at hcs
    subst hcs
    obtain ⟨m, rfl, hm'⟩ := bs_of_ints hl (by simpa using hz) hcell hwz
    exact ⟨_, m, _, rfl, hm', by omega⟩
theorem int_trod {t : TypeId} {n : Nat} {v : Value} {y : DataW H × List MemPlace} (ht : P.underlying t = some (.int .i64)) (h : DataW.trod enc P W base spare held n t [v] = some y) :
    ∃ a : Int, v = .int .i64 a ∧ -9223372036854775808 ≤ a ∧ a ≤ 9223372036854775807 := by
  obtain ⟨a, e, _, hw⟩ := DataW.trod_int ht h
  simp at e
  exact ⟨a, e, i64_bd hw⟩
end

section
variable {H : Type} {enc : TypeId × Value → H} {W : World}
theorem open_op {r : Reach} {b0 : Nat} {v : Value} {d : DataW H} {p : List MemPlace} (hval : Value.okWide Try.prog W r b0 32 v) (h : DataW.Trod enc Try.prog W 0 (fun _ => true) true 32 v d p) :
    ∃ o : OpV, v = o.val ∧ OpOk W o := by
  obtain ⟨v0, v1, v2, y0, y1, y2, n, rfl, _, _, h0, h1, h2⟩ := open_agg3 Try.underlying32 (by kernel_rfl) (by kernel_rfl) hval h
  obtain ⟨k, rfl, k1, k2⟩ := int_trod Try.underlying3 h0
  obtain ⟨m, rfl, n1, n2⟩ := int_trod Try.underlying3 h1
  obtain ⟨A, l, c, rfl, hb, hl⟩ := bs_trod Try.underlying30 Try.underlying5 (by kernel_rfl) h2
  exact ⟨⟨k, m, A, l, c⟩, rfl, k1, k2, n1, n2, hb, hl⟩
end

/-- A list of Ops in memory. -/
def OpsAt (w : World) (A : Option Addr) (ops : List OpV) : Prop :=
  ops.length ≤ maxLen ∧ (∀ o ∈ ops, OpOk w o) ∧ (0 < ops.length → ∃ b o, A = some ⟨b, o, none⟩ ∧ b < w.heap.size ∧ ∀ i, (h : i < ops.length) →
    w.cell? ⟨b, o + i * 3, none⟩ = some (.int .i64 (ops[i]'h).k) ∧ w.cell? ⟨b, o + i * 3 + 1, none⟩ = some (.int .i64 (ops[i]'h).n) ∧
    w.cell? ⟨b, o + i * 3 + 2, none⟩ = some (.slice (ops[i]'h).A (ops[i]'h).b.length (ops[i]'h).c))

theorem OpOk.below {w w' : World} {o : OpV} (h : OpOk w o) (hb : Below w.heap.size w w') : OpOk w' o := ⟨h.k1, h.k2, h.n1, h.n2, h.bs.bt hb, h.len⟩
theorem OpsAt.below {w w' : World} {A : Option Addr} {ops : List OpV} (h : OpsAt w A ops) (hb : Below w.heap.size w w') : OpsAt w' A ops := by
  refine ⟨h.1, fun o ho => (h.2.1 o ho).below hb, fun hl => ?_⟩
  obtain ⟨b, o, rfl, hlt, hc⟩ := h.2.2 hl
  refine ⟨b, o, rfl, Nat.lt_of_lt_of_le hlt hb.size, fun i hi => ?_⟩
  obtain ⟨h1, h2, h3⟩ := hc i hi
  exact ⟨(hb.cell (p := ⟨b, _, none⟩) hlt).trans h1, (hb.cell (p := ⟨b, _, none⟩) hlt).trans h2, (hb.cell (p := ⟨b, _, none⟩) hlt).trans h3⟩

theorem add_spot {w : World} {a : Addr} {v : Value} (h : w.cell? a = some v) : ∃ b o, a = ⟨b, o, none⟩ ∧ b < w.heap.size := by
  have hs := World.cell?_spot h
  have hl := World.block_lt_of_cell? _ _ h
  obtain ⟨b, o, s⟩ := a
  simp only at hs hl
  subst hs
  exact ⟨b, o, rfl, hl⟩

section
variable {H : Type} {enc : TypeId × Value → H} {W : World}
theorem open_ops {r : Reach} {b0 : Nat} {v : Value} {d : DataW H} {p : List MemPlace} (hval : Value.okWide Try.prog W r b0 22 v) (h : DataW.Trod enc Try.prog W 0 (fun _ => true) true 22 v d p) :
    ∃ A ops c, v = .slice A (List.length ops) c ∧ OpsAt W A ops := by
  obtain ⟨a, len, cap, rfl⟩ := okWide_slice Try.underlying22 hval
  obtain ⟨fuel, hf⟩ := h
  have hC : Try.prog.cellsOf 32 = 3 := by kernel_rfl
  rcases open_slice Try.underlying22 hf with ⟨hcs, _⟩ | ⟨x, l, c, m, n, D, Pl, hcs, _, hl, hm, hmm, _, hi⟩
  · simp [Value.cells] at hcs
    obtain ⟨rfl, rfl, rfl⟩ := hcs
    exact ⟨none, [], 0, rfl, by simp [maxLen], by simp, fun h => absurd h (by simp)⟩
  · simp [Value.cells] at hcs
    obtain ⟨rfl, rfl, rfl⟩ := hcs
    simp only [if_true] at hmm
    subst hmm
    have each : ∀ i, i < m → ∃ o : OpV, OpOk W o ∧ W.cell? (x.add (i * 3)) = some (.int .i64 o.k) ∧ W.cell? ((x.add (i * 3)).add 1) = some (.int .i64 o.n) ∧ W.cell? ((x.add (i * 3)).add 2) = some (.slice o.A o.b.length o.c) := by
      intro i him
      obtain ⟨cs', hc, ht⟩ := hi i him
      rw [hC] at hc
      obtain ⟨_, hcl, hat⟩ := World.cells?_some hc
      obtain ⟨xs, n', _, _, _, hxl, hf'⟩ := DataW.trod_struct Try.underlying32 ht
      match cs', hcl with
      | [c0, c1, c2], _ =>
        match xs, hxl with
        | [y0, y1, y2], _ =>
          have g0 := hf' 0 _ rfl
          have g1 := hf' 1 _ rfl
          have g2 := hf' 2 _ rfl
          have e3 : Try.prog.cellsOf 3 = 1 := by kernel_rfl
          have e30 : Try.prog.cellsOf 30 = 1 := by kernel_rfl
          simp [e3, e30] at g0 g1 g2
          obtain ⟨k, rfl, k1, k2⟩ := int_trod Try.underlying3 g0
          obtain ⟨q, rfl, n1, n2⟩ := int_trod Try.underlying3 g1
          obtain ⟨A, l, c, rfl, hb, hl'⟩ := bs_trod Try.underlying30 Try.underlying5 (by kernel_rfl) g2
          have a0 := hat 0 (by omega)
          have a1 := hat 1 (by omega)
          have a2 := hat 2 (by omega)
          have ez : (x.add (i * 3)).add 0 = x.add (i * 3) := by simp [Addr.add]
          rw [ez] at a0
          exact ⟨⟨k, q, A, l, c⟩, ⟨k1, k2, n1, n2, hb, hl'⟩, a0, a1, a2⟩
    let f : Nat → OpV := fun i => if h : i < m then (each i h).choose else ⟨0, 0, none, [], 0⟩
    have hf1 : ∀ i, (h : i < m) → OpOk W (f i) ∧ W.cell? (x.add (i * 3)) = some (.int .i64 (f i).k) ∧ W.cell? ((x.add (i * 3)).add 1) = some (.int .i64 (f i).n) ∧ W.cell? ((x.add (i * 3)).add 2) = some (.slice (f i).A (f i).b.length (f i).c) := by
      intro i h
      have := (each i h).choose_spec
      simp only [f, dif_pos h]
      exact this
    refine ⟨some x, (List.range len).map f, m, by simp, ⟨by simp; omega, fun o ho => ?_, fun hpos => ?_⟩⟩
    · obtain ⟨i, hi', rfl⟩ := List.mem_map.1 ho
      exact (hf1 i (by have := List.mem_range.1 hi'; omega)).1
    · have hpos' : 0 < len := by simpa using hpos
      have h00 := (hf1 0 (by omega)).2.1
      have ez : x.add (0 * 3) = x := by simp [Addr.add]
      rw [ez] at h00
      obtain ⟨b, o, rfl, hlt⟩ := add_spot h00
      refine ⟨b, o, rfl, hlt, fun i hi' => ?_⟩
      have hi2 : i < len := by simpa using hi'
      have := (hf1 i (by omega)).2
      simp only [Addr.add_lit] at this
      simpa using this
end
end Go.Proofs.Ytpkplgnpbddcjaa
