/- Layer 10: the laws' arguments, opened: a list of verbs of sides. -/
import Derived.Test.YtfhfbekphmnbgaaDoorOpen
import Derived.Test.YtfhfbekphmnbgaaDoorBase2
import Derived.Test.YtfhfbekphmnbgaaDoorProg
import Derived.Lib.SmallJoins
import Derived.Deep.Slices
namespace Go.Proofs.YtfhfbekphmnbgaaDoor
open Go.RowKit Go.ChangeShapes Go.WideShapes Go.Joins Go.Deep
set_option linter.unusedVariables false

/-- A list of verbs in memory. -/
def VerbsAt (w : World) (A : Option Addr) (vs : List (Int × Int)) : Prop :=
  vs.length ≤ maxLen ∧ (0 < vs.length → ∃ b o, A = some ⟨b, o, none⟩ ∧ b < w.heap.size ∧ ∀ i, (h : i < vs.length) →
    w.cell? ⟨b, o + i * 2, none⟩ = some (.int .i64 (vs[i]'h).1) ∧ w.cell? ⟨b, o + i * 2 + 1, none⟩ = some (.int .i64 (vs[i]'h).2))
theorem add_spot' {w : World} {a : Addr} {v : Value} (h : w.cell? a = some v) : ∃ b o, a = ⟨b, o, none⟩ ∧ b < w.heap.size := by
  have hs := World.cell?_spot h
  have hl := World.block_lt_of_cell? _ _ h
  obtain ⟨b, o, s⟩ := a
  simp only at hs hl
  subst hs
  exact ⟨b, o, rfl, hl⟩
section
variable {H : Type} {enc : TypeId × Value → H} {P : Program} {W : World} {base : Nat} {spare : Nat → Bool} {held : Bool}
theorem int_trod' {t : TypeId} {n : Nat} {v : Value} {y : DataW H × List MemPlace} (ht : P.underlying t = some (.int .i64)) (h : DataW.trod enc P W base spare held n t [v] = some y) :
    ∃ a : Int, v = .int .i64 a := by
  obtain ⟨a, e, _, hw⟩ := DataW.trod_int ht h
  simp at e
  exact ⟨a, e⟩
end
section
variable {H : Type} {enc : TypeId × Value → H} {W : World}
theorem open_verbs {r : Reach} {b0 : Nat} {v : Value} {d : DataW H} {p : List MemPlace} (hval : Value.okWide Tryd.prog W r b0 44 v) (h : DataW.Trod enc Tryd.prog W 0 (fun _ => true) true 44 v d p) :
    ∃ A vs c, v = .slice A (List.length vs) c ∧ VerbsAt W A vs := by
  obtain ⟨a, len, cap, rfl⟩ := okWide_slice Tryd.underlying44 hval
  obtain ⟨fuel, hf⟩ := h
  have hC : Tryd.prog.cellsOf 46 = 2 := by kernel_rfl
  rcases open_slice Tryd.underlying44 hf with ⟨hcs, _⟩ | ⟨x, l, c, m, n, D, Pl, hcs, _, hl, hm, hmm, _, hi⟩
  · simp [Value.cells] at hcs
    obtain ⟨rfl, rfl, rfl⟩ := hcs
    exact ⟨none, [], 0, rfl, by simp [maxLen], fun h => absurd h (by simp)⟩
  · simp [Value.cells] at hcs
    obtain ⟨rfl, rfl, rfl⟩ := hcs
    simp only [if_true] at hmm
    subst hmm
    have each : ∀ i, i < m → ∃ o : Int × Int, W.cell? (x.add (i * 2)) = some (.int .i64 o.1) ∧ W.cell? ((x.add (i * 2)).add 1) = some (.int .i64 o.2) := by
      intro i him
      obtain ⟨cs', hc, ht⟩ := hi i him
      rw [hC] at hc
      obtain ⟨_, hcl, hat⟩ := World.cells?_some hc
      obtain ⟨xs, n', _, _, _, hxl, hf'⟩ := DataW.trod_struct Tryd.underlying46 ht
      match cs', hcl with
      | [c0, c1], _ =>
        match xs, hxl with
        | [y0, y1], _ =>
          have g0 := hf' 0 _ rfl
          have g1 := hf' 1 _ rfl
          have e3 : Tryd.prog.cellsOf 3 = 1 := by kernel_rfl
          simp [e3] at g0 g1
          obtain ⟨k, rfl⟩ := int_trod' Tryd.underlying3 g0
          obtain ⟨q, rfl⟩ := int_trod' Tryd.underlying3 g1
          have a0 := hat 0 (by omega)
          have a1 := hat 1 (by omega)
          have ez : (x.add (i * 2)).add 0 = x.add (i * 2) := by simp [Addr.add]
          rw [ez] at a0
          exact ⟨(k, q), a0, a1⟩
    let f : Nat → Int × Int := fun i => if h : i < m then (each i h).choose else (0, 0)
    have hf1 : ∀ i, (h : i < m) → W.cell? (x.add (i * 2)) = some (.int .i64 (f i).1) ∧ W.cell? ((x.add (i * 2)).add 1) = some (.int .i64 (f i).2) := by
      intro i h
      have := (each i h).choose_spec
      simp only [f, dif_pos h]
      exact this
    refine ⟨some x, (List.range len).map f, m, by simp, by simp; omega, fun hpos => ?_⟩
    have hpos' : 0 < len := by simpa using hpos
    have h00 := (hf1 0 (by omega)).1
    have ez : x.add (0 * 2) = x := by simp [Addr.add]
    rw [ez] at h00
    obtain ⟨b, o, rfl, hlt⟩ := add_spot' h00
    refine ⟨b, o, rfl, hlt, fun i hi' => ?_⟩
    have hi2 : i < len := by simpa using hi'
    have := hf1 i (by omega)
    simp only [Addr.add_lit] at this
    simpa using this
end
end Go.Proofs.YtfhfbekphmnbgaaDoor
