/- Layer 9: the laws' arguments, opened: a list of texts. -/
import Derived.Test.YtkhnhidckiopnaaOpenF
import Derived.Deep.Slices
namespace Go.Proofs.Ytkhnhidckiopnaa
open Go.RowKit Go.ChangeShapes Go.WideShapes Go.Joins Go.Deep
set_option linter.unusedVariables false

theorem add_spot {w : World} {a : Addr} {v : Value} (h : w.cell? a = some v) : ∃ b o, a = ⟨b, o, none⟩ ∧ b < w.heap.size := by
  have hs := World.cell?_spot h
  have hl := World.block_lt_of_cell? _ _ h
  obtain ⟨b, o, s⟩ := a
  simp only at hs hl
  subst hs
  exact ⟨b, o, rfl, hl⟩


def ListAt (w : World) (B : Nat) (A : Option Addr) (ls : List (List UInt8)) : Prop :=
  0 < ls.length → ∃ b o, A = some ⟨b, o, none⟩ ∧ b < B ∧ ∀ i, (h : i < ls.length) → ∃ Ai ci, w.cell? ⟨b, o + i, none⟩ = some (.slice Ai (ls[i]'h).length ci) ∧ Bs w B Ai (ls[i]'h)
section
variable {H : Type} {enc : TypeId × Value → H} {W : World}
theorem bsc_trod' {n : Nat} {v : Value} {y : DataW H × List MemPlace} (h : DataW.trod enc Try.prog W 0 (fun _ => true) true n 31 [v] = some y) : ∃ A l c, v = .slice A l.length c ∧ Bs W W.heap.size A l ∧ l.length ≤ c ∧ c ≤ 9223372036854775807 := by
  rcases open_ints Try.underlying31 Try.underlying5 (by kernel_rfl) h with ⟨hcs, _⟩ | ⟨x, l, c, zs, hcs, _, hl, hm, hz, _, hcell, hwz⟩
  · simp at hcs
    subst hcs
    exact ⟨none, [], 0, rfl, Bs.nil, by simp, by omega⟩
  · simp at hcs
    subst hcs
    obtain ⟨m, rfl, hm'⟩ := bs_of_ints hl (by simpa using hz) hcell hwz
    exact ⟨_, m, _, rfl, hm', hl, by unfold maxLen at hm; omega⟩
theorem open_lists {r : Reach} {b0 : Nat} {v : Value} {d : DataW H} {p : List MemPlace} (hval : Value.okWide Try.prog W r b0 54 v) (h : DataW.Trod enc Try.prog W 0 (fun _ => true) true 54 v d p) :
    ∃ A ls c, v = .slice A (List.length ls) c ∧ ls.length ≤ maxLen ∧ ListAt W W.heap.size A ls := by
  obtain ⟨a, len, cap, rfl⟩ := okWide_slice Try.underlying54 hval
  obtain ⟨fuel, hf⟩ := h
  have hC : Try.prog.cellsOf 31 = 1 := by kernel_rfl
  rcases open_slice Try.underlying54 hf with ⟨hcs, _⟩ | ⟨x, l, c, m, n, D, Pl, hcs, _, hl, hm, hmm, _, hi⟩
  · simp [Value.cells] at hcs
    obtain ⟨rfl, rfl, rfl⟩ := hcs
    exact ⟨none, [], 0, rfl, by simp, fun h => absurd h (by simp)⟩
  · simp [Value.cells] at hcs
    obtain ⟨rfl, rfl, rfl⟩ := hcs
    simp only [if_true] at hmm
    subst hmm
    have each : ∀ i, i < m → ∃ (l : List UInt8) (A : Option Addr) (c : Nat), W.cell? (x.add i) = some (.slice A l.length c) ∧ Bs W W.heap.size A l := by
      intro i him
      obtain ⟨cs', hc, ht⟩ := hi i him
      rw [hC, Nat.mul_one] at hc
      obtain ⟨_, hcl, hat⟩ := World.cells?_some hc
      match cs', hcl with
      | [c0], _ =>
        obtain ⟨A, l, c, rfl, hb, _, _⟩ := bsc_trod' ht
        have a0 := hat 0 (by omega)
        have ez : (x.add i).add 0 = x.add i := by simp [Addr.add]
        rw [ez] at a0
        exact ⟨l, A, c, a0, hb⟩
    let f : Nat → List UInt8 := fun i => if h : i < m then (each i h).choose else []
    have hf1 : ∀ i, (h : i < m) → ∃ (A : Option Addr) (c : Nat), W.cell? (x.add i) = some (.slice A (f i).length c) ∧ Bs W W.heap.size A (f i) := by
      intro i h
      have := (each i h).choose_spec
      simp only [f, dif_pos h]
      exact this
    refine ⟨some x, (List.range len).map f, m, by simp, by simp; omega, fun hpos => ?_⟩
    have hpos' : 0 < len := by simpa using hpos
    obtain ⟨A0, c0, h00, _⟩ := hf1 0 (by omega)
    have ez : x.add 0 = x := by simp [Addr.add]
    rw [ez] at h00
    obtain ⟨b, o, rfl, hlt⟩ := add_spot h00
    refine ⟨b, o, rfl, hlt, fun i hi' => ?_⟩
    have hi2 : i < len := by simpa using hi'
    obtain ⟨A, c, h1, h2⟩ := hf1 i (by omega)
    simp only [Addr.add_lit] at h1
    refine ⟨A, c, ?_, ?_⟩
    · simpa using h1
    · simpa using h2
end
end Go.Proofs.Ytkhnhidckiopnaa
