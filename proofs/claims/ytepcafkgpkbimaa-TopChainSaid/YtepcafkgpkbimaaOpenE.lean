/- Through the layers: the law's argument, opened: a list of meetings. -/
import Derived.Test.YtepcafkgpkbimaaOpen
import Derived.Test.YtepcafkgpkbimaaQd
import Derived.Lib.SmallJoins
import Derived.Deep.Slices
namespace Go.Proofs.Ytepcafkgpkbimaa
open Go.RowKit Go.ChangeShapes Go.WideShapes Go.Joins Go.Deep
set_option linter.unusedVariables false

theorem add_spotE {w : World} {a : Addr} {v : Value} (h : w.cell? a = some v) : ∃ b o, a = ⟨b, o, none⟩ ∧ b < w.heap.size := by
  have hs := World.cell?_spot h
  have hl := World.block_lt_of_cell? _ _ h
  obtain ⟨b, o, s⟩ := a
  simp only at hs hl
  subst hs
  exact ⟨b, o, rfl, hl⟩
section
variable {H : Type} {enc : TypeId × Value → H} {P : Program} {W : World} {base : Nat} {spare : Nat → Bool} {held : Bool}
theorem i64_trodE {t : TypeId} {n : Nat} {v : Value} {y : DataW H × List MemPlace} (ht : P.underlying t = some (.int .i64)) (h : DataW.trod enc P W base spare held n t [v] = some y) :
    ∃ a : Int, v = .int .i64 a ∧ -9223372036854775808 ≤ a ∧ a ≤ 9223372036854775807 := by
  obtain ⟨a, e, _, hw⟩ := DataW.trod_int ht h
  simp at e
  exact ⟨a, e, i64_bd hw⟩
theorem u64_trodE {t : TypeId} {n : Nat} {v : Value} {y : DataW H × List MemPlace} (ht : P.underlying t = some (.int .u64)) (h : DataW.trod enc P W base spare held n t [v] = some y) :
    ∃ a : Nat, v = .int .u64 (a : Nat) ∧ a < 18446744073709551616 := by
  obtain ⟨a, e, _, hw⟩ := DataW.trod_int ht h
  simp at e
  obtain ⟨n, rfl, hn⟩ := u64_nat hw
  exact ⟨n, e, hn⟩
theorem u32_trodE {t : TypeId} {n : Nat} {v : Value} {y : DataW H × List MemPlace} (ht : P.underlying t = some (.int .u32)) (h : DataW.trod enc P W base spare held n t [v] = some y) :
    ∃ a : Nat, v = .int .u32 (a : Nat) ∧ a < 4294967296 := by
  obtain ⟨a, e, _, hw⟩ := DataW.trod_int ht h
  simp at e
  obtain ⟨n, rfl, hn⟩ := u32_nat hw
  exact ⟨n, e, hn⟩
theorem bool_trodE {t : TypeId} {n : Nat} {v : Value} {y : DataW H × List MemPlace} (ht : P.underlying t = some .bool) (h : DataW.trod enc P W base spare held n t [v] = some y) :
    ∃ a : Bool, v = .bool a := by
  obtain ⟨a, e, _⟩ := DataW.trod_bool ht h
  simp at e
  exact ⟨a, e⟩
end
section
variable {H : Type} {enc : TypeId × Value → H} {W : World}
theorem open_meets {r : Reach} {b0 : Nat} {v : Value} {d : DataW H} {p : List MemPlace} (hval : Value.okWide Try.prog W r b0 38 v) (h : DataW.Trod enc Try.prog W 0 (fun _ => true) true 38 v d p) :
    ∃ A ops c, v = .slice A (List.length ops) c ∧ MeAt W A ops := by
  obtain ⟨a, len, cap, rfl⟩ := okWide_slice Try.underlying38 hval
  obtain ⟨fuel, hf⟩ := h
  have hC : Try.prog.cellsOf 43 = 3 := by kernel_rfl
  rcases open_slice Try.underlying38 hf with ⟨hcs, _⟩ | ⟨x, l, c, m, n, D, Pl, hcs, _, hl, hm, hmm, _, hi⟩
  · simp [Value.cells] at hcs
    obtain ⟨rfl, rfl, rfl⟩ := hcs
    exact ⟨none, [], 0, rfl, by simp [maxLen], fun h => absurd h (by simp)⟩
  · simp [Value.cells] at hcs
    obtain ⟨rfl, rfl, rfl⟩ := hcs
    simp only [if_true] at hmm
    subst hmm
    have each : ∀ i, i < m → ∃ o : MeV, W.cell? (x.add (i * 3)) = some (.int .i64 o.k) ∧ W.cell? ((x.add (i * 3)).add 1) = some (.int .i64 o.a) ∧ W.cell? ((x.add (i * 3)).add 2) = some (.int .i64 o.b) := by
      intro i him
      obtain ⟨cs', hc, ht⟩ := hi i him
      rw [hC] at hc
      obtain ⟨_, hcl, hat⟩ := World.cells?_some hc
      obtain ⟨xs, n', _, _, _, hxl, hf'⟩ := DataW.trod_struct Try.underlying43 ht
      match cs', hcl with
      | [c0, c1, c2], _ =>
        match xs, hxl with
        | [y0, y1, y2], _ =>
          have g0 := hf' 0 _ rfl
          have g1 := hf' 1 _ rfl
          have g2 := hf' 2 _ rfl
          have e_i64 : Try.prog.cellsOf 3 = 1 := by kernel_rfl
          simp [e_i64] at g0 g1 g2
          obtain ⟨z0, rfl, b0, d0⟩ := i64_trodE Try.underlying3 g0
          obtain ⟨z1, rfl, b1, d1⟩ := i64_trodE Try.underlying3 g1
          obtain ⟨z2, rfl, b2, d2⟩ := i64_trodE Try.underlying3 g2
          have a0 := hat 0 (by omega)
          have a1 := hat 1 (by omega)
          have a2 := hat 2 (by omega)
          have ez : (x.add (i * 3)).add 0 = x.add (i * 3) := by simp [Addr.add]
          rw [ez] at a0
          exact ⟨⟨z0, z1, z2⟩, a0, a1, a2⟩
    let f : Nat → MeV := fun i => if h : i < m then (each i h).choose else ⟨0, 0, 0⟩
    have hf1 : ∀ i, (h : i < m) → W.cell? (x.add (i * 3)) = some (.int .i64 (f i).k) ∧ W.cell? ((x.add (i * 3)).add 1) = some (.int .i64 (f i).a) ∧ W.cell? ((x.add (i * 3)).add 2) = some (.int .i64 (f i).b) := by
      intro i h
      have := (each i h).choose_spec
      simp only [f, dif_pos h]
      exact this
    refine ⟨some x, (List.range len).map f, m, by simp, by simp; omega, fun hpos => ?_⟩
    · have hpos' : 0 < len := by simpa using hpos
      have h00 := (hf1 0 (by omega)).1
      have ez : x.add (0 * 3) = x := by simp [Addr.add]
      rw [ez] at h00
      obtain ⟨b, o, rfl, hlt⟩ := add_spotE h00
      refine ⟨b, o, rfl, hlt, fun i hi' => ?_⟩
      have hi2 : i < len := by simpa using hi'
      have := (hf1 i (by omega))
      simp only [Addr.add_lit] at this
      simpa using this
end
end Go.Proofs.Ytepcafkgpkbimaa
