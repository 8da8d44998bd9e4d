/- Numbers that come in. -/
import Derived.Test.YtkhnhidckiopnaaOpenS
namespace Go.Proofs.Ytkhnhidckiopnaa
open Go.RowKit Go.ChangeShapes Go.WideShapes Go.Joins Go.Deep
set_option linter.unusedVariables false

/-- Numbers in memory. -/
def IsAt (w : World) (A : Option Addr) (zs : List Int) : Prop :=
  (∀ z ∈ zs, -9223372036854775808 ≤ z ∧ z ≤ 9223372036854775807) ∧ (0 < zs.length → ∃ b o, A = some ⟨b, o, none⟩ ∧ b < w.heap.size ∧ ∀ i, (h : i < zs.length) → w.cell? ⟨b, o + i, none⟩ = some (.int .i64 (zs[i]'h)))
theorem IsAt.below {w w' : World} {A : Option Addr} {zs : List Int} (h : IsAt w A zs) (hb : Below w.heap.size w w') : IsAt w' A zs := by
  refine ⟨h.1, fun hl => ?_⟩
  obtain ⟨b, o, rfl, hlt, hc⟩ := h.2 hl
  exact ⟨b, o, rfl, Nat.lt_of_lt_of_le hlt hb.size, fun i hi => (hb.cell (p := ⟨b, _, none⟩) hlt).trans (hc i hi)⟩
section
variable {H : Type} {enc : TypeId × Value → H} {W : World}
theorem open_is {r : Reach} {b0 : Nat} {v : Value} {d : DataW H} {p : List MemPlace} (hval : Value.okWide Try.prog W r b0 67 v) (h : DataW.Trod enc Try.prog W 0 (fun _ => true) true 67 v d p) :
    ∃ A zs c, v = .slice A (List.length zs) c ∧ IsAt W A zs ∧ zs.length ≤ maxLen := by
  obtain ⟨a, len, cap, rfl⟩ := okWide_slice Try.underlying67 hval
  obtain ⟨fuel, hf⟩ := h
  rcases open_ints Try.underlying67 Try.underlying3 (by kernel_rfl) hf with ⟨hcs, _⟩ | ⟨x, l, c, zs, hcs, _, hl, hm, hz, _, hcell, hwz⟩
  · simp [Value.cells] at hcs
    obtain ⟨rfl, rfl, rfl⟩ := hcs
    exact ⟨none, [], 0, rfl, ⟨by simp, fun h => absurd h (by simp)⟩, by simp [maxLen]⟩
  · simp [Value.cells] at hcs
    obtain ⟨rfl, rfl, rfl⟩ := hcs
    simp at hz
    refine ⟨some x, zs.take len, cap, by simp; omega, ⟨fun z hzz => i64_bd (hwz z (List.mem_of_mem_take hzz)), fun hn => ?_⟩, by simp; omega⟩
    have hn' : 0 < len := by simp at hn; omega
    have h0 := hcell 0 (by omega)
    obtain ⟨b, o, e0, hlt⟩ := add_spot h0
    obtain ⟨xb, xo, xs⟩ := x
    simp [Addr.add] at e0
    obtain ⟨rfl, e1, e2⟩ := e0
    subst e2
    refine ⟨xb, xo, rfl, hlt, fun i hi => ?_⟩
    have hi' : i < len := by simp at hi; omega
    have hci := hcell i (by omega)
    rw [Addr.add_lit] at hci
    rw [hci]
    simp [List.getD, List.getElem?_eq_getElem (show i < zs.length by omega)]
end
end Go.Proofs.Ytkhnhidckiopnaa
