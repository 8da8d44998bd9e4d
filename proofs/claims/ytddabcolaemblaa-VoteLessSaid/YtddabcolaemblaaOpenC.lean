/- Layer 16: the laws' arguments, opened: a tree, with its kids' capacity. -/
import Derived.Test.YtddabcolaemblaaOpenU
namespace Go.Proofs.Ytddabcolaemblaa
open Go.RowKit Go.ChangeShapes Go.WideShapes Go.Joins Go.Deep
set_option linter.unusedVariables false

section
variable {H : Type} {enc : TypeId × Value → H} {W : World}
theorem kids_cap {fuel : Nat} {v : Value} {y : DataW H × List MemPlace} (h : DataW.trod enc Try.prog W 0 (fun _ => true) true fuel 22 [v] = some y) (A : Option Addr) (n c : Nat) (hv : v = .slice A n c) : n ≤ c := by
  rcases open_slice_pairs Try.underlying22 Try.underlying24 (by kernel_rfl) (by kernel_rfl) (by kernel_rfl) (by kernel_rfl) (by kernel_rfl) h with ⟨hcs, _⟩ | ⟨a, len, cap, m, n', V0, V1, D0, D1, P0, P1, hcs, _, hl, _⟩
  · simp at hcs
    rw [hv] at hcs
    injection hcs with _ h2 h3
    omega
  · simp at hcs
    rw [hv] at hcs
    injection hcs with _ h2 h3
    omega
theorem open_node_c {r : Reach} {b0 : Nat} {v : Value} {d : DataW H} {p : List MemPlace} (hval : Value.okWide Try.prog W r b0 24 v) (h : DataW.Trod enc Try.prog W 0 (fun _ => true) true 24 v d p) :
    ∃ o : NodeV, v = o.val ∧ (NodeOk W o ∧ o.k.len ≤ o.c) := by
  obtain ⟨v0, v1, y0, y1, n, rfl, _, _, h0, h1⟩ := open_agg2 Try.underlying24 (by kernel_rfl) (by kernel_rfl) hval h
  obtain ⟨z, rfl, z1, z2⟩ := int_trodU Try.underlying3 h0
  obtain ⟨A, k, c, e, ht⟩ := kids_trod _ _ (Nat.le_refl _) _ _ _ h1
  have hc := kids_cap h1 A k.len c e
  subst e
  exact ⟨⟨z, A, k, c⟩, rfl, ⟨z1, z2, ht⟩, hc⟩
end
end Go.Proofs.Ytddabcolaemblaa
