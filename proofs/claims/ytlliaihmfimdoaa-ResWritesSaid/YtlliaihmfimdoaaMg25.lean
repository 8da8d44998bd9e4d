/- Parts Bl2 Sk Sl Sm of one proof. -/
import Derived.Test.YtlliaihmfimdoaaMg12
import Derived.Test.YtlliaihmfimdoaaMg24
import Derived.BigQuiet
namespace Go.Proofs.Ytlliaihmfimdoaa
open Go.RowKit Go.Maps
set_option linter.unusedVariables false
set_option linter.unusedSimpArgs false

end Go.Proofs.Ytlliaihmfimdoaa

namespace Go.Proofs.Ytlliaihmfimdoaa.Re
open Go.RowKit Go.Maps Go.Deep Go.Proofs.Ytlliaihmfimdoaa
set_option linter.unusedVariables false
set_option linter.unusedSimpArgs false

def isK (c : Ch) : Bool := decide (1 ≤ c.k) && decide (c.k ≤ 2)
def posC (p : Ch → Bool) (l : List Ch) : Nat := l.findIdx p
def posD (p : Ch → Bool) (l : List Ch) : Int := if posC p l < l.length then (posC p l : Nat) else -1
def notK (c : Ch) : Bool := !isK c
end Go.Proofs.Ytlliaihmfimdoaa.Re

namespace Go.Proofs.Ytlliaihmfimdoaa.Re
open Go.RowKit Go.Maps Go.Deep Go.Proofs.Ytlliaihmfimdoaa
set_option linter.unusedVariables false
set_option linter.unusedSimpArgs false

theorem posD_any (l : List Ch) (p : Ch → Bool) : decide (0 ≤ posD p l) = l.any p := by
  unfold posD posC
  by_cases h : l.findIdx p < l.length
  · rw [if_pos h]
    have := List.findIdx_lt_length.1 h
    rw [List.any_eq_true.2 (by obtain ⟨x, hx, hp⟩ := this; exact ⟨x, hx, hp⟩)]
    simp
  · rw [if_neg h]
    have : l.any p = false := by
      rw [List.any_eq_false]
      intro x hx hp
      exact h (List.findIdx_lt_length.2 ⟨x, hx, hp⟩)
    rw [this]; rfl
/-- Where the changes of keys that stand ahead end. -/
def endK (l : List Ch) : Nat := posC notK l
theorem endK_le (l : List Ch) : endK l ≤ l.length := List.findIdx_le_length
def shiftA (A : Option Addr) (m : Nat) : Option Addr := A.map fun a => ⟨a.block, a.off + m * 3, a.spot⟩
theorem inl_take {u : World} {A : Option Addr} {l : List Ch} (h : InL u A l) (m : Nat) : InL u A (l.take m) := fun hl => by
  rw [List.length_take] at hl
  obtain ⟨b, o, e, hb, hc⟩ := h (by omega)
  refine ⟨b, o, e, hb, fun i hi => ?_⟩
  rw [List.length_take] at hi
  rw [List.getElem_take]
  exact hc i (by omega)
theorem inl_drop {u : World} {A : Option Addr} {l : List Ch} (h : InL u A l) (m : Nat) : InL u (shiftA A m) (l.drop m) := fun hl => by
  rw [List.length_drop] at hl
  obtain ⟨b, o, rfl, hb, hc⟩ := h (by omega)
  refine ⟨b, o + m * 3, rfl, hb, fun i hi => ?_⟩
  rw [List.length_drop] at hi
  rw [List.getElem_drop]
  have := hc (m + i) (by omega)
  rw [show o + m * 3 + i * 3 = o + (m + i) * 3 by omega]
  exact this
end Go.Proofs.Ytlliaihmfimdoaa.Re

namespace Go.Proofs.Ytlliaihmfimdoaa.Re
open Go.RowKit Go.Maps Go.Deep Go.Proofs.Ytlliaihmfimdoaa
set_option linter.unusedVariables false
set_option linter.unusedSimpArgs false

def restoreR (S : RS) (n : Int) (l : List Ch) : Int × RS :=
  if n < 1 then (1, S)
  else if (l.drop (endK l)).any isK = true then (3, S)
  else if (restoreM S.K n (l.take (endK l))).1 ≠ 0 then ((restoreM S.K n (l.take (endK l))).1, { S with K := (restoreM S.K n (l.take (endK l))).2 })
  else if (Qu.restM S.Q n (l.drop (endK l))).1 ≠ 0 then ((Qu.restM S.Q n (l.drop (endK l))).1, ⟨(backoutM (restoreM S.K n (l.take (endK l))).2 n).2, (Qu.restM S.Q n (l.drop (endK l))).2, S.pr⟩)
  else (0, holdR ⟨(restoreM S.K n (l.take (endK l))).2, (Qu.restM S.Q n (l.drop (endK l))).2, S.pr⟩ n l.length)
theorem inl_nil (u : World) (A : Option Addr) : InL u A [] := fun h => by simp at h
end Go.Proofs.Ytlliaihmfimdoaa.Re
