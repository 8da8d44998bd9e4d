/- Parts Q22 of one proof. -/
import Derived.Test.YtlliaihmfimdoaaMg20
import Derived.BigQuiet
namespace Go.Proofs.Ytlliaihmfimdoaa.Qu
open Go.RowKit Go.Maps Go.Deep
set_option linter.unusedVariables false
set_option linter.unusedSimpArgs false

theorem QOk.zero (B : Nat → Prop) : QOk (QS.zero B) := ⟨Nat.zero_le _, Int.le_refl _, by show (0 : Int) + 1 + ((0 : Nat) : Int) ≤ 4611686018427387904; decide⟩
theorem small_ok (x : Int) (h1 : -1000 ≤ x) (h2 : x ≤ 1000) : i64ok x := by unfold i64ok; omega
theorem aliveM : ∃ S1 S2 S3 S4 S5 S6, putM (QS.zero anyB) 1 7 = (0, S1) ∧ commitM S1 1 = (0, S2) ∧ takeM S2 2 = ((7, 0), S3) ∧ takeM S3 3 = ((0, 120), S4) ∧ backM S4 2 = (0, S5) ∧ takeM S5 3 = ((7, 0), S6) ∧ S6.g = 1 :=
  ⟨_, _, _, _, _, _, rfl, rfl, rfl, rfl, rfl, rfl, rfl⟩
theorem putsL_step (l : List Ch) (i : Nat) (h : i < l.length) : putsL (l.take (i + 1)) = putsL (l.take i) + (if (l[i]'h).k = 3 then 1 else 0) := by
  have e2 : l.take (i + 1) = l.take i ++ [l[i]'h] := by rw [List.take_add_one, List.getElem?_eq_getElem h]; rfl
  rw [e2, putsL_snoc]
def longB (o : OpV) : Bool := decide (40 < o.l.length) || decide (40 < o.vs.length)
end Go.Proofs.Ytlliaihmfimdoaa.Qu
