/- Through the layers: the fixed calls of the ninth law; a tree that is told. -/
import Derived.Test.YtepcafkgpkbimaaUh
import Derived.Test.YtepcafkgpkbimaaOpenU
import Derived.Test.YtepcafkgpkbimaaNu
import Derived.Test.YtepcafkgpkbimaaQt
namespace Go.Proofs.Ytepcafkgpkbimaa
open Go Go.RowKit
set_option linter.unusedVariables false
set_option linter.unusedSimpArgs false

theorem alive09_any (w : World) : Calls Try.prog 7 #[] w fun e w' => e = .returned (.bool true) ∧ Below w.heap.size w w' := by
  have hc := fun w => commits_ok 1 none .nil 0 0 (Lib.hid rfl) w ⟨by simp [Fo.len], trivial⟩ (by decide) true (by decide)
  have HC := Lib.hid hc
  clear hc
  go_enter Try.func7, Try.ntmps7
  go_wp2_with fail
  refine (check_any 1 0 2 0 false 2 0 (by decide) _).mono ?_
  rintro e w1 ⟨rfl, rfl⟩
  go_wp2_with fail
  refine (learn_any 6 5 4 true 0 rfl _).mono ?_
  rintro e w1 ⟨rfl, rfl⟩
  go_wp2_with fail
  refine (HC.out _).mono ?_
  rintro e w1 ⟨rfl, b1⟩
  go_wp2
  go_ret
  exact ⟨rfl, b1⟩
end Go.Proofs.Ytepcafkgpkbimaa
