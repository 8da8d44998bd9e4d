/- Layer 10: the document's Do of any conversation. -/
import Derived.Test.YtfhfbekphmnbgaaDoorWa
import Derived.Test.YtfhfbekphmnbgaaDoorVzf
import Derived.Test.YtfhfbekphmnbgaaDoorVzt
namespace Go.Proofs.YtfhfbekphmnbgaaDoor
open Go.RowKit
set_option linter.unusedVariables false
set_option linter.unusedSimpArgs false

theorem refdo_any (l s0 : Int) (w0 : Bool) (s1 : Int) (w1 : Bool) (t : Int) (side verb : Int) (w : World) : Calls Tryd.prog 18 #[.agg #[.int .i64 l, .int .i64 s0, .int .i64 s1, .bool w0, .bool w1, .int .i64 t], .int .i64 side, .int .i64 verb] w fun e w' => e = .returned (.tuple #[rv (doM (l, s0, w0, s1, w1, t) side verb).1, .int .i64 (doM (l, s0, w0, s1, w1, t) side verb).2]) ∧ Below w.heap.size w w' := by
  rcases hb : (rightM (l, s0, w0, s1, w1, t) && sdM side) with _ | _
  · exact refdo_bad l s0 w0 s1 w1 t side verb w hb
  · have hR : rightM (l, s0, w0, s1, w1, t) = true := by revert hb; cases rightM (l, s0, w0, s1, w1, t) <;> simp
    have hS : sdM side = true := by revert hb; cases sdM side <;> simp
    have hsd : side = 0 ∨ side = 1 := by simpa [sdM] using hS
    by_cases hv : 1 ≤ verb ∧ verb ≤ 13
    · rw [← refDo_eq]
      rcases hsd with rfl | rfl
      · cases w0
        · have e2 : refDoM (l, s0, false, s1, w1, t) 0 verb = rowsDo (l, s0, false, s1, w1, t) false verb allRows := by
            unfold refDoM; rw [if_pos hb, if_pos hv, rows_all]; rfl
          rw [e2]
          exact refdo_go_f l s0 w1 s1 t verb w hR hv.1 hv.2
        · have e2 : refDoM (l, s0, true, s1, w1, t) 0 verb = (zeroC, 7) := by
            unfold refDoM; rw [if_pos hb, if_pos hv]; rfl
          rw [e2]
          exact refdo_wait_f l s0 w1 s1 t verb w hR hv.1 hv.2
      · cases w1
        · have e2 : refDoM (l, s0, w0, s1, false, t) 1 verb = rowsDo (l, s0, w0, s1, false, t) true verb allRows := by
            unfold refDoM; rw [if_pos hb, if_pos hv, rows_all]; rfl
          rw [e2]
          exact refdo_go_t l s0 w0 s1 t verb w hR hv.1 hv.2
        · have e2 : refDoM (l, s0, w0, s1, true, t) 1 verb = (zeroC, 7) := by
            unfold refDoM; rw [if_pos hb, if_pos hv]; rfl
          rw [e2]
          exact refdo_wait_t l s0 w0 s1 t verb w hR hv.1 hv.2
    · exact refdo_verb l s0 w0 s1 w1 t side verb w hR hS hv
end Go.Proofs.YtfhfbekphmnbgaaDoor
