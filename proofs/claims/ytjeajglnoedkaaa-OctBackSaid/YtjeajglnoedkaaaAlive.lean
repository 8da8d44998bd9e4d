/- The fixed calls of the laws of layer 1 come out as the document says. -/
import Derived.Test.YtjeajglnoedkaaaBase2
import Derived.Test.YtjeajglnoedkaaaPut
import Derived.Test.YtjeajglnoedkaaaSum
import Derived.Test.YtjeajglnoedkaaaHex
import Derived.Lib.SlBytesConst
namespace Go.Proofs.Ytjeajglnoedkaaa
open Go.RowKit
set_option linter.unusedVariables false


theorem put_258 (w : World) : Calls Try.prog 12 #[.int .u64 258, .int .i64 2] w (OutB w ([1, 2], 0)) := put_any 258 2 w (by omega)
theorem put_256 (w : World) : Calls Try.prog 12 #[.int .u64 256, .int .i64 1] w (OutB w ([], 10)) := put_any 256 1 w (by omega)

theorem sum_abc (A : Option Addr) (c : Nat) (w : World) (h : Bs w w.heap.size A [97, 98, 99]) : Calls Try.prog 23 #[.slice A 3 c] w fun e w' => e = .returned (.int .u32 38600999) ∧ w = w' := by
  have := sum_any A [97, 98, 99] c w (by simp) h
  rw [show sumR [97, 98, 99] = 38600999 by decide] at this
  exact this
theorem hex_10 (A : Option Addr) (c : Nat) (w : World) (h : Bs w w.heap.size A [10]) : Calls Try.prog 29 #[.slice A 1 c] w fun e w' => e = .returned (.string ⟨#[48, 97]⟩) ∧ Below w.heap.size w w' := by
  have := hex_any A [10] c w (by simp) h
  rw [show hexL [10] = [48, 97] by decide] at this
  exact this

set_option maxHeartbeats 1000000 in
theorem alive_any (w : World) : Calls Try.prog 16 #[] w fun e w' => e = .returned (.bool true) ∧ Below w.heap.size w w' := by
  go_enter Try.func16, Try.ntmps16
  go_wp2_with fail
  refine (put_258 _).mono ?_
  rintro e w1 ⟨A1, c1, rfl, ho1, hb1⟩
  go_wp2_with fail
  refine (put_256 _).mono ?_
  rintro e w2 ⟨A2, c2, rfl, ho2, hb2⟩
  have hcv : (convert 23 9 (.slice A1 2 c1)).run Try.prog w2 = .ok (.string ⟨#[1, 2]⟩) w2 :=
    conv_bytes (l := [1, 2]) Try.underlying23 Try.underlying5 Try.underlying9 (ho1.below hb2 (Nat.le_refl _)).bs _
  have kc := fun (w : World) (C : Array Value) (n c : Nat) => Lib.run_convert_bytes_const (P := Try.prog) w 23 5 C n c Try.underlying23 Try.underlying5
  go_wp2_with fail
  refine (sum_abc _ _ _ (Bs.lit' (by simp) rfl)).mono ?_
  rintro e w3 ⟨rfl, rfl⟩
  go_wp2_with fail
  refine (hex_10 _ _ _ (Bs.lit' (by simp) rfl)).mono ?_
  rintro e w4 ⟨rfl, hb4⟩
  go_wp2
  go_ret
  exact ⟨rfl, bt hb1 (bt hb2 (bt (ba _ _) (bt (ba _ _) hb4)))⟩
end Go.Proofs.Ytjeajglnoedkaaa
