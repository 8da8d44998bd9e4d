/- The document's Copy. -/
import Derived.Test.YtpkplgnpbddcjaaBase2
import Derived.Test.YtpkplgnpbddcjaaProg
namespace Go.Proofs.Ytpkplgnpbddcjaa
open Go.RowKit
set_option linter.unusedVariables false

theorem Try.infoU8c : (Try.prog.info? 5).map (fun i => (i.zero, i.size, i.bytes)) = some (some (.int .u8 0), 1, 1) := by kernel_rfl

set_option maxHeartbeats 400000 in
theorem copy_any (A : Option Addr) (l : List UInt8) (c : Nat) (w : World) (hm : l.length ≤ 140737488355328) (h : Bs w w.heap.size A l) :
    Calls Try.prog 17 #[.slice A l.length c] w fun e w' => ∃ A2 c2, e = .returned (.slice A2 l.length c2) ∧ Own w' w.heap.size 5 A2 c2 l ∧ Below w.heap.size w w' := by
  obtain ⟨i0, hi, hz0, hz1, hz2⟩ := info_parts Try.infoU8c
  go_enter Try.func17, Try.ntmps17
  go_wp2_with (at_builtin; refine wpList_append_nil _ rfl (.tmp 4) (.tmp 5) 30 rfl w.heap.size 5 i0 _ Try.underlying30 hi hz0 hz1 hz2 rfl rfl w.heap.size A c l l.length rfl rfl h hm (Nat.le_refl _) ?_; intro A1 c1 w1 ho1 hb1)
  go_ret
  exact ⟨A1, c1, rfl, ho1, hb1⟩
end Go.Proofs.Ytpkplgnpbddcjaa
