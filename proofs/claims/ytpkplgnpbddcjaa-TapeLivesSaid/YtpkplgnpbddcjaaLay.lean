/- Layer 2: lay, Copy. -/
import Derived.Test.YtpkplgnpbddcjaaBase2
import Derived.Test.YtpkplgnpbddcjaaProg
namespace Go.Proofs.Ytpkplgnpbddcjaa
open Go.RowKit
set_option linter.unusedVariables false

theorem Try.infoU8y : (Try.prog.info? 5).map (fun i => (i.zero, i.size, i.bytes)) = some (some (.int .u8 0), 1, 1) := by kernel_rfl

set_option maxHeartbeats 1000000 in
theorem lay_any (A A' : Option Addr) (l m : List UInt8) (c c' : Nat) (w : World) (h : Bs w w.heap.size A l) (h' : Bs w w.heap.size A' m) (hl : l.length + m.length ≤ 140737488355328) :
    Calls Try.prog 26 #[.slice A l.length c, .slice A' m.length c'] w fun e w' =>
      e = .returned (.slice (some ⟨w.heap.size, 0, none⟩) (l ++ m).length (l ++ m).length) ∧ Raw w' w.heap.size 5 (l ++ m) ∧ Below w.heap.size w w' := by
  obtain ⟨i0, hi, hz0, hz1, hz2⟩ := info_parts Try.infoU8y
  go_enter Try.func26, Try.ntmps26
  go_wp2_with (first
    | (at_make; refine wpList_make_raw _ rfl _ _ 30 rfl 5 i0 Try.underlying30 hi hz0 hz1 hz2 .i64 .i64 _ _ (l.length + m.length) rfl rfl (by simp) (by simp) (by omega) ?_; intro w1 hr1 hb1)
    | (with_reducible refine wpList_copy_raw rfl (.tmp 13) (.tmp 14) 30 rfl 5 i0 Try.underlying30 hi hz1 _ _ _ _ _ _ rfl rfl w.heap.size 0 _ hr1 w.heap.size l (h.below hb1) rfl (by omega) (fun _ => rfl) (by simp) w.heap.size w hb1 (Nat.le_refl _) ?_; intro w2 hr2 hb2)
    | (with_reducible refine wpList_copy_raw rfl (.tmp 18) (.tmp 19) 30 rfl 5 i0 Try.underlying30 hi hz1 _ _ _ _ _ _ rfl rfl w.heap.size l.length _ hr2 w.heap.size m (h'.below hb2) rfl (by omega) ?_ (by rw [length_splice] <;> simp) w.heap.size w hb2 (Nat.le_refl _) ?_))
  · intro w3 hr3 hb3
    subst h
    have h3 := hr3.out
    have e := splice_head l 0
    rw [Nat.add_zero] at e
    rw [e] at h3
    have e2 := splice_tail l [] 0 rfl
    simp only [List.replicate_zero, List.append_nil] at e2 h3
    rw [e2] at h3
    clear hr1 hr2 hr3 e e2
    go_wp2
    go_ret
    exact ⟨by simp, by rw [List.append_nil]; exact h3, hb3⟩
  · intro w3 hr3 hb3
    have h3 := hr3.out
    rw [splice_head, splice_tail l m m.length rfl] at h3
    clear hr1 hr2 hr3
    go_wp2
    go_ret
    exact ⟨by rw [List.length_append]; rfl, h3, hb3⟩
end Go.Proofs.Ytpkplgnpbddcjaa
