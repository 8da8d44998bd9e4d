/- Layer 8: a new path. -/
import Derived.Test.YtkfmhkpmlncjgaaBlk
import Derived.Test.YtkfmhkpmlncjgaaProg
namespace Go.Proofs.Ytkfmhkpmlncjgaa
open Go.RowKit
set_option linter.unusedVariables false
set_option linter.unusedSimpArgs false

theorem infoPath : (Try.prog.info? 46).map (fun i => i.zero) = some (some (.agg ((Array.replicate 256 (.slice none 0 0)).push (.int .i64 0)))) := by kernel_rfl
/-- A path's zero value. -/
theorem zero_path : ∃ cs : Array Value, (∀ w, (zeroValue 46).run Try.prog w = .ok (.agg cs) w) ∧ cs.size = 257 ∧ cs[256]? = some (.int .i64 0) ∧ ∀ i, i < 256 → cs[i]? = some (.slice none 0 0) := by
  obtain ⟨i, hi⟩ : ∃ i, Try.prog.info? 46 = some i := by
    cases h : Try.prog.info? 46 with
    | none => have := infoPath; rw [h] at this; cases this
    | some i => exact ⟨i, rfl⟩
  have hz : i.zero = some (.agg ((Array.replicate 256 (.slice none 0 0)).push (.int .i64 0))) := by
    have := infoPath
    rw [hi] at this
    simpa using this
  refine ⟨(Array.replicate 256 (.slice none 0 0)).push (.int .i64 0), fun w => ?_, ?_, ?_, ?_⟩
  · simp only [zeroValue, typeInfo]
    simp [hi, hz]
  · simp only [Array.size_push, Array.size_replicate]
  · rw [Array.getElem?_push]; simp
  · intro i hi
    rw [Array.getElem?_push]
    simp [hi]
    omega
def NewO (w : World) (e : Ending) (w' : World) : Prop := ∃ cs : Array Value, e = .returned (.pointer (some ⟨w.heap.size, 0, none⟩)) ∧ w' = w.alloc (.cells cs 46) ∧ cs.size = 257 ∧ cs[256]? = some (.int .i64 0) ∧ ∀ i, i < 256 → cs[i]? = some (.slice none 0 0)
set_option maxHeartbeats 1000000 in
theorem new_any (w : World) : Calls Try.prog 8 #[] w (NewO w) := by
  obtain ⟨cs, h1, h2, h3, h4⟩ := zero_path
  go_enter Try.func8, Try.ntmps8
  go_wp2
  go_ret
  exact ⟨cs, rfl, rfl, h2, h3, h4⟩
end Go.Proofs.Ytkfmhkpmlncjgaa
