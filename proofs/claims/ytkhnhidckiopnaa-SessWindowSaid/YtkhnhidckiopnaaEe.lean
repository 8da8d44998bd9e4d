/- Layer 9: Frames of an empty queue; leave; On. -/
import Derived.Test.YtkhnhidckiopnaaEd
namespace Go.Proofs.Ytkhnhidckiopnaa
open Go.RowKit
set_option linter.unusedVariables false
set_option linter.unusedSimpArgs false

set_option maxRecDepth 100000 in
set_option maxHeartbeats 2000000 in
theorem frames_none {w : World} {g S W f x : Nat} {cs : Array Value} (h : EndAt w g S W [] f x cs) :
    Calls Try.prog 17 #[.pointer (some ⟨g, 0, none⟩)] w fun e w' => ∃ fb, e = .returned (.slice (some ⟨fb, 0, none⟩) 1 1) ∧ FrsAt w' w.heap.size fb S x (framesL W [] f) ∧ Below w.heap.size w w' := by
  have Hm := Lib.hid h.made
  have c66 := (h.blk.cell 66).trans h.c66
  have c0 := (h.blk.cell 0).trans h.c0
  have c68 := (h.blk.cell 68).trans h.c68
  have hgl := h.blk.lt
  have e0 : ((([] : List (List UInt8)).length : Nat) : Int) = 0 := rfl
  rw [e0] at c66
  clear h e0
  go_enter Try.func17, Try.ntmps17
  go_wp2_with fail
  refine Hm.out.mono ?_
  rintro e w1 ⟨rfl, rfl⟩
  go_wp2_with fail
  go_region
  go_wp2
  go_ret
  have el : framesL W [] f = [(0, [])] := by simp [framesL]
  rw [el]
  refine ⟨_, rfl, ⟨_, Nat.le_refl _, Blk.new w _ _, fun i hi => ?_⟩, (ba w _).drew⟩
  obtain rfl : i = 0 := by simpa using hi
  exact ⟨rfl, rfl, rfl, none, 0, rfl, w.heap.size, Nat.le_refl _, Own.nil⟩
end Go.Proofs.Ytkhnhidckiopnaa
