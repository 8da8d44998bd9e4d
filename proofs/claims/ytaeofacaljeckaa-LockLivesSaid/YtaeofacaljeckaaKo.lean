/- Layer 12: equal lists of numbers. -/
import Derived.Test.YtaeofacaljeckaaKn
namespace Go.Proofs.Ytaeofacaljeckaa
open Go.RowKit Go.Maps
set_option linter.unusedVariables false
set_option linter.unusedSimpArgs false

set_option maxHeartbeats 1000000 in
theorem ints_same (A A' : Option Addr) (n c c' : Nat) (xs : List Int) (w : World) (hn : n = xs.length) (hl : n ≤ 9223372036854775807) (h1 : IsAt w A xs) (h2 : IsAt w A' xs) :
    Calls Try.prog 16 #[.slice A n c, .slice A' n c'] w fun e w' => e = .returned (.bool true) ∧ Below w.heap.size w w' := by
  have H1 := Lib.hid h1
  have H2 := Lib.hid h2
  have HN := Lib.hid hn
  clear h1 h2 hn
  go_enter Try.func16, Try.ntmps16
  go_wp2_with fail
  go_loopw [5] (fun i wr => ∃ j : Nat, j ≤ n ∧ i = .int .i64 j ∧ Below w.heap.size w wr) (fun i _ => n - (intOf i).toNat)
  case atStart => exact ⟨0, Nat.zero_le _, rfl, Below.refl _ _⟩
  case round =>
    obtain ⟨j, hj, rfl, hb⟩ := hrel
    by_cases hjn : j < n
    · have hjI : (j : Int) < (n : Int) := by omega
      obtain ⟨b1, o1, rfl, hlt1, hc1⟩ := H1.out.2 (by rw [← HN.out]; omega)
      obtain ⟨b2, o2, rfl, hlt2, hc2⟩ := H2.out.2 (by rw [← HN.out]; omega)
      have q1 := fun m : Nat => (show (wr.drewN m).cell? ⟨b1, o1 + j, none⟩ = _ from (hb.cell (p := ⟨b1, o1 + j, none⟩) hlt1).trans (hc1 j (by rw [← HN.out]; omega)))
      have q2 := fun m : Nat => (show (wr.drewN m).cell? ⟨b2, o2 + j, none⟩ = _ from (hb.cell (p := ⟨b2, o2 + j, none⟩) hlt2).trans (hc2 j (by rw [← HN.out]; omega)))
      obtain ⟨z, hz⟩ : ∃ z, z = xs[j]'(by rw [← HN.out]; omega) := ⟨_, rfl⟩
      rw [← hz] at q1 q2
      clear hz hc1 hc2
      go_wp2_with fail
      go_quiet (fail)
      have hb2 : Below w.heap.size w (wr.drewN nq) := ⟨hb.os, hb.tape, hb.output, hb.size, hb.block⟩
      clear q1 q2 hb
      go_wp2
      go_roundw
      case rel => exact ⟨j + 1, by omega, by go_num, hb2⟩
      case measure => simp [intOf]; omega
    · have hjI : ¬ (j : Int) < (n : Int) := by omega
      go_wp2
      go_ret
      exact ⟨rfl, hb⟩
end Go.Proofs.Ytaeofacaljeckaa
