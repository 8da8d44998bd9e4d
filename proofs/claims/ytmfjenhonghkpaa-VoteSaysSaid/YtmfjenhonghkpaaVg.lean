/- Layer 16: two lists of numbers compared. -/
import Derived.Test.YtmfjenhonghkpaaVf
namespace Go.Proofs.Ytmfjenhonghkpaa
open Go Go.RowKit
set_option linter.unusedVariables false
set_option linter.unusedSimpArgs false

set_option maxHeartbeats 1000000 in
theorem ints_same (A A' : Option Addr) (n c c' : Nat) (xs : List Int) (w : World) (hn : n = xs.length) (hl : n ≤ 9223372036854775807) (h1 : NumsAt w A xs) (h2 : NumsAt w A' xs) :
    Calls Try.prog 18 #[.slice A n c, .slice A' n c'] w fun e w' => e = .returned (.bool true) ∧ Below w.heap.size w w' := by
  have H1 := Lib.hid h1
  have H2 := Lib.hid h2
  have HN := Lib.hid hn
  clear h1 h2 hn
  go_enter Try.func18, Try.ntmps18
  go_wp2_with fail
  go_loopw [5] (fun i wr => ∃ j : Nat, j ≤ n ∧ i = .int .i64 j ∧ Below w.heap.size w wr ∧ Hid (∀ p, wr.cell? p = w.cell? p)) (fun i _ => n - (intOf i).toNat)
  case atStart => exact ⟨0, Nat.zero_le _, rfl, Below.refl _ _, Lib.hid fun _ => rfl⟩
  case round =>
    obtain ⟨j, hj, rfl, hb, hce⟩ := hrel
    by_cases hjn : j < n
    · have hjI : (j : Int) < (n : Int) := by omega
      obtain ⟨b1, o1, rfl, hc1⟩ := H1.out (by rw [← HN.out]; omega)
      obtain ⟨b2, o2, rfl, hc2⟩ := H2.out (by rw [← HN.out]; omega)
      have q1 := fun m : Nat => (show (wr.drewN m).cell? ⟨b1, o1 + j, none⟩ = _ from (hce.out ⟨b1, o1 + j, none⟩).trans (hc1 j (by rw [← HN.out]; omega)))
      have q2 := fun m : Nat => (show (wr.drewN m).cell? ⟨b2, o2 + j, none⟩ = _ from (hce.out ⟨b2, o2 + j, none⟩).trans (hc2 j (by rw [← HN.out]; omega)))
      obtain ⟨z, hz⟩ : ∃ z, z = xs[j]'(by rw [← HN.out]; omega) := ⟨_, rfl⟩
      rw [← hz] at q1 q2
      clear hz hc1 hc2
      go_wp2_with fail
      go_quiet (fail)
      have hb2 : Below w.heap.size w (wr.drewN nq) := ⟨hb.os, hb.tape, hb.output, hb.size, hb.block⟩
      have hce2 : Hid (∀ p, (wr.drewN nq).cell? p = w.cell? p) := Lib.hid hce.out
      clear q1 q2 hb hce
      go_wp2
      go_roundw
      case rel => exact ⟨j + 1, by omega, by go_num, hb2, hce2⟩
      case measure => simp [intOf]; omega
    · have hjI : ¬ (j : Int) < (n : Int) := by omega
      go_wp2
      go_ret
      exact ⟨rfl, hb⟩
end Go.Proofs.Ytmfjenhonghkpaa
