/- Digits read: the other program's Unhex. -/
import Derived.Test.YtcpiejlhedmmeaaUnhex
namespace Go.Proofs.Ytcpiejlhedmmeaa
open Go.RowKit
set_option linter.unusedVariables false

set_option maxHeartbeats 1000000 in
theorem refunhex_bad (s : ByteArray) (k0 : Nat) (w : World) (hs : s.size ≤ 4000) (hk0 : k0 < s.size) (hgood : ∀ j, j < k0 → isD (cs s j)) (hbad : ¬ isD (cs s k0)) :
    Calls Try.prog 28 #[.string s] w fun e w' => e = tuple none 0 0 k0 3 ∧ Below w.heap.size w w' := by
  have Hgood := Lib.hid hgood
  have hb0 : worthR (cs s k0) = -1 := by unfold worthR; rw [if_neg hbad]
  clear hgood hbad
  go_enter Try.func28, Try.ntmps28
  go_wp2_with fail
  go_loopw [4] (fun i wr => ∃ k : Nat, k ≤ k0 ∧ i = .int .i64 k ∧ wr = w.alloc (.cells #[.int .i64 0, .int .i64 0] 36))
    (fun i _ => s.size - (intOf i).toNat)
  case atStart => exact ⟨0, by omega, rfl, rfl⟩
  case round =>
    obtain ⟨k, hk, rfl, rfl⟩ := hrel
    by_cases he : k = k0
    · subst he
      have i1 := index_cs s k hk0
      go_wp2_with fail
      refine (worth_any _ _).mono ?_
      rintro e w1 ⟨rfl, rfl⟩
      rw [hb0]
      go_wp2
      go_returns
      exact ⟨rfl, ba _ _⟩
    · have i1 := index_cs s k (by omega)
      have hg0 : worthR (cs s k) = (wd (cs s k) : Int) := by unfold worthR; rw [if_pos (Hgood.out k (by omega))]
      go_wp2_with fail
      refine (worth_any _ _).mono ?_
      rintro e w1 ⟨rfl, rfl⟩
      rw [hg0]
      go_wp2
      go_roundw
      case rel => exact ⟨k + 1, by omega, by go_num, by trivial⟩
      case measure => simp [intOf]; omega

set_option maxHeartbeats 1000000 in
theorem refunhex_odd (s : ByteArray) (w : World) (hs : s.size ≤ 4000) (hgood : ∀ j, j < s.size → isD (cs s j)) (hodd : s.size % 2 = 1) :
    Calls Try.prog 28 #[.string s] w fun e w' => e = tuple none 0 0 s.size 3 ∧ Below w.heap.size w w' := by
  have Hgood := Lib.hid hgood
  clear hgood
  go_enter Try.func28, Try.ntmps28
  go_wp2_with fail
  go_loopw [4] (fun i wr => ∃ k : Nat, k ≤ s.size ∧ i = .int .i64 k ∧ wr = w.alloc (.cells #[.int .i64 0, .int .i64 0] 36))
    (fun i _ => s.size - (intOf i).toNat)
  case atStart => exact ⟨0, by omega, rfl, rfl⟩
  case round =>
    obtain ⟨k, hk, rfl, rfl⟩ := hrel
    by_cases hlt : k < s.size
    · have i1 := index_cs s k hlt
      have hg0 : worthR (cs s k) = (wd (cs s k) : Int) := by unfold worthR; rw [if_pos (Hgood.out k hlt)]
      go_wp2_with fail
      refine (worth_any _ _).mono ?_
      rintro e w1 ⟨rfl, rfl⟩
      rw [hg0]
      go_wp2
      go_roundw
      case rel => exact ⟨k + 1, by omega, by go_num, by trivial⟩
      case measure => simp [intOf]; omega
    · have e1 : (s.size : Int).tmod 2 = 1 := by rw [Int.tmod_eq_emod_of_nonneg (by omega)]; omega
      go_wp2
      go_returns
      exact ⟨rfl, ba _ _⟩

end Go.Proofs.Ytcpiejlhedmmeaa
