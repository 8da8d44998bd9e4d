/- Reading numbers out of bytes: the program's Get. -/
import Derived.Test.YteniponkakaaaaaGetR
namespace Go.Proofs.Yteniponkakaaaaa
open Go.RowKit
set_option linter.unusedVariables false

set_option maxHeartbeats 400000 in
theorem get_any (A : Option Addr) (l : List UInt8) (c : Nat) (w : World) (hm : l.length ≤ 9223372036854775807) (h : Bs w w.heap.size A l) :
    Calls Try.prog 47 #[.slice A l.length c] w fun e w' => e = .returned (.tuple #[.int .u64 (getR l).1, .int .i64 (getR l).2]) ∧ w = w' := by
  by_cases h1 : 1 ≤ l.length
  · by_cases h8 : l.length ≤ 8
    · have hr : getR l = (num l, 0) := if_pos ⟨h1, h8⟩
      obtain ⟨b, o, rfl, hb, hc⟩ := h (by omega)
      rw [hr]; clear hr
      go_enter Try.func47, Try.ntmps47
      go_wp2
      go_loop [4, 17] (fun v i => ∃ k : Nat, k ≤ l.length ∧ i = .int .i64 k ∧ v = .int .u64 (num (l.take k))) (fun _ i => l.length - (intOf i).toNat)
      case atStart => exact ⟨0, Nat.zero_le _, rfl, by simp [num]⟩
      case round =>
        obtain ⟨k, hk, rfl, rfl⟩ := hrel
        by_cases hlt : k < l.length
        · have hck := hc k hlt
          have hx := (l[k]).toNat_lt
          have hv := num_take_lt l k h8 hlt
          go_wp2
          go_round
          case rel => exact ⟨k + 1, by omega, by go_num, by rw [take_snoc l k hlt, num_snoc, shl8_or _ _ hv hx]⟩
          case measure => simp [intOf]; omega
        · go_wp2
          go_ret2
          exact ⟨by rw [List.take_of_length_le (by omega)]; rfl, rfl⟩
    · rw [show getR l = (0, 1) from if_neg (by omega)]
      go_enter Try.func47, Try.ntmps47
      go_wp2
      go_ret2
      exact ⟨rfl, rfl⟩
  · rw [show getR l = (0, 1) from if_neg (by omega)]
    go_enter Try.func47, Try.ntmps47
    go_wp2
    go_ret2
    exact ⟨rfl, rfl⟩
end Go.Proofs.Yteniponkakaaaaa
