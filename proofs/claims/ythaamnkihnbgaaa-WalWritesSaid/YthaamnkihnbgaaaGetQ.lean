/- Reading numbers out of bytes: both programs' Get. -/
import Derived.Test.YthaamnkihnbgaaaBase
import Derived.Test.YthaamnkihnbgaaaProg
namespace Go.Proofs.Ythaamnkihnbgaaa
open Go.RowKit
set_option linter.unusedVariables false

def num (l : List UInt8) : Nat := l.foldl (fun v x => 256 * v + x.toNat) 0
theorem num_snoc (l : List UInt8) (x : UInt8) : num (l ++ [x]) = 256 * num l + x.toNat := by simp [num]
theorem num_lt (l : List UInt8) : num l < 256 ^ l.length := by
  induction l using snoc_ind with
  | h0 => simp [num]
  | h1 l x ih => rw [num_snoc]; have := x.toNat_lt; simp [Nat.pow_succ]; omega
theorem num_take_lt (l : List UInt8) (k : Nat) (h8 : l.length ≤ 8) (hk : k < l.length) : num (l.take k) < 72057594037927936 := by
  have h1 := num_lt (l.take k)
  have h2 : (l.take k).length ≤ 7 := by simp; omega
  have h3 : 256 ^ (l.take k).length ≤ 256 ^ 7 := Nat.pow_le_pow_right (by omega) h2
  have : (256 : Nat) ^ 7 = 72057594037927936 := by decide
  omega
theorem num_lt64 (l : List UInt8) (h8 : l.length ≤ 8) : num l < 18446744073709551616 := by
  have h1 := num_lt l
  have h3 : 256 ^ l.length ≤ 256 ^ 8 := Nat.pow_le_pow_right (by omega) h8
  have : (256 : Nat) ^ 8 = 18446744073709551616 := by decide
  omega
theorem shl8_or (v x : Nat) (hv : v < 72057594037927936) (hx : x < 256) : bits .or .u64 ((v : Int) * 256) (x : Int) = ((256 * v + x : Nat) : Int) := by
  have : ((v : Int) * 256) = ((2 ^ 8 * v : Nat) : Int) := by omega
  rw [this, u64_or_nat _ _ (by omega) (by omega), ← Nat.two_pow_add_eq_or_of_lt hx]
/-- What Get answers. -/
def getR (l : List UInt8) : Nat × Int := if 1 ≤ l.length ∧ l.length ≤ 8 then (num l, 0) else (0, 1)

set_option maxHeartbeats 400000 in
theorem get_any (A : Option Addr) (l : List UInt8) (c : Nat) (w : World) (hm : l.length ≤ 9223372036854775807) (h : Bs w w.heap.size A l) :
    Calls Try.prog 58 #[.slice A l.length c] w fun e w' => e = .returned (.tuple #[.int .u64 (getR l).1, .int .i64 (getR l).2]) ∧ w = w' := by
  by_cases h1 : 1 ≤ l.length
  · by_cases h8 : l.length ≤ 8
    · have hr : getR l = (num l, 0) := if_pos ⟨h1, h8⟩
      obtain ⟨b, o, rfl, hb, hc⟩ := h (by omega)
      rw [hr]; clear hr
      go_enter Try.func58, Try.ntmps58
      go_wp2
      go_loop [4, 17] (fun v i => ∃ k : Nat, k ≤ l.length ∧ i = .int .i64 k ∧ v = .int .u64 (num (l.take k))) (fun _ i => l.length - (intOf i).toNat)
      case atStart => exact ⟨0, Nat.zero_le _, rfl, by simp [num]⟩
      case round =>
        obtain ⟨k, hk, rfl, rfl⟩ := hrel
        by_cases hlt : k < l.length
        · have hck := hc k hlt
          have hx := (l[k]).toNat_lt
          have hv := num_take_lt l k h8 hlt
          go_wp2
          go_round
          case rel => exact ⟨k + 1, by omega, by go_num, by rw [take_snoc l k hlt, num_snoc, shl8_or _ _ hv hx]⟩
          case measure => simp [intOf]; omega
        · go_wp2
          go_ret2
          exact ⟨by rw [List.take_of_length_le (by omega)]; rfl, rfl⟩
    · rw [show getR l = (0, 1) from if_neg (by omega)]
      go_enter Try.func58, Try.ntmps58
      go_wp2
      go_ret2
      exact ⟨rfl, rfl⟩
  · rw [show getR l = (0, 1) from if_neg (by omega)]
    go_enter Try.func58, Try.ntmps58
    go_wp2
    go_ret2
    exact ⟨rfl, rfl⟩
end Go.Proofs.Ythaamnkihnbgaaa
