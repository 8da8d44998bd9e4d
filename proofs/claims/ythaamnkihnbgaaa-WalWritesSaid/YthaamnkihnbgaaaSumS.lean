/- Sums: both programs' Sum. -/
import Derived.Test.YthaamnkihnbgaaaBase
import Derived.Test.YthaamnkihnbgaaaProg
namespace Go.Proofs.Ythaamnkihnbgaaa
open Go.RowKit
set_option linter.unusedVariables false

def sumStep (p : Nat × Nat) (x : UInt8) : Nat × Nat := ((p.1 + x.toNat) % 65521, (p.2 + (p.1 + x.toNat) % 65521) % 65521)
def sumP (l : List UInt8) : Nat × Nat := l.foldl sumStep (1, 0)
def sumR (l : List UInt8) : Nat := 65536 * (sumP l).2 + (sumP l).1
theorem sumP_snoc (l : List UInt8) (x : UInt8) : sumP (l ++ [x]) = sumStep (sumP l) x := by simp [sumP]
theorem sumP_lt (l : List UInt8) : (sumP l).1 < 65521 ∧ (sumP l).2 < 65521 := by
  induction l using snoc_ind with
  | h0 => simp [sumP]
  | h1 l x ih => rw [sumP_snoc]; unfold sumStep; exact ⟨by dsimp only; omega, by dsimp only; omega⟩
theorem sumR_lt (l : List UInt8) : sumR l < 4294967296 := by have := sumP_lt l; unfold sumR; omega
theorem shl16_or32 (c a : Nat) (hc : c < 65521) (ha : a < 65536) : bits .or .u32 ((c : Int) * 65536) (a : Int) = ((65536 * c + a : Nat) : Int) := by
  have : ((c : Int) * 65536) = ((2 ^ 16 * c : Nat) : Int) := by omega
  rw [this, u32_or_nat _ _ (by omega) (by omega), ← Nat.two_pow_add_eq_or_of_lt ha]

set_option maxHeartbeats 400000 in
theorem sum_any (A : Option Addr) (l : List UInt8) (c : Nat) (w : World) (hm : l.length ≤ 9223372036854775806) (h : Bs w w.heap.size A l) :
    Calls Try.prog 39 #[.slice A l.length c] w fun e w' => e = .returned (.int .u32 (sumR l)) ∧ w = w' := by
  go_enter Try.func39, Try.ntmps39
  go_wp2
  go_loop [3, 4, 9] (fun a s i => ∃ k : Nat, k ≤ l.length ∧ i = .int .i64 k ∧ a = .int .u32 (sumP (l.take k)).1 ∧ s = .int .u32 (sumP (l.take k)).2) (fun _ _ i => l.length - (intOf i).toNat)
  case atStart => exact ⟨0, Nat.zero_le _, rfl, rfl, rfl⟩
  case round =>
    obtain ⟨k, hk, rfl, rfl, rfl⟩ := hrel
    have hp := sumP_lt (l.take k)
    obtain ⟨hp1, hp2⟩ := hp
    by_cases hlt : k < l.length
    · obtain ⟨b, o, rfl, hb, hc⟩ := h (by omega)
      have hck := hc k hlt
      have hx := (l[k]).toNat_lt
      go_wp2
      go_round
      case rel => exact ⟨k + 1, by omega, by go_num, by rw [take_snoc l k hlt, sumP_snoc]; rfl, by rw [take_snoc l k hlt, sumP_snoc]; rfl⟩
      case measure => simp [intOf]; omega
    · have e : l.take k = l := List.take_of_length_le (by omega)
      rw [e] at hp1 hp2 ⊢
      clear e
      go_wp2
      go_ret
      exact ⟨congrArg Ending.returned (congrArg (Value.int .u32) (shl16_or32 _ _ hp2 (by omega))), rfl⟩

set_option maxHeartbeats 400000 in
theorem refsum_any (A : Option Addr) (l : List UInt8) (c : Nat) (w : World) (hm : l.length ≤ 9223372036854775806) (h : Bs w w.heap.size A l) :
    Calls Try.prog 41 #[.slice A l.length c] w fun e w' => e = .returned (.int .u32 (sumR l)) ∧ w = w' := by
  go_enter Try.func41, Try.ntmps41
  go_wp2
  go_loop [3, 4, 5] (fun a s i => ∃ k : Nat, k ≤ l.length ∧ i = .int .i64 k ∧ a = .int .i64 (sumP (l.take k)).1 ∧ s = .int .i64 (sumP (l.take k)).2) (fun _ _ i => l.length - (intOf i).toNat)
  case atStart => exact ⟨0, Nat.zero_le _, rfl, rfl, rfl⟩
  case round =>
    obtain ⟨k, hk, rfl, rfl, rfl⟩ := hrel
    have hp := sumP_lt (l.take k)
    obtain ⟨hp1, hp2⟩ := hp
    by_cases hlt : k < l.length
    · obtain ⟨b, o, rfl, hb, hc⟩ := h (by omega)
      have hck := hc k hlt
      have hx := (l[k]).toNat_lt
      go_wp2
      go_round
      case rel => exact ⟨k + 1, by omega, by go_num, by rw [take_snoc l k hlt, sumP_snoc]; rfl, by rw [take_snoc l k hlt, sumP_snoc]; rfl⟩
      case measure => simp [intOf]; omega
    · have e : l.take k = l := List.take_of_length_le (by omega)
      rw [e] at hp1 hp2 ⊢
      clear e
      go_wp2
      go_ret
      exact ⟨rfl, rfl⟩

end Go.Proofs.Ythaamnkihnbgaaa
