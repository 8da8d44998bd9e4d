/- Sums: both programs' Sum and Both. -/
import Derived.Test.YtjeajglnoedkaaaBase
import Derived.Test.YtjeajglnoedkaaaProg
namespace Go.Proofs.Ytjeajglnoedkaaa
open Go.RowKit
set_option linter.unusedVariables false

def sumStep (p : Nat × Nat) (x : UInt8) : Nat × Nat := ((p.1 + x.toNat) % 65521, (p.2 + (p.1 + x.toNat) % 65521) % 65521)
def sumP (l : List UInt8) : Nat × Nat := l.foldl sumStep (1, 0)
def sumR (l : List UInt8) : Nat := 65536 * (sumP l).2 + (sumP l).1
theorem sumP_snoc (l : List UInt8) (x : UInt8) : sumP (l ++ [x]) = sumStep (sumP l) x := by simp [sumP]
theorem sumP_lt (l : List UInt8) : (sumP l).1 < 65521 ∧ (sumP l).2 < 65521 := by
  induction l using snoc_ind with
  | h0 => simp [sumP]
  | h1 l x ih => rw [sumP_snoc]; unfold sumStep; exact ⟨by dsimp only; omega, by dsimp only; omega⟩
theorem sumR_lt (l : List UInt8) : sumR l < 4294967296 := by have := sumP_lt l; unfold sumR; omega
theorem shl16_or32 (c a : Nat) (hc : c < 65521) (ha : a < 65536) : bits .or .u32 ((c : Int) * 65536) (a : Int) = ((65536 * c + a : Nat) : Int) := by
  have : ((c : Int) * 65536) = ((2 ^ 16 * c : Nat) : Int) := by omega
  rw [this, u32_or_nat _ _ (by omega) (by omega), ← Nat.two_pow_add_eq_or_of_lt ha]

set_option maxHeartbeats 400000 in
theorem sum_any (A : Option Addr) (l : List UInt8) (c : Nat) (w : World) (hm : l.length ≤ 9223372036854775806) (h : Bs w w.heap.size A l) :
    Calls Try.prog 23 #[.slice A l.length c] w fun e w' => e = .returned (.int .u32 (sumR l)) ∧ w = w' := by
  go_enter Try.func23, Try.ntmps23
  go_wp2
  go_loop [3, 4, 9] (fun a s i => ∃ k : Nat, k ≤ l.length ∧ i = .int .i64 k ∧ a = .int .u32 (sumP (l.take k)).1 ∧ s = .int .u32 (sumP (l.take k)).2) (fun _ _ i => l.length - (intOf i).toNat)
  case atStart => exact ⟨0, Nat.zero_le _, rfl, rfl, rfl⟩
  case round =>
    obtain ⟨k, hk, rfl, rfl, rfl⟩ := hrel
    have hp := sumP_lt (l.take k)
    obtain ⟨hp1, hp2⟩ := hp
    by_cases hlt : k < l.length
    · obtain ⟨b, o, rfl, hb, hc⟩ := h (by omega)
      have hck := hc k hlt
      have hx := (l[k]).toNat_lt
      go_wp2
      go_round
      case rel => exact ⟨k + 1, by omega, by go_num, by rw [take_snoc l k hlt, sumP_snoc]; rfl, by rw [take_snoc l k hlt, sumP_snoc]; rfl⟩
      case measure => simp [intOf]; omega
    · have e : l.take k = l := List.take_of_length_le (by omega)
      rw [e] at hp1 hp2 ⊢
      clear e
      go_wp2
      go_ret
      exact ⟨congrArg Ending.returned (congrArg (Value.int .u32) (shl16_or32 _ _ hp2 (by omega))), rfl⟩

set_option maxHeartbeats 400000 in
theorem refsum_any (A : Option Addr) (l : List UInt8) (c : Nat) (w : World) (hm : l.length ≤ 9223372036854775806) (h : Bs w w.heap.size A l) :
    Calls Try.prog 24 #[.slice A l.length c] w fun e w' => e = .returned (.int .u32 (sumR l)) ∧ w = w' := by
  go_enter Try.func24, Try.ntmps24
  go_wp2
  go_loop [3, 4, 5] (fun a s i => ∃ k : Nat, k ≤ l.length ∧ i = .int .i64 k ∧ a = .int .i64 (sumP (l.take k)).1 ∧ s = .int .i64 (sumP (l.take k)).2) (fun _ _ i => l.length - (intOf i).toNat)
  case atStart => exact ⟨0, Nat.zero_le _, rfl, rfl, rfl⟩
  case round =>
    obtain ⟨k, hk, rfl, rfl, rfl⟩ := hrel
    have hp := sumP_lt (l.take k)
    obtain ⟨hp1, hp2⟩ := hp
    by_cases hlt : k < l.length
    · obtain ⟨b, o, rfl, hb, hc⟩ := h (by omega)
      have hck := hc k hlt
      have hx := (l[k]).toNat_lt
      go_wp2
      go_round
      case rel => exact ⟨k + 1, by omega, by go_num, by rw [take_snoc l k hlt, sumP_snoc]; rfl, by rw [take_snoc l k hlt, sumP_snoc]; rfl⟩
      case measure => simp [intOf]; omega
    · have e : l.take k = l := List.take_of_length_le (by omega)
      rw [e] at hp1 hp2 ⊢
      clear e
      go_wp2
      go_ret
      exact ⟨rfl, rfl⟩

/-- What Both answers. -/
def bothR (x y : Nat) (n : Int) : Nat :=
  65536 * ((x / 65536 + y / 65536 + n.toNat % 65521 * ((x % 65536 + 65520) % 65521)) % 65521) + (x % 65536 + y % 65536 + 65520) % 65521

theorem low16 (x : Nat) (hx : x < 4294967296) : IntKind.u64.wrap (bits .and .u32 (x : Int) 65535) = (x : Int) % 65536 := by
  have h : bits .and .u32 (x : Int) ((65535 : Nat) : Int) = ((x &&& 65535 : Nat) : Int) := u32_and_nat x 65535 (by omega) (by omega)
  have e : x &&& 65535 = x % 65536 := Nat.and_two_pow_sub_one_eq_mod x 16
  rw [show (65535 : Int) = ((65535 : Nat) : Int) from rfl, h, e, IntWalk.u64_in _ (by omega)]
  omega
theorem halves_any (x : Nat) (w : World) (hx : x < 4294967296) :
    Calls Try.prog 35 #[.int .u32 x] w fun e w' => e = .returned (.tuple #[.int .u64 ((x : Int) % 65536), .int .u64 ((x : Int) / 65536)]) ∧ w = w' := by
  go_enter Try.func35, Try.ntmps35
  go_wp2
  go_ret2
  exact ⟨congrArg (fun z => Ending.returned (Value.tuple #[.int .u64 z, .int .u64 ((x : Int) / 65536)])) (low16 x hx), rfl⟩

theorem mul_lt (p q : Nat) (hp : p < 65521) (hq : q < 65521) : p * q ≤ 4292870400 := by
  have := Nat.mul_le_mul (show p ≤ 65520 by omega) (show q ≤ 65520 by omega)
  omega

theorem shl16_or64 (c a : Nat) (hc : c < 65521) (ha : a < 65536) : bits .or .u64 ((c : Int) * 65536) (a : Int) = ((65536 * c + a : Nat) : Int) := by
  have : ((c : Int) * 65536) = ((2 ^ 16 * c : Nat) : Int) := by omega
  rw [this, u64_or_nat _ _ (by omega) (by omega), ← Nat.two_pow_add_eq_or_of_lt ha]
theorem less_eq (x : Nat) : ((x : Int) % 65536 + 65521 - 1) % 65521 = (((x % 65536 + 65520) % 65521 : Nat) : Int) := by omega
theorem less_eq' (x : Nat) : ((x : Int) % 65536 + 65520) % 65521 = (((x % 65536 + 65520) % 65521 : Nat) : Int) := by omega
theorem low_eq (x y : Nat) : ((x : Int) % 65536 + 65521 - 1 + y % 65536) % 65521 = (((x % 65536 + y % 65536 + 65520) % 65521 : Nat) : Int) := by omega
theorem low_eq' (x y : Nat) : ((x : Int) % 65536 + y % 65536 + 65520) % 65521 = (((x % 65536 + y % 65536 + 65520) % 65521 : Nat) : Int) := by omega
theorem high_eq (x y pq : Nat) : ((x : Int) / 65536 + y / 65536 + pq) % 65521 = (((x / 65536 + y / 65536 + pq) % 65521 : Nat) : Int) := by omega
theorem high_eq' (x y : Nat) : ((x : Int) / 65536 + y / 65536) % 65521 = (((x / 65536 + y / 65536 + 0) % 65521 : Nat) : Int) := by omega

theorem both_eq (x y : Nat) (n : Int) (hx : x < 4294967296) (hy : y < 4294967296) (h0 : 0 ≤ n) :
    bits .or .u64 (IntKind.u64.wrap ((IntKind.u64.wrap ((x : Int) / 65536 + y / 65536 + IntKind.u64.wrap (n % 65521 * (((x : Int) % 65536 + 65521 - 1) % 65521)))).tmod 65521 * 65536))
      (((x : Int) % 65536 + 65521 - 1 + y % 65536) % 65521) % 4294967296 = bothR x y n := by
  obtain ⟨m, rfl⟩ := Int.eq_ofNat_of_zero_le h0
  unfold bothR
  rw [Int.toNat_natCast]
  have hp : (m : Int) % 65521 = ((m % 65521 : Nat) : Int) := by omega
  have hpq := mul_lt (m % 65521) ((x % 65536 + 65520) % 65521) (by omega) (by omega)
  rw [less_eq, hp, low_eq, ← Int.natCast_mul]
  generalize (m % 65521) * ((x % 65536 + 65520) % 65521) = pq at *
  rw [IntWalk.u64_in (pq : Int) (by omega), IntWalk.u64_in ((x : Int) / 65536 + y / 65536 + pq) (by omega), IntWalk.rem_in _ _ (by omega), high_eq]
  have h1 : (x / 65536 + y / 65536 + pq) % 65521 < 65521 := by omega
  have h2 : (x % 65536 + y % 65536 + 65520) % 65521 < 65521 := by omega
  generalize (x / 65536 + y / 65536 + pq) % 65521 = hi at *
  generalize (x % 65536 + y % 65536 + 65520) % 65521 = lo at *
  rw [IntWalk.u64_in _ (by omega), shl16_or64 _ _ h1 (by omega)]
  omega

theorem refboth_eq (x y : Nat) (n : Int) (hx : x < 4294967296) (hy : y < 4294967296) (h0 : 0 ≤ n) :
    wrap64 (wrap64 (65536 * (wrap64 ((x : Int) / 65536 + y / 65536 + wrap64 (n % 65521 * (((x : Int) % 65536 + 65520) % 65521)))).tmod 65521) +
      ((x : Int) % 65536 + y % 65536 + 65520) % 65521) % 4294967296 = bothR x y n := by
  obtain ⟨m, rfl⟩ := Int.eq_ofNat_of_zero_le h0
  unfold bothR
  rw [Int.toNat_natCast]
  have hp : (m : Int) % 65521 = ((m % 65521 : Nat) : Int) := by omega
  have hpq := mul_lt (m % 65521) ((x % 65536 + 65520) % 65521) (by omega) (by omega)
  rw [less_eq', hp, low_eq', ← Int.natCast_mul]
  generalize (m % 65521) * ((x % 65536 + 65520) % 65521) = pq at *
  rw [IntWalk.wrap64_in (pq : Int) (by omega), IntWalk.wrap64_in ((x : Int) / 65536 + y / 65536 + pq) (by omega), IntWalk.rem_in _ _ (by omega), high_eq]
  have h1 : (x / 65536 + y / 65536 + pq) % 65521 < 65521 := by omega
  have h2 : (x % 65536 + y % 65536 + 65520) % 65521 < 65521 := by omega
  generalize (x / 65536 + y / 65536 + pq) % 65521 = hi at *
  generalize (x % 65536 + y % 65536 + 65520) % 65521 = lo at *
  rw [IntWalk.wrap64_in (65536 * _) (by omega), IntWalk.wrap64_in _ (by omega)]
  omega

theorem bothR_neg' (x y : Nat) (n : Int) (h : n < 0) : bothR x y n = 65536 * ((x / 65536 + y / 65536 + 0) % 65521) + (x % 65536 + y % 65536 + 65520) % 65521 := by
  unfold bothR
  rw [show n.toNat = 0 by omega, Nat.zero_mod, Nat.zero_mul]
theorem both_eq_neg (x y : Nat) (n : Int) (h : n < 0) :
    bits .or .u64 (((x : Int) / 65536 + y / 65536) % 65521 * 65536) (((x : Int) % 65536 + 65521 - 1 + y % 65536) % 65521) % 4294967296 = bothR x y n := by
  rw [bothR_neg' x y n h, high_eq', low_eq, shl16_or64 _ _ (by omega) (by omega)]
  have h1 : (x / 65536 + y / 65536 + 0) % 65521 < 65521 := by omega
  have h2 : (x % 65536 + y % 65536 + 65520) % 65521 < 65521 := by omega
  omega
theorem refboth_eq_neg (x y : Nat) (n : Int) (h : n < 0) :
    65536 * (((x : Int) / 65536 + y / 65536) % 65521) + ((x : Int) % 65536 + y % 65536 + 65520) % 65521 = bothR x y n := by
  rw [bothR_neg' x y n h, high_eq', low_eq']
  omega

theorem bothR_neg (x y : Nat) (n : Int) (h : n < 0) : bothR x y n = bothR x y 0 := by
  unfold bothR
  rw [show n.toNat = 0 by omega]
  rfl

set_option maxHeartbeats 400000 in
theorem both_pos (x y : Nat) (n : Int) (w : World) (hx : x < 4294967296) (hy : y < 4294967296) (h1 : 0 ≤ n) (h2 : n ≤ 9223372036854775807) :
    Calls Try.prog 25 #[.int .u32 x, .int .u32 y, .int .i64 n] w fun e w' => e = .returned (.int .u32 (bothR x y n)) ∧ w = w' := by
  go_enter Try.func25, Try.ntmps25
  go_wp2_with fail
  refine (halves_any x _ hx).mono ?_
  rintro e w' ⟨rfl, rfl⟩
  go_wp2_with fail
  refine (halves_any y _ hy).mono ?_
  rintro e w' ⟨rfl, rfl⟩
  go_wp2
  go_ret
  exact ⟨congrArg Ending.returned (congrArg (Value.int .u32) (both_eq x y n hx hy h1)), rfl⟩

set_option maxHeartbeats 400000 in
theorem both_neg (x y : Nat) (n : Int) (w : World) (hx : x < 4294967296) (hy : y < 4294967296) (h1 : -9223372036854775808 ≤ n) (h2 : n < 0) :
    Calls Try.prog 25 #[.int .u32 x, .int .u32 y, .int .i64 n] w fun e w' => e = .returned (.int .u32 (bothR x y n)) ∧ w = w' := by
  go_enter Try.func25, Try.ntmps25
  go_wp2_with fail
  refine (halves_any x _ hx).mono ?_
  rintro e w' ⟨rfl, rfl⟩
  go_wp2_with fail
  refine (halves_any y _ hy).mono ?_
  rintro e w' ⟨rfl, rfl⟩
  go_wp2
  go_ret
  exact ⟨congrArg Ending.returned (congrArg (Value.int .u32) (both_eq_neg x y n h2)), rfl⟩

theorem both_any (x y : Nat) (n : Int) (w : World) (hx : x < 4294967296) (hy : y < 4294967296) (h1 : -9223372036854775808 ≤ n) (h2 : n ≤ 9223372036854775807) :
    Calls Try.prog 25 #[.int .u32 x, .int .u32 y, .int .i64 n] w fun e w' => e = .returned (.int .u32 (bothR x y n)) ∧ w = w' := by
  rcases Int.lt_or_le n 0 with h | h
  · exact both_neg x y n w hx hy h1 h
  · exact both_pos x y n w hx hy h h2

set_option maxHeartbeats 400000 in
theorem refboth_any (x y : Nat) (n : Int) (w : World) (hx : x < 4294967296) (hy : y < 4294967296) (h1 : -9223372036854775808 ≤ n) (h2 : n ≤ 9223372036854775807) :
    Calls Try.prog 26 #[.int .u32 x, .int .u32 y, .int .i64 n] w fun e w' => e = .returned (.int .u32 (bothR x y n)) ∧ w = w' := by
  rcases Int.lt_or_le n 0 with h | h
  · go_enter Try.func26, Try.ntmps26
    go_wp2
    go_ret
    exact ⟨congrArg Ending.returned (congrArg (Value.int .u32) (refboth_eq_neg x y n h)), rfl⟩
  · go_enter Try.func26, Try.ntmps26
    go_wp2
    go_ret
    exact ⟨congrArg Ending.returned (congrArg (Value.int .u32) (refboth_eq x y n hx hy h)), rfl⟩
end Go.Proofs.Ytjeajglnoedkaaa
