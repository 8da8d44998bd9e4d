/- Writing numbers as bytes: the program's Put. -/
import Derived.Test.YthaamnkihnbgaaaPutR
namespace Go.Proofs.Ythaamnkihnbgaaa
open Go.RowKit
set_option linter.unusedVariables false

theorem put_bad (v : Nat) (n : Int) (w : World) (hn : n < 1 ∨ 8 < n) : Calls Try.prog 54 #[.int .u64 v, .int .i64 n] w (OutB w ([], 1)) := by
  rcases hn with hn | hn
  all_goals
    go_enter Try.func54, Try.ntmps54
    go_wp2
    go_ret2
    exact ⟨none, 0, rfl, Own.nil, Below.refl _ _⟩

theorem put_wide (v m : Nat) (w : World) (hv : v < 18446744073709551616) (h1 : 1 ≤ m) (h8 : m ≤ 8) (h : v / 256 ^ m ≠ 0) : Calls Try.prog 54 #[.int .u64 v, .int .i64 m] w (OutB w ([], 10)) := by
  have hb : ((v : Int) / 2 ^ (8 * m) != 0) = true := by rw [shr_u64, bne_iff_ne]; omega
  go_enter Try.func54, Try.ntmps54
  go_wp2
  go_ret2
  exact ⟨none, 0, rfl, Own.nil, Below.refl _ _⟩

theorem put_fits (v m : Nat) (w : World) (hv : v < 18446744073709551616) (h1 : 1 ≤ m) (h8 : m ≤ 8) (h : v / 256 ^ m = 0) : Calls Try.prog 54 #[.int .u64 v, .int .i64 m] w (OutB w (putL v m, 0)) := by
  have hb : ((v : Int) / 2 ^ (8 * m) != 0) = false := by rw [shr_u64, h]; rfl
  obtain ⟨i0, hi, hz0, hz1, hz2⟩ := info_parts Try.infoU8
  clear h
  go_enter Try.func54, Try.ntmps54
  go_wp2_with (at_make; refine wpList_make_bs _ rfl _ _ 22 rfl w.heap.size 5 i0 Try.underlying22 hi hz0 hz1 hz2 .i64 .i64 _ _ m rfl rfl rfl rfl (by omega) (Nat.le_refl _) ?_; intro w1 hown hgr)
  have hbel := below_none hgr
  clear hb hgr
  go_loopw [0, 7] (fun x i wr => ∃ k j : Nat, k + j = m ∧ i = .int .i64 ((k : Int) - 1) ∧ x = .int .u64 ((v / 256 ^ j : Nat) : Int) ∧ Own wr w.heap.size 5 (some ⟨w.heap.size, 0, none⟩) m (List.replicate k 0 ++ putL v j) ∧ Below w.heap.size w wr)
    (fun _ i _ => (intOf i + 1).toNat)
  case atStart => exact ⟨m, 0, rfl, rfl, by simp, by simpa [putL] using hown, hbel⟩
  case round =>
    obtain ⟨k, j, hkj, rfl, rfl, ho, hb⟩ := hrel
    rcases Nat.eq_zero_or_pos k with rfl | hk
    · go_wp2
      go_ret2
      obtain rfl : j = m := by omega
      exact ⟨_, _, by rw [putL_length]; rfl, by simpa using ho, hb⟩
    · obtain ⟨k, rfl⟩ : ∃ q, k = q + 1 := ⟨k - 1, by omega⟩
      rw [show ((k + 1 : Nat) : Int) - 1 = (k : Int) by omega]
      have hc := ho.cell k (by simp; omega)
      have hf := ho.frozen k
      have hvj : v / 256 ^ j < 18446744073709551616 := Nat.lt_of_le_of_lt (Nat.div_le_self _ _) hv
      go_wp2
      go_roundw
      case rel =>
        refine ⟨k, j + 1, by omega, rfl, ?_, ?_, ?_⟩
        · rw [Nat.pow_succ, ← Nat.div_div_eq_div_mul]; simp
        · rw [byte_at]
          have := (ho.stored k (UInt8.ofNat (v / 256 ^ j % 256))).1
          rwa [replicate_set, ← putL_cons] at this
        · exact hb.setCell (Nat.le_refl _) _
      case measure => simp [intOf]

theorem put_any (v : Nat) (n : Int) (w : World) (hv : v < 18446744073709551616) :
    Calls Try.prog 54 #[.int .u64 v, .int .i64 n] w (OutB w (putR v n)) := by
  by_cases hn : 1 ≤ n ∧ n ≤ 8
  · obtain ⟨m, rfl⟩ := Int.eq_ofNat_of_zero_le (show 0 ≤ n by omega)
    by_cases h : v / 256 ^ m = 0
    · rw [show putR v m = (putL v m, 0) by unfold putR; rw [if_pos hn, Int.toNat_natCast, if_pos h]]
      exact put_fits v m w hv (by omega) (by omega) h
    · rw [show putR v m = ([], 10) by unfold putR; rw [if_pos hn, Int.toNat_natCast, if_neg h]]
      exact put_wide v m w hv (by omega) (by omega) h
  · rw [show putR v n = ([], 1) from if_neg hn]
    exact put_bad v n w (by omega)
end Go.Proofs.Ythaamnkihnbgaaa
