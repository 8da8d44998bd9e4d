/- Writing numbers as bytes: the document's Put alone. -/
import Derived.Test.YthaamnkihnbgaaaBase
import Derived.Test.YthaamnkihnbgaaaProg
namespace Go.Proofs.Ythaamnkihnbgaaa
open Go.RowKit
set_option linter.unusedVariables false

theorem Try.infoU8 : (Try.prog.info? 5).map (fun i => (i.zero, i.size, i.bytes)) = some (some (.int .u8 0), 1, 1) := by kernel_rfl

/-- v as n bytes, the greatest first (what stands above them is left out). -/
def putL (v : Nat) : Nat → List UInt8
  | 0 => []
  | n + 1 => putL (v / 256) n ++ [UInt8.ofNat (v % 256)]
theorem putL_length (v n : Nat) : (putL v n).length = n := by
  induction n generalizing v with
  | zero => rfl
  | succ n ih => simp [putL, ih]
theorem putL_cons (v n : Nat) : putL v (n + 1) = UInt8.ofNat (v / 256 ^ n % 256) :: putL v n := by
  induction n generalizing v with
  | zero => simp [putL]
  | succ n ih =>
    rw [putL, ih (v / 256), putL]
    simp only [List.cons_append]
    rw [Nat.div_div_eq_div_mul, Nat.pow_succ, Nat.mul_comm 256]
/-- What Put answers. -/
def putR (v : Nat) (n : Int) : List UInt8 × Int :=
  if 1 ≤ n ∧ n ≤ 8 then (if v / 256 ^ n.toNat = 0 then (putL v n.toNat, 0) else ([], 10)) else ([], 1)

/-- The outcome of a call that hands out new bytes and an error. -/
def OutB (w : World) (r : List UInt8 × Int) (e : Ending) (w' : World) : Prop :=
  ∃ A c, e = .returned (.tuple #[.slice A r.1.length c, .int .i64 r.2]) ∧ Own w' w.heap.size 5 A c r.1 ∧ Below w.heap.size w w'

theorem shr_u64 (v n : Nat) : (v : Int) / ((2 : Int) ^ (8 * n)) = ((v / 256 ^ n : Nat) : Int) := by
  have : (2 : Nat) ^ (8 * n) = 256 ^ n := by rw [Nat.pow_mul]
  rw [← this]; simp

theorem byte_of (x : Nat) : (x : Int) % 256 = ((UInt8.ofNat (x % 256)).toNat : Int) := by simp
theorem byte_of2 (x : Nat) : (x : Int) % 256 % 256 = ((UInt8.ofNat (x % 256)).toNat : Int) := by simp
theorem byte_at (v j : Nat) : (v : Int) / 256 ^ j % 256 = ((UInt8.ofNat (v / 256 ^ j % 256)).toNat : Int) := by
  have : (v : Int) / 256 ^ j = ((v / 256 ^ j : Nat) : Int) := by simp
  rw [this]
  generalize v / 256 ^ j = x
  simp
theorem replicate_set (k : Nat) (t : List UInt8) (x : UInt8) : (List.replicate (k + 1) (0 : UInt8) ++ t).set k x = List.replicate k 0 ++ x :: t := by
  rw [List.replicate_succ', List.append_assoc, List.set_append_right _ _ (by simp)]
  simp

/-! ### The document's -/
theorem putL_rev_snoc (v n : Nat) : (putL v (n + 1)).reverse = (putL v n).reverse ++ [UInt8.ofNat (v / 256 ^ n % 256)] := by rw [putL_cons]; simp

set_option maxHeartbeats 400000 in
theorem refput_bad (v : Nat) (n : Int) (w : World) (hn : n < 1 ∨ 8 < n) : Calls Try.prog 40 #[.int .u64 v, .int .i64 n] w (OutB w ([], 1)) := by
  rcases hn with hn | hn
  all_goals
    go_enter Try.func40, Try.ntmps40
    go_wp2
    go_ret2
    exact ⟨none, 0, rfl, Own.nil, Below.refl _ _⟩

set_option maxHeartbeats 1000000 in
theorem refput_ok (v m : Nat) (w : World) (hv : v < 18446744073709551616) (h1 : 1 ≤ m) (h8 : m ≤ 8) (R : List UInt8 × Int)
    (hR : Hid (R = if v / 256 ^ m = 0 then (putL v m, 0) else ([], 10))) : Calls Try.prog 40 #[.int .u64 v, .int .i64 m] w (OutB w R) := by
  obtain ⟨i0, hi, hz0, hz1, hz2⟩ := info_parts Try.infoU8
  go_enter Try.func40, Try.ntmps40
  go_wp2
  go_loopw [0, 6, 8] (fun x b i wr => ∃ j y : Nat, j ≤ m ∧ i = .int .i64 j ∧ x = .int .u64 y ∧ Hid (y = v / 256 ^ j) ∧ (∃ A c, b = .slice A j c ∧ Own wr w.heap.size 5 A c (putL v j).reverse) ∧ Below w.heap.size w wr)
    (fun _ _ i _ => m - (intOf i).toNat)
  case atStart => exact ⟨0, v, Nat.zero_le _, rfl, rfl, by simp [Hid], ⟨none, 0, rfl, Own.nil⟩, Below.refl _ _⟩
  case round =>
    obtain ⟨j, y, hj, rfl, rfl, hy, ⟨A, c, rfl, ho⟩, hb⟩ := hrel
    have hyl : y < 18446744073709551616 := by rw [hy.out]; exact Nat.lt_of_le_of_lt (Nat.div_le_self _ _) hv
    by_cases hlt : j < m
    · have Hl : Hid (j = (putL v j).reverse.length) := Lib.hid (by rw [List.length_reverse, putL_length])
      go_wp2_with (at_builtin; refine wpList_append_one _ rfl _ _ 22 rfl w.heap.size 5 i0 _ Try.underlying22 hi hz0 hz1 hz2 rfl A c (putL v j).reverse j rfl Hl.out (ho.alloc _) _ _ _ rfl (UInt8.ofNat (y % 256)) (cell_new1' _ _ _ _ (by simp)) (by omega) (by have := hb.size; simp; omega) ?_; intro A2 c2 w1 ho1 hg1 _)
      go_roundw
      case rel =>
        refine ⟨j + 1, y / 256, by omega, by go_num, by go_num, ?_, ⟨A2, c2, rfl, ?_⟩, ?_⟩
        · rw [hy.out, Nat.pow_succ, ← Nat.div_div_eq_div_mul]; rfl
        · rw [putL_rev_snoc, ← hy.out]; exact ho1
        · exact ((hb.alloc hb.size _).grown hg1 (by have := hb.size; simp; omega) (fun k hk => (ho.lt k hk).1))
      case measure => simp [intOf]; omega
    · obtain rfl : j = m := by omega
      rcases Nat.eq_zero_or_pos y with h0 | h0
      · have hR' : R = (putL v j, 0) := by rw [hR.out, if_pos (by rw [← hy.out]; exact h0)]
        subst hR'
        have hy0 : decide (0 < y) = false := by simp; omega
        clear h0
        clear hR hy
        go_wp2
        clear hy0
        have hbs := ho.bs
        generalize hW : wr.heap.size = B at hbs
        have hBw : w.heap.size ≤ B := hW ▸ hb.size
        have HW := Lib.hid hW
        clear hW
        have hlr : (putL v j).reverse.length = j := by rw [List.length_reverse, putL_length]
        have Hlr := Lib.hid hlr
        clear hlr
        go_loopw [7, 9] (fun b i wq => ∃ k q : Nat, k + q = j ∧ i = .int .i64 ((k : Int) - 1) ∧ (∃ A2 c2, b = .slice A2 q c2 ∧ Own wq B 5 A2 c2 ((putL v j).take q)) ∧ Below B wr wq ∧ B ≤ wq.heap.size)
          (fun _ i _ => (intOf i + 1).toNat)
        case atStart => exact ⟨j, 0, rfl, rfl, ⟨none, 0, rfl, Own.nil⟩, Below.refl _ _, by rw [HW.out]; exact Nat.le_refl _⟩
        case round =>
          obtain ⟨k, q, hkq, rfl, ⟨A2, c2, rfl, ho2⟩, hb2, hB2⟩ := hrel
          rcases Nat.eq_zero_or_pos k with rfl | hk
          · obtain rfl : q = j := by omega
            go_wp2
            go_ret2
            have ho2' := ho2.base_le hBw
            rw [List.take_of_length_le (by rw [putL_length]; omega)] at ho2'
            exact ⟨A2, c2, by rw [putL_length]; rfl, ho2', hb.trans (hb2.mono hBw)⟩
          · obtain ⟨k, rfl⟩ : ∃ z, k = z + 1 := ⟨k - 1, by omega⟩
            rw [show ((k + 1 : Nat) : Int) - 1 = (k : Int) by omega]
            obtain ⟨bb, oo, rfl, hbb, hcc⟩ := (hbs.below hb2) (by rw [Hlr.out]; omega)
            have hck := hcc k (by rw [Hlr.out]; omega)
            have Hl : Hid (q = ((putL v j).take q).length) := Lib.hid (by rw [List.length_take, putL_length]; omega)
            clear hcc
            go_wp2_with (at_builtin; refine wpList_append_one _ rfl _ _ 22 rfl B 5 i0 _ Try.underlying22 hi hz0 hz1 hz2 rfl A2 c2 ((putL v j).take q) q rfl Hl.out (ho2.alloc _) _ _ _ rfl _ (cell_new1 _ _ _) (by omega) (by simp; omega) ?_; intro A3 c3 w3 ho3 hg3 _)
            go_roundw
            case rel =>
              refine ⟨k, q + 1, by omega, rfl, ⟨A3, c3, rfl, ?_⟩, (hb2.alloc hB2 _).grown hg3 (by simp; omega) (fun k hk => (ho2.lt k hk).1), Nat.le_trans hB2 (Nat.le_trans (by simp) hg3.size)⟩
              rw [take_snoc _ q (by rw [putL_length]; omega)]
              have e : (putL v j).length - 1 - k = q := by rw [putL_length]; omega
              simp only [e] at ho3
              exact ho3
            case measure => simp [intOf]
      · have hR' : R = ([], 10) := by rw [hR.out, if_neg (by rw [← hy.out]; omega)]
        subst hR'
        clear hR hy
        go_wp2
        go_ret2
        exact ⟨none, 0, rfl, Own.nil, hb⟩

theorem refput_any (v : Nat) (n : Int) (w : World) (hv : v < 18446744073709551616) :
    Calls Try.prog 40 #[.int .u64 v, .int .i64 n] w (OutB w (putR v n)) := by
  by_cases hn : 1 ≤ n ∧ n ≤ 8
  · obtain ⟨m, rfl⟩ := Int.eq_ofNat_of_zero_le (show 0 ≤ n by omega)
    exact refput_ok v m w hv (by omega) (by omega) _ (Lib.hid (by unfold putR; rw [if_pos hn, Int.toNat_natCast]))
  · rw [show putR v n = ([], 1) from if_neg hn]
    exact refput_bad v n w (by omega)
end Go.Proofs.Ythaamnkihnbgaaa
