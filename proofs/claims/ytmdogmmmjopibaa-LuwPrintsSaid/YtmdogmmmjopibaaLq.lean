/- A name out of a text: the document's worth. -/
import Derived.Test.YtmdogmmmjopibaaLp
namespace Go.Proofs.Ytmdogmmmjopibaa
open Go.RowKit
set_option linter.unusedVariables false
set_option linter.unusedSimpArgs false

def IsU64 (v : Value) : Prop := ∃ z : Int, v = .int .u64 z ∧ 0 ≤ z ∧ z < 18446744073709551616
theorem wrap_u64 (z : Int) : 0 ≤ IntKind.u64.wrap z ∧ IntKind.u64.wrap z < 18446744073709551616 := by
  have : IntKind.u64.wrap z = z % 18446744073709551616 := by simp [IntKind.wrap, IntKind.signed, IntKind.bits]
  omega
set_option maxHeartbeats 400000 in
theorem worth_some (s : ByteArray) (w : World) (hs : s.size ≤ 1000000) : Calls Try.prog 29 #[.string s] w fun e w' => (∃ v, e = .returned v ∧ IsU64 v) ∧ w' = w := by
  go_enter Try.func29, Try.ntmps29
  go_wp2
  go_loop [3, 4] (fun v i => ∃ k : Nat, k ≤ s.size ∧ i = .int .i64 k ∧ IsU64 v) (fun _ i => s.size - (intOf i).toNat)
  case atStart => exact ⟨0, Nat.zero_le _, rfl, 0, rfl, by omega, by omega⟩
  case round =>
    obtain ⟨k, hk, rfl, z, rfl, hz1, hz2⟩ := hrel
    by_cases hlt : k < s.size
    · by_cases h12 : k < 12
      · have i1 := index_chr s k hlt
        have hx := (chr s k).toNat_lt
        generalize (chr s k).toNat = x at *
        go_wp2
        go_round
        case rel => exact ⟨k + 1, by omega, by go_num, _, rfl, by first | omega | exact (wrap_u64 _).1, by first | omega | exact (wrap_u64 _).2⟩
        case measure => simp [intOf]; omega
      · go_wp2
        go_ret
        exact ⟨⟨_, rfl, z, rfl, hz1, hz2⟩, rfl⟩
    · go_wp2
      go_ret
      exact ⟨⟨_, rfl, z, rfl, hz1, hz2⟩, rfl⟩

theorem dv_take_lt (n k : Nat) (h : n < 4294967296) : dv ((dig n).take k) < 4294967296 := by
  have := dv_take_le (dig n) k
  rw [dv_dig] at this; omega
set_option maxHeartbeats 400000 in
theorem worth_dig (s : ByteArray) (n : Nat) (w : World) (hn : n < 4294967296) (hs : sl s = dig n) : Calls Try.prog 29 #[.string s] w fun e w' => e = .returned (.int .u64 n) ∧ w' = w := by
  have hl := dig_len10 n hn
  have hsz : s.size = (dig n).length := by rw [← hs, sl_length]
  have hdv := dv_dig n
  have hall := dig_all n
  have hch : ∀ k, (h : k < (dig n).length) → (dig n)[k] = chr s k := fun k h => by
    have h1 : k < (sl s).length := by rw [hs]; exact h
    rw [← sl_get s k h1]
    simp only [hs]
  have hvl := dv_take_lt n
  generalize dig n = D at *
  have Hch := Lib.hid hch
  have Hall := Lib.hid hall
  have Hdv := Lib.hid hdv
  have Hsz := Lib.hid hsz
  have Hvl := Lib.hid hvl
  have hsz1 : s.size ≤ D.length := by omega
  have hsz2 : D.length ≤ s.size := by omega
  rw [← hdv]
  clear hch hall hdv hsz hvl hs
  go_enter Try.func29, Try.ntmps29
  go_wp2
  go_loop [3, 4] (fun v i => ∃ k : Nat, k ≤ D.length ∧ i = .int .i64 k ∧ v = .int .u64 (dv (D.take k))) (fun _ i => s.size - (intOf i).toNat)
  case atStart => exact ⟨0, Nat.zero_le _, rfl, by simp [dv]⟩
  case round =>
    obtain ⟨k, hk, rfl, rfl⟩ := hrel
    by_cases hlt : k < D.length
    · have i1 := index_chr s k (by omega)
      have hN := Hall.out _ (List.getElem_mem hlt)
      rw [Hch.out k hlt] at hN
      unfold isN at hN
      obtain ⟨hN1, hN2⟩ := hN
      have hv := Hvl.out k hn
      have hsn : dv (D.take (k + 1)) = 10 * dv (D.take k) + ((chr s k).toNat - 48) := by rw [take_snoc D k hlt, dv_snoc, Hch.out k hlt]
      have Hsn := Lib.hid hsn
      generalize (chr s k).toNat = x at *
      generalize dv (D.take k) = V at *
      clear hsn
      go_wp2
      go_round
      case rel => exact ⟨k + 1, by omega, by go_num, by rw [Hsn.out]; congr 1; omega⟩
      case measure => simp [intOf]; omega
    · obtain rfl : k = D.length := by omega
      rw [List.take_length]
      go_wp2
      go_ret
      exact ⟨rfl, rfl⟩
theorem sl_extract (s : ByteArray) (i j : Nat) : sl (s.extract i j) = ((sl s).drop i).take (j - i) := by
  unfold sl
  rw [ByteArray.data_extract, Array.toList_extract, List.extract_eq_take_drop]
theorem extract_size (s : ByteArray) (i j : Nat) : (s.extract i j).size ≤ s.size := by
  rw [← sl_length, sl_extract, ← sl_length s]; simp [List.length_take, List.length_drop]; omega
end Go.Proofs.Ytmdogmmmjopibaa
