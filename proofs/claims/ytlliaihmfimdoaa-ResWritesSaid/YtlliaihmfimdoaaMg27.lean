/- Parts Tx of one proof. -/
import Derived.Test.YtlliaihmfimdoaaMg26
namespace Go.Proofs.Ytlliaihmfimdoaa.Re
open Go.RowKit Go.Maps Go.Proofs.Ytlliaihmfimdoaa
set_option linter.unusedVariables false
set_option linter.unusedSimpArgs false

theorem num_putL (v n : Nat) : Oc.num (Oc.putL v n) = v % 256 ^ n := by
  induction n generalizing v with
  | zero => simp [Oc.putL, Oc.num, Nat.mod_one]
  | succ n ih =>
    rw [Oc.putL, Oc.num_snoc, ih]
    have h1 : (UInt8.ofNat (v % 256)).toNat = v % 256 := by simp
    rw [h1, Nat.pow_succ]
    have h2 := Nat.mod_mul (x := v) (a := 256) (b := 256 ^ n)
    rw [Nat.mul_comm (256 ^ n) 256, h2]
    omega
/-- A change that can be written, with its bounds. -/
def WOk (x : Ch) : Prop := badC x = false ∧ x.y ≤ 9223372036854775807 ∧ x.v < 18446744073709551616
theorem chg_rec {x : Ch} (h : WOk x) : chg (recB x) = if 4611686018427387904 < x.y then (⟨0, 0, 0⟩, 30) else (x, 0) := by
  obtain ⟨h1, h2, h3⟩ := h
  unfold badC at h1
  simp at h1
  obtain ⟨k, y, v⟩ := x
  dsimp only at h1 h2 h3 ⊢
  obtain ⟨k, rfl⟩ := Int.eq_ofNat_of_zero_le (show 0 ≤ k by omega)
  obtain ⟨y, rfl⟩ := Int.eq_ofNat_of_zero_le (show 0 ≤ y by omega)
  have p8 : (256 : Nat) ^ 8 = 18446744073709551616 := by decide
  have tk : ∀ (a b : List UInt8) (n : Nat), a.length = n → (a ++ b).take n = a ∧ (a ++ b).drop n = b := by rintro a b _ rfl; exact ⟨List.take_left, List.drop_left⟩
  have hl1 : (Oc.putL k 1).length = 1 := Oc.putL_length _ _
  have hl2 : (Oc.putL y 8).length = 8 := Oc.putL_length _ _
  have er : recB ⟨(k : Int), (y : Int), v⟩ = Oc.putL k 1 ++ (Oc.putL y 8 ++ Oc.putL v 8) := by unfold recB; rw [Int.toNat_natCast, Int.toNat_natCast]
  have e1 : (recB ⟨(k : Int), (y : Int), v⟩).take 1 = Oc.putL k 1 := by rw [er]; exact (tk _ _ 1 hl1).1
  have d1 : (recB ⟨(k : Int), (y : Int), v⟩).drop 1 = Oc.putL y 8 ++ Oc.putL v 8 := by rw [er]; exact (tk _ _ 1 hl1).2
  have e2 : ((recB ⟨(k : Int), (y : Int), v⟩).drop 1).take 8 = Oc.putL y 8 := by rw [d1]; exact (tk _ _ 8 hl2).1
  have e3 : (recB ⟨(k : Int), (y : Int), v⟩).drop 9 = Oc.putL v 8 := by
    have : (recB ⟨(k : Int), (y : Int), v⟩).drop 9 = ((recB ⟨(k : Int), (y : Int), v⟩).drop 1).drop 8 := by rw [List.drop_drop]
    rw [this, d1]; exact (tk _ _ 8 hl2).2
  have n1 : Oc.num (Oc.putL k 1) = k := by rw [num_putL, Nat.pow_one]; exact Nat.mod_eq_of_lt (by omega)
  have n2 : Oc.num (Oc.putL y 8) = y := by rw [num_putL, p8]; exact Nat.mod_eq_of_lt (by omega)
  have n3 : Oc.num (Oc.putL v 8) = v := by rw [num_putL, p8]; exact Nat.mod_eq_of_lt h3
  unfold chg
  rw [e2, e1, e3, n1, n2, n3]
  by_cases hy : 4611686018427387904 < y
  · rw [if_pos (.inr (.inr hy)), if_pos (by omega)]
  · rw [if_neg (by omega), if_neg (by omega)]
theorem bytesC_app (a b : List Ch) : bytesC (a ++ b) = bytesC a ++ bytesC b := by unfold bytesC; rw [List.flatMap_append]
theorem pcC_bytes (l : List Ch) (i : Nat) (h : i < l.length) : pcC (bytesC l) i = recB (l[i]'h) := by
  have e : l = l.take i ++ (l[i]'h :: l.drop (i + 1)) := by rw [← List.drop_eq_getElem_cons h, List.take_append_drop]
  have e2 : bytesC l = bytesC (l.take i) ++ (recB (l[i]'h) ++ bytesC (l.drop (i + 1))) := by
    conv => lhs; rw [e]
    rw [bytesC_app]
    rfl
  have hlen : (bytesC (l.take i)).length = 17 * i := by rw [bytesC_len, List.length_take]; omega
  unfold pcC
  rw [e2, ← hlen, List.drop_left]
  have h17 := recB_len (l[i]'h)
  rw [List.take_append_of_le_length (by omega), List.take_of_length_le (by omega)]
def bigY (x : Ch) : Bool := decide (4611686018427387904 < x.y)
theorem read_back {l : List Ch} (h48 : l.length ≤ 48) (h : ∀ x ∈ l, WOk x) : readC (bytesC l) = if l.any bigY = true then ([], 30) else (l, 0) := by
  have hlen := bytesC_len l
  have hm : (bytesC l).length / 17 = l.length := by omega
  have hc : ∀ i (hi : i < l.length), chg (pcC (bytesC l) i) = if 4611686018427387904 < (l[i]'hi).y then (⟨0, 0, 0⟩, 30) else (l[i]'hi, 0) := fun i hi => by
    rw [pcC_bytes l i hi]; exact chg_rec (h _ (List.getElem_mem hi))
  unfold readC
  rw [if_neg (by omega), hm, if_neg (by omega)]
  by_cases hb : l.any bigY = true
  · rw [if_pos hb, if_neg]
    intro hall
    rw [List.all_eq_true] at hall
    obtain ⟨x, hx, hxb⟩ := List.any_eq_true.1 hb
    obtain ⟨i, hi, rfl⟩ := List.mem_iff_getElem.1 hx
    have h1 := hall i (List.mem_range.2 hi)
    rw [hc i hi, if_pos (by unfold bigY at hxb; simpa using hxb)] at h1
    simp at h1
  · rw [if_neg hb]
    have hnb : ∀ i (hi : i < l.length), ¬ 4611686018427387904 < (l[i]'hi).y := fun i hi hy => hb (List.any_eq_true.2 ⟨_, List.getElem_mem hi, by unfold bigY; simpa using hy⟩)
    have hall : (List.range l.length).all (fun i => (chg (pcC (bytesC l) i)).2 == 0) = true := by
      rw [List.all_eq_true]
      intro i hi
      have hi := List.mem_range.1 hi
      rw [hc i hi, if_neg (hnb i hi)]; rfl
    rw [if_pos hall]
    congr 1
    unfold chsC
    refine List.ext_getElem (by rw [List.length_map, List.length_range]) fun i h1 h2 => ?_
    rw [List.getElem_map, List.getElem_range, hc i h2, if_neg (hnb i h2)]
theorem write_ok {l : List Ch} (h48 : l.length ≤ 48) (h : ∀ x ∈ l, badC x = false) : writeC l = (bytesC l, 0) := by
  unfold writeC
  rw [if_neg (by omega), if_neg]
  intro hb
  obtain ⟨x, hx, hxb⟩ := List.any_eq_true.1 hb
  rw [h x hx] at hxb
  cases hxb
end Go.Proofs.Ytlliaihmfimdoaa.Re
