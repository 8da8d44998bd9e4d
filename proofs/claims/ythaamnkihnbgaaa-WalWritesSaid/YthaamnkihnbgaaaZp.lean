/- Layer 3: what is read of a front, of what was written, and of what was cut. -/
import Derived.Test.YthaamnkihnbgaaaZc
namespace Go.Proofs.Ythaamnkihnbgaaa
open Go.RowKit
set_option linter.unusedVariables false
set_option linter.unusedSimpArgs false

theorem num_putL (n : Nat) : ∀ v, v < 256 ^ n → num (putL v n) = v := by
  induction n with
  | zero => intro v h; simp at h; subst h; rfl
  | succ n ih =>
    intro v h
    have h1 : v / 256 < 256 ^ n := by rw [Nat.pow_succ] at h; omega
    rw [putL, num_snoc, ih _ h1]
    simp only [UInt8.toNat_ofNat']
    omega
theorem kindOf_take {b : List UInt8} {m : Nat} (h : 3 ≤ m) : kindOf (b.take m) = kindOf b := by
  unfold kindOf
  rw [List.drop_take, List.take_take, show min 1 (m - 2) = 1 by omega]
theorem endOf_take {b : List UInt8} {m : Nat} (h : 3 ≤ m) : endOf (b.take m) = endOf b := by
  unfold endOf
  rw [List.take_take, show min 2 m = 2 by omega]
/-- What the front says. -/
theorem frontR_some {b d : List UInt8} {i n : Nat} (h : frontR b = some (i, d, n)) : 7 ≤ b.length ∧ 1 ≤ kindOf b ∧ endOf b ≤ 1027 ∧ endOf b + 4 ≤ b.length ∧ num ((b.drop (endOf b)).take 4) = sumR (b.take (endOf b)) ∧ i = kindOf b ∧ d = (b.take (endOf b)).drop 3 ∧ n = endOf b + 4 := by
  unfold frontR at h
  split at h
  · cases h
  · split at h
    · cases h
    · split at h
      · cases h
      · rename_i g1 g2 g3
        cases h
        exact ⟨by omega, by omega, by omega, by omega, by simpa using g3, rfl, rfl, rfl⟩
theorem frontR_of {b : List UInt8} (h1 : 7 ≤ b.length) (h2 : 1 ≤ kindOf b) (h3 : endOf b ≤ 1027) (h4 : endOf b + 4 ≤ b.length) (h5 : num ((b.drop (endOf b)).take 4) = sumR (b.take (endOf b))) : frontR b = some (kindOf b, (b.take (endOf b)).drop 3, endOf b + 4) := by
  unfold frontR
  rw [if_neg (by omega), if_neg (by omega), if_neg (by simp [h5])]
theorem frontR_take {b d : List UInt8} {i n m : Nat} (h : frontR b = some (i, d, n)) (hm : n ≤ m) : frontR (b.take m) = some (i, d, n) := by
  obtain ⟨h1, h2, h3, h4, h5, rfl, rfl, rfl⟩ := frontR_some h
  have he : 3 ≤ endOf b := by unfold endOf; omega
  have e1 := kindOf_take (b := b) (m := m) (by omega)
  have e2 := endOf_take (b := b) (m := m) (by omega)
  have hl : (b.take m).length = min m b.length := List.length_take
  have e3 : (b.take m).take (endOf b) = b.take (endOf b) := by rw [List.take_take, show min (endOf b) m = endOf b by omega]
  have := frontR_of (b := b.take m) (by omega) (by omega) (by omega) (by omega) (by
    rw [e2, e3, ← h5, List.drop_take, List.take_take, show min 4 (m - endOf b) = 4 by omega])
  rw [this, e1, e2, e3]
theorem frontR_cut {b d : List UInt8} {i n m : Nat} (h : frontR b = some (i, d, n)) (hm : m < n) : frontR (b.take m) = none := by
  obtain ⟨h1, h2, h3, h4, h5, rfl, rfl, rfl⟩ := frontR_some h
  have hl : (b.take m).length = min m b.length := List.length_take
  unfold frontR
  by_cases h7 : m < 7
  · rw [if_pos (by omega)]
  · rw [if_neg (by omega), if_pos (.inr (.inr (by rw [endOf_take (by omega)]; omega)))]
theorem frontR_nil : frontR [] = none := rfl
theorem readL_nil (k : Nat) : readL k [] = ([], 0) := readL_none frontR_nil

theorem readL_take : ∀ (k : Nat) (b : List UInt8) (k' : Nat), b.length ≤ k → (readL k b).2 ≤ k' → readL k' (b.take (readL k b).2) = readL k b := by
  intro k
  induction k with
  | zero =>
    intro b k' h1 h2
    show readL k' (b.take 0) = ([], 0)
    rw [List.take_zero, readL_nil]
  | succ k ih =>
    intro b k' h1 h2
    rcases hf : frontR b with _ | ⟨i, d, n⟩
    · rw [readL_none hf]
      show readL k' (b.take 0) = ([], 0)
      rw [List.take_zero, readL_nil]
    · have hn := frontR_len hf
      rw [readL_some hf] at h2 ⊢
      dsimp only at h2 ⊢
      obtain ⟨k2, rfl⟩ : ∃ k2, k' = k2 + 1 := ⟨k' - 1, by omega⟩
      rw [readL_some (frontR_take hf (Nat.le_add_right n _)), List.drop_take, Nat.add_sub_cancel_left, ih (b.drop n) k2 (by rw [List.length_drop]; omega) (by omega)]
theorem readR_take (b : List UInt8) : readR (b.take (readR b).2) = readR b := by
  have h1 : (b.take (readR b).2).length = (readR b).2 := by
    rw [List.length_take]
    have : (readR b).2 ≤ b.length := by
      suffices h : ∀ (k : Nat) (b : List UInt8), (readL k b).2 ≤ b.length from h _ _
      intro k
      induction k with
      | zero => intro b; exact Nat.zero_le _
      | succ k ih =>
        intro b
        rcases hf : frontR b with _ | ⟨i, d, n⟩
        · rw [readL_none hf]; exact Nat.zero_le _
        · rw [readL_some hf]
          have h1 := frontR_len hf
          have h2 := ih (b.drop n)
          rw [List.length_drop] at h2
          show n + _ ≤ _
          omega
    omega
  unfold readR at h1 ⊢
  exact readL_take _ _ _ (Nat.le_refl _) (by omega)

/-- What was written is read. -/
theorem frontR_rec {i : Nat} {d rest : List UInt8} (h1 : 1 ≤ i) (h2 : i ≤ 255) (h3 : d.length ≤ 1024) : frontR (recL i d ++ rest) = some (i, d, d.length + 7) := by
  have hl := recL_length i d
  have hlen : (recL i d ++ rest).length = d.length + 7 + rest.length := by rw [List.length_append, hl]
  have e0 : recL i d ++ rest = putL d.length 2 ++ (putL i 1 ++ (d ++ (putL (sumR (headL i d)) 4 ++ rest))) := by unfold recL headL; simp only [List.append_assoc]
  have hk : kindOf (recL i d ++ rest) = i := by
    unfold kindOf
    rw [e0, List.drop_append_of_le_length (by rw [putL_length]; omega), List.drop_of_length_le (by rw [putL_length]; omega), List.nil_append, List.take_append_of_le_length (by rw [putL_length]; omega), List.take_of_length_le (by rw [putL_length]; omega)]
    exact num_putL 1 i (by omega)
  have he : endOf (recL i d ++ rest) = 3 + d.length := by
    unfold endOf
    rw [e0, List.take_append_of_le_length (by rw [putL_length]; omega), List.take_of_length_le (by rw [putL_length]; omega)]
    rw [num_putL 2 _ (by omega)]
  have ht : (recL i d ++ rest).take (3 + d.length) = headL i d := by
    unfold recL
    rw [List.append_assoc, List.take_append_of_le_length (by rw [headL_length]; omega), List.take_of_length_le (by rw [headL_length]; omega)]
  have hd4 : ((recL i d ++ rest).drop (3 + d.length)).take 4 = putL (sumR (headL i d)) 4 := by
    unfold recL
    rw [List.append_assoc, List.drop_append_of_le_length (by rw [headL_length]; omega), List.drop_of_length_le (by rw [headL_length]; omega), List.nil_append, List.take_append_of_le_length (by rw [putL_length]; omega), List.take_of_length_le (by rw [putL_length]; omega)]
  have := frontR_of (b := recL i d ++ rest) (by omega) (by omega) (by omega) (by omega) (by
    rw [he, ht, hd4]
    exact num_putL 4 _ (by have := sumR_lt (headL i d); omega))
  rw [this, hk, he, ht]
  have e1 : (headL i d).drop 3 = d := by
    unfold headL
    rw [List.drop_append_of_le_length (by simp only [List.length_append, putL_length]; omega), List.drop_of_length_le (by simp only [List.length_append, putL_length]; omega), List.nil_append]
  rw [e1, show 3 + d.length + 4 = d.length + 7 by omega]
end Go.Proofs.Ythaamnkihnbgaaa
