/- Layer 16: kids in another order. -/
import Derived.Test.YtmfjenhonghkpaaUs
namespace Go.Proofs.Ytmfjenhonghkpaa
open Go Go.RowKit
set_option linter.unusedVariables false
set_option linter.unusedSimpArgs false

/-- A number's low bits. -/
theorem and_low (x : Int) (m : Nat) (hm : m ≤ 9223372036854775807) : ∃ q : Nat, q ≤ m ∧ bits .and .i64 x (m : Int) = (q : Int) := by
  refine ⟨(BitVec.ofInt 64 x &&& BitVec.ofInt 64 (m : Int)).toNat, ?_, ?_⟩
  · rw [BitVec.toNat_and]
    have h : (BitVec.ofInt 64 (m : Int)).toNat = m := by
      rw [BitVec.toNat_ofInt]; omega
    rw [h]
    exact Nat.and_le_right
  · have h2 : (BitVec.ofInt 64 x &&& BitVec.ofInt 64 (m : Int)).toNat ≤ m := by
      rw [BitVec.toNat_and]
      have h : (BitVec.ofInt 64 (m : Int)).toNat = m := by rw [BitVec.toNat_ofInt]; omega
      rw [h]
      exact Nat.and_le_right
    show IntKind.i64.wrap (((BitVec.ofInt 64 x &&& BitVec.ofInt 64 (m : Int)).toNat : Nat) : Int) = _
    exact IntWalk.i64_in _ (by omega)
def nr0 : NR := ⟨0, none, 0, .nil⟩
def rotN (l : List NR) (q i : Nat) : List NR := (List.range i).map fun j => l.getD ((j + q) % l.length) nr0
theorem rotN_succ (l : List NR) (q i : Nat) : rotN l q (i + 1) = rotN l q i ++ [l.getD ((i + q) % l.length) nr0] := by simp [rotN, List.range_succ]
theorem rotN_len (l : List NR) (q i : Nat) : (rotN l q i).length = i := by simp [rotN]
theorem rot_full (l : List NR) (q : Nat) (hn : 0 < l.length) : rotN l q l.length = l.drop (q % l.length) ++ l.take (q % l.length) := by
  have hq : q % l.length < l.length := Nat.mod_lt _ hn
  apply List.ext_getElem
  · simp [rotN]; omega
  · intro i h1 h2
    have hi : i < l.length := by simpa [rotN] using h1
    have hm : (i + q) % l.length = (i + q % l.length) % l.length := by rw [Nat.add_mod, Nat.mod_eq_of_lt hi]
    simp only [rotN, List.getElem_map, List.getElem_range]
    rw [hm]
    by_cases hc : i + q % l.length < l.length
    · rw [Nat.mod_eq_of_lt hc, List.getElem_append_left (by simp; omega), List.getElem_drop]
      rw [List.getD_eq_getElem?_getD, List.getElem?_eq_getElem hc]
      simp only [Option.getD_some]
      congr 1
      omega
    · have hs : (i + q % l.length) % l.length = i + q % l.length - l.length := by rw [Nat.mod_eq_sub_mod (by omega), Nat.mod_eq_of_lt (by omega)]
      rw [hs, List.getElem_append_right (by simp; omega), List.getElem_take]
      rw [List.getD_eq_getElem?_getD, List.getElem?_eq_getElem (by omega)]
      simp only [Option.getD_some, List.length_drop]
      congr 1
      omega
theorem rot_perm (l : List NR) (q : Nat) : (rotN l q l.length).Perm l := by
  rcases Nat.eq_zero_or_pos l.length with h0 | h0
  · rw [List.eq_nil_of_length_eq_zero h0]; exact List.Perm.refl _
  · rw [rot_full l q h0]
    exact (List.perm_append_comm).trans (by rw [List.take_append_drop])
theorem sum_perm {a b : List Nat} (h : a.Perm b) : a.sum = b.sum := by
  induction h with
  | nil => rfl
  | cons x _ ih => simp only [List.sum_cons, ih]
  | swap x y l => simp only [List.sum_cons]; omega
  | trans _ _ ih1 ih2 => exact ih1.trans ih2
theorem says3_mem {a b : List Int} (h : ∀ z, z ∈ a ↔ z ∈ b) : says3L a = says3L b := by
  have h1 : ∀ p : Int → Bool, a.all p = b.all p := fun p => by
    rw [Bool.eq_iff_iff, List.all_eq_true, List.all_eq_true]
    exact ⟨fun hh z hz => hh z ((h z).2 hz), fun hh z hz => hh z ((h z).1 hz)⟩
  have h2 : ∀ p : Int → Bool, a.any p = b.any p := fun p => by
    rw [Bool.eq_iff_iff, List.any_eq_true, List.any_eq_true]
    exact ⟨fun ⟨z, hz, hp⟩ => ⟨z, (h z).1 hz, hp⟩, fun ⟨z, hz, hp⟩ => ⟨z, (h z).2 hz, hp⟩⟩
  unfold says3L
  rw [h1, h2]
theorem order_facts {v : Int} {l l2 : List NR} (hp : l2.Perm l) (h : rightB v (foN l) = true) : rightB v (foN l2) = true ∧ saysB v (foN l2) = saysB v (foN l) ∧ flowsM v (foN l2) = flowsM v (foN l) := by
  have hc : (foN l2).cnt = (foN l).cnt := by rw [cnt_foN, cnt_foN]; exact sum_perm (hp.map _)
  have hr := right_of h (fun x hx => hp.mem_iff.1 hx) (Nat.le_of_eq hc)
  refine ⟨hr, ?_, ?_⟩
  · unfold saysB
    rw [votesL_eq, votesL_eq, votes_foN, votes_foN]
    refine says3_mem fun z => ?_
    simp only [List.mem_cons, List.mem_flatMap]
    exact or_congr Iff.rfl ⟨fun ⟨x, hx, hz⟩ => ⟨x, hp.mem_iff.1 hx, hz⟩, fun ⟨x, hx, hz⟩ => ⟨x, hp.mem_iff.2 hx, hz⟩⟩
  · rw [flows_count hr, flows_count h, hc, toldC_foN, toldC_foN, sum_perm (hp.map _)]
end Go.Proofs.Ytmfjenhonghkpaa
