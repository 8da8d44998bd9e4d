/- What a crash leaves of many records. -/
import Derived.Test.YtflibdiafhkpoaaZv
import Derived.Test.YtflibdiafhkpoaaZj
namespace Go.Proofs.Ytflibdiafhkpoaa
open Go.RowKit
set_option linter.unusedVariables false
set_option linter.unusedSimpArgs false

theorem recsL_mono (rs : List (Int × List UInt8)) {i j : Nat} (h : i ≤ j) : (recsL (rs.take i)).length ≤ (recsL (rs.take j)).length := by
  have e : rs.take j = rs.take i ++ (rs.take j).drop i := by
    conv => lhs; rw [← List.take_append_drop i (rs.take j)]
    rw [List.take_take, Nat.min_eq_left h]
  rw [e, recsL_append, List.length_append]
  omega
theorem whole_of (rs : List (Int × List UInt8)) (m : Nat) : ∀ n, n ≤ rs.length → ∃ j, j ≤ n ∧ (recsL (rs.take j)).length ≤ m ∧ (j < n → m < (recsL (rs.take (j + 1))).length) := by
  intro n
  induction n with
  | zero => intro _; exact ⟨0, Nat.le_refl _, Nat.zero_le _, fun h => absurd h (by omega)⟩
  | succ n ih =>
    intro h
    obtain ⟨j, h1, h2, h3⟩ := ih (by omega)
    by_cases hj : j < n
    · exact ⟨j, by omega, h2, fun _ => h3 hj⟩
    · obtain rfl : j = n := by omega
      by_cases hm : m < (recsL (rs.take (j + 1))).length
      · exact ⟨j, by omega, h2, fun _ => hm⟩
      · exact ⟨j + 1, Nat.le_refl _, by omega, fun h => absurd h (by omega)⟩
/-- What is read of a front behind the records that were forced. -/
theorem found_of {rs1 t : List (Int × List UInt8)} (hg : ∀ v ∈ rs1 ++ t, Good v) {m : Nat} (h1 : (recsL rs1).length ≤ m) (h2 : m ≤ (recsL (rs1 ++ t)).length) :
    ∃ j, rs1.length ≤ j ∧ j ≤ (rs1 ++ t).length ∧ (readR ((recsL (rs1 ++ t)).take m)).1 = (rs1 ++ t).take j := by
  obtain ⟨j, q1, q2, q3⟩ := whole_of (rs1 ++ t) m (rs1 ++ t).length (Nat.le_refl _)
  refine ⟨j, ?_, q1, by rw [readR_cut hg h2 q1 q2 q3]⟩
  apply Classical.byContradiction
  intro hlt
  have e : (rs1 ++ t).take rs1.length = rs1 := by rw [List.take_append_of_le_length (Nat.le_refl _), List.take_length]
  have h3 := recsL_mono (rs1 ++ t) (show j + 1 ≤ rs1.length by omega)
  rw [e] at h3
  have h4 := q3 (by rw [List.length_append] at q1 ⊢; omega)
  omega
/-- Adding to many records. -/
theorem addR_recs {rs : List (Int × List UInt8)} (hg : ∀ v ∈ rs, Good v) (room f : Nat) (k : Int) (d : List UInt8) (force : Bool) :
    ∃ e t f', addR room (recsL rs) f k d force = (e, recsL (rs ++ t), f') ∧ (∀ v ∈ rs ++ t, Good v) ∧ (force = true → f = (recsL rs).length → f' = (recsL (rs ++ t)).length) ∧ (force = false → f' = f) := by
  unfold addR
  split
  · exact ⟨_, [], f, by rw [List.append_nil], by rw [List.append_nil]; exact hg, fun _ h => by rw [List.append_nil]; exact h, fun _ => rfl⟩
  · split
    · exact ⟨_, [], f, by rw [List.append_nil], by rw [List.append_nil]; exact hg, fun _ h => by rw [List.append_nil]; exact h, fun _ => rfl⟩
    · rename_i h1 h2
      have hgd := good_of (Decidable.not_not.1 h1)
      have hw := writeR_good hgd
      dsimp only at hw
      have e : recsL rs ++ (writeR k d).1 = recsL (rs ++ [(k, d)]) := by
        rw [hw, recsL_append]
        show _ = _ ++ (recL _ _ ++ [])
        rw [List.append_nil]
      rw [e]
      refine ⟨_, [(k, d)], _, rfl, fun v hv => ?_, fun hf _ => by rw [hf]; rfl, fun hf => by rw [hf]; rfl⟩
      rcases List.mem_append.1 hv with h | h
      · exact hg v h
      · rw [List.mem_singleton.1 h]; exact hgd
theorem TapeOut.below {w w' w0 : World} {p room : Nat} {r : Int × List UInt8 × Nat} {e : Ending} (h : TapeOut w p room r e w') (hb : Below w0.heap.size w0 w) (hp : w0.heap.size ≤ p) : Below w0.heap.size w0 w' :=
  hb.grown h.2.2.1 hb.size (fun k hk => by cases hk; exact hp)
theorem OpenO.below {w w' w0 : World} {p room : Nat} {r : List (Int × List UInt8)} {l : List UInt8} {e : Ending} (h : OpenO w p room r l e w') (hb : Below w0.heap.size w0 w) (hp : w0.heap.size ≤ p) : Below w0.heap.size w0 w' := by
  obtain ⟨q, A, c, _, _, _, hg, _⟩ := h
  exact hb.grown hg hb.size (fun k hk => by cases hk; exact hp)
end Go.Proofs.Ytflibdiafhkpoaa
