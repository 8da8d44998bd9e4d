/- What the document asks of the record at the front, in the program's words. -/
import Derived.Test.YthaamnkihnbgaaaZp
import Derived.Test.YthaamnkihnbgaaaZk
namespace Go.Proofs.Ythaamnkihnbgaaa
open Go.RowKit
set_option linter.unusedVariables false
set_option linter.unusedSimpArgs false

theorem putL_num (l : List UInt8) : putL (num l) l.length = l := by
  induction l using snoc_ind with
  | h0 => rfl
  | h1 l x ih =>
    have hx := x.toNat_lt
    rw [List.length_append, List.length_singleton, putL, num_snoc, show (256 * num l + x.toNat) / 256 = num l by omega, ih, show (256 * num l + x.toNat) % 256 = x.toNat by omega]
    simp
theorem putL_num' {l : List UInt8} {n : Nat} (h : l.length = n) : putL (num l) n = l := by rw [← h]; exact putL_num l
/-- The body, as the document cuts it. -/
def bodyOf (b : List UInt8) : List UInt8 := (b.drop 3).take (num (b.take 2))
theorem bodyOf_len {b : List UInt8} (h : 7 + num (b.take 2) ≤ b.length) : (bodyOf b).length = num (b.take 2) := by
  unfold bodyOf; rw [List.length_take, List.length_drop]; omega
theorem bodyOf_eq (b : List UInt8) : bodyOf b = (b.take (endOf b)).drop 3 := by
  unfold bodyOf endOf; rw [List.drop_take, Nat.add_sub_cancel_left]
theorem parts_of {b : List UInt8} (h : 7 + num (b.take 2) ≤ b.length) : b.take (7 + num (b.take 2)) = b.take 2 ++ (b.drop 2).take 1 ++ bodyOf b ++ (b.drop (endOf b)).take 4 := by
  have e : endOf b = 2 + 1 + num (b.take 2) := by unfold endOf; omega
  rw [e, show 7 + num (b.take 2) = 2 + 1 + num (b.take 2) + 4 by omega, List.take_add, List.take_add, List.take_add]
  unfold bodyOf
  rfl
/-- None: the document's test fails. -/
theorem frontR_not {b : List UInt8} (h : 7 + num (b.take 2) ≤ b.length) (hw : ¬ ((writeR (kindOf b) (bodyOf b)).2 = 0 ∧ (writeR (kindOf b) (bodyOf b)).1 = b.take (7 + num (b.take 2)))) : frontR b = none := by
  rcases hf : frontR b with _ | ⟨i, d, n⟩
  · rfl
  · exfalso
    apply hw
    obtain ⟨h1, h2, h3, h4, h5, rfl, rfl, rfl⟩ := frontR_some hf
    have hl := frontR_len hf
    have hbl := bodyOf_len h
    have hd : (bodyOf b).length ≤ 1024 := by unfold endOf at h3; omega
    have hg : Good ((kindOf b : Int), bodyOf b) := good_of (by unfold writeR; rw [if_neg (by omega), if_neg (by omega)])
    have e := writeR_good hg
    dsimp only at e
    rw [e]
    refine ⟨rfl, ?_⟩
    dsimp only
    rw [Int.toNat_natCast, parts_of h]
    have e1 : putL (bodyOf b).length 2 = b.take 2 := by rw [hbl]; exact putL_num' (by rw [List.length_take]; omega)
    have e2 : putL (kindOf b) 1 = (b.drop 2).take 1 := putL_num' (by rw [List.length_take, List.length_drop]; omega)
    have e3 : headL (kindOf b) (bodyOf b) = b.take (endOf b) := by
      unfold headL
      rw [e1, e2, show endOf b = 2 + 1 + num (b.take 2) by unfold endOf; omega, List.take_add, List.take_add]
      unfold bodyOf
      rfl
    unfold recL
    rw [e3, ← h5, putL_num' (by rw [List.length_take, List.length_drop]; omega)]
    congr 1
    rw [show endOf b = 2 + 1 + num (b.take 2) by unfold endOf; omega, List.take_add, List.take_add]
    unfold bodyOf
    rfl
/-- Some: it holds. -/
theorem frontR_yes {b : List UInt8} (h : 7 + num (b.take 2) ≤ b.length) (h0 : (writeR (kindOf b) (bodyOf b)).2 = 0) (h1 : (writeR (kindOf b) (bodyOf b)).1 = b.take (7 + num (b.take 2))) : frontR b = some (kindOf b, bodyOf b, 7 + num (b.take 2)) := by
  have hg := good_of h0
  have e := writeR_good hg
  dsimp only at e
  rw [e] at h1
  dsimp only at h1
  have hb : b = recL ((kindOf b : Int), bodyOf b).1.toNat ((kindOf b : Int), bodyOf b).2 ++ b.drop (7 + num (b.take 2)) := by
    dsimp only
    rw [h1, List.take_append_drop]
  have := frontR_good hg (b.drop (7 + num (b.take 2)))
  rw [← hb] at this
  rw [this]
  dsimp only
  rw [Int.toNat_natCast, bodyOf_len h, Nat.add_comm]
theorem frontR_short {b : List UInt8} (h : b.length < 7 + num (b.take 2)) : frontR b = none := by
  rcases hf : frontR b with _ | ⟨i, d, n⟩
  · rfl
  · obtain ⟨h1, h2, h3, h4, h5, rfl, rfl, rfl⟩ := frontR_some hf
    unfold endOf at h4
    omega
end Go.Proofs.Ythaamnkihnbgaaa
