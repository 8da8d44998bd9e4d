/- Layer 3: a record that is turned in one byte is none. -/
import Derived.Test.YtflibdiafhkpoaaZk
import Derived.Test.YtflibdiafhkpoaaSumS
namespace Go.Proofs.Ytflibdiafhkpoaa
open Go.RowKit
set_option linter.unusedVariables false
set_option linter.unusedSimpArgs false

theorem sumR_half (l : List UInt8) : sumR l % 65536 = (sumP l).1 ∧ sumR l / 65536 = (sumP l).2 := by
  have := sumP_lt l
  unfold sumR
  omega
def total (l : List UInt8) : Nat := l.foldl (fun v x => v + x.toNat) 0
theorem total_snoc (l : List UInt8) (x : UInt8) : total (l ++ [x]) = total l + x.toNat := by simp [total]
theorem sumP_total (l : List UInt8) : (sumP l).1 = (1 + total l) % 65521 := by
  induction l using snoc_ind with
  | h0 => simp [sumP, total]
  | h1 l x ih => rw [sumP_snoc, total_snoc]; unfold sumStep; dsimp only; rw [ih]; omega
theorem total_cons (l : List UInt8) (x : UInt8) : total (x :: l) = x.toNat + total l := by
  induction l using snoc_ind with
  | h0 => simp [total]
  | h1 l y ih => rw [← List.cons_append, total_snoc, total_snoc, ih]; omega
theorem total_set (l : List UInt8) (j : Nat) (hj : j < l.length) (y : UInt8) : total (l.set j y) + (l[j]'hj).toNat = total l + y.toNat := by
  induction l generalizing j with
  | nil => simp at hj
  | cons x l ih =>
    cases j with
    | zero => simp [total_cons]; omega
    | succ j => simp only [List.set_cons_succ, total_cons, List.getElem_cons_succ]; have := ih j (by simpa using hj); omega
theorem sum_turned (l : List UInt8) (j : Nat) (hj : j < l.length) (y : UInt8) (hy : y ≠ l[j]'hj) : sumR l ≠ sumR (l.set j y) := by
  intro h
  have h1 := (sumR_half l).1
  have h2 := (sumR_half (l.set j y)).1
  rw [← h, h1, sumP_total, sumP_total] at h2
  have h3 := total_set l j hj y
  have h4 := y.toNat_lt
  have h5 := (l[j]'hj).toNat_lt
  have h6 : y.toNat ≠ (l[j]'hj).toNat := fun e => hy (UInt8.toNat_inj.1 e)
  omega

theorem xor_u8 (x y : UInt8) : bits .xor .u8 (x.toNat : Int) (y.toNat : Int) = ((x ^^^ y).toNat : Int) := by
  rw [u8_xor_nat _ _ x.toNat_lt y.toNat_lt, UInt8.toNat_xor]
theorem xor_ne (x y : UInt8) (hy : y ≠ 0) : x ^^^ y ≠ x := by
  intro h
  apply hy
  have h2 : x ^^^ (x ^^^ y) = x ^^^ x := by rw [h]
  rw [← UInt8.xor_assoc, UInt8.xor_self, UInt8.zero_xor] at h2
  exact h2

theorem kindOf_lead {a b : List UInt8} (h : a.take 3 = b.take 3) : kindOf a = kindOf b := by
  unfold kindOf
  have e : ∀ l : List UInt8, (l.drop 2).take 1 = (l.take 3).drop 2 := fun l => by rw [List.drop_take]
  rw [e a, e b, h]
theorem endOf_lead {a b : List UInt8} (h : a.take 2 = b.take 2) : endOf a = endOf b := by
  unfold endOf; rw [h]
theorem endOf_rec {i : Nat} {d rest : List UInt8} (h1 : 1 ≤ i) (h2 : i ≤ 255) (h3 : d.length ≤ 1024) : endOf (recL i d ++ rest) = 3 + d.length := by
  obtain ⟨_, _, _, _, _, _, _, h8⟩ := frontR_some (frontR_rec h1 h2 h3 (rest := rest))
  omega
/-- A record that is turned in its kind or its body, and whatever stands behind it. -/
theorem frontR_turned {i : Nat} {d rest : List UInt8} (h1 : 1 ≤ i) (h2 : i ≤ 255) (h3 : d.length ≤ 1024) (at_ : Nat) (ha : at_ ≤ d.length) (y : UInt8) (hy : y ≠ (recL i d)[2 + at_]'(by rw [recL_length]; omega)) :
    frontR ((recL i d).set (2 + at_) y ++ rest) = none := by
  have hh := headL_length i d
  have hset : (recL i d).set (2 + at_) y = (headL i d).set (2 + at_) y ++ putL (sumR (headL i d)) 4 := by
    unfold recL
    rw [List.set_append, if_pos (by omega)]
  have hget : (recL i d)[2 + at_]'(by rw [recL_length]; omega) = (headL i d)[2 + at_]'(by omega) := by
    unfold recL
    exact List.getElem_append_left (by omega)
  rw [hget] at hy
  have hl : ((recL i d).set (2 + at_) y).length = d.length + 7 := by rw [List.length_set, recL_length]
  have he : endOf ((recL i d).set (2 + at_) y ++ rest) = 3 + d.length := by
    rw [← endOf_rec h1 h2 h3 (rest := rest)]
    refine endOf_lead ?_
    rw [List.take_append_of_le_length (by omega), List.take_append_of_le_length (by rw [recL_length]; omega), List.take_set_of_le (by omega)]
  have ht : ((recL i d).set (2 + at_) y ++ rest).take (3 + d.length) = (headL i d).set (2 + at_) y := by
    rw [hset, List.append_assoc, List.take_append_of_le_length (by rw [List.length_set]; omega), List.take_of_length_le (by rw [List.length_set]; omega)]
  have hd4 : (((recL i d).set (2 + at_) y ++ rest).drop (3 + d.length)).take 4 = putL (sumR (headL i d)) 4 := by
    rw [hset, List.append_assoc, List.drop_append_of_le_length (by rw [List.length_set]; omega), List.drop_of_length_le (by rw [List.length_set]; omega), List.nil_append, List.take_append_of_le_length (by rw [putL_length]; omega), List.take_of_length_le (by rw [putL_length]; omega)]
  unfold frontR
  rw [if_neg (by rw [List.length_append]; omega)]
  split
  · rfl
  · rw [if_pos]
    rw [he, ht, hd4, num_putL 4 _ (by have := sumR_lt (headL i d); omega)]
    exact sum_turned _ _ (by omega) _ hy
/-- Behind good records stands none: they alone are read. -/
theorem readL_then : ∀ (vs : List (Int × List UInt8)), (∀ v ∈ vs, Good v) → ∀ (tail : List UInt8) (k : Nat), frontR tail = none → vs.length ≤ k → readL k (recsL vs ++ tail) = (vs, (recsL vs).length) := by
  intro vs
  induction vs with
  | nil => intro _ tail k ht _; exact readL_none ht
  | cons v vs ih =>
    intro hg tail k ht hk
    have hv := hg v (by simp)
    obtain ⟨k2, rfl⟩ : ∃ k2, k = k2 + 1 := ⟨k - 1, by simp at hk; omega⟩
    have e : recsL (v :: vs) ++ tail = recL v.1.toNat v.2 ++ (recsL vs ++ tail) := by show (recL _ _ ++ recsL vs) ++ tail = _; rw [List.append_assoc]
    have hf : frontR (recsL (v :: vs) ++ tail) = some (v.1.toNat, v.2, v.2.length + 7) := by rw [e]; exact frontR_good hv _
    rw [readL_some hf, e, drop_rec, ih (fun x hx => hg x (by simp [hx])) tail k2 ht (by simp at hk; omega)]
    have ev : ((v.1.toNat : Int), v.2) = v := by rw [Int.toNat_of_nonneg (by have := hv.1; omega)]
    rw [ev]
    show (v :: vs, v.2.length + 7 + (recsL vs).length) = (v :: vs, (recL _ _ ++ recsL vs).length)
    rw [List.length_append, recL_length]
theorem recsL_few (vs : List (Int × List UInt8)) : vs.length ≤ (recsL vs).length := by
  induction vs with
  | nil => exact Nat.zero_le _
  | cons v vs ih => show vs.length + 1 ≤ (recL _ _ ++ recsL vs).length; rw [List.length_append, recL_length]; omega
/-- The j-th record turned: what is read of all. -/
theorem readR_turned {cs : List (Int × List UInt8)} (hg : ∀ v ∈ cs, Good v) (j : Nat) (hj : j < cs.length) (at_ : Nat) (ha : at_ ≤ (cs[j]'hj).2.length) (y : UInt8) (p : Nat) (hp : p = (recsL (cs.take j)).length + 2 + at_) (hlt : p < (recsL cs).length) (hy : y ≠ (recsL cs)[p]'hlt) :
    readR ((recsL cs).set p y) = (cs.take j, (recsL (cs.take j)).length) := by
  have hv := hg _ (List.getElem_mem hj)
  have e : recsL cs = recsL (cs.take j) ++ (recL (cs[j]'hj).1.toNat (cs[j]'hj).2 ++ recsL (cs.drop (j + 1))) := by
    conv => lhs; rw [← List.take_append_drop j cs, recsL_append, List.drop_eq_getElem_cons hj]
    rfl
  have hrl := recL_length (cs[j]'hj).1.toNat (cs[j]'hj).2
  have es : (recsL cs).set p y = recsL (cs.take j) ++ ((recL (cs[j]'hj).1.toNat (cs[j]'hj).2).set (2 + at_) y ++ recsL (cs.drop (j + 1))) := by
    rw [e, List.set_append, if_neg (by omega), List.set_append, if_pos (by omega), show p - (recsL (cs.take j)).length = 2 + at_ by omega]
  have hy' : y ≠ (recL (cs[j]'hj).1.toNat (cs[j]'hj).2)[2 + at_]'(by omega) := by
    intro h
    apply hy
    rw [h]
    have : (recsL cs)[p]? = some ((recL (cs[j]'hj).1.toNat (cs[j]'hj).2)[2 + at_]'(by omega)) := by
      rw [e, List.getElem?_append_right (by omega), List.getElem?_append_left (by omega), show p - (recsL (cs.take j)).length = 2 + at_ by omega, List.getElem?_eq_getElem (by omega)]
    rw [List.getElem?_eq_getElem hlt] at this
    exact (Option.some.inj this).symm
  have hfew := recsL_few (cs.take j)
  unfold readR
  rw [es]
  refine readL_then (cs.take j) (fun v hv => hg v (List.mem_of_mem_take hv)) _ _ (frontR_turned (by have := hv.1; omega) (by have := hv.2.1; omega) hv.2.2 at_ ha y hy') ?_
  rw [List.length_append]
  omega
end Go.Proofs.Ytflibdiafhkpoaa
