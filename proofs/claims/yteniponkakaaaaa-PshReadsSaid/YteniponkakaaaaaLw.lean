/- Names of units of work: their digits and texts (no program here). -/
import Derived.Test.YteniponkakaaaaaBase
namespace Go.Proofs.Yteniponkakaaaaa
open Go.RowKit
set_option linter.unusedVariables false
set_option linter.unusedSimpArgs false

/-- A number's digits. -/
def dig (n : Nat) : List UInt8 := if n < 10 then [UInt8.ofNat (48 + n)] else dig (n / 10) ++ [UInt8.ofNat (48 + n % 10)]
termination_by n
decreasing_by omega
theorem dig_lt (n : Nat) (h : n < 10) : dig n = [UInt8.ofNat (48 + n)] := by rw [dig, if_pos h]
theorem dig_ge (n : Nat) (h : 10 ≤ n) : dig n = dig (n / 10) ++ [UInt8.ofNat (48 + n % 10)] := by rw [dig, if_neg (by omega)]
theorem dig_pos (n : Nat) : 0 < (dig n).length := by
  rcases Nat.lt_or_ge n 10 with h | h
  · rw [dig_lt n h]; simp
  · rw [dig_ge n h]; simp
theorem dig_len (k n : Nat) (hk : 0 < k) (h : n < 10 ^ k) : (dig n).length ≤ k := by
  induction k generalizing n with
  | zero => omega
  | succ k ih =>
    rcases Nat.lt_or_ge n 10 with h1 | h1
    · rw [dig_lt n h1]; simp
    · rw [dig_ge n h1]
      have hk0 : 0 < k := by
        rcases Nat.eq_zero_or_pos k with h0 | h0
        · subst h0; simp at h; omega
        · exact h0
      have := ih (n / 10) hk0 (by rw [Nat.pow_succ] at h; omega)
      simp; omega
theorem dig_len10 (n : Nat) (h : n < 4294967296) : (dig n).length ≤ 10 := dig_len 10 n (by omega) (by
  have : (10 : Nat) ^ 10 = 10000000000 := by decide
  omega)

/-- A digit. -/
def isN (x : UInt8) : Prop := 48 ≤ x.toNat ∧ x.toNat ≤ 57
def isNb (x : UInt8) : Bool := decide (48 ≤ x.toNat) && decide (x.toNat ≤ 57)
theorem isNb_iff (x : UInt8) : isNb x = true ↔ isN x := by simp [isNb, isN]
theorem isNb_not (x : UInt8) (h : ¬ isN x) : isNb x = false := by
  cases h' : isNb x
  · rfl
  · exact absurd ((isNb_iff x).1 h') h
theorem toNat48 (d : Nat) (h : d < 10) : (UInt8.ofNat (48 + d)).toNat = 48 + d := by simp; omega
theorem dig_all (n : Nat) : ∀ x ∈ dig n, isN x := by
  induction n using Nat.strongRecOn with
  | _ n ih =>
    rcases Nat.lt_or_ge n 10 with h | h
    · rw [dig_lt n h]; intro x hx; rw [List.mem_singleton.1 hx]; unfold isN; rw [toNat48 n h]; omega
    · rw [dig_ge n h]
      intro x hx
      rcases List.mem_append.1 hx with hx | hx
      · exact ih _ (by omega) x hx
      · rw [List.mem_singleton.1 hx]; unfold isN; rw [toNat48 (n % 10) (by omega)]; omega

/-- What digits are worth. -/
def dv (l : List UInt8) : Nat := l.foldl (fun v x => 10 * v + (x.toNat - 48)) 0
theorem dv_snoc (l : List UInt8) (x : UInt8) : dv (l ++ [x]) = 10 * dv l + (x.toNat - 48) := by simp [dv]
theorem dv_dig (n : Nat) : dv (dig n) = n := by
  induction n using Nat.strongRecOn with
  | _ n ih =>
    rcases Nat.lt_or_ge n 10 with h | h
    · rw [dig_lt n h]; show 10 * 0 + ((UInt8.ofNat (48 + n)).toNat - 48) = n; rw [toNat48 n h]; omega
    · rw [dig_ge n h, dv_snoc, ih _ (by omega), toNat48 _ (by omega)]; omega
theorem dv_take_le (l : List UInt8) (k : Nat) : dv (l.take k) ≤ dv l := by
  induction l using snoc_ind with
  | h0 => simp
  | h1 l x ih =>
    rcases Nat.lt_or_ge l.length k with h | h
    · rw [List.take_of_length_le (by simp; omega)]; exact Nat.le_refl _
    · rw [List.take_append_of_le_length h, dv_snoc]; omega
theorem dig_head (n : Nat) (t : List UInt8) (h : dig n = 48 :: t) : t = [] := by
  induction n using Nat.strongRecOn generalizing t with
  | _ n ih =>
    rcases Nat.lt_or_ge n 10 with h1 | h1
    · rw [dig_lt n h1] at h; simp at h; exact h.2
    · rw [dig_ge n h1] at h
      have hp := dig_pos (n / 10)
      match hd : dig (n / 10), hp with
      | c :: u, _ =>
        rw [hd] at h
        simp at h
        have hu := ih (n / 10) (by omega) u (by rw [hd, h.1])
        subst hu
        have : dv (dig (n / 10)) = 0 := by rw [hd, h.1]; rfl
        rw [dv_dig] at this
        omega
theorem dig_dv (l : List UInt8) (h0 : 0 < l.length) (hd : ∀ x ∈ l, isN x) (hl : ∀ t, l = 48 :: t → t = []) : dig (dv l) = l := by
  induction l using snoc_ind with
  | h0 => simp at h0
  | h1 m x ih =>
    have hx : isN x := hd x (by simp)
    unfold isN at hx
    have ex : UInt8.ofNat (48 + (x.toNat - 48)) = x := by
      rw [show 48 + (x.toNat - 48) = x.toNat by omega]; simp
    rcases Nat.eq_zero_or_pos m.length with hm | hm
    · have : m = [] := List.eq_nil_of_length_eq_zero hm
      subst this
      show dig (10 * 0 + (x.toNat - 48)) = [x]
      rw [dig_lt _ (by omega), Nat.mul_zero, Nat.zero_add, ex]
    · have hml : ∀ t, m = 48 :: t → t = [] := fun t e => by
        have := hl (t ++ [x]) (by rw [e]; rfl)
        simp at this
      have hmd := ih hm (fun y hy => hd y (by simp [hy])) hml
      have hv : 0 < dv m := by
        rcases Nat.eq_zero_or_pos (dv m) with e | e
        · rw [e, dig_lt 0 (by omega)] at hmd
          have := hl [x] (by rw [← hmd]; rfl)
          simp at this
        · exact e
      rw [dv_snoc, dig_ge _ (by omega), show (10 * dv m + (x.toNat - 48)) / 10 = dv m by omega, show (10 * dv m + (x.toNat - 48)) % 10 = x.toNat - 48 by omega, hmd, ex]
theorem dig_inj (a b : Nat) (h : dig a = dig b) : a = b := by rw [← dv_dig a, h, dv_dig]

/-- The digits at a text's front. -/
def ds (l : List UInt8) : List UInt8 := l.takeWhile isNb
theorem ds_all (l : List UInt8) : ∀ x ∈ ds l, isN x := by
  intro x hx
  have : ∀ l : List UInt8, ∀ x ∈ l.takeWhile isNb, isNb x = true := by
    intro l; induction l with
    | nil => simp
    | cons a t ih =>
      intro x hx
      rw [List.takeWhile_cons] at hx
      cases ha : isNb a
      · rw [ha] at hx; simp at hx
      · rw [ha] at hx
        simp at hx
        rcases hx with rfl | hx
        · exact ha
        · exact ih x hx
  exact (isNb_iff x).1 (this l x hx)
theorem ds_le (l : List UInt8) : (ds l).length ≤ l.length := by
  unfold ds; exact (List.takeWhile_sublist _).length_le
theorem ds_pre (l : List UInt8) : ds l ++ l.drop (ds l).length = l := by
  unfold ds
  induction l with
  | nil => rfl
  | cons a t ih =>
    rw [List.takeWhile_cons]
    cases ha : isNb a
    · simp
    · simp [ih]
theorem ds_take (l : List UInt8) : ds l = l.take (ds l).length := by
  have := congrArg (List.take (ds l).length) (ds_pre l)
  simpa using this
theorem ds_get (l : List UInt8) (k : Nat) (h : k < (ds l).length) : (ds l)[k] = l[k]'(Nat.lt_of_lt_of_le h (ds_le l)) := by
  have h1 : l[k]? = some ((ds l)[k]) := by
    conv => lhs; rw [← ds_pre l]
    rw [List.getElem?_append_left h, List.getElem?_eq_getElem h]
  have h2 := List.getElem?_eq_getElem (Nat.lt_of_lt_of_le h (ds_le l))
  rw [h2] at h1
  exact (Option.some.inj h1).symm
theorem ds_stop (l : List UInt8) (h : (ds l).length < l.length) : ¬ isN (l[(ds l).length]) := by
  unfold ds at h ⊢
  induction l with
  | nil => simp at h
  | cons a t ih =>
    cases ha : isNb a
    · simp only [List.takeWhile_cons, ha, Bool.false_eq_true, if_false, List.length_nil, List.getElem_cons_zero]
      intro h'; rw [(isNb_iff a).2 h'] at ha; cases ha
    · simp only [List.takeWhile_cons, ha, if_true, List.length_cons] at h ⊢
      simp only [List.getElem_cons_succ]
      exact ih (by omega)
theorem ds_app (d r : List UInt8) (hd : ∀ x ∈ d, isN x) (hr : ∀ x t, r = x :: t → ¬ isN x) : ds (d ++ r) = d := by
  unfold ds
  induction d with
  | nil =>
    cases r with
    | nil => rfl
    | cons x t => rw [List.nil_append, List.takeWhile_cons, isNb_not x (hr x t rfl)]; rfl
  | cons a d ih =>
    rw [List.cons_append, List.takeWhile_cons, (isNb_iff a).2 (hd a (by simp))]
    simp only [if_true]
    rw [ih (fun x hx => hd x (by simp [hx]))]

/-- The digits at a place of a text: their number, where they end, whether they are a number's. -/
def numOk (d : List UInt8) : Prop := 0 < d.length ∧ (d.head? = some 48 → d.length = 1) ∧ dv d ≤ 4294967295
theorem numOk_dig (n : Nat) (h : n < 4294967296) : numOk (dig n) := by
  refine ⟨dig_pos n, fun h1 => ?_, by rw [dv_dig]; omega⟩
  match hd : dig n with
  | [] => rw [hd] at h1; simp at h1
  | c :: t =>
    rw [hd] at h1
    simp at h1
    subst h1
    rw [dig_head n t hd]; rfl
theorem numOk_eq (d : List UInt8) (hd : ∀ x ∈ d, isN x) (h : numOk d) : d = dig (dv d) := by
  refine (dig_dv d h.1 hd fun t e => ?_).symm
  subst e
  have := h.2.1 rfl
  simp at this
  exact this

/-- May a name be? -/
def okL (u : Int) (q : Nat) : Bool := decide (0 ≤ u) && (decide (u < 6) && decide (q ≠ 0))
theorem okL_iff (u : Int) (q : Nat) : okL u q = true ↔ 0 ≤ u ∧ u < 6 ∧ q ≠ 0 := by simp [okL]
theorem okL_not (u : Int) (q : Nat) (h : ¬ (0 ≤ u ∧ u < 6 ∧ q ≠ 0)) : okL u q = false := by
  cases h' : okL u q
  · rfl
  · exact absurd ((okL_iff u q).1 h') h

/-- A name's text. -/
def prL (u : Int) (a q : Nat) : List UInt8 := UInt8.ofNat (97 + u).toNat :: (dig a ++ 46 :: dig q)
/-- A text is this name's, or no name's. -/
def ParseIs (s : List UInt8) (u : Int) (a q : Nat) (e : Int) : Prop :=
  (e = 0 ∧ okL u q = true ∧ a < 4294967296 ∧ q < 4294967296 ∧ s = prL u a q) ∨ (e = 50 ∧ u = 0 ∧ a = 0 ∧ q = 0 ∧ ∀ u a q, okL u q = true → a < 4294967296 → q < 4294967296 → s ≠ prL u a q)
theorem not46 : ¬ isN 46 := by unfold isN; decide
theorem prL_inj {u u' : Int} {a a' q q' : Nat} (h : prL u a q = prL u' a' q') (h1 : okL u q = true) (h2 : okL u' q' = true) : u = u' ∧ a = a' ∧ q = q' := by
  unfold prL at h
  rw [okL_iff] at h1 h2
  injection h with h3 h4
  have e1 : dig a = dig a' := by
    rw [← ds_app (dig a) (46 :: dig q) (dig_all a) (fun x t e => by injection e with e _; subst e; exact not46), h4,
      ds_app (dig a') (46 :: dig q') (dig_all a') (fun x t e => by injection e with e _; subst e; exact not46)]
  rw [e1] at h4
  have e2 := List.append_cancel_left h4
  injection e2 with _ e2
  refine ⟨?_, dig_inj _ _ e1, dig_inj _ _ e2⟩
  have := congrArg UInt8.toNat h3
  simp only [UInt8.toNat_ofNat'] at this
  omega
theorem ParseIs.same {s : List UInt8} {u u' : Int} {a a' q q' : Nat} {e e' : Int} (h : ParseIs s u a q e) (h' : ParseIs s u' a' q' e') : u = u' ∧ a = a' ∧ q = q' ∧ e = e' := by
  rcases h with ⟨rfl, h1, h2, h3, h4⟩ | ⟨rfl, rfl, rfl, rfl, h4⟩
  · rcases h' with ⟨rfl, g1, g2, g3, g4⟩ | ⟨rfl, rfl, rfl, rfl, g4⟩
    · obtain ⟨rfl, rfl, rfl⟩ := prL_inj (h4.symm.trans g4) h1 g1
      exact ⟨rfl, rfl, rfl, rfl⟩
    · exact absurd h4 (g4 _ _ _ h1 h2 h3)
  · rcases h' with ⟨rfl, g1, g2, g3, g4⟩ | ⟨rfl, rfl, rfl, rfl, g4⟩
    · exact absurd g4 (h4 _ _ _ g1 g2 g3)
    · exact ⟨rfl, rfl, rfl, rfl⟩
theorem prL_length (u : Int) (a q : Nat) : (prL u a q).length = 2 + (dig a).length + (dig q).length := by simp [prL]; omega
/-- A text of this form is a name's. -/
theorem prL_of {x : UInt8} {d1 d2 : List UInt8} (h1 : numOk d1) (h2 : numOk d2) (a1 : ∀ x ∈ d1, isN x) (a2 : ∀ x ∈ d2, isN x) (hx : 97 ≤ x.toNat) : x :: (d1 ++ 46 :: d2) = prL ((x.toNat : Int) - 97) (dv d1) (dv d2) := by
  unfold prL
  rw [← numOk_eq d1 a1 h1, ← numOk_eq d2 a2 h2, show (97 + ((x.toNat : Int) - 97)).toNat = x.toNat by omega]
  simp

/-! ### The order -/
def lessL (u v : Int) (a b q r : Nat) : Bool := if u = v then (if a = b then decide (q < r) else decide (a < b)) else decide (u < v)
end Go.Proofs.Yteniponkakaaaaa
