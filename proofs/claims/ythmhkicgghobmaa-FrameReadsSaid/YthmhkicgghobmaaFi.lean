/- Layer 7: what Read answers (no program here, but for the last). -/
import Derived.Test.YthmhkicgghobmaaFh
namespace Go.Proofs.Ythmhkicgghobmaa
open Go.RowKit
set_option linter.unusedVariables false
set_option linter.unusedSimpArgs false

theorem sumR_half (l : List UInt8) : sumR l % 65536 = (sumP l).1 ∧ sumR l / 65536 = (sumP l).2 := by
  have := sumP_lt l
  unfold sumR
  omega

def total (l : List UInt8) : Nat := l.foldl (fun v x => v + x.toNat) 0
theorem total_snoc (l : List UInt8) (x : UInt8) : total (l ++ [x]) = total l + x.toNat := by simp [total]
theorem sumP_total (l : List UInt8) : (sumP l).1 = (1 + total l) % 65521 := by
  induction l using snoc_ind with
  | h0 => simp [sumP, total]
  | h1 l x ih => rw [sumP_snoc, total_snoc]; unfold sumStep; dsimp only; rw [ih]; omega
theorem total_cons (l : List UInt8) (x : UInt8) : total (x :: l) = x.toNat + total l := by
  induction l using snoc_ind with
  | h0 => simp [total]
  | h1 l y ih => rw [← List.cons_append, total_snoc, total_snoc, ih]; omega
theorem total_set (l : List UInt8) (j : Nat) (hj : j < l.length) (y : UInt8) : total (l.set j y) + (l[j]'hj).toNat = total l + y.toNat := by
  induction l generalizing j with
  | nil => simp at hj
  | cons x l ih =>
    cases j with
    | zero => simp [total_cons]; omega
    | succ j => simp only [List.set_cons_succ, total_cons, List.getElem_cons_succ]; have := ih j (by simpa using hj); omega
theorem sum_turned (l : List UInt8) (j : Nat) (hj : j < l.length) (y : UInt8) (hy : y ≠ l[j]'hj) : sumR l ≠ sumR (l.set j y) := by
  intro h
  have h1 := (sumR_half l).1
  have h2 := (sumR_half (l.set j y)).1
  rw [← h, h1, sumP_total, sumP_total] at h2
  have h3 := total_set l j hj y
  have h4 := y.toNat_lt
  have h5 := (l[j]'hj).toNat_lt
  have h6 : y.toNat ≠ (l[j]'hj).toNat := fun e => hy (UInt8.toNat_inj.1 e)
  omega

theorem xor_u8 (x y : UInt8) : bits .xor .u8 (x.toNat : Int) (y.toNat : Int) = ((x ^^^ y).toNat : Int) := by
  rw [u8_xor_nat _ _ x.toNat_lt y.toNat_lt, UInt8.toNat_xor]
theorem xor_ne (x y : UInt8) (hy : y ≠ 0) : x ^^^ y ≠ x := by
  intro h
  apply hy
  have h2 : x ^^^ (x ^^^ y) = x ^^^ x := by rw [h]
  rw [← UInt8.xor_assoc, UInt8.xor_self, UInt8.zero_xor] at h2
  exact h2


def kF (b : List UInt8) : Nat := num ((b.drop 8).take 2)
/-- What Read answers. -/
def readF (b : List UInt8) : Nat × Nat × Nat × List UInt8 × Int :=
  if b.length < 14 then (0, 0, 0, [], 11) else if b.length < 14 + kF b then (0, 0, 0, [], 11) else if 14 + kF b < b.length then (0, 0, 0, [], 2) else
  if num (b.drop (10 + kF b)) = sumR (b.take (10 + kF b)) then
    if mayF (num ((b.take (10 + kF b)).take 4)) (num (((b.take (10 + kF b)).drop 4).take 2) : Nat) (num (((b.take (10 + kF b)).drop 6).take 2) : Nat) (kF b) = true then
      (num ((b.take (10 + kF b)).take 4), num (((b.take (10 + kF b)).drop 4).take 2), num (((b.take (10 + kF b)).drop 6).take 2), (b.take (10 + kF b)).drop 10, 0)
    else (0, 0, 0, [], 70)
  else (0, 0, 0, [], 31)
theorem putL_num (l : List UInt8) : putL (num l) l.length = l := by
  induction l using snoc_ind with
  | h0 => rfl
  | h1 l x ih =>
    have hx := x.toNat_lt
    rw [List.length_append, List.length_singleton, putL, num_snoc, show (256 * num l + x.toNat) / 256 = num l by omega, ih, show (256 * num l + x.toNat) % 256 = x.toNat by omega]
    simp
theorem num2_lt (l : List UInt8) (h : l.length ≤ 2) : num l < 65536 := by
  have h1 := num_lt l
  have h3 : 256 ^ l.length ≤ 256 ^ 2 := Nat.pow_le_pow_right (by omega) h
  have : (256 : Nat) ^ 2 = 65536 := by decide
  omega
theorem num4_lt (l : List UInt8) (h : l.length ≤ 4) : num l < 4294967296 := by
  have h1 := num_lt l
  have h3 : 256 ^ l.length ≤ 256 ^ 4 := Nat.pow_le_pow_right (by omega) h
  have : (256 : Nat) ^ 4 = 4294967296 := by decide
  omega
theorem num_putL2 (v : Nat) (h : v ≤ 65535) : num (putL v 2) = v := by
  rw [pnum_putL]; exact Nat.mod_eq_of_lt (by have : (256 : Nat) ^ 2 = 65536 := by decide
                                             omega)
theorem num_putL4 (v : Nat) (h : v < 4294967296) : num (putL v 4) = v := by
  rw [pnum_putL]; exact Nat.mod_eq_of_lt (by have : (256 : Nat) ^ 4 = 4294967296 := by decide
                                             omega)
theorem putL_2 (v : Nat) : ∃ a b, putL v 2 = [a, b] := ⟨_, _, rfl⟩
theorem putL_4 (v : Nat) : ∃ a b c d, putL v 4 = [a, b, c, d] := ⟨_, _, _, _, rfl⟩
/-- A frame's bytes, spelled. -/
structure Shape (s q a : Nat) (l : List UInt8) (B : List UInt8) where
  x1 : UInt8
  x2 : UInt8
  x3 : UInt8
  x4 : UInt8
  x5 : UInt8
  x6 : UInt8
  x7 : UInt8
  x8 : UInt8
  x9 : UInt8
  x10 : UInt8
  P : List UInt8
  eB : B = x1 :: x2 :: x3 :: x4 :: x5 :: x6 :: x7 :: x8 :: x9 :: x10 :: (l ++ P)
  eF : frontF s q a l = x1 :: x2 :: x3 :: x4 :: x5 :: x6 :: x7 :: x8 :: x9 :: x10 :: l
  n1 : num [x1, x2, x3, x4] = s
  n2 : num [x5, x6] = q
  n3 : num [x7, x8] = a
  n4 : num [x9, x10] = l.length
  lP : P.length = 4
  nP : num P = sumR (x1 :: x2 :: x3 :: x4 :: x5 :: x6 :: x7 :: x8 :: x9 :: x10 :: l)
theorem shape (s q a : Nat) (l : List UInt8) (hs : s < 4294967296) (hq : q ≤ 65535) (ha : a ≤ 65535) (hl : l.length ≤ 256) : Nonempty (Shape s q a l (bytesF s q a l)) := by
  obtain ⟨x1, x2, x3, x4, e1⟩ := putL_4 s
  obtain ⟨x5, x6, e2⟩ := putL_2 q
  obtain ⟨x7, x8, e3⟩ := putL_2 a
  obtain ⟨x9, x10, e4⟩ := putL_2 l.length
  have eF : frontF s q a l = x1 :: x2 :: x3 :: x4 :: x5 :: x6 :: x7 :: x8 :: x9 :: x10 :: l := by rw [← frontF_eq, e1, e2, e3, e4]; simp
  refine ⟨⟨x1, x2, x3, x4, x5, x6, x7, x8, x9, x10, putL (sumR (frontF s q a l)) 4, ?_, eF, ?_, ?_, ?_, ?_, putL_length _ _, ?_⟩⟩
  · unfold bytesF
    rw [show putAll [sumR (frontF s q a l)] 4 = putL (sumR (frontF s q a l)) 4 by simp [putAll], eF]
    rfl
  · rw [← e1]; exact num_putL4 s hs
  · rw [← e2]; exact num_putL2 q hq
  · rw [← e3]; exact num_putL2 a ha
  · rw [← e4]; exact num_putL2 _ (by omega)
  · rw [num_putL4 _ (sumR_lt _), eF]
theorem readF_write (s q a : Nat) (l : List UInt8) (hs : s < 4294967296) (hm : mayF s q a l.length = true) : readF (bytesF s q a l) = (s, q, a, l, 0) := by
  obtain ⟨_, b2, b3, b4⟩ := (mayF_iff _ _ _ _).1 hm
  obtain ⟨h⟩ := shape s q a l hs (by omega) (by omega) b4
  obtain ⟨x1, x2, x3, x4, x5, x6, x7, x8, x9, x10, P, eB, eF, n1, n2, n3, n4, lP, nP⟩ := h
  rw [eB]
  have hk : kF (x1 :: x2 :: x3 :: x4 :: x5 :: x6 :: x7 :: x8 :: x9 :: x10 :: (l ++ P)) = l.length := n4
  have hlen : (x1 :: x2 :: x3 :: x4 :: x5 :: x6 :: x7 :: x8 :: x9 :: x10 :: (l ++ P)).length = 14 + l.length := by simp [lP]; omega
  have hT : (x1 :: x2 :: x3 :: x4 :: x5 :: x6 :: x7 :: x8 :: x9 :: x10 :: (l ++ P)).take (10 + l.length) = x1 :: x2 :: x3 :: x4 :: x5 :: x6 :: x7 :: x8 :: x9 :: x10 :: l := by
    rw [Nat.add_comm]
    show x1 :: x2 :: x3 :: x4 :: x5 :: x6 :: x7 :: x8 :: x9 :: x10 :: (l ++ P).take l.length = _
    rw [List.take_left]
  have hD : (x1 :: x2 :: x3 :: x4 :: x5 :: x6 :: x7 :: x8 :: x9 :: x10 :: (l ++ P)).drop (10 + l.length) = P := by
    rw [Nat.add_comm]
    show (l ++ P).drop l.length = _
    rw [List.drop_left]
  unfold readF
  rw [hk, hlen, hT, hD, if_neg (by omega), if_neg (by omega), if_neg (by omega), if_pos nP]
  have r1 : num ((x1 :: x2 :: x3 :: x4 :: x5 :: x6 :: x7 :: x8 :: x9 :: x10 :: l).take 4) = s := n1
  have r2 : num (((x1 :: x2 :: x3 :: x4 :: x5 :: x6 :: x7 :: x8 :: x9 :: x10 :: l).drop 4).take 2) = q := n2
  have r3 : num (((x1 :: x2 :: x3 :: x4 :: x5 :: x6 :: x7 :: x8 :: x9 :: x10 :: l).drop 6).take 2) = a := n3
  rw [r1, r2, r3, if_pos hm]
  rfl
theorem readF_cut (s q a : Nat) (l : List UInt8) (hs : s < 4294967296) (hm : mayF s q a l.length = true) (n : Nat) (hn : n < (bytesF s q a l).length) : readF ((bytesF s q a l).take n) = (0, 0, 0, [], 11) := by
  obtain ⟨_, b2, b3, b4⟩ := (mayF_iff _ _ _ _).1 hm
  obtain ⟨h⟩ := shape s q a l hs (by omega) (by omega) b4
  have hl := bytesF_len s q a l
  rw [hl] at hn
  have htl : ((bytesF s q a l).take n).length = n := by rw [List.length_take, hl]; omega
  unfold readF
  rw [htl]
  by_cases h14 : n < 14
  · rw [if_pos h14]
  · rw [if_neg h14]
    obtain ⟨x1, x2, x3, x4, x5, x6, x7, x8, x9, x10, P, eB, eF, n1, n2, n3, n4, lP, nP⟩ := h
    have hk : kF ((bytesF s q a l).take n) = l.length := by
      rw [eB]
      obtain ⟨m, rfl⟩ : ∃ m, n = m + 10 := ⟨n - 10, by omega⟩
      exact n4
    rw [hk, if_pos hn]
theorem readF_more (s q a : Nat) (l more : List UInt8) (hs : s < 4294967296) (hm : mayF s q a l.length = true) (hn : 0 < more.length) : readF (bytesF s q a l ++ more) = (0, 0, 0, [], 2) := by
  obtain ⟨_, b2, b3, b4⟩ := (mayF_iff _ _ _ _).1 hm
  obtain ⟨h⟩ := shape s q a l hs (by omega) (by omega) b4
  have hl := bytesF_len s q a l
  have htl : (bytesF s q a l ++ more).length = 14 + l.length + more.length := by rw [List.length_append, hl]
  obtain ⟨x1, x2, x3, x4, x5, x6, x7, x8, x9, x10, P, eB, eF, n1, n2, n3, n4, lP, nP⟩ := h
  have hk : kF (bytesF s q a l ++ more) = l.length := by rw [eB]; exact n4
  unfold readF
  rw [htl, hk, if_neg (by omega), if_neg (by omega), if_pos (by omega)]
theorem split5 (l : List UInt8) : l.take 4 ++ (l.drop 4).take 2 ++ (l.drop 6).take 2 ++ (l.drop 8).take 2 ++ l.drop 10 = l := by
  have e8 := List.take_append_drop 2 (l.drop 8)
  have e6 := List.take_append_drop 2 (l.drop 6)
  have e4 := List.take_append_drop 2 (l.drop 4)
  rw [List.drop_drop] at e8 e6 e4
  simp only [Nat.reduceAdd] at e8 e6 e4
  simp only [List.append_assoc]
  rw [e8, e6, e4, List.take_append_drop]
/-- What is read is what was written. -/
theorem readF_ok (b : List UInt8) (S Q Z : Nat) (D : List UInt8) (h : readF b = (S, Q, Z, D, 0)) : mayF S Q Z D.length = true ∧ S < 4294967296 ∧ b = bytesF S Q Z D := by
  unfold readF at h
  split at h
  · simp at h
  split at h
  · simp at h
  split at h
  · simp at h
  split at h
  · split at h
    · rename_i h1 h2 h3 h4 h5
      simp only [Prod.mk.injEq, and_true] at h
      obtain ⟨rS, rQ, rZ, rD⟩ := h
      have hkl : kF b < 65536 := num2_lt _ (by rw [List.length_take]; omega)
      have hk8 : kF b = num (((b.take (10 + kF b)).drop 8).take 2) := by
        have hb8 : ((b.take (10 + kF b)).drop 8).take 2 = (b.drop 8).take 2 := by
          rw [List.drop_take, List.take_take, Nat.min_eq_left (by omega)]
        rw [hb8]
        rfl
      generalize hK : kF b = K at *
      generalize hl : b.take (10 + K) = l at *
      have hll : l.length = 10 + K := by rw [← hl, List.length_take]; omega
      have hDl : D.length = K := by rw [← rD, List.length_drop, hll]; omega
      rw [rS, rQ, rZ] at h5
      have hs : S < 4294967296 := by rw [← rS]; exact num4_lt _ (by rw [List.length_take]; omega)
      rw [hDl]
      refine ⟨h5, hs, ?_⟩
      have p1 : putL S 4 = l.take 4 := by rw [← rS]; have := putL_num (l.take 4); rwa [List.length_take, Nat.min_eq_left (by omega)] at this
      have p2 : putL Q 2 = (l.drop 4).take 2 := by rw [← rQ]; have := putL_num ((l.drop 4).take 2); rwa [List.length_take, List.length_drop, Nat.min_eq_left (by omega)] at this
      have p3 : putL Z 2 = (l.drop 6).take 2 := by rw [← rZ]; have := putL_num ((l.drop 6).take 2); rwa [List.length_take, List.length_drop, Nat.min_eq_left (by omega)] at this
      have p4 : putL K 2 = (l.drop 8).take 2 := by rw [hk8]; have := putL_num ((l.drop 8).take 2); rwa [List.length_take, List.length_drop, Nat.min_eq_left (by omega)] at this
      have hf : frontF S Q Z D = l := by
        rw [← frontF_eq, hDl, p1, p2, p3, p4, ← rD]
        exact split5 l
      unfold bytesF
      rw [hf, show putAll [sumR l] 4 = putL (sumR l) 4 by simp [putAll], ← h4]
      have p5 := putL_num (b.drop (10 + K))
      rw [List.length_drop, show b.length - (10 + K) = 4 by omega] at p5
      rw [p5, ← hl, List.take_append_drop]
    · simp at h
  · simp at h
theorem readF_err (b : List UInt8) (S Q Z : Nat) (D : List UInt8) (E : Int) (h : readF b = (S, Q, Z, D, E)) (hE : E ≠ 0) : S = 0 ∧ Q = 0 ∧ Z = 0 ∧ D = [] := by
  unfold readF at h
  split at h
  · simp at h; obtain ⟨rfl, rfl, rfl, rfl, _⟩ := h; exact ⟨rfl, rfl, rfl, rfl⟩
  split at h
  · simp at h; obtain ⟨rfl, rfl, rfl, rfl, _⟩ := h; exact ⟨rfl, rfl, rfl, rfl⟩
  split at h
  · simp at h; obtain ⟨rfl, rfl, rfl, rfl, _⟩ := h; exact ⟨rfl, rfl, rfl, rfl⟩
  split at h
  · split at h
    · simp only [Prod.mk.injEq] at h; exact absurd h.2.2.2.2.symm hE
    · simp at h; obtain ⟨rfl, rfl, rfl, rfl, _⟩ := h; exact ⟨rfl, rfl, rfl, rfl⟩
  · simp at h; obtain ⟨rfl, rfl, rfl, rfl, _⟩ := h; exact ⟨rfl, rfl, rfl, rfl⟩
/-- No byte is turned unseen. -/
theorem readF_turned (s q a : Nat) (l : List UInt8) (j : Nat) (y : UInt8) (hj : j < (bytesF s q a l).length) (hy : (bytesF s q a l)[j]? ≠ some y) (S Q Z : Nat) (D : List UInt8) (E : Int) (h : readF ((bytesF s q a l).set j y) = (S, Q, Z, D, E)) : E ≠ 0 := by
  intro hE
  subst hE
  obtain ⟨_, _, e⟩ := readF_ok _ _ _ _ _ h
  have hlen := congrArg List.length e
  rw [List.length_set, bytesF_len, bytesF_len] at hlen
  have hF : (frontF s q a l).length = 10 + l.length := frontF_len _ _ _ _
  have hF2 : (frontF S Q Z D).length = 10 + l.length := by rw [frontF_len]; omega
  rw [bytesF_len] at hj
  have p4 : ∀ v, putAll [v] 4 = putL v 4 := fun v => by simp [putAll]
  simp only [bytesF, p4] at e hy
  generalize frontF s q a l = F at *
  generalize frontF S Q Z D = F2 at *
  by_cases hlt : j < F.length
  · rw [List.set_append_left _ _ hlt] at e
    obtain ⟨e1, e2⟩ := List.append_inj e (by rw [List.length_set, hF, hF2])
    have := putL_inj4 (sumR_lt _) (sumR_lt _) e2
    rw [← e1] at this
    rw [List.getElem?_append_left hlt, List.getElem?_eq_getElem hlt] at hy
    exact sum_turned F j hlt y (fun e => hy (by rw [e])) this
  · rw [List.set_append_right _ _ (by omega)] at e
    obtain ⟨e1, e2⟩ := List.append_inj e (by rw [hF, hF2])
    subst e1
    rw [List.getElem?_append_right (by omega)] at hy
    have h3 := congrArg (fun t => t[j - F.length]?) e2
    rw [List.getElem?_set_self (by rw [putL_length]; omega)] at h3
    exact hy h3.symm

theorem fread_any (A : Option Addr) (b : List UInt8) (n c : Nat) (hn : Hid (n = b.length)) (hc : Hid (n ≤ c)) (hcm : Hid (c ≤ 9223372036854775807)) (w : World) (hs : Bs w w.heap.size A b) (S Q Z : Nat) (D : List UInt8) (E : Int) (hR : Hid (readF b = (S, Q, Z, D, E))) : Calls Try.prog 14 #[.slice A n c] w (RdO w S Q Z D E) := by
  have h := hR.out
  have hnn := hn.out
  unfold readF at h
  split at h
  · simp only [Prod.mk.injEq] at h
    obtain ⟨rfl, rfl, rfl, rfl, rfl⟩ := h
    exact fread_few A n c w (decide_eq_true (by omega))
  · rename_i h14
    obtain ⟨B, o, rfl, hB, hcell⟩ := hs (by omega)
    split at h
    · rename_i h2
      simp only [Prod.mk.injEq] at h
      obtain ⟨rfl, rfl, rfl, rfl, rfl⟩ := h
      exact fread_2 B o c n (kF b) (10 + kF b) (14 + kF b) b w hn hc hcm (Lib.hid (by omega)) hs (Lib.hid rfl) (Lib.hid rfl) (Lib.hid (by omega)) (by omega)
    · split at h
      · rename_i h2 h3
        simp only [Prod.mk.injEq] at h
        obtain ⟨rfl, rfl, rfl, rfl, rfl⟩ := h
        exact fread_3 B o c n (kF b) (10 + kF b) (14 + kF b) b w hn hc hcm (Lib.hid (by omega)) hs (Lib.hid rfl) (Lib.hid rfl) (Lib.hid (by omega)) (by omega) (by omega)
      · rename_i h2 h3
        split at h
        · rename_i h4
          split at h
          · rename_i h5
            simp only [Prod.mk.injEq] at h
            obtain ⟨rfl, rfl, rfl, rfl, rfl⟩ := h
            exact fread_6 B o c n (kF b) (10 + kF b) b w hn hc hcm (Lib.hid (by omega)) hs (Lib.hid rfl) (Lib.hid rfl) (Lib.hid (by omega)) _ _ (Lib.hid rfl) (Lib.hid rfl) (by rw [h4]; simp) _ _ _ _ (Lib.hid rfl) (Lib.hid rfl) (Lib.hid rfl) (Lib.hid rfl) (Lib.hid h5)
          · rename_i h5
            simp only [Prod.mk.injEq] at h
            obtain ⟨rfl, rfl, rfl, rfl, rfl⟩ := h
            exact fread_5 B o c n (kF b) (10 + kF b) b w hn hc hcm (Lib.hid (by omega)) hs (Lib.hid rfl) (Lib.hid rfl) (Lib.hid (by omega)) _ _ (Lib.hid rfl) (Lib.hid rfl) (by rw [h4]; simp) _ _ _ _ (Lib.hid rfl) (Lib.hid rfl) (Lib.hid rfl) (Lib.hid rfl) (Lib.hid (by simpa using h5))
        · rename_i h4
          simp only [Prod.mk.injEq] at h
          obtain ⟨rfl, rfl, rfl, rfl, rfl⟩ := h
          exact fread_4 B o c n (kF b) (10 + kF b) b w hn hc hcm (Lib.hid (by omega)) hs (Lib.hid rfl) (Lib.hid rfl) (Lib.hid (by omega)) _ _ (Lib.hid rfl) (Lib.hid rfl) (bne_iff_ne.2 (by omega))
end Go.Proofs.Ythmhkicgghobmaa
