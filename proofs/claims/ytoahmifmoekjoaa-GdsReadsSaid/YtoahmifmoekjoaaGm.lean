/- Layer 4: what is written is read: the plain mathematics. -/
import Derived.Test.YtoahmifmoekjoaaGe
namespace Go.Proofs.Ytoahmifmoekjoaa
open Go.RowKit
set_option linter.unusedVariables false
set_option linter.unusedSimpArgs false

theorem front_seg (hd p rest : List UInt8) (last : Bool) (least : Nat) (h : 2 + hd.length + p.length < 32768) (hl : least ≤ 2 + hd.length + p.length) : frontR (segOf hd p last ++ rest) least = (hd ++ p, last, 0) := by
  obtain ⟨L, hL⟩ : ∃ L, L = 2 + hd.length + p.length := ⟨_, rfl⟩
  obtain ⟨n, hn⟩ : ∃ n, n = L + (if last = true then 0 else 32768) := ⟨_, rfl⟩
  have hn6 : n < 65536 := by rw [hn]; split <;> omega
  have hmod : n % 32768 = L := by rw [hn]; split <;> omega
  have hlast : decide (n < 32768) = last := by rw [hn]; cases last <;> simp <;> omega
  unfold segOf
  rw [← hL, ← hn, putL_two]
  simp only [List.cons_append, List.nil_append]
  rw [frontR_cons, num2_putL n hn6, hmod, if_neg (by omega), if_neg (by simp; omega), hlast]
  congr 1
  rw [hL]
  have : List.take (2 + hd.length + p.length) (UInt8.ofNat (n / 256 % 256) :: UInt8.ofNat (n % 256) :: (hd ++ p ++ rest)) = UInt8.ofNat (n / 256 % 256) :: UInt8.ofNat (n % 256) :: (hd ++ p) := by
    rw [show 2 + hd.length + p.length = (hd ++ p).length + 2 by simp; omega]
    simp only [List.take_succ_cons]
    rw [List.take_left']
    rfl
  rw [this]; rfl

theorem segOf_length (hd p : List UInt8) (last : Bool) : (segOf hd p last).length = 2 + hd.length + p.length := by
  unfold segOf; simp only [List.length_append, putL_length]
theorem drop_more {b c d : List UInt8} {n : Nat} (h : b.drop n = c ++ d) : b.drop (n + c.length) = d := by
  rw [← List.drop_drop, h, List.drop_left']
  rfl

theorem next_pieces (seg : Nat) (b rest : List UInt8) (s1 : 1 ≤ seg) (s2 : seg ≤ 2048) : ∀ (k : Nat) (d : List UInt8) (K at_ : Nat) (body hd : List UInt8) (least : Nat), d.length ≤ k → b.drop at_ = segsL hd (piecesL seg k d) ++ rest → (piecesL seg k d).length ≤ K →
    (body ++ hd ++ d).length ≤ 2050 → least ≤ 2 + hd.length → hd.length ≤ 2 →
    nextGo b K at_ body least = (idOf (body ++ hd ++ d), (body ++ hd ++ d).drop 2, at_ + (segsL hd (piecesL seg k d)).length, 0) := by
  intro k
  induction k with
  | zero =>
    intro d K at_ body hd least hk hb hK hlen hle hh
    have hd0 : d = [] := List.eq_nil_of_length_eq_zero (by omega)
    subst hd0
    obtain ⟨K, rfl⟩ : ∃ q, K = q + 1 := ⟨K - 1, by simp [piecesL] at hK; omega⟩
    simp only [piecesL, segsL, List.append_nil] at hb hlen ⊢
    rw [nextGo, hb, front_seg hd [] rest true least (by simp; omega) (by simp; omega)]
    simp only [if_true, List.append_nil]
    rw [if_neg (by omega), segOf_length]
    simp
  | succ k ih =>
    intro d K at_ body hd least hk hb hK hlen hle hh
    by_cases hgt : seg < d.length
    · have hp : piecesL seg (k + 1) d = (d.take seg, false) :: piecesL seg k (d.drop seg) := by rw [piecesL, if_pos hgt]
      rw [hp] at hb hK ⊢
      simp only [segsL, List.append_assoc] at hb
      have hK1 : 1 ≤ (piecesL seg k (d.drop seg)).length := by cases k <;> simp [piecesL] ; split <;> simp
      obtain ⟨K, rfl⟩ : ∃ q, K = q + 1 := ⟨K - 1, by simp at hK; omega⟩
      have htl : (d.take seg).length = seg := by simp; omega
      simp only [List.length_append] at hlen
      rw [nextGo, hb, front_seg hd (d.take seg) _ false least (by omega) (by omega)]
      simp only [if_true, Bool.false_eq_true, if_false]
      rw [if_neg (by simp only [List.length_append, htl]; omega)]
      have hb2 : b.drop (at_ + (2 + (hd ++ d.take seg).length)) = segsL [] (piecesL seg k (d.drop seg)) ++ rest := by
        rw [show 2 + (hd ++ d.take seg).length = (segOf hd (d.take seg) false).length by rw [segOf_length, List.length_append]; omega]
        exact drop_more hb
      rw [ih (d.drop seg) K _ (body ++ (hd ++ d.take seg)) [] 2 (by simp; omega) hb2 (by simp at hK; omega) (by simp only [List.length_append, List.length_drop, htl, List.length_nil]; omega) (by simp) (by simp)]
      have e1 : body ++ (hd ++ List.take seg d) ++ [] ++ List.drop seg d = body ++ hd ++ d := by
        simp only [List.append_nil, List.append_assoc, List.take_append_drop]
      rw [e1]
      simp only [segsL, List.length_append, segOf_length]
      congr 3
      omega
    · rw [piecesL_last hgt] at hb hK ⊢
      simp only [segsL, List.append_nil] at hb ⊢
      obtain ⟨K, rfl⟩ : ∃ q, K = q + 1 := ⟨K - 1, by simp at hK; omega⟩
      simp only [List.length_append] at hlen
      rw [nextGo, hb, front_seg hd d rest true least (by omega) (by omega)]
      simp only [if_true]
      rw [if_neg (by simp only [List.length_append]; omega), segOf_length]
      simp only [List.append_assoc, List.length_append]
      congr 3
      omega

theorem pieces_count (seg : Nat) (s1 : 1 ≤ seg) : ∀ (k : Nat) (d : List UInt8) (m : Nat), d.length ≤ seg * m → 1 ≤ m → (piecesL seg k d).length ≤ m := by
  intro k
  induction k with
  | zero => intro d m _ hm; simpa [piecesL] using hm
  | succ k ih =>
    intro d m hd hm
    by_cases hgt : seg < d.length
    · rw [piecesL, if_pos hgt]
      obtain ⟨m, rfl⟩ : ∃ q, m = q + 1 := ⟨m - 1, by omega⟩
      have hm1 : 1 ≤ m := by
        rcases Nat.eq_zero_or_pos m with rfl | h
        · simp at hd; omega
        · exact h
      have := ih (d.drop seg) m (by rw [List.length_drop]; rw [Nat.mul_succ] at hd; omega) hm1
      simp; omega
    · rw [piecesL_last hgt]; simpa using hm

theorem idOf_put (id : Nat) (h : id < 65536) (d : List UInt8) : idOf (putL id 2 ++ d) = id := by
  rw [putL_two]; exact num2_putL id h

/-- **What is written is read as it was, whatever stands behind.** -/
theorem next_write (id seg : Nat) (data rest : List UInt8) (hid : id < 65536) (s1 : 1 ≤ seg) (s2 : seg ≤ 2048) (hd : data.length ≤ 2048) (hf : data.length ≤ seg * 64) :
    nextR (segsL (putL id 2) (piecesL seg data.length data) ++ rest) = (id, data, (segsL (putL id 2) (piecesL seg data.length data)).length, 0) := by
  have h := next_pieces seg (segsL (putL id 2) (piecesL seg data.length data) ++ rest) rest s1 s2 data.length data 64 0 [] (putL id 2) 4 (Nat.le_refl _) (by simp) (pieces_count seg s1 _ _ 64 hf (by omega))
    (by simp only [List.nil_append, List.length_append, putL_length]; omega) (by rw [putL_length]; omega) (by rw [putL_length]; omega)
  unfold nextR
  rw [h]
  simp only [List.nil_append, Nat.zero_add]
  rw [idOf_put id hid]
  congr 2

theorem front_short (hd p : List UInt8) (last : Bool) (least m : Nat) (h : 2 + hd.length + p.length < 32768) (hl : least ≤ 2 + hd.length + p.length) (hm : m < 2 + hd.length + p.length) (tail : List UInt8) : frontR ((segOf hd p last ++ tail).take m) least = ([], false, 11) := by
  obtain ⟨L, hL⟩ : ∃ L, L = 2 + hd.length + p.length := ⟨_, rfl⟩
  obtain ⟨n, hn⟩ : ∃ n, n = L + (if last = true then 0 else 32768) := ⟨_, rfl⟩
  have hn6 : n < 65536 := by rw [hn]; split <;> omega
  have hmod : n % 32768 = L := by rw [hn]; split <;> omega
  unfold segOf
  rw [← hL, ← hn, putL_two]
  simp only [List.cons_append, List.nil_append]
  rcases m with _ | _ | m
  · rfl
  · rfl
  · simp only [List.take_succ_cons]
    rw [frontR_cons, num2_putL n hn6, hmod, if_neg (by omega), if_pos (by simp only [List.length_cons, List.length_take]; omega)]

theorem next_cut_pieces (seg : Nat) (b rest : List UInt8) (s1 : 1 ≤ seg) (s2 : seg ≤ 2048) : ∀ (k : Nat) (d : List UInt8) (K at_ m : Nat) (body hd : List UInt8) (least : Nat), d.length ≤ k → b.drop at_ = (segsL hd (piecesL seg k d) ++ rest).take m → m < (segsL hd (piecesL seg k d)).length → (piecesL seg k d).length ≤ K →
    (body ++ hd ++ d).length ≤ 2050 → least ≤ 2 + hd.length → hd.length ≤ 2 → nextGo b K at_ body least = (0, [], 0, 11) := by
  intro k
  induction k with
  | zero =>
    intro d K at_ m body hd least hk hb hm hK hlen hle hh
    have hd0 : d = [] := List.eq_nil_of_length_eq_zero (by omega)
    subst hd0
    obtain ⟨K, rfl⟩ : ∃ q, K = q + 1 := ⟨K - 1, by simp [piecesL] at hK; omega⟩
    simp only [piecesL, segsL, List.append_nil, segOf_length] at hb hm
    rw [nextGo, hb, front_short hd [] true least m (by simp; omega) (by simp; omega) hm]
    rfl
  | succ k ih =>
    intro d K at_ m body hd least hk hb hm hK hlen hle hh
    by_cases hgt : seg < d.length
    · have hp : piecesL seg (k + 1) d = (d.take seg, false) :: piecesL seg k (d.drop seg) := by rw [piecesL, if_pos hgt]
      rw [hp] at hb hK hm
      simp only [segsL, List.append_assoc, List.length_append, segOf_length] at hb hm
      have hK1 : 1 ≤ (piecesL seg k (d.drop seg)).length := by cases k <;> simp [piecesL] ; split <;> simp
      obtain ⟨K, rfl⟩ : ∃ q, K = q + 1 := ⟨K - 1, by simp at hK; omega⟩
      have htl : (d.take seg).length = seg := by simp; omega
      simp only [List.length_append] at hlen
      by_cases hc : m < 2 + hd.length + (d.take seg).length
      · rw [nextGo, hb, front_short hd (d.take seg) false least m (by omega) (by omega) hc]
        rfl
      · have hb' : b.drop at_ = segOf hd (d.take seg) false ++ (segsL [] (piecesL seg k (d.drop seg)) ++ rest).take (m - (2 + hd.length + (d.take seg).length)) := by
          rw [hb, List.take_append, segOf_length, List.take_of_length_le (by rw [segOf_length]; omega)]
        rw [nextGo, hb', front_seg hd (d.take seg) _ false least (by omega) (by omega)]
        simp only [if_true, Bool.false_eq_true, if_false]
        rw [if_neg (by simp only [List.length_append, htl]; omega)]
        have hb2 := drop_more hb'
        rw [segOf_length] at hb2
        rw [show at_ + (2 + (hd ++ List.take seg d).length) = at_ + (2 + hd.length + (List.take seg d).length) by rw [List.length_append]; omega]
        exact ih (d.drop seg) K _ _ (body ++ (hd ++ d.take seg)) [] 2 (by simp; omega) hb2 (by omega) (by simp at hK; omega) (by simp only [List.length_append, List.length_drop, htl, List.length_nil]; omega) (by simp) (by simp)
    · rw [piecesL_last hgt] at hb hK hm
      simp only [segsL, List.append_nil, segOf_length] at hb hm
      obtain ⟨K, rfl⟩ : ∃ q, K = q + 1 := ⟨K - 1, by simp at hK; omega⟩
      simp only [List.length_append] at hlen
      rw [nextGo, hb, front_short hd d true least m (by omega) (by omega) hm]
      rfl

/-- **Cut anywhere a variable ends too soon.** -/
theorem next_cut (id seg cut : Nat) (data : List UInt8) (hid : id < 65536) (s1 : 1 ≤ seg) (s2 : seg ≤ 2048) (hd : data.length ≤ 2048) (hf : data.length ≤ seg * 64) (hc : cut < (segsL (putL id 2) (piecesL seg data.length data)).length) :
    nextR ((segsL (putL id 2) (piecesL seg data.length data)).take cut) = (0, [], 0, 11) :=
  next_cut_pieces seg _ [] s1 s2 data.length data 64 0 cut [] (putL id 2) 4 (Nat.le_refl _) (by simp) hc (pieces_count seg s1 _ _ 64 hf (by omega))
    (by simp only [List.nil_append, List.length_append, putL_length]; omega) (by rw [putL_length]; omega) (by rw [putL_length]; omega)

/-- What is read: an ID that may be, data that may be, in enough bytes. -/
theorem next_some (b : List UInt8) : ∀ (K at_ : Nat) (body : List UInt8) (least : Nat), at_ ≤ b.length → (body = [] ∧ least = 4 ∨ 2 ≤ body.length ∧ least = 2) → body.length ≤ at_ → (body = [] ∨ body.length + 2 ≤ at_) →
    (nextGo b K at_ body least).2.2.2 = 0 → (nextGo b K at_ body least).1 < 65536 ∧ (nextGo b K at_ body least).2.1.length ≤ 2048 ∧ (nextGo b K at_ body least).2.1.length + 4 ≤ (nextGo b K at_ body least).2.2.1 ∧ (nextGo b K at_ body least).2.2.1 ≤ b.length := by
  intro K
  induction K with
  | zero => intro at_ body least _ _ _ _ h; cases h
  | succ K ih =>
    intro at_ body least hat hbl hba hb2 h
    rw [nextGo] at h ⊢
    by_cases h0 : (frontR (b.drop at_) least).2.2 = 0
    · have hl2 : 2 ≤ least := by rcases hbl with ⟨_, h⟩ | ⟨_, h⟩ <;> omega
      have hfl := frontR_len (b.drop at_) least h0 hl2
      rw [List.length_drop] at hfl
      rw [if_pos h0] at h ⊢
      obtain ⟨p, hp⟩ : ∃ p, p = (frontR (b.drop at_) least).1 := ⟨_, rfl⟩
      rw [← hp] at h hfl ⊢
      by_cases hbig : 2050 < (body ++ p).length
      · rw [if_pos hbig] at h; cases h
      · rw [if_neg hbig] at h ⊢
        have hge : 2 ≤ (body ++ p).length := by simp only [List.length_append]; rcases hbl with ⟨_, h⟩ | ⟨_, h⟩ <;> omega
        by_cases hlast : (frontR (b.drop at_) least).2.1 = true
        · rw [if_pos hlast]
          rw [List.length_append] at hbig hge
          refine ⟨?_, by simp; omega, ?_, ?_⟩
          · show idOf (body ++ p) < 65536
            rcases hL : body ++ p with _ | ⟨x, _ | ⟨y, t⟩⟩
            · exact Nat.zero_lt_succ _
            · exact Nat.zero_lt_succ _
            · exact num2_lt x y
          · simp only [List.length_drop, List.length_append]; rcases hb2 with h | h <;> simp [h] at * <;> omega
          · show at_ + (2 + p.length) ≤ b.length
            omega
        · rw [if_neg hlast] at h ⊢
          exact ih _ _ _ (by omega) (.inr ⟨hge, rfl⟩) (by simp only [List.length_append]; omega) (.inr (by simp only [List.length_append]; rcases hb2 with h | h <;> simp [h] at * <;> omega)) h
    · rw [if_neg h0] at h
      exact absurd h h0
theorem nextR_some (b : List UInt8) (h : (nextR b).2.2.2 = 0) : (nextR b).1 < 65536 ∧ (nextR b).2.1.length ≤ 2048 ∧ (nextR b).2.1.length + 4 ≤ (nextR b).2.2.1 ∧ (nextR b).2.2.1 ≤ b.length :=
  next_some b 64 0 [] 4 (Nat.zero_le _) (.inl ⟨rfl, rfl⟩) (by simp) (.inl rfl) h
theorem nextR_err (b : List UInt8) (h : (nextR b).2.2.2 ≠ 0) : (nextR b).1 = 0 ∧ (nextR b).2.1 = [] ∧ (nextR b).2.2.1 = 0 := by
  suffices hh : ∀ (K at_ : Nat) (body : List UInt8) (least : Nat), (nextGo b K at_ body least).2.2.2 ≠ 0 → (nextGo b K at_ body least).1 = 0 ∧ (nextGo b K at_ body least).2.1 = [] ∧ (nextGo b K at_ body least).2.2.1 = 0 from hh _ _ _ _ h
  intro K
  induction K with
  | zero => intro at_ body least _; exact ⟨rfl, rfl, rfl⟩
  | succ K ih =>
    intro at_ body least h
    rw [nextGo] at h ⊢
    by_cases h0 : (frontR (b.drop at_) least).2.2 = 0
    · rw [if_pos h0] at h ⊢
      by_cases hbig : 2050 < (body ++ (frontR (b.drop at_) least).1).length
      · rw [if_pos hbig]; exact ⟨rfl, rfl, rfl⟩
      · rw [if_neg hbig] at h ⊢
        by_cases hlast : (frontR (b.drop at_) least).2.1 = true
        · rw [if_pos hlast] at h; exact absurd rfl h
        · rw [if_neg hlast] at h ⊢; exact ih _ _ _ h
    · rw [if_neg h0]; exact ⟨rfl, rfl, rfl⟩
end Go.Proofs.Ytoahmifmoekjoaa
