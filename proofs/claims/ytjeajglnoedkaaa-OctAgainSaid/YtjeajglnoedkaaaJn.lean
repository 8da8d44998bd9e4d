/- Layer 1: there and back: the plain mathematics. -/
import Derived.Test.YtjeajglnoedkaaaJm
import Derived.Test.YtjeajglnoedkaaaUnhex
import Derived.Test.YtjeajglnoedkaaaGet
import Derived.Test.YtjeajglnoedkaaaPut
namespace Go.Proofs.Ytjeajglnoedkaaa
open Go.RowKit
set_option linter.unusedVariables false
set_option linter.unusedSimpArgs false

theorem num_putL (n : Nat) : ∀ v, v < 256 ^ n → num (putL v n) = v := by
  induction n with
  | zero => intro v h; simp at h; subst h; rfl
  | succ n ih =>
    intro v h
    have h1 : v / 256 < 256 ^ n := by rw [Nat.pow_succ] at h; omega
    rw [putL, num_snoc, ih _ h1]
    simp only [UInt8.toNat_ofNat']
    omega

theorem num2_len (n : Nat) (h : n ≤ 65535) : num2 (UInt8.ofNat (n / 256)) (UInt8.ofNat (n % 256)) = n := by
  unfold num2; simp only [UInt8.toNat_ofNat']; omega
theorem of_hi (x y : UInt8) : UInt8.ofNat (num2 x y / 256) = x := by
  have := x.toNat_lt; have := y.toNat_lt
  rw [← UInt8.toNat_inj]; unfold num2; simp only [UInt8.toNat_ofNat']; omega
theorem of_lo (x y : UInt8) : UInt8.ofNat (num2 x y % 256) = y := by
  have := x.toNat_lt; have := y.toNat_lt
  rw [← UInt8.toNat_inj]; unfold num2; simp only [UInt8.toNat_ofNat']; omega

/-- What was laid is read. -/
theorem pieceR_part (q rest : List UInt8) (h : q.length ≤ 65535) : pieceR (partL q ++ rest) = (q, true) := by
  unfold partL
  simp only [List.cons_append]
  rw [pieceR_cons, num2_len _ h, if_neg (by simp), List.take_left']
  rfl
theorem drop_part (q rest : List UInt8) : (partL q ++ rest).drop (2 + q.length) = rest := by
  have : 2 + q.length = (partL q).length := by rw [partL_length]; omega
  rw [this, List.drop_left']
  rfl
theorem run_join (ls : List (List UInt8)) : ∀ (k p : Nat) (acc : List (List UInt8)), (joinL ls).length ≤ k → acc.length + ls.length ≤ 1000 → (∀ q ∈ ls, q.length ≤ 65535) → runP (scanL k (joinL ls) p) acc = (acc ++ ls, 0, 0) := by
  induction ls with
  | nil => intro k p acc _ _ _; rw [scanL_nil _ _ _ rfl]; simp [runP]
  | cons q ls ih =>
    intro k p acc hk hl hs
    rw [joinL_cons] at hk ⊢
    rw [List.length_append, partL_length] at hk
    obtain ⟨k, rfl⟩ : ∃ k', k = k' + 1 := ⟨k - 1, by omega⟩
    rw [scanL, if_neg (by rw [List.length_append, partL_length]; omega), pieceR_part q _ (hs q (by simp)), runP_cons]
    simp only [List.length_cons] at hl
    rw [if_neg (by simp), if_neg (by omega)]
    simp only [if_true]
    rw [drop_part, ih k _ _ (by omega) (by simp; omega) (fun z hz => hs z (by simp [hz]))]
    simp
theorem split_join (ls : List (List UInt8)) (h1 : ls.length ≤ 1000) (h2 : ∀ q ∈ ls, q.length ≤ 65535) : splitR (joinL ls) = (ls, 0, 0) := by
  have := run_join ls (joinL ls).length 0 [] (Nat.le_refl _) (by simpa using h1) h2
  rw [List.nil_append] at this
  exact this

/-- What is read stands there. -/
theorem part_piece (r : List UInt8) (h : (pieceR r).2 = true) : r = partL (pieceR r).1 ++ r.drop (2 + (pieceR r).1.length) ∧ (pieceR r).1.length ≤ 65535 := by
  rcases r with _ | ⟨x, _ | ⟨y, t⟩⟩
  · cases h
  · cases h
  · have hl := num2_lt x y
    rw [pieceR_cons] at h ⊢
    split at h
    · cases h
    · rename_i g
      rw [if_neg g]
      have e : (t.take (num2 x y)).length = num2 x y := by rw [List.length_take]; omega
      simp only [e]
      refine ⟨?_, by omega⟩
      unfold partL
      rw [e, of_hi, of_lo, Nat.add_comm 2]
      simp only [List.cons_append, List.drop_succ_cons, List.take_append_drop]
theorem run_split : ∀ (k : Nat) (r : List UInt8) (p : Nat) (acc : List (List UInt8)), r.length ≤ k →
    ((runP (scanL k r p) acc).2.2 ≠ 0 → (runP (scanL k r p) acc).1 = [] ∧ 0 ≤ (runP (scanL k r p) acc).2.1 ∧ (runP (scanL k r p) acc).2.1 < p + r.length) ∧
    ((runP (scanL k r p) acc).2.2 = 0 → ∃ qs, (runP (scanL k r p) acc).1 = acc ++ qs ∧ joinL qs = r ∧ ∀ q ∈ qs, q.length ≤ 65535) := by
  intro k
  induction k with
  | zero =>
    intro r p acc hr
    have hr0 : r = [] := List.eq_nil_of_length_eq_zero (by omega)
    subst hr0
    refine ⟨fun h => absurd rfl h, fun _ => ⟨[], by simp [scanL, runP], rfl, by simp⟩⟩
  | succ k ih =>
    intro r p acc hr
    by_cases h0 : r.length = 0
    · have hr0 : r = [] := List.eq_nil_of_length_eq_zero h0
      subst hr0
      rw [scanL_nil _ _ _ rfl]
      exact ⟨fun h => absurd rfl h, fun _ => ⟨[], by simp [runP], rfl, by simp⟩⟩
    · rw [scanL, if_neg h0, runP_cons]
      cases hw : (pieceR r).2 with
      | false =>
        simp only [if_true]
        exact ⟨fun _ => ⟨by first | trivial | rfl, by omega, by omega⟩, fun h => by simp at h⟩
      | true =>
        simp only [Bool.true_eq_false, if_false, if_true]
        by_cases h1 : acc.length = 1000
        · simp only [if_pos h1]
          exact ⟨fun _ => ⟨by first | trivial | rfl, by omega, by omega⟩, fun h => by simp at h⟩
        · simp only [if_neg h1]
          obtain ⟨e, hl⟩ := part_piece r hw
          have hlen := pieceR_len r hw
          obtain ⟨i1, i2⟩ := ih (r.drop (2 + (pieceR r).1.length)) (p + (2 + (pieceR r).1.length)) (acc ++ [(pieceR r).1]) (by rw [List.length_drop]; omega)
          refine ⟨fun h => ?_, fun h => ?_⟩
          · obtain ⟨a1, a2, a3⟩ := i1 h
            rw [List.length_drop] at a3
            exact ⟨a1, a2, by omega⟩
          · obtain ⟨qs, b1, b2, b3⟩ := i2 h
            refine ⟨(pieceR r).1 :: qs, by rw [b1]; simp, ?_, fun q hq => ?_⟩
            · rw [joinL_cons, b2]; exact e.symm
            · rcases List.mem_cons.1 hq with h2 | h2
              · rw [h2]; exact hl
              · exact b3 q h2
theorem split_back (l : List UInt8) (h : (splitR l).2.2 = 0) : joinR (splitR l).1 = (l, 0) := by
  obtain ⟨qs, b1, b2, b3⟩ := (run_split l.length l 0 [] (Nat.le_refl _)).2 h
  have e : (splitR l).1 = qs := by rw [show (splitR l).1 = (runP (scanL l.length l 0) []).1 from rfl, b1]; rfl
  have hl := splitR_len l
  rw [e] at hl ⊢
  rw [joinR_ok hl b3, b2]
theorem split_fault (l : List UInt8) (h : (splitR l).2.2 ≠ 0) : (splitR l).1 = [] ∧ 0 ≤ (splitR l).2.1 ∧ (splitR l).2.1 < l.length := by
  have := (run_split l.length l 0 [] (Nat.le_refl _)).1 h
  exact ⟨this.1, this.2.1, by have h3 := this.2.2; show (runP (scanL l.length l 0) []).2.1 < (l.length : Int); omega⟩
theorem split_parts (l : List UInt8) (h : (splitR l).2.2 = 0) : joinL (splitR l).1 = l ∧ ∀ q ∈ (splitR l).1, q.length ≤ 65535 := by
  obtain ⟨qs, b1, b2, b3⟩ := (run_split l.length l 0 [] (Nat.le_refl _)).2 h
  have e : (splitR l).1 = qs := by rw [show (splitR l).1 = (runP (scanL l.length l 0) []).1 from rfl, b1]; rfl
  rw [e]; exact ⟨b2, b3⟩

/-- Lists that are one's front, in bytes, are one's front. -/
theorem join_prefix (qs : List (List UInt8)) : ∀ ps : List (List UInt8), (∀ q ∈ qs, q.length ≤ 65535) → (∀ q ∈ ps, q.length ≤ 65535) → joinL qs <+: joinL ps → qs <+: ps := by
  induction qs with
  | nil => intro ps _ _ _; exact List.nil_prefix
  | cons q qs ih =>
    intro ps h1 h2 h
    cases ps with
    | nil =>
      obtain ⟨t, ht⟩ := h
      rw [joinL_cons] at ht
      simp [joinL, partL] at ht
    | cons p ps =>
      obtain ⟨t, ht⟩ := h
      rw [joinL_cons, joinL_cons, List.append_assoc] at ht
      have e1 := pieceR_part q (joinL qs ++ t) (h1 q (by simp))
      have e2 := pieceR_part p (joinL ps) (h2 p (by simp))
      rw [ht, e2] at e1
      have hpq : p = q := (Prod.mk.inj e1).1
      subst hpq
      have h3 : joinL qs <+: joinL ps := ⟨t, by have := List.append_cancel_left ht; exact this⟩
      obtain ⟨t2, ht2⟩ := ih ps (fun z hz => h1 z (by simp [hz])) (fun z hz => h2 z (by simp [hz])) h3
      exact ⟨t2, by rw [List.cons_append, ht2]⟩
theorem split_cut (l : List UInt8) (cut : Nat) (hc : cut < l.length) (h : (splitR l).2.2 = 0) (h2 : (splitR (l.take cut)).2.2 = 0) : (splitR (l.take cut)).1.length < (splitR l).1.length := by
  obtain ⟨a1, a2⟩ := split_parts l h
  obtain ⟨b1, b2⟩ := split_parts _ h2
  have hp : joinL (splitR (l.take cut)).1 <+: joinL (splitR l).1 := by rw [a1, b1]; exact List.take_prefix _ _
  obtain ⟨t, ht⟩ := join_prefix _ _ b2 a2 hp
  cases t with
  | nil =>
    rw [List.append_nil] at ht
    rw [ht, a1] at b1
    have := congrArg List.length b1
    rw [List.length_take] at this
    omega
  | cons x t =>
    have := congrArg List.length ht
    rw [List.length_append] at this
    simp only [List.length_cons] at this
    omega

/-- Digits there and back. -/
theorem wd_dig (k : Nat) (h : k < 16) : isD (dig k) ∧ wd (dig k) = k := (dig_eq k h (dig k)).1 rfl
theorem hexL_at (l : List UInt8) : ∀ j, (h : j < l.length) → (hexL l)[2 * j]? = some (dig (l[j].toNat / 16)) ∧ (hexL l)[2 * j + 1]? = some (dig (l[j].toNat % 16)) := by
  induction l with
  | nil => intro j h; simp at h
  | cons x t ih =>
    intro j h
    have e : hexL (x :: t) = dig (x.toNat / 16) :: dig (x.toNat % 16) :: hexL t := by simp [hexL]
    rw [e]
    cases j with
    | zero => simp
    | succ j =>
      have := ih j (by simpa using h)
      rw [show 2 * (j + 1) = 2 * j + 1 + 1 by omega]
      simpa using this
theorem cs_hex (l : List UInt8) (k : Nat) (x : UInt8) (h : (hexL l)[k]? = some x) : cs ⟨(hexL l).toArray⟩ k = x := by
  have hk : k < (hexL l).length := (List.getElem?_eq_some_iff.1 h).1
  unfold cs
  rw [dif_pos (by simpa [ByteArray.size] using hk)]
  have := (List.getElem?_eq_some_iff.1 h).2
  simpa [ByteArray.getElem_eq_getElem_data] using this
theorem hex_good (l : List UInt8) : ∀ j, j < (⟨(hexL l).toArray⟩ : ByteArray).size → isD (cs ⟨(hexL l).toArray⟩ j) := by
  intro j hj
  have hj' : j < 2 * l.length := by have : (⟨(hexL l).toArray⟩ : ByteArray).size = (hexL l).length := by simp [ByteArray.size]
                                    rw [this, hexL_length] at hj; exact hj
  have hx := (l[j / 2]'(by omega)).toNat_lt
  have := hexL_at l (j / 2) (by omega)
  rcases (show j = 2 * (j / 2) ∨ j = 2 * (j / 2) + 1 by omega) with h | h
  · have h1 := cs_hex l (2 * (j / 2)) _ this.1
    rw [← h] at h1
    rw [h1]; exact (wd_dig _ (by omega)).1
  · have h1 := cs_hex l (2 * (j / 2) + 1) _ this.2
    rw [← h] at h1
    rw [h1]; exact (wd_dig _ (by omega)).1
theorem out_hex (l : List UInt8) : outL ⟨(hexL l).toArray⟩ = l := by
  have hsz : (⟨(hexL l).toArray⟩ : ByteArray).size = 2 * l.length := by rw [show (⟨(hexL l).toArray⟩ : ByteArray).size = (hexL l).length by simp [ByteArray.size], hexL_length]
  apply List.ext_getElem
  · rw [outL_length, hsz]; omega
  · intro j h1 h2
    rw [outL_get]
    unfold out1
    have := hexL_at l j h2
    rw [cs_hex l _ _ this.1, cs_hex l _ _ this.2]
    have hx := (l[j]).toNat_lt
    rw [(wd_dig _ (by omega)).2, (wd_dig _ (by omega)).2, ← UInt8.toNat_inj, UInt8.toNat_ofNat']
    omega
end Go.Proofs.Ytjeajglnoedkaaa
