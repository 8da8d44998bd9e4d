/- Layer 4: the document's Next, its steps as numbers. -/
import Derived.Test.YtoahmifmoekjoaaGb
import Derived.Test.YtoahmifmoekjoaaInvT
namespace Go.Proofs.Ytoahmifmoekjoaa
open Go.RowKit
set_option linter.unusedVariables false
set_option linter.unusedSimpArgs false

/-- Where the document's Next stands: in segment j + 1, at at_; its bytes so far; the data and the ID among them. -/
def NSt (j at_ least : Nat) (body D : List UInt8) (idv : Nat) : Prop :=
  (j = 0 ∧ at_ = 0 ∧ body = [] ∧ least = 4 ∧ D = [] ∧ idv = 0) ∨ (1 ≤ j ∧ least = 2 ∧ 2 ≤ body.length ∧ D = body.drop 2 ∧ idv = idOf body)

theorem drop_two (b : List UInt8) (n : Nat) (h : n + 2 ≤ b.length) : b.drop n = b[n] :: b[n + 1] :: b.drop (n + 2) := by
  rw [List.drop_eq_getElem_cons (by omega), List.drop_eq_getElem_cons (by omega)]

theorem nst_short {b : List UInt8} {k at_ least : Nat} {body : List UInt8} (h : b.length < at_ + 2) : nextGo b (k + 1) at_ body least = (0, [], 0, 11) := by
  have hl : (b.drop at_).length < 2 := by rw [List.length_drop]; omega
  have hf : frontR (b.drop at_) least = ([], false, 11) := by
    rcases hd : b.drop at_ with _ | ⟨x, _ | ⟨y, t⟩⟩
    · rfl
    · rfl
    · exact absurd hl (by rw [hd]; simp)
  rw [nextGo, hf]; rfl
theorem nst_front {b : List UInt8} {at_ least n : Nat} (h : at_ + 2 ≤ b.length) (hn : n = num2 b[at_] b[at_ + 1]) :
    frontR (b.drop at_) least = if n % 32768 < least then ([], false, 40) else if b.length < at_ + n % 32768 then ([], false, 11) else (((b.drop at_).take (n % 32768)).drop 2, decide (n < 32768), 0) := by
  subst hn
  rw [drop_two b at_ h, frontR_cons, ← drop_two b at_ h]
  have e : ((b.drop at_).length < num2 b[at_] b[at_ + 1] % 32768) ↔ (b.length < at_ + num2 b[at_] b[at_ + 1] % 32768) := by rw [List.length_drop]; omega
  simp only [e]
theorem nst_gds {b : List UInt8} {k at_ least n : Nat} {body : List UInt8} (h : at_ + 2 ≤ b.length) (hn : n = num2 b[at_] b[at_ + 1]) (h1 : n % 32768 < least) : nextGo b (k + 1) at_ body least = (0, [], 0, 40) := by
  rw [nextGo, nst_front h hn, if_pos h1]; rfl
theorem nst_cut {b : List UInt8} {k at_ least n : Nat} {body : List UInt8} (h : at_ + 2 ≤ b.length) (hn : n = num2 b[at_] b[at_ + 1]) (h1 : ¬ n % 32768 < least) (h2 : b.length < at_ + n % 32768) : nextGo b (k + 1) at_ body least = (0, [], 0, 11) := by
  rw [nextGo, nst_front h hn, if_neg h1, if_pos h2]; rfl
theorem idOf_append {l m : List UInt8} (h : 2 ≤ l.length) : idOf (l ++ m) = idOf l := by
  rcases l with _ | ⟨x, _ | ⟨y, t⟩⟩
  · simp at h
  · simp at h
  · rfl
theorem idOf_drop {b : List UInt8} {n : Nat} (h : n + 2 ≤ b.length) : idOf (b.drop n) = num2 b[n] b[n + 1] := by rw [drop_two b n h]; rfl
theorem idOf_take {l : List UInt8} {n : Nat} (h : 2 ≤ n) : idOf (l.take n) = idOf l := by
  rcases l with _ | ⟨x, _ | ⟨y, t⟩⟩ <;> obtain ⟨m, rfl⟩ : ∃ m, n = m + 2 := ⟨n - 2, by omega⟩ <;> rfl

/-- What a whole segment makes of it. -/
theorem nst_step {b : List UInt8} {k j at_ least n : Nat} {body D : List UInt8} {idv : Nat} (hs : NSt j at_ least body D idv) (h : at_ + 2 ≤ b.length) (hn : n = num2 b[at_] b[at_ + 1]) (h1 : ¬ n % 32768 < least) (h2 : ¬ b.length < at_ + n % 32768)
    (D' : List UInt8) (hD : D' = D ++ (b.drop (at_ + least)).take (n % 32768 - least)) (id' : Nat) (hid : j = 0 ∧ (∃ h4 : 4 ≤ b.length, id' = num2 b[2] b[3]) ∨ 1 ≤ j ∧ id' = idv) :
    ∃ body', NSt (j + 1) (at_ + n % 32768) 2 body' D' id' ∧ nextGo b (k + 1) at_ body least = (if 2048 < D'.length then (0, [], 0, 40) else if n < 32768 then (id', D', at_ + n % 32768, 0) else nextGo b k (at_ + n % 32768) body' 2) := by
  obtain ⟨q, hq⟩ : ∃ q, q = n % 32768 := ⟨_, rfl⟩
  have hf := nst_front (least := least) h hn
  rw [← hq] at h1 h2 hD hf ⊢
  rw [if_neg h1, if_neg h2] at hf
  have hl2 : 2 ≤ least := by rcases hs with h | h <;> omega
  obtain ⟨p, hp⟩ : ∃ p, p = ((b.drop at_).take q).drop 2 := ⟨_, rfl⟩
  rw [← hp] at hf
  have hpl : p.length = q - 2 := by rw [hp, List.length_drop, List.length_take, List.length_drop]; omega
  have hDp : (body ++ p).drop 2 = D' := by
    rw [hD]
    rcases hs with ⟨e1, e2, e3, e4, e5, e6⟩ | ⟨e1, e2, e3, e4, e5⟩
    · subst e1 e2 e3 e4 e5 e6
      rw [hp]
      simp only [List.nil_append, List.drop_drop, List.drop_take, List.drop_zero, Nat.zero_add, Nat.reduceAdd, Nat.sub_sub]
    · subst e2 e4
      rw [List.drop_append_of_le_length e3, hp, List.drop_take, List.drop_drop]
  have hid' : id' = idOf (body ++ p) := by
    rcases hs with ⟨e1, e2, e3, e4, e5, e6⟩ | ⟨e1, e2, e3, e4, e5⟩
    · subst e1 e2 e3 e4 e5 e6
      rcases hid with ⟨_, h4, hi⟩ | ⟨h0, _⟩
      · rw [hi, hp, List.nil_append, List.drop_zero, List.drop_take, idOf_take (by omega), idOf_drop (by omega)]
      · omega
    · rcases hid with ⟨h0, _⟩ | ⟨_, hi⟩
      · omega
      · rw [hi, e5, idOf_append e3]
  have hbp : 2 ≤ (body ++ p).length := by
    rw [List.length_append]
    rcases hs with ⟨e1, e2, e3, e4, e5, e6⟩ | ⟨e1, e2, e3, e4, e5⟩ <;> omega
  refine ⟨body ++ p, .inr ⟨by omega, rfl, hbp, hDp.symm, hid'⟩, ?_⟩
  have hDl : D'.length = (body ++ p).length - 2 := by rw [← hDp, List.length_drop]
  have e9 : (2 + p.length) = q := by omega
  rw [nextGo, hf]
  simp only [if_true, e9, hDp, ← hid']
  by_cases hb : 2050 < (body ++ p).length
  · rw [if_pos hb, if_pos (show 2048 < D'.length by omega)]
  · rw [if_neg hb, if_neg (show ¬ 2048 < D'.length by omega)]
    by_cases hl : n < 32768
    · rw [if_pos (show decide (n < 32768) = true by simp [hl]), if_pos hl]
    · rw [if_neg (show ¬ decide (n < 32768) = true by simp [hl]), if_neg hl]
end Go.Proofs.Ytoahmifmoekjoaa
