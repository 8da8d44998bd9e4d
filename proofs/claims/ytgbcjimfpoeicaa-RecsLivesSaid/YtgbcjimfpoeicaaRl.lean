/- Layer 11: however the bytes come: what one step does (no program here). -/
import Derived.Test.YtgbcjimfpoeicaaRj
import Derived.Test.YtgbcjimfpoeicaaRi
namespace Go.Proofs.Ytgbcjimfpoeicaa
open Go.RowKit
set_option linter.unusedVariables false
set_option linter.unusedSimpArgs false

def encR (r : List UInt8) : List UInt8 := UInt8.ofNat ((r.length + 2) / 256) :: UInt8.ofNat ((r.length + 2) % 256) :: r
def flatR (rs : List (List UInt8)) : List UInt8 := rs.flatMap encR
theorem encR_length (r : List UInt8) : (encR r).length = r.length + 2 := rfl
theorem flatR_snoc (rs : List (List UInt8)) (r : List UInt8) : flatR (rs ++ [r]) = flatR rs ++ encR r := by simp [flatR]
theorem flatR_drop (rs : List (List UInt8)) (n : Nat) (h : n < rs.length) : flatR (rs.drop n) = encR (rs.getD n []) ++ flatR (rs.drop (n + 1)) := by
  show (rs.drop n).flatMap encR = _
  rw [List.drop_eq_getElem_cons h, List.flatMap_cons]
  unfold flatR
  congr 2
  simp [List.getD, h]

theorem lenM_rec {r L R rest : List UInt8} (hr : r.length ≤ 200) (h : L ++ R = encR r ++ rest) (h2 : 2 ≤ L.length) : lenM L false = (r.length + 2, 0) := by
  match L, h2 with
  | x :: y :: L', _ =>
    simp only [encR, List.cons_append, List.cons.injEq] at h
    obtain ⟨rfl, rfl, _⟩ := h
    unfold lenM
    rw [if_neg (by simp), if_neg (by simp)]
    have e : (List.getD (UInt8.ofNat ((r.length + 2) / 256) :: UInt8.ofNat ((r.length + 2) % 256) :: L') 0 0).toNat * 256 + (List.getD (UInt8.ofNat ((r.length + 2) / 256) :: UInt8.ofNat ((r.length + 2) % 256) :: L') 1 0).toNat = r.length + 2 := by
      simp only [List.getD_cons_zero, List.getD_cons_succ, UInt8.toNat_ofNat']
      omega
    rw [e, if_neg (by omega)]

/-- What a Get gives: nothing as yet; or a piece, whole or not. -/
def StepO (r piece L R : List UInt8) (left : Nat) (g : (List UInt8 × Bool × Int) × Nat × List UInt8) : Prop :=
  (g = (([], false, 140), left, L) ∧ R ≠ []) ∨ (∃ p L', g = ((p, true, 0), 0, L') ∧ 0 < p.length ∧ L = p ++ L' ∧ piece ++ p = encR r) ∨ ∃ p left' L', g = ((p, false, 0), left', L') ∧ 0 < p.length ∧ L = p ++ L' ∧ (piece ++ p).length + left' = (encR r).length ∧ 0 < left'

theorem take_step {r rest piece L R : List UInt8} {lf left t : Nat} (hf : piece ++ (L ++ R) = encR r ++ rest) (hp : piece.length + lf = (encR r).length) (h0 : 0 < lf) (ht : 1 ≤ t) : StepO r piece L R left (takeM lf L false t left) := by
  have hlen := congrArg List.length hf
  simp only [List.length_append] at hlen
  unfold takeM
  by_cases hk : L.length < min t lf
  · rw [if_pos hk]
    refine .inl ⟨rfl, ?_⟩
    rintro rfl
    simp at hlen
    omega
  · rw [if_neg hk]
    by_cases hw : lf - min t lf = 0
    · refine .inr (.inl ⟨L.take (min t lf), L.drop (min t lf), by simp [hw], by simp; omega, (List.take_append_drop _ _).symm, ?_⟩)
      have e : min t lf = lf := by omega
      rw [e]
      have h2 := congrArg (List.take (encR r).length) hf
      rw [List.take_left, ← hp, List.take_append, List.take_of_length_le (show piece.length ≤ piece.length + lf by omega), Nat.add_sub_cancel_left, List.take_append_of_le_length (by omega)] at h2
      exact h2
    · refine .inr (.inr ⟨L.take (min t lf), lf - min t lf, L.drop (min t lf), by simp [hw], by simp; omega, (List.take_append_drop _ _).symm, ?_, by omega⟩)
      rw [List.length_append, List.length_take]
      omega

theorem get_step {r rest piece L R : List UInt8} {left t : Nat} (hr : r.length ≤ 200) (hf : piece ++ (L ++ R) = encR r ++ rest) (hp : (piece = [] ∧ left = 0) ∨ (piece.length + left = (encR r).length ∧ 0 < left)) (ht : 1 ≤ t) : StepO r piece L R left (getM left L false t) := by
  unfold getM
  rw [if_neg (by omega), Int.toNat_natCast]
  rcases hp with ⟨rfl, rfl⟩ | ⟨h1, h2⟩
  · rw [if_pos rfl]
    rw [List.nil_append] at hf
    by_cases h2 : 2 ≤ L.length
    · rw [lenM_rec hr hf h2, if_pos rfl]
      exact take_step (piece := []) (by simpa using hf) (by simp [encR_length]) (by simp) ht
    · have e : lenM L false = (0, 140) := by
        unfold lenM
        rw [if_neg (by simp), if_pos (by omega)]
        rfl
      rw [e, if_neg (by simp)]
      refine .inl ⟨rfl, ?_⟩
      rintro rfl
      have hlen := congrArg List.length hf
      simp only [List.length_append, encR_length, List.length_nil] at hlen
      omega
  · rw [if_neg (by omega)]
    exact take_step hf h1 h2 ht
theorem bn_far {w : World} {g left x : Nat} {l : List UInt8} {en : Bool} (h : StrAt w g left l en) (hx : w.heap.size ≤ x) : BytesNot w g x := by
  obtain ⟨A, n, c, h1, h2, h3, h4⟩ := h.at_
  refine bn_new h1 (fun hn => ?_)
  obtain ⟨b, o, e, h5, _⟩ := h3 (by omega)
  subst e
  intro e'
  simp [blk] at e'
  omega
end Go.Proofs.Ytgbcjimfpoeicaa
