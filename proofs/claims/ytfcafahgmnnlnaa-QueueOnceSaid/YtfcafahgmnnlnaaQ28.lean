/- Layer 14: numbers in a row; what is restored elsewhere does the same. -/
import Derived.Test.YtfcafahgmnnlnaaQ27
namespace Go.Proofs.Ytfcafahgmnnlnaa.Qu
open Go.RowKit Go.Maps
set_option linter.unusedVariables false
set_option linter.unusedSimpArgs false

def NumL : Int → List Int → Prop
  | _, [] => True
  | k, x :: r => x = k ∧ NumL (k + 1) r
theorem NumL.app : ∀ (a b : List Int) (k : Int), NumL k (a ++ b) ↔ NumL k a ∧ NumL (k + (a.length : Nat)) b
  | [], b, k => by simp [NumL]
  | x :: a, b, k => by
    simp only [List.cons_append, NumL, NumL.app a b (k + 1), List.length_cons, and_assoc]
    rw [show k + 1 + ((a.length : Nat) : Int) = k + ((a.length + 1 : Nat) : Int) by push_cast; omega]
/-- Numbers in a row, the last one the queue's last. -/
structure QN (S : QS) : Prop where
  num : NumL (S.g + 1 - (S.I.length : Nat)) (S.I.map IT.n)
  len : (S.I.length : Int) ≤ S.g
theorem QN.same {S S' : QS} (h : QN S) (h1 : S'.I.map IT.n = S.I.map IT.n) (h2 : S'.g = S.g) : QN S' := by
  have hl : S'.I.length = S.I.length := by have := congrArg List.length h1; simpa using this
  exact ⟨by rw [h1, h2, hl]; exact h.num, by rw [hl, h2]; exact h.len⟩
theorem giveI_n (L : List IT) (i : Nat) (n : Int) : (giveI L i n).map IT.n = L.map IT.n := by
  refine List.ext_getElem? fun j => ?_
  unfold giveI
  rw [List.getElem?_map, List.getElem?_map, List.getElem?_modify]
  cases L[j]? with
  | none => simp
  | some x => simp only [Option.map_eq_map, Option.map_some]; split <;> rfl
theorem freeI_n (L : List IT) (n : Int) : (L.map (freeI n)).map IT.n = L.map IT.n := by
  rw [List.map_map]
  refine List.map_congr_left fun x _ => ?_
  simp only [Function.comp]
  unfold freeI; split <;> rfl
theorem givenI_n (L : List IT) (n : Int) (j : Nat) : (givenI L n j).map IT.n = L.map IT.n := by
  unfold givenI
  rw [List.map_append, List.map_map]
  have : (IT.n ∘ fun x : IT => ({ x with t := n } : IT)) = IT.n := rfl
  rw [this, ← List.map_append, List.take_append_drop]
theorem newsQ_num : ∀ (l : List Ch) (g : Int), NumL (g + 1) ((newsQ g l).map IT.n)
  | [], g => trivial
  | x :: r, g => by
    unfold newsQ
    split
    · exact ⟨rfl, newsQ_num r (g + 1)⟩
    · exact newsQ_num r g
theorem loadF_num : ∀ (l : List Nat) (k : Int), NumL k ((loadF k l).map IT.n)
  | [], k => trivial
  | x :: r, k => ⟨rfl, loadF_num r (k + 1)⟩
/-- What one work has taken stands in front. -/
theorem QR.front {S : QS} (h : QR S) {n : Int} (hn : 1 ≤ n) : ∃ k, k ≤ S.I.length ∧ byI S.I n = S.I.take k ∧ keptI S.I n = S.I.drop k := by
  obtain ⟨P, F, n', hPF, hF, hP, hn'⟩ := h.pre
  have hFn : ∀ x ∈ F, x.t ≠ n := fun x hx => by have := hF x hx; omega
  have hkF : keptI F n = F := List.filter_eq_self.2 fun x hx => by simpa using hFn x hx
  have hka : keptI (P ++ F) n = keptI P n ++ keptI F n := List.filter_append ..
  by_cases e : n' = n
  · subst e
    refine ⟨P.length, by rw [hPF, List.length_append]; omega, ?_, ?_⟩
    · rw [hPF, byI_app, byI_all hP, byI_none hFn, List.append_nil, List.take_left]
    · rw [hPF, hka, hkF, List.drop_left, show keptI P n' = [] from List.filter_eq_nil_iff.2 fun x hx => by simpa using hP x hx]; rfl
  · have hPn : ∀ x ∈ P, x.t ≠ n := fun x hx => by rw [hP x hx]; exact e
    refine ⟨0, Nat.zero_le _, ?_, ?_⟩
    · rw [hPF, byI_app, byI_none hPn, byI_none hFn]; rfl
    · rw [hPF, hka, hkF, show keptI P n = P from List.filter_eq_self.2 fun x hx => by simpa using hPn x hx]; rfl
section
variable {S : QS}
theorem QN.put (h : QN S) (n : Int) (v : Nat) : QN (putM S n v).2 := by
  unfold putM
  split
  · exact h
  · split
    · exact h
    · exact h.same rfl rfl
theorem QN.take (h : QN S) (n : Int) : QN (takeM S n).2 := by
  unfold takeM
  split
  · exact h
  · split
    · exact h
    · split
      · exact h.same (giveI_n _ _ _) rfl
      · exact h
theorem QN.prep (h : QN S) (n : Int) : QN (prepM S n).2 := by
  unfold prepM
  split
  · exact h
  · split
    · exact h
    · exact h.same rfl rfl
theorem QN.commit (h : QN S) (hr : QR S) (n : Int) : QN (commitM S n).2 := by
  unfold commitM
  split
  · exact h
  · rename_i hn1
    obtain ⟨k, hk, hb, hkp⟩ := hr.front (n := n) (by omega)
    have h1 := h.num
    have h2 := h.len
    have hl : (S.I.take k).length = k := by rw [List.length_take]; omega
    have hld : (S.I.drop k).length = S.I.length - k := List.length_drop ..
    rw [← List.take_append_drop k S.I, List.map_append, NumL.app, List.length_map, hl, List.take_append_drop] at h1
    refine ⟨?_, ?_⟩
    · dsimp only
      rw [hkp, List.map_append, NumL.app, List.length_map, List.length_append, newsQ_len, hld]
      refine ⟨?_, ?_⟩
      · have := h1.2
        rw [show S.g + (putsL (curQ S.ws n).1 : Nat) + 1 - ((S.I.length - k + putsL (curQ S.ws n).1 : Nat) : Int) = S.g + 1 - (S.I.length : Nat) + (k : Nat) by omega]
        exact this
      · have := newsQ_num (curQ S.ws n).1 S.g
        rw [show S.g + (putsL (curQ S.ws n).1 : Nat) + 1 - ((S.I.length - k + putsL (curQ S.ws n).1 : Nat) : Int) + ((S.I.length - k : Nat) : Int) = S.g + 1 by omega]
        exact this
    · dsimp only
      rw [hkp, List.length_append, newsQ_len, hld]
      omega
theorem QN.back (h : QN S) (n : Int) : QN (backM S n).2 := by
  unfold backM
  split
  · exact h
  · exact h.same (freeI_n _ _) rfl
theorem QN.rest (h : QN S) (n : Int) (l : List Ch) : QN (restM S n l).2 := by
  unfold restM
  split
  · exact h
  · split
    · exact h
    · split
      · exact h
      · split
        · exact h
        · split
          · exact h
          · exact h.same (givenI_n _ _ _) rfl
theorem QN.load (h : QN S) (vals : List Nat) (next : Int) : QN (loadM S vals next).2 := by
  unfold loadM
  split
  · exact h
  · split
    · exact h
    · refine ⟨?_, ?_⟩
      · dsimp only
        rw [loadF_len, show next - 1 + 1 - ((vals.length : Nat) : Int) = next - (vals.length : Nat) by omega]
        exact loadF_num _ _
      · dsimp only; rw [loadF_len]; omega
theorem QN.call (h : QN S) (hr : QR S) (o : OpV) : QN (callM S o).2 := by
  unfold callM
  split; exact h.put _ _
  split; exact h.take _
  split; exact h.prep _
  split; exact h.commit hr _
  split; exact h.back _
  split; exact h.rest _ _
  split; exact h.load _ _
  exact h
end
theorem QN.play (ops : List OpV) : QN (playQ ops) := by
  unfold playQ
  generalize ops.take 60 = l
  suffices ∀ S, QR S → QN S → QN (l.foldl stepQ S) from this _ (QR.zero _) ⟨trivial, Int.le_refl _⟩
  induction l with
  | nil => exact fun S _ h => h
  | cons o r ih =>
    intro S hr h
    refine ih _ ?_ ?_
    · unfold stepQ
      split
      · exact hr
      · exact (hr.call o).rebase
    · unfold stepQ
      split
      · exact h
      · exact (h.call hr o).same rfl rfl
def clr (x : IT) : IT := { x with t := 0 }
theorem loadF_of : ∀ (L : List IT) (k : Int), NumL k (L.map IT.n) → loadF k (L.map IT.v) = L.map clr
  | [], k, _ => rfl
  | x :: r, k, h => by
    obtain ⟨h1, h2⟩ := h
    have : loadF k ((x :: r).map IT.v) = ⟨k, x.v, 0⟩ :: loadF (k + 1) (r.map IT.v) := rfl
    rw [this, loadF_of r (k + 1) h2, List.map_cons]
    congr 1
    unfold clr
    rw [← h1]
theorem clr_v (L : List IT) : (L.map clr).map IT.v = L.map IT.v := by rw [List.map_map]; rfl
theorem fits_clr : ∀ (l : List Ch) (L : List IT), kdOk l → (∃ k, tkL l = (L.take k).map chOf ∧ k ≤ L.length) → fitsQ (L.map clr) l = true
  | [], L, _, _ => by cases L <;> rfl
  | x :: r, L, hk, ⟨k, h1, h2⟩ => by
    have hkr : kdOk r := fun y hy => hk y (List.mem_cons_of_mem _ hy)
    rcases hk x (List.mem_cons_self ..) with ⟨e, ey⟩ | e
    · have ht : tkL (x :: r) = tkL r := by unfold tkL; rw [List.filter_cons, if_neg (by simp [e])]
      rw [ht] at h1
      have ih := fits_clr r L hkr ⟨k, h1, h2⟩
      unfold fitsQ
      rw [if_pos e, ih, ey]; rfl
    · have ht : tkL (x :: r) = x :: tkL r := by unfold tkL; rw [List.filter_cons, if_pos (by simp [e])]
      rw [ht] at h1
      cases k with
      | zero => simp at h1
      | succ k =>
        cases L with
        | nil => simp at h1
        | cons i L' =>
          rw [List.take_succ_cons, List.map_cons] at h1
          injection h1 with h3 h4
          have ih := fits_clr r L' hkr ⟨k, h4, by simpa using h2⟩
          unfold fitsQ
          rw [if_neg (by omega), if_pos e]
          show (eqIT (clr i).n (clr i).v (clr i).t x.y x.v 0 && fitsQ (L'.map clr) r) = true
          rw [ih, h3]
          simp [eqIT, clr, chOf]
/-- What is prepared in one queue is restored in one of the same items. -/
theorem restores {S : QS} {n : Int} (hn : 1 ≤ n) (hr : QR S) (hq : QN S) (hok : QOk S) (hd : S.ws.Pairwise fun a b => a.n ≠ b.n) :
    ∃ U0 U1, loadM (QS.zero anyB) (S.I.map IT.v) (S.g + 1) = (0, U0) ∧ restM U0 n (curQ S.ws n).1 = (0, U1) ∧ U1.B = anyB ∧ QOk U0 ∧ QOk U1 ∧ (lookQ U1.ws n).isSome = decide (0 < (curQ S.ws n).1.length) ∧ U1.I.map IT.v = S.I.map IT.v ∧
      ((commitM U1 n).2.I.map IT.v = (commitM S n).2.I.map IT.v ∧ (commitM U1 n).2.g = (commitM S n).2.g) ∧ ((backM U1 n).2.I.map IT.v = (backM S n).2.I.map IT.v ∧ (backM U1 n).2.g = (backM S n).2.g) := by
  obtain ⟨k, hk, hby, hkp⟩ := hr.front hn
  obtain ⟨l, hl⟩ : ∃ l, l = (curQ S.ws n).1 := ⟨_, rfl⟩
  have htk := hr.tk n hn
  have hkd := hr.kd n
  have hpu := putsW_others S.ws n hd
  have hcm : commitM S n = (0, { S with I := keptI S.I n ++ newsQ S.g l, g := S.g + (putsL l : Nat), ws := othersQ S.ws n }) := by unfold commitM; rw [if_neg (by omega), hl]
  have hbm : backM S n = (0, { S with I := S.I.map (freeI n), ws := othersQ S.ws n }) := by unfold backM; rw [if_neg (by omega)]
  rw [← hl] at htk hkd hpu ⊢
  rw [hby] at htk
  have hroom := hok.room
  have hlast := hok.last
  have hg0 := hok.g0
  have hll : l.length - putsL l = k := by
    have := tk_len l hkd
    rw [htk, List.length_map, List.length_take] at this
    omega
  have hlo : loadM (QS.zero anyB) (S.I.map IT.v) (S.g + 1) = (0, { QS.zero anyB with I := S.I.map clr, g := S.g }) := by
    unfold loadM
    rw [if_neg (by simp [QS.zero]), if_neg (by rw [List.length_map]; have := hq.len; omega), List.length_map, loadF_of S.I _ hq.num, show S.g + 1 - 1 = S.g by omega]
  have hok0 : QOk { QS.zero anyB with I := S.I.map clr, g := S.g } := by
    have := (QOk.zero anyB).load (S.I.map IT.v) (S.g + 1)
    rw [hlo] at this
    exact this
  have hz : ∀ x ∈ S.I.map clr, x.t = 0 := fun x hx => by obtain ⟨y, _, rfl⟩ := List.mem_map.1 hx; rfl
  have hfv : ∀ L : List IT, (L.map (freeI n)).map IT.v = L.map IT.v := fun L => by
    rw [List.map_map]
    refine List.map_congr_left fun x _ => ?_
    simp only [Function.comp]
    unfold freeI; split <;> rfl
  have hrm : roomQ { QS.zero anyB with I := S.I.map clr, g := S.g } = min (16 - (S.I.length : Int)) (4611686018427387904 - (S.g + 1)) := by
    unfold roomQ
    dsimp only [QS.zero]
    rw [List.length_map]
    show min (16 - (S.I.length : Int) - ((0 : Nat) : Int)) (4611686018427387904 - (S.g + 1) - ((0 : Nat) : Int)) = _
    congr 1 <;> omega
  have hfit : fitsQ (S.I.map clr) l = true := fits_clr l S.I hkd ⟨k, htk, hk⟩
  by_cases h0 : l = []
  · have hr0 : restM { QS.zero anyB with I := S.I.map clr, g := S.g } n l = (0, { QS.zero anyB with I := S.I.map clr, g := S.g }) := by
      unfold restM
      rw [if_neg (by omega), if_neg (by dsimp only; rw [hfit]; simp), if_neg (by rw [hrm]; omega), if_neg (by simp [QS.zero, lookQ, findQ]), if_pos h0]
    have hk0 : k = 0 := by rw [h0] at hll; simpa using hll.symm
    refine ⟨_, _, hlo, hr0, rfl, hok0, hok0, by rw [h0]; rfl, clr_v _, ?_, ?_⟩
    · rw [hcm]
      unfold commitM
      rw [if_neg (by omega)]
      have e1 : (curQ ({ QS.zero anyB with I := S.I.map clr, g := S.g } : QS).ws n).1 = l := by rw [h0]; rfl
      rw [e1]
      refine ⟨?_, rfl⟩
      dsimp only
      rw [hkp, hk0, List.map_append, List.map_append, show keptI (S.I.map clr) n = S.I.map clr from List.filter_eq_self.2 fun x hx => by have := hz x hx; simp; omega, clr_v]
      rfl
    · rw [hbm]
      unfold backM
      rw [if_neg (by omega)]
      exact ⟨by dsimp only; rw [hfv, hfv, clr_v], rfl⟩
  · have hr0 : restM { QS.zero anyB with I := S.I.map clr, g := S.g } n l = (0, { QS.zero anyB with I := givenI (S.I.map clr) n k, g := S.g, ws := layQ [] n l true }) := by
      unfold restM
      rw [if_neg (by omega), if_neg (by dsimp only; rw [hfit]; simp), if_neg (by rw [hrm]; omega), if_neg (by simp [QS.zero, lookQ, findQ]), if_neg h0, hll]
      rfl
    have hcu : (curQ (layQ [] n l true) n) = (l, true) := by rw [curQ_lay, if_pos rfl]
    have hok1 := hok0.rest List.Pairwise.nil n l
    rw [hr0] at hok1
    have hg : givenI (S.I.map clr) n k = ((S.I.map clr).take k).map (fun x => { x with t := n }) ++ (S.I.map clr).drop k := rfl
    have hkg : keptI (givenI (S.I.map clr) n k) n = (S.I.map clr).drop k := by
      rw [hg]
      unfold keptI
      rw [List.filter_append]
      have e1 : List.filter (fun x : IT => decide (x.t ≠ n)) (((S.I.map clr).take k).map (fun x => { x with t := n })) = [] := List.filter_eq_nil_iff.2 fun x hx => by
        obtain ⟨y, _, rfl⟩ := List.mem_map.1 hx; simp
      have e2 : List.filter (fun x : IT => decide (x.t ≠ n)) ((S.I.map clr).drop k) = (S.I.map clr).drop k := List.filter_eq_self.2 fun x hx => by
        have := hz x (List.mem_of_mem_drop hx); simp; omega
      rw [e1, e2]; rfl
    refine ⟨_, _, hlo, hr0, rfl, hok0, hok1, ?_, by dsimp only; rw [givenI_v, clr_v], ?_, ?_⟩
    · dsimp only
      rw [lookQ_lay, if_pos rfl]
      have : 0 < l.length := List.length_pos_iff.2 h0
      simp [this]
    · rw [hcm]
      unfold commitM
      rw [if_neg (by omega)]
      dsimp only
      rw [hcu, hkg, hkp]
      refine ⟨?_, rfl⟩
      dsimp only
      rw [List.map_append, List.map_append]
      congr 1
      rw [List.map_drop, clr_v, List.map_drop]
    · rw [hbm]
      unfold backM
      rw [if_neg (by omega)]
      exact ⟨by dsimp only; rw [hfv, hfv, givenI_v, clr_v], rfl⟩
end Go.Proofs.Ytfcafahgmnnlnaa.Qu
