/- Parts Q28 R16 R17 R18 of one proof. -/
import Derived.Test.YtfcafahgmnnlnaaMg15
import Derived.Test.YtfcafahgmnnlnaaMg14
namespace Go.Proofs.Ytfcafahgmnnlnaa.Qu
open Go.RowKit Go.Maps
set_option linter.unusedVariables false
set_option linter.unusedSimpArgs false

def NumL : Int → List Int → Prop
  | _, [] => True
  | k, x :: r => x = k ∧ NumL (k + 1) r
theorem NumL.app : ∀ (a b : List Int) (k : Int), NumL k (a ++ b) ↔ NumL k a ∧ NumL (k + (a.length : Nat)) b
  | [], b, k => by simp [NumL]
  | x :: a, b, k => by
    simp only [List.cons_append, NumL, NumL.app a b (k + 1), List.length_cons, and_assoc]
    rw [show k + 1 + ((a.length : Nat) : Int) = k + ((a.length + 1 : Nat) : Int) by push_cast; omega]
/-- Numbers in a row, the last one the queue's last. -/
structure QN (S : QS) : Prop where
  num : NumL (S.g + 1 - (S.I.length : Nat)) (S.I.map IT.n)
  len : (S.I.length : Int) ≤ S.g
theorem QN.same {S S' : QS} (h : QN S) (h1 : S'.I.map IT.n = S.I.map IT.n) (h2 : S'.g = S.g) : QN S' := by
  have hl : S'.I.length = S.I.length := by have := congrArg List.length h1; simpa using this
  exact ⟨by rw [h1, h2, hl]; exact h.num, by rw [hl, h2]; exact h.len⟩
theorem giveI_n (L : List IT) (i : Nat) (n : Int) : (giveI L i n).map IT.n = L.map IT.n := by
  refine List.ext_getElem? fun j => ?_
  unfold giveI
  rw [List.getElem?_map, List.getElem?_map, List.getElem?_modify]
  cases L[j]? with
  | none => simp
  | some x => simp only [Option.map_eq_map, Option.map_some]; split <;> rfl
theorem freeI_n (L : List IT) (n : Int) : (L.map (freeI n)).map IT.n = L.map IT.n := by
  rw [List.map_map]
  refine List.map_congr_left fun x _ => ?_
  simp only [Function.comp]
  unfold freeI; split <;> rfl
theorem givenI_n (L : List IT) (n : Int) (j : Nat) : (givenI L n j).map IT.n = L.map IT.n := by
  unfold givenI
  rw [List.map_append, List.map_map]
  have : (IT.n ∘ fun x : IT => ({ x with t := n } : IT)) = IT.n := rfl
  rw [this, ← List.map_append, List.take_append_drop]
theorem newsQ_num : ∀ (l : List Ch) (g : Int), NumL (g + 1) ((newsQ g l).map IT.n)
  | [], g => trivial
  | x :: r, g => by
    unfold newsQ
    split
    · exact ⟨rfl, newsQ_num r (g + 1)⟩
    · exact newsQ_num r g
theorem loadF_num : ∀ (l : List Nat) (k : Int), NumL k ((loadF k l).map IT.n)
  | [], k => trivial
  | x :: r, k => ⟨rfl, loadF_num r (k + 1)⟩
/-- What one work has taken stands in front. -/
theorem QR.front {S : QS} (h : QR S) {n : Int} (hn : 1 ≤ n) : ∃ k, k ≤ S.I.length ∧ byI S.I n = S.I.take k ∧ keptI S.I n = S.I.drop k := by
  obtain ⟨P, F, n', hPF, hF, hP, hn'⟩ := h.pre
  have hFn : ∀ x ∈ F, x.t ≠ n := fun x hx => by have := hF x hx; omega
  have hkF : keptI F n = F := List.filter_eq_self.2 fun x hx => by simpa using hFn x hx
  have hka : keptI (P ++ F) n = keptI P n ++ keptI F n := List.filter_append ..
  by_cases e : n' = n
  · subst e
    refine ⟨P.length, by rw [hPF, List.length_append]; omega, ?_, ?_⟩
    · rw [hPF, byI_app, byI_all hP, byI_none hFn, List.append_nil, List.take_left]
    · rw [hPF, hka, hkF, List.drop_left, show keptI P n' = [] from List.filter_eq_nil_iff.2 fun x hx => by simpa using hP x hx]; rfl
  · have hPn : ∀ x ∈ P, x.t ≠ n := fun x hx => by rw [hP x hx]; exact e
    refine ⟨0, Nat.zero_le _, ?_, ?_⟩
    · rw [hPF, byI_app, byI_none hPn, byI_none hFn]; rfl
    · rw [hPF, hka, hkF, show keptI P n = P from List.filter_eq_self.2 fun x hx => by simpa using hPn x hx]; rfl
section
variable {S : QS}
theorem QN.put (h : QN S) (n : Int) (v : Nat) : QN (putM S n v).2 := by
  unfold putM
  split
  · exact h
  · split
    · exact h
    · exact h.same rfl rfl
theorem QN.take (h : QN S) (n : Int) : QN (takeM S n).2 := by
  unfold takeM
  split
  · exact h
  · split
    · exact h
    · split
      · exact h.same (giveI_n _ _ _) rfl
      · exact h
theorem QN.prep (h : QN S) (n : Int) : QN (prepM S n).2 := by
  unfold prepM
  split
  · exact h
  · split
    · exact h
    · exact h.same rfl rfl
theorem QN.commit (h : QN S) (hr : QR S) (n : Int) : QN (commitM S n).2 := by
  unfold commitM
  split
  · exact h
  · rename_i hn1
    obtain ⟨k, hk, hb, hkp⟩ := hr.front (n := n) (by omega)
    have h1 := h.num
    have h2 := h.len
    have hl : (S.I.take k).length = k := by rw [List.length_take]; omega
    have hld : (S.I.drop k).length = S.I.length - k := List.length_drop ..
    rw [← List.take_append_drop k S.I, List.map_append, NumL.app, List.length_map, hl, List.take_append_drop] at h1
    refine ⟨?_, ?_⟩
    · dsimp only
      rw [hkp, List.map_append, NumL.app, List.length_map, List.length_append, newsQ_len, hld]
      refine ⟨?_, ?_⟩
      · have := h1.2
        rw [show S.g + (putsL (curQ S.ws n).1 : Nat) + 1 - ((S.I.length - k + putsL (curQ S.ws n).1 : Nat) : Int) = S.g + 1 - (S.I.length : Nat) + (k : Nat) by omega]
        exact this
      · have := newsQ_num (curQ S.ws n).1 S.g
        rw [show S.g + (putsL (curQ S.ws n).1 : Nat) + 1 - ((S.I.length - k + putsL (curQ S.ws n).1 : Nat) : Int) + ((S.I.length - k : Nat) : Int) = S.g + 1 by omega]
        exact this
    · dsimp only
      rw [hkp, List.length_append, newsQ_len, hld]
      omega
theorem QN.back (h : QN S) (n : Int) : QN (backM S n).2 := by
  unfold backM
  split
  · exact h
  · exact h.same (freeI_n _ _) rfl
theorem QN.rest (h : QN S) (n : Int) (l : List Ch) : QN (restM S n l).2 := by
  unfold restM
  split
  · exact h
  · split
    · exact h
    · split
      · exact h
      · split
        · exact h
        · split
          · exact h
          · exact h.same (givenI_n _ _ _) rfl
theorem QN.load (h : QN S) (vals : List Nat) (next : Int) : QN (loadM S vals next).2 := by
  unfold loadM
  split
  · exact h
  · split
    · exact h
    · refine ⟨?_, ?_⟩
      · dsimp only
        rw [loadF_len, show next - 1 + 1 - ((vals.length : Nat) : Int) = next - (vals.length : Nat) by omega]
        exact loadF_num _ _
      · dsimp only; rw [loadF_len]; omega
theorem QN.call (h : QN S) (hr : QR S) (o : OpV) : QN (callM S o).2 := by
  unfold callM
  split; exact h.put _ _
  split; exact h.take _
  split; exact h.prep _
  split; exact h.commit hr _
  split; exact h.back _
  split; exact h.rest _ _
  split; exact h.load _ _
  exact h
end
theorem QN.play (ops : List OpV) : QN (playQ ops) := by
  unfold playQ
  generalize ops.take 60 = l
  suffices ∀ S, QR S → QN S → QN (l.foldl stepQ S) from this _ (QR.zero _) ⟨trivial, Int.le_refl _⟩
  induction l with
  | nil => exact fun S _ h => h
  | cons o r ih =>
    intro S hr h
    refine ih _ ?_ ?_
    · unfold stepQ
      split
      · exact hr
      · exact (hr.call o).rebase
    · unfold stepQ
      split
      · exact h
      · exact (h.call hr o).same rfl rfl
def clr (x : IT) : IT := { x with t := 0 }
theorem loadF_of : ∀ (L : List IT) (k : Int), NumL k (L.map IT.n) → loadF k (L.map IT.v) = L.map clr
  | [], k, _ => rfl
  | x :: r, k, h => by
    obtain ⟨h1, h2⟩ := h
    have : loadF k ((x :: r).map IT.v) = ⟨k, x.v, 0⟩ :: loadF (k + 1) (r.map IT.v) := rfl
    rw [this, loadF_of r (k + 1) h2, List.map_cons]
    congr 1
    unfold clr
    rw [← h1]
theorem clr_v (L : List IT) : (L.map clr).map IT.v = L.map IT.v := by rw [List.map_map]; rfl
theorem fits_clr : ∀ (l : List Ch) (L : List IT), kdOk l → (∃ k, tkL l = (L.take k).map chOf ∧ k ≤ L.length) → fitsQ (L.map clr) l = true
  | [], L, _, _ => by cases L <;> rfl
  | x :: r, L, hk, ⟨k, h1, h2⟩ => by
    have hkr : kdOk r := fun y hy => hk y (List.mem_cons_of_mem _ hy)
    rcases hk x (List.mem_cons_self ..) with ⟨e, ey⟩ | e
    · have ht : tkL (x :: r) = tkL r := by unfold tkL; rw [List.filter_cons, if_neg (by simp [e])]
      rw [ht] at h1
      have ih := fits_clr r L hkr ⟨k, h1, h2⟩
      unfold fitsQ
      rw [if_pos e, ih, ey]; rfl
    · have ht : tkL (x :: r) = x :: tkL r := by unfold tkL; rw [List.filter_cons, if_pos (by simp [e])]
      rw [ht] at h1
      cases k with
      | zero => simp at h1
      | succ k =>
        cases L with
        | nil => simp at h1
        | cons i L' =>
          rw [List.take_succ_cons, List.map_cons] at h1
          injection h1 with h3 h4
          have ih := fits_clr r L' hkr ⟨k, h4, by simpa using h2⟩
          unfold fitsQ
          rw [if_neg (by omega), if_pos e]
          show (eqIT (clr i).n (clr i).v (clr i).t x.y x.v 0 && fitsQ (L'.map clr) r) = true
          rw [ih, h3]
          simp [eqIT, clr, chOf]
/-- What is prepared in one queue is restored in one of the same items. -/
theorem restores {S : QS} {n : Int} (hn : 1 ≤ n) (hr : QR S) (hq : QN S) (hok : QOk S) (hd : S.ws.Pairwise fun a b => a.n ≠ b.n) :
    ∃ U0 U1, loadM (QS.zero anyB) (S.I.map IT.v) (S.g + 1) = (0, U0) ∧ restM U0 n (curQ S.ws n).1 = (0, U1) ∧ U1.B = anyB ∧ QOk U0 ∧ QOk U1 ∧ (lookQ U1.ws n).isSome = decide (0 < (curQ S.ws n).1.length) ∧ U1.I.map IT.v = S.I.map IT.v ∧
      ((commitM U1 n).2.I.map IT.v = (commitM S n).2.I.map IT.v ∧ (commitM U1 n).2.g = (commitM S n).2.g) ∧ ((backM U1 n).2.I.map IT.v = (backM S n).2.I.map IT.v ∧ (backM U1 n).2.g = (backM S n).2.g) := by
  obtain ⟨k, hk, hby, hkp⟩ := hr.front hn
  obtain ⟨l, hl⟩ : ∃ l, l = (curQ S.ws n).1 := ⟨_, rfl⟩
  have htk := hr.tk n hn
  have hkd := hr.kd n
  have hpu := putsW_others S.ws n hd
  have hcm : commitM S n = (0, { S with I := keptI S.I n ++ newsQ S.g l, g := S.g + (putsL l : Nat), ws := othersQ S.ws n }) := by unfold commitM; rw [if_neg (by omega), hl]
  have hbm : backM S n = (0, { S with I := S.I.map (freeI n), ws := othersQ S.ws n }) := by unfold backM; rw [if_neg (by omega)]
  rw [← hl] at htk hkd hpu ⊢
  rw [hby] at htk
  have hroom := hok.room
  have hlast := hok.last
  have hg0 := hok.g0
  have hll : l.length - putsL l = k := by
    have := tk_len l hkd
    rw [htk, List.length_map, List.length_take] at this
    omega
  have hlo : loadM (QS.zero anyB) (S.I.map IT.v) (S.g + 1) = (0, { QS.zero anyB with I := S.I.map clr, g := S.g }) := by
    unfold loadM
    rw [if_neg (by simp [QS.zero]), if_neg (by rw [List.length_map]; have := hq.len; omega), List.length_map, loadF_of S.I _ hq.num, show S.g + 1 - 1 = S.g by omega]
  have hok0 : QOk { QS.zero anyB with I := S.I.map clr, g := S.g } := by
    have := (QOk.zero anyB).load (S.I.map IT.v) (S.g + 1)
    rw [hlo] at this
    exact this
  have hz : ∀ x ∈ S.I.map clr, x.t = 0 := fun x hx => by obtain ⟨y, _, rfl⟩ := List.mem_map.1 hx; rfl
  have hfv : ∀ L : List IT, (L.map (freeI n)).map IT.v = L.map IT.v := fun L => by
    rw [List.map_map]
    refine List.map_congr_left fun x _ => ?_
    simp only [Function.comp]
    unfold freeI; split <;> rfl
  have hrm : roomQ { QS.zero anyB with I := S.I.map clr, g := S.g } = min (16 - (S.I.length : Int)) (4611686018427387904 - (S.g + 1)) := by
    unfold roomQ
    dsimp only [QS.zero]
    rw [List.length_map]
    show min (16 - (S.I.length : Int) - ((0 : Nat) : Int)) (4611686018427387904 - (S.g + 1) - ((0 : Nat) : Int)) = _
    congr 1 <;> omega
  have hfit : fitsQ (S.I.map clr) l = true := fits_clr l S.I hkd ⟨k, htk, hk⟩
  by_cases h0 : l = []
  · have hr0 : restM { QS.zero anyB with I := S.I.map clr, g := S.g } n l = (0, { QS.zero anyB with I := S.I.map clr, g := S.g }) := by
      unfold restM
      rw [if_neg (by omega), if_neg (by dsimp only; rw [hfit]; simp), if_neg (by rw [hrm]; omega), if_neg (by simp [QS.zero, lookQ, findQ]), if_pos h0]
    have hk0 : k = 0 := by rw [h0] at hll; simpa using hll.symm
    refine ⟨_, _, hlo, hr0, rfl, hok0, hok0, by rw [h0]; rfl, clr_v _, ?_, ?_⟩
    · rw [hcm]
      unfold commitM
      rw [if_neg (by omega)]
      have e1 : (curQ ({ QS.zero anyB with I := S.I.map clr, g := S.g } : QS).ws n).1 = l := by rw [h0]; rfl
      rw [e1]
      refine ⟨?_, rfl⟩
      dsimp only
      rw [hkp, hk0, List.map_append, List.map_append, show keptI (S.I.map clr) n = S.I.map clr from List.filter_eq_self.2 fun x hx => by have := hz x hx; simp; omega, clr_v]
      rfl
    · rw [hbm]
      unfold backM
      rw [if_neg (by omega)]
      exact ⟨by dsimp only; rw [hfv, hfv, clr_v], rfl⟩
  · have hr0 : restM { QS.zero anyB with I := S.I.map clr, g := S.g } n l = (0, { QS.zero anyB with I := givenI (S.I.map clr) n k, g := S.g, ws := layQ [] n l true }) := by
      unfold restM
      rw [if_neg (by omega), if_neg (by dsimp only; rw [hfit]; simp), if_neg (by rw [hrm]; omega), if_neg (by simp [QS.zero, lookQ, findQ]), if_neg h0, hll]
      rfl
    have hcu : (curQ (layQ [] n l true) n) = (l, true) := by rw [curQ_lay, if_pos rfl]
    have hok1 := hok0.rest List.Pairwise.nil n l
    rw [hr0] at hok1
    have hg : givenI (S.I.map clr) n k = ((S.I.map clr).take k).map (fun x => { x with t := n }) ++ (S.I.map clr).drop k := rfl
    have hkg : keptI (givenI (S.I.map clr) n k) n = (S.I.map clr).drop k := by
      rw [hg]
      unfold keptI
      rw [List.filter_append]
      have e1 : List.filter (fun x : IT => decide (x.t ≠ n)) (((S.I.map clr).take k).map (fun x => { x with t := n })) = [] := List.filter_eq_nil_iff.2 fun x hx => by
        obtain ⟨y, _, rfl⟩ := List.mem_map.1 hx; simp
      have e2 : List.filter (fun x : IT => decide (x.t ≠ n)) ((S.I.map clr).drop k) = (S.I.map clr).drop k := List.filter_eq_self.2 fun x hx => by
        have := hz x (List.mem_of_mem_drop hx); simp; omega
      rw [e1, e2]; rfl
    refine ⟨_, _, hlo, hr0, rfl, hok0, hok1, ?_, by dsimp only; rw [givenI_v, clr_v], ?_, ?_⟩
    · dsimp only
      rw [lookQ_lay, if_pos rfl]
      have : 0 < l.length := List.length_pos_iff.2 h0
      simp [this]
    · rw [hcm]
      unfold commitM
      rw [if_neg (by omega)]
      dsimp only
      rw [hcu, hkg, hkp]
      refine ⟨?_, rfl⟩
      dsimp only
      rw [List.map_append, List.map_append]
      congr 1
      rw [List.map_drop, clr_v, List.map_drop]
    · rw [hbm]
      unfold backM
      rw [if_neg (by omega)]
      exact ⟨by dsimp only; rw [hfv, hfv, givenI_v, clr_v], rfl⟩
end Go.Proofs.Ytfcafahgmnnlnaa.Qu

namespace Go.Proofs.Ytfcafahgmnnlnaa.Qu
open Go.RowKit Go.Maps Go.Joins Go.Deep
set_option linter.unusedVariables false
set_option linter.unusedSimpArgs false

def wq (y : WI) : WQ := ⟨y.n, y.l, y.p⟩
/-- What holds of the program's queue between calls. -/
structure QGood (S : QS) : Prop where
  nd : S.ws.Pairwise fun a b => a.n ≠ b.n
  pos : ∀ y ∈ S.ws, 1 ≤ y.n
  ok : QOk S
  qr : QR S
  qn : QN S
theorem QGood.zero (B : Nat → Prop) : QGood (QS.zero B) := ⟨List.Pairwise.nil, (fun y hy => nomatch hy), QOk.zero B, QR.zero B, ⟨trivial, Int.le_refl _⟩⟩
theorem callM_ws (S : QS) (o : OpV) : (callM S o).2.ws = S.ws ∨ (∃ n l p, 1 ≤ n ∧ (callM S o).2.ws = layQ S.ws n l p) ∨ (∃ n, (callM S o).2.ws = othersQ S.ws n) := by
  have hop : ∀ n, ¬ openE S n ≠ 0 → 1 ≤ n := fun n h => by
    unfold openE at h
    by_cases e : n < 1
    · rw [if_pos e] at h; exact absurd (by decide) h
    · omega
  unfold callM
  split
  · unfold putM
    split
    · exact .inl rfl
    · rename_i h
      split
      · exact .inl rfl
      · exact .inr (.inl ⟨_, _, _, hop _ h, rfl⟩)
  split
  · unfold takeM
    split
    · exact .inl rfl
    · rename_i h
      split
      · exact .inl rfl
      · split
        · exact .inr (.inl ⟨_, _, _, hop _ h, rfl⟩)
        · exact .inl rfl
  split
  · unfold prepM
    split
    · exact .inl rfl
    · rename_i h
      split
      · exact .inl rfl
      · exact .inr (.inl ⟨_, _, _, hop _ h, rfl⟩)
  split
  · unfold commitM
    split
    · exact .inl rfl
    · exact .inr (.inr ⟨_, rfl⟩)
  split
  · unfold backM
    split
    · exact .inl rfl
    · exact .inr (.inr ⟨_, rfl⟩)
  split
  · unfold restM
    split
    · exact .inl rfl
    · rename_i h
      split
      · exact .inl rfl
      · split
        · exact .inl rfl
        · split
          · exact .inl rfl
          · split
            · exact .inl rfl
            · exact .inr (.inl ⟨_, _, _, by omega, rfl⟩)
  split
  · unfold loadM
    split
    · exact .inl rfl
    · split <;> exact .inl rfl
  · exact .inl rfl
theorem QGood.call {S : QS} (h : QGood S) (o : OpV) : QGood (callM S o).2 := by
  refine ⟨?_, ?_, h.ok.call h.nd o, h.qr.call o, h.qn.call h.qr o⟩
  · rcases callM_ws S o with e | ⟨n, l, p, _, e⟩ | ⟨n, e⟩
    · rw [e]; exact h.nd
    · rw [e]; exact layQ_nd h.nd n l p
    · rw [e]; exact othersQ_nd h.nd n
  · rcases callM_ws S o with e | ⟨n, l, p, hn, e⟩ | ⟨n, e⟩
    · rw [e]; exact h.pos
    · rw [e]
      intro y hy
      rcases layQ_mem hy with rfl | ⟨hy, _⟩
      · exact hn
      · exact h.pos y hy
    · rw [e]
      exact fun y hy => h.pos y (List.mem_filter.1 hy).1
theorem QGood.rebase {S : QS} {B : Nat → Prop} (h : QGood S) : QGood { S with B := B } := ⟨h.nd, h.pos, h.ok.rebase, h.qr.rebase, h.qn.same rfl rfl⟩
/-- The program's queue and the document's hold the same. -/
structure Rel (S : QS) (P : List (Int × Nat)) (ws : List WI) (gv : Int) : Prop where
  I : P = prI S.I
  g : gv = S.g
  w : S.ws = ws.map wq
theorem pair_inj {α β : Type} {f : α → β} {ws : List α} (hd : ws.Pairwise fun a b => f a ≠ f b) {a b : α} (ha : a ∈ ws) (hb : b ∈ ws) (e : f a = f b) : a = b := by
  obtain ⟨i, hi, rfl⟩ := List.mem_iff_getElem.1 ha
  obtain ⟨j, hj, rfl⟩ := List.mem_iff_getElem.1 hb
  rcases Nat.lt_trichotomy i j with h | h | h
  · exact absurd e (List.pairwise_iff_getElem.1 hd i j hi hj h)
  · subst h; rfl
  · exact absurd e.symm (List.pairwise_iff_getElem.1 hd j i hj hi h)
theorem findQ_wq (ws : List WI) (n : Int) : findQ (ws.map wq) n = (findW ws n).map wq := by
  unfold findQ findW
  rw [List.find?_map]
  rfl
section
variable {S : QS} {P : List (Int × Nat)} {ws : List WI} {gv : Int}
theorem Rel.look (h : Rel S P ws gv) (n : Int) : lookQ S.ws n = (findW ws n).map fun y => (y.l, y.p) := by
  unfold lookQ
  rw [h.w, findQ_wq]
  cases findW ws n <;> rfl
theorem Rel.cur (h : Rel S P ws gv) {n : Int} {z : WI} (hf : findW ws n = some z) : curQ S.ws n = (z.l, z.p) := by
  unfold curQ
  rw [h.look, hf]; rfl
theorem Rel.cur0 (h : Rel S P ws gv) {n : Int} (hf : findW ws n = none) : curQ S.ws n = ([], false) := by
  unfold curQ
  rw [h.look, hf]; rfl
theorem Rel.nd (h : Rel S P ws gv) (hg : QGood S) : ws.Pairwise fun a b => a.n ≠ b.n := by
  have := hg.nd
  rw [h.w, List.pairwise_map] at this
  exact this
theorem Rel.pos (h : Rel S P ws gv) (hg : QGood S) : ∀ y ∈ ws, 1 ≤ y.n := fun y hy => hg.pos (wq y) (by rw [h.w]; exact List.mem_map_of_mem hy)
theorem Rel.may (h : Rel S P ws gv) (n : Int) : mayR ws n = openE S n := by
  unfold mayR openE
  rcases hf : findW ws n with _ | z
  · rw [h.cur0 hf]; rfl
  · rw [h.cur hf]
theorem Rel.puts (h : Rel S P ws gv) : putsR ws = putsW S.ws := by
  unfold putsR putsW
  rw [h.w, List.map_map]
  rfl
theorem Rel.len (h : Rel S P ws gv) : P.length = S.I.length := by rw [h.I]; unfold prI; rw [List.length_map]
theorem Rel.room (h : Rel S P ws gv) : roomR P ws gv = roomQ S := by
  unfold roomR roomQ
  rw [h.len, h.puts, h.g]
theorem NumL.get : ∀ (L : List Int) (k : Int), NumL k L → ∀ i (hi : i < L.length), L[i]'hi = k + (i : Nat)
  | x :: r, k, h, 0, _ => by rw [List.getElem_cons_zero, h.1]; simp
  | x :: r, k, h, i + 1, hi => by
    rw [List.getElem_cons_succ, NumL.get r (k + 1) h.2 i (by simpa using hi)]
    push_cast
    omega
theorem QN.inj (h : QN S) {x y : IT} (hx : x ∈ S.I) (hy : y ∈ S.I) (e : x.n = y.n) : x = y := by
  obtain ⟨i, hi, rfl⟩ := List.mem_iff_getElem.1 hx
  obtain ⟨j, hj, rfl⟩ := List.mem_iff_getElem.1 hy
  have a := NumL.get _ _ h.num i (by rw [List.length_map]; exact hi)
  have b := NumL.get _ _ h.num j (by rw [List.length_map]; exact hj)
  rw [List.getElem_map] at a b
  obtain rfl : i = j := by omega
  rfl
theorem hasT_iff {l : List Ch} {k : Int} : hasT l k = true ↔ ∃ c ∈ tkL l, c.y = k := by
  unfold hasT tkL
  rw [List.any_eq_true]
  constructor
  · rintro ⟨c, hc, h⟩
    simp at h
    exact ⟨c, List.mem_filter.2 ⟨hc, by simpa using h.1⟩, h.2⟩
  · rintro ⟨c, hc, h⟩
    obtain ⟨h1, h2⟩ := List.mem_filter.1 hc
    exact ⟨c, h1, by simp at h2; simp [h2, h]⟩
theorem findW_of (hd : ws.Pairwise fun a b => a.n ≠ b.n) {y : WI} (hy : y ∈ ws) : findW ws y.n = some y := by
  rcases hf : findW ws y.n with _ | z
  · unfold findW at hf
    rw [List.find?_eq_none] at hf
    exact absurd (decide_eq_true rfl) (hf y hy)
  · obtain ⟨h1, h2⟩ := findW_mem hf
    rw [pair_inj hd h1 hy h2]
/-- Who has taken an item. -/
theorem Rel.tak (h : Rel S P ws gv) (hg : QGood S) : ∀ x ∈ S.I, takR ws x.n = x.t := fun x hx => by
  have hw : ∀ y ∈ ws, ∀ k, hasT y.l k = true ↔ ∃ x' ∈ S.I, x'.t = y.n ∧ x'.n = k := fun y hy k => by
    have htk := hg.qr.tk y.n (h.pos hg y hy)
    rw [h.cur (findW_of (h.nd hg) hy)] at htk
    dsimp only at htk
    rw [hasT_iff, htk]
    constructor
    · rintro ⟨c, hc, e⟩
      obtain ⟨x', hx', rfl⟩ := List.mem_map.1 hc
      obtain ⟨h1, h2⟩ := List.mem_filter.1 hx'
      exact ⟨x', h1, by simpa using h2, e⟩
    · rintro ⟨x', h1, h2, e⟩
      exact ⟨chOf x', List.mem_map_of_mem (List.mem_filter.2 ⟨h1, by simpa using h2⟩), e⟩
  unfold takR
  split
  · rename_i y hf
    have hy := List.mem_of_find?_eq_some hf
    obtain ⟨x', h1, h2, h3⟩ := (hw y hy x.n).1 (List.find?_some (p := fun y : WI => hasT y.l x.n) hf)
    rw [hg.qn.inj hx h1 h3.symm, h2]
  · rename_i hf
    rw [List.find?_eq_none] at hf
    obtain ⟨P0, F, n, e, hF, hP, hn⟩ := hg.qr.pre
    have hx' := hx
    rw [e] at hx'
    rcases List.mem_append.1 hx' with h1 | h1
    · have ht := hP x h1
      have htk := hg.qr.tk n hn
      have hm : chOf x ∈ (byI S.I n).map chOf := List.mem_map_of_mem (List.mem_filter.2 ⟨hx, by simpa using ht⟩)
      rw [← htk] at hm
      rcases hfw : findW ws n with _ | z
      · rw [h.cur0 hfw] at hm; simp [tkL] at hm
      · have hz := findW_mem hfw
        refine absurd ((hw z hz.1 x.n).2 ⟨x, hx, ht.trans hz.2.symm, rfl⟩) ?_
        simpa using hf z hz.1
    · exact (hF x h1).symm
end
theorem kept_eq (ws : List WI) (n : Int) : ∀ L : List IT, (∀ x ∈ L, takR ws x.n = x.t) → keptR ws n (prI L) = prI (keptI L n)
  | [], _ => rfl
  | x :: r, h => by
    have hx := h x (List.mem_cons_self ..)
    have ih := kept_eq ws n r fun y hy => h y (List.mem_cons_of_mem _ hy)
    unfold keptR prI keptI at ih ⊢
    rw [List.map_cons, List.filter_cons, List.filter_cons, ih]
    dsimp only
    rw [hx]
    by_cases e : x.t = n
    · simp [e]
    · simp [e]
def notBy (n : Int) (x : IT) : Bool := decide (x.t ≠ n)
theorem next_eq (ws : List WI) (n : Int) : ∀ L : List IT, (∀ x ∈ L, takR ws x.n = x.t) → nextR ws n (prI L) = (L.find? (notBy n)).map fun x => (x.n, x.v)
  | [], _ => rfl
  | x :: r, h => by
    have hx := h x (List.mem_cons_self ..)
    have ih := next_eq ws n r fun y hy => h y (List.mem_cons_of_mem _ hy)
    have e0 : prI (x :: r) = (x.n, x.v) :: prI r := rfl
    rw [e0]
    unfold nextR
    dsimp only
    rw [hx, List.find?_cons]
    by_cases e : x.t = n
    · rw [if_pos e, ih]; simp [notBy, e]
    · rw [if_neg e]; simp [notBy, e]
theorem right_eq (ws : List WI) : ∀ (l : List Ch) (L : List IT), (∀ x ∈ L, takR ws x.n = x.t) → rightL ws (prI L) l = fitsQ L l
  | [], L, _ => by cases L <;> rfl
  | c :: l, L, h => by
    unfold rightL fitsQ
    by_cases h3 : c.k = 3
    · rw [if_pos h3, if_pos h3, right_eq ws l L h]
    · rw [if_neg h3, if_neg h3]
      by_cases h4 : c.k = 4
      · rw [if_pos h4, if_pos h4]
        match L, h with
        | [], _ => rfl
        | x :: r, h =>
          have hx := h x (List.mem_cons_self ..)
          have ih := right_eq ws l r fun y hy => h y (List.mem_cons_of_mem _ hy)
          have e0 : prI (x :: r) = (x.n, x.v) :: prI r := rfl
          rw [e0]
          dsimp only
          rw [ih]
          unfold eqIT
          by_cases e : x.n = c.y
          · rw [← e, hx]
            cases (x.v == c.v) <;> cases (x.t == 0) <;> simp
          · have e' : (x.n == c.y) = false := by simpa using e
            rw [e']; simp
      · rw [if_neg h4, if_neg h4]
theorem front_find (L : List IT) (n : Int) : match L.find? (notBy n) with
    | none => frontR L n = (0, 140)
    | some x => if x.t = 0 then ∃ i, L[i]? = some x ∧ frontR L n = (i, 0) else frontR L n = (0, 120) := by
  have hix : ∀ x ∈ ixs L, x.2 ∈ L := fun x hx => by
    obtain ⟨i, hi, rfl⟩ := List.mem_iff_getElem.1 hx
    have hl : i < L.length := by have : (ixs L).length = L.length := ixsF_len L 0; omega
    obtain ⟨_, e⟩ := ixs_get L i hl
    rw [e]; exact List.getElem_mem hl
  split
  · rename_i hf
    rw [List.find?_eq_none] at hf
    exact front_none fun x hx => by simpa [notBy] using hf x.2 (hix x hx)
  · rename_i x hf
    rw [List.find?_eq_some_iff_getElem] at hf
    obtain ⟨h1, i, hi, rfl, hj⟩ := hf
    have := front_at (n := n) hi (fun x hx => by
      rw [List.mem_take_iff_getElem] at hx
      obtain ⟨j, hj2, rfl⟩ := hx
      obtain ⟨_, e⟩ := ixs_get L j (by omega)
      rw [e]
      simpa [notBy] using hj j (by omega)) (by simpa [notBy] using h1)
    split
    · rename_i h0
      rw [if_pos h0] at this
      exact ⟨i, List.getElem?_eq_getElem hi, this⟩
    · rename_i h0
      rw [if_neg h0] at this
      exact this
theorem turn_pair {ws : List WI} {z : WI} (h : (turnW ws z).Pairwise fun a b => a.q ≠ b.q) : ws.Pairwise fun a b => a.q ≠ b.q := by
  unfold turnW at h
  rw [List.pairwise_map] at h
  refine h.imp fun {a b} hab => ?_
  by_cases e1 : a.q = z.q
  · by_cases e2 : b.q = z.q
    · rw [if_pos e1, if_pos e2] at hab; exact absurd rfl hab
    · rw [if_pos e1, if_neg e2] at hab; rw [e1]; exact hab
  · by_cases e2 : b.q = z.q
    · rw [if_neg e1, if_pos e2] at hab; rw [e2]; exact hab
    · rw [if_neg e1, if_neg e2] at hab; exact hab
theorem turn_none (ws : List WI) (z : WI) (h : ∀ y ∈ ws, y.q ≠ z.q) : turnW ws z = ws := by
  unfold turnW
  conv => rhs; rw [← List.map_id ws]
  exact List.map_congr_left fun y hy => by rw [if_neg (h y hy)]; rfl
section
variable {S : QS} {P : List (Int × Nat)} {ws : List WI} {gv : Int}
/-- A work turns, in both. -/
theorem Rel.turn (h : Rel S P ws gv) (hg : QGood S) {n : Int} {z z' : WI} (hd : (turnW ws z').Pairwise fun a b => a.q ≠ b.q) (hf : findW ws n = some z) (hq : z'.q = z.q) (hn : z'.n = n) : layQ S.ws n z'.l z'.p = (turnW ws z').map wq := by
  have hq' := turn_pair hd
  obtain ⟨hz, hzn⟩ := findW_mem hf
  unfold layQ
  rw [h.w, findQ_wq, hf, if_pos (show (Option.map wq (some z)).isSome = true from rfl)]
  unfold turnW
  rw [List.map_map, List.map_map]
  refine List.map_congr_left fun y hy => ?_
  simp only [Function.comp]
  by_cases e : y.q = z'.q
  · obtain rfl := pair_inj hq' hy hz (e.trans hq)
    rw [if_pos e, if_pos (show (wq y).n = n from hzn), ← hn]; rfl
  · rw [if_neg e, if_neg (fun e2 => e ?_)]
    have e2 : y.n = n := e2
    obtain rfl := pair_inj (h.nd hg) hy hz (e2.trans hzn.symm)
    exact hq.symm
/-- A work comes, in both. -/
theorem Rel.snoc (h : Rel S P ws gv) {n : Int} {z' : WI} (hf : findW ws n = none) (hn : z'.n = n) : layQ S.ws n z'.l z'.p = (ws ++ [z']).map wq := by
  unfold layQ
  rw [h.w, findQ_wq, hf, if_neg (by simp), List.map_append, ← hn]; rfl
theorem Rel.othersW (h : Rel S P ws gv) (n : Int) : othersQ S.ws n = (othersW ws n).map wq := by
  unfold othersQ Qu.othersW
  rw [h.w, List.filter_map]; rfl
end
end Go.Proofs.Ytfcafahgmnnlnaa.Qu

namespace Go.Proofs.Ytfcafahgmnnlnaa.Qu
open Go.RowKit Go.Maps Go.Joins Go.Deep
set_option linter.unusedVariables false
set_option linter.unusedSimpArgs false

theorem RH.weak {B0 : Nat} {u u' : World} {x : Nat} {S S' : Nat → Prop} (h : RH B0 u u' x S) (hS : ∀ r, S r → S' r) : RH B0 u u' x S' := ⟨h.os, h.tape, h.output, h.size, h.low, fun k hk hx => (h.block k hk hx).imp id (Or.imp id (Or.imp id (Or.imp id fun hh => ⟨hh.1, hS k hh.2⟩)))⟩
theorem noS {B : Nat} {w1 w' : World} {x : Nat} {ws : List WI} (h : RH B w1 w' x (fun _ => False)) : RH B w1 w' x (fun r => ∃ y ∈ ws, blk y.A = some r) := h.weak fun _ hf => hf.elim
/-- What comes of a call of the document's queue, in the words of the program's. -/
def StepO (w : World) (B x : Nat) (o : OpV) (S : QS) (ws : List WI) (e : Ending) (w' : World) : Prop :=
  ∃ A q c P' ws' gv', e = .returned (.tuple #[.int .u64 ((callM S o).1.1 : Nat), .slice A q c, .int .i64 (callM S o).1.2.2]) ∧ q = (callM S o).1.2.1.length ∧ OwnC w' w.heap.size A c (callM S o).1.2.1 ∧
    RQ w' B x P' ws' gv' ∧ Rel (callM S o).2 P' ws' gv' ∧ ws'.length ≤ ws.length + 1 ∧ RH B w w' x (fun r => ∃ y ∈ ws, blk y.A = some r) ∧
    ∀ y ∈ ws', ∀ r, blk y.A = some r → (∃ y ∈ ws, blk y.A = some r) ∨ w.heap.size ≤ r
/-- A call that tells no list. -/
theorem StepO.mk0 {w w1 w' : World} {B x : Nat} {o : OpV} {S S' : QS} {ws ws' : List WI} {P' : List (Int × Nat)} {gv' : Int} {v : Nat} {er : Int} (hb : Below w.heap.size w w1) (hM : callM S o = ((v, [], er), S')) (hR : RQ w' B x P' ws' gv') (hr : Rel S' P' ws' gv') (hl : ws'.length ≤ ws.length + 1) (hg : RH B w1 w' x (fun r => ∃ y ∈ ws, blk y.A = some r))
    (hA : ∀ y ∈ ws', ∀ r, blk y.A = some r → (∃ y ∈ ws, blk y.A = some r) ∨ w1.heap.size ≤ r) : StepO w B x o S ws (.returned (.tuple #[.int .u64 (v : Nat), .slice none 0 0, .int .i64 er])) w' := by
  refine ⟨none, 0, 0, P', ws', gv', ?_, ?_, ?_, hR, ?_, hl, (RH.of (lbelow_grown hb (some x))).trans hg (fun _ _ h => h), fun y hy r e => (hA y hy r e).imp id (Nat.le_trans hb.size)⟩
  · rw [hM]
  · rw [hM]; rfl
  · rw [hM]; exact OwnC.nil _ _
  · rw [hM]; exact hr
theorem RQ.pair {w : World} {B x : Nat} {P : List (Int × Nat)} {ws : List WI} {gv : Int} (h : RQ w B x P ws gv) : ws.Pairwise fun a b => a.q ≠ b.q := h.ds.imp fun hab => hab.1
/-- A change is noted, in both. -/
theorem note_step {w1 w' : World} {B x : Nat} {P : List (Int × Nat)} {ws : List WI} {gv : Int} {S : QS} {n : Int} {c : Ch} (hr : Rel S P ws gv) (hg : QGood S) (hm : mayR ws n = 0) (h : NoteO w1 B x P ws gv n c w') :
    ∃ ws', RQ w' B x P ws' gv ∧ addQ S.ws n c = ws'.map wq ∧ ws'.length ≤ ws.length + 1 ∧ RH B w1 w' x (fun r => ∃ y ∈ ws, blk y.A = some r) ∧
      ∀ y ∈ ws', ∀ r, blk y.A = some r → (∃ y ∈ ws, blk y.A = some r) ∨ w1.heap.size ≤ r := by
  obtain ⟨ws2, z, A5, c5, hz, hR, hrg, hA⟩ := h
  refine ⟨_, hR, ?_, ?_, hrg.rh, ?_⟩
  · rcases hz with ⟨hf, rfl⟩ | ⟨hf, q, rfl, rfl⟩
    · unfold addQ
      rw [hr.cur hf]
      exact hr.turn hg (z' := ⟨z.q, z.n, A5, c5, z.l ++ [c], z.p⟩) hR.pair hf rfl (findW_mem hf).2
    · unfold addQ
      rw [hr.cur0 hf]
      have hq := turn_pair hR.pair
      rw [List.pairwise_append] at hq
      have e : turnW (ws ++ [⟨q, n, none, 0, [], false⟩]) ⟨q, n, A5, c5, [] ++ [c], false⟩ = ws ++ [⟨q, n, A5, c5, [] ++ [c], false⟩] := by
        have e1 := turn_none ws ⟨q, n, A5, c5, [] ++ [c], false⟩ (fun y hy => hq.2.2 y hy ⟨q, n, none, 0, [], false⟩ (List.mem_singleton_self _))
        unfold turnW at e1 ⊢
        rw [List.map_append, e1]
        simp
      dsimp only
      rw [e]
      exact hr.snoc (z' := ⟨q, n, A5, c5, [] ++ [c], false⟩) hf rfl
  · unfold turnW
    rw [List.length_map]
    rcases hz with ⟨hf, rfl⟩ | ⟨hf, q, rfl, rfl⟩
    · omega
    · simp
  · intro y hy r e
    unfold turnW at hy
    obtain ⟨y0, hy0, rfl⟩ := List.mem_map.1 hy
    split at e
    · exact hA r e
    · rcases hz with ⟨hf, rfl⟩ | ⟨hf, q, rfl, rfl⟩
      · exact .inl ⟨y0, hy0, e⟩
      · rcases List.mem_append.1 hy0 with h | h
        · exact .inl ⟨y0, h, e⟩
        · obtain rfl := List.mem_singleton.1 h
          cases e
theorem prI_give (L : List IT) (i : Nat) (n : Int) : prI (giveI L i n) = prI L := by
  unfold prI giveI
  refine List.ext_getElem? fun j => ?_
  rw [List.getElem?_map, List.getElem?_map, List.getElem?_modify]
  by_cases e : i = j
  · subst e
    cases L[i]? <;> simp
  · cases L[j]? <;> simp [e]
theorem prI_free (L : List IT) (n : Int) : prI (L.map (freeI n)) = prI L := by
  unfold prI
  rw [List.map_map]
  refine List.map_congr_left fun x _ => ?_
  simp only [Function.comp]
  unfold freeI
  split <;> rfl
theorem prI_given (L : List IT) (n : Int) (k : Nat) : prI (givenI L n k) = prI L := by
  unfold prI givenI
  rw [List.map_append, List.map_map]
  conv => rhs; rw [← List.take_append_drop k L, List.map_append]
  rfl
theorem othersW_len (ws : List WI) (n : Int) : (othersW ws n).length ≤ ws.length := List.length_filter_le _ _
theorem othersW_none {ws : List WI} {n : Int} (h : findW ws n = none) : othersW ws n = ws := by
  unfold findW at h
  rw [List.find?_eq_none] at h
  unfold othersW
  rw [List.filter_eq_self]
  intro y hy
  have := h y hy
  simpa using this
set_option maxHeartbeats 1000000 in
theorem mdl_step {w w' : World} {B x : Nat} {P : List (Int × Nat)} {ws : List WI} {gv : Int} {S : QS} {o : OpV} {e : Ending} (hR0 : RQ w B x P ws gv) (hr : Rel S P ws gv) (hG : QGood S) (h : MdlO w B x P ws gv o e w') : StepO w B x o S ws e w' := by
  obtain ⟨w1, v, A, q, c, er, hb, rfl, h⟩ := h
  have hmem : ∀ y ∈ ws, ∀ r, blk y.A = some r → (∃ y ∈ ws, blk y.A = some r) ∨ w1.heap.size ≤ r := fun y hy r e => .inl ⟨y, hy, e⟩
  have hmemO : ∀ n, ∀ y ∈ othersW ws n, ∀ r, blk y.A = some r → (∃ y ∈ ws, blk y.A = some r) ∨ w1.heap.size ≤ r := fun n y hy r e => .inl ⟨y, (List.mem_filter.1 hy).1, e⟩
  have htk := hr.tak hG
  have hR1 := hR0.below hb
  by_cases k2 : o.k = 2
  · rw [if_pos k2] at h
    obtain ⟨rfl, A', q', c', he, hq, hown, hR, hg⟩ := h
    injection he with he
    injection he with he
    have he := congrArg Array.toList he
    simp only [List.cons.injEq, Value.slice.injEq, Value.int.injEq, true_and, and_true] at he
    obtain ⟨⟨rfl, rfl, rfl⟩, rfl⟩ := he
    have hM : callM S o = ((0, (prepM S o.n).1.1, (prepM S o.n).1.2), (prepM S o.n).2) := by
      unfold callM
      rw [if_neg (by omega), if_neg (by omega), if_pos k2]
    have hkey : (prepM S o.n).1 = (prepR ws o.n).1 ∧ Rel (prepM S o.n).2 P (prepR ws o.n).2 gv ∧ (prepR ws o.n).2.length ≤ ws.length + 1 ∧ ∀ y ∈ (prepR ws o.n).2, ∀ r, blk y.A = some r → (∃ y ∈ ws, blk y.A = some r) ∨ w1.heap.size ≤ r := by
      have hmy := hr.may o.n
      by_cases h0 : mayR ws o.n = 0
      · rcases hf : findW ws o.n with _ | z
        · have e1 : prepM S o.n = (([], 0), S) := by unfold prepM; rw [if_neg (by rw [← hmy, h0]; simp), hr.look, hf]; rfl
          have e2 : prepR ws o.n = (([], 0), ws) := by unfold prepR; rw [if_neg (by rw [h0]; simp), hf]
          rw [e1, e2]; exact ⟨rfl, hr, by simp, hmem⟩
        · have e1 : prepM S o.n = ((z.l, 0), { S with ws := layQ S.ws o.n z.l true }) := by unfold prepM; rw [if_neg (by rw [← hmy, h0]; simp), hr.look, hf, hr.cur hf]; rfl
          have e2 : prepR ws o.n = ((z.l, 0), turnW ws ⟨z.q, z.n, z.A, z.c, z.l, true⟩) := by unfold prepR; rw [if_neg (by rw [h0]; simp), hf]
          rw [e1, e2]
          rw [e2] at hR
          refine ⟨rfl, ⟨hr.I, hr.g, hr.turn hG (z' := ⟨z.q, z.n, z.A, z.c, z.l, true⟩) hR.pair hf rfl (findW_mem hf).2⟩, by unfold turnW; simp, fun y hy r e => ?_⟩
          unfold turnW at hy
          obtain ⟨y0, hy0, rfl⟩ := List.mem_map.1 hy
          split at e
          · exact .inl ⟨z, (findW_mem hf).1, e⟩
          · exact .inl ⟨y0, hy0, e⟩
      · have e1 : prepM S o.n = (([], mayR ws o.n), S) := by unfold prepM; rw [if_pos (by rw [← hmy]; exact h0), ← hmy]
        have e2 : prepR ws o.n = (([], mayR ws o.n), ws) := by unfold prepR; rw [if_pos h0]
        rw [e1, e2]; exact ⟨rfl, hr, by simp, hmem⟩
    obtain ⟨h1, h3, h4, h5⟩ := hkey
    refine ⟨A, q, c, P, (prepR ws o.n).2, gv, ?_, ?_, ?_, hR, ?_, h4, (RH.of (lbelow_grown hb (some x))).trans (noS hg.rh) (fun _ _ h => h), fun y hy r e => (h5 y hy r e).imp id (Nat.le_trans hb.size)⟩
    · rw [hM, h1]
    · rw [hM, h1]; exact hq
    · rw [hM, h1]; exact hown.less hb.size
    · rw [hM]; exact h3
  rw [if_neg k2] at h
  obtain ⟨rfl, rfl, rfl, h⟩ := h
  have hbel : ∀ {w'}, Below w1.heap.size w1 w' → RH B w1 w' x (fun r => ∃ y ∈ ws, blk y.A = some r) := fun hb => RH.of (lbelow_grown hb _)
  by_cases k1 : o.k = 1
  · rw [if_pos k1] at h
    have hmy := hr.may o.n
    have hnx := next_eq ws o.n S.I htk
    rw [← hr.I] at hnx
    have hff := front_find S.I o.n
    have hM : callM S o = (((takeM S o.n).1.1, [], (takeM S o.n).1.2), (takeM S o.n).2) := by
      unfold callM
      rw [if_neg (by omega), if_pos k1]
    have inj2 : ∀ {a b : Int} {c d : Int}, Ending.returned (.tuple #[.int .u64 a, .int .i64 b]) = .returned (.tuple #[.int .u64 c, .int .i64 d]) → a = c ∧ b = d := fun he => by
      injection he with he
      injection he with he
      have he := congrArg Array.toList he
      simpa only [List.cons.injEq, Value.int.injEq, true_and, and_true] using he
    rcases h with ⟨h0, he, hb2⟩ | ⟨h0, hn, he, hb2⟩ | ⟨h0, y, hy, ⟨ht, he, hb2⟩ | ⟨ht, he, hnt⟩⟩
    · obtain ⟨hv, rfl⟩ := inj2 he
      obtain rfl : v = 0 := by omega
      exact StepO.mk0 hb (by rw [hM]; unfold takeM; rw [if_pos (by rw [← hmy]; exact h0), ← hmy]) (hR1.below hb2) hr (by omega) (hbel hb2) hmem
    · obtain ⟨hv, rfl⟩ := inj2 he
      obtain rfl : v = 0 := by omega
      rw [hnx] at hn
      have hfd : S.I.find? (notBy o.n) = none := by
        rcases hh : S.I.find? (notBy o.n) with _ | z
        · rfl
        · rw [hh] at hn; cases hn
      rw [hfd] at hff
      exact StepO.mk0 hb (by rw [hM]; unfold takeM; rw [if_neg (by rw [← hmy, h0]; simp), hff]; rfl) (hR1.below hb2) hr (by omega) (hbel hb2) hmem
    · obtain ⟨hv, rfl⟩ := inj2 he
      obtain rfl : v = 0 := by omega
      rw [hnx] at hy
      rcases hfd : S.I.find? (notBy o.n) with _ | z
      · rw [hfd] at hy; cases hy
      · rw [hfd] at hy hff
        cases hy
        have hz := List.mem_of_find?_eq_some hfd
        dsimp only at ht hff
        rw [htk z hz] at ht
        rw [if_neg ht] at hff
        exact StepO.mk0 hb (by rw [hM]; unfold takeM; rw [if_neg (by rw [← hmy, h0]; simp), hff]; rfl) (hR1.below hb2) hr (by omega) (hbel hb2) hmem
    · rw [hnx] at hy
      rcases hfd : S.I.find? (notBy o.n) with _ | z
      · rw [hfd] at hy; cases hy
      · rw [hfd] at hy hff
        cases hy
        obtain ⟨hv, rfl⟩ := inj2 he
        dsimp only at ht hff hv hnt
        obtain rfl : v = z.v := by omega
        have hz := List.mem_of_find?_eq_some hfd
        rw [htk z hz] at ht
        rw [if_pos ht] at hff
        obtain ⟨i, hi, hfr⟩ := hff
        obtain ⟨ws', n1, n2, n3, n4, n5⟩ := note_step hr hG h0 hnt
        have e1 : takeM S o.n = ((z.v, 0), { S with I := giveI S.I i o.n, ws := addQ S.ws o.n ⟨4, z.n, z.v⟩ }) := by
          unfold takeM
          rw [if_neg (by rw [← hmy, h0]; simp), hfr, if_neg (by simp)]
          dsimp only
          rw [hi]
        exact StepO.mk0 hb (S' := { S with I := giveI S.I i o.n, ws := addQ S.ws o.n ⟨4, z.n, z.v⟩ }) (by rw [hM, e1]) n1 ⟨by dsimp only; rw [prI_give]; exact hr.I, hr.g, n2⟩ n3 n4 n5
  rw [if_neg k1] at h
  obtain ⟨rfl, h⟩ := h
  have inj1 : ∀ {a b : Int}, Ending.returned (.int .i64 a) = .returned (.int .i64 b) → a = b := fun he => by
    injection he with he
    injection he
  by_cases k0 : o.k = 0
  · rw [if_pos k0] at h
    have hmy := hr.may o.n
    have hM : callM S o = ((0, [], (putM S o.n o.v).1), (putM S o.n o.v).2) := by
      unfold callM
      rw [if_pos k0]
    rcases h with ⟨h0, he, hb2⟩ | ⟨h0, hn, he, hb2⟩ | ⟨h0, hn, he, hnt⟩
    · obtain rfl := inj1 he
      exact StepO.mk0 hb (by rw [hM]; unfold putM; rw [if_pos (by rw [← hmy]; exact h0), ← hmy]) (hR1.below hb2) hr (by omega) (hbel hb2) hmem
    · obtain rfl := inj1 he
      rw [hr.room] at hn
      exact StepO.mk0 hb (by rw [hM]; unfold putM; rw [if_neg (by rw [← hmy, h0]; simp), if_pos hn]) (hR1.below hb2) hr (by omega) (hbel hb2) hmem
    · obtain rfl := inj1 he
      rw [hr.room] at hn
      obtain ⟨ws', n1, n2, n3, n4, n5⟩ := note_step hr hG h0 hnt
      exact StepO.mk0 hb (S' := { S with ws := addQ S.ws o.n ⟨3, 0, o.v⟩ }) (by rw [hM]; unfold putM; rw [if_neg (by rw [← hmy, h0]; simp), if_neg hn]) n1 ⟨hr.I, hr.g, n2⟩ n3 n4 n5
  rw [if_neg k0] at h
  by_cases k3 : o.k = 3
  · rw [if_pos k3] at h
    obtain ⟨rfl, hR, hg⟩ := h
    have hM : callM S o = ((0, [], (commitM S o.n).1), (commitM S o.n).2) := by
      unfold callM
      rw [if_neg k0, if_neg k1, if_neg k2, if_pos k3]
    by_cases hn : o.n < 1
    · have e1 : commitM S o.n = (1, S) := by unfold commitM; rw [if_pos hn]
      have e2 : commitR P ws gv o.n = (1, P, ws, gv) := by unfold commitR; rw [if_pos hn]
      rw [e2] at hR ⊢
      exact StepO.mk0 hb (by rw [hM, e1]) hR hr (by simp) (RH.of hg) hmem
    · have hk := kept_eq ws o.n S.I htk
      rw [← hr.I] at hk
      rcases hf : findW ws o.n with _ | z
      · have e1 : commitM S o.n = (0, { S with I := keptI S.I o.n ++ [], g := S.g + (0 : Nat), ws := othersQ S.ws o.n }) := by unfold commitM; rw [if_neg hn, hr.cur0 hf]; rfl
        have e2 : commitR P ws gv o.n = (0, P, ws, gv) := by unfold commitR; rw [if_neg hn, hf]
        rw [e2] at hR ⊢
        have hall : keptI S.I o.n = S.I := by
          unfold keptI
          rw [List.filter_eq_self]
          intro x hx
          have ht := hG.qr.tk o.n (by omega)
          rw [hr.cur0 hf] at ht
          have hm : x.t ≠ o.n := fun e => by
            have : chOf x ∈ (byI S.I o.n).map chOf := List.mem_map_of_mem (List.mem_filter.2 ⟨hx, by simpa using e⟩)
            rw [← ht] at this
            simp [tkL] at this
          simpa using hm
        exact StepO.mk0 hb (S' := { S with I := keptI S.I o.n ++ [], g := S.g + (0 : Nat), ws := othersQ S.ws o.n }) (by rw [hM, e1]) hR ⟨by dsimp only; rw [List.append_nil, hall]; exact hr.I, by dsimp only; rw [hr.g]; simp, by dsimp only; rw [hr.othersW, othersW_none hf]⟩ (by simp) (RH.of hg) hmem
      · have e1 : commitM S o.n = (0, { S with I := keptI S.I o.n ++ newsQ S.g z.l, g := S.g + (putsL z.l : Nat), ws := othersQ S.ws o.n }) := by unfold commitM; rw [if_neg hn, hr.cur hf]
        have e2 : commitR P ws gv o.n = (0, keptR ws o.n P ++ newsR gv z.l, othersW ws o.n, gv + (putsL z.l : Nat)) := by unfold commitR; rw [if_neg hn, hf]
        rw [e2] at hR ⊢
        exact StepO.mk0 hb (S' := { S with I := keptI S.I o.n ++ newsQ S.g z.l, g := S.g + (putsL z.l : Nat), ws := othersQ S.ws o.n }) (by rw [hM, e1]) hR ⟨by dsimp only; rw [hk, hr.g]; unfold newsR prI; rw [List.map_append], by dsimp only; rw [hr.g], hr.othersW o.n⟩ (Nat.le_trans (othersW_len _ _) (Nat.le_succ _)) (RH.of hg) (hmemO _)
  rw [if_neg k3] at h
  by_cases k4 : o.k = 4
  · rw [if_pos k4] at h
    obtain ⟨rfl, hR, hg⟩ := h
    have hM : callM S o = ((0, [], (backM S o.n).1), (backM S o.n).2) := by
      unfold callM
      rw [if_neg k0, if_neg k1, if_neg k2, if_neg k3, if_pos k4]
    by_cases hn : o.n < 1
    · have e1 : backM S o.n = (1, S) := by unfold backM; rw [if_pos hn]
      have e2 : backR ws o.n = (1, ws) := by unfold backR; rw [if_pos hn]
      rw [e2] at hR ⊢
      exact StepO.mk0 hb (by rw [hM, e1]) hR hr (by simp) (RH.of hg) hmem
    · have e1 : backM S o.n = (0, { S with I := S.I.map (freeI o.n), ws := othersQ S.ws o.n }) := by unfold backM; rw [if_neg hn]
      have e2 : backR ws o.n = (0, othersW ws o.n) := by unfold backR; rw [if_neg hn]
      rw [e2] at hR ⊢
      exact StepO.mk0 hb (S' := { S with I := S.I.map (freeI o.n), ws := othersQ S.ws o.n }) (by rw [hM, e1]) hR ⟨by dsimp only; rw [prI_free]; exact hr.I, hr.g, hr.othersW o.n⟩ (Nat.le_trans (othersW_len _ _) (Nat.le_succ _)) (RH.of hg) (hmemO _)
  rw [if_neg k4] at h
  by_cases k5 : o.k = 5
  · rw [if_pos k5] at h
    obtain ⟨he, hg, h⟩ := h
    obtain rfl := inj1 he
    have hM : callM S o = ((0, [], (restM S o.n o.l).1), (restM S o.n o.l).2) := by
      unfold callM
      rw [if_neg k0, if_neg k1, if_neg k2, if_neg k3, if_neg k4, if_pos k5]
    have hri : rightL ws P o.l = fitsQ S.I o.l := by rw [hr.I]; exact right_eq ws o.l S.I htk
    have hroom := hr.room
    have hrm0 : 0 ≤ roomQ S := by
      have h1 := hG.ok.room
      have h2 := hG.ok.last
      unfold roomQ
      omega
    have hrr : rightR P ws gv o.l = (fitsQ S.I o.l && decide (¬ roomQ S < (putsL o.l : Nat))) := by
      unfold rightR
      rw [hri, hroom]
      congr 1
      by_cases e : putsL o.l = 0
      · rw [e]
        simp
        omega
      · by_cases e2 : ((putsL o.l : Nat) : Int) ≤ roomQ S
        · have : ¬ roomQ S < (putsL o.l : Nat) := by omega
          simp [e2, this]
        · have : roomQ S < (putsL o.l : Nat) := by omega
          simp [e, e2, this]
    have hls : (lookQ S.ws o.n).isSome = (findW ws o.n).isSome := by rw [hr.look]; cases findW ws o.n <;> rfl
    have hE : (restM S o.n o.l).1 = restR P ws gv o.n o.l := by
      unfold restM restR
      rw [hrr, hls]
      by_cases h1 : o.n < 1
      · rw [if_pos h1, if_pos h1]
      · rw [if_neg h1, if_neg h1]
        rcases hfi : fitsQ S.I o.l with _ | _
        · rw [if_pos rfl]; simp
        · rw [if_neg (by simp)]
          by_cases h2 : roomQ S < (putsL o.l : Nat)
          · rw [if_pos h2]; simp [h2]
          · rw [if_neg h2]
            simp only [h2, Bool.true_and, not_false_eq_true, decide_true]
            rw [if_neg (show ¬ (true = false) by simp)]
            by_cases h3 : (findW ws o.n).isSome = true
            · rw [if_pos h3, if_pos h3]
            · rw [if_neg h3, if_neg h3]
              split <;> rfl
    rcases h with ⟨h1, hR⟩ | ⟨h0, hl, q, A, c, hq, hR, hA⟩
    · have hS : (restM S o.n o.l).2 = S := by
        rw [← hE] at h1
        unfold restM at h1 ⊢
        split
        · rfl
        · rename_i a1
          rw [if_neg a1] at h1
          split
          · rfl
          · rename_i a2
            rw [if_neg a2] at h1
            split
            · rfl
            · rename_i a3
              rw [if_neg a3] at h1
              split
              · rfl
              · rename_i a4
                rw [if_neg a4] at h1
                split
                · rfl
                · rename_i a5
                  rw [if_neg a5] at h1
                  rcases h1 with h1 | h1
                  · exact absurd rfl h1
                  · exact absurd h1 a5
      exact StepO.mk0 hb (by rw [hM, hE, hS]) hR hr (by omega) (noS hg.rh) hmem
    · have hn1 : ¬ o.n < 1 := fun e => by
        unfold restR at h0
        rw [if_pos e] at h0
        cases h0
      have hfn : findW ws o.n = none := by
        rcases hf : findW ws o.n with _ | z
        · rfl
        · unfold restR at h0
          rw [if_neg hn1, hf] at h0
          split at h0
          · cases h0
          · rw [if_pos (show (some z).isSome = true from rfl)] at h0; cases h0
      have hS : (restM S o.n o.l).2 = { S with I := givenI S.I o.n (o.l.length - putsL o.l), ws := layQ S.ws o.n o.l true } := by
        rw [← hE] at h0
        unfold restM at h0 ⊢
        rw [if_neg hn1] at h0 ⊢
        split
        · rename_i a2; rw [if_pos a2] at h0; cases h0
        · rename_i a2
          rw [if_neg a2] at h0
          split
          · rename_i a3; rw [if_pos a3] at h0; cases h0
          · rename_i a3
            rw [if_neg a3] at h0
            split
            · rename_i a4; rw [if_pos a4] at h0; cases h0
            · first | rfl | rw [if_neg hl]
      refine StepO.mk0 hb (S' := { S with I := givenI S.I o.n (o.l.length - putsL o.l), ws := layQ S.ws o.n o.l true }) (by rw [hM, hE, hS, h0]) hR ⟨by dsimp only; rw [prI_given]; exact hr.I, hr.g, hr.snoc (z' := ⟨q, o.n, A, c, o.l, true⟩) hfn rfl⟩ (by simp) (noS hg.rh) (fun y hy r e => ?_)
      rcases List.mem_append.1 hy with hy | hy
      · exact .inl ⟨y, hy, e⟩
      · obtain rfl := List.mem_singleton.1 hy
        exact .inr (hA r e)
  rw [if_neg k5] at h
  by_cases k6 : o.k = 6
  · rw [if_pos k6] at h
    obtain ⟨rfl, hR, hg⟩ := h
    have hM : callM S o = ((0, [], (loadM S o.vs o.x).1), (loadM S o.vs o.x).2) := by
      unfold callM
      rw [if_neg k0, if_neg k1, if_neg k2, if_neg k3, if_neg k4, if_neg k5, if_pos k6]
    have hP0 : P = [] ↔ S.I = [] := by rw [hr.I]; unfold prI; exact List.map_eq_nil_iff
    have hw0 : ws = [] ↔ S.ws = [] := by rw [hr.w]; exact List.map_eq_nil_iff.symm
    by_cases h1 : P ≠ [] ∨ ws ≠ []
    · have e1 : loadM S o.vs o.x = (7, S) := by unfold loadM; rw [if_pos (by rw [ne_eq, ne_eq, ← hP0, ← hw0]; exact h1)]
      have e2 : loadR P ws gv o.vs o.x = (7, P, gv) := by unfold loadR; rw [if_pos h1]
      rw [e2] at hR ⊢
      exact StepO.mk0 hb (by rw [hM, e1]) hR hr (by omega) (noS hg) hmem
    · by_cases h2 : 16 < o.vs.length ∨ o.x ≤ o.vs.length ∨ 4611686018427387904 < o.x
      · have e1 : loadM S o.vs o.x = (1, S) := by unfold loadM; rw [if_neg (by rw [ne_eq, ne_eq, ← hP0, ← hw0]; exact h1), if_pos h2]
        have e2 : loadR P ws gv o.vs o.x = (1, P, gv) := by unfold loadR; rw [if_neg h1, if_pos h2]
        rw [e2] at hR ⊢
        exact StepO.mk0 hb (by rw [hM, e1]) hR hr (by omega) (noS hg) hmem
      · have e1 : loadM S o.vs o.x = (0, { S with I := loadF (o.x - o.vs.length) o.vs, g := o.x - 1 }) := by unfold loadM; rw [if_neg (by rw [ne_eq, ne_eq, ← hP0, ← hw0]; exact h1), if_neg h2]
        have e2 : loadR P ws gv o.vs o.x = (0, prI (loadF (o.x - o.vs.length) o.vs), o.x - 1) := by unfold loadR; rw [if_neg h1, if_neg h2]
        rw [e2] at hR ⊢
        exact StepO.mk0 hb (S' := { S with I := loadF (o.x - o.vs.length) o.vs, g := o.x - 1 }) (by rw [hM, e1]) hR ⟨rfl, rfl, hr.w⟩ (by omega) (noS hg) hmem
  rw [if_neg k6] at h
  obtain ⟨rfl, hR, hg⟩ := h
  exact StepO.mk0 hb (by unfold callM; rw [if_neg k0, if_neg k1, if_neg k2, if_neg k3, if_neg k4, if_neg k5, if_neg k6]) hR hr (by omega) (RH.of hg) hmem
end Go.Proofs.Ytfcafahgmnnlnaa.Qu

namespace Go.Proofs.Ytfcafahgmnnlnaa.Qu
open Go.RowKit Go.Maps Go.Joins Go.Deep
set_option linter.unusedVariables false
set_option linter.unusedSimpArgs false

set_option maxRecDepth 100000 in
set_option maxHeartbeats 1000000 in
theorem samech_any (A A' : Option Addr) (l : List Ch) (n c c' : Nat) (w : World) (hn : Hid (n = l.length)) (hm : n ≤ 1000000) {B B' : Nat → Prop} (h : ChAt w B A l) (h' : ChAt w B' A' l) :
    Calls Try.prog 15 #[.slice A n c, .slice A' n c'] w fun e w' => e = .returned (.bool true) ∧ Below w.heap.size w w' := by
  have HI : Hid (Below w.heap.size w w ∧ ChAt w B A l ∧ ChAt w B' A' l) := Lib.hid ⟨Below.refl _ _, h, h'⟩
  clear h h'
  have hnn : ((n : Int) != (n : Int)) = false := by simp
  go_enter Try.func15, Try.ntmps15
  go_wp2_with fail
  go_loopw [5] (fun i wr => ∃ (i0 : Nat), i0 ≤ n ∧ i = .int .i64 i0 ∧ Hid (Below w.heap.size w wr ∧ ChAt wr B A l ∧ ChAt wr B' A' l)) (fun i _ => n - (intOf i).toNat)
  case atStart => exact ⟨0, Nat.zero_le _, rfl, HI⟩
  case round =>
    clear HI
    obtain ⟨j, hj, rfl, HW⟩ := hrel
    by_cases hjn : j < n
    · have hjI : (j : Int) < (n : Int) := by omega
      obtain ⟨hb, hc, hc'⟩ := HW.out
      have hjl : j < l.length := by rw [← hn.out]; exact hjn
      obtain ⟨b, o, rfl, hbk, hcs⟩ := hc (by omega)
      obtain ⟨b', o', rfl, hbk', hcs'⟩ := hc' (by omega)
      obtain ⟨q0, q1, q2⟩ := hcs j hjl
      obtain ⟨p0, p1, p2⟩ := hcs' j hjl
      generalize l[j]'hjl = x at q0 q1 q2 p0 p1 p2
      obtain ⟨xk, xy, xv⟩ := x
      dsimp only at q0 q1 q2 p0 p1 p2
      have e0 := fun m : Nat => cell_drew' q0 m
      have e1 := fun m : Nat => cell_drew' q1 m
      have e2 := fun m : Nat => cell_drew' q2 m
      have d0 := fun m : Nat => cell_drew' p0 m
      have d1 := fun m : Nat => cell_drew' p1 m
      have d2 := fun m : Nat => cell_drew' p2 m
      have hdr : ∀ m : Nat, Below wr.heap.size wr (wr.drewN m) := fun m => ⟨rfl, rfl, rfl, Nat.le_refl _, fun _ _ => rfl⟩
      have HX : Hid (∀ m : Nat, Below w.heap.size w (wr.drewN m) ∧ ChAt (wr.drewN m) B (some ⟨b, o, none⟩) l ∧ ChAt (wr.drewN m) B' (some ⟨b', o', none⟩) l) := Lib.hid fun m => ⟨bt hb (hdr m), hc.below (hdr m), hc'.below (hdr m)⟩
      clear hb hc hc' hbk hbk' hcs hcs' hjl q0 q1 q2 p0 p1 p2 HW hdr
      go_wp2_with fail
      go_quiet (fail)
      have HX2 := Lib.hid (HX.out nq)
      clear e0 e1 e2 d0 d1 d2 HX
      go_wp2
      go_roundw
      case rel => exact ⟨j + 1, by omega, by go_num, HX2⟩
      case measure => simp [intOf]; omega
    · have hjI : ¬ (j : Int) < (n : Int) := by omega
      have hF := Lib.hid HW.out.1
      clear HW
      go_wp2
      go_ret
      exact ⟨rfl, hF.out⟩
theorem RH.kind {B0 : Nat} {w w' : World} {x k : Nat} {T : Nat → Prop} {o : Obj} (hg : RH B0 w w' x T) (hk : k ≠ x) (ho : w.heap[k]? = some o) (h : ∀ cs t fz, o = .cells cs t fz → t ≠ 46 ∧ t ≠ 78 ∧ t ≠ 73 ∧ (t = 49 → ¬ T k)) : w'.heap[k]? = w.heap[k]? := by
  rcases hg.block k (Array.getElem?_eq_some_iff.1 ho).1 hk with e | ⟨cs, fz, e⟩ | ⟨cs, fz, e⟩ | ⟨cs, fz, e⟩ | ⟨⟨cs, fz, e⟩, hT⟩
  · exact e
  · rw [e] at ho; injection ho with ho; exact absurd rfl (h _ _ _ ho.symm).1
  · rw [e] at ho; injection ho with ho; exact absurd rfl (h _ _ _ ho.symm).2.1
  · rw [e] at ho; injection ho with ho; exact absurd rfl (h _ _ _ ho.symm).2.2.1
  · rw [e] at ho; injection ho with ho; exact absurd hT ((h _ _ _ ho.symm).2.2.2 rfl)
theorem RH.blk {B0 : Nat} {u u' : World} {x k : Nat} {S : Nat → Prop} {t : TypeId} {cs : Array Value} (h : RH B0 u u' x S) (hk : Blk u k t cs) (hx : k ≠ x) (h1 : t ≠ 46) (h2 : t ≠ 78) (h3 : t ≠ 73) (h4 : t = 49 → ¬ S k) : Blk u' k t cs := by
  unfold Blk at hk ⊢
  rw [h.kind hx hk (fun cs' t' fz e => by injection e with _ e _; subst e; exact ⟨h1, h2, h3, h4⟩)]
  exact hk
theorem own_rh {B0 : Nat} {w w' : World} {H : Type} {P : Program} {k : TypeId} {R : Value → Option (DataW H × List MemPlace)} {b n x : Nat} {D : DataW H} {T : Nat → Prop} {t : TypeId} {cs : Array Value} (h : w.ownsMap P k R b n D) (hg : RH B0 w w' x T) (hx : Blk w x t cs) : w'.ownsMap P k R b n D := by
  obtain ⟨es, clock, hb, F, hs, hD⟩ := h
  refine ⟨es, clock, (hg.kind (fun e => ?_) hb (fun cs t fz e => by cases e)).trans hb, F, hs, hD⟩
  subst e
  unfold Blk at hx
  rw [hx] at hb
  cases hb
theorem ChAt.rh {B0 : Nat} {w w' : World} {B T : Nat → Prop} {x : Nat} {A : Option Addr} {l : List Ch} {cs : Array Value} (h : ChAt w B A l) (hg : RH B0 w w' x T) (hx : Blk w x 29 cs) (hT : ∀ b, B b → ¬ T b) : ChAt w' B A l := fun hl => by
  obtain ⟨b, o, rfl, ⟨hB, cs, fz, hb⟩, hc⟩ := h hl
  have e : w'.heap[b]? = w.heap[b]? := hg.kind (fun e => by
    subst e
    unfold Blk at hx
    rw [hx] at hb
    injection hb with hb
    injection hb with _ hb _
    exact absurd hb (by decide)) hb (fun cs t fz e => by
    injection e with _ e _
    subst e
    exact ⟨by decide, by decide, by decide, fun _ => hT b hB⟩)
  have hcell : ∀ i, w'.cell? ⟨b, i, none⟩ = w.cell? ⟨b, i, none⟩ := fun i => by unfold World.cell?; rw [e]
  exact ⟨b, o, rfl, ⟨hB, cs, fz, by rw [e]; exact hb⟩, fun i hi => by rw [hcell, hcell, hcell]; exact hc i hi⟩
theorem ItAt.rh {B0 : Nat} {w w' : World} {B T : Nat → Prop} {x : Nat} {A : Option Addr} {l : List IT} {cs : Array Value} (h : ItAt w B A l) (hg : RH B0 w w' x T) (hx : Blk w x 29 cs) : ItAt w' B A l := fun hl => by
  obtain ⟨b, o, rfl, ⟨hB, cs, fz, hb⟩, hc⟩ := h hl
  have e : w'.heap[b]? = w.heap[b]? := hg.kind (fun e => by
    subst e
    unfold Blk at hx
    rw [hx] at hb
    injection hb with hb
    injection hb with _ hb _
    exact absurd hb (by decide)) hb (fun cs t fz e => by
    injection e with _ e _
    subst e
    exact ⟨by decide, by decide, by decide, fun e => absurd e (by decide)⟩)
  have hcell : ∀ i, w'.cell? ⟨b, i, none⟩ = w.cell? ⟨b, i, none⟩ := fun i => by unfold World.cell?; rw [e]
  exact ⟨b, o, rfl, ⟨hB, cs, fz, by rw [e]; exact hb⟩, fun i hi => by rw [hcell, hcell, hcell]; exact hc i hi⟩
/-- The program's queue under a call of the document's. -/
theorem QAt.rh {B0 : Nat} {w w' : World} {g N x : Nat} {cs csx : Array Value} {S : QS} {T : Nat → Prop} (h : QAt w g 0 54 cs S N) (hg : RH B0 w w' x T) (hx : Blk w x 29 csx) (hT : ∀ b, S.B b → ¬ T b) : QAt w' g 0 54 cs S N := by
  obtain ⟨h1, h2, ⟨A, n, c, a1, a2, a3, a4, a5⟩, h3, ⟨m, G, h4, h5, h6⟩, h7, h8, h9⟩ := h
  refine ⟨?_, h2, ⟨A, n, c, a1, a2, a3, a4, a5.rh hg hx⟩, h3, ⟨m, G, h4, ?_, h6.same fun A l hc => ChAt.rh hc hg hx hT⟩, h7, h8, h9⟩
  · exact hg.blk h1 (fun e => h1.ne hx (by decide) e) (by decide) (by decide) (by decide) (fun e => absurd e (by decide))
  · rcases h5 with h | ⟨b, D, e, h, h'⟩
    · exact .inl h
    · exact .inr ⟨b, D, e, own_rh h hg hx, h'⟩
/-- The document's queue under a call that writes in one block, of another kind. -/
theorem RQ.other {w w' : World} {B x g : Nat} {P : List (Int × Nat)} {ws : List WI} {gv : Int} {tt : TypeId} {cs : Array Value} (h : RQ w B x P ws gv) (hg : w.grownBy w' (some g)) (hk : Blk w g tt cs)
    (h1 : tt ≠ 29) (h2 : tt ≠ 78) (h3 : tt ≠ 46) (h4 : tt ≠ 73) (h6 : tt = 49 → ∀ y ∈ ws, blk y.A ≠ some g) : RQ w' B x P ws gv := by
  obtain ⟨AP, nP, cP, AW, nW, cW, hx, hnP, hnW, hpr, hpt⟩ := h.ex
  refine ⟨⟨AP, nP, cP, AW, nW, cW, hx.kept hg (fun e => hx.ne hk (fun e => h1 e.symm) (by injection e)), hnP, hnW, own_kept hpr hk (fun e => h4 e.symm) hg, own_kept hpt hk (fun e => h3 e.symm) hg⟩, fun y hy => ?_, h.ds, h.sm⟩
  obtain ⟨a1, a2, a3⟩ := h.wk y hy
  refine ⟨a1, a2.kept hg (fun e => a2.ne hk (fun e => h2 e.symm) (by injection e)), ?_⟩
  by_cases e : tt = 49
  · refine World.ownsRow.kept a3 hg ?_
    rcases hb : (Value.slice y.A y.l.length y.c).ownBlock with _ | k
    · exact .inl rfl
    · refine .inr (fun e2 => ?_)
      rw [ownBlock_slice] at hb
      exact h6 e y hy (hb.trans e2)
  · exact own_kept a3 hk (fun e2 => e e2.symm) hg
/-- A document's queue that no call made. -/
theorem RQ.zero (w : World) (B : Nat) : RQ (w.alloc (.cells #[.slice none 0 0, .slice none 0 0, .int .i64 0] 29)) B w.heap.size [] [] 0 :=
  ⟨⟨none, 0, 0, none, 0, 0, Blk.new _ _ _, rfl, rfl, World.ownsRow_nil _ _ _ _, World.ownsRow_nil _ _ _ _⟩, (fun y hy => nomatch hy), List.Pairwise.nil, ⟨by decide, by decide, fun y hy => nomatch hy⟩⟩
theorem Rel.zero (B : Nat → Prop) : Rel (QS.zero B) [] [] 0 := ⟨rfl, rfl, rfl⟩
end Go.Proofs.Ytfcafahgmnnlnaa.Qu
