/- Parts Q25 Sw Sx Sy of one proof. -/
import Derived.Test.YtlliaihmfimdoaaGreatMg35
namespace Go.Proofs.YtlliaihmfimdoaaGreat.Qu
open Go.RowKit Go.Maps
set_option linter.unusedVariables false
set_option linter.unusedSimpArgs false

theorem curQ_lay (ws : List WQ) (n : Int) (l : List Ch) (p : Bool) (m : Int) : curQ (layQ ws n l p) m = if m = n then (l, p) else curQ ws m := by
  unfold curQ; rw [lookQ_lay]; split <;> rfl
theorem curQ_others (ws : List WQ) (n m : Int) : curQ (othersQ ws n) m = if m = n then ([], false) else curQ ws m := by
  unfold curQ; rw [lookQ_others]; split <;> rfl
def chOf (x : IT) : Ch := ⟨4, x.n, x.v⟩
def tkL (l : List Ch) : List Ch := l.filter fun x => decide (x.k = 4)
def byI (L : List IT) (n : Int) : List IT := L.filter fun x => decide (x.t = n)
theorem byI_app (a b : List IT) (n : Int) : byI (a ++ b) n = byI a n ++ byI b n := List.filter_append ..
theorem byI_all {a : List IT} {n : Int} (h : ∀ x ∈ a, x.t = n) : byI a n = a := List.filter_eq_self.2 fun x hx => by simpa using h x hx
theorem byI_none {a : List IT} {n : Int} (h : ∀ x ∈ a, x.t ≠ n) : byI a n = [] := List.filter_eq_nil_iff.2 fun x hx => by simpa using h x hx
theorem tkL_app (a b : List Ch) : tkL (a ++ b) = tkL a ++ tkL b := List.filter_append ..
def kdOk (l : List Ch) : Prop := ∀ x ∈ l, (x.k = 3 ∧ x.y = 0) ∨ x.k = 4
/-- Who takes, and what stands in the works' changes. -/
structure QR (S : QS) : Prop where
  pre : ∃ P F n, S.I = P ++ F ∧ (∀ x ∈ F, x.t = 0) ∧ (∀ x ∈ P, x.t = n) ∧ 1 ≤ n
  tk : ∀ n, 1 ≤ n → tkL (curQ S.ws n).1 = (byI S.I n).map chOf
  kd : ∀ n, kdOk (curQ S.ws n).1
theorem QR.zero (B : Nat → Prop) : QR (QS.zero B) := ⟨⟨[], [], 1, rfl, by simp, by simp, by omega⟩, fun n _ => rfl, fun n x hx => by simp [QS.zero, curQ, lookQ, findQ] at hx⟩
theorem QR.rebase {S : QS} {B : Nat → Prop} (h : QR S) : QR { S with B := B } := ⟨h.pre, h.tk, h.kd⟩
section
variable {S : QS}
theorem QR.put (h : QR S) (n : Int) (v : Nat) : QR (putM S n v).2 := by
  unfold putM
  split
  · exact h
  · split
    · exact h
    · refine ⟨h.pre, fun m hm => ?_, fun m => ?_⟩
      · dsimp only; unfold addQ; rw [curQ_lay]
        split
        · rename_i e; subst e
          dsimp only
          rw [tkL_app, h.tk m hm]
          simp [tkL]
        · exact h.tk m hm
      · dsimp only; unfold addQ; rw [curQ_lay]
        split
        · intro x hx
          rcases List.mem_append.1 hx with hx | hx
          · exact h.kd n x hx
          · obtain rfl := List.mem_singleton.1 hx; exact .inl ⟨rfl, rfl⟩
        · exact h.kd m
theorem QR.take (h : QR S) (n : Int) : QR (takeM S n).2 := by
  unfold takeM
  split
  · exact h
  · rename_i ho
    split
    · exact h
    · rename_i hf
      have hf0 : (frontR S.I n).2 = 0 := by simpa using hf
      obtain ⟨hi, h0, hne, hbef⟩ := front_ok hf0
      have hn1 : 1 ≤ n := by
        have := openE_cases S n
        rcases this with ⟨e, _⟩ | ⟨e, _⟩ | ⟨e, h1, _⟩
        · rw [e] at ho; simp at ho
        · rw [e] at ho; simp at ho
        · exact h1
      rw [List.getElem?_eq_getElem hi]
      dsimp only
      obtain ⟨i, hie⟩ : ∃ i, i = (frontR S.I n).1 := ⟨_, rfl⟩
      obtain ⟨x, hx⟩ : ∃ x, x = S.I[(frontR S.I n).1]'hi := ⟨_, rfl⟩
      rw [← hx] at h0 ⊢
      have hi2 : i < S.I.length := by rw [hie]; exact hi
      have hx2 : x = S.I[i]'hi2 := by rw [hx]; congr 1; exact hie.symm
      rw [← hie] at hbef ⊢
      have ea : S.I = S.I.take i ++ x :: S.I.drop (i + 1) := by
        rw [hx2, ← List.drop_eq_getElem_cons hi2, List.take_append_drop]
      have hla : (S.I.take i).length = i := by rw [List.length_take]; omega
      obtain ⟨P, F, n', hPF, hF, hP, hn'⟩ := h.pre
      have hPi : P.length ≤ i := by
        apply Classical.byContradiction
        intro hc
        have hlt : i < P.length := by omega
        have : x ∈ P := by
          rw [hx2]
          have : S.I[i]'hi2 = P[i]'hlt := by simp only [hPF]; exact List.getElem_append_left hlt
          rw [this]; exact List.getElem_mem hlt
        have := hP x this
        omega
      have hb : ∀ y ∈ S.I.drop (i + 1), y.t = 0 := by
        intro y hy
        rw [hPF, List.drop_append, List.drop_eq_nil_of_le (show P.length ≤ i + 1 by omega), List.nil_append] at hy
        exact hF y (List.mem_of_mem_drop hy)
      have haa : ∀ y ∈ S.I.take i, y.t = n := by
        intro y hy
        obtain ⟨j, hj, rfl⟩ := List.mem_iff_getElem.1 hy
        rw [List.getElem_take]
        exact hbef j (by rw [List.length_take] at hj; omega) (by rw [List.length_take] at hj; omega)
      have hg : giveI S.I i n = S.I.take i ++ { x with t := n } :: S.I.drop (i + 1) := by
        have := giveI_app (S.I.take i) x (S.I.drop (i + 1)) n
        rw [hla, ← ea] at this
        exact this
      generalize S.I.take i = a at ea hla haa hg
      generalize S.I.drop (i + 1) = b at ea hb hg
      have hx' : byI (x :: b) n = [] := byI_none fun y hy => by
        rcases List.mem_cons.1 hy with rfl | hy
        · omega
        · have := hb y hy; omega
      have hbn : ∀ m, 1 ≤ m → byI b m = [] := fun m hm => byI_none fun y hy => by have := hb y hy; omega
      refine ⟨⟨a ++ [{ x with t := n }], b, n, by dsimp only; rw [hg]; simp, hb, fun y hy => ?_, hn1⟩, fun m hm => ?_, fun m => ?_⟩
      · rcases List.mem_append.1 hy with hy | hy
        · exact haa y hy
        · obtain rfl := List.mem_singleton.1 hy; rfl
      · dsimp only; unfold addQ; rw [curQ_lay, hg]
        split
        · rename_i e; subst e
          dsimp only
          rw [tkL_app, h.tk m hm, ea, byI_app, byI_app, byI_all haa, hx', List.append_nil]
          have : byI ({ x with t := m } :: b) m = [{ x with t := m }] := by
            have := byI_app [{ x with t := m }] b m
            rw [List.singleton_append] at this
            rw [this, hbn m hm, byI_all (by simp)]; rfl
          rw [this, List.map_append]
          rfl
        · rename_i e
          rw [h.tk m hm, ea, byI_app, byI_app]
          congr 2
          have h1 : byI (x :: b) m = [] := byI_none fun y hy => by
            rcases List.mem_cons.1 hy with rfl | hy
            · omega
            · have := hb y hy; omega
          have h2 : byI ({ x with t := n } :: b) m = [] := byI_none fun y hy => by
            rcases List.mem_cons.1 hy with rfl | hy
            · exact fun e2 => e e2.symm
            · have := hb y hy; omega
          rw [h1, h2]
      · dsimp only; unfold addQ; rw [curQ_lay]
        split
        · intro y hy
          rcases List.mem_append.1 hy with hy | hy
          · exact h.kd n y hy
          · obtain rfl := List.mem_singleton.1 hy; exact .inr rfl
        · exact h.kd m
theorem QR.prep (h : QR S) (n : Int) : QR (prepM S n).2 := by
  unfold prepM
  split
  · exact h
  · split
    · exact h
    · have e : ∀ m, (curQ (layQ S.ws n (curQ S.ws n).1 true) m).1 = (curQ S.ws m).1 := fun m => by
        rw [curQ_lay]; split
        · rename_i e; subst e; rfl
        · rfl
      exact ⟨h.pre, fun m hm => by dsimp only; rw [e]; exact h.tk m hm, fun m => by dsimp only; rw [e]; exact h.kd m⟩
theorem newsQ_t : ∀ (l : List Ch) (g : Int) (x : IT), x ∈ newsQ g l → x.t = 0
  | [], g, x, h => by cases h
  | y :: r, g, x, h => by
    unfold newsQ at h
    split at h
    · rcases List.mem_cons.1 h with rfl | h
      · rfl
      · exact newsQ_t r _ x h
    · exact newsQ_t r _ x h
theorem QR.commit (h : QR S) (n : Int) : QR (commitM S n).2 := by
  unfold commitM
  split
  · exact h
  · obtain ⟨P, F, n', hPF, hF, hP, hn'⟩ := h.pre
    refine ⟨⟨keptI P n, keptI F n ++ newsQ S.g (curQ S.ws n).1, n', ?_, fun x hx => ?_, fun x hx => hP x (List.mem_filter.1 hx).1, hn'⟩, fun m hm => ?_, fun m => ?_⟩
    · dsimp only; rw [hPF]; unfold keptI; rw [List.filter_append, List.append_assoc]
    · rcases List.mem_append.1 hx with hx | hx
      · exact hF x (List.mem_filter.1 hx).1
      · exact newsQ_t _ _ x hx
    · dsimp only
      rw [curQ_others, byI_app, byI_none (a := newsQ _ _) (fun x hx => by have := newsQ_t _ _ x hx; omega), List.append_nil]
      split
      · rename_i e; subst e
        rw [byI_none (fun x hx => by have := (List.mem_filter.1 hx).2; simpa using this)]; rfl
      · rename_i e
        rw [h.tk m hm]
        congr 1
        unfold byI keptI
        rw [List.filter_filter]
        refine List.filter_congr fun x _ => ?_
        by_cases e2 : x.t = m
        · have : ¬ x.t = n := fun e3 => e (e2.symm.trans e3)
          simp [e2, this]
          exact e
        · simp [e2]
    · dsimp only
      rw [curQ_others]
      split
      · intro x hx; cases hx
      · exact h.kd m
theorem QR.back (h : QR S) (n : Int) : QR (backM S n).2 := by
  unfold backM
  split
  · exact h
  · rename_i hn1
    obtain ⟨P, F, n', hPF, hF, hP, hn'⟩ := h.pre
    have hFm : ∀ x ∈ F.map (freeI n), x.t = 0 := fun x hx => by
      obtain ⟨y, hy, rfl⟩ := List.mem_map.1 hx
      unfold freeI; split
      · rfl
      · exact hF y hy
    refine ⟨?_, fun m hm => ?_, fun m => ?_⟩
    · dsimp only
      rw [hPF, List.map_append]
      by_cases e : n' = n
      · refine ⟨[], P.map (freeI n) ++ F.map (freeI n), 1, rfl, fun x hx => ?_, by simp, by omega⟩
        rcases List.mem_append.1 hx with hx | hx
        · obtain ⟨y, hy, rfl⟩ := List.mem_map.1 hx
          unfold freeI; rw [if_pos ((hP y hy).trans e)]
        · exact hFm x hx
      · refine ⟨P.map (freeI n), F.map (freeI n), n', rfl, hFm, fun x hx => ?_, hn'⟩
        obtain ⟨y, hy, rfl⟩ := List.mem_map.1 hx
        have := hP y hy
        unfold freeI; rw [if_neg (by rw [this]; exact e)]; exact this
    · dsimp only
      rw [curQ_others]
      split
      · rename_i e; subst e
        rw [byI_none (fun x hx => ?_)]; rfl
        obtain ⟨y, hy, rfl⟩ := List.mem_map.1 hx
        unfold freeI; split
        · show (0 : Int) ≠ _; omega
        · assumption
      · rename_i e
        rw [h.tk m hm]
        congr 1
        unfold byI
        generalize S.I = L
        induction L with
        | nil => rfl
        | cons x r ih =>
          rw [List.map_cons, List.filter_cons, List.filter_cons, ih]
          unfold freeI
          by_cases e2 : x.t = n
          · have e3 : ¬ x.t = m := fun e4 => e (e4.symm.trans e2)
            have e5 : ¬ (0 : Int) = m := by omega
            rw [if_pos e2]
            simp [e3, e5]
          · rw [if_neg e2]
    · dsimp only
      rw [curQ_others]
      split
      · intro x hx; cases hx
      · exact h.kd m
theorem fits_spec : ∀ (l : List Ch) (L : List IT), fitsQ L l = true → tkL l = (L.take (l.length - putsL l)).map chOf ∧ (∀ x ∈ L.take (l.length - putsL l), x.t = 0) ∧ kdOk l
  | [], L, _ => ⟨by simp [tkL], by simp, fun x hx => by cases hx⟩
  | x :: r, L, h => by
    have h3 : putsL (x :: r) = (if x.k = 3 then 1 else 0) + putsL r := by
      unfold putsL; rw [List.filter_cons]
      by_cases e : x.k = 3
      · simp [e]; omega
      · simp [e]
    have hle := putsL_le r
    unfold fitsQ at h
    by_cases e : x.k = 3
    · rw [if_pos e] at h h3
      rw [Bool.and_eq_true] at h
      obtain ⟨i1, i2, i3⟩ := fits_spec r L h.2
      have hlen : (x :: r).length - putsL (x :: r) = r.length - putsL r := by rw [h3, List.length_cons]; omega
      rw [hlen]
      refine ⟨?_, i2, fun y hy => ?_⟩
      · rw [← i1]; unfold tkL; rw [List.filter_cons, if_neg (by simp [e])]
      · rcases List.mem_cons.1 hy with rfl | hy
        · exact .inl ⟨e, by simpa using h.1⟩
        · exact i3 y hy
    · rw [if_neg e] at h h3
      by_cases e4 : x.k = 4
      · rw [if_pos e4] at h
        cases L with
        | nil => cases h
        | cons i L' =>
          simp only [Bool.and_eq_true] at h
          obtain ⟨i1, i2, i3⟩ := fits_spec r L' h.2
          have hlen : (x :: r).length - putsL (x :: r) = r.length - putsL r + 1 := by rw [h3, List.length_cons]; omega
          have he := h.1
          unfold eqIT at he
          simp only [Bool.and_eq_true, beq_iff_eq, decide_eq_true_eq] at he
          rw [hlen, List.take_succ_cons]
          refine ⟨?_, fun y hy => ?_, fun y hy => ?_⟩
          · rw [List.map_cons, ← i1]; unfold tkL; rw [List.filter_cons, if_pos (by simp [e4])]
            congr 1
            unfold chOf
            obtain ⟨xk, xy, xv⟩ := x
            dsimp only at e4 he
            simp_all
          · rcases List.mem_cons.1 hy with rfl | hy
            · simp_all
            · exact i2 y hy
          · rcases List.mem_cons.1 hy with rfl | hy
            · exact .inr e4
            · exact i3 y hy
      · rw [if_neg e4] at h; cases h
theorem QR.rest (h : QR S) (n : Int) (l : List Ch) : QR (restM S n l).2 := by
  unfold restM
  split
  · exact h
  · rename_i hn1
    split
    · exact h
    · rename_i hft
      split
      · exact h
      · split
        · exact h
        · rename_i hb
          split
          · exact h
          · obtain ⟨s1, s2, s3⟩ := fits_spec l S.I (by simpa using hft)
            generalize l.length - putsL l = k at s1 s2
            have hc0 : (curQ S.ws n).1 = [] := by
              unfold curQ
              rcases hl : lookQ S.ws n with _ | z
              · rfl
              · rw [hl] at hb; simp at hb
            have hk3 : ∀ m, kdOk (curQ (layQ S.ws n l true) m).1 := fun m => by
              rw [curQ_lay]; split
              · exact s3
              · exact h.kd m
            rcases Nat.eq_zero_or_pos k with rfl | hk
            · have e0 : givenI S.I n 0 = S.I := givenI_zero _ _
              refine ⟨by dsimp only; rw [e0]; exact h.pre, fun m hm => ?_, hk3⟩
              dsimp only
              rw [e0, curQ_lay]
              split
              · rename_i e; subst e
                have := h.tk m hm
                rw [hc0] at this
                rw [← this, s1]
                simp [tkL]
              · exact h.tk m hm
            · obtain ⟨P, F, n', hPF, hF, hP, hn'⟩ := h.pre
              have hI0 : ∀ x ∈ S.I, x.t = 0 := by
                intro x hx
                rw [hPF] at hx
                rcases List.mem_append.1 hx with hx | hx
                · exfalso
                  cases P with
                  | nil => cases hx
                  | cons p P' =>
                    have hp := hP p (List.mem_cons_self ..)
                    have : p.t = 0 := s2 p (by
                      rw [hPF, List.cons_append]
                      cases k with
                      | zero => omega
                      | succ k => rw [List.take_succ_cons]; exact List.mem_cons_self ..)
                    omega
                · exact hF x hx
              have hg : givenI S.I n k = (S.I.take k).map (fun x => { x with t := n }) ++ S.I.drop k := rfl
              have hd0 : ∀ x ∈ S.I.drop k, x.t = 0 := fun x hx => hI0 x (List.mem_of_mem_drop hx)
              have hmn : ∀ x ∈ (S.I.take k).map (fun x : IT => ({ x with t := n } : IT)), x.t = n := fun x hx => by
                obtain ⟨y, _, rfl⟩ := List.mem_map.1 hx; rfl
              refine ⟨⟨_, _, n, by dsimp only; rw [hg], hd0, hmn, by omega⟩, fun m hm => ?_, hk3⟩
              dsimp only
              rw [hg, curQ_lay, byI_app, byI_none (a := S.I.drop k) (fun x hx => by have := hd0 x hx; omega), List.append_nil]
              split
              · rename_i e; subst e
                rw [byI_all hmn, List.map_map, s1]
                rfl
              · rename_i e
                rw [h.tk m hm, byI_none (fun x hx => by have := hI0 x hx; omega), byI_none (fun x hx => by have := hmn x hx; omega)]
theorem QR.load (h : QR S) (vals : List Nat) (next : Int) : QR (loadM S vals next).2 := by
  unfold loadM
  split
  · exact h
  · rename_i hi
    split
    · exact h
    · have hw : S.ws = [] := Classical.byContradiction fun e => hi (.inr e)
      have ht := loadF_t vals (next - vals.length)
      refine ⟨⟨[], loadF (next - vals.length) vals, 1, rfl, ht, by simp, by omega⟩, fun m hm => ?_, fun m => ?_⟩
      · dsimp only
        rw [byI_none (fun x hx => by have := ht x hx; omega), hw]; rfl
      · dsimp only
        rw [hw]; intro x hx; cases hx
theorem QR.call (h : QR S) (o : OpV) : QR (callM S o).2 := by
  unfold callM
  split; exact h.put _ _
  split; exact h.take _
  split; exact h.prep _
  split; exact h.commit _
  split; exact h.back _
  split; exact h.rest _ _
  split; exact h.load _ _
  exact h
end
theorem QR.play (ops : List OpV) : QR (playQ ops) := by
  unfold playQ
  generalize ops.take 60 = l
  suffices ∀ S, QR S → QR (l.foldl stepQ S) from this _ (QR.zero _)
  induction l with
  | nil => exact fun S h => h
  | cons o r ih =>
    intro S h
    refine ih _ ?_
    unfold stepQ
    split
    · exact h
    · exact (h.call o).rebase
end Go.Proofs.YtlliaihmfimdoaaGreat.Qu

namespace Go.Proofs.YtlliaihmfimdoaaGreat.Re
open Go.RowKit Go.Maps Go.Joins Go.Deep Go.Proofs.YtlliaihmfimdoaaGreat
set_option linter.unusedVariables false
set_option linter.unusedSimpArgs false

theorem callR_qr {S : RS} (h : Qu.QR S.Q) (o : OpV) : Qu.QR (callR S o).2.Q := by
  unfold callR
  split
  · unfold getR; split <;> exact h
  split
  · unfold putR; split <;> exact h
  split
  · unfold delR; split <;> exact h
  split
  · unfold pushR; split
    · exact h
    · exact h.put _ _
  split
  · unfold popR; split
    · exact h
    · exact h.take _
  split
  · show Qu.QR (prepR S o.n).2.Q
    rw [prepR_Q]; split
    · exact h
    · exact h.prep _
  split
  · unfold commitR; split
    · exact h
    · exact h.commit _
  split
  · unfold backR; split
    · exact h
    · exact h.back _
  split
  · unfold restoreR; split
    · exact h
    · split
      · exact h
      · split
        · exact h
        · split
          · exact h.rest _ _
          · show Qu.QR (holdR _ _ _).Q
            rw [holdR_Q]
            exact h.rest _ _
  · exact h
theorem playR_qr (ops : List OpV) : Qu.QR (playR ops).Q := by
  have : ∀ (l : List OpV) (S : RS), Qu.QR S.Q → Qu.QR (l.foldl stepR S).Q := by
    intro l
    induction l with
    | nil => intro S h; exact h
    | cons o l ih =>
      intro S h
      refine ih _ ?_
      unfold stepR
      split
      · exact (callR_qr h o).rebase
      · exact h
  exact this _ _ (Qu.QR.zero anyB)
theorem kept_fresh {S : Qu.QS} (h : Qu.QR S) {n : Int} (hn : 1 ≤ n) (hb : (Qu.lookQ S.ws n).isSome = false) : Qu.keptI S.I n = S.I := by
  have hl : Qu.lookQ S.ws n = none := by simpa using hb
  have hc : Qu.curQ S.ws n = ([], false) := by unfold Qu.curQ; rw [hl]; rfl
  have ht := h.tk n hn
  rw [hc] at ht
  have hbe : Qu.byI S.I n = [] := by
    have : ((Qu.byI S.I n).map Qu.chOf) = [] := ht.symm
    simpa using this
  unfold Qu.keptI
  refine List.filter_eq_self.2 fun x hx => ?_
  have : x ∉ Qu.byI S.I n := by rw [hbe]; simp
  unfold Qu.byI at this
  rw [List.mem_filter] at this
  simp only [not_and] at this
  have := this hx
  simpa using this
end Go.Proofs.YtlliaihmfimdoaaGreat.Re

namespace Go.Proofs.YtlliaihmfimdoaaGreat.Re
open Go.RowKit Go.Maps Go.Joins Go.Deep Go.Proofs.YtlliaihmfimdoaaGreat
set_option linter.unusedVariables false
set_option linter.unusedSimpArgs false

/-- An image of one's own: what Image hands out. -/
structure ImgAt (w : World) (B : Nat) (A : Option Addr) (q c : Nat) (A' : Option Addr) (q' c' : Nat) (P : List (Int × Nat)) (vs : List Nat) : Prop where
  q : q = P.length
  q' : q' = vs.length
  p : OwnRp w B A c P
  u : Qu.OwnU w B A' c' vs
theorem ImgAt.below {w w' : World} {B q c q' c' : Nat} {A A' : Option Addr} {P : List (Int × Nat)} {vs : List Nat} (h : ImgAt w B A q c A' q' c' P vs) (hb : Below w.heap.size w w') : ImgAt w' B A q c A' q' c' P vs :=
  ⟨h.q, h.q', h.p.grown (lbelow_grown hb none) (fun r e => by cases e), h.u.grown (lbelow_grown hb none) (fun r e => by cases e)⟩
/-- What turns lies ahead of the image. -/
theorem ImgAt.far {w w' : World} {B q c q' c' g : Nat} {A A' : Option Addr} {P : List (Int × Nat)} {vs : List Nat} (h : ImgAt w B A q c A' q' c' P vs) (hg : w.grownBy w' (some g)) (hlt : g < B) : ImgAt w' B A q c A' q' c' P vs :=
  ⟨h.q, h.q', h.p.grown hg (fun r e e2 => by
    cases e
    have := (World.ownsRow.lt h.p g (by rw [ownBlock_slice]; exact e2)).1
    omega), h.u.grown hg (fun r e e2 => by
    cases e
    have := (h.u.lt' g e2).1
    omega)⟩
theorem ImgAt.pin {w : World} {B q c q' c' : Nat} {A A' : Option Addr} {P : List (Int × Nat)} {vs : List Nat} (h : ImgAt w B A q c A' q' c' P vs) : InRp w A P := h.p.in_
theorem ImgAt.uin {w : World} {B q c q' c' : Nat} {A A' : Option Addr} {P : List (Int × Nat)} {vs : List Nat} (h : ImgAt w B A q c A' q' c' P vs) : Qu.UAt w A' vs := h.u.at_
theorem image_img (g : Nat) (cs : Array Value) (S : RS) (N : Nat) (w : World) (h : ResAt w g cs S N) :
    Calls Tryz.prog 18 #[.pointer (some ⟨g, 0, none⟩)] w fun e w' => ∃ A q c A' q' c', e = .returned (.agg #[.slice A q c, .slice A' q' c', .int .i64 (S.Q.g + 1)]) ∧ Hid (ImgAt w' w.heap.size A q c A' q' c' (imP S.K 16) (S.Q.I.map Qu.IT.v) ∧ Below w.heap.size w w') := by
  refine (resimage_any g cs S N w h).mono ?_
  rintro e w' ⟨A, q, c, A', q', c', rfl, HX⟩
  exact ⟨A, q, c, A', q', c', rfl, Lib.hid ⟨⟨HX.out.1, by rw [List.length_map]; exact HX.out.2.1, HX.out.2.2.1, HX.out.2.2.2.1⟩, HX.out.2.2.2.2⟩⟩
/-- The document's image of it, in memory. -/
structure DocAt (w : World) (A : Option Addr) (q : Nat) (A' : Option Addr) (q' : Nat) (P : List (Int × Nat)) (vs : List Nat) : Prop where
  q : q = P.length
  q' : q' = vs.length
  p : InRp w A P
  u : Qu.UAt w A' vs
theorem DocAt.below {w w' : World} {A A' : Option Addr} {q q' : Nat} {P : List (Int × Nat)} {vs : List Nat} (h : DocAt w A q A' q' P vs) (hb : Below w.heap.size w w') : DocAt w' A q A' q' P vs := ⟨h.q, h.q', h.p.below hb, h.u.below hb⟩
theorem as_img (w : World) (B : Nat) (A : Option Addr) (q c : Nat) (A' : Option Addr) (q' c' : Nat) (nx : Int) (P : List (Int × Nat)) (vs : List Nat) (h : ImgAt w B A q c A' q' c' P vs) (hm : q ≤ 1000) :
    Calls Tryz.prog 17 #[.agg #[.slice A q c, .slice A' q' c', .int .i64 nx]] w fun e w' => ∃ A9 c9, e = .returned (.agg #[.slice A9 q c9, .slice A' q' c', .int .i64 nx]) ∧ Hid (DocAt w' A9 q A' q' P vs ∧ Below w.heap.size w w') := by
  refine (as_any A A' q c q' c' nx P w (Lib.hid h.q) hm h.pin).mono ?_
  rintro e w' ⟨A9, c9, rfl, HX⟩
  exact ⟨A9, c9, rfl, Lib.hid ⟨⟨h.q, h.q', OwnPr.in_ HX.out.1, h.uin.below HX.out.2⟩, HX.out.2⟩⟩
theorem same_docs (w : World) (A : Option Addr) (q c : Nat) (U : Option Addr) (m d : Nat) (A' : Option Addr) (q' c' : Nat) (U' : Option Addr) (m' d' : Nat) (nx : Int) (P : List (Int × Nat)) (vs : List Nat) (h : DocAt w A q U m P vs) (h' : DocAt w A' q' U' m' P vs) (hm : q ≤ 1000 ∧ m ≤ 1000) :
    Calls Tryz.prog 16 #[.agg #[.slice A q c, .slice U m d, .int .i64 nx], .agg #[.slice A' q' c', .slice U' m' d', .int .i64 nx]] w fun e w' => e = .returned (.bool true) ∧ Below w.heap.size w w' := by
  have e1 : q' = q := h'.q.trans h.q.symm
  have e2 : m' = m := h'.q'.trans h.q'.symm
  subst e1 e2
  exact refsame_any A A' U U' _ c c' _ d d' nx P vs w (Lib.hid h.q) (Lib.hid h.q') hm.1 (by omega) h.p h'.p h.u h'.u
end Go.Proofs.YtlliaihmfimdoaaGreat.Re

namespace Go.Proofs.YtlliaihmfimdoaaGreat.Re
open Go.RowKit Go.Maps Go.Joins Go.Deep Go.Proofs.YtlliaihmfimdoaaGreat
set_option linter.unusedVariables false
set_option linter.unusedSimpArgs false

def risF : Int → List (Int × Nat) → Bool
  | _, [] => true
  | lo, p :: r => if p.1 < lo ∨ 16 ≤ p.1 then false else risF (p.1 + 1) r
set_option maxRecDepth 100000 in
set_option maxHeartbeats 2000000 in
theorem rising_any (A : Option Addr) (q c : Nat) (P : List (Int × Nat)) (w : World) (hq : Hid (q = P.length)) (hm : q ≤ 1000000) (hP : InRp w A P) :
    Calls Tryz.prog 53 #[.slice A q c] w fun e w' => e = .returned (.bool (risF 0 P)) ∧ Below w.heap.size w w' := by
  have H := Lib.hid hP
  obtain ⟨R, hR⟩ : ∃ R, R = risF 0 P := ⟨_, rfl⟩
  rw [← hR]
  have HI : Hid (risF 0 (P.drop 0) = R ∧ Below w.heap.size w w) := Lib.hid ⟨hR.symm, Below.refl _ _⟩
  clear hP hR
  go_enter Tryz.func53, Tryz.ntmps53
  go_wp2_with fail
  go_loopw [8, 3] (fun iv lv wr => ∃ (i : Nat) (lo : Int), i ≤ q ∧ iv = .int .i64 i ∧ lv = .int .i64 lo ∧ (0 ≤ lo ∧ lo ≤ 16) ∧ Hid (risF lo (P.drop i) = R ∧ Below w.heap.size w wr)) (fun iv _ _ => q - (intOf iv).toNat)
  case atStart => exact ⟨0, 0, Nat.zero_le _, rfl, rfl, by omega, HI⟩
  case round =>
    clear HI
    obtain ⟨i, lo, hi, rfl, rfl, hlo, HR⟩ := hrel
    by_cases hin : i < q
    · have hiI : (i : Int) < (q : Int) := by omega
      have hil : i < P.length := by rw [← hq.out]; exact hin
      obtain ⟨b, o, hA, _, hcs⟩ := (H.out.below HR.out.2) (by omega)
      obtain ⟨q0, q1⟩ := hcs i hil
      have hst : risF lo (P.drop i) = if (P[i]'hil).1 < lo ∨ 16 ≤ (P[i]'hil).1 then false else risF ((P[i]'hil).1 + 1) (P.drop (i + 1)) := by
        rw [List.drop_eq_getElem_cons hil]; rfl
      rw [HR.out.1] at hst
      generalize P[i]'hil = y at q0 q1 hst
      obtain ⟨yk, yv⟩ := y
      dsimp only at q0 q1 hst
      have HN := fun hyp : risF (yk + 1) (P.drop (i + 1)) = R => Lib.hid (And.intro hyp (bt HR.out.2 (ba wr (.cells #[.int .i64 yk, .int .u64 (yv : Nat)] 85))))
      have HB := Lib.hid (bt HR.out.2 (ba wr (.cells #[.int .i64 yk, .int .u64 (yv : Nat)] 85)))
      subst hA
      by_cases h1 : yk < lo
      · rw [if_pos (.inl h1)] at hst
        have HX := Lib.hid hst
        clear hst HN hcs hil HR
        go_wp2
        go_ret
        exact ⟨by rw [HX.out]; rfl, HB.out⟩
      · by_cases h2 : 16 ≤ yk
        · rw [if_pos (.inr h2)] at hst
          have HX := Lib.hid hst
          clear hst HN hcs hil HR
          go_wp2
          go_ret
          exact ⟨by rw [HX.out]; rfl, HB.out⟩
        · rw [if_neg (by omega)] at hst
          have HX := HN hst.symm
          have h2' : yk < 16 := by omega
          clear hst HN hcs hil HR
          go_wp2
          go_roundw
          case rel => exact ⟨i + 1, yk + 1, by omega, by go_num, by go_num, by omega, HX⟩
          case measure => simp [intOf]; omega
    · have hiI : ¬ (i : Int) < (q : Int) := by omega
      have HX : Hid (R = true ∧ Below w.heap.size w wr) := Lib.hid ⟨by
        have := HR.out.1
        rw [List.drop_eq_nil_of_le (by have := hq.out; omega)] at this
        exact this.symm, HR.out.2⟩
      clear HR
      go_wp2
      go_ret
      exact ⟨by rw [HX.out.1]; rfl, HX.out.2⟩
end Go.Proofs.YtlliaihmfimdoaaGreat.Re
