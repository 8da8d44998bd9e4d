/- Layer 13: the mathematics of KvAgain. -/
import Derived.Test.YtnpoicgincndkaaBs
namespace Go.Proofs.Ytnpoicgincndkaa
open Go.RowKit Go.Maps
set_option linter.unusedVariables false
set_option linter.unusedSimpArgs false

def rowL (n : Int) (l : List Ch) : List LRow := l.map fun x => (x.y, n, true)
theorem rowL_app (n : Int) (l r : List Ch) : rowL n (l ++ r) = rowL n l ++ rowL n r := List.map_append
theorem take_row {n y : Int} {l : List Ch} (hd : ∀ z ∈ l, z.y ≠ y) (hl : l.length < 64) : takeL (rowL n l) n y true = (0, rowL n l ++ [(y, n, true)]) := by
  have hc : clashL (rowL n l) y n true = false := by
    unfold clashL
    rw [List.any_eq_false]
    intro x hx
    obtain ⟨z, hz, rfl⟩ := List.mem_map.1 hx
    simp
  have hh : heldL (rowL n l) y n = false := by
    unfold heldL
    rw [List.any_eq_false]
    intro x hx
    obtain ⟨z, hz, rfl⟩ := List.mem_map.1 hx
    unfold atB
    have := hd z hz
    simp [this]
  unfold takeL
  rw [hc, if_neg (by simp), if_neg (by unfold rowL; rw [List.length_map]; omega)]
  unfold putL
  rw [hh, if_neg (by simp), Bool.or_true]
theorem take_all_row {n : Int} : ∀ (l l0 : List Ch), (∀ z ∈ l0, ∀ x ∈ l, z.y ≠ x.y) → l.Pairwise (fun a b => a.y ≠ b.y) → l0.length + l.length ≤ 64 → takeAll (rowL n l0) n l = (0, rowL n (l0 ++ l))
  | [], l0, _, _, _ => by rw [List.append_nil]; rfl
  | x :: l, l0, h1, h2, h3 => by
    have hp := List.pairwise_cons.1 h2
    have ht := take_row (n := n) (y := x.y) (l := l0) (fun z hz => h1 z hz x (List.mem_cons_self ..)) (by simp only [List.length_cons] at h3; omega)
    have e : rowL n l0 ++ [(x.y, n, true)] = rowL n (l0 ++ [x]) := by rw [rowL_app]; rfl
    rw [e] at ht
    unfold takeAll
    rw [ht, if_pos rfl]
    dsimp only
    rw [take_all_row l (l0 ++ [x]) ?_ hp.2 (by simp only [List.length_cons, List.length_append] at h3 ⊢; simp; omega), List.append_assoc]
    · rfl
    · intro z hz y hy
      rcases List.mem_append.1 hz with hz | hz
      · exact h1 z hz y (List.mem_cons_of_mem _ hy)
      · obtain rfl := List.mem_singleton.1 hz
        exact hp.1 y hy
theorem drop_row (n : Int) (l : List Ch) : dropL (rowL n l) n = [] := by
  unfold dropL
  rw [List.filter_eq_nil_iff]
  intro x hx
  obtain ⟨z, hz, rfl⟩ := List.mem_map.1 hx
  simp
theorem are_of_right : ∀ (l : List Ch) (s : Nat → Bool), RightL l → (∀ x ∈ l, s x.y.toNat = false) → areB s l = true
  | [], s, _, _ => rfl
  | x :: l, s, h, hs => by
    have hp := List.pairwise_cons.1 h.2
    have hx := h.1 x (List.mem_cons_self ..)
    unfold areB
    rw [hx.1, hx.2, hs x (List.mem_cons_self ..), are_of_right l _ ⟨fun z hz => h.1 z (List.mem_cons_of_mem _ hz), hp.2⟩ (fun z hz => ?_)]
    · rfl
    · unfold updS
      have h1 := key_bd (h.1 z (List.mem_cons_of_mem _ hz)).2
      have h2 := key_bd hx.2
      have h3 := hp.1 z hz
      rw [if_neg (by omega)]
      exact hs z (List.mem_cons_of_mem _ hz)
theorem RightL.len {l : List Ch} (h : RightL l) : l.length ≤ 16 := by
  have hn : (l.map fun x => x.y.toNat).Nodup := by
    unfold List.Nodup
    rw [List.pairwise_map]
    exact (List.pairwise_iff_getElem.2 fun i j hi hj hij => by
      have h1 := key_bd (h.1 _ (List.getElem_mem hi)).2
      have h2 := key_bd (h.1 _ (List.getElem_mem hj)).2
      have h3 := List.pairwise_iff_getElem.1 h.2 i j hi hj hij
      omega)
  have := nodup_le _ (List.range 16) hn (fun x hx => by
    obtain ⟨z, hz, rfl⟩ := List.mem_map.1 hx
    have h1 := key_bd (h.1 z hz).2
    exact List.mem_range.2 (by omega))
  simpa using this
/-! ### a store that is built anew -/
def zeroV : Nat → Nat × Bool := fun _ => (0, false)
def Tl (l : List Ch) : KS := ⟨anyB, zeroV, fun j => if j = 1 then (if l.isEmpty then none else some (l, false)) else none, rowL 1 l⟩
def T0 (V : Nat → Nat × Bool) : KS := ⟨anyB, V, fun _ => none, []⟩
theorem Tl_cur (l : List Ch) : curW (Tl l) 1 = (l, false) := by
  unfold curW Tl
  rcases l with _ | ⟨x, l⟩ <;> rfl
theorem with_new {l : List Ch} {x : Ch} (hd : ∀ z ∈ l, z.y ≠ x.y) : withL l x = l ++ [x] := by
  unfold withL
  rw [if_neg]
  intro hlt
  have := List.findIdx_getElem (p := fun z : Ch => decide (z.y = x.y)) (xs := l) (w := hlt)
  exact hd _ (List.getElem_mem hlt) (by unfold posN; simpa using this)
theorem change_Tl {l : List Ch} {x : Ch} (hk : keyB x.y = true) (hd : ∀ z ∈ l, z.y ≠ x.y) (hl : l.length < 64) : changeM (Tl l) 1 x = (0, Tl (l ++ [x])) := by
  have ho : openM (Tl l) 1 x.y true = (0, { Tl l with L := rowL 1 (l ++ [x]) }) := by
    unfold openM
    rw [if_neg (by rw [hk]; simp), Tl_cur, if_neg (by simp)]
    show ((takeL (rowL 1 l) 1 x.y true).1, { Tl l with L := (takeL (rowL 1 l) 1 x.y true).2 }) = _
    rw [take_row hd hl, rowL_app]
    rfl
  unfold changeM
  rw [ho, if_pos rfl, Tl_cur, with_new hd]
  have hW : updW (Tl l).W 1 (some (l ++ [x], false)) = (Tl (l ++ [x])).W := by
    funext j
    unfold updW Tl
    dsimp only
    split
    · rw [if_neg (by simp)]
    · rfl
  unfold Tl at hW ⊢
  dsimp only at hW ⊢
  rw [hW]
theorem commit_Tl (l : List Ch) : commitM (Tl l) 1 = (0, T0 (l.foldl setV zeroV)) := by
  unfold commitM
  rw [if_neg (by omega), Tl_cur]
  have hW : updW (Tl l).W 1 none = fun _ => none := by
    funext j
    unfold updW Tl
    dsimp only
    split
    · rfl
    · rfl
  unfold dropM T0
  dsimp only
  rw [hW]
  show (0, KS.mk anyB (l.foldl setV zeroV) (fun _ => none) (dropL (rowL 1 l) 1)) = _
  rw [drop_row]
def listV (V : Nat → Nat × Bool) (j : Nat) : List Ch := ((List.range j).filter fun k => (V k).2).map fun (k : Nat) => ⟨1, (k : Int), (V k).1⟩
theorem listV_yes {V : Nat → Nat × Bool} {j : Nat} (h : (V j).2 = true) : listV V (j + 1) = listV V j ++ [⟨1, (j : Int), (V j).1⟩] := by
  unfold listV
  rw [List.range_succ, List.filter_append, List.filter_cons_of_pos (by simpa using h), List.map_append]
  rfl
theorem listV_no {V : Nat → Nat × Bool} {j : Nat} (h : (V j).2 = false) : listV V (j + 1) = listV V j := by
  unfold listV
  rw [List.range_succ, List.filter_append, List.filter_cons_of_neg (by simp [h])]
  simp
theorem listV_mem {V : Nat → Nat × Bool} {j : Nat} {z : Ch} (h : z ∈ listV V j) : z.y < (j : Int) := by
  unfold listV at h
  obtain ⟨k, hk, rfl⟩ := List.mem_map.1 h
  have := List.mem_range.1 (List.mem_filter.1 hk).1
  show (k : Int) < _
  omega
theorem listV_len (V : Nat → Nat × Bool) (j : Nat) : (listV V j).length ≤ j := by
  unfold listV
  rw [List.length_map]
  exact Nat.le_trans (List.length_filter_le _ _) (by rw [List.length_range]; exact Nat.le_refl _)
theorem change_listV {V : Nat → Nat × Bool} {j : Nat} (hj : j < 16) (h : (V j).2 = true) : changeM (Tl (listV V j)) 1 ⟨1, (j : Int), (V j).1⟩ = (0, Tl (listV V (j + 1))) := by
  rw [listV_yes h]
  refine change_Tl ?_ (fun z hz => ?_) ?_
  · unfold keyB; simp; omega
  · have := listV_mem hz
    show z.y ≠ (j : Int)
    omega
  · have := listV_len V j; omega
theorem fold_listV (V : Nat → Nat × Bool) : ∀ (j k : Nat), ((listV V j).foldl setV zeroV) k = if k < j ∧ (V k).2 = true then ((V k).1, true) else (0, false)
  | 0, k => by rw [if_neg (by omega)]; rfl
  | j + 1, k => by
    rcases h : (V j).2 with _ | _
    · rw [listV_no h, fold_listV V j k]
      by_cases hk : k < j ∧ (V k).2 = true
      · rw [if_pos hk, if_pos ⟨by omega, hk.2⟩]
      · rw [if_neg hk, if_neg]
        rintro ⟨h1, h2⟩
        have : k = j := Decidable.byContradiction fun e => hk ⟨by omega, h2⟩
        rw [this, h] at h2
        cases h2
    · rw [listV_yes h, List.foldl_append, List.foldl_cons, List.foldl_nil]
      show (if k = ((j : Int)).toNat then ((V j).1, (1 : Int) == 1) else ((listV V j).foldl setV zeroV) k) = _
      rw [Int.toNat_natCast]
      by_cases e : k = j
      · subst e
        rw [if_pos rfl, if_pos ⟨by omega, h⟩]
        rfl
      · rw [if_neg e, fold_listV V j k]
        by_cases hk : k < j ∧ (V k).2 = true
        · rw [if_pos hk, if_pos ⟨by omega, hk.2⟩]
        · rw [if_neg hk, if_neg]
          rintro ⟨h1, h2⟩
          exact hk ⟨by omega, h2⟩
/-! ### a value that is not there is nought -/
def InvZ (V : Nat → Nat × Bool) : Prop := ∀ k, (V k).2 = false → (V k).1 = 0
theorem InvZ.fold : ∀ (l : List Ch) (V : Nat → Nat × Bool), (∀ x ∈ l, kindB x = true) → InvZ V → InvZ (l.foldl setV V)
  | [], V, _, h => h
  | x :: l, V, hk, h => by
    refine InvZ.fold l _ (fun z hz => hk z (List.mem_cons_of_mem _ hz)) fun k hf => ?_
    have hx := hk x (List.mem_cons_self ..)
    unfold setV at hf ⊢
    split at hf
    · rename_i e
      rw [if_pos e]
      dsimp only at hf ⊢
      unfold kindB at hx
      rw [hf] at hx
      simp at hx
      exact hx.2
    · rename_i e
      rw [if_neg e]
      exact h k hf
theorem InvZ.step {S : KS} (h : InvZ S.V) (hR : InvR S) (o : OpV) : InvZ (stepK S o).V := by
  unfold stepK
  split
  · show InvZ (callM S o).2.V
    have hch : ∀ x : Ch, (changeM S o.n x).2.V = S.V := fun x => by
      unfold changeM; split <;> exact openM_V S o.n x.y true
    unfold callM
    split
    · show InvZ (getM S o.n o.y).2.V
      unfold getM
      split
      · split <;> (rw [show (openM S o.n o.y false).2.V = S.V from openM_V _ _ _ _]; exact h)
      · rw [show (openM S o.n o.y false).2.V = S.V from openM_V _ _ _ _]; exact h
    · split
      · show InvZ (changeM S o.n _).2.V
        rw [hch]; exact h
      · split
        · show InvZ (changeM S o.n _).2.V
          rw [hch]; exact h
        · split
          · show InvZ (prepM S o.n).2.V
            unfold prepM
            split
            · exact h
            · split
              · exact h
              · split <;> exact h
          · split
            · show InvZ (commitM S o.n).2.V
              unfold commitM
              split
              · exact h
              · exact InvZ.fold _ _ (fun x hx => ((hR.cur o.n).1 x hx).1) h
            · split
              · show InvZ (backoutM S o.n).2.V
                rw [backout_V]; exact h
              · split
                · show InvZ (restoreM S o.n o.l).2.V
                  unfold restoreM
                  split
                  · exact h
                  · split
                    · exact h
                    · split
                      · exact h
                      · split <;> exact h
                · exact h
  · exact h
theorem InvZ.play (ops : List OpV) : InvZ (playK ops).V := by
  unfold playK
  generalize ops.take 60 = l
  have : ∀ (l : List OpV) (S : KS), InvR S → InvZ S.V → InvZ (l.foldl stepK S).V := by
    intro l
    induction l with
    | nil => intro S _ h; exact h
    | cons o l ih => intro S hR h; exact ih _ (hR.step o) (h.step hR o)
  exact this l _ (fun n l p e => by cases e) (fun k _ => rfl)
theorem same_listV {V : Nat → Nat × Bool} (h : InvZ V) : ∀ k, k < 16 → V k = ((listV V 16).foldl setV zeroV) k := by
  intro k hk
  rw [fold_listV]
  rcases hv : (V k).2 with _ | _
  · rw [if_neg (by simp)]
    exact Prod.ext (h k hv) hv
  · rw [if_pos ⟨hk, rfl⟩]
    exact Prod.ext rfl hv
theorem fold_same : ∀ (l : List Ch) (V V' : Nat → Nat × Bool), (∀ k, k < 16 → V k = V' k) → ∀ k, k < 16 → (l.foldl setV V) k = (l.foldl setV V') k
  | [], _, _, h => h
  | x :: l, V, V', h => fold_same l _ _ fun k hk => by
    unfold setV
    split
    · rfl
    · exact h k hk
/-! ### what more a work does -/
def MoreI (V : Nat → Nat × Bool) (n : Int) (S : KS) : Prop := S.V = V ∧ S.B = anyB ∧ InvR S ∧ (curW S n).2 = false
theorem MoreI.step {V : Nat → Nat × Bool} {n : Int} {S : KS} (h : MoreI V n S) (o : OpV) (hn : o.n = n) (h0 : 0 ≤ o.k) (h2 : o.k ≤ 2) : MoreI V n { (callM S o).2 with B := anyB } := by
  obtain ⟨a, b, c, d⟩ := h
  refine ⟨(callM_V S o h0 (by omega)).trans a, rfl, ?_, ?_⟩
  · refine InvR.same (S := (callM S o).2) ?_ rfl
    unfold callM
    split
    · show InvR (getM S o.n o.y).2
      unfold getM
      split
      · split <;> exact c.same (openM_W _ _ _ _).1
      · exact c.same (openM_W _ _ _ _).1
    · split
      · exact c.change _ _ rfl
      · rw [if_pos (by omega)]
        exact c.change _ _ rfl
  · show (curW { (callM S o).2 with B := anyB } n).2 = false
    have hW : (callM S o).2.W = S.W ∨ ∃ l, (callM S o).2.W = updW S.W n (some (l, false)) := by
      have hch : ∀ x : Ch, (changeM S o.n x).2.W = S.W ∨ ∃ l, (changeM S o.n x).2.W = updW S.W n (some (l, false)) := fun x => by
        unfold changeM
        split
        · exact .inr ⟨withL (curW S o.n).1 x, by rw [hn]⟩
        · exact .inl (openM_W S o.n x.y true).1
      unfold callM
      split
      · refine .inl ?_
        show (getM S o.n o.y).2.W = S.W
        unfold getM
        split
        · split <;> exact (openM_W _ _ _ _).1
        · exact (openM_W _ _ _ _).1
      · split
        · exact hch _
        · rw [if_pos (by omega)]
          exact hch _
    unfold curW at d ⊢
    show (((callM S o).2.W n).getD ([], false)).2 = false
    rcases hW with e | ⟨l, e⟩
    · rw [e]; exact d
    · rw [e]; unfold updW; rw [if_pos rfl]; rfl
theorem MoreI.start {S : KS} (hB : S.B = anyB) (hR : InvR S) {n : Int} (h : busyB S n = false) : MoreI S.V n S := by
  refine ⟨rfl, hB, hR, ?_⟩
  unfold busyB at h
  unfold curW
  rcases hw : S.W n with _ | z
  · rfl
  · rw [hw] at h; cases h
theorem MoreI.prep {V : Nat → Nat × Bool} {n : Int} {S : KS} (h : MoreI V n S) (hn : 1 ≤ n) : ∃ l S2, prepM S n = ((l, 0), S2) ∧ RightL l ∧ (commitM S2 n).2.V = l.foldl setV V ∧ S2.B = anyB := by
  obtain ⟨a, b, c, d⟩ := h
  have hc := c.cur n
  unfold prepM
  rw [if_neg (by omega), if_neg (by rw [d]; simp)]
  rcases hs : (S.W n).isSome with _ | _
  · rw [if_pos rfl]
    have hw : S.W n = none := by simpa using hs
    refine ⟨[], _, rfl, RightL.nil, ?_, b⟩
    unfold commitM curW
    rw [if_neg (by omega)]
    show ((S.W n).getD ([], false)).1.foldl setV S.V = _
    rw [hw, a]
    rfl
  · rw [if_neg (by simp)]
    refine ⟨_, _, rfl, hc, ?_, b⟩
    unfold commitM
    rw [if_neg (by omega)]
    show (((updW S.W n (some ((curW S n).1, true))) n).getD ([], false)).1.foldl setV S.V = _
    unfold updW
    rw [if_pos rfl, a]
    rfl
theorem rest_T {V : Nat → Nat × Bool} {n : Int} {l : List Ch} (hn : 1 ≤ n) (h : RightL l) : ∃ T1, restoreM (T0 V) n l = (0, T1) ∧ busyB T1 n = decide (0 < l.length) ∧ (commitM T1 n).2.V = l.foldl setV V ∧ T1.B = anyB ∧ busyB (commitM T1 n).2 n = false := by
  have hb : busyB (T0 V) n = false := rfl
  have ha := are_of_right l (fun _ => false) h (fun _ _ => rfl)
  have ht : takeAll (T0 V).L n l = (0, rowL n l) := take_all_row (n := n) l [] (fun z hz => by cases hz) h.2 (by have := h.len; simp; omega)
  unfold restoreM
  rw [if_neg (by omega), ha, if_neg (by simp), hb, if_neg (by simp), ht, if_pos rfl]
  refine ⟨_, rfl, ?_, ?_, rfl, ?_⟩
  · unfold busyB restW
    rcases l with _ | ⟨x, l⟩
    · rfl
    · rw [if_neg (by simp)]
      dsimp only
      unfold updW
      rw [if_pos rfl]
      simp
  · unfold commitM
    rw [if_neg (by omega)]
    show ((restW (T0 V) n l n).getD ([], false)).1.foldl setV V = _
    unfold restW
    rcases l with _ | ⟨x, l⟩
    · rfl
    · rw [if_neg (by simp)]
      unfold updW
      rw [if_pos rfl]
      rfl
  · unfold commitM
    rw [if_neg (by omega)]
    exact busy_drop _ _
end Go.Proofs.Ytnpoicgincndkaa
