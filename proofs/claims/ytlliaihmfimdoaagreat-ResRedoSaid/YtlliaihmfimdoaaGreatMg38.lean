/- Parts Tk Tl Tm Tn of one proof. -/
import Derived.Test.YtlliaihmfimdoaaGreatMg37
namespace Go.Proofs.YtlliaihmfimdoaaGreat.Re
open Go.RowKit Go.Maps Go.Proofs.YtlliaihmfimdoaaGreat
set_option linter.unusedVariables false
set_option linter.unusedSimpArgs false

def RightL (l : List Ch) : Prop := (∀ x ∈ l, kindB x = true ∧ keyB x.y = true) ∧ l.Pairwise (fun a b => a.y ≠ b.y)
theorem RightL.nil : RightL [] := ⟨(fun x hx => by cases hx), List.Pairwise.nil⟩
theorem RightL.with_ {l : List Ch} (h : RightL l) {x : Ch} (h1 : kindB x = true) (h2 : keyB x.y = true) : RightL (withL l x) := by
  unfold withL
  split
  · rename_i hlt
    refine ⟨fun z hz => ?_, ?_⟩
    · rcases List.mem_or_eq_of_mem_set hz with hz | rfl
      · exact h.1 z hz
      · exact ⟨h1, h2⟩
    · have hp : (l[posN l x.y]'hlt).y = x.y := by
        have := List.findIdx_getElem (p := fun z : Ch => decide (z.y = x.y)) (xs := l) (w := hlt)
        unfold posN
        simpa using this
      have hw := List.pairwise_iff_getElem.1 h.2
      rw [List.pairwise_iff_getElem]
      intro i j hi hj hij
      rw [List.length_set] at hi hj
      rw [List.getElem_set, List.getElem_set]
      split
      · rename_i e
        subst e
        rw [if_neg (by omega)]
        have := hw _ j hi hj hij
        rw [hp] at this
        exact this
      · split
        · rename_i e
          subst e
          have := hw i _ hi hj hij
          rw [hp] at this
          exact this
        · exact hw i j hi hj hij
  · rename_i hge
    refine ⟨fun z hz => ?_, ?_⟩
    · rcases List.mem_append.1 hz with hz | hz
      · exact h.1 z hz
      · obtain rfl := List.mem_singleton.1 hz
        exact ⟨h1, h2⟩
    · rw [List.pairwise_append]
      refine ⟨h.2, List.pairwise_singleton _ _, fun a ha b hb => ?_⟩
      obtain rfl := List.mem_singleton.1 hb
      intro e
      exact hge (List.findIdx_lt_length_of_exists ⟨a, ha, by simpa using e⟩)
theorem are_right : ∀ (l : List Ch) (s : Nat → Bool), areB s l = true → (∀ x ∈ l, s x.y.toNat = false) ∧ RightL l
  | [], s, _ => ⟨(fun x hx => by cases hx), RightL.nil⟩
  | x :: l, s, h => by
    unfold areB at h
    simp only [Bool.and_eq_true, Bool.not_eq_true'] at h
    obtain ⟨h1, h2, h3, h4⟩ := h
    obtain ⟨i1, i2⟩ := are_right l _ h4
    have hn : ∀ z ∈ l, z.y.toNat ≠ x.y.toNat := fun z hz e => by
      have := i1 z hz
      unfold updS at this
      rw [if_pos e] at this
      cases this
    refine ⟨fun z hz => ?_, fun z hz => ?_, ?_⟩
    · rcases List.mem_cons.1 hz with rfl | hz
      · exact h3
      · have := i1 z hz
        unfold updS at this
        rw [if_neg (hn z hz)] at this
        exact this
    · rcases List.mem_cons.1 hz with rfl | hz
      · exact ⟨h1, h2⟩
      · exact i2.1 z hz
    · exact List.pairwise_cons.2 ⟨fun z hz e => hn z hz (by rw [e]), i2.2⟩
theorem fold_not : ∀ (l : List Ch) (V : Nat → Nat × Bool) (k : Nat), (∀ z ∈ l, z.y.toNat ≠ k) → (l.foldl setV V) k = V k
  | [], V, k, _ => rfl
  | x :: l, V, k, h => by
    rw [List.foldl_cons, fold_not l _ k (fun z hz => h z (List.mem_cons_of_mem _ hz))]
    exact if_neg (fun e => h x (List.mem_cons_self ..) e.symm)
theorem key_bd {y : Int} (h : keyB y = true) : 0 ≤ y ∧ y < 16 := by
  unfold keyB at h
  simpa using h
theorem fold_right : ∀ (l : List Ch) (V : Nat → Nat × Bool), RightL l → ∀ x ∈ l, (l.foldl setV V) x.y.toNat = (x.v, x.k == 1)
  | a :: l, V, h, x, hx => by
    have hp := List.pairwise_cons.1 h.2
    have hr : RightL l := ⟨fun z hz => h.1 z (List.mem_cons_of_mem _ hz), hp.2⟩
    rw [List.foldl_cons]
    rcases List.mem_cons.1 hx with rfl | hx
    · rw [fold_not]
      · exact if_pos rfl
      · intro z hz e
        have h1 := key_bd (hr.1 z hz).2
        have h2 := key_bd (h.1 x (List.mem_cons_self ..)).2
        exact hp.1 z hz (by omega)
    · exact fold_right l _ hr x hx
def InvR (S : KS) : Prop := ∀ n l p, S.W n = some (l, p) → RightL l
theorem InvR.cur {S : KS} (h : InvR S) (n : Int) : RightL (curW S n).1 := by
  unfold curW
  rcases hw : S.W n with _ | ⟨l, p⟩
  · exact RightL.nil
  · exact h n l p hw
theorem InvR.up {S : KS} (h : InvR S) {W : Int → Option (List Ch × Bool)} {n : Int} {o : Option (List Ch × Bool)} (ho : ∀ l p, o = some (l, p) → RightL l) (hW : W = updW S.W n o) {V B L} : InvR ⟨B, V, W, L⟩ := fun m l p e => by
  have e : W m = some (l, p) := e
  rw [hW] at e
  unfold updW at e
  split at e
  · exact ho l p e
  · exact h m l p e
theorem InvR.same {S S' : KS} (h : InvR S) (e : S'.W = S.W) : InvR S' := fun m l p h' => h m l p (by rw [← e]; exact h')
theorem InvR.change {S : KS} (h : InvR S) (n : Int) (x : Ch) (h1 : kindB x = true) : InvR (changeM S n x).2 := by
  unfold changeM
  split
  · rename_i h0
    refine InvR.up (S := S) h (o := some (withL (curW S n).1 x, false)) (n := n) ?_ rfl
    rintro l p e
    injection e with e
    injection e with e _
    rw [← e]
    exact (h.cur n).with_ h1 (openM_ok h0).2.2
  · exact h.same (openM_W S n x.y true).1
theorem InvR.drop {S : KS} (h : InvR S) (n : Int) : InvR (dropM S n) := InvR.up (S := S) h (o := none) (n := n) (fun l p e => by cases e) rfl
theorem prep_facts {S S1 : KS} {n : Int} {l : List Ch} (hS : InvR S) (h : prepM S n = ((l, 0), S1)) (hl : 0 < l.length) : RightL l ∧ 1 ≤ n ∧ S1 = { S with W := updW S.W n (some (l, true)) } := by
  have hc := hS.cur n
  unfold prepM at h
  split at h
  · injection h with h1 _; injection h1 with h1 h2; cases h2
  · split at h
    · injection h with h1 _; injection h1 with h1 h2; cases h2
    · split at h
      · injection h with h1 _; injection h1 with h1 h2; rw [← h1] at hl; exact absurd hl (by simp)
      · injection h with h1 h2
        injection h1 with h1 _
        rw [h1] at h2 hc
        exact ⟨hc, by omega, h2.symm⟩
theorem prepared_open {S : KS} {n : Int} {l : List Ch} (hn : 1 ≤ n) (y : Int) (al : Bool) (h : S.W n = some (l, true)) : openM S n y al = (if keyB y then 7 else 1, S) := by
  unfold openM curW
  rw [h]
  rcases hk : keyB y with _ | _
  · rw [if_pos (.inr rfl)]; rfl
  · rw [if_neg (by rintro (h | h); omega; cases h)]; rfl
theorem prepared_change {S : KS} {n : Int} {l : List Ch} (hn : 1 ≤ n) (x : Ch) (h : S.W n = some (l, true)) : changeM S n x = (if keyB x.y then 7 else 1, S) := by
  unfold changeM
  rw [prepared_open hn x.y true h]
  rw [if_neg]
  dsimp only
  split <;> decide
theorem prepared_get {S : KS} {n : Int} {l : List Ch} (hn : 1 ≤ n) (y : Int) (h : S.W n = some (l, true)) : getM S n y = ((0, false, if keyB y then 7 else 1), S) := by
  unfold getM
  rw [prepared_open hn y false h]
  rw [if_neg]
  dsimp only
  split <;> decide
theorem prepared_prep {S : KS} {n : Int} {l : List Ch} (hn : 1 ≤ n) (h : S.W n = some (l, true)) : prepM S n = (([], 7), S) := by
  unfold prepM curW
  rw [h, if_neg (by omega)]
  rfl
theorem prepared_busy {S : KS} {n : Int} {l : List Ch} (h : S.W n = some (l, true)) : busyB S n = true := by
  unfold busyB; rw [h]; rfl
theorem prepared_commit {S : KS} {n : Int} {l : List Ch} (hn : 1 ≤ n) (h : S.W n = some (l, true)) : (commitM S n).2.V = l.foldl setV S.V ∧ busyB (commitM S n).2 n = false := by
  unfold commitM curW
  rw [h, if_neg (by omega)]
  exact ⟨rfl, busy_drop _ _⟩
def rowL (n : Int) (l : List Ch) : List LRow := l.map fun x => (x.y, n, true)
theorem rowL_app (n : Int) (l r : List Ch) : rowL n (l ++ r) = rowL n l ++ rowL n r := List.map_append
theorem take_row {n y : Int} {l : List Ch} (hd : ∀ z ∈ l, z.y ≠ y) (hl : l.length < 64) : takeL (rowL n l) n y true = (0, rowL n l ++ [(y, n, true)]) := by
  have hc : clashL (rowL n l) y n true = false := by
    unfold clashL
    rw [List.any_eq_false]
    intro x hx
    obtain ⟨z, hz, rfl⟩ := List.mem_map.1 hx
    simp
  have hh : heldL (rowL n l) y n = false := by
    unfold heldL
    rw [List.any_eq_false]
    intro x hx
    obtain ⟨z, hz, rfl⟩ := List.mem_map.1 hx
    unfold atB
    have := hd z hz
    simp [this]
  unfold takeL
  rw [hc, if_neg (by simp), if_neg (by unfold rowL; rw [List.length_map]; omega)]
  unfold putL
  rw [hh, if_neg (by simp), Bool.or_true]
theorem take_all_row {n : Int} : ∀ (l l0 : List Ch), (∀ z ∈ l0, ∀ x ∈ l, z.y ≠ x.y) → l.Pairwise (fun a b => a.y ≠ b.y) → l0.length + l.length ≤ 64 → takeAll (rowL n l0) n l = (0, rowL n (l0 ++ l))
  | [], l0, _, _, _ => by rw [List.append_nil]; rfl
  | x :: l, l0, h1, h2, h3 => by
    have hp := List.pairwise_cons.1 h2
    have ht := take_row (n := n) (y := x.y) (l := l0) (fun z hz => h1 z hz x (List.mem_cons_self ..)) (by simp only [List.length_cons] at h3; omega)
    have e : rowL n l0 ++ [(x.y, n, true)] = rowL n (l0 ++ [x]) := by rw [rowL_app]; rfl
    rw [e] at ht
    unfold takeAll
    rw [ht, if_pos rfl]
    dsimp only
    rw [take_all_row l (l0 ++ [x]) ?_ hp.2 (by simp only [List.length_cons, List.length_append] at h3 ⊢; simp; omega), List.append_assoc]
    · rfl
    · intro z hz y hy
      rcases List.mem_append.1 hz with hz | hz
      · exact h1 z hz y (List.mem_cons_of_mem _ hy)
      · obtain rfl := List.mem_singleton.1 hz
        exact hp.1 y hy
theorem drop_row (n : Int) (l : List Ch) : dropL (rowL n l) n = [] := by
  unfold dropL
  rw [List.filter_eq_nil_iff]
  intro x hx
  obtain ⟨z, hz, rfl⟩ := List.mem_map.1 hx
  simp
theorem are_of_right : ∀ (l : List Ch) (s : Nat → Bool), RightL l → (∀ x ∈ l, s x.y.toNat = false) → areB s l = true
  | [], s, _, _ => rfl
  | x :: l, s, h, hs => by
    have hp := List.pairwise_cons.1 h.2
    have hx := h.1 x (List.mem_cons_self ..)
    unfold areB
    rw [hx.1, hx.2, hs x (List.mem_cons_self ..), are_of_right l _ ⟨fun z hz => h.1 z (List.mem_cons_of_mem _ hz), hp.2⟩ (fun z hz => ?_)]
    · rfl
    · unfold updS
      have h1 := key_bd (h.1 z (List.mem_cons_of_mem _ hz)).2
      have h2 := key_bd hx.2
      have h3 := hp.1 z hz
      rw [if_neg (by omega)]
      exact hs z (List.mem_cons_of_mem _ hz)
theorem RightL.len {l : List Ch} (h : RightL l) : l.length ≤ 16 := by
  have hn : (l.map fun x => x.y.toNat).Nodup := by
    unfold List.Nodup
    rw [List.pairwise_map]
    exact (List.pairwise_iff_getElem.2 fun i j hi hj hij => by
      have h1 := key_bd (h.1 _ (List.getElem_mem hi)).2
      have h2 := key_bd (h.1 _ (List.getElem_mem hj)).2
      have h3 := List.pairwise_iff_getElem.1 h.2 i j hi hj hij
      omega)
  have := nodup_le _ (List.range 16) hn (fun x hx => by
    obtain ⟨z, hz, rfl⟩ := List.mem_map.1 hx
    have h1 := key_bd (h.1 z hz).2
    exact List.mem_range.2 (by omega))
  simpa using this
def zeroV : Nat → Nat × Bool := fun _ => (0, false)
def Tl (l : List Ch) : KS := ⟨anyB, zeroV, fun j => if j = 1 then (if l.isEmpty then none else some (l, false)) else none, rowL 1 l⟩
def T0 (V : Nat → Nat × Bool) : KS := ⟨anyB, V, fun _ => none, []⟩
theorem Tl_cur (l : List Ch) : curW (Tl l) 1 = (l, false) := by
  unfold curW Tl
  rcases l with _ | ⟨x, l⟩ <;> rfl
theorem with_new {l : List Ch} {x : Ch} (hd : ∀ z ∈ l, z.y ≠ x.y) : withL l x = l ++ [x] := by
  unfold withL
  rw [if_neg]
  intro hlt
  have := List.findIdx_getElem (p := fun z : Ch => decide (z.y = x.y)) (xs := l) (w := hlt)
  exact hd _ (List.getElem_mem hlt) (by unfold posN; simpa using this)
theorem change_Tl {l : List Ch} {x : Ch} (hk : keyB x.y = true) (hd : ∀ z ∈ l, z.y ≠ x.y) (hl : l.length < 64) : changeM (Tl l) 1 x = (0, Tl (l ++ [x])) := by
  have ho : openM (Tl l) 1 x.y true = (0, { Tl l with L := rowL 1 (l ++ [x]) }) := by
    unfold openM
    rw [if_neg (by rw [hk]; simp), Tl_cur, if_neg (by simp)]
    show ((takeL (rowL 1 l) 1 x.y true).1, { Tl l with L := (takeL (rowL 1 l) 1 x.y true).2 }) = _
    rw [take_row hd hl, rowL_app]
    rfl
  unfold changeM
  rw [ho, if_pos rfl, Tl_cur, with_new hd]
  have hW : updW (Tl l).W 1 (some (l ++ [x], false)) = (Tl (l ++ [x])).W := by
    funext j
    unfold updW Tl
    dsimp only
    split
    · rw [if_neg (by simp)]
    · rfl
  unfold Tl at hW ⊢
  dsimp only at hW ⊢
  rw [hW]
theorem commit_Tl (l : List Ch) : commitM (Tl l) 1 = (0, T0 (l.foldl setV zeroV)) := by
  unfold commitM
  rw [if_neg (by omega), Tl_cur]
  have hW : updW (Tl l).W 1 none = fun _ => none := by
    funext j
    unfold updW Tl
    dsimp only
    split
    · rfl
    · rfl
  unfold dropM T0
  dsimp only
  rw [hW]
  show (0, KS.mk anyB (l.foldl setV zeroV) (fun _ => none) (dropL (rowL 1 l) 1)) = _
  rw [drop_row]
def listV (V : Nat → Nat × Bool) (j : Nat) : List Ch := ((List.range j).filter fun k => (V k).2).map fun (k : Nat) => ⟨1, (k : Int), (V k).1⟩
theorem listV_yes {V : Nat → Nat × Bool} {j : Nat} (h : (V j).2 = true) : listV V (j + 1) = listV V j ++ [⟨1, (j : Int), (V j).1⟩] := by
  unfold listV
  rw [List.range_succ, List.filter_append, List.filter_cons_of_pos (by simpa using h), List.map_append]
  rfl
theorem listV_no {V : Nat → Nat × Bool} {j : Nat} (h : (V j).2 = false) : listV V (j + 1) = listV V j := by
  unfold listV
  rw [List.range_succ, List.filter_append, List.filter_cons_of_neg (by simp [h])]
  simp
theorem listV_mem {V : Nat → Nat × Bool} {j : Nat} {z : Ch} (h : z ∈ listV V j) : z.y < (j : Int) := by
  unfold listV at h
  obtain ⟨k, hk, rfl⟩ := List.mem_map.1 h
  have := List.mem_range.1 (List.mem_filter.1 hk).1
  show (k : Int) < _
  omega
theorem listV_len (V : Nat → Nat × Bool) (j : Nat) : (listV V j).length ≤ j := by
  unfold listV
  rw [List.length_map]
  exact Nat.le_trans (List.length_filter_le _ _) (by rw [List.length_range]; exact Nat.le_refl _)
theorem change_listV {V : Nat → Nat × Bool} {j : Nat} (hj : j < 16) (h : (V j).2 = true) : changeM (Tl (listV V j)) 1 ⟨1, (j : Int), (V j).1⟩ = (0, Tl (listV V (j + 1))) := by
  rw [listV_yes h]
  refine change_Tl ?_ (fun z hz => ?_) ?_
  · unfold keyB; simp; omega
  · have := listV_mem hz
    show z.y ≠ (j : Int)
    omega
  · have := listV_len V j; omega
theorem fold_listV (V : Nat → Nat × Bool) : ∀ (j k : Nat), ((listV V j).foldl setV zeroV) k = if k < j ∧ (V k).2 = true then ((V k).1, true) else (0, false)
  | 0, k => by rw [if_neg (by omega)]; rfl
  | j + 1, k => by
    rcases h : (V j).2 with _ | _
    · rw [listV_no h, fold_listV V j k]
      by_cases hk : k < j ∧ (V k).2 = true
      · rw [if_pos hk, if_pos ⟨by omega, hk.2⟩]
      · rw [if_neg hk, if_neg]
        rintro ⟨h1, h2⟩
        have : k = j := Decidable.byContradiction fun e => hk ⟨by omega, h2⟩
        rw [this, h] at h2
        cases h2
    · rw [listV_yes h, List.foldl_append, List.foldl_cons, List.foldl_nil]
      show (if k = ((j : Int)).toNat then ((V j).1, (1 : Int) == 1) else ((listV V j).foldl setV zeroV) k) = _
      rw [Int.toNat_natCast]
      by_cases e : k = j
      · subst e
        rw [if_pos rfl, if_pos ⟨by omega, h⟩]
        rfl
      · rw [if_neg e, fold_listV V j k]
        by_cases hk : k < j ∧ (V k).2 = true
        · rw [if_pos hk, if_pos ⟨by omega, hk.2⟩]
        · rw [if_neg hk, if_neg]
          rintro ⟨h1, h2⟩
          exact hk ⟨by omega, h2⟩
def InvZ (V : Nat → Nat × Bool) : Prop := ∀ k, (V k).2 = false → (V k).1 = 0
theorem InvZ.fold : ∀ (l : List Ch) (V : Nat → Nat × Bool), (∀ x ∈ l, kindB x = true) → InvZ V → InvZ (l.foldl setV V)
  | [], V, _, h => h
  | x :: l, V, hk, h => by
    refine InvZ.fold l _ (fun z hz => hk z (List.mem_cons_of_mem _ hz)) fun k hf => ?_
    have hx := hk x (List.mem_cons_self ..)
    unfold setV at hf ⊢
    split at hf
    · rename_i e
      rw [if_pos e]
      dsimp only at hf ⊢
      unfold kindB at hx
      rw [hf] at hx
      simp at hx
      exact hx.2
    · rename_i e
      rw [if_neg e]
      exact h k hf
theorem same_listV {V : Nat → Nat × Bool} (h : InvZ V) : ∀ k, k < 16 → V k = ((listV V 16).foldl setV zeroV) k := by
  intro k hk
  rw [fold_listV]
  rcases hv : (V k).2 with _ | _
  · rw [if_neg (by simp)]
    exact Prod.ext (h k hv) hv
  · rw [if_pos ⟨hk, rfl⟩]
    exact Prod.ext rfl hv
theorem fold_same : ∀ (l : List Ch) (V V' : Nat → Nat × Bool), (∀ k, k < 16 → V k = V' k) → ∀ k, k < 16 → (l.foldl setV V) k = (l.foldl setV V') k
  | [], _, _, h => h
  | x :: l, V, V', h => fold_same l _ _ fun k hk => by
    unfold setV
    split
    · rfl
    · exact h k hk
theorem rest_T {V : Nat → Nat × Bool} {n : Int} {l : List Ch} (hn : 1 ≤ n) (h : RightL l) : ∃ T1, restoreM (T0 V) n l = (0, T1) ∧ busyB T1 n = decide (0 < l.length) ∧ (commitM T1 n).2.V = l.foldl setV V ∧ T1.B = anyB ∧ busyB (commitM T1 n).2 n = false := by
  have hb : busyB (T0 V) n = false := rfl
  have ha := are_of_right l (fun _ => false) h (fun _ _ => rfl)
  have ht : takeAll (T0 V).L n l = (0, rowL n l) := take_all_row (n := n) l [] (fun z hz => by cases hz) h.2 (by have := h.len; simp; omega)
  unfold restoreM
  rw [if_neg (by omega), ha, if_neg (by simp), hb, if_neg (by simp), ht, if_pos rfl]
  refine ⟨_, rfl, ?_, ?_, rfl, ?_⟩
  · unfold busyB restW
    rcases l with _ | ⟨x, l⟩
    · rfl
    · rw [if_neg (by simp)]
      dsimp only
      unfold updW
      rw [if_pos rfl]
      simp
  · unfold commitM
    rw [if_neg (by omega)]
    show ((restW (T0 V) n l n).getD ([], false)).1.foldl setV V = _
    unfold restW
    rcases l with _ | ⟨x, l⟩
    · rfl
    · rw [if_neg (by simp)]
      unfold updW
      rw [if_pos rfl]
      rfl
  · unfold commitM
    rw [if_neg (by omega)]
    exact busy_drop _ _
end Go.Proofs.YtlliaihmfimdoaaGreat.Re

namespace Go.Proofs.YtlliaihmfimdoaaGreat.Qu
open Go.RowKit Go.Maps
set_option linter.unusedVariables false
set_option linter.unusedSimpArgs false

theorem tk_len : ∀ (l : List Ch), kdOk l → (tkL l).length + putsL l = l.length
  | [], _ => rfl
  | x :: r, h => by
    have ih := tk_len r fun y hy => h y (List.mem_cons_of_mem _ hy)
    unfold tkL putsL at ih ⊢
    rw [List.filter_cons, List.filter_cons, List.length_cons]
    rcases h x (List.mem_cons_self ..) with ⟨e, _⟩ | e
    · rw [if_neg (by simp [e]), if_pos (by simp [e]), List.length_cons]; omega
    · rw [if_pos (by simp [e]), if_neg (by simp [e]), List.length_cons]; omega
theorem prep_facts {S : QS} {n : Int} (h : openE S n = 0) : (prepM S n).1 = ((curQ S.ws n).1, 0) ∧ (curQ (prepM S n).2.ws n).1 = (curQ S.ws n).1 ∧ (prepM S n).2.I = S.I ∧ (prepM S n).2.g = S.g ∧ (∀ m, m ≠ n → curQ (prepM S n).2.ws m = curQ S.ws m) := by
  unfold prepM
  rw [if_neg (by rw [h]; simp)]
  split
  · rename_i hb
    have hc0 : (curQ S.ws n).1 = [] := by
      unfold curQ
      rcases hl : lookQ S.ws n with _ | z
      · rfl
      · rw [hl] at hb; simp at hb
    rw [hc0]
    exact ⟨rfl, rfl, rfl, rfl, fun _ _ => rfl⟩
  · exact ⟨rfl, by dsimp only; rw [curQ_lay, if_pos rfl], rfl, rfl, fun m hm => by dsimp only; rw [curQ_lay, if_neg hm]⟩
def NumL : Int → List Int → Prop
  | _, [] => True
  | k, x :: r => x = k ∧ NumL (k + 1) r
theorem NumL.app : ∀ (a b : List Int) (k : Int), NumL k (a ++ b) ↔ NumL k a ∧ NumL (k + (a.length : Nat)) b
  | [], b, k => by simp [NumL]
  | x :: a, b, k => by
    simp only [List.cons_append, NumL, NumL.app a b (k + 1), List.length_cons, and_assoc]
    rw [show k + 1 + ((a.length : Nat) : Int) = k + ((a.length + 1 : Nat) : Int) by push_cast; omega]
structure QN (S : QS) : Prop where
  num : NumL (S.g + 1 - (S.I.length : Nat)) (S.I.map IT.n)
  len : (S.I.length : Int) ≤ S.g
theorem QN.same {S S' : QS} (h : QN S) (h1 : S'.I.map IT.n = S.I.map IT.n) (h2 : S'.g = S.g) : QN S' := by
  have hl : S'.I.length = S.I.length := by have := congrArg List.length h1; simpa using this
  exact ⟨by rw [h1, h2, hl]; exact h.num, by rw [hl, h2]; exact h.len⟩
theorem giveI_n (L : List IT) (i : Nat) (n : Int) : (giveI L i n).map IT.n = L.map IT.n := by
  refine List.ext_getElem? fun j => ?_
  unfold giveI
  rw [List.getElem?_map, List.getElem?_map, List.getElem?_modify]
  cases L[j]? with
  | none => simp
  | some x => simp only [Option.map_eq_map, Option.map_some]; split <;> rfl
theorem freeI_n (L : List IT) (n : Int) : (L.map (freeI n)).map IT.n = L.map IT.n := by
  rw [List.map_map]
  refine List.map_congr_left fun x _ => ?_
  simp only [Function.comp]
  unfold freeI; split <;> rfl
theorem givenI_n (L : List IT) (n : Int) (j : Nat) : (givenI L n j).map IT.n = L.map IT.n := by
  unfold givenI
  rw [List.map_append, List.map_map]
  have : (IT.n ∘ fun x : IT => ({ x with t := n } : IT)) = IT.n := rfl
  rw [this, ← List.map_append, List.take_append_drop]
theorem newsQ_num : ∀ (l : List Ch) (g : Int), NumL (g + 1) ((newsQ g l).map IT.n)
  | [], g => trivial
  | x :: r, g => by
    unfold newsQ
    split
    · exact ⟨rfl, newsQ_num r (g + 1)⟩
    · exact newsQ_num r g
theorem loadF_num : ∀ (l : List Nat) (k : Int), NumL k ((loadF k l).map IT.n)
  | [], k => trivial
  | x :: r, k => ⟨rfl, loadF_num r (k + 1)⟩
theorem QR.front {S : QS} (h : QR S) {n : Int} (hn : 1 ≤ n) : ∃ k, k ≤ S.I.length ∧ byI S.I n = S.I.take k ∧ keptI S.I n = S.I.drop k := by
  obtain ⟨P, F, n', hPF, hF, hP, hn'⟩ := h.pre
  have hFn : ∀ x ∈ F, x.t ≠ n := fun x hx => by have := hF x hx; omega
  have hkF : keptI F n = F := List.filter_eq_self.2 fun x hx => by simpa using hFn x hx
  have hka : keptI (P ++ F) n = keptI P n ++ keptI F n := List.filter_append ..
  by_cases e : n' = n
  · subst e
    refine ⟨P.length, by rw [hPF, List.length_append]; omega, ?_, ?_⟩
    · rw [hPF, byI_app, byI_all hP, byI_none hFn, List.append_nil, List.take_left]
    · rw [hPF, hka, hkF, List.drop_left, show keptI P n' = [] from List.filter_eq_nil_iff.2 fun x hx => by simpa using hP x hx]; rfl
  · have hPn : ∀ x ∈ P, x.t ≠ n := fun x hx => by rw [hP x hx]; exact e
    refine ⟨0, Nat.zero_le _, ?_, ?_⟩
    · rw [hPF, byI_app, byI_none hPn, byI_none hFn]; rfl
    · rw [hPF, hka, hkF, show keptI P n = P from List.filter_eq_self.2 fun x hx => by simpa using hPn x hx]; rfl
section
variable {S : QS}
theorem QN.put (h : QN S) (n : Int) (v : Nat) : QN (putM S n v).2 := by
  unfold putM
  split
  · exact h
  · split
    · exact h
    · exact h.same rfl rfl
theorem QN.take (h : QN S) (n : Int) : QN (takeM S n).2 := by
  unfold takeM
  split
  · exact h
  · split
    · exact h
    · split
      · exact h.same (giveI_n _ _ _) rfl
      · exact h
theorem QN.prep (h : QN S) (n : Int) : QN (prepM S n).2 := by
  unfold prepM
  split
  · exact h
  · split
    · exact h
    · exact h.same rfl rfl
theorem QN.commit (h : QN S) (hr : QR S) (n : Int) : QN (commitM S n).2 := by
  unfold commitM
  split
  · exact h
  · rename_i hn1
    obtain ⟨k, hk, hb, hkp⟩ := hr.front (n := n) (by omega)
    have h1 := h.num
    have h2 := h.len
    have hl : (S.I.take k).length = k := by rw [List.length_take]; omega
    have hld : (S.I.drop k).length = S.I.length - k := List.length_drop ..
    rw [← List.take_append_drop k S.I, List.map_append, NumL.app, List.length_map, hl, List.take_append_drop] at h1
    refine ⟨?_, ?_⟩
    · dsimp only
      rw [hkp, List.map_append, NumL.app, List.length_map, List.length_append, newsQ_len, hld]
      refine ⟨?_, ?_⟩
      · have := h1.2
        rw [show S.g + (putsL (curQ S.ws n).1 : Nat) + 1 - ((S.I.length - k + putsL (curQ S.ws n).1 : Nat) : Int) = S.g + 1 - (S.I.length : Nat) + (k : Nat) by omega]
        exact this
      · have := newsQ_num (curQ S.ws n).1 S.g
        rw [show S.g + (putsL (curQ S.ws n).1 : Nat) + 1 - ((S.I.length - k + putsL (curQ S.ws n).1 : Nat) : Int) + ((S.I.length - k : Nat) : Int) = S.g + 1 by omega]
        exact this
    · dsimp only
      rw [hkp, List.length_append, newsQ_len, hld]
      omega
theorem QN.back (h : QN S) (n : Int) : QN (backM S n).2 := by
  unfold backM
  split
  · exact h
  · exact h.same (freeI_n _ _) rfl
theorem QN.rest (h : QN S) (n : Int) (l : List Ch) : QN (restM S n l).2 := by
  unfold restM
  split
  · exact h
  · split
    · exact h
    · split
      · exact h
      · split
        · exact h
        · split
          · exact h
          · exact h.same (givenI_n _ _ _) rfl
end
def clr (x : IT) : IT := { x with t := 0 }
theorem loadF_of : ∀ (L : List IT) (k : Int), NumL k (L.map IT.n) → loadF k (L.map IT.v) = L.map clr
  | [], k, _ => rfl
  | x :: r, k, h => by
    obtain ⟨h1, h2⟩ := h
    have : loadF k ((x :: r).map IT.v) = ⟨k, x.v, 0⟩ :: loadF (k + 1) (r.map IT.v) := rfl
    rw [this, loadF_of r (k + 1) h2, List.map_cons]
    congr 1
    unfold clr
    rw [← h1]
theorem clr_v (L : List IT) : (L.map clr).map IT.v = L.map IT.v := by rw [List.map_map]; rfl
theorem fits_clr : ∀ (l : List Ch) (L : List IT), kdOk l → (∃ k, tkL l = (L.take k).map chOf ∧ k ≤ L.length) → fitsQ (L.map clr) l = true
  | [], L, _, _ => by cases L <;> rfl
  | x :: r, L, hk, ⟨k, h1, h2⟩ => by
    have hkr : kdOk r := fun y hy => hk y (List.mem_cons_of_mem _ hy)
    rcases hk x (List.mem_cons_self ..) with ⟨e, ey⟩ | e
    · have ht : tkL (x :: r) = tkL r := by unfold tkL; rw [List.filter_cons, if_neg (by simp [e])]
      rw [ht] at h1
      have ih := fits_clr r L hkr ⟨k, h1, h2⟩
      unfold fitsQ
      rw [if_pos e, ih, ey]; rfl
    · have ht : tkL (x :: r) = x :: tkL r := by unfold tkL; rw [List.filter_cons, if_pos (by simp [e])]
      rw [ht] at h1
      cases k with
      | zero => simp at h1
      | succ k =>
        cases L with
        | nil => simp at h1
        | cons i L' =>
          rw [List.take_succ_cons, List.map_cons] at h1
          injection h1 with h3 h4
          have ih := fits_clr r L' hkr ⟨k, h4, by simpa using h2⟩
          unfold fitsQ
          rw [if_neg (by omega), if_pos e]
          show (eqIT (clr i).n (clr i).v (clr i).t x.y x.v 0 && fitsQ (L'.map clr) r) = true
          rw [ih, h3]
          simp [eqIT, clr, chOf]
theorem restores {S : QS} {n : Int} (hn : 1 ≤ n) (hr : QR S) (hq : QN S) (hok : QOk S) (hd : S.ws.Pairwise fun a b => a.n ≠ b.n) :
    ∃ U0 U1, loadM (QS.zero anyB) (S.I.map IT.v) (S.g + 1) = (0, U0) ∧ restM U0 n (curQ S.ws n).1 = (0, U1) ∧ U1.B = anyB ∧ QOk U0 ∧ QOk U1 ∧ (lookQ U1.ws n).isSome = decide (0 < (curQ S.ws n).1.length) ∧ U1.I.map IT.v = S.I.map IT.v ∧
      ((commitM U1 n).2.I.map IT.v = (commitM S n).2.I.map IT.v ∧ (commitM U1 n).2.g = (commitM S n).2.g) ∧ ((backM U1 n).2.I.map IT.v = (backM S n).2.I.map IT.v ∧ (backM U1 n).2.g = (backM S n).2.g) := by
  obtain ⟨k, hk, hby, hkp⟩ := hr.front hn
  obtain ⟨l, hl⟩ : ∃ l, l = (curQ S.ws n).1 := ⟨_, rfl⟩
  have htk := hr.tk n hn
  have hkd := hr.kd n
  have hpu := putsW_others S.ws n hd
  have hcm : commitM S n = (0, { S with I := keptI S.I n ++ newsQ S.g l, g := S.g + (putsL l : Nat), ws := othersQ S.ws n }) := by unfold commitM; rw [if_neg (by omega), hl]
  have hbm : backM S n = (0, { S with I := S.I.map (freeI n), ws := othersQ S.ws n }) := by unfold backM; rw [if_neg (by omega)]
  rw [← hl] at htk hkd hpu ⊢
  rw [hby] at htk
  have hroom := hok.room
  have hlast := hok.last
  have hg0 := hok.g0
  have hll : l.length - putsL l = k := by
    have := tk_len l hkd
    rw [htk, List.length_map, List.length_take] at this
    omega
  have hlo : loadM (QS.zero anyB) (S.I.map IT.v) (S.g + 1) = (0, { QS.zero anyB with I := S.I.map clr, g := S.g }) := by
    unfold loadM
    rw [if_neg (by simp [QS.zero]), if_neg (by rw [List.length_map]; have := hq.len; omega), List.length_map, loadF_of S.I _ hq.num, show S.g + 1 - 1 = S.g by omega]
  have hok0 : QOk { QS.zero anyB with I := S.I.map clr, g := S.g } := by
    have := (QOk.zero anyB).load (S.I.map IT.v) (S.g + 1)
    rw [hlo] at this
    exact this
  have hz : ∀ x ∈ S.I.map clr, x.t = 0 := fun x hx => by obtain ⟨y, _, rfl⟩ := List.mem_map.1 hx; rfl
  have hfv : ∀ L : List IT, (L.map (freeI n)).map IT.v = L.map IT.v := fun L => by
    rw [List.map_map]
    refine List.map_congr_left fun x _ => ?_
    simp only [Function.comp]
    unfold freeI; split <;> rfl
  have hrm : roomQ { QS.zero anyB with I := S.I.map clr, g := S.g } = min (16 - (S.I.length : Int)) (4611686018427387904 - (S.g + 1)) := by
    unfold roomQ
    dsimp only [QS.zero]
    rw [List.length_map]
    show min (16 - (S.I.length : Int) - ((0 : Nat) : Int)) (4611686018427387904 - (S.g + 1) - ((0 : Nat) : Int)) = _
    congr 1 <;> omega
  have hfit : fitsQ (S.I.map clr) l = true := fits_clr l S.I hkd ⟨k, htk, hk⟩
  by_cases h0 : l = []
  · have hr0 : restM { QS.zero anyB with I := S.I.map clr, g := S.g } n l = (0, { QS.zero anyB with I := S.I.map clr, g := S.g }) := by
      unfold restM
      rw [if_neg (by omega), if_neg (by dsimp only; rw [hfit]; simp), if_neg (by rw [hrm]; omega), if_neg (by simp [QS.zero, lookQ, findQ]), if_pos h0]
    have hk0 : k = 0 := by rw [h0] at hll; simpa using hll.symm
    refine ⟨_, _, hlo, hr0, rfl, hok0, hok0, by rw [h0]; rfl, clr_v _, ?_, ?_⟩
    · rw [hcm]
      unfold commitM
      rw [if_neg (by omega)]
      have e1 : (curQ ({ QS.zero anyB with I := S.I.map clr, g := S.g } : QS).ws n).1 = l := by rw [h0]; rfl
      rw [e1]
      refine ⟨?_, rfl⟩
      dsimp only
      rw [hkp, hk0, List.map_append, List.map_append, show keptI (S.I.map clr) n = S.I.map clr from List.filter_eq_self.2 fun x hx => by have := hz x hx; simp; omega, clr_v]
      rfl
    · rw [hbm]
      unfold backM
      rw [if_neg (by omega)]
      exact ⟨by dsimp only; rw [hfv, hfv, clr_v], rfl⟩
  · have hr0 : restM { QS.zero anyB with I := S.I.map clr, g := S.g } n l = (0, { QS.zero anyB with I := givenI (S.I.map clr) n k, g := S.g, ws := layQ [] n l true }) := by
      unfold restM
      rw [if_neg (by omega), if_neg (by dsimp only; rw [hfit]; simp), if_neg (by rw [hrm]; omega), if_neg (by simp [QS.zero, lookQ, findQ]), if_neg h0, hll]
      rfl
    have hcu : (curQ (layQ [] n l true) n) = (l, true) := by rw [curQ_lay, if_pos rfl]
    have hok1 := hok0.rest List.Pairwise.nil n l
    rw [hr0] at hok1
    have hg : givenI (S.I.map clr) n k = ((S.I.map clr).take k).map (fun x => { x with t := n }) ++ (S.I.map clr).drop k := rfl
    have hkg : keptI (givenI (S.I.map clr) n k) n = (S.I.map clr).drop k := by
      rw [hg]
      unfold keptI
      rw [List.filter_append]
      have e1 : List.filter (fun x : IT => decide (x.t ≠ n)) (((S.I.map clr).take k).map (fun x => { x with t := n })) = [] := List.filter_eq_nil_iff.2 fun x hx => by
        obtain ⟨y, _, rfl⟩ := List.mem_map.1 hx; simp
      have e2 : List.filter (fun x : IT => decide (x.t ≠ n)) ((S.I.map clr).drop k) = (S.I.map clr).drop k := List.filter_eq_self.2 fun x hx => by
        have := hz x (List.mem_of_mem_drop hx); simp; omega
      rw [e1, e2]; rfl
    refine ⟨_, _, hlo, hr0, rfl, hok0, hok1, ?_, by dsimp only; rw [givenI_v, clr_v], ?_, ?_⟩
    · dsimp only
      rw [lookQ_lay, if_pos rfl]
      have : 0 < l.length := List.length_pos_iff.2 h0
      simp [this]
    · rw [hcm]
      unfold commitM
      rw [if_neg (by omega)]
      dsimp only
      rw [hcu, hkg, hkp]
      refine ⟨?_, rfl⟩
      dsimp only
      rw [List.map_append, List.map_append]
      congr 1
      rw [List.map_drop, clr_v, List.map_drop]
    · rw [hbm]
      unfold backM
      rw [if_neg (by omega)]
      exact ⟨by dsimp only; rw [hfv, hfv, givenI_v, clr_v], rfl⟩
end Go.Proofs.YtlliaihmfimdoaaGreat.Qu

namespace Go.Proofs.YtlliaihmfimdoaaGreat.Re
open Go.RowKit Go.Maps Go.Proofs.YtlliaihmfimdoaaGreat
set_option linter.unusedVariables false
set_option linter.unusedSimpArgs false

/-! ### the store -/
theorem getM_W (S : KS) (n y : Int) : (getM S n y).2.W = S.W ∧ (getM S n y).2.V = S.V := by
  unfold getM
  split
  · split <;> exact openM_W _ _ _ _
  · exact openM_W _ _ _ _
theorem changeM_V (S : KS) (n : Int) (x : Ch) : (changeM S n x).2.V = S.V := by unfold changeM; split <;> exact openM_V S n x.y true
theorem prepM_V (S : KS) (n : Int) : (prepM S n).2.V = S.V := by
  unfold prepM
  split
  · rfl
  · split
    · rfl
    · split <;> rfl
theorem backoutM_V (S : KS) (n : Int) : (backoutM S n).2.V = S.V := by unfold backoutM; split <;> rfl
theorem restoreM_V (S : KS) (n : Int) (l : List Ch) : (restoreM S n l).2.V = S.V := by
  unfold restoreM
  split
  · rfl
  · split
    · rfl
    · split
      · rfl
      · split <;> rfl
theorem curW_same {S S' : KS} (h : S'.W = S.W) (m : Int) : curW S' m = curW S m := by unfold curW; rw [h]
theorem curW_up {S S' : KS} {n : Int} {o : Option (List Ch × Bool)} (h : S'.W = updW S.W n o) (m : Int) : curW S' m = if m = n then o.getD ([], false) else curW S m := by
  unfold curW
  rw [h]
  unfold updW
  split <;> rfl
theorem InvR.prep {S : KS} (h : InvR S) (n : Int) : InvR (prepM S n).2 := by
  unfold prepM
  split
  · exact h
  · split
    · exact h
    · split
      · exact h.same rfl
      · refine InvR.up (S := S) h (o := some ((curW S n).1, true)) (n := n) ?_ rfl
        rintro l p e
        injection e with e
        injection e with e _
        rw [← e]
        exact h.cur _
theorem InvR.commit {S : KS} (h : InvR S) (n : Int) : InvR (commitM S n).2 := by
  unfold commitM
  split
  · exact h
  · exact InvR.drop (h.same rfl) _
theorem InvR.back {S : KS} (h : InvR S) (n : Int) : InvR (backoutM S n).2 := by
  unfold backoutM
  split
  · exact h
  · exact h.drop _
theorem InvR.rest {S : KS} (h : InvR S) (n : Int) (lk : List Ch) : InvR (restoreM S n lk).2 := by
  unfold restoreM
  split
  · exact h
  · split
    · exact h
    · rename_i ha
      split
      · exact h
      · split
        · show InvR ⟨S.B, S.V, restW S n lk, (takeAll S.L n lk).2⟩
          unfold restW
          split
          · exact h
          · refine InvR.up (S := S) h (o := some (lk, true)) (n := n) ?_ rfl
            rintro l p e
            injection e with e
            injection e with e _
            rw [← e]
            exact (are_right lk _ (by simpa using ha)).2
        · exact h.same rfl
/-- What each call does to the store. -/
theorem callR_K {P : KS → Prop} (hget : ∀ K n y, P K → P (getM K n y).2) (hch : ∀ K n x, kindB x = true → P K → P (changeM K n x).2) (hpr : ∀ K n, P K → P (prepM K n).2) (hco : ∀ K n, P K → P (commitM K n).2) (hba : ∀ K n, P K → P (backoutM K n).2) (hre : ∀ K n l, P K → P (restoreM K n l).2) {S : RS} (h : P S.K) (o : OpV) : P (callR S o).2.K := by
  unfold callR
  split
  · unfold getR; split
    · exact h
    · exact hget _ _ _ h
  split
  · unfold putR; split
    · exact h
    · exact hch _ _ _ rfl h
  split
  · unfold delR; split
    · exact h
    · exact hch _ _ _ rfl h
  split
  · unfold pushR; split <;> exact h
  split
  · unfold popR; split <;> exact h
  split
  · unfold prepR; split
    · exact h
    · unfold holdR; split <;> exact hpr _ _ h
  split
  · unfold commitR; split
    · exact h
    · exact hco _ _ h
  split
  · unfold backR; split
    · exact h
    · exact hba _ _ h
  split
  · unfold restoreR; split
    · exact h
    · split
      · exact h
      · split
        · exact hre _ _ _ h
        · split
          · exact hba _ _ (hre _ _ _ h)
          · unfold holdR; split <;> exact hre _ _ _ h
  · exact h
theorem callR_z {S : RS} (h : InvR S.K ∧ InvZ S.K.V) (o : OpV) : InvR (callR S o).2.K ∧ InvZ (callR S o).2.K.V := by
  refine callR_K (P := fun K => InvR K ∧ InvZ K.V) ?_ ?_ ?_ ?_ ?_ ?_ h o
  · intro K n y hK
    exact ⟨hK.1.same (getM_W K n y).1, by rw [(getM_W K n y).2]; exact hK.2⟩
  · intro K n x hx hK
    exact ⟨hK.1.change n x hx, by rw [changeM_V]; exact hK.2⟩
  · intro K n hK
    exact ⟨hK.1.prep n, by rw [prepM_V]; exact hK.2⟩
  · intro K n hK
    refine ⟨hK.1.commit n, ?_⟩
    unfold commitM
    split
    · exact hK.2
    · exact InvZ.fold _ _ (fun x hx => ((hK.1.cur n).1 x hx).1) hK.2
  · intro K n hK
    exact ⟨hK.1.back n, by rw [backoutM_V]; exact hK.2⟩
  · intro K n l hK
    exact ⟨hK.1.rest n l, by rw [restoreM_V]; exact hK.2⟩
theorem callR_qn {S : RS} (h : Qu.QN S.Q) (hr : Qu.QR S.Q) (o : OpV) : Qu.QN (callR S o).2.Q := by
  unfold callR
  split
  · unfold getR; split <;> exact h
  split
  · unfold putR; split <;> exact h
  split
  · unfold delR; split <;> exact h
  split
  · unfold pushR; split
    · exact h
    · exact h.put _ _
  split
  · unfold popR; split
    · exact h
    · exact h.take _
  split
  · show Qu.QN (prepR S o.n).2.Q
    rw [prepR_Q]; split
    · exact h
    · exact h.prep _
  split
  · unfold commitR; split
    · exact h
    · exact h.commit hr _
  split
  · unfold backR; split
    · exact h
    · exact h.back _
  split
  · unfold restoreR; split
    · exact h
    · split
      · exact h
      · split
        · exact h
        · split
          · exact h.rest _ _
          · show Qu.QN (holdR _ _ _).Q
            rw [holdR_Q]
            exact h.rest _ _
  · exact h
/-! ### what is prepared is known as such -/
def EmpP (x : List Ch × Bool) : Prop := x.2 = true → x.1 = []
def PI (S : RS) : Prop := ∀ n, n ∉ S.pr → EmpP (curW S.K n) ∧ EmpP (Qu.curQ S.Q.ws n)
theorem EmpP.no {x : List Ch × Bool} (h : x.2 = false) : EmpP x := fun e => by rw [h] at e; cases e
theorem PI.K {S : RS} (h : PI S) {K : KS} (hK : ∀ m, m ∉ S.pr → curW K m = curW S.K m ∨ EmpP (curW K m)) : PI { S with K := K } := fun n hn => by
  refine ⟨?_, (h n hn).2⟩
  rcases hK n hn with e | e
  · show EmpP (curW K n); rw [e]; exact (h n hn).1
  · exact e
theorem PI.Q {S : RS} (h : PI S) {Q : Qu.QS} (hQ : ∀ m, m ∉ S.pr → Qu.curQ Q.ws m = Qu.curQ S.Q.ws m ∨ EmpP (Qu.curQ Q.ws m)) : PI { S with Q := Q } := fun n hn => by
  refine ⟨(h n hn).1, ?_⟩
  rcases hQ n hn with e | e
  · show EmpP (Qu.curQ Q.ws n); rw [e]; exact (h n hn).2
  · exact e
theorem changeM_cur (S : KS) (n : Int) (x : Ch) (m : Int) : curW (changeM S n x).2 m = curW S m ∨ EmpP (curW (changeM S n x).2 m) := by
  unfold changeM
  split
  · rw [curW_up (S := S) (S' := { (openM S n x.y true).2 with W := updW S.W n (some (withL (curW S n).1 x, false)) }) rfl m]
    split
    · exact .inr (EmpP.no rfl)
    · exact .inl rfl
  · exact .inl (curW_same (openM_W S n x.y true).1 m)
theorem putM_cur (S : Qu.QS) (n : Int) (v : Nat) (m : Int) : Qu.curQ (Qu.putM S n v).2.ws m = Qu.curQ S.ws m ∨ EmpP (Qu.curQ (Qu.putM S n v).2.ws m) := by
  unfold Qu.putM
  split
  · exact .inl rfl
  · rename_i h0
    split
    · exact .inl rfl
    · dsimp only
      unfold Qu.addQ
      rw [Qu.curQ_lay]
      split
      · refine .inr (EmpP.no ?_)
        unfold Qu.openE at h0
        by_cases h1 : n < 1
        · rw [if_pos h1] at h0; exact absurd h0 (by decide)
        · rw [if_neg h1] at h0
          rcases h2 : (Qu.curQ S.ws n).2 with _ | _
          · rfl
          · rw [h2] at h0; exact absurd h0 (by decide)
      · exact .inl rfl
theorem takeM_cur (S : Qu.QS) (n : Int) (m : Int) : Qu.curQ (Qu.takeM S n).2.ws m = Qu.curQ S.ws m ∨ EmpP (Qu.curQ (Qu.takeM S n).2.ws m) := by
  unfold Qu.takeM
  split
  · exact .inl rfl
  · rename_i h0
    split
    · exact .inl rfl
    · split
      · dsimp only
        unfold Qu.addQ
        rw [Qu.curQ_lay]
        split
        · refine .inr (EmpP.no ?_)
          unfold Qu.openE at h0
          by_cases h1 : n < 1
          · rw [if_pos h1] at h0; exact absurd h0 (by decide)
          · rw [if_neg h1] at h0
            rcases h2 : (Qu.curQ S.ws n).2 with _ | _
            · rfl
            · rw [h2] at h0; exact absurd h0 (by decide)
        · exact .inl rfl
      · exact .inl rfl
theorem prepM_cur (S : KS) (n : Int) : (∀ m, m ≠ n → curW (prepM S n).2 m = curW S m) ∧ ((curW (prepM S n).2 n = curW S n ∧ (prepM S n).1.1 = [] ∧ ((curW S n).2 = true ∨ n < 1 ∨ (curW S n).1 = [])) ∨ (curW (prepM S n).2 n = ((curW S n).1, true) ∧ (prepM S n).1.1 = (curW S n).1)) := by
  unfold prepM
  split
  · rename_i h; exact ⟨fun m _ => rfl, .inl ⟨rfl, rfl, .inr (.inl h)⟩⟩
  · split
    · rename_i h; exact ⟨fun m _ => rfl, .inl ⟨rfl, rfl, .inl h⟩⟩
    · split
      · rename_i h
        refine ⟨fun m _ => curW_same rfl m, .inl ⟨curW_same rfl n, rfl, .inr (.inr ?_)⟩⟩
        have : S.W n = none := by simpa using h
        unfold curW
        rw [this]
        rfl
      · refine ⟨fun m hm => ?_, .inr ⟨?_, rfl⟩⟩
        · dsimp only
          rw [curW_up (S := S) (S' := { S with W := updW S.W n (some ((curW S n).1, true)) }) rfl m, if_neg hm]
        · dsimp only
          rw [curW_up (S := S) (S' := { S with W := updW S.W n (some ((curW S n).1, true)) }) rfl n, if_pos rfl]
          rfl
theorem qprepM_cur (S : Qu.QS) (n : Int) : (∀ m, m ≠ n → Qu.curQ (Qu.prepM S n).2.ws m = Qu.curQ S.ws m) ∧ ((Qu.curQ (Qu.prepM S n).2.ws n = Qu.curQ S.ws n ∧ (Qu.prepM S n).1.1 = [] ∧ ((Qu.curQ S.ws n).2 = true ∨ n < 1 ∨ (Qu.curQ S.ws n).1 = [])) ∨ (Qu.curQ (Qu.prepM S n).2.ws n = ((Qu.curQ S.ws n).1, true) ∧ (Qu.prepM S n).1.1 = (Qu.curQ S.ws n).1)) := by
  unfold Qu.prepM
  split
  · rename_i h
    refine ⟨fun m _ => rfl, .inl ⟨rfl, rfl, ?_⟩⟩
    unfold Qu.openE at h
    by_cases h1 : n < 1
    · exact .inr (.inl h1)
    · rw [if_neg h1] at h
      by_cases h2 : (Qu.curQ S.ws n).2 = true
      · exact .inl h2
      · rw [if_neg h2] at h; exact absurd rfl h
  · split
    · rename_i h
      refine ⟨fun m _ => rfl, .inl ⟨rfl, rfl, .inr (.inr ?_)⟩⟩
      have : Qu.lookQ S.ws n = none := by simpa using h
      unfold Qu.curQ
      rw [this]
      rfl
    · refine ⟨fun m hm => ?_, .inr ⟨?_, rfl⟩⟩
      · dsimp only; rw [Qu.curQ_lay, if_neg hm]
      · dsimp only; rw [Qu.curQ_lay, if_pos rfl]
theorem PI.prep {S : RS} (h : PI S) (n : Int) : PI (prepR S n).2 := by
  unfold prepR
  split
  · exact h
  · rename_i ho
    have hk := prepM_cur S.K n
    have hq := qprepM_cur S.Q n
    have hn : n ∉ S.pr := by
      unfold openR at ho
      by_cases h1 : n < 1
      · rw [if_pos h1] at ho; exact absurd (by decide) ho
      · rw [if_neg h1] at ho
        by_cases h2 : n ∈ S.pr
        · rw [if_pos h2] at ho; exact absurd (by decide) ho
        · exact h2
    intro m hm
    by_cases e : m = n
    · subst e
      unfold holdR at hm ⊢
      dsimp only at hm ⊢
      by_cases hl : 0 < ((prepM S.K m).1.1 ++ (Qu.prepM S.Q m).1.1).length
      · rw [if_pos hl] at hm
        exact absurd (List.mem_append.2 (.inr (List.mem_singleton.2 rfl))) hm
      · rw [if_neg hl]
        have hl0 : (prepM S.K m).1.1 = [] ∧ (Qu.prepM S.Q m).1.1 = [] := by
          rw [List.length_append] at hl
          exact ⟨List.eq_nil_of_length_eq_zero (by omega), List.eq_nil_of_length_eq_zero (by omega)⟩
        refine ⟨?_, ?_⟩
        · rcases hk.2 with ⟨e1, _⟩ | ⟨e1, e2⟩
          · show EmpP (curW (prepM S.K m).2 m); rw [e1]; exact (h m hn).1
          · show EmpP (curW (prepM S.K m).2 m); rw [e1]; exact fun _ => e2.symm.trans hl0.1
        · rcases hq.2 with ⟨e1, _⟩ | ⟨e1, e2⟩
          · show EmpP (Qu.curQ (Qu.prepM S.Q m).2.ws m); rw [e1]; exact (h m hn).2
          · show EmpP (Qu.curQ (Qu.prepM S.Q m).2.ws m); rw [e1]; exact fun _ => e2.symm.trans hl0.2
    · have hm' : m ∉ S.pr := by
        unfold holdR at hm
        split at hm
        · exact fun hx => hm (List.mem_append.2 (.inl hx))
        · exact hm
      have e1 : (holdR ⟨(prepM S.K n).2, (Qu.prepM S.Q n).2, S.pr⟩ n ((prepM S.K n).1.1 ++ (Qu.prepM S.Q n).1.1).length).K = (prepM S.K n).2 := by unfold holdR; split <;> rfl
      have e2 := holdR_Q ⟨(prepM S.K n).2, (Qu.prepM S.Q n).2, S.pr⟩ n ((prepM S.K n).1.1 ++ (Qu.prepM S.Q n).1.1).length
      dsimp only
      rw [e1, e2, hk.1 m e]
      dsimp only
      rw [hq.1 m e]
      exact h m hm'
theorem PI.gone {S : RS} (h : PI S) {n : Int} {K : KS} {Q : Qu.QS} (hK : ∀ m, curW K m = if m = n then ([], false) else curW S.K m) (hQ : ∀ m, Qu.curQ Q.ws m = if m = n then ([], false) else Qu.curQ S.Q.ws m) : PI (dropS ⟨K, Q, S.pr⟩ n) := by
  intro m hm
  unfold dropS at hm ⊢
  dsimp only at hm ⊢
  rw [hK, hQ]
  by_cases e : m = n
  · rw [if_pos e, if_pos e]; exact ⟨EmpP.no rfl, EmpP.no rfl⟩
  · rw [if_neg e, if_neg e]
    refine h m fun hx => hm ?_
    unfold lessZ
    exact List.mem_filter.2 ⟨hx, by simpa using e⟩
theorem PI.rest {S : RS} (h : PI S) (n : Int) (l : List Ch) : PI (restoreR S n l).2 := by
  have hfail : ∀ lk, (restoreM S.K n lk).1 ≠ 0 → ∀ m, curW (restoreM S.K n lk).2 m = curW S.K m := by
    intro lk hne m
    unfold restoreM at hne ⊢
    by_cases h1 : n < 1
    · rw [if_pos h1]
    · rw [if_neg h1] at hne ⊢
      by_cases h2 : areB (fun _ => false) lk = false
      · rw [if_pos h2]
      · rw [if_neg h2] at hne ⊢
        by_cases h3 : busyB S.K n = true
        · rw [if_pos h3]
        · rw [if_neg h3] at hne ⊢
          by_cases h4 : (takeAll S.K.L n lk).1 = 0
          · rw [if_pos h4] at hne; exact absurd rfl hne
          · rw [if_neg h4]; exact curW_same rfl m
  have hok : ∀ lk, (restoreM S.K n lk).1 = 0 → busyB S.K n = false ∧ (∀ m, m ≠ n → curW (restoreM S.K n lk).2 m = curW S.K m) ∧ (lk = [] → curW (restoreM S.K n lk).2 n = curW S.K n) := by
    intro lk he
    unfold restoreM at he ⊢
    by_cases h1 : n < 1
    · rw [if_pos h1] at he; exact absurd (show (1 : Int) = 0 from he) (by decide)
    · rw [if_neg h1] at he ⊢
      by_cases h2 : areB (fun _ => false) lk = false
      · rw [if_pos h2] at he; exact absurd (show (1 : Int) = 0 from he) (by decide)
      · rw [if_neg h2] at he ⊢
        by_cases h3 : busyB S.K n = true
        · rw [if_pos h3] at he; exact absurd (show (7 : Int) = 0 from he) (by decide)
        · rw [if_neg h3] at he ⊢
          by_cases h4 : (takeAll S.K.L n lk).1 = 0
          · rw [if_pos h4]
            refine ⟨by simpa using h3, fun m hm => ?_, fun e => ?_⟩
            · dsimp only
              unfold restW
              split
              · exact curW_same rfl m
              · rw [curW_up (S := S.K) (S' := { S.K with L := (takeAll S.K.L n lk).2, W := updW S.K.W n (some (lk, true)) }) rfl m, if_neg hm]
            · dsimp only
              unfold restW
              rw [if_pos e]
              exact curW_same rfl n
          · rw [if_neg h4] at he; exact absurd he h4
  have qfail : ∀ lq, (Qu.restM S.Q n lq).1 ≠ 0 → (Qu.restM S.Q n lq).2 = S.Q := by
    intro lq hne
    unfold Qu.restM at hne ⊢
    split
    · rfl
    · split
      · rfl
      · split
        · rfl
        · split
          · rfl
          · split
            · rfl
            · rename_i h1 h2 h3 h4 h5
              rw [if_neg h1, if_neg h2, if_neg h3, if_neg h4, if_neg h5] at hne
              exact absurd rfl hne
  have qok : ∀ lq, (∀ m, m ≠ n → Qu.curQ (Qu.restM S.Q n lq).2.ws m = Qu.curQ S.Q.ws m) ∧ (lq = [] → Qu.curQ (Qu.restM S.Q n lq).2.ws n = Qu.curQ S.Q.ws n) := by
    intro lq
    unfold Qu.restM
    split
    · exact ⟨fun _ _ => rfl, fun _ => rfl⟩
    · split
      · exact ⟨fun _ _ => rfl, fun _ => rfl⟩
      · split
        · exact ⟨fun _ _ => rfl, fun _ => rfl⟩
        · split
          · exact ⟨fun _ _ => rfl, fun _ => rfl⟩
          · split
            · exact ⟨fun _ _ => rfl, fun _ => rfl⟩
            · rename_i h5
              exact ⟨fun m hm => by dsimp only; rw [Qu.curQ_lay, if_neg hm], fun e => absurd e h5⟩
  unfold restoreR
  split
  · exact h
  · rename_i hn1
    split
    · exact h
    · split
      · rename_i hne
        exact h.K fun m _ => .inl (hfail _ hne m)
      · rename_i hke
        have hk0 : (restoreM S.K n (l.take (endK l))).1 = 0 := by simpa using hke
        obtain ⟨hbz, k1, k2⟩ := hok _ hk0
        split
        · rename_i hqe
          rw [qfail _ hqe]
          refine h.K fun m _ => ?_
          have e : ∀ m, curW (backoutM (restoreM S.K n (l.take (endK l))).2 n).2 m = if m = n then ([], false) else curW (restoreM S.K n (l.take (endK l))).2 m := fun m => by
            unfold backoutM
            rw [if_neg hn1]
            exact curW_up (S := (restoreM S.K n (l.take (endK l))).2) (S' := dropM (restoreM S.K n (l.take (endK l))).2 n) rfl m
          rw [e]
          by_cases hm : m = n
          · rw [if_pos hm]; exact .inr (EmpP.no rfl)
          · rw [if_neg hm]; exact .inl (k1 m hm)
        · obtain ⟨q1, q2⟩ := qok (l.drop (endK l))
          intro m hm
          have e1 : (holdR ⟨(restoreM S.K n (l.take (endK l))).2, (Qu.restM S.Q n (l.drop (endK l))).2, S.pr⟩ n l.length).K = (restoreM S.K n (l.take (endK l))).2 := by unfold holdR; split <;> rfl
          have e2 := holdR_Q ⟨(restoreM S.K n (l.take (endK l))).2, (Qu.restM S.Q n (l.drop (endK l))).2, S.pr⟩ n l.length
          dsimp only at hm ⊢
          rw [e1, e2]
          dsimp only
          by_cases e : m = n
          · subst e
            unfold holdR at hm
            by_cases hl : 0 < l.length
            · rw [if_pos hl] at hm
              exact absurd (List.mem_append.2 (.inr (List.mem_singleton.2 rfl))) hm
            · rw [if_neg hl] at hm
              have hl0 : l = [] := List.eq_nil_of_length_eq_zero (by omega)
              rw [k2 (by rw [hl0]; exact List.take_nil), q2 (by rw [hl0]; exact List.drop_nil)]
              exact h m hm
          · have hm' : m ∉ S.pr := by
              unfold holdR at hm
              split at hm
              · exact fun hx => hm (List.mem_append.2 (.inl hx))
              · exact hm
            rw [k1 m e, q1 m e]
            exact h m hm'
theorem PI.call {S : RS} (h : PI S) (o : OpV) : PI (callR S o).2 := by
  unfold callR
  split
  · unfold getR; split
    · exact h
    · exact h.K fun m _ => .inl (curW_same (getM_W _ _ _).1 m)
  split
  · unfold putR; split
    · exact h
    · exact h.K fun m _ => changeM_cur _ _ _ m
  split
  · unfold delR; split
    · exact h
    · exact h.K fun m _ => changeM_cur _ _ _ m
  split
  · unfold pushR; split
    · exact h
    · exact h.Q fun m _ => putM_cur _ _ _ m
  split
  · unfold popR; split
    · exact h
    · exact h.Q fun m _ => takeM_cur _ _ m
  split
  · exact h.prep _
  split
  · unfold commitR; split
    · exact h
    · rename_i hn
      refine h.gone (fun m => ?_) (fun m => ?_)
      · unfold commitM
        rw [if_neg hn]
        exact curW_up (S := S.K) (S' := dropM { S.K with V := (curW S.K o.n).1.foldl setV S.K.V } o.n) rfl m
      · unfold Qu.commitM
        rw [if_neg hn]
        exact Qu.curQ_others _ _ _
  split
  · unfold backR; split
    · exact h
    · rename_i hn
      refine h.gone (fun m => ?_) (fun m => ?_)
      · unfold backoutM
        rw [if_neg hn]
        exact curW_up (S := S.K) (S' := dropM S.K o.n) rfl m
      · unfold Qu.backM
        rw [if_neg hn]
        exact Qu.curQ_others _ _ _
  split
  · exact h.rest _ _
  · exact h
/-! ### what was played -/
structure RInv (S : RS) : Prop where
  qr : Qu.QR S.Q
  qn : Qu.QN S.Q
  r : InvR S.K
  z : InvZ S.K.V
  p : PI S
theorem RInv.play (ops : List OpV) : RInv (playR ops) := by
  have : ∀ (l : List OpV) (S : RS), RInv S → RInv (l.foldl stepR S) := by
    intro l
    induction l with
    | nil => intro S h; exact h
    | cons o l ih =>
      intro S h
      refine ih _ ?_
      unfold stepR
      split
      · have hz := callR_z ⟨h.r, h.z⟩ o
        have hp := h.p.call o
        exact ⟨(callR_qr h.qr o).rebase, (callR_qn h.qn h.qr o).same rfl rfl, hz.1.same rfl, hz.2, fun n hn => hp n hn⟩
      · exact h
  exact this _ _ ⟨Qu.QR.zero anyB, ⟨trivial, Int.le_refl _⟩, (fun n l p e => by cases e), fun k _ => rfl, fun n _ => ⟨EmpP.no rfl, EmpP.no rfl⟩⟩
end Go.Proofs.YtlliaihmfimdoaaGreat.Re

namespace Go.Proofs.YtlliaihmfimdoaaGreat.Re
open Go.RowKit Go.Maps Go.Proofs.YtlliaihmfimdoaaGreat
set_option linter.unusedVariables false
set_option linter.unusedSimpArgs false

theorem valM_nat (S : KS) (k : Nat) (hk : k < 16) : valM S k = S.V k := by
  unfold valM
  rw [if_pos (by unfold keyB; simp; omega), Int.toNat_natCast]
theorem imP_same {S S' : KS} (h : ∀ k, k < 16 → S.V k = S'.V k) : ∀ k, k ≤ 16 → imP S k = imP S' k
  | 0, _ => rfl
  | k + 1, hk => by
    unfold imP
    rw [imP_same h k (by omega), valM_nat S k (by omega), valM_nat S' k (by omega), h k (by omega)]
theorem imP_key (S : KS) : ∀ (k : Nat) (p : Int × Nat), p ∈ imP S k → 0 ≤ p.1 ∧ p.1 < k
  | 0, p, h => by cases h
  | k + 1, p, h => by
    unfold imP at h
    rcases List.mem_append.1 h with h | h
    · have := imP_key S k p h; omega
    · split at h
      · obtain rfl := List.mem_singleton.1 h
        dsimp only
        omega
      · cases h
theorem ris_snoc : ∀ (P : List (Int × Nat)) (lo y : Int) (v : Nat), risF lo P = true → (∀ p ∈ P, p.1 < y) → lo ≤ y → y < 16 → risF lo (P ++ [(y, v)]) = true
  | [], lo, y, v, _, _, h1, h2 => by
    show (if y < lo ∨ 16 ≤ y then false else risF (y + 1) []) = true
    rw [if_neg (by omega)]; rfl
  | p :: r, lo, y, v, h, hp, h1, h2 => by
    have hr : (if p.1 < lo ∨ 16 ≤ p.1 then false else risF (p.1 + 1) r) = true := h
    show (if p.1 < lo ∨ 16 ≤ p.1 then false else risF (p.1 + 1) (r ++ [(y, v)])) = true
    by_cases e : p.1 < lo ∨ 16 ≤ p.1
    · rw [if_pos e] at hr; cases hr
    · rw [if_neg e] at hr ⊢
      have := hp p (List.mem_cons_self ..)
      exact ris_snoc r (p.1 + 1) y v hr (fun z hz => hp z (List.mem_cons_of_mem _ hz)) (by omega) h2
theorem ris_imP (S : KS) : ∀ k, k ≤ 16 → risF 0 (imP S k) = true
  | 0, _ => rfl
  | k + 1, hk => by
    unfold imP
    split
    · exact ris_snoc _ 0 k _ (ris_imP S k (by omega)) (fun p hp => (imP_key S k p hp).2) (by omega) (by omega)
    · rw [List.append_nil]; exact ris_imP S k (by omega)
theorem zero_Tl : KS.zero anyB = Tl [] := by
  have hW : (fun _ => none : Int → Option (List Ch × Bool)) = fun j => if j = 1 then (if ([] : List Ch).isEmpty then none else some ([], false)) else none := by
    funext j
    split <;> rfl
  show KS.mk anyB (fun _ => (0, false)) (fun _ => none) [] = KS.mk anyB zeroV _ (rowL 1 [])
  rw [hW]
  rfl
theorem putsR_app (S : RS) (P P' : List (Int × Nat)) : putsR S (P ++ P') = putsR (putsR S P) P' := by unfold putsR; rw [List.foldl_append]
theorem putsR_imP (K : KS) (Q : Qu.QS) : ∀ k, k ≤ 16 → putsR ⟨KS.zero anyB, Q, []⟩ (imP K k) = ⟨Tl (listV K.V k), Q, []⟩
  | 0, _ => by rw [zero_Tl]; rfl
  | k + 1, hk => by
    unfold imP
    rw [putsR_app, putsR_imP K Q k (by omega), valM_nat K k (by omega)]
    rcases hv : (K.V k).2 with _ | _
    · rw [if_neg (by simp), listV_no hv]; rfl
    · rw [if_pos rfl]
      have hc := change_listV (V := K.V) (j := k) (by omega) hv
      show (putR ⟨Tl (listV K.V k), Q, []⟩ 1 (k : Int) (K.V k).1).2 = _
      have ho : openR ⟨Tl (listV K.V k), Q, []⟩ 1 = 0 := by unfold openR; rw [if_neg (by omega), if_neg (by simp)]
      unfold putR
      rw [if_neg (by rw [ho]; simp)]
      dsimp only
      rw [hc]
def lodQ (Q : Qu.QS) : Qu.QS := { Qu.QS.zero anyB with I := Q.I.map Qu.clr, g := Q.g }
theorem lodQ_commit (Q : Qu.QS) : (Qu.commitM (lodQ Q) 1).2 = lodQ Q := by
  have hk : Qu.keptI (Q.I.map Qu.clr) 1 = Q.I.map Qu.clr := by
    unfold Qu.keptI
    refine List.filter_eq_self.2 fun x hx => ?_
    obtain ⟨y, _, rfl⟩ := List.mem_map.1 hx
    simp [Qu.clr]
  unfold Qu.commitM
  rw [if_neg (by omega)]
  show ({ Qu.QS.zero anyB with I := Qu.keptI (Q.I.map Qu.clr) 1 ++ [], g := Q.g + ((0 : Nat) : Int), ws := [] } : Qu.QS) = _
  rw [hk, List.append_nil]
  unfold lodQ
  simp [Qu.QS.zero]
theorem load_lodQ {Q : Qu.QS} (hq : Qu.QN Q) (hok : Qu.QOk Q) : Qu.loadM (Qu.QS.zero anyB) (Q.I.map Qu.IT.v) (Q.g + 1) = (0, lodQ Q) := by
  have hroom := hok.room
  have hlast := hok.last
  have hg0 := hok.g0
  unfold Qu.loadM
  rw [if_neg (by simp [Qu.QS.zero]), if_neg (by rw [List.length_map]; have := hq.len; omega), List.length_map, Qu.loadF_of Q.I _ hq.num, show Q.g + 1 - 1 = Q.g by omega]
  rfl
/-- What is loaded of an image. -/
def lodR (S : RS) : RS := ⟨T0 ((listV S.K.V 16).foldl setV zeroV), lodQ S.Q, []⟩
theorem load_back {S : RS} (hq : Qu.QN S.Q) (hok : Qu.QOk S.Q) : loadE (imP S.K 16) (S.Q.I.map Qu.IT.v) (S.Q.g + 1) = 0 ∧ loadR (imP S.K 16) (S.Q.I.map Qu.IT.v) (S.Q.g + 1) = lodR S := by
  have hN : loadN (S.Q.g + 1) (S.Q.I.map Qu.IT.v).length = S.Q.g + 1 := by
    have := hok.g0
    unfold loadN
    rw [if_neg (by omega)]
  have hl := load_lodQ hq hok
  refine ⟨?_, ?_⟩
  · unfold loadE
    rw [ris_imP S.K 16 (Nat.le_refl _), if_neg (by simp), hN, hl]
  · unfold loadR loadS
    rw [hN, hl]
    show (commitR (putsR ⟨KS.zero anyB, lodQ S.Q, []⟩ (imP S.K 16)) 1).2 = _
    rw [putsR_imP S.K (lodQ S.Q) 16 (Nat.le_refl _)]
    unfold commitR
    rw [if_neg (by omega)]
    dsimp only
    rw [commit_Tl, lodQ_commit]
    rfl
theorem lodR_im {S : RS} (hz : InvZ S.K.V) : imP (lodR S).K 16 = imP S.K 16 ∧ (lodR S).Q.I.map Qu.IT.v = S.Q.I.map Qu.IT.v ∧ (lodR S).Q.g = S.Q.g :=
  ⟨imP_same (fun k hk => (same_listV hz k hk).symm) 16 (Nat.le_refl _), Qu.clr_v _, rfl⟩
/-! ### done again -/
theorem prep_cur {S : RS} (h : PI S) {n : Int} (he : (prepR S n).1.2 = 0) : 1 ≤ n ∧ (prepR S n).1.1 = (curW (prepR S n).2.K n).1 ++ (Qu.curQ (prepR S n).2.Q.ws n).1 := by
  have ho : openR S n = 0 := by
    by_cases h0 : openR S n = 0
    · exact h0
    · unfold prepR at he; rw [if_pos h0] at he; exact absurd he h0
  obtain ⟨hn1, hnp⟩ := openR_zero ho
  obtain ⟨p1, p2⟩ := h n hnp
  have hk := (prepM_cur S.K n).2
  have hq := (qprepM_cur S.Q n).2
  have e1 : (holdR ⟨(prepM S.K n).2, (Qu.prepM S.Q n).2, S.pr⟩ n ((prepM S.K n).1.1 ++ (Qu.prepM S.Q n).1.1).length).K = (prepM S.K n).2 := by unfold holdR; split <;> rfl
  have e2 := holdR_Q ⟨(prepM S.K n).2, (Qu.prepM S.Q n).2, S.pr⟩ n ((prepM S.K n).1.1 ++ (Qu.prepM S.Q n).1.1).length
  refine ⟨hn1, ?_⟩
  unfold prepR
  rw [if_neg (by rw [ho]; simp)]
  dsimp only
  rw [e1, e2]
  dsimp only
  congr 1
  · rcases hk with ⟨a, b, c⟩ | ⟨a, b⟩
    · rw [a, b]
      rcases c with c | c | c
      · exact (p1 c).symm
      · omega
      · exact c.symm
    · rw [a, b]
  · rcases hq with ⟨a, b, c⟩ | ⟨a, b⟩
    · rw [a, b]
      rcases c with c | c | c
      · exact (p2 c).symm
      · omega
      · exact c.symm
    · rw [a, b]
theorem RInv.prep {S : RS} (h : RInv S) (n : Int) : RInv (prepR S n).2 := by
  have e1 : (prepR S n).2.K = S.K ∨ (prepR S n).2.K = (prepM S.K n).2 := by
    unfold prepR; split
    · exact .inl rfl
    · unfold holdR; split <;> exact .inr rfl
  refine ⟨?_, ?_, ?_, ?_, h.p.prep n⟩
  · rw [prepR_Q]; split
    · exact h.qr
    · exact h.qr.prep _
  · rw [prepR_Q]; split
    · exact h.qn
    · exact h.qn.prep _
  · rcases e1 with e | e
    · rw [e]; exact h.r
    · rw [e]; exact h.r.prep n
  · rcases e1 with e | e
    · rw [e]; exact h.z
    · rw [e, prepM_V]; exact h.z
theorem prep_im {S : RS} (n : Int) : (prepR S n).2.K.V = S.K.V ∧ (prepR S n).2.Q.I = S.Q.I ∧ (prepR S n).2.Q.g = S.Q.g := by
  have hq : (Qu.prepM S.Q n).2.I = S.Q.I ∧ (Qu.prepM S.Q n).2.g = S.Q.g := by
    unfold Qu.prepM
    split
    · exact ⟨rfl, rfl⟩
    · split <;> exact ⟨rfl, rfl⟩
  unfold prepR
  split
  · exact ⟨rfl, rfl, rfl⟩
  · unfold holdR
    split <;> exact ⟨prepM_V _ _, hq.1, hq.2⟩
theorem isK_right {l : List Ch} (h : RightL l) : ∀ x ∈ l, isK x = true := fun x hx => by
  have := (h.1 x hx).1
  unfold kindB at this
  unfold isK
  simp at this
  rcases this with e | ⟨e, _⟩ <;> simp [e]
theorem notK_kd {l : List Ch} (h : Qu.kdOk l) : ∀ x ∈ l, isK x = false := fun x hx => by
  unfold isK
  rcases h x hx with ⟨e, _⟩ | e <;> simp [e]
theorem endK_app {lk lq : List Ch} (hk : ∀ x ∈ lk, isK x = true) (hq : ∀ x ∈ lq, isK x = false) : endK (lk ++ lq) = lk.length := by
  unfold endK posC
  rw [List.findIdx_append]
  have h1 : lk.findIdx notK = lk.length := by
    rw [List.findIdx_eq_length]
    intro x hx
    unfold notK
    rw [hk x hx]; rfl
  rw [h1, if_neg (by omega)]
  rcases lq with _ | ⟨x, r⟩
  · simp
  · rw [List.findIdx_cons]
    have : notK x = true := by unfold notK; rw [hq x (List.mem_cons_self ..)]; rfl
    rw [this]
    simp
theorem num_bd : ∀ (l : List Int) (k : Int), Qu.NumL k l → ∀ x ∈ l, k ≤ x ∧ x < k + (l.length : Nat)
  | [], k, _, x, hx => by cases hx
  | y :: r, k, h, x, hx => by
    have h1 : y = k := h.1
    have h2 : Qu.NumL (k + 1) r := h.2
    rcases List.mem_cons.1 hx with rfl | hx
    · rw [List.length_cons]; omega
    · have := num_bd r (k + 1) h2 x hx
      rw [List.length_cons]
      omega
/-- How a list of changes looks that a work prepared. -/
structure PrepL (l : List Ch) : Prop where
  len : l.length ≤ 48
  ok : ∀ x ∈ l, (1 ≤ x.k ∧ x.k ≤ 4) ∧ 0 ≤ x.y ∧ x.y ≤ 4611686018427387904
theorem prepL {S : RS} (h : RInv S) (hok : Qu.QOk S.Q) (hd : S.Q.ws.Pairwise fun a b => a.n ≠ b.n) {n : Int} (hn : 1 ≤ n) : PrepL ((curW S.K n).1 ++ (Qu.curQ S.Q.ws n).1) := by
  have hr := h.r.cur n
  have hkd := h.qr.kd n
  have htk := h.qr.tk n hn
  have hlen := hr.len
  have htl := Qu.tk_len _ hkd
  have hpu := Qu.putsW_others S.Q.ws n hd
  have hroom := hok.room
  have hlast := hok.last
  have hb : (Qu.byI S.Q.I n).length ≤ S.Q.I.length := List.length_filter_le _ _
  refine ⟨?_, fun x hx => ?_⟩
  · rw [htk, List.length_map] at htl
    rw [List.length_append]
    omega
  · rcases List.mem_append.1 hx with hx | hx
    · have h1 := hr.1 x hx
      have h2 := key_bd h1.2
      have h3 := h1.1
      unfold kindB at h3
      simp at h3
      refine ⟨?_, by omega, by omega⟩
      rcases h3 with e | ⟨e, _⟩ <;> omega
    · rcases hkd x hx with ⟨e1, e2⟩ | e
      · exact ⟨by omega, by omega, by omega⟩
      · have hm : x ∈ Qu.tkL (Qu.curQ S.Q.ws n).1 := List.mem_filter.2 ⟨hx, by simpa using e⟩
        rw [htk] at hm
        obtain ⟨z, hz, rfl⟩ := List.mem_map.1 hm
        have hzI : z ∈ S.Q.I := (List.mem_filter.1 hz).1
        have hb := num_bd _ _ h.qn.num z.n (List.mem_map.2 ⟨z, hzI, rfl⟩)
        rw [List.length_map] at hb
        have hl := h.qn.len
        have hp0 : (0 : Int) ≤ (Qu.putsW S.Q.ws : Int) := Int.natCast_nonneg _
        show (1 ≤ (4 : Int) ∧ (4 : Int) ≤ 4) ∧ 0 ≤ z.n ∧ z.n ≤ _
        omega
/-- Restored in what was loaded, and committed there, it does the same. -/
theorem redo {S : RS} (h : RInv S) (hok : Qu.QOk S.Q) (hd : S.Q.ws.Pairwise fun a b => a.n ≠ b.n) {n : Int} (hn : 1 ≤ n) {l : List Ch} (hl : l = (curW S.K n).1 ++ (Qu.curQ S.Q.ws n).1) {B : RS} (hB : B.K.V = S.K.V ∧ B.Q.I = S.Q.I ∧ B.Q.g = S.Q.g) :
    ∃ T1, restoreR (lodR B) n l = (0, T1) ∧ Qu.QOk T1.Q ∧ (imP T1.K 16 = imP S.K 16 ∧ T1.Q.I.map Qu.IT.v = S.Q.I.map Qu.IT.v ∧ T1.Q.g = S.Q.g) ∧ (commitR T1 n).1 = 0 ∧ (commitR S n).1 = 0 ∧
      (imP (commitR T1 n).2.K 16 = imP (commitR S n).2.K 16 ∧ (commitR T1 n).2.Q.I.map Qu.IT.v = (commitR S n).2.Q.I.map Qu.IT.v ∧ (commitR T1 n).2.Q.g = (commitR S n).2.Q.g) := by
  have hnn : ¬ n < 1 := by omega
  obtain ⟨lk, hlk⟩ : ∃ lk, lk = (curW S.K n).1 := ⟨_, rfl⟩
  obtain ⟨lq, hlq⟩ : ∃ lq, lq = (Qu.curQ S.Q.ws n).1 := ⟨_, rfl⟩
  have hr : RightL lk := by rw [hlk]; exact h.r.cur n
  have hkd : Qu.kdOk lq := by rw [hlq]; exact h.qr.kd n
  rw [← hlk, ← hlq] at hl
  have hend : endK l = lk.length := by rw [hl]; exact endK_app (isK_right hr) (notK_kd hkd)
  have htk : l.take (endK l) = lk := by rw [hend, hl, List.take_left]
  have hdr : l.drop (endK l) = lq := by rw [hend, hl, List.drop_left]
  have hz0 : ∀ k, k < 16 → S.K.V k = ((listV S.K.V 16).foldl setV zeroV) k := same_listV h.z
  obtain ⟨V0, hV0⟩ : ∃ V0, V0 = (listV S.K.V 16).foldl setV zeroV := ⟨_, rfl⟩
  rw [← hV0] at hz0
  have hlod : lodR B = ⟨T0 V0, lodQ S.Q, []⟩ := by unfold lodR lodQ; rw [hB.1, hB.2.1, hB.2.2, hV0]
  obtain ⟨T1, hT1, _, hTc, _, _⟩ := rest_T (V := V0) hn hr
  have hTV : T1.V = V0 := by have := restoreM_V (T0 V0) n lk; rw [hT1] at this; exact this
  obtain ⟨U0, U1, hU0, hU1, _, _, hUok, _, hUv, hUc, _⟩ := Qu.restores hn h.qr h.qn hok hd
  rw [← hlq] at hU1
  have hU : U0 = lodQ S.Q := by
    have := load_lodQ h.qn hok
    exact (Prod.mk.inj (hU0.symm.trans this)).2
  rw [hU] at hU1
  have hUg : U1.g = S.Q.g := by
    have e : (Qu.restM (lodQ S.Q) n lq).2.g = (lodQ S.Q).g := by
      unfold Qu.restM
      split
      · rfl
      · split
        · rfl
        · split
          · rfl
          · split
            · rfl
            · split <;> rfl
    rw [hU1] at e
    exact e
  have hres : restoreR (lodR B) n l = (0, holdR ⟨T1, U1, []⟩ n l.length) := by
    rw [hlod]
    unfold restoreR
    rw [if_neg hnn, hdr, htk]
    have hany : lq.any isK = false := by
      rw [List.any_eq_false]
      intro x hx
      rw [notK_kd hkd x hx]; simp
    rw [hany, if_neg (by simp)]
    dsimp only
    rw [hT1, if_neg (by simp), hU1, if_neg (by simp)]
  have hK : (holdR ⟨T1, U1, []⟩ n l.length).K = T1 := by unfold holdR; split <;> rfl
  have hQ : (holdR ⟨T1, U1, []⟩ n l.length).Q = U1 := holdR_Q _ _ _
  obtain ⟨H, hH⟩ : ∃ H, H = holdR ⟨T1, U1, []⟩ n l.length := ⟨_, rfl⟩
  rw [← hH] at hres hK hQ
  have hcS : commitR S n = (0, dropS ⟨(commitM S.K n).2, (Qu.commitM S.Q n).2, S.pr⟩ n) := by unfold commitR; rw [if_neg hnn]
  have hcH : commitR H n = (0, dropS ⟨(commitM H.K n).2, (Qu.commitM H.Q n).2, H.pr⟩ n) := by unfold commitR; rw [if_neg hnn]
  have hcV : (commitM S.K n).2.V = lk.foldl setV S.K.V := by unfold commitM; rw [if_neg hnn, hlk]; rfl
  refine ⟨H, hres, by rw [hQ]; exact hUok, ⟨?_, by rw [hQ]; exact hUv, by rw [hQ]; exact hUg⟩, by rw [hcH], by rw [hcS], ?_, ?_, ?_⟩
  · refine imP_same (fun k hk => ?_) 16 (Nat.le_refl _)
    rw [hK, hTV, hz0 k hk]
  · rw [hcH, hcS]
    refine imP_same (fun k hk => ?_) 16 (Nat.le_refl _)
    show (commitM H.K n).2.V k = (commitM S.K n).2.V k
    rw [hK, hTc, hcV]
    exact fold_same lk V0 S.K.V (fun j hj => (hz0 j hj).symm) k hk
  · rw [hcH, hcS]
    show (Qu.commitM H.Q n).2.I.map Qu.IT.v = (Qu.commitM S.Q n).2.I.map Qu.IT.v
    rw [hQ]; exact hUc.1
  · rw [hcH, hcS]
    show (Qu.commitM H.Q n).2.g = (Qu.commitM S.Q n).2.g
    rw [hQ]; exact hUc.2
end Go.Proofs.YtlliaihmfimdoaaGreat.Re
