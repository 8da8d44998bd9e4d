/- Parts Inv InvIn InvT InvX of one proof. -/
import Derived.RegionTactic
import Derived.Deep.Draws
import Derived.Test.YtlliaihmfimdoaaGreatMg02
import Derived.OrdersIn
import Derived.TacticsIn
import Derived.OwnWalkIn
namespace Go.Proofs.YtlliaihmfimdoaaGreat
open Go
set_option linter.unusedVariables false

section
variable {P : Program} {ops : Array Oper} {Q : Exit → Act → World → Prop}

theorem wpOp_want {i : Nat} {o : Oper} {K : Act → World → Prop} {a : Act} {w : World} (ho : ops[i]? = some o)
    (h : if Region.wanted o (yielded ops a.tmps) = true then Oper.wp P o a w K Q else K (a.put o.dst undef) w) : wpOp P ops Q i K a w := by
  unfold wpOp
  rw [ho]
  show if Region.wanted o (yielded ops a.tmps) = true then _ else _
  split
  · rename_i hw; rw [if_pos hw] at h; exact .inl h
  · rename_i hw; rw [if_neg hw] at h; exact h

/-- How many have not come up. -/
def unlisted (l : Array Bool) : Nat := l.toList.countP (fun b => !b)

theorem unlisted_set {l : Array Bool} {i : Nat} (h : l.getD i true = false) : unlisted (l.setIfInBounds i true) + 1 = unlisted l := by
  have hi : i < l.size := by
    rcases Nat.lt_or_ge i l.size with h' | h'
    · exact h'
    · rw [Array.getD_eq_getD_getElem?, Array.getElem?_eq_none h'] at h; simp at h
  have hv : l[i] = false := by
    rw [Array.getD_eq_getD_getElem?, Array.getElem?_eq_getElem hi] at h; simpa using h
  unfold unlisted
  rw [Array.toList_setIfInBounds, List.countP_set (by simpa using hi)]
  have hp : 0 < l.toList.countP (fun b => !b) := List.countP_pos_iff.2 ⟨l[i], by simp, by simp [hv]⟩
  have hv' : l.toList[i]'(by simpa using hi) = false := by simpa using hv
  rw [hv']
  simp only [Bool.not_false, Bool.not_true, if_true, Bool.false_eq_true, if_false]
  omega

theorem ready_none {md : Region.Mode} {l : Array Bool} (hs : l.size = ops.size) (h : unlisted l = 0) : Region.ready md ops l = [] := by
  cases hr : Region.ready md ops l with
  | nil => rfl
  | cons j js =>
    have hj : j ∈ Region.ready md ops l := by rw [hr]; exact List.mem_cons_self
    have := unlisted_set (mem_ready.1 hj).1
    omega

theorem wpAny_inv {md : Region.Mode} (I : Array Bool → Act → World → Prop)
    (step : ∀ l a w i, l.size = ops.size → I l a w → i ∈ Region.ready md ops l → wpOp P ops Q i (I (l.setIfInBounds i true)) a w)
    (fin : ∀ l a w, l.size = ops.size → I l a w → Region.ready md ops l = [] → Q .normal a w) :
    ∀ (fuel : Nat) (l : Array Bool) (a : Act) (w : World), l.size = ops.size → unlisted l ≤ fuel → I l a w → wpAny P md ops Q fuel l a w := by
  intro fuel
  induction fuel with
  | zero => intro l a w hs hu hI; exact ⟨ready_none hs (by omega), fin _ _ _ hs hI (ready_none hs (by omega))⟩
  | succ fuel ih =>
    intro l a w hs hu hI
    refine ⟨fun h0 => fin _ _ _ hs hI h0, fun i hi => ?_⟩
    refine wpOp_mono ?_ (step l a w i hs hI hi)
    intro a' w' h'
    have := unlisted_set (mem_ready.1 hi).1
    exact ih _ a' w' (by simpa using hs) (by omega) h'

/-- The frame in which the operations from number k on have put these values. -/
def mkA : List Oper → Nat → (Nat → Value) → Act → Act
  | [], _, _, a => a
  | o :: l, k, x, a => mkA l (k + 1) x (a.put o.dst (x k))
/-- No two of them put into one slot. -/
def dstsApart : List Oper → Bool
  | [] => true
  | o :: l => (match o.dst with | none => true | some d => l.all fun o' => o'.dst != some d) && dstsApart l

theorem mkA_put_far {d : Option Tmp} {v : Value} : ∀ (l : List Oper) (k : Nat) (x : Nat → Value) (a : Act), (∀ e, d = some e → ∀ o ∈ l, o.dst ≠ some e) → mkA l k x (a.put d v) = (mkA l k x a).put d v
  | [], _, _, _, _ => rfl
  | o :: l, k, x, a, h => by
    unfold mkA
    rw [Act.put_comm a v (x k) (fun e he => h e he o List.mem_cons_self)]
    exact mkA_put_far l (k + 1) x _ (fun e he o' ho' => h e he o' (List.mem_cons_of_mem _ ho'))
theorem Act.put_put (a : Act) (d : Option Tmp) (v u : Value) : (a.put d v).put d u = a.put d u := by
  cases d with
  | none => rfl
  | some d => simp [Act.put]
theorem mkA_congr : ∀ (l : List Oper) (k : Nat) (x y : Nat → Value) (a : Act), (∀ j, k ≤ j → x j = y j) → mkA l k x a = mkA l k y a
  | [], _, _, _, _, _ => rfl
  | o :: l, k, x, y, a, h => by
    unfold mkA
    rw [h k (Nat.le_refl _)]
    exact mkA_congr l (k + 1) x y _ (fun j hj => h j (by omega))
def upd (x : Nat → Value) (i : Nat) (v : Value) : Nat → Value := fun j => if j = i then v else x j
theorem mkA_upd {o : Oper} {v : Value} : ∀ (l : List Oper) (k i : Nat) (x : Nat → Value) (a : Act), dstsApart l = true → l[i]? = some o → mkA l k (upd x (k + i) v) a = (mkA l k x a).put o.dst v
  | [], _, _, _, _, _, h => by simp at h
  | o' :: l, k, 0, x, a, hd, h => by
    simp only [List.getElem?_cons_zero, Option.some.injEq] at h
    subst h
    unfold mkA
    rw [mkA_congr l (k + 1) _ x _ (fun j hj => by unfold upd; rw [if_neg (by omega)])]
    simp only [upd, Nat.add_zero, if_true]
    have hfar : ∀ e, o'.dst = some e → ∀ o ∈ l, o.dst ≠ some e := by
      intro e he o ho
      simp only [dstsApart, he, Bool.and_eq_true, List.all_eq_true] at hd
      simpa using hd.1 o ho
    rw [mkA_put_far l _ x a hfar, mkA_put_far l _ x a hfar, Act.put_put]
  | o' :: l, k, i + 1, x, a, hd, h => by
    unfold mkA
    have e1 : upd x (k + (i + 1)) v k = x k := by unfold upd; rw [if_neg (by omega)]
    rw [e1, show k + (i + 1) = (k + 1) + i by omega]
    simp only [dstsApart, Bool.and_eq_true] at hd
    exact mkA_upd l (k + 1) i x _ hd.2 (by simpa using h)

/-- What is known of the operations that one waits for. -/
def Known (V : Nat → Value → World → Prop) (x : Nat → Value) (w : World) : List Edge → Prop
  | [] => True
  | e :: es => (Region.binds .any e = true → V e.on (x e.on) w) ∧ Known V x w es
theorem known_of {V : Nat → Value → World → Prop} {x : Nat → Value} {w : World} : ∀ (l : List Edge), (∀ e ∈ l, Region.binds .any e = true → V e.on (x e.on) w) → Known V x w l
  | [], _ => trivial
  | e :: es, h => ⟨h e List.mem_cons_self, known_of es fun e' he' => h e' (List.mem_cons_of_mem _ he')⟩
def AllOps (S : Nat → Oper → Prop) : Nat → List Oper → Prop
  | _, [] => True
  | k, o :: l => S k o ∧ AllOps S (k + 1) l
theorem allOps_at {S : Nat → Oper → Prop} : ∀ (l : List Oper) (k i : Nat) (o : Oper), AllOps S k l → l[i]? = some o → S (k + i) o
  | [], _, _, _, _, h => by simp at h
  | o' :: l, k, 0, o, h, ho => by simp only [List.getElem?_cons_zero, Option.some.injEq] at ho; subst ho; exact h.1
  | o' :: l, k, i + 1, o, h, ho => by
    rw [show k + (i + 1) = (k + 1) + i by omega]
    exact allOps_at l (k + 1) i o h.2 (by simpa using ho)
/-- What all of them have put is told. -/
def AllV (V : Nat → Value → World → Prop) (x : Nat → Value) (w : World) : Nat → List Oper → Prop
  | _, [] => True
  | k, _ :: l => V k (x k) w ∧ AllV V x w (k + 1) l
theorem allV_of {V : Nat → Value → World → Prop} {x : Nat → Value} {w : World} : ∀ (l : List Oper) (k : Nat), (∀ i, i < l.length → V (k + i) (x (k + i)) w) → AllV V x w k l
  | [], _, _ => trivial
  | o :: l, k, h => ⟨h 0 (by simp), allV_of l (k + 1) fun i hi => by have := h (i + 1) (by simp; omega); rwa [show k + (i + 1) = k + 1 + i by omega] at this⟩

theorem allV_at {V : Nat → Value → World → Prop} {x : Nat → Value} {w : World} : ∀ {l : List Oper} {k : Nat}, AllV V x w k l → ∀ i, i < l.length → V (k + i) (x (k + i)) w
  | [], _, _, _, h => absurd h (by simp)
  | _ :: _, _, h, 0, _ => h.1
  | _ :: l, k, h, i + 1, hi => by have := allV_at h.2 i (by simpa using hi); rwa [show k + 1 + i = k + (i + 1) by omega] at this

/-- The edges of operation o lead to operations of the region, and each that has come up .. by text order there is none that waits for itself: the order of the text is one that may be. -/
def lexOk (ops : Array Oper) : Bool := (List.range ops.size).all fun i => match ops[i]? with | none => true | some o => o.after.all fun e => !Region.binds .any e || decide (e.on < i)

theorem ready_all {l : Array Bool} (hs : l.size = ops.size) (hx : lexOk ops = true) (h : Region.ready .any ops l = []) : ∀ i, i < ops.size → l.getD i true = true := by
  intro i
  induction i using Nat.strongRecOn with
  | ind i ih =>
    intro hi
    cases hl : l.getD i true with
    | true => rfl
    | false =>
      exfalso
      have hm : i ∈ Region.ready .any ops l := by
        rw [mem_ready]
        refine ⟨hl, ops[i], Array.getElem?_eq_getElem hi, fun e he hb => ?_⟩
        have h1 := List.all_eq_true.1 hx i (List.mem_range.2 hi)
        rw [Array.getElem?_eq_getElem hi] at h1
        have h2 := (Array.all_eq_true'.1 h1) e he
        rw [hb] at h2
        simp at h2
        have h3 := ih e.on h2 (by omega)
        rw [Array.getD_eq_getD_getElem?, Array.getElem?_eq_getElem (show e.on < l.size by omega)] at h3 ⊢
        simpa using h3
      rw [h] at hm
      cases hm

theorem put_own (a : Act) (d : Option Tmp) : a.put d ((d.map fun t => a.tmps.getD t undef).getD undef) = a := by
  cases d with
  | none => rfl
  | some d =>
    simp only [Act.put, Option.map_some, Option.getD_some]
    rcases Nat.lt_or_ge d a.tmps.size with h | h
    · rw [Array.getD_eq_getD_getElem?, Array.getElem?_eq_getElem h, Option.getD_some, Array.setIfInBounds_def, dif_pos h, Array.set_getElem_self]
    · rw [Array.setIfInBounds_eq_of_size_le h]
theorem mkA_own : ∀ (l : List Oper) (k : Nat) (x : Nat → Value) (a : Act), (∀ i o, l[i]? = some o → x (k + i) = (o.dst.map fun t => a.tmps.getD t undef).getD undef) → mkA l k x a = a
  | [], _, _, _, _ => rfl
  | o :: l, k, x, a, h => by
    unfold mkA
    have h0 := h 0 o rfl
    rw [Nat.add_zero] at h0
    rw [h0, put_own]
    exact mkA_own l (k + 1) x a fun i o' ho' => by have := h (i + 1) o' (by simpa using ho'); rwa [show k + (i + 1) = k + 1 + i by omega] at this

theorem AllOps.cons {S : Nat → Oper → Prop} {k : Nat} {o : Oper} {l : List Oper} (h : S k o) (h' : AllOps S (k + 1) l) : AllOps S k (o :: l) := ⟨h, h'⟩
theorem AllOps.nil {S : Nat → Oper → Prop} {k : Nat} : AllOps S k [] := trivial

/-- **A region by what its operations yield.** C: the worlds between them; E: how one turns into the next; V i: what operation i has put. -/
theorem wp_region_inv {id : Nat} {l : List Oper} {a : Act} {w : World} {F : (Nat → Value) → Act} (V : Nat → Value → World → Prop) (C : World → Prop) (E : World → World → Prop)
    (hm : P.follows .mixedOrders = true) (hd : dstsApart l = true) (hx : lexOk l.toArray = true) (hF : ∀ x, mkA l 0 x a = F x)
    (hmono : ∀ i v w w', E w w' → V i v w → V i v w') (hC : C w.drew)
    (step : AllOps (fun i o => ∀ x w, C w → Known V x w o.after.toList → ∀ K : Act → World → Prop, (∀ v a' w', C w' → E w w' → V i v w' → a' = (F x).put o.dst v → K a' w') → if Region.wanted o (yielded l.toArray (F x).tmps) = true then Oper.wp P o (F x) w K Q else K ((F x).put o.dst undef) w) 0 l)
    (fin : ∀ x w', C w' → AllV V x w' 0 l → Q .normal (F x) w') : (Code.region id l.toArray true).wp P Q a w := by
  refine wp_region_any hm ?_
  have h0 : a = F fun i => (((l[i]?).bind (·.dst)).map fun t => a.tmps.getD t undef).getD undef := by
    rw [← hF, mkA_own]
    intro i o ho
    rw [Nat.zero_add, ho]
    rfl
  refine wpAny_inv (fun l b u => C u ∧ ∃ x, b = F x ∧ ∀ i, l.getD i false = true → V i (x i) u) ?_ ?_ _ _ _ _ (by simp) ?_ ⟨hC, _, h0, fun i hi => ?_⟩
  · rintro ls b u i hs ⟨hc, x, rfl, hv⟩ hi
    obtain ⟨hl, o, ho, hall⟩ := mem_ready.1 hi
    refine wpOp_want ho ?_
    have ho' : l[i]? = some o := by simpa using ho
    have hst := allOps_at _ _ _ _ step ho'
    rw [Nat.zero_add] at hst
    refine hst x u hc (known_of _ fun e he hb => hv _ (hall e (by simpa using he) hb)) _ ?_
    rintro v _ u' hc' he hvi rfl
    have hput : (F x).put o.dst v = F (upd x i v) := by
      rw [← hF, ← hF]
      have := mkA_upd (v := v) l 0 i x a hd ho'
      rw [Nat.zero_add] at this
      exact this.symm
    refine ⟨hc', upd x i v, hput, fun j hj => ?_⟩
    by_cases hji : j = i
    · subst hji; simpa [upd] using hvi
    · have e1 : upd x i v j = x j := if_neg hji
      rw [e1]
      refine hmono _ _ _ _ he (hv j ?_)
      rw [getD_set_ne false (Ne.symm hji)] at hj
      exact hj
  · rintro ls b u hs ⟨hc, x, rfl, hv⟩ hr
    refine fin x u hc (allV_of _ _ fun i hi => ?_)
    rw [Nat.zero_add]
    have hi' : i < l.toArray.size := by simpa using hi
    have h1 := ready_all hs hx hr i hi'
    refine hv i ?_
    rw [Array.getD_eq_getD_getElem?, Array.getElem?_eq_getElem (show i < ls.size by omega)] at h1 ⊢
    simpa using h1
  · unfold unlisted
    rw [Array.toList_replicate]
    exact Nat.le_trans List.countP_le_length (by simp)
  · rw [Array.getD_eq_getD_getElem?, Array.getElem?_replicate] at hi
    split at hi <;> simp at hi
end
end Go.Proofs.YtlliaihmfimdoaaGreat

namespace Go.Proofs.YtlliaihmfimdoaaGreat
open Go Go.RowKit
set_option linter.unusedVariables false

section
variable {Fc : Fence} {n : Nat} {P : Program} {ops : Array Oper} {Q : Exit → Act → World → Prop}

theorem wpOpIn_want (hF : ∀ f, Fc.fn f) {i : Nat} {o : Oper} {K : Act → World → Prop} {a : Act} {w : World} (ho : ops[i]? = some o)
    (h : if Region.wanted o (yielded ops a.tmps) = true then Oper.wpIn Fc n P o a w K Q else K (a.put o.dst undef) w) : wpOpIn Fc n P ops Q i K a w := by
  unfold wpOpIn
  rw [ho]
  show if Region.wanted o (yielded ops a.tmps) = true then _ else _
  split
  · rename_i hw; rw [if_pos hw] at h; exact h
  · rename_i hw; rw [if_neg hw] at h; exact ⟨fun f _ => hF f, h⟩

theorem wpAnyIn_inv {md : Region.Mode} (I : Array Bool → Act → World → Prop)
    (step : ∀ l a w i, l.size = ops.size → I l a w → i ∈ Region.ready md ops l → wpOpIn Fc n P ops Q i (I (l.setIfInBounds i true)) a w)
    (fin : ∀ l a w, l.size = ops.size → I l a w → Region.ready md ops l = [] → Q .normal a w) :
    ∀ (fuel : Nat) (l : Array Bool) (a : Act) (w : World), l.size = ops.size → unlisted l ≤ fuel → I l a w → wpAnyIn Fc n P md ops Q fuel l a w := by
  intro fuel
  induction fuel with
  | zero => intro l a w hs hu hI; exact ⟨ready_none hs (by omega), fin _ _ _ hs hI (ready_none hs (by omega))⟩
  | succ fuel ih =>
    intro l a w hs hu hI
    refine ⟨fun h0 => fin _ _ _ hs hI h0, fun i hi => ?_⟩
    refine wpOpIn_mono ?_ (step l a w i hs hI hi)
    intro a' w' h'
    have := unlisted_set (mem_ready.1 hi).1
    exact ih _ a' w' (by simpa using hs) (by omega) h'

/-- What is known of the operations that number k waits for: of those whose word holds till k itself comes up, too. -/
def KnownTill (V : Nat → Value → World → Prop) (dead : Nat → Option Nat) (k : Nat) (x : Nat → Value) (w : World) : List Edge → Prop
  | [] => True
  | e :: es => (Region.binds .any e = true → (dead e.on = none ∨ dead e.on = some k) → V e.on (x e.on) w) ∧ KnownTill V dead k x w es
theorem knownTill_of {V : Nat → Value → World → Prop} {dead : Nat → Option Nat} {k : Nat} {x : Nat → Value} {w : World} : ∀ (l : List Edge), (∀ e ∈ l, Region.binds .any e = true → (dead e.on = none ∨ dead e.on = some k) → V e.on (x e.on) w) → KnownTill V dead k x w l
  | [], _ => trivial
  | e :: es, h => ⟨h e List.mem_cons_self, knownTill_of es fun e' he' => h e' (List.mem_cons_of_mem _ he')⟩

/-- Where 'need i k' says so, operation i waits for operation k. -/
def needOk (l : List Oper) (need : Nat → Nat → Bool) : Bool :=
  (List.range l.length).all fun i => (List.range l.length).all fun k => !need i k || (match l[i]? with | some o => o.after.any fun e => Region.binds .any e && e.on == k | none => false)
theorem needOk_spec {l : List Oper} {need : Nat → Nat → Bool} (h : needOk l need = true) {i k : Nat} {o : Oper} (ho : l[i]? = some o) (hk : k < l.length) (hn : need i k = true) : ∃ e ∈ o.after, Region.binds .any e = true ∧ e.on = k := by
  have hi : i < l.length := (List.getElem?_eq_some_iff.1 ho).1
  have h1 := List.all_eq_true.1 (List.all_eq_true.1 h i (List.mem_range.2 hi)) k (List.mem_range.2 hk)
  rw [hn, ho] at h1
  simp only [Bool.not_true, Bool.false_or] at h1
  obtain ⟨j, hj, h2⟩ := Array.any_eq_true.1 h1
  simp only [Bool.and_eq_true, beq_iff_eq] at h2
  exact ⟨_, Array.getElem_mem hj, h2⟩

/-- **A region by what its operations yield, in the frame of a round.** C: the worlds between them; E k: how operation k turns one into the next; V i: what operation i has put: it holds on, or till operation 'dead i' has come up. -/
theorem wpIn_region_inv (hFn : ∀ f, Fc.fn f) {id : Nat} {l : List Oper} {a : Act} {w : World} {F : (Nat → Value) → Act} (V : Nat → Value → World → Prop) (dead : Nat → Option Nat) (need : Nat → Nat → Bool) (T : Nat → World → Prop) (C : World → Prop) (E : Nat → World → World → Prop)
    (hm : P.follows .mixedOrders = true) (hd : dstsApart l = true) (hx : lexOk l.toArray = true) (hneed : needOk l need = true) (hF : ∀ x, mkA l 0 x a = F x)
    (hmono : ∀ k i v w w', E k w w' → i ≠ k → need i k = false → dead i ≠ some k → V i v w → V i v w') (hTm : ∀ k j w w', E k w w' → k ≠ j → need k j = false → T j w → T j w') (hT : ∀ j, T j w.drew) (hC : C w.drew)
    (step : AllOps (fun i o => ∀ x w, C w → T i w → KnownTill V dead i x w o.after.toList → ∀ K : Act → World → Prop, (∀ v a' w', C w' → E i w w' → V i v w' → a' = (F x).put o.dst v → K a' w') → if Region.wanted o (yielded l.toArray (F x).tmps) = true then Oper.wpIn Fc n P o (F x) w K Q else K ((F x).put o.dst undef) w) 0 l)
    (fin : ∀ x w', C w' → (∀ i, i < l.length → dead i = none → V i (x i) w') → Q .normal (F x) w') : (Code.region id l.toArray true).wpIn Fc n P Q a w := by
  refine wpIn_region_any hm ?_
  have h0 : a = F fun i => (((l[i]?).bind (·.dst)).map fun t => a.tmps.getD t undef).getD undef := by
    rw [← hF, mkA_own]
    intro i o ho
    rw [Nat.zero_add, ho]
    rfl
  refine wpAnyIn_inv (fun ls b u => ((C u ∧ ∀ j, j < l.length → ls.getD j true = false → T j u) ∧ ∀ i o, l[i]? = some o → ls.getD i false = true → ∀ e ∈ o.after, Region.binds .any e = true → ls.getD e.on false = true) ∧ ∃ x, b = F x ∧ ∀ i, i < l.length → ls.getD i false = true → (∀ j, dead i = some j → ls.getD j true = false) → V i (x i) u) ?_ ?_ _ _ _ _ (by simp) ?_ ⟨⟨⟨hC, fun j _ _ => hT j⟩, fun i o _ hi => ?_⟩, _, h0, fun i _ hi => ?_⟩
  · rintro ls b u i hs ⟨⟨⟨hc, hT1⟩, hcl⟩, x, rfl, hv⟩ hi
    obtain ⟨hl, o, ho, hall⟩ := mem_ready.1 hi
    refine wpOpIn_want hFn ho ?_
    have ho' : l[i]? = some o := by simpa using ho
    have hon : ∀ j, ls.getD j false = true → j < l.length := fun j hj => by
      rcases Nat.lt_or_ge j ls.size with h' | h'
      · simpa [hs] using h'
      · rw [Array.getD_eq_getD_getElem?, Array.getElem?_eq_none h'] at hj; simp at hj
    have hst := allOps_at _ _ _ _ step ho'
    rw [Nat.zero_add] at hst
    refine hst x u hc (hT1 i (List.getElem?_eq_some_iff.1 ho').1 hl) (knownTill_of _ fun e he hb hdd => hv _ (hon e.on (hall e (by simpa using he) hb)) (hall e (by simpa using he) hb) fun j hj => ?_) _ ?_
    · rcases hdd with h | h
      · rw [h] at hj; cases hj
      · rw [h] at hj; cases hj; exact hl
    rintro v _ u' hc' he hvi rfl
    have hput : (F x).put o.dst v = F (upd x i v) := by
      rw [← hF, ← hF]
      have := mkA_upd (v := v) l 0 i x a hd ho'
      rw [Nat.zero_add] at this
      exact this.symm
    refine ⟨⟨⟨hc', fun j hjl hju => ?_⟩, fun j oj hoj hj e he hb => ?_⟩, upd x i v, hput, fun j hjl hj hjd => ?_⟩
    · have hsz : i < ls.size := by
        rcases Nat.lt_or_ge i ls.size with h' | h'
        · exact h'
        · rw [Array.getD_eq_getD_getElem?, Array.getElem?_eq_none h'] at hl; simp at hl
      have hij : i ≠ j := fun e => by
        subst e
        rw [Array.getD_eq_getD_getElem?, Array.getElem?_setIfInBounds_self_of_lt hsz] at hju
        simp at hju
      rw [getD_set_ne true hij] at hju
      refine hTm _ _ _ _ he hij ?_ (hT1 j hjl hju)
      cases hnd : need i j with
      | false => rfl
      | true =>
        exfalso
        obtain ⟨e, he2, hb2, he3⟩ := needOk_spec hneed ho' hjl hnd
        have h1 := hall e he2 hb2
        rw [he3] at h1
        rw [Array.getD_eq_getD_getElem?] at h1 hju
        cases hls : ls[j]? with
        | none => rw [hls] at h1; simp at h1
        | some b => rw [hls] at h1 hju; simp at h1 hju; rw [h1] at hju; cases hju
    · by_cases hji : j = i
      · subst hji
        rw [ho'] at hoj; cases hoj
        exact getD_set_true (hall e he hb)
      · rw [getD_set_ne false (Ne.symm hji)] at hj
        exact getD_set_true (hcl j oj hoj hj e he hb)
    by_cases hji : j = i
    · subst hji; simpa [upd] using hvi
    · have e1 : upd x i v j = x j := if_neg hji
      have hne : dead j ≠ some i := fun e => by
        have h1 := hjd i e
        have hsz : i < ls.size := by
          rcases Nat.lt_or_ge i ls.size with h' | h'
          · exact h'
          · rw [Array.getD_eq_getD_getElem?, Array.getElem?_eq_none h'] at hl; simp at hl
        rw [Array.getD_eq_getD_getElem?, Array.getElem?_setIfInBounds_self_of_lt hsz] at h1
        simp at h1
      rw [e1]
      refine hmono _ _ _ _ _ he hji ?_ hne (hv j hjl ?_ fun q hq => ?_)
      · cases hnd : need j i with
        | false => rfl
        | true =>
          exfalso
          obtain ⟨oj, hoj⟩ : ∃ oj, l[j]? = some oj := ⟨_, List.getElem?_eq_getElem hjl⟩
          obtain ⟨e, he2, hb2, he3⟩ := needOk_spec hneed hoj (List.getElem?_eq_some_iff.1 ho').1 hnd
          rw [getD_set_ne false (Ne.symm hji)] at hj
          have h1 := hcl j oj hoj hj e he2 hb2
          rw [he3] at h1
          rw [Array.getD_eq_getD_getElem?] at h1 hl
          cases hls : ls[i]? with
          | none => rw [hls] at h1; simp at h1
          | some b => rw [hls] at h1 hl; simp at h1 hl; rw [h1] at hl; cases hl
      · rw [getD_set_ne false (Ne.symm hji)] at hj
        exact hj
      · have h1 := hjd q hq
        have hqi : i ≠ q := fun e => hne (e ▸ hq)
        rw [getD_set_ne true hqi] at h1
        exact h1
  · rintro ls b u hs ⟨⟨⟨hc, _⟩, _⟩, x, rfl, hv⟩ hr
    refine fin x u hc fun i hi hdi => ?_
    have hi' : i < l.toArray.size := by simpa using hi
    have h1 := ready_all hs hx hr i hi'
    refine hv i hi ?_ (fun j hj => by rw [hdi] at hj; cases hj)
    rw [Array.getD_eq_getD_getElem?, Array.getElem?_eq_getElem (show i < ls.size by omega)] at h1 ⊢
    simpa using h1
  · unfold unlisted
    rw [Array.toList_replicate]
    exact Nat.le_trans List.countP_le_length (by simp)
  · rw [Array.getD_eq_getD_getElem?, Array.getElem?_replicate] at hi
    split at hi <;> simp at hi
  · rw [Array.getD_eq_getD_getElem?, Array.getElem?_replicate] at hi
    split at hi <;> simp at hi

theorem wpListIn_append_bs (hFn : ∀ f, Fc.fn f) {w : World} {ops : Array Oper} {rest : List Oper} {o : Oper} {a : Act} {Q : Exit → Act → World → Prop} (hgd : o.guard = none) (s x : Operand) (t : TypeId)
    (ho : o.op = .call { callee := .builtin .append, args := #[s, x], argTypes := #[t, t] })
    (base : Nat) (e : TypeId) (i : TypeInfo) (z : Value) (ht : P.underlying t = some (.slice e)) (hi : P.info? e = some i) (hz : i.zero = some z)
    (hsize : i.size = 1) (hby : i.bytes = 1) (hzs : z.cells.size = 1) (A : Option Addr) (c : Nat) (l : List UInt8) (m0 : Nat) (hs : a.eval s = .slice A m0 c) (hn : m0 = l.length) (hown : Own w base e A c l)
    (B : Nat) (A' : Option Addr) (c' : Nat) (m : List UInt8) (n' : Nat) (hx : a.eval x = .slice A' n' c') (hn' : n' = m.length) (hr : Bs w B A' m) (hlen : l.length + m.length ≤ 140737488355328) (hbase : base ≤ w.heap.size)
    (h : ∀ A2 c2 w', Own w' base e A2 c2 (l ++ m) → w.grownBy w' (blk A) → (blk A2 = blk A ∨ blk A2 = some w.heap.size) → wpListIn Fc n P ops Q rest (a.put o.dst (.slice A2 (m0 + n') c2)) w') : wpListIn Fc n P ops Q (o :: rest) a w := by
  subst hn hn'
  refine wpListIn_plain hgd fun _ hK => ?_
  obtain ⟨A2, c2, w', hrun, h2, h3, h4⟩ := run_append_bs (P := P) w base t o.type e i z ht hi hz hsize hby hzs A c l hown B A' c' m hr hlen hbase
  unfold Oper.wpIn
  refine ⟨fun f _ => hFn f, ?_⟩
  rw [Oper.semAt_eq _ _ _ (by intro c; rw [ho]; simp)]
  unfold execOp
  simp only [ho, resolve, invoke, builtin, Sem.run_bind, Sem.run_pure, Result.andThen_ok, List.map_toArray, List.map_cons, List.map_nil, hs, hx, hrun]
  exact hK _ _ (h A2 c2 w' h2 h3 h4)

/-- The same as one step of a region that draws its order. -/
theorem stepIn_append_bs (hFn : ∀ f, Fc.fn f) (w : World) {ops : Array Oper} {o : Oper} {a : Act} {K : Act → World → Prop} {Q : Exit → Act → World → Prop} {E : Prop} (hgd : o.guard = none) (s x : Operand) (t : TypeId)
    (ho : o.op = .call { callee := .builtin .append, args := #[s, x], argTypes := #[t, t] })
    (base : Nat) (e : TypeId) (i : TypeInfo) (z : Value) (ht : P.underlying t = some (.slice e)) (hi : P.info? e = some i) (hz : i.zero = some z)
    (hsize : i.size = 1) (hby : i.bytes = 1) (hzs : z.cells.size = 1) (A : Option Addr) (c : Nat) (l : List UInt8) (m0 : Nat) (hs : a.eval s = .slice A m0 c) (hn : m0 = l.length) (hown : Own w base e A c l)
    (B : Nat) (A' : Option Addr) (c' : Nat) (m : List UInt8) (n' : Nat) (hx : a.eval x = .slice A' n' c') (hn' : n' = m.length) (hr : Bs w B A' m) (hlen : l.length + m.length ≤ 140737488355328) (hbase : base ≤ w.heap.size)
    (h : ∀ A2 c2 w', Own w' base e A2 c2 (l ++ m) → w.grownBy w' (blk A) → (blk A2 = blk A ∨ blk A2 = some w.heap.size) → K (a.put o.dst (.slice A2 (m0 + n') c2)) w') :
    if Region.wanted o (yielded ops a.tmps) = true then Oper.wpIn Fc n P o a w K Q else E := by
  have hw : Region.wanted o (yielded ops a.tmps) = true := by simp [Region.wanted, hgd]
  rw [if_pos hw]
  subst hn hn'
  obtain ⟨A2, c2, w', hrun, h2, h3, h4⟩ := run_append_bs (P := P) w base t o.type e i z ht hi hz hsize hby hzs A c l hown B A' c' m hr hlen hbase
  unfold Oper.wpIn
  refine ⟨fun f _ => hFn f, ?_⟩
  rw [Oper.semAt_eq _ _ _ (by intro c; rw [ho]; simp)]
  unfold execOp
  simp only [ho, resolve, invoke, builtin, Sem.run_bind, Sem.run_pure, Result.andThen_ok, List.map_toArray, List.map_cons, List.map_nil, hs, hx, hrun]
  exact h A2 c2 w' h2 h3 h4
end
end Go.Proofs.YtlliaihmfimdoaaGreat

namespace Go.Proofs.YtlliaihmfimdoaaGreat
open Go Go.RowKit
set_option linter.unusedVariables false

/-- Operation i waits for operation k, or for one that waits for it. -/
def waits (l : List Oper) (i k : Nat) : Bool := match l[i]? with
  | some o => o.after.any fun e => Region.binds .any e && (e.on == k || (match l[e.on]? with | some o2 => o2.after.any fun e2 => Region.binds .any e2 && e2.on == k | none => false))
  | none => false
theorem waits_spec {l : List Oper} {ls : Array Bool} {i k : Nat} {o : Oper} (ho : l[i]? = some o) (h : waits l i k = true)
    (hall : ∀ e ∈ o.after, Region.binds .any e = true → ls.getD e.on false = true)
    (hcl : ∀ i o, l[i]? = some o → ls.getD i false = true → ∀ e ∈ o.after, Region.binds .any e = true → ls.getD e.on false = true) : ls.getD k false = true := by
  unfold waits at h
  rw [ho] at h
  obtain ⟨j, hj, h2⟩ := Array.any_eq_true.1 h
  simp only [Bool.and_eq_true, Bool.or_eq_true, beq_iff_eq] at h2
  have h1 := hall _ (Array.getElem_mem hj) h2.1
  rcases h2.2 with h3 | h3
  · rw [← h3]; exact h1
  · cases ho2 : l[o.after[j].on]? with
    | none => rw [ho2] at h3; cases h3
    | some o2 =>
      rw [ho2] at h3
      obtain ⟨j2, hj2, h4⟩ := Array.any_eq_true.1 h3
      simp only [Bool.and_eq_true, beq_iff_eq] at h4
      rw [← h4.2]
      exact hcl _ _ ho2 h1 _ (Array.getElem_mem hj2) h4.1

section
variable {P : Program} {Q : Exit → Act → World → Prop}

/-- **A region by what its operations yield.** C: the worlds between them; E k: how operation k turns one into the next; V i: what operation i has put: it holds on, or till operation 'dead i' has come up. -/
theorem wp_region_invT {id : Nat} {l : List Oper} {a : Act} {w : World} {F : (Nat → Value) → Act} (V : Nat → Value → World → Prop) (dead : Nat → Option Nat) (T : Nat → World → Prop) (C : World → Prop) (E : Nat → World → World → Prop)
    (hm : P.follows .mixedOrders = true) (hd : dstsApart l = true) (hx : lexOk l.toArray = true) (hF : ∀ x, mkA l 0 x a = F x)
    (hmono : ∀ k i v w w', E k w w' → i ≠ k → waits l i k = false → dead i ≠ some k → V i v w → V i v w') (hTm : ∀ k j w w', E k w w' → k ≠ j → waits l k j = false → T j w → T j w') (hT : ∀ j, T j w.drew) (hC : C w.drew)
    (step : AllOps (fun i o => ∀ x w, C w → T i w → KnownTill V dead i x w o.after.toList → ∀ K : Act → World → Prop, (∀ v a' w', C w' → E i w w' → V i v w' → a' = (F x).put o.dst v → K a' w') → if Region.wanted o (yielded l.toArray (F x).tmps) = true then Oper.wp P o (F x) w K Q else K ((F x).put o.dst undef) w) 0 l)
    (fin : ∀ x w', C w' → (∀ i, i < l.length → dead i = none → V i (x i) w') → Q .normal (F x) w') : (Code.region id l.toArray true).wp P Q a w := by
  refine wp_region_any hm ?_
  have h0 : a = F fun i => (((l[i]?).bind (·.dst)).map fun t => a.tmps.getD t undef).getD undef := by
    rw [← hF, mkA_own]
    intro i o ho
    rw [Nat.zero_add, ho]
    rfl
  refine wpAny_inv (fun ls b u => ((C u ∧ ∀ j, j < l.length → ls.getD j true = false → T j u) ∧ ∀ i o, l[i]? = some o → ls.getD i false = true → ∀ e ∈ o.after, Region.binds .any e = true → ls.getD e.on false = true) ∧ ∃ x, b = F x ∧ ∀ i, i < l.length → ls.getD i false = true → (∀ j, dead i = some j → ls.getD j true = false) → V i (x i) u) ?_ ?_ _ _ _ _ (by simp) ?_ ⟨⟨⟨hC, fun j _ _ => hT j⟩, fun i o _ hi => ?_⟩, _, h0, fun i _ hi => ?_⟩
  · rintro ls b u i hs ⟨⟨⟨hc, hT1⟩, hcl⟩, x, rfl, hv⟩ hi
    obtain ⟨hl, o, ho, hall⟩ := mem_ready.1 hi
    refine wpOp_want ho ?_
    have ho' : l[i]? = some o := by simpa using ho
    have hon : ∀ j, ls.getD j false = true → j < l.length := fun j hj => by
      rcases Nat.lt_or_ge j ls.size with h' | h'
      · simpa [hs] using h'
      · rw [Array.getD_eq_getD_getElem?, Array.getElem?_eq_none h'] at hj; simp at hj
    have hst := allOps_at _ _ _ _ step ho'
    rw [Nat.zero_add] at hst
    refine hst x u hc (hT1 i (List.getElem?_eq_some_iff.1 ho').1 hl) (knownTill_of _ fun e he hb hdd => hv _ (hon e.on (hall e (by simpa using he) hb)) (hall e (by simpa using he) hb) fun j hj => ?_) _ ?_
    · rcases hdd with h | h
      · rw [h] at hj; cases hj
      · rw [h] at hj; cases hj; exact hl
    rintro v _ u' hc' he hvi rfl
    have hput : (F x).put o.dst v = F (upd x i v) := by
      rw [← hF, ← hF]
      have := mkA_upd (v := v) l 0 i x a hd ho'
      rw [Nat.zero_add] at this
      exact this.symm
    refine ⟨⟨⟨hc', fun j hjl hju => ?_⟩, fun j oj hoj hj e he hb => ?_⟩, upd x i v, hput, fun j hjl hj hjd => ?_⟩
    · have hsz : i < ls.size := by
        rcases Nat.lt_or_ge i ls.size with h' | h'
        · exact h'
        · rw [Array.getD_eq_getD_getElem?, Array.getElem?_eq_none h'] at hl; simp at hl
      have hij : i ≠ j := fun e => by
        subst e
        rw [Array.getD_eq_getD_getElem?, Array.getElem?_setIfInBounds_self_of_lt hsz] at hju
        simp at hju
      rw [getD_set_ne true hij] at hju
      refine hTm _ _ _ _ he hij ?_ (hT1 j hjl hju)
      cases hnd : waits l i j with
      | false => rfl
      | true =>
        exfalso
        have h1 := waits_spec (ls := ls) ho' hnd (fun e he hb => hall e (by simpa using he) hb) hcl
        rw [Array.getD_eq_getD_getElem?] at h1 hju
        cases hls : ls[j]? with
        | none => rw [hls] at h1; simp at h1
        | some b => rw [hls] at h1 hju; simp at h1 hju; rw [h1] at hju; cases hju
    · by_cases hji : j = i
      · subst hji
        rw [ho'] at hoj; cases hoj
        exact getD_set_true (hall e he hb)
      · rw [getD_set_ne false (Ne.symm hji)] at hj
        exact getD_set_true (hcl j oj hoj hj e he hb)
    by_cases hji : j = i
    · subst hji; simpa [upd] using hvi
    · have e1 : upd x i v j = x j := if_neg hji
      have hne : dead j ≠ some i := fun e => by
        have h1 := hjd i e
        have hsz : i < ls.size := by
          rcases Nat.lt_or_ge i ls.size with h' | h'
          · exact h'
          · rw [Array.getD_eq_getD_getElem?, Array.getElem?_eq_none h'] at hl; simp at hl
        rw [Array.getD_eq_getD_getElem?, Array.getElem?_setIfInBounds_self_of_lt hsz] at h1
        simp at h1
      rw [e1]
      refine hmono _ _ _ _ _ he hji ?_ hne (hv j hjl ?_ fun q hq => ?_)
      · cases hnd : waits l j i with
        | false => rfl
        | true =>
          exfalso
          obtain ⟨oj, hoj⟩ : ∃ oj, l[j]? = some oj := ⟨_, List.getElem?_eq_getElem hjl⟩
          rw [getD_set_ne false (Ne.symm hji)] at hj
          have h1 := waits_spec (ls := ls) hoj hnd (fun e he hb => hcl j oj hoj hj e he hb) hcl
          rw [Array.getD_eq_getD_getElem?] at h1 hl
          cases hls : ls[i]? with
          | none => rw [hls] at h1; simp at h1
          | some b => rw [hls] at h1 hl; simp at h1 hl; rw [h1] at hl; cases hl
      · rw [getD_set_ne false (Ne.symm hji)] at hj
        exact hj
      · have h1 := hjd q hq
        have hqi : i ≠ q := fun e => hne (e ▸ hq)
        rw [getD_set_ne true hqi] at h1
        exact h1
  · rintro ls b u hs ⟨⟨⟨hc, _⟩, _⟩, x, rfl, hv⟩ hr
    refine fin x u hc fun i hi hdi => ?_
    have hi' : i < l.toArray.size := by simpa using hi
    have h1 := ready_all hs hx hr i hi'
    refine hv i hi ?_ (fun j hj => by rw [hdi] at hj; cases hj)
    rw [Array.getD_eq_getD_getElem?, Array.getElem?_eq_getElem (show i < ls.size by omega)] at h1 ⊢
    simpa using h1
  · unfold unlisted
    rw [Array.toList_replicate]
    exact Nat.le_trans List.countP_le_length (by simp)
  · rw [Array.getD_eq_getD_getElem?, Array.getElem?_replicate] at hi
    split at hi <;> simp at hi
  · rw [Array.getD_eq_getD_getElem?, Array.getElem?_replicate] at hi
    split at hi <;> simp at hi
end
end Go.Proofs.YtlliaihmfimdoaaGreat

namespace Go.Proofs.YtlliaihmfimdoaaGreat
open Go Go.RowKit
set_option linter.unusedVariables false

section
variable {P : Program} {Q : Exit → Act → World → Prop}

/-- **A region by what its operations yield.** C: the worlds between them; E k: how operation k turns one into the next; V i: what operation i has put: it holds on, or till operation 'dead i' has come up. -/
theorem wp_region_invX {id : Nat} {l : List Oper} {a : Act} {w : World} {F : (Nat → Value) → Act} (V : Nat → Value → Value → World → Prop) (par : Nat → Nat) (dead : Nat → Option Nat) (T : Nat → World → Prop) (C : World → Prop) (E : Nat → World → World → Prop)
    (hm : P.follows .mixedOrders = true) (hd : dstsApart l = true) (hx : lexOk l.toArray = true) (hF : ∀ x, mkA l 0 x a = F x)
    (hpar : ∀ i, i < l.length → par i = i ∨ waits l i (par i) = true) (hmono : ∀ k i v p w w', E k w w' → i ≠ k → waits l i k = false → dead i ≠ some k → V i v p w → V i v p w') (hTm : ∀ k j w w', E k w w' → k ≠ j → waits l k j = false → T j w → T j w') (hT : ∀ j, T j w.drew) (hC : C w.drew)
    (step : AllOps (fun i o => ∀ x w, C w → T i w → KnownTill (fun j _ w => V j (x j) (x (par j)) w) dead i x w o.after.toList → ∀ K : Act → World → Prop, (∀ v a' w', C w' → E i w w' → V i v (upd x i v (par i)) w' → a' = (F x).put o.dst v → K a' w') → if Region.wanted o (yielded l.toArray (F x).tmps) = true then Oper.wp P o (F x) w K Q else K ((F x).put o.dst undef) w) 0 l)
    (fin : ∀ x w', C w' → (∀ i, i < l.length → dead i = none → V i (x i) (x (par i)) w') → Q .normal (F x) w') : (Code.region id l.toArray true).wp P Q a w := by
  refine wp_region_any hm ?_
  have h0 : a = F fun i => (((l[i]?).bind (·.dst)).map fun t => a.tmps.getD t undef).getD undef := by
    rw [← hF, mkA_own]
    intro i o ho
    rw [Nat.zero_add, ho]
    rfl
  refine wpAny_inv (fun ls b u => ((C u ∧ ∀ j, j < l.length → ls.getD j true = false → T j u) ∧ ∀ i o, l[i]? = some o → ls.getD i false = true → ∀ e ∈ o.after, Region.binds .any e = true → ls.getD e.on false = true) ∧ ∃ x, b = F x ∧ ∀ i, i < l.length → ls.getD i false = true → (∀ j, dead i = some j → ls.getD j true = false) → V i (x i) (x (par i)) u) ?_ ?_ _ _ _ _ (by simp) ?_ ⟨⟨⟨hC, fun j _ _ => hT j⟩, fun i o _ hi => ?_⟩, _, h0, fun i _ hi => ?_⟩
  · rintro ls b u i hs ⟨⟨⟨hc, hT1⟩, hcl⟩, x, rfl, hv⟩ hi
    obtain ⟨hl, o, ho, hall⟩ := mem_ready.1 hi
    refine wpOp_want ho ?_
    have ho' : l[i]? = some o := by simpa using ho
    have hon : ∀ j, ls.getD j false = true → j < l.length := fun j hj => by
      rcases Nat.lt_or_ge j ls.size with h' | h'
      · simpa [hs] using h'
      · rw [Array.getD_eq_getD_getElem?, Array.getElem?_eq_none h'] at hj; simp at hj
    have hst := allOps_at _ _ _ _ step ho'
    rw [Nat.zero_add] at hst
    refine hst x u hc (hT1 i (List.getElem?_eq_some_iff.1 ho').1 hl) (knownTill_of _ fun e he hb hdd => hv _ (hon e.on (hall e (by simpa using he) hb)) (hall e (by simpa using he) hb) fun j hj => ?_) _ ?_
    · rcases hdd with h | h
      · rw [h] at hj; cases hj
      · rw [h] at hj; cases hj; exact hl
    rintro v _ u' hc' he hvi rfl
    have hput : (F x).put o.dst v = F (upd x i v) := by
      rw [← hF, ← hF]
      have := mkA_upd (v := v) l 0 i x a hd ho'
      rw [Nat.zero_add] at this
      exact this.symm
    refine ⟨⟨⟨hc', fun j hjl hju => ?_⟩, fun j oj hoj hj e he hb => ?_⟩, upd x i v, hput, fun j hjl hj hjd => ?_⟩
    · have hsz : i < ls.size := by
        rcases Nat.lt_or_ge i ls.size with h' | h'
        · exact h'
        · rw [Array.getD_eq_getD_getElem?, Array.getElem?_eq_none h'] at hl; simp at hl
      have hij : i ≠ j := fun e => by
        subst e
        rw [Array.getD_eq_getD_getElem?, Array.getElem?_setIfInBounds_self_of_lt hsz] at hju
        simp at hju
      rw [getD_set_ne true hij] at hju
      refine hTm _ _ _ _ he hij ?_ (hT1 j hjl hju)
      cases hnd : waits l i j with
      | false => rfl
      | true =>
        exfalso
        have h1 := waits_spec (ls := ls) ho' hnd (fun e he hb => hall e (by simpa using he) hb) hcl
        rw [Array.getD_eq_getD_getElem?] at h1 hju
        cases hls : ls[j]? with
        | none => rw [hls] at h1; simp at h1
        | some b => rw [hls] at h1 hju; simp at h1 hju; rw [h1] at hju; cases hju
    · by_cases hji : j = i
      · subst hji
        rw [ho'] at hoj; cases hoj
        exact getD_set_true (hall e he hb)
      · rw [getD_set_ne false (Ne.symm hji)] at hj
        exact getD_set_true (hcl j oj hoj hj e he hb)
    by_cases hji : j = i
    · subst hji
      have e1 : upd x j v j = v := if_pos rfl
      rw [e1]
      exact hvi
    · have e1 : upd x i v j = x j := if_neg hji
      have hne : dead j ≠ some i := fun e => by
        have h1 := hjd i e
        have hsz : i < ls.size := by
          rcases Nat.lt_or_ge i ls.size with h' | h'
          · exact h'
          · rw [Array.getD_eq_getD_getElem?, Array.getElem?_eq_none h'] at hl; simp at hl
        rw [Array.getD_eq_getD_getElem?, Array.getElem?_setIfInBounds_self_of_lt hsz] at h1
        simp at h1
      have hlsj : ls.getD j false = true := by rw [getD_set_ne false (Ne.symm hji)] at hj; exact hj
      have e2 : upd x i v (par j) = x (par j) := if_neg (by
        rcases hpar j hjl with h | h
        · rw [h]; exact hji
        · intro e
          obtain ⟨oj, hoj⟩ : ∃ oj, l[j]? = some oj := ⟨_, List.getElem?_eq_getElem hjl⟩
          have h1 := waits_spec (ls := ls) hoj h (fun e he hb => hcl j oj hoj hlsj e he hb) hcl
          rw [e] at h1
          rw [Array.getD_eq_getD_getElem?] at h1 hl
          cases hls : ls[i]? with
          | none => rw [hls] at h1; simp at h1
          | some b => rw [hls] at h1 hl; simp at h1 hl; rw [h1] at hl; cases hl)
      rw [e1, e2]
      refine hmono _ _ _ _ _ _ he hji ?_ hne (hv j hjl ?_ fun q hq => ?_)
      · cases hnd : waits l j i with
        | false => rfl
        | true =>
          exfalso
          obtain ⟨oj, hoj⟩ : ∃ oj, l[j]? = some oj := ⟨_, List.getElem?_eq_getElem hjl⟩
          rw [getD_set_ne false (Ne.symm hji)] at hj
          have h1 := waits_spec (ls := ls) hoj hnd (fun e he hb => hcl j oj hoj hj e he hb) hcl
          rw [Array.getD_eq_getD_getElem?] at h1 hl
          cases hls : ls[i]? with
          | none => rw [hls] at h1; simp at h1
          | some b => rw [hls] at h1 hl; simp at h1 hl; rw [h1] at hl; cases hl
      · rw [getD_set_ne false (Ne.symm hji)] at hj
        exact hj
      · have h1 := hjd q hq
        have hqi : i ≠ q := fun e => hne (e ▸ hq)
        rw [getD_set_ne true hqi] at h1
        exact h1
  · rintro ls b u hs ⟨⟨⟨hc, _⟩, _⟩, x, rfl, hv⟩ hr
    refine fin x u hc fun i hi hdi => ?_
    have hi' : i < l.toArray.size := by simpa using hi
    have h1 := ready_all hs hx hr i hi'
    refine hv i hi ?_ (fun j hj => by rw [hdi] at hj; cases hj)
    rw [Array.getD_eq_getD_getElem?, Array.getElem?_eq_getElem (show i < ls.size by omega)] at h1 ⊢
    simpa using h1
  · unfold unlisted
    rw [Array.toList_replicate]
    exact Nat.le_trans List.countP_le_length (by simp)
  · rw [Array.getD_eq_getD_getElem?, Array.getElem?_replicate] at hi
    split at hi <;> simp at hi
  · rw [Array.getD_eq_getD_getElem?, Array.getElem?_replicate] at hi
    split at hi <;> simp at hi
end
end Go.Proofs.YtlliaihmfimdoaaGreat
