/- The rule for regions by an invariant, in the frame of a round; and append there. -/
import Derived.Test.YtfcafahgmnnlnaaInv
import Derived.Test.YtfcafahgmnnlnaaBase2
import Derived.OrdersIn
import Derived.TacticsIn
import Derived.OwnWalkIn
namespace Go.Proofs.Ytfcafahgmnnlnaa
open Go Go.RowKit
set_option linter.unusedVariables false

section
variable {Fc : Fence} {n : Nat} {P : Program} {ops : Array Oper} {Q : Exit → Act → World → Prop}

theorem wpOpIn_want (hF : ∀ f, Fc.fn f) {i : Nat} {o : Oper} {K : Act → World → Prop} {a : Act} {w : World} (ho : ops[i]? = some o)
    (h : if Region.wanted o (yielded ops a.tmps) = true then Oper.wpIn Fc n P o a w K Q else K (a.put o.dst undef) w) : wpOpIn Fc n P ops Q i K a w := by
  unfold wpOpIn
  rw [ho]
  show if Region.wanted o (yielded ops a.tmps) = true then _ else _
  split
  · rename_i hw; rw [if_pos hw] at h; exact h
  · rename_i hw; rw [if_neg hw] at h; exact ⟨fun f _ => hF f, h⟩

theorem wpAnyIn_inv {md : Region.Mode} (I : Array Bool → Act → World → Prop)
    (step : ∀ l a w i, l.size = ops.size → I l a w → i ∈ Region.ready md ops l → wpOpIn Fc n P ops Q i (I (l.setIfInBounds i true)) a w)
    (fin : ∀ l a w, l.size = ops.size → I l a w → Region.ready md ops l = [] → Q .normal a w) :
    ∀ (fuel : Nat) (l : Array Bool) (a : Act) (w : World), l.size = ops.size → unlisted l ≤ fuel → I l a w → wpAnyIn Fc n P md ops Q fuel l a w := by
  intro fuel
  induction fuel with
  | zero => intro l a w hs hu hI; exact ⟨ready_none hs (by omega), fin _ _ _ hs hI (ready_none hs (by omega))⟩
  | succ fuel ih =>
    intro l a w hs hu hI
    refine ⟨fun h0 => fin _ _ _ hs hI h0, fun i hi => ?_⟩
    refine wpOpIn_mono ?_ (step l a w i hs hI hi)
    intro a' w' h'
    have := unlisted_set (mem_ready.1 hi).1
    exact ih _ a' w' (by simpa using hs) (by omega) h'

/-- What is known of the operations that number k waits for: of those whose word holds till k itself comes up, too. -/
def KnownTill (V : Nat → Value → World → Prop) (dead : Nat → Option Nat) (k : Nat) (x : Nat → Value) (w : World) : List Edge → Prop
  | [] => True
  | e :: es => (Region.binds .any e = true → (dead e.on = none ∨ dead e.on = some k) → V e.on (x e.on) w) ∧ KnownTill V dead k x w es
theorem knownTill_of {V : Nat → Value → World → Prop} {dead : Nat → Option Nat} {k : Nat} {x : Nat → Value} {w : World} : ∀ (l : List Edge), (∀ e ∈ l, Region.binds .any e = true → (dead e.on = none ∨ dead e.on = some k) → V e.on (x e.on) w) → KnownTill V dead k x w l
  | [], _ => trivial
  | e :: es, h => ⟨h e List.mem_cons_self, knownTill_of es fun e' he' => h e' (List.mem_cons_of_mem _ he')⟩

/-- Where 'need i k' says so, operation i waits for operation k. -/
def needOk (l : List Oper) (need : Nat → Nat → Bool) : Bool :=
  (List.range l.length).all fun i => (List.range l.length).all fun k => !need i k || (match l[i]? with | some o => o.after.any fun e => Region.binds .any e && e.on == k | none => false)
theorem needOk_spec {l : List Oper} {need : Nat → Nat → Bool} (h : needOk l need = true) {i k : Nat} {o : Oper} (ho : l[i]? = some o) (hk : k < l.length) (hn : need i k = true) : ∃ e ∈ o.after, Region.binds .any e = true ∧ e.on = k := by
  have hi : i < l.length := (List.getElem?_eq_some_iff.1 ho).1
  have h1 := List.all_eq_true.1 (List.all_eq_true.1 h i (List.mem_range.2 hi)) k (List.mem_range.2 hk)
  rw [hn, ho] at h1
  simp only [Bool.not_true, Bool.false_or] at h1
  obtain ⟨j, hj, h2⟩ := Array.any_eq_true.1 h1
  simp only [Bool.and_eq_true, beq_iff_eq] at h2
  exact ⟨_, Array.getElem_mem hj, h2⟩

/-- **A region by what its operations yield, in the frame of a round.** C: the worlds between them; E k: how operation k turns one into the next; V i: what operation i has put: it holds on, or till operation 'dead i' has come up. -/
theorem wpIn_region_inv (hFn : ∀ f, Fc.fn f) {id : Nat} {l : List Oper} {a : Act} {w : World} {F : (Nat → Value) → Act} (V : Nat → Value → World → Prop) (dead : Nat → Option Nat) (need : Nat → Nat → Bool) (T : Nat → World → Prop) (C : World → Prop) (E : Nat → World → World → Prop)
    (hm : P.follows .mixedOrders = true) (hd : dstsApart l = true) (hx : lexOk l.toArray = true) (hneed : needOk l need = true) (hF : ∀ x, mkA l 0 x a = F x)
    (hmono : ∀ k i v w w', E k w w' → i ≠ k → need i k = false → dead i ≠ some k → V i v w → V i v w') (hTm : ∀ k j w w', E k w w' → k ≠ j → need k j = false → T j w → T j w') (hT : ∀ j, T j w.drew) (hC : C w.drew)
    (step : AllOps (fun i o => ∀ x w, C w → T i w → KnownTill V dead i x w o.after.toList → ∀ K : Act → World → Prop, (∀ v a' w', C w' → E i w w' → V i v w' → a' = (F x).put o.dst v → K a' w') → if Region.wanted o (yielded l.toArray (F x).tmps) = true then Oper.wpIn Fc n P o (F x) w K Q else K ((F x).put o.dst undef) w) 0 l)
    (fin : ∀ x w', C w' → (∀ i, i < l.length → dead i = none → V i (x i) w') → Q .normal (F x) w') : (Code.region id l.toArray true).wpIn Fc n P Q a w := by
  refine wpIn_region_any hm ?_
  have h0 : a = F fun i => (((l[i]?).bind (·.dst)).map fun t => a.tmps.getD t undef).getD undef := by
    rw [← hF, mkA_own]
    intro i o ho
    rw [Nat.zero_add, ho]
    rfl
  refine wpAnyIn_inv (fun ls b u => ((C u ∧ ∀ j, j < l.length → ls.getD j true = false → T j u) ∧ ∀ i o, l[i]? = some o → ls.getD i false = true → ∀ e ∈ o.after, Region.binds .any e = true → ls.getD e.on false = true) ∧ ∃ x, b = F x ∧ ∀ i, i < l.length → ls.getD i false = true → (∀ j, dead i = some j → ls.getD j true = false) → V i (x i) u) ?_ ?_ _ _ _ _ (by simp) ?_ ⟨⟨⟨hC, fun j _ _ => hT j⟩, fun i o _ hi => ?_⟩, _, h0, fun i _ hi => ?_⟩
  · rintro ls b u i hs ⟨⟨⟨hc, hT1⟩, hcl⟩, x, rfl, hv⟩ hi
    obtain ⟨hl, o, ho, hall⟩ := mem_ready.1 hi
    refine wpOpIn_want hFn ho ?_
    have ho' : l[i]? = some o := by simpa using ho
    have hon : ∀ j, ls.getD j false = true → j < l.length := fun j hj => by
      rcases Nat.lt_or_ge j ls.size with h' | h'
      · simpa [hs] using h'
      · rw [Array.getD_eq_getD_getElem?, Array.getElem?_eq_none h'] at hj; simp at hj
    have hst := allOps_at _ _ _ _ step ho'
    rw [Nat.zero_add] at hst
    refine hst x u hc (hT1 i (List.getElem?_eq_some_iff.1 ho').1 hl) (knownTill_of _ fun e he hb hdd => hv _ (hon e.on (hall e (by simpa using he) hb)) (hall e (by simpa using he) hb) fun j hj => ?_) _ ?_
    · rcases hdd with h | h
      · rw [h] at hj; cases hj
      · rw [h] at hj; cases hj; exact hl
    rintro v _ u' hc' he hvi rfl
    have hput : (F x).put o.dst v = F (upd x i v) := by
      rw [← hF, ← hF]
      have := mkA_upd (v := v) l 0 i x a hd ho'
      rw [Nat.zero_add] at this
      exact this.symm
    refine ⟨⟨⟨hc', fun j hjl hju => ?_⟩, fun j oj hoj hj e he hb => ?_⟩, upd x i v, hput, fun j hjl hj hjd => ?_⟩
    · have hsz : i < ls.size := by
        rcases Nat.lt_or_ge i ls.size with h' | h'
        · exact h'
        · rw [Array.getD_eq_getD_getElem?, Array.getElem?_eq_none h'] at hl; simp at hl
      have hij : i ≠ j := fun e => by
        subst e
        rw [Array.getD_eq_getD_getElem?, Array.getElem?_setIfInBounds_self_of_lt hsz] at hju
        simp at hju
      rw [getD_set_ne true hij] at hju
      refine hTm _ _ _ _ he hij ?_ (hT1 j hjl hju)
      cases hnd : need i j with
      | false => rfl
      | true =>
        exfalso
        obtain ⟨e, he2, hb2, he3⟩ := needOk_spec hneed ho' hjl hnd
        have h1 := hall e he2 hb2
        rw [he3] at h1
        rw [Array.getD_eq_getD_getElem?] at h1 hju
        cases hls : ls[j]? with
        | none => rw [hls] at h1; simp at h1
        | some b => rw [hls] at h1 hju; simp at h1 hju; rw [h1] at hju; cases hju
    · by_cases hji : j = i
      · subst hji
        rw [ho'] at hoj; cases hoj
        exact getD_set_true (hall e he hb)
      · rw [getD_set_ne false (Ne.symm hji)] at hj
        exact getD_set_true (hcl j oj hoj hj e he hb)
    by_cases hji : j = i
    · subst hji; simpa [upd] using hvi
    · have e1 : upd x i v j = x j := if_neg hji
      have hne : dead j ≠ some i := fun e => by
        have h1 := hjd i e
        have hsz : i < ls.size := by
          rcases Nat.lt_or_ge i ls.size with h' | h'
          · exact h'
          · rw [Array.getD_eq_getD_getElem?, Array.getElem?_eq_none h'] at hl; simp at hl
        rw [Array.getD_eq_getD_getElem?, Array.getElem?_setIfInBounds_self_of_lt hsz] at h1
        simp at h1
      rw [e1]
      refine hmono _ _ _ _ _ he hji ?_ hne (hv j hjl ?_ fun q hq => ?_)
      · cases hnd : need j i with
        | false => rfl
        | true =>
          exfalso
          obtain ⟨oj, hoj⟩ : ∃ oj, l[j]? = some oj := ⟨_, List.getElem?_eq_getElem hjl⟩
          obtain ⟨e, he2, hb2, he3⟩ := needOk_spec hneed hoj (List.getElem?_eq_some_iff.1 ho').1 hnd
          rw [getD_set_ne false (Ne.symm hji)] at hj
          have h1 := hcl j oj hoj hj e he2 hb2
          rw [he3] at h1
          rw [Array.getD_eq_getD_getElem?] at h1 hl
          cases hls : ls[i]? with
          | none => rw [hls] at h1; simp at h1
          | some b => rw [hls] at h1 hl; simp at h1 hl; rw [h1] at hl; cases hl
      · rw [getD_set_ne false (Ne.symm hji)] at hj
        exact hj
      · have h1 := hjd q hq
        have hqi : i ≠ q := fun e => hne (e ▸ hq)
        rw [getD_set_ne true hqi] at h1
        exact h1
  · rintro ls b u hs ⟨⟨⟨hc, _⟩, _⟩, x, rfl, hv⟩ hr
    refine fin x u hc fun i hi hdi => ?_
    have hi' : i < l.toArray.size := by simpa using hi
    have h1 := ready_all hs hx hr i hi'
    refine hv i hi ?_ (fun j hj => by rw [hdi] at hj; cases hj)
    rw [Array.getD_eq_getD_getElem?, Array.getElem?_eq_getElem (show i < ls.size by omega)] at h1 ⊢
    simpa using h1
  · unfold unlisted
    rw [Array.toList_replicate]
    exact Nat.le_trans List.countP_le_length (by simp)
  · rw [Array.getD_eq_getD_getElem?, Array.getElem?_replicate] at hi
    split at hi <;> simp at hi
  · rw [Array.getD_eq_getD_getElem?, Array.getElem?_replicate] at hi
    split at hi <;> simp at hi

theorem wpListIn_append_bs (hFn : ∀ f, Fc.fn f) {w : World} {ops : Array Oper} {rest : List Oper} {o : Oper} {a : Act} {Q : Exit → Act → World → Prop} (hgd : o.guard = none) (s x : Operand) (t : TypeId)
    (ho : o.op = .call { callee := .builtin .append, args := #[s, x], argTypes := #[t, t] })
    (base : Nat) (e : TypeId) (i : TypeInfo) (z : Value) (ht : P.underlying t = some (.slice e)) (hi : P.info? e = some i) (hz : i.zero = some z)
    (hsize : i.size = 1) (hby : i.bytes = 1) (hzs : z.cells.size = 1) (A : Option Addr) (c : Nat) (l : List UInt8) (m0 : Nat) (hs : a.eval s = .slice A m0 c) (hn : m0 = l.length) (hown : Own w base e A c l)
    (B : Nat) (A' : Option Addr) (c' : Nat) (m : List UInt8) (n' : Nat) (hx : a.eval x = .slice A' n' c') (hn' : n' = m.length) (hr : Bs w B A' m) (hlen : l.length + m.length ≤ 140737488355328) (hbase : base ≤ w.heap.size)
    (h : ∀ A2 c2 w', Own w' base e A2 c2 (l ++ m) → w.grownBy w' (blk A) → (blk A2 = blk A ∨ blk A2 = some w.heap.size) → wpListIn Fc n P ops Q rest (a.put o.dst (.slice A2 (m0 + n') c2)) w') : wpListIn Fc n P ops Q (o :: rest) a w := by
  subst hn hn'
  refine wpListIn_plain hgd fun _ hK => ?_
  obtain ⟨A2, c2, w', hrun, h2, h3, h4⟩ := run_append_bs (P := P) w base t o.type e i z ht hi hz hsize hby hzs A c l hown B A' c' m hr hlen hbase
  unfold Oper.wpIn
  refine ⟨fun f _ => hFn f, ?_⟩
  rw [Oper.semAt_eq _ _ _ (by intro c; rw [ho]; simp)]
  unfold execOp
  simp only [ho, resolve, invoke, builtin, Sem.run_bind, Sem.run_pure, Result.andThen_ok, List.map_toArray, List.map_cons, List.map_nil, hs, hx, hrun]
  exact hK _ _ (h A2 c2 w' h2 h3 h4)

/-- The same as one step of a region that draws its order. -/
theorem stepIn_append_bs (hFn : ∀ f, Fc.fn f) (w : World) {ops : Array Oper} {o : Oper} {a : Act} {K : Act → World → Prop} {Q : Exit → Act → World → Prop} {E : Prop} (hgd : o.guard = none) (s x : Operand) (t : TypeId)
    (ho : o.op = .call { callee := .builtin .append, args := #[s, x], argTypes := #[t, t] })
    (base : Nat) (e : TypeId) (i : TypeInfo) (z : Value) (ht : P.underlying t = some (.slice e)) (hi : P.info? e = some i) (hz : i.zero = some z)
    (hsize : i.size = 1) (hby : i.bytes = 1) (hzs : z.cells.size = 1) (A : Option Addr) (c : Nat) (l : List UInt8) (m0 : Nat) (hs : a.eval s = .slice A m0 c) (hn : m0 = l.length) (hown : Own w base e A c l)
    (B : Nat) (A' : Option Addr) (c' : Nat) (m : List UInt8) (n' : Nat) (hx : a.eval x = .slice A' n' c') (hn' : n' = m.length) (hr : Bs w B A' m) (hlen : l.length + m.length ≤ 140737488355328) (hbase : base ≤ w.heap.size)
    (h : ∀ A2 c2 w', Own w' base e A2 c2 (l ++ m) → w.grownBy w' (blk A) → (blk A2 = blk A ∨ blk A2 = some w.heap.size) → K (a.put o.dst (.slice A2 (m0 + n') c2)) w') :
    if Region.wanted o (yielded ops a.tmps) = true then Oper.wpIn Fc n P o a w K Q else E := by
  have hw : Region.wanted o (yielded ops a.tmps) = true := by simp [Region.wanted, hgd]
  rw [if_pos hw]
  subst hn hn'
  obtain ⟨A2, c2, w', hrun, h2, h3, h4⟩ := run_append_bs (P := P) w base t o.type e i z ht hi hz hsize hby hzs A c l hown B A' c' m hr hlen hbase
  unfold Oper.wpIn
  refine ⟨fun f _ => hFn f, ?_⟩
  rw [Oper.semAt_eq _ _ _ (by intro c; rw [ho]; simp)]
  unfold execOp
  simp only [ho, resolve, invoke, builtin, Sem.run_bind, Sem.run_pure, Result.andThen_ok, List.map_toArray, List.map_cons, List.map_nil, hs, hx, hrun]
  exact h A2 c2 w' h2 h3 h4
end
end Go.Proofs.Ytfcafahgmnnlnaa
