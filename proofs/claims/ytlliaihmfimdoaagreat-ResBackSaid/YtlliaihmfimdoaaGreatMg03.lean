/- Parts Mp Ba of one proof. -/
import Derived.Test.YtlliaihmfimdoaaGreatMg02
import Derived.Test.YtlliaihmfimdoaaGreatProg
import Derived.DeepKeys4
import Derived.Maps.OwnSet
import Derived.Maps.RangeWalk
import Derived.Maps.Ext
namespace Go.Proofs.YtlliaihmfimdoaaGreat
open Go.RowKit Go.Maps
set_option linter.unusedVariables false
set_option linter.unusedSimpArgs false

def i64ok (x : Int) : Prop := -9223372036854775808 ≤ x ∧ x ≤ 9223372036854775807
theorem wf_of_ok {x : Int} (h : i64ok x) : (Lit.int .i64 x).wf = true := by
  unfold i64ok at h
  simpa [Lit.wf, IntKind.min, IntKind.max, IntKind.signed, IntKind.bits] using h
theorem ok_of_wf {x : Int} (h : (Lit.int .i64 x).wf = true) : i64ok x := by
  unfold i64ok
  simpa [Lit.wf, IntKind.min, IntKind.max, IntKind.signed, IntKind.bits] using h
theorem own_ne_blk {w : World} {H : Type} {P : Program} {k t : TypeId} {R : Value → Option (DataW H × List MemPlace)} {b n g : Nat} {D : DataW H} {cs : Array Value} (h : w.ownsMap P k R b n D) (hb : Blk w g t cs) : b ≠ g := fun e => by
  obtain ⟨es, clock, h1, _⟩ := h
  subst e; unfold Blk at hb; rw [h1] at hb; cases hb
theorem own_below {w w' : World} {H : Type} {P : Program} {k : TypeId} {R : Value → Option (DataW H × List MemPlace)} {b n : Nat} {D : DataW H} (h : w.ownsMap P k R b n D) (hb : Below w.heap.size w w') : w'.ownsMap P k R b n D :=
  h.kept (row := none) ⟨hb.os, hb.tape, hb.output, hb.size, fun k hk _ => hb.block k hk⟩ (by simp)
theorem lbelow_grown {w w' : World} (hb : Below w.heap.size w w') (row : Option Nat) : w.grownBy w' row := ⟨hb.os, hb.tape, hb.output, hb.size, fun k hk _ => hb.block k hk⟩
theorem lgrown_below {w w' : World} (hg : w.grownBy w' none) : Below w.heap.size w w' := ⟨hg.os, hg.tape, hg.output, hg.size, fun k hk => hg.block k hk (by simp)⟩
theorem lgrown_set (w : World) (p : Addr) (u : Value) : w.grownBy (w.setCell p u) (some p.block) :=
  ⟨rfl, rfl, rfl, by simp [World.setCell], fun k _ hk => Below.heap_setCell w p u k (fun e => hk (by rw [e]))⟩
theorem set_self {cs : Array Value} {i : Nat} {v : Value} (h : cs[i]? = some v) : cs.setIfInBounds i v = cs := by
  obtain ⟨hi, e⟩ := Array.getElem?_eq_some_iff.1 h
  apply Array.ext_getElem?
  intro j
  by_cases hj : j = i
  · subst hj
    rw [Array.getElem?_setIfInBounds_self_of_lt hi, h]
  · rw [Array.getElem?_setIfInBounds_ne (fun e => hj e.symm)]
theorem set_at {cs : Array Value} {i : Nat} {v u : Value} (h : cs[i]? = some v) : (cs.setIfInBounds i u)[i]? = some u := by
  obtain ⟨hi, e⟩ := Array.getElem?_eq_some_iff.1 h
  simp [hi]
theorem wpList_append_run {P : Program} {w : World} {ops : Array Oper} {rest : List Oper} {o : Oper} {a : Act} {Q : Exit → Act → World → Prop} (hgd : o.guard = none) (s x : Operand) (t : TypeId)
    (ho : o.op = .call { callee := .builtin .append, args := #[s, x], argTypes := #[t, t] }) (sv xv v : Value) (w' : World) (hs : a.eval s = sv) (hx : a.eval x = xv) (hrun : (Builtin.append_ #[t, t] o.type #[sv, xv]).run P w = .ok v w') (h : wpList P ops Q rest (a.put o.dst v) w') :
    wpList P ops Q (o :: rest) a w := by
  refine wpList_plain hgd fun _ hK => ?_
  unfold Oper.wp execOp
  simp only [ho, resolve, invoke, builtin, Sem.run_bind, Sem.run_pure, Result.andThen_ok, List.map_toArray, List.map_cons, List.map_nil, hs, hx, hrun]
  exact hK _ _ h
end Go.Proofs.YtlliaihmfimdoaaGreat

namespace Go.Proofs.YtlliaihmfimdoaaGreat
open Go.RowKit Go.Maps
set_option linter.unusedVariables false
set_option linter.unusedSimpArgs false

theorem lawI : Keyed Tryz.prog 3 := int_keyed Tryz.underlying3
def litI (k : Int) : Lit := .int .i64 k
theorem keyOf_i (k : Int) (h : i64ok k) : keyOf Tryz.prog 3 (.int .i64 k) = some (litI k) := keyOf_int_mk Tryz.underlying3 (wf_of_ok h)
theorem keyOf_i_inv {v : Value} {l : Lit} (h : keyOf Tryz.prog 3 v = some l) : ∃ k, v = .int .i64 k ∧ i64ok k ∧ l = litI k := by
  have h2 : mapKey Tryz.prog 3 v = some l := by rw [← h]; simp [keyOf, Tryz.underlying3]
  cases v <;> simp [mapKey, Tryz.underlying3] at h2
  obtain ⟨⟨rfl, hw⟩, rfl⟩ := h2
  exact ⟨_, rfl, ok_of_wf hw, rfl⟩
/-- An element of a form is kept as it is. -/
def asIf (f : Value → Bool) (v : Value) : Option (DataW Value × List MemPlace) := if f v then some (.held v, []) else none
theorem asIf_mk {f : Value → Bool} {v : Value} (h : f v = true) : asIf f v = some (.held v, []) := if_pos h
theorem asIf_inv {f : Value → Bool} {v : Value} {y : DataW Value × List MemPlace} (h : asIf f v = some y) : f v = true ∧ y = (.held v, []) := by
  unfold asIf at h
  split at h
  · rename_i hf; exact ⟨hf, (Option.some.inj h).symm⟩
  · cases h
/-- D reads as the function G. -/
structure ReadsF (D : DataW Value) (G : Int → Option Value) : Prop where
  has : ∀ k, i64ok k → Maps.has D (litI k) = (G k).isSome
  at_ : ∀ k v, i64ok k → G k = some v → ∀ z, D.atKey (litI k) z = .held v
theorem ReadsF.empty : ReadsF (.map []) (fun _ => none) := ⟨fun k _ => rfl, fun k v _ h => by cases h⟩
theorem litI_inj {a b : Int} (h : litI a = litI b) : a = b := by cases h; rfl
def putG (G : Int → Option Value) (k : Int) (v : Value) : Int → Option Value := fun j => if j = k then some v else G j
def delG (G : Int → Option Value) (k : Int) : Int → Option Value := fun j => if j = k then none else G j
theorem ReadsF.put {D : DataW Value} {G : Int → Option Value} (hm : IsMap D) (h : ReadsF D G) (k : Int) (v : Value) : ReadsF (D.put (litI k) (.held v)) (putG G k v) := by
  refine ⟨fun j hj => ?_, fun j u hj hu z => ?_⟩
  · unfold putG
    by_cases e : j = k
    · subst e
      rw [if_pos rfl, has_put_same hm (show WideAt.IsKeyLit (litI j) from trivial)]; rfl
    · rw [if_neg e, has_put_other (fun h2 => e (litI_inj h2)), h.has j hj]
  · unfold putG at hu
    by_cases e : j = k
    · subst e
      rw [if_pos rfl] at hu
      cases hu
      exact atKey_put_same hm (show WideAt.IsKeyLit (litI j) from trivial) _ _
    · rw [if_neg e] at hu
      rw [atKey_put_other (fun h2 => e (litI_inj h2))]
      exact h.at_ j u hj hu z
theorem ReadsF.del {D : DataW Value} {G : Int → Option Value} (h : ReadsF D G) (k : Int) : ReadsF (D.del (litI k)) (delG G k) := by
  refine ⟨fun j hj => ?_, fun j u hj hu z => ?_⟩
  · unfold delG
    by_cases e : j = k
    · subst e; rw [if_pos rfl, has_del_same]; rfl
    · rw [if_neg e, has_del_other (fun h2 => e (litI_inj h2)), h.has j hj]
  · unfold delG at hu
    by_cases e : j = k
    · rw [if_pos e] at hu; cases hu
    · rw [if_neg e] at hu
      rw [atKey_del_other (fun h2 => e (litI_inj h2))]
      exact h.at_ j u hj hu z
/-- What is known of such a map, wherever it lies: at most n entries. -/
def FSrc (f : Value → Bool) (w : World) (m : Option Nat) (n : Nat) (G : Int → Option Value) : Prop :=
  (m = none ∧ G = fun _ => none) ∨ ∃ b, ∃ D : DataW Value, m = some b ∧ w.ownsMap Tryz.prog 3 (asIf f) b n D ∧ ReadsF D G
section
variable {f : Value → Bool} {w w' : World} {m : Option Nat} {n : Nat} {G : Int → Option Value}
theorem FSrc.below (h : FSrc f w m n G) (hb : Below w.heap.size w w') : FSrc f w' m n G := by
  rcases h with h | ⟨b, D, h1, h2, h3⟩
  · exact .inl h
  · exact .inr ⟨b, D, h1, own_below h2 hb, h3⟩
theorem FSrc.kept {g : Nat} {t : TypeId} {cs : Array Value} (h : FSrc f w m n G) (hg : w.grownBy w' (some g)) (hk : Blk w g t cs) : FSrc f w' m n G := by
  rcases h with h | ⟨b, D, h1, h2, h3⟩
  · exact .inl h
  · exact .inr ⟨b, D, h1, h2.kept hg (fun e => own_ne_blk h2 hk (Option.some.inj e)), h3⟩
theorem FSrc.more {n' : Nat} (h : FSrc f w m n G) (hn : n ≤ n') : FSrc f w m n' G := by
  rcases h with h | ⟨b, D, h1, h2, h3⟩
  · exact .inl h
  · exact .inr ⟨b, D, h1, h2.mono hn, h3⟩
theorem FSrc.len_run (h : FSrc f w m n G) (t : TypeId) (e : TypeId) (ht : Tryz.prog.underlying t = some (.map 3 e)) (ty : TypeId) : ∃ q : Nat, q ≤ n ∧ (Builtin.len_ #[t] ty #[.map m]).run Tryz.prog w = .ok (.int .i64 q) w := by
  rcases h with ⟨rfl, rfl⟩ | ⟨b, D, rfl, h2, h3⟩
  · exact ⟨0, Nat.zero_le _, Maps.len_nil ht ty⟩
  · exact ⟨Maps.size D, h2.size_le, h2.len ht ty⟩
theorem FSrc.look (h : FSrc f w m n G) (t e : TypeId) (ht : Tryz.prog.underlying t = some (.map 3 e)) {z : Value} (hfz : f z = true) (hz : (zeroValue e).run Tryz.prog w = .ok z w) {k : Int} (hk : i64ok k) :
    (Instr.lookup t (.map m) (.int .i64 k) false).run Tryz.prog w = .ok ((G k).getD z) w := by
  rcases h with ⟨rfl, rfl⟩ | ⟨b, D, rfl, h2, h3⟩
  · exact Maps.look_nil false lawI ht hz (keyOf_i k hk)
  · obtain ⟨v, ps, hrun, hv⟩ := h2.lookup lawI ht hz (asIf_mk hfz) (keyOf_i k hk)
    rw [hrun]
    have e1 : (.held v : DataW Value) = D.atKey (litI k) (.held z) := (congrArg Prod.fst (asIf_inv hv).2).symm
    rcases hG : G k with _ | u
    · have hh := h3.has k hk
      rw [hG] at hh
      rw [atKey_of_not_has hh] at e1
      cases e1; rfl
    · rw [h3.at_ k u hk hG] at e1
      cases e1; rfl
theorem FSrc.look_ok (h : FSrc f w m n G) (t e : TypeId) (ht : Tryz.prog.underlying t = some (.map 3 e)) {z : Value} (hfz : f z = true) (hz : (zeroValue e).run Tryz.prog w = .ok z w) {k : Int} (hk : i64ok k) :
    (Instr.lookup t (.map m) (.int .i64 k) true).run Tryz.prog w = .ok (.tuple #[(G k).getD z, .bool (G k).isSome]) w := by
  rcases h with ⟨rfl, rfl⟩ | ⟨b, D, rfl, h2, h3⟩
  · exact Maps.look_nil true lawI ht hz (keyOf_i k hk)
  · obtain ⟨v, ps, hrun, hv⟩ := h2.look_ok lawI ht hz (asIf_mk hfz) (keyOf_i k hk)
    rw [hrun, h3.has k hk]
    have e1 : (.held v : DataW Value) = D.atKey (litI k) (.held z) := (congrArg Prod.fst (asIf_inv hv).2).symm
    rcases hG : G k with _ | u
    · have hh := h3.has k hk
      rw [hG] at hh
      rw [atKey_of_not_has hh] at e1
      cases e1; rfl
    · rw [h3.at_ k u hk hG] at e1
      cases e1; rfl
end
end Go.Proofs.YtlliaihmfimdoaaGreat
