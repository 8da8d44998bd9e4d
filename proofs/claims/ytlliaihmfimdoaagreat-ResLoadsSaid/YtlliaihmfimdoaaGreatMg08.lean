/- Parts Ba of one proof. -/
import Derived.Test.YtlliaihmfimdoaaGreatMg02
set_option linter.unusedSimpArgs false
set_option linter.unusedVariables false
namespace Go.Proofs.YtlliaihmfimdoaaGreat
open Go.RowKit Go.Maps
theorem lawI:Keyed Tryz.prog 3:=int_keyed Tryz.underlying3
def litI (k:Int):Lit:=.int .i64 k
theorem keyOf_i (k:Int) (h:i64ok k):keyOf Tryz.prog 3 (.int .i64 k)=some (litI k):=keyOf_int_mk Tryz.underlying3 (wf_of_ok h)
theorem keyOf_i_inv {v:Value} {l:Lit} (h:keyOf Tryz.prog 3 v=some l):∃ k,v=.int .i64 k∧i64ok k∧l=litI k:=by
 have h2:mapKey Tryz.prog 3 v=some l:=by rw [← h]; simp [keyOf,Tryz.underlying3]
 cases v <;> simp [mapKey,Tryz.underlying3] at h2
 obtain ⟨⟨rfl,hw⟩,rfl⟩:=h2
 exact ⟨_,rfl,ok_of_wf hw,rfl⟩
def asIf (f:Value→Bool) (v:Value):Option (DataW Value × List MemPlace):=if f v then some (.held v,[]) else none
theorem asIf_mk {f:Value→Bool} {v:Value} (h:f v=true):asIf f v=some (.held v,[]):=if_pos h
theorem asIf_inv {f:Value→Bool} {v:Value} {y:DataW Value × List MemPlace} (h:asIf f v=some y):f v=true∧y=(.held v,[]):=by
 unfold asIf at h
 split at h
 ·rename_i hf; exact ⟨hf,(Option.some.inj h).symm⟩
 ·cases h
structure ReadsF (D:DataW Value) (G:Int→Option Value):Prop where
 has:∀ k,i64ok k→Maps.has D (litI k)=(G k).isSome
 at_:∀ k v,i64ok k→G k=some v→∀ z,D.atKey (litI k) z=.held v
theorem ReadsF.empty:ReadsF (.map []) (fun _ => none):=⟨fun k _ => rfl,fun k v _ h => by cases h⟩
theorem litI_inj {a b:Int} (h:litI a=litI b):a=b:=by cases h; rfl
def putG (G:Int→Option Value) (k:Int) (v:Value):Int→Option Value:=fun j => if j=k then some v else G j
def delG (G:Int→Option Value) (k:Int):Int→Option Value:=fun j => if j=k then none else G j
theorem ReadsF.put {D:DataW Value} {G:Int→Option Value} (hm:IsMap D) (h:ReadsF D G) (k:Int) (v:Value):ReadsF (D.put (litI k) (.held v)) (putG G k v):=by
 refine ⟨fun j hj => ?_,fun j u hj hu z => ?_⟩
 ·unfold putG
  by_cases e:j=k
  ·subst e
   rw [if_pos rfl,has_put_same hm (show WideAt.IsKeyLit (litI j) from trivial)]; rfl
  ·rw [if_neg e,has_put_other (fun h2 => e (litI_inj h2)),h.has j hj]
 ·unfold putG at hu
  by_cases e:j=k
  ·subst e
   rw [if_pos rfl] at hu
   cases hu
   exact atKey_put_same hm (show WideAt.IsKeyLit (litI j) from trivial) _ _
  ·rw [if_neg e] at hu
   rw [atKey_put_other (fun h2 => e (litI_inj h2))]
   exact h.at_ j u hj hu z
theorem ReadsF.del {D:DataW Value} {G:Int→Option Value} (h:ReadsF D G) (k:Int):ReadsF (D.del (litI k)) (delG G k):=by
 refine ⟨fun j hj => ?_,fun j u hj hu z => ?_⟩
 ·unfold delG
  by_cases e:j=k
  ·subst e; rw [if_pos rfl,has_del_same]; rfl
  ·rw [if_neg e,has_del_other (fun h2 => e (litI_inj h2)),h.has j hj]
 ·unfold delG at hu
  by_cases e:j=k
  ·rw [if_pos e] at hu; cases hu
  ·rw [if_neg e] at hu
   rw [atKey_del_other (fun h2 => e (litI_inj h2))]
   exact h.at_ j u hj hu z
def FSrc (f:Value→Bool) (w:World) (m:Option Nat) (n:Nat) (G:Int→Option Value):Prop :=
 (m=none∧G=fun _ => none)∨∃ b,∃ D:DataW Value,m=some b∧w.ownsMap Tryz.prog 3 (asIf f) b n D∧ReadsF D G
section
variable {f:Value→Bool} {w w':World} {m:Option Nat} {n:Nat} {G:Int→Option Value}
theorem FSrc.below (h:FSrc f w m n G) (hb:Below w.heap.size w w'):FSrc f w' m n G:=by
 rcases h with h | ⟨b,D,h1,h2,h3⟩
 ·exact .inl h
 ·exact .inr ⟨b,D,h1,own_below h2 hb,h3⟩
theorem FSrc.kept {g:Nat} {t:TypeId} {cs:Array Value} (h:FSrc f w m n G) (hg:w.grownBy w' (some g)) (hk:Blk w g t cs):FSrc f w' m n G:=by
 rcases h with h | ⟨b,D,h1,h2,h3⟩
 ·exact .inl h
 ·exact .inr ⟨b,D,h1,h2.kept hg (fun e => own_ne_blk h2 hk (Option.some.inj e)),h3⟩
theorem FSrc.more {n':Nat} (h:FSrc f w m n G) (hn:n≤n'):FSrc f w m n' G:=by
 rcases h with h | ⟨b,D,h1,h2,h3⟩
 ·exact .inl h
 ·exact .inr ⟨b,D,h1,h2.mono hn,h3⟩
theorem FSrc.len_run (h:FSrc f w m n G) (t:TypeId) (e:TypeId) (ht:Tryz.prog.underlying t=some (.map 3 e)) (ty:TypeId):∃ q:Nat,q≤n∧(Builtin.len_ #[t] ty #[.map m]).run Tryz.prog w=.ok (.int .i64 q) w:=by
 rcases h with ⟨rfl,rfl⟩ | ⟨b,D,rfl,h2,h3⟩
 ·exact ⟨0,Nat.zero_le _,Maps.len_nil ht ty⟩
 ·exact ⟨Maps.size D,h2.size_le,h2.len ht ty⟩
theorem FSrc.look (h:FSrc f w m n G) (t e:TypeId) (ht:Tryz.prog.underlying t=some (.map 3 e)) {z:Value} (hfz:f z=true) (hz:(zeroValue e).run Tryz.prog w=.ok z w) {k:Int} (hk:i64ok k) :
  (Instr.lookup t (.map m) (.int .i64 k) false).run Tryz.prog w=.ok ((G k).getD z) w:=by
 rcases h with ⟨rfl,rfl⟩ | ⟨b,D,rfl,h2,h3⟩
 ·exact Maps.look_nil false lawI ht hz (keyOf_i k hk)
 ·obtain ⟨v,ps,hrun,hv⟩:=h2.lookup lawI ht hz (asIf_mk hfz) (keyOf_i k hk)
  rw [hrun]
  have e1:(.held v:DataW Value)=D.atKey (litI k) (.held z):=(congrArg Prod.fst (asIf_inv hv).2).symm
  rcases hG:G k with _ | u
  ·have hh:=h3.has k hk
   rw [hG] at hh
   rw [atKey_of_not_has hh] at e1
   cases e1; rfl
  ·rw [h3.at_ k u hk hG] at e1
   cases e1; rfl
theorem FSrc.look_ok (h:FSrc f w m n G) (t e:TypeId) (ht:Tryz.prog.underlying t=some (.map 3 e)) {z:Value} (hfz:f z=true) (hz:(zeroValue e).run Tryz.prog w=.ok z w) {k:Int} (hk:i64ok k) :
  (Instr.lookup t (.map m) (.int .i64 k) true).run Tryz.prog w=.ok (.tuple #[(G k).getD z,.bool (G k).isSome]) w:=by
 rcases h with ⟨rfl,rfl⟩ | ⟨b,D,rfl,h2,h3⟩
 ·exact Maps.look_nil true lawI ht hz (keyOf_i k hk)
 ·obtain ⟨v,ps,hrun,hv⟩:=h2.look_ok lawI ht hz (asIf_mk hfz) (keyOf_i k hk)
  rw [hrun,h3.has k hk]
  have e1:(.held v:DataW Value)=D.atKey (litI k) (.held z):=(congrArg Prod.fst (asIf_inv hv).2).symm
  rcases hG:G k with _ | u
  ·have hh:=h3.has k hk
   rw [hG] at hh
   rw [atKey_of_not_has hh] at e1
   cases e1; rfl
  ·rw [h3.at_ k u hk hG] at e1
   cases e1; rfl
end
end Go.Proofs.YtlliaihmfimdoaaGreat

