/- Parts InvJ of one proof. -/
import Derived.Test.YtlliaihmfimdoaaGreatMg04
set_option linter.unusedVariables false
namespace Go.Proofs.YtlliaihmfimdoaaGreat
open Go Go.RowKit
def updB (ls:Nat→Bool) (i:Nat):Nat→Bool:=fun j => if j=i then true else ls j
theorem updB_same (ls:Nat→Bool) (i:Nat):updB ls i i=true:=if_pos rfl
theorem updB_other {ls:Nat→Bool} {i j:Nat} (h:j≠i):updB ls i j=ls j:=if_neg h
theorem upd_other {x:Nat→Value} {i j:Nat} {v:Value} (h:j≠i):upd x i v j=x j:=if_neg h
theorem upd_same {x:Nat→Value} {i:Nat} {v:Value}:upd x i v i=v:=if_pos rfl
section
variable {P:Program} {Q:Exit→Act→World→Prop}
theorem wp_region_invJ {id:Nat} {l:List Oper} {a:Act} {w:World} {F:(Nat→Value)→Act} (V:Nat→Value→Prop) (C:(Nat→Bool)→(Nat→Value)→World→Prop)
  (hm:P.follows .mixedOrders=true) (hd:dstsApart l=true) (hx:lexOk l.toArray=true) (hF:∀ x,mkA l 0 x a=F x)
  (hC:∀ x,C (fun _ => false) x w.drew)
  (step:AllOps (fun i o => ∀ ls x w,C ls x w→ls i=false→KnownTill (fun j v _ => ls j=true∧V j v) (fun _ => none) i x w o.after.toList→∀ K:Act→World→Prop,(∀ v a' w',C (updB ls i) (upd x i v) w'→V i v→a'=(F x).put o.dst v→K a' w')→if Region.wanted o (yielded l.toArray (F x).tmps)=true then Oper.wp P o (F x) w K Q else K ((F x).put o.dst undef) w) 0 l)
  (fin:∀ ls x w',C ls x w'→(∀ i,i < l.length→ls i=true∧V i (x i))→Q .normal (F x) w'):(Code.region id l.toArray true).wp P Q a w:=by
 refine wp_region_any hm ?_
 have h0:a=F fun i => (((l[i]?).bind (·.dst)).map fun t => a.tmps.getD t undef).getD undef:=by
  rw [← hF,mkA_own]
  intro i o ho
  rw [Nat.zero_add,ho]
  rfl
 refine wpAny_inv (fun ls b u => ∃ x,b=F x∧C (fun i => ls.getD i false) x u∧∀ i,i < l.length→ls.getD i false=true→V i (x i)) ?_ ?_ _ _ _ _ (by simp) ?_ ⟨_,h0,?_,fun i _ hi => ?_⟩
 ·rintro ls b u i hs ⟨x,rfl,hc,hv⟩ hi
  obtain ⟨hl,o,ho,hall⟩:=mem_ready.1 hi
  refine wpOp_want ho ?_
  have ho':l[i]?=some o:=by simpa using ho
  have hon:∀ j,ls.getD j false=true→j < l.length:=fun j hj => by
   rcases Nat.lt_or_ge j ls.size with h' | h'
   ·simpa [hs] using h'
   ·rw [Array.getD_eq_getD_getElem?,Array.getElem?_eq_none h'] at hj; simp at hj
  have hsz:i < ls.size:=by
   rcases Nat.lt_or_ge i ls.size with h' | h'
   ·exact h'
   ·rw [Array.getD_eq_getD_getElem?,Array.getElem?_eq_none h'] at hl; simp at hl
  have hlf:ls.getD i false=false:=by
   rw [Array.getD_eq_getD_getElem?,Array.getElem?_eq_getElem hsz] at hl ⊢
   simpa using hl
  have hst:=allOps_at _ _ _ _ step ho'
  rw [Nat.zero_add] at hst
  refine hst _ x u hc hlf (knownTill_of _ fun e he hb _ => ?_) _ ?_
  ·have h1:=hall e (by simpa using he) hb
   exact ⟨h1,hv _ (hon e.on h1) h1⟩
  rintro v _ u' hc' hvi rfl
  have hput:(F x).put o.dst v=F (upd x i v):=by
   rw [← hF,← hF]
   have:=mkA_upd (v:=v) l 0 i x a hd ho'
   rw [Nat.zero_add] at this
   exact this.symm
  have hls:(fun j => (ls.setIfInBounds i true).getD j false)=updB (fun j => ls.getD j false) i:=by
   funext j
   unfold updB
   by_cases hji:j=i
   ·subst hji
    rw [if_pos rfl,Array.getD_eq_getD_getElem?,Array.getElem?_setIfInBounds_self_of_lt hsz]; rfl
   ·rw [if_neg hji]; exact getD_set_ne false (Ne.symm hji)
  refine ⟨upd x i v,hput,by rw [hls]; exact hc',fun j hjl hj => ?_⟩
  by_cases hji:j=i
  ·subst hji
   rw [upd_same]; exact hvi
  ·rw [upd_other hji]
   rw [getD_set_ne false (Ne.symm hji)] at hj
   exact hv j hjl hj
 ·rintro ls b u hs ⟨x,rfl,hc,hv⟩ hr
  refine fin _ x u hc fun i hi => ?_
  have hi':i < l.toArray.size:=by simpa using hi
  have h1:=ready_all hs hx hr i hi'
  have h2:ls.getD i false=true:=by
   rw [Array.getD_eq_getD_getElem?,Array.getElem?_eq_getElem (show i < ls.size by omega)] at h1 ⊢
   simpa using h1
  exact ⟨h2,hv i hi h2⟩
 ·unfold unlisted
  rw [Array.toList_replicate]
  exact Nat.le_trans List.countP_le_length (by simp)
 ·have he:(fun i => (Array.replicate l.toArray.size false).getD i false)=fun _ => false:=by
   funext i
   rw [Array.getD_eq_getD_getElem?,Array.getElem?_replicate]
   split <;> rfl
  rw [he]; exact hC _
 ·rw [Array.getD_eq_getD_getElem?,Array.getElem?_replicate] at hi
  split at hi <;> simp at hi
end
end Go.Proofs.YtlliaihmfimdoaaGreat

