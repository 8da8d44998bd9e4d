/- Parts InvIn InvT InvX of one proof. -/
import Derived.Test.YtlliaihmfimdoaaGreatMg03
import Derived.Test.YtlliaihmfimdoaaGreatMg01
import Derived.OrdersIn
import Derived.TacticsIn
import Derived.OwnWalkIn
set_option linter.unusedVariables false
namespace Go.Proofs.YtlliaihmfimdoaaGreat
open Go Go.RowKit
section
variable {Fc:Fence} {n:Nat} {P:Program} {ops:Array Oper} {Q:Exit→Act→World→Prop}
def KnownTill (V:Nat→Value→World→Prop) (dead:Nat→Option Nat) (k:Nat) (x:Nat→Value) (w:World):List Edge→Prop
 | [] => True
 | e :: es => (Region.binds .any e=true→(dead e.on=none∨dead e.on=some k)→V e.on (x e.on) w)∧KnownTill V dead k x w es
theorem knownTill_of {V:Nat→Value→World→Prop} {dead:Nat→Option Nat} {k:Nat} {x:Nat→Value} {w:World}:∀ (l:List Edge),(∀ e ∈ l,Region.binds .any e=true→(dead e.on=none∨dead e.on=some k)→V e.on (x e.on) w)→KnownTill V dead k x w l
 | [],_ => trivial
 | e :: es,h => ⟨h e List.mem_cons_self,knownTill_of es fun e' he' => h e' (List.mem_cons_of_mem _ he')⟩
end
end Go.Proofs.YtlliaihmfimdoaaGreat


namespace Go.Proofs.YtlliaihmfimdoaaGreat
open Go Go.RowKit
def waits (l:List Oper) (i k:Nat):Bool:=match l[i]? with
 | some o => o.after.any fun e => Region.binds .any e && (e.on == k || (match l[e.on]? with | some o2 => o2.after.any fun e2 => Region.binds .any e2 && e2.on == k | none => false))
 | none => false
theorem waits_spec {l:List Oper} {ls:Array Bool} {i k:Nat} {o:Oper} (ho:l[i]?=some o) (h:waits l i k=true)
  (hall:∀ e ∈ o.after,Region.binds .any e=true→ls.getD e.on false=true)
  (hcl:∀ i o,l[i]?=some o→ls.getD i false=true→∀ e ∈ o.after,Region.binds .any e=true→ls.getD e.on false=true):ls.getD k false=true:=by
 unfold waits at h
 rw [ho] at h
 obtain ⟨j,hj,h2⟩:=Array.any_eq_true.1 h
 simp only [Bool.and_eq_true,Bool.or_eq_true,beq_iff_eq] at h2
 have h1:=hall _ (Array.getElem_mem hj) h2.1
 rcases h2.2 with h3 | h3
 ·rw [← h3]; exact h1
 ·cases ho2:l[o.after[j].on]? with
  | none => rw [ho2] at h3; cases h3
  | some o2 =>
   rw [ho2] at h3
   obtain ⟨j2,hj2,h4⟩:=Array.any_eq_true.1 h3
   simp only [Bool.and_eq_true,beq_iff_eq] at h4
   rw [← h4.2]
   exact hcl _ _ ho2 h1 _ (Array.getElem_mem hj2) h4.1
section
variable {P:Program} {Q:Exit→Act→World→Prop}
theorem wp_region_invT {id:Nat} {l:List Oper} {a:Act} {w:World} {F:(Nat→Value)→Act} (V:Nat→Value→World→Prop) (dead:Nat→Option Nat) (T:Nat→World→Prop) (C:World→Prop) (E:Nat→World→World→Prop)
  (hm:P.follows .mixedOrders=true) (hd:dstsApart l=true) (hx:lexOk l.toArray=true) (hF:∀ x,mkA l 0 x a=F x)
  (hmono:∀ k i v w w',E k w w'→i≠k→waits l i k=false→dead i≠some k→V i v w→V i v w') (hTm:∀ k j w w',E k w w'→k≠j→waits l k j=false→T j w→T j w') (hT:∀ j,T j w.drew) (hC:C w.drew)
  (step:AllOps (fun i o => ∀ x w,C w→T i w→KnownTill V dead i x w o.after.toList→∀ K:Act→World→Prop,(∀ v a' w',C w'→E i w w'→V i v w'→a'=(F x).put o.dst v→K a' w')→if Region.wanted o (yielded l.toArray (F x).tmps)=true then Oper.wp P o (F x) w K Q else K ((F x).put o.dst undef) w) 0 l)
  (fin:∀ x w',C w'→(∀ i,i < l.length→dead i=none→V i (x i) w')→Q .normal (F x) w'):(Code.region id l.toArray true).wp P Q a w:=by
 refine wp_region_any hm ?_
 have h0:a=F fun i => (((l[i]?).bind (·.dst)).map fun t => a.tmps.getD t undef).getD undef:=by
  rw [← hF,mkA_own]
  intro i o ho
  rw [Nat.zero_add,ho]
  rfl
 refine wpAny_inv (fun ls b u => ((C u∧∀ j,j < l.length→ls.getD j true=false→T j u)∧∀ i o,l[i]?=some o→ls.getD i false=true→∀ e ∈ o.after,Region.binds .any e=true→ls.getD e.on false=true)∧∃ x,b=F x∧∀ i,i < l.length→ls.getD i false=true→(∀ j,dead i=some j→ls.getD j true=false)→V i (x i) u) ?_ ?_ _ _ _ _ (by simp) ?_ ⟨⟨⟨hC,fun j _ _ => hT j⟩,fun i o _ hi => ?_⟩,_,h0,fun i _ hi => ?_⟩
 ·rintro ls b u i hs ⟨⟨⟨hc,hT1⟩,hcl⟩,x,rfl,hv⟩ hi
  obtain ⟨hl,o,ho,hall⟩:=mem_ready.1 hi
  refine wpOp_want ho ?_
  have ho':l[i]?=some o:=by simpa using ho
  have hon:∀ j,ls.getD j false=true→j < l.length:=fun j hj => by
   rcases Nat.lt_or_ge j ls.size with h' | h'
   ·simpa [hs] using h'
   ·rw [Array.getD_eq_getD_getElem?,Array.getElem?_eq_none h'] at hj; simp at hj
  have hst:=allOps_at _ _ _ _ step ho'
  rw [Nat.zero_add] at hst
  refine hst x u hc (hT1 i (List.getElem?_eq_some_iff.1 ho').1 hl) (knownTill_of _ fun e he hb hdd => hv _ (hon e.on (hall e (by simpa using he) hb)) (hall e (by simpa using he) hb) fun j hj => ?_) _ ?_
  ·rcases hdd with h | h
   ·rw [h] at hj; cases hj
   ·rw [h] at hj; cases hj; exact hl
  rintro v _ u' hc' he hvi rfl
  have hput:(F x).put o.dst v=F (upd x i v):=by
   rw [← hF,← hF]
   have:=mkA_upd (v:=v) l 0 i x a hd ho'
   rw [Nat.zero_add] at this
   exact this.symm
  refine ⟨⟨⟨hc',fun j hjl hju => ?_⟩,fun j oj hoj hj e he hb => ?_⟩,upd x i v,hput,fun j hjl hj hjd => ?_⟩
  ·have hsz:i < ls.size:=by
    rcases Nat.lt_or_ge i ls.size with h' | h'
    ·exact h'
    ·rw [Array.getD_eq_getD_getElem?,Array.getElem?_eq_none h'] at hl; simp at hl
   have hij:i≠j:=fun e => by
    subst e
    rw [Array.getD_eq_getD_getElem?,Array.getElem?_setIfInBounds_self_of_lt hsz] at hju
    simp at hju
   rw [getD_set_ne true hij] at hju
   refine hTm _ _ _ _ he hij ?_ (hT1 j hjl hju)
   cases hnd:waits l i j with
   | false => rfl
   | true =>
    exfalso
    have h1:=waits_spec (ls:=ls) ho' hnd (fun e he hb => hall e (by simpa using he) hb) hcl
    rw [Array.getD_eq_getD_getElem?] at h1 hju
    cases hls:ls[j]? with
    | none => rw [hls] at h1; simp at h1
    | some b => rw [hls] at h1 hju; simp at h1 hju; rw [h1] at hju; cases hju
  ·by_cases hji:j=i
   ·subst hji
    rw [ho'] at hoj; cases hoj
    exact getD_set_true (hall e he hb)
   ·rw [getD_set_ne false (Ne.symm hji)] at hj
    exact getD_set_true (hcl j oj hoj hj e he hb)
  by_cases hji:j=i
  ·subst hji; simpa [upd] using hvi
  ·have e1:upd x i v j=x j:=if_neg hji
   have hne:dead j≠some i:=fun e => by
    have h1:=hjd i e
    have hsz:i < ls.size:=by
     rcases Nat.lt_or_ge i ls.size with h' | h'
     ·exact h'
     ·rw [Array.getD_eq_getD_getElem?,Array.getElem?_eq_none h'] at hl; simp at hl
    rw [Array.getD_eq_getD_getElem?,Array.getElem?_setIfInBounds_self_of_lt hsz] at h1
    simp at h1
   rw [e1]
   refine hmono _ _ _ _ _ he hji ?_ hne (hv j hjl ?_ fun q hq => ?_)
   ·cases hnd:waits l j i with
    | false => rfl
    | true =>
     exfalso
     obtain ⟨oj,hoj⟩:∃ oj,l[j]?=some oj:=⟨_,List.getElem?_eq_getElem hjl⟩
     rw [getD_set_ne false (Ne.symm hji)] at hj
     have h1:=waits_spec (ls:=ls) hoj hnd (fun e he hb => hcl j oj hoj hj e he hb) hcl
     rw [Array.getD_eq_getD_getElem?] at h1 hl
     cases hls:ls[i]? with
     | none => rw [hls] at h1; simp at h1
     | some b => rw [hls] at h1 hl; simp at h1 hl; rw [h1] at hl; cases hl
   ·rw [getD_set_ne false (Ne.symm hji)] at hj
    exact hj
   ·have h1:=hjd q hq
    have hqi:i≠q:=fun e => hne (e ▸ hq)
    rw [getD_set_ne true hqi] at h1
    exact h1
 ·rintro ls b u hs ⟨⟨⟨hc,_⟩,_⟩,x,rfl,hv⟩ hr
  refine fin x u hc fun i hi hdi => ?_
  have hi':i < l.toArray.size:=by simpa using hi
  have h1:=ready_all hs hx hr i hi'
  refine hv i hi ?_ (fun j hj => by rw [hdi] at hj; cases hj)
  rw [Array.getD_eq_getD_getElem?,Array.getElem?_eq_getElem (show i < ls.size by omega)] at h1 ⊢
  simpa using h1
 ·unfold unlisted
  rw [Array.toList_replicate]
  exact Nat.le_trans List.countP_le_length (by simp)
 ·rw [Array.getD_eq_getD_getElem?,Array.getElem?_replicate] at hi
  split at hi <;> simp at hi
 ·rw [Array.getD_eq_getD_getElem?,Array.getElem?_replicate] at hi
  split at hi <;> simp at hi
end
end Go.Proofs.YtlliaihmfimdoaaGreat


namespace Go.Proofs.YtlliaihmfimdoaaGreat
open Go Go.RowKit
section
variable {P:Program} {Q:Exit→Act→World→Prop}
theorem wp_region_invX {id:Nat} {l:List Oper} {a:Act} {w:World} {F:(Nat→Value)→Act} (V:Nat→Value→Value→World→Prop) (par:Nat→Nat) (dead:Nat→Option Nat) (T:Nat→World→Prop) (C:World→Prop) (E:Nat→World→World→Prop)
  (hm:P.follows .mixedOrders=true) (hd:dstsApart l=true) (hx:lexOk l.toArray=true) (hF:∀ x,mkA l 0 x a=F x)
  (hpar:∀ i,i < l.length→par i=i∨waits l i (par i)=true) (hmono:∀ k i v p w w',E k w w'→i≠k→waits l i k=false→dead i≠some k→V i v p w→V i v p w') (hTm:∀ k j w w',E k w w'→k≠j→waits l k j=false→T j w→T j w') (hT:∀ j,T j w.drew) (hC:C w.drew)
  (step:AllOps (fun i o => ∀ x w,C w→T i w→KnownTill (fun j _ w => V j (x j) (x (par j)) w) dead i x w o.after.toList→∀ K:Act→World→Prop,(∀ v a' w',C w'→E i w w'→V i v (upd x i v (par i)) w'→a'=(F x).put o.dst v→K a' w')→if Region.wanted o (yielded l.toArray (F x).tmps)=true then Oper.wp P o (F x) w K Q else K ((F x).put o.dst undef) w) 0 l)
  (fin:∀ x w',C w'→(∀ i,i < l.length→dead i=none→V i (x i) (x (par i)) w')→Q .normal (F x) w'):(Code.region id l.toArray true).wp P Q a w:=by
 refine wp_region_any hm ?_
 have h0:a=F fun i => (((l[i]?).bind (·.dst)).map fun t => a.tmps.getD t undef).getD undef:=by
  rw [← hF,mkA_own]
  intro i o ho
  rw [Nat.zero_add,ho]
  rfl
 refine wpAny_inv (fun ls b u => ((C u∧∀ j,j < l.length→ls.getD j true=false→T j u)∧∀ i o,l[i]?=some o→ls.getD i false=true→∀ e ∈ o.after,Region.binds .any e=true→ls.getD e.on false=true)∧∃ x,b=F x∧∀ i,i < l.length→ls.getD i false=true→(∀ j,dead i=some j→ls.getD j true=false)→V i (x i) (x (par i)) u) ?_ ?_ _ _ _ _ (by simp) ?_ ⟨⟨⟨hC,fun j _ _ => hT j⟩,fun i o _ hi => ?_⟩,_,h0,fun i _ hi => ?_⟩
 ·rintro ls b u i hs ⟨⟨⟨hc,hT1⟩,hcl⟩,x,rfl,hv⟩ hi
  obtain ⟨hl,o,ho,hall⟩:=mem_ready.1 hi
  refine wpOp_want ho ?_
  have ho':l[i]?=some o:=by simpa using ho
  have hon:∀ j,ls.getD j false=true→j < l.length:=fun j hj => by
   rcases Nat.lt_or_ge j ls.size with h' | h'
   ·simpa [hs] using h'
   ·rw [Array.getD_eq_getD_getElem?,Array.getElem?_eq_none h'] at hj; simp at hj
  have hst:=allOps_at _ _ _ _ step ho'
  rw [Nat.zero_add] at hst
  refine hst x u hc (hT1 i (List.getElem?_eq_some_iff.1 ho').1 hl) (knownTill_of _ fun e he hb hdd => hv _ (hon e.on (hall e (by simpa using he) hb)) (hall e (by simpa using he) hb) fun j hj => ?_) _ ?_
  ·rcases hdd with h | h
   ·rw [h] at hj; cases hj
   ·rw [h] at hj; cases hj; exact hl
  rintro v _ u' hc' he hvi rfl
  have hput:(F x).put o.dst v=F (upd x i v):=by
   rw [← hF,← hF]
   have:=mkA_upd (v:=v) l 0 i x a hd ho'
   rw [Nat.zero_add] at this
   exact this.symm
  refine ⟨⟨⟨hc',fun j hjl hju => ?_⟩,fun j oj hoj hj e he hb => ?_⟩,upd x i v,hput,fun j hjl hj hjd => ?_⟩
  ·have hsz:i < ls.size:=by
    rcases Nat.lt_or_ge i ls.size with h' | h'
    ·exact h'
    ·rw [Array.getD_eq_getD_getElem?,Array.getElem?_eq_none h'] at hl; simp at hl
   have hij:i≠j:=fun e => by
    subst e
    rw [Array.getD_eq_getD_getElem?,Array.getElem?_setIfInBounds_self_of_lt hsz] at hju
    simp at hju
   rw [getD_set_ne true hij] at hju
   refine hTm _ _ _ _ he hij ?_ (hT1 j hjl hju)
   cases hnd:waits l i j with
   | false => rfl
   | true =>
    exfalso
    have h1:=waits_spec (ls:=ls) ho' hnd (fun e he hb => hall e (by simpa using he) hb) hcl
    rw [Array.getD_eq_getD_getElem?] at h1 hju
    cases hls:ls[j]? with
    | none => rw [hls] at h1; simp at h1
    | some b => rw [hls] at h1 hju; simp at h1 hju; rw [h1] at hju; cases hju
  ·by_cases hji:j=i
   ·subst hji
    rw [ho'] at hoj; cases hoj
    exact getD_set_true (hall e he hb)
   ·rw [getD_set_ne false (Ne.symm hji)] at hj
    exact getD_set_true (hcl j oj hoj hj e he hb)
  by_cases hji:j=i
  ·subst hji
   have e1:upd x j v j=v:=if_pos rfl
   rw [e1]
   exact hvi
  ·have e1:upd x i v j=x j:=if_neg hji
   have hne:dead j≠some i:=fun e => by
    have h1:=hjd i e
    have hsz:i < ls.size:=by
     rcases Nat.lt_or_ge i ls.size with h' | h'
     ·exact h'
     ·rw [Array.getD_eq_getD_getElem?,Array.getElem?_eq_none h'] at hl; simp at hl
    rw [Array.getD_eq_getD_getElem?,Array.getElem?_setIfInBounds_self_of_lt hsz] at h1
    simp at h1
   have hlsj:ls.getD j false=true:=by rw [getD_set_ne false (Ne.symm hji)] at hj; exact hj
   have e2:upd x i v (par j)=x (par j):=if_neg (by
    rcases hpar j hjl with h | h
    ·rw [h]; exact hji
    ·intro e
     obtain ⟨oj,hoj⟩:∃ oj,l[j]?=some oj:=⟨_,List.getElem?_eq_getElem hjl⟩
     have h1:=waits_spec (ls:=ls) hoj h (fun e he hb => hcl j oj hoj hlsj e he hb) hcl
     rw [e] at h1
     rw [Array.getD_eq_getD_getElem?] at h1 hl
     cases hls:ls[i]? with
     | none => rw [hls] at h1; simp at h1
     | some b => rw [hls] at h1 hl; simp at h1 hl; rw [h1] at hl; cases hl)
   rw [e1,e2]
   refine hmono _ _ _ _ _ _ he hji ?_ hne (hv j hjl ?_ fun q hq => ?_)
   ·cases hnd:waits l j i with
    | false => rfl
    | true =>
     exfalso
     obtain ⟨oj,hoj⟩:∃ oj,l[j]?=some oj:=⟨_,List.getElem?_eq_getElem hjl⟩
     rw [getD_set_ne false (Ne.symm hji)] at hj
     have h1:=waits_spec (ls:=ls) hoj hnd (fun e he hb => hcl j oj hoj hj e he hb) hcl
     rw [Array.getD_eq_getD_getElem?] at h1 hl
     cases hls:ls[i]? with
     | none => rw [hls] at h1; simp at h1
     | some b => rw [hls] at h1 hl; simp at h1 hl; rw [h1] at hl; cases hl
   ·rw [getD_set_ne false (Ne.symm hji)] at hj
    exact hj
   ·have h1:=hjd q hq
    have hqi:i≠q:=fun e => hne (e ▸ hq)
    rw [getD_set_ne true hqi] at h1
    exact h1
 ·rintro ls b u hs ⟨⟨⟨hc,_⟩,_⟩,x,rfl,hv⟩ hr
  refine fin x u hc fun i hi hdi => ?_
  have hi':i < l.toArray.size:=by simpa using hi
  have h1:=ready_all hs hx hr i hi'
  refine hv i hi ?_ (fun j hj => by rw [hdi] at hj; cases hj)
  rw [Array.getD_eq_getD_getElem?,Array.getElem?_eq_getElem (show i < ls.size by omega)] at h1 ⊢
  simpa using h1
 ·unfold unlisted
  rw [Array.toList_replicate]
  exact Nat.le_trans List.countP_le_length (by simp)
 ·rw [Array.getD_eq_getD_getElem?,Array.getElem?_replicate] at hi
  split at hi <;> simp at hi
 ·rw [Array.getD_eq_getD_getElem?,Array.getElem?_replicate] at hi
  split at hi <;> simp at hi
end
end Go.Proofs.YtlliaihmfimdoaaGreat

