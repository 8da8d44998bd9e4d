/- Parts InvU of one proof. -/
import Derived.Test.YtlliaihmfimdoaaGreatMg04
set_option linter.unusedVariables false
namespace Go.Proofs.YtlliaihmfimdoaaGreat
open Go Go.RowKit
def waitsN (l:List Oper):Nat→Nat→Nat→Bool
 | 0,_,_ => false
 | f + 1,i,k => match l[i]? with
  | some o => o.after.any fun e => Region.binds .any e && (e.on == k || waitsN l f e.on k)
  | none => false
theorem waitsN_spec {l:List Oper} {ls:Array Bool} {k:Nat}
  (hcl:∀ i o,l[i]?=some o→ls.getD i false=true→∀ e ∈ o.after,Region.binds .any e=true→ls.getD e.on false=true) :
  ∀ (f i:Nat) (o:Oper),l[i]?=some o→waitsN l f i k=true→(∀ e ∈ o.after,Region.binds .any e=true→ls.getD e.on false=true)→ls.getD k false=true:=by
 intro f
 induction f with
 | zero => intro i o ho h; cases h
 | succ f ih =>
  intro i o ho h hall
  unfold waitsN at h
  rw [ho] at h
  obtain ⟨j,hj,h2⟩:=Array.any_eq_true.1 h
  simp only [Bool.and_eq_true,Bool.or_eq_true,beq_iff_eq] at h2
  have h1:=hall _ (Array.getElem_mem hj) h2.1
  rcases h2.2 with h3 | h3
  ·rw [← h3]; exact h1
  ·cases ho2:l[o.after[j].on]? with
   | none =>
    cases f with
    | zero => cases h3
    | succ f => unfold waitsN at h3; rw [ho2] at h3; cases h3
   | some o2 => exact ih _ o2 ho2 h3 (hcl _ _ ho2 h1)
def waitsU (l:List Oper) (i k:Nat):Bool:=waitsN l 6 i k
theorem waitsU_spec {l:List Oper} {ls:Array Bool} {i k:Nat} {o:Oper} (ho:l[i]?=some o) (h:waitsU l i k=true)
  (hall:∀ e ∈ o.after,Region.binds .any e=true→ls.getD e.on false=true)
  (hcl:∀ i o,l[i]?=some o→ls.getD i false=true→∀ e ∈ o.after,Region.binds .any e=true→ls.getD e.on false=true):ls.getD k false=true :=
 waitsN_spec hcl 6 i o ho h hall
section
variable {P:Program} {Q:Exit→Act→World→Prop}
theorem wp_region_invU {id:Nat} {l:List Oper} {a:Act} {w:World} {F:(Nat→Value)→Act} (V:Nat→Value→World→Prop) (dead:Nat→Option Nat) (T:Nat→World→Prop) (C:World→Prop) (E:Nat→World→World→Prop)
  (hm:P.follows .mixedOrders=true) (hd:dstsApart l=true) (hx:lexOk l.toArray=true) (hF:∀ x,mkA l 0 x a=F x)
  (hmono:∀ k i v w w',E k w w'→i≠k→waitsU l i k=false→dead i≠some k→V i v w→V i v w') (hTm:∀ k j w w',E k w w'→k≠j→waitsU l k j=false→T j w→T j w') (hT:∀ j,T j w.drew) (hC:C w.drew)
  (step:AllOps (fun i o => ∀ x w,C w→T i w→KnownTill V dead i x w o.after.toList→∀ K:Act→World→Prop,(∀ v a' w',C w'→E i w w'→V i v w'→a'=(F x).put o.dst v→K a' w')→if Region.wanted o (yielded l.toArray (F x).tmps)=true then Oper.wp P o (F x) w K Q else K ((F x).put o.dst undef) w) 0 l)
  (fin:∀ x w',C w'→(∀ i,i < l.length→dead i=none→V i (x i) w')→Q .normal (F x) w'):(Code.region id l.toArray true).wp P Q a w:=by
 refine wp_region_any hm ?_
 have h0:a=F fun i => (((l[i]?).bind (·.dst)).map fun t => a.tmps.getD t undef).getD undef:=by
  rw [← hF,mkA_own]
  intro i o ho
  rw [Nat.zero_add,ho]
  rfl
 refine wpAny_inv (fun ls b u => ((C u∧∀ j,j < l.length→ls.getD j true=false→T j u)∧∀ i o,l[i]?=some o→ls.getD i false=true→∀ e ∈ o.after,Region.binds .any e=true→ls.getD e.on false=true)∧∃ x,b=F x∧∀ i,i < l.length→ls.getD i false=true→(∀ j,dead i=some j→ls.getD j true=false)→V i (x i) u) ?_ ?_ _ _ _ _ (by simp) ?_ ⟨⟨⟨hC,fun j _ _ => hT j⟩,fun i o _ hi => ?_⟩,_,h0,fun i _ hi => ?_⟩
 ·rintro ls b u i hs ⟨⟨⟨hc,hT1⟩,hcl⟩,x,rfl,hv⟩ hi
  obtain ⟨hl,o,ho,hall⟩:=mem_ready.1 hi
  refine wpOp_want ho ?_
  have ho':l[i]?=some o:=by simpa using ho
  have hon:∀ j,ls.getD j false=true→j < l.length:=fun j hj => by
   rcases Nat.lt_or_ge j ls.size with h' | h'
   ·simpa [hs] using h'
   ·rw [Array.getD_eq_getD_getElem?,Array.getElem?_eq_none h'] at hj; simp at hj
  have hst:=allOps_at _ _ _ _ step ho'
  rw [Nat.zero_add] at hst
  refine hst x u hc (hT1 i (List.getElem?_eq_some_iff.1 ho').1 hl) (knownTill_of _ fun e he hb hdd => hv _ (hon e.on (hall e (by simpa using he) hb)) (hall e (by simpa using he) hb) fun j hj => ?_) _ ?_
  ·rcases hdd with h | h
   ·rw [h] at hj; cases hj
   ·rw [h] at hj; cases hj; exact hl
  rintro v _ u' hc' he hvi rfl
  have hput:(F x).put o.dst v=F (upd x i v):=by
   rw [← hF,← hF]
   have:=mkA_upd (v:=v) l 0 i x a hd ho'
   rw [Nat.zero_add] at this
   exact this.symm
  refine ⟨⟨⟨hc',fun j hjl hju => ?_⟩,fun j oj hoj hj e he hb => ?_⟩,upd x i v,hput,fun j hjl hj hjd => ?_⟩
  ·have hsz:i < ls.size:=by
    rcases Nat.lt_or_ge i ls.size with h' | h'
    ·exact h'
    ·rw [Array.getD_eq_getD_getElem?,Array.getElem?_eq_none h'] at hl; simp at hl
   have hij:i≠j:=fun e => by
    subst e
    rw [Array.getD_eq_getD_getElem?,Array.getElem?_setIfInBounds_self_of_lt hsz] at hju
    simp at hju
   rw [getD_set_ne true hij] at hju
   refine hTm _ _ _ _ he hij ?_ (hT1 j hjl hju)
   cases hnd:waitsU l i j with
   | false => rfl
   | true =>
    exfalso
    have h1:=waitsU_spec (ls:=ls) ho' hnd (fun e he hb => hall e (by simpa using he) hb) hcl
    rw [Array.getD_eq_getD_getElem?] at h1 hju
    cases hls:ls[j]? with
    | none => rw [hls] at h1; simp at h1
    | some b => rw [hls] at h1 hju; simp at h1 hju; rw [h1] at hju; cases hju
  ·by_cases hji:j=i
   ·subst hji
    rw [ho'] at hoj; cases hoj
    exact getD_set_true (hall e he hb)
   ·rw [getD_set_ne false (Ne.symm hji)] at hj
    exact getD_set_true (hcl j oj hoj hj e he hb)
  by_cases hji:j=i
  ·subst hji; simpa [upd] using hvi
  ·have e1:upd x i v j=x j:=if_neg hji
   have hne:dead j≠some i:=fun e => by
    have h1:=hjd i e
    have hsz:i < ls.size:=by
     rcases Nat.lt_or_ge i ls.size with h' | h'
     ·exact h'
     ·rw [Array.getD_eq_getD_getElem?,Array.getElem?_eq_none h'] at hl; simp at hl
    rw [Array.getD_eq_getD_getElem?,Array.getElem?_setIfInBounds_self_of_lt hsz] at h1
    simp at h1
   rw [e1]
   refine hmono _ _ _ _ _ he hji ?_ hne (hv j hjl ?_ fun q hq => ?_)
   ·cases hnd:waitsU l j i with
    | false => rfl
    | true =>
     exfalso
     obtain ⟨oj,hoj⟩:∃ oj,l[j]?=some oj:=⟨_,List.getElem?_eq_getElem hjl⟩
     rw [getD_set_ne false (Ne.symm hji)] at hj
     have h1:=waitsU_spec (ls:=ls) hoj hnd (fun e he hb => hcl j oj hoj hj e he hb) hcl
     rw [Array.getD_eq_getD_getElem?] at h1 hl
     cases hls:ls[i]? with
     | none => rw [hls] at h1; simp at h1
     | some b => rw [hls] at h1 hl; simp at h1 hl; rw [h1] at hl; cases hl
   ·rw [getD_set_ne false (Ne.symm hji)] at hj
    exact hj
   ·have h1:=hjd q hq
    have hqi:i≠q:=fun e => hne (e ▸ hq)
    rw [getD_set_ne true hqi] at h1
    exact h1
 ·rintro ls b u hs ⟨⟨⟨hc,_⟩,_⟩,x,rfl,hv⟩ hr
  refine fin x u hc fun i hi hdi => ?_
  have hi':i < l.toArray.size:=by simpa using hi
  have h1:=ready_all hs hx hr i hi'
  refine hv i hi ?_ (fun j hj => by rw [hdi] at hj; cases hj)
  rw [Array.getD_eq_getD_getElem?,Array.getElem?_eq_getElem (show i < ls.size by omega)] at h1 ⊢
  simpa using h1
 ·unfold unlisted
  rw [Array.toList_replicate]
  exact Nat.le_trans List.countP_le_length (by simp)
 ·rw [Array.getD_eq_getD_getElem?,Array.getElem?_replicate] at hi
  split at hi <;> simp at hi
 ·rw [Array.getD_eq_getD_getElem?,Array.getElem?_replicate] at hi
  split at hi <;> simp at hi
end
end Go.Proofs.YtlliaihmfimdoaaGreat

