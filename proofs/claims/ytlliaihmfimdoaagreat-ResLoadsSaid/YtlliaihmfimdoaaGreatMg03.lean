/- Parts Inv of one proof. -/
import Derived.RegionTactic
import Derived.Deep.Draws
set_option linter.unusedVariables false
namespace Go.Proofs.YtlliaihmfimdoaaGreat
open Go
section
variable {P:Program} {ops:Array Oper} {Q:Exit→Act→World→Prop}
theorem wpOp_want {i:Nat} {o:Oper} {K:Act→World→Prop} {a:Act} {w:World} (ho:ops[i]?=some o)
  (h:if Region.wanted o (yielded ops a.tmps)=true then Oper.wp P o a w K Q else K (a.put o.dst undef) w):wpOp P ops Q i K a w:=by
 unfold wpOp
 rw [ho]
 show if Region.wanted o (yielded ops a.tmps)=true then _ else _
 split
 ·rename_i hw; rw [if_pos hw] at h; exact .inl h
 ·rename_i hw; rw [if_neg hw] at h; exact h
def unlisted (l:Array Bool):Nat:=l.toList.countP (fun b => !b)
theorem unlisted_set {l:Array Bool} {i:Nat} (h:l.getD i true=false):unlisted (l.setIfInBounds i true) + 1=unlisted l:=by
 have hi:i < l.size:=by
  rcases Nat.lt_or_ge i l.size with h' | h'
  ·exact h'
  ·rw [Array.getD_eq_getD_getElem?,Array.getElem?_eq_none h'] at h; simp at h
 have hv:l[i]=false:=by
  rw [Array.getD_eq_getD_getElem?,Array.getElem?_eq_getElem hi] at h; simpa using h
 unfold unlisted
 rw [Array.toList_setIfInBounds,List.countP_set (by simpa using hi)]
 have hp:0 < l.toList.countP (fun b => !b):=List.countP_pos_iff.2 ⟨l[i],by simp,by simp [hv]⟩
 have hv':l.toList[i]'(by simpa using hi)=false:=by simpa using hv
 rw [hv']
 simp only [Bool.not_false,Bool.not_true,if_true,Bool.false_eq_true,if_false]
 omega
theorem ready_none {md:Region.Mode} {l:Array Bool} (hs:l.size=ops.size) (h:unlisted l=0):Region.ready md ops l=[]:=by
 cases hr:Region.ready md ops l with
 | nil => rfl
 | cons j js =>
  have hj:j ∈ Region.ready md ops l:=by rw [hr]; exact List.mem_cons_self
  have:=unlisted_set (mem_ready.1 hj).1
  omega
theorem wpAny_inv {md:Region.Mode} (I:Array Bool→Act→World→Prop)
  (step:∀ l a w i,l.size=ops.size→I l a w→i ∈ Region.ready md ops l→wpOp P ops Q i (I (l.setIfInBounds i true)) a w)
  (fin:∀ l a w,l.size=ops.size→I l a w→Region.ready md ops l=[]→Q .normal a w) :
  ∀ (fuel:Nat) (l:Array Bool) (a:Act) (w:World),l.size=ops.size→unlisted l≤fuel→I l a w→wpAny P md ops Q fuel l a w:=by
 intro fuel
 induction fuel with
 | zero => intro l a w hs hu hI; exact ⟨ready_none hs (by omega),fin _ _ _ hs hI (ready_none hs (by omega))⟩
 | succ fuel ih =>
  intro l a w hs hu hI
  refine ⟨fun h0 => fin _ _ _ hs hI h0,fun i hi => ?_⟩
  refine wpOp_mono ?_ (step l a w i hs hI hi)
  intro a' w' h'
  have:=unlisted_set (mem_ready.1 hi).1
  exact ih _ a' w' (by simpa using hs) (by omega) h'
def mkA:List Oper→Nat→(Nat→Value)→Act→Act
 | [],_,_,a => a
 | o :: l,k,x,a => mkA l (k + 1) x (a.put o.dst (x k))
def dstsApart:List Oper→Bool
 | [] => true
 | o :: l => (match o.dst with | none => true | some d => l.all fun o' => o'.dst != some d) && dstsApart l
theorem mkA_put_far {d:Option Tmp} {v:Value}:∀ (l:List Oper) (k:Nat) (x:Nat→Value) (a:Act),(∀ e,d=some e→∀ o ∈ l,o.dst≠some e)→mkA l k x (a.put d v)=(mkA l k x a).put d v
 | [],_,_,_,_ => rfl
 | o :: l,k,x,a,h => by
  unfold mkA
  rw [Act.put_comm a v (x k) (fun e he => h e he o List.mem_cons_self)]
  exact mkA_put_far l (k + 1) x _ (fun e he o' ho' => h e he o' (List.mem_cons_of_mem _ ho'))
theorem Act.put_put (a:Act) (d:Option Tmp) (v u:Value):(a.put d v).put d u=a.put d u:=by
 cases d with
 | none => rfl
 | some d => simp [Act.put]
theorem mkA_congr:∀ (l:List Oper) (k:Nat) (x y:Nat→Value) (a:Act),(∀ j,k≤j→x j=y j)→mkA l k x a=mkA l k y a
 | [],_,_,_,_,_ => rfl
 | o :: l,k,x,y,a,h => by
  unfold mkA
  rw [h k (Nat.le_refl _)]
  exact mkA_congr l (k + 1) x y _ (fun j hj => h j (by omega))
def upd (x:Nat→Value) (i:Nat) (v:Value):Nat→Value:=fun j => if j=i then v else x j
theorem mkA_upd {o:Oper} {v:Value}:∀ (l:List Oper) (k i:Nat) (x:Nat→Value) (a:Act),dstsApart l=true→l[i]?=some o→mkA l k (upd x (k + i) v) a=(mkA l k x a).put o.dst v
 | [],_,_,_,_,_,h => by simp at h
 | o' :: l,k,0,x,a,hd,h => by
  simp only [List.getElem?_cons_zero,Option.some.injEq] at h
  subst h
  unfold mkA
  rw [mkA_congr l (k + 1) _ x _ (fun j hj => by unfold upd; rw [if_neg (by omega)])]
  simp only [upd,Nat.add_zero,if_true]
  have hfar:∀ e,o'.dst=some e→∀ o ∈ l,o.dst≠some e:=by
   intro e he o ho
   simp only [dstsApart,he,Bool.and_eq_true,List.all_eq_true] at hd
   simpa using hd.1 o ho
  rw [mkA_put_far l _ x a hfar,mkA_put_far l _ x a hfar,Act.put_put]
 | o' :: l,k,i + 1,x,a,hd,h => by
  unfold mkA
  have e1:upd x (k + (i + 1)) v k=x k:=by unfold upd; rw [if_neg (by omega)]
  rw [e1,show k + (i + 1)=(k + 1) + i by omega]
  simp only [dstsApart,Bool.and_eq_true] at hd
  exact mkA_upd l (k + 1) i x _ hd.2 (by simpa using h)
def AllOps (S:Nat→Oper→Prop):Nat→List Oper→Prop
 | _,[] => True
 | k,o :: l => S k o∧AllOps S (k + 1) l
theorem allOps_at {S:Nat→Oper→Prop}:∀ (l:List Oper) (k i:Nat) (o:Oper),AllOps S k l→l[i]?=some o→S (k + i) o
 | [],_,_,_,_,h => by simp at h
 | o' :: l,k,0,o,h,ho => by simp only [List.getElem?_cons_zero,Option.some.injEq] at ho; subst ho; exact h.1
 | o' :: l,k,i + 1,o,h,ho => by
  rw [show k + (i + 1)=(k + 1) + i by omega]
  exact allOps_at l (k + 1) i o h.2 (by simpa using ho)
def lexOk (ops:Array Oper):Bool:=(List.range ops.size).all fun i => match ops[i]? with | none => true | some o => o.after.all fun e => !Region.binds .any e || decide (e.on < i)
theorem ready_all {l:Array Bool} (hs:l.size=ops.size) (hx:lexOk ops=true) (h:Region.ready .any ops l=[]):∀ i,i < ops.size→l.getD i true=true:=by
 intro i
 induction i using Nat.strongRecOn with
 | ind i ih =>
  intro hi
  cases hl:l.getD i true with
  | true => rfl
  | false =>
   exfalso
   have hm:i ∈ Region.ready .any ops l:=by
    rw [mem_ready]
    refine ⟨hl,ops[i],Array.getElem?_eq_getElem hi,fun e he hb => ?_⟩
    have h1:=List.all_eq_true.1 hx i (List.mem_range.2 hi)
    rw [Array.getElem?_eq_getElem hi] at h1
    have h2:=(Array.all_eq_true'.1 h1) e he
    rw [hb] at h2
    simp at h2
    have h3:=ih e.on h2 (by omega)
    rw [Array.getD_eq_getD_getElem?,Array.getElem?_eq_getElem (show e.on < l.size by omega)] at h3 ⊢
    simpa using h3
   rw [h] at hm
   cases hm
theorem put_own (a:Act) (d:Option Tmp):a.put d ((d.map fun t => a.tmps.getD t undef).getD undef)=a:=by
 cases d with
 | none => rfl
 | some d =>
  simp only [Act.put,Option.map_some,Option.getD_some]
  rcases Nat.lt_or_ge d a.tmps.size with h | h
  ·rw [Array.getD_eq_getD_getElem?,Array.getElem?_eq_getElem h,Option.getD_some,Array.setIfInBounds_def,dif_pos h,Array.set_getElem_self]
  ·rw [Array.setIfInBounds_eq_of_size_le h]
theorem mkA_own:∀ (l:List Oper) (k:Nat) (x:Nat→Value) (a:Act),(∀ i o,l[i]?=some o→x (k + i)=(o.dst.map fun t => a.tmps.getD t undef).getD undef)→mkA l k x a=a
 | [],_,_,_,_ => rfl
 | o :: l,k,x,a,h => by
  unfold mkA
  have h0:=h 0 o rfl
  rw [Nat.add_zero] at h0
  rw [h0,put_own]
  exact mkA_own l (k + 1) x a fun i o' ho' => by have:=h (i + 1) o' (by simpa using ho'); rwa [show k + (i + 1)=k + 1 + i by omega] at this
theorem AllOps.cons {S:Nat→Oper→Prop} {k:Nat} {o:Oper} {l:List Oper} (h:S k o) (h':AllOps S (k + 1) l):AllOps S k (o :: l):=⟨h,h'⟩
theorem AllOps.nil {S:Nat→Oper→Prop} {k:Nat}:AllOps S k []:=trivial
end
end Go.Proofs.YtlliaihmfimdoaaGreat

