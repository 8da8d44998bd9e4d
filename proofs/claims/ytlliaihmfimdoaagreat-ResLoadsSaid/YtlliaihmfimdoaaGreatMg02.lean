/- Parts Mp Ka Kb Kc Kd Ie If of one proof. -/
import Derived.Test.YtlliaihmfimdoaaGreatMg01
import Derived.Test.YtlliaihmfimdoaaGreatProg
import Derived.DeepKeys4
import Derived.Maps.OwnSet
import Derived.Maps.RangeWalk
import Derived.Maps.Ext
set_option linter.unusedSimpArgs false
set_option linter.unusedVariables false
namespace Go.Proofs.YtlliaihmfimdoaaGreat
open Go.RowKit Go.Maps
def i64ok (x:Int):Prop:=-9223372036854775808≤x∧x≤9223372036854775807
theorem wf_of_ok {x:Int} (h:i64ok x):(Lit.int .i64 x).wf=true:=by
 unfold i64ok at h
 simpa [Lit.wf,IntKind.min,IntKind.max,IntKind.signed,IntKind.bits] using h
theorem ok_of_wf {x:Int} (h:(Lit.int .i64 x).wf=true):i64ok x:=by
 unfold i64ok
 simpa [Lit.wf,IntKind.min,IntKind.max,IntKind.signed,IntKind.bits] using h
theorem own_ne_blk {w:World} {H:Type} {P:Program} {k t:TypeId} {R:Value→Option (DataW H × List MemPlace)} {b n g:Nat} {D:DataW H} {cs:Array Value} (h:w.ownsMap P k R b n D) (hb:Blk w g t cs):b≠g:=fun e => by
 obtain ⟨es,clock,h1,_⟩:=h
 subst e; unfold Blk at hb; rw [h1] at hb; cases hb
theorem own_below {w w':World} {H:Type} {P:Program} {k:TypeId} {R:Value→Option (DataW H × List MemPlace)} {b n:Nat} {D:DataW H} (h:w.ownsMap P k R b n D) (hb:Below w.heap.size w w'):w'.ownsMap P k R b n D :=
 h.kept (row:=none) ⟨hb.os,hb.tape,hb.output,hb.size,fun k hk _ => hb.block k hk⟩ (by simp)
theorem lbelow_grown {w w':World} (hb:Below w.heap.size w w') (row:Option Nat):w.grownBy w' row:=⟨hb.os,hb.tape,hb.output,hb.size,fun k hk _ => hb.block k hk⟩
theorem lgrown_below {w w':World} (hg:w.grownBy w' none):Below w.heap.size w w':=⟨hg.os,hg.tape,hg.output,hg.size,fun k hk => hg.block k hk (by simp)⟩
theorem lgrown_set (w:World) (p:Addr) (u:Value):w.grownBy (w.setCell p u) (some p.block) :=
 ⟨rfl,rfl,rfl,by simp [World.setCell],fun k _ hk => Below.heap_setCell w p u k (fun e => hk (by rw [e]))⟩
theorem set_self {cs:Array Value} {i:Nat} {v:Value} (h:cs[i]?=some v):cs.setIfInBounds i v=cs:=by
 obtain ⟨hi,e⟩:=Array.getElem?_eq_some_iff.1 h
 apply Array.ext_getElem?
 intro j
 by_cases hj:j=i
 ·subst hj
  rw [Array.getElem?_setIfInBounds_self_of_lt hi,h]
 ·rw [Array.getElem?_setIfInBounds_ne (fun e => hj e.symm)]
theorem set_at {cs:Array Value} {i:Nat} {v u:Value} (h:cs[i]?=some v):(cs.setIfInBounds i u)[i]?=some u:=by
 obtain ⟨hi,e⟩:=Array.getElem?_eq_some_iff.1 h
 simp [hi]
theorem wpList_append_run {P:Program} {w:World} {ops:Array Oper} {rest:List Oper} {o:Oper} {a:Act} {Q:Exit→Act→World→Prop} (hgd:o.guard=none) (s x:Operand) (t:TypeId)
  (ho:o.op=.call { callee:=.builtin .append,args:=#[s,x],argTypes:=#[t,t] }) (sv xv v:Value) (w':World) (hs:a.eval s=sv) (hx:a.eval x=xv) (hrun:(Builtin.append_ #[t,t] o.type #[sv,xv]).run P w=.ok v w') (h:wpList P ops Q rest (a.put o.dst v) w') :
  wpList P ops Q (o :: rest) a w:=by
 refine wpList_plain hgd fun _ hK => ?_
 unfold Oper.wp execOp
 simp only [ho,resolve,invoke,builtin,Sem.run_bind,Sem.run_pure,Result.andThen_ok,List.map_toArray,List.map_cons,List.map_nil,hs,hx,hrun]
 exact hK _ _ h
end Go.Proofs.YtlliaihmfimdoaaGreat


namespace Go.Proofs.YtlliaihmfimdoaaGreat
open Go.RowKit Go.Maps
theorem Tryz.laidOutK:laidOutB Tryz.prog=true:=by kernel_rfl
theorem Tryz.rowP:(178:TypeId) < Tryz.prog.types.size:=of_decide_eq_true (by kernel_rfl)
theorem Tryz.wideP:(match Tryz.prog.underlying 178 with | some (.array _ _) | some (.struct _) => true | _ => false)=true:=by rw [Tryz.underlying178]
set_option maxRecDepth 1000000 in
theorem lawP:Keyed Tryz.prog 178:=Keyed.of_law (deep_law_laid Tryz.laidOutK (m:=2) (by omega) Tryz.rowP (by kernel_rfl) Tryz.wideP)
def holdElem {H:Type} (v:Value):Option (DataW H × List MemPlace):=match v with
 | .agg cs => (match cs.toList with | [.bool a] => some (.lit (.bool a),[]) | _ => none)
 | _ => none
theorem holdElem_mk {H:Type} (a:Bool):holdElem (H:=H) (.agg #[.bool a])=some (.lit (.bool a),[]):=rfl
def pv (k o:Int):Value:=.agg #[.int .i64 k,.int .i64 o]
end Go.Proofs.YtlliaihmfimdoaaGreat


namespace Go.Proofs.YtlliaihmfimdoaaGreat
open Go.RowKit Go.Maps
theorem keyTypeP:Tryz.prog.keyType 178=true:=by kernel_rfl
theorem cellsP:Tryz.prog.cellsOf 178=2:=by kernel_rfl
theorem cellsI:Tryz.prog.cellsOf 3=1:=by kernel_rfl
theorem sizeP:∃ m,Tryz.prog.types.size=m + 1:=⟨Tryz.prog.types.size - 1,by have:1 < Tryz.prog.types.size:=of_decide_eq_true (by kernel_rfl); omega⟩
theorem lits_int (d:Nat) (k:Int) (h:i64ok k):Tryz.prog.keyLits (d + 1) 3 [.int .i64 k]=some [.int .i64 k]:=by
 simp [Program.keyLits,Tryz.underlying3,wf_of_ok h]
theorem lits_pair (d:Nat) (k o:Int) (hk:i64ok k) (ho:i64ok o):Tryz.prog.keyLits (d + 2) 178 [.int .i64 k,.int .i64 o]=some [.int .i64 k,.int .i64 o]:=by
 have h1:=lits_int d k hk
 have h2:=lits_int d o ho
 simp [Program.keyLits,Tryz.underlying178,cellsP,cellsI,Tryz.underlying3,wf_of_ok hk,wf_of_ok ho]
def litP (k o:Int):Lit:=.string (keyBytes [.int .i64 k,.int .i64 o])
theorem keyOf_pv (k o:Int) (hk:i64ok k) (ho:i64ok o):keyOf Tryz.prog 178 (pv k o)=some (litP k o):=by
 obtain ⟨m,hm⟩:=sizeP
 have h:=lits_pair m k o hk ho
 simp [keyOf,Tryz.underlying178,keyTypeP,pv,Value.formed,cellsP,hm,Value.cells,h,litP]
theorem litP_inj {k o k' o':Int} (hk:i64ok k) (ho:i64ok o) (hk':i64ok k') (ho':i64ok o') (h:litP k o=litP k' o'):k=k'∧o=o':=by
 have:=lawP.inj (keyOf_pv k o hk ho) (h ▸ keyOf_pv k' o' hk' ho')
 simp [pv] at this
 exact this
theorem isKey (k o:Int):WideAt.IsKeyLit (litP k o):=trivial
theorem sameKey_litP {k o k' o':Int} (hk:i64ok k) (ho:i64ok o) (hk':i64ok k') (ho':i64ok o'):(litP k o).sameKey (litP k' o')=decide (k=k'∧o=o'):=by
 by_cases h:k=k'∧o=o'
 ·obtain ⟨rfl,rfl⟩:=h
  simp [litP,Lit.sameKey]
 ·rw [decide_eq_false h]
  exact sameKey_ne (fun e => h (litP_inj hk ho hk' ho' e))
theorem lits_int_inv {d:Nat} {c:Value} {ls:List Lit} (h:Tryz.prog.keyLits (d + 1) 3 [c]=some ls):∃ k,c=.int .i64 k∧i64ok k∧ls=[.int .i64 k]:=by
 cases c <;> simp [Program.keyLits,Tryz.underlying3] at h
 obtain ⟨⟨rfl,hw⟩,rfl⟩:=h
 exact ⟨_,rfl,ok_of_wf hw,rfl⟩
theorem lits_place (d:Nat) (c0 c1:Value):Tryz.prog.keyLits (d + 1) 178 [c0,c1]=((Tryz.prog.keyLits d 3 [c0]).bind fun a => (Tryz.prog.keyLits d 3 [c1]).bind fun b => some (a ++ b)):=by
 simp [Program.keyLits,Tryz.underlying178,cellsP,cellsI]
 rcases Tryz.prog.keyLits d 3 [c0] with _ | a <;> rcases Tryz.prog.keyLits d 3 [c1] with _ | b <;> simp
theorem formed_inv {v:Value} (h:v.formed Tryz.prog 178=true):∃ c0 c1,v=.agg #[c0,c1]:=by
 cases v <;> simp [Value.formed,Tryz.underlying178,cellsP] at h
 rename_i cs
 obtain ⟨cs⟩:=cs
 match cs,h with
 | [c0,c1],_ => exact ⟨c0,c1,rfl⟩
theorem keyOf_inv {v:Value} {l:Lit} (h:keyOf Tryz.prog 178 v=some l):∃ x:Int × Int,v=pv x.1 x.2∧i64ok x.1∧i64ok x.2∧l=litP x.1 x.2:=by
 obtain ⟨m,hm⟩:∃ m,Tryz.prog.types.size=m + 1:=sizeP
 have h0:=h
 simp only [keyOf,Tryz.underlying178,keyTypeP,Bool.true_and] at h
 split at h
 ·rename_i hf
  obtain ⟨c0,c1,rfl⟩:=formed_inv hf
  rw [Option.map_eq_some_iff] at h
  obtain ⟨ls,hl,_⟩:=h
  rw [hm] at hl
  have hl2:Tryz.prog.keyLits (m + 1 + 1) 178 [c0,c1]=some ls:=hl
  rw [lits_place] at hl2
  rcases h1:Tryz.prog.keyLits (m + 1) 3 [c0] with _ | l1
  ·simp [h1] at hl2
  ·rcases h2:Tryz.prog.keyLits (m + 1) 3 [c1] with _ | l2
   ·simp [h1,h2] at hl2
   ·obtain ⟨k,rfl,hk,_⟩:=lits_int_inv h1
    obtain ⟨o,rfl,ho,_⟩:=lits_int_inv h2
    have:=keyOf_pv k o hk ho
    unfold pv at this
    rw [h0] at this
    exact ⟨(k,o),rfl,hk,ho,Option.some.inj this⟩
 ·cases h
theorem holdElem_inv {H:Type} {v:Value} {y:DataW H × List MemPlace} (h:holdElem v=some y):∃ c,v=.agg #[.bool c]∧y=(.lit (.bool c),[]):=by
 cases v <;> simp only [holdElem] at h
 all_goals try cases h
 rename_i cs
 obtain ⟨cs⟩:=cs
 rcases cs with _ | ⟨c0,_ | ⟨c1,t⟩⟩
 ·cases h
 ·cases c0 <;> cases h
  exact ⟨_,rfl,rfl⟩
 ·cases c0 <;> cases h
end Go.Proofs.YtlliaihmfimdoaaGreat


namespace Go.Proofs.YtlliaihmfimdoaaGreat
open Go.RowKit Go.Maps
abbrev LRow:=Int × Int × Bool
def keyR (x:LRow):Lit:=litP x.1 x.2.1
def atB (k o:Int) (x:LRow):Bool:=decide (x.1=k) && decide (x.2.1=o)
structure LOk (L:List LRow):Prop where
 ok:∀ x ∈ L,i64ok x.1∧i64ok x.2.1
 dis:L.Pairwise (fun x y => ¬ (x.1=y.1∧x.2.1=y.2.1))
theorem LOk.nil:LOk []:=⟨by simp,List.Pairwise.nil⟩
theorem same_eq {a b:Lit} (h:a.sameKey b=true):a=b:=by
 cases a <;> cases b <;> simp [Lit.sameKey] at h ⊢
 all_goals first | exact h | (obtain ⟨rfl,rfl⟩:=h; exact ⟨rfl,rfl⟩)
theorem key_same (k o:Int):(litP k o).sameKey (litP k o)=true:=by simp [litP,Lit.sameKey]
theorem same_at {x:LRow} (hx:i64ok x.1∧i64ok x.2.1) {k o:Int} (hk:i64ok k) (ho:i64ok o):(keyR x).sameKey (litP k o)=atB k o x:=by
 unfold keyR atB
 rw [sameKey_litP hx.1 hx.2 hk ho,Bool.decide_and]
def anyK (L:List LRow) (kl:Lit):Bool:=L.any fun x => (keyR x).sameKey kl
def heldL (L:List LRow) (k o:Int):Bool:=L.any (atB k o)
def aloneL (L:List LRow) (k o:Int):Bool:=L.any fun x => atB k o x && x.2.2
theorem any_congr' {α:Type} {f g:α→Bool}:∀ (l:List α),(∀ x ∈ l,f x=g x)→l.any f=l.any g
 | [],_ => rfl
 | a :: l,h => by rw [List.any_cons,List.any_cons,h a (by simp),any_congr' l (fun x hx => h x (by simp [hx]))]
theorem anyK_held {L:List LRow} (h:LOk L) {k o:Int} (hk:i64ok k) (ho:i64ok o):anyK L (litP k o)=heldL L k o :=
 any_congr' L fun x hx => same_at (h.ok x hx) hk ho
structure Reads {H:Type} (D:DataW H) (L:List LRow):Prop where
 has:∀ kl,Maps.has D kl=anyK L kl
 at_:∀ x ∈ L,∀ z,D.atKey (keyR x) z=.lit (.bool x.2.2)
 ok:LOk L
theorem Reads.empty {H:Type}:Reads (.map []:DataW H) []:=⟨fun kl => rfl,by simp,LOk.nil⟩
theorem atB_iff {k o:Int} {x:LRow}:atB k o x=true ↔ x.1=k∧x.2.1=o:=by unfold atB; simp
theorem at_same {L:List LRow} (h:LOk L):∀ {x y:LRow},x ∈ L→y ∈ L→x.1=y.1→x.2.1=y.2.1→x=y:=by
 obtain ⟨h0,hd⟩:=h
 clear h0
 induction hd with
 | nil => intro x y hx; cases hx
 | cons h1 h2 ih =>
  intro x y hx hy e1 e2
  rcases List.mem_cons.1 hx with ex | hx1
  ·rcases List.mem_cons.1 hy with ey | hy1
   ·rw [ex,ey]
   ·exact absurd (by rw [← ex]; exact ⟨e1,e2⟩) (h1 y hy1)
  ·rcases List.mem_cons.1 hy with ey | hy1
   ·exact absurd (by rw [← ey]; exact ⟨e1.symm,e2.symm⟩) (h1 x hx1)
   ·exact ih hx1 hy1 e1 e2
theorem Reads.look {H:Type} {D:DataW H} {L:List LRow} (h:Reads D L) {k o:Int} (hk:i64ok k) (ho:i64ok o):D.atKey (litP k o) (.lit (.bool false))=.lit (.bool (aloneL L k o)):=by
 rcases hh:heldL L k o with _ | _
 ·have h1:=h.has (litP k o)
  rw [anyK_held h.ok hk ho,hh] at h1
  rw [atKey_of_not_has h1]
  have:aloneL L k o=false:=by
   unfold aloneL; unfold heldL at hh
   rw [List.any_eq_false] at hh ⊢
   intro x hx; have:=hh x hx; simp at this; simp [this]
  rw [this]
 ·unfold heldL at hh
  obtain ⟨x,hx,hax⟩:=List.any_eq_true.1 hh
  have e:=atB_iff.1 hax
  have h1:=h.at_ x hx (.lit (.bool false))
  unfold keyR at h1
  rw [e.1,e.2] at h1
  rw [h1]
  have:aloneL L k o=x.2.2:=by
   unfold aloneL
   rcases hb:x.2.2 with _ | _
   ·rw [List.any_eq_false]
    intro y hy hc
    simp only [Bool.and_eq_true] at hc
    have e2:=atB_iff.1 hc.1
    have:=at_same h.ok hx hy (e.1.trans e2.1.symm) (e.2.trans e2.2.symm)
    subst this; rw [hb] at hc; cases hc.2
   ·exact List.any_eq_true.2 ⟨x,hx,by simp [hax,hb]⟩
  rw [this]
/-! ### how many -/
theorem nodup_le {α:Type}:∀ (l l':List α),l.Nodup→(∀ x ∈ l,x ∈ l')→l.length≤l'.length:=by
 classical
 intro l
 induction l with
 | nil => intro l' _ _; exact Nat.zero_le _
 | cons a l ih =>
  intro l' hn hs
  have ha:=hs a (by simp)
  have hn':=List.nodup_cons.1 hn
  have h1:=ih (l'.erase a) hn'.2 (fun x hx => (List.mem_erase_of_ne (fun e => hn'.1 (by rw [← e]; exact hx))).2 (hs x (by simp [hx])))
  have h2:=List.length_erase_of_mem ha
  have h3:=List.length_pos_of_mem ha
  simp only [List.length_cons]; omega
theorem keys_nodup {L:List LRow} (h:LOk L):(L.map keyR).Nodup:=by
 obtain ⟨h1,h2⟩:=h
 rw [List.Nodup,List.pairwise_map]
 refine List.Pairwise.imp_of_mem (fun {x y} hx hy hne e => hne ?_) h2
 exact litP_inj (h1 x hx).1 (h1 x hx).2 (h1 y hy).1 (h1 y hy).2 e
theorem Reads.size {H:Type} {w:World} {b n:Nat} {D:DataW H} {L:List LRow} (hown:w.ownsMap Tryz.prog 178 holdElem b n D) (h:Reads D L):Maps.size D=L.length:=by
 obtain ⟨es,rfl,hp,hkey⟩:=hown.entries lawP
 have hk:=h.has
 have hself:∀ q:Lit,WideAt.IsKeyLit q→q.sameKey q=true:=fun q hq => by cases q <;> simp [WideAt.IsKeyLit,Lit.sameKey] at hq ⊢
 have hm:∀ x ∈ L,keyR x ∈ es.map Prod.fst:=fun x hx => by
  have h1:Maps.has (.map es) (keyR x)=true:=by rw [hk]; exact List.any_eq_true.2 ⟨x,hx,key_same _ _⟩
  rw [has_eq] at h1
  obtain ⟨p,hp,e⟩:=List.any_eq_true.1 h1
  exact List.mem_map.2 ⟨p,hp,same_eq e⟩
 have hm2:∀ p ∈ es,p.1 ∈ L.map keyR:=fun p hp => by
  have h1:Maps.has (.map es) p.1=true:=by rw [has_eq]; exact List.any_eq_true.2 ⟨p,hp,hself _ (hkey p hp)⟩
  rw [hk] at h1
  obtain ⟨x,hx,e⟩:=List.any_eq_true.1 h1
  exact List.mem_map.2 ⟨x,hx,same_eq e⟩
 have n1:(es.map Prod.fst).Nodup:=by rw [List.Nodup,List.pairwise_map]; exact hp
 have l1:=nodup_le _ _ (keys_nodup h.ok) (fun y hy => by obtain ⟨x,hx,rfl⟩:=List.mem_map.1 hy; exact hm x hx)
 have l2:=nodup_le _ _ n1 (fun y hy => by obtain ⟨p,hp,rfl⟩:=List.mem_map.1 hy; exact hm2 p hp)
 rw [List.length_map,List.length_map] at l1 l2
 rw [size_eq]; omega
theorem own_exact {w:World} {H:Type} {b n:Nat} {D:DataW H} {R:Value→Option (DataW H × List MemPlace)} {P:Program} {k:TypeId} (h:w.ownsMap P k R b n D):w.ownsMap P k R b (Maps.size D) D:=by
 obtain ⟨es,clock,hb,F,hs,hD⟩:=h
 refine ⟨es,clock,hb,F,?_,hD⟩
 rw [hD,size_eq,length_sorted]; simp
/-! ### what is laid,and what is taken -/
def putL (L:List LRow) (k o:Int) (a:Bool):List LRow:=if heldL L k o then L.map fun x => if atB k o x then (k,o,a) else x else L ++ [(k,o,a)]
theorem key_of_at {k o:Int} {x:LRow} (h:atB k o x=true):keyR x=litP k o:=by
 have:=atB_iff.1 h; unfold keyR; rw [this.1,this.2]
theorem putL_ok {L:List LRow} (h:LOk L) {k o:Int} (hk:i64ok k) (ho:i64ok o) (a:Bool):LOk (putL L k o a):=by
 unfold putL
 split
 ·have hkey:∀ x:LRow,(if atB k o x then (k,o,a) else x).1=x.1∧(if atB k o x then (k,o,a) else x).2.1=x.2.1:=fun x => by
   split
   ·rename_i h1; have:=atB_iff.1 h1; exact ⟨this.1.symm,this.2.symm⟩
   ·exact ⟨rfl,rfl⟩
  refine ⟨fun x hx => ?_,?_⟩
  ·obtain ⟨y,hy,rfl⟩:=List.mem_map.1 hx
   rw [(hkey y).1,(hkey y).2]; exact h.ok y hy
  ·rw [List.pairwise_map]
   refine List.Pairwise.imp (fun {x y} hne => ?_) h.dis
   rw [(hkey x).1,(hkey x).2,(hkey y).1,(hkey y).2]; exact hne
 ·rename_i hh
  refine ⟨fun x hx => ?_,?_⟩
  ·rcases List.mem_append.1 hx with hx | hx
   ·exact h.ok x hx
   ·rw [List.mem_singleton] at hx; subst hx; exact ⟨hk,ho⟩
  ·rw [List.pairwise_append]
   refine ⟨h.dis,by simp,fun x hx y hy hc => hh ?_⟩
   rw [List.mem_singleton] at hy; subst hy
   exact List.any_eq_true.2 ⟨x,hx,atB_iff.2 hc⟩
theorem any_map_key {L:List LRow} {k o:Int} {a:Bool} (kl:Lit):(L.map fun x => if atB k o x then (k,o,a) else x).any (fun x => (keyR x).sameKey kl)=L.any fun x => (keyR x).sameKey kl:=by
 rw [List.any_map]
 refine any_congr' L fun x _ => ?_
 show (keyR (if atB k o x then (k,o,a) else x)).sameKey kl=_
 split
 ·rename_i h; rw [key_of_at h]; rfl
 ·rfl
theorem Reads.put {H:Type} {w:World} {b n:Nat} {D:DataW H} {L:List LRow} (hm:IsMap D) (h:Reads D L) {k o:Int} (hk:i64ok k) (ho:i64ok o) (a:Bool):Reads (D.put (litP k o) (.lit (.bool a))) (putL L k o a):=by
 have hhas:∀ kl,Maps.has (D.put (litP k o) (.lit (.bool a))) kl=((litP k o).sameKey kl || anyK L kl):=fun kl => by
  rcases he:(litP k o).sameKey kl with _ | _
  ·rw [has_put_other (fun e => by subst e; rw [key_same] at he; cases he),h.has]; rfl
  ·have:=same_eq he; subst this
   rw [has_put_same hm (isKey k o)]; rfl
 have hat:∀ x ∈ L,atB k o x=false→∀ z,(D.put (litP k o) (.lit (.bool a))).atKey (keyR x) z=.lit (.bool x.2.2):=fun x hx hne z => by
  rw [atKey_put_other (fun e => by
   have:=litP_inj (h.ok.ok x hx).1 (h.ok.ok x hx).2 hk ho e
   rw [atB_iff.2 this] at hne; cases hne)]
  exact h.at_ x hx z
 refine ⟨fun kl => ?_,fun x hx z => ?_,putL_ok h.ok hk ho a⟩
 ·rw [hhas]
  unfold putL
  split
  ·rename_i hh
   unfold anyK
   rw [any_map_key]
   rcases he:(litP k o).sameKey kl with _ | _
   ·rfl
   ·obtain ⟨x,hx,hax⟩:=List.any_eq_true.1 hh
    have:(L.any fun x => (keyR x).sameKey kl)=true:=List.any_eq_true.2 ⟨x,hx,by rw [key_of_at hax]; exact he⟩
    rw [this]; rfl
  ·unfold anyK
   rw [List.any_append,Bool.or_comm]
   simp [keyR]
 ·unfold putL at hx
  split at hx
  ·obtain ⟨y,hy,rfl⟩:=List.mem_map.1 hx
   split
   ·exact atKey_put_same hm (isKey k o) _ _
   ·rename_i hne; exact hat y hy (by simpa using hne) z
  ·rename_i hh
   rcases List.mem_append.1 hx with hx | hx
   ·exact hat x hx (by
     rcases hb:atB k o x with _ | _
     ·rfl
     ·exact absurd (List.any_eq_true.2 ⟨x,hx,hb⟩) hh) z
   ·rw [List.mem_singleton] at hx; subst hx
    exact atKey_put_same hm (isKey k o) _ _
/-! ### taking and dropping -/
def clashL (L:List LRow) (k o:Int) (a:Bool):Bool:=L.any fun x => decide (x.1=k) && !decide (x.2.1=o) && (a || x.2.2)
def takeL (L:List LRow) (o k:Int) (a:Bool):Int × List LRow :=
 if clashL L k o a then (120,L) else if heldL L k o=false∧L.length=64 then (5,L) else (0,putL L k o (aloneL L k o || a))
def dropL (L:List LRow) (o:Int):List LRow:=L.filter fun x => !decide (x.2.1=o)
theorem putL_len (L:List LRow) (k o:Int) (a:Bool):(putL L k o a).length=if heldL L k o then L.length else L.length + 1:=by
 unfold putL; split <;> simp
theorem dropL_ok {L:List LRow} (h:LOk L) (o:Int):LOk (dropL L o) :=
 ⟨fun x hx => h.ok x (List.mem_filter.1 hx).1,h.dis.filter _⟩
theorem takeL_ok {L:List LRow} (h:LOk L) {k o:Int} (hk:i64ok k) (ho:i64ok o) (a:Bool):LOk (takeL L o k a).2:=by
 unfold takeL; split
 ·exact h
 ·split
  ·exact h
  ·exact putL_ok h hk ho _
theorem takeL_len {L:List LRow} (h:L.length≤64) (o k:Int) (a:Bool):(takeL L o k a).2.length≤64:=by
 unfold takeL; split
 ·exact h
 ·split
  ·exact h
  ·rename_i h1
   show (putL L k o _).length≤64
   rw [putL_len]; split
   ·exact h
   ·rename_i h2; simp only [Bool.not_eq_true] at h2; rw [h2] at h1; simp at h1; omega
def ownK (L:List LRow) (o:Int) (kl:Lit):Bool:=L.any fun x => (keyR x).sameKey kl && decide (x.2.1=o)
structure DropAt {H:Type} (Dl D:DataW H) (L:List LRow) (o:Int) (left:Lit→Bool):Prop where
 has:∀ kl,Maps.has Dl kl=(Maps.has D kl && (left kl || !ownK L o kl))
 at_:∀ kl z,Maps.has Dl kl=true→Dl.atKey kl z=D.atKey kl z
theorem DropAt.start {H:Type} (D:DataW H) (L:List LRow) (o:Int):DropAt D D L o (Maps.has D) :=
 ⟨fun kl => by cases Maps.has D kl <;> simp,fun kl z _ => rfl⟩
theorem ownK_at {L:List LRow} (h:LOk L) {x:LRow} (hx:x ∈ L) (o:Int):ownK L o (keyR x)=decide (x.2.1=o):=by
 unfold ownK
 rw [Bool.eq_iff_iff,List.any_eq_true,decide_eq_true_eq]
 refine ⟨fun ⟨y,hy,he⟩ => ?_,fun e => ⟨x,hx,by simp [e,keyR,key_same]⟩⟩
 simp only [Bool.and_eq_true,decide_eq_true_eq] at he
 have:=litP_inj (h.ok y hy).1 (h.ok y hy).2 (h.ok x hx).1 (h.ok x hx).2 (same_eq he.1)
 rw [← this.2]; exact he.2
theorem mem_of_has {H:Type} {D:DataW H} {L:List LRow} (h:Reads D L) {k o:Int} (hk:i64ok k) (ho:i64ok o) (hh:Maps.has D (litP k o)=true):∃ x ∈ L,x.1=k∧x.2.1=o:=by
 rw [h.has,anyK_held h.ok hk ho] at hh
 obtain ⟨x,hx,hax⟩:=List.any_eq_true.1 hh
 exact ⟨x,hx,atB_iff.1 hax⟩
theorem DropAt.stay {H:Type} {Dl D:DataW H} {L:List LRow} {o k o':Int} {left:Lit→Bool} (h:DropAt Dl D L o left) (hR:Reads D L) (hk:i64ok k) (ho':i64ok o') (hh:Maps.has D (litP k o')=true) (hne:o'≠o):DropAt Dl D L o (fun z => left z && !z.sameKey (litP k o')):=by
 refine ⟨fun kl => ?_,h.at_⟩
 rw [h.has]
 rcases he:kl.sameKey (litP k o') with _ | _
 ·simp
 ·have:=same_eq he; subst this
  obtain ⟨x,hx,rfl,rfl⟩:=mem_of_has hR hk ho' hh
  have h2:=ownK_at hR.ok hx o
  unfold keyR at h2
  rw [h2,decide_eq_false hne]; simp
theorem DropAt.gone {H:Type} {Dl D:DataW H} {L:List LRow} {o k:Int} {left:Lit→Bool} (h:DropAt Dl D L o left) (hR:Reads D L) (hk:i64ok k) (ho:i64ok o) (hh:Maps.has D (litP k o)=true):DropAt (Dl.del (litP k o)) D L o (fun z => left z && !z.sameKey (litP k o)):=by
 have hd:∀ kl,kl.sameKey (litP k o)=false→kl≠litP k o:=fun kl he e => by subst e; rw [key_same] at he; cases he
 refine ⟨fun kl => ?_,fun kl z hz => ?_⟩
 ·rcases he:kl.sameKey (litP k o) with _ | _
  ·rw [has_del_other (hd kl he),h.has]; simp
  ·have:=same_eq he; subst this
   obtain ⟨x,hx,rfl,rfl⟩:=mem_of_has hR hk ho hh
   have h2:=ownK_at hR.ok hx x.2.1
   unfold keyR at h2
   rw [has_del_same,h2]; simp
 ·rcases he:kl.sameKey (litP k o) with _ | _
  ·rw [has_del_other (hd kl he)] at hz
   rw [atKey_del_other (hd kl he)]; exact h.at_ kl z hz
  ·have:=same_eq he; subst this
   rw [has_del_same] at hz; cases hz
theorem DropAt.done {H:Type} {Dl D:DataW H} {L:List LRow} {o:Int} {left:Lit→Bool} (h:DropAt Dl D L o left) (hR:Reads D L) (hl:∀ kl,left kl=false):Reads Dl (dropL L o):=by
 have hhas:∀ kl,Maps.has Dl kl=anyK (dropL L o) kl:=fun kl => by
  rw [h.has,hl,hR.has,Bool.false_or]
  unfold anyK dropL
  rw [List.any_filter]
  rcases hb:ownK L o kl with _ | _
  ·rw [Bool.not_false,Bool.and_true]
   unfold ownK at hb
   rw [List.any_eq_false] at hb
   refine any_congr' L fun x hx => ?_
   have:=hb x hx
   simp only [Bool.and_eq_true,decide_eq_true_eq,not_and] at this
   rcases hs:(keyR x).sameKey kl with _ | _
   ·simp
   ·simp [this hs]
  ·rw [Bool.not_true,Bool.and_false,eq_comm,List.any_eq_false]
   obtain ⟨x,hx,hxk⟩:=List.any_eq_true.1 hb
   simp only [Bool.and_eq_true,decide_eq_true_eq] at hxk
   intro y hy hc
   simp only [Bool.and_eq_true,Bool.not_eq_true',decide_eq_false_iff_not] at hc
   have e:=(same_eq hxk.1).trans (same_eq hc.2).symm
   have:=litP_inj (hR.ok.ok x hx).1 (hR.ok.ok x hx).2 (hR.ok.ok y hy).1 (hR.ok.ok y hy).2 e
   exact hc.1 (by rw [← this.2]; exact hxk.2)
 refine ⟨hhas,fun x hx z => ?_,dropL_ok hR.ok o⟩
 rw [h.at_ _ _ (by rw [hhas]; exact List.any_eq_true.2 ⟨x,hx,key_same _ _⟩)]
 exact hR.at_ x (List.mem_filter.1 hx).1 z
end Go.Proofs.YtlliaihmfimdoaaGreat


namespace Go.Proofs.YtlliaihmfimdoaaGreat
open Go.RowKit Go.Maps
def mkK (x:Int × Int):Value:=.agg #[.int .i64 x.1,.int .i64 x.2]
def mkV (c:Bool):Value:=.agg #[.bool c]
theorem invK (key:Value) (kl:Lit) (h:keyOf Tryz.prog 178 key=some kl):∃ x,key=mkK x:=by
 obtain ⟨x,rfl,_⟩:=keyOf_inv h; exact ⟨x,rfl⟩
theorem invV {H:Type} (v:Value) (y:DataW H × List MemPlace) (h:holdElem v=some y):∃ c,v=mkV c:=by
 obtain ⟨c,rfl,_⟩:=holdElem_inv h; exact ⟨c,rfl⟩
theorem mkK_inv {x:Int × Int} {kl:Lit} (h:keyOf Tryz.prog 178 (mkK x)=some kl):kl=litP x.1 x.2∧i64ok x.1∧i64ok x.2:=by
 obtain ⟨y,e,h1,h2,rfl⟩:=keyOf_inv h
 simp only [mkK,pv,Value.agg.injEq] at e
 simp at e
 obtain ⟨e1,e2⟩:=e
 rw [e1,e2]; exact ⟨rfl,h1,h2⟩
structure KE where
 k:Int
 o:Int
 c:Bool
def kv (e:KE):Value:=.agg #[.int .i64 e.k,.int .i64 e.o]
def vv (e:KE):Value:=.agg #[.bool e.c]
structure Came {H:Type} (w w':World) (b r n:Nat) (D:DataW H) (left:Lit→Bool) (cnt cnt':Nat) (e:KE):Prop where
 k:i64ok e.k
 o:i64ok e.o
 lf:left (litP e.k e.o)=true
 at_:∀ zd,D.atKey (litP e.k e.o) zd=.lit (.bool e.c)
 rg:w'.ranges Tryz.prog 178 holdElem b r n D (fun z => left z && !z.sameKey (litP e.k e.o)) cnt'
 lt:cnt' < cnt
 gr:w.grownBy w' (some r)
 sz:w'.heap.size=w.heap.size
theorem wpList_next_lock {H:Type} (w:World) {ops:Array Oper} {rest:List Oper} {o:Oper} {a:Act} {Q:Exit→Act→World→Prop} (hg:o.guard=none) (it:Operand) (hop:o.op=Op.next it false)
  (b r n:Nat) (D:DataW H) (left:Lit→Bool) (cnt:Nat) (hit:a.eval it=.pointer (some ⟨r,0,none⟩)) (h:w.ranges Tryz.prog 178 holdElem b r n D left cnt)
  (hDone:cnt=0→(∀ kl,left kl=false)→wpList Tryz.prog ops Q rest (a.put o.dst (.tuple #[.bool false])) w)
  (hMore:∀ (e:KE) (w':World) (cnt':Nat),Came w w' b r n D left cnt cnt' e→(Instr.entry (.pointer (some ⟨r,0,none⟩))).run Tryz.prog w'=.ok (.tuple #[.agg #[.int .i64 e.k,.int .i64 e.o],.agg #[.bool e.c]]) w' →
   wpList Tryz.prog ops Q rest (a.put o.dst (.tuple #[.bool true,.agg #[.int .i64 e.k,.int .i64 e.o],.agg #[.bool e.c]])) w') :
  wpList Tryz.prog ops Q (o :: rest) a w :=
 wpList_next_ranges w hg it hop 178 lawP holdElem mkK mkV invK invV b r n D left cnt hit h hDone (fun x c kl y w' cnt' hkey hlk hv hat hrg hlt hgr hsz hen => by
  obtain ⟨rfl,h1,h2⟩:=mkK_inv hkey
  obtain ⟨c',e1,rfl⟩:=holdElem_inv hv
  simp only [mkV,Value.agg.injEq] at e1
  simp at e1
  subst e1
  exact hMore ⟨x.1,x.2,c⟩ w' cnt' ⟨h1,h2,hlk,hat,hrg,hlt,hgr,hsz⟩ hen)
set_option maxRecDepth 100000 in
theorem copy_map {H:Type} (b bd n:Nat) (D0:DataW H) (w:World) (hne:b≠bd) (hown:w.ownsMap Tryz.prog 178 holdElem b n D0) (hd:w.ownsMap (H:=H) Tryz.prog 178 holdElem bd 0 (.map [])) (hmax:Maps.size D0≤64) :
  Calls Tryz.prog 158 #[.map (some bd),.map (some b)] w fun e w' => e=.returned (.tuple #[])∧w'.ownsMap Tryz.prog 178 holdElem bd (Maps.size D0) D0∧w.grownBy w' (some bd):=by
 have hbl:=hown.lt
 have hdl:=hd.lt
 go_enter Tryz.func158,Tryz.ntmps158
 go_wp2_with (first
  | (at_range; refine wpList_range_own _ rfl _ 91 rfl 178 185 lawP Tryz.underlying91 _ b n _ rfl hown ?_; intro w0 hrg0 hg0 hs0)
  | go_in)
 go_frame
 go_loopw [] (fun wr => ∃ (left:Lit→Bool) (cnt:Nat) (Dout:DataW H),wr.ranges Tryz.prog 178 holdElem b w.heap.size n D0 left cnt∧cnt≤Maps.size D0 ∧
   wr.ownsMap Tryz.prog 178 holdElem bd (Maps.size D0 - cnt) Dout∧Agree Dout D0 left∧w.grownBy wr (some bd))
  (fun wr => wr.rangeLeft b w.heap.size)
 case atStart =>
  exact ⟨_,_,.map [],hrg0,Nat.le_refl _,(hd.kept hg0 (by simp)).mono (Nat.zero_le _),agree_start D0,hg0.but _⟩
 case round =>
  obtain ⟨left,cnt,Dout,hrg,hcs,hout,hA,hnx⟩:=hrel
  go_wp2_with (first
   | (at_next; refine wpList_next_lock _ rfl _ rfl b w.heap.size n _ _ _ rfl hrg ?_ ?_)
   | go_in)
  ·intro hc0 hl0
   go_wp2
   go_end0
   subst hc0
   have e:=agree_end hA hl0 (hout.canon lawP) (hown.canon lawP)
   subst e
   exact ⟨rfl,by simpa using hout,hnx⟩
  ·intro e w1 cnt1 hc hen
   have hout1:=hout.kept hc.gr (by simp; omega)
   obtain ⟨w2,hw2⟩:∃ w2,w2=(w1.alloc (.cells #[.int .i64 e.k,.int .i64 e.o] 178)).alloc (.cells #[.bool e.c] 185):=⟨_,rfl⟩
   have hb2:w1.grownBy w2 none:=by rw [hw2]; exact (World.grownBy_alloc w1 _ none).andThen (World.grownBy_alloc _ _ none) (fun j h => by cases h)
   have hout2:=hout1.kept hb2 (by simp)
   have hrg2:=hc.rg.kept hb2 (by simp) (by simp)
   have hkey:=keyOf_pv e.k e.o hc.k hc.o
   unfold pv at hkey
   rw [hw2] at hout2
   go_wp2_with (first
    | (at_mapUpdate; refine wpList_mapUpdate_own _ rfl _ _ _ 91 rfl 178 185 lawP Tryz.underlying91 _ bd _ _ rfl hout2 (by simp only [maxLen]; omega) _ _ _ rfl rfl hkey _ [] (holdElem_mk e.c) ?_; intro w3 hout3 hg3; go_frame)
    | go_in)
   rw [← hw2] at hg3
   have hrg3:=hrg2.kept hg3 (fun e => by have:=Option.some.inj e; omega) (fun e => by have:=Option.some.inj e; omega)
   go_roundw
   case rel =>
    exact ⟨_,cnt1,_,hrg3,by have:=hc.lt; omega,hout3.mono (by have:=hc.lt; omega),agree_step hA hout.isMap (isKey _ _) hc.at_,
     ((hnx.andThen hc.gr (fun j hj => by cases hj; exact .inl (Nat.le_refl _))).andThen hb2 (fun j hj => by cases hj)).andThen hg3 (fun j hj => by cases hj; exact .inr rfl)⟩
   case measure => rw [hrg3.left_eq,hrg.left_eq]; exact hc.lt
theorem copy_nil (bd:Nat) (w:World):Calls Tryz.prog 158 #[.map (some bd),.map none] w fun e w' => e=.returned (.tuple #[])∧Below w.heap.size w w':=by
 have hrg:=run_range_nilMap (P:=Tryz.prog) w 91 178 185 Tryz.underlying91
 have hnx:∀ ty,(Instr.next (.pointer (some ⟨w.heap.size,0,none⟩)) false ty).run Tryz.prog (w.alloc (.mapIter none 0 #[] 0))=_:=fun ty => run_next_nilMap w ty 0 0 #[]
 go_enter Tryz.func158,Tryz.ntmps158
 go_wp2
 refine wp_loop_rounds 1 ?_
 rw [rounds_succ]
 go_wp2
 go_end0
 exact ⟨rfl,ba _ _⟩
end Go.Proofs.YtlliaihmfimdoaaGreat


namespace Go.Proofs.YtlliaihmfimdoaaGreat
open Go.RowKit Go.Maps
theorem run_makeMap_n (n:Int) (u:World):(Instr.makeMap 91 (some (.int .i64 n))).run Tryz.prog u=.ok (.map (some u.heap.size)) (u.alloc (.map #[] 0)):=by
 simp [Instr.makeMap,run_underlying Tryz.underlying91,asInt,go_sem,Result.andThen]
def Src (w:World) (m:Option Nat) (L:List LRow):Prop :=
 (m=none∧L=[])∨∃ b,∃ D:DataW Unit,m=some b∧w.ownsMap Tryz.prog 178 holdElem b L.length D∧Reads D L
theorem Src.below {w w':World} {m:Option Nat} {L:List LRow} (h:Src w m L) (hb:Below w.heap.size w w'):Src w' m L:=by
 rcases h with h | ⟨b,D,h1,h2,h3⟩
 ·exact .inl h
 ·exact .inr ⟨b,D,h1,own_below h2 hb,h3⟩
theorem Src.kept {w w':World} {m:Option Nat} {L:List LRow} {g:Nat} {t:TypeId} {cs:Array Value} (h:Src w m L) (hg:w.grownBy w' (some g)) (hk:Blk w g t cs):Src w' m L:=by
 rcases h with h | ⟨b,D,h1,h2,h3⟩
 ·exact .inl h
 ·exact .inr ⟨b,D,h1,h2.kept hg (fun e => own_ne_blk h2 hk (Option.some.inj e)),h3⟩
theorem Src.ok {w:World} {m:Option Nat} {L:List LRow} (h:Src w m L):LOk L:=by
 rcases h with ⟨_,rfl⟩ | ⟨_,_,_,_,h⟩
 ·exact LOk.nil
 ·exact h.ok
def TabO (w:World) (g of:Nat) (t:TypeId) (cs:Array Value) (L:List LRow):Prop :=
 L.length≤64∧∃ m,Blk w g t cs∧cs[of]?=some (.map m)∧Src w m L
theorem TabO.lt {w:World} {g of:Nat} {t:TypeId} {cs:Array Value} {L:List LRow} (h:TabO w g of t cs L):g < w.heap.size:=by
 obtain ⟨_,m,h,_⟩:=h; exact h.lt
theorem TabO.len {w:World} {g of:Nat} {t:TypeId} {cs:Array Value} {L:List LRow} (h:TabO w g of t cs L):L.length≤64:=h.1
theorem TabO.ok {w:World} {g of:Nat} {t:TypeId} {cs:Array Value} {L:List LRow} (h:TabO w g of t cs L):LOk L:=by
 obtain ⟨_,m,_,_,h⟩:=h; exact h.ok
theorem TabO.src {w:World} {g of:Nat} {t:TypeId} {cs:Array Value} {L:List LRow} (h:TabO w g of t cs L):∃ m,Blk w g t cs∧cs[of]?=some (.map m)∧Src w m L:=h.2
theorem TabO.of_src {w:World} {g of:Nat} {t:TypeId} {cs:Array Value} {L:List LRow} {m:Option Nat} (hl:L.length≤64) (h:Blk w g t cs) (hc:cs[of]?=some (.map m)) (hs:Src w m L):TabO w g of t cs L:=⟨hl,m,h,hc,hs⟩
def PutO (w:World) (g of:Nat) (t:TypeId) (cs:Array Value) (L:List LRow) (e:Ending) (w':World):Prop:=e=.returned (.tuple #[])∧(∃ m,TabO w' g of t (cs.setIfInBounds of (.map m)) L)∧w.grownBy w' (some g)
theorem Src.len_run {w:World} {m:Option Nat} {L:List LRow} (h:Src w m L) (ty:TypeId):(Builtin.len_ #[91] ty #[.map m]).run Tryz.prog w=.ok (.int .i64 L.length) w:=by
 rcases h with ⟨rfl,rfl⟩ | ⟨b,D,rfl,h2,h3⟩
 ·exact Maps.len_nil Tryz.underlying91 ty
 ·rw [h2.len Tryz.underlying91 ty,Reads.size h2 h3]
theorem Src.copied {w:World} {m:Option Nat} {L:List LRow} (h:Src w m L) (hl:L.length≤64) (bd:Nat) (hd:w.ownsMap (H:=Unit) Tryz.prog 178 holdElem bd 0 (.map [])) (hne:m≠some bd) :
  ∃ D:DataW Unit,Reads D L∧Calls Tryz.prog 158 #[.map (some bd),.map m] w fun e w' => e=.returned (.tuple #[])∧w'.ownsMap Tryz.prog 178 holdElem bd L.length D∧w.grownBy w' (some bd):=by
 rcases h with ⟨rfl,rfl⟩ | ⟨b,D,rfl,h2,h3⟩
 ·refine ⟨.map [],Reads.empty,(copy_nil bd w).mono ?_⟩
  rintro e w' ⟨rfl,hb⟩
  exact ⟨rfl,own_below hd hb,lbelow_grown hb _⟩
 ·have hs:=Reads.size h2 h3
  have:=copy_map b bd L.length D w (fun e => hne (by rw [e])) h2 hd (by rw [hs]; exact hl)
  rw [hs] at this
  exact ⟨D,h3,this⟩
set_option maxRecDepth 100000 in
set_option maxHeartbeats 1000000 in
theorem put_any (g of:Nat) (tt:TypeId) (cs:Array Value) (L:List LRow) (k o:Int) (a:Bool) (w:World) (h:TabO w g of tt cs L) (hk:i64ok k) (ho:i64ok o) (hl:(putL L k o a).length≤64) :
  Calls Tryz.prog 148 #[.pointer (some ⟨g,of,none⟩),.agg #[.int .i64 k,.int .i64 o],.agg #[.bool a]] w (PutO w g of tt cs (putL L k o a)):=by
 have hkey:=keyOf_pv k o hk ho
 unfold pv at hkey
 have hmk:=run_makeMap_n
 have hglt:=h.lt
 obtain ⟨m,hg,hcs,hsrc⟩:=h.src
 have hlen:=h.1
 obtain ⟨n,hn⟩:∃ n,n=L.length:=⟨_,rfl⟩
 obtain ⟨w1,hw1⟩:∃ w1,w1=(w.alloc (.cells #[.int .i64 k,.int .i64 o] 178)).alloc (.cells #[.bool a] 185):=⟨_,rfl⟩
 have hb1:Below w.heap.size w w1:=by rw [hw1]; exact bt (ba _ _) (ba _ _)
 have hs1:w1.heap.size=w.heap.size + 2:=by rw [hw1]; simp
 have k1:Blk w1 w.heap.size 178 #[.int .i64 k,.int .i64 o]:=by rw [hw1]; exact (Blk.new _ _ _).alloc _
 have k2:Blk w1 (w.heap.size + 1) 185 #[.bool a]:=by
  rw [hw1]; have:=Blk.new (w.alloc (.cells #[.int .i64 k,.int .i64 o] 178)) 185 #[.bool a]; rwa [World.size_alloc] at this
 have hg1:=hg.below hb1 hglt
 have hsrc1:=hsrc.below hb1
 have hln:=hsrc1.len_run
 rw [← hn] at hln
 have c0:=(hg1.cell of).trans hcs
 have hb2:=ba w1 (.map #[] 0)
 have hmade:=World.ownsMap_made (H:=Unit) w1 Tryz.prog 178 holdElem
 have hmlt:m≠some w1.heap.size:=fun e => by
  rcases hsrc1 with ⟨h1,_⟩ | ⟨b,D,h1,h2,_⟩
  ·rw [h1] at e; cases e
  ·rw [h1] at e; have:=h2.lt; have:=Option.some.inj e; omega
 obtain ⟨D,hR,hcp⟩:=(hsrc1.below hb2).copied hlen _ hmade hmlt
 have hg2:=hg1.below hb2 hg1.lt
 have c2:=(hg2.cell of).trans hcs
 have k12:=k1.below hb2 k1.lt
 have k22:=k2.below hb2 k2.lt
 have hbs:w1.heap.size=w.heap.size + 2:=hs1
 generalize hbm:w1.heap.size=bm at *
 have Hbm:=Lib.hid hbm
 have hb12:=bt hb1 (hbm ▸ hb2)
 rw [hw1] at c0 hln hcp c2
 have HW1:=Lib.hid hw1
 have HN:=Lib.hid (And.intro hn hlen)
 have Hst:=Lib.hid (And.intro hR (And.intro hk (And.intro ho hl)))
 have hnb:(n:Int)≤64:=by omega
 have Hcs:=Lib.hid hcs
 clear hcs hw1 hg hsrc hsrc1 h hlen hmade hmlt hb1 hs1 k1 k2 hg1 hb2 hbm hn hR hk ho hl
 go_enter Tryz.func148,Tryz.ntmps148
 go_wp2_with fail
 have hbm1:w.heap.size + 1 + 1=bm:=hbs.symm
 rw [hbm1]
 refine hcp.mono ?_
 rintro e w3 ⟨rfl,hown3,hg3⟩
 rw [← HW1.out] at hg3
 have hgm:g≠bm:=by omega
 have g3:=hg2.kept hg3 (fun e => hgm (Option.some.inj e))
 have k13:=k12.kept hg3 (fun e => by have:=Option.some.inj e; omega)
 have k23:=k22.kept hg3 (fun e => by have:=Option.some.inj e; omega)
 have e0:=k13.cell 0
 have e1:=k13.cell 1
 have e2:=k23.cell 0
 simp only [List.getElem?_toArray,List.getElem?_cons_zero,List.getElem?_cons_succ] at e0 e1 e2
 have Hbs:=Lib.hid hbs
 clear hcp c0 c2 hln hg2 k12 k22 hbs hbm1
 have hnl:L.length < maxLen:=by have:=HN.out.2; unfold maxLen; omega
 go_wp2_with (first
  | (at_mapUpdate; refine wpList_mapUpdate_own _ rfl _ _ _ 91 rfl 178 185 lawP Tryz.underlying91 _ bm _ _ rfl hown3 hnl _ _ _ rfl rfl hkey _ [] (holdElem_mk a) ?_; intro w4 hown4 hg4; go_frame; have g4:=g3.kept hg4 (fun e => hgm (Option.some.inj e)); have d0:=(g4.cell of).trans Hcs.out; have f0:=g4.frozen of)
  | go_in)
 go_wp2
 go_end0
 obtain ⟨hR,hk,ho,hl⟩:=Hst.out
 have hbs:=Hbs.out
 have hR4:=Reads.put (w:=w4) (b:=bm) (n:=0) hown3.isMap hR hk ho a
 have hx:=own_exact hown4
 rw [Reads.size hown4 hR4] at hx
 refine ⟨rfl,⟨some bm,TabO.of_src hl (m:=some bm) (g4.set_ of (.map (some bm))) (set_at Hcs.out) (.inr ⟨bm,_,rfl,hx.setCell (a:=⟨g,of,none⟩) (fun e => hgm e.symm) _,hR4⟩)⟩,?_⟩
 ·have q1:w.grownBy w4 none:=by
   refine ⟨hg4.os.trans (hg3.os.trans hb12.os),hg4.tape.trans (hg3.tape.trans hb12.tape),hg4.output.trans (hg3.output.trans hb12.output),Nat.le_trans hb12.size (Nat.le_trans hg3.size hg4.size),fun i hi _ => ?_⟩
   have hi2:=Nat.lt_of_lt_of_le hi hb12.size
   have hni:some i≠some bm:=fun e => by have:=Option.some.inj e; omega
   exact (hg4.block i (Nat.lt_of_lt_of_le hi2 hg3.size) hni).trans ((hg3.block i hi2 hni).trans (hb12.block i hi))
  exact (q1.but (some g)).andThen (lgrown_set w4 ⟨g,of,none⟩ (.map (some bm))) (fun j h => by cases h; exact .inr rfl)
end Go.Proofs.YtlliaihmfimdoaaGreat


namespace Go.Proofs.YtlliaihmfimdoaaGreat
open Go.RowKit Go.Maps
def clash1 (k o:Int) (a:Bool) (x:LRow):Bool:=decide (x.1=k) && !decide (x.2.1=o) && (a || x.2.2)
theorem clashL_any (L:List LRow) (k o:Int) (a:Bool):clashL L k o a=L.any (clash1 k o a):=rfl
theorem came_mem {H:Type} {w w':World} {b r n:Nat} {D:DataW H} {L:List LRow} {left:Lit→Bool} {cnt cnt':Nat} {e:KE} (h:Came w w' b r n D left cnt cnt' e) (hR:Reads D L) (hl:left (litP e.k e.o)=true→Maps.has D (litP e.k e.o)=true):(e.k,e.o,e.c) ∈ L:=by
 obtain ⟨x,hx,h1,h2⟩:=mem_of_has hR h.k h.o (hl h.lf)
 have h3:=hR.at_ x hx .nil
 have h4:=h.at_ .nil
 unfold keyR at h3
 rw [h1,h2,h4] at h3
 simp at h3
 have:x=(e.k,e.o,e.c):=by rw [← h1,← h2,h3]
 rw [← this]; exact hx
def Gone (L:List LRow) (left:Lit→Bool) (p:LRow→Bool):Prop:=∀ x ∈ L,left (keyR x)=false→p x=false
theorem Gone.step {H:Type} {w w':World} {b r n:Nat} {D:DataW H} {L:List LRow} {left:Lit→Bool} {cnt cnt':Nat} {e:KE} {p:LRow→Bool} (h:Gone L left p) (hc:Came w w' b r n D left cnt cnt' e) (hR:Reads D L) (hm:(e.k,e.o,e.c) ∈ L) (hp:p (e.k,e.o,e.c)=false) :
  Gone L (fun z => left z && !z.sameKey (litP e.k e.o)) p:=fun x hx hl => by
 dsimp only at hl
 rcases hs:(keyR x).sameKey (litP e.k e.o) with _ | _
 ·rw [hs] at hl; simp at hl; exact h x hx hl
 ·have hok:=hR.ok.ok x hx
  have:=litP_inj hok.1 hok.2 hc.k hc.o (Go.Proofs.YtlliaihmfimdoaaGreat.same_eq hs)
  have h2:=at_same hR.ok hx hm this.1 this.2
  rw [h2]; exact hp
set_option maxRecDepth 100000 in
set_option maxHeartbeats 1000000 in
theorem clashes_any (g of:Nat) (tt:TypeId) (cs:Array Value) (L:List LRow) (k o:Int) (a:Bool) (w:World) (h:TabO w g of tt cs L) :
  Calls Tryz.prog 147 #[.pointer (some ⟨g,of,none⟩),.agg #[.int .i64 k,.int .i64 o],.bool a] w fun e w' => e=.returned (.bool (clashL L k o a))∧Below w.heap.size w w':=by
 have hglt:=h.lt
 have hb1:=ba w (.cells #[.int .i64 k,.int .i64 o] 178)
 have k1:=Blk.new w 178 #[.int .i64 k,.int .i64 o]
 obtain ⟨m,hg,hcs,hsrc⟩:=h.src
 have hg1:=hg.below hb1 hglt
 have hs1:=hsrc.below hb1
 have c0:=(hg1.cell of).trans hcs
 clear hg hsrc h hcs
 rcases hs1 with ⟨rfl,rfl⟩ | ⟨b,D,rfl,hown,hR⟩
 ·have hrg:=run_range_nilMap (P:=Tryz.prog) (w.alloc (.cells #[.int .i64 k,.int .i64 o] 178)) 91 178 185 Tryz.underlying91
  have hnx:∀ ty,(Instr.next (.pointer (some ⟨(w.alloc (.cells #[.int .i64 k,.int .i64 o] 178)).heap.size,0,none⟩)) false ty).run Tryz.prog ((w.alloc (.cells #[.int .i64 k,.int .i64 o] 178)).alloc (.mapIter none 0 #[] 0))=_:=fun ty => run_next_nilMap _ ty 0 0 #[]
  have e1:(w.alloc (.cells #[.int .i64 k,.int .i64 o] 178)).heap.size=w.heap.size + 1:=by simp
  rw [e1] at hrg hnx
  go_enter Tryz.func147,Tryz.ntmps147
  go_wp2
  refine wp_loop_rounds 1 ?_
  rw [rounds_succ]
  go_wp2
  go_ret
  exact ⟨rfl,bt (ba _ _) (ba _ _)⟩
 ·go_enter Tryz.func147,Tryz.ntmps147
  go_wp2_with (first
   | (at_range; refine wpList_range_own _ rfl _ 91 rfl 178 185 lawP Tryz.underlying91 _ b L.length _ rfl hown ?_; intro w0 hrg0 hg0 hs0)
   | go_in)
  go_frame
  rw [World.size_alloc] at hrg0 hs0 ⊢
  have hB0:Below w.heap.size w w0:=bt hb1 (lgrown_below hg0)
  have k0:=k1.kept hg0 (by simp)
  have hk0:w.heap.size < w0.heap.size:=k0.lt
  clear hb1 k1 hg1 c0
  go_loopw [] (fun wr => ∃ (left:Lit→Bool) (cnt:Nat),wr.ranges Tryz.prog 178 holdElem b (w.heap.size + 1) L.length D left cnt∧(∀ kl,left kl=true→Maps.has D kl=true)∧Gone L left (clash1 k o a)∧w0.grownBy wr (some (w.heap.size + 1)))
   (fun wr => wr.rangeLeft b (w.heap.size + 1))
  case atStart =>
   refine ⟨_,_,hrg0,fun _ h => h,fun x hx hl => ?_,⟨rfl,rfl,rfl,Nat.le_refl _,fun _ _ _ => rfl⟩⟩
   rw [hR.has] at hl
   exact absurd (show anyK L (keyR x)=true from List.any_eq_true.2 ⟨x,hx,key_same _ _⟩) (by rw [hl]; simp)
  case round =>
   obtain ⟨left,cnt,hrg,hlf,hgone,hgr⟩:=hrel
   have kr:=k0.kept hgr (by simp)
   have hBr:Below w.heap.size w wr:=⟨hgr.os.trans hB0.os,hgr.tape.trans hB0.tape,hgr.output.trans hB0.output,Nat.le_trans hB0.size hgr.size,fun i hi => (hgr.block i (Nat.lt_of_lt_of_le hi hB0.size) (fun e => by have:=Option.some.inj e; omega)).trans (hB0.block i hi)⟩
   go_wp2_with (first
    | (at_next; refine wpList_next_lock _ rfl _ rfl b (w.heap.size + 1) L.length _ _ _ rfl hrg ?_ ?_)
    | go_in)
   ·intro hc0 hl0
    go_wp2
    go_ret
    have:clashL L k o a=false:=by rw [clashL_any,List.any_eq_false]; intro x hx; rw [hgone x hx (hl0 _)]; simp
    rw [this]
    exact ⟨rfl,hBr⟩
   ·intro e w1 cnt1 hc hen
    have hm:=came_mem hc hR (hlf _)
    obtain ⟨w2,hw2⟩:∃ w2,w2=(w1.alloc (.cells #[.int .i64 e.k,.int .i64 e.o] 178)).alloc (.cells #[.bool e.c] 185):=⟨_,rfl⟩
    have hb2:Below w1.heap.size w1 w2:=by rw [hw2]; exact bt (ba _ _) (ba _ _)
    have hrg2:=hc.rg.kept (lbelow_grown hb2 none) (by simp) (by simp)
    have kr1:=kr.kept hc.gr (fun e => by have:=Option.some.inj e; omega)
    have kr2:=kr1.below hb2 kr1.lt
    have e0:=kr2.cell 0
    have e1:=kr2.cell 1
    simp only [List.getElem?_toArray,List.getElem?_cons_zero,List.getElem?_cons_succ] at e0 e1
    have hgr2:w0.grownBy w2 (some (w.heap.size + 1)):=(hgr.andThen hc.gr (fun j h => by cases h; exact .inr rfl)).andThen (lbelow_grown hb2 none) (fun j h => by cases h)
    have hBw2:Below w.heap.size w w2:=⟨hgr2.os.trans hB0.os,hgr2.tape.trans hB0.tape,hgr2.output.trans hB0.output,Nat.le_trans hB0.size hgr2.size,fun i hi => (hgr2.block i (Nat.lt_of_lt_of_le hi hB0.size) (fun e => by have:=Option.some.inj e; omega)).trans (hB0.block i hi)⟩
    have hyes:clash1 k o a (e.k,e.o,e.c)=true→clashL L k o a=true:=fun h => List.any_eq_true.2 ⟨_,hm,h⟩
    have hno:=fun h => hgone.step hc hR hm h
    obtain ⟨ek,eo,ec⟩:=e
    simp only at hw2 hrg2 hen hyes hno hm ⊢
    rw [hw2] at e0 e1 hrg2 hgr2 hBw2
    have hlf2:∀ kl,(fun z => left z && !z.sameKey (litP ek eo)) kl=true→Maps.has D kl=true:=fun kl h => hlf kl (by simp at h; exact h.1)
    have hlt2:=hc.lt
    have Hrel:=Lib.hid (And.intro hrg2 (And.intro hlf2 (And.intro hno (And.intro hgr2 (And.intro hBw2 hyes)))))
    have Hms:Hid (cnt1 < wr.rangeLeft b (w.heap.size + 1)):=Lib.hid (by rw [hrg.left_eq]; exact hlt2)
    clear hw2 hrg2 hno hyes hgr2 hBw2 hb2 hrg hgone hgr kr hBr hm kr1 kr2 hlf hlf2 hlt2
    have hcase:(ek≠k)∨(ek=k∧eo=o)∨(ek=k∧eo≠o):=by omega
    rcases hcase with h1 | ⟨rfl,rfl⟩ | ⟨rfl,h1⟩
    ·go_wp2
     go_roundw
     case rel => exact ⟨_,cnt1,Hrel.out.1,Hrel.out.2.1,Hrel.out.2.2.1 (by simp [clash1,h1]),Hrel.out.2.2.2.1⟩
     case measure => rw [Hrel.out.1.left_eq]; exact Hms.out
    ·go_wp2
     go_roundw
     case rel => exact ⟨_,cnt1,Hrel.out.1,Hrel.out.2.1,Hrel.out.2.2.1 (by simp [clash1]),Hrel.out.2.2.2.1⟩
     case measure => rw [Hrel.out.1.left_eq]; exact Hms.out
    ·rcases a with _ | _
     ·rcases ec with _ | _
      ·go_wp2
       go_roundw
       case rel => exact ⟨_,cnt1,Hrel.out.1,Hrel.out.2.1,Hrel.out.2.2.1 (by simp [clash1]),Hrel.out.2.2.2.1⟩
       case measure => rw [Hrel.out.1.left_eq]; exact Hms.out
      ·go_wp2
       go_ret
       rw [Hrel.out.2.2.2.2.2 (by simp [clash1,h1])]
       exact ⟨rfl,Hrel.out.2.2.2.2.1⟩
     ·go_wp2
      go_ret
      rw [Hrel.out.2.2.2.2.2 (by simp [clash1,h1])]
      exact ⟨rfl,Hrel.out.2.2.2.2.1⟩
end Go.Proofs.YtlliaihmfimdoaaGreat

