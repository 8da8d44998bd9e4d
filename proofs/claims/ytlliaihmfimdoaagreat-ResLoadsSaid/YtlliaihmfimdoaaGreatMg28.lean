/- Parts D1 D2 D3 D4 Sa of one proof. -/
import Derived.Test.YtlliaihmfimdoaaGreatMg18
import Derived.Test.YtlliaihmfimdoaaGreatMg27
import Derived.StillTailTactics
import Derived.Test.YtlliaihmfimdoaaGreatMg14
import Derived.Test.YtlliaihmfimdoaaGreatMg25
set_option linter.unusedSimpArgs false
set_option linter.unusedVariables false
namespace Go.Proofs.YtlliaihmfimdoaaGreat.Dr
open Go.RowKit Go.Maps Go.Joins Go.Deep Go.Proofs.YtlliaihmfimdoaaGreat
abbrev PL:=List (Int × Nat)
def Apart (ws:List WI) (qs:List Qu.WI):Prop:=∀ y ∈ ws,∀ z ∈ qs,∀ r,blk y.A=some r→blk z.A≠some r
structure DR (u:World) (B x:Nat) (P:PL) (ws:List WI) (L:List LRow) (Q:PL) (qs:List Qu.WI) (gv:Int):Prop where
 ex:∃ a b c d e,Ds.RAt (d,e,.int .i64 gv) u B x P ws L∧Qu.Dq.RQ (a,b,c) u B x Q qs gv∧Blk u x 38 #[a,b,c,d,e,.int .i64 gv]
 ap:Apart ws qs
theorem DR.below {u u':World} {B x:Nat} {P Q:PL} {ws:List WI} {L:List LRow} {qs:List Qu.WI} {gv:Int} (h:DR u B x P ws L Q qs gv) (hb:Below u.heap.size u u'):DR u' B x P ws L Q qs gv:=by
 obtain ⟨a,b,c,d,e,h1,h2,h3⟩:=h.ex
 exact ⟨⟨a,b,c,d,e,h1.below hb,h2.below hb,h3.below hb h3.lt⟩,h.ap⟩
theorem blk_eq {u:World} {x:Nat} {t t':TypeId} {cs cs':Array Value} (h:Blk u x t cs) (h':Blk u x t' cs'):cs=cs':=by
 unfold Blk at h h'
 rw [h] at h'
 injection h' with h'
 injection h' with h'
theorem queue_kept {u u':World} {B B0 x:Nat} {S:Nat→Prop} {Q:PL} {qs:List Qu.WI} {gv:Int} {a b c a' b' c' d e:Value} (h:Qu.Dq.RQ (a,b,c) u B x Q qs gv) (hk:Blk u x 38 #[a,b,c,d,e,.int .i64 gv]) (hk':Blk u' x 38 #[a',b',c',d,e,.int .i64 gv])
  (hg:RG B0 u u' x S) (hS:∀ r,S r→∀ z ∈ qs,blk z.A≠some r):Qu.Dq.RQ (a',b',c') u' B x Q qs gv:=by
 obtain ⟨AP,nP,cP,AW,nW,cW,k1,h1,h2,h3,h4⟩:=h.ex
 have he:=blk_eq hk k1
 simp only [Array.mk.injEq,List.cons.injEq,and_true] at he
 obtain ⟨_,_,_,rfl,rfl,_⟩:=he
 have keep:∀ r,r < u.heap.size→r≠x→∀ t,(∃ cs fz,u.heap[r]?=some (.cells cs t fz))→t≠109→t≠147→(t=74→¬ S r)→u'.heap[r]?=u.heap[r]?:=by
  intro r hr hx t ⟨cs,fz,ht⟩ t1 t2 t3
  rcases hg.block r hr hx with e | ⟨cs2,fz2,e⟩ | ⟨cs2,fz2,e⟩ | ⟨⟨cs2,fz2,e⟩,hs⟩
  ·exact e
  ·rw [ht] at e; injection e with e; injection e with _ e _; exact absurd e t1
  ·rw [ht] at e; injection e with e; injection e with _ e _; exact absurd e t2
  ·rw [ht] at e; injection e with e; injection e with _ e _; exact absurd hs (t3 e)
 have ne:∀ r t,(∃ cs fz,u.heap[r]?=some (.cells cs t fz))→t≠38→r≠x:=by
  intro r t ⟨cs,fz,ht⟩ t1 e
  subst e
  unfold Blk at hk
  rw [hk] at ht
  injection ht with ht
  injection ht with _ ht _
  exact t1 ht.symm
 refine ⟨⟨AP,nP,cP,AW,nW,cW,hk',h1,h2,own_same h3 (fun r hr ht _ => keep r hr (ne r _ ht (by decide)) _ ht (by decide) (by decide) (fun e => absurd e (by decide))),own_same h4 (fun r hr ht _ => keep r hr (ne r _ ht (by decide)) _ ht (by decide) (by decide) (fun e => absurd e (by decide)))⟩,fun z hz => ?_,h.ds,h.sm⟩
 obtain ⟨w1,w2,w3⟩:=h.wk z hz
 refine ⟨w1,?_,own_same w3 (fun r hr ht hb => keep r hr (ne r _ ht (by decide)) _ ht (by decide) (by decide) (fun _ hs => hS r hs z hz hb))⟩
 have ht:∃ cs fz,u.heap[z.q]?=some (.cells cs 149 fz):=⟨_,_,w2⟩
 exact (keep z.q w2.lt (ne _ _ ht (by decide)) _ ht (by decide) (by decide) (fun e => absurd e (by decide))).trans w2
theorem store_kept {u u':World} {B B0 x:Nat} {S:Nat→Prop} {P:PL} {ws:List WI} {L:List LRow} {a b c d e d' e' f f':Value} (h:Ds.RAt (d,e,f) u B x P ws L) (hk:Blk u x 38 #[a,b,c,d,e,f]) (hk':Blk u' x 38 #[a,b,c,d',e',f'])
  (hg:Qu.RG B0 u u' x S) (hS:∀ r,S r→∀ y ∈ ws,blk y.A≠some r):Ds.RAt (d',e',f') u' B x P ws L:=by
 obtain ⟨AP,nP,cP,AW,nW,cW,AL,nL,cL,k1,h1,h2,h3,h4,h5,h6⟩:=h.ex
 have he:=blk_eq hk k1
 simp only [Array.mk.injEq,List.cons.injEq,and_true] at he
 obtain ⟨rfl,rfl,rfl,_⟩:=he
 have keep:∀ r,r < u.heap.size→r≠x→∀ t,(∃ cs fz,u.heap[r]?=some (.cells cs t fz))→t≠111→t≠149→(t=74→¬ S r)→u'.heap[r]?=u.heap[r]?:=by
  intro r hr hx t ⟨cs,fz,ht⟩ t1 t2 t3
  rcases hg.block r hr hx with e | ⟨cs2,fz2,e⟩ | ⟨cs2,fz2,e⟩ | ⟨⟨cs2,fz2,e⟩,hs⟩
  ·exact e
  ·rw [ht] at e; injection e with e; injection e with _ e _; exact absurd e t1
  ·rw [ht] at e; injection e with e; injection e with _ e _; exact absurd e t2
  ·rw [ht] at e; injection e with e; injection e with _ e _; exact absurd hs (t3 e)
 have ne:∀ r t,(∃ cs fz,u.heap[r]?=some (.cells cs t fz))→t≠38→r≠x:=by
  intro r t ⟨cs,fz,ht⟩ t1 e
  subst e
  unfold Blk at hk
  rw [hk] at ht
  injection ht with ht
  injection ht with _ ht _
  exact t1 ht.symm
 refine ⟨⟨AP,nP,cP,AW,nW,cW,AL,nL,cL,hk',h1,h2,h3,own_same h4 (fun r hr ht _ => keep r hr (ne r _ ht (by decide)) _ ht (by decide) (by decide) (fun e => absurd e (by decide))),own_same h5 (fun r hr ht _ => keep r hr (ne r _ ht (by decide)) _ ht (by decide) (by decide) (fun e => absurd e (by decide))),⟨h6.nil,fun hl => ?_⟩⟩,fun y hy => ?_,h.ds,h.sm⟩
 ·obtain ⟨bl,cs,e1,e2,e3,e4⟩:=h6.at_ hl
  have ht:∃ cs fz,u.heap[bl]?=some (.cells cs 200 fz):=⟨_,_,e3⟩
  exact ⟨bl,cs,e1,e2,(keep bl e3.lt (ne _ _ ht (by decide)) _ ht (by decide) (by decide) (fun e => absurd e (by decide))).trans e3,e4⟩
 ·obtain ⟨w1,w2,w3⟩:=h.wk y hy
  refine ⟨w1,?_,own_same w3 (fun r hr ht hb => keep r hr (ne r _ ht (by decide)) _ ht (by decide) (by decide) (fun _ hs => hS r hs y hy hb))⟩
  have ht:∃ cs fz,u.heap[y.q]?=some (.cells cs 147 fz):=⟨_,_,w2⟩
  exact (keep y.q w2.lt (ne _ _ ht (by decide)) _ ht (by decide) (by decide) (fun e => absurd e (by decide))).trans w2
end Go.Proofs.YtlliaihmfimdoaaGreat.Dr


namespace Go.Proofs.YtlliaihmfimdoaaGreat.Dr
open Go.RowKit Go.Maps Go.Joins Go.Deep Go.Proofs.YtlliaihmfimdoaaGreat
structure RJ (B0:Nat) (u u':World) (x:Nat) (S:Nat→Prop):Prop where
 os:u'.os=u.os
 tape:u'.tape=u.tape
 output:u'.output=u.output
 size:u.heap.size≤u'.heap.size
 low:∀ k,k < B0→k < u.heap.size→k≠x→u'.heap[k]?=u.heap[k]?
 block:∀ k,k < u.heap.size→k≠x→u'.heap[k]?=u.heap[k]?∨(∃ cs t fz,u.heap[k]?=some (.cells cs t fz)∧(t=109∨t=147∨t=111∨t=149∨t=154∨(t=74∧S k)))
theorem RJ.store {B0:Nat} {u u':World} {x:Nat} {S:Nat→Prop} (h:RG B0 u u' x S):RJ B0 u u' x S:=⟨h.os,h.tape,h.output,h.size,h.low,fun k hk hx => by
 rcases h.block k hk hx with e | ⟨cs,fz,e⟩ | ⟨cs,fz,e⟩ | ⟨⟨cs,fz,e⟩,hs⟩
 ·exact .inl e
 ·exact .inr ⟨cs,_,fz,e,.inl rfl⟩
 ·exact .inr ⟨cs,_,fz,e,.inr (.inl rfl)⟩
 ·exact .inr ⟨cs,_,fz,e,.inr (.inr (.inr (.inr (.inr ⟨rfl,hs⟩))))⟩⟩
theorem RJ.queue {B0:Nat} {u u':World} {x:Nat} {S:Nat→Prop} (h:Qu.RG B0 u u' x S):RJ B0 u u' x S:=⟨h.os,h.tape,h.output,h.size,h.low,fun k hk hx => by
 rcases h.block k hk hx with e | ⟨cs,fz,e⟩ | ⟨cs,fz,e⟩ | ⟨⟨cs,fz,e⟩,hs⟩
 ·exact .inl e
 ·exact .inr ⟨cs,_,fz,e,.inr (.inr (.inl rfl))⟩
 ·exact .inr ⟨cs,_,fz,e,.inr (.inr (.inr (.inl rfl)))⟩
 ·exact .inr ⟨cs,_,fz,e,.inr (.inr (.inr (.inr (.inr ⟨rfl,hs⟩))))⟩⟩
theorem RJ.of {B0:Nat} {u u':World} {x:Nat} {S:Nat→Prop} (h:u.grownBy u' (some x)):RJ B0 u u' x S:=.store (RG.of h)
theorem RJ.weak {B0:Nat} {u u':World} {x:Nat} {S S':Nat→Prop} (h:RJ B0 u u' x S) (hS:∀ r,S r→S' r):RJ B0 u u' x S':=⟨h.os,h.tape,h.output,h.size,h.low,fun k hk hx => by
 rcases h.block k hk hx with e | ⟨cs,t,fz,e,h⟩
 ·exact .inl e
 ·exact .inr ⟨cs,t,fz,e,h.imp id (Or.imp id (Or.imp id (Or.imp id (Or.imp id fun h => ⟨h.1,hS _ h.2⟩))))⟩⟩
theorem RJ.trans {B0:Nat} {a b c:World} {x:Nat} {S S':Nat→Prop} (h:RJ B0 a b x S) (k:RJ B0 b c x S') (hS:∀ r,r < a.heap.size→S' r→S r):RJ B0 a c x S:=by
 refine ⟨k.os.trans h.os,k.tape.trans h.tape,k.output.trans h.output,Nat.le_trans h.size k.size,fun r hb hr hx => (k.low r hb (Nat.lt_of_lt_of_le hr h.size) hx).trans (h.low r hb hr hx),fun r hr hx => ?_⟩
 rcases h.block r hr hx with e | e
 ·rcases k.block r (Nat.lt_of_lt_of_le hr h.size) hx with e2 | ⟨cs,t,fz,e2,h2⟩
  ·exact .inl (e2.trans e)
  ·exact .inr ⟨cs,t,fz,e ▸ e2,h2.imp id (Or.imp id (Or.imp id (Or.imp id (Or.imp id fun h => ⟨h.1,hS _ hr h.2⟩))))⟩
 ·exact .inr e
theorem RJ.blk {B0:Nat} {u u':World} {x k:Nat} {S:Nat→Prop} {t:TypeId} {cs:Array Value} (h:RJ B0 u u' x S) (hk:Blk u k t cs) (hx:k≠x) (h1:t≠109∧t≠147∧t≠111∧t≠149∧t≠154) (h3:t=74→¬ S k):Blk u' k t cs:=by
 rcases h.block k hk.lt hx with e | ⟨cs2,t2,fz2,e,h2⟩
 ·exact e.trans hk
 ·unfold Blk at hk
  rw [hk] at e
  injection e with e
  injection e with _ e _
  subst e
  rcases h2 with h2 | h2 | h2 | h2 | h2 | h2
  ·exact absurd h2 h1.1
  ·exact absurd h2 h1.2.1
  ·exact absurd h2 h1.2.2.1
  ·exact absurd h2 h1.2.2.2.1
  ·exact absurd h2 h1.2.2.2.2
  ·exact absurd h2.2 (h3 h2.1)
def Ours (ws:List WI) (qs:List Qu.WI) (r:Nat):Prop:=(∃ y ∈ ws,blk y.A=some r)∨∃ z ∈ qs,blk z.A=some r
def NewA (w:World) (ws:List WI) (qs:List Qu.WI) (ws':List WI) (qs':List Qu.WI):Prop:=∀ r,Ours ws' qs' r→Ours ws qs r∨w.heap.size≤r
theorem NewA.of {w:World} {ws ws':List WI} {qs qs':List Qu.WI} (h1:∀ y ∈ ws',∀ r,blk y.A=some r→(∃ y ∈ ws,blk y.A=some r)∨w.heap.size≤r) (h2:∀ y ∈ qs',∀ r,blk y.A=some r→(∃ y ∈ qs,blk y.A=some r)∨w.heap.size≤r):NewA w ws qs ws' qs':=by
 rintro r (⟨y,hy,hr⟩ | ⟨y,hy,hr⟩)
 ·exact (h1 y hy r hr).imp .inl id
 ·exact (h2 y hy r hr).imp .inr id
theorem keptK {w:World} {ws:List WI}:∀ y ∈ ws,∀ r,blk y.A=some r→(∃ y ∈ ws,blk y.A=some r)∨w.heap.size≤r:=fun y hy r hr => .inl ⟨y,hy,hr⟩
theorem keptQ {w:World} {qs:List Qu.WI}:∀ y ∈ qs,∀ r,blk y.A=some r→(∃ y ∈ qs,blk y.A=some r)∨w.heap.size≤r:=fun y hy r hr => .inl ⟨y,hy,hr⟩
theorem NewA.same (w:World) (ws:List WI) (qs:List Qu.WI):NewA w ws qs ws qs:=fun _ h => .inl h
theorem turnS {u u':World} {B B0 x:Nat} {S:Nat→Prop} {P P' Q:PL} {ws ws':List WI} {L L':List LRow} {qs:List Qu.WI} {gv:Int} {a b c d e:Value} (h2:Qu.Dq.RQ (a,b,c) u B x Q qs gv) (h3:Blk u x 38 #[a,b,c,d,e,.int .i64 gv]) (ap:Apart ws qs)
  (h1':Ds.RAt (d,e,.int .i64 gv) u' B x P' ws' L') (hg:RG B0 u u' x S)
  (hS:∀ r,S r→∃ y ∈ ws,blk y.A=some r) (hA:∀ y ∈ ws',∀ r,blk y.A=some r→(∃ y ∈ ws,blk y.A=some r)∨u.heap.size≤r):DR u' B x P' ws' L' Q qs gv:=by
 obtain ⟨AP,nP,cP,AW,nW,cW,AL,nL,cL,k1,_⟩:=h1'.ex
 refine ⟨⟨_,_,_,d,e,h1',queue_kept h2 h3 k1 hg (fun r hs z hz hb => ?_),k1⟩,fun y hy z hz r e1 e2 => ?_⟩
 ·obtain ⟨y,hy,hyb⟩:=hS r hs
  exact ap y hy z hz r hyb hb
 ·rcases hA y hy r e1 with ⟨y0,hy0,e0⟩ | hge
  ·exact ap y0 hy0 z hz r e0 e2
  ·have:=((h2.wk z hz).2.2.lt' r e2).2
   omega
theorem turnQ {u u':World} {B B0 x:Nat} {S:Nat→Prop} {P Q Q':PL} {ws:List WI} {L:List LRow} {qs qs':List Qu.WI} {gv gv':Int} {a b c d e:Value} (h1:Ds.RAt (d,e,.int .i64 gv) u B x P ws L) (h3:Blk u x 38 #[a,b,c,d,e,.int .i64 gv]) (ap:Apart ws qs)
  (h2':Qu.Dq.RQ (a,b,c) u' B x Q' qs' gv') (hg:Qu.RG B0 u u' x S)
  (hS:∀ r,S r→∃ z ∈ qs,blk z.A=some r) (hA:∀ z ∈ qs',∀ r,blk z.A=some r→(∃ z ∈ qs,blk z.A=some r)∨u.heap.size≤r):DR u' B x P ws L Q' qs' gv':=by
 obtain ⟨AP,nP,cP,AW,nW,cW,k1,_⟩:=h2'.ex
 refine ⟨⟨a,b,c,_,_,store_kept h1 h3 k1 hg (fun r hs y hy hb => ?_),h2',k1⟩,fun y hy z hz r e1 e2 => ?_⟩
 ·obtain ⟨z,hz,hzb⟩:=hS r hs
  exact ap y hy z hz r hb hzb
 ·rcases hA z hz r e2 with ⟨z0,hz0,e0⟩ | hge
  ·exact ap y hy z0 hz0 r e1 e0
  ·have:=((h1.wk y hy).2.2.lt' r e1).2
   omega
theorem findD_mem {ws:List WI} {n:Int} {y:WI} (h:findW ws n=some y):y ∈ ws∧y.n=n:=by
 unfold findW at h
 exact ⟨List.mem_of_find?_eq_some h,by simpa using List.find?_some h⟩
def fitD (ws:List WI) (qs:List Qu.WI) (n:Int):Int :=
 if n < 1 then 1 else if ((findW ws n).any fun y => y.p)=true then 7 else if ((Qu.findW qs n).any fun y => y.p)=true then 7 else 0
set_option maxRecDepth 100000 in
set_option maxHeartbeats 1000000 in
theorem fit_any (B x:Nat) (P:PL) (ws:List WI) (L:List LRow) (Q:PL) (qs:List Qu.WI) (gv n:Int) (w:World) (h:DR w B x P ws L Q qs gv) :
  Calls Tryz.prog 81 #[.pointer (some ⟨x,0,none⟩),.int .i64 n] w fun e w' => e=.returned (.int .i64 (fitD ws qs n))∧Below w.heap.size w w':=by
 obtain ⟨a,b,c,d,e,h1,h2,h3⟩:=h.ex
 have HS:=fun u (hu:Below w.heap.size w u) => Ds.find_any B x P ws L n u (h1.below hu)
 have HQ:=fun u (hu:Below w.heap.size w u) => Qu.Dq.rfind_any B x Q qs gv n u (h2.below hu)
 by_cases hn:n < 1
 ·have hF:fitD ws qs n=1:=if_pos hn
  rw [hF]
  clear h h1 h2 h3 hF HS HQ
  go_enter Tryz.func81,Tryz.ntmps81
  go_wp2
  go_ret
  exact ⟨rfl,Below.refl _ _⟩
 ·have hF:fitD ws qs n=if ((findW ws n).any fun y => y.p)=true then 7 else if ((Qu.findW qs n).any fun y => y.p)=true then 7 else 0:=if_neg hn
  rw [hF]
  have d1:=(HS w.drew (Below.refl _ w).drew).mono (fun e w' (h:_∧_) => (⟨h.1,h.2.symm⟩:_∧w'=w.drew))
  have d2:=(HQ w.drew (Below.refl _ w).drew).mono (fun e w' (h:_∧_) => (⟨h.1,h.2.symm⟩:_∧w'=w.drew))
  clear HS HQ
  rcases hf:findW ws n with _ | ⟨yq,yn,yA,yc,yl,yp⟩
  ·rcases hq:Qu.findW qs n with _ | ⟨zq,zn,zA,zc,zl,zp⟩
   ·rw [hf] at d1
    rw [hq] at d2
    dsimp only [Option.map_none] at d1
    dsimp only [Option.map_none] at d2
    clear h h1 h2 h3 hF hf hq
    go_enter Tryz.func81,Tryz.ntmps81
    go_wp2_with fail
    go_still_tail 10,(by kernel_rfl)
    repeat still_step
    still_call d1
    repeat still_step
    still_call d2
    repeat still_step
    refine wpStill_nil ?_
    change wpList _ _ _ _ _ w.drew
    go_wp2
    go_ret
    exact ⟨rfl,(Below.refl _ _).drew⟩
   ·have z2:w.cell? ⟨zq,2,none⟩=some (.bool zp):=(h2.wk _ (Qu.findW_mem hq).1).2.1.cell 2
    rw [hf] at d1
    rw [hq] at d2
    dsimp only [Option.map_none] at d1
    dsimp only [Option.map_some] at d2
    clear h h1 h2 h3 hF hf hq
    cases zp
    all_goals
     go_enter Tryz.func81,Tryz.ntmps81
     go_wp2_with fail
     go_still_tail 10,(by kernel_rfl)
     repeat still_step
     still_call d1
     repeat still_step
     still_call d2
     repeat still_step
     refine wpStill_nil ?_
     change wpList _ _ _ _ _ w.drew
     have z2':w.drew.cell? _=_:=z2
     clear z2
     go_wp2
     go_ret
     exact ⟨rfl,(Below.refl _ _).drew⟩
  ·have y2:w.cell? ⟨yq,2,none⟩=some (.bool yp):=(h1.wk _ (findD_mem hf).1).2.1.cell 2
   rcases hq:Qu.findW qs n with _ | ⟨zq,zn,zA,zc,zl,zp⟩
   ·rw [hf] at d1
    rw [hq] at d2
    dsimp only [Option.map_some] at d1
    dsimp only [Option.map_none] at d2
    clear h h1 h2 h3 hF hf hq
    cases yp
    all_goals
     go_enter Tryz.func81,Tryz.ntmps81
     go_wp2_with fail
     go_still_tail 10,(by kernel_rfl)
     repeat still_step
     still_call d1
     repeat still_step
     still_call d2
     repeat still_step
     refine wpStill_nil ?_
     change wpList _ _ _ _ _ w.drew
     have y2':w.drew.cell? _=_:=y2
     clear y2
     go_wp2
     go_ret
     exact ⟨rfl,(Below.refl _ _).drew⟩
   ·have z2:w.cell? ⟨zq,2,none⟩=some (.bool zp):=(h2.wk _ (Qu.findW_mem hq).1).2.1.cell 2
    rw [hf] at d1
    rw [hq] at d2
    dsimp only [Option.map_some] at d1
    dsimp only [Option.map_some] at d2
    clear h h1 h2 h3 hF hf hq
    cases yp <;> cases zp
    all_goals
     go_enter Tryz.func81,Tryz.ntmps81
     go_wp2_with fail
     go_still_tail 10,(by kernel_rfl)
     repeat still_step
     still_call d1
     repeat still_step
     still_call d2
     repeat still_step
     refine wpStill_nil ?_
     change wpList _ _ _ _ _ w.drew
     have y2':w.drew.cell? _=_:=y2
     clear y2
     have z2':w.drew.cell? _=_:=z2
     clear z2
     go_wp2
     go_ret
     exact ⟨rfl,(Below.refl _ _).drew⟩
def busyD (ws:List WI) (qs:List Qu.WI) (n:Int):Bool:=(findW ws n).isSome || (Qu.findW qs n).isSome
set_option maxRecDepth 100000 in
set_option maxHeartbeats 1000000 in
theorem busy_any (B x:Nat) (P:PL) (ws:List WI) (L:List LRow) (Q:PL) (qs:List Qu.WI) (gv n:Int) (w:World) (h:DR w B x P ws L Q qs gv) :
  Calls Tryz.prog 15 #[.pointer (some ⟨x,0,none⟩),.int .i64 n] w fun e w' => e=.returned (.bool (busyD ws qs n))∧w=w':=by
 obtain ⟨a,b,c,d,e,h1,h2,h3⟩:=h.ex
 have HS:=Lib.hid (Ds.find_any B x P ws L n w h1)
 have HQ:=Lib.hid (Qu.Dq.rfind_any B x Q qs gv n w h2)
 unfold busyD
 rcases hf:findW ws n with _ | ⟨yq,yn,yA,yc,yl,yp⟩
 ·rcases hq:Qu.findW qs n with _ | ⟨zq,zn,zA,zc,zl,zp⟩
  all_goals
   rw [hf] at HS
   rw [hq] at HQ
   clear h h1 h2 h3 hf hq
   go_enter Tryz.func15,Tryz.ntmps15
   go_wp2_with fail
   refine HS.out.mono ?_
   rintro e w1 ⟨rfl,rfl⟩
   dsimp only [Option.map_none]
   go_wp2_with fail
   refine HQ.out.mono ?_
   rintro e w1 ⟨rfl,rfl⟩
   dsimp only [Option.map_none,Option.map_some]
   go_wp2
   go_ret
   exact ⟨rfl,rfl⟩
 ·rw [hf] at HS
  clear h h1 h2 h3 hf HQ
  go_enter Tryz.func15,Tryz.ntmps15
  go_wp2_with fail
  refine HS.out.mono ?_
  rintro e w1 ⟨rfl,rfl⟩
  dsimp only [Option.map_some]
  go_wp2
  go_ret
  exact ⟨rfl,rfl⟩
end Go.Proofs.YtlliaihmfimdoaaGreat.Dr


namespace Go.Proofs.YtlliaihmfimdoaaGreat.Dr
open Go.RowKit Go.Maps Go.Joins Go.Deep Go.Proofs.YtlliaihmfimdoaaGreat
theorem turnD_mem {ws:List WI} {z y:WI} (h:y ∈ turnW ws z):y ∈ ws∨y=z:=by
 unfold turnW at h
 obtain ⟨y0,h0,rfl⟩:=List.mem_map.1 h
 split
 ·exact .inr rfl
 ·exact .inl h0
theorem turnE_mem {ws:List Qu.WI} {z y:Qu.WI} (h:y ∈ Qu.turnW ws z):y ∈ ws∨y=z:=by
 unfold Qu.turnW at h
 obtain ⟨y0,h0,rfl⟩:=List.mem_map.1 h
 split
 ·exact .inr rfl
 ·exact .inl h0
theorem touchD_mem {ws:List WI} {L:List LRow} {n k:Int} {al:Bool} {q:Nat} {y:WI} (h:y ∈ (touchM ws L n k al q).2.1):y ∈ ws∨y.A=none:=by
 unfold touchM at h
 split at h
 ·exact .inl h
 ·split at h
  ·split at h <;> exact .inl h
  ·dsimp only at h
   split at h
   ·rcases List.mem_append.1 h with h | h
    ·exact .inl h
    ·rw [List.mem_singleton] at h
     exact .inr (by rw [h])
   ·exact .inl h
def DGetO (w:World) (B x:Nat) (P:PL) (ws:List WI) (L:List LRow) (Q:PL) (qs:List Qu.WI) (gv n y:Int) (e:Ending) (w':World):Prop :=
 (fitD ws qs n≠0∧e=.returned (.tuple #[.int .u64 0,.bool false,.int .i64 (fitD ws qs n)])∧Below w.heap.size w w') ∨
 (fitD ws qs n=0∧∃ q,w.heap.size≤q∧e=.returned (.tuple #[.int .u64 ((getR P (touchM ws L n y false q) n y).1:Nat),.bool (getR P (touchM ws L n y false q) n y).2.1,.int .i64 (getR P (touchM ws L n y false q) n y).2.2])∧DR w' B x P (touchM ws L n y false q).2.1 (touchM ws L n y false q).2.2 Q qs gv∧RJ B w w' x (fun _ => False))
set_option maxRecDepth 100000 in
set_option maxHeartbeats 1000000 in
theorem dget_any (B x:Nat) (P:PL) (ws:List WI) (L:List LRow) (Q:PL) (qs:List Qu.WI) (gv n y:Int) (w:World) (h:DR w B x P ws L Q qs gv) (hB:B≤w.heap.size) (hl:ws.length < 100) (hok:LOk L) (hnc:NoClash L) :
  Calls Tryz.prog 35 #[.pointer (some ⟨x,0,none⟩),.int .i64 n,.int .i64 y] w (DGetO w B x P ws L Q qs gv n y):=by
 have HF:=Lib.hid (fit_any B x P ws L Q qs gv n w h)
 obtain ⟨a,b,c,d,e,h1,h2,h3⟩:=h.ex
 have HG:=Lib.hid (fun u (hu:Below w.heap.size w u) => Ds.rget_any B x P ws L n y u (h1.below hu) (Nat.le_trans hB hu.size) hl hok hnc)
 have HE:Hid (∀ u u' o,Below w.heap.size w u→fitD ws qs n=0→Ds.GetO (d,e,.int .i64 gv) u B x P ws L n y o u'→DGetO w B x P ws L Q qs gv n y o u'):=by
  refine Lib.hid fun u u' e hu hf ⟨q,hq,he,hR,hG⟩ => .inr ⟨hf,q,Nat.le_trans hu.size hq,he,turnS (P:=P) (L:=L) (h2.below hu) (h3.below hu h3.lt) h.ap hR hG (fun _ hs => hs.elim) (fun z hz r hr => ?_),(RJ.of (lbelow_grown hu (some x))).trans (.store hG) (fun _ _ h => h)⟩
  rcases touchD_mem (L:=L) hz with h | h
  ·exact .inl ⟨z,h,hr⟩
  ·rw [h] at hr; cases hr
 have HN:Hid (∀ u,Below w.heap.size w u→fitD ws qs n≠0→DGetO w B x P ws L Q qs gv n y (.returned (.tuple #[.int .u64 0,.bool false,.int .i64 (fitD ws qs n)])) u):=Lib.hid fun u hu hf => .inl ⟨hf,rfl,hu⟩
 obtain ⟨f,hf⟩:∃ f,f=fitD ws qs n:=⟨_,rfl⟩
 rw [← hf] at HF HN HE
 clear h h1 h2 h3 hB hl hok hnc hf
 rcases f0:(f != 0) with _ | _
 ·obtain rfl:f=0:=by simpa using f0
  clear f0
  go_enter Tryz.func35,Tryz.ntmps35
  go_wp2_with fail
  refine HF.out.mono ?_
  rintro e w1 ⟨rfl,hb⟩
  have HBl:=Lib.hid hb
  clear hb
  go_wp2_with fail
  refine (HG.out w1 HBl.out).mono ?_
  intro e w2 hx
  have HX:=Lib.hid (HE.out w1 w2 e HBl.out trivial hx)
  obtain ⟨q,hq,rfl,_⟩:=hx
  go_wp2
  go_returns
  exact HX.out
 ·have f1:f≠0:=by simpa using f0
  go_enter Tryz.func35,Tryz.ntmps35
  go_wp2_with fail
  refine HF.out.mono ?_
  rintro e w1 ⟨rfl,hb⟩
  have HX:=Lib.hid (HN.out w1 hb f1)
  clear hb
  go_wp2
  go_returns
  exact HX.out
def DPutO (w:World) (B x:Nat) (P:PL) (ws:List WI) (L:List LRow) (Q:PL) (qs:List Qu.WI) (gv n:Int) (c:Ch) (w':World):Prop :=
 ∃ ws2 z A5 c5,((Qu.findW qs n=some z∧ws2=qs)∨(Qu.findW qs n=none∧∃ q,z=⟨q,n,none,0,[],false⟩∧ws2=qs ++ [z]))∧DR w' B x P ws L Q (Qu.turnW ws2 ⟨z.q,z.n,A5,c5,z.l ++ [c],z.p⟩) gv∧RJ B w w' x (fun r => ∃ y ∈ qs,blk y.A=some r)∧NewA w ws qs ws (Qu.turnW ws2 ⟨z.q,z.n,A5,c5,z.l ++ [c],z.p⟩)
theorem dput_of {w u u':World} {B x:Nat} {P:PL} {ws:List WI} {L:List LRow} {Q:PL} {qs:List Qu.WI} {gv n:Int} {c:Ch} {a b c0 d e:Value} (hu:Below w.heap.size w u) (h1:Ds.RAt (d,e,.int .i64 gv) u B x P ws L) (h3:Blk u x 38 #[a,b,c0,d,e,.int .i64 gv]) (ap:Apart ws qs) (h:Qu.Dq.NoteO (a,b,c0) u B x Q qs gv n c u'):DPutO w B x P ws L Q qs gv n c u':=by
 obtain ⟨ws2,z,A5,c5,hz,hR,hG,hA⟩:=h
 have hM:∀ y ∈ Qu.turnW ws2 ⟨z.q,z.n,A5,c5,z.l ++ [c],z.p⟩,∀ r,blk y.A=some r→(∃ y ∈ qs,blk y.A=some r)∨u.heap.size≤r:=fun y hy r hr => by
  rcases turnE_mem hy with hy' | rfl
  ·clear hy
   rcases hz with ⟨_,rfl⟩ | ⟨_,q,rfl,rfl⟩
   ·exact .inl ⟨y,hy',hr⟩
   ·rcases List.mem_append.1 hy' with hy | hy
    ·exact .inl ⟨y,hy,hr⟩
    ·rw [List.mem_singleton] at hy
     rw [hy] at hr
     cases hr
  ·exact hA r hr
 exact ⟨ws2,z,A5,c5,hz,turnQ (Q:=Q) h1 h3 ap hR hG (fun _ hs => hs) hM,(RJ.of (lbelow_grown hu (some x))).trans (.queue hG) (fun _ _ h => h),NewA.of keptK fun y hy r hr => (hM y hy r hr).imp id (Nat.le_trans hu.size)⟩
def DPushO (w:World) (B x:Nat) (P:PL) (ws:List WI) (L:List LRow) (Q:PL) (qs:List Qu.WI) (gv n:Int) (v:Nat) (e:Ending) (w':World):Prop :=
 (fitD ws qs n≠0∧e=.returned (.int .i64 (fitD ws qs n))∧Below w.heap.size w w') ∨
 (fitD ws qs n=0∧((Qu.mayR qs n≠0∧e=.returned (.int .i64 (Qu.mayR qs n))∧Below w.heap.size w w')∨(Qu.mayR qs n=0∧Qu.roomR Q qs gv < 1∧e=.returned (.int .i64 5)∧Below w.heap.size w w')∨(Qu.mayR qs n=0∧¬ Qu.roomR Q qs gv < 1∧e=.returned (.int .i64 0)∧DPutO w B x P ws L Q qs gv n ⟨3,0,v⟩ w')))
set_option maxRecDepth 100000 in
set_option maxHeartbeats 1000000 in
theorem dpush_any (B x:Nat) (P:PL) (ws:List WI) (L:List LRow) (Q:PL) (qs:List Qu.WI) (gv n:Int) (v:Nat) (w:World) (h:DR w B x P ws L Q qs gv) (hB:B≤w.heap.size) (hg:0≤gv∧gv≤4611686018427387904) (hl:qs.length < 100) (hls:∀ y ∈ qs,y.l.length < 300) :
  Calls Tryz.prog 37 #[.pointer (some ⟨x,0,none⟩),.int .i64 n,.int .u64 (v:Nat)] w (DPushO w B x P ws L Q qs gv n v):=by
 have HF:=Lib.hid (fit_any B x P ws L Q qs gv n w h)
 obtain ⟨a,b,c,d,e,h1,h2,h3⟩:=h.ex
 have HG:=Lib.hid (fun u (hu:Below w.heap.size w u) => Qu.Dq.rput_any B x Q qs gv n v u (h2.below hu) hg (Nat.le_trans hB hu.size) hl hls)
 have HE:Hid (∀ u u' e,Below w.heap.size w u→fitD ws qs n=0→Qu.Dq.RPutO (a,b,c) u B x Q qs gv n v e u'→DPushO w B x P ws L Q qs gv n v e u'):=by
  refine Lib.hid fun u u' e hu hf hP => .inr ⟨hf,?_⟩
  rcases hP with ⟨p1,p2,p3⟩ | ⟨p1,p2,p3,p4⟩ | ⟨p1,p2,p3,p4⟩
  ·exact .inl ⟨p1,p2,bt hu p3⟩
  ·exact .inr (.inl ⟨p1,p2,p3,bt hu p4⟩)
  ·exact .inr (.inr ⟨p1,p2,p3,dput_of hu (h1.below hu) (h3.below hu h3.lt) h.ap p4⟩)
 have HN:Hid (∀ u,Below w.heap.size w u→fitD ws qs n≠0→DPushO w B x P ws L Q qs gv n v (.returned (.int .i64 (fitD ws qs n))) u):=Lib.hid fun u hu hf => .inl ⟨hf,rfl,hu⟩
 have HV:∀ u u' e,Qu.Dq.RPutO (a,b,c) u B x Q qs gv n v e u'→∃ r:Int,e=.returned (.int .i64 r):=by
  rintro u u' e (⟨_,p,_⟩ | ⟨_,_,p,_⟩ | ⟨_,_,p,_⟩) <;> exact ⟨_,p⟩
 have HVV:=Lib.hid HV
 obtain ⟨f,hf⟩:∃ f,f=fitD ws qs n:=⟨_,rfl⟩
 rw [← hf] at HF HN HE
 clear h h1 h2 h3 hB hl hg hls hf HV
 rcases f0:(f != 0) with _ | _
 ·obtain rfl:f=0:=by simpa using f0
  clear f0
  go_enter Tryz.func37,Tryz.ntmps37
  go_wp2_with fail
  refine HF.out.mono ?_
  rintro e w1 ⟨rfl,hb⟩
  have HBl:=Lib.hid hb
  clear hb
  go_wp2_with fail
  refine (HG.out w1 HBl.out).mono ?_
  intro e w2 hx
  have HX:=Lib.hid (HE.out w1 w2 e HBl.out trivial hx)
  obtain ⟨r,rfl⟩:=HVV.out _ _ _ hx
  clear hx
  go_wp2
  go_ret
  exact HX.out
 ·have f1:f≠0:=by simpa using f0
  go_enter Tryz.func37,Tryz.ntmps37
  go_wp2_with fail
  refine HF.out.mono ?_
  rintro e w1 ⟨rfl,hb⟩
  have HX:=Lib.hid (HN.out w1 hb f1)
  clear hb
  go_wp2
  go_ret
  exact HX.out
def DPopO (w:World) (B x:Nat) (P:PL) (ws:List WI) (L:List LRow) (Q:PL) (qs:List Qu.WI) (gv n:Int) (e:Ending) (w':World):Prop :=
 (fitD ws qs n≠0∧e=.returned (.tuple #[.int .u64 0,.int .i64 (fitD ws qs n)])∧Below w.heap.size w w') ∨
 (fitD ws qs n=0∧((Qu.mayR qs n≠0∧e=.returned (.tuple #[.int .u64 0,.int .i64 (Qu.mayR qs n)])∧Below w.heap.size w w') ∨
  (Qu.mayR qs n=0∧Qu.nextR qs n Q=none∧e=.returned (.tuple #[.int .u64 0,.int .i64 140])∧Below w.heap.size w w') ∨
  (Qu.mayR qs n=0∧∃ y,Qu.nextR qs n Q=some y∧((Qu.takR qs y.1≠0∧e=.returned (.tuple #[.int .u64 0,.int .i64 120])∧Below w.heap.size w w') ∨
   (Qu.takR qs y.1=0∧e=.returned (.tuple #[.int .u64 (y.2:Nat),.int .i64 0])∧DPutO w B x P ws L Q qs gv n ⟨4,y.1,y.2⟩ w')))))
set_option maxRecDepth 100000 in
set_option maxHeartbeats 1000000 in
theorem dpop_any (B x:Nat) (P:PL) (ws:List WI) (L:List LRow) (Q:PL) (qs:List Qu.WI) (gv n:Int) (w:World) (h:DR w B x P ws L Q qs gv) (hB:B≤w.heap.size) (hl:qs.length < 100) (hls:∀ y ∈ qs,y.l.length < 300) :
  Calls Tryz.prog 38 #[.pointer (some ⟨x,0,none⟩),.int .i64 n] w (DPopO w B x P ws L Q qs gv n):=by
 have HF:=Lib.hid (fit_any B x P ws L Q qs gv n w h)
 obtain ⟨a,b,c,d,e,h1,h2,h3⟩:=h.ex
 have HG:=Lib.hid (fun u (hu:Below w.heap.size w u) => Qu.Dq.rtake_any B x Q qs gv n u (h2.below hu) (Nat.le_trans hB hu.size) hl hls)
 have HE:Hid (∀ u u' e,Below w.heap.size w u→fitD ws qs n=0→Qu.Dq.RTakeO (a,b,c) u B x Q qs gv n e u'→DPopO w B x P ws L Q qs gv n e u'):=by
  refine Lib.hid fun u u' e hu hf hP => .inr ⟨hf,?_⟩
  rcases hP with ⟨p1,p2,p3⟩ | ⟨p1,p2,p3,p4⟩ | ⟨p1,y,p2,⟨p3,p4,p5⟩ | ⟨p3,p4,p5⟩⟩
  ·exact .inl ⟨p1,p2,bt hu p3⟩
  ·exact .inr (.inl ⟨p1,p2,p3,bt hu p4⟩)
  ·exact .inr (.inr ⟨p1,y,p2,.inl ⟨p3,p4,bt hu p5⟩⟩)
  ·exact .inr (.inr ⟨p1,y,p2,.inr ⟨p3,p4,dput_of hu (h1.below hu) (h3.below hu h3.lt) h.ap p5⟩⟩)
 have HN:Hid (∀ u,Below w.heap.size w u→fitD ws qs n≠0→DPopO w B x P ws L Q qs gv n (.returned (.tuple #[.int .u64 0,.int .i64 (fitD ws qs n)])) u):=Lib.hid fun u hu hf => .inl ⟨hf,rfl,hu⟩
 have HV:∀ u u' e,Qu.Dq.RTakeO (a,b,c) u B x Q qs gv n e u'→∃ (v:Nat) (r:Int),e=.returned (.tuple #[.int .u64 v,.int .i64 r]):=by
  rintro u u' e (⟨_,p,_⟩ | ⟨_,_,p,_⟩ | ⟨_,y,_,⟨_,p,_⟩ | ⟨_,p,_⟩⟩)
  ·exact ⟨0,_,p⟩
  ·exact ⟨0,_,p⟩
  ·exact ⟨0,_,p⟩
  ·exact ⟨_,_,p⟩
 have HVV:=Lib.hid HV
 obtain ⟨f,hf⟩:∃ f,f=fitD ws qs n:=⟨_,rfl⟩
 rw [← hf] at HF HN HE
 clear h h1 h2 h3 hB hl hls hf HV
 rcases f0:(f != 0) with _ | _
 ·obtain rfl:f=0:=by simpa using f0
  clear f0
  go_enter Tryz.func38,Tryz.ntmps38
  go_wp2_with fail
  refine HF.out.mono ?_
  rintro e w1 ⟨rfl,hb⟩
  have HBl:=Lib.hid hb
  clear hb
  go_wp2_with fail
  refine (HG.out w1 HBl.out).mono ?_
  intro e w2 hx
  have HX:=Lib.hid (HE.out w1 w2 e HBl.out trivial hx)
  obtain ⟨v,r,rfl⟩:=HVV.out _ _ _ hx
  clear hx
  go_wp2
  go_returns
  exact HX.out
 ·have f1:f≠0:=by simpa using f0
  go_enter Tryz.func38,Tryz.ntmps38
  go_wp2_with fail
  refine HF.out.mono ?_
  rintro e w1 ⟨rfl,hb⟩
  have HX:=Lib.hid (HN.out w1 hb f1)
  clear hb
  go_wp2
  go_returns
  exact HX.out
def commitD (P:PL) (ws:List WI) (L:List LRow) (Q:PL) (qs:List Qu.WI) (gv n:Int):Int × (PL × List WI × List LRow) × (PL × List Qu.WI × Int):=((commitR P ws L n).1,(commitR P ws L n).2,if (commitR P ws L n).1=0 then (Qu.commitR Q qs gv n).2 else (Q,qs,gv))
set_option maxRecDepth 100000 in
set_option maxHeartbeats 1000000 in
theorem dcommit_any (B x:Nat) (P:PL) (ws:List WI) (L:List LRow) (Q:PL) (qs:List Qu.WI) (gv n:Int) (w:World) (h:DR w B x P ws L Q qs gv) (hB:B≤w.heap.size) (hP:POk P) (hk:∀ c ∈ listW ws n,keyB c.y=true) (hg:0≤gv) (hp:∀ z,Qu.findW qs n=some z→Q.length + Qu.putsL z.l≤48∧gv + (Qu.putsL z.l:Nat)≤4611686018427387904) :
  Calls Tryz.prog 40 #[.pointer (some ⟨x,0,none⟩),.int .i64 n] w fun e w' => e=.returned (.int .i64 (commitD P ws L Q qs gv n).1)∧DR w' B x (commitD P ws L Q qs gv n).2.1.1 (commitD P ws L Q qs gv n).2.1.2.1 (commitD P ws L Q qs gv n).2.1.2.2 (commitD P ws L Q qs gv n).2.2.1 (commitD P ws L Q qs gv n).2.2.2.1 (commitD P ws L Q qs gv n).2.2.2.2∧w.grownBy w' (some x):=by
 obtain ⟨a,b,c,d,e,h1,h2,h3⟩:=h.ex
 have HC:=Lib.hid (Ds.rcommit_any B x P ws L n w h1 hB hP hk)
 have HM:Hid (∀ u,Ds.RAt (d,e,.int .i64 gv) u B x (commitR P ws L n).2.1 (commitR P ws L n).2.2.1 (commitR P ws L n).2.2.2→w.grownBy u (some x)→DR u B x (commitR P ws L n).2.1 (commitR P ws L n).2.2.1 (commitR P ws L n).2.2.2 Q qs gv):=by
  refine Lib.hid fun u hR hG => turnS (B0:=B) (S:=fun _ => False) (P:=P) (L:=L) h2 h3 h.ap hR (RG.of hG) (fun _ hs => hs.elim) (fun z hz r hr => .inl ⟨z,?_,hr⟩)
  unfold commitR at hz
  split at hz
  ·exact hz
  ·exact (List.mem_filter.1 hz).1
 have HQ:Hid (∀ u,w.grownBy u (some x)→DR u B x (commitR P ws L n).2.1 (commitR P ws L n).2.2.1 (commitR P ws L n).2.2.2 Q qs gv→Calls Tryz.prog 89 #[.pointer (some ⟨x,3,none⟩),.int .i64 n] u fun o u' => o=.returned (.int .i64 (Qu.commitR Q qs gv n).1)∧DR u' B x (commitR P ws L n).2.1 (commitR P ws L n).2.2.1 (commitR P ws L n).2.2.2 (Qu.commitR Q qs gv n).2.1 (Qu.commitR Q qs gv n).2.2.1 (Qu.commitR Q qs gv n).2.2.2∧w.grownBy u' (some x)):=by
  refine Lib.hid fun u hu hd => ?_
  obtain ⟨a,b,c,d,e,k1,k2,k3⟩:=hd.ex
  refine (Qu.Dq.rcommit_any B x Q qs gv n u k2 (Nat.le_trans hB hu.size) hg hp).mono ?_
  rintro o u' ⟨rfl,hR,hG⟩
  refine ⟨rfl,turnQ (B0:=B) (S:=fun _ => False) (Q:=Q) k1 k3 hd.ap hR (Qu.RG.of hG) (fun _ hs => hs.elim) (fun z hz r hr => .inl ⟨z,?_,hr⟩),hu.trans hG⟩
  unfold Qu.commitR at hz
  split at hz
  ·exact hz
  ·split at hz
   ·exact hz
   ·exact (List.mem_filter.1 hz).1
 have HD:Hid (commitD P ws L Q qs gv n=((commitR P ws L n).1,(commitR P ws L n).2,if (commitR P ws L n).1=0 then (Qu.commitR Q qs gv n).2 else (Q,qs,gv))):=Lib.hid rfl
 obtain ⟨R,hR⟩:∃ R,R=commitR P ws L n:=⟨_,rfl⟩
 rw [← hR] at HC HM HQ HD
 rw [HD.out]
 clear h h1 h2 h3 hB hP hk hg hp hR
 obtain ⟨er,R⟩:=R
 dsimp only at HC HM HQ ⊢
 rcases f0:(er == 0) with _ | _
 ·have f1:er≠0:=by simpa using f0
  rw [if_neg f1]
  go_enter Tryz.func40,Tryz.ntmps40
  go_wp2_with fail
  refine HC.out.mono ?_
  rintro e w1 ⟨rfl,hr,hg⟩
  have HX:=Lib.hid (And.intro (HM.out w1 hr hg) hg)
  clear hr hg
  go_wp2
  go_ret
  exact ⟨rfl,HX.out⟩
 ·obtain rfl:er=0:=by simpa using f0
  rw [if_pos rfl]
  clear f0
  go_enter Tryz.func40,Tryz.ntmps40
  go_wp2_with fail
  refine HC.out.mono ?_
  rintro e w1 ⟨rfl,hr,hg⟩
  have HX:=Lib.hid (And.intro (HM.out w1 hr hg) hg)
  clear hr hg
  go_wp2_with fail
  refine (HQ.out w1 HX.out.2 HX.out.1).mono ?_
  rintro e w2 ⟨rfl,hr⟩
  have HY:=Lib.hid hr
  clear hr
  go_wp2
  go_ret
  exact ⟨rfl,HY.out⟩
def backD (ws:List WI) (L:List LRow) (qs:List Qu.WI) (n:Int):Int × (List WI × List LRow) × List Qu.WI:=((backR ws L n).1,(backR ws L n).2,if (backR ws L n).1=0 then (Qu.backR qs n).2 else qs)
set_option maxRecDepth 100000 in
set_option maxHeartbeats 1000000 in
theorem dback_any (B x:Nat) (P:PL) (ws:List WI) (L:List LRow) (Q:PL) (qs:List Qu.WI) (gv n:Int) (w:World) (h:DR w B x P ws L Q qs gv) (hB:B≤w.heap.size) :
  Calls Tryz.prog 41 #[.pointer (some ⟨x,0,none⟩),.int .i64 n] w fun e w' => e=.returned (.int .i64 (backD ws L qs n).1)∧DR w' B x P (backD ws L qs n).2.1.1 (backD ws L qs n).2.1.2 Q (backD ws L qs n).2.2 gv∧w.grownBy w' (some x):=by
 obtain ⟨a,b,c,d,e,h1,h2,h3⟩:=h.ex
 have HC:=Lib.hid (Ds.rback_any B x P ws L n w h1 hB)
 have HM:Hid (∀ u,Ds.RAt (d,e,.int .i64 gv) u B x P (backR ws L n).2.1 (backR ws L n).2.2→w.grownBy u (some x)→DR u B x P (backR ws L n).2.1 (backR ws L n).2.2 Q qs gv):=by
  refine Lib.hid fun u hR hG => turnS (B0:=B) (S:=fun _ => False) (P:=P) (L:=L) h2 h3 h.ap hR (RG.of hG) (fun _ hs => hs.elim) (fun z hz r hr => .inl ⟨z,?_,hr⟩)
  unfold backR at hz
  split at hz
  ·exact hz
  ·exact (List.mem_filter.1 hz).1
 have HQ:Hid (∀ u,w.grownBy u (some x)→DR u B x P (backR ws L n).2.1 (backR ws L n).2.2 Q qs gv→Calls Tryz.prog 91 #[.pointer (some ⟨x,3,none⟩),.int .i64 n] u fun o u' => o=.returned (.int .i64 (Qu.backR qs n).1)∧DR u' B x P (backR ws L n).2.1 (backR ws L n).2.2 Q (Qu.backR qs n).2 gv∧w.grownBy u' (some x)):=by
  refine Lib.hid fun u hu hd => ?_
  obtain ⟨a,b,c,d,e,k1,k2,k3⟩:=hd.ex
  refine (Qu.Dq.rback_any B x Q qs gv n u k2 (Nat.le_trans hB hu.size)).mono ?_
  rintro o u' ⟨rfl,hR,hG⟩
  refine ⟨rfl,turnQ (B0:=B) (S:=fun _ => False) (Q:=Q) k1 k3 hd.ap hR (Qu.RG.of hG) (fun _ hs => hs.elim) (fun z hz r hr => .inl ⟨z,?_,hr⟩),hu.trans hG⟩
  unfold Qu.backR at hz
  split at hz
  ·exact hz
  ·exact (List.mem_filter.1 hz).1
 have HD:Hid (backD ws L qs n=((backR ws L n).1,(backR ws L n).2,if (backR ws L n).1=0 then (Qu.backR qs n).2 else qs)):=Lib.hid rfl
 obtain ⟨R,hR⟩:∃ R,R=backR ws L n:=⟨_,rfl⟩
 rw [← hR] at HC HM HQ HD
 rw [HD.out]
 clear h h1 h2 h3 hB hR
 obtain ⟨er,R⟩:=R
 dsimp only at HC HM HQ ⊢
 rcases f0:(er == 0) with _ | _
 ·have f1:er≠0:=by simpa using f0
  rw [if_neg f1]
  go_enter Tryz.func41,Tryz.ntmps41
  go_wp2_with fail
  refine HC.out.mono ?_
  rintro e w1 ⟨rfl,hr,hg⟩
  have HX:=Lib.hid (And.intro (HM.out w1 hr hg) hg)
  clear hr hg
  go_wp2
  go_ret
  exact ⟨rfl,HX.out⟩
 ·obtain rfl:er=0:=by simpa using f0
  rw [if_pos rfl]
  clear f0
  go_enter Tryz.func41,Tryz.ntmps41
  go_wp2_with fail
  refine HC.out.mono ?_
  rintro e w1 ⟨rfl,hr,hg⟩
  have HX:=Lib.hid (And.intro (HM.out w1 hr hg) hg)
  clear hr hg
  go_wp2_with fail
  refine (HQ.out w1 HX.out.2 HX.out.1).mono ?_
  rintro e w2 ⟨rfl,hr⟩
  have HY:=Lib.hid hr
  clear hr
  go_wp2
  go_ret
  exact ⟨rfl,HY.out⟩
end Go.Proofs.YtlliaihmfimdoaaGreat.Dr


namespace Go.Proofs.YtlliaihmfimdoaaGreat.Dr
open Go.RowKit Go.Maps Go.Joins Go.Deep Go.Proofs.YtlliaihmfimdoaaGreat
theorem RJ.out {B0:Nat} {a b c:World} {x:Nat} {S:Nat→Prop} (h:RJ B0 a b x S) (k:Below a.heap.size b c):RJ B0 a c x S :=
 ⟨k.os.trans h.os,k.tape.trans h.tape,k.output.trans h.output,Nat.le_trans h.size k.size,fun r hb hr hx => (k.block r hr).trans (h.low r hb hr hx),fun r hr hx => by rw [k.block r hr]; exact h.block r hr hx⟩
theorem DR.put {u u':World} {B x r:Nat} {P Q:PL} {ws:List WI} {L:List LRow} {qs:List Qu.WI} {gv:Int} (h:DR u B x P ws L Q qs gv) (hg:u.grownBy u' (some r)) (ht:∃ cs fz,u.heap[r]?=some (.cells cs 74 fz)) (h1:∀ y ∈ ws,blk y.A≠some r) (h2:∀ y ∈ qs,blk y.A≠some r):DR u' B x P ws L Q qs gv:=by
 obtain ⟨a,b,c,d,e,k1,k2,k3⟩:=h.ex
 obtain ⟨cs,fz,ht⟩:=ht
 have hx:x≠r:=by
  intro e
  subst e
  unfold Blk at k3
  rw [k3] at ht
  injection ht with ht
  injection ht with _ ht _
  exact absurd ht (by decide)
 have k3':Blk u' x 38 #[a,b,c,d,e,.int .i64 gv]:=(hg.block x k3.lt (fun e => hx (by injection e))).trans k3
 have hb:∀ k,k < u.heap.size→u'.heap[k]?=u.heap[k]?∨((∃ cs fz,u.heap[k]?=some (.cells cs 74 fz))∧k=r):=by
  intro k hk
  by_cases e:k=r
  ·exact .inr ⟨⟨cs,fz,by rw [e]; exact ht⟩,e⟩
  ·exact .inl (hg.block k hk (fun e2 => e (by injection e2)))
 have g1:RG 0 u u' x (fun k => k=r):=⟨hg.os,hg.tape,hg.output,hg.size,fun k hk => absurd hk (Nat.not_lt_zero _),fun k hk _ => (hb k hk).imp id (fun h => .inr (.inr h))⟩
 have g2:Qu.RG 0 u u' x (fun k => k=r):=⟨hg.os,hg.tape,hg.output,hg.size,fun k hk => absurd hk (Nat.not_lt_zero _),fun k hk _ => (hb k hk).imp id (fun h => .inr (.inr h))⟩
 exact ⟨⟨a,b,c,d,e,store_kept k1 k3 k3' g2 (fun k e y hy => by subst e; exact h1 y hy),queue_kept k2 k3 k3' g1 (fun k e y hy => by subst e; exact h2 y hy),k3'⟩,h.ap⟩
theorem own_kind {u:World} {B k n c m r:Nat} {t:TypeId} {A:Option Addr} {vs:List Value} (h:u.ownsRow B t k (.slice A n c) m vs) (hr:blk A=some r):∃ cs fz,u.heap[r]?=some (.cells cs t fz):=by
 obtain ⟨h1,h2⟩:=h
 rcases h2 with h2 | ⟨g,cap,cur,hv,hb,hg,hrest⟩
 ·injection h2.1 with e1 _ _
  subst e1
  cases hr
 ·injection hv with e1 _ _
  subst e1
  injection hr with hr
  subst hr
  exact ⟨_,_,hg⟩
theorem prepD_mem {ws:List WI} {L:List LRow} {n:Int} {y:WI} (h:y ∈ (prepR ws L n).2.1):∃ y0 ∈ ws,blk y0.A=blk y.A:=by
 unfold prepR at h
 split at h
 ·exact ⟨y,h,rfl⟩
 ·split at h
  ·rename_i z hz
   split at h
   ·exact ⟨y,h,rfl⟩
   ·split at h
    ·exact ⟨y,(List.mem_filter.1 h).1,rfl⟩
    ·rcases turnD_mem h with h | rfl
     ·exact ⟨y,h,rfl⟩
     ·exact ⟨z,(findD_mem hz).1,rfl⟩
  ·exact ⟨y,(List.mem_filter.1 h).1,rfl⟩
theorem prepE_mem {ws:List Qu.WI} {n:Int} {y:Qu.WI} (h:y ∈ (Qu.prepR ws n).2):∃ y0 ∈ ws,blk y0.A=blk y.A:=by
 unfold Qu.prepR at h
 split at h
 ·exact ⟨y,h,rfl⟩
 ·split at h
  ·rename_i z hz
   rcases turnE_mem h with h | rfl
   ·exact ⟨y,h,rfl⟩
   ·exact ⟨z,(Qu.findW_mem hz).1,rfl⟩
  ·exact ⟨y,h,rfl⟩
def prepD (ws:List WI) (L:List LRow) (qs:List Qu.WI) (n:Int):(List Ch × Int) × (List WI × List LRow) × List Qu.WI :=
 if fitD ws qs n=0 then (((prepR ws L n).1.1 ++ (Qu.prepR qs n).1.1,0),(prepR ws L n).2,(Qu.prepR qs n).2) else (([],fitD ws qs n),(ws,L),qs)
def DPrepO (w:World) (B x:Nat) (P:PL) (Q:PL) (gv:Int) (R:(List Ch × Int) × (List WI × List LRow) × List Qu.WI) (e:Ending) (w':World):Prop :=
 ∃ A q c,e=.returned (.tuple #[.slice A q c,.int .i64 R.1.2])∧q=R.1.1.length∧OwnC w' w.heap.size A c R.1.1∧DR w' B x P R.2.1.1 R.2.1.2 Q R.2.2 gv∧RJ B w w' x (fun _ => False)
set_option maxRecDepth 100000 in
set_option maxHeartbeats 2000000 in
theorem dprep_any (B x:Nat) (P:PL) (ws:List WI) (L:List LRow) (Q:PL) (qs:List Qu.WI) (gv n:Int) (w:World) (h:DR w B x P ws L Q qs gv) (hB:B≤w.heap.size) (hlen:((prepR ws L n).1.1).length + ((Qu.prepR qs n).1.1).length≤1000000) :
  Calls Tryz.prog 39 #[.pointer (some ⟨x,0,none⟩),.int .i64 n] w (DPrepO w B x P Q gv (prepD ws L qs n)):=by
 have HF:=Lib.hid (fit_any B x P ws L Q qs gv n w h)
 by_cases f0:fitD ws qs n=0
 ·have hD:prepD ws L qs n=(((prepR ws L n).1.1 ++ (Qu.prepR qs n).1.1,0),(prepR ws L n).2,(Qu.prepR qs n).2):=if_pos f0
  rw [hD]
  rw [f0] at HF
  have H:=Lib.hid (And.intro h (And.intro hB hlen))
  clear h hB hlen hD f0
  go_enter Tryz.func39,Tryz.ntmps39
  go_wp2_with fail
  refine HF.out.mono ?_
  rintro e w1 ⟨rfl,hb⟩
  have HBl:=Lib.hid hb
  have h1:=H.out.1.below hb
  obtain ⟨a,b,c,d,e,k1,k2,k3⟩:=h1.ex
  have HA:=Lib.hid (Ds.rprep_any B x P ws L n w1 k1 (Nat.le_trans H.out.2.1 hb.size))
  have HK:=Lib.hid (And.intro k2 (And.intro k3 (And.intro h1.ap k1)))
  clear hb h1 k1 k2 k3
  go_wp2_with fail
  refine HA.out.mono ?_
  rintro e w2 ⟨A1,q1,c1,rfl,hq1,ho1,hR1,hG1⟩
  have hd2:DR w2 B x P (prepR ws L n).2.1 (prepR ws L n).2.2 Q qs gv:=turnS (P:=P) (L:=L) HK.out.1 HK.out.2.1 HK.out.2.2.1 hR1 hG1 (fun _ hs => hs.elim) (fun y hy r hr => .inl (by obtain ⟨y0,e0,e1⟩:=prepD_mem hy; exact ⟨y0,e0,e1.trans hr⟩))
  obtain ⟨a,b,c,d,e,m1,m2,m3⟩:=hd2.ex
  have HB2:=Lib.hid (Qu.Dq.rprep_any B x Q qs gv n w2 m2)
  have H2:=Lib.hid (And.intro hd2 (And.intro m1 (And.intro m3 (And.intro hG1 (And.intro ho1 hq1)))))
  clear hq1 ho1 hR1 hG1 hd2 m1 m2 m3 HA
  go_wp2_with fail
  refine HB2.out.mono ?_
  rintro e w3 ⟨A2,q2,c2,rfl,hq2,ho2,hR2,hG2⟩
  obtain ⟨hd2,m1,m3,hG1,ho1,hq1⟩:=H2.out
  have hd3:DR w3 B x P (prepR ws L n).2.1 (prepR ws L n).2.2 Q (Qu.prepR qs n).2 gv:=turnQ (Q:=Q) m1 m3 hd2.ap hR2 hG2 (fun _ hs => hs.elim) (fun y hy r hr => .inl (by obtain ⟨y0,e0,e1⟩:=prepE_mem hy; exact ⟨y0,e0,e1.trans hr⟩))
  have hxl:x < w1.heap.size:=HK.out.2.1.lt
  have ho1':OwnC w3 w1.heap.size A1 c1 (prepR ws L n).1.1:=own_same ho1 (fun r hr ⟨cs,fz,ht⟩ hbr => by
   have hrl:=(ho1.lt' r hbr).1
   rcases hG2.block r hr (by omega) with e | ⟨cs2,fz2,e⟩ | ⟨cs2,fz2,e⟩ | ⟨_,hs⟩
   ·exact e
   ·rw [ht] at e; injection e with e; injection e with _ e _; exact absurd e (by decide)
   ·rw [ht] at e; injection e with e; injection e with _ e _; exact absurd e (by decide)
   ·exact hs.elim)
  obtain ⟨A3,c3,w4,hrun,ho4,hg4,_⟩:=ch_app ho1' A2 c2 (Qu.prepR qs n).1.1 q1 q2 hq1 hq2 (fun b o e i hi => by
   obtain ⟨b',o',e',_,hc⟩:=ho2.at_ (by omega)
   rw [e] at e'
   cases e'
   exact hc i hi) (fun hp => by obtain ⟨b',o',e',_⟩:=ho2.at_ hp; exact ⟨b',o',e'⟩) (by rw [hq1]; exact ho1'.cap) H.out.2.2 (Nat.le_trans hG1.size hG2.size)
  have b4:Below w1.heap.size w3 w4:=⟨hg4.os,hg4.tape,hg4.output,hg4.size,fun k hk => hg4.block k (Nat.lt_of_lt_of_le hk (Nat.le_trans hG1.size hG2.size)) (fun e => by have:=(ho1'.lt' k e.symm).1; omega)⟩
  have hd4:DR w4 B x P (prepR ws L n).2.1 (prepR ws L n).2.2 Q (Qu.prepR qs n).2 gv:=by
   rcases hA1:blk A1 with _ | r
   ·rw [hA1] at hg4
    exact hd3.below ⟨hg4.os,hg4.tape,hg4.output,hg4.size,fun k hk => hg4.block k hk (by simp)⟩
   ·rw [hA1] at hg4
    have hr:=(ho1'.lt' r hA1).1
    refine hd3.put hg4 (own_kind ho1' hA1) (fun y hy e => ?_) (fun y hy e => ?_)
    ·obtain ⟨y0,e0,e1⟩:=prepD_mem hy
     have:=((HK.out.2.2.2.wk y0 e0).2.2.lt' r (e1.trans e)).2
     omega
    ·obtain ⟨y0,e0,e1⟩:=prepE_mem hy
     have:=((HK.out.1.wk y0 e0).2.2.lt' r (e1.trans e)).2
     omega
  have HX:Hid (DPrepO w B x P Q gv (((prepR ws L n).1.1 ++ (Qu.prepR qs n).1.1,0),(prepR ws L n).2,(Qu.prepR qs n).2) (.returned (.tuple #[.slice A3 (q1 + q2) c3,.int .i64 0])) w4):=Lib.hid ⟨A3,q1 + q2,c3,rfl,by rw [hq1,hq2]; exact (List.length_append).symm,ho4.less HBl.out.size,hd4,((((RJ.of (lbelow_grown HBl.out (some x))).trans (.store hG1) (fun _ _ h => h)).trans (.queue hG2) (fun _ _ h => h)).out (b4.mono HBl.out.size))⟩
  clear hd2 m1 m3 hG1 ho1 hq1 hd3 hxl ho1' ho4 hg4 b4 hd4 hq2 ho2 hR2 hG2 H2 HB2
  go_wp2_with (at_builtin; refine wpList_append_run rfl (.tmp 33) (.tmp 34) 40 rfl _ _ _ w4 rfl rfl hrun ?_)
  go_returns
  exact HX.out
 ·have hD:prepD ws L qs n=(([],fitD ws qs n),(ws,L),qs):=if_neg f0
  rw [hD]
  have HX:Hid (∀ w',Below w.heap.size w w'→DPrepO w B x P Q gv (([],fitD ws qs n),(ws,L),qs) (.returned (.tuple #[.slice none 0 0,.int .i64 (fitD ws qs n)])) w'):=Lib.hid fun w' hb => ⟨none,0,0,rfl,rfl,OwnC.nil _ _,h.below hb,RJ.of (lbelow_grown hb _)⟩
  obtain ⟨f,hf⟩:∃ f,f=fitD ws qs n:=⟨_,rfl⟩
  rw [← hf] at HF HX f0 ⊢
  have f1:(f != 0)=true:=by simpa using f0
  clear h hB hlen hD hf
  go_enter Tryz.func39,Tryz.ntmps39
  go_wp2_with fail
  refine HF.out.mono ?_
  rintro e w1 ⟨rfl,hb⟩
  have HY:=Lib.hid (HX.out w1 hb)
  clear hb
  go_wp2
  go_returns
  exact HY.out
def DChangeO (w:World) (B x:Nat) (P:PL) (ws:List WI) (L:List LRow) (Q:PL) (qs:List Qu.WI) (gv n:Int) (ch:Ch) (e:Ending) (w':World):Prop :=
 (fitD ws qs n≠0∧e=.returned (.int .i64 (fitD ws qs n))∧Below w.heap.size w w') ∨
 (fitD ws qs n=0∧∃ q,w.heap.size≤q∧e=.returned (.int .i64 (touchM ws L n ch.y true q).1)∧RJ B w w' x (fun r => ∃ y ∈ ws,blk y.A=some r) ∧
  (((touchM ws L n ch.y true q).1≠0∧DR w' B x P (touchM ws L n ch.y true q).2.1 (touchM ws L n ch.y true q).2.2 Q qs gv∧NewA w ws qs (touchM ws L n ch.y true q).2.1 qs) ∨
  ((touchM ws L n ch.y true q).1=0∧∃ z A' c',findW (touchM ws L n ch.y true q).2.1 n=some z∧DR w' B x P (turnW (touchM ws L n ch.y true q).2.1 { z with A:=A',c:=c',l:=withL z.l ch }) (touchM ws L n ch.y true q).2.2 Q qs gv∧NewA w ws qs (turnW (touchM ws L n ch.y true q).2.1 { z with A:=A',c:=c',l:=withL z.l ch }) qs)))
set_option maxRecDepth 100000 in
set_option maxHeartbeats 1000000 in
theorem dchange_any (B x:Nat) (P:PL) (ws:List WI) (L:List LRow) (Q:PL) (qs:List Qu.WI) (gv n:Int) (ch:Ch) (w:World) (h:DR w B x P ws L Q qs gv) (hB:B≤w.heap.size) (hl:ws.length < 100) (hok:LOk L) (hnc:NoClash L) (hll:∀ y ∈ ws,y.l.length < 100) :
  Calls Tryz.prog 36 #[.pointer (some ⟨x,0,none⟩),.int .i64 n,.agg #[.int .i64 ch.k,.int .i64 ch.y,.int .u64 (ch.v:Nat)]] w (DChangeO w B x P ws L Q qs gv n ch):=by
 have HF:=Lib.hid (fun u (hu:Below w.heap.size w u) => fit_any B x P ws L Q qs gv n u (h.below hu))
 obtain ⟨a,b,c,d,e,h1,h2,h3⟩:=h.ex
 have HG:=Lib.hid (fun u (hu:Below w.heap.size w u) => Ds.rchange_any B x P ws L n ch u (h1.below hu) (Nat.le_trans hB hu.size) hl hok hnc hll)
 have HE:Hid (∀ u u' o,Below w.heap.size w u→fitD ws qs n=0→Ds.RChangeO (d,e,.int .i64 gv) u B x P ws L n ch o u'→DChangeO w B x P ws L Q qs gv n ch o u'):=by
  refine Lib.hid fun u u' o hu hf ⟨q,hq,he,hG,hR⟩ => .inr ⟨hf,q,Nat.le_trans hu.size hq,he,(RJ.of (lbelow_grown hu (some x))).trans (.store hG) (fun _ _ h => h),?_⟩
  rcases hR with ⟨t0,hR⟩ | ⟨t0,z,A',c',hz,hR,hA⟩
  ·have hM:∀ y ∈ (touchM ws L n ch.y true q).2.1,∀ r,blk y.A=some r→(∃ y ∈ ws,blk y.A=some r)∨u.heap.size≤r:=fun y hy r hr => by
    rcases touchD_mem (L:=L) hy with h | h
    ·exact .inl ⟨y,h,hr⟩
    ·rw [h] at hr; cases hr
   exact .inl ⟨t0,turnS (P:=P) (L:=L) (h2.below hu) (h3.below hu h3.lt) h.ap hR hG (fun _ hs => hs) hM,NewA.of (fun y hy r hr => (hM y hy r hr).imp id (Nat.le_trans hu.size)) keptQ⟩
  ·have hM:∀ y ∈ turnW (touchM ws L n ch.y true q).2.1 { z with A:=A',c:=c',l:=withL z.l ch },∀ r,blk y.A=some r→(∃ y ∈ ws,blk y.A=some r)∨u.heap.size≤r:=fun y hy r hr => by
    rcases turnD_mem hy with hy' | rfl
    ·rcases touchD_mem (L:=L) hy' with h | h
     ·exact .inl ⟨y,h,hr⟩
     ·rw [h] at hr; cases hr
    ·exact hA r hr
   exact .inr ⟨t0,z,A',c',hz,turnS (P:=P) (L:=L) (h2.below hu) (h3.below hu h3.lt) h.ap hR hG (fun _ hs => hs) hM,NewA.of (fun y hy r hr => (hM y hy r hr).imp id (Nat.le_trans hu.size)) keptQ⟩
 have HN:Hid (∀ u,Below w.heap.size w u→fitD ws qs n≠0→DChangeO w B x P ws L Q qs gv n ch (.returned (.int .i64 (fitD ws qs n))) u):=Lib.hid fun u hu hf => .inl ⟨hf,rfl,hu⟩
 have HVV:Hid (∀ u u' o,Ds.RChangeO (d,e,.int .i64 gv) u B x P ws L n ch o u'→∃ r:Int,o=.returned (.int .i64 r)):=Lib.hid fun u u' o ⟨q,_,he,_⟩ => ⟨_,he⟩
 obtain ⟨f,hf⟩:∃ f,f=fitD ws qs n:=⟨_,rfl⟩
 rw [← hf] at HF HN HE
 obtain ⟨ck,cy,cv⟩:=ch
 dsimp only at HG HE HN HVV ⊢
 obtain ⟨w1,hw1⟩:∃ w1,w1=w.alloc (.cells #[.int .i64 ck,.int .i64 cy,.int .u64 (cv:Nat)] 74):=⟨_,rfl⟩
 have b1:Below w.heap.size w w1:=by rw [hw1]; exact ba _ _
 have k1:Blk w1 w.heap.size 74 #[.int .i64 ck,.int .i64 cy,.int .u64 (cv:Nat)]:=by rw [hw1]; exact Blk.new _ _ _
 have HW1:=Lib.hid hw1
 have H1:=Lib.hid (And.intro b1 k1)
 clear h h1 h2 h3 hB hl hok hnc hll hf hw1 b1 k1
 rcases f0:(f != 0) with _ | _
 ·obtain rfl:f=0:=by simpa using f0
  clear f0
  go_enter Tryz.func36,Tryz.ntmps36
  go_wp2_with fail
  rw [← HW1.out]
  refine (HF.out w1 H1.out.1).mono ?_
  rintro e w2 ⟨rfl,hb⟩
  have HBl:=Lib.hid (bt H1.out.1 hb)
  have y1:=(H1.out.2.below hb H1.out.2.lt).cell 0
  have y2:=(H1.out.2.below hb H1.out.2.lt).cell 1
  have y3:=(H1.out.2.below hb H1.out.2.lt).cell 2
  simp only [List.getElem?_toArray,List.getElem?_cons_zero,List.getElem?_cons_succ] at y1 y2 y3
  have z1:w2.drew.cell? _=_:=y1
  have z2:w2.drew.cell? _=_:=y2
  have z3:w2.drew.cell? _=_:=y3
  clear hb
  go_wp2_with fail
  go_still_tail 5,(by kernel_rfl)
  repeat still_step
  change wpList _ _ _ _ _ w2.drew
  clear y1 y2 y3 z1 z2 z3
  have HDr:=Lib.hid HBl.out.drew
  generalize w2.drew=wd at HDr ⊢
  go_wp2_with fail
  refine (HG.out wd HDr.out).mono ?_
  intro o w3 hx
  have HX:=Lib.hid (HE.out wd w3 o HDr.out trivial hx)
  obtain ⟨r,rfl⟩:=HVV.out _ _ _ hx
  clear hx
  go_wp2
  go_ret
  exact HX.out
 ·have f1:f≠0:=by simpa using f0
  go_enter Tryz.func36,Tryz.ntmps36
  go_wp2_with fail
  rw [← HW1.out]
  refine (HF.out w1 H1.out.1).mono ?_
  rintro e w2 ⟨rfl,hb⟩
  have HX:=Lib.hid (HN.out w2 (bt H1.out.1 hb) f1)
  clear hb
  go_wp2
  go_ret
  exact HX.out
end Go.Proofs.YtlliaihmfimdoaaGreat.Dr


namespace Go.Proofs.YtlliaihmfimdoaaGreat.Re
open Go.RowKit Go.Maps Go.Deep Go.Proofs.YtlliaihmfimdoaaGreat
def IntAt (w:World) (A:Option Addr) (zs:List Int):Prop:=0 < zs.length→∃ b o,A=some ⟨b,o,none⟩∧(∃ cs fz,w.heap[b]?=some (.cells cs 3 fz))∧∀ i,(h:i < zs.length)→w.cell? ⟨b,o + i,none⟩=some (.int .i64 (zs[i]'h))
theorem IntAt.below {w w':World} {A:Option Addr} {zs:List Int} (h:IntAt w A zs) (hb:Below w.heap.size w w'):IntAt w' A zs:=fun hl => by
 obtain ⟨b,o,rfl,⟨cs,fz,hc⟩,hi⟩:=h hl
 have hlt:=(Array.getElem?_eq_some_iff.1 hc).1
 exact ⟨b,o,rfl,⟨cs,fz,(hb.block b hlt).trans hc⟩,fun i h => (hb.cell (p:=⟨b,o + i,none⟩) hlt).trans (hi i h)⟩
theorem IntAt.kept {w w':World} {A:Option Addr} {zs:List Int} {g:Nat} {t:TypeId} {cs:Array Value} (h:IntAt w A zs) (hg:w.grownBy w' (some g)) (hk:Blk w g t cs) (ht:t≠3):IntAt w' A zs:=fun hl => by
 obtain ⟨b,o,rfl,⟨cs,fz,hc⟩,hi⟩:=h hl
 have hlt:=(Array.getElem?_eq_some_iff.1 hc).1
 have hne:b≠g:=fun e => by
  subst e
  unfold Blk at hk
  rw [hk] at hc
  injection hc with hc
  injection hc with _ hc _
  exact ht hc
 have e:=hg.block b hlt (fun e => hne (by injection e))
 have hcell:∀ i,w'.cell? ⟨b,i,none⟩=w.cell? ⟨b,i,none⟩:=fun i => by unfold World.cell?; rw [e]
 exact ⟨b,o,rfl,⟨cs,fz,e.trans hc⟩,fun i h => (hcell _).trans (hi i h)⟩
structure RS where
 K:KS
 Q:Qu.QS
 pr:List Int
def RS.zero (B:Nat→Prop):RS:=⟨KS.zero B,Qu.QS.zero B,[]⟩
structure ResAt (w:World) (g:Nat) (cs:Array Value) (S:RS) (N:Nat):Prop where
 kv:KvAt w g 102 cs S.K N
 qu:Qu.QAt w g 34 102 cs S.Q N
 pr:∃ A n c,cs[37]?=some (.slice A n c)∧n=S.pr.length∧n≤c∧c≤9223372036854775807∧IntAt w A S.pr
 ln:S.pr.length≤N
theorem ResAt.below {w w':World} {g N:Nat} {cs:Array Value} {S:RS} (h:ResAt w g cs S N) (hb:Below w.heap.size w w'):ResAt w' g cs S N:=by
 obtain ⟨A,n,c,h1,h2,h3,h4,h5⟩:=h.pr
 exact ⟨h.kv.below hb,h.qu.below hb,⟨A,n,c,h1,h2,h3,h4,h5.below hb⟩,h.ln⟩
theorem ResAt.more {w:World} {g N N':Nat} {cs:Array Value} {S:RS} (h:ResAt w g cs S N) (hN:N≤N'):ResAt w g cs S N':=⟨h.kv.more hN,h.qu.more hN,h.pr,Nat.le_trans h.ln hN⟩
theorem ResAt.lt {w:World} {g N:Nat} {cs:Array Value} {S:RS} (h:ResAt w g cs S N):g < w.heap.size:=h.kv.lt
theorem qpart {w w':World} {g of N:Nat} {tt:TypeId} {cs cs':Array Value} {S:Qu.QS} (h:Qu.QAt w g of tt cs S N) (hg:w.grownBy w' (some g)) (hb:Blk w' g tt cs') (hk:∀ i,of≤i→i≤of + 2→cs'[i]?=cs[i]?):Qu.QAt w' g of tt cs' S N:=by
 obtain ⟨h1,h2,⟨A,n,c,a1,a2,a3,a4,a5⟩,h3,⟨m,G,h4,h5,h6⟩,h7,h8,h9⟩:=h
 exact ⟨hb,h2,⟨A,n,c,(hk of (Nat.le_refl _) (by omega)).trans a1,a2,a3,a4,a5.kept hg h1 h2.2⟩,(hk (of + 1) (by omega) (by omega)).trans h3,⟨m,G,(hk (of + 2) (by omega) (by omega)).trans h4,h5.kept hg h1,h6.same fun A l hc => hc.kept hg h1 h2.1⟩,h7,h8,h9⟩
theorem kpart {w w':World} {g N:Nat} {tt:TypeId} {cs cs':Array Value} {S:KS} (h:KvAt w g tt cs S N) (hg:w.grownBy w' (some g)) (hb:Blk w' g tt cs') (hk:∀ i,i < 34→cs'[i]?=cs[i]?):KvAt w' g tt cs' S N:=by
 obtain ⟨h1,h2,h3,⟨m,G,h4,h5,h6⟩,⟨h7,m2,h8,h9⟩,h10⟩:=h
 exact ⟨hb,h2,fun k hkk => ⟨(hk _ (by omega)).trans (h3 k hkk).1,(hk _ (by omega)).trans (h3 k hkk).2⟩,⟨m,G,(hk 32 (by omega)).trans h4,h5.kept hg h1,h6.same fun A l hc => hc.kept hg h1 h2⟩,⟨h7,m2,(hk 33 (by omega)).trans h8,h9.kept hg h1⟩,h10⟩
def ResO (w:World) (g:Nat) (S:RS) (N:Nat) (w':World):Prop:=(∃ cs',ResAt w' g cs' S N)∧w.grownBy w' (some g)
theorem ResO.same {w w':World} {g N:Nat} {cs:Array Value} {S:RS} (h:ResAt w g cs S N) (hb:Below w.heap.size w w'):ResO w g S N w':=⟨⟨cs,h.below hb⟩,lbelow_grown hb _⟩
theorem ResO.from {a w w':World} {g N:Nat} {S:RS} (hg:a.grownBy w (some g)) (h:ResO w g S N w'):ResO a g S N w':=⟨h.1,hg.trans h.2⟩
theorem ResAt.kturn {w w':World} {g N N':Nat} {cs:Array Value} {S:RS} {K':KS} (h:ResAt w g cs S N) (hk:KvO w g 102 cs K' N' w') (hN:N≤N'):ResO w g { S with K:=K' } N' w':=by
 obtain ⟨⟨cs',hk',hkeep⟩,hg⟩:=hk
 obtain ⟨A,n,c,h1,h2,h3,h4,h5⟩:=h.pr
 exact ⟨⟨cs',hk',(qpart h.qu hg hk'.bk (fun i hi _ => hkeep.2 i hi)).more hN,⟨A,n,c,(hkeep.2 37 (by omega)).trans h1,h2,h3,h4,h5.kept hg h.kv.bk (by decide)⟩,Nat.le_trans h.ln hN⟩,hg⟩
theorem ResAt.qturn {w w':World} {g N N':Nat} {cs:Array Value} {S:RS} {Q':Qu.QS} (h:ResAt w g cs S N) (hk:Qu.QO w g 34 102 cs Q' N' w') (hN:N≤N'):ResO w g { S with Q:=Q' } N' w':=by
 obtain ⟨⟨cs',hk',hkeep⟩,hg⟩:=hk
 obtain ⟨A,n,c,h1,h2,h3,h4,h5⟩:=h.pr
 exact ⟨⟨cs',(kpart h.kv hg hk'.bk (fun i hi => hkeep.2 i (by omega) (by omega) (by omega))).more hN,hk',⟨A,n,c,(hkeep.2 37 (by omega) (by omega) (by omega)).trans h1,h2,h3,h4,h5.kept hg h.kv.bk (by decide)⟩,Nat.le_trans h.ln hN⟩,hg⟩
set_option maxRecDepth 100000 in
theorem ResAt.zero (B:Nat→Prop) (w:World):ResAt (w.alloc (.cells #[.int .u64 0,.bool false,.int .u64 0,.bool false,.int .u64 0,.bool false,.int .u64 0,.bool false,.int .u64 0,.bool false,.int .u64 0,.bool false,.int .u64 0,.bool false,.int .u64 0,.bool false,.int .u64 0,.bool false,.int .u64 0,.bool false,.int .u64 0,.bool false,.int .u64 0,.bool false,.int .u64 0,.bool false,.int .u64 0,.bool false,.int .u64 0,.bool false,.int .u64 0,.bool false,.map none,.map none,.slice none 0 0,.int .i64 0,.map none,.slice none 0 0] 102)) w.heap.size #[.int .u64 0,.bool false,.int .u64 0,.bool false,.int .u64 0,.bool false,.int .u64 0,.bool false,.int .u64 0,.bool false,.int .u64 0,.bool false,.int .u64 0,.bool false,.int .u64 0,.bool false,.int .u64 0,.bool false,.int .u64 0,.bool false,.int .u64 0,.bool false,.int .u64 0,.bool false,.int .u64 0,.bool false,.int .u64 0,.bool false,.int .u64 0,.bool false,.int .u64 0,.bool false,.map none,.map none,.slice none 0 0,.int .i64 0,.map none,.slice none 0 0] (RS.zero B) 0 where
 kv:=⟨Blk.new _ _ _,by decide,fun k hk => by
  have:k=0∨k=1∨k=2∨k=3∨k=4∨k=5∨k=6∨k=7∨k=8∨k=9∨k=10∨k=11∨k=12∨k=13∨k=14∨k=15:=by omega
  rcases this with rfl | rfl | rfl | rfl | rfl | rfl | rfl | rfl | rfl | rfl | rfl | rfl | rfl | rfl | rfl | rfl <;> exact ⟨rfl,rfl⟩,⟨none,fun _ => none,rfl,.inl ⟨rfl,rfl⟩,fun k => ⟨fun _ => rfl,fun l p e => by cases e⟩⟩,⟨Nat.zero_le _,none,rfl,.inl ⟨rfl,rfl⟩⟩,fun k l p e => by cases e⟩
 qu:=⟨Blk.new _ _ _,⟨by decide,by decide⟩,⟨none,0,0,rfl,rfl,Nat.le_refl _,by omega,fun h => by simp [RS.zero,Qu.QS.zero] at h⟩,rfl,⟨none,fun _ => none,rfl,.inl ⟨rfl,rfl⟩,fun k => ⟨fun _ => rfl,fun l p e => by simp [Qu.lookQ,Qu.findQ,RS.zero,Qu.QS.zero] at e⟩⟩,List.Pairwise.nil,(fun y hy => nomatch hy),(Qu.QOk.zero B).inv⟩
 pr:=⟨none,0,0,rfl,rfl,Nat.le_refl _,by omega,fun h => by simp [RS.zero] at h⟩
 ln:=Nat.le_refl _
theorem newres_any (B:Nat→Prop) (w:World):Calls Tryz.prog 9 #[] w fun e w' => e=.returned (.pointer (some ⟨w.heap.size,0,none⟩))∧(∃ cs,ResAt w' w.heap.size cs (RS.zero B) 0)∧Below w.heap.size w w':=by
 have HZ:=Lib.hid (ResAt.zero B w)
 have HB:=Lib.hid (ba w (.cells #[.int .u64 0,.bool false,.int .u64 0,.bool false,.int .u64 0,.bool false,.int .u64 0,.bool false,.int .u64 0,.bool false,.int .u64 0,.bool false,.int .u64 0,.bool false,.int .u64 0,.bool false,.int .u64 0,.bool false,.int .u64 0,.bool false,.int .u64 0,.bool false,.int .u64 0,.bool false,.int .u64 0,.bool false,.int .u64 0,.bool false,.int .u64 0,.bool false,.int .u64 0,.bool false,.map none,.map none,.slice none 0 0,.int .i64 0,.map none,.slice none 0 0] 102))
 go_enter Tryz.func9,Tryz.ntmps9
 go_wp2
 go_ret
 exact ⟨rfl,⟨_,HZ.out⟩,HB.out⟩
theorem resnames_any (g:Nat) (n:Int) (w:World):Calls Tryz.prog 66 #[.pointer (some ⟨g,0,none⟩),.int .i64 n] w fun e w' => e=.returned (.int .i64 (if n < 1 then 1 else 0))∧w=w':=by
 by_cases h:n < 1
 ·rw [if_pos h]
  go_enter Tryz.func66,Tryz.ntmps66
  go_wp2
  go_ret
  exact ⟨rfl,rfl⟩
 ·rw [if_neg h]
  go_enter Tryz.func66,Tryz.ntmps66
  go_wp2
  go_ret
  exact ⟨rfl,rfl⟩
def FoundI (k x:Int) (zs:List Int):Prop:=decide (0≤k)=decide (x ∈ zs)
set_option maxRecDepth 100000 in
set_option maxHeartbeats 1000000 in
theorem iindex_any (A:Option Addr) (zs:List Int) (n c:Nat) (x:Int) (w:World) (hn:Hid (n=zs.length)) (hm:n≤1000000) (h:IntAt w A zs) :
  Calls Tryz.prog 140 #[.slice A n c,.int .i64 x] w fun e w' => (∃ k:Int,e=.returned (.int .i64 k)∧FoundI k x zs)∧w=w':=by
 have HI:Hid (∀ i,(h:i < zs.length)→i < 0→zs[i]'h≠x):=Lib.hid fun i _ hi => by omega
 have H:=Lib.hid h
 clear h
 go_enter Tryz.func140,Tryz.ntmps140
 go_wp2_with fail
 go_loopw [8] (fun iv wr => ∃ i:Nat,i≤n∧iv=.int .i64 i∧Hid (∀ j,(h:j < zs.length)→j < i→zs[j]'h≠x)∧w=wr) (fun iv _ => n - (intOf iv).toNat)
 case atStart => exact ⟨0,Nat.zero_le _,rfl,HI,rfl⟩
 case round =>
  clear HI
  obtain ⟨i,hi,rfl,HR,rfl⟩:=hrel
  by_cases hin:i < n
  ·have hiI:(i:Int) < (n:Int):=by omega
   have hil:i < zs.length:=by rw [← hn.out]; exact hin
   obtain ⟨b,o,rfl,_,hc⟩:=H.out (by omega)
   have c0:=hc i hil
   obtain ⟨z,hz⟩:∃ z,z=zs[i]'hil:=⟨_,rfl⟩
   rw [← hz] at c0
   have Hz:=Lib.hid (show ∃ hil:i < zs.length,z=zs[i]'hil from ⟨hil,hz⟩)
   clear hc hz hil
   by_cases e:x=z
   ·have HF:FoundI (i:Int) x zs:=(by
     unfold FoundI
     obtain ⟨hil,hz⟩:=Hz.out
     have:x ∈ zs:=by rw [e,hz]; exact List.getElem_mem hil
     simp [this])
    subst e
    go_wp2
    go_ret
    exact ⟨⟨_,rfl,HF⟩,rfl⟩
   ·have HN:Hid (∀ j,(h:j < zs.length)→j < i + 1→zs[j]'h≠x):=Lib.hid fun j h hj => by
     by_cases ej:j=i
     ·subst ej
      obtain ⟨_,hz⟩:=Hz.out
      rw [← hz]; exact fun e2 => e e2.symm
     ·exact HR.out j h (by omega)
    have eb:(x == z)=false:=by simpa using e
    go_wp2
    go_roundw
    case rel => exact ⟨i + 1,by omega,by go_num,HN,by first | rfl | trivial⟩
    case measure => simp [intOf]; omega
  ·have hiI:¬ (i:Int) < (n:Int):=by omega
   have HF:FoundI (-1) x zs:=(by
    unfold FoundI
    have:x ∉ zs:=fun hx => by
     obtain ⟨j,hj,e⟩:=List.mem_iff_getElem.1 hx
     exact HR.out j hj (by have:=hn.out; omega) e
    simp [this])
   clear HR
   go_wp2
   go_ret
   exact ⟨⟨_,rfl,HF⟩,rfl⟩
set_option maxRecDepth 100000 in
set_option maxHeartbeats 1000000 in
theorem contains_any (A:Option Addr) (zs:List Int) (n c:Nat) (x:Int) (w:World) (hn:Hid (n=zs.length)) (hm:n≤1000000) (h:IntAt w A zs) :
  Calls Tryz.prog 101 #[.slice A n c,.int .i64 x] w fun e w' => e=.returned (.bool (decide (x ∈ zs)))∧w=w':=by
 have HC:=Lib.hid (iindex_any A zs n c x w hn hm h)
 clear h
 go_enter Tryz.func101,Tryz.ntmps101
 go_wp2_with fail
 refine HC.out.mono ?_
 rintro e w1 ⟨⟨k,rfl,hk⟩,rfl⟩
 go_wp2
 go_ret
 exact ⟨by unfold FoundI at hk; rw [← hk]; rfl,rfl⟩
def openR (S:RS) (n:Int):Int:=if n < 1 then 1 else if n ∈ S.pr then 7 else 0
set_option maxRecDepth 100000 in
set_option maxHeartbeats 1000000 in
theorem resopen_any (g:Nat) (cs:Array Value) (S:RS) (N:Nat) (n:Int) (w:World) (h:ResAt w g cs S N) (hN:N≤1000000) :
  Calls Tryz.prog 61 #[.pointer (some ⟨g,0,none⟩),.int .i64 n] w fun e w' => e=.returned (.int .i64 (openR S n))∧w=w':=by
 have HNm:=Lib.hid (resnames_any g n w)
 obtain ⟨A,q,c,h1,h2,h3,h4,h5⟩:=h.pr
 have c37:=(h.kv.bk.cell 37).trans h1
 have HC:=Lib.hid (contains_any A S.pr q c n w (Lib.hid h2) (by have:=h.ln; omega) h5)
 by_cases hn:n < 1
 ·have hM:openR S n=1:=if_pos hn
  rw [hM]
  rw [if_pos hn] at HNm
  clear h h1 h2 h5 HC hM
  go_enter Tryz.func61,Tryz.ntmps61
  go_wp2_with fail
  refine HNm.out.mono ?_
  rintro e w1 ⟨rfl,rfl⟩
  go_wp2
  go_ret
  exact ⟨rfl,rfl⟩
 ·rw [if_neg hn] at HNm
  have hM:openR S n=if n ∈ S.pr then 7 else 0:=if_neg hn
  rw [hM]
  rcases hb:decide (n ∈ S.pr) with _ | _
  ·rw [hb] at HC
   rw [if_neg (of_decide_eq_false hb)]
   clear h h1 h2 h5 hM hb
   go_enter Tryz.func61,Tryz.ntmps61
   go_wp2_with fail
   refine HNm.out.mono ?_
   rintro e w1 ⟨rfl,rfl⟩
   go_wp2_with fail
   refine HC.out.mono ?_
   rintro e w1 ⟨rfl,rfl⟩
   go_wp2
   go_ret
   exact ⟨rfl,rfl⟩
  ·rw [hb] at HC
   rw [if_pos (of_decide_eq_true hb)]
   clear h h1 h2 h5 hM hb
   go_enter Tryz.func61,Tryz.ntmps61
   go_wp2_with fail
   refine HNm.out.mono ?_
   rintro e w1 ⟨rfl,rfl⟩
   go_wp2_with fail
   refine HC.out.mono ?_
   rintro e w1 ⟨rfl,rfl⟩
   go_wp2
   go_ret
   exact ⟨rfl,rfl⟩
end Go.Proofs.YtlliaihmfimdoaaGreat.Re

