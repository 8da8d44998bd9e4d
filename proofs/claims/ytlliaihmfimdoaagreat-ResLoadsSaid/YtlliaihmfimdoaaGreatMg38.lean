/- Parts D8 D9 Da of one proof. -/
import Derived.Test.YtlliaihmfimdoaaGreatMg33
import Derived.Test.YtlliaihmfimdoaaGreatMg34
import Derived.Test.YtlliaihmfimdoaaGreatMg37
set_option linter.unusedSimpArgs false
set_option linter.unusedVariables false
namespace Go.Proofs.YtlliaihmfimdoaaGreat.Dr
open Go.RowKit Go.Maps Go.Joins Go.Deep Go.Proofs.YtlliaihmfimdoaaGreat
structure DRel (S:Re.RS) (P:PL) (ws:List WI) (Q:PL) (qs:List Qu.WI) (gv:Int):Prop where
 K:Rel S.K P ws
 Q:Qu.Rel S.Q Q qs gv
 pr:∀ n,n ∈ S.pr ↔ (curW S.K n).2=true∨(Qu.curQ S.Q.ws n).2=true
theorem any_K {S:KS} {P:PL} {ws:List WI} (h:Rel S P ws) (n:Int):((findW ws n).any fun y => y.p)=(curW S n).2:=by
 rcases hf:findW ws n with _ | z
 ·rw [h.cur0 hf]; rfl
 ·rw [h.cur hf]; rfl
theorem any_Q {S:Qu.QS} {Q:PL} {qs:List Qu.WI} {gv:Int} (h:Qu.Rel S Q qs gv) (n:Int):((Qu.findW qs n).any fun y => y.p)=(Qu.curQ S.ws n).2:=by
 unfold Qu.curQ Qu.lookQ
 rw [h.w,Qu.findQ_wq]
 rcases hf:Qu.findW qs n with _ | z
 ·rfl
 ·rfl
theorem DRel.fit {S:Re.RS} {P:PL} {ws:List WI} {Q:PL} {qs:List Qu.WI} {gv:Int} (h:DRel S P ws Q qs gv) (n:Int):fitD ws qs n=Re.openR S n:=by
 unfold fitD Re.openR
 rw [any_K h.K,any_Q h.Q]
 by_cases h1:n < 1
 ·rw [if_pos h1,if_pos h1]
 ·rw [if_neg h1,if_neg h1]
  by_cases h2:n ∈ S.pr
  ·rw [if_pos h2]
   rcases (h.pr n).1 h2 with h3 | h3
   ·rw [if_pos h3]
   ·by_cases h4:(curW S.K n).2=true
    ·rw [if_pos h4]
    ·rw [if_neg h4,if_pos h3]
  ·rw [if_neg h2,if_neg (fun h3 => h2 ((h.pr n).2 (.inl h3))),if_neg (fun h3 => h2 ((h.pr n).2 (.inr h3)))]
end Go.Proofs.YtlliaihmfimdoaaGreat.Dr


namespace Go.Proofs.YtlliaihmfimdoaaGreat.Dr
open Go.RowKit Go.Maps Go.Joins Go.Deep Go.Proofs.YtlliaihmfimdoaaGreat
theorem get_key {S:KS} {P:PL} {ws:List WI} (hr:Rel S P ws) (n y:Int) (q:Nat) (hn:i64ok n) :
  getM S n y=(getR P (touchM ws S.L n y false q) n y,(openM S n y false).2)∧(openM S n y false).2.L=(touchM ws S.L n y false q).2.2∧Rel (openM S n y false).2 P (touchM ws S.L n y false q).2.1∧(touchM ws S.L n y false q).2.1.length≤ws.length + 1:=by
 obtain ⟨t1,t2,t3,t4,t5⟩:=hr.touch n y false q hn
 refine ⟨?_,t2,t3,t4⟩
 unfold getM getR
 by_cases h0:(openM S n y false).1=0
 ·rw [if_pos h0,if_pos (by rw [← t1]; exact h0)]
  obtain ⟨z,hfz,_⟩:=touch_found (ws:=ws) (L:=S.L) (n:=n) (y:=y) (al:=false) (q:=q) (by rw [← t1]; exact h0)
  rw [hfz]
  dsimp only
  have hcz:=t3.cur hfz
  have hcu:curW (openM S n y false).2 n=curW S n:=by unfold curW; rw [(openM_W S n y false).1]
  rw [hcu] at hcz
  have hzl:(curW S n).1=z.l:=by rw [hcz]
  obtain ⟨p1,p2⟩:=pos_chg (curW S n).1 y
  unfold getZ
  split
  ·rename_i hlt
   have:=p1 hlt
   rw [← hzl,this]
  ·rename_i hlt
   have:=p2 hlt
   rw [← hzl,this]
   dsimp only
   rw [hr.val]
 ·rw [if_neg h0,if_neg (by rw [← t1]; exact h0),t1]
theorem commit_key {S:KS} {P:PL} {ws:List WI} (hr:Rel S P ws) (n:Int) :
  (commitM S n).1=(commitR P ws S.L n).1∧(commitM S n).2.L=(commitR P ws S.L n).2.2.2∧Rel (commitM S n).2 (commitR P ws S.L n).2.1 (commitR P ws S.L n).2.2.1∧(commitR P ws S.L n).2.2.1.length≤ws.length + 1:=by
 by_cases hn:n < 1
 ·have e1:commitM S n=(1,S):=by unfold commitM; rw [if_pos hn]
  have e2:commitR P ws S.L n=(1,P,ws,S.L):=by unfold commitR; rw [if_pos hn]
  rw [e1,e2]
  exact ⟨rfl,rfl,hr,Nat.le_succ _⟩
 ·have e1:commitM S n=(0,dropM { S with V:=(curW S n).1.foldl setV S.V } n):=by unfold commitM; rw [if_neg hn]
  have e2:commitR P ws S.L n=(0,(listW ws n).foldl setPr P,othersW ws n,dropL S.L n):=by unfold commitR; rw [if_neg hn]
  rw [e1,e2]
  obtain ⟨hc,hcR⟩:=hr.cur_list n
  have hrel:Rel (dropM { S with V:=(curW S n).1.foldl setV S.V } n) ((listW ws n).foldl setPr P) (othersW ws n):=by
   rw [hc]
   unfold dropM
   exact hr.others n (fold_val _ _ _ hr.V hcR.1) (POk.fold _ _ hr.P (fun c hc => (hcR.1 c hc).2)) (updW_self _ _ _) (fun m hm => updW_ne _ _ _ hm)
  exact ⟨rfl,rfl,hrel,Nat.le_trans (othersW_len _ _) (Nat.le_succ _)⟩
theorem back_key {S:KS} {P:PL} {ws:List WI} (hr:Rel S P ws) (n:Int) :
  (backoutM S n).1=(backR ws S.L n).1∧(backoutM S n).2.L=(backR ws S.L n).2.2∧Rel (backoutM S n).2 P (backR ws S.L n).2.1∧(backR ws S.L n).2.1.length≤ws.length + 1:=by
 by_cases hn:n < 1
 ·have e1:backoutM S n=(1,S):=by unfold backoutM; rw [if_pos hn]
  have e2:backR ws S.L n=(1,ws,S.L):=by unfold backR; rw [if_pos hn]
  rw [e1,e2]
  exact ⟨rfl,rfl,hr,Nat.le_succ _⟩
 ·have e1:backoutM S n=(0,dropM S n):=by unfold backoutM; rw [if_neg hn]
  have e2:backR ws S.L n=(0,othersW ws n,dropL S.L n):=by unfold backR; rw [if_neg hn]
  rw [e1,e2]
  exact ⟨rfl,rfl,hr.drop n,Nat.le_trans (othersW_len _ _) (Nat.le_succ _)⟩
theorem prep_key {S:KS} {P:PL} {ws:List WI} (hr:Rel S P ws) (n:Int) (hpw:∀ z,findW ws n=some z→(turnW ws { z with p:=true }).Pairwise fun a b => a.q≠b.q) :
  (prepM S n).1=(prepR ws S.L n).1∧(prepM S n).2.L=(prepR ws S.L n).2.2∧Rel (prepM S n).2 P (prepR ws S.L n).2.1∧(prepR ws S.L n).2.1.length≤ws.length + 1:=by
 by_cases hn:n < 1
 ·have e1:prepM S n=(([],1),S):=by unfold prepM; rw [if_pos hn]
  have e2:prepR ws S.L n=(([],1),ws,S.L):=by unfold prepR; rw [if_pos hn]
  rw [e1,e2]; exact ⟨rfl,rfl,hr,Nat.le_succ _⟩
 ·rcases hf:findW ws n with _ | z
  ·have e1:prepM S n=(([],0),{ S with L:=dropL S.L n }):=by unfold prepM; rw [if_neg hn,hr.cur0 hf,(hr.no _ hf).1]; rfl
   have e2:prepR ws S.L n=(([],0),othersW ws n,dropL S.L n):=by unfold prepR; rw [if_neg hn,hf]
   rw [e1,e2]
   exact ⟨rfl,rfl,hr.others n hr.V hr.P (hr.no _ hf).1 (fun m hm => rfl),Nat.le_trans (othersW_len _ _) (Nat.le_succ _)⟩
  ·by_cases hp:z.p=true
   ·have e1:prepM S n=(([],7),S):=by unfold prepM; rw [if_neg hn,hr.cur hf,if_pos hp]
    have e2:prepR ws S.L n=(([],7),ws,S.L):=by unfold prepR; rw [if_neg hn,hf]; dsimp only; rw [if_pos hp]
    rw [e1,e2]; exact ⟨rfl,rfl,hr,Nat.le_succ _⟩
   ·by_cases hl:z.l=[]
    ·have hw:=((hr.yes _ _ hf).1 hl).1
     have e1:prepM S n=(([],0),{ S with L:=dropL S.L n }):=by unfold prepM; rw [if_neg hn,hr.cur hf,if_neg hp,hw]; rfl
     have e2:prepR ws S.L n=(([],0),othersW ws n,dropL S.L n):=by unfold prepR; rw [if_neg hn,hf]; dsimp only; rw [if_neg hp,if_pos (by rw [hl]; rfl)]
     rw [e1,e2]
     exact ⟨rfl,rfl,hr.others n hr.V hr.P hw (fun m hm => rfl),Nat.le_trans (othersW_len _ _) (Nat.le_succ _)⟩
    ·have hw:=(hr.yes _ _ hf).2 hl
     have e1:prepM S n=((z.l,0),{ S with W:=updW S.W n (some (z.l,true)) }):=by unfold prepM; rw [if_neg hn,hr.cur hf,if_neg hp,hw]; rfl
     have e2:prepR ws S.L n=((z.l,0),turnW ws { z with p:=true },S.L):=by unfold prepR; rw [if_neg hn,hf]; dsimp only; rw [if_neg hp,if_neg (fun e => hl (List.eq_nil_of_length_eq_zero e))]
     rw [e1,e2]
     exact ⟨rfl,rfl,hr.turned (z':={ z with p:=true }) (hpw z hf) hf rfl (findD_mem hf).2 hl (hr.ll z (findD_mem hf).1),by unfold turnW; simp⟩
end Go.Proofs.YtlliaihmfimdoaaGreat.Dr


namespace Go.Proofs.YtlliaihmfimdoaaGreat.Dr
open Go.RowKit Go.Maps Go.Joins Go.Deep Go.Proofs.YtlliaihmfimdoaaGreat
theorem change_key {S:KS} {P:PL} {ws:List WI} (hr:Rel S P ws) {n:Int} {ch:Ch} (hn:i64ok n) (hk:kindB ch=true) (q:Nat) {ws1:List WI}
  (h:((touchM ws S.L n ch.y true q).1≠0∧ws1=(touchM ws S.L n ch.y true q).2.1)∨((touchM ws S.L n ch.y true q).1=0∧∃ z A' c',findW (touchM ws S.L n ch.y true q).2.1 n=some z∧ws1=turnW (touchM ws S.L n ch.y true q).2.1 { z with A:=A',c:=c',l:=withL z.l ch }∧ws1.Pairwise fun a b => a.q≠b.q)) :
  (changeM S n ch).1=(touchM ws S.L n ch.y true q).1∧(changeM S n ch).2.L=(touchM ws S.L n ch.y true q).2.2∧Rel (changeM S n ch).2 P ws1∧ws1.length≤ws.length + 1:=by
 obtain ⟨t1,t2,t3,t4,t5⟩:=hr.touch n ch.y true q hn
 rcases h with ⟨h0,rfl⟩ | ⟨h0,z,A',c',hf,rfl,hpw⟩
 ·have hM:changeM S n ch=openM S n ch.y true:=by unfold changeM; rw [if_neg (by rw [t1]; exact h0)]
  rw [hM]
  exact ⟨t1,t2,t3,t4⟩
 ·have hM:changeM S n ch=(0,{ (openM S n ch.y true).2 with W:=updW S.W n (some (withL (curW S n).1 ch,false)) }):=by unfold changeM; rw [if_pos (by rw [t1]; exact h0)]
  rw [hM]
  have hw:=openM_W S n ch.y true
  obtain ⟨g1,g2,g3⟩:=openM_ok (S:=S) (n:=n) (y:=ch.y) (a:=true) (by rw [t1]; exact h0)
  have hcz:=t3.cur hf
  have hcu:curW (openM S n ch.y true).2 n=curW S n:=by unfold curW; rw [hw.1]
  rw [hcu] at hcz
  have hzp:z.p=false:=by rw [hcz] at g1; exact g1
  have hzl:(curW S n).1=z.l:=by rw [hcz]
  have hT:=t3.turned (z':={ z with A:=A',c:=c',l:=withL z.l ch }) hpw hf rfl (findD_mem hf).2 (withL_ne _ _) ((t3.ll z (findD_mem hf).1).with_ hk g3)
  dsimp only at hT
  rw [hw.1] at hT
  exact ⟨h0.symm,by dsimp only; exact t2,by rw [hzl,← hzp]; exact hT,by unfold turnW; rw [List.length_map]; exact t4⟩
theorem rest_key {S:KS} {P:PL} {ws:List WI} (hr:Rel S P ws) {n:Int} {l:List Ch} (hno:i64ok n) {ws1:List WI} {L1:List LRow} (h:SRel ws S.L n l ws1 L1) :
  (restoreM S n l).1=restE ws S.L n l∧(restoreM S n l).2.L=L1∧Rel (restoreM S n l).2 P ws1∧ws1.length≤ws.length + 1:=by
 have hbusy:=hr.busy n
 rcases h with ⟨h1,e1,e2⟩ | ⟨hn,ha,hf,h⟩
 ·have hMr:restoreM S n l=(restE ws S.L n l,S):=by
   unfold restoreM restE
   by_cases hn:n < 1
   ·rw [if_pos hn,if_pos hn]
   ·rw [if_neg hn,if_neg hn]
    rcases ha:areB (fun _ => false) l with _ | _
    ·rw [if_pos rfl,if_pos rfl]
    ·rw [if_neg (show ¬ (true=false) by decide),if_neg (show ¬ (true=false) by decide),hbusy]
     rcases h1 with h1 | h1 | h1
     ·exact absurd h1 hn
     ·rw [ha] at h1; cases h1
     ·rw [if_pos h1,if_pos h1]
  rw [hMr,e1,e2]
  exact ⟨rfl,rfl,hr,Nat.le_succ _⟩
 ·have hn':¬ n < 1:=by omega
  have hE:restE ws S.L n l=(takeAll S.L n l).1:=by unfold restE; rw [if_neg hn',ha,if_neg (by simp),hf,if_neg (by simp)]
  have hW:=hr.no _ hf
  have hks:=areB_keys _ _ ha
  have htk:=takeAll_ok l S.L n hr.ok hr.nc hno hks
  rcases h with ⟨h1,e1,e2⟩ | ⟨h0,hl,q,A,c,rfl,rfl⟩
  ·have hMr:restoreM S n l=((takeAll S.L n l).1,{ S with L:=(takeAll S.L n l).2 }):=by
    unfold restoreM
    rw [if_neg hn',if_neg (by rw [ha]; simp),if_neg (by rw [hbusy,hf]; simp)]
    by_cases h0:(takeAll S.L n l).1=0
    ·rw [if_pos h0]
     have:l=[]:=by rcases h1 with h1 | h1; exact absurd h0 h1; exact h1
     unfold restW
     rw [if_pos this,h0]
    ·rw [if_neg h0]
   rw [hE,hMr,e1,e2]
   refine ⟨rfl,rfl,⟨hr.V,hr.P,htk.1,htk.2,fun m hm => ?_,fun m y hm => ?_,hr.ll⟩,Nat.le_succ _⟩
   ·dsimp only
    rw [hasL_takeAll]
    refine ⟨(hr.no m hm).1,?_⟩
    by_cases e:m=n
    ·rw [if_pos e,hW.2]
     split
     ·rename_i h0
      rcases h1 with h1 | h1
      ·exact absurd h0 h1
      ·rw [h1]; rfl
     ·rfl
    ·rw [if_neg e]; exact (hr.no m hm).2
   ·dsimp only
    rw [hasL_takeAll,if_neg (fun e => by rw [e,hf] at hm; cases hm)]
    exact hr.yes m y hm
  ·have hMr:restoreM S n l=(0,{ S with L:=(takeAll S.L n l).2,W:=updW S.W n (some (l,true)) }):=by
    unfold restoreM
    rw [if_neg hn',if_neg (by rw [ha]; simp),if_neg (by rw [hbusy,hf]; simp),if_pos h0]
    unfold restW
    rw [if_neg hl]
   rw [hE,h0,hMr]
   refine ⟨rfl,rfl,⟨hr.V,hr.P,htk.1,htk.2,fun m hm => ?_,fun m y hm => ?_,fun y hy => ?_⟩,by simp⟩
   ·dsimp only
    rw [findW_snoc] at hm
    rw [hasL_takeAll]
    rcases hm2:findW ws m with _ | y2
    ·rw [hm2] at hm
     have e:¬ m=n:=fun e => by subst e; simp at hm
     rw [if_neg e,updW_ne _ _ _ e]
     exact hr.no m hm2
    ·rw [hm2] at hm; simp at hm
   ·dsimp only
    rw [findW_snoc] at hm
    rw [hasL_takeAll]
    rcases hm2:findW ws m with _ | y2
    ·rw [hm2] at hm
     by_cases e:n=m
     ·simp [e] at hm
      subst hm
      rw [e,updW_self]
      exact ⟨fun e => absurd e hl,fun _ => rfl⟩
     ·simp [e] at hm
    ·rw [hm2] at hm
     simp at hm
     subst hm
     have e:¬ m=n:=fun e => by rw [e,hf] at hm2; cases hm2
     rw [if_neg e,updW_ne _ _ _ e]
     exact hr.yes m y2 hm2
   ·rcases List.mem_append.1 hy with hy | hy
    ·exact hr.ll y hy
    ·simp at hy; subst hy; exact are_iff.1 ha
end Go.Proofs.YtlliaihmfimdoaaGreat.Dr

