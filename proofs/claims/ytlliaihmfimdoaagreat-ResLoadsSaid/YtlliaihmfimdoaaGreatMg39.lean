/- Parts Db Dc of one proof. -/
import Derived.Test.YtlliaihmfimdoaaGreatMg37
set_option linter.unusedSimpArgs false
set_option linter.unusedVariables false
namespace Go.Proofs.YtlliaihmfimdoaaGreat.Qu
open Go.RowKit Go.Maps Go.Joins Go.Deep
theorem note_key {S:QS} {P:List (Int × Nat)} {ws ws2:List WI} {gv n:Int} {c:Ch} {z:WI} {A5:Option Addr} {c5:Nat} (hr:Rel S P ws gv) (hg:QGood S)
  (hz:(findW ws n=some z∧ws2=ws)∨(findW ws n=none∧∃ q,z=⟨q,n,none,0,[],false⟩∧ws2=ws ++ [z])) (hp:(turnW ws2 ⟨z.q,z.n,A5,c5,z.l ++ [c],z.p⟩).Pairwise fun a b => a.q≠b.q) :
  addQ S.ws n c=(turnW ws2 ⟨z.q,z.n,A5,c5,z.l ++ [c],z.p⟩).map wq∧(turnW ws2 ⟨z.q,z.n,A5,c5,z.l ++ [c],z.p⟩).length≤ws.length + 1:=by
 constructor
 ·rcases hz with ⟨hf,rfl⟩ | ⟨hf,q,rfl,rfl⟩
  ·unfold addQ
   rw [hr.cur hf]
   exact hr.turn hg (z':=⟨z.q,z.n,A5,c5,z.l ++ [c],z.p⟩) hp hf rfl (findW_mem hf).2
  ·unfold addQ
   rw [hr.cur0 hf]
   have hq:=turn_pair hp
   rw [List.pairwise_append] at hq
   have e:turnW (ws ++ [⟨q,n,none,0,[],false⟩]) ⟨q,n,A5,c5,[] ++ [c],false⟩=ws ++ [⟨q,n,A5,c5,[] ++ [c],false⟩]:=by
    have e1:=turn_none ws ⟨q,n,A5,c5,[] ++ [c],false⟩ (fun y hy => hq.2.2 y hy ⟨q,n,none,0,[],false⟩ (List.mem_singleton_self _))
    unfold turnW at e1 ⊢
    rw [List.map_append,e1]
    simp
   dsimp only
   rw [e]
   exact hr.snoc (z':=⟨q,n,A5,c5,[] ++ [c],false⟩) hf rfl
 ·unfold turnW
  rw [List.length_map]
  rcases hz with ⟨hf,rfl⟩ | ⟨hf,q,rfl,rfl⟩
  ·omega
  ·simp
theorem pop_key {S:QS} {P:List (Int × Nat)} {ws:List WI} {gv:Int} (hr:Rel S P ws gv) (hG:QGood S) (n:Int) :
  (mayR ws n≠0→takeM S n=((0,mayR ws n),S))∧(mayR ws n=0→nextR ws n P=none→takeM S n=((0,140),S)) ∧
  (∀ y,mayR ws n=0→nextR ws n P=some y→takR ws y.1≠0→takeM S n=((0,120),S)) ∧
  (∀ y ws',mayR ws n=0→nextR ws n P=some y→takR ws y.1=0→addQ S.ws n ⟨4,y.1,y.2⟩=ws'.map wq→(takeM S n).1=(y.2,0)∧Rel (takeM S n).2 P ws' gv):=by
 have htk:=hr.tak hG
 have hmy:=hr.may n
 have hnx:=next_eq ws n S.I htk
 rw [← hr.I] at hnx
 have hff:=front_find S.I n
 refine ⟨fun h0 => ?_,fun h0 hn => ?_,fun y h0 hy ht => ?_,fun y ws' h0 hy ht hadd => ?_⟩
 ·unfold takeM; rw [if_pos (by rw [← hmy]; exact h0),← hmy]
 ·rw [hnx] at hn
  have hfd:S.I.find? (notBy n)=none:=by
   rcases hh:S.I.find? (notBy n) with _ | z
   ·rfl
   ·rw [hh] at hn; cases hn
  rw [hfd] at hff
  unfold takeM; rw [if_neg (by rw [← hmy,h0]; simp),hff]; rfl
 ·rw [hnx] at hy
  rcases hfd:S.I.find? (notBy n) with _ | z
  ·rw [hfd] at hy; cases hy
  ·rw [hfd] at hy hff
   cases hy
   have hz:=List.mem_of_find?_eq_some hfd
   dsimp only at ht hff
   rw [htk z hz] at ht
   rw [if_neg ht] at hff
   unfold takeM; rw [if_neg (by rw [← hmy,h0]; simp),hff]; rfl
 ·rw [hnx] at hy
  rcases hfd:S.I.find? (notBy n) with _ | z
  ·rw [hfd] at hy; cases hy
  ·rw [hfd] at hy hff
   cases hy
   dsimp only at ht hff hadd
   have hz:=List.mem_of_find?_eq_some hfd
   rw [htk z hz] at ht
   rw [if_pos ht] at hff
   obtain ⟨i,hi,hfr⟩:=hff
   have e1:takeM S n=((z.v,0),{ S with I:=giveI S.I i n,ws:=addQ S.ws n ⟨4,z.n,z.v⟩ }):=by
    unfold takeM
    rw [if_neg (by rw [← hmy,h0]; simp),hfr,if_neg (by simp)]
    dsimp only
    rw [hi]
   rw [e1]
   exact ⟨rfl,⟨by dsimp only; rw [prI_give]; exact hr.I,hr.g,hadd⟩⟩
theorem push_key {S:QS} {P:List (Int × Nat)} {ws:List WI} {gv:Int} (hr:Rel S P ws gv) (n:Int) (v:Nat) :
  (mayR ws n≠0→putM S n v=(mayR ws n,S))∧(mayR ws n=0→roomR P ws gv < 1→putM S n v=(5,S)) ∧
  (∀ ws',mayR ws n=0→¬ roomR P ws gv < 1→addQ S.ws n ⟨3,0,v⟩=ws'.map wq→(putM S n v).1=0∧Rel (putM S n v).2 P ws' gv):=by
 have hmy:=hr.may n
 refine ⟨fun h0 => ?_,fun h0 hn => ?_,fun ws' h0 hn hadd => ?_⟩
 ·unfold putM; rw [if_pos (by rw [← hmy]; exact h0),← hmy]
 ·rw [hr.room] at hn
  unfold putM; rw [if_neg (by rw [← hmy,h0]; simp),if_pos hn]
 ·rw [hr.room] at hn
  have e1:putM S n v=(0,{ S with ws:=addQ S.ws n ⟨3,0,v⟩ }):=by unfold putM; rw [if_neg (by rw [← hmy,h0]; simp),if_neg hn]
  rw [e1]
  exact ⟨rfl,⟨hr.I,hr.g,hadd⟩⟩
theorem prep_key {S:QS} {P:List (Int × Nat)} {ws:List WI} {gv:Int} (hr:Rel S P ws gv) (hG:QGood S) (n:Int) (hp:∀ z,findW ws n=some z→(turnW ws ⟨z.q,z.n,z.A,z.c,z.l,true⟩).Pairwise fun a b => a.q≠b.q) :
  (prepM S n).1=(prepR ws n).1∧Rel (prepM S n).2 P (prepR ws n).2 gv∧(prepR ws n).2.length≤ws.length + 1:=by
 have hmy:=hr.may n
 by_cases h0:mayR ws n=0
 ·rcases hf:findW ws n with _ | z
  ·have e1:prepM S n=(([],0),S):=by unfold prepM; rw [if_neg (by rw [← hmy,h0]; simp),hr.look,hf]; rfl
   have e2:prepR ws n=(([],0),ws):=by unfold prepR; rw [if_neg (by rw [h0]; simp),hf]
   rw [e1,e2]; exact ⟨rfl,hr,Nat.le_succ _⟩
  ·have e1:prepM S n=((z.l,0),{ S with ws:=layQ S.ws n z.l true }):=by unfold prepM; rw [if_neg (by rw [← hmy,h0]; simp),hr.look,hf,hr.cur hf]; rfl
   have e2:prepR ws n=((z.l,0),turnW ws ⟨z.q,z.n,z.A,z.c,z.l,true⟩):=by unfold prepR; rw [if_neg (by rw [h0]; simp),hf]
   rw [e1,e2]
   exact ⟨rfl,⟨hr.I,hr.g,hr.turn hG (z':=⟨z.q,z.n,z.A,z.c,z.l,true⟩) (hp z hf) hf rfl (findW_mem hf).2⟩,by unfold turnW; simp⟩
 ·have e1:prepM S n=(([],mayR ws n),S):=by unfold prepM; rw [if_pos (by rw [← hmy]; exact h0),← hmy]
  have e2:prepR ws n=(([],mayR ws n),ws):=by unfold prepR; rw [if_pos h0]
  rw [e1,e2]; exact ⟨rfl,hr,Nat.le_succ _⟩
theorem commit_key {S:QS} {P:List (Int × Nat)} {ws:List WI} {gv:Int} (hr:Rel S P ws gv) (hG:QGood S) (n:Int) :
  (commitM S n).1=(commitR P ws gv n).1∧Rel (commitM S n).2 (commitR P ws gv n).2.1 (commitR P ws gv n).2.2.1 (commitR P ws gv n).2.2.2∧(commitR P ws gv n).2.2.1.length≤ws.length + 1:=by
 have htk:=hr.tak hG
 by_cases hn:n < 1
 ·have e1:commitM S n=(1,S):=by unfold commitM; rw [if_pos hn]
  have e2:commitR P ws gv n=(1,P,ws,gv):=by unfold commitR; rw [if_pos hn]
  rw [e1,e2]
  exact ⟨rfl,hr,Nat.le_succ _⟩
 ·have hk:=kept_eq ws n S.I htk
  rw [← hr.I] at hk
  rcases hf:findW ws n with _ | z
  ·have e1:commitM S n=(0,{ S with I:=keptI S.I n ++ [],g:=S.g + (0:Nat),ws:=othersQ S.ws n }):=by unfold commitM; rw [if_neg hn,hr.cur0 hf]; rfl
   have e2:commitR P ws gv n=(0,P,ws,gv):=by unfold commitR; rw [if_neg hn,hf]
   rw [e1,e2]
   have hall:keptI S.I n=S.I:=by
    unfold keptI
    rw [List.filter_eq_self]
    intro x hx
    have ht:=hG.qr.tk n (by omega)
    rw [hr.cur0 hf] at ht
    have hm:x.t≠n:=fun e => by
     have:chOf x ∈ (byI S.I n).map chOf:=List.mem_map_of_mem (List.mem_filter.2 ⟨hx,by simpa using e⟩)
     rw [← ht] at this
     simp [tkL] at this
    simpa using hm
   exact ⟨rfl,⟨by dsimp only; rw [List.append_nil,hall]; exact hr.I,by dsimp only; rw [hr.g]; simp,by dsimp only; rw [hr.othersW,othersW_none hf]⟩,Nat.le_succ _⟩
  ·have e1:commitM S n=(0,{ S with I:=keptI S.I n ++ newsQ S.g z.l,g:=S.g + (putsL z.l:Nat),ws:=othersQ S.ws n }):=by unfold commitM; rw [if_neg hn,hr.cur hf]
   have e2:commitR P ws gv n=(0,keptR ws n P ++ newsR gv z.l,othersW ws n,gv + (putsL z.l:Nat)):=by unfold commitR; rw [if_neg hn,hf]
   rw [e1,e2]
   exact ⟨rfl,⟨by dsimp only; rw [hk,hr.g]; unfold newsR prI; rw [List.map_append],by dsimp only; rw [hr.g],hr.othersW n⟩,Nat.le_trans (othersW_len _ _) (Nat.le_succ _)⟩
end Go.Proofs.YtlliaihmfimdoaaGreat.Qu


namespace Go.Proofs.YtlliaihmfimdoaaGreat.Qu
open Go.RowKit Go.Maps Go.Joins Go.Deep
theorem back_key {S:QS} {P:List (Int × Nat)} {ws:List WI} {gv:Int} (hr:Rel S P ws gv) (n:Int) :
  (backM S n).1=(backR ws n).1∧Rel (backM S n).2 P (backR ws n).2 gv∧(backR ws n).2.length≤ws.length + 1:=by
 by_cases hn:n < 1
 ·have e1:backM S n=(1,S):=by unfold backM; rw [if_pos hn]
  have e2:backR ws n=(1,ws):=by unfold backR; rw [if_pos hn]
  rw [e1,e2]
  exact ⟨rfl,hr,Nat.le_succ _⟩
 ·have e1:backM S n=(0,{ S with I:=S.I.map (freeI n),ws:=othersQ S.ws n }):=by unfold backM; rw [if_neg hn]
  have e2:backR ws n=(0,othersW ws n):=by unfold backR; rw [if_neg hn]
  rw [e1,e2]
  exact ⟨rfl,⟨by dsimp only; rw [prI_free]; exact hr.I,hr.g,hr.othersW n⟩,Nat.le_trans (othersW_len _ _) (Nat.le_succ _)⟩
theorem rest_key {S:QS} {P:List (Int × Nat)} {ws ws1:List WI} {gv n:Int} {l:List Ch} (hr:Rel S P ws gv) (hG:QGood S)
  (h:((restR P ws gv n l≠0∨l=[])∧ws1=ws)∨(restR P ws gv n l=0∧l≠[]∧∃ q A c,ws1=ws ++ [⟨q,n,A,c,l,true⟩])) :
  (restM S n l).1=restR P ws gv n l∧Rel (restM S n l).2 P ws1 gv∧ws1.length≤ws.length + 1:=by
 have htk:=hr.tak hG
 have hri:rightL ws P l=fitsQ S.I l:=by rw [hr.I]; exact right_eq ws l S.I htk
 have hroom:=hr.room
 have hrm0:0≤roomQ S:=by
  have h1:=hG.ok.room
  have h2:=hG.ok.last
  unfold roomQ
  omega
 have hrr:rightR P ws gv l=(fitsQ S.I l && decide (¬ roomQ S < (putsL l:Nat))):=by
  unfold rightR
  rw [hri,hroom]
  congr 1
  by_cases e:putsL l=0
  ·rw [e]
   simp
   omega
  ·by_cases e2:((putsL l:Nat):Int)≤roomQ S
   ·have:¬ roomQ S < (putsL l:Nat):=by omega
    simp [e2,this]
   ·have:roomQ S < (putsL l:Nat):=by omega
    simp [e,e2,this]
 have hls:(lookQ S.ws n).isSome=(findW ws n).isSome:=by rw [hr.look]; cases findW ws n <;> rfl
 have hE:(restM S n l).1=restR P ws gv n l:=by
  unfold restM restR
  rw [hrr,hls]
  by_cases h1:n < 1
  ·rw [if_pos h1,if_pos h1]
  ·rw [if_neg h1,if_neg h1]
   rcases hfi:fitsQ S.I l with _ | _
   ·rw [if_pos rfl]; simp
   ·rw [if_neg (by simp)]
    by_cases h2:roomQ S < (putsL l:Nat)
    ·rw [if_pos h2]; simp [h2]
    ·rw [if_neg h2]
     simp only [h2,Bool.true_and,not_false_eq_true,decide_true]
     rw [if_neg (show ¬ (true=false) by simp)]
     by_cases h3:(findW ws n).isSome=true
     ·rw [if_pos h3,if_pos h3]
     ·rw [if_neg h3,if_neg h3]
      split <;> rfl
 rcases h with ⟨h1,e1⟩ | ⟨h0,hl,q,A,c,rfl⟩
 ·have hS:(restM S n l).2=S:=by
   rw [← hE] at h1
   unfold restM at h1 ⊢
   split
   ·rfl
   ·rename_i a1
    rw [if_neg a1] at h1
    split
    ·rfl
    ·rename_i a2
     rw [if_neg a2] at h1
     split
     ·rfl
     ·rename_i a3
      rw [if_neg a3] at h1
      split
      ·rfl
      ·rename_i a4
       rw [if_neg a4] at h1
       split
       ·rfl
       ·rename_i a5
        rw [if_neg a5] at h1
        rcases h1 with h1 | h1
        ·exact absurd rfl h1
        ·exact absurd h1 a5
  rw [hS,e1]
  exact ⟨hE,hr,Nat.le_succ _⟩
 ·have hn1:¬ n < 1:=fun e => by
   unfold restR at h0
   rw [if_pos e] at h0
   cases h0
  have hfn:findW ws n=none:=by
   rcases hf:findW ws n with _ | z
   ·rfl
   ·unfold restR at h0
    rw [if_neg hn1,hf] at h0
    split at h0
    ·cases h0
    ·rw [if_pos (show (some z).isSome=true from rfl)] at h0; cases h0
  have hS:(restM S n l).2={ S with I:=givenI S.I n (l.length - putsL l),ws:=layQ S.ws n l true }:=by
   rw [← hE] at h0
   unfold restM at h0 ⊢
   rw [if_neg hn1] at h0 ⊢
   split
   ·rename_i a2; rw [if_pos a2] at h0; cases h0
   ·rename_i a2
    rw [if_neg a2] at h0
    split
    ·rename_i a3; rw [if_pos a3] at h0; cases h0
    ·rename_i a3
     rw [if_neg a3] at h0
     split
     ·rename_i a4; rw [if_pos a4] at h0; cases h0
     ·first | rfl | rw [if_neg hl]
  refine ⟨hE,?_,by simp⟩
  rw [hS]
  exact ⟨by dsimp only; rw [prI_given]; exact hr.I,hr.g,hr.snoc (z':=⟨q,n,A,c,l,true⟩) hfn rfl⟩
end Go.Proofs.YtlliaihmfimdoaaGreat.Qu

