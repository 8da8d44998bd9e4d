/- Parts Q24 Q25 Q28 R16 R17 of one proof. -/
import Derived.Test.YtlliaihmfimdoaaGreatMg35
import Derived.Test.YtlliaihmfimdoaaGreatMg36
set_option linter.unusedSimpArgs false
set_option linter.unusedVariables false
namespace Go.Proofs.YtlliaihmfimdoaaGreat.Qu
open Go.RowKit Go.Maps Go.Deep
theorem loadF_t:∀ (l:List Nat) (k:Int) (x:IT),x ∈ loadF k l→x.t=0
 | [],k,x,h => by cases h
 | v :: r,k,x,h => by
  rcases List.mem_cons.1 h with rfl | h
  ·rfl
  ·exact loadF_t r _ x h
end Go.Proofs.YtlliaihmfimdoaaGreat.Qu


namespace Go.Proofs.YtlliaihmfimdoaaGreat.Qu
open Go.RowKit Go.Maps
theorem curQ_lay (ws:List WQ) (n:Int) (l:List Ch) (p:Bool) (m:Int):curQ (layQ ws n l p) m=if m=n then (l,p) else curQ ws m:=by
 unfold curQ; rw [lookQ_lay]; split <;> rfl
theorem curQ_others (ws:List WQ) (n m:Int):curQ (othersQ ws n) m=if m=n then ([],false) else curQ ws m:=by
 unfold curQ; rw [lookQ_others]; split <;> rfl
def chOf (x:IT):Ch:=⟨4,x.n,x.v⟩
def tkL (l:List Ch):List Ch:=l.filter fun x => decide (x.k=4)
def byI (L:List IT) (n:Int):List IT:=L.filter fun x => decide (x.t=n)
theorem byI_app (a b:List IT) (n:Int):byI (a ++ b) n=byI a n ++ byI b n:=List.filter_append ..
theorem byI_all {a:List IT} {n:Int} (h:∀ x ∈ a,x.t=n):byI a n=a:=List.filter_eq_self.2 fun x hx => by simpa using h x hx
theorem byI_none {a:List IT} {n:Int} (h:∀ x ∈ a,x.t≠n):byI a n=[]:=List.filter_eq_nil_iff.2 fun x hx => by simpa using h x hx
theorem tkL_app (a b:List Ch):tkL (a ++ b)=tkL a ++ tkL b:=List.filter_append ..
def kdOk (l:List Ch):Prop:=∀ x ∈ l,(x.k=3∧x.y=0)∨x.k=4
structure QR (S:QS):Prop where
 pre:∃ P F n,S.I=P ++ F∧(∀ x ∈ F,x.t=0)∧(∀ x ∈ P,x.t=n)∧1≤n
 tk:∀ n,1≤n→tkL (curQ S.ws n).1=(byI S.I n).map chOf
 kd:∀ n,kdOk (curQ S.ws n).1
theorem QR.zero (B:Nat→Prop):QR (QS.zero B):=⟨⟨[],[],1,rfl,by simp,by simp,by omega⟩,fun n _ => rfl,fun n x hx => by simp [QS.zero,curQ,lookQ,findQ] at hx⟩
theorem QR.rebase {S:QS} {B:Nat→Prop} (h:QR S):QR { S with B:=B }:=⟨h.pre,h.tk,h.kd⟩
section
variable {S:QS}
theorem QR.put (h:QR S) (n:Int) (v:Nat):QR (putM S n v).2:=by
 unfold putM
 split
 ·exact h
 ·split
  ·exact h
  ·refine ⟨h.pre,fun m hm => ?_,fun m => ?_⟩
   ·dsimp only; unfold addQ; rw [curQ_lay]
    split
    ·rename_i e; subst e
     dsimp only
     rw [tkL_app,h.tk m hm]
     simp [tkL]
    ·exact h.tk m hm
   ·dsimp only; unfold addQ; rw [curQ_lay]
    split
    ·intro x hx
     rcases List.mem_append.1 hx with hx | hx
     ·exact h.kd n x hx
     ·obtain rfl:=List.mem_singleton.1 hx; exact .inl ⟨rfl,rfl⟩
    ·exact h.kd m
theorem QR.take (h:QR S) (n:Int):QR (takeM S n).2:=by
 unfold takeM
 split
 ·exact h
 ·rename_i ho
  split
  ·exact h
  ·rename_i hf
   have hf0:(frontR S.I n).2=0:=by simpa using hf
   obtain ⟨hi,h0,hne,hbef⟩:=front_ok hf0
   have hn1:1≤n:=by
    have:=openE_cases S n
    rcases this with ⟨e,_⟩ | ⟨e,_⟩ | ⟨e,h1,_⟩
    ·rw [e] at ho; simp at ho
    ·rw [e] at ho; simp at ho
    ·exact h1
   rw [List.getElem?_eq_getElem hi]
   dsimp only
   obtain ⟨i,hie⟩:∃ i,i=(frontR S.I n).1:=⟨_,rfl⟩
   obtain ⟨x,hx⟩:∃ x,x=S.I[(frontR S.I n).1]'hi:=⟨_,rfl⟩
   rw [← hx] at h0 ⊢
   have hi2:i < S.I.length:=by rw [hie]; exact hi
   have hx2:x=S.I[i]'hi2:=by rw [hx]; congr 1; exact hie.symm
   rw [← hie] at hbef ⊢
   have ea:S.I=S.I.take i ++ x :: S.I.drop (i + 1):=by
    rw [hx2,← List.drop_eq_getElem_cons hi2,List.take_append_drop]
   have hla:(S.I.take i).length=i:=by rw [List.length_take]; omega
   obtain ⟨P,F,n',hPF,hF,hP,hn'⟩:=h.pre
   have hPi:P.length≤i:=by
    apply Classical.byContradiction
    intro hc
    have hlt:i < P.length:=by omega
    have:x ∈ P:=by
     rw [hx2]
     have:S.I[i]'hi2=P[i]'hlt:=by simp only [hPF]; exact List.getElem_append_left hlt
     rw [this]; exact List.getElem_mem hlt
    have:=hP x this
    omega
   have hb:∀ y ∈ S.I.drop (i + 1),y.t=0:=by
    intro y hy
    rw [hPF,List.drop_append,List.drop_eq_nil_of_le (show P.length≤i + 1 by omega),List.nil_append] at hy
    exact hF y (List.mem_of_mem_drop hy)
   have haa:∀ y ∈ S.I.take i,y.t=n:=by
    intro y hy
    obtain ⟨j,hj,rfl⟩:=List.mem_iff_getElem.1 hy
    rw [List.getElem_take]
    exact hbef j (by rw [List.length_take] at hj; omega) (by rw [List.length_take] at hj; omega)
   have hg:giveI S.I i n=S.I.take i ++ { x with t:=n } :: S.I.drop (i + 1):=by
    have:=giveI_app (S.I.take i) x (S.I.drop (i + 1)) n
    rw [hla,← ea] at this
    exact this
   generalize S.I.take i=a at ea hla haa hg
   generalize S.I.drop (i + 1)=b at ea hb hg
   have hx':byI (x :: b) n=[]:=byI_none fun y hy => by
    rcases List.mem_cons.1 hy with rfl | hy
    ·omega
    ·have:=hb y hy; omega
   have hbn:∀ m,1≤m→byI b m=[]:=fun m hm => byI_none fun y hy => by have:=hb y hy; omega
   refine ⟨⟨a ++ [{ x with t:=n }],b,n,by dsimp only; rw [hg]; simp,hb,fun y hy => ?_,hn1⟩,fun m hm => ?_,fun m => ?_⟩
   ·rcases List.mem_append.1 hy with hy | hy
    ·exact haa y hy
    ·obtain rfl:=List.mem_singleton.1 hy; rfl
   ·dsimp only; unfold addQ; rw [curQ_lay,hg]
    split
    ·rename_i e; subst e
     dsimp only
     rw [tkL_app,h.tk m hm,ea,byI_app,byI_app,byI_all haa,hx',List.append_nil]
     have:byI ({ x with t:=m } :: b) m=[{ x with t:=m }]:=by
      have:=byI_app [{ x with t:=m }] b m
      rw [List.singleton_append] at this
      rw [this,hbn m hm,byI_all (by simp)]; rfl
     rw [this,List.map_append]
     rfl
    ·rename_i e
     rw [h.tk m hm,ea,byI_app,byI_app]
     congr 2
     have h1:byI (x :: b) m=[]:=byI_none fun y hy => by
      rcases List.mem_cons.1 hy with rfl | hy
      ·omega
      ·have:=hb y hy; omega
     have h2:byI ({ x with t:=n } :: b) m=[]:=byI_none fun y hy => by
      rcases List.mem_cons.1 hy with rfl | hy
      ·exact fun e2 => e e2.symm
      ·have:=hb y hy; omega
     rw [h1,h2]
   ·dsimp only; unfold addQ; rw [curQ_lay]
    split
    ·intro y hy
     rcases List.mem_append.1 hy with hy | hy
     ·exact h.kd n y hy
     ·obtain rfl:=List.mem_singleton.1 hy; exact .inr rfl
    ·exact h.kd m
theorem QR.prep (h:QR S) (n:Int):QR (prepM S n).2:=by
 unfold prepM
 split
 ·exact h
 ·split
  ·exact h
  ·have e:∀ m,(curQ (layQ S.ws n (curQ S.ws n).1 true) m).1=(curQ S.ws m).1:=fun m => by
    rw [curQ_lay]; split
    ·rename_i e; subst e; rfl
    ·rfl
   exact ⟨h.pre,fun m hm => by dsimp only; rw [e]; exact h.tk m hm,fun m => by dsimp only; rw [e]; exact h.kd m⟩
theorem newsQ_t:∀ (l:List Ch) (g:Int) (x:IT),x ∈ newsQ g l→x.t=0
 | [],g,x,h => by cases h
 | y :: r,g,x,h => by
  unfold newsQ at h
  split at h
  ·rcases List.mem_cons.1 h with rfl | h
   ·rfl
   ·exact newsQ_t r _ x h
  ·exact newsQ_t r _ x h
theorem QR.commit (h:QR S) (n:Int):QR (commitM S n).2:=by
 unfold commitM
 split
 ·exact h
 ·obtain ⟨P,F,n',hPF,hF,hP,hn'⟩:=h.pre
  refine ⟨⟨keptI P n,keptI F n ++ newsQ S.g (curQ S.ws n).1,n',?_,fun x hx => ?_,fun x hx => hP x (List.mem_filter.1 hx).1,hn'⟩,fun m hm => ?_,fun m => ?_⟩
  ·dsimp only; rw [hPF]; unfold keptI; rw [List.filter_append,List.append_assoc]
  ·rcases List.mem_append.1 hx with hx | hx
   ·exact hF x (List.mem_filter.1 hx).1
   ·exact newsQ_t _ _ x hx
  ·dsimp only
   rw [curQ_others,byI_app,byI_none (a:=newsQ _ _) (fun x hx => by have:=newsQ_t _ _ x hx; omega),List.append_nil]
   split
   ·rename_i e; subst e
    rw [byI_none (fun x hx => by have:=(List.mem_filter.1 hx).2; simpa using this)]; rfl
   ·rename_i e
    rw [h.tk m hm]
    congr 1
    unfold byI keptI
    rw [List.filter_filter]
    refine List.filter_congr fun x _ => ?_
    by_cases e2:x.t=m
    ·have:¬ x.t=n:=fun e3 => e (e2.symm.trans e3)
     simp [e2,this]
     exact e
    ·simp [e2]
  ·dsimp only
   rw [curQ_others]
   split
   ·intro x hx; cases hx
   ·exact h.kd m
theorem QR.back (h:QR S) (n:Int):QR (backM S n).2:=by
 unfold backM
 split
 ·exact h
 ·rename_i hn1
  obtain ⟨P,F,n',hPF,hF,hP,hn'⟩:=h.pre
  have hFm:∀ x ∈ F.map (freeI n),x.t=0:=fun x hx => by
   obtain ⟨y,hy,rfl⟩:=List.mem_map.1 hx
   unfold freeI; split
   ·rfl
   ·exact hF y hy
  refine ⟨?_,fun m hm => ?_,fun m => ?_⟩
  ·dsimp only
   rw [hPF,List.map_append]
   by_cases e:n'=n
   ·refine ⟨[],P.map (freeI n) ++ F.map (freeI n),1,rfl,fun x hx => ?_,by simp,by omega⟩
    rcases List.mem_append.1 hx with hx | hx
    ·obtain ⟨y,hy,rfl⟩:=List.mem_map.1 hx
     unfold freeI; rw [if_pos ((hP y hy).trans e)]
    ·exact hFm x hx
   ·refine ⟨P.map (freeI n),F.map (freeI n),n',rfl,hFm,fun x hx => ?_,hn'⟩
    obtain ⟨y,hy,rfl⟩:=List.mem_map.1 hx
    have:=hP y hy
    unfold freeI; rw [if_neg (by rw [this]; exact e)]; exact this
  ·dsimp only
   rw [curQ_others]
   split
   ·rename_i e; subst e
    rw [byI_none (fun x hx => ?_)]; rfl
    obtain ⟨y,hy,rfl⟩:=List.mem_map.1 hx
    unfold freeI; split
    ·show (0:Int)≠_; omega
    ·assumption
   ·rename_i e
    rw [h.tk m hm]
    congr 1
    unfold byI
    generalize S.I=L
    induction L with
    | nil => rfl
    | cons x r ih =>
     rw [List.map_cons,List.filter_cons,List.filter_cons,ih]
     unfold freeI
     by_cases e2:x.t=n
     ·have e3:¬ x.t=m:=fun e4 => e (e4.symm.trans e2)
      have e5:¬ (0:Int)=m:=by omega
      rw [if_pos e2]
      simp [e3,e5]
     ·rw [if_neg e2]
  ·dsimp only
   rw [curQ_others]
   split
   ·intro x hx; cases hx
   ·exact h.kd m
theorem fits_spec:∀ (l:List Ch) (L:List IT),fitsQ L l=true→tkL l=(L.take (l.length - putsL l)).map chOf∧(∀ x ∈ L.take (l.length - putsL l),x.t=0)∧kdOk l
 | [],L,_ => ⟨by simp [tkL],by simp,fun x hx => by cases hx⟩
 | x :: r,L,h => by
  have h3:putsL (x :: r)=(if x.k=3 then 1 else 0) + putsL r:=by
   unfold putsL; rw [List.filter_cons]
   by_cases e:x.k=3
   ·simp [e]; omega
   ·simp [e]
  have hle:=putsL_le r
  unfold fitsQ at h
  by_cases e:x.k=3
  ·rw [if_pos e] at h h3
   rw [Bool.and_eq_true] at h
   obtain ⟨i1,i2,i3⟩:=fits_spec r L h.2
   have hlen:(x :: r).length - putsL (x :: r)=r.length - putsL r:=by rw [h3,List.length_cons]; omega
   rw [hlen]
   refine ⟨?_,i2,fun y hy => ?_⟩
   ·rw [← i1]; unfold tkL; rw [List.filter_cons,if_neg (by simp [e])]
   ·rcases List.mem_cons.1 hy with rfl | hy
    ·exact .inl ⟨e,by simpa using h.1⟩
    ·exact i3 y hy
  ·rw [if_neg e] at h h3
   by_cases e4:x.k=4
   ·rw [if_pos e4] at h
    cases L with
    | nil => cases h
    | cons i L' =>
     simp only [Bool.and_eq_true] at h
     obtain ⟨i1,i2,i3⟩:=fits_spec r L' h.2
     have hlen:(x :: r).length - putsL (x :: r)=r.length - putsL r + 1:=by rw [h3,List.length_cons]; omega
     have he:=h.1
     unfold eqIT at he
     simp only [Bool.and_eq_true,beq_iff_eq,decide_eq_true_eq] at he
     rw [hlen,List.take_succ_cons]
     refine ⟨?_,fun y hy => ?_,fun y hy => ?_⟩
     ·rw [List.map_cons,← i1]; unfold tkL; rw [List.filter_cons,if_pos (by simp [e4])]
      congr 1
      unfold chOf
      obtain ⟨xk,xy,xv⟩:=x
      dsimp only at e4 he
      simp_all
     ·rcases List.mem_cons.1 hy with rfl | hy
      ·simp_all
      ·exact i2 y hy
     ·rcases List.mem_cons.1 hy with rfl | hy
      ·exact .inr e4
      ·exact i3 y hy
   ·rw [if_neg e4] at h; cases h
theorem QR.rest (h:QR S) (n:Int) (l:List Ch):QR (restM S n l).2:=by
 unfold restM
 split
 ·exact h
 ·rename_i hn1
  split
  ·exact h
  ·rename_i hft
   split
   ·exact h
   ·split
    ·exact h
    ·rename_i hb
     split
     ·exact h
     ·obtain ⟨s1,s2,s3⟩:=fits_spec l S.I (by simpa using hft)
      generalize l.length - putsL l=k at s1 s2
      have hc0:(curQ S.ws n).1=[]:=by
       unfold curQ
       rcases hl:lookQ S.ws n with _ | z
       ·rfl
       ·rw [hl] at hb; simp at hb
      have hk3:∀ m,kdOk (curQ (layQ S.ws n l true) m).1:=fun m => by
       rw [curQ_lay]; split
       ·exact s3
       ·exact h.kd m
      rcases Nat.eq_zero_or_pos k with rfl | hk
      ·have e0:givenI S.I n 0=S.I:=givenI_zero _ _
       refine ⟨by dsimp only; rw [e0]; exact h.pre,fun m hm => ?_,hk3⟩
       dsimp only
       rw [e0,curQ_lay]
       split
       ·rename_i e; subst e
        have:=h.tk m hm
        rw [hc0] at this
        rw [← this,s1]
        simp [tkL]
       ·exact h.tk m hm
      ·obtain ⟨P,F,n',hPF,hF,hP,hn'⟩:=h.pre
       have hI0:∀ x ∈ S.I,x.t=0:=by
        intro x hx
        rw [hPF] at hx
        rcases List.mem_append.1 hx with hx | hx
        ·exfalso
         cases P with
         | nil => cases hx
         | cons p P' =>
          have hp:=hP p (List.mem_cons_self ..)
          have:p.t=0:=s2 p (by
           rw [hPF,List.cons_append]
           cases k with
           | zero => omega
           | succ k => rw [List.take_succ_cons]; exact List.mem_cons_self ..)
          omega
        ·exact hF x hx
       have hg:givenI S.I n k=(S.I.take k).map (fun x => { x with t:=n }) ++ S.I.drop k:=rfl
       have hd0:∀ x ∈ S.I.drop k,x.t=0:=fun x hx => hI0 x (List.mem_of_mem_drop hx)
       have hmn:∀ x ∈ (S.I.take k).map (fun x:IT => ({ x with t:=n }:IT)),x.t=n:=fun x hx => by
        obtain ⟨y,_,rfl⟩:=List.mem_map.1 hx; rfl
       refine ⟨⟨_,_,n,by dsimp only; rw [hg],hd0,hmn,by omega⟩,fun m hm => ?_,hk3⟩
       dsimp only
       rw [hg,curQ_lay,byI_app,byI_none (a:=S.I.drop k) (fun x hx => by have:=hd0 x hx; omega),List.append_nil]
       split
       ·rename_i e; subst e
        rw [byI_all hmn,List.map_map,s1]
        rfl
       ·rename_i e
        rw [h.tk m hm,byI_none (fun x hx => by have:=hI0 x hx; omega),byI_none (fun x hx => by have:=hmn x hx; omega)]
theorem QR.load (h:QR S) (vals:List Nat) (next:Int):QR (loadM S vals next).2:=by
 unfold loadM
 split
 ·exact h
 ·rename_i hi
  split
  ·exact h
  ·have hw:S.ws=[]:=Classical.byContradiction fun e => hi (.inr e)
   have ht:=loadF_t vals (next - vals.length)
   refine ⟨⟨[],loadF (next - vals.length) vals,1,rfl,ht,by simp,by omega⟩,fun m hm => ?_,fun m => ?_⟩
   ·dsimp only
    rw [byI_none (fun x hx => by have:=ht x hx; omega),hw]; rfl
   ·dsimp only
    rw [hw]; intro x hx; cases hx
theorem QR.call (h:QR S) (o:OpV):QR (callM S o).2:=by
 unfold callM
 split; exact h.put _ _
 split; exact h.take _
 split; exact h.prep _
 split; exact h.commit _
 split; exact h.back _
 split; exact h.rest _ _
 split; exact h.load _ _
 exact h
end
end Go.Proofs.YtlliaihmfimdoaaGreat.Qu


namespace Go.Proofs.YtlliaihmfimdoaaGreat.Qu
open Go.RowKit Go.Maps
def NumL:Int→List Int→Prop
 | _,[] => True
 | k,x :: r => x=k∧NumL (k + 1) r
theorem NumL.app:∀ (a b:List Int) (k:Int),NumL k (a ++ b) ↔ NumL k a∧NumL (k + (a.length:Nat)) b
 | [],b,k => by simp [NumL]
 | x :: a,b,k => by
  simp only [List.cons_append,NumL,NumL.app a b (k + 1),List.length_cons,and_assoc]
  rw [show k + 1 + ((a.length:Nat):Int)=k + ((a.length + 1:Nat):Int) by push_cast; omega]
structure QN (S:QS):Prop where
 num:NumL (S.g + 1 - (S.I.length:Nat)) (S.I.map IT.n)
 len:(S.I.length:Int)≤S.g
theorem QN.same {S S':QS} (h:QN S) (h1:S'.I.map IT.n=S.I.map IT.n) (h2:S'.g=S.g):QN S':=by
 have hl:S'.I.length=S.I.length:=by have:=congrArg List.length h1; simpa using this
 exact ⟨by rw [h1,h2,hl]; exact h.num,by rw [hl,h2]; exact h.len⟩
theorem giveI_n (L:List IT) (i:Nat) (n:Int):(giveI L i n).map IT.n=L.map IT.n:=by
 refine List.ext_getElem? fun j => ?_
 unfold giveI
 rw [List.getElem?_map,List.getElem?_map,List.getElem?_modify]
 cases L[j]? with
 | none => simp
 | some x => simp only [Option.map_eq_map,Option.map_some]; split <;> rfl
theorem freeI_n (L:List IT) (n:Int):(L.map (freeI n)).map IT.n=L.map IT.n:=by
 rw [List.map_map]
 refine List.map_congr_left fun x _ => ?_
 simp only [Function.comp]
 unfold freeI; split <;> rfl
theorem givenI_n (L:List IT) (n:Int) (j:Nat):(givenI L n j).map IT.n=L.map IT.n:=by
 unfold givenI
 rw [List.map_append,List.map_map]
 have:(IT.n ∘ fun x:IT => ({ x with t:=n }:IT))=IT.n:=rfl
 rw [this,← List.map_append,List.take_append_drop]
theorem newsQ_num:∀ (l:List Ch) (g:Int),NumL (g + 1) ((newsQ g l).map IT.n)
 | [],g => trivial
 | x :: r,g => by
  unfold newsQ
  split
  ·exact ⟨rfl,newsQ_num r (g + 1)⟩
  ·exact newsQ_num r g
theorem loadF_num:∀ (l:List Nat) (k:Int),NumL k ((loadF k l).map IT.n)
 | [],k => trivial
 | x :: r,k => ⟨rfl,loadF_num r (k + 1)⟩
theorem QR.front {S:QS} (h:QR S) {n:Int} (hn:1≤n):∃ k,k≤S.I.length∧byI S.I n=S.I.take k∧keptI S.I n=S.I.drop k:=by
 obtain ⟨P,F,n',hPF,hF,hP,hn'⟩:=h.pre
 have hFn:∀ x ∈ F,x.t≠n:=fun x hx => by have:=hF x hx; omega
 have hkF:keptI F n=F:=List.filter_eq_self.2 fun x hx => by simpa using hFn x hx
 have hka:keptI (P ++ F) n=keptI P n ++ keptI F n:=List.filter_append ..
 by_cases e:n'=n
 ·subst e
  refine ⟨P.length,by rw [hPF,List.length_append]; omega,?_,?_⟩
  ·rw [hPF,byI_app,byI_all hP,byI_none hFn,List.append_nil,List.take_left]
  ·rw [hPF,hka,hkF,List.drop_left,show keptI P n'=[] from List.filter_eq_nil_iff.2 fun x hx => by simpa using hP x hx]; rfl
 ·have hPn:∀ x ∈ P,x.t≠n:=fun x hx => by rw [hP x hx]; exact e
  refine ⟨0,Nat.zero_le _,?_,?_⟩
  ·rw [hPF,byI_app,byI_none hPn,byI_none hFn]; rfl
  ·rw [hPF,hka,hkF,show keptI P n=P from List.filter_eq_self.2 fun x hx => by simpa using hPn x hx]; rfl
section
variable {S:QS}
theorem QN.put (h:QN S) (n:Int) (v:Nat):QN (putM S n v).2:=by
 unfold putM
 split
 ·exact h
 ·split
  ·exact h
  ·exact h.same rfl rfl
theorem QN.take (h:QN S) (n:Int):QN (takeM S n).2:=by
 unfold takeM
 split
 ·exact h
 ·split
  ·exact h
  ·split
   ·exact h.same (giveI_n _ _ _) rfl
   ·exact h
theorem QN.prep (h:QN S) (n:Int):QN (prepM S n).2:=by
 unfold prepM
 split
 ·exact h
 ·split
  ·exact h
  ·exact h.same rfl rfl
theorem QN.commit (h:QN S) (hr:QR S) (n:Int):QN (commitM S n).2:=by
 unfold commitM
 split
 ·exact h
 ·rename_i hn1
  obtain ⟨k,hk,hb,hkp⟩:=hr.front (n:=n) (by omega)
  have h1:=h.num
  have h2:=h.len
  have hl:(S.I.take k).length=k:=by rw [List.length_take]; omega
  have hld:(S.I.drop k).length=S.I.length - k:=List.length_drop ..
  rw [← List.take_append_drop k S.I,List.map_append,NumL.app,List.length_map,hl,List.take_append_drop] at h1
  refine ⟨?_,?_⟩
  ·dsimp only
   rw [hkp,List.map_append,NumL.app,List.length_map,List.length_append,newsQ_len,hld]
   refine ⟨?_,?_⟩
   ·have:=h1.2
    rw [show S.g + (putsL (curQ S.ws n).1:Nat) + 1 - ((S.I.length - k + putsL (curQ S.ws n).1:Nat):Int)=S.g + 1 - (S.I.length:Nat) + (k:Nat) by omega]
    exact this
   ·have:=newsQ_num (curQ S.ws n).1 S.g
    rw [show S.g + (putsL (curQ S.ws n).1:Nat) + 1 - ((S.I.length - k + putsL (curQ S.ws n).1:Nat):Int) + ((S.I.length - k:Nat):Int)=S.g + 1 by omega]
    exact this
  ·dsimp only
   rw [hkp,List.length_append,newsQ_len,hld]
   omega
theorem QN.back (h:QN S) (n:Int):QN (backM S n).2:=by
 unfold backM
 split
 ·exact h
 ·exact h.same (freeI_n _ _) rfl
theorem QN.rest (h:QN S) (n:Int) (l:List Ch):QN (restM S n l).2:=by
 unfold restM
 split
 ·exact h
 ·split
  ·exact h
  ·split
   ·exact h
   ·split
    ·exact h
    ·split
     ·exact h
     ·exact h.same (givenI_n _ _ _) rfl
theorem QN.load (h:QN S) (vals:List Nat) (next:Int):QN (loadM S vals next).2:=by
 unfold loadM
 split
 ·exact h
 ·split
  ·exact h
  ·refine ⟨?_,?_⟩
   ·dsimp only
    rw [loadF_len,show next - 1 + 1 - ((vals.length:Nat):Int)=next - (vals.length:Nat) by omega]
    exact loadF_num _ _
   ·dsimp only; rw [loadF_len]; omega
theorem QN.call (h:QN S) (hr:QR S) (o:OpV):QN (callM S o).2:=by
 unfold callM
 split; exact h.put _ _
 split; exact h.take _
 split; exact h.prep _
 split; exact h.commit hr _
 split; exact h.back _
 split; exact h.rest _ _
 split; exact h.load _ _
 exact h
end
end Go.Proofs.YtlliaihmfimdoaaGreat.Qu


namespace Go.Proofs.YtlliaihmfimdoaaGreat.Qu
open Go.RowKit Go.Maps Go.Joins Go.Deep
def wq (y:WI):WQ:=⟨y.n,y.l,y.p⟩
structure QGood (S:QS):Prop where
 nd:S.ws.Pairwise fun a b => a.n≠b.n
 pos:∀ y ∈ S.ws,1≤y.n
 ok:QOk S
 qr:QR S
 qn:QN S
theorem QGood.zero (B:Nat→Prop):QGood (QS.zero B):=⟨List.Pairwise.nil,(fun y hy => nomatch hy),QOk.zero B,QR.zero B,⟨trivial,Int.le_refl _⟩⟩
theorem callM_ws (S:QS) (o:OpV):(callM S o).2.ws=S.ws∨(∃ n l p,1≤n∧(callM S o).2.ws=layQ S.ws n l p)∨(∃ n,(callM S o).2.ws=othersQ S.ws n):=by
 have hop:∀ n,¬ openE S n≠0→1≤n:=fun n h => by
  unfold openE at h
  by_cases e:n < 1
  ·rw [if_pos e] at h; exact absurd (by decide) h
  ·omega
 unfold callM
 split
 ·unfold putM
  split
  ·exact .inl rfl
  ·rename_i h
   split
   ·exact .inl rfl
   ·exact .inr (.inl ⟨_,_,_,hop _ h,rfl⟩)
 split
 ·unfold takeM
  split
  ·exact .inl rfl
  ·rename_i h
   split
   ·exact .inl rfl
   ·split
    ·exact .inr (.inl ⟨_,_,_,hop _ h,rfl⟩)
    ·exact .inl rfl
 split
 ·unfold prepM
  split
  ·exact .inl rfl
  ·rename_i h
   split
   ·exact .inl rfl
   ·exact .inr (.inl ⟨_,_,_,hop _ h,rfl⟩)
 split
 ·unfold commitM
  split
  ·exact .inl rfl
  ·exact .inr (.inr ⟨_,rfl⟩)
 split
 ·unfold backM
  split
  ·exact .inl rfl
  ·exact .inr (.inr ⟨_,rfl⟩)
 split
 ·unfold restM
  split
  ·exact .inl rfl
  ·rename_i h
   split
   ·exact .inl rfl
   ·split
    ·exact .inl rfl
    ·split
     ·exact .inl rfl
     ·split
      ·exact .inl rfl
      ·exact .inr (.inl ⟨_,_,_,by omega,rfl⟩)
 split
 ·unfold loadM
  split
  ·exact .inl rfl
  ·split <;> exact .inl rfl
 ·exact .inl rfl
theorem QGood.call {S:QS} (h:QGood S) (o:OpV):QGood (callM S o).2:=by
 refine ⟨?_,?_,h.ok.call h.nd o,h.qr.call o,h.qn.call h.qr o⟩
 ·rcases callM_ws S o with e | ⟨n,l,p,_,e⟩ | ⟨n,e⟩
  ·rw [e]; exact h.nd
  ·rw [e]; exact layQ_nd h.nd n l p
  ·rw [e]; exact othersQ_nd h.nd n
 ·rcases callM_ws S o with e | ⟨n,l,p,hn,e⟩ | ⟨n,e⟩
  ·rw [e]; exact h.pos
  ·rw [e]
   intro y hy
   rcases layQ_mem hy with rfl | ⟨hy,_⟩
   ·exact hn
   ·exact h.pos y hy
  ·rw [e]
   exact fun y hy => h.pos y (List.mem_filter.1 hy).1
theorem QGood.rebase {S:QS} {B:Nat→Prop} (h:QGood S):QGood { S with B:=B }:=⟨h.nd,h.pos,h.ok.rebase,h.qr.rebase,h.qn.same rfl rfl⟩
structure Rel (S:QS) (P:List (Int × Nat)) (ws:List WI) (gv:Int):Prop where
 I:P=prI S.I
 g:gv=S.g
 w:S.ws=ws.map wq
theorem pair_inj {α β:Type} {f:α→β} {ws:List α} (hd:ws.Pairwise fun a b => f a≠f b) {a b:α} (ha:a ∈ ws) (hb:b ∈ ws) (e:f a=f b):a=b:=by
 obtain ⟨i,hi,rfl⟩:=List.mem_iff_getElem.1 ha
 obtain ⟨j,hj,rfl⟩:=List.mem_iff_getElem.1 hb
 rcases Nat.lt_trichotomy i j with h | h | h
 ·exact absurd e (List.pairwise_iff_getElem.1 hd i j hi hj h)
 ·subst h; rfl
 ·exact absurd e.symm (List.pairwise_iff_getElem.1 hd j i hj hi h)
theorem findQ_wq (ws:List WI) (n:Int):findQ (ws.map wq) n=(findW ws n).map wq:=by
 unfold findQ findW
 rw [List.find?_map]
 rfl
section
variable {S:QS} {P:List (Int × Nat)} {ws:List WI} {gv:Int}
theorem Rel.look (h:Rel S P ws gv) (n:Int):lookQ S.ws n=(findW ws n).map fun y => (y.l,y.p):=by
 unfold lookQ
 rw [h.w,findQ_wq]
 cases findW ws n <;> rfl
theorem Rel.cur (h:Rel S P ws gv) {n:Int} {z:WI} (hf:findW ws n=some z):curQ S.ws n=(z.l,z.p):=by
 unfold curQ
 rw [h.look,hf]; rfl
theorem Rel.cur0 (h:Rel S P ws gv) {n:Int} (hf:findW ws n=none):curQ S.ws n=([],false):=by
 unfold curQ
 rw [h.look,hf]; rfl
theorem Rel.nd (h:Rel S P ws gv) (hg:QGood S):ws.Pairwise fun a b => a.n≠b.n:=by
 have:=hg.nd
 rw [h.w,List.pairwise_map] at this
 exact this
theorem Rel.pos (h:Rel S P ws gv) (hg:QGood S):∀ y ∈ ws,1≤y.n:=fun y hy => hg.pos (wq y) (by rw [h.w]; exact List.mem_map_of_mem hy)
theorem Rel.may (h:Rel S P ws gv) (n:Int):mayR ws n=openE S n:=by
 unfold mayR openE
 rcases hf:findW ws n with _ | z
 ·rw [h.cur0 hf]; rfl
 ·rw [h.cur hf]
theorem Rel.puts (h:Rel S P ws gv):putsR ws=putsW S.ws:=by
 unfold putsR putsW
 rw [h.w,List.map_map]
 rfl
theorem Rel.len (h:Rel S P ws gv):P.length=S.I.length:=by rw [h.I]; unfold prI; rw [List.length_map]
theorem Rel.room (h:Rel S P ws gv):roomR P ws gv=roomQ S:=by
 unfold roomR roomQ
 rw [h.len,h.puts,h.g]
theorem NumL.get:∀ (L:List Int) (k:Int),NumL k L→∀ i (hi:i < L.length),L[i]'hi=k + (i:Nat)
 | x :: r,k,h,0,_ => by rw [List.getElem_cons_zero,h.1]; simp
 | x :: r,k,h,i + 1,hi => by
  rw [List.getElem_cons_succ,NumL.get r (k + 1) h.2 i (by simpa using hi)]
  push_cast
  omega
theorem QN.inj (h:QN S) {x y:IT} (hx:x ∈ S.I) (hy:y ∈ S.I) (e:x.n=y.n):x=y:=by
 obtain ⟨i,hi,rfl⟩:=List.mem_iff_getElem.1 hx
 obtain ⟨j,hj,rfl⟩:=List.mem_iff_getElem.1 hy
 have a:=NumL.get _ _ h.num i (by rw [List.length_map]; exact hi)
 have b:=NumL.get _ _ h.num j (by rw [List.length_map]; exact hj)
 rw [List.getElem_map] at a b
 obtain rfl:i=j:=by omega
 rfl
theorem hasT_iff {l:List Ch} {k:Int}:hasT l k=true ↔ ∃ c ∈ tkL l,c.y=k:=by
 unfold hasT tkL
 rw [List.any_eq_true]
 constructor
 ·rintro ⟨c,hc,h⟩
  simp at h
  exact ⟨c,List.mem_filter.2 ⟨hc,by simpa using h.1⟩,h.2⟩
 ·rintro ⟨c,hc,h⟩
  obtain ⟨h1,h2⟩:=List.mem_filter.1 hc
  exact ⟨c,h1,by simp at h2; simp [h2,h]⟩
theorem findW_of (hd:ws.Pairwise fun a b => a.n≠b.n) {y:WI} (hy:y ∈ ws):findW ws y.n=some y:=by
 rcases hf:findW ws y.n with _ | z
 ·unfold findW at hf
  rw [List.find?_eq_none] at hf
  exact absurd (decide_eq_true rfl) (hf y hy)
 ·obtain ⟨h1,h2⟩:=findW_mem hf
  rw [pair_inj hd h1 hy h2]
theorem Rel.tak (h:Rel S P ws gv) (hg:QGood S):∀ x ∈ S.I,takR ws x.n=x.t:=fun x hx => by
 have hw:∀ y ∈ ws,∀ k,hasT y.l k=true ↔ ∃ x' ∈ S.I,x'.t=y.n∧x'.n=k:=fun y hy k => by
  have htk:=hg.qr.tk y.n (h.pos hg y hy)
  rw [h.cur (findW_of (h.nd hg) hy)] at htk
  dsimp only at htk
  rw [hasT_iff,htk]
  constructor
  ·rintro ⟨c,hc,e⟩
   obtain ⟨x',hx',rfl⟩:=List.mem_map.1 hc
   obtain ⟨h1,h2⟩:=List.mem_filter.1 hx'
   exact ⟨x',h1,by simpa using h2,e⟩
  ·rintro ⟨x',h1,h2,e⟩
   exact ⟨chOf x',List.mem_map_of_mem (List.mem_filter.2 ⟨h1,by simpa using h2⟩),e⟩
 unfold takR
 split
 ·rename_i y hf
  have hy:=List.mem_of_find?_eq_some hf
  obtain ⟨x',h1,h2,h3⟩:=(hw y hy x.n).1 (List.find?_some (p:=fun y:WI => hasT y.l x.n) hf)
  rw [hg.qn.inj hx h1 h3.symm,h2]
 ·rename_i hf
  rw [List.find?_eq_none] at hf
  obtain ⟨P0,F,n,e,hF,hP,hn⟩:=hg.qr.pre
  have hx':=hx
  rw [e] at hx'
  rcases List.mem_append.1 hx' with h1 | h1
  ·have ht:=hP x h1
   have htk:=hg.qr.tk n hn
   have hm:chOf x ∈ (byI S.I n).map chOf:=List.mem_map_of_mem (List.mem_filter.2 ⟨hx,by simpa using ht⟩)
   rw [← htk] at hm
   rcases hfw:findW ws n with _ | z
   ·rw [h.cur0 hfw] at hm; simp [tkL] at hm
   ·have hz:=findW_mem hfw
    refine absurd ((hw z hz.1 x.n).2 ⟨x,hx,ht.trans hz.2.symm,rfl⟩) ?_
    simpa using hf z hz.1
  ·exact (hF x h1).symm
end
theorem kept_eq (ws:List WI) (n:Int):∀ L:List IT,(∀ x ∈ L,takR ws x.n=x.t)→keptR ws n (prI L)=prI (keptI L n)
 | [],_ => rfl
 | x :: r,h => by
  have hx:=h x (List.mem_cons_self ..)
  have ih:=kept_eq ws n r fun y hy => h y (List.mem_cons_of_mem _ hy)
  unfold keptR prI keptI at ih ⊢
  rw [List.map_cons,List.filter_cons,List.filter_cons,ih]
  dsimp only
  rw [hx]
  by_cases e:x.t=n
  ·simp [e]
  ·simp [e]
def notBy (n:Int) (x:IT):Bool:=decide (x.t≠n)
theorem next_eq (ws:List WI) (n:Int):∀ L:List IT,(∀ x ∈ L,takR ws x.n=x.t)→nextR ws n (prI L)=(L.find? (notBy n)).map fun x => (x.n,x.v)
 | [],_ => rfl
 | x :: r,h => by
  have hx:=h x (List.mem_cons_self ..)
  have ih:=next_eq ws n r fun y hy => h y (List.mem_cons_of_mem _ hy)
  have e0:prI (x :: r)=(x.n,x.v) :: prI r:=rfl
  rw [e0]
  unfold nextR
  dsimp only
  rw [hx,List.find?_cons]
  by_cases e:x.t=n
  ·rw [if_pos e,ih]; simp [notBy,e]
  ·rw [if_neg e]; simp [notBy,e]
theorem right_eq (ws:List WI):∀ (l:List Ch) (L:List IT),(∀ x ∈ L,takR ws x.n=x.t)→rightL ws (prI L) l=fitsQ L l
 | [],L,_ => by cases L <;> rfl
 | c :: l,L,h => by
  unfold rightL fitsQ
  by_cases h3:c.k=3
  ·rw [if_pos h3,if_pos h3,right_eq ws l L h]
  ·rw [if_neg h3,if_neg h3]
   by_cases h4:c.k=4
   ·rw [if_pos h4,if_pos h4]
    match L,h with
    | [],_ => rfl
    | x :: r,h =>
     have hx:=h x (List.mem_cons_self ..)
     have ih:=right_eq ws l r fun y hy => h y (List.mem_cons_of_mem _ hy)
     have e0:prI (x :: r)=(x.n,x.v) :: prI r:=rfl
     rw [e0]
     dsimp only
     rw [ih]
     unfold eqIT
     by_cases e:x.n=c.y
     ·rw [← e,hx]
      cases (x.v == c.v) <;> cases (x.t == 0) <;> simp
     ·have e':(x.n == c.y)=false:=by simpa using e
      rw [e']; simp
   ·rw [if_neg h4,if_neg h4]
theorem front_find (L:List IT) (n:Int):match L.find? (notBy n) with
  | none => frontR L n=(0,140)
  | some x => if x.t=0 then ∃ i,L[i]?=some x∧frontR L n=(i,0) else frontR L n=(0,120):=by
 have hix:∀ x ∈ ixs L,x.2 ∈ L:=fun x hx => by
  obtain ⟨i,hi,rfl⟩:=List.mem_iff_getElem.1 hx
  have hl:i < L.length:=by have:(ixs L).length=L.length:=ixsF_len L 0; omega
  obtain ⟨_,e⟩:=ixs_get L i hl
  rw [e]; exact List.getElem_mem hl
 split
 ·rename_i hf
  rw [List.find?_eq_none] at hf
  exact front_none fun x hx => by simpa [notBy] using hf x.2 (hix x hx)
 ·rename_i x hf
  rw [List.find?_eq_some_iff_getElem] at hf
  obtain ⟨h1,i,hi,rfl,hj⟩:=hf
  have:=front_at (n:=n) hi (fun x hx => by
   rw [List.mem_take_iff_getElem] at hx
   obtain ⟨j,hj2,rfl⟩:=hx
   obtain ⟨_,e⟩:=ixs_get L j (by omega)
   rw [e]
   simpa [notBy] using hj j (by omega)) (by simpa [notBy] using h1)
  split
  ·rename_i h0
   rw [if_pos h0] at this
   exact ⟨i,List.getElem?_eq_getElem hi,this⟩
  ·rename_i h0
   rw [if_neg h0] at this
   exact this
theorem turn_pair {ws:List WI} {z:WI} (h:(turnW ws z).Pairwise fun a b => a.q≠b.q):ws.Pairwise fun a b => a.q≠b.q:=by
 unfold turnW at h
 rw [List.pairwise_map] at h
 refine h.imp fun {a b} hab => ?_
 by_cases e1:a.q=z.q
 ·by_cases e2:b.q=z.q
  ·rw [if_pos e1,if_pos e2] at hab; exact absurd rfl hab
  ·rw [if_pos e1,if_neg e2] at hab; rw [e1]; exact hab
 ·by_cases e2:b.q=z.q
  ·rw [if_neg e1,if_pos e2] at hab; rw [e2]; exact hab
  ·rw [if_neg e1,if_neg e2] at hab; exact hab
theorem turn_none (ws:List WI) (z:WI) (h:∀ y ∈ ws,y.q≠z.q):turnW ws z=ws:=by
 unfold turnW
 conv => rhs; rw [← List.map_id ws]
 exact List.map_congr_left fun y hy => by rw [if_neg (h y hy)]; rfl
section
variable {S:QS} {P:List (Int × Nat)} {ws:List WI} {gv:Int}
theorem Rel.turn (h:Rel S P ws gv) (hg:QGood S) {n:Int} {z z':WI} (hd:(turnW ws z').Pairwise fun a b => a.q≠b.q) (hf:findW ws n=some z) (hq:z'.q=z.q) (hn:z'.n=n):layQ S.ws n z'.l z'.p=(turnW ws z').map wq:=by
 have hq':=turn_pair hd
 obtain ⟨hz,hzn⟩:=findW_mem hf
 unfold layQ
 rw [h.w,findQ_wq,hf,if_pos (show (Option.map wq (some z)).isSome=true from rfl)]
 unfold turnW
 rw [List.map_map,List.map_map]
 refine List.map_congr_left fun y hy => ?_
 simp only [Function.comp]
 by_cases e:y.q=z'.q
 ·obtain rfl:=pair_inj hq' hy hz (e.trans hq)
  rw [if_pos e,if_pos (show (wq y).n=n from hzn),← hn]; rfl
 ·rw [if_neg e,if_neg (fun e2 => e ?_)]
  have e2:y.n=n:=e2
  obtain rfl:=pair_inj (h.nd hg) hy hz (e2.trans hzn.symm)
  exact hq.symm
theorem Rel.snoc (h:Rel S P ws gv) {n:Int} {z':WI} (hf:findW ws n=none) (hn:z'.n=n):layQ S.ws n z'.l z'.p=(ws ++ [z']).map wq:=by
 unfold layQ
 rw [h.w,findQ_wq,hf,if_neg (by simp),List.map_append,← hn]; rfl
theorem Rel.othersW (h:Rel S P ws gv) (n:Int):othersQ S.ws n=(othersW ws n).map wq:=by
 unfold othersQ Qu.othersW
 rw [h.w,List.filter_map]; rfl
end
end Go.Proofs.YtlliaihmfimdoaaGreat.Qu


namespace Go.Proofs.YtlliaihmfimdoaaGreat.Qu
open Go.RowKit Go.Maps Go.Joins Go.Deep
theorem prI_give (L:List IT) (i:Nat) (n:Int):prI (giveI L i n)=prI L:=by
 unfold prI giveI
 refine List.ext_getElem? fun j => ?_
 rw [List.getElem?_map,List.getElem?_map,List.getElem?_modify]
 by_cases e:i=j
 ·subst e
  cases L[i]? <;> simp
 ·cases L[j]? <;> simp [e]
theorem prI_free (L:List IT) (n:Int):prI (L.map (freeI n))=prI L:=by
 unfold prI
 rw [List.map_map]
 refine List.map_congr_left fun x _ => ?_
 simp only [Function.comp]
 unfold freeI
 split <;> rfl
theorem prI_given (L:List IT) (n:Int) (k:Nat):prI (givenI L n k)=prI L:=by
 unfold prI givenI
 rw [List.map_append,List.map_map]
 conv => rhs; rw [← List.take_append_drop k L,List.map_append]
 rfl
theorem othersW_len (ws:List WI) (n:Int):(othersW ws n).length≤ws.length:=List.length_filter_le _ _
theorem othersW_none {ws:List WI} {n:Int} (h:findW ws n=none):othersW ws n=ws:=by
 unfold findW at h
 rw [List.find?_eq_none] at h
 unfold othersW
 rw [List.filter_eq_self]
 intro y hy
 have:=h y hy
 simpa using this
end Go.Proofs.YtlliaihmfimdoaaGreat.Qu

