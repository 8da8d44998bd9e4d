/- Parts Cd Ce Cf of one proof. -/
import Derived.Test.YtlliaihmfimdoaaGreatMg16
set_option linter.unusedSimpArgs false
set_option linter.unusedVariables false
namespace Go.Proofs.YtlliaihmfimdoaaGreat
open Go.RowKit Go.Maps Go.Joins Go.Deep
theorem findW_mem {ws:List WI} {n:Int} {y:WI} (h:findW ws n=some y):y ∈ ws∧y.n=n:=by
 unfold findW at h
 exact ⟨List.mem_of_find?_eq_some h,by simpa using List.find?_some h⟩
theorem findW_snoc (ws:List WI) (z:WI) (m:Int):findW (ws ++ [z]) m=(findW ws m).or (if z.n=m then some z else none):=by
 unfold findW
 rw [List.find?_append]
 congr 1
 by_cases e:z.n=m
 ·simp [e]
 ·simp [e]
theorem findW_others (ws:List WI) (n m:Int):findW (othersW ws n) m=if m=n then none else findW ws m:=by
 unfold findW othersW
 rw [List.find?_filter]
 split
 ·rename_i e
  subst e
  rw [List.find?_eq_none]
  intro y hy
  simp
 ·rename_i hmn
  congr 1
  funext y
  by_cases e:y.n=m
  ·simp [e,hmn]
  ·simp [e]
theorem turn_pair {ws:List WI} {z:WI} (h:(turnW ws z).Pairwise fun a b => a.q≠b.q):ws.Pairwise fun a b => a.q≠b.q:=by
 unfold turnW at h
 rw [List.pairwise_map] at h
 refine h.imp fun {a b} hab => ?_
 by_cases e1:a.q=z.q
 ·by_cases e2:b.q=z.q
  ·rw [if_pos e1,if_pos e2] at hab; exact absurd rfl hab
  ·rw [if_pos e1,if_neg e2] at hab; rw [e1]; exact hab
 ·by_cases e2:b.q=z.q
  ·rw [if_neg e1,if_pos e2] at hab; rw [e2]; exact hab
  ·rw [if_neg e1,if_neg e2] at hab; exact hab
theorem turn_none:∀ (ws:List WI) (z:WI),(∀ y ∈ ws,y.q≠z.q)→turnW ws z=ws:=fun ws z h => by
 unfold turnW
 conv => rhs; rw [← List.map_id ws]
 exact List.map_congr_left fun y hy => by rw [if_neg (h y hy)]; rfl
theorem findW_turn:∀ (ws:List WI) (n:Int) (z z':WI),ws.Pairwise (fun a b => a.q≠b.q)→findW ws n=some z→z'.q=z.q→z'.n=n→∀ m,findW (turnW ws z') m=if m=n then some z' else findW ws m
 | [],n,z,z',_,h,_,_,m => by unfold findW at h; cases h
 | y :: ws,n,z,z',hd,h,hq,hn,m => by
  rw [List.pairwise_cons] at hd
  have hc:turnW (y :: ws) z'=(if y.q=z'.q then z' else y) :: turnW ws z':=rfl
  have hf:∀ (a:WI) (r:List WI) (k:Int),findW (a :: r) k=if a.n=k then some a else findW r k:=fun a r k => by
   unfold findW
   rw [List.find?_cons]
   by_cases e:a.n=k
   ·simp [e]
   ·simp [e]
  rw [hf] at h
  rw [hc]
  by_cases e:y.n=n
  ·rw [if_pos e] at h
   cases h
   rw [if_pos hq.symm,turn_none ws z' (fun x hx e' => hd.1 x hx (by rw [e',hq])),hf,hf,hn]
   by_cases em:m=n
   ·rw [if_pos em.symm,if_pos em]
   ·rw [if_neg (fun e' => em e'.symm),if_neg em,if_neg (fun e' => em (e'.symm.trans e))]
  ·rw [if_neg e] at h
   have hz:=(findW_mem h).1
   have hyq:¬ y.q=z'.q:=fun e' => hd.1 z hz (e'.trans hq)
   rw [if_neg hyq,hf,hf,findW_turn ws n z z' hd.2 h hq hn m]
   by_cases em:m=n
   ·rw [if_pos em,if_pos em,if_neg (fun e' => e (e'.trans em))]
   ·rw [if_neg em,if_neg em]
theorem hasL_iff {L:List LRow} {o:Int}:hasL L o=true ↔ ∃ x ∈ L,x.2.1=o:=by unfold hasL; simp
theorem hasL_eq {L L':List LRow} {o o':Int} (h:(∃ x ∈ L,x.2.1=o) ↔ ∃ x ∈ L',x.2.1=o'):hasL L o=hasL L' o':=by
 rw [Bool.eq_iff_iff,hasL_iff,hasL_iff]; exact h
theorem hasL_put (L:List LRow) (k o:Int) (a:Bool) (m:Int):hasL (putL L k o a) m=if m=o then true else hasL L m:=by
 split
 ·rename_i e
  exact hasL_iff.2 ⟨_,put_new L k o a,e.symm⟩
 ·rename_i e
  refine hasL_eq ⟨fun ⟨x,hx,h⟩ => ?_,fun ⟨x,hx,h⟩ => ⟨x,put_old hx (fun h2 => e (h.symm.trans h2.2)),h⟩⟩
  rcases put_mem hx with rfl | h2
  ·exact absurd h.symm e
  ·exact ⟨x,h2.1,h⟩
theorem hasL_drop (L:List LRow) (o m:Int):hasL (dropL L o) m=if m=o then false else hasL L m:=by
 unfold dropL
 split
 ·rename_i e
  subst e
  rw [Bool.eq_false_iff]
  intro h
  obtain ⟨x,hx,h⟩:=hasL_iff.1 h
  rw [List.mem_filter] at hx
  simp [h] at hx
 ·rename_i e
  refine hasL_eq ⟨fun ⟨x,hx,h⟩ => ⟨x,(List.mem_filter.1 hx).1,h⟩,fun ⟨x,hx,h⟩ => ⟨x,List.mem_filter.2 ⟨hx,by simp [h,e]⟩,h⟩⟩
theorem hasL_take {L:List LRow} {o k:Int} {a:Bool} (m:Int) (h:(takeL L o k a).1=0):hasL (takeL L o k a).2 m=if m=o then true else hasL L m:=by
 have:=(take_ok (L:=L) (L':=(takeL L o k a).2) (r:=(takeL L o k a).1) rfl h).2
 rw [this]; exact hasL_put _ _ _ _ _
theorem take_not' {L:List LRow} {o k:Int} {a:Bool} (h:¬ (takeL L o k a).1=0):(takeL L o k a).2=L:=(take_not (L:=L) (L':=(takeL L o k a).2) (r:=(takeL L o k a).1) rfl h).1
theorem hasL_takeAll:∀ (l:List Ch) (L:List LRow) (n m:Int),hasL (takeAll L n l).2 m=if m=n then (if (takeAll L n l).1=0 then (hasL L n || decide (l≠[])) else false) else hasL L m
 | [],L,n,m => by
  simp only [takeAll]
  split
  ·rename_i e; simp [e]
  ·rfl
 | x :: r,L,n,m => by
  by_cases h0:(takeL L n x.y true).1=0
  ·have e:takeAll L n (x :: r)=takeAll (takeL L n x.y true).2 n r:=if_pos h0
   rw [e,hasL_takeAll r _ n m,hasL_take n h0,hasL_take m h0]
   by_cases e:m=n
   ·simp [e]
   ·simp [e]
  ·have e:takeAll L n (x :: r)=((takeL L n x.y true).1,dropL (takeL L n x.y true).2 n):=if_neg h0
   rw [e]
   dsimp only
   rw [hasL_drop,take_not' h0,if_neg h0]
theorem takeAll_ok:∀ (l:List Ch) (L:List LRow) (n:Int),LOk L→NoClash L→i64ok n→(∀ x ∈ l,keyB x.y=true)→LOk (takeAll L n l).2∧NoClash (takeAll L n l).2
 | [],L,n,h1,h2,_,_ => ⟨h1,h2⟩
 | x :: r,L,n,h1,h2,hn,hk => by
  simp only [takeAll]
  have a1:=takeL_ok h1 (k:=x.y) (o:=n) (keyB_ok (hk x (by simp))) hn true
  have a2:=h2.take n x.y true
  split
  ·exact takeAll_ok r _ n a1 a2 hn fun y hy => hk y (by simp [hy])
  ·exact ⟨dropL_ok a1 n,a2.drop n⟩
theorem valP_other (P:List (Int × Nat)) (y k:Int):valP (othersP P y) k=if k=y then (0,false) else valP P k:=by
 unfold valP othersP
 rw [List.find?_filter]
 split
 ·rename_i x hx
  have h1:=List.find?_some hx
  simp at h1
  rw [if_neg (fun e => h1.1 (h1.2.trans e))]
  have:P.find? (fun x => decide (x.1=k))=some x:=by
   rw [← hx]; congr 1; funext z
   by_cases e:z.1=k
   ·simp [e]; intro e2; exact h1.1 (h1.2.trans e2)
   ·simp [e]
  rw [this]
 ·rename_i hx
  split
  ·rfl
  ·rename_i hky
   have:P.find? (fun x => decide (x.1=k))=none:=by
    rw [← hx]; congr 1; funext z
    by_cases e:z.1=k
    ·simp [e,hky]
    ·simp [e]
   rw [this]
theorem valP_snoc (P:List (Int × Nat)) (y:Int) (v:Nat) (k:Int) (h:valP P y=(0,false)):valP (P ++ [(y,v)]) k=if k=y then (v,true) else valP P k:=by
 unfold valP at h ⊢
 rw [List.find?_append]
 by_cases e:k=y
 ·subst e
  have:P.find? (fun x => decide (x.1=k))=none:=by
   rcases hh:P.find? (fun x => decide (x.1=k)) with _ | z
   ·exact hh
   ·rw [hh] at h; simp at h
  rw [this]; simp
 ·rw [if_neg e]
  have:[(y,v)].find? (fun x => decide (x.1=k))=none:=by simp; exact fun h => e h.symm
  rw [this]; simp
theorem valP_set (P:List (Int × Nat)) (c:Ch) (k:Int):valP (setPr P c) k=if k=c.y then (if c.k=1 then (c.v,true) else (0,false)) else valP P k:=by
 unfold setPr
 by_cases h:c.k=1
 ·rw [if_pos h,valP_snoc _ _ _ _ (by rw [valP_other,if_pos rfl]),valP_other,if_pos h]
  split <;> rfl
 ·rw [if_neg h,valP_other,if_neg h]
theorem fold_val:∀ (l:List Ch) (P:List (Int × Nat)) (V:Nat→Nat × Bool),(∀ k:Nat,k < 16→V k=valP P (k:Int))→(∀ c ∈ l,kindB c=true∧keyB c.y=true)→∀ k:Nat,k < 16→(l.foldl setV V) k=valP (l.foldl setPr P) (k:Int)
 | [],P,V,h,_,k,hk => h k hk
 | c :: l,P,V,h,hc,k,hk => by
  refine fold_val l (setPr P c) (setV V c) (fun j hj => ?_) (fun x hx => hc x (by simp [hx])) k hk
  obtain ⟨h1,h2⟩:=hc c (by simp)
  obtain ⟨i,hi,e⟩:=keyB_nat h2
  rw [valP_set]
  unfold setV
  have e2:c.y.toNat=i:=by rw [e]; rfl
  rw [e2]
  by_cases ej:j=i
  ·subst ej
   rw [if_pos rfl,if_pos e.symm]
   unfold kindB at h1
   by_cases hk1:c.k=1
   ·rw [if_pos hk1,hk1]; rfl
   ·rw [if_neg hk1]
    simp [hk1] at h1
    rw [h1.2,h1.1]; rfl
  ·rw [if_neg ej,if_neg (by rw [e]; omega)]; exact h j hj
structure Rel (S:KS) (P:List (Int × Nat)) (ws:List WI):Prop where
 V:∀ k:Nat,k < 16→S.V k=valP P (k:Int)
 P:POk P
 ok:LOk S.L
 nc:NoClash S.L
 no:∀ n,findW ws n=none→S.W n=none∧hasL S.L n=false
 yes:∀ n y,findW ws n=some y→(y.l=[]→S.W n=none∧y.p=false∧hasL S.L n=true)∧(y.l≠[]→S.W n=some (y.l,y.p))
 ll:∀ y ∈ ws,RightL y.l
theorem Rel.cur0 {S:KS} {P:List (Int × Nat)} {ws:List WI} (h:Rel S P ws) {n:Int} (hf:findW ws n=none):curW S n=([],false):=by
 unfold curW; rw [(h.no n hf).1]; rfl
theorem Rel.cur {S:KS} {P:List (Int × Nat)} {ws:List WI} (h:Rel S P ws) {n:Int} {z:WI} (hf:findW ws n=some z):curW S n=(z.l,z.p):=by
 unfold curW
 by_cases e:z.l=[]
 ·obtain ⟨h1,h2,_⟩:=(h.yes n z hf).1 e
  rw [h1,e,h2]; rfl
 ·rw [(h.yes n z hf).2 e]; rfl
theorem Rel.cur_list {S:KS} {P:List (Int × Nat)} {ws:List WI} (h:Rel S P ws) (n:Int):(curW S n).1=listW ws n∧RightL (listW ws n):=by
 unfold listW
 rcases hf:findW ws n with _ | z
 ·rw [h.cur0 hf]; exact ⟨rfl,RightL.nil⟩
 ·rw [h.cur hf]; exact ⟨rfl,h.ll z (findW_mem hf).1⟩
theorem Rel.busy {S:KS} {P:List (Int × Nat)} {ws:List WI} (h:Rel S P ws) (n:Int):busyB S n=(findW ws n).isSome:=by
 unfold busyB
 rcases hf:findW ws n with _ | z
 ·obtain ⟨h1,h2⟩:=h.no n hf
  rw [h1,h2]; rfl
 ·by_cases e:z.l=[]
  ·rw [((h.yes n z hf).1 e).2.2]; simp
  ·rw [(h.yes n z hf).2 e]; simp
theorem Rel.val {S:KS} {P:List (Int × Nat)} {ws:List WI} (h:Rel S P ws) (y:Int):valM S y=valP P y:=by
 unfold valM
 rcases hk:keyB y with _ | _
 ·rw [if_neg (by simp)]
  rw [valP_none]
  intro i hi e
  have:=h.P.key _ (List.getElem_mem hi)
  rw [e,hk] at this
  cases this
 ·obtain ⟨k,hk2,rfl⟩:=keyB_nat hk
  rw [if_pos rfl]
  exact h.V k hk2
theorem Rel.others {S:KS} {P P':List (Int × Nat)} {ws:List WI} (h:Rel S P ws) (n:Int) {V:Nat→Nat × Bool} (hV:∀ k:Nat,k < 16→V k=valP P' (k:Int)) (hP:POk P') {W:Int→Option (List Ch × Bool)} (hW:W n=none) (hWo:∀ m,m≠n→W m=S.W m) {B:Nat→Prop}:Rel ⟨B,V,W,dropL S.L n⟩ P' (othersW ws n) where
 V:=hV
 P:=hP
 ok:=dropL_ok h.ok n
 nc:=h.nc.drop n
 no:=fun m hf => by
  rw [findW_others] at hf
  dsimp only
  rw [hasL_drop]
  by_cases e:m=n
  ·subst e; exact ⟨hW,if_pos rfl⟩
  ·rw [if_neg e] at hf ⊢; rw [hWo m e]; exact h.no m hf
 yes:=fun m y hf => by
  rw [findW_others] at hf
  dsimp only
  rw [hasL_drop]
  by_cases e:m=n
  ·rw [if_pos e] at hf; cases hf
  ·rw [if_neg e] at hf ⊢; rw [hWo m e]; exact h.yes m y hf
 ll:=fun y hy => h.ll y (List.mem_filter.1 hy).1
theorem Rel.touch {S:KS} {P:List (Int × Nat)} {ws:List WI} (h:Rel S P ws) (n y:Int) (al:Bool) (q:Nat) (hn:i64ok n) :
  (openM S n y al).1=(touchM ws S.L n y al q).1∧(openM S n y al).2.L=(touchM ws S.L n y al q).2.2∧Rel (openM S n y al).2 P (touchM ws S.L n y al q).2.1∧(touchM ws S.L n y al q).2.1.length≤ws.length + 1∧(∀ z ∈ (touchM ws S.L n y al q).2.1,z ∈ ws∨(z.l=[]∧z.A=none)):=by
 by_cases hbad:n < 1∨keyB y=false
 ·have e1:openM S n y al=(1,S):=by unfold openM; rw [if_pos hbad]
  have e2:touchM ws S.L n y al q=(1,ws,S.L):=by unfold touchM; rw [if_pos hbad]
  rw [e1,e2]; exact ⟨rfl,rfl,h,by simp,fun z hz => .inl hz⟩
 ·have hy:i64ok y:=keyB_ok (by
   rcases hk:keyB y with _ | _
   ·exact absurd (.inr hk) hbad
   ·rfl)
  rcases hf:findW ws n with _ | z
  ·have e1:openM S n y al=((takeL S.L n y al).1,{ S with L:=(takeL S.L n y al).2 }):=by unfold openM; rw [if_neg hbad,h.cur0 hf]; rfl
   by_cases h0:(takeL S.L n y al).1=0
   ·have e2:touchM ws S.L n y al q=(0,ws ++ [⟨q,n,none,0,[],false⟩],(takeL S.L n y al).2):=by unfold touchM; rw [if_neg hbad,hf]; dsimp only; rw [h0,if_pos rfl]
    rw [e1,e2]
    refine ⟨h0,rfl,⟨h.V,h.P,takeL_ok h.ok hy hn al,h.nc.take n y al,fun m hm => ?_,fun m x hm => ?_,fun x hx => ?_⟩,by simp,fun x hx => ?_⟩
    ·dsimp only at hm ⊢
     rw [findW_snoc] at hm
     rw [hasL_take m h0]
     rcases hm2:findW ws m with _ | x
     ·rw [hm2] at hm
      have e:¬ m=n:=fun e => by subst e; simp at hm
      rw [if_neg e]
      exact h.no m hm2
     ·rw [hm2] at hm; simp at hm
    ·dsimp only at hm ⊢
     rw [findW_snoc] at hm
     rw [hasL_take m h0]
     rcases hm2:findW ws m with _ | x2
     ·rw [hm2] at hm
      by_cases e:n=m
      ·subst e
       simp at hm
       subst hm
       exact ⟨fun _ => ⟨(h.no n hm2).1,rfl,if_pos rfl⟩,fun e => absurd rfl e⟩
      ·simp [e] at hm
     ·rw [hm2] at hm
      simp at hm
      subst hm
      have e:¬ m=n:=fun e => by subst e; rw [hf] at hm2; cases hm2
      rw [if_neg e]
      exact h.yes m x2 hm2
    ·rcases List.mem_append.1 hx with hx | hx
     ·exact h.ll x hx
     ·simp at hx; subst hx; exact RightL.nil
    ·rcases List.mem_append.1 hx with hx | hx
     ·exact .inl hx
     ·simp at hx; subst hx; exact .inr ⟨rfl,rfl⟩
   ·have e2:touchM ws S.L n y al q=((takeL S.L n y al).1,ws,(takeL S.L n y al).2):=by unfold touchM; rw [if_neg hbad,hf]; dsimp only; rw [if_neg h0]
    rw [e1,e2]
    exact ⟨rfl,rfl,by dsimp only; rw [take_not' h0]; exact h,by simp,fun z hz => .inl hz⟩
  ·by_cases hp:z.p=true
   ·have e1:openM S n y al=(7,S):=by unfold openM; rw [if_neg hbad,h.cur hf,if_pos hp]
    have e2:touchM ws S.L n y al q=(7,ws,S.L):=by unfold touchM; rw [if_neg hbad,hf]; dsimp only; rw [if_pos hp]
    rw [e1,e2]; exact ⟨rfl,rfl,h,by simp,fun z hz => .inl hz⟩
   ·have e1:openM S n y al=((takeL S.L n y al).1,{ S with L:=(takeL S.L n y al).2 }):=by unfold openM; rw [if_neg hbad,h.cur hf,if_neg hp]
    have e2:touchM ws S.L n y al q=((takeL S.L n y al).1,ws,(takeL S.L n y al).2):=by unfold touchM; rw [if_neg hbad,hf]; dsimp only; rw [if_neg hp]
    rw [e1,e2]
    refine ⟨rfl,rfl,?_,by simp,fun z hz => .inl hz⟩
    dsimp only
    by_cases h0:(takeL S.L n y al).1=0
    ·refine ⟨h.V,h.P,takeL_ok h.ok hy hn al,h.nc.take n y al,fun m hm => ?_,fun m x hm => ?_,h.ll⟩
     ·dsimp only
      rw [hasL_take m h0,if_neg (fun e => by subst e; rw [hf] at hm; cases hm)]
      exact h.no m hm
     ·dsimp only
      rw [hasL_take m h0]
      obtain ⟨h1,h2⟩:=h.yes m x hm
      exact ⟨fun e => ⟨(h1 e).1,(h1 e).2.1,by split; rfl; exact (h1 e).2.2⟩,h2⟩
    ·rw [take_not' h0]; exact h
end Go.Proofs.YtlliaihmfimdoaaGreat


namespace Go.Proofs.YtlliaihmfimdoaaGreat
open Go.RowKit Go.Maps Go.Joins Go.Deep
theorem pos_chg (l:List Ch) (y:Int):(∀ h:posN l y < l.length,chgOf l y=some (l[posN l y]'h))∧(¬ posN l y < l.length→chgOf l y=none):=by
 refine ⟨fun h => ?_,fun h => ?_⟩
 ·refine chgOf_at h (fun i hi hlt => ?_) ?_
  ·have:=List.not_of_lt_findIdx (p:=fun z:Ch => decide (z.y=y)) (xs:=l) (i:=i) hlt
   simpa using this
  ·have:=List.findIdx_getElem (p:=fun z:Ch => decide (z.y=y)) (xs:=l) (w:=h)
   show (l[List.findIdx (fun z:Ch => decide (z.y=y)) l]'h).y=y
   simpa using this
 ·refine chgOf_none fun i hi e => ?_
  refine h ?_
  unfold posN
  exact List.findIdx_lt_length_of_exists ⟨_,List.getElem_mem hi,by simpa using e⟩
theorem withL_ne (l:List Ch) (x:Ch):withL l x≠[]:=by
 unfold withL
 split
 ·rename_i h
  intro e
  have:=congrArg List.length e
  rw [List.length_set] at this
  simp at this
  rw [this] at h
  simp at h
 ·simp
theorem Rel.turned {S:KS} {P:List (Int × Nat)} {ws:List WI} (h:Rel S P ws) {n:Int} {z z':WI} (hd:(turnW ws z').Pairwise fun a b => a.q≠b.q) (hf:findW ws n=some z) (hq:z'.q=z.q) (hn:z'.n=n) (hne:z'.l≠[]) (hR:RightL z'.l):Rel { S with W:=updW S.W n (some (z'.l,z'.p)) } P (turnW ws z'):=by
 have ht:=findW_turn ws n z z' (turn_pair hd) hf hq hn
 refine ⟨h.V,h.P,h.ok,h.nc,fun m hm => ?_,fun m x hm => ?_,fun x hx => ?_⟩
 ·rw [ht] at hm
  by_cases e:m=n
  ·rw [if_pos e] at hm; cases hm
  ·rw [if_neg e] at hm
   unfold updW
   dsimp only
   rw [if_neg e]
   exact h.no m hm
 ·rw [ht] at hm
  unfold updW
  dsimp only
  by_cases e:m=n
  ·rw [if_pos e] at hm ⊢
   cases hm
   exact ⟨fun e2 => absurd e2 hne,fun _ => rfl⟩
  ·rw [if_neg e] at hm ⊢
   exact h.yes m x hm
 ·unfold turnW at hx
  obtain ⟨y,hy,rfl⟩:=List.mem_map.1 hx
  split
  ·exact hR
  ·exact h.ll y hy
theorem othersW_len (ws:List WI) (n:Int):(othersW ws n).length≤ws.length:=List.length_filter_le _ _
theorem updW_self (W:Int→Option (List Ch × Bool)) (n:Int) (x:Option (List Ch × Bool)):updW W n x n=x:=by unfold updW; rw [if_pos rfl]
theorem updW_ne (W:Int→Option (List Ch × Bool)) (n:Int) (x:Option (List Ch × Bool)) {m:Int} (h:m≠n):updW W n x m=W m:=by unfold updW; rw [if_neg h]
end Go.Proofs.YtlliaihmfimdoaaGreat


namespace Go.Proofs.YtlliaihmfimdoaaGreat
open Go.RowKit Go.Maps Go.Joins Go.Deep
theorem Rel.drop {S:KS} {P:List (Int × Nat)} {ws:List WI} (h:Rel S P ws) (n:Int):Rel (dropM S n) P (othersW ws n):=by
 unfold dropM
 exact h.others n h.V h.P (updW_self _ _ _) (fun m hm => updW_ne _ _ _ hm)
end Go.Proofs.YtlliaihmfimdoaaGreat

