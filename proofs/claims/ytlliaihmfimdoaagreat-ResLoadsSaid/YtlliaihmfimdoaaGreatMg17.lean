/- Parts E1 E2 E3 E4 E5 E6 E7 E8 of one proof. -/
import Derived.Test.YtlliaihmfimdoaaGreatMg14
import Derived.Test.YtlliaihmfimdoaaGreatMg15
set_option linter.unusedSimpArgs false
set_option linter.unusedVariables false
namespace Go.Proofs.YtlliaihmfimdoaaGreat.Ds
open Go.Proofs.YtlliaihmfimdoaaGreat
variable {D:Value × Value × Value}
open Go.RowKit Go.Maps Go.Joins Go.Deep
structure RAt (D:Value × Value × Value) (u:World) (B x:Nat) (P:List (Int × Nat)) (ws:List WI) (L:List LRow):Prop where
 ex:∃ AP nP cP AW nW cW AL nL cL,Blk u x 38 #[.slice AP nP cP,.slice AW nW cW,.slice AL nL cL,D.1,D.2.1,D.2.2]∧nP=P.length∧nW=ws.length∧nL=L.length∧OwnPr u B AP cP P∧OwnPt u B AW cW (ws.map WI.q)∧LRows u B AL cL L
 wk:∀ y ∈ ws,B≤y.q∧Blk u y.q 147 #[.int .i64 y.n,.slice y.A y.l.length y.c,.bool y.p]∧OwnC u B y.A y.c y.l
 ds:ws.Pairwise fun a b => a.q≠b.q∧∀ r,blk a.A=some r→blk b.A≠some r
 sm:P.length≤100∧ws.length≤100∧L.length≤64∧∀ y ∈ ws,y.l.length≤100
set_option maxRecDepth 100000 in
set_option maxHeartbeats 2000000 in
theorem find_any (B x:Nat) (P:List (Int × Nat)) (ws:List WI) (L:List LRow) (n:Int) (w:World) (h:RAt D w B x P ws L) :
  Calls Tryz.prog 45 #[.pointer (some ⟨x,0,none⟩),.int .i64 n] w fun e w' => e=.returned (.pointer ((findW ws n).map fun y => ⟨y.q,0,none⟩))∧w=w':=by
 obtain ⟨AP,nP,cP,AW,nW,cW,AL,nL,cL,hk,_,hnW,_,_,hpt,_⟩:=h.ex
 have c1:=hk.cell 1
 simp only [List.getElem?_toArray,List.getElem?_cons_zero,List.getElem?_cons_succ] at c1
 have hn1:nW≤100:=by rw [hnW]; exact h.sm.2.1
 have HN:=Lib.hid hnW
 have H:=Lib.hid (And.intro hpt h.wk)
 clear hk hpt h hnW
 go_enter Tryz.func45,Tryz.ntmps45
 go_wp2_with fail
 go_loopw [5] (fun i wr => ∃ j:Nat,j≤nW∧i=.int .i64 j∧Hid (∀ i,(h:i < ws.length)→i < j→(ws[i]'h).n≠n)∧w=wr) (fun i _ => nW - (intOf i).toNat)
 case atStart => exact ⟨0,Nat.zero_le _,rfl,Lib.hid (fun i h h2 => by omega),rfl⟩
 case round =>
  obtain ⟨j,hj,rfl,hno,rfl⟩:=hrel
  by_cases hjn:j < nW
  ·have hjI:(j:Int) < (nW:Int):=by omega
   have hjL:j < ws.length:=by rw [← HN.out]; exact hjn
   have hpt:=H.out.1
   unfold OwnPt at hpt
   rw [List.length_map] at hpt
   obtain ⟨b,rfl,_,_,_,hc⟩:=row_cells hpt (by omega)
   have q0:=hc j (.pointer (some ⟨(ws[j]'hjL).q,0,none⟩)) (by unfold ptV; simp [hjL])
   have q1:=(H.out.2 _ (List.getElem_mem hjL)).2.1.cell 0
   simp only [List.getElem?_toArray,List.getElem?_cons_zero,List.getElem?_cons_succ] at q1
   have hyes:Hid ((ws[j]'hjL).n=n→findW ws n=some (ws[j]'hjL)):=Lib.hid (fun e => findW_at hjL hno.out e)
   have hstep:Hid (¬ (ws[j]'hjL).n=n→∀ i,(h:i < ws.length)→i < j + 1→(ws[i]'h).n≠n):=Lib.hid (fun h1 i hi hij => by
    by_cases e:i=j
    ·subst e; exact h1
    ·exact hno.out i hi (by omega))
   generalize ws[j]'hjL=y at q0 q1 hyes hstep
   obtain ⟨yq,yn,yA,yc,yl,yp⟩:=y
   dsimp only at q0 q1 hyes hstep
   clear hpt hc hno hjL
   by_cases h1:yn=n
   ·have HP:Hid (findW ws n=some ⟨yq,yn,yA,yc,yl,yp⟩):=Lib.hid (hyes.out h1)
    subst h1
    clear hyes hstep
    go_wp2
    go_ret
    exact ⟨by rw [HP.out]; rfl,rfl⟩
   ·have hno2:Hid (∀ i,(h:i < ws.length)→i < j + 1→(ws[i]'h).n≠n):=Lib.hid (hstep.out h1)
    have e1:(yn == n)=false:=by simp [h1]
    clear hyes hstep
    go_wp2
    go_roundw
    case rel => exact ⟨j + 1,by omega,by go_num,hno2,by first | rfl | trivial⟩
    case measure => simp [intOf]; omega
  ·have hjI:¬ (j:Int) < (nW:Int):=by omega
   have HP:Hid (findW ws n=none):=Lib.hid (findW_none fun i hi => hno.out i hi (by have:=HN.out; omega))
   clear hno
   go_wp2
   go_ret
   exact ⟨by rw [HP.out]; rfl,rfl⟩
set_option maxRecDepth 100000 in
set_option maxHeartbeats 2000000 in
theorem rvalue_any (B x:Nat) (P:List (Int × Nat)) (ws:List WI) (L:List LRow) (n:Int) (w:World) (h:RAt D w B x P ws L) :
  Calls Tryz.prog 52 #[.pointer (some ⟨x,0,none⟩),.int .i64 n] w fun e w' => e=.returned (.tuple #[.int .u64 ((valP P n).1:Nat),.bool (valP P n).2])∧w=w':=by
 obtain ⟨AP,nP,cP,AW,nW,cW,AL,nL,cL,hk,hnP,_,_,hpr,_,_⟩:=h.ex
 have c1:=hk.cell 0
 simp only [List.getElem?_toArray,List.getElem?_cons_zero,List.getElem?_cons_succ] at c1
 have hn1:nP≤100:=by rw [hnP]; exact h.sm.1
 have HN:=Lib.hid hnP
 have H:=Lib.hid hpr
 clear hk hpr h hnP
 go_enter Tryz.func52,Tryz.ntmps52
 go_wp2_with fail
 go_loopw [6] (fun i wr => ∃ j:Nat,j≤nP∧i=.int .i64 j∧Hid (∀ i,(h:i < P.length)→i < j→(P[i]'h).1≠n)∧w=wr) (fun i _ => nP - (intOf i).toNat)
 case atStart => exact ⟨0,Nat.zero_le _,rfl,Lib.hid (fun i h h2 => by omega),rfl⟩
 case round =>
  obtain ⟨j,hj,rfl,hno,rfl⟩:=hrel
  by_cases hjn:j < nP
  ·have hjI:(j:Int) < (nP:Int):=by omega
   have hjL:j < P.length:=by rw [← HN.out]; exact hjn
   have hpt:=H.out
   unfold OwnPr at hpt
   obtain ⟨b,rfl,_,_,_,hc⟩:=row_cells hpt (by omega)
   have q0:=hc (j * 2) _ (prV_at P j hjL).1
   have q1:=hc (j * 2 + 1) _ (prV_at P j hjL).2
   have hyes:Hid ((P[j]'hjL).1=n→valP P n=((P[j]'hjL).2,true)):=Lib.hid (fun e => valP_at hjL hno.out e)
   have hstep:Hid (¬ (P[j]'hjL).1=n→∀ i,(h:i < P.length)→i < j + 1→(P[i]'h).1≠n):=Lib.hid (fun h1 i hi hij => by
    by_cases e:i=j
    ·subst e; exact h1
    ·exact hno.out i hi (by omega))
   generalize P[j]'hjL=y at q0 q1 hyes hstep
   obtain ⟨yk,yv⟩:=y
   dsimp only at q0 q1 hyes hstep
   clear hpt hc hno hjL
   by_cases h1:yk=n
   ·have HP:Hid (valP P n=(yv,true)):=Lib.hid (hyes.out h1)
    subst h1
    clear hyes hstep
    go_wp2
    go_ret2
    exact ⟨by rw [HP.out]; rfl,rfl⟩
   ·have hno2:Hid (∀ i,(h:i < P.length)→i < j + 1→(P[i]'h).1≠n):=Lib.hid (hstep.out h1)
    have e1:(yk == n)=false:=by simp [h1]
    clear hyes hstep
    go_wp2
    go_roundw
    case rel => exact ⟨j + 1,by omega,by go_num,hno2,by first | rfl | trivial⟩
    case measure => simp [intOf]; omega
  ·have hjI:¬ (j:Int) < (nP:Int):=by omega
   have HP:Hid (valP P n=(0,false)):=Lib.hid (valP_none fun i hi => hno.out i hi (by have:=HN.out; omega))
   clear hno
   go_wp2
   go_ret2
   exact ⟨by rw [HP.out]; rfl,rfl⟩
end Go.Proofs.YtlliaihmfimdoaaGreat.Ds


namespace Go.Proofs.YtlliaihmfimdoaaGreat.Ds
open Go.Proofs.YtlliaihmfimdoaaGreat
variable {D:Value × Value × Value}
open Go.RowKit Go.Maps Go.Joins Go.Deep
theorem wk_kept {u u':World} {B x:Nat} {ws:List WI} {cs:Array Value} (hw:∀ y ∈ ws,B≤y.q∧Blk u y.q 147 #[.int .i64 y.n,.slice y.A y.l.length y.c,.bool y.p]∧OwnC u B y.A y.c y.l) (hx:Blk u x 38 cs) (hg:u.grownBy u' (some x)) :
  ∀ y ∈ ws,B≤y.q∧Blk u' y.q 147 #[.int .i64 y.n,.slice y.A y.l.length y.c,.bool y.p]∧OwnC u' B y.A y.c y.l:=fun y hy => by
 obtain ⟨h1,h2,h3⟩:=hw y hy
 exact ⟨h1,h2.kept hg (fun e => h2.ne hx (by decide) (by injection e)),own_kept h3 hx (by decide) hg⟩
theorem RAt.rof {w:World} {B x:Nat} {P:List (Int × Nat)} {ws:List WI} {L:List LRow} (h:RAt D w B x P ws L):∃ cs,ROf w B x 2 38 cs L∧∀ w' v L',ROf w' B x 2 38 (cs.setIfInBounds 2 v) L'→L'.length≤64→w.grownBy w' (some x)→RAt D w' B x P ws L':=by
 obtain ⟨AP,nP,cP,AW,nW,cW,AL,nL,cL,hk,hnP,hnW,hnL,hpr,hpt,hl⟩:=h.ex
 refine ⟨_,⟨AL,nL,cL,Lib.hid hnL,hk,rfl,hl⟩,fun w' v L' h' hl' hg => ?_⟩
 obtain ⟨A',n',c',hn',hk',hcs',hl2⟩:=h'
 have hv:v=.slice A' n' c':=by simpa using hcs'
 subst hv
 exact ⟨⟨AP,nP,cP,AW,nW,cW,A',n',c',hk',hnP,hnW,hn'.out,own_kept hpr hk (by decide) hg,own_kept hpt hk (by decide) hg,hl2⟩,wk_kept h.wk hk hg,h.ds,h.sm.1,h.sm.2.1,hl',h.sm.2.2.2⟩
theorem RAt.below {w w':World} {B x:Nat} {P:List (Int × Nat)} {ws:List WI} {L:List LRow} (h:RAt D w B x P ws L) (hb:Below w.heap.size w w'):RAt D w' B x P ws L:=by
 obtain ⟨AP,nP,cP,AW,nW,cW,AL,nL,cL,hk,hnP,hnW,hnL,hpr,hpt,hl⟩:=h.ex
 have hg:=lbelow_grown hb (some x)
 exact ⟨⟨AP,nP,cP,AW,nW,cW,AL,nL,cL,hk.below hb hk.lt,hnP,hnW,hnL,own_kept hpr hk (by decide) hg,own_kept hpt hk (by decide) hg,hl.below hb⟩,wk_kept h.wk hk hg,h.ds,h.sm⟩
theorem RAt.add {w:World} {B x:Nat} {P:List (Int × Nat)} {ws:List WI} {L:List LRow} (h:RAt D w B x P ws L) (hB:B≤w.heap.size) (n:Int) (hl:ws.length < 100) :
  ∃ AW nW cW A3 c3 w3,(Blk w x 38 #[(w.cell? ⟨x,0,none⟩).getD undef,.slice AW nW cW,(w.cell? ⟨x,2,none⟩).getD undef,D.1,D.2.1,D.2.2])∧nW≤100 ∧
   (Builtin.append_ #[27,27] 27 #[.slice AW nW cW,.slice (some ⟨w.heap.size + 1,0,none⟩) 1 1]).run Tryz.prog ((w.alloc (.cells #[.int .i64 n,.slice none 0 0,.bool false] 147)).alloc (.cells #[.pointer (some ⟨w.heap.size,0,none⟩)] 109))=.ok (.slice A3 (nW + 1) c3) w3 ∧
   Blk w3 x 38 #[(w.cell? ⟨x,0,none⟩).getD undef,.slice AW nW cW,(w.cell? ⟨x,2,none⟩).getD undef,D.1,D.2.1,D.2.2] ∧
   RAt D (w3.setCell ⟨x,1,none⟩ (.slice A3 (nW + 1) c3)) B x P (ws ++ [⟨w.heap.size,n,none,0,[],false⟩]) L∧RG B w (w3.setCell ⟨x,1,none⟩ (.slice A3 (nW + 1) c3)) x (fun _ => False):=by
 obtain ⟨AP,nP,cP,AW,nW,cW,AL,nL,cL,hk,hnP,hnW,hnL,hpr,hpt,hll⟩:=h.ex
 obtain ⟨w1,hw1⟩:∃ w1,w1=w.alloc (.cells #[.int .i64 n,.slice none 0 0,.bool false] 147):=⟨_,rfl⟩
 have b1:Below w.heap.size w w1:=by rw [hw1]; exact ba _ _
 have kn:Blk w1 w.heap.size 147 #[.int .i64 n,.slice none 0 0,.bool false]:=by rw [hw1]; exact Blk.new _ _ _
 rw [← hw1]
 obtain ⟨w2,hw2⟩:∃ w2,w2=w1.alloc (.cells #[.pointer (some ⟨w.heap.size,0,none⟩)] 109):=⟨_,rfl⟩
 have b2:Below w1.heap.size w1 w2:=by rw [hw2]; exact ba _ _
 have kp:Blk w2 w1.heap.size 109 #[.pointer (some ⟨w.heap.size,0,none⟩)]:=by rw [hw2]; exact Blk.new _ _ _
 rw [← hw2]
 have b12:=bt b1 b2
 have h2:=h.below b12
 obtain ⟨hwk,hds,hsm⟩:=And.intro h2.wk (And.intro h2.ds h2.sm)
 have hk2:=hk.below b12 hk.lt
 have hg12:=lbelow_grown b12 (some x)
 have hpt2:OwnPt w2 B AW cW (ws.map WI.q):=own_kept hpt hk (by decide) hg12
 have hpr2:OwnPr w2 B AP cP P:=own_kept hpr hk (by decide) hg12
 have kn2:=kn.below b2 kn.lt
 have hs1:=b1.size
 have hs2:=b2.size
 have hkn:=kn.lt
 obtain ⟨A3,c3,w3,hrun,own3,hg3⟩:=pt_more hpt2 nW (by rw [List.length_map]; exact hnW) (by omega) w.heap.size w1.heap.size (by omega) (by have:=kp.cell 0; simpa using this)
 have hsz:w1.heap.size=w.heap.size + 1:=by rw [hw1]; first | rfl | exact Array.size_push _ | simp
 rw [hsz] at hrun
 have hxne:blk AW≠some x:=own_ne hpt2 hk2 (by decide)
 have hk3:Blk w3 x 38 #[.slice AP nP cP,.slice AW nW cW,.slice AL nL cL,D.1,D.2.1,D.2.2]:=hk2.kept hg3 (fun e => hxne e.symm)
 have hgs:=lgrown_set w3 ⟨x,1,none⟩ (.slice A3 (nW + 1) c3)
 have e0:(w.cell? ⟨x,0,none⟩).getD undef=.slice AP nP cP:=by rw [hk.cell 0]; rfl
 have e2:(w.cell? ⟨x,2,none⟩).getD undef=.slice AL nL cL:=by rw [hk.cell 2]; rfl
 rw [e0,e2]
 have hnb:∀ {t:TypeId} {g:Nat} {cs:Array Value},Blk w2 g t cs→109≠t→some g≠blk AW:=fun hb ht e => own_ne hpt2 hb ht e.symm
 have hok:∀ {k n c m:Nat} {t:TypeId} {A:Option Addr} {vs:List Value},w2.ownsRow B t k (.slice A n c) m vs→t≠109→w3.ownsRow B t k (.slice A n c) m vs:=fun {k n c m t A vs} ho ht => by
  refine World.ownsRow.kept ho hg3 ?_
  rcases hb:(Value.slice A n c).ownBlock with _ | r
  ·exact .inl rfl
  ·refine .inr (fun e => ?_)
   rw [ownBlock_slice] at hb
   rcases ho.2 with ⟨h1,h2⟩ | ⟨g,cap,cur,h1,hbb,hg,hn,hm,hc,ht'⟩
   ·cases h1; cases hb
   ·injection h1 with e1 e2 e3
    rw [e1] at hb
    injection hb with hb
    have hb:g=r:=hb
    subst hb
    rcases hpt2.2 with ⟨h1,h2⟩ | ⟨g',cap',cur',h1,hbb',hg',_⟩
    ·injection h1 with e1 _ _
     rw [e1] at e
     cases e
    ·injection h1 with e1 _ _
     rw [e1] at e
     injection e with e
     have e:g=g':=e
     subst e
     rw [hg] at hg'
     injection hg' with hg'
     injection hg' with _ hg' _
     exact ht hg'
 refine ⟨AW,nW,cW,A3,c3,w3,hk,by omega,hrun,hk3,?_,?_⟩
 ·have hq:w.heap.size≠x:=by have:=hk.lt; omega
  have kn3:Blk w3 w.heap.size 147 #[.int .i64 n,.slice none 0 0,.bool false]:=kn2.kept hg3 (hnb kn2 (by decide))
  have hwk3:∀ y ∈ ws ++ [⟨w.heap.size,n,none,0,[],false⟩],B≤y.q∧Blk w3 y.q 147 #[.int .i64 y.n,.slice y.A y.l.length y.c,.bool y.p]∧OwnC w3 B y.A y.c y.l:=fun y hy => by
   rcases List.mem_append.1 hy with hy | hy
   ·obtain ⟨g1,g2,g3⟩:=hwk y hy
    exact ⟨g1,g2.kept hg3 (hnb g2 (by decide)),hok g3 (by decide)⟩
   ·obtain rfl:=List.mem_singleton.1 hy
    exact ⟨hB,kn3,OwnC.nil _ _⟩
  have own3':OwnPt w3 B A3 c3 ((ws ++ [(⟨w.heap.size,n,none,0,[],false⟩:WI)]).map WI.q):=by rw [List.map_append]; exact own3
  have hll3:LRows w3 B AL cL L:=(hll.below b12).kept hg3 fun r e => .inr (by
   rcases hpt2.2 with ⟨h1,h2⟩ | ⟨g',cap',cur',h1,hbb',hg',_⟩
   ·injection h1 with e1 _ _
    rw [e1] at e
    cases e
   ·injection h1 with e1 _ _
    rw [e1] at e
    injection e with e
    have e:g'=r:=e
    subst e
    exact ⟨_,_,by decide,hg'⟩)
  have ks:=hk3.set_ 1 (.slice A3 (nW + 1) c3)
  refine ⟨⟨AP,nP,cP,A3,nW + 1,c3,AL,nL,cL,ks,hnP,by rw [List.length_append,hnW]; rfl,hnL,own_kept (hok hpr2 (by decide)) hk3 (by decide) hgs,?_,?_⟩,wk_kept hwk3 hk3 hgs,?_,hsm.1,?_,hsm.2.2.1,?_⟩
  ·have:=own3'
   unfold OwnPt at this ⊢
   exact own_kept this hk3 (by decide) hgs
  ·exact hll3.kept hgs fun r e => by cases e; exact .inr ⟨_,_,by decide,hk3⟩
  ·rw [List.pairwise_append]
   refine ⟨hds,List.pairwise_singleton _ _,fun a ha b hb => ?_⟩
   obtain rfl:=List.mem_singleton.1 hb
   have:=(h.wk a ha).2.1.lt
   exact ⟨by show a.q≠w.heap.size; omega,fun r _ => by simp [blk]⟩
  ·rw [List.length_append]; simp; omega
  ·intro y hy
   rcases List.mem_append.1 hy with hy | hy
   ·exact hsm.2.2.2 y hy
   ·obtain rfl:=List.mem_singleton.1 hy
    simp
 ·have r12:RG B w w2 x (fun _ => False):=RG.of hg12
  refine (r12.trans (⟨hg3.os,hg3.tape,hg3.output,hg3.size,fun k hb hk' hx => hg3.block k hk' (fun e => by have:=(World.ownsRow.lt hpt2 k (by rw [ownBlock_slice]; exact e.symm)).1; omega),fun k hk' hx => ?_⟩:RG B w2 w3 x (fun _ => False)) (fun _ _ h => h)).trans (RG.of hgs) (fun _ _ h => h)
  by_cases e:blk AW=some k
  ·refine .inr (.inl ?_)
   rcases hpt2.2 with ⟨h1,h2⟩ | ⟨g',cap',cur',h1,hbb',hg',_⟩
   ·injection h1 with e1 _ _
    rw [e1] at e
    cases e
   ·injection h1 with e1 _ _
    rw [e1] at e
    injection e with e
    have e:g'=k:=e
    subst e
    exact ⟨_,_,hg'⟩
  ·exact .inl (hg3.block k hk' (fun e' => e e'.symm))
end Go.Proofs.YtlliaihmfimdoaaGreat.Ds


namespace Go.Proofs.YtlliaihmfimdoaaGreat.Ds
open Go.Proofs.YtlliaihmfimdoaaGreat
variable {D:Value × Value × Value}
open Go.RowKit Go.Maps Go.Joins Go.Deep
def TouchO (D:Value × Value × Value) (w:World) (B x:Nat) (P:List (Int × Nat)) (ws:List WI) (L:List LRow) (n y:Int) (al:Bool) (e:Ending) (w':World):Prop :=
 ∃ q,w.heap.size≤q∧e=.returned (.int .i64 (touchM ws L n y al q).1)∧RAt D w' B x P (touchM ws L n y al q).2.1 (touchM ws L n y al q).2.2∧RG B w w' x (fun _ => False)
set_option maxRecDepth 100000 in
set_option maxHeartbeats 4000000 in
theorem touch_any (B x:Nat) (P:List (Int × Nat)) (ws:List WI) (L:List LRow) (n y:Int) (al:Bool) (w:World) (h:RAt D w B x P ws L) (hB:B≤w.heap.size) (hl:ws.length < 100) (hok:LOk L) (hnc:NoClash L) :
  Calls Tryz.prog 127 #[.pointer (some ⟨x,0,none⟩),.int .i64 n,.int .i64 y,.bool al] w (TouchO D w B x P ws L n y al):=by
 have HF:=Lib.hid (find_any B x P ws L n w h)
 by_cases hbad:n < 1∨keyB y=false
 ·have hM:∀ q,touchM ws L n y al q=(1,ws,L):=fun q => if_pos hbad
  have HX:Hid (∃ q,w.heap.size≤q∧Ending.returned (.int .i64 1)=.returned (.int .i64 (touchM ws L n y al q).1)∧RAt D w B x P (touchM ws L n y al q).2.1 (touchM ws L n y al q).2.2∧RG B w w x (fun _ => False)):=Lib.hid ⟨w.heap.size,Nat.le_refl _,by rw [hM],by rw [hM]; exact h,RG.of (lbelow_grown (Below.refl _ _) _)⟩
  have hb3:n < 1∨y < 0∨15 < y:=by
   rcases hbad with h | h
   ·exact .inl h
   ·refine .inr ?_
    unfold keyB at h
    simp at h
    omega
  clear h hok hnc hM hbad HF
  go_enter Tryz.func127,Tryz.ntmps127
  rcases a1:decide (n < 1) with _ | _
  ·have p1:¬ n < 1:=of_decide_eq_false a1
   rcases a2:decide (y < 0) with _ | _
   ·have p2:¬ y < 0:=of_decide_eq_false a2
    have p3:15 < y:=by omega
    have a3:decide (15 < y)=true:=decide_eq_true p3
    go_wp2
    go_ret
    exact HX.out
   ·have p2:y < 0:=of_decide_eq_true a2
    go_wp2
    go_ret
    exact HX.out
  ·have p1:n < 1:=of_decide_eq_true a1
   go_wp2
   go_ret
   exact HX.out
 ·have hn1:¬ n < 1:=fun e => hbad (.inl e)
  have hk:=key_bd (show keyB y=true by cases hk:keyB y with | true => rfl | false => exact absurd (.inr hk) hbad)
  have a1:decide (n < 1)=false:=decide_eq_false hn1
  have a2:decide (y < 0)=false:=decide_eq_false (by omega)
  have a3:decide (15 < y)=false:=decide_eq_false (by omega)
  have p2:¬ y < 0:=by omega
  have p3:¬ 15 < y:=by omega
  obtain ⟨cs,hro,hback⟩:=h.rof
  have hTk:=rtake_any B x 2 38 cs (by decide) L n y al w hro h.sm.2.2.1 hB hok hnc
  have h64:=takeL_len h.sm.2.2.1 n y al
  obtain ⟨T,hT⟩:∃ T,T=takeL L n y al:=⟨_,rfl⟩
  rw [← hT] at hTk h64
  obtain ⟨er,L'⟩:=T
  have HT:=Lib.hid hTk
  have HBk:=Lib.hid (And.intro hback (And.intro h64 (And.intro hB hl)))
  rcases hf:findW ws n with _ | z
  ·have hM:∀ q,touchM ws L n y al q=(er,if er=0 then ws ++ [⟨q,n,none,0,[],false⟩] else ws,L'):=fun q => by unfold touchM; rw [if_neg hbad,hf]; dsimp only; rw [← hT]
   have HM:=Lib.hid hM
   rw [hf] at HF
   clear h hok hnc hbad hM hro hback hTk h64 hT hf hB hl hk
   go_enter Tryz.func127,Tryz.ntmps127
   go_wp2_with fail
   refine HF.out.mono ?_
   rintro e w1 ⟨rfl,rfl⟩
   dsimp only [Option.map_none]
   go_wp2_with fail
   refine HT.out.mono ?_
   rintro e w2 ⟨rfl,⟨v,hv⟩,hg2⟩
   have hR2:=HBk.out.1 w2 v L' hv HBk.out.2.1 hg2
   rcases he:(er == 0) with _ | _
   ·have hne:er≠0:=by simpa using he
    have HX:Hid (TouchO D w B x P ws L n y al (.returned (.int .i64 er)) w2):=Lib.hid ⟨w.heap.size,Nat.le_refl _,by rw [HM.out],by rw [HM.out,if_neg hne]; exact hR2,RG.of hg2⟩
    clear hv hg2 hR2
    go_wp2
    go_ret
    exact HX.out
   ·obtain rfl:er=0:=by simpa using he
    have hs2:=hg2.size
    obtain ⟨AW,nW,cW,A3,c3,w3,hx2,hnW,hrun,hx3,hR3,hrg⟩:=hR2.add (Nat.le_trans HBk.out.2.2.1 hs2) n HBk.out.2.2.2
    have c1:=hx2.cell 1
    have f1:=hx3.frozen 1
    have d1:=hx3.cell 1
    simp only [List.getElem?_toArray,List.getElem?_cons_zero,List.getElem?_cons_succ] at c1 d1
    have HX:Hid (TouchO D w B x P ws L n y al (.returned (.int .i64 0)) (w3.setCell ⟨x,1,none⟩ (.slice A3 (nW + 1) c3))):=Lib.hid ⟨w2.heap.size,hs2,by rw [HM.out],by rw [HM.out,if_pos rfl]; exact hR3,(RG.of hg2).trans hrg (fun _ _ h => h)⟩
    clear hv hg2 hR2 hx2 hx3 hR3 hrg hs2
    go_wp2_with (at_builtin; refine wpList_append_run rfl (.tmp 49) (.tmp 53) 27 rfl _ _ _ w3 rfl rfl hrun ?_)
    go_ret
    exact HX.out
  ·obtain ⟨zq,zn,zA,zc,zl,zp⟩:=z
   have hz:=h.wk _ (List.mem_of_find?_eq_some hf)
   have z2:=hz.2.1.cell 2
   simp only [List.getElem?_toArray,List.getElem?_cons_zero,List.getElem?_cons_succ] at z2
   have HH:=Lib.hid h
   rw [hf] at HF
   rcases zp with _ | _
   ·have hM:∀ q,touchM ws L n y al q=(er,ws,L'):=fun q => by unfold touchM; rw [if_neg hbad,hf]; dsimp only; rw [if_neg (by simp),← hT]
    have HM:=Lib.hid hM
    clear h hok hnc hbad hM hro hback hTk h64 hT hf hB hl hk hz
    go_enter Tryz.func127,Tryz.ntmps127
    go_wp2_with fail
    refine HF.out.mono ?_
    rintro e w1 ⟨rfl,rfl⟩
    dsimp only [Option.map_some]
    go_wp2_with fail
    refine HT.out.mono ?_
    rintro e w2 ⟨rfl,⟨v,hv⟩,hg2⟩
    have hR2:=HBk.out.1 w2 v L' hv HBk.out.2.1 hg2
    have HX:Hid (TouchO D w B x P ws L n y al (.returned (.int .i64 er)) w2):=Lib.hid ⟨w.heap.size,Nat.le_refl _,by rw [HM.out],by rw [HM.out]; exact hR2,RG.of hg2⟩
    clear hv hg2 hR2 z2
    rcases he:(er == 0) with _ | _
    ·go_wp2
     go_ret
     exact HX.out
    ·go_wp2
     go_ret
     exact HX.out
   ·have hM:∀ q,touchM ws L n y al q=(7,ws,L):=fun q => by unfold touchM; rw [if_neg hbad,hf]; dsimp only; rw [if_pos rfl]
    have HX:Hid (TouchO D w B x P ws L n y al (.returned (.int .i64 7)) w):=Lib.hid ⟨w.heap.size,Nat.le_refl _,by rw [hM],by rw [hM]; exact h,RG.of (lbelow_grown (Below.refl _ _) _)⟩
    clear h hok hnc hbad hM hro hback hTk h64 hT hf hB hl hk hz
    go_enter Tryz.func127,Tryz.ntmps127
    go_wp2_with fail
    refine HF.out.mono ?_
    rintro e w1 ⟨rfl,rfl⟩
    dsimp only [Option.map_some]
    go_wp2
    go_ret
    exact HX.out
end Go.Proofs.YtlliaihmfimdoaaGreat.Ds


namespace Go.Proofs.YtlliaihmfimdoaaGreat.Ds
open Go.Proofs.YtlliaihmfimdoaaGreat
variable {D:Value × Value × Value}
open Go.RowKit Go.Maps Go.Joins Go.Deep
theorem RAt.rws {w:World} {B B' x:Nat} {P:List (Int × Nat)} {ws ws':List WI} {L:List LRow} (h:RAt D w B x P ws L) {A:Option Addr} {c n:Nat} (hn:n=ws'.length) (ho:OwnPt w B' A c (ws'.map WI.q)) (hB:B≤B') (hs:ws'.Sublist ws):RAt D (w.setCell ⟨x,1,none⟩ (.slice A n c)) B x P ws' L:=by
 obtain ⟨AP,nP,cP,AW,nW,cW,AL,nL,cL,hk,hnP,hnW,hnL,hpr,hpt,hl⟩:=h.ex
 have hgs:=lgrown_set w ⟨x,1,none⟩ (.slice A n c)
 have ks:=hk.set_ 1 (.slice A n c)
 have hwk:=wk_kept h.wk hk hgs
 refine ⟨⟨AP,nP,cP,A,n,c,AL,nL,cL,ks,hnP,hn,hnL,own_kept hpr hk (by decide) hgs,own_kept (own_less ho hB) hk (by decide) hgs,hl.kept hgs fun r e => by cases e; exact .inr ⟨_,_,by decide,hk⟩⟩,fun y hy => hwk y (hs.subset hy),h.ds.sublist hs,h.sm.1,Nat.le_trans hs.length_le h.sm.2.1,h.sm.2.2.1,fun y hy => h.sm.2.2.2 y (hs.subset hy)⟩
set_option maxRecDepth 100000 in
set_option maxHeartbeats 4000000 in
theorem rsdrop_any (B x:Nat) (P:List (Int × Nat)) (ws:List WI) (L:List LRow) (n:Int) (w:World) (h:RAt D w B x P ws L) (hB:B≤w.heap.size) :
  Calls Tryz.prog 132 #[.pointer (some ⟨x,0,none⟩),.int .i64 n] w fun e w' => e=.returned (.tuple #[])∧RAt D w' B x P (othersW ws n) (dropL L n)∧w.grownBy w' (some x):=by
 obtain ⟨cs,hro,hback⟩:=h.rof
 have h64:(dropL L n).length≤64:=Nat.le_trans (dropL_len L n) h.sm.2.2.1
 have hDr:=rdrop_any B x 2 38 cs (by decide) L n w hro (by have:=h.sm.2.2.1; omega) hB
 have HD:=Lib.hid hDr
 have HBk:=Lib.hid (And.intro hback (And.intro h64 hB))
 clear h hro hback h64 hDr
 go_enter Tryz.func132,Tryz.ntmps132
 go_wp2_with fail
 refine HD.out.mono ?_
 rintro e w1 ⟨rfl,⟨v,hv⟩,hg1⟩
 have hR1:=HBk.out.1 w1 v _ hv HBk.out.2.1 hg1
 have H1:=Lib.hid (And.intro hR1 (And.intro hg1 (Nat.le_trans HBk.out.2.2 hg1.size)))
 obtain ⟨AP,nP,cP,AW,nW,cW,AL,nL,cL,hk,_,hnW,_,_,hpt,_⟩:=hR1.ex
 have HK:=Lib.hid (And.intro hk hpt)
 have HN:=Lib.hid hnW
 have hn1:nW≤100:=by rw [hnW]; exact hR1.sm.2.1
 clear hv hg1 hR1 hk hnW hpt HD HBk
 go_wp2_with fail
 go_loopw [4,5] (fun v i wr => ∃ (j n2 c2:Nat) (A2:Option Addr),v=.slice A2 n2 c2∧j≤nW∧n2≤j∧i=.int .i64 j∧Hid (n2=(othersW (ws.take j) n).length∧OwnPt wr w1.heap.size A2 c2 ((othersW (ws.take j) n).map WI.q)∧Below w1.heap.size w1 wr)) (fun _ i _ => nW - (intOf i).toNat)
 case atStart => exact ⟨0,0,0,none,rfl,Nat.zero_le _,Nat.le_refl _,rfl,Lib.hid ⟨rfl,World.ownsRow_nil _ _ _ _,Below.refl _ _⟩⟩
 case round =>
  obtain ⟨j,n2,c2,A2,rfl,hj,hn2j,rfl,HR⟩:=hrel
  by_cases hjn:j < nW
  ·have hjI:(j:Int) < (nW:Int):=by omega
   have hjL:j < ws.length:=by rw [← HN.out]; exact hjn
   obtain ⟨hn2,hown,hb⟩:=HR.out
   have hkr:=HK.out.1.below hb HK.out.1.lt
   have c1:=hkr.cell 1
   simp only [List.getElem?_toArray,List.getElem?_cons_zero,List.getElem?_cons_succ] at c1
   have hpt:=HK.out.2
   unfold OwnPt at hpt
   rw [List.length_map] at hpt
   obtain ⟨b,rfl,_,hbl,_,hc⟩:=row_cells hpt (by omega)
   have q0:=(hb.cell (p:=⟨b,j,none⟩) hbl).trans (hc j (.pointer (some ⟨(ws[j]'hjL).q,0,none⟩)) (by unfold ptV; simp [hjL]))
   have hwj:=(H1.out.1.wk _ (List.getElem_mem hjL)).2.1
   have q1:=(hwj.below hb hwj.lt).cell 0
   simp only [List.getElem?_toArray,List.getElem?_cons_zero,List.getElem?_cons_succ] at q1
   have hsn:=othersW_snoc (n:=n) hjL
   generalize ws[j]'hjL=y at q0 q1 hsn
   obtain ⟨yq,yn,yA,yc,yl,yp⟩:=y
   dsimp only at q0 q1 hsn
   by_cases h1:yn=n
   ·rw [if_pos h1] at hsn
    have HX:Hid (n2=(othersW (ws.take (j + 1)) n).length∧OwnPt wr w1.heap.size A2 c2 ((othersW (ws.take (j + 1)) n).map WI.q)∧Below w1.heap.size w1 wr):=Lib.hid (by rw [hsn]; exact HR.out)
    subst h1
    clear hpt hc hwj hkr hown hb hbl hsn HR hjL hn2
    go_wp2
    go_roundw
    case rel => exact ⟨j + 1,n2,c2,A2,rfl,by omega,by omega,by go_num,HX⟩
    case measure => simp [intOf]; omega
   ·rw [if_neg h1] at hsn
    have e1:(yn != n)=true:=by simp [h1]
    have hb3:=ba wr (.cells #[.pointer (some ⟨yq,0,none⟩)] 109)
    have own3:OwnPt (wr.alloc (.cells #[.pointer (some ⟨yq,0,none⟩)] 109)) w1.heap.size A2 c2 ((othersW (ws.take j) n).map WI.q):=World.ownsRow.kept hown (lbelow_grown hb3 none) (by rcases (Value.slice A2 ((othersW (ws.take j) n).map WI.q).length c2).ownBlock with _ | k; exact .inl rfl; exact .inr (fun e => by cases e))
    obtain ⟨A5,c5,w5,hrun,hE5,hg5⟩:=pt_more own3 n2 (by rw [List.length_map]; exact hn2) (by omega) yq wr.heap.size (by have:=hb.size; have:=hb3.size; omega) ((Blk.new wr 109 #[.pointer (some ⟨yq,0,none⟩)]).cell 0)
    have hB5:=(bt hb hb3).grown hg5 (by have:=hb.size; have:=hb3.size; omega) (fun r e => (World.ownsRow.lt own3 r (by rw [ownBlock_slice]; exact e)).1)
    have HX:Hid (n2 + 1=(othersW (ws.take (j + 1)) n).length∧OwnPt w5 w1.heap.size A5 c5 ((othersW (ws.take (j + 1)) n).map WI.q)∧Below w1.heap.size w1 w5):=Lib.hid (by rw [hsn,List.length_append,List.map_append,← hn2]; exact ⟨rfl,hE5,hB5⟩)
    clear hpt hc hwj hkr hown hb hbl hsn HR hjL hn2 hb3 own3 hE5 hg5 hB5
    go_wp2_with (at_builtin; refine wpList_append_run rfl (.tmp 32) (.tmp 40) 27 rfl _ _ _ w5 rfl rfl hrun ?_)
    go_roundw
    case rel => exact ⟨j + 1,n2 + 1,c5,A5,rfl,by omega,by omega,by go_num,HX⟩
    case measure => simp [intOf]; omega
  ·have hjI:¬ (j:Int) < (nW:Int):=by omega
   have hjj:ws.take j=ws:=List.take_of_length_le (by have:=HN.out; omega)
   obtain ⟨hn2,hown,hb⟩:=HR.out
   rw [hjj] at hn2 hown
   have hkr:=HK.out.1.below hb HK.out.1.lt
   have c1:=hkr.cell 1
   have f1:=hkr.frozen 1
   simp only [List.getElem?_toArray,List.getElem?_cons_zero,List.getElem?_cons_succ] at c1
   have HX:Hid (RAt D (wr.setCell ⟨x,1,none⟩ (.slice A2 n2 c2)) B x P (othersW ws n) (dropL L n)∧w.grownBy (wr.setCell ⟨x,1,none⟩ (.slice A2 n2 c2)) (some x)):=Lib.hid ⟨(H1.out.1.below hb).rws hn2 hown H1.out.2.2 List.filter_sublist,(H1.out.2.1.trans (lbelow_grown hb (some x))).trans (lgrown_set wr ⟨x,1,none⟩ (.slice A2 n2 c2))⟩
   clear hn2 hown hb hkr HR hjj
   go_wp2
   go_end0
   exact ⟨rfl,HX.out⟩
set_option maxRecDepth 100000 in
set_option maxHeartbeats 1000000 in
theorem rback_any (B x:Nat) (P:List (Int × Nat)) (ws:List WI) (L:List LRow) (n:Int) (w:World) (h:RAt D w B x P ws L) (hB:B≤w.heap.size) :
  Calls Tryz.prog 90 #[.pointer (some ⟨x,0,none⟩),.int .i64 n] w fun e w' => e=.returned (.int .i64 (backR ws L n).1)∧RAt D w' B x P (backR ws L n).2.1 (backR ws L n).2.2∧w.grownBy w' (some x):=by
 have HD:=Lib.hid (rsdrop_any B x P ws L n w h hB)
 have H:=Lib.hid h
 unfold backR
 rcases a1:decide (n < 1) with _ | _
 ·have p1:¬ n < 1:=of_decide_eq_false a1
  rw [if_neg p1]
  clear h
  go_enter Tryz.func90,Tryz.ntmps90
  go_wp2_with fail
  refine HD.out.mono ?_
  rintro e w1 ⟨rfl,hr⟩
  have HX:=Lib.hid hr
  clear hr
  go_wp2
  go_ret
  exact ⟨rfl,HX.out⟩
 ·have p1:n < 1:=of_decide_eq_true a1
  rw [if_pos p1]
  clear h
  go_enter Tryz.func90,Tryz.ntmps90
  go_wp2
  go_ret
  exact ⟨rfl,H.out,lbelow_grown (Below.refl _ _) _⟩
end Go.Proofs.YtlliaihmfimdoaaGreat.Ds


namespace Go.Proofs.YtlliaihmfimdoaaGreat.Ds
open Go.Proofs.YtlliaihmfimdoaaGreat
variable {D:Value × Value × Value}
open Go.RowKit Go.Maps Go.Joins Go.Deep
def GetO (D:Value × Value × Value) (w:World) (B x:Nat) (P:List (Int × Nat)) (ws:List WI) (L:List LRow) (n y:Int) (e:Ending) (w':World):Prop :=
 ∃ q,w.heap.size≤q∧e=.returned (.tuple #[.int .u64 ((getR P (touchM ws L n y false q) n y).1:Nat),.bool (getR P (touchM ws L n y false q) n y).2.1,.int .i64 (getR P (touchM ws L n y false q) n y).2.2])∧RAt D w' B x P (touchM ws L n y false q).2.1 (touchM ws L n y false q).2.2∧RG B w w' x (fun _ => False)
set_option maxRecDepth 100000 in
set_option maxHeartbeats 4000000 in
theorem rget_any (B x:Nat) (P:List (Int × Nat)) (ws:List WI) (L:List LRow) (n y:Int) (w:World) (h:RAt D w B x P ws L) (hB:B≤w.heap.size) (hl:ws.length < 100) (hok:LOk L) (hnc:NoClash L) :
  Calls Tryz.prog 82 #[.pointer (some ⟨x,0,none⟩),.int .i64 n,.int .i64 y] w (GetO D w B x P ws L n y):=by
 have HT:=Lib.hid (touch_any B x P ws L n y false w h hB hl hok hnc)
 clear h hl hok hnc
 go_enter Tryz.func82,Tryz.ntmps82
 go_wp2_with fail
 refine HT.out.mono ?_
 rintro e w1 ⟨q,hq,rfl,hR,hG⟩
 have hfound:=touch_found (ws:=ws) (L:=L) (n:=n) (y:=y) (al:=false) (q:=q)
 have hfin:∀ (w2:World) (v:Nat) (t:Bool) (er:Int),getR P (touchM ws L n y false q) n y=(v,t,er)→Below w1.heap.size w1 w2→GetO D w B x P ws L n y (.returned (.tuple #[.int .u64 (v:Nat),.bool t,.int .i64 er])) w2:=fun w2 v t er e hb => ⟨q,hq,by rw [e],hR.below hb,hG.bel hb⟩
 obtain ⟨T,hTd⟩:∃ T,T=touchM ws L n y false q:=⟨_,rfl⟩
 rw [← hTd] at hR hfound hfin ⊢
 obtain ⟨er,ws',L'⟩:=T
 dsimp only at hR hfound hfin ⊢
 rcases he:(er != 0) with _ | _
 ·obtain rfl:er=0:=by simpa using he
  obtain ⟨z,hfz,hzm,hzn,hzp⟩:=hfound rfl
  have hgz:getR P (0,ws',L') n y=((getZ P z.l y).1,(getZ P z.l y).2,0):=by unfold getR; rw [if_pos rfl]; dsimp only; rw [hfz]
  have HF:=Lib.hid (find_any B x P ws' L' n w1 hR)
  rw [hfz] at HF
  have hz:=hR.wk _ hzm
  have hsm:=hR.sm.2.2.2 _ hzm
  have HV:=fun (u:World) (hu:Below w1.heap.size w1 u) => rvalue_any B x P ws' L' y u (hR.below hu)
  have HVV:=Lib.hid HV
  obtain ⟨zq,zn,zA,zc,zl,zp⟩:=z
  dsimp only at hgz hz hsm
  obtain ⟨nl,hnl⟩:∃ nl,nl=zl.length:=⟨_,rfl⟩
  rw [← hnl] at hz hsm
  have z1:=fun m:Nat => (show (w1.drewN m).cell? ⟨zq,1,none⟩=some (.slice zA nl zc) from hz.2.1.cell 1)
  have z10:w1.cell? ⟨zq,1,none⟩=some (.slice zA nl zc):=hz.2.1.cell 1
  have hown:=hz.2.2
  have hq6:(nl:Int)≤100:=by omega
  have HN:=Lib.hid (And.intro hnl hown)
  have HG:=Lib.hid (And.intro hfin hgz)
  clear hR hG hTd hfound hfz hzm hzn hzp hz hnl hown HV hfin hgz HT
  go_wp2_with fail
  refine HF.out.mono ?_
  rintro e w2 ⟨rfl,rfl⟩
  dsimp only [Option.map_some]
  go_wp2_with fail
  go_loopw [11] (fun i wr => ∃ j:Nat,j≤nl∧i=.int .i64 j∧Hid (∀ i,(h:i < zl.length)→i < j→(zl[i]'h).y≠y)∧w1=wr) (fun i _ => nl - (intOf i).toNat)
  case atStart => exact ⟨0,Nat.zero_le _,rfl,Lib.hid (fun i h h2 => by omega),rfl⟩
  case round =>
   obtain ⟨j,hj,rfl,hno,rfl⟩:=hrel
   by_cases hjn:j < nl
   ·have hjI:(j:Int) < (nl:Int):=by omega
    have hjL:j < zl.length:=by rw [← HN.out.1]; exact hjn
    obtain ⟨b,o,rfl,_,hcs⟩:=HN.out.2.at_ (by omega)
    obtain ⟨r0,r1,r2⟩:=hcs j hjL
    have hyes:Hid ((zl[j]'hjL).y=y→chgOf zl y=some (zl[j]'hjL)):=Lib.hid (fun e => chgOf_at hjL hno.out e)
    have hstep:Hid (¬ (zl[j]'hjL).y=y→∀ i,(h:i < zl.length)→i < j + 1→(zl[i]'h).y≠y):=Lib.hid (fun h1 i hi hij => by
     by_cases e:i=j
     ·subst e; exact h1
     ·exact hno.out i hi (by omega))
    generalize zl[j]'hjL=z at r0 r1 r2 hyes hstep
    obtain ⟨ck,cy,cv⟩:=z
    dsimp only at r0 r1 r2 hyes hstep
    clear hcs hno hjL
    by_cases h1:cy=y
    ·have HP:Hid (getR P (0,ws',L') n y=(cv,ck == 1,0)):=Lib.hid (by rw [HG.out.2]; unfold getZ; rw [hyes.out h1])
     subst h1
     have s0:=fun m:Nat => cell_drew r0 m
     have s2:=fun m:Nat => cell_drew r2 m
     clear hyes hstep
     go_wp2_with fail
     go_quiet (fail)
     have hdr:Below w1.heap.size w1 (w1.drewN nq):=⟨rfl,rfl,rfl,Nat.le_refl _,fun _ _ => rfl⟩
     have HX:=Lib.hid (HG.out.1 (w1.drewN nq) cv (ck == 1) 0 HP.out hdr)
     clear s0 s2 z1 z10 r0 r1 r2 hdr
     go_wp2
     go_returns
     exact HX.out
    ·have hno2:Hid (∀ i,(h:i < zl.length)→i < j + 1→(zl[i]'h).y≠y):=Lib.hid (hstep.out h1)
     have e1:(cy == y)=false:=by simp [h1]
     clear hyes hstep r0 r2
     go_wp2
     go_roundw
     case rel => exact ⟨j + 1,by omega,by go_num,hno2,by first | rfl | trivial⟩
     case measure => simp [intOf]; omega
   ·have hjI:¬ (j:Int) < (nl:Int):=by omega
    have HP:Hid (getR P (0,ws',L') n y=((valP P y).1,(valP P y).2,0)):=Lib.hid (by
     rw [HG.out.2]; unfold getZ; rw [chgOf_none fun i hi => hno.out i hi (by have:=HN.out.1; omega)])
    have HV1:=Lib.hid (HVV.out w1 (Below.refl _ _))
    clear hno HVV
    go_wp2_with fail
    refine HV1.out.mono ?_
    rintro e w3 ⟨rfl,rfl⟩
    have HX:=Lib.hid (HG.out.1 w1 _ _ 0 HP.out (Below.refl _ _))
    clear z1 z10
    go_wp2
    go_returns
    exact HX.out
 ·have hne:er≠0:=by simpa using he
  have HX:Hid (GetO D w B x P ws L n y (.returned (.tuple #[.int .u64 (0:Nat),.bool false,.int .i64 er])) w1):=Lib.hid (hfin w1 0 false er (by unfold getR; rw [if_neg hne]) (Below.refl _ _))
  clear hR hG hTd hfound hfin HT
  go_wp2
  go_returns
  exact HX.out
end Go.Proofs.YtlliaihmfimdoaaGreat.Ds


namespace Go.Proofs.YtlliaihmfimdoaaGreat.Ds
open Go.Proofs.YtlliaihmfimdoaaGreat
variable {D:Value × Value × Value}
open Go.RowKit Go.Maps Go.Joins Go.Deep
theorem RAt.upd {w w':World} {B x:Nat} {P:List (Int × Nat)} {ws:List WI} {L:List LRow} (h:RAt D w B x P ws L) {z z':WI} (hz:z ∈ ws) (hq:z'.q=z.q)
  (hs:w.heap.size≤w'.heap.size) (hg:∀ k,k < w.heap.size→k≠z.q→blk z.A≠some k→w'.heap[k]?=w.heap[k]?)
  (hb:Blk w' z.q 147 #[.int .i64 z'.n,.slice z'.A z'.l.length z'.c,.bool z'.p]) (ho:OwnC w' B z'.A z'.c z'.l) (hA:∀ r,blk z'.A=some r→blk z.A=some r∨w.heap.size≤r) (hl:z'.l.length≤100):RAt D w' B x P (turnW ws z') L:=by
 obtain ⟨AP,nP,cP,AW,nW,cW,AL,nL,cL,hk,hnP,hnW,hnL,hpr,hpt,hll⟩:=h.ex
 obtain ⟨z1,z2,z3⟩:=h.wk z hz
 have zA:∀ r,blk z.A=some r→∃ cs fz,w.heap[r]?=some (.cells cs 74 fz):=fun r e => by
  rcases z3.2 with ⟨h1,h2⟩ | ⟨g,cap,cur,hv,hb,hg,hrest⟩
  ·injection h1 with e1 _ _; rw [e1] at e; cases e
  ·injection hv with e1 _ _
   rw [e1] at e
   injection e with e
   have e:g=r:=e
   subst e
   exact ⟨_,_,hg⟩
 have keep:∀ {k:Nat} {cs:Array Value} {t:TypeId} {fz:Nat × Nat},w.heap[k]?=some (.cells cs t fz)→t≠147→t≠74→w'.heap[k]?=w.heap[k]?:=fun {k cs t fz} e h1 h2 => by
  refine hg k (Array.getElem?_eq_some_iff.1 e).1 (fun e2 => ?_) (fun e2 => ?_)
  ·subst e2
   unfold Blk at z2
   rw [z2] at e
   injection e with e
   injection e with _ e _
   exact h1 e.symm
  ·obtain ⟨cs2,fz2,e3⟩:=zA k e2
   rw [e3] at e
   injection e with e
   injection e with _ e _
   exact h2 e.symm
 refine ⟨⟨AP,nP,cP,AW,nW,cW,AL,nL,cL,?_,hnP,by unfold turnW; rw [List.length_map]; exact hnW,hnL,?_,?_,?_⟩,?_,?_,h.sm.1,by unfold turnW; rw [List.length_map]; exact h.sm.2.1,h.sm.2.2.1,?_⟩
 ·unfold Blk at hk ⊢
  rw [keep hk (by decide) (by decide)]
  exact hk
 ·exact own_same hpr fun r _ ⟨cs,fz,e⟩ _ => keep e (by decide) (by decide)
 ·have e:(turnW ws z').map WI.q=ws.map WI.q:=by
   unfold turnW
   rw [List.map_map]
   refine List.map_congr_left fun y _ => ?_
   show (if y.q=z'.q then z' else y).q=y.q
   split
   ·rename_i e; exact e.symm
   ·rfl
  rw [e]
  exact own_same hpt fun r _ ⟨cs,fz,e⟩ _ => keep e (by decide) (by decide)
 ·refine ⟨hll.nil,fun hn => ?_⟩
  obtain ⟨b,cs,e,hbB,hkb,hc⟩:=hll.at_ hn
  refine ⟨b,cs,e,hbB,?_,hc⟩
  unfold Blk at hkb ⊢
  rw [keep hkb (by decide) (by decide)]
  exact hkb
 ·intro y hy
  obtain ⟨y0,hy0,rfl⟩:=List.mem_map.1 hy
  by_cases e:y0.q=z'.q
  ·rw [if_pos e]
   rw [hq]
   exact ⟨z1,hb,ho⟩
  ·rw [if_neg e]
   obtain ⟨y1,y2,y3⟩:=h.wk y0 hy0
   have hne:y0.q≠z.q:=fun e2 => e (e2.trans hq.symm)
   refine ⟨y1,?_,own_same y3 fun r hr ⟨cs,fz,e2⟩ e3 => hg r hr (fun e4 => ?_) (fun e4 => A_apart h.ds hz hy0 (fun e => hne e.symm) r e4 e3)⟩
   ·unfold Blk at y2 ⊢
    rw [hg y0.q (Array.getElem?_eq_some_iff.1 y2).1 hne (fun e4 => by
     obtain ⟨cs2,fz2,e5⟩:=zA _ e4
     rw [e5] at y2
     injection y2 with y2
     injection y2 with _ y2 _
     exact absurd y2 (by decide))]
    exact y2
   ·subst e4
    unfold Blk at z2
    rw [z2] at e2
    injection e2 with e2
    injection e2 with _ e2 _
    exact absurd e2 (by decide)
 ·unfold turnW
  rw [List.pairwise_map]
  refine List.Pairwise.imp_of_mem ?_ h.ds
  intro a b ha hb' hab
  have hlt:∀ y ∈ ws,∀ r,blk y.A=some r→r < w.heap.size:=fun y hy r e => ((h.wk y hy).2.2.lt' r e).2
  by_cases ea:a.q=z'.q
  ·have haz:a=z:=q_same h.ds ha hz (ea.trans hq)
   have eb:b.q≠z'.q:=fun e => hab.1 (ea.trans e.symm)
   rw [if_pos ea,if_neg eb]
   refine ⟨fun e => eb e.symm,fun r hr hr2 => ?_⟩
   rcases hA r hr with h1 | h1
   ·exact hab.2 r (by rw [haz]; exact h1) hr2
   ·have:=hlt b hb' r hr2; omega
  ·by_cases eb:b.q=z'.q
   ·have hbz:b=z:=q_same h.ds hb' hz (eb.trans hq)
    rw [if_neg ea,if_pos eb]
    refine ⟨ea,fun r hr hr2 => ?_⟩
    rcases hA r hr2 with h1 | h1
    ·exact hab.2 r hr (by rw [hbz]; exact h1)
    ·have:=hlt a ha r hr; omega
   ·rw [if_neg ea,if_neg eb]
    exact hab
 ·intro y hy
  obtain ⟨y0,hy0,rfl⟩:=List.mem_map.1 hy
  split
  ·exact hl
  ·exact h.sm.2.2.2 y0 hy0
def RPrepO (D:Value × Value × Value) (w:World) (B x:Nat) (P:List (Int × Nat)) (R:(List Ch × Int) × List WI × List LRow) (e:Ending) (w':World):Prop :=
 ∃ A q c,e=.returned (.tuple #[.slice A q c,.int .i64 R.1.2])∧q=R.1.1.length∧OwnC w' w.heap.size A c R.1.1∧RAt D w' B x P R.2.1 R.2.2∧RG B w w' x (fun _ => False)
set_option maxRecDepth 100000 in
set_option maxHeartbeats 4000000 in
theorem rprep_any (B x:Nat) (P:List (Int × Nat)) (ws:List WI) (L:List LRow) (n:Int) (w:World) (h:RAt D w B x P ws L) (hB:B≤w.heap.size) :
  Calls Tryz.prog 86 #[.pointer (some ⟨x,0,none⟩),.int .i64 n] w (RPrepO D w B x P (prepR ws L n)):=by
 have HD:=Lib.hid (rsdrop_any B x P ws L n w h hB)
 have HF:=Lib.hid (find_any B x P ws L n w h)
 have hnil:∀ (er:Int),prepR ws L n=(([],er),ws,L)→RPrepO D w B x P (prepR ws L n) (.returned (.tuple #[.slice none 0 0,.int .i64 er])) w:=fun er e => ⟨none,0,0,by rw [e],by rw [e]; rfl,by rw [e]; exact OwnC.nil _ _,by rw [e]; exact h,RG.of (lbelow_grown (Below.refl _ _) _)⟩
 have hdrop:prepR ws L n=(([],0),othersW ws n,dropL L n)→∀ w',RAt D w' B x P (othersW ws n) (dropL L n)→w.grownBy w' (some x)→RPrepO D w B x P (prepR ws L n) (.returned (.tuple #[.slice none 0 0,.int .i64 0])) w':=fun e w' h1 h2 => ⟨none,0,0,by rw [e],by rw [e]; rfl,by rw [e]; exact OwnC.nil _ _,by rw [e]; exact h1,RG.of h2⟩
 have HN:=Lib.hid (And.intro hnil hdrop)
 clear hnil hdrop
 rcases a1:decide (n < 1) with _ | _
 ·have p1:¬ n < 1:=of_decide_eq_false a1
  rcases hf:findW ws n with _ | z
  ·have hM:prepR ws L n=(([],0),othersW ws n,dropL L n):=by unfold prepR; rw [if_neg p1,hf]
   have HM:=Lib.hid hM
   rw [hf] at HF
   clear h hM hf
   go_enter Tryz.func86,Tryz.ntmps86
   go_wp2_with fail
   refine HF.out.mono ?_
   rintro e w1 ⟨rfl,rfl⟩
   dsimp only [Option.map_none]
   go_wp2_with fail
   refine HD.out.mono ?_
   rintro e w2 ⟨rfl,hr,hg⟩
   have HX:=Lib.hid (HN.out.2 HM.out w2 hr hg)
   clear hr hg
   go_wp2
   go_returns
   exact HX.out
  ·have hzm:z ∈ ws:=List.mem_of_find?_eq_some hf
   have hz:=h.wk z hzm
   have hlen:=h.sm.2.2.2 z hzm
   rw [hf] at HF
   have hM0:prepR ws L n=if z.p=true then (([],7),ws,L) else if z.l.length=0 then (([],0),othersW ws n,dropL L n) else ((z.l,0),turnW ws { z with p:=true },L):=by unfold prepR; rw [if_neg p1,hf]
   have hupd:=fun (w':World) (hs) (hg) (hb) => h.upd (w':=w') hzm (z':={ z with p:=true }) rfl hs hg hb
   obtain ⟨zq,zn,zA,zc,zl,zp⟩:=z
   dsimp only at hz hM0 hlen hupd
   obtain ⟨nl,hnl⟩:∃ nl,nl=zl.length:=⟨_,rfl⟩
   rw [← hnl] at hz hM0 hlen hupd
   have z1:w.cell? ⟨zq,1,none⟩=some (.slice zA nl zc):=hz.2.1.cell 1
   have z2:w.cell? ⟨zq,2,none⟩=some (.bool zp):=hz.2.1.cell 2
   rcases zp with _ | _
   ·rw [if_neg (by simp)] at hM0
    by_cases h0:nl=0
    ·rw [if_pos h0] at hM0
     have HM:=Lib.hid hM0
     subst h0
     clear h hM0 hf hz hzm hupd hnl
     go_enter Tryz.func86,Tryz.ntmps86
     go_wp2_with fail
     refine HF.out.mono ?_
     rintro e w1 ⟨rfl,rfl⟩
     dsimp only [Option.map_some]
     go_wp2_with fail
     refine HD.out.mono ?_
     rintro e w2 ⟨rfl,hr,hg⟩
     have HX:=Lib.hid (HN.out.2 HM.out w2 hr hg)
     clear hr hg z1 z2
     go_wp2
     go_returns
     exact HX.out
    ·rw [if_neg h0] at hM0
     have hne:((nl:Int) == 0)=false:=by simp; omega
     have f2:=hz.2.1.frozen 2
     have ks:=hz.2.1.set_ 2 (.bool true)
     have gs:=lgrown_set w ⟨zq,2,none⟩ (.bool true)
     obtain ⟨w1,hw1⟩:∃ w1,w1=w.setCell ⟨zq,2,none⟩ (.bool true):=⟨_,rfl⟩
     have hk1:Blk w1 zq 147 #[.int .i64 zn,.slice zA nl zc,.bool true]:=by rw [hw1]; exact ks
     have gs1:w.grownBy w1 (some zq):=by rw [hw1]; exact gs
     have ho1:OwnC w1 B zA zc zl:=own_kept hz.2.2 hz.2.1 (by decide) gs1
     have hR1:=hupd w1 gs1.size (fun k hk hne _ => gs1.block k hk (fun e => hne (by injection e))) hk1 ho1 (fun r e => .inl e) (by omega)
     have hcs:=ho1.at_
     obtain ⟨A2,c2,w2,hrun,own2,g2,hat2⟩:=ch_app (OwnC.nil w1 w1.heap.size) zA zc zl 0 nl rfl hnl (fun b o e i hi => by
      obtain ⟨b',o',e',_,hc⟩:=hcs (by omega)
      rw [e] at e'
      cases e'
      exact hc i hi) (fun hp => by obtain ⟨b',o',e',_⟩:=hcs hp; exact ⟨b',o',e'⟩) (Nat.le_refl _) (by simp; omega) (Nat.le_refl _)
     rw [Nat.zero_add] at hrun
     rw [List.nil_append] at own2
     have b2:Below w1.heap.size w1 w2:=⟨g2.os,g2.tape,g2.output,g2.size,fun k hk => g2.block k hk (by simp [blk])⟩
     have hrg:RG B w w1 x (fun _ => False):=⟨gs1.os,gs1.tape,gs1.output,gs1.size,fun k hb hk hx => gs1.block k hk (fun e2 => by injection e2 with e2; have:=hz.1; omega),fun k hk hx => by
      by_cases e:k=zq
      ·subst e; exact .inr (.inr (.inl ⟨_,_,hz.2.1⟩))
      ·exact .inl (gs1.block k hk (fun e2 => e (by injection e2)))⟩
     have HX:Hid (RPrepO D w B x P (prepR ws L n) (.returned (.tuple #[.slice A2 nl c2,.int .i64 0])) w2):=Lib.hid ⟨A2,nl,c2,by rw [hM0],by rw [hM0]; exact hnl,by rw [hM0]; exact own_less own2 gs1.size,by rw [hM0]; exact hR1.below b2,hrg.bel b2⟩
     have d1:w1.cell? ⟨zq,1,none⟩=some (.slice zA nl zc):=hk1.cell 1
     have HW1:=Lib.hid hw1
     rw [hw1] at hrun d1
     clear h hM0 hf hz hzm hupd hnl ks gs hk1 gs1 ho1 hR1 hcs own2 g2 hat2 b2 hrg hw1
     go_enter Tryz.func86,Tryz.ntmps86
     go_wp2_with fail
     refine HF.out.mono ?_
     rintro e w3 ⟨rfl,rfl⟩
     dsimp only [Option.map_some]
     go_wp2_with (at_builtin; refine wpList_append_run rfl (.tmp 37) (.tmp 41) 40 rfl _ _ _ w2 rfl rfl hrun ?_)
     go_returns
     exact HX.out
   ·rw [if_pos rfl] at hM0
    have HX:=Lib.hid (HN.out.1 7 hM0)
    clear h hM0 hf hz hzm hupd hnl
    go_enter Tryz.func86,Tryz.ntmps86
    go_wp2_with fail
    refine HF.out.mono ?_
    rintro e w1 ⟨rfl,rfl⟩
    dsimp only [Option.map_some]
    go_wp2
    go_returns
    exact HX.out
 ·have p1:n < 1:=of_decide_eq_true a1
  have HX:=Lib.hid (HN.out.1 1 (by unfold prepR; rw [if_pos p1]))
  clear h
  go_enter Tryz.func86,Tryz.ntmps86
  go_wp2
  go_returns
  exact HX.out
end Go.Proofs.YtlliaihmfimdoaaGreat.Ds


namespace Go.Proofs.YtlliaihmfimdoaaGreat.Ds
open Go.Proofs.YtlliaihmfimdoaaGreat
variable {D:Value × Value × Value}
open Go.RowKit Go.Maps Go.Joins Go.Deep
theorem RAt.rpr {w:World} {B B' x:Nat} {P P':List (Int × Nat)} {ws:List WI} {L:List LRow} (h:RAt D w B x P ws L) {A:Option Addr} {c n:Nat} (hn:n=P'.length) (ho:OwnPr w B' A c P') (hB:B≤B') (hl:P'.length≤100):RAt D (w.setCell ⟨x,0,none⟩ (.slice A n c)) B x P' ws L:=by
 obtain ⟨AP,nP,cP,AW,nW,cW,AL,nL,cL,hk,hnP,hnW,hnL,hpr,hpt,hll⟩:=h.ex
 have hgs:=lgrown_set w ⟨x,0,none⟩ (.slice A n c)
 have ks:=hk.set_ 0 (.slice A n c)
 exact ⟨⟨A,n,c,AW,nW,cW,AL,nL,cL,ks,hn,hnW,hnL,own_kept (own_less ho hB) hk (by decide) hgs,own_kept hpt hk (by decide) hgs,hll.kept hgs fun r e => by cases e; exact .inr ⟨_,_,by decide,hk⟩⟩,wk_kept h.wk hk hgs,h.ds,hl,h.sm.2⟩
set_option maxRecDepth 100000 in
set_option maxHeartbeats 4000000 in
theorem rset_any (B x:Nat) (P:List (Int × Nat)) (ws:List WI) (L:List LRow) (ch:Ch) (w:World) (h:RAt D w B x P ws L) (hB:B≤w.heap.size) (hP:P.length < 100) :
  Calls Tryz.prog 133 #[.pointer (some ⟨x,0,none⟩),.agg #[.int .i64 ch.k,.int .i64 ch.y,.int .u64 (ch.v:Nat)]] w fun e w' => e=.returned (.tuple #[])∧RAt D w' B x (setPr P ch) ws L∧w.grownBy w' (some x):=by
 obtain ⟨ck,cy,cv⟩:=ch
 dsimp only
 obtain ⟨w1,hw1⟩:∃ w1,w1=w.alloc (.cells #[.int .i64 ck,.int .i64 cy,.int .u64 (cv:Nat)] 74):=⟨_,rfl⟩
 have b1:Below w.heap.size w w1:=by rw [hw1]; exact ba _ _
 have k1:Blk w1 w.heap.size 74 #[.int .i64 ck,.int .i64 cy,.int .u64 (cv:Nat)]:=by rw [hw1]; exact Blk.new _ _ _
 obtain ⟨gc,hgc⟩:∃ gc,gc=w.heap.size:=⟨_,rfl⟩
 rw [← hgc] at k1
 have hR1:=h.below b1
 obtain ⟨AP,nP,cP,AW,nW,cW,AL,nL,cL,hk,hnP,_,_,hpr,_,_⟩:=hR1.ex
 have H1:=Lib.hid (And.intro hR1 (And.intro b1 (And.intro (Nat.le_trans hB b1.size) (And.intro k1 (And.intro hk hpr)))))
 have HN:=Lib.hid hnP
 have hn1:nP < 100:=by rw [hnP]; exact hP
 have HW1:=Lib.hid hw1
 have Hgc:=Lib.hid hgc
 clear h hR1 hk hpr hnP b1 k1 hP hB hw1
 go_enter Tryz.func133,Tryz.ntmps133
 go_wp2_with fail
 rw [← HW1.out,← hgc]
 clear hgc
 go_loopw [4,5] (fun v i wr => ∃ (j n2 c2:Nat) (A2:Option Addr),v=.slice A2 n2 c2∧j≤nP∧n2≤j∧i=.int .i64 j∧Hid (n2=(othersP (P.take j) cy).length∧OwnPr wr w1.heap.size A2 c2 (othersP (P.take j) cy)∧Below w1.heap.size w1 wr)) (fun _ i _ => nP - (intOf i).toNat)
 case atStart => exact ⟨0,0,0,none,rfl,Nat.zero_le _,Nat.le_refl _,rfl,Lib.hid ⟨rfl,World.ownsRow_nil _ _ _ _,Below.refl _ _⟩⟩
 case round =>
  obtain ⟨j,n2,c2,A2,rfl,hj,hn2j,rfl,HR⟩:=hrel
  by_cases hjn:j < nP
  ·have hjI:(j:Int) < (nP:Int):=by omega
   have hjL:j < P.length:=by rw [← HN.out]; exact hjn
   obtain ⟨hn2,hown,hb⟩:=HR.out
   have hkr:=H1.out.2.2.2.2.1.below hb H1.out.2.2.2.2.1.lt
   have hkc:=H1.out.2.2.2.1.below hb H1.out.2.2.2.1.lt
   have c0:wr.cell? ⟨x,0,none⟩=some (.slice AP nP cP):=hkr.cell 0
   have hpt:=H1.out.2.2.2.2.2
   unfold OwnPr at hpt
   obtain ⟨b,rfl,_,hbl,_,hc⟩:=row_cells hpt (by omega)
   have q0:=(hb.cell (p:=⟨b,j * 2,none⟩) hbl).trans (hc (j * 2) _ (prV_at P j hjL).1)
   have q1:=(hb.cell (p:=⟨b,j * 2 + 1,none⟩) hbl).trans (hc (j * 2 + 1) _ (prV_at P j hjL).2)
   have hsn:=othersP_snoc (n:=cy) hjL
   generalize P[j]'hjL=y at q0 q1 hsn
   obtain ⟨yk,yv⟩:=y
   dsimp only at q0 q1 hsn
   have d0:=fun m:Nat => cell_drew c0 m
   have d1:=fun m:Nat => cell_drew q0 m
   have d2:=fun m:Nat => (show (wr.drewN m).cell? ⟨gc,1,none⟩=some (.int .i64 cy) from hkc.cell 1)
   have hdr:∀ m:Nat,Below wr.heap.size wr (wr.drewN m):=fun m => ⟨rfl,rfl,rfl,Nat.le_refl _,fun _ _ => rfl⟩
   by_cases h1:yk=cy
   ·rw [if_pos h1] at hsn
    have HX:Hid (∀ m:Nat,n2=(othersP (P.take (j + 1)) cy).length∧OwnPr (wr.drewN m) w1.heap.size A2 c2 (othersP (P.take (j + 1)) cy)∧Below w1.heap.size w1 (wr.drewN m)):=Lib.hid (fun m => by rw [hsn]; exact ⟨hn2,own_same hown (fun r _ _ _ => rfl),bt hb (hdr m)⟩)
    have e1:(yk != cy)=false:=by simp [h1]
    clear hpt hc hkr hkc hown hb hbl hsn HR hjL hn2 hdr q0 q1
    go_wp2_with fail
    go_quiet (fail)
    have HX2:=Lib.hid (HX.out nq)
    clear d0 d1 d2 HX c0
    go_wp2
    go_roundw
    case rel => exact ⟨j + 1,n2,c2,A2,rfl,by omega,by omega,by go_num,HX2⟩
    case measure => simp [intOf]; omega
   ·rw [if_neg h1] at hsn
    have e1:(yk != cy)=true:=by simp [h1]
    have HY:=Lib.hid (And.intro hn2 (And.intro hown hb))
    have HS:=Lib.hid hsn
    clear hpt hc hkr hkc hown hb hbl hsn HR hjL hn2 hdr q0
    go_wp2_with fail
    go_quiet (fail)
    obtain ⟨wd,hwd⟩:∃ wd,wd=wr.drewN nq:=⟨_,rfl⟩
    obtain ⟨hn2,hown,hb⟩:n2=(othersP (P.take j) cy).length∧OwnPr wd w1.heap.size A2 c2 (othersP (P.take j) cy)∧Below w1.heap.size w1 wd:=by rw [hwd]; exact ⟨HY.out.1,own_same HY.out.2.1 (fun r _ _ _ => rfl),bt HY.out.2.2 ⟨rfl,rfl,rfl,Nat.le_refl _,fun _ _ => rfl⟩⟩
    have g0:wd.cell? ⟨x,0,none⟩=some (.slice (some ⟨b,0,none⟩) nP cP):=by rw [hwd]; exact d0 nq
    have g1:wd.cell? ⟨b,j * 2,none⟩=some (.int .i64 yk):=by rw [hwd]; exact d1 nq
    have g2:wd.cell? ⟨b,j * 2 + 1,none⟩=some (.int .u64 (yv:Nat)):=by rw [hwd]; exact q1
    rw [← hwd]
    clear d0 d1 d2 q1 hwd c0
    have hb3:=ba wd (.cells #[.int .i64 yk,.int .u64 (yv:Nat)] 114)
    have own3:OwnPr (wd.alloc (.cells #[.int .i64 yk,.int .u64 (yv:Nat)] 114)) w1.heap.size A2 c2 (othersP (P.take j) cy):=World.ownsRow.kept hown (lbelow_grown hb3 none) (by rcases (Value.slice A2 (othersP (P.take j) cy).length c2).ownBlock with _ | k; exact .inl rfl; exact .inr (fun e => by cases e))
    obtain ⟨A5,c5,w5,hrun,hE5,hg5⟩:=pr_more own3 n2 hn2 (by omega) yk yv wd.heap.size (by have:=hb.size; have:=hb3.size; omega) (Blk.new wd _ _)
    have hB5:=(bt hb hb3).grown hg5 (by have:=hb.size; have:=hb3.size; omega) (fun r e => (World.ownsRow.lt own3 r (by rw [ownBlock_slice]; exact e)).1)
    have HX:Hid (n2 + 1=(othersP (P.take (j + 1)) cy).length∧OwnPr w5 w1.heap.size A5 c5 (othersP (P.take (j + 1)) cy)∧Below w1.heap.size w1 w5):=Lib.hid (by rw [HS.out,List.length_append,← hn2]; exact ⟨rfl,hE5,hB5⟩)
    clear hown hb hn2 hb3 own3 hE5 hg5 hB5
    go_wp2_with (at_builtin; refine wpList_append_run rfl (.tmp 26) (.tmp 34) 26 rfl _ _ _ w5 rfl rfl hrun ?_)
    go_roundw
    case rel => exact ⟨j + 1,n2 + 1,c5,A5,rfl,by omega,by omega,by go_num,HX⟩
    case measure => simp [intOf]; omega
  ·have hjI:¬ (j:Int) < (nP:Int):=by omega
   have hjj:P.take j=P:=List.take_of_length_le (by have:=HN.out; omega)
   obtain ⟨hn2,hown,hb⟩:=HR.out
   rw [hjj] at hn2 hown
   have hkr:=H1.out.2.2.2.2.1.below hb H1.out.2.2.2.2.1.lt
   have hkc:=H1.out.2.2.2.1.below hb H1.out.2.2.2.1.lt
   have c0:wr.cell? ⟨x,0,none⟩=some (.slice AP nP cP):=hkr.cell 0
   have f0:=hkr.frozen 0
   have d0:wr.cell? ⟨gc,0,none⟩=some (.int .i64 ck):=hkc.cell 0
   have d1:wr.cell? ⟨gc,1,none⟩=some (.int .i64 cy):=hkc.cell 1
   have d2:wr.cell? ⟨gc,2,none⟩=some (.int .u64 (cv:Nat)):=hkc.cell 2
   have hol:(othersP P cy).length≤P.length:=List.length_filter_le _ _
   have hbw:=bt H1.out.2.1 hb
   by_cases hk1:ck=1
   ·subst hk1
    have hset:setPr P ⟨1,cy,cv⟩=othersP P cy ++ [(cy,cv)]:=if_pos rfl
    have hb3:=ba wr (.cells #[.int .i64 cy,.int .u64 (cv:Nat)] 114)
    have own3:OwnPr (wr.alloc (.cells #[.int .i64 cy,.int .u64 (cv:Nat)] 114)) w1.heap.size A2 c2 (othersP P cy):=World.ownsRow.kept hown (lbelow_grown hb3 none) (by rcases (Value.slice A2 (othersP P cy).length c2).ownBlock with _ | k; exact .inl rfl; exact .inr (fun e => by cases e))
    obtain ⟨A5,c5,w5,hrun,hE5,hg5⟩:=pr_more own3 n2 hn2 (by omega) cy cv wr.heap.size (by have:=hb.size; have:=hb3.size; omega) (Blk.new wr _ _)
    have hB5:=(bt hb hb3).grown hg5 (by have:=hb.size; have:=hb3.size; omega) (fun r e => (World.ownsRow.lt own3 r (by rw [ownBlock_slice]; exact e)).1)
    have hkr5:=H1.out.2.2.2.2.1.below hB5 H1.out.2.2.2.2.1.lt
    have g0:=hkr5.frozen 0
    have g1:w5.cell? ⟨x,0,none⟩=some (.slice AP nP cP):=hkr5.cell 0
    have HX:Hid (RAt D (w5.setCell ⟨x,0,none⟩ (.slice A5 (n2 + 1) c5)) B x (setPr P ⟨1,cy,cv⟩) ws L∧w.grownBy (w5.setCell ⟨x,0,none⟩ (.slice A5 (n2 + 1) c5)) (some x)):=Lib.hid (by
     rw [hset]
     exact ⟨(H1.out.1.below hB5).rpr (by rw [List.length_append,← hn2]; rfl) hE5 H1.out.2.2.1 (by rw [List.length_append]; have:=HN.out; simp; omega),(lbelow_grown (bt H1.out.2.1 hB5) (some x)).trans (lgrown_set w5 ⟨x,0,none⟩ _)⟩)
    clear hn2 hown hb hkr hkc HR hjj hol hbw hset hb3 own3 hE5 hg5 hB5 hkr5
    go_wp2_with (at_builtin; refine wpList_append_run rfl (.tmp 39) (.tmp 45) 26 rfl _ _ _ w5 rfl rfl hrun ?_)
    go_end0
    exact ⟨rfl,HX.out⟩
   ·have e1:(ck == 1)=false:=by simp [hk1]
    have HX:Hid (RAt D (wr.setCell ⟨x,0,none⟩ (.slice A2 n2 c2)) B x (setPr P ⟨ck,cy,cv⟩) ws L∧w.grownBy (wr.setCell ⟨x,0,none⟩ (.slice A2 n2 c2)) (some x)):=Lib.hid (by
     rw [show setPr P ⟨ck,cy,cv⟩=othersP P cy from if_neg hk1]
     exact ⟨(H1.out.1.below hb).rpr hn2 hown H1.out.2.2.1 (by have:=HN.out; omega),(lbelow_grown hbw (some x)).trans (lgrown_set wr ⟨x,0,none⟩ _)⟩)
    clear hn2 hown hb hkr hkc HR hjj hol hbw
    go_wp2
    go_end0
    exact ⟨rfl,HX.out⟩
end Go.Proofs.YtlliaihmfimdoaaGreat.Ds


namespace Go.Proofs.YtlliaihmfimdoaaGreat.Ds
open Go.Proofs.YtlliaihmfimdoaaGreat
variable {D:Value × Value × Value}
open Go.RowKit Go.Maps Go.Joins Go.Deep
set_option maxRecDepth 100000 in
set_option maxHeartbeats 4000000 in
theorem rcommit_any (B x:Nat) (P:List (Int × Nat)) (ws:List WI) (L:List LRow) (n:Int) (w:World) (h:RAt D w B x P ws L) (hB:B≤w.heap.size) (hP:POk P) (hk:∀ c ∈ listW ws n,keyB c.y=true) :
  Calls Tryz.prog 88 #[.pointer (some ⟨x,0,none⟩),.int .i64 n] w fun e w' => e=.returned (.int .i64 (commitR P ws L n).1)∧RAt D w' B x (commitR P ws L n).2.1 (commitR P ws L n).2.2.1 (commitR P ws L n).2.2.2∧w.grownBy w' (some x):=by
 have HF:=Lib.hid (find_any B x P ws L n w h)
 rcases a1:decide (n < 1) with _ | _
 ·have p1:¬ n < 1:=of_decide_eq_false a1
  have hM:commitR P ws L n=(0,(listW ws n).foldl setPr P,othersW ws n,dropL L n):=if_neg p1
  rw [hM]
  rcases hf:findW ws n with _ | z
  ·have hl:listW ws n=[]:=by unfold listW; rw [hf]
   rw [hl]
   have HD:=Lib.hid (rsdrop_any B x P ws L n w h hB)
   rw [hf] at HF
   clear h hP hk hM hf hl
   go_enter Tryz.func88,Tryz.ntmps88
   go_wp2_with fail
   refine HF.out.mono ?_
   rintro e w1 ⟨rfl,rfl⟩
   dsimp only [Option.map_none]
   go_wp2_with fail
   go_loopw [6] (fun i wr => i=.int .i64 (0:Nat)∧w=wr) (fun i _ => 0)
   case atStart => exact ⟨rfl,rfl⟩
   case round =>
    obtain ⟨rfl,rfl⟩:=hrel
    go_wp2_with fail
    refine HD.out.mono ?_
    rintro e w2 ⟨rfl,hr⟩
    have HX:=Lib.hid hr
    clear hr
    go_wp2
    go_ret
    exact ⟨rfl,HX.out⟩
  ·have hl:listW ws n=z.l:=by unfold listW; rw [hf]
   rw [hl] at hk ⊢
   have hzm:z ∈ ws:=List.mem_of_find?_eq_some hf
   have hlen:=h.sm.2.2.2 z hzm
   have hwk:=fun (u:World) (P':List (Int × Nat)) (hu:RAt D u B x P' ws L) => hu.wk z hzm
   rw [hf] at HF
   obtain ⟨zq,zn,zA,zc,zl,zp⟩:=z
   dsimp only at hwk hlen hk ⊢
   obtain ⟨nl,hnl⟩:∃ nl,nl=zl.length:=⟨_,rfl⟩
   rw [← hnl] at hwk hlen
   have HW:=Lib.hid hwk
   have HN:=Lib.hid hnl
   have HK:=Lib.hid (And.intro hP (And.intro hk hB))
   have HI:Hid (RAt D w B x ((zl.take 0).foldl setPr P) ws L∧w.grownBy w (some x)):=Lib.hid ⟨h,lbelow_grown (Below.refl _ _) _⟩
   have hq6:(nl:Int)≤100:=by omega
   clear h hP hk hM hf hl hzm hwk hnl hB
   go_enter Tryz.func88,Tryz.ntmps88
   go_wp2_with fail
   refine HF.out.mono ?_
   rintro e w1 ⟨rfl,rfl⟩
   dsimp only [Option.map_some]
   go_wp2_with fail
   go_loopw [6] (fun i wr => ∃ j:Nat,j≤nl∧i=.int .i64 j∧Hid (RAt D wr B x ((zl.take j).foldl setPr P) ws L∧w.grownBy wr (some x))) (fun i _ => nl - (intOf i).toNat)
   case atStart => exact ⟨0,Nat.zero_le _,rfl,HI⟩
   case round =>
    clear HI
    obtain ⟨j,hj,rfl,HR⟩:=hrel
    obtain ⟨_,hz2,hz3⟩:=HW.out wr _ HR.out.1
    have z1:wr.cell? ⟨zq,1,none⟩=some (.slice zA nl zc):=hz2.cell 1
    have hpok:POk ((zl.take j).foldl setPr P):=HK.out.1.fold _ _ (fun c hc => HK.out.2.1 c (List.mem_of_mem_take hc))
    have hBr:B≤wr.heap.size:=Nat.le_trans HK.out.2.2 HR.out.2.size
    by_cases hjn:j < nl
    ·have hjI:(j:Int) < (nl:Int):=by omega
     have hjL:j < zl.length:=by rw [← HN.out]; exact hjn
     obtain ⟨b,o,rfl,_,hcs⟩:=hz3.at_ (by omega)
     obtain ⟨r0,r1,r2⟩:=hcs j hjL
     have hsn:(zl.take (j + 1)).foldl setPr P=setPr ((zl.take j).foldl setPr P) (zl[j]'hjL):=by
      rw [List.take_add_one,List.getElem?_eq_getElem hjL,List.foldl_append]; rfl
     have hset:=rset_any B x ((zl.take j).foldl setPr P) ws L (zl[j]'hjL) wr HR.out.1 hBr (by have:=hpok.len; omega)
     generalize zl[j]'hjL=c at r0 r1 r2 hsn hset
     obtain ⟨ck,cy,cv⟩:=c
     dsimp only at r0 r1 r2 hsn hset
     have HS:=Lib.hid (And.intro hset hsn)
     clear hcs hjL hset hsn hz2 hz3 hpok hBr
     go_wp2_with fail
     refine HS.out.1.mono ?_
     rintro e w2 ⟨rfl,hr,hg⟩
     have HX:Hid (RAt D w2 B x ((zl.take (j + 1)).foldl setPr P) ws L∧w.grownBy w2 (some x)):=Lib.hid ⟨by rw [HS.out.2]; exact hr,HR.out.2.trans hg⟩
     clear hr hg z1 r0 r1 r2
     go_wp2
     go_roundw
     case rel => exact ⟨j + 1,by omega,by go_num,HX⟩
     case measure => simp [intOf]; omega
    ·have hjI:¬ (j:Int) < (nl:Int):=by omega
     have hjj:zl.take j=zl:=List.take_of_length_le (by have:=HN.out; omega)
     have hR:=HR.out
     rw [hjj] at hR
     have HD:=Lib.hid (And.intro (rsdrop_any B x _ ws L n wr hR.1 hBr) hR.2)
     clear hjj hR hz2 hz3 hpok hBr
     go_wp2_with fail
     refine HD.out.1.mono ?_
     rintro e w2 ⟨rfl,hr,hg⟩
     have HX:=Lib.hid (And.intro hr (HD.out.2.trans hg))
     clear hr hg z1 HR
     go_wp2
     go_ret
     exact ⟨rfl,HX.out⟩
 ·have p1:n < 1:=of_decide_eq_true a1
  have hM:commitR P ws L n=(1,P,ws,L):=if_pos p1
  rw [hM]
  have H:=Lib.hid h
  clear h hP hk hM HF
  go_enter Tryz.func88,Tryz.ntmps88
  go_wp2
  go_ret
  exact ⟨rfl,H.out,lbelow_grown (Below.refl _ _) _⟩
end Go.Proofs.YtlliaihmfimdoaaGreat.Ds

