/- Parts E11 E12 E13 of one proof. -/
import Derived.Test.YtlliaihmfimdoaaGreatMg16
import Derived.Test.YtlliaihmfimdoaaGreatMg15
import Derived.Test.YtlliaihmfimdoaaGreatMg17
set_option linter.unusedSimpArgs false
set_option linter.unusedVariables false
namespace Go.Proofs.YtlliaihmfimdoaaGreat.Ds
open Go.Proofs.YtlliaihmfimdoaaGreat
variable {D:Value × Value × Value}
open Go.RowKit Go.Maps Go.Joins Go.Deep
def RChangeO (D:Value × Value × Value) (w:World) (B x:Nat) (P:List (Int × Nat)) (ws:List WI) (L:List LRow) (n:Int) (ch:Ch) (e:Ending) (w':World):Prop :=
 ∃ q,w.heap.size≤q∧e=.returned (.int .i64 (touchM ws L n ch.y true q).1)∧RG B w w' x (fun r => ∃ y ∈ ws,blk y.A=some r) ∧
  (((touchM ws L n ch.y true q).1≠0∧RAt D w' B x P (touchM ws L n ch.y true q).2.1 (touchM ws L n ch.y true q).2.2) ∨
  ((touchM ws L n ch.y true q).1=0∧∃ z A' c',findW (touchM ws L n ch.y true q).2.1 n=some z∧RAt D w' B x P (turnW (touchM ws L n ch.y true q).2.1 { z with A:=A',c:=c',l:=withL z.l ch }) (touchM ws L n ch.y true q).2.2∧∀ r,blk A'=some r→(∃ y ∈ ws,blk y.A=some r)∨w.heap.size≤r))
set_option maxRecDepth 100000 in
set_option maxHeartbeats 4000000 in
theorem rchange_any (B x:Nat) (P:List (Int × Nat)) (ws:List WI) (L:List LRow) (n:Int) (ch:Ch) (w:World) (h:RAt D w B x P ws L) (hB:B≤w.heap.size) (hl:ws.length < 100) (hok:LOk L) (hnc:NoClash L) (hll:∀ y ∈ ws,y.l.length < 100) :
  Calls Tryz.prog 83 #[.pointer (some ⟨x,0,none⟩),.int .i64 n,.agg #[.int .i64 ch.k,.int .i64 ch.y,.int .u64 (ch.v:Nat)]] w (RChangeO D w B x P ws L n ch):=by
 obtain ⟨ck,cy,cv⟩:=ch
 dsimp only
 obtain ⟨w1,hw1⟩:∃ w1,w1=w.alloc (.cells #[.int .i64 ck,.int .i64 cy,.int .u64 (cv:Nat)] 74):=⟨_,rfl⟩
 have b1:Below w.heap.size w w1:=by rw [hw1]; exact ba _ _
 have k1:Blk w1 w.heap.size 74 #[.int .i64 ck,.int .i64 cy,.int .u64 (cv:Nat)]:=by rw [hw1]; exact Blk.new _ _ _
 obtain ⟨gc,hgc⟩:∃ gc,gc=w.heap.size:=⟨_,rfl⟩
 rw [← hgc] at k1
 have HT:=Lib.hid (touch_any B x P ws L n cy true w1 (h.below b1) (Nat.le_trans hB b1.size) hl hok hnc)
 have H1:=Lib.hid (And.intro b1 (And.intro k1 (And.intro hll h.sm)))
 have d1:w1.cell? ⟨gc,1,none⟩=some (.int .i64 cy):=k1.cell 1
 have hxl:x < gc:=by obtain ⟨_,_,_,_,_,_,_,_,_,hk,_⟩:=h.ex; rw [hgc]; exact hk.lt
 have HW1:=Lib.hid hw1
 have Hgc:=Lib.hid hgc
 rw [hw1,hgc] at d1
 clear h hl hok hnc hw1 b1 k1 hgc hll hB
 go_enter Tryz.func83,Tryz.ntmps83
 go_wp2_with fail
 rw [← HW1.out,← Hgc.out]
 refine HT.out.mono ?_
 rintro e w2 ⟨q,hq,rfl,hR,hG⟩
 clear d1
 have hfound:=touch_found (ws:=ws) (L:=L) (n:=n) (y:=cy) (al:=true) (q:=q)
 have hrg:RG B w w2 x (fun r => ∃ y ∈ ws,blk y.A=some r):=(RG.of (lbelow_grown H1.out.1 (some x))).trans hG (fun _ _ h => h.elim)
 have hqq:w.heap.size≤q:=Nat.le_trans H1.out.1.size hq
 have hdone:∀ w',RChangeO D w B x P ws L n ⟨ck,cy,cv⟩ (.returned (.int .i64 (touchM ws L n cy true q).1)) w'=RChangeO D w B x P ws L n ⟨ck,cy,cv⟩ (.returned (.int .i64 (touchM ws L n cy true q).1)) w':=fun _ => rfl
 rcases he:((touchM ws L n cy true q).1 != 0) with _ | _
 ·have h0:(touchM ws L n cy true q).1=0:=by simpa using he
  obtain ⟨z,hfz,hzm,hzn,hzp⟩:=hfound h0
  have hkb:Blk w2 gc 74 #[.int .i64 ck,.int .i64 cy,.int .u64 (cv:Nat)]:=hG.blk H1.out.2.1 (by omega) (by decide) (by decide) (fun _ h => h)
  have hz:=hR.wk z hzm
  have hzl:z.l.length < 100:=by
   rcases touch_mem hzm with h | ⟨h,_⟩
   ·exact H1.out.2.2.1 z h
   ·rw [h]; simp
  have hzS:∀ r,blk z.A=some r→∃ y ∈ ws,blk y.A=some r:=fun r e => by
   rcases touch_mem hzm with h | ⟨_,h⟩
   ·exact ⟨z,h,e⟩
   ·rw [h] at e; cases e
  have HF:=Lib.hid (find_any B x P _ _ n w2 hR)
  rw [hfz] at HF
  have hfin:∀ w' A' c',RAt D w' B x P (turnW (touchM ws L n cy true q).2.1 { z with A:=A',c:=c',l:=withL z.l ⟨ck,cy,cv⟩ }) (touchM ws L n cy true q).2.2→RG B w2 w' x (fun r => ∃ y ∈ ws,blk y.A=some r)→(∀ r,blk A'=some r→(∃ y ∈ ws,blk y.A=some r)∨w2.heap.size≤r)→RChangeO D w B x P ws L n ⟨ck,cy,cv⟩ (.returned (.int .i64 0)) w':=fun w' A' c' h1 h2 h3 => ⟨q,hqq,by rw [h0],hrg.trans h2 (fun _ _ h => h),.inr ⟨h0,z,A',c',hfz,h1,fun r e => (h3 r e).imp id (Nat.le_trans hrg.size)⟩⟩
  rw [h0]
  have hgcs:=hkb.lt
  have HU:=Lib.hid (And.intro hR (And.intro hzm (And.intro hzS hfin)))
  obtain ⟨zq,zn,zA,zc,zl,zp⟩:=z
  dsimp only at hz hzl hzp HU
  subst hzp
  obtain ⟨nl,hnl⟩:∃ nl,nl=zl.length:=⟨_,rfl⟩
  rw [← hnl] at hz hzl
  have HZ:=Lib.hid (And.intro hnl (And.intro hz hkb))
  have hq6:(nl:Int)≤100:=by omega
  have HIn:Hid (Below w2.heap.size w2 w2):=Lib.hid (Below.refl _ _)
  clear hR hG hfound hrg hdone hqq hq HT h0 hfz hzm hzn hkb hz hzS hfin hnl he
  go_wp2_with fail
  refine HF.out.mono ?_
  rintro e w3 ⟨rfl,rfl⟩
  dsimp only [Option.map_some]
  go_wp2_with fail
  go_loopw [9] (fun i wr => ∃ j:Nat,j≤nl∧i=.int .i64 j∧Hid (∀ i,(h:i < zl.length)→i < j→(zl[i]'h).y≠cy)∧Hid (Below w2.heap.size w2 wr)) (fun i _ => nl - (intOf i).toNat)
  case atStart => exact ⟨0,Nat.zero_le _,rfl,Lib.hid (fun i h h2 => by omega),HIn⟩
  case round =>
   clear HIn
   obtain ⟨j,hj,rfl,hno,HB⟩:=hrel
   have hwz:=HZ.out.2.1.2.1.below HB.out HZ.out.2.1.2.1.lt
   have hkc:=HZ.out.2.2.below HB.out HZ.out.2.2.lt
   have z1:wr.cell? ⟨zq,1,none⟩=some (.slice zA nl zc):=hwz.cell 1
   have z1d:=fun m:Nat => cell_drew z1 m
   by_cases hjn:j < nl
   ·have hjI:(j:Int) < (nl:Int):=by omega
    have hjL:j < zl.length:=by rw [← HZ.out.1]; exact hjn
    obtain ⟨b,o,rfl,⟨_,_,_,hbz⟩,hcs⟩:=HZ.out.2.1.2.2.at_ (by omega)
    have hbl:b < w2.heap.size:=(Array.getElem?_eq_some_iff.1 hbz).1
    obtain ⟨r0,r1,r2⟩:=hcs j hjL
    have s1:=fun m:Nat => cell_drew ((HB.out.cell (p:=⟨b,o + j * 3 + 1,none⟩) hbl).trans r1) m
    have k1d:=fun m:Nat => (show (wr.drewN m).cell? ⟨gc,1,none⟩=some (.int .i64 cy) from hkc.cell 1)
    have hyes:Hid ((zl[j]'hjL).y=cy→posN zl cy=j):=Lib.hid (fun e => posN_at hjL hno.out e)
    have hstep:Hid (¬ (zl[j]'hjL).y=cy→∀ i,(h:i < zl.length)→i < j + 1→(zl[i]'h).y≠cy):=Lib.hid (fun h1 i hi hij => by
     by_cases e:i=j
     ·subst e; exact h1
     ·exact hno.out i hi (by omega))
    generalize (zl[j]'hjL).y=yj at s1 hyes hstep
    clear hcs hno hjL r0 r1 r2 hbz hwz hkc
    by_cases h1:yj=cy
    ·subst h1
     have HP:=Lib.hid (hyes.out rfl)
     have e1:(yj == yj)=true:=by simp
     clear hyes hstep
     go_wp2_with fail
     go_quiet (fail)
     have HB2:Hid (Below w2.heap.size w2 (wr.drewN nq)):=Lib.hid (bt HB.out ⟨rfl,rfl,rfl,Nat.le_refl _,fun _ _ => rfl⟩)
     clear s1 k1d z1 z1d HB
     obtain ⟨wd,hwd⟩:∃ wd,wd=wr.drewN nq:=⟨_,rfl⟩
     rw [← hwd] at HB2 ⊢
     clear hwd
     have HB3:Hid (Below w2.heap.size w2 wd.drew):=Lib.hid (bt HB2.out ⟨rfl,rfl,rfl,Nat.le_refl _,fun _ _ => rfl⟩)
     have own0:OwnC wd.drew B (some ⟨b,o,none⟩) zc zl:=own_same HZ.out.2.1.2.2 (fun r hr _ _ => HB3.out.block r hr)
     obtain ⟨g,cap,e⟩:=Joins.ownsRow_form own0 (by have:=HZ.out.1; omega)
     cases e
     have own00:=own0
     unfold OwnC at own0
     rw [← HZ.out.1] at own0
     have hjz:j < zl.length:=by rw [← HZ.out.1]; exact hjn
     have kz0:Blk wd.drew zq 147 #[.int .i64 zn,.slice (some ⟨b,0,none⟩) nl zc,.bool false]:=HZ.out.2.1.2.1.below HB3.out HZ.out.2.1.2.1.lt
     have hzne:blk (some (⟨b,0,none⟩:Addr))≠some zq:=own_ne own00 kz0 (by decide)
     have kc0:Blk wd.drew gc 74 #[.int .i64 ck,.int .i64 yj,.int .u64 (cv:Nat)]:=HZ.out.2.2.below HB3.out HZ.out.2.2.lt
     have st1:=own0.stored (j * 3) (.int .i64 ck)
     obtain ⟨V1,hV1⟩:∃ V1,wd.drew.setCell ⟨b,j * 3,none⟩ (.int .i64 ck)=V1:=⟨_,rfl⟩
     rw [hV1] at st1
     have st2:=st1.1.stored (j * 3 + 1) (.int .i64 yj)
     obtain ⟨V2,hV2⟩:∃ V2,V1.setCell ⟨b,j * 3 + 1,none⟩ (.int .i64 yj)=V2:=⟨_,rfl⟩
     rw [hV2] at st2
     have st3:=st2.1.stored (j * 3 + 2) (.int .u64 (cv:Nat))
     obtain ⟨V3,hV3⟩:∃ V3,V2.setCell ⟨b,j * 3 + 2,none⟩ (.int .u64 (cv:Nat))=V3:=⟨_,rfl⟩
     rw [hV3] at st3
     have hlen:(chV zl).length=nl * 3:=by rw [chV_len,← HZ.out.1]
     obtain ⟨u1,e1'⟩:∃ u1,wd.drew.cell? ⟨b,j * 3,none⟩=some u1:=by rw [own0.cellAt (j * 3) (by omega)]; exact ⟨_,List.getElem?_eq_getElem (by omega)⟩
     obtain ⟨u2,e2'⟩:∃ u2,V1.cell? ⟨b,j * 3 + 1,none⟩=some u2:=by rw [st1.1.cellAt (j * 3 + 1) (by omega)]; exact ⟨_,List.getElem?_eq_getElem (by rw [List.length_set]; omega)⟩
     obtain ⟨u3,e3'⟩:∃ u3,V2.cell? ⟨b,j * 3 + 2,none⟩=some u3:=by rw [st2.1.cellAt (j * 3 + 2) (by omega)]; exact ⟨_,List.getElem?_eq_getElem (by rw [List.length_set,List.length_set]; omega)⟩
     have f1:=own0.frozenAt (j * 3)
     have f2:=st1.1.frozenAt (j * 3 + 1)
     have f3:=st2.1.frozenAt (j * 3 + 2)
     have gr:=(st1.2.trans st2.2).trans st3.2
     have hpos:posN zl yj < zl.length:=by rw [HP.out]; exact hjz
     have hw:withL zl ⟨ck,yj,cv⟩=zl.set j ⟨ck,yj,cv⟩:=by unfold withL; dsimp only; rw [if_pos hpos,HP.out]
     have hln:(withL zl ⟨ck,yj,cv⟩).length=nl:=by rw [hw,List.length_set,← HZ.out.1]
     have ownF:OwnC V3 B (some ⟨b,0,none⟩) zc (withL zl ⟨ck,yj,cv⟩):=by
      unfold OwnC
      rw [hln]
      have:=st3.1
      rw [chV_set (x:=⟨ck,yj,cv⟩)] at this
      rw [hw]
      exact this
     have hsame:∀ k,k < w2.heap.size→k≠zq→blk (some (⟨b,0,none⟩:Addr))≠some k→V3.heap[k]?=w2.heap[k]?:=fun k hk h1 h2 => by
      rw [gr.block k (Nat.lt_of_lt_of_le hk HB3.out.size) (fun e => h2 (by rw [e]; rfl))]
      exact HB3.out.block k hk
     have hsz:w2.heap.size≤V3.heap.size:=Nat.le_trans HB3.out.size gr.size
     have hR6:=HU.out.1.upd (w':=V3) HU.out.2.1 (z':=⟨zq,zn,some ⟨b,0,none⟩,zc,withL zl ⟨ck,yj,cv⟩,false⟩) rfl hsz hsame (by dsimp only; rw [hln]; exact kz0.kept gr (fun e => hzne (by rw [e]; rfl))) ownF (fun r e => .inl e) (by dsimp only; rw [hln]; omega)
     have hrg6:RG B w2 V3 x (fun r => ∃ y ∈ ws,blk y.A=some r):=⟨gr.os.trans HB3.out.os,gr.tape.trans HB3.out.tape,gr.output.trans HB3.out.output,hsz,fun k hb hk _ => hsame k hk (fun e => by have:=HZ.out.2.1.1; omega) (fun e => by have:=(HZ.out.2.1.2.2.lt' k e).1; omega),fun k hk _ => by
      by_cases h1:k=zq
      ·subst h1; exact .inr (.inr (.inl ⟨_,_,HZ.out.2.1.2.1⟩))
      ·by_cases h2:blk (some (⟨b,0,none⟩:Addr))=some k
       ·refine .inr (.inr (.inr ⟨?_,HU.out.2.2.1 k h2⟩))
        obtain ⟨b',e',_,_,hcc,_⟩:=row_cells HZ.out.2.1.2.2 (by rw [← HZ.out.1]; omega)
        cases e'
        injection h2 with h2
        have h2:b=k:=h2
        subst h2
        exact hcc
       ·exact .inl (hsame k hk h1 h2)⟩
     have HX:=Lib.hid (HU.out.2.2.2 _ _ _ hR6 hrg6 (fun r e => .inl (HU.out.2.2.1 r e)))
     have y1:wd.drew.cell? ⟨zq,1,none⟩=some (.slice (some ⟨b,0,none⟩) nl zc):=kz0.cell 1
     have x1:wd.cell? ⟨zq,1,none⟩=some (.slice (some ⟨b,0,none⟩) nl zc):=kz0.cell 1
     have x2:wd.cell? ⟨gc,0,none⟩=some (.int .i64 ck):=kc0.cell 0
     have x3:wd.cell? ⟨gc,1,none⟩=some (.int .i64 yj):=kc0.cell 1
     have x4:wd.cell? ⟨gc,2,none⟩=some (.int .u64 (cv:Nat)):=kc0.cell 2
     clear own0 own00 kz0 hzne kc0 st1 st2 st3 hlen gr hpos hw hln ownF hsame hsz hR6 hrg6 hjz HB2 HB3
     go_wp2_with fail
     go_still_tail 7,(by kernel_rfl)
     repeat still_step
     change wpList _ _ _ _ _ wd.drew
     clear x1 x2 x3 x4
     go_wp2
     go_ret
     exact HX.out
    ·have hno2:Hid (∀ i,(h:i < zl.length)→i < j + 1→(zl[i]'h).y≠cy):=Lib.hid (hstep.out h1)
     have e1:(yj == cy)=false:=by simp [h1]
     clear hyes hstep
     go_wp2_with fail
     go_quiet (fail)
     have HB2:Hid (Below w2.heap.size w2 (wr.drewN nq)):=Lib.hid (bt HB.out ⟨rfl,rfl,rfl,Nat.le_refl _,fun _ _ => rfl⟩)
     clear s1 k1d z1 z1d HB
     go_wp2
     go_roundw
     case rel => exact ⟨j + 1,by omega,by go_num,hno2,HB2⟩
     case measure => simp [intOf]; omega
   ·have hjI:¬ (j:Int) < (nl:Int):=by omega
    have HP:Hid (withL zl ⟨ck,cy,cv⟩=zl ++ [⟨ck,cy,cv⟩]):=Lib.hid (with_new fun z hz e => by
     obtain ⟨i,hi,rfl⟩:=List.mem_iff_getElem.1 hz
     exact hno.out i hi (by have:=HZ.out.1; omega) e)
    clear hno
    go_wp2_with fail
    have hdr:Below wr.heap.size wr wr.drew:=⟨rfl,rfl,rfl,Nat.le_refl _,fun _ _ => rfl⟩
    obtain ⟨W,hW⟩:∃ W,W=wr.drew:=⟨_,rfl⟩
    have hbW:Below w2.heap.size w2 W:=by rw [hW]; exact bt HB.out hdr
    obtain ⟨W1,hW1⟩:∃ W1,W1=W.alloc (.cells #[.int .i64 ck,.int .i64 cy,.int .u64 (cv:Nat)] 74):=⟨_,rfl⟩
    have bW1:Below W.heap.size W W1:=by rw [hW1]; exact ba _ _
    have kW1:Blk W1 W.heap.size 74 #[.int .i64 ck,.int .i64 cy,.int .u64 (cv:Nat)]:=by rw [hW1]; exact Blk.new _ _ _
    have hb1:=bt hbW bW1
    have own1:OwnC W1 B zA zc zl:=own_same HZ.out.2.1.2.2 (fun r hr _ _ => hb1.block r hr)
    obtain ⟨A5,c5,w5,hrun,own5,g5,hat5⟩:=ch_app own1 (some ⟨W.heap.size,0,none⟩) 1 [⟨ck,cy,cv⟩] nl 1 HZ.out.1 rfl (fun b o e i hi => by
     cases e
     obtain rfl:i=0:=by simpa using hi
     exact ⟨kW1.cell 0,kW1.cell 1,kW1.cell 2⟩) (fun _ => ⟨_,_,rfl⟩) (by have:=own1.cap; rw [← HZ.out.1] at this; exact this) (by rw [← HZ.out.1]; simp; omega) (by exact Nat.le_trans (Nat.le_of_lt (Nat.lt_of_le_of_lt (HU.out.1.wk _ HU.out.2.1).1 (HU.out.1.wk _ HU.out.2.1).2.1.lt)) hb1.size)
    have kz1:=HZ.out.2.1.2.1.below hb1 HZ.out.2.1.2.1.lt
    have hzne:blk zA≠some zq:=own_ne own1 kz1 (by decide)
    have kz5:=kz1.kept g5 (fun e => hzne e.symm)
    have e5:w5.cell? ⟨zq,1,none⟩=some (.slice zA nl zc):=kz5.cell 1
    have f5:=kz5.frozen 1
    have ks:=kz5.set_ 1 (.slice A5 (nl + 1) c5)
    have gs:=lgrown_set w5 ⟨zq,1,none⟩ (.slice A5 (nl + 1) c5)
    have own6:=own_kept own5 kz5 (by decide) gs
    have hs1:=hb1.size
    have hln:(withL zl ⟨ck,cy,cv⟩).length=nl + 1:=by rw [HP.out,List.length_append,← HZ.out.1]; rfl
    have hsame:∀ k,k < w2.heap.size→k≠zq→blk zA≠some k→(w5.setCell ⟨zq,1,none⟩ (.slice A5 (nl + 1) c5)).heap[k]?=w2.heap[k]?:=fun k hk h1 h2 => by
     rw [gs.block k (Nat.lt_of_lt_of_le hk (Nat.le_trans hs1 g5.size)) (fun e => h1 (by injection e)),g5.block k (Nat.lt_of_lt_of_le hk hs1) (fun e => h2 e.symm)]
     exact hb1.block k hk
    have hsz:w2.heap.size≤(w5.setCell ⟨zq,1,none⟩ (.slice A5 (nl + 1) c5)).heap.size:=Nat.le_trans hs1 (Nat.le_trans g5.size gs.size)
    have hR6:=HU.out.1.upd (w':=w5.setCell ⟨zq,1,none⟩ (.slice A5 (nl + 1) c5)) HU.out.2.1 (z':=⟨zq,zn,A5,c5,withL zl ⟨ck,cy,cv⟩,false⟩) rfl hsz hsame (by dsimp only; rw [hln]; exact ks) (by dsimp only; rw [HP.out]; unfold OwnC; exact own6) (fun r e => by
     rcases hat5 r e with h | h
     ·exact .inl h
     ·exact .inr (by rw [h]; exact hs1)) (by dsimp only; rw [hln]; omega)
    have hrg6:RG B w2 (w5.setCell ⟨zq,1,none⟩ (.slice A5 (nl + 1) c5)) x (fun r => ∃ y ∈ ws,blk y.A=some r):=⟨gs.os.trans (g5.os.trans hb1.os),gs.tape.trans (g5.tape.trans hb1.tape),gs.output.trans (g5.output.trans hb1.output),hsz,fun k hb hk _ => hsame k hk (fun e => by have:=HZ.out.2.1.1; omega) (fun e => by have:=(World.ownsRow.lt HZ.out.2.1.2.2 k (by rw [ownBlock_slice]; exact e)).1; omega),fun k hk _ => by
     by_cases h1:k=zq
     ·subst h1; exact .inr (.inr (.inl ⟨_,_,HZ.out.2.1.2.1⟩))
     ·by_cases h2:blk zA=some k
      ·refine .inr (.inr (.inr ⟨?_,HU.out.2.2.1 k h2⟩))
       rcases HZ.out.2.1.2.2.2 with ⟨h3,h4⟩ | ⟨g,cap,cur,hv,hb,hg,hrest⟩
       ·injection h3 with e1 _ _; rw [e1] at h2; cases h2
       ·injection hv with e1 _ _
        rw [e1] at h2
        injection h2 with h2
        have h2:g=k:=h2
        subst h2
        exact ⟨_,_,hg⟩
      ·exact .inl (hsame k hk h1 h2)⟩
    have hA5:∀ r,blk A5=some r→(∃ y ∈ ws,blk y.A=some r)∨w2.heap.size≤r:=fun r e => by
     rcases hat5 r e with h | h
     ·exact .inl (HU.out.2.2.1 r h)
     ·exact .inr (by rw [h]; exact hs1)
    have HX:=Lib.hid (HU.out.2.2.2 _ A5 c5 hR6 hrg6 hA5)
    have y1:W.cell? ⟨zq,1,none⟩=some (.slice zA nl zc):=by rw [hW]; exact z1
    have kcW:=HZ.out.2.2.below hbW HZ.out.2.2.lt
    have y2:W.cell? ⟨gc,0,none⟩=some (.int .i64 ck):=kcW.cell 0
    have y3:W.cell? ⟨gc,1,none⟩=some (.int .i64 cy):=kcW.cell 1
    have y4:W.cell? ⟨gc,2,none⟩=some (.int .u64 (cv:Nat)):=kcW.cell 2
    rw [hW1,hW] at hrun
    rw [hW] at y1 y2 y3 y4
    have y5:(wr.alloc (.cells #[.int .i64 ck,.int .i64 cy,.int .u64 (cv:Nat)] 74)).cell? ⟨zq,1,none⟩=some (.slice zA nl zc):=((ba wr (.cells #[.int .i64 ck,.int .i64 cy,.int .u64 (cv:Nat)] 74)).cell (p:=⟨zq,1,none⟩) (HZ.out.2.1.2.1.below HB.out HZ.out.2.1.2.1.lt).lt).trans z1
    have x2:wr.cell? ⟨gc,0,none⟩=some (.int .i64 ck):=hkc.cell 0
    have x3:wr.cell? ⟨gc,1,none⟩=some (.int .i64 cy):=hkc.cell 1
    have x4:wr.cell? ⟨gc,2,none⟩=some (.int .u64 (cv:Nat)):=hkc.cell 2
    clear hdr hW hbW hW1 bW1 kW1 hb1 own1 own5 g5 hat5 kz1 hzne kz5 ks gs own6 hs1 hln hsame hsz hR6 hrg6 hA5 kcW z1d hwz hkc HB
    go_region_law (refine step_append_run rfl (.tmp 53) (.tmp 55) 40 rfl _ _ _ w5 rfl rfl hrun ?_)
    all_goals
     go_wp2
     go_ret
     exact HX.out
 ·have hne:(touchM ws L n cy true q).1≠0:=by simpa using he
  have HX:Hid (RChangeO D w B x P ws L n ⟨ck,cy,cv⟩ (.returned (.int .i64 (touchM ws L n cy true q).1)) w2):=Lib.hid ⟨q,hqq,rfl,hrg,.inl ⟨hne,hR⟩⟩
  obtain ⟨er,her⟩:∃ er,er=(touchM ws L n cy true q).1:=⟨_,rfl⟩
  rw [← her] at HX he ⊢
  clear hR hG hfound hrg hdone hne her hqq hq HT
  go_wp2
  go_ret
  exact HX.out
end Go.Proofs.YtlliaihmfimdoaaGreat.Ds


namespace Go.Proofs.YtlliaihmfimdoaaGreat.Ds
open Go.Proofs.YtlliaihmfimdoaaGreat
variable {D:Value × Value × Value}
open Go.RowKit Go.Maps Go.Joins Go.Deep
theorem RAt.addAt {w:World} {B x:Nat} {P:List (Int × Nat)} {ws:List WI} {L:List LRow} (h:RAt D w B x P ws L) (z:WI) (hk':Blk w z.q 147 #[.int .i64 z.n,.slice z.A z.l.length z.c,.bool z.p]) (hBq:B≤z.q) (hown:OwnC w B z.A z.c z.l) (hq:∀ y ∈ ws,y.q≠z.q) (hA:∀ y ∈ ws,∀ r,blk y.A=some r→blk z.A≠some r) (hzl:z.l.length≤100) (hl:ws.length < 100) :
  ∃ AW nW cW A3 c3 w3,w.cell? ⟨x,1,none⟩=some (.slice AW nW cW)∧nW≤100 ∧
   (Builtin.append_ #[27,27] 27 #[.slice AW nW cW,.slice (some ⟨w.heap.size,0,none⟩) 1 1]).run Tryz.prog (w.alloc (.cells #[.pointer (some ⟨z.q,0,none⟩)] 109))=.ok (.slice A3 (nW + 1) c3) w3 ∧
   w3.cell? ⟨x,1,none⟩=some (.slice AW nW cW)∧w3.frozen? ⟨x,1,none⟩=false ∧
   RAt D (w3.setCell ⟨x,1,none⟩ (.slice A3 (nW + 1) c3)) B x P (ws ++ [z]) L∧RG B w (w3.setCell ⟨x,1,none⟩ (.slice A3 (nW + 1) c3)) x (fun _ => False):=by
 obtain ⟨AP,nP,cP,AW,nW,cW,AL,nL,cL,hk,hnP,hnW,hnL,hpr,hpt,hll⟩:=h.ex
 obtain ⟨w2,hw2⟩:∃ w2,w2=w.alloc (.cells #[.pointer (some ⟨z.q,0,none⟩)] 109):=⟨_,rfl⟩
 have b12:Below w.heap.size w w2:=by rw [hw2]; exact ba _ _
 have kp:Blk w2 w.heap.size 109 #[.pointer (some ⟨z.q,0,none⟩)]:=by rw [hw2]; exact Blk.new _ _ _
 rw [← hw2]
 have h2:=h.below b12
 obtain ⟨hwk,hds,hsm⟩:=And.intro h2.wk (And.intro h2.ds h2.sm)
 have hk2:=hk.below b12 hk.lt
 have hg12:=lbelow_grown b12 (some x)
 have hpt2:OwnPt w2 B AW cW (ws.map WI.q):=own_kept hpt hk (by decide) hg12
 have hpr2:OwnPr w2 B AP cP P:=own_kept hpr hk (by decide) hg12
 have kn2:=hk'.below b12 hk'.lt
 have ow2:OwnC w2 B z.A z.c z.l:=own_kept hown hk (by decide) hg12
 have hs2:=b12.size
 have hkn:=hk'.lt
 obtain ⟨A3,c3,w3,hrun,own3,hg3⟩:=pt_more hpt2 nW (by rw [List.length_map]; exact hnW) (by omega) z.q w.heap.size (by omega) (kp.cell 0)
 have hxne:blk AW≠some x:=own_ne hpt2 hk2 (by decide)
 have hk3:Blk w3 x 38 #[.slice AP nP cP,.slice AW nW cW,.slice AL nL cL,D.1,D.2.1,D.2.2]:=hk2.kept hg3 (fun e => hxne e.symm)
 have hgs:=lgrown_set w3 ⟨x,1,none⟩ (.slice A3 (nW + 1) c3)
 have hnb:∀ {t:TypeId} {g:Nat} {cs:Array Value},Blk w2 g t cs→109≠t→some g≠blk AW:=fun hb ht e => own_ne hpt2 hb ht e.symm
 have hpb:∀ r,blk AW=some r→∃ cs fz,w2.heap[r]?=some (.cells cs 109 fz):=fun r e => by
  rcases hpt2.2 with ⟨h1,h2⟩ | ⟨g',cap',cur',h1,hbb',hg',_⟩
  ·injection h1 with e1 _ _
   rw [e1] at e
   cases e
  ·injection h1 with e1 _ _
   rw [e1] at e
   injection e with e
   have e:g'=r:=e
   subst e
   exact ⟨_,_,hg'⟩
 have hok:∀ {k n c m:Nat} {t:TypeId} {A:Option Addr} {vs:List Value},w2.ownsRow B t k (.slice A n c) m vs→t≠109→w3.ownsRow B t k (.slice A n c) m vs:=fun {k n c m t A vs} ho ht =>
  own_same ho fun r hr ⟨cs,fz,e⟩ _ => hg3.block r hr (fun e2 => by
   obtain ⟨cs2,fz2,e3⟩:=hpb r e2.symm
   rw [e3] at e
   injection e with e
   injection e with _ e _
   exact ht e.symm)
 refine ⟨AW,nW,cW,A3,c3,w3,hk.cell 1,by omega,hrun,hk3.cell 1,hk3.frozen 1,?_,?_⟩
 ·have hwk3:∀ y ∈ ws ++ [z],B≤y.q∧Blk w3 y.q 147 #[.int .i64 y.n,.slice y.A y.l.length y.c,.bool y.p]∧OwnC w3 B y.A y.c y.l:=fun y hy => by
   rcases List.mem_append.1 hy with hy | hy
   ·obtain ⟨g1,g2,g3⟩:=hwk y hy
    exact ⟨g1,g2.kept hg3 (hnb g2 (by decide)),hok g3 (by decide)⟩
   ·obtain rfl:=List.mem_singleton.1 hy
    exact ⟨hBq,kn2.kept hg3 (hnb kn2 (by decide)),hok ow2 (by decide)⟩
  have own3':OwnPt w3 B A3 c3 ((ws ++ [z]).map WI.q):=by rw [List.map_append]; exact own3
  have hll3:LRows w3 B AL cL L:=(hll.below b12).kept hg3 fun r e => .inr (by
   rcases hpt2.2 with ⟨h1,h2⟩ | ⟨g',cap',cur',h1,hbb',hg',_⟩
   ·injection h1 with e1 _ _
    rw [e1] at e
    cases e
   ·injection h1 with e1 _ _
    rw [e1] at e
    injection e with e
    have e:g'=r:=e
    subst e
    exact ⟨_,_,by decide,hg'⟩)
  have ks:=hk3.set_ 1 (.slice A3 (nW + 1) c3)
  refine ⟨⟨AP,nP,cP,A3,nW + 1,c3,AL,nL,cL,ks,hnP,by rw [List.length_append,hnW]; rfl,hnL,own_kept (hok hpr2 (by decide)) hk3 (by decide) hgs,?_,?_⟩,wk_kept hwk3 hk3 hgs,?_,hsm.1,?_,hsm.2.2.1,?_⟩
  ·have:=own3'
   unfold OwnPt at this ⊢
   exact own_kept this hk3 (by decide) hgs
  ·exact hll3.kept hgs fun r e => by cases e; exact .inr ⟨_,_,by decide,hk3⟩
  ·rw [List.pairwise_append]
   refine ⟨hds,List.pairwise_singleton _ _,fun a ha b hb => ?_⟩
   obtain rfl:=List.mem_singleton.1 hb
   exact ⟨hq a ha,hA a ha⟩
  ·rw [List.length_append]; simp; omega
  ·intro y hy
   rcases List.mem_append.1 hy with hy | hy
   ·exact hsm.2.2.2 y hy
   ·obtain rfl:=List.mem_singleton.1 hy
    exact hzl
 ·have r12:RG B w w2 x (fun _ => False):=RG.of hg12
  refine (r12.trans (⟨hg3.os,hg3.tape,hg3.output,hg3.size,fun k hb hk' hx => hg3.block k hk' (fun e => by have:=(World.ownsRow.lt hpt2 k (by rw [ownBlock_slice]; exact e.symm)).1; omega),fun k hk' hx => ?_⟩:RG B w2 w3 x (fun _ => False)) (fun _ _ h => h)).trans (RG.of hgs) (fun _ _ h => h)
  by_cases e:blk AW=some k
  ·exact .inr (.inl (hpb k e))
  ·exact .inl (hg3.block k hk' (fun e' => e e'.symm))
end Go.Proofs.YtlliaihmfimdoaaGreat.Ds


namespace Go.Proofs.YtlliaihmfimdoaaGreat.Ds
open Go.Proofs.YtlliaihmfimdoaaGreat
variable {D:Value × Value × Value}
open Go.RowKit Go.Maps Go.Joins Go.Deep
def RRestO (D:Value × Value × Value) (w:World) (B x:Nat) (P:List (Int × Nat)) (ws:List WI) (L:List LRow) (n:Int) (l:List Ch) (e:Ending) (w':World):Prop :=
 e=.returned (.int .i64 (restE ws L n l))∧RG B w w' x (fun _ => False) ∧
  (((n < 1∨areB (fun _ => false) l=false∨(findW ws n).isSome=true)∧RAt D w' B x P ws L) ∨
  (1≤n∧areB (fun _ => false) l=true∧findW ws n=none∧(((takeAll L n l).1≠0∨l=[])∧RAt D w' B x P ws (takeAll L n l).2 ∨
   (takeAll L n l).1=0∧l≠[]∧∃ q A c,w.heap.size≤q∧RAt D w' B x P (ws ++ [⟨q,n,A,c,l,true⟩]) (takeAll L n l).2∧∀ r,blk A=some r→w.heap.size≤r)))
set_option maxRecDepth 100000 in
set_option maxHeartbeats 4000000 in
theorem rrest_any (B x:Nat) (P:List (Int × Nat)) (ws:List WI) (L:List LRow) (n:Int) (A:Option Addr) (l:List Ch) (q c:Nat) (w:World) (h:RAt D w B x P ws L) (hB:B≤w.heap.size) (hl:ws.length < 100) (hok:LOk L) (hnc:NoClash L) (hq:Hid (q=l.length)) (hqm:q≤100) (hc:∀ u,w.grownBy u (some x)→InL u A l) (hn:i64ok n) :
  Calls Tryz.prog 92 #[.pointer (some ⟨x,0,none⟩),.int .i64 n,.slice A q c] w (RRestO D w B x P ws L n l):=by
 have HR:=Lib.hid (rright_any A l q c w hq (by omega) (hc w (lbelow_grown (Below.refl _ _) _)))
 rcases a1:decide (n < 1) with _ | _
 ·have p1:¬ n < 1:=of_decide_eq_false a1
  rcases ha:areB (fun _ => false) l with _ | _
  ·rw [ha] at HR
   have HX:Hid (∀ w',Below w.heap.size w w'→RRestO D w B x P ws L n l (.returned (.int .i64 1)) w'):=Lib.hid (fun w' hb => ⟨by unfold restE; rw [if_neg p1,if_pos ha],RG.of (lbelow_grown hb _),.inl ⟨.inr (.inl ha),h.below hb⟩⟩)
   clear h hok hnc ha hc
   go_enter Tryz.func92,Tryz.ntmps92
   go_wp2_with fail
   refine HR.out.mono ?_
   rintro e w1 ⟨rfl,b1⟩
   have HY:=Lib.hid (HX.out w1 b1)
   clear b1
   go_wp2
   go_ret
   exact HY.out
  ·rw [ha] at HR
   have HF:=fun (w':World) (hb:Below w.heap.size w w') => find_any B x P ws L n w' (h.below hb)
   rcases hf:findW ws n with _ | z
   ·rw [hf] at HF
    have HFF:=Lib.hid HF
    have HH:=Lib.hid (And.intro h (And.intro hB (And.intro hl (And.intro hc hn))))
    have HAf:=Lib.hid (And.intro ha hf)
    have HI:Hid (∃ L0,takeAll L n l=takeAll L0 n (l.drop 0)∧LOk L0∧NoClash L0∧RAt D w B x P ws L0):=Lib.hid ⟨L,rfl,hok,hnc,h⟩
    clear h hok hnc ha hc HF hf
    go_enter Tryz.func92,Tryz.ntmps92
    go_wp2_with fail
    refine HR.out.mono ?_
    rintro e w1 ⟨rfl,b1⟩
    have HI1:Hid (∃ L0,takeAll L n l=takeAll L0 n (l.drop 0)∧LOk L0∧NoClash L0∧RAt D w1 B x P ws L0∧w.grownBy w1 (some x)):=Lib.hid (by
     obtain ⟨L0,e1,e2,e3,e4⟩:=HI.out
     exact ⟨L0,e1,e2,e3,e4.below b1,lbelow_grown b1 _⟩)
    have HF1:=Lib.hid (HFF.out w1 b1)
    clear b1 HR HI HFF
    go_wp2_with fail
    refine HF1.out.mono ?_
    rintro e w2 ⟨rfl,rfl⟩
    dsimp only [Option.map_none]
    go_wp2_with fail
    have hin:=HH.out.2.2.2.2
    go_loopw [7] (fun i wr => ∃ j:Nat,j≤q∧i=.int .i64 j∧Hid (∃ L0,takeAll L n l=takeAll L0 n (l.drop j)∧LOk L0∧NoClash L0∧RAt D wr B x P ws L0∧w.grownBy wr (some x))) (fun i _ => q - (intOf i).toNat)
    case atStart => exact ⟨0,Nat.zero_le _,rfl,HI1⟩
    case round =>
     clear HI1
     obtain ⟨j,hj,rfl,HV⟩:=hrel
     by_cases hjq:j < q
     ·have hjI:(j:Int) < (q:Int):=by omega
      have hjl:j < l.length:=by rw [← hq.out]; exact hjq
      obtain ⟨L0,hta,hok0,hnc0,hR0,hg0⟩:=HV.out
      obtain ⟨AP,nP,cP,AW,nW,cW,AL,nL,cL,hkx,_⟩:=HH.out.1.ex
      have hcr:InL wr A l:=HH.out.2.2.2.1 wr hg0
      obtain ⟨b,o,rfl,_,hcs⟩:=hcr (by omega)
      obtain ⟨r0,r1,r2⟩:=hcs j hjl
      have hbs:=Nat.le_trans HH.out.2.1 hg0.size
      rw [List.drop_eq_getElem_cons hjl] at hta
      have hky:=((are_iff.1 HAf.out.1).1 _ (List.getElem_mem hjl)).2
      generalize l[j]'hjl=ch at r0 r1 r2 hta hky
      obtain ⟨ck,cy,cv⟩:=ch
      dsimp only at r0 r1 r2 hky
      have hiy:=keyB_ok hky
      obtain ⟨cs,hro,hback⟩:=hR0.rof
      have h64:=takeL_len hR0.sm.2.2.1 n cy true
      have hTk:=fun (u:World) (hu:Below wr.heap.size wr u) => rtake_any B x 2 38 cs (by decide) L0 n cy true u (hro.below hu) hR0.sm.2.2.1 (Nat.le_trans hbs hu.size) hok0 hnc0
      have HTk:=Lib.hid hTk
      have r1d:=fun m:Nat => cell_drew r1 m
      have r1dd:wr.drew.cell? ⟨b,o + j * 3 + 1,none⟩=some (.int .i64 cy):=r1
      have HQ:=Lib.hid (And.intro hta (And.intro hok0 (And.intro hnc0 (And.intro hback (And.intro h64 (And.intro hg0 (And.intro hiy (And.intro hbs hR0.sm.2.2.1))))))))
      clear hta hok0 hnc0 hR0 hg0 hkx hcr hcs r0 r2 hro hback hTk h64 HV hjl hbs hky hiy
      go_wp2_with fail
      go_region_with (go_simp; go_at_call 136; refine (HTk.out _ (by first | exact Below.refl _ _ | exact ⟨rfl,rfl,rfl,Nat.le_refl _,fun _ _ => rfl⟩)).mono ?_; rintro e w3 ⟨rfl,⟨v,hv⟩,hg3⟩)
      all_goals
       have hgg:wr.grownBy w3 (some x):=by first | exact hg3 | exact ⟨hg3.os,hg3.tape,hg3.output,hg3.size,hg3.block⟩
       obtain ⟨T,hT⟩:∃ T,T=takeL L0 n cy true:=⟨_,rfl⟩
       have hta:=HQ.out.1
       have hok1:=takeL_ok HQ.out.2.1 HQ.out.2.2.2.2.2.2.1 hin true
       have hnc1:=HQ.out.2.2.1.take n cy true
       have h64:=HQ.out.2.2.2.2.1
       simp only [takeAll] at hta
       rw [← hT] at hv hta hok1 hnc1 h64 ⊢
       obtain ⟨er,L1⟩:=T
       dsimp only at hv hta hok1 hnc1 h64 ⊢
       have hR1:=HQ.out.2.2.2.1 w3 v L1 hv h64 hgg
       have hg1:=HQ.out.2.2.2.2.2.1.trans hgg
       have hb3:=Nat.le_trans HQ.out.2.2.2.2.2.2.2.1 hgg.size
       rcases he:(er != 0) with _ | _
       ·obtain rfl:er=0:=by simpa using he
        rw [if_pos rfl] at hta
        have HX:Hid (∃ L0,takeAll L n l=takeAll L0 n (l.drop (j + 1))∧LOk L0∧NoClash L0∧RAt D w3 B x P ws L0∧w.grownBy w3 (some x)):=Lib.hid ⟨L1,hta,hok1,hnc1,hR1,hg1⟩
        clear hv hg3 hgg hta hok1 hnc1 h64 hR1 hg1 hb3 hT r1d r1dd r1
        go_wp2
        go_roundw
        case rel => exact ⟨j + 1,by omega,by go_num,HX⟩
        case measure => simp [intOf]; omega
       ·have hne:er≠0:=by simpa using he
        rw [if_neg hne] at hta
        obtain ⟨cs2,hro2,hback2⟩:=hR1.rof
        have HD:=Lib.hid (rdrop_any B x 2 38 cs2 (by decide) L1 n w3 hro2 (by omega) hb3)
        have hdl:(dropL L1 n).length≤64:=Nat.le_trans (dropL_len L1 n) h64
        have HE:=Lib.hid (And.intro hback2 (And.intro hdl (And.intro hta hg1)))
        clear hv hg3 hgg hta hok1 hnc1 h64 hR1 hg1 hb3 hT r1d r1dd r1 hro2 hback2 hdl
        go_wp2_with fail
        refine HD.out.mono ?_
        rintro e w4 ⟨rfl,⟨v2,hv2⟩,hg4⟩
        have HX:Hid (RRestO D w B x P ws L n l (.returned (.int .i64 er)) w4):=Lib.hid ⟨by unfold restE; rw [if_neg (show ¬ n < 1 by omega),if_neg (by rw [HAf.out.1]; simp),HAf.out.2,if_neg (by simp),HE.out.2.2.1],(RG.of (HE.out.2.2.2.trans hg4)),.inr ⟨by omega,HAf.out.1,HAf.out.2,.inl ⟨.inl (by rw [HE.out.2.2.1]; exact hne),by rw [HE.out.2.2.1]; exact HE.out.1 w4 v2 _ hv2 HE.out.2.1 hg4⟩⟩⟩
        clear hv2 hg4
        go_wp2
        go_ret
        exact HX.out
     ·have hjI:¬ (j:Int) < (q:Int):=by omega
      have HX0:Hid (∃ w0:World,w0=wr∧RAt D wr B x P ws (takeAll L n l).2∧(takeAll L n l).1=0∧w.grownBy wr (some x)):=Lib.hid (by
       obtain ⟨L0,e1,e2,e3,e4,e5⟩:=HV.out
       rw [List.drop_of_length_le (by rw [← hq.out]; omega)] at e1
       rw [e1]
       exact ⟨wr,rfl,e4,rfl,e5⟩)
      obtain ⟨_,_,hRr,ht0,hgr⟩:=HX0.out
      by_cases hq0:q=0
      ·have hln:l=[]:=List.eq_nil_of_length_eq_zero (by rw [← hq.out]; exact hq0)
       have HX:Hid (RRestO D w B x P ws L n l (.returned (.int .i64 0)) wr):=Lib.hid ⟨by unfold restE; rw [if_neg (show ¬ n < 1 by omega),if_neg (by rw [HAf.out.1]; simp),HAf.out.2,if_neg (by simp),ht0],RG.of hgr,.inr ⟨by omega,HAf.out.1,HAf.out.2,.inl ⟨.inr hln,hRr⟩⟩⟩
       have hqI:¬ (0:Int) < (q:Int):=by omega
       clear hRr ht0 hgr HX0 HV
       subst hln
       subst hq0
       go_wp2
       go_ret
       exact HX.out
      ·have hqI:(0:Int) < (q:Int):=by omega
       clear HV
       have hqn:(q:Int)≤100:=by omega
       have hln:l≠[]:=fun e => hq0 (by rw [hq.out,e]; rfl)
       obtain ⟨AP,nP,cP,AW,nW,cW,AL,nL,cL,hkx,_⟩:=HH.out.1.ex
       have hcr:InL wr A l:=HH.out.2.2.2.1 wr hgr
       obtain ⟨q1,hq1⟩:∃ q1,q1=wr.heap.size:=⟨_,rfl⟩
       obtain ⟨w1,hw1⟩:∃ w1,w1=wr.alloc (.cells #[.int .i64 n,.slice none 0 0,.bool true] 147):=⟨_,rfl⟩
       have b1:Below wr.heap.size wr w1:=by rw [hw1]; exact ba _ _
       have k1:Blk w1 q1 147 #[.int .i64 n,.slice none 0 0,.bool true]:=by rw [hw1,hq1]; exact Blk.new _ _ _
       have hcs:=hcr.below b1
       obtain ⟨A2,c2,w2,hrun,own2,g2,hat2⟩:=ch_app (OwnC.nil w1 w1.heap.size) A c l 0 q rfl hq.out (fun b o e i hi => by
        obtain ⟨b',o',e',_,hc⟩:=hcs (by omega)
        rw [e] at e'
        cases e'
        exact hc i hi) (fun hp => by obtain ⟨b',o',e',_⟩:=hcs hp; exact ⟨b',o',e'⟩) (Nat.le_refl _) (by simp; have:=hq.out; omega) (Nat.le_refl _)
       rw [Nat.zero_add] at hrun
       rw [List.nil_append] at own2
       have b2:Below w1.heap.size w1 w2:=⟨g2.os,g2.tape,g2.output,g2.size,fun k hk => g2.block k hk (by simp [blk])⟩
       have k2:=k1.below b2 k1.lt
       have d2:w2.cell? ⟨q1,1,none⟩=some (.slice none 0 0):=k2.cell 1
       have f2:=k2.frozen 1
       have d1:w1.cell? ⟨q1,1,none⟩=some (.slice none 0 0):=k1.cell 1
       have ks:=k2.set_ 1 (.slice A2 q c2)
       have gs:=lgrown_set w2 ⟨q1,1,none⟩ (.slice A2 q c2)
       have hsz1:=b1.size
       have hsz2:=b2.size
       have hq1s:=k1.lt
       obtain ⟨w3,hw3⟩:∃ w3,w3=w2.setCell ⟨q1,1,none⟩ (.slice A2 q c2):=⟨_,rfl⟩
       rw [← hw3] at gs ks
       have b3:Below wr.heap.size wr w3:=by rw [hw3]; exact (bt b1 b2).setCell (p:=⟨q1,1,none⟩) (by rw [hq1]; exact Nat.le_refl _) _
       have hR3:=hRr.below b3
       have hB3:B≤wr.heap.size:=Nat.le_trans HH.out.2.1 hgr.size
       have own3:OwnC w3 B A2 c2 l:=own_less (own_kept own2 k2 (by decide) gs) (Nat.le_trans hB3 hsz1)
       have hqk:w3.heap.size=w2.heap.size:=by rw [hw3]; simp
       obtain ⟨AW',nW',cW',A5,c5,w5,p1',hnW',hrun5,p5,f5,hR5,hrg5⟩:=hR3.addAt ⟨q1,n,A2,c2,l,true⟩ (by dsimp only; rw [← hq.out]; exact ks) (by dsimp only; rw [hq1]; exact hB3) own3 (fun y hy e => by have:=(hRr.wk y hy).2.1.lt; have e:y.q=q1:=e; omega) (fun y hy r e1 e2 => by
        have h1:=((hRr.wk y hy).2.2.lt' r e1).2
        have h2:=(own2.lt' r e2).1
        omega) (by dsimp only; rw [← hq.out]; exact hqm) HH.out.2.2.1
       rw [hqk] at hrun5
       have HX:Hid (RRestO D w B x P ws L n l (.returned (.int .i64 0)) (w5.setCell ⟨x,1,none⟩ (.slice A5 (nW' + 1) c5))):=Lib.hid ⟨by unfold restE; rw [if_neg (show ¬ n < 1 by omega),if_neg (by rw [HAf.out.1]; simp),HAf.out.2,if_neg (by simp),ht0],((RG.of hgr).bel b3).trans hrg5 (fun _ _ h => h),.inr ⟨by omega,HAf.out.1,HAf.out.2,.inr ⟨ht0,hln,q1,A2,c2,by rw [hq1]; exact hgr.size,hR5,fun r e => Nat.le_trans hgr.size (Nat.le_trans hsz1 (own2.lt' r e).1)⟩⟩⟩
       rw [hw3] at hrun5 p1'
       rw [hw1] at hrun d1
       rw [hq1] at d1 d2 f2 hrun5 p1'
       clear hRr ht0 hgr HX0 hkx hcr hw1 b1 k1 hcs own2 g2 hat2 b2 k2 ks gs hsz1 hsz2 hq1s hw3 b3 hR3 hB3 own3 hqk hR5 hrg5 hln
       go_wp2_with (first
        | (at_builtin; refine wpList_append_run rfl (.tmp 55) (.tmp 56) 40 rfl _ _ _ w2 rfl rfl hrun ?_)
        | (at_builtin; refine wpList_append_run rfl (.tmp 64) (.tmp 66) 27 rfl _ _ _ w5 rfl rfl hrun5 ?_))
       go_ret
       exact HX.out
   ·rw [hf] at HF
    have HFF:=Lib.hid HF
    have hzs:(findW ws n).isSome=true:=by rw [hf]; rfl
    have HX:Hid (∀ w',Below w.heap.size w w'→RRestO D w B x P ws L n l (.returned (.int .i64 7)) w'):=Lib.hid (fun w' hb => ⟨by unfold restE; rw [if_neg p1,if_neg (by rw [ha]; simp),if_pos hzs],RG.of (lbelow_grown hb _),.inl ⟨.inr (.inr hzs),h.below hb⟩⟩)
    clear h hok hnc ha hc HF hf hzs
    go_enter Tryz.func92,Tryz.ntmps92
    go_wp2_with fail
    refine HR.out.mono ?_
    rintro e w1 ⟨rfl,b1⟩
    have HF1:=Lib.hid (HFF.out w1 b1)
    have HY:=Lib.hid (HX.out w1 b1)
    clear b1 HFF HX
    go_wp2_with fail
    refine HF1.out.mono ?_
    rintro e w2 ⟨rfl,rfl⟩
    dsimp only [Option.map_some]
    go_wp2
    go_ret
    exact HY.out
 ·have p1:n < 1:=of_decide_eq_true a1
  have HX:Hid (RRestO D w B x P ws L n l (.returned (.int .i64 1)) w):=Lib.hid ⟨by unfold restE; rw [if_pos p1],RG.of (lbelow_grown (Below.refl _ _) _),.inl ⟨.inl p1,h⟩⟩
  clear h hok hnc hc HR
  go_enter Tryz.func92,Tryz.ntmps92
  go_wp2
  go_ret
  exact HX.out
end Go.Proofs.YtlliaihmfimdoaaGreat.Ds

