/- Parts F14 of one proof. -/
import Derived.Test.YtlliaihmfimdoaaGreatMg35
import Derived.Test.YtlliaihmfimdoaaGreatMg32
set_option linter.unusedSimpArgs false
set_option linter.unusedVariables false
namespace Go.Proofs.YtlliaihmfimdoaaGreat.Qu.Dq
variable {E:Value × Value × Value}
open Go.RowKit Go.Maps Go.Joins Go.Deep
theorem RQ.papp {w:World} {B x:Nat} {P:List (Int × Nat)} {ws:List WI} {gv:Int} (h:RQ E w B x P ws gv) (hB:B≤w.heap.size) (k:Int) (v:Nat) (hl:P.length < 48) :
  ∃ AP nP cP A3 c3 w3,nP=P.length∧w.cell? ⟨x,3,none⟩=some (.slice AP nP cP)∧(w.alloc (.cells #[.int .i64 k,.int .u64 (v:Nat)] 154)).cell? ⟨x,3,none⟩=some (.slice AP nP cP) ∧
   (Builtin.append_ #[33,33] 33 #[.slice AP nP cP,.slice (some ⟨w.heap.size,0,none⟩) 1 1]).run Tryz.prog (w.alloc (.cells #[.int .i64 k,.int .u64 (v:Nat)] 154))=.ok (.slice A3 (nP + 1) c3) w3 ∧
   w3.cell? ⟨x,3,none⟩=some (.slice AP nP cP)∧w3.frozen? ⟨x,3,none⟩=false ∧
   RQ E (w3.setCell ⟨x,3,none⟩ (.slice A3 (nP + 1) c3)) B x (P ++ [(k,v)]) ws gv∧RH B w (w3.setCell ⟨x,3,none⟩ (.slice A3 (nP + 1) c3)) x (fun _ => False):=by
 obtain ⟨AP,nP,cP,AW,nW,cW,hk,hnP,hnW,hpr,hpt⟩:=h.ex
 obtain ⟨w2,hw2⟩:∃ w2,w2=w.alloc (.cells #[.int .i64 k,.int .u64 (v:Nat)] 154):=⟨_,rfl⟩
 have b12:Below w.heap.size w w2:=by rw [hw2]; exact ba _ _
 have kp:Blk w2 w.heap.size 154 #[.int .i64 k,.int .u64 (v:Nat)]:=by rw [hw2]; exact Blk.new _ _ _
 rw [← hw2]
 have h2:=h.below b12
 obtain ⟨hwk,hds,hsm⟩:=And.intro h2.wk (And.intro h2.ds h2.sm)
 have hk2:=hk.below b12 hk.lt
 have hg12:=lbelow_grown b12 (some x)
 have hpt2:OwnPt w2 B AW cW (ws.map WI.q):=own_kept hpt hk (by decide) hg12
 have hpr2:OwnPr w2 B AP cP P:=own_kept hpr hk (by decide) hg12
 have hs2:=b12.size
 obtain ⟨A3,c3,w3,hrun,own3,hg3⟩:=pr_more hpr2 nP hnP (by omega) k v w.heap.size (by omega) kp
 have hxne:blk AP≠some x:=own_ne hpr2 hk2 (by decide)
 have hk3:Blk w3 x 38 #[E.1,E.2.1,E.2.2,.slice AP nP cP,.slice AW nW cW,.int .i64 gv]:=hk2.kept hg3 (fun e => hxne e.symm)
 have hgs:=lgrown_set w3 ⟨x,3,none⟩ (.slice A3 (nP + 1) c3)
 have hnb:∀ {t:TypeId} {g:Nat} {cs:Array Value},Blk w2 g t cs→154≠t→some g≠blk AP:=fun hb ht e => own_ne hpr2 hb ht e.symm
 have hpb:∀ r,blk AP=some r→∃ cs fz,w2.heap[r]?=some (.cells cs 154 fz):=fun r e => by
  rcases hpr2.2 with ⟨h1,h2⟩ | ⟨g',cap',cur',h1,hbb',hg',_⟩
  ·injection h1 with e1 _ _
   rw [e1] at e
   cases e
  ·injection h1 with e1 _ _
   rw [e1] at e
   injection e with e
   have e:g'=r:=e
   subst e
   exact ⟨_,_,hg'⟩
 have hok:∀ {k n c m:Nat} {t:TypeId} {A:Option Addr} {vs:List Value},w2.ownsRow B t k (.slice A n c) m vs→t≠154→w3.ownsRow B t k (.slice A n c) m vs:=fun {k n c m t A vs} ho ht =>
  own_same ho fun r hr ⟨cs,fz,e⟩ _ => hg3.block r hr (fun e2 => by
   obtain ⟨cs2,fz2,e3⟩:=hpb r e2.symm
   rw [e3] at e
   injection e with e
   injection e with _ e _
   exact ht e.symm)
 refine ⟨AP,nP,cP,A3,c3,w3,hnP,hk.cell 3,hk2.cell 3,hrun,hk3.cell 3,hk3.frozen 3,?_,?_⟩
 ·have hwk3:∀ y ∈ ws,B≤y.q∧Blk w3 y.q 149 #[.int .i64 y.n,.slice y.A y.l.length y.c,.bool y.p]∧OwnC w3 B y.A y.c y.l:=fun y hy => by
   obtain ⟨g1,g2,g3⟩:=hwk y hy
   exact ⟨g1,g2.kept hg3 (hnb g2 (by decide)),hok g3 (by decide)⟩
  have ks:=hk3.set_ 3 (.slice A3 (nP + 1) c3)
  refine ⟨⟨A3,nP + 1,c3,AW,nW,cW,ks,by rw [List.length_append,hnP]; rfl,hnW,?_,own_kept (hok hpt2 (by decide)) hk3 (by decide) hgs⟩,wk_kept hwk3 hk3 hgs,hds,?_,hsm.2⟩
  ·have:=own3
   unfold OwnPr at this ⊢
   exact own_kept this hk3 (by decide) hgs
  ·rw [List.length_append]; simp; omega
 ·have r12:RH B w w2 x (fun _ => False):=RH.of hg12
  refine (r12.trans (⟨hg3.os,hg3.tape,hg3.output,hg3.size,fun k hb hk' hx => hg3.block k hk' (fun e => by have:=(World.ownsRow.lt hpr2 k (by rw [ownBlock_slice]; exact e.symm)).1; omega),fun k hk' hx => ?_⟩:RH B w2 w3 x (fun _ => False)) (fun _ _ h => h)).trans (RH.of hgs) (fun _ _ h => h)
  by_cases e:blk AP=some k
  ·exact .inr (.inr (.inr (.inl (hpb k e))))
  ·exact .inl (hg3.block k hk' (fun e' => e e'.symm))
set_option maxRecDepth 100000 in
set_option maxHeartbeats 1000000 in
theorem rload_any (B x:Nat) (P:List (Int × Nat)) (ws:List WI) (gv:Int) (A:Option Addr) (zs:List Nat) (n c:Nat) (next:Int) (w:World) (h:RQ E w B x P ws gv) (hB:B≤w.heap.size) (hn:Hid (n=zs.length)) (hz:∀ u,RH B w u x (fun _ => False)→UAt u A zs) :
  Calls Tryz.prog 55 #[.pointer (some ⟨x,3,none⟩),.slice A n c,.int .i64 next] w fun e w' => e=.returned (.int .i64 (loadR P ws gv zs next).1)∧RQ E w' B x (loadR P ws gv zs next).2.1 ws (loadR P ws gv zs next).2.2∧RH B w w' x (fun _ => False):=by
 obtain ⟨AP,nP,cP,AW,nW,cW,hk,hnP,hnW,_,_⟩:=id h.ex
 have hI:nP=0 ↔ P=[]:=by rw [hnP]; exact List.length_eq_zero_iff
 have hW:nW=0 ↔ ws=[]:=by rw [hnW]; exact List.length_eq_zero_iff
 have d0:=hk.cell 3
 have d1:=hk.cell 4
 simp only [List.getElem?_toArray,List.getElem?_cons_zero,List.getElem?_cons_succ] at d0 d1
 have H:=Lib.hid (And.intro h (And.intro hB hz))
 have HS:Hid (RH B w w x (fun _ => False)):=Lib.hid (RH.of (lbelow_grown (Below.refl _ _) _))
 have hn1:nP≤48:=by rw [hnP]; exact h.sm.1
 clear hk hnP hnW h hB hz
 by_cases hi:nP=0
 ·by_cases hw:nW=0
  ·have hI0:=hI.1 hi
   have hW0:=hW.1 hw
   subst hi hw
   by_cases hb:16 < n∨next≤(n:Int)∨4611686018427387904 < next
   ·have hM:loadR P ws gv zs next=(1,P,gv):=by unfold loadR; rw [if_neg (by simp [hI0,hW0]),if_pos (by rw [← hn.out]; exact hb)]
    rw [hM]
    clear hM hI hW hI0 hW0
    by_cases hb1:16 < n
    ·have b1:(16:Int) < (n:Int):=by omega
     clear hb
     go_enter Tryz.func55,Tryz.ntmps55
     go_wp2
     go_ret
     exact ⟨rfl,H.out.1,HS.out⟩
    ·have b1:¬ (16:Int) < (n:Int):=by omega
     by_cases hb2:next≤(n:Int)
     ·clear hb hb1
      go_enter Tryz.func55,Tryz.ntmps55
      go_wp2
      go_ret
      exact ⟨rfl,H.out.1,HS.out⟩
     ·have hb3:4611686018427387904 < next:=by omega
      clear hb hb1
      go_enter Tryz.func55,Tryz.ntmps55
      go_wp2
      go_ret
      exact ⟨rfl,H.out.1,HS.out⟩
   ·have hM:loadR P ws gv zs next=(0,prI (loadF (next - n) zs),next - 1):=by unfold loadR; rw [if_neg (by simp [hI0,hW0]),if_neg (by rw [← hn.out]; exact hb),← hn.out]
    rw [hM]
    have b1:¬ (16:Int) < (n:Int):=by omega
    have hn16:n≤16:=by omega
    have b2:¬ next≤(n:Int):=by omega
    have b3:¬ (4611686018427387904:Int) < next:=by omega
    obtain ⟨k0,hk0⟩:∃ k0:Int,k0=next - n:=⟨_,rfl⟩
    obtain ⟨g9,hg9⟩:∃ g9:Int,g9=next - 1:=⟨_,rfl⟩
    rw [← hk0,← hg9]
    have hk0b:1≤k0∧k0≤4611686018427387904:=by omega
    have swr0:IntKind.i64.wrap (next - (n:Int))=k0:=by rw [hk0]; exact IntWalk.i64_in _ (by omega)
    have swr9:IntKind.i64.wrap (next - 1)=g9:=by rw [hg9]; exact IntWalk.i64_in _ (by omega)
    have HK:=Lib.hid hk0b
    have HI:Hid (RQ E w B x (prI (loadF k0 (zs.take 0))) ws gv∧RH B w w x (fun _ => False)):=Lib.hid ⟨by have:=H.out.1; rw [hI0] at this; exact this,HS.out⟩
    clear hM hI hW hI0 hW0 hb hk0 hg9 hk0b HS
    go_enter Tryz.func55,Tryz.ntmps55
    go_wp2_with fail
    clear d0 d1
    go_loopw [7] (fun iv wr => ∃ j:Nat,j≤n∧iv=.int .i64 j∧Hid (RQ E wr B x (prI (loadF k0 (zs.take j))) ws gv∧RH B w wr x (fun _ => False))) (fun iv _ => n - (intOf iv).toNat)
    case atStart => exact ⟨0,Nat.zero_le _,rfl,HI⟩
    case round =>
     clear HI
     obtain ⟨j,hj,rfl,HR⟩:=hrel
     by_cases hjn:j < n
     ·have hjI:(j:Int) < (n:Int):=by omega
      have hjL:j < zs.length:=by rw [← hn.out]; exact hjn
      have hu:=H.out.2.2 wr HR.out.2
      obtain ⟨b,o,hA,hbl,hcs⟩:=hu (by omega)
      have p0:=hcs j hjL
      have hst:=prL_snoc k0 zs j hjL
      generalize zs[j]'hjL=v at p0 hst
      obtain ⟨kj,hkj⟩:∃ kj:Int,kj=k0 + (j:Nat):=⟨_,rfl⟩
      have swr1:IntKind.i64.wrap (k0 + (j:Int))=kj:=by rw [hkj]; exact IntWalk.i64_in _ (by have:=HK.out; omega)
      rw [← hkj] at hst
      have bW:Below wr.heap.size wr wr.drew:=⟨rfl,rfl,rfl,Nat.le_refl _,fun _ _ => rfl⟩
      have hlt:(prI (loadF k0 (zs.take j))).length < 48:=by unfold prI; rw [List.length_map,loadF_len,List.length_take]; omega
      obtain ⟨AP,nP,cP,A3,c3,w3,hnP,e1,e2,hrun,e3,f3,hR3,hH3⟩:=(HR.out.1.below bW).papp (Nat.le_trans H.out.2.1 HR.out.2.size) kj v hlt
      have e0:wr.cell? ⟨x,3,none⟩=some (.slice AP nP cP):=e1
      have e4:(wr.alloc (.cells #[.int .i64 kj,.int .u64 (v:Nat)] 154)).cell? ⟨x,3,none⟩=some (.slice AP nP cP):=((ba wr (.cells #[.int .i64 kj,.int .u64 (v:Nat)] 154)).cell (p:=⟨x,3,none⟩) (World.block_lt_of_cell? _ _ e0)).trans e0
      have p1:wr.drew.cell? ⟨b,o + j,none⟩=some (.int .u64 ((v:Nat):Int)):=p0
      have hnP2:nP≤48:=by omega
      have HX:Hid (RQ E (w3.setCell ⟨x,3,none⟩ (.slice A3 (nP + 1) c3)) B x (prI (loadF k0 (zs.take (j + 1)))) ws gv∧RH B w (w3.setCell ⟨x,3,none⟩ (.slice A3 (nP + 1) c3)) x (fun _ => False)):=Lib.hid ⟨by rw [hst]; exact hR3,(HR.out.2.trans (RH.of (lbelow_grown bW _)) (fun _ _ h => h)).trans hH3 (fun _ _ h => h)⟩
      subst hA
      clear hjL hu hcs hst hkj bW hlt hnP hR3 hH3 HR
      go_wp2_with fail
      go_region_law (refine step_append_run rfl (.tmp 45) (.tmp 57) 33 rfl _ _ _ w3 rfl rfl hrun ?_)
      all_goals
       go_wp2
       go_roundw
       case rel => exact ⟨j + 1,by omega,by go_num,HX⟩
       case measure => simp [intOf]; omega
     ·have hjI:¬ (j:Int) < (n:Int):=by omega
      have hjj:zs.take j=zs:=List.take_of_length_le (by rw [← hn.out]; omega)
      have hR:=HR.out
      rw [hjj] at hR
      obtain ⟨AP,nP,cP,AW,nW,cW,hk,_⟩:=id hR.1.ex
      have c2:=hk.cell 5
      have f2:=hk.frozen 5
      simp only [List.getElem?_toArray,List.getElem?_cons_zero,List.getElem?_cons_succ] at c2
      have HX:Hid (RQ E (wr.setCell ⟨x,5,none⟩ (.int .i64 g9)) B x (prI (loadF k0 zs)) ws g9∧RH B w (wr.setCell ⟨x,5,none⟩ (.int .i64 g9)) x (fun _ => False)):=Lib.hid ⟨hR.1.rgv g9,hR.2.trans (RH.of (lgrown_set _ _ _)) (fun _ _ h => h)⟩
      clear hjj hR hk HR
      go_wp2
      go_ret
      exact ⟨rfl,HX.out⟩
  ·have hM:loadR P ws gv zs next=(7,P,gv):=if_pos (.inr fun e => hw (hW.2 e))
   rw [hM]
   have hwI:(0:Int) < (nW:Int):=by omega
   subst hi
   clear hM hI hW hw
   go_enter Tryz.func55,Tryz.ntmps55
   go_wp2
   go_ret
   exact ⟨rfl,H.out.1,HS.out⟩
 ·have hM:loadR P ws gv zs next=(7,P,gv):=if_pos (.inl fun e => hi (hI.2 e))
  rw [hM]
  have hiI:(0:Int) < (nP:Int):=by omega
  clear hM hI hW hi
  go_enter Tryz.func55,Tryz.ntmps55
  go_wp2
  go_ret
  exact ⟨rfl,H.out.1,HS.out⟩
end Go.Proofs.YtlliaihmfimdoaaGreat.Qu.Dq

