/- Parts D6 D7 of one proof. -/
import Derived.Test.YtlliaihmfimdoaaGreatMg31
import Derived.Test.YtlliaihmfimdoaaGreatMg32
set_option linter.unusedSimpArgs false
set_option linter.unusedVariables false
namespace Go.Proofs.YtlliaihmfimdoaaGreat.Dr
open Go.RowKit Go.Maps Go.Joins Go.Deep Go.Proofs.YtlliaihmfimdoaaGreat
structure SpI (l:List Ch) (base:Nat) (w:World) (j:Nat) (Aa:Option Addr) (na ca:Nat) (Ab:Option Addr) (nb cb:Nat) (u:World):Prop where
 na_:na=(aS l j).length
 nb_:nb=(bS l j).length
 oa:OwnC u base Aa ca (aS l j)
 ob:OwnC u base Ab cb (bS l j)
 be:Below base w u
 ap:∀ r,blk Aa=some r→blk Ab≠some r
 ok:okS l false=okS (l.drop j) (decide (0 < nb))
set_option maxRecDepth 100000 in
set_option maxHeartbeats 4000000 in
theorem drest_any (x:Nat) (n:Int) (A:Option Addr) (l:List Ch) (q c:Nat) (w:World) (hq:Hid (q=l.length)) (hqm:Hid (q≤100)) (hL:InL w A l) (hp1:¬ n < 1) (RST:Ending→World→Prop) (HBad:Hid (∀ u,Below w.heap.size w u→okS l false=false→RST (.returned (.int .i64 3)) u))
  (HGo:Hid (∀ u Aa na ca Ab nb cb,okS l false=true→SpI l w.heap.size w q Aa na ca Ab nb cb u→Calls Tryz.prog 92 #[.pointer (some ⟨x,0,none⟩),.int .i64 n,.slice Aa na ca] u fun e u1 => ∃ er:Int,e=.returned (.int .i64 er)∧(er≠0→RST (.returned (.int .i64 er)) u1)∧(er=0→Calls Tryz.prog 93 #[.pointer (some ⟨x,3,none⟩),.int .i64 n,.slice Ab nb cb] u1 fun e u2 => ∃ er2:Int,e=.returned (.int .i64 er2)∧(er2=0∨na=0→RST (.returned (.int .i64 er2)) u2)∧(er2≠0→na≠0→Calls Tryz.prog 90 #[.pointer (some ⟨x,0,none⟩),.int .i64 n] u2 fun e u3 => ∃ er3:Int,e=.returned (.int .i64 er3)∧RST (.returned (.int .i64 er2)) u3)))) :
  Calls Tryz.prog 42 #[.pointer (some ⟨x,0,none⟩),.int .i64 n,.slice A q c] w RST:=by
 obtain ⟨base,hbase⟩:∃ base,base=w.heap.size:=⟨_,rfl⟩
 have HBs:=Lib.hid hbase
 have HL:=Lib.hid hL
 have H0:Hid (SpI l base w 0 none 0 0 none 0 0 w):=Lib.hid ⟨by rw [aS_zero]; rfl,by rw [bS_zero]; rfl,by rw [aS_zero]; exact OwnC.nil _ _,by rw [bS_zero]; exact OwnC.nil _ _,Below.refl _ _,fun r e => (by cases e),by rw [List.drop_zero]; rfl⟩
 have hp1I:¬ n < 1:=hp1
 clear hbase hL hp1
 go_enter Tryz.func42,Tryz.ntmps42
 go_wp2_with fail
 go_loopw [7,8,9] (fun av bv iv wr => ∃ (j na nb ca cb:Nat) (Aa Ab:Option Addr),j≤q∧av=.slice Aa na ca∧bv=.slice Ab nb cb∧iv=.int .i64 j∧Hid (SpI l base w j Aa na ca Ab nb cb wr)) (fun _ _ iv _ => q - (intOf iv).toNat)
 case atStart => exact ⟨0,0,0,0,0,none,none,Nat.zero_le _,rfl,rfl,rfl,H0⟩
 case round =>
  clear H0
  obtain ⟨j,na,nb,ca,cb,Aa,Ab,hjq,rfl,rfl,rfl,HI⟩:=hrel
  by_cases hlt:j < q
  ·have hqI:(j:Int) < (q:Int):=by omega
   have hj100:(j:Int)≤100:=by have:=hqm.out; omega
   have hjl:j < l.length:=by rw [← hq.out]; exact hlt
   have hbw:Below w.heap.size w wr:=by rw [← HBs.out]; exact HI.out.be
   obtain ⟨b,o,rfl,hbl,hcs⟩:=HL.out (by omega)
   have hcj:=hcs j hjl
   obtain ⟨ch,hch⟩:∃ ch,ch=l[j]'hjl:=⟨_,rfl⟩
   rw [← hch] at hcj
   obtain ⟨ck,cy,cv⟩:=ch
   dsimp only at hcj
   have f0:=(hbw.cell (p:=⟨b,_,none⟩) hbl).trans hcj.1
   have f1:=(hbw.cell (p:=⟨b,_,none⟩) hbl).trans hcj.2.1
   have f2:=(hbw.cell (p:=⟨b,_,none⟩) hbl).trans hcj.2.2
   clear hcs hcj hbw
   rcases e1:(ck == 1) with _ | _
   ·rcases e2:(ck == 2) with _ | _
    ·have hkk:¬ kk ⟨ck,cy,cv⟩=true:=by unfold kk; simp at e1 e2; simp [e1,e2]
     obtain ⟨hna,hnb,oa,ob,hb,hap,hok⟩:=HI.out
     obtain ⟨W7,hW7⟩:∃ W7,W7=wr.alloc (.cells #[.int .i64 ck,.int .i64 cy,.int .u64 (cv:Nat)] 74):=⟨_,rfl⟩
     have b7:Below wr.heap.size wr W7:=by rw [hW7]; exact ba _ _
     have kx:Blk W7 wr.heap.size 74 #[.int .i64 ck,.int .i64 cy,.int .u64 (cv:Nat)]:=by rw [hW7]; exact Blk.new _ _ _
     have oa7:=Re.ownC_grown oa (lbelow_grown b7 none) (fun r e => by cases e)
     have ob7:=Re.ownC_grown ob (lbelow_grown b7 none) (fun r e => by cases e)
     have hsz:base≤W7.heap.size:=by have:=hb.size; have:=b7.size; have:=HBs.out; omega
     have hcj:nb≤cb:=by have:=ob7.cap; rw [hnb]; exact this
     obtain ⟨A8,c8,w8,hrun,own8,g8,hb8⟩:=ch_app ob7 (some ⟨wr.heap.size,0,none⟩) 1 [⟨ck,cy,cv⟩] nb 1 hnb rfl (fun b o e i hi => by cases e; have hi0:i=0:=(by simpa using hi); subst hi0; exact ⟨kx.cell 0,kx.cell 1,kx.cell 2⟩) (fun _ => ⟨_,_,rfl⟩) hcj (by have:=bS_le l j; have:=hq.out; have:=hqm.out; simp; omega) hsz
     have hbb:Below base w w8:=(hb.trans (b7.mono (by have:=hb.size; have:=HBs.out; omega))).grown g8 hsz (fun r e => (ob7.lt' r e).1)
     have oo8:=Re.ownC_grown oa7 g8 (fun r e => fun e2 => hap r e2 e)
     have hap8:∀ r,blk Aa=some r→blk A8≠some r:=by
      intro r e e2
      rcases hb8 r e2 with h | h
      ·exact hap r e h
      ·have:=(oa.lt' r e).2; have:=b7.size; omega
     have ha':=aS_snoc hjl
     have hb':=bS_snoc hjl
     have hd':=okS_drop hjl (decide (0 < nb))
     rw [← hch] at ha' hb' hd'
     rw [if_neg hkk] at ha' hb' hd'
     have HNx:Hid (SpI l base w (j + 1) Aa na ca A8 (nb + 1) c8 w8):=Lib.hid ⟨by rw [ha']; exact hna,by rw [hb',List.length_append,hnb]; rfl,by rw [ha']; exact oo8,by rw [hb']; exact own8,hbb,hap8,by rw [hok,hd']; simp⟩
     rw [hW7] at hrun
     clear hna hnb oa ob hb hap hok b7 kx oa7 ob7 hsz hcj own8 g8 hb8 hbb oo8 hap8 ha' hb' hd' hW7 HI hch hkk
     go_wp2_with (at_builtin; refine wpList_append_run rfl (.tmp 43) (.tmp 48) 40 rfl _ _ _ w8 rfl rfl hrun ?_)
     go_roundw
     case rel => exact ⟨j + 1,na,nb + 1,ca,c8,Aa,A8,by omega,by first | rfl | (congr 1),by first | rfl | (congr 1),by go_num,HNx⟩
     case measure => simp [intOf]; omega
    ·have hkk:kk ⟨ck,cy,cv⟩=true:=by unfold kk; rw [Bool.or_eq_true]; first | (left; simpa using e1) | (right; simpa using e2)
     by_cases hnb0:0 < nb
     ·have hnbI:(0:Int) < (nb:Int):=by omega
      have HX:Hid (RST (.returned (.int .i64 3)) wr):=Lib.hid (HBad.out wr (by have h0:=HI.out.be; rw [HBs.out] at h0; exact h0) (by rw [HI.out.ok,okS_drop hjl,← hch,if_pos hkk]; simp [hnb0]))
      clear HI hch hkk
      go_wp2
      exact HX.out
     ·have hnbI:¬ (0:Int) < (nb:Int):=by omega
      obtain ⟨hna,hnb,oa,ob,hb,hap,hok⟩:=HI.out
      obtain ⟨W7,hW7⟩:∃ W7,W7=wr.alloc (.cells #[.int .i64 ck,.int .i64 cy,.int .u64 (cv:Nat)] 74):=⟨_,rfl⟩
      have b7:Below wr.heap.size wr W7:=by rw [hW7]; exact ba _ _
      have kx:Blk W7 wr.heap.size 74 #[.int .i64 ck,.int .i64 cy,.int .u64 (cv:Nat)]:=by rw [hW7]; exact Blk.new _ _ _
      have oa7:=Re.ownC_grown oa (lbelow_grown b7 none) (fun r e => by cases e)
      have ob7:=Re.ownC_grown ob (lbelow_grown b7 none) (fun r e => by cases e)
      have hsz:base≤W7.heap.size:=by have:=hb.size; have:=b7.size; have:=HBs.out; omega
      have hcj:na≤ca:=by have:=oa7.cap; rw [hna]; exact this
      obtain ⟨A8,c8,w8,hrun,own8,g8,hb8⟩:=ch_app oa7 (some ⟨wr.heap.size,0,none⟩) 1 [⟨ck,cy,cv⟩] na 1 hna rfl (fun b o e i hi => by cases e; have hi0:i=0:=(by simpa using hi); subst hi0; exact ⟨kx.cell 0,kx.cell 1,kx.cell 2⟩) (fun _ => ⟨_,_,rfl⟩) hcj (by have:=aS_le l j; have:=hq.out; have:=hqm.out; simp; omega) hsz
      have hbb:Below base w w8:=(hb.trans (b7.mono (by have:=hb.size; have:=HBs.out; omega))).grown g8 hsz (fun r e => (oa7.lt' r e).1)
      have oo8:=Re.ownC_grown ob7 g8 (fun r e => fun e2 => hap r e e2)
      have hap8:∀ r,blk A8=some r→blk Ab≠some r:=by
       intro r e e2
       rcases hb8 r e with h | h
       ·exact hap r h e2
       ·have:=(ob.lt' r e2).2; have:=b7.size; omega
      have ha':=aS_snoc hjl
      have hb':=bS_snoc hjl
      have hd':=okS_drop hjl (decide (0 < nb))
      rw [← hch] at ha' hb' hd'
      rw [if_pos hkk] at ha' hb' hd'
      have HNx:Hid (SpI l base w (j + 1) A8 (na + 1) c8 Ab nb cb w8):=Lib.hid ⟨by rw [ha',List.length_append,hna]; rfl,by rw [hb']; exact hnb,by rw [ha']; exact own8,by rw [hb']; exact oo8,hbb,hap8,by rw [hok,hd']; simp [hnb0]⟩
      rw [hW7] at hrun
      clear hna hnb oa ob hb hap hok b7 kx oa7 ob7 hsz hcj own8 g8 hb8 hbb oo8 hap8 ha' hb' hd' hW7 HI hch hkk
      go_wp2_with (at_builtin; refine wpList_append_run rfl (.tmp 36) (.tmp 41) 40 rfl _ _ _ w8 rfl rfl hrun ?_)
      go_roundw
      case rel => exact ⟨j + 1,na + 1,nb,c8,cb,A8,Ab,by omega,by first | rfl | (congr 1),by first | rfl | (congr 1),by go_num,HNx⟩
      case measure => simp [intOf]; omega
   ·have hkk:kk ⟨ck,cy,cv⟩=true:=by unfold kk; rw [Bool.or_eq_true]; first | (left; simpa using e1) | (right; simpa using e2)
    by_cases hnb0:0 < nb
    ·have hnbI:(0:Int) < (nb:Int):=by omega
     have HX:Hid (RST (.returned (.int .i64 3)) wr):=Lib.hid (HBad.out wr (by have h0:=HI.out.be; rw [HBs.out] at h0; exact h0) (by rw [HI.out.ok,okS_drop hjl,← hch,if_pos hkk]; simp [hnb0]))
     clear HI hch hkk
     go_wp2
     exact HX.out
    ·have hnbI:¬ (0:Int) < (nb:Int):=by omega
     obtain ⟨hna,hnb,oa,ob,hb,hap,hok⟩:=HI.out
     obtain ⟨W7,hW7⟩:∃ W7,W7=wr.alloc (.cells #[.int .i64 ck,.int .i64 cy,.int .u64 (cv:Nat)] 74):=⟨_,rfl⟩
     have b7:Below wr.heap.size wr W7:=by rw [hW7]; exact ba _ _
     have kx:Blk W7 wr.heap.size 74 #[.int .i64 ck,.int .i64 cy,.int .u64 (cv:Nat)]:=by rw [hW7]; exact Blk.new _ _ _
     have oa7:=Re.ownC_grown oa (lbelow_grown b7 none) (fun r e => by cases e)
     have ob7:=Re.ownC_grown ob (lbelow_grown b7 none) (fun r e => by cases e)
     have hsz:base≤W7.heap.size:=by have:=hb.size; have:=b7.size; have:=HBs.out; omega
     have hcj:na≤ca:=by have:=oa7.cap; rw [hna]; exact this
     obtain ⟨A8,c8,w8,hrun,own8,g8,hb8⟩:=ch_app oa7 (some ⟨wr.heap.size,0,none⟩) 1 [⟨ck,cy,cv⟩] na 1 hna rfl (fun b o e i hi => by cases e; have hi0:i=0:=(by simpa using hi); subst hi0; exact ⟨kx.cell 0,kx.cell 1,kx.cell 2⟩) (fun _ => ⟨_,_,rfl⟩) hcj (by have:=aS_le l j; have:=hq.out; have:=hqm.out; simp; omega) hsz
     have hbb:Below base w w8:=(hb.trans (b7.mono (by have:=hb.size; have:=HBs.out; omega))).grown g8 hsz (fun r e => (oa7.lt' r e).1)
     have oo8:=Re.ownC_grown ob7 g8 (fun r e => fun e2 => hap r e e2)
     have hap8:∀ r,blk A8=some r→blk Ab≠some r:=by
      intro r e e2
      rcases hb8 r e with h | h
      ·exact hap r h e2
      ·have:=(ob.lt' r e2).2; have:=b7.size; omega
     have ha':=aS_snoc hjl
     have hb':=bS_snoc hjl
     have hd':=okS_drop hjl (decide (0 < nb))
     rw [← hch] at ha' hb' hd'
     rw [if_pos hkk] at ha' hb' hd'
     have HNx:Hid (SpI l base w (j + 1) A8 (na + 1) c8 Ab nb cb w8):=Lib.hid ⟨by rw [ha',List.length_append,hna]; rfl,by rw [hb']; exact hnb,by rw [ha']; exact own8,by rw [hb']; exact oo8,hbb,hap8,by rw [hok,hd']; simp [hnb0]⟩
     rw [hW7] at hrun
     clear hna hnb oa ob hb hap hok b7 kx oa7 ob7 hsz hcj own8 g8 hb8 hbb oo8 hap8 ha' hb' hd' hW7 HI hch hkk
     go_wp2_with (at_builtin; refine wpList_append_run rfl (.tmp 36) (.tmp 41) 40 rfl _ _ _ w8 rfl rfl hrun ?_)
     go_roundw
     case rel => exact ⟨j + 1,na + 1,nb,c8,cb,A8,Ab,by omega,by first | rfl | (congr 1),by first | rfl | (congr 1),by go_num,HNx⟩
     case measure => simp [intOf]; omega
  ·obtain rfl:j=q:=by omega
   have hqI:¬ (j:Int) < (j:Int):=by omega
   have HC:=Lib.hid (HGo.out wr Aa na ca Ab nb cb (by rw [HI.out.ok]; exact okS_end l (by rw [← hq.out]; exact Nat.le_refl _) _) (by have h0:=HI.out; rw [HBs.out] at h0; exact h0))
   clear HI
   go_wp2_with fail
   refine HC.out.mono ?_
   rintro e u1 ⟨er,rfl,h1,h2⟩
   clear HC
   rcases f0:(er != 0) with _ | _
   ·obtain rfl:er=0:=by simpa using f0
    have HC2:=Lib.hid (h2 rfl)
    clear h1 h2 f0
    go_wp2_with fail
    refine HC2.out.mono ?_
    rintro e u2 ⟨er2,rfl,h1,h2⟩
    clear HC2
    rcases f0:(er2 != 0) with _ | _
    ·have HX:=Lib.hid (h1 (.inl (by simpa using f0)))
     clear h1 h2
     go_wp2
     exact HX.out
    ·by_cases h0:0 < na
     ·have h0I:(0:Int) < (na:Int):=by omega
      have HC3:=Lib.hid (h2 (by simpa using f0) (by omega))
      clear h1 h2
      go_wp2_with fail
      refine HC3.out.mono ?_
      rintro e u3 ⟨er3,rfl,h1⟩
      have HX:=Lib.hid h1
      clear h1
      go_wp2
      exact HX.out
     ·have h0I:¬ (0:Int) < (na:Int):=by omega
      have HX:=Lib.hid (h1 (.inr (by omega)))
      clear h1 h2
      go_wp2
      exact HX.out
   ·have HX:=Lib.hid (h1 (by simpa using f0))
    clear h1 h2
    go_wp2
    exact HX.out
end Go.Proofs.YtlliaihmfimdoaaGreat.Dr


namespace Go.Proofs.YtlliaihmfimdoaaGreat.Dr
open Go.RowKit Go.Maps Go.Joins Go.Deep Go.Proofs.YtlliaihmfimdoaaGreat
def SRel (ws:List WI) (L:List LRow) (n:Int) (l:List Ch) (ws1:List WI) (L1:List LRow):Prop :=
 ((n < 1∨areB (fun _ => false) l=false∨(findW ws n).isSome=true)∧ws1=ws∧L1=L) ∨
 (1≤n∧areB (fun _ => false) l=true∧findW ws n=none∧(((takeAll L n l).1≠0∨l=[])∧ws1=ws∧L1=(takeAll L n l).2 ∨
  (takeAll L n l).1=0∧l≠[]∧∃ q A c,ws1=ws ++ [⟨q,n,A,c,l,true⟩]∧L1=(takeAll L n l).2))
def QRel (Q:PL) (qs:List Qu.WI) (gv n:Int) (l:List Ch) (qs1:List Qu.WI):Prop :=
 ((Qu.restR Q qs gv n l≠0∨l=[])∧qs1=qs)∨(Qu.restR Q qs gv n l=0∧l≠[]∧∃ q A c,qs1=qs ++ [⟨q,n,A,c,l,true⟩])
def DRestO (w:World) (B x:Nat) (P:PL) (ws:List WI) (L:List LRow) (Q:PL) (qs:List Qu.WI) (gv n:Int) (l:List Ch) (e:Ending) (w':World):Prop :=
 (n < 1∧e=.returned (.int .i64 1)∧Below w.heap.size w w') ∨
 (1≤n∧okS l false=false∧e=.returned (.int .i64 3)∧Below w.heap.size w w') ∨
 (1≤n∧okS l false=true∧RJ B w w' x (fun _ => False)∧∃ ws1 L1,SRel ws L n (l.take (Re.endK l)) ws1 L1∧(∀ y ∈ ws1,∀ r,blk y.A=some r→(∃ y ∈ ws,blk y.A=some r)∨w.heap.size≤r) ∧
  ((restE ws L n (l.take (Re.endK l))≠0∧e=.returned (.int .i64 (restE ws L n (l.take (Re.endK l))))∧DR w' B x P ws1 L1 Q qs gv) ∨
  (restE ws L n (l.take (Re.endK l))=0∧∃ qs1,QRel Q qs gv n (l.drop (Re.endK l)) qs1∧(∀ y ∈ qs1,∀ r,blk y.A=some r→(∃ y ∈ qs,blk y.A=some r)∨w.heap.size≤r)∧e=.returned (.int .i64 (Qu.restR Q qs gv n (l.drop (Re.endK l)))) ∧
   (((Qu.restR Q qs gv n (l.drop (Re.endK l))=0∨l.take (Re.endK l)=[])∧DR w' B x P ws1 L1 Q qs1 gv) ∨
    (Qu.restR Q qs gv n (l.drop (Re.endK l))≠0∧l.take (Re.endK l)≠[]∧DR w' B x P (backR ws1 L1 n).2.1 (backR ws1 L1 n).2.2 Q qs1 gv)))))
theorem srel_of {D:Value × Value × Value} {w w':World} {B x:Nat} {P:PL} {ws:List WI} {L:List LRow} {n:Int} {l:List Ch} {e:Ending} (h:Ds.RRestO D w B x P ws L n l e w'):∃ ws1 L1,SRel ws L n l ws1 L1∧Ds.RAt D w' B x P ws1 L1∧∀ y ∈ ws1,∀ r,blk y.A=some r→(∃ y ∈ ws,blk y.A=some r)∨w.heap.size≤r:=by
 obtain ⟨_,_,⟨h1,hR⟩ | ⟨h1,h2,h3,⟨h4,hR⟩ | ⟨h4,h5,q,A,c,_,hR,hA⟩⟩⟩:=h
 ·exact ⟨ws,L,.inl ⟨h1,rfl,rfl⟩,hR,fun y hy r hr => .inl ⟨y,hy,hr⟩⟩
 ·exact ⟨ws,_,.inr ⟨h1,h2,h3,.inl ⟨h4,rfl,rfl⟩⟩,hR,fun y hy r hr => .inl ⟨y,hy,hr⟩⟩
 ·refine ⟨_,_,.inr ⟨h1,h2,h3,.inr ⟨h4,h5,q,A,c,rfl,rfl⟩⟩,hR,fun y hy r hr => ?_⟩
  rcases List.mem_append.1 hy with hy | hy
  ·exact .inl ⟨y,hy,hr⟩
  ·rw [List.mem_singleton] at hy
   subst hy
   exact .inr (hA r hr)
theorem qrel_of {E:Value × Value × Value} {w w':World} {B x:Nat} {Q:PL} {qs:List Qu.WI} {gv n:Int} {l:List Ch} {e:Ending} (h:Qu.Dq.RRestO E w B x Q qs gv n l e w'):∃ qs1,QRel Q qs gv n l qs1∧Qu.Dq.RQ E w' B x Q qs1 gv∧∀ y ∈ qs1,∀ r,blk y.A=some r→(∃ y ∈ qs,blk y.A=some r)∨w.heap.size≤r:=by
 obtain ⟨_,_,⟨h1,hR⟩ | ⟨h1,h2,q,A,c,_,hR,hA⟩⟩:=h
 ·exact ⟨qs,.inl ⟨h1,rfl⟩,hR,fun y hy r hr => .inl ⟨y,hy,hr⟩⟩
 ·refine ⟨_,.inr ⟨h1,h2,q,A,c,rfl⟩,hR,fun y hy r hr => ?_⟩
  rcases List.mem_append.1 hy with hy | hy
  ·exact .inl ⟨y,hy,hr⟩
  ·rw [List.mem_singleton] at hy
   subst hy
   exact .inr (hA r hr)
set_option maxRecDepth 100000 in
set_option maxHeartbeats 1000000 in
theorem drestore_any (B x:Nat) (P:PL) (ws:List WI) (L:List LRow) (Q:PL) (qs:List Qu.WI) (gv n:Int) (A:Option Addr) (l:List Ch) (q c:Nat) (w:World) (h:DR w B x P ws L Q qs gv) (hB:B≤w.heap.size) (hl:ws.length < 100) (hok:LOk L) (hnc:NoClash L) (hn:i64ok n) (hg:0≤gv∧gv≤4611686018427387904) (hlq:qs.length < 100) (hq:Hid (q=l.length)) (hqm:q≤100) (hL:InL w A l) :
  Calls Tryz.prog 42 #[.pointer (some ⟨x,0,none⟩),.int .i64 n,.slice A q c] w (DRestO w B x P ws L Q qs gv n l):=by
 by_cases p1:n < 1
 ·have HX:Hid (DRestO w B x P ws L Q qs gv n l (.returned (.int .i64 1)) w):=Lib.hid (.inl ⟨p1,rfl,Below.refl _ _⟩)
  clear h hok hnc hL
  go_enter Tryz.func42,Tryz.ntmps42
  go_wp2
  go_ret
  exact HX.out
 ·have p2:1≤n:=by omega
  refine drest_any x n A l q c w hq (Lib.hid hqm) hL p1 _ (Lib.hid fun u hu hf => .inr (.inl ⟨p2,hf,rfl,hu⟩)) (Lib.hid fun u Aa na ca Ab nb cb hf hS => ?_)
  obtain ⟨ea,eb⟩:=spl_of hf
  have hla:aS l q=l.take (Re.endK l):=by unfold aS; rw [hq.out,List.take_length]; exact ea
  have hlb:bS l q=l.drop (Re.endK l):=by unfold bS; rw [hq.out,List.take_length]; exact eb
  obtain ⟨hna,hnb,oa,ob,hbe,hap,_⟩:=hS
  have hna':=Nat.le_trans (Nat.le_of_eq hna) (aS_le l q)
  have hnb':=Nat.le_trans (Nat.le_of_eq hnb) (bS_le l q)
  rw [hla] at hna oa
  rw [hlb] at hnb ob
  rw [← hq.out] at hna' hnb'
  generalize hLA:l.take (Re.endK l)=la at *
  generalize hLB:l.drop (Re.endK l)=lb at *
  have hu:=h.below hbe
  obtain ⟨a,b,c0,d,e,k1,k2,k3⟩:=hu.ex
  have hxw:x < w.heap.size:=by obtain ⟨_,_,_,_,_,_,_,k⟩:=h.ex; exact k.lt
  refine (Ds.rrest_any B x P ws L n Aa la na ca u k1 (Nat.le_trans hB hbe.size) hl hok hnc (Lib.hid hna) (by omega) (fun u' hg' => Re.inl_kept oa hg' hxw) hn).mono ?_
  intro o u1 hO
  obtain ⟨ws1,L1,hs1,hR1,hA1⟩:=srel_of hO
  have hG1:=hO.2.1
  have d1:DR u1 B x P ws1 L1 Q qs gv:=turnS (P:=P) (L:=L) k2 k3 hu.ap hR1 hG1 (fun _ hs => hs.elim) hA1
  have j1:RJ B w u1 x (fun _ => False):=(RJ.of (lbelow_grown hbe (some x))).trans (.store hG1) (fun _ _ h => h)
  have hAw:∀ y ∈ ws1,∀ r,blk y.A=some r→(∃ y ∈ ws,blk y.A=some r)∨w.heap.size≤r:=fun y hy r hr => (hA1 y hy r hr).imp id (Nat.le_trans hbe.size)
  refine ⟨_,hO.1,fun h0 => ?_,fun h0 => ?_⟩
  ·refine .inr (.inr ⟨p2,hf,j1,ws1,L1,?_⟩)
   rw [hLA]
   exact ⟨hs1,hAw,.inl ⟨h0,rfl,d1⟩⟩
  ·obtain ⟨a,b,c0,d,e,m1,m2,m3⟩:=d1.ex
   have ob1:OwnC u1 w.heap.size Ab cb lb:=own_same ob (fun r hr ⟨cs,fz,ht⟩ hbr => by
    have hrl:=(ob.lt' r hbr).1
    rcases hG1.block r hr (by omega) with e | ⟨cs2,fz2,e⟩ | ⟨cs2,fz2,e⟩ | ⟨_,hs⟩
    ·exact e
    ·rw [ht] at e; injection e with e; injection e with _ e _; exact absurd e (by decide)
    ·rw [ht] at e; injection e with e; injection e with _ e _; exact absurd e (by decide)
    ·exact hs.elim)
   have hwu:w.heap.size≤u1.heap.size:=j1.size
   refine (Qu.Dq.rrest_any B x Q qs gv n Ab lb nb cb u1 m2 hg (Nat.le_trans hB hwu) hlq (Lib.hid hnb) (by omega) (Re.inl_kept ob1 (lbelow_grown (Below.refl _ _) (some x)) hxw)).mono ?_
   intro o2 u2 hO2
   obtain ⟨qs1,hs2,hR2,hA2⟩:=qrel_of hO2
   have hG2:=hO2.2.1
   have d2:DR u2 B x P ws1 L1 Q qs1 gv:=turnQ (Q:=Q) m1 m3 d1.ap hR2 hG2 (fun _ hs => hs.elim) hA2
   have j2:RJ B w u2 x (fun _ => False):=j1.trans (.queue hG2) (fun _ _ h => h)
   have hAq:∀ y ∈ qs1,∀ r,blk y.A=some r→(∃ y ∈ qs,blk y.A=some r)∨w.heap.size≤r:=fun y hy r hr => (hA2 y hy r hr).imp id (Nat.le_trans hwu)
   refine ⟨_,hO2.1,fun h1 => ?_,fun h1 h2 => ?_⟩
   ·refine .inr (.inr ⟨p2,hf,j2,ws1,L1,?_⟩)
    rw [hLA,hLB]
    exact ⟨hs1,hAw,.inr ⟨h0,qs1,hs2,hAq,rfl,.inl ⟨h1.imp id (fun h => List.eq_nil_of_length_eq_zero (by omega)),d2⟩⟩⟩
   ·obtain ⟨a,b,c0,d,e,n1,n2,n3⟩:=d2.ex
    refine (Ds.rback_any B x P ws1 L1 n u2 n1 (Nat.le_trans hB j2.size)).mono ?_
    rintro o3 u3 ⟨rfl,hR3,hG3⟩
    refine ⟨_,rfl,.inr (.inr ⟨p2,hf,j2.trans (RJ.of hG3) (fun _ _ h => h),ws1,L1,?_⟩)⟩
    rw [hLA,hLB]
    refine ⟨hs1,hAw,.inr ⟨h0,qs1,hs2,hAq,rfl,.inr ⟨h1,fun e => h2 (by rw [hna,e]; rfl),turnS (B0:=B) (S:=fun _ => False) (P:=P) (L:=L1) n2 n3 d2.ap hR3 (RG.of hG3) (fun _ hs => hs.elim) (fun z hz r hr => .inl ⟨z,?_,hr⟩)⟩⟩⟩
    unfold backR at hz
    split at hz
    ·exact hz
    ·exact (List.mem_filter.1 hz).1
end Go.Proofs.YtlliaihmfimdoaaGreat.Dr

