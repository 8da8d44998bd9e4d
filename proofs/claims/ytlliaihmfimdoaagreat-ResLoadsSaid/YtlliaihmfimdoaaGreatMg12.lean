/- Parts Bd Be Bf Bg Bh Bi of one proof. -/
import Derived.Test.YtlliaihmfimdoaaGreatMg09
import Derived.Test.YtlliaihmfimdoaaGreatMg07
import Derived.Test.YtlliaihmfimdoaaGreatMg11
set_option linter.unusedSimpArgs false
set_option linter.unusedVariables false
namespace Go.Proofs.YtlliaihmfimdoaaGreat
open Go.RowKit
def keyB (y:Int):Bool:=decide (0≤y) && decide (y < 16)
theorem kisKey_any (y:Int) (b:Bool) (h:keyB y=b) (w:World):Calls Tryz.prog 95 #[.int .i64 y] w fun e w' => e=.returned (.bool b)∧w=w':=by
 unfold keyB at h
 rcases h1:decide (0≤y) with _ | _
 ·rw [h1] at h
  subst h
  go_enter Tryz.func95,Tryz.ntmps95
  go_wp2
  go_ret
  exact ⟨rfl,rfl⟩
 ·rw [h1] at h
  rcases h2:decide (y < 16) with _ | _
  all_goals
   rw [h2] at h
   subst h
   go_enter Tryz.func95,Tryz.ntmps95
   go_wp2
   go_ret
   exact ⟨rfl,rfl⟩
theorem place1_any (x:Ch) (p:Nat) (y:Int) (b:Bool) (hb:(x.y == y)=b) (w:World) (hp:w.cell? ⟨p,0,none⟩=some (.int .i64 y)):Calls Tryz.prog 151 #[.agg #[.int .i64 x.k,.int .i64 x.y,.int .u64 (x.v:Nat)],.pointer (some ⟨p,0,none⟩)] w fun e w' => e=.returned (.bool b)∧Below w.heap.size w w':=by
 have hlt:=World.block_lt_of_cell? _ _ hp
 have hbw:=ba w (.cells #[.int .i64 x.k,.int .i64 x.y,.int .u64 (x.v:Nat)] 74)
 have kb:=Blk.new w 74 #[.int .i64 x.k,.int .i64 x.y,.int .u64 (x.v:Nat)]
 have c1:=kb.cell 1
 simp only [List.getElem?_toArray,List.getElem?_cons_zero,List.getElem?_cons_succ] at c1
 have cp:=(hbw.cell (p:=⟨p,0,none⟩) hlt).trans hp
 go_enter Tryz.func151,Tryz.ntmps151
 go_wp2
 go_ret
 exact ⟨rfl,hbw⟩
set_option maxHeartbeats 1000000 in
theorem index_any (A:Option Addr) (l:List Ch) (n c p:Nat) (y:Int) (hn:Hid (n=l.length)) (hm:n≤1000000) (w:World) {B:Nat→Prop} (h:ChAt w B A l) (hp:w.cell? ⟨p,0,none⟩=some (.int .i64 y)) :
  Calls Tryz.prog 97 #[.slice A n c,.func (.func 151) #[] #[.pointer (some ⟨p,0,none⟩)]] w fun e w' => e=.returned (.int .i64 (posI l y))∧Below w.heap.size w w':=by
 have H:=Lib.hid h
 have hlt:=World.block_lt_of_cell? _ _ hp
 have HP:=Lib.hid (And.intro hp hlt)
 clear h hp hlt
 go_enter Tryz.func97,Tryz.ntmps97
 go_wp2_with fail
 go_loopw [8] (fun i wr => ∃ (j:Nat),j≤n∧i=.int .i64 j∧Hid (∀ q,q < j→∀ hq:q < l.length,(l[q]'hq).y≠y)∧Below w.heap.size w wr) (fun i _ => n - (intOf i).toNat)
 case atStart => exact ⟨0,Nat.zero_le _,rfl,Lib.hid (fun q hq => by omega),Below.refl _ _⟩
 case round =>
  obtain ⟨j,hj,rfl,hno,hb⟩:=hrel
  by_cases hjn:j < n
  ·have hjI:(j:Int) < (n:Int):=by omega
   have hjl:j < l.length:=by rw [← hn.out]; exact hjn
   obtain ⟨b,o,rfl,hbk,hcs⟩:=H.out (by omega)
   obtain ⟨q0,q1,q2⟩:=hcs j hjl
   have hbl:b < w.heap.size:=by obtain ⟨_,cs,fz,hh⟩:=hbk; exact (Array.getElem?_eq_some_iff.1 hh).1
   have p0:=(hb.cell (p:=⟨b,o + j * 3,none⟩) hbl).trans q0
   have p1:=(hb.cell (p:=⟨b,o + j * 3 + 1,none⟩) hbl).trans q1
   have p2:=(hb.cell (p:=⟨b,o + j * 3 + 2,none⟩) hbl).trans q2
   have hcp:=(hb.cell (p:=⟨p,0,none⟩) HP.out.2).trans HP.out.1
   obtain ⟨x,hx⟩:∃ x,x=l[j]'hjl:=⟨_,rfl⟩
   rw [← hx] at p0 p1 p2
   have HX:=Lib.hid hx
   have hc:=fun b' (hb':(x.y == y)=b') => place1_any x p y b' hb' wr hcp
   clear hcs q0 q1 q2 hbk hx hcp
   rcases hxy:(x.y == y) with _ | _
   ·have HC:=Lib.hid (hc _ hxy)
    have hno2:Hid (∀ q,q < j + 1→∀ hq:q < l.length,(l[q]'hq).y≠y):=Lib.hid fun q hq hql => by
     by_cases e:q=j
     ·subst e; rw [← HX.out]; simpa using hxy
     ·exact hno.out q (by omega) hql
    clear hc
    go_wp2_with fail
    refine HC.out.mono ?_
    rintro e w2 ⟨rfl,b2⟩
    have hb2:=bt hb b2
    clear b2 p0 p1 p2
    go_wp2
    go_roundw
    case rel => exact ⟨j + 1,by omega,by go_num,hno2,hb2⟩
    case measure => simp [intOf]; omega
   ·have HC:=Lib.hid (hc _ hxy)
    have hpos:Hid (posI l y=(j:Int)):=Lib.hid (by
     have e:posN l y=j:=by
      unfold posN
      rw [List.findIdx_eq hjl]
      refine ⟨by rw [← HX.out]; simpa using hxy,fun q hq => by simpa using hno.out q hq (by omega)⟩
     unfold posI
     rw [e,if_pos hjl])
    clear hc
    go_wp2_with fail
    refine HC.out.mono ?_
    rintro e w2 ⟨rfl,b2⟩
    have hb2:=bt hb b2
    clear b2 p0 p1 p2
    go_wp2
    go_ret
    exact ⟨by rw [hpos.out]; rfl,hb2⟩
  ·obtain rfl:j=n:=by omega
   have hjI:¬ (j:Int) < (j:Int):=by omega
   have hpos:Hid (posI l y=-1):=Lib.hid (by
    have e:posN l y=l.length:=by
     unfold posN
     rw [List.findIdx_eq_length]
     intro x hx
     obtain ⟨q,hq,rfl⟩:=List.mem_iff_getElem.1 hx
     simpa using hno.out q (by rw [hn.out]; exact hq) hq
    unfold posI
    rw [e,if_neg (by omega)])
   go_wp2
   go_ret
   exact ⟨by rw [hpos.out]; rfl,hb⟩
theorem kplace_any (A:Option Addr) (l:List Ch) (n c:Nat) (y:Int) (hn:Hid (n=l.length)) (hm:n≤1000000) (w:World) {B:Nat→Prop} (h:ChAt w B A l) :
  Calls Tryz.prog 125 #[.agg #[.slice A n c],.int .i64 y] w fun e w' => e=.returned (.int .i64 (posI l y))∧Below w.heap.size w w':=by
 obtain ⟨W2,hW2⟩:∃ W2,W2=(w.alloc (.cells #[.slice A n c] 136)).alloc (.cells #[.int .i64 y] 3):=⟨_,rfl⟩
 have k1:Blk W2 w.heap.size 136 #[.slice A n c]:=by rw [hW2]; exact (Blk.new _ _ _).alloc _
 have k2:Blk W2 (w.heap.size + 1) 3 #[.int .i64 y]:=by
  rw [hW2]; have:=Blk.new (w.alloc (.cells #[.slice A n c] 136)) 3 #[.int .i64 y]; rwa [World.size_alloc] at this
 have b2:Below w.heap.size w W2:=by rw [hW2]; exact bt (ba _ _) (ba _ _)
 have c0:=k1.cell 0
 simp only [List.getElem?_toArray,List.getElem?_cons_zero] at c0
 have HI:=Lib.hid (index_any A l n c (w.heap.size + 1) y hn hm W2 (h.below b2) ((k2.cell 0).trans rfl))
 have HB:=Lib.hid b2
 have HW:=Lib.hid hW2
 rw [hW2] at c0
 clear hW2 k1 k2 b2 h
 go_enter Tryz.func125,Tryz.ntmps125
 go_wp2_with fail
 rw [← HW.out]
 refine HI.out.mono ?_
 rintro e w3 ⟨rfl,b3⟩
 have hF:=bt HB.out b3
 clear b3 c0
 go_wp2
 go_ret
 exact ⟨rfl,hF⟩
end Go.Proofs.YtlliaihmfimdoaaGreat


namespace Go.Proofs.YtlliaihmfimdoaaGreat
open Go.RowKit
def withL (l:List Ch) (x:Ch):List Ch:=if posN l x.y < l.length then l.set (posN l x.y) x else l ++ [x]
theorem withL_len (l:List Ch) (x:Ch):(withL l x).length≤l.length + 1:=by
 unfold withL; split <;> simp
set_option maxRecDepth 100000 in
set_option maxHeartbeats 2000000 in
theorem with_any (A:Option Addr) (l:List Ch) (n c:Nat) (x:Ch) (hn:Hid (n=l.length)) (hm:n≤400000) (w:World) {B:Nat→Prop} (h:ChAt w B A l) :
  Calls Tryz.prog 150 #[.agg #[.slice A n c],.agg #[.int .i64 x.k,.int .i64 x.y,.int .u64 (x.v:Nat)]] w fun e w' => (∃ A' n' c',e=.returned (.agg #[.slice A' n' c'])∧n'=(withL l x).length∧ChAt w' (fun b => w.heap.size≤b) A' (withL l x))∧Below w.heap.size w w':=by
 obtain ⟨W3,hW3⟩:∃ W3,W3=((w.alloc (.cells #[.slice A n c] 136)).alloc (.cells #[.int .i64 x.k,.int .i64 x.y,.int .u64 (x.v:Nat)] 74)).alloc (.cells #[.slice none 0 0] 136):=⟨_,rfl⟩
 have k1:Blk W3 w.heap.size 136 #[.slice A n c]:=by rw [hW3]; exact ((Blk.new _ _ _).alloc _).alloc _
 have k2:Blk W3 (w.heap.size + 1) 74 #[.int .i64 x.k,.int .i64 x.y,.int .u64 (x.v:Nat)]:=by
  rw [hW3]; have:=(Blk.new (w.alloc (.cells #[.slice A n c] 136)) 74 #[.int .i64 x.k,.int .i64 x.y,.int .u64 (x.v:Nat)]).alloc (.cells #[.slice none 0 0] 136); rwa [World.size_alloc] at this
 have k3:Blk W3 (w.heap.size + 2) 136 #[.slice none 0 0]:=by
  rw [hW3]; have:=Blk.new ((w.alloc (.cells #[.slice A n c] 136)).alloc (.cells #[.int .i64 x.k,.int .i64 x.y,.int .u64 (x.v:Nat)] 74)) 136 #[.slice none 0 0]; rwa [World.size_alloc,World.size_alloc] at this
 have b3:Below w.heap.size w W3:=by rw [hW3]; exact bt (bt (ba _ _) (ba _ _)) (ba _ _)
 have s3:W3.heap.size=w.heap.size + 3:=by rw [hW3]; simp
 have c0:=k1.cell 0
 simp only [List.getElem?_toArray,List.getElem?_cons_zero] at c0
 have HC:=Lib.hid (cclone_any A l n c W3 hn (Lib.hid (by omega)) (h.below b3))
 have HK:=Lib.hid (And.intro k1 (And.intro k2 (And.intro k3 (And.intro b3 (And.intro s3 (h.below b3))))))
 have HW:=Lib.hid hW3
 rw [hW3] at c0
 clear hW3 k1 k2 k3 b3 s3 h
 go_enter Tryz.func150,Tryz.ntmps150
 go_wp2_with fail
 rw [← HW.out]
 refine HC.out.mono ?_
 rintro e w4 ⟨A2,c2,rfl,own4,b4⟩
 clear c0
 obtain ⟨k1,k2,k3,b3,s3,hat⟩:=HK.out
 have j1:=k1.below b4 k1.lt
 have j2:=k2.below b4 k2.lt
 have j3:=k3.below b4 k3.lt
 have HP:=Lib.hid (kplace_any A l n c x.y hn (by omega) w4 (hat.below b4))
 have c0:=j1.cell 0
 have d1:=j2.cell 1
 simp only [List.getElem?_toArray,List.getElem?_cons_zero,List.getElem?_cons_succ] at c0 d1
 have H4:=Lib.hid (And.intro own4 (And.intro j2 (And.intro j3 (And.intro (bt b3 b4) (And.intro s3 b4.size)))))
 clear own4 b4 k1 k2 k3 b3 s3 hat j1 j2 j3
 go_wp2_with fail
 refine HP.out.mono ?_
 rintro e w5 ⟨rfl,b5⟩
 clear c0 d1
 obtain ⟨own4,j2,j3,b4,s3,s4⟩:=H4.out
 have own5:OwnC w5 W3.heap.size A2 c2 l:=own4.kept (lbelow_grown b5 none) (fun r e => by cases e)
 have i2:=j2.below b5 j2.lt
 have i3:=j3.below b5 j3.lt
 have b45:=bt b4 b5
 have hs5:=b5.size
 have d0:=i2.cell 0
 have d1:=i2.cell 1
 have d2:=i2.cell 2
 simp only [List.getElem?_toArray,List.getElem?_cons_zero,List.getElem?_cons_succ] at d0 d1 d2
 by_cases hpos:posN l x.y < l.length
 ·obtain ⟨q,hq⟩:∃ q,q=posN l x.y:=⟨_,rfl⟩
  have hqI:posI l x.y=(q:Int):=by unfold posI; rw [if_pos hpos,hq]
  rw [hqI]
  have hqn:q < n:=by rw [hn.out,hq]; exact hpos
  have hqI2:(q:Int) < (n:Int):=by omega
  obtain ⟨g,cap,e⟩:=Joins.ownsRow_form own5 (by omega)
  cases e
  unfold OwnC at own5
  rw [← hn.out] at own5
  obtain ⟨hgB,hgl⟩:=own5.lt g rfl
  have st1:=own5.stored (q * 3) (.int .i64 x.k)
  obtain ⟨V1,hV1⟩:∃ V1,w5.setCell ⟨g,q * 3,none⟩ (.int .i64 x.k)=V1:=⟨_,rfl⟩
  rw [hV1] at st1
  have st2:=st1.1.stored (q * 3 + 1) (.int .i64 x.y)
  obtain ⟨V2,hV2⟩:∃ V2,V1.setCell ⟨g,q * 3 + 1,none⟩ (.int .i64 x.y)=V2:=⟨_,rfl⟩
  rw [hV2] at st2
  have st3:=st2.1.stored (q * 3 + 2) (.int .u64 (x.v:Nat))
  obtain ⟨V3,hV3⟩:∃ V3,V2.setCell ⟨g,q * 3 + 2,none⟩ (.int .u64 (x.v:Nat))=V3:=⟨_,rfl⟩
  rw [hV3] at st3
  have hlen:(chV l).length=n * 3:=by rw [chV_len,hn.out]
  obtain ⟨u1,e1⟩:∃ u1,w5.cell? ⟨g,q * 3,none⟩=some u1:=by rw [own5.cellAt (q * 3) (by omega)]; exact ⟨_,List.getElem?_eq_getElem (by omega)⟩
  obtain ⟨u2,e2⟩:∃ u2,V1.cell? ⟨g,q * 3 + 1,none⟩=some u2:=by rw [st1.1.cellAt (q * 3 + 1) (by omega)]; exact ⟨_,List.getElem?_eq_getElem (by rw [List.length_set]; omega)⟩
  obtain ⟨u3,e3⟩:∃ u3,V2.cell? ⟨g,q * 3 + 2,none⟩=some u3:=by rw [st2.1.cellAt (q * 3 + 2) (by omega)]; exact ⟨_,List.getElem?_eq_getElem (by rw [List.length_set,List.length_set]; omega)⟩
  have f1:=own5.frozenAt (q * 3)
  have f2:=st1.1.frozenAt (q * 3 + 1)
  have f3:=st2.1.frozenAt (q * 3 + 2)
  have gr:=(st1.2.trans st2.2).trans st3.2
  have ownF:OwnC V3 W3.heap.size (some ⟨g,0,none⟩) c2 (withL l x):=by
   have hl:(withL l x).length=n:=by unfold withL; rw [if_pos hpos,List.length_set,hn.out]
   unfold OwnC
   rw [hl]
   have:=st3.1
   rw [chV_set] at this
   unfold withL
   rw [if_pos hpos,← hq]
   exact this
  have hl:Hid (n=(withL l x).length):=Lib.hid (by unfold withL; rw [if_pos hpos,List.length_set,hn.out])
  have i3':=i3.kept gr (fun e => by have:=Option.some.inj e; omega)
  have bF:=b45.grown gr (by omega) (fun r e => by cases e; omega)
  obtain ⟨V4,hV4⟩:∃ V4,V3.setCell ⟨w.heap.size + 1 + 1,0,none⟩ (.slice (some ⟨g,0,none⟩) n c2)=V4:=⟨_,rfl⟩
  have cr:V3.cell? ⟨w.heap.size + 1 + 1,0,none⟩=some (.slice none 0 0):=i3'.cell 0
  have fr:V3.frozen? ⟨w.heap.size + 1 + 1,0,none⟩=false:=i3'.frozen 0
  have cr2:V4.cell? ⟨w.heap.size + 1 + 1,0,none⟩=some (.slice (some ⟨g,0,none⟩) n c2):=by
   rw [← hV4]
   have:=(i3'.set_ 0 (.slice (some ⟨g,0,none⟩) n c2)).cell 0
   simpa using this
  have ownG:OwnC V4 W3.heap.size (some ⟨g,0,none⟩) c2 (withL l x):=by
   rw [← hV4]; exact ownF.kept (lgrown_set _ _ _) (fun r e => by cases e; show w.heap.size + 1 + 1 < _; omega)
  have bG:Below w.heap.size w V4:=by rw [← hV4]; exact bF.setCell (by show w.heap.size≤w.heap.size + 1 + 1; omega) _
  have HF:=Lib.hid (And.intro ownG.at_ bG)
  clear own4 j2 j3 b4 s3 s4 own5 i2 i3 b45 hs5 st1 st2 st3 gr ownF i3' bF ownG bG hgB hgl hlen hpos hq
  go_wp2
  refine bodyPost_ret (by simp [results,Tryz.results150,go_sem,cr2]; try rfl) rfl ?_
  exact ⟨⟨_,n,_,rfl,hl.out,HF.out.1.mono (fun b hb _ => Nat.le_trans HK.out.2.2.2.1.size hb)⟩,HF.out.2⟩
 ·have hqI:posI l x.y=-1:=by unfold posI; rw [if_neg hpos]
  rw [hqI]
  obtain ⟨W6,hW6⟩:∃ W6,W6=w5.alloc (.cells #[.int .i64 x.k,.int .i64 x.y,.int .u64 (x.v:Nat)] 74):=⟨_,rfl⟩
  have b6:Below w5.heap.size w5 W6:=by rw [hW6]; exact ba _ _
  have kq:Blk W6 w5.heap.size 74 #[.int .i64 x.k,.int .i64 x.y,.int .u64 (x.v:Nat)]:=by rw [hW6]; exact Blk.new _ _ _
  have own6:OwnC W6 W3.heap.size A2 c2 l:=own5.kept (lbelow_grown b6 none) (fun r e => by cases e)
  obtain ⟨A3,c3,w7,hrun,own7,g7,hat7⟩:=ch_app own6 (some ⟨w5.heap.size,0,none⟩) 1 [x] n 1 hn.out rfl (fun b o e i hi => by
   cases e
   have:i=0:=by simp at hi; omega
   subst this
   exact ⟨(kq.cell 0).trans rfl,(kq.cell 1).trans rfl,(kq.cell 2).trans rfl⟩) (fun _ => ⟨_,_,rfl⟩) (by rw [hn.out]; exact own6.cap) (by rw [← hn.out]; simp; omega) (by have:=b6.size; omega)
  have hl:Hid (n + 1=(withL l x).length):=Lib.hid (by unfold withL; rw [if_neg hpos,List.length_append,hn.out]; rfl)
  have ownF:OwnC w7 W3.heap.size A3 c3 (withL l x):=by unfold withL; rw [if_neg hpos]; exact own7
  have i3':=(i3.below b6 i3.lt).kept g7 (fun e => by have:=own6.lt' _ e.symm; omega)
  have bF:=(bt b45 b6).grown g7 (by have:=b6.size; omega) (fun r e => by have:=own6.lt' r e; omega)
  obtain ⟨V4,hV4⟩:∃ V4,w7.setCell ⟨w.heap.size + 1 + 1,0,none⟩ (.slice A3 (n + 1:Nat) c3)=V4:=⟨_,rfl⟩
  have cr:w7.cell? ⟨w.heap.size + 1 + 1,0,none⟩=some (.slice none 0 0):=i3'.cell 0
  have fr:w7.frozen? ⟨w.heap.size + 1 + 1,0,none⟩=false:=i3'.frozen 0
  have cr2:V4.cell? ⟨w.heap.size + 1 + 1,0,none⟩=some (.slice A3 (n + 1:Nat) c3):=by
   rw [← hV4]
   have:=(i3'.set_ 0 (.slice A3 (n + 1:Nat) c3)).cell 0
   simpa using this
  have ownG:OwnC V4 W3.heap.size A3 c3 (withL l x):=by
   rw [← hV4]; exact ownF.kept (lgrown_set _ _ _) (fun r e => by cases e; show w.heap.size + 1 + 1 < _; omega)
  have bG:Below w.heap.size w V4:=by rw [← hV4]; exact bF.setCell (by show w.heap.size≤w.heap.size + 1 + 1; omega) _
  have HF:=Lib.hid (And.intro ownG.at_ bG)
  rw [hW6] at hrun
  clear own4 j2 j3 b4 s3 s4 own5 i2 i3 b45 hs5 hW6 b6 kq own6 own7 g7 hat7 ownF i3' bF ownG bG hpos
  go_wp2_with (at_builtin; refine wpList_append_run rfl (.tmp 20) (.tmp 22) 40 rfl _ _ _ w7 rfl rfl hrun ?_)
  refine bodyPost_ret (by simp [results,Tryz.results150,go_sem,cr2]; try rfl) rfl ?_
  exact ⟨⟨_,n + 1,_,rfl,hl.out,HF.out.1.mono (fun b hb _ => Nat.le_trans HK.out.2.2.2.1.size hb)⟩,HF.out.2⟩
end Go.Proofs.YtlliaihmfimdoaaGreat


namespace Go.Proofs.YtlliaihmfimdoaaGreat
open Go.RowKit Go.Maps
structure KS where
 B:Nat→Prop
 V:Nat→Nat × Bool
 W:Int→Option (List Ch × Bool)
 L:List LRow
def KS.zero (B:Nat→Prop):KS:=⟨B,fun _ => (0,false),fun _ => none,[]⟩
def updW (W:Int→Option (List Ch × Bool)) (n:Int) (x:Option (List Ch × Bool)):Int→Option (List Ch × Bool):=fun j => if j=n then x else W j
def WRel (w:World) (B:Nat→Prop) (G:Int→Option Value) (W:Int→Option (List Ch × Bool)):Prop:=∀ k,(W k=none→G k=none)∧(∀ l p,W k=some (l,p)→∃ A n c,G k=some (.agg #[.slice A n c,.bool p])∧n=l.length∧ChAt w B A l)
theorem WRel.same {w w':World} {B B':Nat→Prop} {G:Int→Option Value} {W:Int→Option (List Ch × Bool)} (h:WRel w B G W) (hs:∀ A l,ChAt w B A l→ChAt w' B' A l):WRel w' B' G W:=fun k => ⟨(h k).1,fun l p e => by
 obtain ⟨A,n,c,h1,h2,h3⟩:=(h k).2 l p e
 exact ⟨A,n,c,h1,h2,hs _ _ h3⟩⟩
theorem WRel.put {w:World} {B:Nat→Prop} {G:Int→Option Value} {W:Int→Option (List Ch × Bool)} (h:WRel w B G W) (k:Int) (A:Option Addr) (n c:Nat) (l:List Ch) (p:Bool) (hn:n=l.length) (hc:ChAt w B A l):WRel w B (putG G k (.agg #[.slice A n c,.bool p])) (updW W k (some (l,p))):=fun j => by
 unfold putG updW
 by_cases e:j=k
 ·rw [if_pos e,if_pos e]
  exact ⟨(fun h => by cases h),(fun l' p' h => by cases h; exact ⟨A,n,c,rfl,hn,hc⟩)⟩
 ·rw [if_neg e,if_neg e]; exact h j
theorem WRel.del {w:World} {B:Nat→Prop} {G:Int→Option Value} {W:Int→Option (List Ch × Bool)} (h:WRel w B G W) (k:Int):WRel w B (delG G k) (updW W k none):=fun j => by
 unfold delG updW
 by_cases e:j=k
 ·rw [if_pos e,if_pos e]
  exact ⟨(fun _ => rfl),(fun l' p' h => by cases h)⟩
 ·rw [if_neg e,if_neg e]; exact h j
def Keep (cs cs':Array Value):Prop:=cs'.size=cs.size∧∀ i,34≤i→cs'[i]?=cs[i]?
theorem Keep.rfl' {cs:Array Value}:Keep cs cs:=⟨rfl,fun _ _ => rfl⟩
theorem Keep.trans {a b c:Array Value} (h:Keep a b) (k:Keep b c):Keep a c:=⟨k.1.trans h.1,fun i hi => (k.2 i hi).trans (h.2 i hi)⟩
theorem Keep.set (cs:Array Value) (j:Nat) (hj:j < 34) (v:Value):Keep cs (cs.setIfInBounds j v):=⟨by simp,fun i hi => Array.getElem?_setIfInBounds_ne (by omega)⟩
structure KvAt (w:World) (g:Nat) (tt:TypeId) (cs:Array Value) (S:KS) (N:Nat):Prop where
 bk:Blk w g tt cs
 ty:tt≠74
 vs:∀ k,k < 16→cs[2 * k]?=some (.int .u64 ((S.V k).1:Nat))∧cs[2 * k + 1]?=some (.bool (S.V k).2)
 wk:∃ m G,cs[32]?=some (.map m)∧FSrc isWork w m N G∧WRel w S.B G S.W
 lk:S.L.length≤64∧∃ m,cs[33]?=some (.map m)∧Src w m S.L
 le:∀ k l p,S.W k=some (l,p)→l.length≤N∧∀ x ∈ l,keyB x.y=true
section
variable {w w':World} {g N:Nat} {tt:TypeId} {cs:Array Value} {S:KS}
theorem KvAt.below (h:KvAt w g tt cs S N) (hb:Below w.heap.size w w'):KvAt w' g tt cs S N:=by
 obtain ⟨h1,h2,h3,⟨m,G,h4,h5,h6⟩,⟨h7,m2,h8,h9⟩,h10⟩:=h
 exact ⟨h1.below hb h1.lt,h2,h3,⟨m,G,h4,h5.below hb,h6.same fun A l hc => hc.below hb⟩,⟨h7,m2,h8,h9.below hb⟩,h10⟩
theorem KvAt.far {g':Nat} {t':TypeId} {cs':Array Value} (h:KvAt w g tt cs S N) (hg:w.grownBy w' (some g')) (hne:g≠g') (hk:Blk w g' t' cs') (ht:t'≠74):KvAt w' g tt cs S N:=by
 obtain ⟨h1,h2,h3,⟨m,G,h4,h5,h6⟩,⟨h7,m2,h8,h9⟩,h10⟩:=h
 exact ⟨h1.kept hg (by simpa using hne),h2,h3,⟨m,G,h4,h5.kept hg hk,h6.same fun A l hc => hc.kept hg hk ht⟩,⟨h7,m2,h8,h9.kept hg hk⟩,h10⟩
theorem KvAt.more {N':Nat} (h:KvAt w g tt cs S N) (hN:N≤N'):KvAt w g tt cs S N':=by
 obtain ⟨h1,h2,h3,⟨m,G,h4,h5,h6⟩,h7,h10⟩:=h
 exact ⟨h1,h2,h3,⟨m,G,h4,h5.more hN,h6⟩,h7,fun k l p e => ⟨Nat.le_trans (h10 k l p e).1 hN,(h10 k l p e).2⟩⟩
theorem KvAt.lt (h:KvAt w g tt cs S N):g < w.heap.size:=h.bk.lt
theorem KvAt.tab (h:KvAt w g tt cs S N):TabO w g 33 tt cs S.L:=by
 obtain ⟨h7,m2,h8,h9⟩:=h.lk
 exact ⟨h7,m2,h.bk,h8,h9⟩
theorem KvAt.locked {L':List LRow} (h:KvAt w g tt cs S N) (hg:w.grownBy w' (some g)) (ht:∃ m,TabO w' g 33 tt (cs.setIfInBounds 33 (.map m)) L'):∃ cs',KvAt w' g tt cs' { S with L:=L' } N∧Keep cs cs':=by
 obtain ⟨m,h7,m2,hb,hc,hs⟩:=ht
 obtain ⟨h1,h2,h3,⟨mw,G,h4,h5,h6⟩,_,h10⟩:=h
 refine ⟨_,⟨hb,h2,fun k hk => ?_,⟨mw,G,?_,h5.kept hg h1,h6.same fun A l hc => hc.kept hg h1 h2⟩,⟨h7,m2,hc,hs⟩,h10⟩,Keep.set _ _ (by omega) _⟩
 ·rw [Array.getElem?_setIfInBounds_ne (by omega),Array.getElem?_setIfInBounds_ne (by omega)]; exact h3 k hk
 ·rw [Array.getElem?_setIfInBounds_ne (by omega)]; exact h4
end
def curW (S:KS) (n:Int):List Ch × Bool:=(S.W n).getD ([],false)
theorem KvAt.look {w:World} {g N:Nat} {tt:TypeId} {cs:Array Value} {S:KS} (h:KvAt w g tt cs S N) {n:Int} (hn:i64ok n):∃ m A q c,cs[32]?=some (.map m)∧q=(curW S n).1.length∧ChAt w S.B A (curW S n).1 ∧
  (Instr.lookup 90 (.map m) (.int .i64 n) false).run Tryz.prog w=.ok (.agg #[.slice A q c,.bool (curW S n).2]) w∧(Instr.lookup 90 (.map m) (.int .i64 n) true).run Tryz.prog w=.ok (.tuple #[.agg #[.slice A q c,.bool (curW S n).2],.bool (S.W n).isSome]) w:=by
 obtain ⟨m,G,h4,h5,h6⟩:=h.wk
 have r1:=h5.look 90 138 Tryz.underlying90 (z:=.agg #[.slice none 0 0,.bool false]) rfl (Tryz.zeroValue138 w) hn
 have r2:=h5.look_ok 90 138 Tryz.underlying90 (z:=.agg #[.slice none 0 0,.bool false]) rfl (Tryz.zeroValue138 w) hn
 unfold curW
 rcases hW:S.W n with _ | ⟨l,p⟩
 ·have hG:=(h6 n).1 hW
  rw [hG] at r1 r2
  exact ⟨m,none,0,0,h4,rfl,fun hl => by simp at hl,r1,r2⟩
 ·obtain ⟨A,q,c,hG,hq,hc⟩:=(h6 n).2 l p hW
  rw [hG] at r1 r2
  exact ⟨m,A,q,c,h4,hq,hc,r1,r2⟩
set_option maxRecDepth 100000 in
set_option maxHeartbeats 1000000 in
theorem lay_any (g:Nat) (tt:TypeId) (cs:Array Value) (S:KS) (N:Nat) (n:Int) (A:Option Addr) (l:List Ch) (m c:Nat) (p:Bool) (w:World) (h:KvAt w g tt cs S N) (hN:N < 900000) (hn:i64ok n) (hm:m=l.length) (hl:l.length≤N + 1) (hkl:∀ x ∈ l,keyB x.y=true) (hc:ChAt w S.B A l) :
  Calls Tryz.prog 104 #[.pointer (some ⟨g,0,none⟩),.int .i64 n,.agg #[.slice A m c,.bool p]] w fun e w' => e=.returned (.tuple #[])∧(∃ cs',KvAt w' g tt cs' { S with W:=updW S.W n (some (l,p)) } (N + 1)∧Keep cs cs')∧w.grownBy w' (some g):=by
 have hkey:=keyOf_i n hn
 have hmk:∀ (q:Int) (u:World),(Instr.makeMap 90 (some (.int .i64 q))).run Tryz.prog u=.ok (.map (some u.heap.size)) (u.alloc (.map #[] 0)):=fun q u => by
  simp [Instr.makeMap,run_underlying Tryz.underlying90,asInt,go_sem,Result.andThen]
 obtain ⟨w1,hw1⟩:∃ w1,w1=w.alloc (.cells #[.slice A m c,.bool p] 138):=⟨_,rfl⟩
 have hb1:Below w.heap.size w w1:=by rw [hw1]; exact ba _ _
 have hs1:w1.heap.size=w.heap.size + 1:=by rw [hw1]; simp
 have k1:Blk w1 w.heap.size 138 #[.slice A m c,.bool p]:=by rw [hw1]; exact Blk.new _ _ _
 have h1:=h.below hb1
 obtain ⟨mw,G,h4,h5,h6⟩:=h1.wk
 obtain ⟨q,hq,hln⟩:=h5.len_run 90 138 Tryz.underlying90 3
 have c0:=(h1.bk.cell 32).trans h4
 have hb2:=ba w1 (.map #[] 0)
 have hmade:(w1.alloc (.map #[] 0)).ownsMap Tryz.prog 3 (asIf isWork) w1.heap.size 0 (.map []):=World.ownsMap_made (H:=Value) w1 Tryz.prog 3 (asIf isWork)
 have hmlt:mw≠some w1.heap.size:=fun e => by
  rcases h5 with ⟨e1,_⟩ | ⟨b,D,e1,e2,_⟩
  ·rw [e1] at e; cases e
  ·rw [e1] at e; have:=e2.lt; have:=Option.some.inj e; omega
 obtain ⟨D,hR,hcp⟩:=(h5.below hb2).copied (by omega) _ hmade hmlt
 have hg2:=h1.bk.below hb2 h1.bk.lt
 have c2:=(hg2.cell 32).trans h4
 have k12:=k1.below hb2 k1.lt
 generalize hbm:w1.heap.size=bm at *
 have hb12:=bt hb1 (hbm ▸ hb2)
 have hglt:=h.lt
 rw [hw1] at c0 hln hcp c2
 have HW1:=Lib.hid hw1
 have Hst:=Lib.hid (And.intro hR (And.intro h (And.intro hc (And.intro hm (And.intro hl (And.intro hn (And.intro h6 h4)))))))
 have Hb2:Hid (Below w1.heap.size w1 (w1.alloc (.map #[] 0))):=Lib.hid (ba _ _)
 have hqb:IntKind.i64.wrap ((q:Int) + 1)=(q:Int) + 1:=by rw [IntWalk.i64_in _ (by omega)]
 clear hw1 h5 hmade hmlt hb1 k1 hb2 hR hc hm hl hn h6 h1 h4 h hq
 go_enter Tryz.func104,Tryz.ntmps104
 go_wp2_with fail
 have hbm1:w.heap.size + 1=bm:=hs1.symm
 rw [hbm1]
 refine hcp.mono ?_
 rintro e w3 ⟨rfl,hown3,hg3⟩
 rw [← HW1.out] at hg3
 have hgm:g≠bm:=by omega
 have g3:=hg2.kept hg3 (fun e => hgm (Option.some.inj e))
 have k13:=k12.kept hg3 (fun e => by have:=Option.some.inj e; omega)
 have e0:=k13.cell 0
 have e1:=k13.cell 1
 simp only [List.getElem?_toArray,List.getElem?_cons_zero,List.getElem?_cons_succ] at e0 e1
 have Hbs:=Lib.hid hs1
 clear hcp c0 c2 hln hg2 k12 hs1 hbm1
 have hnl:N < maxLen:=by unfold maxLen; omega
 go_wp2_with (first
  | (at_mapUpdate; refine wpList_mapUpdate_own _ rfl _ _ _ 90 rfl 3 138 lawI Tryz.underlying90 _ bm _ _ rfl hown3 hnl _ _ _ rfl rfl hkey _ [] (asIf_mk (isWork_val ⟨A,m,c,p⟩)) ?_; intro w4 hown4 hg4; go_frame; have g4:=g3.kept hg4 (fun e => hgm (Option.some.inj e)); have d0:=(g4.cell 32).trans Hst.out.2.2.2.2.2.2.2; have f0:=g4.frozen 32)
  | go_in)
 go_wp2
 go_end0
 obtain ⟨hR,h,hc,hm,hl,hn,h6,h4⟩:=Hst.out
 have hbs:=Hbs.out
 have hR4:=hR.put hown3.isMap n (.agg #[.slice A m c,.bool p])
 have q1:w.grownBy w4 none:=by
  refine ⟨hg4.os.trans (hg3.os.trans hb12.os),hg4.tape.trans (hg3.tape.trans hb12.tape),hg4.output.trans (hg3.output.trans hb12.output),Nat.le_trans hb12.size (Nat.le_trans hg3.size hg4.size),fun i hi _ => ?_⟩
  have hi2:=Nat.lt_of_lt_of_le hi hb12.size
  have hni:some i≠some bm:=fun e => by have:=Option.some.inj e; omega
  exact (hg4.block i (Nat.lt_of_lt_of_le hi2 hg3.size) hni).trans ((hg3.block i hi2 hni).trans (hb12.block i hi))
 have hh:=h.below (lgrown_below q1)
 have hgs:=lgrown_set w4 ⟨g,32,none⟩ (.map (some bm))
 refine ⟨rfl,⟨cs.setIfInBounds 32 (.map (some bm)),⟨g4.set_ 32 _,h.ty,fun k hk => ?_,⟨some bm,_,set_at h4,.inr ⟨bm,_,rfl,hown4.setCell (a:=⟨g,32,none⟩) (fun e => hgm e.symm) _,hR4⟩,?_⟩,⟨h.lk.1,?_⟩,fun k l' p' e => ?_⟩,Keep.set _ _ (by omega) _⟩,?_⟩
 ·rw [Array.getElem?_setIfInBounds_ne (by omega),Array.getElem?_setIfInBounds_ne (by omega)]; exact h.vs k hk
 ·have q2:Below w1.heap.size w1 w4:=by
   refine ⟨hg4.os.trans (hg3.os.trans Hb2.out.os),hg4.tape.trans (hg3.tape.trans Hb2.out.tape),hg4.output.trans (hg3.output.trans Hb2.out.output),Nat.le_trans Hb2.out.size (Nat.le_trans hg3.size hg4.size),fun i hi => ?_⟩
   have hi2:=Nat.lt_of_lt_of_le hi Hb2.out.size
   have hni:some i≠some bm:=fun e => by have:=Option.some.inj e; have:=HW1.out; rw [this] at hi; simp at hi; omega
   exact (hg4.block i (Nat.lt_of_lt_of_le hi2 hg3.size) hni).trans ((hg3.block i hi2 hni).trans (Hb2.out.block i hi))
  exact ((h6.same fun A l hc => hc.below q2).put n A m c l p hm (hc.below (lgrown_below q1))).same fun A l hc => hc.kept hgs g4 h.ty
 ·obtain ⟨h7,m2,h8,h9⟩:=hh.lk
  exact ⟨m2,by rw [Array.getElem?_setIfInBounds_ne (by omega)]; exact h8,h9.kept hgs g4⟩
 ·have e:updW S.W n (some (l,p)) k=some (l',p'):=e
  unfold updW at e
  split at e
  ·cases e; exact ⟨hl,hkl⟩
  ·have:=h.le k l' p' e; exact ⟨by omega,this.2⟩
 ·exact (q1.but (some g)).andThen hgs (fun j h => by cases h; exact .inr rfl)
end Go.Proofs.YtlliaihmfimdoaaGreat


namespace Go.Proofs.YtlliaihmfimdoaaGreat
open Go.RowKit Go.Maps
theorem fieldW1 (A:Option Addr) (q c:Nat) (p:Bool) (w:World):(Instr.field 138 (.agg #[.slice A q c,.bool p]) 1).run Tryz.prog w=.ok (.bool p) w:=by kernel_rfl
theorem fieldW0 (A:Option Addr) (q c:Nat) (p:Bool) (w:World):(Instr.field 138 (.agg #[.slice A q c,.bool p]) 0).run Tryz.prog w=.ok (.agg #[.slice A q c]) w:=by kernel_rfl
theorem fieldC0 (A:Option Addr) (q c:Nat) (w:World):(Instr.field 136 (.agg #[.slice A q c]) 0).run Tryz.prog w=.ok (.slice A q c) w:=by kernel_rfl
def KvO (w:World) (g:Nat) (tt:TypeId) (cs:Array Value) (S:KS) (N:Nat) (w':World):Prop:=(∃ cs',KvAt w' g tt cs' S N∧Keep cs cs')∧w.grownBy w' (some g)
theorem KvO.same {w w':World} {g:Nat} {tt:TypeId} {cs:Array Value} {S:KS} {N:Nat} (h:KvAt w g tt cs S N) (hb:Below w.heap.size w w'):KvO w g tt cs S N w':=⟨⟨cs,h.below hb,Keep.rfl'⟩,lbelow_grown hb _⟩
theorem KvO.from {a w w':World} {g:Nat} {tt:TypeId} {cs cs1:Array Value} {S:KS} {N:Nat} (hk:Keep cs cs1) (hg:a.grownBy w (some g)) (h:KvO w g tt cs1 S N w'):KvO a g tt cs S N w':=by
 obtain ⟨⟨cs',h1,h2⟩,h3⟩:=h
 exact ⟨⟨cs',h1,hk.trans h2⟩,hg.trans h3⟩
def openM (S:KS) (n y:Int) (a:Bool):Int × KS :=
 if n < 1∨keyB y=false then (1,S) else if (curW S n).2=true then (7,S) else ((takeL S.L n y a).1,{ S with L:=(takeL S.L n y a).2 })
set_option maxRecDepth 100000 in
set_option maxHeartbeats 1000000 in
theorem open_any (g:Nat) (tt:TypeId) (cs:Array Value) (S:KS) (N:Nat) (n y:Int) (a:Bool) (w:World) (h:KvAt w g tt cs S N) (hn:i64ok n) (hy:i64ok y) :
  Calls Tryz.prog 124 #[.pointer (some ⟨g,0,none⟩),.int .i64 n,.int .i64 y,.bool a] w fun e w' => e=.returned (.int .i64 (openM S n y a).1)∧KvO w g tt cs (openM S n y a).2 N w':=by
 by_cases h1:n < 1
 ·have hM:openM S n y a=(1,S):=by unfold openM; rw [if_pos (.inl h1)]
  rw [hM]
  have HF:=Lib.hid (KvO.same h (Below.refl _ _))
  clear h hM
  go_enter Tryz.func124,Tryz.ntmps124
  go_wp2
  go_ret
  exact ⟨rfl,HF.out⟩
 ·rcases hk:keyB y with _ | _
  ·have hM:openM S n y a=(1,S):=by unfold openM; rw [if_pos (.inr hk)]
   rw [hM]
   have HF:=Lib.hid (KvO.same h (Below.refl _ _))
   have HK:=Lib.hid hk
   clear h hM hk
   go_enter Tryz.func124,Tryz.ntmps124
   go_wp2_with fail
   refine (kisKey_any y false HK.out w).mono ?_
   rintro e w1 ⟨rfl,rfl⟩
   go_wp2
   go_ret
   exact ⟨rfl,HF.out⟩
  ·obtain ⟨m,A,q,c,h32,hq,hc,r1,r2⟩:=h.look hn
   have c32:=(h.bk.cell 32).trans h32
   have HK:=Lib.hid hk
   rcases hp:(curW S n).2 with _ | _
   ·have hM:openM S n y a=((takeL S.L n y a).1,{ S with L:=(takeL S.L n y a).2 }):=by
     unfold openM; rw [if_neg (by simp [h1,hk]),if_neg (by simp [hp])]
    rw [hM]
    rw [hp] at r1
    have hf1:=fieldW1 A q c false
    have HT:=Lib.hid (take_any g 33 tt cs S.L n y a w h.tab hy hn)
    have HS:=Lib.hid h
    clear h hM hk hp hq hc r2 h32
    go_enter Tryz.func124,Tryz.ntmps124
    go_wp2_with fail
    refine (kisKey_any y true HK.out w).mono ?_
    rintro e w1 ⟨rfl,rfl⟩
    go_wp2_with fail
    refine HT.out.mono ?_
    rintro e w1 ⟨rfl,ht,hg⟩
    have HF:=Lib.hid (And.intro (HS.out.locked hg ht) hg)
    clear ht hg
    go_wp2
    go_ret
    exact ⟨rfl,HF.out⟩
   ·have hM:openM S n y a=(7,S):=by unfold openM; rw [if_neg (by simp [h1,hk]),if_pos hp]
    rw [hM]
    rw [hp] at r1
    have hf1:=fieldW1 A q c true
    have HF:=Lib.hid (KvO.same h (Below.refl _ _))
    clear h hM hk hp hq hc r2 h32
    go_enter Tryz.func124,Tryz.ntmps124
    go_wp2_with fail
    refine (kisKey_any y true HK.out w).mono ?_
    rintro e w1 ⟨rfl,rfl⟩
    go_wp2
    go_ret
    exact ⟨rfl,HF.out⟩
def changeM (S:KS) (n:Int) (x:Ch):Int × KS :=
 if (openM S n x.y true).1=0 then (0,{ (openM S n x.y true).2 with W:=updW S.W n (some (withL (curW S n).1 x,false)) }) else openM S n x.y true
theorem openM_B (S:KS) (n y:Int) (a:Bool):(openM S n y a).2.B=S.B:=by
 unfold openM; split
 ·rfl
 ·split <;> rfl
theorem openM_W (S:KS) (n y:Int) (a:Bool):(openM S n y a).2.W=S.W∧(openM S n y a).2.V=S.V:=by
 unfold openM; split
 ·exact ⟨rfl,rfl⟩
 ·split <;> exact ⟨rfl,rfl⟩
theorem openM_ok {S:KS} {n y:Int} {a:Bool} (h:(openM S n y a).1=0):(curW S n).2=false∧1≤n∧keyB y=true:=by
 unfold openM at h
 split at h
 ·cases h
 ·rename_i h1
  split at h
  ·cases h
  ·rename_i h2
   refine ⟨by simpa using h2,by omega,?_⟩
   rcases hk:keyB y with _ | _
   ·exact absurd (.inr hk) h1
   ·rfl
set_option maxRecDepth 100000 in
set_option maxHeartbeats 2000000 in
theorem change_any (g:Nat) (tt:TypeId) (cs:Array Value) (S:KS) (N:Nat) (n:Int) (x:Ch) (w:World) (h:KvAt w g tt cs S N) (hN:N < 300000) (hn:i64ok n) (hy:i64ok x.y) (hB:∀ b,w.heap.size≤b→S.B b) :
  Calls Tryz.prog 122 #[.pointer (some ⟨g,0,none⟩),.int .i64 n,.agg #[.int .i64 x.k,.int .i64 x.y,.int .u64 (x.v:Nat)]] w fun e w' => e=.returned (.int .i64 (changeM S n x).1)∧KvO w g tt cs (changeM S n x).2 (N + 1) w':=by
 obtain ⟨w1,hw1⟩:∃ w1,w1=w.alloc (.cells #[.int .i64 x.k,.int .i64 x.y,.int .u64 (x.v:Nat)] 74):=⟨_,rfl⟩
 have b1:Below w.heap.size w w1:=by rw [hw1]; exact ba _ _
 have k1:Blk w1 w.heap.size 74 #[.int .i64 x.k,.int .i64 x.y,.int .u64 (x.v:Nat)]:=by rw [hw1]; exact Blk.new _ _ _
 have h1:=h.below b1
 have c1:=k1.cell 1
 simp only [List.getElem?_toArray,List.getElem?_cons_zero,List.getElem?_cons_succ] at c1
 have hgl:=h.lt
 have HO:=Lib.hid (open_any g tt cs S N n x.y true w1 h1 hn hy)
 have HW:=Lib.hid hw1
 have HK:=Lib.hid (And.intro k1 (And.intro b1 (And.intro hn hgl)))
 rw [hw1] at c1
 clear hw1 b1 k1 h1 h hgl hn
 rcases he:((openM S n x.y true).1 == 0) with _ | _
 ·have he':(openM S n x.y true).1≠0:=by simpa using he
  have hM:changeM S n x=openM S n x.y true:=by unfold changeM; rw [if_neg he']
  rw [hM]
  obtain ⟨e0,he0⟩:∃ e0,e0=(openM S n x.y true).1:=⟨_,rfl⟩
  rw [← he0] at HO he ⊢
  have hne:(e0 != 0)=true:=by simp [bne,he]
  clear he' hM he0 hB
  go_enter Tryz.func122,Tryz.ntmps122
  go_wp2_with fail
  rw [← HW.out]
  refine HO.out.mono ?_
  rintro e w2 ⟨rfl,⟨⟨cs',hk,hkp⟩,hg⟩⟩
  have HF:=Lib.hid (KvO.from (a:=w) (cs:=cs) Keep.rfl' (lbelow_grown HK.out.2.1 (some g)) ⟨⟨cs',hk.more (Nat.le_succ N),hkp⟩,hg⟩)
  clear hk hkp hg c1
  go_wp2
  go_ret
  exact ⟨rfl,HF.out⟩
 ·have he':(openM S n x.y true).1=0:=by simpa using he
  have hM:changeM S n x=(0,{ (openM S n x.y true).2 with W:=updW S.W n (some (withL (curW S n).1 x,false)) }):=by unfold changeM; rw [if_pos he']
  rw [hM]
  have hok:=openM_ok he'
  have hW:=openM_W S n x.y true
  rw [he'] at HO
  obtain ⟨S1,hS1⟩:∃ S1,S1=(openM S n x.y true).2:=⟨_,rfl⟩
  rw [← hS1] at HO hW ⊢
  have hcur:curW S1 n=curW S n:=by unfold curW; rw [hW.1]
  have HC:=Lib.hid (And.intro hcur (And.intro hok hW))
  have HBB:Hid (S1.B=S.B∧∀ b,w.heap.size≤b→S.B b):=Lib.hid ⟨by rw [hS1]; exact openM_B S n x.y true,hB⟩
  clear he he' hM hok hW hS1 hcur hB
  go_enter Tryz.func122,Tryz.ntmps122
  go_wp2_with fail
  rw [← HW.out]
  refine HO.out.mono ?_
  rintro e w2 ⟨rfl,⟨⟨cs1,hk1,hkp⟩,hg2⟩⟩
  clear c1
  -- what is looked up
  obtain ⟨m,A,q,c,h32,hq,hc,r1,_⟩:=hk1.look HK.out.2.2.1
  rw [HC.out.1] at hq hc r1
  rw [HC.out.2.1.1] at r1
  have c32:=(hk1.bk.cell 32).trans h32
  have hql:q≤N:=by
   rw [hq]
   unfold curW
   rcases hW:S.W n with _ | ⟨l,p⟩
   ·exact Nat.zero_le _
   ·exact (hk1.le n l p (by rw [HC.out.2.2.1]; exact hW)).1
  have k2:=HK.out.1.kept hg2 (fun e => by have:=Option.some.inj e; have:=HK.out.2.2.2; omega)
  obtain ⟨w3,hw3⟩:∃ w3,w3=w2.alloc (.cells #[.slice A q c,.bool false] 138):=⟨_,rfl⟩
  have b3:Below w2.heap.size w2 w3:=by rw [hw3]; exact ba _ _
  have kw:Blk w3 w2.heap.size 138 #[.slice A q c,.bool false]:=by rw [hw3]; exact Blk.new _ _ _
  have k3:=k2.below b3 k2.lt
  have HWi:=Lib.hid (with_any A (curW S n).1 q c x (Lib.hid hq) (by omega) w3 (hc.below b3))
  have d0:=kw.cell 0
  have e0:=k3.cell 0
  have e1:=k3.cell 1
  have e2:=k3.cell 2
  simp only [List.getElem?_toArray,List.getElem?_cons_zero,List.getElem?_cons_succ] at d0 e0 e1 e2
  have H3:=Lib.hid (And.intro (hk1.below b3) (And.intro hkp (And.intro (show w.grownBy w3 (some g) from ((lbelow_grown HK.out.2.1 (some g)).trans hg2).trans (lbelow_grown b3 _)) (And.intro kw (And.intro (show g≠w2.heap.size by have:=hk1.lt; omega) (And.intro hql (And.intro hq (And.intro (show w.heap.size≤w2.heap.size from Nat.le_trans HK.out.2.1.size hg2.size) b3.size))))))))
  have HW3:=Lib.hid hw3
  rw [hw3] at d0 e0 e1 e2
  clear hw3 b3 kw k3 k2 hk1 hkp hg2 hq hc h32 hql
  go_wp2_with fail
  rw [← HW3.out]
  refine HWi.out.mono ?_
  rintro e w4 ⟨⟨A4,q4,c4,rfl,hq4,hc4⟩,b4⟩
  clear d0 e0 e1 e2 r1 c32
  obtain ⟨hk3,hkp,hg3,kw,hgne,hql,hq,hsz,hsz3⟩:=H3.out
  have kw4:=kw.below b4 kw.lt
  obtain ⟨w5,hw5⟩:∃ w5,w5=w4.setCell ⟨w2.heap.size,0,none⟩ (.slice A4 q4 c4):=⟨_,rfl⟩
  have kw5:Blk w5 w2.heap.size 138 #[.slice A4 q4 c4,.bool false]:=by rw [hw5]; simpa using kw4.set_ 0 (.slice A4 q4 c4)
  have g5:w4.grownBy w5 (some w2.heap.size):=by rw [hw5]; exact lgrown_set _ _ _
  have hk5:=(hk3.below b4).far g5 hgne kw4 (of_decide_eq_true (by kernel_rfl))
  have hc5:=hc4.kept g5 kw4 (of_decide_eq_true (by kernel_rfl))
  have hl4:=withL_len (curW S n).1 x
  have HL:=Lib.hid (lay_any g tt cs1 S1 N n A4 (withL (curW S n).1 x) q4 c4 false w5 hk5 (by omega) HK.out.2.2.1 hq4 (by omega) (fun z hz => by
   have h0:∀ z ∈ (curW S n).1,keyB z.y=true:=by
    unfold curW
    rcases hW:S.W n with _ | ⟨l,p⟩
    ·intro z hz; simp at hz
    ·exact (hk5.le n l p (by rw [HC.out.2.2.1]; exact hW)).2
   unfold withL at hz
   split at hz
   ·rcases List.mem_or_eq_of_mem_set hz with h | rfl
    ·exact h0 z h
    ·exact HC.out.2.1.2.2
   ·rcases List.mem_append.1 hz with h | h
    ·exact h0 z h
    ·rw [List.mem_singleton] at h; subst h; exact HC.out.2.1.2.2) (hc5.mono fun b hb _ => by rw [HBB.out.1]; exact HBB.out.2 b (by omega)))
  have f0:=kw4.frozen 0
  have d0:=kw4.cell 0
  have e0:=kw5.cell 0
  have e1:=kw5.cell 1
  simp only [List.getElem?_toArray,List.getElem?_cons_zero,List.getElem?_cons_succ] at d0 e0 e1
  have gw5:w.grownBy w5 (some g):=by
   have h4:=hg3.trans (lbelow_grown b4 (some g))
   exact h4.andThen g5 (fun j e => by cases e; exact .inl hsz)
  have HG:=Lib.hid (And.intro gw5 hkp)
  have HW5:=Lib.hid hw5
  rw [hw5] at e0 e1
  clear hw5 kw5 g5 hk5 hc5 kw4 hk3 hkp hg3 kw hgne hql hq hsz hsz3 b4 hq4 hc4 hl4 gw5
  go_wp2_with fail
  rw [← HW5.out]
  refine HL.out.mono ?_
  rintro e w6 ⟨rfl,⟨cs6,hk6,hkp6⟩,hg6⟩
  have HF:=Lib.hid (KvO.from HG.out.2 HG.out.1 ⟨⟨cs6,hk6,hkp6⟩,hg6⟩)
  have e9:({ S1 with W:=updW S1.W n (some (withL (curW S n).1 x,false)) }:KS)={ S1 with W:=updW S.W n (some (withL (curW S n).1 x,false)) }:=by rw [HC.out.2.2.1]
  rw [e9] at HF
  clear hk6 hkp6 hg6 d0 f0 e0 e1
  go_wp2
  go_ret
  exact ⟨rfl,HF.out⟩
end Go.Proofs.YtlliaihmfimdoaaGreat


namespace Go.Proofs.YtlliaihmfimdoaaGreat
open Go.RowKit Go.Maps
def namesE (n:Int):Int:=if n < 1 then 1 else 0
theorem names_any (g:Nat) (n:Int) (w:World):Calls Tryz.prog 102 #[.pointer (some ⟨g,0,none⟩),.int .i64 n] w fun e w' => e=.returned (.int .i64 (namesE n))∧w=w':=by
 by_cases h:n < 1
 ·have hE:Hid (namesE n=1):=Lib.hid (if_pos h)
  go_enter Tryz.func102,Tryz.ntmps102
  go_wp2
  go_ret
  exact ⟨by rw [hE.out]; rfl,rfl⟩
 ·have hE:Hid (namesE n=0):=Lib.hid (if_neg h)
  go_enter Tryz.func102,Tryz.ntmps102
  go_wp2
  go_ret
  exact ⟨by rw [hE.out]; rfl,rfl⟩
theorem kput_any (g:Nat) (tt:TypeId) (cs:Array Value) (S:KS) (N:Nat) (n y:Int) (v:Nat) (w:World) (h:KvAt w g tt cs S N) (hN:N < 300000) (hn:i64ok n) (hy:i64ok y) (hB:∀ b,w.heap.size≤b→S.B b) :
  Calls Tryz.prog 75 #[.pointer (some ⟨g,0,none⟩),.int .i64 n,.int .i64 y,.int .u64 (v:Nat)] w fun e w' => e=.returned (.int .i64 (changeM S n ⟨1,y,v⟩).1)∧KvO w g tt cs (changeM S n ⟨1,y,v⟩).2 (N + 1) w':=by
 have HC:=Lib.hid (change_any g tt cs S N n ⟨1,y,v⟩ w h hN hn hy hB)
 clear h hB
 go_enter Tryz.func75,Tryz.ntmps75
 go_wp2_with fail
 refine HC.out.mono ?_
 rintro e w1 ⟨rfl,hk⟩
 have HF:=Lib.hid hk
 clear hk
 go_wp2
 go_ret
 exact ⟨rfl,HF.out⟩
theorem kdel_any (g:Nat) (tt:TypeId) (cs:Array Value) (S:KS) (N:Nat) (n y:Int) (w:World) (h:KvAt w g tt cs S N) (hN:N < 300000) (hn:i64ok n) (hy:i64ok y) (hB:∀ b,w.heap.size≤b→S.B b) :
  Calls Tryz.prog 79 #[.pointer (some ⟨g,0,none⟩),.int .i64 n,.int .i64 y] w fun e w' => e=.returned (.int .i64 (changeM S n ⟨2,y,0⟩).1)∧KvO w g tt cs (changeM S n ⟨2,y,0⟩).2 (N + 1) w':=by
 have HC:=Lib.hid (change_any g tt cs S N n ⟨2,y,0⟩ w h hN hn hy hB)
 clear h hB
 go_enter Tryz.func79,Tryz.ntmps79
 go_wp2_with fail
 refine HC.out.mono ?_
 rintro e w1 ⟨rfl,hk⟩
 have HF:=Lib.hid hk
 clear hk
 go_wp2
 go_ret
 exact ⟨rfl,HF.out⟩
def valM (S:KS) (y:Int):Nat × Bool:=if keyB y=true then S.V y.toNat else (0,false)
theorem keyB_nat {y:Int} (h:keyB y=true):∃ k:Nat,k < 16∧y=(k:Int):=by
 unfold keyB at h; simp at h; exact ⟨y.toNat,by omega,by omega⟩
set_option maxRecDepth 100000 in
theorem value_any (g:Nat) (tt:TypeId) (cs:Array Value) (S:KS) (N:Nat) (y:Int) (w:World) (h:KvAt w g tt cs S N) :
  Calls Tryz.prog 48 #[.pointer (some ⟨g,0,none⟩),.int .i64 y] w fun e w' => e=.returned (.tuple #[.int .u64 ((valM S y).1:Nat),.bool (valM S y).2])∧Below w.heap.size w w':=by
 rcases hk:keyB y with _ | _
 ·have hV:valM S y=(0,false):=by unfold valM; rw [hk]; rfl
  rw [hV]
  have HK:=Lib.hid hk
  clear hk h hV
  go_enter Tryz.func48,Tryz.ntmps48
  go_wp2_with fail
  refine (kisKey_any y false HK.out w).mono ?_
  rintro e w1 ⟨rfl,rfl⟩
  go_wp2
  go_ret2
  exact ⟨rfl,Below.refl _ _⟩
 ·obtain ⟨k,hk16,rfl⟩:=keyB_nat hk
  have hV:valM S (k:Int)=S.V k:=by unfold valM; rw [if_pos hk]; simp
  rw [hV]
  obtain ⟨e0,e1⟩:=h.vs k hk16
  have c0:=fun m:Nat => (show (w.drewN m).cell? ⟨g,k * 2,none⟩=some (.int .u64 ((S.V k).1:Nat)) from (h.bk.cell (k * 2)).trans (by rw [Nat.mul_comm k 2]; exact e0))
  have c1:=fun m:Nat => (show (w.drewN m).cell? ⟨g,k * 2 + 1,none⟩=some (.bool (S.V k).2) from (h.bk.cell (k * 2 + 1)).trans (by rw [Nat.mul_comm k 2]; exact e1))
  have HK:=Lib.hid hk
  have hkI:(k:Int) < 16:=by omega
  generalize S.V k=z at *
  obtain ⟨za,zb⟩:=z
  clear hk h hV e0 e1
  go_enter Tryz.func48,Tryz.ntmps48
  go_wp2_with fail
  refine (kisKey_any (k:Int) true HK.out w).mono ?_
  rintro e w1 ⟨rfl,rfl⟩
  go_wp2_with fail
  go_quiet (fail)
  have hb:Below w.heap.size w (w.drewN nq):=⟨rfl,rfl,rfl,Nat.le_refl _,fun _ _ => rfl⟩
  clear c0 c1
  go_wp2
  go_ret2
  exact ⟨rfl,hb⟩
def getM (S:KS) (n y:Int):(Nat × Bool × Int) × KS :=
 if (openM S n y false).1=0 then
  (if h:posN (curW S n).1 y < (curW S n).1.length then ((((curW S n).1[posN (curW S n).1 y]'h).v,(((curW S n).1[posN (curW S n).1 y]'h).k == 1),0),(openM S n y false).2)
  else (((valM S y).1,(valM S y).2,0),(openM S n y false).2))
 else ((0,false,(openM S n y false).1),(openM S n y false).2)
set_option maxRecDepth 100000 in
set_option maxHeartbeats 2000000 in
theorem get_any (g:Nat) (tt:TypeId) (cs:Array Value) (S:KS) (N:Nat) (n y:Int) (w:World) (h:KvAt w g tt cs S N) (hN:N < 300000) (hn:i64ok n) (hy:i64ok y) :
  Calls Tryz.prog 78 #[.pointer (some ⟨g,0,none⟩),.int .i64 n,.int .i64 y] w fun e w' => e=.returned (.tuple #[.int .u64 ((getM S n y).1.1:Nat),.bool (getM S n y).1.2.1,.int .i64 (getM S n y).1.2.2])∧KvO w g tt cs (getM S n y).2 N w':=by
 have HO:=Lib.hid (open_any g tt cs S N n y false w h hn hy)
 have Hn:=Lib.hid hn
 rcases he:((openM S n y false).1 == 0) with _ | _
 ·have he':(openM S n y false).1≠0:=by simpa using he
  have hM:getM S n y=((0,false,(openM S n y false).1),(openM S n y false).2):=by unfold getM; rw [if_neg he']
  rw [hM]
  obtain ⟨e0,he0⟩:∃ e0,e0=(openM S n y false).1:=⟨_,rfl⟩
  rw [← he0] at HO he ⊢
  have hne:(e0 != 0)=true:=by simp [bne,he]
  clear he' hM he0 h
  go_enter Tryz.func78,Tryz.ntmps78
  go_wp2_with fail
  refine HO.out.mono ?_
  rintro e w2 ⟨rfl,hk⟩
  have HF:=Lib.hid hk
  clear hk
  go_wp2
  go_returns
  exact ⟨rfl,HF.out⟩
 have he':(openM S n y false).1=0:=by simpa using he
 have hM:getM S n y=(if h:posN (curW S n).1 y < (curW S n).1.length then ((((curW S n).1[posN (curW S n).1 y]'h).v,(((curW S n).1[posN (curW S n).1 y]'h).k == 1),0),(openM S n y false).2)
  else (((valM S y).1,(valM S y).2,0),(openM S n y false).2)):=by unfold getM; rw [if_pos he']
 rw [hM]
 have hok:=openM_ok he'
 have hW:=openM_W S n y false
 rw [he'] at HO
 obtain ⟨S1,hS1⟩:∃ S1,S1=(openM S n y false).2:=⟨_,rfl⟩
 rw [← hS1] at HO hW ⊢
 have hcur:curW S1 n=curW S n:=by unfold curW; rw [hW.1]
 have hval:valM S1 y=valM S y:=by unfold valM; rw [hW.2]
 rw [← hcur,← hval]
 have HC:=Lib.hid (And.intro hcur (And.intro hok hW))
 obtain ⟨cl,hcl⟩:∃ cl,cl=curW S1 n:=⟨_,rfl⟩
 have hpr:cl.2=false:=by rw [hcl,hcur]; exact hok.1
 rw [← hcl]
 obtain ⟨l,pp⟩:=cl
 have HCL:=Lib.hid (And.intro hcl hpr)
 dsimp only
 clear he he' hM hok hW hS1 hcur hval h hcl hpr
 by_cases hp:posN l y < l.length
 ·rw [dif_pos hp]
  have hpI:posI l y=(posN l y:Int):=by unfold posI; rw [if_pos hp]
  obtain ⟨p,hpp⟩:∃ p,p=posN l y:=⟨_,rfl⟩
  have hx:l[posN l y]'hp=l[p]'(by rw [hpp]; exact hp):=by simp only [hpp]
  rw [← hpp] at hpI
  have hpl:p < l.length:=by rw [hpp]; exact hp
  obtain ⟨x,hxx⟩:∃ x,x=l[p]'hpl:=⟨_,rfl⟩
  rw [hx,← hxx]
  obtain ⟨tb,htb⟩:∃ tb,(x.k == 1)=tb:=⟨_,rfl⟩
  rw [htb]
  have HX:=Lib.hid (And.intro hpI hxx)
  clear hpI hx hpp hxx hp
  go_enter Tryz.func78,Tryz.ntmps78
  go_wp2_with fail
  refine HO.out.mono ?_
  rintro e w2 ⟨rfl,⟨⟨cs1,hk1,hkp⟩,hg2⟩⟩
  obtain ⟨m,A,q,c,h32,hq,hc,r1,_⟩:=hk1.look Hn.out
  have hlen:(curW S1 n).1.length≤N:=by
   unfold curW
   rcases hW:S1.W n with _ | ⟨l,p⟩
   ·exact Nat.zero_le _
   ·exact (hk1.le n l p hW).1
  rw [← HCL.out.1] at hq hc r1 hlen
  rw [HCL.out.2] at r1
  have c32:=(hk1.bk.cell 32).trans h32
  dsimp only at hq hc hlen
  obtain ⟨w3,hw3⟩:∃ w3,w3=w2.alloc (.cells #[.slice A q c,.bool false] 138):=⟨_,rfl⟩
  have b3:Below w2.heap.size w2 w3:=by rw [hw3]; exact ba _ _
  have kw:Blk w3 w2.heap.size 138 #[.slice A q c,.bool false]:=by rw [hw3]; exact Blk.new _ _ _
  have HP:=Lib.hid (kplace_any A l q c y (Lib.hid hq) (by omega) w3 (hc.below b3))
  have d0:=kw.cell 0
  simp only [List.getElem?_toArray,List.getElem?_cons_zero,List.getElem?_cons_succ] at d0
  have H3:=Lib.hid (And.intro (hk1.below b3) (And.intro hkp (And.intro (hg2.trans (lbelow_grown b3 _)) (And.intro kw (And.intro (hc.below b3) hq)))))
  have HW3:=Lib.hid hw3
  rw [hw3] at d0
  clear hw3 b3 kw hk1 hkp hg2 hc h32 hlen hq
  go_wp2_with fail
  rw [← HW3.out]
  refine HP.out.mono ?_
  rintro e w4 ⟨rfl,b4⟩
  clear d0 r1 c32
  obtain ⟨hk3,hkp,hg3,kw,hc3,hq⟩:=H3.out
  have hk4:=hk3.below b4
  have hg4:=hg3.trans (lbelow_grown b4 (some g))
  have kw4:=kw.below b4 kw.lt
  have hc4:=hc3.below b4
  rw [HX.out.1]
  obtain ⟨b,o,rfl,hbk,hcs⟩:=hc4 (by omega)
  obtain ⟨q0,q1,q2⟩:=hcs p hpl
  rw [← HX.out.2] at q0 q1 q2
  have p0:=fun m:Nat => (show (w4.drewN m).cell? ⟨b,o + p * 3,none⟩=_ from q0)
  have p2:=fun m:Nat => (show (w4.drewN m).cell? ⟨b,o + p * 3 + 2,none⟩=_ from q2)
  have d0:=fun m:Nat => (show (w4.drewN m).cell? ⟨w2.heap.size,0,none⟩=some (.slice (some ⟨b,o,none⟩) q c) from (kw4.cell 0).trans rfl)
  have hpq:(p:Int) < (q:Int):=by omega
  have HF:=Lib.hid (And.intro hk4 (And.intro hkp hg4))
  clear hk3 hkp hg3 kw hc3 hq hk4 hg4 kw4 hc4 hcs q0 q1 q2 hbk b4
  go_wp2_with fail
  go_quiet (fail)
  have hb:Below w4.heap.size w4 (w4.drewN nq):=⟨rfl,rfl,rfl,Nat.le_refl _,fun _ _ => rfl⟩
  have HG:=Lib.hid (And.intro (HF.out.1.below hb) (HF.out.2.2.trans (lbelow_grown hb (some g))))
  clear p0 p2 d0 hb
  go_wp2
  go_returns
  exact ⟨rfl,⟨cs1,HG.out.1,HF.out.2.1⟩,HG.out.2⟩
 ·rw [dif_neg hp]
  have hpI:Hid (posI l y=-1):=Lib.hid (by unfold posI; rw [if_neg hp])
  obtain ⟨vv,hvv⟩:∃ vv,vv=valM S1 y:=⟨_,rfl⟩
  rw [← hvv]
  have HVV:=Lib.hid hvv
  obtain ⟨va,vb⟩:=vv
  clear hp hvv
  go_enter Tryz.func78,Tryz.ntmps78
  go_wp2_with fail
  refine HO.out.mono ?_
  rintro e w2 ⟨rfl,⟨⟨cs1,hk1,hkp⟩,hg2⟩⟩
  obtain ⟨m,A,q,c,h32,hq,hc,r1,_⟩:=hk1.look Hn.out
  have hlen:(curW S1 n).1.length≤N:=by
   unfold curW
   rcases hW:S1.W n with _ | ⟨l,p⟩
   ·exact Nat.zero_le _
   ·exact (hk1.le n l p hW).1
  rw [← HCL.out.1] at hq hc r1 hlen
  rw [HCL.out.2] at r1
  have c32:=(hk1.bk.cell 32).trans h32
  dsimp only at hq hc hlen
  obtain ⟨w3,hw3⟩:∃ w3,w3=w2.alloc (.cells #[.slice A q c,.bool false] 138):=⟨_,rfl⟩
  have b3:Below w2.heap.size w2 w3:=by rw [hw3]; exact ba _ _
  have kw:Blk w3 w2.heap.size 138 #[.slice A q c,.bool false]:=by rw [hw3]; exact Blk.new _ _ _
  have HP:=Lib.hid (kplace_any A l q c y (Lib.hid hq) (by omega) w3 (hc.below b3))
  have d0:=kw.cell 0
  simp only [List.getElem?_toArray,List.getElem?_cons_zero,List.getElem?_cons_succ] at d0
  have H3:=Lib.hid (And.intro (hk1.below b3) (And.intro hkp (And.intro (hg2.trans (lbelow_grown b3 _)) (And.intro kw (And.intro (hc.below b3) hq)))))
  have HW3:=Lib.hid hw3
  rw [hw3] at d0
  clear hw3 b3 kw hk1 hkp hg2 hc h32 hlen hq
  go_wp2_with fail
  rw [← HW3.out]
  refine HP.out.mono ?_
  rintro e w4 ⟨rfl,b4⟩
  clear d0 r1 c32
  obtain ⟨hk3,hkp,hg3,kw,hc3,hq⟩:=H3.out
  have hk4:=hk3.below b4
  have hg4:=hg3.trans (lbelow_grown b4 (some g))
  have kw4:=kw.below b4 kw.lt
  have hc4:=hc3.below b4
  rw [hpI.out]
  have hv:=value_any g tt cs1 S1 N y w4 hk4
  rw [← HVV.out] at hv
  have HV:=Lib.hid hv
  have HF:=Lib.hid (And.intro hk4 (And.intro hkp hg4))
  clear hk3 hkp hg3 kw hc3 hq hk4 hg4 kw4 hc4 b4 hv
  go_wp2_with fail
  refine HV.out.mono ?_
  rintro e w5 ⟨rfl,b5⟩
  have HG:=Lib.hid (And.intro (HF.out.1.below b5) (HF.out.2.2.trans (lbelow_grown b5 (some g))))
  clear b5
  go_wp2
  go_returns
  exact ⟨rfl,⟨cs1,HG.out.1,HF.out.2.1⟩,HG.out.2⟩
end Go.Proofs.YtlliaihmfimdoaaGreat


namespace Go.Proofs.YtlliaihmfimdoaaGreat
open Go.RowKit Go.Maps
def dropM (S:KS) (n:Int):KS:={ S with W:=updW S.W n none,L:=dropL S.L n }
theorem KvAt.worked {w w':World} {g N:Nat} {tt:TypeId} {cs:Array Value} {S:KS} {W':Int→Option (List Ch × Bool)} (h:KvAt w g tt cs S N) (hg:w.grownBy w' (some g)) {m':Option Nat} {G':Int→Option Value} (hb:Blk w' g tt (cs.setIfInBounds 32 (.map m'))) (hs:FSrc isWork w' m' N G') (hr:WRel w' S.B G' W') (hle:∀ k l p,W' k=some (l,p)→l.length≤N∧∀ x ∈ l,keyB x.y=true):KvAt w' g tt (cs.setIfInBounds 32 (.map m')) { S with W:=W' } N:=by
 obtain ⟨h1,h2,h3,⟨mw,G,h4,h5,h6⟩,⟨h7,m2,h8,h9⟩,h10⟩:=h
 refine ⟨hb,h2,fun k hk => ?_,⟨m',G',set_at h4,hs,hr⟩,⟨h7,m2,?_,h9.kept hg h1⟩,hle⟩
 ·rw [Array.getElem?_setIfInBounds_ne (by omega),Array.getElem?_setIfInBounds_ne (by omega)]; exact h3 k hk
 ·rw [Array.getElem?_setIfInBounds_ne (by omega)]; exact h8
set_option maxRecDepth 100000 in
set_option maxHeartbeats 2000000 in
theorem kdrop_any (g:Nat) (tt:TypeId) (cs:Array Value) (S:KS) (N:Nat) (n:Int) (w:World) (h:KvAt w g tt cs S N) (hn:i64ok n) :
  Calls Tryz.prog 110 #[.pointer (some ⟨g,0,none⟩),.int .i64 n] w fun e w' => e=.returned (.tuple #[])∧KvO w g tt cs (dropM S n) N w':=by
 have hkey:=keyOf_i n hn
 obtain ⟨mw,G,h4,h5,h6⟩:=h.wk
 have c32:=(h.bk.cell 32).trans h4
 have HC:=Lib.hid h5.cloned
 have H:=Lib.hid (And.intro h (And.intro h6 (And.intro hn h4)))
 have hle:Hid (∀ k l p,updW S.W n none k=some (l,p)→l.length≤N∧∀ x ∈ l,keyB x.y=true):=Lib.hid (fun k l p e => by
  unfold updW at e
  split at e
  ·cases e
  ·exact h.le k l p e)
 clear h h4 h5 h6 hn
 go_enter Tryz.func110,Tryz.ntmps110
 go_wp2_with fail
 refine HC.out.mono ?_
 rintro e w1 ⟨⟨m',rfl,hs1,hlt⟩,b1⟩
 obtain ⟨h,h6,hn,h4⟩:=H.out
 have h1:=h.below b1
 have hg1:=h1.bk
 have h61:=h6.same (w':=w1) fun A l hc => hc.below b1
 have hgl:=h.lt
 have d0:=(hg1.cell 32).trans h4
 have f0:=hg1.frozen 32
 rcases hs1 with ⟨rfl,rfl⟩ | ⟨b,D,rfl,hown,hR⟩
 ·have hdn:=fun (u:World) ty => Maps.drop_nil (P:=Tryz.prog) (w:=u) lawI Tryz.underlying90 hkey ty
  obtain ⟨w2,hw2⟩:∃ w2,w2=w1.setCell ⟨g,32,none⟩ (.map none):=⟨_,rfl⟩
  have g2:w1.grownBy w2 (some g):=by rw [hw2]; exact lgrown_set _ _ _
  have kk2:KvAt w2 g tt (cs.setIfInBounds 32 (.map none)) { S with W:=updW S.W n none } N:=h1.worked g2 (by rw [hw2]; exact hg1.set_ 32 _) (.inl ⟨rfl,rfl⟩) (by
   have:=(h61.del n).same (w':=w2) fun A l hc => hc.kept g2 hg1 h1.ty
   have e:delG (fun _ => none) n=fun _ => none:=by funext j; unfold delG; split <;> rfl
   rwa [e] at this) hle.out
  have HD:=Lib.hid (drop_any g 33 tt _ S.L n w2 kk2.tab hn)
  have HK:=Lib.hid (And.intro kk2 ((lbelow_grown b1 (some g)).trans g2))
  have HW:=Lib.hid hw2
  clear h h6 h4 h1 hg1 h61 g2 kk2 hw2 c32
  go_wp2_with fail
  rw [← HW.out]
  refine HD.out.mono ?_
  rintro e w3 ⟨rfl,ht,hg3⟩
  obtain ⟨cs',hk',hkp⟩:=HK.out.1.locked hg3 ht
  have HF:=Lib.hid (KvO.from (Keep.set cs 32 (by omega) (.map none)) HK.out.2 ⟨⟨cs',hk',hkp⟩,hg3⟩)
  clear ht hg3 hk' hkp d0 f0
  go_wp2
  go_end0
  exact ⟨rfl,HF.out⟩
 ·have hbl:=hlt b rfl
  have hgb:g≠b:=by omega
  have Hlt:=Lib.hid (And.intro hbl hgb)
  clear c32 d0 f0 hlt
  go_wp2_with (at_delete; refine wpList_delete_own _ rfl _ _ 90 3 rfl 138 lawI Tryz.underlying90 _ b _ _ rfl hown _ _ rfl hkey ?_; intro w2 hown2 hturn; go_frame; have hg2:=hturn.grown; have k2:=hg1.kept hg2 (fun e => hgb (Option.some.inj e)); have d0:=(k2.cell 32).trans h4; have f0:=k2.frozen 32)
  obtain ⟨w3,hw3⟩:∃ w3,w3=w2.setCell ⟨g,32,none⟩ (.map (some b)):=⟨_,rfl⟩
  have gg2:w.grownBy w2 none:=by
   refine ⟨hg2.os.trans b1.os,hg2.tape.trans b1.tape,hg2.output.trans b1.output,Nat.le_trans b1.size hg2.size,fun i hi _ => ?_⟩
   exact (hg2.block i (Nat.lt_of_lt_of_le hi b1.size) (fun e => by have:=Option.some.inj e; omega)).trans (b1.block i hi)
  have hh2:=h.below (lgrown_below gg2)
  have g3:w2.grownBy w3 (some g):=by rw [hw3]; exact lgrown_set _ _ _
  have kk3:KvAt w3 g tt (cs.setIfInBounds 32 (.map (some b))) { S with W:=updW S.W n none } N:=hh2.worked g3 (by rw [hw3]; exact k2.set_ 32 _) (.inr ⟨b,_,rfl,hown2.kept g3 (fun e => hgb (Option.some.inj e).symm),hR.del n⟩) (by
   have:=((h6.same (w':=w2) fun A l hc => hc.below (lgrown_below gg2)).del n).same (w':=w3) fun A l hc => hc.kept g3 k2 h.ty
   exact this) hle.out
  have HD:=Lib.hid (drop_any g 33 tt _ S.L n w3 kk3.tab hn)
  have HK:=Lib.hid (And.intro kk3 ((gg2.but (some g)).trans g3))
  have HW:=Lib.hid hw3
  clear h h6 h4 h1 hg1 h61 g3 kk3 hw3 hown2 hturn hg2 k2 gg2 hh2 hown hbl hR
  go_wp2_with fail
  rw [← HW.out]
  refine HD.out.mono ?_
  rintro e w4 ⟨rfl,ht,hg3⟩
  obtain ⟨cs',hk',hkp⟩:=HK.out.1.locked hg3 ht
  have HF:=Lib.hid (KvO.from (Keep.set cs 32 (by omega) (.map (some b))) HK.out.2 ⟨⟨cs',hk',hkp⟩,hg3⟩)
  clear ht hg3 hk' hkp d0 f0
  go_wp2
  go_end0
  exact ⟨rfl,HF.out⟩
def backoutM (S:KS) (n:Int):Int × KS:=if n < 1 then (1,S) else (0,dropM S n)
theorem backout_any (g:Nat) (tt:TypeId) (cs:Array Value) (S:KS) (N:Nat) (n:Int) (w:World) (h:KvAt w g tt cs S N) (hn:i64ok n) :
  Calls Tryz.prog 74 #[.pointer (some ⟨g,0,none⟩),.int .i64 n] w fun e w' => e=.returned (.int .i64 (backoutM S n).1)∧KvO w g tt cs (backoutM S n).2 N w':=by
 have HN:=Lib.hid (names_any g n w)
 by_cases h1:n < 1
 ·have hM:backoutM S n=(1,S):=if_pos h1
  rw [hM]
  have HF:=Lib.hid (KvO.same h (Below.refl _ _))
  have hE:namesE n=1:=if_pos h1
  rw [hE] at HN
  clear h hM hE
  go_enter Tryz.func74,Tryz.ntmps74
  go_wp2_with fail
  refine HN.out.mono ?_
  rintro e w1 ⟨rfl,rfl⟩
  go_wp2
  go_ret
  exact ⟨rfl,HF.out⟩
 ·have hM:backoutM S n=(0,dropM S n):=if_neg h1
  rw [hM]
  have HD:=Lib.hid (kdrop_any g tt cs S N n w h hn)
  have hE:namesE n=0:=if_neg h1
  rw [hE] at HN
  clear h hM hE
  go_enter Tryz.func74,Tryz.ntmps74
  go_wp2_with fail
  refine HN.out.mono ?_
  rintro e w1 ⟨rfl,rfl⟩
  go_wp2_with fail
  refine HD.out.mono ?_
  rintro e w2 ⟨rfl,hk⟩
  have HF:=Lib.hid hk
  clear hk
  go_wp2
  go_ret
  exact ⟨rfl,HF.out⟩
def prepM (S:KS) (n:Int):(List Ch × Int) × KS :=
 if n < 1 then (([],1),S) else if (curW S n).2=true then (([],7),S) else if (S.W n).isSome=false then (([],0),{ S with L:=dropL S.L n }) else (((curW S n).1,0),{ S with W:=updW S.W n (some ((curW S n).1,true)) })
set_option maxRecDepth 100000 in
set_option maxHeartbeats 2000000 in
theorem prep_any (g:Nat) (tt:TypeId) (cs:Array Value) (S:KS) (N:Nat) (n:Int) (w:World) (h:KvAt w g tt cs S N) (hN:N < 300000) (hn:i64ok n) :
  Calls Tryz.prog 62 #[.pointer (some ⟨g,0,none⟩),.int .i64 n] w fun e w' => (∃ A q c,e=.returned (.tuple #[.slice A q c,.int .i64 (prepM S n).1.2])∧q=(prepM S n).1.1.length∧OwnC w' w.heap.size A c (prepM S n).1.1)∧KvO w g tt cs (prepM S n).2 (N + 1) w':=by
 have HN:=Lib.hid (names_any g n w)
 by_cases h1:n < 1
 ·have hM:prepM S n=(([],1),S):=if_pos h1
  rw [hM]
  have HF:=Lib.hid (KvO.same (h.more (Nat.le_succ N)) (Below.refl _ _))
  have hE:namesE n=1:=if_pos h1
  rw [hE] at HN
  clear h hM hE
  go_enter Tryz.func62,Tryz.ntmps62
  go_wp2_with fail
  refine HN.out.mono ?_
  rintro e w1 ⟨rfl,rfl⟩
  go_wp2
  go_ret2
  exact ⟨⟨none,0,0,rfl,rfl,OwnC.nil _ _⟩,HF.out⟩
 have hE:namesE n=0:=if_neg h1
 rw [hE] at HN
 obtain ⟨m,A,q,c,h32,hq,hc,_,r2⟩:=h.look hn
 have hlen:(curW S n).1.length≤N:=by
  unfold curW
  rcases hW:S.W n with _ | ⟨l,p⟩
  ·exact Nat.zero_le _
  ·exact (h.le n l p hW).1
 have hkl:∀ x ∈ (curW S n).1,keyB x.y=true:=by
  unfold curW
  rcases hW:S.W n with _ | ⟨l,p⟩
  ·intro x hx; simp at hx
  ·exact (h.le n l p hW).2
 have c32:=(h.bk.cell 32).trans h32
 obtain ⟨w3,hw3⟩:∃ w3,w3=w.alloc (.cells #[.slice A q c,.bool (curW S n).2] 138):=⟨_,rfl⟩
 have b3:Below w.heap.size w w3:=by rw [hw3]; exact ba _ _
 have kw:Blk w3 w.heap.size 138 #[.slice A q c,.bool (curW S n).2]:=by rw [hw3]; exact Blk.new _ _ _
 have d0:=kw.cell 0
 have d1:=kw.cell 1
 have f1:=kw.frozen 1
 simp only [List.getElem?_toArray,List.getElem?_cons_zero,List.getElem?_cons_succ] at d0 d1
 have hgl:=h.lt
 have Hc:=Lib.hid hc
 have H3:=Lib.hid (And.intro (h.below b3) (And.intro b3 (And.intro kw (And.intro (hc.below b3) (And.intro hq (And.intro hgl (And.intro hlen (And.intro hkl hn))))))))
 have HW3:=Lib.hid hw3
 rw [hw3] at d0 d1 f1
 clear hw3 b3 kw hc hq h32 hlen hkl hgl hE
 rcases hp:(curW S n).2 with _ | _
 ·rcases hs:(S.W n).isSome with _ | _
  ·have hM:prepM S n=(([],0),{ S with L:=dropL S.L n }):=by unfold prepM; rw [if_neg h1,if_neg (by simp [hp]),if_pos hs]
   rw [hM]
   rw [hp,hs] at r2
   rw [hp] at d0 d1 f1 H3 HW3
   have HD:=Lib.hid (drop_any g 33 tt cs S.L n w3 H3.out.1.tab hn)
   clear h hM hs hp
   go_enter Tryz.func62,Tryz.ntmps62
   go_wp2_with fail
   refine HN.out.mono ?_
   rintro e w1 ⟨rfl,rfl⟩
   go_wp2_with fail
   rw [← HW3.out]
   refine HD.out.mono ?_
   rintro e w4 ⟨rfl,ht,hg⟩
   have HF:=Lib.hid (KvO.from (cs:=cs) Keep.rfl' (lbelow_grown H3.out.2.1 (some g)) ⟨((H3.out.1.more (Nat.le_succ N)).locked hg ht),hg⟩)
   clear ht hg d0 d1 f1
   go_wp2
   go_ret2
   exact ⟨⟨none,0,0,rfl,rfl,OwnC.nil _ _⟩,HF.out⟩
  ·have hM:prepM S n=(((curW S n).1,0),{ S with W:=updW S.W n (some ((curW S n).1,true)) }):=by unfold prepM; rw [if_neg h1,if_neg (by simp [hp]),if_neg (by simp [hs])]
   rw [hM]
   rw [hp,hs] at r2
   rw [hp] at d0 d1 f1 H3 HW3
   obtain ⟨l,hl⟩:∃ l,l=(curW S n).1:=⟨_,rfl⟩
   rw [← hl] at H3 ⊢
   obtain ⟨w4,hw4⟩:∃ w4,w4=w.alloc (.cells #[.slice A q c,.bool true] 138):=⟨_,rfl⟩
   obtain ⟨_,_,_,_,hq,hgl,hlen,hkl,hnn⟩:=H3.out
   have b4:Below w.heap.size w w4:=by rw [hw4]; exact ba _ _
   have kw4:Blk w4 w.heap.size 138 #[.slice A q c,.bool true]:=by rw [hw4]; exact Blk.new _ _ _
   have hk4:=h.below b4
   have hc4:ChAt w4 S.B A l:=by rw [hl]; exact Hc.out.below b4
   have HL:=Lib.hid (lay_any g tt cs S N n A l q c true w4 hk4 (by omega) hn hq (by omega) hkl hc4)
   have p0:=kw4.cell 0
   have p1:=kw4.cell 1
   simp only [List.getElem?_toArray,List.getElem?_cons_zero,List.getElem?_cons_succ] at p0 p1
   have H4:=Lib.hid (And.intro kw4 (And.intro b4 (And.intro hc4 (And.intro hk4.bk (And.intro hk4.ty hgl)))))
   have HW4:=Lib.hid hw4
   rw [HW4.out] at p0 p1
   clear h hM hs hp hl hgl hkl hnn hk4 hc4 kw4 b4 hw4 H3 HW3
   have Hq:=Lib.hid (And.intro hq hlen)
   clear hq hlen
   go_enter Tryz.func62,Tryz.ntmps62
   go_wp2_with fail
   refine HN.out.mono ?_
   rintro e w1 ⟨rfl,rfl⟩
   go_wp2_with fail
   rw [← HW4.out]
   refine HL.out.mono ?_
   rintro e w5 ⟨rfl,⟨cs5,hk5,hkp5⟩,hg5⟩
   obtain ⟨kw4,b4,hc4,hbk,hty,hgl⟩:=H4.out
   have kw5:=kw4.kept hg5 (fun e => by have:=Option.some.inj e; omega)
   have HCl:=Lib.hid (cclone_any A l q c w5 (Lib.hid Hq.out.1) (Lib.hid (by have:=Hq.out; omega)) (hc4.kept hg5 hbk hty))
   have p0':=kw5.cell 0
   simp only [List.getElem?_toArray,List.getElem?_cons_zero,List.getElem?_cons_succ] at p0'
   have H5:=Lib.hid (And.intro hk5 (And.intro hkp5 ((lbelow_grown b4 (some g)).trans hg5)))
   clear d0 d1 f1 p0 p1 kw4 b4 hc4 hbk hty hk5 hkp5 hg5 kw5 hgl
   go_wp2_with fail
   refine HCl.out.mono ?_
   rintro e w6 ⟨A6,c6,rfl,own6,b6⟩
   have HF:=Lib.hid (And.intro own6 (And.intro (H5.out.1.below b6) (H5.out.2.2.trans (lbelow_grown b6 (some g)))))
   clear own6 b6 p0'
   go_wp2
   go_ret2
   exact ⟨⟨A6,q,c6,rfl,Hq.out.1,HF.out.1.less (by have:=H5.out.2.2.size; exact this)⟩,⟨cs5,HF.out.2.1,H5.out.2.1⟩,HF.out.2.2⟩
 ·have hM:prepM S n=(([],7),S):=by unfold prepM; rw [if_neg h1,if_pos hp]
  rw [hM]
  rw [hp] at r2 d0 d1 f1 HW3
  have HF:=Lib.hid (KvO.same (h.more (Nat.le_succ N)) H3.out.2.1)
  clear h hM hp H3
  generalize (S.W n).isSome=sb at r2
  go_enter Tryz.func62,Tryz.ntmps62
  go_wp2_with fail
  refine HN.out.mono ?_
  rintro e w1 ⟨rfl,rfl⟩
  go_wp2
  rw [← HW3.out]
  go_ret2
  exact ⟨⟨none,0,0,rfl,rfl,OwnC.nil _ _⟩,HF.out⟩
end Go.Proofs.YtlliaihmfimdoaaGreat

