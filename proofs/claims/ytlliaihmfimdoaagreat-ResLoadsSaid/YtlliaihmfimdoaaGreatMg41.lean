/- Parts Se St Su Sx Dl Dm Sy Sz Tk Dp Dn Do of one proof. -/
import Derived.Test.YtlliaihmfimdoaaGreatMg29
import Derived.Test.YtlliaihmfimdoaaGreatMg40
import Derived.Test.YtlliaihmfimdoaaGreatMg37
import Derived.Test.YtlliaihmfimdoaaGreatMg04
import Derived.Test.YtlliaihmfimdoaaGreatMg24
set_option linter.unusedSimpArgs false
set_option linter.unusedVariables false
namespace Go.Proofs.YtlliaihmfimdoaaGreat.Re
open Go.RowKit Go.Maps Go.Deep Go.Proofs.YtlliaihmfimdoaaGreat
set_option maxRecDepth 100000 in
set_option maxHeartbeats 1000000 in
theorem samech_any (A A':Option Addr) (l:List Ch) (n c c':Nat) (w:World) (hn:Hid (n=l.length)) (hm:n≤1000000) {B B':Nat→Prop} (h:ChAt w B A l) (h':ChAt w B' A' l) :
  Calls Tryz.prog 24 #[.slice A n c,.slice A' n c'] w fun e w' => e=.returned (.bool true)∧Below w.heap.size w w':=by
 have HI:Hid (Below w.heap.size w w∧ChAt w B A l∧ChAt w B' A' l):=Lib.hid ⟨Below.refl _ _,h,h'⟩
 clear h h'
 have hnn:((n:Int) != (n:Int))=false:=by simp
 go_enter Tryz.func24,Tryz.ntmps24
 go_wp2_with fail
 go_loopw [5] (fun i wr => ∃ (i0:Nat),i0≤n∧i=.int .i64 i0∧Hid (Below w.heap.size w wr∧ChAt wr B A l∧ChAt wr B' A' l)) (fun i _ => n - (intOf i).toNat)
 case atStart => exact ⟨0,Nat.zero_le _,rfl,HI⟩
 case round =>
  clear HI
  obtain ⟨j,hj,rfl,HW⟩:=hrel
  by_cases hjn:j < n
  ·have hjI:(j:Int) < (n:Int):=by omega
   obtain ⟨hb,hc,hc'⟩:=HW.out
   have hjl:j < l.length:=by rw [← hn.out]; exact hjn
   obtain ⟨b,o,rfl,hbk,hcs⟩:=hc (by omega)
   obtain ⟨b',o',rfl,hbk',hcs'⟩:=hc' (by omega)
   obtain ⟨q0,q1,q2⟩:=hcs j hjl
   obtain ⟨p0,p1,p2⟩:=hcs' j hjl
   generalize l[j]'hjl=x at q0 q1 q2 p0 p1 p2
   obtain ⟨xk,xy,xv⟩:=x
   dsimp only at q0 q1 q2 p0 p1 p2
   have e0:=fun m:Nat => Qu.cell_drew' q0 m
   have e1:=fun m:Nat => Qu.cell_drew' q1 m
   have e2:=fun m:Nat => Qu.cell_drew' q2 m
   have d0:=fun m:Nat => Qu.cell_drew' p0 m
   have d1:=fun m:Nat => Qu.cell_drew' p1 m
   have d2:=fun m:Nat => Qu.cell_drew' p2 m
   have hdr:∀ m:Nat,Below wr.heap.size wr (wr.drewN m):=fun m => ⟨rfl,rfl,rfl,Nat.le_refl _,fun _ _ => rfl⟩
   have HX:Hid (∀ m:Nat,Below w.heap.size w (wr.drewN m)∧ChAt (wr.drewN m) B (some ⟨b,o,none⟩) l∧ChAt (wr.drewN m) B' (some ⟨b',o',none⟩) l):=Lib.hid fun m => ⟨bt hb (hdr m),hc.below (hdr m),hc'.below (hdr m)⟩
   clear hb hc hc' hbk hbk' hcs hcs' hjl q0 q1 q2 p0 p1 p2 HW hdr
   go_wp2_with fail
   go_quiet (fail)
   have HX2:=Lib.hid (HX.out nq)
   clear e0 e1 e2 d0 d1 d2 HX
   go_wp2
   go_roundw
   case rel => exact ⟨j + 1,by omega,by go_num,HX2⟩
   case measure => simp [intOf]; omega
  ·have hjI:¬ (j:Int) < (n:Int):=by omega
   have hF:=Lib.hid HW.out.1
   clear HW
   go_wp2
   go_ret
   exact ⟨rfl,hF.out⟩
end Go.Proofs.YtlliaihmfimdoaaGreat.Re


namespace Go.Proofs.YtlliaihmfimdoaaGreat.Re
open Go.RowKit Go.Maps Go.Joins Go.Deep Go.Proofs.YtlliaihmfimdoaaGreat
theorem OwnPr.in_ {w:World} {B c:Nat} {A:Option Addr} {P:List (Int × Nat)} (h:OwnPr w B A c P):InRp w A P:=fun hl => by
 unfold OwnPr at h
 obtain ⟨b,e,_,hlt,_,hc⟩:=row_cells h hl
 exact ⟨b,0,e,hlt,fun i hi => by rw [Nat.zero_add]; exact ⟨hc _ _ (prV_at P i hi).1,hc _ _ (prV_at P i hi).2⟩⟩
set_option maxRecDepth 100000 in
set_option maxHeartbeats 4000000 in
theorem refsame_any (A A' U U':Option Addr) (q c c' m d d':Nat) (nx:Int) (P:List (Int × Nat)) (vs:List Nat) (w:World) (hq:Hid (q=P.length)) (hm:Hid (m=vs.length)) (hq1:q≤1000) (hm1:m≤9223372036854775807) (hP:InRp w A P) (hP':InRp w A' P) (hU:Qu.UAt w U vs) (hU':Qu.UAt w U' vs) :
  Calls Tryz.prog 16 #[.agg #[.slice A q c,.slice U m d,.int .i64 nx],.agg #[.slice A' q c',.slice U' m d',.int .i64 nx]] w fun e w' => e=.returned (.bool true)∧Below w.heap.size w w':=by
 obtain ⟨w2,hw2⟩:∃ w2,w2=(w.alloc (.cells #[.slice A q c,.slice U m d,.int .i64 nx] 54)).alloc (.cells #[.slice A' q c',.slice U' m d',.int .i64 nx] 54):=⟨_,rfl⟩
 have b2:Below w.heap.size w w2:=by rw [hw2]; exact bt (ba _ _) (ba _ _)
 obtain ⟨ga,hga⟩:∃ ga,ga=w.heap.size:=⟨_,rfl⟩
 obtain ⟨gb,hgb⟩:∃ gb,gb=w.heap.size + 1:=⟨_,rfl⟩
 have ka:Blk w2 ga 54 #[.slice A q c,.slice U m d,.int .i64 nx]:=by rw [hw2,hga]; exact (Blk.new w _ _).below (ba _ _) (Blk.new w _ _).lt
 have kb:Blk w2 gb 54 #[.slice A' q c',.slice U' m d',.int .i64 nx]:=by
  have:=Blk.new (w.alloc (.cells #[.slice A q c,.slice U m d,.int .i64 nx] 54)) 54 #[.slice A' q c',.slice U' m d',.int .i64 nx]
  rw [World.size_alloc,← hgb] at this
  rw [hw2]; exact this
 have HS:=Qu.same_any U U' vs vs m m d d' w2 hm hm hm1 (hU.below b2) (hU'.below b2)
 rw [decide_eq_true (rfl:vs=vs)] at HS
 have HS:=Lib.hid HS
 have HK:=Lib.hid (And.intro ka (And.intro kb b2))
 have H:=Lib.hid (And.intro (hP.below b2) (hP'.below b2))
 have HW:=Lib.hid hw2
 have HG:=Lib.hid (And.intro hga hgb)
 have x0:=ka.cell 0
 have x1:=ka.cell 1
 have y0:=kb.cell 0
 have y1:=kb.cell 1
 simp only [List.getElem?_toArray,List.getElem?_cons_zero,List.getElem?_cons_succ] at x0 x1 y0 y1
 rw [hw2,hga] at x0 x1
 rw [hw2,hgb] at y0 y1
 have hqq:((q:Int) != (q:Int))=false:=by simp
 have hxx:(nx != nx)=false:=by simp
 clear ka kb b2 hw2 hga hgb hP hP' hU hU'
 go_enter Tryz.func16,Tryz.ntmps16
 go_wp2_with fail
 rw [← HW.out]
 refine HS.out.mono ?_
 rintro e w3 ⟨rfl,b3⟩
 have HK3:=Lib.hid (And.intro (HK.out.1.below b3 HK.out.1.lt) (And.intro (HK.out.2.1.below b3 HK.out.2.1.lt) (And.intro (bt HK.out.2.2 b3) (And.intro (H.out.1.below b3) (H.out.2.below b3)))))
 have u2:=HK3.out.1.cell 2
 have v2:=HK3.out.2.1.cell 2
 simp only [List.getElem?_toArray,List.getElem?_cons_zero,List.getElem?_cons_succ] at u2 v2
 rw [HG.out.1] at u2
 rw [HG.out.2] at v2
 clear b3 x0 x1 y0 y1
 go_wp2_with fail
 rw [← HG.out.2,← HG.out.1]
 clear u2 v2
 go_loopw [5] (fun iv wr => ∃ j:Nat,j≤q∧iv=.int .i64 j∧Hid (Below w3.heap.size w3 wr)) (fun iv _ => q - (intOf iv).toNat)
 case atStart => exact ⟨0,Nat.zero_le _,rfl,Lib.hid (Below.refl _ _)⟩
 case round =>
  obtain ⟨j,hj,rfl,HR⟩:=hrel
  obtain ⟨ka,kb,b3,hP,hP'⟩:=HK3.out
  have s0:=(ka.below HR.out ka.lt).cell 0
  have t0:=(kb.below HR.out kb.lt).cell 0
  simp only [List.getElem?_toArray,List.getElem?_cons_zero] at s0 t0
  by_cases hjn:j < q
  ·have hjI:(j:Int) < (q:Int):=by omega
   have hjL:j < P.length:=by rw [← hq.out]; exact hjn
   obtain ⟨b,o,hA,_,hcs⟩:=(hP.below HR.out) (by omega)
   obtain ⟨b',o',hA',_,hcs'⟩:=(hP'.below HR.out) (by omega)
   obtain ⟨q0,q1⟩:=hcs j hjL
   obtain ⟨p0,p1⟩:=hcs' j hjL
   generalize P[j]'hjL=y at q0 q1 p0 p1
   obtain ⟨yk,yv⟩:=y
   dsimp only at q0 q1 p0 p1
   have e0:=fun m:Nat => cell_drew q0 m
   have e1:=fun m:Nat => cell_drew q1 m
   have d0:=fun m:Nat => cell_drew p0 m
   have d1:=fun m:Nat => cell_drew p1 m
   have s1:=fun m:Nat => cell_drew s0 m
   have t1:=fun m:Nat => cell_drew t0 m
   have HX:Hid (∀ m:Nat,Below w3.heap.size w3 (wr.drewN m)):=Lib.hid fun m => bt HR.out ⟨rfl,rfl,rfl,Nat.le_refl _,fun _ _ => rfl⟩
   subst hA hA'
   clear ka kb b3 hP hP' hcs hcs' hjL q0 q1 p0 p1 HR
   go_wp2_with fail
   go_quiet (fail)
   have HX2:=Lib.hid (HX.out nq)
   clear e0 e1 d0 d1 s0 t0 s1 t1 HX
   go_wp2
   go_roundw
   case rel => exact ⟨j + 1,by omega,by go_num,HX2⟩
   case measure => simp [intOf]; omega
  ·have hjI:¬ (j:Int) < (q:Int):=by omega
   have hF:=Lib.hid (bt HK3.out.2.2.1 HR.out)
   clear ka kb b3 hP hP' HR t0
   go_wp2
   go_ret
   exact ⟨rfl,hF.out⟩
end Go.Proofs.YtlliaihmfimdoaaGreat.Re


namespace Go.Proofs.YtlliaihmfimdoaaGreat.Re
open Go.RowKit Go.Maps Go.Joins Go.Deep Go.Proofs.YtlliaihmfimdoaaGreat
theorem imP_eq {S S':KS} (h:S.V=S'.V):∀ k,imP S k=imP S' k
 | 0 => rfl
 | k + 1 => by
  have e:valM S k=valM S' k:=by unfold valM; rw [h]
  unfold imP
  rw [imP_eq h k,e]
end Go.Proofs.YtlliaihmfimdoaaGreat.Re


namespace Go.Proofs.YtlliaihmfimdoaaGreat.Re
open Go.RowKit Go.Maps Go.Joins Go.Deep Go.Proofs.YtlliaihmfimdoaaGreat
structure ImgAt (w:World) (B:Nat) (A:Option Addr) (q c:Nat) (A':Option Addr) (q' c':Nat) (P:List (Int × Nat)) (vs:List Nat):Prop where
 q:q=P.length
 q':q'=vs.length
 p:OwnRp w B A c P
 u:Qu.OwnU w B A' c' vs
theorem ImgAt.below {w w':World} {B q c q' c':Nat} {A A':Option Addr} {P:List (Int × Nat)} {vs:List Nat} (h:ImgAt w B A q c A' q' c' P vs) (hb:Below w.heap.size w w'):ImgAt w' B A q c A' q' c' P vs :=
 ⟨h.q,h.q',h.p.grown (lbelow_grown hb none) (fun r e => by cases e),h.u.grown (lbelow_grown hb none) (fun r e => by cases e)⟩
theorem ImgAt.pin {w:World} {B q c q' c':Nat} {A A':Option Addr} {P:List (Int × Nat)} {vs:List Nat} (h:ImgAt w B A q c A' q' c' P vs):InRp w A P:=h.p.in_
theorem ImgAt.uin {w:World} {B q c q' c':Nat} {A A':Option Addr} {P:List (Int × Nat)} {vs:List Nat} (h:ImgAt w B A q c A' q' c' P vs):Qu.UAt w A' vs:=h.u.at_
theorem image_img (g:Nat) (cs:Array Value) (S:RS) (N:Nat) (w:World) (h:ResAt w g cs S N) :
  Calls Tryz.prog 18 #[.pointer (some ⟨g,0,none⟩)] w fun e w' => ∃ A q c A' q' c',e=.returned (.agg #[.slice A q c,.slice A' q' c',.int .i64 (S.Q.g + 1)])∧Hid (ImgAt w' w.heap.size A q c A' q' c' (imP S.K 16) (S.Q.I.map Qu.IT.v)∧Below w.heap.size w w'):=by
 refine (resimage_any g cs S N w h).mono ?_
 rintro e w' ⟨A,q,c,A',q',c',rfl,HX⟩
 exact ⟨A,q,c,A',q',c',rfl,Lib.hid ⟨⟨HX.out.1,by rw [List.length_map]; exact HX.out.2.1,HX.out.2.2.1,HX.out.2.2.2.1⟩,HX.out.2.2.2.2⟩⟩
structure DocAt (w:World) (A:Option Addr) (q:Nat) (A':Option Addr) (q':Nat) (P:List (Int × Nat)) (vs:List Nat):Prop where
 q:q=P.length
 q':q'=vs.length
 p:InRp w A P
 u:Qu.UAt w A' vs
theorem DocAt.below {w w':World} {A A':Option Addr} {q q':Nat} {P:List (Int × Nat)} {vs:List Nat} (h:DocAt w A q A' q' P vs) (hb:Below w.heap.size w w'):DocAt w' A q A' q' P vs:=⟨h.q,h.q',h.p.below hb,h.u.below hb⟩
theorem as_img (w:World) (B:Nat) (A:Option Addr) (q c:Nat) (A':Option Addr) (q' c':Nat) (nx:Int) (P:List (Int × Nat)) (vs:List Nat) (h:ImgAt w B A q c A' q' c' P vs) (hm:q≤1000) :
  Calls Tryz.prog 17 #[.agg #[.slice A q c,.slice A' q' c',.int .i64 nx]] w fun e w' => ∃ A9 c9,e=.returned (.agg #[.slice A9 q c9,.slice A' q' c',.int .i64 nx])∧Hid (DocAt w' A9 q A' q' P vs∧Below w.heap.size w w'):=by
 refine (as_any A A' q c q' c' nx P w (Lib.hid h.q) hm h.pin).mono ?_
 rintro e w' ⟨A9,c9,rfl,HX⟩
 exact ⟨A9,c9,rfl,Lib.hid ⟨⟨h.q,h.q',OwnPr.in_ HX.out.1,h.uin.below HX.out.2⟩,HX.out.2⟩⟩
theorem same_docs (w:World) (A:Option Addr) (q c:Nat) (U:Option Addr) (m d:Nat) (A':Option Addr) (q' c':Nat) (U':Option Addr) (m' d':Nat) (nx:Int) (P:List (Int × Nat)) (vs:List Nat) (h:DocAt w A q U m P vs) (h':DocAt w A' q' U' m' P vs) (hm:q≤1000∧m≤1000) :
  Calls Tryz.prog 16 #[.agg #[.slice A q c,.slice U m d,.int .i64 nx],.agg #[.slice A' q' c',.slice U' m' d',.int .i64 nx]] w fun e w' => e=.returned (.bool true)∧Below w.heap.size w w':=by
 have e1:q'=q:=h'.q.trans h.q.symm
 have e2:m'=m:=h'.q'.trans h.q'.symm
 subst e1 e2
 exact refsame_any A A' U U' _ c c' _ d d' nx P vs w (Lib.hid h.q) (Lib.hid h.q') hm.1 (by omega) h.p h'.p h.u h'.u
end Go.Proofs.YtlliaihmfimdoaaGreat.Re


namespace Go.Proofs.YtlliaihmfimdoaaGreat.Dr
open Go.RowKit Go.Maps Go.Joins Go.Deep Go.Proofs.YtlliaihmfimdoaaGreat
def docP (P:PL):Nat→List (Int × Nat)
 | 0 => []
 | k + 1 => docP P k ++ if (valP P k).2=true then [((k:Int),(valP P k).1)] else []
theorem docP_len (P:PL):∀ k,(docP P k).length≤k
 | 0 => Nat.le_refl _
 | k + 1 => by
  have:=docP_len P k
  unfold docP
  rw [List.length_append]
  split
  ·simp; omega
  ·simp; omega
theorem docP_im {S:KS} {P:PL} {ws:List WI} (h:Rel S P ws):∀ k,Re.imP S k=docP P k
 | 0 => rfl
 | k + 1 => by
  unfold Re.imP docP
  rw [docP_im h k,h.val]
def NewI (w:World) (B:Nat) (v:Value) (cs:Array Value):Prop:=∃ b,v=.pointer (some ⟨b,0,none⟩)∧B≤b∧Blk w b 54 cs
def IsOu (w:World) (B n:Nat) (vs:List Nat) (v:Value):Prop:=∃ A c,v=.slice A n c∧Qu.OwnU w B A c vs
def EIm (B:Nat) (k:Nat) (u u':World):Prop:=match k with
 | 12 => ∃ b cs,B≤b∧Blk u b 54 cs∧u.grownBy u' (some b)
 | _ => Below u.heap.size u u'
theorem ou_kept {w w':World} {B b c:Nat} {A:Option Addr} {vs:List Nat} {cs:Array Value} (h:Qu.OwnU w B A c vs) (hg:w.grownBy w' (some b)) (hk:Blk w b 54 cs):Qu.OwnU w' B A c vs:=own_kept h hk (by decide) hg
theorem IsOu.mono {B B2 n q:Nat} {vs:List Nat} {v:Value} {u u':World} (he:EIm B2 q u u') (h:IsOu u B n vs v):IsOu u' B n vs v:=by
 obtain ⟨A,c,e,h⟩:=h
 unfold EIm at he
 split at he
 ·obtain ⟨b,cs,_,hk,hg⟩:=he
  exact ⟨A,c,e,ou_kept h hg hk⟩
 ·exact ⟨A,c,e,h.grown (lbelow_grown he none) (fun r e => by cases e)⟩
def VIm (x B n:Nat) (gv:Int) (vs:List Nat) (i:Nat) (v p:Value) (w:World):Prop :=
 match i with
 | 0 => v=.pointer (some ⟨x,0,none⟩)
 | 1 => v=.pointer (some ⟨x,0,none⟩)
 | 2 => v=.pointer (some ⟨x,3,none⟩)
 | 3 => IsOu w B n vs v
 | 4 => v=.pointer (some ⟨x,0,none⟩)
 | 5 => v=.pointer (some ⟨x,0,none⟩)
 | 6 => v=.pointer (some ⟨x,3,none⟩)
 | 7 => v=.pointer (some ⟨x,5,none⟩)
 | 8 => v=.int .i64 gv
 | 9 => v=.int .i64 (gv + 1)
 | 10 => ∃ s,v=.agg #[.slice none 0 0,s,.int .i64 (gv + 1)]∧IsOu w B n vs s
 | 11 => NewI w B v #[.slice none 0 0,.slice none 0 0,.int .i64 0]
 | 12 => ∃ s,NewI w B p #[.slice none 0 0,s,.int .i64 (gv + 1)]∧IsOu w B n vs s
 | _ => True
theorem VIm.mono {x B n:Nat} {gv:Int} {vs:List Nat} {q i:Nat} {v p:Value} {u u':World} (he:EIm B q u u') (hiq:i≠q) (h1:i=11∧q=12→False) (h:VIm x B n gv vs i v p u):VIm x B n gv vs i v p u':=by
 unfold VIm at h ⊢
 split at h
 case h_4 => exact h.mono he
 case h_11 =>
  obtain ⟨s,e,h⟩:=h
  exact ⟨s,e,h.mono he⟩
 case h_12 =>
  unfold EIm at he
  split at he
  ·exact (h1 ⟨rfl,rfl⟩).elim
  ·obtain ⟨b,e,hb,hk⟩:=h
   exact ⟨b,e,hb,hk.below he hk.lt⟩
 case h_13 =>
  obtain ⟨s,⟨b,e,hb,hk⟩,h⟩:=h
  refine ⟨s,⟨b,e,hb,?_⟩,h.mono he⟩
  unfold EIm at he
  split at he
  ·exact absurd rfl hiq
  ·exact hk.below he hk.lt
 all_goals exact h
structure DI (w wr:World) (gr go B:Nat) (A':Option Addr) (q' c':Nat) (nx:Int) (vs:List Nat) (A2:Option Addr) (c2:Nat) (P':List (Int × Nat)):Prop where
 be:Below w.heap.size w wr
 kr:Blk wr gr 54 #[.slice none 0 0,.slice none 0 0,.int .i64 0]
 ko:Blk wr go 54 #[.slice A2 P'.length c2,.slice A' q' c',.int .i64 nx]
 own:OwnPr wr B A2 c2 P'
 u:Qu.OwnU wr w.heap.size A' c' vs
 lt:gr < B∧go < B∧B≤wr.heap.size
 ne:gr≠go∧w.heap.size≤gr∧w.heap.size≤go∧w.heap.size≤B
theorem DI.below {w wr v:World} {gr go B:Nat} {A':Option Addr} {q' c':Nat} {nx:Int} {vs:List Nat} {A2:Option Addr} {c2:Nat} {P':List (Int × Nat)} (h:DI w wr gr go B A' q' c' nx vs A2 c2 P') (hb:Below wr.heap.size wr v):DI w v gr go B A' q' c' nx vs A2 c2 P' :=
 ⟨bt h.be hb,h.kr.below hb h.kr.lt,h.ko.below hb h.ko.lt,World.ownsRow.kept h.own (lbelow_grown hb none) (by rcases (Value.slice A2 P'.length c2).ownBlock with _ | k; exact .inl rfl; exact .inr (fun e => by cases e)),h.u.grown (lbelow_grown hb none) (fun r e => by cases e),⟨h.lt.1,h.lt.2.1,Nat.le_trans h.lt.2.2 hb.size⟩,h.ne⟩
theorem DI.more {w wr:World} {gr go B:Nat} {A':Option Addr} {q' c':Nat} {nx:Int} {vs:List Nat} {A2:Option Addr} {c2:Nat} {P':List (Int × Nat)} (h:DI w wr gr go B A' q' c' nx vs A2 c2 P') (hl:P'.length≤1000) (k:Int) (v:Nat) :
  ∃ A3 c3 w3,(Builtin.append_ #[26,26] 26 #[.slice A2 P'.length c2,.slice (some ⟨wr.heap.size,0,none⟩) 1 1]).run Tryz.prog (wr.alloc (.cells #[.int .i64 k,.int .u64 (v:Nat)] 114))=.ok (.slice A3 (P'.length + 1) c3) w3 ∧
   w3.cell? ⟨go,0,none⟩=some (.slice A2 P'.length c2)∧w3.frozen? ⟨go,0,none⟩=false∧DI w (w3.setCell ⟨go,0,none⟩ (.slice A3 (P'.length + 1) c3)) gr go B A' q' c' nx vs A3 c3 (P' ++ [(k,v)]):=by
 have h3:=h.below (ba wr (.cells #[.int .i64 k,.int .u64 (v:Nat)] 114))
 obtain ⟨A3,c3,w3,hrun,own3,g3⟩:=pr_more h3.own P'.length rfl hl k v wr.heap.size h3.lt.2.2 (Blk.new wr _ _)
 have hno:∀ {r t cs},Blk (wr.alloc (.cells #[.int .i64 k,.int .u64 (v:Nat)] 114)) r t cs→r < B→Blk w3 r t cs:=fun hk hr => hk.kept g3 (fun e => by
  have:=(World.ownsRow.lt h3.own _ (by rw [ownBlock_slice]; exact e.symm)).1; omega)
 have ko3:=hno h3.ko h3.lt.2.1
 have hu3:Qu.OwnU w3 w.heap.size A' c' vs:=by
  rcases hA:blk A2 with _ | r
  ·rw [hA] at g3
   exact h3.u.grown g3 (fun r e => by cases e)
  ·rw [hA] at g3
   obtain ⟨cs,fz,ht⟩:=own_kind h3.own hA
   refine h3.u.grown g3 (fun r2 e e2 => ?_)
   injection e with e
   subst e
   obtain ⟨cs2,fz2,ht2⟩:=own_kind h3.u e2
   rw [ht] at ht2
   injection ht2 with ht2
   injection ht2 with _ ht2 _
   exact absurd ht2 (by decide)
 have hgs:=lgrown_set w3 ⟨go,0,none⟩ (.slice A3 (P'.length + 1) c3)
 have hs:=h.lt.2.2
 have hne:=h.ne
 refine ⟨A3,c3,w3,hrun,?_,ko3.frozen 0,?_⟩
 ·have:=ko3.cell 0
  simpa using this
 ·refine ⟨(h3.be.grown g3 (by have:=h3.be.size; omega) (fun r e => by have:=(World.ownsRow.lt h3.own r (by rw [ownBlock_slice]; exact e)).1; omega)).setCell (p:=⟨go,0,none⟩) (by have:=hne.2.2.1; exact this) _,(hno h3.kr h3.lt.1).kept hgs (fun e => hne.1 (Option.some.inj e)),?_,?_,ou_kept hu3 hgs ko3,⟨h.lt.1,h.lt.2.1,?_⟩,h.ne⟩
  ·have:=ko3.set_ 0 (.slice A3 (P'.length + 1) c3)
   rw [List.length_append]
   simpa using this
  ·exact own_kept own3 ko3 (by decide) hgs
  ·have:=g3.size; have:=h3.lt.2.2; rw [World.size_setCell]; omega
set_option maxRecDepth 100000 in
set_option maxHeartbeats 4000000 in
theorem dimage_any (B x:Nat) (P:PL) (ws:List WI) (L:List LRow) (Q:PL) (qs:List Qu.WI) (gv:Int) (w:World) (h:DR w B x P ws L Q qs gv) (hg:0≤gv∧gv≤4611686018427387904) :
  Calls Tryz.prog 19 #[.pointer (some ⟨x,0,none⟩)] w fun e w' => ∃ A q c A' q' c',e=.returned (.agg #[.slice A q c,.slice A' q' c',.int .i64 (gv + 1)])∧Hid (Re.DocAt w' A q A' q' (docP P 16) (Q.map (·.2))∧Below w.heap.size w w'):=by
 obtain ⟨w1,hw1⟩:∃ w1,w1=w.alloc (.cells #[.slice none 0 0,.slice none 0 0,.int .i64 0] 54):=⟨_,rfl⟩
 have b1:Below w.heap.size w w1:=by rw [hw1]; exact ba _ _
 obtain ⟨gr,hgr⟩:∃ gr,gr=w.heap.size:=⟨_,rfl⟩
 have k1:Blk w1 gr 54 #[.slice none 0 0,.slice none 0 0,.int .i64 0]:=by rw [hw1,hgr]; exact Blk.new _ _ _
 obtain ⟨vs,hvs⟩:∃ vs,vs=Q.map (·.2):=⟨_,rfl⟩
 obtain ⟨nq,hnq⟩:∃ nq,nq=vs.length:=⟨_,rfl⟩
 have hnq2:nq=Q.length:=by rw [hnq,hvs,List.length_map]
 obtain ⟨a0,b0,c0,d0,e0,r1,r2,r3⟩:=(h.below b1).ex
 have HK:Hid (∀ u,Below w1.heap.size w1 u→u.cell? ⟨x,5,none⟩=some (.int .i64 gv)):=Lib.hid fun u hu => by
  have:=(r3.below hu r3.lt).cell 5
  simpa using this
 have HV:Hid (∀ (k:Nat) u,Below w1.heap.size w1 u→Calls Tryz.prog 52 #[.pointer (some ⟨x,0,none⟩),.int .i64 k] u fun e w' => e=.returned (.tuple #[.int .u64 ((valP P k).1:Nat),.bool (valP P k).2])∧u=w'):=Lib.hid fun k u hu => Ds.rvalue_any B x P ws L k u (r1.below hu)
 have HVals:Hid (∀ u,Below w1.heap.size w1 u→Calls Tryz.prog 51 #[.pointer (some ⟨x,3,none⟩)] u fun e w' => ∃ A c,e=.returned (.slice A nq c)∧Qu.OwnU w' w1.heap.size A c vs∧Below u.heap.size u w'):=Lib.hid fun u hu => by
  rw [hnq2,hvs]
  refine (Qu.Dq.rvalues_any B x Q qs gv u (r2.below hu)).mono ?_
  rintro e w' ⟨A,c,h1,h2,h3⟩
  exact ⟨A,c,h1,h2.less hu.size,h3⟩
 have H:=Lib.hid (And.intro b1 (And.intro k1 (And.intro hgr hw1)))
 have HL:=Lib.hid (And.intro hnq hvs)
 have swr:IntKind.i64.wrap (gv + 1)=gv + 1:=IntWalk.i64_in _ (by omega)
 clear h b1 k1 hgr hw1 hnq hvs hnq2 r1 r2 r3 hg
 go_enter Tryz.func19,Tryz.ntmps19
 go_wp2_with fail
 rw [← H.out.2.2.2,← H.out.2.2.1]
 refine wp_region_invX (F:=?FI) (V:=VIm x w1.heap.size nq gv vs) (par:=fun i => if i=12 then 11 else i) (dead:=fun i => if i=11 then some 12 else none) (T:=fun _ _ => True) (C:=fun u => Below w1.heap.size w1 u) (E:=EIm w1.heap.size) (by kernel_rfl) (by kernel_rfl) (by kernel_rfl) (fun y => ?hFI) (fun i _ => by by_cases h:i=12; (subst h; exact .inr (by kernel_rfl)); exact .inl (if_neg h)) ?hmonoI ?hTmI ?hTI ?hCI ?stepI ?finI
 case hFI => simp only [mkA,Act.put,List.setIfInBounds_toArray,List.set_cons_succ,List.set_cons_zero,Nat.reduceAdd,Nat.zero_add]; first | with_reducible rfl | rfl
 case hmonoI => exact fun q' i v p u u' he hik hwt hdd hv => VIm.mono he hik (fun hh => hdd (by rw [hh.1,hh.2]; rfl)) hv
 case hTmI => exact fun _ _ _ _ _ _ _ _ => trivial
 case hTI => exact fun j => trivial
 case hCI => exact (Below.refl _ _).drew
 case stepI =>
  refine AllOps.cons (fun y u hC hT hp K hK => ?_) ?_
  ·clear hp hT
   go_simp
   refine hK _ _ _ hC (Below.refl _ _) (by exact rfl) ?_
   first | (simp only [Act.put,List.setIfInBounds_toArray,List.set_cons_succ,List.set_cons_zero]; done) | simp [Act.put]
  refine AllOps.cons (fun y u hC hT hp K hK => ?_) ?_
  ·simp [KnownTill,Region.binds,VIm] at hp
   clear hT
   go_simp
   refine hK _ _ _ hC (Below.refl _ _) (by exact rfl) ?_
   first | (simp only [Act.put,List.setIfInBounds_toArray,List.set_cons_succ,List.set_cons_zero,hp]; done) | simp [Act.put,hp]
  refine AllOps.cons (fun y u hC hT hp K hK => ?_) ?_
  ·simp [KnownTill,Region.binds,VIm] at hp
   clear hT
   go_simp
   refine hK _ _ _ hC (Below.refl _ _) (by exact rfl) ?_
   first | (simp only [Act.put,List.setIfInBounds_toArray,List.set_cons_succ,List.set_cons_zero,hp]; done) | simp [Act.put,hp]
  refine AllOps.cons (fun y u hC hT hp K hK => ?_) ?_
  ·simp [KnownTill,Region.binds,VIm] at hp
   clear hT
   go_simp
   refine (HVals.out u hC).mono ?_
   rintro e uA ⟨A,c,rfl,hO,hbA⟩
   refine hK _ _ _ (bt hC hbA) hbA ⟨A,c,rfl,hO⟩ ?_
   first | (simp only [Act.put,List.setIfInBounds_toArray,List.set_cons_succ,List.set_cons_zero,hp]; done) | simp [Act.put,hp]
  refine AllOps.cons (fun y u hC hT hp K hK => ?_) ?_
  ·clear hp hT
   go_simp
   refine hK _ _ _ hC (Below.refl _ _) (by exact rfl) ?_
   first | (simp only [Act.put,List.setIfInBounds_toArray,List.set_cons_succ,List.set_cons_zero]; done) | simp [Act.put]
  refine AllOps.cons (fun y u hC hT hp K hK => ?_) ?_
  ·simp [KnownTill,Region.binds,VIm] at hp
   clear hT
   go_simp
   refine hK _ _ _ hC (Below.refl _ _) (by exact rfl) ?_
   first | (simp only [Act.put,List.setIfInBounds_toArray,List.set_cons_succ,List.set_cons_zero,hp]; done) | simp [Act.put,hp]
  refine AllOps.cons (fun y u hC hT hp K hK => ?_) ?_
  ·simp [KnownTill,Region.binds,VIm] at hp
   clear hT
   go_simp
   refine hK _ _ _ hC (Below.refl _ _) (by exact rfl) ?_
   first | (simp only [Act.put,List.setIfInBounds_toArray,List.set_cons_succ,List.set_cons_zero,hp]; done) | simp [Act.put,hp]
  refine AllOps.cons (fun y u hC hT hp K hK => ?_) ?_
  ·simp [KnownTill,Region.binds,VIm] at hp
   clear hT
   go_simp
   refine hK _ _ _ hC (Below.refl _ _) (by exact rfl) ?_
   first | (simp only [Act.put,List.setIfInBounds_toArray,List.set_cons_succ,List.set_cons_zero,hp]; done) | simp [Act.put,hp]
  refine AllOps.cons (fun y u hC hT hp K hK => ?_) ?_
  ·simp [KnownTill,Region.binds,VIm] at hp
   clear hT
   have ck:=HK.out u hC
   go_simp
   refine hK _ _ _ hC (Below.refl _ _) (by exact rfl) ?_
   first | (simp only [Act.put,List.setIfInBounds_toArray,List.set_cons_succ,List.set_cons_zero,hp]; done) | simp [Act.put,hp]
  refine AllOps.cons (fun y u hC hT hp K hK => ?_) ?_
  ·simp [KnownTill,Region.binds,VIm] at hp
   clear hT
   go_simp
   refine hK _ _ _ hC (Below.refl _ _) (by exact rfl) ?_
   first | (simp only [Act.put,List.setIfInBounds_toArray,List.set_cons_succ,List.set_cons_zero,hp]; done) | simp [Act.put,hp]
  refine AllOps.cons (fun y u hC hT hp K hK => ?_) ?_
  ·simp [KnownTill,Region.binds,VIm] at hp
   clear hT
   obtain ⟨⟨A,c,e3,hO⟩,e9⟩:IsOu u w1.heap.size nq vs (y 3)∧y 9=.int .i64 (gv + 1):=by first | exact hp | exact ⟨hp.1,hp.2⟩ | exact ⟨hp.1,hp.2.1⟩ | exact ⟨hp.2.1,hp.2.2⟩
   simp only [e3,e9]
   go_simp
   refine hK _ _ _ hC (Below.refl _ _) ⟨_,rfl,A,c,rfl,hO⟩ ?_
   first | (simp only [Act.put,List.setIfInBounds_toArray,List.set_cons_succ,List.set_cons_zero,e3,e9]; done) | simp [Act.put,e3,e9]
  refine AllOps.cons (fun y u hC hT hp K hK => ?_) ?_
  ·clear hp hT
   go_simp
   refine hK _ _ _ (bt hC (ba u (.cells #[.slice none 0 0,.slice none 0 0,.int .i64 0] 54))) (ba u (.cells #[.slice none 0 0,.slice none 0 0,.int .i64 0] 54)) ⟨u.heap.size,rfl,hC.size,Blk.new u _ _⟩ ?_
   first | (simp only [Act.put,List.setIfInBounds_toArray,List.set_cons_succ,List.set_cons_zero]; done) | simp [Act.put]
  refine AllOps.cons (fun y u hC hT hp K hK => ?_) ?_
  ·simp [KnownTill,Region.binds,VIm] at hp
   clear hT
   obtain ⟨b,e11,hbl,kz⟩:NewI u w1.heap.size (y 11) #[.slice none 0 0,.slice none 0 0,.int .i64 0]:=by first | exact hp.1 | exact hp.2.1 | exact hp.2 | exact hp.2.2
   obtain ⟨s,e10,hs⟩:∃ s,y 10=.agg #[.slice none 0 0,s,.int .i64 (gv + 1)]∧IsOu u w1.heap.size nq vs s:=by first | exact hp.1 | exact hp.2.1 | exact hp.2 | exact hp.2.2
   clear hp
   obtain ⟨A9,c9,rfl,hs⟩:=hs
   have s0:=kz.cell 0
   have s1:=kz.cell 1
   have s2:=kz.cell 2
   have f3:=kz.frozen
   simp only [List.getElem?_toArray,List.getElem?_cons_zero,List.getElem?_cons_succ] at s0 s1 s2
   have kf:=((kz.set_ 0 (.slice none 0 0)).set_ 1 (.slice A9 nq c9)).set_ 2 (.int .i64 (gv + 1))
   simp only [List.setIfInBounds_toArray,List.set_cons_succ,List.set_cons_zero] at kf
   have hgr:=((lgrown_set u ⟨b,0,none⟩ (.slice none 0 0)).trans (lgrown_set _ ⟨b,1,none⟩ (.slice A9 nq c9))).trans (lgrown_set _ ⟨b,2,none⟩ (.int .i64 (gv + 1)))
   have HF:=Lib.hid (And.intro kf (And.intro hgr (And.intro kz hs)))
   clear kf hgr kz hs
   simp only [e10,e11]
   go_simp
   refine hK undef _ _ (hC.grown HF.out.2.1 hC.size (fun r e => by cases e; exact hbl)) ⟨b,_,hbl,HF.out.2.2.1,HF.out.2.1⟩ ⟨_,⟨b,e11,hbl,HF.out.1⟩,IsOu.mono (q:=12) (B2:=w1.heap.size) ⟨b,_,hbl,HF.out.2.2.1,HF.out.2.1⟩ ⟨A9,c9,rfl,HF.out.2.2.2⟩⟩ ?_
   simp [Act.put,e10,e11]
  exact AllOps.nil
 case finI =>
  intro y u hC hV
  obtain ⟨s,⟨go,hgo,hgl,kgo⟩,A',c',rfl,hou⟩:∃ s,NewI u w1.heap.size (y 11) #[.slice none 0 0,s,.int .i64 (gv + 1)]∧IsOu u w1.heap.size nq vs s:=hV 12 (by decide) rfl
  rw [hgo]
  obtain ⟨B2,hB2⟩:∃ B2,B2=u.heap.size:=⟨_,rfl⟩
  have hI0:DI w u gr go B2 A' nq c' (gv + 1) vs none 0 (docP P 0):=by
   have hs1:=H.out.1.size
   have hlt:=H.out.2.1.lt
   have hz:=hC.size
   refine ⟨bt H.out.1 hC,H.out.2.1.below hC hlt,kgo,World.ownsRow_nil _ _ _ _,hou.less hs1,⟨by rw [hB2]; exact Nat.lt_of_lt_of_le hlt hz,by rw [hB2]; exact kgo.lt,Nat.le_of_eq hB2⟩,⟨by omega,by rw [H.out.2.2.1]; exact Nat.le_refl _,Nat.le_trans hs1 hgl,by omega⟩⟩
  have HI:Hid (Below w1.heap.size w1 u∧∃ A2 c2,DI w u gr go B2 A' nq c' (gv + 1) vs A2 c2 (docP P 0)):=Lib.hid ⟨hC,none,0,hI0⟩
  clear hI0 hC hV hgo hgl kgo hou hB2
  go_wp2_with fail
  go_loopw [4] (fun iv wr => ∃ j:Nat,j≤16∧iv=.int .i64 j∧Hid (Below w1.heap.size w1 wr∧∃ A2 c2,DI w wr gr go B2 A' nq c' (gv + 1) vs A2 c2 (docP P j))) (fun iv _ => 16 - (intOf iv).toNat)
  case atStart => exact ⟨0,Nat.zero_le _,rfl,HI⟩
  case round =>
   clear HI
   obtain ⟨j,hj,rfl,HR⟩:=hrel
   obtain ⟨hb1,A2,c2,hr⟩:=HR.out
   by_cases hjn:j < 16
   ·have hjI:(j:Int) < 16:=by omega
    have hV:=Lib.hid (HV.out j wr hb1)
    obtain ⟨xv,hxv⟩:∃ xv,xv=valP P j:=⟨_,rfl⟩
    have HS:Hid (docP P (j + 1)=docP P j ++ if xv.2=true then [((j:Int),xv.1)] else []):=Lib.hid (by rw [hxv]; rfl)
    rw [← hxv] at hV
    clear hxv
    obtain ⟨yv,yt⟩:=xv
    dsimp only at hV HS
    cases yt with
    | false =>
     have HX:Hid (Below w1.heap.size w1 wr∧∃ A2 c2,DI w wr gr go B2 A' nq c' (gv + 1) vs A2 c2 (docP P (j + 1))):=Lib.hid (by rw [HS.out]; simpa using HR.out)
     clear HR hr hb1
     go_wp2_with fail
     refine hV.out.mono ?_
     rintro e w2 ⟨rfl,rfl⟩
     go_wp2
     go_roundw
     case rel => exact ⟨j + 1,by omega,by go_num,HX⟩
     case measure => simp [intOf]; omega
    | true =>
     have hjl:(docP P j).length≤1000:=Nat.le_trans (docP_len P j) (by omega)
     obtain ⟨A3,c3,w4,hrun,e3,f3,h4⟩:=hr.more hjl j yv
     have hb4:Below w1.heap.size w1 (w4.setCell ⟨go,0,none⟩ (.slice A3 ((docP P j).length + 1) c3)):=by
      have e1:w1.heap.size=gr + 1:=by rw [H.out.2.2.2,H.out.2.2.1]; simp
      have hs4:=h4.be
      have hgr:=h4.kr
      refine ⟨h4.be.os.trans H.out.1.os.symm,h4.be.tape.trans H.out.1.tape.symm,h4.be.output.trans H.out.1.output.symm,by have:=h4.kr.lt; omega,fun k hk => ?_⟩
      by_cases e:k=gr
      ·subst e
       have:=H.out.2.1
       unfold Blk at this hgr
       rw [this]; exact hgr
      ·have hkw:k < w.heap.size:=by rw [← H.out.2.2.1]; omega
       exact (h4.be.block k hkw).trans (H.out.1.block k hkw).symm
     have HX:Hid (Below w1.heap.size w1 (w4.setCell ⟨go,0,none⟩ (.slice A3 ((docP P j).length + 1) c3))∧∃ A2 c2,DI w (w4.setCell ⟨go,0,none⟩ (.slice A3 ((docP P j).length + 1) c3)) gr go B2 A' nq c' (gv + 1) vs A2 c2 (docP P (j + 1))):=Lib.hid ⟨hb4,A3,c3,by rw [HS.out,if_pos rfl]; exact h4⟩
     have e0:=hr.ko.cell 0
     have e2:=(hr.below (ba _ (.cells #[.int .i64 j,.int .u64 (yv:Nat)] 114))).ko.cell 0
     simp only [List.getElem?_toArray,List.getElem?_cons_zero] at e0 e2
     generalize (docP P j).length=dl at hrun e3 h4 hb4 HX e0 e2
     clear hb1 hr HR hjl h4 hb4 HS
     go_wp2_with fail
     refine hV.out.mono ?_
     rintro e w2 ⟨rfl,rfl⟩
     go_wp2_with (at_builtin; refine wpList_append_run rfl (.tmp 32) (.tmp 36) 26 rfl _ _ _ w4 rfl rfl hrun ?_)
     go_roundw
     case rel => exact ⟨j + 1,by omega,by go_num,HX⟩
     case measure => simp [intOf]; omega
   ·have hjI:¬ (j:Int) < 16:=by omega
    have hj16:j=16:=by omega
    subst hj16
    obtain ⟨q,hq⟩:∃ q,q=(docP P 16).length:=⟨_,rfl⟩
    have o0:=hr.ko.cell 0
    have o1:=hr.ko.cell 1
    have o2:=hr.ko.cell 2
    have g0:=hr.kr.cell 0
    have g1:=hr.kr.cell 1
    have g2:=hr.kr.cell 2
    have f3:=hr.kr.frozen
    simp only [List.getElem?_toArray,List.getElem?_cons_zero,List.getElem?_cons_succ] at o0 o1 o2 g0 g1 g2
    rw [← hq] at o0
    have kf:=((hr.kr.set_ 0 (.slice A2 q c2)).set_ 1 (.slice A' nq c')).set_ 2 (.int .i64 (gv + 1))
    have r0:=kf.cell 0
    have r1:=kf.cell 1
    have r2:=kf.cell 2
    simp only [List.setIfInBounds_toArray,List.set_cons_succ,List.set_cons_zero,List.getElem?_toArray,List.getElem?_cons_zero,List.getElem?_cons_succ] at r0 r1 r2
    have hg:=((lgrown_set wr ⟨gr,0,none⟩ (.slice A2 q c2)).trans (lgrown_set _ ⟨gr,1,none⟩ (.slice A' nq c'))).trans (lgrown_set _ ⟨gr,2,none⟩ (.int .i64 (gv + 1)))
    have HX:=Lib.hid (And.intro (Re.DocAt.mk (A:=A2) (A':=A') hq HL.out.1 (Re.OwnPr.in_ (own_kept hr.own hr.kr (by decide) hg)) (ou_kept hr.u hg hr.kr).at_) (hr.be.grown hg hr.be.size (fun r e => by cases e; exact hr.ne.2.1)))
    rw [HL.out.2] at HX
    clear hb1 hr HR kf hg hq
    go_wp2
    refine bodyPost_ret (by simp [results,Tryz.results19,go_sem,r0,r1,r2]; try rfl) rfl ?_
    exact ⟨A2,q,c2,A',nq,⟨c',rfl⟩,HX⟩
end Go.Proofs.YtlliaihmfimdoaaGreat.Dr


namespace Go.Proofs.YtlliaihmfimdoaaGreat.Dr
open Go.RowKit Go.Maps Go.Joins Go.Deep Go.Proofs.YtlliaihmfimdoaaGreat
theorem kprep_B (S:KS) (n:Int):(prepM S n).2.B=S.B:=by
 unfold prepM; split
 ·rfl
 ·split
  ·rfl
  ·split <;> rfl
theorem krest_B (S:KS) (n:Int) (l:List Ch):(restoreM S n l).2.B=S.B:=by
 unfold restoreM; split
 ·rfl
 ·split
  ·rfl
  ·split
   ·rfl
   ·split <;> rfl
theorem hold_KQ (S:Re.RS) (n:Int) (q:Nat):(Re.holdR S n q).K=S.K∧(Re.holdR S n q).Q=S.Q:=by unfold Re.holdR; split <;> exact ⟨rfl,rfl⟩
theorem callR_B (S:Re.RS) (o:OpV):(Re.callR S o).2.K.B=S.K.B∧(Re.callR S o).2.Q.B=S.Q.B:=by
 unfold Re.callR
 split
 ·unfold Re.getR; split
  ·exact ⟨rfl,rfl⟩
  ·exact ⟨getM_B _ _ _,rfl⟩
 split
 ·unfold Re.putR; split
  ·exact ⟨rfl,rfl⟩
  ·exact ⟨changeM_B _ _ _,rfl⟩
 split
 ·unfold Re.delR; split
  ·exact ⟨rfl,rfl⟩
  ·exact ⟨changeM_B _ _ _,rfl⟩
 split
 ·unfold Re.pushR; split
  ·exact ⟨rfl,rfl⟩
  ·exact ⟨rfl,Qu.putM_B _ _ _⟩
 split
 ·unfold Re.popR; split
  ·exact ⟨rfl,rfl⟩
  ·exact ⟨rfl,Qu.takeM_B _ _⟩
 split
 ·unfold Re.prepR; split
  ·exact ⟨rfl,rfl⟩
  ·dsimp only
   rw [(hold_KQ _ _ _).1,(hold_KQ _ _ _).2]
   exact ⟨kprep_B _ _,Qu.prepM_B' _ _⟩
 split
 ·unfold Re.commitR; split
  ·exact ⟨rfl,rfl⟩
  ·exact ⟨commitM_B _ _,Qu.commitM_B _ _⟩
 split
 ·unfold Re.backR; split
  ·exact ⟨rfl,rfl⟩
  ·exact ⟨backoutM_B _ _,Qu.backM_B _ _⟩
 split
 ·unfold Re.restoreR; split
  ·exact ⟨rfl,rfl⟩
  ·split
   ·exact ⟨rfl,rfl⟩
   ·split
    ·exact ⟨krest_B _ _ _,rfl⟩
    ·split
     ·exact ⟨(backoutM_B _ _).trans (krest_B _ _ _),Qu.restM_B _ _ _⟩
     ·dsimp only
      rw [(hold_KQ _ _ _).1,(hold_KQ _ _ _).2]
      exact ⟨krest_B _ _ _,Qu.restM_B _ _ _⟩
 ·exact ⟨rfl,rfl⟩
theorem callR_good {S:Re.RS} (h:Qu.QGood S.Q) (o:OpV):Qu.QGood (Re.callR S o).2.Q:=by
 have gput:∀ n v,Qu.QGood (Qu.putM S.Q n v).2:=fun n v => h.call ⟨0,n,0,v,none,[],0,none,[],0⟩
 have gtake:∀ n,Qu.QGood (Qu.takeM S.Q n).2:=fun n => h.call ⟨1,n,0,0,none,[],0,none,[],0⟩
 have gprep:∀ n,Qu.QGood (Qu.prepM S.Q n).2:=fun n => h.call ⟨2,n,0,0,none,[],0,none,[],0⟩
 have gcom:∀ n,Qu.QGood (Qu.commitM S.Q n).2:=fun n => h.call ⟨3,n,0,0,none,[],0,none,[],0⟩
 have gback:∀ n,Qu.QGood (Qu.backM S.Q n).2:=fun n => h.call ⟨4,n,0,0,none,[],0,none,[],0⟩
 have grest:∀ n l,Qu.QGood (Qu.restM S.Q n l).2:=fun n l => h.call ⟨5,n,0,0,none,l,0,none,[],0⟩
 unfold Re.callR
 split
 ·unfold Re.getR; split <;> exact h
 split
 ·unfold Re.putR; split <;> exact h
 split
 ·unfold Re.delR; split <;> exact h
 split
 ·unfold Re.pushR; split
  ·exact h
  ·exact gput _ _
 split
 ·unfold Re.popR; split
  ·exact h
  ·exact gtake _
 split
 ·unfold Re.prepR; split
  ·exact h
  ·dsimp only
   rw [(hold_KQ _ _ _).2]
   exact gprep _
 split
 ·unfold Re.commitR; split
  ·exact h
  ·exact gcom _
 split
 ·unfold Re.backR; split
  ·exact h
  ·exact gback _
 split
 ·unfold Re.restoreR; split
  ·exact h
  ·split
   ·exact h
   ·split
    ·exact h
    ·split
     ·exact grest _ _
     ·dsimp only
      rw [(hold_KQ _ _ _).2]
      exact grest _ _
 ·exact h
def LQ (S:Qu.QS) (M:Nat):Prop:=∀ y ∈ S.ws,y.l.length≤M
theorem LQ.more {S:Qu.QS} {M M':Nat} (h:LQ S M) (hM:M≤M'):LQ S M':=fun y hy => Nat.le_trans (h y hy) hM
theorem LQ.lay {S:Qu.QS} {M:Nat} (h:LQ S M) {n:Int} {l:List Ch} {p:Bool} (hl:l.length≤M):∀ y ∈ Qu.layQ S.ws n l p,y.l.length≤M:=by
 unfold Qu.layQ
 split
 ·intro y hy
  obtain ⟨z,hz,rfl⟩:=List.mem_map.1 hy
  split
  ·exact hl
  ·exact h z hz
 ·intro y hy
  rcases List.mem_append.1 hy with hy | hy
  ·exact h y hy
  ·rw [List.mem_singleton] at hy; subst hy; exact hl
theorem LQ.cur {S:Qu.QS} {M:Nat} (h:LQ S M) (n:Int):(Qu.curQ S.ws n).1.length≤M:=by
 unfold Qu.curQ Qu.lookQ
 rcases hf:Qu.findQ S.ws n with _ | z
 ·exact Nat.zero_le _
 ·exact h z (Qu.findQ_mem hf).1
theorem LQ.add {S:Qu.QS} {M:Nat} (h:LQ S M) (n:Int) (c:Ch):∀ y ∈ Qu.addQ S.ws n c,y.l.length≤M + 1:=by
 unfold Qu.addQ
 exact (h.more (Nat.le_succ M)).lay (by rw [List.length_append]; have:=h.cur n; simp; omega)
theorem LQ.others {S:Qu.QS} {M:Nat} (h:LQ S M) (n:Int):∀ y ∈ Qu.othersQ S.ws n,y.l.length≤M + 1:=fun y hy => Nat.le_succ_of_le (h y (List.mem_filter.1 hy).1)
theorem callR_lq {S:Re.RS} {M:Nat} (h:LQ S.Q M) (hM:40≤M) (o:OpV) (hl:o.l.length≤40):LQ (Re.callR S o).2.Q (M + 1):=by
 have h':=h.more (Nat.le_succ M)
 have gput:∀ n v,LQ (Qu.putM S.Q n v).2 (M + 1):=fun n v => by
  unfold Qu.putM
  split
  ·exact h'
  ·split
   ·exact h'
   ·exact h.add _ _
 have gtake:∀ n,LQ (Qu.takeM S.Q n).2 (M + 1):=fun n => by
  unfold Qu.takeM
  split
  ·exact h'
  ·split
   ·exact h'
   ·split
    ·exact h.add _ _
    ·exact h'
 have gprep:∀ n,LQ (Qu.prepM S.Q n).2 (M + 1):=fun n => by
  unfold Qu.prepM
  split
  ·exact h'
  ·split
   ·exact h'
   ·exact h'.lay (Nat.le_succ_of_le (h.cur n))
 have gcom:∀ n,LQ (Qu.commitM S.Q n).2 (M + 1):=fun n => by
  unfold Qu.commitM
  split
  ·exact h'
  ·exact h.others _
 have gback:∀ n,LQ (Qu.backM S.Q n).2 (M + 1):=fun n => by
  unfold Qu.backM
  split
  ·exact h'
  ·exact h.others _
 have grest:∀ n l,l.length≤40→LQ (Qu.restM S.Q n l).2 (M + 1):=fun n l hl => by
  unfold Qu.restM
  split
  ·exact h'
  ·split
   ·exact h'
   ·split
    ·exact h'
    ·split
     ·exact h'
     ·split
      ·exact h'
      ·exact h'.lay (by omega)
 unfold Re.callR
 split
 ·unfold Re.getR; split <;> exact h'
 split
 ·unfold Re.putR; split <;> exact h'
 split
 ·unfold Re.delR; split <;> exact h'
 split
 ·unfold Re.pushR; split
  ·exact h'
  ·exact gput _ _
 split
 ·unfold Re.popR; split
  ·exact h'
  ·exact gtake _
 split
 ·unfold Re.prepR; split
  ·exact h'
  ·dsimp only
   rw [(hold_KQ _ _ _).2]
   exact gprep _
 split
 ·unfold Re.commitR; split
  ·exact h'
  ·exact gcom _
 split
 ·unfold Re.backR; split
  ·exact h'
  ·exact gback _
 split
 ·have hd:(o.l.drop (Re.endK o.l)).length≤40:=by rw [List.length_drop]; omega
  unfold Re.restoreR; split
  ·exact h'
  ·split
   ·exact h'
   ·split
    ·exact h'
    ·split
     ·exact grest _ _ hd
     ·dsimp only
      rw [(hold_KQ _ _ _).2]
      exact grest _ _ hd
 ·exact h'
def bas (S:Re.RS) (B1 B2:Nat→Prop):Re.RS:=⟨{ S.K with B:=B1 },{ S.Q with B:=B2 },S.pr⟩
theorem DRel.bas {S:Re.RS} {P:PL} {ws:List WI} {Q:PL} {qs:List Qu.WI} {gv:Int} (h:DRel S P ws Q qs gv) (B1 B2:Nat→Prop):DRel (bas S B1 B2) P ws Q qs gv :=
 ⟨⟨h.K.V,h.K.P,h.K.ok,h.K.nc,h.K.no,h.K.yes,h.K.ll⟩,⟨h.Q.I,h.Q.g,h.Q.w⟩,h.pr⟩
structure LvAt (w u:World) (g x:Nat) (S:Re.RS) (P:PL) (ws:List WI) (Q:PL) (qs:List Qu.WI) (gv:Int) (N j:Nat):Prop where
 ra:∃ cs,Re.ResAt u g cs S N
 dr:DR u w.heap.size x P ws S.K.L Q qs gv
 rl:DRel S P ws Q qs gv
 gd:Qu.QGood S.Q
 ne:∀ y ∈ qs,y.l≠[]
 be:Below w.heap.size w u
 gx:w.heap.size≤g∧w.heap.size≤x
 b1:∀ b,S.K.B b→¬ Ours ws qs b
 b2:∀ b,S.Q.B b→¬ Ours ws qs b
 b3:∀ b,u.heap.size≤b→S.K.B b∧S.Q.B b
 ln:ws.length≤j∧qs.length≤j
 lq:LQ S.Q (40 + j)
section
variable {w u:World} {g x:Nat} {S:Re.RS} {P:PL} {ws:List WI} {Q:PL} {qs:List Qu.WI} {gv:Int} {N j:Nat}
theorem LvAt.below {u':World} (h:LvAt w u g x S P ws Q qs gv N j) (hb:Below u.heap.size u u'):LvAt w u' g x S P ws Q qs gv N j :=
 ⟨h.ra.elim fun cs hk => ⟨cs,hk.below hb⟩,h.dr.below hb,h.rl,h.gd,h.ne,bt h.be hb,h.gx,h.b1,h.b2,fun b hle => h.b3 b (Nat.le_trans hb.size hle),h.ln,h.lq⟩
theorem LvAt.mh (h:LvAt w u g x S P ws Q qs gv N j) (hj:j < 100) {u':World} (hd:DR u' w.heap.size x P ws S.K.L Q qs gv) (hs:w.heap.size≤u'.heap.size):MH u' w.heap.size x S P ws Q qs gv:=by
 have h1:=h.gd.ok.room
 have h2:=h.gd.ok.last
 have h3:=h.gd.ok.g0
 have h4:=h.rl.Q.g
 refine ⟨hd,h.rl,h.gd,h.ne,hs,by have:=h.ln.1; omega,by have:=h.ln.2; omega,by omega,fun y hy => ?_,fun n z hf => ?_⟩
 ·have:=h.lq (Qu.wq y) (by rw [h.rl.Q.w]; exact List.mem_map_of_mem hy)
  have e:(Qu.wq y).l=y.l:=rfl
  rw [e] at this
  omega
 ·have hc:=h.rl.Q.cur hf
  have hp:=Qu.putsW_others S.Q.ws n h.gd.nd
  rw [hc] at hp
  dsimp only at hp
  have hl:=h.rl.Q.len
  omega
theorem LvAt.our_lt (h:LvAt w u g x S P ws Q qs gv N j) {r:Nat} (hr:Ours ws qs r):r < u.heap.size:=by
 obtain ⟨a,b,c,d,e,k1,k2,k3⟩:=h.dr.ex
 rcases hr with ⟨y,hy,e⟩ | ⟨y,hy,e⟩
 ·exact ((k1.wk y hy).2.2.lt' r e).2
 ·exact ((k2.wk y hy).2.2.lt' r e).2
end
def TellV (u:World) (B:Nat) (r:Nat × Bool × List Ch × Int) (v:Value):Prop:=∃ A q c,v=.agg #[.int .u64 (r.1:Nat),.bool r.2.1,.slice A q c,.int .i64 r.2.2.2]∧q=r.2.2.1.length∧OwnC u B A c r.2.2.1
theorem TellV.below {u u':World} {B:Nat} {r:Nat × Bool × List Ch × Int} {v:Value} (h:TellV u B r v) (hb:Below u.heap.size u u'):TellV u' B r v:=by
 obtain ⟨A,q,c,e,hq,ho⟩:=h
 exact ⟨A,q,c,e,hq,own_same ho (fun r hr _ _ => hb.block r hr)⟩
def ImgV (u:World) (P:List (Int × Nat)) (vs:List Nat) (nx:Int) (v:Value):Prop:=∃ B A q c A' q' c',v=.agg #[.slice A q c,.slice A' q' c',.int .i64 nx]∧Re.ImgAt u B A q c A' q' c' P vs
def DocV (u:World) (P:List (Int × Nat)) (vs:List Nat) (nx:Int) (v:Value):Prop:=∃ A q c A' q' c',v=.agg #[.slice A q c,.slice A' q' c',.int .i64 nx]∧Re.DocAt u A q A' q' P vs
theorem ImgV.below {u u':World} {P:List (Int × Nat)} {vs:List Nat} {nx:Int} {v:Value} (h:ImgV u P vs nx v) (hb:Below u.heap.size u u'):ImgV u' P vs nx v:=by
 obtain ⟨B,A,q,c,A',q',c',e,h⟩:=h
 exact ⟨B,A,q,c,A',q',c',e,h.below hb⟩
theorem DocV.below {u u':World} {P:List (Int × Nat)} {vs:List Nat} {nx:Int} {v:Value} (h:DocV u P vs nx v) (hb:Below u.heap.size u u'):DocV u' P vs nx v:=by
 obtain ⟨A,q,c,A',q',c',e,h⟩:=h
 exact ⟨A,q,c,A',q',c',e,h.below hb⟩
set_option maxRecDepth 100000 in
set_option maxHeartbeats 1000000 in
theorem same15_any (V:Nat) (t:Bool) (er:Int) (l:List Ch) (A A':Option Addr) (q c c':Nat) {B B':Nat→Prop} (w:World) (hq:Hid (q=l.length)) (hm:q≤1000000) (h:ChAt w B A l) (h':ChAt w B' A' l):Calls Tryz.prog 11 #[.agg #[.int .u64 (V:Nat),.bool t,.slice A q c,.int .i64 er],.agg #[.int .u64 (V:Nat),.bool t,.slice A' q c',.int .i64 er]] w fun e w' => e=.returned (.bool true)∧Below w.heap.size w w':=by
 obtain ⟨w2,hw2⟩:∃ w2,w2=(w.alloc (.cells #[.int .u64 (V:Nat),.bool t,.slice A q c,.int .i64 er] 47)).alloc (.cells #[.int .u64 (V:Nat),.bool t,.slice A' q c',.int .i64 er] 47):=⟨_,rfl⟩
 have b2:Below w.heap.size w w2:=by rw [hw2]; exact bt (ba _ _) (ba _ _)
 have ka:Blk w2 w.heap.size 47 #[.int .u64 (V:Nat),.bool t,.slice A q c,.int .i64 er]:=by rw [hw2]; exact (Blk.new w _ _).below (ba _ _) (Blk.new w _ _).lt
 have kb:Blk w2 (w.heap.size + 1) 47 #[.int .u64 (V:Nat),.bool t,.slice A' q c',.int .i64 er]:=by
  have:=Blk.new (w.alloc (.cells #[.int .u64 (V:Nat),.bool t,.slice A q c,.int .i64 er] 47)) 47 #[.int .u64 (V:Nat),.bool t,.slice A' q c',.int .i64 er]
  rw [World.size_alloc] at this
  rw [hw2]; exact this
 have HS:=Lib.hid (Re.samech_any A A' l q c c' w2 hq hm (h.below b2) (h'.below b2))
 have HK:=Lib.hid (And.intro ka (And.intro kb b2))
 have HW:=Lib.hid hw2
 clear ka kb b2 hw2 h h'
 have hVV:((V:Int) == (V:Int))=true:=by simp
 have hee:(er == er)=true:=by simp
 have htt:(t == t)=true:=by simp
 go_enter Tryz.func11,Tryz.ntmps11
 go_wp2_with fail
 rw [← HW.out]
 refine HS.out.mono ?_
 rintro e w3 ⟨rfl,b3⟩
 obtain ⟨ka,kb,b2⟩:=HK.out
 have x3:=(ka.below b3 ka.lt).cell 3
 have y3:=(kb.below b3 kb.lt).cell 3
 simp only [List.getElem?_toArray,List.getElem?_cons_zero,List.getElem?_cons_succ] at x3 y3
 have HX:=Lib.hid (bt b2 b3)
 clear ka kb b2 b3
 go_wp2
 go_ret
 exact ⟨by simp,HX.out⟩
theorem TellV.same {u:World} {B B':Nat} {r:Nat × Bool × List Ch × Int} {a b:Value} (ha:TellV u B r a) (hb:TellV u B' r b) (hm:r.2.2.1.length≤1000000):Calls Tryz.prog 11 #[a,b] u fun e w' => e=.returned (.bool true)∧Below u.heap.size u w':=by
 obtain ⟨A,q,c,rfl,hq,ho⟩:=ha
 obtain ⟨A',q',c',rfl,hq',ho'⟩:=hb
 have e:q'=q:=hq'.trans hq.symm
 subst e
 exact same15_any r.1 r.2.1 r.2.2.2 r.2.2.1 A A' q' c c' u (Lib.hid hq) (by omega) ho.at_ ho'.at_
end Go.Proofs.YtlliaihmfimdoaaGreat.Dr


namespace Go.Proofs.YtlliaihmfimdoaaGreat.Re
open Go.RowKit Go.Maps Go.Joins Go.Deep Go.Proofs.YtlliaihmfimdoaaGreat
def risF:Int→List (Int × Nat)→Bool
 | _,[] => true
 | lo,p :: r => if p.1 < lo∨16≤p.1 then false else risF (p.1 + 1) r
set_option maxRecDepth 100000 in
set_option maxHeartbeats 2000000 in
theorem rising_any (A:Option Addr) (q c:Nat) (P:List (Int × Nat)) (w:World) (hq:Hid (q=P.length)) (hm:q≤1000000) (hP:InRp w A P) :
  Calls Tryz.prog 53 #[.slice A q c] w fun e w' => e=.returned (.bool (risF 0 P))∧Below w.heap.size w w':=by
 have H:=Lib.hid hP
 obtain ⟨R,hR⟩:∃ R,R=risF 0 P:=⟨_,rfl⟩
 rw [← hR]
 have HI:Hid (risF 0 (P.drop 0)=R∧Below w.heap.size w w):=Lib.hid ⟨hR.symm,Below.refl _ _⟩
 clear hP hR
 go_enter Tryz.func53,Tryz.ntmps53
 go_wp2_with fail
 go_loopw [8,3] (fun iv lv wr => ∃ (i:Nat) (lo:Int),i≤q∧iv=.int .i64 i∧lv=.int .i64 lo∧(0≤lo∧lo≤16)∧Hid (risF lo (P.drop i)=R∧Below w.heap.size w wr)) (fun iv _ _ => q - (intOf iv).toNat)
 case atStart => exact ⟨0,0,Nat.zero_le _,rfl,rfl,by omega,HI⟩
 case round =>
  clear HI
  obtain ⟨i,lo,hi,rfl,rfl,hlo,HR⟩:=hrel
  by_cases hin:i < q
  ·have hiI:(i:Int) < (q:Int):=by omega
   have hil:i < P.length:=by rw [← hq.out]; exact hin
   obtain ⟨b,o,hA,_,hcs⟩:=(H.out.below HR.out.2) (by omega)
   obtain ⟨q0,q1⟩:=hcs i hil
   have hst:risF lo (P.drop i)=if (P[i]'hil).1 < lo∨16≤(P[i]'hil).1 then false else risF ((P[i]'hil).1 + 1) (P.drop (i + 1)):=by
    rw [List.drop_eq_getElem_cons hil]; rfl
   rw [HR.out.1] at hst
   generalize P[i]'hil=y at q0 q1 hst
   obtain ⟨yk,yv⟩:=y
   dsimp only at q0 q1 hst
   have HN:=fun hyp:risF (yk + 1) (P.drop (i + 1))=R => Lib.hid (And.intro hyp (bt HR.out.2 (ba wr (.cells #[.int .i64 yk,.int .u64 (yv:Nat)] 85))))
   have HB:=Lib.hid (bt HR.out.2 (ba wr (.cells #[.int .i64 yk,.int .u64 (yv:Nat)] 85)))
   subst hA
   by_cases h1:yk < lo
   ·rw [if_pos (.inl h1)] at hst
    have HX:=Lib.hid hst
    clear hst HN hcs hil HR
    go_wp2
    go_ret
    exact ⟨by rw [HX.out]; rfl,HB.out⟩
   ·by_cases h2:16≤yk
    ·rw [if_pos (.inr h2)] at hst
     have HX:=Lib.hid hst
     clear hst HN hcs hil HR
     go_wp2
     go_ret
     exact ⟨by rw [HX.out]; rfl,HB.out⟩
    ·rw [if_neg (by omega)] at hst
     have HX:=HN hst.symm
     have h2':yk < 16:=by omega
     clear hst HN hcs hil HR
     go_wp2
     go_roundw
     case rel => exact ⟨i + 1,yk + 1,by omega,by go_num,by go_num,by omega,HX⟩
     case measure => simp [intOf]; omega
  ·have hiI:¬ (i:Int) < (q:Int):=by omega
   have HX:Hid (R=true∧Below w.heap.size w wr):=Lib.hid ⟨by
    have:=HR.out.1
    rw [List.drop_eq_nil_of_le (by have:=hq.out; omega)] at this
    exact this.symm,HR.out.2⟩
   clear HR
   go_wp2
   go_ret
   exact ⟨by rw [HX.out.1]; rfl,HX.out.2⟩
end Go.Proofs.YtlliaihmfimdoaaGreat.Re


namespace Go.Proofs.YtlliaihmfimdoaaGreat.Re
open Go.RowKit Go.Maps Go.Joins Go.Deep Go.Proofs.YtlliaihmfimdoaaGreat
theorem risF_all:∀ (P:List (Int × Nat)) (lo:Int),0≤lo→risF lo P=true→∀ p ∈ P,lo≤p.1∧p.1 < 16
 | [],_,_,_ => fun p hp => nomatch hp
 | y :: r,lo,h0,h => by
  unfold risF at h
  by_cases e:y.1 < lo∨16≤y.1
  ·rw [if_pos e] at h; cases h
  ·rw [if_neg e] at h
   intro p hp
   rcases List.mem_cons.1 hp with rfl | hp
   ·omega
   ·have:=risF_all r (y.1 + 1) (by omega) h p hp
    omega
def loadN (nx:Int) (q':Nat):Int:=if nx=0∧q'=0 then 1 else nx
def putsR (S:RS) (P:List (Int × Nat)):RS:=P.foldl (fun S p => (putR S 1 p.1 p.2).2) S
def loadS (vs:List Nat) (nx:Int):RS:={ RS.zero anyB with Q:=(Qu.loadM (Qu.QS.zero anyB) vs (loadN nx vs.length)).2 }
def loadE (P:List (Int × Nat)) (vs:List Nat) (nx:Int):Int:=if risF 0 P=false then 3 else (Qu.loadM (Qu.QS.zero anyB) vs (loadN nx vs.length)).1
def loadR (P:List (Int × Nat)) (vs:List Nat) (nx:Int):RS:=(commitR (putsR (loadS vs nx) P) 1).2
theorem putR_B (S:RS) (n y:Int) (v:Nat):(putR S n y v).2.K.B=S.K.B∧(putR S n y v).2.Q=S.Q:=by
 unfold putR; split
 ·exact ⟨rfl,rfl⟩
 ·exact ⟨changeM_B _ _ _,rfl⟩
theorem putsR_B:∀ (P:List (Int × Nat)) (S:RS),(putsR S P).K.B=S.K.B∧(putsR S P).Q=S.Q
 | [],S => ⟨rfl,rfl⟩
 | p :: r,S => by
  have h1:=putR_B S 1 p.1 p.2
  have h2:=putsR_B r (putR S 1 p.1 p.2).2
  exact ⟨h2.1.trans h1.1,h2.2.trans h1.2⟩
theorem putsR_snoc (S:RS) (P:List (Int × Nat)) (i:Nat) (h:i < P.length):putsR S (P.take (i + 1))=(putR (putsR S (P.take i)) 1 (P[i]'h).1 (P[i]'h).2).2:=by
 unfold putsR
 rw [List.take_add_one,List.getElem?_eq_getElem h,List.foldl_append]; rfl
def LoadO (w:World) (P:List (Int × Nat)) (vs:List Nat) (nx:Int) (e:Ending) (w':World):Prop :=
 Below w.heap.size w w'∧((loadE P vs nx≠0∧e=.returned (.tuple #[.pointer none,.int .i64 (loadE P vs nx)]))∨(loadE P vs nx=0∧∃ g cs,e=.returned (.tuple #[.pointer (some ⟨g,0,none⟩),.int .i64 0])∧w.heap.size≤g∧ResAt w' g cs (loadR P vs nx) 2000))
set_option maxRecDepth 100000 in
set_option maxHeartbeats 2000000 in
theorem resload_any (A A':Option Addr) (q c q' c':Nat) (nx:Int) (P:List (Int × Nat)) (vs:List Nat) (w:World) (hq:Hid (q=P.length)) (hq':Hid (q'=vs.length)) (hm:q≤1000∧q'≤1000) (hP:InRp w A P) (hU:Qu.UAt w A' vs) :
  Calls Tryz.prog 20 #[.agg #[.slice A q c,.slice A' q' c',.int .i64 nx]] w (LoadO w P vs nx):=by
 obtain ⟨w1,hw1⟩:∃ w1,w1=w.alloc (.cells #[.slice A q c,.slice A' q' c',.int .i64 nx] 58):=⟨_,rfl⟩
 have b1:Below w.heap.size w w1:=by rw [hw1]; exact ba _ _
 obtain ⟨gi,hgi⟩:∃ gi,gi=w.heap.size:=⟨_,rfl⟩
 have k1:Blk w1 gi 58 #[.slice A q c,.slice A' q' c',.int .i64 nx]:=by rw [hw1,hgi]; exact Blk.new _ _ _
 have HR1:=Lib.hid (rising_any A q c P w1 hq (by omega) (hP.below b1))
 have H1:=Lib.hid (And.intro b1 (And.intro k1 (And.intro (hP.below b1) (hU.below b1))))
 have HG:=Lib.hid hgi
 have HW:=Lib.hid hw1
 obtain ⟨R,hR⟩:∃ R,R=risF 0 P:=⟨_,rfl⟩
 rw [← hR] at HR1
 have HRv:=Lib.hid hR
 have a0:=k1.cell 0
 simp only [List.getElem?_toArray,List.getElem?_cons_zero] at a0
 rw [hw1,hgi] at a0
 have H0:=Lib.hid hP
 clear hP hU b1 k1 hw1 hgi hR
 cases R with
 | false =>
  have HE:Hid (loadE P vs nx=3):=Lib.hid (if_pos HRv.out.symm)
  go_enter Tryz.func20,Tryz.ntmps20
  go_wp2_with fail
  rw [← HW.out]
  refine HR1.out.mono ?_
  rintro e w2 ⟨rfl,b2⟩
  have HX:Hid (LoadO w P vs nx (.returned (.tuple #[.pointer none,.int .i64 3])) w2):=Lib.hid ⟨bt H1.out.1 b2,.inl ⟨by rw [HE.out]; decide,by rw [HE.out]⟩⟩
  clear b2 a0
  go_wp2
  go_returns
  exact HX.out
 | true =>
  obtain ⟨nn,hnn⟩:∃ nn,nn=loadN nx q':=⟨_,rfl⟩
  have hcase:(nx=0∧q'=0∧nn=1)∨(nx=0∧0 < q'∧nn=nx)∨(nx≠0∧nn=nx):=by
   rw [hnn]; unfold loadN
   by_cases e1:nx=0
   ·by_cases e2:q'=0
    ·exact .inl ⟨e1,e2,if_pos ⟨e1,e2⟩⟩
    ·exact .inr (.inl ⟨e1,by omega,if_neg (fun h => e2 h.2)⟩)
   ·exact .inr (.inr ⟨e1,if_neg (fun h => e1 h.1)⟩)
  rcases hcase with ⟨h0,h1,hn1⟩ | ⟨h0,h1,hn1⟩ | ⟨h0,hn1⟩
  ·subst h0 h1
   have HNn:=Lib.hid hn1
   have HE:Hid (loadE P vs 0=(Qu.loadM (Qu.QS.zero anyB) vs (loadN 0 0)).1):=Lib.hid (by rw [hq'.out]; exact if_neg (by rw [← HRv.out]; simp))
   have HS:Hid (loadS vs 0={ RS.zero anyB with Q:=(Qu.loadM (Qu.QS.zero anyB) vs (loadN 0 0)).2 }):=Lib.hid (by rw [hq'.out]; rfl)
   rw [← hnn] at HE HS
   clear hn1 hnn
   obtain ⟨L,hL⟩:∃ L,L=Qu.loadM (Qu.QS.zero anyB) vs nn:=⟨_,rfl⟩
   rw [← hL] at HE HS
   have HL:=Lib.hid hL
   obtain ⟨er,Q1⟩:=L
   dsimp only at HE HS
   clear hL
   go_enter Tryz.func20,Tryz.ntmps20
   go_wp2_with fail
   rw [← HW.out]
   refine HR1.out.mono ?_
   rintro e w2 ⟨rfl,b2⟩
   have H2:=Lib.hid (And.intro (bt H1.out.1 b2) (And.intro (H1.out.2.1.below b2 H1.out.2.1.lt) (And.intro (H1.out.2.2.1.below b2) (H1.out.2.2.2.below b2))))
   have c1:=H2.out.2.1.cell 1
   have c2:=H2.out.2.1.cell 2
   simp only [List.getElem?_toArray,List.getElem?_cons_zero,List.getElem?_cons_succ] at c1 c2
   rw [HG.out] at c1 c2
   clear b2 a0
   go_wp2_with fail
   refine (newres_any anyB w2).mono ?_
   rintro e w3 ⟨rfl,⟨cs,hz⟩,b3⟩
   obtain ⟨g,hg⟩:∃ g,g=w2.heap.size:=⟨_,rfl⟩
   rw [← hg] at hz ⊢
   have H3:=Lib.hid (And.intro (bt H2.out.1 b3) (And.intro (H2.out.2.1.below b3 H2.out.2.1.lt) (And.intro (H2.out.2.2.1.below b3) (And.intro (H2.out.2.2.2.below b3) (And.intro hz (And.intro hg H2.out.1))))))
   have HLd:Hid (∀ u,Below w3.heap.size w3 u→Calls Tryz.prog 54 #[.pointer (some ⟨g,34,none⟩),.slice A' 0 c',.int .i64 nn] u fun e w' => e=.returned (.int .i64 er)∧Qu.QO u g 34 102 cs Q1 0 w'):=Lib.hid fun u hu => by
    have:=Qu.load_any g 34 102 cs (Qu.QS.zero anyB) 0 A' vs 0 c' nn u (H3.out.2.2.2.2.1.below hu).qu hq' (H3.out.2.2.2.1.below hu)
    rw [← HL.out] at this
    exact this
   have d1:=H3.out.2.1.cell 1
   simp only [List.getElem?_toArray,List.getElem?_cons_zero,List.getElem?_cons_succ] at d1
   rw [HG.out] at d1
   clear hz hg b3 c1 c2
   rw [HNn.out] at HLd
   go_wp2_with fail
   go_region_with (go_simp; go_at_call 54; refine (HLd.out _ (by first | exact Below.refl _ _ | exact ⟨rfl,rfl,rfl,Nat.le_refl _,fun _ _ => rfl⟩)).mono ?_; rintro e w4 ⟨rfl,hQO⟩)
   all_goals
    have bd:Below w3.heap.size w3 w3.drew:=⟨rfl,rfl,rfl,Nat.le_refl _,fun _ _ => rfl⟩
    have hRO:ResO w3.drew g (loadS vs 0) 0 w4:=by rw [HS.out]; exact (H3.out.2.2.2.2.1.below bd).qturn (by first | exact hQO | exact hQO) (Nat.le_refl _)
    obtain ⟨⟨cs4,hr4⟩,hg4⟩:=hRO
    have hgl:w.heap.size≤g:=by rw [H3.out.2.2.2.2.2.1]; exact H2.out.1.size
    have hgi:gi≠g:=fun e => by have h1:=H2.out.2.1.lt; have h2:=H3.out.2.2.2.2.2.1; omega
    have b4:Below w.heap.size w w4:=(bt H3.out.1 bd).grown hg4 (bt H3.out.1 bd).size (fun r e => by cases e; exact hgl)
    have k4:=(H3.out.2.1.below bd H3.out.2.1.lt).kept hg4 (fun e => hgi (Option.some.inj e))
    have z0:=k4.cell 0
    simp only [List.getElem?_toArray,List.getElem?_cons_zero] at z0
    rw [HG.out] at z0
    have H4:Hid (∃ cs,ResAt w4 g cs (putsR (loadS vs 0) (P.take 0)) 0∧Below w.heap.size w w4):=Lib.hid ⟨cs4,hr4,b4⟩
    have Hgl:=Lib.hid hgl
    clear bd hr4 hg4 hgl hgi b4 k4 hQO d1
    by_cases he:er=0
    ·subst he
     go_wp2_with fail
     go_loopw [37] (fun iv wr => ∃ i:Nat,i≤q∧iv=.int .i64 i∧Hid (∃ cs,ResAt wr g cs (putsR (loadS vs 0) (P.take i)) i∧Below w.heap.size w wr)) (fun iv _ => q - (intOf iv).toNat)
     case atStart => exact ⟨0,Nat.zero_le _,rfl,H4⟩
     case round =>
      clear H4 z0
      obtain ⟨i,hi,rfl,HR⟩:=hrel
      obtain ⟨cs5,h5,b5⟩:=HR.out
      by_cases hin:i < q
      ·have hiI:(i:Int) < (q:Int):=by omega
       have hil:i < P.length:=by rw [← hq.out]; exact hin
       obtain ⟨b,o,hA,_,hcs⟩:=(H0.out.below b5) (by omega)
       obtain ⟨q0,q1⟩:=hcs i hil
       have hsn:=putsR_snoc (loadS vs 0) P i hil
       have hkb:=risF_all P 0 (Int.le_refl _) HRv.out.symm _ (List.getElem_mem hil)
       generalize P[i]'hil=y at q0 q1 hsn hkb
       obtain ⟨yk,yv⟩:=y
       dsimp only at q0 q1 hsn hkb
       obtain ⟨w5,hw5⟩:∃ w5,w5=wr.alloc (.cells #[.int .i64 yk,.int .u64 (yv:Nat)] 85):=⟨_,rfl⟩
       have ba5:Below wr.heap.size wr w5:=by rw [hw5]; exact ba _ _
       have hp:=Lib.hid (resput_any g cs5 _ i 1 yk yv w5 (h5.below ba5) (by omega) (small_ok _ (by omega) (by omega)) (small_ok _ (by omega) (by omega)) (fun b _ => by rw [(putsR_B _ _).1]; trivial))
       have HB5:=Lib.hid (bt b5 ba5)
       have HW5:=Lib.hid hw5
       have HSn:=Lib.hid hsn
       subst hA
       clear hcs hil hsn hkb h5 b5 hw5 ba5 HR
       go_wp2_with fail
       rw [← HW5.out]
       refine hp.out.mono ?_
       rintro e w6 ⟨rfl,⟨⟨cs6,h6⟩,hg6⟩⟩
       have HN:Hid (∃ cs,ResAt w6 g cs (putsR (loadS vs 0) (P.take (i + 1))) (i + 1)∧Below w.heap.size w w6):=Lib.hid ⟨cs6,by rw [HSn.out]; exact h6,HB5.out.grown hg6 HB5.out.size (fun r e => by cases e; exact Hgl.out)⟩
       clear h6 hg6 q0 q1
       go_wp2
       go_roundw
       case rel => exact ⟨i + 1,by omega,by go_num,HN⟩
       case measure => simp [intOf]; omega
      ·have hiI:¬ (i:Int) < (q:Int):=by omega
       have hjj:P.take i=P:=List.take_of_length_le (by rw [← hq.out]; omega)
       rw [hjj] at h5
       have hc:=Lib.hid (rescommit_any g cs5 _ i 1 wr h5 (by rw [(putsR_B _ _).2]; exact (Qu.QOk.zero anyB).load vs _) (by omega) (small_ok _ (by omega) (by omega)))
       have HB5:=Lib.hid b5
       clear hjj h5 b5 HR
       go_wp2_with fail
       refine hc.out.mono ?_
       rintro e w6 ⟨rfl,⟨⟨cs6,h6⟩,hg6⟩⟩
       have HX:Hid (LoadO w P vs 0 (.returned (.tuple #[.pointer (some ⟨g,0,none⟩),.int .i64 0])) w6):=Lib.hid ⟨HB5.out.grown hg6 HB5.out.size (fun r e => by cases e; exact Hgl.out),.inr ⟨HE.out,g,cs6,rfl,Hgl.out,h6.more (by omega)⟩⟩
       clear h6 hg6
       go_wp2
       go_returns
       exact HX.out
    ·have heb:(er != 0)=true:=by simpa using he
     have HX:Hid (LoadO w P vs 0 (.returned (.tuple #[.pointer none,.int .i64 er])) w4):=Lib.hid ⟨H4.out.choose_spec.2,.inl ⟨by rw [HE.out]; exact he,by rw [HE.out]⟩⟩
     clear he H4 z0
     go_wp2
     go_returns
     exact HX.out
  ·subst h0
   have hq0:((q':Int) == 0)=false:=beq_eq_false_iff_ne.2 (by omega)
   have HNn:=Lib.hid hn1
   have HE:Hid (loadE P vs 0=(Qu.loadM (Qu.QS.zero anyB) vs (loadN 0 q')).1):=Lib.hid (by rw [hq'.out]; exact if_neg (by rw [← HRv.out]; simp))
   have HS:Hid (loadS vs 0={ RS.zero anyB with Q:=(Qu.loadM (Qu.QS.zero anyB) vs (loadN 0 q')).2 }):=Lib.hid (by rw [hq'.out]; rfl)
   rw [← hnn] at HE HS
   clear hn1 hnn
   obtain ⟨L,hL⟩:∃ L,L=Qu.loadM (Qu.QS.zero anyB) vs nn:=⟨_,rfl⟩
   rw [← hL] at HE HS
   have HL:=Lib.hid hL
   obtain ⟨er,Q1⟩:=L
   dsimp only at HE HS
   clear hL
   go_enter Tryz.func20,Tryz.ntmps20
   go_wp2_with fail
   rw [← HW.out]
   refine HR1.out.mono ?_
   rintro e w2 ⟨rfl,b2⟩
   have H2:=Lib.hid (And.intro (bt H1.out.1 b2) (And.intro (H1.out.2.1.below b2 H1.out.2.1.lt) (And.intro (H1.out.2.2.1.below b2) (H1.out.2.2.2.below b2))))
   have c1:=H2.out.2.1.cell 1
   have c2:=H2.out.2.1.cell 2
   simp only [List.getElem?_toArray,List.getElem?_cons_zero,List.getElem?_cons_succ] at c1 c2
   rw [HG.out] at c1 c2
   clear b2 a0
   go_wp2_with fail
   refine (newres_any anyB w2).mono ?_
   rintro e w3 ⟨rfl,⟨cs,hz⟩,b3⟩
   obtain ⟨g,hg⟩:∃ g,g=w2.heap.size:=⟨_,rfl⟩
   rw [← hg] at hz ⊢
   have H3:=Lib.hid (And.intro (bt H2.out.1 b3) (And.intro (H2.out.2.1.below b3 H2.out.2.1.lt) (And.intro (H2.out.2.2.1.below b3) (And.intro (H2.out.2.2.2.below b3) (And.intro hz (And.intro hg H2.out.1))))))
   have HLd:Hid (∀ u,Below w3.heap.size w3 u→Calls Tryz.prog 54 #[.pointer (some ⟨g,34,none⟩),.slice A' q' c',.int .i64 nn] u fun e w' => e=.returned (.int .i64 er)∧Qu.QO u g 34 102 cs Q1 0 w'):=Lib.hid fun u hu => by
    have:=Qu.load_any g 34 102 cs (Qu.QS.zero anyB) 0 A' vs q' c' nn u (H3.out.2.2.2.2.1.below hu).qu hq' (H3.out.2.2.2.1.below hu)
    rw [← HL.out] at this
    exact this
   have d1:=H3.out.2.1.cell 1
   simp only [List.getElem?_toArray,List.getElem?_cons_zero,List.getElem?_cons_succ] at d1
   rw [HG.out] at d1
   clear hz hg b3 c1 c2
   rw [HNn.out] at HLd
   go_wp2_with fail
   go_region_with (go_simp; go_at_call 54; refine (HLd.out _ (by first | exact Below.refl _ _ | exact ⟨rfl,rfl,rfl,Nat.le_refl _,fun _ _ => rfl⟩)).mono ?_; rintro e w4 ⟨rfl,hQO⟩)
   all_goals
    have bd:Below w3.heap.size w3 w3.drew:=⟨rfl,rfl,rfl,Nat.le_refl _,fun _ _ => rfl⟩
    have hRO:ResO w3.drew g (loadS vs 0) 0 w4:=by rw [HS.out]; exact (H3.out.2.2.2.2.1.below bd).qturn (by first | exact hQO | exact hQO) (Nat.le_refl _)
    obtain ⟨⟨cs4,hr4⟩,hg4⟩:=hRO
    have hgl:w.heap.size≤g:=by rw [H3.out.2.2.2.2.2.1]; exact H2.out.1.size
    have hgi:gi≠g:=fun e => by have h1:=H2.out.2.1.lt; have h2:=H3.out.2.2.2.2.2.1; omega
    have b4:Below w.heap.size w w4:=(bt H3.out.1 bd).grown hg4 (bt H3.out.1 bd).size (fun r e => by cases e; exact hgl)
    have k4:=(H3.out.2.1.below bd H3.out.2.1.lt).kept hg4 (fun e => hgi (Option.some.inj e))
    have z0:=k4.cell 0
    simp only [List.getElem?_toArray,List.getElem?_cons_zero] at z0
    rw [HG.out] at z0
    have H4:Hid (∃ cs,ResAt w4 g cs (putsR (loadS vs 0) (P.take 0)) 0∧Below w.heap.size w w4):=Lib.hid ⟨cs4,hr4,b4⟩
    have Hgl:=Lib.hid hgl
    clear bd hr4 hg4 hgl hgi b4 k4 hQO d1
    by_cases he:er=0
    ·subst he
     go_wp2_with fail
     go_loopw [37] (fun iv wr => ∃ i:Nat,i≤q∧iv=.int .i64 i∧Hid (∃ cs,ResAt wr g cs (putsR (loadS vs 0) (P.take i)) i∧Below w.heap.size w wr)) (fun iv _ => q - (intOf iv).toNat)
     case atStart => exact ⟨0,Nat.zero_le _,rfl,H4⟩
     case round =>
      clear H4 z0
      obtain ⟨i,hi,rfl,HR⟩:=hrel
      obtain ⟨cs5,h5,b5⟩:=HR.out
      by_cases hin:i < q
      ·have hiI:(i:Int) < (q:Int):=by omega
       have hil:i < P.length:=by rw [← hq.out]; exact hin
       obtain ⟨b,o,hA,_,hcs⟩:=(H0.out.below b5) (by omega)
       obtain ⟨q0,q1⟩:=hcs i hil
       have hsn:=putsR_snoc (loadS vs 0) P i hil
       have hkb:=risF_all P 0 (Int.le_refl _) HRv.out.symm _ (List.getElem_mem hil)
       generalize P[i]'hil=y at q0 q1 hsn hkb
       obtain ⟨yk,yv⟩:=y
       dsimp only at q0 q1 hsn hkb
       obtain ⟨w5,hw5⟩:∃ w5,w5=wr.alloc (.cells #[.int .i64 yk,.int .u64 (yv:Nat)] 85):=⟨_,rfl⟩
       have ba5:Below wr.heap.size wr w5:=by rw [hw5]; exact ba _ _
       have hp:=Lib.hid (resput_any g cs5 _ i 1 yk yv w5 (h5.below ba5) (by omega) (small_ok _ (by omega) (by omega)) (small_ok _ (by omega) (by omega)) (fun b _ => by rw [(putsR_B _ _).1]; trivial))
       have HB5:=Lib.hid (bt b5 ba5)
       have HW5:=Lib.hid hw5
       have HSn:=Lib.hid hsn
       subst hA
       clear hcs hil hsn hkb h5 b5 hw5 ba5 HR
       go_wp2_with fail
       rw [← HW5.out]
       refine hp.out.mono ?_
       rintro e w6 ⟨rfl,⟨⟨cs6,h6⟩,hg6⟩⟩
       have HN:Hid (∃ cs,ResAt w6 g cs (putsR (loadS vs 0) (P.take (i + 1))) (i + 1)∧Below w.heap.size w w6):=Lib.hid ⟨cs6,by rw [HSn.out]; exact h6,HB5.out.grown hg6 HB5.out.size (fun r e => by cases e; exact Hgl.out)⟩
       clear h6 hg6 q0 q1
       go_wp2
       go_roundw
       case rel => exact ⟨i + 1,by omega,by go_num,HN⟩
       case measure => simp [intOf]; omega
      ·have hiI:¬ (i:Int) < (q:Int):=by omega
       have hjj:P.take i=P:=List.take_of_length_le (by rw [← hq.out]; omega)
       rw [hjj] at h5
       have hc:=Lib.hid (rescommit_any g cs5 _ i 1 wr h5 (by rw [(putsR_B _ _).2]; exact (Qu.QOk.zero anyB).load vs _) (by omega) (small_ok _ (by omega) (by omega)))
       have HB5:=Lib.hid b5
       clear hjj h5 b5 HR
       go_wp2_with fail
       refine hc.out.mono ?_
       rintro e w6 ⟨rfl,⟨⟨cs6,h6⟩,hg6⟩⟩
       have HX:Hid (LoadO w P vs 0 (.returned (.tuple #[.pointer (some ⟨g,0,none⟩),.int .i64 0])) w6):=Lib.hid ⟨HB5.out.grown hg6 HB5.out.size (fun r e => by cases e; exact Hgl.out),.inr ⟨HE.out,g,cs6,rfl,Hgl.out,h6.more (by omega)⟩⟩
       clear h6 hg6
       go_wp2
       go_returns
       exact HX.out
    ·have heb:(er != 0)=true:=by simpa using he
     have HX:Hid (LoadO w P vs 0 (.returned (.tuple #[.pointer none,.int .i64 er])) w4):=Lib.hid ⟨H4.out.choose_spec.2,.inl ⟨by rw [HE.out]; exact he,by rw [HE.out]⟩⟩
     clear he H4 z0
     go_wp2
     go_returns
     exact HX.out
  ·have hx0:(nx == 0)=false:=beq_eq_false_iff_ne.2 h0
   clear h0
   have HNn:=Lib.hid hn1
   have HE:Hid (loadE P vs nx=(Qu.loadM (Qu.QS.zero anyB) vs (loadN nx q')).1):=Lib.hid (by rw [hq'.out]; exact if_neg (by rw [← HRv.out]; simp))
   have HS:Hid (loadS vs nx={ RS.zero anyB with Q:=(Qu.loadM (Qu.QS.zero anyB) vs (loadN nx q')).2 }):=Lib.hid (by rw [hq'.out]; rfl)
   rw [← hnn] at HE HS
   clear hn1 hnn
   obtain ⟨L,hL⟩:∃ L,L=Qu.loadM (Qu.QS.zero anyB) vs nn:=⟨_,rfl⟩
   rw [← hL] at HE HS
   have HL:=Lib.hid hL
   obtain ⟨er,Q1⟩:=L
   dsimp only at HE HS
   clear hL
   go_enter Tryz.func20,Tryz.ntmps20
   go_wp2_with fail
   rw [← HW.out]
   refine HR1.out.mono ?_
   rintro e w2 ⟨rfl,b2⟩
   have H2:=Lib.hid (And.intro (bt H1.out.1 b2) (And.intro (H1.out.2.1.below b2 H1.out.2.1.lt) (And.intro (H1.out.2.2.1.below b2) (H1.out.2.2.2.below b2))))
   have c1:=H2.out.2.1.cell 1
   have c2:=H2.out.2.1.cell 2
   simp only [List.getElem?_toArray,List.getElem?_cons_zero,List.getElem?_cons_succ] at c1 c2
   rw [HG.out] at c1 c2
   clear b2 a0
   go_wp2_with fail
   refine (newres_any anyB w2).mono ?_
   rintro e w3 ⟨rfl,⟨cs,hz⟩,b3⟩
   obtain ⟨g,hg⟩:∃ g,g=w2.heap.size:=⟨_,rfl⟩
   rw [← hg] at hz ⊢
   have H3:=Lib.hid (And.intro (bt H2.out.1 b3) (And.intro (H2.out.2.1.below b3 H2.out.2.1.lt) (And.intro (H2.out.2.2.1.below b3) (And.intro (H2.out.2.2.2.below b3) (And.intro hz (And.intro hg H2.out.1))))))
   have HLd:Hid (∀ u,Below w3.heap.size w3 u→Calls Tryz.prog 54 #[.pointer (some ⟨g,34,none⟩),.slice A' q' c',.int .i64 nn] u fun e w' => e=.returned (.int .i64 er)∧Qu.QO u g 34 102 cs Q1 0 w'):=Lib.hid fun u hu => by
    have:=Qu.load_any g 34 102 cs (Qu.QS.zero anyB) 0 A' vs q' c' nn u (H3.out.2.2.2.2.1.below hu).qu hq' (H3.out.2.2.2.1.below hu)
    rw [← HL.out] at this
    exact this
   have d1:=H3.out.2.1.cell 1
   simp only [List.getElem?_toArray,List.getElem?_cons_zero,List.getElem?_cons_succ] at d1
   rw [HG.out] at d1
   clear hz hg b3 c1 c2
   rw [HNn.out] at HLd
   go_wp2_with fail
   go_region_with (go_simp; go_at_call 54; refine (HLd.out _ (by first | exact Below.refl _ _ | exact ⟨rfl,rfl,rfl,Nat.le_refl _,fun _ _ => rfl⟩)).mono ?_; rintro e w4 ⟨rfl,hQO⟩)
   all_goals
    have bd:Below w3.heap.size w3 w3.drew:=⟨rfl,rfl,rfl,Nat.le_refl _,fun _ _ => rfl⟩
    have hRO:ResO w3.drew g (loadS vs nx) 0 w4:=by rw [HS.out]; exact (H3.out.2.2.2.2.1.below bd).qturn (by first | exact hQO | exact hQO) (Nat.le_refl _)
    obtain ⟨⟨cs4,hr4⟩,hg4⟩:=hRO
    have hgl:w.heap.size≤g:=by rw [H3.out.2.2.2.2.2.1]; exact H2.out.1.size
    have hgi:gi≠g:=fun e => by have h1:=H2.out.2.1.lt; have h2:=H3.out.2.2.2.2.2.1; omega
    have b4:Below w.heap.size w w4:=(bt H3.out.1 bd).grown hg4 (bt H3.out.1 bd).size (fun r e => by cases e; exact hgl)
    have k4:=(H3.out.2.1.below bd H3.out.2.1.lt).kept hg4 (fun e => hgi (Option.some.inj e))
    have z0:=k4.cell 0
    simp only [List.getElem?_toArray,List.getElem?_cons_zero] at z0
    rw [HG.out] at z0
    have H4:Hid (∃ cs,ResAt w4 g cs (putsR (loadS vs nx) (P.take 0)) 0∧Below w.heap.size w w4):=Lib.hid ⟨cs4,hr4,b4⟩
    have Hgl:=Lib.hid hgl
    clear bd hr4 hg4 hgl hgi b4 k4 hQO d1
    by_cases he:er=0
    ·subst he
     go_wp2_with fail
     go_loopw [37] (fun iv wr => ∃ i:Nat,i≤q∧iv=.int .i64 i∧Hid (∃ cs,ResAt wr g cs (putsR (loadS vs nx) (P.take i)) i∧Below w.heap.size w wr)) (fun iv _ => q - (intOf iv).toNat)
     case atStart => exact ⟨0,Nat.zero_le _,rfl,H4⟩
     case round =>
      clear H4 z0
      obtain ⟨i,hi,rfl,HR⟩:=hrel
      obtain ⟨cs5,h5,b5⟩:=HR.out
      by_cases hin:i < q
      ·have hiI:(i:Int) < (q:Int):=by omega
       have hil:i < P.length:=by rw [← hq.out]; exact hin
       obtain ⟨b,o,hA,_,hcs⟩:=(H0.out.below b5) (by omega)
       obtain ⟨q0,q1⟩:=hcs i hil
       have hsn:=putsR_snoc (loadS vs nx) P i hil
       have hkb:=risF_all P 0 (Int.le_refl _) HRv.out.symm _ (List.getElem_mem hil)
       generalize P[i]'hil=y at q0 q1 hsn hkb
       obtain ⟨yk,yv⟩:=y
       dsimp only at q0 q1 hsn hkb
       obtain ⟨w5,hw5⟩:∃ w5,w5=wr.alloc (.cells #[.int .i64 yk,.int .u64 (yv:Nat)] 85):=⟨_,rfl⟩
       have ba5:Below wr.heap.size wr w5:=by rw [hw5]; exact ba _ _
       have hp:=Lib.hid (resput_any g cs5 _ i 1 yk yv w5 (h5.below ba5) (by omega) (small_ok _ (by omega) (by omega)) (small_ok _ (by omega) (by omega)) (fun b _ => by rw [(putsR_B _ _).1]; trivial))
       have HB5:=Lib.hid (bt b5 ba5)
       have HW5:=Lib.hid hw5
       have HSn:=Lib.hid hsn
       subst hA
       clear hcs hil hsn hkb h5 b5 hw5 ba5 HR
       go_wp2_with fail
       rw [← HW5.out]
       refine hp.out.mono ?_
       rintro e w6 ⟨rfl,⟨⟨cs6,h6⟩,hg6⟩⟩
       have HN:Hid (∃ cs,ResAt w6 g cs (putsR (loadS vs nx) (P.take (i + 1))) (i + 1)∧Below w.heap.size w w6):=Lib.hid ⟨cs6,by rw [HSn.out]; exact h6,HB5.out.grown hg6 HB5.out.size (fun r e => by cases e; exact Hgl.out)⟩
       clear h6 hg6 q0 q1
       go_wp2
       go_roundw
       case rel => exact ⟨i + 1,by omega,by go_num,HN⟩
       case measure => simp [intOf]; omega
      ·have hiI:¬ (i:Int) < (q:Int):=by omega
       have hjj:P.take i=P:=List.take_of_length_le (by rw [← hq.out]; omega)
       rw [hjj] at h5
       have hc:=Lib.hid (rescommit_any g cs5 _ i 1 wr h5 (by rw [(putsR_B _ _).2]; exact (Qu.QOk.zero anyB).load vs _) (by omega) (small_ok _ (by omega) (by omega)))
       have HB5:=Lib.hid b5
       clear hjj h5 b5 HR
       go_wp2_with fail
       refine hc.out.mono ?_
       rintro e w6 ⟨rfl,⟨⟨cs6,h6⟩,hg6⟩⟩
       have HX:Hid (LoadO w P vs nx (.returned (.tuple #[.pointer (some ⟨g,0,none⟩),.int .i64 0])) w6):=Lib.hid ⟨HB5.out.grown hg6 HB5.out.size (fun r e => by cases e; exact Hgl.out),.inr ⟨HE.out,g,cs6,rfl,Hgl.out,h6.more (by omega)⟩⟩
       clear h6 hg6
       go_wp2
       go_returns
       exact HX.out
    ·have heb:(er != 0)=true:=by simpa using he
     have HX:Hid (LoadO w P vs nx (.returned (.tuple #[.pointer none,.int .i64 er])) w4):=Lib.hid ⟨H4.out.choose_spec.2,.inl ⟨by rw [HE.out]; exact he,by rw [HE.out]⟩⟩
     clear he H4 z0
     go_wp2
     go_returns
     exact HX.out
end Go.Proofs.YtlliaihmfimdoaaGreat.Re


namespace Go.Proofs.YtlliaihmfimdoaaGreat.Re
open Go.RowKit Go.Maps Go.Proofs.YtlliaihmfimdoaaGreat
def rowL (n:Int) (l:List Ch):List LRow:=l.map fun x => (x.y,n,true)
theorem rowL_app (n:Int) (l r:List Ch):rowL n (l ++ r)=rowL n l ++ rowL n r:=List.map_append
theorem take_row {n y:Int} {l:List Ch} (hd:∀ z ∈ l,z.y≠y) (hl:l.length < 64):takeL (rowL n l) n y true=(0,rowL n l ++ [(y,n,true)]):=by
 have hc:clashL (rowL n l) y n true=false:=by
  unfold clashL
  rw [List.any_eq_false]
  intro x hx
  obtain ⟨z,hz,rfl⟩:=List.mem_map.1 hx
  simp
 have hh:heldL (rowL n l) y n=false:=by
  unfold heldL
  rw [List.any_eq_false]
  intro x hx
  obtain ⟨z,hz,rfl⟩:=List.mem_map.1 hx
  unfold atB
  have:=hd z hz
  simp [this]
 unfold takeL
 rw [hc,if_neg (by simp),if_neg (by unfold rowL; rw [List.length_map]; omega)]
 unfold putL
 rw [hh,if_neg (by simp),Bool.or_true]
theorem drop_row (n:Int) (l:List Ch):dropL (rowL n l) n=[]:=by
 unfold dropL
 rw [List.filter_eq_nil_iff]
 intro x hx
 obtain ⟨z,hz,rfl⟩:=List.mem_map.1 hx
 simp
def zeroV:Nat→Nat × Bool:=fun _ => (0,false)
def Tl (l:List Ch):KS:=⟨anyB,zeroV,fun j => if j=1 then (if l.isEmpty then none else some (l,false)) else none,rowL 1 l⟩
def T0 (V:Nat→Nat × Bool):KS:=⟨anyB,V,fun _ => none,[]⟩
theorem Tl_cur (l:List Ch):curW (Tl l) 1=(l,false):=by
 unfold curW Tl
 rcases l with _ | ⟨x,l⟩ <;> rfl
theorem with_new {l:List Ch} {x:Ch} (hd:∀ z ∈ l,z.y≠x.y):withL l x=l ++ [x]:=by
 unfold withL
 rw [if_neg]
 intro hlt
 have:=List.findIdx_getElem (p:=fun z:Ch => decide (z.y=x.y)) (xs:=l) (w:=hlt)
 exact hd _ (List.getElem_mem hlt) (by unfold posN; simpa using this)
theorem change_Tl {l:List Ch} {x:Ch} (hk:keyB x.y=true) (hd:∀ z ∈ l,z.y≠x.y) (hl:l.length < 64):changeM (Tl l) 1 x=(0,Tl (l ++ [x])):=by
 have ho:openM (Tl l) 1 x.y true=(0,{ Tl l with L:=rowL 1 (l ++ [x]) }):=by
  unfold openM
  rw [if_neg (by rw [hk]; simp),Tl_cur,if_neg (by simp)]
  show ((takeL (rowL 1 l) 1 x.y true).1,{ Tl l with L:=(takeL (rowL 1 l) 1 x.y true).2 })=_
  rw [take_row hd hl,rowL_app]
  rfl
 unfold changeM
 rw [ho,if_pos rfl,Tl_cur,with_new hd]
 have hW:updW (Tl l).W 1 (some (l ++ [x],false))=(Tl (l ++ [x])).W:=by
  funext j
  unfold updW Tl
  dsimp only
  split
  ·rw [if_neg (by simp)]
  ·rfl
 unfold Tl at hW ⊢
 dsimp only at hW ⊢
 rw [hW]
theorem commit_Tl (l:List Ch):commitM (Tl l) 1=(0,T0 (l.foldl setV zeroV)):=by
 unfold commitM
 rw [if_neg (by omega),Tl_cur]
 have hW:updW (Tl l).W 1 none=fun _ => none:=by
  funext j
  unfold updW Tl
  dsimp only
  split
  ·rfl
  ·rfl
 unfold dropM T0
 dsimp only
 rw [hW]
 show (0,KS.mk anyB (l.foldl setV zeroV) (fun _ => none) (dropL (rowL 1 l) 1))=_
 rw [drop_row]
def listV (V:Nat→Nat × Bool) (j:Nat):List Ch:=((List.range j).filter fun k => (V k).2).map fun (k:Nat) => ⟨1,(k:Int),(V k).1⟩
theorem listV_yes {V:Nat→Nat × Bool} {j:Nat} (h:(V j).2=true):listV V (j + 1)=listV V j ++ [⟨1,(j:Int),(V j).1⟩]:=by
 unfold listV
 rw [List.range_succ,List.filter_append,List.filter_cons_of_pos (by simpa using h),List.map_append]
 rfl
theorem listV_no {V:Nat→Nat × Bool} {j:Nat} (h:(V j).2=false):listV V (j + 1)=listV V j:=by
 unfold listV
 rw [List.range_succ,List.filter_append,List.filter_cons_of_neg (by simp [h])]
 simp
theorem listV_mem {V:Nat→Nat × Bool} {j:Nat} {z:Ch} (h:z ∈ listV V j):z.y < (j:Int):=by
 unfold listV at h
 obtain ⟨k,hk,rfl⟩:=List.mem_map.1 h
 have:=List.mem_range.1 (List.mem_filter.1 hk).1
 show (k:Int) < _
 omega
theorem listV_len (V:Nat→Nat × Bool) (j:Nat):(listV V j).length≤j:=by
 unfold listV
 rw [List.length_map]
 exact Nat.le_trans (List.length_filter_le _ _) (by rw [List.length_range]; exact Nat.le_refl _)
theorem change_listV {V:Nat→Nat × Bool} {j:Nat} (hj:j < 16) (h:(V j).2=true):changeM (Tl (listV V j)) 1 ⟨1,(j:Int),(V j).1⟩=(0,Tl (listV V (j + 1))):=by
 rw [listV_yes h]
 refine change_Tl ?_ (fun z hz => ?_) ?_
 ·unfold keyB; simp; omega
 ·have:=listV_mem hz
  show z.y≠(j:Int)
  omega
 ·have:=listV_len V j; omega
theorem fold_listV (V:Nat→Nat × Bool):∀ (j k:Nat),((listV V j).foldl setV zeroV) k=if k < j∧(V k).2=true then ((V k).1,true) else (0,false)
 | 0,k => by rw [if_neg (by omega)]; rfl
 | j + 1,k => by
  rcases h:(V j).2 with _ | _
  ·rw [listV_no h,fold_listV V j k]
   by_cases hk:k < j∧(V k).2=true
   ·rw [if_pos hk,if_pos ⟨by omega,hk.2⟩]
   ·rw [if_neg hk,if_neg]
    rintro ⟨h1,h2⟩
    have:k=j:=Decidable.byContradiction fun e => hk ⟨by omega,h2⟩
    rw [this,h] at h2
    cases h2
  ·rw [listV_yes h,List.foldl_append,List.foldl_cons,List.foldl_nil]
   show (if k=((j:Int)).toNat then ((V j).1,(1:Int) == 1) else ((listV V j).foldl setV zeroV) k)=_
   rw [Int.toNat_natCast]
   by_cases e:k=j
   ·subst e
    rw [if_pos rfl,if_pos ⟨by omega,h⟩]
    rfl
   ·rw [if_neg e,fold_listV V j k]
    by_cases hk:k < j∧(V k).2=true
    ·rw [if_pos hk,if_pos ⟨by omega,hk.2⟩]
    ·rw [if_neg hk,if_neg]
     rintro ⟨h1,h2⟩
     exact hk ⟨by omega,h2⟩
end Go.Proofs.YtlliaihmfimdoaaGreat.Re


namespace Go.Proofs.YtlliaihmfimdoaaGreat.Dr
open Go.RowKit Go.Maps Go.Joins Go.Deep Go.Proofs.YtlliaihmfimdoaaGreat
theorem ris_pw:∀ (P:List (Int × Nat)) (lo:Int),0≤lo→Re.risF lo P=true→P.Pairwise fun a b => a.1 < b.1
 | [],_,_,_ => List.Pairwise.nil
 | p :: r,lo,h0,h => by
  have hb:=Re.risF_all (p :: r) lo h0 h p (List.mem_cons_self ..)
  unfold Re.risF at h
  by_cases e:p.1 < lo∨16≤p.1
  ·rw [if_pos e] at h; cases h
  ·rw [if_neg e] at h
   refine List.Pairwise.cons (fun b hb2 => ?_) (ris_pw r (p.1 + 1) (by omega) h)
   have:=Re.risF_all r (p.1 + 1) (by omega) h b hb2
   omega
theorem ris_len:∀ (P:List (Int × Nat)) (lo:Int),lo≤16→Re.risF lo P=true→(P.length:Int)≤16 - lo
 | [],lo,h0,_ => by simp; omega
 | p :: r,lo,h0,h => by
  unfold Re.risF at h
  by_cases e:p.1 < lo∨16≤p.1
  ·rw [if_pos e] at h; cases h
  ·rw [if_neg e] at h
   have:=ris_len r (p.1 + 1) (by omega) h
   rw [List.length_cons]
   omega
theorem pok_of {P:List (Int × Nat)} (h:Re.risF 0 P=true):POk P :=
 ⟨fun x hx => by
  have:=Re.risF_all P 0 (Int.le_refl _) h x hx
  unfold keyB
  simp
  omega,(ris_pw P 0 (Int.le_refl _) h).imp fun {a b} hab => by omega⟩
def atP (P:List (Int × Nat)) (k:Int):List (Int × Nat):=match P.find? (fun x => decide (x.1=k)) with | some x => [x] | none => []
theorem below_succ (k:Int):∀ (P:List (Int × Nat)),P.Pairwise (fun a b => a.1 < b.1)→P.filter (fun x => decide (x.1 < k + 1))=P.filter (fun x => decide (x.1 < k)) ++ atP P k
 | [],_ => rfl
 | p :: r,h => by
  rw [List.pairwise_cons] at h
  have ih:=below_succ k r h.2
  have hcons:atP (p :: r) k=if p.1=k then [p] else atP r k:=by
   unfold atP
   rw [List.find?_cons]
   by_cases e:p.1=k
   ·simp [e]
   ·simp [e]
  have hnil:∀ q:Int,k≤p.1→q≤k + 1→r.filter (fun x => decide (x.1 < q))=[]:=fun q hk hq => by
   rw [List.filter_eq_nil_iff]
   intro x hx
   have:=h.1 x hx
   simp
   omega
  rw [hcons]
  by_cases h1:p.1 < k
  ·rw [List.filter_cons_of_pos (by simp; omega),List.filter_cons_of_pos (by simp [h1]),if_neg (by omega),ih]
   rfl
  ·by_cases h2:p.1=k
   ·rw [List.filter_cons_of_pos (by simp; omega),List.filter_cons_of_neg (by simp [h1]),if_pos h2,hnil (k + 1) (by omega) (by omega),hnil k (by omega) (by omega)]
    rfl
   ·rw [List.filter_cons_of_neg (by simp; omega),List.filter_cons_of_neg (by simp [h1]),if_neg h2,ih]
theorem at_val (P:List (Int × Nat)) (k:Int):atP P k=if (valP P k).2=true then [(k,(valP P k).1)] else []:=by
 unfold atP valP
 generalize hf:P.find? (fun x => decide (x.1=k))=r
 cases r with
 | none => rfl
 | some x =>
  have:=List.find?_some hf
  simp at this
  dsimp only
  rw [if_pos rfl,← this]
theorem docP_below {P:List (Int × Nat)} (h:Re.risF 0 P=true):∀ k:Nat,docP P k=P.filter (fun x => decide (x.1 < (k:Int)))
 | 0 => by
  symm
  rw [show docP P 0=[] from rfl,List.filter_eq_nil_iff]
  intro x hx
  have:=Re.risF_all P 0 (Int.le_refl _) h x hx
  simp
  omega
 | k + 1 => by
  have e:((k + 1:Nat):Int)=(k:Int) + 1:=by omega
  rw [e,below_succ _ P (ris_pw P 0 (Int.le_refl _) h),← docP_below h k,at_val]
  rfl
theorem docP_ris {P:List (Int × Nat)} (h:Re.risF 0 P=true):docP P 16=P:=by
 rw [docP_below h,List.filter_eq_self]
 intro x hx
 have:=Re.risF_all P 0 (Int.le_refl _) h x hx
 simp
 omega
theorem valP_not {P:List (Int × Nat)} {k:Int} (h:(valP P k).2=false):valP P k=(0,false):=by
 unfold valP at h ⊢
 split at h
 ·cases h
 ·rfl
def ofP (P:List (Int × Nat)):KS:=⟨anyB,fun k => valP P k,fun _ => none,[]⟩
theorem val_nat (S:KS) (k:Nat) (hk:k < 16):valM S k=S.V k:=by
 unfold valM
 rw [if_pos (by unfold keyB; simp; omega),Int.toNat_natCast]
theorem im_ofP (P:List (Int × Nat)):∀ k,k≤16→Re.imP (ofP P) k=docP P k
 | 0,_ => rfl
 | k + 1,hk => by
  unfold Re.imP docP
  rw [im_ofP P k (by omega),val_nat _ k (by omega)]
  rfl
theorem zero_tl:KS.zero anyB=Re.Tl []:=by
 have hW:(fun _ => none:Int→Option (List Ch × Bool))=fun j => if j=1 then (if ([]:List Ch).isEmpty then none else some ([],false)) else none:=by
  funext j
  split <;> rfl
 show KS.mk anyB (fun _ => (0,false)) (fun _ => none) []=KS.mk anyB Re.zeroV _ (Re.rowL 1 [])
 rw [hW]
 rfl
theorem puts_app (S:Re.RS) (P P':List (Int × Nat)):Re.putsR S (P ++ P')=Re.putsR (Re.putsR S P) P':=by unfold Re.putsR; rw [List.foldl_append]
theorem puts_im (K:KS) (Q:Qu.QS):∀ k,k≤16→Re.putsR ⟨KS.zero anyB,Q,[]⟩ (Re.imP K k)=⟨Re.Tl (Re.listV K.V k),Q,[]⟩
 | 0,_ => by rw [zero_tl]; rfl
 | k + 1,hk => by
  unfold Re.imP
  rw [puts_app,puts_im K Q k (by omega),val_nat K k (by omega)]
  rcases hv:(K.V k).2 with _ | _
  ·rw [if_neg (by simp),Re.listV_no hv]; rfl
  ·rw [if_pos rfl]
   have hc:=Re.change_listV (V:=K.V) (j:=k) (by omega) hv
   show (Re.putR ⟨Re.Tl (Re.listV K.V k),Q,[]⟩ 1 (k:Int) (K.V k).1).2=_
   have ho:Re.openR ⟨Re.Tl (Re.listV K.V k),Q,[]⟩ 1=0:=by unfold Re.openR; rw [if_neg (by omega),if_neg (by simp)]
   unfold Re.putR
   rw [if_neg (by rw [ho]; simp)]
   dsimp only
   rw [hc]
def lodQ (vs:List Nat) (n:Int):Qu.QS:={ Qu.QS.zero anyB with I:=Qu.loadF (n - vs.length) vs,g:=n - 1 }
theorem loadF_t:∀ (l:List Nat) (k:Int),∀ x ∈ Qu.loadF k l,x.t=0
 | [],k,x,hx => nomatch hx
 | v :: r,k,x,hx => by
  unfold Qu.loadF at hx
  rcases List.mem_cons.1 hx with rfl | hx
  ·rfl
  ·exact loadF_t r (k + 1) x hx
theorem lodQ_com (vs:List Nat) (n:Int):(Qu.commitM (lodQ vs n) 1).2=lodQ vs n:=by
 have hk:Qu.keptI (Qu.loadF (n - vs.length) vs) 1=Qu.loadF (n - vs.length) vs:=by
  unfold Qu.keptI
  refine List.filter_eq_self.2 fun x hx => ?_
  rw [loadF_t _ _ x hx]
  rfl
 unfold Qu.commitM
 rw [if_neg (by omega)]
 show ({ Qu.QS.zero anyB with I:=Qu.keptI (Qu.loadF (n - vs.length) vs) 1 ++ [],g:=n - 1 + ((0:Nat):Int),ws:=[] }:Qu.QS)=_
 rw [hk,List.append_nil]
 unfold lodQ
 simp [Qu.QS.zero]
def dloadE (P:List (Int × Nat)) (vs:List Nat) (nx:Int):Int:=if Re.risF 0 P=false then 3 else (Qu.loadR [] [] 0 vs (Re.loadN nx vs.length)).1
theorem load_q (vs:List Nat) (n:Int):(Qu.loadM (Qu.QS.zero anyB) vs n).1=(Qu.loadR [] [] 0 vs n).1∧((Qu.loadR [] [] 0 vs n).1=0→Qu.loadM (Qu.QS.zero anyB) vs n=(0,lodQ vs n)∧Qu.loadR [] [] 0 vs n=(0,Qu.prI (Qu.loadF (n - vs.length) vs),n - 1)):=by
 have e1:Qu.loadM (Qu.QS.zero anyB) vs n=if 16 < vs.length∨n≤vs.length∨4611686018427387904 < n then (1,Qu.QS.zero anyB) else (0,lodQ vs n):=by
  unfold Qu.loadM
  rw [if_neg (by simp [Qu.QS.zero])]
  rfl
 have e2:Qu.loadR [] [] 0 vs n=if 16 < vs.length∨n≤vs.length∨4611686018427387904 < n then (1,[],0) else (0,Qu.prI (Qu.loadF (n - vs.length) vs),n - 1):=by
  unfold Qu.loadR
  exact if_neg (by simp)
 rw [e1,e2]
 split
 ·exact ⟨rfl,fun h => by cases h⟩
 ·exact ⟨rfl,fun _ => ⟨rfl,rfl⟩⟩
theorem dload_e (P:List (Int × Nat)) (vs:List Nat) (nx:Int):Re.loadE P vs nx=dloadE P vs nx:=by
 unfold Re.loadE dloadE
 rw [(load_q vs _).1]
theorem loadR_eq {P:List (Int × Nat)} {vs:List Nat} {nx:Int} (h:dloadE P vs nx=0):Re.loadR P vs nx=⟨Re.T0 ((Re.listV (ofP P).V 16).foldl setV Re.zeroV),lodQ vs (Re.loadN nx vs.length),[]⟩∧Re.risF 0 P=true∧(Qu.loadR [] [] 0 vs (Re.loadN nx vs.length)).1=0:=by
 unfold dloadE at h
 split at h
 ·cases h
 ·rename_i hr
  have hr:Re.risF 0 P=true:=by simpa using hr
  refine ⟨?_,hr,h⟩
  have hq:=((load_q vs _).2 h).1
  unfold Re.loadR Re.loadS
  rw [hq]
  show (Re.commitR (Re.putsR ⟨KS.zero anyB,lodQ vs _,[]⟩ P) 1).2=_
  have hP:Re.imP (ofP P) 16=P:=(im_ofP P 16 (Nat.le_refl _)).trans (docP_ris hr)
  conv => lhs; rw [← hP]
  rw [puts_im _ _ 16 (Nat.le_refl _)]
  unfold Re.commitR
  rw [if_neg (by omega)]
  dsimp only
  rw [Re.commit_Tl,lodQ_com]
  rfl
theorem load_rel {P:List (Int × Nat)} {vs:List Nat} {nx:Int} (h:dloadE P vs nx=0):DRel (Re.loadR P vs nx) P [] (Qu.loadR [] [] 0 vs (Re.loadN nx vs.length)).2.1 [] (Qu.loadR [] [] 0 vs (Re.loadN nx vs.length)).2.2∧Qu.QGood (Re.loadR P vs nx).Q∧(Re.loadR P vs nx).Q.ws=[]∧(Re.loadR P vs nx).K.L=[]∧(∀ b,(Re.loadR P vs nx).K.B b∧(Re.loadR P vs nx).Q.B b)∧P.length≤16:=by
 obtain ⟨e,hr,hq⟩:=loadR_eq h
 obtain ⟨q1,q2⟩:=(load_q vs _).2 hq
 rw [e,q2]
 have hg:=(Qu.QGood.zero anyB).call ⟨6,0,Re.loadN nx vs.length,0,none,[],0,none,vs,0⟩
 have hg2:Qu.QGood (Qu.loadM (Qu.QS.zero anyB) vs (Re.loadN nx vs.length)).2:=hg
 rw [q1] at hg2
 refine ⟨⟨⟨fun k hk => ?_,pok_of hr,LOk.nil,(fun x hx => nomatch hx),fun n _ => ⟨rfl,rfl⟩,(fun n y h => by unfold findW at h; cases h),fun y hy => nomatch hy⟩,⟨rfl,rfl,rfl⟩,fun n => by simp [Re.T0,curW,lodQ,Qu.QS.zero,Qu.curQ,Qu.lookQ,Qu.findQ]⟩,hg2,rfl,rfl,fun b => ⟨trivial,trivial⟩,?_⟩
 ·show ((Re.listV (ofP P).V 16).foldl setV Re.zeroV) k=valP P k
  rw [Re.fold_listV]
  have hV:(ofP P).V k=valP P k:=rfl
  rw [hV]
  by_cases e:(valP P k).2=true
  ·rw [if_pos ⟨hk,e⟩,← e]
  ·rw [if_neg (fun h => e h.2)]
   exact (valP_not (by simpa using e)).symm
 ·have:=ris_len P 0 (by omega) hr
  omega
end Go.Proofs.YtlliaihmfimdoaaGreat.Dr


namespace Go.Proofs.YtlliaihmfimdoaaGreat.Dr
open Go.RowKit Go.Maps Go.Joins Go.Deep Go.Proofs.YtlliaihmfimdoaaGreat
def BW (w wr u:World):Prop:=Below w.heap.size w u∧wr.heap.size≤u.heap.size
theorem BW.below {w wr u u':World} (h:BW w wr u) (hb:Below u.heap.size u u'):BW w wr u':=⟨bt h.1 hb,Nat.le_trans h.2 hb.size⟩
structure RndF (w wr:World) (g x:Nat) (ov:Value) (on:Int) (bz:Bool) (O5 O11 FIN:World→Prop) (ST LST IMG DOC:World→Value→Prop) (EA EB:World→World→Prop):Prop where
 o5:O5 wr
 o11:O11 wr
 mO5:∀ u u',O5 u→Below u.heap.size u u'→O5 u'
 mO11:∀ u u',O11 u→Below u.heap.size u u'→O11 u'
 mO11A:∀ u u',O11 u→EA u u'→O11 u'
 mS:∀ u u' v,ST u v→Below u.heap.size u u'→ST u' v
 mSB:∀ u u' v,ST u v→EB u u'→ST u' v
 mL:∀ u u' v,LST u v→Below u.heap.size u u'→LST u' v
 mF:∀ u u',FIN u→Below u.heap.size u u'→FIN u'
 mI:∀ u u' v,IMG u v→Below u.heap.size u u'→IMG u' v
 mD:∀ u u' v,DOC u v→Below u.heap.size u u'→DOC u' v
 call:∀ u,BW w wr u→O5 u→Calls Tryz.prog 12 #[.pointer (some ⟨g,0,none⟩),ov] u fun e u' => ∃ v,e=.returned v∧ST u' v∧BW w wr u'∧EA u u'
 mod:∀ u v5,BW w wr u→O11 u→ST u v5→Calls Tryz.prog 13 #[.pointer (some ⟨x,0,none⟩),ov] u fun e u' => ∃ v,e=.returned v∧LST u' v∧FIN u'∧BW w wr u'∧EB u u'
 same:∀ u a b,ST u a→LST u b→Calls Tryz.prog 11 #[a,b] u fun e u' => e=.returned (.bool true)∧Below u.heap.size u u'
 busy:∀ u,FIN u→Calls Tryz.prog 14 #[.pointer (some ⟨g,0,none⟩),.int .i64 on] u fun e u' => e=.returned (.bool bz)∧Below u.heap.size u u'
 dbusy:∀ u,FIN u→Calls Tryz.prog 15 #[.pointer (some ⟨x,0,none⟩),.int .i64 on] u fun e u' => e=.returned (.bool bz)∧Below u.heap.size u u'
 img:∀ u,FIN u→Calls Tryz.prog 18 #[.pointer (some ⟨g,0,none⟩)] u fun e u' => ∃ v,e=.returned v∧IMG u' v∧Below u.heap.size u u'
 as_:∀ u v,IMG u v→Calls Tryz.prog 17 #[v] u fun e u' => ∃ v',e=.returned v'∧DOC u' v'∧Below u.heap.size u u'
 dimg:∀ u,FIN u→Calls Tryz.prog 19 #[.pointer (some ⟨x,0,none⟩)] u fun e u' => ∃ v,e=.returned v∧DOC u' v∧Below u.heap.size u u'
 sdoc:∀ u a b,DOC u a→DOC u b→Calls Tryz.prog 16 #[a,b] u fun e u' => e=.returned (.bool true)∧Below u.heap.size u u'
theorem callR_len {w:World} {g N:Nat} {cs:Array Value} {S:Re.RS} (h:Re.ResAt w g cs S N) (o:OpV):(Re.callR S o).1.2.2.1.length≤N + N:=by
 unfold Re.callR
 split
 ·exact Nat.zero_le _
 split
 ·exact Nat.zero_le _
 split
 ·exact Nat.zero_le _
 split
 ·exact Nat.zero_le _
 split
 ·exact Nat.zero_le _
 split
 ·dsimp only
  unfold Re.prepR
  split
  ·exact Nat.zero_le _
  ·rw [List.length_append]
   exact Nat.add_le_add (Re.kprep_len h.kv o.n) (Re.qprep_len h.qu o.n)
 split
 ·exact Nat.zero_le _
 split
 ·exact Nat.zero_le _
 split
 ·exact Nat.zero_le _
 ·exact Nat.zero_le _
theorem TellV.rj {w u u':World} {B x:Nat} {B0:Nat} {r:Nat × Bool × List Ch × Int} {v:Value} {csx:Array Value} {T:Nat→Prop} (h:TellV u B r v) (hg:RJ B0 u u' x T) (hx:Blk u x 38 csx) (hT:∀ k,T k→k < B):TellV u' B r v:=by
 obtain ⟨A,q,c,e,hq,ho⟩:=h
 refine ⟨A,q,c,e,hq,own_same ho (fun k hk ⟨cs,fz,ht⟩ hb => ?_)⟩
 exact cells_rj hg hx ht (by decide) ⟨by decide,by decide,by decide,by decide,by decide⟩ (fun _ hTk => by have:=hT k hTk; have:=(ho.lt' k hb).1; omega)
theorem bel_rj {w u u':World} {x:Nat} {S:Nat→Prop} (hb:Below w.heap.size w u) (hg:RJ w.heap.size u u' x S) (hx:w.heap.size≤x):Below w.heap.size w u' :=
 ⟨hg.os.trans hb.os,hg.tape.trans hb.tape,hg.output.trans hb.output,Nat.le_trans hb.size hg.size,fun j hj => (hg.low j hj (Nat.lt_of_lt_of_le hj hb.size) (by omega)).trans (hb.block j hj)⟩
set_option maxHeartbeats 1000000 in
theorem rnd {w wr:World} {g x:Nat} {S:Re.RS} {P:PL} {ws:List WI} {Q:PL} {qs:List Qu.WI} {gv:Int} {N j:Nat} (h:LvAt w wr g x S P ws Q qs gv N j) (hN:N < 190000) (hN2:39≤N) (hj:j < 100) (o:OpV) (ho:OpOk o) (hcap:o.l.length≤o.c∧o.c≤9223372036854775807) (hl:o.l.length≤40) (hin:InL w o.A o.l) :
  ∃ bz O5 O11 FIN ST LST IMG DOC EA EB,RndF w wr g x o.val o.n bz O5 O11 FIN ST LST IMG DOC EA EB∧∀ u,FIN u→∃ S P ws Q qs gv,LvAt w u g x S P ws Q qs gv (N + 4) (j + 1):=by
 obtain ⟨R,hR⟩:∃ R,R=Re.callR S o:=⟨_,rfl⟩
 have hB:=callR_B S o
 have hG:=callR_good h.gd o
 have hL:=callR_lq h.lq (by omega) o hl
 have hlen:R.1.2.2.1.length≤1000000:=by
  obtain ⟨cs,hk⟩:=h.ra
  rw [hR]
  have:=callR_len hk o
  omega
 rw [← hR] at hB hG hL
 have hPl:(Re.imP R.2.K 16).length≤1000:=Nat.le_trans (Re.imP_len _ 16) (by omega)
 have hVl:(R.2.Q.I.map Qu.IT.v).length≤1000:=by rw [List.length_map]; have:=hG.ok.room; omega
 refine ⟨Re.busyR R.2 o.n,fun u => ∃ cs,Re.ResAt u g cs S N,fun u => DR u w.heap.size x P ws S.K.L Q qs gv,
  fun u => ∃ P' ws' Q' qs' gv',LvAt w u g x (bas R.2 (fun b => ¬ Ours ws' qs' b) (fun b => ¬ Ours ws' qs' b)) P' ws' Q' qs' gv' (N + 4) (j + 1),
  fun u v => TellV u wr.heap.size R.1 v∧∃ K0 cs,K0≤u.heap.size∧Re.ResAt u g cs (bas R.2 (fun b => S.K.B b∧b < K0) (fun b => S.Q.B b∧b < K0)) (N + 4),
  fun u v => TellV u wr.heap.size R.1 v,fun u v => ImgV u (Re.imP R.2.K 16) (R.2.Q.I.map Qu.IT.v) (R.2.Q.g + 1) v,fun u v => DocV u (Re.imP R.2.K 16) (R.2.Q.I.map Qu.IT.v) (R.2.Q.g + 1) v,
  fun u u' => u.grownBy u' (some g)∧∃ cs,Blk u g 102 cs,fun u u' => (∃ cs,Blk u x 38 cs)∧RJ w.heap.size u u' x (Ours ws qs),⟨h.ra,h.dr,?_,?_,?_,?_,?_,?_,?_,?_,?_,?_,?_,?_,?_,?_,?_,?_,?_,?_⟩,?_⟩
 ·exact fun u u' ⟨cs,hk⟩ hb => ⟨cs,hk.below hb⟩
 ·exact fun u u' hk hb => hk.below hb
 ·exact fun u u' hk ⟨hg,cs,hb⟩ => hk.other hg hb Oth.res
 ·exact fun u u' v ⟨h1,K0,cs,h2,h3⟩ hb => ⟨h1.below hb,K0,cs,Nat.le_trans h2 hb.size,h3.below hb⟩
 ·exact fun u u' v ⟨h1,K0,cs,h2,h3⟩ ⟨⟨csx,hx⟩,hg⟩ => ⟨h1.rj (w:=w) hg hx (fun k hk => h.our_lt hk),K0,cs,Nat.le_trans h2 hg.size,res_rj h3 hg hx (fun b hb => h.b1 b hb.1) (fun b hb => h.b2 b hb.1)⟩
 ·exact fun u u' v h1 hb => h1.below hb
 ·exact fun u u' ⟨P',ws',Q',qs',gv',h1⟩ hb => ⟨P',ws',Q',qs',gv',h1.below hb⟩
 ·exact fun u u' v h1 hb => h1.below hb
 ·exact fun u u' v h1 hb => h1.below hb
 ·rintro u hu ⟨cs,hk⟩
  refine (Re.call_any g cs S N o u hk (by omega) h.gd.ok ho.n ho.y hcap (fun _ => by omega) (fun _ u' hu' => Re.inl_offg hin hu.1 h.gx.1 hu') (fun b hb => (h.b3 b (Nat.le_trans hu.2 hb)).1) (fun b hb => (h.b3 b (Nat.le_trans hu.2 hb)).2)).mono ?_
  rintro e u' ⟨A,q,c,rfl,hq,hown,⟨⟨cs',hk'⟩,hg⟩⟩
  rw [← hR] at hq hown hk' ⊢
  refine ⟨_,rfl,⟨⟨A,q,c,rfl,hq,hown.less hu.2⟩,u'.heap.size,cs',Nat.le_refl _,?_⟩,⟨hu.1.grown hg hu.1.size (fun r e => by cases e; exact h.gx.1),Nat.le_trans hu.2 hg.size⟩,hg,_,hk.kv.bk⟩
  exact res_rebase hk' (fun b hb hlt => ⟨by rw [hB.1] at hb; exact hb,hlt⟩) (fun b hb hlt => ⟨by rw [hB.2] at hb; exact hb,hlt⟩)
 ·rintro u v5 hu hd ⟨_,K0,cs,hK0,hk⟩
  have hmh:=h.mh hj hd hu.1.size
  refine (mdl_any o hmh ho.n (fun _ => by omega) (fun _ => hin.below hu.1)).mono ?_
  rintro e u' ⟨A,q,c,rfl,hq,hown,P',ws',Q',qs',gv',d1,d2,⟨l1,l2,l3⟩,hj1,hnew⟩
  rw [← hR] at hq hown d1 d2 ⊢
  obtain ⟨a,b,c0,d,e,k1,k2,hx⟩:=hd.ex
  have hap:∀ b,b < K0→¬ Ours ws qs b→¬ Ours ws' qs' b:=fun b hb hno hO => by
   rcases hnew b hO with h1 | h1
   ·exact hno h1
   ·omega
  refine ⟨_,rfl,⟨A,q,c,rfl,hq,hown.less hu.2⟩,⟨P',ws',Q',qs',gv',?_⟩,⟨bel_rj hu.1 hj1 h.gx.2,Nat.le_trans hu.2 hj1.size⟩,⟨_,hx⟩,hj1⟩
  refine ⟨⟨cs,?_⟩,d1,d2.bas _ _,hG.rebase,l3,bel_rj hu.1 hj1 h.gx.2,h.gx,fun b hb => hb,fun b hb => hb,fun b hb => ?_,?_,?_⟩
  ·exact res_rebase (res_rj hk hj1 hx (fun b hb => h.b1 b hb.1) (fun b hb => h.b2 b hb.1)) (fun b hb _ => hap b hb.2 (h.b1 b hb.1)) (fun b hb _ => hap b hb.2 (h.b2 b hb.1))
  ·have:¬ Ours ws' qs' b:=fun hO => by
    obtain ⟨a,b0,c0,d,e,k1,k2,k3⟩:=d1.ex
    rcases hO with ⟨y,hy,e⟩ | ⟨y,hy,e⟩
    ·have:=((k1.wk y hy).2.2.lt' b e).2; omega
    ·have:=((k2.wk y hy).2.2.lt' b e).2; omega
   exact ⟨this,this⟩
  ·have:=h.ln
   exact ⟨by omega,by omega⟩
  ·exact fun y hy => by have:=hL y hy; omega
 ·exact fun u a b h1 h2 => h1.1.same h2 hlen
 ·rintro u ⟨P',ws',Q',qs',gv',hv⟩
  obtain ⟨cs,hk⟩:=hv.ra
  have hb:=Re.resbusy_any g cs _ _ o.n u hk ho.n
  exact hb
 ·rintro u ⟨P',ws',Q',qs',gv',hv⟩
  refine (busy_any w.heap.size x P' ws' _ Q' qs' gv' o.n u hv.dr).mono ?_
  rintro e u' ⟨rfl,rfl⟩
  refine ⟨?_,Below.refl _ _⟩
  have e1:busyB R.2.K o.n=(findW ws' o.n).isSome:=(show Rel (bas R.2 _ _).K P' ws' from hv.rl.K).busy o.n
  have e2:(Qu.lookQ R.2.Q.ws o.n).isSome=(Qu.findW qs' o.n).isSome:=by
   have:=hv.rl.Q.look o.n
   have e3:Qu.lookQ R.2.Q.ws o.n=_:=this
   rw [e3]; cases Qu.findW qs' o.n <;> rfl
  unfold busyD Re.busyR
  rw [e1,e2]
 ·rintro u ⟨P',ws',Q',qs',gv',hv⟩
  obtain ⟨cs,hk⟩:=hv.ra
  refine (Re.image_img g cs _ _ u hk).mono ?_
  rintro e u' ⟨A,q,c,A',q',c',rfl,HX⟩
  exact ⟨_,rfl,⟨_,A,q,c,A',q',c',rfl,by rw [Re.imP_eq (S:=R.2.K) (S':=(bas R.2 (fun b => ¬ Ours ws' qs' b) (fun b => ¬ Ours ws' qs' b)).K) rfl]; exact HX.out.1⟩,HX.out.2⟩
 ·rintro u v ⟨B,A,q,c,A',q',c',rfl,hv⟩
  refine (Re.as_img u B A q c A' q' c' _ _ _ hv (by rw [hv.q]; exact hPl)).mono ?_
  rintro e u' ⟨A9,c9,rfl,HX⟩
  exact ⟨_,rfl,⟨A9,q,c9,A',q',c',rfl,HX.out.1⟩,HX.out.2⟩
 ·rintro u ⟨P',ws',Q',qs',gv',hv⟩
  have h4:gv'=R.2.Q.g:=hv.rl.Q.g
  have h5:=hG.ok.last
  have h6:=hG.ok.g0
  refine (dimage_any w.heap.size x P' ws' _ Q' qs' gv' u hv.dr (by omega)).mono ?_
  rintro e u' ⟨A,q,c,A',q',c',rfl,HX⟩
  have e1:docP P' 16=Re.imP R.2.K 16:=by
   rw [← docP_im hv.rl.K 16]
   exact Re.imP_eq rfl 16
  have e2:Q'.map (·.2)=R.2.Q.I.map Qu.IT.v:=by
   have:Q'=Qu.prI R.2.Q.I:=hv.rl.Q.I
   rw [this]; unfold Qu.prI; rw [List.map_map]; rfl
  rw [e1,e2] at HX
  exact ⟨_,rfl,⟨A,q,c,A',q',c',by rw [h4],HX.out.1⟩,HX.out.2⟩
 ·rintro u a b ⟨A,q,c,A',q',c',rfl,h1⟩ ⟨A2,q2,c2,A3,q3,c3,rfl,h2⟩
  exact Re.same_docs u A q c A' q' c' A2 q2 c2 A3 q3 c3 _ _ _ h1 h2 ⟨by rw [h1.q]; exact hPl,by rw [h1.q']; exact hVl⟩
 ·rintro u ⟨P',ws',Q',qs',gv',hv⟩
  exact ⟨_,P',ws',Q',qs',gv',hv⟩
end Go.Proofs.YtlliaihmfimdoaaGreat.Dr


namespace Go.Proofs.YtlliaihmfimdoaaGreat.Dr
open Go.RowKit Go.Maps Go.Joins Go.Deep Go.Proofs.YtlliaihmfimdoaaGreat
theorem ltf {a:Bool} (h:a=false) (h2:a=true):False:=by rw [h] at h2; cases h2
def ELv (EA EB:World→World→Prop) (k:Nat) (u u':World):Prop:=match k with
 | 5 => EA u u'
 | 11 => EB u u'
 | _ => Below u.heap.size u u'
def TLv (O5 O11:World→Prop) (j:Nat) (u:World):Prop:=match j with
 | 5 => O5 u
 | 11 => O11 u
 | _ => True
section
variable {w wr:World} {g xb:Nat} {ov:Value} {on:Int} {bz:Bool} {O5 O11 FIN:World→Prop} {ST LST IMG DOC:World→Value→Prop} {EA EB:World→World→Prop}
theorem TLv.mono (hf:RndF w wr g xb ov on bz O5 O11 FIN ST LST IMG DOC EA EB) {q j:Nat} {u u':World} (he:ELv EA EB q u u') (hqj:q≠j) (h:q=11→j=5→False) (hv:TLv O5 O11 j u):TLv O5 O11 j u':=by
 unfold ELv at he
 split at he
 ·unfold TLv at hv ⊢
  split at hv <;> first | trivial | exact absurd rfl hqj | exact hf.mO11A _ _ hv he
 ·unfold TLv at hv ⊢
  split at hv <;> first | trivial | exact absurd rfl hqj | exact (h rfl rfl).elim
 ·unfold TLv at hv ⊢
  split at hv <;> first | trivial | exact hf.mO5 _ _ hv he | exact hf.mO11 _ _ hv he
end
end Go.Proofs.YtlliaihmfimdoaaGreat.Dr

