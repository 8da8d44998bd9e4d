/- Parts Dq OpenIm Dr of one proof. -/
import Derived.Test.YtlliaihmfimdoaaGreatMg41
import Derived.Test.YtlliaihmfimdoaaGreatMg42
import Derived.Test.YtlliaihmfimdoaaGreatMg40
import Derived.Test.YtlliaihmfimdoaaGreatMg36
set_option linter.unusedSimpArgs false
set_option linter.unusedVariables false
namespace Go.Proofs.YtlliaihmfimdoaaGreat.Dr
open Go.RowKit Go.Maps Go.Joins Go.Deep Go.Proofs.YtlliaihmfimdoaaGreat
structure LD (w wr:World) (gi x B:Nat) (A A':Option Addr) (q c q' c':Nat) (nx:Int) (A2:Option Addr) (c2:Nat) (P':List (Int × Nat)):Prop where
 be:Below w.heap.size w wr
 ki:Blk wr gi 54 #[.slice A q c,.slice A' q' c',.int .i64 nx]
 kx:Blk wr x 38 #[.slice A2 P'.length c2,.slice none 0 0,.slice none 0 0,.slice none 0 0,.slice none 0 0,.int .i64 0]
 own:OwnPr wr B A2 c2 P'
 lt:gi < B∧x < B∧B≤wr.heap.size
 ne:gi≠x∧w.heap.size≤gi∧w.heap.size≤x∧w.heap.size≤B
section
variable {w wr:World} {gi x B:Nat} {A A':Option Addr} {q c q' c':Nat} {nx:Int} {A2:Option Addr} {c2:Nat} {P':List (Int × Nat)}
theorem LD.below {v:World} (h:LD w wr gi x B A A' q c q' c' nx A2 c2 P') (hb:Below wr.heap.size wr v):LD w v gi x B A A' q c q' c' nx A2 c2 P' :=
 ⟨bt h.be hb,h.ki.below hb h.ki.lt,h.kx.below hb h.kx.lt,World.ownsRow.kept h.own (lbelow_grown hb none) (by rcases (Value.slice A2 P'.length c2).ownBlock with _ | k; exact .inl rfl; exact .inr (fun e => by cases e)),⟨h.lt.1,h.lt.2.1,Nat.le_trans h.lt.2.2 hb.size⟩,h.ne⟩
def MD (w wr:World) (gi x B:Nat) (A A':Option Addr) (q c q' c':Nat) (nx:Int) (P':List (Int × Nat)) (n:Nat) (v:Value):Prop :=
 ∃ A3 c3,v=.slice A3 n c3∧(∃ cs,Blk wr x 38 cs∧0 < cs.size)∧LD w (wr.setCell ⟨x,0,none⟩ (.slice A3 n c3)) gi x B A A' q c q' c' nx A3 c3 P'
theorem LD.more (h:LD w wr gi x B A A' q c q' c' nx A2 c2 P') (hl:P'.length≤1000) {u:World} (hb:Below wr.heap.size wr u) (k:Int) (v:Nat) {r:Nat} (hr:Blk u r 114 #[.int .i64 k,.int .u64 (v:Nat)]) :
  ∃ A3 c3 w3,(Builtin.append_ #[26,26] 26 #[.slice A2 P'.length c2,.slice (some ⟨r,0,none⟩) 1 1]).run Tryz.prog u=.ok (.slice A3 (P'.length + 1) c3) w3∧BW w w w3 ∧
   MD w w3 gi x B A A' q c q' c' nx (P' ++ [(k,v)]) (P'.length + 1) (.slice A3 (P'.length + 1) c3):=by
 have h3:=h.below hb
 obtain ⟨A3,c3,w3,hrun,own3,g3⟩:=pr_more h3.own P'.length rfl hl k v r h3.lt.2.2 hr
 have hno:∀ {r t cs},Blk u r t cs→r < B→Blk w3 r t cs:=fun hk hr => hk.kept g3 (fun e => by
  have:=(World.ownsRow.lt h3.own _ (by rw [ownBlock_slice]; exact e.symm)).1; omega)
 have kx3:=hno h3.kx h3.lt.2.1
 have hgs:=lgrown_set w3 ⟨x,0,none⟩ (.slice A3 (P'.length + 1) c3)
 have hne:=h.ne
 have hbe:=h3.be.grown g3 (by have:=h3.be.size; omega) (fun r e => by have:=(World.ownsRow.lt h3.own r (by rw [ownBlock_slice]; exact e)).1; omega)
 have hl2:(P' ++ [(k,v)]).length=P'.length + 1:=by simp
 refine ⟨A3,c3,w3,hrun,⟨hbe,hbe.size⟩,A3,c3,rfl,⟨_,kx3,by simp⟩,?_⟩
 refine ⟨hbe.setCell (p:=⟨x,0,none⟩) (by have:=hne.2.2.1; exact this) _,(hno h3.ki h3.lt.1).kept hgs (fun e => hne.1 (Option.some.inj e)),?_,own_kept own3 kx3 (by decide) hgs,⟨h.lt.1,h.lt.2.1,?_⟩,h.ne⟩
 ·have:=kx3.set_ 0 (.slice A3 (P'.length + 1) c3)
  rw [hl2]
  simpa using this
 ·have:=g3.size; have:=h3.lt.2.2; rw [World.size_setCell]; omega
end
def NewS (w:World) (k:Int) (v:Nat) (s:Value):Prop:=∃ b,s=.slice (some ⟨b,0,none⟩) 1 1∧Blk w b 114 #[.int .i64 k,.int .u64 (v:Nat)]
theorem NewS.kept {u u':World} {x:Nat} {k:Int} {v:Nat} {s:Value} (he:∃ cs,Blk u x 38 cs∧u.grownBy u' (some x)) (h:NewS u k v s):NewS u' k v s:=by
 obtain ⟨cs,hk,hg⟩:=he
 obtain ⟨b,e,hb⟩:=h
 exact ⟨b,e,hb.kept hg (fun e => hb.ne hk (by decide) (by injection e))⟩
def VLd (w:World) (gi x B:Nat) (A A':Option Addr) (q c q' c':Nat) (nx:Int) (A2:Option Addr) (c2 n2:Nat) (P':List (Int × Nat)) (yk:Int) (yv:Nat) (i:Nat) (v:Value) (u:World):Prop :=
 match i with
 | 0 => v=.pointer (some ⟨x,0,none⟩)
 | 1 => v=.pointer (some ⟨x,0,none⟩)
 | 2 => v=.pointer (some ⟨x,0,none⟩)
 | 3 => v=.pointer (some ⟨x,0,none⟩)
 | 4 => v=.pointer (some ⟨x,0,none⟩)
 | 5 => v=.slice A2 n2 c2
 | 6 => v=.agg #[.int .i64 yk,.int .u64 (yv:Nat)]
 | 7 => NewS u yk yv v
 | 8 => MD w u gi x B A A' q c q' c' nx (P' ++ [(yk,yv)]) (n2 + 1) v
 | 9 => v=.pointer (some ⟨x,0,none⟩)
 | 10 => v=.pointer (some ⟨x,0,none⟩)
 | 11 => v=.pointer (some ⟨x,0,none⟩)
 | 12 => ∃ A3 c3,LD w u gi x B A A' q c q' c' nx A3 c3 (P' ++ [(yk,yv)])
 | _ => True
def ELd (x k:Nat) (u u':World):Prop:=match k with
 | 7 => Below u.heap.size u u'
 | 8 => True
 | 12 => ∃ cs,Blk u x 38 cs∧u.grownBy u' (some x)
 | _ => u'=u
def TLd (w:World) (gi x B:Nat) (A A':Option Addr) (q c q' c':Nat) (nx:Int) (A2:Option Addr) (c2:Nat) (P':List (Int × Nat)) (gp:Nat) (yk:Int) (yv:Nat) (j:Nat) (u:World):Prop:=match j with
 | 5 => LD w u gi x B A A' q c q' c' nx A2 c2 P'
 | 6 => Blk u gp 114 #[.int .i64 yk,.int .u64 (yv:Nat)]
 | 8 => LD w u gi x B A A' q c q' c' nx A2 c2 P'
 | _ => True
theorem VLd.mono {w:World} {gi x B:Nat} {A A':Option Addr} {q c q' c':Nat} {nx:Int} {A2:Option Addr} {c2 n2:Nat} {P':List (Int × Nat)} {yk:Int} {yv:Nat} {k i:Nat} {v:Value} {u u':World} (he:ELd x k u u') (hik:i≠k) (h7:i=7→k=8→False) (h8:i=8→k=7∨k=12→False) (h12:i=12→k=7∨k=8→False) (h:VLd w gi x B A A' q c q' c' nx A2 c2 n2 P' yk yv i v u):VLd w gi x B A A' q c q' c' nx A2 c2 n2 P' yk yv i v u':=by
 unfold ELd at he
 split at he
 ·unfold VLd at h ⊢
  split at h <;> first | with_reducible exact h | exact absurd rfl hik | exact (h8 rfl (.inl rfl)).elim | exact (h12 rfl (.inl rfl)).elim
 ·unfold VLd at h ⊢
  split at h <;> first | with_reducible exact h | exact absurd rfl hik | exact (h7 rfl rfl).elim | exact (h12 rfl (.inr rfl)).elim
 ·unfold VLd at h ⊢
  split at h <;> first | with_reducible exact h | exact absurd rfl hik | exact (h8 rfl (.inr rfl)).elim | exact NewS.kept he h
 ·rw [he]; exact h
theorem TLd.mono {w:World} {gi x B:Nat} {A A':Option Addr} {q c q' c':Nat} {nx:Int} {A2:Option Addr} {c2:Nat} {P':List (Int × Nat)} {gp:Nat} {yk:Int} {yv:Nat} {k j:Nat} {u u':World} (he:ELd x k u u') (hkj:k≠j) (h1:k=8∨k=12→j=5∨j=6→False) (h2:k=12→j=8→False) (hv:TLd w gi x B A A' q c q' c' nx A2 c2 P' gp yk yv j u):TLd w gi x B A A' q c q' c' nx A2 c2 P' gp yk yv j u':=by
 unfold ELd at he
 split at he
 ·unfold TLd at hv ⊢
  split at hv <;> first | trivial | exact hv.below he | exact hv.below he hv.lt
 ·unfold TLd at hv ⊢
  split at hv <;> first | trivial | exact absurd rfl hkj | exact (h1 (.inl rfl) (.inl rfl)).elim | exact (h1 (.inl rfl) (.inr rfl)).elim
 ·unfold TLd at hv ⊢
  split at hv <;> first | trivial | exact (h1 (.inr rfl) (.inl rfl)).elim | exact (h1 (.inr rfl) (.inr rfl)).elim | exact (h2 rfl rfl).elim
 ·rw [he]; exact hv
def VLe (gi gp:Nat) (z yk:Int) (i:Nat) (v:Value) (w:World):Prop :=
 match i with
 | 0 => v=.pointer (some ⟨gp,0,none⟩)
 | 1 => v=.int .i64 yk
 | 2 => v=.bool false
 | 3 => v=.bool false
 | 4 => v=.pointer (some ⟨gp,0,none⟩)
 | 5 => v=.int .i64 yk
 | 6 => v=.bool false
 | 7 => v=.bool false
 | 8 => v=.bool false
 | 9 => v=.int .i64 z
 | 10 => v=.bool false
 | 11 => v=.bool false
 | 12 => v=undef
 | 13 => v=undef
 | 14 => v=undef
 | 15 => v=undef
 | 16 => v=undef
 | 17 => v=undef
 | 18 => v=undef
 | 19 => v=undef
 | 20 => v=undef
 | 21 => v=undef
 | 22 => v=.bool false
 | 23 => v=.bool false
 | _ => True
theorem VLe.mono {gi gp:Nat} {z yk:Int} {q i:Nat} {v:Value} {u u':World} (he:Below u.heap.size u u') (h:VLe gi gp z yk i v u):VLe gi gp z yk i v u':=by
 unfold VLe at h ⊢
 split at h <;> exact h
def DLoadO (w:World) (B:Nat) (P:List (Int × Nat)) (vs:List Nat) (nx:Int) (e:Ending) (w':World):Prop :=
 Below w.heap.size w w'∧((dloadE P vs nx≠0∧e=.returned (.tuple #[.pointer none,.int .i64 (dloadE P vs nx)]))∨(dloadE P vs nx=0∧∃ x,e=.returned (.tuple #[.pointer (some ⟨x,0,none⟩),.int .i64 0])∧w.heap.size≤x∧DR w' B x P [] [] (Qu.loadR [] [] 0 vs (Re.loadN nx vs.length)).2.1 [] (Qu.loadR [] [] 0 vs (Re.loadN nx vs.length)).2.2))
def loK (P:List (Int × Nat)):Nat→Int
 | 0 => 0
 | j + 1 => (P.getD j (0,0)).1 + 1
set_option maxRecDepth 100000 in
set_option maxHeartbeats 8000000 in
theorem dload_any (B:Nat) (A A':Option Addr) (q c q' c':Nat) (nx:Int) (P:List (Int × Nat)) (vs:List Nat) (w:World) (h:Re.DocAt w A q A' q' P vs) (hm:q≤100∧q'≤1000) (hB:B≤w.heap.size) :
  Calls Tryz.prog 21 #[.agg #[.slice A q c,.slice A' q' c',.int .i64 nx]] w (DLoadO w B P vs nx):=by
 obtain ⟨hq,hq',hP,hU⟩:=h
 obtain ⟨w2,hw2⟩:∃ w2,w2=(w.alloc (.cells #[.slice A q c,.slice A' q' c',.int .i64 nx] 54)).alloc (.cells #[.slice none 0 0,.slice none 0 0,.slice none 0 0,.slice none 0 0,.slice none 0 0,.int .i64 0] 38):=⟨_,rfl⟩
 obtain ⟨gi,hgi⟩:∃ gi,gi=w.heap.size:=⟨_,rfl⟩
 obtain ⟨x,hx⟩:∃ x,x=w.heap.size + 1:=⟨_,rfl⟩
 obtain ⟨B2,hB2⟩:∃ B2,B2=w2.heap.size:=⟨_,rfl⟩
 have hs2:w2.heap.size=w.heap.size + 2:=by rw [hw2]; simp
 have h2:LD w w2 gi x B2 A A' q c q' c' nx none 0 []:=by
  refine ⟨by rw [hw2]; exact bt (ba _ _) (ba _ _),?_,?_,World.ownsRow_nil _ _ _ _,by omega,by omega⟩
  ·rw [hw2,hgi]; exact (Blk.new w _ _).below (ba _ _) (Blk.new w _ _).lt
  ·have:=Blk.new (w.alloc (.cells #[.slice A q c,.slice A' q' c',.int .i64 nx] 54)) 38 #[.slice none 0 0,.slice none 0 0,.slice none 0 0,.slice none 0 0,.slice none 0 0,.int .i64 0]
   rw [World.size_alloc,← hx] at this
   rw [hw2]; exact this
 have HG:=Lib.hid (And.intro hw2 (And.intro hgi hx))
 have HQ:=Lib.hid (And.intro hq (And.intro hq' (And.intro hP hU)))
 have HBw:=Lib.hid hB
 have HI:Hid ((∃ A2 c2,LD w w2 gi x B2 A A' q c q' c' nx A2 c2 (P.take 0))∧Re.risF 0 P=Re.risF (loK P 0) (P.drop 0)∧0≤loK P 0):=Lib.hid ⟨⟨none,0,h2⟩,rfl,Int.le_refl _⟩
 have hqI:(q:Int)≤100:=by omega
 clear hq hq' hP hU hw2 hgi hx hB2 hs2 h2 hB
 go_enter Tryz.func21,Tryz.ntmps21
 go_wp2_with fail
 rw [← HG.out.1,← HG.out.2.2,← HG.out.2.1]
 go_loopw [5] (fun i wr => ∃ (j:Nat),j≤q∧i=.int .i64 j∧Hid ((∃ A2 c2,LD w wr gi x B2 A A' q c q' c' nx A2 c2 (P.take j))∧Re.risF 0 P=Re.risF (loK P j) (P.drop j)∧0≤loK P j)) (fun i _ => q - (intOf i).toNat)
 case atStart => exact ⟨0,Nat.zero_le _,rfl,HI⟩
 case round =>
  clear HI
  obtain ⟨j,hj,rfl,HR⟩:=hrel
  obtain ⟨⟨A2,c2,hld⟩,hris,hlo⟩:=HR.out
  have m0:=hld.ki.cell 0
  simp only [List.getElem?_toArray,List.getElem?_cons_zero] at m0
  by_cases hjn:j < q
  ·have hjI:(j:Int) < (q:Int):=by omega
   have hjL:j < P.length:=by rw [← HQ.out.1]; exact hjn
   have hPb:=HQ.out.2.2.1.below hld.be
   obtain ⟨b,o,rfl,hbl,hcs⟩:=hPb (by omega)
   obtain ⟨p0,p1⟩:=hcs j hjL
   have hsn:P.take (j + 1)=P.take j ++ [P[j]'hjL]:=by rw [List.take_add_one,List.getElem?_eq_getElem hjL]; rfl
   have hdr:P.drop j=P[j]'hjL :: P.drop (j + 1):=List.drop_eq_getElem_cons hjL
   have hlo1:loK P (j + 1)=(P[j]'hjL).1 + 1:=by
    show (P.getD j (0,0)).1 + 1=_
    rw [List.getD_eq_getElem?_getD,List.getElem?_eq_getElem hjL]; rfl
   have hpre:∀ i,j=i + 1→wr.cell? ⟨b,o + i * 2,none⟩=some (.int .i64 (loK P j - 1)):=fun i hi => by
    have hiL:i < P.length:=by omega
    have:=(hcs i hiL).1
    rw [this,hi]
    show _=some (Value.int .i64 ((P.getD i (0,0)).1 + 1 - 1))
    rw [List.getD_eq_getElem?_getD,List.getElem?_eq_getElem hiL]
    congr 2
    show _=(P[i]'hiL).1 + 1 - 1
    omega
   rw [hdr] at hris
   generalize P[j]'hjL=y at p0 p1 hsn hlo1 hris
   obtain ⟨yk,yv⟩:=y
   dsimp only at p0 p1 hlo1
   have hjl:(P.take j).length=j:=by rw [List.length_take]; omega
   have hris2:Re.risF 0 P=if yk < loK P j∨16≤yk then false else Re.risF (yk + 1) (P.drop (j + 1)):=hris
   obtain ⟨w5,hw5⟩:∃ w5,w5=wr.alloc (.cells #[.int .i64 yk,.int .u64 (yv:Nat)] 114):=⟨_,rfl⟩
   obtain ⟨gp,hgp⟩:∃ gp,gp=wr.heap.size:=⟨_,rfl⟩
   have b5:Below wr.heap.size wr w5:=by rw [hw5]; exact ba _ _
   have k5:Blk w5 gp 114 #[.int .i64 yk,.int .u64 (yv:Nat)]:=by rw [hw5,hgp]; exact Blk.new _ _ _
   have ld5:=hld.below b5
   have HW5:=Lib.hid (And.intro hw5 hgp)
   have H5:=Lib.hid (And.intro ld5 (And.intro k5 (And.intro hsn (And.intro hlo1 (And.intro hris2 (And.intro hjl hlo))))))
   have c0:=fun m:Nat => cell_drew (k5.cell 0) m
   have c1:=fun m:Nat => cell_drew (ld5.ki.cell 0) m
   have c2':∀ i,j=i + 1→∀ m:Nat,(w5.drewN m).cell? ⟨b,o + i * 2,none⟩=some (.int .i64 (loK P j - 1)):=fun i hi m => cell_drew ((b5.cell (p:=⟨b,_,none⟩) hbl).trans (hpre i hi)) m
   have HC2:=Lib.hid c2'
   have c0:∀ m:Nat,(w5.drewN m).cell? ⟨gp,0,none⟩=some (.int .i64 yk):=c0
   have c1:∀ m:Nat,(w5.drewN m).cell? ⟨gi,0,none⟩=some (.slice (some ⟨b,o,none⟩) q c):=c1
   have HDr:Hid (∀ m:Nat,Below w5.heap.size w5 (w5.drewN m)):=Lib.hid fun m => ⟨rfl,rfl,rfl,Nat.le_refl _,fun _ _ => rfl⟩
   obtain ⟨lk,hlk⟩:∃ lk,lk=loK P j:=⟨_,rfl⟩
   have HLk:=Lib.hid hlk
   rw [← hlk] at HC2
   have hlo':0≤lk:=by rw [hlk]; exact hlo
   clear hld hris hlo hPb hcs hsn hdr hlo1 hpre hjl hris2 hw5 hgp b5 k5 ld5 c2' hlk hbl hjL
   have HLo:=Lib.hid hlo'
   by_cases bad:yk < lk∨16≤yk
   ·-- refused
    have HF:Hid (Re.risF 0 P=false):=Lib.hid (by rw [H5.out.2.2.2.2.1,if_pos (by rw [← HLk.out]; exact bad)])
    have HX:Hid (∀ m:Nat,DLoadO w B P vs nx (.returned (.tuple #[.pointer none,.int .i64 3])) (w5.drewN m)):=Lib.hid fun m => by
     have e3:dloadE P vs nx=3:=by unfold dloadE; rw [if_pos HF.out]
     exact ⟨bt H5.out.1.be (HDr.out m),.inl ⟨by rw [e3]; decide,by rw [e3]⟩⟩
    clear HF hlo'
    go_wp2_with fail
    rw [← HW5.out.1,← HW5.out.2]
    by_cases k0:yk < 0
    ·clear bad HC2
     go_quiet (fail)
     have HY:=Lib.hid (HX.out nq)
     clear c0 c1 HX p0 p1 m0
     go_wp2
     go_returns
     exact HY.out
    ·by_cases k1:(15:Int) < yk
     ·clear bad HC2
      go_quiet (fail)
      have HY:=Lib.hid (HX.out nq)
      clear c0 c1 HX p0 p1 m0
      go_wp2
      go_returns
      exact HY.out
     ·rcases j with _ | i
      ·have:=HLk.out
       have e0:loK P 0=0:=rfl
       rw [e0] at this
       omega
      ·have c2:=HC2.out i rfl
       have k3:yk≤lk - 1:=by omega
       have hiI:(i:Int) < (q:Int):=by omega
       have hi0:(0:Int) < (i:Int) + 1:=by omega
       have hi1:(i:Int) + 1 < (q:Int):=by omega
       clear bad HC2
       push_cast
       go_quiet (fail)
       have HY:=Lib.hid (HX.out nq)
       clear c0 c1 c2 HX p0 p1 m0
       go_wp2
       go_returns
       exact HY.out
   ·-- it goes on
    have k0:¬ yk < 0:=by omega
    have k1:¬ (15:Int) < yk:=by omega
    have HX:Hid (∀ m:Nat,LD w (w5.drewN m) gi x B2 (some ⟨b,o,none⟩) A' q c q' c' nx A2 c2 (P.take j)∧Blk (w5.drewN m) gp 114 #[.int .i64 yk,.int .u64 (yv:Nat)]):=Lib.hid fun m => ⟨H5.out.1.below (HDr.out m),H5.out.2.1.below (HDr.out m) H5.out.2.1.lt⟩
    have HN:Hid (Re.risF 0 P=Re.risF (loK P (j + 1)) (P.drop (j + 1))∧0≤loK P (j + 1)):=Lib.hid (by
     rw [H5.out.2.2.2.1]
     exact ⟨by rw [H5.out.2.2.2.2.1,if_neg (by rw [← HLk.out]; exact bad)],by omega⟩)
    have k3:¬ yk≤lk - 1:=by omega
    clear bad hlo'
    go_wp2_with fail
    rw [← HW5.out.1,← HW5.out.2]
    by_cases hj0:j=0
    ·obtain ⟨z,hz⟩:∃ z:Int,z=(j:Int):=⟨_,rfl⟩
     have k4:¬ (0:Int) < z:=by omega
     rw [← hz]
     have HZ:=Lib.hid hz
     clear HC2 hj0 hz c0 c1 HX p0 p1 m0
     refine wp_region_invT (F:=?FR6) (V:=VLe gi gp z yk) (dead:=fun _ => none) (T:=fun _ _ => True) (C:=fun u => Below w5.heap.size w5 u) (E:=fun _ u u' => Below u.heap.size u u') (by kernel_rfl) (by kernel_rfl) (by kernel_rfl) (fun x_1 => ?hFR6) ?hmonoR6 ?hTmR6 ?hTR6 ?hCR6 ?stepR6 ?finR6
     case hFR6 => simp only [mkA,Act.put,List.setIfInBounds_toArray,List.set_cons_succ,List.set_cons_zero,Nat.reduceAdd,Nat.zero_add]; first | with_reducible rfl | rfl
     case hmonoR6 => exact fun q' i v u u' he hik hwt hdd hv => VLe.mono (q:=q') he hv
     case hTmR6 => exact fun _ _ _ _ _ _ _ _ => trivial
     case hTR6 => exact fun j => trivial
     case hCR6 => exact (Below.refl _ _).drew
     case stepR6 =>
      refine AllOps.cons (fun x_1 u hC hT hp K hK => ?_) ?_
      ·clear hp hT
       go_simp
       refine hK _ _ _ hC (Below.refl _ _) (by exact rfl) ?_
       first | (simp only [Act.put,List.setIfInBounds_toArray,List.set_cons_succ,List.set_cons_zero]; done) | simp [Act.put]
      refine AllOps.cons (fun x_1 u hC hT hp K hK => ?_) ?_
      ·simp [KnownTill,Region.binds,VLe] at hp
       clear hT
       have cq:=(H5.out.2.1.below hC H5.out.2.1.lt).cell 0
       simp only [List.getElem?_toArray,List.getElem?_cons_zero] at cq
       go_simp
       refine hK _ _ _ hC (Below.refl _ _) (by exact rfl) ?_
       first | (simp only [Act.put,List.setIfInBounds_toArray,List.set_cons_succ,List.set_cons_zero,hp]; done) | simp [Act.put,hp]
      refine AllOps.cons (fun x_1 u hC hT hp K hK => ?_) ?_
      ·simp [KnownTill,Region.binds,VLe] at hp
       clear hT
       go_simp
       refine hK (.bool false) _ _ hC (Below.refl _ _) (by exact rfl) ?_
       simp [Act.put,hp,k0]
      refine AllOps.cons (fun x_1 u hC hT hp K hK => ?_) ?_
      ·simp [KnownTill,Region.binds,VLe] at hp
       clear hT
       go_simp
       refine hK _ _ _ hC (Below.refl _ _) (by exact rfl) ?_
       first | (simp only [Act.put,List.setIfInBounds_toArray,List.set_cons_succ,List.set_cons_zero,hp]; done) | simp [Act.put,hp]
      refine AllOps.cons (fun x_1 u hC hT hp K hK => ?_) ?_
      ·simp [KnownTill,Region.binds,VLe] at hp
       clear hT
       go_simp
       refine hK _ _ _ hC (Below.refl _ _) (by exact rfl) ?_
       first | (simp only [Act.put,List.setIfInBounds_toArray,List.set_cons_succ,List.set_cons_zero,hp]; done) | simp [Act.put,hp]
      refine AllOps.cons (fun x_1 u hC hT hp K hK => ?_) ?_
      ·simp [KnownTill,Region.binds,VLe] at hp
       clear hT
       have cq:=(H5.out.2.1.below hC H5.out.2.1.lt).cell 0
       simp only [List.getElem?_toArray,List.getElem?_cons_zero] at cq
       go_simp
       refine hK _ _ _ hC (Below.refl _ _) (by exact rfl) ?_
       first | (simp only [Act.put,List.setIfInBounds_toArray,List.set_cons_succ,List.set_cons_zero,hp]; done) | simp [Act.put,hp]
      refine AllOps.cons (fun x_1 u hC hT hp K hK => ?_) ?_
      ·simp [KnownTill,Region.binds,VLe] at hp
       clear hT
       go_simp
       refine hK (.bool false) _ _ hC (Below.refl _ _) (by exact rfl) ?_
       simp [Act.put,hp,k1]
      refine AllOps.cons (fun x_1 u hC hT hp K hK => ?_) ?_
      ·simp [KnownTill,Region.binds,VLe] at hp
       clear hT
       go_simp
       refine hK _ _ _ hC (Below.refl _ _) (by exact rfl) ?_
       first | (simp only [Act.put,List.setIfInBounds_toArray,List.set_cons_succ,List.set_cons_zero,hp]; done) | simp [Act.put,hp]
      refine AllOps.cons (fun x_1 u hC hT hp K hK => ?_) ?_
      ·simp [KnownTill,Region.binds,VLe] at hp
       clear hT
       go_simp
       refine hK _ _ _ hC (Below.refl _ _) (by exact rfl) ?_
       first | (simp only [Act.put,List.setIfInBounds_toArray,List.set_cons_succ,List.set_cons_zero,hp]; done) | simp [Act.put,hp]
      refine AllOps.cons (fun x_1 u hC hT hp K hK => ?_) ?_
      ·simp [KnownTill,Region.binds,VLe] at hp
       clear hT
       go_simp
       refine hK _ _ _ hC (Below.refl _ _) (by exact rfl) ?_
       first | (simp only [Act.put,List.setIfInBounds_toArray,List.set_cons_succ,List.set_cons_zero,hp]; done) | simp [Act.put,hp]
      refine AllOps.cons (fun x_1 u hC hT hp K hK => ?_) ?_
      ·simp [KnownTill,Region.binds,VLe] at hp
       clear hT
       go_simp
       refine hK (.bool false) _ _ hC (Below.refl _ _) (by exact rfl) ?_
       simp [Act.put,hp,k4]
      refine AllOps.cons (fun x_1 u hC hT hp K hK => ?_) ?_
      ·simp [KnownTill,Region.binds,VLe] at hp
       clear hT
       go_simp
       refine hK _ _ _ hC (Below.refl _ _) (by exact rfl) ?_
       first | (simp only [Act.put,List.setIfInBounds_toArray,List.set_cons_succ,List.set_cons_zero,hp]; done) | simp [Act.put,hp]
      refine AllOps.cons (fun x_1 u hC hT hp K hK => ?_) ?_
      ·simp [KnownTill,Region.binds,VLe] at hp
       clear hT
       go_simp
       refine hK undef _ _ hC (Below.refl _ _) (by exact rfl) ?_
       first | (simp only [Act.put,List.setIfInBounds_toArray,List.set_cons_succ,List.set_cons_zero,hp]; done) | simp [Act.put,hp]
      refine AllOps.cons (fun x_1 u hC hT hp K hK => ?_) ?_
      ·simp [KnownTill,Region.binds,VLe] at hp
       clear hT
       go_simp
       refine hK undef _ _ hC (Below.refl _ _) (by exact rfl) ?_
       first | (simp only [Act.put,List.setIfInBounds_toArray,List.set_cons_succ,List.set_cons_zero,hp]; done) | simp [Act.put,hp]
      refine AllOps.cons (fun x_1 u hC hT hp K hK => ?_) ?_
      ·simp [KnownTill,Region.binds,VLe] at hp
       clear hT
       go_simp
       refine hK undef _ _ hC (Below.refl _ _) (by exact rfl) ?_
       first | (simp only [Act.put,List.setIfInBounds_toArray,List.set_cons_succ,List.set_cons_zero,hp]; done) | simp [Act.put,hp]
      refine AllOps.cons (fun x_1 u hC hT hp K hK => ?_) ?_
      ·simp [KnownTill,Region.binds,VLe] at hp
       clear hT
       go_simp
       refine hK undef _ _ hC (Below.refl _ _) (by exact rfl) ?_
       first | (simp only [Act.put,List.setIfInBounds_toArray,List.set_cons_succ,List.set_cons_zero,hp]; done) | simp [Act.put,hp]
      refine AllOps.cons (fun x_1 u hC hT hp K hK => ?_) ?_
      ·simp [KnownTill,Region.binds,VLe] at hp
       clear hT
       go_simp
       refine hK undef _ _ hC (Below.refl _ _) (by exact rfl) ?_
       first | (simp only [Act.put,List.setIfInBounds_toArray,List.set_cons_succ,List.set_cons_zero,hp]; done) | simp [Act.put,hp]
      refine AllOps.cons (fun x_1 u hC hT hp K hK => ?_) ?_
      ·simp [KnownTill,Region.binds,VLe] at hp
       clear hT
       go_simp
       refine hK undef _ _ hC (Below.refl _ _) (by exact rfl) ?_
       first | (simp only [Act.put,List.setIfInBounds_toArray,List.set_cons_succ,List.set_cons_zero,hp]; done) | simp [Act.put,hp]
      refine AllOps.cons (fun x_1 u hC hT hp K hK => ?_) ?_
      ·simp [KnownTill,Region.binds,VLe] at hp
       clear hT
       go_simp
       refine hK undef _ _ hC (Below.refl _ _) (by exact rfl) ?_
       first | (simp only [Act.put,List.setIfInBounds_toArray,List.set_cons_succ,List.set_cons_zero,hp]; done) | simp [Act.put,hp]
      refine AllOps.cons (fun x_1 u hC hT hp K hK => ?_) ?_
      ·simp [KnownTill,Region.binds,VLe] at hp
       clear hT
       go_simp
       refine hK undef _ _ hC (Below.refl _ _) (by exact rfl) ?_
       first | (simp only [Act.put,List.setIfInBounds_toArray,List.set_cons_succ,List.set_cons_zero,hp]; done) | simp [Act.put,hp]
      refine AllOps.cons (fun x_1 u hC hT hp K hK => ?_) ?_
      ·simp [KnownTill,Region.binds,VLe] at hp
       clear hT
       go_simp
       refine hK undef _ _ hC (Below.refl _ _) (by exact rfl) ?_
       first | (simp only [Act.put,List.setIfInBounds_toArray,List.set_cons_succ,List.set_cons_zero,hp]; done) | simp [Act.put,hp]
      refine AllOps.cons (fun x_1 u hC hT hp K hK => ?_) ?_
      ·simp [KnownTill,Region.binds,VLe] at hp
       clear hT
       go_simp
       refine hK undef _ _ hC (Below.refl _ _) (by exact rfl) ?_
       first | (simp only [Act.put,List.setIfInBounds_toArray,List.set_cons_succ,List.set_cons_zero,hp]; done) | simp [Act.put,hp]
      refine AllOps.cons (fun x_1 u hC hT hp K hK => ?_) ?_
      ·simp [KnownTill,Region.binds,VLe] at hp
       clear hT
       go_simp
       refine hK _ _ _ hC (Below.refl _ _) (by exact rfl) ?_
       first | (simp only [Act.put,List.setIfInBounds_toArray,List.set_cons_succ,List.set_cons_zero,hp]; done) | simp [Act.put,hp]
      refine AllOps.cons (fun x_1 u hC hT hp K hK => ?_) ?_
      ·simp [KnownTill,Region.binds,VLe] at hp
       clear hT
       go_simp
       refine hK _ _ _ hC (Below.refl _ _) (by exact rfl) ?_
       first | (simp only [Act.put,List.setIfInBounds_toArray,List.set_cons_succ,List.set_cons_zero,hp]; done) | simp [Act.put,hp]
      exact AllOps.nil
     case finR6 =>
      intro x_1 w6 hC hV
      have e46:x_1 23=.bool false:=hV 23 (by decide) rfl
      rw [e46]
      clear e46
      clear hV
      have HLD:=Lib.hid (And.intro (H5.out.1.below hC) (H5.out.2.1.below hC H5.out.2.1.lt))
      clear hC
      obtain ⟨P9,hP9⟩:∃ P9,P9=P.take j:=⟨_,rfl⟩
      rw [← hP9] at HLD
      obtain ⟨n2,hn2⟩:∃ n2,n2=P9.length:=⟨_,rfl⟩
      have Hn2:Hid (n2=P9.length∧n2≤1000):=Lib.hid ⟨hn2,by rw [hn2,hP9,List.length_take]; omega⟩
      have HP9:=Lib.hid hP9
      clear hn2 hP9
      go_wp2_with fail
      refine wp_region_invT (F:=?FA0) (V:=VLd w gi x B2 (some ⟨b,o,none⟩) A' q c q' c' nx A2 c2 n2 P9 yk yv) (dead:=fun i => if i=7 then some 8 else if i=8 then some 12 else none) (T:=TLd w gi x B2 (some ⟨b,o,none⟩) A' q c q' c' nx A2 c2 P9 gp yk yv) (C:=fun u => Below w.heap.size w u) (E:=ELd x) (by kernel_rfl) (by kernel_rfl) (by kernel_rfl) (fun x_1 => ?hFA0) ?hmonoA0 ?hTmA0 ?hTA0 ?hCA0 ?stepA0 ?finA0
      case hFA0 => simp only [mkA,Act.put,List.setIfInBounds_toArray,List.set_cons_succ,List.set_cons_zero,Nat.reduceAdd,Nat.zero_add]; first | with_reducible rfl | rfl
      case hmonoA0 => exact fun k' i' v u u' he hik hwt hdd hv => VLd.mono he hik (fun hi hk => by subst hi hk; exact hdd rfl) (fun hi hk => by subst hi; rcases hk with rfl | rfl; exact ltf hwt (by kernel_rfl); exact hdd rfl) (fun hi hk => by subst hi; rcases hk with rfl | rfl <;> exact ltf hwt (by kernel_rfl)) hv
      case hTmA0 => exact fun k' j' u u' he hkj hwt hv => TLd.mono he hkj (fun hk hi => by rcases hk with rfl | rfl <;> rcases hi with rfl | rfl <;> exact ltf hwt (by kernel_rfl)) (fun hk hi => by subst hk hi; exact ltf hwt (by kernel_rfl)) hv
      case hTA0 => exact fun j' => by unfold TLd; split <;> first | exact HLD.out.1.below (Below.refl _ _).drew | exact HLD.out.2.below (Below.refl _ _).drew HLD.out.2.lt | trivial
      case hCA0 => exact HLD.out.1.be.drew
      case stepA0 =>
       refine AllOps.cons (fun x_1 u hC hT hp K hK => ?_) ?_
       ·clear hp hT
        go_simp
        refine hK _ _ _ hC rfl (by exact rfl) ?_
        first | (simp only [Act.put,List.setIfInBounds_toArray,List.set_cons_succ,List.set_cons_zero]; done) | simp [Act.put]
       refine AllOps.cons (fun x_1 u hC hT hp K hK => ?_) ?_
       ·clear hp hT
        go_simp
        refine hK _ _ _ hC rfl (by exact rfl) ?_
        first | (simp only [Act.put,List.setIfInBounds_toArray,List.set_cons_succ,List.set_cons_zero]; done) | simp [Act.put]
       refine AllOps.cons (fun x_1 u hC hT hp K hK => ?_) ?_
       ·simp [KnownTill,Region.binds,VLd] at hp
        clear hT
        go_simp
        refine hK _ _ _ hC rfl (by exact rfl) ?_
        first | (simp only [Act.put,List.setIfInBounds_toArray,List.set_cons_succ,List.set_cons_zero,hp]; done) | simp [Act.put,hp]
       refine AllOps.cons (fun x_1 u hC hT hp K hK => ?_) ?_
       ·simp [KnownTill,Region.binds,VLd] at hp
        clear hT
        go_simp
        refine hK _ _ _ hC rfl (by exact rfl) ?_
        first | (simp only [Act.put,List.setIfInBounds_toArray,List.set_cons_succ,List.set_cons_zero,hp]; done) | simp [Act.put,hp]
       refine AllOps.cons (fun x_1 u hC hT hp K hK => ?_) ?_
       ·simp [KnownTill,Region.binds,VLd] at hp
        clear hT
        go_simp
        refine hK _ _ _ hC rfl (by exact rfl) ?_
        first | (simp only [Act.put,List.setIfInBounds_toArray,List.set_cons_succ,List.set_cons_zero,hp]; done) | simp [Act.put,hp]
       refine AllOps.cons (fun x_1 u hC hT hp K hK => ?_) ?_
       ·simp [KnownTill,Region.binds,VLd] at hp
        have hl5:LD w u gi x B2 (some ⟨b,o,none⟩) A' q c q' c' nx A2 c2 P9:=hT
        have cx:=hl5.kx.cell 0
        simp only [List.getElem?_toArray,List.getElem?_cons_zero] at cx
        rw [← Hn2.out.1] at cx
        clear hl5
        go_simp
        refine hK _ _ _ hC rfl rfl ?_
        first | (simp only [Act.put,List.setIfInBounds_toArray,List.set_cons_succ,List.set_cons_zero,hp]; done) | simp [Act.put,hp]
       refine AllOps.cons (fun x_1 u hC hT hp K hK => ?_) ?_
       ·clear hp
        have hk6:Blk u gp 114 #[.int .i64 yk,.int .u64 (yv:Nat)]:=hT
        have cy0:=hk6.cell 0
        have cy1:=hk6.cell 1
        simp only [List.getElem?_toArray,List.getElem?_cons_zero,List.getElem?_cons_succ] at cy0 cy1
        clear hk6
        go_simp
        refine hK _ _ _ hC rfl rfl ?_
        first | (simp only [Act.put,List.setIfInBounds_toArray,List.set_cons_succ,List.set_cons_zero]; done) | simp [Act.put]
       refine AllOps.cons (fun x_1 u hC hT hp K hK => ?_) ?_
       ·simp [KnownTill,Region.binds,VLd] at hp
        clear hT
        go_simp
        refine hK _ _ _ (Go.Proofs.YtlliaihmfimdoaaGreat.bt hC (ba u (.cells #[.int .i64 yk,.int .u64 (yv:Nat)] 114))) (ba u (.cells #[.int .i64 yk,.int .u64 (yv:Nat)] 114)) ⟨u.heap.size,rfl,Blk.new u _ _⟩ ?_
        first | (simp only [Act.put,List.setIfInBounds_toArray,List.set_cons_succ,List.set_cons_zero,hp]; done) | simp [Act.put,hp]
       refine AllOps.cons (fun x_1 u hC hT hp K hK => ?_) ?_
       ·simp [KnownTill,Region.binds,VLd] at hp
        have hl8:LD w u gi x B2 (some ⟨b,o,none⟩) A' q c q' c' nx A2 c2 P9:=hT
        obtain ⟨e5,r,e7,kr⟩:x_1 5=.slice A2 n2 c2∧NewS u yk yv (x_1 7):=by first | exact hp | exact ⟨hp.1,hp.2.1⟩ | exact ⟨hp.1,hp.2⟩
        clear hp
        obtain ⟨A3,c3,w3,hrun,hbw,hmd⟩:=hl8.more (by rw [← Hn2.out.1]; exact Hn2.out.2) (Below.refl _ _) yk yv kr
        rw [← Hn2.out.1] at hrun hmd
        have HM:=Lib.hid (And.intro hbw.1 hmd)
        clear hl8 kr hbw hmd
        refine step_append_run rfl (.tmp 52) (.tmp 54) 26 rfl _ _ _ w3 (by simp [Act.eval,e5]) (by simp [Act.eval,e7]) hrun ?_
        refine hK _ _ _ HM.out.1 trivial HM.out.2 ?_
        simp [Act.put]
       refine AllOps.cons (fun x_1 u hC hT hp K hK => ?_) ?_
       ·simp [KnownTill,Region.binds,VLd] at hp
        clear hT
        go_simp
        refine hK _ _ _ hC rfl (by exact rfl) ?_
        first | (simp only [Act.put,List.setIfInBounds_toArray,List.set_cons_succ,List.set_cons_zero,hp]; done) | simp [Act.put,hp]
       refine AllOps.cons (fun x_1 u hC hT hp K hK => ?_) ?_
       ·simp [KnownTill,Region.binds,VLd] at hp
        clear hT
        go_simp
        refine hK _ _ _ hC rfl (by exact rfl) ?_
        first | (simp only [Act.put,List.setIfInBounds_toArray,List.set_cons_succ,List.set_cons_zero,hp]; done) | simp [Act.put,hp]
       refine AllOps.cons (fun x_1 u hC hT hp K hK => ?_) ?_
       ·simp [KnownTill,Region.binds,VLd] at hp
        clear hT
        go_simp
        refine hK _ _ _ hC rfl (by exact rfl) ?_
        first | (simp only [Act.put,List.setIfInBounds_toArray,List.set_cons_succ,List.set_cons_zero,hp]; done) | simp [Act.put,hp]
       refine AllOps.cons (fun x_1 u hC hT hp K hK => ?_) ?_
       ·simp [KnownTill,Region.binds,VLd] at hp
        clear hT
        obtain ⟨A3,c3,e8,⟨csx,kx,hsz⟩,hld3⟩:MD w u gi x B2 (some ⟨b,o,none⟩) A' q c q' c' nx (P9 ++ [(yk,yv)]) (n2 + 1) (x_1 8):=by first | exact hp.1 | exact hp.2.1 | exact hp.2 | exact hp.2.2
        have e11:x_1 11=.pointer (some ⟨x,0,none⟩):=by first | exact hp.1 | exact hp.2.1 | exact hp.2 | exact hp.2.2
        clear hp
        have fx:=kx.frozen 0
        have cx:u.cell? ⟨x,0,none⟩=some csx[0]:=(kx.cell 0).trans (Array.getElem?_eq_getElem hsz)
        have hg:=lgrown_set u ⟨x,0,none⟩ (.slice A3 (n2 + 1) c3)
        have HM:=Lib.hid (And.intro hld3 (And.intro kx hg))
        clear hld3 kx hg
        generalize csx[0]=s0 at cx
        simp only [e8,e11]
        go_simp
        refine hK undef _ _ HM.out.1.be ⟨_,HM.out.2.1,HM.out.2.2⟩ ⟨A3,c3,HM.out.1⟩ ?_
        simp [Act.put,e8,e11]
       exact AllOps.nil
      case finA0 =>
       intro x_1 u hC hV
       obtain ⟨A3,c3,hl3⟩:∃ A3 c3,LD w u gi x B2 (some ⟨b,o,none⟩) A' q c q' c' nx A3 c3 (P9 ++ [(yk,yv)]):=hV 12 (by decide) rfl
       rw [HP9.out,← H5.out.2.2.1] at hl3
       have HNx:Hid ((∃ A2 c2,LD w u gi x B2 (some ⟨b,o,none⟩) A' q c q' c' nx A2 c2 (P.take (j + 1)))∧Re.risF 0 P=Re.risF (loK P (j + 1)) (P.drop (j + 1))∧0≤loK P (j + 1)):=Lib.hid ⟨⟨A3,c3,hl3⟩,HN.out⟩
       clear hV hC hl3 HLD Hn2 HN H5 HR HP9
       rw [HZ.out]
       go_wp2
       go_roundw
       case rel => exact ⟨j + 1,by omega,by go_num,HNx⟩
       case measure => simp [intOf]; omega
    ·obtain ⟨i,rfl⟩:∃ i,j=i + 1:=⟨j - 1,by omega⟩
     have c2':=HC2.out i rfl
     have hiI:(i:Int) < (q:Int):=by omega
     have hi0:(0:Int) < (i:Int) + 1:=by omega
     have hi1:(i:Int) + 1 < (q:Int):=by omega
     have wi:IntKind.i64.wrap (i:Int)=i:=IntWalk.i64_in _ (by omega)
     clear HC2 hj0
     push_cast
     go_quiet (fail)
     have HLD:=Lib.hid (HX.out nq)
     clear c0 c1 c2' HX p0 p1 m0
     generalize w5.drewN nq=w6 at HLD ⊢
     obtain ⟨P9,hP9⟩:∃ P9,P9=P.take (i + 1):=⟨_,rfl⟩
     rw [← hP9] at HLD
     obtain ⟨n2,hn2⟩:∃ n2,n2=P9.length:=⟨_,rfl⟩
     have Hn2:Hid (n2=P9.length∧n2≤1000):=Lib.hid ⟨hn2,by rw [hn2,hP9,List.length_take]; omega⟩
     have HP9:=Lib.hid hP9
     clear hn2 hP9
     go_wp2_with fail
     refine wp_region_invT (F:=?FA1) (V:=VLd w gi x B2 (some ⟨b,o,none⟩) A' q c q' c' nx A2 c2 n2 P9 yk yv) (dead:=fun i => if i=7 then some 8 else if i=8 then some 12 else none) (T:=TLd w gi x B2 (some ⟨b,o,none⟩) A' q c q' c' nx A2 c2 P9 gp yk yv) (C:=fun u => Below w.heap.size w u) (E:=ELd x) (by kernel_rfl) (by kernel_rfl) (by kernel_rfl) (fun x_1 => ?hFA1) ?hmonoA1 ?hTmA1 ?hTA1 ?hCA1 ?stepA1 ?finA1
     case hFA1 => simp only [mkA,Act.put,List.setIfInBounds_toArray,List.set_cons_succ,List.set_cons_zero,Nat.reduceAdd,Nat.zero_add]; first | with_reducible rfl | rfl
     case hmonoA1 => exact fun k' i' v u u' he hik hwt hdd hv => VLd.mono he hik (fun hi hk => by subst hi hk; exact hdd rfl) (fun hi hk => by subst hi; rcases hk with rfl | rfl; exact ltf hwt (by kernel_rfl); exact hdd rfl) (fun hi hk => by subst hi; rcases hk with rfl | rfl <;> exact ltf hwt (by kernel_rfl)) hv
     case hTmA1 => exact fun k' j' u u' he hkj hwt hv => TLd.mono he hkj (fun hk hi => by rcases hk with rfl | rfl <;> rcases hi with rfl | rfl <;> exact ltf hwt (by kernel_rfl)) (fun hk hi => by subst hk hi; exact ltf hwt (by kernel_rfl)) hv
     case hTA1 => exact fun j' => by unfold TLd; split <;> first | exact HLD.out.1.below (Below.refl _ _).drew | exact HLD.out.2.below (Below.refl _ _).drew HLD.out.2.lt | trivial
     case hCA1 => exact HLD.out.1.be.drew
     case stepA1 =>
      refine AllOps.cons (fun x_1 u hC hT hp K hK => ?_) ?_
      ·clear hp hT
       go_simp
       refine hK _ _ _ hC rfl (by exact rfl) ?_
       first | (simp only [Act.put,List.setIfInBounds_toArray,List.set_cons_succ,List.set_cons_zero]; done) | simp [Act.put]
      refine AllOps.cons (fun x_1 u hC hT hp K hK => ?_) ?_
      ·clear hp hT
       go_simp
       refine hK _ _ _ hC rfl (by exact rfl) ?_
       first | (simp only [Act.put,List.setIfInBounds_toArray,List.set_cons_succ,List.set_cons_zero]; done) | simp [Act.put]
      refine AllOps.cons (fun x_1 u hC hT hp K hK => ?_) ?_
      ·simp [KnownTill,Region.binds,VLd] at hp
       clear hT
       go_simp
       refine hK _ _ _ hC rfl (by exact rfl) ?_
       first | (simp only [Act.put,List.setIfInBounds_toArray,List.set_cons_succ,List.set_cons_zero,hp]; done) | simp [Act.put,hp]
      refine AllOps.cons (fun x_1 u hC hT hp K hK => ?_) ?_
      ·simp [KnownTill,Region.binds,VLd] at hp
       clear hT
       go_simp
       refine hK _ _ _ hC rfl (by exact rfl) ?_
       first | (simp only [Act.put,List.setIfInBounds_toArray,List.set_cons_succ,List.set_cons_zero,hp]; done) | simp [Act.put,hp]
      refine AllOps.cons (fun x_1 u hC hT hp K hK => ?_) ?_
      ·simp [KnownTill,Region.binds,VLd] at hp
       clear hT
       go_simp
       refine hK _ _ _ hC rfl (by exact rfl) ?_
       first | (simp only [Act.put,List.setIfInBounds_toArray,List.set_cons_succ,List.set_cons_zero,hp]; done) | simp [Act.put,hp]
      refine AllOps.cons (fun x_1 u hC hT hp K hK => ?_) ?_
      ·simp [KnownTill,Region.binds,VLd] at hp
       have hl5:LD w u gi x B2 (some ⟨b,o,none⟩) A' q c q' c' nx A2 c2 P9:=hT
       have cx:=hl5.kx.cell 0
       simp only [List.getElem?_toArray,List.getElem?_cons_zero] at cx
       rw [← Hn2.out.1] at cx
       clear hl5
       go_simp
       refine hK _ _ _ hC rfl rfl ?_
       first | (simp only [Act.put,List.setIfInBounds_toArray,List.set_cons_succ,List.set_cons_zero,hp]; done) | simp [Act.put,hp]
      refine AllOps.cons (fun x_1 u hC hT hp K hK => ?_) ?_
      ·clear hp
       have hk6:Blk u gp 114 #[.int .i64 yk,.int .u64 (yv:Nat)]:=hT
       have cy0:=hk6.cell 0
       have cy1:=hk6.cell 1
       simp only [List.getElem?_toArray,List.getElem?_cons_zero,List.getElem?_cons_succ] at cy0 cy1
       clear hk6
       go_simp
       refine hK _ _ _ hC rfl rfl ?_
       first | (simp only [Act.put,List.setIfInBounds_toArray,List.set_cons_succ,List.set_cons_zero]; done) | simp [Act.put]
      refine AllOps.cons (fun x_1 u hC hT hp K hK => ?_) ?_
      ·simp [KnownTill,Region.binds,VLd] at hp
       clear hT
       go_simp
       refine hK _ _ _ (Go.Proofs.YtlliaihmfimdoaaGreat.bt hC (ba u (.cells #[.int .i64 yk,.int .u64 (yv:Nat)] 114))) (ba u (.cells #[.int .i64 yk,.int .u64 (yv:Nat)] 114)) ⟨u.heap.size,rfl,Blk.new u _ _⟩ ?_
       first | (simp only [Act.put,List.setIfInBounds_toArray,List.set_cons_succ,List.set_cons_zero,hp]; done) | simp [Act.put,hp]
      refine AllOps.cons (fun x_1 u hC hT hp K hK => ?_) ?_
      ·simp [KnownTill,Region.binds,VLd] at hp
       have hl8:LD w u gi x B2 (some ⟨b,o,none⟩) A' q c q' c' nx A2 c2 P9:=hT
       obtain ⟨e5,r,e7,kr⟩:x_1 5=.slice A2 n2 c2∧NewS u yk yv (x_1 7):=by first | exact hp | exact ⟨hp.1,hp.2.1⟩ | exact ⟨hp.1,hp.2⟩
       clear hp
       obtain ⟨A3,c3,w3,hrun,hbw,hmd⟩:=hl8.more (by rw [← Hn2.out.1]; exact Hn2.out.2) (Below.refl _ _) yk yv kr
       rw [← Hn2.out.1] at hrun hmd
       have HM:=Lib.hid (And.intro hbw.1 hmd)
       clear hl8 kr hbw hmd
       refine step_append_run rfl (.tmp 52) (.tmp 54) 26 rfl _ _ _ w3 (by simp [Act.eval,e5]) (by simp [Act.eval,e7]) hrun ?_
       refine hK _ _ _ HM.out.1 trivial HM.out.2 ?_
       simp [Act.put]
      refine AllOps.cons (fun x_1 u hC hT hp K hK => ?_) ?_
      ·simp [KnownTill,Region.binds,VLd] at hp
       clear hT
       go_simp
       refine hK _ _ _ hC rfl (by exact rfl) ?_
       first | (simp only [Act.put,List.setIfInBounds_toArray,List.set_cons_succ,List.set_cons_zero,hp]; done) | simp [Act.put,hp]
      refine AllOps.cons (fun x_1 u hC hT hp K hK => ?_) ?_
      ·simp [KnownTill,Region.binds,VLd] at hp
       clear hT
       go_simp
       refine hK _ _ _ hC rfl (by exact rfl) ?_
       first | (simp only [Act.put,List.setIfInBounds_toArray,List.set_cons_succ,List.set_cons_zero,hp]; done) | simp [Act.put,hp]
      refine AllOps.cons (fun x_1 u hC hT hp K hK => ?_) ?_
      ·simp [KnownTill,Region.binds,VLd] at hp
       clear hT
       go_simp
       refine hK _ _ _ hC rfl (by exact rfl) ?_
       first | (simp only [Act.put,List.setIfInBounds_toArray,List.set_cons_succ,List.set_cons_zero,hp]; done) | simp [Act.put,hp]
      refine AllOps.cons (fun x_1 u hC hT hp K hK => ?_) ?_
      ·simp [KnownTill,Region.binds,VLd] at hp
       clear hT
       obtain ⟨A3,c3,e8,⟨csx,kx,hsz⟩,hld3⟩:MD w u gi x B2 (some ⟨b,o,none⟩) A' q c q' c' nx (P9 ++ [(yk,yv)]) (n2 + 1) (x_1 8):=by first | exact hp.1 | exact hp.2.1 | exact hp.2 | exact hp.2.2
       have e11:x_1 11=.pointer (some ⟨x,0,none⟩):=by first | exact hp.1 | exact hp.2.1 | exact hp.2 | exact hp.2.2
       clear hp
       have fx:=kx.frozen 0
       have cx:u.cell? ⟨x,0,none⟩=some csx[0]:=(kx.cell 0).trans (Array.getElem?_eq_getElem hsz)
       have hg:=lgrown_set u ⟨x,0,none⟩ (.slice A3 (n2 + 1) c3)
       have HM:=Lib.hid (And.intro hld3 (And.intro kx hg))
       clear hld3 kx hg
       generalize csx[0]=s0 at cx
       simp only [e8,e11]
       go_simp
       refine hK undef _ _ HM.out.1.be ⟨_,HM.out.2.1,HM.out.2.2⟩ ⟨A3,c3,HM.out.1⟩ ?_
       simp [Act.put,e8,e11]
      exact AllOps.nil
     case finA1 =>
      intro x_1 u hC hV
      obtain ⟨A3,c3,hl3⟩:∃ A3 c3,LD w u gi x B2 (some ⟨b,o,none⟩) A' q c q' c' nx A3 c3 (P9 ++ [(yk,yv)]):=hV 12 (by decide) rfl
      rw [HP9.out,← H5.out.2.2.1] at hl3
      have HNx:Hid ((∃ A2 c2,LD w u gi x B2 (some ⟨b,o,none⟩) A' q c q' c' nx A2 c2 (P.take (i + 1 + 1)))∧Re.risF 0 P=Re.risF (loK P (i + 1 + 1)) (P.drop (i + 1 + 1))∧0≤loK P (i + 1 + 1)):=Lib.hid ⟨⟨A3,c3,hl3⟩,HN.out⟩
      clear hV hC hl3 HLD Hn2 HN H5 HR HP9
      go_wp2
      go_roundw
      case rel => exact ⟨i + 1 + 1,by omega,by go_num,HNx⟩
      case measure => simp [intOf]; omega
  ·have hjI:¬ (j:Int) < (q:Int):=by omega
   have hjj:P.take j=P:=List.take_of_length_le (by rw [← HQ.out.1]; omega)
   have hdd:P.drop j=[]:=List.drop_eq_nil_of_le (by rw [← HQ.out.1]; omega)
   rw [hjj] at hld
   rw [hdd] at hris
   have HRi:Hid (Re.risF 0 P=true):=Lib.hid hris
   have HLD:=Lib.hid hld
   have m1:=hld.ki.cell 1
   have m2:=hld.ki.cell 2
   simp only [List.getElem?_toArray,List.getElem?_cons_zero,List.getElem?_cons_succ] at m1 m2
   clear hjj hdd hris hld hlo HR
   obtain ⟨nn,hnn⟩:∃ nn,nn=Re.loadN nx vs.length:=⟨_,rfl⟩
   have HE:dloadE P vs nx=(Qu.loadR [] [] 0 vs nn).1:=by unfold dloadE; rw [HRi.out,if_neg (by simp),hnn]
   have hfin:∀ u' e,DR u' B x P [] [] (Qu.loadR [] [] 0 vs nn).2.1 [] (Qu.loadR [] [] 0 vs nn).2.2→Below w.heap.size w u'→((Qu.loadR [] [] 0 vs nn).1≠0→e=.returned (.tuple #[.pointer none,.int .i64 (Qu.loadR [] [] 0 vs nn).1]))→((Qu.loadR [] [] 0 vs nn).1=0→e=.returned (.tuple #[.pointer (some ⟨x,0,none⟩),.int .i64 0]))→DLoadO w B P vs nx e u':=fun u' e hd hb h1 h2 => by
    refine ⟨hb,?_⟩
    rw [HE]
    by_cases e0:(Qu.loadR [] [] 0 vs nn).1=0
    ·exact .inr ⟨e0,x,h2 e0,HLD.out.ne.2.2.1,by rw [← hnn]; exact hd⟩
    ·exact .inl ⟨e0,h1 e0⟩
   have HL:Hid (∀ u,Below wr.heap.size wr u→Calls Tryz.prog 55 #[.pointer (some ⟨x,3,none⟩),.slice A' q' c',.int .i64 nn] u fun e u' => e=.returned (.int .i64 (Qu.loadR [] [] 0 vs nn).1)∧DR u' B x P [] [] (Qu.loadR [] [] 0 vs nn).2.1 [] (Qu.loadR [] [] 0 vs nn).2.2∧Below w.heap.size w u'):=Lib.hid fun u hu => by
    have hl:=HLD.out.below hu
    have hl16:P.length≤100:=by have:=ris_len P 0 (by omega) HRi.out; omega
    have hR2:Qu.Dq.RQ (.slice A2 P.length c2,.slice none 0 0,.slice none 0 0) u w.heap.size x [] [] 0:=⟨⟨none,0,0,none,0,0,hl.kx,rfl,rfl,World.ownsRow_nil _ _ _ _,World.ownsRow_nil _ _ _ _⟩,(fun y hy => nomatch hy),List.Pairwise.nil,⟨by decide,by decide,fun y hy => nomatch hy⟩⟩
    have hbe:∀ u',Qu.RH w.heap.size u u' x (fun _ => False)→Below w.heap.size w u':=fun u' hu' => ⟨hu'.os.trans hl.be.os,hu'.tape.trans hl.be.tape,hu'.output.trans hl.be.output,Nat.le_trans hl.be.size hu'.size,fun k hk => (hu'.low k hk (Nat.lt_of_lt_of_le hk hl.be.size) (by have:=hl.ne.2.2.1; omega)).trans (hl.be.block k hk)⟩
    refine (Qu.Dq.rload_any w.heap.size x [] [] 0 A' vs q' c' nn u hR2 hl.be.size (Lib.hid HQ.out.2.1) (fun u' hu' => HQ.out.2.2.2.below (hbe u' hu'))).mono ?_
    rintro e u' ⟨rfl,hR2',hG⟩
    refine ⟨rfl,?_,hbe u' hG⟩
    obtain ⟨AP',nP',cP',AW',nW',cW',kx',x1,x2,x3,x4⟩:=hR2'.ex
    refine ⟨⟨_,_,_,_,_,⟨⟨A2,P.length,c2,none,0,0,none,0,0,kx',rfl,rfl,rfl,own_same (own_less hl.own (Nat.le_trans HBw.out hl.ne.2.2.2)) (fun r hr ht hb => ?_),World.ownsRow_nil _ _ _ _,LRows.empty _ _⟩,(fun y hy => nomatch hy),List.Pairwise.nil,⟨hl16,by decide,by decide,fun y hy => nomatch hy⟩⟩,⟨⟨AP',nP',cP',AW',nW',cW',kx',x1,x2,own_less x3 HBw.out,own_less x4 HBw.out⟩,(fun y hy => nomatch hy),List.Pairwise.nil,hR2'.sm⟩,kx'⟩,fun y hy => nomatch hy⟩
    obtain ⟨cs,fz,ht⟩:=ht
    have hrx:r≠x:=fun e => by
     subst e
     have:=hl.kx
     unfold Blk at this
     rw [this] at ht
     injection ht with ht
     injection ht with _ ht _
     exact absurd ht (by decide)
    rcases hG.block r hr hrx with e | ⟨cs,fz,e⟩ | ⟨cs,fz,e⟩ | ⟨cs,fz,e⟩ | ⟨_,e⟩
    ·exact e
    ·rw [ht] at e; injection e with e; injection e with _ e _; exact absurd e (by decide)
    ·rw [ht] at e; injection e with e; injection e with _ e _; exact absurd e (by decide)
    ·rw [ht] at e; injection e with e; injection e with _ e _; exact absurd e (by decide)
    ·exact e.elim
   have HFin:=Lib.hid hfin
   obtain ⟨LR,hLR⟩:∃ LR,LR=Qu.loadR [] [] 0 vs nn:=⟨_,rfl⟩
   rw [← hLR] at HL HFin
   obtain ⟨er,Q',gv'⟩:=LR
   dsimp only at HL HFin
   have HNN:Hid (nn=if nx=0∧q'=0 then 1 else nx):=Lib.hid (by rw [hnn,HQ.out.2.1]; rfl)
   clear hLR HE hfin hnn
   by_cases nx0:nx=0
   ·subst nx0
    by_cases q0:q'=0
    ·have hnn:nn=1:=by rw [HNN.out,if_pos ⟨rfl,q0⟩]
     subst hnn q0
     clear HNN
     go_wp2_with fail
     have z1:wr.drew.cell? ⟨gi,1,none⟩=some (.slice A' 0 c'):=m1
     go_still_tail 6,(by kernel_rfl)
     repeat still_step
     change wpList _ _ _ _ _ wr.drew
     have HDr:Hid (Below wr.heap.size wr wr.drew):=Lib.hid (Below.refl _ _).drew
     clear z1 m0 m1 m2
     generalize wr.drew=wd at HDr ⊢
     go_wp2_with fail
     refine (HL.out wd HDr.out).mono ?_
     rintro e w9 ⟨rfl,hd9,hb9⟩
     by_cases e0:er=0
     ·have HX:=Lib.hid (HFin.out w9 (.returned (.tuple #[.pointer (some ⟨x,0,none⟩),.int .i64 0])) hd9 hb9 (fun h => absurd e0 h) (fun _ => rfl))
      subst e0
      clear hd9 hb9
      go_wp2
      go_returns
      exact HX.out
     ·have HX:=Lib.hid (HFin.out w9 (.returned (.tuple #[.pointer none,.int .i64 er])) hd9 hb9 (fun _ => rfl) (fun h => absurd h e0))
      have e1:(er != 0)=true:=by simpa using e0
      clear hd9 hb9
      go_wp2
      go_returns
      exact HX.out
    ·have hnn:nn=0:=by rw [HNN.out,if_neg (fun h => q0 h.2)]
     have qz:((q':Int) == 0)=false:=beq_eq_false_iff_ne.2 (by omega)
     have qy:¬ q'=0:=q0
     subst hnn
     clear HNN
     go_wp2_with fail
     have z1:wr.drew.cell? ⟨gi,1,none⟩=some (.slice A' q' c'):=m1
     go_still_tail 6,(by kernel_rfl)
     repeat still_step
     change wpList _ _ _ _ _ wr.drew
     have HDr:Hid (Below wr.heap.size wr wr.drew):=Lib.hid (Below.refl _ _).drew
     clear z1 m0 m1 m2
     generalize wr.drew=wd at HDr ⊢
     go_wp2_with fail
     refine (HL.out wd HDr.out).mono ?_
     rintro e w9 ⟨rfl,hd9,hb9⟩
     by_cases e0:er=0
     ·have HX:=Lib.hid (HFin.out w9 (.returned (.tuple #[.pointer (some ⟨x,0,none⟩),.int .i64 0])) hd9 hb9 (fun h => absurd e0 h) (fun _ => rfl))
      subst e0
      clear hd9 hb9
      go_wp2
      go_returns
      exact HX.out
     ·have HX:=Lib.hid (HFin.out w9 (.returned (.tuple #[.pointer none,.int .i64 er])) hd9 hb9 (fun _ => rfl) (fun h => absurd h e0))
      have e1:(er != 0)=true:=by simpa using e0
      clear hd9 hb9
      go_wp2
      go_returns
      exact HX.out
   ·have hnn:nn=nx:=by rw [HNN.out,if_neg (fun h => nx0 h.1)]
    have nz:(nx == 0)=false:=beq_eq_false_iff_ne.2 nx0
    subst hnn
    clear HNN
    go_wp2_with fail
    have z1:wr.drew.cell? ⟨gi,1,none⟩=some (.slice A' q' c'):=m1
    go_still_tail 6,(by kernel_rfl)
    repeat still_step
    change wpList _ _ _ _ _ wr.drew
    have HDr:Hid (Below wr.heap.size wr wr.drew):=Lib.hid (Below.refl _ _).drew
    clear z1 m0 m1 m2
    generalize wr.drew=wd at HDr ⊢
    go_wp2_with fail
    refine (HL.out wd HDr.out).mono ?_
    rintro e w9 ⟨rfl,hd9,hb9⟩
    by_cases e0:er=0
    ·have HX:=Lib.hid (HFin.out w9 (.returned (.tuple #[.pointer (some ⟨x,0,none⟩),.int .i64 0])) hd9 hb9 (fun h => absurd e0 h) (fun _ => rfl))
     subst e0
     clear hd9 hb9
     go_wp2
     go_returns
     exact HX.out
    ·have HX:=Lib.hid (HFin.out w9 (.returned (.tuple #[.pointer none,.int .i64 er])) hd9 hb9 (fun _ => rfl) (fun h => absurd h e0))
     have e1:(er != 0)=true:=by simpa using e0
     clear hd9 hb9
     go_wp2
     go_returns
     exact HX.out
end Go.Proofs.YtlliaihmfimdoaaGreat.Dr


namespace Go.Proofs.YtlliaihmfimdoaaGreat.Re
open Go.RowKit Go.ChangeShapes Go.WideShapes Go.Joins Go.Deep Go.Proofs.YtlliaihmfimdoaaGreat
structure ImV where
 A:Option Addr
 P:List (Int × Nat)
 c:Nat
 U:Option Addr
 vs:List Nat
 d:Nat
 nx:Int
def ImV.val (m:ImV):Value:=.agg #[.slice m.A m.P.length m.c,.slice m.U m.vs.length m.d,.int .i64 m.nx]
structure ImIn (w:World) (m:ImV):Prop where
 p:InRp w m.A m.P
 u:Qu.UAt w m.U m.vs
 l1:m.P.length≤maxLen
 l2:m.vs.length≤maxLen
 n:i64ok m.nx
theorem array3 {α:Type} {cs:Array α} (h:cs.size=3):∃ c0 c1 c2,cs=#[c0,c1,c2]:=by
 obtain ⟨l⟩:=cs
 match l,h with
 | [c0,c1,c2],_ => exact ⟨c0,c1,c2,rfl⟩
section
variable {H:Type} {enc:TypeId × Value→H} {W:World}
set_option maxRecDepth 1000000 in
theorem prs_trod {fuel:Nat} {v:Value} {y:DataW H × List MemPlace} (hf:DataW.trod enc Tryz.prog W 0 (fun _ => true) true fuel 56 [v]=some y) :
  ∃ A P c,v=.slice A (List.length P) c∧List.length P≤maxLen∧InRp W A P:=by
 have hC:Tryz.prog.cellsOf 85=2:=by kernel_rfl
 rcases open_slice Tryz.underlying56 hf with ⟨hcs,_⟩ | ⟨x,len,cap,m,n,D,Pl,hcs,_,hl,hm,hmm,_,hi⟩
 ·simp at hcs
  subst hcs
  exact ⟨none,[],0,rfl,by simp [maxLen],fun h => absurd h (by simp)⟩
 ·simp at hcs
  subst hcs
  simp only [if_true] at hmm
  subst hmm
  have each:∀ i,i < m→∃ o:Int × Nat,W.cell? (x.add (i * 2))=some (.int .i64 o.1)∧W.cell? ((x.add (i * 2)).add 1)=some (.int .u64 (o.2:Nat)):=by
   intro i him
   obtain ⟨cs',hc,ht⟩:=hi i him
   rw [hC] at hc
   obtain ⟨_,hcl,hat⟩:=World.cells?_some hc
   obtain ⟨xs,n',_,_,_,hxl,hf'⟩:=DataW.trod_struct Tryz.underlying85 ht
   match cs',hcl with
   | [c0,c1],_ =>
    match xs,hxl with
    | [y0,y1],_ =>
     have g0:=hf' 0 _ rfl
     have g1:=hf' 1 _ rfl
     have e_0:Tryz.prog.cellsOf 3=1:=by kernel_rfl
     have e_1:Tryz.prog.cellsOf 39=1:=by kernel_rfl
     simp [e_0,e_1] at g0 g1
     obtain ⟨z0,rfl,b0,d0⟩:=i64_trodB Tryz.underlying3 g0
     obtain ⟨z1,rfl,b1⟩:=u64_trodB Tryz.underlying39 g1
     have a0:=hat 0 (by omega)
     have a1:=hat 1 (by omega)
     have ez:(x.add (i * 2)).add 0=x.add (i * 2):=by simp [Addr.add]
     rw [ez] at a0
     exact ⟨⟨z0,z1⟩,a0,a1⟩
  let f:Nat→Int × Nat:=fun i => if h:i < m then (each i h).choose else ⟨0,0⟩
  have hf1:∀ i,(h:i < m)→W.cell? (x.add (i * 2))=some (.int .i64 (f i).1)∧W.cell? ((x.add (i * 2)).add 1)=some (.int .u64 ((f i).2:Nat)):=by
   intro i h
   have:=(each i h).choose_spec
   simp only [f,dif_pos h]
   exact this
  refine ⟨some x,(List.range len).map f,_,by simp; rfl,by simp; omega,fun hpos => ?_⟩
  ·have hpos':0 < len:=by simpa using hpos
   have h00:=(hf1 0 (by omega)).1
   have ez:x.add (0 * 2)=x:=by simp [Addr.add]
   rw [ez] at h00
   obtain ⟨b,o,rfl,hlt⟩:=add_spotB h00
   refine ⟨b,o,rfl,hlt,fun i hi' => ?_⟩
   have hi2:i < len:=by simpa using hi'
   have:=(hf1 i (by omega))
   simp only [Addr.add_lit] at this
   simpa using this
set_option maxRecDepth 1000000 in
theorem open_img {r:Reach} {b0:Nat} {v:Value} {d:DataW H} {p:List MemPlace} (hval:Value.okWide Tryz.prog W r b0 58 v) (h:DataW.Trod enc Tryz.prog W 0 (fun _ => true) true 58 v d p) :
  ∃ m:ImV,v=m.val∧ImIn W m:=by
 have hC:Tryz.prog.cellsOf 58=3:=by kernel_rfl
 obtain ⟨cs,rfl,hsz⟩:=okWide_struct Tryz.underlying58 hval
 obtain ⟨c0,c1,c2,rfl⟩:=array3 (hsz.trans hC)
 obtain ⟨fuel,hf⟩:=h
 obtain ⟨xs,n',_,_,_,hxl,hf'⟩:=DataW.trod_struct Tryz.underlying58 hf
 match xs,hxl with
 | [y0,y1,y2],_ =>
  have g0:=hf' 0 _ rfl
  have g1:=hf' 1 _ rfl
  have g2:=hf' 2 _ rfl
  have e_0:Tryz.prog.cellsOf 3=1:=by kernel_rfl
  have e_2:Tryz.prog.cellsOf 56=1:=by kernel_rfl
  have e_3:Tryz.prog.cellsOf 52=1:=by kernel_rfl
  simp [Value.cells,e_0,e_2,e_3] at g0 g1 g2
  obtain ⟨A4,l4,c4',rfl,b4,b4'⟩:=prs_trod g0
  obtain ⟨A5,l5,c5',rfl,b5⟩:=Qu.u64s_trod g1
  obtain ⟨z2,rfl,b2,d2⟩:=i64_trodB Tryz.underlying3 g2
  exact ⟨⟨A4,l4,c4',A5,l5,c5',z2⟩,rfl,⟨b4',b5.2,b4,b5.1,⟨b2,d2⟩⟩⟩
end
end Go.Proofs.YtlliaihmfimdoaaGreat.Re


namespace Go.Proofs.YtlliaihmfimdoaaGreat.Dr
open Go.RowKit Go.Maps Go.Joins Go.Deep Go.Proofs.YtlliaihmfimdoaaGreat
theorem LvAt.load {w w1 u:World} {g x:Nat} {cs:Array Value} {N:Nat} {P:List (Int × Nat)} {vs:List Nat} {nx:Int} (he:dloadE P vs nx=0) (hk:Re.ResAt w1 g cs (Re.loadR P vs nx) N) (b1:Below w1.heap.size w1 u) (bw:Below w.heap.size w w1) (hg:w.heap.size≤g) (hx:w1.heap.size≤x) (hd:DR u w.heap.size x P [] [] (Qu.loadR [] [] 0 vs (Re.loadN nx vs.length)).2.1 [] (Qu.loadR [] [] 0 vs (Re.loadN nx vs.length)).2.2):∃ S P ws Q qs gv,LvAt w u g x S P ws Q qs gv N 0:=by
 obtain ⟨h1,h2,h3,h4,h5,h6⟩:=load_rel he
 exact ⟨Re.loadR P vs nx,P,[],_,[],_,⟨cs,hk.below b1⟩,by rw [h4]; exact hd,h1,h2,(fun y hy => nomatch hy),bt bw b1,⟨hg,Nat.le_trans bw.size hx⟩,(fun b _ h => by rcases h with ⟨y,hy,_⟩ | ⟨y,hy,_⟩ <;> exact nomatch hy),(fun b _ h => by rcases h with ⟨y,hy,_⟩ | ⟨y,hy,_⟩ <;> exact nomatch hy),fun b _ => h5 b,⟨Nat.le_refl _,Nat.le_refl _⟩,fun y hy => by rw [h3] at hy; exact nomatch hy⟩
def VLw (g xb b o j n cl:Nat) (ov:Value) (FIN:World→Prop) (ST LST IMG DOC:World→Value→Prop) (i:Nat) (v:Value) (w:World):Prop :=
 match i with
 | 0 => v=.pointer (some ⟨g,0,none⟩)
 | 1 => v=.slice (some ⟨b,o,none⟩) n cl
 | 2 => v=.int .i64 j
 | 3 => v=.pointer (some ⟨b,o + j * 5,none⟩)
 | 4 => v=ov
 | 5 => ST w v
 | 6 => v=.pointer (some ⟨xb,0,none⟩)
 | 7 => v=.slice (some ⟨b,o,none⟩) n cl
 | 8 => v=.int .i64 j
 | 9 => v=.pointer (some ⟨b,o + j * 5,none⟩)
 | 10 => v=ov
 | 11 => LST w v∧FIN w
 | 12 => v=.bool true∧FIN w
 | 13 => v=.bool false∧FIN w
 | 14 => v=.bool false∧FIN w
 | 15 => v=.pointer (some ⟨g,0,none⟩)
 | 16 => IMG w v
 | 17 => DOC w v
 | 18 => v=.pointer (some ⟨xb,0,none⟩)
 | 19 => DOC w v
 | 20 => v=.bool true
 | 21 => v=.bool false
 | 22 => v=.bool false
 | _ => True
section
variable {w wr:World} {g xb:Nat} {ov:Value} {on:Int} {bz:Bool} {O5 O11 FIN:World→Prop} {ST LST IMG DOC:World→Value→Prop} {EA EB:World→World→Prop}
theorem VLw.mono (hf:RndF w wr g xb ov on bz O5 O11 FIN ST LST IMG DOC EA EB) {b o j n cl q i:Nat} {ov':Value} {v:Value} {u u':World} (he:ELv EA EB q u u') (hik:i≠q) (h5:q=5→i=11∨i=12∨i=13∨i=14∨i=16∨i=17∨i=19→False) (h11:q=11→i=12∨i=13∨i=14∨i=16∨i=17∨i=19→False) (h:VLw g xb b o j n cl ov' FIN ST LST IMG DOC i v u):VLw g xb b o j n cl ov' FIN ST LST IMG DOC i v u':=by
 unfold ELv at he
 split at he
 ·unfold VLw at h ⊢
  split at h <;> first | with_reducible exact h | exact absurd rfl hik | exact (h5 rfl (by simp)).elim
 ·unfold VLw at h ⊢
  split at h <;> first | with_reducible exact h | exact hf.mSB _ _ _ h he | exact absurd rfl hik | exact (h11 rfl (by simp)).elim
 ·unfold VLw at h ⊢
  split at h <;> first | with_reducible exact h | exact hf.mS _ _ _ h he | exact ⟨hf.mL _ _ _ h.1 he,hf.mF _ _ h.2 he⟩ | exact ⟨h.1,hf.mF _ _ h.2 he⟩ | exact hf.mI _ _ _ h he | exact hf.mD _ _ _ h he
end
set_option maxRecDepth 100000 in
set_option maxHeartbeats 8000000 in
theorem resLoads_main (m:Re.ImV) (A:Option Addr) (ops:List OpV) (c:Nat) (w:World) (hi:Re.ImIn w m) (h:OpsAt w A ops) (hcp:∀ o ∈ ops,Re.CapOk o) :
  Calls Tryz.prog 4 #[m.val,.slice A ops.length c] w fun e w' => e=.returned (.bool true)∧Below w.heap.size w w':=by
 have hlen:=h.1
 unfold maxLen at hlen
 obtain ⟨n,hn⟩:∃ n,n=ops.length:=⟨_,rfl⟩
 rw [← hn] at hlen ⊢
 have HN:=Lib.hid hn
 have HO:=Lib.hid (And.intro h hcp)
 obtain ⟨A0,hA0⟩:∃ A0,A0=A:=⟨_,rfl⟩
 rw [← hA0] at HO ⊢
 obtain ⟨cl,hcl⟩:∃ cl,cl=c:=⟨_,rfl⟩
 rw [← hcl]
 clear h hcp hn hA0 hcl A c
 obtain ⟨mA,P,mc,mU,vs,md,nx⟩:=m
 have hq1:=hi.l1
 have hq2:=hi.l2
 unfold maxLen at hq1 hq2
 dsimp only at hq1 hq2
 show Calls Tryz.prog _ #[.agg #[.slice mA P.length mc,.slice mU vs.length md,.int .i64 nx],.slice A0 n cl] w _
 obtain ⟨q,hq⟩:∃ q,q=P.length:=⟨_,rfl⟩
 obtain ⟨q',hq'⟩:∃ q',q'=vs.length:=⟨_,rfl⟩
 rw [← hq] at hq1
 rw [← hq'] at hq2
 rw [← hq,← hq']
 obtain ⟨w1,hw1⟩:∃ w1,w1=w.alloc (.cells #[.slice mA q mc,.slice mU q' md,.int .i64 nx] 58):=⟨_,rfl⟩
 obtain ⟨gi,hgi⟩:∃ gi,gi=w.heap.size:=⟨_,rfl⟩
 have b1:Below w.heap.size w w1:=by rw [hw1]; exact ba _ _
 have k1:Blk w1 gi 58 #[.slice mA q mc,.slice mU q' md,.int .i64 nx]:=by rw [hw1,hgi]; exact Blk.new _ _ _
 have i0:=k1.cell 0
 have i1:=k1.cell 1
 have i2:=k1.cell 2
 simp only [List.getElem?_toArray,List.getElem?_cons_zero,List.getElem?_cons_succ] at i0 i1 i2
 have HI:=Lib.hid (And.intro (hi.p.below b1) (And.intro (hi.u.below b1) (And.intro hq (And.intro hq' (And.intro b1 k1)))))
 have HG:=Lib.hid (And.intro hw1 hgi)
 clear hi hq hq' b1 k1
 rw [hw1,hgi] at i0 i1 i2
 clear hw1 hgi
 by_cases big:100 < q∨100 < q'
 ·have HBe:=Lib.hid HI.out.2.2.2.2.1
  by_cases bq:100 < q
  ·have bqI:(100:Int) < (q:Int):=by omega
   clear big
   go_enter Tryz.func4,Tryz.ntmps4
   go_wp2_with fail
   refine (Re.alive_any _).mono ?_
   rintro e w5 ⟨rfl,hb5⟩
   rw [← HG.out.1] at hb5
   have hB5:=Lib.hid (bt HBe.out hb5)
   clear hb5 i0 i1 i2
   go_wp2
   go_ret
   exact ⟨rfl,hB5.out⟩
  ·have bqI:¬ (100:Int) < (q:Int):=by omega
   have brI:(100:Int) < (q':Int):=by omega
   clear big
   go_enter Tryz.func4,Tryz.ntmps4
   go_wp2_with fail
   refine (Re.alive_any _).mono ?_
   rintro e w5 ⟨rfl,hb5⟩
   rw [← HG.out.1] at hb5
   have hB5:=Lib.hid (bt HBe.out hb5)
   clear hb5 i0 i1 i2
   go_wp2
   go_ret
   exact ⟨rfl,hB5.out⟩
 ·have bqI:¬ (100:Int) < (q:Int):=by omega
  have brI:¬ (100:Int) < (q':Int):=by omega
  have hld:=Re.resload_any mA mU q mc q' md nx P vs w1 (Lib.hid HI.out.2.2.1) (Lib.hid HI.out.2.2.2.1) (by omega) HI.out.1 HI.out.2.1
  have HLd:=Lib.hid hld
  have HQ:=Lib.hid (show q≤100∧q'≤1000 by omega)
  clear big hld
  go_enter Tryz.func4,Tryz.ntmps4
  go_wp2_with fail
  rw [← HG.out.1,← HG.out.2]
  clear i0 i1 i2
  refine HLd.out.mono ?_
  clear HLd
  rintro e w2 ⟨b2,hL⟩
  have k2:=HI.out.2.2.2.2.2.below b2 HI.out.2.2.2.2.2.lt
  have i0:=k2.cell 0
  have i1:=k2.cell 1
  have i2:=k2.cell 2
  simp only [List.getElem?_toArray,List.getElem?_cons_zero,List.getElem?_cons_succ] at i0 i1 i2
  have has:=Re.as_any mA mU q mc q' md nx P w2 (Lib.hid HI.out.2.2.1) (by have:=HQ.out; omega) (HI.out.1.below b2)
  have HAs:=Lib.hid has
  have H2:=Lib.hid (And.intro (bt HI.out.2.2.2.2.1 b2) (HI.out.2.1.below b2))
  clear has b2 k2
  rw [dload_e] at hL
  rcases hL with ⟨e0,rfl⟩ | ⟨e0,g,cs,rfl,hgl,hk⟩
  ·-- it may not be
   go_wp2_with fail
   refine HAs.out.mono ?_
   rintro e w3 ⟨A9,c9,rfl,HX⟩
   have hdl:=dload_any w3.heap.size A9 mU q c9 q' md nx P vs w3 ⟨HI.out.2.2.1,HI.out.2.2.2.1,Re.OwnPr.in_ HX.out.1,H2.out.2.below HX.out.2⟩ HQ.out (Nat.le_refl _)
   have HD:=Lib.hid hdl
   have H3:=Lib.hid (bt H2.out.1 HX.out.2)
   clear hdl
   go_wp2_with fail
   refine HD.out.mono ?_
   rintro e w4 ⟨b4,hL⟩
   rcases hL with ⟨_,rfl⟩ | ⟨e1,_⟩
   ·have HBe:Hid (Below w.heap.size w w4):=Lib.hid (bt H3.out b4)
    generalize dloadE P vs nx=er at e0 ⊢
    have ee:(er != er)=false:=by simp
    clear b4 i0 i1 i2
    go_wp2_with fail
    go_loopw [9] (fun i wr => i=.int .i64 0∧wr=w4) (fun _ _ => 0)
    case atStart => exact ⟨rfl,rfl⟩
    case round =>
     obtain ⟨rfl,rfl⟩:=hrel
     by_cases n0:0 < n
     ·have nI:(0:Int) < (n:Int):=by omega
      go_wp2_with fail
      refine (Re.alive_any _).mono ?_
      rintro e w5 ⟨rfl,hb5⟩
      have hB5:=Lib.hid (bt HBe.out hb5)
      clear hb5
      go_wp2
      go_ret
      exact ⟨rfl,hB5.out⟩
     ·obtain rfl:n=0:=by omega
      go_wp2_with fail
      refine (Re.alive_any _).mono ?_
      rintro e w5 ⟨rfl,hb5⟩
      have hB5:=Lib.hid (bt HBe.out hb5)
      clear hb5
      go_wp2
      go_ret
      exact ⟨rfl,hB5.out⟩
   ·exact absurd e1 e0
  ·-- they are loaded
   have HK:=Lib.hid (And.intro hk hgl)
   clear hk hgl
   go_wp2_with fail
   refine HAs.out.mono ?_
   rintro e w3 ⟨A9,c9,rfl,HX⟩
   have hdl:=dload_any w.heap.size A9 mU q c9 q' md nx P vs w3 ⟨HI.out.2.2.1,HI.out.2.2.2.1,Re.OwnPr.in_ HX.out.1,H2.out.2.below HX.out.2⟩ HQ.out (bt H2.out.1 HX.out.2).size
   have HD:=Lib.hid hdl
   clear hdl
   go_wp2_with fail
   refine HD.out.mono ?_
   rintro e w4 ⟨b4,hL⟩
   rcases hL with ⟨e1,_⟩ | ⟨_,xb,rfl,hx,hd⟩
   ·exact absurd e0 e1
   ·have H0:Hid (∃ S P ws Q qs gv,LvAt w w4 g xb S P ws Q qs gv (2000 + 4 * 0) 0):=Lib.hid (LvAt.load e0 HK.out.1 (bt HX.out.2 b4) H2.out.1 (Nat.le_trans HI.out.2.2.2.2.1.size HK.out.2) (Nat.le_trans HX.out.2.size hx) hd)
    clear b4 i0 i1 i2 hx hd HX HD HAs
    go_wp2_with fail
    go_loopw [9] (fun i wr => ∃ (j:Nat),j≤n∧j≤20∧i=.int .i64 j∧Hid (∃ S P ws Q qs gv,LvAt w wr g xb S P ws Q qs gv (2000 + 4 * j) j)) (fun i _ => 20 - (intOf i).toNat)
    case atStart => exact ⟨0,Nat.zero_le _,by omega,rfl,H0⟩
    case round =>
     clear H0
     obtain ⟨j,hj,hj20,rfl,HR⟩:=hrel
     by_cases hjn:j < n
     ·have hjI:(j:Int) < (n:Int):=by omega
      by_cases hj6:j < 20
      ·have hj6I:(j:Int) < 20:=by omega
       obtain ⟨S,P,ws,Q,qs,gv,hlv⟩:=HR.out
       have hjo:j < ops.length:=by rw [← HN.out]; exact hjn
       obtain ⟨b,o,rfl,hlt,hcs⟩:=HO.out.1.2.2 (by omega)
       obtain ⟨q0,q1,q2,q3,q4⟩:=hcs j hjo
       obtain ⟨hok,hml,hin⟩:=HO.out.1.2.1 _ (List.getElem_mem hjo)
       have hcap:=HO.out.2 _ (List.getElem_mem hjo)
       obtain ⟨op,hop⟩:∃ op,op=ops[j]:=⟨_,rfl⟩
       rw [← hop] at q0 q1 q2 q3 q4 hok hml hin hcap
       have hb:=hlv.be
       have p4:=(hb.cell (p:=⟨b,o + j * 5 + 4,none⟩) hlt).trans q4
       have hrnd:=fun hl => rnd hlv (by omega) (by omega) (by omega) op hok hcap hl hin
       obtain ⟨ok,on,oy,oz,oA,ol,oc⟩:=op
       obtain ⟨m,hm⟩:∃ m,m=ol.length:=⟨_,rfl⟩
       dsimp only at p4 hml q0 q1 q2 q3 q4 hrnd
       rw [← hm] at p4 hml q4 hrnd
       unfold OpV.val at hrnd
       dsimp only at hrnd
       rw [← hm] at hrnd
       have hmx:(m:Int)≤9223372036854775807:=by unfold maxLen at hml; omega
       have HRnd:=Lib.hid hrnd
       have HQo:=Lib.hid (And.intro q0 (And.intro q1 (And.intro q2 (And.intro q3 (And.intro q4 (And.intro hlt hb))))))
       clear hrnd q0 q1 q2 q3 q4 hlt hb hlv hcs hop hok hml hin hcap hjo hm HR
       by_cases hm3:m≤40
       ·have hm3I:¬ (40:Int) < (m:Int):=by omega
        obtain ⟨bz,O5,O11,FIN,ST,LST,IMG,DOC,EA,EB,hF,hnext⟩:=HRnd.out hm3
        have HF:=Lib.hid hF
        have HNx:=Lib.hid hnext
        clear hF hnext HRnd
        go_wp2_with fail
        refine wp_region_invU (F:=?FL) (V:=VLw g xb b o j n cl (.agg #[.int .i64 ok,.int .i64 on,.int .i64 oy,.int .u64 (oz:Nat),.slice oA m oc]) FIN ST LST IMG DOC) (dead:=fun _ => none) (T:=TLv O5 O11) (C:=fun u => BW w wr u) (E:=ELv EA EB) (by kernel_rfl) (by kernel_rfl) (by kernel_rfl) (fun x => ?hFL) ?hmonoL ?hTmL ?hTL ?hCL ?stepL ?finL
        case hFL => simp only [mkA,Act.put,List.setIfInBounds_toArray,List.set_cons_succ,List.set_cons_zero,Nat.reduceAdd,Nat.zero_add]; first | with_reducible rfl | rfl
        case hmonoL => exact fun q' i v u u' he hik hwt hdd hv => VLw.mono HF.out he hik (fun hk hi => by subst hk; rcases hi with rfl | rfl | rfl | rfl | rfl | rfl | rfl <;> exact ltf hwt (by kernel_rfl)) (fun hk hi => by subst hk; rcases hi with rfl | rfl | rfl | rfl | rfl | rfl <;> exact ltf hwt (by kernel_rfl)) hv
        case hTmL => exact fun q j' u u' he hkj hwt hv => TLv.mono HF.out he hkj (fun hk hi => by subst hk hi; exact ltf hwt (by kernel_rfl)) hv
        case hTL => exact fun j' => by unfold TLv; split <;> first | exact HF.out.mO5 _ _ HF.out.o5 (Below.refl _ _).drew | exact HF.out.mO11 _ _ HF.out.o11 (Below.refl _ _).drew | trivial
        case hCL => exact ⟨HQo.out.2.2.2.2.2.2.drew,Nat.le_refl _⟩
        case stepL =>
         refine AllOps.cons (fun x u hC hT hp K hK => ?_) ?_
         ·clear hp hT
          go_simp
          refine hK _ _ _ hC (Below.refl _ _) (by exact rfl) ?_
          first | (simp only [Act.put,List.setIfInBounds_toArray,List.set_cons_succ,List.set_cons_zero]; done) | simp [Act.put]
         refine AllOps.cons (fun x u hC hT hp K hK => ?_) ?_
         ·clear hp hT
          go_simp
          refine hK _ _ _ hC (Below.refl _ _) (by exact rfl) ?_
          first | (simp only [Act.put,List.setIfInBounds_toArray,List.set_cons_succ,List.set_cons_zero]; done) | simp [Act.put]
         refine AllOps.cons (fun x u hC hT hp K hK => ?_) ?_
         ·clear hp hT
          go_simp
          refine hK _ _ _ hC (Below.refl _ _) (by exact rfl) ?_
          first | (simp only [Act.put,List.setIfInBounds_toArray,List.set_cons_succ,List.set_cons_zero]; done) | simp [Act.put]
         refine AllOps.cons (fun x u hC hT hp K hK => ?_) ?_
         ·simp [KnownTill,Region.binds,VLw] at hp
          clear hT
          go_simp
          refine hK _ _ _ hC (Below.refl _ _) (by exact rfl) ?_
          first | (simp only [Act.put,List.setIfInBounds_toArray,List.set_cons_succ,List.set_cons_zero,hp]; done) | simp [Act.put,hp]
         refine AllOps.cons (fun x u hC hT hp K hK => ?_) ?_
         ·simp [KnownTill,Region.binds,VLw] at hp
          clear hT
          have p0:=(hC.1.cell (p:=⟨b,o + j * 5,none⟩) HQo.out.2.2.2.2.2.1).trans HQo.out.1
          have p1:=(hC.1.cell (p:=⟨b,o + j * 5 + 1,none⟩) HQo.out.2.2.2.2.2.1).trans HQo.out.2.1
          have p2:=(hC.1.cell (p:=⟨b,o + j * 5 + 2,none⟩) HQo.out.2.2.2.2.2.1).trans HQo.out.2.2.1
          have p3:=(hC.1.cell (p:=⟨b,o + j * 5 + 3,none⟩) HQo.out.2.2.2.2.2.1).trans HQo.out.2.2.2.1
          have p4:=(hC.1.cell (p:=⟨b,o + j * 5 + 4,none⟩) HQo.out.2.2.2.2.2.1).trans HQo.out.2.2.2.2.1
          go_simp
          refine hK _ _ _ hC (Below.refl _ _) (by exact rfl) ?_
          first | (simp only [Act.put,List.setIfInBounds_toArray,List.set_cons_succ,List.set_cons_zero,hp]; done) | simp [Act.put,hp]
         refine AllOps.cons (fun x u hC hT hp K hK => ?_) ?_
         ·simp [KnownTill,Region.binds,VLw] at hp
          have hT5:O5 u:=hT
          go_simp
          refine (HF.out.call u hC hT5).mono ?_
          rintro e uA ⟨v,rfl,s1,c1,ea⟩
          refine hK _ _ _ c1 ea s1 ?_
          first | (simp only [Act.put,List.setIfInBounds_toArray,List.set_cons_succ,List.set_cons_zero,hp]; done) | simp [Act.put,hp]
         refine AllOps.cons (fun x u hC hT hp K hK => ?_) ?_
         ·clear hp hT
          go_simp
          refine hK _ _ _ hC (Below.refl _ _) (by exact rfl) ?_
          first | (simp only [Act.put,List.setIfInBounds_toArray,List.set_cons_succ,List.set_cons_zero]; done) | simp [Act.put]
         refine AllOps.cons (fun x u hC hT hp K hK => ?_) ?_
         ·clear hp hT
          go_simp
          refine hK _ _ _ hC (Below.refl _ _) (by exact rfl) ?_
          first | (simp only [Act.put,List.setIfInBounds_toArray,List.set_cons_succ,List.set_cons_zero]; done) | simp [Act.put]
         refine AllOps.cons (fun x u hC hT hp K hK => ?_) ?_
         ·clear hp hT
          go_simp
          refine hK _ _ _ hC (Below.refl _ _) (by exact rfl) ?_
          first | (simp only [Act.put,List.setIfInBounds_toArray,List.set_cons_succ,List.set_cons_zero]; done) | simp [Act.put]
         refine AllOps.cons (fun x u hC hT hp K hK => ?_) ?_
         ·simp [KnownTill,Region.binds,VLw] at hp
          clear hT
          go_simp
          refine hK _ _ _ hC (Below.refl _ _) (by exact rfl) ?_
          first | (simp only [Act.put,List.setIfInBounds_toArray,List.set_cons_succ,List.set_cons_zero,hp]; done) | simp [Act.put,hp]
         refine AllOps.cons (fun x u hC hT hp K hK => ?_) ?_
         ·simp [KnownTill,Region.binds,VLw] at hp
          clear hT
          have p0:=(hC.1.cell (p:=⟨b,o + j * 5,none⟩) HQo.out.2.2.2.2.2.1).trans HQo.out.1
          have p1:=(hC.1.cell (p:=⟨b,o + j * 5 + 1,none⟩) HQo.out.2.2.2.2.2.1).trans HQo.out.2.1
          have p2:=(hC.1.cell (p:=⟨b,o + j * 5 + 2,none⟩) HQo.out.2.2.2.2.2.1).trans HQo.out.2.2.1
          have p3:=(hC.1.cell (p:=⟨b,o + j * 5 + 3,none⟩) HQo.out.2.2.2.2.2.1).trans HQo.out.2.2.2.1
          have p4:=(hC.1.cell (p:=⟨b,o + j * 5 + 4,none⟩) HQo.out.2.2.2.2.2.1).trans HQo.out.2.2.2.2.1
          go_simp
          refine hK _ _ _ hC (Below.refl _ _) (by exact rfl) ?_
          first | (simp only [Act.put,List.setIfInBounds_toArray,List.set_cons_succ,List.set_cons_zero,hp]; done) | simp [Act.put,hp]
         refine AllOps.cons (fun x u hC hT hp K hK => ?_) ?_
         ·simp [KnownTill,Region.binds,VLw] at hp
          have hT11:O11 u:=hT
          have h5:ST u (x 5):=by first | exact hp | exact hp.1.2 | exact hp.1.1 | exact hp.1 | exact hp.2 | exact hp.2.1 | exact hp.2.2 | exact hp.2.2.1 | exact hp.2.2.2 | exact hp.2.2.2.1 | exact hp.2.2.2.2 | exact hp.2.2.2.2.1 | exact hp.2.2.2.2.2 | exact hp.2.2.2.2.2.1 | exact hp.2.2.2.2.2.2
          go_simp
          refine (HF.out.mod u _ hC hT11 h5).mono ?_
          rintro e uA ⟨v,rfl,s1,s2,c1,ea⟩
          refine hK _ _ _ c1 ea ⟨s1,s2⟩ ?_
          first | (simp only [Act.put,List.setIfInBounds_toArray,List.set_cons_succ,List.set_cons_zero,hp]; done) | simp [Act.put,hp]
         refine AllOps.cons (fun x u hC hT hp K hK => ?_) ?_
         ·simp [KnownTill,Region.binds,VLw] at hp
          clear hT
          have h5:ST u (x 5):=by first | exact hp | exact hp.1.2 | exact hp.1.1 | exact hp.1 | exact hp.2 | exact hp.2.1 | exact hp.2.2 | exact hp.2.2.1 | exact hp.2.2.2 | exact hp.2.2.2.1 | exact hp.2.2.2.2 | exact hp.2.2.2.2.1 | exact hp.2.2.2.2.2 | exact hp.2.2.2.2.2.1 | exact hp.2.2.2.2.2.2
          have h11:LST u (x 11):=by first | exact hp | exact hp.1.2 | exact hp.1.1 | exact hp.1 | exact hp.2 | exact hp.2.1 | exact hp.2.2 | exact hp.2.2.1 | exact hp.2.2.2 | exact hp.2.2.2.1 | exact hp.2.2.2.2 | exact hp.2.2.2.2.1 | exact hp.2.2.2.2.2 | exact hp.2.2.2.2.2.1 | exact hp.2.2.2.2.2.2
          have hf:FIN u:=by first | exact hp | exact hp.1.2 | exact hp.1.1 | exact hp.1 | exact hp.2 | exact hp.2.1 | exact hp.2.2 | exact hp.2.2.1 | exact hp.2.2.2 | exact hp.2.2.2.1 | exact hp.2.2.2.2 | exact hp.2.2.2.2.1 | exact hp.2.2.2.2.2 | exact hp.2.2.2.2.2.1 | exact hp.2.2.2.2.2.2
          go_simp
          refine (HF.out.same u _ _ h5 h11).mono ?_
          rintro e uA ⟨rfl,hb⟩
          refine hK _ _ _ (hC.below hb) hb ⟨rfl,HF.out.mF _ _ hf hb⟩ ?_
          first | (simp only [Act.put,List.setIfInBounds_toArray,List.set_cons_succ,List.set_cons_zero,hp]; done) | simp [Act.put,hp]
         refine AllOps.cons (fun x u hC hT hp K hK => ?_) ?_
         ·simp [KnownTill,Region.binds,VLw] at hp
          clear hT
          have hf:FIN u:=by first | exact hp | exact hp.1.2 | exact hp.1.1 | exact hp.1 | exact hp.2 | exact hp.2.1 | exact hp.2.2 | exact hp.2.2.1 | exact hp.2.2.2 | exact hp.2.2.2.1 | exact hp.2.2.2.2 | exact hp.2.2.2.2.1 | exact hp.2.2.2.2.2 | exact hp.2.2.2.2.2.1 | exact hp.2.2.2.2.2.2
          go_simp
          refine hK _ _ _ hC (Below.refl _ _) (by exact ⟨rfl,hf⟩) ?_
          first | (simp only [Act.put,List.setIfInBounds_toArray,List.set_cons_succ,List.set_cons_zero,hp]; done) | simp [Act.put,hp]
         refine AllOps.cons (fun x u hC hT hp K hK => ?_) ?_
         ·simp [KnownTill,Region.binds,VLw] at hp
          clear hT
          have hf:FIN u:=by first | exact hp | exact hp.1.2 | exact hp.1.1 | exact hp.1 | exact hp.2 | exact hp.2.1 | exact hp.2.2 | exact hp.2.2.1 | exact hp.2.2.2 | exact hp.2.2.2.1 | exact hp.2.2.2.2 | exact hp.2.2.2.2.1 | exact hp.2.2.2.2.2 | exact hp.2.2.2.2.2.1 | exact hp.2.2.2.2.2.2
          go_simp
          refine hK _ _ _ hC (Below.refl _ _) (by exact ⟨rfl,hf⟩) ?_
          first | (simp only [Act.put,List.setIfInBounds_toArray,List.set_cons_succ,List.set_cons_zero,hp]; done) | simp [Act.put,hp]
         refine AllOps.cons (fun x u hC hT hp K hK => ?_) ?_
         ·simp [KnownTill,Region.binds,VLw] at hp
          clear hT
          go_simp
          refine hK _ _ _ hC (Below.refl _ _) (by exact rfl) ?_
          first | (simp only [Act.put,List.setIfInBounds_toArray,List.set_cons_succ,List.set_cons_zero,hp]; done) | simp [Act.put,hp]
         refine AllOps.cons (fun x u hC hT hp K hK => ?_) ?_
         ·simp [KnownTill,Region.binds,VLw] at hp
          clear hT
          have hf:FIN u:=by first | exact hp | exact hp.1.2 | exact hp.1.1 | exact hp.1 | exact hp.2 | exact hp.2.1 | exact hp.2.2 | exact hp.2.2.1 | exact hp.2.2.2 | exact hp.2.2.2.1 | exact hp.2.2.2.2 | exact hp.2.2.2.2.1 | exact hp.2.2.2.2.2 | exact hp.2.2.2.2.2.1 | exact hp.2.2.2.2.2.2
          go_simp
          refine (HF.out.img u hf).mono ?_
          rintro e uA ⟨v,rfl,s1,hb⟩
          refine hK _ _ _ (hC.below hb) hb s1 ?_
          first | (simp only [Act.put,List.setIfInBounds_toArray,List.set_cons_succ,List.set_cons_zero,hp]; done) | simp [Act.put,hp]
         refine AllOps.cons (fun x u hC hT hp K hK => ?_) ?_
         ·simp [KnownTill,Region.binds,VLw] at hp
          clear hT
          have h33:IMG u (x 16):=by first | exact hp | exact hp.1.2 | exact hp.1.1 | exact hp.1 | exact hp.2 | exact hp.2.1 | exact hp.2.2 | exact hp.2.2.1 | exact hp.2.2.2 | exact hp.2.2.2.1 | exact hp.2.2.2.2 | exact hp.2.2.2.2.1 | exact hp.2.2.2.2.2 | exact hp.2.2.2.2.2.1 | exact hp.2.2.2.2.2.2
          go_simp
          refine (HF.out.as_ u _ h33).mono ?_
          rintro e uA ⟨v,rfl,s1,hb⟩
          refine hK _ _ _ (hC.below hb) hb s1 ?_
          first | (simp only [Act.put,List.setIfInBounds_toArray,List.set_cons_succ,List.set_cons_zero,hp]; done) | simp [Act.put,hp]
         refine AllOps.cons (fun x u hC hT hp K hK => ?_) ?_
         ·simp [KnownTill,Region.binds,VLw] at hp
          clear hT
          go_simp
          refine hK _ _ _ hC (Below.refl _ _) (by exact rfl) ?_
          first | (simp only [Act.put,List.setIfInBounds_toArray,List.set_cons_succ,List.set_cons_zero,hp]; done) | simp [Act.put,hp]
         refine AllOps.cons (fun x u hC hT hp K hK => ?_) ?_
         ·simp [KnownTill,Region.binds,VLw] at hp
          clear hT
          have hf:FIN u:=by first | exact hp | exact hp.1.2 | exact hp.1.1 | exact hp.1 | exact hp.2 | exact hp.2.1 | exact hp.2.2 | exact hp.2.2.1 | exact hp.2.2.2 | exact hp.2.2.2.1 | exact hp.2.2.2.2 | exact hp.2.2.2.2.1 | exact hp.2.2.2.2.2 | exact hp.2.2.2.2.2.1 | exact hp.2.2.2.2.2.2
          go_simp
          refine (HF.out.dimg u hf).mono ?_
          rintro e uA ⟨v,rfl,s1,hb⟩
          refine hK _ _ _ (hC.below hb) hb s1 ?_
          first | (simp only [Act.put,List.setIfInBounds_toArray,List.set_cons_succ,List.set_cons_zero,hp]; done) | simp [Act.put,hp]
         refine AllOps.cons (fun x u hC hT hp K hK => ?_) ?_
         ·simp [KnownTill,Region.binds,VLw] at hp
          clear hT
          have h34:DOC u (x 17):=by first | exact hp | exact hp.1.2 | exact hp.1.1 | exact hp.1 | exact hp.2 | exact hp.2.1 | exact hp.2.2 | exact hp.2.2.1 | exact hp.2.2.2 | exact hp.2.2.2.1 | exact hp.2.2.2.2 | exact hp.2.2.2.2.1 | exact hp.2.2.2.2.2 | exact hp.2.2.2.2.2.1 | exact hp.2.2.2.2.2.2
          have h36:DOC u (x 19):=by first | exact hp | exact hp.1.2 | exact hp.1.1 | exact hp.1 | exact hp.2 | exact hp.2.1 | exact hp.2.2 | exact hp.2.2.1 | exact hp.2.2.2 | exact hp.2.2.2.1 | exact hp.2.2.2.2 | exact hp.2.2.2.2.1 | exact hp.2.2.2.2.2 | exact hp.2.2.2.2.2.1 | exact hp.2.2.2.2.2.2
          go_simp
          refine (HF.out.sdoc u _ _ h34 h36).mono ?_
          rintro e uA ⟨rfl,hb⟩
          refine hK _ _ _ (hC.below hb) hb rfl ?_
          first | (simp only [Act.put,List.setIfInBounds_toArray,List.set_cons_succ,List.set_cons_zero,hp]; done) | simp [Act.put,hp]
         refine AllOps.cons (fun x u hC hT hp K hK => ?_) ?_
         ·simp [KnownTill,Region.binds,VLw] at hp
          clear hT
          go_simp
          refine hK _ _ _ hC (Below.refl _ _) (by exact rfl) ?_
          first | (simp only [Act.put,List.setIfInBounds_toArray,List.set_cons_succ,List.set_cons_zero,hp]; done) | simp [Act.put,hp]
         refine AllOps.cons (fun x u hC hT hp K hK => ?_) ?_
         ·simp [KnownTill,Region.binds,VLw] at hp
          clear hT
          go_simp
          refine hK _ _ _ hC (Below.refl _ _) (by exact rfl) ?_
          first | (simp only [Act.put,List.setIfInBounds_toArray,List.set_cons_succ,List.set_cons_zero,hp]; done) | simp [Act.put,hp]
         exact AllOps.nil
        case finL =>
         intro x u hC hV
         have e39:x 22=.bool false:=hV 22 (by decide) rfl
         have hfin:LST u (x 11)∧FIN u:=hV 11 (by decide) rfl
         rw [e39]
         have HT:Hid (∃ S P ws Q qs gv,LvAt w u g xb S P ws Q qs gv (2000 + 4 * (j + 1)) (j + 1)):=Lib.hid (HNx.out u hfin.2)
         clear hV hC hfin e39 HF HNx HQo
         go_wp2
         go_roundw
         case rel => exact ⟨j + 1,by omega,by omega,by go_num,HT⟩
         case measure => simp [intOf]; omega
       ·have hm3I:(40:Int) < (m:Int):=by omega
        have HBe:=Lib.hid HQo.out.2.2.2.2.2.2
        clear HRnd HQo
        go_wp2_with fail
        refine (Re.alive_any _).mono ?_
        rintro e w5 ⟨rfl,hb5⟩
        have hB5:=Lib.hid (bt HBe.out hb5)
        clear hb5
        go_wp2
        go_ret
        exact ⟨rfl,hB5.out⟩
      ·have hj6I:¬ (j:Int) < 20:=by omega
       have HBe:Hid (Below w.heap.size w wr):=Lib.hid (by obtain ⟨S,P,ws,Q,qs,gv,hlv⟩:=HR.out; exact hlv.be)
       clear HR
       go_wp2_with fail
       refine (Re.alive_any _).mono ?_
       rintro e w5 ⟨rfl,hb5⟩
       have hB5:=Lib.hid (bt HBe.out hb5)
       clear hb5
       go_wp2
       go_ret
       exact ⟨rfl,hB5.out⟩
     ·have hjI:¬ (j:Int) < (n:Int):=by omega
      have HBe:Hid (Below w.heap.size w wr):=Lib.hid (by obtain ⟨S,P,ws,Q,qs,gv,hlv⟩:=HR.out; exact hlv.be)
      clear HR
      go_wp2_with fail
      refine (Re.alive_any _).mono ?_
      rintro e w5 ⟨rfl,hb5⟩
      have hB5:=Lib.hid (bt HBe.out hb5)
      clear hb5
      go_wp2
      go_ret
      exact ⟨rfl,hB5.out⟩
theorem resLoads_walk (m:Re.ImV) (A:Option Addr) (ops:List OpV) (c:Nat) (w:World) (hi:Re.ImIn w m) (h:OpsAt w A ops∧∀ o ∈ ops,Re.CapOk o):Calls Tryz.prog 4 #[m.val,.slice A ops.length c] w fun e w' => e=.returned (.bool true)∧Below w.heap.size w w':=resLoads_main m A ops c w hi h.1 h.2
end Go.Proofs.YtlliaihmfimdoaaGreat.Dr

