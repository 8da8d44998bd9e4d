/- Parts F7 F8 F9 F10 F11 of one proof. -/
import Derived.Test.YtlliaihmfimdoaaGreatMg26
set_option linter.unusedSimpArgs false
set_option linter.unusedVariables false
namespace Go.Proofs.YtlliaihmfimdoaaGreat.Qu.Dq
variable {E:Value × Value × Value}
open Go.RowKit Go.Maps Go.Joins Go.Deep
theorem NoteO.from {w w2 w':World} {B x:Nat} {P:List (Int × Nat)} {ws:List WI} {gv n:Int} {c:Ch} (hb:Below w.heap.size w w2) (h:NoteO E w2 B x P ws gv n c w'):NoteO E w B x P ws gv n c w':=by
 obtain ⟨ws2,z,A5,c5,h1,h2,h3⟩:=h
 exact ⟨ws2,z,A5,c5,h1,h2,(RG.of (lbelow_grown hb (some x)):RG B w w2 x (fun r => ∃ y ∈ ws,blk y.A=some r)).trans h3.1 (fun _ _ e => e),fun r e => (h3.2 r e).imp id (Nat.le_trans hb.size)⟩
def RPutO (E:Value × Value × Value) (w:World) (B x:Nat) (P:List (Int × Nat)) (ws:List WI) (gv n:Int) (v:Nat) (e:Ending) (w':World):Prop :=
 (mayR ws n≠0∧e=.returned (.int .i64 (mayR ws n))∧Below w.heap.size w w')∨(mayR ws n=0∧roomR P ws gv < 1∧e=.returned (.int .i64 5)∧Below w.heap.size w w')∨(mayR ws n=0∧¬ roomR P ws gv < 1∧e=.returned (.int .i64 0)∧NoteO E w B x P ws gv n ⟨3,0,v⟩ w')
set_option maxRecDepth 100000 in
set_option maxHeartbeats 1000000 in
theorem rput_any (B x:Nat) (P:List (Int × Nat)) (ws:List WI) (gv n:Int) (v:Nat) (w:World) (h:RQ E w B x P ws gv) (hg:0≤gv∧gv≤4611686018427387904) (hB:B≤w.heap.size) (hl:ws.length < 100) (hls:∀ y ∈ ws,y.l.length < 300) :
  Calls Tryz.prog 84 #[.pointer (some ⟨x,3,none⟩),.int .i64 n,.int .u64 (v:Nat)] w (RPutO E w B x P ws gv n v):=by
 have HMy:=Lib.hid (rmay_any B x P ws gv n w h)
 have HRm:=Lib.hid (rroom_any B x P ws gv w h hg)
 have HNt:=Lib.hid (fun u (hb:Below w.heap.size w u) => rnote_any B x P ws gv n 3 0 v u (h.below hb) (Nat.le_trans hB hb.size) hl hls)
 have HP:Hid (∀ e w',RPutO E w B x P ws gv n v e w' ↔ (mayR ws n≠0∧e=.returned (.int .i64 (mayR ws n))∧Below w.heap.size w w')∨(mayR ws n=0∧roomR P ws gv < 1∧e=.returned (.int .i64 5)∧Below w.heap.size w w')∨(mayR ws n=0∧¬ roomR P ws gv < 1∧e=.returned (.int .i64 0)∧NoteO E w B x P ws gv n ⟨3,0,v⟩ w')):=Lib.hid fun _ _ => Iff.rfl
 obtain ⟨my,hmy⟩:∃ my,my=mayR ws n:=⟨_,rfl⟩
 obtain ⟨rm,hrm⟩:∃ rm,rm=roomR P ws gv:=⟨_,rfl⟩
 rw [← hmy] at HMy HP
 rw [← hrm] at HRm HP
 clear h hg hB hl hls hmy hrm
 by_cases h0:my=0
 ·subst h0
  by_cases hr:rm < 1
  ·have hr0:rm≤0:=by omega
   go_enter Tryz.func84,Tryz.ntmps84
   go_wp2_with fail
   refine HMy.out.mono ?_
   rintro e w1 ⟨rfl,rfl⟩
   go_wp2_with fail
   refine HRm.out.mono ?_
   rintro e w2 ⟨rfl,b2⟩
   have HF:=Lib.hid ((HP.out _ w2).2 (.inr (.inl ⟨trivial,hr,rfl,b2⟩)))
   clear b2
   go_wp2
   go_ret
   exact HF.out
  ·have hr0:¬ rm≤0:=by omega
   go_enter Tryz.func84,Tryz.ntmps84
   go_wp2_with fail
   refine HMy.out.mono ?_
   rintro e w1 ⟨rfl,rfl⟩
   go_wp2_with fail
   refine HRm.out.mono ?_
   rintro e w2 ⟨rfl,b2⟩
   have HN2:=Lib.hid (HNt.out w2 b2)
   have HB2:=Lib.hid b2
   clear b2
   go_wp2_with fail
   refine HN2.out.mono ?_
   rintro e w3 ⟨rfl,hn⟩
   have HF:=Lib.hid ((HP.out _ w3).2 (.inr (.inr ⟨trivial,hr,rfl,hn.from HB2.out⟩)))
   clear hn
   go_wp2
   go_ret
   exact HF.out
 ·have hb:(my != 0)=true:=by simp [h0]
  have HF:=Lib.hid ((HP.out _ w).2 (.inl ⟨h0,rfl,Below.refl _ _⟩))
  go_enter Tryz.func84,Tryz.ntmps84
  go_wp2_with fail
  refine HMy.out.mono ?_
  rintro e w1 ⟨rfl,rfl⟩
  go_wp2
  go_ret
  exact HF.out
end Go.Proofs.YtlliaihmfimdoaaGreat.Qu.Dq


namespace Go.Proofs.YtlliaihmfimdoaaGreat.Qu.Dq
variable {E:Value × Value × Value}
open Go.RowKit Go.Maps Go.Joins Go.Deep
theorem RQ.item {u:World} {B x:Nat} {P:List (Int × Nat)} {ws:List WI} {gv:Int} (h:RQ E u B x P ws gv) (i:Nat) (hi:i < P.length):∃ b cP,u.cell? ⟨x,3,none⟩=some (.slice (some ⟨b,0,none⟩) P.length cP)∧u.cell? ⟨b,i * 2,none⟩=some (.int .i64 (P[i]'hi).1)∧u.cell? ⟨b,i * 2 + 1,none⟩=some (.int .u64 ((P[i]'hi).2:Nat))∧b < u.heap.size:=by
 obtain ⟨AP,nP,cP,AW,nW,cW,hk,h1,h2,h3,h4⟩:=h.ex
 have c0:=hk.cell 3
 simp only [List.getElem?_toArray,List.getElem?_cons_zero,List.getElem?_cons_succ] at c0
 unfold OwnPr at h3
 obtain ⟨b,rfl,_,hb,_,hc⟩:=row_cells h3 (by omega)
 rw [h1] at c0
 obtain ⟨a1,a2⟩:=prV_at P i hi
 exact ⟨b,cP,c0,hc _ _ a1,hc _ _ a2,hb⟩
theorem RQ.ilen {u:World} {B x:Nat} {P:List (Int × Nat)} {ws:List WI} {gv:Int} (h:RQ E u B x P ws gv):∃ AP cP,u.cell? ⟨x,3,none⟩=some (.slice AP P.length cP):=by
 obtain ⟨AP,nP,cP,AW,nW,cW,hk,h1,h2,h3,h4⟩:=h.ex
 have c0:=hk.cell 3
 simp only [List.getElem?_toArray,List.getElem?_cons_zero,List.getElem?_cons_succ] at c0
 rw [h1] at c0
 exact ⟨AP,cP,c0⟩
set_option maxRecDepth 100000 in
set_option maxHeartbeats 1000000 in
theorem rvalues_any (B x:Nat) (P:List (Int × Nat)) (ws:List WI) (gv:Int) (w:World) (h:RQ E w B x P ws gv) :
  Calls Tryz.prog 51 #[.pointer (some ⟨x,3,none⟩)] w fun e w' => ∃ A c,e=.returned (.slice A P.length c)∧OwnU w' w.heap.size A c (P.map (·.2))∧Below w.heap.size w w':=by
 obtain ⟨nP,hnP⟩:∃ nP,nP=P.length:=⟨_,rfl⟩
 have hP1:nP≤48:=by rw [hnP]; exact h.sm.1
 have HN:=Lib.hid hnP
 have H:=Lib.hid h
 rw [← hnP]
 clear h hnP
 go_enter Tryz.func51,Tryz.ntmps51
 go_wp2_with fail
 go_loopw [3,4] (fun v iv wr => ∃ (i n2 c2:Nat) (A2:Option Addr),v=.slice A2 n2 c2∧n2=i∧i≤nP∧iv=.int .i64 i∧Hid (∃ K,K=(P.take i).map (·.2)∧n2=K.length∧OwnU wr w.heap.size A2 c2 K∧Below w.heap.size w wr)) (fun _ iv _ => nP - (intOf iv).toNat)
 case atStart => exact ⟨0,0,0,none,rfl,rfl,Nat.zero_le _,rfl,Lib.hid ⟨[],rfl,rfl,OwnU.nil _ _,Below.refl _ _⟩⟩
 case round =>
  obtain ⟨i,n2,c2,A2,rfl,rfl,hi,rfl,HR⟩:=hrel
  obtain ⟨K,hK,hn2,hown,hb⟩:=HR.out
  have hr:=H.out.below hb
  by_cases hin:n2 < nP
  ·have hiI:(n2:Int) < (nP:Int):=by omega
   have hil:n2 < P.length:=by rw [← HN.out]; exact hin
   obtain ⟨b,cP,r0,_,r2,_⟩:=hr.item n2 hil
   rw [← HN.out] at r0
   have hst:(P.take (n2 + 1)).map (·.2)=K ++ [(P[n2]'hil).2]:=by rw [List.take_add_one,List.getElem?_eq_getElem hil,List.map_append,← hK]; rfl
   generalize (P[n2]'hil).2=v at r2 hst
   have hb3:=ba wr (.cells #[.int .u64 (v:Nat)] 39)
   have own3:=hown.grown (lbelow_grown hb3 none) (fun r e => by cases e)
   obtain ⟨A5,c5,w5,hrun,own5,hg5⟩:=u_more own3 n2 hn2 (by omega) v wr.heap.size (by have:=hb.size; have:=hb3.size; omega) (Blk.new wr _ _)
   have hB5:=(bt hb hb3).grown hg5 (by have:=hb.size; have:=hb3.size; omega) (fun r e => (own3.lt' r e).1)
   have HX:Hid (∃ K,K=(P.take (n2 + 1)).map (·.2)∧n2 + 1=K.length∧OwnU w5 w.heap.size A5 c5 K∧Below w.heap.size w w5):=Lib.hid ⟨_,hst.symm,by rw [List.length_append,← hn2]; rfl,own5,hB5⟩
   clear hr hst hb3 own3 own5 hg5 hB5 hown hb hn2 hK HR
   go_wp2_with (first
    | (at_builtin; refine wpList_append_run rfl (.tmp 14) (.tmp 23) 52 rfl _ _ _ w5 rfl rfl hrun ?_)
    | go_in)
   go_roundw
   case rel => exact ⟨n2 + 1,n2 + 1,c5,A5,rfl,rfl,by omega,by go_num,HX⟩
   case measure => simp [intOf]; omega
  ·obtain rfl:n2=nP:=by omega
   have hiI:¬ (n2:Int) < (n2:Int):=by omega
   obtain ⟨AP,cP,c0⟩:=hr.ilen
   rw [← HN.out] at c0
   have HF:Hid (OwnU wr w.heap.size A2 c2 (P.map (·.2))∧Below w.heap.size w wr):=Lib.hid ⟨by rw [hK,List.take_of_length_le (by rw [← HN.out]; exact Nat.le_refl _)] at hown; exact hown,hb⟩
   clear hr hown hb hn2 hK HR
   go_wp2
   go_ret
   exact ⟨A2,c2,rfl,HF.out.1,HF.out.2⟩
end Go.Proofs.YtlliaihmfimdoaaGreat.Qu.Dq


namespace Go.Proofs.YtlliaihmfimdoaaGreat.Qu.Dq
variable {E:Value × Value × Value}
open Go.RowKit Go.Maps Go.Joins Go.Deep
def RPrepO (E:Value × Value × Value) (w:World) (B x:Nat) (P:List (Int × Nat)) (ws:List WI) (gv n:Int) (e:Ending) (w':World):Prop :=
 ∃ A q c,e=.returned (.tuple #[.slice A q c,.int .i64 (prepR ws n).1.2])∧q=(prepR ws n).1.1.length∧OwnC w' w.heap.size A c (prepR ws n).1.1∧RQ E w' B x P (prepR ws n).2 gv∧RG B w w' x (fun _ => False)
set_option maxRecDepth 100000 in
set_option maxHeartbeats 1000000 in
theorem rprep_any (B x:Nat) (P:List (Int × Nat)) (ws:List WI) (gv n:Int) (w:World) (h:RQ E w B x P ws gv) :
  Calls Tryz.prog 87 #[.pointer (some ⟨x,3,none⟩),.int .i64 n] w (RPrepO E w B x P ws gv n):=by
 have HMy:=Lib.hid (rmay_any B x P ws gv n w h)
 have HFi:=Lib.hid (rfind_any B x P ws gv n w h)
 obtain ⟨my,hmy⟩:∃ my,my=mayR ws n:=⟨_,rfl⟩
 rw [← hmy] at HMy
 by_cases h0:my=0
 ·subst h0
  rcases hf:findW ws n with _ | z
  ·have hM:prepR ws n=(([],0),ws):=by unfold prepR; rw [if_neg (by rw [← hmy]; simp),hf]
   have HF:Hid (RPrepO E w B x P ws gv n (.returned (.tuple #[.slice none 0 0,.int .i64 0])) w):=Lib.hid ⟨none,0,0,by rw [hM],by rw [hM]; rfl,by rw [hM]; exact OwnC.nil _ _,by rw [hM]; exact h,RG.of (lbelow_grown (Below.refl _ _) _)⟩
   rw [hf] at HFi
   clear h hmy hM hf
   go_enter Tryz.func87,Tryz.ntmps87
   go_wp2_with fail
   refine HMy.out.mono ?_
   rintro e w1 ⟨rfl,rfl⟩
   go_wp2_with fail
   refine HFi.out.mono ?_
   rintro e w2 ⟨rfl,rfl⟩
   dsimp only [Option.map_none]
   go_wp2
   go_ret2
   exact HF.out
  ·obtain ⟨zq,zn,zA,zc,zl,zp⟩:=z
   have hM:prepR ws n=((zl,0),turnW ws ⟨zq,zn,zA,zc,zl,true⟩):=by unfold prepR; rw [if_neg (by rw [← hmy]; simp),hf]
   rw [hf] at HFi
   obtain ⟨hzm,_⟩:=findW_mem hf
   obtain ⟨y1,y2,y3⟩:=h.wk _ hzm
   dsimp only at y1 y2 y3
   have hl3:=h.sm.2.2 _ hzm
   dsimp only at hl3
   obtain ⟨nl,hnl⟩:∃ nl,nl=zl.length:=⟨_,rfl⟩
   obtain ⟨w1,hw1⟩:∃ w1,w1=w.setCell ⟨zq,2,none⟩ (.bool true):=⟨_,rfl⟩
   have g1:w.grownBy w1 (some zq):=by rw [hw1]; exact lgrown_set _ _ _
   have k1:Blk w1 zq 149 #[.int .i64 zn,.slice zA zl.length zc,.bool true]:=by rw [hw1]; simpa using y2.set_ 2 (.bool true)
   have own1:OwnC w1 B zA zc zl:=own_kept y3 y2 (by decide) g1
   obtain ⟨A2,c2,w2,hrun,own2,g2,hat2⟩:=ch_app (OwnC.nil w1 w1.heap.size) zA zc zl 0 nl rfl hnl (fun b o e i hi => by
    obtain ⟨b',o',e',_,hc⟩:=own1.at_.inl (by omega)
    cases e; cases e'; exact hc i hi) (fun hp => by obtain ⟨b',o',e',_⟩:=own1.at_.inl hp; exact ⟨b',o',e'⟩) (Nat.le_refl _) (by simp; omega) (Nat.le_refl _)
   rw [Nat.zero_add] at hrun
   rw [List.nil_append] at own2
   have b2:Below w1.heap.size w1 w2:=⟨g2.os,g2.tape,g2.output,g2.size,fun k hk => g2.block k hk (by simp [blk])⟩
   have k2:=k1.below b2 k1.lt
   have hsame:∀ k,k < w.heap.size→k≠zq→blk zA≠some k→w2.heap[k]?=w.heap[k]?:=fun k hk hz _ => by
    rw [b2.block k (Nat.lt_of_lt_of_le hk g1.size)]
    exact g1.block k hk (fun e => hz (by injection e))
   have hs:=Nat.le_trans g1.size b2.size
   have hR:=h.upd (w':=w2) hzm (z':=⟨zq,zn,zA,zc,zl,true⟩) rfl hs hsame k2 (own1.kept (lbelow_grown b2 none) (fun r e => by cases e)) (fun r e => .inl e) hl3
   have hrg:RG B w w2 x (fun _ => False):=⟨b2.os.trans g1.os,b2.tape.trans g1.tape,b2.output.trans g1.output,hs,fun k hb hk _ => by
    rw [b2.block k (Nat.lt_of_lt_of_le hk g1.size)]
    exact g1.block k hk (fun e => by have:=Option.some.inj e; omega),fun k hk _ => by
    by_cases e:k=zq
    ·subst e; exact .inr (.inr (.inl ⟨_,_,y2⟩))
    ·refine .inl ?_
     rw [b2.block k (Nat.lt_of_lt_of_le hk g1.size)]
     exact g1.block k hk (fun e2 => e (by injection e2))⟩
   have HF:Hid (RPrepO E w B x P ws gv n (.returned (.tuple #[.slice A2 nl c2,.int .i64 0])) w2):=Lib.hid ⟨A2,nl,c2,by rw [hM],by rw [hM]; exact hnl,by rw [hM]; exact own2.less g1.size,by rw [hM]; exact hR,hrg⟩
   have c2':=y2.cell 2
   have f2:=y2.frozen 2
   have d1:=k1.cell 1
   simp only [List.getElem?_toArray,List.getElem?_cons_zero,List.getElem?_cons_succ] at c2' d1
   rw [← hnl] at d1
   rw [hw1] at d1 hrun
   clear h hmy hM hf hzm y1 y2 y3 hl3 hnl hw1 g1 k1 own1 own2 g2 hat2 b2 k2 hsame hs hR hrg
   go_enter Tryz.func87,Tryz.ntmps87
   go_wp2_with fail
   refine HMy.out.mono ?_
   rintro e w1 ⟨rfl,rfl⟩
   go_wp2_with fail
   refine HFi.out.mono ?_
   rintro e w2 ⟨rfl,rfl⟩
   dsimp only [Option.map_some]
   go_wp2_with (at_builtin; refine wpList_append_run rfl (.tmp 23) (.tmp 27) 40 rfl _ _ _ _ rfl rfl hrun ?_)
   go_ret2
   exact HF.out
 ·have hM:prepR ws n=(([],my),ws):=by unfold prepR; rw [if_pos (by rw [← hmy]; exact h0),hmy]
  have hb:(my != 0)=true:=by simp [h0]
  have HF:Hid (RPrepO E w B x P ws gv n (.returned (.tuple #[.slice none 0 0,.int .i64 my])) w):=Lib.hid ⟨none,0,0,by rw [hM],by rw [hM]; rfl,by rw [hM]; exact OwnC.nil _ _,by rw [hM]; exact h,RG.of (lbelow_grown (Below.refl _ _) _)⟩
  clear h hmy hM
  go_enter Tryz.func87,Tryz.ntmps87
  go_wp2_with fail
  refine HMy.out.mono ?_
  rintro e w1 ⟨rfl,rfl⟩
  go_wp2
  go_ret2
  exact HF.out
end Go.Proofs.YtlliaihmfimdoaaGreat.Qu.Dq


namespace Go.Proofs.YtlliaihmfimdoaaGreat.Qu.Dq
variable {E:Value × Value × Value}
open Go.RowKit Go.Maps Go.Joins Go.Deep
def RTakeO (E:Value × Value × Value) (w:World) (B x:Nat) (P:List (Int × Nat)) (ws:List WI) (gv n:Int) (e:Ending) (w':World):Prop :=
 (mayR ws n≠0∧e=.returned (.tuple #[.int .u64 0,.int .i64 (mayR ws n)])∧Below w.heap.size w w') ∨
 (mayR ws n=0∧nextR ws n P=none∧e=.returned (.tuple #[.int .u64 0,.int .i64 140])∧Below w.heap.size w w') ∨
 (mayR ws n=0∧∃ y,nextR ws n P=some y∧((takR ws y.1≠0∧e=.returned (.tuple #[.int .u64 0,.int .i64 120])∧Below w.heap.size w w') ∨
  (takR ws y.1=0∧e=.returned (.tuple #[.int .u64 (y.2:Nat),.int .i64 0])∧NoteO E w B x P ws gv n ⟨4,y.1,y.2⟩ w')))
set_option maxRecDepth 100000 in
set_option maxHeartbeats 1000000 in
theorem rtake_any (B x:Nat) (P:List (Int × Nat)) (ws:List WI) (gv n:Int) (w:World) (h:RQ E w B x P ws gv) (hB:B≤w.heap.size) (hl:ws.length < 100) (hls:∀ y ∈ ws,y.l.length < 300) :
  Calls Tryz.prog 85 #[.pointer (some ⟨x,3,none⟩),.int .i64 n] w (RTakeO E w B x P ws gv n):=by
 have HMy:=Lib.hid (rmay_any B x P ws gv n w h)
 have H:=Lib.hid h
 have HNt:=Lib.hid (fun (y:Int × Nat) u (hb:Below w.heap.size w u) => rnote_any B x P ws gv n 4 y.1 y.2 u (h.below hb) (Nat.le_trans hB hb.size) hl hls)
 obtain ⟨nP,hnP⟩:∃ nP,nP=P.length:=⟨_,rfl⟩
 have hP1:nP≤48:=by rw [hnP]; exact h.sm.1
 have HN:=Lib.hid hnP
 obtain ⟨my,hmy⟩:∃ my,my=mayR ws n:=⟨_,rfl⟩
 rw [← hmy] at HMy
 by_cases h0:my=0
 ·subst h0
  have HA:Hid (∀ w',nextR ws n P=none→Below w.heap.size w w'→RTakeO E w B x P ws gv n (.returned (.tuple #[.int .u64 0,.int .i64 140])) w'):=Lib.hid fun w' a b => .inr (.inl ⟨hmy.symm,a,rfl,b⟩)
  have HBk:Hid (∀ w' y,nextR ws n P=some y→takR ws y.1≠0→Below w.heap.size w w'→RTakeO E w B x P ws gv n (.returned (.tuple #[.int .u64 0,.int .i64 120])) w'):=Lib.hid fun w' y a c b => .inr (.inr ⟨hmy.symm,y,a,.inl ⟨c,rfl,b⟩⟩)
  have HCk:Hid (∀ w' y,nextR ws n P=some y→takR ws y.1=0→NoteO E w B x P ws gv n ⟨4,y.1,y.2⟩ w'→RTakeO E w B x P ws gv n (.returned (.tuple #[.int .u64 (y.2:Nat),.int .i64 0])) w'):=Lib.hid fun w' y a c b => .inr (.inr ⟨hmy.symm,y,a,.inr ⟨c,rfl,b⟩⟩)
  have HI:Hid (nextR ws n (P.drop 0)=nextR ws n P∧Below w.heap.size w w):=Lib.hid ⟨rfl,Below.refl _ _⟩
  clear h hB hl hls hnP hmy
  go_enter Tryz.func85,Tryz.ntmps85
  go_wp2_with fail
  refine HMy.out.mono ?_
  rintro e w1 ⟨rfl,rfl⟩
  go_wp2_with fail
  go_loopw [7] (fun iv wr => ∃ (i:Nat),i≤nP∧iv=.int .i64 i∧Hid (nextR ws n (P.drop i)=nextR ws n P∧Below w.heap.size w wr)) (fun iv _ => nP - (intOf iv).toNat)
  case atStart => exact ⟨0,Nat.zero_le _,rfl,HI⟩
  case round =>
   clear HI
   obtain ⟨i,hi,rfl,HR⟩:=hrel
   have hr:=H.out.below HR.out.2
   by_cases hin:i < nP
   ·have hiI:(i:Int) < (nP:Int):=by omega
    have hil:i < P.length:=by rw [← HN.out]; exact hin
    obtain ⟨b,cP,r0,r1,r2,hbl⟩:=hr.item i hil
    rw [← HN.out] at r0
    have hst:=nextR_drop ws n P i hil
    rw [HR.out.1] at hst
    obtain ⟨y,hy⟩:∃ y,y=P[i]'hil:=⟨_,rfl⟩
    rw [← hy] at r1 r2 hst
    obtain ⟨yn,yv⟩:=y
    dsimp only at r1 r2 hst
    obtain ⟨w2,hw2⟩:∃ w2,w2=wr.alloc (.cells #[.int .i64 yn,.int .u64 (yv:Nat)] 154):=⟨_,rfl⟩
    have b2:Below wr.heap.size wr w2:=by rw [hw2]; exact ba _ _
    have k2:Blk w2 wr.heap.size 154 #[.int .i64 yn,.int .u64 (yv:Nat)]:=by rw [hw2]; exact Blk.new _ _ _
    have HTk:=Lib.hid (rtaker_any B x P ws gv yn w2 (hr.below b2))
    have HW2:=Lib.hid hw2
    have H2:=Lib.hid (And.intro (bt HR.out.2 b2) k2)
    obtain ⟨t,ht⟩:∃ t,t=takR ws yn:=⟨_,rfl⟩
    rw [← ht] at HTk hst
    have Ht:=Lib.hid ht
    have HS:=Lib.hid hst
    have Hsz:=Lib.hid HR.out.2.size
    clear hr hil hy hst hw2 b2 k2 ht HR
    go_wp2_with fail
    rw [← HW2.out]
    refine HTk.out.mono ?_
    rintro e w3 ⟨rfl,b3⟩
    have k3:=H2.out.2.below b3 H2.out.2.lt
    have d0:=k3.cell 0
    have d1:=k3.cell 1
    simp only [List.getElem?_toArray,List.getElem?_cons_zero,List.getElem?_cons_succ] at d0 d1
    have HB3:=Lib.hid (bt H2.out.1 b3)
    have HK3:=Lib.hid k3
    have Hxp:Hid (wr.heap.size≠x):=Lib.hid (by obtain ⟨_,_,_,_,_,_,hk,_⟩:=H.out.ex; have:=hk.lt; have:=Hsz.out; omega)
    clear b3 k3 r0 r1 r2
    by_cases h1:t=n
    ·have HN2:Hid (nextR ws n (P.drop (i + 1))=nextR ws n P∧Below w.heap.size w w3):=Lib.hid ⟨by rw [HS.out,if_pos h1],HB3.out⟩
     subst h1
     clear d0 d1
     go_wp2
     go_roundw
     case rel => exact ⟨i + 1,by omega,by go_num,HN2⟩
     case measure => simp [intOf]; omega
    ·have h1b:(t == n)=false:=by simpa using h1
     have HS2:Hid (nextR ws n P=some (yn,yv)):=Lib.hid (by rw [HS.out,if_neg h1])
     by_cases h2:t=0
     ·subst h2
      have HN3:=Lib.hid (HNt.out (yn,yv) w3 HB3.out)
      go_wp2_with fail
      refine HN3.out.mono ?_
      rintro e w4 ⟨rfl,hn⟩
      obtain ⟨_,_,_,_,_,_,hrg,_⟩:=id hn
      have k4:=hrg.item HK3.out Hxp.out
      have d1':=k4.cell 1
      simp only [List.getElem?_toArray,List.getElem?_cons_zero,List.getElem?_cons_succ] at d1'
      have HF:=Lib.hid (HCk.out w4 (yn,yv) HS2.out Ht.out.symm (hn.from HB3.out))
      clear hn hrg k4 d0 d1
      go_wp2
      go_ret2
      exact HF.out
     ·have h2b:(t != 0)=true:=by simpa using h2
      have HF:=Lib.hid (HBk.out w3 (yn,yv) HS2.out (by rw [← Ht.out]; exact h2) HB3.out)
      clear d0 d1
      go_wp2
      go_ret2
      exact HF.out
   ·have hiI:¬ (i:Int) < (nP:Int):=by omega
    obtain ⟨AP,cP,c0⟩:=hr.ilen
    rw [← HN.out] at c0
    have HF:=Lib.hid (HA.out wr (by rw [← HR.out.1,List.drop_eq_nil_of_le (by rw [← HN.out]; omega)]; rfl) HR.out.2)
    clear hr HR
    go_wp2
    go_ret2
    exact HF.out
 ·have hb:(my != 0)=true:=by simp [h0]
  have HF:Hid (RTakeO E w B x P ws gv n (.returned (.tuple #[.int .u64 0,.int .i64 my])) w):=Lib.hid (.inl ⟨by rw [← hmy]; exact h0,by rw [← hmy],Below.refl _ _⟩)
  clear h hB hl hls hnP hmy
  go_enter Tryz.func85,Tryz.ntmps85
  go_wp2_with fail
  refine HMy.out.mono ?_
  rintro e w1 ⟨rfl,rfl⟩
  go_wp2
  go_ret2
  exact HF.out
end Go.Proofs.YtlliaihmfimdoaaGreat.Qu.Dq


namespace Go.Proofs.YtlliaihmfimdoaaGreat.Qu.Dq
variable {E:Value × Value × Value}
open Go.RowKit Go.Maps Go.Joins Go.Deep
theorem RQ.rpr {w:World} {B B' x:Nat} {P P':List (Int × Nat)} {ws:List WI} {gv:Int} (h:RQ E w B x P ws gv) {A:Option Addr} {c n:Nat} (hn:n=P'.length) (ho:OwnPr w B' A c P') (hB:B≤B') (hl:P'.length≤48):RQ E (w.setCell ⟨x,3,none⟩ (.slice A n c)) B x P' ws gv:=by
 obtain ⟨AP,nP,cP,AW,nW,cW,hk,hnP,hnW,hpr,hpt⟩:=h.ex
 have hgs:=lgrown_set w ⟨x,3,none⟩ (.slice A n c)
 have ks:=hk.set_ 3 (.slice A n c)
 exact ⟨⟨A,n,c,AW,nW,cW,ks,hn,hnW,own_kept (own_less ho hB) hk (by decide) hgs,own_kept hpt hk (by decide) hgs⟩,wk_kept h.wk hk hgs,h.ds,hl,h.sm.2⟩
theorem RQ.rgv {w:World} {B x:Nat} {P:List (Int × Nat)} {ws:List WI} {gv:Int} (h:RQ E w B x P ws gv) (g':Int):RQ E (w.setCell ⟨x,5,none⟩ (.int .i64 g')) B x P ws g':=by
 obtain ⟨AP,nP,cP,AW,nW,cW,hk,hnP,hnW,hpr,hpt⟩:=h.ex
 have hgs:=lgrown_set w ⟨x,5,none⟩ (.int .i64 g')
 have ks:=hk.set_ 5 (.int .i64 g')
 exact ⟨⟨AP,nP,cP,AW,nW,cW,ks,hnP,hnW,own_kept hpr hk (by decide) hgs,own_kept hpt hk (by decide) hgs⟩,wk_kept h.wk hk hgs,h.ds,h.sm⟩
theorem RQ.row {w w':World} {B x:Nat} {P:List (Int × Nat)} {ws:List WI} {gv:Int} (h:RQ E w B x P ws gv) (hg:w.grownBy w' (some x)) {g':Int} {v0 v1:Value} (hb:Blk w' x 38 #[E.1,E.2.1,E.2.2,v0,v1,.int .i64 g']) (h0:w.cell? ⟨x,3,none⟩=some v0) (h1:w.cell? ⟨x,4,none⟩=some v1):RQ E w' B x P ws g':=by
 obtain ⟨AP,nP,cP,AW,nW,cW,hk,hnP,hnW,hpr,hpt⟩:=h.ex
 have e0:=(hk.cell 3).symm.trans h0
 have e1:=(hk.cell 4).symm.trans h1
 simp only [List.getElem?_toArray,List.getElem?_cons_zero,List.getElem?_cons_succ] at e0 e1
 injection e0 with e0
 injection e1 with e1
 subst e0 e1
 exact ⟨⟨AP,nP,cP,AW,nW,cW,hb,hnP,hnW,own_kept hpr hk (by decide) hg,own_kept hpt hk (by decide) hg⟩,wk_kept h.wk hk hg,h.ds,h.sm⟩
set_option maxRecDepth 100000 in
set_option maxHeartbeats 1000000 in
theorem rcommit_any (B x:Nat) (P:List (Int × Nat)) (ws:List WI) (gv n:Int) (w:World) (h:RQ E w B x P ws gv) (hB:B≤w.heap.size) (hg:0≤gv) (hp:∀ z,findW ws n=some z→P.length + putsL z.l≤48∧gv + (putsL z.l:Nat)≤4611686018427387904) :
  Calls Tryz.prog 89 #[.pointer (some ⟨x,3,none⟩),.int .i64 n] w fun e w' => e=.returned (.int .i64 (commitR P ws gv n).1)∧RQ E w' B x (commitR P ws gv n).2.1 (commitR P ws gv n).2.2.1 (commitR P ws gv n).2.2.2∧w.grownBy w' (some x):=by
 have HF:=Lib.hid (rfind_any B x P ws gv n w h)
 have H:=Lib.hid h
 rcases a1:decide (n < 1) with _ | _
 ·have p1:¬ n < 1:=of_decide_eq_false a1
  rcases hf:findW ws n with _ | z
  ·have hM:commitR P ws gv n=(0,P,ws,gv):=by unfold commitR; rw [if_neg p1,hf]
   rw [hM]
   rw [hf] at HF
   clear h hM hf hp
   go_enter Tryz.func89,Tryz.ntmps89
   go_wp2_with fail
   refine HF.out.mono ?_
   rintro e w1 ⟨rfl,rfl⟩
   dsimp only [Option.map_none]
   go_wp2
   go_ret
   exact ⟨rfl,H.out,lbelow_grown (Below.refl _ _) _⟩
  ·obtain ⟨hp1,hp2⟩:=hp z hf
   obtain ⟨hzm,hzn⟩:=findW_mem hf
   have hM:commitR P ws gv n=(0,keptR ws n P ++ newsR gv z.l,othersW ws n,gv + (putsL z.l:Nat)):=by unfold commitR; rw [if_neg p1,hf]
   rw [hM]
   obtain ⟨zq,zn,zA,zc,zl,zp⟩:=z
   dsimp only at hp1 hp2 ⊢
   rw [hf] at HF
   have hzl:=h.sm.2.2 _ hzm
   dsimp only at hzl
   obtain ⟨nl,hnl⟩:∃ nl,nl=zl.length:=⟨_,rfl⟩
   have hnl3:nl≤300:=by omega
   obtain ⟨nP,hnP⟩:∃ nP,nP=P.length:=⟨_,rfl⟩
   have hP1:nP≤48:=by rw [hnP]; exact h.sm.1
   have HW:=Lib.hid (fun (u:World) (g:Int) (hu:RQ E u B x P ws g) => hu.wk _ hzm)
   have HN:=Lib.hid (And.intro hnP hnl)
   have HB:=Lib.hid (And.intro hB (And.intro hp1 (And.intro hp2 hg)))
   have hxl:x < w.heap.size:=by obtain ⟨_,_,_,_,_,_,hk,_⟩:=h.ex; exact hk.lt
   have Hx:=Lib.hid hxl
   obtain ⟨v0,v1,hv0,hv1,hkx⟩:∃ v0 v1,w.cell? ⟨x,3,none⟩=some v0∧w.cell? ⟨x,4,none⟩=some v1∧Blk w x 38 #[E.1,E.2.1,E.2.2,v0,v1,.int .i64 gv]:=by
    obtain ⟨AP,nP,cP,AW,nW,cW,hk,_⟩:=h.ex
    exact ⟨_,_,hk.cell 3,hk.cell 4,hk⟩
   have HV:=Lib.hid (And.intro hv0 (And.intro hv1 hkx))
   have HI:Hid (∃ K,K=keptR ws n (P.take 0)∧0=K.length∧OwnPr w w.heap.size none 0 K∧Below w.heap.size w w):=Lib.hid ⟨[],rfl,rfl,World.ownsRow_nil _ _ _ _,Below.refl _ _⟩
   clear h hM hf hp hzm hnl hnP hB hg hp1 hp2 hzl hxl hv0 hv1 hkx
   go_enter Tryz.func89,Tryz.ntmps89
   go_wp2_with fail
   refine HF.out.mono ?_
   rintro e w1 ⟨rfl,rfl⟩
   dsimp only [Option.map_some]
   go_wp2_with fail
   go_loopw [6,7] (fun v iv wr => ∃ (j n2 c2:Nat) (A2:Option Addr),v=.slice A2 n2 c2∧j≤nP∧n2≤j∧iv=.int .i64 j∧Hid (∃ K,K=keptR ws n (P.take j)∧n2=K.length∧OwnPr wr w.heap.size A2 c2 K∧Below w.heap.size w wr)) (fun _ iv _ => nP - (intOf iv).toNat)
   case atStart => exact ⟨0,0,0,none,rfl,Nat.zero_le _,Nat.le_refl _,rfl,HI⟩
   case round =>
    clear HI
    obtain ⟨j,n2,c2,A2,rfl,hj,hn2j,rfl,HR⟩:=hrel
    obtain ⟨K,hK,hn2,hown,hb⟩:=HR.out
    have hr:=H.out.below hb
    by_cases hjn:j < nP
    ·have hjI:(j:Int) < (nP:Int):=by omega
     have hjL:j < P.length:=by rw [← HN.out.1]; exact hjn
     obtain ⟨b,cP,r0,r1,r2,hbl⟩:=hr.item j hjL
     rw [← HN.out.1] at r0
     have hst:=keptR_snoc (ws:=ws) (n:=n) hjL
     rw [← hK] at hst
     generalize P[j]'hjL=y at r1 r2 hst
     obtain ⟨yn,yv⟩:=y
     dsimp only at r1 r2 hst
     have HTk:=Lib.hid (rtaker_any B x P ws gv yn wr hr)
     obtain ⟨t,ht⟩:∃ t,t=takR ws yn:=⟨_,rfl⟩
     rw [← ht] at HTk hst
     have HS:=Lib.hid hst
     have HRR:=Lib.hid (And.intro hn2 (And.intro hown hb))
     have HC:=Lib.hid (And.intro (World.block_lt_of_cell? _ _ r0) hbl)
     clear hr hjL hst ht hK hn2 hown hb hbl HR
     go_wp2_with fail
     refine HTk.out.mono ?_
     rintro e w3 ⟨rfl,b3⟩
     have hb3:=bt HRR.out.2.2 b3
     have own3:OwnPr w3 w.heap.size A2 c2 K:=HRR.out.2.1.grown (lbelow_grown b3 none) (fun r e => by cases e)
     by_cases h1:t=n
     ·have HN2:Hid (∃ K,K=keptR ws n (P.take (j + 1))∧n2=K.length∧OwnPr w3 w.heap.size A2 c2 K∧Below w.heap.size w w3):=Lib.hid ⟨K,by rw [HS.out,if_pos h1],HRR.out.1,own3,hb3⟩
      subst h1
      clear b3 hb3 own3 r0 r1 r2
      go_wp2
      go_roundw
      case rel => exact ⟨j + 1,n2,c2,A2,rfl,by omega,by omega,by go_num,HN2⟩
      case measure => simp [intOf]; omega
     ·have h1b:(t != n)=true:=by simpa using h1
      have e0:=(b3.cell (p:=⟨x,3,none⟩) HC.out.1).trans r0
      have e1:=(b3.cell (p:=⟨b,j * 2,none⟩) HC.out.2).trans r1
      have e2:=(b3.cell (p:=⟨b,j * 2 + 1,none⟩) HC.out.2).trans r2
      have hb4:=ba w3 (.cells #[.int .i64 yn,.int .u64 (yv:Nat)] 154)
      have own4:=own3.grown (lbelow_grown hb4 none) (fun r e => by cases e)
      obtain ⟨A5,c5,w5,hrun,own5,hg5⟩:=pr_more own4 n2 HRR.out.1 (by omega) yn yv w3.heap.size (by have:=hb3.size; have:=hb4.size; omega) (Blk.new w3 _ _)
      have hB5:=(bt hb3 hb4).grown hg5 (by have:=hb3.size; have:=hb4.size; omega) (fun r e => (own4.lt' r e).1)
      have HX:Hid (∃ K,K=keptR ws n (P.take (j + 1))∧n2 + 1=K.length∧OwnPr w5 w.heap.size A5 c5 K∧Below w.heap.size w w5):=Lib.hid ⟨_,by rw [HS.out,if_neg h1],by rw [List.length_append,← HRR.out.1]; rfl,own5,hB5⟩
      clear b3 hb3 own3 r0 r1 r2 hb4 own4 own5 hg5 hB5
      go_wp2_with (at_builtin; refine wpList_append_run rfl (.tmp 37) (.tmp 45) 33 rfl _ _ _ w5 rfl rfl hrun ?_)
      go_roundw
      case rel => exact ⟨j + 1,n2 + 1,c5,A5,rfl,by omega,by omega,by go_num,HX⟩
      case measure => simp [intOf]; omega
    ·have hjI:¬ (j:Int) < (nP:Int):=by omega
     obtain ⟨AP,cP,c0⟩:=hr.ilen
     rw [← HN.out.1] at c0
     have hjj:P.take j=P:=List.take_of_length_le (by rw [← HN.out.1]; omega)
     rw [hjj] at hK
     obtain ⟨k0,hk0⟩:∃ k0,k0=K.length:=⟨_,rfl⟩
     have hk48:k0≤48:=by rw [hk0,hK]; exact Nat.le_trans (keptR_le ws n P) (by rw [← HN.out.1]; exact hP1)
     have HI2:Hid (∃ M,M=K ++ newsR gv (zl.take 0)∧n2=M.length∧OwnPr wr w.heap.size A2 c2 M∧Blk wr x 38 #[E.1,E.2.1,E.2.2,v0,v1,.int .i64 (gv + (putsL (zl.take 0):Nat))]∧w.grownBy wr (some x)):=Lib.hid ⟨K,by unfold newsR prI; simp [newsQ],hn2,hown,by simpa [putsL] using HV.out.2.2.below hb HV.out.2.2.lt,lbelow_grown hb _⟩
     have HK:=Lib.hid (And.intro hK hk0)
     have hn2k:n2≤k0 + 0:=by omega
     clear hr hjj hK hown hb hk0 HR hn2
     go_wp2_with fail
     go_loopw [6,8] (fun v iv wr => ∃ (j n2 c2:Nat) (A2:Option Addr),v=.slice A2 n2 c2∧j≤nl∧n2≤k0 + j∧iv=.int .i64 j∧Hid (∃ M,M=K ++ newsR gv (zl.take j)∧n2=M.length∧OwnPr wr w.heap.size A2 c2 M∧Blk wr x 38 #[E.1,E.2.1,E.2.2,v0,v1,.int .i64 (gv + (putsL (zl.take j):Nat))]∧w.grownBy wr (some x))) (fun _ iv _ => nl - (intOf iv).toNat)
     case atStart => exact ⟨0,n2,c2,A2,rfl,Nat.zero_le _,hn2k,rfl,HI2⟩
     case round =>
      clear HI2 hj hn2j hjn hjI c0 hn2k
      obtain ⟨j,n2,c2,A2,rfl,hj,hn2j,rfl,HR⟩:=hrel
      obtain ⟨M,hM,hn2,hown,hkb,hgr⟩:=HR.out
      have hr:=H.out.row hgr hkb HV.out.1 HV.out.2.1
      obtain ⟨hz1,hz2,hz3⟩:=HW.out wr _ hr
      have z1:=hz2.cell 1
      simp only [List.getElem?_toArray,List.getElem?_cons_zero,List.getElem?_cons_succ] at z1
      rw [← HN.out.2] at z1
      by_cases hjn:j < nl
      ·have hjI:(j:Int) < (nl:Int):=by omega
       have hjL:j < zl.length:=by rw [← HN.out.2]; exact hjn
       obtain ⟨b,o,hA,_,hcs⟩:=hz3.at_.inl (by omega)
       obtain ⟨r0,r1,r2⟩:=hcs j hjL
       have hst:=newsR_step gv zl j hjL
       have hpt:=putsL_step zl j hjL
       have hple:=putsL_take_le zl (j + 1)
       obtain ⟨c,hc⟩:∃ c,c=zl[j]'hjL:=⟨_,rfl⟩
       rw [← hc] at r0 r1 r2 hst hpt
       obtain ⟨ck,cy,cv⟩:=c
       dsimp only at r0 r1 r2 hst hpt
       rw [hA] at z1
       by_cases h3:ck=3
       ·rw [if_pos h3] at hst hpt
        obtain ⟨gj,hgj⟩:∃ gj:Int,gj=gv + (putsL (zl.take j):Nat):=⟨_,rfl⟩
        obtain ⟨gk,hgk⟩:∃ gk:Int,gk=gj + 1:=⟨_,rfl⟩
        have hB3:=HB.out
        have swr:IntKind.i64.wrap (gj + 1)=gk:=by rw [hgk]; exact IntWalk.i64_in _ (by omega)
        rw [← hgj] at hkb
        have c2':=hkb.cell 5
        have f2':=hkb.frozen 5
        simp only [List.getElem?_toArray,List.getElem?_cons_zero,List.getElem?_cons_succ] at c2'
        obtain ⟨w4,hw4⟩:∃ w4,w4=wr.setCell ⟨x,5,none⟩ (.int .i64 gk):=⟨_,rfl⟩
        have g4:wr.grownBy w4 (some x):=by rw [hw4]; exact lgrown_set _ _ _
        have k4:Blk w4 x 38 #[E.1,E.2.1,E.2.2,v0,v1,.int .i64 gk]:=by rw [hw4]; exact hkb.set_ 5 _
        have hg4:=hgr.trans g4
        have hr4:=H.out.row hg4 k4 HV.out.1 HV.out.2.1
        have own4:OwnPr w4 w.heap.size A2 c2 M:=hown.grown g4 (fun r e e2 => by cases e; have:=(hown.lt' _ e2).1; have:=Hx.out; omega)
        obtain ⟨hz1',hz2',hz3'⟩:=HW.out w4 _ hr4
        obtain ⟨b',o',hA',_,hcs'⟩:=hz3'.at_.inl (by omega)
        rw [hA] at hA'
        obtain ⟨rfl,rfl⟩:b=b'∧o=o':=by cases hA'; exact ⟨rfl,rfl⟩
        have s2:=(hcs' j hjL).2.2
        rw [← hc] at s2
        dsimp only at s2
        have s1:=hz2'.cell 1
        simp only [List.getElem?_toArray,List.getElem?_cons_zero,List.getElem?_cons_succ] at s1
        rw [← HN.out.2,hA] at s1
        have s0:=k4.cell 5
        simp only [List.getElem?_toArray,List.getElem?_cons_zero,List.getElem?_cons_succ] at s0
        obtain ⟨W,hW⟩:∃ W,W=w4.drew:=⟨_,rfl⟩
        have bW:Below w4.heap.size w4 W:=by rw [hW]; exact ⟨rfl,rfl,rfl,Nat.le_refl _,fun _ _ => rfl⟩
        have b5:=ba W (.cells #[.int .i64 gk,.int .u64 (cv:Nat)] 154)
        have b45:=bt bW b5
        have own5:=own4.grown (lbelow_grown b45 none) (fun r e => by cases e)
        have hsz:w.heap.size≤(W.alloc (.cells #[.int .i64 gk,.int .u64 (cv:Nat)] 154)).heap.size:=by have:=hg4.size; have:=b45.size; omega
        obtain ⟨A6,c6,w6,hrun,own6,g6⟩:=pr_more own5 n2 hn2 (by omega) gk cv W.heap.size hsz (Blk.new W _ _)
        have hg6:w.grownBy w6 (some x):=grown_new (hg4.trans (lbelow_grown b45 _)) g6 (fun r e => (own5.lt' r e).1)
        have hk6:Blk w6 x 38 #[E.1,E.2.1,E.2.2,v0,v1,.int .i64 gk]:=(k4.below b45 k4.lt).kept g6 (fun e => by have:=(own5.lt' x e.symm).1; have:=Hx.out; omega)
        have HX:Hid (∃ M,M=K ++ newsR gv (zl.take (j + 1))∧n2 + 1=M.length∧OwnPr w6 w.heap.size A6 c6 M∧Blk w6 x 38 #[E.1,E.2.1,E.2.2,v0,v1,.int .i64 (gv + (putsL (zl.take (j + 1)):Nat))]∧w.grownBy w6 (some x)):=Lib.hid ⟨_,by rw [hst,← List.append_assoc,← hM,← hgj,← hgk],by rw [List.length_append,← hn2]; rfl,own6,by rw [hpt,Int.natCast_add,← Int.add_assoc,← hgj]; rw [hgk] at hk6; exact hk6,hg6⟩
        rw [hW] at hrun
        have HW4:=Lib.hid hw4
        clear hr hz1 hz2 hz3 hst hpt hple hcs hcs' hjL hc hA hA' hM hn2 hown hkb hgr HR hgj hgk hB3 g4 k4 hg4 hr4 own4 hz1' hz2' hz3' hW bW b5 b45 own5 hsz own6 g6 hg6 hk6 hw4
        go_wp2_with fail
        rw [← HW4.out]
        clear c2' f2' z1 r0 r1 r2
        go_region_law (refine step_append_run rfl (.tmp 73) (.tmp 87) 33 rfl _ _ _ w6 rfl rfl hrun ?_)
        all_goals
         go_wp2
         go_roundw
         case rel => exact ⟨j + 1,n2 + 1,c6,A6,rfl,by omega,by omega,by go_num,HX⟩
         case measure => simp [intOf]; omega
       ·rw [if_neg h3] at hst
        rw [if_neg h3,Nat.add_zero] at hpt
        have h3b:(ck == 3)=false:=by simpa using h3
        have HX:Hid (∃ M,M=K ++ newsR gv (zl.take (j + 1))∧n2=M.length∧OwnPr wr w.heap.size A2 c2 M∧Blk wr x 38 #[E.1,E.2.1,E.2.2,v0,v1,.int .i64 (gv + (putsL (zl.take (j + 1)):Nat))]∧w.grownBy wr (some x)):=Lib.hid ⟨M,by rw [hst]; exact hM,hn2,hown,by rw [hpt]; exact hkb,hgr⟩
        clear hr hz1 hz2 hz3 hst hpt hple hcs hjL hc hA hM hn2 hown hkb hgr HR
        go_wp2
        go_roundw
        case rel => exact ⟨j + 1,n2,c2,A2,rfl,by omega,by omega,by go_num,HX⟩
        case measure => simp [intOf]; omega
      ·have hjI:¬ (j:Int) < (nl:Int):=by omega
       have hjj:zl.take j=zl:=List.take_of_length_le (by rw [← HN.out.2]; omega)
       rw [hjj] at hM hkb hr
       have c0:=hkb.cell 3
       have f0:=hkb.frozen 3
       simp only [List.getElem?_toArray,List.getElem?_cons_zero,List.getElem?_cons_succ] at c0
       obtain ⟨w5,hw5⟩:∃ w5,w5=wr.setCell ⟨x,3,none⟩ (.slice A2 n2 c2):=⟨_,rfl⟩
       have hg5:wr.grownBy w5 (some x):=by rw [hw5]; exact lgrown_set _ _ _
       have hML:M.length≤48:=by
        have h1:=keptR_le ws n P
        have h2:=HB.out.2.1
        rw [hM,List.length_append,newsR_len,HK.out.1]; omega
       have hr5:RQ E w5 B x M ws (gv + (putsL zl:Nat)):=by rw [hw5]; exact hr.rpr hn2 hown HB.out.1 hML
       have HD:=Lib.hid (rqdrop_any B x M ws _ n w5 hr5 (Nat.le_trans HB.out.1 (Nat.le_trans hgr.size hg5.size)))
       have HM:Hid (M=keptR ws n P ++ newsR gv zl):=Lib.hid (by rw [hM,HK.out.1])
       have HG:=Lib.hid (hgr.trans hg5)
       have HW5:=Lib.hid hw5
       clear hr hz1 hz2 hz3 hjj hM hn2 hown hkb hgr HR hg5 hML hr5 hw5
       go_wp2_with fail
       rw [← HW5.out]
       refine HD.out.mono ?_
       rintro e w6 ⟨rfl,hq,hg⟩
       have HX:=Lib.hid (And.intro hq (HG.out.trans hg))
       clear hq hg c0 f0 z1
       go_wp2
       go_ret
       exact ⟨rfl,by rw [← HM.out]; exact HX.out.1,HX.out.2⟩
 ·have p1:n < 1:=of_decide_eq_true a1
  have hM:commitR P ws gv n=(1,P,ws,gv):=if_pos p1
  rw [hM]
  clear h hM HF hp
  go_enter Tryz.func89,Tryz.ntmps89
  go_wp2
  go_ret
  exact ⟨rfl,H.out,lbelow_grown (Below.refl _ _) _⟩
end Go.Proofs.YtlliaihmfimdoaaGreat.Qu.Dq

