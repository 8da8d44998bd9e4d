/- Parts Sb Sc Sd Sh Si Sj of one proof. -/
import Derived.Test.YtlliaihmfimdoaaGreatMg28
import Derived.Laws.Cover3
import Derived.Lib.AppendZeros
import Derived.Lib.Hide
import Derived.Test.YtlliaihmfimdoaaGreatMg14
import Derived.Lib.SliceRun
set_option linter.unusedSimpArgs false
set_option linter.unusedVariables false
namespace Go.Proofs.YtlliaihmfimdoaaGreat.Re
open Go.RowKit Go.Maps Go.Deep Go.Proofs.YtlliaihmfimdoaaGreat
theorem grow_zero (w:World):Calls Tryz.prog 108 #[.slice none 0 0,.int .i64 0] w fun e w' => e=.returned (.slice none 0 0)∧w=w':=by
 go_enter Tryz.func108,Tryz.ntmps108
 go_wp2
 go_ret
 exact ⟨rfl,rfl⟩
theorem cown_empty (w:World) (cs:Array Value) (c:Nat) (hs:cs.size=c * 3) (hc:c≤maxLen):OwnC (w.alloc (.cells cs 74)) w.heap.size (some ⟨w.heap.size,0,none⟩) c [] :=
 ⟨by simp [chV],.inr ⟨w.heap.size,c,cs,rfl,Nat.le_refl _,heap_alloc_new w _,Nat.zero_le _,hc,hs,by simp [chV]⟩⟩
theorem zc_size (n m:Nat):(Builtin.zeroCells (Value.agg #[.int .i64 0,.int .i64 0,.int .u64 0]).cells n ++ Builtin.zeroCells (Value.agg #[.int .i64 0,.int .i64 0,.int .u64 0]).cells m).size=(n + m) * 3:=by
 simp [Builtin.zeroCells,Value.cells]
 try omega
set_option maxRecDepth 100000 in
theorem grow_pos (n:Nat) (w:World) (h0:0 < n) (hm:n≤1000000):Calls Tryz.prog 108 #[.slice none 0 0,.int .i64 n] w fun e w' => ∃ A c,e=.returned (.slice A 0 c)∧OwnC w' w.heap.size A c []∧Below w.heap.size w w':=by
 obtain ⟨i0,hi,hz0,hz1,hz2⟩:=info_parts Tryz.infoCh
 have e1:IntKind.i64.wrap (n:Int)=(n:Int):=IntWalk.i64_in _ (by omega)
 have hap:=fun ty => Lib.run_append_nil_zeros (P:=Tryz.prog) w 40 3 ty 74 i0 _ .i64 .i64 Tryz.underlying40 Tryz.underlying3 hi hz0 n h0 (by omega) (by omega) (by rw [hz2]; omega)
 have hge:=grownCap_ge w n 0 74
 have hle:=grownCap_le_maxLen w n 0 74 (by simp only [maxLen]; omega)
 obtain ⟨C,hC0⟩:∃ C,C=grownCap w n 0 74:=⟨_,rfl⟩
 rw [← hC0] at hap hge hle
 have how:=cown_empty w.drew (Builtin.zeroCells (Value.agg #[.int .i64 0,.int .i64 0,.int .u64 0]).cells n ++ Builtin.zeroCells (Value.agg #[.int .i64 0,.int .i64 0,.int .u64 0]).cells (C - n)) C (by rw [zc_size,Nat.add_sub_cancel' hge]) hle
 have hb:Below w.heap.size w (w.drew.alloc (.cells (Builtin.zeroCells (Value.agg #[.int .i64 0,.int .i64 0,.int .u64 0]).cells n ++ Builtin.zeroCells (Value.agg #[.int .i64 0,.int .i64 0,.int .u64 0]).cells (C - n)) 74)):=(Below.refl _ _).drew.alloc (Nat.le_refl _) _
 generalize hwv:w.drew.alloc (.cells (Builtin.zeroCells (Value.agg #[.int .i64 0,.int .i64 0,.int .u64 0]).cells n ++ Builtin.zeroCells (Value.agg #[.int .i64 0,.int .i64 0,.int .u64 0]).cells (C - n)) 74)=w2 at *
 have how':OwnC w2 w.heap.size (some ⟨w.heap.size,0,none⟩) C []:=how
 clear hwv how hC0
 have hC:(C:Int)≤9223372036854775807:=by simp only [maxLen] at hle; omega
 go_enter Tryz.func108,Tryz.ntmps108
 go_wp2_with (at_builtin; refine Lib.wpList_append_run _ rfl (.tmp 20) (.tmp 21) 40 3 rfl _ _ rfl rfl _ _ (hap _) ?_)
 go_ret
 exact ⟨_,_,rfl,how',hb⟩
theorem grow_any (n:Nat) (w:World) (hm:n≤1000000):Calls Tryz.prog 108 #[.slice none 0 0,.int .i64 n] w fun e w' => ∃ A c,e=.returned (.slice A 0 c)∧OwnC w' w.heap.size A c []∧Below w.heap.size w w':=by
 rcases Nat.eq_zero_or_pos n with rfl | h
 ·refine (grow_zero w).mono ?_
  rintro e w' ⟨rfl,rfl⟩
  exact ⟨none,0,rfl,OwnC.nil _ _,Below.refl _ _⟩
 ·exact grow_pos n w h hm
def csz (n1 n2 k:Nat):Nat:=match k with | 0 => 0 | 1 => n1 | _ => n1 + n2
def cpart (l1 l2:List Ch) (k:Nat):List Ch:=match k with | 0 => [] | 1 => l1 | _ => l1 ++ l2
theorem inl_app {u:World} {B c:Nat} {A:Option Addr} {l:List Ch} (h:OwnC u B A c l) (n:Nat) (hn:n=l.length) (A':Option Addr) (c':Nat) (m:List Ch) (n':Nat) (hn':n'=m.length) (hm:InL u A' m) (hl:l.length + m.length≤1000000) (hB:B≤u.heap.size) :
  ∃ A2 c2 u',(Builtin.append_ #[40,40] 40 #[.slice A n c,.slice A' n' c']).run Tryz.prog u=.ok (.slice A2 (n + n') c2) u'∧OwnC u' B A2 c2 (l ++ m)∧u.grownBy u' (blk A):=by
 obtain ⟨A2,c2,u',h1,h2,h3,_⟩:=ch_app h A' c' m n n' hn hn' (fun b o e i hi => by
  obtain ⟨b',o',e',_,hc⟩:=hm (by omega)
  rw [e] at e'
  cases e'
  exact hc i hi) (fun hp => by obtain ⟨b',o',e',_⟩:=hm hp; exact ⟨b',o',e'⟩) (by have:=h.cap; omega) hl hB
 exact ⟨A2,c2,u',h1,h2,h3⟩
set_option maxHeartbeats 1000000 in
set_option maxRecDepth 100000 in
theorem concat2 (b:Nat) (A1 A2:Option Addr) (l1 l2:List Ch) (n1 n2 c1 c2:Nat) (hn1:Hid (n1=l1.length)) (hn2:Hid (n2=l2.length)) (w:World) (hlt:b < w.heap.size) (h0:w.cell? ⟨b,0,none⟩=some (.slice A1 n1 c1)) (h1:w.cell? ⟨b,1,none⟩=some (.slice A2 n2 c2))
  (hb1:InL w A1 l1) (hb2:InL w A2 l2) (hm:Hid (l1.length + l2.length≤1000000)) :
  Calls Tryz.prog 64 #[.slice (some ⟨b,0,none⟩) 2 2] w fun e w' => ∃ A c,e=.returned (.slice A (n1 + n2) c)∧OwnC w' w.heap.size A c (l1 ++ l2)∧Below w.heap.size w w':=by
 have hN:Hid (n1 + n2≤1000000):=Lib.hid (by have:=hn1.out; have:=hn2.out; have:=hm.out; omega)
 have g1:IntKind.i64.wrap (n1:Int)=(n1:Int):=IntWalk.i64_in _ (by have:=hN.out; omega)
 have g2:IntKind.i64.wrap ((n1:Int) + (n2:Int))=(n1:Int) + (n2:Int):=IntWalk.i64_in _ (by have:=hN.out; omega)
 have d1:decide ((n1:Int) < 0)=false:=by simp
 have d2:decide ((n1:Int) + (n2:Int) < 0)=false:=by simp; omega
 go_enter Tryz.func64,Tryz.ntmps64
 go_wp2_with fail
 go_loopw [3,5,11] (fun s p i wr => ∃ (k:Nat) (v:Value),v=p∧k≤2∧i=.int .i64 k∧s=.int .i64 (csz n1 n2 k)∧wr=w) (fun _ _ i _ => 2 - (intOf i).toNat)
 case atStart => exact ⟨0,_,rfl,by omega,rfl,rfl,rfl⟩
 case round =>
  obtain ⟨k,v,rfl,hk,rfl,rfl,hww⟩:=hrel
  have hww':=hww.symm
  subst hww'
  clear hww
  have hk3:k=0∨k=1∨k=2:=by omega
  rcases hk3 with rfl | rfl | rfl
  ·simp only [csz]
   go_wp2
   go_roundw
   case rel => exact ⟨1,_,rfl,by omega,by first | go_num | simp,by first | go_num | (simp [csz]; try omega),by first | trivial | rfl⟩
   case measure => simp [intOf]
  ·simp only [csz]
   go_wp2
   go_roundw
   case rel => exact ⟨2,_,rfl,by omega,by first | go_num | simp,by first | go_num | (simp [csz]; try omega),by first | trivial | rfl⟩
   case measure => simp [intOf]
  ·simp only [csz]
   go_wp2_with fail
   refine (grow_any (n1 + n2) _ (by have:=hN.out; omega)).mono ?_
   rintro e w1 ⟨A,c,rfl,own1,hbw1⟩
   have H0:=Lib.hid h0
   have H1:=Lib.hid h1
   have HB1:=Lib.hid hb1
   have HB2:=Lib.hid hb2
   clear h0 h1 hb1 hb2
   go_wp2_with fail
   go_loopw [6,8,27] (fun s p i wz => ∃ (k:Nat) (v:Value) (A':Option Addr) (c' n':Nat),v=p∧k≤2∧i=.int .i64 k∧s=.slice A' n' c'∧Hid (n'=csz n1 n2 k)∧Hid (n'=(cpart l1 l2 k).length)∧OwnC wz w.heap.size A' c' (cpart l1 l2 k)∧Below w.heap.size w wz) (fun _ _ i _ => 2 - (intOf i).toNat)
   case atStart => exact ⟨0,_,_,_,0,rfl,by omega,rfl,rfl,Lib.hid rfl,Lib.hid rfl,own1,hbw1⟩
   case round =>
    clear own1 hbw1
    obtain ⟨k,v2,A',c',n',rfl,hk,rfl,rfl,hn',hl',own2,hbw2⟩:=hrel
    have z0:=(hbw2.cell (p:=⟨b,0,none⟩) hlt).trans H0.out
    have z1:=(hbw2.cell (p:=⟨b,1,none⟩) hlt).trans H1.out
    have hk3:k=0∨k=1∨k=2:=by omega
    rcases hk3 with rfl | rfl | rfl
    ·simp only [cpart] at own2 hl'
     obtain ⟨A3,c3,w3,hrun,own3,hg3⟩:=inl_app own2 n' hl'.out A1 c1 l1 n1 hn1.out (HB1.out.below hbw2) (by have:=hm.out; simp; omega) hbw2.size
     have HX:Hid (n' + n1=csz n1 n2 1∧n' + n1=(cpart l1 l2 1).length∧OwnC w3 w.heap.size A3 c3 (cpart l1 l2 1)∧Below w.heap.size w w3):=Lib.hid ⟨by have:=hn'.out; simp [csz] at *; omega,by have:=hl'.out; have:=hn1.out; simp [cpart] at *; omega,by simpa [cpart] using own3,hbw2.grown hg3 hbw2.size (fun r e => (own2.lt' r e).1)⟩
     clear own2 own3 hg3 hbw2
     go_wp2_with (at_builtin; refine wpList_append_run rfl (.tmp 31) (.tmp 32) 40 rfl _ _ _ w3 rfl rfl hrun ?_)
     go_roundw
     case rel => exact ⟨1,_,A3,c3,n' + n1,rfl,by omega,by first | go_num | simp,by first | rfl | simp,Lib.hid HX.out.1,Lib.hid HX.out.2.1,HX.out.2.2⟩
     case measure => simp [intOf]
    ·simp only [cpart] at own2 hl'
     obtain ⟨A3,c3,w3,hrun,own3,hg3⟩:=inl_app own2 n' hl'.out A2 c2 l2 n2 hn2.out (HB2.out.below hbw2) (by have:=hm.out; omega) hbw2.size
     have HX:Hid (n' + n2=csz n1 n2 2∧n' + n2=(cpart l1 l2 2).length∧OwnC w3 w.heap.size A3 c3 (cpart l1 l2 2)∧Below w.heap.size w w3):=Lib.hid ⟨by have:=hn'.out; simp [csz] at *; omega,by have:=hl'.out; have:=hn2.out; simp [cpart] at *; omega,by simpa [cpart] using own3,hbw2.grown hg3 hbw2.size (fun r e => (own2.lt' r e).1)⟩
     clear own2 own3 hg3 hbw2
     go_wp2_with (at_builtin; refine wpList_append_run rfl (.tmp 31) (.tmp 32) 40 rfl _ _ _ w3 rfl rfl hrun ?_)
     go_roundw
     case rel => exact ⟨2,_,A3,c3,n' + n2,rfl,by omega,by first | go_num | simp,by first | rfl | simp,Lib.hid HX.out.1,Lib.hid HX.out.2.1,HX.out.2.2⟩
     case measure => simp [intOf]
    ·simp only [cpart] at own2 hl'
     obtain rfl:n'=n1 + n2:=hn'.out
     go_wp2
     go_ret
     exact ⟨_,_,rfl,own2,hbw2⟩
def zV (zs:List Int):List Value:=zs.map fun z => .int .i64 z
def OwnZ (w:World) (B:Nat) (A:Option Addr) (c:Nat) (zs:List Int):Prop:=w.ownsRow B 3 1 (.slice A zs.length c) zs.length (zV zs)
theorem Tryz.infoZ:(Tryz.prog.info? 3).map (fun i => (i.zero,i.size,i.bytes))=some (some (.int .i64 0),1,8):=by kernel_rfl
theorem OwnZ.nil (w:World) (B:Nat):OwnZ w B none 0 []:=World.ownsRow_nil w _ _ _
theorem OwnZ.lt' {u:World} {B:Nat} {A:Option Addr} {c:Nat} {l:List Int} (h:OwnZ u B A c l):∀ r,blk A=some r→B≤r∧r < u.heap.size:=fun r e => World.ownsRow.lt h r (by rw [ownBlock_slice]; exact e)
theorem OwnZ.at_ {w:World} {B:Nat} {A:Option Addr} {c:Nat} {l:List Int} (h:OwnZ w B A c l):IntAt w A l:=fun hl => by
 rcases h.2 with ⟨h1,h2⟩ | ⟨g,cap,cur,h1,hb,hg,hn,hm,hc,ht⟩
 ·omega
 ·injection h1 with e1 e2 e3
  refine ⟨g,0,e1,⟨cur,_,hg⟩,fun j hj => ?_⟩
  have hcell:w.cell? ⟨g,0 + j,none⟩=cur[0 + j]?:=cell_of_row w g (0 + j) cur _ (0,0) hg
  rw [hcell,Nat.zero_add]
  have hv:(zV l)[j]?=some (.int .i64 (l[j]'hj)):=by unfold zV; simp [hj]
  rw [← ht,List.getElem?_take] at hv
  split at hv
  ·simpa using hv
  ·cases hv
theorem OwnZ.cap {w:World} {B:Nat} {A:Option Addr} {c:Nat} {l:List Int} (h:OwnZ w B A c l):l.length≤c∧c≤9223372036854775807:=by
 rcases h.2 with ⟨h1,h2⟩ | ⟨g,cap,cur,h1,hb,hg,hn,hm,hc,ht⟩
 ·injection h1 with e1 e2 e3; omega
 ·injection h1 with e1 e2 e3
  unfold maxLen at hm
  omega
theorem z_app {u:World} {B c:Nat} {A:Option Addr} {P:List Int} (h:OwnZ u B A c P) (n:Nat) (hn:n=P.length) (hl:n≤1000000) (b o m c':Nat) (zs:List Int) (hm:m=zs.length) (hml:m≤1000000) (hBu:B≤u.heap.size) (hq:∀ i,(h:i < zs.length)→u.cell? ⟨b,o + i,none⟩=some (.int .i64 (zs[i]'h))) :
  ∃ v' u',(Builtin.append_ #[100,100] 100 #[.slice A n c,.slice (some ⟨b,o,none⟩) m c']).run Tryz.prog u=.ok v' u' ∧
   u'.ownsRow B 3 1 v' (n + m) (zV (P ++ zs))∧u.grownBy u' (blk A)∧(v'=.slice none 0 0 ↔ Value.slice A n c=.slice none 0 0∧m=0):=by
 subst hn hm
 obtain ⟨i0,hi,hz0,hz1,hz2⟩:=info_parts Tryz.infoZ
 obtain ⟨v',w',hrun,hown,hgr,hnil,_⟩:=run_append_own_at (P:=Tryz.prog) u B 100 100 3 i0 _ 1 8 Tryz.underlying100 hi hz0 hz1 hz2 rfl (by omega) (.slice A P.length c) P.length (zV P) h ⟨b,o,none⟩ zs.length c' (zV zs) (by unfold zV; simp)
  (fun j v hv => by
   rw [Addr.add_lit]
   unfold zV at hv
   rw [List.getElem?_map] at hv
   rcases hz:zs[j]? with _ | z
   ·rw [hz] at hv; cases hv
   ·rw [hz] at hv
    cases hv
    obtain ⟨hj,e⟩:=List.getElem?_eq_some_iff.1 hz
    rw [← e]
    exact hq j hj)
  (fun v hv => by unfold zV at hv; obtain ⟨z,_,rfl⟩:=List.mem_map.1 hv; rfl) (by simp only [maxLen]; omega) (by omega) hBu
 rw [ownBlock_slice] at hgr
 exact ⟨v',w',hrun,by unfold zV at hown ⊢; rw [List.map_append]; exact hown,hgr,hnil⟩
end Go.Proofs.YtlliaihmfimdoaaGreat.Re


namespace Go.Proofs.YtlliaihmfimdoaaGreat.Re
open Go.RowKit Go.Maps Go.Deep Go.Proofs.YtlliaihmfimdoaaGreat
set_option maxRecDepth 100000 in
set_option maxHeartbeats 1000000 in
theorem zclone_any (A:Option Addr) (zs:List Int) (n c:Nat) (w:World) (hn:Hid (n=zs.length)) (hm:n≤1000000) (h:IntAt w A zs) :
  Calls Tryz.prog 109 #[.slice A n c] w fun e w' => ∃ A2 c2,e=.returned (.slice A2 n c2)∧OwnZ w' w.heap.size A2 c2 zs∧Below w.heap.size w w':=by
 cases A with
 | none =>
  have hl:zs=[]:=by
   cases zs with
   | nil => rfl
   | cons x t => obtain ⟨b,o,e,_⟩:=h (by simp); cases e
  subst hl
  obtain rfl:n=0:=hn.out
  have hnl:∀ w,(binOp .eql 100 (.slice none 0 c) (.slice none 0 0)).run Tryz.prog w=.ok (.bool true) w:=fun w => by simp [binOp,Go.run_equal_slice_nil w 100 3 none 0 c Tryz.underlying100]
  go_enter Tryz.func109,Tryz.ntmps109
  go_wp2
  go_ret
  exact ⟨none,0,rfl,OwnZ.nil _ _,Below.refl _ _⟩
 | some a =>
  obtain ⟨ab,ao,af⟩:=a
  have haf:0 < zs.length→af=none:=fun hl => by
   obtain ⟨b,o,e,_⟩:=h hl
   cases e; rfl
  have ow:OwnZ (w.alloc (.cells #[] 3)) w.heap.size (some ⟨w.heap.size,0,none⟩) 0 [] :=
   ⟨by simp [zV],.inr ⟨w.heap.size,0,#[],rfl,Nat.le_refl _,heap_alloc_new w _,Nat.zero_le _,by simp [maxLen],by simp,by simp [zV]⟩⟩
  have hbw:=ba w (.cells #[] 3)
  have hnl:∀ w,(binOp .eql 100 (.slice (some ⟨ab,ao,af⟩) n c) (.slice none 0 0)).run Tryz.prog w=.ok (.bool false) w:=fun w => by simp [binOp,Go.run_equal_slice_nil w 100 3 (some ⟨ab,ao,af⟩) n c Tryz.underlying100]
  obtain ⟨w2,hw2⟩:∃ w2,w2=w.alloc (.cells #[] 3):=⟨_,rfl⟩
  rw [← hw2] at ow hbw
  have hat:=h.below hbw
  obtain ⟨A3,c3,w3,hrun,hx,hg⟩:∃ A3 c3 w3,(Builtin.append_ #[100,100] 100 #[.slice (some ⟨w.heap.size,0,none⟩) 0 0,.slice (some ⟨ab,ao,af⟩) n c]).run Tryz.prog w2=.ok (.slice A3 n c3) w3∧OwnZ w3 w.heap.size A3 c3 zs∧w2.grownBy w3 (blk (some (⟨w.heap.size,0,none⟩:Addr))):=by
   rcases Nat.eq_zero_or_pos zs.length with h0 | h0
   ·have hz:zs=[]:=List.eq_nil_of_length_eq_zero h0
    subst hz
    obtain rfl:n=0:=hn.out
    obtain ⟨i0,hi,hz0,hz1,hz2⟩:=info_parts Tryz.infoZ
    refine ⟨some ⟨w.heap.size,0,none⟩,0,w2,?_,ow,⟨rfl,rfl,rfl,Nat.le_refl _,fun _ _ _ => rfl⟩⟩
    exact run_append_nothing w2 100 100 100 3 i0 Tryz.underlying100 hi (some ⟨w.heap.size,0,none⟩) 0 0 (Nat.le_refl _) (.slice (some ⟨ab,ao,af⟩) 0 c) ⟨.inl ⟨_,Tryz.underlying100⟩,fun _ => rfl,run_firstCells_some w2 i0.size 0 ⟨ab,ao,af⟩ 0 c [] (by simp) (by simp),run_firstCells_some w2.drew i0.size 0 ⟨ab,ao,af⟩ 0 c [] (by simp) (by simp),by simp,by simp⟩
   ·obtain rfl:=haf h0
    obtain ⟨b,o,e,_,hc⟩:=hat h0
    cases e
    obtain ⟨v',w3,hrun,hown,hg,hnil⟩:=z_app ow 0 rfl (by omega) ab ao n c zs hn.out hm hbw.size hc
    rw [List.nil_append,Nat.zero_add] at hown
    obtain ⟨g2,c2,rfl⟩:=Joins.ownsRow_form hown (by have:=hn.out; omega)
    have hn':=hn.out
    refine ⟨some ⟨g2,0,none⟩,c2,w3,hrun,?_,hg⟩
    unfold OwnZ
    rw [← hn']
    exact hown
  have HX:Hid (OwnZ w3 w.heap.size A3 c3 zs∧Below w.heap.size w w3):=Lib.hid ⟨hx,hbw.grown hg hbw.size (fun r e => by cases e; exact Nat.le_refl _)⟩
  rw [hw2] at hrun
  clear h haf ow hbw hw2 hat hx hg
  go_enter Tryz.func109,Tryz.ntmps109
  go_wp2_with (at_builtin; refine wpList_append_run rfl (.tmp 5) (.tmp 6) 100 rfl _ _ _ w3 rfl rfl hrun ?_)
  go_ret
  exact ⟨A3,c3,rfl,HX.out⟩
theorem ResAt.pturn {w w':World} {g N N':Nat} {cs:Array Value} {S:RS} {pr':List Int} (h:ResAt w g cs S N) (hg:w.grownBy w' (some g)) {A:Option Addr} {n c:Nat} (hb:Blk w' g 102 (cs.setIfInBounds 37 (.slice A n c))) (hn:n=pr'.length) (hc:n≤c∧c≤9223372036854775807) (hat:IntAt w' A pr') (hs:37 < cs.size) (hN:N≤N'∧pr'.length≤N'):ResO w g { S with pr:=pr' } N' w':=by
 have hne:∀ i,i≠37→(cs.setIfInBounds 37 (.slice A n c))[i]?=cs[i]?:=fun i hi => Array.getElem?_setIfInBounds_ne (fun e => hi e.symm)
 refine ⟨⟨_,(kpart h.kv hg hb (fun i hi => hne i (by omega))).more hN.1,(qpart h.qu hg hb (fun i h1 h2 => hne i (by omega))).more hN.1,⟨A,n,c,?_,hn,hc.1,hc.2,hat⟩,hN.2⟩,hg⟩
 rw [Array.getElem?_setIfInBounds_self_of_lt hs]
def holdR (S:RS) (n:Int) (q:Nat):RS:=if 0 < q then { S with pr:=S.pr ++ [n] } else S
set_option maxRecDepth 100000 in
set_option maxHeartbeats 1000000 in
theorem hold_any (g:Nat) (cs:Array Value) (S:RS) (N:Nat) (n:Int) (A:Option Addr) (q c:Nat) (w:World) (h:ResAt w g cs S N) (hN:N < 300000) :
  Calls Tryz.prog 65 #[.pointer (some ⟨g,0,none⟩),.int .i64 n,.slice A q c] w fun e w' => e=.returned (.tuple #[])∧ResO w g (holdR S n q) (N + 1) w':=by
 by_cases hq:0 < q
 ·have hqI:(0:Int) < (q:Int):=by omega
  unfold holdR
  rw [if_pos hq]
  obtain ⟨PA,pn,pc,h1,h2,h3,h4,h5⟩:=h.pr
  have hsz:37 < cs.size:=by
   rcases Nat.lt_or_ge 37 cs.size with h | h
   ·exact h
   ·rw [Array.getElem?_eq_none h] at h1; cases h1
  have c37:=(h.kv.bk.cell 37).trans h1
  have hpn:pn≤300000:=by have:=h.ln; omega
  have HC:=Lib.hid (zclone_any PA S.pr pn pc w (Lib.hid h2) (by omega) h5)
  have H:=Lib.hid (And.intro h (And.intro h2 hsz))
  clear h h1 h2 h3 h4 h5 hsz hq
  go_enter Tryz.func65,Tryz.ntmps65
  go_wp2_with fail
  refine HC.out.mono ?_
  rintro e w1 ⟨A2,c2,rfl,own,b1⟩
  obtain ⟨h,h2,hsz⟩:=H.out
  have hgl:=h.lt
  have bz:=ba w1 (.cells #[.int .i64 n] 3)
  have own2:OwnZ (w1.alloc (.cells #[.int .i64 n] 3)) w.heap.size A2 c2 S.pr:=World.ownsRow.kept own (lbelow_grown bz none) (by rcases (Value.slice A2 S.pr.length c2).ownBlock with _ | r; exact .inl rfl; exact .inr (fun e => by cases e))
  have hs1:=b1.size
  have hs2:=bz.size
  obtain ⟨v',w3,hrun,hown,hg3,_⟩:=z_app own2 pn h2 (by omega) w1.heap.size 0 1 1 [n] rfl (by omega) (by omega) (fun i hi => by
   obtain rfl:i=0:=by simpa using hi
   exact (Blk.new w1 3 #[.int .i64 n]).cell 0)
  obtain ⟨g3,c3,rfl⟩:=Joins.ownsRow_form hown (by omega)
  have hown3:OwnZ w3 w.heap.size (some ⟨g3,0,none⟩) c3 (S.pr ++ [n]):=by
   unfold OwnZ
   rw [List.length_append,← h2]
   exact hown
  have bel3:Below w.heap.size w w3:=(bt b1 bz).grown hg3 (by omega) (fun r e => (own2.lt' r e).1)
  have h3:=h.below bel3
  have e37:w3.cell? ⟨g,37,none⟩=some (.slice PA pn pc):=(bel3.cell (p:=⟨g,37,none⟩) hgl).trans c37
  have f37:=h3.kv.bk.frozen 37
  have hgs:=lgrown_set w3 ⟨g,37,none⟩ (.slice (some ⟨g3,0,none⟩) (pn + 1) c3)
  have hcap:=hown3.cap
  have hln:(S.pr ++ [n]).length=pn + 1:=by rw [List.length_append,← h2]; rfl
  have hO:=h3.pturn (pr':=S.pr ++ [n]) (N':=N + 1) hgs (A:=some ⟨g3,0,none⟩) (n:=pn + 1) (c:=c3) (h3.kv.bk.set_ 37 _) hln.symm ⟨by rw [← hln]; exact hcap.1,hcap.2⟩ (hown3.at_.kept hgs h3.kv.bk (by decide)) hsz ⟨by omega,by rw [hln]; have:=h.ln; omega⟩
  have HX:Hid (ResO w g { S with pr:=S.pr ++ [n] } (N + 1) (w3.setCell ⟨g,37,none⟩ (.slice (some ⟨g3,0,none⟩) (pn + 1) c3))):=Lib.hid (ResO.from (lbelow_grown bel3 _) hO)
  clear h h2 hsz own own2 bz hown hown3 hg3 bel3 h3 hgs hcap hln hO b1 hs1 hs2
  go_wp2_with (at_builtin; refine wpList_append_run rfl (.tmp 14) (.tmp 16) 100 rfl _ _ _ w3 rfl rfl hrun ?_)
  go_end0
  exact ⟨rfl,HX.out⟩
 ·have hqI:¬ (0:Int) < (q:Int):=by omega
  unfold holdR
  rw [if_neg hq]
  have HX:=Lib.hid (ResO.same (h.more (Nat.le_succ _)) (Below.refl _ _))
  clear h hq
  go_enter Tryz.func65,Tryz.ntmps65
  go_wp2
  go_end0
  exact ⟨rfl,HX.out⟩
def putR (S:RS) (n y:Int) (v:Nat):Int × RS:=if openR S n≠0 then (openR S n,S) else ((changeM S.K n ⟨1,y,v⟩).1,{ S with K:=(changeM S.K n ⟨1,y,v⟩).2 })
set_option maxRecDepth 100000 in
set_option maxHeartbeats 1000000 in
theorem resput_any (g:Nat) (cs:Array Value) (S:RS) (N:Nat) (n y:Int) (v:Nat) (w:World) (h:ResAt w g cs S N) (hN:N < 300000) (hn:i64ok n) (hy:i64ok y) (hB:∀ b,w.heap.size≤b→S.K.B b) :
  Calls Tryz.prog 29 #[.pointer (some ⟨g,0,none⟩),.int .i64 n,.int .i64 y,.int .u64 (v:Nat)] w fun e w' => e=.returned (.int .i64 (putR S n y v).1)∧ResO w g (putR S n y v).2 (N + 1) w':=by
 have HO:=Lib.hid (resopen_any g cs S N n w h (by omega))
 have HP:=Lib.hid (kput_any g 102 cs S.K N n y v w h.kv hN hn hy hB)
 have H:=Lib.hid h
 obtain ⟨er,her⟩:∃ er,er=openR S n:=⟨_,rfl⟩
 rw [← her] at HO
 by_cases h0:er=0
 ·have hM:putR S n y v=((changeM S.K n ⟨1,y,v⟩).1,{ S with K:=(changeM S.K n ⟨1,y,v⟩).2 }):=by unfold putR; rw [if_neg (by rw [← her,h0]; simp)]
  rw [hM]
  subst h0
  obtain ⟨⟨re,rK⟩,hR⟩:∃ R,R=changeM S.K n ⟨1,y,v⟩:=⟨_,rfl⟩
  rw [← hR] at HP ⊢
  dsimp only at HP ⊢
  clear h hB hM hR her hn hy
  go_enter Tryz.func29,Tryz.ntmps29
  go_wp2_with fail
  refine HO.out.mono ?_
  rintro e w1 ⟨rfl,rfl⟩
  go_wp2_with fail
  refine HP.out.mono ?_
  rintro e w1 ⟨rfl,hk⟩
  have HX:=Lib.hid (H.out.kturn hk (Nat.le_succ _))
  clear hk
  go_wp2
  go_ret
  exact ⟨rfl,HX.out⟩
 ·have hM:putR S n y v=(er,S):=by unfold putR; rw [if_pos (by rw [← her]; exact h0),her]
  rw [hM]
  have hb:(er != 0)=true:=by simpa using h0
  have HX:=Lib.hid (ResO.same (h.more (Nat.le_succ _)) (Below.refl _ _))
  clear h hB hM her hn hy h0
  go_enter Tryz.func29,Tryz.ntmps29
  go_wp2_with fail
  refine HO.out.mono ?_
  rintro e w1 ⟨rfl,rfl⟩
  go_wp2
  go_ret
  exact ⟨rfl,HX.out⟩
def pushR (S:RS) (n:Int) (v:Nat):Int × RS:=if openR S n≠0 then (openR S n,S) else ((Qu.putM S.Q n v).1,{ S with Q:=(Qu.putM S.Q n v).2 })
set_option maxRecDepth 100000 in
set_option maxHeartbeats 1000000 in
theorem respush_any (g:Nat) (cs:Array Value) (S:RS) (N:Nat) (n:Int) (v:Nat) (w:World) (h:ResAt w g cs S N) (hN:N < 300000) (hn:i64ok n) (hB:∀ b,w.heap.size≤b→S.Q.B b) :
  Calls Tryz.prog 30 #[.pointer (some ⟨g,0,none⟩),.int .i64 n,.int .u64 (v:Nat)] w fun e w' => e=.returned (.int .i64 (pushR S n v).1)∧ResO w g (pushR S n v).2 (N + 1) w':=by
 have HO:=Lib.hid (resopen_any g cs S N n w h (by omega))
 have HP:=Lib.hid (Qu.put_any g 34 102 cs S.Q N n v w h.qu hN hn hB)
 have H:=Lib.hid h
 obtain ⟨er,her⟩:∃ er,er=openR S n:=⟨_,rfl⟩
 rw [← her] at HO
 by_cases h0:er=0
 ·have hM:pushR S n v=((Qu.putM S.Q n v).1,{ S with Q:=(Qu.putM S.Q n v).2 }):=by unfold pushR; rw [if_neg (by rw [← her,h0]; simp)]
  rw [hM]
  subst h0
  obtain ⟨⟨re,rQ⟩,hR⟩:∃ R,R=Qu.putM S.Q n v:=⟨_,rfl⟩
  rw [← hR] at HP ⊢
  dsimp only at HP ⊢
  clear h hB hM hR her hn
  go_enter Tryz.func30,Tryz.ntmps30
  go_wp2_with fail
  refine HO.out.mono ?_
  rintro e w1 ⟨rfl,rfl⟩
  go_wp2_with fail
  refine HP.out.mono ?_
  rintro e w1 ⟨rfl,hk⟩
  have HX:=Lib.hid (H.out.qturn hk (Nat.le_succ _))
  clear hk
  go_wp2
  go_ret
  exact ⟨rfl,HX.out⟩
 ·have hM:pushR S n v=(er,S):=by unfold pushR; rw [if_pos (by rw [← her]; exact h0),her]
  rw [hM]
  have hb:(er != 0)=true:=by simpa using h0
  have HX:=Lib.hid (ResO.same (h.more (Nat.le_succ _)) (Below.refl _ _))
  clear h hB hM her hn h0
  go_enter Tryz.func30,Tryz.ntmps30
  go_wp2_with fail
  refine HO.out.mono ?_
  rintro e w1 ⟨rfl,rfl⟩
  go_wp2
  go_ret
  exact ⟨rfl,HX.out⟩
end Go.Proofs.YtlliaihmfimdoaaGreat.Re


namespace Go.Proofs.YtlliaihmfimdoaaGreat.Re
open Go.RowKit Go.Maps Go.Deep Go.Proofs.YtlliaihmfimdoaaGreat
def prepR (S:RS) (n:Int):(List Ch × Int) × RS :=
 if openR S n≠0 then (([],openR S n),S)
 else (((prepM S.K n).1.1 ++ (Qu.prepM S.Q n).1.1,0),holdR ⟨(prepM S.K n).2,(Qu.prepM S.Q n).2,S.pr⟩ n ((prepM S.K n).1.1 ++ (Qu.prepM S.Q n).1.1).length)
theorem inl_kept {w w':World} {g:Nat} {A:Option Addr} {B c:Nat} {l:List Ch} (h:OwnC w B A c l) (hg:w.grownBy w' (some g)) (hB:g < B):InL w' A l:=(h.kept hg (fun r e => by cases e; exact hB)).at_.inl
set_option maxRecDepth 100000 in
set_option maxHeartbeats 2000000 in
theorem resprep_any (g:Nat) (cs:Array Value) (S:RS) (N:Nat) (n:Int) (w:World) (h:ResAt w g cs S N) (hN:N < 200000) (hn:i64ok n) (hl:(prepM S.K n).1.1.length≤400000∧(Qu.prepM S.Q n).1.1.length≤400000) :
  Calls Tryz.prog 26 #[.pointer (some ⟨g,0,none⟩),.int .i64 n] w fun e w' => (∃ A q c,e=.returned (.tuple #[.slice A q c,.int .i64 (prepR S n).1.2])∧q=(prepR S n).1.1.length∧OwnC w' w.heap.size A c (prepR S n).1.1)∧ResO w g (prepR S n).2 (N + 3) w':=by
 have HO:=Lib.hid (resopen_any g cs S N n w h (by omega))
 obtain ⟨er,her⟩:∃ er,er=openR S n:=⟨_,rfl⟩
 rw [← her] at HO
 by_cases h0:er=0
 ·have hM:prepR S n=(((prepM S.K n).1.1 ++ (Qu.prepM S.Q n).1.1,0),holdR ⟨(prepM S.K n).2,(Qu.prepM S.Q n).2,S.pr⟩ n ((prepM S.K n).1.1 ++ (Qu.prepM S.Q n).1.1).length):=by unfold prepR; rw [if_neg (by rw [← her,h0]; simp)]
  rw [hM]
  subst h0
  have HP:=Lib.hid (prep_any g 102 cs S.K N n w h.kv (by omega) hn)
  have HQ:=Lib.hid (fun cs1 (w1:World) (S1:RS) (h1:ResAt w1 g cs1 S1 (N + 1)) => Qu.prep_any g 34 102 cs1 S1.Q (N + 1) n w1 h1.qu (by omega) hn)
  obtain ⟨⟨⟨l1,e1⟩,rK⟩,hR1⟩:∃ R,R=prepM S.K n:=⟨_,rfl⟩
  obtain ⟨⟨⟨l2,e2⟩,rQ⟩,hR2⟩:∃ R,R=Qu.prepM S.Q n:=⟨_,rfl⟩
  rw [← hR1] at HP hl ⊢
  rw [← hR2] at hl ⊢
  dsimp only at HP hl ⊢
  have H:=Lib.hid h
  have HR2:=Lib.hid hR2
  have HL:=Lib.hid hl
  have hgl:=h.lt
  have Hgl:=Lib.hid hgl
  have Hn:=Lib.hid hn
  clear h hM hR1 hR2 her hl hn hgl
  go_enter Tryz.func26,Tryz.ntmps26
  go_wp2_with fail
  refine HO.out.mono ?_
  rintro e w1 ⟨rfl,rfl⟩
  go_wp2_with fail
  refine HP.out.mono ?_
  rintro e w1 ⟨⟨A1,q1,c1,rfl,hq1,own1⟩,hk⟩
  obtain ⟨⟨cs1,h1⟩,hg1⟩:=H.out.kturn hk (Nat.le_succ _)
  have HQ1:=Lib.hid (HQ.out cs1 w1 _ h1)
  have H1:=Lib.hid (And.intro h1 (And.intro hg1 (And.intro own1 hq1)))
  clear hk h1 hg1 own1 hq1
  dsimp only at HQ1
  rw [← HR2.out] at HQ1
  dsimp only at HQ1
  go_wp2_with fail
  refine HQ1.out.mono ?_
  rintro e w2 ⟨⟨A2,q2,c2,rfl,hq2,own2⟩,hk⟩
  obtain ⟨h1,hg1,own1,hq1⟩:=H1.out
  obtain ⟨⟨cs2,h2⟩,hg2⟩:=h1.qturn hk (Nat.le_succ _)
  dsimp only at h2
  have i1:=inl_kept own1 hg2 Hgl.out
  have i2:=own2.at_.inl
  obtain ⟨w3,hw3⟩:∃ w3,w3=w2.alloc (.cells #[.slice A1 q1 c1,.slice A2 q2 c2] 40):=⟨_,rfl⟩
  have b3:Below w2.heap.size w2 w3:=by rw [hw3]; exact ba _ _
  have k3:Blk w3 w2.heap.size 40 #[.slice A1 q1 c1,.slice A2 q2 c2]:=by rw [hw3]; exact Blk.new _ _ _
  have HC:=Lib.hid (concat2 w2.heap.size A1 A2 l1 l2 q1 q2 c1 c2 (Lib.hid hq1) (Lib.hid hq2) w3 k3.lt (k3.cell 0) (k3.cell 1) (i1.below b3) (i2.below b3) (Lib.hid (by have:=HL.out; omega)))
  have HW3:=Lib.hid hw3
  have H3:=Lib.hid (And.intro (h2.below b3) (And.intro ((hg1.trans hg2).trans (lbelow_grown b3 (some g))) (And.intro hq1 hq2)))
  clear hk h1 hg1 own1 hq1 hq2 own2 h2 hg2 i1 i2 hw3 b3 k3
  go_wp2_with fail
  rw [← HW3.out]
  refine HC.out.mono ?_
  rintro e w4 ⟨A,c,rfl,own4,b4⟩
  obtain ⟨h3,hg3,hq1,hq2⟩:=H3.out
  have h4:=h3.below b4
  have hg4:=hg3.trans (lbelow_grown b4 (some g))
  have HH:=Lib.hid (hold_any g cs2 ⟨rK,rQ,S.pr⟩ (N + 2) n A (q1 + q2) c w4 h4 (by omega))
  have H4:=Lib.hid (And.intro hg4 (And.intro own4 (And.intro hg3 (show q1 + q2=(l1 ++ l2).length by rw [List.length_append,← hq1,← hq2]))))
  clear h3 hg3 hq1 hq2 h4 hg4 own4 b4
  go_wp2_with fail
  refine HH.out.mono ?_
  rintro e w5 ⟨rfl,hO⟩
  obtain ⟨hg4,own4,hg3,hqq⟩:=H4.out
  have hs3:=hg3.size
  have hgl:=Hgl.out
  have HX:Hid ((q1 + q2=(l1 ++ l2).length∧OwnC w5 w.heap.size A c (l1 ++ l2))∧ResO w g (holdR ⟨rK,rQ,S.pr⟩ n (l1 ++ l2).length) (N + 3) w5):=Lib.hid ⟨⟨hqq,(own4.kept hO.2 (fun r e => by cases e; omega)).less hs3⟩,by rw [← hqq]; exact ResO.from hg4 hO⟩
  clear hO hg4 own4 hg3 hqq hs3 hgl
  go_wp2
  go_ret2
  exact ⟨⟨A,q1 + q2,c,rfl,HX.out.1⟩,HX.out.2⟩
 ·have hM:prepR S n=(([],er),S):=by unfold prepR; rw [if_pos (by rw [← her]; exact h0),her]
  rw [hM]
  have hb:(er != 0)=true:=by simpa using h0
  have HX:=Lib.hid (ResO.same (h.more (by omega:N≤N + 3)) (Below.refl _ _))
  clear h hM her hn hl h0
  go_enter Tryz.func26,Tryz.ntmps26
  go_wp2_with fail
  refine HO.out.mono ?_
  rintro e w1 ⟨rfl,rfl⟩
  go_wp2
  go_ret2
  exact ⟨⟨none,0,0,rfl,rfl,OwnC.nil _ _⟩,HX.out⟩
set_option maxRecDepth 100000 in
theorem read_one (A:Option Addr) (c:Nat) (w:World):Calls Tryz.prog 23 #[.slice A 1 c] w fun e w' => e=.returned (.tuple #[.slice none 0 0,.int .i64 11])∧Below w.heap.size w w':=by
 have b1:=ba w (.cells #[.slice none 0 0] 40)
 have k1:=Blk.new w 40 #[.slice none 0 0]
 have b2:=ba (w.alloc (.cells #[.slice none 0 0] 40)) (.cells #[.int .i64 11] 45)
 have k2:=Blk.new (w.alloc (.cells #[.slice none 0 0] 40)) 45 #[.int .i64 11]
 have r2:=(k1.below b2 k1.lt).cell 0
 have r3:=k2.cell 0
 simp only [List.getElem?_toArray,List.getElem?_cons_zero,World.size_alloc] at r2 r3
 have HB:=Lib.hid (bt b1 b2)
 clear b1 k1 b2 k2
 go_enter Tryz.func23,Tryz.ntmps23
 go_wp2
 refine bodyPost_ret (by simp [results,Tryz.results23,go_sem,r2,r3]; try rfl) rfl ?_
 exact ⟨rfl,HB.out⟩
theorem aliveR:∃ S1 S2 S3 S4,putR (RS.zero anyB) 1 3 9=(0,S1)∧pushR S1 1 7=(0,S2)∧prepR S2 1=(([⟨1,3,9⟩,⟨3,0,7⟩],0),S3)∧pushR S3 1 8=(7,S4)∧((prepM S2.K 1).1.1.length≤400000∧(Qu.prepM S2.Q 1).1.1.length≤400000)∧S1.Q.B=anyB∧S3.Q.B=anyB :=
 ⟨_,_,_,_,rfl,rfl,rfl,rfl,⟨by decide,by decide⟩,rfl,rfl⟩
theorem eqC (k y:Int) (v:Nat) (w:World):(binOp .eql 74 (.agg #[.int .i64 k,.int .i64 y,.int .u64 (v:Nat)]) (.agg #[.int .i64 k,.int .i64 y,.int .u64 (v:Nat)])).run Tryz.prog w=.ok (.bool true) w:=by
 rw [run_eql_struct,run_equalIn_struct w 9999 74 _ _ (by kernel_rfl) (by kernel_rfl)]
 simp [Op.eqFields,Program.fieldsOf,Tryz.underlying74,go_sem]
set_option maxRecDepth 100000 in
set_option maxHeartbeats 1000000 in
theorem alive_any (w:World):Calls Tryz.prog 10 #[] w fun e w' => e=.returned (.bool true)∧Below w.heap.size w w':=by
 obtain ⟨S1,S2,S3,S4,e1,e2,e3,e4,e5,e6,e7⟩:=aliveR
 have E:=Lib.hid (And.intro e1 (And.intro e2 (And.intro e3 (And.intro e4 (And.intro e5 (And.intro e6 e7))))))
 clear e1 e2 e3 e4 e5 e6 e7
 obtain ⟨g,hg⟩:∃ g,g=w.heap.size:=⟨_,rfl⟩
 have HG:=Lib.hid hg
 have q1:=fun w => eqC 1 3 9 w
 have q2:=fun w => eqC 3 0 7 w
 go_enter Tryz.func10,Tryz.ntmps10
 go_wp2_with fail
 refine (newres_any anyB w).mono ?_
 rintro e w1 ⟨rfl,⟨cs0,h0⟩,b0⟩
 rw [← hg] at h0 ⊢
 have HP:=resput_any g cs0 (RS.zero anyB) 0 1 3 9 w1 h0 (by omega) (small_ok 1 (by omega) (by omega)) (small_ok 3 (by omega) (by omega)) (fun b _ => trivial)
 rw [E.out.1] at HP
 have HP:=Lib.hid HP
 have H0:=Lib.hid (And.intro h0 b0)
 clear h0 b0 hg
 go_wp2_with fail
 refine HP.out.mono ?_
 rintro e w2 ⟨rfl,⟨cs1,h1⟩,g1⟩
 have HP2:=respush_any g cs1 S1 (0 + 1) 1 7 w2 h1 (by omega) (small_ok 1 (by omega) (by omega)) (fun b _ => by rw [E.out.2.2.2.2.2.1]; trivial)
 rw [E.out.2.1] at HP2
 have HP2:=Lib.hid HP2
 have H1:=Lib.hid g1
 clear h1 g1 HP
 go_wp2_with fail
 refine HP2.out.mono ?_
 rintro e w3 ⟨rfl,⟨cs2,h2⟩,g2⟩
 have HP3:=resprep_any g cs2 S2 (0 + 1 + 1) 1 w3 h2 (by omega) (small_ok 1 (by omega) (by omega)) E.out.2.2.2.2.1
 rw [E.out.2.2.1] at HP3
 have HP3:=Lib.hid HP3
 have H2:=Lib.hid (And.intro g2 h2.lt)
 clear h2 g2 HP2
 go_wp2_with fail
 refine HP3.out.mono ?_
 rintro e w4 ⟨⟨A,q,c,rfl,hq,own⟩,⟨cs3,h3⟩,g3⟩
 obtain rfl:q=2:=hq
 have HP4:=respush_any g cs3 S3 (0 + 1 + 1 + 3) 1 8 w4 h3 (by omega) (small_ok 1 (by omega) (by omega)) (fun b _ => by rw [E.out.2.2.2.2.2.2]; trivial)
 rw [E.out.2.2.2.1] at HP4
 have HP4:=Lib.hid HP4
 have H3:=Lib.hid (And.intro g3 own)
 clear h3 g3 own HP3
 go_wp2_with fail
 refine HP4.out.mono ?_
 rintro e w5 ⟨rfl,⟨cs4,h4⟩,g4⟩
 have own5:=H3.out.2.kept g4 (fun r e => by cases e; exact H2.out.2)
 have hbel:Below w.heap.size w w5:=by
  have hgs:w.heap.size≤g:=by have:=HG.out; omega
  have:=(((H1.out.trans H2.out.1).trans H3.out.1).trans g4)
  exact H0.out.2.grown this H0.out.2.size (fun r e => by cases e; exact hgs)
 have HBe:=Lib.hid hbel
 have HOw:=Lib.hid own5
 clear h4 g4 own5 hbel HP4
 go_wp2_with fail
 refine (read_one _ _ _).mono ?_
 rintro e w7 ⟨rfl,b7⟩
 have b57:=bt (ba w5 (.cells #[.int .u8 1] 5)) b7
 have own7:OwnC w7 w3.heap.size A c [⟨1,3,9⟩,⟨3,0,7⟩]:=HOw.out.kept (lbelow_grown b57 none) (fun r e => by cases e)
 obtain ⟨b,o,rfl,_,hc⟩:=own7.at_.inl (by decide)
 obtain ⟨x0,x1,x2⟩:=hc 0 (by decide)
 obtain ⟨y0,y1,y2⟩:=hc 1 (by decide)
 simp only [List.getElem_cons_zero,List.getElem_cons_succ,Nat.zero_mul,Nat.one_mul,Nat.add_zero] at x0 x1 x2 y0 y1 y2
 have HF:=Lib.hid (bt HBe.out b57)
 clear own7 hc b57 b7
 go_wp2
 go_ret
 exact ⟨rfl,HF.out⟩
end Go.Proofs.YtlliaihmfimdoaaGreat.Re


namespace Go.Proofs.YtlliaihmfimdoaaGreat.Re
open Go.RowKit Go.Maps Go.Deep Go.Proofs.YtlliaihmfimdoaaGreat
def delR (S:RS) (n y:Int):Int × RS:=if openR S n≠0 then (openR S n,S) else ((changeM S.K n ⟨2,y,0⟩).1,{ S with K:=(changeM S.K n ⟨2,y,0⟩).2 })
set_option maxRecDepth 100000 in
set_option maxHeartbeats 1000000 in
theorem resdel_any (g:Nat) (cs:Array Value) (S:RS) (N:Nat) (n y:Int) (w:World) (h:ResAt w g cs S N) (hN:N < 300000) (hn:i64ok n) (hy:i64ok y) (hB:∀ b,w.heap.size≤b→S.K.B b) :
  Calls Tryz.prog 33 #[.pointer (some ⟨g,0,none⟩),.int .i64 n,.int .i64 y] w fun e w' => e=.returned (.int .i64 (delR S n y).1)∧ResO w g (delR S n y).2 (N + 1) w':=by
 have HO:=Lib.hid (resopen_any g cs S N n w h (by omega))
 have HP:=Lib.hid (kdel_any g 102 cs S.K N n y w h.kv hN hn hy hB)
 have H:=Lib.hid h
 obtain ⟨er,her⟩:∃ er,er=openR S n:=⟨_,rfl⟩
 rw [← her] at HO
 by_cases h0:er=0
 ·have hM:delR S n y=((changeM S.K n ⟨2,y,0⟩).1,{ S with K:=(changeM S.K n ⟨2,y,0⟩).2 }):=by unfold delR; rw [if_neg (by rw [← her,h0]; simp)]
  rw [hM]
  subst h0
  obtain ⟨⟨re,rK⟩,hR⟩:∃ R,R=changeM S.K n ⟨2,y,0⟩:=⟨_,rfl⟩
  rw [← hR] at HP ⊢
  dsimp only at HP ⊢
  clear h hB hM hR her hn hy
  go_enter Tryz.func33,Tryz.ntmps33
  go_wp2_with fail
  refine HO.out.mono ?_
  rintro e w1 ⟨rfl,rfl⟩
  go_wp2_with fail
  refine HP.out.mono ?_
  rintro e w1 ⟨rfl,hk⟩
  have HX:=Lib.hid (H.out.kturn hk (Nat.le_succ _))
  clear hk
  go_wp2
  go_ret
  exact ⟨rfl,HX.out⟩
 ·have hM:delR S n y=(er,S):=by unfold delR; rw [if_pos (by rw [← her]; exact h0),her]
  rw [hM]
  have hb:(er != 0)=true:=by simpa using h0
  have HX:=Lib.hid (ResO.same (h.more (Nat.le_succ _)) (Below.refl _ _))
  clear h hB hM her hn hy h0
  go_enter Tryz.func33,Tryz.ntmps33
  go_wp2_with fail
  refine HO.out.mono ?_
  rintro e w1 ⟨rfl,rfl⟩
  go_wp2
  go_ret
  exact ⟨rfl,HX.out⟩
def getR (S:RS) (n y:Int):(Nat × Bool × Int) × RS:=if openR S n≠0 then ((0,false,openR S n),S) else ((getM S.K n y).1,{ S with K:=(getM S.K n y).2 })
set_option maxRecDepth 100000 in
set_option maxHeartbeats 1000000 in
theorem resget_any (g:Nat) (cs:Array Value) (S:RS) (N:Nat) (n y:Int) (w:World) (h:ResAt w g cs S N) (hN:N < 300000) (hn:i64ok n) (hy:i64ok y) :
  Calls Tryz.prog 32 #[.pointer (some ⟨g,0,none⟩),.int .i64 n,.int .i64 y] w fun e w' => e=.returned (.tuple #[.int .u64 ((getR S n y).1.1:Nat),.bool (getR S n y).1.2.1,.int .i64 (getR S n y).1.2.2])∧ResO w g (getR S n y).2 (N + 1) w':=by
 have HO:=Lib.hid (resopen_any g cs S N n w h (by omega))
 have HP:=Lib.hid (get_any g 102 cs S.K N n y w h.kv hN hn hy)
 have H:=Lib.hid h
 obtain ⟨er,her⟩:∃ er,er=openR S n:=⟨_,rfl⟩
 rw [← her] at HO
 by_cases h0:er=0
 ·have hM:getR S n y=((getM S.K n y).1,{ S with K:=(getM S.K n y).2 }):=by unfold getR; rw [if_neg (by rw [← her,h0]; simp)]
  rw [hM]
  subst h0
  obtain ⟨⟨⟨rv,rt,re⟩,rK⟩,hR⟩:∃ R,R=getM S.K n y:=⟨_,rfl⟩
  rw [← hR] at HP ⊢
  dsimp only at HP ⊢
  clear h hM hR her hn hy
  go_enter Tryz.func32,Tryz.ntmps32
  go_wp2_with fail
  refine HO.out.mono ?_
  rintro e w1 ⟨rfl,rfl⟩
  go_wp2_with fail
  refine HP.out.mono ?_
  rintro e w1 ⟨rfl,hk⟩
  obtain ⟨⟨cs2,hk2⟩,hg2⟩:=H.out.kturn hk (Nat.le_refl _)
  have HX:Hid (ResO w g { S with K:=rK } (N + 1) w1):=Lib.hid ⟨⟨cs2,hk2.more (Nat.le_succ _)⟩,hg2⟩
  clear hk hk2 hg2
  go_wp2
  go_returns
  exact ⟨rfl,HX.out⟩
 ·have hM:getR S n y=((0,false,er),S):=by unfold getR; rw [if_pos (by rw [← her]; exact h0),her]
  rw [hM]
  have hb:(er != 0)=true:=by simpa using h0
  have HX:=Lib.hid (ResO.same (h.more (Nat.le_succ _)) (Below.refl _ _))
  clear h hM her hn hy h0
  go_enter Tryz.func32,Tryz.ntmps32
  go_wp2_with fail
  refine HO.out.mono ?_
  rintro e w1 ⟨rfl,rfl⟩
  go_wp2
  go_returns
  exact ⟨rfl,HX.out⟩
def popR (S:RS) (n:Int):(Nat × Int) × RS:=if openR S n≠0 then ((0,openR S n),S) else ((Qu.takeM S.Q n).1,{ S with Q:=(Qu.takeM S.Q n).2 })
set_option maxRecDepth 100000 in
set_option maxHeartbeats 1000000 in
theorem respop_any (g:Nat) (cs:Array Value) (S:RS) (N:Nat) (n:Int) (w:World) (h:ResAt w g cs S N) (hN:N < 300000) (hn:i64ok n) (hB:∀ b,w.heap.size≤b→S.Q.B b) :
  Calls Tryz.prog 34 #[.pointer (some ⟨g,0,none⟩),.int .i64 n] w fun e w' => e=.returned (.tuple #[.int .u64 ((popR S n).1.1:Nat),.int .i64 (popR S n).1.2])∧ResO w g (popR S n).2 (N + 1) w':=by
 have HO:=Lib.hid (resopen_any g cs S N n w h (by omega))
 have HP:=Lib.hid (Qu.take_any g 34 102 cs S.Q N n w h.qu hN hn hB)
 have H:=Lib.hid h
 obtain ⟨er,her⟩:∃ er,er=openR S n:=⟨_,rfl⟩
 rw [← her] at HO
 by_cases h0:er=0
 ·have hM:popR S n=((Qu.takeM S.Q n).1,{ S with Q:=(Qu.takeM S.Q n).2 }):=by unfold popR; rw [if_neg (by rw [← her,h0]; simp)]
  rw [hM]
  subst h0
  obtain ⟨⟨⟨rv,re⟩,rQ⟩,hR⟩:∃ R,R=Qu.takeM S.Q n:=⟨_,rfl⟩
  rw [← hR] at HP ⊢
  dsimp only at HP ⊢
  clear h hB hM hR her hn
  go_enter Tryz.func34,Tryz.ntmps34
  go_wp2_with fail
  refine HO.out.mono ?_
  rintro e w1 ⟨rfl,rfl⟩
  go_wp2_with fail
  refine HP.out.mono ?_
  rintro e w1 ⟨rfl,hk⟩
  have HX:=Lib.hid (H.out.qturn hk (Nat.le_succ _))
  clear hk
  go_wp2
  go_returns
  exact ⟨rfl,HX.out⟩
 ·have hM:popR S n=((0,er),S):=by unfold popR; rw [if_pos (by rw [← her]; exact h0),her]
  rw [hM]
  have hb:(er != 0)=true:=by simpa using h0
  have HX:=Lib.hid (ResO.same (h.more (Nat.le_succ _)) (Below.refl _ _))
  clear h hB hM her hn h0
  go_enter Tryz.func34,Tryz.ntmps34
  go_wp2_with fail
  refine HO.out.mono ?_
  rintro e w1 ⟨rfl,rfl⟩
  go_wp2
  go_returns
  exact ⟨rfl,HX.out⟩
end Go.Proofs.YtlliaihmfimdoaaGreat.Re


namespace Go.Proofs.YtlliaihmfimdoaaGreat.Re
open Go.RowKit Go.Maps Go.Deep Go.Proofs.YtlliaihmfimdoaaGreat
theorem drop1_any (z x:Int) (p:Nat) (w:World) (hp:w.cell? ⟨p,0,none⟩=some (.int .i64 x)):Calls Tryz.prog 114 #[.int .i64 z,.pointer (some ⟨p,0,none⟩)] w fun e w' => e=.returned (.bool (z == x))∧w=w':=by
 go_enter Tryz.func114,Tryz.ntmps114
 go_wp2
 go_ret
 exact ⟨rfl,rfl⟩
def posZ (zs:List Int) (x:Int):Nat:=zs.findIdx fun z => decide (z=x)
def posJ (zs:List Int) (x:Int):Int:=if posZ zs x < zs.length then (posZ zs x:Nat) else -1
set_option maxRecDepth 100000 in
set_option maxHeartbeats 1000000 in
theorem zindexf_any (A:Option Addr) (zs:List Int) (n c p:Nat) (x:Int) (hn:Hid (n=zs.length)) (hm:n≤1000000) (w:World) (h:IntAt w A zs) (hp:w.cell? ⟨p,0,none⟩=some (.int .i64 x)) :
  Calls Tryz.prog 146 #[.slice A n c,.func (.func 114) #[] #[.pointer (some ⟨p,0,none⟩)]] w fun e w' => e=.returned (.int .i64 (posJ zs x))∧w=w':=by
 have H:=Lib.hid h
 have HP:=Lib.hid (fun z => drop1_any z x p w hp)
 clear h hp
 go_enter Tryz.func146,Tryz.ntmps146
 go_wp2_with fail
 go_loopw [8] (fun i wr => ∃ (j:Nat),j≤n∧i=.int .i64 j∧Hid (∀ q,q < j→∀ hq:q < zs.length,zs[q]'hq≠x)∧w=wr) (fun i _ => n - (intOf i).toNat)
 case atStart => exact ⟨0,Nat.zero_le _,rfl,Lib.hid (fun q hq => by omega),rfl⟩
 case round =>
  obtain ⟨j,hj,rfl,hno,rfl⟩:=hrel
  by_cases hjn:j < n
  ·have hjI:(j:Int) < (n:Int):=by omega
   have hjl:j < zs.length:=by rw [← hn.out]; exact hjn
   obtain ⟨b,o,rfl,_,hcs⟩:=H.out (by omega)
   have q0:=hcs j hjl
   obtain ⟨z,hz⟩:∃ z,z=zs[j]'hjl:=⟨_,rfl⟩
   rw [← hz] at q0
   have HX:=Lib.hid (show ∃ hjl:j < zs.length,z=zs[j]'hjl from ⟨hjl,hz⟩)
   have HC:=Lib.hid (HP.out z)
   clear hcs hz hjl
   rcases hxy:(z == x) with _ | _
   ·rw [hxy] at HC
    have hno2:Hid (∀ q,q < j + 1→∀ hq:q < zs.length,zs[q]'hq≠x):=Lib.hid fun q hq hql => by
     by_cases e:q=j
     ·subst e
      obtain ⟨_,hz⟩:=HX.out
      rw [← hz]; simpa using hxy
     ·exact hno.out q (by omega) hql
    go_wp2_with fail
    refine HC.out.mono ?_
    rintro e w2 ⟨rfl,rfl⟩
    go_wp2
    go_roundw
    case rel => exact ⟨j + 1,by omega,by go_num,hno2,by first | rfl | trivial⟩
    case measure => simp [intOf]; omega
   ·rw [hxy] at HC
    have hpos:Hid (posJ zs x=(j:Int)):=Lib.hid (by
     obtain ⟨hjl,hz⟩:=HX.out
     have e:posZ zs x=j:=by
      unfold posZ
      rw [List.findIdx_eq hjl]
      refine ⟨by rw [← hz]; simpa using hxy,fun q hq => by simpa using hno.out q hq (by omega)⟩
     unfold posJ
     rw [e,if_pos hjl])
    go_wp2_with fail
    refine HC.out.mono ?_
    rintro e w2 ⟨rfl,rfl⟩
    go_wp2
    go_ret
    exact ⟨by rw [hpos.out]; rfl,rfl⟩
  ·obtain rfl:j=n:=by omega
   have hjI:¬ (j:Int) < (j:Int):=by omega
   have hpos:Hid (posJ zs x=-1):=Lib.hid (by
    have e:posZ zs x=zs.length:=by
     unfold posZ
     rw [List.findIdx_eq_length]
     intro y hy
     obtain ⟨q,hq,rfl⟩:=List.mem_iff_getElem.1 hy
     simpa using hno.out q (by rw [hn.out]; exact hq) hq
    unfold posJ
    rw [e,if_neg (by omega)])
   go_wp2
   go_ret
   exact ⟨by rw [hpos.out]; rfl,rfl⟩
def lessZ (zs:List Int) (x:Int):List Int:=zs.filter fun z => decide (z≠x)
theorem lessZ_snoc (zs:List Int) (x:Int) (j:Nat) (h:j < zs.length):lessZ (zs.take (j + 1)) x=if zs[j]'h=x then lessZ (zs.take j) x else lessZ (zs.take j) x ++ [zs[j]'h]:=by
 unfold lessZ
 rw [List.take_add_one,List.getElem?_eq_getElem h,List.filter_append]
 split
 ·rename_i h; simp [h]
 ·rename_i h; simp [h]
theorem lessZ_all {zs:List Int} {x:Int} (h:∀ z ∈ zs,z≠x):lessZ zs x=zs:=by
 unfold lessZ
 rw [List.filter_eq_self]
 intro z hz
 simpa using h z hz
structure DS (w wr:World) (B:Nat) (b c n:Nat) (zs:List Int) (x:Int) (i j:Nat) (R:List Int):Prop where
 len:R.length=n
 own:wr.ownsRow B 3 1 (.slice (some ⟨b,0,none⟩) n c) n (zV R)
 tk:R.take i=lessZ (zs.take j) x
 dr:R.drop j=zs.drop j
 gr:w.grownBy wr (some b)
 ij:i < j
theorem DS.skip {w wr:World} {B b c n:Nat} {zs:List Int} {x:Int} {i j:Nat} {R:List Int} (h:DS w wr B b c n zs x i j R) (hj:j < zs.length) (e:zs[j]'hj=x):DS w wr B b c n zs x i (j + 1) R :=
 ⟨h.len,h.own,by rw [lessZ_snoc zs x j hj,if_pos e]; exact h.tk,by
  have:=congrArg (List.drop 1) h.dr
  rw [List.drop_drop,List.drop_drop] at this
  rw [Nat.add_comm j 1]; rw [Nat.add_comm] at this; exact this,h.gr,by have:=h.ij; omega⟩
theorem DS.move {w wr:World} {B b c n:Nat} {zs:List Int} {x:Int} {i j:Nat} {R:List Int} (h:DS w wr B b c n zs x i j R) (hj:j < zs.length) (hn:n=zs.length) (hBw:B≤b) (e:zs[j]'hj≠x):DS w (wr.setCell ⟨b,i,none⟩ (.int .i64 (zs[j]'hj))) B b c n zs x (i + 1) (j + 1) (R.set i (zs[j]'hj)):=by
 have st:=h.own.stored i (.int .i64 (zs[j]'hj))
 have hij:=h.ij
 have hl:=h.len
 refine ⟨by rw [List.length_set]; exact h.len,?_,?_,?_,h.gr.trans st.2,by omega⟩
 ·have e2:(zV R).set i (.int .i64 (zs[j]'hj))=zV (R.set i (zs[j]'hj)):=by unfold zV; rw [List.map_set]
  rw [← e2]; exact st.1
 ·rw [lessZ_snoc zs x j hj,if_neg e,← h.tk]
  rw [List.take_add_one,List.getElem?_set_self (by omega),List.take_set_of_le (Nat.le_refl _)]
  rfl
 ·have:=congrArg (List.drop 1) h.dr
  rw [List.drop_drop,List.drop_drop] at this
  rw [List.drop_set_of_lt (by omega)]
  exact this
theorem lgrown_below' (w:World) (r:Option Nat):w.grownBy w r:=lbelow_grown (Below.refl _ _) r
theorem cell_kept {w w':World} {b p i:Nat} {v:Value} (hg:w.grownBy w' (some b)) (hp:w.cell? ⟨p,i,none⟩=some v) (hne:p≠b):w'.cell? ⟨p,i,none⟩=some v:=by
 have hlt:=World.block_lt_of_cell? _ _ hp
 have e:=hg.block p hlt (fun e => hne (by injection e))
 unfold World.cell? at hp ⊢
 rw [e]; exact hp
theorem zV_get {R zs:List Int} {j:Nat} (h:R.drop j=zs.drop j) (hj:j < zs.length):(zV R)[j]?=some (.int .i64 (zs[j]'hj)):=by
 have h0:=congrArg (fun l => l[0]?) h
 simp only [List.getElem?_drop,Nat.add_zero] at h0
 unfold zV
 rw [List.getElem?_map,h0,List.getElem?_eq_getElem hj]; rfl
theorem setCells_blk {g:Nat} {t:TypeId}:∀ (vs:List Value) (o:Nat) (w:World) (cs:Array Value),Blk w g t cs→∃ cs',Blk (w.setCells g o vs) g t cs'∧cs'.size=cs.size∧(∀ i,(i < o∨o + vs.length≤i)→cs'[i]?=cs[i]?)∧w.grownBy (w.setCells g o vs) (some g)
 | [],_,w,cs,h => ⟨cs,h,rfl,fun _ _ => rfl,lgrown_below' w _⟩
 | v :: r,o,w,cs,h => by
  obtain ⟨cs',h1,h2,h3,h4⟩:=setCells_blk r (o + 1) (w.setCell ⟨g,o,none⟩ v) _ (h.set_ o v)
  refine ⟨cs',h1,by rw [h2,Array.size_setIfInBounds],fun i hi => ?_,(lgrown_set w ⟨g,o,none⟩ v).trans h4⟩
  rw [h3 i (by simp at hi; omega),Array.getElem?_setIfInBounds_ne (by simp at hi; omega)]
theorem zero_z:∀ w,(zeroValue 3).run Tryz.prog w=.ok (.int .i64 0) w:=by
 obtain ⟨i0,hi,hz0,hz1,hz2⟩:=info_parts Tryz.infoZ
 intro w
 simp only [zeroValue,typeInfo]
 simp [hi,hz0]
set_option maxRecDepth 100000 in
set_option maxHeartbeats 1000000 in
theorem delete_any (B:Nat) (A:Option Addr) (zs:List Int) (n c p:Nat) (x:Int) (w:World) (hn:Hid (n=zs.length)) (hm:n≤1000000) (own:OwnZ w B A c zs) (hp:w.cell? ⟨p,0,none⟩=some (.int .i64 x)) (hpB:p < B) :
  Calls Tryz.prog 113 #[.slice A n c,.func (.func 114) #[] #[.pointer (some ⟨p,0,none⟩)]] w fun e w' => ∃ m,e=.returned (.slice A m c)∧m=(lessZ zs x).length∧OwnZ w' B A c (lessZ zs x)∧w.grownBy w' (blk A):=by
 have HF:=Lib.hid (zindexf_any A zs n c p x hn hm w own.at_ hp)
 by_cases hpos:posZ zs x < zs.length
 ·have hP:posJ zs x=(posZ zs x:Nat):=if_pos hpos
  rw [hP] at HF
  obtain ⟨i0,hi0⟩:∃ i0,i0=posZ zs x:=⟨_,rfl⟩
  rw [← hi0] at HF hpos
  obtain ⟨b,cap,e⟩:=Joins.ownsRow_form own (by omega)
  cases e
  have hBb:=(own.lt' b rfl).1
  have hcap:=own.cap
  have hfx:zs[i0]'hpos=x:=by
   have:=List.findIdx_getElem (p:=fun z:Int => decide (z=x)) (xs:=zs) (w:=by unfold posZ at hi0; rw [← hi0]; exact hpos)
   have h2:zs[zs.findIdx fun z => decide (z=x)]'(by unfold posZ at hi0; rw [← hi0]; exact hpos)=x:=by simpa using this
   unfold posZ at hi0
   subst hi0
   exact h2
  have hno:∀ q (hq:q < zs.length),q < i0→zs[q]'hq≠x:=fun q hq hlt => by
   have:=List.not_of_lt_findIdx (p:=fun z:Int => decide (z=x)) (xs:=zs) (i:=q) (by unfold posZ at hi0; rw [← hi0]; exact hlt)
   simpa using this
  have hti:(zs.take i0).length=i0:=by rw [List.length_take]; omega
  have hI:Hid (∃ R,DS w w B b c n zs x i0 (i0 + 1) R):=Lib.hid ⟨zs,hn.out.symm,by rw [hn.out]; exact own,by
   rw [lessZ_snoc zs x i0 hpos,if_pos hfx,lessZ_all]
   intro z hz
   obtain ⟨q,hq,rfl⟩:=List.mem_iff_getElem.1 hz
   rw [List.getElem_take]
   exact hno q (by omega) (by omega),rfl,lgrown_below' _ _,by omega⟩
  have hin:i0 < n:=by rw [hn.out]; exact hpos
  have hcn:n≤c∧c≤9223372036854775807:=by rw [hn.out]; exact hcap
  have HP:=Lib.hid (And.intro hp (And.intro hpB hBb))
  clear own hp hP hi0 hfx hno hti hpos hcap
  go_enter Tryz.func113,Tryz.ntmps113
  go_wp2_with fail
  refine HF.out.mono ?_
  rintro e w1 ⟨rfl,rfl⟩
  have hi1:((i0:Int) == -1)=false:=by simp
  go_wp2_with fail
  go_loopw [5,6,7] (fun iv jv vv wr => ∃ (i j:Nat) (v:Value),vv=v∧i < n∧j≤n∧iv=.int .i64 i∧jv=.int .i64 j∧Hid (∃ R,DS w wr B b c n zs x i j R)) (fun _ jv _ _ => n - (intOf jv).toNat)
  case atStart => exact ⟨i0,i0 + 1,_,rfl,hin,by omega,rfl,by go_num,hI⟩
  case round =>
   clear hI hi1 hin
   obtain ⟨i,j,v,rfl,hi,hj,rfl,rfl,HR⟩:=hrel
   by_cases hjn:j < n
   ·have hjI:(j:Int) < (n:Int):=by omega
    obtain ⟨R,hR⟩:=HR.out
    have hjl:j < zs.length:=by rw [← hn.out]; exact hjn
    have hcj:=(hR.own.cellAt j (by omega)).trans (zV_get hR.dr hjl)
    have hci:=hR.own.cellAt i (by omega)
    have hfi:=hR.own.frozenAt i
    obtain ⟨u,hu⟩:∃ u,wr.cell? ⟨b,i,none⟩=some u:=by
     rw [hci]
     unfold zV
     rw [List.getElem?_map,List.getElem?_eq_getElem (by rw [hR.len]; exact hi)]
     exact ⟨_,rfl⟩
    have hpc:=cell_kept hR.gr HP.out.1 (by have:=HP.out.2; omega)
    have HD:=Lib.hid (drop1_any (zs[j]'hjl) x p wr hpc)
    have hij:=hR.ij
    by_cases e:zs[j]'hjl=x
    ·have HN:Hid (∃ R,DS w wr B b c n zs x i (j + 1) R):=Lib.hid ⟨R,hR.skip hjl e⟩
     have hb:(zs[j]'hjl == x)=true:=by simpa using e
     rw [hb] at HD
     generalize zs[j]'hjl=z at hcj HD
     clear hR hci hfi hu hpc e hb
     go_wp2_with fail
     refine HD.out.mono ?_
     rintro e w2 ⟨rfl,rfl⟩
     go_wp2
     go_roundw
     case rel => exact ⟨i,j + 1,_,rfl,hi,by omega,rfl,by go_num,HN⟩
     case measure => simp [intOf]; omega
    ·have hmv:=hR.move hjl hn.out HP.out.2.2 e
     have hb:(zs[j]'hjl == x)=false:=by simpa using e
     rw [hb] at HD
     generalize zs[j]'hjl=z at hcj HD hmv
     have HN:Hid (∃ R,DS w (wr.setCell ⟨b,i,none⟩ (.int .i64 z)) B b c n zs x (i + 1) (j + 1) R):=Lib.hid ⟨_,hmv⟩
     clear hR hci hpc e hb hmv
     go_wp2_with fail
     refine HD.out.mono ?_
     rintro e w2 ⟨rfl,rfl⟩
     go_wp2
     go_roundw
     case rel => exact ⟨i + 1,j + 1,_,rfl,by omega,by omega,by go_num,by go_num,HN⟩
     case measure => simp [intOf]; omega
   ·obtain rfl:j=n:=by omega
    have hjI:¬ (j:Int) < (j:Int):=by omega
    obtain ⟨R,hR⟩:=HR.out
    obtain ⟨cur,hcur⟩:∃ cur:Array Value,Blk wr b 3 cur∧cur.size=c * 1∧cur.toList.take (j * 1)=zV R∧c≤maxLen:=by
     rcases hR.own.2 with ⟨h1,_⟩ | ⟨g',cap',cur,h1,_,h2,_,h4,h5,h6⟩
     ·cases h1
     ·cases h1; exact ⟨cur,h2,h5,h6,h4⟩
    obtain ⟨kc,ksz,ktk,kmx⟩:=hcur
    obtain ⟨cs7,k7,s7,n7,g7⟩:=setCells_blk (List.replicate (j - i) (.int .i64 0)) i wr cur kc
    have hclear:=fun ty => Lib.run_clear_slice (P:=Tryz.prog) wr 100 3 ty (.int .i64 0) Tryz.underlying100 zero_z rfl rfl b i (j - i) (c - i) (by omega) (fun q hq => by
     rw [kc.cell (i + q),Array.getElem?_eq_getElem (by rw [ksz]; have:=hcn.1; omega)]; rfl) (fun q hq => kc.frozen (i + q))
    obtain ⟨w7,hw7⟩:∃ w7,w7=wr.setCells b i (List.replicate (j - i) (.int .i64 0)):=⟨_,rfl⟩
    rw [← hw7] at hclear k7 g7
    have hless:lessZ zs x=R.take i:=by rw [hR.tk,List.take_of_length_le (by rw [← hn.out]; exact Nat.le_refl _)]
    have hli:(lessZ zs x).length=i:=by rw [hless,List.length_take,hR.len]; omega
    have HX:Hid (i=(lessZ zs x).length∧OwnZ w7 B (some ⟨b,0,none⟩) c (lessZ zs x)∧w.grownBy w7 (blk (some (⟨b,0,none⟩:Addr)))):=Lib.hid (by
     refine ⟨hli.symm,?_,hR.gr.trans g7⟩
     unfold OwnZ
     rw [hli]
     refine ⟨by unfold zV; rw [List.length_map,hli]; omega,.inr ⟨b,c,cs7,rfl,HP.out.2.2,k7,by have:=hcn.1; omega,kmx,s7.trans ksz,?_⟩⟩
     have e1:cs7.toList.take (i * 1)=cur.toList.take (i * 1):=by
      refine List.ext_getElem? fun q => ?_
      rw [List.getElem?_take,List.getElem?_take]
      split
      ·have:=n7 q (.inl (by omega))
       simpa using this
      ·rfl
     have e2:cur.toList.take (i * 1)=(cur.toList.take (j * 1)).take (i * 1):=by rw [List.take_take]; congr 1; omega
     rw [e1,e2,ktk,hless]
     unfold zV
     rw [Nat.mul_one,List.map_take])
    have hij2:((j - i:Nat):Int)≤9223372036854775807:=by omega
    clear hR kc ksz ktk kmx k7 s7 n7 g7 hw7 hless hli HR
    go_wp2
    go_ret
    exact ⟨i,rfl,HX.out⟩
 ·have hP:posJ zs x=-1:=if_neg hpos
  rw [hP] at HF
  have hall:lessZ zs x=zs:=lessZ_all fun z hz e => hpos (by
   unfold posZ
   exact List.findIdx_lt_length_of_exists ⟨z,hz,by simpa using e⟩)
  rw [hall]
  have HX:=Lib.hid (And.intro hn.out own)
  have Hgr:=Lib.hid (lgrown_below' w (blk A))
  clear own hp hP hall
  go_enter Tryz.func113,Tryz.ntmps113
  go_wp2_with fail
  refine HF.out.mono ?_
  rintro e w1 ⟨rfl,rfl⟩
  go_wp2
  go_ret
  exact ⟨n,rfl,HX.out.1,HX.out.2,Hgr.out⟩
end Go.Proofs.YtlliaihmfimdoaaGreat.Re


namespace Go.Proofs.YtlliaihmfimdoaaGreat.Re
open Go.RowKit Go.Maps Go.Deep Go.Proofs.YtlliaihmfimdoaaGreat
def dropS (S:RS) (n:Int):RS:={ S with pr:=lessZ S.pr n }
set_option maxRecDepth 100000 in
set_option maxHeartbeats 1000000 in
theorem resdrop_any (g:Nat) (cs:Array Value) (S:RS) (N:Nat) (n:Int) (w:World) (h:ResAt w g cs S N) (hN:N < 300000) :
  Calls Tryz.prog 69 #[.pointer (some ⟨g,0,none⟩),.int .i64 n] w fun e w' => e=.returned (.tuple #[])∧ResO w g (dropS S n) N w':=by
 unfold dropS
 obtain ⟨PA,pn,pc,h1,h2,h3,h4,h5⟩:=h.pr
 have hsz:37 < cs.size:=by
  rcases Nat.lt_or_ge 37 cs.size with h | h
  ·exact h
  ·rw [Array.getElem?_eq_none h] at h1; cases h1
 obtain ⟨w1,hw1⟩:∃ w1,w1=w.alloc (.cells #[.int .i64 n] 3):=⟨_,rfl⟩
 have b1:Below w.heap.size w w1:=by rw [hw1]; exact ba _ _
 obtain ⟨p,hp⟩:∃ p,p=w.heap.size:=⟨_,rfl⟩
 have kp:Blk w1 p 3 #[.int .i64 n]:=by rw [hw1,hp]; exact Blk.new _ _ _
 have h1w:=h.below b1
 have c37:=(h1w.kv.bk.cell 37).trans h1
 have hpn:pn≤300000:=by have:=h.ln; omega
 have HC:=Lib.hid (zclone_any PA S.pr pn pc w1 (Lib.hid h2) (by omega) (h5.below b1))
 have H:=Lib.hid (And.intro h (And.intro h2 (And.intro hsz (And.intro b1 (And.intro kp hp)))))
 have HW:=Lib.hid hw1
 have Hp:=Lib.hid hp
 rw [hw1] at c37
 clear h h1 h2 h3 h4 h5 hsz hw1 b1 hp kp h1w
 go_enter Tryz.func69,Tryz.ntmps69
 go_wp2_with fail
 rw [← HW.out,← Hp.out]
 refine HC.out.mono ?_
 rintro e w2 ⟨A2,c2,rfl,own,b2⟩
 obtain ⟨h,h2,hsz,b1,kp,hp⟩:=H.out
 have kp2:=kp.below b2 kp.lt
 have HD:=Lib.hid (delete_any w1.heap.size A2 S.pr pn c2 p n w2 (Lib.hid h2) (by omega) own (kp2.cell 0) kp.lt)
 have H2:=Lib.hid (And.intro b2 own)
 clear h h2 hsz b1 kp hp kp2 own b2
 go_wp2_with fail
 refine HD.out.mono ?_
 rintro e w3 ⟨m,rfl,hm,own3,hg3⟩
 obtain ⟨h,h2,hsz,b1,kp,hp⟩:=H.out
 obtain ⟨b2,own⟩:=H2.out
 have hs1:=b1.size
 have bel3:Below w.heap.size w w3:=(bt b1 b2).grown hg3 (Nat.le_trans hs1 b2.size) (fun r e => Nat.le_trans hs1 (own.lt' r e).1)
 have h3:=h.below bel3
 have e37:w3.cell? ⟨g,37,none⟩=some (.slice PA pn pc):=(bel3.cell (p:=⟨g,37,none⟩) h.lt).trans (by
  have:=(b1.cell (p:=⟨g,37,none⟩) h.lt)
  rw [← HW.out] at c37
  rw [← this]; exact c37)
 have f37:=h3.kv.bk.frozen 37
 have hgs:=lgrown_set w3 ⟨g,37,none⟩ (.slice A2 m c2)
 have hcap:=own3.cap
 have hlen:(lessZ S.pr n).length≤S.pr.length:=List.length_filter_le _ _
 have hO:=h3.pturn (pr':=lessZ S.pr n) (N':=N) hgs (A:=A2) (n:=m) (c:=c2) (h3.kv.bk.set_ 37 _) hm ⟨by rw [hm]; exact hcap.1,hcap.2⟩ (own3.at_.kept hgs h3.kv.bk (by decide)) hsz ⟨Nat.le_refl _,Nat.le_trans hlen h.ln⟩
 have HX:Hid (ResO w g { S with pr:=lessZ S.pr n } N (w3.setCell ⟨g,37,none⟩ (.slice A2 m c2))):=Lib.hid (ResO.from (lbelow_grown bel3 _) hO)
 clear h h2 hsz b1 kp hp b2 own own3 hg3 bel3 h3 hgs hcap hlen hO hs1 hm c37
 go_wp2
 go_end0
 exact ⟨rfl,HX.out⟩
def commitR (S:RS) (n:Int):Int × RS:=if n < 1 then (1,S) else (0,dropS ⟨(commitM S.K n).2,(Qu.commitM S.Q n).2,S.pr⟩ n)
set_option maxRecDepth 100000 in
set_option maxHeartbeats 1000000 in
theorem rescommit_any (g:Nat) (cs:Array Value) (S:RS) (N:Nat) (n:Int) (w:World) (h:ResAt w g cs S N) (hok:Qu.QOk S.Q) (hN:N < 200000) (hn:i64ok n) :
  Calls Tryz.prog 27 #[.pointer (some ⟨g,0,none⟩),.int .i64 n] w fun e w' => e=.returned (.int .i64 (commitR S n).1)∧ResO w g (commitR S n).2 (N + 2) w':=by
 have HNm:=Lib.hid (resnames_any g n w)
 by_cases h1:n < 1
 ·have hM:commitR S n=(1,S):=if_pos h1
  rw [hM]
  rw [if_pos h1] at HNm
  have HX:=Lib.hid (ResO.same (h.more (by omega:N≤N + 2)) (Below.refl _ _))
  clear h hM hn
  go_enter Tryz.func27,Tryz.ntmps27
  go_wp2_with fail
  refine HNm.out.mono ?_
  rintro e w1 ⟨rfl,rfl⟩
  go_wp2
  go_ret
  exact ⟨rfl,HX.out⟩
 ·have hM:commitR S n=(0,dropS ⟨(commitM S.K n).2,(Qu.commitM S.Q n).2,S.pr⟩ n):=if_neg h1
  rw [hM]
  rw [if_neg h1] at HNm
  have HK:=Lib.hid (commit_any g 102 cs S.K N n w h.kv (by omega) hn)
  have HQ:=Lib.hid (fun cs1 (w1:World) (S1:RS) (h1:ResAt w1 g cs1 S1 (N + 1)) (hq:S1.Q=S.Q) => Qu.commit_any g 34 102 cs1 S1.Q (N + 1) n w1 h1.qu (by rw [hq]; exact hok) (by omega) hn)
  obtain ⟨rK,hrK⟩:∃ rK,rK=(commitM S.K n).2:=⟨_,rfl⟩
  obtain ⟨rQ,hrQ⟩:∃ rQ,rQ=(Qu.commitM S.Q n).2:=⟨_,rfl⟩
  obtain ⟨eK,heK⟩:∃ eK,eK=(commitM S.K n).1:=⟨_,rfl⟩
  obtain ⟨eQ,heQ⟩:∃ eQ,eQ=(Qu.commitM S.Q n).1:=⟨_,rfl⟩
  rw [← hrK,← heK] at HK
  rw [← hrK,← hrQ]
  have HE:=Lib.hid (And.intro hrQ heQ)
  have H:=Lib.hid h
  have Hn:=Lib.hid hn
  clear h hM hrK hrQ heK heQ hn
  go_enter Tryz.func27,Tryz.ntmps27
  go_wp2_with fail
  refine HNm.out.mono ?_
  rintro e w1 ⟨rfl,rfl⟩
  go_wp2_with fail
  refine HK.out.mono ?_
  rintro e w1 ⟨rfl,hk⟩
  obtain ⟨⟨cs1,k1⟩,g1⟩:=H.out.kturn hk (Nat.le_refl _)
  have HQ1:=HQ.out cs1 w1 _ (k1.more (Nat.le_succ _)) rfl
  dsimp only at HQ1
  rw [← HE.out.1,← HE.out.2] at HQ1
  have HQ1:=Lib.hid HQ1
  have H1:=Lib.hid (And.intro (k1.more (Nat.le_succ N)) g1)
  clear hk k1 g1 HQ
  go_wp2_with fail
  refine HQ1.out.mono ?_
  rintro e w2 ⟨rfl,hk⟩
  obtain ⟨⟨cs2,k2⟩,g2⟩:=H1.out.1.qturn hk (by omega)
  have HD:=Lib.hid (resdrop_any g cs2 _ _ n w2 k2 (by omega))
  have Hg:=Lib.hid (H1.out.2.trans g2)
  clear hk k2 g2
  go_wp2_with fail
  refine HD.out.mono ?_
  rintro e w3 ⟨rfl,hO⟩
  obtain ⟨⟨cs3,k3⟩,g3⟩:=ResO.from Hg.out hO
  have HX:Hid (ResO w g (dropS ⟨rK,rQ,S.pr⟩ n) (N + 2) w3):=Lib.hid ⟨⟨cs3,k3.more (by omega)⟩,g3⟩
  clear hO k3 g3
  go_wp2
  go_ret
  exact ⟨rfl,HX.out⟩
def backR (S:RS) (n:Int):Int × RS:=if n < 1 then (1,S) else (0,dropS ⟨(backoutM S.K n).2,(Qu.backM S.Q n).2,S.pr⟩ n)
set_option maxRecDepth 100000 in
set_option maxHeartbeats 1000000 in
theorem resbackout_any (g:Nat) (cs:Array Value) (S:RS) (N:Nat) (n:Int) (w:World) (h:ResAt w g cs S N) (hN:N < 200000) (hn:i64ok n) :
  Calls Tryz.prog 31 #[.pointer (some ⟨g,0,none⟩),.int .i64 n] w fun e w' => e=.returned (.int .i64 (backR S n).1)∧ResO w g (backR S n).2 (N + 2) w':=by
 have HNm:=Lib.hid (resnames_any g n w)
 by_cases h1:n < 1
 ·have hM:backR S n=(1,S):=if_pos h1
  rw [hM]
  rw [if_pos h1] at HNm
  have HX:=Lib.hid (ResO.same (h.more (by omega:N≤N + 2)) (Below.refl _ _))
  clear h hM hn
  go_enter Tryz.func31,Tryz.ntmps31
  go_wp2_with fail
  refine HNm.out.mono ?_
  rintro e w1 ⟨rfl,rfl⟩
  go_wp2
  go_ret
  exact ⟨rfl,HX.out⟩
 ·have hM:backR S n=(0,dropS ⟨(backoutM S.K n).2,(Qu.backM S.Q n).2,S.pr⟩ n):=if_neg h1
  rw [hM]
  rw [if_neg h1] at HNm
  have HK:=Lib.hid (backout_any g 102 cs S.K N n w h.kv hn)
  have HQ:=Lib.hid (fun cs1 (w1:World) (S1:RS) (h1:ResAt w1 g cs1 S1 (N + 1)) (hq:S1.Q=S.Q) => Qu.backout_any g 34 102 cs1 S1.Q (N + 1) n w1 h1.qu hn)
  obtain ⟨rK,hrK⟩:∃ rK,rK=(backoutM S.K n).2:=⟨_,rfl⟩
  obtain ⟨rQ,hrQ⟩:∃ rQ,rQ=(Qu.backM S.Q n).2:=⟨_,rfl⟩
  obtain ⟨eK,heK⟩:∃ eK,eK=(backoutM S.K n).1:=⟨_,rfl⟩
  obtain ⟨eQ,heQ⟩:∃ eQ,eQ=(Qu.backM S.Q n).1:=⟨_,rfl⟩
  rw [← hrK,← heK] at HK
  rw [← hrK,← hrQ]
  have HE:=Lib.hid (And.intro hrQ heQ)
  have H:=Lib.hid h
  have Hn:=Lib.hid hn
  clear h hM hrK hrQ heK heQ hn
  go_enter Tryz.func31,Tryz.ntmps31
  go_wp2_with fail
  refine HNm.out.mono ?_
  rintro e w1 ⟨rfl,rfl⟩
  go_wp2_with fail
  refine HK.out.mono ?_
  rintro e w1 ⟨rfl,hk⟩
  obtain ⟨⟨cs1,k1⟩,g1⟩:=H.out.kturn hk (Nat.le_refl _)
  have HQ1:=HQ.out cs1 w1 _ (k1.more (Nat.le_succ _)) rfl
  dsimp only at HQ1
  rw [← HE.out.1,← HE.out.2] at HQ1
  have HQ1:=Lib.hid HQ1
  have H1:=Lib.hid (And.intro (k1.more (Nat.le_succ N)) g1)
  clear hk k1 g1 HQ
  go_wp2_with fail
  refine HQ1.out.mono ?_
  rintro e w2 ⟨rfl,hk⟩
  obtain ⟨⟨cs2,k2⟩,g2⟩:=H1.out.1.qturn hk (by omega)
  have HD:=Lib.hid (resdrop_any g cs2 _ _ n w2 k2 (by omega))
  have Hg:=Lib.hid (H1.out.2.trans g2)
  clear hk k2 g2
  go_wp2_with fail
  refine HD.out.mono ?_
  rintro e w3 ⟨rfl,hO⟩
  obtain ⟨⟨cs3,k3⟩,g3⟩:=ResO.from Hg.out hO
  have HX:Hid (ResO w g (dropS ⟨rK,rQ,S.pr⟩ n) (N + 2) w3):=Lib.hid ⟨⟨cs3,k3.more (by omega)⟩,g3⟩
  clear hO k3 g3
  go_wp2
  go_ret
  exact ⟨rfl,HX.out⟩
end Go.Proofs.YtlliaihmfimdoaaGreat.Re

