/- Parts Q7 Q8 Q9 of one proof. -/
import Derived.Test.YtlliaihmfimdoaaGreatMg20
import Derived.Test.YtlliaihmfimdoaaGreatMg21
import Derived.Test.YtlliaihmfimdoaaGreatMg22
import Derived.Shelf.Abstract
import Derived.Shelf.RegionOpen
import Derived.WalkKit
import Derived.OwnWalkIn
import Derived.TacticsInMore
import Derived.LoopNIn
import Derived.LoopIn
set_option linter.unusedSimpArgs false
set_option linter.unusedVariables false
namespace Go.Proofs.YtlliaihmfimdoaaGreat.Qu
open Go.RowKit Go.Shelf Go.Maps
attribute [local go_sem] Oper.semAt_some
theorem keepsOthers_below {W W':World} (h:Below W.heap.size W W'):KeepsOthers W W':=⟨h.size,fun k o hk _ => (h.block k (Array.getElem?_eq_some_iff.1 hk).1).trans hk⟩
def encI (x:Nat × IT):Array Value:=#[.int .i64 x.1,x.2.val]
set_option maxRecDepth 100000 in
set_option maxHeartbeats 2000000 in
theorem each_in (n:Nat) (hn:2≤n) (l g of:Nat) (A:Option Addr) (L:List IT) (nL c:Nat) (hN:Hid (nL=L.length)) (hm:nL≤100)
  (J:Nat→World→Prop) (Y:Nat→World→Prop) (hJ:∀ s W W',Below W.heap.size W W'→J s W→J s W') (hA:∀ s W,J s W→ItAt W anyB A L)
  (hY:∀ (i:Nat) (h:i < L.length) (W:World),J i W→YieldAt Fence.wide (n - 1) Tryz.prog l (encI (i,L[i]'h)) W fun e W' => (e=.returned (.bool true)∧J (i + 1) W')∨(e=.returned (.bool false)∧Y i W'))
  (W:World) (hq:W.cell? ⟨g,of,none⟩=some (.slice A nL c)) (h0:J 0 W) :
  CallsIn Fence.wide n Tryz.prog 96 #[.pointer (some ⟨g,of,none⟩),.func (.yield l) #[] #[]] W fun e W' => (∃ v,e=.returned v)∧(J L.length W'∨∃ i,i < L.length∧Y i W'):=by
 refine callsIn_of_wp Tryz.func96 rfl trivial ?_ rfl
 simp only [Tryz.ntmps96,List.size_toArray,List.length_cons,List.length_nil,Nat.reduceAdd,Nat.reduceSub,Array.replicate_succ,Array.replicate_zero,List.push_toArray,List.append_toArray,List.nil_append,List.cons_append]
 gi_wp2
 gi_loopw [11] (fun a wr => ∃ (i0:Nat),i0≤nL∧a=.int .i64 i0∧J i0 wr) (fun a _ => nL - (intOf a).toNat)
 case atStart => exact ⟨0,Nat.zero_le _,rfl,h0⟩
 case round =>
  obtain ⟨i0,hi,rfl,hJ1⟩:=hrel
  by_cases hin:i0 < nL
  ·have hiI:(i0:Int) < (nL:Int):=by omega
   have hil:i0 < L.length:=by rw [← hN.out]; exact hin
   obtain ⟨b,o,rfl,_,hcs⟩:=(hA i0 wr hJ1) (by omega)
   obtain ⟨q0,q1,q2⟩:=hcs i0 hil
   have hYi:=hY i0 hil
   obtain ⟨x,hx⟩:∃ x,x=L[i0]'hil:=⟨_,rfl⟩
   rw [← hx] at q0 q1 q2 hYi
   obtain ⟨xn,xv,xt⟩:=x
   dsimp only at q0 q1 q2
   obtain ⟨wA,hwA⟩:∃ wA,wA=wr.alloc (.cells #[.int .i64 xn,.int .u64 (xv:Nat),.int .i64 xt] 152):=⟨_,rfl⟩
   have bA:Below wr.heap.size wr wA:=by rw [hwA]; exact ba _ _
   have kA:Blk wA wr.heap.size 152 #[.int .i64 xn,.int .u64 (xv:Nat),.int .i64 xt]:=by rw [hwA]; exact Blk.new _ _ _
   have e0:=kA.cell 0
   have e1:=kA.cell 1
   have e2:=kA.cell 2
   simp only [List.getElem?_toArray,List.getElem?_cons_zero,List.getElem?_cons_succ] at e0 e1 e2
   obtain ⟨fn,tmps,assign,body,hy,hR⟩:=hYi wA (hJ i0 _ _ bA hJ1)
   have henc:encI (i0,(⟨xn,xv,xt⟩:IT))=#[.int .i64 i0,.agg #[.int .i64 xn,.int .u64 (xv:Nat),.int .i64 xt]]:=rfl
   rw [henc] at hy
   rw [hwA] at e0 e1 e2 hy
   have HR:=Lib.hid hR
   have HWA:=Lib.hid hwA
   rw [hwA] at hR
   clear hcs hx hJ1 hwA bA kA hYi henc
   gi_wp2
   refine ⟨fun _ => by omega,hR.mono ?_⟩
   rintro e W3 (⟨rfl,hJ3⟩ | ⟨rfl,hY3⟩)
   ·clear hy hR HR q0 q1 q2 e0 e1 e2
    gi_wp2
    exact ⟨⟨i0 + 1,by omega,by go_num,hJ3⟩,by simp [intOf]; omega⟩
   ·clear hy hR HR q0 q1 q2 e0 e1 e2
    gi_wp2
    (try simp only [Exit.inBlock,Exit.then]); refine bodyPost_ret (results_none rfl _ _ _) rfl ?_
    exact ⟨⟨_,rfl⟩,.inr ⟨i0,hil,hY3⟩⟩
  ·obtain rfl:i0=nL:=by omega
   have hiI:¬ (i0:Int) < (i0:Int):=by omega
   gi_wp2
   go_end0
   exact ⟨⟨_,rfl⟩,.inl (by rw [← hN.out]; exact hJ1)⟩
end Go.Proofs.YtlliaihmfimdoaaGreat.Qu


namespace Go.Proofs.YtlliaihmfimdoaaGreat.Qu
open Go.RowKit Go.Shelf Go.Maps
attribute [local go_sem] Oper.semAt_some
theorem wpListIn_append_run {Fc:Fence} {n:Nat} {P:Program} (hFn:∀ f,Fc.fn f) {w:World} {ops:Array Oper} {rest:List Oper} {o:Oper} {a:Act} {Q:Exit→Act→World→Prop} (hgd:o.guard=none) (s x:Operand) (t:TypeId)
  (ho:o.op=.call { callee:=.builtin .append,args:=#[s,x],argTypes:=#[t,t] }) (sv xv v:Value) (w':World) (hs:a.eval s=sv) (hx:a.eval x=xv) (hrun:(Builtin.append_ #[t,t] o.type #[sv,xv]).run P w=.ok v w') (h:wpListIn Fc n P ops Q rest (a.put o.dst v) w') :
  wpListIn Fc n P ops Q (o :: rest) a w:=by
 refine wpListIn_plain hgd fun _ hK => ?_
 unfold Oper.wpIn
 refine ⟨fun f _ => hFn f,?_⟩
 rw [Oper.semAt_eq _ _ _ (by intro c; rw [ho]; simp)]
 unfold execOp
 simp only [ho,resolve,invoke,builtin,Sem.run_bind,Sem.run_pure,Result.andThen_ok,List.map_toArray,List.map_cons,List.map_nil,hs,hx,hrun]
 exact hK _ _ h
def uV (vs:List Nat):List Value:=vs.map fun v => .int .u64 (v:Nat)
def OwnU (w:World) (B:Nat) (A:Option Addr) (c:Nat) (vs:List Nat):Prop:=w.ownsRow B 39 1 (.slice A vs.length c) vs.length (uV vs)
theorem Tryz.infoU:(Tryz.prog.info? 39).map (fun i => (i.zero,i.size,i.bytes))=some (some (.int .u64 0),1,8):=by kernel_rfl
theorem OwnU.nil (w:World) (B:Nat):OwnU w B none 0 []:=World.ownsRow_nil w _ _ _
theorem OwnU.lt' {u:World} {B:Nat} {A:Option Addr} {c:Nat} {l:List Nat} (h:OwnU u B A c l):∀ r,blk A=some r→B≤r∧r < u.heap.size:=fun r e => World.ownsRow.lt h r (by rw [ownBlock_slice]; exact e)
theorem OwnU.grown {u u':World} {B:Nat} {A:Option Addr} {c:Nat} {l:List Nat} {row:Option Nat} (h:OwnU u B A c l) (hg:u.grownBy u' row) (hr:∀ r,row=some r→blk A≠some r):OwnU u' B A c l:=by
 refine World.ownsRow.kept h hg ?_
 rcases hb:(Value.slice A l.length c).ownBlock with _ | k
 ·exact .inl rfl
 ·rw [ownBlock_slice] at hb
  exact .inr (fun e => hr k e.symm hb)
theorem OwnU.less {u:World} {B B':Nat} {A:Option Addr} {c:Nat} {l:List Nat} (h:OwnU u B A c l) (hB:B'≤B):OwnU u B' A c l:=by
 obtain ⟨h1,h2⟩:=h
 refine ⟨h1,?_⟩
 rcases h2 with h2 | ⟨g',cap',cur,hv,hb,hrest⟩
 ·exact .inl h2
 ·exact .inr ⟨g',cap',cur,hv,Nat.le_trans hB hb,hrest⟩
theorem u_more {u:World} {B c:Nat} {A:Option Addr} {P:List Nat} (h:OwnU u B A c P) (n:Nat) (hn:n=P.length) (hl:n≤1000) (v:Nat) (q:Nat) (hBu:B≤u.heap.size) (hq:Blk u q 39 #[.int .u64 (v:Nat)]) :
  ∃ A2 c2 u',(Builtin.append_ #[52,52] 52 #[.slice A n c,.slice (some ⟨q,0,none⟩) 1 1]).run Tryz.prog u=.ok (.slice A2 (n + 1) c2) u' ∧
   OwnU u' B A2 c2 (P ++ [v])∧u.grownBy u' (blk A):=by
 subst hn
 obtain ⟨i0,hi,hz0,hz1,hz2⟩:=info_parts Tryz.infoU
 obtain ⟨v',w',hrun,hown,hgr,_,_⟩:=run_append_own_at (P:=Tryz.prog) u B 52 52 39 i0 _ 1 8 Tryz.underlying52 hi hz0 hz1 hz2 rfl (by omega) (.slice A P.length c) P.length (uV P) h ⟨q,0,none⟩ 1 1 [.int .u64 (v:Nat)] rfl
  (fun j v hv => by
   have:=hq.cell j
   have e:(⟨q,0,none⟩:Addr).add j=⟨q,j,none⟩:=by
    simp [Addr.add]
    try omega
   rw [e,this]
   rw [List.getElem?_toArray]; exact hv)
  (fun v hv => by simp at hv; subst hv; rfl) (by simp only [maxLen]; omega) (by omega) hBu
 obtain ⟨g2,c2,rfl⟩:=Joins.ownsRow_form hown (by omega)
 rw [ownBlock_slice] at hgr
 refine ⟨some ⟨g2,0,none⟩,c2,w',hrun,?_,hgr⟩
 unfold OwnU
 rw [List.length_append,show uV (P ++ [v])=uV P ++ [.int .u64 (v:Nat)] by unfold uV; simp]
 exact hown
def ixsF:Nat→List IT→List (Nat × IT)
 | _,[] => []
 | k,x :: l => (k,x) :: ixsF (k + 1) l
def ixs (L:List IT):List (Nat × IT):=ixsF 0 L
theorem ixsF_len:∀ (L:List IT) (k:Nat),(ixsF k L).length=L.length
 | [],_ => rfl
 | x :: l,k => by simp [ixsF,ixsF_len l]
theorem ixsF_at:∀ (L:List IT) (k i:Nat) (h:i < L.length),(ixsF k L)[i]?=some (k + i,L[i]'h)
 | x :: l,k,0,_ => rfl
 | x :: l,k,i + 1,h => by
  have:=ixsF_at l (k + 1) i (by simpa using h)
  simp only [ixsF,List.getElem?_cons_succ,List.getElem_cons_succ]
  rw [this]; congr 2; omega
theorem ixsF_snd:∀ (L:List IT) (k:Nat),(ixsF k L).map (·.2)=L
 | [],_ => rfl
 | x :: l,k => by simp [ixsF,ixsF_snd l]
theorem ixs_take (L:List IT) (i:Nat) (h:i < L.length):(ixs L).take (i + 1)=(ixs L).take i ++ [(i,L[i]'h)]:=by
 have:=ixsF_at L 0 i h
 rw [Nat.zero_add] at this
 unfold ixs
 rw [List.take_add_one,this]; rfl
theorem ixs_tlen (L:List IT) (i:Nat) (h:i≤L.length):((ixs L).take i).length=i:=by
 unfold ixs; rw [List.length_take,ixsF_len]; omega
structure VI (w:World) (pre:List (Nat × IT)) (W:World):Prop where
 be:Below w.heap.size w W
 sz:w.heap.size + 1≤W.heap.size
 ls:∃ A2 c2,Blk W w.heap.size 52 #[.slice A2 pre.length c2]∧OwnU W (w.heap.size + 1) A2 c2 (pre.map fun x => x.2.v)
theorem VI.bel {w W W':World} {pre:List (Nat × IT)} (h:VI w pre W) (hb:Below W.heap.size W W'):VI w pre W':=by
 obtain ⟨A2,c2,h1,h2⟩:=h.ls
 exact ⟨bt h.be hb,Nat.le_trans h.sz hb.size,A2,c2,h1.below hb h1.lt,h2.grown (lbelow_grown hb none) (fun r e => by cases e)⟩
theorem VI.put {w W:World} {pre:List (Nat × IT)} {l:Nat} {o o':Obj} (h:VI w pre W) (hl:w.heap.size≤l) (ho:W.heap[l]?=some o) (hc:o.isCells=false):VI w pre (W.putObj l o'):=by
 obtain ⟨A2,c2,h1,h2⟩:=h.ls
 refine ⟨?_,by rw [World.putObj_size]; exact h.sz,A2,c2,?_,?_⟩
 ·exact h.be.grown (grownBy_putObj' W l o') h.be.size (fun r e => by cases e; exact hl)
 ·exact (World.putObj_heap_other (fun e => by subst e; unfold Blk at h1; rw [h1] at ho; cases ho; cases hc)).trans h1
 ·exact ownsRow_putObj h2 o' ho hc
end Go.Proofs.YtlliaihmfimdoaaGreat.Qu


namespace Go.Proofs.YtlliaihmfimdoaaGreat.Qu
open Go.RowKit Go.Shelf Go.Maps
attribute [local go_sem] Oper.semAt_some
set_option maxRecDepth 100000 in
set_option maxHeartbeats 4000000 in
theorem values_any (g of:Nat) (tt:TypeId) (cs:Array Value) (S:QS) (N:Nat) (w:World) (h:QAt w g of tt cs S N) :
  Calls Tryz.prog 49 #[.pointer (some ⟨g,of,none⟩)] w fun e w' => ∃ A c,e=.returned (.slice A S.I.length c)∧OwnU w' w.heap.size A c (S.I.map IT.v)∧Below w.heap.size w w':=by
 obtain ⟨A0,n0,c0,i1,i2,i3,i4,i5⟩:=h.it
 have hn16:n0≤48:=by have:=h.iv.room; omega
 have HC0:=Lib.hid (fun u (hb:Below w.heap.size w u) => ((h.below hb).bk.cell of).trans i1)
 have HI:=Lib.hid (fun u (hb:Below w.heap.size w u) => i5.below hb)
 have HL:=Lib.hid i2
 obtain ⟨L,hL⟩:∃ L,L=S.I:=⟨_,rfl⟩
 rw [← hL] at HI HL ⊢
 clear h i1 i2 i5 hL
 refine (callsIn_wide (n:=9)).1 ?_
 refine callsIn_of_wp_marks Tryz.func49 rfl trivial ?_ rfl
 simp only [Tryz.ntmps49,List.size_toArray,List.length_cons,List.length_nil,Nat.reduceAdd,Nat.reduceSub,Array.replicate_succ,Array.replicate_zero,List.push_toArray,List.append_toArray,List.nil_append,List.cons_append]
 gi_wp2_with fail
 obtain ⟨w5,hw5⟩:∃ w5,w5=w.alloc (.cells #[.slice none 0 0] 52):=⟨_,rfl⟩
 have h5:VI w [] w5:=⟨by rw [hw5]; exact ba _ _,by rw [hw5]; simp,none,0,by rw [hw5]; exact Blk.new _ _ _,OwnU.nil _ _⟩
 have hs5:w.heap.size≤w5.heap.size:=h5.be.size
 rw [← hw5]
 have HW5:=Lib.hid hw5
 clear hw5
 refine wpIn_rangeFunc_leaveM (F:=Fence.wide) rfl (by omega) (gf:=96) (rb:=#[.pointer (some ⟨g,of,none⟩)]) (lb:=#[]) rfl trivial (enters_of Tryz.func96 (by kernel_rfl) rfl)
  (encs:=encI) (fun _ => rfl) (fun _ _ => True) (VI w) (fun _ _ _ => False) (fun pre x _ => True) (fun xs => xs=ixs L) (fun _ => True) 49
  (fun _ _ => trivial) (fun _ _ _ _ _ _ _ => trivial)
  (fun s W l o o' hi hl ho hc => hi.put (Nat.le_trans hs5 hl) ho hc) (fun _ _ _ _ _ _ hi _ _ _ => hi)
  (fun o o' => (h5.bel (ba _ _)).bel (ba _ _))
  ?iter (fun pre x a' W => ∃ t5,Blk W t5 152 #[.int .i64 x.2.n,.int .u64 (x.2.v:Nat),.int .i64 x.2.t]∧t5≠w.heap.size∧a'={ tmps:=#[.pointer (some ⟨g,of,none⟩),undef,.slice none 0 0,.pointer (some ⟨w.heap.size,0,none⟩),undef,.pointer (some ⟨t5,0,none⟩),.pointer (some ⟨g,of,none⟩),.bool false,.pointer (some ⟨g,of,none⟩),.func (.func 96) #[.pointer (some ⟨g,of,none⟩)] #[],.int .i64 x.1,.agg #[.int .i64 x.2.n,.int .u64 (x.2.v:Nat),.int .i64 x.2.t],undef,undef,undef,undef,undef,undef],defers:=[] })
  (fun pre x a' W l o o' h hl ho hc => by
   obtain ⟨t5,h1,h2,h3⟩:=h
   exact ⟨t5,(World.putObj_heap_other (fun e => by subst e; unfold Blk at h1; rw [h1] at ho; cases ho; cases hc)).trans h1,h2,h3⟩) ?assign ?body ?done ?stop
 case iter =>
  intro l W1 Z Y hZK hb1 hI1 hz1 hYY
  refine (each_in 8 (by omega) l g of A0 L n0 c0 HL (by omega) (fun i W => VI w ((ixs L).take i) W∧Z W∧i≤L.length) (fun i W => Y ((ixs L).take (i + 1)) W)
   (fun s Wa Wb hb hh => ⟨hh.1.bel hb,hZK _ _ (keepsOthers_below hb) hh.2.1,hh.2.2⟩) (fun s Wa hh => HI.out Wa hh.1.be) ?_ W1 (HC0.out W1 hI1.be) ⟨hI1,hz1,Nat.zero_le _⟩).mono ?_
  ·intro i hi Wa hh
   have:=hYY ((ixs L).take i) (i,L[i]'hi) Wa hh.1 hh.2.1 trivial (by rw [ixs_tlen L i (by omega)]; have:=HL.out; omega)
   rw [← ixs_take L i hi] at this
   refine YieldAt.mono this fun e W' hr => ?_
   rcases hr with ⟨h1,h2,h3,_⟩ | hr
   ·exact .inl ⟨h1,h2,h3,by omega⟩
   ·exact .inr hr
  ·rintro e W' ⟨hv,(⟨h1,h2,_⟩ | ⟨i,hi,hy⟩)⟩
   ·exact ⟨hv,.inl ⟨ixs L,rfl,by rw [List.take_of_length_le (by unfold ixs; rw [ixsF_len]; exact Nat.le_refl _)] at h1; exact h1,h2⟩⟩
   ·exact ⟨hv,.inr ⟨_,trivial,hy⟩⟩
 case assign =>
  rintro l pre x W K hi _ hK
  obtain ⟨xi,xn,xv,xt⟩:=x
  simp [encI,IT.val]
  gi_wp2_with fail
  refine hK _ _ (KeepsOthers.alloc _ _) trivial (hi.bel (ba _ _)) ⟨_,Blk.new _ _ _,by have:=hi.sz; omega,rfl⟩
 case body =>
  rintro l pre x a' W hl _ hi ⟨t5,h1,h2,rfl⟩ hlen
  obtain ⟨xi,xn,xv,xt⟩:=x
  dsimp only at h1
  obtain ⟨A2,c2,k2,own2⟩:=hi.ls
  obtain ⟨Wb,hWb⟩:∃ Wb,Wb=W.alloc (.cells #[.int .u64 (xv:Nat)] 39):=⟨_,rfl⟩
  have bb:Below W.heap.size W Wb:=by rw [hWb]; exact ba _ _
  have kb:Blk Wb W.heap.size 39 #[.int .u64 (xv:Nat)]:=by rw [hWb]; exact Blk.new _ _ _
  have ownb:=own2.grown (lbelow_grown bb none) (fun r e => by cases e)
  obtain ⟨pl,hpl⟩:∃ pl,pl=pre.length:=⟨_,rfl⟩
  rw [← hpl] at k2
  obtain ⟨A3,c3,w8,hrun,own3,g8⟩:=u_more ownb pl (by rw [List.length_map,hpl]) (by omega) xv W.heap.size (by have:=bb.size; have:=hi.sz; omega) kb
  have kv8:=(k2.below bb k2.lt).kept g8 (fun e => by have:=(ownb.lt' _ e.symm).1; have:w.heap.size + 1≤w.heap.size:=this; omega)
  have e0:=k2.cell 0
  have e1:=h1.cell 1
  have e8:=kv8.cell 0
  have f8:=kv8.frozen 0
  simp only [List.getElem?_toArray,List.getElem?_cons_zero,List.getElem?_cons_succ] at e0 e1 e8
  have hfin:Hid (VI w (pre ++ [(xi,⟨xn,xv,xt⟩)]) (w8.setCell ⟨w.heap.size,0,none⟩ (.slice A3 (pl + 1) c3))∧KeepsOthers W (w8.setCell ⟨w.heap.size,0,none⟩ (.slice A3 (pl + 1) c3))):=Lib.hid (by
   have hb8:Below w.heap.size w w8:=(bt hi.be bb).grown g8 (Nat.le_trans hi.be.size bb.size) (fun r e => by have:=(ownb.lt' r e).1; omega)
   refine ⟨⟨hb8.setCell (p:=⟨w.heap.size,0,none⟩) (Nat.le_refl _) _,?_,A3,c3,?_,?_⟩,?_⟩
   ·have:=hi.sz; have:=bb.size; have:=g8.size; rw [World.size_setCell]; omega
   ·have:=kv8.set_ 0 (.slice A3 (pl + 1) c3)
    rw [List.length_append,← hpl]
    simpa using this
   ·rw [List.map_append]
    exact own3.grown (lgrown_set w8 ⟨w.heap.size,0,none⟩ (.slice A3 (pl + 1) c3)) (fun r e e2 => by cases e; have h9:=(own3.lt' _ e2).1; dsimp only at h9; omega)
   ·refine ((keepsOthers_below bb).trans (KeepsOthers.of_grownBy g8 fun j ob hj hob => ?_)).trans (KeepsOthers.setCell _ _ _)
    rcases ownb.2 with ⟨q1,q2⟩ | ⟨gg,cap,cur,q1,_,q3,_⟩
    ·injection q1 with q1 _ _; rw [q1] at hj; cases hj
    ·injection q1 with q1 _ _; rw [q1] at hj; injection hj with hj; have hj:gg=j:=hj; subst hj; rw [q3] at hob; cases hob; rfl)
  rw [hWb] at hrun
  clear hpl bb kb ownb own2 own3 g8 kv8 hi k2 h1 hWb
  gi_wp2_with (gi_at_builtin; refine wpListIn_append_run (fun _ => trivial) rfl (.tmp 12) (.tmp 15) 52 rfl _ _ _ w8 rfl rfl hrun ?_)
  exact ⟨hfin.out.2,trivial,hfin.out.1⟩
 case done =>
  rintro D xs W hD rfl hi hDd
  obtain ⟨A2,c2,k2,own2⟩:=hi.ls
  have e0:=k2.cell 0
  simp only [List.getElem?_toArray,List.getElem?_cons_zero] at e0
  have hll:(ixs L).length=L.length:=ixsF_len L 0
  have hmm:(ixs L).map (fun x => x.2.v)=L.map IT.v:=by
   conv => rhs; rw [← ixsF_snd L 0]
   rw [List.map_map]; rfl
  rw [hll] at e0
  rw [hmm] at own2
  gi_wp2_with fail
  refine leaves_marks [D] W ((MarksAt.nil W w.heap.size).cons (by omega) hDd (fun E hE => by cases hE)) ⟨_,results_tmp rfl _ _ _,?_⟩
  have hlo:∀ E ∈ [D],w.heap.size≤E:=fun E hE => by rw [List.mem_singleton.1 hE]; omega
  refine ⟨A2,c2,rfl,?_,hi.be.trans (taken_below hlo)⟩
  exact ownsRow_putObj (own2.less (by omega)) _ hDd rfl
 case stop =>
  rintro D cd xs W hD _ hf
  exact hf.elim
end Go.Proofs.YtlliaihmfimdoaaGreat.Qu

