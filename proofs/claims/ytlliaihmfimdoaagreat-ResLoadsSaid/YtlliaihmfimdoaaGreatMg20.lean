/- Parts Q6 of one proof. -/
import Derived.Test.YtlliaihmfimdoaaGreatMg19
import Derived.StillTailTactics
import Derived.BigQuiet
set_option linter.unusedSimpArgs false
set_option linter.unusedVariables false
namespace Go.Proofs.YtlliaihmfimdoaaGreat.Qu
open Go.RowKit Go.Maps Go.Deep
def dueQ (left:Lit→Bool):List WQ→Nat
 | [] => 0
 | y :: r => (if left (litI y.n) then 0 else putsL y.l) + dueQ left r
theorem dueQ_all {left:Lit→Bool}:∀ (ws:List WQ),(∀ y ∈ ws,left (litI y.n)=true)→dueQ left ws=0
 | [],_ => rfl
 | y :: r,h => by
  unfold dueQ
  rw [if_pos (h y (by simp)),dueQ_all r fun z hz => h z (by simp [hz])]
theorem dueQ_none {left:Lit→Bool} (h:∀ kl,left kl=false):∀ (ws:List WQ),dueQ left ws=putsW ws
 | [] => rfl
 | y :: r => by
  unfold dueQ
  rw [putsW_cons,dueQ_none h r,h (litI y.n)]
  rfl
theorem dueQ_le {left:Lit→Bool}:∀ (ws:List WQ),dueQ left ws≤putsW ws
 | [] => Nat.le_refl _
 | y :: r => by
  unfold dueQ
  rw [putsW_cons]
  have:=dueQ_le (left:=left) r
  split <;> omega
theorem sameKey_litI (a b:Int):(litI a).sameKey (litI b)=decide (a=b):=by
 unfold litI Lit.sameKey
 by_cases e:a=b
 ·simp [e]
 ·simp [e]
theorem dueQ_other {left:Lit→Bool} {k:Int}:∀ (ws:List WQ),(∀ y ∈ ws,y.n≠k)→dueQ (fun z => left z && !z.sameKey (litI k)) ws=dueQ left ws
 | [],_ => rfl
 | y :: r,h => by
  unfold dueQ
  rw [dueQ_other r fun z hz => h z (by simp [hz]),sameKey_litI,decide_eq_false (h y (by simp))]
  simp
theorem dueQ_step {left:Lit→Bool} {y:WQ}:∀ (ws:List WQ),ws.Pairwise (fun a b => a.n≠b.n)→y ∈ ws→left (litI y.n)=true→dueQ (fun z => left z && !z.sameKey (litI y.n)) ws=dueQ left ws + putsL y.l
 | [],_,h,_ => by cases h
 | a :: r,hd,h,hl => by
  rw [List.pairwise_cons] at hd
  unfold dueQ
  rcases List.mem_cons.1 h with rfl | h
  ·rw [dueQ_other r fun z hz e => hd.1 z hz e.symm,sameKey_litI,decide_eq_true rfl,hl]
   simp
   omega
  ·rw [dueQ_step r hd.2 h hl,sameKey_litI,decide_eq_false (hd.1 y h)]
   simp
   omega
def roomQ (S:QS):Int:=min (16 - (S.I.length:Int) - (putsW S.ws:Int)) (4611686018427387904 - (S.g + 1) - (putsW S.ws:Int))
theorem min_int (a b:Int):min a b=if a≤b then a else b:=by rw [Int.min_def]
set_option maxRecDepth 1000000 in
set_option maxHeartbeats 4000000 in
theorem room_any (g of:Nat) (tt:TypeId) (cs:Array Value) (S:QS) (N:Nat) (w:World) (h:QAt w g of tt cs S N) (hN:N < 900000) :
  Calls Tryz.prog 120 #[.pointer (some ⟨g,of,none⟩)] w fun e w' => e=.returned (.int .i64 (roomQ S))∧Below w.heap.size w w':=by
 obtain ⟨m,G,h4,h5,h6⟩:=h.wk
 have c32:=(h.bk.cell (of + 2)).trans h4
 -- the end
 have hend:∀ (wr:World),Below w.heap.size w wr→True:=fun _ _ => trivial
 obtain ⟨A0,n0,c0,i1,i2,i3,i4,i5⟩:=h.it
 obtain ⟨pz,hpz⟩:∃ pz,pz=putsW S.ws:=⟨_,rfl⟩
 have hp16:n0 + pz≤48:=by have:=h.iv.room; omega
 have hg0:=h.iv.g0
 have hgl:=h.iv.last
 rw [← hpz] at hgl
 have x1:IntKind.i64.wrap (16 - (n0:Int))=16 - (n0:Int):=IntWalk.i64_in _ (by omega)
 have x2:IntKind.i64.wrap (16 - (n0:Int) - (pz:Int))=16 - (n0:Int) - (pz:Int):=IntWalk.i64_in _ (by omega)
 have x3:IntKind.i64.wrap (4611686018427387904 - (S.g + 1))=4611686018427387904 - (S.g + 1):=IntWalk.i64_in _ (by omega)
 have x4:IntKind.i64.wrap (4611686018427387904 - (S.g + 1) - (pz:Int))=4611686018427387904 - (S.g + 1) - (pz:Int):=IntWalk.i64_in _ (by omega)
 have HR:Hid (roomQ S=min (16 - (n0:Int) - (pz:Int)) (4611686018427387904 - (S.g + 1) - (pz:Int))):=Lib.hid (by unfold roomQ; rw [← i2,← hpz])
 have HNX:=Lib.hid (fun u (hb:Below w.heap.size w u) => next_any g of tt cs S N u (h.below hb))
 have HC0:=Lib.hid (fun u (hb:Below w.heap.size w u) => ((h.below hb).bk.cell of).trans i1)
 rcases h5 with ⟨rfl,hG⟩ | ⟨b,D,rfl,hown,hRd⟩
 ·have hws:S.ws=[]:=by
   rcases hw:S.ws with _ | ⟨y,r⟩
   ·rfl
   ·have h7:=(h6 y.n).2
    have:lookQ S.ws y.n=some (y.l,y.p):=by rw [hw]; unfold lookQ; rw [findQ_cons,if_pos rfl]; rfl
    obtain ⟨A,n,c,e,_⟩:=h7 _ _ this
    rw [hG] at e; cases e
  have hp0:pz=0:=by rw [hpz,hws]; rfl
  subst hp0
  have hrg:=run_range_nilMap (P:=Tryz.prog) w 97 3 143 Tryz.underlying97
  have hnx:∀ ty,(Instr.next (.pointer (some ⟨w.heap.size,0,none⟩)) false ty).run Tryz.prog (w.alloc (.mapIter none 0 #[] 0))=_:=fun ty => run_next_nilMap w ty 0 0 #[]
  clear h h4 h6 hws hpz i1 i2 i5 hG hend
  go_enter Tryz.func120,Tryz.ntmps120
  go_wp2
  refine wp_loop_rounds 1 ?_
  rw [rounds_succ]
  go_wp2_with fail
  have hbb:Below w.heap.size w (w.alloc (.mapIter none 0 #[] 0)):=ba _ _
  obtain ⟨wr,hwr⟩:∃ wr,wr=w.alloc (.mapIter none 0 #[] 0):=⟨_,rfl⟩
  rw [← hwr] at hbb ⊢
  have HBB:=Lib.hid hbb
  have HNq:=Lib.hid (fun nq:Nat => HNX.out (wr.drewN nq) ⟨HBB.out.os,HBB.out.tape,HBB.out.output,HBB.out.size,HBB.out.block⟩)
  have C0:=fun nq:Nat => (show (wr.drewN nq).cell? ⟨g,of,none⟩=some (.slice A0 n0 c0) from HC0.out wr HBB.out)
  clear hbb hwr hrg hnx c32
  go_quiet (first | (go_at_call 50; exact Calls.quiet_of_same ((HNq.out _).mono fun e w' h => And.intro h.1 h.2.symm)))
  go_wp2
  all_goals
   go_ret
   refine ⟨?_,bt HBB.out ⟨rfl,rfl,rfl,Nat.le_refl _,fun _ _ => rfl⟩⟩
   rw [HR.out,min_int]
   first
    | (rw [if_pos (by omega)]; simp; done)
    | (rw [if_neg (by omega)]; simp; done)
    | (rw [if_pos (by omega)]; rfl)
    | (rw [if_neg (by omega)]; rfl)
 ·have HS:=Lib.hid (And.intro h (And.intro h6 (And.intro hown hRd)))
  have HP:=Lib.hid hpz
  have hok:∀ y ∈ S.ws,i64ok y.n:=fun y hy => (h.le y hy).2
  have hstart:Hid (dueQ (Maps.has D) S.ws=0):=Lib.hid (dueQ_all _ fun y hy => by
   rw [hRd.has y.n (hok y hy)]
   obtain ⟨A,n,c,e,_⟩:=(h6 y.n).2 y.l y.p (by unfold lookQ; rw [findQ_of h.nd hy]; rfl)
   rw [e]; rfl)
  have hgl2:=h.lt
  clear h h4 h6 hok i1 i2 i5 hend hpz
  go_enter Tryz.func120,Tryz.ntmps120
  go_wp2_with (first
   | (at_range; refine wpList_range_own _ rfl _ 97 rfl 3 143 lawI Tryz.underlying97 _ b N _ rfl hown ?_; intro w0 hrg0 hg0' hs0)
   | go_in)
  go_frame
  go_loopw [3] (fun i wr => ∃ (k0 cnt:Nat) (left:Lit→Bool),i=.int .i64 k0∧k0≤48∧Hid (wr.ranges Tryz.prog 3 (asIf isWork) b w.heap.size N D left cnt∧k0=dueQ left S.ws∧Below w.heap.size w wr)) (fun _ wr => wr.rangeLeft b w.heap.size)
  case atStart => exact ⟨0,_,_,rfl,by omega,Lib.hid ⟨hrg0,hstart.out.symm,lgrown_below hg0'⟩⟩
  case round =>
   clear hrg0 hg0' hs0 hown hRd
   obtain ⟨k0,cnt,left,rfl,hk0,HR2⟩:=hrel
   have hrg:=HR2.out.1
   go_wp2_with (first
    | (at_next; refine wpList_next_work _ rfl _ rfl b w.heap.size N _ _ _ rfl hrg ?_ ?_)
    | go_in)
   ·intro hc0 hl0
    obtain rfl:k0=pz:=by rw [HR2.out.2.1,dueQ_none hl0,HP.out]
    have HBB:=Lib.hid HR2.out.2.2
    have HNq:=Lib.hid (fun nq:Nat => HNX.out (wr.drewN nq) ⟨HBB.out.os,HBB.out.tape,HBB.out.output,HBB.out.size,HBB.out.block⟩)
    have C0:=fun nq:Nat => (show (wr.drewN nq).cell? ⟨g,of,none⟩=some (.slice A0 n0 c0) from HC0.out wr HBB.out)
    clear hrg HR2
    go_wp2_with fail
    go_quiet (first | (go_at_call 50; exact Calls.quiet_of_same ((HNq.out _).mono fun e w' h => And.intro h.1 h.2.symm)))
    go_wp2
    all_goals
     go_ret
     refine ⟨?_,bt HBB.out ⟨rfl,rfl,rfl,Nat.le_refl _,fun _ _ => rfl⟩⟩
     rw [HR.out,min_int]
     first
      | (rw [if_pos (by omega)]; simp; done)
      | (rw [if_neg (by omega)]; simp; done)
      | (rw [if_pos (by omega)]; rfl)
      | (rw [if_neg (by omega)]; rfl)
   ·intro k x w1 cnt1 hc hen
    obtain ⟨h,h6,hown,hRd⟩:=HS.out
    -- the work
    have hat:=hc.at_
    obtain ⟨y,hy,hyn⟩:∃ y,findQ S.ws k=some y∧y.n=k:=by
     rcases hf:findQ S.ws k with _ | y
     ·exfalso
      have h1:=(h6 k).1 (by unfold lookQ; rw [hf]; rfl)
      have hh:=hRd.has k hc.ok
      rw [h1] at hh
      have h2:=hat (.lit (.bool true))
      rw [atKey_of_not_has hh] at h2
      cases h2
     ·exact ⟨y,rfl,(findQ_mem hf).2⟩
    obtain ⟨A,n,c,hG,hn,hcl⟩:=(h6 k).2 y.l y.p (by unfold lookQ; rw [hy]; rfl)
    have hx:x.val=.agg #[.slice A n c,.bool y.p]:=by
     have h1:=hRd.at_ k _ hc.ok hG (.held x.val)
     rw [hat] at h1
     injection h1
    obtain ⟨xA,xn,xc,xp⟩:=x
    have hx2:xA=A∧xn=n∧xc=c∧xp=y.p:=by
     have h1:=congrArg (fun v:Value => match v with | .agg cs => cs.toList | _ => []) hx
     simp [WkV.val] at h1
     exact ⟨h1.1.1,h1.1.2.1,h1.1.2.2,h1.2⟩
    obtain ⟨rfl,rfl,rfl,rfl⟩:=hx2
    have hy2:=(findQ_mem hy).1
    have hstep:=dueQ_step S.ws h.nd hy2 (by rw [hyn]; exact hc.lf)
    rw [hyn] at hstep
    have hb1:=HR2.out.2.2.grown hc.gr HR2.out.2.2.size (fun r e => by cases e; exact Nat.le_refl _)
    obtain ⟨w2,hw2⟩:∃ w2,w2=w1.alloc (.cells #[.slice xA xn xc,.bool y.p] 143):=⟨_,rfl⟩
    have hb2:Below w1.heap.size w1 w2:=by rw [hw2]; exact ba _ _
    have kk:Blk w2 w1.heap.size 143 #[.slice xA xn xc,.bool y.p]:=by rw [hw2]; exact Blk.new _ _ _
    have hB2:=bt hb1 hb2
    have hrg2:=hc.rg.kept (lbelow_grown hb2 none) (by simp) (by simp)
    have hlen:=(h.le y hy2).1
    have HPu:=Lib.hid (puts_any xA y.l xn xc w2 (Lib.hid hn) (by omega) (hcl.below hB2).inl)
    have d0:=kk.cell 0
    simp only [List.getElem?_toArray,List.getElem?_cons_zero] at d0
    obtain ⟨pq,hpq⟩:∃ pq,pq=putsL y.l:=⟨_,rfl⟩
    rw [← hpq] at hstep HPu
    have hk16:k0 + pq≤48:=by
     have h1:=dueQ_le (left:=fun z => left z && !z.sameKey (litI k)) S.ws
     rw [hstep,← HR2.out.2.1] at h1
     have:=h.iv.room
     omega
    have HN2:Hid (∀ u,Below w2.heap.size w2 u→u.ranges Tryz.prog 3 (asIf isWork) b w.heap.size N D (fun z => left z && !z.sameKey (litI k)) cnt1∧k0 + pq=dueQ (fun z => left z && !z.sameKey (litI k)) S.ws∧Below w.heap.size w u):=Lib.hid (fun u hu => ⟨hrg2.kept (lbelow_grown hu none) (by simp) (by simp),by rw [hstep,← HR2.out.2.1],bt hB2 hu⟩)
    have HLt:=Lib.hid (And.intro hc.lt hrg)
    have HW2:=Lib.hid hw2
    have hww:IntKind.i64.wrap ((k0:Int) + (pq:Int))=((k0 + pq:Nat):Int):=by rw [IntWalk.i64_in _ (by omega)]; push_cast; rfl
    rw [hw2] at d0
    clear h h6 hown hRd hat hy hyn hG hn hcl hx hy2 hstep hb1 hb2 kk hB2 hrg2 hlen hw2 hpq hc hrg HR2
    go_wp2_with fail
    rw [← HW2.out]
    refine HPu.out.mono ?_
    rintro e w3 ⟨rfl,b3⟩
    have HN3:=Lib.hid (HN2.out w3 b3)
    clear b3 d0
    go_wp2
    go_roundw
    case rel => exact ⟨k0 + pq,cnt1,_,by go_num,hk16,HN3⟩
    case measure => rw [HN3.out.1.left_eq,HLt.out.2.left_eq]; exact HLt.out.1
end Go.Proofs.YtlliaihmfimdoaaGreat.Qu

