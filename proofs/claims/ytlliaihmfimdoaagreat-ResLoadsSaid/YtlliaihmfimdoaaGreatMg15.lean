/- Parts Bv Bt Bw By of one proof. -/
import Derived.Test.YtlliaihmfimdoaaGreatMg14
set_option linter.unusedSimpArgs false
set_option linter.unusedVariables false
namespace Go.Proofs.YtlliaihmfimdoaaGreat
open Go.RowKit Go.Maps Go.Joins Go.Deep
theorem Tryz.infoPr:(Tryz.prog.info? 114).map (fun i => (i.zero,i.size,i.bytes))=some (some (.agg #[.int .i64 0,.int .u64 0]),2,16):=by kernel_rfl
theorem pr_more {u:World} {B c:Nat} {A:Option Addr} {P:List (Int × Nat)} (h:OwnPr u B A c P) (n:Nat) (hn:n=P.length) (hl:n≤1000) (k:Int) (v:Nat) (q:Nat) (hBu:B≤u.heap.size)
  (hq:Blk u q 114 #[.int .i64 k,.int .u64 (v:Nat)]) :
  ∃ A2 c2 u',(Builtin.append_ #[26,26] 26 #[.slice A n c,.slice (some ⟨q,0,none⟩) 1 1]).run Tryz.prog u=.ok (.slice A2 (n + 1) c2) u' ∧
   OwnPr u' B A2 c2 (P ++ [(k,v)])∧u.grownBy u' (blk A):=by
 subst hn
 obtain ⟨i0,hi,hz0,hz1,hz2⟩:=info_parts Tryz.infoPr
 have hlen:∀ P:List (Int × Nat),(prV P).length=P.length * 2:=fun P => by
  induction P with
  | nil => rfl
  | cons o P ih => unfold prV at ih ⊢; rw [List.flatMap_cons,List.length_append,ih]; simp; omega
 obtain ⟨v',w',hrun,hown,hgr,_,_⟩:=run_append_own_at (P:=Tryz.prog) u B 26 26 114 i0 _ 2 16 Tryz.underlying26 hi hz0 hz1 hz2 rfl (by omega) (.slice A P.length c) P.length (prV P) h ⟨q,0,none⟩ 1 1 [.int .i64 k,.int .u64 (v:Nat)] rfl
  (fun j v hv => by
   have:=hq.cell j
   have e:(⟨q,0,none⟩:Addr).add j=⟨q,j,none⟩:=by
    simp [Addr.add]
    try omega
   rw [e,this]
   rw [List.getElem?_toArray]; exact hv)
  (fun v hv => by simp at hv; rcases hv with rfl | rfl <;> rfl) (by simp only [maxLen]; omega) (by omega) hBu
 obtain ⟨g2,c2,rfl⟩:=Joins.ownsRow_form hown (by omega)
 rw [ownBlock_slice] at hgr
 refine ⟨some ⟨g2,0,none⟩,c2,w',hrun,?_,hgr⟩
 unfold OwnPr
 rw [List.length_append,show prV (P ++ [(k,v)])=prV P ++ [.int .i64 k,.int .u64 (v:Nat)] by unfold prV; simp]
 exact hown
def othersP (P:List (Int × Nat)) (y:Int):List (Int × Nat):=P.filter fun x => decide (x.1≠y)
def setPr (P:List (Int × Nat)) (c:Ch):List (Int × Nat):=if c.k=1 then othersP P c.y ++ [(c.y,c.v)] else othersP P c.y
theorem othersP_snoc {P:List (Int × Nat)} {n:Int} {j:Nat} (hj:j < P.length):othersP (P.take (j + 1)) n=if (P[j]'hj).1=n then othersP (P.take j) n else othersP (P.take j) n ++ [P[j]'hj]:=by
 unfold othersP
 rw [List.take_add_one,List.getElem?_eq_getElem hj,List.filter_append]
 split
 ·rename_i h; simp [h]
 ·rename_i h; simp [h]
end Go.Proofs.YtlliaihmfimdoaaGreat


namespace Go.Proofs.YtlliaihmfimdoaaGreat
open Go.RowKit Go.Maps
theorem are_of_right:∀ (l:List Ch) (s:Nat→Bool),RightL l→(∀ x ∈ l,s x.y.toNat=false)→areB s l=true
 | [],s,_,_ => rfl
 | x :: l,s,h,hs => by
  have hp:=List.pairwise_cons.1 h.2
  have hx:=h.1 x (List.mem_cons_self ..)
  unfold areB
  rw [hx.1,hx.2,hs x (List.mem_cons_self ..),are_of_right l _ ⟨fun z hz => h.1 z (List.mem_cons_of_mem _ hz),hp.2⟩ (fun z hz => ?_)]
  ·rfl
  ·unfold updS
   have h1:=key_bd (h.1 z (List.mem_cons_of_mem _ hz)).2
   have h2:=key_bd hx.2
   have h3:=hp.1 z hz
   rw [if_neg (by omega)]
   exact hs z (List.mem_cons_of_mem _ hz)
theorem RightL.len {l:List Ch} (h:RightL l):l.length≤16:=by
 have hn:(l.map fun x => x.y.toNat).Nodup:=by
  unfold List.Nodup
  rw [List.pairwise_map]
  exact (List.pairwise_iff_getElem.2 fun i j hi hj hij => by
   have h1:=key_bd (h.1 _ (List.getElem_mem hi)).2
   have h2:=key_bd (h.1 _ (List.getElem_mem hj)).2
   have h3:=List.pairwise_iff_getElem.1 h.2 i j hi hj hij
   omega)
 have:=nodup_le _ (List.range 16) hn (fun x hx => by
  obtain ⟨z,hz,rfl⟩:=List.mem_map.1 hx
  have h1:=key_bd (h.1 z hz).2
  exact List.mem_range.2 (by omega))
 simpa using this
/-! ### a store that is built anew -/
def T0 (V:Nat→Nat × Bool):KS:=⟨anyB,V,fun _ => none,[]⟩
theorem with_new {l:List Ch} {x:Ch} (hd:∀ z ∈ l,z.y≠x.y):withL l x=l ++ [x]:=by
 unfold withL
 rw [if_neg]
 intro hlt
 have:=List.findIdx_getElem (p:=fun z:Ch => decide (z.y=x.y)) (xs:=l) (w:=hlt)
 exact hd _ (List.getElem_mem hlt) (by unfold posN; simpa using this)
/-! ### a value that is not there is nought -/
/-! ### what more a work does -/
end Go.Proofs.YtlliaihmfimdoaaGreat


namespace Go.Proofs.YtlliaihmfimdoaaGreat
open Go.RowKit Go.Maps Go.Joins Go.Deep
structure POk (P:List (Int × Nat)):Prop where
 key:∀ x ∈ P,keyB x.1=true
 ds:P.Pairwise fun a b => a.1≠b.1
theorem POk.len {P:List (Int × Nat)} (h:POk P):P.length≤16:=by
 have hn:(P.map fun x => x.1.toNat).Nodup:=by
  unfold List.Nodup
  rw [List.pairwise_map]
  exact (List.pairwise_iff_getElem.2 fun i j hi hj hij => by
   have h1:=key_bd (h.key _ (List.getElem_mem hi))
   have h2:=key_bd (h.key _ (List.getElem_mem hj))
   have h3:=List.pairwise_iff_getElem.1 h.ds i j hi hj hij
   omega)
 have:=nodup_le _ (List.range 16) hn (fun x hx => by
  obtain ⟨z,hz,rfl⟩:=List.mem_map.1 hx
  have h1:=key_bd (h.key z hz)
  exact List.mem_range.2 (by omega))
 simpa using this
theorem POk.set {P:List (Int × Nat)} (h:POk P) {c:Ch} (hc:keyB c.y=true):POk (setPr P c):=by
 have ho:POk (othersP P c.y):=⟨fun x hx => h.key x (List.mem_filter.1 hx).1,h.ds.filter _⟩
 unfold setPr
 split
 ·refine ⟨fun x hx => ?_,?_⟩
  ·rcases List.mem_append.1 hx with hx | hx
   ·exact ho.key x hx
   ·obtain rfl:=List.mem_singleton.1 hx; exact hc
  ·rw [List.pairwise_append]
   refine ⟨ho.ds,List.pairwise_singleton _ _,fun a ha b hb => ?_⟩
   obtain rfl:=List.mem_singleton.1 hb
   have:=(List.mem_filter.1 ha).2
   simpa using this
 ·exact ho
theorem POk.fold:∀ (l:List Ch) (P:List (Int × Nat)),POk P→(∀ c ∈ l,keyB c.y=true)→POk (l.foldl setPr P)
 | [],P,h,_ => h
 | c :: l,P,h,hk => POk.fold l _ (h.set (hk c (List.mem_cons_self ..))) (fun x hx => hk x (List.mem_cons_of_mem _ hx))
def listW (ws:List WI) (n:Int):List Ch:=match findW ws n with | some z => z.l | none => []
def commitR (P:List (Int × Nat)) (ws:List WI) (L:List LRow) (n:Int):Int × List (Int × Nat) × List WI × List LRow:=if n < 1 then (1,P,ws,L) else (0,(listW ws n).foldl setPr P,othersW ws n,dropL L n)
end Go.Proofs.YtlliaihmfimdoaaGreat


namespace Go.Proofs.YtlliaihmfimdoaaGreat
open Go.RowKit Go.Maps
theorem are_iff {l:List Ch}:areB (fun _ => false) l=true ↔ RightL l:=⟨fun h => (are_right l _ h).2,fun h => are_of_right l _ h (fun _ _ => rfl)⟩
theorem are_no {l:List Ch} (h:¬ RightL l):areB (fun _ => false) l=false:=by
 cases ha:areB (fun _ => false) l with
 | false => rfl
 | true => exact absurd (are_iff.1 ha) h
theorem right_take {l:List Ch} {i:Nat} (hi:i < l.length) (h:RightL (l.take i)) (h1:kindB (l[i]'hi)=true) (h2:keyB (l[i]'hi).y=true) (h3:∀ (j:Nat) (z:Ch),j < i→l[j]?=some z→(z.y == (l[i]'hi).y)=false):RightL (l.take (i + 1)):=by
 rw [List.take_add_one,List.getElem?_eq_getElem hi]
 refine ⟨fun z hz => ?_,?_⟩
 ·rcases List.mem_append.1 hz with hz | hz
  ·exact h.1 z hz
  ·obtain rfl:=List.mem_singleton.1 hz
   exact ⟨h1,h2⟩
 ·rw [List.pairwise_append]
  refine ⟨h.2,List.pairwise_singleton _ _,fun a ha b hb => ?_⟩
  obtain rfl:=List.mem_singleton.1 hb
  obtain ⟨j,hj,rfl⟩:=List.mem_iff_getElem.1 ha
  rw [List.length_take] at hj
  have:=h3 j (l[j]'(by omega)) (by omega) (List.getElem?_eq_getElem (by omega))
  rw [List.getElem_take]
  simpa using this
set_option maxRecDepth 100000 in
set_option maxHeartbeats 8000000 in
theorem rright_any (A:Option Addr) (l:List Ch) (n c:Nat) (w:World) (hn:Hid (n=l.length)) (hm:n≤1000000) (h:InL w A l) :
  Calls Tryz.prog 135 #[.slice A n c] w fun e w' => e=.returned (.bool (areB (fun _ => false) l))∧Below w.heap.size w w':=by
 obtain ⟨R,hRd⟩:∃ R,R=areB (fun _ => false) l:=⟨_,rfl⟩
 have HI:Hid (Below w.heap.size w w∧InL w A l∧RightL (l.take 0)):=Lib.hid ⟨Below.refl _ _,h,RightL.nil⟩
 have HRD:=Lib.hid hRd
 rw [← hRd]
 clear h hRd
 go_enter Tryz.func135,Tryz.ntmps135
 go_wp2_with fail
 go_loopw [3] (fun i wr => ∃ (i0:Nat),i0≤n∧i=.int .i64 i0∧Hid (Below w.heap.size w wr∧InL wr A l∧RightL (l.take i0))) (fun i _ => n - (intOf i).toNat)
 case atStart => exact ⟨0,Nat.zero_le _,rfl,HI⟩
 case round =>
  clear HI
  obtain ⟨i0,hi,rfl,HW⟩:=hrel
  by_cases hin:i0 < n
  ·have hiI:(i0:Int) < (n:Int):=by omega
   obtain ⟨hb,hc,hrt⟩:=HW.out
   have hil:i0 < l.length:=by rw [← hn.out]; exact hin
   obtain ⟨b,o,rfl,hbk,hcs⟩:=hc (by omega)
   obtain ⟨q0,q1,q2⟩:=hcs i0 hil
   have hstep:=right_take hil hrt
   have hmem:RightL l→kindB (l[i0]'hil)=true∧keyB (l[i0]'hil).y=true:=fun h => h.1 _ (List.getElem_mem hil)
   have hdup:∀ (j:Nat) (z:Ch),j < i0→l[j]?=some z→z.y=(l[i0]'hil).y→¬ RightL l:=fun j z hj hz e hR => by
    obtain ⟨hjl,rfl⟩:=List.getElem?_eq_some_iff.1 hz
    exact List.pairwise_iff_getElem.1 hR.2 j i0 hjl hil hj e
   obtain ⟨x,hx⟩:∃ x,x=l[i0]'hil:=⟨_,rfl⟩
   rw [← hx] at q0 q1 q2 hstep hmem hdup
   obtain ⟨kd,y,v⟩:=x
   dsimp only at q0 q1 q2 hstep hmem hdup
   obtain ⟨wA,hwA⟩:∃ wA,wA=wr.alloc (.cells #[.int .i64 kd,.int .i64 y,.int .u64 (v:Nat)] 74):=⟨_,rfl⟩
   have bA:Below wr.heap.size wr wA:=by rw [hwA]; exact ba _ _
   have kA:Blk wA wr.heap.size 74 #[.int .i64 kd,.int .i64 y,.int .u64 (v:Nat)]:=by rw [hwA]; exact Blk.new _ _ _
   have e0:=kA.cell 0
   have e1:=kA.cell 1
   have e2:=kA.cell 2
   simp only [List.getElem?_toArray,List.getElem?_cons_zero,List.getElem?_cons_succ] at e0 e1 e2
   have HWA:=Lib.hid hwA
   have HA:Hid (Below w.heap.size w wA∧InL wA (some ⟨b,o,none⟩) l∧wA.cell? ⟨wr.heap.size,1,none⟩=some (.int .i64 y)):=Lib.hid ⟨bt hb bA,hc.below bA,e1⟩
   have HBB:=Lib.hid (bt hb bA)
   rw [hwA] at e0 e1 e2 HA
   have HM:=Lib.hid (And.intro hmem (And.intro hdup hstep))
   obtain ⟨gA,hgA⟩:∃ gA,gA=wr.heap.size:=⟨_,rfl⟩
   have HgA:=Lib.hid hgA
   clear hb hc hbk hcs hx hil HW hwA bA kA hmem hdup hstep hgA hrt
   have hbad:Hid (kindB ⟨kd,y,v⟩=false∨keyB y=false→R=false):=Lib.hid (fun h => by
    rw [HRD.out]
    refine are_no fun hR => ?_
    have:=HM.out.1 hR
    rcases h with h | h
    ·rw [this.1] at h; cases h
    ·rw [this.2] at h; cases h)
   rcases y0:decide (y < 0) with _ | _
   ·have y0P:¬ y < 0:=of_decide_eq_false y0
    rcases y15:decide (15 < y) with _ | _
    ·have y15P:¬ 15 < y:=of_decide_eq_false y15
     have hky:keyB y=true:=by unfold keyB; simp; omega
     rcases k1:decide (kd < 1) with _ | _
     ·have k1P:¬ kd < 1:=of_decide_eq_false k1
      rcases k2:decide (2 < kd) with _ | _
      ·have k2P:¬ 2 < kd:=of_decide_eq_false k2
       have hkd:kd=1∨kd=2:=by omega
       rcases hkd with rfl | rfl
       ·have hki:kindB ⟨1,y,v⟩=true:=rfl
        go_wp2_with fail
        go_loopw [5] (fun jv wv => ∃ (j:Nat),j≤i0∧jv=.int .i64 j∧Hid (Below w.heap.size w wv∧InL wv (some ⟨b,o,none⟩) l∧wv.cell? ⟨wr.heap.size,1,none⟩=some (.int .i64 y))∧Hid (∀ (k:Nat) (z:Ch),k < j→l[k]?=some z→(z.y == y)=false)) (fun jv _ => i0 - (intOf jv).toNat)
        case atStart => exact ⟨0,Nat.zero_le _,rfl,HA,Lib.hid (fun k z hk => by omega)⟩
        case round =>
         clear HA e0 e1 e2
         obtain ⟨j,hj,rfl,HV,HNO⟩:=hrel
         by_cases hji:j < i0
         ·have hjI:(j:Int) < (i0:Int):=by omega
          have hjn:(j:Int) < (n:Int):=by omega
          have hjl:j < l.length:=by rw [← hn.out]; omega
          obtain ⟨hb,hc,p1⟩:=HV.out
          obtain ⟨b',o',he,_,hcs⟩:=hc (by omega)
          cases he
          obtain ⟨zz1,q1',zz2⟩:=hcs j hjl
          have hlj:l[j]?=some (l[j]'hjl):=List.getElem?_eq_getElem hjl
          obtain ⟨zj,hzj⟩:∃ zj,zj=l[j]'hjl:=⟨_,rfl⟩
          rw [← hzj] at q1' hlj
          obtain ⟨y2,hy2⟩:∃ y2,y2=zj.y:=⟨_,rfl⟩
          rw [← hy2] at q1'
          have HLJ:=Lib.hid (And.intro hlj hy2)
          have d1:=fun m:Nat => cell_drew q1' m
          have d2:=fun m:Nat => cell_drew p1 m
          clear hb hc hcs zz1 zz2 hy2 hzj hlj hjl q0 q1 q2 q1' p1
          rcases hd:(y2 == y) with _ | _
          ·go_wp2_with fail
           go_quiet (fail)
           have hdr:Below wr.heap.size wr (wr.drewN nq):=⟨rfl,rfl,rfl,Nat.le_refl _,fun _ _ => rfl⟩
           have HX:Hid (Below w.heap.size w (wr.drewN nq)∧InL (wr.drewN nq) (some ⟨b,o,none⟩) l∧(wr.drewN nq).cell? ⟨gA,1,none⟩=some (.int .i64 y)):=Lib.hid ⟨bt HV.out.1 hdr,HV.out.2.1.below hdr,by rw [HgA.out]; exact HV.out.2.2⟩
           rw [HgA.out] at HX
           have HNO2:Hid (∀ (k:Nat) (z:Ch),k < j + 1→l[k]?=some z→(z.y == y)=false):=Lib.hid (fun k z hk hz => by
            by_cases e:k=j
            ·subst e
             rw [HLJ.out.1] at hz
             injection hz with hz
             rw [← hz,← HLJ.out.2]
             exact hd
            ·exact HNO.out k z (by omega) hz)
           clear d1 d2 hdr
           go_wp2
           go_roundw
           case rel => exact ⟨j + 1,by omega,by go_num,HX,HNO2⟩
           case measure => simp [intOf]; omega
          ·have HF:Hid (R=false):=Lib.hid (by
            rw [HRD.out]
            have hyy:y2=y:=by simpa using hd
            exact are_no (HM.out.2.1 j zj hji HLJ.out.1 (by rw [← HLJ.out.2]; exact hyy)))
           go_wp2_with fail
           go_quiet (fail)
           have hdr:Below wr.heap.size wr (wr.drewN nq):=⟨rfl,rfl,rfl,Nat.le_refl _,fun _ _ => rfl⟩
           have HX:=Lib.hid (bt HV.out.1 hdr)
           clear d1 d2 hdr
           go_wp2
           go_ret
           exact ⟨by rw [HF.out]; rfl,HX.out⟩
         ·obtain rfl:j=i0:=by omega
          have hjI:¬ (j:Int) < (j:Int):=by omega
          have HX:Hid (Below w.heap.size w wr∧InL wr (some ⟨b,o,none⟩) l∧RightL (l.take (j + 1))):=Lib.hid ⟨HV.out.1,HV.out.2.1,HM.out.2.2 hki hky HNO.out⟩
          clear HV q0 q1 q2
          go_wp2
          go_roundw
          case rel => exact ⟨j + 1,by omega,by go_num,HX⟩
          case measure => simp [intOf]; omega
       ·rcases v0:((v:Int) != 0) with _ | _
        ·have hki:kindB ⟨2,y,v⟩=true:=by
          have:v=0:=by simpa using v0
          subst this; rfl
         go_wp2_with fail
         go_loopw [5] (fun jv wv => ∃ (j:Nat),j≤i0∧jv=.int .i64 j∧Hid (Below w.heap.size w wv∧InL wv (some ⟨b,o,none⟩) l∧wv.cell? ⟨wr.heap.size,1,none⟩=some (.int .i64 y))∧Hid (∀ (k:Nat) (z:Ch),k < j→l[k]?=some z→(z.y == y)=false)) (fun jv _ => i0 - (intOf jv).toNat)
         case atStart => exact ⟨0,Nat.zero_le _,rfl,HA,Lib.hid (fun k z hk => by omega)⟩
         case round =>
          clear HA e0 e1 e2
          obtain ⟨j,hj,rfl,HV,HNO⟩:=hrel
          by_cases hji:j < i0
          ·have hjI:(j:Int) < (i0:Int):=by omega
           have hjn:(j:Int) < (n:Int):=by omega
           have hjl:j < l.length:=by rw [← hn.out]; omega
           obtain ⟨hb,hc,p1⟩:=HV.out
           obtain ⟨b',o',he,_,hcs⟩:=hc (by omega)
           cases he
           obtain ⟨zz1,q1',zz2⟩:=hcs j hjl
           have hlj:l[j]?=some (l[j]'hjl):=List.getElem?_eq_getElem hjl
           obtain ⟨zj,hzj⟩:∃ zj,zj=l[j]'hjl:=⟨_,rfl⟩
           rw [← hzj] at q1' hlj
           obtain ⟨y2,hy2⟩:∃ y2,y2=zj.y:=⟨_,rfl⟩
           rw [← hy2] at q1'
           have HLJ:=Lib.hid (And.intro hlj hy2)
           have d1:=fun m:Nat => cell_drew q1' m
           have d2:=fun m:Nat => cell_drew p1 m
           clear hb hc hcs zz1 zz2 hy2 hzj hlj hjl q0 q1 q2 q1' p1
           rcases hd:(y2 == y) with _ | _
           ·go_wp2_with fail
            go_quiet (fail)
            have hdr:Below wr.heap.size wr (wr.drewN nq):=⟨rfl,rfl,rfl,Nat.le_refl _,fun _ _ => rfl⟩
            have HX:Hid (Below w.heap.size w (wr.drewN nq)∧InL (wr.drewN nq) (some ⟨b,o,none⟩) l∧(wr.drewN nq).cell? ⟨gA,1,none⟩=some (.int .i64 y)):=Lib.hid ⟨bt HV.out.1 hdr,HV.out.2.1.below hdr,by rw [HgA.out]; exact HV.out.2.2⟩
            rw [HgA.out] at HX
            have HNO2:Hid (∀ (k:Nat) (z:Ch),k < j + 1→l[k]?=some z→(z.y == y)=false):=Lib.hid (fun k z hk hz => by
             by_cases e:k=j
             ·subst e
              rw [HLJ.out.1] at hz
              injection hz with hz
              rw [← hz,← HLJ.out.2]
              exact hd
             ·exact HNO.out k z (by omega) hz)
            clear d1 d2 hdr
            go_wp2
            go_roundw
            case rel => exact ⟨j + 1,by omega,by go_num,HX,HNO2⟩
            case measure => simp [intOf]; omega
           ·have HF:Hid (R=false):=Lib.hid (by
             rw [HRD.out]
             have hyy:y2=y:=by simpa using hd
             exact are_no (HM.out.2.1 j zj hji HLJ.out.1 (by rw [← HLJ.out.2]; exact hyy)))
            go_wp2_with fail
            go_quiet (fail)
            have hdr:Below wr.heap.size wr (wr.drewN nq):=⟨rfl,rfl,rfl,Nat.le_refl _,fun _ _ => rfl⟩
            have HX:=Lib.hid (bt HV.out.1 hdr)
            clear d1 d2 hdr
            go_wp2
            go_ret
            exact ⟨by rw [HF.out]; rfl,HX.out⟩
          ·obtain rfl:j=i0:=by omega
           have hjI:¬ (j:Int) < (j:Int):=by omega
           have HX:Hid (Below w.heap.size w wr∧InL wr (some ⟨b,o,none⟩) l∧RightL (l.take (j + 1))):=Lib.hid ⟨HV.out.1,HV.out.2.1,HM.out.2.2 hki hky HNO.out⟩
           clear HV q0 q1 q2
           go_wp2
           go_roundw
           case rel => exact ⟨j + 1,by omega,by go_num,HX⟩
           case measure => simp [intOf]; omega
        ·have HF:Hid (R=false):=Lib.hid (hbad.out (.inl (by
          have:(v == 0)=false:=by simpa using v0
          unfold kindB; simp only [this]; rfl)))
         go_wp2
         rw [← HWA.out]
         go_ret
         exact ⟨by rw [HF.out]; rfl,HBB.out⟩
      ·have k2P:2 < kd:=of_decide_eq_true k2
       have HF:Hid (R=false):=Lib.hid (hbad.out (.inl (by
        have a1:(kd == 1)=false:=by simp; omega
        have a2:(kd == 2)=false:=by simp; omega
        unfold kindB; simp only [a1,a2]; rfl)))
       go_wp2
       rw [← HWA.out]
       go_ret
       exact ⟨by rw [HF.out]; rfl,HBB.out⟩
     ·have k1P:kd < 1:=of_decide_eq_true k1
      have HF:Hid (R=false):=Lib.hid (hbad.out (.inl (by
       have a1:(kd == 1)=false:=by simp; omega
       have a2:(kd == 2)=false:=by simp; omega
       unfold kindB; simp only [a1,a2]; rfl)))
      go_wp2
      rw [← HWA.out]
      go_ret
      exact ⟨by rw [HF.out]; rfl,HBB.out⟩
    ·have y15P:15 < y:=of_decide_eq_true y15
     have HF:Hid (R=false):=Lib.hid (hbad.out (.inr (by unfold keyB; simp; omega)))
     go_wp2
     rw [← HWA.out]
     go_ret
     exact ⟨by rw [HF.out]; rfl,HBB.out⟩
   ·have y0P:y < 0:=of_decide_eq_true y0
    have HF:Hid (R=false):=Lib.hid (hbad.out (.inr (by unfold keyB; simp; omega)))
    go_wp2
    rw [← HWA.out]
    go_ret
    exact ⟨by rw [HF.out]; rfl,HBB.out⟩
  ·have hiI:¬ (i0:Int) < (n:Int):=by omega
   have HF:Hid (R=true∧Below w.heap.size w wr):=Lib.hid (by
    obtain ⟨hb,_,hrt⟩:=HW.out
    rw [List.take_of_length_le (by have:=hn.out; omega)] at hrt
    exact ⟨by rw [HRD.out]; exact are_iff.2 hrt,hb⟩)
   clear HW
   go_wp2
   go_ret
   exact ⟨by rw [HF.out.1]; rfl,HF.out.2⟩
end Go.Proofs.YtlliaihmfimdoaaGreat

