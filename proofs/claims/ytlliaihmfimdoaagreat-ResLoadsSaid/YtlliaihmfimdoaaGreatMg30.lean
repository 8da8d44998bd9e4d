/- Parts Bl2 of one proof. -/
import Derived.Test.YtlliaihmfimdoaaGreatMg14
set_option linter.unusedSimpArgs false
set_option linter.unusedVariables false
namespace Go.Proofs.YtlliaihmfimdoaaGreat
open Go.RowKit Go.Maps
set_option maxRecDepth 100000 in
set_option maxHeartbeats 4000000 in
theorem are_in (A:Option Addr) (l:List Ch) (n c:Nat) (w:World) (hn:Hid (n=l.length)) (hm:n≤1000000) (h:InL w A l) :
  Calls Tryz.prog 116 #[.slice A n c] w fun e w' => e=.returned (.bool (areB (fun _ => false) l))∧Below w.heap.size w w':=by
 obtain ⟨w1,hw1⟩:∃ w1,w1=w.alloc (.cells #[.bool false,.bool false,.bool false,.bool false,.bool false,.bool false,.bool false,.bool false,.bool false,.bool false,.bool false,.bool false,.bool false,.bool false,.bool false,.bool false] 191):=⟨_,rfl⟩
 have b1:Below w.heap.size w w1:=by rw [hw1]; exact ba _ _
 obtain ⟨gs,hgs⟩:∃ gs,gs=w.heap.size:=⟨_,rfl⟩
 have a1:ArrB w1 gs (fun _ => false):=by
  rw [hw1,hgs]
  exact ⟨_,Blk.new _ _ _,rfl,fun i hi => match i,hi with | 0,_ => rfl | 1,_ => rfl | 2,_ => rfl | 3,_ => rfl | 4,_ => rfl | 5,_ => rfl | 6,_ => rfl | 7,_ => rfl | 8,_ => rfl | 9,_ => rfl | 10,_ => rfl | 11,_ => rfl | 12,_ => rfl | 13,_ => rfl | 14,_ => rfl | 15,_ => rfl | _ + 16,hi => absurd hi (by omega)⟩
 have H0:=Lib.hid h
 have H1:=Lib.hid (And.intro a1 (And.intro b1 (h.below b1)))
 have HW1:=Lib.hid hw1
 clear a1 b1 h hw1
 go_enter Tryz.func116,Tryz.ntmps116
 go_wp2_with fail
 rw [← HW1.out]
 rw [← hgs]
 have Hgs:=Lib.hid hgs
 clear hgs HW1
 go_loopw [8] (fun i wr => ∃ (i0:Nat) (M:Nat→Bool),i0≤n∧i=.int .i64 i0∧Hid (areB (fun _ => false) l=areB M (l.drop i0)∧ArrB wr gs M∧Below w.heap.size w wr∧InL wr A l)) (fun i _ => n - (intOf i).toNat)
 case atStart => exact ⟨0,_,Nat.zero_le _,rfl,Lib.hid ⟨rfl,H1.out⟩⟩
 case round =>
  obtain ⟨i0,M,hi,rfl,HR⟩:=hrel
  by_cases hin:i0 < n
  ·have hiI:(i0:Int) < (n:Int):=by omega
   obtain ⟨hE,hM,hb,hc⟩:=HR.out
   have hil:i0 < l.length:=by rw [← hn.out]; exact hin
   obtain ⟨b,o,rfl,hbk,hcs⟩:=hc (by omega)
   obtain ⟨q0,q1,q2⟩:=hcs i0 hil
   rw [List.drop_eq_getElem_cons hil] at hE
   obtain ⟨x,hx⟩:∃ x,x=l[i0]'hil:=⟨_,rfl⟩
   rw [← hx] at q0 q1 q2 hE
   obtain ⟨kd,y,v⟩:=x
   dsimp only at q0 q1 q2
   obtain ⟨wA,hwA⟩:∃ wA,wA=wr.alloc (.cells #[.int .i64 kd,.int .i64 y,.int .u64 (v:Nat)] 74):=⟨_,rfl⟩
   have bA:Below wr.heap.size wr wA:=by rw [hwA]; exact ba _ _
   have kA:Blk wA wr.heap.size 74 #[.int .i64 kd,.int .i64 y,.int .u64 (v:Nat)]:=by rw [hwA]; exact Blk.new _ _ _
   have e0:=kA.cell 0
   have e1:=kA.cell 1
   have e2:=kA.cell 2
   simp only [List.getElem?_toArray,List.getElem?_cons_zero,List.getElem?_cons_succ] at e0 e1 e2
   have mA:=hM.below bA
   have HA:=Lib.hid (And.intro hE (And.intro mA (And.intro (bt hb bA) (hc.below bA))))
   have HWA:=Lib.hid hwA
   have hgsl:=mA.lt
   rw [hwA] at e0 e1 e2
   have hno:kindB ⟨kd,y,v⟩=false→areB (fun _ => false) l=false:=fun h => by rw [hE]; simp only [areB,h,Bool.false_and]
   have Hno:=Lib.hid hno
   clear hE hM hb hc hbk hcs hx hil HR hwA bA kA mA hno
   have fin:Hid (Below w.heap.size w wA):=Lib.hid HA.out.2.2.1
   rcases k1:(kd == 1) with _ | _
   ·have k1n:(kd != 1)=true:=by simp [bne,k1]
    rcases k2:(kd == 2) with _ | _
    ·have k2n:(kd != 2)=true:=by simp [bne,k2]
     have hF:Hid (areB (fun _ => false) l=false):=Lib.hid (Hno.out (by unfold kindB; simp only [k1,k2]; rfl))
     go_wp2
     rw [← HWA.out]
     go_ret
     exact ⟨by rw [hF.out]; rfl,fin.out⟩
    ·have k2n:(kd != 2)=false:=by simp [bne,k2]
     rcases v0:((v:Int) != 0) with _ | _
     ·have hk:Hid (kindB ⟨kd,y,v⟩=true):=Lib.hid (by
       have:v=0:=by simpa using v0
       unfold kindB; simp only [k1,k2,this]; rfl)
      rcases ky:keyB y with _ | _
      ·have hF:Hid (areB (fun _ => false) l=false):=Lib.hid (by rw [HA.out.1]; simp only [areB,ky,Bool.false_and,Bool.and_false])
       go_wp2_with fail
       rw [← HWA.out]
       refine (kisKey_any y false ky wA).mono ?_
       rintro e u ⟨rfl,rfl⟩
       go_wp2
       go_ret
       exact ⟨by rw [hF.out]; rfl,fin.out⟩
      ·obtain ⟨k,hk16,rfl⟩:=keyB_nat ky
       have hkI:(k:Int) < 16:=by omega
       have cM:=HA.out.2.1.cell k hk16
       have fM:=HA.out.2.1.frozen k
       rw [HWA.out] at cM fM
       rcases hs:M k with _ | _
       ·rw [hs] at cM
        have hE2:Hid (areB (fun _ => false) l=areB (updS M k) (l.drop (i0 + 1))):=Lib.hid (by
         rw [HA.out.1]
         simp only [areB,hk.out,ky,Int.toNat_natCast,hs,Bool.true_and,Bool.not_false])
        have HX:Hid (areB (fun _ => false) l=areB (updS M k) (l.drop (i0 + 1))∧ArrB (wA.setCell ⟨gs,k,none⟩ (.bool true)) gs (updS M k)∧Below w.heap.size w (wA.setCell ⟨gs,k,none⟩ (.bool true))∧InL (wA.setCell ⟨gs,k,none⟩ (.bool true)) (some ⟨b,o,none⟩) l):=Lib.hid ⟨hE2.out,HA.out.2.1.set_ k hk16,HA.out.2.2.1.setCell (by have:=Hgs.out; dsimp only; omega) _,H0.out.below (HA.out.2.2.1.setCell (by have:=Hgs.out; dsimp only; omega) _)⟩
        rw [HWA.out] at HX
        go_wp2_with fail
        refine (kisKey_any (k:Int) true ky _).mono ?_
        rintro e u ⟨rfl,rfl⟩
        go_wp2
        go_roundw
        case rel => exact ⟨i0 + 1,_,by omega,by go_num,HX⟩
        case measure => simp [intOf]; omega
       ·rw [hs] at cM
        have hF:Hid (areB (fun _ => false) l=false):=Lib.hid (by rw [HA.out.1]; simp only [areB,Int.toNat_natCast,hs,Bool.not_true,Bool.false_and,Bool.and_false])
        go_wp2_with fail
        refine (kisKey_any (k:Int) true ky _).mono ?_
        rintro e u ⟨rfl,rfl⟩
        go_wp2
        rw [← HWA.out]
        go_ret
        exact ⟨by rw [hF.out]; rfl,fin.out⟩
     ·have hF:Hid (areB (fun _ => false) l=false):=Lib.hid (Hno.out (by
       have:(v == 0)=false:=by simpa using v0
       unfold kindB; simp only [k1,k2,this]; rfl))
      go_wp2
      rw [← HWA.out]
      go_ret
      exact ⟨by rw [hF.out]; rfl,fin.out⟩
   ·have k1n:(kd != 1)=false:=by simp [bne,k1]
    have k2:(kd == 2)=false:=by
     have:kd=1:=by simpa using k1
     subst this; rfl
    have hk:Hid (kindB ⟨kd,y,v⟩=true):=Lib.hid (by unfold kindB; simp only [k1]; rfl)
    rcases ky:keyB y with _ | _
    ·have hF:Hid (areB (fun _ => false) l=false):=Lib.hid (by rw [HA.out.1]; simp only [areB,ky,Bool.false_and,Bool.and_false])
     go_wp2_with fail
     rw [← HWA.out]
     refine (kisKey_any y false ky wA).mono ?_
     rintro e u ⟨rfl,rfl⟩
     go_wp2
     go_ret
     exact ⟨by rw [hF.out]; rfl,fin.out⟩
    ·obtain ⟨k,hk16,rfl⟩:=keyB_nat ky
     have hkI:(k:Int) < 16:=by omega
     have cM:=HA.out.2.1.cell k hk16
     have fM:=HA.out.2.1.frozen k
     rw [HWA.out] at cM fM
     rcases hs:M k with _ | _
     ·rw [hs] at cM
      have hE2:Hid (areB (fun _ => false) l=areB (updS M k) (l.drop (i0 + 1))):=Lib.hid (by
       rw [HA.out.1]
       simp only [areB,hk.out,ky,Int.toNat_natCast,hs,Bool.true_and,Bool.not_false])
      have HX:Hid (areB (fun _ => false) l=areB (updS M k) (l.drop (i0 + 1))∧ArrB (wA.setCell ⟨gs,k,none⟩ (.bool true)) gs (updS M k)∧Below w.heap.size w (wA.setCell ⟨gs,k,none⟩ (.bool true))∧InL (wA.setCell ⟨gs,k,none⟩ (.bool true)) (some ⟨b,o,none⟩) l):=Lib.hid ⟨hE2.out,HA.out.2.1.set_ k hk16,HA.out.2.2.1.setCell (by have:=Hgs.out; dsimp only; omega) _,H0.out.below (HA.out.2.2.1.setCell (by have:=Hgs.out; dsimp only; omega) _)⟩
      rw [HWA.out] at HX
      go_wp2_with fail
      refine (kisKey_any (k:Int) true ky _).mono ?_
      rintro e u ⟨rfl,rfl⟩
      go_wp2
      go_roundw
      case rel => exact ⟨i0 + 1,_,by omega,by go_num,HX⟩
      case measure => simp [intOf]; omega
     ·rw [hs] at cM
      have hF:Hid (areB (fun _ => false) l=false):=Lib.hid (by rw [HA.out.1]; simp only [areB,Int.toNat_natCast,hs,Bool.not_true,Bool.false_and,Bool.and_false])
      go_wp2_with fail
      refine (kisKey_any (k:Int) true ky _).mono ?_
      rintro e u ⟨rfl,rfl⟩
      go_wp2
      rw [← HWA.out]
      go_ret
      exact ⟨by rw [hF.out]; rfl,fin.out⟩
  ·obtain rfl:i0=n:=by omega
   have hiI:¬ (i0:Int) < (i0:Int):=by omega
   have hT:Hid (areB (fun _ => false) l=true):=Lib.hid (by
    rw [HR.out.1,List.drop_of_length_le (by rw [hn.out]; exact Nat.le_refl _)]; rfl)
   have hF:=Lib.hid HR.out.2.2.1
   clear HR
   go_wp2
   go_ret
   exact ⟨by rw [hT.out]; rfl,hF.out⟩
set_option maxRecDepth 100000 in
set_option maxHeartbeats 4000000 in
theorem restore_in (g:Nat) (tt:TypeId) (cs:Array Value) (S:KS) (N:Nat) (n:Int) (A:Option Addr) (l:List Ch) (q c:Nat) (w:World) (h:KvAt w g tt cs S N) (hN:N < 300000) (hn:i64ok n) (hq:Hid (q=l.length)) (hqN:q≤N + 1) (hc:∀ u,w.grownBy u (some g)→InL u A l) (hB:∀ b,w.heap.size≤b→S.B b) :
  Calls Tryz.prog 72 #[.pointer (some ⟨g,0,none⟩),.int .i64 n,.slice A q c] w fun e w' => e=.returned (.int .i64 (restoreM S n l).1)∧KvO w g tt cs (restoreM S n l).2 (N + 1) w':=by
 have HN:=Lib.hid (names_any g n w)
 by_cases h1:n < 1
 ·have hM:restoreM S n l=(1,S):=if_pos h1
  rw [hM]
  have HF:=Lib.hid (KvO.same (h.more (Nat.le_succ N)) (Below.refl _ _))
  have hE:namesE n=1:=if_pos h1
  rw [hE] at HN
  clear h hM hE hc hB
  go_enter Tryz.func72,Tryz.ntmps72
  go_wp2_with fail
  refine HN.out.mono ?_
  rintro e w1 ⟨rfl,rfl⟩
  go_wp2
  go_ret
  exact ⟨rfl,HF.out⟩
 have hE:namesE n=0:=if_neg h1
 rw [hE] at HN
 have HA:=Lib.hid (are_in A l q c w hq (by omega) (hc w (lbelow_grown (Below.refl _ _) _)))
 have HR:restoreM S n l=if areB (fun _ => false) l=false then (1,S) else if busyB S n=true then (7,S) else if (takeAll S.L n l).1=0 then (0,{ S with L:=(takeAll S.L n l).2,W:=restW S n l }) else ((takeAll S.L n l).1,{ S with L:=(takeAll S.L n l).2 }):=if_neg h1
 rw [HR]
 have H:=Lib.hid (And.intro h (And.intro hn hc))
 have HBB:=Lib.hid hB
 clear HR hE h hn hc hB
 rcases ha:areB (fun _ => false) l with _ | _
 ·rw [if_pos rfl]
  rw [ha] at HA
  clear ha
  go_enter Tryz.func72,Tryz.ntmps72
  go_wp2_with fail
  refine HN.out.mono ?_
  rintro e w1 ⟨rfl,rfl⟩
  go_wp2_with fail
  refine HA.out.mono ?_
  rintro e w2 ⟨rfl,b2⟩
  have HF:=Lib.hid (KvO.same (H.out.1.more (Nat.le_succ N)) b2)
  clear b2
  go_wp2
  go_ret
  exact ⟨rfl,HF.out⟩
 rw [if_neg (by simp)]
 rw [ha] at HA
 have Hkeys:=Lib.hid (areB_keys l _ ha)
 clear ha
 have hbz:=fun (u:World) (hb:Below w.heap.size w u) => busy_any g tt cs S N n u (H.out.1.below hb) H.out.2.1
 rcases hbs:busyB S n with _ | _
 ·rw [if_neg (by simp)]
  rw [hbs] at hbz
  have HB:=Lib.hid hbz
  clear hbz hbs
  obtain ⟨R,hR⟩:∃ R,R=takeAll S.L n l:=⟨_,rfl⟩
  rw [← hR]
  have HRR:=Lib.hid hR
  obtain ⟨re,rL⟩:=R
  dsimp only
  rcases hre:(re == 0) with _ | _
  ·have hre':re≠0:=by simpa using hre
   rw [if_neg hre']
   clear hR hre'
   go_enter Tryz.func72,Tryz.ntmps72
   go_wp2_with fail
   refine HN.out.mono ?_
   rintro e w1 ⟨rfl,rfl⟩
   go_wp2_with fail
   refine HA.out.mono ?_
   rintro e w2 ⟨rfl,b2⟩
   go_wp2_with fail
   refine (HB.out w2 b2).mono ?_
   rintro e w3 ⟨rfl,b3⟩
   have H3:=Lib.hid (And.intro (H.out.1.below (bt b2 b3)) (And.intro (H.out.2.2 _ (lbelow_grown (bt b2 b3) _)) (bt b2 b3)))
   clear b2 b3 HA HB HN
   have hqm:q≤9223372036854775807:=by omega
   go_wp2_with fail
   go_loopw [27] (fun i wr => ∃ (i0:Nat) (L0:List LRow),i0≤q∧i=.int .i64 i0∧Hid (takeAll S.L n l=takeAll L0 n (l.drop i0)∧(∃ cs',KvAt wr g tt cs' { S with L:=L0 } N∧Keep cs cs')∧w.grownBy wr (some g)∧InL wr A l)) (fun i _ => q - (intOf i).toNat)
   case atStart => exact ⟨0,S.L,Nat.zero_le _,rfl,Lib.hid ⟨rfl,⟨cs,H3.out.1,Keep.rfl'⟩,lbelow_grown H3.out.2.2 _,H3.out.2.1⟩⟩
   case round =>
    clear H3
    obtain ⟨i0,L0,hi,rfl,HR⟩:=hrel
    by_cases hiq:i0 < q
    ·have hiI:(i0:Int) < (q:Int):=by omega
     obtain ⟨hE,⟨cs',hk,hkp⟩,hg,hc⟩:=HR.out
     have hil:i0 < l.length:=by rw [← hq.out]; exact hiq
     obtain ⟨b,o,rfl,hbk,hcs⟩:=hc (by omega)
     obtain ⟨q0,q1,q2⟩:=hcs i0 hil
     rw [List.drop_eq_getElem_cons hil] at hE
     obtain ⟨x,hx⟩:∃ x,x=l[i0]'hil:=⟨_,rfl⟩
     have hxk:=Hkeys.out x (by rw [hx]; exact List.getElem_mem hil)
     rw [← hx] at q0 q1 q2 hE
     obtain ⟨kd,y,v⟩:=x
     dsimp only at q0 q1 q2 hxk
     have Hyo:=Lib.hid (keyB_ok hxk)
     obtain ⟨TL,hTL⟩:∃ TL,TL=takeL L0 n y true:=⟨_,rfl⟩
     obtain ⟨er,her⟩:∃ er,er=TL.1:=⟨_,rfl⟩
     simp only [takeAll,← hTL,← her] at hE
     have HTL:=Lib.hid hTL
     have Her:Hid (Value.int .i64 (takeL L0 n y true).1=Value.int .i64 er):=Lib.hid (by rw [← hTL,her])
     obtain ⟨wA,hwA⟩:∃ wA,wA=wr.alloc (.cells #[.int .i64 kd,.int .i64 y,.int .u64 (v:Nat)] 74):=⟨_,rfl⟩
     have bA:Below wr.heap.size wr wA:=by rw [hwA]; exact ba _ _
     have kA:Blk wA wr.heap.size 74 #[.int .i64 kd,.int .i64 y,.int .u64 (v:Nat)]:=by rw [hwA]; exact Blk.new _ _ _
     have HA2:=Lib.hid (And.intro (hk.below bA) (And.intro hkp (And.intro (hg.trans (lbelow_grown bA (some g))) (And.intro (hc.below bA) (And.intro kA (And.intro hE (show g≠wr.heap.size by have:=hk.lt; omega)))))))
     have HWA:=Lib.hid hwA
     clear hk hkp hg hc hbk hcs hx hil HR hwA bA kA hE hxk hTL
     go_wp2_with fail
     rw [← HWA.out]
     clear q0 q1 q2
     obtain ⟨tb,htb⟩:∃ tb,tb=wr.heap.size:=⟨_,rfl⟩
     rw [← htb] at HA2 ⊢
     have HER:=Lib.hid her
     clear htb HWA her
     refine wp_region_invJ (F:=?FR1) (V:=(VRs g tb n y er)) (C:=(CRs wA g tb kd y v (fun u => (∃ cs2,KvAt u g tt cs2 { S with L:=TL.2 } N∧Keep cs' cs2)∧wA.grownBy u (some g)))) (by kernel_rfl) (by kernel_rfl) (by kernel_rfl) (fun x => ?hFR1) ?hCR1 ?stepR1 ?finR1
     case hFR1 => simp only [mkA,Act.put,List.setIfInBounds_toArray,List.set_cons_succ,List.set_cons_zero,Nat.reduceAdd,Nat.zero_add]; first | with_reducible rfl | rfl
     case hCR1 => exact fun x => ⟨HA2.out.2.2.2.2.1,fun _ => rfl,fun e => by simp at e⟩
     case stepR1 =>
      refine AllOps.cons (fun ls x u hC hl hp K hK => ?_) ?_
      ·clear hp
       go_simp
       refine hK _ _ _ (CRs.pure (by decide) hC) (by exact rfl) ?_
       first | (simp only [Act.put,List.setIfInBounds_toArray,List.set_cons_succ,List.set_cons_zero]; done) | simp [Act.put]
      refine AllOps.cons (fun ls x u hC hl hp K hK => ?_) ?_
      ·simp [KnownTill,Region.binds,VRs] at hp
       go_simp
       refine hK _ _ _ (CRs.pure (by decide) hC) (by exact rfl) ?_
       first | (simp only [Act.put,List.setIfInBounds_toArray,List.set_cons_succ,List.set_cons_zero,hp]; done) | simp [Act.put,hp]
      refine AllOps.cons (fun ls x u hC hl hp K hK => ?_) ?_
      ·simp [KnownTill,Region.binds,VRs] at hp
       go_simp
       refine hK _ _ _ (CRs.pure (by decide) hC) (by exact rfl) ?_
       first | (simp only [Act.put,List.setIfInBounds_toArray,List.set_cons_succ,List.set_cons_zero,hp]; done) | simp [Act.put,hp]
      refine AllOps.cons (fun ls x u hC hl hp K hK => ?_) ?_
      ·clear hp
       go_simp
       refine hK _ _ _ (CRs.pure (by decide) hC) (by exact rfl) ?_
       first | (simp only [Act.put,List.setIfInBounds_toArray,List.set_cons_succ,List.set_cons_zero]; done) | simp [Act.put]
      refine AllOps.cons (fun ls x u hC hl hp K hK => ?_) ?_
      ·clear hp
       go_simp
       refine hK _ _ _ (CRs.pure (by decide) hC) (by exact rfl) ?_
       first | (simp only [Act.put,List.setIfInBounds_toArray,List.set_cons_succ,List.set_cons_zero]; done) | simp [Act.put]
      refine AllOps.cons (fun ls x u hC hl hp K hK => ?_) ?_
      ·simp [KnownTill,Region.binds,VRs] at hp
       have cc:=hC.b.cell 1
       simp only [List.getElem?_toArray,List.getElem?_cons_zero,List.getElem?_cons_succ] at cc
       go_simp
       refine hK _ _ _ (CRs.pure (by decide) hC) (by exact rfl) ?_
       first | (simp only [Act.put,List.setIfInBounds_toArray,List.set_cons_succ,List.set_cons_zero,hp]; done) | simp [Act.put,hp]
      refine AllOps.cons (fun ls x u hC hl hp K hK => ?_) ?_
      ·simp [KnownTill,Region.binds,VRs] at hp
       have hu:=hC.n hl
       have hku:KvAt u g tt cs' { S with L:=L0 } N:=by rw [hu]; exact HA2.out.1.below ⟨rfl,rfl,rfl,Nat.le_refl _,fun _ _ => rfl⟩
       have hgu:wA.grownBy u (some g):=by rw [hu]; exact ⟨rfl,rfl,rfl,Nat.le_refl _,fun _ _ _ => rfl⟩
       have HTk:=Lib.hid (take_any g 33 tt cs' L0 n y true u hku.tab Hyo.out H.out.2.1)
       clear hu
       go_simp
       refine HTk.out.mono ?_
       rintro e u2 ⟨rfl,ht,hg2⟩
       have hlk:=hku.locked hg2 ht
       refine hK _ _ _ ⟨hC.b.kept hg2 (fun e => HA2.out.2.2.2.2.2.2 (Option.some.inj e).symm),(fun e => by rw [updB_same] at e; cases e),(fun _ => ⟨by rw [HTL.out]; exact hlk,hgu.trans hg2⟩)⟩ (by exact Her.out) ?_
       first | (simp only [Act.put,List.setIfInBounds_toArray,List.set_cons_succ,List.set_cons_zero,hp,Her.out]; done) | simp [Act.put,hp,Her.out]
      refine AllOps.cons (fun ls x u hC hl hp K hK => ?_) ?_
      ·simp [KnownTill,Region.binds,VRs] at hp
       go_simp
       refine hK _ _ _ (CRs.pure (by decide) hC) (by exact rfl) ?_
       first | (simp only [Act.put,List.setIfInBounds_toArray,List.set_cons_succ,List.set_cons_zero,hp]; done) | simp [Act.put,hp]
      exact AllOps.nil
     case finR1 =>
      intro ls x u hC hV
      have hs6:=(hV 6 (by decide)).1
      have e7:x 7=.int .i64 er:=(hV 7 (by decide)).2
      rw [e7]
      obtain ⟨⟨cs2,hk2,hkp2⟩,hg2⟩:=hC.s hs6
      have hgw:=HA2.out.2.2.1.trans hg2
      have hc2:=H.out.2.2 u hgw
      rcases her0:(er == 0) with _ | _
      ·have hne:(er != 0)=true:=by simp [bne,her0]
       have hne2:er≠0:=by simpa using her0
       have hE:=HA2.out.2.2.2.2.2.1
       rw [if_neg hne2,← HRR.out] at hE
       injection hE with hE1 hE2
       have hlen2:TL.2.length≤64:=hk2.lk.1
       have HD:=Lib.hid (drop_any g 33 tt cs2 TL.2 n u hk2.tab H.out.2.1)
       have HK:=Lib.hid (And.intro hk2 (And.intro (HA2.out.2.1.trans hkp2) hgw))
       have Hre:=Lib.hid (And.intro hE1 hE2)
       clear hC hV hk2 hkp2 hg2 hgw hc2 hs6 e7 hE1 hE2 hlen2 hne2
       go_wp2_with fail
       refine HD.out.mono ?_
       rintro e u2 ⟨rfl,ht,hg3⟩
       have HF:Hid (KvO w g tt cs { S with L:=rL } (N + 1) u2):=Lib.hid (by
        obtain ⟨cs3,hk3,hkp3⟩:=(HK.out.1.more (Nat.le_succ N)).locked hg3 ht
        rw [Hre.out.2]
        exact KvO.from HK.out.2.1 HK.out.2.2 ⟨⟨cs3,hk3,hkp3⟩,hg3⟩)
       clear ht hg3
       go_wp2
       go_ret
       exact ⟨by rw [Hre.out.1]; rfl,HF.out⟩
      ·have hne:(er != 0)=false:=by simp [bne,her0]
       have hne2:er=0:=by simpa using her0
       have HN2:Hid (takeAll S.L n l=takeAll TL.2 n (l.drop (i0 + 1))∧(∃ cs',KvAt u g tt cs' { S with L:=TL.2 } N∧Keep cs cs')∧w.grownBy u (some g)∧InL u (some ⟨b,o,none⟩) l):=Lib.hid ⟨by have hE:=HA2.out.2.2.2.2.2.1; rw [if_pos hne2] at hE; exact hE,⟨cs2,hk2,HA2.out.2.1.trans hkp2⟩,hgw,hc2⟩
       clear hC hV hk2 hkp2 hg2 hgw hc2 hs6 e7 hne2
       go_wp2
       go_roundw
       case rel => exact ⟨i0 + 1,TL.2,by omega,by go_num,HN2⟩
       case measure => simp [intOf]; omega
    ·obtain rfl:i0=q:=by omega
     have hiI:¬ (i0:Int) < (i0:Int):=by omega
     obtain ⟨hE,⟨cs',hk,hkp⟩,hg,hc⟩:=HR.out
     rw [List.drop_of_length_le (by rw [hq.out]; exact Nat.le_refl _)] at hE
     rw [show takeAll L0 n []=(0,L0) from rfl,← HRR.out] at hE
     injection hE with hE1 hE2
     subst hE1
     simp at hre
  ·obtain rfl:re=0:=by simpa using hre
   rw [if_pos rfl]
   clear hR hre
   go_enter Tryz.func72,Tryz.ntmps72
   go_wp2_with fail
   refine HN.out.mono ?_
   rintro e w1 ⟨rfl,rfl⟩
   go_wp2_with fail
   refine HA.out.mono ?_
   rintro e w2 ⟨rfl,b2⟩
   go_wp2_with fail
   refine (HB.out w2 b2).mono ?_
   rintro e w3 ⟨rfl,b3⟩
   have H3:=Lib.hid (And.intro (H.out.1.below (bt b2 b3)) (And.intro (H.out.2.2 _ (lbelow_grown (bt b2 b3) _)) (bt b2 b3)))
   clear b2 b3 HA HB HN
   have hqm:q≤9223372036854775807:=by omega
   go_wp2_with fail
   go_loopw [27] (fun i wr => ∃ (i0:Nat) (L0:List LRow),i0≤q∧i=.int .i64 i0∧Hid (takeAll S.L n l=takeAll L0 n (l.drop i0)∧(∃ cs',KvAt wr g tt cs' { S with L:=L0 } N∧Keep cs cs')∧w.grownBy wr (some g)∧InL wr A l)) (fun i _ => q - (intOf i).toNat)
   case atStart => exact ⟨0,S.L,Nat.zero_le _,rfl,Lib.hid ⟨rfl,⟨cs,H3.out.1,Keep.rfl'⟩,lbelow_grown H3.out.2.2 _,H3.out.2.1⟩⟩
   case round =>
    clear H3
    obtain ⟨i0,L0,hi,rfl,HR⟩:=hrel
    by_cases hiq:i0 < q
    ·have hiI:(i0:Int) < (q:Int):=by omega
     obtain ⟨hE,⟨cs',hk,hkp⟩,hg,hc⟩:=HR.out
     have hil:i0 < l.length:=by rw [← hq.out]; exact hiq
     obtain ⟨b,o,rfl,hbk,hcs⟩:=hc (by omega)
     obtain ⟨q0,q1,q2⟩:=hcs i0 hil
     rw [List.drop_eq_getElem_cons hil] at hE
     obtain ⟨x,hx⟩:∃ x,x=l[i0]'hil:=⟨_,rfl⟩
     have hxk:=Hkeys.out x (by rw [hx]; exact List.getElem_mem hil)
     rw [← hx] at q0 q1 q2 hE
     obtain ⟨kd,y,v⟩:=x
     dsimp only at q0 q1 q2 hxk
     have Hyo:=Lib.hid (keyB_ok hxk)
     obtain ⟨TL,hTL⟩:∃ TL,TL=takeL L0 n y true:=⟨_,rfl⟩
     obtain ⟨er,her⟩:∃ er,er=TL.1:=⟨_,rfl⟩
     simp only [takeAll,← hTL,← her] at hE
     have HTL:=Lib.hid hTL
     have Her:Hid (Value.int .i64 (takeL L0 n y true).1=Value.int .i64 er):=Lib.hid (by rw [← hTL,her])
     obtain ⟨wA,hwA⟩:∃ wA,wA=wr.alloc (.cells #[.int .i64 kd,.int .i64 y,.int .u64 (v:Nat)] 74):=⟨_,rfl⟩
     have bA:Below wr.heap.size wr wA:=by rw [hwA]; exact ba _ _
     have kA:Blk wA wr.heap.size 74 #[.int .i64 kd,.int .i64 y,.int .u64 (v:Nat)]:=by rw [hwA]; exact Blk.new _ _ _
     have HA2:=Lib.hid (And.intro (hk.below bA) (And.intro hkp (And.intro (hg.trans (lbelow_grown bA (some g))) (And.intro (hc.below bA) (And.intro kA (And.intro hE (show g≠wr.heap.size by have:=hk.lt; omega)))))))
     have HWA:=Lib.hid hwA
     clear hk hkp hg hc hbk hcs hx hil HR hwA bA kA hE hxk hTL
     go_wp2_with fail
     rw [← HWA.out]
     clear q0 q1 q2
     obtain ⟨tb,htb⟩:∃ tb,tb=wr.heap.size:=⟨_,rfl⟩
     rw [← htb] at HA2 ⊢
     have HER:=Lib.hid her
     clear htb HWA her
     refine wp_region_invJ (F:=?FR2) (V:=(VRs g tb n y er)) (C:=(CRs wA g tb kd y v (fun u => (∃ cs2,KvAt u g tt cs2 { S with L:=TL.2 } N∧Keep cs' cs2)∧wA.grownBy u (some g)))) (by kernel_rfl) (by kernel_rfl) (by kernel_rfl) (fun x => ?hFR2) ?hCR2 ?stepR2 ?finR2
     case hFR2 => simp only [mkA,Act.put,List.setIfInBounds_toArray,List.set_cons_succ,List.set_cons_zero,Nat.reduceAdd,Nat.zero_add]; first | with_reducible rfl | rfl
     case hCR2 => exact fun x => ⟨HA2.out.2.2.2.2.1,fun _ => rfl,fun e => by simp at e⟩
     case stepR2 =>
      refine AllOps.cons (fun ls x u hC hl hp K hK => ?_) ?_
      ·clear hp
       go_simp
       refine hK _ _ _ (CRs.pure (by decide) hC) (by exact rfl) ?_
       first | (simp only [Act.put,List.setIfInBounds_toArray,List.set_cons_succ,List.set_cons_zero]; done) | simp [Act.put]
      refine AllOps.cons (fun ls x u hC hl hp K hK => ?_) ?_
      ·simp [KnownTill,Region.binds,VRs] at hp
       go_simp
       refine hK _ _ _ (CRs.pure (by decide) hC) (by exact rfl) ?_
       first | (simp only [Act.put,List.setIfInBounds_toArray,List.set_cons_succ,List.set_cons_zero,hp]; done) | simp [Act.put,hp]
      refine AllOps.cons (fun ls x u hC hl hp K hK => ?_) ?_
      ·simp [KnownTill,Region.binds,VRs] at hp
       go_simp
       refine hK _ _ _ (CRs.pure (by decide) hC) (by exact rfl) ?_
       first | (simp only [Act.put,List.setIfInBounds_toArray,List.set_cons_succ,List.set_cons_zero,hp]; done) | simp [Act.put,hp]
      refine AllOps.cons (fun ls x u hC hl hp K hK => ?_) ?_
      ·clear hp
       go_simp
       refine hK _ _ _ (CRs.pure (by decide) hC) (by exact rfl) ?_
       first | (simp only [Act.put,List.setIfInBounds_toArray,List.set_cons_succ,List.set_cons_zero]; done) | simp [Act.put]
      refine AllOps.cons (fun ls x u hC hl hp K hK => ?_) ?_
      ·clear hp
       go_simp
       refine hK _ _ _ (CRs.pure (by decide) hC) (by exact rfl) ?_
       first | (simp only [Act.put,List.setIfInBounds_toArray,List.set_cons_succ,List.set_cons_zero]; done) | simp [Act.put]
      refine AllOps.cons (fun ls x u hC hl hp K hK => ?_) ?_
      ·simp [KnownTill,Region.binds,VRs] at hp
       have cc:=hC.b.cell 1
       simp only [List.getElem?_toArray,List.getElem?_cons_zero,List.getElem?_cons_succ] at cc
       go_simp
       refine hK _ _ _ (CRs.pure (by decide) hC) (by exact rfl) ?_
       first | (simp only [Act.put,List.setIfInBounds_toArray,List.set_cons_succ,List.set_cons_zero,hp]; done) | simp [Act.put,hp]
      refine AllOps.cons (fun ls x u hC hl hp K hK => ?_) ?_
      ·simp [KnownTill,Region.binds,VRs] at hp
       have hu:=hC.n hl
       have hku:KvAt u g tt cs' { S with L:=L0 } N:=by rw [hu]; exact HA2.out.1.below ⟨rfl,rfl,rfl,Nat.le_refl _,fun _ _ => rfl⟩
       have hgu:wA.grownBy u (some g):=by rw [hu]; exact ⟨rfl,rfl,rfl,Nat.le_refl _,fun _ _ _ => rfl⟩
       have HTk:=Lib.hid (take_any g 33 tt cs' L0 n y true u hku.tab Hyo.out H.out.2.1)
       clear hu
       go_simp
       refine HTk.out.mono ?_
       rintro e u2 ⟨rfl,ht,hg2⟩
       have hlk:=hku.locked hg2 ht
       refine hK _ _ _ ⟨hC.b.kept hg2 (fun e => HA2.out.2.2.2.2.2.2 (Option.some.inj e).symm),(fun e => by rw [updB_same] at e; cases e),(fun _ => ⟨by rw [HTL.out]; exact hlk,hgu.trans hg2⟩)⟩ (by exact Her.out) ?_
       first | (simp only [Act.put,List.setIfInBounds_toArray,List.set_cons_succ,List.set_cons_zero,hp,Her.out]; done) | simp [Act.put,hp,Her.out]
      refine AllOps.cons (fun ls x u hC hl hp K hK => ?_) ?_
      ·simp [KnownTill,Region.binds,VRs] at hp
       go_simp
       refine hK _ _ _ (CRs.pure (by decide) hC) (by exact rfl) ?_
       first | (simp only [Act.put,List.setIfInBounds_toArray,List.set_cons_succ,List.set_cons_zero,hp]; done) | simp [Act.put,hp]
      exact AllOps.nil
     case finR2 =>
      intro ls x u hC hV
      have hs6:=(hV 6 (by decide)).1
      have e7:x 7=.int .i64 er:=(hV 7 (by decide)).2
      rw [e7]
      obtain ⟨⟨cs2,hk2,hkp2⟩,hg2⟩:=hC.s hs6
      have hgw:=HA2.out.2.2.1.trans hg2
      have hc2:=H.out.2.2 u hgw
      rcases her0:(er == 0) with _ | _
      ·have hne:(er != 0)=true:=by simp [bne,her0]
       have hne2:er≠0:=by simpa using her0
       have hE:=HA2.out.2.2.2.2.2.1
       rw [if_neg hne2,← HRR.out] at hE
       injection hE with hE1 hE2
       exact absurd hE1.symm hne2
      ·have hne:(er != 0)=false:=by simp [bne,her0]
       have hne2:er=0:=by simpa using her0
       have HN2:Hid (takeAll S.L n l=takeAll TL.2 n (l.drop (i0 + 1))∧(∃ cs',KvAt u g tt cs' { S with L:=TL.2 } N∧Keep cs cs')∧w.grownBy u (some g)∧InL u (some ⟨b,o,none⟩) l):=Lib.hid ⟨by have hE:=HA2.out.2.2.2.2.2.1; rw [if_pos hne2] at hE; exact hE,⟨cs2,hk2,HA2.out.2.1.trans hkp2⟩,hgw,hc2⟩
       clear hC hV hk2 hkp2 hg2 hgw hc2 hs6 e7 hne2
       go_wp2
       go_roundw
       case rel => exact ⟨i0 + 1,TL.2,by omega,by go_num,HN2⟩
       case measure => simp [intOf]; omega
    ·obtain rfl:i0=q:=by omega
     have hiI:¬ (i0:Int) < (i0:Int):=by omega
     obtain ⟨hE,⟨cs',hk,hkp⟩,hg,hc⟩:=HR.out
     rw [List.drop_of_length_le (by rw [hq.out]; exact Nat.le_refl _)] at hE
     rw [show takeAll L0 n []=(0,L0) from rfl,← HRR.out] at hE
     injection hE with _ hE2
     subst hE2
     by_cases hl0:i0=0
     ·subst hl0
      have hl:l=[]:=List.eq_nil_of_length_eq_zero hq.out.symm
      have HF:Hid (KvO w g tt cs { S with L:=rL,W:=restW S n l } (N + 1) wr):=Lib.hid (by
       unfold restW; rw [if_pos hl]; exact ⟨⟨cs',hk.more (Nat.le_succ N),hkp⟩,hg⟩)
      clear hk hkp hg hc HR hl
      go_wp2
      go_ret
      exact ⟨rfl,HF.out⟩
     ·have hl:l≠[]:=fun e => hl0 (by rw [hq.out,e]; rfl)
      have hl0I:(0:Int) < (i0:Int):=by omega
      have HCl:=Lib.hid (cclone_in A l i0 c wr (Lib.hid hq.out) (Lib.hid (by omega)) hc)
      have HK:=Lib.hid (And.intro hk (And.intro hkp (And.intro hg hl)))
      clear hk hkp hg hc HR hl
      go_wp2_with fail
      refine HCl.out.mono ?_
      rintro e w4 ⟨A4,c4,rfl,own4,b4⟩
      have HL:=Lib.hid (lay_any g tt cs' { S with L:=rL } N n A4 l i0 c4 true w4 (HK.out.1.below b4) (by omega) H.out.2.1 hq.out (by rw [← hq.out]; exact hqN) Hkeys.out (own4.at_.mono fun b hb _ => HBB.out b (Nat.le_trans HK.out.2.2.1.size hb)))
      have HG:=Lib.hid (HK.out.2.2.1.trans (lbelow_grown b4 (some g)))
      clear own4 b4
      go_wp2_with fail
      refine HL.out.mono ?_
      rintro e w5 ⟨rfl,hk5,hg5⟩
      have HF:Hid (KvO w g tt cs { S with L:=rL,W:=restW S n l } (N + 1) w5):=Lib.hid (by
       unfold restW; rw [if_neg HK.out.2.2.2]; exact KvO.from HK.out.2.1 HG.out ⟨hk5,hg5⟩)
      clear hk5 hg5
      go_wp2
      go_ret
      exact ⟨rfl,HF.out⟩
 ·rw [if_pos rfl]
  rw [hbs] at hbz
  have HB:=Lib.hid hbz
  clear hbz hbs
  go_enter Tryz.func72,Tryz.ntmps72
  go_wp2_with fail
  refine HN.out.mono ?_
  rintro e w1 ⟨rfl,rfl⟩
  go_wp2_with fail
  refine HA.out.mono ?_
  rintro e w2 ⟨rfl,b2⟩
  go_wp2_with fail
  refine (HB.out w2 b2).mono ?_
  rintro e w3 ⟨rfl,b3⟩
  have HF:=Lib.hid (KvO.same (H.out.1.more (Nat.le_succ N)) (bt b2 b3))
  clear b2 b3
  go_wp2
  go_ret
  exact ⟨rfl,HF.out⟩
end Go.Proofs.YtlliaihmfimdoaaGreat

