/- Parts Sk Sl D5 Sm Tw of one proof. -/
import Derived.Test.YtlliaihmfimdoaaGreatMg29
import Derived.Test.YtlliaihmfimdoaaGreatMg30
import Derived.BigQuiet
import Derived.Test.YtlliaihmfimdoaaGreatMg28
import Derived.Test.YtlliaihmfimdoaaGreatMg01
import Derived.Test.YtlliaihmfimdoaaGreatProg
import Derived.Test.YtlliaihmfimdoaaGreatMg21
import Derived.Test.YtlliaihmfimdoaaGreatMg22
import Derived.Shelf.Abstract
import Derived.Shelf.RegionOpen
import Derived.WalkKit
import Derived.OwnWalkIn
import Derived.TacticsInMore
import Derived.LoopNIn
import Derived.LoopIn
import Derived.Deep.QuietTactic
import Derived.Test.YtlliaihmfimdoaaGreatMg23
set_option linter.unusedSimpArgs false
set_option linter.unusedVariables false
namespace Go.Proofs.YtlliaihmfimdoaaGreat.Re
open Go.RowKit Go.Maps Go.Deep Go.Proofs.YtlliaihmfimdoaaGreat
def isK (c:Ch):Bool:=decide (1≤c.k) && decide (c.k≤2)
theorem isk_any (k y:Int) (v:Nat) (w:World):Calls Tryz.prog 71 #[.agg #[.int .i64 k,.int .i64 y,.int .u64 (v:Nat)]] w fun e w' => e=.returned (.bool (isK ⟨k,y,v⟩))∧Below w.heap.size w w':=by
 have hb:=ba w (.cells #[.int .i64 k,.int .i64 y,.int .u64 (v:Nat)] 74)
 have HB:=Lib.hid hb
 clear hb
 by_cases h1:1≤k
 ·have hR:Hid (isK ⟨k,y,v⟩=decide (k≤2)):=Lib.hid (by unfold isK; simp [h1])
  go_enter Tryz.func71,Tryz.ntmps71
  go_wp2
  go_ret
  exact ⟨by rw [hR.out]; rfl,HB.out⟩
 ·have hR:Hid (isK ⟨k,y,v⟩=false):=Lib.hid (by unfold isK; simp [h1])
  go_enter Tryz.func71,Tryz.ntmps71
  go_wp2
  go_ret
  exact ⟨by rw [hR.out]; rfl,HB.out⟩
theorem notk_any (k y:Int) (v:Nat) (w:World):Calls Tryz.prog 115 #[.agg #[.int .i64 k,.int .i64 y,.int .u64 (v:Nat)]] w fun e w' => e=.returned (.bool (!isK ⟨k,y,v⟩))∧Below w.heap.size w w':=by
 have hb:=ba w (.cells #[.int .i64 k,.int .i64 y,.int .u64 (v:Nat)] 74)
 have HB:=Lib.hid hb
 have kb:=Blk.new w 74 #[.int .i64 k,.int .i64 y,.int .u64 (v:Nat)]
 have c0:=kb.cell 0
 have c1:=kb.cell 1
 have c2:=kb.cell 2
 simp only [List.getElem?_toArray,List.getElem?_cons_zero,List.getElem?_cons_succ] at c0 c1 c2
 clear hb kb
 go_enter Tryz.func115,Tryz.ntmps115
 go_wp2_with fail
 refine (isk_any k y v _).mono ?_
 rintro e w1 ⟨rfl,b1⟩
 have HX:=Lib.hid (bt HB.out b1)
 clear b1 c0 c1 c2
 go_wp2
 go_ret
 exact ⟨rfl,HX.out⟩
def posC (p:Ch→Bool) (l:List Ch):Nat:=l.findIdx p
def posD (p:Ch→Bool) (l:List Ch):Int:=if posC p l < l.length then (posC p l:Nat) else -1
def notK (c:Ch):Bool:=!isK c
set_option maxRecDepth 100000 in
set_option maxHeartbeats 1000000 in
theorem indexk_any (A:Option Addr) (l:List Ch) (n c:Nat) (hn:Hid (n=l.length)) (hm:n≤1000000) (w:World) (h:InL w A l) :
  Calls Tryz.prog 97 #[.slice A n c,.func (.func 71) #[] #[]] w fun e w' => e=.returned (.int .i64 (posD isK l))∧Below w.heap.size w w':=by
 have H:=Lib.hid h
 clear h
 go_enter Tryz.func97,Tryz.ntmps97
 go_wp2_with fail
 go_loopw [8] (fun i wr => ∃ (j:Nat),j≤n∧i=.int .i64 j∧Hid (∀ q,q < j→∀ hq:q < l.length,isK (l[q]'hq)=false)∧Hid (Below w.heap.size w wr)) (fun i _ => n - (intOf i).toNat)
 case atStart => exact ⟨0,Nat.zero_le _,rfl,Lib.hid (fun q hq => by omega),Lib.hid (Below.refl _ _)⟩
 case round =>
  obtain ⟨j,hj,rfl,hno,hb⟩:=hrel
  by_cases hjn:j < n
  ·have hjI:(j:Int) < (n:Int):=by omega
   have hjl:j < l.length:=by rw [← hn.out]; exact hjn
   obtain ⟨b,o,rfl,_,hcs⟩:=(H.out.below hb.out) (by omega)
   obtain ⟨q0,q1,q2⟩:=hcs j hjl
   obtain ⟨x,hx⟩:∃ x,x=l[j]'hjl:=⟨_,rfl⟩
   rw [← hx] at q0 q1 q2
   have HX:=Lib.hid (show ∃ hjl:j < l.length,x=l[j]'hjl from ⟨hjl,hx⟩)
   obtain ⟨xk,xy,xv⟩:=x
   dsimp only at q0 q1 q2
   have hC:=isk_any xk xy xv wr
   obtain ⟨r,hr⟩:∃ r,r=isK ⟨xk,xy,xv⟩:=⟨_,rfl⟩
   have hC2:Calls Tryz.prog 71 #[.agg #[.int .i64 xk,.int .i64 xy,.int .u64 (xv:Nat)]] wr fun e w' => e=.returned (.bool r)∧Below wr.heap.size wr w':=by rw [hr]; exact hC
   have HC:=Lib.hid hC2
   have HRr:=Lib.hid hr
   clear hcs hx hjl hC hC2 hr
   rcases r with _ | _
   ·have hno2:Hid (∀ q,q < j + 1→∀ hq:q < l.length,isK (l[q]'hq)=false):=Lib.hid fun q hq hql => by
     by_cases e:q=j
     ·subst e
      obtain ⟨_,hx⟩:=HX.out
      rw [← hx,← HRr.out]
     ·exact hno.out q (by omega) hql
    go_wp2_with fail
    refine HC.out.mono ?_
    rintro e w2 ⟨rfl,b2⟩
    have hb2:=Lib.hid (bt hb.out b2)
    clear b2 q0 q1 q2
    go_wp2
    go_roundw
    case rel => exact ⟨j + 1,by omega,by go_num,hno2,hb2⟩
    case measure => simp [intOf]; omega
   ·have hpos:Hid (posD isK l=(j:Int)):=Lib.hid (by
     obtain ⟨hjl,hx⟩:=HX.out
     have e:posC isK l=j:=by
      unfold posC
      rw [List.findIdx_eq hjl]
      exact ⟨by rw [← hx]; exact HRr.out.symm,fun q hq => hno.out q hq (by omega)⟩
     unfold posD
     rw [e,if_pos hjl])
    go_wp2_with fail
    refine HC.out.mono ?_
    rintro e w2 ⟨rfl,b2⟩
    have hb2:=Lib.hid (bt hb.out b2)
    clear b2 q0 q1 q2
    go_wp2
    go_ret
    exact ⟨by rw [hpos.out]; rfl,hb2.out⟩
  ·obtain rfl:j=n:=by omega
   have hjI:¬ (j:Int) < (j:Int):=by omega
   have hpos:Hid (posD isK l=-1):=Lib.hid (by
    have e:posC isK l=l.length:=by
     unfold posC
     rw [List.findIdx_eq_length]
     intro x hx
     obtain ⟨q,hq,rfl⟩:=List.mem_iff_getElem.1 hx
     exact hno.out q (by rw [hn.out]; exact hq) hq
    unfold posD
    rw [e,if_neg (by omega)])
   go_wp2
   go_ret
   exact ⟨by rw [hpos.out]; rfl,hb.out⟩
set_option maxRecDepth 100000 in
set_option maxHeartbeats 1000000 in
theorem indexn_any (A:Option Addr) (l:List Ch) (n c:Nat) (hn:Hid (n=l.length)) (hm:n≤1000000) (w:World) (h:InL w A l) :
  Calls Tryz.prog 97 #[.slice A n c,.func (.func 115) #[] #[]] w fun e w' => e=.returned (.int .i64 (posD notK l))∧Below w.heap.size w w':=by
 have H:=Lib.hid h
 clear h
 go_enter Tryz.func97,Tryz.ntmps97
 go_wp2_with fail
 go_loopw [8] (fun i wr => ∃ (j:Nat),j≤n∧i=.int .i64 j∧Hid (∀ q,q < j→∀ hq:q < l.length,notK (l[q]'hq)=false)∧Hid (Below w.heap.size w wr)) (fun i _ => n - (intOf i).toNat)
 case atStart => exact ⟨0,Nat.zero_le _,rfl,Lib.hid (fun q hq => by omega),Lib.hid (Below.refl _ _)⟩
 case round =>
  obtain ⟨j,hj,rfl,hno,hb⟩:=hrel
  by_cases hjn:j < n
  ·have hjI:(j:Int) < (n:Int):=by omega
   have hjl:j < l.length:=by rw [← hn.out]; exact hjn
   obtain ⟨b,o,rfl,_,hcs⟩:=(H.out.below hb.out) (by omega)
   obtain ⟨q0,q1,q2⟩:=hcs j hjl
   obtain ⟨x,hx⟩:∃ x,x=l[j]'hjl:=⟨_,rfl⟩
   rw [← hx] at q0 q1 q2
   have HX:=Lib.hid (show ∃ hjl:j < l.length,x=l[j]'hjl from ⟨hjl,hx⟩)
   obtain ⟨xk,xy,xv⟩:=x
   dsimp only at q0 q1 q2
   have hC:=notk_any xk xy xv wr
   obtain ⟨r,hr⟩:∃ r,r=notK ⟨xk,xy,xv⟩:=⟨_,rfl⟩
   have hC2:Calls Tryz.prog 115 #[.agg #[.int .i64 xk,.int .i64 xy,.int .u64 (xv:Nat)]] wr fun e w' => e=.returned (.bool r)∧Below wr.heap.size wr w':=by rw [hr]; exact hC
   have HC:=Lib.hid hC2
   have HRr:=Lib.hid hr
   clear hcs hx hjl hC hC2 hr
   rcases r with _ | _
   ·have hno2:Hid (∀ q,q < j + 1→∀ hq:q < l.length,notK (l[q]'hq)=false):=Lib.hid fun q hq hql => by
     by_cases e:q=j
     ·subst e
      obtain ⟨_,hx⟩:=HX.out
      rw [← hx,← HRr.out]
     ·exact hno.out q (by omega) hql
    go_wp2_with fail
    refine HC.out.mono ?_
    rintro e w2 ⟨rfl,b2⟩
    have hb2:=Lib.hid (bt hb.out b2)
    clear b2 q0 q1 q2
    go_wp2
    go_roundw
    case rel => exact ⟨j + 1,by omega,by go_num,hno2,hb2⟩
    case measure => simp [intOf]; omega
   ·have hpos:Hid (posD notK l=(j:Int)):=Lib.hid (by
     obtain ⟨hjl,hx⟩:=HX.out
     have e:posC notK l=j:=by
      unfold posC
      rw [List.findIdx_eq hjl]
      exact ⟨by rw [← hx]; exact HRr.out.symm,fun q hq => hno.out q hq (by omega)⟩
     unfold posD
     rw [e,if_pos hjl])
    go_wp2_with fail
    refine HC.out.mono ?_
    rintro e w2 ⟨rfl,b2⟩
    have hb2:=Lib.hid (bt hb.out b2)
    clear b2 q0 q1 q2
    go_wp2
    go_ret
    exact ⟨by rw [hpos.out]; rfl,hb2.out⟩
  ·obtain rfl:j=n:=by omega
   have hjI:¬ (j:Int) < (j:Int):=by omega
   have hpos:Hid (posD notK l=-1):=Lib.hid (by
    have e:posC notK l=l.length:=by
     unfold posC
     rw [List.findIdx_eq_length]
     intro x hx
     obtain ⟨q,hq,rfl⟩:=List.mem_iff_getElem.1 hx
     exact hno.out q (by rw [hn.out]; exact hq) hq
    unfold posD
    rw [e,if_neg (by omega)])
   go_wp2
   go_ret
   exact ⟨by rw [hpos.out]; rfl,hb.out⟩
end Go.Proofs.YtlliaihmfimdoaaGreat.Re


namespace Go.Proofs.YtlliaihmfimdoaaGreat.Re
open Go.RowKit Go.Maps Go.Deep Go.Proofs.YtlliaihmfimdoaaGreat
theorem posD_any (l:List Ch) (p:Ch→Bool):decide (0≤posD p l)=l.any p:=by
 unfold posD posC
 by_cases h:l.findIdx p < l.length
 ·rw [if_pos h]
  have:=List.findIdx_lt_length.1 h
  rw [List.any_eq_true.2 (by obtain ⟨x,hx,hp⟩:=this; exact ⟨x,hx,hp⟩)]
  simp
 ·rw [if_neg h]
  have:l.any p=false:=by
   rw [List.any_eq_false]
   intro x hx hp
   exact h (List.findIdx_lt_length.2 ⟨x,hx,hp⟩)
  rw [this]; rfl
set_option maxRecDepth 100000 in
set_option maxHeartbeats 1000000 in
theorem containsk_any (A:Option Addr) (l:List Ch) (n c:Nat) (hn:Hid (n=l.length)) (hm:n≤1000000) (w:World) (h:InL w A l) :
  Calls Tryz.prog 56 #[.slice A n c,.func (.func 71) #[] #[]] w fun e w' => e=.returned (.bool (l.any isK))∧Below w.heap.size w w':=by
 have HC:=Lib.hid (indexk_any A l n c hn hm w h)
 obtain ⟨k,hk⟩:∃ k,k=posD isK l:=⟨_,rfl⟩
 rw [← hk] at HC
 have HK:Hid (l.any isK=decide (0≤k)):=Lib.hid (by rw [hk,posD_any])
 clear h hk
 go_enter Tryz.func56,Tryz.ntmps56
 go_wp2_with fail
 refine HC.out.mono ?_
 rintro e w1 ⟨rfl,b1⟩
 have HB:=Lib.hid b1
 clear b1
 go_wp2
 go_ret
 exact ⟨by rw [HK.out]; rfl,HB.out⟩
def endK (l:List Ch):Nat:=posC notK l
theorem endK_le (l:List Ch):endK l≤l.length:=List.findIdx_le_length
def shiftA (A:Option Addr) (m:Nat):Option Addr:=A.map fun a => ⟨a.block,a.off + m * 3,a.spot⟩
theorem inl_take {u:World} {A:Option Addr} {l:List Ch} (h:InL u A l) (m:Nat):InL u A (l.take m):=fun hl => by
 rw [List.length_take] at hl
 obtain ⟨b,o,e,hb,hc⟩:=h (by omega)
 refine ⟨b,o,e,hb,fun i hi => ?_⟩
 rw [List.length_take] at hi
 rw [List.getElem_take]
 exact hc i (by omega)
theorem inl_drop {u:World} {A:Option Addr} {l:List Ch} (h:InL u A l) (m:Nat):InL u (shiftA A m) (l.drop m):=fun hl => by
 rw [List.length_drop] at hl
 obtain ⟨b,o,rfl,hb,hc⟩:=h (by omega)
 refine ⟨b,o + m * 3,rfl,hb,fun i hi => ?_⟩
 rw [List.length_drop] at hi
 rw [List.getElem_drop]
 have:=hc (m + i) (by omega)
 rw [show o + m * 3 + i * 3=o + (m + i) * 3 by omega]
 exact this
set_option maxRecDepth 100000 in
set_option maxHeartbeats 1000000 in
theorem parted_any (A:Option Addr) (l:List Ch) (n c:Nat) (hn:Hid (n=l.length)) (hm:n≤1000000) (hc:n≤c∧c≤9223372036854775807) (w:World) (h:InL w A l) :
  Calls Tryz.prog 70 #[.slice A n c] w fun e w' => (∃ A2,e=.returned (.tuple #[.slice A (endK l) c,.slice A2 (n - endK l) (c - endK l)])∧(endK l < n→A2=shiftA A (endK l)))∧Below w.heap.size w w':=by
 have HC:=Lib.hid (indexn_any A l n c hn hm w h)
 have HA:Hid (0 < n→∃ b o,A=some ⟨b,o,none⟩):=Lib.hid fun h0 => by
  obtain ⟨b,o,e,_⟩:=h (by rw [← hn.out]; exact h0)
  exact ⟨b,o,e⟩
 obtain ⟨m,hmm⟩:∃ m,m=endK l:=⟨_,rfl⟩
 have hmn:m≤n:=by rw [hmm,hn.out]; exact endK_le l
 rw [← hmm]
 have HD:Hid ((m < n→posD notK l=(m:Nat))∧(¬ m < n→posD notK l=-1)):=Lib.hid (by
  rw [hmm,hn.out]
  unfold posD endK
  exact ⟨fun h => if_pos h,fun h => if_neg h⟩)
 clear h hmm
 by_cases hlt:m < n
 ·rw [HD.out.1 hlt] at HC
  obtain ⟨b,o,rfl⟩:=HA.out (by omega)
  have hmI:¬ (m:Int) < 0:=by omega
  have hmI2:decide ((m:Int) < 0)=false:=decide_eq_false hmI
  have hmc:(m:Int)≤(c:Int):=by omega
  have hmn2:(m:Int)≤(n:Int):=by omega
  have hnc:(n:Int)≤(c:Int):=by omega
  go_enter Tryz.func70,Tryz.ntmps70
  go_wp2_with fail
  refine HC.out.mono ?_
  rintro e w1 ⟨rfl,b1⟩
  have HB:Hid (∀ k:Nat,Below w.heap.size w (w1.drewN k)):=Lib.hid fun k => bt b1 ⟨rfl,rfl,rfl,Nat.le_refl _,fun _ _ => rfl⟩
  clear b1
  go_wp2_with fail
  go_quiet (fail)
  go_wp2
  go_ret2
  exact ⟨⟨_,rfl,fun _ => rfl⟩,HB.out nq⟩
 ·rw [HD.out.2 hlt] at HC
  obtain rfl:m=n:=by omega
  have hmc:(m:Int)≤(c:Int):=by omega
  have HX:Hid (∀ A2:Option Addr,m < m→A2=shiftA A m):=Lib.hid fun A2 h => absurd h (Nat.lt_irrefl _)
  rcases A with _ | a
  ·have hm0:m=0:=Classical.byContradiction fun e => by
    obtain ⟨b,o,e2⟩:=HA.out (by omega)
    cases e2
   subst hm0
   go_enter Tryz.func70,Tryz.ntmps70
   go_wp2_with fail
   refine HC.out.mono ?_
   rintro e w1 ⟨rfl,b1⟩
   have HB:Hid (∀ k:Nat,Below w.heap.size w (w1.drewN k)):=Lib.hid fun k => bt b1 ⟨rfl,rfl,rfl,Nat.le_refl _,fun _ _ => rfl⟩
   clear b1
   go_wp2_with fail
   go_quiet (fail)
   go_wp2
   go_ret2
   exact ⟨⟨_,rfl,HX.out _⟩,HB.out nq⟩
  ·obtain ⟨ab,ao,af⟩:=a
   go_enter Tryz.func70,Tryz.ntmps70
   go_wp2_with fail
   refine HC.out.mono ?_
   rintro e w1 ⟨rfl,b1⟩
   have HB:Hid (∀ k:Nat,Below w.heap.size w (w1.drewN k)):=Lib.hid fun k => bt b1 ⟨rfl,rfl,rfl,Nat.le_refl _,fun _ _ => rfl⟩
   clear b1
   go_wp2_with fail
   go_quiet (fail)
   all_goals
    go_wp2
    all_goals
     go_ret2
     first | exact ⟨⟨_,rfl⟩,HB.out nq⟩ | exact ⟨⟨_,rfl,HX.out _⟩,HB.out nq⟩
end Go.Proofs.YtlliaihmfimdoaaGreat.Re


namespace Go.Proofs.YtlliaihmfimdoaaGreat.Dr
open Go.RowKit Go.Maps Go.Joins Go.Deep Go.Proofs.YtlliaihmfimdoaaGreat
def kk (c:Ch):Bool:=decide (c.k=1) || decide (c.k=2)
def okS:List Ch→Bool→Bool
 | [],_ => true
 | c :: l,s => if kk c then (!s && okS l s) else okS l true
def aS (l:List Ch) (j:Nat):List Ch:=(l.take j).filter kk
def bS (l:List Ch) (j:Nat):List Ch:=(l.take j).filter fun c => !kk c
theorem aS_zero (l:List Ch):aS l 0=[]:=by simp [aS]
theorem bS_zero (l:List Ch):bS l 0=[]:=by simp [bS]
theorem aS_le (l:List Ch) (j:Nat):(aS l j).length≤l.length:=Nat.le_trans (List.length_filter_le _ _) (by rw [List.length_take]; omega)
theorem bS_le (l:List Ch) (j:Nat):(bS l j).length≤l.length:=Nat.le_trans (List.length_filter_le _ _) (by rw [List.length_take]; omega)
theorem aS_snoc {l:List Ch} {j:Nat} (hj:j < l.length):aS l (j + 1)=if kk (l[j]'hj) then aS l j ++ [l[j]'hj] else aS l j:=by
 unfold aS
 rw [List.take_succ_eq_append_getElem hj,List.filter_append]
 by_cases h:kk (l[j]'hj)=true <;> simp [h]
theorem bS_snoc {l:List Ch} {j:Nat} (hj:j < l.length):bS l (j + 1)=if kk (l[j]'hj) then bS l j else bS l j ++ [l[j]'hj]:=by
 unfold bS
 rw [List.take_succ_eq_append_getElem hj,List.filter_append]
 by_cases h:kk (l[j]'hj)=true <;> simp [h]
theorem okS_drop {l:List Ch} {j:Nat} (hj:j < l.length) (s:Bool):okS (l.drop j) s=if kk (l[j]'hj) then (!s && okS (l.drop (j + 1)) s) else okS (l.drop (j + 1)) true:=by
 rw [List.drop_eq_getElem_cons hj]
 rfl
theorem okS_end (l:List Ch) {j:Nat} (hj:l.length≤j) (s:Bool):okS (l.drop j) s=true:=by
 rw [List.drop_eq_nil_of_le hj]
 rfl
theorem kk_eq (c:Ch):kk c=Re.isK c:=by
 unfold kk Re.isK
 by_cases h1:c.k=1
 ·rw [h1]; decide
 ·by_cases h2:c.k=2
  ·rw [h2]; decide
  ·simp only [h1,h2,decide_false,Bool.or_self]
   symm
   rw [Bool.and_eq_false_iff]
   by_cases h3:1≤c.k
   ·right; exact decide_eq_false (by omega)
   ·left; exact decide_eq_false h3
theorem okS_true (l:List Ch):okS l true=!(l.any Re.isK):=by
 induction l with
 | nil => rfl
 | cons c l ih =>
  unfold okS
  rw [List.any_cons,← kk_eq,ih]
  cases kk c <;> simp
theorem endK_cons (c:Ch) (l:List Ch):Re.endK (c :: l)=if kk c then Re.endK l + 1 else 0:=by
 unfold Re.endK Re.posC
 rw [List.findIdx_cons]
 unfold Re.notK
 rw [← kk_eq]
 cases kk c <;> rfl
theorem okS_false (l:List Ch):okS l false=!((l.drop (Re.endK l)).any Re.isK):=by
 induction l with
 | nil => rfl
 | cons c l ih =>
  rw [endK_cons]
  unfold okS
  by_cases h:kk c=true
  ·rw [if_pos h,if_pos h,ih]; simp
  ·rw [if_neg h,if_neg h,okS_true,List.drop_zero,List.any_cons,← kk_eq]
   simp [h]
theorem filt_none {l:List Ch} (h:l.any Re.isK=false):l.filter kk=[]∧(l.filter fun c => !kk c)=l:=by
 rw [List.any_eq_false] at h
 constructor
 ·rw [List.filter_eq_nil_iff]
  intro c hc
  rw [kk_eq]
  exact h c hc
 ·rw [List.filter_eq_self]
  intro c hc
  rw [kk_eq]
  have:=h c hc
  simpa using this
theorem spl_of {l:List Ch} (h:okS l false=true):l.filter kk=l.take (Re.endK l)∧(l.filter fun c => !kk c)=l.drop (Re.endK l):=by
 induction l with
 | nil => exact ⟨rfl,rfl⟩
 | cons c l ih =>
  rw [endK_cons]
  unfold okS at h
  by_cases hc:kk c=true
  ·rw [if_pos hc] at h ⊢
   obtain ⟨h1,h2⟩:=ih (by simpa using h)
   rw [List.filter_cons_of_pos hc,List.take_succ_cons,List.drop_succ_cons,← h1,← h2]
   refine ⟨rfl,?_⟩
   rw [List.filter_cons_of_neg (by simp [hc])]
  ·rw [if_neg hc] at h ⊢
   rw [okS_true] at h
   obtain ⟨h1,h2⟩:=filt_none (l:=l) (by simpa using h)
   rw [List.filter_cons_of_neg hc,List.filter_cons_of_pos (by simp [hc]),h1,h2]
   exact ⟨rfl,rfl⟩
end Go.Proofs.YtlliaihmfimdoaaGreat.Dr


namespace Go.Proofs.YtlliaihmfimdoaaGreat.Re
open Go.RowKit Go.Maps Go.Deep Go.Proofs.YtlliaihmfimdoaaGreat
def restoreR (S:RS) (n:Int) (l:List Ch):Int × RS :=
 if n < 1 then (1,S)
 else if (l.drop (endK l)).any isK=true then (3,S)
 else if (restoreM S.K n (l.take (endK l))).1≠0 then ((restoreM S.K n (l.take (endK l))).1,{ S with K:=(restoreM S.K n (l.take (endK l))).2 })
 else if (Qu.restM S.Q n (l.drop (endK l))).1≠0 then ((Qu.restM S.Q n (l.drop (endK l))).1,⟨(backoutM (restoreM S.K n (l.take (endK l))).2 n).2,(Qu.restM S.Q n (l.drop (endK l))).2,S.pr⟩)
 else (0,holdR ⟨(restoreM S.K n (l.take (endK l))).2,(Qu.restM S.Q n (l.drop (endK l))).2,S.pr⟩ n l.length)
theorem inl_nil (u:World) (A:Option Addr):InL u A []:=fun h => by simp at h
set_option maxRecDepth 100000 in
set_option maxHeartbeats 2000000 in
theorem resrestore_any (g:Nat) (cs:Array Value) (S:RS) (N:Nat) (n:Int) (A:Option Addr) (l:List Ch) (q c:Nat) (w:World) (h:ResAt w g cs S N) (hN:N < 200000) (hn:i64ok n) (hq:Hid (q=l.length)) (hqN:q≤N + 1) (hcap:q≤c∧c≤9223372036854775807) (hL:∀ u,w.grownBy u (some g)→InL u A l) (hBK:∀ b,w.heap.size≤b→S.K.B b) (hBQ:∀ b,w.heap.size≤b→S.Q.B b) :
  Calls Tryz.prog 28 #[.pointer (some ⟨g,0,none⟩),.int .i64 n,.slice A q c] w fun e w' => e=.returned (.int .i64 (restoreR S n l).1)∧ResO w g (restoreR S n l).2 (N + 4) w':=by
 have HNm:=Lib.hid (resnames_any g n w)
 by_cases h1:n < 1
 ·have hM:restoreR S n l=(1,S):=if_pos h1
  rw [hM]
  rw [if_pos h1] at HNm
  have HX:=Lib.hid (ResO.same (h.more (by omega:N≤N + 4)) (Below.refl _ _))
  clear h hM hn hL hBK hBQ
  go_enter Tryz.func28,Tryz.ntmps28
  go_wp2_with fail
  refine HNm.out.mono ?_
  rintro e w1 ⟨rfl,rfl⟩
  go_wp2
  go_ret
  exact ⟨rfl,HX.out⟩
 ·have hM:restoreR S n l=if (l.drop (endK l)).any isK=true then (3,S)
   else if (restoreM S.K n (l.take (endK l))).1≠0 then ((restoreM S.K n (l.take (endK l))).1,{ S with K:=(restoreM S.K n (l.take (endK l))).2 })
   else if (Qu.restM S.Q n (l.drop (endK l))).1≠0 then ((Qu.restM S.Q n (l.drop (endK l))).1,⟨(backoutM (restoreM S.K n (l.take (endK l))).2 n).2,(Qu.restM S.Q n (l.drop (endK l))).2,S.pr⟩)
   else (0,holdR ⟨(restoreM S.K n (l.take (endK l))).2,(Qu.restM S.Q n (l.drop (endK l))).2,S.pr⟩ n l.length):=if_neg h1
  rw [hM]
  rw [if_neg h1] at HNm
  have HP:=Lib.hid (parted_any A l q c hq (by omega) hcap w (hL w (lbelow_grown (Below.refl _ _) _)))
  obtain ⟨m,hm⟩:∃ m,m=endK l:=⟨_,rfl⟩
  have hmq:m≤q:=by rw [hm,hq.out]; exact endK_le l
  rw [← hm] at HP ⊢
  obtain ⟨l1,hl1⟩:∃ l1,l1=l.take m:=⟨_,rfl⟩
  obtain ⟨l2,hl2⟩:∃ l2,l2=l.drop m:=⟨_,rfl⟩
  rw [← hl1,← hl2]
  have hq1:m=l1.length:=by rw [hl1,List.length_take,← hq.out]; omega
  have hq2:q - m=l2.length:=by rw [hl2,List.length_drop,← hq.out]
  have HL:Hid (∀ u A2,w.grownBy u (some g)→(m < q→A2=shiftA A m)→InL u A l1∧InL u A2 l2):=Lib.hid fun u A2 hu hA => ⟨by rw [hl1]; exact inl_take (hL u hu) m,by
   by_cases hmlt:m < q
   ·rw [hA hmlt,hl2]; exact inl_drop (hL u hu) m
   ·have:l2=[]:=List.eq_nil_of_length_eq_zero (by omega)
    rw [this]; exact inl_nil _ _⟩
  have H:=Lib.hid (And.intro h (And.intro hn (And.intro hBK (And.intro hBQ (And.intro hq1 hq2)))))
  obtain ⟨r1,hr1⟩:∃ r1,r1=restoreM S.K n l1:=⟨_,rfl⟩
  obtain ⟨r2,hr2⟩:∃ r2,r2=Qu.restM S.Q n l2:=⟨_,rfl⟩
  rw [← hr1,← hr2]
  have HR:=Lib.hid (And.intro hr1 hr2)
  obtain ⟨e1,K1⟩:=r1
  obtain ⟨e2,Q2⟩:=r2
  dsimp only
  clear h hM hn hL hBK hBQ hm hl1 hl2 hq1 hq2 hr1 hr2
  rcases hk:l2.any isK with _ | _
  ·rw [if_neg (by simp)]
   by_cases h0:e1=0
   ·subst h0
    rw [if_neg (by simp)]
    by_cases h2:e2=0
    ·subst h2
     rw [if_neg (by simp)]
     go_enter Tryz.func28,Tryz.ntmps28
     go_wp2_with fail
     refine HNm.out.mono ?_
     rintro e w1 ⟨rfl,rfl⟩
     go_wp2_with fail
     refine HP.out.mono ?_
     rintro e w2 ⟨⟨A2,rfl,hA2⟩,b2⟩
     have HA2:=Lib.hid hA2
     have hc2:=containsk_any A2 l2 (q - m) (c - m) (Lib.hid H.out.2.2.2.2.2) (by omega) w2 (HL.out w2 A2 (lbelow_grown b2 _) hA2).2
     rw [hk] at hc2
     have HC:=Lib.hid hc2
     have HB2:=Lib.hid b2
     clear hA2 b2 hc2
     go_wp2_with fail
     refine HC.out.mono ?_
     rintro e w3 ⟨rfl,b3⟩
     have b23:=bt HB2.out b3
     have h3:=H.out.1.below b23
     have hK:=restore_in g 102 cs S.K N n A l1 m c w3 h3.kv (by omega) H.out.2.1 (Lib.hid H.out.2.2.2.2.1) (by omega) (fun u hu => (HL.out u A2 ((lbelow_grown b23 (some g)).trans hu) HA2.out).1) (fun b hb => H.out.2.2.1 b (Nat.le_trans b23.size hb))
     rw [← HR.out.1] at hK
     have HK:=Lib.hid hK
     have H3:=Lib.hid (And.intro h3 b23)
     clear b3 b23 h3 hK HC
     go_wp2_with fail
     refine HK.out.mono ?_
     rintro e w4 ⟨rfl,hk4⟩
     try dsimp only at hk4
     obtain ⟨⟨cs4,k4⟩,g4⟩:=H3.out.1.kturn hk4 (Nat.le_succ _)
     have g04:=(lbelow_grown H3.out.2 (some g)).trans g4
     have hQ:=Qu.rest_any g 34 102 cs4 S.Q (N + 1) n A2 l2 (q - m) (c - m) w4 k4.qu (by omega) H.out.2.1 (Lib.hid H.out.2.2.2.2.2) (by omega) (fun u hu => (HL.out u A2 (g04.trans hu) HA2.out).2) (fun b hb => H.out.2.2.2.1 b (Nat.le_trans g04.size hb))
     rw [← HR.out.2] at hQ
     have HQ:=Lib.hid hQ
     have H4:=Lib.hid (And.intro k4 g04)
     clear hk4 k4 g4 g04 hQ HK
     go_wp2_with fail
     refine HQ.out.mono ?_
     rintro e w5 ⟨rfl,hk5⟩
     try dsimp only at hk5
     obtain ⟨⟨cs5,k5⟩,g5⟩:=H4.out.1.qturn hk5 (Nat.le_succ _)
     have g05:=H4.out.2.trans g5
     try dsimp only at k5
     have HH:=Lib.hid (hold_any g cs5 ⟨K1,Q2,S.pr⟩ (N + 2) n A q c w5 k5 (by omega))
     have H5:=Lib.hid g05
     clear hk5 k5 g5 g05 HQ
     go_wp2_with fail
     refine HH.out.mono ?_
     rintro e w6 ⟨rfl,hO⟩
     obtain ⟨⟨cs6,k6⟩,g6⟩:=ResO.from H5.out hO
     have HX:Hid (ResO w g (holdR ⟨K1,Q2,S.pr⟩ n l.length) (N + 4) w6):=Lib.hid (by rw [← hq.out]; exact ⟨⟨cs6,k6.more (by omega)⟩,g6⟩)
     clear hO k6 g6
     go_wp2
     go_ret
     exact ⟨rfl,HX.out⟩
    ·rw [if_pos h2]
     have hb:(e2 != 0)=true:=by simpa using h2
     go_enter Tryz.func28,Tryz.ntmps28
     go_wp2_with fail
     refine HNm.out.mono ?_
     rintro e w1 ⟨rfl,rfl⟩
     go_wp2_with fail
     refine HP.out.mono ?_
     rintro e w2 ⟨⟨A2,rfl,hA2⟩,b2⟩
     have HA2:=Lib.hid hA2
     have hc2:=containsk_any A2 l2 (q - m) (c - m) (Lib.hid H.out.2.2.2.2.2) (by omega) w2 (HL.out w2 A2 (lbelow_grown b2 _) hA2).2
     rw [hk] at hc2
     have HC:=Lib.hid hc2
     have HB2:=Lib.hid b2
     clear hA2 b2 hc2
     go_wp2_with fail
     refine HC.out.mono ?_
     rintro e w3 ⟨rfl,b3⟩
     have b23:=bt HB2.out b3
     have h3:=H.out.1.below b23
     have hK:=restore_in g 102 cs S.K N n A l1 m c w3 h3.kv (by omega) H.out.2.1 (Lib.hid H.out.2.2.2.2.1) (by omega) (fun u hu => (HL.out u A2 ((lbelow_grown b23 (some g)).trans hu) HA2.out).1) (fun b hb => H.out.2.2.1 b (Nat.le_trans b23.size hb))
     rw [← HR.out.1] at hK
     have HK:=Lib.hid hK
     have H3:=Lib.hid (And.intro h3 b23)
     clear b3 b23 h3 hK HC
     go_wp2_with fail
     refine HK.out.mono ?_
     rintro e w4 ⟨rfl,hk4⟩
     try dsimp only at hk4
     obtain ⟨⟨cs4,k4⟩,g4⟩:=H3.out.1.kturn hk4 (Nat.le_succ _)
     have g04:=(lbelow_grown H3.out.2 (some g)).trans g4
     have hQ:=Qu.rest_any g 34 102 cs4 S.Q (N + 1) n A2 l2 (q - m) (c - m) w4 k4.qu (by omega) H.out.2.1 (Lib.hid H.out.2.2.2.2.2) (by omega) (fun u hu => (HL.out u A2 (g04.trans hu) HA2.out).2) (fun b hb => H.out.2.2.2.1 b (Nat.le_trans g04.size hb))
     rw [← HR.out.2] at hQ
     have HQ:=Lib.hid hQ
     have H4:=Lib.hid (And.intro k4 g04)
     clear hk4 k4 g4 g04 hQ HK
     go_wp2_with fail
     refine HQ.out.mono ?_
     rintro e w5 ⟨rfl,hk5⟩
     try dsimp only at hk5
     obtain ⟨⟨cs5,k5⟩,g5⟩:=H4.out.1.qturn hk5 (Nat.le_succ _)
     have g05:=H4.out.2.trans g5
     try dsimp only at k5
     have HBo:=Lib.hid (backout_any g 102 cs5 K1 (N + 2) n w5 k5.kv H.out.2.1)
     have H5:=Lib.hid (And.intro k5 g05)
     clear hk5 k5 g5 g05 HQ
     go_wp2_with fail
     refine HBo.out.mono ?_
     rintro e w6 ⟨rfl,hk6⟩
     obtain ⟨⟨cs6,k6⟩,g6⟩:=H5.out.1.kturn hk6 (Nat.le_refl _)
     have HX:Hid (ResO w g ⟨(backoutM K1 n).2,Q2,S.pr⟩ (N + 4) w6):=Lib.hid ⟨⟨cs6,k6.more (by omega)⟩,H5.out.2.trans g6⟩
     clear hk6 k6 g6
     go_wp2
     go_ret
     exact ⟨rfl,HX.out⟩
   ·rw [if_pos h0]
    have hb:(e1 != 0)=true:=by simpa using h0
    go_enter Tryz.func28,Tryz.ntmps28
    go_wp2_with fail
    refine HNm.out.mono ?_
    rintro e w1 ⟨rfl,rfl⟩
    go_wp2_with fail
    refine HP.out.mono ?_
    rintro e w2 ⟨⟨A2,rfl,hA2⟩,b2⟩
    have HA2:=Lib.hid hA2
    have hc2:=containsk_any A2 l2 (q - m) (c - m) (Lib.hid H.out.2.2.2.2.2) (by omega) w2 (HL.out w2 A2 (lbelow_grown b2 _) hA2).2
    rw [hk] at hc2
    have HC:=Lib.hid hc2
    have HB2:=Lib.hid b2
    clear hA2 b2 hc2
    go_wp2_with fail
    refine HC.out.mono ?_
    rintro e w3 ⟨rfl,b3⟩
    have b23:=bt HB2.out b3
    have h3:=H.out.1.below b23
    have hK:=restore_in g 102 cs S.K N n A l1 m c w3 h3.kv (by omega) H.out.2.1 (Lib.hid H.out.2.2.2.2.1) (by omega) (fun u hu => (HL.out u A2 ((lbelow_grown b23 (some g)).trans hu) HA2.out).1) (fun b hb => H.out.2.2.1 b (Nat.le_trans b23.size hb))
    rw [← HR.out.1] at hK
    have HK:=Lib.hid hK
    have H3:=Lib.hid (And.intro h3 b23)
    clear b3 b23 h3 hK HC
    go_wp2_with fail
    refine HK.out.mono ?_
    rintro e w4 ⟨rfl,hk4⟩
    try dsimp only at hk4
    obtain ⟨⟨cs4,k4⟩,g4⟩:=H3.out.1.kturn hk4 (Nat.le_succ _)
    have g04:=(lbelow_grown H3.out.2 (some g)).trans g4
    have HX:Hid (ResO w g { S with K:=K1 } (N + 4) w4):=Lib.hid ⟨⟨cs4,k4.more (by omega)⟩,g04⟩
    clear hk4 k4 g4 g04 HK
    go_wp2
    go_ret
    exact ⟨rfl,HX.out⟩
  ·rw [if_pos rfl]
   go_enter Tryz.func28,Tryz.ntmps28
   go_wp2_with fail
   refine HNm.out.mono ?_
   rintro e w1 ⟨rfl,rfl⟩
   go_wp2_with fail
   refine HP.out.mono ?_
   rintro e w2 ⟨⟨A2,rfl,hA2⟩,b2⟩
   have hc2:=containsk_any A2 l2 (q - m) (c - m) (Lib.hid H.out.2.2.2.2.2) (by omega) w2 (HL.out w2 A2 (lbelow_grown b2 _) hA2).2
   rw [hk] at hc2
   have HC:=Lib.hid hc2
   have HB2:=Lib.hid b2
   clear hA2 b2 hc2
   go_wp2_with fail
   refine HC.out.mono ?_
   rintro e w3 ⟨rfl,b3⟩
   have HX:=Lib.hid (ResO.same (H.out.1.more (by omega:N≤N + 4)) (bt HB2.out b3))
   clear b3
   go_wp2
   go_ret
   exact ⟨rfl,HX.out⟩
end Go.Proofs.YtlliaihmfimdoaaGreat.Re


namespace Go.Proofs.YtlliaihmfimdoaaGreat.Re
open Go.RowKit Go.Shelf Go.Maps Go.Deep Go.Proofs.YtlliaihmfimdoaaGreat
attribute [local go_sem] Oper.semAt_some
theorem ownC_grown {u u':World} {B:Nat} {A:Option Addr} {c:Nat} {l:List Ch} {row:Option Nat} (h:OwnC u B A c l) (hg:u.grownBy u' row) (hr:∀ r,row=some r→blk A≠some r):OwnC u' B A c l:=by
 refine World.ownsRow.kept h hg ?_
 rcases hb:(Value.slice A l.length c).ownBlock with _ | k
 ·exact .inl rfl
 ·rw [ownBlock_slice] at hb
  exact .inr (fun e => hr k e.symm hb)
section
variable {bs:List UInt8} {w W W':World} {B:Nat} {xs:List Nat}
end
end Go.Proofs.YtlliaihmfimdoaaGreat.Re

