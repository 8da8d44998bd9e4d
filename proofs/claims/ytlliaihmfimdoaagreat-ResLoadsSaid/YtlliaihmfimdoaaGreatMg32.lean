/- Parts R12 R13 F12 F13 of one proof. -/
import Derived.Test.YtlliaihmfimdoaaGreatMg26
import Derived.Test.YtlliaihmfimdoaaGreatMg04
import Derived.Test.YtlliaihmfimdoaaGreatMg27
set_option linter.unusedSimpArgs false
set_option linter.unusedVariables false
namespace Go.Proofs.YtlliaihmfimdoaaGreat.Qu
open Go.RowKit Go.Maps Go.Joins Go.Deep
def rightL (ws:List WI):List (Int × Nat)→List Ch→Bool
 | _,[] => true
 | P,c :: l => if c.k=3 then (c.y == 0) && rightL ws P l else if c.k=4 then (match P with
  | [] => false
  | y :: r => (y.1 == c.y) && ((y.2 == c.v) && ((takR ws c.y == 0) && rightL ws r l))) else false
def rightR (P:List (Int × Nat)) (ws:List WI) (gv:Int) (l:List Ch):Bool:=rightL ws P l && (decide (putsL l=0) || decide ((putsL l:Int)≤roomR P ws gv))
theorem rightL_step (ws:List WI) (P:List (Int × Nat)) (l:List Ch) (k i:Nat) (hi:i < l.length):rightL ws (P.drop k) (l.drop i)=if (l[i]'hi).k=3 then ((l[i]'hi).y == 0) && rightL ws (P.drop k) (l.drop (i + 1)) else if (l[i]'hi).k=4 then (if hk:k < P.length then ((P[k]'hk).1 == (l[i]'hi).y) && (((P[k]'hk).2 == (l[i]'hi).v) && ((takR ws (l[i]'hi).y == 0) && rightL ws (P.drop (k + 1)) (l.drop (i + 1)))) else false) else false:=by
 rw [List.drop_eq_getElem_cons hi]
 by_cases hk:k < P.length
 ·rw [List.drop_eq_getElem_cons hk,dif_pos hk]; rfl
 ·rw [List.drop_eq_nil_of_le (by omega:P.length≤k),dif_neg hk]; rfl
end Go.Proofs.YtlliaihmfimdoaaGreat.Qu


namespace Go.Proofs.YtlliaihmfimdoaaGreat.Qu
open Go.RowKit Go.Maps Go.Joins Go.Deep
def restR (P:List (Int × Nat)) (ws:List WI) (gv n:Int) (l:List Ch):Int:=if n < 1 then 1 else if rightR P ws gv l=false then 1 else if (findW ws n).isSome then 7 else 0
end Go.Proofs.YtlliaihmfimdoaaGreat.Qu


namespace Go.Proofs.YtlliaihmfimdoaaGreat.Qu.Dq
variable {E:Value × Value × Value}
open Go.RowKit Go.Maps Go.Joins Go.Deep
def VRtA (xq nP cP k:Nat) (AP:Option Addr) (i:Nat) (v:Value) (w:World):Prop :=
 match i with
 | 0 => v=.int .i64 k
 | 1 => v=.pointer (some ⟨xq,3,none⟩)
 | 2 => v=.pointer (some ⟨xq,3,none⟩)
 | 3 => v=.pointer (some ⟨xq,3,none⟩)
 | 4 => v=.slice AP nP cP
 | 5 => v=.int .i64 nP
 | 6 => v=.bool true
 | 7 => v=.bool true
 | 8 => v=undef
 | 9 => v=undef
 | 10 => v=undef
 | 11 => v=undef
 | 12 => v=undef
 | 13 => v=undef
 | 14 => v=undef
 | 15 => v=undef
 | 16 => v=undef
 | 17 => v=undef
 | 18 => v=undef
 | 19 => v=.bool true
 | 20 => v=.bool true
 | 21 => v=undef
 | 22 => v=undef
 | 23 => v=undef
 | 24 => v=undef
 | 25 => v=undef
 | 26 => v=undef
 | 27 => v=undef
 | 28 => v=undef
 | 29 => v=undef
 | 30 => v=undef
 | 31 => v=undef
 | 32 => v=.bool true
 | 33 => v=.bool true
 | 34 => v=undef
 | 35 => v=undef
 | 36 => v=undef
 | 37 => v=undef
 | 38 => v=undef
 | 39 => v=.bool true
 | _ => True
theorem VRtA.mono {xq nP cP k:Nat} {AP:Option Addr} {q i:Nat} {v:Value} {u u':World} (he:Below u.heap.size u u') (h:VRtA xq nP cP k AP i v u):VRtA xq nP cP k AP i v u':=by
 unfold VRtA at h ⊢
 split at h <;> exact h
def VRtB (xq bc k nP cP b:Nat) (AP:Option Addr) (yn cy:Int) (yv cv:Nat) (tk:Int) (i:Nat) (v:Value) (w:World):Prop :=
 match i with
 | 0 => v=.int .i64 k
 | 1 => v=.pointer (some ⟨xq,3,none⟩)
 | 2 => v=.pointer (some ⟨xq,3,none⟩)
 | 3 => v=.pointer (some ⟨xq,3,none⟩)
 | 4 => v=.slice (some ⟨b,0,none⟩) nP cP
 | 5 => v=.int .i64 nP
 | 6 => v=.bool false
 | 7 => v=.bool false
 | 8 => v=.pointer (some ⟨xq,3,none⟩)
 | 9 => v=.pointer (some ⟨xq,3,none⟩)
 | 10 => v=.pointer (some ⟨xq,3,none⟩)
 | 11 => v=.slice (some ⟨b,0,none⟩) nP cP
 | 12 => v=.int .i64 k
 | 13 => v=.pointer (some ⟨b,0 + k * 2,none⟩)
 | 14 => v=.pointer (some ⟨b,0 + k * 2,none⟩)
 | 15 => v=.int .i64 yn
 | 16 => v=.pointer (some ⟨bc,1,none⟩)
 | 17 => v=.int .i64 cy
 | 18 => v=.bool true
 | 19 => v=.bool true
 | 20 => v=.bool true
 | 21 => v=undef
 | 22 => v=undef
 | 23 => v=undef
 | 24 => v=undef
 | 25 => v=undef
 | 26 => v=undef
 | 27 => v=undef
 | 28 => v=undef
 | 29 => v=undef
 | 30 => v=undef
 | 31 => v=undef
 | 32 => v=.bool true
 | 33 => v=.bool true
 | 34 => v=undef
 | 35 => v=undef
 | 36 => v=undef
 | 37 => v=undef
 | 38 => v=undef
 | 39 => v=.bool true
 | _ => True
theorem VRtB.mono {xq bc k nP cP b:Nat} {AP:Option Addr} {yn cy:Int} {yv cv:Nat} {tk:Int} {q i:Nat} {v:Value} {u u':World} (he:Below u.heap.size u u') (h:VRtB xq bc k nP cP b AP yn cy yv cv tk i v u):VRtB xq bc k nP cP b AP yn cy yv cv tk i v u':=by
 unfold VRtB at h ⊢
 split at h <;> exact h
def VRtC (xq bc k nP cP b:Nat) (AP:Option Addr) (yn cy:Int) (yv cv:Nat) (tk:Int) (i:Nat) (v:Value) (w:World):Prop :=
 match i with
 | 0 => v=.int .i64 k
 | 1 => v=.pointer (some ⟨xq,3,none⟩)
 | 2 => v=.pointer (some ⟨xq,3,none⟩)
 | 3 => v=.pointer (some ⟨xq,3,none⟩)
 | 4 => v=.slice (some ⟨b,0,none⟩) nP cP
 | 5 => v=.int .i64 nP
 | 6 => v=.bool false
 | 7 => v=.bool false
 | 8 => v=.pointer (some ⟨xq,3,none⟩)
 | 9 => v=.pointer (some ⟨xq,3,none⟩)
 | 10 => v=.pointer (some ⟨xq,3,none⟩)
 | 11 => v=.slice (some ⟨b,0,none⟩) nP cP
 | 12 => v=.int .i64 k
 | 13 => v=.pointer (some ⟨b,0 + k * 2,none⟩)
 | 14 => v=.pointer (some ⟨b,0 + k * 2,none⟩)
 | 15 => v=.int .i64 yn
 | 16 => v=.pointer (some ⟨bc,1,none⟩)
 | 17 => v=.int .i64 cy
 | 18 => v=.bool false
 | 19 => v=.bool false
 | 20 => v=.bool false
 | 21 => v=.pointer (some ⟨xq,3,none⟩)
 | 22 => v=.pointer (some ⟨xq,3,none⟩)
 | 23 => v=.pointer (some ⟨xq,3,none⟩)
 | 24 => v=.slice (some ⟨b,0,none⟩) nP cP
 | 25 => v=.int .i64 k
 | 26 => v=.pointer (some ⟨b,0 + k * 2,none⟩)
 | 27 => v=.pointer (some ⟨b,0 + k * 2 + 1,none⟩)
 | 28 => v=.int .u64 (yv:Nat)
 | 29 => v=.pointer (some ⟨bc,2,none⟩)
 | 30 => v=.int .u64 (cv:Nat)
 | 31 => v=.bool true
 | 32 => v=.bool true
 | 33 => v=.bool true
 | 34 => v=undef
 | 35 => v=undef
 | 36 => v=undef
 | 37 => v=undef
 | 38 => v=undef
 | 39 => v=.bool true
 | _ => True
theorem VRtC.mono {xq bc k nP cP b:Nat} {AP:Option Addr} {yn cy:Int} {yv cv:Nat} {tk:Int} {q i:Nat} {v:Value} {u u':World} (he:Below u.heap.size u u') (h:VRtC xq bc k nP cP b AP yn cy yv cv tk i v u):VRtC xq bc k nP cP b AP yn cy yv cv tk i v u':=by
 unfold VRtC at h ⊢
 split at h <;> exact h
def VRtD (xq bc k nP cP b:Nat) (AP:Option Addr) (yn cy:Int) (yv cv:Nat) (tk:Int) (i:Nat) (v:Value) (w:World):Prop :=
 match i with
 | 0 => v=.int .i64 k
 | 1 => v=.pointer (some ⟨xq,3,none⟩)
 | 2 => v=.pointer (some ⟨xq,3,none⟩)
 | 3 => v=.pointer (some ⟨xq,3,none⟩)
 | 4 => v=.slice (some ⟨b,0,none⟩) nP cP
 | 5 => v=.int .i64 nP
 | 6 => v=.bool false
 | 7 => v=.bool false
 | 8 => v=.pointer (some ⟨xq,3,none⟩)
 | 9 => v=.pointer (some ⟨xq,3,none⟩)
 | 10 => v=.pointer (some ⟨xq,3,none⟩)
 | 11 => v=.slice (some ⟨b,0,none⟩) nP cP
 | 12 => v=.int .i64 k
 | 13 => v=.pointer (some ⟨b,0 + k * 2,none⟩)
 | 14 => v=.pointer (some ⟨b,0 + k * 2,none⟩)
 | 15 => v=.int .i64 yn
 | 16 => v=.pointer (some ⟨bc,1,none⟩)
 | 17 => v=.int .i64 cy
 | 18 => v=.bool false
 | 19 => v=.bool false
 | 20 => v=.bool false
 | 21 => v=.pointer (some ⟨xq,3,none⟩)
 | 22 => v=.pointer (some ⟨xq,3,none⟩)
 | 23 => v=.pointer (some ⟨xq,3,none⟩)
 | 24 => v=.slice (some ⟨b,0,none⟩) nP cP
 | 25 => v=.int .i64 k
 | 26 => v=.pointer (some ⟨b,0 + k * 2,none⟩)
 | 27 => v=.pointer (some ⟨b,0 + k * 2 + 1,none⟩)
 | 28 => v=.int .u64 (yv:Nat)
 | 29 => v=.pointer (some ⟨bc,2,none⟩)
 | 30 => v=.int .u64 (cv:Nat)
 | 31 => v=.bool false
 | 32 => v=.bool false
 | 33 => v=.bool false
 | 34 => v=.pointer (some ⟨xq,3,none⟩)
 | 35 => v=.pointer (some ⟨bc,1,none⟩)
 | 36 => v=.int .i64 cy
 | 37 => v=.int .i64 tk
 | 38 => v=.bool true
 | 39 => v=.bool true
 | _ => True
theorem VRtD.mono {xq bc k nP cP b:Nat} {AP:Option Addr} {yn cy:Int} {yv cv:Nat} {tk:Int} {q i:Nat} {v:Value} {u u':World} (he:Below u.heap.size u u') (h:VRtD xq bc k nP cP b AP yn cy yv cv tk i v u):VRtD xq bc k nP cP b AP yn cy yv cv tk i v u':=by
 unfold VRtD at h ⊢
 split at h <;> exact h
def VRtE (xq bc k nP cP b:Nat) (AP:Option Addr) (yn cy:Int) (yv cv:Nat) (tk:Int) (i:Nat) (v:Value) (w:World):Prop :=
 match i with
 | 0 => v=.int .i64 k
 | 1 => v=.pointer (some ⟨xq,3,none⟩)
 | 2 => v=.pointer (some ⟨xq,3,none⟩)
 | 3 => v=.pointer (some ⟨xq,3,none⟩)
 | 4 => v=.slice (some ⟨b,0,none⟩) nP cP
 | 5 => v=.int .i64 nP
 | 6 => v=.bool false
 | 7 => v=.bool false
 | 8 => v=.pointer (some ⟨xq,3,none⟩)
 | 9 => v=.pointer (some ⟨xq,3,none⟩)
 | 10 => v=.pointer (some ⟨xq,3,none⟩)
 | 11 => v=.slice (some ⟨b,0,none⟩) nP cP
 | 12 => v=.int .i64 k
 | 13 => v=.pointer (some ⟨b,0 + k * 2,none⟩)
 | 14 => v=.pointer (some ⟨b,0 + k * 2,none⟩)
 | 15 => v=.int .i64 yn
 | 16 => v=.pointer (some ⟨bc,1,none⟩)
 | 17 => v=.int .i64 cy
 | 18 => v=.bool false
 | 19 => v=.bool false
 | 20 => v=.bool false
 | 21 => v=.pointer (some ⟨xq,3,none⟩)
 | 22 => v=.pointer (some ⟨xq,3,none⟩)
 | 23 => v=.pointer (some ⟨xq,3,none⟩)
 | 24 => v=.slice (some ⟨b,0,none⟩) nP cP
 | 25 => v=.int .i64 k
 | 26 => v=.pointer (some ⟨b,0 + k * 2,none⟩)
 | 27 => v=.pointer (some ⟨b,0 + k * 2 + 1,none⟩)
 | 28 => v=.int .u64 (yv:Nat)
 | 29 => v=.pointer (some ⟨bc,2,none⟩)
 | 30 => v=.int .u64 (cv:Nat)
 | 31 => v=.bool false
 | 32 => v=.bool false
 | 33 => v=.bool false
 | 34 => v=.pointer (some ⟨xq,3,none⟩)
 | 35 => v=.pointer (some ⟨bc,1,none⟩)
 | 36 => v=.int .i64 cy
 | 37 => v=.int .i64 tk
 | 38 => v=.bool false
 | 39 => v=.bool false
 | _ => True
theorem VRtE.mono {xq bc k nP cP b:Nat} {AP:Option Addr} {yn cy:Int} {yv cv:Nat} {tk:Int} {q i:Nat} {v:Value} {u u':World} (he:Below u.heap.size u u') (h:VRtE xq bc k nP cP b AP yn cy yv cv tk i v u):VRtE xq bc k nP cP b AP yn cy yv cv tk i v u':=by
 unfold VRtE at h ⊢
 split at h <;> exact h
set_option maxRecDepth 100000 in
set_option maxHeartbeats 2000000 in
theorem rright_any (B xq:Nat) (P:List (Int × Nat)) (ws:List WI) (gv:Int) (A:Option Addr) (l:List Ch) (n c:Nat) (w:World) (h:RQ E w B xq P ws gv) (hg:0≤gv∧gv≤4611686018427387904) (hn:Hid (n=l.length)) (hm:n≤1000000) (hL:InL w A l) :
  Calls Tryz.prog 138 #[.pointer (some ⟨xq,3,none⟩),.slice A n c] w fun e w' => e=.returned (.bool (rightR P ws gv l))∧Below w.heap.size w w':=by
 obtain ⟨nP,hnP⟩:∃ nP,nP=P.length:=⟨_,rfl⟩
 have hP1:nP≤48:=by rw [hnP]; exact h.sm.1
 have HN:=Lib.hid hnP
 have H:=Lib.hid (And.intro h (And.intro hg hL))
 obtain ⟨R,hR⟩:∃ R,R=rightR P ws gv l:=⟨_,rfl⟩
 rw [← hR]
 have HR0:=Lib.hid hR
 have HI:Hid (rightL ws (P.drop 0) (l.drop 0)=rightL ws P l∧Below w.heap.size w w):=Lib.hid ⟨rfl,Below.refl _ _⟩
 clear h hg hnP hL hR
 go_enter Tryz.func138,Tryz.ntmps138
 go_wp2_with fail
 go_loopw [5,6] (fun kv iv wr => ∃ (k i:Nat),i≤n∧k≤nP∧kv=.int .i64 k∧iv=.int .i64 i∧Hid (rightL ws (P.drop k) (l.drop i)=rightL ws P l∧Below w.heap.size w wr)) (fun _ iv _ => n - (intOf iv).toNat)
 case atStart => exact ⟨0,0,Nat.zero_le _,Nat.zero_le _,rfl,rfl,HI⟩
 case round =>
  clear HI
  obtain ⟨k,i,hi,hkP,rfl,rfl,HR⟩:=hrel
  have hr:=H.out.1.below HR.out.2
  by_cases hin:i < n
  ·have hiI:(i:Int) < (n:Int):=by omega
   have hil:i < l.length:=by rw [← hn.out]; exact hin
   obtain ⟨bl,o,hA,_,hcs⟩:=(H.out.2.2.below HR.out.2) (by omega)
   obtain ⟨q0,q1,q2⟩:=hcs i hil
   have hst:=rightL_step ws P l k i hil
   rw [HR.out.1] at hst
   obtain ⟨c',hc⟩:∃ c',c'=l[i]'hil:=⟨_,rfl⟩
   rw [← hc] at q0 q1 q2 hst
   obtain ⟨ck,cy,cv⟩:=c'
   dsimp only at q0 q1 q2 hst
   obtain ⟨w2,hw2⟩:∃ w2,w2=wr.alloc (.cells #[.int .i64 ck,.int .i64 cy,.int .u64 (cv:Nat)] 74):=⟨_,rfl⟩
   have b2:Below wr.heap.size wr w2:=by rw [hw2]; exact ba _ _
   obtain ⟨bc,hbc⟩:∃ bc,bc=wr.heap.size:=⟨_,rfl⟩
   have k2:Blk w2 bc 74 #[.int .i64 ck,.int .i64 cy,.int .u64 (cv:Nat)]:=by rw [hw2,hbc]; exact Blk.new _ _ _
   have HB2:=Lib.hid (bt HR.out.2 b2)
   have HF:Hid (rightL ws P l=false→R=false):=Lib.hid (fun e => by rw [HR0.out]; unfold rightR; rw [e]; rfl)
   have HW2:=Lib.hid hw2
   have Hbc:=Lib.hid hbc
   subst hA
   by_cases h3:ck=3
   ·rw [if_pos h3] at hst
    subst h3
    by_cases hy:cy=0
    ·subst hy
     have HN2:Hid (rightL ws (P.drop k) (l.drop (i + 1))=rightL ws P l∧Below w.heap.size w w2):=Lib.hid ⟨by rw [hst]; simp,HB2.out⟩
     clear hr hil hcs hst hc hw2 b2 hbc k2 HR
     go_wp2
     rw [← HW2.out]
     go_roundw
     case rel => exact ⟨k,i + 1,by omega,by omega,rfl,by go_num,HN2⟩
     case measure => simp [intOf]; omega
    ·have hyb:(cy != 0)=true:=by simpa using hy
     have HX:Hid (R=false):=Lib.hid (HF.out (by rw [hst]; simp [hy]))
     clear hr hil hcs hst hc hw2 b2 hbc k2 HR
     go_wp2
     rw [← HW2.out]
     go_ret
     exact ⟨by rw [HX.out]; rfl,HB2.out⟩
   ·rw [if_neg h3] at hst
    have h3b:(ck != 3)=true:=by simpa using h3
    have h3c:(ck == 3)=false:=by simpa using h3
    by_cases h4:ck=4
    ·rw [if_pos h4] at hst
     subst h4
     have HTk:=Lib.hid (fun u (hu:Below w2.heap.size w2 u) => rtaker_any B xq P ws gv cy u (hr.below (bt b2 hu)))
     obtain ⟨tk,htk⟩:∃ tk,tk=takR ws cy:=⟨_,rfl⟩
     rw [← htk] at HTk hst
     have d1:=k2.cell 1
     have d2:=k2.cell 2
     simp only [List.getElem?_toArray,List.getElem?_cons_zero,List.getElem?_cons_succ] at d1 d2
     obtain ⟨AP,cP,r0⟩:=(hr.below b2).ilen
     rw [← HN.out] at r0
     have hxl:=World.block_lt_of_cell? _ _ r0
     have hbl:=k2.lt
     have HY:=Lib.hid (And.intro hst (hr.below b2))
     clear h3b h3c h3 hr hil hcs hst hc hw2 b2 hbc k2 HR
     go_wp2_with fail
     rw [← HW2.out,← Hbc.out]
     clear q0 q1 q2
     have hst:=HY.out.1
     by_cases hk:k < nP
     ·have hkL:k < P.length:=by rw [← HN.out]; exact hk
      rw [dif_pos hkL] at hst
      have hkI:decide ((nP:Int)≤(k:Int))=false:=decide_eq_false (by omega)
      have hkN:decide (nP≤k)=false:=decide_eq_false (by omega)
      obtain ⟨b,cP',r0',r1,r2,hbb⟩:=HY.out.2.item k hkL
      rw [← HN.out] at r0'
      obtain ⟨rfl,rfl⟩:AP=some ⟨b,0,none⟩∧cP=cP':=by rw [r0] at r0'; cases r0'; exact ⟨rfl,rfl⟩
      obtain ⟨y,hy⟩:∃ y,y=P[k]'hkL:=⟨_,rfl⟩
      rw [← hy] at r1 r2 hst
      obtain ⟨yn,yv⟩:=y
      dsimp only at r1 r2 hst
      have HZ:=Lib.hid (And.intro hxl (And.intro hbb hbl))
      have Hz0:=Lib.hid r0
      have Hz1:=Lib.hid r1
      have Hz2:=Lib.hid r2
      have Hz3:=Lib.hid d1
      have Hz4:=Lib.hid d2
      have HS:=Lib.hid hst
      clear HY r0 r0' r1 r2 d1 d2 hxl hbl hbb hkL hy htk hst
      by_cases e1:yn=cy
      ·by_cases e2:yv=cv
       ·by_cases e3:tk=0
        ·have HN2:Hid (rightL ws (P.drop (k + 1)) (l.drop (i + 1))=rightL ws P l):=Lib.hid (by rw [HS.out]; simp [e1,e2,e3])
         have e1b:(yn != cy)=false:=by simpa using e1
         have e2b:((yv:Int) != (cv:Int))=false:=by simp [e2]
         have e3b:(tk != 0)=false:=by simpa using e3
         clear e1 e2 e3
         refine wp_region_invT (F:=?FE) (V:=VRtE xq bc k nP cP b (some ⟨b,0,none⟩) yn cy yv cv tk) (dead:=fun _ => none) (T:=fun _ _ => True) (C:=fun u => Below w2.heap.size w2 u) (E:=fun _ u u' => Below u.heap.size u u') (by kernel_rfl) (by kernel_rfl) (by kernel_rfl) (fun x => ?hFE) ?hmonoE ?hTmE ?hTE ?hCE ?stepE ?finE
         case hFE => simp only [mkA,Act.put,List.setIfInBounds_toArray,List.set_cons_succ,List.set_cons_zero,Nat.reduceAdd,Nat.zero_add]; first | with_reducible rfl | rfl
         case hmonoE => exact fun q' i v u u' he hik hwt hdd hv => VRtE.mono (q:=q') he hv
         case hTmE => exact fun _ _ _ _ _ _ _ _ => trivial
         case hTE => exact fun j => trivial
         case hCE => exact (Below.refl _ _).drew
         case stepE =>
          refine AllOps.cons (fun x u hC hT hp K hK => ?_) ?_
          ·clear hp hT
           go_simp
           refine hK _ _ _ hC (Below.refl _ _) (by exact rfl) ?_
           first | (simp only [Act.put,List.setIfInBounds_toArray,List.set_cons_succ,List.set_cons_zero]; done) | simp [Act.put]
          refine AllOps.cons (fun x u hC hT hp K hK => ?_) ?_
          ·clear hp hT
           go_simp
           refine hK _ _ _ hC (Below.refl _ _) (by exact rfl) ?_
           first | (simp only [Act.put,List.setIfInBounds_toArray,List.set_cons_succ,List.set_cons_zero]; done) | simp [Act.put]
          refine AllOps.cons (fun x u hC hT hp K hK => ?_) ?_
          ·simp [KnownTill,Region.binds,VRtE] at hp
           clear hT
           go_simp
           refine hK _ _ _ hC (Below.refl _ _) (by exact rfl) ?_
           first | (simp only [Act.put,List.setIfInBounds_toArray,List.set_cons_succ,List.set_cons_zero,hp]; done) | simp [Act.put,hp]
          refine AllOps.cons (fun x u hC hT hp K hK => ?_) ?_
          ·simp [KnownTill,Region.binds,VRtE] at hp
           clear hT
           go_simp
           refine hK _ _ _ hC (Below.refl _ _) (by exact rfl) ?_
           first | (simp only [Act.put,List.setIfInBounds_toArray,List.set_cons_succ,List.set_cons_zero,hp]; done) | simp [Act.put,hp]
          refine AllOps.cons (fun x u hC hT hp K hK => ?_) ?_
          ·simp [KnownTill,Region.binds,VRtE] at hp
           clear hT
           have qq:=(show Below w2.heap.size w2 u from hC).cell (p:=⟨xq,3,none⟩) HZ.out.1
           rw [Hz0.out] at qq
           go_simp
           refine hK _ _ _ hC (Below.refl _ _) (by exact rfl) ?_
           first | (simp only [Act.put,List.setIfInBounds_toArray,List.set_cons_succ,List.set_cons_zero,hp]; done) | simp [Act.put,hp]
          refine AllOps.cons (fun x u hC hT hp K hK => ?_) ?_
          ·simp [KnownTill,Region.binds,VRtE] at hp
           clear hT
           go_simp
           refine hK _ _ _ hC (Below.refl _ _) (by exact rfl) ?_
           first | (simp only [Act.put,List.setIfInBounds_toArray,List.set_cons_succ,List.set_cons_zero,hp]; done) | simp [Act.put,hp]
          refine AllOps.cons (fun x u hC hT hp K hK => ?_) ?_
          ·simp [KnownTill,Region.binds,VRtE] at hp
           clear hT
           go_simp
           refine hK _ _ _ hC (Below.refl _ _) (by exact (by first | exact rfl | simp)) ?_
           first | (simp only [Act.put,List.setIfInBounds_toArray,List.set_cons_succ,List.set_cons_zero,hp]; done) | simp [Act.put,hp]
          refine AllOps.cons (fun x u hC hT hp K hK => ?_) ?_
          ·simp [KnownTill,Region.binds,VRtE] at hp
           clear hT
           go_simp
           refine hK _ _ _ hC (Below.refl _ _) (by exact rfl) ?_
           first | (simp only [Act.put,List.setIfInBounds_toArray,List.set_cons_succ,List.set_cons_zero,hp]; done) | simp [Act.put,hp]
          refine AllOps.cons (fun x u hC hT hp K hK => ?_) ?_
          ·simp [KnownTill,Region.binds,VRtE] at hp
           clear hT
           go_simp
           refine hK _ _ _ hC (Below.refl _ _) (by exact rfl) ?_
           first | (simp only [Act.put,List.setIfInBounds_toArray,List.set_cons_succ,List.set_cons_zero,hp]; done) | simp [Act.put,hp]
          refine AllOps.cons (fun x u hC hT hp K hK => ?_) ?_
          ·simp [KnownTill,Region.binds,VRtE] at hp
           clear hT
           go_simp
           refine hK _ _ _ hC (Below.refl _ _) (by exact rfl) ?_
           first | (simp only [Act.put,List.setIfInBounds_toArray,List.set_cons_succ,List.set_cons_zero,hp]; done) | simp [Act.put,hp]
          refine AllOps.cons (fun x u hC hT hp K hK => ?_) ?_
          ·simp [KnownTill,Region.binds,VRtE] at hp
           clear hT
           go_simp
           refine hK _ _ _ hC (Below.refl _ _) (by exact rfl) ?_
           first | (simp only [Act.put,List.setIfInBounds_toArray,List.set_cons_succ,List.set_cons_zero,hp]; done) | simp [Act.put,hp]
          refine AllOps.cons (fun x u hC hT hp K hK => ?_) ?_
          ·simp [KnownTill,Region.binds,VRtE] at hp
           clear hT
           have qq:=(show Below w2.heap.size w2 u from hC).cell (p:=⟨xq,3,none⟩) HZ.out.1
           rw [Hz0.out] at qq
           go_simp
           refine hK _ _ _ hC (Below.refl _ _) (by exact rfl) ?_
           first | (simp only [Act.put,List.setIfInBounds_toArray,List.set_cons_succ,List.set_cons_zero,hp]; done) | simp [Act.put,hp]
          refine AllOps.cons (fun x u hC hT hp K hK => ?_) ?_
          ·simp [KnownTill,Region.binds,VRtE] at hp
           clear hT
           go_simp
           refine hK _ _ _ hC (Below.refl _ _) (by exact rfl) ?_
           first | (simp only [Act.put,List.setIfInBounds_toArray,List.set_cons_succ,List.set_cons_zero,hp]; done) | simp [Act.put,hp]
          refine AllOps.cons (fun x u hC hT hp K hK => ?_) ?_
          ·simp [KnownTill,Region.binds,VRtE] at hp
           clear hT
           go_simp
           refine hK _ _ _ hC (Below.refl _ _) (by exact rfl) ?_
           first | (simp only [Act.put,List.setIfInBounds_toArray,List.set_cons_succ,List.set_cons_zero,hp]; done) | simp [Act.put,hp]
          refine AllOps.cons (fun x u hC hT hp K hK => ?_) ?_
          ·simp [KnownTill,Region.binds,VRtE] at hp
           clear hT
           go_simp
           refine hK _ _ _ hC (Below.refl _ _) (by exact rfl) ?_
           first | (simp only [Act.put,List.setIfInBounds_toArray,List.set_cons_succ,List.set_cons_zero,hp]; done) | simp [Act.put,hp]
          refine AllOps.cons (fun x u hC hT hp K hK => ?_) ?_
          ·simp [KnownTill,Region.binds,VRtE] at hp
           clear hT
           have qq:=(show Below w2.heap.size w2 u from hC).cell (p:=⟨b,k * 2,none⟩) HZ.out.2.1
           rw [Hz1.out] at qq
           go_simp
           refine hK _ _ _ hC (Below.refl _ _) (by exact rfl) ?_
           first | (simp only [Act.put,List.setIfInBounds_toArray,List.set_cons_succ,List.set_cons_zero,hp]; done) | simp [Act.put,hp]
          refine AllOps.cons (fun x u hC hT hp K hK => ?_) ?_
          ·simp [KnownTill,Region.binds,VRtE] at hp
           clear hT
           go_simp
           refine hK _ _ _ hC (Below.refl _ _) (by exact rfl) ?_
           first | (simp only [Act.put,List.setIfInBounds_toArray,List.set_cons_succ,List.set_cons_zero,hp]; done) | simp [Act.put,hp]
          refine AllOps.cons (fun x u hC hT hp K hK => ?_) ?_
          ·simp [KnownTill,Region.binds,VRtE] at hp
           clear hT
           have qq:=(show Below w2.heap.size w2 u from hC).cell (p:=⟨bc,1,none⟩) HZ.out.2.2
           rw [Hz3.out] at qq
           go_simp
           refine hK _ _ _ hC (Below.refl _ _) (by exact rfl) ?_
           first | (simp only [Act.put,List.setIfInBounds_toArray,List.set_cons_succ,List.set_cons_zero,hp]; done) | simp [Act.put,hp]
          refine AllOps.cons (fun x u hC hT hp K hK => ?_) ?_
          ·simp [KnownTill,Region.binds,VRtE] at hp
           clear hT
           go_simp
           refine hK _ _ _ hC (Below.refl _ _) (by exact (by first | exact rfl | simp)) ?_
           first | (simp only [Act.put,List.setIfInBounds_toArray,List.set_cons_succ,List.set_cons_zero,hp]; done) | simp [Act.put,hp]
          refine AllOps.cons (fun x u hC hT hp K hK => ?_) ?_
          ·simp [KnownTill,Region.binds,VRtE] at hp
           clear hT
           go_simp
           refine hK _ _ _ hC (Below.refl _ _) (by exact (by first | exact rfl | simp)) ?_
           first | (simp only [Act.put,List.setIfInBounds_toArray,List.set_cons_succ,List.set_cons_zero,hp]; done) | simp [Act.put,hp]
          refine AllOps.cons (fun x u hC hT hp K hK => ?_) ?_
          ·simp [KnownTill,Region.binds,VRtE] at hp
           clear hT
           go_simp
           refine hK _ _ _ hC (Below.refl _ _) (by exact rfl) ?_
           first | (simp only [Act.put,List.setIfInBounds_toArray,List.set_cons_succ,List.set_cons_zero,hp]; done) | simp [Act.put,hp]
          refine AllOps.cons (fun x u hC hT hp K hK => ?_) ?_
          ·simp [KnownTill,Region.binds,VRtE] at hp
           clear hT
           go_simp
           refine hK _ _ _ hC (Below.refl _ _) (by exact rfl) ?_
           first | (simp only [Act.put,List.setIfInBounds_toArray,List.set_cons_succ,List.set_cons_zero,hp]; done) | simp [Act.put,hp]
          refine AllOps.cons (fun x u hC hT hp K hK => ?_) ?_
          ·simp [KnownTill,Region.binds,VRtE] at hp
           clear hT
           go_simp
           refine hK _ _ _ hC (Below.refl _ _) (by exact rfl) ?_
           first | (simp only [Act.put,List.setIfInBounds_toArray,List.set_cons_succ,List.set_cons_zero,hp]; done) | simp [Act.put,hp]
          refine AllOps.cons (fun x u hC hT hp K hK => ?_) ?_
          ·simp [KnownTill,Region.binds,VRtE] at hp
           clear hT
           go_simp
           refine hK _ _ _ hC (Below.refl _ _) (by exact rfl) ?_
           first | (simp only [Act.put,List.setIfInBounds_toArray,List.set_cons_succ,List.set_cons_zero,hp]; done) | simp [Act.put,hp]
          refine AllOps.cons (fun x u hC hT hp K hK => ?_) ?_
          ·simp [KnownTill,Region.binds,VRtE] at hp
           clear hT
           have qq:=(show Below w2.heap.size w2 u from hC).cell (p:=⟨xq,3,none⟩) HZ.out.1
           rw [Hz0.out] at qq
           go_simp
           refine hK _ _ _ hC (Below.refl _ _) (by exact rfl) ?_
           first | (simp only [Act.put,List.setIfInBounds_toArray,List.set_cons_succ,List.set_cons_zero,hp]; done) | simp [Act.put,hp]
          refine AllOps.cons (fun x u hC hT hp K hK => ?_) ?_
          ·simp [KnownTill,Region.binds,VRtE] at hp
           clear hT
           go_simp
           refine hK _ _ _ hC (Below.refl _ _) (by exact rfl) ?_
           first | (simp only [Act.put,List.setIfInBounds_toArray,List.set_cons_succ,List.set_cons_zero,hp]; done) | simp [Act.put,hp]
          refine AllOps.cons (fun x u hC hT hp K hK => ?_) ?_
          ·simp [KnownTill,Region.binds,VRtE] at hp
           clear hT
           go_simp
           refine hK _ _ _ hC (Below.refl _ _) (by exact rfl) ?_
           first | (simp only [Act.put,List.setIfInBounds_toArray,List.set_cons_succ,List.set_cons_zero,hp]; done) | simp [Act.put,hp]
          refine AllOps.cons (fun x u hC hT hp K hK => ?_) ?_
          ·simp [KnownTill,Region.binds,VRtE] at hp
           clear hT
           go_simp
           refine hK _ _ _ hC (Below.refl _ _) (by exact rfl) ?_
           first | (simp only [Act.put,List.setIfInBounds_toArray,List.set_cons_succ,List.set_cons_zero,hp]; done) | simp [Act.put,hp]
          refine AllOps.cons (fun x u hC hT hp K hK => ?_) ?_
          ·simp [KnownTill,Region.binds,VRtE] at hp
           clear hT
           have qq:=(show Below w2.heap.size w2 u from hC).cell (p:=⟨b,k * 2 + 1,none⟩) HZ.out.2.1
           rw [Hz2.out] at qq
           go_simp
           refine hK _ _ _ hC (Below.refl _ _) (by exact rfl) ?_
           first | (simp only [Act.put,List.setIfInBounds_toArray,List.set_cons_succ,List.set_cons_zero,hp]; done) | simp [Act.put,hp]
          refine AllOps.cons (fun x u hC hT hp K hK => ?_) ?_
          ·simp [KnownTill,Region.binds,VRtE] at hp
           clear hT
           go_simp
           refine hK _ _ _ hC (Below.refl _ _) (by exact rfl) ?_
           first | (simp only [Act.put,List.setIfInBounds_toArray,List.set_cons_succ,List.set_cons_zero,hp]; done) | simp [Act.put,hp]
          refine AllOps.cons (fun x u hC hT hp K hK => ?_) ?_
          ·simp [KnownTill,Region.binds,VRtE] at hp
           clear hT
           have qq:=(show Below w2.heap.size w2 u from hC).cell (p:=⟨bc,2,none⟩) HZ.out.2.2
           rw [Hz4.out] at qq
           go_simp
           refine hK _ _ _ hC (Below.refl _ _) (by exact rfl) ?_
           first | (simp only [Act.put,List.setIfInBounds_toArray,List.set_cons_succ,List.set_cons_zero,hp]; done) | simp [Act.put,hp]
          refine AllOps.cons (fun x u hC hT hp K hK => ?_) ?_
          ·simp [KnownTill,Region.binds,VRtE] at hp
           clear hT
           go_simp
           refine hK _ _ _ hC (Below.refl _ _) (by exact (by first | exact rfl | simp)) ?_
           first | (simp only [Act.put,List.setIfInBounds_toArray,List.set_cons_succ,List.set_cons_zero,hp]; done) | simp [Act.put,hp]
          refine AllOps.cons (fun x u hC hT hp K hK => ?_) ?_
          ·simp [KnownTill,Region.binds,VRtE] at hp
           clear hT
           go_simp
           refine hK _ _ _ hC (Below.refl _ _) (by exact (by first | exact rfl | simp)) ?_
           first | (simp only [Act.put,List.setIfInBounds_toArray,List.set_cons_succ,List.set_cons_zero,hp]; done) | simp [Act.put,hp]
          refine AllOps.cons (fun x u hC hT hp K hK => ?_) ?_
          ·simp [KnownTill,Region.binds,VRtE] at hp
           clear hT
           go_simp
           refine hK _ _ _ hC (Below.refl _ _) (by exact rfl) ?_
           first | (simp only [Act.put,List.setIfInBounds_toArray,List.set_cons_succ,List.set_cons_zero,hp]; done) | simp [Act.put,hp]
          refine AllOps.cons (fun x u hC hT hp K hK => ?_) ?_
          ·simp [KnownTill,Region.binds,VRtE] at hp
           clear hT
           go_simp
           refine hK _ _ _ hC (Below.refl _ _) (by exact rfl) ?_
           first | (simp only [Act.put,List.setIfInBounds_toArray,List.set_cons_succ,List.set_cons_zero,hp]; done) | simp [Act.put,hp]
          refine AllOps.cons (fun x u hC hT hp K hK => ?_) ?_
          ·simp [KnownTill,Region.binds,VRtE] at hp
           clear hT
           go_simp
           refine hK _ _ _ hC (Below.refl _ _) (by exact rfl) ?_
           first | (simp only [Act.put,List.setIfInBounds_toArray,List.set_cons_succ,List.set_cons_zero,hp]; done) | simp [Act.put,hp]
          refine AllOps.cons (fun x u hC hT hp K hK => ?_) ?_
          ·simp [KnownTill,Region.binds,VRtE] at hp
           clear hT
           have qq:=(show Below w2.heap.size w2 u from hC).cell (p:=⟨bc,1,none⟩) HZ.out.2.2
           rw [Hz3.out] at qq
           go_simp
           refine hK _ _ _ hC (Below.refl _ _) (by exact rfl) ?_
           first | (simp only [Act.put,List.setIfInBounds_toArray,List.set_cons_succ,List.set_cons_zero,hp]; done) | simp [Act.put,hp]
          refine AllOps.cons (fun x u hC hT hp K hK => ?_) ?_
          ·simp [KnownTill,Region.binds,VRtE] at hp
           clear hT
           go_simp
           refine (HTk.out u hC).mono ?_
           rintro e wA ⟨rfl,hbA⟩
           refine hK _ _ _ (bt hC hbA) hbA (by exact rfl) ?_
           first | (simp only [Act.put,List.setIfInBounds_toArray,List.set_cons_succ,List.set_cons_zero,hp]; done) | simp [Act.put,hp]
          refine AllOps.cons (fun x u hC hT hp K hK => ?_) ?_
          ·simp [KnownTill,Region.binds,VRtE] at hp
           clear hT
           go_simp
           refine hK _ _ _ hC (Below.refl _ _) (by exact (by first | exact rfl | simp)) ?_
           first | (simp only [Act.put,List.setIfInBounds_toArray,List.set_cons_succ,List.set_cons_zero,hp]; done) | simp [Act.put,hp]
          refine AllOps.cons (fun x u hC hT hp K hK => ?_) ?_
          ·simp [KnownTill,Region.binds,VRtE] at hp
           clear hT
           go_simp
           refine hK _ _ _ hC (Below.refl _ _) (by exact (by first | exact rfl | simp)) ?_
           first | (simp only [Act.put,List.setIfInBounds_toArray,List.set_cons_succ,List.set_cons_zero,hp]; done) | simp [Act.put,hp]
          exact AllOps.nil
         case finE =>
          intro x u hC hV
          have e78:x 39=.bool false:=hV 39 (by decide) rfl
          rw [e78]
          clear e78
          clear hV
          have HBu:=Lib.hid (And.intro HN2.out (bt HB2.out (show Below w2.heap.size w2 u from hC)))
          clear hC
          go_wp2
          go_roundw
          case rel => exact ⟨k + 1,i + 1,by omega,by omega,by go_num,by go_num,HBu⟩
          case measure => simp [intOf]; omega
        ·have HX:Hid (R=false):=Lib.hid (HF.out (by rw [HS.out]; simp [e3]))
         have e1b:(yn != cy)=false:=by simpa using e1
         have e2b:((yv:Int) != (cv:Int))=false:=by simp [e2]
         have e3b:(tk != 0)=true:=by simpa using e3
         clear e1 e2
         refine wp_region_invT (F:=?FD) (V:=VRtD xq bc k nP cP b (some ⟨b,0,none⟩) yn cy yv cv tk) (dead:=fun _ => none) (T:=fun _ _ => True) (C:=fun u => Below w2.heap.size w2 u) (E:=fun _ u u' => Below u.heap.size u u') (by kernel_rfl) (by kernel_rfl) (by kernel_rfl) (fun x => ?hFD) ?hmonoD ?hTmD ?hTD ?hCD ?stepD ?finD
         case hFD => simp only [mkA,Act.put,List.setIfInBounds_toArray,List.set_cons_succ,List.set_cons_zero,Nat.reduceAdd,Nat.zero_add]; first | with_reducible rfl | rfl
         case hmonoD => exact fun q' i v u u' he hik hwt hdd hv => VRtD.mono (q:=q') he hv
         case hTmD => exact fun _ _ _ _ _ _ _ _ => trivial
         case hTD => exact fun j => trivial
         case hCD => exact (Below.refl _ _).drew
         case stepD =>
          refine AllOps.cons (fun x u hC hT hp K hK => ?_) ?_
          ·clear hp hT
           go_simp
           refine hK _ _ _ hC (Below.refl _ _) (by exact rfl) ?_
           first | (simp only [Act.put,List.setIfInBounds_toArray,List.set_cons_succ,List.set_cons_zero]; done) | simp [Act.put]
          refine AllOps.cons (fun x u hC hT hp K hK => ?_) ?_
          ·clear hp hT
           go_simp
           refine hK _ _ _ hC (Below.refl _ _) (by exact rfl) ?_
           first | (simp only [Act.put,List.setIfInBounds_toArray,List.set_cons_succ,List.set_cons_zero]; done) | simp [Act.put]
          refine AllOps.cons (fun x u hC hT hp K hK => ?_) ?_
          ·simp [KnownTill,Region.binds,VRtD] at hp
           clear hT
           go_simp
           refine hK _ _ _ hC (Below.refl _ _) (by exact rfl) ?_
           first | (simp only [Act.put,List.setIfInBounds_toArray,List.set_cons_succ,List.set_cons_zero,hp]; done) | simp [Act.put,hp]
          refine AllOps.cons (fun x u hC hT hp K hK => ?_) ?_
          ·simp [KnownTill,Region.binds,VRtD] at hp
           clear hT
           go_simp
           refine hK _ _ _ hC (Below.refl _ _) (by exact rfl) ?_
           first | (simp only [Act.put,List.setIfInBounds_toArray,List.set_cons_succ,List.set_cons_zero,hp]; done) | simp [Act.put,hp]
          refine AllOps.cons (fun x u hC hT hp K hK => ?_) ?_
          ·simp [KnownTill,Region.binds,VRtD] at hp
           clear hT
           have qq:=(show Below w2.heap.size w2 u from hC).cell (p:=⟨xq,3,none⟩) HZ.out.1
           rw [Hz0.out] at qq
           go_simp
           refine hK _ _ _ hC (Below.refl _ _) (by exact rfl) ?_
           first | (simp only [Act.put,List.setIfInBounds_toArray,List.set_cons_succ,List.set_cons_zero,hp]; done) | simp [Act.put,hp]
          refine AllOps.cons (fun x u hC hT hp K hK => ?_) ?_
          ·simp [KnownTill,Region.binds,VRtD] at hp
           clear hT
           go_simp
           refine hK _ _ _ hC (Below.refl _ _) (by exact rfl) ?_
           first | (simp only [Act.put,List.setIfInBounds_toArray,List.set_cons_succ,List.set_cons_zero,hp]; done) | simp [Act.put,hp]
          refine AllOps.cons (fun x u hC hT hp K hK => ?_) ?_
          ·simp [KnownTill,Region.binds,VRtD] at hp
           clear hT
           go_simp
           refine hK _ _ _ hC (Below.refl _ _) (by exact (by first | exact rfl | simp)) ?_
           first | (simp only [Act.put,List.setIfInBounds_toArray,List.set_cons_succ,List.set_cons_zero,hp]; done) | simp [Act.put,hp]
          refine AllOps.cons (fun x u hC hT hp K hK => ?_) ?_
          ·simp [KnownTill,Region.binds,VRtD] at hp
           clear hT
           go_simp
           refine hK _ _ _ hC (Below.refl _ _) (by exact rfl) ?_
           first | (simp only [Act.put,List.setIfInBounds_toArray,List.set_cons_succ,List.set_cons_zero,hp]; done) | simp [Act.put,hp]
          refine AllOps.cons (fun x u hC hT hp K hK => ?_) ?_
          ·simp [KnownTill,Region.binds,VRtD] at hp
           clear hT
           go_simp
           refine hK _ _ _ hC (Below.refl _ _) (by exact rfl) ?_
           first | (simp only [Act.put,List.setIfInBounds_toArray,List.set_cons_succ,List.set_cons_zero,hp]; done) | simp [Act.put,hp]
          refine AllOps.cons (fun x u hC hT hp K hK => ?_) ?_
          ·simp [KnownTill,Region.binds,VRtD] at hp
           clear hT
           go_simp
           refine hK _ _ _ hC (Below.refl _ _) (by exact rfl) ?_
           first | (simp only [Act.put,List.setIfInBounds_toArray,List.set_cons_succ,List.set_cons_zero,hp]; done) | simp [Act.put,hp]
          refine AllOps.cons (fun x u hC hT hp K hK => ?_) ?_
          ·simp [KnownTill,Region.binds,VRtD] at hp
           clear hT
           go_simp
           refine hK _ _ _ hC (Below.refl _ _) (by exact rfl) ?_
           first | (simp only [Act.put,List.setIfInBounds_toArray,List.set_cons_succ,List.set_cons_zero,hp]; done) | simp [Act.put,hp]
          refine AllOps.cons (fun x u hC hT hp K hK => ?_) ?_
          ·simp [KnownTill,Region.binds,VRtD] at hp
           clear hT
           have qq:=(show Below w2.heap.size w2 u from hC).cell (p:=⟨xq,3,none⟩) HZ.out.1
           rw [Hz0.out] at qq
           go_simp
           refine hK _ _ _ hC (Below.refl _ _) (by exact rfl) ?_
           first | (simp only [Act.put,List.setIfInBounds_toArray,List.set_cons_succ,List.set_cons_zero,hp]; done) | simp [Act.put,hp]
          refine AllOps.cons (fun x u hC hT hp K hK => ?_) ?_
          ·simp [KnownTill,Region.binds,VRtD] at hp
           clear hT
           go_simp
           refine hK _ _ _ hC (Below.refl _ _) (by exact rfl) ?_
           first | (simp only [Act.put,List.setIfInBounds_toArray,List.set_cons_succ,List.set_cons_zero,hp]; done) | simp [Act.put,hp]
          refine AllOps.cons (fun x u hC hT hp K hK => ?_) ?_
          ·simp [KnownTill,Region.binds,VRtD] at hp
           clear hT
           go_simp
           refine hK _ _ _ hC (Below.refl _ _) (by exact rfl) ?_
           first | (simp only [Act.put,List.setIfInBounds_toArray,List.set_cons_succ,List.set_cons_zero,hp]; done) | simp [Act.put,hp]
          refine AllOps.cons (fun x u hC hT hp K hK => ?_) ?_
          ·simp [KnownTill,Region.binds,VRtD] at hp
           clear hT
           go_simp
           refine hK _ _ _ hC (Below.refl _ _) (by exact rfl) ?_
           first | (simp only [Act.put,List.setIfInBounds_toArray,List.set_cons_succ,List.set_cons_zero,hp]; done) | simp [Act.put,hp]
          refine AllOps.cons (fun x u hC hT hp K hK => ?_) ?_
          ·simp [KnownTill,Region.binds,VRtD] at hp
           clear hT
           have qq:=(show Below w2.heap.size w2 u from hC).cell (p:=⟨b,k * 2,none⟩) HZ.out.2.1
           rw [Hz1.out] at qq
           go_simp
           refine hK _ _ _ hC (Below.refl _ _) (by exact rfl) ?_
           first | (simp only [Act.put,List.setIfInBounds_toArray,List.set_cons_succ,List.set_cons_zero,hp]; done) | simp [Act.put,hp]
          refine AllOps.cons (fun x u hC hT hp K hK => ?_) ?_
          ·simp [KnownTill,Region.binds,VRtD] at hp
           clear hT
           go_simp
           refine hK _ _ _ hC (Below.refl _ _) (by exact rfl) ?_
           first | (simp only [Act.put,List.setIfInBounds_toArray,List.set_cons_succ,List.set_cons_zero,hp]; done) | simp [Act.put,hp]
          refine AllOps.cons (fun x u hC hT hp K hK => ?_) ?_
          ·simp [KnownTill,Region.binds,VRtD] at hp
           clear hT
           have qq:=(show Below w2.heap.size w2 u from hC).cell (p:=⟨bc,1,none⟩) HZ.out.2.2
           rw [Hz3.out] at qq
           go_simp
           refine hK _ _ _ hC (Below.refl _ _) (by exact rfl) ?_
           first | (simp only [Act.put,List.setIfInBounds_toArray,List.set_cons_succ,List.set_cons_zero,hp]; done) | simp [Act.put,hp]
          refine AllOps.cons (fun x u hC hT hp K hK => ?_) ?_
          ·simp [KnownTill,Region.binds,VRtD] at hp
           clear hT
           go_simp
           refine hK _ _ _ hC (Below.refl _ _) (by exact (by first | exact rfl | simp)) ?_
           first | (simp only [Act.put,List.setIfInBounds_toArray,List.set_cons_succ,List.set_cons_zero,hp]; done) | simp [Act.put,hp]
          refine AllOps.cons (fun x u hC hT hp K hK => ?_) ?_
          ·simp [KnownTill,Region.binds,VRtD] at hp
           clear hT
           go_simp
           refine hK _ _ _ hC (Below.refl _ _) (by exact (by first | exact rfl | simp)) ?_
           first | (simp only [Act.put,List.setIfInBounds_toArray,List.set_cons_succ,List.set_cons_zero,hp]; done) | simp [Act.put,hp]
          refine AllOps.cons (fun x u hC hT hp K hK => ?_) ?_
          ·simp [KnownTill,Region.binds,VRtD] at hp
           clear hT
           go_simp
           refine hK _ _ _ hC (Below.refl _ _) (by exact rfl) ?_
           first | (simp only [Act.put,List.setIfInBounds_toArray,List.set_cons_succ,List.set_cons_zero,hp]; done) | simp [Act.put,hp]
          refine AllOps.cons (fun x u hC hT hp K hK => ?_) ?_
          ·simp [KnownTill,Region.binds,VRtD] at hp
           clear hT
           go_simp
           refine hK _ _ _ hC (Below.refl _ _) (by exact rfl) ?_
           first | (simp only [Act.put,List.setIfInBounds_toArray,List.set_cons_succ,List.set_cons_zero,hp]; done) | simp [Act.put,hp]
          refine AllOps.cons (fun x u hC hT hp K hK => ?_) ?_
          ·simp [KnownTill,Region.binds,VRtD] at hp
           clear hT
           go_simp
           refine hK _ _ _ hC (Below.refl _ _) (by exact rfl) ?_
           first | (simp only [Act.put,List.setIfInBounds_toArray,List.set_cons_succ,List.set_cons_zero,hp]; done) | simp [Act.put,hp]
          refine AllOps.cons (fun x u hC hT hp K hK => ?_) ?_
          ·simp [KnownTill,Region.binds,VRtD] at hp
           clear hT
           go_simp
           refine hK _ _ _ hC (Below.refl _ _) (by exact rfl) ?_
           first | (simp only [Act.put,List.setIfInBounds_toArray,List.set_cons_succ,List.set_cons_zero,hp]; done) | simp [Act.put,hp]
          refine AllOps.cons (fun x u hC hT hp K hK => ?_) ?_
          ·simp [KnownTill,Region.binds,VRtD] at hp
           clear hT
           have qq:=(show Below w2.heap.size w2 u from hC).cell (p:=⟨xq,3,none⟩) HZ.out.1
           rw [Hz0.out] at qq
           go_simp
           refine hK _ _ _ hC (Below.refl _ _) (by exact rfl) ?_
           first | (simp only [Act.put,List.setIfInBounds_toArray,List.set_cons_succ,List.set_cons_zero,hp]; done) | simp [Act.put,hp]
          refine AllOps.cons (fun x u hC hT hp K hK => ?_) ?_
          ·simp [KnownTill,Region.binds,VRtD] at hp
           clear hT
           go_simp
           refine hK _ _ _ hC (Below.refl _ _) (by exact rfl) ?_
           first | (simp only [Act.put,List.setIfInBounds_toArray,List.set_cons_succ,List.set_cons_zero,hp]; done) | simp [Act.put,hp]
          refine AllOps.cons (fun x u hC hT hp K hK => ?_) ?_
          ·simp [KnownTill,Region.binds,VRtD] at hp
           clear hT
           go_simp
           refine hK _ _ _ hC (Below.refl _ _) (by exact rfl) ?_
           first | (simp only [Act.put,List.setIfInBounds_toArray,List.set_cons_succ,List.set_cons_zero,hp]; done) | simp [Act.put,hp]
          refine AllOps.cons (fun x u hC hT hp K hK => ?_) ?_
          ·simp [KnownTill,Region.binds,VRtD] at hp
           clear hT
           go_simp
           refine hK _ _ _ hC (Below.refl _ _) (by exact rfl) ?_
           first | (simp only [Act.put,List.setIfInBounds_toArray,List.set_cons_succ,List.set_cons_zero,hp]; done) | simp [Act.put,hp]
          refine AllOps.cons (fun x u hC hT hp K hK => ?_) ?_
          ·simp [KnownTill,Region.binds,VRtD] at hp
           clear hT
           have qq:=(show Below w2.heap.size w2 u from hC).cell (p:=⟨b,k * 2 + 1,none⟩) HZ.out.2.1
           rw [Hz2.out] at qq
           go_simp
           refine hK _ _ _ hC (Below.refl _ _) (by exact rfl) ?_
           first | (simp only [Act.put,List.setIfInBounds_toArray,List.set_cons_succ,List.set_cons_zero,hp]; done) | simp [Act.put,hp]
          refine AllOps.cons (fun x u hC hT hp K hK => ?_) ?_
          ·simp [KnownTill,Region.binds,VRtD] at hp
           clear hT
           go_simp
           refine hK _ _ _ hC (Below.refl _ _) (by exact rfl) ?_
           first | (simp only [Act.put,List.setIfInBounds_toArray,List.set_cons_succ,List.set_cons_zero,hp]; done) | simp [Act.put,hp]
          refine AllOps.cons (fun x u hC hT hp K hK => ?_) ?_
          ·simp [KnownTill,Region.binds,VRtD] at hp
           clear hT
           have qq:=(show Below w2.heap.size w2 u from hC).cell (p:=⟨bc,2,none⟩) HZ.out.2.2
           rw [Hz4.out] at qq
           go_simp
           refine hK _ _ _ hC (Below.refl _ _) (by exact rfl) ?_
           first | (simp only [Act.put,List.setIfInBounds_toArray,List.set_cons_succ,List.set_cons_zero,hp]; done) | simp [Act.put,hp]
          refine AllOps.cons (fun x u hC hT hp K hK => ?_) ?_
          ·simp [KnownTill,Region.binds,VRtD] at hp
           clear hT
           go_simp
           refine hK _ _ _ hC (Below.refl _ _) (by exact (by first | exact rfl | simp)) ?_
           first | (simp only [Act.put,List.setIfInBounds_toArray,List.set_cons_succ,List.set_cons_zero,hp]; done) | simp [Act.put,hp]
          refine AllOps.cons (fun x u hC hT hp K hK => ?_) ?_
          ·simp [KnownTill,Region.binds,VRtD] at hp
           clear hT
           go_simp
           refine hK _ _ _ hC (Below.refl _ _) (by exact (by first | exact rfl | simp)) ?_
           first | (simp only [Act.put,List.setIfInBounds_toArray,List.set_cons_succ,List.set_cons_zero,hp]; done) | simp [Act.put,hp]
          refine AllOps.cons (fun x u hC hT hp K hK => ?_) ?_
          ·simp [KnownTill,Region.binds,VRtD] at hp
           clear hT
           go_simp
           refine hK _ _ _ hC (Below.refl _ _) (by exact rfl) ?_
           first | (simp only [Act.put,List.setIfInBounds_toArray,List.set_cons_succ,List.set_cons_zero,hp]; done) | simp [Act.put,hp]
          refine AllOps.cons (fun x u hC hT hp K hK => ?_) ?_
          ·simp [KnownTill,Region.binds,VRtD] at hp
           clear hT
           go_simp
           refine hK _ _ _ hC (Below.refl _ _) (by exact rfl) ?_
           first | (simp only [Act.put,List.setIfInBounds_toArray,List.set_cons_succ,List.set_cons_zero,hp]; done) | simp [Act.put,hp]
          refine AllOps.cons (fun x u hC hT hp K hK => ?_) ?_
          ·simp [KnownTill,Region.binds,VRtD] at hp
           clear hT
           go_simp
           refine hK _ _ _ hC (Below.refl _ _) (by exact rfl) ?_
           first | (simp only [Act.put,List.setIfInBounds_toArray,List.set_cons_succ,List.set_cons_zero,hp]; done) | simp [Act.put,hp]
          refine AllOps.cons (fun x u hC hT hp K hK => ?_) ?_
          ·simp [KnownTill,Region.binds,VRtD] at hp
           clear hT
           have qq:=(show Below w2.heap.size w2 u from hC).cell (p:=⟨bc,1,none⟩) HZ.out.2.2
           rw [Hz3.out] at qq
           go_simp
           refine hK _ _ _ hC (Below.refl _ _) (by exact rfl) ?_
           first | (simp only [Act.put,List.setIfInBounds_toArray,List.set_cons_succ,List.set_cons_zero,hp]; done) | simp [Act.put,hp]
          refine AllOps.cons (fun x u hC hT hp K hK => ?_) ?_
          ·simp [KnownTill,Region.binds,VRtD] at hp
           clear hT
           go_simp
           refine (HTk.out u hC).mono ?_
           rintro e wA ⟨rfl,hbA⟩
           refine hK _ _ _ (bt hC hbA) hbA (by exact rfl) ?_
           first | (simp only [Act.put,List.setIfInBounds_toArray,List.set_cons_succ,List.set_cons_zero,hp]; done) | simp [Act.put,hp]
          refine AllOps.cons (fun x u hC hT hp K hK => ?_) ?_
          ·simp [KnownTill,Region.binds,VRtD] at hp
           clear hT
           go_simp
           refine hK _ _ _ hC (Below.refl _ _) (by exact (by first | exact rfl | simp)) ?_
           first | (simp only [Act.put,List.setIfInBounds_toArray,List.set_cons_succ,List.set_cons_zero,hp]; done) | simp [Act.put,hp]
          refine AllOps.cons (fun x u hC hT hp K hK => ?_) ?_
          ·simp [KnownTill,Region.binds,VRtD] at hp
           clear hT
           go_simp
           refine hK _ _ _ hC (Below.refl _ _) (by exact (by first | exact rfl | simp)) ?_
           first | (simp only [Act.put,List.setIfInBounds_toArray,List.set_cons_succ,List.set_cons_zero,hp]; done) | simp [Act.put,hp]
          exact AllOps.nil
         case finD =>
          intro x u hC hV
          have e78:x 39=.bool true:=hV 39 (by decide) rfl
          rw [e78]
          clear e78
          clear hV
          have HBu:=Lib.hid (bt HB2.out (show Below w2.heap.size w2 u from hC))
          clear hC
          go_wp2
          go_ret
          exact ⟨by rw [HX.out]; rfl,HBu.out⟩
       ·have HX:Hid (R=false):=Lib.hid (HF.out (by rw [HS.out]; simp [e2]))
        have e1b:(yn != cy)=false:=by simpa using e1
        have e2b:((yv:Int) != (cv:Int))=true:=by simp; omega
        clear e1
        refine wp_region_invT (F:=?FC) (V:=VRtC xq bc k nP cP b (some ⟨b,0,none⟩) yn cy yv cv tk) (dead:=fun _ => none) (T:=fun _ _ => True) (C:=fun u => Below w2.heap.size w2 u) (E:=fun _ u u' => Below u.heap.size u u') (by kernel_rfl) (by kernel_rfl) (by kernel_rfl) (fun x => ?hFC) ?hmonoC ?hTmC ?hTC ?hCC ?stepC ?finC
        case hFC => simp only [mkA,Act.put,List.setIfInBounds_toArray,List.set_cons_succ,List.set_cons_zero,Nat.reduceAdd,Nat.zero_add]; first | with_reducible rfl | rfl
        case hmonoC => exact fun q' i v u u' he hik hwt hdd hv => VRtC.mono (q:=q') he hv
        case hTmC => exact fun _ _ _ _ _ _ _ _ => trivial
        case hTC => exact fun j => trivial
        case hCC => exact (Below.refl _ _).drew
        case stepC =>
         refine AllOps.cons (fun x u hC hT hp K hK => ?_) ?_
         ·clear hp hT
          go_simp
          refine hK _ _ _ hC (Below.refl _ _) (by exact rfl) ?_
          first | (simp only [Act.put,List.setIfInBounds_toArray,List.set_cons_succ,List.set_cons_zero]; done) | simp [Act.put]
         refine AllOps.cons (fun x u hC hT hp K hK => ?_) ?_
         ·clear hp hT
          go_simp
          refine hK _ _ _ hC (Below.refl _ _) (by exact rfl) ?_
          first | (simp only [Act.put,List.setIfInBounds_toArray,List.set_cons_succ,List.set_cons_zero]; done) | simp [Act.put]
         refine AllOps.cons (fun x u hC hT hp K hK => ?_) ?_
         ·simp [KnownTill,Region.binds,VRtC] at hp
          clear hT
          go_simp
          refine hK _ _ _ hC (Below.refl _ _) (by exact rfl) ?_
          first | (simp only [Act.put,List.setIfInBounds_toArray,List.set_cons_succ,List.set_cons_zero,hp]; done) | simp [Act.put,hp]
         refine AllOps.cons (fun x u hC hT hp K hK => ?_) ?_
         ·simp [KnownTill,Region.binds,VRtC] at hp
          clear hT
          go_simp
          refine hK _ _ _ hC (Below.refl _ _) (by exact rfl) ?_
          first | (simp only [Act.put,List.setIfInBounds_toArray,List.set_cons_succ,List.set_cons_zero,hp]; done) | simp [Act.put,hp]
         refine AllOps.cons (fun x u hC hT hp K hK => ?_) ?_
         ·simp [KnownTill,Region.binds,VRtC] at hp
          clear hT
          have qq:=(show Below w2.heap.size w2 u from hC).cell (p:=⟨xq,3,none⟩) HZ.out.1
          rw [Hz0.out] at qq
          go_simp
          refine hK _ _ _ hC (Below.refl _ _) (by exact rfl) ?_
          first | (simp only [Act.put,List.setIfInBounds_toArray,List.set_cons_succ,List.set_cons_zero,hp]; done) | simp [Act.put,hp]
         refine AllOps.cons (fun x u hC hT hp K hK => ?_) ?_
         ·simp [KnownTill,Region.binds,VRtC] at hp
          clear hT
          go_simp
          refine hK _ _ _ hC (Below.refl _ _) (by exact rfl) ?_
          first | (simp only [Act.put,List.setIfInBounds_toArray,List.set_cons_succ,List.set_cons_zero,hp]; done) | simp [Act.put,hp]
         refine AllOps.cons (fun x u hC hT hp K hK => ?_) ?_
         ·simp [KnownTill,Region.binds,VRtC] at hp
          clear hT
          go_simp
          refine hK _ _ _ hC (Below.refl _ _) (by exact (by first | exact rfl | simp)) ?_
          first | (simp only [Act.put,List.setIfInBounds_toArray,List.set_cons_succ,List.set_cons_zero,hp]; done) | simp [Act.put,hp]
         refine AllOps.cons (fun x u hC hT hp K hK => ?_) ?_
         ·simp [KnownTill,Region.binds,VRtC] at hp
          clear hT
          go_simp
          refine hK _ _ _ hC (Below.refl _ _) (by exact rfl) ?_
          first | (simp only [Act.put,List.setIfInBounds_toArray,List.set_cons_succ,List.set_cons_zero,hp]; done) | simp [Act.put,hp]
         refine AllOps.cons (fun x u hC hT hp K hK => ?_) ?_
         ·simp [KnownTill,Region.binds,VRtC] at hp
          clear hT
          go_simp
          refine hK _ _ _ hC (Below.refl _ _) (by exact rfl) ?_
          first | (simp only [Act.put,List.setIfInBounds_toArray,List.set_cons_succ,List.set_cons_zero,hp]; done) | simp [Act.put,hp]
         refine AllOps.cons (fun x u hC hT hp K hK => ?_) ?_
         ·simp [KnownTill,Region.binds,VRtC] at hp
          clear hT
          go_simp
          refine hK _ _ _ hC (Below.refl _ _) (by exact rfl) ?_
          first | (simp only [Act.put,List.setIfInBounds_toArray,List.set_cons_succ,List.set_cons_zero,hp]; done) | simp [Act.put,hp]
         refine AllOps.cons (fun x u hC hT hp K hK => ?_) ?_
         ·simp [KnownTill,Region.binds,VRtC] at hp
          clear hT
          go_simp
          refine hK _ _ _ hC (Below.refl _ _) (by exact rfl) ?_
          first | (simp only [Act.put,List.setIfInBounds_toArray,List.set_cons_succ,List.set_cons_zero,hp]; done) | simp [Act.put,hp]
         refine AllOps.cons (fun x u hC hT hp K hK => ?_) ?_
         ·simp [KnownTill,Region.binds,VRtC] at hp
          clear hT
          have qq:=(show Below w2.heap.size w2 u from hC).cell (p:=⟨xq,3,none⟩) HZ.out.1
          rw [Hz0.out] at qq
          go_simp
          refine hK _ _ _ hC (Below.refl _ _) (by exact rfl) ?_
          first | (simp only [Act.put,List.setIfInBounds_toArray,List.set_cons_succ,List.set_cons_zero,hp]; done) | simp [Act.put,hp]
         refine AllOps.cons (fun x u hC hT hp K hK => ?_) ?_
         ·simp [KnownTill,Region.binds,VRtC] at hp
          clear hT
          go_simp
          refine hK _ _ _ hC (Below.refl _ _) (by exact rfl) ?_
          first | (simp only [Act.put,List.setIfInBounds_toArray,List.set_cons_succ,List.set_cons_zero,hp]; done) | simp [Act.put,hp]
         refine AllOps.cons (fun x u hC hT hp K hK => ?_) ?_
         ·simp [KnownTill,Region.binds,VRtC] at hp
          clear hT
          go_simp
          refine hK _ _ _ hC (Below.refl _ _) (by exact rfl) ?_
          first | (simp only [Act.put,List.setIfInBounds_toArray,List.set_cons_succ,List.set_cons_zero,hp]; done) | simp [Act.put,hp]
         refine AllOps.cons (fun x u hC hT hp K hK => ?_) ?_
         ·simp [KnownTill,Region.binds,VRtC] at hp
          clear hT
          go_simp
          refine hK _ _ _ hC (Below.refl _ _) (by exact rfl) ?_
          first | (simp only [Act.put,List.setIfInBounds_toArray,List.set_cons_succ,List.set_cons_zero,hp]; done) | simp [Act.put,hp]
         refine AllOps.cons (fun x u hC hT hp K hK => ?_) ?_
         ·simp [KnownTill,Region.binds,VRtC] at hp
          clear hT
          have qq:=(show Below w2.heap.size w2 u from hC).cell (p:=⟨b,k * 2,none⟩) HZ.out.2.1
          rw [Hz1.out] at qq
          go_simp
          refine hK _ _ _ hC (Below.refl _ _) (by exact rfl) ?_
          first | (simp only [Act.put,List.setIfInBounds_toArray,List.set_cons_succ,List.set_cons_zero,hp]; done) | simp [Act.put,hp]
         refine AllOps.cons (fun x u hC hT hp K hK => ?_) ?_
         ·simp [KnownTill,Region.binds,VRtC] at hp
          clear hT
          go_simp
          refine hK _ _ _ hC (Below.refl _ _) (by exact rfl) ?_
          first | (simp only [Act.put,List.setIfInBounds_toArray,List.set_cons_succ,List.set_cons_zero,hp]; done) | simp [Act.put,hp]
         refine AllOps.cons (fun x u hC hT hp K hK => ?_) ?_
         ·simp [KnownTill,Region.binds,VRtC] at hp
          clear hT
          have qq:=(show Below w2.heap.size w2 u from hC).cell (p:=⟨bc,1,none⟩) HZ.out.2.2
          rw [Hz3.out] at qq
          go_simp
          refine hK _ _ _ hC (Below.refl _ _) (by exact rfl) ?_
          first | (simp only [Act.put,List.setIfInBounds_toArray,List.set_cons_succ,List.set_cons_zero,hp]; done) | simp [Act.put,hp]
         refine AllOps.cons (fun x u hC hT hp K hK => ?_) ?_
         ·simp [KnownTill,Region.binds,VRtC] at hp
          clear hT
          go_simp
          refine hK _ _ _ hC (Below.refl _ _) (by exact (by first | exact rfl | simp)) ?_
          first | (simp only [Act.put,List.setIfInBounds_toArray,List.set_cons_succ,List.set_cons_zero,hp]; done) | simp [Act.put,hp]
         refine AllOps.cons (fun x u hC hT hp K hK => ?_) ?_
         ·simp [KnownTill,Region.binds,VRtC] at hp
          clear hT
          go_simp
          refine hK _ _ _ hC (Below.refl _ _) (by exact (by first | exact rfl | simp)) ?_
          first | (simp only [Act.put,List.setIfInBounds_toArray,List.set_cons_succ,List.set_cons_zero,hp]; done) | simp [Act.put,hp]
         refine AllOps.cons (fun x u hC hT hp K hK => ?_) ?_
         ·simp [KnownTill,Region.binds,VRtC] at hp
          clear hT
          go_simp
          refine hK _ _ _ hC (Below.refl _ _) (by exact rfl) ?_
          first | (simp only [Act.put,List.setIfInBounds_toArray,List.set_cons_succ,List.set_cons_zero,hp]; done) | simp [Act.put,hp]
         refine AllOps.cons (fun x u hC hT hp K hK => ?_) ?_
         ·simp [KnownTill,Region.binds,VRtC] at hp
          clear hT
          go_simp
          refine hK _ _ _ hC (Below.refl _ _) (by exact rfl) ?_
          first | (simp only [Act.put,List.setIfInBounds_toArray,List.set_cons_succ,List.set_cons_zero,hp]; done) | simp [Act.put,hp]
         refine AllOps.cons (fun x u hC hT hp K hK => ?_) ?_
         ·simp [KnownTill,Region.binds,VRtC] at hp
          clear hT
          go_simp
          refine hK _ _ _ hC (Below.refl _ _) (by exact rfl) ?_
          first | (simp only [Act.put,List.setIfInBounds_toArray,List.set_cons_succ,List.set_cons_zero,hp]; done) | simp [Act.put,hp]
         refine AllOps.cons (fun x u hC hT hp K hK => ?_) ?_
         ·simp [KnownTill,Region.binds,VRtC] at hp
          clear hT
          go_simp
          refine hK _ _ _ hC (Below.refl _ _) (by exact rfl) ?_
          first | (simp only [Act.put,List.setIfInBounds_toArray,List.set_cons_succ,List.set_cons_zero,hp]; done) | simp [Act.put,hp]
         refine AllOps.cons (fun x u hC hT hp K hK => ?_) ?_
         ·simp [KnownTill,Region.binds,VRtC] at hp
          clear hT
          have qq:=(show Below w2.heap.size w2 u from hC).cell (p:=⟨xq,3,none⟩) HZ.out.1
          rw [Hz0.out] at qq
          go_simp
          refine hK _ _ _ hC (Below.refl _ _) (by exact rfl) ?_
          first | (simp only [Act.put,List.setIfInBounds_toArray,List.set_cons_succ,List.set_cons_zero,hp]; done) | simp [Act.put,hp]
         refine AllOps.cons (fun x u hC hT hp K hK => ?_) ?_
         ·simp [KnownTill,Region.binds,VRtC] at hp
          clear hT
          go_simp
          refine hK _ _ _ hC (Below.refl _ _) (by exact rfl) ?_
          first | (simp only [Act.put,List.setIfInBounds_toArray,List.set_cons_succ,List.set_cons_zero,hp]; done) | simp [Act.put,hp]
         refine AllOps.cons (fun x u hC hT hp K hK => ?_) ?_
         ·simp [KnownTill,Region.binds,VRtC] at hp
          clear hT
          go_simp
          refine hK _ _ _ hC (Below.refl _ _) (by exact rfl) ?_
          first | (simp only [Act.put,List.setIfInBounds_toArray,List.set_cons_succ,List.set_cons_zero,hp]; done) | simp [Act.put,hp]
         refine AllOps.cons (fun x u hC hT hp K hK => ?_) ?_
         ·simp [KnownTill,Region.binds,VRtC] at hp
          clear hT
          go_simp
          refine hK _ _ _ hC (Below.refl _ _) (by exact rfl) ?_
          first | (simp only [Act.put,List.setIfInBounds_toArray,List.set_cons_succ,List.set_cons_zero,hp]; done) | simp [Act.put,hp]
         refine AllOps.cons (fun x u hC hT hp K hK => ?_) ?_
         ·simp [KnownTill,Region.binds,VRtC] at hp
          clear hT
          have qq:=(show Below w2.heap.size w2 u from hC).cell (p:=⟨b,k * 2 + 1,none⟩) HZ.out.2.1
          rw [Hz2.out] at qq
          go_simp
          refine hK _ _ _ hC (Below.refl _ _) (by exact rfl) ?_
          first | (simp only [Act.put,List.setIfInBounds_toArray,List.set_cons_succ,List.set_cons_zero,hp]; done) | simp [Act.put,hp]
         refine AllOps.cons (fun x u hC hT hp K hK => ?_) ?_
         ·simp [KnownTill,Region.binds,VRtC] at hp
          clear hT
          go_simp
          refine hK _ _ _ hC (Below.refl _ _) (by exact rfl) ?_
          first | (simp only [Act.put,List.setIfInBounds_toArray,List.set_cons_succ,List.set_cons_zero,hp]; done) | simp [Act.put,hp]
         refine AllOps.cons (fun x u hC hT hp K hK => ?_) ?_
         ·simp [KnownTill,Region.binds,VRtC] at hp
          clear hT
          have qq:=(show Below w2.heap.size w2 u from hC).cell (p:=⟨bc,2,none⟩) HZ.out.2.2
          rw [Hz4.out] at qq
          go_simp
          refine hK _ _ _ hC (Below.refl _ _) (by exact rfl) ?_
          first | (simp only [Act.put,List.setIfInBounds_toArray,List.set_cons_succ,List.set_cons_zero,hp]; done) | simp [Act.put,hp]
         refine AllOps.cons (fun x u hC hT hp K hK => ?_) ?_
         ·simp [KnownTill,Region.binds,VRtC] at hp
          clear hT
          go_simp
          refine hK _ _ _ hC (Below.refl _ _) (by exact (by first | exact rfl | simp)) ?_
          first | (simp only [Act.put,List.setIfInBounds_toArray,List.set_cons_succ,List.set_cons_zero,hp]; done) | simp [Act.put,hp]
         refine AllOps.cons (fun x u hC hT hp K hK => ?_) ?_
         ·simp [KnownTill,Region.binds,VRtC] at hp
          clear hT
          go_simp
          refine hK _ _ _ hC (Below.refl _ _) (by exact (by first | exact rfl | simp)) ?_
          first | (simp only [Act.put,List.setIfInBounds_toArray,List.set_cons_succ,List.set_cons_zero,hp]; done) | simp [Act.put,hp]
         refine AllOps.cons (fun x u hC hT hp K hK => ?_) ?_
         ·simp [KnownTill,Region.binds,VRtC] at hp
          clear hT
          go_simp
          refine hK _ _ _ hC (Below.refl _ _) (by exact rfl) ?_
          first | (simp only [Act.put,List.setIfInBounds_toArray,List.set_cons_succ,List.set_cons_zero,hp]; done) | simp [Act.put,hp]
         refine AllOps.cons (fun x u hC hT hp K hK => ?_) ?_
         ·simp [KnownTill,Region.binds,VRtC] at hp
          clear hT
          go_simp
          refine hK undef _ _ hC (Below.refl _ _) (by exact rfl) ?_
          first | (simp only [Act.put,List.setIfInBounds_toArray,List.set_cons_succ,List.set_cons_zero,hp]; done) | simp [Act.put,hp]
         refine AllOps.cons (fun x u hC hT hp K hK => ?_) ?_
         ·simp [KnownTill,Region.binds,VRtC] at hp
          clear hT
          go_simp
          refine hK undef _ _ hC (Below.refl _ _) (by exact rfl) ?_
          first | (simp only [Act.put,List.setIfInBounds_toArray,List.set_cons_succ,List.set_cons_zero,hp]; done) | simp [Act.put,hp]
         refine AllOps.cons (fun x u hC hT hp K hK => ?_) ?_
         ·simp [KnownTill,Region.binds,VRtC] at hp
          clear hT
          go_simp
          refine hK undef _ _ hC (Below.refl _ _) (by exact rfl) ?_
          first | (simp only [Act.put,List.setIfInBounds_toArray,List.set_cons_succ,List.set_cons_zero,hp]; done) | simp [Act.put,hp]
         refine AllOps.cons (fun x u hC hT hp K hK => ?_) ?_
         ·simp [KnownTill,Region.binds,VRtC] at hp
          clear hT
          go_simp
          refine hK undef _ _ hC (Below.refl _ _) (by exact rfl) ?_
          first | (simp only [Act.put,List.setIfInBounds_toArray,List.set_cons_succ,List.set_cons_zero,hp]; done) | simp [Act.put,hp]
         refine AllOps.cons (fun x u hC hT hp K hK => ?_) ?_
         ·simp [KnownTill,Region.binds,VRtC] at hp
          clear hT
          go_simp
          refine hK undef _ _ hC (Below.refl _ _) (by exact rfl) ?_
          first | (simp only [Act.put,List.setIfInBounds_toArray,List.set_cons_succ,List.set_cons_zero,hp]; done) | simp [Act.put,hp]
         refine AllOps.cons (fun x u hC hT hp K hK => ?_) ?_
         ·simp [KnownTill,Region.binds,VRtC] at hp
          clear hT
          go_simp
          refine hK _ _ _ hC (Below.refl _ _) (by exact (by first | exact rfl | simp)) ?_
          first | (simp only [Act.put,List.setIfInBounds_toArray,List.set_cons_succ,List.set_cons_zero,hp]; done) | simp [Act.put,hp]
         exact AllOps.nil
        case finC =>
         intro x u hC hV
         have e78:x 39=.bool true:=hV 39 (by decide) rfl
         rw [e78]
         clear e78
         clear hV
         have HBu:=Lib.hid (bt HB2.out (show Below w2.heap.size w2 u from hC))
         clear hC
         go_wp2
         go_ret
         exact ⟨by rw [HX.out]; rfl,HBu.out⟩
      ·have HX:Hid (R=false):=Lib.hid (HF.out (by rw [HS.out]; simp [e1]))
       have e1b:(yn != cy)=true:=by simpa using e1
       refine wp_region_invT (F:=?FB) (V:=VRtB xq bc k nP cP b (some ⟨b,0,none⟩) yn cy yv cv tk) (dead:=fun _ => none) (T:=fun _ _ => True) (C:=fun u => Below w2.heap.size w2 u) (E:=fun _ u u' => Below u.heap.size u u') (by kernel_rfl) (by kernel_rfl) (by kernel_rfl) (fun x => ?hFB) ?hmonoB ?hTmB ?hTB ?hCB ?stepB ?finB
       case hFB => simp only [mkA,Act.put,List.setIfInBounds_toArray,List.set_cons_succ,List.set_cons_zero,Nat.reduceAdd,Nat.zero_add]; first | with_reducible rfl | rfl
       case hmonoB => exact fun q' i v u u' he hik hwt hdd hv => VRtB.mono (q:=q') he hv
       case hTmB => exact fun _ _ _ _ _ _ _ _ => trivial
       case hTB => exact fun j => trivial
       case hCB => exact (Below.refl _ _).drew
       case stepB =>
        refine AllOps.cons (fun x u hC hT hp K hK => ?_) ?_
        ·clear hp hT
         go_simp
         refine hK _ _ _ hC (Below.refl _ _) (by exact rfl) ?_
         first | (simp only [Act.put,List.setIfInBounds_toArray,List.set_cons_succ,List.set_cons_zero]; done) | simp [Act.put]
        refine AllOps.cons (fun x u hC hT hp K hK => ?_) ?_
        ·clear hp hT
         go_simp
         refine hK _ _ _ hC (Below.refl _ _) (by exact rfl) ?_
         first | (simp only [Act.put,List.setIfInBounds_toArray,List.set_cons_succ,List.set_cons_zero]; done) | simp [Act.put]
        refine AllOps.cons (fun x u hC hT hp K hK => ?_) ?_
        ·simp [KnownTill,Region.binds,VRtB] at hp
         clear hT
         go_simp
         refine hK _ _ _ hC (Below.refl _ _) (by exact rfl) ?_
         first | (simp only [Act.put,List.setIfInBounds_toArray,List.set_cons_succ,List.set_cons_zero,hp]; done) | simp [Act.put,hp]
        refine AllOps.cons (fun x u hC hT hp K hK => ?_) ?_
        ·simp [KnownTill,Region.binds,VRtB] at hp
         clear hT
         go_simp
         refine hK _ _ _ hC (Below.refl _ _) (by exact rfl) ?_
         first | (simp only [Act.put,List.setIfInBounds_toArray,List.set_cons_succ,List.set_cons_zero,hp]; done) | simp [Act.put,hp]
        refine AllOps.cons (fun x u hC hT hp K hK => ?_) ?_
        ·simp [KnownTill,Region.binds,VRtB] at hp
         clear hT
         have qq:=(show Below w2.heap.size w2 u from hC).cell (p:=⟨xq,3,none⟩) HZ.out.1
         rw [Hz0.out] at qq
         go_simp
         refine hK _ _ _ hC (Below.refl _ _) (by exact rfl) ?_
         first | (simp only [Act.put,List.setIfInBounds_toArray,List.set_cons_succ,List.set_cons_zero,hp]; done) | simp [Act.put,hp]
        refine AllOps.cons (fun x u hC hT hp K hK => ?_) ?_
        ·simp [KnownTill,Region.binds,VRtB] at hp
         clear hT
         go_simp
         refine hK _ _ _ hC (Below.refl _ _) (by exact rfl) ?_
         first | (simp only [Act.put,List.setIfInBounds_toArray,List.set_cons_succ,List.set_cons_zero,hp]; done) | simp [Act.put,hp]
        refine AllOps.cons (fun x u hC hT hp K hK => ?_) ?_
        ·simp [KnownTill,Region.binds,VRtB] at hp
         clear hT
         go_simp
         refine hK _ _ _ hC (Below.refl _ _) (by exact (by first | exact rfl | simp)) ?_
         first | (simp only [Act.put,List.setIfInBounds_toArray,List.set_cons_succ,List.set_cons_zero,hp]; done) | simp [Act.put,hp]
        refine AllOps.cons (fun x u hC hT hp K hK => ?_) ?_
        ·simp [KnownTill,Region.binds,VRtB] at hp
         clear hT
         go_simp
         refine hK _ _ _ hC (Below.refl _ _) (by exact rfl) ?_
         first | (simp only [Act.put,List.setIfInBounds_toArray,List.set_cons_succ,List.set_cons_zero,hp]; done) | simp [Act.put,hp]
        refine AllOps.cons (fun x u hC hT hp K hK => ?_) ?_
        ·simp [KnownTill,Region.binds,VRtB] at hp
         clear hT
         go_simp
         refine hK _ _ _ hC (Below.refl _ _) (by exact rfl) ?_
         first | (simp only [Act.put,List.setIfInBounds_toArray,List.set_cons_succ,List.set_cons_zero,hp]; done) | simp [Act.put,hp]
        refine AllOps.cons (fun x u hC hT hp K hK => ?_) ?_
        ·simp [KnownTill,Region.binds,VRtB] at hp
         clear hT
         go_simp
         refine hK _ _ _ hC (Below.refl _ _) (by exact rfl) ?_
         first | (simp only [Act.put,List.setIfInBounds_toArray,List.set_cons_succ,List.set_cons_zero,hp]; done) | simp [Act.put,hp]
        refine AllOps.cons (fun x u hC hT hp K hK => ?_) ?_
        ·simp [KnownTill,Region.binds,VRtB] at hp
         clear hT
         go_simp
         refine hK _ _ _ hC (Below.refl _ _) (by exact rfl) ?_
         first | (simp only [Act.put,List.setIfInBounds_toArray,List.set_cons_succ,List.set_cons_zero,hp]; done) | simp [Act.put,hp]
        refine AllOps.cons (fun x u hC hT hp K hK => ?_) ?_
        ·simp [KnownTill,Region.binds,VRtB] at hp
         clear hT
         have qq:=(show Below w2.heap.size w2 u from hC).cell (p:=⟨xq,3,none⟩) HZ.out.1
         rw [Hz0.out] at qq
         go_simp
         refine hK _ _ _ hC (Below.refl _ _) (by exact rfl) ?_
         first | (simp only [Act.put,List.setIfInBounds_toArray,List.set_cons_succ,List.set_cons_zero,hp]; done) | simp [Act.put,hp]
        refine AllOps.cons (fun x u hC hT hp K hK => ?_) ?_
        ·simp [KnownTill,Region.binds,VRtB] at hp
         clear hT
         go_simp
         refine hK _ _ _ hC (Below.refl _ _) (by exact rfl) ?_
         first | (simp only [Act.put,List.setIfInBounds_toArray,List.set_cons_succ,List.set_cons_zero,hp]; done) | simp [Act.put,hp]
        refine AllOps.cons (fun x u hC hT hp K hK => ?_) ?_
        ·simp [KnownTill,Region.binds,VRtB] at hp
         clear hT
         go_simp
         refine hK _ _ _ hC (Below.refl _ _) (by exact rfl) ?_
         first | (simp only [Act.put,List.setIfInBounds_toArray,List.set_cons_succ,List.set_cons_zero,hp]; done) | simp [Act.put,hp]
        refine AllOps.cons (fun x u hC hT hp K hK => ?_) ?_
        ·simp [KnownTill,Region.binds,VRtB] at hp
         clear hT
         go_simp
         refine hK _ _ _ hC (Below.refl _ _) (by exact rfl) ?_
         first | (simp only [Act.put,List.setIfInBounds_toArray,List.set_cons_succ,List.set_cons_zero,hp]; done) | simp [Act.put,hp]
        refine AllOps.cons (fun x u hC hT hp K hK => ?_) ?_
        ·simp [KnownTill,Region.binds,VRtB] at hp
         clear hT
         have qq:=(show Below w2.heap.size w2 u from hC).cell (p:=⟨b,k * 2,none⟩) HZ.out.2.1
         rw [Hz1.out] at qq
         go_simp
         refine hK _ _ _ hC (Below.refl _ _) (by exact rfl) ?_
         first | (simp only [Act.put,List.setIfInBounds_toArray,List.set_cons_succ,List.set_cons_zero,hp]; done) | simp [Act.put,hp]
        refine AllOps.cons (fun x u hC hT hp K hK => ?_) ?_
        ·simp [KnownTill,Region.binds,VRtB] at hp
         clear hT
         go_simp
         refine hK _ _ _ hC (Below.refl _ _) (by exact rfl) ?_
         first | (simp only [Act.put,List.setIfInBounds_toArray,List.set_cons_succ,List.set_cons_zero,hp]; done) | simp [Act.put,hp]
        refine AllOps.cons (fun x u hC hT hp K hK => ?_) ?_
        ·simp [KnownTill,Region.binds,VRtB] at hp
         clear hT
         have qq:=(show Below w2.heap.size w2 u from hC).cell (p:=⟨bc,1,none⟩) HZ.out.2.2
         rw [Hz3.out] at qq
         go_simp
         refine hK _ _ _ hC (Below.refl _ _) (by exact rfl) ?_
         first | (simp only [Act.put,List.setIfInBounds_toArray,List.set_cons_succ,List.set_cons_zero,hp]; done) | simp [Act.put,hp]
        refine AllOps.cons (fun x u hC hT hp K hK => ?_) ?_
        ·simp [KnownTill,Region.binds,VRtB] at hp
         clear hT
         go_simp
         refine hK _ _ _ hC (Below.refl _ _) (by exact (by first | exact rfl | simp)) ?_
         first | (simp only [Act.put,List.setIfInBounds_toArray,List.set_cons_succ,List.set_cons_zero,hp]; done) | simp [Act.put,hp]
        refine AllOps.cons (fun x u hC hT hp K hK => ?_) ?_
        ·simp [KnownTill,Region.binds,VRtB] at hp
         clear hT
         go_simp
         refine hK _ _ _ hC (Below.refl _ _) (by exact (by first | exact rfl | simp)) ?_
         first | (simp only [Act.put,List.setIfInBounds_toArray,List.set_cons_succ,List.set_cons_zero,hp]; done) | simp [Act.put,hp]
        refine AllOps.cons (fun x u hC hT hp K hK => ?_) ?_
        ·simp [KnownTill,Region.binds,VRtB] at hp
         clear hT
         go_simp
         refine hK _ _ _ hC (Below.refl _ _) (by exact rfl) ?_
         first | (simp only [Act.put,List.setIfInBounds_toArray,List.set_cons_succ,List.set_cons_zero,hp]; done) | simp [Act.put,hp]
        refine AllOps.cons (fun x u hC hT hp K hK => ?_) ?_
        ·simp [KnownTill,Region.binds,VRtB] at hp
         clear hT
         go_simp
         refine hK undef _ _ hC (Below.refl _ _) (by exact rfl) ?_
         first | (simp only [Act.put,List.setIfInBounds_toArray,List.set_cons_succ,List.set_cons_zero,hp]; done) | simp [Act.put,hp]
        refine AllOps.cons (fun x u hC hT hp K hK => ?_) ?_
        ·simp [KnownTill,Region.binds,VRtB] at hp
         clear hT
         go_simp
         refine hK undef _ _ hC (Below.refl _ _) (by exact rfl) ?_
         first | (simp only [Act.put,List.setIfInBounds_toArray,List.set_cons_succ,List.set_cons_zero,hp]; done) | simp [Act.put,hp]
        refine AllOps.cons (fun x u hC hT hp K hK => ?_) ?_
        ·simp [KnownTill,Region.binds,VRtB] at hp
         clear hT
         go_simp
         refine hK undef _ _ hC (Below.refl _ _) (by exact rfl) ?_
         first | (simp only [Act.put,List.setIfInBounds_toArray,List.set_cons_succ,List.set_cons_zero,hp]; done) | simp [Act.put,hp]
        refine AllOps.cons (fun x u hC hT hp K hK => ?_) ?_
        ·simp [KnownTill,Region.binds,VRtB] at hp
         clear hT
         go_simp
         refine hK undef _ _ hC (Below.refl _ _) (by exact rfl) ?_
         first | (simp only [Act.put,List.setIfInBounds_toArray,List.set_cons_succ,List.set_cons_zero,hp]; done) | simp [Act.put,hp]
        refine AllOps.cons (fun x u hC hT hp K hK => ?_) ?_
        ·simp [KnownTill,Region.binds,VRtB] at hp
         clear hT
         go_simp
         refine hK undef _ _ hC (Below.refl _ _) (by exact rfl) ?_
         first | (simp only [Act.put,List.setIfInBounds_toArray,List.set_cons_succ,List.set_cons_zero,hp]; done) | simp [Act.put,hp]
        refine AllOps.cons (fun x u hC hT hp K hK => ?_) ?_
        ·simp [KnownTill,Region.binds,VRtB] at hp
         clear hT
         go_simp
         refine hK undef _ _ hC (Below.refl _ _) (by exact rfl) ?_
         first | (simp only [Act.put,List.setIfInBounds_toArray,List.set_cons_succ,List.set_cons_zero,hp]; done) | simp [Act.put,hp]
        refine AllOps.cons (fun x u hC hT hp K hK => ?_) ?_
        ·simp [KnownTill,Region.binds,VRtB] at hp
         clear hT
         go_simp
         refine hK undef _ _ hC (Below.refl _ _) (by exact rfl) ?_
         first | (simp only [Act.put,List.setIfInBounds_toArray,List.set_cons_succ,List.set_cons_zero,hp]; done) | simp [Act.put,hp]
        refine AllOps.cons (fun x u hC hT hp K hK => ?_) ?_
        ·simp [KnownTill,Region.binds,VRtB] at hp
         clear hT
         go_simp
         refine hK undef _ _ hC (Below.refl _ _) (by exact rfl) ?_
         first | (simp only [Act.put,List.setIfInBounds_toArray,List.set_cons_succ,List.set_cons_zero,hp]; done) | simp [Act.put,hp]
        refine AllOps.cons (fun x u hC hT hp K hK => ?_) ?_
        ·simp [KnownTill,Region.binds,VRtB] at hp
         clear hT
         go_simp
         refine hK undef _ _ hC (Below.refl _ _) (by exact rfl) ?_
         first | (simp only [Act.put,List.setIfInBounds_toArray,List.set_cons_succ,List.set_cons_zero,hp]; done) | simp [Act.put,hp]
        refine AllOps.cons (fun x u hC hT hp K hK => ?_) ?_
        ·simp [KnownTill,Region.binds,VRtB] at hp
         clear hT
         go_simp
         refine hK undef _ _ hC (Below.refl _ _) (by exact rfl) ?_
         first | (simp only [Act.put,List.setIfInBounds_toArray,List.set_cons_succ,List.set_cons_zero,hp]; done) | simp [Act.put,hp]
        refine AllOps.cons (fun x u hC hT hp K hK => ?_) ?_
        ·simp [KnownTill,Region.binds,VRtB] at hp
         clear hT
         go_simp
         refine hK undef _ _ hC (Below.refl _ _) (by exact rfl) ?_
         first | (simp only [Act.put,List.setIfInBounds_toArray,List.set_cons_succ,List.set_cons_zero,hp]; done) | simp [Act.put,hp]
        refine AllOps.cons (fun x u hC hT hp K hK => ?_) ?_
        ·simp [KnownTill,Region.binds,VRtB] at hp
         clear hT
         go_simp
         refine hK _ _ _ hC (Below.refl _ _) (by exact (by first | exact rfl | simp)) ?_
         first | (simp only [Act.put,List.setIfInBounds_toArray,List.set_cons_succ,List.set_cons_zero,hp]; done) | simp [Act.put,hp]
        refine AllOps.cons (fun x u hC hT hp K hK => ?_) ?_
        ·simp [KnownTill,Region.binds,VRtB] at hp
         clear hT
         go_simp
         refine hK _ _ _ hC (Below.refl _ _) (by exact rfl) ?_
         first | (simp only [Act.put,List.setIfInBounds_toArray,List.set_cons_succ,List.set_cons_zero,hp]; done) | simp [Act.put,hp]
        refine AllOps.cons (fun x u hC hT hp K hK => ?_) ?_
        ·simp [KnownTill,Region.binds,VRtB] at hp
         clear hT
         go_simp
         refine hK undef _ _ hC (Below.refl _ _) (by exact rfl) ?_
         first | (simp only [Act.put,List.setIfInBounds_toArray,List.set_cons_succ,List.set_cons_zero,hp]; done) | simp [Act.put,hp]
        refine AllOps.cons (fun x u hC hT hp K hK => ?_) ?_
        ·simp [KnownTill,Region.binds,VRtB] at hp
         clear hT
         go_simp
         refine hK undef _ _ hC (Below.refl _ _) (by exact rfl) ?_
         first | (simp only [Act.put,List.setIfInBounds_toArray,List.set_cons_succ,List.set_cons_zero,hp]; done) | simp [Act.put,hp]
        refine AllOps.cons (fun x u hC hT hp K hK => ?_) ?_
        ·simp [KnownTill,Region.binds,VRtB] at hp
         clear hT
         go_simp
         refine hK undef _ _ hC (Below.refl _ _) (by exact rfl) ?_
         first | (simp only [Act.put,List.setIfInBounds_toArray,List.set_cons_succ,List.set_cons_zero,hp]; done) | simp [Act.put,hp]
        refine AllOps.cons (fun x u hC hT hp K hK => ?_) ?_
        ·simp [KnownTill,Region.binds,VRtB] at hp
         clear hT
         go_simp
         refine hK undef _ _ hC (Below.refl _ _) (by exact rfl) ?_
         first | (simp only [Act.put,List.setIfInBounds_toArray,List.set_cons_succ,List.set_cons_zero,hp]; done) | simp [Act.put,hp]
        refine AllOps.cons (fun x u hC hT hp K hK => ?_) ?_
        ·simp [KnownTill,Region.binds,VRtB] at hp
         clear hT
         go_simp
         refine hK undef _ _ hC (Below.refl _ _) (by exact rfl) ?_
         first | (simp only [Act.put,List.setIfInBounds_toArray,List.set_cons_succ,List.set_cons_zero,hp]; done) | simp [Act.put,hp]
        refine AllOps.cons (fun x u hC hT hp K hK => ?_) ?_
        ·simp [KnownTill,Region.binds,VRtB] at hp
         clear hT
         go_simp
         refine hK _ _ _ hC (Below.refl _ _) (by exact (by first | exact rfl | simp)) ?_
         first | (simp only [Act.put,List.setIfInBounds_toArray,List.set_cons_succ,List.set_cons_zero,hp]; done) | simp [Act.put,hp]
        exact AllOps.nil
       case finB =>
        intro x u hC hV
        have e78:x 39=.bool true:=hV 39 (by decide) rfl
        rw [e78]
        clear e78
        clear hV
        have HBu:=Lib.hid (bt HB2.out (show Below w2.heap.size w2 u from hC))
        clear hC
        go_wp2
        go_ret
        exact ⟨by rw [HX.out]; rfl,HBu.out⟩
     ·have hkI:decide ((nP:Int)≤(k:Int))=true:=decide_eq_true (by omega)
      have hkN:decide (nP≤k)=true:=decide_eq_true (by omega)
      rw [dif_neg (by rw [← HN.out]; exact hk)] at hst
      have HX:Hid (R=false):=Lib.hid (HF.out hst)
      have HZ:=Lib.hid (And.intro hxl hbl)
      have Hz0:=Lib.hid r0
      clear HY r0 d1 d2 hxl hbl htk hst
      refine wp_region_invT (F:=?FA) (V:=VRtA xq nP cP k AP) (dead:=fun _ => none) (T:=fun _ _ => True) (C:=fun u => Below w2.heap.size w2 u) (E:=fun _ u u' => Below u.heap.size u u') (by kernel_rfl) (by kernel_rfl) (by kernel_rfl) (fun x => ?hFA) ?hmonoA ?hTmA ?hTA ?hCA ?stepA ?finA
      case hFA => simp only [mkA,Act.put,List.setIfInBounds_toArray,List.set_cons_succ,List.set_cons_zero,Nat.reduceAdd,Nat.zero_add]; first | with_reducible rfl | rfl
      case hmonoA => exact fun q' i v u u' he hik hwt hdd hv => VRtA.mono (q:=q') he hv
      case hTmA => exact fun _ _ _ _ _ _ _ _ => trivial
      case hTA => exact fun j => trivial
      case hCA => exact (Below.refl _ _).drew
      case stepA =>
       refine AllOps.cons (fun x u hC hT hp K hK => ?_) ?_
       ·clear hp hT
        go_simp
        refine hK _ _ _ hC (Below.refl _ _) (by exact rfl) ?_
        first | (simp only [Act.put,List.setIfInBounds_toArray,List.set_cons_succ,List.set_cons_zero]; done) | simp [Act.put]
       refine AllOps.cons (fun x u hC hT hp K hK => ?_) ?_
       ·clear hp hT
        go_simp
        refine hK _ _ _ hC (Below.refl _ _) (by exact rfl) ?_
        first | (simp only [Act.put,List.setIfInBounds_toArray,List.set_cons_succ,List.set_cons_zero]; done) | simp [Act.put]
       refine AllOps.cons (fun x u hC hT hp K hK => ?_) ?_
       ·simp [KnownTill,Region.binds,VRtA] at hp
        clear hT
        go_simp
        refine hK _ _ _ hC (Below.refl _ _) (by exact rfl) ?_
        first | (simp only [Act.put,List.setIfInBounds_toArray,List.set_cons_succ,List.set_cons_zero,hp]; done) | simp [Act.put,hp]
       refine AllOps.cons (fun x u hC hT hp K hK => ?_) ?_
       ·simp [KnownTill,Region.binds,VRtA] at hp
        clear hT
        go_simp
        refine hK _ _ _ hC (Below.refl _ _) (by exact rfl) ?_
        first | (simp only [Act.put,List.setIfInBounds_toArray,List.set_cons_succ,List.set_cons_zero,hp]; done) | simp [Act.put,hp]
       refine AllOps.cons (fun x u hC hT hp K hK => ?_) ?_
       ·simp [KnownTill,Region.binds,VRtA] at hp
        clear hT
        have qq:=(show Below w2.heap.size w2 u from hC).cell (p:=⟨xq,3,none⟩) HZ.out.1
        rw [Hz0.out] at qq
        go_simp
        refine hK _ _ _ hC (Below.refl _ _) (by exact rfl) ?_
        first | (simp only [Act.put,List.setIfInBounds_toArray,List.set_cons_succ,List.set_cons_zero,hp]; done) | simp [Act.put,hp]
       refine AllOps.cons (fun x u hC hT hp K hK => ?_) ?_
       ·simp [KnownTill,Region.binds,VRtA] at hp
        clear hT
        go_simp
        refine hK _ _ _ hC (Below.refl _ _) (by exact rfl) ?_
        first | (simp only [Act.put,List.setIfInBounds_toArray,List.set_cons_succ,List.set_cons_zero,hp]; done) | simp [Act.put,hp]
       refine AllOps.cons (fun x u hC hT hp K hK => ?_) ?_
       ·simp [KnownTill,Region.binds,VRtA] at hp
        clear hT
        go_simp
        refine hK _ _ _ hC (Below.refl _ _) (by exact (by first | exact rfl | simp)) ?_
        first | (simp only [Act.put,List.setIfInBounds_toArray,List.set_cons_succ,List.set_cons_zero,hp]; done) | simp [Act.put,hp]
       refine AllOps.cons (fun x u hC hT hp K hK => ?_) ?_
       ·simp [KnownTill,Region.binds,VRtA] at hp
        clear hT
        go_simp
        refine hK _ _ _ hC (Below.refl _ _) (by exact rfl) ?_
        first | (simp only [Act.put,List.setIfInBounds_toArray,List.set_cons_succ,List.set_cons_zero,hp]; done) | simp [Act.put,hp]
       refine AllOps.cons (fun x u hC hT hp K hK => ?_) ?_
       ·simp [KnownTill,Region.binds,VRtA] at hp
        clear hT
        go_simp
        refine hK undef _ _ hC (Below.refl _ _) (by exact rfl) ?_
        first | (simp only [Act.put,List.setIfInBounds_toArray,List.set_cons_succ,List.set_cons_zero,hp]; done) | simp [Act.put,hp]
       refine AllOps.cons (fun x u hC hT hp K hK => ?_) ?_
       ·simp [KnownTill,Region.binds,VRtA] at hp
        clear hT
        go_simp
        refine hK undef _ _ hC (Below.refl _ _) (by exact rfl) ?_
        first | (simp only [Act.put,List.setIfInBounds_toArray,List.set_cons_succ,List.set_cons_zero,hp]; done) | simp [Act.put,hp]
       refine AllOps.cons (fun x u hC hT hp K hK => ?_) ?_
       ·simp [KnownTill,Region.binds,VRtA] at hp
        clear hT
        go_simp
        refine hK undef _ _ hC (Below.refl _ _) (by exact rfl) ?_
        first | (simp only [Act.put,List.setIfInBounds_toArray,List.set_cons_succ,List.set_cons_zero,hp]; done) | simp [Act.put,hp]
       refine AllOps.cons (fun x u hC hT hp K hK => ?_) ?_
       ·simp [KnownTill,Region.binds,VRtA] at hp
        clear hT
        go_simp
        refine hK undef _ _ hC (Below.refl _ _) (by exact rfl) ?_
        first | (simp only [Act.put,List.setIfInBounds_toArray,List.set_cons_succ,List.set_cons_zero,hp]; done) | simp [Act.put,hp]
       refine AllOps.cons (fun x u hC hT hp K hK => ?_) ?_
       ·simp [KnownTill,Region.binds,VRtA] at hp
        clear hT
        go_simp
        refine hK undef _ _ hC (Below.refl _ _) (by exact rfl) ?_
        first | (simp only [Act.put,List.setIfInBounds_toArray,List.set_cons_succ,List.set_cons_zero,hp]; done) | simp [Act.put,hp]
       refine AllOps.cons (fun x u hC hT hp K hK => ?_) ?_
       ·simp [KnownTill,Region.binds,VRtA] at hp
        clear hT
        go_simp
        refine hK undef _ _ hC (Below.refl _ _) (by exact rfl) ?_
        first | (simp only [Act.put,List.setIfInBounds_toArray,List.set_cons_succ,List.set_cons_zero,hp]; done) | simp [Act.put,hp]
       refine AllOps.cons (fun x u hC hT hp K hK => ?_) ?_
       ·simp [KnownTill,Region.binds,VRtA] at hp
        clear hT
        go_simp
        refine hK undef _ _ hC (Below.refl _ _) (by exact rfl) ?_
        first | (simp only [Act.put,List.setIfInBounds_toArray,List.set_cons_succ,List.set_cons_zero,hp]; done) | simp [Act.put,hp]
       refine AllOps.cons (fun x u hC hT hp K hK => ?_) ?_
       ·simp [KnownTill,Region.binds,VRtA] at hp
        clear hT
        go_simp
        refine hK undef _ _ hC (Below.refl _ _) (by exact rfl) ?_
        first | (simp only [Act.put,List.setIfInBounds_toArray,List.set_cons_succ,List.set_cons_zero,hp]; done) | simp [Act.put,hp]
       refine AllOps.cons (fun x u hC hT hp K hK => ?_) ?_
       ·simp [KnownTill,Region.binds,VRtA] at hp
        clear hT
        go_simp
        refine hK undef _ _ hC (Below.refl _ _) (by exact rfl) ?_
        first | (simp only [Act.put,List.setIfInBounds_toArray,List.set_cons_succ,List.set_cons_zero,hp]; done) | simp [Act.put,hp]
       refine AllOps.cons (fun x u hC hT hp K hK => ?_) ?_
       ·simp [KnownTill,Region.binds,VRtA] at hp
        clear hT
        go_simp
        refine hK undef _ _ hC (Below.refl _ _) (by exact rfl) ?_
        first | (simp only [Act.put,List.setIfInBounds_toArray,List.set_cons_succ,List.set_cons_zero,hp]; done) | simp [Act.put,hp]
       refine AllOps.cons (fun x u hC hT hp K hK => ?_) ?_
       ·simp [KnownTill,Region.binds,VRtA] at hp
        clear hT
        go_simp
        refine hK undef _ _ hC (Below.refl _ _) (by exact rfl) ?_
        first | (simp only [Act.put,List.setIfInBounds_toArray,List.set_cons_succ,List.set_cons_zero,hp]; done) | simp [Act.put,hp]
       refine AllOps.cons (fun x u hC hT hp K hK => ?_) ?_
       ·simp [KnownTill,Region.binds,VRtA] at hp
        clear hT
        go_simp
        refine hK _ _ _ hC (Below.refl _ _) (by exact (by first | exact rfl | simp)) ?_
        first | (simp only [Act.put,List.setIfInBounds_toArray,List.set_cons_succ,List.set_cons_zero,hp]; done) | simp [Act.put,hp]
       refine AllOps.cons (fun x u hC hT hp K hK => ?_) ?_
       ·simp [KnownTill,Region.binds,VRtA] at hp
        clear hT
        go_simp
        refine hK _ _ _ hC (Below.refl _ _) (by exact rfl) ?_
        first | (simp only [Act.put,List.setIfInBounds_toArray,List.set_cons_succ,List.set_cons_zero,hp]; done) | simp [Act.put,hp]
       refine AllOps.cons (fun x u hC hT hp K hK => ?_) ?_
       ·simp [KnownTill,Region.binds,VRtA] at hp
        clear hT
        go_simp
        refine hK undef _ _ hC (Below.refl _ _) (by exact rfl) ?_
        first | (simp only [Act.put,List.setIfInBounds_toArray,List.set_cons_succ,List.set_cons_zero,hp]; done) | simp [Act.put,hp]
       refine AllOps.cons (fun x u hC hT hp K hK => ?_) ?_
       ·simp [KnownTill,Region.binds,VRtA] at hp
        clear hT
        go_simp
        refine hK undef _ _ hC (Below.refl _ _) (by exact rfl) ?_
        first | (simp only [Act.put,List.setIfInBounds_toArray,List.set_cons_succ,List.set_cons_zero,hp]; done) | simp [Act.put,hp]
       refine AllOps.cons (fun x u hC hT hp K hK => ?_) ?_
       ·simp [KnownTill,Region.binds,VRtA] at hp
        clear hT
        go_simp
        refine hK undef _ _ hC (Below.refl _ _) (by exact rfl) ?_
        first | (simp only [Act.put,List.setIfInBounds_toArray,List.set_cons_succ,List.set_cons_zero,hp]; done) | simp [Act.put,hp]
       refine AllOps.cons (fun x u hC hT hp K hK => ?_) ?_
       ·simp [KnownTill,Region.binds,VRtA] at hp
        clear hT
        go_simp
        refine hK undef _ _ hC (Below.refl _ _) (by exact rfl) ?_
        first | (simp only [Act.put,List.setIfInBounds_toArray,List.set_cons_succ,List.set_cons_zero,hp]; done) | simp [Act.put,hp]
       refine AllOps.cons (fun x u hC hT hp K hK => ?_) ?_
       ·simp [KnownTill,Region.binds,VRtA] at hp
        clear hT
        go_simp
        refine hK undef _ _ hC (Below.refl _ _) (by exact rfl) ?_
        first | (simp only [Act.put,List.setIfInBounds_toArray,List.set_cons_succ,List.set_cons_zero,hp]; done) | simp [Act.put,hp]
       refine AllOps.cons (fun x u hC hT hp K hK => ?_) ?_
       ·simp [KnownTill,Region.binds,VRtA] at hp
        clear hT
        go_simp
        refine hK undef _ _ hC (Below.refl _ _) (by exact rfl) ?_
        first | (simp only [Act.put,List.setIfInBounds_toArray,List.set_cons_succ,List.set_cons_zero,hp]; done) | simp [Act.put,hp]
       refine AllOps.cons (fun x u hC hT hp K hK => ?_) ?_
       ·simp [KnownTill,Region.binds,VRtA] at hp
        clear hT
        go_simp
        refine hK undef _ _ hC (Below.refl _ _) (by exact rfl) ?_
        first | (simp only [Act.put,List.setIfInBounds_toArray,List.set_cons_succ,List.set_cons_zero,hp]; done) | simp [Act.put,hp]
       refine AllOps.cons (fun x u hC hT hp K hK => ?_) ?_
       ·simp [KnownTill,Region.binds,VRtA] at hp
        clear hT
        go_simp
        refine hK undef _ _ hC (Below.refl _ _) (by exact rfl) ?_
        first | (simp only [Act.put,List.setIfInBounds_toArray,List.set_cons_succ,List.set_cons_zero,hp]; done) | simp [Act.put,hp]
       refine AllOps.cons (fun x u hC hT hp K hK => ?_) ?_
       ·simp [KnownTill,Region.binds,VRtA] at hp
        clear hT
        go_simp
        refine hK undef _ _ hC (Below.refl _ _) (by exact rfl) ?_
        first | (simp only [Act.put,List.setIfInBounds_toArray,List.set_cons_succ,List.set_cons_zero,hp]; done) | simp [Act.put,hp]
       refine AllOps.cons (fun x u hC hT hp K hK => ?_) ?_
       ·simp [KnownTill,Region.binds,VRtA] at hp
        clear hT
        go_simp
        refine hK undef _ _ hC (Below.refl _ _) (by exact rfl) ?_
        first | (simp only [Act.put,List.setIfInBounds_toArray,List.set_cons_succ,List.set_cons_zero,hp]; done) | simp [Act.put,hp]
       refine AllOps.cons (fun x u hC hT hp K hK => ?_) ?_
       ·simp [KnownTill,Region.binds,VRtA] at hp
        clear hT
        go_simp
        refine hK undef _ _ hC (Below.refl _ _) (by exact rfl) ?_
        first | (simp only [Act.put,List.setIfInBounds_toArray,List.set_cons_succ,List.set_cons_zero,hp]; done) | simp [Act.put,hp]
       refine AllOps.cons (fun x u hC hT hp K hK => ?_) ?_
       ·simp [KnownTill,Region.binds,VRtA] at hp
        clear hT
        go_simp
        refine hK _ _ _ hC (Below.refl _ _) (by exact (by first | exact rfl | simp)) ?_
        first | (simp only [Act.put,List.setIfInBounds_toArray,List.set_cons_succ,List.set_cons_zero,hp]; done) | simp [Act.put,hp]
       refine AllOps.cons (fun x u hC hT hp K hK => ?_) ?_
       ·simp [KnownTill,Region.binds,VRtA] at hp
        clear hT
        go_simp
        refine hK _ _ _ hC (Below.refl _ _) (by exact rfl) ?_
        first | (simp only [Act.put,List.setIfInBounds_toArray,List.set_cons_succ,List.set_cons_zero,hp]; done) | simp [Act.put,hp]
       refine AllOps.cons (fun x u hC hT hp K hK => ?_) ?_
       ·simp [KnownTill,Region.binds,VRtA] at hp
        clear hT
        go_simp
        refine hK undef _ _ hC (Below.refl _ _) (by exact rfl) ?_
        first | (simp only [Act.put,List.setIfInBounds_toArray,List.set_cons_succ,List.set_cons_zero,hp]; done) | simp [Act.put,hp]
       refine AllOps.cons (fun x u hC hT hp K hK => ?_) ?_
       ·simp [KnownTill,Region.binds,VRtA] at hp
        clear hT
        go_simp
        refine hK undef _ _ hC (Below.refl _ _) (by exact rfl) ?_
        first | (simp only [Act.put,List.setIfInBounds_toArray,List.set_cons_succ,List.set_cons_zero,hp]; done) | simp [Act.put,hp]
       refine AllOps.cons (fun x u hC hT hp K hK => ?_) ?_
       ·simp [KnownTill,Region.binds,VRtA] at hp
        clear hT
        go_simp
        refine hK undef _ _ hC (Below.refl _ _) (by exact rfl) ?_
        first | (simp only [Act.put,List.setIfInBounds_toArray,List.set_cons_succ,List.set_cons_zero,hp]; done) | simp [Act.put,hp]
       refine AllOps.cons (fun x u hC hT hp K hK => ?_) ?_
       ·simp [KnownTill,Region.binds,VRtA] at hp
        clear hT
        go_simp
        refine hK undef _ _ hC (Below.refl _ _) (by exact rfl) ?_
        first | (simp only [Act.put,List.setIfInBounds_toArray,List.set_cons_succ,List.set_cons_zero,hp]; done) | simp [Act.put,hp]
       refine AllOps.cons (fun x u hC hT hp K hK => ?_) ?_
       ·simp [KnownTill,Region.binds,VRtA] at hp
        clear hT
        go_simp
        refine hK undef _ _ hC (Below.refl _ _) (by exact rfl) ?_
        first | (simp only [Act.put,List.setIfInBounds_toArray,List.set_cons_succ,List.set_cons_zero,hp]; done) | simp [Act.put,hp]
       refine AllOps.cons (fun x u hC hT hp K hK => ?_) ?_
       ·simp [KnownTill,Region.binds,VRtA] at hp
        clear hT
        go_simp
        refine hK _ _ _ hC (Below.refl _ _) (by exact (by first | exact rfl | simp)) ?_
        first | (simp only [Act.put,List.setIfInBounds_toArray,List.set_cons_succ,List.set_cons_zero,hp]; done) | simp [Act.put,hp]
       exact AllOps.nil
      case finA =>
       intro x u hC hV
       have e78:x 39=.bool true:=hV 39 (by decide) rfl
       rw [e78]
       clear e78
       clear hV
       have HBu:=Lib.hid (bt HB2.out (show Below w2.heap.size w2 u from hC))
       clear hC
       go_wp2
       go_ret
       exact ⟨by rw [HX.out]; rfl,HBu.out⟩
    ·have h4b:(ck != 4)=true:=by simpa using h4
     have h4c:(ck == 4)=false:=by simpa using h4
     rw [if_neg h4] at hst
     have HX:Hid (R=false):=Lib.hid (HF.out hst)
     clear hr hil hcs hst hc hw2 b2 hbc k2 HR
     go_wp2
     rw [← HW2.out]
     go_ret
     exact ⟨by rw [HX.out]; rfl,HB2.out⟩
  ·obtain rfl:i=n:=by omega
   have hiI:¬ (i:Int) < (i:Int):=by omega
   have hT:rightL ws P l=true:=by
    rw [← HR.out.1,show l.drop i=[] from List.drop_eq_nil_of_le (by rw [← hn.out]; exact Nat.le_refl _)]
    cases P.drop k <;> rfl
   have HPu:=Lib.hid (fun u (hu:Below wr.heap.size wr u) => refputs_any A l i c u hn (by omega) (H.out.2.2.below (bt HR.out.2 hu)))
   have HRo:=Lib.hid (fun u (hu:Below wr.heap.size wr u) => rroom_any B xq P ws gv u (hr.below hu) H.out.2.1)
   have hple:=putsL_le l
   obtain ⟨pz,hpz⟩:∃ pz,pz=putsL l:=⟨_,rfl⟩
   rw [← hpz] at HPu hple
   obtain ⟨rm,hrm⟩:∃ rm,rm=roomR P ws gv:=⟨_,rfl⟩
   rw [← hrm] at HRo
   have HR2:Hid (R=(decide (pz=0) || decide ((pz:Int)≤rm))):=Lib.hid (by rw [HR0.out]; unfold rightR; rw [hT,← hpz,← hrm]; rfl)
   have HB:=Lib.hid HR.out.2
   clear hr hT hpz hrm HR
   go_wp2_with fail
   refine (HPu.out wr (Below.refl _ _)).mono ?_
   rintro e w3 ⟨rfl,b3⟩
   have HB3:=Lib.hid b3
   clear b3
   by_cases h0:pz=0
   ·subst h0
    have HX:Hid (R=true∧Below w.heap.size w w3):=Lib.hid ⟨by rw [HR2.out]; rfl,bt HB.out HB3.out⟩
    go_wp2
    go_ret
    exact ⟨by rw [HX.out.1]; rfl,HX.out.2⟩
   ·have h0b:((pz:Int) == 0)=false:=by simpa using h0
    go_wp2_with fail
    refine (HPu.out w3 HB3.out).mono ?_
    rintro e w4 ⟨rfl,b4⟩
    have HB4:=Lib.hid (bt HB3.out b4)
    clear b4
    go_wp2_with fail
    refine (HRo.out w4 HB4.out).mono ?_
    rintro e w5 ⟨rfl,b5⟩
    have HX:Hid (R=decide ((pz:Int)≤rm)∧Below w.heap.size w w5):=Lib.hid ⟨by rw [HR2.out]; simp [h0],bt HB.out (bt HB4.out b5)⟩
    clear b5
    go_wp2
    go_ret
    exact ⟨by rw [HX.out.1]; rfl,HX.out.2⟩
end Go.Proofs.YtlliaihmfimdoaaGreat.Qu.Dq


namespace Go.Proofs.YtlliaihmfimdoaaGreat.Qu.Dq
variable {E:Value × Value × Value}
open Go.RowKit Go.Maps Go.Joins Go.Deep
theorem RQ.addAt {w:World} {B x:Nat} {P:List (Int × Nat)} {ws:List WI} {gv:Int} (h:RQ E w B x P ws gv) (z:WI) (hk':Blk w z.q 149 #[.int .i64 z.n,.slice z.A z.l.length z.c,.bool z.p]) (hBq:B≤z.q) (hown:OwnC w B z.A z.c z.l) (hq:∀ y ∈ ws,y.q≠z.q) (hA:∀ y ∈ ws,∀ r,blk y.A=some r→blk z.A≠some r) (hzl:z.l.length≤300) (hl:ws.length < 100) :
  ∃ AW nW cW A3 c3 w3,w.cell? ⟨x,4,none⟩=some (.slice AW nW cW)∧nW≤100 ∧
   (Builtin.append_ #[34,34] 34 #[.slice AW nW cW,.slice (some ⟨w.heap.size,0,none⟩) 1 1]).run Tryz.prog (w.alloc (.cells #[.pointer (some ⟨z.q,0,none⟩)] 111))=.ok (.slice A3 (nW + 1) c3) w3 ∧
   w3.cell? ⟨x,4,none⟩=some (.slice AW nW cW)∧w3.frozen? ⟨x,4,none⟩=false ∧
   RQ E (w3.setCell ⟨x,4,none⟩ (.slice A3 (nW + 1) c3)) B x P (ws ++ [z]) gv∧RG B w (w3.setCell ⟨x,4,none⟩ (.slice A3 (nW + 1) c3)) x (fun _ => False):=by
 obtain ⟨AP,nP,cP,AW,nW,cW,hk,hnP,hnW,hpr,hpt⟩:=h.ex
 obtain ⟨w2,hw2⟩:∃ w2,w2=w.alloc (.cells #[.pointer (some ⟨z.q,0,none⟩)] 111):=⟨_,rfl⟩
 have b12:Below w.heap.size w w2:=by rw [hw2]; exact ba _ _
 have kp:Blk w2 w.heap.size 111 #[.pointer (some ⟨z.q,0,none⟩)]:=by rw [hw2]; exact Blk.new _ _ _
 rw [← hw2]
 have h2:=h.below b12
 obtain ⟨hwk,hds,hsm⟩:=And.intro h2.wk (And.intro h2.ds h2.sm)
 have hk2:=hk.below b12 hk.lt
 have hg12:=lbelow_grown b12 (some x)
 have hpt2:OwnPt w2 B AW cW (ws.map WI.q):=own_kept hpt hk (by decide) hg12
 have hpr2:OwnPr w2 B AP cP P:=own_kept hpr hk (by decide) hg12
 have kn2:=hk'.below b12 hk'.lt
 have ow2:OwnC w2 B z.A z.c z.l:=own_kept hown hk (by decide) hg12
 have hs2:=b12.size
 have hkn:=hk'.lt
 obtain ⟨A3,c3,w3,hrun,own3,hg3⟩:=pt_more hpt2 nW (by rw [List.length_map]; exact hnW) (by omega) z.q w.heap.size (by omega) (kp.cell 0)
 have hxne:blk AW≠some x:=own_ne hpt2 hk2 (by decide)
 have hk3:Blk w3 x 38 #[E.1,E.2.1,E.2.2,.slice AP nP cP,.slice AW nW cW,.int .i64 gv]:=hk2.kept hg3 (fun e => hxne e.symm)
 have hgs:=lgrown_set w3 ⟨x,4,none⟩ (.slice A3 (nW + 1) c3)
 have hnb:∀ {t:TypeId} {g:Nat} {cs:Array Value},Blk w2 g t cs→111≠t→some g≠blk AW:=fun hb ht e => own_ne hpt2 hb ht e.symm
 have hpb:∀ r,blk AW=some r→∃ cs fz,w2.heap[r]?=some (.cells cs 111 fz):=fun r e => by
  rcases hpt2.2 with ⟨h1,h2⟩ | ⟨g',cap',cur',h1,hbb',hg',_⟩
  ·injection h1 with e1 _ _
   rw [e1] at e
   cases e
  ·injection h1 with e1 _ _
   rw [e1] at e
   injection e with e
   have e:g'=r:=e
   subst e
   exact ⟨_,_,hg'⟩
 have hok:∀ {k n c m:Nat} {t:TypeId} {A:Option Addr} {vs:List Value},w2.ownsRow B t k (.slice A n c) m vs→t≠111→w3.ownsRow B t k (.slice A n c) m vs:=fun {k n c m t A vs} ho ht =>
  own_same ho fun r hr ⟨cs,fz,e⟩ _ => hg3.block r hr (fun e2 => by
   obtain ⟨cs2,fz2,e3⟩:=hpb r e2.symm
   rw [e3] at e
   injection e with e
   injection e with _ e _
   exact ht e.symm)
 refine ⟨AW,nW,cW,A3,c3,w3,hk.cell 4,by omega,hrun,hk3.cell 4,hk3.frozen 4,?_,?_⟩
 ·have hwk3:∀ y ∈ ws ++ [z],B≤y.q∧Blk w3 y.q 149 #[.int .i64 y.n,.slice y.A y.l.length y.c,.bool y.p]∧OwnC w3 B y.A y.c y.l:=fun y hy => by
   rcases List.mem_append.1 hy with hy | hy
   ·obtain ⟨g1,g2,g3⟩:=hwk y hy
    exact ⟨g1,g2.kept hg3 (hnb g2 (by decide)),hok g3 (by decide)⟩
   ·obtain rfl:=List.mem_singleton.1 hy
    exact ⟨hBq,kn2.kept hg3 (hnb kn2 (by decide)),hok ow2 (by decide)⟩
  have own3':OwnPt w3 B A3 c3 ((ws ++ [z]).map WI.q):=by rw [List.map_append]; exact own3
  have ks:=hk3.set_ 4 (.slice A3 (nW + 1) c3)
  refine ⟨⟨AP,nP,cP,A3,nW + 1,c3,ks,hnP,by rw [List.length_append,hnW]; rfl,own_kept (hok hpr2 (by decide)) hk3 (by decide) hgs,?_⟩,wk_kept hwk3 hk3 hgs,?_,hsm.1,?_,?_⟩
  ·have:=own3'
   unfold OwnPt at this ⊢
   exact own_kept this hk3 (by decide) hgs
  ·rw [List.pairwise_append]
   refine ⟨hds,List.pairwise_singleton _ _,fun a ha b hb => ?_⟩
   obtain rfl:=List.mem_singleton.1 hb
   exact ⟨hq a ha,hA a ha⟩
  ·rw [List.length_append]; simp; omega
  ·intro y hy
   rcases List.mem_append.1 hy with hy | hy
   ·exact hsm.2.2 y hy
   ·obtain rfl:=List.mem_singleton.1 hy
    exact hzl
 ·have r12:RG B w w2 x (fun _ => False):=RG.of hg12
  refine (r12.trans (⟨hg3.os,hg3.tape,hg3.output,hg3.size,fun k hb hk' hx => hg3.block k hk' (fun e => by have:=(World.ownsRow.lt hpt2 k (by rw [ownBlock_slice]; exact e.symm)).1; omega),fun k hk' hx => ?_⟩:RG B w2 w3 x (fun _ => False)) (fun _ _ h => h)).trans (RG.of hgs) (fun _ _ h => h)
  by_cases e:blk AW=some k
  ·exact .inr (.inl (hpb k e))
  ·exact .inl (hg3.block k hk' (fun e' => e e'.symm))
def RRestO (E:Value × Value × Value) (w:World) (B x:Nat) (P:List (Int × Nat)) (ws:List WI) (gv n:Int) (l:List Ch) (e:Ending) (w':World):Prop :=
 e=.returned (.int .i64 (restR P ws gv n l))∧RG B w w' x (fun _ => False) ∧
  (((restR P ws gv n l≠0∨l=[])∧RQ E w' B x P ws gv) ∨
  (restR P ws gv n l=0∧l≠[]∧∃ q A c,w.heap.size≤q∧RQ E w' B x P (ws ++ [⟨q,n,A,c,l,true⟩]) gv∧∀ r,blk A=some r→w.heap.size≤r))
set_option maxRecDepth 100000 in
set_option maxHeartbeats 1000000 in
theorem rrest_any (B x:Nat) (P:List (Int × Nat)) (ws:List WI) (gv n:Int) (A:Option Addr) (l:List Ch) (q c:Nat) (w:World) (h:RQ E w B x P ws gv) (hg:0≤gv∧gv≤4611686018427387904) (hB:B≤w.heap.size) (hl:ws.length < 100) (hq:Hid (q=l.length)) (hqm:q≤300) (hc:InL w A l) :
  Calls Tryz.prog 93 #[.pointer (some ⟨x,3,none⟩),.int .i64 n,.slice A q c] w (RRestO E w B x P ws gv n l):=by
 have HR:=Lib.hid (rright_any B x P ws gv A l q c w h hg hq (by omega) hc)
 have H:=Lib.hid (And.intro h (And.intro hB (And.intro hl hc)))
 rcases a1:decide (n < 1) with _ | _
 ·have p1:¬ n < 1:=of_decide_eq_false a1
  rcases ha:rightR P ws gv l with _ | _
  ·rw [ha] at HR
   have HX:Hid (∀ w',Below w.heap.size w w'→RRestO E w B x P ws gv n l (.returned (.int .i64 1)) w'):=Lib.hid (fun w' hb => by
    have e:restR P ws gv n l=1:=by unfold restR; rw [if_neg p1,if_pos ha]
    exact ⟨by rw [e],RG.of (lbelow_grown hb _),.inl ⟨.inl (by rw [e]; decide),h.below hb⟩⟩)
   clear h ha hc hg hB hl
   go_enter Tryz.func93,Tryz.ntmps93
   go_wp2_with fail
   refine HR.out.mono ?_
   rintro e w1 ⟨rfl,b1⟩
   have HY:=Lib.hid (HX.out w1 b1)
   clear b1
   go_wp2
   go_ret
   exact HY.out
  ·rw [ha] at HR
   have HF:=fun (w':World) (hb:Below w.heap.size w w') => rfind_any B x P ws gv n w' (h.below hb)
   rcases hf:findW ws n with _ | z
   ·rw [hf] at HF
    have HFF:=Lib.hid HF
    have hE:restR P ws gv n l=0:=by unfold restR; rw [if_neg p1,if_neg (by rw [ha]; simp),hf]; rfl
    have HE:=Lib.hid hE
    clear h ha hc hg hB hl HF hf hE
    go_enter Tryz.func93,Tryz.ntmps93
    go_wp2_with fail
    refine HR.out.mono ?_
    rintro e wr ⟨rfl,b1⟩
    have HF1:=Lib.hid (HFF.out wr b1)
    have HB1:=Lib.hid b1
    clear b1 HR HFF
    go_wp2_with fail
    refine HF1.out.mono ?_
    rintro e w2 ⟨rfl,rfl⟩
    dsimp only [Option.map_none]
    clear HF1
    by_cases hq0:q=0
    ·have HX:Hid (RRestO E w B x P ws gv n l (.returned (.int .i64 0)) wr):=Lib.hid ⟨by rw [HE.out],RG.of (lbelow_grown HB1.out _),.inl ⟨.inr (List.eq_nil_of_length_eq_zero (by rw [← hq.out]; exact hq0)),H.out.1.below HB1.out⟩⟩
     have hqI:¬ (0:Int) < (q:Int):=by omega
     subst hq0
     go_wp2
     go_ret
     exact HX.out
    ·have hqI:(0:Int) < (q:Int):=by omega
     have hqn:(q:Int)≤300:=by omega
     have hln:l≠[]:=fun e => hq0 (by rw [hq.out,e]; rfl)
     have hRr:=H.out.1.below HB1.out
     have hcr:=H.out.2.2.2.below HB1.out
     have hBr:=Nat.le_trans H.out.2.1 HB1.out.size
     obtain ⟨q1,hq1⟩:∃ q1,q1=wr.heap.size:=⟨_,rfl⟩
     obtain ⟨w1,hw1⟩:∃ w1,w1=wr.alloc (.cells #[.int .i64 n,.slice none 0 0,.bool true] 149):=⟨_,rfl⟩
     have b1:Below wr.heap.size wr w1:=by rw [hw1]; exact ba _ _
     have k1:Blk w1 q1 149 #[.int .i64 n,.slice none 0 0,.bool true]:=by rw [hw1,hq1]; exact Blk.new _ _ _
     have hcs:=hcr.below b1
     obtain ⟨A2,c2,w2,hrun,own2,g2,hat2⟩:=ch_app (OwnC.nil w1 w1.heap.size) A c l 0 q rfl hq.out (fun b o e i hi => by
      obtain ⟨b',o',e',_,hc⟩:=hcs (by omega)
      rw [e] at e'
      cases e'
      exact hc i hi) (fun hp => by obtain ⟨b',o',e',_⟩:=hcs hp; exact ⟨b',o',e'⟩) (Nat.le_refl _) (by simp; have:=hq.out; omega) (Nat.le_refl _)
     rw [Nat.zero_add] at hrun
     rw [List.nil_append] at own2
     have b2:Below w1.heap.size w1 w2:=⟨g2.os,g2.tape,g2.output,g2.size,fun k hk => g2.block k hk (by simp [blk])⟩
     have k2:=k1.below b2 k1.lt
     have d2:w2.cell? ⟨q1,1,none⟩=some (.slice none 0 0):=k2.cell 1
     have f2:=k2.frozen 1
     have d1:w1.cell? ⟨q1,1,none⟩=some (.slice none 0 0):=k1.cell 1
     have ks:=k2.set_ 1 (.slice A2 q c2)
     have gs:=lgrown_set w2 ⟨q1,1,none⟩ (.slice A2 q c2)
     have hsz1:=b1.size
     have hsz2:=b2.size
     have hq1s:=k1.lt
     obtain ⟨w3,hw3⟩:∃ w3,w3=w2.setCell ⟨q1,1,none⟩ (.slice A2 q c2):=⟨_,rfl⟩
     rw [← hw3] at gs ks
     have b3:Below wr.heap.size wr w3:=by rw [hw3]; exact (bt b1 b2).setCell (p:=⟨q1,1,none⟩) (by rw [hq1]; exact Nat.le_refl _) _
     have hR3:=hRr.below b3
     have own3:OwnC w3 B A2 c2 l:=own_less (own_kept own2 k2 (by decide) gs) (Nat.le_trans hBr hsz1)
     have hqk:w3.heap.size=w2.heap.size:=by rw [hw3]; simp
     obtain ⟨AW',nW',cW',A5,c5,w5,p1',hnW',hrun5,p5,f5,hR5,hrg5⟩:=hR3.addAt ⟨q1,n,A2,c2,l,true⟩ (by dsimp only; rw [← hq.out]; exact ks) (by dsimp only; rw [hq1]; exact hBr) own3 (fun y hy e => by have:=(hRr.wk y hy).2.1.lt; have e:y.q=q1:=e; omega) (fun y hy r e1 e2 => by
      have h1:=((hRr.wk y hy).2.2.lt' r e1).2
      have h2:=(own2.lt' r e2).1
      omega) (by dsimp only; rw [← hq.out]; exact hqm) H.out.2.2.1
     rw [hqk] at hrun5
     have HX:Hid (RRestO E w B x P ws gv n l (.returned (.int .i64 0)) (w5.setCell ⟨x,4,none⟩ (.slice A5 (nW' + 1) c5))):=Lib.hid ⟨by rw [HE.out],(RG.of (lbelow_grown (bt HB1.out b3) _)).trans hrg5 (fun _ _ h => h),.inr ⟨HE.out,hln,q1,A2,c2,by rw [hq1]; exact HB1.out.size,hR5,fun r e => Nat.le_trans HB1.out.size (Nat.le_trans hsz1 (own2.lt' r e).1)⟩⟩
     rw [hw3] at hrun5 p1'
     rw [hw1] at hrun d1
     rw [hq1] at d1 d2 f2 hrun5 p1'
     clear hRr hcr hBr hw1 b1 k1 hcs own2 g2 hat2 b2 k2 ks gs hsz1 hsz2 hq1s hw3 b3 hR3 own3 hqk hR5 hrg5 hln
     go_wp2_with (first
      | (at_builtin; refine wpList_append_run rfl (.tmp 30) (.tmp 31) 40 rfl _ _ _ w2 rfl rfl hrun ?_)
      | (at_builtin; refine wpList_append_run rfl (.tmp 39) (.tmp 41) 34 rfl _ _ _ w5 rfl rfl hrun5 ?_))
     go_ret
     exact HX.out
   ·rw [hf] at HF
    have HFF:=Lib.hid HF
    have hzs:(findW ws n).isSome=true:=by rw [hf]; rfl
    have HX:Hid (∀ w',Below w.heap.size w w'→RRestO E w B x P ws gv n l (.returned (.int .i64 7)) w'):=Lib.hid (fun w' hb => by
     have e:restR P ws gv n l=7:=by unfold restR; rw [if_neg p1,if_neg (by rw [ha]; simp),if_pos hzs]
     exact ⟨by rw [e],RG.of (lbelow_grown hb _),.inl ⟨.inl (by rw [e]; decide),h.below hb⟩⟩)
    clear h ha hc hg hB hl HF hf hzs
    go_enter Tryz.func93,Tryz.ntmps93
    go_wp2_with fail
    refine HR.out.mono ?_
    rintro e w1 ⟨rfl,b1⟩
    have HF1:=Lib.hid (HFF.out w1 b1)
    have HY:=Lib.hid (HX.out w1 b1)
    clear b1 HFF HX
    go_wp2_with fail
    refine HF1.out.mono ?_
    rintro e w2 ⟨rfl,rfl⟩
    dsimp only [Option.map_some]
    go_wp2
    go_ret
    exact HY.out
 ·have p1:n < 1:=of_decide_eq_true a1
  have HX:Hid (RRestO E w B x P ws gv n l (.returned (.int .i64 1)) w):=Lib.hid (by
   have e:restR P ws gv n l=1:=by unfold restR; rw [if_pos p1]
   exact ⟨by rw [e],RG.of (lbelow_grown (Below.refl _ _) _),.inl ⟨.inl (by rw [e]; decide),h⟩⟩)
  clear h hc hg hB hl HR
  go_enter Tryz.func93,Tryz.ntmps93
  go_wp2
  go_ret
  exact HX.out
end Go.Proofs.YtlliaihmfimdoaaGreat.Qu.Dq

