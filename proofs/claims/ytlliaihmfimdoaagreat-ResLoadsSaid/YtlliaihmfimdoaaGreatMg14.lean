/- Parts Bj Bk Bl Bm Bn OpenB Br Bs Iu Iv Iw Ix Iy Iz of one proof. -/
import Derived.Test.YtlliaihmfimdoaaGreatMg12
import Derived.Test.YtlliaihmfimdoaaGreatMg13
import Derived.Test.YtlliaihmfimdoaaGreatMg01
import Derived.Lib.SmallJoins
import Derived.Deep.Slices
import Derived.Test.YtlliaihmfimdoaaGreatMg07
set_option linter.unusedSimpArgs false
set_option linter.unusedVariables false
namespace Go.Proofs.YtlliaihmfimdoaaGreat
open Go.RowKit Go.Maps
def setV (V:Nat→Nat × Bool) (x:Ch):Nat→Nat × Bool:=fun k => if k=x.y.toNat then (x.v,x.k == 1) else V k
theorem KvAt.valued {w:World} {g N:Nat} {tt:TypeId} {cs:Array Value} {S:KS} (h:KvAt w g tt cs S N) (k:Nat) (hk:k < 16) (x:Ch) (hx:x.y=(k:Int)) :
  ∃ cs',KvAt ((w.setCell ⟨g,k * 2,none⟩ (.int .u64 (x.v:Nat))).setCell ⟨g,k * 2 + 1,none⟩ (.bool (x.k == 1))) g tt cs' { S with V:=setV S.V x } N∧Keep cs cs':=by
 obtain ⟨h1,h2,h3,⟨mw,G,h4,h5,h6⟩,⟨h7,m2,h8,h9⟩,h10⟩:=h
 have ge:=(lgrown_set w ⟨g,k * 2,none⟩ (.int .u64 (x.v:Nat))).trans (lgrown_set (w.setCell ⟨g,k * 2,none⟩ (.int .u64 (x.v:Nat))) ⟨g,k * 2 + 1,none⟩ (.bool (x.k == 1)))
 have hkx:x.y.toNat=k:=by rw [hx]; simp
 refine ⟨_,⟨(h1.set_ (k * 2) _).set_ (k * 2 + 1) _,h2,fun j hj => ?_,⟨mw,G,?_,h5.kept ge h1,h6.same fun A l hc => hc.kept ge h1 h2⟩,⟨h7,m2,?_,h9.kept ge h1⟩,h10⟩,(Keep.set _ _ (by omega) _).trans (Keep.set _ _ (by omega) _)⟩
 ·have hv:=h3 j hj
  show _=some (Value.int .u64 ((setV S.V x j).1:Nat))∧_=some (Value.bool (setV S.V x j).2)
  unfold setV
  rw [hkx]
  have h0:=h3 k hk
  have hs1:2 * k < cs.size:=(Array.getElem?_eq_some_iff.1 h0.1).1
  have hs2:2 * k + 1 < cs.size:=(Array.getElem?_eq_some_iff.1 h0.2).1
  by_cases e:j=k
  ·subst e
   rw [if_pos rfl]
   constructor
   ·rw [Array.getElem?_setIfInBounds_ne (by omega),Nat.mul_comm,Array.getElem?_setIfInBounds_self_of_lt (by omega)]
   ·rw [Nat.mul_comm j 2,Array.getElem?_setIfInBounds_self_of_lt (by simp; omega)]
  ·rw [if_neg e]
   constructor
   ·rw [Array.getElem?_setIfInBounds_ne (by omega),Array.getElem?_setIfInBounds_ne (by omega)]; exact hv.1
   ·rw [Array.getElem?_setIfInBounds_ne (by omega),Array.getElem?_setIfInBounds_ne (by omega)]; exact hv.2
 ·rw [Array.getElem?_setIfInBounds_ne (by omega),Array.getElem?_setIfInBounds_ne (by omega)]; exact h4
 ·rw [Array.getElem?_setIfInBounds_ne (by omega),Array.getElem?_setIfInBounds_ne (by omega)]; exact h8
def VCm (g tb k v:Nat) (kd:Int) (th:Bool) (i:Nat) (v_:Value):Prop :=
 match i with
 | 0 => v_=.pointer (some ⟨g,0,none⟩)
 | 1 => v_=.pointer (some ⟨tb,1,none⟩)
 | 2 => v_=.int .i64 (k:Nat)
 | 3 => v_=.pointer (some ⟨tb,2,none⟩)
 | 4 => v_=.int .u64 (v:Nat)
 | 5 => v_=.pointer (some ⟨tb,0,none⟩)
 | 6 => v_=.int .i64 kd
 | 7 => v_=.bool th
 | 8 => v_=.agg #[.int .u64 (v:Nat),.bool th]
 | 9 => v_=.pointer (some ⟨g,0,none⟩)
 | 10 => v_=.pointer (some ⟨g,0,none⟩)
 | 11 => v_=.pointer (some ⟨g,k * 2,none⟩)
 | _ => True
structure CCm (wA:World) (g tb k v:Nat) (kd y:Int) (th:Bool) (ls:Nat→Bool) (x:Nat→Value) (u:World):Prop where
 b:Blk u tb 74 #[.int .i64 kd,.int .i64 y,.int .u64 (v:Nat)]
 n:ls 12=false→u=wA.drew
 s:ls 12=true→u=(wA.drew.setCell ⟨g,k * 2,none⟩ (.int .u64 (v:Nat))).setCell ⟨g,k * 2 + 1,none⟩ (.bool th)
theorem CCm.pure {wA:World} {g tb k v:Nat} {kd y:Int} {th:Bool} {ls:Nat→Bool} {x:Nat→Value} {u:World} {i:Nat} {z:Value} (hi:i≠12) (h:CCm wA g tb k v kd y th ls x u):CCm wA g tb k v kd y th (updB ls i) (upd x i z) u:=by
 obtain ⟨h1,h2,h3⟩:=h
 exact ⟨h1,by rw [updB_other hi.symm]; exact h2,by rw [updB_other hi.symm]; exact h3⟩
def commitM (S:KS) (n:Int):Int × KS:=if n < 1 then (1,S) else (0,dropM { S with V:=(curW S n).1.foldl setV S.V } n)
set_option maxRecDepth 100000 in
set_option maxHeartbeats 4000000 in
theorem commit_any (g:Nat) (tt:TypeId) (cs:Array Value) (S:KS) (N:Nat) (n:Int) (w:World) (h:KvAt w g tt cs S N) (hN:N < 300000) (hn:i64ok n) :
  Calls Tryz.prog 67 #[.pointer (some ⟨g,0,none⟩),.int .i64 n] w fun e w' => e=.returned (.int .i64 (commitM S n).1)∧KvO w g tt cs (commitM S n).2 N w':=by
 have HN:=Lib.hid (names_any g n w)
 by_cases h1:n < 1
 ·have hM:commitM S n=(1,S):=if_pos h1
  rw [hM]
  have HF:=Lib.hid (KvO.same h (Below.refl _ _))
  have hE:namesE n=1:=if_pos h1
  rw [hE] at HN
  clear h hM hE
  go_enter Tryz.func67,Tryz.ntmps67
  go_wp2_with fail
  refine HN.out.mono ?_
  rintro e w1 ⟨rfl,rfl⟩
  go_wp2
  go_ret
  exact ⟨rfl,HF.out⟩
 have hM:commitM S n=(0,dropM { S with V:=(curW S n).1.foldl setV S.V } n):=if_neg h1
 rw [hM]
 have hE:namesE n=0:=if_neg h1
 rw [hE] at HN
 obtain ⟨m,A,q,c,h32,hq,hc,r1,_⟩:=h.look hn
 have hlen:(curW S n).1.length≤N:=by
  unfold curW
  rcases hW:S.W n with _ | ⟨l,p⟩
  ·exact Nat.zero_le _
  ·exact (h.le n l p hW).1
 have hkl:∀ x ∈ (curW S n).1,keyB x.y=true:=by
  unfold curW
  rcases hW:S.W n with _ | ⟨l,p⟩
  ·intro x hx; simp at hx
  ·exact (h.le n l p hW).2
 have c32:=(h.bk.cell 32).trans h32
 obtain ⟨cl,hcl⟩:∃ cl,cl=curW S n:=⟨_,rfl⟩
 rw [← hcl] at hq hc r1 hlen hkl ⊢
 obtain ⟨l,pr⟩:=cl
 dsimp only at hq hc r1 hlen hkl ⊢
 have hf0:=fieldW0 A q c pr
 have hf1:=fieldC0 A q c
 have H:=Lib.hid (And.intro h (And.intro hn (And.intro hq (And.intro hkl hc))))
 have hqm:q≤9223372036854775807:=by omega
 clear h hM hE hn hq hkl hc h32 hlen hcl
 go_enter Tryz.func67,Tryz.ntmps67
 go_wp2_with fail
 refine HN.out.mono ?_
 rintro e w1 ⟨rfl,rfl⟩
 go_wp2_with fail
 clear c32 r1 hf0 hf1
 go_loopw [23] (fun i wr => ∃ (i0:Nat),i0≤q∧i=.int .i64 i0∧Hid (∃ cs',KvAt wr g tt cs' { S with V:=(l.take i0).foldl setV S.V } N∧Keep cs cs'∧w.grownBy wr (some g)∧ChAt wr S.B A l)) (fun i _ => q - (intOf i).toNat)
 case atStart => exact ⟨0,Nat.zero_le _,rfl,Lib.hid ⟨cs,H.out.1,Keep.rfl',⟨rfl,rfl,rfl,Nat.le_refl _,fun _ _ _ => rfl⟩,H.out.2.2.2.2⟩⟩
 case round =>
  obtain ⟨i0,hi,rfl,HR⟩:=hrel
  by_cases hiq:i0 < q
  ·have hiI:(i0:Int) < (q:Int):=by omega
   obtain ⟨cs',hk,hkp,hg,hc⟩:=HR.out
   have hil:i0 < l.length:=by rw [← H.out.2.2.1]; exact hiq
   obtain ⟨b,o,rfl,hbk,hcs⟩:=hc (by omega)
   obtain ⟨q0,q1,q2⟩:=hcs i0 hil
   obtain ⟨x,hx⟩:∃ x,x=l[i0]'hil:=⟨_,rfl⟩
   rw [← hx] at q0 q1 q2
   obtain ⟨k,hk16,hxy⟩:=keyB_nat (H.out.2.2.2.1 x (by rw [hx]; exact List.getElem_mem hil))
   have HX:Hid ((l.take (i0 + 1)).foldl setV S.V=setV ((l.take i0).foldl setV S.V) x):=Lib.hid (by
    rw [List.take_add_one,List.getElem?_eq_getElem hil,List.foldl_append,hx]; rfl)
   obtain ⟨kd,y,v⟩:=x
   dsimp only at q0 q1 q2 hxy
   subst hxy
   have hkI:(k:Int) < 16:=by omega
   obtain ⟨wA,hwA⟩:∃ wA,wA=wr.alloc (.cells #[.int .i64 kd,.int .i64 (k:Nat),.int .u64 (v:Nat)] 74):=⟨_,rfl⟩
   have bA:Below wr.heap.size wr wA:=by rw [hwA]; exact ba _ _
   have kA:Blk wA wr.heap.size 74 #[.int .i64 kd,.int .i64 (k:Nat),.int .u64 (v:Nat)]:=by rw [hwA]; exact Blk.new _ _ _
   obtain ⟨th,hth⟩:∃ th,(kd == 1)=th:=⟨_,rfl⟩
   have HA:=Lib.hid (And.intro (hk.below bA) (And.intro hkp (And.intro (hg.trans (lbelow_grown bA (some g))) (And.intro (hc.below bA) (And.intro kA (And.intro hk16 (show g≠wr.heap.size by have:=hk.lt; omega)))))))
   have HWA:=Lib.hid hwA
   clear hk hkp hg hc hbk hcs hx hil HR hwA bA kA
   go_wp2_with fail
   rw [← HWA.out]
   clear q0 q1 q2
   obtain ⟨tb,htb⟩:∃ tb,tb=wr.heap.size:=⟨_,rfl⟩
   rw [← htb] at HA ⊢
   have Hth:=Lib.hid hth
   clear htb HWA
   refine wp_region_invJ (F:=?FM) (V:=(VCm g tb k v kd th)) (C:=(CCm wA g tb k v kd (k:Nat) th)) (by kernel_rfl) (by kernel_rfl) (by kernel_rfl) (fun x => ?hFM) ?hCM ?stepM ?finM
   case hFM => simp only [mkA,Act.put,List.setIfInBounds_toArray,List.set_cons_succ,List.set_cons_zero,Nat.reduceAdd,Nat.zero_add]; first | with_reducible rfl | rfl
   case hCM => exact fun x => ⟨HA.out.2.2.2.2.1,fun _ => rfl,fun e => by simp at e⟩
   case stepM =>
    refine AllOps.cons (fun ls x u hC hl hp K hK => ?_) ?_
    ·clear hp
     go_simp
     refine hK _ _ _ (CCm.pure (by decide) hC) (by exact rfl) ?_
     first | (simp only [Act.put,List.setIfInBounds_toArray,List.set_cons_succ,List.set_cons_zero]; done) | simp [Act.put]
    refine AllOps.cons (fun ls x u hC hl hp K hK => ?_) ?_
    ·clear hp
     go_simp
     refine hK _ _ _ (CCm.pure (by decide) hC) (by exact rfl) ?_
     first | (simp only [Act.put,List.setIfInBounds_toArray,List.set_cons_succ,List.set_cons_zero]; done) | simp [Act.put]
    refine AllOps.cons (fun ls x u hC hl hp K hK => ?_) ?_
    ·simp [KnownTill,Region.binds,VCm] at hp
     have cc:=hC.b.cell 1
     simp only [List.getElem?_toArray,List.getElem?_cons_zero,List.getElem?_cons_succ] at cc
     go_simp
     refine hK _ _ _ (CCm.pure (by decide) hC) (by exact rfl) ?_
     first | (simp only [Act.put,List.setIfInBounds_toArray,List.set_cons_succ,List.set_cons_zero,hp]; done) | simp [Act.put,hp]
    refine AllOps.cons (fun ls x u hC hl hp K hK => ?_) ?_
    ·clear hp
     go_simp
     refine hK _ _ _ (CCm.pure (by decide) hC) (by exact rfl) ?_
     first | (simp only [Act.put,List.setIfInBounds_toArray,List.set_cons_succ,List.set_cons_zero]; done) | simp [Act.put]
    refine AllOps.cons (fun ls x u hC hl hp K hK => ?_) ?_
    ·simp [KnownTill,Region.binds,VCm] at hp
     have cc:=hC.b.cell 2
     simp only [List.getElem?_toArray,List.getElem?_cons_zero,List.getElem?_cons_succ] at cc
     go_simp
     refine hK _ _ _ (CCm.pure (by decide) hC) (by exact rfl) ?_
     first | (simp only [Act.put,List.setIfInBounds_toArray,List.set_cons_succ,List.set_cons_zero,hp]; done) | simp [Act.put,hp]
    refine AllOps.cons (fun ls x u hC hl hp K hK => ?_) ?_
    ·clear hp
     go_simp
     refine hK _ _ _ (CCm.pure (by decide) hC) (by exact rfl) ?_
     first | (simp only [Act.put,List.setIfInBounds_toArray,List.set_cons_succ,List.set_cons_zero]; done) | simp [Act.put]
    refine AllOps.cons (fun ls x u hC hl hp K hK => ?_) ?_
    ·simp [KnownTill,Region.binds,VCm] at hp
     have cc:=hC.b.cell 0
     simp only [List.getElem?_toArray,List.getElem?_cons_zero,List.getElem?_cons_succ] at cc
     go_simp
     refine hK _ _ _ (CCm.pure (by decide) hC) (by exact rfl) ?_
     first | (simp only [Act.put,List.setIfInBounds_toArray,List.set_cons_succ,List.set_cons_zero,hp]; done) | simp [Act.put,hp]
    refine AllOps.cons (fun ls x u hC hl hp K hK => ?_) ?_
    ·simp [KnownTill,Region.binds,VCm] at hp
     go_simp
     refine hK _ _ _ (CCm.pure (by decide) hC) (by exact rfl) ?_
     first | (simp only [Act.put,List.setIfInBounds_toArray,List.set_cons_succ,List.set_cons_zero,hp]; done) | simp [Act.put,hp]
    refine AllOps.cons (fun ls x u hC hl hp K hK => ?_) ?_
    ·simp [KnownTill,Region.binds,VCm] at hp
     go_simp
     refine hK _ _ _ (CCm.pure (by decide) hC) (by exact rfl) ?_
     first | (simp only [Act.put,List.setIfInBounds_toArray,List.set_cons_succ,List.set_cons_zero,hp]; done) | simp [Act.put,hp]
    refine AllOps.cons (fun ls x u hC hl hp K hK => ?_) ?_
    ·simp [KnownTill,Region.binds,VCm] at hp
     go_simp
     refine hK _ _ _ (CCm.pure (by decide) hC) (by exact rfl) ?_
     first | (simp only [Act.put,List.setIfInBounds_toArray,List.set_cons_succ,List.set_cons_zero,hp]; done) | simp [Act.put,hp]
    refine AllOps.cons (fun ls x u hC hl hp K hK => ?_) ?_
    ·simp [KnownTill,Region.binds,VCm] at hp
     go_simp
     refine hK _ _ _ (CCm.pure (by decide) hC) (by exact rfl) ?_
     first | (simp only [Act.put,List.setIfInBounds_toArray,List.set_cons_succ,List.set_cons_zero,hp]; done) | simp [Act.put,hp]
    refine AllOps.cons (fun ls x u hC hl hp K hK => ?_) ?_
    ·simp [KnownTill,Region.binds,VCm] at hp
     go_simp
     refine hK _ _ _ (CCm.pure (by decide) hC) (by exact rfl) ?_
     first | (simp only [Act.put,List.setIfInBounds_toArray,List.set_cons_succ,List.set_cons_zero,hp]; done) | simp [Act.put,hp]
    refine AllOps.cons (fun ls x u hC hl hp K hK => ?_) ?_
    ·simp [KnownTill,Region.binds,VCm] at hp
     have hu:=hC.n hl
     have hkd:KvAt u g tt cs' { S with V:=(l.take i0).foldl setV S.V } N:=by rw [hu]; exact HA.out.1.below ⟨rfl,rfl,rfl,Nat.le_refl _,fun _ _ => rfl⟩
     obtain ⟨e0,e1⟩:=hkd.vs k HA.out.2.2.2.2.2.1
     rw [Nat.mul_comm 2 k] at e0 e1
     have s0:=(hkd.bk.cell (k * 2)).trans e0
     have g0:=hkd.bk.frozen (k * 2)
     have hb1:=hkd.bk.set_ (k * 2) (.int .u64 (v:Nat))
     have s1:=(hb1.cell (k * 2 + 1)).trans ((Array.getElem?_setIfInBounds_ne (by omega)).trans e1)
     have g1:=hb1.frozen (k * 2 + 1)
     have nC:CCm wA g tb k v kd (k:Nat) th (updB ls 12) (upd x 12 undef) ((u.setCell ⟨g,k * 2,none⟩ (.int .u64 (v:Nat))).setCell ⟨g,k * 2 + 1,none⟩ (.bool th)):=⟨(hC.b.far (by have:=HA.out.2.2.2.2.2.2; dsimp only; omega) _).far (by have:=HA.out.2.2.2.2.2.2; dsimp only; omega) _,(fun e => by rw [updB_same] at e; cases e),(fun _ => by rw [hu])⟩
     clear hb1 e0 e1 hkd hC hu
     go_simp
     refine hK undef _ _ nC trivial ?_
     first | (simp only [Act.put,List.setIfInBounds_toArray,List.set_cons_succ,List.set_cons_zero,hp]; done) | simp [Act.put,hp]
    exact AllOps.nil
   case finM =>
    intro ls x u hC hV
    have hu:=hC.s (hV 12 (by decide)).1
    have hkd:KvAt wA.drew g tt cs' { S with V:=(l.take i0).foldl setV S.V } N:=HA.out.1.below ⟨rfl,rfl,rfl,Nat.le_refl _,fun _ _ => rfl⟩
    obtain ⟨cs2,hk2,hkp2⟩:=hkd.valued k HA.out.2.2.2.2.2.1 ⟨kd,(k:Int),v⟩ rfl
    have hk2':KvAt u g tt cs2 { S with V:=setV ((l.take i0).foldl setV S.V) ⟨kd,(k:Int),v⟩ } N:=by rw [hu,← Hth.out]; exact hk2
    have gu:wA.grownBy u (some g):=by rw [hu]; exact ((show wA.grownBy wA.drew (some g) from ⟨rfl,rfl,rfl,Nat.le_refl _,fun _ _ _ => rfl⟩).trans (lgrown_set _ ⟨g,k * 2,none⟩ _)).trans (lgrown_set _ ⟨g,k * 2 + 1,none⟩ _)
    have HF:Hid (∃ cs',KvAt u g tt cs' { S with V:=(l.take (i0 + 1)).foldl setV S.V } N∧Keep cs cs'∧w.grownBy u (some g)∧ChAt u S.B (some ⟨b,o,none⟩) l):=Lib.hid ⟨cs2,by rw [HX.out]; exact hk2',HA.out.2.1.trans hkp2,HA.out.2.2.1.trans gu,HA.out.2.2.2.1.kept gu HA.out.1.bk HA.out.1.ty⟩
    clear hC hV hu hkd hk2 hkp2 hk2' gu
    go_wp2
    go_roundw
    case rel => exact ⟨i0 + 1,by omega,by go_num,HF⟩
    case measure => simp [intOf]; omega
  ·obtain rfl:i0=q:=by omega
   have hiI:¬ (i0:Int) < (i0:Int):=by omega
   obtain ⟨cs',hk,hkp,hg,_⟩:=HR.out
   have ht:l.take i0=l:=List.take_of_length_le (by rw [H.out.2.2.1]; exact Nat.le_refl _)
   rw [ht] at hk
   have HD:=Lib.hid (kdrop_any g tt cs' _ N n wr hk H.out.2.1)
   have HK:=Lib.hid (And.intro hkp hg)
   clear hk hkp hg HR ht
   go_wp2_with fail
   refine HD.out.mono ?_
   rintro e w2 ⟨rfl,hd⟩
   have HF:=Lib.hid (KvO.from HK.out.1 HK.out.2 hd)
   clear hd
   go_wp2
   go_ret
   exact ⟨rfl,HF.out⟩
end Go.Proofs.YtlliaihmfimdoaaGreat


namespace Go.Proofs.YtlliaihmfimdoaaGreat
open Go.RowKit Go.Maps
def hasL (L:List LRow) (o:Int):Bool:=L.any fun x => decide (x.2.1=o)
theorem HeldKs.pos {L:List LRow} {o:Int} {ys:List Int} (h:HeldKs L o ys):(0 < ys.length) ↔ hasL L o=true:=by
 unfold hasL
 rw [List.any_eq_true]
 constructor
 ·intro hp
  obtain ⟨y,hy⟩:=List.exists_mem_of_length_pos hp
  obtain ⟨x,hx,_,h2⟩:=held_iff.1 ((h.mem y).1 hy)
  exact ⟨x,hx,by simpa using h2⟩
 ·rintro ⟨x,hx,h2⟩
  exact List.length_pos_of_mem ((h.mem x.1).2 (held_iff.2 ⟨x,hx,rfl,by simpa using h2⟩))
def busyB (S:KS) (n:Int):Bool:=(S.W n).isSome || hasL S.L n
set_option maxRecDepth 100000 in
set_option maxHeartbeats 2000000 in
theorem busy_any (g:Nat) (tt:TypeId) (cs:Array Value) (S:KS) (N:Nat) (n:Int) (w:World) (h:KvAt w g tt cs S N) (hn:i64ok n) :
  Calls Tryz.prog 43 #[.pointer (some ⟨g,0,none⟩),.int .i64 n] w fun e w' => e=.returned (.bool (busyB S n))∧Below w.heap.size w w':=by
 obtain ⟨m,A,q,c,h32,hq,hc,_,r2⟩:=h.look hn
 have c32:=(h.bk.cell 32).trans h32
 generalize (curW S n).2=pr at r2
 obtain ⟨w3,hw3⟩:∃ w3,w3=w.alloc (.cells #[.slice A q c,.bool pr] 138):=⟨_,rfl⟩
 have b3:Below w.heap.size w w3:=by rw [hw3]; exact ba _ _
 have HH:=Lib.hid (held_any g 33 tt cs S.L n w3 (h.below b3).tab)
 have HB:=Lib.hid b3
 have HW3:=Lib.hid hw3
 rcases hs:(S.W n).isSome with _ | _
 ·have hM:busyB S n=hasL S.L n:=by unfold busyB; rw [hs]; rfl
  rw [hM]
  rw [hs] at r2
  clear h hq hc h32 hs hM hw3 b3
  go_enter Tryz.func43,Tryz.ntmps43
  go_wp2_with fail
  rw [← HW3.out]
  refine HH.out.mono ?_
  rintro e w4 ⟨A4,c4,ys,rfl,_,hks,b4⟩
  have hp:=hks.pos
  have HF:=Lib.hid (bt HB.out b4)
  obtain ⟨yl,hyl⟩:∃ yl,yl=ys.length:=⟨_,rfl⟩
  rw [← hyl] at hp ⊢
  rcases hb:hasL S.L n with _ | _
  ·rw [hb] at hp
   have hI:¬ (0:Int) < (yl:Int):=by
    intro h; have:=hp.1 (by omega); cases this
   have hD:=Lib.hid (show decide (0 < yl)=false by simp; omega)
   have HBB:=Lib.hid hb
   clear hp hks b4 c32 r2 hb hyl
   go_wp2
   go_ret
   exact ⟨by rw [HBB.out]; show Ending.returned (.bool (decide (0 < yl)))=_; rw [hD.out],HF.out⟩
  ·have hI:(0:Int) < (yl:Int):=by have:=hp.2 hb; omega
   have hD:=Lib.hid (show decide (0 < yl)=true by simp; omega)
   have HBB:=Lib.hid hb
   clear hp hks b4 c32 r2 hb hyl
   go_wp2
   go_ret
   exact ⟨by rw [HBB.out]; show Ending.returned (.bool (decide (0 < yl)))=_; rw [hD.out],HF.out⟩
 ·have hM:busyB S n=true:=by unfold busyB; rw [hs]; rfl
  rw [hM]
  rw [hs] at r2
  clear h hq hc h32 hs hM hw3 b3
  go_enter Tryz.func43,Tryz.ntmps43
  go_wp2
  rw [← HW3.out]
  go_ret
  exact ⟨rfl,HB.out⟩
/-! ### may changes be a work's? -/
def ArrB (w:World) (g:Nat) (M:Nat→Bool):Prop:=∃ cs:Array Value,Blk w g 191 cs∧cs.size=16∧∀ i,i < 16→cs[i]?=some (.bool (M i))
theorem ArrB.cell {w:World} {g:Nat} {M:Nat→Bool} (h:ArrB w g M) (i:Nat) (hi:i < 16):w.cell? ⟨g,i,none⟩=some (.bool (M i)):=by
 obtain ⟨cs,h1,h2,h3⟩:=h
 rw [h1.cell,h3 i hi]
theorem ArrB.frozen {w:World} {g:Nat} {M:Nat→Bool} (h:ArrB w g M) (i:Nat):w.frozen? ⟨g,i,none⟩=false:=by
 obtain ⟨cs,h1,h2,h3⟩:=h; exact h1.frozen i
theorem ArrB.below {w w':World} {g:Nat} {M:Nat→Bool} (h:ArrB w g M) (hb:Below w.heap.size w w'):ArrB w' g M:=by
 obtain ⟨cs,h1,h2,h3⟩:=h; exact ⟨cs,h1.below hb h1.lt,h2,h3⟩
def updS (M:Nat→Bool) (k:Nat):Nat→Bool:=fun j => if j=k then true else M j
theorem ArrB.set_ {w:World} {g:Nat} {M:Nat→Bool} (h:ArrB w g M) (i:Nat) (hi:i < 16):ArrB (w.setCell ⟨g,i,none⟩ (.bool true)) g (updS M i):=by
 obtain ⟨cs,h1,h2,h3⟩:=h
 refine ⟨_,h1.set_ i _,by simp [h2],fun j hj => ?_⟩
 unfold updS
 by_cases hji:j=i
 ·subst hji; rw [if_pos rfl,Array.getElem?_setIfInBounds_self_of_lt (by omega)]
 ·rw [if_neg hji,Array.getElem?_setIfInBounds_ne (fun e => hji e.symm),h3 j hj]
theorem ArrB.lt {w:World} {g:Nat} {M:Nat→Bool} (h:ArrB w g M):g < w.heap.size:=h.choose_spec.1.lt
def kindB (x:Ch):Bool:=(x.k == 1) || (x.k == 2 && x.v == 0)
def areB:(Nat→Bool)→List Ch→Bool
 | _,[] => true
 | s,x :: l => kindB x && (keyB x.y && (!s x.y.toNat && areB (updS s x.y.toNat) l))
end Go.Proofs.YtlliaihmfimdoaaGreat


namespace Go.Proofs.YtlliaihmfimdoaaGreat
open Go.RowKit Go.Maps
def takeAll (L:List LRow) (n:Int):List Ch→Int × List LRow
 | [] => (0,L)
 | x :: r => if (takeL L n x.y true).1=0 then takeAll (takeL L n x.y true).2 n r else ((takeL L n x.y true).1,dropL (takeL L n x.y true).2 n)
theorem areB_keys:∀ (l:List Ch) (s:Nat→Bool),areB s l=true→∀ x ∈ l,keyB x.y=true
 | [],_,_,x,hx => by cases hx
 | y :: l,s,h,x,hx => by
  simp only [areB,Bool.and_eq_true] at h
  rcases List.mem_cons.1 hx with rfl | hx
  ·exact h.2.1
  ·exact areB_keys l _ h.2.2.2 x hx
theorem keyB_ok {y:Int} (h:keyB y=true):i64ok y:=by
 obtain ⟨k,hk,rfl⟩:=keyB_nat h; unfold i64ok; omega
def restW (S:KS) (n:Int) (l:List Ch):Int→Option (List Ch × Bool):=if l=[] then S.W else updW S.W n (some (l,true))
def restoreM (S:KS) (n:Int) (l:List Ch):Int × KS :=
 if n < 1 then (1,S) else if areB (fun _ => false) l=false then (1,S) else if busyB S n=true then (7,S)
 else if (takeAll S.L n l).1=0 then (0,{ S with L:=(takeAll S.L n l).2,W:=restW S n l })
 else ((takeAll S.L n l).1,{ S with L:=(takeAll S.L n l).2 })
def VRs (g tb:Nat) (n y er:Int) (i:Nat) (v_:Value):Prop :=
 match i with
 | 0 => v_=.pointer (some ⟨g,0,none⟩)
 | 1 => v_=.pointer (some ⟨g,0,none⟩)
 | 2 => v_=.pointer (some ⟨g,33,none⟩)
 | 3 => v_=.int .i64 n
 | 4 => v_=.pointer (some ⟨tb,1,none⟩)
 | 5 => v_=.int .i64 y
 | 6 => v_=.int .i64 er
 | 7 => v_=.int .i64 er
 | _ => True
structure CRs (wA:World) (g tb:Nat) (kd y:Int) (v:Nat) (P:World→Prop) (ls:Nat→Bool) (x:Nat→Value) (u:World):Prop where
 b:Blk u tb 74 #[.int .i64 kd,.int .i64 y,.int .u64 (v:Nat)]
 n:ls 6=false→u=wA.drew
 s:ls 6=true→P u
theorem CRs.pure {wA:World} {g tb:Nat} {kd y:Int} {v:Nat} {P:World→Prop} {ls:Nat→Bool} {x:Nat→Value} {u:World} {i:Nat} {z:Value} (hi:i≠6) (h:CRs wA g tb kd y v P ls x u):CRs wA g tb kd y v P (updB ls i) (upd x i z) u:=by
 obtain ⟨h1,h2,h3⟩:=h
 exact ⟨h1,by rw [updB_other hi.symm]; exact h2,by rw [updB_other hi.symm]; exact h3⟩
end Go.Proofs.YtlliaihmfimdoaaGreat


namespace Go.Proofs.YtlliaihmfimdoaaGreat
open Go.RowKit Go.Maps
theorem KvAt.rebase {w:World} {g N:Nat} {tt:TypeId} {cs:Array Value} {S:KS} {B':Nat→Prop} (h:KvAt w g tt cs S N) (hB:∀ b,S.B b→b < w.heap.size→B' b):KvAt w g tt cs { S with B:=B' } N:=by
 obtain ⟨h1,h2,h3,⟨m,G,h4,h5,h6⟩,h7,h10⟩:=h
 exact ⟨h1,h2,h3,⟨m,G,h4,h5,h6.same fun A l hc => hc.mono hB⟩,h7,h10⟩
structure OpV where
 k:Int
 n:Int
 y:Int
 v:Nat
 A:Option Addr
 l:List Ch
 c:Nat
def OpV.val (o:OpV):Value:=.agg #[.int .i64 o.k,.int .i64 o.n,.int .i64 o.y,.int .u64 (o.v:Nat),.slice o.A o.l.length o.c]
structure OpOk (o:OpV):Prop where
 n:i64ok o.n
 y:i64ok o.y
 v:o.v < 18446744073709551616
def callM (S:KS) (o:OpV):(Nat × Bool × List Ch × Int) × KS :=
 if o.k=0 then (((getM S o.n o.y).1.1,(getM S o.n o.y).1.2.1,[],(getM S o.n o.y).1.2.2),(getM S o.n o.y).2)
 else if o.k=1 then ((0,false,[],(changeM S o.n ⟨1,o.y,o.v⟩).1),(changeM S o.n ⟨1,o.y,o.v⟩).2)
 else if o.k=2 then ((0,false,[],(changeM S o.n ⟨2,o.y,0⟩).1),(changeM S o.n ⟨2,o.y,0⟩).2)
 else if o.k=3 then ((0,false,(prepM S o.n).1.1,(prepM S o.n).1.2),(prepM S o.n).2)
 else if o.k=4 then ((0,false,[],(commitM S o.n).1),(commitM S o.n).2)
 else if o.k=5 then ((0,false,[],(backoutM S o.n).1),(backoutM S o.n).2)
 else if o.k=6 then ((0,false,[],(restoreM S o.n o.l).1),(restoreM S o.n o.l).2)
 else ((0,false,[],0),S)
theorem getM_B (S:KS) (n y:Int):(getM S n y).2.B=S.B:=by
 unfold getM; split
 ·split <;> exact openM_B S n y false
 ·exact openM_B S n y false
theorem changeM_B (S:KS) (n:Int) (x:Ch):(changeM S n x).2.B=S.B:=by
 unfold changeM; split <;> exact openM_B S n x.y true
theorem commitM_B (S:KS) (n:Int):(commitM S n).2.B=S.B:=by unfold commitM; split <;> rfl
theorem backoutM_B (S:KS) (n:Int):(backoutM S n).2.B=S.B:=by unfold backoutM; split <;> rfl
end Go.Proofs.YtlliaihmfimdoaaGreat


namespace Go.Proofs.YtlliaihmfimdoaaGreat
open Go.RowKit Go.Maps
def anyB:Nat→Prop:=fun _ => True
theorem small_ok (x:Int) (h1:-1000≤x) (h2:x≤1000):i64ok x:=by unfold i64ok; omega
def OpsAt (w:World) (A:Option Addr) (ops:List OpV):Prop :=
 ops.length≤maxLen∧(∀ o ∈ ops,OpOk o∧o.l.length≤maxLen∧InL w o.A o.l)∧(0 < ops.length→∃ b o,A=some ⟨b,o,none⟩∧b < w.heap.size∧∀ i,(h:i < ops.length) →
  w.cell? ⟨b,o + i * 5,none⟩=some (.int .i64 (ops[i]'h).k)∧w.cell? ⟨b,o + i * 5 + 1,none⟩=some (.int .i64 (ops[i]'h).n) ∧
  w.cell? ⟨b,o + i * 5 + 2,none⟩=some (.int .i64 (ops[i]'h).y)∧w.cell? ⟨b,o + i * 5 + 3,none⟩=some (.int .u64 ((ops[i]'h).v:Nat))∧w.cell? ⟨b,o + i * 5 + 4,none⟩=some (.slice (ops[i]'h).A (ops[i]'h).l.length (ops[i]'h).c))
def stepK (S:KS) (o:OpV):KS:=if o.l.length≤30 then { (callM S o).2 with B:=anyB } else S
end Go.Proofs.YtlliaihmfimdoaaGreat


namespace Go.Proofs.YtlliaihmfimdoaaGreat
open Go.RowKit Go.ChangeShapes Go.WideShapes Go.Joins Go.Deep
theorem add_spotB {w:World} {a:Addr} {v:Value} (h:w.cell? a=some v):∃ b o,a=⟨b,o,none⟩∧b < w.heap.size:=by
 have hs:=World.cell?_spot h
 have hl:=World.block_lt_of_cell? _ _ h
 obtain ⟨b,o,s⟩:=a
 simp only at hs hl
 subst hs
 exact ⟨b,o,rfl,hl⟩
section
variable {H:Type} {enc:TypeId × Value→H} {P:Program} {W:World} {base:Nat} {spare:Nat→Bool} {held:Bool}
theorem i64_trodB {t:TypeId} {n:Nat} {v:Value} {y:DataW H × List MemPlace} (ht:P.underlying t=some (.int .i64)) (h:DataW.trod enc P W base spare held n t [v]=some y) :
  ∃ a:Int,v=.int .i64 a∧-9223372036854775808≤a∧a≤9223372036854775807:=by
 obtain ⟨a,e,_,hw⟩:=DataW.trod_int ht h
 simp at e
 exact ⟨a,e,i64_bd hw⟩
theorem u64_trodB {t:TypeId} {n:Nat} {v:Value} {y:DataW H × List MemPlace} (ht:P.underlying t=some (.int .u64)) (h:DataW.trod enc P W base spare held n t [v]=some y) :
  ∃ a:Nat,v=.int .u64 (a:Nat)∧a < 18446744073709551616:=by
 obtain ⟨a,e,_,hw⟩:=DataW.trod_int ht h
 simp at e
 obtain ⟨n,rfl,hn⟩:=u64_nat hw
 exact ⟨n,e,hn⟩
end
def InLs (w:World) (A:Option Addr) (l:List Ch):Prop:=l.length≤maxLen∧InL w A l
section
variable {H:Type} {enc:TypeId × Value→H} {W:World}
set_option maxRecDepth 1000000 in
theorem ch_trod {fuel:Nat} {v:Value} {y:DataW H × List MemPlace} (hf:DataW.trod enc Tryz.prog W 0 (fun _ => true) true fuel 40 [v]=some y) :
  ∃ A ops c,v=.slice A (List.length ops) c∧InLs W A ops:=by
 have hC:Tryz.prog.cellsOf 74=3:=by kernel_rfl
 rcases open_slice Tryz.underlying40 hf with ⟨hcs,_⟩ | ⟨x,len,cap,m,n,D,Pl,hcs,_,hl,hm,hmm,_,hi⟩
 ·simp at hcs
  subst hcs
  exact ⟨none,[],0,rfl,by simp [maxLen],fun h => absurd h (by simp)⟩
 ·simp at hcs
  subst hcs
  simp only [if_true] at hmm
  subst hmm
  have each:∀ i,i < m→∃ o:Ch,W.cell? (x.add (i * 3))=some (.int .i64 o.k)∧W.cell? ((x.add (i * 3)).add 1)=some (.int .i64 o.y)∧W.cell? ((x.add (i * 3)).add 2)=some (.int .u64 (o.v:Nat)):=by
   intro i him
   obtain ⟨cs',hc,ht⟩:=hi i him
   rw [hC] at hc
   obtain ⟨_,hcl,hat⟩:=World.cells?_some hc
   obtain ⟨xs,n',_,_,_,hxl,hf'⟩:=DataW.trod_struct Tryz.underlying74 ht
   match cs',hcl with
   | [c0,c1,c2],_ =>
    match xs,hxl with
    | [y0,y1,y2],_ =>
     have g0:=hf' 0 _ rfl
     have g1:=hf' 1 _ rfl
     have g2:=hf' 2 _ rfl
     have e_0:Tryz.prog.cellsOf 3=1:=by kernel_rfl
     have e_1:Tryz.prog.cellsOf 39=1:=by kernel_rfl
     simp [e_0,e_1] at g0 g1 g2
     obtain ⟨z0,rfl,b0,d0⟩:=i64_trodB Tryz.underlying3 g0
     obtain ⟨z1,rfl,b1,d1⟩:=i64_trodB Tryz.underlying3 g1
     obtain ⟨z2,rfl,b2⟩:=u64_trodB Tryz.underlying39 g2
     have a0:=hat 0 (by omega)
     have a1:=hat 1 (by omega)
     have a2:=hat 2 (by omega)
     have ez:(x.add (i * 3)).add 0=x.add (i * 3):=by simp [Addr.add]
     rw [ez] at a0
     exact ⟨⟨z0,z1,z2⟩,a0,a1,a2⟩
  let f:Nat→Ch:=fun i => if h:i < m then (each i h).choose else ⟨0,0,0⟩
  have hf1:∀ i,(h:i < m)→W.cell? (x.add (i * 3))=some (.int .i64 (f i).k)∧W.cell? ((x.add (i * 3)).add 1)=some (.int .i64 (f i).y)∧W.cell? ((x.add (i * 3)).add 2)=some (.int .u64 ((f i).v:Nat)):=by
   intro i h
   have:=(each i h).choose_spec
   simp only [f,dif_pos h]
   exact this
  refine ⟨some x,(List.range len).map f,_,by simp; rfl,by simp; omega,fun hpos => ?_⟩
  ·have hpos':0 < len:=by simpa using hpos
   have h00:=(hf1 0 (by omega)).1
   have ez:x.add (0 * 3)=x:=by simp [Addr.add]
   rw [ez] at h00
   obtain ⟨b,o,rfl,hlt⟩:=add_spotB h00
   refine ⟨b,o,rfl,hlt,fun i hi' => ?_⟩
   have hi2:i < len:=by simpa using hi'
   have:=(hf1 i (by omega))
   simp only [Addr.add_lit] at this
   simpa using this
end
def OpIn (w:World) (o:OpV):Prop:=OpOk o∧o.l.length≤maxLen∧InL w o.A o.l
section
variable {H:Type} {enc:TypeId × Value→H} {W:World}
end
section
variable {H:Type} {enc:TypeId × Value→H} {W:World}
end
section
variable {H:Type} {enc:TypeId × Value→H} {W:World}
end
end Go.Proofs.YtlliaihmfimdoaaGreat


namespace Go.Proofs.YtlliaihmfimdoaaGreat
open Go.RowKit Go.Maps
def RightL (l:List Ch):Prop:=(∀ x ∈ l,kindB x=true∧keyB x.y=true)∧l.Pairwise (fun a b => a.y≠b.y)
theorem RightL.nil:RightL []:=⟨(fun x hx => by cases hx),List.Pairwise.nil⟩
theorem RightL.with_ {l:List Ch} (h:RightL l) {x:Ch} (h1:kindB x=true) (h2:keyB x.y=true):RightL (withL l x):=by
 unfold withL
 split
 ·rename_i hlt
  refine ⟨fun z hz => ?_,?_⟩
  ·rcases List.mem_or_eq_of_mem_set hz with hz | rfl
   ·exact h.1 z hz
   ·exact ⟨h1,h2⟩
  ·have hp:(l[posN l x.y]'hlt).y=x.y:=by
    have:=List.findIdx_getElem (p:=fun z:Ch => decide (z.y=x.y)) (xs:=l) (w:=hlt)
    unfold posN
    simpa using this
   have hw:=List.pairwise_iff_getElem.1 h.2
   rw [List.pairwise_iff_getElem]
   intro i j hi hj hij
   rw [List.length_set] at hi hj
   rw [List.getElem_set,List.getElem_set]
   split
   ·rename_i e
    subst e
    rw [if_neg (by omega)]
    have:=hw _ j hi hj hij
    rw [hp] at this
    exact this
   ·split
    ·rename_i e
     subst e
     have:=hw i _ hi hj hij
     rw [hp] at this
     exact this
    ·exact hw i j hi hj hij
 ·rename_i hge
  refine ⟨fun z hz => ?_,?_⟩
  ·rcases List.mem_append.1 hz with hz | hz
   ·exact h.1 z hz
   ·obtain rfl:=List.mem_singleton.1 hz
    exact ⟨h1,h2⟩
  ·rw [List.pairwise_append]
   refine ⟨h.2,List.pairwise_singleton _ _,fun a ha b hb => ?_⟩
   obtain rfl:=List.mem_singleton.1 hb
   intro e
   exact hge (List.findIdx_lt_length_of_exists ⟨a,ha,by simpa using e⟩)
theorem are_right:∀ (l:List Ch) (s:Nat→Bool),areB s l=true→(∀ x ∈ l,s x.y.toNat=false)∧RightL l
 | [],s,_ => ⟨(fun x hx => by cases hx),RightL.nil⟩
 | x :: l,s,h => by
  unfold areB at h
  simp only [Bool.and_eq_true,Bool.not_eq_true'] at h
  obtain ⟨h1,h2,h3,h4⟩:=h
  obtain ⟨i1,i2⟩:=are_right l _ h4
  have hn:∀ z ∈ l,z.y.toNat≠x.y.toNat:=fun z hz e => by
   have:=i1 z hz
   unfold updS at this
   rw [if_pos e] at this
   cases this
  refine ⟨fun z hz => ?_,fun z hz => ?_,?_⟩
  ·rcases List.mem_cons.1 hz with rfl | hz
   ·exact h3
   ·have:=i1 z hz
    unfold updS at this
    rw [if_neg (hn z hz)] at this
    exact this
  ·rcases List.mem_cons.1 hz with rfl | hz
   ·exact ⟨h1,h2⟩
   ·exact i2.1 z hz
  ·exact List.pairwise_cons.2 ⟨fun z hz e => hn z hz (by rw [e]),i2.2⟩
theorem key_bd {y:Int} (h:keyB y=true):0≤y∧y < 16:=by
 unfold keyB at h
 simpa using h
end Go.Proofs.YtlliaihmfimdoaaGreat


namespace Go.Proofs.YtlliaihmfimdoaaGreat
open Go.RowKit Go.Maps
theorem cell_drew {w:World} {a:Addr} {v:Value} (h:w.cell? a=some v) (m:Nat):(w.drewN m).cell? a=some v:=h
def KK (a:World) (g base:Nat) (A:Option Addr) (c:Nat) (l:List Ch) (S:KS) (N:Nat) (w:World):Prop :=
 ∃ cs,KvAt w g 95 cs S N∧OwnC w base A c l∧Below a.heap.size a w∧a.heap.size≤g∧g < base
end Go.Proofs.YtlliaihmfimdoaaGreat


namespace Go.Proofs.YtlliaihmfimdoaaGreat
open Go.RowKit Go.Maps Go.Joins Go.Deep
structure WI where
 q:Nat
 n:Int
 A:Option Addr
 c:Nat
 l:List Ch
 p:Bool
def ptV (qs:List Nat):List Value:=qs.map fun q => .pointer (some ⟨q,0,none⟩)
def OwnPt (u:World) (B:Nat) (A:Option Addr) (c:Nat) (qs:List Nat):Prop:=u.ownsRow B 109 1 (.slice A qs.length c) qs.length (ptV qs)
def prV (P:List (Int × Nat)):List Value:=P.flatMap fun x => [.int .i64 x.1,.int .u64 (x.2:Nat)]
def OwnPr (u:World) (B:Nat) (A:Option Addr) (c:Nat) (P:List (Int × Nat)):Prop:=u.ownsRow B 114 2 (.slice A P.length c) P.length (prV P)
theorem prV_at:∀ (P:List (Int × Nat)) (i:Nat) (h:i < P.length),(prV P)[i * 2]?=some (.int .i64 (P[i]'h).1)∧(prV P)[i * 2 + 1]?=some (.int .u64 ((P[i]'h).2:Nat))
 | x :: P,0,_ => by unfold prV; simp
 | x :: P,i + 1,h => by
  have:=prV_at P i (by simpa using h)
  have e:prV (x :: P)=[.int .i64 x.1,.int .u64 (x.2:Nat)] ++ prV P:=by unfold prV; rw [List.flatMap_cons]
  rw [e]
  have hs:∀ j,([.int .i64 x.1,.int .u64 (x.2:Nat)] ++ prV P)[(i + 1) * 2 + j]?=(prV P)[i * 2 + j]?:=by
   intro j
   rw [List.getElem?_append_right (by simp; omega)]
   congr 1
   simp
   omega
  exact ⟨(hs 0).trans this.1,(hs 1).trans this.2⟩
theorem row_cells {u:World} {B k n c:Nat} {t:TypeId} {A:Option Addr} {vs:List Value} (h:u.ownsRow B t k (.slice A n c) n vs) (hp:0 < n):∃ b,A=some ⟨b,0,none⟩∧B≤b∧b < u.heap.size∧(∃ cs fz,u.heap[b]?=some (.cells cs t fz))∧∀ j v,vs[j]?=some v→u.cell? ⟨b,j,none⟩=some v:=by
 rcases h.2 with ⟨h1,h2⟩ | ⟨g,cap,cur,h1,hb,hg,hn,hm,hc,ht⟩
 ·omega
 ·injection h1 with e1 e2 e3
  refine ⟨g,e1,hb,(Array.getElem?_eq_some_iff.1 hg).1,⟨cur,_,hg⟩,fun j v hv => ?_⟩
  have hcell:u.cell? ⟨g,j,none⟩=cur[j]?:=cell_of_row u g j cur _ (0,0) hg
  rw [hcell]
  rw [← ht,List.getElem?_take] at hv
  split at hv
  ·simpa using hv
  ·cases hv
def findW (ws:List WI) (n:Int):Option WI:=ws.find? fun y => decide (y.n=n)
theorem findW_at {ws:List WI} {n:Int} {j:Nat} (hj:j < ws.length) (hno:∀ i,(h:i < ws.length)→i < j→(ws[i]'h).n≠n) (h:(ws[j]'hj).n=n):findW ws n=some (ws[j]'hj):=by
 unfold findW
 rw [List.find?_eq_some_iff_getElem]
 exact ⟨by simpa using h,j,hj,rfl,fun i hi => by simpa using hno i (by omega) hi⟩
theorem findW_none {ws:List WI} {n:Int} (hno:∀ i,(h:i < ws.length)→(ws[i]'h).n≠n):findW ws n=none:=by
 unfold findW
 rw [List.find?_eq_none]
 intro y hy
 obtain ⟨i,hi,rfl⟩:=List.mem_iff_getElem.1 hy
 simpa using hno i hi
def valP (P:List (Int × Nat)) (y:Int):Nat × Bool:=match P.find? (fun x => decide (x.1=y)) with | some x => (x.2,true) | none => (0,false)
theorem valP_at {P:List (Int × Nat)} {n:Int} {j:Nat} (hj:j < P.length) (hno:∀ i,(h:i < P.length)→i < j→(P[i]'h).1≠n) (h:(P[j]'hj).1=n):valP P n=((P[j]'hj).2,true):=by
 unfold valP
 have:P.find? (fun x => decide (x.1=n))=some (P[j]'hj):=by
  rw [List.find?_eq_some_iff_getElem]
  exact ⟨by simpa using h,j,hj,rfl,fun i hi => by simpa using hno i (by omega) hi⟩
 rw [this]
theorem valP_none {P:List (Int × Nat)} {n:Int} (hno:∀ i,(h:i < P.length)→(P[i]'h).1≠n):valP P n=(0,false):=by
 unfold valP
 have:P.find? (fun x => decide (x.1=n))=none:=by
  rw [List.find?_eq_none]
  intro y hy
  obtain ⟨i,hi,rfl⟩:=List.mem_iff_getElem.1 hy
  simpa using hno i hi
 rw [this]
end Go.Proofs.YtlliaihmfimdoaaGreat


namespace Go.Proofs.YtlliaihmfimdoaaGreat
open Go.RowKit Go.Maps Go.Joins Go.Deep
theorem Tryz.infoPt:(Tryz.prog.info? 109).map (fun i => (i.zero,i.size,i.bytes))=some (some (.pointer none),1,8):=by kernel_rfl
theorem own_ne {u:World} {B k n c m x:Nat} {t tt:TypeId} {A:Option Addr} {vs:List Value} {cs:Array Value} (h:u.ownsRow B t k (.slice A n c) m vs) (hx:Blk u x tt cs) (ht:t≠tt):blk A≠some x:=by
 rcases h.2 with ⟨h1,h2⟩ | ⟨g,cap,cur,h1,hb,hg,hn,hm,hc,ht'⟩
 ·cases h1
  simp [blk]
 ·injection h1 with e1 e2 e3
  intro e
  rw [e1] at e
  injection e with e
  have e:g=x:=e
  subst e
  unfold Blk at hx
  rw [hx] at hg
  injection hg with hg
  injection hg with _ hg _
  exact ht hg.symm
theorem own_kept {u u':World} {B k n c m x:Nat} {t tt:TypeId} {A:Option Addr} {vs:List Value} {cs:Array Value} (h:u.ownsRow B t k (.slice A n c) m vs) (hx:Blk u x tt cs) (ht:t≠tt) (hg:u.grownBy u' (some x)):u'.ownsRow B t k (.slice A n c) m vs:=by
 refine World.ownsRow.kept h hg ?_
 rcases hb:(Value.slice A n c).ownBlock with _ | k
 ·exact .inl rfl
 ·refine .inr (fun e => ?_)
  rw [ownBlock_slice] at hb
  exact own_ne h hx ht (hb.trans e)
structure RG (B0:Nat) (u u':World) (x:Nat) (S:Nat→Prop):Prop where
 os:u'.os=u.os
 tape:u'.tape=u.tape
 output:u'.output=u.output
 size:u.heap.size≤u'.heap.size
 low:∀ k,k < B0→k < u.heap.size→k≠x→u'.heap[k]?=u.heap[k]?
 block:∀ k,k < u.heap.size→k≠x→u'.heap[k]?=u.heap[k]?∨(∃ cs fz,u.heap[k]?=some (.cells cs 109 fz))∨(∃ cs fz,u.heap[k]?=some (.cells cs 147 fz))∨((∃ cs fz,u.heap[k]?=some (.cells cs 74 fz))∧S k)
theorem RG.of {B0:Nat} {u u':World} {x:Nat} {S:Nat→Prop} (h:u.grownBy u' (some x)):RG B0 u u' x S :=
 ⟨h.os,h.tape,h.output,h.size,fun k _ hk hx => h.block k hk (fun e => hx (by injection e)),fun k hk hx => .inl (h.block k hk (fun e => hx (by injection e)))⟩
theorem RG.trans {B0:Nat} {a b c:World} {x:Nat} {S S':Nat→Prop} (h:RG B0 a b x S) (k:RG B0 b c x S') (hS:∀ r,r < a.heap.size→S' r→S r):RG B0 a c x S:=by
 refine ⟨k.os.trans h.os,k.tape.trans h.tape,k.output.trans h.output,Nat.le_trans h.size k.size,fun r hb hr hx => (k.low r hb (Nat.lt_of_lt_of_le hr h.size) hx).trans (h.low r hb hr hx),fun r hr hx => ?_⟩
 rcases h.block r hr hx with e | e | e | e
 ·have:=k.block r (Nat.lt_of_lt_of_le hr h.size) hx
  rw [e] at this
  rcases this with e | e | e | ⟨e,e2⟩
  ·exact .inl e
  ·exact .inr (.inl e)
  ·exact .inr (.inr (.inl e))
  ·exact .inr (.inr (.inr ⟨e,hS r hr e2⟩))
 ·exact .inr (.inl e)
 ·exact .inr (.inr (.inl e))
 ·exact .inr (.inr (.inr e))
theorem pt_more {u:World} {B c:Nat} {A:Option Addr} {qs:List Nat} (h:OwnPt u B A c qs) (n:Nat) (hn:n=qs.length) (hl:n≤1000000) (q b:Nat) (hBu:B≤u.heap.size) (hq0:u.cell? ⟨b,0,none⟩=some (.pointer (some ⟨q,0,none⟩))) :
  ∃ A2 c2 u',(Builtin.append_ #[27,27] 27 #[.slice A n c,.slice (some ⟨b,0,none⟩) 1 1]).run Tryz.prog u=.ok (.slice A2 (n + 1) c2) u' ∧
   OwnPt u' B A2 c2 (qs ++ [q])∧u.grownBy u' (blk A):=by
 subst hn
 obtain ⟨i0,hi,hz0,hz1,hz2⟩:=info_parts Tryz.infoPt
 obtain ⟨v',w',hrun,hown,hgr,_,_⟩:=run_append_own_at (P:=Tryz.prog) u B 27 27 109 i0 _ 1 8 Tryz.underlying27 hi hz0 hz1 hz2 rfl (by omega) (.slice A qs.length c) qs.length (ptV qs) h ⟨b,0,none⟩ 1 1 [.pointer (some ⟨q,0,none⟩)] rfl
  (fun j u hu => by
   match j,hu with
   | 0,hu => cases hu; exact hq0)
  (fun u hu => by simp at hu; subst hu; rfl) (by simp only [maxLen]; omega) (by omega) hBu
 obtain ⟨g2,c2,rfl⟩:=Joins.ownsRow_form hown (by omega)
 rw [ownBlock_slice] at hgr
 refine ⟨some ⟨g2,0,none⟩,c2,w',hrun,?_,hgr⟩
 unfold OwnPt ptV
 rw [List.length_append,List.map_append]
 exact hown
end Go.Proofs.YtlliaihmfimdoaaGreat


namespace Go.Proofs.YtlliaihmfimdoaaGreat
open Go.RowKit Go.Maps Go.Joins Go.Deep
def touchM (ws:List WI) (L:List LRow) (n y:Int) (al:Bool) (q:Nat):Int × List WI × List LRow :=
 if n < 1∨keyB y=false then (1,ws,L)
 else match findW ws n with
  | some x => if x.p=true then (7,ws,L) else ((takeL L n y al).1,ws,(takeL L n y al).2)
  | none => ((takeL L n y al).1,if (takeL L n y al).1=0 then ws ++ [⟨q,n,none,0,[],false⟩] else ws,(takeL L n y al).2)
end Go.Proofs.YtlliaihmfimdoaaGreat


namespace Go.Proofs.YtlliaihmfimdoaaGreat
open Go.RowKit Go.Maps Go.Joins Go.Deep
theorem own_less {u:World} {B B' k n c m:Nat} {t:TypeId} {A:Option Addr} {vs:List Value} (h:u.ownsRow B' t k (.slice A n c) m vs) (hB:B≤B'):u.ownsRow B t k (.slice A n c) m vs:=by
 obtain ⟨h1,h2⟩:=h
 refine ⟨h1,?_⟩
 rcases h2 with h2 | ⟨g',cap',cur,hv,hb,hrest⟩
 ·exact .inl h2
 ·exact .inr ⟨g',cap',cur,hv,Nat.le_trans hB hb,hrest⟩
def othersW (ws:List WI) (n:Int):List WI:=ws.filter fun y => decide (y.n≠n)
theorem othersW_snoc {ws:List WI} {n:Int} {j:Nat} (hj:j < ws.length):othersW (ws.take (j + 1)) n=if (ws[j]'hj).n=n then othersW (ws.take j) n else othersW (ws.take j) n ++ [ws[j]'hj]:=by
 unfold othersW
 rw [List.take_add_one,List.getElem?_eq_getElem hj,List.filter_append]
 split
 ·rename_i h; simp [h]
 ·rename_i h; simp [h]
def backR (ws:List WI) (L:List LRow) (n:Int):Int × List WI × List LRow:=if n < 1 then (1,ws,L) else (0,othersW ws n,dropL L n)
end Go.Proofs.YtlliaihmfimdoaaGreat


namespace Go.Proofs.YtlliaihmfimdoaaGreat
open Go.RowKit Go.Maps Go.Joins Go.Deep
theorem touch_found {ws:List WI} {L:List LRow} {n y:Int} {al:Bool} {q:Nat} (h:(touchM ws L n y al q).1=0):∃ z,findW (touchM ws L n y al q).2.1 n=some z∧z ∈ (touchM ws L n y al q).2.1∧z.n=n∧z.p=false:=by
 have key:∀ ws':List WI,∀ z,findW ws' n=some z→z ∈ ws'∧z.n=n:=fun ws' z hz => ⟨List.mem_of_find?_eq_some hz,by have:=List.find?_some hz; simpa using this⟩
 unfold touchM at h ⊢
 split at h
 ·cases h
 ·rename_i hb
  rw [if_neg hb]
  split at h
  ·rename_i z hz
   split at h
   ·cases h
   ·rename_i hp
    rw [if_neg hp]
    exact ⟨z,hz,(key ws z hz).1,(key ws z hz).2,by simpa using hp⟩
  ·rename_i hz
   dsimp only at h ⊢
   rw [if_pos h]
   have hf:findW (ws ++ [⟨q,n,none,0,[],false⟩]) n=some ⟨q,n,none,0,[],false⟩:=by
    unfold findW at hz ⊢
    rw [List.find?_append,hz]
    simp
   exact ⟨_,hf,(key _ _ hf).1,rfl,rfl⟩
def chgOf (l:List Ch) (y:Int):Option Ch:=l.find? fun c => decide (c.y=y)
theorem chgOf_at {l:List Ch} {y:Int} {j:Nat} (hj:j < l.length) (hno:∀ i,(h:i < l.length)→i < j→(l[i]'h).y≠y) (h:(l[j]'hj).y=y):chgOf l y=some (l[j]'hj):=by
 unfold chgOf
 rw [List.find?_eq_some_iff_getElem]
 exact ⟨by simpa using h,j,hj,rfl,fun i hi => by simpa using hno i (by omega) hi⟩
theorem chgOf_none {l:List Ch} {y:Int} (hno:∀ i,(h:i < l.length)→(l[i]'h).y≠y):chgOf l y=none:=by
 unfold chgOf
 rw [List.find?_eq_none]
 intro y hy
 obtain ⟨i,hi,rfl⟩:=List.mem_iff_getElem.1 hy
 simpa using hno i hi
def getZ (P:List (Int × Nat)) (l:List Ch) (y:Int):Nat × Bool:=match chgOf l y with | some c => (c.v,c.k == 1) | none => valP P y
def getR (P:List (Int × Nat)) (T:Int × List WI × List LRow) (n y:Int):Nat × Bool × Int :=
 if T.1=0 then (match findW T.2.1 n with | some z => ((getZ P z.l y).1,(getZ P z.l y).2,0) | none => (0,false,0)) else (0,false,T.1)
theorem RG.bel {B0:Nat} {a b c:World} {x:Nat} {S:Nat→Prop} (h:RG B0 a b x S) (k:Below b.heap.size b c):RG B0 a c x S:=h.trans (RG.of (lbelow_grown k (some x))) (fun _ _ h => h) (S':=S)
end Go.Proofs.YtlliaihmfimdoaaGreat


namespace Go.Proofs.YtlliaihmfimdoaaGreat
open Go.RowKit Go.Maps Go.Joins Go.Deep
theorem own_same {u u':World} {B k n c m:Nat} {t:TypeId} {A:Option Addr} {vs:List Value} (h:u.ownsRow B t k (.slice A n c) m vs) (hs:∀ r,r < u.heap.size→(∃ cs fz,u.heap[r]?=some (.cells cs t fz))→blk A=some r→u'.heap[r]?=u.heap[r]?):u'.ownsRow B t k (.slice A n c) m vs:=by
 obtain ⟨h1,h2⟩:=h
 refine ⟨h1,?_⟩
 rcases h2 with h2 | ⟨g,cap,cur,hv,hb,hg,hrest⟩
 ·exact .inl h2
 ·refine .inr ⟨g,cap,cur,hv,hb,?_,hrest⟩
  injection hv with e1 _ _
  rw [hs g (Array.getElem?_eq_some_iff.1 hg).1 ⟨_,_,hg⟩ (by rw [e1]; rfl)]
  exact hg
theorem q_same {ws:List WI} (hd:ws.Pairwise fun a b => a.q≠b.q∧∀ r,blk a.A=some r→blk b.A≠some r) {a b:WI} (ha:a ∈ ws) (hb:b ∈ ws) (e:a.q=b.q):a=b:=by
 obtain ⟨i,hi,rfl⟩:=List.mem_iff_getElem.1 ha
 obtain ⟨j,hj,rfl⟩:=List.mem_iff_getElem.1 hb
 rcases Nat.lt_trichotomy i j with h | h | h
 ·exact absurd e (List.pairwise_iff_getElem.1 hd i j hi hj h).1
 ·subst h; rfl
 ·exact absurd e.symm (List.pairwise_iff_getElem.1 hd j i hj hi h).1
theorem A_apart {ws:List WI} (hd:ws.Pairwise fun a b => a.q≠b.q∧∀ r,blk a.A=some r→blk b.A≠some r) {a b:WI} (ha:a ∈ ws) (hb:b ∈ ws) (e:a.q≠b.q) (r:Nat) (h1:blk a.A=some r):blk b.A≠some r:=by
 obtain ⟨i,hi,rfl⟩:=List.mem_iff_getElem.1 ha
 obtain ⟨j,hj,rfl⟩:=List.mem_iff_getElem.1 hb
 rcases Nat.lt_trichotomy i j with h | h | h
 ·exact (List.pairwise_iff_getElem.1 hd i j hi hj h).2 r h1
 ·subst h; exact absurd rfl e
 ·intro h2
  exact (List.pairwise_iff_getElem.1 hd j i hj hi h).2 r h2 h1
def turnW (ws:List WI) (z:WI):List WI:=ws.map fun y => if y.q=z.q then z else y
def prepR (ws:List WI) (L:List LRow) (n:Int):(List Ch × Int) × List WI × List LRow :=
 if n < 1 then (([],1),ws,L) else match findW ws n with
  | some z => if z.p=true then (([],7),ws,L) else if z.l.length=0 then (([],0),othersW ws n,dropL L n) else ((z.l,0),turnW ws { z with p:=true },L)
  | none => (([],0),othersW ws n,dropL L n)
end Go.Proofs.YtlliaihmfimdoaaGreat

