/- Parts Ig of one proof. -/
import Derived.Test.YtlliaihmfimdoaaGreatMg02
import Derived.Test.YtlliaihmfimdoaaGreatMg04
set_option linter.unusedSimpArgs false
set_option linter.unusedVariables false
namespace Go.Proofs.YtlliaihmfimdoaaGreat
open Go.RowKit Go.Maps
theorem Src.look_run {w:World} {m:Option Nat} {L:List LRow} (h:Src w m L) {k o:Int} (hk:i64ok k) (ho:i64ok o) :
  (Instr.lookup 91 (.map m) (.agg #[.int .i64 k,.int .i64 o]) true).run Tryz.prog w=.ok (.tuple #[.agg #[.bool (aloneL L k o)],.bool (heldL L k o)]) w:=by
 have hkey:=keyOf_pv k o hk ho
 unfold pv at hkey
 have hz:=Tryz.zeroValue185 w
 rcases h with ⟨rfl,rfl⟩ | ⟨b,D,rfl,h2,h3⟩
 ·exact Maps.look_nil true lawP Tryz.underlying91 hz hkey
 ·obtain ⟨v,ps,hrun,hv⟩:=h2.look_ok lawP Tryz.underlying91 hz (holdElem_mk false) hkey
  rw [h3.look hk ho] at hv
  obtain ⟨c,rfl,e⟩:=holdElem_inv hv
  simp at e
  rw [hrun,h3.has,anyK_held h3.ok hk ho,e.1]
def TakeO (w:World) (g of:Nat) (tt:TypeId) (cs:Array Value) (r:Int × List LRow) (e:Ending) (w':World):Prop:=e=.returned (.int .i64 r.1)∧(∃ m,TabO w' g of tt (cs.setIfInBounds of (.map m)) r.2)∧w.grownBy w' (some g)
def NwH (w:World) (B:Nat) (c:Bool) (v:Value):Prop:=∃ q,v=.pointer (some ⟨q,0,none⟩)∧B≤q∧Blk w q 185 #[.bool c]
theorem NwH.below {w w':World} {B:Nat} {c:Bool} {v:Value} (h:NwH w B c v) (hb:Below w.heap.size w w'):NwH w' B c v:=by
 obtain ⟨q,h1,h2,h3⟩:=h; exact ⟨q,h1,h2,h3.below hb h3.lt⟩
def VTk (g of:Nat) (m:Option Nat) (k o:Int) (al hd:Bool) (B:Nat) (i:Nat) (v p:Value) (w:World):Prop :=
 match i with
 | 0 => v=.pointer (some ⟨g,of,none⟩)
 | 1 => v=.pointer (some ⟨g,of,none⟩)
 | 2 => v=.pointer (some ⟨g,of,none⟩)
 | 3 => v=.map m
 | 4 => v=.agg #[.int .i64 k,.int .i64 o]
 | 5 => v=.tuple #[.agg #[.bool al],.bool hd]
 | 6 => v=.tuple #[.agg #[.bool al],.bool hd]
 | 7 => v=.agg #[.bool al]
 | 8 => v=.bool hd
 | 9 => NwH w B false v
 | 10 => NwH w B al p
 | 11 => v=.bool hd
 | _ => True
def ETk (k:Nat) (u u':World):Prop:=match k with
 | 10 => True
 | _ => Below u.heap.size u u'
theorem VTk.mono {g of:Nat} {m:Option Nat} {k o:Int} {al hd:Bool} {B q i:Nat} {v p:Value} {u u':World} (he:ETk q u u') (hiq:i≠q) (hd0:i=9∧q=10→False) (h:VTk g of m k o al hd B i v p u):VTk g of m k o al hd B i v p u':=by
 unfold ETk at he
 split at he
 ·unfold VTk at h ⊢
  split at h <;> first | with_reducible exact h | exact absurd rfl hiq | exact (hd0 ⟨rfl,rfl⟩).elim
 ·unfold VTk at h ⊢
  split at h <;> first | with_reducible exact h | exact NwH.below h he
set_option maxRecDepth 100000 in
set_option maxHeartbeats 4000000 in
theorem take_any (g of:Nat) (tt:TypeId) (cs:Array Value) (L:List LRow) (o k:Int) (a:Bool) (w:World) (h:TabO w g of tt cs L) (hk:i64ok k) (ho:i64ok o) :
  Calls Tryz.prog 117 #[.pointer (some ⟨g,of,none⟩),.int .i64 o,.int .i64 k,.bool a] w (TakeO w g of tt cs (takeL L o k a)):=by
 have hglt:=h.lt
 have hb1:=ba w (.cells #[.int .i64 k,.int .i64 o] 178)
 have k1:=Blk.new w 178 #[.int .i64 k,.int .i64 o]
 obtain ⟨m,hg,hcs,hsrc⟩:=h.src
 have hok:=h.ok
 have hlen:=h.1
 have hg1:=hg.below hb1 hglt
 have hs1:=hsrc.below hb1
 obtain ⟨w1,hw1⟩:∃ w1,w1=w.alloc (.cells #[.int .i64 k,.int .i64 o] 178):=⟨_,rfl⟩
 rw [← hw1] at hb1 k1 hg1 hs1
 have hglt1:=hg1.lt
 obtain ⟨al,hal⟩:∃ al,al=aloneL L k o:=⟨_,rfl⟩
 obtain ⟨hd,hhd⟩:∃ hd,hd=heldL L k o:=⟨_,rfl⟩
 obtain ⟨cl,hcl⟩:∃ cl,cl=clashL L k o a:=⟨_,rfl⟩
 have hlk:=fun (u:World) (hb:Below w1.heap.size w1 u) => (hs1.below hb).look_run hk ho
 rw [← hal,← hhd] at hlk
 have hcla:=fun (u:World) (hb:Below w1.heap.size w1 u) => clashes_any g of tt cs L k o a u (TabO.of_src hlen (hg1.below hb hglt1) hcs (hs1.below hb))
 rw [← hcl] at hcla
 have hln:=fun (u:World) (hb:Below w1.heap.size w1 u) => (hs1.below hb).len_run
 have hput:=fun (b:Bool) (u:World) (hb:Below w1.heap.size w1 u) (hl:(putL L k o b).length≤64) => put_any g of tt cs L k o b u (TabO.of_src hlen (hg1.below hb hglt1) hcs (hs1.below hb)) hk ho hl
 have htab:=fun (u:World) (hb:Below w1.heap.size w1 u) => TabO.of_src hlen (hg1.below hb hglt1) hcs (hs1.below hb)
 have Hcs:=Lib.hid hcs
 have Hcla:=Lib.hid hcla
 have Hln:=Lib.hid hln
 have Hput:=Lib.hid hput
 have Htab:=Lib.hid htab
 have Hlk:=Lib.hid hlk
 have HT:Hid (takeL L o k a=if cl then (120,L) else if hd=false∧L.length=64 then (5,L) else (0,putL L k o (al || a))):=Lib.hid (by unfold takeL; rw [hcl,hhd,hal])
 have HPl:Hid (hd=true∨L.length≠64→∀ b,(putL L k o b).length≤64):=Lib.hid (by
  intro h0 b
  rw [putL_len,← hhd]
  rcases h0 with h0 | h0
  ·rw [if_pos h0]; exact hlen
  ·split
   ·exact hlen
   ·omega)
 obtain ⟨n,hn⟩:∃ n,n=L.length:=⟨_,rfl⟩
 have HN:=Lib.hid (And.intro hn hlen)
 have hnb:(n:Int)≤64:=by omega
 clear hcs hcla hln hput htab hlk hal hhd hcl hs1 hsrc hg h hn hlen hok
 go_enter Tryz.func117,Tryz.ntmps117
 go_wp2_with fail
 rw [← hw1]
 have HW1:=Lib.hid hw1
 clear hw1
 refine wp_region_invX (F:=?FK) (V:=VTk g of m k o al hd w1.heap.size) (par:=fun i => if i=10 then 9 else i) (dead:=fun i => if i=9 then some 10 else none) (T:=fun _ _ => True) (C:=fun u => Below w1.heap.size w1 u) (E:=ETk) (by kernel_rfl) (by kernel_rfl) (by kernel_rfl) (fun x => ?hFK) (fun i _ => by by_cases h:i=10; (subst h; exact .inr (by kernel_rfl)); exact .inl (if_neg h)) ?hmonoK ?hTmK ?hTK ?hCK ?stepK ?finK
 case hFK => simp only [mkA,Act.put,List.setIfInBounds_toArray,List.set_cons_succ,List.set_cons_zero,Nat.reduceAdd,Nat.zero_add]; first | with_reducible rfl | rfl
 case hmonoK => exact fun q' i v p u u' he hik hwt hdd hv => VTk.mono he hik (fun hh => hdd (by rw [hh.1,hh.2]; rfl)) hv
 case hTmK => exact fun _ _ _ _ _ _ _ _ => trivial
 case hTK => exact fun j => trivial
 case hCK => exact (Below.refl _ _).drew
 case stepK =>
  refine AllOps.cons (fun x u hC hT hp K hK => ?_) ?_
  ·clear hp hT
   go_simp
   refine hK _ _ _ hC (Below.refl _ _) (by exact rfl) ?_
   first | (simp only [Act.put,List.setIfInBounds_toArray,List.set_cons_succ,List.set_cons_zero]; done) | simp [Act.put]
  refine AllOps.cons (fun x u hC hT hp K hK => ?_) ?_
  ·simp [KnownTill,Region.binds,VTk] at hp
   clear hT
   go_simp
   refine hK _ _ _ hC (Below.refl _ _) (by exact rfl) ?_
   first | (simp only [Act.put,List.setIfInBounds_toArray,List.set_cons_succ,List.set_cons_zero,hp]; done) | simp [Act.put,hp]
  refine AllOps.cons (fun x u hC hT hp K hK => ?_) ?_
  ·simp [KnownTill,Region.binds,VTk] at hp
   clear hT
   go_simp
   refine hK _ _ _ hC (Below.refl _ _) (by exact rfl) ?_
   first | (simp only [Act.put,List.setIfInBounds_toArray,List.set_cons_succ,List.set_cons_zero,hp]; done) | simp [Act.put,hp]
  refine AllOps.cons (fun x u hC hT hp K hK => ?_) ?_
  ·simp [KnownTill,Region.binds,VTk] at hp
   clear hT
   have cq:=((hg1.below hC hglt1).cell of).trans Hcs.out
   go_simp
   refine hK _ _ _ hC (Below.refl _ _) (by exact rfl) ?_
   first | (simp only [Act.put,List.setIfInBounds_toArray,List.set_cons_succ,List.set_cons_zero,hp]; done) | simp [Act.put,hp]
  refine AllOps.cons (fun x u hC hT hp K hK => ?_) ?_
  ·clear hp hT
   have kq:=k1.below hC k1.lt
   have cq0:=kq.cell 0
   have cq1:=kq.cell 1
   simp only [List.getElem?_toArray,List.getElem?_cons_zero,List.getElem?_cons_succ] at cq0 cq1
   go_simp
   refine hK _ _ _ hC (Below.refl _ _) (by exact rfl) ?_
   first | (simp only [Act.put,List.setIfInBounds_toArray,List.set_cons_succ,List.set_cons_zero]; done) | simp [Act.put]
  refine AllOps.cons (fun x u hC hT hp K hK => ?_) ?_
  ·simp [KnownTill,Region.binds,VTk] at hp
   clear hT
   have hlq:=Hlk.out u hC
   go_simp
   refine hK _ _ _ hC (Below.refl _ _) (by exact rfl) ?_
   first | (simp only [Act.put,List.setIfInBounds_toArray,List.set_cons_succ,List.set_cons_zero,hp]; done) | simp [Act.put,hp]
  refine AllOps.cons (fun x u hC hT hp K hK => ?_) ?_
  ·simp [KnownTill,Region.binds,VTk] at hp
   clear hT
   go_simp
   refine hK _ _ _ hC (Below.refl _ _) (by exact rfl) ?_
   first | (simp only [Act.put,List.setIfInBounds_toArray,List.set_cons_succ,List.set_cons_zero,hp]; done) | simp [Act.put,hp]
  refine AllOps.cons (fun x u hC hT hp K hK => ?_) ?_
  ·simp [KnownTill,Region.binds,VTk] at hp
   clear hT
   go_simp
   refine hK _ _ _ hC (Below.refl _ _) (by exact rfl) ?_
   first | (simp only [Act.put,List.setIfInBounds_toArray,List.set_cons_succ,List.set_cons_zero,hp]; done) | simp [Act.put,hp]
  refine AllOps.cons (fun x u hC hT hp K hK => ?_) ?_
  ·simp [KnownTill,Region.binds,VTk] at hp
   clear hT
   go_simp
   refine hK _ _ _ hC (Below.refl _ _) (by exact rfl) ?_
   first | (simp only [Act.put,List.setIfInBounds_toArray,List.set_cons_succ,List.set_cons_zero,hp]; done) | simp [Act.put,hp]
  refine AllOps.cons (fun x u hC hT hp K hK => ?_) ?_
  ·clear hp hT
   go_simp
   refine hK _ _ _ (Go.Proofs.YtlliaihmfimdoaaGreat.bt hC (ba u (.cells #[.bool false] 185))) (ba u (.cells #[.bool false] 185)) ⟨u.heap.size,rfl,hC.size,Blk.new u _ _⟩ ?_
   first | (simp only [Act.put,List.setIfInBounds_toArray,List.set_cons_succ,List.set_cons_zero]; done) | simp [Act.put]
  refine AllOps.cons (fun x u hC hT hp K hK => ?_) ?_
  ·simp [KnownTill,Region.binds,VTk] at hp
   clear hT
   have h9:NwH u w1.heap.size false (x 9):=by first | exact hp.1 | exact hp.2.1 | exact hp.2 | exact hp.2.2.1
   have h7:x 7=.agg #[.bool al]:=by first | exact hp.1 | exact hp.2.1 | exact hp.2 | exact hp.2.2.1
   clear hp
   obtain ⟨q,h9,hq,kz⟩:=h9
   have s0:=kz.cell 0
   have f0:=kz.frozen 0
   have kz1:=kz.set_ 0 (.bool al)
   simp only [List.getElem?_toArray,List.getElem?_cons_zero,List.setIfInBounds_toArray,List.set_cons_zero] at s0 kz1
   have hbb:=hC.setCell (p:=⟨q,0,none⟩) hq (.bool al)
   have KF:=Lib.hid kz1
   have HBB:=Lib.hid hbb
   clear kz kz1 hbb
   go_simp
   refine hK undef _ _ HBB.out trivial ⟨q,h9,hq,KF.out⟩ ?_
   simp [Act.put,h9,h7]
  refine AllOps.cons (fun x u hC hT hp K hK => ?_) ?_
  ·simp [KnownTill,Region.binds,VTk] at hp
   clear hT
   go_simp
   refine hK _ _ _ hC (Below.refl _ _) (by exact rfl) ?_
   first | (simp only [Act.put,List.setIfInBounds_toArray,List.set_cons_succ,List.set_cons_zero,hp]; done) | simp [Act.put,hp]
  exact AllOps.nil
 case finK =>
  intro x W2 hC hV
  obtain ⟨q,e9,hq,kq⟩:NwH W2 w1.heap.size al (x 9):=hV 10 (by decide) rfl
  have e11:x 11=.bool hd:=hV 11 (by decide) rfl
  rw [e9,e11]
  clear hV e9 e11
  have kp:=k1.below hC k1.lt
  have p0:=kp.cell 0
  have p1:=kp.cell 1
  simp only [List.getElem?_toArray,List.getElem?_cons_zero,List.getElem?_cons_succ] at p0 p1
  clear Hlk
  go_wp2_with fail
  refine (Hcla.out W2 hC).mono ?_
  rintro e W3 ⟨rfl,hb3⟩
  have hC3:=Go.Proofs.YtlliaihmfimdoaaGreat.bt hC hb3
  have kp3:=kp.below hb3 kp.lt
  have kq3:=kq.below hb3 kq.lt
  have p0:=kp3.cell 0
  have p1:=kp3.cell 1
  have q0:=kq3.cell 0
  have g3:=((hg1.below hC3 hglt1).cell of).trans Hcs.out
  simp only [List.getElem?_toArray,List.getElem?_cons_zero,List.getElem?_cons_succ] at p0 p1 q0
  have hl3:=Hln.out W3 hC3
  rw [← HN.out.1] at hl3
  clear kp kq hC hb3 kp3 kq3
  have hB3:Below w.heap.size w W3:=Go.Proofs.YtlliaihmfimdoaaGreat.bt hb1 hC3
  rcases cl with _ | _
  ·rcases hd with _ | _
   ·by_cases h64:n=64
    ·subst h64
     go_wp2
     go_ret
     rw [HT.out,if_neg (by simp),if_pos ⟨trivial,HN.out.1.symm⟩]
     exact ⟨rfl,⟨m,by rw [set_self Hcs.out]; exact Htab.out W3 hC3⟩,lbelow_grown hB3 _⟩
    ·have h64I:¬ (n:Int)=64:=by omega
     rcases al with _ | _
     ·go_wp2_with fail
      refine (Hput.out a W3 hC3 (HPl.out (.inr (by rw [← HN.out.1]; exact h64)) _)).mono ?_
      rintro e W4 ⟨rfl,ht4,hg4⟩
      have hgr:=(lbelow_grown hB3 (some g)).andThen hg4 (fun j h => by cases h; exact .inr rfl)
      go_wp2
      go_ret
      rw [HT.out,if_neg (by simp),if_neg (by rw [← HN.out.1]; exact fun h => h64 h.2)]
      exact ⟨rfl,ht4,hgr⟩
     ·go_wp2_with fail
      refine (Hput.out true W3 hC3 (HPl.out (.inr (by rw [← HN.out.1]; exact h64)) _)).mono ?_
      rintro e W4 ⟨rfl,ht4,hg4⟩
      have hgr:=(lbelow_grown hB3 (some g)).andThen hg4 (fun j h => by cases h; exact .inr rfl)
      go_wp2
      go_ret
      rw [HT.out,if_neg (by simp),if_neg (by rw [← HN.out.1]; exact fun h => h64 h.2)]
      exact ⟨rfl,ht4,hgr⟩
   ·rcases al with _ | _
    ·go_wp2_with fail
     refine (Hput.out a W3 hC3 (HPl.out (.inl (by simp)) _)).mono ?_
     rintro e W4 ⟨rfl,ht4,hg4⟩
     have hgr:=(lbelow_grown hB3 (some g)).andThen hg4 (fun j h => by cases h; exact .inr rfl)
     go_wp2
     go_ret
     rw [HT.out,if_neg (by simp),if_neg (by simp)]
     exact ⟨rfl,ht4,hgr⟩
    ·go_wp2_with fail
     refine (Hput.out true W3 hC3 (HPl.out (.inl (by simp)) _)).mono ?_
     rintro e W4 ⟨rfl,ht4,hg4⟩
     have hgr:=(lbelow_grown hB3 (some g)).andThen hg4 (fun j h => by cases h; exact .inr rfl)
     go_wp2
     go_ret
     rw [HT.out,if_neg (by simp),if_neg (by simp)]
     exact ⟨rfl,ht4,hgr⟩
  ·go_wp2
   go_ret
   rw [HT.out,if_pos (by simp)]
   exact ⟨rfl,⟨m,by rw [set_self Hcs.out]; exact Htab.out W3 hC3⟩,lbelow_grown hB3 _⟩
end Go.Proofs.YtlliaihmfimdoaaGreat

