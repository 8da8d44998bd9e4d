/- Parts Q10 Q11 Q12 Q13 Q14 Q15 Q16 Q17 Q18 Q19 Q20 Q21 Q22 R1 of one proof. -/
import Derived.Test.YtlliaihmfimdoaaGreatMg23
import Derived.Test.YtlliaihmfimdoaaGreatMg24
import Derived.Deep.QuietTactic
import Derived.BigQuiet
set_option linter.unusedSimpArgs false
set_option linter.unusedVariables false
namespace Go.Proofs.YtlliaihmfimdoaaGreat.Qu
open Go.RowKit Go.Maps
def giveI (L:List IT) (i:Nat) (n:Int):List IT:=L.modify i fun x => { x with t:=n }
theorem giveI_len (L:List IT) (i:Nat) (n:Int):(giveI L i n).length=L.length:=by unfold giveI; simp
theorem itV_set_t:∀ (l:List IT) (i:Nat) (h:i < l.length) (n:Int),(itV l).set (i * 3 + 2) (.int .i64 n)=itV (giveI l i n)
 | x :: l,0,_,n => rfl
 | x :: l,i + 1,h,n => by
  have:=itV_set_t l i (by simpa using h) n
  rw [show (i + 1) * 3 + 2=i * 3 + 2 + 3 by omega]
  unfold giveI at this ⊢
  simp only [itV,List.modify_succ_cons,List.set_cons_succ,this]
theorem OwnI.capB {u:World} {B:Nat} {A:Option Addr} {c:Nat} {l:List IT} (h:OwnI u B A c l):l.length≤c∧c≤9223372036854775807:=by
 obtain ⟨_,⟨h1,h2⟩ | ⟨g,cap,cur,e,_,_,hle,hm,_⟩⟩:=h
 ·injection h1 with _ e2 e3
  rw [h2,e3]; exact ⟨Nat.zero_le _,by omega⟩
 ·cases e; unfold maxLen at hm; exact ⟨hle,by omega⟩
theorem QAt.itemed {w w':World} {g of N:Nat} {tt:TypeId} {cs:Array Value} {S:QS} {I':List IT} (h:QAt w g of tt cs S N) (hg:w.grownBy w' (some g)) {A:Option Addr} {n c:Nat} (hb:Blk w' g tt (cs.setIfInBounds of (.slice A n c))) (hn:n=I'.length) (hc:n≤c∧c≤9223372036854775807) (hi:ItAt w' anyB A I') (hiv:QInv { S with I:=I' }):QAt w' g of tt (cs.setIfInBounds of (.slice A n c)) { S with I:=I' } N:=by
 obtain ⟨h1,h2,⟨A0,n0,c0,a1,a2,a3,a4,a5⟩,h3,⟨m,G,h4,h5,h6⟩,h7,h8,h9⟩:=h
 refine ⟨hb,h2,⟨A,n,c,set_at a1,hn,hc.1,hc.2,hi⟩,?_,⟨m,G,?_,h5.kept hg h1,h6.same fun A l hc => hc.kept hg h1 h2.1⟩,h7,h8,hiv⟩
 ·rw [Array.getElem?_setIfInBounds_ne (by omega)]; exact h3
 ·rw [Array.getElem?_setIfInBounds_ne (by omega)]; exact h4
set_option maxRecDepth 100000 in
set_option maxHeartbeats 2000000 in
theorem give_ex (g of:Nat) (tt:TypeId) (cs:Array Value) (S:QS) (N:Nat) (i:Nat) (n:Int) (w:World) (h:QAt w g of tt cs S N) (hi:i < S.I.length) :
  Calls Tryz.prog 121 #[.pointer (some ⟨g,of,none⟩),.int .i64 (i:Nat),.int .i64 n] w fun e w' => e=.returned (.tuple #[])∧(∃ v,QAt w' g of tt (cs.setIfInBounds of v) { S with I:=giveI S.I i n } N)∧w.grownBy w' (some g):=by
 obtain ⟨A0,n0,c0,i1,i2,i3,i4,i5⟩:=h.it
 have hn16:n0≤48:=by have:=h.iv.room; omega
 have d0:=(h.bk.cell of).trans i1
 have HC:=Lib.hid (iclone_any A0 S.I n0 c0 w (Lib.hid i2) (Lib.hid (by omega)) i5)
 have hin:i < n0:=by omega
 have hiI:(i:Int) < (n0:Int):=by omega
 have H:=Lib.hid (And.intro h (And.intro i2 (And.intro i1 hi)))
 clear h i1 i2 i5
 go_enter Tryz.func121,Tryz.ntmps121
 go_wp2_with fail
 refine HC.out.mono ?_
 rintro e w1 ⟨A2,c2,rfl,own,b1⟩
 obtain ⟨ob,cap,e⟩:=Joins.ownsRow_form own (by omega)
 cases e
 unfold OwnI at own
 rw [← H.out.2.1] at own
 obtain ⟨hoB,hol⟩:=own.lt ob rfl
 have hgl:=H.out.1.lt
 have c1:∃ v,w1.cell? ⟨ob,i * 3 + 2,none⟩=some v:=by
  obtain ⟨_,_,a3⟩:=itV_at S.I i H.out.2.2.2
  exact ⟨_,(own.cellAt (i * 3 + 2) (by omega)).trans a3⟩
 obtain ⟨u1,c1⟩:=c1
 have f1:=own.frozenAt (i * 3 + 2)
 have st:=own.stored (i * 3 + 2) (.int .i64 n)
 rw [itV_set_t S.I i H.out.2.2.2 n] at st
 obtain ⟨w2,hw2⟩:∃ w2,w2=w1.setCell ⟨ob,i * 3 + 2,none⟩ (.int .i64 n):=⟨_,rfl⟩
 rw [← hw2] at st
 have hgo:g≠ob:=by omega
 have b2:Below w.heap.size w w2:=b1.grown st.2 b1.size (fun r e => by cases e; exact hoB)
 have k2:=H.out.1.bk.below b2 hgl
 have e1:=(k2.cell of).trans H.out.2.2.1
 have f2:=k2.frozen of
 have own2:OwnI w2 w.heap.size (some ⟨ob,0,none⟩) c2 (giveI S.I i n):=by unfold OwnI; rw [giveI_len,← H.out.2.1]; exact st.1
 have hF:Hid ((∃ v,QAt (w2.setCell ⟨g,of,none⟩ (.slice (some ⟨ob,0,none⟩) n0 c2)) g of tt (cs.setIfInBounds of v) { S with I:=giveI S.I i n } N)∧w.grownBy (w2.setCell ⟨g,of,none⟩ (.slice (some ⟨ob,0,none⟩) n0 c2)) (some g)):=Lib.hid (by
  have hgs:=lgrown_set w2 ⟨g,of,none⟩ (.slice (some ⟨ob,0,none⟩) n0 c2)
  have hq2:=H.out.1.below b2
  have hcap:=own2.capB
  rw [giveI_len,← H.out.2.1] at hcap
  refine ⟨⟨_,hq2.itemed (I':=giveI S.I i n) hgs (k2.set_ of _) (by rw [giveI_len]; exact H.out.2.1) hcap ((own2.at_.kept hgs k2 H.out.1.ty.2).mono fun _ _ _ => trivial) ?_⟩,(lbelow_grown b2 (some g)).trans hgs⟩
  exact ⟨by have:=H.out.1.iv.room; dsimp only; rw [giveI_len]; exact this,H.out.1.iv.g0,H.out.1.iv.last⟩)
 have HW2:=Lib.hid hw2
 rw [hw2] at e1 f2
 clear own st b1 b2 k2 own2 hw2 hoB hol d0
 go_wp2
 rw [← HW2.out]
 go_end0
 exact ⟨rfl,hF.out⟩
theorem give_any (g of:Nat) (tt:TypeId) (cs:Array Value) (S:QS) (N:Nat) (i:Nat) (n:Int) (w:World) (h:QAt w g of tt cs S N) (hi:i < S.I.length) :
  Calls Tryz.prog 121 #[.pointer (some ⟨g,of,none⟩),.int .i64 (i:Nat),.int .i64 n] w fun e w' => e=.returned (.tuple #[])∧QO w g of tt cs { S with I:=giveI S.I i n } N w' :=
 (give_ex g of tt cs S N i n w h hi).mono fun e w' hr => ⟨hr.1,⟨hr.2.1.elim fun v hv => ⟨_,hv,Keep3.set _ _ (.inl rfl) _⟩,hr.2.2⟩⟩
def VAd (w1:World) (gx q c q1:Nat) (A:Option Addr) (p:Bool) (l:List Ch) (x:Ch) (j:Nat) (z:Value) (w:World):Prop :=
 match j with
 | 0 => z=.pointer (some ⟨w1.heap.size,0,none⟩)
 | 1 => z=.slice A q c
 | 2 => ∃ A2 c2,z=.slice A2 q c2∧OwnC w (w1.heap.size + 1) A2 c2 l
 | 3 => z=.agg #[.int .i64 x.k,.int .i64 x.y,.int .u64 (x.v:Nat)]
 | 4 => ∃ gs,z=.slice (some ⟨gs,0,none⟩) 1 1∧Blk w gs 74 #[.int .i64 x.k,.int .i64 x.y,.int .u64 (x.v:Nat)]∧w1.heap.size + 1≤gs
 | 5 => ∃ A3 c3,z=.slice A3 q1 c3∧OwnC w (w1.heap.size + 1) A3 c3 (l ++ [x])
 | 6 => z=.pointer (some ⟨w1.heap.size,0,none⟩)
 | 7 => ∃ A3 c3,Blk w w1.heap.size 143 #[.slice A3 q1 c3,.bool p]∧OwnC w (w1.heap.size + 1) A3 c3 (l ++ [x])
 | _ => True
def EAd (gw k:Nat) (u u':World):Prop:=match k with
 | 5 => Below (gw + 1) u u'
 | 7 => u.grownBy u' (some gw)
 | _ => Below u.heap.size u u'
theorem EAd.bel {gw k:Nat} {u u':World} (h:EAd gw k u u') (h1:k≠5) (h2:k≠7):Below u.heap.size u u':=by
 unfold EAd at h
 split at h
 ·exact absurd rfl h1
 ·exact absurd rfl h2
 ·exact h
theorem OwnC.bel {u u':World} {B:Nat} {A:Option Addr} {c:Nat} {l:List Ch} (h:OwnC u B A c l) (hb:Below u.heap.size u u'):OwnC u' B A c l:=h.kept (lbelow_grown hb none) (fun r e => by cases e)
theorem OwnC.one {u u':World} {B k:Nat} {A:Option Addr} {c:Nat} {l:List Ch} (h:OwnC u B A c l) (hb:u.grownBy u' (some k)) (hk:k < B):OwnC u' B A c l:=h.kept hb (fun r e => by cases e; exact hk)
theorem VAd.mono {w1:World} {gx q c q1:Nat} {A:Option Addr} {p:Bool} {l:List Ch} {x:Ch} {j k:Nat} {z:Value} {u u':World} (he:EAd w1.heap.size k u u') (hjk:j≠k) (hd:¬ ((j=2∨j=4)∧k=5)) (hw:¬ (j=7∧k=5)) (hd5:¬ (j=5∧k=7)) (h:VAd w1 gx q c q1 A p l x j z u):VAd w1 gx q c q1 A p l x j z u':=by
 unfold VAd at h ⊢
 split at h
 all_goals first | exact h | skip
 ·obtain ⟨A2,c2,e,ho⟩:=h
  by_cases k5:k=5
  ·exact absurd ⟨.inl rfl,k5⟩ hd
  by_cases k7:k=7
  ·subst k7; exact ⟨A2,c2,e,Qu.OwnC.one ho he (by omega)⟩
  ·exact ⟨A2,c2,e,Qu.OwnC.bel ho (he.bel k5 k7)⟩
 ·obtain ⟨gs,e,hk,hle⟩:=h
  by_cases k5:k=5
  ·exact absurd ⟨.inr rfl,k5⟩ hd
  by_cases k7:k=7
  ·subst k7; exact ⟨gs,e,hk.kept he (fun e2 => by injection e2; omega),hle⟩
  ·exact ⟨gs,e,hk.below (he.bel k5 k7) hk.lt,hle⟩
 ·obtain ⟨A3,c3,e,ho⟩:=h
  by_cases k7:k=7
  ·exact absurd ⟨rfl,k7⟩ hd5
  ·exact ⟨A3,c3,e,Qu.OwnC.bel ho (he.bel (fun e => hjk e.symm) k7)⟩
 ·obtain ⟨A3,c3,hk,ho⟩:=h
  by_cases k5:k=5
  ·exact absurd ⟨rfl,k5⟩ hw
  ·have hb:=he.bel k5 (fun e => hjk e.symm)
   exact ⟨A3,c3,hk.below hb hk.lt,Qu.OwnC.bel ho hb⟩
def TAd (w1:World) (q c:Nat) (A:Option Addr) (p:Bool) (j:Nat) (u:World):Prop:=match j with
 | 1 => Blk u w1.heap.size 143 #[.slice A q c,.bool p]
 | 7 => Blk u w1.heap.size 143 #[.slice A q c,.bool p]
 | _ => True
theorem TAd.mono {w1:World} {q c:Nat} {A:Option Addr} {p:Bool} {j k:Nat} {u u':World} (he:EAd w1.heap.size k u u') (hkj:k≠j) (h17:¬ (j=1∧k=7)) (h:TAd w1 q c A p j u):TAd w1 q c A p j u':=by
 unfold TAd at h ⊢
 have aux:k≠7→Blk u w1.heap.size 143 #[.slice A q c,.bool p]→Blk u' w1.heap.size 143 #[.slice A q c,.bool p]:=fun k7 hb => by
  by_cases k5:k=5
  ·subst k5
   have he:Below (w1.heap.size + 1) u u':=he
   exact (he.block _ (by omega)).trans hb
  ·exact hb.below (he.bel k5 k7) hb.lt
 split at h
 ·exact aux (fun e => h17 ⟨rfl,e⟩) h
 ·exact aux hkj h
 ·trivial
theorem step_append_run {P:Program} {w:World} {ops:Array Oper} {o:Oper} {a:Act} {K:Act→World→Prop} {Q:Exit→Act→World→Prop} {E:Prop} (hgd:o.guard=none) (s x:Operand) (t:TypeId)
  (ho:o.op=.call { callee:=.builtin .append,args:=#[s,x],argTypes:=#[t,t] }) (sv xv v:Value) (w':World) (hs:a.eval s=sv) (hx:a.eval x=xv) (hrun:(Builtin.append_ #[t,t] o.type #[sv,xv]).run P w=.ok v w') (h:K (a.put o.dst v) w') :
  if Region.wanted o (yielded ops a.tmps)=true then Oper.wp P o a w K Q else E:=by
 have hw:Region.wanted o (yielded ops a.tmps)=true:=by simp [Region.wanted,hgd]
 rw [if_pos hw]
 unfold Oper.wp execOp
 simp only [ho,resolve,invoke,builtin,Sem.run_bind,Sem.run_pure,Result.andThen_ok,List.map_toArray,List.map_cons,List.map_nil,hs,hx,hrun]
 exact h
def addQ (ws:List WQ) (n:Int) (x:Ch):List WQ:=layQ ws n ((curQ ws n).1 ++ [x]) (curQ ws n).2
set_option maxRecDepth 100000 in
set_option maxHeartbeats 4000000 in
theorem add_any (g of:Nat) (tt:TypeId) (cs:Array Value) (S:QS) (N:Nat) (n:Int) (x:Ch) (w:World) (h:QAt w g of tt cs S N) (hN:N < 300000) (hn:i64ok n) (hB:∀ b,w.heap.size≤b→S.B b) (hiv:QInv { S with ws:=addQ S.ws n x }) :
  Calls Tryz.prog 123 #[.pointer (some ⟨g,of,none⟩),.int .i64 n,.agg #[.int .i64 x.k,.int .i64 x.y,.int .u64 (x.v:Nat)]] w fun e w' => e=.returned (.tuple #[])∧QO w g of tt cs { S with ws:=addQ S.ws n x } (N + 1) w':=by
 obtain ⟨m,A,q,c,h32,hq,hc,r1,_⟩:=h.look hn
 have hlen:(curQ S.ws n).1.length≤N:=by
  unfold curQ lookQ
  rcases hf:findQ S.ws n with _ | y
  ·exact Nat.zero_le _
  ·exact (h.le y (findQ_mem hf).1).1
 obtain ⟨w1,hw1⟩:∃ w1,w1=w.alloc (.cells #[.int .i64 x.k,.int .i64 x.y,.int .u64 (x.v:Nat)] 74):=⟨_,rfl⟩
 have b1:Below w.heap.size w w1:=by rw [hw1]; exact ba _ _
 have k1:Blk w1 w.heap.size 74 #[.int .i64 x.k,.int .i64 x.y,.int .u64 (x.v:Nat)]:=by rw [hw1]; exact Blk.new _ _ _
 have hs1:w1.heap.size=w.heap.size + 1:=by rw [hw1]; simp
 unfold addQ at hiv ⊢
 obtain ⟨cl,hcl⟩:∃ cl,cl=curQ S.ws n:=⟨_,rfl⟩
 rw [← hcl] at hq hc r1 hlen hiv ⊢
 obtain ⟨l,p⟩:=cl
 dsimp only at hq hc r1 hlen hiv ⊢
 have c32:=((h.below b1).bk.cell (of + 2)).trans h32
 have r1':=((h.below b1).look hn)
 have hl1:(Instr.lookup 97 (.map m) (.int .i64 n) false).run Tryz.prog w1=.ok (.agg #[.slice A q c,.bool p]) w1:=by
  obtain ⟨m',G,h4,h5,h6⟩:=h.wk
  have em:m'=m:=by rw [h4] at h32; injection h32 with h32; injection h32
  subst em
  have z1:=h5.look 97 143 Tryz.underlying97 (z:=.agg #[.slice none 0 0,.bool false]) rfl (Tryz.zeroValue143 w) hn
  have z2:=(h5.below b1).look 97 143 Tryz.underlying97 (z:=.agg #[.slice none 0 0,.bool false]) rfl (Tryz.zeroValue143 w1) hn
  rw [z1] at r1
  injection r1 with r1
  rw [z2,r1]
 obtain ⟨w2,hw2⟩:∃ w2,w2=w1.alloc (.cells #[.slice A q c,.bool p] 143):=⟨_,rfl⟩
 have b2:Below w1.heap.size w1 w2:=by rw [hw2]; exact ba _ _
 have k2:Blk w2 w1.heap.size 143 #[.slice A q c,.bool p]:=by rw [hw2]; exact Blk.new _ _ _
 have hs2:w2.heap.size=w1.heap.size + 1:=by rw [hw2]; simp
 obtain ⟨gx,hgx⟩:∃ gx,gx=w.heap.size:=⟨_,rfl⟩
 rw [← hgx] at k1
 have HW1:=Lib.hid hw1
 have HW2:=Lib.hid hw2
 have Hgx:=Lib.hid hgx
 have HcL:=Lib.hid (hc.below b1)
 have HK1:=Lib.hid k1
 have H:=Lib.hid (And.intro h (And.intro b1 (And.intro hn (And.intro hB (And.intro hiv (And.intro hlen hq))))))
 have hqN:q≤300000:=by omega
 have hgl:=h.lt
 have HS:=Lib.hid (And.intro hs1 (And.intro hs2 hgl))
 have hgx1:gx < w1.heap.size:=by omega
 obtain ⟨q1,hq1⟩:∃ q1,q1=q + 1:=⟨_,rfl⟩
 have Hq1:=Lib.hid hq1
 rw [hw1] at c32 hl1
 clear h hw1 hw2 hgx hc b1 r1 hn hB hiv hlen k1 r1' hq h32 hs1 hs2 hgl hcl hq1
 go_enter Tryz.func123,Tryz.ntmps123
 go_wp2_with fail
 rw [← HW1.out,← HW2.out]
 clear c32 hl1
 have es:w.heap.size + 1=w1.heap.size:=HS.out.1.symm
 rw [es,← Hgx.out]
 refine wp_region_invU (F:=?FD) (V:=VAd w1 gx q c q1 A p l x) (dead:=fun j => if j=2∨j=4 then some 5 else if j=5 then some 7 else none) (T:=TAd w1 q c A p) (C:=fun u => Below w1.heap.size w1 u∧w1.heap.size + 1≤u.heap.size) (E:=EAd w1.heap.size) (by kernel_rfl) (by kernel_rfl) (by kernel_rfl) (fun x_1 => ?hFD) ?hmonoD ?hTmD ?hTD ?hCD ?stepD ?finD
 case hFD => simp only [mkA,Act.put,List.setIfInBounds_toArray,List.set_cons_succ,List.set_cons_zero,Nat.reduceAdd,Nat.zero_add]; first | with_reducible rfl | rfl
 case hmonoD => exact fun k' j z u u' he hjk hwt hdd hv => VAd.mono he hjk (fun hh => hdd (by rcases hh with ⟨rfl | rfl,rfl⟩ <;> rfl)) (fun hh => by rcases hh with ⟨rfl,rfl⟩; rw [show waitsU _ 7 5=true by kernel_rfl] at hwt; cases hwt) (fun hh => hdd (by rcases hh with ⟨rfl,rfl⟩; rfl)) hv
 case hTmD => exact fun k' j u u' he hkj hwt hv => TAd.mono he hkj (fun hh => by rcases hh with ⟨rfl,rfl⟩; rw [show waitsU _ 7 1=true by kernel_rfl] at hwt; cases hwt) hv
 case hTD => exact fun j => by unfold TAd; split <;> first | exact k2.below (Below.refl _ _).drew k2.lt | trivial
 case hCD => exact ⟨b2.drew,by show w1.heap.size + 1≤w2.heap.size; have:=HS.out.2.1; omega⟩
 case stepD =>
  refine AllOps.cons (fun x_1 u hC hT hp K hK => ?_) ?_
  ·clear hp hT
   go_simp
   refine hK _ _ _ hC (Below.refl _ _) (by exact rfl) ?_
   first | (simp only [Act.put,List.setIfInBounds_toArray,List.set_cons_succ,List.set_cons_zero]; done) | simp [Act.put]
  refine AllOps.cons (fun x_1 u hC hT hp K hK => ?_) ?_
  ·simp [KnownTill,Region.binds,VAd] at hp
   have cc:=(show Blk u w1.heap.size 143 #[.slice A q c,.bool p] from hT).cell 0
   simp only [List.getElem?_toArray,List.getElem?_cons_zero,List.getElem?_cons_succ] at cc
   clear hT
   go_simp
   refine hK _ _ _ hC (Below.refl _ _) (by exact rfl) ?_
   first | (simp only [Act.put,List.setIfInBounds_toArray,List.set_cons_succ,List.set_cons_zero,hp]; done) | simp [Act.put,hp]
  refine AllOps.cons (fun x_1 u hC hT hp K hK => ?_) ?_
  ·simp [KnownTill,Region.binds,VAd] at hp
   clear hT
   go_simp
   refine (cclone_any A l q c u (Lib.hid H.out.2.2.2.2.2.2) (Lib.hid (by omega)) (HcL.out.below (show Below w1.heap.size w1 u from hC.1))).mono ?_
   rintro e wA ⟨A2,c2,rfl,own2,bA⟩
   refine hK _ _ _ ⟨bt hC.1 bA,Nat.le_trans hC.2 bA.size⟩ bA ⟨A2,c2,rfl,own2.less hC.2⟩ ?_
   first | (simp only [Act.put,List.setIfInBounds_toArray,List.set_cons_succ,List.set_cons_zero,hp]; done) | simp [Act.put,hp]
  refine AllOps.cons (fun x_1 u hC hT hp K hK => ?_) ?_
  ·clear hp hT
   have kx:=HK1.out.below (show Below w1.heap.size w1 u from hC.1) HK1.out.lt
   have q0:=kx.cell 0
   have q1':=kx.cell 1
   have q2:=kx.cell 2
   simp only [List.getElem?_toArray,List.getElem?_cons_zero,List.getElem?_cons_succ] at q0 q1' q2
   go_simp
   refine hK _ _ _ hC (Below.refl _ _) (by exact rfl) ?_
   first | (simp only [Act.put,List.setIfInBounds_toArray,List.set_cons_succ,List.set_cons_zero]; done) | simp [Act.put]
  refine AllOps.cons (fun x_1 u hC hT hp K hK => ?_) ?_
  ·simp [KnownTill,Region.binds,VAd] at hp
   clear hT
   have kn:=Blk.new u 74 #[.int .i64 x.k,.int .i64 x.y,.int .u64 (x.v:Nat)]
   go_simp
   refine hK (.slice (some ⟨u.heap.size,0,none⟩) 1 1) _ _ ⟨bt hC.1 (ba _ _),by have:=hC.2; simp; omega⟩ (ba _ _) ⟨u.heap.size,rfl,kn,hC.2⟩ ?_
   first | (simp only [Act.put,List.setIfInBounds_toArray,List.set_cons_succ,List.set_cons_zero,hp]; done) | simp [Act.put,hp]
  refine AllOps.cons (fun x_1 u hC hT hp K hK => ?_) ?_
  ·simp [KnownTill,Region.binds,VAd] at hp
   clear hT
   obtain ⟨A2,c2,h2,own2⟩:∃ A2 c2,x_1 2=.slice A2 q c2∧OwnC u (w1.heap.size + 1) A2 c2 l:=by first | exact hp.1 | exact hp.2 | exact hp.2.1
   obtain ⟨gs,h4,hgs,hgl⟩:∃ gs,x_1 4=.slice (some ⟨gs,0,none⟩) 1 1∧Blk u gs 74 #[.int .i64 x.k,.int .i64 x.y,.int .u64 (x.v:Nat)]∧w1.heap.size + 1≤gs:=by first | exact hp.2 | exact hp.2.1 | exact hp.1
   obtain ⟨A3,c3,w8,hrun,own8,g8,hat8⟩:=ch_app own2 (some ⟨gs,0,none⟩) 1 [x] q 1 H.out.2.2.2.2.2.2 rfl (fun b o e i hi => by cases e; have hi0:i=0:=(by simpa using hi); subst hi0; exact ⟨hgs.cell 0,hgs.cell 1,hgs.cell 2⟩) (fun _ => ⟨_,_,rfl⟩) (by have:=own2.cap; have:=H.out.2.2.2.2.2.2; omega) (by have:=H.out.2.2.2.2.2.2; simp; omega) hC.2
   rw [← Hq1.out] at hrun
   have b8:Below (w1.heap.size + 1) u w8:=⟨g8.os,g8.tape,g8.output,g8.size,fun k hk => g8.block k (by have:=hC.2; omega) (fun e => by have:=(own2.lt' _ e.symm).1; omega)⟩
   refine step_append_run rfl (.tmp 15) (.tmp 17) 40 rfl (.slice A2 q c2) (.slice (some ⟨gs,0,none⟩) 1 1) _ w8 (by show x_1 2=_; exact h2) (by show x_1 4=_; exact h4) hrun ?_
   refine hK _ _ _ ⟨⟨g8.os.trans hC.1.os,g8.tape.trans hC.1.tape,g8.output.trans hC.1.output,Nat.le_trans hC.1.size g8.size,fun k hk => (b8.block k (by omega)).trans (hC.1.block k hk)⟩,Nat.le_trans hC.2 g8.size⟩ b8 ⟨A3,c3,rfl,own8⟩ rfl
  refine AllOps.cons (fun x_1 u hC hT hp K hK => ?_) ?_
  ·clear hp hT
   go_simp
   refine hK _ _ _ hC (Below.refl _ _) (by exact rfl) ?_
   first | (simp only [Act.put,List.setIfInBounds_toArray,List.set_cons_succ,List.set_cons_zero]; done) | simp [Act.put]
  refine AllOps.cons (fun x_1 u hC hT hp K hK => ?_) ?_
  ·simp [KnownTill,Region.binds,VAd] at hp
   obtain ⟨A3,c3,h5,own3⟩:∃ A3 c3,x_1 5=.slice A3 q1 c3∧OwnC u (w1.heap.size + 1) A3 c3 (l ++ [x]):=by first | exact hp.1 | exact hp.2 | exact hp.2.1 | exact hp.2.2.1
   have h6:x_1 6=.pointer (some ⟨w1.heap.size,0,none⟩):=by first | exact hp.2 | exact hp.1 | exact hp.2.1 | exact hp.2.2 | exact hp.2.2.1
   have kw:Blk u w1.heap.size 143 #[.slice A q c,.bool p]:=hT
   have cc:=kw.cell 0
   have ff:=kw.frozen 0
   simp only [List.getElem?_toArray,List.getElem?_cons_zero,List.getElem?_cons_succ] at cc
   have kF:Blk (u.setCell ⟨w1.heap.size,0,none⟩ (.slice A3 q1 c3)) w1.heap.size 143 #[.slice A3 q1 c3,.bool p]:=by simpa using kw.set_ 0 (.slice A3 q1 c3)
   have gF:=lgrown_set u ⟨w1.heap.size,0,none⟩ (.slice A3 q1 c3)
   have oF:=Qu.OwnC.one own3 gF (by dsimp only; omega)
   clear kw hT
   go_simp
   refine hK undef _ _ ⟨hC.1.setCell (p:=⟨w1.heap.size,0,none⟩) (Nat.le_refl _) _,by rw [World.size_setCell]; exact hC.2⟩ gF ⟨A3,c3,kF,oF⟩ ?_
   first | (simp only [Act.put,List.setIfInBounds_toArray,List.set_cons_succ,List.set_cons_zero,hp,h5,h6]; done) | simp [Act.put,hp,h5,h6]
  exact AllOps.nil
 case finD =>
  intro x_1 u hC hV
  obtain ⟨A3,c3,kF,oF⟩:=hV 7 (by decide) rfl
  have e0:=kF.cell 0
  have e1:=kF.cell 1
  simp only [List.getElem?_toArray,List.getElem?_cons_zero,List.getElem?_cons_succ] at e0 e1
  have hu:Below w1.heap.size w1 u:=hC.1
  have hbu:Below w.heap.size w u:=bt H.out.2.1 hu
  have hcu:ChAt u S.B A3 (l ++ [x]):=oF.at_.mono fun b hb _ => H.out.2.2.2.1 b (by have:=H.out.2.1.size; have hb:w1.heap.size + 1≤b:=hb; omega)
  have HL:=Lib.hid (lay_any g of tt cs S N n A3 (l ++ [x]) q1 c3 p u (H.out.1.below hbu) (by omega) H.out.2.2.1 (by rw [Hq1.out,H.out.2.2.2.2.2.2]; simp) (by have:=H.out.2.2.2.2.2.1; simp; exact this) hcu H.out.2.2.2.2.1)
  have HB:=Lib.hid hbu
  clear hV hC kF oF hu hbu hcu k2 b2
  go_wp2_with fail
  refine HL.out.mono ?_
  rintro e w9 ⟨rfl,⟨⟨cs',hk,hkp⟩,hg⟩⟩
  have HF:Hid (QO w g of tt cs { S with ws:=layQ S.ws n (l ++ [x]) p } (N + 1) w9):=Lib.hid ⟨⟨cs',hk,hkp⟩,(lbelow_grown HB.out (some g)).trans hg⟩
  clear hk hkp hg e0 e1
  go_wp2
  go_end0
  exact ⟨rfl,HF.out⟩
end Go.Proofs.YtlliaihmfimdoaaGreat.Qu


namespace Go.Proofs.YtlliaihmfimdoaaGreat.Qu
open Go.RowKit Go.Shelf Go.Maps
attribute [local go_sem] Oper.semAt_some
def frontR (L:List IT) (n:Int):Nat × Int:=match (ixs L).find? (fun x => decide (x.2.t≠n)) with
 | none => (0,140)
 | some x => if x.2.t=0 then (x.1,0) else (0,120)
theorem ixs_get (L:List IT) (i:Nat) (h:i < L.length):∃ hh:i < (ixs L).length,(ixs L)[i]'hh=(i,L[i]'h):=by
 have:=ixsF_at L 0 i h
 rw [Nat.zero_add] at this
 obtain ⟨hh,e⟩:=List.getElem?_eq_some_iff.1 this
 exact ⟨hh,e⟩
theorem front_at {L:List IT} {n:Int} {i:Nat} (h:i < L.length) (hall:∀ x ∈ (ixs L).take i,x.2.t=n) (hne:(L[i]'h).t≠n):frontR L n=if (L[i]'h).t=0 then (i,0) else (0,120):=by
 obtain ⟨hh,e⟩:=ixs_get L i h
 have:(ixs L).find? (fun x => decide (x.2.t≠n))=some (i,L[i]'h):=by
  rw [List.find?_eq_some_iff_getElem]
  refine ⟨by simpa using hne,i,hh,e,fun j hj => ?_⟩
  have:=hall ((ixs L)[j]'(by omega)) (by
   rw [List.mem_take_iff_getElem]
   exact ⟨j,by omega,rfl⟩)
  simpa using this
 unfold frontR
 rw [this]
theorem front_none {L:List IT} {n:Int} (hall:∀ x ∈ ixs L,x.2.t=n):frontR L n=(0,140):=by
 have:(ixs L).find? (fun x => decide (x.2.t≠n))=none:=by
  rw [List.find?_eq_none]
  intro x hx
  simpa using hall x hx
 unfold frontR
 rw [this]
structure FI (w:World) (n:Int) (k e:Int) (W:World):Prop where
 be:Below w.heap.size w W
 sz:w.heap.size + 3≤W.heap.size
 kn:Blk W w.heap.size 3 #[.int .i64 n]
 kp:Blk W (w.heap.size + 1) 3 #[.int .i64 k]
 ke:Blk W (w.heap.size + 2) 45 #[.int .i64 e]
theorem FI.bel {w W W':World} {n k e:Int} (h:FI w n k e W) (hb:Below W.heap.size W W'):FI w n k e W' :=
 ⟨bt h.be hb,Nat.le_trans h.sz hb.size,h.kn.below hb h.kn.lt,h.kp.below hb h.kp.lt,h.ke.below hb h.ke.lt⟩
theorem blk_put {W:World} {b l:Nat} {t:TypeId} {cs:Array Value} {o o':Obj} (h:Blk W b t cs) (ho:W.heap[l]?=some o) (hc:o.isCells=false):Blk (W.putObj l o') b t cs :=
 (World.putObj_heap_other (fun e => by subst e; unfold Blk at h; rw [h] at ho; cases ho; cases hc)).trans h
theorem FI.put {w W:World} {n k e:Int} {l:Nat} {o o':Obj} (h:FI w n k e W) (hl:w.heap.size≤l) (ho:W.heap[l]?=some o) (hc:o.isCells=false):FI w n k e (W.putObj l o') :=
 ⟨h.be.grown (grownBy_putObj' W l o') h.be.size (fun r e => by cases e; exact hl),by rw [World.putObj_size]; exact h.sz,blk_put h.kn ho hc,blk_put h.kp ho hc,blk_put h.ke ho hc⟩
set_option maxRecDepth 100000 in
set_option maxHeartbeats 4000000 in
theorem front_any (g of:Nat) (tt:TypeId) (cs:Array Value) (S:QS) (N:Nat) (n:Int) (w:World) (h:QAt w g of tt cs S N) :
  Calls Tryz.prog 126 #[.pointer (some ⟨g,of,none⟩),.int .i64 n] w fun e w' => e=.returned (.tuple #[.int .i64 ((frontR S.I n).1:Nat),.int .i64 (frontR S.I n).2])∧Below w.heap.size w w':=by
 obtain ⟨A0,n0,c0,i1,i2,i3,i4,i5⟩:=h.it
 have hn16:n0≤48:=by have:=h.iv.room; omega
 have HC0:=Lib.hid (fun u (hb:Below w.heap.size w u) => ((h.below hb).bk.cell of).trans i1)
 have HI:=Lib.hid (fun u (hb:Below w.heap.size w u) => i5.below hb)
 have HL:=Lib.hid i2
 obtain ⟨L,hL⟩:∃ L,L=S.I:=⟨_,rfl⟩
 rw [← hL] at HI HL ⊢
 clear h i1 i2 i5 hL
 refine (callsIn_wide (n:=9)).1 ?_
 refine callsIn_of_wp_marks Tryz.func126 rfl trivial ?_ rfl
 simp only [Tryz.ntmps126,List.size_toArray,List.length_cons,List.length_nil,Nat.reduceAdd,Nat.reduceSub,Array.replicate_succ,Array.replicate_zero,List.push_toArray,List.append_toArray,List.nil_append,List.cons_append]
 gi_wp2_with fail
 refine wpIn_scope_straight ?_
 gi_wp2_with fail
 refine wpIn_label ?_
 gi_wp2_with fail
 obtain ⟨w5,hw5⟩:∃ w5,w5=((w.alloc (.cells #[.int .i64 n] 3)).alloc (.cells #[.int .i64 0] 3)).alloc (.cells #[.int .i64 140] 45):=⟨_,rfl⟩
 have h5:FI w n 0 140 w5:=by
  have s1:(w.alloc (.cells #[.int .i64 n] 3)).heap.size=w.heap.size + 1:=by simp
  have s2:((w.alloc (.cells #[.int .i64 n] 3)).alloc (.cells #[.int .i64 0] 3)).heap.size=w.heap.size + 2:=by simp
  have k0:Blk (w.alloc (.cells #[.int .i64 n] 3)) w.heap.size 3 #[.int .i64 n]:=Blk.new _ _ _
  have k1:Blk ((w.alloc (.cells #[.int .i64 n] 3)).alloc (.cells #[.int .i64 0] 3)) (w.heap.size + 1) 3 #[.int .i64 0]:=by rw [← s1]; exact Blk.new _ _ _
  have k2:Blk w5 (w.heap.size + 2) 45 #[.int .i64 140]:=by rw [hw5,← s2]; exact Blk.new _ _ _
  rw [hw5] at k2 ⊢
  exact ⟨bt (bt (ba _ _) (ba _ _)) (ba _ _),by simp,(k0.alloc _).alloc _,k1.alloc _,k2⟩
 have hs5:w.heap.size≤w5.heap.size:=h5.be.size
 have e5:((w.alloc (.cells #[.int .i64 n] 3)).alloc (.cells #[.int .i64 0] 3)).alloc (.cells #[.int .i64 140] 45)=w5:=hw5.symm
 rw [e5]
 clear hw5 e5
 refine wpIn_rangeFunc_leaveM (F:=Fence.wide) rfl (by omega) (gf:=96) (rb:=#[.pointer (some ⟨g,of,none⟩)]) (lb:=#[]) rfl trivial (enters_of Tryz.func96 (by kernel_rfl) rfl)
  (encs:=encI) (fun _ => rfl) (fun _ _ => True) (fun pre W => FI w n 0 140 W∧∀ x ∈ pre,x.2.t=n)
  (fun cd xs W => cd=.exit 0∧∃ pre x,xs=pre ++ [x]∧(∀ y ∈ pre,y.2.t=n)∧x.2.t≠n∧((x.2.t=0∧FI w n (x.1:Nat) 0 W)∨(x.2.t≠0∧FI w n 0 120 W)))
  (fun pre x _ => True) (fun xs => xs=ixs L) (fun xs => ∃ i,i < L.length∧xs=(ixs L).take (i + 1)) 49
  (fun _ _ => trivial) (fun _ _ _ _ _ _ _ => trivial)
  (fun s W l o o' hi hl ho hc => ⟨hi.1.put (Nat.le_trans hs5 hl) ho hc,hi.2⟩)
  (fun cd s W l o o' hi hl ho hc => by
   obtain ⟨h1,pre,x,h2,h3,h4,h5⟩:=hi
   exact ⟨h1,pre,x,h2,h3,h4,h5.imp (fun h => ⟨h.1,h.2.put (Nat.le_trans hs5 hl) ho hc⟩) (fun h => ⟨h.1,h.2.put (Nat.le_trans hs5 hl) ho hc⟩)⟩)
  (fun o o' => ⟨(h5.bel (ba _ _)).bel (ba _ _),fun x hx => nomatch hx⟩)
  ?iter (fun pre x a' W => ∃ t9,Blk W t9 152 #[.int .i64 x.2.n,.int .u64 (x.2.v:Nat),.int .i64 x.2.t]∧a'={ tmps:=#[.pointer (some ⟨g,of,none⟩),.int .i64 n,undef,.pointer (some ⟨w.heap.size,0,none⟩),.int .i64 0,.int .i64 0,.pointer (some ⟨w.heap.size + 1,0,none⟩),.pointer (some ⟨w.heap.size + 2,0,none⟩),.int .i64 x.1,.pointer (some ⟨t9,0,none⟩),.pointer (some ⟨g,of,none⟩),.func (.func 96) #[.pointer (some ⟨g,of,none⟩)] #[],.int .i64 x.1,.agg #[.int .i64 x.2.n,.int .u64 (x.2.v:Nat),.int .i64 x.2.t],undef,undef,undef,undef,undef,undef,undef,undef,undef,undef],defers:=[] })
  (fun pre x a' W l o o' h hl ho hc => by
   obtain ⟨t9,h1,h3⟩:=h
   exact ⟨t9,blk_put h1 ho hc,h3⟩) ?assign ?body ?done ?stop
 case iter =>
  intro l W1 Z Y hZK hb1 hI1 hz1 hYY
  refine (each_in 8 (by omega) l g of A0 L n0 c0 HL (by omega) (fun i W => (FI w n 0 140 W∧∀ x ∈ (ixs L).take i,x.2.t=n)∧Z W∧i≤L.length) (fun i W => Y ((ixs L).take (i + 1)) W)
   (fun s Wa Wb hb hh => ⟨⟨hh.1.1.bel hb,hh.1.2⟩,hZK _ _ (keepsOthers_below hb) hh.2.1,hh.2.2⟩) (fun s Wa hh => HI.out Wa hh.1.1.be) ?_ W1 (HC0.out W1 hI1.1.be) ⟨hI1,hz1,Nat.zero_le _⟩).mono ?_
  ·intro i hi Wa hh
   have:=hYY ((ixs L).take i) (i,L[i]'hi) Wa hh.1 hh.2.1 trivial (by rw [ixs_tlen L i (by omega)]; have:=HL.out; omega)
   rw [← ixs_take L i hi] at this
   refine YieldAt.mono this fun e W' hr => ?_
   rcases hr with ⟨h1,h2,h3,_⟩ | hr
   ·exact .inl ⟨h1,h2,h3,by omega⟩
   ·exact .inr hr
  ·rintro e W' ⟨hv,(⟨h1,h2,_⟩ | ⟨i,hi,hy⟩)⟩
   ·exact ⟨hv,.inl ⟨ixs L,rfl,by rw [List.take_of_length_le (by unfold ixs; rw [ixsF_len]; exact Nat.le_refl _)] at h1; exact h1,h2⟩⟩
   ·exact ⟨hv,.inr ⟨_,⟨i,hi,rfl⟩,hy⟩⟩
 case assign =>
  rintro l pre x W K hi _ hK
  obtain ⟨xi,xn,xv,xt⟩:=x
  simp [encI,IT.val]
  gi_wp2_with fail
  exact hK _ _ (KeepsOthers.alloc _ _) trivial ⟨hi.1.bel (ba _ _),hi.2⟩ ⟨_,Blk.new _ _ _,rfl⟩
 case body =>
  rintro l pre x a' W hl _ hi ⟨t9,h1,rfl⟩ hlen
  obtain ⟨xi,xn,xv,xt⟩:=x
  dsimp only at h1
  have d0:=hi.1.kn.cell 0
  have d2:=h1.cell 2
  have p1:=hi.1.kp.cell 0
  have p2:=hi.1.ke.cell 0
  have f1:=hi.1.kp.frozen 0
  have f2:=hi.1.ke.frozen 0
  simp only [List.getElem?_toArray,List.getElem?_cons_zero,List.getElem?_cons_succ] at d0 d2 p1 p2
  have HF:=Lib.hid hi
  clear h1
  by_cases hx:xt=n
  ·subst hx
   have HN:Hid (∀ y ∈ pre ++ [(xi,(⟨xn,xv,xt⟩:IT))],y.2.t=xt):=Lib.hid (fun y hy => by
    rcases List.mem_append.1 hy with hy | hy
    ·exact hi.2 y hy
    ·obtain rfl:=List.mem_singleton.1 hy; rfl)
   clear hi
   gi_wp2_with fail
   exact ⟨KeepsOthers.refl _,trivial,HF.out.1,HN.out⟩
  ·have hxb:(xt == n)=false:=by simp [hx]
   by_cases h0:xt=0
   ·subst h0
    have hF2:Hid (FI w n (xi:Nat) 0 ((W.setCell ⟨w.heap.size + 1,0,none⟩ (.int .i64 (xi:Nat))).setCell ⟨w.heap.size + 2,0,none⟩ (.int .i64 0))∧KeepsOthers W ((W.setCell ⟨w.heap.size + 1,0,none⟩ (.int .i64 (xi:Nat))).setCell ⟨w.heap.size + 2,0,none⟩ (.int .i64 0))):=Lib.hid (by
     have k1:Blk (W.setCell ⟨w.heap.size + 1,0,none⟩ (.int .i64 (xi:Nat))) (w.heap.size + 1) 3 #[.int .i64 (xi:Nat)]:=by simpa using hi.1.kp.set_ 0 (.int .i64 (xi:Nat))
     have k2:=hi.1.ke.kept (lgrown_set W ⟨w.heap.size + 1,0,none⟩ (.int .i64 (xi:Nat))) (fun e => by injection e with e; dsimp only at e; omega)
     have k3:Blk ((W.setCell ⟨w.heap.size + 1,0,none⟩ (.int .i64 (xi:Nat))).setCell ⟨w.heap.size + 2,0,none⟩ (.int .i64 0)) (w.heap.size + 2) 45 #[.int .i64 0]:=by simpa using k2.set_ 0 (.int .i64 0)
     have g2:=lgrown_set (W.setCell ⟨w.heap.size + 1,0,none⟩ (.int .i64 (xi:Nat))) ⟨w.heap.size + 2,0,none⟩ (.int .i64 0)
     refine ⟨⟨(hi.1.be.setCell (p:=⟨w.heap.size + 1,0,none⟩) (by dsimp only; omega) _).setCell (p:=⟨w.heap.size + 2,0,none⟩) (by dsimp only; omega) _,by rw [World.size_setCell,World.size_setCell]; exact hi.1.sz,(hi.1.kn.kept (lgrown_set W ⟨w.heap.size + 1,0,none⟩ (.int .i64 (xi:Nat))) (fun e => by injection e with e; dsimp only at e; omega)).kept g2 (fun e => by injection e with e; dsimp only at e; omega),k1.kept g2 (fun e => by injection e with e; dsimp only at e; omega),k3⟩,(KeepsOthers.setCell _ _ _).trans (KeepsOthers.setCell _ _ _)⟩)
    have hpre:=Lib.hid hi.2
    have q2:(W.setCell ⟨w.heap.size + 1,0,none⟩ (.int .i64 (xi:Nat))).frozen? ⟨w.heap.size + 2,0,none⟩=false:=(hi.1.ke.kept (lgrown_set W ⟨w.heap.size + 1,0,none⟩ (.int .i64 (xi:Nat))) (fun e => by injection e with e; dsimp only at e; omega)).frozen 0
    have q3:=(hi.1.ke.kept (lgrown_set W ⟨w.heap.size + 1,0,none⟩ (.int .i64 (xi:Nat))) (fun e => by injection e with e; dsimp only at e; omega)).cell 0
    simp only [List.getElem?_toArray,List.getElem?_cons_zero] at q3
    clear hi
    gi_wp2_with fail
    exact ⟨hF2.out.2,rfl,pre,_,rfl,hpre.out,hx,.inl ⟨rfl,hF2.out.1⟩⟩
   ·have h0b:(xt == 0)=false:=by simp [h0]
    have hF2:Hid (FI w n 0 120 (W.setCell ⟨w.heap.size + 2,0,none⟩ (.int .i64 120))∧KeepsOthers W (W.setCell ⟨w.heap.size + 2,0,none⟩ (.int .i64 120))):=Lib.hid (by
     have g2:=lgrown_set W ⟨w.heap.size + 2,0,none⟩ (.int .i64 120)
     have k3:Blk (W.setCell ⟨w.heap.size + 2,0,none⟩ (.int .i64 120)) (w.heap.size + 2) 45 #[.int .i64 120]:=by simpa using hi.1.ke.set_ 0 (.int .i64 120)
     exact ⟨⟨hi.1.be.setCell (p:=⟨w.heap.size + 2,0,none⟩) (by dsimp only; omega) _,by rw [World.size_setCell]; exact hi.1.sz,hi.1.kn.kept g2 (fun e => by injection e with e; dsimp only at e; omega),hi.1.kp.kept g2 (fun e => by injection e with e; dsimp only at e; omega),k3⟩,KeepsOthers.setCell _ _ _⟩)
    have hpre:=Lib.hid hi.2
    clear hi
    gi_wp2_with fail
    exact ⟨hF2.out.2,rfl,pre,_,rfl,hpre.out,hx,.inr ⟨h0,hF2.out.1⟩⟩
 case done =>
  rintro D xs W hD rfl hi hDd
  have hfr:Hid (frontR L n=(0,140)):=Lib.hid (front_none hi.2)
  have p1:=fun m:Nat => (show (W.drewN m).cell? ⟨w.heap.size + 1,0,none⟩=some (.int .i64 0) from hi.1.kp.cell 0)
  have p2:=fun m:Nat => (show (W.drewN m).cell? ⟨w.heap.size + 2,0,none⟩=some (.int .i64 140) from hi.1.ke.cell 0)
  have hb:=Lib.hid hi.1.be
  clear hi
  gi_wp2_with fail
  refine (wpIn_wide).2 ?_
  go_quiet (fail)
  gi_wp2_with fail
  refine leaves_marks [D] (W.drewN nq) ((MarksAt.nil (W.drewN nq) w.heap.size).cons (by omega) hDd (fun E hE => by cases hE)) ⟨_,results_tmp2 rfl _ _ _,?_⟩
  have hlo:∀ E ∈ [D],w.heap.size≤E:=fun E hE => by rw [List.mem_singleton.1 hE]; omega
  refine ⟨by rw [hfr.out]; rfl,(bt hb.out ⟨rfl,rfl,rfl,Nat.le_refl _,fun _ _ => rfl⟩:Below w.heap.size w (W.drewN nq)).trans (taken_below hlo)⟩
 case stop =>
  rintro D cd xs W hD ⟨i,hi,rfl⟩ ⟨rfl,pre,x,hxs,hpre,hxn,hFI⟩ hDd
  rw [ixs_take L i hi] at hxs
  obtain ⟨rfl,hx⟩:=List.append_inj' hxs rfl
  obtain rfl:(i,L[i]'hi)=x:=by simpa using hx
  dsimp only at hxn hFI
  have hfr:=front_at hi hpre hxn
  obtain ⟨k,er,hke,hF⟩:∃ (k:Nat) (er:Int),frontR L n=(k,er)∧FI w n (k:Nat) er W:=by
   rcases hFI with ⟨h0,hF⟩ | ⟨h0,hF⟩
   ·rw [if_pos h0] at hfr; exact ⟨i,0,hfr,hF⟩
   ·rw [if_neg h0] at hfr; exact ⟨0,120,hfr,hF⟩
  have Hfr:=Lib.hid hke
  have p1:=fun m:Nat => (show (W.drewN m).cell? ⟨w.heap.size + 1,0,none⟩=some (.int .i64 (k:Nat)) from hF.kp.cell 0)
  have p2:=fun m:Nat => (show (W.drewN m).cell? ⟨w.heap.size + 2,0,none⟩=some (.int .i64 er) from hF.ke.cell 0)
  have hb:=Lib.hid hF.be
  clear hF hFI hfr hxn hpre hxs hx hke
  refine wpIn_exit ?_
  gi_wp2_with fail
  refine (wpIn_wide).2 ?_
  go_quiet (fail)
  gi_wp2_with fail
  refine leaves_marks [D] (W.drewN nq) ((MarksAt.nil (W.drewN nq) w.heap.size).cons (by omega) hDd (fun E hE => by cases hE)) ⟨_,results_tmp2 rfl _ _ _,?_⟩
  have hlo:∀ E ∈ [D],w.heap.size≤E:=fun E hE => by rw [List.mem_singleton.1 hE]; omega
  refine ⟨by rw [Hfr.out]; rfl,(bt hb.out ⟨rfl,rfl,rfl,Nat.le_refl _,fun _ _ => rfl⟩:Below w.heap.size w (W.drewN nq)).trans (taken_below hlo)⟩
end Go.Proofs.YtlliaihmfimdoaaGreat.Qu


namespace Go.Proofs.YtlliaihmfimdoaaGreat.Qu
open Go.RowKit Go.Shelf Go.Maps
attribute [local go_sem] Oper.semAt_some
theorem giveI_app:∀ (a:List IT) (x:IT) (b:List IT) (n:Int),giveI (a ++ x :: b) a.length n=a ++ { x with t:=n } :: b
 | [],_,_,_ => rfl
 | y :: a,x,b,n => by
  have:=giveI_app a x b n
  unfold giveI at this ⊢
  simp only [List.cons_append,List.length_cons,List.modify_succ_cons,this]
def freeI (n:Int) (x:IT):IT:=if x.t=n then { x with t:=0 } else x
def backI (L:List IT) (n:Int) (i:Nat):List IT:=(L.take i).map (freeI n) ++ L.drop i
theorem backI_len (L:List IT) (n:Int) (i:Nat):(backI L n i).length=L.length:=by
 unfold backI; rw [List.length_append,List.length_map,List.length_take,List.length_drop]; omega
theorem backI_step (L:List IT) (n:Int) (i:Nat) (h:i < L.length):backI L n (i + 1)=if (L[i]'h).t=n then giveI (backI L n i) i 0 else backI L n i:=by
 have e1:L.drop i=L[i]'h :: L.drop (i + 1):=List.drop_eq_getElem_cons h
 have e2:L.take (i + 1)=L.take i ++ [L[i]'h]:=by rw [List.take_add_one,List.getElem?_eq_getElem h]; rfl
 have hl:((L.take i).map (freeI n)).length=i:=by rw [List.length_map,List.length_take]; omega
 have e3:backI L n i=(L.take i).map (freeI n) ++ L[i]'h :: L.drop (i + 1):=by unfold backI; rw [e1]
 have e4:backI L n (i + 1)=(L.take i).map (freeI n) ++ freeI n (L[i]'h) :: L.drop (i + 1):=by unfold backI; rw [e2,List.map_append,List.append_assoc]; rfl
 rw [e3,e4]
 unfold freeI
 split
 ·rename_i ht
  have:=giveI_app ((L.take i).map (freeI n)) (L[i]'h) (L.drop (i + 1)) 0
  rw [hl] at this
  exact this.symm
 ·rfl
theorem backI_all (L:List IT) (n:Int):backI L n L.length=L.map (freeI n):=by unfold backI; simp
structure BO (w W:World) (g of:Nat) (tt:TypeId) (cs:Array Value) (S:QS) (N:Nat) (n:Int) (i:Nat):Prop where
 qo:∃ v,QAt W g of tt (cs.setIfInBounds of v) { S with I:=backI S.I n i } N
 gr:w.grownBy W (some g)
 sz:w.heap.size + 2≤W.heap.size
 kq:Blk W w.heap.size 141 #[.pointer (some ⟨g,of,none⟩)]
 kn:Blk W (w.heap.size + 1) 3 #[.int .i64 n]
theorem BO.bel {w W W':World} {g of:Nat} {tt:TypeId} {cs:Array Value} {S:QS} {N:Nat} {n:Int} {i:Nat} (h:BO w W g of tt cs S N n i) (hb:Below W.heap.size W W'):BO w W' g of tt cs S N n i :=
 ⟨h.qo.elim fun c hq => ⟨c,hq.below hb⟩,h.gr.trans (lbelow_grown hb _),Nat.le_trans h.sz hb.size,h.kq.below hb h.kq.lt,h.kn.below hb h.kn.lt⟩
theorem QAt.put {W:World} {g of N:Nat} {tt:TypeId} {cs:Array Value} {S:QS} {l:Nat} {o o':Obj} (h:QAt W g of tt cs S N) (ho:W.heap[l]?=some o) (hc:o.isCells=false) (hm:∀ b,cs[of + 2]?=some (.map (some b))→b≠l):QAt (W.putObj l o') g of tt cs S N:=by
 have hb:∀ (k:Nat) (cs:Array Value) (t:TypeId) (fz:Nat × Nat),W.heap[k]?=some (.cells cs t fz)→(W.putObj l o').heap[k]?=W.heap[k]?:=fun k cs t fz e => World.putObj_heap_other (fun e2 => by subst e2; rw [e] at ho; cases ho; cases hc)
 obtain ⟨h1,h2,⟨A,n,c,a1,a2,a3,a4,a5⟩,h3,⟨m,G,h4,h5,h6⟩,h7,h8,h9⟩:=h
 refine ⟨blk_put h1 ho hc,h2,⟨A,n,c,a1,a2,a3,a4,a5.same fun b cs' fz e => hb b cs' _ fz e⟩,h3,⟨m,G,h4,?_,h6.same fun A l hc' => hc'.same fun b cs' fz e => hb b cs' _ fz e⟩,h7,h8,h9⟩
 rcases h5 with h5 | ⟨b,D,e,⟨es,cl,hbk,hr⟩,h'⟩
 ·exact .inl h5
 ·subst e
  exact .inr ⟨b,D,rfl,⟨es,cl,(World.putObj_heap_other (hm b h4)).trans hbk,hr⟩,h'⟩
theorem QAt.mapLt {w:World} {g of N:Nat} {tt:TypeId} {cs:Array Value} {S:QS} (h:QAt w g of tt cs S N):∀ b,cs[of + 2]?=some (.map (some b))→b < w.heap.size:=fun b e => by
 obtain ⟨m,G,h4,h5,h6⟩:=h.wk
 rw [h4] at e
 injection e with e
 injection e with e
 subst e
 rcases h5 with ⟨h5,_⟩ | ⟨b',D,e,ho,_⟩
 ·cases h5
 ·cases e; exact ho.lt
theorem QAt.mapObj {w:World} {g of N:Nat} {tt:TypeId} {cs:Array Value} {S:QS} (h:QAt w g of tt cs S N):∀ b,cs[of + 2]?=some (.map (some b))→∃ es cl,w.heap[b]?=some (.map es cl):=fun b e => by
 obtain ⟨m,G,h4,h5,h6⟩:=h.wk
 rw [h4] at e
 injection e with e
 injection e with e
 subst e
 rcases h5 with ⟨h5,_⟩ | ⟨b',D,e,⟨es,cl,hb,_⟩,_⟩
 ·cases h5
 ·cases e; exact ⟨es,cl,hb⟩
theorem QAt.marked {W:World} {g of N D:Nat} {tt:TypeId} {cs:Array Value} {S:QS} {x:Option (List Deferred)} (h:QAt W g of tt cs S N) (hD:W.heap[D]?=some (.deferred x)) (o':Obj):QAt (W.putObj D o') g of tt cs S N :=
 h.put hD rfl (fun b e e2 => by obtain ⟨es,cl,hb⟩:=h.mapObj b e; subst e2; rw [hD] at hb; cases hb)
theorem set_get {cs:Array Value} {i j:Nat} {v:Value} (h:i≠j):(cs.setIfInBounds i v)[j]?=cs[j]?:=Array.getElem?_setIfInBounds_ne h
theorem BO.put {w W:World} {g of:Nat} {tt:TypeId} {cs:Array Value} {S:QS} {N:Nat} {n:Int} {i l:Nat} {o o':Obj} (h:BO w W g of tt cs S N n i) (hw:∀ b,cs[of + 2]?=some (.map (some b))→b < w.heap.size) (hl:w.heap.size≤l) (ho:W.heap[l]?=some o) (hc:o.isCells=false):BO w (W.putObj l o') g of tt cs S N n i:=by
 obtain ⟨v,hq⟩:=h.qo
 refine ⟨⟨v,hq.put ho hc (fun b e => ?_)⟩,h.gr.andThen (grownBy_putObj' W l o') (fun j e => by cases e; exact .inl hl),by rw [World.putObj_size]; exact h.sz,blk_put h.kq ho hc,blk_put h.kn ho hc⟩
 rw [set_get (by omega)] at e
 have:=hw b e
 omega
end Go.Proofs.YtlliaihmfimdoaaGreat.Qu


namespace Go.Proofs.YtlliaihmfimdoaaGreat.Qu
open Go.RowKit Go.Shelf Go.Maps
attribute [local go_sem] Oper.semAt_some
theorem backout_nil (n:Int) (w:World):Calls Tryz.prog 77 #[.pointer none,.int .i64 n] w fun e w' => e=.returned (.int .i64 6)∧Below w.heap.size w w':=by
 have b1:Below w.heap.size w ((w.alloc (.cells #[.pointer none] 141)).alloc (.cells #[.int .i64 n] 3)):=bt (ba _ _) (ba _ _)
 have HB:=Lib.hid b1
 clear b1
 go_enter Tryz.func77,Tryz.ntmps77
 go_wp2_with fail
 refine (names_nil n _).mono ?_
 rintro e w1 ⟨rfl,rfl⟩
 go_wp2
 go_ret
 exact ⟨rfl,HB.out⟩
def backM (S:QS) (n:Int):Int × QS:=if n < 1 then (1,S) else (0,{ S with I:=S.I.map (freeI n),ws:=othersQ S.ws n })
set_option maxRecDepth 100000 in
set_option maxHeartbeats 4000000 in
theorem backout_any (g of:Nat) (tt:TypeId) (cs:Array Value) (S:QS) (N:Nat) (n:Int) (w:World) (h:QAt w g of tt cs S N) (hn:i64ok n) :
  Calls Tryz.prog 77 #[.pointer (some ⟨g,of,none⟩),.int .i64 n] w fun e w' => e=.returned (.int .i64 (backM S n).1)∧QO w g of tt cs (backM S n).2 N w':=by
 obtain ⟨w5,hw5⟩:∃ w5,w5=(w.alloc (.cells #[.pointer (some ⟨g,of,none⟩)] 141)).alloc (.cells #[.int .i64 n] 3):=⟨_,rfl⟩
 have s1:(w.alloc (.cells #[.pointer (some ⟨g,of,none⟩)] 141)).heap.size=w.heap.size + 1:=by simp
 have b5:Below w.heap.size w w5:=by rw [hw5]; exact bt (ba _ _) (ba _ _)
 have k5a:Blk w5 w.heap.size 141 #[.pointer (some ⟨g,of,none⟩)]:=by rw [hw5]; exact (Blk.new _ _ _).alloc _
 have k5b:Blk w5 (w.heap.size + 1) 3 #[.int .i64 n]:=by rw [hw5,← s1]; exact Blk.new _ _ _
 have hsz5:w5.heap.size=w.heap.size + 2:=by rw [hw5]; simp
 have HN:=Lib.hid (names_any g of n w5)
 by_cases h1:n < 1
 ·have hM:backM S n=(1,S):=if_pos h1
  rw [hM]
  have HF:=Lib.hid (QO.same h b5)
  have hE:namesE n=1:=if_pos h1
  rw [hE] at HN
  have e0:=k5a.cell 0
  have e1:=k5b.cell 0
  simp only [List.getElem?_toArray,List.getElem?_cons_zero] at e0 e1
  rw [hw5] at e0 e1
  have HW:=Lib.hid hw5
  clear h hM hE b5 k5a k5b hsz5 hw5 s1
  go_enter Tryz.func77,Tryz.ntmps77
  go_wp2_with fail
  rw [← HW.out]
  refine HN.out.mono ?_
  rintro e w1 ⟨rfl,rfl⟩
  go_wp2
  go_ret
  exact ⟨rfl,HF.out⟩
 have hM:backM S n=(0,{ S with I:=S.I.map (freeI n),ws:=othersQ S.ws n }):=if_neg h1
 rw [hM]
 have hE:namesE n=0:=if_neg h1
 rw [hE] at HN
 obtain ⟨A0,n0,c0,i1,i2,i3,i4,i5⟩:=h.it
 have hn16:n0≤48:=by have:=h.iv.room; omega
 have HL:=Lib.hid i2
 have hmap:=h.mapLt
 have hgl:=h.lt
 have HI:=Lib.hid (fun u (hg:w.grownBy u (some g)) => i5.kept hg h.bk h.ty.2)
 have h5:BO w w5 g of tt cs S N n 0:=⟨⟨.slice A0 n0 c0,by rw [set_self i1]; exact h.below b5⟩,lbelow_grown b5 _,by omega,k5a,k5b⟩
 have hs5:w.heap.size≤w5.heap.size:=by omega
 have e0:=k5a.cell 0
 have e1:=k5b.cell 0
 have cg:w5.cell? ⟨g,of,none⟩=some (.slice A0 n0 c0):=((h.bk.below b5 hgl).cell of).trans i1
 simp only [List.getElem?_toArray,List.getElem?_cons_zero] at e0 e1
 have e0w:=e0
 have e1w:=e1
 have H:=Lib.hid (And.intro h hn)
 have HW:=Lib.hid hw5
 rw [hw5] at e0 e1
 clear h hM hE i1 i2 i5 b5 k5a k5b s1 hw5
 refine (callsIn_wide (n:=9)).1 ?_
 refine callsIn_of_wp_marks Tryz.func77 rfl trivial ?_ rfl
 simp only [Tryz.ntmps77,List.size_toArray,List.length_cons,List.length_nil,Nat.reduceAdd,Nat.reduceSub,Array.replicate_succ,Array.replicate_zero,List.push_toArray,List.append_toArray,List.nil_append,List.cons_append]
 gi_wp2_with fail
 rw [← HW.out]
 refine ⟨trivial,((callsIn_wide).2 HN.out).mono ?_⟩
 rintro e w1 ⟨rfl,rfl⟩
 gi_wp2_with fail
 refine wpIn_rangeFunc_leaveM (F:=Fence.wide) rfl (by omega) (gf:=96) (rb:=#[.pointer (some ⟨g,of,none⟩)]) (lb:=#[]) rfl trivial (enters_of Tryz.func96 (by kernel_rfl) rfl)
  (encs:=encI) (fun _ => rfl) (fun _ _ => True) (fun pre W => BO w W g of tt cs S N n pre.length)
  (fun _ _ _ => False) (fun pre x W => ∃ hh:pre.length < S.I.length,x=(pre.length,S.I[pre.length]'hh)) (fun xs => xs.length=S.I.length) (fun _ => True) 49
  (fun _ _ => trivial) (fun _ _ _ _ _ _ _ => trivial)
  (fun s W l o o' hi hl ho hc => hi.put hmap (Nat.le_trans hs5 hl) ho hc) (fun _ _ _ _ _ _ hi _ _ _ => hi)
  (fun o o' => (h5.bel (ba _ _)).bel (ba _ _))
  ?iter (fun pre x a' W => (∃ hh:pre.length < S.I.length,x=(pre.length,S.I[pre.length]'hh))∧∃ t7,Blk W t7 152 #[.int .i64 x.2.n,.int .u64 (x.2.v:Nat),.int .i64 x.2.t]∧a'={ tmps:=#[.pointer (some ⟨g,of,none⟩),.int .i64 n,.pointer (some ⟨w.heap.size,0,none⟩),.pointer (some ⟨w.heap.size + 1,0,none⟩),.int .i64 0,.int .i64 0,.int .i64 x.1,.pointer (some ⟨t7,0,none⟩),.pointer (some ⟨g,of,none⟩),.int .i64 n,.int .i64 0,.int .i64 0,.bool false,undef,.pointer (some ⟨g,of,none⟩),.func (.func 96) #[.pointer (some ⟨g,of,none⟩)] #[],.int .i64 x.1,.agg #[.int .i64 x.2.n,.int .u64 (x.2.v:Nat),.int .i64 x.2.t],undef,undef,undef,undef,undef,undef,undef,undef,undef,undef],defers:=[] })
  (fun pre x a' W l o o' h hl ho hc => by
   obtain ⟨hx,t7,h1,h3⟩:=h
   exact ⟨hx,t7,blk_put h1 ho hc,h3⟩) ?assign ?body ?done ?stop
 case iter =>
  intro l W1 Z Y hZK hb1 hI1 hz1 hYY
  refine (each_in 8 (by omega) l g of A0 S.I n0 c0 HL (by omega) (fun i W => BO w W g of tt cs S N n i∧Z W∧i≤S.I.length) (fun i W => Y ((ixs S.I).take (i + 1)) W)
   (fun s Wa Wb hb hh => ⟨hh.1.bel hb,hZK _ _ (keepsOthers_below hb) hh.2.1,hh.2.2⟩) (fun s Wa hh => HI.out Wa hh.1.gr) ?_ W1 ((hb1.cell (p:=⟨g,of,none⟩) (by dsimp only; omega)).trans cg) ⟨hI1,hz1,Nat.zero_le _⟩).mono ?_
  ·intro i hi Wa hh
   have hpl:=ixs_tlen S.I i (by omega)
   have:=hYY ((ixs S.I).take i) (i,S.I[i]'hi) Wa (by rw [hpl]; exact hh.1) hh.2.1 ⟨by rw [hpl]; exact hi,by simp only [hpl]⟩ (by rw [hpl]; have:=HL.out; omega)
   rw [← ixs_take S.I i hi,ixs_tlen S.I (i + 1) (by omega)] at this
   refine YieldAt.mono this fun e W' hr => ?_
   rcases hr with ⟨h1,h2,h3,_⟩ | hr
   ·exact .inl ⟨h1,h2,h3,by omega⟩
   ·exact .inr hr
  ·rintro e W' ⟨hv,(⟨h1,h2,_⟩ | ⟨i,hi,hy⟩)⟩
   ·exact ⟨hv,.inl ⟨ixs S.I,by unfold ixs; exact ixsF_len _ _,by rw [show (ixs S.I).length=S.I.length from ixsF_len _ _]; exact h1,h2⟩⟩
   ·exact ⟨hv,.inr ⟨_,trivial,hy⟩⟩
 case assign =>
  rintro l pre x W K hi hx hK
  obtain ⟨xi,xn,xv,xt⟩:=x
  simp [encI,IT.val]
  gi_wp2_with fail
  exact hK _ _ (KeepsOthers.alloc _ _) trivial (hi.bel (ba _ _)) ⟨hx,_,Blk.new _ _ _,rfl⟩
 case body =>
  rintro l pre x a' W hl _ hi ⟨⟨hh,hx⟩,t7,h1,rfl⟩ hlen
  have hstep:=backI_step S.I n pre.length hh
  have hpl:(pre ++ [x]).length=pre.length + 1:=by simp
  obtain ⟨pl,hpe⟩:∃ pl,pl=pre.length:=⟨_,rfl⟩
  obtain ⟨y,hy⟩:∃ y,y=S.I[pre.length]'hh:=⟨_,rfl⟩
  rw [← hy] at hx hstep
  rw [← hpe] at hi hx hstep hpl hh
  subst hx
  obtain ⟨xn,xv,xt⟩:=y
  dsimp only at h1 hstep
  have q0:=hi.kq.cell 0
  have q1:=hi.kn.cell 0
  have q2:=h1.cell 2
  simp only [List.getElem?_toArray,List.getElem?_cons_zero,List.getElem?_cons_succ] at q0 q1 q2
  by_cases hxn:xt=n
  ·subst hxn
   rw [if_pos rfl] at hstep
   obtain ⟨v,hq⟩:=hi.qo
   have hcall:=give_ex g of tt _ _ N pl 0 W hq (by dsimp only; rw [backI_len]; exact hh)
   dsimp only at hcall
   rw [← hstep] at hcall
   have HC:=Lib.hid hcall
   have HB:=Lib.hid (And.intro hi (And.intro hpl (And.intro hq.bk hgl)))
   clear hcall hi hstep hy hpe hq h1 hpl
   gi_wp2_with fail
   refine ⟨trivial,((callsIn_wide).2 HC.out |>.inRound l).mono ?_⟩
   rintro e W3 ⟨rfl,⟨v',hq3⟩,hg3⟩
   have hres:Hid (KeepsOthers W W3∧BO w W3 g of tt cs S N xt (pre ++ [(pl,(⟨xn,xv,xt⟩:IT))]).length):=Lib.hid (by
    obtain ⟨hi,hpl,hbk,_⟩:=HB.out
    rw [hpl]
    refine ⟨KeepsOthers.of_grownBy hg3 (fun j ob hj hob => ?_),⟨v',?_⟩,hi.gr.trans hg3,Nat.le_trans hi.sz hg3.size,hi.kq.kept hg3 (fun e => by injection e; omega),hi.kn.kept hg3 (fun e => by injection e; omega)⟩
    ·cases hj
     unfold Blk at hbk
     rw [hbk] at hob
     cases hob
     rfl
    ·have e:(cs.setIfInBounds of v).setIfInBounds of v'=cs.setIfInBounds of v':=by simp
     rwa [e] at hq3)
   clear hq3 hg3 q0 q1 q2
   gi_wp2_with fail
   exact ⟨hres.out.1,trivial,hres.out.2⟩
  ·rw [if_neg hxn] at hstep
   have hb:(xt == n)=false:=by simp [hxn]
   have hres:Hid (BO w W g of tt cs S N n (pre ++ [(pl,(⟨xn,xv,xt⟩:IT))]).length):=Lib.hid (by
    rw [hpl]
    obtain ⟨v,hq⟩:=hi.qo
    exact ⟨⟨v,by rw [hstep]; exact hq⟩,hi.gr,hi.sz,hi.kq,hi.kn⟩)
   clear hi hstep hy hpe h1 hpl
   gi_wp2_with fail
   exact ⟨KeepsOthers.refl _,trivial,hres.out⟩
 case done =>
  rintro D xs W hD hxl hi hDd
  rw [hxl] at hi
  obtain ⟨v,hq⟩:=hi.qo
  rw [backI_all] at hq
  have q0:=hi.kq.cell 0
  have q1:=hi.kn.cell 0
  simp only [List.getElem?_toArray,List.getElem?_cons_zero] at q0 q1
  have HD:=Lib.hid (drop_any g of tt _ _ N n W hq H.out.2)
  have HB:=Lib.hid (And.intro hi.gr (And.intro hDd hi.sz))
  have hDw:w.heap.size≤D:=by omega
  clear hi hq
  gi_wp2_with fail
  refine ⟨trivial,((callsIn_wide).2 HD.out).mono ?_⟩
  rintro e W3 ⟨rfl,⟨⟨cs',hq3,hkp⟩,hg3⟩⟩
  have HF:=Lib.hid (And.intro hq3 (And.intro hkp hg3))
  have hDd3:W3.heap[D]?=some (.deferred (some [])):=(hg3.block D (Array.getElem?_eq_some_iff.1 HB.out.2.1).1 (fun e => by injection e; omega)).trans HB.out.2.1
  clear hq3 hkp hg3 q0 q1
  gi_wp2_with fail
  refine leaves_marks [D] W3 ((MarksAt.nil W3 w.heap.size).cons hDw hDd3 (fun E hE => by cases hE)) ⟨_,results_tmp rfl _ _ _,?_⟩
  refine ⟨rfl,⟨cs',HF.out.1.marked hDd3 _,(Keep3.set cs of (.inl rfl) v).trans HF.out.2.1⟩,(HB.out.1.trans HF.out.2.2).andThen (grownBy_putObj' W3 D _) (fun j e => by cases e; exact .inl hDw)⟩
 case stop =>
  rintro D cd xs W hD _ hf
  exact hf.elim
end Go.Proofs.YtlliaihmfimdoaaGreat.Qu


namespace Go.Proofs.YtlliaihmfimdoaaGreat.Qu
open Go.RowKit Go.Shelf Go.Maps
attribute [local go_sem] Oper.semAt_some
def keptI (L:List IT) (n:Int):List IT:=L.filter fun x => decide (x.t≠n)
def newsQ (g:Int):List Ch→List IT
 | [] => []
 | x :: r => if x.k=3 then ⟨g + 1,x.v,0⟩ :: newsQ (g + 1) r else newsQ g r
theorem newsQ_len:∀ (l:List Ch) (g:Int),(newsQ g l).length=putsL l
 | [],_ => rfl
 | x :: r,g => by
  unfold newsQ putsL
  by_cases e:x.k=3
  ·rw [if_pos e,List.length_cons,newsQ_len r,List.filter_cons]
   simp [e,putsL]
  ·rw [if_neg e,newsQ_len r,List.filter_cons]
   simp [e,putsL]
theorem newsQ_snoc:∀ (l:List Ch) (g:Int) (x:Ch),newsQ g (l ++ [x])=if x.k=3 then newsQ g l ++ [⟨g + (putsL l:Nat) + 1,x.v,0⟩] else newsQ g l
 | [],g,x => by simp [newsQ,putsL]
 | y :: r,g,x => by
  have h1:newsQ g ((y :: r) ++ [x])=if y.k=3 then ⟨g + 1,y.v,0⟩ :: newsQ (g + 1) (r ++ [x]) else newsQ g (r ++ [x]):=rfl
  have h2:newsQ g (y :: r)=if y.k=3 then ⟨g + 1,y.v,0⟩ :: newsQ (g + 1) r else newsQ g r:=rfl
  have h3:putsL (y :: r)=(if y.k=3 then 1 else 0) + putsL r:=by
   unfold putsL; rw [List.filter_cons]
   by_cases e:y.k=3
   ·simp [e]; omega
   ·simp [e]
  rw [h1,h2,h3]
  by_cases e:y.k=3
  ·rw [if_pos e,if_pos e,if_pos e,newsQ_snoc r (g + 1) x]
   split
   ·simp only [List.cons_append]
    congr 3
    push_cast
    congr 1
    omega
   ·rfl
  ·rw [if_neg e,if_neg e,if_neg e,newsQ_snoc r g x]
   simp
def commitM (S:QS) (n:Int):Int × QS:=if n < 1 then (1,S) else (0,{ S with I:=keptI S.I n ++ newsQ S.g (curQ S.ws n).1,g:=S.g + (putsL (curQ S.ws n).1:Nat),ws:=othersQ S.ws n })
theorem it_one {u:World} {B c:Nat} {A:Option Addr} {l:List IT} (h:OwnI u B A c l) (x:IT) (q n:Nat) (hq:Blk u q 152 #[.int .i64 x.n,.int .u64 (x.v:Nat),.int .i64 x.t]) (hn:n=l.length) (hl:n≤1000) (hB:B≤u.heap.size) :
  ∃ A2 c2 u',(Builtin.append_ #[96,96] 96 #[.slice A n c,.slice (some ⟨q,0,none⟩) 1 1]).run Tryz.prog u=.ok (.slice A2 (n + 1) c2) u'∧OwnI u' B A2 c2 (l ++ [x])∧u.grownBy u' (blk A):=by
 obtain ⟨A2,c2,u',h1,h2,h3,_⟩:=it_app h (some ⟨q,0,none⟩) 1 [x] n 1 hn rfl (fun b o e i hi => by
  cases e
  have hi0:i=0:=by simpa using hi
  subst hi0
  exact ⟨hq.cell 0,hq.cell 1,hq.cell 2⟩) (fun _ => ⟨_,_,rfl⟩) (by have:=h.capB; omega) (by simp; omega) hB
 exact ⟨A2,c2,u',h1,h2,h3⟩
structure CI (w W:World) (n:Int) (K:List IT):Prop where
 be:Below w.heap.size w W
 sz:w.heap.size + 2≤W.heap.size
 kn:Blk W w.heap.size 3 #[.int .i64 n]
 ls:∃ A2 c2 m,Blk W (w.heap.size + 1) 96 #[.slice A2 m c2]∧m=K.length∧OwnI W (w.heap.size + 2) A2 c2 K
theorem OwnI.grown {u u':World} {B:Nat} {A:Option Addr} {c:Nat} {l:List IT} {row:Option Nat} (h:OwnI u B A c l) (hg:u.grownBy u' row) (hr:∀ r,row=some r→blk A≠some r):OwnI u' B A c l:=by
 refine World.ownsRow.kept h hg ?_
 rcases hb:(Value.slice A l.length c).ownBlock with _ | k
 ·exact .inl rfl
 ·rw [ownBlock_slice] at hb
  exact .inr (fun e => hr k e.symm hb)
theorem CI.bel {w W W':World} {n:Int} {K:List IT} (h:CI w W n K) (hb:Below W.heap.size W W'):CI w W' n K:=by
 obtain ⟨A2,c2,m,h1,h2,h3⟩:=h.ls
 exact ⟨bt h.be hb,Nat.le_trans h.sz hb.size,h.kn.below hb h.kn.lt,A2,c2,m,h1.below hb h1.lt,h2,h3.grown (lbelow_grown hb none) (fun r e => by cases e)⟩
theorem CI.put {w W:World} {n:Int} {K:List IT} {l:Nat} {o o':Obj} (h:CI w W n K) (hl:w.heap.size≤l) (ho:W.heap[l]?=some o) (hc:o.isCells=false):CI w (W.putObj l o') n K:=by
 obtain ⟨A2,c2,m,h1,h2,h3⟩:=h.ls
 exact ⟨h.be.grown (grownBy_putObj' W l o') h.be.size (fun r e => by cases e; exact hl),by rw [World.putObj_size]; exact h.sz,blk_put h.kn ho hc,A2,c2,m,blk_put h1 ho hc,h2,ownsRow_putObj h3 o' ho hc⟩
set_option maxRecDepth 100000 in
theorem CI.more {w W:World} {n:Int} {K:List IT} (h:CI w W n K) (x:IT) (hl:K.length≤900) :
  ∃ A2 c2 m A3 c3 w8,Blk W (w.heap.size + 1) 96 #[.slice A2 m c2] ∧
   (Builtin.append_ #[96,96] 96 #[.slice A2 m c2,.slice (some ⟨W.heap.size,0,none⟩) 1 1]).run Tryz.prog (W.alloc (.cells #[.int .i64 x.n,.int .u64 (x.v:Nat),.int .i64 x.t] 152))=.ok (.slice A3 (m + 1) c3) w8 ∧
   Blk w8 (w.heap.size + 1) 96 #[.slice A2 m c2]∧CI w (w8.setCell ⟨w.heap.size + 1,0,none⟩ (.slice A3 (m + 1) c3)) n (K ++ [x])∧KeepsOthers W (w8.setCell ⟨w.heap.size + 1,0,none⟩ (.slice A3 (m + 1) c3)):=by
 obtain ⟨A2,c2,m,k2,hm,own2⟩:=h.ls
 obtain ⟨Wb,hWb⟩:∃ Wb,Wb=W.alloc (.cells #[.int .i64 x.n,.int .u64 (x.v:Nat),.int .i64 x.t] 152):=⟨_,rfl⟩
 have bb:Below W.heap.size W Wb:=by rw [hWb]; exact ba _ _
 have kb:Blk Wb W.heap.size 152 #[.int .i64 x.n,.int .u64 (x.v:Nat),.int .i64 x.t]:=by rw [hWb]; exact Blk.new _ _ _
 have ownb:=own2.grown (lbelow_grown bb none) (fun r e => by cases e)
 obtain ⟨A3,c3,w8,hrun,own3,g8⟩:=it_one ownb x W.heap.size m kb hm (by omega) (by have:=bb.size; have:=h.sz; omega)
 have hrow:∀ r,blk A2=some r→w.heap.size + 2≤r:=fun r e => (World.ownsRow.lt ownb r (by rw [ownBlock_slice]; exact e)).1
 have kv8:=(k2.below bb k2.lt).kept g8 (fun e => by have:=hrow _ e.symm; omega)
 have kn8:=(h.kn.below bb h.kn.lt).kept g8 (fun e => by have:=hrow _ e.symm; omega)
 have hb8:Below w.heap.size w w8:=(bt h.be bb).grown g8 (Nat.le_trans h.be.size bb.size) (fun r e => by have:=hrow r e; omega)
 have hgs:=lgrown_set w8 ⟨w.heap.size + 1,0,none⟩ (.slice A3 (m + 1) c3)
 refine ⟨A2,c2,m,A3,c3,w8,k2,by rw [← hWb]; exact hrun,kv8,⟨hb8.setCell (p:=⟨w.heap.size + 1,0,none⟩) (by dsimp only; omega) _,?_,?_,A3,c3,m + 1,?_,?_,?_⟩,?_⟩
 ·have:=h.sz; have:=bb.size; have:=g8.size; rw [World.size_setCell]; omega
 ·exact kn8.kept hgs (fun e => by injection e with e; dsimp only at e; omega)
 ·simpa using kv8.set_ 0 (.slice A3 (m + 1) c3)
 ·rw [List.length_append,hm]; rfl
 ·exact own3.grown hgs (fun r e e2 => by cases e; have h9:=(World.ownsRow.lt own3 _ (by rw [ownBlock_slice]; exact e2)).1; dsimp only at h9; omega)
 ·refine ((keepsOthers_below bb).trans (KeepsOthers.of_grownBy g8 fun j ob hj hob => ?_)).trans (KeepsOthers.setCell _ _ _)
  rcases ownb.2 with ⟨q1,q2⟩ | ⟨gg,cap,cur,q1,_,q3,_⟩
  ·injection q1 with q1 _ _; rw [q1] at hj; cases hj
  ·injection q1 with q1 _ _; rw [q1] at hj; injection hj with hj; have hj:gg=j:=hj; subst hj; rw [q3] at hob; cases hob; rfl
theorem QAt.both {w W:World} {g of N:Nat} {tt:TypeId} {cs cs':Array Value} {S:QS} {I':List IT} {g':Int} (h:QAt w g of tt cs S N) (hg:w.grownBy W (some g)) {A:Option Addr} {n c:Nat} (hb:Blk W g tt cs') (h0:cs'[of]?=some (.slice A n c)) (h1:cs'[of + 1]?=some (.int .i64 g')) (h2:cs'[of + 2]?=cs[of + 2]?) (hn:n=I'.length) (hc:n≤c∧c≤9223372036854775807) (hi:ItAt W anyB A I') (hiv:QInv { S with I:=I',g:=g' }):QAt W g of tt cs' { S with I:=I',g:=g' } N:=by
 obtain ⟨k1,k2,⟨A0,n0,c0,a1,a2,a3,a4,a5⟩,k3,⟨m,G,k4,k5,k6⟩,k7,k8,k9⟩:=h
 exact ⟨hb,k2,⟨A,n,c,h0,hn,hc.1,hc.2,hi⟩,h1,⟨m,G,h2.trans k4,k5.kept hg k1,k6.same fun A l hc => hc.kept hg k1 k2.1⟩,k7,k8,hiv⟩
end Go.Proofs.YtlliaihmfimdoaaGreat.Qu


namespace Go.Proofs.YtlliaihmfimdoaaGreat.Qu
open Go.RowKit Go.Shelf Go.Maps Go.Deep
attribute [local go_sem] Oper.semAt_some
theorem commit_nil (n:Int) (w:World):Calls Tryz.prog 68 #[.pointer none,.int .i64 n] w fun e w' => e=.returned (.int .i64 6)∧Below w.heap.size w w':=by
 have HB:=Lib.hid (ba w (.cells #[.int .i64 n] 3))
 go_enter Tryz.func68,Tryz.ntmps68
 go_wp2_with fail
 refine (names_nil n _).mono ?_
 rintro e w1 ⟨rfl,rfl⟩
 go_wp2
 go_ret
 exact ⟨rfl,HB.out⟩
structure CJ (w W:World) (g of:Nat) (tt:TypeId) (cs:Array Value) (n:Int) (K:List IT) (gv:Int) (D:Nat):Prop where
 gr:w.grownBy W (some g)
 bk:Blk W g tt (cs.setIfInBounds (of + 1) (.int .i64 gv))
 sz:w.heap.size + 2≤W.heap.size
 kn:Blk W w.heap.size 3 #[.int .i64 n]
 ls:∃ A2 c2 m,Blk W (w.heap.size + 1) 96 #[.slice A2 m c2]∧m=K.length∧OwnI W (w.heap.size + 2) A2 c2 K
 dm:W.heap[D]?=some (.deferred (some []))
theorem CJ.bel {w W W':World} {g of:Nat} {tt:TypeId} {cs:Array Value} {n:Int} {K:List IT} {gv:Int} {D:Nat} (h:CJ w W g of tt cs n K gv D) (hb:Below W.heap.size W W'):CJ w W' g of tt cs n K gv D:=by
 obtain ⟨A2,c2,m,h1,h2,h3⟩:=h.ls
 exact ⟨h.gr.trans (lbelow_grown hb _),h.bk.below hb h.bk.lt,Nat.le_trans h.sz hb.size,h.kn.below hb h.kn.lt,⟨A2,c2,m,h1.below hb h1.lt,h2,h3.grown (lbelow_grown hb none) (fun r e => by cases e)⟩,(hb.block D (Array.getElem?_eq_some_iff.1 h.dm).1).trans h.dm⟩
theorem CJ.last {w W:World} {g of:Nat} {tt:TypeId} {cs:Array Value} {n:Int} {K:List IT} {gv:Int} {D:Nat} (h:CJ w W g of tt cs n K gv D) (hgl:g < w.heap.size) (gv':Int):CJ w (W.setCell ⟨g,of + 1,none⟩ (.int .i64 gv')) g of tt cs n K gv' D:=by
 have hgs:=lgrown_set W ⟨g,of + 1,none⟩ (.int .i64 gv')
 obtain ⟨A2,c2,m,h1,h2,h3⟩:=h.ls
 refine ⟨h.gr.trans hgs,?_,by rw [World.size_setCell]; exact h.sz,h.kn.kept hgs (fun e => by injection e with e; dsimp only at e; omega),⟨A2,c2,m,h1.kept hgs (fun e => by injection e with e; dsimp only at e; omega),h2,h3.grown hgs (fun r e e2 => by cases e; have h9:=(World.ownsRow.lt h3 _ (by rw [ownBlock_slice]; exact e2)).1; dsimp only at h9; omega)⟩,(hgs.block D (Array.getElem?_eq_some_iff.1 h.dm).1 (fun e => by
  injection e with e
  have h9:=h.dm
  have h8:=h.bk
  unfold Blk at h8
  rw [e] at h9
  rw [h8] at h9
  cases h9)).trans h.dm⟩
 have:=h.bk.set_ (of + 1) (.int .i64 gv')
 rwa [Array.setIfInBounds_setIfInBounds] at this
structure CC (w u:World) (g of:Nat) (tt:TypeId) (cs:Array Value) (n:Int) (gv:Int) (D tb:Nat) (chv:Array Value):Prop where
 gr:w.grownBy u (some g)
 bk:Blk u g tt (cs.setIfInBounds (of + 1) (.int .i64 gv))
 sz:w.heap.size + 2≤u.heap.size
 kn:Blk u w.heap.size 3 #[.int .i64 n]
 dm:u.heap[D]?=some (.deferred (some []))
 ch:Blk u tb 74 chv
theorem CC.row {w u u':World} {g of:Nat} {tt:TypeId} {cs:Array Value} {n:Int} {gv:Int} {D tb:Nat} {chv:Array Value} {row:Option Nat} (h:CC w u g of tt cs n gv D tb chv) (hgl:g < w.heap.size) (hg:u.grownBy u' row) (hr:∀ r,row=some r→w.heap.size + 1≤r∧∃ cs t,t≠74∧Blk u r t cs):CC w u' g of tt cs n gv D tb chv:=by
 refine ⟨h.gr.andThen hg (fun j e => .inl (by have:=(hr j e).1; omega)),h.bk.kept hg (fun e => by have:=(hr _ e.symm).1; omega),Nat.le_trans h.sz hg.size,h.kn.kept hg (fun e => by have:=(hr _ e.symm).1; omega),(hg.block D (Array.getElem?_eq_some_iff.1 h.dm).1 (fun e => ?_)).trans h.dm,h.ch.kept hg (fun e => ?_)⟩
 ·obtain ⟨_,cs',t,_,hb⟩:=hr _ e.symm
  have:=h.dm
  unfold Blk at hb
  rw [hb] at this
  cases this
 ·obtain ⟨_,cs',t,ht,hb⟩:=hr _ e.symm
  exact hb.ne h.ch ht rfl
theorem CC.bel {w u u':World} {g of:Nat} {tt:TypeId} {cs:Array Value} {n:Int} {gv:Int} {D tb:Nat} {chv:Array Value} (h:CC w u g of tt cs n gv D tb chv) (hgl:g < w.heap.size) (hb:Below u.heap.size u u'):CC w u' g of tt cs n gv D tb chv:=h.row hgl (lbelow_grown hb none) (fun r e => by cases e)
theorem own_blk {u:World} {B:Nat} {A:Option Addr} {c:Nat} {l:List IT} (h:OwnI u B A c l):∀ r,blk A=some r→B≤r∧∃ cs t,t≠74∧Blk u r t cs:=fun r e => by
 rcases h.2 with ⟨q1,q2⟩ | ⟨gg,cap,cur,q1,hb,q3,_⟩
 ·injection q1 with q1 _ _; rw [q1] at e; cases e
 ·injection q1 with q1 _ _; rw [q1] at e; injection e with e; have e:gg=r:=e; subst e; exact ⟨hb,cur,_,by decide,q3⟩
def VCo (w:World) (g of tb m2 c2:Nat) (tt:TypeId) (cs:Array Value) (n:Int) (A2:Option Addr) (K:List IT) (gv:Int) (v D:Nat) (chv:Array Value) (j:Nat) (z:Value) (u:World):Prop :=
 match j with
 | 0 => z=.slice A2 m2 c2
 | 1 => z=.pointer (some ⟨g,of,none⟩)
 | 2 => z=.pointer (some ⟨g,of,none⟩)
 | 3 => z=.pointer (some ⟨g,of + 1,none⟩)
 | 4 => z=.int .i64 gv
 | 5 => z=.pointer (some ⟨tb,2,none⟩)
 | 6 => z=.int .u64 (v:Nat)
 | 7 => z=.agg #[.int .i64 gv,.int .u64 (v:Nat),.int .i64 0]
 | 8 => ∃ qb,z=.slice (some ⟨qb,0,none⟩) 1 1∧Blk u qb 152 #[.int .i64 gv,.int .u64 (v:Nat),.int .i64 0]∧w.heap.size + 2≤qb
 | 9 => ∃ A3 c3,z=.slice A3 (m2 + 1) c3∧OwnI u (w.heap.size + 2) A3 c3 (K ++ [⟨gv,v,0⟩])
 | 10 => CJ w u g of tt cs n (K ++ [⟨gv,v,0⟩]) gv D
 | _ => True
def ECo (vb:Nat) (A2:Option Addr) (k:Nat) (u u':World):Prop:=match k with
 | 9 => u.grownBy u' (blk A2)
 | 10 => u.grownBy u' (some vb)
 | _ => Below u.heap.size u u'
theorem ECo.bel {vb:Nat} {A2:Option Addr} {k:Nat} {u u':World} (h:ECo vb A2 k u u') (h1:k≠9) (h2:k≠10):Below u.heap.size u u':=by
 unfold ECo at h
 split at h
 ·exact absurd rfl h1
 ·exact absurd rfl h2
 ·exact h
theorem VCo.mono {w:World} {g of tb m2 c2:Nat} {tt:TypeId} {cs:Array Value} {n:Int} {A2:Option Addr} {K:List IT} {gv:Int} {v D:Nat} {chv:Array Value} {j k:Nat} {z:Value} {u u':World} (he:ECo (w.heap.size + 1) A2 k u u') (hjk:j≠k) (h8:¬ (j=8∧k=9)) (h9:¬ (j=9∧k=10)) (h10:¬ (j=10∧k=9)) (h:VCo w g of tb m2 c2 tt cs n A2 K gv v D chv j z u):VCo w g of tb m2 c2 tt cs n A2 K gv v D chv j z u':=by
 unfold VCo at h ⊢
 split at h
 all_goals first | exact h | skip
 ·obtain ⟨qb,e,hb,hle⟩:=h
  by_cases k9:k=9
  ·exact absurd ⟨rfl,k9⟩ h8
  by_cases k10:k=10
  ·subst k10; exact ⟨qb,e,hb.kept he (fun e => by injection e; omega),hle⟩
  ·exact ⟨qb,e,hb.below (he.bel k9 k10) hb.lt,hle⟩
 ·obtain ⟨A3,c3,e,ho⟩:=h
  by_cases k10:k=10
  ·exact absurd ⟨rfl,k10⟩ h9
  ·exact ⟨A3,c3,e,ho.grown (lbelow_grown (he.bel (fun e => hjk e.symm) k10) none) (fun r e => by cases e)⟩
 ·by_cases k9:k=9
  ·exact absurd ⟨rfl,k9⟩ h10
  ·exact h.bel (he.bel k9 (fun e => hjk e.symm))
def TCo (w:World) (m2 c2:Nat) (A2:Option Addr) (K:List IT) (j:Nat) (u:World):Prop:=match j with
 | 0 => Blk u (w.heap.size + 1) 96 #[.slice A2 m2 c2]
 | 9 => OwnI u (w.heap.size + 2) A2 c2 K
 | 10 => Blk u (w.heap.size + 1) 96 #[.slice A2 m2 c2]∧(∀ r,blk A2=some r→w.heap.size + 2≤r)
 | _ => True
theorem TCo.mono {w:World} {m2 c2:Nat} {A2:Option Addr} {K:List IT} {j k:Nat} {u u':World} (he:ECo (w.heap.size + 1) A2 k u u') (hkj:k≠j) (h0:¬ (j=0∧(k=9∨k=10))) (h9:¬ (j=9∧k=10)) (h:TCo w m2 c2 A2 K j u):TCo w m2 c2 A2 K j u':=by
 unfold TCo at h ⊢
 split at h
 ·have hb:=he.bel (fun e => h0 ⟨rfl,.inl e⟩) (fun e => h0 ⟨rfl,.inr e⟩)
  exact h.below hb h.lt
 ·have hb:=he.bel hkj (fun e => h9 ⟨rfl,e⟩)
  exact h.grown (lbelow_grown hb none) (fun r e => by cases e)
 ·by_cases k9:k=9
  ·subst k9
   exact ⟨h.1.kept he (fun e => by have:=h.2 _ e.symm; omega),h.2⟩
  ·have hb:=he.bel k9 hkj
   exact ⟨h.1.below hb h.1.lt,h.2⟩
 ·trivial
set_option maxRecDepth 100000 in
set_option maxHeartbeats 8000000 in
theorem commit_any (g of:Nat) (tt:TypeId) (cs:Array Value) (S:QS) (N:Nat) (n:Int) (w:World) (h:QAt w g of tt cs S N) (hok:QOk S) (hN:N < 300000) (hn:i64ok n) :
  Calls Tryz.prog 68 #[.pointer (some ⟨g,of,none⟩),.int .i64 n] w fun e w' => e=.returned (.int .i64 (commitM S n).1)∧QO w g of tt cs (commitM S n).2 N w':=by
 obtain ⟨wn,hwn⟩:∃ wn,wn=w.alloc (.cells #[.int .i64 n] 3):=⟨_,rfl⟩
 have bn:Below w.heap.size w wn:=by rw [hwn]; exact ba _ _
 have kn:Blk wn w.heap.size 3 #[.int .i64 n]:=by rw [hwn]; exact Blk.new _ _ _
 have hszn:wn.heap.size=w.heap.size + 1:=by rw [hwn]; simp
 have HN:=Lib.hid (names_any g of n wn)
 have e1:=kn.cell 0
 simp only [List.getElem?_toArray,List.getElem?_cons_zero] at e1
 have e1w:=e1
 by_cases h1:n < 1
 ·have hM:commitM S n=(1,S):=if_pos h1
  rw [hM]
  have HF:=Lib.hid (QO.same h bn)
  have hE:namesE n=1:=if_pos h1
  rw [hE] at HN
  rw [hwn] at e1
  have HW:=Lib.hid hwn
  clear h hM hE bn kn hszn hwn e1w
  go_enter Tryz.func68,Tryz.ntmps68
  go_wp2_with fail
  rw [← HW.out]
  refine HN.out.mono ?_
  rintro e w1 ⟨rfl,rfl⟩
  go_wp2
  go_ret
  exact ⟨rfl,HF.out⟩
 have hM:commitM S n=(0,{ S with I:=keptI S.I n ++ newsQ S.g (curQ S.ws n).1,g:=S.g + (putsL (curQ S.ws n).1:Nat),ws:=othersQ S.ws n }):=if_neg h1
 rw [hM]
 have hE:namesE n=0:=if_neg h1
 rw [hE] at HN
 obtain ⟨A0,n0,c0,i1,i2,i3,i4,i5⟩:=h.it
 have hn16:n0≤48:=by have:=h.iv.room; omega
 have HL:=Lib.hid i2
 have hgl:=h.lt
 have hbkc:=h.bk
 have HC0:=Lib.hid (fun u (hb:Below w.heap.size w u) => ((h.below hb).bk.cell of).trans i1)
 have HI:=Lib.hid (fun u (hb:Below w.heap.size w u) => i5.below hb)
 obtain ⟨m,A,q,c,h32,hq,hc,r1,_⟩:=h.look hn
 have hlen:(curQ S.ws n).1.length≤N:=by
  unfold curQ lookQ
  rcases hf:findQ S.ws n with _ | y
  ·exact Nat.zero_le _
  ·exact (h.le y (findQ_mem hf).1).1
 have H:=Lib.hid (And.intro h (And.intro hok (And.intro hn (And.intro hq (And.intro hc hlen)))))
 have hlk:∀ u,Below w.heap.size w u→(Instr.lookup 97 (.map m) (.int .i64 n) false).run Tryz.prog u=.ok (.agg #[.slice A q c,.bool (curQ S.ws n).2]) u:=fun u hu => by
  obtain ⟨m',G,h4,h5,h6⟩:=h.wk
  have em:m'=m:=by rw [h4] at h32; injection h32 with h32; injection h32
  subst em
  have z1:=h5.look 97 143 Tryz.underlying97 (z:=.agg #[.slice none 0 0,.bool false]) rfl (Tryz.zeroValue143 w) hn
  have z2:=(h5.below hu).look 97 143 Tryz.underlying97 (z:=.agg #[.slice none 0 0,.bool false]) rfl (Tryz.zeroValue143 u) hn
  rw [z1] at r1
  injection r1 with r1
  rw [z2,r1]
 have Hlk:=Lib.hid hlk
 have HCh:=Lib.hid (fun W (hW:w.grownBy W (some g)) => hc.kept hW h.bk h.ty.1)
 have Hc2:=Lib.hid (fun u (hb:Below w.heap.size w u) => ((h.below hb).bk.cell (of + 2)).trans h32)
 have HW:=Lib.hid hwn
 obtain ⟨w5,hw5⟩:∃ w5,w5=wn.alloc (.cells #[.slice none 0 0] 96):=⟨_,rfl⟩
 have h5:CI w w5 n []:=by
  refine ⟨by rw [hw5]; exact bt bn (ba _ _),by rw [hw5]; simp; omega,by rw [hw5]; exact kn.alloc _,none,0,0,?_,rfl,World.ownsRow_nil _ _ _ _⟩
  rw [hw5,← hszn]; exact Blk.new _ _ _
 have hs5:w.heap.size≤w5.heap.size:=h5.be.size
 have HW5:=Lib.hid hw5
 rw [hwn] at e1
 clear h hok hM hE i1 i2 i5 bn kn hwn hw5 h32 hq hc r1 hlen hn hlk hbkc
 refine (callsIn_wide (n:=9)).1 ?_
 refine callsIn_of_wp_marks Tryz.func68 rfl trivial ?_ rfl
 simp only [Tryz.ntmps68,List.size_toArray,List.length_cons,List.length_nil,Nat.reduceAdd,Nat.reduceSub,Array.replicate_succ,Array.replicate_zero,List.push_toArray,List.append_toArray,List.nil_append,List.cons_append]
 gi_wp2_with fail
 rw [← HW.out]
 refine ⟨trivial,((callsIn_wide).2 HN.out).mono ?_⟩
 rintro e w1 ⟨rfl,rfl⟩
 gi_wp2_with fail
 rw [← HW5.out]
 clear e1 e1w
 refine wpIn_rangeFunc_leaveM (F:=Fence.wide) rfl (by omega) (gf:=96) (rb:=#[.pointer (some ⟨g,of,none⟩)]) (lb:=#[]) rfl trivial (enters_of Tryz.func96 (by kernel_rfl) rfl)
  (encs:=encI) (fun _ => rfl) (fun _ _ => True) (fun pre W => CI w W n (keptI (pre.map (·.2)) n))
  (fun _ _ _ => False) (fun pre x W => True) (fun xs => xs=ixs S.I) (fun _ => True) 49
  (fun _ _ => trivial) (fun _ _ _ _ _ _ _ => trivial)
  (fun s W l o o' hi hl ho hc => hi.put (Nat.le_trans hs5 hl) ho hc) (fun _ _ _ _ _ _ hi _ _ _ => hi)
  (fun o o' => (h5.bel (ba _ _)).bel (ba _ _))
  ?iter (fun pre x a' W => ∃ t8,Blk W t8 152 #[.int .i64 x.2.n,.int .u64 (x.2.v:Nat),.int .i64 x.2.t]∧t8 < W.heap.size∧w.heap.size + 2≤t8∧a'={ tmps:=#[.pointer (some ⟨g,of,none⟩),.int .i64 n,undef,.pointer (some ⟨w.heap.size,0,none⟩),.int .i64 0,.int .i64 0,.pointer (some ⟨w.heap.size + 1,0,none⟩),undef,.pointer (some ⟨t8,0,none⟩),undef,undef,.pointer (some ⟨g,of,none⟩),.int .i64 n,.int .i64 0,.int .i64 0,.bool false,undef,.pointer (some ⟨g,of,none⟩),.func (.func 96) #[.pointer (some ⟨g,of,none⟩)] #[],.int .i64 x.1,.agg #[.int .i64 x.2.n,.int .u64 (x.2.v:Nat),.int .i64 x.2.t],undef,undef,undef,undef,undef,undef,undef,undef,undef,undef,undef,undef,undef,undef,undef,undef,undef,undef,undef,undef,undef,undef,undef,undef,undef,undef,undef,undef,undef,undef,undef,undef,undef,undef,undef,undef,undef,undef,undef,undef,undef,undef,undef,undef,undef,undef,undef,undef],defers:=[] })
  (fun pre x a' W l o o' h hl ho hc => by
   obtain ⟨t8,h1,h2,h4,h3⟩:=h
   exact ⟨t8,blk_put h1 ho hc,by rw [World.putObj_size]; exact h2,h4,h3⟩) ?assign ?body ?done ?stop
 case iter =>
  intro l W1 Z Y hZK hb1 hI1 hz1 hYY
  refine (each_in 8 (by omega) l g of A0 S.I n0 c0 HL (by omega) (fun i W => CI w W n (keptI (((ixs S.I).take i).map (·.2)) n)∧Z W∧i≤S.I.length) (fun i W => Y ((ixs S.I).take (i + 1)) W)
   (fun s Wa Wb hb hh => ⟨hh.1.bel hb,hZK _ _ (keepsOthers_below hb) hh.2.1,hh.2.2⟩) (fun s Wa hh => HI.out Wa hh.1.be) ?_ W1 (HC0.out W1 hI1.be) ⟨hI1,hz1,Nat.zero_le _⟩).mono ?_
  ·intro i hi Wa hh
   have:=hYY ((ixs S.I).take i) (i,S.I[i]'hi) Wa hh.1 hh.2.1 trivial (by rw [ixs_tlen S.I i (by omega)]; have:=HL.out; omega)
   rw [← ixs_take S.I i hi] at this
   refine YieldAt.mono this fun e W' hr => ?_
   rcases hr with ⟨h1,h2,h3,_⟩ | hr
   ·exact .inl ⟨h1,h2,h3,by omega⟩
   ·exact .inr hr
  ·rintro e W' ⟨hv,(⟨h1,h2,_⟩ | ⟨i,hi,hy⟩)⟩
   ·exact ⟨hv,.inl ⟨ixs S.I,rfl,by rw [List.take_of_length_le (by unfold ixs; rw [ixsF_len]; exact Nat.le_refl _)] at h1; exact h1,h2⟩⟩
   ·exact ⟨hv,.inr ⟨_,trivial,hy⟩⟩
 case assign =>
  rintro l pre x W K hi hx hK
  obtain ⟨xi,xn,xv,xt⟩:=x
  simp [encI,IT.val]
  gi_wp2_with fail
  exact hK _ _ (KeepsOthers.alloc _ _) trivial (hi.bel (ba _ _)) ⟨_,Blk.new _ _ _,by simp,hi.sz,rfl⟩
 case body =>
  rintro l pre x a' W hl _ hi ⟨t8,h1,h2,h4,rfl⟩ hlen
  obtain ⟨xi,xn,xv,xt⟩:=x
  dsimp only at h1
  have hkl:(keptI (pre.map (·.2)) n).length≤900:=by
   have:=List.length_filter_le (fun x:IT => decide (x.t≠n)) (pre.map (·.2))
   rw [List.length_map] at this
   unfold keptI; omega
  have hkx:keptI ((pre ++ [(xi,(⟨xn,xv,xt⟩:IT))]).map (·.2)) n=if xt=n then keptI (pre.map (·.2)) n else keptI (pre.map (·.2)) n ++ [⟨xn,xv,xt⟩]:=by
   unfold keptI
   rw [List.map_append,List.filter_append]
   by_cases e:xt=n
   ·simp [e]
   ·simp [e]
  have d0:=h1.cell 0
  have d1:=h1.cell 1
  have d2:=h1.cell 2
  have dn:=hi.kn.cell 0
  simp only [List.getElem?_toArray,List.getElem?_cons_zero,List.getElem?_cons_succ] at d0 d1 d2 dn
  by_cases hx:xt=n
  ·subst hx
   rw [if_pos rfl] at hkx
   have HR:Hid (CI w W xt (keptI ((pre ++ [(xi,(⟨xn,xv,xt⟩:IT))]).map (·.2)) xt)):=Lib.hid (by rw [hkx]; exact hi)
   clear hi h1 hkx hkl
   gi_wp2_with fail
   exact ⟨KeepsOthers.refl _,trivial,HR.out⟩
  ·rw [if_neg hx] at hkx
   have hb:(xt != n)=true:=by simp [hx]
   obtain ⟨A2,c2,m2,A3,c3,w8,k2,hrun,k8,hci,hkp⟩:=hi.more ⟨xn,xv,xt⟩ hkl
   have e6:=k2.cell 0
   have e8:=k8.cell 0
   have f8:=k8.frozen 0
   simp only [List.getElem?_toArray,List.getElem?_cons_zero] at e6 e8
   rw [← hkx] at hci
   have HR:=Lib.hid (And.intro hci hkp)
   dsimp only at hrun
   clear hi h1 hkx hkl k2 k8 hci hkp
   gi_wp2_with (gi_at_builtin; refine wpListIn_append_run (fun _ => trivial) rfl (.tmp 25) (.tmp 27) 96 rfl _ _ _ w8 rfl rfl hrun ?_)
   exact ⟨HR.out.2,trivial,HR.out.1⟩
 case done =>
  rintro D xs W hD rfl hi hDd
  have hDw:w.heap.size≤D:=by omega
  have hkk:(ixs S.I).map (·.2)=S.I:=ixsF_snd _ _
  rw [hkk] at hi
  have hb0:∀ nq:Nat,Below W.heap.size W (W.drewN nq):=fun nq => ⟨rfl,rfl,rfl,Nat.le_refl _,fun _ _ => rfl⟩
  have r1:=fun nq:Nat => Hlk.out (W.drewN nq) (bt hi.be (hb0 nq))
  have c2:=fun nq:Nat => (show (W.drewN nq).cell? ⟨g,of + 2,none⟩=some (.map m) from Hc2.out W hi.be)
  have cn:=fun nq:Nat => (show (W.drewN nq).cell? ⟨w.heap.size,0,none⟩=some (.int .i64 n) from hi.kn.cell 0)
  have hf0:=fieldW0 A q c (curQ S.ws n).2
  gi_wp2_with fail
  refine (wpIn_wide).2 ?_
  go_quiet (fail)
  obtain ⟨l,hl⟩:∃ l,l=(curQ S.ws n).1:=⟨_,rfl⟩
  have HI0:Hid (CJ w (W.drewN nq) g of tt cs n (keptI S.I n ++ newsQ S.g (l.take 0)) (S.g + (putsL (l.take 0):Nat)) D):=Lib.hid (by
   have hbd:=hb0 nq
   have hq0:=H.out.1.below (bt hi.be hbd)
   have e0:cs.setIfInBounds (of + 1) (.int .i64 (S.g + (putsL (l.take 0):Nat)))=cs:=by
    have:S.g + ((putsL (l.take 0):Nat):Int)=S.g:=by show S.g + ((0:Nat):Int)=S.g; omega
    rw [this]; exact set_self H.out.1.la
   have hci:=hi.bel hbd
   exact ⟨lbelow_grown (bt hi.be hbd) _,by rw [e0]; exact hq0.bk,hci.sz,hci.kn,by simpa [newsQ] using hci.ls,(hbd.block D (Array.getElem?_eq_some_iff.1 hDd).1).trans hDd⟩)
  have hqn:(q:Int)≤300000:=by have:=H.out.2.2.2.2.2; have:=H.out.2.2.2.1; omega
  have Hl:=Lib.hid hl
  have HDw:=Lib.hid hDw
  clear hi hDd hb0 r1 c2 cn hf0 hl hkk
  gi_wp2_with fail
  gi_loopw [37] (fun i wr => ∃ (i0:Nat),i0≤q∧i=.int .i64 i0∧Hid (CJ w wr g of tt cs n (keptI S.I n ++ newsQ S.g (l.take i0)) (S.g + (putsL (l.take i0):Nat)) D)) (fun i _ => q - (intOf i).toNat)
  case atStart => exact ⟨0,Nat.zero_le _,rfl,HI0⟩
  case round =>
   clear HI0
   obtain ⟨i0,hi0,rfl,HR⟩:=hrel
   by_cases hiq:i0 < q
   ·have hiI:(i0:Int) < (q:Int):=by omega
    have hil:i0 < l.length:=by rw [Hl.out,← H.out.2.2.2.1]; exact hiq
    obtain ⟨b,o,rfl,_,hcs⟩:=(HCh.out wr HR.out.gr) (by rw [← Hl.out]; omega)
    obtain ⟨q0,q1,q2⟩:=hcs i0 (by rw [← Hl.out]; exact hil)
    have hts:=putsL_take l i0 hil
    have hns:=newsQ_snoc (l.take i0) S.g (l[i0]'hil)
    rw [show l.take i0 ++ [l[i0]'hil]=l.take (i0 + 1) by rw [List.take_add_one,List.getElem?_eq_getElem hil]; rfl] at hns
    obtain ⟨x,hx⟩:∃ x,x=l[i0]'hil:=⟨_,rfl⟩
    have hx2:(curQ S.ws n).1[i0]'(by rw [← Hl.out]; exact hil)=x:=by rw [hx]; congr 1; exact Hl.out.symm
    rw [hx2] at q0 q1 q2
    rw [← hx] at hts hns
    obtain ⟨kd,y,v⟩:=x
    dsimp only at q0 q1 q2 hts hns
    obtain ⟨wA,hwA⟩:∃ wA,wA=wr.alloc (.cells #[.int .i64 kd,.int .i64 y,.int .u64 (v:Nat)] 74):=⟨_,rfl⟩
    have bA:Below wr.heap.size wr wA:=by rw [hwA]; exact ba _ _
    have kA:Blk wA wr.heap.size 74 #[.int .i64 kd,.int .i64 y,.int .u64 (v:Nat)]:=by rw [hwA]; exact Blk.new _ _ _
    have a0:=kA.cell 0
    have a2:=kA.cell 2
    simp only [List.getElem?_toArray,List.getElem?_cons_zero,List.getElem?_cons_succ] at a0 a2
    have hJA:=HR.out.bel bA
    have HWA:=Lib.hid hwA
    by_cases hk3:kd=3
    ·subst hk3
     rw [if_pos rfl] at hts hns
     obtain ⟨gv,hgv⟩:∃ gv,gv=S.g + (putsL (l.take i0):Nat):=⟨_,rfl⟩
     rw [← hgv] at hJA hns
     obtain ⟨K0,hK0⟩:∃ K0,K0=keptI S.I n ++ newsQ S.g (l.take i0):=⟨_,rfl⟩
     rw [← hK0] at hJA
     have hpb:putsL (l.take i0)≤16:=by
      have h1:=H.out.2.1.room
      have h2:=putsW_others S.ws n H.out.1.nd
      have h3:putsL (l.take i0)≤putsL l:=by
       unfold putsL
       exact ((List.take_sublist i0 l).filter _).length_le
      rw [Hl.out] at h3 ⊢
      omega
     have hgb:0≤gv∧gv≤4611686018427387952:=by have:=H.out.2.1.g0; have:=H.out.2.1.last; omega
     have hww:IntKind.i64.wrap (gv + 1)=gv + 1:=IntWalk.i64_in _ (by omega)
     have cg1:wA.cell? ⟨g,of + 1,none⟩=some (.int .i64 gv):=(hJA.bk.cell (of + 1)).trans (set_at H.out.1.la)
     have fg1:=hJA.bk.frozen (of + 1)
     have hJB:=hJA.last hgl (gv + 1)
     obtain ⟨WB,hWB⟩:∃ WB,WB=wA.setCell ⟨g,of + 1,none⟩ (.int .i64 (gv + 1)):=⟨_,rfl⟩
     rw [← hWB] at hJB
     have kB:=kA.kept (lgrown_set wA ⟨g,of + 1,none⟩ (.int .i64 (gv + 1))) (fun e => by injection e with e; dsimp only at e; have:=HR.out.gr.size; omega)
     rw [← hWB] at kB
     have hJC:=hJB.bel (W':=WB.drew) ⟨rfl,rfl,rfl,Nat.le_refl _,fun _ _ => rfl⟩
     have hkl:K0.length≤900:=by
      have h1:(keptI S.I n).length≤S.I.length:=List.length_filter_le _ _
      have h2:=H.out.1.iv.room
      rw [hK0,List.length_append,newsQ_len]; omega
     obtain ⟨A2,c2,m2,k2,hm2,own2⟩:=hJC.ls
     have HCC:=Lib.hid (And.intro (⟨hJC.gr,hJC.bk,hJC.sz,hJC.kn,hJC.dm,kB.below (⟨rfl,rfl,rfl,Nat.le_refl _,fun _ _ => rfl⟩:Below WB.heap.size WB WB.drew) kB.lt⟩:CC w WB.drew g of tt cs n (gv + 1) D wr.heap.size #[.int .i64 3,.int .i64 y,.int .u64 (v:Nat)]) (And.intro k2 (And.intro own2 (fun r (e:blk A2=some r) => (own_blk own2 r e).1))))
     have HCM:=Lib.hid (And.intro hm2 hkl)
     have HFin:Hid (∀ u,CJ w u g of tt cs n (K0 ++ [⟨gv + 1,v,0⟩]) (gv + 1) D→CJ w u g of tt cs n (keptI S.I n ++ newsQ S.g (l.take (i0 + 1))) (S.g + (putsL (l.take (i0 + 1)):Nat)) D):=Lib.hid (fun u hu => by
      rw [hts,hns,← List.append_assoc,← hK0]
      have:S.g + ((putsL (l.take i0) + 1:Nat):Int)=gv + 1:=by rw [hgv]; push_cast; omega
      rw [this]
      exact hu)
     have z1:=hJB.bk.cell (of + 1)
     have HWB:=Lib.hid hWB
     rw [hwA] at a0 a2 cg1 fg1
     clear hJA hJB hJC kA kB bA hts hns hx hx2 hcs HR hwA hWB k2 hkl hpb hgb hgv own2 hm2 z1 hK0
     gi_wp2_with fail
     rw [← HWA.out,← HWB.out]
     refine (wpIn_wide).2 ?_
     clear a0 a2 cg1 fg1
     refine wp_region_invU (F:=?FK) (V:=VCo w g of wr.heap.size m2 c2 tt cs n A2 K0 (gv + 1) v D #[.int .i64 3,.int .i64 y,.int .u64 (v:Nat)]) (dead:=fun j => if j=8 then some 9 else if j=9 then some 10 else none) (T:=TCo w m2 c2 A2 K0) (C:=fun u => CC w u g of tt cs n (gv + 1) D wr.heap.size #[.int .i64 3,.int .i64 y,.int .u64 (v:Nat)]) (E:=ECo (w.heap.size + 1) A2) (by kernel_rfl) (by kernel_rfl) (by kernel_rfl) (fun x_1 => ?hFK) ?hmonoK ?hTmK ?hTK ?hCK ?stepK ?finK
     case hFK => simp only [mkA,Act.put,List.setIfInBounds_toArray,List.set_cons_succ,List.set_cons_zero,Nat.reduceAdd,Nat.zero_add]; first | with_reducible rfl | rfl
     case hmonoK => exact fun k' j z u u' he hjk hwt hdd hv => VCo.mono he hjk (fun hh => hdd (by rcases hh with ⟨rfl,rfl⟩; rfl)) (fun hh => hdd (by rcases hh with ⟨rfl,rfl⟩; rfl)) (fun hh => by rcases hh with ⟨rfl,rfl⟩; rw [show waitsU _ 10 9=true by kernel_rfl] at hwt; cases hwt) hv
     case hTmK => exact fun k' j u u' he hkj hwt hv => TCo.mono he hkj (fun hh => by rcases hh with ⟨rfl,rfl | rfl⟩; rw [show waitsU _ 9 0=true by kernel_rfl] at hwt; cases hwt; rw [show waitsU _ 10 0=true by kernel_rfl] at hwt; cases hwt) (fun hh => by rcases hh with ⟨rfl,rfl⟩; rw [show waitsU _ 10 9=true by kernel_rfl] at hwt; cases hwt) hv
     case hTK => exact fun j => by unfold TCo; split <;> first | exact HCC.out.2.1 | exact HCC.out.2.2.1 | exact ⟨HCC.out.2.1,HCC.out.2.2.2⟩ | trivial
     case hCK => exact HCC.out.1
     case stepK =>
      refine AllOps.cons (fun x_1 u hC hT hp K hK => ?_) ?_
      ·clear hp
       have cc:=(show Blk u (w.heap.size + 1) 96 #[.slice A2 m2 c2] from hT).cell 0
       simp only [List.getElem?_toArray,List.getElem?_cons_zero] at cc
       clear hT
       go_simp
       refine hK _ _ _ hC (Below.refl _ _) (by exact rfl) ?_
       first | (simp only [Act.put,List.setIfInBounds_toArray,List.set_cons_succ,List.set_cons_zero]; done) | simp [Act.put]
      refine AllOps.cons (fun x_1 u hC hT hp K hK => ?_) ?_
      ·clear hp hT
       go_simp
       refine hK _ _ _ hC (Below.refl _ _) (by exact rfl) ?_
       first | (simp only [Act.put,List.setIfInBounds_toArray,List.set_cons_succ,List.set_cons_zero]; done) | simp [Act.put]
      refine AllOps.cons (fun x_1 u hC hT hp K hK => ?_) ?_
      ·simp [KnownTill,Region.binds,VCo] at hp
       clear hT
       go_simp
       refine hK _ _ _ hC (Below.refl _ _) (by exact rfl) ?_
       first | (simp only [Act.put,List.setIfInBounds_toArray,List.set_cons_succ,List.set_cons_zero,hp]; done) | simp [Act.put,hp]
      refine AllOps.cons (fun x_1 u hC hT hp K hK => ?_) ?_
      ·simp [KnownTill,Region.binds,VCo] at hp
       clear hT
       go_simp
       refine hK _ _ _ hC (Below.refl _ _) (by exact rfl) ?_
       first | (simp only [Act.put,List.setIfInBounds_toArray,List.set_cons_succ,List.set_cons_zero,hp]; done) | simp [Act.put,hp]
      refine AllOps.cons (fun x_1 u hC hT hp K hK => ?_) ?_
      ·simp [KnownTill,Region.binds,VCo] at hp
       clear hT
       have cc:=((show CC w u g of tt cs n (gv + 1) D wr.heap.size #[.int .i64 3,.int .i64 y,.int .u64 (v:Nat)] from hC).bk.cell (of + 1)).trans (set_at H.out.1.la)
       go_simp
       refine hK _ _ _ hC (Below.refl _ _) (by exact rfl) ?_
       first | (simp only [Act.put,List.setIfInBounds_toArray,List.set_cons_succ,List.set_cons_zero,hp]; done) | simp [Act.put,hp]
      refine AllOps.cons (fun x_1 u hC hT hp K hK => ?_) ?_
      ·clear hp hT
       go_simp
       refine hK _ _ _ hC (Below.refl _ _) (by exact rfl) ?_
       first | (simp only [Act.put,List.setIfInBounds_toArray,List.set_cons_succ,List.set_cons_zero]; done) | simp [Act.put]
      refine AllOps.cons (fun x_1 u hC hT hp K hK => ?_) ?_
      ·simp [KnownTill,Region.binds,VCo] at hp
       clear hT
       have cc:=(show CC w u g of tt cs n (gv + 1) D wr.heap.size #[.int .i64 3,.int .i64 y,.int .u64 (v:Nat)] from hC).ch.cell 2
       simp only [List.getElem?_toArray,List.getElem?_cons_zero,List.getElem?_cons_succ] at cc
       go_simp
       refine hK _ _ _ hC (Below.refl _ _) (by exact rfl) ?_
       first | (simp only [Act.put,List.setIfInBounds_toArray,List.set_cons_succ,List.set_cons_zero,hp]; done) | simp [Act.put,hp]
      refine AllOps.cons (fun x_1 u hC hT hp K hK => ?_) ?_
      ·simp [KnownTill,Region.binds,VCo] at hp
       clear hT
       go_simp
       refine hK _ _ _ hC (Below.refl _ _) (by exact rfl) ?_
       first | (simp only [Act.put,List.setIfInBounds_toArray,List.set_cons_succ,List.set_cons_zero,hp]; done) | simp [Act.put,hp]
      refine AllOps.cons (fun x_1 u hC hT hp K hK => ?_) ?_
      ·simp [KnownTill,Region.binds,VCo] at hp
       clear hT
       have kn:=Blk.new u 152 #[.int .i64 (gv + 1),.int .u64 (v:Nat),.int .i64 0]
       go_simp
       refine hK (.slice (some ⟨u.heap.size,0,none⟩) 1 1) _ _ (CC.bel hC hgl (ba _ _)) (ba _ _) ⟨u.heap.size,rfl,kn,(show CC w u g of tt cs n (gv + 1) D wr.heap.size #[.int .i64 3,.int .i64 y,.int .u64 (v:Nat)] from hC).sz⟩ ?_
       first | (simp only [Act.put,List.setIfInBounds_toArray,List.set_cons_succ,List.set_cons_zero,hp]; done) | simp [Act.put,hp]
      refine AllOps.cons (fun x_1 u hC hT hp K hK => ?_) ?_
      ·simp [KnownTill,Region.binds,VCo] at hp
       obtain ⟨qb,h8,hqb,hqle⟩:∃ qb,x_1 8=.slice (some ⟨qb,0,none⟩) 1 1∧Blk u qb 152 #[.int .i64 (gv + 1),.int .u64 (v:Nat),.int .i64 0]∧w.heap.size + 2≤qb:=by first | exact hp | exact hp.1 | exact hp.2.1 | exact hp.2.2.1 | exact hp.2.2.2.1 | exact hp.2.2.2.2.1 | exact hp.2.2.2.2.2.1 | exact hp.2.2.2.2.2.2.1 | exact hp.2.2.2.2.2.2.2.1 | exact hp.2.2.2.2.2.2.2.2.1 | exact hp.2.2.2.2.2.2.2.2.2.1 | exact hp.2.2.2.2.2.2.2.2.2.2.1 | exact hp.2.2.2.2.2.2.2.2.2.2.2.1 | exact hp.2.2.2.2.2.2.2.2.2.2.2.2.1 | exact hp.2.2.2.2.2.2.2.2.2.2.2.2.2.1 | exact hp.2 | exact hp.2.2 | exact hp.2.2.2 | exact hp.2.2.2.2 | exact hp.2.2.2.2.2 | exact hp.2.2.2.2.2.2 | exact hp.2.2.2.2.2.2.2 | exact hp.2.2.2.2.2.2.2.2 | exact hp.2.2.2.2.2.2.2.2.2 | exact hp.2.2.2.2.2.2.2.2.2.2 | exact hp.2.2.2.2.2.2.2.2.2.2.2 | exact hp.2.2.2.2.2.2.2.2.2.2.2.2 | exact hp.2.2.2.2.2.2.2.2.2.2.2.2.2
       have h0:x_1 0=.slice A2 m2 c2:=by first | exact hp | exact hp.1 | exact hp.2.1 | exact hp.2.2.1 | exact hp.2.2.2.1 | exact hp.2.2.2.2.1 | exact hp.2.2.2.2.2.1 | exact hp.2.2.2.2.2.2.1 | exact hp.2.2.2.2.2.2.2.1 | exact hp.2.2.2.2.2.2.2.2.1 | exact hp.2.2.2.2.2.2.2.2.2.1 | exact hp.2.2.2.2.2.2.2.2.2.2.1 | exact hp.2.2.2.2.2.2.2.2.2.2.2.1 | exact hp.2.2.2.2.2.2.2.2.2.2.2.2.1 | exact hp.2.2.2.2.2.2.2.2.2.2.2.2.2.1 | exact hp.2 | exact hp.2.2 | exact hp.2.2.2 | exact hp.2.2.2.2 | exact hp.2.2.2.2.2 | exact hp.2.2.2.2.2.2 | exact hp.2.2.2.2.2.2.2 | exact hp.2.2.2.2.2.2.2.2 | exact hp.2.2.2.2.2.2.2.2.2 | exact hp.2.2.2.2.2.2.2.2.2.2 | exact hp.2.2.2.2.2.2.2.2.2.2.2 | exact hp.2.2.2.2.2.2.2.2.2.2.2.2 | exact hp.2.2.2.2.2.2.2.2.2.2.2.2.2
       have own2:OwnI u (w.heap.size + 2) A2 c2 K0:=hT
       obtain ⟨A3,c3,w8,hrun,own8,g8⟩:=it_one own2 ⟨gv + 1,v,0⟩ qb m2 hqb HCM.out.1 (by have:=HCM.out.1; have:=HCM.out.2; omega) (show CC w u g of tt cs n (gv + 1) D wr.heap.size #[.int .i64 3,.int .i64 y,.int .u64 (v:Nat)] from hC).sz
       refine step_append_run rfl (.tmp 51) (.tmp 59) 96 rfl (.slice A2 m2 c2) (.slice (some ⟨qb,0,none⟩) 1 1) _ w8 (by show x_1 0=_; exact h0) (by show x_1 8=_; exact h8) hrun ?_
       refine hK _ _ _ (CC.row hC hgl g8 (fun r e => by obtain ⟨q1,q2⟩:=own_blk own2 r e; exact ⟨by omega,q2⟩)) g8 ⟨A3,c3,rfl,own8⟩ rfl
      refine AllOps.cons (fun x_1 u hC hT hp K hK => ?_) ?_
      ·simp [KnownTill,Region.binds,VCo] at hp
       obtain ⟨A3,c3,h9,own3⟩:∃ A3 c3,x_1 9=.slice A3 (m2 + 1) c3∧OwnI u (w.heap.size + 2) A3 c3 (K0 ++ [⟨gv + 1,v,0⟩]):=by first | exact hp | exact hp.1 | exact hp.2.1 | exact hp.2.2.1 | exact hp.2.2.2.1 | exact hp.2.2.2.2.1 | exact hp.2.2.2.2.2.1 | exact hp.2.2.2.2.2.2.1 | exact hp.2.2.2.2.2.2.2.1 | exact hp.2.2.2.2.2.2.2.2.1 | exact hp.2.2.2.2.2.2.2.2.2.1 | exact hp.2.2.2.2.2.2.2.2.2.2.1 | exact hp.2.2.2.2.2.2.2.2.2.2.2.1 | exact hp.2.2.2.2.2.2.2.2.2.2.2.2.1 | exact hp.2.2.2.2.2.2.2.2.2.2.2.2.2.1 | exact hp.2 | exact hp.2.2 | exact hp.2.2.2 | exact hp.2.2.2.2 | exact hp.2.2.2.2.2 | exact hp.2.2.2.2.2.2 | exact hp.2.2.2.2.2.2.2 | exact hp.2.2.2.2.2.2.2.2 | exact hp.2.2.2.2.2.2.2.2.2 | exact hp.2.2.2.2.2.2.2.2.2.2 | exact hp.2.2.2.2.2.2.2.2.2.2.2 | exact hp.2.2.2.2.2.2.2.2.2.2.2.2 | exact hp.2.2.2.2.2.2.2.2.2.2.2.2.2
       have kw:Blk u (w.heap.size + 1) 96 #[.slice A2 m2 c2]:=hT.1
       have cc:=kw.cell 0
       have ff:=kw.frozen 0
       simp only [List.getElem?_toArray,List.getElem?_cons_zero,List.getElem?_cons_succ] at cc
       have gF:=lgrown_set u ⟨w.heap.size + 1,0,none⟩ (.slice A3 (m2 + 1) c3)
       have cF:=CC.row hC hgl gF (fun r e => by cases e; exact ⟨Nat.le_refl _,_,_,by decide,kw⟩)
       have jF:CJ w (u.setCell ⟨w.heap.size + 1,0,none⟩ (.slice A3 (m2 + 1) c3)) g of tt cs n (K0 ++ [⟨gv + 1,v,0⟩]) (gv + 1) D:=⟨cF.gr,cF.bk,cF.sz,cF.kn,⟨A3,c3,m2 + 1,by simpa using kw.set_ 0 (.slice A3 (m2 + 1) c3),by rw [List.length_append,HCM.out.1]; rfl,own3.grown gF (fun r e e2 => by cases e; have h9:=(World.ownsRow.lt own3 _ (by rw [ownBlock_slice]; exact e2)).1; dsimp only at h9; omega)⟩,cF.dm⟩
       have JF:=Lib.hid jF
       clear kw hT jF own3
       go_simp
       refine hK undef _ _ cF gF JF.out ?_
       first | (simp only [Act.put,List.setIfInBounds_toArray,List.set_cons_succ,List.set_cons_zero,hp,h9]; done) | simp [Act.put,hp,h9]
      exact AllOps.nil
     case finK =>
      intro x_1 u hC hV
      have hJ8:=hV 10 (by decide) rfl
      have HN2:=Lib.hid (HFin.out u hJ8)
      clear hV hC hJ8
      gi_wp2_with fail
      exact ⟨⟨i0 + 1,by omega,by go_num,HN2.out |> Lib.hid⟩,by simp [intOf]; omega⟩
    ·rw [if_neg hk3] at hts hns
     have hkb:(kd == 3)=false:=by simp [hk3]
     have HN2:Hid (CJ w wA g of tt cs n (keptI S.I n ++ newsQ S.g (l.take (i0 + 1))) (S.g + (putsL (l.take (i0 + 1)):Nat)) D):=Lib.hid (by rw [hts,hns]; exact hJA)
     rw [hwA] at a0 a2
     clear hJA kA bA hts hns hx hx2 hcs HR hwA
     gi_wp2_with fail
     rw [← HWA.out]
     exact ⟨⟨i0 + 1,by omega,by go_num,HN2⟩,by simp [intOf]; omega⟩
   ·obtain rfl:i0=q:=by omega
    have hiI:¬ (i0:Int) < (i0:Int):=by omega
    have hlq:l.take i0=l:=List.take_of_length_le (by rw [Hl.out,← H.out.2.2.2.1]; exact Nat.le_refl _)
    have hJ:=HR.out
    rw [hlq] at hJ
    obtain ⟨A2,c2,m2,k2,hm2,own2⟩:=hJ.ls
    obtain ⟨K0,hK0⟩:∃ K0,K0=keptI S.I n ++ newsQ S.g l:=⟨_,rfl⟩
    obtain ⟨gv,hgv⟩:∃ gv,gv=S.g + (putsL l:Nat):=⟨_,rfl⟩
    rw [← hK0] at hm2 own2 hJ
    rw [← hgv] at hJ
    have hpl:putsL l≤putsW S.ws:=by
     have h2:=putsW_others S.ws n H.out.1.nd
     rw [Hl.out]; omega
    have hKl:K0.length≤S.I.length + putsL l:=by
     have h1:(keptI S.I n).length≤S.I.length:=List.length_filter_le _ _
     rw [hK0,List.length_append,newsQ_len]; omega
    have hqi:QInv { S with I:=K0,g:=gv }:=by
     have h1:=H.out.2.1.room
     have h2:=H.out.2.1.g0
     have h3:=H.out.2.1.last
     exact ⟨by dsimp only; omega,by dsimp only; omega,by dsimp only; omega⟩
    have hgs:=lgrown_set wr ⟨g,of,none⟩ (.slice A2 m2 c2)
    obtain ⟨wX,hwX⟩:∃ wX,wX=wr.setCell ⟨g,of,none⟩ (.slice A2 m2 c2):=⟨_,rfl⟩
    rw [← hwX] at hgs
    have kX:Blk wX g tt ((cs.setIfInBounds (of + 1) (.int .i64 gv)).setIfInBounds of (.slice A2 m2 c2)):=by rw [hwX]; exact hJ.bk.set_ of _
    have hit:=H.out.1.it
    obtain ⟨A9,n9,c9,i9,_⟩:=hit
    have hX:=H.out.1.both (W:=wX) (hJ.gr.trans hgs) kX (A:=A2) (n:=m2) (c:=c2) (I':=K0) (g':=gv) (by rw [set_at (v:=.slice A9 n9 c9)]; rw [set_get (by omega)]; exact i9) (by rw [set_get (by omega)]; exact set_at H.out.1.la) (by rw [set_get (by omega),set_get (by omega)]) hm2 (by have:=own2.capB; omega) ((own2.at_.kept hgs hJ.bk H.out.1.ty.2).mono fun _ _ _ => trivial) hqi
    have HDr:=Lib.hid (drop_any g of tt _ _ N n wX hX H.out.2.2.1)
    have e6:=k2.cell 0
    have en:=hJ.kn.cell 0
    have enX:=(hJ.kn.kept hgs (fun e => by injection e with e; dsimp only at e; omega)).cell 0
    have eg:∃ v,wr.cell? ⟨g,of,none⟩=some v:=⟨_,(hJ.bk.cell of).trans (by rw [set_get (by omega)]; exact i9)⟩
    obtain ⟨vg,eg⟩:=eg
    have fg:=hJ.bk.frozen of
    simp only [List.getElem?_toArray,List.getElem?_cons_zero] at e6 en enX
    have hDX:wX.heap[D]?=some (.deferred (some [])):=(hgs.block D (Array.getElem?_eq_some_iff.1 hJ.dm).1 (fun e => by
     injection e with e
     have h9:=hJ.dm
     have h8:=hJ.bk
     unfold Blk at h8
     dsimp only at e
     rw [e,h8] at h9
     cases h9)).trans hJ.dm
    have HX:=Lib.hid (And.intro (hJ.gr.trans hgs) (And.intro hDX (And.intro kX.lt (And.intro hgv hK0))))
    have HWX:=Lib.hid hwX
    rw [hwX] at enX
    clear hJ k2 own2 hm2 hK0 hgv hpl hKl hqi hgs kX hX hDX hwX hlq HR i9
    gi_wp2_with fail
    rw [← HWX.out]
    refine ⟨trivial,((callsIn_wide).2 HDr.out).mono ?_⟩
    rintro e W3 ⟨rfl,⟨⟨cs',hq3,hkp⟩,hg3⟩⟩
    have HF:=Lib.hid (And.intro hq3 (And.intro hkp hg3))
    have hDd3:W3.heap[D]?=some (.deferred (some [])):=(hg3.block D (Array.getElem?_eq_some_iff.1 HX.out.2.1).1 (fun e => by injection e with e; have:=HDw.out; omega)).trans HX.out.2.1
    clear hq3 hkp hg3 e6 en enX eg fg
    gi_wp2_with fail
    refine leaves_marks [D] W3 ((MarksAt.nil W3 w.heap.size).cons HDw.out hDd3 (fun E hE => by cases hE)) ⟨_,results_tmp rfl _ _ _,?_⟩
    have hq9:=HF.out.1.marked hDd3 (.deferred none)
    rw [HX.out.2.2.2.1,HX.out.2.2.2.2,Hl.out] at hq9
    refine ⟨rfl,⟨cs',hq9,((Keep3.set cs (of + 1) (.inr (.inl rfl)) _).trans (Keep3.set _ of (.inl rfl) _)).trans HF.out.2.1⟩,(HX.out.1.trans HF.out.2.2).andThen (grownBy_putObj' W3 D _) (fun j e => by cases e; exact .inl HDw.out)⟩
 case stop =>
  rintro D cd xs W hD _ hf
  exact hf.elim
end Go.Proofs.YtlliaihmfimdoaaGreat.Qu


namespace Go.Proofs.YtlliaihmfimdoaaGreat.Qu
open Go.RowKit Go.Maps Go.Deep
def eqIT (a1:Int) (a2:Nat) (a3 b1:Int) (b2:Nat) (b3:Int):Bool:=(a1 == b1) && ((a2 == b2) && (a3 == b3))
theorem neI (a1:Int) (a2:Nat) (a3 b1:Int) (b2:Nat) (b3:Int) (w:World):(binOp .neq 152 (.agg #[.int .i64 a1,.int .u64 (a2:Nat),.int .i64 a3]) (.agg #[.int .i64 b1,.int .u64 (b2:Nat),.int .i64 b3])).run Tryz.prog w=.ok (.bool (!eqIT a1 a2 a3 b1 b2 b3)) w:=by
 rw [run_neq_struct,run_equalIn_struct w 9999 152 _ _ (by kernel_rfl) (by kernel_rfl)]
 unfold eqIT
 have hc:((a2:Int) == (b2:Int))=(a2 == b2):=by
  rw [Bool.eq_iff_iff,beq_iff_eq,beq_iff_eq]; omega
 rw [← hc]
 by_cases h1:a1=b1
 ·by_cases h2:(a2:Int)=b2
  ·by_cases h3:a3=b3
   ·simp [Op.eqFields,Program.fieldsOf,Tryz.underlying152,go_sem,h1,h2,h3]
   ·simp [Op.eqFields,Program.fieldsOf,Tryz.underlying152,go_sem,h1,h2,h3]
  ·simp [Op.eqFields,Program.fieldsOf,Tryz.underlying152,go_sem,h1,h2]
 ·simp [Op.eqFields,Program.fieldsOf,Tryz.underlying152,go_sem,h1]
theorem cell_drew' {w:World} {a:Addr} {v:Value} (h:w.cell? a=v) (m:Nat):(w.drewN m).cell? a=v:=h
def fitsQ:List IT→List Ch→Bool
 | _,[] => true
 | L,x :: r => if x.k=3 then (x.y == 0) && fitsQ L r else if x.k=4 then (match L with
  | [] => false
  | i :: L' => eqIT i.n i.v i.t x.y x.v 0 && fitsQ L' r) else false
theorem ItAt.tail {u:World} {x:IT} {L:List IT} {b o:Nat} (h:ItAt u anyB (some ⟨b,o,none⟩) (x :: L)):ItAt u anyB (some ⟨b,o + 3,none⟩) L:=fun hl => by
 obtain ⟨b',o',e,hb,hc⟩:=h (by simp)
 cases e
 refine ⟨b,o + 3,rfl,hb,fun i hi => ?_⟩
 have:=hc (i + 1) (by simpa using hi)
 rw [show o + (i + 1) * 3=o + 3 + i * 3 by omega] at this
 exact this
set_option maxRecDepth 100000 in
set_option maxHeartbeats 4000000 in
theorem fits_any (g of:Nat) (tt:TypeId) (cs:Array Value) (S:QS) (N:Nat) (A:Option Addr) (l:List Ch) (n c:Nat) (w:World) (h:QAt w g of tt cs S N) (hn:Hid (n=l.length)) (hm:n≤1000000) (hL:InL w A l) :
  Calls Tryz.prog 118 #[.pointer (some ⟨g,of,none⟩),.slice A n c] w fun e w' => e=.returned (.bool (fitsQ S.I l))∧Below w.heap.size w w':=by
 obtain ⟨A0,n0,c0,i1,i2,i3,i4,i5⟩:=h.it
 have hn48:n0≤48:=by have:=h.iv.room; omega
 have cg:=(h.bk.cell of).trans i1
 obtain ⟨R,hR⟩:∃ R,R=fitsQ S.I l:=⟨_,rfl⟩
 rw [← hR]
 have HI:Hid (∃ L:List IT,R=fitsQ L (l.drop 0)∧n0=L.length∧ItAt w anyB A0 L∧Below w.heap.size w w):=Lib.hid ⟨S.I,hR,i2,i5,Below.refl _ _⟩
 have HL:=Lib.hid hL
 clear h i1 i2 i5 hR hL
 go_enter Tryz.func118,Tryz.ntmps118
 go_wp2_with fail
 go_loopw [14,5] (fun i lf wr => ∃ (i0 nk ck:Nat) (Ak:Option Addr),i0≤n∧i=.int .i64 i0∧lf=.slice Ak nk ck∧nk≤ck∧ck≤9223372036854775807∧nk≤48∧Hid (∃ L:List IT,R=fitsQ L (l.drop i0)∧nk=L.length∧ItAt wr anyB Ak L∧Below w.heap.size w wr)) (fun i _ _ => n - (intOf i).toNat)
 case atStart => exact ⟨0,n0,c0,A0,Nat.zero_le _,rfl,rfl,i3,i4,hn48,HI⟩
 case round =>
  clear HI cg
  obtain ⟨i0,nk,ck,Ak,hi0,rfl,rfl,hnk,hck,hnk48,HR⟩:=hrel
  by_cases hiq:i0 < n
  ·have hiI:(i0:Int) < (n:Int):=by omega
   obtain ⟨L,hRL,hkl,hat,hb⟩:=HR.out
   have hil:i0 < l.length:=by rw [← hn.out]; exact hiq
   obtain ⟨b,o,rfl,_,hcs⟩:=(HL.out.below hb) (by omega)
   obtain ⟨q0,q1,q2⟩:=hcs i0 hil
   rw [List.drop_eq_getElem_cons hil] at hRL
   obtain ⟨x,hx⟩:∃ x,x=l[i0]'hil:=⟨_,rfl⟩
   rw [← hx] at q0 q1 q2 hRL
   obtain ⟨kd,y,v⟩:=x
   dsimp only at q0 q1 q2
   obtain ⟨wA,hwA⟩:∃ wA,wA=wr.alloc (.cells #[.int .i64 kd,.int .i64 y,.int .u64 (v:Nat)] 74):=⟨_,rfl⟩
   have bA:Below wr.heap.size wr wA:=by rw [hwA]; exact ba _ _
   have kA:Blk wA wr.heap.size 74 #[.int .i64 kd,.int .i64 y,.int .u64 (v:Nat)]:=by rw [hwA]; exact Blk.new _ _ _
   have a0:=kA.cell 0
   have a1:=kA.cell 1
   have a2:=kA.cell 2
   simp only [List.getElem?_toArray,List.getElem?_cons_zero,List.getElem?_cons_succ] at a0 a1 a2
   have hbA:=bt hb bA
   have hatA:=hat.below bA
   have HWA:=Lib.hid hwA
   rw [hwA] at a0 a1 a2
   by_cases hk3:kd=3
   ·subst hk3
    have hR3:R=((y == 0) && fitsQ L (l.drop (i0 + 1))):=by rw [hRL]; rfl
    by_cases hy:y=0
    ·subst hy
     have HN2:Hid (∃ L:List IT,R=fitsQ L (l.drop (i0 + 1))∧nk=L.length∧ItAt wA anyB Ak L∧Below w.heap.size w wA):=Lib.hid ⟨L,by rw [hR3]; simp,hkl,hatA,hbA⟩
     clear hcs hx hRL hR3 hkl hat hb hbA hatA hwA bA kA HR
     go_wp2
     rw [← HWA.out]
     go_roundw
     case rel => exact ⟨i0 + 1,nk,ck,Ak,by omega,by go_num,rfl,hnk,hck,hnk48,HN2⟩
     case measure => simp [intOf]; omega
    ·have hyb:(y != 0)=true:=by simp [hy]
     have HF:Hid (R=false∧Below w.heap.size w wA):=Lib.hid ⟨by rw [hR3]; simp [hy],hbA⟩
     clear hcs hx hRL hR3 hkl hat hb hbA hatA hwA bA kA HR
     go_wp2
     rw [← HWA.out]
     go_ret
     exact ⟨by rw [HF.out.1]; rfl,HF.out.2⟩
   ·have hk3b:(kd == 3)=false:=by simp [hk3]
    by_cases hk4:kd=4
    ·subst hk4
     cases L with
     | nil =>
      have HF:Hid (R=false∧∀ nq,Below w.heap.size w (wA.drewN nq)):=Lib.hid ⟨by rw [hRL]; rfl,fun nq => bt hbA ⟨rfl,rfl,rfl,Nat.le_refl _,fun _ _ => rfl⟩⟩
      obtain rfl:nk=0:=hkl
      clear hcs hx hRL hat hb hbA hatA bA kA HR
      go_wp2_with fail
      rw [← HWA.out]
      clear hwA a0 a1 a2
      go_quiet (fail)
      go_wp2
      go_ret
      exact ⟨by rw [HF.out.1]; rfl,HF.out.2 _⟩
     | cons it L' =>
      obtain ⟨b2,o2,rfl,hbk2,hcs2⟩:=hatA (by simp)
      obtain ⟨p0,p1,p2⟩:=hcs2 0 (by simp)
      obtain ⟨xn,xv,xt⟩:=it
      simp only [Nat.zero_mul,Nat.add_zero,List.getElem_cons_zero] at p0 p1 p2
      have hnk1:(nk:Int)≠0:=by rw [hkl]; simp; omega
      have hnkb:((nk:Int) == 0)=false:=by simpa using hnk1
      have hnk0:decide (0 < (nk:Int))=true:=by simp; rw [hkl]; simp
      have hR4:R=(eqIT xn xv xt y v 0 && fitsQ L' (l.drop (i0 + 1))):=by rw [hRL]; rfl
      have hne:=neI xn xv xt y v 0
      have t0:=fun m:Nat => cell_drew' p0 m
      have t1:=fun m:Nat => cell_drew' p1 m
      have t2:=fun m:Nat => cell_drew' p2 m
      have s1:=fun m:Nat => (show (wA.drewN m).cell? ⟨wr.heap.size,1,none⟩=some (.int .i64 y) from kA.cell 1)
      have s2:=fun m:Nat => (show (wA.drewN m).cell? ⟨wr.heap.size,2,none⟩=some (.int .u64 (v:Nat)) from kA.cell 2)
      have htl:ItAt wA anyB (some ⟨b2,o2 + 3,none⟩) L':=hatA.tail
      obtain ⟨ck1,rfl⟩:∃ ck1,ck=ck1 + 1:=⟨ck - 1,by rw [hkl] at hnk; simp at hnk; omega⟩
      have hsl1:(1:Int)≤(nk:Int):=by omega
      have hsl2:(nk:Int)≤((ck1 + 1:Nat):Int):=by omega
      have HN2:Hid (∀ nq,eqIT xn xv xt y v 0=true→∃ L:List IT,R=fitsQ L (l.drop (i0 + 1))∧nk - 1=L.length∧ItAt (wA.drewN nq) anyB (if ck1=0 then some ⟨b2,o2,none⟩ else some ⟨b2,o2 + 3,none⟩) L∧Below w.heap.size w (wA.drewN nq)):=Lib.hid (fun nq he => ⟨L',by rw [hR4,he]; simp,by rw [hkl]; simp,by
       by_cases e:ck1=0
       ·intro hl; rw [hkl] at hnk; simp at hnk; omega
       ·rw [if_neg e]; exact htl.below ⟨rfl,rfl,rfl,Nat.le_refl _,fun _ _ => rfl⟩,bt hbA ⟨rfl,rfl,rfl,Nat.le_refl _,fun _ _ => rfl⟩⟩)
      have HF:Hid (∀ nq,(eqIT xn xv xt y v 0=false→R=false)∧Below w.heap.size w (wA.drewN nq)):=Lib.hid (fun nq => ⟨fun he => by rw [hR4,he]; rfl,bt hbA ⟨rfl,rfl,rfl,Nat.le_refl _,fun _ _ => rfl⟩⟩)
      generalize eqIT xn xv xt y v 0=ez at hne HN2 HF
      clear hcs hx hRL hat hb hbA hatA hwA bA kA HR hkl hcs2 hbk2 p0 p1 p2 hR4 htl
      rcases ez with _ | _
      ·go_wp2_with fail
       rw [← HWA.out]
       clear a0 a1 a2
       go_quiet (fail)
       have HF2:=Lib.hid (And.intro ((HF.out nq).1 (by first | exact rfl | trivial)) (HF.out nq).2)
       clear t0 t1 t2 s1 s2
       go_wp2
       go_ret
       exact ⟨by rw [HF2.out.1]; rfl,HF2.out.2⟩
      ·go_wp2_with fail
       rw [← HWA.out]
       clear a0 a1 a2
       go_quiet (fail)
       have HN3:=Lib.hid (HN2.out nq (by first | exact rfl | trivial))
       clear t0 t1 t2 s1 s2 HN2
       go_wp2
       exact ⟨⟨i0 + 1,nk - 1,ck1,_,by omega,by go_num,rfl,by omega,by omega,by omega,HN3⟩,by simp [intOf]; omega⟩
    ·have hk4b:(kd == 4)=false:=by simp [hk4]
     have HF:Hid (R=false∧Below w.heap.size w wA):=Lib.hid ⟨by rw [hRL]; unfold fitsQ; rw [if_neg hk3,if_neg hk4],hbA⟩
     clear hcs hx hRL hkl hat hb hbA hatA hwA bA kA HR
     go_wp2
     rw [← HWA.out]
     go_ret
     exact ⟨by rw [HF.out.1]; rfl,HF.out.2⟩
  ·obtain rfl:i0=n:=by omega
   have hiI:¬ (i0:Int) < (i0:Int):=by omega
   have HF:Hid (R=true∧Below w.heap.size w wr):=Lib.hid (by
    obtain ⟨L,hRL,_,_,hb⟩:=HR.out
    rw [List.drop_of_length_le (by rw [← hn.out]; exact Nat.le_refl _)] at hRL
    exact ⟨by rw [hRL]; unfold fitsQ; rfl,hb⟩)
   clear HR
   go_wp2
   go_ret
   exact ⟨by rw [HF.out.1]; rfl,HF.out.2⟩
end Go.Proofs.YtlliaihmfimdoaaGreat.Qu


namespace Go.Proofs.YtlliaihmfimdoaaGreat.Qu
open Go.RowKit Go.Maps Go.Deep
theorem putsL_snoc (l:List Ch) (x:Ch):putsL (l ++ [x])=putsL l + (if x.k=3 then 1 else 0):=by
 unfold putsL
 rw [List.filter_append,List.length_append]
 congr 1
 by_cases e:x.k=3
 ·simp [e]
 ·simp [e]
theorem addQ_puts (ws:List WQ) (n:Int) (x:Ch) (hd:ws.Pairwise fun a b => a.n≠b.n):putsW (addQ ws n x)=putsW ws + (if x.k=3 then 1 else 0):=by
 have h:=putsW_lay ws n ((curQ ws n).1 ++ [x]) (curQ ws n).2 hd
 rw [putsL_snoc] at h
 unfold addQ
 omega
theorem roomQ_one {S:QS} (h:¬ roomQ S < 1):S.I.length + putsW S.ws + 1≤16∧S.g + 1 + (putsW S.ws:Int) + 1≤4611686018427387904:=by
 unfold roomQ at h
 omega
theorem QInv.add {S:QS} (h:QInv S) (hd:S.ws.Pairwise fun a b => a.n≠b.n) (n:Int) (x:Ch) (hr:x.k=3→¬ roomQ S < 1):QInv { S with ws:=addQ S.ws n x }:=by
 have hp:=addQ_puts S.ws n x hd
 have h1:=h.room
 have h2:=h.last
 by_cases e:x.k=3
 ·obtain ⟨r1,r2⟩:=roomQ_one (hr e)
  rw [if_pos e] at hp
  exact ⟨by dsimp only; omega,h.g0,by dsimp only; omega⟩
 ·rw [if_neg e] at hp
  exact ⟨by dsimp only; omega,h.g0,by dsimp only; omega⟩
theorem QOk.add {S:QS} (h:QOk S) (hd:S.ws.Pairwise fun a b => a.n≠b.n) (n:Int) (x:Ch) (hr:x.k=3→¬ roomQ S < 1):QOk { S with ws:=addQ S.ws n x }:=by
 have hp:=addQ_puts S.ws n x hd
 have h1:=h.room
 have h2:=h.last
 by_cases e:x.k=3
 ·obtain ⟨r1,r2⟩:=roomQ_one (hr e)
  rw [if_pos e] at hp
  exact ⟨by dsimp only; omega,h.g0,by dsimp only; omega⟩
 ·rw [if_neg e] at hp
  exact ⟨by dsimp only; omega,h.g0,by dsimp only; omega⟩
theorem openE_cases (S:QS) (n:Int):(openE S n=1∧n < 1)∨(openE S n=7∧1≤n∧(curQ S.ws n).2=true)∨(openE S n=0∧1≤n∧(curQ S.ws n).2=false):=by
 unfold openE
 by_cases h:n < 1
 ·exact .inl ⟨if_pos h,h⟩
 ·rw [if_neg h]
  rcases hc:(curQ S.ws n).2 with _ | _
  ·exact .inr (.inr ⟨by simp,by omega,rfl⟩)
  ·exact .inr (.inl ⟨by simp,by omega,rfl⟩)
def putM (S:QS) (n:Int) (v:Nat):Int × QS:=if openE S n≠0 then (openE S n,S) else if roomQ S < 1 then (5,S) else (0,{ S with ws:=addQ S.ws n ⟨3,0,v⟩ })
theorem put_nil (n:Int) (v:Nat) (w:World):Calls Tryz.prog 76 #[.pointer none,.int .i64 n,.int .u64 (v:Nat)] w fun e w' => e=.returned (.int .i64 6)∧w=w':=by
 go_enter Tryz.func76,Tryz.ntmps76
 go_wp2_with fail
 refine (open_nil n w).mono ?_
 rintro e w1 ⟨rfl,rfl⟩
 go_wp2
 go_ret
 exact ⟨rfl,rfl⟩
set_option maxRecDepth 100000 in
set_option maxHeartbeats 2000000 in
theorem put_any (g of:Nat) (tt:TypeId) (cs:Array Value) (S:QS) (N:Nat) (n:Int) (v:Nat) (w:World) (h:QAt w g of tt cs S N) (hN:N < 300000) (hn:i64ok n) (hB:∀ b,w.heap.size≤b→S.B b) :
  Calls Tryz.prog 76 #[.pointer (some ⟨g,of,none⟩),.int .i64 n,.int .u64 (v:Nat)] w fun e w' => e=.returned (.int .i64 (putM S n v).1)∧QO w g of tt cs (putM S n v).2 (N + 1) w':=by
 have HO:=Lib.hid (open_any g of tt cs S N n w h hn)
 obtain ⟨er,her⟩:∃ er,er=openE S n:=⟨_,rfl⟩
 rw [← her] at HO
 by_cases h0:er=0
 ·subst h0
  have HR:=Lib.hid (room_any g of tt cs S N w h (by omega))
  by_cases hr:roomQ S < 1
  ·have hM:putM S n v=(5,S):=by unfold putM; rw [if_neg (by rw [← her]; simp),if_pos hr]
   rw [hM]
   have HF:=Lib.hid (fun u (hb:Below w.heap.size w u) => QO.same (h.more (Nat.le_succ N)) hb)
   generalize roomQ S=rr at hr HR
   clear h hM her hB
   go_enter Tryz.func76,Tryz.ntmps76
   go_wp2_with fail
   refine HO.out.mono ?_
   rintro e w1 ⟨rfl,rfl⟩
   go_wp2_with fail
   refine HR.out.mono ?_
   rintro e w2 ⟨rfl,b2⟩
   have HF2:=Lib.hid (HF.out w2 b2)
   clear b2
   go_wp2
   go_ret
   exact ⟨rfl,HF2.out⟩
  ·have hM:putM S n v=(0,{ S with ws:=addQ S.ws n ⟨3,0,v⟩ }):=by unfold putM; rw [if_neg (by rw [← her]; simp),if_neg hr]
   rw [hM]
   have HA:=Lib.hid (fun u (hb:Below w.heap.size w u) => add_any g of tt cs S N n ⟨3,0,v⟩ u (h.below hb) hN hn (fun b hle => hB b (Nat.le_trans hb.size hle)) (h.iv.add h.nd n ⟨3,0,v⟩ (fun _ => hr)))
   generalize roomQ S=rr at hr HR
   clear h hM her hB
   go_enter Tryz.func76,Tryz.ntmps76
   go_wp2_with fail
   refine HO.out.mono ?_
   rintro e w1 ⟨rfl,rfl⟩
   go_wp2_with fail
   refine HR.out.mono ?_
   rintro e w2 ⟨rfl,b2⟩
   have HA2:=Lib.hid (HA.out w2 b2)
   have HB:=Lib.hid b2
   clear b2
   go_wp2_with fail
   refine HA2.out.mono ?_
   rintro e w3 ⟨rfl,hq⟩
   have HF2:=Lib.hid (QO.from Keep3.rfl' (lbelow_grown HB.out (some g)) hq)
   clear hq
   go_wp2
   go_ret
   exact ⟨rfl,HF2.out⟩
 ·have hM:putM S n v=(er,S):=by unfold putM; rw [if_pos (by rw [← her]; exact h0),her]
  rw [hM]
  have HF:=Lib.hid (QO.same (h.more (Nat.le_succ N)) (Below.refl _ _))
  have hb:(er != 0)=true:=by simp [h0]
  clear h hM her hB
  go_enter Tryz.func76,Tryz.ntmps76
  go_wp2_with fail
  refine HO.out.mono ?_
  rintro e w1 ⟨rfl,rfl⟩
  go_wp2
  go_ret
  exact ⟨rfl,HF.out⟩
theorem front_ok {L:List IT} {n:Int} (h:(frontR L n).2=0):∃ hh:(frontR L n).1 < L.length,(L[(frontR L n).1]'hh).t=0∧(L[(frontR L n).1]'hh).t≠n∧∀ j (hj:j < L.length),j < (frontR L n).1→(L[j]'hj).t=n:=by
 unfold frontR at h ⊢
 rcases hf:(ixs L).find? (fun x => decide (x.2.t≠n)) with _ | x
 ·rw [hf] at h; simp at h
 ·rw [hf] at h ⊢
  dsimp only at h ⊢
  by_cases h0:x.2.t=0
  ·rw [if_pos h0] at h ⊢
   rw [List.find?_eq_some_iff_getElem] at hf
   obtain ⟨h1,i,hi,e,h2⟩:=hf
   have hil:i < L.length:=by rw [show (ixs L).length=L.length from ixsF_len L 0] at hi; exact hi
   obtain ⟨hh,e2⟩:=ixs_get L i hil
   rw [e2] at e
   subst e
   dsimp only at h0 h1 ⊢
   refine ⟨hil,h0,by simpa using h1,fun j hj hji => ?_⟩
   obtain ⟨hh3,e3⟩:=ixs_get L j hj
   have:=h2 j hji
   rw [e3] at this
   simpa using this
  ·rw [if_neg h0] at h; simp at h
def takeM (S:QS) (n:Int):(Nat × Int) × QS :=
 if openE S n≠0 then ((0,openE S n),S)
 else if (frontR S.I n).2≠0 then ((0,(frontR S.I n).2),S)
 else match S.I[(frontR S.I n).1]? with
  | some x => ((x.v,0),{ S with I:=giveI S.I (frontR S.I n).1 n,ws:=addQ S.ws n ⟨4,x.n,x.v⟩ })
  | none => ((0,0),S)
set_option maxRecDepth 100000 in
set_option maxHeartbeats 2000000 in
theorem take_any (g of:Nat) (tt:TypeId) (cs:Array Value) (S:QS) (N:Nat) (n:Int) (w:World) (h:QAt w g of tt cs S N) (hN:N < 300000) (hn:i64ok n) (hB:∀ b,w.heap.size≤b→S.B b) :
  Calls Tryz.prog 80 #[.pointer (some ⟨g,of,none⟩),.int .i64 n] w fun e w' => e=.returned (.tuple #[.int .u64 ((takeM S n).1.1:Nat),.int .i64 (takeM S n).1.2])∧QO w g of tt cs (takeM S n).2 (N + 1) w':=by
 have HO:=Lib.hid (open_any g of tt cs S N n w h hn)
 obtain ⟨er,her⟩:∃ er,er=openE S n:=⟨_,rfl⟩
 rw [← her] at HO
 by_cases h0:er=0
 ·subst h0
  have HFr:=Lib.hid (front_any g of tt cs S N n w h)
  by_cases hf:(frontR S.I n).2=0
  ·obtain ⟨hi,ht0,htn,_⟩:=front_ok hf
   obtain ⟨i,hie⟩:∃ i,i=(frontR S.I n).1:=⟨_,rfl⟩
   rw [hf,← hie] at HFr
   have hM:takeM S n=(((S.I[(frontR S.I n).1]'hi).v,0),{ S with I:=giveI S.I (frontR S.I n).1 n,ws:=addQ S.ws n ⟨4,(S.I[(frontR S.I n).1]'hi).n,(S.I[(frontR S.I n).1]'hi).v⟩ }):=by
    unfold takeM; rw [if_neg (by rw [← her]; simp),if_neg (by rw [hf]; simp),List.getElem?_eq_getElem hi]
   rw [hM]
   obtain ⟨x,hx⟩:∃ x,x=S.I[(frontR S.I n).1]'hi:=⟨_,rfl⟩
   obtain ⟨A0,n0,c0,i1,i2,i3,i4,i5⟩:=h.it
   have hn48:n0≤48:=by have:=h.iv.room; omega
   rw [← hie] at hi
   have hx2:x=S.I[i]'hi:=by rw [hx]; congr 1; exact hie.symm
   rw [← hx,← hie]
   have hin:i < n0:=by omega
   have hinI:(i:Int) < (n0:Int):=by omega
   have HC0:=Lib.hid (fun u (hb:Below w.heap.size w u) => ((h.below hb).bk.cell of).trans i1)
   have HI:=Lib.hid (fun u (hb:Below w.heap.size w u) => i5.below hb)
   have HG:=Lib.hid (fun u (hb:Below w.heap.size w u) => give_any g of tt cs S N i n u (h.below hb) hi)
   have hnd:=h.nd
   have H:=Lib.hid (And.intro h (And.intro hx2 (And.intro hi (And.intro hB hn))))
   clear h hM hx hf hie her i1 i2 i5 ht0 htn hnd hx2
   obtain ⟨xn,xv,xt⟩:=x
   dsimp only
   go_enter Tryz.func80,Tryz.ntmps80
   go_wp2_with fail
   refine HO.out.mono ?_
   rintro e w1 ⟨rfl,rfl⟩
   go_wp2_with fail
   refine HFr.out.mono ?_
   rintro e w2 ⟨rfl,b2⟩
   have cg:=HC0.out w2 b2
   obtain ⟨b,o,rfl,hbk,hcs⟩:=(HI.out w2 b2) (by have:=H.out.2.2.1; omega)
   obtain ⟨q0,q1,q2⟩:=hcs i H.out.2.2.1
   rw [← H.out.2.1] at q0 q1 q2
   dsimp only at q0 q1 q2
   obtain ⟨w3,hw3⟩:∃ w3,w3=w2.alloc (.cells #[.int .i64 xn,.int .u64 (xv:Nat),.int .i64 xt] 152):=⟨_,rfl⟩
   have b3:Below w2.heap.size w2 w3:=by rw [hw3]; exact ba _ _
   have k3:Blk w3 w2.heap.size 152 #[.int .i64 xn,.int .u64 (xv:Nat),.int .i64 xt]:=by rw [hw3]; exact Blk.new _ _ _
   have HG2:=Lib.hid (HG.out w3 (bt b2 b3))
   obtain ⟨tb,htb⟩:∃ tb,tb=w2.heap.size:=⟨_,rfl⟩
   rw [← htb] at k3
   have Htb:=Lib.hid htb
   have hgl:=H.out.1.lt
   have hgt:g≠tb:=by rw [htb]; have:=b2.size; omega
   have H3:=Lib.hid (And.intro (bt b2 b3) (And.intro k3 hgt))
   have HW3:=Lib.hid hw3
   clear b2 hbk hcs hw3 b3 k3 htb
   go_wp2_with fail
   rw [← HW3.out]
   refine HG2.out.mono ?_
   rintro e w4 ⟨rfl,⟨⟨cs4,hq4,hkp4⟩,hg4⟩⟩
   have k4:=H3.out.2.1.kept hg4 (fun e => hgt (by injection e with e; exact e.symm))
   have e0:=k4.cell 0
   have e1:=k4.cell 1
   simp only [List.getElem?_toArray,List.getElem?_cons_zero,List.getElem?_cons_succ] at e0 e1
   have HA:=Lib.hid (add_any g of tt cs4 _ N n ⟨4,xn,xv⟩ w4 hq4 hN H.out.2.2.2.2 (fun b hle => H.out.2.2.2.1 b (by have:=H3.out.1.size; have:=hg4.size; omega)) (hq4.iv.add hq4.nd n ⟨4,xn,xv⟩ (fun e => by cases e)))
   have H4:=Lib.hid (And.intro hkp4 (And.intro ((lbelow_grown H3.out.1 (some g)).trans hg4) k4))
   rw [Htb.out] at e0 e1
   clear hq4 hkp4 hg4 k4 cg q0 q1 q2
   go_wp2_with fail
   refine HA.out.mono ?_
   rintro e w5 ⟨rfl,⟨⟨cs5,hq5,hkp5⟩,hg5⟩⟩
   have k5:=H4.out.2.2.kept hg5 (fun e => hgt (by injection e with e; exact e.symm))
   have e1':=k5.cell 1
   simp only [List.getElem?_toArray,List.getElem?_cons_zero,List.getElem?_cons_succ] at e1'
   rw [Htb.out] at e1'
   have HF:Hid (QO w g of tt cs { S with I:=giveI S.I i n,ws:=addQ S.ws n ⟨4,xn,xv⟩ } (N + 1) w5):=Lib.hid ⟨⟨cs5,hq5,H4.out.1.trans hkp5⟩,H4.out.2.1.trans hg5⟩
   clear hq5 hkp5 hg5 k5 e0 e1
   go_wp2
   go_ret2
   exact ⟨rfl,HF.out⟩
  ·have hM:takeM S n=((0,(frontR S.I n).2),S):=by unfold takeM; rw [if_neg (by rw [← her]; simp),if_pos hf]
   rw [hM]
   have HF:=Lib.hid (fun u (hb:Below w.heap.size w u) => QO.same (h.more (Nat.le_succ N)) hb)
   generalize (frontR S.I n).1=fi at HFr
   generalize (frontR S.I n).2=fe at HFr hf ⊢
   have hfb:(fe != 0)=true:=by simp [hf]
   clear h hM her hB
   go_enter Tryz.func80,Tryz.ntmps80
   go_wp2_with fail
   refine HO.out.mono ?_
   rintro e w1 ⟨rfl,rfl⟩
   go_wp2_with fail
   refine HFr.out.mono ?_
   rintro e w2 ⟨rfl,b2⟩
   have HF2:=Lib.hid (HF.out w2 b2)
   clear b2
   go_wp2
   go_ret2
   exact ⟨rfl,HF2.out⟩
 ·have hM:takeM S n=((0,er),S):=by unfold takeM; rw [if_pos (by rw [← her]; exact h0),her]
  rw [hM]
  have HF:=Lib.hid (QO.same (h.more (Nat.le_succ N)) (Below.refl _ _))
  have hb:(er != 0)=true:=by simp [h0]
  clear h hM her hB
  go_enter Tryz.func80,Tryz.ntmps80
  go_wp2_with fail
  refine HO.out.mono ?_
  rintro e w1 ⟨rfl,rfl⟩
  go_wp2
  go_ret2
  exact ⟨rfl,HF.out⟩
end Go.Proofs.YtlliaihmfimdoaaGreat.Qu


namespace Go.Proofs.YtlliaihmfimdoaaGreat.Qu
open Go.RowKit Go.Maps Go.Deep
theorem QAt.cur_len {w:World} {g of N:Nat} {tt:TypeId} {cs:Array Value} {S:QS} (h:QAt w g of tt cs S N) (n:Int):(curQ S.ws n).1.length≤N:=by
 unfold curQ lookQ
 rcases hf:findQ S.ws n with _ | y
 ·exact Nat.zero_le _
 ·exact (h.le y (findQ_mem hf).1).1
theorem lay_same (ws:List WQ) (n:Int) (p:Bool) (hd:ws.Pairwise fun a b => a.n≠b.n):putsW (layQ ws n (curQ ws n).1 p)=putsW ws:=by
 have:=putsW_lay ws n (curQ ws n).1 p hd
 omega
theorem QInv.ws {S:QS} {ws':List WQ} (h:QInv S) (hp:putsW ws'=putsW S.ws):QInv { S with ws:=ws' }:=⟨by dsimp only; rw [hp]; exact h.room,h.g0,by dsimp only; rw [hp]; exact h.last⟩
theorem QOk.ws' {S:QS} {ws':List WQ} (h:QOk S) (hp:putsW ws'=putsW S.ws):QOk { S with ws:=ws' }:=⟨by dsimp only; rw [hp]; exact h.room,h.g0,by dsimp only; rw [hp]; exact h.last⟩
def prepM (S:QS) (n:Int):(List Ch × Int) × QS :=
 if openE S n≠0 then (([],openE S n),S) else if (lookQ S.ws n).isSome=false then (([],0),S) else (((curQ S.ws n).1,0),{ S with ws:=layQ S.ws n (curQ S.ws n).1 true })
set_option maxRecDepth 100000 in
set_option maxHeartbeats 2000000 in
theorem prep_any (g of:Nat) (tt:TypeId) (cs:Array Value) (S:QS) (N:Nat) (n:Int) (w:World) (h:QAt w g of tt cs S N) (hN:N < 300000) (hn:i64ok n) :
  Calls Tryz.prog 63 #[.pointer (some ⟨g,of,none⟩),.int .i64 n] w fun e w' => (∃ A q c,e=.returned (.tuple #[.slice A q c,.int .i64 (prepM S n).1.2])∧q=(prepM S n).1.1.length∧OwnC w' w.heap.size A c (prepM S n).1.1)∧QO w g of tt cs (prepM S n).2 (N + 1) w':=by
 have HO:=Lib.hid (open_any g of tt cs S N n w h hn)
 obtain ⟨er,her⟩:∃ er,er=openE S n:=⟨_,rfl⟩
 rw [← her] at HO
 by_cases h0:er=0
 ·subst h0
  obtain ⟨m,A,q,c,h32,hq,hc,_,r2⟩:=h.look hn
  have c32:=(h.bk.cell (of + 2)).trans h32
  have hlen:=h.cur_len n
  obtain ⟨p,hp⟩:∃ p,p=(curQ S.ws n).2:=⟨_,rfl⟩
  rw [← hp] at r2
  obtain ⟨w3,hw3⟩:∃ w3,w3=w.alloc (.cells #[.slice A q c,.bool p] 143):=⟨_,rfl⟩
  have b3:Below w.heap.size w w3:=by rw [hw3]; exact ba _ _
  have kw:Blk w3 w.heap.size 143 #[.slice A q c,.bool p]:=by rw [hw3]; exact Blk.new _ _ _
  have d1:=kw.cell 1
  have f1:=kw.frozen 1
  simp only [List.getElem?_toArray,List.getElem?_cons_zero,List.getElem?_cons_succ] at d1
  have HW3:=Lib.hid hw3
  rcases hs:(lookQ S.ws n).isSome with _ | _
  ·have hM:prepM S n=(([],0),S):=by unfold prepM; rw [if_neg (by rw [← her]; simp),if_pos hs]
   rw [hM]
   rw [hs] at r2
   have HF:=Lib.hid (QO.same (h.more (Nat.le_succ N)) b3)
   rw [hw3] at d1 f1
   clear h hM her hq hc h32 hlen hp hw3 b3 kw hs
   go_enter Tryz.func63,Tryz.ntmps63
   go_wp2_with fail
   refine HO.out.mono ?_
   rintro e w1 ⟨rfl,rfl⟩
   go_wp2
   rw [← HW3.out]
   go_ret2
   exact ⟨⟨none,0,0,rfl,rfl,OwnC.nil _ _⟩,HF.out⟩
  ·have hM:prepM S n=(((curQ S.ws n).1,0),{ S with ws:=layQ S.ws n (curQ S.ws n).1 true }):=by unfold prepM; rw [if_neg (by rw [← her]; simp),if_neg (by rw [hs]; simp)]
   rw [hM]
   rw [hs] at r2
   obtain ⟨l,hl⟩:∃ l,l=(curQ S.ws n).1:=⟨_,rfl⟩
   have hinv:QInv { S with ws:=layQ S.ws n l true }:=by rw [hl]; exact h.iv.ws (lay_same S.ws n true h.nd)
   rw [← hl] at hq hc hlen ⊢
   obtain ⟨w4,hw4⟩:∃ w4,w4=w.alloc (.cells #[.slice A q c,.bool true] 143):=⟨_,rfl⟩
   have b4:Below w.heap.size w w4:=by rw [hw4]; exact ba _ _
   have kw4:Blk w4 w.heap.size 143 #[.slice A q c,.bool true]:=by rw [hw4]; exact Blk.new _ _ _
   have hgl:=h.lt
   have HL:=Lib.hid (lay_any g of tt cs S N n A l q c true w4 (h.below b4) (by omega) hn hq (by omega) (hc.below b4) hinv)
   have p0:=kw4.cell 0
   have p1:=kw4.cell 1
   simp only [List.getElem?_toArray,List.getElem?_cons_zero,List.getElem?_cons_succ] at p0 p1
   have H4:=Lib.hid (And.intro kw4 (And.intro b4 (And.intro (hc.below b4) (And.intro (h.below b4).bk (And.intro h.ty.1 (And.intro hgl (And.intro hq hlen)))))))
   have HW4:=Lib.hid hw4
   rw [hw3] at d1 f1
   rw [hw4] at p0 p1
   clear h hM her hq hc h32 hlen hp hw3 b3 kw hs hl hinv hw4 b4 kw4 hgl
   go_enter Tryz.func63,Tryz.ntmps63
   go_wp2_with fail
   refine HO.out.mono ?_
   rintro e w1 ⟨rfl,rfl⟩
   go_wp2_with fail
   rw [← HW4.out]
   refine HL.out.mono ?_
   rintro e w5 ⟨rfl,⟨⟨cs5,hk5,hkp5⟩,hg5⟩⟩
   obtain ⟨kw4,b4,hc4,hbk,hty,hgl,hq,hlen⟩:=H4.out
   have kw5:=kw4.kept hg5 (fun e => by have:=Option.some.inj e; omega)
   have HCl:=Lib.hid (cclone_any A l q c w5 (Lib.hid hq) (Lib.hid (by omega)) (hc4.kept hg5 hbk hty))
   have p0':=kw5.cell 0
   simp only [List.getElem?_toArray,List.getElem?_cons_zero,List.getElem?_cons_succ] at p0'
   have H5:=Lib.hid (And.intro hk5 (And.intro hkp5 (And.intro ((lbelow_grown b4 (some g)).trans hg5) hq)))
   clear d1 f1 p0 p1 kw4 b4 hc4 hbk hty hk5 hkp5 hg5 kw5 hgl hq hlen
   go_wp2_with fail
   refine HCl.out.mono ?_
   rintro e w6 ⟨A6,c6,rfl,own6,b6⟩
   have HF:=Lib.hid (And.intro own6 (And.intro (H5.out.1.below b6) (H5.out.2.2.1.trans (lbelow_grown b6 (some g)))))
   clear own6 b6 p0'
   go_wp2
   go_ret2
   exact ⟨⟨A6,q,c6,rfl,H5.out.2.2.2,HF.out.1.less H5.out.2.2.1.size⟩,⟨cs5,HF.out.2.1,H5.out.2.1⟩,HF.out.2.2⟩
 ·have hM:prepM S n=(([],er),S):=by unfold prepM; rw [if_pos (by rw [← her]; exact h0),her]
  rw [hM]
  have HF:=Lib.hid (QO.same (h.more (Nat.le_succ N)) (Below.refl _ _))
  have hb:(er != 0)=true:=by simp [h0]
  clear h hM her
  go_enter Tryz.func63,Tryz.ntmps63
  go_wp2_with fail
  refine HO.out.mono ?_
  rintro e w1 ⟨rfl,rfl⟩
  go_wp2
  go_ret2
  exact ⟨⟨none,0,0,rfl,rfl,OwnC.nil _ _⟩,HF.out⟩
end Go.Proofs.YtlliaihmfimdoaaGreat.Qu


namespace Go.Proofs.YtlliaihmfimdoaaGreat.Qu
open Go.RowKit Go.Maps Go.Deep
def givenI (L:List IT) (n:Int) (k:Nat):List IT:=(L.take k).map (fun x => { x with t:=n }) ++ L.drop k
theorem givenI_len (L:List IT) (n:Int) (i:Nat):(givenI L n i).length=L.length:=by
 unfold givenI; rw [List.length_append,List.length_map,List.length_take,List.length_drop]; omega
theorem givenI_step (L:List IT) (n:Int) (i:Nat) (h:i < L.length):giveI (givenI L n i) i n=givenI L n (i + 1):=by
 have e1:L.drop i=L[i]'h :: L.drop (i + 1):=List.drop_eq_getElem_cons h
 have e2:L.take (i + 1)=L.take i ++ [L[i]'h]:=by rw [List.take_add_one,List.getElem?_eq_getElem h]; rfl
 have hl:((L.take i).map (fun x:IT => { x with t:=n })).length=i:=by rw [List.length_map,List.length_take]; omega
 have e3:givenI L n i=(L.take i).map (fun x => { x with t:=n }) ++ L[i]'h :: L.drop (i + 1):=by unfold givenI; rw [e1]
 have e4:givenI L n (i + 1)=(L.take i).map (fun x => { x with t:=n }) ++ { (L[i]'h) with t:=n } :: L.drop (i + 1):=by unfold givenI; rw [e2,List.map_append,List.append_assoc]; rfl
 rw [e3,e4]
 have:=giveI_app ((L.take i).map (fun x:IT => { x with t:=n })) (L[i]'h) (L.drop (i + 1)) n
 rw [hl] at this
 exact this
theorem givenI_zero (L:List IT) (n:Int):givenI L n 0=L:=by unfold givenI; simp
theorem fits_len:∀ (l:List Ch) (L:List IT),fitsQ L l=true→l.length≤L.length + putsL l
 | [],L,_ => by simp
 | x :: r,L,h => by
  have h3:putsL (x :: r)=(if x.k=3 then 1 else 0) + putsL r:=by
   unfold putsL; rw [List.filter_cons]
   by_cases e:x.k=3
   ·simp [e]; omega
   ·simp [e]
  unfold fitsQ at h
  by_cases e:x.k=3
  ·rw [if_pos e] at h h3
   have:=fits_len r L (by rw [Bool.and_eq_true] at h; exact h.2)
   rw [h3]; simp; omega
  ·rw [if_neg e] at h h3
   by_cases e4:x.k=4
   ·rw [if_pos e4] at h
    cases L with
    | nil => cases h
    | cons i L' =>
     have:=fits_len r L' (by simp only [Bool.and_eq_true] at h; exact h.2)
     rw [h3]; simp; omega
   ·rw [if_neg e4] at h; cases h
def restM (S:QS) (n:Int) (l:List Ch):Int × QS :=
 if n < 1 then (1,S) else if fitsQ S.I l=false then (1,S) else if roomQ S < (putsL l:Nat) then (1,S) else if (lookQ S.ws n).isSome=true then (7,S) else if l=[] then (0,S)
 else (0,{ S with I:=givenI S.I n (l.length - putsL l),ws:=layQ S.ws n l true })
theorem lay_new {ws:List WQ} {n:Int} {l:List Ch} {p:Bool} (hd:ws.Pairwise fun a b => a.n≠b.n) (h:(lookQ ws n).isSome=false):putsW (layQ ws n l p)=putsW ws + putsL l:=by
 have:=putsW_lay ws n l p hd
 have h0:putsL (curQ ws n).1=0:=by
  unfold curQ
  rcases hl:lookQ ws n with _ | x
  ·rfl
  ·rw [hl] at h; cases h
 omega
theorem rest_nil (n:Int) (A:Option Addr) (q c:Nat) (w:World):Calls Tryz.prog 73 #[.pointer none,.int .i64 n,.slice A q c] w fun e w' => e=.returned (.int .i64 6)∧w=w':=by
 go_enter Tryz.func73,Tryz.ntmps73
 go_wp2_with fail
 refine (names_nil n w).mono ?_
 rintro e w1 ⟨rfl,rfl⟩
 go_wp2
 go_ret
 exact ⟨rfl,rfl⟩
set_option maxRecDepth 100000 in
set_option maxHeartbeats 4000000 in
theorem rest_any (g of:Nat) (tt:TypeId) (cs:Array Value) (S:QS) (N:Nat) (n:Int) (A:Option Addr) (l:List Ch) (q c:Nat) (w:World) (h:QAt w g of tt cs S N) (hN:N < 300000) (hn:i64ok n) (hq:Hid (q=l.length)) (hqN:q≤N + 1) (hL:∀ u,w.grownBy u (some g)→InL u A l) (hB:∀ b,w.heap.size≤b→S.B b) :
  Calls Tryz.prog 73 #[.pointer (some ⟨g,of,none⟩),.int .i64 n,.slice A q c] w fun e w' => e=.returned (.int .i64 (restM S n l).1)∧QO w g of tt cs (restM S n l).2 (N + 1) w':=by
 have HN:=Lib.hid (names_any g of n w)
 have HF:=Lib.hid (fun u (hb:Below w.heap.size w u) => QO.same (h.more (Nat.le_succ N)) hb)
 by_cases h1:n < 1
 ·have hM:restM S n l=(1,S):=if_pos h1
  rw [hM]
  have hE:namesE n=1:=if_pos h1
  rw [hE] at HN
  clear h hM hE hL hB
  go_enter Tryz.func73,Tryz.ntmps73
  go_wp2_with fail
  refine HN.out.mono ?_
  rintro e w1 ⟨rfl,rfl⟩
  have HF2:=Lib.hid (HF.out w (Below.refl _ _))
  go_wp2
  go_ret
  exact ⟨rfl,HF2.out⟩
 have hE:namesE n=0:=if_neg h1
 rw [hE] at HN
 have HFi:=Lib.hid (fits_any g of tt cs S N A l q c w h hq (by omega) (hL w (lbelow_grown (Below.refl _ _) _)))
 rcases hft:fitsQ S.I l with _ | _
 ·have hM:restM S n l=(1,S):=by unfold restM; rw [if_neg h1,if_pos hft]
  rw [hM]
  rw [hft] at HFi
  clear h hM hE hL hB hft
  go_enter Tryz.func73,Tryz.ntmps73
  go_wp2_with fail
  refine HN.out.mono ?_
  rintro e w1 ⟨rfl,rfl⟩
  go_wp2_with fail
  refine HFi.out.mono ?_
  rintro e w2 ⟨rfl,b2⟩
  have HF2:=Lib.hid (HF.out w2 b2)
  clear b2
  go_wp2
  go_ret
  exact ⟨rfl,HF2.out⟩
 rw [hft] at HFi
 have HPu:=Lib.hid (fun u (hb:Below w.heap.size w u) => puts_any A l q c u hq (by omega) (hL u (lbelow_grown hb _)))
 have HRo:=Lib.hid (fun u (hb:Below w.heap.size w u) => room_any g of tt cs S N u (h.below hb) (by omega))
 obtain ⟨pz,hpz⟩:∃ pz,pz=putsL l:=⟨_,rfl⟩
 obtain ⟨rr,hrr⟩:∃ rr,rr=roomQ S:=⟨_,rfl⟩
 rw [← hpz] at HPu
 rw [← hrr] at HRo
 by_cases hro:rr < (pz:Int)
 ·have hM:restM S n l=(1,S):=by unfold restM; rw [if_neg h1,if_neg (by rw [hft]; simp),if_pos (by rw [← hrr,← hpz]; exact hro)]
  rw [hM]
  clear h hM hE hL hB hft hpz hrr
  go_enter Tryz.func73,Tryz.ntmps73
  go_wp2_with fail
  refine HN.out.mono ?_
  rintro e w1 ⟨rfl,rfl⟩
  go_wp2_with fail
  refine HFi.out.mono ?_
  rintro e w2 ⟨rfl,b2⟩
  have HP2:=Lib.hid (HPu.out w2 b2)
  have HB2:=Lib.hid b2
  clear b2
  go_wp2_with fail
  refine HP2.out.mono ?_
  rintro e w3 ⟨rfl,b3⟩
  have HR3:=Lib.hid (HRo.out w3 (bt HB2.out b3))
  have HB3:=Lib.hid (bt HB2.out b3)
  clear b3
  go_wp2_with fail
  refine HR3.out.mono ?_
  rintro e w4 ⟨rfl,b4⟩
  have HF2:=Lib.hid (HF.out w4 (bt HB3.out b4))
  clear b4
  go_wp2
  go_ret
  exact ⟨rfl,HF2.out⟩
 have HBu:=Lib.hid (fun u (hb:Below w.heap.size w u) => busy_any g of tt cs S N n u (h.below hb) hn)
 rcases hbz:(lookQ S.ws n).isSome with _ | _
 ·rw [hbz] at HBu
  by_cases hl0:l=[]
  ·have hM:restM S n l=(0,S):=by unfold restM; rw [if_neg h1,if_neg (by rw [hft]; simp),if_neg (by rw [← hrr,← hpz]; exact hro),if_neg (by rw [hbz]; simp),if_pos hl0]
   rw [hM]
   obtain rfl:q=0:=by rw [hq.out,hl0]; rfl
   clear h hM hE hL hB hft hpz hrr
   go_enter Tryz.func73,Tryz.ntmps73
   go_wp2_with fail
   refine HN.out.mono ?_
   rintro e w1 ⟨rfl,rfl⟩
   go_wp2_with fail
   refine HFi.out.mono ?_
   rintro e w2 ⟨rfl,b2⟩
   have HP2:=Lib.hid (HPu.out w2 b2)
   have HB2:=Lib.hid b2
   clear b2
   go_wp2_with fail
   refine HP2.out.mono ?_
   rintro e w3 ⟨rfl,b3⟩
   have HR3:=Lib.hid (HRo.out w3 (bt HB2.out b3))
   have HB3:=Lib.hid (bt HB2.out b3)
   clear b3
   go_wp2_with fail
   refine HR3.out.mono ?_
   rintro e w4 ⟨rfl,b4⟩
   have HBu4:=Lib.hid (HBu.out w4 (bt HB3.out b4))
   have HB4:=Lib.hid (bt HB3.out b4)
   clear b4
   go_wp2_with fail
   refine HBu4.out.mono ?_
   rintro e w5 ⟨rfl,b5⟩
   have HF2:=Lib.hid (HF.out w5 (bt HB4.out b5))
   clear b5
   go_wp2
   go_ret
   exact ⟨rfl,HF2.out⟩
  ·have hM:restM S n l=(0,{ S with I:=givenI S.I n (l.length - putsL l),ws:=layQ S.ws n l true }):=by unfold restM; rw [if_neg h1,if_neg (by rw [hft]; simp),if_neg (by rw [← hrr,← hpz]; exact hro),if_neg (by rw [hbz]; simp),if_neg hl0]
   rw [hM]
   have hfl:=fits_len l S.I hft
   have hpl:=putsL_le l
   have hq0:(q:Int)≠0:=by rw [hq.out]; intro e; exact hl0 (List.eq_nil_of_length_eq_zero (by omega))
   have hq0b:((q:Int) == 0)=false:=by simpa using hq0
   obtain ⟨mt,hmt⟩:∃ mt,mt=l.length - putsL l:=⟨_,rfl⟩
   have hmtq:mt≤q:=by have:=hq.out; omega
   have hww:IntKind.i64.wrap ((q:Int) - (pz:Int))=(mt:Int):=by have hqq:=hq.out; rw [IntWalk.i64_in _ (by omega)]; omega
   have hinv:QInv { S with I:=givenI S.I n mt,ws:=layQ S.ws n l true }:=by
    have h2:=lay_new (l:=l) (p:=true) h.nd hbz
    have h3:=h.iv.g0
    unfold roomQ at hrr
    exact ⟨by dsimp only; rw [givenI_len]; omega,h3,by dsimp only; omega⟩
   have H:=Lib.hid (And.intro h (And.intro hn (And.intro hL (And.intro hB (And.intro hinv (And.intro (show mt≤S.I.length by omega) hqN))))))
   rw [← hmt]
   clear h hM hE hL hB hft hpz hrr hinv hfl hpl hmt
   go_enter Tryz.func73,Tryz.ntmps73
   go_wp2_with fail
   refine HN.out.mono ?_
   rintro e w1 ⟨rfl,rfl⟩
   go_wp2_with fail
   refine HFi.out.mono ?_
   rintro e w2 ⟨rfl,b2⟩
   have HP2:=Lib.hid (HPu.out w2 b2)
   have HB2:=Lib.hid b2
   clear b2
   go_wp2_with fail
   refine HP2.out.mono ?_
   rintro e w3 ⟨rfl,b3⟩
   have HR3:=Lib.hid (HRo.out w3 (bt HB2.out b3))
   have HB3:=Lib.hid (bt HB2.out b3)
   clear b3
   go_wp2_with fail
   refine HR3.out.mono ?_
   rintro e w4 ⟨rfl,b4⟩
   have HBu4:=Lib.hid (HBu.out w4 (bt HB3.out b4))
   have HB4:=Lib.hid (bt HB3.out b4)
   clear b4
   go_wp2_with fail
   refine HBu4.out.mono ?_
   rintro e w5 ⟨rfl,b5⟩
   have HP5:=Lib.hid (HPu.out w5 (bt HB4.out b5))
   have HB5:=Lib.hid (bt HB4.out b5)
   clear b5
   go_wp2_with fail
   refine HP5.out.mono ?_
   rintro e w6 ⟨rfl,b6⟩
   have HI0:Hid (QO w g of tt cs { S with I:=givenI S.I n 0 } N w6):=Lib.hid (by rw [givenI_zero]; exact QO.same H.out.1 (bt HB5.out b6))
   clear b6
   go_wp2_with fail
   go_loopw [40] (fun i wr => ∃ (i0:Nat),i0≤mt∧i=.int .i64 i0∧Hid (QO w g of tt cs { S with I:=givenI S.I n i0 } N wr)) (fun i _ => mt - (intOf i).toNat)
   case atStart => exact ⟨0,Nat.zero_le _,rfl,HI0⟩
   case round =>
    clear HI0
    obtain ⟨i0,hi0,rfl,HR⟩:=hrel
    by_cases him:i0 < mt
    ·have hiI:(i0:Int) < (mt:Int):=by omega
     obtain ⟨⟨cs',hq',hkp⟩,hg⟩:=HR.out
     have hcall:=give_any g of tt cs' _ N i0 n wr hq' (by dsimp only; rw [givenI_len]; have:=H.out.2.2.2.2.2.1; omega)
     dsimp only at hcall
     rw [givenI_step S.I n i0 (by have:=H.out.2.2.2.2.2.1; omega)] at hcall
     have HC:=Lib.hid hcall
     have HK:=Lib.hid (And.intro hkp hg)
     clear hcall hq' hkp hg HR
     go_wp2_with fail
     refine HC.out.mono ?_
     rintro e w7 ⟨rfl,hq7⟩
     have HN2:Hid (QO w g of tt cs { S with I:=givenI S.I n (i0 + 1) } N w7):=Lib.hid (QO.from HK.out.1 HK.out.2 hq7)
     clear hq7
     go_wp2
     go_roundw
     case rel => exact ⟨i0 + 1,by omega,by go_num,HN2⟩
     case measure => simp [intOf]; omega
    ·obtain rfl:i0=mt:=by omega
     have hiI:¬ (i0:Int) < (i0:Int):=by omega
     obtain ⟨⟨cs',hq',hkp⟩,hg⟩:=HR.out
     have HCl:=Lib.hid (cclone_in A l q c wr hq (Lib.hid (by have:=H.out.2.2.2.2.2.2; omega)) (H.out.2.2.1 wr hg))
     have HK:=Lib.hid (And.intro hq' (And.intro hkp hg))
     clear hq' hkp hg HR
     go_wp2_with fail
     refine HCl.out.mono ?_
     rintro e w7 ⟨A7,c7,rfl,own7,b7⟩
     have hc7:ChAt w7 S.B A7 l:=own7.at_.mono fun b hb _ => H.out.2.2.2.1 b (by have:=HK.out.2.2.size; have hb:wr.heap.size≤b:=hb; omega)
     have HLay:=Lib.hid (lay_any g of tt cs' { S with I:=givenI S.I n i0 } N n A7 l q c7 true w7 (HK.out.1.below b7) (by omega) H.out.2.1 hq.out (by have:=hq.out; have:=H.out.2.2.2.2.2.2; omega) hc7 H.out.2.2.2.2.1)
     have HB7:=Lib.hid b7
     clear own7 b7 hc7
     go_wp2_with fail
     refine HLay.out.mono ?_
     rintro e w8 ⟨rfl,hq8⟩
     have HFin:=Lib.hid (QO.from HK.out.2.1 (HK.out.2.2.trans (lbelow_grown HB7.out _)) hq8)
     clear hq8
     go_wp2
     go_ret
     exact ⟨rfl,HFin.out⟩
 ·have hM:restM S n l=(7,S):=by unfold restM; rw [if_neg h1,if_neg (by rw [hft]; simp),if_neg (by rw [← hrr,← hpz]; exact hro),if_pos hbz]
  rw [hM]
  rw [hbz] at HBu
  clear h hM hE hL hB hft hpz hrr
  go_enter Tryz.func73,Tryz.ntmps73
  go_wp2_with fail
  refine HN.out.mono ?_
  rintro e w1 ⟨rfl,rfl⟩
  go_wp2_with fail
  refine HFi.out.mono ?_
  rintro e w2 ⟨rfl,b2⟩
  have HP2:=Lib.hid (HPu.out w2 b2)
  have HB2:=Lib.hid b2
  clear b2
  go_wp2_with fail
  refine HP2.out.mono ?_
  rintro e w3 ⟨rfl,b3⟩
  have HR3:=Lib.hid (HRo.out w3 (bt HB2.out b3))
  have HB3:=Lib.hid (bt HB2.out b3)
  clear b3
  go_wp2_with fail
  refine HR3.out.mono ?_
  rintro e w4 ⟨rfl,b4⟩
  have HBu4:=Lib.hid (HBu.out w4 (bt HB3.out b4))
  have HB4:=Lib.hid (bt HB3.out b4)
  clear b4
  go_wp2_with fail
  refine HBu4.out.mono ?_
  rintro e w5 ⟨rfl,b5⟩
  have HF2:=Lib.hid (HF.out w5 (bt HB4.out b5))
  clear b5
  go_wp2
  go_ret
  exact ⟨rfl,HF2.out⟩
end Go.Proofs.YtlliaihmfimdoaaGreat.Qu


namespace Go.Proofs.YtlliaihmfimdoaaGreat.Qu
open Go.RowKit Go.Maps Go.Deep
open Go.WideElems (Fit rg rd_key rg_of)
theorem FSrc.len_ex {f:Value→Bool} {w:World} {m:Option Nat} {n:Nat} {G:Int→Option Value} (h:FSrc f w m n G) (t e:TypeId) (ht:Tryz.prog.underlying t=some (.map 3 e)):∃ q:Nat,q≤n∧(∀ ty,(Builtin.len_ #[t] ty #[.map m]).run Tryz.prog w=.ok (.int .i64 q) w)∧(q=0 ↔ ∀ k,i64ok k→G k=none):=by
 rcases h with ⟨rfl,rfl⟩ | ⟨b,D,rfl,h2,h3⟩
 ·exact ⟨0,Nat.zero_le _,fun ty => Maps.len_nil ht ty,by simp⟩
 ·refine ⟨Maps.size D,h2.size_le,fun ty => h2.len ht ty,?_⟩
  obtain ⟨es,clock,hb,F,hs,rfl⟩:=h2
  constructor
  ·intro h0 k hk
   have hh:=h3.has k hk
   rw [size_eq] at h0
   rw [List.eq_nil_of_length_eq_zero h0] at hh
   rcases hG:G k with _ | u
   ·rfl
   ·rw [hG] at hh; cases hh
  ·intro hn
   rw [size_eq]
   apply Classical.byContradiction
   intro h0
   obtain ⟨p,hp⟩:=List.exists_mem_of_length_pos (Nat.pos_of_ne_zero h0)
   obtain ⟨x,hx,e1⟩:=List.mem_map.1 (mem_sorted.1 hp)
   obtain ⟨y,hy⟩:=F.reads x hx
   have hk:=rd_key hy
   rw [← rg_of hy,e1] at hk
   obtain ⟨k,_,hok,e2⟩:=keyOf_i_inv hk
   have hh:=h3.has k hok
   rw [hn k hok,has_eq] at hh
   have:List.any (List.foldr DataW.insert [] (es.toList.map (rg Tryz.prog 3 (asIf f)))) (fun p => p.1.sameKey (litI k))=true:=List.any_eq_true.2 ⟨p,hp,by rw [e2]; exact WideAt.sameKey_self (show WideAt.IsKeyLit (litI k) from trivial)⟩
   rw [this] at hh
   cases hh
theorem WRel.none_iff {w:World} {B:Nat→Prop} {G:Int→Option Value} {ws:List WQ} (h:WRel w B G (lookQ ws)) (hok:∀ y ∈ ws,i64ok y.n):(∀ k,i64ok k→G k=none) ↔ ws=[]:=by
 constructor
 ·intro hn
  cases ws with
  | nil => rfl
  | cons y r =>
   have e:lookQ (y :: r) y.n=some (y.l,y.p):=by unfold lookQ; rw [findQ_cons,if_pos rfl]; rfl
   obtain ⟨A,n,c,h1,_⟩:=(h y.n).2 _ _ e
   rw [hn y.n (hok y (List.mem_cons_self ..))] at h1
   cases h1
 ·rintro rfl k _
  exact (h k).1 rfl
def UAt (w:World) (A:Option Addr) (zs:List Nat):Prop:=0 < zs.length→∃ b o,A=some ⟨b,o,none⟩∧b < w.heap.size∧∀ i,(h:i < zs.length)→w.cell? ⟨b,o + i,none⟩=some (.int .u64 ((zs[i]'h:Nat):Int))
theorem UAt.below {w w':World} {A:Option Addr} {zs:List Nat} (h:UAt w A zs) (hb:Below w.heap.size w w'):UAt w' A zs:=fun hl => by
 obtain ⟨b,o,e,hlt,hc⟩:=h hl
 exact ⟨b,o,e,Nat.lt_of_lt_of_le hlt hb.size,fun i hi => by
  have:=hc i hi
  unfold World.cell? at this ⊢
  rw [hb.block b hlt]; exact this⟩
theorem OwnU.at_ {w:World} {B:Nat} {A:Option Addr} {c:Nat} {l:List Nat} (h:OwnU w B A c l):UAt w A l:=fun hl => by
 rcases h.2 with ⟨h1,h2⟩ | ⟨g,cap,cur,h1,hb,hg,hn,hm,hc,ht⟩
 ·omega
 ·injection h1 with e1 e2 e3
  refine ⟨g,0,e1,(Array.getElem?_eq_some_iff.1 hg).1,fun i hi => ?_⟩
  have hv:(uV l)[i]?=some (.int .u64 ((l[i]'hi:Nat):Int)):=by unfold uV; rw [List.getElem?_map,List.getElem?_eq_getElem hi]; rfl
  rw [Nat.zero_add,cell_of_row w g i cur _ (0,0) hg]
  rw [← ht,List.getElem?_take] at hv
  split at hv
  ·simpa using hv
  ·cases hv
def loadF:Int→List Nat→List IT
 | _,[] => []
 | k,v :: r => ⟨k,v,0⟩ :: loadF (k + 1) r
theorem loadF_len:∀ (l:List Nat) (k:Int),(loadF k l).length=l.length
 | [],_ => rfl
 | v :: r,k => by simp [loadF,loadF_len r]
theorem loadF_snoc:∀ (l:List Nat) (k:Int) (v:Nat),loadF k (l ++ [v])=loadF k l ++ [⟨k + (l.length:Nat),v,0⟩]
 | [],k,v => by simp [loadF]
 | x :: r,k,v => by
  simp only [List.cons_append,loadF,loadF_snoc r,List.length_cons]
  congr 4
  push_cast
  omega
theorem take_one (L:List Nat) (i:Nat) (h:i < L.length):L.take (i + 1)=L.take i ++ [L[i]'h]:=by
 rw [List.take_add_one,List.getElem?_eq_getElem h]; rfl
def loadM (S:QS) (vals:List Nat) (next:Int):Int × QS :=
 if S.I≠[]∨S.ws≠[] then (7,S) else if 16 < vals.length∨next≤vals.length∨4611686018427387904 < next then (1,S)
 else (0,{ S with I:=loadF (next - vals.length) vals,g:=next - 1 })
set_option maxRecDepth 100000 in
set_option maxHeartbeats 4000000 in
theorem load_any (g of:Nat) (tt:TypeId) (cs:Array Value) (S:QS) (N:Nat) (A:Option Addr) (zs:List Nat) (n c:Nat) (next:Int) (w:World) (h:QAt w g of tt cs S N) (hn:Hid (n=zs.length)) (hz:UAt w A zs) :
  Calls Tryz.prog 54 #[.pointer (some ⟨g,of,none⟩),.slice A n c,.int .i64 next] w fun e w' => e=.returned (.int .i64 (loadM S zs next).1)∧QO w g of tt cs (loadM S zs next).2 N w':=by
 obtain ⟨A0,n0,cp0,a1,a2,a3,a4,a5⟩:=h.it
 obtain ⟨m,G,h4,h5,h6⟩:=h.wk
 obtain ⟨q,hq,hlen,hq0⟩:=FSrc.len_ex h5 97 143 Tryz.underlying97
 have hq1:q=0 ↔ S.ws=[]:=hq0.trans (h6.none_iff fun y hy => (h.le y hy).2)
 have hI:n0=0 ↔ S.I=[]:=by rw [a2]; exact List.length_eq_zero_iff
 have d0:=(h.bk.cell of).trans a1
 have d2:=(h.bk.cell (of + 2)).trans h4
 have hgl:=h.lt
 have d1:=(h.bk.cell (of + 1)).trans h.la
 have f0:=h.bk.frozen of
 have f1:=h.bk.frozen (of + 1)
 have H:=Lib.hid (And.intro h (And.intro hz (And.intro a1 (And.intro h.la hgl))))
 have HS:=Lib.hid (QO.same h (Below.refl _ _))
 clear h5 h6 hq0 a1 a2 a3 a4 a5 h4 hq h hz
 by_cases hi:n0=0
 ·by_cases hw:q=0
  ·have hI0:=hI.1 hi
   have hW0:=hq1.1 hw
   subst hi hw
   by_cases hb:16 < n∨next≤(n:Int)∨4611686018427387904 < next
   ·have hM:loadM S zs next=(1,S):=by unfold loadM; rw [if_neg (by simp [hI0,hW0]),if_pos (by rw [← hn.out]; exact hb)]
    rw [hM]
    clear hM hI hq1 hI0 hW0
    by_cases hb1:16 < n
    ·have b1:(16:Int) < (n:Int):=by omega
     clear hb
     go_enter Tryz.func54,Tryz.ntmps54
     go_wp2
     go_ret
     exact ⟨rfl,HS.out⟩
    ·have b1:¬ (16:Int) < (n:Int):=by omega
     by_cases hb2:next≤(n:Int)
     ·clear hb hb1
      go_enter Tryz.func54,Tryz.ntmps54
      go_wp2
      go_ret
      exact ⟨rfl,HS.out⟩
     ·have hb3:4611686018427387904 < next:=by omega
      clear hb hb1
      go_enter Tryz.func54,Tryz.ntmps54
      go_wp2
      go_ret
      exact ⟨rfl,HS.out⟩
   ·have hM:loadM S zs next=(0,{ S with I:=loadF (next - zs.length) zs,g:=next - 1 }):=by unfold loadM; rw [if_neg (by simp [hI0,hW0]),if_neg (by rw [← hn.out]; exact hb)]
    rw [hM]
    have b1:¬ (16:Int) < (n:Int):=by omega
    have b2:¬ next≤(n:Int):=by omega
    have b3:¬ 4611686018427387904 < next:=by omega
    obtain ⟨k0,hk0⟩:∃ k0,k0=next - (n:Int):=⟨_,rfl⟩
    have hwr:IntKind.i64.wrap (next - (n:Int))=k0:=by rw [hk0]; exact IntWalk.i64_in _ (by omega)
    have hwr1:IntKind.i64.wrap (next - 1)=next - 1:=IntWalk.i64_in _ (by omega)
    have hiv:QInv { S with I:=loadF k0 zs,g:=next - 1 }:=by
     refine ⟨?_,?_,?_⟩
     ·dsimp only; rw [loadF_len,hW0,← hn.out]; show n + 0≤48; omega
     ·dsimp only; omega
     ·dsimp only; rw [hW0]; show next - 1 + 1 + ((0:Nat):Int)≤4611686018427387952; omega
    rw [← hn.out,← hk0]
    have HK:=Lib.hid (And.intro hk0 (And.intro hiv (And.intro b1 (And.intro b2 b3))))
    have Hb1:n≤16:=by omega
    clear hM hI hq1 hI0 hW0 hb hk0 hiv HS d1 f0 f1
    go_enter Tryz.func54,Tryz.ntmps54
    go_wp2_with fail
    go_loopw [7,44] (fun v i wr => ∃ (j n2 c2:Nat) (A2:Option Addr) (K:List IT),v=.slice A2 n2 c2∧Hid (n2=K.length)∧n2=j∧j≤n∧i=.int .i64 j∧OwnI wr w.heap.size A2 c2 K∧Hid (K=loadF k0 (zs.take j))∧Below w.heap.size w wr) (fun _ i _ => n - (intOf i).toNat)
    case atStart => exact ⟨0,0,0,none,[],rfl,rfl,rfl,Nat.zero_le _,rfl,OwnI.nil _ _,rfl,Below.refl _ _⟩
    case round =>
     obtain ⟨j,n2,c2,A2,K,rfl,hn2,rfl,hj,rfl,hown,hK,hbw⟩:=hrel
     by_cases hjn:n2 < n
     ·have hjI:(n2:Int) < (n:Int):=by omega
      have hjz:n2 < zs.length:=by rw [← hn.out]; exact hjn
      obtain ⟨b,o,rfl,hbl,hc⟩:=H.out.2.1.below hbw (by omega)
      have q0:=hc n2 hjz
      have hstep:K ++ [⟨k0 + (n2:Int),zs[n2]'hjz,0⟩]=loadF k0 (zs.take (n2 + 1)):=by
       rw [take_one zs n2 hjz,loadF_snoc,hK.out,List.length_take,Nat.min_eq_left (by omega)]
      generalize zs[n2]'hjz=zv at q0 hstep
      obtain ⟨kz,hkz⟩:∃ kz,kz=k0 + (n2:Int):=⟨_,rfl⟩
      have hwr2:IntKind.i64.wrap (k0 + (n2:Int))=kz:=by rw [hkz]; exact IntWalk.i64_in _ (by have:=HK.out.1; have:=HK.out.2.2; omega)
      rw [← hkz] at hstep
      have hb3:=ba wr (.cells #[.int .i64 kz,.int .u64 (zv:Nat),.int .i64 0] 152)
      have hown3:=hown.kept (lbelow_grown hb3 none) (fun r e => by cases e)
      obtain ⟨A5,c5,w5,hrun,hE5,hg5⟩:=it_one hown3 ⟨kz,zv,0⟩ wr.heap.size n2 (Blk.new wr _ _) hn2.out (by omega) (by have:=hbw.size; have:=hb3.size; omega)
      have hB5:=(bt hbw hb3).grown hg5 (by have:=hbw.size; have:=hb3.size; omega) (fun r e => (hown3.lt' r e).1)
      have HE5:=Lib.hid (And.intro hE5 (And.intro hB5 (And.intro hstep (show n2 + 1=(K ++ [(⟨kz,zv,0⟩:IT)]).length by rw [List.length_append,← hn2.out]; rfl))))
      clear hstep hE5 hB5 hown3 hb3 hg5 hc hK hbl hkz hn2 hown hbw
      go_wp2_with (first
       | (at_builtin; refine wpList_append_run rfl (.tmp 49) (.tmp 58) 96 rfl _ _ _ w5 rfl rfl hrun ?_)
       | go_in)
      go_roundw
      case rel => exact ⟨n2 + 1,n2 + 1,c5,A5,_,rfl,Lib.hid HE5.out.2.2.2,rfl,by omega,by go_num,HE5.out.1,Lib.hid HE5.out.2.2.1,HE5.out.2.1⟩
      case measure => simp [intOf]; omega
     ·obtain rfl:n2=n:=by omega
      have hjI:¬ (n2:Int) < (n2:Int):=by omega
      have hKK:K=loadF k0 zs:=by rw [hK.out,List.take_of_length_le (by have:=hn.out; omega)]
      subst hKK
      have h1:=H.out.1.below hbw
      obtain ⟨A1,m1,cp1,x1,x2,x3,x4,x5⟩:=h1.it
      obtain ⟨mm,G1,y4,y5,y6⟩:=h1.wk
      obtain ⟨w3,hw3⟩:∃ w3,w3=wr.setCell ⟨g,of,none⟩ (.slice A2 n2 c2):=⟨_,rfl⟩
      have g3:wr.grownBy w3 (some g):=by rw [hw3]; exact lgrown_set _ _ _
      have k3:Blk w3 g tt (cs.setIfInBounds of (.slice A2 n2 c2)):=by rw [hw3]; exact h1.bk.set_ of _
      obtain ⟨w4,hw4⟩:∃ w4,w4=w3.setCell ⟨g,of + 1,none⟩ (.int .i64 (next - 1)):=⟨_,rfl⟩
      have g4:w3.grownBy w4 (some g):=by rw [hw4]; exact lgrown_set _ _ _
      have k4:Blk w4 g tt ((cs.setIfInBounds of (.slice A2 n2 c2)).setIfInBounds (of + 1) (.int .i64 (next - 1))):=by rw [hw4]; exact k3.set_ (of + 1) _
      have g34:=g3.trans g4
      have e2:((cs.setIfInBounds of (.slice A2 n2 c2)).setIfInBounds (of + 1) (.int .i64 (next - 1)))[of + 2]?=cs[of + 2]?:=by
       rw [Array.getElem?_setIfInBounds_ne (by omega),Array.getElem?_setIfInBounds_ne (by omega)]
      have e0:((cs.setIfInBounds of (.slice A2 n2 c2)).setIfInBounds (of + 1) (.int .i64 (next - 1)))[of]?=some (.slice A2 n2 c2):=by
       rw [Array.getElem?_setIfInBounds_ne (by omega)]; exact set_at H.out.2.2.1
      have e1:((cs.setIfInBounds of (.slice A2 n2 c2)).setIfInBounds (of + 1) (.int .i64 (next - 1)))[of + 1]?=some (.int .i64 (next - 1)):=set_at ((Array.getElem?_setIfInBounds_ne (by omega)).trans H.out.2.2.2.1)
      have hfin:QAt w4 g of tt ((cs.setIfInBounds of (.slice A2 n2 c2)).setIfInBounds (of + 1) (.int .i64 (next - 1))) { S with I:=loadF k0 zs,g:=next - 1 } N:=by
       refine ⟨k4,h1.ty,⟨A2,n2,c2,e0,hn2.out,by rw [hn2.out]; exact hown.cap,?_,?_⟩,e1,⟨mm,G1,e2.trans y4,y5.kept g34 h1.bk,y6.same fun A l hc => hc.kept g34 h1.bk h1.ty.1⟩,h1.nd,h1.le,HK.out.2.1⟩
       ·have:=hown.capB; omega
       ·exact (hown.at_.mono fun _ _ _ => trivial).kept g34 h1.bk h1.ty.2
      have c30:=(h1.bk.cell of).trans x1
      have f30:=h1.bk.frozen of
      have c31:=(k3.cell (of + 1)).trans ((Array.getElem?_setIfInBounds_ne (by omega)).trans h1.la)
      have f31:=k3.frozen (of + 1)
      have HF:Hid (QO w g of tt cs { S with I:=loadF k0 zs,g:=next - 1 } N w4):=Lib.hid ⟨⟨_,hfin,(Keep3.set cs of (by omega) _).trans (Keep3.set _ (of + 1) (by omega) _)⟩,(lbelow_grown hbw (some g)).trans g34⟩
      rw [hw3] at c31 f31
      have HW:Hid (w4=(wr.setCell ⟨g,of,none⟩ (.slice A2 n2 c2)).setCell ⟨g,of + 1,none⟩ (.int .i64 (next - 1))):=Lib.hid (by rw [hw4,hw3])
      clear hfin k3 k4 g3 g4 g34 e0 e1 e2 x1 x2 x3 x4 x5 y4 y5 y6 h1 hw3 hw4 hown hK hn2 hbw
      go_wp2
      rw [← HW.out]
      go_ret
      exact ⟨rfl,HF.out⟩
  ·have hM:loadM S zs next=(7,S):=if_pos (.inr fun e => hw (hq1.2 e))
   rw [hM]
   subst hi
   have hqp:(0:Int) < (q:Int):=by omega
   clear hM hI hq1 hw
   go_enter Tryz.func54,Tryz.ntmps54
   go_wp2
   go_ret
   exact ⟨rfl,HS.out⟩
 ·have hM:loadM S zs next=(7,S):=if_pos (.inl fun e => hi (hI.2 e))
  rw [hM]
  have hip:(0:Int) < (n0:Int):=by omega
  clear hM hI hq1 hi
  go_enter Tryz.func54,Tryz.ntmps54
  go_wp2
  go_ret
  exact ⟨rfl,HS.out⟩
end Go.Proofs.YtlliaihmfimdoaaGreat.Qu


namespace Go.Proofs.YtlliaihmfimdoaaGreat.Qu
open Go.RowKit Go.Maps Go.Deep
section
variable {S:QS}
theorem QOk.less {S':QS} (h:QOk S) (h1:S'.I.length + putsW S'.ws≤S.I.length + putsW S.ws) (h2:S'.g + (putsW S'.ws:Int)≤S.g + (putsW S.ws:Int)) (h3:0≤S'.g):QOk S':=⟨by have:=h.room; omega,h3,by have:=h.last; omega⟩
theorem QOk.put (h:QOk S) (hd:S.ws.Pairwise fun a b => a.n≠b.n) (n:Int) (v:Nat):QOk (putM S n v).2:=by
 unfold putM
 split
 ·exact h
 ·split
  ·exact h
  ·rename_i hr; exact h.add hd n ⟨3,0,v⟩ (fun _ => hr)
theorem QOk.take (h:QOk S) (hd:S.ws.Pairwise fun a b => a.n≠b.n) (n:Int):QOk (takeM S n).2:=by
 unfold takeM
 split
 ·exact h
 ·split
  ·exact h
  ·split
   ·rename_i x _
    have:=h.add hd n ⟨4,x.n,x.v⟩ (fun e => by cases e)
    exact this.less (by dsimp only; rw [giveI_len]; exact Nat.le_refl _) (Int.le_refl _) this.g0
   ·exact h
theorem QOk.prep (h:QOk S) (hd:S.ws.Pairwise fun a b => a.n≠b.n) (n:Int):QOk (prepM S n).2:=by
 unfold prepM
 split
 ·exact h
 ·split
  ·exact h
  ·exact h.ws' (lay_same S.ws n true hd)
theorem keptI_le (L:List IT) (n:Int):(keptI L n).length≤L.length:=List.length_filter_le _ _
theorem QOk.commit (h:QOk S) (hd:S.ws.Pairwise fun a b => a.n≠b.n) (n:Int):QOk (commitM S n).2:=by
 unfold commitM
 split
 ·exact h
 ·have h1:=putsW_others S.ws n hd
  have h2:=keptI_le S.I n
  exact h.less (by dsimp only; rw [List.length_append,newsQ_len]; omega) (by dsimp only; omega) (by have:=h.g0; dsimp only; omega)
theorem QOk.back (h:QOk S) (hd:S.ws.Pairwise fun a b => a.n≠b.n) (n:Int):QOk (backM S n).2:=by
 unfold backM
 split
 ·exact h
 ·have h1:=putsW_others S.ws n hd
  exact h.less (by dsimp only; rw [List.length_map]; omega) (by dsimp only; omega) h.g0
theorem QOk.rest (h:QOk S) (hd:S.ws.Pairwise fun a b => a.n≠b.n) (n:Int) (l:List Ch):QOk (restM S n l).2:=by
 unfold restM
 split
 ·exact h
 ·split
  ·exact h
  ·split
   ·exact h
   ·rename_i hr
    split
    ·exact h
    ·rename_i hb
     split
     ·exact h
     ·have h1:=lay_new (l:=l) (p:=true) hd (by simpa using hb)
      unfold roomQ at hr
      refine ⟨?_,h.g0,?_⟩
      ·dsimp only; rw [givenI_len]; omega
      ·dsimp only; omega
theorem QOk.load (h:QOk S) (vals:List Nat) (next:Int):QOk (loadM S vals next).2:=by
 unfold loadM
 split
 ·exact h
 ·rename_i hi
  split
  ·exact h
  ·rename_i hb
   have hw:S.ws=[]:=Classical.byContradiction fun e => hi (.inr e)
   have h0:putsW S.ws=0:=by rw [hw]; rfl
   refine ⟨?_,?_,?_⟩
   ·dsimp only; rw [loadF_len]; omega
   ·dsimp only; omega
   ·dsimp only; omega
end
theorem putM_B (S:QS) (n:Int) (v:Nat):(putM S n v).2.B=S.B:=by unfold putM; split; rfl; split <;> rfl
theorem takeM_B (S:QS) (n:Int):(takeM S n).2.B=S.B:=by unfold takeM; split; rfl; split; rfl; split <;> rfl
theorem prepM_B' (S:QS) (n:Int):(prepM S n).2.B=S.B:=by unfold prepM; split; rfl; split <;> rfl
theorem commitM_B (S:QS) (n:Int):(commitM S n).2.B=S.B:=by unfold commitM; split <;> rfl
theorem backM_B (S:QS) (n:Int):(backM S n).2.B=S.B:=by unfold backM; split <;> rfl
theorem restM_B (S:QS) (n:Int) (l:List Ch):(restM S n l).2.B=S.B:=by unfold restM; split; rfl; split; rfl; split; rfl; split; rfl; split <;> rfl
structure OpV where
 k:Int
 n:Int
 x:Int
 v:Nat
 A:Option Addr
 l:List Ch
 c:Nat
 VA:Option Addr
 vs:List Nat
 vc:Nat
def callM (S:QS) (o:OpV):(Nat × List Ch × Int) × QS :=
 if o.k=0 then ((0,[],(putM S o.n o.v).1),(putM S o.n o.v).2)
 else if o.k=1 then (((takeM S o.n).1.1,[],(takeM S o.n).1.2),(takeM S o.n).2)
 else if o.k=2 then ((0,(prepM S o.n).1.1,(prepM S o.n).1.2),(prepM S o.n).2)
 else if o.k=3 then ((0,[],(commitM S o.n).1),(commitM S o.n).2)
 else if o.k=4 then ((0,[],(backM S o.n).1),(backM S o.n).2)
 else if o.k=5 then ((0,[],(restM S o.n o.l).1),(restM S o.n o.l).2)
 else if o.k=6 then ((0,[],(loadM S o.vs o.x).1),(loadM S o.vs o.x).2)
 else ((0,[],0),S)
theorem QOk.call {S:QS} (h:QOk S) (hd:S.ws.Pairwise fun a b => a.n≠b.n) (o:OpV):QOk (callM S o).2:=by
 unfold callM
 split; exact h.put hd _ _
 split; exact h.take hd _
 split; exact h.prep hd _
 split; exact h.commit hd _
 split; exact h.back hd _
 split; exact h.rest hd _ _
 split; exact h.load _ _
 exact h
end Go.Proofs.YtlliaihmfimdoaaGreat.Qu


namespace Go.Proofs.YtlliaihmfimdoaaGreat.Qu
open Go.RowKit Go.Maps Go.Deep
theorem QOk.zero (B:Nat→Prop):QOk (QS.zero B):=⟨Nat.zero_le _,Int.le_refl _,by show (0:Int) + 1 + ((0:Nat):Int)≤4611686018427387904; decide⟩
set_option maxRecDepth 100000 in
set_option maxHeartbeats 2000000 in
theorem same_any (A A':Option Addr) (zs zs':List Nat) (n n' c c':Nat) (w:World) (hn:Hid (n=zs.length)) (hn':Hid (n'=zs'.length)) (hm:n≤9223372036854775807) (h:UAt w A zs) (h':UAt w A' zs') :
  Calls Tryz.prog 47 #[.slice A n c,.slice A' n' c'] w fun e w' => e=.returned (.bool (decide (zs=zs')))∧Below w.heap.size w w':=by
 by_cases hnn:n=n'
 ·subst hnn
  have HI:Hid (Below w.heap.size w w∧∀ k,k < 0→zs[k]?=zs'[k]?):=Lib.hid ⟨Below.refl _ _,fun k hk => by omega⟩
  have H:=Lib.hid (And.intro h h')
  clear h h'
  have hnn:((n:Int) != (n:Int))=false:=by simp
  obtain ⟨r,hr⟩:∃ r,r=decide (zs=zs'):=⟨_,rfl⟩
  rw [← hr]
  have HR:=Lib.hid hr
  clear hr
  go_enter Tryz.func47,Tryz.ntmps47
  go_wp2_with fail
  go_loopw [5] (fun i wr => ∃ (i0:Nat),i0≤n∧i=.int .i64 i0∧Hid (Below w.heap.size w wr∧∀ k,k < i0→zs[k]?=zs'[k]?)) (fun i _ => n - (intOf i).toNat)
  case atStart => exact ⟨0,Nat.zero_le _,rfl,HI⟩
  case round =>
   clear HI
   obtain ⟨j,hj,rfl,HW⟩:=hrel
   by_cases hjn:j < n
   ·have hjI:(j:Int) < (n:Int):=by omega
    have hjl:j < zs.length:=by rw [← hn.out]; exact hjn
    have hjl':j < zs'.length:=by rw [← hn'.out]; exact hjn
    obtain ⟨b,o,rfl,hbk,hcs⟩:=H.out.1.below HW.out.1 (by omega)
    obtain ⟨b',o',rfl,hbk',hcs'⟩:=H.out.2.below HW.out.1 (by omega)
    have q0:=hcs j hjl
    have p0:=hcs' j hjl'
    obtain ⟨x,hx⟩:∃ x,x=zs[j]'hjl:=⟨_,rfl⟩
    obtain ⟨y,hy⟩:∃ y,y=zs'[j]'hjl':=⟨_,rfl⟩
    rw [← hx] at q0
    rw [← hy] at p0
    have e0:=fun m:Nat => cell_drew' q0 m
    have d0:=fun m:Nat => cell_drew' p0 m
    have hdr:∀ m:Nat,Below wr.heap.size wr (wr.drewN m):=fun m => ⟨rfl,rfl,rfl,Nat.le_refl _,fun _ _ => rfl⟩
    by_cases hxy:x=y
    ·subst hxy
     have hne:((x:Int) != (x:Int))=false:=by simp
     have HX:Hid (∀ m:Nat,Below w.heap.size w (wr.drewN m)∧∀ k,k < j + 1→zs[k]?=zs'[k]?):=Lib.hid fun m => ⟨bt HW.out.1 (hdr m),fun k hk => by
      by_cases e:k=j
      ·subst e; rw [List.getElem?_eq_getElem hjl,List.getElem?_eq_getElem hjl',← hx,← hy]
      ·exact HW.out.2 k (by omega)⟩
     clear hbk hbk' hcs hcs' hjl hjl' q0 p0 HW hdr hx hy
     go_wp2_with fail
     go_quiet (fail)
     have HX2:=Lib.hid (HX.out nq)
     clear e0 d0 HX
     go_wp2
     go_roundw
     case rel => exact ⟨j + 1,by omega,by go_num,HX2⟩
     case measure => simp [intOf]; omega
    ·have hne:((x:Int) != (y:Int))=true:=by simp; omega
     have HX:Hid (r=false∧∀ m:Nat,Below w.heap.size w (wr.drewN m)):=Lib.hid ⟨by
      rw [HR.out]
      refine decide_eq_false fun e => hxy ?_
      subst e
      rw [hx,hy],fun m => bt HW.out.1 (hdr m)⟩
     clear hbk hbk' hcs hcs' hjl hjl' q0 p0 HW hdr hx hy hxy
     go_wp2_with fail
     go_quiet (fail)
     have HX2:=Lib.hid (HX.out.2 nq)
     clear e0 d0
     go_wp2
     go_ret
     exact ⟨by rw [HX.out.1]; rfl,HX2.out⟩
   ·have hjI:¬ (j:Int) < (n:Int):=by omega
    have hF:=Lib.hid (show r=true∧Below w.heap.size w wr from ⟨by
     rw [HR.out]
     refine decide_eq_true (List.ext_getElem? fun k => ?_)
     by_cases e:k < j
     ·exact HW.out.2 k e
     ·rw [List.getElem?_eq_none (by rw [← hn.out]; omega),List.getElem?_eq_none (by rw [← hn'.out]; omega)],HW.out.1⟩)
    clear HW
    go_wp2
    go_ret
    exact ⟨by rw [hF.out.1]; rfl,hF.out.2⟩
 ·have hb:((n:Int) != (n':Int))=true:=by simp; omega
  have hF:Hid (decide (zs=zs')=false):=Lib.hid (decide_eq_false fun e => hnn (by rw [hn.out,hn'.out,e]))
  clear h h' hnn
  go_enter Tryz.func47,Tryz.ntmps47
  go_wp2
  go_ret
  exact ⟨by rw [hF.out]; rfl,Below.refl _ _⟩
theorem putsL_step (l:List Ch) (i:Nat) (h:i < l.length):putsL (l.take (i + 1))=putsL (l.take i) + (if (l[i]'h).k=3 then 1 else 0):=by
 have e2:l.take (i + 1)=l.take i ++ [l[i]'h]:=by rw [List.take_add_one,List.getElem?_eq_getElem h]; rfl
 rw [e2,putsL_snoc]
set_option maxRecDepth 100000 in
set_option maxHeartbeats 2000000 in
theorem refputs_any (A:Option Addr) (l:List Ch) (n c:Nat) (w:World) (hn:Hid (n=l.length)) (hm:n≤1000000) (h:InL w A l) :
  Calls Tryz.prog 152 #[.slice A n c] w fun e w' => e=.returned (.int .i64 (putsL l:Nat))∧Below w.heap.size w w':=by
 obtain ⟨pz,hpz⟩:∃ pz,pz=putsL l:=⟨_,rfl⟩
 rw [← hpz]
 have HP:=Lib.hid hpz
 clear hpz
 go_enter Tryz.func152,Tryz.ntmps152
 go_wp2_with fail
 go_loopw [3,4] (fun v i wr => ∃ (i0 k:Nat),i0≤n∧k≤i0∧v=.int .i64 k∧i=.int .i64 i0∧Hid (k=putsL (l.take i0)∧Below w.heap.size w wr)) (fun _ i _ => n - (intOf i).toNat)
 case atStart => exact ⟨0,0,Nat.zero_le _,Nat.le_refl _,rfl,rfl,Lib.hid ⟨rfl,Below.refl _ _⟩⟩
 case round =>
  obtain ⟨j,k,hj,hkj,rfl,rfl,HW⟩:=hrel
  by_cases hjn:j < n
  ·have hjI:(j:Int) < (n:Int):=by omega
   have hjl:j < l.length:=by rw [← hn.out]; exact hjn
   obtain ⟨b,o,rfl,hbk,hcs⟩:=h.below HW.out.2 (by omega)
   have q0:=(hcs j hjl).1
   have hst:=putsL_step l j hjl
   generalize l[j]'hjl=x at q0 hst
   obtain ⟨xk,xy,xv⟩:=x
   dsimp only at q0 hst
   by_cases h3:xk=3
   ·subst h3
    rw [if_pos rfl] at hst
    have HN:Hid (k + 1=putsL (l.take (j + 1))∧Below w.heap.size w wr):=Lib.hid ⟨by rw [hst,HW.out.1],HW.out.2⟩
    clear hst HW hcs hbk hjl h
    go_wp2
    go_roundw
    case rel => exact ⟨j + 1,k + 1,by omega,by omega,by go_num,by go_num,HN⟩
    case measure => simp [intOf]; omega
   ·rw [if_neg h3] at hst
    have HN:Hid (k=putsL (l.take (j + 1))∧Below w.heap.size w wr):=Lib.hid ⟨by rw [hst,HW.out.1]; rfl,HW.out.2⟩
    have h3b:(xk == 3)=false:=by simpa using h3
    clear hst HW hcs hbk hjl h h3
    go_wp2
    go_roundw
    case rel => exact ⟨j + 1,k,by omega,by omega,rfl,by go_num,HN⟩
    case measure => simp [intOf]; omega
  ·have hjI:¬ (j:Int) < (n:Int):=by omega
   have hF:Hid (k=pz∧Below w.heap.size w wr):=Lib.hid ⟨by rw [HW.out.1,HP.out,List.take_of_length_le (by rw [← hn.out]; omega)],HW.out.2⟩
   clear HW h
   go_wp2
   go_ret
   exact ⟨by rw [hF.out.1]; rfl,hF.out.2⟩
end Go.Proofs.YtlliaihmfimdoaaGreat.Qu


namespace Go.Proofs.YtlliaihmfimdoaaGreat.Qu
open Go.RowKit Go.Maps Go.Joins Go.Deep
structure WI where
 q:Nat
 n:Int
 A:Option Addr
 c:Nat
 l:List Ch
 p:Bool
def ptV (qs:List Nat):List Value:=qs.map fun q => .pointer (some ⟨q,0,none⟩)
def OwnPt (u:World) (B:Nat) (A:Option Addr) (c:Nat) (qs:List Nat):Prop:=u.ownsRow B 111 1 (.slice A qs.length c) qs.length (ptV qs)
def prV (P:List (Int × Nat)):List Value:=P.flatMap fun x => [.int .i64 x.1,.int .u64 (x.2:Nat)]
def OwnPr (u:World) (B:Nat) (A:Option Addr) (c:Nat) (P:List (Int × Nat)):Prop:=u.ownsRow B 154 2 (.slice A P.length c) P.length (prV P)
theorem prV_at:∀ (P:List (Int × Nat)) (i:Nat) (h:i < P.length),(prV P)[i * 2]?=some (.int .i64 (P[i]'h).1)∧(prV P)[i * 2 + 1]?=some (.int .u64 ((P[i]'h).2:Nat))
 | x :: P,0,_ => by unfold prV; simp
 | x :: P,i + 1,h => by
  have:=prV_at P i (by simpa using h)
  have e:prV (x :: P)=[.int .i64 x.1,.int .u64 (x.2:Nat)] ++ prV P:=by unfold prV; rw [List.flatMap_cons]
  rw [e]
  have hs:∀ j,([.int .i64 x.1,.int .u64 (x.2:Nat)] ++ prV P)[(i + 1) * 2 + j]?=(prV P)[i * 2 + j]?:=by
   intro j
   rw [List.getElem?_append_right (by simp; omega)]
   congr 1
   simp
   omega
  exact ⟨(hs 0).trans this.1,(hs 1).trans this.2⟩
theorem row_cells {u:World} {B k n c:Nat} {t:TypeId} {A:Option Addr} {vs:List Value} (h:u.ownsRow B t k (.slice A n c) n vs) (hp:0 < n):∃ b,A=some ⟨b,0,none⟩∧B≤b∧b < u.heap.size∧(∃ cs fz,u.heap[b]?=some (.cells cs t fz))∧∀ j v,vs[j]?=some v→u.cell? ⟨b,j,none⟩=some v:=by
 rcases h.2 with ⟨h1,h2⟩ | ⟨g,cap,cur,h1,hb,hg,hn,hm,hc,ht⟩
 ·omega
 ·injection h1 with e1 e2 e3
  refine ⟨g,e1,hb,(Array.getElem?_eq_some_iff.1 hg).1,⟨cur,_,hg⟩,fun j v hv => ?_⟩
  have hcell:u.cell? ⟨g,j,none⟩=cur[j]?:=cell_of_row u g j cur _ (0,0) hg
  rw [hcell]
  rw [← ht,List.getElem?_take] at hv
  split at hv
  ·simpa using hv
  ·cases hv
def findW (ws:List WI) (n:Int):Option WI:=ws.find? fun y => decide (y.n=n)
theorem findW_at {ws:List WI} {n:Int} {j:Nat} (hj:j < ws.length) (hno:∀ i,(h:i < ws.length)→i < j→(ws[i]'h).n≠n) (h:(ws[j]'hj).n=n):findW ws n=some (ws[j]'hj):=by
 unfold findW
 rw [List.find?_eq_some_iff_getElem]
 exact ⟨by simpa using h,j,hj,rfl,fun i hi => by simpa using hno i (by omega) hi⟩
theorem findW_none {ws:List WI} {n:Int} (hno:∀ i,(h:i < ws.length)→(ws[i]'h).n≠n):findW ws n=none:=by
 unfold findW
 rw [List.find?_eq_none]
 intro y hy
 obtain ⟨i,hi,rfl⟩:=List.mem_iff_getElem.1 hy
 simpa using hno i hi
def mayR (ws:List WI) (n:Int):Int:=if n < 1 then 1 else match findW ws n with
 | some y => if y.p=true then 7 else 0
 | none => 0
theorem findW_mem {ws:List WI} {n:Int} {y:WI} (h:findW ws n=some y):y ∈ ws∧y.n=n:=by
 unfold findW at h
 exact ⟨List.mem_of_find?_eq_some h,by simpa using List.find?_some h⟩
end Go.Proofs.YtlliaihmfimdoaaGreat.Qu

