/- Parts In Io Ip Iq of one proof. -/
import Derived.Test.YtlliaihmfimdoaaGreatMg06
import Derived.Test.YtlliaihmfimdoaaGreatShelf
import Derived.Sort.OwnSortedInts
import Derived.Lib.SmallJoins
import Derived.Lib.OwnKind
set_option linter.unusedSimpArgs false
set_option linter.unusedVariables false
namespace Go.Proofs.YtlliaihmfimdoaaGreat
open Go.RowKit Go.Maps Go.Sort
theorem Tryz.infoInt:(Tryz.prog.info? 3).map (fun i => (i.zero,i.size,i.bytes))=some (some (.int .i64 0),1,8):=by kernel_rfl
def EndsAt (u:World) (B:Nat) (A:Option Addr) (c:Nat) (es:List Int):Prop:=u.ownsRow B 3 1 (.slice A es.length c) es.length (es.map (Value.int .i64))
section
variable {u u':World} {B:Nat} {A:Option Addr} {c:Nat} {es:List Int}
theorem EndsAt.nil (u:World) (B:Nat):EndsAt u B none 0 []:=World.ownsRow_nil u _ _ _
theorem EndsAt.lt' (h:EndsAt u B A c es):∀ r,blk A=some r→B≤r∧r < u.heap.size:=fun r e => World.ownsRow.lt h r (by rw [ownBlock_slice]; exact e)
theorem EndsAt.kept {row:Option Nat} (h:EndsAt u B A c es) (hg:u.grownBy u' row) (hr:∀ r,row=some r→r < B∨u.heap.size≤r):EndsAt u' B A c es:=by
 refine World.ownsRow.kept h hg ?_
 rcases hb:(Value.slice A es.length c).ownBlock with _ | k
 ·exact .inl rfl
 ·refine .inr (fun e => ?_)
  have h2:=World.ownsRow.lt h k hb
  rcases hr k e.symm with h3 | h3 <;> omega
theorem EndsAt.base {B':Nat} (h:EndsAt u B A c es) (hB:B'≤B):EndsAt u B' A c es:=by
 unfold EndsAt at h ⊢
 obtain ⟨h1,h2⟩:=h
 refine ⟨h1,?_⟩
 rcases h2 with h2 | ⟨g',cap',cur,hv,hb,hrest⟩
 ·exact .inl h2
 ·exact .inr ⟨g',cap',cur,hv,Nat.le_trans hB hb,hrest⟩
theorem ends_more (h:EndsAt u B A c es) (n:Nat) (hn:n=es.length) (hl:n≤1000000) (x:Int) (q:Nat) (hBu:B≤u.heap.size) (hq0:u.cell? ⟨q,0,none⟩=some (.int .i64 x)) :
  ∃ A2 c2 u',(Builtin.append_ #[100,100] 100 #[.slice A n c,.slice (some ⟨q,0,none⟩) 1 1]).run Tryz.prog u=.ok (.slice A2 (n + 1) c2) u' ∧
   EndsAt u' B A2 c2 (es ++ [x])∧u.grownBy u' (blk A):=by
 subst hn
 obtain ⟨i0,hi,hz0,hz1,hz2⟩:=info_parts Tryz.infoInt
 obtain ⟨v',w',hrun,hown,hgr,_,_⟩:=run_append_own_at (P:=Tryz.prog) u B 100 100 3 i0 _ 1 8 Tryz.underlying100 hi hz0 hz1 hz2 rfl (by omega) (.slice A es.length c) es.length (es.map (Value.int .i64)) h ⟨q,0,none⟩ 1 1 [.int .i64 x] rfl
  (fun j u hu => by
   match j,hu with
   | 0,hu => cases hu; exact hq0)
  (fun u hu => by simp at hu; subst hu; rfl) (by simp only [maxLen]; omega) (by omega) hBu
 obtain ⟨g2,c2,rfl⟩:=Joins.ownsRow_form hown (by omega)
 rw [ownBlock_slice] at hgr
 refine ⟨some ⟨g2,0,none⟩,c2,w',hrun,?_,hgr⟩
 unfold EndsAt
 rw [List.length_append,List.map_append]
 exact hown
end
structure KsOk (L:List LRow) (o:Int) (left:Lit→Bool) (ks:List Int):Prop where
 nd:ks.Nodup
 mem:∀ k,k ∈ ks ↔ ∃ x ∈ L,x.1=k∧x.2.1=o∧left (keyR x)=false
structure HeldKs (L:List LRow) (o:Int) (ys:List Int):Prop where
 up:ys.Pairwise (· < ·)
 mem:∀ k,k ∈ ys ↔ heldL L k o=true
theorem KsOk.done {L:List LRow} {o:Int} {left:Lit→Bool} {ks:List Int} (h:KsOk L o left ks) (hl:∀ kl,left kl=false):HeldKs L o (ks.mergeSort fun x y => decide (x≤y)):=by
 have hp:=List.mergeSort_perm ks fun x y => decide (x≤y)
 refine ⟨?_,fun k => ?_⟩
 ·have hs:=List.pairwise_mergeSort (le:=fun x y:Int => decide (x≤y)) (by intro a b c; simp; omega) (by intro a b; simp; omega) ks
  have hn:(ks.mergeSort fun x y => decide (x≤y)).Nodup:=hp.nodup_iff.2 h.nd
  exact (hs.and hn).imp fun {a b} hab => by
   have:=of_decide_eq_true hab.1
   have:=hab.2
   omega
 ·rw [hp.mem_iff,h.mem k,held_iff]
  constructor
  ·rintro ⟨x,hx,h1,h2,_⟩; exact ⟨x,hx,h1,h2⟩
  ·rintro ⟨x,hx,h1,h2⟩; exact ⟨x,hx,h1,h2,hl _⟩
theorem KsOk.start {H:Type} {D:DataW H} {L:List LRow} {o:Int} (hR:Reads D L):KsOk L o (Maps.has D) []:=by
 refine ⟨List.nodup_nil,fun k => ⟨by simp,?_⟩⟩
 rintro ⟨x,hx,_,_,h3⟩
 rw [hR.has] at h3
 exact absurd (show anyK L (keyR x)=true from List.any_eq_true.2 ⟨x,hx,key_same _ _⟩) (by rw [h3]; simp)
theorem left_step {L:List LRow} (hL:LOk L) {left:Lit→Bool} {k o:Int} {c:Bool} (hm:(k,o,c) ∈ L) {x:LRow} (hx:x ∈ L):((left (keyR x) && !(keyR x).sameKey (litP k o))=false) ↔ (left (keyR x)=false∨x=(k,o,c)):=by
 have hok:=hL.ok _ hm
 have hs:=same_at (hL.ok x hx) (k:=k) (o:=o) hok.1 hok.2
 rw [hs]
 constructor
 ·intro h
  rcases hl:left (keyR x) with _ | _
  ·exact .inl rfl
  ·rw [hl] at h
   have:atB k o x=true:=by simpa using h
   have:=atB_iff.1 this
   exact .inr (at_same hL hx hm this.1 this.2)
 ·rintro (h | rfl)
  ·rw [h]; rfl
  ·have:atB k o (k,o,c)=true:=atB_iff.2 ⟨rfl,rfl⟩
   rw [this]; simp
theorem KsOk.skip {L:List LRow} (hL:LOk L) {left:Lit→Bool} {k o o':Int} {c:Bool} {ks:List Int} (h:KsOk L o left ks) (hm:(k,o',c) ∈ L) (hne:o'≠o):KsOk L o (fun z => left z && !z.sameKey (litP k o')) ks:=by
 refine ⟨h.nd,fun q => (h.mem q).trans ?_⟩
 constructor
 ·rintro ⟨x,hx,h1,h2,h3⟩
  exact ⟨x,hx,h1,h2,(left_step hL hm hx).2 (.inl h3)⟩
 ·rintro ⟨x,hx,h1,h2,h3⟩
  rcases (left_step hL hm hx).1 h3 with h4 | rfl
  ·exact ⟨x,hx,h1,h2,h4⟩
  ·exact absurd h2 hne
theorem KsOk.more {L:List LRow} (hL:LOk L) {left:Lit→Bool} {k o:Int} {c:Bool} {ks:List Int} (h:KsOk L o left ks) (hm:(k,o,c) ∈ L) (hl:left (litP k o)=true):KsOk L o (fun z => left z && !z.sameKey (litP k o)) (ks ++ [k]):=by
 refine ⟨List.nodup_append.2 ⟨h.nd,by simp,fun a ha b hb e => ?_⟩,fun q => ?_⟩
 ·rw [List.mem_singleton] at hb; subst hb; subst e
  obtain ⟨x,hx,h1,h2,h3⟩:=(h.mem a).1 ha
  have:keyR x=litP a o:=by unfold keyR; rw [h1,h2]
  rw [this,hl] at h3; cases h3
 ·rw [List.mem_append,List.mem_singleton,h.mem q]
  constructor
  ·rintro (⟨x,hx,h1,h2,h3⟩ | rfl)
   ·exact ⟨x,hx,h1,h2,(left_step hL hm hx).2 (.inl h3)⟩
   ·exact ⟨_,hm,rfl,rfl,(left_step hL hm hm).2 (.inr rfl)⟩
  ·rintro ⟨x,hx,h1,h2,h3⟩
   rcases (left_step hL hm hx).1 h3 with h4 | rfl
   ·exact .inl ⟨x,hx,h1,h2,h4⟩
   ·exact .inr h1.symm
theorem KsOk.len {L:List LRow} {left:Lit→Bool} {o:Int} {ks:List Int} (h:KsOk L o left ks):ks.length≤L.length:=by
 have:=nodup_le ks (L.map (·.1)) h.nd (fun k hk => by
  obtain ⟨x,hx,h1,_⟩:=(h.mem k).1 hk
  exact List.mem_map.2 ⟨x,hx,h1⟩)
 simpa using this
def HeldO (w:World) (L:List LRow) (o:Int) (e:Ending) (w':World):Prop:=∃ A c ys,e=.returned (.slice A (List.length ys) c)∧EndsAt w' w.heap.size A c ys∧HeldKs L o ys∧Below w.heap.size w w'
set_option maxRecDepth 100000 in
set_option maxHeartbeats 2000000 in
theorem held_any (g of:Nat) (tt:TypeId) (cs:Array Value) (L:List LRow) (o:Int) (w:World) (h:TabO w g of tt cs L) :
  Calls Tryz.prog 94 #[.pointer (some ⟨g,of,none⟩),.int .i64 o] w (HeldO w L o):=by
 have hLok:=h.ok
 have hlen:=h.len
 obtain ⟨m,hg,hcs,hs1⟩:=h.src
 have c0:=(hg.cell of).trans hcs
 clear hg h hcs
 rcases hs1 with ⟨rfl,rfl⟩ | ⟨b,D,rfl,hown,hR⟩
 ·have hrg:=run_range_nilMap (P:=Tryz.prog) w 91 178 185 Tryz.underlying91
  have hnx:∀ ty,(Instr.next (.pointer (some ⟨w.heap.size,0,none⟩)) false ty).run Tryz.prog (w.alloc (.mapIter none 0 #[] 0))=_:=fun ty => run_next_nilMap w ty 0 0 #[]
  have hsort:=Tryz.slices_Sort_int_none none 0 (w.alloc (.mapIter none 0 #[] 0))
  go_enter Tryz.func94,Tryz.ntmps94
  go_wp2
  refine wp_loop_rounds 1 ?_
  rw [rounds_succ]
  go_wp2_with fail
  refine hsort.mono ?_
  rintro e w' ⟨rfl,rfl⟩
  go_wp2
  go_ret
  exact ⟨none,0,[],rfl,EndsAt.nil _ _,⟨List.Pairwise.nil,by simp [heldL]⟩,ba _ _⟩
 ·go_enter Tryz.func94,Tryz.ntmps94
  go_wp2_with (first
   | (at_range; refine wpList_range_own _ rfl _ 91 rfl 178 185 lawP Tryz.underlying91 _ b L.length _ rfl hown ?_; intro w0 hrg0 hg0 hs0)
   | go_in)
  go_frame
  have hB0:Below w.heap.size w w0:=lgrown_below hg0
  have hblt:=hown.lt
  clear c0 hown
  go_loopw [5] (fun v wr => ∃ (left:Lit→Bool) (cnt:Nat) (A:Option Addr) (n c:Nat) (ks:List Int),v=.slice A n c∧Hid (n=ks.length)∧wr.ranges Tryz.prog 178 holdElem b w.heap.size L.length D left cnt∧(∀ kl,left kl=true→Maps.has D kl=true)∧EndsAt wr (w.heap.size + 1) A c ks∧KsOk L o left ks∧Below w.heap.size w wr∧w.heap.size + 1≤wr.heap.size)
   (fun _ wr => wr.rangeLeft b w.heap.size)
  case atStart =>
   exact ⟨_,_,none,0,0,[],rfl,rfl,hrg0,fun _ h => h,EndsAt.nil _ _,KsOk.start hR,hB0,by omega⟩
  case round =>
   obtain ⟨left,cnt,A,n,c,ks,rfl,hn,hrg,hlf,hE,hK,hBr,hsz⟩:=hrel
   go_wp2_with (first
    | (at_next; refine wpList_next_lock _ rfl _ rfl b w.heap.size L.length _ _ _ rfl hrg ?_ ?_)
    | go_in)
   ·intro hc0 hl0
    have hkl:=hK.len
    have hD:=hK.done hl0
    rcases hE.2 with ⟨hnil,hk0⟩ | ⟨g,cap,cur,hv,hbase,hb,h1,h2,h3,h4⟩
    ·obtain rfl:ks=[]:=List.eq_nil_of_length_eq_zero hk0
     simp at hnil
     obtain ⟨rfl,rfl⟩:=hnil
     obtain rfl:n=0:=hn.out
     have hsort:=Tryz.slices_Sort_int_none none 0 wr
     clear hrg hK hE hn
     go_wp2_with fail
     refine hsort.mono ?_
     rintro e w' ⟨rfl,rfl⟩
     go_wp2
     go_ret
     exact ⟨none,0,[],rfl,EndsAt.nil _ _,by simpa using hD,hBr⟩
    ·cases hv
     have hH:Holds (Value.int .i64) wr g 0 ks.toArray:=holds_of_blockI hb (by simpa using h4)
     have hgl:g < wr.heap.size:=(Array.getElem?_eq_some_iff.1 hb).1
     have hsort:=Tryz.slices_Sort_int g 0 c ks wr hH hgl (by omega)
     have hl2:(ks.mergeSort fun x y => decide (x≤y)).length=ks.length:=List.length_mergeSort ks
     rw [← hn.out] at hsort
     have Hsort:=Lib.hid hsort
     clear hrg hH hK hE hsort
     go_wp2_with fail
     refine Hsort.out.mono ?_
     rintro e w' ⟨rfl,nn,os,rfl⟩
     have hgr:=grownBy_sortedI (w:=wr) (g:=g) (n:=nn) (os:=os) (ks.mergeSort fun x y => decide (x≤y)).toArray
     have hro:=ownsRow_sortedI (n:=nn) (os:=os) (ts:=ks.mergeSort fun x y => decide (x≤y)) hl2 hbase hb h1 h2 h3
     obtain ⟨w9,hw9⟩:∃ w9,w9=grow (putRow (Value.int .i64) (Sort.ahead wr nn) g 0 (ks.mergeSort fun x y => decide (x≤y)).toArray) os:=⟨_,rfl⟩
     rw [← hw9] at hgr hro ⊢
     have hB9:=hBr.grown hgr hBr.size (fun k e => by cases e; omega)
     have Hfin:Hid (HeldO w L o (.returned (.slice (some ⟨g,0,none⟩) n c)) w9):=Lib.hid (by
      refine ⟨some ⟨g,0,none⟩,c,_,by rw [hl2,← hn.out],?_,hD,hB9⟩
      refine EndsAt.base (B:=w.heap.size + 1) ?_ (by omega)
      unfold EndsAt
      rw [hl2]; exact hro)
     clear hw9 hgr hro Hsort hD hb h1 h2 h3 h4 hl2 hn
     go_wp2
     go_ret
     exact Hfin.out
   ·intro e w1 cnt1 hc hen
    have hm:=came_mem hc hR (hlf _)
    have hk0:=hK.len
    obtain ⟨w2,hw2⟩:∃ w2,w2=w1.alloc (.cells #[.int .i64 e.k,.int .i64 e.o] 178):=⟨_,rfl⟩
    have hb2:Below w1.heap.size w1 w2:=by rw [hw2]; exact ba _ _
    have hrg2:=hc.rg.kept (lbelow_grown hb2 none) (by simp) (by simp)
    have E1:=hE.kept hc.gr (fun r e => by cases e; omega)
    have E2:=E1.kept (lbelow_grown hb2 none) (fun r e => by cases e)
    have hB1:Below w.heap.size w w1:=hBr.grown hc.gr hBr.size (fun k e => by cases e; exact Nat.le_refl _)
    have hB2:Below w.heap.size w w2:=bt hB1 hb2
    have hs1:=hc.sz
    have hs2:=hb2.size
    have hlt2:=hc.lt
    obtain ⟨ek,eo,ec⟩:=e
    simp only at hw2 hrg2 hen hm ⊢
    have hlf2:∀ kl,(fun z => left z && !z.sameKey (litP ek eo)) kl=true→Maps.has D kl=true:=fun kl h => hlf kl (by simp at h; exact h.1)
    have Hms:Hid (cnt1 < wr.rangeLeft b w.heap.size):=Lib.hid (by rw [hrg.left_eq]; exact hlt2)
    have hlk:left (litP ek eo)=true:=hc.lf
    by_cases hoo:eo=o
    ·subst hoo
     have hK2:=hK.more hLok hm hlk
     have hb3:=ba w2 (.cells #[.int .i64 ek] 3)
     have E3:=E2.kept (lbelow_grown hb3 none) (fun r e => by cases e)
     have hs3:=hb3.size
     obtain ⟨A5,c5,w5,hrun,hE5,hg5⟩:=ends_more E3 n hn.out (by have:=hn.out; omega) ek w2.heap.size (by omega) ((Blk.new w2 3 #[.int .i64 ek]).cell 0)
     have hB5:=(bt hB2 hb3).grown hg5 (by have:=hBr.size; omega) (fun r e => by have:=(E3.lt' r e).1; omega)
     have hrg3:=hrg2.kept (lbelow_grown hb3 none) (by simp) (by simp)
     have hrg5:=hrg3.kept hg5 (fun e => by have:=(E3.lt' _ e.symm).1; omega) (fun e => by have:=(E3.lt' _ e.symm).1; omega)
     have hsz5:=hg5.size
     have Hn2:Hid (n + 1=(ks ++ [ek]).length):=Lib.hid (by rw [List.length_append,← hn.out]; rfl)
     have Hrel:=Lib.hid (And.intro hrg5 (And.intro hlf2 (And.intro hE5 (And.intro hK2 (And.intro hB5 (show w.heap.size + 1≤w5.heap.size by omega))))))
     rw [hw2] at hrun
     simp only [World.size_alloc] at hrun
     clear hw2 hrg2 hrg3 hrg5 hlf2 hE5 hK2 hB5 hb2 hb3 E1 E2 E3 hE hK hrg hBr hB1 hB2 hm hlf hg5 hn hc hlk hk0 hs1 hs2 hs3 hlt2 hsz hsz5
     go_wp2_with (first
      | (at_builtin; refine wpList_append_run rfl (.tmp 22) (.tmp 25) 100 rfl _ _ _ w5 rfl rfl hrun ?_)
      | go_in)
     go_roundw
     case rel => exact ⟨_,cnt1,A5,n + 1,c5,ks ++ [ek],rfl,Hn2,Hrel.out.1,Hrel.out.2.1,Hrel.out.2.2.1,Hrel.out.2.2.2.1,Hrel.out.2.2.2.2.1,Hrel.out.2.2.2.2.2⟩
     case measure => rw [Hrel.out.1.left_eq]; exact Hms.out
    ·have hK2:=hK.skip hLok hm hoo
     have Hrel:=Lib.hid (And.intro hrg2 (And.intro hlf2 (And.intro E2 (And.intro hK2 (And.intro hB2 (show w.heap.size + 1≤w2.heap.size by omega))))))
     rw [hw2] at Hrel
     clear hw2 hrg2 hlf2 E2 hK2 hB2 hb2 E1 hE hK hrg hBr hB1 hm hlf hc hlk hk0 hs1 hs2 hlt2 hsz
     go_wp2
     go_roundw
     case rel => exact ⟨_,cnt1,A,n,c,ks,rfl,hn,Hrel.out.1,Hrel.out.2.1,Hrel.out.2.2.1,Hrel.out.2.2.2.1,Hrel.out.2.2.2.2.1,Hrel.out.2.2.2.2.2⟩
     case measure => rw [Hrel.out.1.left_eq]; exact Hms.out
end Go.Proofs.YtlliaihmfimdoaaGreat


namespace Go.Proofs.YtlliaihmfimdoaaGreat
open Go.RowKit Go.Maps Go.Joins Go.Deep
theorem Tryz.infoLock:(Tryz.prog.info? 200).map (fun i => (i.zero,i.size,i.bytes))=some (some (.agg #[.int .i64 0,.int .i64 0,.bool false]),3,24):=by kernel_rfl
def flatL (L:List LRow):List Value:=L.flatMap fun x => [.int .i64 x.1,.int .i64 x.2.1,.bool x.2.2]
theorem flatL_len (L:List LRow):(flatL L).length=L.length * 3:=by
 induction L with
 | nil => rfl
 | cons o L ih => unfold flatL at ih ⊢; rw [List.flatMap_cons,List.length_append,ih]; simp; omega
theorem flatL_snoc (L:List LRow) (x:LRow):flatL (L ++ [x])=flatL L ++ [.int .i64 x.1,.int .i64 x.2.1,.bool x.2.2]:=by unfold flatL; simp
theorem flatL_at:∀ (L:List LRow) (i:Nat) (h:i < L.length),(flatL L)[i * 3]?=some (.int .i64 L[i].1)∧(flatL L)[i * 3 + 1]?=some (.int .i64 L[i].2.1)∧(flatL L)[i * 3 + 2]?=some (.bool L[i].2.2)
 | x :: L,0,_ => by unfold flatL; simp
 | x :: L,i + 1,h => by
  have:=flatL_at L i (by simpa using h)
  have e:flatL (x :: L)=[.int .i64 x.1,.int .i64 x.2.1,.bool x.2.2] ++ flatL L:=by unfold flatL; rw [List.flatMap_cons]
  rw [e]
  have hs:∀ j,([.int .i64 x.1,.int .i64 x.2.1,.bool x.2.2] ++ flatL L)[(i + 1) * 3 + j]?=(flatL L)[i * 3 + j]?:=by
   intro j
   rw [List.getElem?_append_right (by simp; omega)]
   congr 1
   simp
   omega
  exact ⟨(hs 0).trans this.1,(hs 1).trans this.2.1,(hs 2).trans this.2.2⟩
structure LRows (u:World) (B:Nat) (A:Option Addr) (c:Nat) (L:List LRow):Prop where
 nil:L=[]→A=none∧c=0
 at_:L≠[]→∃ b cs,A=some ⟨b,0,none⟩∧B≤b∧Blk u b 200 cs∧∀ i,(h:i < L.length)→cs[i * 3]?=some (.int .i64 (L[i]'h).1)∧cs[i * 3 + 1]?=some (.int .i64 (L[i]'h).2.1)∧cs[i * 3 + 2]?=some (.bool (L[i]'h).2.2)
theorem LRows.empty (u:World) (B:Nat):LRows u B none 0 []:=⟨fun _ => ⟨rfl,rfl⟩,fun h => absurd rfl h⟩
theorem LRows.kept {u u':World} {B c:Nat} {A:Option Addr} {L:List LRow} {row:Option Nat} (h:LRows u B A c L) (hg:u.grownBy u' row) (hr:∀ r,row=some r→r < B∨∃ t cs,t≠200∧Blk u r t cs):LRows u' B A c L:=by
 refine ⟨h.nil,fun hn => ?_⟩
 obtain ⟨b,cs,e,hb,hk,hc⟩:=h.at_ hn
 refine ⟨b,cs,e,hb,hk.kept hg (fun e2 => ?_),hc⟩
 rcases hr b e2.symm with h1 | ⟨t,cs2,h1,h2⟩
 ·omega
 ·exact h2.ne hk h1 rfl
theorem LRows.below {u u':World} {B c:Nat} {A:Option Addr} {L:List LRow} (h:LRows u B A c L) (hb:Below u.heap.size u u'):LRows u' B A c L:=h.kept (lbelow_grown hb none) (fun r e => by cases e)
theorem LRows.base {u:World} {B B' c:Nat} {A:Option Addr} {L:List LRow} (h:LRows u B A c L) (hB:B'≤B):LRows u B' A c L:=⟨h.nil,fun hn => by
 obtain ⟨b,cs,e,hb,hk,hc⟩:=h.at_ hn
 exact ⟨b,cs,e,Nat.le_trans hB hb,hk,hc⟩⟩
def OwnL (u:World) (B:Nat) (A:Option Addr) (c:Nat) (L:List LRow):Prop:=u.ownsRow B 200 3 (.slice A L.length c) L.length (flatL L)
theorem OwnL.rows {u:World} {B c:Nat} {A:Option Addr} {L:List LRow} (h:OwnL u B A c L) (hz:L=[]→A=none∧c=0):LRows u B A c L:=by
 refine ⟨hz,fun hn => ?_⟩
 have hp:0 < L.length:=List.length_pos_iff.2 hn
 rcases h.2 with ⟨h1,h2⟩ | ⟨g,cap,cur,h1,hb,hg,h3,h4,h5,h6⟩
 ·omega
 ·cases h1
  have hc:∀ j v,(flatL L)[j]?=some v→cur[j]?=some v:=fun j v hv => by
   rw [← Array.getElem?_toList]
   rw [← h6,List.getElem?_take] at hv
   split at hv
   ·exact hv
   ·cases hv
  refine ⟨g,cur,rfl,hb,hg,fun i hi => ?_⟩
  obtain ⟨q0,q1,q2⟩:=flatL_at L i hi
  exact ⟨hc _ _ q0,hc _ _ q1,hc _ _ q2⟩
theorem OwnL.kept {u u':World} {B c:Nat} {A:Option Addr} {L:List LRow} {row:Option Nat} (h:OwnL u B A c L) (hg:u.grownBy u' row) (hr:∀ r,row=some r→r < B):OwnL u' B A c L:=by
 refine World.ownsRow.kept h hg ?_
 rcases hb:(Value.slice A L.length c).ownBlock with _ | k
 ·exact .inl rfl
 ·refine .inr (fun e => ?_)
  have h2:=World.ownsRow.lt h k hb
  have:=hr k e.symm
  omega
theorem rows_copy {u:World} {B c:Nat} {A:Option Addr} {L:List LRow} (h:LRows u B A c L) (n:Nat) (hn:n=L.length) (hl:n≤100) :
  ∃ A2 c2 u',(Builtin.append_ #[28,28] 28 #[.slice none 0 0,.slice A n c]).run Tryz.prog u=.ok (.slice A2 n c2) u' ∧
   OwnL u' u.heap.size A2 c2 L∧(L=[]→A2=none∧c2=0)∧Below u.heap.size u u':=by
 subst hn
 obtain ⟨i0,hi,hz0,hz1,hz2⟩:=info_parts Tryz.infoLock
 by_cases hL:L=[]
 ·subst hL
  obtain ⟨rfl,rfl⟩:=h.nil rfl
  exact ⟨none,0,u,run_append_owned_none (P:=Tryz.prog) (w:=u) u.heap.size 28 28 200 i0 3 Tryz.underlying28 hi _ 0 [] (World.ownsRow_nil _ _ _ _),World.ownsRow_nil _ _ _ _,fun _ => ⟨rfl,rfl⟩,Below.refl _ _⟩
 ·obtain ⟨b,cs,rfl,hb,hk,hc⟩:=h.at_ hL
  have hp:0 < L.length:=List.length_pos_iff.2 hL
  have hcell:∀ j v,(flatL L)[j]?=some v→u.cell? ⟨b,j,none⟩=some v:=fun j v hv => by
   have hj:j < L.length * 3:=by rw [← flatL_len]; exact (List.getElem?_eq_some_iff.1 hv).1
   obtain ⟨q0,q1,q2⟩:=hc (j / 3) (by omega)
   obtain ⟨p0,p1,p2⟩:=flatL_at L (j / 3) (by omega)
   rw [hk.cell]
   have hm:j=j / 3 * 3∨j=j / 3 * 3 + 1∨j=j / 3 * 3 + 2:=by omega
   rcases hm with e | e | e
   ·rw [e] at hv ⊢; rw [q0,← p0,hv]
   ·rw [e] at hv ⊢; rw [q1,← p1,hv]
   ·rw [e] at hv ⊢; rw [q2,← p2,hv]
  obtain ⟨v',w',hrun,hown,hgr,_,_⟩:=run_append_own_at (P:=Tryz.prog) u u.heap.size 28 28 200 i0 _ 3 24 Tryz.underlying28 hi hz0 hz1 hz2 rfl (by omega) (.slice none 0 0) 0 [] (World.ownsRow_nil _ _ _ _) ⟨b,0,none⟩ L.length c (flatL L) (flatL_len L)
   (fun j v hv => by
    have e:(⟨b,0,none⟩:Addr).add j=⟨b,j,none⟩:=by
     simp [Addr.add]
     try omega
    rw [e]; exact hcell j v hv)
   (fun v hv => by
    unfold flatL at hv
    obtain ⟨x,_,hx⟩:=List.mem_flatMap.1 hv
    simp at hx
    rcases hx with rfl | rfl | rfl <;> rfl) (by simp only [maxLen]; omega) (by omega) (Nat.le_refl _)
  obtain ⟨g2,c2,rfl⟩:=Joins.ownsRow_form hown (by omega)
  simp only [Nat.zero_add,List.nil_append] at hrun hown
  exact ⟨some ⟨g2,0,none⟩,c2,w',hrun,hown,fun e => absurd e hL,lgrown_below hgr⟩
theorem rows_more {u:World} {B c:Nat} {A:Option Addr} {L:List LRow} (h:OwnL u B A c L) (n:Nat) (hn:n=L.length) (hl:n≤100) (x:LRow) (q:Nat) (hBu:B≤u.heap.size)
  (hq:Blk u q 200 #[.int .i64 x.1,.int .i64 x.2.1,.bool x.2.2]) :
  ∃ A2 c2 u',(Builtin.append_ #[28,28] 28 #[.slice A n c,.slice (some ⟨q,0,none⟩) 1 1]).run Tryz.prog u=.ok (.slice A2 (n + 1) c2) u' ∧
   OwnL u' B A2 c2 (L ++ [x])∧u.grownBy u' (blk A):=by
 subst hn
 obtain ⟨i0,hi,hz0,hz1,hz2⟩:=info_parts Tryz.infoLock
 obtain ⟨v',w',hrun,hown,hgr,_,_⟩:=run_append_own_at (P:=Tryz.prog) u B 28 28 200 i0 _ 3 24 Tryz.underlying28 hi hz0 hz1 hz2 rfl (by omega) (.slice A L.length c) L.length (flatL L) h ⟨q,0,none⟩ 1 1 [.int .i64 x.1,.int .i64 x.2.1,.bool x.2.2] rfl
  (fun j v hv => by
   have:=hq.cell j
   have e:(⟨q,0,none⟩:Addr).add j=⟨q,j,none⟩:=by
    simp [Addr.add]
    try omega
   rw [e,this]
   rw [List.getElem?_toArray]; exact hv)
  (fun v hv => by simp at hv; rcases hv with rfl | rfl | rfl <;> rfl) (by simp only [maxLen]; omega) (by omega) hBu
 obtain ⟨g2,c2,rfl⟩:=Joins.ownsRow_form hown (by omega)
 rw [ownBlock_slice] at hgr
 refine ⟨some ⟨g2,0,none⟩,c2,w',hrun,?_,hgr⟩
 unfold OwnL
 rw [List.length_append,flatL_snoc]
 exact hown
def RTab (u:World) (B x:Nat) (L:List LRow):Prop:=∃ A n c,Hid (n=L.length)∧Blk u x 30 #[.slice A n c]∧LRows u B A c L
theorem RTab.kept {u u':World} {B x:Nat} {L:List LRow} {row:Option Nat} (h:RTab u B x L) (hg:u.grownBy u' row) (hr:∀ r,row=some r→r≠x∧(r < B∨∃ t cs,t≠200∧Blk u r t cs)):RTab u' B x L:=by
 obtain ⟨A,n,c,hn,hk,hR⟩:=h
 exact ⟨A,n,c,hn,hk.kept hg (fun e => (hr x e.symm).1 rfl),hR.kept hg fun r e => (hr r e).2⟩
theorem RTab.below {u u':World} {B x:Nat} {L:List LRow} (h:RTab u B x L) (hb:Below u.heap.size u u'):RTab u' B x L:=h.kept (lbelow_grown hb none) (fun r e => by cases e)
def ROf (u:World) (B x of:Nat) (tt:TypeId) (cs:Array Value) (L:List LRow):Prop:=∃ A n c,Hid (n=L.length)∧Blk u x tt cs∧cs[of]?=some (.slice A n c)∧LRows u B A c L
theorem ROf.below {u u':World} {B x of:Nat} {tt:TypeId} {cs:Array Value} {L:List LRow} (h:ROf u B x of tt cs L) (hb:Below u.heap.size u u'):ROf u' B x of tt cs L:=by
 obtain ⟨A,n,c,hn,hk,hcs,hR⟩:=h
 exact ⟨A,n,c,hn,hk.below hb hk.lt,hcs,hR.below hb⟩
def PlaceR (L:List LRow) (k o:Int) (p:Int):Prop:=(p=-1∧heldL L k o=false)∨∃ i,∃ h:i < L.length,p=(i:Int)∧(L[i]'h).1=k∧(L[i]'h).2.1=o
theorem heldL_no {L:List LRow} {k o:Int} (h:∀ x ∈ L,¬ (x.1=k∧x.2.1=o)):heldL L k o=false:=by
 cases hh:heldL L k o with
 | false => rfl
 | true => obtain ⟨x,hx,e⟩:=held_iff.1 hh; exact absurd e (h x hx)
set_option maxRecDepth 100000 in
set_option maxHeartbeats 1000000 in
theorem place_any (B x:Nat) (L:List LRow) (ow k:Int) (w:World) (h:RTab w B x L) (hl:L.length≤100) :
  Calls Tryz.prog 153 #[.pointer (some ⟨x,0,none⟩),.int .i64 ow,.int .i64 k] w fun e w' => ∃ p,e=.returned (.int .i64 p)∧PlaceR L k ow p∧w=w':=by
 obtain ⟨A,n,c,hn,hk,hR⟩:=h
 have c0:=hk.cell 0
 simp only [List.getElem?_toArray,List.getElem?_cons_zero] at c0
 have hn100:n≤100:=by rw [hn.out]; exact hl
 have HR:=Lib.hid hR
 clear hk hR hl
 go_enter Tryz.func153,Tryz.ntmps153
 go_wp2_with fail
 go_loopw [7] (fun i wr => ∃ j:Nat,j≤n∧i=.int .i64 j∧Hid (∀ i,(h:i < L.length)→i < j→¬ ((L[i]'h).1=k∧(L[i]'h).2.1=ow))∧w=wr) (fun i _ => n - (intOf i).toNat)
 case atStart => exact ⟨0,Nat.zero_le _,rfl,Lib.hid (fun i h h2 => by omega),rfl⟩
 case round =>
  obtain ⟨j,hj,rfl,hno,rfl⟩:=hrel
  by_cases hjn:j < n
  ·have hjI:(j:Int) < (n:Int):=by omega
   have hjL:j < L.length:=by have:=hn.out; omega
   obtain ⟨b,cs,rfl,_,hkb,hc⟩:=HR.out.at_ (by intro e; rw [e] at hjL; simp at hjL)
   obtain ⟨q0,q1,q2⟩:=hc j hjL
   rw [← hkb.cell] at q0 q1 q2
   have hstep:Hid (¬ ((L[j]'hjL).1=k∧(L[j]'hjL).2.1=ow)→∀ i,(h:i < L.length)→i < j + 1→¬ ((L[i]'h).1=k∧(L[i]'h).2.1=ow)):=Lib.hid (fun h1 i hi hij => by
    by_cases e:i=j
    ·subst e; exact h1
    ·exact hno.out i hi (by omega))
   have hyes:Hid ((L[j]'hjL).1=k→(L[j]'hjL).2.1=ow→PlaceR L k ow (j:Int)):=Lib.hid (fun h1 h2 => .inr ⟨j,hjL,rfl,h1,h2⟩)
   generalize L[j]'hjL=z at q0 q1 q2 hstep hyes
   obtain ⟨zk,zo,za⟩:=z
   simp only at q0 q1 q2 hstep hyes
   clear hc hkb hjL hno
   by_cases h1:zk=k
   ·by_cases h2:zo=ow
    ·have hP:=hyes.out h1 h2
     subst h1
     subst h2
     have HP:=Lib.hid hP
     clear hstep hyes hP
     go_wp2
     go_ret
     exact ⟨_,rfl,HP.out,rfl⟩
    ·have hno2:Hid _:=Lib.hid (hstep.out (fun e => h2 e.2))
     have e1:(zk == k)=true:=by simp [h1]
     have e2:(zo == ow)=false:=by simp [h2]
     clear hstep hyes
     subst h1
     go_wp2
     go_roundw
     case rel => exact ⟨j + 1,by omega,by go_num,hno2,by first | rfl | trivial⟩
     case measure => simp [intOf]; omega
   ·have hno2:Hid _:=Lib.hid (hstep.out (fun e => h1 e.1))
    have e1:(zk == k)=false:=by simp [h1]
    clear hstep hyes
    go_wp2
    go_roundw
    case rel => exact ⟨j + 1,by omega,by go_num,hno2,by first | rfl | trivial⟩
    case measure => simp [intOf]; omega
  ·have hjI:¬ (j:Int) < (n:Int):=by omega
   have HP:Hid (PlaceR L k ow (-1)):=Lib.hid (.inl ⟨rfl,heldL_no fun x hx e => by
    obtain ⟨i,hi,rfl⟩:=List.mem_iff_getElem.1 hx
    exact hno.out i hi (by have:=hn.out; omega) e⟩)
   clear hno
   go_wp2
   go_ret
   exact ⟨_,rfl,HP.out,rfl⟩
end Go.Proofs.YtlliaihmfimdoaaGreat


namespace Go.Proofs.YtlliaihmfimdoaaGreat
open Go.RowKit Go.Maps
def clash2 (x y:LRow):Bool:=decide (x.1=y.1) && !decide (x.2.1=y.2.1) && x.2.2
def clashR (L:List LRow):Bool:=L.any fun x => L.any fun y => clash2 x y
theorem clash2_iff {x y:LRow}:clash2 x y=true ↔ x.1=y.1∧x.2.1≠y.2.1∧x.2.2=true:=by
 unfold clash2; simp [and_assoc]
theorem clashR_iff {L:List LRow}:clashR L=true ↔ ¬ NoClash L:=by
 unfold clashR
 rw [List.any_eq_true]
 constructor
 ·rintro ⟨x,hx,h⟩ hn
  obtain ⟨y,hy,h⟩:=List.any_eq_true.1 h
  obtain ⟨h1,h2,h3⟩:=clash2_iff.1 h
  have:=hn x hx y hy h1 h2
  rw [h3] at this; cases this
 ·intro hn
  apply Classical.byContradiction
  intro hno
  refine hn fun x hx y hy h1 h2 => ?_
  cases ha:x.2.2 with
  | false => rfl
  | true => exact absurd ⟨x,hx,List.any_eq_true.2 ⟨y,hy,clash2_iff.2 ⟨h1,h2,ha⟩⟩⟩ hno
theorem clashR_no {L:List LRow} (h:∀ x ∈ L,∀ y ∈ L,clash2 x y=false):clashR L=false:=by
 unfold clashR
 rw [List.any_eq_false]
 intro x hx
 rw [Bool.not_eq_true,List.any_eq_false]
 intro y hy
 rw [h x hx y hy]; simp
theorem clash_same {L:List LRow} (h:NoClash L) (k o:Int) (a:Bool):clashR (putL L k o (aloneL L k o || a))=clashL L k o a:=by
 cases hc:clashL L k o a with
 | false =>
  have:=h.put hc
  cases hr:clashR (putL L k o (aloneL L k o || a)) with
  | false => rfl
  | true => exact absurd this (clashR_iff.1 hr)
 | true =>
  unfold clashL at hc
  obtain ⟨x,hx,hb⟩:=List.any_eq_true.1 hc
  simp only [Bool.and_eq_true,Bool.not_eq_true',decide_eq_true_eq,decide_eq_false_iff_not,Bool.or_eq_true] at hb
  rw [clashR_iff]
  intro hn
  have hx':x ∈ putL L k o (aloneL L k o || a):=put_old hx (fun e => hb.1.2 e.2)
  rcases hb.2 with ha | ha
  ·subst ha
   have:=hn _ (put_new L k o _) x hx' hb.1.1.symm (fun e => hb.1.2 e.symm)
   simp at this
  ·have:=hn x hx' _ (put_new L k o _) hb.1.1 hb.1.2
   rw [ha] at this; cases this
set_option maxRecDepth 100000 in
set_option maxHeartbeats 2000000 in
theorem clashR_any (B x:Nat) (L:List LRow) (w:World) (h:RTab w B x L) (hl:L.length≤100) :
  Calls Tryz.prog 154 #[.pointer (some ⟨x,0,none⟩)] w fun e w' => e=.returned (.bool (clashR L))∧Below w.heap.size w w':=by
 have hxl:x < w.heap.size:=by obtain ⟨A,n,c,_,hk,_⟩:=h; exact hk.lt
 have H:=Lib.hid h
 obtain ⟨n,hN⟩:∃ n,n=L.length:=⟨_,rfl⟩
 have HN:=Lib.hid hN
 rw [← hN] at hl
 clear h hN
 go_enter Tryz.func154,Tryz.ntmps154
 go_wp2_with fail
 go_loopw [3] (fun i wr => ∃ j:Nat,j≤n∧i=.int .i64 j∧Hid (∀ i,(h:i < L.length)→i < j→∀ y ∈ L,clash2 (L[i]'h) y=false)∧Below w.heap.size w wr) (fun i _ => n - (intOf i).toNat)
 case atStart => exact ⟨0,Nat.zero_le _,rfl,Lib.hid (fun i h h2 => by omega),Below.refl _ _⟩
 case round =>
  obtain ⟨j,hj,rfl,hno,hb⟩:=hrel
  obtain ⟨A,n1,c,hn,hk,hR⟩:=H.out.below hb
  have c0:=hk.cell 0
  simp only [List.getElem?_toArray,List.getElem?_cons_zero] at c0
  obtain rfl:n1=n:=hn.out.trans HN.out.symm
  clear hn hk hR
  by_cases hjn:j < n1
  ·have hjI:(j:Int) < (n1:Int):=by omega
   go_wp2_with fail
   go_loopw [4] (fun i wr => ∃ m:Nat,m≤n1∧i=.int .i64 m∧Hid (∀ i,(h:i < L.length)→i < m→clash2 (L[j]'(by rw [← HN.out]; exact hjn)) (L[i]'h)=false)∧Below w.heap.size w wr) (fun i _ => n1 - (intOf i).toNat)
   case atStart => exact ⟨0,Nat.zero_le _,rfl,Lib.hid (fun i h h2 => by omega),hb⟩
   case round =>
    clear c0 hb
    obtain ⟨m,hm,rfl,hno2,hb⟩:=hrel
    obtain ⟨A',n',c',hn',hk,hR⟩:=H.out.below hb
    obtain rfl:n'=n1:=hn'.out.trans HN.out.symm
    by_cases hmn:m < n'
    ·have hmI:(m:Int) < (n':Int):=by omega
     have hjL:j < L.length:=by rw [← HN.out]; exact hjn
     have hmL:m < L.length:=by rw [← HN.out]; exact hmn
     obtain ⟨b,cs,rfl,_,hkb,hc⟩:=hR.at_ (by intro e; rw [e] at hjL; simp at hjL)
     obtain ⟨p0,p1,p2⟩:=hc j hjL
     obtain ⟨q0,q1,q2⟩:=hc m hmL
     rw [← hkb.cell] at p0 p1 p2 q0 q1 q2
     have c0:=hk.cell 0
     simp only [List.getElem?_toArray,List.getElem?_cons_zero] at c0
     have hyes:Hid (clash2 (L[j]'hjL) (L[m]'hmL)=true→clashR L=true):=Lib.hid (fun h1 => List.any_eq_true.2 ⟨_,List.getElem_mem hjL,List.any_eq_true.2 ⟨_,List.getElem_mem hmL,h1⟩⟩)
     have hstep:Hid (clash2 (L[j]'hjL) (L[m]'hmL)=false→∀ i,(h:i < L.length)→i < m + 1→clash2 (L[j]'hjL) (L[i]'h)=false):=Lib.hid (fun h1 i hi hij => by
      by_cases e:i=m
      ·subst e; exact h1
      ·exact hno2.out i hi (by omega))
     obtain ⟨z,hz⟩:∃ z,z=L[j]'hjL:=⟨_,rfl⟩
     obtain ⟨y,hy⟩:∃ y,y=L[m]'hmL:=⟨_,rfl⟩
     rw [← hz] at p0 p1 p2
     rw [← hy] at q0 q1 q2
     rw [← hz,← hy] at hyes
     have HZ:=Lib.hid (And.intro hz.symm hy.symm)
     clear hz hy
     obtain ⟨zk,zo,za⟩:=z
     obtain ⟨yk,yo,ya⟩:=y
     simp only at p0 p1 p2 q0 q1 q2 hyes
     have P0:=fun k:Nat => (show (wr.drewN k).cell? _=_ from p0)
     have P1:=fun k:Nat => (show (wr.drewN k).cell? _=_ from p1)
     have P2:=fun k:Nat => (show (wr.drewN k).cell? _=_ from p2)
     have Q0:=fun k:Nat => (show (wr.drewN k).cell? _=_ from q0)
     have Q1:=fun k:Nat => (show (wr.drewN k).cell? _=_ from q1)
     have C0:=fun k:Nat => (show (wr.drewN k).cell? _=_ from c0)
     have hbd:∀ k,Below w.heap.size w (wr.drewN k):=fun k => ⟨hb.os,hb.tape,hb.output,hb.size,hb.block⟩
     clear hc hkb hk hR p0 p1 p2 q0 q1 q2
     by_cases h1:zk=yk
     ·subst h1
      by_cases h2:zo=yo
      ·subst h2
       have hs2:=Lib.hid (hstep.out (by rw [HZ.out.1,HZ.out.2]; simp [clash2]))
       clear hyes hstep HZ hno2
       go_wp2_with fail
       go_quiet (fail)
       have hb2:=hbd nq
       clear P0 P1 P2 Q0 Q1 C0 hbd
       go_wp2
       go_roundw
       case rel => exact ⟨m + 1,by omega,by go_num,hs2,hb2⟩
       case measure => simp [intOf]; omega
      ·have e2:(zo != yo)=true:=by simp [h2]
       rcases za with _ | _
       ·have hs2:=Lib.hid (hstep.out (by rw [HZ.out.1,HZ.out.2]; simp [clash2]))
        clear hyes hstep HZ hno2
        go_wp2_with fail
        go_quiet (fail)
        have hb2:=hbd nq
        clear P0 P1 P2 Q0 Q1 C0 hbd
        go_wp2
        go_roundw
        case rel => exact ⟨m + 1,by omega,by go_num,hs2,hb2⟩
        case measure => simp [intOf]; omega
       ·have hY:=hyes.out (clash2_iff.2 ⟨rfl,h2,rfl⟩)
        have HY:=Lib.hid hY
        clear hyes hY hstep HZ hno2
        go_wp2_with fail
        go_quiet (fail)
        have hb2:=hbd nq
        clear P0 P1 P2 Q0 Q1 C0 hbd
        go_wp2
        go_ret
        exact ⟨by rw [HY.out]; rfl,hb2⟩
     ·have e1:(zk == yk)=false:=by simp [h1]
      have hs2:=Lib.hid (hstep.out (by rw [HZ.out.1,HZ.out.2]; simp [clash2,h1]))
      clear hyes hstep HZ hno2
      go_wp2_with fail
      go_quiet (fail)
      have hb2:=hbd nq
      clear P0 P1 P2 Q0 Q1 C0 hbd
      go_wp2
      go_roundw
      case rel => exact ⟨m + 1,by omega,by go_num,hs2,hb2⟩
      case measure => simp [intOf]; omega
    ·have hmI:¬ (m:Int) < (n':Int):=by omega
     have c0:=hk.cell 0
     simp only [List.getElem?_toArray,List.getElem?_cons_zero] at c0
     have hall:Hid (∀ i,(h:i < L.length)→i < j + 1→∀ y ∈ L,clash2 (L[i]'h) y=false):=Lib.hid (fun i hi hij y hy => by
      by_cases e:i=j
      ·subst e
       obtain ⟨q,hq,rfl⟩:=List.mem_iff_getElem.1 hy
       exact hno2.out q hq (by have:=HN.out; omega)
      ·exact hno.out i hi (by omega) y hy)
     clear hno2 hk hR
     go_wp2
     go_roundw
     case rel => exact ⟨j + 1,by omega,by go_num,hall,hb⟩
     case measure => simp [intOf]; omega
  ·have hjI:¬ (j:Int) < (n1:Int):=by omega
   have HR:Hid (clashR L=false):=Lib.hid (clashR_no fun x hx y hy => by
    obtain ⟨i,hi,rfl⟩:=List.mem_iff_getElem.1 hx
    exact hno.out i hi (by have:=HN.out; omega) y hy)
   clear hno
   go_wp2
   go_ret
   exact ⟨by rw [HR.out]; rfl,hb⟩
theorem idx_same {L:List LRow} (h:LOk L) {i j:Nat} (hi:i < L.length) (hj:j < L.length) (h1:(L[i]'hi).1=(L[j]'hj).1) (h2:(L[i]'hi).2.1=(L[j]'hj).2.1):i=j:=by
 have hp:=List.pairwise_iff_getElem.1 h.dis
 rcases Nat.lt_trichotomy i j with h3 | h3 | h3
 ·exact absurd ⟨h1,h2⟩ (hp i j hi hj h3)
 ·exact h3
 ·exact absurd ⟨h1.symm,h2.symm⟩ (hp j i hj hi h3)
theorem alone_at {L:List LRow} (h:LOk L) {k o:Int} {i:Nat} (hi:i < L.length) (h1:(L[i]'hi).1=k) (h2:(L[i]'hi).2.1=o):heldL L k o=true∧aloneL L k o=(L[i]'hi).2.2:=by
 refine ⟨held_iff.2 ⟨_,List.getElem_mem hi,h1,h2⟩,?_⟩
 cases ha:(L[i]'hi).2.2 with
 | true => exact alone_iff.2 ⟨_,List.getElem_mem hi,h1,h2,ha⟩
 | false =>
  cases hal:aloneL L k o with
  | false => rfl
  | true =>
   obtain ⟨x,hx,x1,x2,x3⟩:=alone_iff.1 hal
   have:=at_same h hx (List.getElem_mem hi) (x1.trans h1.symm) (x2.trans h2.symm)
   rw [this,ha] at x3; cases x3
theorem alone_no {L:List LRow} {k o:Int} (h:heldL L k o=false):aloneL L k o=false:=by
 cases hal:aloneL L k o with
 | false => rfl
 | true =>
  obtain ⟨x,hx,x1,x2,_⟩:=alone_iff.1 hal
  rw [held_iff.2 ⟨x,hx,x1,x2⟩] at h; cases h
set_option maxRecDepth 100000 in
set_option maxHeartbeats 1000000 in
theorem rdrop_any (B x of:Nat) (tt:TypeId) (cs:Array Value) (htt:tt≠200) (L:List LRow) (ow:Int) (w:World) (h:ROf w B x of tt cs L) (hl:L.length≤100) (hB:B≤w.heap.size) :
  Calls Tryz.prog 137 #[.pointer (some ⟨x,of,none⟩),.int .i64 ow] w fun e w' => e=.returned (.int .i64 ((L.length:Int) - ((dropL L ow).length:Int)))∧(∃ v,ROf w' B x of tt (cs.setIfInBounds of v) (dropL L ow))∧w.grownBy w' (some x):=by
 have hxl:x < w.heap.size:=by obtain ⟨A,n,c,_,hk,_,_⟩:=h; exact hk.lt
 have H:=Lib.hid h
 obtain ⟨n,hn⟩:∃ n,n=L.length:=⟨_,rfl⟩
 have HN:=Lib.hid hn
 rw [← hn] at hl ⊢
 clear h hn
 go_enter Tryz.func137,Tryz.ntmps137
 go_wp2_with fail
 go_loopw [5,6] (fun v i wr => ∃ (j n2 c2:Nat) (A2:Option Addr) (K:List LRow),v=.slice A2 n2 c2∧Hid (n2=K.length)∧n2≤j∧j≤n∧i=.int .i64 j∧OwnL wr w.heap.size A2 c2 K∧(K=[]→A2=none∧c2=0)∧Hid (K=dropL (L.take j) ow)∧Below w.heap.size w wr) (fun _ i _ => n - (intOf i).toNat)
 case atStart => exact ⟨0,0,0,none,[],rfl,rfl,Nat.le_refl _,Nat.zero_le _,rfl,World.ownsRow_nil _ _ _ _,fun _ => ⟨rfl,rfl⟩,rfl,Below.refl _ _⟩
 case round =>
  obtain ⟨j,n2,c2,A2,K,rfl,hn2,hnj,hj,rfl,hown,hz,hK,hb⟩:=hrel
  obtain ⟨A,n',c,hn',hk,hcs,hR⟩:=H.out.below hb
  obtain rfl:n'=n:=hn'.out.trans HN.out.symm
  have c0:=(hk.cell of).trans hcs
  by_cases hjn:j < n'
  ·have hjI:(j:Int) < (n':Int):=by omega
   have hjL:j < L.length:=by rw [← HN.out]; exact hjn
   obtain ⟨b,cb,rfl,_,hkb,hc⟩:=hR.at_ (by intro e; rw [e] at hjL; simp at hjL)
   obtain ⟨q0,q1,q2⟩:=hc j hjL
   rw [← hkb.cell] at q0 q1 q2
   have hstep:dropL (L.take (j + 1)) ow=dropL (L.take j) ow ++ (if (L[j]'hjL).2.1=ow then [] else [L[j]'hjL]):=by
    rw [take_snoc L j hjL]
    unfold dropL
    rw [List.filter_append]
    congr 1
    by_cases e:(L[j]'hjL).2.1=ow <;> simp [e]
   rw [← hK.out] at hstep
   generalize L[j]'hjL=z at q0 q1 q2 hstep
   obtain ⟨zk,zo,za⟩:=z
   simp only at q0 q1 q2 hstep
   clear hc hkb hk hcs hR hK hjL
   by_cases h1:zo=ow
   ·rw [if_pos h1,List.append_nil] at hstep
    have HS:=Lib.hid hstep.symm
    clear hstep
    subst h1
    go_wp2
    go_roundw
    case rel => exact ⟨j + 1,n2,c2,A2,K,rfl,hn2,by omega,by omega,by go_num,hown,hz,HS,hb⟩
    case measure => simp [intOf]; omega
   ·rw [if_neg h1] at hstep
    have HS:=Lib.hid hstep.symm
    have e1:(zo != ow)=true:=by simp [h1]
    have hb3:=ba wr (.cells #[.int .i64 zk,.int .i64 zo,.bool za] 200)
    have hown3:=hown.kept (lbelow_grown hb3 none) (fun r e => by cases e)
    obtain ⟨A5,c5,w5,hrun,hE5,hg5⟩:=rows_more hown3 n2 hn2.out (by omega) (zk,zo,za) wr.heap.size (by have:=hb.size; have:=hb3.size; omega) (Blk.new wr _ _)
    have hB5:=(bt hb hb3).grown hg5 (by have:=hb.size; have:=hb3.size; omega) (fun r e => (World.ownsRow.lt hown3 r (by rw [ownBlock_slice]; exact e)).1)
    have Hn5:Hid (n2 + 1=(K ++ [(zk,zo,za)]).length):=Lib.hid (by rw [List.length_append,← hn2.out]; rfl)
    have HE5:=Lib.hid (And.intro hE5 hB5)
    clear hstep hE5 hB5 hown3 hb3 hg5
    go_wp2_with (first
     | (at_builtin; refine wpList_append_run rfl (.tmp 27) (.tmp 35) 28 rfl _ _ _ w5 rfl rfl hrun ?_)
     | go_in)
    go_roundw
    case rel => exact ⟨j + 1,n2 + 1,c5,A5,_,rfl,Hn5,by omega,by omega,by go_num,HE5.out.1,fun e => by simp at e,HS,HE5.out.2⟩
    case measure => simp [intOf]; omega
  ·have hjI:¬ (j:Int) < (n':Int):=by omega
   have hKK:K=dropL L ow:=by rw [hK.out,List.take_of_length_le (by have:=HN.out; omega)]
   subst hKK
   have hset:=lgrown_set wr ⟨x,of,none⟩ (.slice A2 n2 c2)
   have hR2:=(hown.rows hz).kept hset (fun r e => by cases e; exact .inl hxl)
   have hk2:=hk.set_ of (.slice A2 n2 c2)
   have hG:=(lbelow_grown hb (some x)).andThen hset (fun r e => by cases e; exact .inr rfl)
   have f0:=hk.frozen of
   have Hfin:=Lib.hid (And.intro (show ∃ v,ROf (wr.setCell ⟨x,of,none⟩ (.slice A2 n2 c2)) B x of tt (cs.setIfInBounds of v) (dropL L ow) from ⟨_,A2,n2,c2,hn2,hk2,set_at hcs,hR2.base hB⟩) hG)
   have HW:IntKind.i64.wrap ((n':Int) - (n2:Int))=(n':Int) - (n2:Int):=IntWalk.i64_in _ (by omega)
   have Hn2:Hid ((n2:Int)=((dropL L ow).length:Int)):=Lib.hid (by rw [hn2.out])
   clear hR2 hk2 hG hset hown hz hR hk hcs hn' hK hn2
   go_wp2
   go_ret
   exact ⟨by rw [← Hn2.out]; rfl,Hfin.out⟩
end Go.Proofs.YtlliaihmfimdoaaGreat


namespace Go.Proofs.YtlliaihmfimdoaaGreat
open Go.RowKit Go.Maps
theorem OwnL.base {u:World} {B B' c:Nat} {A:Option Addr} {L:List LRow} (h:OwnL u B A c L) (hB:B'≤B):OwnL u B' A c L:=by
 unfold OwnL at h ⊢
 obtain ⟨h1,h2⟩:=h
 refine ⟨h1,?_⟩
 rcases h2 with h2 | ⟨g',cap',cur,hv,hb,hrest⟩
 ·exact .inl h2
 ·exact .inr ⟨g',cap',cur,hv,Nat.le_trans hB hb,hrest⟩
def OTab (w:World) (q n:Nat) (L:List LRow):Prop:=∃ A2 c2,Blk w q 30 #[.slice A2 n c2]∧OwnL w (q + 1) A2 c2 L∧(L=[]→A2=none∧c2=0)
def VNx (q x of n c:Nat) (A:Option Addr) (L:List LRow) (i:Nat) (v:Value) (w:World):Prop :=
 match i with
 | 0 => v=.pointer (some ⟨q,0,none⟩)
 | 1 => v=.pointer (some ⟨q,0,none⟩)
 | 2 => v=.pointer (some ⟨q,0,none⟩)
 | 3 => v=.pointer (some ⟨q,0,none⟩)
 | 4 => v=.slice none 0 0
 | 5 => v=.pointer (some ⟨x,of,none⟩)
 | 6 => v=.pointer (some ⟨x,of,none⟩)
 | 7 => v=.pointer (some ⟨x,of,none⟩)
 | 8 => v=.slice A n c
 | 9 => ∃ A2 c2,v=.slice A2 n c2∧OwnL w (q + 1) A2 c2 L∧(L=[]→A2=none∧c2=0)
 | 10 => v=.pointer (some ⟨q,0,none⟩)
 | 11 => v=.pointer (some ⟨q,0,none⟩)
 | 12 => OTab w q n L
 | _ => True
def ENx (q k:Nat) (u u':World):Prop:=match k with
 | 12 => u.grownBy u' (some q)
 | _ => Below u.heap.size u u'
def TNx (q j:Nat) (u:World):Prop:=match j with
 | 4 => Blk u q 30 #[.slice none 0 0]
 | 12 => Blk u q 30 #[.slice none 0 0]
 | _ => True
theorem ENx.grown {q k:Nat} {u u':World} (he:ENx q k u u'):u.grownBy u' (some q):=by
 unfold ENx at he
 split at he
 ·exact he
 ·exact lbelow_grown he _
theorem VNx.mono {q x of n c:Nat} {A:Option Addr} {L:List LRow} {k i:Nat} {v:Value} {u u':World} (he:ENx q k u u') (hik:i≠k) (h:VNx q x of n c A L i v u):VNx q x of n c A L i v u':=by
 unfold VNx at h ⊢
 split at h
 case h_10 =>
  obtain ⟨A2,c2,h1,h2,h3⟩:=h
  exact ⟨A2,c2,h1,h2.kept he.grown (fun r e => by cases e; omega),h3⟩
 case h_13 =>
  obtain ⟨A2,c2,h1,h2,h3⟩:=h
  unfold ENx at he
  split at he
  ·exact absurd rfl hik
  ·exact ⟨A2,c2,h1.below he h1.lt,h2.kept (lbelow_grown he none) (fun r e => by cases e),h3⟩
 all_goals exact h
theorem TNx.mono {q k j:Nat} {u u':World} (he:ENx q k u u') (hkj:k≠j) (h:j=4∧k=12→False) (hv:TNx q j u):TNx q j u':=by
 unfold TNx at hv ⊢
 split at hv
 ·unfold ENx at he
  split at he
  ·exact (h ⟨rfl,rfl⟩).elim
  ·exact hv.below he hv.lt
 ·unfold ENx at he
  split at he
  ·exact absurd rfl hkj
  ·exact hv.below he hv.lt
 ·trivial
theorem ltf {a:Bool} (h:a=false) (h2:a=true):False:=by rw [h] at h2; cases h2
theorem alone_full {L:List LRow} (hok:LOk L) {k o:Int} {i:Nat} (hi:i < L.length) (h1:(L[i]'hi).1=k) (h2:(L[i]'hi).2.1=o):putL L k o (aloneL L k o)=L:=by
 obtain ⟨g1,g2⟩:=alone_at hok hi h1 h2
 refine put_same g1 fun x hx hb => ?_
 obtain ⟨x1,x2⟩:=atB_iff.1 hb
 have:=at_same hok hx (List.getElem_mem hi) (x1.trans h1.symm) (x2.trans h2.symm)
 rw [g2,← this,← x1,← x2]
theorem put_idx {L:List LRow} (hok:LOk L) {k o:Int} {a:Bool} {i:Nat} (hi:i < L.length) (h1:(L[i]'hi).1=k) (h2:(L[i]'hi).2.1=o) :
  (putL L k o a).length=L.length∧∀ j,(h:j < (putL L k o a).length)→(hj:j < L.length)→((putL L k o a)[j]'h)=if j=i then (k,o,a) else L[j]'hj:=by
 obtain ⟨g1,_⟩:=alone_at hok hi h1 h2
 have e:putL L k o a=L.map fun x => if atB k o x then (k,o,a) else x:=by unfold putL; rw [if_pos g1]
 refine ⟨by rw [e,List.length_map],fun j h hj => ?_⟩
 simp only [e,List.getElem_map]
 by_cases hji:j=i
 ·subst hji
  rw [if_pos rfl,if_pos (atB_iff.2 ⟨h1,h2⟩)]
 ·rw [if_neg hji,if_neg fun hb => hji ?_]
  obtain ⟨x1,x2⟩:=atB_iff.1 hb
  exact idx_same hok hj hi (x1.trans h1.symm) (x2.trans h2.symm)
theorem LRows.alone {u:World} {B c b:Nat} {L:List LRow} (h:LRows u B (some ⟨b,0,none⟩) c L) (hok:LOk L) {k o:Int} {i:Nat} (hi:i < L.length) (h1:(L[i]'hi).1=k) (h2:(L[i]'hi).2.1=o) :
  LRows (u.setCell ⟨b,i * 3 + 2,none⟩ (.bool true)) B (some ⟨b,0,none⟩) c (putL L k o true):=by
 obtain ⟨hlen,hat⟩:=put_idx (a:=true) hok hi h1 h2
 have hne:L≠[]:=by intro e; rw [e] at hi; simp at hi
 obtain ⟨b',cs,e,hb,hk,hc⟩:=h.at_ hne
 cases e
 refine ⟨fun e => by rw [e] at hlen; simp at hlen; exact absurd (List.eq_nil_of_length_eq_zero hlen.symm) hne,fun _ => ⟨b,_,rfl,hb,hk.set_ (i * 3 + 2) (.bool true),fun j hj => ?_⟩⟩
 have hjL:j < L.length:=by omega
 obtain ⟨q0,q1,q2⟩:=hc j hjL
 obtain ⟨p0,p1,p2⟩:=hc i hi
 rw [hat j hj hjL]
 have s0:i * 3 + 2≠j * 3:=by omega
 have s1:i * 3 + 2≠j * 3 + 1:=by omega
 rw [Array.getElem?_setIfInBounds_ne s0,Array.getElem?_setIfInBounds_ne s1]
 by_cases hji:j=i
 ·subst hji
  rw [if_pos rfl]
  have hsz:j * 3 + 2 < cs.size:=by
   rcases Nat.lt_or_ge (j * 3 + 2) cs.size with h' | h'
   ·exact h'
   ·rw [Array.getElem?_eq_none h'] at q2; cases q2
  refine ⟨by rw [q0,h1],by rw [q1,h2],?_⟩
  rw [Array.getElem?_setIfInBounds_self_of_lt hsz]
 ·rw [if_neg hji]
  have s2:i * 3 + 2≠j * 3 + 2:=by omega
  rw [Array.getElem?_setIfInBounds_ne s2]
  exact ⟨q0,q1,q2⟩
theorem step_append_run {P:Program} {w:World} {ops:Array Oper} {o:Oper} {a:Act} {K:Act→World→Prop} {Q:Exit→Act→World→Prop} {E:Prop} (hgd:o.guard=none) (s x:Operand) (t:TypeId)
  (ho:o.op=.call { callee:=.builtin .append,args:=#[s,x],argTypes:=#[t,t] }) (sv xv v:Value) (w':World) (hs:a.eval s=sv) (hx:a.eval x=xv) (hrun:(Builtin.append_ #[t,t] o.type #[sv,xv]).run P w=.ok v w') (h:K (a.put o.dst v) w') :
  if Region.wanted o (yielded ops a.tmps)=true then Oper.wp P o a w K Q else E:=by
 have hw:Region.wanted o (yielded ops a.tmps)=true:=by simp [Region.wanted,hgd]
 rw [if_pos hw]
 unfold Oper.wp execOp
 simp only [ho,resolve,invoke,builtin,Sem.run_bind,Sem.run_pure,Result.andThen_ok,List.map_toArray,List.map_cons,List.map_nil,hs,hx,hrun]
 exact h
def RTakeO (w:World) (B x of:Nat) (tt:TypeId) (cs:Array Value) (r:Int × List LRow) (e:Ending) (w':World):Prop:=e=.returned (.int .i64 r.1)∧(∃ v,ROf w' B x of tt (cs.setIfInBounds of v) r.2)∧w.grownBy w' (some x)
theorem ROf.self {u:World} {B x of:Nat} {tt:TypeId} {cs:Array Value} {L:List LRow} (h:ROf u B x of tt cs L):∃ v,ROf u B x of tt (cs.setIfInBounds of v) L:=by
 obtain ⟨A,n,c,hn,hk,hcs,hR⟩:=h
 refine ⟨.slice A n c,?_⟩
 rw [set_self hcs]
 exact ⟨A,n,c,hn,hk,hcs,hR⟩
theorem take_by {L:List LRow} (hn:NoClash L) (hl:L.length≤64) (o k:Int) (a:Bool):takeL L o k a=if clashR (putL L k o (aloneL L k o || a)) then (120,L) else if 64 < (putL L k o (aloneL L k o || a)).length then (5,L) else (0,putL L k o (aloneL L k o || a)):=by
 rw [clash_same hn]
 unfold takeL
 by_cases hc:clashL L k o a=true
 ·rw [if_pos hc,if_pos hc]
 ·rw [if_neg hc,if_neg hc]
  by_cases h1:heldL L k o=false∧L.length=64
  ·rw [if_pos h1,if_pos]
   rw [putL_len,if_neg (by rw [h1.1]; simp)]
   omega
  ·rw [if_neg h1,if_neg]
   rw [putL_len]
   split
   ·omega
   ·rename_i h2
    have h2:heldL L k o=false:=Bool.eq_false_iff.2 h2
    have:L.length≠64:=fun e => h1 ⟨h2,e⟩
    omega
set_option maxRecDepth 100000 in
set_option maxHeartbeats 4000000 in
theorem rtake_any (B x of:Nat) (tt:TypeId) (cs:Array Value) (htt:tt≠200) (L:List LRow) (ow k:Int) (a:Bool) (w:World) (h:ROf w B x of tt cs L) (hl:L.length≤64) (hB:B≤w.heap.size) (hok:LOk L) (hnc:NoClash L) :
  Calls Tryz.prog 136 #[.pointer (some ⟨x,of,none⟩),.int .i64 ow,.int .i64 k,.bool a] w (RTakeO w B x of tt cs (takeL L ow k a)):=by
 obtain ⟨R,hR⟩:∃ R,R=takeL L ow k a:=⟨_,rfl⟩
 have HT:=Lib.hid (hR.trans (take_by hnc hl ow k a))
 rw [← hR]
 have hxl:x < w.heap.size:=by obtain ⟨A,n,c,_,hk,_,_⟩:=h; exact hk.lt
 have hb0:=ba w (.cells #[.slice none 0 0] 30)
 have kq:=Blk.new w 30 #[.slice none 0 0]
 obtain ⟨A,n,c,hn,hkx,hcs,hRx⟩:=h.below hb0
 have HX:=Lib.hid h
 have HOK:=Lib.hid hok
 obtain ⟨q,hq⟩:∃ q,q=w.heap.size:=⟨_,rfl⟩
 generalize hw1:w.alloc (.cells #[.slice none 0 0] 30)=w1 at *
 have HW1:=Lib.hid hw1
 rw [← hq] at kq
 have hq1:q + 1≤w1.heap.size:=kq.lt
 have hn64:n≤64:=by rw [hn.out]; exact hl
 have hxq:x≠q:=by omega
 have hBq:B≤q:=by omega
 have hxlq:x < q:=by omega
 have Hq:=Lib.hid hq
 clear hw1 hnc hl h hok hR
 go_enter Tryz.func136,Tryz.ntmps136
 go_wp2_with fail
 rw [HW1.out,← hq]
 clear hq HW1
 refine wp_region_invT (F:=?FN) (V:=VNx q x of n c A L) (dead:=fun _ => none) (T:=TNx q) (C:=fun u => Blk u x tt cs∧LRows u B A c L∧Below w.heap.size w u∧q + 1≤u.heap.size) (E:=ENx q) (by kernel_rfl) (by kernel_rfl) (by kernel_rfl) (fun x_ => ?hFN) ?hmonoN ?hTmN ?hTN ?hCN ?stepN ?finN
 case hFN => simp only [mkA,Act.put,List.setIfInBounds_toArray,List.set_cons_succ,List.set_cons_zero,Nat.reduceAdd,Nat.zero_add]; first | with_reducible rfl | rfl
 case hmonoN => exact fun q' i v u u' he hik hwt hdd hv => VNx.mono he hik hv
 case hTmN => exact fun k' j u u' he hkj hwt hv => TNx.mono he hkj (fun h => ltf hwt (by rw [h.1,h.2]; kernel_rfl)) hv
 case hTN => exact fun j => by unfold TNx; split <;> first | exact kq | trivial
 case hCN => exact ⟨hkx,hRx.below ((Below.refl _ _).drew),hb0.drew,hq1⟩
 case stepN =>
  refine AllOps.cons (fun x_ u hC hT hp K hK => ?_) ?_
  ·clear hp hT
   go_simp
   refine hK _ _ _ hC (Below.refl _ _) (by exact rfl) ?_
   first | (simp only [Act.put,List.setIfInBounds_toArray,List.set_cons_succ,List.set_cons_zero]; done) | simp [Act.put]
  refine AllOps.cons (fun x_ u hC hT hp K hK => ?_) ?_
  ·clear hp hT
   go_simp
   refine hK _ _ _ hC (Below.refl _ _) (by exact rfl) ?_
   first | (simp only [Act.put,List.setIfInBounds_toArray,List.set_cons_succ,List.set_cons_zero]; done) | simp [Act.put]
  refine AllOps.cons (fun x_ u hC hT hp K hK => ?_) ?_
  ·simp [KnownTill,Region.binds,VNx] at hp
   clear hT
   go_simp
   refine hK _ _ _ hC (Below.refl _ _) (by exact rfl) ?_
   first | (simp only [Act.put,List.setIfInBounds_toArray,List.set_cons_succ,List.set_cons_zero,hp]; done) | simp [Act.put,hp]
  refine AllOps.cons (fun x_ u hC hT hp K hK => ?_) ?_
  ·simp [KnownTill,Region.binds,VNx] at hp
   clear hT
   go_simp
   refine hK _ _ _ hC (Below.refl _ _) (by exact rfl) ?_
   first | (simp only [Act.put,List.setIfInBounds_toArray,List.set_cons_succ,List.set_cons_zero,hp]; done) | simp [Act.put,hp]
  refine AllOps.cons (fun x_ u hC hT hp K hK => ?_) ?_
  ·simp [KnownTill,Region.binds,VNx] at hp
   have kk:Blk u q 30 #[.slice none 0 0]:=hT
   have cc:=kk.cell 0
   simp only [List.getElem?_toArray,List.getElem?_cons_zero] at cc
   go_simp
   refine hK _ _ _ hC (Below.refl _ _) (by exact rfl) ?_
   first | (simp only [Act.put,List.setIfInBounds_toArray,List.set_cons_succ,List.set_cons_zero,hp]; done) | simp [Act.put,hp]
  refine AllOps.cons (fun x_ u hC hT hp K hK => ?_) ?_
  ·clear hp hT
   go_simp
   refine hK _ _ _ hC (Below.refl _ _) (by exact rfl) ?_
   first | (simp only [Act.put,List.setIfInBounds_toArray,List.set_cons_succ,List.set_cons_zero]; done) | simp [Act.put]
  refine AllOps.cons (fun x_ u hC hT hp K hK => ?_) ?_
  ·simp [KnownTill,Region.binds,VNx] at hp
   clear hT
   go_simp
   refine hK _ _ _ hC (Below.refl _ _) (by exact rfl) ?_
   first | (simp only [Act.put,List.setIfInBounds_toArray,List.set_cons_succ,List.set_cons_zero,hp]; done) | simp [Act.put,hp]
  refine AllOps.cons (fun x_ u hC hT hp K hK => ?_) ?_
  ·simp [KnownTill,Region.binds,VNx] at hp
   clear hT
   go_simp
   refine hK _ _ _ hC (Below.refl _ _) (by exact rfl) ?_
   first | (simp only [Act.put,List.setIfInBounds_toArray,List.set_cons_succ,List.set_cons_zero,hp]; done) | simp [Act.put,hp]
  refine AllOps.cons (fun x_ u hC hT hp K hK => ?_) ?_
  ·simp [KnownTill,Region.binds,VNx] at hp
   clear hT
   have cc:=(hC.1.cell of).trans hcs
   go_simp
   refine hK _ _ _ hC (Below.refl _ _) (by exact rfl) ?_
   first | (simp only [Act.put,List.setIfInBounds_toArray,List.set_cons_succ,List.set_cons_zero,hp]; done) | simp [Act.put,hp]
  refine AllOps.cons (fun x_ u hC hT hp K hK => ?_) ?_
  ·simp [KnownTill,Region.binds,VNx] at hp
   clear hT
   obtain ⟨A2,c2,uA,hrun,p1,p2,p3⟩:=rows_copy hC.2.1 n hn.out (by omega)
   have hC2:=hC
   obtain ⟨g1,g2,g3,g4⟩:=hC2
   refine step_append_run rfl (.tmp 17) (.tmp 21) 28 rfl (.slice none 0 0) (.slice A n c) (.slice A2 n c2) uA (by simp [Act.eval,hp]) (by simp [Act.eval,hp]) hrun ?_
   refine hK _ _ _ ⟨g1.below p3 g1.lt,g2.below p3,⟨p3.os.trans g3.os,p3.tape.trans g3.tape,p3.output.trans g3.output,Nat.le_trans g3.size p3.size,fun i hi => (p3.block i (Nat.lt_of_lt_of_le hi g3.size)).trans (g3.block i hi)⟩,Nat.le_trans g4 p3.size⟩ p3 ⟨A2,c2,rfl,p1.base g4,p2⟩ ?_
   first | (simp only [Act.put,List.setIfInBounds_toArray,List.set_cons_succ,List.set_cons_zero,hp]; done) | simp [Act.put,hp]
  refine AllOps.cons (fun x_ u hC hT hp K hK => ?_) ?_
  ·simp [KnownTill,Region.binds,VNx] at hp
   clear hT
   go_simp
   refine hK _ _ _ hC (Below.refl _ _) (by exact rfl) ?_
   first | (simp only [Act.put,List.setIfInBounds_toArray,List.set_cons_succ,List.set_cons_zero,hp]; done) | simp [Act.put,hp]
  refine AllOps.cons (fun x_ u hC hT hp K hK => ?_) ?_
  ·simp [KnownTill,Region.binds,VNx] at hp
   clear hT
   go_simp
   refine hK _ _ _ hC (Below.refl _ _) (by exact rfl) ?_
   first | (simp only [Act.put,List.setIfInBounds_toArray,List.set_cons_succ,List.set_cons_zero,hp]; done) | simp [Act.put,hp]
  refine AllOps.cons (fun x_ u hC hT hp K hK => ?_) ?_
  ·simp [KnownTill,Region.binds,VNx] at hp
   obtain ⟨e11,A2,c2,e9,o9,z9⟩:x_ 11=.pointer (some ⟨q,0,none⟩)∧∃ A2 c2,x_ 9=.slice A2 n c2∧OwnL u (q + 1) A2 c2 L∧(L=[]→A2=none∧c2=0):=by first | exact hp | exact ⟨hp.2,hp.1⟩ | exact ⟨hp.1,hp.2.1⟩ | exact ⟨hp.2.1,hp.1⟩
   clear hp
   have kk:Blk u q 30 #[.slice none 0 0]:=hT
   have cc:=kk.cell 0
   have ff:=kk.frozen 0
   have ks:=kk.set_ 0 (.slice A2 n c2)
   have gs:=lgrown_set u ⟨q,0,none⟩ (.slice A2 n c2)
   simp only [List.getElem?_toArray,List.getElem?_cons_zero,List.setIfInBounds_toArray,List.set_cons_zero] at cc ks
   obtain ⟨g1,g2,g3,g4⟩:=hC
   have gB:=g3.setCell (p:=⟨q,0,none⟩) (Nat.le_of_eq Hq.out.symm) (.slice A2 n c2)
   have KK:=Lib.hid kk
   have KS:=Lib.hid (And.intro ks gs)
   have GB:=Lib.hid gB
   clear ks gs kk gB
   go_simp
   refine hK undef _ _ ⟨g1.kept KS.out.2 (fun e => hxq (by injection e)),g2.kept KS.out.2 (fun r e => by cases e; exact .inr ⟨_,_,by decide,KK.out⟩),GB.out,Nat.le_trans g4 KS.out.2.size⟩ KS.out.2 ⟨A2,c2,KS.out.1,o9.kept KS.out.2 (fun r e => by cases e; exact Nat.lt_succ_self q),z9⟩ ?_
   simp [Act.put,e9,e11]
  exact AllOps.nil
 case finN =>
  intro x_ W2 hC hV
  obtain ⟨A2,c2,k2,o2,z2⟩:OTab W2 q n L:=hV 12 (by decide) rfl
  obtain ⟨g1,g2,BE2,g4⟩:=hC
  clear hV g1 g2
  have RT2:RTab W2 (q + 1) q L:=⟨A2,n,c2,hn,k2,o2.rows z2⟩
  have hpl:=place_any (q + 1) q L ow k W2 RT2 (by rw [← hn.out]; omega)
  clear hkx hRx kq hb0
  go_wp2_with fail
  refine hpl.mono ?_
  clear hpl
  rintro e w3 ⟨p,rfl,hp,rfl⟩
  have q0:=k2.cell 0
  have f0:=k2.frozen 0
  simp only [List.getElem?_toArray,List.getElem?_cons_zero] at q0
  rcases hp with ⟨rfl,hh⟩ | ⟨i,hi,rfl,h1,h2⟩
  ·obtain ⟨M,hM⟩:∃ M,M=putL L k ow (aloneL L k ow || a):=⟨_,rfl⟩
   have hM':M=L ++ [(k,ow,a)]:=by
    rw [hM,alone_no hh,Bool.false_or]
    unfold putL
    rw [if_neg (by rw [hh]; simp)]
   have HM2:=Lib.hid hM
   have hb3:=ba W2 (.cells #[.int .i64 k,.int .i64 ow,.bool a] 200)
   have o3:=o2.kept (lbelow_grown hb3 none) (fun r e => by cases e)
   obtain ⟨A5,c5,w5,hrun,o5,hg5⟩:=rows_more o3 n hn.out (by omega) (k,ow,a) W2.heap.size (by have:=hb3.size; omega) (Blk.new W2 _ _)
   have hrow:∀ r,Go.Proofs.YtlliaihmfimdoaaGreat.blk A2=some r→q + 1≤r:=fun r e => (World.ownsRow.lt o2 r (by rw [ownBlock_slice]; exact e)).1
   have k5:=(k2.below hb3 k2.lt).kept hg5 (fun e => by have:=hrow q e.symm; omega)
   have BE3:Below w.heap.size w (W2.alloc (.cells #[.int .i64 k,.int .i64 ow,.bool a] 200)):=BE2.trans (hb3.mono BE2.size)
   have BE5:=BE3.grown hg5 BE3.size (fun r e => by have:=hrow r e; have:=Hq.out; omega)
   have d5:=k5.cell 0
   have f5:=k5.frozen 0
   have s5:=k5.set_ 0 (.slice A5 (n + 1) c5)
   simp only [List.getElem?_toArray,List.getElem?_cons_zero,List.setIfInBounds_toArray,List.set_cons_zero] at d5 s5
   have hset:=lgrown_set w5 ⟨q,0,none⟩ (.slice A5 (n + 1) c5)
   have o6:=o5.kept hset (fun r e => by cases e; exact Nat.lt_succ_self q)
   have BE4:=BE5.setCell (p:=⟨q,0,none⟩) (Nat.le_of_eq Hq.out.symm) (.slice A5 (n + 1) c5)
   obtain ⟨n2,hn2⟩:∃ n2,n2=n + 1:=⟨_,rfl⟩
   have HM:Hid (n2=M.length):=Lib.hid (by rw [hM',List.length_append,← hn.out,hn2]; rfl)
   have RT4:RTab (w5.setCell ⟨q,0,none⟩ (.slice A5 (n + 1) c5)) (q + 1) q M:=⟨A5,n + 1,c5,Lib.hid (by rw [hM',List.length_append,← hn.out]; rfl),s5,by rw [hM']; exact o6.rows (fun e => by simp at e)⟩
   have hn65:n2≤65:=by omega
   obtain ⟨W4,hW4⟩:∃ W4,W4=w5.setCell ⟨q,0,none⟩ (.slice A5 (n + 1) c5):=⟨_,rfl⟩
   rw [← hW4] at RT4 BE4
   have HW4:=Lib.hid hW4
   clear hM hM' hb3 o3 hg5 hrow k5 BE3 BE5 s5 hset o6 o5 hW4 hn2 hh RT2 BE2 k2 o2 z2
   go_wp2_with (at_builtin; refine wpList_append_run rfl (.tmp 35) (.tmp 40) 28 rfl _ _ _ w5 rfl rfl hrun ?_)
   rw [← HW4.out]
   clear HW4 hrun d5 f5 q0 f0
   have hcl:=clashR_any (q + 1) q M W4 RT4 (by rw [← HM.out]; omega)
   obtain ⟨cl,hcl0⟩:∃ cl,cl=clashR M:=⟨_,rfl⟩
   rw [← hcl0] at hcl
   have HCL:=Lib.hid hcl0
   clear hcl0
   refine hcl.mono ?_
   clear hcl
   rintro e W5 ⟨rfl,b5⟩
   have RT5:=RT4.below b5
   have BE5:Below w.heap.size w W5:=BE4.trans (b5.mono BE4.size)
   have X5:=HX.out.below BE5
   have B5:=lbelow_grown BE5 (some x)
   clear RT4 b5
   rcases cl with _ | _
   ·obtain ⟨A6,n6,c6,hn6,k6,R6⟩:=RT5
    obtain rfl:n6=n2:=hn6.out.trans HM.out.symm
    have d0:=k6.cell 0
    simp only [List.getElem?_toArray,List.getElem?_cons_zero] at d0
    by_cases hbig:64 < n6
    ·have hbI:(64:Int) < (n6:Int):=by omega
     have HR:R=(5,L):=by rw [HT.out,if_neg (by rw [← HM2.out,← HCL.out]; simp),if_pos (by rw [← HM2.out,← HM.out]; exact hbig)]
     have HRR:=Lib.hid HR
     clear HR
     go_wp2
     go_ret
     rw [HRR.out]
     exact ⟨rfl,X5.self,B5⟩
    ·have hbI:¬ (64:Int) < (n6:Int):=by omega
     have HR:R=(0,M):=by rw [HT.out,if_neg (by rw [← HM2.out,← HCL.out]; simp),if_neg (by rw [← HM2.out,← HM.out]; exact hbig),HM2.out]
     obtain ⟨A7,n7,c7,hn7,k7,hc7,R7⟩:=X5
     have f0:=k7.frozen of
     have d7:=(k7.cell of).trans hc7
     have s7:=k7.set_ of (.slice A6 n6 c6)
     have hset:=lgrown_set W5 ⟨x,of,none⟩ (.slice A6 n6 c6)
     have R8:=(R6.kept hset (fun r e => by cases e; exact .inr ⟨_,_,htt,k7⟩)).base (B':=B) (by omega)
     have Hfin:=Lib.hid (And.intro (show ∃ v,ROf (W5.setCell ⟨x,of,none⟩ (.slice A6 n6 c6)) B x of tt (cs.setIfInBounds of v) M from ⟨_,A6,n6,c6,hn6,s7,set_at hc7,R8⟩) (B5.andThen hset (fun r e => by cases e; exact .inr rfl)))
     have HRR:=Lib.hid HR
     clear HR hset R8 s7 R6 R7 hn6 hn7 k7 hc7 k6 B5
     go_wp2
     go_ret
     rw [HRR.out]
     exact ⟨rfl,Hfin.out⟩
   ·have HR:R=(120,L):=by rw [HT.out,if_pos (by rw [← HM2.out,← HCL.out])]
    have HRR:=Lib.hid HR
    clear HR RT5
    go_wp2
    go_ret
    rw [HRR.out]
    exact ⟨rfl,X5.self,B5⟩
  ·obtain ⟨n2,hn2⟩:∃ n2,n2=n:=⟨_,rfl⟩
   rcases a with _ | _
   ·obtain ⟨M,hM⟩:∃ M,M=putL L k ow (aloneL L k ow || false):=⟨_,rfl⟩
    have HM2:=Lib.hid hM
    have hML:M=L:=by rw [hM,Bool.or_false]; exact alone_full HOK.out hi h1 h2
    have HM:Hid (n2=M.length):=Lib.hid (by rw [hML,hn2]; exact hn.out)
    have RT4:RTab W2 (q + 1) q M:=by rw [hML]; exact RT2
    have hn65:n2≤65:=by omega
    obtain ⟨W4,hW4⟩:∃ W4,W4=W2:=⟨_,rfl⟩
    subst hW4
    have BE4:=BE2
    have hi0:¬ (i:Int) < 0:=by omega
    clear hM hML hn2 RT2 BE2 k2 o2 z2 h1 h2 hi
    go_wp2_with fail
    clear q0 f0
    have hcl:=clashR_any (q + 1) q M W4 RT4 (by rw [← HM.out]; omega)
    obtain ⟨cl,hcl0⟩:∃ cl,cl=clashR M:=⟨_,rfl⟩
    rw [← hcl0] at hcl
    have HCL:=Lib.hid hcl0
    clear hcl0
    refine hcl.mono ?_
    clear hcl
    rintro e W5 ⟨rfl,b5⟩
    have RT5:=RT4.below b5
    have BE5:Below w.heap.size w W5:=BE4.trans (b5.mono BE4.size)
    have X5:=HX.out.below BE5
    have B5:=lbelow_grown BE5 (some x)
    clear RT4 b5
    rcases cl with _ | _
    ·obtain ⟨A6,n6,c6,hn6,k6,R6⟩:=RT5
     obtain rfl:n6=n2:=hn6.out.trans HM.out.symm
     have d0:=k6.cell 0
     simp only [List.getElem?_toArray,List.getElem?_cons_zero] at d0
     by_cases hbig:64 < n6
     ·have hbI:(64:Int) < (n6:Int):=by omega
      have HR:R=(5,L):=by rw [HT.out,if_neg (by rw [← HM2.out,← HCL.out]; simp),if_pos (by rw [← HM2.out,← HM.out]; exact hbig)]
      have HRR:=Lib.hid HR
      clear HR
      go_wp2
      go_ret
      rw [HRR.out]
      exact ⟨rfl,X5.self,B5⟩
     ·have hbI:¬ (64:Int) < (n6:Int):=by omega
      have HR:R=(0,M):=by rw [HT.out,if_neg (by rw [← HM2.out,← HCL.out]; simp),if_neg (by rw [← HM2.out,← HM.out]; exact hbig),HM2.out]
      obtain ⟨A7,n7,c7,hn7,k7,hc7,R7⟩:=X5
      have f0:=k7.frozen of
      have d7:=(k7.cell of).trans hc7
      have s7:=k7.set_ of (.slice A6 n6 c6)
      have hset:=lgrown_set W5 ⟨x,of,none⟩ (.slice A6 n6 c6)
      have R8:=(R6.kept hset (fun r e => by cases e; exact .inr ⟨_,_,htt,k7⟩)).base (B':=B) (by omega)
      have Hfin:=Lib.hid (And.intro (show ∃ v,ROf (W5.setCell ⟨x,of,none⟩ (.slice A6 n6 c6)) B x of tt (cs.setIfInBounds of v) M from ⟨_,A6,n6,c6,hn6,s7,set_at hc7,R8⟩) (B5.andThen hset (fun r e => by cases e; exact .inr rfl)))
      have HRR:=Lib.hid HR
      clear HR hset R8 s7 R6 R7 hn6 hn7 k7 hc7 k6 B5
      go_wp2
      go_ret
      rw [HRR.out]
      exact ⟨rfl,Hfin.out⟩
    ·have HR:R=(120,L):=by rw [HT.out,if_pos (by rw [← HM2.out,← HCL.out])]
     have HRR:=Lib.hid HR
     clear HR RT5
     go_wp2
     go_ret
     rw [HRR.out]
     exact ⟨rfl,X5.self,B5⟩
   ·obtain ⟨M,hM⟩:∃ M,M=putL L k ow (aloneL L k ow || true):=⟨_,rfl⟩
    have HM2:=Lib.hid hM
    rw [Bool.or_true] at hM
    have hML:=(put_idx (a:=true) HOK.out hi h1 h2).1
    have R2:=o2.rows z2
    obtain ⟨b,cb,e,hbb,hkb,hc⟩:=R2.at_ (by intro e; rw [e] at hi; simp at hi)
    subst e
    have R4:=R2.alone HOK.out hi h1 h2
    have hqb:q≠b:=by omega
    have k4:=k2.far (p:=⟨b,i * 3 + 2,none⟩) hqb (.bool true)
    have BE4:=BE2.setCell (p:=⟨b,i * 3 + 2,none⟩) (show w.heap.size≤b by have:=Hq.out; omega) (.bool true)
    have HM:Hid (n2=M.length):=Lib.hid (by rw [hM,hML,hn2]; exact hn.out)
    have RT4:RTab (W2.setCell ⟨b,i * 3 + 2,none⟩ (.bool true)) (q + 1) q M:=⟨_,n,c2,Lib.hid (by rw [hM,hML]; exact hn.out),k4,by rw [hM]; exact R4⟩
    have hn65:n2≤65:=by omega
    have db:=(hkb.cell (i * 3 + 2)).trans (hc i hi).2.2
    have fb:=hkb.frozen (i * 3 + 2)
    generalize (L[i]'hi).2.2=zb at db
    have hi0:¬ (i:Int) < 0:=by omega
    have hin:(i:Int) < (n:Int):=by have:=hn.out; omega
    obtain ⟨W4,hW4⟩:∃ W4,W4=W2.setCell ⟨b,i * 3 + 2,none⟩ (.bool true):=⟨_,rfl⟩
    rw [← hW4] at RT4 BE4
    have HW4:=Lib.hid hW4
    clear hM hML hn2 RT2 BE2 R2 R4 k4 hkb hc hW4 k2 o2 z2 h1 h2 hi
    go_wp2_with fail
    rw [← HW4.out]
    clear HW4 db fb q0 f0
    have hcl:=clashR_any (q + 1) q M W4 RT4 (by rw [← HM.out]; omega)
    obtain ⟨cl,hcl0⟩:∃ cl,cl=clashR M:=⟨_,rfl⟩
    rw [← hcl0] at hcl
    have HCL:=Lib.hid hcl0
    clear hcl0
    refine hcl.mono ?_
    clear hcl
    rintro e W5 ⟨rfl,b5⟩
    have RT5:=RT4.below b5
    have BE5:Below w.heap.size w W5:=BE4.trans (b5.mono BE4.size)
    have X5:=HX.out.below BE5
    have B5:=lbelow_grown BE5 (some x)
    clear RT4 b5
    rcases cl with _ | _
    ·obtain ⟨A6,n6,c6,hn6,k6,R6⟩:=RT5
     obtain rfl:n6=n2:=hn6.out.trans HM.out.symm
     have d0:=k6.cell 0
     simp only [List.getElem?_toArray,List.getElem?_cons_zero] at d0
     by_cases hbig:64 < n6
     ·have hbI:(64:Int) < (n6:Int):=by omega
      have HR:R=(5,L):=by rw [HT.out,if_neg (by rw [← HM2.out,← HCL.out]; simp),if_pos (by rw [← HM2.out,← HM.out]; exact hbig)]
      have HRR:=Lib.hid HR
      clear HR
      go_wp2
      go_ret
      rw [HRR.out]
      exact ⟨rfl,X5.self,B5⟩
     ·have hbI:¬ (64:Int) < (n6:Int):=by omega
      have HR:R=(0,M):=by rw [HT.out,if_neg (by rw [← HM2.out,← HCL.out]; simp),if_neg (by rw [← HM2.out,← HM.out]; exact hbig),HM2.out]
      obtain ⟨A7,n7,c7,hn7,k7,hc7,R7⟩:=X5
      have f0:=k7.frozen of
      have d7:=(k7.cell of).trans hc7
      have s7:=k7.set_ of (.slice A6 n6 c6)
      have hset:=lgrown_set W5 ⟨x,of,none⟩ (.slice A6 n6 c6)
      have R8:=(R6.kept hset (fun r e => by cases e; exact .inr ⟨_,_,htt,k7⟩)).base (B':=B) (by omega)
      have Hfin:=Lib.hid (And.intro (show ∃ v,ROf (W5.setCell ⟨x,of,none⟩ (.slice A6 n6 c6)) B x of tt (cs.setIfInBounds of v) M from ⟨_,A6,n6,c6,hn6,s7,set_at hc7,R8⟩) (B5.andThen hset (fun r e => by cases e; exact .inr rfl)))
      have HRR:=Lib.hid HR
      clear HR hset R8 s7 R6 R7 hn6 hn7 k7 hc7 k6 B5
      go_wp2
      go_ret
      rw [HRR.out]
      exact ⟨rfl,Hfin.out⟩
    ·have HR:R=(120,L):=by rw [HT.out,if_pos (by rw [← HM2.out,← HCL.out])]
     have HRR:=Lib.hid HR
     clear HR RT5
     go_wp2
     go_ret
     rw [HRR.out]
     exact ⟨rfl,X5.self,B5⟩
end Go.Proofs.YtlliaihmfimdoaaGreat

