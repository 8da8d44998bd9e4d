/- Parts Ih Ii Im of one proof. -/
import Derived.Test.YtlliaihmfimdoaaGreatMg05
import Derived.Shelf.SlMaps.Clone
import Derived.Deep.QuietTactic
import Derived.BigQuiet
set_option linter.unusedSimpArgs false
set_option linter.unusedVariables false
namespace Go.Proofs.YtlliaihmfimdoaaGreat
open Go.RowKit Go.Maps
set_option maxRecDepth 1000000 in
theorem clone_nil (w:World):Calls Tryz.prog 141 #[.map none] w fun e w' => e=.returned (.map none)∧w=w':=by
 have hq:=fun w => run_eql_map_nil_sl (P:=Tryz.prog) w 91 _ _ none Tryz.underlying91
 go_enter Tryz.func141,Tryz.ntmps141
 go_wp2
 go_ret
 exact ⟨rfl,rfl⟩
set_option maxRecDepth 1000000 in
theorem clone_map (b:Nat) (es:Array MapEntry) (clock:Nat) (w:World) (hb:w.heap[b]?=some (.map es clock)):Calls Tryz.prog 141 #[.map (some b)] w fun e w' => e=.returned (.map (some w.heap.size))∧w'=w.alloc (.map es clock):=by
 have hq:=fun w => run_eql_map_nil_sl (P:=Tryz.prog) w 91 _ _ (some b) Tryz.underlying91
 go_enter Tryz.func141,Tryz.ntmps141
 go_wp2
 rw [run_callFunc_extern Tryz.func157 (by kernel_rfl) (by kernel_rfl) (by kernel_rfl) (e:=Extern.MapsClone.clone) (by kernel_rfl),run_maps_clone_sl w 91 hb]
 simp only [Result.andThen]
 rw [Oper.upon_value]
 go_wp2
 rw [run_typeAssert_map_sl _ 91 _ _ _ _ Tryz.underlying91]
 simp only [Result.andThen]
 rw [Oper.upon_value]
 go_wp2
 go_ret
 exact ⟨rfl,rfl⟩
theorem clone_own (b n:Nat) (D:DataW Unit) (w:World) (h:w.ownsMap Tryz.prog 178 holdElem b n D):Calls Tryz.prog 141 #[.map (some b)] w fun e w' => e=.returned (.map (some w.heap.size))∧w'.ownsMap Tryz.prog 178 holdElem w.heap.size n D∧Below w.heap.size w w':=by
 obtain ⟨es,clock,hb,F,hs,hD⟩:=h
 refine (clone_map b es clock w hb).mono ?_
 rintro e w' ⟨rfl,rfl⟩
 exact ⟨rfl,⟨es,clock,(MapKept.heap_alloc w _).1,F,hs,hD⟩,ba _ _⟩
end Go.Proofs.YtlliaihmfimdoaaGreat


namespace Go.Proofs.YtlliaihmfimdoaaGreat
open Go.RowKit Go.Maps
def DropO (w:World) (g of:Nat) (tt:TypeId) (cs:Array Value) (L:List LRow) (o:Int) (e:Ending) (w':World):Prop:=e=.returned (.tuple #[.int .i64 ((L.length:Int) - ((dropL L o).length:Int)),.int .i64 0])∧(∃ m,TabO w' g of tt (cs.setIfInBounds of (.map m)) (dropL L o))∧w.grownBy w' (some g)
theorem dropL_len (L:List LRow) (o:Int):(dropL L o).length≤L.length:=List.length_filter_le _ _
set_option maxRecDepth 100000 in
set_option maxHeartbeats 2000000 in
theorem drop_any (g of:Nat) (tt:TypeId) (cs:Array Value) (L:List LRow) (o:Int) (w:World) (h:TabO w g of tt cs L) (ho:i64ok o) :
  Calls Tryz.prog 103 #[.pointer (some ⟨g,of,none⟩),.int .i64 o] w (DropO w g of tt cs L o):=by
 obtain ⟨m,hg,hcs,hsrc⟩:=h.src
 have hglt:=h.lt
 have hlen:=h.1
 have c0:=(hg.cell of).trans hcs
 have f0:=hg.frozen of
 clear h
 rcases hsrc with ⟨rfl,rfl⟩ | ⟨b,D,rfl,hown,hR⟩
 ·have hrg:=run_range_nilMap (P:=Tryz.prog) w 91 178 185 Tryz.underlying91
  have hnx:∀ ty,(Instr.next (.pointer (some ⟨w.heap.size,0,none⟩)) false ty).run Tryz.prog (w.alloc (.mapIter none 0 #[] 0))=_:=fun ty => run_next_nilMap w ty 0 0 #[]
  have hln:=fun (u:World) ty => Maps.len_nil (P:=Tryz.prog) (w:=u) Tryz.underlying91 ty
  have hg1:=hg.below (ba w (.mapIter none 0 #[] 0)) hglt
  have c1:=(hg1.cell of).trans hcs
  have f1:=hg1.frozen of
  go_enter Tryz.func103,Tryz.ntmps103
  go_wp2_with fail
  refine (clone_nil w).mono ?_
  rintro e w' ⟨rfl,rfl⟩
  go_wp2
  refine wp_loop_rounds 1 ?_
  rw [rounds_succ]
  go_wp2
  go_ret2
  refine ⟨rfl,⟨none,TabO.of_src (by simp [dropL]) (m:=none) ?_ (set_at hcs) (.inl ⟨rfl,rfl⟩)⟩,?_⟩
  ·exact (hg.set_ of (.map none)).alloc (.mapIter none 0 #[] 0)
  ·exact (lgrown_set w ⟨g,of,none⟩ (.map none)).andThen (World.grownBy_alloc _ _ none) (fun j h => by cases h)
 ·have hsz:=Reads.size hown hR
  have HRd:=Lib.hid (And.intro hR (And.intro hlen ho))
  clear hlen
  go_enter Tryz.func103,Tryz.ntmps103
  go_wp2_with fail
  refine (clone_own b L.length D w hown).mono ?_
  rintro e w1 ⟨rfl,hcl,hb1⟩
  have hown1:=own_below hown hb1
  have hg1:=hg.below hb1 hglt
  have c1:=(hg1.cell of).trans hcs
  have hbne:b≠w.heap.size:=by have:=hown.lt; omega
  have hcl1:=hcl.lt
  have hbg:=own_ne_blk hown hg
  clear c0 f0 hown
  go_wp2_with (first
   | (at_range; refine wpList_range_own _ rfl _ 91 rfl 178 185 lawP Tryz.underlying91 _ b L.length _ rfl hown1 ?_; intro w0 hrg0 hg0 hs0)
   | go_in)
  go_frame
  obtain ⟨r,hr⟩:∃ r,r=w1.heap.size:=⟨_,rfl⟩
  rw [← hr] at hrg0 hs0 ⊢
  have hrB:w.heap.size < r:=by omega
  have Hr:=Lib.hid hr
  have hB0:Below w.heap.size w w0:=bt hb1 (lgrown_below hg0)
  have hcl0:=hcl.kept hg0 (by simp)
  clear hown1 hg1 c1 hcl hr
  go_loopw [] (fun wr => ∃ (left:Lit→Bool) (cnt:Nat) (Dl:DataW Unit),wr.ranges Tryz.prog 178 holdElem b r L.length D left cnt∧(∀ kl,left kl=true→Maps.has D kl=true)∧wr.ownsMap Tryz.prog 178 holdElem w.heap.size L.length Dl∧DropAt Dl D L o left∧Below w.heap.size w wr)
   (fun wr => wr.rangeLeft b r)
  case atStart => exact ⟨_,_,D,hrg0,fun _ h => h,hcl0,DropAt.start D L o,hB0⟩
  case round =>
   clear hcl0 hrg0 hB0 hs0 hg0
   obtain ⟨left,cnt,Dl,hrg,hlf,hownl,hda,hbw⟩:=hrel
   go_wp2_with (first
    | (at_next; refine wpList_next_lock _ rfl _ rfl b r L.length _ _ _ rfl hrg ?_ ?_)
    | go_in)
   ·intro hc0 hl0
    have hRl:=hda.done HRd.out.1 hl0
    have hln1:=(Src.len_run (.inr ⟨b,D,rfl,hrg.owns,HRd.out.1⟩):∀ ty,_)
    have hln2:∀ ty,(Builtin.len_ #[91] ty #[.map (some w.heap.size)]).run Tryz.prog wr=.ok (.int .i64 (dropL L o).length) wr:=fun ty => by rw [hownl.len Tryz.underlying91 ty,Reads.size hownl hRl]
    have hgr:=hg.below hbw hglt
    have c1:=(hgr.cell of).trans hcs
    have f1:=hgr.frozen of
    have hx:=own_exact hownl
    rw [Reads.size hownl hRl] at hx
    obtain ⟨n1,hn1⟩:∃ n1,n1=L.length:=⟨_,rfl⟩
    obtain ⟨n2,hn2⟩:∃ n2,n2=(dropL L o).length:=⟨_,rfl⟩
    have h12:(n2:Int)≤(n1:Int)∧(n1:Int)≤64:=by have:=dropL_len L o; have:=HRd.out.2.1; omega
    rw [← hn1] at hln1
    rw [← hn2] at hln2
    have hw12:IntKind.i64.wrap ((n1:Int) - (n2:Int))=(n1:Int) - (n2:Int):=IntWalk.i64_in _ (by omega)
    have HN:=Lib.hid (And.intro hn1 hn2)
    have HX:=Lib.hid (And.intro hx hRl)
    have Hgr:=Lib.hid hgr
    clear hn1 hn2 h12 hx hRl hgr hrg hownl hda
    go_wp2
    go_ret2
    refine ⟨by rw [← HN.out.1,← HN.out.2]; rfl,⟨some w.heap.size,TabO.of_src (by have:=dropL_len L o; have:=HRd.out.2.1; omega) (m:=some w.heap.size) (Hgr.out.set_ of (.map (some w.heap.size))) (set_at hcs) (.inr ⟨w.heap.size,Dl,rfl,HX.out.1.setCell (a:=⟨g,of,none⟩) (by show w.heap.size≠g; omega) _,HX.out.2⟩)⟩,?_⟩
    ·exact (lbelow_grown hbw (some g)).andThen (lgrown_set _ ⟨g,of,none⟩ (.map (some w.heap.size))) (fun j h => by cases h; exact .inr rfl)
   ·intro e w2 cnt1 hc hen
    have hhas:=hlf _ hc.lf
    obtain ⟨w3,hw3⟩:∃ w3,w3=w2.alloc (.cells #[.int .i64 e.k,.int .i64 e.o] 178):=⟨_,rfl⟩
    have hb3:Below w2.heap.size w2 w3:=by rw [hw3]; exact ba _ _
    have hrg3:=hc.rg.kept (lbelow_grown hb3 none) (by simp) (by simp)
    have hownl3:=own_below (hownl.kept hc.gr (fun e => by have:=Option.some.inj e; omega)) hb3
    have hbw2:Below w.heap.size w w2:=hbw.grown hc.gr hbw.size (fun k e => by cases e; omega)
    have hbw3:=bt hbw2 hb3
    have hkey:=keyOf_pv e.k e.o hc.k hc.o
    unfold pv at hkey
    obtain ⟨ek,eo,ec⟩:=e
    simp only at hw3 hrg3 hen hkey hhas ⊢
    have hlf2:∀ kl,(fun z => left z && !z.sameKey (litP ek eo)) kl=true→Maps.has D kl=true:=fun kl h => hlf kl (by simp at h; exact h.1)
    have hlt2:=hc.lt
    have hko:i64ok ek∧i64ok eo:=⟨hc.k,hc.o⟩
    have Hms:Hid (cnt1 < wr.rangeLeft b r):=Lib.hid (by rw [hrg.left_eq]; exact hlt2)
    have Hl:=Lib.hid (And.intro hlf2 (And.intro hda (And.intro hko hhas)))
    clear hlf2 hda hko hhas hlt2 hc hrg hownl hbw hbw2 hb3 hlf
    by_cases h1:eo=o
    ·subst h1
     have Hw3:=Lib.hid hw3
     have hownl3':=hownl3
     rw [hw3] at hownl3'
     clear hw3
     go_wp2_with (first
      | (at_delete; refine wpList_delete_own _ rfl _ _ 91 178 rfl 185 lawP Tryz.underlying91 _ w.heap.size _ _ rfl hownl3' _ _ rfl hkey ?_; intro w4 hownl4 hturn; go_frame)
      | go_in)
     rw [← Hw3.out] at hturn
     have hgr4:=hturn.grown
     have hrg4:=hrg3.kept hgr4 (fun e => by have:=Option.some.inj e; omega) (fun e => by have:=Option.some.inj e; omega)
     have hbw4:Below w.heap.size w w4:=hbw3.grown hgr4 hbw3.size (fun k e => by cases e; exact Nat.le_refl _)
     go_roundw
     case rel => exact ⟨_,cnt1,_,hrg4,Hl.out.1,hownl4,Hl.out.2.1.gone HRd.out.1 Hl.out.2.2.1.1 Hl.out.2.2.1.2 Hl.out.2.2.2,hbw4⟩
     case measure => rw [hrg4.left_eq]; exact Hms.out
    ·rw [hw3] at hrg3 hownl3 hbw3
     clear hw3
     go_wp2
     go_roundw
     case rel => exact ⟨_,cnt1,_,hrg3,Hl.out.1,hownl3,Hl.out.2.1.stay HRd.out.1 Hl.out.2.2.1.1 Hl.out.2.2.1.2 Hl.out.2.2.2 h1,hbw3⟩
     case measure => rw [hrg3.left_eq]; exact Hms.out
end Go.Proofs.YtlliaihmfimdoaaGreat


namespace Go.Proofs.YtlliaihmfimdoaaGreat
open Go.RowKit Go.Maps
theorem held_iff {L:List LRow} {k o:Int}:heldL L k o=true ↔ ∃ x ∈ L,x.1=k∧x.2.1=o:=by
 unfold heldL; rw [List.any_eq_true]; exact ⟨fun ⟨x,h,e⟩ => ⟨x,h,atB_iff.1 e⟩,fun ⟨x,h,e⟩ => ⟨x,h,atB_iff.2 e⟩⟩
theorem alone_iff {L:List LRow} {k o:Int}:aloneL L k o=true ↔ ∃ x ∈ L,x.1=k∧x.2.1=o∧x.2.2=true:=by
 unfold aloneL; rw [List.any_eq_true]
 constructor
 ·rintro ⟨x,h,e⟩
  rw [Bool.and_eq_true,atB_iff] at e
  exact ⟨x,h,e.1.1,e.1.2,e.2⟩
 ·rintro ⟨x,h,e1,e2,e3⟩
  exact ⟨x,h,by rw [Bool.and_eq_true,atB_iff]; exact ⟨⟨e1,e2⟩,e3⟩⟩
theorem clash_no {L:List LRow} {k o:Int} {a:Bool} (h:clashL L k o a=false) {x:LRow} (hx:x ∈ L) (h1:x.1=k) (h2:x.2.1≠o):a=false∧x.2.2=false:=by
 unfold clashL at h
 have:=(List.any_eq_false.1 h) x hx
 simpa [h1,h2] using this
theorem put_mem {L:List LRow} {k o:Int} {a:Bool} {x:LRow} (h:x ∈ putL L k o a):x=(k,o,a)∨(x ∈ L∧¬ (x.1=k∧x.2.1=o)):=by
 unfold putL at h
 split at h
 ·obtain ⟨y,hy,rfl⟩:=List.mem_map.1 h
  by_cases hb:atB k o y=true
  ·rw [if_pos hb]; exact .inl rfl
  ·rw [if_neg hb]; exact .inr ⟨hy,fun e => hb (atB_iff.2 e)⟩
 ·rename_i hn
  rcases List.mem_append.1 h with h1 | h1
  ·exact .inr ⟨h1,fun e => hn (held_iff.2 ⟨x,h1,e⟩)⟩
  ·exact .inl (List.mem_singleton.1 h1)
theorem put_new (L:List LRow) (k o:Int) (a:Bool):(k,o,a) ∈ putL L k o a:=by
 unfold putL
 split
 ·rename_i h
  obtain ⟨x,hx,e⟩:=held_iff.1 h
  exact List.mem_map.2 ⟨x,hx,by rw [if_pos (atB_iff.2 e)]⟩
 ·simp
theorem put_old {L:List LRow} {k o:Int} {a:Bool} {x:LRow} (hx:x ∈ L) (hn:¬ (x.1=k∧x.2.1=o)):x ∈ putL L k o a:=by
 unfold putL
 split
 ·exact List.mem_map.2 ⟨x,hx,by rw [if_neg (fun e => hn (atB_iff.1 e))]⟩
 ·exact List.mem_append.2 (.inl hx)
theorem take_cases (L:List LRow) (o k:Int) (a:Bool):(clashL L k o a=true∧takeL L o k a=(120,L))∨(clashL L k o a=false∧heldL L k o=false∧L.length=64∧takeL L o k a=(5,L)) ∨
  (clashL L k o a=false∧takeL L o k a=(0,putL L k o (aloneL L k o || a))):=by
 unfold takeL
 split
 ·rename_i h; exact .inl ⟨h,rfl⟩
 ·rename_i h
  have h:=Bool.eq_false_iff.2 h
  split
  ·rename_i h2; exact .inr (.inl ⟨h,h2.1,h2.2,rfl⟩)
  ·exact .inr (.inr ⟨h,rfl⟩)
theorem take_ok {L L':List LRow} {o k r:Int} {a:Bool} (h:takeL L o k a=(r,L')) (hr:r=0):clashL L k o a=false∧L'=putL L k o (aloneL L k o || a):=by
 rcases take_cases L o k a with ⟨_,e⟩ | ⟨_,_,_,e⟩ | ⟨hc,e⟩
 ·rw [e] at h; cases h; cases hr
 ·rw [e] at h; cases h; cases hr
 ·rw [e] at h; cases h; exact ⟨hc,rfl⟩
theorem take_not {L L':List LRow} {o k r:Int} {a:Bool} (h:takeL L o k a=(r,L')) (hr:r≠0):L'=L∧(r=120∨r=5∧L.length=64):=by
 rcases take_cases L o k a with ⟨_,e⟩ | ⟨_,_,hl,e⟩ | ⟨hc,e⟩
 ·rw [e] at h; cases h; exact ⟨rfl,.inl rfl⟩
 ·rw [e] at h; cases h; exact ⟨rfl,.inr ⟨rfl,hl⟩⟩
 ·rw [e] at h; cases h; exact absurd rfl hr
def NoClash (L:List LRow):Prop:=∀ x ∈ L,∀ y ∈ L,x.1=y.1→x.2.1≠y.2.1→x.2.2=false
theorem NoClash.put {L:List LRow} (h:NoClash L) {k o:Int} {a:Bool} (hc:clashL L k o a=false):NoClash (putL L k o (aloneL L k o || a)):=by
 intro x hx y hy e1 e2
 rcases put_mem hx with rfl | ⟨hx1,hx2⟩
 ·rcases put_mem hy with rfl | ⟨hy1,hy2⟩
  ·exact absurd rfl e2
  ·have hn:=clash_no hc hy1 e1.symm (fun e => e2 e.symm)
   show (aloneL L k o || a)=false
   rw [hn.1,Bool.or_false]
   cases hal:aloneL L k o with
   | false => rfl
   | true =>
    obtain ⟨z,hz,z1,z2,z3⟩:=alone_iff.1 hal
    have:=h z hz y hy1 (z1.trans e1) (by rw [z2]; exact e2)
    rw [z3] at this; exact this
 ·rcases put_mem hy with rfl | ⟨hy1,hy2⟩
  ·exact (clash_no hc hx1 e1 e2).2
  ·exact h x hx1 y hy1 e1 e2
theorem NoClash.take {L:List LRow} (h:NoClash L) (o k:Int) (a:Bool):NoClash (takeL L o k a).2:=by
 rcases take_cases L o k a with ⟨_,e⟩ | ⟨_,_,_,e⟩ | ⟨hc,e⟩
 ·rw [e]; exact h
 ·rw [e]; exact h
 ·rw [e]; exact h.put hc
theorem NoClash.drop {L:List LRow} (h:NoClash L) (o:Int):NoClash (dropL L o) :=
 fun x hx y hy => h x (List.mem_filter.1 hx).1 y (List.mem_filter.1 hy).1
theorem put_same {M:List LRow} {k o:Int} {b:Bool} (hh:heldL M k o=true) (h:∀ x ∈ M,atB k o x=true→x=(k,o,b)):putL M k o b=M:=by
 unfold putL
 rw [if_pos hh]
 have:∀ x ∈ M,(if atB k o x then (k,o,b) else x)=x:=by
  intro x hx
  split
  ·rename_i hb; exact (h x hx hb).symm
  ·rfl
 rw [List.map_congr_left this,List.map_id']
end Go.Proofs.YtlliaihmfimdoaaGreat

