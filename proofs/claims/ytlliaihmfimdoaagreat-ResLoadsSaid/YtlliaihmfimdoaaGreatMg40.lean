/- Parts Sn Dd De Df Dg Dh Di Dj Dk So OpenRd Sp Sq Ss of one proof. -/
import Derived.Test.YtlliaihmfimdoaaGreatMg31
import Derived.Test.YtlliaihmfimdoaaGreatMg14
import Derived.Test.YtlliaihmfimdoaaGreatMg38
import Derived.Test.YtlliaihmfimdoaaGreatMg39
import Derived.Test.YtlliaihmfimdoaaGreatMg15
set_option linter.unusedSimpArgs false
set_option linter.unusedVariables false
namespace Go.Proofs.YtlliaihmfimdoaaGreat.Re
open Go.RowKit Go.Maps Go.Deep Go.Proofs.YtlliaihmfimdoaaGreat
def callR (S:RS) (o:OpV):(Nat × Bool × List Ch × Int) × RS :=
 if o.k=0 then (((getR S o.n o.y).1.1,(getR S o.n o.y).1.2.1,[],(getR S o.n o.y).1.2.2),(getR S o.n o.y).2)
 else if o.k=1 then ((0,false,[],(putR S o.n o.y o.v).1),(putR S o.n o.y o.v).2)
 else if o.k=2 then ((0,false,[],(delR S o.n o.y).1),(delR S o.n o.y).2)
 else if o.k=3 then ((0,false,[],(pushR S o.n o.v).1),(pushR S o.n o.v).2)
 else if o.k=4 then (((popR S o.n).1.1,false,[],(popR S o.n).1.2),(popR S o.n).2)
 else if o.k=5 then ((0,false,(prepR S o.n).1.1,(prepR S o.n).1.2),(prepR S o.n).2)
 else if o.k=6 then ((0,false,[],(commitR S o.n).1),(commitR S o.n).2)
 else if o.k=7 then ((0,false,[],(backR S o.n).1),(backR S o.n).2)
 else if o.k=8 then ((0,false,[],(restoreR S o.n o.l).1),(restoreR S o.n o.l).2)
 else ((0,false,[],0),S)
def CallO (w:World) (g:Nat) (N:Nat) (r:(Nat × Bool × List Ch × Int) × RS) (e:Ending) (w':World):Prop :=
 ∃ A q c,e=.returned (.agg #[.int .u64 (r.1.1:Nat),.bool r.1.2.1,.slice A q c,.int .i64 r.1.2.2.2])∧q=r.1.2.2.1.length∧OwnC w' w.heap.size A c r.1.2.2.1∧ResO w g r.2 (N + 4) w'
theorem ResAt.off {w w':World} {g b N:Nat} {cs ts:Array Value} {S:RS} (h:ResAt w g cs S N) (hg:w.grownBy w' (some b)) (hk:Blk w b 47 ts):ResAt w' g cs S N:=by
 obtain ⟨A,n,c,h1,h2,h3,h4,h5⟩:=h.pr
 have hne:g≠b:=fun e => h.kv.bk.ne hk (by decide) e
 exact ⟨h.kv.far hg hne hk (by decide),h.qu.far hg hne hk (by decide) (by decide),⟨A,n,c,h1,h2,h3,h4,h5.kept hg hk (by decide)⟩,h.ln⟩
theorem grown_new {w u u':World} {g row:Option Nat} (h:w.grownBy u g) (k:u.grownBy u' row) (hr:∀ r,row=some r→w.heap.size≤r):w.grownBy u' g :=
 ⟨k.os.trans h.os,k.tape.trans h.tape,k.output.trans h.output,Nat.le_trans h.size k.size,fun r hl hx => (k.block r (Nat.lt_of_lt_of_le hl h.size) (fun e => by have:=hr r e.symm; omega)).trans (h.block r hl hx)⟩
structure TS (w u:World) (g N b4 b5:Nat) (S:RS) (t4 t5:Array Value):Prop where
 ra:∃ cs,ResAt u g cs S N
 k4:Blk u b4 47 t4
 k5:Blk u b5 47 t5
 ne:b4≠b5
 gr:w.grownBy u (some g)
 lo:w.heap.size≤b4∧w.heap.size≤b5
theorem TS.set5 {w u:World} {g N b4 b5:Nat} {S:RS} {t4 t5:Array Value} (h:TS w u g N b4 b5 S t4 t5) (i:Nat) (v:Value):TS w (u.setCell ⟨b5,i,none⟩ v) g N b4 b5 S t4 (t5.setIfInBounds i v):=by
 obtain ⟨cs,hr⟩:=h.ra
 have hg:=lgrown_set u ⟨b5,i,none⟩ v
 exact ⟨⟨cs,hr.off hg h.k5⟩,h.k4.kept hg (fun e => h.ne (by injection e)),h.k5.set_ i v,h.ne,grown_new h.gr hg (fun r e => by cases e; exact h.lo.2),h.lo⟩
theorem TS.set4 {w u:World} {g N b4 b5:Nat} {S:RS} {t4 t5:Array Value} (h:TS w u g N b4 b5 S t4 t5) (i:Nat) (v:Value):TS w (u.setCell ⟨b4,i,none⟩ v) g N b4 b5 S (t4.setIfInBounds i v) t5:=by
 obtain ⟨cs,hr⟩:=h.ra
 have hg:=lgrown_set u ⟨b4,i,none⟩ v
 exact ⟨⟨cs,hr.off hg h.k4⟩,h.k4.set_ i v,h.k5.kept hg (fun e => h.ne ((Option.some.inj e).symm)),h.ne,grown_new h.gr hg (fun r e => by cases e; exact h.lo.1),h.lo⟩
theorem TS.laid (w:World) (oc:Array Value):∃ w3,w3=((w.alloc (.cells oc 42)).alloc (.cells #[.int .u64 0,.bool false,.slice none 0 0,.int .i64 0] 47)).alloc (.cells #[.int .u64 0,.bool false,.slice none 0 0,.int .i64 0] 47)∧Below w.heap.size w w3∧Blk w3 (w.heap.size + 1) 47 #[.int .u64 0,.bool false,.slice none 0 0,.int .i64 0]∧Blk w3 (w.heap.size + 1 + 1) 47 #[.int .u64 0,.bool false,.slice none 0 0,.int .i64 0]:=by
 refine ⟨_,rfl,bt (bt (ba _ _) (ba _ _)) (ba _ _),?_,?_⟩
 ·have h1:=Blk.new (w.alloc (.cells oc 42)) 47 #[.int .u64 0,.bool false,.slice none 0 0,.int .i64 0]
  have h2:=h1.below (ba _ (.cells #[.int .u64 0,.bool false,.slice none 0 0,.int .i64 0] 47)) h1.lt
  rw [World.size_alloc] at h2
  exact h2
 ·have h1:=Blk.new ((w.alloc (.cells oc 42)).alloc (.cells #[.int .u64 0,.bool false,.slice none 0 0,.int .i64 0] 47)) 47 #[.int .u64 0,.bool false,.slice none 0 0,.int .i64 0]
  rw [World.size_alloc,World.size_alloc] at h1
  exact h1
theorem TS.mk' {w w3 u:World} {g N M:Nat} {S':RS} (hgl:g < w.heap.size) (b3:Below w.heap.size w w3) (k4:Blk w3 (w.heap.size + 1) 47 #[.int .u64 0,.bool false,.slice none 0 0,.int .i64 0]) (k5:Blk w3 (w.heap.size + 1 + 1) 47 #[.int .u64 0,.bool false,.slice none 0 0,.int .i64 0]) (hO:ResO w3 g S' M u) (hM:M≤N):TS w u g N (w.heap.size + 1) (w.heap.size + 1 + 1) S' #[.int .u64 0,.bool false,.slice none 0 0,.int .i64 0] #[.int .u64 0,.bool false,.slice none 0 0,.int .i64 0]:=by
 obtain ⟨⟨cs,hr⟩,hg⟩:=hO
 exact ⟨⟨cs,hr.more hM⟩,k4.kept hg (fun e => by injection e; omega),k5.kept hg (fun e => by injection e; omega),by omega,(lbelow_grown b3 _).trans hg,by omega,by omega⟩
set_option maxRecDepth 100000 in
set_option maxHeartbeats 2000000 in
theorem call_get (g:Nat) (cs:Array Value) (S:RS) (N:Nat) (n y:Int) (v:Nat) (A:Option Addr) (q c:Nat) (w:World) (h:ResAt w g cs S N) (hN:N < 190000) (hn:i64ok n) (hy:i64ok y) :
  Calls Tryz.prog 12 #[.pointer (some ⟨g,0,none⟩),.agg #[.int .i64 0,.int .i64 n,.int .i64 y,.int .u64 (v:Nat),.slice A q c]] w (CallO w g N (((getR S n y).1.1,(getR S n y).1.2.1,[],(getR S n y).1.2.2),(getR S n y).2)):=by
 obtain ⟨w3,hw3,b3,k4,k5⟩:=TS.laid w #[.int .i64 0,.int .i64 n,.int .i64 y,.int .u64 (v:Nat),.slice A q c]
 have hcon:=resget_any g cs S N n y w3 (h.below b3) (by omega) hn hy
 obtain ⟨R,hR⟩:∃ R,R=getR S n y:=⟨_,rfl⟩
 rw [← hR] at hcon ⊢
 obtain ⟨⟨rv,rt,re⟩,rS⟩:=R
 dsimp only at hcon ⊢
 have HP:=Lib.hid hcon
 have HW:=Lib.hid hw3
 have H:=Lib.hid (And.intro h.lt (And.intro b3 (And.intro k4 k5)))
 have HQ:Hid (∀ e w',CallO w g N ((rv,rt,[],re),rS) e w' ↔ ∃ A q c,e=.returned (.agg #[.int .u64 (((rv,rt,[],re),rS).1.1:Nat),.bool ((rv,rt,[],re),rS).1.2.1,.slice A q c,.int .i64 ((rv,rt,[],re),rS).1.2.2.2])∧q=((rv,rt,[],re),rS).1.2.2.1.length∧OwnC w' w.heap.size A c ((rv,rt,[],re),rS).1.2.2.1∧ResO w g ((rv,rt,[],re),rS).2 (N + 4) w'):=Lib.hid fun _ _ => Iff.rfl
 clear h hw3 b3 k4 k5 hcon hR hn hy
 go_enter Tryz.func12,Tryz.ntmps12
 go_wp2_with fail
 rw [← HW.out]
 refine HP.out.mono ?_
 rintro e u ⟨rfl,hO⟩
 have T0:=TS.mk' (N:=N + 4) H.out.1 H.out.2.1 H.out.2.2.1 H.out.2.2.2 hO (by omega)
 have x0:=T0.k5.cell 0
 have x1:=T0.k5.cell 1
 have x2:=T0.k5.cell 2
 have x3:=T0.k5.cell 3
 have z0:=T0.k4.cell 0
 have z1:=T0.k4.cell 1
 have z2:=T0.k4.cell 2
 have z3:=T0.k4.cell 3
 simp only [List.getElem?_toArray,List.getElem?_cons_zero,List.getElem?_cons_succ] at x0 x1 x2 x3 z0 z1 z2 z3
 have f3:=T0.k5.frozen
 have g3:=T0.k4.frozen
 have T9:=(((((((T0.set5 0 (.int .u64 (rv:Nat))).set5 1 (.bool rt)).set5 3 (.int .i64 re)).set4 0 (.int .u64 (rv:Nat))).set4 1 (.bool rt)).set4 2 (.slice none 0 0)).set4 3 (.int .i64 re))
 have r0:=T9.k4.cell 0
 have r1:=T9.k4.cell 1
 have r2:=T9.k4.cell 2
 have r3:=T9.k4.cell 3
 simp only [List.setIfInBounds_toArray,List.set_cons_succ,List.set_cons_zero,List.getElem?_toArray,List.getElem?_cons_zero,List.getElem?_cons_succ] at r0 r1 r2 r3
 have HX:=Lib.hid (show ResO w g rS (N + 4) _ from ⟨T9.ra,T9.gr⟩)
 clear T0 T9 hO
 go_wp2
 refine bodyPost_ret (by simp [results,Tryz.results12,go_sem,r0,r1,r2,r3]; try rfl) rfl ?_
 exact (HQ.out _ _).2 ⟨none,0,0,rfl,rfl,OwnC.nil _ _,HX.out⟩
set_option maxRecDepth 100000 in
set_option maxHeartbeats 2000000 in
theorem call_put (g:Nat) (cs:Array Value) (S:RS) (N:Nat) (n y:Int) (v:Nat) (A:Option Addr) (q c:Nat) (w:World) (h:ResAt w g cs S N) (hN:N < 190000) (hn:i64ok n) (hy:i64ok y) (hBK:∀ b,w.heap.size≤b→S.K.B b) :
  Calls Tryz.prog 12 #[.pointer (some ⟨g,0,none⟩),.agg #[.int .i64 1,.int .i64 n,.int .i64 y,.int .u64 (v:Nat),.slice A q c]] w (CallO w g N ((0,false,[],(putR S n y v).1),(putR S n y v).2)):=by
 obtain ⟨w3,hw3,b3,k4,k5⟩:=TS.laid w #[.int .i64 1,.int .i64 n,.int .i64 y,.int .u64 (v:Nat),.slice A q c]
 have hcon:=resput_any g cs S N n y v w3 (h.below b3) (by omega) hn hy (fun b hb => hBK b (Nat.le_trans b3.size hb))
 obtain ⟨R,hR⟩:∃ R,R=putR S n y v:=⟨_,rfl⟩
 rw [← hR] at hcon ⊢
 obtain ⟨re,rS⟩:=R
 dsimp only at hcon ⊢
 have HP:=Lib.hid hcon
 have HW:=Lib.hid hw3
 have H:=Lib.hid (And.intro h.lt (And.intro b3 (And.intro k4 k5)))
 have HQ:Hid (∀ e w',CallO w g N ((0,false,[],re),rS) e w' ↔ ∃ A q c,e=.returned (.agg #[.int .u64 (((0,false,[],re),rS).1.1:Nat),.bool ((0,false,[],re),rS).1.2.1,.slice A q c,.int .i64 ((0,false,[],re),rS).1.2.2.2])∧q=((0,false,[],re),rS).1.2.2.1.length∧OwnC w' w.heap.size A c ((0,false,[],re),rS).1.2.2.1∧ResO w g ((0,false,[],re),rS).2 (N + 4) w'):=Lib.hid fun _ _ => Iff.rfl
 clear h hw3 b3 k4 k5 hcon hR hn hy hBK
 go_enter Tryz.func12,Tryz.ntmps12
 go_wp2_with fail
 rw [← HW.out]
 refine HP.out.mono ?_
 rintro e u ⟨rfl,hO⟩
 have T0:=TS.mk' (N:=N + 4) H.out.1 H.out.2.1 H.out.2.2.1 H.out.2.2.2 hO (by omega)
 have x0:=T0.k5.cell 0
 have x1:=T0.k5.cell 1
 have x2:=T0.k5.cell 2
 have x3:=T0.k5.cell 3
 have z0:=T0.k4.cell 0
 have z1:=T0.k4.cell 1
 have z2:=T0.k4.cell 2
 have z3:=T0.k4.cell 3
 simp only [List.getElem?_toArray,List.getElem?_cons_zero,List.getElem?_cons_succ] at x0 x1 x2 x3 z0 z1 z2 z3
 have f3:=T0.k5.frozen
 have g3:=T0.k4.frozen
 have T9:=(((((T0.set5 3 (.int .i64 re)).set4 0 (.int .u64 0)).set4 1 (.bool false)).set4 2 (.slice none 0 0)).set4 3 (.int .i64 re))
 have r0:=T9.k4.cell 0
 have r1:=T9.k4.cell 1
 have r2:=T9.k4.cell 2
 have r3:=T9.k4.cell 3
 simp only [List.setIfInBounds_toArray,List.set_cons_succ,List.set_cons_zero,List.getElem?_toArray,List.getElem?_cons_zero,List.getElem?_cons_succ] at r0 r1 r2 r3
 have HX:=Lib.hid (show ResO w g rS (N + 4) _ from ⟨T9.ra,T9.gr⟩)
 clear T0 T9 hO
 go_wp2
 refine bodyPost_ret (by simp [results,Tryz.results12,go_sem,r0,r1,r2,r3]; try rfl) rfl ?_
 exact (HQ.out _ _).2 ⟨none,0,0,rfl,rfl,OwnC.nil _ _,HX.out⟩
set_option maxRecDepth 100000 in
set_option maxHeartbeats 2000000 in
theorem call_del (g:Nat) (cs:Array Value) (S:RS) (N:Nat) (n y:Int) (v:Nat) (A:Option Addr) (q c:Nat) (w:World) (h:ResAt w g cs S N) (hN:N < 190000) (hn:i64ok n) (hy:i64ok y) (hBK:∀ b,w.heap.size≤b→S.K.B b) :
  Calls Tryz.prog 12 #[.pointer (some ⟨g,0,none⟩),.agg #[.int .i64 2,.int .i64 n,.int .i64 y,.int .u64 (v:Nat),.slice A q c]] w (CallO w g N ((0,false,[],(delR S n y).1),(delR S n y).2)):=by
 obtain ⟨w3,hw3,b3,k4,k5⟩:=TS.laid w #[.int .i64 2,.int .i64 n,.int .i64 y,.int .u64 (v:Nat),.slice A q c]
 have hcon:=resdel_any g cs S N n y w3 (h.below b3) (by omega) hn hy (fun b hb => hBK b (Nat.le_trans b3.size hb))
 obtain ⟨R,hR⟩:∃ R,R=delR S n y:=⟨_,rfl⟩
 rw [← hR] at hcon ⊢
 obtain ⟨re,rS⟩:=R
 dsimp only at hcon ⊢
 have HP:=Lib.hid hcon
 have HW:=Lib.hid hw3
 have H:=Lib.hid (And.intro h.lt (And.intro b3 (And.intro k4 k5)))
 have HQ:Hid (∀ e w',CallO w g N ((0,false,[],re),rS) e w' ↔ ∃ A q c,e=.returned (.agg #[.int .u64 (((0,false,[],re),rS).1.1:Nat),.bool ((0,false,[],re),rS).1.2.1,.slice A q c,.int .i64 ((0,false,[],re),rS).1.2.2.2])∧q=((0,false,[],re),rS).1.2.2.1.length∧OwnC w' w.heap.size A c ((0,false,[],re),rS).1.2.2.1∧ResO w g ((0,false,[],re),rS).2 (N + 4) w'):=Lib.hid fun _ _ => Iff.rfl
 clear h hw3 b3 k4 k5 hcon hR hn hy hBK
 go_enter Tryz.func12,Tryz.ntmps12
 go_wp2_with fail
 rw [← HW.out]
 refine HP.out.mono ?_
 rintro e u ⟨rfl,hO⟩
 have T0:=TS.mk' (N:=N + 4) H.out.1 H.out.2.1 H.out.2.2.1 H.out.2.2.2 hO (by omega)
 have x0:=T0.k5.cell 0
 have x1:=T0.k5.cell 1
 have x2:=T0.k5.cell 2
 have x3:=T0.k5.cell 3
 have z0:=T0.k4.cell 0
 have z1:=T0.k4.cell 1
 have z2:=T0.k4.cell 2
 have z3:=T0.k4.cell 3
 simp only [List.getElem?_toArray,List.getElem?_cons_zero,List.getElem?_cons_succ] at x0 x1 x2 x3 z0 z1 z2 z3
 have f3:=T0.k5.frozen
 have g3:=T0.k4.frozen
 have T9:=(((((T0.set5 3 (.int .i64 re)).set4 0 (.int .u64 0)).set4 1 (.bool false)).set4 2 (.slice none 0 0)).set4 3 (.int .i64 re))
 have r0:=T9.k4.cell 0
 have r1:=T9.k4.cell 1
 have r2:=T9.k4.cell 2
 have r3:=T9.k4.cell 3
 simp only [List.setIfInBounds_toArray,List.set_cons_succ,List.set_cons_zero,List.getElem?_toArray,List.getElem?_cons_zero,List.getElem?_cons_succ] at r0 r1 r2 r3
 have HX:=Lib.hid (show ResO w g rS (N + 4) _ from ⟨T9.ra,T9.gr⟩)
 clear T0 T9 hO
 go_wp2
 refine bodyPost_ret (by simp [results,Tryz.results12,go_sem,r0,r1,r2,r3]; try rfl) rfl ?_
 exact (HQ.out _ _).2 ⟨none,0,0,rfl,rfl,OwnC.nil _ _,HX.out⟩
set_option maxRecDepth 100000 in
set_option maxHeartbeats 2000000 in
theorem call_push (g:Nat) (cs:Array Value) (S:RS) (N:Nat) (n y:Int) (v:Nat) (A:Option Addr) (q c:Nat) (w:World) (h:ResAt w g cs S N) (hN:N < 190000) (hn:i64ok n) (hBQ:∀ b,w.heap.size≤b→S.Q.B b) :
  Calls Tryz.prog 12 #[.pointer (some ⟨g,0,none⟩),.agg #[.int .i64 3,.int .i64 n,.int .i64 y,.int .u64 (v:Nat),.slice A q c]] w (CallO w g N ((0,false,[],(pushR S n v).1),(pushR S n v).2)):=by
 obtain ⟨w3,hw3,b3,k4,k5⟩:=TS.laid w #[.int .i64 3,.int .i64 n,.int .i64 y,.int .u64 (v:Nat),.slice A q c]
 have hcon:=respush_any g cs S N n v w3 (h.below b3) (by omega) hn (fun b hb => hBQ b (Nat.le_trans b3.size hb))
 obtain ⟨R,hR⟩:∃ R,R=pushR S n v:=⟨_,rfl⟩
 rw [← hR] at hcon ⊢
 obtain ⟨re,rS⟩:=R
 dsimp only at hcon ⊢
 have HP:=Lib.hid hcon
 have HW:=Lib.hid hw3
 have H:=Lib.hid (And.intro h.lt (And.intro b3 (And.intro k4 k5)))
 have HQ:Hid (∀ e w',CallO w g N ((0,false,[],re),rS) e w' ↔ ∃ A q c,e=.returned (.agg #[.int .u64 (((0,false,[],re),rS).1.1:Nat),.bool ((0,false,[],re),rS).1.2.1,.slice A q c,.int .i64 ((0,false,[],re),rS).1.2.2.2])∧q=((0,false,[],re),rS).1.2.2.1.length∧OwnC w' w.heap.size A c ((0,false,[],re),rS).1.2.2.1∧ResO w g ((0,false,[],re),rS).2 (N + 4) w'):=Lib.hid fun _ _ => Iff.rfl
 clear h hw3 b3 k4 k5 hcon hR hn hBQ
 go_enter Tryz.func12,Tryz.ntmps12
 go_wp2_with fail
 rw [← HW.out]
 refine HP.out.mono ?_
 rintro e u ⟨rfl,hO⟩
 have T0:=TS.mk' (N:=N + 4) H.out.1 H.out.2.1 H.out.2.2.1 H.out.2.2.2 hO (by omega)
 have x0:=T0.k5.cell 0
 have x1:=T0.k5.cell 1
 have x2:=T0.k5.cell 2
 have x3:=T0.k5.cell 3
 have z0:=T0.k4.cell 0
 have z1:=T0.k4.cell 1
 have z2:=T0.k4.cell 2
 have z3:=T0.k4.cell 3
 simp only [List.getElem?_toArray,List.getElem?_cons_zero,List.getElem?_cons_succ] at x0 x1 x2 x3 z0 z1 z2 z3
 have f3:=T0.k5.frozen
 have g3:=T0.k4.frozen
 have T9:=(((((T0.set5 3 (.int .i64 re)).set4 0 (.int .u64 0)).set4 1 (.bool false)).set4 2 (.slice none 0 0)).set4 3 (.int .i64 re))
 have r0:=T9.k4.cell 0
 have r1:=T9.k4.cell 1
 have r2:=T9.k4.cell 2
 have r3:=T9.k4.cell 3
 simp only [List.setIfInBounds_toArray,List.set_cons_succ,List.set_cons_zero,List.getElem?_toArray,List.getElem?_cons_zero,List.getElem?_cons_succ] at r0 r1 r2 r3
 have HX:=Lib.hid (show ResO w g rS (N + 4) _ from ⟨T9.ra,T9.gr⟩)
 clear T0 T9 hO
 go_wp2
 refine bodyPost_ret (by simp [results,Tryz.results12,go_sem,r0,r1,r2,r3]; try rfl) rfl ?_
 exact (HQ.out _ _).2 ⟨none,0,0,rfl,rfl,OwnC.nil _ _,HX.out⟩
set_option maxRecDepth 100000 in
set_option maxHeartbeats 2000000 in
theorem call_pop (g:Nat) (cs:Array Value) (S:RS) (N:Nat) (n y:Int) (v:Nat) (A:Option Addr) (q c:Nat) (w:World) (h:ResAt w g cs S N) (hN:N < 190000) (hn:i64ok n) (hBQ:∀ b,w.heap.size≤b→S.Q.B b) :
  Calls Tryz.prog 12 #[.pointer (some ⟨g,0,none⟩),.agg #[.int .i64 4,.int .i64 n,.int .i64 y,.int .u64 (v:Nat),.slice A q c]] w (CallO w g N (((popR S n).1.1,false,[],(popR S n).1.2),(popR S n).2)):=by
 obtain ⟨w3,hw3,b3,k4,k5⟩:=TS.laid w #[.int .i64 4,.int .i64 n,.int .i64 y,.int .u64 (v:Nat),.slice A q c]
 have hcon:=respop_any g cs S N n w3 (h.below b3) (by omega) hn (fun b hb => hBQ b (Nat.le_trans b3.size hb))
 obtain ⟨R,hR⟩:∃ R,R=popR S n:=⟨_,rfl⟩
 rw [← hR] at hcon ⊢
 obtain ⟨⟨rv,re⟩,rS⟩:=R
 dsimp only at hcon ⊢
 have HP:=Lib.hid hcon
 have HW:=Lib.hid hw3
 have H:=Lib.hid (And.intro h.lt (And.intro b3 (And.intro k4 k5)))
 have HQ:Hid (∀ e w',CallO w g N ((rv,false,[],re),rS) e w' ↔ ∃ A q c,e=.returned (.agg #[.int .u64 (((rv,false,[],re),rS).1.1:Nat),.bool ((rv,false,[],re),rS).1.2.1,.slice A q c,.int .i64 ((rv,false,[],re),rS).1.2.2.2])∧q=((rv,false,[],re),rS).1.2.2.1.length∧OwnC w' w.heap.size A c ((rv,false,[],re),rS).1.2.2.1∧ResO w g ((rv,false,[],re),rS).2 (N + 4) w'):=Lib.hid fun _ _ => Iff.rfl
 clear h hw3 b3 k4 k5 hcon hR hn hBQ
 go_enter Tryz.func12,Tryz.ntmps12
 go_wp2_with fail
 rw [← HW.out]
 refine HP.out.mono ?_
 rintro e u ⟨rfl,hO⟩
 have T0:=TS.mk' (N:=N + 4) H.out.1 H.out.2.1 H.out.2.2.1 H.out.2.2.2 hO (by omega)
 have x0:=T0.k5.cell 0
 have x1:=T0.k5.cell 1
 have x2:=T0.k5.cell 2
 have x3:=T0.k5.cell 3
 have z0:=T0.k4.cell 0
 have z1:=T0.k4.cell 1
 have z2:=T0.k4.cell 2
 have z3:=T0.k4.cell 3
 simp only [List.getElem?_toArray,List.getElem?_cons_zero,List.getElem?_cons_succ] at x0 x1 x2 x3 z0 z1 z2 z3
 have f3:=T0.k5.frozen
 have g3:=T0.k4.frozen
 have T9:=((((((T0.set5 0 (.int .u64 (rv:Nat))).set5 3 (.int .i64 re)).set4 0 (.int .u64 (rv:Nat))).set4 1 (.bool false)).set4 2 (.slice none 0 0)).set4 3 (.int .i64 re))
 have r0:=T9.k4.cell 0
 have r1:=T9.k4.cell 1
 have r2:=T9.k4.cell 2
 have r3:=T9.k4.cell 3
 simp only [List.setIfInBounds_toArray,List.set_cons_succ,List.set_cons_zero,List.getElem?_toArray,List.getElem?_cons_zero,List.getElem?_cons_succ] at r0 r1 r2 r3
 have HX:=Lib.hid (show ResO w g rS (N + 4) _ from ⟨T9.ra,T9.gr⟩)
 clear T0 T9 hO
 go_wp2
 refine bodyPost_ret (by simp [results,Tryz.results12,go_sem,r0,r1,r2,r3]; try rfl) rfl ?_
 exact (HQ.out _ _).2 ⟨none,0,0,rfl,rfl,OwnC.nil _ _,HX.out⟩
set_option maxRecDepth 100000 in
set_option maxHeartbeats 2000000 in
theorem call_prep (g:Nat) (cs:Array Value) (S:RS) (N:Nat) (n y:Int) (v:Nat) (A:Option Addr) (q c:Nat) (w:World) (h:ResAt w g cs S N) (hN:N < 190000) (hn:i64ok n) (hl:(prepM S.K n).1.1.length≤400000∧(Qu.prepM S.Q n).1.1.length≤400000) :
  Calls Tryz.prog 12 #[.pointer (some ⟨g,0,none⟩),.agg #[.int .i64 5,.int .i64 n,.int .i64 y,.int .u64 (v:Nat),.slice A q c]] w (CallO w g N ((0,false,(prepR S n).1.1,(prepR S n).1.2),(prepR S n).2)):=by
 obtain ⟨w3,hw3,b3,k4,k5⟩:=TS.laid w #[.int .i64 5,.int .i64 n,.int .i64 y,.int .u64 (v:Nat),.slice A q c]
 have hcon:=resprep_any g cs S N n w3 (h.below b3) (by omega) hn hl
 obtain ⟨R,hR⟩:∃ R,R=prepR S n:=⟨_,rfl⟩
 rw [← hR] at hcon ⊢
 obtain ⟨⟨rl,re⟩,rS⟩:=R
 dsimp only at hcon ⊢
 have HP:=Lib.hid hcon
 have HW:=Lib.hid hw3
 have H:=Lib.hid (And.intro h.lt (And.intro b3 (And.intro k4 k5)))
 have HQ:Hid (∀ e w',CallO w g N ((0,false,rl,re),rS) e w' ↔ ∃ A q c,e=.returned (.agg #[.int .u64 (((0,false,rl,re),rS).1.1:Nat),.bool ((0,false,rl,re),rS).1.2.1,.slice A q c,.int .i64 ((0,false,rl,re),rS).1.2.2.2])∧q=((0,false,rl,re),rS).1.2.2.1.length∧OwnC w' w.heap.size A c ((0,false,rl,re),rS).1.2.2.1∧ResO w g ((0,false,rl,re),rS).2 (N + 4) w'):=Lib.hid fun _ _ => Iff.rfl
 clear h hw3 b3 k4 k5 hcon hR hn hl
 go_enter Tryz.func12,Tryz.ntmps12
 go_wp2_with fail
 rw [← HW.out]
 refine HP.out.mono ?_
 rintro e u ⟨⟨A5,q5,c5,rfl,hq5,own⟩,hO⟩
 have T0:=TS.mk' (N:=N + 4) H.out.1 H.out.2.1 H.out.2.2.1 H.out.2.2.2 hO (by omega)
 have x0:=T0.k5.cell 0
 have x1:=T0.k5.cell 1
 have x2:=T0.k5.cell 2
 have x3:=T0.k5.cell 3
 have z0:=T0.k4.cell 0
 have z1:=T0.k4.cell 1
 have z2:=T0.k4.cell 2
 have z3:=T0.k4.cell 3
 simp only [List.getElem?_toArray,List.getElem?_cons_zero,List.getElem?_cons_succ] at x0 x1 x2 x3 z0 z1 z2 z3
 have f3:=T0.k5.frozen
 have g3:=T0.k4.frozen
 have T9:=((((((T0.set5 2 (.slice A5 q5 c5)).set5 3 (.int .i64 re)).set4 0 (.int .u64 0)).set4 1 (.bool false)).set4 2 (.slice A5 q5 c5)).set4 3 (.int .i64 re))
 have r0:=T9.k4.cell 0
 have r1:=T9.k4.cell 1
 have r2:=T9.k4.cell 2
 have r3:=T9.k4.cell 3
 simp only [List.setIfInBounds_toArray,List.set_cons_succ,List.set_cons_zero,List.getElem?_toArray,List.getElem?_cons_zero,List.getElem?_cons_succ] at r0 r1 r2 r3
 have hlo:=H.out.2.1.size
 have hl3:w.heap.size + 1 + 1 < w3.heap.size:=H.out.2.2.2.lt
 have kp:∀ {u:World} (b i:Nat) (x:Value),OwnC u w3.heap.size A5 c5 rl→b < w3.heap.size→OwnC (u.setCell ⟨b,i,none⟩ x) w3.heap.size A5 c5 rl:=fun {u} b i x ho hb => ho.kept (lgrown_set u ⟨b,i,none⟩ x) (fun r e => by cases e; exact hb)
 have own9:=(kp (w.heap.size + 1) 3 (.int .i64 re) (kp (w.heap.size + 1) 2 (.slice A5 q5 c5) (kp (w.heap.size + 1) 1 (.bool false) (kp (w.heap.size + 1) 0 (.int .u64 0) (kp (w.heap.size + 1 + 1) 3 (.int .i64 re) (kp (w.heap.size + 1 + 1) 2 (.slice A5 q5 c5) own (by omega)) (by omega)) (by omega)) (by omega)) (by omega)) (by omega))
 have HX:=Lib.hid (And.intro hq5 (And.intro (own9.less hlo) (show ResO w g rS (N + 4) _ from ⟨T9.ra,T9.gr⟩)))
 clear T0 T9 hO own own9 hq5 hlo hl3
 go_wp2
 refine bodyPost_ret (by simp [results,Tryz.results12,go_sem,r0,r1,r2,r3]; try rfl) rfl ?_
 exact (HQ.out _ _).2 ⟨A5,q5,c5,rfl,HX.out.1,HX.out.2.1,HX.out.2.2⟩
set_option maxRecDepth 100000 in
set_option maxHeartbeats 2000000 in
theorem call_commit (g:Nat) (cs:Array Value) (S:RS) (N:Nat) (n y:Int) (v:Nat) (A:Option Addr) (q c:Nat) (w:World) (h:ResAt w g cs S N) (hN:N < 190000) (hn:i64ok n) (hok:Qu.QOk S.Q) :
  Calls Tryz.prog 12 #[.pointer (some ⟨g,0,none⟩),.agg #[.int .i64 6,.int .i64 n,.int .i64 y,.int .u64 (v:Nat),.slice A q c]] w (CallO w g N ((0,false,[],(commitR S n).1),(commitR S n).2)):=by
 obtain ⟨w3,hw3,b3,k4,k5⟩:=TS.laid w #[.int .i64 6,.int .i64 n,.int .i64 y,.int .u64 (v:Nat),.slice A q c]
 have hcon:=rescommit_any g cs S N n w3 (h.below b3) hok (by omega) hn
 obtain ⟨R,hR⟩:∃ R,R=commitR S n:=⟨_,rfl⟩
 rw [← hR] at hcon ⊢
 obtain ⟨re,rS⟩:=R
 dsimp only at hcon ⊢
 have HP:=Lib.hid hcon
 have HW:=Lib.hid hw3
 have H:=Lib.hid (And.intro h.lt (And.intro b3 (And.intro k4 k5)))
 have HQ:Hid (∀ e w',CallO w g N ((0,false,[],re),rS) e w' ↔ ∃ A q c,e=.returned (.agg #[.int .u64 (((0,false,[],re),rS).1.1:Nat),.bool ((0,false,[],re),rS).1.2.1,.slice A q c,.int .i64 ((0,false,[],re),rS).1.2.2.2])∧q=((0,false,[],re),rS).1.2.2.1.length∧OwnC w' w.heap.size A c ((0,false,[],re),rS).1.2.2.1∧ResO w g ((0,false,[],re),rS).2 (N + 4) w'):=Lib.hid fun _ _ => Iff.rfl
 clear h hw3 b3 k4 k5 hcon hR hn hok
 go_enter Tryz.func12,Tryz.ntmps12
 go_wp2_with fail
 rw [← HW.out]
 refine HP.out.mono ?_
 rintro e u ⟨rfl,hO⟩
 have T0:=TS.mk' (N:=N + 4) H.out.1 H.out.2.1 H.out.2.2.1 H.out.2.2.2 hO (by omega)
 have x0:=T0.k5.cell 0
 have x1:=T0.k5.cell 1
 have x2:=T0.k5.cell 2
 have x3:=T0.k5.cell 3
 have z0:=T0.k4.cell 0
 have z1:=T0.k4.cell 1
 have z2:=T0.k4.cell 2
 have z3:=T0.k4.cell 3
 simp only [List.getElem?_toArray,List.getElem?_cons_zero,List.getElem?_cons_succ] at x0 x1 x2 x3 z0 z1 z2 z3
 have f3:=T0.k5.frozen
 have g3:=T0.k4.frozen
 have T9:=(((((T0.set5 3 (.int .i64 re)).set4 0 (.int .u64 0)).set4 1 (.bool false)).set4 2 (.slice none 0 0)).set4 3 (.int .i64 re))
 have r0:=T9.k4.cell 0
 have r1:=T9.k4.cell 1
 have r2:=T9.k4.cell 2
 have r3:=T9.k4.cell 3
 simp only [List.setIfInBounds_toArray,List.set_cons_succ,List.set_cons_zero,List.getElem?_toArray,List.getElem?_cons_zero,List.getElem?_cons_succ] at r0 r1 r2 r3
 have HX:=Lib.hid (show ResO w g rS (N + 4) _ from ⟨T9.ra,T9.gr⟩)
 clear T0 T9 hO
 go_wp2
 refine bodyPost_ret (by simp [results,Tryz.results12,go_sem,r0,r1,r2,r3]; try rfl) rfl ?_
 exact (HQ.out _ _).2 ⟨none,0,0,rfl,rfl,OwnC.nil _ _,HX.out⟩
set_option maxRecDepth 100000 in
set_option maxHeartbeats 2000000 in
theorem call_back (g:Nat) (cs:Array Value) (S:RS) (N:Nat) (n y:Int) (v:Nat) (A:Option Addr) (q c:Nat) (w:World) (h:ResAt w g cs S N) (hN:N < 190000) (hn:i64ok n)  :
  Calls Tryz.prog 12 #[.pointer (some ⟨g,0,none⟩),.agg #[.int .i64 7,.int .i64 n,.int .i64 y,.int .u64 (v:Nat),.slice A q c]] w (CallO w g N ((0,false,[],(backR S n).1),(backR S n).2)):=by
 obtain ⟨w3,hw3,b3,k4,k5⟩:=TS.laid w #[.int .i64 7,.int .i64 n,.int .i64 y,.int .u64 (v:Nat),.slice A q c]
 have hcon:=resbackout_any g cs S N n w3 (h.below b3) (by omega) hn
 obtain ⟨R,hR⟩:∃ R,R=backR S n:=⟨_,rfl⟩
 rw [← hR] at hcon ⊢
 obtain ⟨re,rS⟩:=R
 dsimp only at hcon ⊢
 have HP:=Lib.hid hcon
 have HW:=Lib.hid hw3
 have H:=Lib.hid (And.intro h.lt (And.intro b3 (And.intro k4 k5)))
 have HQ:Hid (∀ e w',CallO w g N ((0,false,[],re),rS) e w' ↔ ∃ A q c,e=.returned (.agg #[.int .u64 (((0,false,[],re),rS).1.1:Nat),.bool ((0,false,[],re),rS).1.2.1,.slice A q c,.int .i64 ((0,false,[],re),rS).1.2.2.2])∧q=((0,false,[],re),rS).1.2.2.1.length∧OwnC w' w.heap.size A c ((0,false,[],re),rS).1.2.2.1∧ResO w g ((0,false,[],re),rS).2 (N + 4) w'):=Lib.hid fun _ _ => Iff.rfl
 clear h hw3 b3 k4 k5 hcon hR hn
 go_enter Tryz.func12,Tryz.ntmps12
 go_wp2_with fail
 rw [← HW.out]
 refine HP.out.mono ?_
 rintro e u ⟨rfl,hO⟩
 have T0:=TS.mk' (N:=N + 4) H.out.1 H.out.2.1 H.out.2.2.1 H.out.2.2.2 hO (by omega)
 have x0:=T0.k5.cell 0
 have x1:=T0.k5.cell 1
 have x2:=T0.k5.cell 2
 have x3:=T0.k5.cell 3
 have z0:=T0.k4.cell 0
 have z1:=T0.k4.cell 1
 have z2:=T0.k4.cell 2
 have z3:=T0.k4.cell 3
 simp only [List.getElem?_toArray,List.getElem?_cons_zero,List.getElem?_cons_succ] at x0 x1 x2 x3 z0 z1 z2 z3
 have f3:=T0.k5.frozen
 have g3:=T0.k4.frozen
 have T9:=(((((T0.set5 3 (.int .i64 re)).set4 0 (.int .u64 0)).set4 1 (.bool false)).set4 2 (.slice none 0 0)).set4 3 (.int .i64 re))
 have r0:=T9.k4.cell 0
 have r1:=T9.k4.cell 1
 have r2:=T9.k4.cell 2
 have r3:=T9.k4.cell 3
 simp only [List.setIfInBounds_toArray,List.set_cons_succ,List.set_cons_zero,List.getElem?_toArray,List.getElem?_cons_zero,List.getElem?_cons_succ] at r0 r1 r2 r3
 have HX:=Lib.hid (show ResO w g rS (N + 4) _ from ⟨T9.ra,T9.gr⟩)
 clear T0 T9 hO
 go_wp2
 refine bodyPost_ret (by simp [results,Tryz.results12,go_sem,r0,r1,r2,r3]; try rfl) rfl ?_
 exact (HQ.out _ _).2 ⟨none,0,0,rfl,rfl,OwnC.nil _ _,HX.out⟩
set_option maxRecDepth 100000 in
set_option maxHeartbeats 2000000 in
theorem call_restore (g:Nat) (cs:Array Value) (S:RS) (N:Nat) (n y:Int) (v:Nat) (A:Option Addr) (q c:Nat) (w:World) (h:ResAt w g cs S N) (hN:N < 190000) (hn:i64ok n) (l:List Ch) (hq:Hid (q=l.length)) (hqN:q≤N + 1) (hcap:q≤c∧c≤9223372036854775807) (hL:∀ u,w.grownBy u (some g)→InL u A l) (hBK:∀ b,w.heap.size≤b→S.K.B b) (hBQ:∀ b,w.heap.size≤b→S.Q.B b) :
  Calls Tryz.prog 12 #[.pointer (some ⟨g,0,none⟩),.agg #[.int .i64 8,.int .i64 n,.int .i64 y,.int .u64 (v:Nat),.slice A q c]] w (CallO w g N ((0,false,[],(restoreR S n l).1),(restoreR S n l).2)):=by
 obtain ⟨w3,hw3,b3,k4,k5⟩:=TS.laid w #[.int .i64 8,.int .i64 n,.int .i64 y,.int .u64 (v:Nat),.slice A q c]
 have hcon:=resrestore_any g cs S N n A l q c w3 (h.below b3) (by omega) hn hq hqN hcap (fun u hu => hL u ((lbelow_grown b3 (some g)).trans hu)) (fun b hb => hBK b (Nat.le_trans b3.size hb)) (fun b hb => hBQ b (Nat.le_trans b3.size hb))
 obtain ⟨R,hR⟩:∃ R,R=restoreR S n l:=⟨_,rfl⟩
 rw [← hR] at hcon ⊢
 obtain ⟨re,rS⟩:=R
 dsimp only at hcon ⊢
 have HP:=Lib.hid hcon
 have HW:=Lib.hid hw3
 have H:=Lib.hid (And.intro h.lt (And.intro b3 (And.intro k4 k5)))
 have HQ:Hid (∀ e w',CallO w g N ((0,false,[],re),rS) e w' ↔ ∃ A q c,e=.returned (.agg #[.int .u64 (((0,false,[],re),rS).1.1:Nat),.bool ((0,false,[],re),rS).1.2.1,.slice A q c,.int .i64 ((0,false,[],re),rS).1.2.2.2])∧q=((0,false,[],re),rS).1.2.2.1.length∧OwnC w' w.heap.size A c ((0,false,[],re),rS).1.2.2.1∧ResO w g ((0,false,[],re),rS).2 (N + 4) w'):=Lib.hid fun _ _ => Iff.rfl
 clear h hw3 b3 k4 k5 hcon hR hn hcap hL hBK hBQ
 go_enter Tryz.func12,Tryz.ntmps12
 go_wp2_with fail
 rw [← HW.out]
 refine HP.out.mono ?_
 rintro e u ⟨rfl,hO⟩
 have T0:=TS.mk' (N:=N + 4) H.out.1 H.out.2.1 H.out.2.2.1 H.out.2.2.2 hO (by omega)
 have x0:=T0.k5.cell 0
 have x1:=T0.k5.cell 1
 have x2:=T0.k5.cell 2
 have x3:=T0.k5.cell 3
 have z0:=T0.k4.cell 0
 have z1:=T0.k4.cell 1
 have z2:=T0.k4.cell 2
 have z3:=T0.k4.cell 3
 simp only [List.getElem?_toArray,List.getElem?_cons_zero,List.getElem?_cons_succ] at x0 x1 x2 x3 z0 z1 z2 z3
 have f3:=T0.k5.frozen
 have g3:=T0.k4.frozen
 have T9:=(((((T0.set5 3 (.int .i64 re)).set4 0 (.int .u64 0)).set4 1 (.bool false)).set4 2 (.slice none 0 0)).set4 3 (.int .i64 re))
 have r0:=T9.k4.cell 0
 have r1:=T9.k4.cell 1
 have r2:=T9.k4.cell 2
 have r3:=T9.k4.cell 3
 simp only [List.setIfInBounds_toArray,List.set_cons_succ,List.set_cons_zero,List.getElem?_toArray,List.getElem?_cons_zero,List.getElem?_cons_succ] at r0 r1 r2 r3
 have HX:=Lib.hid (show ResO w g rS (N + 4) _ from ⟨T9.ra,T9.gr⟩)
 clear T0 T9 hO
 go_wp2
 refine bodyPost_ret (by simp [results,Tryz.results12,go_sem,r0,r1,r2,r3]; try rfl) rfl ?_
 exact (HQ.out _ _).2 ⟨none,0,0,rfl,rfl,OwnC.nil _ _,HX.out⟩
end Go.Proofs.YtlliaihmfimdoaaGreat.Re


namespace Go.Proofs.YtlliaihmfimdoaaGreat.Dr
open Go.RowKit Go.Maps Go.Joins Go.Deep Go.Proofs.YtlliaihmfimdoaaGreat
theorem DRel.K' {S:Re.RS} {P P':PL} {ws ws':List WI} {Q:PL} {qs:List Qu.WI} {gv:Int} (h:DRel S P ws Q qs gv) {K:KS} (hK:Rel K P' ws') (hp:∀ n,(curW K n).2=(curW S.K n).2):DRel { S with K:=K } P' ws' Q qs gv :=
 ⟨hK,h.Q,fun n => by dsimp only; rw [hp]; exact h.pr n⟩
theorem DR.pairs {u:World} {B x:Nat} {P Q:PL} {ws:List WI} {L:List LRow} {qs:List Qu.WI} {gv:Int} (h:DR u B x P ws L Q qs gv):(ws.Pairwise fun a b => a.q≠b.q)∧qs.Pairwise fun a b => a.q≠b.q:=by
 obtain ⟨a,b,c,d,e,h1,h2,h3⟩:=h.ex
 exact ⟨h1.ds.imp fun h => h.1,h2.ds.imp fun h => h.1⟩
theorem DRel.get {S:Re.RS} {P Q:PL} {ws:List WI} {qs:List Qu.WI} {gv n y:Int} {w w':World} {B x:Nat} {e:Ending} (h:DRel S P ws Q qs gv) (hn:i64ok n) (hd:DR w B x P ws S.K.L Q qs gv) (hO:DGetO w B x P ws S.K.L Q qs gv n y e w') :
  e=.returned (.tuple #[.int .u64 ((Re.getR S n y).1.1:Nat),.bool (Re.getR S n y).1.2.1,.int .i64 (Re.getR S n y).1.2.2])∧∃ ws',DR w' B x P ws' (Re.getR S n y).2.K.L Q qs gv∧DRel (Re.getR S n y).2 P ws' Q qs gv∧ws'.length≤ws.length + 1∧RJ B w w' x (fun _ => False)∧NewA w ws qs ws' qs:=by
 have hf:=h.fit n
 rcases hO with ⟨f0,he,hb⟩ | ⟨f0,q,hq,he,hR,hj⟩
 ·rw [hf] at f0 he
  have e1:Re.getR S n y=((0,false,Re.openR S n),S):=by unfold Re.getR; rw [if_pos f0]
  rw [e1]
  exact ⟨he,ws,hd.below hb,h,Nat.le_succ _,RJ.of (lbelow_grown hb _),NewA.same _ _ _⟩
 ·rw [hf] at f0
  obtain ⟨k1,k2,k3,k4⟩:=get_key h.K n y q hn
  have e1:Re.getR S n y=((getM S.K n y).1,{ S with K:=(getM S.K n y).2 }):=by unfold Re.getR; rw [if_neg (by rw [f0]; simp)]
  rw [e1,k1]
  exact ⟨he,_,by dsimp only; rw [k2]; exact hR,h.K' k3 (fun m => by unfold curW; rw [(openM_W S.K n y false).1]),k4,hj,NewA.of (fun z hz r hr => (touchD_mem (L:=S.K.L) hz).elim (fun h => .inl ⟨z,h,hr⟩) (fun h => by rw [h] at hr; cases hr)) keptQ⟩
theorem change_pr (S:KS) (n:Int) (c:Ch) (m:Int):(curW (changeM S n c).2 m).2=(curW S m).2:=by
 unfold changeM
 split
 ·rename_i h0
  have g1:=(openM_ok (S:=S) (n:=n) (y:=c.y) (a:=true) h0).1
  by_cases e:m=n
  ·subst e
   rw [g1]
   unfold curW
   dsimp only
   rw [updW_self]
   rfl
  ·unfold curW
   dsimp only
   rw [updW_ne _ _ _ e]
 ·unfold curW
  rw [(openM_W S n c.y true).1]
theorem DRel.change {S:Re.RS} {P Q:PL} {ws:List WI} {qs:List Qu.WI} {gv n:Int} {c:Ch} {w w':World} {B x:Nat} {e:Ending} (h:DRel S P ws Q qs gv) (hn:i64ok n) (hk:kindB c=true) (hd:DR w B x P ws S.K.L Q qs gv) (hO:DChangeO w B x P ws S.K.L Q qs gv n c e w') :
  ∃ r S',(if Re.openR S n≠0 then (Re.openR S n,S) else ((changeM S.K n c).1,{ S with K:=(changeM S.K n c).2 }))=(r,S')∧e=.returned (.int .i64 r)∧∃ ws',DR w' B x P ws' S'.K.L Q qs gv∧DRel S' P ws' Q qs gv∧ws'.length≤ws.length + 1∧RJ B w w' x (fun r => ∃ y ∈ ws,blk y.A=some r)∧NewA w ws qs ws' qs:=by
 have hf:=h.fit n
 rcases hO with ⟨f0,he,hb⟩ | ⟨f0,q,hq,he,hj,hR⟩
 ·rw [hf] at f0 he
  exact ⟨_,_,if_pos f0,he,ws,hd.below hb,h,Nat.le_succ _,RJ.of (lbelow_grown hb _),NewA.same _ _ _⟩
 ·rw [hf] at f0
  refine ⟨_,_,if_neg (by rw [f0]; simp),?_,?_⟩
  ·rcases hR with ⟨t0,hR,hN⟩ | ⟨t0,z,A',c',hz,hR,hN⟩
   ·obtain ⟨k1,_⟩:=change_key h.K hn hk q (.inl ⟨t0,rfl⟩)
    rw [k1]; exact he
   ·obtain ⟨k1,_⟩:=change_key h.K hn hk q (.inr ⟨t0,z,A',c',hz,rfl,hR.pairs.1⟩)
    rw [k1]; exact he
  ·rcases hR with ⟨t0,hR,hN⟩ | ⟨t0,z,A',c',hz,hR,hN⟩
   ·obtain ⟨k1,k2,k3,k4⟩:=change_key h.K hn hk q (.inl ⟨t0,rfl⟩)
    exact ⟨_,by dsimp only; rw [k2]; exact hR,h.K' k3 (change_pr _ _ _),k4,hj,hN⟩
   ·obtain ⟨k1,k2,k3,k4⟩:=change_key h.K hn hk q (.inr ⟨t0,z,A',c',hz,rfl,hR.pairs.1⟩)
    exact ⟨_,by dsimp only; rw [k2]; exact hR,h.K' k3 (change_pr _ _ _),k4,hj,hN⟩
end Go.Proofs.YtlliaihmfimdoaaGreat.Dr


namespace Go.Proofs.YtlliaihmfimdoaaGreat.Dr
open Go.RowKit Go.Maps Go.Joins Go.Deep Go.Proofs.YtlliaihmfimdoaaGreat
theorem DRel.Q' {S:Re.RS} {P Q Q':PL} {ws:List WI} {qs qs':List Qu.WI} {gv gv':Int} (h:DRel S P ws Q qs gv) {T:Qu.QS} (hT:Qu.Rel T Q' qs' gv') (hp:∀ n,(Qu.curQ T.ws n).2=(Qu.curQ S.Q.ws n).2):DRel { S with Q:=T } P ws Q' qs' gv' :=
 ⟨h.K,hT,fun n => by dsimp only; rw [hp]; exact h.pr n⟩
theorem add_pr (ws:List Qu.WQ) (n:Int) (c:Ch) (m:Int):(Qu.curQ (Qu.addQ ws n c) m).2=(Qu.curQ ws m).2:=by
 unfold Qu.addQ
 rw [Qu.curQ_lay]
 by_cases e:m=n
 ·rw [if_pos e,e]
 ·rw [if_neg e]
theorem put_pr (S:Qu.QS) (n:Int) (v:Nat) (m:Int):(Qu.curQ (Qu.putM S n v).2.ws m).2=(Qu.curQ S.ws m).2:=by
 unfold Qu.putM
 split
 ·rfl
 ·split
  ·rfl
  ·exact add_pr _ _ _ _
theorem take_pr (S:Qu.QS) (n:Int) (m:Int):(Qu.curQ (Qu.takeM S n).2.ws m).2=(Qu.curQ S.ws m).2:=by
 unfold Qu.takeM
 split
 ·rfl
 ·split
  ·rfl
  ·split
   ·exact add_pr _ _ _ _
   ·rfl
theorem note_ne {qs ws2:List Qu.WI} {n:Int} {z:Qu.WI} {A5:Option Addr} {c5:Nat} {c:Ch} (hz:(Qu.findW qs n=some z∧ws2=qs)∨(Qu.findW qs n=none∧∃ q,z=⟨q,n,none,0,[],false⟩∧ws2=qs ++ [z])) (hpw:(Qu.turnW ws2 ⟨z.q,z.n,A5,c5,z.l ++ [c],z.p⟩).Pairwise fun a b => a.q≠b.q) (h:∀ y ∈ qs,y.l≠[]):∀ y ∈ Qu.turnW ws2 ⟨z.q,z.n,A5,c5,z.l ++ [c],z.p⟩,y.l≠[]:=by
 intro y hy
 unfold Qu.turnW at hy
 obtain ⟨y0,h0,rfl⟩:=List.mem_map.1 hy
 split
 ·simp
 ·rename_i hne
  rcases hz with ⟨_,rfl⟩ | ⟨_,q,rfl,rfl⟩
  ·exact h y0 h0
  ·rcases List.mem_append.1 h0 with h0 | h0
   ·exact h y0 h0
   ·rw [List.mem_singleton] at h0
    exact absurd (by rw [h0]) hne
theorem DRel.push {S:Re.RS} {P Q:PL} {ws:List WI} {qs:List Qu.WI} {gv n:Int} {v:Nat} {w w':World} {B x:Nat} {e:Ending} (h:DRel S P ws Q qs gv) (hG:Qu.QGood S.Q) (hd:DR w B x P ws S.K.L Q qs gv) (hO:DPushO w B x P ws S.K.L Q qs gv n v e w') :
  e=.returned (.int .i64 (Re.pushR S n v).1)∧∃ qs',DR w' B x P ws (Re.pushR S n v).2.K.L Q qs' gv∧DRel (Re.pushR S n v).2 P ws Q qs' gv∧qs'.length≤qs.length + 1∧RJ B w w' x (fun r => ∃ y ∈ qs,blk y.A=some r)∧NewA w ws qs ws qs'∧((∀ y ∈ qs,y.l≠[])→∀ y ∈ qs',y.l≠[]):=by
 have hf:=h.fit n
 obtain ⟨p1,p2,p3⟩:=Qu.push_key h.Q n v
 rcases hO with ⟨f0,he,hb⟩ | ⟨f0,hO⟩
 ·rw [hf] at f0 he
  have e1:Re.pushR S n v=(Re.openR S n,S):=by unfold Re.pushR; rw [if_pos f0]
  rw [e1]
  exact ⟨he,qs,hd.below hb,h,Nat.le_succ _,RJ.of (lbelow_grown hb _),NewA.same _ _ _,id⟩
 ·rw [hf] at f0
  have e1:Re.pushR S n v=((Qu.putM S.Q n v).1,{ S with Q:=(Qu.putM S.Q n v).2 }):=by unfold Re.pushR; rw [if_neg (by rw [f0]; simp)]
  rw [e1]
  rcases hO with ⟨m0,he,hb⟩ | ⟨m0,r0,he,hb⟩ | ⟨m0,r0,he,ws2,z,A5,c5,hz,hR,hj,hN⟩
  ·rw [p1 m0]
   exact ⟨he,qs,hd.below hb,h,Nat.le_succ _,RJ.of (lbelow_grown hb _),NewA.same _ _ _,id⟩
  ·rw [p2 m0 r0]
   exact ⟨he,qs,hd.below hb,h,Nat.le_succ _,RJ.of (lbelow_grown hb _),NewA.same _ _ _,id⟩
  ·obtain ⟨a1,a2⟩:=Qu.note_key h.Q hG hz hR.pairs.2
   obtain ⟨b1,b2⟩:=p3 _ m0 r0 a1
   refine ⟨by rw [he]; dsimp only; rw [b1],_,hR,h.Q' b2 (put_pr _ _ _),a2,hj,hN,note_ne hz hR.pairs.2⟩
theorem DRel.pop {S:Re.RS} {P Q:PL} {ws:List WI} {qs:List Qu.WI} {gv n:Int} {w w':World} {B x:Nat} {e:Ending} (h:DRel S P ws Q qs gv) (hG:Qu.QGood S.Q) (hd:DR w B x P ws S.K.L Q qs gv) (hO:DPopO w B x P ws S.K.L Q qs gv n e w') :
  e=.returned (.tuple #[.int .u64 ((Re.popR S n).1.1:Nat),.int .i64 (Re.popR S n).1.2])∧∃ qs',DR w' B x P ws (Re.popR S n).2.K.L Q qs' gv∧DRel (Re.popR S n).2 P ws Q qs' gv∧qs'.length≤qs.length + 1∧RJ B w w' x (fun r => ∃ y ∈ qs,blk y.A=some r)∧NewA w ws qs ws qs'∧((∀ y ∈ qs,y.l≠[])→∀ y ∈ qs',y.l≠[]):=by
 have hf:=h.fit n
 obtain ⟨p1,p2,p3,p4⟩:=Qu.pop_key h.Q hG n
 rcases hO with ⟨f0,he,hb⟩ | ⟨f0,hO⟩
 ·rw [hf] at f0 he
  have e1:Re.popR S n=((0,Re.openR S n),S):=by unfold Re.popR; rw [if_pos f0]
  rw [e1]
  exact ⟨he,qs,hd.below hb,h,Nat.le_succ _,RJ.of (lbelow_grown hb _),NewA.same _ _ _,id⟩
 ·rw [hf] at f0
  have e1:Re.popR S n=((Qu.takeM S.Q n).1,{ S with Q:=(Qu.takeM S.Q n).2 }):=by unfold Re.popR; rw [if_neg (by rw [f0]; simp)]
  rw [e1]
  rcases hO with ⟨m0,he,hb⟩ | ⟨m0,r0,he,hb⟩ | ⟨m0,y,hy,⟨t0,he,hb⟩ | ⟨t0,he,ws2,z,A5,c5,hz,hR,hj,hN⟩⟩
  ·rw [p1 m0]
   exact ⟨he,qs,hd.below hb,h,Nat.le_succ _,RJ.of (lbelow_grown hb _),NewA.same _ _ _,id⟩
  ·rw [p2 m0 r0]
   exact ⟨he,qs,hd.below hb,h,Nat.le_succ _,RJ.of (lbelow_grown hb _),NewA.same _ _ _,id⟩
  ·rw [p3 y m0 hy t0]
   exact ⟨he,qs,hd.below hb,h,Nat.le_succ _,RJ.of (lbelow_grown hb _),NewA.same _ _ _,id⟩
  ·obtain ⟨a1,a2⟩:=Qu.note_key h.Q hG hz hR.pairs.2
   obtain ⟨b1,b2⟩:=p4 y _ m0 hy t0 a1
   refine ⟨by rw [he]; dsimp only; rw [b1],_,hR,h.Q' b2 (take_pr _ _),a2,hj,hN,note_ne hz hR.pairs.2⟩
end Go.Proofs.YtlliaihmfimdoaaGreat.Dr


namespace Go.Proofs.YtlliaihmfimdoaaGreat.Dr
open Go.RowKit Go.Maps Go.Joins Go.Deep Go.Proofs.YtlliaihmfimdoaaGreat
theorem DRel.end_ {S:Re.RS} {P P' Q Q':PL} {ws ws':List WI} {qs qs':List Qu.WI} {gv gv':Int} (h:DRel S P ws Q qs gv) (n:Int) {K:KS} {T:Qu.QS} (hK:Rel K P' ws') (hT:Qu.Rel T Q' qs' gv') (h1:∀ m,(curW K m).2=if m=n then false else (curW S.K m).2) (h2:∀ m,(Qu.curQ T.ws m).2=if m=n then false else (Qu.curQ S.Q.ws m).2):DRel (Re.dropS ⟨K,T,S.pr⟩ n) P' ws' Q' qs' gv':=by
 refine ⟨hK,hT,fun m => ?_⟩
 show m ∈ Re.lessZ S.pr n ↔ (curW K m).2=true∨(Qu.curQ T.ws m).2=true
 unfold Re.lessZ
 rw [List.mem_filter,h1,h2]
 by_cases e:m=n
 ·simp [e]
 ·rw [if_neg e,if_neg e,h.pr m]
  simp [e]
theorem drop_pr (S:KS) (n m:Int):(curW (dropM S n) m).2=if m=n then false else (curW S m).2:=by
 unfold curW dropM
 dsimp only
 by_cases e:m=n
 ·rw [e,updW_self,if_pos rfl]; rfl
 ·rw [updW_ne _ _ _ e,if_neg e]
theorem DRel.commit {S:Re.RS} {P Q:PL} {ws:List WI} {qs:List Qu.WI} {gv:Int} (h:DRel S P ws Q qs gv) (hG:Qu.QGood S.Q) (n:Int) :
  (commitD P ws S.K.L Q qs gv n).1=(Re.commitR S n).1∧(commitD P ws S.K.L Q qs gv n).2.1.2.2=(Re.commitR S n).2.K.L∧DRel (Re.commitR S n).2 (commitD P ws S.K.L Q qs gv n).2.1.1 (commitD P ws S.K.L Q qs gv n).2.1.2.1 (commitD P ws S.K.L Q qs gv n).2.2.1 (commitD P ws S.K.L Q qs gv n).2.2.2.1 (commitD P ws S.K.L Q qs gv n).2.2.2.2:=by
 obtain ⟨a1,a2,a3,a4⟩:=commit_key h.K n
 obtain ⟨b1,b2,b3⟩:=Qu.commit_key h.Q hG n
 by_cases hn:n < 1
 ·have e1:Re.commitR S n=(1,S):=by unfold Re.commitR; rw [if_pos hn]
  have e2:commitD P ws S.K.L Q qs gv n=(1,(P,ws,S.K.L),(Q,qs,gv)):=by
   have:commitR P ws S.K.L n=(1,P,ws,S.K.L):=by unfold commitR; rw [if_pos hn]
   unfold commitD
   rw [this]
   rfl
  rw [e1,e2]
  exact ⟨rfl,rfl,h⟩
 ·have e0:(commitR P ws S.K.L n).1=0:=by unfold commitR; rw [if_neg hn]
  have e1:Re.commitR S n=(0,Re.dropS ⟨(commitM S.K n).2,(Qu.commitM S.Q n).2,S.pr⟩ n):=by unfold Re.commitR; rw [if_neg hn]
  have e2:commitD P ws S.K.L Q qs gv n=(0,(commitR P ws S.K.L n).2,(Qu.commitR Q qs gv n).2):=by unfold commitD; rw [if_pos e0,e0]
  rw [e1,e2]
  refine ⟨rfl,a2.symm,h.end_ n a3 b2 (fun m => ?_) (fun m => ?_)⟩
  ·unfold commitM
   rw [if_neg hn]
   exact drop_pr _ _ _
  ·unfold Qu.commitM
   rw [if_neg hn]
   dsimp only
   rw [Qu.curQ_others]
   split <;> rfl
theorem DRel.back {S:Re.RS} {P Q:PL} {ws:List WI} {qs:List Qu.WI} {gv:Int} (h:DRel S P ws Q qs gv) (n:Int) :
  (backD ws S.K.L qs n).1=(Re.backR S n).1∧(backD ws S.K.L qs n).2.1.2=(Re.backR S n).2.K.L∧DRel (Re.backR S n).2 P (backD ws S.K.L qs n).2.1.1 Q (backD ws S.K.L qs n).2.2 gv:=by
 obtain ⟨a1,a2,a3,a4⟩:=back_key h.K n
 obtain ⟨b1,b2,b3⟩:=Qu.back_key h.Q n
 by_cases hn:n < 1
 ·have e1:Re.backR S n=(1,S):=by unfold Re.backR; rw [if_pos hn]
  have e2:backD ws S.K.L qs n=(1,(ws,S.K.L),qs):=by
   have:backR ws S.K.L n=(1,ws,S.K.L):=by unfold backR; rw [if_pos hn]
   unfold backD
   rw [this]
   rfl
  rw [e1,e2]
  exact ⟨rfl,rfl,h⟩
 ·have e0:(backR ws S.K.L n).1=0:=by unfold backR; rw [if_neg hn]
  have e1:Re.backR S n=(0,Re.dropS ⟨(backoutM S.K n).2,(Qu.backM S.Q n).2,S.pr⟩ n):=by unfold Re.backR; rw [if_neg hn]
  have e2:backD ws S.K.L qs n=(0,(backR ws S.K.L n).2,(Qu.backR qs n).2):=by unfold backD; rw [if_pos e0,e0]
  rw [e1,e2]
  refine ⟨rfl,a2.symm,h.end_ n a3 b2 (fun m => ?_) (fun m => ?_)⟩
  ·unfold backoutM
   rw [if_neg hn]
   exact drop_pr _ _ _
  ·unfold Qu.backM
   rw [if_neg hn]
   dsimp only
   rw [Qu.curQ_others]
   split <;> rfl
end Go.Proofs.YtlliaihmfimdoaaGreat.Dr


namespace Go.Proofs.YtlliaihmfimdoaaGreat.Dr
open Go.RowKit Go.Maps Go.Joins Go.Deep Go.Proofs.YtlliaihmfimdoaaGreat
theorem turnD_pairs {ws:List WI} (h:ws.Pairwise fun a b => a.q≠b.q) (z:WI):(turnW ws z).Pairwise fun a b => a.q≠b.q:=by
 unfold turnW
 rw [List.pairwise_map]
 refine h.imp fun {a b} hab => ?_
 split <;> split <;> simp_all
theorem turnE_pairs {ws:List Qu.WI} (h:ws.Pairwise fun a b => a.q≠b.q) (z:Qu.WI):(Qu.turnW ws z).Pairwise fun a b => a.q≠b.q:=by
 unfold Qu.turnW
 rw [List.pairwise_map]
 refine h.imp fun {a b} hab => ?_
 split <;> split <;> simp_all
theorem prepK_pr {S:KS} {P:PL} {ws:List WI} (hr:Rel S P ws) (n:Int) (h1:¬ n < 1) (h2:(curW S n).2=false) (m:Int):(curW (prepM S n).2 m).2=if m=n then decide (0 < (prepM S n).1.1.length) else (curW S m).2:=by
 rcases hf:findW ws n with _ | z
 ·have e1:prepM S n=(([],0),{ S with L:=dropL S.L n }):=by unfold prepM; rw [if_neg h1,hr.cur0 hf,(hr.no _ hf).1]; rfl
  rw [e1]
  show (curW S m).2=_
  by_cases e:m=n
  ·rw [if_pos e,e,h2]; rfl
  ·rw [if_neg e]
 ·have hp:¬ z.p=true:=by
   rw [hr.cur hf] at h2
   simpa using h2
  by_cases hl:z.l=[]
  ·have hw:=((hr.yes _ _ hf).1 hl).1
   have e1:prepM S n=(([],0),{ S with L:=dropL S.L n }):=by unfold prepM; rw [if_neg h1,hr.cur hf,if_neg hp,hw]; rfl
   rw [e1]
   show (curW S m).2=_
   by_cases e:m=n
   ·rw [if_pos e,e,h2]; rfl
   ·rw [if_neg e]
  ·have hw:=(hr.yes _ _ hf).2 hl
   have e1:prepM S n=((z.l,0),{ S with W:=updW S.W n (some (z.l,true)) }):=by unfold prepM; rw [if_neg h1,hr.cur hf,if_neg hp,hw]; rfl
   rw [e1]
   unfold curW
   dsimp only
   by_cases e:m=n
   ·rw [if_pos e,e,updW_self]
    have:=List.length_pos_iff.2 hl
    simp [this]
   ·rw [if_neg e,updW_ne _ _ _ e]
theorem prepQ_pr {S:Qu.QS} {P:PL} {ws:List Qu.WI} {gv:Int} (hr:Qu.Rel S P ws gv) (hne:∀ y ∈ ws,y.l≠[]) (n:Int) (h0:Qu.openE S n=0) (h2:(Qu.curQ S.ws n).2=false) (m:Int):(Qu.curQ (Qu.prepM S n).2.ws m).2=if m=n then decide (0 < (Qu.prepM S n).1.1.length) else (Qu.curQ S.ws m).2:=by
 rcases hf:Qu.findW ws n with _ | z
 ·have e1:Qu.prepM S n=(([],0),S):=by unfold Qu.prepM; rw [if_neg (by rw [h0]; simp),hr.look,hf]; rfl
  rw [e1]
  by_cases e:m=n
  ·rw [if_pos e,e,h2]; rfl
  ·rw [if_neg e]
 ·have e1:Qu.prepM S n=((z.l,0),{ S with ws:=Qu.layQ S.ws n z.l true }):=by unfold Qu.prepM; rw [if_neg (by rw [h0]; simp),hr.look,hf,hr.cur hf]; rfl
  rw [e1]
  dsimp only
  rw [Qu.curQ_lay]
  by_cases e:m=n
  ·rw [if_pos e,if_pos e]
   have:=List.length_pos_iff.2 (hne z (Qu.findW_mem hf).1)
   simp [this]
  ·rw [if_neg e,if_neg e]
theorem DRel.prep {S:Re.RS} {P Q:PL} {ws:List WI} {qs:List Qu.WI} {gv:Int} (h:DRel S P ws Q qs gv) (hG:Qu.QGood S.Q) (hne:∀ y ∈ qs,y.l≠[]) (n:Int) (hp1:ws.Pairwise fun a b => a.q≠b.q) (hp2:qs.Pairwise fun a b => a.q≠b.q) :
  (prepD ws S.K.L qs n).1=(Re.prepR S n).1∧(prepD ws S.K.L qs n).2.1.2=(Re.prepR S n).2.K.L∧DRel (Re.prepR S n).2 P (prepD ws S.K.L qs n).2.1.1 Q (prepD ws S.K.L qs n).2.2 gv:=by
 have hf:=h.fit n
 obtain ⟨a1,a2,a3,a4⟩:=prep_key h.K n (fun z _ => turnD_pairs hp1 _)
 obtain ⟨b1,b2,b3⟩:=Qu.prep_key h.Q hG n (fun z _ => turnE_pairs hp2 _)
 by_cases f0:Re.openR S n=0
 ·have hn1:¬ n < 1:=fun e => by unfold Re.openR at f0; rw [if_pos e] at f0; cases f0
  have hnp:n ∉ S.pr:=fun e => by unfold Re.openR at f0; rw [if_neg hn1,if_pos e] at f0; cases f0
  have hk:(curW S.K n).2=false:=by
   rcases hh:(curW S.K n).2 with _ | _
   ·rfl
   ·exact absurd ((h.pr n).2 (.inl hh)) hnp
  have hq:(Qu.curQ S.Q.ws n).2=false:=by
   rcases hh:(Qu.curQ S.Q.ws n).2 with _ | _
   ·rfl
   ·exact absurd ((h.pr n).2 (.inr hh)) hnp
  have hoq:Qu.openE S.Q n=0:=by unfold Qu.openE; rw [if_neg hn1,if_neg (by rw [hq]; simp)]
  have e1:Re.prepR S n=(((prepM S.K n).1.1 ++ (Qu.prepM S.Q n).1.1,0),Re.holdR ⟨(prepM S.K n).2,(Qu.prepM S.Q n).2,S.pr⟩ n ((prepM S.K n).1.1 ++ (Qu.prepM S.Q n).1.1).length):=by unfold Re.prepR; rw [if_neg (by rw [f0]; simp)]
  have e2:prepD ws S.K.L qs n=(((prepR ws S.K.L n).1.1 ++ (Qu.prepR qs n).1.1,0),(prepR ws S.K.L n).2,(Qu.prepR qs n).2):=by unfold prepD; rw [if_pos (by rw [hf]; exact f0)]
  have hpk:=prepK_pr h.K n hn1 hk
  have hpq:=prepQ_pr h.Q hne n hoq hq
  rw [e1,e2]
  refine ⟨by dsimp only; rw [a1,b1],?_,?_⟩
  ·dsimp only
   rw [← a2]
   unfold Re.holdR
   split <;> rfl
  ·refine ⟨by unfold Re.holdR; split <;> exact a3,by unfold Re.holdR; split <;> exact b2,fun m => ?_⟩
   have hK:(Re.holdR ⟨(prepM S.K n).2,(Qu.prepM S.Q n).2,S.pr⟩ n ((prepM S.K n).1.1 ++ (Qu.prepM S.Q n).1.1).length).K=(prepM S.K n).2:=by unfold Re.holdR; split <;> rfl
   have hQ:(Re.holdR ⟨(prepM S.K n).2,(Qu.prepM S.Q n).2,S.pr⟩ n ((prepM S.K n).1.1 ++ (Qu.prepM S.Q n).1.1).length).Q=(Qu.prepM S.Q n).2:=by unfold Re.holdR; split <;> rfl
   rw [hK,hQ,hpk m,hpq m,List.length_append]
   unfold Re.holdR
   by_cases e:m=n
   ·rw [if_pos e,if_pos e,e]
    split
    ·rename_i hlt
     simp only [List.mem_append,List.mem_singleton,or_true,true_iff,decide_eq_true_eq]
     omega
    ·rename_i hlt
     simp only [decide_eq_true_eq]
     constructor
     ·intro e; exact absurd e hnp
     ·intro e; omega
   ·rw [if_neg e,if_neg e,← h.pr m]
    split
    ·simp [e]
    ·rfl
 ·have e1:Re.prepR S n=(([],Re.openR S n),S):=by unfold Re.prepR; rw [if_pos f0]
  have e2:prepD ws S.K.L qs n=(([],Re.openR S n),(ws,S.K.L),qs):=by unfold prepD; rw [hf,if_neg f0]
  rw [e1,e2]
  exact ⟨rfl,rfl,h⟩
end Go.Proofs.YtlliaihmfimdoaaGreat.Dr


namespace Go.Proofs.YtlliaihmfimdoaaGreat.Dr
open Go.RowKit Go.Maps Go.Joins Go.Deep Go.Proofs.YtlliaihmfimdoaaGreat
theorem restK_W (S:KS) (n:Int) (l:List Ch):(restoreM S n l).2.W=if (restoreM S n l).1=0∧l≠[] then updW S.W n (some (l,true)) else S.W:=by
 unfold restoreM
 split
 ·simp
 ·split
  ·simp
  ·split
   ·simp
   ·split
    ·unfold restW
     by_cases e:l=[]
     ·simp [e]
     ·simp [e]
    ·rename_i h
     rw [if_neg (fun e => h e.1)]
theorem restQ_ws (S:Qu.QS) (n:Int) (l:List Ch):(Qu.restM S n l).2.ws=if (Qu.restM S n l).1=0∧l≠[] then Qu.layQ S.ws n l true else S.ws:=by
 unfold Qu.restM
 split
 ·simp
 ·split
  ·simp
  ·split
   ·simp
   ·split
    ·simp
    ·split
     ·rename_i e; simp [e]
     ·rename_i e; simp [e]
theorem restK_pr (S:KS) (n:Int) (l:List Ch) (m:Int):(curW (restoreM S n l).2 m).2=if (restoreM S n l).1=0∧l≠[] then (if m=n then true else (curW S m).2) else (curW S m).2:=by
 unfold curW
 rw [restK_W]
 split
 ·by_cases e:m=n
  ·rw [if_pos e,e,updW_self]; rfl
  ·rw [if_neg e,updW_ne _ _ _ e]
 ·rfl
theorem restQ_pr (S:Qu.QS) (n:Int) (l:List Ch) (m:Int):(Qu.curQ (Qu.restM S n l).2.ws m).2=if (Qu.restM S n l).1=0∧l≠[] then (if m=n then true else (Qu.curQ S.ws m).2) else (Qu.curQ S.ws m).2:=by
 rw [restQ_ws]
 split
 ·rw [Qu.curQ_lay]
  split <;> rfl
 ·rfl
theorem restE_found {ws:List WI} {L:List LRow} {n:Int} {l:List Ch} (h:restE ws L n l=0):findW ws n=none:=by
 unfold restE at h
 split at h
 ·cases h
 ·split at h
  ·cases h
  ·rcases hf:findW ws n with _ | z
   ·rfl
   ·rw [hf] at h; simp at h
theorem dropL_none {L:List LRow} {n:Int} (h:hasL L n=false):dropL L n=L:=by
 unfold dropL
 rw [List.filter_eq_self]
 intro x hx
 have:¬ hasL L n=true:=by rw [h]; simp
 by_cases e:x.2.1=n
 ·exact absurd (hasL_iff.2 ⟨x,hx,e⟩) this
 ·simp [e]
theorem dropM_none {S:KS} {n:Int} (hw:S.W n=none) (hl:hasL S.L n=false):dropM S n=S:=by
 unfold dropM
 rw [dropL_none hl]
 have:updW S.W n none=S.W:=by
  funext m
  by_cases e:m=n
  ·rw [e,updW_self,hw]
  ·rw [updW_ne _ _ _ e]
 rw [this]
theorem restM_nil {S:KS} {n:Int}:(restoreM S n []).2=S:=by
 unfold restoreM
 split
 ·rfl
 ·split
  ·rfl
  ·split
   ·rfl
   ·split
    ·unfold restW; rfl
    ·rfl
theorem QRel.len {Q:PL} {qs qs1:List Qu.WI} {gv n:Int} {l:List Ch} (h:QRel Q qs gv n l qs1) (hne:∀ y ∈ qs,y.l≠[]):qs1.length≤qs.length + 1∧∀ y ∈ qs1,y.l≠[]:=by
 rcases h with ⟨_,rfl⟩ | ⟨_,hl,q,A,c,rfl⟩
 ·exact ⟨Nat.le_succ _,hne⟩
 ·refine ⟨by simp,fun y hy => ?_⟩
  rcases List.mem_append.1 hy with hy | hy
  ·exact hne y hy
  ·rw [List.mem_singleton] at hy; subst hy; exact hl
theorem SRel.len {ws ws1:List WI} {L L1:List LRow} {n:Int} {l:List Ch} (h:SRel ws L n l ws1 L1):ws1.length≤ws.length + 1:=by
 rcases h with ⟨_,rfl,_⟩ | ⟨_,_,_,⟨_,rfl,_⟩ | ⟨_,_,q,A,c,rfl,_⟩⟩
 ·exact Nat.le_succ _
 ·exact Nat.le_succ _
 ·simp
theorem backD_mem {ws:List WI} {L:List LRow} {n:Int} {y:WI} (h:y ∈ (backR ws L n).2.1):y ∈ ws:=by
 unfold backR at h
 split at h
 ·exact h
 ·exact (List.mem_filter.1 h).1
theorem DRel.rest {S:Re.RS} {P Q:PL} {ws:List WI} {qs:List Qu.WI} {gv n:Int} {l:List Ch} {w w':World} {B x:Nat} {e:Ending} (h:DRel S P ws Q qs gv) (hG:Qu.QGood S.Q) (hne:∀ y ∈ qs,y.l≠[]) (hn:i64ok n) (hd:DR w B x P ws S.K.L Q qs gv) (hO:DRestO w B x P ws S.K.L Q qs gv n l e w') :
  e=.returned (.int .i64 (Re.restoreR S n l).1)∧∃ ws' qs',DR w' B x P ws' (Re.restoreR S n l).2.K.L Q qs' gv∧DRel (Re.restoreR S n l).2 P ws' Q qs' gv∧ws'.length≤ws.length + 1∧(qs'.length≤qs.length + 1∧∀ y ∈ qs',y.l≠[])∧RJ B w w' x (fun _ => False)∧NewA w ws qs ws' qs':=by
 rcases hO with ⟨n1,he,hb⟩ | ⟨n1,hk,he,hb⟩ | ⟨n1,hk,hj,ws1,L1,hS,hAw,hO⟩
 ·have e1:Re.restoreR S n l=(1,S):=if_pos n1
  rw [e1]
  exact ⟨he,ws,qs,hd.below hb,h,Nat.le_succ _,⟨Nat.le_succ _,hne⟩,RJ.of (lbelow_grown hb _),NewA.same _ _ _⟩
 ·have e1:Re.restoreR S n l=(3,S):=by
   unfold Re.restoreR
   rw [okS_false] at hk
   rw [if_neg (by omega),if_pos (by simpa using hk)]
  rw [e1]
  exact ⟨he,ws,qs,hd.below hb,h,Nat.le_succ _,⟨Nat.le_succ _,hne⟩,RJ.of (lbelow_grown hb _),NewA.same _ _ _⟩
 ·obtain ⟨a1,a2,a3,a4⟩:=rest_key h.K hn hS
  have hMk:(l.drop (Re.endK l)).any Re.isK=false:=by
   rw [okS_false] at hk
   simpa using hk
  have hpK:=restK_pr S.K n (l.take (Re.endK l))
  have hl:l=l.take (Re.endK l) ++ l.drop (Re.endK l):=(List.take_append_drop _ _).symm
  have hM:Re.restoreR S n l=if (restoreM S.K n (l.take (Re.endK l))).1≠0 then ((restoreM S.K n (l.take (Re.endK l))).1,{ S with K:=(restoreM S.K n (l.take (Re.endK l))).2 })
    else if (Qu.restM S.Q n (l.drop (Re.endK l))).1≠0 then ((Qu.restM S.Q n (l.drop (Re.endK l))).1,⟨(backoutM (restoreM S.K n (l.take (Re.endK l))).2 n).2,(Qu.restM S.Q n (l.drop (Re.endK l))).2,S.pr⟩)
    else (0,Re.holdR ⟨(restoreM S.K n (l.take (Re.endK l))).2,(Qu.restM S.Q n (l.drop (Re.endK l))).2,S.pr⟩ n l.length):=by
   unfold Re.restoreR
   rw [if_neg (by omega),if_neg (by rw [hMk]; simp)]
  have hlen:l.length=(l.take (Re.endK l)).length + (l.drop (Re.endK l)).length:=by rw [← List.length_append,← hl]
  rw [hM]
  clear hM hMk hk hl
  generalize l.take (Re.endK l)=la at *
  generalize l.drop (Re.endK l)=lb at *
  rcases hO with ⟨r0,he,hD⟩ | ⟨r0,qs1,hQ,hAq,he,hO⟩
  ·have r0':(restoreM S.K n la).1≠0:=by rw [a1]; exact r0
   rw [if_pos r0']
   refine ⟨by rw [he]; dsimp only; rw [a1],ws1,qs,by dsimp only; rw [a2]; exact hD,h.K' a3 (fun m => ?_),hS.len,⟨Nat.le_succ _,hne⟩,hj,NewA.of hAw keptQ⟩
   rw [hpK m,if_neg (fun e => r0' e.1)]
  ·have r0':(restoreM S.K n la).1=0:=by rw [a1]; exact r0
   obtain ⟨b1,b2,b3⟩:=Qu.rest_key h.Q hG hQ
   have hpQ:=restQ_pr S.Q n lb
   have hf:=restE_found r0
   obtain ⟨hno1,hno2⟩:=h.K.no n hf
   have hc0:=h.K.cur0 hf
   rw [if_neg (by rw [r0']; simp)]
   by_cases q0:Qu.restR Q qs gv n lb=0
   ·have q0':(Qu.restM S.Q n lb).1=0:=by rw [b1]; exact q0
    rw [if_neg (by rw [q0']; simp)]
    have hD:DR w' B x P ws1 L1 Q qs1 gv:=by
     rcases hO with ⟨_,hD⟩ | ⟨q1,_⟩
     ·exact hD
     ·exact absurd q0 q1
    have eK:(Re.holdR ⟨(restoreM S.K n la).2,(Qu.restM S.Q n lb).2,S.pr⟩ n l.length).K=(restoreM S.K n la).2:=by unfold Re.holdR; split <;> rfl
    have eQ:(Re.holdR ⟨(restoreM S.K n la).2,(Qu.restM S.Q n lb).2,S.pr⟩ n l.length).Q=(Qu.restM S.Q n lb).2:=by unfold Re.holdR; split <;> rfl
    refine ⟨by rw [he,q0],ws1,qs1,by dsimp only; rw [eK,a2]; exact hD,⟨by dsimp only; rw [eK]; exact a3,by dsimp only; rw [eQ]; exact b2,fun m => ?_⟩,hS.len,hQ.len hne,hj,NewA.of hAw hAq⟩
    dsimp only
    rw [eK,eQ,hpK m,hpQ m]
    have hp:=h.pr m
    unfold Re.holdR
    rcases la with _ | ⟨c1,la⟩
    ·rcases lb with _ | ⟨c2,lb⟩
     ·rw [if_neg (by simp only [List.length_nil] at hlen; omega),if_neg (by simp),if_neg (by simp)]
      exact hp
     ·rw [if_pos (by simp only [List.length_nil,List.length_cons] at hlen; omega),if_neg (by simp),if_pos ⟨q0',by simp⟩]
      by_cases e:m=n
      ·simp [e]
      ·simp [e,hp]
    ·rw [if_pos (by simp only [List.length_cons] at hlen; omega),if_pos ⟨r0',by simp⟩]
     by_cases e:m=n
     ·simp [e]
     ·by_cases e2:(Qu.restM S.Q n lb).1=0∧lb≠[]
      ·simp [e,e2,hp]
      ·simp [e,e2,hp]
   ·have q0':(Qu.restM S.Q n lb).1≠0:=by rw [b1]; exact q0
    rw [if_pos q0']
    rcases hO with ⟨q1 | rfl,hD⟩ | ⟨_,hla,hD⟩
    ·exact absurd q1 q0
    ·have eS:(restoreM S.K n []).2=S.K:=restM_nil
     rw [eS] at a2 a3 ⊢
     have eB:(backoutM S.K n).2=S.K:=by
      unfold backoutM
      rw [if_neg (by omega)]
      exact dropM_none hno1 hno2
     rw [eB]
     refine ⟨by rw [he]; dsimp only; rw [b1],ws1,qs1,by dsimp only; rw [a2]; exact hD,⟨a3,b2,fun m => ?_⟩,hS.len,hQ.len hne,hj,NewA.of hAw hAq⟩
     dsimp only
     rw [hpQ m,if_neg (fun e => q0' e.1)]
     exact h.pr m
    ·obtain ⟨c1,c2,c3,c4⟩:=back_key a3 n
     rw [a2] at c2 c3 c4
     have hpB:∀ m,(curW (backoutM (restoreM S.K n la).2 n).2 m).2=(curW S.K m).2:=fun m => by
      unfold backoutM
      rw [if_neg (by omega)]
      dsimp only
      rw [drop_pr,hpK m]
      by_cases e:m=n
      ·rw [if_pos e,e,hc0]
      ·simp only [if_neg e]
       split <;> rfl
     refine ⟨by rw [he]; dsimp only; rw [b1],(backR ws1 L1 n).2.1,qs1,by dsimp only; rw [c2]; exact hD,⟨c3,b2,fun m => ?_⟩,?_,hQ.len hne,hj,NewA.of (fun y hy r hr => hAw y (backD_mem hy) r hr) hAq⟩
     ·dsimp only
      rw [hpB m,hpQ m,if_neg (fun e => q0' e.1)]
      exact h.pr m
     ·refine Nat.le_trans ?_ hS.len
      unfold backR
      split
      ·exact Nat.le_refl _
      ·exact List.length_filter_le _ _
end Go.Proofs.YtlliaihmfimdoaaGreat.Dr


namespace Go.Proofs.YtlliaihmfimdoaaGreat.Dr
open Go.RowKit Go.Maps Go.Joins Go.Deep Go.Proofs.YtlliaihmfimdoaaGreat
def NotD (t:TypeId):Prop:=t≠109∧t≠147∧t≠111∧t≠149∧t≠154
theorem RJ.kind {B0:Nat} {w w':World} {x k:Nat} {T:Nat→Prop} {o:Obj} (hg:RJ B0 w w' x T) (hk:k≠x) (ho:w.heap[k]?=some o) (h:∀ cs t fz,o=.cells cs t fz→NotD t∧(t=74→¬ T k)):w'.heap[k]?=w.heap[k]?:=by
 rcases hg.block k (Array.getElem?_eq_some_iff.1 ho).1 hk with e | ⟨cs,t,fz,e,h2⟩
 ·exact e
 ·rw [e] at ho
  injection ho with ho
  obtain ⟨h1,h3⟩:=h _ _ _ ho.symm
  rcases h2 with h2 | h2 | h2 | h2 | h2 | h2
  ·exact absurd h2 h1.1
  ·exact absurd h2 h1.2.1
  ·exact absurd h2 h1.2.2.1
  ·exact absurd h2 h1.2.2.2.1
  ·exact absurd h2 h1.2.2.2.2
  ·exact absurd h2.2 (h3 h2.1)
theorem own_rj {B0:Nat} {w w':World} {H:Type} {P:Program} {k:TypeId} {R:Value→Option (DataW H × List MemPlace)} {b n x:Nat} {D:DataW H} {T:Nat→Prop} {t:TypeId} {cs:Array Value} (h:w.ownsMap P k R b n D) (hg:RJ B0 w w' x T) (hx:Blk w x t cs):w'.ownsMap P k R b n D:=by
 obtain ⟨es,clock,hb,F,hs,hD⟩:=h
 refine ⟨es,clock,(hg.kind (fun e => ?_) hb (fun cs t fz e => by cases e)).trans hb,F,hs,hD⟩
 subst e
 unfold Blk at hx
 rw [hx] at hb
 cases hb
theorem cells_rj {B0:Nat} {w w':World} {T:Nat→Prop} {x b:Nat} {cs csb:Array Value} {t:TypeId} {fz:Nat × Nat} (hg:RJ B0 w w' x T) (hx:Blk w x 38 cs) (hb:w.heap[b]?=some (.cells csb t fz)) (ht:t≠38) (hn:NotD t) (hT:t=74→¬ T b):w'.heap[b]?=w.heap[b]? :=
 hg.kind (fun e => by
  subst e
  unfold Blk at hx
  rw [hx] at hb
  injection hb with hb
  injection hb with _ hb _
  exact ht hb.symm) hb (fun cs t fz e => by
  injection e with _ e _
  subst e
  exact ⟨hn,hT⟩)
theorem ch_rj {B0:Nat} {w w':World} {B T:Nat→Prop} {x:Nat} {A:Option Addr} {l:List Ch} {cs:Array Value} (h:ChAt w B A l) (hg:RJ B0 w w' x T) (hx:Blk w x 38 cs) (hT:∀ b,B b→¬ T b):ChAt w' B A l:=fun hl => by
 obtain ⟨b,o,rfl,⟨hB,cs,fz,hb⟩,hc⟩:=h hl
 have e:=cells_rj hg hx hb (by decide) ⟨by decide,by decide,by decide,by decide,by decide⟩ (fun _ => hT b hB)
 have hcell:∀ i,w'.cell? ⟨b,i,none⟩=w.cell? ⟨b,i,none⟩:=fun i => by unfold World.cell?; rw [e]
 exact ⟨b,o,rfl,⟨hB,cs,fz,by rw [e]; exact hb⟩,fun i hi => by rw [hcell,hcell,hcell]; exact hc i hi⟩
theorem it_rj {B0:Nat} {w w':World} {B T:Nat→Prop} {x:Nat} {A:Option Addr} {l:List Qu.IT} {cs:Array Value} (h:Qu.ItAt w B A l) (hg:RJ B0 w w' x T) (hx:Blk w x 38 cs):Qu.ItAt w' B A l:=fun hl => by
 obtain ⟨b,o,rfl,⟨hB,cs,fz,hb⟩,hc⟩:=h hl
 have e:=cells_rj hg hx hb (by decide) ⟨by decide,by decide,by decide,by decide,by decide⟩ (fun e => absurd e (by decide))
 have hcell:∀ i,w'.cell? ⟨b,i,none⟩=w.cell? ⟨b,i,none⟩:=fun i => by unfold World.cell?; rw [e]
 exact ⟨b,o,rfl,⟨hB,cs,fz,by rw [e]; exact hb⟩,fun i hi => by rw [hcell,hcell,hcell]; exact hc i hi⟩
theorem int_rj {B0:Nat} {w w':World} {T:Nat→Prop} {x:Nat} {A:Option Addr} {l:List Int} {cs:Array Value} (h:Re.IntAt w A l) (hg:RJ B0 w w' x T) (hx:Blk w x 38 cs):Re.IntAt w' A l:=fun hl => by
 obtain ⟨b,o,rfl,⟨cs,fz,hb⟩,hc⟩:=h hl
 have e:=cells_rj hg hx hb (by decide) ⟨by decide,by decide,by decide,by decide,by decide⟩ (fun e => absurd e (by decide))
 have hcell:∀ i,w'.cell? ⟨b,i,none⟩=w.cell? ⟨b,i,none⟩:=fun i => by unfold World.cell?; rw [e]
 exact ⟨b,o,rfl,⟨cs,fz,by rw [e]; exact hb⟩,fun i hi => by rw [hcell]; exact hc i hi⟩
theorem res_rj {B0:Nat} {w w':World} {g N x:Nat} {cs csx:Array Value} {S:Re.RS} {T:Nat→Prop} (h:Re.ResAt w g cs S N) (hg:RJ B0 w w' x T) (hx:Blk w x 38 csx) (hT:∀ b,S.K.B b→¬ T b) (hT2:∀ b,S.Q.B b→¬ T b):Re.ResAt w' g cs S N:=by
 obtain ⟨⟨h1,h2,h3,⟨m,G,h4,h5,h6⟩,⟨h7,m2,h8,h9⟩,h10⟩,⟨_,k2,⟨A,n,c,a1,a2,a3,a4,a5⟩,k3,⟨mq,Gq,k4,k5,k6⟩,k7,k8,k9⟩,⟨A2,n2,c2,p1,p2,p3,p4,p5⟩,hl⟩:=h
 have hbk:Blk w' g 102 cs:=by
  have:=cells_rj hg hx h1 (by decide) ⟨by decide,by decide,by decide,by decide,by decide⟩ (fun e => absurd e (by decide))
  exact this.trans h1
 refine ⟨⟨hbk,h2,h3,⟨m,G,h4,?_,h6.same fun A l hc => ch_rj hc hg hx hT⟩,⟨h7,m2,h8,?_⟩,h10⟩,⟨hbk,k2,⟨A,n,c,a1,a2,a3,a4,it_rj a5 hg hx⟩,k3,⟨mq,Gq,k4,?_,k6.same fun A l hc => ch_rj hc hg hx hT2⟩,k7,k8,k9⟩,⟨A2,n2,c2,p1,p2,p3,p4,int_rj p5 hg hx⟩,hl⟩
 ·rcases h5 with h | ⟨b,D,e,h,h'⟩
  ·exact .inl h
  ·exact .inr ⟨b,D,e,own_rj h hg hx,h'⟩
 ·rcases h9 with h | ⟨b,D,e,h,h'⟩
  ·exact .inl h
  ·exact .inr ⟨b,D,e,own_rj h hg hx,h'⟩
 ·rcases k5 with h | ⟨b,D,e,h,h'⟩
  ·exact .inl h
  ·exact .inr ⟨b,D,e,own_rj h hg hx,h'⟩
theorem res_rebase {w:World} {g N:Nat} {cs:Array Value} {S:Re.RS} (h:Re.ResAt w g cs S N) {B1 B2:Nat→Prop} (h1:∀ b,S.K.B b→b < w.heap.size→B1 b) (h2:∀ b,S.Q.B b→b < w.heap.size→B2 b):Re.ResAt w g cs ⟨{ S.K with B:=B1 },{ S.Q with B:=B2 },S.pr⟩ N :=
 ⟨h.kv.rebase h1,h.qu.rebase h2,h.pr,h.ln⟩
def Oth (t:TypeId):Prop:=t≠38∧NotD t∧t≠114∧t≠200∧t≠74
theorem Oth.res:Oth 102:=⟨by decide,⟨by decide,by decide,by decide,by decide,by decide⟩,by decide,by decide,by decide⟩
theorem Oth.told:Oth 47:=⟨by decide,⟨by decide,by decide,by decide,by decide,by decide⟩,by decide,by decide,by decide⟩
theorem DR.other {u u':World} {B x g:Nat} {P Q:PL} {ws:List WI} {L:List LRow} {qs:List Qu.WI} {gv:Int} {tt:TypeId} {cs:Array Value} (h:DR u B x P ws L Q qs gv) (hg:u.grownBy u' (some g)) (hk:Blk u g tt cs) (ht:Oth tt):DR u' B x P ws L Q qs gv:=by
 obtain ⟨a,b,c,d,e,k1,k2,k3⟩:=h.ex
 obtain ⟨t1,⟨t2,t3,t4,t5,t6⟩,t7,t8,t9⟩:=ht
 have hx:x≠g:=fun e => k3.ne hk (fun e => t1 e.symm) e
 have k3':=k3.kept hg (fun e => hx (by injection e))
 refine ⟨⟨a,b,c,d,e,⟨?_,fun y hy => ?_,k1.ds,k1.sm⟩,⟨?_,fun y hy => ?_,k2.ds,k2.sm⟩,k3'⟩,h.ap⟩
 ·obtain ⟨AP,nP,cP,AW,nW,cW,AL,nL,cL,hx1,hnP,hnW,hnL,hpr,hpt,hl⟩:=k1.ex
  exact ⟨AP,nP,cP,AW,nW,cW,AL,nL,cL,hx1.kept hg (fun e => hx (by injection e)),hnP,hnW,hnL,own_kept hpr hk (fun e => t7 e.symm) hg,own_kept hpt hk (fun e => t2 e.symm) hg,hl.kept hg fun r e => by cases e; exact .inr ⟨_,_,t8,hk⟩⟩
 ·obtain ⟨a1,a2,a3⟩:=k1.wk y hy
  exact ⟨a1,a2.kept hg (fun e => a2.ne hk (fun e => t3 e.symm) (by injection e)),own_kept a3 hk (fun e => t9 e.symm) hg⟩
 ·obtain ⟨AP,nP,cP,AW,nW,cW,hx1,hnP,hnW,hpr,hpt⟩:=k2.ex
  exact ⟨AP,nP,cP,AW,nW,cW,hx1.kept hg (fun e => hx (by injection e)),hnP,hnW,own_kept hpr hk (fun e => t6 e.symm) hg,own_kept hpt hk (fun e => t4 e.symm) hg⟩
 ·obtain ⟨a1,a2,a3⟩:=k2.wk y hy
  exact ⟨a1,a2.kept hg (fun e => a2.ne hk (fun e => t5 e.symm) (by injection e)),own_kept a3 hk (fun e => t9 e.symm) hg⟩
end Go.Proofs.YtlliaihmfimdoaaGreat.Dr


namespace Go.Proofs.YtlliaihmfimdoaaGreat.Dr
open Go.RowKit Go.Maps Go.Joins Go.Deep Go.Proofs.YtlliaihmfimdoaaGreat
structure MH (w:World) (B x:Nat) (S:Re.RS) (P:PL) (ws:List WI) (Q:PL) (qs:List Qu.WI) (gv:Int):Prop where
 dr:DR w B x P ws S.K.L Q qs gv
 rl:DRel S P ws Q qs gv
 gd:Qu.QGood S.Q
 ne:∀ y ∈ qs,y.l≠[]
 hB:B≤w.heap.size
 l1:ws.length < 100
 l2:qs.length < 100
 hg:0≤gv∧gv≤4611686018427387904
 ls:∀ y ∈ qs,y.l.length < 300
 hp:∀ n z,Qu.findW qs n=some z→Q.length + Qu.putsL z.l≤48∧gv + (Qu.putsL z.l:Nat)≤4611686018427387904
theorem MH.below {w u:World} {B x:Nat} {S:Re.RS} {P:PL} {ws:List WI} {Q:PL} {qs:List Qu.WI} {gv:Int} (h:MH w B x S P ws Q qs gv) (hb:Below w.heap.size w u):MH u B x S P ws Q qs gv :=
 ⟨h.dr.below hb,h.rl,h.gd,h.ne,Nat.le_trans h.hB hb.size,h.l1,h.l2,h.hg,h.ls,h.hp⟩
def StepS (w:World) (B x:Nat) (ws:List WI) (qs:List Qu.WI) (S':Re.RS) (w':World):Prop :=
 ∃ P' ws' Q' qs' gv',DR w' B x P' ws' S'.K.L Q' qs' gv'∧DRel S' P' ws' Q' qs' gv'∧(ws'.length≤ws.length + 1∧qs'.length≤qs.length + 1∧∀ y ∈ qs',y.l≠[])∧RJ B w w' x (Ours ws qs)∧NewA w ws qs ws' qs'
section
variable {w:World} {B x:Nat} {S:Re.RS} {P:PL} {ws:List WI} {Q:PL} {qs:List Qu.WI} {gv:Int}
theorem StepS.same (h:MH w B x S P ws Q qs gv) {w':World} (hb:Below w.heap.size w w'):StepS w B x ws qs S w' :=
 ⟨P,ws,Q,qs,gv,h.dr.below hb,h.rl,⟨Nat.le_succ _,Nat.le_succ _,h.ne⟩,RJ.of (lbelow_grown hb _),NewA.same _ _ _⟩
theorem mget (h:MH w B x S P ws Q qs gv) {n:Int} (hn:i64ok n) (y:Int):Calls Tryz.prog 35 #[.pointer (some ⟨x,0,none⟩),.int .i64 n,.int .i64 y] w fun e w' => e=.returned (.tuple #[.int .u64 ((Re.getR S n y).1.1:Nat),.bool (Re.getR S n y).1.2.1,.int .i64 (Re.getR S n y).1.2.2])∧StepS w B x ws qs (Re.getR S n y).2 w' :=
 (dget_any B x P ws S.K.L Q qs gv n y w h.dr h.hB h.l1 h.rl.K.ok h.rl.K.nc).mono fun e w' hO => by
  obtain ⟨he,ws',h1,h2,h3,h4,h5⟩:=h.rl.get hn h.dr hO
  exact ⟨he,P,ws',Q,qs,gv,h1,h2,⟨h3,Nat.le_succ _,h.ne⟩,h4.weak (fun _ h => h.elim),h5⟩
theorem mchange (h:MH w B x S P ws Q qs gv) {n:Int} (hn:i64ok n) (c:Ch) (hk:kindB c=true):Calls Tryz.prog 36 #[.pointer (some ⟨x,0,none⟩),.int .i64 n,.agg #[.int .i64 c.k,.int .i64 c.y,.int .u64 (c.v:Nat)]] w fun e w' => e=.returned (.int .i64 (if Re.openR S n≠0 then (Re.openR S n,S) else ((changeM S.K n c).1,{ S with K:=(changeM S.K n c).2 })).1)∧StepS w B x ws qs (if Re.openR S n≠0 then (Re.openR S n,S) else ((changeM S.K n c).1,{ S with K:=(changeM S.K n c).2 })).2 w' :=
 (dchange_any B x P ws S.K.L Q qs gv n c w h.dr h.hB h.l1 h.rl.K.ok h.rl.K.nc (fun y hy => by have:=(h.rl.K.ll y hy).len; omega)).mono fun e w' hO => by
  obtain ⟨r,S',e1,he,ws',h1,h2,h3,h4,h5⟩:=h.rl.change hn hk h.dr hO
  rw [e1]
  exact ⟨he,P,ws',Q,qs,gv,h1,h2,⟨h3,Nat.le_succ _,h.ne⟩,h4.weak (fun _ h => .inl h),h5⟩
theorem mput (h:MH w B x S P ws Q qs gv) {n:Int} (hn:i64ok n) (y:Int) (v:Nat):Calls Tryz.prog 36 #[.pointer (some ⟨x,0,none⟩),.int .i64 n,.agg #[.int .i64 1,.int .i64 y,.int .u64 (v:Nat)]] w fun e w' => e=.returned (.int .i64 (Re.putR S n y v).1)∧StepS w B x ws qs (Re.putR S n y v).2 w':=mchange h hn ⟨1,y,v⟩ rfl
theorem mdel (h:MH w B x S P ws Q qs gv) {n:Int} (hn:i64ok n) (y:Int):Calls Tryz.prog 36 #[.pointer (some ⟨x,0,none⟩),.int .i64 n,.agg #[.int .i64 2,.int .i64 y,.int .u64 0]] w fun e w' => e=.returned (.int .i64 (Re.delR S n y).1)∧StepS w B x ws qs (Re.delR S n y).2 w':=mchange h hn ⟨2,y,0⟩ rfl
theorem mpush (h:MH w B x S P ws Q qs gv) (n:Int) (v:Nat):Calls Tryz.prog 37 #[.pointer (some ⟨x,0,none⟩),.int .i64 n,.int .u64 (v:Nat)] w fun e w' => e=.returned (.int .i64 (Re.pushR S n v).1)∧StepS w B x ws qs (Re.pushR S n v).2 w' :=
 (dpush_any B x P ws S.K.L Q qs gv n v w h.dr h.hB h.hg h.l2 h.ls).mono fun e w' hO => by
  obtain ⟨he,qs',h1,h2,h3,h4,h5,h6⟩:=h.rl.push h.gd h.dr hO
  exact ⟨he,P,ws,Q,qs',gv,h1,h2,⟨Nat.le_succ _,h3,h6 h.ne⟩,h4.weak (fun _ h => .inr h),h5⟩
theorem mpop (h:MH w B x S P ws Q qs gv) (n:Int):Calls Tryz.prog 38 #[.pointer (some ⟨x,0,none⟩),.int .i64 n] w fun e w' => e=.returned (.tuple #[.int .u64 ((Re.popR S n).1.1:Nat),.int .i64 (Re.popR S n).1.2])∧StepS w B x ws qs (Re.popR S n).2 w' :=
 (dpop_any B x P ws S.K.L Q qs gv n w h.dr h.hB h.l2 h.ls).mono fun e w' hO => by
  obtain ⟨he,qs',h1,h2,h3,h4,h5,h6⟩:=h.rl.pop h.gd h.dr hO
  exact ⟨he,P,ws,Q,qs',gv,h1,h2,⟨Nat.le_succ _,h3,h6 h.ne⟩,h4.weak (fun _ h => .inr h),h5⟩
theorem filt_sub {α:Type} (p:α→Bool) (l:List α):(l.filter p).length≤l.length + 1∧∀ y ∈ l.filter p,y ∈ l:=⟨Nat.le_trans (List.length_filter_le _ _) (Nat.le_succ _),fun y hy => (List.mem_filter.1 hy).1⟩
theorem commitD_sub (P:PL) (ws:List WI) (L:List LRow) (Q:PL) (qs:List Qu.WI) (gv n:Int):((commitD P ws L Q qs gv n).2.1.2.1.length≤ws.length + 1∧∀ y ∈ (commitD P ws L Q qs gv n).2.1.2.1,y ∈ ws)∧(commitD P ws L Q qs gv n).2.2.2.1.length≤qs.length + 1∧∀ y ∈ (commitD P ws L Q qs gv n).2.2.2.1,y ∈ qs:=by
 refine ⟨?_,?_⟩
 ·show (commitR P ws L n).2.2.1.length≤ws.length + 1∧∀ y ∈ (commitR P ws L n).2.2.1,y ∈ ws
  unfold commitR
  split
  ·exact ⟨Nat.le_succ _,fun y hy => hy⟩
  ·exact filt_sub _ _
 ·unfold commitD
  dsimp only
  split
  ·unfold Qu.commitR
   split
   ·exact ⟨Nat.le_succ _,fun y hy => hy⟩
   ·split
    ·exact ⟨Nat.le_succ _,fun y hy => hy⟩
    ·exact filt_sub _ _
  ·exact ⟨Nat.le_succ _,fun y hy => hy⟩
theorem backD_sub (ws:List WI) (L:List LRow) (qs:List Qu.WI) (n:Int):((backD ws L qs n).2.1.1.length≤ws.length + 1∧∀ y ∈ (backD ws L qs n).2.1.1,y ∈ ws)∧(backD ws L qs n).2.2.length≤qs.length + 1∧∀ y ∈ (backD ws L qs n).2.2,y ∈ qs:=by
 refine ⟨?_,?_⟩
 ·show (backR ws L n).2.1.length≤ws.length + 1∧∀ y ∈ (backR ws L n).2.1,y ∈ ws
  unfold backR
  split
  ·exact ⟨Nat.le_succ _,fun y hy => hy⟩
  ·exact filt_sub _ _
 ·unfold backD
  dsimp only
  split
  ·unfold Qu.backR
   split
   ·exact ⟨Nat.le_succ _,fun y hy => hy⟩
   ·exact filt_sub _ _
  ·exact ⟨Nat.le_succ _,fun y hy => hy⟩
theorem mcommit (h:MH w B x S P ws Q qs gv) (n:Int):Calls Tryz.prog 40 #[.pointer (some ⟨x,0,none⟩),.int .i64 n] w fun e w' => e=.returned (.int .i64 (Re.commitR S n).1)∧StepS w B x ws qs (Re.commitR S n).2 w' :=
 (dcommit_any B x P ws S.K.L Q qs gv n w h.dr h.hB h.rl.K.P (fun c hc => ((h.rl.K.cur_list n).2.1 c hc).2) h.hg.1 (h.hp n)).mono fun e w' ⟨he,hd,hg⟩ => by
  obtain ⟨c1,c2,c3⟩:=h.rl.commit h.gd n
  obtain ⟨⟨s1,s2⟩,s3,s4⟩:=commitD_sub P ws S.K.L Q qs gv n
  rw [c1] at he
  rw [c2] at hd
  exact ⟨he,_,_,_,_,_,hd,c3,⟨s1,s3,fun y hy => h.ne y (s4 y hy)⟩,RJ.of hg,NewA.of (fun y hy r hr => .inl ⟨y,s2 y hy,hr⟩) (fun y hy r hr => .inl ⟨y,s4 y hy,hr⟩)⟩
theorem mback (h:MH w B x S P ws Q qs gv) (n:Int):Calls Tryz.prog 41 #[.pointer (some ⟨x,0,none⟩),.int .i64 n] w fun e w' => e=.returned (.int .i64 (Re.backR S n).1)∧StepS w B x ws qs (Re.backR S n).2 w' :=
 (dback_any B x P ws S.K.L Q qs gv n w h.dr h.hB).mono fun e w' ⟨he,hd,hg⟩ => by
  obtain ⟨c1,c2,c3⟩:=h.rl.back n
  obtain ⟨⟨s1,s2⟩,s3,s4⟩:=backD_sub ws S.K.L qs n
  rw [c1] at he
  rw [c2] at hd
  exact ⟨he,_,_,_,_,_,hd,c3,⟨s1,s3,fun y hy => h.ne y (s4 y hy)⟩,RJ.of hg,NewA.of (fun y hy r hr => .inl ⟨y,s2 y hy,hr⟩) (fun y hy r hr => .inl ⟨y,s4 y hy,hr⟩)⟩
theorem prepE_ne {n:Int} (h:∀ y ∈ qs,y.l≠[]):∀ y ∈ (Qu.prepR qs n).2,y.l≠[]:=by
 intro y hy
 unfold Qu.prepR at hy
 split at hy
 ·exact h y hy
 ·split at hy
  ·rename_i z hz
   rcases turnE_mem hy with hy | rfl
   ·exact h y hy
   ·exact h z (Qu.findW_mem hz).1
  ·exact h y hy
theorem prepE_len {n:Int}:(Qu.prepR qs n).2.length≤qs.length + 1:=by
 unfold Qu.prepR
 split
 ·exact Nat.le_succ _
 ·split
  ·unfold Qu.turnW; rw [List.length_map]; exact Nat.le_succ _
  ·exact Nat.le_succ _
theorem prepD_len {L:List LRow} {n:Int}:(prepR ws L n).2.1.length≤ws.length + 1:=by
 unfold prepR
 split
 ·exact Nat.le_succ _
 ·split
  ·split
   ·exact Nat.le_succ _
   ·split
    ·exact (filt_sub _ _).1
    ·unfold turnW; rw [List.length_map]; exact Nat.le_succ _
  ·exact (filt_sub _ _).1
theorem prepE_list {n:Int} (h:∀ y ∈ qs,y.l.length < 300):(Qu.prepR qs n).1.1.length < 300:=by
 unfold Qu.prepR
 split
 ·exact Nat.zero_lt_succ _
 ·split
  ·rename_i z hz
   exact h z (Qu.findW_mem hz).1
  ·exact Nat.zero_lt_succ _
theorem prepD_list {L:List LRow} {n:Int} (h:∀ y ∈ ws,y.l.length < 300):(prepR ws L n).1.1.length < 300:=by
 unfold prepR
 split
 ·exact Nat.zero_lt_succ _
 ·split
  ·rename_i z hz
   split
   ·exact Nat.zero_lt_succ _
   ·split
    ·exact Nat.zero_lt_succ _
    ·exact h z (findD_mem hz).1
  ·exact Nat.zero_lt_succ _
theorem mprep (h:MH w B x S P ws Q qs gv) (n:Int):Calls Tryz.prog 39 #[.pointer (some ⟨x,0,none⟩),.int .i64 n] w fun e w' => (∃ A q c,e=.returned (.tuple #[.slice A q c,.int .i64 (Re.prepR S n).1.2])∧q=(Re.prepR S n).1.1.length∧OwnC w' w.heap.size A c (Re.prepR S n).1.1)∧StepS w B x ws qs (Re.prepR S n).2 w' :=
 (dprep_any B x P ws S.K.L Q qs gv n w h.dr h.hB (by
  have h1:=prepD_list (L:=S.K.L) (n:=n) (fun y hy => by have:=(h.rl.K.ll y hy).len; omega)
  have h2:=prepE_list (n:=n) h.ls
  omega)).mono fun e w' hO => by
  obtain ⟨A,q,c,he,hq,ho,hd,hj⟩:=hO
  obtain ⟨c1,c2,c3⟩:=h.rl.prep h.gd h.ne n h.dr.pairs.1 h.dr.pairs.2
  rw [c1] at he hq ho
  rw [c2] at hd
  refine ⟨⟨A,q,c,he,hq,ho⟩,_,_,_,_,_,hd,c3,?_,hj.weak (fun _ h => h.elim),?_⟩
  ·unfold prepD
   split
   ·exact ⟨prepD_len,prepE_len,prepE_ne h.ne⟩
   ·exact ⟨Nat.le_succ _,Nat.le_succ _,h.ne⟩
  ·unfold prepD
   split
   ·exact NewA.of (fun y hy r hr => .inl (by obtain ⟨y0,e0,e1⟩:=prepD_mem hy; exact ⟨y0,e0,e1.trans hr⟩)) (fun y hy r hr => .inl (by obtain ⟨y0,e0,e1⟩:=prepE_mem hy; exact ⟨y0,e0,e1.trans hr⟩))
   ·exact NewA.same _ _ _
theorem mrest (h:MH w B x S P ws Q qs gv) {n:Int} (hn:i64ok n) (A:Option Addr) (l:List Ch) (q c:Nat) (hq:Hid (q=l.length)) (hqm:q≤100) (hL:InL w A l):Calls Tryz.prog 42 #[.pointer (some ⟨x,0,none⟩),.int .i64 n,.slice A q c] w fun e w' => e=.returned (.int .i64 (Re.restoreR S n l).1)∧StepS w B x ws qs (Re.restoreR S n l).2 w' :=
 (drestore_any B x P ws S.K.L Q qs gv n A l q c w h.dr h.hB h.l1 h.rl.K.ok h.rl.K.nc hn h.hg h.l2 hq hqm hL).mono fun e w' hO => by
  obtain ⟨he,ws',qs',h1,h2,h3,⟨h4,h5⟩,h6,h7⟩:=h.rl.rest h.gd h.ne hn h.dr hO
  exact ⟨he,P,ws',Q,qs',gv,h1,h2,⟨h3,h4,h5⟩,h6.weak (fun _ h => h.elim),h7⟩
end
end Go.Proofs.YtlliaihmfimdoaaGreat.Dr


namespace Go.Proofs.YtlliaihmfimdoaaGreat.Dr
open Go.RowKit Go.Maps Go.Joins Go.Deep Go.Proofs.YtlliaihmfimdoaaGreat
def MdlO (w:World) (B x:Nat) (ws:List WI) (qs:List Qu.WI) (r:(Nat × Bool × List Ch × Int) × Re.RS) (e:Ending) (w':World):Prop :=
 ∃ A q c,e=.returned (.agg #[.int .u64 (r.1.1:Nat),.bool r.1.2.1,.slice A q c,.int .i64 r.1.2.2.2])∧q=r.1.2.2.1.length∧OwnC w' w.heap.size A c r.1.2.2.1∧StepS w B x ws qs r.2 w'
theorem RJ.new {B0:Nat} {a b c:World} {x r:Nat} {S:Nat→Prop} (h:RJ B0 a b x S) (k:b.grownBy c (some r)) (hr:a.heap.size≤r):RJ B0 a c x S:=by
 have hk:∀ j,j < a.heap.size→c.heap[j]?=b.heap[j]?:=fun j hj => k.block j (Nat.lt_of_lt_of_le hj h.size) (fun e => by injection e; omega)
 exact ⟨k.os.trans h.os,k.tape.trans h.tape,k.output.trans h.output,Nat.le_trans h.size k.size,fun j hb hj hx => (hk j hj).trans (h.low j hb hj hx),fun j hj hx => by rw [hk j hj]; exact h.block j hj hx⟩
theorem StepS.off {w u u':World} {B x b:Nat} {ws:List WI} {qs:List Qu.WI} {S':Re.RS} {ts:Array Value} (h:StepS w B x ws qs S' u) (hg:u.grownBy u' (some b)) (hk:Blk u b 47 ts) (hb:w.heap.size≤b):StepS w B x ws qs S' u':=by
 obtain ⟨P',ws',Q',qs',gv',h1,h2,h3,h4,h5⟩:=h
 exact ⟨P',ws',Q',qs',gv',h1.other hg hk Oth.told,h2,h3,h4.new hg hb,h5⟩
theorem StepS.from {w w3 u:World} {B x:Nat} {ws:List WI} {qs:List Qu.WI} {S':Re.RS} (hb:Below w.heap.size w w3) (h:StepS w3 B x ws qs S' u):StepS w B x ws qs S' u:=by
 obtain ⟨P',ws',Q',qs',gv',h1,h2,h3,h4,h5⟩:=h
 exact ⟨P',ws',Q',qs',gv',h1,h2,h3,(RJ.of (lbelow_grown hb (some x))).trans h4 (fun _ _ h => h),fun r hr => (h5 r hr).imp id (Nat.le_trans hb.size)⟩
structure MT (w u:World) (B x b4 b5:Nat) (ws:List WI) (qs:List Qu.WI) (S':Re.RS) (t4 t5:Array Value):Prop where
 st:StepS w B x ws qs S' u
 k4:Blk u b4 47 t4
 k5:Blk u b5 47 t5
 ne:b4≠b5
 lo:w.heap.size≤b4∧w.heap.size≤b5
theorem MT.set5 {w u:World} {B x b4 b5:Nat} {ws:List WI} {qs:List Qu.WI} {S':Re.RS} {t4 t5:Array Value} (h:MT w u B x b4 b5 ws qs S' t4 t5) (i:Nat) (v:Value):MT w (u.setCell ⟨b5,i,none⟩ v) B x b4 b5 ws qs S' t4 (t5.setIfInBounds i v):=by
 have hg:=lgrown_set u ⟨b5,i,none⟩ v
 exact ⟨h.st.off hg h.k5 h.lo.2,h.k4.kept hg (fun e => h.ne (by injection e)),h.k5.set_ i v,h.ne,h.lo⟩
theorem MT.set4 {w u:World} {B x b4 b5:Nat} {ws:List WI} {qs:List Qu.WI} {S':Re.RS} {t4 t5:Array Value} (h:MT w u B x b4 b5 ws qs S' t4 t5) (i:Nat) (v:Value):MT w (u.setCell ⟨b4,i,none⟩ v) B x b4 b5 ws qs S' (t4.setIfInBounds i v) t5:=by
 have hg:=lgrown_set u ⟨b4,i,none⟩ v
 exact ⟨h.st.off hg h.k4 h.lo.1,h.k4.set_ i v,h.k5.kept hg (fun e => h.ne ((Option.some.inj e).symm)),h.ne,h.lo⟩
theorem MT.mk' {w w3 u:World} {B x:Nat} {ws:List WI} {qs:List Qu.WI} {S':Re.RS} (hx:x < w.heap.size) (b3:Below w.heap.size w w3) (k4:Blk w3 (w.heap.size + 1) 47 #[.int .u64 0,.bool false,.slice none 0 0,.int .i64 0]) (k5:Blk w3 (w.heap.size + 1 + 1) 47 #[.int .u64 0,.bool false,.slice none 0 0,.int .i64 0]) (h:StepS w3 B x ws qs S' u):MT w u B x (w.heap.size + 1) (w.heap.size + 1 + 1) ws qs S' #[.int .u64 0,.bool false,.slice none 0 0,.int .i64 0] #[.int .u64 0,.bool false,.slice none 0 0,.int .i64 0]:=by
 have hs:=h.from b3
 obtain ⟨P',ws',Q',qs',gv',h1,h2,h3,h4,h5⟩:=h
 exact ⟨hs,h4.blk k4 (by omega) ⟨by decide,by decide,by decide,by decide,by decide⟩ (fun e => absurd e (by decide)),h4.blk k5 (by omega) ⟨by decide,by decide,by decide,by decide,by decide⟩ (fun e => absurd e (by decide)),by omega,by omega,by omega⟩
theorem DR.lt {u:World} {B x:Nat} {P Q:PL} {ws:List WI} {L:List LRow} {qs:List Qu.WI} {gv:Int} (h:DR u B x P ws L Q qs gv):x < u.heap.size:=by
 obtain ⟨_,_,_,_,_,_,_,k⟩:=h.ex; exact k.lt
set_option maxRecDepth 100000 in
set_option maxHeartbeats 2000000 in
theorem mdl_get {w:World} {B x:Nat} {S:Re.RS} {P:PL} {ws:List WI} {Q:PL} {qs:List Qu.WI} {gv:Int} (n y:Int) (v:Nat) (A:Option Addr) (q c:Nat) (h:MH w B x S P ws Q qs gv) (hn:i64ok n)  :
  Calls Tryz.prog 13 #[.pointer (some ⟨x,0,none⟩),.agg #[.int .i64 0,.int .i64 n,.int .i64 y,.int .u64 (v:Nat),.slice A q c]] w (MdlO w B x ws qs (((Re.getR S n y).1.1,(Re.getR S n y).1.2.1,[],(Re.getR S n y).1.2.2),(Re.getR S n y).2)):=by
 obtain ⟨w3,hw3,b3,k4,k5⟩:=Re.TS.laid w #[.int .i64 0,.int .i64 n,.int .i64 y,.int .u64 (v:Nat),.slice A q c]
 have hcon:=mget (h.below b3) hn y
 obtain ⟨R,hR⟩:∃ R,R=Re.getR S n y:=⟨_,rfl⟩
 rw [← hR] at hcon ⊢
 obtain ⟨⟨rv,rt,re⟩,rS⟩:=R
 dsimp only at hcon ⊢
 have HP:=Lib.hid hcon
 have HW:=Lib.hid hw3
 have H:=Lib.hid (And.intro h.dr.lt (And.intro b3 (And.intro k4 k5)))
 have HQ:Hid (∀ e w',MdlO w B x ws qs ((rv,rt,[],re),rS) e w' ↔ ∃ A q c,e=.returned (.agg #[.int .u64 (((rv,rt,[],re),rS).1.1:Nat),.bool ((rv,rt,[],re),rS).1.2.1,.slice A q c,.int .i64 ((rv,rt,[],re),rS).1.2.2.2])∧q=((rv,rt,[],re),rS).1.2.2.1.length∧OwnC w' w.heap.size A c ((rv,rt,[],re),rS).1.2.2.1∧StepS w B x ws qs ((rv,rt,[],re),rS).2 w'):=Lib.hid fun _ _ => Iff.rfl
 clear h hw3 b3 k4 k5 hcon hR hn
 go_enter Tryz.func13,Tryz.ntmps13
 go_wp2_with fail
 rw [← HW.out]
 refine HP.out.mono ?_
 rintro e u ⟨rfl,hO⟩
 have T0:=MT.mk' H.out.1 H.out.2.1 H.out.2.2.1 H.out.2.2.2 hO
 have x0:=T0.k5.cell 0
 have x1:=T0.k5.cell 1
 have x2:=T0.k5.cell 2
 have x3:=T0.k5.cell 3
 have z0:=T0.k4.cell 0
 have z1:=T0.k4.cell 1
 have z2:=T0.k4.cell 2
 have z3:=T0.k4.cell 3
 simp only [List.getElem?_toArray,List.getElem?_cons_zero,List.getElem?_cons_succ] at x0 x1 x2 x3 z0 z1 z2 z3
 have f3:=T0.k5.frozen
 have g3:=T0.k4.frozen
 have T9:=(((((((T0.set5 0 (.int .u64 (rv:Nat))).set5 1 (.bool rt)).set5 3 (.int .i64 re)).set4 0 (.int .u64 (rv:Nat))).set4 1 (.bool rt)).set4 2 (.slice none 0 0)).set4 3 (.int .i64 re))
 have r0:=T9.k4.cell 0
 have r1:=T9.k4.cell 1
 have r2:=T9.k4.cell 2
 have r3:=T9.k4.cell 3
 simp only [List.setIfInBounds_toArray,List.set_cons_succ,List.set_cons_zero,List.getElem?_toArray,List.getElem?_cons_zero,List.getElem?_cons_succ] at r0 r1 r2 r3
 have HX:=Lib.hid T9.st
 clear T0 T9 hO
 go_wp2
 refine bodyPost_ret (by simp [results,Tryz.results13,go_sem,r0,r1,r2,r3]; try rfl) rfl ?_
 exact (HQ.out _ _).2 ⟨none,0,0,rfl,rfl,OwnC.nil _ _,HX.out⟩
set_option maxRecDepth 100000 in
set_option maxHeartbeats 2000000 in
theorem mdl_put {w:World} {B x:Nat} {S:Re.RS} {P:PL} {ws:List WI} {Q:PL} {qs:List Qu.WI} {gv:Int} (n y:Int) (v:Nat) (A:Option Addr) (q c:Nat) (h:MH w B x S P ws Q qs gv) (hn:i64ok n)  :
  Calls Tryz.prog 13 #[.pointer (some ⟨x,0,none⟩),.agg #[.int .i64 1,.int .i64 n,.int .i64 y,.int .u64 (v:Nat),.slice A q c]] w (MdlO w B x ws qs ((0,false,[],(Re.putR S n y v).1),(Re.putR S n y v).2)):=by
 obtain ⟨w3,hw3,b3,k4,k5⟩:=Re.TS.laid w #[.int .i64 1,.int .i64 n,.int .i64 y,.int .u64 (v:Nat),.slice A q c]
 have hcon:=mput (h.below b3) hn y v
 obtain ⟨R,hR⟩:∃ R,R=Re.putR S n y v:=⟨_,rfl⟩
 rw [← hR] at hcon ⊢
 obtain ⟨re,rS⟩:=R
 dsimp only at hcon ⊢
 have HP:=Lib.hid hcon
 have HW:=Lib.hid hw3
 have H:=Lib.hid (And.intro h.dr.lt (And.intro b3 (And.intro k4 k5)))
 have HQ:Hid (∀ e w',MdlO w B x ws qs ((0,false,[],re),rS) e w' ↔ ∃ A q c,e=.returned (.agg #[.int .u64 (((0,false,[],re),rS).1.1:Nat),.bool ((0,false,[],re),rS).1.2.1,.slice A q c,.int .i64 ((0,false,[],re),rS).1.2.2.2])∧q=((0,false,[],re),rS).1.2.2.1.length∧OwnC w' w.heap.size A c ((0,false,[],re),rS).1.2.2.1∧StepS w B x ws qs ((0,false,[],re),rS).2 w'):=Lib.hid fun _ _ => Iff.rfl
 clear h hw3 b3 k4 k5 hcon hR hn
 go_enter Tryz.func13,Tryz.ntmps13
 go_wp2_with fail
 rw [← HW.out]
 refine HP.out.mono ?_
 rintro e u ⟨rfl,hO⟩
 have T0:=MT.mk' H.out.1 H.out.2.1 H.out.2.2.1 H.out.2.2.2 hO
 have x0:=T0.k5.cell 0
 have x1:=T0.k5.cell 1
 have x2:=T0.k5.cell 2
 have x3:=T0.k5.cell 3
 have z0:=T0.k4.cell 0
 have z1:=T0.k4.cell 1
 have z2:=T0.k4.cell 2
 have z3:=T0.k4.cell 3
 simp only [List.getElem?_toArray,List.getElem?_cons_zero,List.getElem?_cons_succ] at x0 x1 x2 x3 z0 z1 z2 z3
 have f3:=T0.k5.frozen
 have g3:=T0.k4.frozen
 have T9:=(((((T0.set5 3 (.int .i64 re)).set4 0 (.int .u64 0)).set4 1 (.bool false)).set4 2 (.slice none 0 0)).set4 3 (.int .i64 re))
 have r0:=T9.k4.cell 0
 have r1:=T9.k4.cell 1
 have r2:=T9.k4.cell 2
 have r3:=T9.k4.cell 3
 simp only [List.setIfInBounds_toArray,List.set_cons_succ,List.set_cons_zero,List.getElem?_toArray,List.getElem?_cons_zero,List.getElem?_cons_succ] at r0 r1 r2 r3
 have HX:=Lib.hid T9.st
 clear T0 T9 hO
 go_wp2
 refine bodyPost_ret (by simp [results,Tryz.results13,go_sem,r0,r1,r2,r3]; try rfl) rfl ?_
 exact (HQ.out _ _).2 ⟨none,0,0,rfl,rfl,OwnC.nil _ _,HX.out⟩
set_option maxRecDepth 100000 in
set_option maxHeartbeats 2000000 in
theorem mdl_del {w:World} {B x:Nat} {S:Re.RS} {P:PL} {ws:List WI} {Q:PL} {qs:List Qu.WI} {gv:Int} (n y:Int) (v:Nat) (A:Option Addr) (q c:Nat) (h:MH w B x S P ws Q qs gv) (hn:i64ok n)  :
  Calls Tryz.prog 13 #[.pointer (some ⟨x,0,none⟩),.agg #[.int .i64 2,.int .i64 n,.int .i64 y,.int .u64 (v:Nat),.slice A q c]] w (MdlO w B x ws qs ((0,false,[],(Re.delR S n y).1),(Re.delR S n y).2)):=by
 obtain ⟨w3,hw3,b3,k4,k5⟩:=Re.TS.laid w #[.int .i64 2,.int .i64 n,.int .i64 y,.int .u64 (v:Nat),.slice A q c]
 have hcon:=mdel (h.below b3) hn y
 obtain ⟨R,hR⟩:∃ R,R=Re.delR S n y:=⟨_,rfl⟩
 rw [← hR] at hcon ⊢
 obtain ⟨re,rS⟩:=R
 dsimp only at hcon ⊢
 have HP:=Lib.hid hcon
 have HW:=Lib.hid hw3
 have H:=Lib.hid (And.intro h.dr.lt (And.intro b3 (And.intro k4 k5)))
 have HQ:Hid (∀ e w',MdlO w B x ws qs ((0,false,[],re),rS) e w' ↔ ∃ A q c,e=.returned (.agg #[.int .u64 (((0,false,[],re),rS).1.1:Nat),.bool ((0,false,[],re),rS).1.2.1,.slice A q c,.int .i64 ((0,false,[],re),rS).1.2.2.2])∧q=((0,false,[],re),rS).1.2.2.1.length∧OwnC w' w.heap.size A c ((0,false,[],re),rS).1.2.2.1∧StepS w B x ws qs ((0,false,[],re),rS).2 w'):=Lib.hid fun _ _ => Iff.rfl
 clear h hw3 b3 k4 k5 hcon hR hn
 go_enter Tryz.func13,Tryz.ntmps13
 go_wp2_with fail
 rw [← HW.out]
 refine HP.out.mono ?_
 rintro e u ⟨rfl,hO⟩
 have T0:=MT.mk' H.out.1 H.out.2.1 H.out.2.2.1 H.out.2.2.2 hO
 have x0:=T0.k5.cell 0
 have x1:=T0.k5.cell 1
 have x2:=T0.k5.cell 2
 have x3:=T0.k5.cell 3
 have z0:=T0.k4.cell 0
 have z1:=T0.k4.cell 1
 have z2:=T0.k4.cell 2
 have z3:=T0.k4.cell 3
 simp only [List.getElem?_toArray,List.getElem?_cons_zero,List.getElem?_cons_succ] at x0 x1 x2 x3 z0 z1 z2 z3
 have f3:=T0.k5.frozen
 have g3:=T0.k4.frozen
 have T9:=(((((T0.set5 3 (.int .i64 re)).set4 0 (.int .u64 0)).set4 1 (.bool false)).set4 2 (.slice none 0 0)).set4 3 (.int .i64 re))
 have r0:=T9.k4.cell 0
 have r1:=T9.k4.cell 1
 have r2:=T9.k4.cell 2
 have r3:=T9.k4.cell 3
 simp only [List.setIfInBounds_toArray,List.set_cons_succ,List.set_cons_zero,List.getElem?_toArray,List.getElem?_cons_zero,List.getElem?_cons_succ] at r0 r1 r2 r3
 have HX:=Lib.hid T9.st
 clear T0 T9 hO
 go_wp2
 refine bodyPost_ret (by simp [results,Tryz.results13,go_sem,r0,r1,r2,r3]; try rfl) rfl ?_
 exact (HQ.out _ _).2 ⟨none,0,0,rfl,rfl,OwnC.nil _ _,HX.out⟩
set_option maxRecDepth 100000 in
set_option maxHeartbeats 2000000 in
theorem mdl_push {w:World} {B x:Nat} {S:Re.RS} {P:PL} {ws:List WI} {Q:PL} {qs:List Qu.WI} {gv:Int} (n y:Int) (v:Nat) (A:Option Addr) (q c:Nat) (h:MH w B x S P ws Q qs gv) (hn:i64ok n)  :
  Calls Tryz.prog 13 #[.pointer (some ⟨x,0,none⟩),.agg #[.int .i64 3,.int .i64 n,.int .i64 y,.int .u64 (v:Nat),.slice A q c]] w (MdlO w B x ws qs ((0,false,[],(Re.pushR S n v).1),(Re.pushR S n v).2)):=by
 obtain ⟨w3,hw3,b3,k4,k5⟩:=Re.TS.laid w #[.int .i64 3,.int .i64 n,.int .i64 y,.int .u64 (v:Nat),.slice A q c]
 have hcon:=mpush (h.below b3) n v
 obtain ⟨R,hR⟩:∃ R,R=Re.pushR S n v:=⟨_,rfl⟩
 rw [← hR] at hcon ⊢
 obtain ⟨re,rS⟩:=R
 dsimp only at hcon ⊢
 have HP:=Lib.hid hcon
 have HW:=Lib.hid hw3
 have H:=Lib.hid (And.intro h.dr.lt (And.intro b3 (And.intro k4 k5)))
 have HQ:Hid (∀ e w',MdlO w B x ws qs ((0,false,[],re),rS) e w' ↔ ∃ A q c,e=.returned (.agg #[.int .u64 (((0,false,[],re),rS).1.1:Nat),.bool ((0,false,[],re),rS).1.2.1,.slice A q c,.int .i64 ((0,false,[],re),rS).1.2.2.2])∧q=((0,false,[],re),rS).1.2.2.1.length∧OwnC w' w.heap.size A c ((0,false,[],re),rS).1.2.2.1∧StepS w B x ws qs ((0,false,[],re),rS).2 w'):=Lib.hid fun _ _ => Iff.rfl
 clear h hw3 b3 k4 k5 hcon hR hn
 go_enter Tryz.func13,Tryz.ntmps13
 go_wp2_with fail
 rw [← HW.out]
 refine HP.out.mono ?_
 rintro e u ⟨rfl,hO⟩
 have T0:=MT.mk' H.out.1 H.out.2.1 H.out.2.2.1 H.out.2.2.2 hO
 have x0:=T0.k5.cell 0
 have x1:=T0.k5.cell 1
 have x2:=T0.k5.cell 2
 have x3:=T0.k5.cell 3
 have z0:=T0.k4.cell 0
 have z1:=T0.k4.cell 1
 have z2:=T0.k4.cell 2
 have z3:=T0.k4.cell 3
 simp only [List.getElem?_toArray,List.getElem?_cons_zero,List.getElem?_cons_succ] at x0 x1 x2 x3 z0 z1 z2 z3
 have f3:=T0.k5.frozen
 have g3:=T0.k4.frozen
 have T9:=(((((T0.set5 3 (.int .i64 re)).set4 0 (.int .u64 0)).set4 1 (.bool false)).set4 2 (.slice none 0 0)).set4 3 (.int .i64 re))
 have r0:=T9.k4.cell 0
 have r1:=T9.k4.cell 1
 have r2:=T9.k4.cell 2
 have r3:=T9.k4.cell 3
 simp only [List.setIfInBounds_toArray,List.set_cons_succ,List.set_cons_zero,List.getElem?_toArray,List.getElem?_cons_zero,List.getElem?_cons_succ] at r0 r1 r2 r3
 have HX:=Lib.hid T9.st
 clear T0 T9 hO
 go_wp2
 refine bodyPost_ret (by simp [results,Tryz.results13,go_sem,r0,r1,r2,r3]; try rfl) rfl ?_
 exact (HQ.out _ _).2 ⟨none,0,0,rfl,rfl,OwnC.nil _ _,HX.out⟩
set_option maxRecDepth 100000 in
set_option maxHeartbeats 2000000 in
theorem mdl_pop {w:World} {B x:Nat} {S:Re.RS} {P:PL} {ws:List WI} {Q:PL} {qs:List Qu.WI} {gv:Int} (n y:Int) (v:Nat) (A:Option Addr) (q c:Nat) (h:MH w B x S P ws Q qs gv) (hn:i64ok n)  :
  Calls Tryz.prog 13 #[.pointer (some ⟨x,0,none⟩),.agg #[.int .i64 4,.int .i64 n,.int .i64 y,.int .u64 (v:Nat),.slice A q c]] w (MdlO w B x ws qs (((Re.popR S n).1.1,false,[],(Re.popR S n).1.2),(Re.popR S n).2)):=by
 obtain ⟨w3,hw3,b3,k4,k5⟩:=Re.TS.laid w #[.int .i64 4,.int .i64 n,.int .i64 y,.int .u64 (v:Nat),.slice A q c]
 have hcon:=mpop (h.below b3) n
 obtain ⟨R,hR⟩:∃ R,R=Re.popR S n:=⟨_,rfl⟩
 rw [← hR] at hcon ⊢
 obtain ⟨⟨rv,re⟩,rS⟩:=R
 dsimp only at hcon ⊢
 have HP:=Lib.hid hcon
 have HW:=Lib.hid hw3
 have H:=Lib.hid (And.intro h.dr.lt (And.intro b3 (And.intro k4 k5)))
 have HQ:Hid (∀ e w',MdlO w B x ws qs ((rv,false,[],re),rS) e w' ↔ ∃ A q c,e=.returned (.agg #[.int .u64 (((rv,false,[],re),rS).1.1:Nat),.bool ((rv,false,[],re),rS).1.2.1,.slice A q c,.int .i64 ((rv,false,[],re),rS).1.2.2.2])∧q=((rv,false,[],re),rS).1.2.2.1.length∧OwnC w' w.heap.size A c ((rv,false,[],re),rS).1.2.2.1∧StepS w B x ws qs ((rv,false,[],re),rS).2 w'):=Lib.hid fun _ _ => Iff.rfl
 clear h hw3 b3 k4 k5 hcon hR hn
 go_enter Tryz.func13,Tryz.ntmps13
 go_wp2_with fail
 rw [← HW.out]
 refine HP.out.mono ?_
 rintro e u ⟨rfl,hO⟩
 have T0:=MT.mk' H.out.1 H.out.2.1 H.out.2.2.1 H.out.2.2.2 hO
 have x0:=T0.k5.cell 0
 have x1:=T0.k5.cell 1
 have x2:=T0.k5.cell 2
 have x3:=T0.k5.cell 3
 have z0:=T0.k4.cell 0
 have z1:=T0.k4.cell 1
 have z2:=T0.k4.cell 2
 have z3:=T0.k4.cell 3
 simp only [List.getElem?_toArray,List.getElem?_cons_zero,List.getElem?_cons_succ] at x0 x1 x2 x3 z0 z1 z2 z3
 have f3:=T0.k5.frozen
 have g3:=T0.k4.frozen
 have T9:=((((((T0.set5 0 (.int .u64 (rv:Nat))).set5 3 (.int .i64 re)).set4 0 (.int .u64 (rv:Nat))).set4 1 (.bool false)).set4 2 (.slice none 0 0)).set4 3 (.int .i64 re))
 have r0:=T9.k4.cell 0
 have r1:=T9.k4.cell 1
 have r2:=T9.k4.cell 2
 have r3:=T9.k4.cell 3
 simp only [List.setIfInBounds_toArray,List.set_cons_succ,List.set_cons_zero,List.getElem?_toArray,List.getElem?_cons_zero,List.getElem?_cons_succ] at r0 r1 r2 r3
 have HX:=Lib.hid T9.st
 clear T0 T9 hO
 go_wp2
 refine bodyPost_ret (by simp [results,Tryz.results13,go_sem,r0,r1,r2,r3]; try rfl) rfl ?_
 exact (HQ.out _ _).2 ⟨none,0,0,rfl,rfl,OwnC.nil _ _,HX.out⟩
set_option maxRecDepth 100000 in
set_option maxHeartbeats 2000000 in
theorem mdl_prep {w:World} {B x:Nat} {S:Re.RS} {P:PL} {ws:List WI} {Q:PL} {qs:List Qu.WI} {gv:Int} (n y:Int) (v:Nat) (A:Option Addr) (q c:Nat) (h:MH w B x S P ws Q qs gv) (hn:i64ok n)  :
  Calls Tryz.prog 13 #[.pointer (some ⟨x,0,none⟩),.agg #[.int .i64 5,.int .i64 n,.int .i64 y,.int .u64 (v:Nat),.slice A q c]] w (MdlO w B x ws qs ((0,false,(Re.prepR S n).1.1,(Re.prepR S n).1.2),(Re.prepR S n).2)):=by
 obtain ⟨w3,hw3,b3,k4,k5⟩:=Re.TS.laid w #[.int .i64 5,.int .i64 n,.int .i64 y,.int .u64 (v:Nat),.slice A q c]
 have hcon:=mprep (h.below b3) n
 obtain ⟨R,hR⟩:∃ R,R=Re.prepR S n:=⟨_,rfl⟩
 rw [← hR] at hcon ⊢
 obtain ⟨⟨rl,re⟩,rS⟩:=R
 dsimp only at hcon ⊢
 have HP:=Lib.hid hcon
 have HW:=Lib.hid hw3
 have H:=Lib.hid (And.intro h.dr.lt (And.intro b3 (And.intro k4 k5)))
 have HQ:Hid (∀ e w',MdlO w B x ws qs ((0,false,rl,re),rS) e w' ↔ ∃ A q c,e=.returned (.agg #[.int .u64 (((0,false,rl,re),rS).1.1:Nat),.bool ((0,false,rl,re),rS).1.2.1,.slice A q c,.int .i64 ((0,false,rl,re),rS).1.2.2.2])∧q=((0,false,rl,re),rS).1.2.2.1.length∧OwnC w' w.heap.size A c ((0,false,rl,re),rS).1.2.2.1∧StepS w B x ws qs ((0,false,rl,re),rS).2 w'):=Lib.hid fun _ _ => Iff.rfl
 clear h hw3 b3 k4 k5 hcon hR hn
 go_enter Tryz.func13,Tryz.ntmps13
 go_wp2_with fail
 rw [← HW.out]
 refine HP.out.mono ?_
 rintro e u ⟨⟨A5,q5,c5,rfl,hq5,own⟩,hO⟩
 have T0:=MT.mk' H.out.1 H.out.2.1 H.out.2.2.1 H.out.2.2.2 hO
 have x0:=T0.k5.cell 0
 have x1:=T0.k5.cell 1
 have x2:=T0.k5.cell 2
 have x3:=T0.k5.cell 3
 have z0:=T0.k4.cell 0
 have z1:=T0.k4.cell 1
 have z2:=T0.k4.cell 2
 have z3:=T0.k4.cell 3
 simp only [List.getElem?_toArray,List.getElem?_cons_zero,List.getElem?_cons_succ] at x0 x1 x2 x3 z0 z1 z2 z3
 have f3:=T0.k5.frozen
 have g3:=T0.k4.frozen
 have T9:=((((((T0.set5 2 (.slice A5 q5 c5)).set5 3 (.int .i64 re)).set4 0 (.int .u64 0)).set4 1 (.bool false)).set4 2 (.slice A5 q5 c5)).set4 3 (.int .i64 re))
 have r0:=T9.k4.cell 0
 have r1:=T9.k4.cell 1
 have r2:=T9.k4.cell 2
 have r3:=T9.k4.cell 3
 simp only [List.setIfInBounds_toArray,List.set_cons_succ,List.set_cons_zero,List.getElem?_toArray,List.getElem?_cons_zero,List.getElem?_cons_succ] at r0 r1 r2 r3
 have hlo:=H.out.2.1.size
 have hl3:w.heap.size + 1 + 1 < w3.heap.size:=H.out.2.2.2.lt
 have kp:∀ {u:World} (b i:Nat) (x:Value),OwnC u w3.heap.size A5 c5 rl→b < w3.heap.size→OwnC (u.setCell ⟨b,i,none⟩ x) w3.heap.size A5 c5 rl:=fun {u} b i x ho hb => ho.kept (lgrown_set u ⟨b,i,none⟩ x) (fun r e => by cases e; exact hb)
 have own9:=(kp (w.heap.size + 1) 3 (.int .i64 re) (kp (w.heap.size + 1) 2 (.slice A5 q5 c5) (kp (w.heap.size + 1) 1 (.bool false) (kp (w.heap.size + 1) 0 (.int .u64 0) (kp (w.heap.size + 1 + 1) 3 (.int .i64 re) (kp (w.heap.size + 1 + 1) 2 (.slice A5 q5 c5) own (by omega)) (by omega)) (by omega)) (by omega)) (by omega)) (by omega))
 have HX:=Lib.hid (And.intro hq5 (And.intro (own9.less hlo) T9.st))
 clear T0 T9 hO own own9 hq5 hlo hl3
 go_wp2
 refine bodyPost_ret (by simp [results,Tryz.results13,go_sem,r0,r1,r2,r3]; try rfl) rfl ?_
 exact (HQ.out _ _).2 ⟨A5,q5,c5,rfl,HX.out.1,HX.out.2.1,HX.out.2.2⟩
set_option maxRecDepth 100000 in
set_option maxHeartbeats 2000000 in
theorem mdl_commit {w:World} {B x:Nat} {S:Re.RS} {P:PL} {ws:List WI} {Q:PL} {qs:List Qu.WI} {gv:Int} (n y:Int) (v:Nat) (A:Option Addr) (q c:Nat) (h:MH w B x S P ws Q qs gv) (hn:i64ok n)  :
  Calls Tryz.prog 13 #[.pointer (some ⟨x,0,none⟩),.agg #[.int .i64 6,.int .i64 n,.int .i64 y,.int .u64 (v:Nat),.slice A q c]] w (MdlO w B x ws qs ((0,false,[],(Re.commitR S n).1),(Re.commitR S n).2)):=by
 obtain ⟨w3,hw3,b3,k4,k5⟩:=Re.TS.laid w #[.int .i64 6,.int .i64 n,.int .i64 y,.int .u64 (v:Nat),.slice A q c]
 have hcon:=mcommit (h.below b3) n
 obtain ⟨R,hR⟩:∃ R,R=Re.commitR S n:=⟨_,rfl⟩
 rw [← hR] at hcon ⊢
 obtain ⟨re,rS⟩:=R
 dsimp only at hcon ⊢
 have HP:=Lib.hid hcon
 have HW:=Lib.hid hw3
 have H:=Lib.hid (And.intro h.dr.lt (And.intro b3 (And.intro k4 k5)))
 have HQ:Hid (∀ e w',MdlO w B x ws qs ((0,false,[],re),rS) e w' ↔ ∃ A q c,e=.returned (.agg #[.int .u64 (((0,false,[],re),rS).1.1:Nat),.bool ((0,false,[],re),rS).1.2.1,.slice A q c,.int .i64 ((0,false,[],re),rS).1.2.2.2])∧q=((0,false,[],re),rS).1.2.2.1.length∧OwnC w' w.heap.size A c ((0,false,[],re),rS).1.2.2.1∧StepS w B x ws qs ((0,false,[],re),rS).2 w'):=Lib.hid fun _ _ => Iff.rfl
 clear h hw3 b3 k4 k5 hcon hR hn
 go_enter Tryz.func13,Tryz.ntmps13
 go_wp2_with fail
 rw [← HW.out]
 refine HP.out.mono ?_
 rintro e u ⟨rfl,hO⟩
 have T0:=MT.mk' H.out.1 H.out.2.1 H.out.2.2.1 H.out.2.2.2 hO
 have x0:=T0.k5.cell 0
 have x1:=T0.k5.cell 1
 have x2:=T0.k5.cell 2
 have x3:=T0.k5.cell 3
 have z0:=T0.k4.cell 0
 have z1:=T0.k4.cell 1
 have z2:=T0.k4.cell 2
 have z3:=T0.k4.cell 3
 simp only [List.getElem?_toArray,List.getElem?_cons_zero,List.getElem?_cons_succ] at x0 x1 x2 x3 z0 z1 z2 z3
 have f3:=T0.k5.frozen
 have g3:=T0.k4.frozen
 have T9:=(((((T0.set5 3 (.int .i64 re)).set4 0 (.int .u64 0)).set4 1 (.bool false)).set4 2 (.slice none 0 0)).set4 3 (.int .i64 re))
 have r0:=T9.k4.cell 0
 have r1:=T9.k4.cell 1
 have r2:=T9.k4.cell 2
 have r3:=T9.k4.cell 3
 simp only [List.setIfInBounds_toArray,List.set_cons_succ,List.set_cons_zero,List.getElem?_toArray,List.getElem?_cons_zero,List.getElem?_cons_succ] at r0 r1 r2 r3
 have HX:=Lib.hid T9.st
 clear T0 T9 hO
 go_wp2
 refine bodyPost_ret (by simp [results,Tryz.results13,go_sem,r0,r1,r2,r3]; try rfl) rfl ?_
 exact (HQ.out _ _).2 ⟨none,0,0,rfl,rfl,OwnC.nil _ _,HX.out⟩
set_option maxRecDepth 100000 in
set_option maxHeartbeats 2000000 in
theorem mdl_back {w:World} {B x:Nat} {S:Re.RS} {P:PL} {ws:List WI} {Q:PL} {qs:List Qu.WI} {gv:Int} (n y:Int) (v:Nat) (A:Option Addr) (q c:Nat) (h:MH w B x S P ws Q qs gv) (hn:i64ok n)  :
  Calls Tryz.prog 13 #[.pointer (some ⟨x,0,none⟩),.agg #[.int .i64 7,.int .i64 n,.int .i64 y,.int .u64 (v:Nat),.slice A q c]] w (MdlO w B x ws qs ((0,false,[],(Re.backR S n).1),(Re.backR S n).2)):=by
 obtain ⟨w3,hw3,b3,k4,k5⟩:=Re.TS.laid w #[.int .i64 7,.int .i64 n,.int .i64 y,.int .u64 (v:Nat),.slice A q c]
 have hcon:=mback (h.below b3) n
 obtain ⟨R,hR⟩:∃ R,R=Re.backR S n:=⟨_,rfl⟩
 rw [← hR] at hcon ⊢
 obtain ⟨re,rS⟩:=R
 dsimp only at hcon ⊢
 have HP:=Lib.hid hcon
 have HW:=Lib.hid hw3
 have H:=Lib.hid (And.intro h.dr.lt (And.intro b3 (And.intro k4 k5)))
 have HQ:Hid (∀ e w',MdlO w B x ws qs ((0,false,[],re),rS) e w' ↔ ∃ A q c,e=.returned (.agg #[.int .u64 (((0,false,[],re),rS).1.1:Nat),.bool ((0,false,[],re),rS).1.2.1,.slice A q c,.int .i64 ((0,false,[],re),rS).1.2.2.2])∧q=((0,false,[],re),rS).1.2.2.1.length∧OwnC w' w.heap.size A c ((0,false,[],re),rS).1.2.2.1∧StepS w B x ws qs ((0,false,[],re),rS).2 w'):=Lib.hid fun _ _ => Iff.rfl
 clear h hw3 b3 k4 k5 hcon hR hn
 go_enter Tryz.func13,Tryz.ntmps13
 go_wp2_with fail
 rw [← HW.out]
 refine HP.out.mono ?_
 rintro e u ⟨rfl,hO⟩
 have T0:=MT.mk' H.out.1 H.out.2.1 H.out.2.2.1 H.out.2.2.2 hO
 have x0:=T0.k5.cell 0
 have x1:=T0.k5.cell 1
 have x2:=T0.k5.cell 2
 have x3:=T0.k5.cell 3
 have z0:=T0.k4.cell 0
 have z1:=T0.k4.cell 1
 have z2:=T0.k4.cell 2
 have z3:=T0.k4.cell 3
 simp only [List.getElem?_toArray,List.getElem?_cons_zero,List.getElem?_cons_succ] at x0 x1 x2 x3 z0 z1 z2 z3
 have f3:=T0.k5.frozen
 have g3:=T0.k4.frozen
 have T9:=(((((T0.set5 3 (.int .i64 re)).set4 0 (.int .u64 0)).set4 1 (.bool false)).set4 2 (.slice none 0 0)).set4 3 (.int .i64 re))
 have r0:=T9.k4.cell 0
 have r1:=T9.k4.cell 1
 have r2:=T9.k4.cell 2
 have r3:=T9.k4.cell 3
 simp only [List.setIfInBounds_toArray,List.set_cons_succ,List.set_cons_zero,List.getElem?_toArray,List.getElem?_cons_zero,List.getElem?_cons_succ] at r0 r1 r2 r3
 have HX:=Lib.hid T9.st
 clear T0 T9 hO
 go_wp2
 refine bodyPost_ret (by simp [results,Tryz.results13,go_sem,r0,r1,r2,r3]; try rfl) rfl ?_
 exact (HQ.out _ _).2 ⟨none,0,0,rfl,rfl,OwnC.nil _ _,HX.out⟩
set_option maxRecDepth 100000 in
set_option maxHeartbeats 2000000 in
theorem mdl_restore {w:World} {B x:Nat} {S:Re.RS} {P:PL} {ws:List WI} {Q:PL} {qs:List Qu.WI} {gv:Int} (n y:Int) (v:Nat) (A:Option Addr) (q c:Nat) (h:MH w B x S P ws Q qs gv) (hn:i64ok n) (l:List Ch) (hq:Hid (q=l.length)) (hqm:q≤100) (hL:InL w A l) :
  Calls Tryz.prog 13 #[.pointer (some ⟨x,0,none⟩),.agg #[.int .i64 8,.int .i64 n,.int .i64 y,.int .u64 (v:Nat),.slice A q c]] w (MdlO w B x ws qs ((0,false,[],(Re.restoreR S n l).1),(Re.restoreR S n l).2)):=by
 obtain ⟨w3,hw3,b3,k4,k5⟩:=Re.TS.laid w #[.int .i64 8,.int .i64 n,.int .i64 y,.int .u64 (v:Nat),.slice A q c]
 have hcon:=mrest (h.below b3) hn A l q c hq hqm (hL.below b3)
 obtain ⟨R,hR⟩:∃ R,R=Re.restoreR S n l:=⟨_,rfl⟩
 rw [← hR] at hcon ⊢
 obtain ⟨re,rS⟩:=R
 dsimp only at hcon ⊢
 have HP:=Lib.hid hcon
 have HW:=Lib.hid hw3
 have H:=Lib.hid (And.intro h.dr.lt (And.intro b3 (And.intro k4 k5)))
 have HQ:Hid (∀ e w',MdlO w B x ws qs ((0,false,[],re),rS) e w' ↔ ∃ A q c,e=.returned (.agg #[.int .u64 (((0,false,[],re),rS).1.1:Nat),.bool ((0,false,[],re),rS).1.2.1,.slice A q c,.int .i64 ((0,false,[],re),rS).1.2.2.2])∧q=((0,false,[],re),rS).1.2.2.1.length∧OwnC w' w.heap.size A c ((0,false,[],re),rS).1.2.2.1∧StepS w B x ws qs ((0,false,[],re),rS).2 w'):=Lib.hid fun _ _ => Iff.rfl
 clear h hw3 b3 k4 k5 hcon hR hn hL
 go_enter Tryz.func13,Tryz.ntmps13
 go_wp2_with fail
 rw [← HW.out]
 refine HP.out.mono ?_
 rintro e u ⟨rfl,hO⟩
 have T0:=MT.mk' H.out.1 H.out.2.1 H.out.2.2.1 H.out.2.2.2 hO
 have x0:=T0.k5.cell 0
 have x1:=T0.k5.cell 1
 have x2:=T0.k5.cell 2
 have x3:=T0.k5.cell 3
 have z0:=T0.k4.cell 0
 have z1:=T0.k4.cell 1
 have z2:=T0.k4.cell 2
 have z3:=T0.k4.cell 3
 simp only [List.getElem?_toArray,List.getElem?_cons_zero,List.getElem?_cons_succ] at x0 x1 x2 x3 z0 z1 z2 z3
 have f3:=T0.k5.frozen
 have g3:=T0.k4.frozen
 have T9:=(((((T0.set5 3 (.int .i64 re)).set4 0 (.int .u64 0)).set4 1 (.bool false)).set4 2 (.slice none 0 0)).set4 3 (.int .i64 re))
 have r0:=T9.k4.cell 0
 have r1:=T9.k4.cell 1
 have r2:=T9.k4.cell 2
 have r3:=T9.k4.cell 3
 simp only [List.setIfInBounds_toArray,List.set_cons_succ,List.set_cons_zero,List.getElem?_toArray,List.getElem?_cons_zero,List.getElem?_cons_succ] at r0 r1 r2 r3
 have HX:=Lib.hid T9.st
 clear T0 T9 hO
 go_wp2
 refine bodyPost_ret (by simp [results,Tryz.results13,go_sem,r0,r1,r2,r3]; try rfl) rfl ?_
 exact (HQ.out _ _).2 ⟨none,0,0,rfl,rfl,OwnC.nil _ _,HX.out⟩
set_option maxRecDepth 100000 in
set_option maxHeartbeats 2000000 in
theorem mdl_other {w:World} {B x:Nat} {S:Re.RS} {P:PL} {ws:List WI} {Q:PL} {qs:List Qu.WI} {gv:Int} (k n y:Int) (v:Nat) (A:Option Addr) (q c:Nat) (h:MH w B x S P ws Q qs gv) (hk:k < 0∨8 < k) :
  Calls Tryz.prog 13 #[.pointer (some ⟨x,0,none⟩),.agg #[.int .i64 k,.int .i64 n,.int .i64 y,.int .u64 (v:Nat),.slice A q c]] w (MdlO w B x ws qs ((0,false,[],0),S)):=by
 have e0:(k == 0)=false:=beq_eq_false_iff_ne.2 (by omega)
 have e1:(k == 1)=false:=beq_eq_false_iff_ne.2 (by omega)
 have e2:(k == 2)=false:=beq_eq_false_iff_ne.2 (by omega)
 have e3:(k == 3)=false:=beq_eq_false_iff_ne.2 (by omega)
 have e4:(k == 4)=false:=beq_eq_false_iff_ne.2 (by omega)
 have e5:(k == 5)=false:=beq_eq_false_iff_ne.2 (by omega)
 have e6:(k == 6)=false:=beq_eq_false_iff_ne.2 (by omega)
 have e7:(k == 7)=false:=beq_eq_false_iff_ne.2 (by omega)
 have e8:(k == 8)=false:=beq_eq_false_iff_ne.2 (by omega)
 obtain ⟨w3,hw3,b3,k4,k5⟩:=Re.TS.laid w #[.int .i64 k,.int .i64 n,.int .i64 y,.int .u64 (v:Nat),.slice A q c]
 have T0:=MT.mk' h.dr.lt b3 k4 k5 (StepS.same (h.below b3) (Below.refl _ _))
 have d:∀ i,w3.cell? ⟨w.heap.size,i,none⟩=(#[.int .i64 k,.int .i64 n,.int .i64 y,.int .u64 (v:Nat),.slice A q c]:Array Value)[i]?:=by
  intro i
  have h1:=Blk.new w 42 #[.int .i64 k,.int .i64 n,.int .i64 y,.int .u64 (v:Nat),.slice A q c]
  rw [hw3]
  exact (((h1.below (ba _ (.cells #[.int .u64 0,.bool false,.slice none 0 0,.int .i64 0] 47)) h1.lt).below (ba _ (.cells #[.int .u64 0,.bool false,.slice none 0 0,.int .i64 0] 47)) (h1.below (ba _ (.cells #[.int .u64 0,.bool false,.slice none 0 0,.int .i64 0] 47)) h1.lt).lt)).cell i
 have r0:=T0.k4.cell 0
 have r1:=T0.k4.cell 1
 have r2:=T0.k4.cell 2
 have r3:=T0.k4.cell 3
 have d0:=d 0
 simp only [List.getElem?_toArray,List.getElem?_cons_zero,List.getElem?_cons_succ] at r0 r1 r2 r3 d0
 have HX:=Lib.hid T0.st
 have HQ:Hid (∀ e w',MdlO w B x ws qs ((0,false,[],0),S) e w' ↔ ∃ A q c,e=.returned (.agg #[.int .u64 (0:Nat),.bool false,.slice A q c,.int .i64 0])∧q=0∧OwnC w' w.heap.size A c []∧StepS w B x ws qs S w'):=Lib.hid fun _ _ => Iff.rfl
 rw [hw3] at r0 r1 r2 r3 d0 HX
 clear h hw3 b3 k4 k5 T0 d hk
 go_enter Tryz.func13,Tryz.ntmps13
 go_wp2
 refine bodyPost_ret (by simp [results,Tryz.results13,go_sem,r0,r1,r2,r3]; try rfl) rfl ?_
 exact (HQ.out _ _).2 ⟨none,0,0,rfl,rfl,OwnC.nil _ _,HX.out⟩
theorem mdl_any {w:World} {B x:Nat} {S:Re.RS} {P:PL} {ws:List WI} {Q:PL} {qs:List Qu.WI} {gv:Int} (o:OpV) (h:MH w B x S P ws Q qs gv) (hn:i64ok o.n) (hl:o.k=8→o.l.length≤100) (hL:o.k=8→InL w o.A o.l) :
  Calls Tryz.prog 13 #[.pointer (some ⟨x,0,none⟩),o.val] w (MdlO w B x ws qs (Re.callR S o)):=by
 obtain ⟨k,n,y,v,A,l,c⟩:=o
 dsimp only at hn hl hL
 show Calls Tryz.prog _ #[.pointer (some ⟨x,0,none⟩),.agg #[.int .i64 k,.int .i64 n,.int .i64 y,.int .u64 (v:Nat),.slice A l.length c]] w _
 unfold Re.callR
 dsimp only
 by_cases e0:k=0
 ·subst e0
  rw [if_pos rfl]
  exact mdl_get n y v A l.length c h hn
 by_cases e1:k=1
 ·subst e1
  rw [if_neg (by decide),if_pos rfl]
  exact mdl_put n y v A l.length c h hn
 by_cases e2:k=2
 ·subst e2
  rw [if_neg (by decide),if_neg (by decide),if_pos rfl]
  exact mdl_del n y v A l.length c h hn
 by_cases e3:k=3
 ·subst e3
  rw [if_neg (by decide),if_neg (by decide),if_neg (by decide),if_pos rfl]
  exact mdl_push n y v A l.length c h hn
 by_cases e4:k=4
 ·subst e4
  rw [if_neg (by decide),if_neg (by decide),if_neg (by decide),if_neg (by decide),if_pos rfl]
  exact mdl_pop n y v A l.length c h hn
 by_cases e5:k=5
 ·subst e5
  rw [if_neg (by decide),if_neg (by decide),if_neg (by decide),if_neg (by decide),if_neg (by decide),if_pos rfl]
  exact mdl_prep n y v A l.length c h hn
 by_cases e6:k=6
 ·subst e6
  rw [if_neg (by decide),if_neg (by decide),if_neg (by decide),if_neg (by decide),if_neg (by decide),if_neg (by decide),if_pos rfl]
  exact mdl_commit n y v A l.length c h hn
 by_cases e7:k=7
 ·subst e7
  rw [if_neg (by decide),if_neg (by decide),if_neg (by decide),if_neg (by decide),if_neg (by decide),if_neg (by decide),if_neg (by decide),if_pos rfl]
  exact mdl_back n y v A l.length c h hn
 by_cases e8:k=8
 ·subst e8
  rw [if_neg (by decide),if_neg (by decide),if_neg (by decide),if_neg (by decide),if_neg (by decide),if_neg (by decide),if_neg (by decide),if_neg (by decide),if_pos rfl]
  exact mdl_restore n y v A l.length c h hn l (Lib.hid rfl) (hl rfl) (hL rfl)
 rw [if_neg e0,if_neg e1,if_neg e2,if_neg e3,if_neg e4,if_neg e5,if_neg e6,if_neg e7,if_neg e8]
 exact mdl_other k n y v A l.length c h (by omega)
end Go.Proofs.YtlliaihmfimdoaaGreat.Dr


namespace Go.Proofs.YtlliaihmfimdoaaGreat.Re
open Go.RowKit Go.Maps Go.Deep Go.Proofs.YtlliaihmfimdoaaGreat
set_option maxRecDepth 100000 in
set_option maxHeartbeats 2000000 in
theorem call_other (g:Nat) (cs:Array Value) (S:RS) (N:Nat) (k n y:Int) (v:Nat) (A:Option Addr) (q c:Nat) (w:World) (h:ResAt w g cs S N) (hk:k < 0∨8 < k) :
  Calls Tryz.prog 12 #[.pointer (some ⟨g,0,none⟩),.agg #[.int .i64 k,.int .i64 n,.int .i64 y,.int .u64 (v:Nat),.slice A q c]] w (CallO w g N ((0,false,[],0),S)):=by
 have e0:(k == 0)=false:=beq_eq_false_iff_ne.2 (by omega)
 have e1:(k == 1)=false:=beq_eq_false_iff_ne.2 (by omega)
 have e2:(k == 2)=false:=beq_eq_false_iff_ne.2 (by omega)
 have e3:(k == 3)=false:=beq_eq_false_iff_ne.2 (by omega)
 have e4:(k == 4)=false:=beq_eq_false_iff_ne.2 (by omega)
 have e5:(k == 5)=false:=beq_eq_false_iff_ne.2 (by omega)
 have e6:(k == 6)=false:=beq_eq_false_iff_ne.2 (by omega)
 have e7:(k == 7)=false:=beq_eq_false_iff_ne.2 (by omega)
 have e8:(k == 8)=false:=beq_eq_false_iff_ne.2 (by omega)
 obtain ⟨w3,hw3,b3,k4,k5⟩:=TS.laid w #[.int .i64 k,.int .i64 n,.int .i64 y,.int .u64 (v:Nat),.slice A q c]
 have hO:ResO w3 g S (N + 4) w3:=ResO.same ((h.below b3).more (by omega)) (Below.refl _ _)
 have T0:=TS.mk' h.lt b3 k4 k5 hO (Nat.le_refl _)
 have d:∀ i,w3.cell? ⟨w.heap.size,i,none⟩=(#[.int .i64 k,.int .i64 n,.int .i64 y,.int .u64 (v:Nat),.slice A q c]:Array Value)[i]?:=by
  intro i
  have h1:=Blk.new w 42 #[.int .i64 k,.int .i64 n,.int .i64 y,.int .u64 (v:Nat),.slice A q c]
  rw [hw3]
  exact (((h1.below (ba _ (.cells #[.int .u64 0,.bool false,.slice none 0 0,.int .i64 0] 47)) h1.lt).below (ba _ (.cells #[.int .u64 0,.bool false,.slice none 0 0,.int .i64 0] 47)) (h1.below (ba _ (.cells #[.int .u64 0,.bool false,.slice none 0 0,.int .i64 0] 47)) h1.lt).lt)).cell i
 have r0:=T0.k4.cell 0
 have r1:=T0.k4.cell 1
 have r2:=T0.k4.cell 2
 have r3:=T0.k4.cell 3
 have d0:=d 0
 simp only [List.getElem?_toArray,List.getElem?_cons_zero,List.getElem?_cons_succ] at r0 r1 r2 r3 d0
 have HX:=Lib.hid (show ResO w g S (N + 4) w3 from ⟨T0.ra,T0.gr⟩)
 have HQ:Hid (∀ e w',CallO w g N ((0,false,[],0),S) e w' ↔ ∃ A q c,e=.returned (.agg #[.int .u64 (0:Nat),.bool false,.slice A q c,.int .i64 0])∧q=0∧OwnC w' w.heap.size A c []∧ResO w g S (N + 4) w'):=Lib.hid fun _ _ => Iff.rfl
 rw [hw3] at r0 r1 r2 r3 d0 HX
 clear h hw3 b3 k4 k5 hO T0 d hk
 go_enter Tryz.func12,Tryz.ntmps12
 go_wp2
 refine bodyPost_ret (by simp [results,Tryz.results12,go_sem,r0,r1,r2,r3]; try rfl) rfl ?_
 exact (HQ.out _ _).2 ⟨none,0,0,rfl,rfl,OwnC.nil _ _,HX.out⟩
theorem kprep_len {w:World} {g N:Nat} {tt:TypeId} {cs:Array Value} {S:KS} (h:KvAt w g tt cs S N) (n:Int):(prepM S n).1.1.length≤N:=by
 unfold prepM
 split
 ·exact Nat.zero_le _
 ·split
  ·exact Nat.zero_le _
  ·split
   ·exact Nat.zero_le _
   ·show (curW S n).1.length≤N
    unfold curW
    rcases hW:S.W n with _ | ⟨l,p⟩
    ·exact Nat.zero_le _
    ·exact (h.le n l p hW).1
theorem qprep_len {w:World} {g of N:Nat} {tt:TypeId} {cs:Array Value} {S:Qu.QS} (h:Qu.QAt w g of tt cs S N) (n:Int):(Qu.prepM S n).1.1.length≤N:=by
 unfold Qu.prepM
 split
 ·exact Nat.zero_le _
 ·split
  ·exact Nat.zero_le _
  ·exact h.cur_len n
theorem call_any (g:Nat) (cs:Array Value) (S:RS) (N:Nat) (o:OpV) (w:World) (h:ResAt w g cs S N) (hN:N < 190000) (hok:Qu.QOk S.Q) (hn:i64ok o.n) (hy:i64ok o.y) (hcap:o.l.length≤o.c∧o.c≤9223372036854775807) (hl:o.k=8→o.l.length≤N + 1) (hL:o.k=8→∀ u,w.grownBy u (some g)→InL u o.A o.l) (hBK:∀ b,w.heap.size≤b→S.K.B b) (hBQ:∀ b,w.heap.size≤b→S.Q.B b) :
  Calls Tryz.prog 12 #[.pointer (some ⟨g,0,none⟩),o.val] w (CallO w g N (callR S o)):=by
 obtain ⟨k,n,y,v,A,l,c⟩:=o
 dsimp only at hn hy hcap hl hL
 show Calls Tryz.prog _ #[.pointer (some ⟨g,0,none⟩),.agg #[.int .i64 k,.int .i64 n,.int .i64 y,.int .u64 (v:Nat),.slice A l.length c]] w _
 unfold callR
 dsimp only
 by_cases e0:k=0
 ·subst e0
  rw [if_pos rfl]
  exact call_get g cs S N n y v A l.length c w h hN hn hy
 by_cases e1:k=1
 ·subst e1
  rw [if_neg (by decide),if_pos rfl]
  exact call_put g cs S N n y v A l.length c w h hN hn hy hBK
 by_cases e2:k=2
 ·subst e2
  rw [if_neg (by decide),if_neg (by decide),if_pos rfl]
  exact call_del g cs S N n y v A l.length c w h hN hn hy hBK
 by_cases e3:k=3
 ·subst e3
  rw [if_neg (by decide),if_neg (by decide),if_neg (by decide),if_pos rfl]
  exact call_push g cs S N n y v A l.length c w h hN hn hBQ
 by_cases e4:k=4
 ·subst e4
  rw [if_neg (by decide),if_neg (by decide),if_neg (by decide),if_neg (by decide),if_pos rfl]
  exact call_pop g cs S N n y v A l.length c w h hN hn hBQ
 by_cases e5:k=5
 ·subst e5
  rw [if_neg (by decide),if_neg (by decide),if_neg (by decide),if_neg (by decide),if_neg (by decide),if_pos rfl]
  exact call_prep g cs S N n y v A l.length c w h hN hn ⟨Nat.le_trans (kprep_len h.kv n) (by omega),Nat.le_trans (qprep_len h.qu n) (by omega)⟩
 by_cases e6:k=6
 ·subst e6
  rw [if_neg (by decide),if_neg (by decide),if_neg (by decide),if_neg (by decide),if_neg (by decide),if_neg (by decide),if_pos rfl]
  exact call_commit g cs S N n y v A l.length c w h hN hn hok
 by_cases e7:k=7
 ·subst e7
  rw [if_neg (by decide),if_neg (by decide),if_neg (by decide),if_neg (by decide),if_neg (by decide),if_neg (by decide),if_neg (by decide),if_pos rfl]
  exact call_back g cs S N n y v A l.length c w h hN hn
 by_cases e8:k=8
 ·subst e8
  rw [if_neg (by decide),if_neg (by decide),if_neg (by decide),if_neg (by decide),if_neg (by decide),if_neg (by decide),if_neg (by decide),if_neg (by decide),if_pos rfl]
  exact call_restore g cs S N n y v A l.length c w h hN hn l (Lib.hid rfl) (hl rfl) hcap (hL rfl) hBK hBQ
 rw [if_neg e0,if_neg e1,if_neg e2,if_neg e3,if_neg e4,if_neg e5,if_neg e6,if_neg e7,if_neg e8]
 exact call_other g cs S N k n y v A l.length c w h (by omega)
end Go.Proofs.YtlliaihmfimdoaaGreat.Re


namespace Go.Proofs.YtlliaihmfimdoaaGreat.Re
open Go.RowKit Go.ChangeShapes Go.WideShapes Go.Joins Go.Deep Go.Proofs.YtlliaihmfimdoaaGreat
def CapOk (o:OpV):Prop:=o.l.length≤o.c∧o.c≤9223372036854775807
section
variable {H:Type} {enc:TypeId × Value→H} {W:World}
theorem slice_cap {t e:TypeId} {fuel n c:Nat} {A:Option Addr} {x:DataW H × List MemPlace} (ht:Tryz.prog.underlying t=some (.slice e)) (h:DataW.trod enc Tryz.prog W 0 (fun _ => true) true fuel t [.slice A n c]=some x):n≤c∧c≤9223372036854775807:=by
 rcases open_slice ht h with ⟨hcs,_⟩ | ⟨a,len,cap,m,n',D,Pl,hcs,_,hl,hm,_⟩
 ·simp at hcs
  omega
 ·simp at hcs
  obtain ⟨_,rfl,rfl⟩:=hcs
  unfold maxLen at hm
  exact ⟨hl,hm⟩
end
section
variable {H:Type} {enc:TypeId × Value→H} {W:World}
set_option maxRecDepth 1000000 in
theorem ops_trodC {fuel:Nat} {v:Value} {y:DataW H × List MemPlace} (hf:DataW.trod enc Tryz.prog W 0 (fun _ => true) true fuel 22 [v]=some y) :
  ∃ A ops c,v=.slice A (List.length ops) c∧OpsAt W A ops∧∀ o ∈ ops,CapOk o:=by
 have hC:Tryz.prog.cellsOf 42=5:=by kernel_rfl
 rcases open_slice Tryz.underlying22 hf with ⟨hcs,_⟩ | ⟨x,len,cap,m,n,D,Pl,hcs,_,hl,hm,hmm,_,hi⟩
 ·simp at hcs
  subst hcs
  exact ⟨none,[],0,rfl,⟨by simp [maxLen],by simp,fun h => absurd h (by simp)⟩,by simp⟩
 ·simp at hcs
  subst hcs
  simp only [if_true] at hmm
  subst hmm
  have each:∀ i,i < m→∃ o:OpV,(OpIn W o∧CapOk o)∧W.cell? (x.add (i * 5))=some (.int .i64 o.k)∧W.cell? ((x.add (i * 5)).add 1)=some (.int .i64 o.n)∧W.cell? ((x.add (i * 5)).add 2)=some (.int .i64 o.y)∧W.cell? ((x.add (i * 5)).add 3)=some (.int .u64 (o.v:Nat))∧W.cell? ((x.add (i * 5)).add 4)=some (.slice o.A o.l.length o.c):=by
   intro i him
   obtain ⟨cs',hc,ht⟩:=hi i him
   rw [hC] at hc
   obtain ⟨_,hcl,hat⟩:=World.cells?_some hc
   obtain ⟨xs,n',_,_,_,hxl,hf'⟩:=DataW.trod_struct Tryz.underlying42 ht
   match cs',hcl with
   | [c0,c1,c2,c3,c4],_ =>
    match xs,hxl with
    | [y0,y1,y2,y3,y4],_ =>
     have g0:=hf' 0 _ rfl
     have g1:=hf' 1 _ rfl
     have g2:=hf' 2 _ rfl
     have g3:=hf' 3 _ rfl
     have g4:=hf' 4 _ rfl
     have e_0:Tryz.prog.cellsOf 3=1:=by kernel_rfl
     have e_1:Tryz.prog.cellsOf 39=1:=by kernel_rfl
     have e_2:Tryz.prog.cellsOf 40=1:=by kernel_rfl
     simp [e_0,e_1,e_2] at g0 g1 g2 g3 g4
     obtain ⟨z0,rfl,b0,d0⟩:=i64_trodB Tryz.underlying3 g0
     obtain ⟨z1,rfl,b1,d1⟩:=i64_trodB Tryz.underlying3 g1
     obtain ⟨z2,rfl,b2,d2⟩:=i64_trodB Tryz.underlying3 g2
     obtain ⟨z3,rfl,b3⟩:=u64_trodB Tryz.underlying39 g3
     obtain ⟨A4,l4,c4',rfl,b4⟩:=ch_trod g4
     have cp:=slice_cap Tryz.underlying40 g4
     have a0:=hat 0 (by omega)
     have a1:=hat 1 (by omega)
     have a2:=hat 2 (by omega)
     have a3:=hat 3 (by omega)
     have a4:=hat 4 (by omega)
     have ez:(x.add (i * 5)).add 0=x.add (i * 5):=by simp [Addr.add]
     rw [ez] at a0
     exact ⟨⟨z0,z1,z2,z3,A4,l4,c4'⟩,⟨⟨⟨⟨b1,d1⟩,⟨b2,d2⟩,b3⟩,b4.1,b4.2⟩,cp⟩,a0,a1,a2,a3,a4⟩
  let f:Nat→OpV:=fun i => if h:i < m then (each i h).choose else ⟨0,0,0,0,none,[],0⟩
  have hf1:∀ i,(h:i < m)→(OpIn W (f i)∧CapOk (f i))∧W.cell? (x.add (i * 5))=some (.int .i64 (f i).k)∧W.cell? ((x.add (i * 5)).add 1)=some (.int .i64 (f i).n)∧W.cell? ((x.add (i * 5)).add 2)=some (.int .i64 (f i).y)∧W.cell? ((x.add (i * 5)).add 3)=some (.int .u64 ((f i).v:Nat))∧W.cell? ((x.add (i * 5)).add 4)=some (.slice (f i).A (f i).l.length (f i).c):=by
   intro i h
   have:=(each i h).choose_spec
   simp only [f,dif_pos h]
   exact this
  refine ⟨some x,(List.range len).map f,_,by simp; rfl,⟨by simp; omega,fun o ho => ?_,fun hpos => ?_⟩,fun o ho => ?_⟩
  ·obtain ⟨i,hi',rfl⟩:=List.mem_map.1 ho
   exact (hf1 i (by have:=List.mem_range.1 hi'; omega)).1.1
  ·have hpos':0 < len:=by simpa using hpos
   have h00:=(hf1 0 (by omega)).2.1
   have ez:x.add (0 * 5)=x:=by simp [Addr.add]
   rw [ez] at h00
   obtain ⟨b,o,rfl,hlt⟩:=add_spotB h00
   refine ⟨b,o,rfl,hlt,fun i hi' => ?_⟩
   have hi2:i < len:=by simpa using hi'
   have:=(hf1 i (by omega)).2
   simp only [Addr.add_lit] at this
   simpa using this
  ·obtain ⟨i,hi',rfl⟩:=List.mem_map.1 ho
   exact (hf1 i (by have:=List.mem_range.1 hi'; omega)).1.2
end
section
variable {H:Type} {enc:TypeId × Value→H} {W:World}
set_option maxRecDepth 1000000 in
theorem open_opsC {r:Reach} {b0:Nat} {v:Value} {d:DataW H} {p:List MemPlace} (hval:Value.okWide Tryz.prog W r b0 22 v) (h:DataW.Trod enc Tryz.prog W 0 (fun _ => true) true 22 v d p) :
  ∃ A ops c,v=.slice A (List.length ops) c∧OpsAt W A ops∧∀ o ∈ ops,CapOk o:=by
 obtain ⟨a,len,cap,rfl⟩:=okWide_slice Tryz.underlying22 hval
 obtain ⟨fuel,hf⟩:=h
 exact ops_trodC hf
end
section
variable {H:Type} {enc:TypeId × Value→H} {W:World}
end
end Go.Proofs.YtlliaihmfimdoaaGreat.Re


namespace Go.Proofs.YtlliaihmfimdoaaGreat.Re
open Go.RowKit Go.Maps Go.Deep Go.Proofs.YtlliaihmfimdoaaGreat
theorem inl_offg {w wr u:World} {A:Option Addr} {l:List Ch} {g:Nat} (h:InL w A l) (hb:Below w.heap.size w wr) (hle:w.heap.size≤g) (hg:wr.grownBy u (some g)):InL u A l :=
 h.below (hb.grown hg hb.size (fun r e => by cases e; exact hle))
end Go.Proofs.YtlliaihmfimdoaaGreat.Re


namespace Go.Proofs.YtlliaihmfimdoaaGreat.Re
open Go.RowKit Go.Maps Go.Joins Go.Deep Go.Proofs.YtlliaihmfimdoaaGreat
def busyR (S:RS) (n:Int):Bool:=busyB S.K n || (Qu.lookQ S.Q.ws n).isSome
theorem resbusy_any (g:Nat) (cs:Array Value) (S:RS) (N:Nat) (n:Int) (w:World) (h:ResAt w g cs S N) (hn:i64ok n) :
  Calls Tryz.prog 14 #[.pointer (some ⟨g,0,none⟩),.int .i64 n] w fun e w' => e=.returned (.bool (busyR S n))∧Below w.heap.size w w':=by
 have HK:=Lib.hid (busy_any g _ cs S.K N n w h.kv hn)
 have HQ:Hid (∀ u,Below w.heap.size w u→Calls Tryz.prog 44 #[.pointer (some ⟨g,34,none⟩),.int .i64 n] u fun e w' => e=.returned (.bool (Qu.lookQ S.Q.ws n).isSome)∧Below u.heap.size u w'):=Lib.hid (fun u hb => Qu.busy_any g 34 _ cs S.Q N n u (h.qu.below hb) hn)
 unfold busyR
 generalize (Qu.lookQ S.Q.ws n).isSome=bq at HQ ⊢
 clear h
 rcases hk:busyB S.K n with _ | _
 ·rw [hk] at HK
  clear hk
  go_enter Tryz.func14,Tryz.ntmps14
  go_wp2_with fail
  refine HK.out.mono ?_
  rintro e w1 ⟨rfl,b1⟩
  have HB:=Lib.hid b1
  have hq:=Lib.hid (HQ.out w1 b1)
  clear b1
  go_wp2_with fail
  refine hq.out.mono ?_
  rintro e w2 ⟨rfl,b2⟩
  have HX:=Lib.hid (bt HB.out b2)
  clear b2
  go_wp2
  go_ret
  exact ⟨by simp,HX.out⟩
 ·rw [hk] at HK
  clear hk
  go_enter Tryz.func14,Tryz.ntmps14
  go_wp2_with fail
  refine HK.out.mono ?_
  rintro e w1 ⟨rfl,b1⟩
  have HX:=Lib.hid b1
  clear b1
  go_wp2
  go_ret
  exact ⟨by simp,HX.out⟩
def OwnRp (u:World) (B:Nat) (A:Option Addr) (c:Nat) (P:List (Int × Nat)):Prop:=u.ownsRow B 85 2 (.slice A P.length c) P.length (prV P)
theorem Tryz.infoRp:(Tryz.prog.info? 85).map (fun i => (i.zero,i.size,i.bytes))=some (some (.agg #[.int .i64 0,.int .u64 0]),2,16):=by kernel_rfl
theorem OwnRp.grown {u u':World} {B:Nat} {A:Option Addr} {c:Nat} {l:List (Int × Nat)} {row:Option Nat} (h:OwnRp u B A c l) (hg:u.grownBy u' row) (hr:∀ r,row=some r→blk A≠some r):OwnRp u' B A c l:=by
 refine World.ownsRow.kept h hg ?_
 rcases hb:(Value.slice A l.length c).ownBlock with _ | k
 ·exact .inl rfl
 ·rw [ownBlock_slice] at hb
  exact .inr (fun e => hr k e.symm hb)
theorem rp_more {u:World} {B c:Nat} {A:Option Addr} {P:List (Int × Nat)} (h:OwnRp u B A c P) (n:Nat) (hn:n=P.length) (hl:n≤1000) (k:Int) (v:Nat) (q:Nat) (hBu:B≤u.heap.size)
  (hq:Blk u q 85 #[.int .i64 k,.int .u64 (v:Nat)]) :
  ∃ A2 c2 u',(Builtin.append_ #[56,56] 56 #[.slice A n c,.slice (some ⟨q,0,none⟩) 1 1]).run Tryz.prog u=.ok (.slice A2 (n + 1) c2) u' ∧
   OwnRp u' B A2 c2 (P ++ [(k,v)])∧u.grownBy u' (blk A):=by
 subst hn
 obtain ⟨i0,hi,hz0,hz1,hz2⟩:=info_parts Tryz.infoRp
 obtain ⟨v',w',hrun,hown,hgr,_,_⟩:=run_append_own_at (P:=Tryz.prog) u B 56 56 85 i0 _ 2 16 Tryz.underlying56 hi hz0 hz1 hz2 rfl (by omega) (.slice A P.length c) P.length (prV P) h ⟨q,0,none⟩ 1 1 [.int .i64 k,.int .u64 (v:Nat)] rfl
  (fun j v hv => by
   have:=hq.cell j
   have e:(⟨q,0,none⟩:Addr).add j=⟨q,j,none⟩:=by
    simp [Addr.add]
    try omega
   rw [e,this]
   rw [List.getElem?_toArray]; exact hv)
  (fun v hv => by simp at hv; rcases hv with rfl | rfl <;> rfl) (by simp only [maxLen]; omega) (by omega) hBu
 obtain ⟨g2,c2,rfl⟩:=Joins.ownsRow_form hown (by omega)
 rw [ownBlock_slice] at hgr
 refine ⟨some ⟨g2,0,none⟩,c2,w',hrun,?_,hgr⟩
 unfold OwnRp
 rw [List.length_append,show prV (P ++ [(k,v)])=prV P ++ [.int .i64 k,.int .u64 (v:Nat)] by unfold prV; simp]
 exact hown
theorem image_end {w w1 u w2:World} {gi c2 c3:Nat} {A2 A3:Option Addr} {P:List (Int × Nat)} {vs:List Nat} (b1:Below w.heap.size w w1) (hgi:gi=w.heap.size) (hs:gi + 1≤w1.heap.size) (bu:Below w1.heap.size w1 u) (b3:Below u.heap.size u w2) (own:OwnRp u w1.heap.size A2 c2 P) (own3:Qu.OwnU w2 u.heap.size A3 c3 vs) (v0 v1 v2:Value) :
  OwnRp (((w2.setCell ⟨gi,0,none⟩ v0).setCell ⟨gi,1,none⟩ v1).setCell ⟨gi,2,none⟩ v2) w.heap.size A2 c2 P∧Qu.OwnU (((w2.setCell ⟨gi,0,none⟩ v0).setCell ⟨gi,1,none⟩ v1).setCell ⟨gi,2,none⟩ v2) w.heap.size A3 c3 vs∧Below w.heap.size w (((w2.setCell ⟨gi,0,none⟩ v0).setCell ⟨gi,1,none⟩ v1).setCell ⟨gi,2,none⟩ v2):=by
 have hg:w2.grownBy (((w2.setCell ⟨gi,0,none⟩ v0).setCell ⟨gi,1,none⟩ v1).setCell ⟨gi,2,none⟩ v2) (some gi):=((lgrown_set w2 ⟨gi,0,none⟩ v0).trans (lgrown_set _ ⟨gi,1,none⟩ v1)).trans (lgrown_set _ ⟨gi,2,none⟩ v2)
 have h1:=b1.size
 have h2:=bu.size
 have own2:=own.grown (lbelow_grown b3 none) (fun r e => by cases e)
 refine ⟨own_less (own2.grown hg (fun r e e2 => ?_)) h1,(own3.grown hg (fun r e e2 => ?_)).less (Nat.le_trans h1 h2),(bt (bt b1 bu) b3).grown hg (Nat.le_trans h1 (Nat.le_trans h2 b3.size)) (fun r e => by cases e; omega)⟩
 ·cases e
  have:=(World.ownsRow.lt own2 gi (by rw [ownBlock_slice]; exact e2)).1
  omega
 ·cases e
  have:=(own3.lt' gi e2).1
  omega
def imP (S:KS):Nat→List (Int × Nat)
 | 0 => []
 | k + 1 => imP S k ++ if (valM S k).2=true then [((k:Int),(valM S k).1)] else []
theorem imP_len (S:KS):∀ k,(imP S k).length≤k
 | 0 => Nat.le_refl _
 | k + 1 => by
  have:=imP_len S k
  unfold imP
  rw [List.length_append]
  split
  ·simp; omega
  ·simp; omega
set_option maxRecDepth 100000 in
set_option maxHeartbeats 4000000 in
theorem resimage_any (g:Nat) (cs:Array Value) (S:RS) (N:Nat) (w:World) (h:ResAt w g cs S N) :
  Calls Tryz.prog 18 #[.pointer (some ⟨g,0,none⟩)] w fun e w' => ∃ A q c A' q' c',e=.returned (.agg #[.slice A q c,.slice A' q' c',.int .i64 (S.Q.g + 1)])∧Hid (q=(imP S.K 16).length∧q'=S.Q.I.length∧OwnRp w' w.heap.size A c (imP S.K 16)∧Qu.OwnU w' w.heap.size A' c' (S.Q.I.map Qu.IT.v)∧Below w.heap.size w w'):=by
 obtain ⟨w1,hw1⟩:∃ w1,w1=w.alloc (.cells #[.slice none 0 0,.slice none 0 0,.int .i64 0] 58):=⟨_,rfl⟩
 have b1:Below w.heap.size w w1:=by rw [hw1]; exact ba _ _
 obtain ⟨gi,hgi⟩:∃ gi,gi=w.heap.size:=⟨_,rfl⟩
 have k1:Blk w1 gi 58 #[.slice none 0 0,.slice none 0 0,.int .i64 0]:=by rw [hw1,hgi]; exact Blk.new _ _ _
 have hs1:gi + 1≤w1.heap.size:=by rw [hw1,hgi]; simp
 have H:=Lib.hid (And.intro h (And.intro b1 (And.intro k1 hs1)))
 have HG:=Lib.hid hgi
 have HV:Hid (∀ (k:Nat) u,Below w1.heap.size w1 u→Calls Tryz.prog 48 #[.pointer (some ⟨g,0,none⟩),.int .i64 k] u fun e w' => e=.returned (.tuple #[.int .u64 ((valM S.K k).1:Nat),.bool (valM S.K k).2])∧Below u.heap.size u w'):=Lib.hid fun k u hb => value_any g _ cs S.K N k u ((h.kv.below b1).below hb)
 have HVals:Hid (∀ u,Below w1.heap.size w1 u→Calls Tryz.prog 49 #[.pointer (some ⟨g,34,none⟩)] u fun e w' => ∃ A c,e=.returned (.slice A S.Q.I.length c)∧Qu.OwnU w' u.heap.size A c (S.Q.I.map Qu.IT.v)∧Below u.heap.size u w'):=Lib.hid fun u hb => Qu.values_any g 34 _ cs S.Q N u ((h.qu.below b1).below hb)
 have HNx:Hid (∀ u,Below w1.heap.size w1 u→Calls Tryz.prog 50 #[.pointer (some ⟨g,34,none⟩)] u fun e w' => e=.returned (.int .i64 (S.Q.g + 1))∧u=w'):=Lib.hid fun u hb => Qu.next_any g 34 _ cs S.Q N u ((h.qu.below b1).below hb)
 have HW1:=Lib.hid hw1
 have HI:Hid ((0:Nat)=(imP S.K 0).length∧OwnRp w1 w1.heap.size none 0 (imP S.K 0)∧Below w1.heap.size w1 w1):=Lib.hid ⟨rfl,World.ownsRow_nil _ _ _ _,Below.refl _ _⟩
 clear h b1 k1 hs1 hw1
 go_enter Tryz.func18,Tryz.ntmps18
 go_wp2_with fail
 rw [← HW1.out,← hgi]
 clear hgi
 go_loopw [3,10] (fun pv iv wr => ∃ (j n2 c2:Nat) (A2:Option Addr),pv=.slice A2 n2 c2∧j≤16∧n2≤j∧iv=.int .i64 j∧Hid (n2=(imP S.K j).length∧OwnRp wr w1.heap.size A2 c2 (imP S.K j)∧Below w1.heap.size w1 wr)) (fun _ i _ => 16 - (intOf i).toNat)
 case atStart => exact ⟨0,0,0,none,rfl,by omega,Nat.le_refl _,rfl,HI⟩
 case round =>
  clear HI
  obtain ⟨j,n2,c2,A2,rfl,hj,hn2j,rfl,HR⟩:=hrel
  by_cases hjn:j < 16
  ·have hjI:(j:Int) < 16:=by omega
   have hV:=Lib.hid (HV.out j wr HR.out.2.2)
   obtain ⟨xv,hxv⟩:∃ xv,xv=valM S.K j:=⟨_,rfl⟩
   have HS:Hid (imP S.K (j + 1)=imP S.K j ++ if xv.2=true then [((j:Int),xv.1)] else []):=Lib.hid (by rw [hxv]; rfl)
   rw [← hxv] at hV
   clear hxv
   obtain ⟨yv,yt⟩:=xv
   dsimp only at hV HS
   go_wp2_with fail
   refine hV.out.mono ?_
   rintro e w2 ⟨rfl,b2⟩
   have HR2:Hid (n2=(imP S.K j).length∧OwnRp w2 w1.heap.size A2 c2 (imP S.K j)∧Below w1.heap.size w1 w2):=Lib.hid ⟨HR.out.1,HR.out.2.1.grown (lbelow_grown b2 none) (fun r e => by cases e),bt HR.out.2.2 b2⟩
   clear b2 HR hV
   cases yt with
   | false =>
    have HX:Hid (n2=(imP S.K (j + 1)).length∧OwnRp w2 w1.heap.size A2 c2 (imP S.K (j + 1))∧Below w1.heap.size w1 w2):=Lib.hid (by rw [HS.out]; simpa using HR2.out)
    go_wp2
    go_roundw
    case rel => exact ⟨j + 1,n2,c2,A2,rfl,by omega,by omega,by go_num,HX⟩
    case measure => simp [intOf]; omega
   | true =>
    obtain ⟨hn2,hown,hb⟩:=HR2.out
    have hb3:=ba w2 (.cells #[.int .i64 j,.int .u64 (yv:Nat)] 85)
    have own3:=hown.grown (lbelow_grown hb3 none) (fun r e => by cases e)
    obtain ⟨A5,c5,w5,hrun,hE5,hg5⟩:=rp_more own3 n2 hn2 (by omega) j yv w2.heap.size (by have:=hb.size; have:=hb3.size; omega) (Blk.new w2 _ _)
    have hB5:=(bt hb hb3).grown hg5 (by have:=hb.size; have:=hb3.size; omega) (fun r e => (World.ownsRow.lt own3 r (by rw [ownBlock_slice]; exact e)).1)
    have HX:Hid (n2 + 1=(imP S.K (j + 1)).length∧OwnRp w5 w1.heap.size A5 c5 (imP S.K (j + 1))∧Below w1.heap.size w1 w5):=Lib.hid (by rw [HS.out,if_pos rfl,List.length_append,← hn2]; exact ⟨rfl,hE5,hB5⟩)
    clear hown hb hn2 hb3 own3 hE5 hg5 hB5 HR2
    go_wp2_with (at_builtin; refine wpList_append_run rfl (.tmp 22) (.tmp 26) 56 rfl _ _ _ w5 rfl rfl hrun ?_)
    go_roundw
    case rel => exact ⟨j + 1,n2 + 1,c5,A5,rfl,by omega,by omega,by go_num,HX⟩
    case measure => simp [intOf]; omega
  ·have hjI:¬ (j:Int) < 16:=by omega
   have hj16:j=16:=by omega
   subst hj16
   go_wp2_with fail
   go_region_with (first
    | (go_simp; go_at_call 49; refine (HVals.out _ (by first | exact HR.out.2.2 | exact HR.out.2.2.drew)).mono ?_; rintro e w2 ⟨A3,c3,rfl,own3,b3⟩; have bz:=bt (by first | exact HR.out.2.2 | exact HR.out.2.2.drew) b3; have kg:=H.out.2.2.1.below bz H.out.2.2.1.lt; have g0:=kg.cell 0; have g1:=kg.cell 1; have g2:=kg.cell 2; simp only [List.getElem?_toArray,List.getElem?_cons_zero,List.getElem?_cons_succ] at g0 g1 g2; have f3:=kg.frozen)
    | (go_simp; go_at_call 50; refine (HNx.out _ (by first | exact HR.out.2.2 | exact HR.out.2.2.drew | exact bz | exact bz.drew | exact bt HR.out.2.2 b3 | exact (bt HR.out.2.2 b3).drew | exact bt HR.out.2.2.drew b3 | exact (bt HR.out.2.2.drew b3).drew)).mono ?_; rintro e w3 ⟨rfl,rfl⟩))
   all_goals
    have HF:=Lib.hid (image_end H.out.2.1 HG.out H.out.2.2.2 (by first | exact HR.out.2.2 | exact HR.out.2.2.drew) b3 (by first | exact HR.out.2.1 | exact own_same HR.out.2.1 (fun r _ _ => rfl)) own3 (.slice A2 n2 c2) (.slice A3 S.Q.I.length c3) (.int .i64 (S.Q.g + 1)))
    have kf:=((kg.set_ 0 (.slice A2 n2 c2)).set_ 1 (.slice A3 S.Q.I.length c3)).set_ 2 (.int .i64 (S.Q.g + 1))
    have r0:=kf.cell 0
    have r1:=kf.cell 1
    have r2:=kf.cell 2
    simp only [List.setIfInBounds_toArray,List.set_cons_succ,List.set_cons_zero,List.getElem?_toArray,List.getElem?_cons_zero,List.getElem?_cons_succ] at r0 r1 r2
    clear kf kg g0 g1 g2 f3 bz b3 own3
    go_wp2
    refine bodyPost_ret (by simp [results,Tryz.results18,go_sem,r0,r1,r2]; try rfl) rfl ?_
    exact ⟨A2,n2,c2,A3,_,c3,rfl,Lib.hid ⟨HR.out.1,rfl,HF.out⟩⟩
end Go.Proofs.YtlliaihmfimdoaaGreat.Re


namespace Go.Proofs.YtlliaihmfimdoaaGreat.Re
open Go.RowKit Go.Maps Go.Joins Go.Deep Go.Proofs.YtlliaihmfimdoaaGreat
def InRp (w:World) (A:Option Addr) (P:List (Int × Nat)):Prop:=0 < P.length→∃ b o,A=some ⟨b,o,none⟩∧b < w.heap.size∧∀ i,(h:i < P.length)→w.cell? ⟨b,o + i * 2,none⟩=some (.int .i64 (P[i]'h).1)∧w.cell? ⟨b,o + i * 2 + 1,none⟩=some (.int .u64 ((P[i]'h).2:Nat))
theorem InRp.below {w w':World} {A:Option Addr} {P:List (Int × Nat)} (h:InRp w A P) (hb:Below w.heap.size w w'):InRp w' A P:=fun hl => by
 obtain ⟨b,o,rfl,hlt,hc⟩:=h hl
 exact ⟨b,o,rfl,Nat.lt_of_lt_of_le hlt hb.size,fun i hi => ⟨(hb.cell (p:=⟨b,_,none⟩) hlt).trans (hc i hi).1,(hb.cell (p:=⟨b,_,none⟩) hlt).trans (hc i hi).2⟩⟩
theorem OwnRp.in_ {w:World} {B c:Nat} {A:Option Addr} {P:List (Int × Nat)} (h:OwnRp w B A c P):InRp w A P:=fun hl => by
 unfold OwnRp at h
 obtain ⟨b,e,_,hlt,_,hc⟩:=row_cells h hl
 exact ⟨b,0,e,hlt,fun i hi => by rw [Nat.zero_add]; exact ⟨hc _ _ (prV_at P i hi).1,hc _ _ (prV_at P i hi).2⟩⟩
structure AsAt (w wr:World) (gm gr go B:Nat) (A A':Option Addr) (q c q' c':Nat) (nx:Int) (A2:Option Addr) (c2:Nat) (P':List (Int × Nat)):Prop where
 be:Below w.heap.size w wr
 km:Blk wr gm 58 #[.slice A q c,.slice A' q' c',.int .i64 nx]
 kr:Blk wr gr 54 #[.slice none 0 0,.slice none 0 0,.int .i64 0]
 ko:Blk wr go 54 #[.slice A2 P'.length c2,.slice A' q' c',.int .i64 nx]
 own:OwnPr wr B A2 c2 P'
 lt:gm < B∧gr < B∧go < B∧B≤wr.heap.size
 ne:gm≠go∧gr≠go∧w.heap.size≤gr∧w.heap.size≤go∧w.heap.size≤B
theorem AsAt.below {w wr u:World} {gm gr go B:Nat} {A A':Option Addr} {q c q' c':Nat} {nx:Int} {A2:Option Addr} {c2:Nat} {P':List (Int × Nat)} (h:AsAt w wr gm gr go B A A' q c q' c' nx A2 c2 P') (hb:Below wr.heap.size wr u):AsAt w u gm gr go B A A' q c q' c' nx A2 c2 P' :=
 ⟨bt h.be hb,h.km.below hb h.km.lt,h.kr.below hb h.kr.lt,h.ko.below hb h.ko.lt,World.ownsRow.kept h.own (lbelow_grown hb none) (by rcases (Value.slice A2 P'.length c2).ownBlock with _ | k; exact .inl rfl; exact .inr (fun e => by cases e)),⟨h.lt.1,h.lt.2.1,h.lt.2.2.1,Nat.le_trans h.lt.2.2.2 hb.size⟩,h.ne⟩
theorem AsAt.more {w wr:World} {gm gr go B:Nat} {A A':Option Addr} {q c q' c':Nat} {nx:Int} {A2:Option Addr} {c2:Nat} {P':List (Int × Nat)} (h:AsAt w wr gm gr go B A A' q c q' c' nx A2 c2 P') (hl:P'.length≤1000) (k:Int) (v:Nat) :
  ∃ A3 c3 w3,(Builtin.append_ #[26,26] 26 #[.slice A2 P'.length c2,.slice (some ⟨wr.heap.size,0,none⟩) 1 1]).run Tryz.prog (wr.alloc (.cells #[.int .i64 k,.int .u64 (v:Nat)] 114))=.ok (.slice A3 (P'.length + 1) c3) w3 ∧
   w3.cell? ⟨go,0,none⟩=some (.slice A2 P'.length c2)∧w3.frozen? ⟨go,0,none⟩=false∧AsAt w (w3.setCell ⟨go,0,none⟩ (.slice A3 (P'.length + 1) c3)) gm gr go B A A' q c q' c' nx A3 c3 (P' ++ [(k,v)]):=by
 have h3:=h.below (ba wr (.cells #[.int .i64 k,.int .u64 (v:Nat)] 114))
 obtain ⟨A3,c3,w3,hrun,own3,g3⟩:=pr_more h3.own P'.length rfl hl k v wr.heap.size h3.lt.2.2.2 (Blk.new wr _ _)
 have hno:∀ {r t cs},Blk (wr.alloc (.cells #[.int .i64 k,.int .u64 (v:Nat)] 114)) r t cs→r < B→Blk w3 r t cs:=fun hk hr => hk.kept g3 (fun e => by
  have:=(World.ownsRow.lt h3.own _ (by rw [ownBlock_slice]; exact e.symm)).1; omega)
 have ko3:=hno h3.ko h3.lt.2.2.1
 have hgs:=lgrown_set w3 ⟨go,0,none⟩ (.slice A3 (P'.length + 1) c3)
 have hs:=h.lt.2.2.2
 have hne:=h.ne
 refine ⟨A3,c3,w3,hrun,?_,ko3.frozen 0,?_⟩
 ·have:=ko3.cell 0
  simpa using this
 ·refine ⟨(h3.be.grown g3 (by have:=h3.be.size; omega) (fun r e => by have:=(World.ownsRow.lt h3.own r (by rw [ownBlock_slice]; exact e)).1; omega)).setCell (p:=⟨go,0,none⟩) (by have:=hne.2.2.2.1; exact this) _,(hno h3.km h3.lt.1).kept hgs (fun e => hne.1 (Option.some.inj e)),(hno h3.kr h3.lt.2.1).kept hgs (fun e => hne.2.1 (Option.some.inj e)),?_,?_,⟨h.lt.1,h.lt.2.1,h.lt.2.2.1,?_⟩,h.ne⟩
  ·have:=ko3.set_ 0 (.slice A3 (P'.length + 1) c3)
   rw [List.length_append]
   simpa using this
  ·exact own_kept own3 ko3 (by decide) hgs
  ·have:=g3.size; have:=h3.lt.2.2.2; rw [World.size_setCell]; omega
set_option maxRecDepth 100000 in
set_option maxHeartbeats 4000000 in
theorem as_any (A A':Option Addr) (q c q' c':Nat) (nx:Int) (P:List (Int × Nat)) (w:World) (hq:Hid (q=P.length)) (hm:q≤1000) (hP:InRp w A P) :
  Calls Tryz.prog 17 #[.agg #[.slice A q c,.slice A' q' c',.int .i64 nx]] w fun e w' => ∃ A9 c9,e=.returned (.agg #[.slice A9 q c9,.slice A' q' c',.int .i64 nx])∧Hid (OwnPr w' w.heap.size A9 c9 P∧Below w.heap.size w w'):=by
 obtain ⟨w3,hw3⟩:∃ w3,w3=((w.alloc (.cells #[.slice A q c,.slice A' q' c',.int .i64 nx] 58)).alloc (.cells #[.slice none 0 0,.slice none 0 0,.int .i64 0] 54)).alloc (.cells #[.slice none 0 0,.slice A' q' c',.int .i64 nx] 54):=⟨_,rfl⟩
 have h3:AsAt w w3 w.heap.size (w.heap.size + 1) (w.heap.size + 1 + 1) w3.heap.size A A' q c q' c' nx none 0 []:=by
  have k1:=Blk.new w 58 #[.slice A q c,.slice A' q' c',.int .i64 nx]
  have k2:=Blk.new (w.alloc (.cells #[.slice A q c,.slice A' q' c',.int .i64 nx] 58)) 54 #[.slice none 0 0,.slice none 0 0,.int .i64 0]
  have k3:=Blk.new ((w.alloc (.cells #[.slice A q c,.slice A' q' c',.int .i64 nx] 58)).alloc (.cells #[.slice none 0 0,.slice none 0 0,.int .i64 0] 54)) 54 #[.slice none 0 0,.slice A' q' c',.int .i64 nx]
  have k1':=(k1.below (ba _ (.cells #[.slice none 0 0,.slice none 0 0,.int .i64 0] 54)) k1.lt)
  have k1'':=k1'.below (ba _ (.cells #[.slice none 0 0,.slice A' q' c',.int .i64 nx] 54)) k1'.lt
  have k2':=k2.below (ba _ (.cells #[.slice none 0 0,.slice A' q' c',.int .i64 nx] 54)) k2.lt
  rw [World.size_alloc] at k2'
  rw [World.size_alloc,World.size_alloc] at k3
  rw [← hw3] at k1'' k2' k3
  have hs:w3.heap.size=w.heap.size + 1 + 1 + 1:=by rw [hw3]; simp
  exact ⟨by rw [hw3]; exact bt (bt (ba _ _) (ba _ _)) (ba _ _),k1'',k2',k3,World.ownsRow_nil _ _ _ _,by omega,by omega⟩
 obtain ⟨gm,hgm⟩:∃ gm,gm=w.heap.size:=⟨_,rfl⟩
 obtain ⟨gr,hgr⟩:∃ gr,gr=w.heap.size + 1:=⟨_,rfl⟩
 obtain ⟨go,hgo⟩:∃ go,go=w.heap.size + 1 + 1:=⟨_,rfl⟩
 rw [← hgo,← hgr,← hgm] at h3
 have H:=Lib.hid hP
 have HW:=Lib.hid hw3
 have HG:=Lib.hid (And.intro hgm (And.intro hgr hgo))
 have HI:Hid (∃ A2 c2,AsAt w w3 gm gr go w3.heap.size A A' q c q' c' nx A2 c2 (P.take 0)):=Lib.hid ⟨none,0,h3⟩
 obtain ⟨B,hB⟩:∃ B,B=w3.heap.size:=⟨_,rfl⟩
 rw [← hB] at HI
 clear h3 hP hw3 hgm hgr hgo hB
 go_enter Tryz.func17,Tryz.ntmps17
 go_wp2_with fail
 rw [← HW.out,← HG.out.2.2,← HG.out.2.1,← HG.out.1]
 go_loopw [4] (fun iv wr => ∃ j:Nat,j≤q∧iv=.int .i64 j∧Hid (∃ A2 c2,AsAt w wr gm gr go B A A' q c q' c' nx A2 c2 (P.take j))) (fun iv _ => q - (intOf iv).toNat)
 case atStart => exact ⟨0,Nat.zero_le _,rfl,HI⟩
 case round =>
  clear HI
  obtain ⟨j,hj,rfl,HR⟩:=hrel
  obtain ⟨A2,c2,hr⟩:=HR.out
  have m0:=hr.km.cell 0
  simp only [List.getElem?_toArray,List.getElem?_cons_zero] at m0
  by_cases hjn:j < q
  ·have hjI:(j:Int) < (q:Int):=by omega
   have hjL:j < P.length:=by rw [← hq.out]; exact hjn
   obtain ⟨b,o,hA,hbl,hcs⟩:=(H.out.below hr.be) (by omega)
   obtain ⟨p0,p1⟩:=hcs j hjL
   have hsn:P.take (j + 1)=P.take j ++ [P[j]'hjL]:=by rw [List.take_add_one,List.getElem?_eq_getElem hjL]; rfl
   generalize P[j]'hjL=y at p0 p1 hsn
   obtain ⟨yk,yv⟩:=y
   dsimp only at p0 p1
   have hjl:(P.take j).length=j:=by rw [List.length_take]; omega
   have bW:Below wr.heap.size wr wr.drew:=⟨rfl,rfl,rfl,Nat.le_refl _,fun _ _ => rfl⟩
   have hrd:=hr.below bW
   obtain ⟨A3,c3,w4,hrun,e3,f3,h4⟩:=hrd.more (by omega) yk yv
   rw [hjl] at hrun e3 h4
   have e0:=hr.ko.cell 0
   have e1:=hrd.ko.cell 0
   have e2:=(hrd.below (ba _ (.cells #[.int .i64 yk,.int .u64 (yv:Nat)] 114))).ko.cell 0
   have e4:=(hr.below (ba _ (.cells #[.int .i64 yk,.int .u64 (yv:Nat)] 114))).ko.cell 0
   have m1:=hrd.km.cell 0
   simp only [List.getElem?_toArray,List.getElem?_cons_zero] at e0 e1 e2 e4 m1
   rw [hjl] at e0 e1 e2 e4
   have p2:wr.drew.cell? ⟨b,o + j * 2,none⟩=some (.int .i64 yk):=p0
   have p3:wr.drew.cell? ⟨b,o + j * 2 + 1,none⟩=some (.int .u64 ((yv:Nat):Int)):=p1
   have HX:Hid (∃ A2 c2,AsAt w (w4.setCell ⟨go,0,none⟩ (.slice A3 (j + 1) c3)) gm gr go B A A' q c q' c' nx A2 c2 (P.take (j + 1))):=Lib.hid ⟨A3,c3,by rw [hsn]; exact h4⟩
   subst hA
   clear hjL hcs hsn hjl bW hrd hr h4 HR
   go_wp2_with fail
   go_region_law (refine step_append_run rfl (.tmp 18) (.tmp 32) 26 rfl _ _ _ w4 rfl rfl hrun ?_)
   all_goals
    go_wp2
    go_roundw
    case rel => exact ⟨j + 1,by omega,by go_num,HX⟩
    case measure => simp [intOf]; omega
  ·have hjI:¬ (j:Int) < (q:Int):=by omega
   have hjj:P.take j=P:=List.take_of_length_le (by rw [← hq.out]; omega)
   rw [hjj] at hr
   have HF:=Lib.hid hr
   have o0:=hr.ko.cell 0
   have o1:=hr.ko.cell 1
   have o2:=hr.ko.cell 2
   have g0:=hr.kr.cell 0
   have g1:=hr.kr.cell 1
   have g2:=hr.kr.cell 2
   have f3:=hr.kr.frozen
   simp only [List.getElem?_toArray,List.getElem?_cons_zero,List.getElem?_cons_succ] at o0 o1 o2 g0 g1 g2
   rw [← hq.out] at o0
   have kf:=((hr.kr.set_ 0 (.slice A2 q c2)).set_ 1 (.slice A' q' c')).set_ 2 (.int .i64 nx)
   have r0:=kf.cell 0
   have r1:=kf.cell 1
   have r2:=kf.cell 2
   simp only [List.setIfInBounds_toArray,List.set_cons_succ,List.set_cons_zero,List.getElem?_toArray,List.getElem?_cons_zero,List.getElem?_cons_succ] at r0 r1 r2
   have hg:=((lgrown_set wr ⟨gr,0,none⟩ (.slice A2 q c2)).trans (lgrown_set _ ⟨gr,1,none⟩ (.slice A' q' c'))).trans (lgrown_set _ ⟨gr,2,none⟩ (.int .i64 nx))
   have HX:=Lib.hid (And.intro (own_less (own_kept hr.own hr.kr (by decide) hg) hr.ne.2.2.2.2) (hr.be.grown hg hr.be.size (fun r e => by cases e; exact hr.ne.2.2.1)))
   clear hjj hr HF HR kf hg
   go_wp2
   refine bodyPost_ret (by simp [results,Tryz.results17,go_sem,r0,r1,r2]; try rfl) rfl ?_
   exact ⟨A2,c2,rfl,HX⟩
end Go.Proofs.YtlliaihmfimdoaaGreat.Re

