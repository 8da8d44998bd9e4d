/- Parts Sn of one proof. -/
import Derived.Test.YtlliaihmfimdoaaGreatMg34
import Derived.Test.YtlliaihmfimdoaaGreatMg14
namespace Go.Proofs.YtlliaihmfimdoaaGreat.Re
open Go.RowKit Go.Maps Go.Deep Go.Proofs.YtlliaihmfimdoaaGreat
set_option linter.unusedVariables false
set_option linter.unusedSimpArgs false
def callR (S : RS) (o : OpV) : (Nat × Bool × List Ch × Int) × RS :=
 if o.k = 0 then (((getR S o.n o.y).1.1, (getR S o.n o.y).1.2.1, [], (getR S o.n o.y).1.2.2), (getR S o.n o.y).2)
 else if o.k = 1 then ((0, false, [], (putR S o.n o.y o.v).1), (putR S o.n o.y o.v).2)
 else if o.k = 2 then ((0, false, [], (delR S o.n o.y).1), (delR S o.n o.y).2)
 else if o.k = 3 then ((0, false, [], (pushR S o.n o.v).1), (pushR S o.n o.v).2)
 else if o.k = 4 then (((popR S o.n).1.1, false, [], (popR S o.n).1.2), (popR S o.n).2)
 else if o.k = 5 then ((0, false, (prepR S o.n).1.1, (prepR S o.n).1.2), (prepR S o.n).2)
 else if o.k = 6 then ((0, false, [], (commitR S o.n).1), (commitR S o.n).2)
 else if o.k = 7 then ((0, false, [], (backR S o.n).1), (backR S o.n).2)
 else if o.k = 8 then ((0, false, [], (restoreR S o.n o.l).1), (restoreR S o.n o.l).2)
 else ((0, false, [], 0), S)
def CallO (w : World) (g : Nat) (N : Nat) (r : (Nat × Bool × List Ch × Int) × RS) (e : Ending) (w' : World) : Prop :=
 ∃ A q c, e = .returned (.agg #[.int .u64 (r.1.1 : Nat), .bool r.1.2.1, .slice A q c, .int .i64 r.1.2.2.2]) ∧ q = r.1.2.2.1.length ∧ OwnC w' w.heap.size A c r.1.2.2.1 ∧ ResO w g r.2 (N + 4) w'
theorem ResAt.off {w w' : World} {g b N : Nat} {cs ts : Array Value} {S : RS} (h : ResAt w g cs S N) (hg : w.grownBy w' (some b)) (hk : Blk w b 47 ts) : ResAt w' g cs S N := by
 obtain ⟨A, n, c, h1, h2, h3, h4, h5⟩ := h.pr
 have hne : g ≠ b := fun e => h.kv.bk.ne hk (by decide) e
 exact ⟨h.kv.far hg hne hk (by decide), h.qu.far hg hne hk (by decide) (by decide), ⟨A, n, c, h1, h2, h3, h4, h5.kept hg hk (by decide)⟩, h.ln⟩
theorem grown_new {w u u' : World} {g row : Option Nat} (h : w.grownBy u g) (k : u.grownBy u' row) (hr : ∀ r, row = some r → w.heap.size ≤ r) : w.grownBy u' g :=
 ⟨k.os.trans h.os, k.tape.trans h.tape, k.output.trans h.output, Nat.le_trans h.size k.size, fun r hl hx => (k.block r (Nat.lt_of_lt_of_le hl h.size) (fun e => by have := hr r e.symm; omega)).trans (h.block r hl hx)⟩
structure TS (w u : World) (g N b4 b5 : Nat) (S : RS) (t4 t5 : Array Value) : Prop where
 ra : ∃ cs, ResAt u g cs S N
 k4 : Blk u b4 47 t4
 k5 : Blk u b5 47 t5
 ne : b4 ≠ b5
 gr : w.grownBy u (some g)
 lo : w.heap.size ≤ b4 ∧ w.heap.size ≤ b5
theorem TS.set5 {w u : World} {g N b4 b5 : Nat} {S : RS} {t4 t5 : Array Value} (h : TS w u g N b4 b5 S t4 t5) (i : Nat) (v : Value) : TS w (u.setCell ⟨b5, i, none⟩ v) g N b4 b5 S t4 (t5.setIfInBounds i v) := by
 obtain ⟨cs, hr⟩ := h.ra
 have hg := lgrown_set u ⟨b5, i, none⟩ v
 exact ⟨⟨cs, hr.off hg h.k5⟩, h.k4.kept hg (fun e => h.ne (by injection e)), h.k5.set_ i v, h.ne, grown_new h.gr hg (fun r e => by cases e; exact h.lo.2), h.lo⟩
theorem TS.set4 {w u : World} {g N b4 b5 : Nat} {S : RS} {t4 t5 : Array Value} (h : TS w u g N b4 b5 S t4 t5) (i : Nat) (v : Value) : TS w (u.setCell ⟨b4, i, none⟩ v) g N b4 b5 S (t4.setIfInBounds i v) t5 := by
 obtain ⟨cs, hr⟩ := h.ra
 have hg := lgrown_set u ⟨b4, i, none⟩ v
 exact ⟨⟨cs, hr.off hg h.k4⟩, h.k4.set_ i v, h.k5.kept hg (fun e => h.ne ((Option.some.inj e).symm)), h.ne, grown_new h.gr hg (fun r e => by cases e; exact h.lo.1), h.lo⟩
theorem TS.laid (w : World) (oc : Array Value) : ∃ w3, w3 = ((w.alloc (.cells oc 42)).alloc (.cells #[.int .u64 0, .bool false, .slice none 0 0, .int .i64 0] 47)).alloc (.cells #[.int .u64 0, .bool false, .slice none 0 0, .int .i64 0] 47) ∧ Below w.heap.size w w3 ∧ Blk w3 (w.heap.size + 1) 47 #[.int .u64 0, .bool false, .slice none 0 0, .int .i64 0] ∧ Blk w3 (w.heap.size + 1 + 1) 47 #[.int .u64 0, .bool false, .slice none 0 0, .int .i64 0] := by
 refine ⟨_, rfl, bt (bt (ba _ _) (ba _ _)) (ba _ _), ?_, ?_⟩
 ·have h1 := Blk.new (w.alloc (.cells oc 42)) 47 #[.int .u64 0, .bool false, .slice none 0 0, .int .i64 0]
  have h2 := h1.below (ba _ (.cells #[.int .u64 0, .bool false, .slice none 0 0, .int .i64 0] 47)) h1.lt
  rw [World.size_alloc] at h2
  exact h2
 ·have h1 := Blk.new ((w.alloc (.cells oc 42)).alloc (.cells #[.int .u64 0, .bool false, .slice none 0 0, .int .i64 0] 47)) 47 #[.int .u64 0, .bool false, .slice none 0 0, .int .i64 0]
  rw [World.size_alloc, World.size_alloc] at h1
  exact h1
theorem TS.mk' {w w3 u : World} {g N M : Nat} {S' : RS} (hgl : g < w.heap.size) (b3 : Below w.heap.size w w3) (k4 : Blk w3 (w.heap.size + 1) 47 #[.int .u64 0, .bool false, .slice none 0 0, .int .i64 0]) (k5 : Blk w3 (w.heap.size + 1 + 1) 47 #[.int .u64 0, .bool false, .slice none 0 0, .int .i64 0]) (hO : ResO w3 g S' M u) (hM : M ≤ N) : TS w u g N (w.heap.size + 1) (w.heap.size + 1 + 1) S' #[.int .u64 0, .bool false, .slice none 0 0, .int .i64 0] #[.int .u64 0, .bool false, .slice none 0 0, .int .i64 0] := by
 obtain ⟨⟨cs, hr⟩, hg⟩ := hO
 exact ⟨⟨cs, hr.more hM⟩, k4.kept hg (fun e => by injection e; omega), k5.kept hg (fun e => by injection e; omega), by omega, (lbelow_grown b3 _).trans hg, by omega, by omega⟩
set_option maxRecDepth 100000 in
set_option maxHeartbeats 2000000 in
theorem call_get (g : Nat) (cs : Array Value) (S : RS) (N : Nat) (n y : Int) (v : Nat) (A : Option Addr) (q c : Nat) (w : World) (h : ResAt w g cs S N) (hN : N < 190000) (hn : i64ok n) (hy : i64ok y) :
  Calls Tryz.prog 12 #[.pointer (some ⟨g, 0, none⟩), .agg #[.int .i64 0, .int .i64 n, .int .i64 y, .int .u64 (v : Nat), .slice A q c]] w (CallO w g N (((getR S n y).1.1, (getR S n y).1.2.1, [], (getR S n y).1.2.2), (getR S n y).2)) := by
 obtain ⟨w3, hw3, b3, k4, k5⟩ := TS.laid w #[.int .i64 0, .int .i64 n, .int .i64 y, .int .u64 (v : Nat), .slice A q c]
 have hcon := resget_any g cs S N n y w3 (h.below b3) (by omega) hn hy
 obtain ⟨R, hR⟩ : ∃ R, R = getR S n y := ⟨_, rfl⟩
 rw [← hR] at hcon ⊢
 obtain ⟨⟨rv, rt, re⟩, rS⟩ := R
 dsimp only at hcon ⊢
 have HP := Lib.hid hcon
 have HW := Lib.hid hw3
 have H := Lib.hid (And.intro h.lt (And.intro b3 (And.intro k4 k5)))
 have HQ : Hid (∀ e w', CallO w g N ((rv, rt, [], re), rS) e w' ↔ ∃ A q c, e = .returned (.agg #[.int .u64 (((rv, rt, [], re), rS).1.1 : Nat), .bool ((rv, rt, [], re), rS).1.2.1, .slice A q c, .int .i64 ((rv, rt, [], re), rS).1.2.2.2]) ∧ q = ((rv, rt, [], re), rS).1.2.2.1.length ∧ OwnC w' w.heap.size A c ((rv, rt, [], re), rS).1.2.2.1 ∧ ResO w g ((rv, rt, [], re), rS).2 (N + 4) w') := Lib.hid fun _ _ => Iff.rfl
 clear h hw3 b3 k4 k5 hcon hR hn hy
 go_enter Tryz.func12, Tryz.ntmps12
 go_wp2_with fail
 rw [← HW.out]
 refine HP.out.mono ?_
 rintro e u ⟨rfl, hO⟩
 have T0 := TS.mk' (N := N + 4) H.out.1 H.out.2.1 H.out.2.2.1 H.out.2.2.2 hO (by omega)
 have x0 := T0.k5.cell 0
 have x1 := T0.k5.cell 1
 have x2 := T0.k5.cell 2
 have x3 := T0.k5.cell 3
 have z0 := T0.k4.cell 0
 have z1 := T0.k4.cell 1
 have z2 := T0.k4.cell 2
 have z3 := T0.k4.cell 3
 simp only [List.getElem?_toArray, List.getElem?_cons_zero, List.getElem?_cons_succ] at x0 x1 x2 x3 z0 z1 z2 z3
 have f3 := T0.k5.frozen
 have g3 := T0.k4.frozen
 have T9 := (((((((T0.set5 0 (.int .u64 (rv : Nat))).set5 1 (.bool rt)).set5 3 (.int .i64 re)).set4 0 (.int .u64 (rv : Nat))).set4 1 (.bool rt)).set4 2 (.slice none 0 0)).set4 3 (.int .i64 re))
 have r0 := T9.k4.cell 0
 have r1 := T9.k4.cell 1
 have r2 := T9.k4.cell 2
 have r3 := T9.k4.cell 3
 simp only [List.setIfInBounds_toArray, List.set_cons_succ, List.set_cons_zero, List.getElem?_toArray, List.getElem?_cons_zero, List.getElem?_cons_succ] at r0 r1 r2 r3
 have HX := Lib.hid (show ResO w g rS (N + 4) _ from ⟨T9.ra, T9.gr⟩)
 clear T0 T9 hO
 go_wp2
 refine bodyPost_ret (by simp [results, Tryz.results12, go_sem, r0, r1, r2, r3]; try rfl) rfl ?_
 exact (HQ.out _ _).2 ⟨none, 0, 0, rfl, rfl, OwnC.nil _ _, HX.out⟩
set_option maxRecDepth 100000 in
set_option maxHeartbeats 2000000 in
theorem call_put (g : Nat) (cs : Array Value) (S : RS) (N : Nat) (n y : Int) (v : Nat) (A : Option Addr) (q c : Nat) (w : World) (h : ResAt w g cs S N) (hN : N < 190000) (hn : i64ok n) (hy : i64ok y) (hBK : ∀ b, w.heap.size ≤ b → S.K.B b) :
  Calls Tryz.prog 12 #[.pointer (some ⟨g, 0, none⟩), .agg #[.int .i64 1, .int .i64 n, .int .i64 y, .int .u64 (v : Nat), .slice A q c]] w (CallO w g N ((0, false, [], (putR S n y v).1), (putR S n y v).2)) := by
 obtain ⟨w3, hw3, b3, k4, k5⟩ := TS.laid w #[.int .i64 1, .int .i64 n, .int .i64 y, .int .u64 (v : Nat), .slice A q c]
 have hcon := resput_any g cs S N n y v w3 (h.below b3) (by omega) hn hy (fun b hb => hBK b (Nat.le_trans b3.size hb))
 obtain ⟨R, hR⟩ : ∃ R, R = putR S n y v := ⟨_, rfl⟩
 rw [← hR] at hcon ⊢
 obtain ⟨re, rS⟩ := R
 dsimp only at hcon ⊢
 have HP := Lib.hid hcon
 have HW := Lib.hid hw3
 have H := Lib.hid (And.intro h.lt (And.intro b3 (And.intro k4 k5)))
 have HQ : Hid (∀ e w', CallO w g N ((0, false, [], re), rS) e w' ↔ ∃ A q c, e = .returned (.agg #[.int .u64 (((0, false, [], re), rS).1.1 : Nat), .bool ((0, false, [], re), rS).1.2.1, .slice A q c, .int .i64 ((0, false, [], re), rS).1.2.2.2]) ∧ q = ((0, false, [], re), rS).1.2.2.1.length ∧ OwnC w' w.heap.size A c ((0, false, [], re), rS).1.2.2.1 ∧ ResO w g ((0, false, [], re), rS).2 (N + 4) w') := Lib.hid fun _ _ => Iff.rfl
 clear h hw3 b3 k4 k5 hcon hR hn hy hBK
 go_enter Tryz.func12, Tryz.ntmps12
 go_wp2_with fail
 rw [← HW.out]
 refine HP.out.mono ?_
 rintro e u ⟨rfl, hO⟩
 have T0 := TS.mk' (N := N + 4) H.out.1 H.out.2.1 H.out.2.2.1 H.out.2.2.2 hO (by omega)
 have x0 := T0.k5.cell 0
 have x1 := T0.k5.cell 1
 have x2 := T0.k5.cell 2
 have x3 := T0.k5.cell 3
 have z0 := T0.k4.cell 0
 have z1 := T0.k4.cell 1
 have z2 := T0.k4.cell 2
 have z3 := T0.k4.cell 3
 simp only [List.getElem?_toArray, List.getElem?_cons_zero, List.getElem?_cons_succ] at x0 x1 x2 x3 z0 z1 z2 z3
 have f3 := T0.k5.frozen
 have g3 := T0.k4.frozen
 have T9 := (((((T0.set5 3 (.int .i64 re)).set4 0 (.int .u64 0)).set4 1 (.bool false)).set4 2 (.slice none 0 0)).set4 3 (.int .i64 re))
 have r0 := T9.k4.cell 0
 have r1 := T9.k4.cell 1
 have r2 := T9.k4.cell 2
 have r3 := T9.k4.cell 3
 simp only [List.setIfInBounds_toArray, List.set_cons_succ, List.set_cons_zero, List.getElem?_toArray, List.getElem?_cons_zero, List.getElem?_cons_succ] at r0 r1 r2 r3
 have HX := Lib.hid (show ResO w g rS (N + 4) _ from ⟨T9.ra, T9.gr⟩)
 clear T0 T9 hO
 go_wp2
 refine bodyPost_ret (by simp [results, Tryz.results12, go_sem, r0, r1, r2, r3]; try rfl) rfl ?_
 exact (HQ.out _ _).2 ⟨none, 0, 0, rfl, rfl, OwnC.nil _ _, HX.out⟩
set_option maxRecDepth 100000 in
set_option maxHeartbeats 2000000 in
theorem call_del (g : Nat) (cs : Array Value) (S : RS) (N : Nat) (n y : Int) (v : Nat) (A : Option Addr) (q c : Nat) (w : World) (h : ResAt w g cs S N) (hN : N < 190000) (hn : i64ok n) (hy : i64ok y) (hBK : ∀ b, w.heap.size ≤ b → S.K.B b) :
  Calls Tryz.prog 12 #[.pointer (some ⟨g, 0, none⟩), .agg #[.int .i64 2, .int .i64 n, .int .i64 y, .int .u64 (v : Nat), .slice A q c]] w (CallO w g N ((0, false, [], (delR S n y).1), (delR S n y).2)) := by
 obtain ⟨w3, hw3, b3, k4, k5⟩ := TS.laid w #[.int .i64 2, .int .i64 n, .int .i64 y, .int .u64 (v : Nat), .slice A q c]
 have hcon := resdel_any g cs S N n y w3 (h.below b3) (by omega) hn hy (fun b hb => hBK b (Nat.le_trans b3.size hb))
 obtain ⟨R, hR⟩ : ∃ R, R = delR S n y := ⟨_, rfl⟩
 rw [← hR] at hcon ⊢
 obtain ⟨re, rS⟩ := R
 dsimp only at hcon ⊢
 have HP := Lib.hid hcon
 have HW := Lib.hid hw3
 have H := Lib.hid (And.intro h.lt (And.intro b3 (And.intro k4 k5)))
 have HQ : Hid (∀ e w', CallO w g N ((0, false, [], re), rS) e w' ↔ ∃ A q c, e = .returned (.agg #[.int .u64 (((0, false, [], re), rS).1.1 : Nat), .bool ((0, false, [], re), rS).1.2.1, .slice A q c, .int .i64 ((0, false, [], re), rS).1.2.2.2]) ∧ q = ((0, false, [], re), rS).1.2.2.1.length ∧ OwnC w' w.heap.size A c ((0, false, [], re), rS).1.2.2.1 ∧ ResO w g ((0, false, [], re), rS).2 (N + 4) w') := Lib.hid fun _ _ => Iff.rfl
 clear h hw3 b3 k4 k5 hcon hR hn hy hBK
 go_enter Tryz.func12, Tryz.ntmps12
 go_wp2_with fail
 rw [← HW.out]
 refine HP.out.mono ?_
 rintro e u ⟨rfl, hO⟩
 have T0 := TS.mk' (N := N + 4) H.out.1 H.out.2.1 H.out.2.2.1 H.out.2.2.2 hO (by omega)
 have x0 := T0.k5.cell 0
 have x1 := T0.k5.cell 1
 have x2 := T0.k5.cell 2
 have x3 := T0.k5.cell 3
 have z0 := T0.k4.cell 0
 have z1 := T0.k4.cell 1
 have z2 := T0.k4.cell 2
 have z3 := T0.k4.cell 3
 simp only [List.getElem?_toArray, List.getElem?_cons_zero, List.getElem?_cons_succ] at x0 x1 x2 x3 z0 z1 z2 z3
 have f3 := T0.k5.frozen
 have g3 := T0.k4.frozen
 have T9 := (((((T0.set5 3 (.int .i64 re)).set4 0 (.int .u64 0)).set4 1 (.bool false)).set4 2 (.slice none 0 0)).set4 3 (.int .i64 re))
 have r0 := T9.k4.cell 0
 have r1 := T9.k4.cell 1
 have r2 := T9.k4.cell 2
 have r3 := T9.k4.cell 3
 simp only [List.setIfInBounds_toArray, List.set_cons_succ, List.set_cons_zero, List.getElem?_toArray, List.getElem?_cons_zero, List.getElem?_cons_succ] at r0 r1 r2 r3
 have HX := Lib.hid (show ResO w g rS (N + 4) _ from ⟨T9.ra, T9.gr⟩)
 clear T0 T9 hO
 go_wp2
 refine bodyPost_ret (by simp [results, Tryz.results12, go_sem, r0, r1, r2, r3]; try rfl) rfl ?_
 exact (HQ.out _ _).2 ⟨none, 0, 0, rfl, rfl, OwnC.nil _ _, HX.out⟩
set_option maxRecDepth 100000 in
set_option maxHeartbeats 2000000 in
theorem call_push (g : Nat) (cs : Array Value) (S : RS) (N : Nat) (n y : Int) (v : Nat) (A : Option Addr) (q c : Nat) (w : World) (h : ResAt w g cs S N) (hN : N < 190000) (hn : i64ok n) (hBQ : ∀ b, w.heap.size ≤ b → S.Q.B b) :
  Calls Tryz.prog 12 #[.pointer (some ⟨g, 0, none⟩), .agg #[.int .i64 3, .int .i64 n, .int .i64 y, .int .u64 (v : Nat), .slice A q c]] w (CallO w g N ((0, false, [], (pushR S n v).1), (pushR S n v).2)) := by
 obtain ⟨w3, hw3, b3, k4, k5⟩ := TS.laid w #[.int .i64 3, .int .i64 n, .int .i64 y, .int .u64 (v : Nat), .slice A q c]
 have hcon := respush_any g cs S N n v w3 (h.below b3) (by omega) hn (fun b hb => hBQ b (Nat.le_trans b3.size hb))
 obtain ⟨R, hR⟩ : ∃ R, R = pushR S n v := ⟨_, rfl⟩
 rw [← hR] at hcon ⊢
 obtain ⟨re, rS⟩ := R
 dsimp only at hcon ⊢
 have HP := Lib.hid hcon
 have HW := Lib.hid hw3
 have H := Lib.hid (And.intro h.lt (And.intro b3 (And.intro k4 k5)))
 have HQ : Hid (∀ e w', CallO w g N ((0, false, [], re), rS) e w' ↔ ∃ A q c, e = .returned (.agg #[.int .u64 (((0, false, [], re), rS).1.1 : Nat), .bool ((0, false, [], re), rS).1.2.1, .slice A q c, .int .i64 ((0, false, [], re), rS).1.2.2.2]) ∧ q = ((0, false, [], re), rS).1.2.2.1.length ∧ OwnC w' w.heap.size A c ((0, false, [], re), rS).1.2.2.1 ∧ ResO w g ((0, false, [], re), rS).2 (N + 4) w') := Lib.hid fun _ _ => Iff.rfl
 clear h hw3 b3 k4 k5 hcon hR hn hBQ
 go_enter Tryz.func12, Tryz.ntmps12
 go_wp2_with fail
 rw [← HW.out]
 refine HP.out.mono ?_
 rintro e u ⟨rfl, hO⟩
 have T0 := TS.mk' (N := N + 4) H.out.1 H.out.2.1 H.out.2.2.1 H.out.2.2.2 hO (by omega)
 have x0 := T0.k5.cell 0
 have x1 := T0.k5.cell 1
 have x2 := T0.k5.cell 2
 have x3 := T0.k5.cell 3
 have z0 := T0.k4.cell 0
 have z1 := T0.k4.cell 1
 have z2 := T0.k4.cell 2
 have z3 := T0.k4.cell 3
 simp only [List.getElem?_toArray, List.getElem?_cons_zero, List.getElem?_cons_succ] at x0 x1 x2 x3 z0 z1 z2 z3
 have f3 := T0.k5.frozen
 have g3 := T0.k4.frozen
 have T9 := (((((T0.set5 3 (.int .i64 re)).set4 0 (.int .u64 0)).set4 1 (.bool false)).set4 2 (.slice none 0 0)).set4 3 (.int .i64 re))
 have r0 := T9.k4.cell 0
 have r1 := T9.k4.cell 1
 have r2 := T9.k4.cell 2
 have r3 := T9.k4.cell 3
 simp only [List.setIfInBounds_toArray, List.set_cons_succ, List.set_cons_zero, List.getElem?_toArray, List.getElem?_cons_zero, List.getElem?_cons_succ] at r0 r1 r2 r3
 have HX := Lib.hid (show ResO w g rS (N + 4) _ from ⟨T9.ra, T9.gr⟩)
 clear T0 T9 hO
 go_wp2
 refine bodyPost_ret (by simp [results, Tryz.results12, go_sem, r0, r1, r2, r3]; try rfl) rfl ?_
 exact (HQ.out _ _).2 ⟨none, 0, 0, rfl, rfl, OwnC.nil _ _, HX.out⟩
set_option maxRecDepth 100000 in
set_option maxHeartbeats 2000000 in
theorem call_pop (g : Nat) (cs : Array Value) (S : RS) (N : Nat) (n y : Int) (v : Nat) (A : Option Addr) (q c : Nat) (w : World) (h : ResAt w g cs S N) (hN : N < 190000) (hn : i64ok n) (hBQ : ∀ b, w.heap.size ≤ b → S.Q.B b) :
  Calls Tryz.prog 12 #[.pointer (some ⟨g, 0, none⟩), .agg #[.int .i64 4, .int .i64 n, .int .i64 y, .int .u64 (v : Nat), .slice A q c]] w (CallO w g N (((popR S n).1.1, false, [], (popR S n).1.2), (popR S n).2)) := by
 obtain ⟨w3, hw3, b3, k4, k5⟩ := TS.laid w #[.int .i64 4, .int .i64 n, .int .i64 y, .int .u64 (v : Nat), .slice A q c]
 have hcon := respop_any g cs S N n w3 (h.below b3) (by omega) hn (fun b hb => hBQ b (Nat.le_trans b3.size hb))
 obtain ⟨R, hR⟩ : ∃ R, R = popR S n := ⟨_, rfl⟩
 rw [← hR] at hcon ⊢
 obtain ⟨⟨rv, re⟩, rS⟩ := R
 dsimp only at hcon ⊢
 have HP := Lib.hid hcon
 have HW := Lib.hid hw3
 have H := Lib.hid (And.intro h.lt (And.intro b3 (And.intro k4 k5)))
 have HQ : Hid (∀ e w', CallO w g N ((rv, false, [], re), rS) e w' ↔ ∃ A q c, e = .returned (.agg #[.int .u64 (((rv, false, [], re), rS).1.1 : Nat), .bool ((rv, false, [], re), rS).1.2.1, .slice A q c, .int .i64 ((rv, false, [], re), rS).1.2.2.2]) ∧ q = ((rv, false, [], re), rS).1.2.2.1.length ∧ OwnC w' w.heap.size A c ((rv, false, [], re), rS).1.2.2.1 ∧ ResO w g ((rv, false, [], re), rS).2 (N + 4) w') := Lib.hid fun _ _ => Iff.rfl
 clear h hw3 b3 k4 k5 hcon hR hn hBQ
 go_enter Tryz.func12, Tryz.ntmps12
 go_wp2_with fail
 rw [← HW.out]
 refine HP.out.mono ?_
 rintro e u ⟨rfl, hO⟩
 have T0 := TS.mk' (N := N + 4) H.out.1 H.out.2.1 H.out.2.2.1 H.out.2.2.2 hO (by omega)
 have x0 := T0.k5.cell 0
 have x1 := T0.k5.cell 1
 have x2 := T0.k5.cell 2
 have x3 := T0.k5.cell 3
 have z0 := T0.k4.cell 0
 have z1 := T0.k4.cell 1
 have z2 := T0.k4.cell 2
 have z3 := T0.k4.cell 3
 simp only [List.getElem?_toArray, List.getElem?_cons_zero, List.getElem?_cons_succ] at x0 x1 x2 x3 z0 z1 z2 z3
 have f3 := T0.k5.frozen
 have g3 := T0.k4.frozen
 have T9 := ((((((T0.set5 0 (.int .u64 (rv : Nat))).set5 3 (.int .i64 re)).set4 0 (.int .u64 (rv : Nat))).set4 1 (.bool false)).set4 2 (.slice none 0 0)).set4 3 (.int .i64 re))
 have r0 := T9.k4.cell 0
 have r1 := T9.k4.cell 1
 have r2 := T9.k4.cell 2
 have r3 := T9.k4.cell 3
 simp only [List.setIfInBounds_toArray, List.set_cons_succ, List.set_cons_zero, List.getElem?_toArray, List.getElem?_cons_zero, List.getElem?_cons_succ] at r0 r1 r2 r3
 have HX := Lib.hid (show ResO w g rS (N + 4) _ from ⟨T9.ra, T9.gr⟩)
 clear T0 T9 hO
 go_wp2
 refine bodyPost_ret (by simp [results, Tryz.results12, go_sem, r0, r1, r2, r3]; try rfl) rfl ?_
 exact (HQ.out _ _).2 ⟨none, 0, 0, rfl, rfl, OwnC.nil _ _, HX.out⟩
set_option maxRecDepth 100000 in
set_option maxHeartbeats 2000000 in
theorem call_prep (g : Nat) (cs : Array Value) (S : RS) (N : Nat) (n y : Int) (v : Nat) (A : Option Addr) (q c : Nat) (w : World) (h : ResAt w g cs S N) (hN : N < 190000) (hn : i64ok n) (hl : (prepM S.K n).1.1.length ≤ 400000 ∧ (Qu.prepM S.Q n).1.1.length ≤ 400000) :
  Calls Tryz.prog 12 #[.pointer (some ⟨g, 0, none⟩), .agg #[.int .i64 5, .int .i64 n, .int .i64 y, .int .u64 (v : Nat), .slice A q c]] w (CallO w g N ((0, false, (prepR S n).1.1, (prepR S n).1.2), (prepR S n).2)) := by
 obtain ⟨w3, hw3, b3, k4, k5⟩ := TS.laid w #[.int .i64 5, .int .i64 n, .int .i64 y, .int .u64 (v : Nat), .slice A q c]
 have hcon := resprep_any g cs S N n w3 (h.below b3) (by omega) hn hl
 obtain ⟨R, hR⟩ : ∃ R, R = prepR S n := ⟨_, rfl⟩
 rw [← hR] at hcon ⊢
 obtain ⟨⟨rl, re⟩, rS⟩ := R
 dsimp only at hcon ⊢
 have HP := Lib.hid hcon
 have HW := Lib.hid hw3
 have H := Lib.hid (And.intro h.lt (And.intro b3 (And.intro k4 k5)))
 have HQ : Hid (∀ e w', CallO w g N ((0, false, rl, re), rS) e w' ↔ ∃ A q c, e = .returned (.agg #[.int .u64 (((0, false, rl, re), rS).1.1 : Nat), .bool ((0, false, rl, re), rS).1.2.1, .slice A q c, .int .i64 ((0, false, rl, re), rS).1.2.2.2]) ∧ q = ((0, false, rl, re), rS).1.2.2.1.length ∧ OwnC w' w.heap.size A c ((0, false, rl, re), rS).1.2.2.1 ∧ ResO w g ((0, false, rl, re), rS).2 (N + 4) w') := Lib.hid fun _ _ => Iff.rfl
 clear h hw3 b3 k4 k5 hcon hR hn hl
 go_enter Tryz.func12, Tryz.ntmps12
 go_wp2_with fail
 rw [← HW.out]
 refine HP.out.mono ?_
 rintro e u ⟨⟨A5, q5, c5, rfl, hq5, own⟩, hO⟩
 have T0 := TS.mk' (N := N + 4) H.out.1 H.out.2.1 H.out.2.2.1 H.out.2.2.2 hO (by omega)
 have x0 := T0.k5.cell 0
 have x1 := T0.k5.cell 1
 have x2 := T0.k5.cell 2
 have x3 := T0.k5.cell 3
 have z0 := T0.k4.cell 0
 have z1 := T0.k4.cell 1
 have z2 := T0.k4.cell 2
 have z3 := T0.k4.cell 3
 simp only [List.getElem?_toArray, List.getElem?_cons_zero, List.getElem?_cons_succ] at x0 x1 x2 x3 z0 z1 z2 z3
 have f3 := T0.k5.frozen
 have g3 := T0.k4.frozen
 have T9 := ((((((T0.set5 2 (.slice A5 q5 c5)).set5 3 (.int .i64 re)).set4 0 (.int .u64 0)).set4 1 (.bool false)).set4 2 (.slice A5 q5 c5)).set4 3 (.int .i64 re))
 have r0 := T9.k4.cell 0
 have r1 := T9.k4.cell 1
 have r2 := T9.k4.cell 2
 have r3 := T9.k4.cell 3
 simp only [List.setIfInBounds_toArray, List.set_cons_succ, List.set_cons_zero, List.getElem?_toArray, List.getElem?_cons_zero, List.getElem?_cons_succ] at r0 r1 r2 r3
 have hlo := H.out.2.1.size
 have hl3 : w.heap.size + 1 + 1 < w3.heap.size := H.out.2.2.2.lt
 have kp : ∀ {u : World} (b i : Nat) (x : Value), OwnC u w3.heap.size A5 c5 rl → b < w3.heap.size → OwnC (u.setCell ⟨b, i, none⟩ x) w3.heap.size A5 c5 rl := fun {u} b i x ho hb => ho.kept (lgrown_set u ⟨b, i, none⟩ x) (fun r e => by cases e; exact hb)
 have own9 := (kp (w.heap.size + 1) 3 (.int .i64 re) (kp (w.heap.size + 1) 2 (.slice A5 q5 c5) (kp (w.heap.size + 1) 1 (.bool false) (kp (w.heap.size + 1) 0 (.int .u64 0) (kp (w.heap.size + 1 + 1) 3 (.int .i64 re) (kp (w.heap.size + 1 + 1) 2 (.slice A5 q5 c5) own (by omega)) (by omega)) (by omega)) (by omega)) (by omega)) (by omega))
 have HX := Lib.hid (And.intro hq5 (And.intro (own9.less hlo) (show ResO w g rS (N + 4) _ from ⟨T9.ra, T9.gr⟩)))
 clear T0 T9 hO own own9 hq5 hlo hl3
 go_wp2
 refine bodyPost_ret (by simp [results, Tryz.results12, go_sem, r0, r1, r2, r3]; try rfl) rfl ?_
 exact (HQ.out _ _).2 ⟨A5, q5, c5, rfl, HX.out.1, HX.out.2.1, HX.out.2.2⟩
set_option maxRecDepth 100000 in
set_option maxHeartbeats 2000000 in
theorem call_commit (g : Nat) (cs : Array Value) (S : RS) (N : Nat) (n y : Int) (v : Nat) (A : Option Addr) (q c : Nat) (w : World) (h : ResAt w g cs S N) (hN : N < 190000) (hn : i64ok n) (hok : Qu.QOk S.Q) :
  Calls Tryz.prog 12 #[.pointer (some ⟨g, 0, none⟩), .agg #[.int .i64 6, .int .i64 n, .int .i64 y, .int .u64 (v : Nat), .slice A q c]] w (CallO w g N ((0, false, [], (commitR S n).1), (commitR S n).2)) := by
 obtain ⟨w3, hw3, b3, k4, k5⟩ := TS.laid w #[.int .i64 6, .int .i64 n, .int .i64 y, .int .u64 (v : Nat), .slice A q c]
 have hcon := rescommit_any g cs S N n w3 (h.below b3) hok (by omega) hn
 obtain ⟨R, hR⟩ : ∃ R, R = commitR S n := ⟨_, rfl⟩
 rw [← hR] at hcon ⊢
 obtain ⟨re, rS⟩ := R
 dsimp only at hcon ⊢
 have HP := Lib.hid hcon
 have HW := Lib.hid hw3
 have H := Lib.hid (And.intro h.lt (And.intro b3 (And.intro k4 k5)))
 have HQ : Hid (∀ e w', CallO w g N ((0, false, [], re), rS) e w' ↔ ∃ A q c, e = .returned (.agg #[.int .u64 (((0, false, [], re), rS).1.1 : Nat), .bool ((0, false, [], re), rS).1.2.1, .slice A q c, .int .i64 ((0, false, [], re), rS).1.2.2.2]) ∧ q = ((0, false, [], re), rS).1.2.2.1.length ∧ OwnC w' w.heap.size A c ((0, false, [], re), rS).1.2.2.1 ∧ ResO w g ((0, false, [], re), rS).2 (N + 4) w') := Lib.hid fun _ _ => Iff.rfl
 clear h hw3 b3 k4 k5 hcon hR hn hok
 go_enter Tryz.func12, Tryz.ntmps12
 go_wp2_with fail
 rw [← HW.out]
 refine HP.out.mono ?_
 rintro e u ⟨rfl, hO⟩
 have T0 := TS.mk' (N := N + 4) H.out.1 H.out.2.1 H.out.2.2.1 H.out.2.2.2 hO (by omega)
 have x0 := T0.k5.cell 0
 have x1 := T0.k5.cell 1
 have x2 := T0.k5.cell 2
 have x3 := T0.k5.cell 3
 have z0 := T0.k4.cell 0
 have z1 := T0.k4.cell 1
 have z2 := T0.k4.cell 2
 have z3 := T0.k4.cell 3
 simp only [List.getElem?_toArray, List.getElem?_cons_zero, List.getElem?_cons_succ] at x0 x1 x2 x3 z0 z1 z2 z3
 have f3 := T0.k5.frozen
 have g3 := T0.k4.frozen
 have T9 := (((((T0.set5 3 (.int .i64 re)).set4 0 (.int .u64 0)).set4 1 (.bool false)).set4 2 (.slice none 0 0)).set4 3 (.int .i64 re))
 have r0 := T9.k4.cell 0
 have r1 := T9.k4.cell 1
 have r2 := T9.k4.cell 2
 have r3 := T9.k4.cell 3
 simp only [List.setIfInBounds_toArray, List.set_cons_succ, List.set_cons_zero, List.getElem?_toArray, List.getElem?_cons_zero, List.getElem?_cons_succ] at r0 r1 r2 r3
 have HX := Lib.hid (show ResO w g rS (N + 4) _ from ⟨T9.ra, T9.gr⟩)
 clear T0 T9 hO
 go_wp2
 refine bodyPost_ret (by simp [results, Tryz.results12, go_sem, r0, r1, r2, r3]; try rfl) rfl ?_
 exact (HQ.out _ _).2 ⟨none, 0, 0, rfl, rfl, OwnC.nil _ _, HX.out⟩
set_option maxRecDepth 100000 in
set_option maxHeartbeats 2000000 in
theorem call_back (g : Nat) (cs : Array Value) (S : RS) (N : Nat) (n y : Int) (v : Nat) (A : Option Addr) (q c : Nat) (w : World) (h : ResAt w g cs S N) (hN : N < 190000) (hn : i64ok n)  :
  Calls Tryz.prog 12 #[.pointer (some ⟨g, 0, none⟩), .agg #[.int .i64 7, .int .i64 n, .int .i64 y, .int .u64 (v : Nat), .slice A q c]] w (CallO w g N ((0, false, [], (backR S n).1), (backR S n).2)) := by
 obtain ⟨w3, hw3, b3, k4, k5⟩ := TS.laid w #[.int .i64 7, .int .i64 n, .int .i64 y, .int .u64 (v : Nat), .slice A q c]
 have hcon := resbackout_any g cs S N n w3 (h.below b3) (by omega) hn
 obtain ⟨R, hR⟩ : ∃ R, R = backR S n := ⟨_, rfl⟩
 rw [← hR] at hcon ⊢
 obtain ⟨re, rS⟩ := R
 dsimp only at hcon ⊢
 have HP := Lib.hid hcon
 have HW := Lib.hid hw3
 have H := Lib.hid (And.intro h.lt (And.intro b3 (And.intro k4 k5)))
 have HQ : Hid (∀ e w', CallO w g N ((0, false, [], re), rS) e w' ↔ ∃ A q c, e = .returned (.agg #[.int .u64 (((0, false, [], re), rS).1.1 : Nat), .bool ((0, false, [], re), rS).1.2.1, .slice A q c, .int .i64 ((0, false, [], re), rS).1.2.2.2]) ∧ q = ((0, false, [], re), rS).1.2.2.1.length ∧ OwnC w' w.heap.size A c ((0, false, [], re), rS).1.2.2.1 ∧ ResO w g ((0, false, [], re), rS).2 (N + 4) w') := Lib.hid fun _ _ => Iff.rfl
 clear h hw3 b3 k4 k5 hcon hR hn
 go_enter Tryz.func12, Tryz.ntmps12
 go_wp2_with fail
 rw [← HW.out]
 refine HP.out.mono ?_
 rintro e u ⟨rfl, hO⟩
 have T0 := TS.mk' (N := N + 4) H.out.1 H.out.2.1 H.out.2.2.1 H.out.2.2.2 hO (by omega)
 have x0 := T0.k5.cell 0
 have x1 := T0.k5.cell 1
 have x2 := T0.k5.cell 2
 have x3 := T0.k5.cell 3
 have z0 := T0.k4.cell 0
 have z1 := T0.k4.cell 1
 have z2 := T0.k4.cell 2
 have z3 := T0.k4.cell 3
 simp only [List.getElem?_toArray, List.getElem?_cons_zero, List.getElem?_cons_succ] at x0 x1 x2 x3 z0 z1 z2 z3
 have f3 := T0.k5.frozen
 have g3 := T0.k4.frozen
 have T9 := (((((T0.set5 3 (.int .i64 re)).set4 0 (.int .u64 0)).set4 1 (.bool false)).set4 2 (.slice none 0 0)).set4 3 (.int .i64 re))
 have r0 := T9.k4.cell 0
 have r1 := T9.k4.cell 1
 have r2 := T9.k4.cell 2
 have r3 := T9.k4.cell 3
 simp only [List.setIfInBounds_toArray, List.set_cons_succ, List.set_cons_zero, List.getElem?_toArray, List.getElem?_cons_zero, List.getElem?_cons_succ] at r0 r1 r2 r3
 have HX := Lib.hid (show ResO w g rS (N + 4) _ from ⟨T9.ra, T9.gr⟩)
 clear T0 T9 hO
 go_wp2
 refine bodyPost_ret (by simp [results, Tryz.results12, go_sem, r0, r1, r2, r3]; try rfl) rfl ?_
 exact (HQ.out _ _).2 ⟨none, 0, 0, rfl, rfl, OwnC.nil _ _, HX.out⟩
set_option maxRecDepth 100000 in
set_option maxHeartbeats 2000000 in
theorem call_restore (g : Nat) (cs : Array Value) (S : RS) (N : Nat) (n y : Int) (v : Nat) (A : Option Addr) (q c : Nat) (w : World) (h : ResAt w g cs S N) (hN : N < 190000) (hn : i64ok n) (l : List Ch) (hq : Hid (q = l.length)) (hqN : q ≤ N + 1) (hcap : q ≤ c ∧ c ≤ 9223372036854775807) (hL : ∀ u, w.grownBy u (some g) → InL u A l) (hBK : ∀ b, w.heap.size ≤ b → S.K.B b) (hBQ : ∀ b, w.heap.size ≤ b → S.Q.B b) :
  Calls Tryz.prog 12 #[.pointer (some ⟨g, 0, none⟩), .agg #[.int .i64 8, .int .i64 n, .int .i64 y, .int .u64 (v : Nat), .slice A q c]] w (CallO w g N ((0, false, [], (restoreR S n l).1), (restoreR S n l).2)) := by
 obtain ⟨w3, hw3, b3, k4, k5⟩ := TS.laid w #[.int .i64 8, .int .i64 n, .int .i64 y, .int .u64 (v : Nat), .slice A q c]
 have hcon := resrestore_any g cs S N n A l q c w3 (h.below b3) (by omega) hn hq hqN hcap (fun u hu => hL u ((lbelow_grown b3 (some g)).trans hu)) (fun b hb => hBK b (Nat.le_trans b3.size hb)) (fun b hb => hBQ b (Nat.le_trans b3.size hb))
 obtain ⟨R, hR⟩ : ∃ R, R = restoreR S n l := ⟨_, rfl⟩
 rw [← hR] at hcon ⊢
 obtain ⟨re, rS⟩ := R
 dsimp only at hcon ⊢
 have HP := Lib.hid hcon
 have HW := Lib.hid hw3
 have H := Lib.hid (And.intro h.lt (And.intro b3 (And.intro k4 k5)))
 have HQ : Hid (∀ e w', CallO w g N ((0, false, [], re), rS) e w' ↔ ∃ A q c, e = .returned (.agg #[.int .u64 (((0, false, [], re), rS).1.1 : Nat), .bool ((0, false, [], re), rS).1.2.1, .slice A q c, .int .i64 ((0, false, [], re), rS).1.2.2.2]) ∧ q = ((0, false, [], re), rS).1.2.2.1.length ∧ OwnC w' w.heap.size A c ((0, false, [], re), rS).1.2.2.1 ∧ ResO w g ((0, false, [], re), rS).2 (N + 4) w') := Lib.hid fun _ _ => Iff.rfl
 clear h hw3 b3 k4 k5 hcon hR hn hcap hL hBK hBQ
 go_enter Tryz.func12, Tryz.ntmps12
 go_wp2_with fail
 rw [← HW.out]
 refine HP.out.mono ?_
 rintro e u ⟨rfl, hO⟩
 have T0 := TS.mk' (N := N + 4) H.out.1 H.out.2.1 H.out.2.2.1 H.out.2.2.2 hO (by omega)
 have x0 := T0.k5.cell 0
 have x1 := T0.k5.cell 1
 have x2 := T0.k5.cell 2
 have x3 := T0.k5.cell 3
 have z0 := T0.k4.cell 0
 have z1 := T0.k4.cell 1
 have z2 := T0.k4.cell 2
 have z3 := T0.k4.cell 3
 simp only [List.getElem?_toArray, List.getElem?_cons_zero, List.getElem?_cons_succ] at x0 x1 x2 x3 z0 z1 z2 z3
 have f3 := T0.k5.frozen
 have g3 := T0.k4.frozen
 have T9 := (((((T0.set5 3 (.int .i64 re)).set4 0 (.int .u64 0)).set4 1 (.bool false)).set4 2 (.slice none 0 0)).set4 3 (.int .i64 re))
 have r0 := T9.k4.cell 0
 have r1 := T9.k4.cell 1
 have r2 := T9.k4.cell 2
 have r3 := T9.k4.cell 3
 simp only [List.setIfInBounds_toArray, List.set_cons_succ, List.set_cons_zero, List.getElem?_toArray, List.getElem?_cons_zero, List.getElem?_cons_succ] at r0 r1 r2 r3
 have HX := Lib.hid (show ResO w g rS (N + 4) _ from ⟨T9.ra, T9.gr⟩)
 clear T0 T9 hO
 go_wp2
 refine bodyPost_ret (by simp [results, Tryz.results12, go_sem, r0, r1, r2, r3]; try rfl) rfl ?_
 exact (HQ.out _ _).2 ⟨none, 0, 0, rfl, rfl, OwnC.nil _ _, HX.out⟩
end Go.Proofs.YtlliaihmfimdoaaGreat.Re

