/- Parts OpenRe Sn So OpenRd of one proof. -/
import Derived.Test.YtlliaihmfimdoaaGreatMg27
import Derived.Test.YtlliaihmfimdoaaGreatMg25
namespace Go.Proofs.YtlliaihmfimdoaaGreat.Re
open Go.RowKit Go.ChangeShapes Go.WideShapes Go.Joins Go.Deep Go.Proofs.YtlliaihmfimdoaaGreat
set_option linter.unusedVariables false
set_option linter.unusedSimpArgs false
section
variable {H : Type} {enc : TypeId × Value → H} {W : World}
set_option maxRecDepth 1000000 in
theorem ops_trod {fuel : Nat} {v : Value} {y : DataW H × List MemPlace} (hf : DataW.trod enc Tryz.prog W 0 (fun _ => true) true fuel 22 [v] = some y) :
    ∃ A ops c, v = .slice A (List.length ops) c ∧ OpsAt W A ops := by
  have hC : Tryz.prog.cellsOf 42 = 5 := by kernel_rfl
  rcases open_slice Tryz.underlying22 hf with ⟨hcs, _⟩ | ⟨x, len, cap, m, n, D, Pl, hcs, _, hl, hm, hmm, _, hi⟩
  · simp at hcs
    subst hcs
    exact ⟨none, [], 0, rfl, by simp [maxLen], by simp, fun h => absurd h (by simp)⟩
  · simp at hcs
    subst hcs
    simp only [if_true] at hmm
    subst hmm
    have each : ∀ i, i < m → ∃ o : OpV, OpIn W o ∧ W.cell? (x.add (i * 5)) = some (.int .i64 o.k) ∧ W.cell? ((x.add (i * 5)).add 1) = some (.int .i64 o.n) ∧ W.cell? ((x.add (i * 5)).add 2) = some (.int .i64 o.y) ∧ W.cell? ((x.add (i * 5)).add 3) = some (.int .u64 (o.v : Nat)) ∧ W.cell? ((x.add (i * 5)).add 4) = some (.slice o.A o.l.length o.c) := by
      intro i him
      obtain ⟨cs', hc, ht⟩ := hi i him
      rw [hC] at hc
      obtain ⟨_, hcl, hat⟩ := World.cells?_some hc
      obtain ⟨xs, n', _, _, _, hxl, hf'⟩ := DataW.trod_struct Tryz.underlying42 ht
      match cs', hcl with
      | [c0, c1, c2, c3, c4], _ =>
        match xs, hxl with
        | [y0, y1, y2, y3, y4], _ =>
          have g0 := hf' 0 _ rfl
          have g1 := hf' 1 _ rfl
          have g2 := hf' 2 _ rfl
          have g3 := hf' 3 _ rfl
          have g4 := hf' 4 _ rfl
          have e_0 : Tryz.prog.cellsOf 3 = 1 := by kernel_rfl
          have e_1 : Tryz.prog.cellsOf 39 = 1 := by kernel_rfl
          have e_2 : Tryz.prog.cellsOf 40 = 1 := by kernel_rfl
          simp [e_0, e_1, e_2] at g0 g1 g2 g3 g4
          obtain ⟨z0, rfl, b0, d0⟩ := i64_trodB Tryz.underlying3 g0
          obtain ⟨z1, rfl, b1, d1⟩ := i64_trodB Tryz.underlying3 g1
          obtain ⟨z2, rfl, b2, d2⟩ := i64_trodB Tryz.underlying3 g2
          obtain ⟨z3, rfl, b3⟩ := u64_trodB Tryz.underlying39 g3
          obtain ⟨A4, l4, c4', rfl, b4⟩ := ch_trod g4
          have a0 := hat 0 (by omega)
          have a1 := hat 1 (by omega)
          have a2 := hat 2 (by omega)
          have a3 := hat 3 (by omega)
          have a4 := hat 4 (by omega)
          have ez : (x.add (i * 5)).add 0 = x.add (i * 5) := by simp [Addr.add]
          rw [ez] at a0
          exact ⟨⟨z0, z1, z2, z3, A4, l4, c4'⟩, ⟨⟨⟨b1, d1⟩, ⟨b2, d2⟩, b3⟩, b4.1, b4.2⟩, a0, a1, a2, a3, a4⟩
    let f : Nat → OpV := fun i => if h : i < m then (each i h).choose else ⟨0, 0, 0, 0, none, [], 0⟩
    have hf1 : ∀ i, (h : i < m) → OpIn W (f i) ∧ W.cell? (x.add (i * 5)) = some (.int .i64 (f i).k) ∧ W.cell? ((x.add (i * 5)).add 1) = some (.int .i64 (f i).n) ∧ W.cell? ((x.add (i * 5)).add 2) = some (.int .i64 (f i).y) ∧ W.cell? ((x.add (i * 5)).add 3) = some (.int .u64 ((f i).v : Nat)) ∧ W.cell? ((x.add (i * 5)).add 4) = some (.slice (f i).A (f i).l.length (f i).c) := by
      intro i h
      have := (each i h).choose_spec
      simp only [f, dif_pos h]
      exact this
    refine ⟨some x, (List.range len).map f, _, by simp; rfl, by simp; omega, fun o ho => ?_, fun hpos => ?_⟩
    · obtain ⟨i, hi', rfl⟩ := List.mem_map.1 ho
      exact (hf1 i (by have := List.mem_range.1 hi'; omega)).1
    · have hpos' : 0 < len := by simpa using hpos
      have h00 := (hf1 0 (by omega)).2.1
      have ez : x.add (0 * 5) = x := by simp [Addr.add]
      rw [ez] at h00
      obtain ⟨b, o, rfl, hlt⟩ := add_spotB h00
      refine ⟨b, o, rfl, hlt, fun i hi' => ?_⟩
      have hi2 : i < len := by simpa using hi'
      have := (hf1 i (by omega)).2
      simp only [Addr.add_lit] at this
      simpa using this
end
section
variable {H : Type} {enc : TypeId × Value → H} {W : World}
set_option maxRecDepth 1000000 in
theorem open_ops {r : Reach} {b0 : Nat} {v : Value} {d : DataW H} {p : List MemPlace} (hval : Value.okWide Tryz.prog W r b0 22 v) (h : DataW.Trod enc Tryz.prog W 0 (fun _ => true) true 22 v d p) :
    ∃ A ops c, v = .slice A (List.length ops) c ∧ OpsAt W A ops := by
  obtain ⟨a, len, cap, rfl⟩ := okWide_slice Tryz.underlying22 hval
  obtain ⟨fuel, hf⟩ := h
  exact ops_trod hf
end
theorem array5 {α : Type} {cs : Array α} (h : cs.size = 5) : ∃ c0 c1 c2 c3 c4, cs = #[c0, c1, c2, c3, c4] := by
  obtain ⟨l⟩ := cs
  match l, h with
  | [c0, c1, c2, c3, c4], _ => exact ⟨c0, c1, c2, c3, c4, rfl⟩
section
variable {H : Type} {enc : TypeId × Value → H} {W : World}
set_option maxRecDepth 1000000 in
theorem open_op15 {r : Reach} {b0 : Nat} {v : Value} {d : DataW H} {p : List MemPlace} (hval : Value.okWide Tryz.prog W r b0 42 v) (h : DataW.Trod enc Tryz.prog W 0 (fun _ => true) true 42 v d p) :
    ∃ o : OpV, v = o.val ∧ OpIn W o := by
  have hC : Tryz.prog.cellsOf 42 = 5 := by kernel_rfl
  obtain ⟨cs, rfl, hsz⟩ := okWide_struct Tryz.underlying42 hval
  obtain ⟨c0, c1, c2, c3, c4, rfl⟩ := array5 (hsz.trans hC)
  obtain ⟨fuel, hf⟩ := h
  obtain ⟨xs, n', _, _, _, hxl, hf'⟩ := DataW.trod_struct Tryz.underlying42 hf
  match xs, hxl with
  | [y0, y1, y2, y3, y4], _ =>
    have g0 := hf' 0 _ rfl
    have g1 := hf' 1 _ rfl
    have g2 := hf' 2 _ rfl
    have g3 := hf' 3 _ rfl
    have g4 := hf' 4 _ rfl
    have e_0 : Tryz.prog.cellsOf 3 = 1 := by kernel_rfl
    have e_1 : Tryz.prog.cellsOf 39 = 1 := by kernel_rfl
    have e_2 : Tryz.prog.cellsOf 40 = 1 := by kernel_rfl
    simp [Value.cells, e_0, e_1, e_2] at g0 g1 g2 g3 g4
    obtain ⟨z0, rfl, b0, d0⟩ := i64_trodB Tryz.underlying3 g0
    obtain ⟨z1, rfl, b1, d1⟩ := i64_trodB Tryz.underlying3 g1
    obtain ⟨z2, rfl, b2, d2⟩ := i64_trodB Tryz.underlying3 g2
    obtain ⟨z3, rfl, b3⟩ := u64_trodB Tryz.underlying39 g3
    obtain ⟨A4, l4, c4', rfl, b4⟩ := ch_trod g4
    exact ⟨⟨z0, z1, z2, z3, A4, l4, c4'⟩, rfl, ⟨⟨b1, d1⟩, ⟨b2, d2⟩, b3⟩, b4.1, b4.2⟩
end
end Go.Proofs.YtlliaihmfimdoaaGreat.Re

namespace Go.Proofs.YtlliaihmfimdoaaGreat.Re
open Go.RowKit Go.Maps Go.Deep Go.Proofs.YtlliaihmfimdoaaGreat
set_option linter.unusedVariables false
set_option linter.unusedSimpArgs false

def callR (S : RS) (o : OpV) : (Nat × Bool × List Ch × Int) × RS :=
  if o.k = 0 then (((getR S o.n o.y).1.1, (getR S o.n o.y).1.2.1, [], (getR S o.n o.y).1.2.2), (getR S o.n o.y).2)
  else if o.k = 1 then ((0, false, [], (putR S o.n o.y o.v).1), (putR S o.n o.y o.v).2)
  else if o.k = 2 then ((0, false, [], (delR S o.n o.y).1), (delR S o.n o.y).2)
  else if o.k = 3 then ((0, false, [], (pushR S o.n o.v).1), (pushR S o.n o.v).2)
  else if o.k = 4 then (((popR S o.n).1.1, false, [], (popR S o.n).1.2), (popR S o.n).2)
  else if o.k = 5 then ((0, false, (prepR S o.n).1.1, (prepR S o.n).1.2), (prepR S o.n).2)
  else if o.k = 6 then ((0, false, [], (commitR S o.n).1), (commitR S o.n).2)
  else if o.k = 7 then ((0, false, [], (backR S o.n).1), (backR S o.n).2)
  else if o.k = 8 then ((0, false, [], (restoreR S o.n o.l).1), (restoreR S o.n o.l).2)
  else ((0, false, [], 0), S)
/-- What comes of a call. -/
def CallO (w : World) (g : Nat) (N : Nat) (r : (Nat × Bool × List Ch × Int) × RS) (e : Ending) (w' : World) : Prop :=
  ∃ A q c, e = .returned (.agg #[.int .u64 (r.1.1 : Nat), .bool r.1.2.1, .slice A q c, .int .i64 r.1.2.2.2]) ∧ q = r.1.2.2.1.length ∧ OwnC w' w.heap.size A c r.1.2.2.1 ∧ ResO w g r.2 (N + 4) w'
theorem ResAt.off {w w' : World} {g b N : Nat} {cs ts : Array Value} {S : RS} (h : ResAt w g cs S N) (hg : w.grownBy w' (some b)) (hk : Blk w b 47 ts) : ResAt w' g cs S N := by
  obtain ⟨A, n, c, h1, h2, h3, h4, h5⟩ := h.pr
  have hne : g ≠ b := fun e => h.kv.bk.ne hk (by decide) e
  exact ⟨h.kv.far hg hne hk (by decide), h.qu.far hg hne hk (by decide) (by decide), ⟨A, n, c, h1, h2, h3, h4, h5.kept hg hk (by decide)⟩, h.ln⟩
theorem grown_new {w u u' : World} {g row : Option Nat} (h : w.grownBy u g) (k : u.grownBy u' row) (hr : ∀ r, row = some r → w.heap.size ≤ r) : w.grownBy u' g :=
  ⟨k.os.trans h.os, k.tape.trans h.tape, k.output.trans h.output, Nat.le_trans h.size k.size, fun r hl hx => (k.block r (Nat.lt_of_lt_of_le hl h.size) (fun e => by have := hr r e.symm; omega)).trans (h.block r hl hx)⟩
/-- Resources, and the two blocks in which a call's answer is made. -/
structure TS (w u : World) (g N b4 b5 : Nat) (S : RS) (t4 t5 : Array Value) : Prop where
  ra : ∃ cs, ResAt u g cs S N
  k4 : Blk u b4 47 t4
  k5 : Blk u b5 47 t5
  ne : b4 ≠ b5
  gr : w.grownBy u (some g)
  lo : w.heap.size ≤ b4 ∧ w.heap.size ≤ b5
theorem TS.set5 {w u : World} {g N b4 b5 : Nat} {S : RS} {t4 t5 : Array Value} (h : TS w u g N b4 b5 S t4 t5) (i : Nat) (v : Value) : TS w (u.setCell ⟨b5, i, none⟩ v) g N b4 b5 S t4 (t5.setIfInBounds i v) := by
  obtain ⟨cs, hr⟩ := h.ra
  have hg := lgrown_set u ⟨b5, i, none⟩ v
  exact ⟨⟨cs, hr.off hg h.k5⟩, h.k4.kept hg (fun e => h.ne (by injection e)), h.k5.set_ i v, h.ne, grown_new h.gr hg (fun r e => by cases e; exact h.lo.2), h.lo⟩
theorem TS.set4 {w u : World} {g N b4 b5 : Nat} {S : RS} {t4 t5 : Array Value} (h : TS w u g N b4 b5 S t4 t5) (i : Nat) (v : Value) : TS w (u.setCell ⟨b4, i, none⟩ v) g N b4 b5 S (t4.setIfInBounds i v) t5 := by
  obtain ⟨cs, hr⟩ := h.ra
  have hg := lgrown_set u ⟨b4, i, none⟩ v
  exact ⟨⟨cs, hr.off hg h.k4⟩, h.k4.set_ i v, h.k5.kept hg (fun e => h.ne ((Option.some.inj e).symm)), h.ne, grown_new h.gr hg (fun r e => by cases e; exact h.lo.1), h.lo⟩
/-- The two blocks laid, ahead of the call. -/
theorem TS.laid (w : World) (oc : Array Value) : ∃ w3, w3 = ((w.alloc (.cells oc 42)).alloc (.cells #[.int .u64 0, .bool false, .slice none 0 0, .int .i64 0] 47)).alloc (.cells #[.int .u64 0, .bool false, .slice none 0 0, .int .i64 0] 47) ∧ Below w.heap.size w w3 ∧ Blk w3 (w.heap.size + 1) 47 #[.int .u64 0, .bool false, .slice none 0 0, .int .i64 0] ∧ Blk w3 (w.heap.size + 1 + 1) 47 #[.int .u64 0, .bool false, .slice none 0 0, .int .i64 0] := by
  refine ⟨_, rfl, bt (bt (ba _ _) (ba _ _)) (ba _ _), ?_, ?_⟩
  · have h1 := Blk.new (w.alloc (.cells oc 42)) 47 #[.int .u64 0, .bool false, .slice none 0 0, .int .i64 0]
    have h2 := h1.below (ba _ (.cells #[.int .u64 0, .bool false, .slice none 0 0, .int .i64 0] 47)) h1.lt
    rw [World.size_alloc] at h2
    exact h2
  · have h1 := Blk.new ((w.alloc (.cells oc 42)).alloc (.cells #[.int .u64 0, .bool false, .slice none 0 0, .int .i64 0] 47)) 47 #[.int .u64 0, .bool false, .slice none 0 0, .int .i64 0]
    rw [World.size_alloc, World.size_alloc] at h1
    exact h1
theorem TS.mk' {w w3 u : World} {g N M : Nat} {S' : RS} (hgl : g < w.heap.size) (b3 : Below w.heap.size w w3) (k4 : Blk w3 (w.heap.size + 1) 47 #[.int .u64 0, .bool false, .slice none 0 0, .int .i64 0]) (k5 : Blk w3 (w.heap.size + 1 + 1) 47 #[.int .u64 0, .bool false, .slice none 0 0, .int .i64 0]) (hO : ResO w3 g S' M u) (hM : M ≤ N) : TS w u g N (w.heap.size + 1) (w.heap.size + 1 + 1) S' #[.int .u64 0, .bool false, .slice none 0 0, .int .i64 0] #[.int .u64 0, .bool false, .slice none 0 0, .int .i64 0] := by
  obtain ⟨⟨cs, hr⟩, hg⟩ := hO
  exact ⟨⟨cs, hr.more hM⟩, k4.kept hg (fun e => by injection e; omega), k5.kept hg (fun e => by injection e; omega), by omega, (lbelow_grown b3 _).trans hg, by omega, by omega⟩
set_option maxRecDepth 100000 in
set_option maxHeartbeats 2000000 in
theorem call_get (g : Nat) (cs : Array Value) (S : RS) (N : Nat) (n y : Int) (v : Nat) (A : Option Addr) (q c : Nat) (w : World) (h : ResAt w g cs S N) (hN : N < 190000) (hn : i64ok n) (hy : i64ok y) :
    Calls Tryz.prog 12 #[.pointer (some ⟨g, 0, none⟩), .agg #[.int .i64 0, .int .i64 n, .int .i64 y, .int .u64 (v : Nat), .slice A q c]] w (CallO w g N (((getR S n y).1.1, (getR S n y).1.2.1, [], (getR S n y).1.2.2), (getR S n y).2)) := by
  obtain ⟨w3, hw3, b3, k4, k5⟩ := TS.laid w #[.int .i64 0, .int .i64 n, .int .i64 y, .int .u64 (v : Nat), .slice A q c]
  have hcon := resget_any g cs S N n y w3 (h.below b3) (by omega) hn hy
  obtain ⟨R, hR⟩ : ∃ R, R = getR S n y := ⟨_, rfl⟩
  rw [← hR] at hcon ⊢
  obtain ⟨⟨rv, rt, re⟩, rS⟩ := R
  dsimp only at hcon ⊢
  have HP := Lib.hid hcon
  have HW := Lib.hid hw3
  have H := Lib.hid (And.intro h.lt (And.intro b3 (And.intro k4 k5)))
  have HQ : Hid (∀ e w', CallO w g N ((rv, rt, [], re), rS) e w' ↔ ∃ A q c, e = .returned (.agg #[.int .u64 (((rv, rt, [], re), rS).1.1 : Nat), .bool ((rv, rt, [], re), rS).1.2.1, .slice A q c, .int .i64 ((rv, rt, [], re), rS).1.2.2.2]) ∧ q = ((rv, rt, [], re), rS).1.2.2.1.length ∧ OwnC w' w.heap.size A c ((rv, rt, [], re), rS).1.2.2.1 ∧ ResO w g ((rv, rt, [], re), rS).2 (N + 4) w') := Lib.hid fun _ _ => Iff.rfl
  clear h hw3 b3 k4 k5 hcon hR hn hy
  go_enter Tryz.func12, Tryz.ntmps12
  go_wp2_with fail
  rw [← HW.out]
  refine HP.out.mono ?_
  rintro e u ⟨rfl, hO⟩
  have T0 := TS.mk' (N := N + 4) H.out.1 H.out.2.1 H.out.2.2.1 H.out.2.2.2 hO (by omega)
  have x0 := T0.k5.cell 0
  have x1 := T0.k5.cell 1
  have x2 := T0.k5.cell 2
  have x3 := T0.k5.cell 3
  have z0 := T0.k4.cell 0
  have z1 := T0.k4.cell 1
  have z2 := T0.k4.cell 2
  have z3 := T0.k4.cell 3
  simp only [List.getElem?_toArray, List.getElem?_cons_zero, List.getElem?_cons_succ] at x0 x1 x2 x3 z0 z1 z2 z3
  have f3 := T0.k5.frozen
  have g3 := T0.k4.frozen
  have T9 := (((((((T0.set5 0 (.int .u64 (rv : Nat))).set5 1 (.bool rt)).set5 3 (.int .i64 re)).set4 0 (.int .u64 (rv : Nat))).set4 1 (.bool rt)).set4 2 (.slice none 0 0)).set4 3 (.int .i64 re))
  have r0 := T9.k4.cell 0
  have r1 := T9.k4.cell 1
  have r2 := T9.k4.cell 2
  have r3 := T9.k4.cell 3
  simp only [List.setIfInBounds_toArray, List.set_cons_succ, List.set_cons_zero, List.getElem?_toArray, List.getElem?_cons_zero, List.getElem?_cons_succ] at r0 r1 r2 r3
  have HX := Lib.hid (show ResO w g rS (N + 4) _ from ⟨T9.ra, T9.gr⟩)
  clear T0 T9 hO
  go_wp2
  refine bodyPost_ret (by simp [results, Tryz.results12, go_sem, r0, r1, r2, r3]; try rfl) rfl ?_
  exact (HQ.out _ _).2 ⟨none, 0, 0, rfl, rfl, OwnC.nil _ _, HX.out⟩
set_option maxRecDepth 100000 in
set_option maxHeartbeats 2000000 in
theorem call_put (g : Nat) (cs : Array Value) (S : RS) (N : Nat) (n y : Int) (v : Nat) (A : Option Addr) (q c : Nat) (w : World) (h : ResAt w g cs S N) (hN : N < 190000) (hn : i64ok n) (hy : i64ok y) (hBK : ∀ b, w.heap.size ≤ b → S.K.B b) :
    Calls Tryz.prog 12 #[.pointer (some ⟨g, 0, none⟩), .agg #[.int .i64 1, .int .i64 n, .int .i64 y, .int .u64 (v : Nat), .slice A q c]] w (CallO w g N ((0, false, [], (putR S n y v).1), (putR S n y v).2)) := by
  obtain ⟨w3, hw3, b3, k4, k5⟩ := TS.laid w #[.int .i64 1, .int .i64 n, .int .i64 y, .int .u64 (v : Nat), .slice A q c]
  have hcon := resput_any g cs S N n y v w3 (h.below b3) (by omega) hn hy (fun b hb => hBK b (Nat.le_trans b3.size hb))
  obtain ⟨R, hR⟩ : ∃ R, R = putR S n y v := ⟨_, rfl⟩
  rw [← hR] at hcon ⊢
  obtain ⟨re, rS⟩ := R
  dsimp only at hcon ⊢
  have HP := Lib.hid hcon
  have HW := Lib.hid hw3
  have H := Lib.hid (And.intro h.lt (And.intro b3 (And.intro k4 k5)))
  have HQ : Hid (∀ e w', CallO w g N ((0, false, [], re), rS) e w' ↔ ∃ A q c, e = .returned (.agg #[.int .u64 (((0, false, [], re), rS).1.1 : Nat), .bool ((0, false, [], re), rS).1.2.1, .slice A q c, .int .i64 ((0, false, [], re), rS).1.2.2.2]) ∧ q = ((0, false, [], re), rS).1.2.2.1.length ∧ OwnC w' w.heap.size A c ((0, false, [], re), rS).1.2.2.1 ∧ ResO w g ((0, false, [], re), rS).2 (N + 4) w') := Lib.hid fun _ _ => Iff.rfl
  clear h hw3 b3 k4 k5 hcon hR hn hy hBK
  go_enter Tryz.func12, Tryz.ntmps12
  go_wp2_with fail
  rw [← HW.out]
  refine HP.out.mono ?_
  rintro e u ⟨rfl, hO⟩
  have T0 := TS.mk' (N := N + 4) H.out.1 H.out.2.1 H.out.2.2.1 H.out.2.2.2 hO (by omega)
  have x0 := T0.k5.cell 0
  have x1 := T0.k5.cell 1
  have x2 := T0.k5.cell 2
  have x3 := T0.k5.cell 3
  have z0 := T0.k4.cell 0
  have z1 := T0.k4.cell 1
  have z2 := T0.k4.cell 2
  have z3 := T0.k4.cell 3
  simp only [List.getElem?_toArray, List.getElem?_cons_zero, List.getElem?_cons_succ] at x0 x1 x2 x3 z0 z1 z2 z3
  have f3 := T0.k5.frozen
  have g3 := T0.k4.frozen
  have T9 := (((((T0.set5 3 (.int .i64 re)).set4 0 (.int .u64 0)).set4 1 (.bool false)).set4 2 (.slice none 0 0)).set4 3 (.int .i64 re))
  have r0 := T9.k4.cell 0
  have r1 := T9.k4.cell 1
  have r2 := T9.k4.cell 2
  have r3 := T9.k4.cell 3
  simp only [List.setIfInBounds_toArray, List.set_cons_succ, List.set_cons_zero, List.getElem?_toArray, List.getElem?_cons_zero, List.getElem?_cons_succ] at r0 r1 r2 r3
  have HX := Lib.hid (show ResO w g rS (N + 4) _ from ⟨T9.ra, T9.gr⟩)
  clear T0 T9 hO
  go_wp2
  refine bodyPost_ret (by simp [results, Tryz.results12, go_sem, r0, r1, r2, r3]; try rfl) rfl ?_
  exact (HQ.out _ _).2 ⟨none, 0, 0, rfl, rfl, OwnC.nil _ _, HX.out⟩
set_option maxRecDepth 100000 in
set_option maxHeartbeats 2000000 in
theorem call_del (g : Nat) (cs : Array Value) (S : RS) (N : Nat) (n y : Int) (v : Nat) (A : Option Addr) (q c : Nat) (w : World) (h : ResAt w g cs S N) (hN : N < 190000) (hn : i64ok n) (hy : i64ok y) (hBK : ∀ b, w.heap.size ≤ b → S.K.B b) :
    Calls Tryz.prog 12 #[.pointer (some ⟨g, 0, none⟩), .agg #[.int .i64 2, .int .i64 n, .int .i64 y, .int .u64 (v : Nat), .slice A q c]] w (CallO w g N ((0, false, [], (delR S n y).1), (delR S n y).2)) := by
  obtain ⟨w3, hw3, b3, k4, k5⟩ := TS.laid w #[.int .i64 2, .int .i64 n, .int .i64 y, .int .u64 (v : Nat), .slice A q c]
  have hcon := resdel_any g cs S N n y w3 (h.below b3) (by omega) hn hy (fun b hb => hBK b (Nat.le_trans b3.size hb))
  obtain ⟨R, hR⟩ : ∃ R, R = delR S n y := ⟨_, rfl⟩
  rw [← hR] at hcon ⊢
  obtain ⟨re, rS⟩ := R
  dsimp only at hcon ⊢
  have HP := Lib.hid hcon
  have HW := Lib.hid hw3
  have H := Lib.hid (And.intro h.lt (And.intro b3 (And.intro k4 k5)))
  have HQ : Hid (∀ e w', CallO w g N ((0, false, [], re), rS) e w' ↔ ∃ A q c, e = .returned (.agg #[.int .u64 (((0, false, [], re), rS).1.1 : Nat), .bool ((0, false, [], re), rS).1.2.1, .slice A q c, .int .i64 ((0, false, [], re), rS).1.2.2.2]) ∧ q = ((0, false, [], re), rS).1.2.2.1.length ∧ OwnC w' w.heap.size A c ((0, false, [], re), rS).1.2.2.1 ∧ ResO w g ((0, false, [], re), rS).2 (N + 4) w') := Lib.hid fun _ _ => Iff.rfl
  clear h hw3 b3 k4 k5 hcon hR hn hy hBK
  go_enter Tryz.func12, Tryz.ntmps12
  go_wp2_with fail
  rw [← HW.out]
  refine HP.out.mono ?_
  rintro e u ⟨rfl, hO⟩
  have T0 := TS.mk' (N := N + 4) H.out.1 H.out.2.1 H.out.2.2.1 H.out.2.2.2 hO (by omega)
  have x0 := T0.k5.cell 0
  have x1 := T0.k5.cell 1
  have x2 := T0.k5.cell 2
  have x3 := T0.k5.cell 3
  have z0 := T0.k4.cell 0
  have z1 := T0.k4.cell 1
  have z2 := T0.k4.cell 2
  have z3 := T0.k4.cell 3
  simp only [List.getElem?_toArray, List.getElem?_cons_zero, List.getElem?_cons_succ] at x0 x1 x2 x3 z0 z1 z2 z3
  have f3 := T0.k5.frozen
  have g3 := T0.k4.frozen
  have T9 := (((((T0.set5 3 (.int .i64 re)).set4 0 (.int .u64 0)).set4 1 (.bool false)).set4 2 (.slice none 0 0)).set4 3 (.int .i64 re))
  have r0 := T9.k4.cell 0
  have r1 := T9.k4.cell 1
  have r2 := T9.k4.cell 2
  have r3 := T9.k4.cell 3
  simp only [List.setIfInBounds_toArray, List.set_cons_succ, List.set_cons_zero, List.getElem?_toArray, List.getElem?_cons_zero, List.getElem?_cons_succ] at r0 r1 r2 r3
  have HX := Lib.hid (show ResO w g rS (N + 4) _ from ⟨T9.ra, T9.gr⟩)
  clear T0 T9 hO
  go_wp2
  refine bodyPost_ret (by simp [results, Tryz.results12, go_sem, r0, r1, r2, r3]; try rfl) rfl ?_
  exact (HQ.out _ _).2 ⟨none, 0, 0, rfl, rfl, OwnC.nil _ _, HX.out⟩
set_option maxRecDepth 100000 in
set_option maxHeartbeats 2000000 in
theorem call_push (g : Nat) (cs : Array Value) (S : RS) (N : Nat) (n y : Int) (v : Nat) (A : Option Addr) (q c : Nat) (w : World) (h : ResAt w g cs S N) (hN : N < 190000) (hn : i64ok n) (hBQ : ∀ b, w.heap.size ≤ b → S.Q.B b) :
    Calls Tryz.prog 12 #[.pointer (some ⟨g, 0, none⟩), .agg #[.int .i64 3, .int .i64 n, .int .i64 y, .int .u64 (v : Nat), .slice A q c]] w (CallO w g N ((0, false, [], (pushR S n v).1), (pushR S n v).2)) := by
  obtain ⟨w3, hw3, b3, k4, k5⟩ := TS.laid w #[.int .i64 3, .int .i64 n, .int .i64 y, .int .u64 (v : Nat), .slice A q c]
  have hcon := respush_any g cs S N n v w3 (h.below b3) (by omega) hn (fun b hb => hBQ b (Nat.le_trans b3.size hb))
  obtain ⟨R, hR⟩ : ∃ R, R = pushR S n v := ⟨_, rfl⟩
  rw [← hR] at hcon ⊢
  obtain ⟨re, rS⟩ := R
  dsimp only at hcon ⊢
  have HP := Lib.hid hcon
  have HW := Lib.hid hw3
  have H := Lib.hid (And.intro h.lt (And.intro b3 (And.intro k4 k5)))
  have HQ : Hid (∀ e w', CallO w g N ((0, false, [], re), rS) e w' ↔ ∃ A q c, e = .returned (.agg #[.int .u64 (((0, false, [], re), rS).1.1 : Nat), .bool ((0, false, [], re), rS).1.2.1, .slice A q c, .int .i64 ((0, false, [], re), rS).1.2.2.2]) ∧ q = ((0, false, [], re), rS).1.2.2.1.length ∧ OwnC w' w.heap.size A c ((0, false, [], re), rS).1.2.2.1 ∧ ResO w g ((0, false, [], re), rS).2 (N + 4) w') := Lib.hid fun _ _ => Iff.rfl
  clear h hw3 b3 k4 k5 hcon hR hn hBQ
  go_enter Tryz.func12, Tryz.ntmps12
  go_wp2_with fail
  rw [← HW.out]
  refine HP.out.mono ?_
  rintro e u ⟨rfl, hO⟩
  have T0 := TS.mk' (N := N + 4) H.out.1 H.out.2.1 H.out.2.2.1 H.out.2.2.2 hO (by omega)
  have x0 := T0.k5.cell 0
  have x1 := T0.k5.cell 1
  have x2 := T0.k5.cell 2
  have x3 := T0.k5.cell 3
  have z0 := T0.k4.cell 0
  have z1 := T0.k4.cell 1
  have z2 := T0.k4.cell 2
  have z3 := T0.k4.cell 3
  simp only [List.getElem?_toArray, List.getElem?_cons_zero, List.getElem?_cons_succ] at x0 x1 x2 x3 z0 z1 z2 z3
  have f3 := T0.k5.frozen
  have g3 := T0.k4.frozen
  have T9 := (((((T0.set5 3 (.int .i64 re)).set4 0 (.int .u64 0)).set4 1 (.bool false)).set4 2 (.slice none 0 0)).set4 3 (.int .i64 re))
  have r0 := T9.k4.cell 0
  have r1 := T9.k4.cell 1
  have r2 := T9.k4.cell 2
  have r3 := T9.k4.cell 3
  simp only [List.setIfInBounds_toArray, List.set_cons_succ, List.set_cons_zero, List.getElem?_toArray, List.getElem?_cons_zero, List.getElem?_cons_succ] at r0 r1 r2 r3
  have HX := Lib.hid (show ResO w g rS (N + 4) _ from ⟨T9.ra, T9.gr⟩)
  clear T0 T9 hO
  go_wp2
  refine bodyPost_ret (by simp [results, Tryz.results12, go_sem, r0, r1, r2, r3]; try rfl) rfl ?_
  exact (HQ.out _ _).2 ⟨none, 0, 0, rfl, rfl, OwnC.nil _ _, HX.out⟩
set_option maxRecDepth 100000 in
set_option maxHeartbeats 2000000 in
theorem call_pop (g : Nat) (cs : Array Value) (S : RS) (N : Nat) (n y : Int) (v : Nat) (A : Option Addr) (q c : Nat) (w : World) (h : ResAt w g cs S N) (hN : N < 190000) (hn : i64ok n) (hBQ : ∀ b, w.heap.size ≤ b → S.Q.B b) :
    Calls Tryz.prog 12 #[.pointer (some ⟨g, 0, none⟩), .agg #[.int .i64 4, .int .i64 n, .int .i64 y, .int .u64 (v : Nat), .slice A q c]] w (CallO w g N (((popR S n).1.1, false, [], (popR S n).1.2), (popR S n).2)) := by
  obtain ⟨w3, hw3, b3, k4, k5⟩ := TS.laid w #[.int .i64 4, .int .i64 n, .int .i64 y, .int .u64 (v : Nat), .slice A q c]
  have hcon := respop_any g cs S N n w3 (h.below b3) (by omega) hn (fun b hb => hBQ b (Nat.le_trans b3.size hb))
  obtain ⟨R, hR⟩ : ∃ R, R = popR S n := ⟨_, rfl⟩
  rw [← hR] at hcon ⊢
  obtain ⟨⟨rv, re⟩, rS⟩ := R
  dsimp only at hcon ⊢
  have HP := Lib.hid hcon
  have HW := Lib.hid hw3
  have H := Lib.hid (And.intro h.lt (And.intro b3 (And.intro k4 k5)))
  have HQ : Hid (∀ e w', CallO w g N ((rv, false, [], re), rS) e w' ↔ ∃ A q c, e = .returned (.agg #[.int .u64 (((rv, false, [], re), rS).1.1 : Nat), .bool ((rv, false, [], re), rS).1.2.1, .slice A q c, .int .i64 ((rv, false, [], re), rS).1.2.2.2]) ∧ q = ((rv, false, [], re), rS).1.2.2.1.length ∧ OwnC w' w.heap.size A c ((rv, false, [], re), rS).1.2.2.1 ∧ ResO w g ((rv, false, [], re), rS).2 (N + 4) w') := Lib.hid fun _ _ => Iff.rfl
  clear h hw3 b3 k4 k5 hcon hR hn hBQ
  go_enter Tryz.func12, Tryz.ntmps12
  go_wp2_with fail
  rw [← HW.out]
  refine HP.out.mono ?_
  rintro e u ⟨rfl, hO⟩
  have T0 := TS.mk' (N := N + 4) H.out.1 H.out.2.1 H.out.2.2.1 H.out.2.2.2 hO (by omega)
  have x0 := T0.k5.cell 0
  have x1 := T0.k5.cell 1
  have x2 := T0.k5.cell 2
  have x3 := T0.k5.cell 3
  have z0 := T0.k4.cell 0
  have z1 := T0.k4.cell 1
  have z2 := T0.k4.cell 2
  have z3 := T0.k4.cell 3
  simp only [List.getElem?_toArray, List.getElem?_cons_zero, List.getElem?_cons_succ] at x0 x1 x2 x3 z0 z1 z2 z3
  have f3 := T0.k5.frozen
  have g3 := T0.k4.frozen
  have T9 := ((((((T0.set5 0 (.int .u64 (rv : Nat))).set5 3 (.int .i64 re)).set4 0 (.int .u64 (rv : Nat))).set4 1 (.bool false)).set4 2 (.slice none 0 0)).set4 3 (.int .i64 re))
  have r0 := T9.k4.cell 0
  have r1 := T9.k4.cell 1
  have r2 := T9.k4.cell 2
  have r3 := T9.k4.cell 3
  simp only [List.setIfInBounds_toArray, List.set_cons_succ, List.set_cons_zero, List.getElem?_toArray, List.getElem?_cons_zero, List.getElem?_cons_succ] at r0 r1 r2 r3
  have HX := Lib.hid (show ResO w g rS (N + 4) _ from ⟨T9.ra, T9.gr⟩)
  clear T0 T9 hO
  go_wp2
  refine bodyPost_ret (by simp [results, Tryz.results12, go_sem, r0, r1, r2, r3]; try rfl) rfl ?_
  exact (HQ.out _ _).2 ⟨none, 0, 0, rfl, rfl, OwnC.nil _ _, HX.out⟩
set_option maxRecDepth 100000 in
set_option maxHeartbeats 2000000 in
theorem call_prep (g : Nat) (cs : Array Value) (S : RS) (N : Nat) (n y : Int) (v : Nat) (A : Option Addr) (q c : Nat) (w : World) (h : ResAt w g cs S N) (hN : N < 190000) (hn : i64ok n) (hl : (prepM S.K n).1.1.length ≤ 400000 ∧ (Qu.prepM S.Q n).1.1.length ≤ 400000) :
    Calls Tryz.prog 12 #[.pointer (some ⟨g, 0, none⟩), .agg #[.int .i64 5, .int .i64 n, .int .i64 y, .int .u64 (v : Nat), .slice A q c]] w (CallO w g N ((0, false, (prepR S n).1.1, (prepR S n).1.2), (prepR S n).2)) := by
  obtain ⟨w3, hw3, b3, k4, k5⟩ := TS.laid w #[.int .i64 5, .int .i64 n, .int .i64 y, .int .u64 (v : Nat), .slice A q c]
  have hcon := resprep_any g cs S N n w3 (h.below b3) (by omega) hn hl
  obtain ⟨R, hR⟩ : ∃ R, R = prepR S n := ⟨_, rfl⟩
  rw [← hR] at hcon ⊢
  obtain ⟨⟨rl, re⟩, rS⟩ := R
  dsimp only at hcon ⊢
  have HP := Lib.hid hcon
  have HW := Lib.hid hw3
  have H := Lib.hid (And.intro h.lt (And.intro b3 (And.intro k4 k5)))
  have HQ : Hid (∀ e w', CallO w g N ((0, false, rl, re), rS) e w' ↔ ∃ A q c, e = .returned (.agg #[.int .u64 (((0, false, rl, re), rS).1.1 : Nat), .bool ((0, false, rl, re), rS).1.2.1, .slice A q c, .int .i64 ((0, false, rl, re), rS).1.2.2.2]) ∧ q = ((0, false, rl, re), rS).1.2.2.1.length ∧ OwnC w' w.heap.size A c ((0, false, rl, re), rS).1.2.2.1 ∧ ResO w g ((0, false, rl, re), rS).2 (N + 4) w') := Lib.hid fun _ _ => Iff.rfl
  clear h hw3 b3 k4 k5 hcon hR hn hl
  go_enter Tryz.func12, Tryz.ntmps12
  go_wp2_with fail
  rw [← HW.out]
  refine HP.out.mono ?_
  rintro e u ⟨⟨A5, q5, c5, rfl, hq5, own⟩, hO⟩
  have T0 := TS.mk' (N := N + 4) H.out.1 H.out.2.1 H.out.2.2.1 H.out.2.2.2 hO (by omega)
  have x0 := T0.k5.cell 0
  have x1 := T0.k5.cell 1
  have x2 := T0.k5.cell 2
  have x3 := T0.k5.cell 3
  have z0 := T0.k4.cell 0
  have z1 := T0.k4.cell 1
  have z2 := T0.k4.cell 2
  have z3 := T0.k4.cell 3
  simp only [List.getElem?_toArray, List.getElem?_cons_zero, List.getElem?_cons_succ] at x0 x1 x2 x3 z0 z1 z2 z3
  have f3 := T0.k5.frozen
  have g3 := T0.k4.frozen
  have T9 := ((((((T0.set5 2 (.slice A5 q5 c5)).set5 3 (.int .i64 re)).set4 0 (.int .u64 0)).set4 1 (.bool false)).set4 2 (.slice A5 q5 c5)).set4 3 (.int .i64 re))
  have r0 := T9.k4.cell 0
  have r1 := T9.k4.cell 1
  have r2 := T9.k4.cell 2
  have r3 := T9.k4.cell 3
  simp only [List.setIfInBounds_toArray, List.set_cons_succ, List.set_cons_zero, List.getElem?_toArray, List.getElem?_cons_zero, List.getElem?_cons_succ] at r0 r1 r2 r3
  have hlo := H.out.2.1.size
  have hl3 : w.heap.size + 1 + 1 < w3.heap.size := H.out.2.2.2.lt
  have kp : ∀ {u : World} (b i : Nat) (x : Value), OwnC u w3.heap.size A5 c5 rl → b < w3.heap.size → OwnC (u.setCell ⟨b, i, none⟩ x) w3.heap.size A5 c5 rl := fun {u} b i x ho hb => ho.kept (lgrown_set u ⟨b, i, none⟩ x) (fun r e => by cases e; exact hb)
  have own9 := (kp (w.heap.size + 1) 3 (.int .i64 re) (kp (w.heap.size + 1) 2 (.slice A5 q5 c5) (kp (w.heap.size + 1) 1 (.bool false) (kp (w.heap.size + 1) 0 (.int .u64 0) (kp (w.heap.size + 1 + 1) 3 (.int .i64 re) (kp (w.heap.size + 1 + 1) 2 (.slice A5 q5 c5) own (by omega)) (by omega)) (by omega)) (by omega)) (by omega)) (by omega))
  have HX := Lib.hid (And.intro hq5 (And.intro (own9.less hlo) (show ResO w g rS (N + 4) _ from ⟨T9.ra, T9.gr⟩)))
  clear T0 T9 hO own own9 hq5 hlo hl3
  go_wp2
  refine bodyPost_ret (by simp [results, Tryz.results12, go_sem, r0, r1, r2, r3]; try rfl) rfl ?_
  exact (HQ.out _ _).2 ⟨A5, q5, c5, rfl, HX.out.1, HX.out.2.1, HX.out.2.2⟩
set_option maxRecDepth 100000 in
set_option maxHeartbeats 2000000 in
theorem call_commit (g : Nat) (cs : Array Value) (S : RS) (N : Nat) (n y : Int) (v : Nat) (A : Option Addr) (q c : Nat) (w : World) (h : ResAt w g cs S N) (hN : N < 190000) (hn : i64ok n) (hok : Qu.QOk S.Q) :
    Calls Tryz.prog 12 #[.pointer (some ⟨g, 0, none⟩), .agg #[.int .i64 6, .int .i64 n, .int .i64 y, .int .u64 (v : Nat), .slice A q c]] w (CallO w g N ((0, false, [], (commitR S n).1), (commitR S n).2)) := by
  obtain ⟨w3, hw3, b3, k4, k5⟩ := TS.laid w #[.int .i64 6, .int .i64 n, .int .i64 y, .int .u64 (v : Nat), .slice A q c]
  have hcon := rescommit_any g cs S N n w3 (h.below b3) hok (by omega) hn
  obtain ⟨R, hR⟩ : ∃ R, R = commitR S n := ⟨_, rfl⟩
  rw [← hR] at hcon ⊢
  obtain ⟨re, rS⟩ := R
  dsimp only at hcon ⊢
  have HP := Lib.hid hcon
  have HW := Lib.hid hw3
  have H := Lib.hid (And.intro h.lt (And.intro b3 (And.intro k4 k5)))
  have HQ : Hid (∀ e w', CallO w g N ((0, false, [], re), rS) e w' ↔ ∃ A q c, e = .returned (.agg #[.int .u64 (((0, false, [], re), rS).1.1 : Nat), .bool ((0, false, [], re), rS).1.2.1, .slice A q c, .int .i64 ((0, false, [], re), rS).1.2.2.2]) ∧ q = ((0, false, [], re), rS).1.2.2.1.length ∧ OwnC w' w.heap.size A c ((0, false, [], re), rS).1.2.2.1 ∧ ResO w g ((0, false, [], re), rS).2 (N + 4) w') := Lib.hid fun _ _ => Iff.rfl
  clear h hw3 b3 k4 k5 hcon hR hn hok
  go_enter Tryz.func12, Tryz.ntmps12
  go_wp2_with fail
  rw [← HW.out]
  refine HP.out.mono ?_
  rintro e u ⟨rfl, hO⟩
  have T0 := TS.mk' (N := N + 4) H.out.1 H.out.2.1 H.out.2.2.1 H.out.2.2.2 hO (by omega)
  have x0 := T0.k5.cell 0
  have x1 := T0.k5.cell 1
  have x2 := T0.k5.cell 2
  have x3 := T0.k5.cell 3
  have z0 := T0.k4.cell 0
  have z1 := T0.k4.cell 1
  have z2 := T0.k4.cell 2
  have z3 := T0.k4.cell 3
  simp only [List.getElem?_toArray, List.getElem?_cons_zero, List.getElem?_cons_succ] at x0 x1 x2 x3 z0 z1 z2 z3
  have f3 := T0.k5.frozen
  have g3 := T0.k4.frozen
  have T9 := (((((T0.set5 3 (.int .i64 re)).set4 0 (.int .u64 0)).set4 1 (.bool false)).set4 2 (.slice none 0 0)).set4 3 (.int .i64 re))
  have r0 := T9.k4.cell 0
  have r1 := T9.k4.cell 1
  have r2 := T9.k4.cell 2
  have r3 := T9.k4.cell 3
  simp only [List.setIfInBounds_toArray, List.set_cons_succ, List.set_cons_zero, List.getElem?_toArray, List.getElem?_cons_zero, List.getElem?_cons_succ] at r0 r1 r2 r3
  have HX := Lib.hid (show ResO w g rS (N + 4) _ from ⟨T9.ra, T9.gr⟩)
  clear T0 T9 hO
  go_wp2
  refine bodyPost_ret (by simp [results, Tryz.results12, go_sem, r0, r1, r2, r3]; try rfl) rfl ?_
  exact (HQ.out _ _).2 ⟨none, 0, 0, rfl, rfl, OwnC.nil _ _, HX.out⟩
set_option maxRecDepth 100000 in
set_option maxHeartbeats 2000000 in
theorem call_back (g : Nat) (cs : Array Value) (S : RS) (N : Nat) (n y : Int) (v : Nat) (A : Option Addr) (q c : Nat) (w : World) (h : ResAt w g cs S N) (hN : N < 190000) (hn : i64ok n)  :
    Calls Tryz.prog 12 #[.pointer (some ⟨g, 0, none⟩), .agg #[.int .i64 7, .int .i64 n, .int .i64 y, .int .u64 (v : Nat), .slice A q c]] w (CallO w g N ((0, false, [], (backR S n).1), (backR S n).2)) := by
  obtain ⟨w3, hw3, b3, k4, k5⟩ := TS.laid w #[.int .i64 7, .int .i64 n, .int .i64 y, .int .u64 (v : Nat), .slice A q c]
  have hcon := resbackout_any g cs S N n w3 (h.below b3) (by omega) hn
  obtain ⟨R, hR⟩ : ∃ R, R = backR S n := ⟨_, rfl⟩
  rw [← hR] at hcon ⊢
  obtain ⟨re, rS⟩ := R
  dsimp only at hcon ⊢
  have HP := Lib.hid hcon
  have HW := Lib.hid hw3
  have H := Lib.hid (And.intro h.lt (And.intro b3 (And.intro k4 k5)))
  have HQ : Hid (∀ e w', CallO w g N ((0, false, [], re), rS) e w' ↔ ∃ A q c, e = .returned (.agg #[.int .u64 (((0, false, [], re), rS).1.1 : Nat), .bool ((0, false, [], re), rS).1.2.1, .slice A q c, .int .i64 ((0, false, [], re), rS).1.2.2.2]) ∧ q = ((0, false, [], re), rS).1.2.2.1.length ∧ OwnC w' w.heap.size A c ((0, false, [], re), rS).1.2.2.1 ∧ ResO w g ((0, false, [], re), rS).2 (N + 4) w') := Lib.hid fun _ _ => Iff.rfl
  clear h hw3 b3 k4 k5 hcon hR hn 
  go_enter Tryz.func12, Tryz.ntmps12
  go_wp2_with fail
  rw [← HW.out]
  refine HP.out.mono ?_
  rintro e u ⟨rfl, hO⟩
  have T0 := TS.mk' (N := N + 4) H.out.1 H.out.2.1 H.out.2.2.1 H.out.2.2.2 hO (by omega)
  have x0 := T0.k5.cell 0
  have x1 := T0.k5.cell 1
  have x2 := T0.k5.cell 2
  have x3 := T0.k5.cell 3
  have z0 := T0.k4.cell 0
  have z1 := T0.k4.cell 1
  have z2 := T0.k4.cell 2
  have z3 := T0.k4.cell 3
  simp only [List.getElem?_toArray, List.getElem?_cons_zero, List.getElem?_cons_succ] at x0 x1 x2 x3 z0 z1 z2 z3
  have f3 := T0.k5.frozen
  have g3 := T0.k4.frozen
  have T9 := (((((T0.set5 3 (.int .i64 re)).set4 0 (.int .u64 0)).set4 1 (.bool false)).set4 2 (.slice none 0 0)).set4 3 (.int .i64 re))
  have r0 := T9.k4.cell 0
  have r1 := T9.k4.cell 1
  have r2 := T9.k4.cell 2
  have r3 := T9.k4.cell 3
  simp only [List.setIfInBounds_toArray, List.set_cons_succ, List.set_cons_zero, List.getElem?_toArray, List.getElem?_cons_zero, List.getElem?_cons_succ] at r0 r1 r2 r3
  have HX := Lib.hid (show ResO w g rS (N + 4) _ from ⟨T9.ra, T9.gr⟩)
  clear T0 T9 hO
  go_wp2
  refine bodyPost_ret (by simp [results, Tryz.results12, go_sem, r0, r1, r2, r3]; try rfl) rfl ?_
  exact (HQ.out _ _).2 ⟨none, 0, 0, rfl, rfl, OwnC.nil _ _, HX.out⟩
set_option maxRecDepth 100000 in
set_option maxHeartbeats 2000000 in
theorem call_restore (g : Nat) (cs : Array Value) (S : RS) (N : Nat) (n y : Int) (v : Nat) (A : Option Addr) (q c : Nat) (w : World) (h : ResAt w g cs S N) (hN : N < 190000) (hn : i64ok n) (l : List Ch) (hq : Hid (q = l.length)) (hqN : q ≤ N + 1) (hcap : q ≤ c ∧ c ≤ 9223372036854775807) (hL : ∀ u, w.grownBy u (some g) → InL u A l) (hBK : ∀ b, w.heap.size ≤ b → S.K.B b) (hBQ : ∀ b, w.heap.size ≤ b → S.Q.B b) :
    Calls Tryz.prog 12 #[.pointer (some ⟨g, 0, none⟩), .agg #[.int .i64 8, .int .i64 n, .int .i64 y, .int .u64 (v : Nat), .slice A q c]] w (CallO w g N ((0, false, [], (restoreR S n l).1), (restoreR S n l).2)) := by
  obtain ⟨w3, hw3, b3, k4, k5⟩ := TS.laid w #[.int .i64 8, .int .i64 n, .int .i64 y, .int .u64 (v : Nat), .slice A q c]
  have hcon := resrestore_any g cs S N n A l q c w3 (h.below b3) (by omega) hn hq hqN hcap (fun u hu => hL u ((lbelow_grown b3 (some g)).trans hu)) (fun b hb => hBK b (Nat.le_trans b3.size hb)) (fun b hb => hBQ b (Nat.le_trans b3.size hb))
  obtain ⟨R, hR⟩ : ∃ R, R = restoreR S n l := ⟨_, rfl⟩
  rw [← hR] at hcon ⊢
  obtain ⟨re, rS⟩ := R
  dsimp only at hcon ⊢
  have HP := Lib.hid hcon
  have HW := Lib.hid hw3
  have H := Lib.hid (And.intro h.lt (And.intro b3 (And.intro k4 k5)))
  have HQ : Hid (∀ e w', CallO w g N ((0, false, [], re), rS) e w' ↔ ∃ A q c, e = .returned (.agg #[.int .u64 (((0, false, [], re), rS).1.1 : Nat), .bool ((0, false, [], re), rS).1.2.1, .slice A q c, .int .i64 ((0, false, [], re), rS).1.2.2.2]) ∧ q = ((0, false, [], re), rS).1.2.2.1.length ∧ OwnC w' w.heap.size A c ((0, false, [], re), rS).1.2.2.1 ∧ ResO w g ((0, false, [], re), rS).2 (N + 4) w') := Lib.hid fun _ _ => Iff.rfl
  clear h hw3 b3 k4 k5 hcon hR hn hcap hL hBK hBQ
  go_enter Tryz.func12, Tryz.ntmps12
  go_wp2_with fail
  rw [← HW.out]
  refine HP.out.mono ?_
  rintro e u ⟨rfl, hO⟩
  have T0 := TS.mk' (N := N + 4) H.out.1 H.out.2.1 H.out.2.2.1 H.out.2.2.2 hO (by omega)
  have x0 := T0.k5.cell 0
  have x1 := T0.k5.cell 1
  have x2 := T0.k5.cell 2
  have x3 := T0.k5.cell 3
  have z0 := T0.k4.cell 0
  have z1 := T0.k4.cell 1
  have z2 := T0.k4.cell 2
  have z3 := T0.k4.cell 3
  simp only [List.getElem?_toArray, List.getElem?_cons_zero, List.getElem?_cons_succ] at x0 x1 x2 x3 z0 z1 z2 z3
  have f3 := T0.k5.frozen
  have g3 := T0.k4.frozen
  have T9 := (((((T0.set5 3 (.int .i64 re)).set4 0 (.int .u64 0)).set4 1 (.bool false)).set4 2 (.slice none 0 0)).set4 3 (.int .i64 re))
  have r0 := T9.k4.cell 0
  have r1 := T9.k4.cell 1
  have r2 := T9.k4.cell 2
  have r3 := T9.k4.cell 3
  simp only [List.setIfInBounds_toArray, List.set_cons_succ, List.set_cons_zero, List.getElem?_toArray, List.getElem?_cons_zero, List.getElem?_cons_succ] at r0 r1 r2 r3
  have HX := Lib.hid (show ResO w g rS (N + 4) _ from ⟨T9.ra, T9.gr⟩)
  clear T0 T9 hO
  go_wp2
  refine bodyPost_ret (by simp [results, Tryz.results12, go_sem, r0, r1, r2, r3]; try rfl) rfl ?_
  exact (HQ.out _ _).2 ⟨none, 0, 0, rfl, rfl, OwnC.nil _ _, HX.out⟩
end Go.Proofs.YtlliaihmfimdoaaGreat.Re

namespace Go.Proofs.YtlliaihmfimdoaaGreat.Re
open Go.RowKit Go.Maps Go.Deep Go.Proofs.YtlliaihmfimdoaaGreat
set_option linter.unusedVariables false
set_option linter.unusedSimpArgs false

set_option maxRecDepth 100000 in
set_option maxHeartbeats 2000000 in
theorem call_other (g : Nat) (cs : Array Value) (S : RS) (N : Nat) (k n y : Int) (v : Nat) (A : Option Addr) (q c : Nat) (w : World) (h : ResAt w g cs S N) (hk : k < 0 ∨ 8 < k) :
    Calls Tryz.prog 12 #[.pointer (some ⟨g, 0, none⟩), .agg #[.int .i64 k, .int .i64 n, .int .i64 y, .int .u64 (v : Nat), .slice A q c]] w (CallO w g N ((0, false, [], 0), S)) := by
  have e0 : (k == 0) = false := beq_eq_false_iff_ne.2 (by omega)
  have e1 : (k == 1) = false := beq_eq_false_iff_ne.2 (by omega)
  have e2 : (k == 2) = false := beq_eq_false_iff_ne.2 (by omega)
  have e3 : (k == 3) = false := beq_eq_false_iff_ne.2 (by omega)
  have e4 : (k == 4) = false := beq_eq_false_iff_ne.2 (by omega)
  have e5 : (k == 5) = false := beq_eq_false_iff_ne.2 (by omega)
  have e6 : (k == 6) = false := beq_eq_false_iff_ne.2 (by omega)
  have e7 : (k == 7) = false := beq_eq_false_iff_ne.2 (by omega)
  have e8 : (k == 8) = false := beq_eq_false_iff_ne.2 (by omega)
  obtain ⟨w3, hw3, b3, k4, k5⟩ := TS.laid w #[.int .i64 k, .int .i64 n, .int .i64 y, .int .u64 (v : Nat), .slice A q c]
  have hO : ResO w3 g S (N + 4) w3 := ResO.same ((h.below b3).more (by omega)) (Below.refl _ _)
  have T0 := TS.mk' h.lt b3 k4 k5 hO (Nat.le_refl _)
  have d : ∀ i, w3.cell? ⟨w.heap.size, i, none⟩ = (#[.int .i64 k, .int .i64 n, .int .i64 y, .int .u64 (v : Nat), .slice A q c] : Array Value)[i]? := by
    intro i
    have h1 := Blk.new w 42 #[.int .i64 k, .int .i64 n, .int .i64 y, .int .u64 (v : Nat), .slice A q c]
    rw [hw3]
    exact (((h1.below (ba _ (.cells #[.int .u64 0, .bool false, .slice none 0 0, .int .i64 0] 47)) h1.lt).below (ba _ (.cells #[.int .u64 0, .bool false, .slice none 0 0, .int .i64 0] 47)) (h1.below (ba _ (.cells #[.int .u64 0, .bool false, .slice none 0 0, .int .i64 0] 47)) h1.lt).lt)).cell i
  have r0 := T0.k4.cell 0
  have r1 := T0.k4.cell 1
  have r2 := T0.k4.cell 2
  have r3 := T0.k4.cell 3
  have d0 := d 0
  simp only [List.getElem?_toArray, List.getElem?_cons_zero, List.getElem?_cons_succ] at r0 r1 r2 r3 d0
  have HX := Lib.hid (show ResO w g S (N + 4) w3 from ⟨T0.ra, T0.gr⟩)
  have HQ : Hid (∀ e w', CallO w g N ((0, false, [], 0), S) e w' ↔ ∃ A q c, e = .returned (.agg #[.int .u64 (0 : Nat), .bool false, .slice A q c, .int .i64 0]) ∧ q = 0 ∧ OwnC w' w.heap.size A c [] ∧ ResO w g S (N + 4) w') := Lib.hid fun _ _ => Iff.rfl
  rw [hw3] at r0 r1 r2 r3 d0 HX
  clear h hw3 b3 k4 k5 hO T0 d hk
  go_enter Tryz.func12, Tryz.ntmps12
  go_wp2
  refine bodyPost_ret (by simp [results, Tryz.results12, go_sem, r0, r1, r2, r3]; try rfl) rfl ?_
  exact (HQ.out _ _).2 ⟨none, 0, 0, rfl, rfl, OwnC.nil _ _, HX.out⟩
theorem kprep_len {w : World} {g N : Nat} {tt : TypeId} {cs : Array Value} {S : KS} (h : KvAt w g tt cs S N) (n : Int) : (prepM S n).1.1.length ≤ N := by
  unfold prepM
  split
  · exact Nat.zero_le _
  · split
    · exact Nat.zero_le _
    · split
      · exact Nat.zero_le _
      · show (curW S n).1.length ≤ N
        unfold curW
        rcases hW : S.W n with _ | ⟨l, p⟩
        · exact Nat.zero_le _
        · exact (h.le n l p hW).1
theorem qprep_len {w : World} {g of N : Nat} {tt : TypeId} {cs : Array Value} {S : Qu.QS} (h : Qu.QAt w g of tt cs S N) (n : Int) : (Qu.prepM S n).1.1.length ≤ N := by
  unfold Qu.prepM
  split
  · exact Nat.zero_le _
  · split
    · exact Nat.zero_le _
    · exact h.cur_len n
theorem call_any (g : Nat) (cs : Array Value) (S : RS) (N : Nat) (o : OpV) (w : World) (h : ResAt w g cs S N) (hN : N < 190000) (hok : Qu.QOk S.Q) (hn : i64ok o.n) (hy : i64ok o.y) (hcap : o.l.length ≤ o.c ∧ o.c ≤ 9223372036854775807) (hl : o.k = 8 → o.l.length ≤ N + 1) (hL : o.k = 8 → ∀ u, w.grownBy u (some g) → InL u o.A o.l) (hBK : ∀ b, w.heap.size ≤ b → S.K.B b) (hBQ : ∀ b, w.heap.size ≤ b → S.Q.B b) :
    Calls Tryz.prog 12 #[.pointer (some ⟨g, 0, none⟩), o.val] w (CallO w g N (callR S o)) := by
  obtain ⟨k, n, y, v, A, l, c⟩ := o
  dsimp only at hn hy hcap hl hL
  show Calls Tryz.prog _ #[.pointer (some ⟨g, 0, none⟩), .agg #[.int .i64 k, .int .i64 n, .int .i64 y, .int .u64 (v : Nat), .slice A l.length c]] w _
  unfold callR
  dsimp only
  by_cases e0 : k = 0
  · subst e0
    rw [if_pos rfl]
    exact call_get g cs S N n y v A l.length c w h hN hn hy
  by_cases e1 : k = 1
  · subst e1
    rw [if_neg (by decide), if_pos rfl]
    exact call_put g cs S N n y v A l.length c w h hN hn hy hBK
  by_cases e2 : k = 2
  · subst e2
    rw [if_neg (by decide), if_neg (by decide), if_pos rfl]
    exact call_del g cs S N n y v A l.length c w h hN hn hy hBK
  by_cases e3 : k = 3
  · subst e3
    rw [if_neg (by decide), if_neg (by decide), if_neg (by decide), if_pos rfl]
    exact call_push g cs S N n y v A l.length c w h hN hn hBQ
  by_cases e4 : k = 4
  · subst e4
    rw [if_neg (by decide), if_neg (by decide), if_neg (by decide), if_neg (by decide), if_pos rfl]
    exact call_pop g cs S N n y v A l.length c w h hN hn hBQ
  by_cases e5 : k = 5
  · subst e5
    rw [if_neg (by decide), if_neg (by decide), if_neg (by decide), if_neg (by decide), if_neg (by decide), if_pos rfl]
    exact call_prep g cs S N n y v A l.length c w h hN hn ⟨Nat.le_trans (kprep_len h.kv n) (by omega), Nat.le_trans (qprep_len h.qu n) (by omega)⟩
  by_cases e6 : k = 6
  · subst e6
    rw [if_neg (by decide), if_neg (by decide), if_neg (by decide), if_neg (by decide), if_neg (by decide), if_neg (by decide), if_pos rfl]
    exact call_commit g cs S N n y v A l.length c w h hN hn hok
  by_cases e7 : k = 7
  · subst e7
    rw [if_neg (by decide), if_neg (by decide), if_neg (by decide), if_neg (by decide), if_neg (by decide), if_neg (by decide), if_neg (by decide), if_pos rfl]
    exact call_back g cs S N n y v A l.length c w h hN hn
  by_cases e8 : k = 8
  · subst e8
    rw [if_neg (by decide), if_neg (by decide), if_neg (by decide), if_neg (by decide), if_neg (by decide), if_neg (by decide), if_neg (by decide), if_neg (by decide), if_pos rfl]
    exact call_restore g cs S N n y v A l.length c w h hN hn l (Lib.hid rfl) (hl rfl) hcap (hL rfl) hBK hBQ
  rw [if_neg e0, if_neg e1, if_neg e2, if_neg e3, if_neg e4, if_neg e5, if_neg e6, if_neg e7, if_neg e8]
  exact call_other g cs S N k n y v A l.length c w h (by omega)
/-- After a call, blocks are anyone's again. -/
def RS.free (S : RS) : RS := ⟨{ S.K with B := anyB }, { S.Q with B := anyB }, S.pr⟩
theorem ResAt.free {w : World} {g N : Nat} {cs : Array Value} {S : RS} (h : ResAt w g cs S N) : ResAt w g cs S.free N := ⟨h.kv.rebase fun _ _ _ => trivial, h.qu.rebase fun _ _ _ => trivial, h.pr, h.ln⟩
theorem holdR_Q (S : RS) (n : Int) (q : Nat) : (holdR S n q).Q = S.Q := by unfold holdR; split <;> rfl
theorem prepR_Q (S : RS) (n : Int) : (prepR S n).2.Q = if openR S n ≠ 0 then S.Q else (Qu.prepM S.Q n).2 := by
  unfold prepR; split
  · rfl
  · exact holdR_Q _ _ _
theorem callR_ok {S : RS} (h : Qu.QOk S.Q) (hd : S.Q.ws.Pairwise fun a b => a.n ≠ b.n) (o : OpV) : Qu.QOk (callR S o).2.Q := by
  unfold callR
  split
  · unfold getR; split <;> exact h
  split
  · unfold putR; split <;> exact h
  split
  · unfold delR; split <;> exact h
  split
  · unfold pushR; split
    · exact h
    · exact h.put hd _ _
  split
  · unfold popR; split
    · exact h
    · exact h.take hd _
  split
  · show Qu.QOk (prepR S o.n).2.Q
    rw [prepR_Q]; split
    · exact h
    · exact h.prep hd _
  split
  · unfold commitR; split
    · exact h
    · exact h.commit hd _
  split
  · unfold backR; split
    · exact h
    · exact h.back hd _
  split
  · unfold restoreR; split
    · exact h
    · split
      · exact h
      · split
        · exact h
        · split
          · exact h.rest hd _ _
          · show Qu.QOk (holdR _ _ _).Q
            rw [holdR_Q]
            exact h.rest hd _ _
  · exact h
end Go.Proofs.YtlliaihmfimdoaaGreat.Re

namespace Go.Proofs.YtlliaihmfimdoaaGreat.Re
open Go.RowKit Go.ChangeShapes Go.WideShapes Go.Joins Go.Deep Go.Proofs.YtlliaihmfimdoaaGreat
set_option linter.unusedVariables false
set_option linter.unusedSimpArgs false
def CapOk (o : OpV) : Prop := o.l.length ≤ o.c ∧ o.c ≤ 9223372036854775807
section
variable {H : Type} {enc : TypeId × Value → H} {W : World}
theorem slice_cap {t e : TypeId} {fuel n c : Nat} {A : Option Addr} {x : DataW H × List MemPlace} (ht : Tryz.prog.underlying t = some (.slice e)) (h : DataW.trod enc Tryz.prog W 0 (fun _ => true) true fuel t [.slice A n c] = some x) : n ≤ c ∧ c ≤ 9223372036854775807 := by
  rcases open_slice ht h with ⟨hcs, _⟩ | ⟨a, len, cap, m, n', D, Pl, hcs, _, hl, hm, _⟩
  · simp at hcs
    omega
  · simp at hcs
    obtain ⟨_, rfl, rfl⟩ := hcs
    unfold maxLen at hm
    exact ⟨hl, hm⟩
end
section
variable {H : Type} {enc : TypeId × Value → H} {W : World}
set_option maxRecDepth 1000000 in
theorem ops_trodC {fuel : Nat} {v : Value} {y : DataW H × List MemPlace} (hf : DataW.trod enc Tryz.prog W 0 (fun _ => true) true fuel 22 [v] = some y) :
    ∃ A ops c, v = .slice A (List.length ops) c ∧ OpsAt W A ops ∧ ∀ o ∈ ops, CapOk o := by
  have hC : Tryz.prog.cellsOf 42 = 5 := by kernel_rfl
  rcases open_slice Tryz.underlying22 hf with ⟨hcs, _⟩ | ⟨x, len, cap, m, n, D, Pl, hcs, _, hl, hm, hmm, _, hi⟩
  · simp at hcs
    subst hcs
    exact ⟨none, [], 0, rfl, ⟨by simp [maxLen], by simp, fun h => absurd h (by simp)⟩, by simp⟩
  · simp at hcs
    subst hcs
    simp only [if_true] at hmm
    subst hmm
    have each : ∀ i, i < m → ∃ o : OpV, (OpIn W o ∧ CapOk o) ∧ W.cell? (x.add (i * 5)) = some (.int .i64 o.k) ∧ W.cell? ((x.add (i * 5)).add 1) = some (.int .i64 o.n) ∧ W.cell? ((x.add (i * 5)).add 2) = some (.int .i64 o.y) ∧ W.cell? ((x.add (i * 5)).add 3) = some (.int .u64 (o.v : Nat)) ∧ W.cell? ((x.add (i * 5)).add 4) = some (.slice o.A o.l.length o.c) := by
      intro i him
      obtain ⟨cs', hc, ht⟩ := hi i him
      rw [hC] at hc
      obtain ⟨_, hcl, hat⟩ := World.cells?_some hc
      obtain ⟨xs, n', _, _, _, hxl, hf'⟩ := DataW.trod_struct Tryz.underlying42 ht
      match cs', hcl with
      | [c0, c1, c2, c3, c4], _ =>
        match xs, hxl with
        | [y0, y1, y2, y3, y4], _ =>
          have g0 := hf' 0 _ rfl
          have g1 := hf' 1 _ rfl
          have g2 := hf' 2 _ rfl
          have g3 := hf' 3 _ rfl
          have g4 := hf' 4 _ rfl
          have e_0 : Tryz.prog.cellsOf 3 = 1 := by kernel_rfl
          have e_1 : Tryz.prog.cellsOf 39 = 1 := by kernel_rfl
          have e_2 : Tryz.prog.cellsOf 40 = 1 := by kernel_rfl
          simp [e_0, e_1, e_2] at g0 g1 g2 g3 g4
          obtain ⟨z0, rfl, b0, d0⟩ := i64_trodB Tryz.underlying3 g0
          obtain ⟨z1, rfl, b1, d1⟩ := i64_trodB Tryz.underlying3 g1
          obtain ⟨z2, rfl, b2, d2⟩ := i64_trodB Tryz.underlying3 g2
          obtain ⟨z3, rfl, b3⟩ := u64_trodB Tryz.underlying39 g3
          obtain ⟨A4, l4, c4', rfl, b4⟩ := ch_trod g4
          have cp := slice_cap Tryz.underlying40 g4
          have a0 := hat 0 (by omega)
          have a1 := hat 1 (by omega)
          have a2 := hat 2 (by omega)
          have a3 := hat 3 (by omega)
          have a4 := hat 4 (by omega)
          have ez : (x.add (i * 5)).add 0 = x.add (i * 5) := by simp [Addr.add]
          rw [ez] at a0
          exact ⟨⟨z0, z1, z2, z3, A4, l4, c4'⟩, ⟨⟨⟨⟨b1, d1⟩, ⟨b2, d2⟩, b3⟩, b4.1, b4.2⟩, cp⟩, a0, a1, a2, a3, a4⟩
    let f : Nat → OpV := fun i => if h : i < m then (each i h).choose else ⟨0, 0, 0, 0, none, [], 0⟩
    have hf1 : ∀ i, (h : i < m) → (OpIn W (f i) ∧ CapOk (f i)) ∧ W.cell? (x.add (i * 5)) = some (.int .i64 (f i).k) ∧ W.cell? ((x.add (i * 5)).add 1) = some (.int .i64 (f i).n) ∧ W.cell? ((x.add (i * 5)).add 2) = some (.int .i64 (f i).y) ∧ W.cell? ((x.add (i * 5)).add 3) = some (.int .u64 ((f i).v : Nat)) ∧ W.cell? ((x.add (i * 5)).add 4) = some (.slice (f i).A (f i).l.length (f i).c) := by
      intro i h
      have := (each i h).choose_spec
      simp only [f, dif_pos h]
      exact this
    refine ⟨some x, (List.range len).map f, _, by simp; rfl, ⟨by simp; omega, fun o ho => ?_, fun hpos => ?_⟩, fun o ho => ?_⟩
    · obtain ⟨i, hi', rfl⟩ := List.mem_map.1 ho
      exact (hf1 i (by have := List.mem_range.1 hi'; omega)).1.1
    · have hpos' : 0 < len := by simpa using hpos
      have h00 := (hf1 0 (by omega)).2.1
      have ez : x.add (0 * 5) = x := by simp [Addr.add]
      rw [ez] at h00
      obtain ⟨b, o, rfl, hlt⟩ := add_spotB h00
      refine ⟨b, o, rfl, hlt, fun i hi' => ?_⟩
      have hi2 : i < len := by simpa using hi'
      have := (hf1 i (by omega)).2
      simp only [Addr.add_lit] at this
      simpa using this
    · obtain ⟨i, hi', rfl⟩ := List.mem_map.1 ho
      exact (hf1 i (by have := List.mem_range.1 hi'; omega)).1.2
end
section
variable {H : Type} {enc : TypeId × Value → H} {W : World}
set_option maxRecDepth 1000000 in
theorem open_opsC {r : Reach} {b0 : Nat} {v : Value} {d : DataW H} {p : List MemPlace} (hval : Value.okWide Tryz.prog W r b0 22 v) (h : DataW.Trod enc Tryz.prog W 0 (fun _ => true) true 22 v d p) :
    ∃ A ops c, v = .slice A (List.length ops) c ∧ OpsAt W A ops ∧ ∀ o ∈ ops, CapOk o := by
  obtain ⟨a, len, cap, rfl⟩ := okWide_slice Tryz.underlying22 hval
  obtain ⟨fuel, hf⟩ := h
  exact ops_trodC hf
end
section
variable {H : Type} {enc : TypeId × Value → H} {W : World}
set_option maxRecDepth 1000000 in
theorem open_op15C {r : Reach} {b0 : Nat} {v : Value} {d : DataW H} {p : List MemPlace} (hval : Value.okWide Tryz.prog W r b0 42 v) (h : DataW.Trod enc Tryz.prog W 0 (fun _ => true) true 42 v d p) :
    ∃ o : OpV, v = o.val ∧ OpIn W o ∧ CapOk o := by
  have hC : Tryz.prog.cellsOf 42 = 5 := by kernel_rfl
  obtain ⟨cs, rfl, hsz⟩ := okWide_struct Tryz.underlying42 hval
  obtain ⟨c0, c1, c2, c3, c4, rfl⟩ := array5 (hsz.trans hC)
  obtain ⟨fuel, hf⟩ := h
  obtain ⟨xs, n', _, _, _, hxl, hf'⟩ := DataW.trod_struct Tryz.underlying42 hf
  match xs, hxl with
  | [y0, y1, y2, y3, y4], _ =>
    have g0 := hf' 0 _ rfl
    have g1 := hf' 1 _ rfl
    have g2 := hf' 2 _ rfl
    have g3 := hf' 3 _ rfl
    have g4 := hf' 4 _ rfl
    have e_0 : Tryz.prog.cellsOf 3 = 1 := by kernel_rfl
    have e_1 : Tryz.prog.cellsOf 39 = 1 := by kernel_rfl
    have e_2 : Tryz.prog.cellsOf 40 = 1 := by kernel_rfl
    simp [Value.cells, e_0, e_1, e_2] at g0 g1 g2 g3 g4
    obtain ⟨z0, rfl, b0, d0⟩ := i64_trodB Tryz.underlying3 g0
    obtain ⟨z1, rfl, b1, d1⟩ := i64_trodB Tryz.underlying3 g1
    obtain ⟨z2, rfl, b2, d2⟩ := i64_trodB Tryz.underlying3 g2
    obtain ⟨z3, rfl, b3⟩ := u64_trodB Tryz.underlying39 g3
    obtain ⟨A4, l4, c4', rfl, b4⟩ := ch_trod g4
    have cp := slice_cap Tryz.underlying40 g4
    exact ⟨⟨z0, z1, z2, z3, A4, l4, c4'⟩, rfl, ⟨⟨⟨b1, d1⟩, ⟨b2, d2⟩, b3⟩, b4.1, b4.2⟩, cp⟩
end
end Go.Proofs.YtlliaihmfimdoaaGreat.Re
