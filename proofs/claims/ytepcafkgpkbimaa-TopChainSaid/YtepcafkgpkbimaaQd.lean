/- Through the layers: sides that meet. -/
import Derived.Test.YtepcafkgpkbimaaQc
namespace Go.Proofs.Ytepcafkgpkbimaa
open Go.RowKit
set_option linter.unusedVariables false
set_option linter.unusedSimpArgs false

/-- A meeting. -/
structure MeV where
  k : Int
  a : Int
  b : Int
/-- A list of meetings in memory. -/
def MeAt (w : World) (A : Option Addr) (ms : List MeV) : Prop :=
  ms.length ≤ maxLen ∧ (0 < ms.length → ∃ b o, A = some ⟨b, o, none⟩ ∧ b < w.heap.size ∧ ∀ i, (h : i < ms.length) →
    w.cell? ⟨b, o + i * 3, none⟩ = some (.int .i64 (ms[i]'h).k) ∧ w.cell? ⟨b, o + i * 3 + 1, none⟩ = some (.int .i64 (ms[i]'h).a) ∧ w.cell? ⟨b, o + i * 3 + 2, none⟩ = some (.int .i64 (ms[i]'h).b))
def m0 : Nat → Int := fun i => (i : Int) + 1
/-- What is kept from round to round. -/
structure Ch (w0 : World) (gm gs : Nat) (M Sv : Nat → Int) (nx : Nat) (u : World) : Prop where
  m : ArrU u gm 40 4 M
  s : ArrU u gs 41 16 Sv
  p : ∀ i, i < 4 → M i ≠ 0
  n : 5 ≤ nx
  b : Below w0.heap.size w0 u
def V15 (gm gs qa qb : Nat) (ma sa mb sb xs ys : Int) (ok : Bool) (i : Nat) (v : Value) : Prop :=
  match i with
  | 0 => v = .int .i64 qa
  | 1 => v = .pointer (some ⟨gm, qa, none⟩)
  | 2 => v = .int .u32 ma
  | 3 => v = .int .i64 qa
  | 4 => v = .int .i64 qb
  | 5 => v = .pointer (some ⟨gs, qa * 4, none⟩)
  | 6 => v = .pointer (some ⟨gs, qa * 4 + qb, none⟩)
  | 7 => v = .int .u32 sa
  | 8 => v = .agg #[.int .u32 ma, .int .u32 sa, .bool false]
  | 9 => v = .int .i64 qb
  | 10 => v = .pointer (some ⟨gm, qb, none⟩)
  | 11 => v = .int .u32 mb
  | 12 => v = .int .i64 qb
  | 13 => v = .int .i64 qa
  | 14 => v = .pointer (some ⟨gs, qb * 4, none⟩)
  | 15 => v = .pointer (some ⟨gs, qb * 4 + qa, none⟩)
  | 16 => v = .int .u32 sb
  | 17 => v = .agg #[.int .u32 mb, .int .u32 sb, .bool false]
  | 18 => v = .tuple #[.agg #[.int .u32 ma, .int .u32 xs, .bool false], .agg #[.int .u32 mb, .int .u32 ys, .bool false], .bool ok]
  | 19 => v = .tuple #[.agg #[.int .u32 ma, .int .u32 xs, .bool false], .agg #[.int .u32 mb, .int .u32 ys, .bool false], .bool ok]
  | 20 => v = .agg #[.int .u32 ma, .int .u32 xs, .bool false]
  | 21 => v = .agg #[.int .u32 mb, .int .u32 ys, .bool false]
  | 22 => v = .bool ok
  | 27 => v = .bool ok
  | _ => True
def V19 (gs ga gb qa qb : Nat) (xs ys : Int) (i : Nat) (v : Value) : Prop :=
  match i with
  | 0 => v = .int .i64 qa
  | 1 => v = .int .i64 qb
  | 2 => v = .int .i64 qb
  | 3 => v = .int .i64 qa
  | 4 => v = .pointer (some ⟨ga, 1, none⟩)
  | 5 => v = .int .u32 xs
  | 6 => v = .pointer (some ⟨gb, 1, none⟩)
  | 7 => v = .int .u32 ys
  | 8 => v = .pointer (some ⟨gs, qa * 4, none⟩)
  | 9 => v = .pointer (some ⟨gs, qa * 4 + qb, none⟩)
  | 11 => v = .pointer (some ⟨gs, qb * 4, none⟩)
  | 12 => v = .pointer (some ⟨gs, qb * 4 + qa, none⟩)
  | _ => True
/-- What is remembered, by which of the two have been written. -/
def sv19 (Sv : Nat → Int) (pa pb : Nat) (xs ys : Int) (ls : Nat → Bool) : Nat → Int := fun p => if ls 10 = true ∧ p = pa then xs else if ls 13 = true ∧ p = pb then ys else Sv p
theorem ArrU.congr2 {w : World} {g : Nat} {t : TypeId} {N : Nat} {M M' : Nat → Int} (h : ArrU w g t N M) (hm : ∀ i, M i = M' i) : ArrU w g t N M' := h.congr fun i _ => hm i
/-- A side's block: where it lies, and whether it is written. -/
def PtA (base : Nat) (vals : Array Value) (done : Bool) (v : Value) (u : World) : Prop := ∃ g, v = .pointer (some ⟨g, 0, none⟩) ∧ base ≤ g ∧ ∃ cs, Blk u g 45 cs ∧ (∃ a b c, cs = #[a, b, c]) ∧ (done = true → cs = vals)
theorem PtA.below {base : Nat} {vals : Array Value} {done : Bool} {v : Value} {u u' : World} (h : PtA base vals done v u) (hb : Below u.heap.size u u') : PtA base vals done v u' := by
  obtain ⟨g, h1, h2, cs, h3, h4, h5⟩ := h
  exact ⟨g, h1, h2, cs, h3.below hb h3.lt, h4, h5⟩
theorem PtA.kept {base g : Nat} {vals : Array Value} {done : Bool} {v : Value} {u u' : World} (h : PtA base vals done v u) (hg : u.grownBy u' (some g)) (hne : v ≠ .pointer (some ⟨g, 0, none⟩)) : PtA base vals done v u' := by
  obtain ⟨g', h1, h2, cs, h3, h4, h5⟩ := h
  exact ⟨g', h1, h2, cs, h3.kept hg (fun e => hne (by rw [h1, Option.some.inj e])), h4, h5⟩
structure C15 (w0 : World) (gm gs : Nat) (M Sv : Nat → Int) (nx base : Nat) (va vb : Array Value) (ls : Nat → Bool) (x : Nat → Value) (u : World) : Prop where
  c : Ch w0 gm gs M Sv nx u
  z : base ≤ u.heap.size
  d : (gm < base ∧ gs < base) ∧ w0.heap.size ≤ base
  a : ls 23 = true → PtA base va (ls 25) (x 23) u
  b : ls 24 = true → PtA base vb (ls 26) (x 24) u
  n : ls 23 = true → ls 24 = true → x 23 ≠ x 24
  a' : ls 25 = true → ls 23 = true
  b' : ls 26 = true → ls 24 = true
theorem Ch.below {w0 : World} {gm gs : Nat} {M Sv : Nat → Int} {nx : Nat} {u u' : World} (h : Ch w0 gm gs M Sv nx u) (hb : Below u.heap.size u u') : Ch w0 gm gs M Sv nx u' := ⟨h.m.below hb, h.s.below hb, h.p, h.n, bt h.b hb⟩
theorem Ch.kept {w0 : World} {gm gs g : Nat} {M Sv : Nat → Int} {nx : Nat} {u u' : World} (h : Ch w0 gm gs M Sv nx u) (hg : u.grownBy u' (some g)) (h1 : gm ≠ g) (h2 : gs ≠ g) (h3 : w0.heap.size ≤ g) : Ch w0 gm gs M Sv nx u' :=
  ⟨h.m.kept hg (by simpa using h1), h.s.kept hg (by simpa using h2), h.p, h.n, h.b.grown hg h.b.size (fun k e => by cases e; exact h3)⟩
section
variable {w0 : World} {gm gs : Nat} {M Sv : Nat → Int} {nx base : Nat} {va vb : Array Value} {ls : Nat → Bool} {x : Nat → Value} {u u' : World}
theorem C15.pure {i : Nat} {v : Value} (hi : i ≠ 23 ∧ i ≠ 24 ∧ i ≠ 25 ∧ i ≠ 26) (h : C15 w0 gm gs M Sv nx base va vb ls x u) : C15 w0 gm gs M Sv nx base va vb (updB ls i) (upd x i v) u := by
  obtain ⟨i1, i2, i3, i4⟩ := hi
  constructor
  · exact h.c
  · exact h.z
  · exact h.d
  all_goals simp only [updB_other i1.symm, updB_other i2.symm, updB_other i3.symm, updB_other i4.symm, upd_other i1.symm, upd_other i2.symm]
  · exact h.a
  · exact h.b
  · exact h.n
  · exact h.a'
  · exact h.b'
theorem C15.below (h : C15 w0 gm gs M Sv nx base va vb ls x u) (hb : Below u.heap.size u u') : C15 w0 gm gs M Sv nx base va vb ls x u' :=
  ⟨h.c.below hb, Nat.le_trans h.z hb.size, h.d, fun e => (h.a e).below hb, fun e => (h.b e).below hb, h.n, h.a', h.b'⟩
theorem C15.all1 (hl : ls 23 = false) (h : C15 w0 gm gs M Sv nx base va vb ls x u) : C15 w0 gm gs M Sv nx base va vb (updB ls 23) (upd x 23 (.pointer (some ⟨u.heap.size, 0, none⟩))) (u.alloc (.cells #[.int .u32 0, .int .u32 0, .bool false] 45)) := by
  have hb := ba u (.cells #[.int .u32 0, .int .u32 0, .bool false] 45)
  have h25 : ls 25 = false := by rcases e : ls 25 with _ | _; rfl; rw [h.a' e] at hl; cases hl
  constructor
  · exact h.c.below hb
  · exact Nat.le_trans h.z hb.size
  · exact h.d
  · intro _
    rw [updB_other (by decide), h25, upd_same]
    exact ⟨_, rfl, h.z, _, Blk.new _ _ _, ⟨_, _, _, rfl⟩, fun e => by cases e⟩
  · rw [updB_other (by decide), updB_other (by decide), upd_other (by decide)]
    exact fun e => (h.b e).below hb
  · rw [updB_other (by decide : 24 ≠ 23), upd_same, upd_other (by decide)]
    intro _ e e2
    obtain ⟨g, h1, _, cs, h3, _⟩ := h.b e
    rw [h1] at e2
    simp only [Value.pointer.injEq, Option.some.injEq, Addr.mk.injEq] at e2
    have := h3.lt
    omega
  · rw [updB_other (by decide), updB_same]; exact fun _ => rfl
  · rw [updB_other (by decide), updB_other (by decide)]; exact h.b'
theorem C15.all2 (hl : ls 24 = false) (h : C15 w0 gm gs M Sv nx base va vb ls x u) : C15 w0 gm gs M Sv nx base va vb (updB ls 24) (upd x 24 (.pointer (some ⟨u.heap.size, 0, none⟩))) (u.alloc (.cells #[.int .u32 0, .int .u32 0, .bool false] 45)) := by
  have hb := ba u (.cells #[.int .u32 0, .int .u32 0, .bool false] 45)
  have h26 : ls 26 = false := by rcases e : ls 26 with _ | _; rfl; rw [h.b' e] at hl; cases hl
  constructor
  · exact h.c.below hb
  · exact Nat.le_trans h.z hb.size
  · exact h.d
  · rw [updB_other (by decide), updB_other (by decide), upd_other (by decide)]
    exact fun e => (h.a e).below hb
  · intro _
    rw [updB_other (by decide), h26, upd_same]
    exact ⟨_, rfl, h.z, _, Blk.new _ _ _, ⟨_, _, _, rfl⟩, fun e => by cases e⟩
  · rw [updB_other (by decide : 23 ≠ 24), upd_same, upd_other (by decide)]
    intro e _ e2
    obtain ⟨g, h1, _, cs, h3, _⟩ := h.a e
    rw [h1] at e2
    simp only [Value.pointer.injEq, Option.some.injEq, Addr.mk.injEq] at e2
    have := h3.lt
    omega
  · rw [updB_other (by decide), updB_other (by decide)]; exact h.a'
  · rw [updB_other (by decide), updB_same]; exact fun _ => rfl
theorem C15.st1 {g : Nat} {v : Value} (h : C15 w0 gm gs M Sv nx base va vb ls x u) (hl : ls 23 = true) (hx : x 23 = .pointer (some ⟨g, 0, none⟩)) (hg0 : base ≤ g) (hg : u.grownBy u' (some g)) (hk : Blk u' g 45 va) (h3 : ∃ a b c, va = #[a, b, c]) : C15 w0 gm gs M Sv nx base va vb (updB ls 25) (upd x 25 v) u' := by
  have hd := h.d.1
  constructor
  · exact h.c.kept hg (by omega) (by omega) (Nat.le_trans h.d.2 hg0)
  · exact Nat.le_trans h.z hg.size
  · exact h.d
  · intro _
    rw [updB_same, upd_other (by decide)]
    exact ⟨g, hx, hg0, va, hk, h3, fun _ => rfl⟩
  · rw [updB_other (by decide), updB_other (by decide), upd_other (by decide)]
    exact fun e => (h.b e).kept hg (fun e2 => h.n hl e (by rw [hx, e2]))
  · rw [updB_other (by decide : 23 ≠ 25), updB_other (by decide : 24 ≠ 25), upd_other (by decide : 23 ≠ 25), upd_other (by decide : 24 ≠ 25)]; exact h.n
  · rw [updB_other (by decide : 23 ≠ 25)]; exact fun _ => hl
  · rw [updB_other (by decide : 26 ≠ 25), updB_other (by decide : 24 ≠ 25)]; exact h.b'
theorem C15.st2 {g : Nat} {v : Value} (h : C15 w0 gm gs M Sv nx base va vb ls x u) (hl : ls 24 = true) (hx : x 24 = .pointer (some ⟨g, 0, none⟩)) (hg0 : base ≤ g) (hg : u.grownBy u' (some g)) (hk : Blk u' g 45 vb) (h3 : ∃ a b c, vb = #[a, b, c]) : C15 w0 gm gs M Sv nx base va vb (updB ls 26) (upd x 26 v) u' := by
  have hd := h.d.1
  constructor
  · exact h.c.kept hg (by omega) (by omega) (Nat.le_trans h.d.2 hg0)
  · exact Nat.le_trans h.z hg.size
  · exact h.d
  · rw [updB_other (by decide), updB_other (by decide), upd_other (by decide)]
    exact fun e => (h.a e).kept hg (fun e2 => h.n e hl (by rw [hx, e2]))
  · intro _
    rw [updB_same, upd_other (by decide)]
    exact ⟨g, hx, hg0, vb, hk, h3, fun _ => rfl⟩
  · rw [updB_other (by decide : 23 ≠ 26), updB_other (by decide : 24 ≠ 26), upd_other (by decide : 23 ≠ 26), upd_other (by decide : 24 ≠ 26)]; exact h.n
  · rw [updB_other (by decide : 25 ≠ 26), updB_other (by decide : 23 ≠ 26)]; exact h.a'
  · rw [updB_other (by decide : 24 ≠ 26)]; exact fun _ => hl
end
structure C19 (w0 : World) (gm gs ga gb pa pb : Nat) (M Sv : Nat → Int) (nx : Nat) (xs ys : Int) (va vb : Array Value) (ls : Nat → Bool) (x : Nat → Value) (u : World) : Prop where
  c : Ch w0 gm gs M (sv19 Sv pa pb xs ys ls) nx u
  a : Blk u ga 45 va
  b : Blk u gb 45 vb
  d : gm ≠ gs ∧ ga ≠ gs ∧ gb ≠ gs ∧ w0.heap.size ≤ gs ∧ pa < 16 ∧ pb < 16 ∧ pa ≠ pb
section
variable {w0 : World} {gm gs ga gb pa pb nx : Nat} {M Sv : Nat → Int} {xs ys : Int} {va vb : Array Value} {ls : Nat → Bool} {x : Nat → Value} {u u' : World}
theorem C19.pure {i : Nat} {v : Value} (hi : i ≠ 10 ∧ i ≠ 13) (h : C19 w0 gm gs ga gb pa pb M Sv nx xs ys va vb ls x u) : C19 w0 gm gs ga gb pa pb M Sv nx xs ys va vb (updB ls i) (upd x i v) u := by
  have e : sv19 Sv pa pb xs ys (updB ls i) = sv19 Sv pa pb xs ys ls := by unfold sv19; rw [updB_other hi.1.symm, updB_other hi.2.symm]
  exact ⟨by rw [e]; exact h.c, h.a, h.b, h.d⟩
theorem C19.st1 {v : Value} (h : C19 w0 gm gs ga gb pa pb M Sv nx xs ys va vb ls x u) : C19 w0 gm gs ga gb pa pb M Sv nx xs ys va vb (updB ls 10) (upd x 10 v) (u.setCell ⟨gs, pa, none⟩ (.int .u32 xs)) := by
  obtain ⟨⟨h1, h2, h3, h4, h5⟩, ha, hb, d1, d2, d3, d4, d5, d6, d7⟩ := h
  refine ⟨⟨h1.kept (grown_setQ _ _ _ _) (by simpa using d1), (h2.set_ pa d5 xs).congr2 fun i => ?_, h3, h4, h5.setCell d4 _⟩, ha.far d2 _, hb.far d3 _, d1, d2, d3, d4, d5, d6, d7⟩
  unfold updM sv19
  rw [updB_same, updB_other (by decide : 13 ≠ 10)]
  by_cases hi : i = pa
  · simp [hi]
  · simp [hi]
theorem C19.st2 {v : Value} (h : C19 w0 gm gs ga gb pa pb M Sv nx xs ys va vb ls x u) : C19 w0 gm gs ga gb pa pb M Sv nx xs ys va vb (updB ls 13) (upd x 13 v) (u.setCell ⟨gs, pb, none⟩ (.int .u32 ys)) := by
  obtain ⟨⟨h1, h2, h3, h4, h5⟩, ha, hb, d1, d2, d3, d4, d5, d6, d7⟩ := h
  refine ⟨⟨h1.kept (grown_setQ _ _ _ _) (by simpa using d1), (h2.set_ pb d6 ys).congr2 fun i => ?_, h3, h4, h5.setCell d4 _⟩, ha.far d2 _, hb.far d3 _, d1, d2, d3, d4, d5, d6, d7⟩
  unfold updM sv19
  rw [updB_same, updB_other (by decide : 10 ≠ 13)]
  by_cases hi : i = pb
  · simp [hi, Ne.symm d7]
  · simp [hi]
end
set_option maxRecDepth 100000 in
set_option maxHeartbeats 8000000 in
theorem topChain_walk (A : Option Addr) (ms : List MeV) (c : Nat) (w : World) (h : MeAt w A ms) : Calls Try.prog 4 #[.slice A ms.length c] w fun e w' => e = .returned (.bool true) ∧ Below w.heap.size w w' := by
  obtain ⟨n, hn⟩ : ∃ n, n = ms.length := ⟨_, rfl⟩
  rw [← hn]
  have hnl : n ≤ 9223372036854775807 := by have := h.1; unfold maxLen at this; omega
  have HN := Lib.hid hn
  have HM := Lib.hid h.2
  clear hn h
  go_enter Try.func4, Try.ntmps4
  go_wp2_with fail
  obtain ⟨W2, hW2⟩ : ∃ W2, W2 = (w.alloc (.cells #[.int .u32 0, .int .u32 0, .int .u32 0, .int .u32 0] 40)).alloc (.cells #[.int .u32 0, .int .u32 0, .int .u32 0, .int .u32 0, .int .u32 0, .int .u32 0, .int .u32 0, .int .u32 0, .int .u32 0, .int .u32 0, .int .u32 0, .int .u32 0, .int .u32 0, .int .u32 0, .int .u32 0, .int .u32 0] 41) := ⟨_, rfl⟩
  rw [← hW2]
  obtain ⟨gm, hgm⟩ : ∃ gm, gm = w.heap.size := ⟨_, rfl⟩
  obtain ⟨gs, hgs⟩ : ∃ gs, gs = w.heap.size + 1 := ⟨_, rfl⟩
  have a1 : ArrU W2 gm 40 4 (fun i => if i < 0 then (i : Int) + 1 else 0) := by
    rw [hW2, hgm]
    exact ⟨_, (Blk.new _ _ _).alloc _, rfl, fun i hi => by show _ = some (Value.int .u32 (if i < 0 then (i : Int) + 1 else 0)); rw [if_neg (by omega)]; exact match i, hi with | 0, _ => rfl | 1, _ => rfl | 2, _ => rfl | 3, _ => rfl | _ + 4, hi => absurd hi (by omega)⟩
  have a2 : ArrU W2 gs 41 16 (fun _ => 0) := by
    rw [hW2, hgs]
    have := Blk.new (w.alloc (.cells #[.int .u32 0, .int .u32 0, .int .u32 0, .int .u32 0] 40)) 41 #[.int .u32 0, .int .u32 0, .int .u32 0, .int .u32 0, .int .u32 0, .int .u32 0, .int .u32 0, .int .u32 0, .int .u32 0, .int .u32 0, .int .u32 0, .int .u32 0, .int .u32 0, .int .u32 0, .int .u32 0, .int .u32 0]
    rw [World.size_alloc] at this
    exact ⟨_, this, rfl, fun i hi => match i, hi with | 0, _ => rfl | 1, _ => rfl | 2, _ => rfl | 3, _ => rfl | 4, _ => rfl | 5, _ => rfl | 6, _ => rfl | 7, _ => rfl | 8, _ => rfl | 9, _ => rfl | 10, _ => rfl | 11, _ => rfl | 12, _ => rfl | 13, _ => rfl | 14, _ => rfl | 15, _ => rfl | _ + 16, hi => absurd hi (by omega)⟩
  have b2 : Below w.heap.size w W2 := by rw [hW2]; exact bt (ba _ _) (ba _ _)
  have HG := Lib.hid (And.intro hgm hgs)
  rw [← hgs, ← hgm]
  clear hW2 hgm hgs
  go_loopw [5] (fun i wr => ∃ (j : Nat), j ≤ 4 ∧ i = .int .i64 j ∧ ArrU wr gm 40 4 (fun i => if i < j then (i : Int) + 1 else 0) ∧ ArrU wr gs 41 16 (fun _ => 0) ∧ Below w.heap.size w wr) (fun i _ => 4 - (intOf i).toNat)
  case atStart => exact ⟨0, by omega, rfl, a1, a2, b2⟩
  case round =>
    clear a1 a2 b2
    obtain ⟨j, hj, rfl, a1, a2, b2⟩ := hrel
    by_cases hj4 : j < 4
    · have hjI : (j : Int) < 4 := by omega
      have cc := a1.cell j hj4
      have ff := a1.frozen j
      have a3 := a1.set_ j hj4 ((j : Int) + 1)
      have hne : gs ≠ gm := by have := HG.out; omega
      have a4 := a2.kept (grown_setQ wr gm j (.int .u32 ((j : Int) + 1))) (by simpa using hne)
      have b3 := b2.setCell (p := ⟨gm, j, none⟩) (by have := HG.out; dsimp only; omega) (.int .u32 ((j : Int) + 1))
      have hw1 : IntKind.u32.wrap (j : Int) = (j : Int) := by simp [IntKind.wrap, IntKind.bits, IntKind.signed]; omega
      have hw2 : IntKind.u32.wrap ((j : Int) + 1) = (j : Int) + 1 := by simp [IntKind.wrap, IntKind.bits, IntKind.signed]; omega
      have HX := Lib.hid (And.intro a3 (And.intro a4 b3))
      clear a1 a2 b2 a3 a4 b3
      go_wp2
      go_roundw
      case rel => exact ⟨j + 1, by omega, by go_num, HX.out.1.congr (fun i hi => by show updM _ j ((j : Int) + 1) i = if i < j + 1 then (i : Int) + 1 else 0; unfold updM; dsimp only; by_cases h : i = j; (subst h; rw [if_pos rfl, if_pos (by omega)]); (rw [if_neg h]; by_cases h2 : i < j; (rw [if_pos h2, if_pos (by omega)]); (rw [if_neg h2, if_neg (by omega)]))), HX.out.2.1, HX.out.2.2⟩
      case measure => simp [intOf]; omega
    · obtain rfl : j = 4 := by omega
      have hjI : ¬ (((4 : Nat) : Int)) < 4 := by omega
      have HC : Hid (Ch w gm gs (fun i => if i < 4 then (i : Int) + 1 else 0) (fun _ => 0) 5 wr) := Lib.hid ⟨a1, a2, fun i hi => by show (if i < 4 then (i : Int) + 1 else 0) ≠ 0; rw [if_pos hi]; omega, by omega, b2⟩
      clear a1 a2 b2
      go_wp2
      go_loopw [6, 7] (fun x i wv => ∃ (j nx : Nat) (M Sv : Nat → Int), j ≤ n ∧ i = .int .i64 j ∧ x = .int .u32 (nx : Nat) ∧ Hid (nx ≤ 5 + j ∧ Ch w gm gs M Sv nx wv)) (fun x i _ => n - (intOf i).toNat)
      case atStart => exact ⟨0, 5, _, _, Nat.zero_le _, rfl, rfl, Lib.hid ⟨by omega, HC.out⟩⟩
      case round =>
        clear HC
        obtain ⟨j, nx, M, Sv, hj, rfl, rfl, HC⟩ := hrel
        by_cases hjn : j < n
        · have hjI : (j : Int) < (n : Int) := by omega
          by_cases hj2 : j < 200
          · have hj2I : (j : Int) < 200 := by omega
            obtain ⟨b, o, rfl, hbl, hcell⟩ := HM.out (by have := HN.out; omega)
            obtain ⟨q0, q1, q2⟩ := hcell j (by have := HN.out; omega)
            obtain ⟨mk, ma, mb⟩ : MeV := ms[j]'(by have := HN.out; omega)
            obtain ⟨me, hme⟩ : ∃ me, me = ms[j]'(by have := HN.out; omega) := ⟨_, rfl⟩
            rw [← hme] at q0 q1 q2
            obtain ⟨mk, ma, mb⟩ := me
            dsimp only at q0 q1 q2
            obtain ⟨qa, hqa, hna⟩ := and_lowQ ma 3 (by omega)
            obtain ⟨qb, hqb, hnb⟩ := and_lowQ mb 3 (by omega)
            have p0 := fun m : Nat => (show (wr.drewN m).cell? ⟨b, o + j * 3, none⟩ = _ from (HC.out.2.b.cell (p := ⟨b, o + j * 3, none⟩) hbl).trans q0)
            have p1 := fun m : Nat => (show (wr.drewN m).cell? ⟨b, o + j * 3 + 1, none⟩ = _ from (HC.out.2.b.cell (p := ⟨b, o + j * 3 + 1, none⟩) hbl).trans q1)
            have p2 := fun m : Nat => (show (wr.drewN m).cell? ⟨b, o + j * 3 + 2, none⟩ = _ from (HC.out.2.b.cell (p := ⟨b, o + j * 3 + 2, none⟩) hbl).trans q2)
            have hna : bits .and .i64 ma 3 = (qa : Int) := hna
            have hnb : bits .and .i64 mb 3 = (qb : Int) := hnb
            clear q0 q1 q2 hcell hme
            go_wp2_with fail
            go_quiet (fail)
            obtain ⟨wq, hwq⟩ : ∃ wq, wq = wr.drewN nq := ⟨_, rfl⟩
            have HC2 : Hid (nx ≤ 5 + j ∧ Ch w gm gs M Sv nx wq) := Lib.hid ⟨HC.out.1, by rw [hwq]; exact ⟨HC.out.2.m, HC.out.2.s, HC.out.2.p, HC.out.2.n, ⟨HC.out.2.b.os, HC.out.2.b.tape, HC.out.2.b.output, HC.out.2.b.size, HC.out.2.b.block⟩⟩⟩
            have p0 := p0 nq
            rw [← hwq] at p0 ⊢
            clear p1 p2 HC hwq
            have qaI : (qa : Int) < 4 := by omega
            have qbI : (qb : Int) < 4 := by omega
            have hrel2 : ∀ (u : World) (M' Sv' : Nat → Int) (nx' : Nat), nx' ≤ 5 + (j + 1) → Ch w gm gs M' Sv' nx' u → Hid (nx' ≤ 5 + (j + 1) ∧ Ch w gm gs M' Sv' nx' u) := fun u M' Sv' nx' h1 h2 => Lib.hid ⟨h1, h2⟩
            have hms : n - (j + 1) < n - j := by omega
            clear hna hnb hqa hqb hbl
            rcases k0 : (mk == 0) with _ | _
            · rcases k1 : (mk == 1) with _ | _
              · rcases k2 : (mk == 2) with _ | _
                · go_wp2
                  go_roundw
                  case rel => exact ⟨j + 1, nx, M, Sv, by omega, by go_num, rfl, Lib.hid ⟨by have := HC2.out.1; omega, HC2.out.2⟩⟩
                  case measure => simp [intOf]; omega
                · have cc := HC2.out.2.s.cell (qa * 4 + qb) (by omega)
                  have ff := HC2.out.2.s.frozen (qa * 4 + qb)
                  have HX : Hid (Ch w gm gs M (updM Sv (qa * 4 + qb) 0) nx (wq.setCell ⟨gs, qa * 4 + qb, none⟩ (.int .u32 0))) := Lib.hid (by
                    obtain ⟨h1, h2, h3, h4, h5⟩ := HC2.out.2
                    exact ⟨h1.kept (grown_setQ _ _ _ _) (by simp; have := HG.out; omega), h2.set_ _ (by omega) _, h3, h4, h5.setCell (by have := HG.out; dsimp only; omega) _⟩)
                  go_wp2
                  go_roundw
                  case rel => exact ⟨j + 1, nx, M, _, by omega, by go_num, rfl, Lib.hid ⟨by have := HC2.out.1; omega, HX.out⟩⟩
                  case measure => simp [intOf]; omega
              · have hw1 : IntKind.u32.wrap ((nx : Int) + 1) = (nx : Int) + 1 := by have := HC2.out.1; simp [IntKind.wrap, IntKind.bits, IntKind.signed]; omega
                obtain ⟨h1, h2, h3, h4, h5⟩ := HC2.out.2
                have hne : gs ≠ gm := by have := HG.out; omega
                obtain ⟨V1, hV1⟩ : ∃ V1, wq.setCell ⟨gm, qa, none⟩ (.int .u32 nx) = V1 := ⟨_, rfl⟩
                have m1 := h1.set_ qa (by omega) (nx : Int)
                have s1 := h2.kept (grown_setQ wq gm qa (.int .u32 nx)) (by simpa using hne)
                have b1 := h5.setCell (p := ⟨gm, qa, none⟩) (by have := HG.out; dsimp only; omega) (.int .u32 nx)
                have cm := h1.cell qa (by omega)
                have fm := h1.frozen qa
                rw [hV1] at m1 s1 b1
                obtain ⟨V2, hV2⟩ : ∃ V2, V1.setCell ⟨gs, qa * 4, none⟩ (.int .u32 0) = V2 := ⟨_, rfl⟩
                have m2 := m1.kept (grown_setQ V1 gs (qa * 4) (.int .u32 0)) (by simpa using Ne.symm hne)
                have s2 := s1.set_ (qa * 4) (by omega) 0
                have b2 := b1.setCell (p := ⟨gs, qa * 4, none⟩) (by have := HG.out; dsimp only; omega) (.int .u32 0)
                have c1 := s1.cell (qa * 4) (by omega)
                have f1 := s1.frozen (qa * 4)
                rw [hV2] at m2 s2 b2
                obtain ⟨V3, hV3⟩ : ∃ V3, V2.setCell ⟨gs, qa * 4 + 1, none⟩ (.int .u32 0) = V3 := ⟨_, rfl⟩
                have m3 := m2.kept (grown_setQ V2 gs (qa * 4 + 1) (.int .u32 0)) (by simpa using Ne.symm hne)
                have s3 := s2.set_ (qa * 4 + 1) (by omega) 0
                have b3 := b2.setCell (p := ⟨gs, qa * 4 + 1, none⟩) (by have := HG.out; dsimp only; omega) (.int .u32 0)
                have c2 := s2.cell (qa * 4 + 1) (by omega)
                have f2 := s2.frozen (qa * 4 + 1)
                rw [hV3] at m3 s3 b3
                obtain ⟨V4, hV4⟩ : ∃ V4, V3.setCell ⟨gs, qa * 4 + 2, none⟩ (.int .u32 0) = V4 := ⟨_, rfl⟩
                have m4 := m3.kept (grown_setQ V3 gs (qa * 4 + 2) (.int .u32 0)) (by simpa using Ne.symm hne)
                have s4 := s3.set_ (qa * 4 + 2) (by omega) 0
                have b4 := b3.setCell (p := ⟨gs, qa * 4 + 2, none⟩) (by have := HG.out; dsimp only; omega) (.int .u32 0)
                have c3 := s3.cell (qa * 4 + 2) (by omega)
                have f3 := s3.frozen (qa * 4 + 2)
                rw [hV4] at m4 s4 b4
                obtain ⟨V5, hV5⟩ : ∃ V5, V4.setCell ⟨gs, qa * 4 + 3, none⟩ (.int .u32 0) = V5 := ⟨_, rfl⟩
                have m5 := m4.kept (grown_setQ V4 gs (qa * 4 + 3) (.int .u32 0)) (by simpa using Ne.symm hne)
                have s5 := s4.set_ (qa * 4 + 3) (by omega) 0
                have b5 := b4.setCell (p := ⟨gs, qa * 4 + 3, none⟩) (by have := HG.out; dsimp only; omega) (.int .u32 0)
                have c4 := s4.cell (qa * 4 + 3) (by omega)
                have f4 := s4.frozen (qa * 4 + 3)
                rw [hV5] at m5 s5 b5
                have HX : Hid (Ch w gm gs (updM M qa (nx : Int)) (updM (updM (updM (updM Sv (qa * 4) 0) (qa * 4 + 1) 0) (qa * 4 + 2) 0) (qa * 4 + 3) 0) (nx + 1) V5) := Lib.hid ⟨m5, s5, fun i hi => by unfold updM; split; omega; exact h3 i hi, by omega, b5⟩
                generalize updM Sv (qa * 4) 0 = S1 at *
                generalize updM S1 (qa * 4 + 1) 0 = S2 at *
                generalize updM S2 (qa * 4 + 2) 0 = S3 at *
                clear m1 s1 b1 m2 s2 b2 m3 s3 b3 m4 s4 b4 m5 s5 b5 h1 h2 h3 h4 h5
                go_wp2
                go_roundw
                case rel => exact ⟨j + 1, nx + 1, _, _, by omega, by go_num, by go_num, Lib.hid ⟨by have := HC2.out.1; omega, HX.out⟩⟩
                case measure => simp [intOf]; omega
            · rcases kab : ((qa : Int) == (qb : Int)) with _ | _
              · go_wp2_with fail
                have hlt : (gm < wq.heap.size ∧ gs < wq.heap.size) ∧ w.heap.size ≤ wq.heap.size := ⟨⟨HC2.out.2.m.lt, HC2.out.2.s.lt⟩, HC2.out.2.b.size⟩
                obtain ⟨xs, ys, ok, hok, hxy, hA⟩ := after_two (M qa) (Sv (qa * 4 + qb)) (M qb) (Sv (qb * 4 + qa)) (HC2.out.2.p _ (by omega)) (HC2.out.2.p _ (by omega))
                have HA := Lib.hid hA
                have HOK := Lib.hid (And.intro hok hxy)
                clear hok hxy hA
                refine wp_region_invJ (F := ?FX) (V := (V15 gm gs qa qb (M qa) (Sv (qa * 4 + qb)) (M qb) (Sv (qb * 4 + qa)) xs ys ok)) (C := (C15 w gm gs M Sv nx wq.heap.size #[.int .u32 (M qa), .int .u32 xs, .bool false] #[.int .u32 (M qb), .int .u32 ys, .bool false])) (by kernel_rfl) (by kernel_rfl) (by kernel_rfl) (fun x => ?hFX) ?hCX ?stepX ?finX
                case hFX => simp only [mkA, Act.put, List.setIfInBounds_toArray, List.set_cons_succ, List.set_cons_zero, Nat.reduceAdd, Nat.zero_add]; first | with_reducible rfl | rfl
                case hCX => exact fun x => ⟨HC2.out.2.below ⟨rfl, rfl, rfl, Nat.le_refl _, fun _ _ => rfl⟩, Nat.le_refl _, hlt, fun e => by simp at e, fun e => by simp at e, fun e => by simp at e, fun e => by simp at e, fun e => by simp at e⟩
                case stepX =>
                  refine AllOps.cons (fun ls x u hC hl hp K hK => ?_) ?_
                  · clear hp
                    go_simp
                    refine hK _ _ _ (C15.pure (by decide) hC) (by exact rfl) ?_
                    first | (simp only [Act.put, List.setIfInBounds_toArray, List.set_cons_succ, List.set_cons_zero]; done) | simp [Act.put]
                  refine AllOps.cons (fun ls x u hC hl hp K hK => ?_) ?_
                  · simp [KnownTill, Region.binds, V15] at hp
                    go_simp
                    refine hK _ _ _ (C15.pure (by decide) hC) (by exact rfl) ?_
                    first | (simp only [Act.put, List.setIfInBounds_toArray, List.set_cons_succ, List.set_cons_zero, hp]; done) | simp [Act.put, hp]
                  refine AllOps.cons (fun ls x u hC hl hp K hK => ?_) ?_
                  · simp [KnownTill, Region.binds, V15] at hp
                    have cc := hC.c.m.cell qa (by omega)
                    go_simp
                    refine hK _ _ _ (C15.pure (by decide) hC) (by exact rfl) ?_
                    first | (simp only [Act.put, List.setIfInBounds_toArray, List.set_cons_succ, List.set_cons_zero, hp]; done) | simp [Act.put, hp]
                  refine AllOps.cons (fun ls x u hC hl hp K hK => ?_) ?_
                  · clear hp
                    go_simp
                    refine hK _ _ _ (C15.pure (by decide) hC) (by exact rfl) ?_
                    first | (simp only [Act.put, List.setIfInBounds_toArray, List.set_cons_succ, List.set_cons_zero]; done) | simp [Act.put]
                  refine AllOps.cons (fun ls x u hC hl hp K hK => ?_) ?_
                  · clear hp
                    go_simp
                    refine hK _ _ _ (C15.pure (by decide) hC) (by exact rfl) ?_
                    first | (simp only [Act.put, List.setIfInBounds_toArray, List.set_cons_succ, List.set_cons_zero]; done) | simp [Act.put]
                  refine AllOps.cons (fun ls x u hC hl hp K hK => ?_) ?_
                  · simp [KnownTill, Region.binds, V15] at hp
                    go_simp
                    refine hK _ _ _ (C15.pure (by decide) hC) (by exact rfl) ?_
                    first | (simp only [Act.put, List.setIfInBounds_toArray, List.set_cons_succ, List.set_cons_zero, hp]; done) | simp [Act.put, hp]
                  refine AllOps.cons (fun ls x u hC hl hp K hK => ?_) ?_
                  · simp [KnownTill, Region.binds, V15] at hp
                    go_simp
                    refine hK _ _ _ (C15.pure (by decide) hC) (by exact rfl) ?_
                    first | (simp only [Act.put, List.setIfInBounds_toArray, List.set_cons_succ, List.set_cons_zero, hp]; done) | simp [Act.put, hp]
                  refine AllOps.cons (fun ls x u hC hl hp K hK => ?_) ?_
                  · simp [KnownTill, Region.binds, V15] at hp
                    have cc := hC.c.s.cell (qa * 4 + qb) (by omega)
                    go_simp
                    refine hK _ _ _ (C15.pure (by decide) hC) (by exact rfl) ?_
                    first | (simp only [Act.put, List.setIfInBounds_toArray, List.set_cons_succ, List.set_cons_zero, hp]; done) | simp [Act.put, hp]
                  refine AllOps.cons (fun ls x u hC hl hp K hK => ?_) ?_
                  · simp [KnownTill, Region.binds, V15] at hp
                    go_simp
                    refine hK _ _ _ (C15.pure (by decide) hC) (by exact rfl) ?_
                    first | (simp only [Act.put, List.setIfInBounds_toArray, List.set_cons_succ, List.set_cons_zero, hp]; done) | simp [Act.put, hp]
                  refine AllOps.cons (fun ls x u hC hl hp K hK => ?_) ?_
                  · clear hp
                    go_simp
                    refine hK _ _ _ (C15.pure (by decide) hC) (by exact rfl) ?_
                    first | (simp only [Act.put, List.setIfInBounds_toArray, List.set_cons_succ, List.set_cons_zero]; done) | simp [Act.put]
                  refine AllOps.cons (fun ls x u hC hl hp K hK => ?_) ?_
                  · simp [KnownTill, Region.binds, V15] at hp
                    go_simp
                    refine hK _ _ _ (C15.pure (by decide) hC) (by exact rfl) ?_
                    first | (simp only [Act.put, List.setIfInBounds_toArray, List.set_cons_succ, List.set_cons_zero, hp]; done) | simp [Act.put, hp]
                  refine AllOps.cons (fun ls x u hC hl hp K hK => ?_) ?_
                  · simp [KnownTill, Region.binds, V15] at hp
                    have cc := hC.c.m.cell qb (by omega)
                    go_simp
                    refine hK _ _ _ (C15.pure (by decide) hC) (by exact rfl) ?_
                    first | (simp only [Act.put, List.setIfInBounds_toArray, List.set_cons_succ, List.set_cons_zero, hp]; done) | simp [Act.put, hp]
                  refine AllOps.cons (fun ls x u hC hl hp K hK => ?_) ?_
                  · clear hp
                    go_simp
                    refine hK _ _ _ (C15.pure (by decide) hC) (by exact rfl) ?_
                    first | (simp only [Act.put, List.setIfInBounds_toArray, List.set_cons_succ, List.set_cons_zero]; done) | simp [Act.put]
                  refine AllOps.cons (fun ls x u hC hl hp K hK => ?_) ?_
                  · clear hp
                    go_simp
                    refine hK _ _ _ (C15.pure (by decide) hC) (by exact rfl) ?_
                    first | (simp only [Act.put, List.setIfInBounds_toArray, List.set_cons_succ, List.set_cons_zero]; done) | simp [Act.put]
                  refine AllOps.cons (fun ls x u hC hl hp K hK => ?_) ?_
                  · simp [KnownTill, Region.binds, V15] at hp
                    go_simp
                    refine hK _ _ _ (C15.pure (by decide) hC) (by exact rfl) ?_
                    first | (simp only [Act.put, List.setIfInBounds_toArray, List.set_cons_succ, List.set_cons_zero, hp]; done) | simp [Act.put, hp]
                  refine AllOps.cons (fun ls x u hC hl hp K hK => ?_) ?_
                  · simp [KnownTill, Region.binds, V15] at hp
                    go_simp
                    refine hK _ _ _ (C15.pure (by decide) hC) (by exact rfl) ?_
                    first | (simp only [Act.put, List.setIfInBounds_toArray, List.set_cons_succ, List.set_cons_zero, hp]; done) | simp [Act.put, hp]
                  refine AllOps.cons (fun ls x u hC hl hp K hK => ?_) ?_
                  · simp [KnownTill, Region.binds, V15] at hp
                    have cc := hC.c.s.cell (qb * 4 + qa) (by omega)
                    go_simp
                    refine hK _ _ _ (C15.pure (by decide) hC) (by exact rfl) ?_
                    first | (simp only [Act.put, List.setIfInBounds_toArray, List.set_cons_succ, List.set_cons_zero, hp]; done) | simp [Act.put, hp]
                  refine AllOps.cons (fun ls x u hC hl hp K hK => ?_) ?_
                  · simp [KnownTill, Region.binds, V15] at hp
                    go_simp
                    refine hK _ _ _ (C15.pure (by decide) hC) (by exact rfl) ?_
                    first | (simp only [Act.put, List.setIfInBounds_toArray, List.set_cons_succ, List.set_cons_zero, hp]; done) | simp [Act.put, hp]
                  refine AllOps.cons (fun ls x u hC hl hp K hK => ?_) ?_
                  · simp [KnownTill, Region.binds, V15] at hp
                    go_simp
                    refine (HA.out u).mono ?_
                    rintro e wA ⟨rfl, hbA⟩
                    refine hK _ _ _ (C15.pure (by decide) (hC.below hbA)) (by exact rfl) ?_
                    first | (simp only [Act.put, List.setIfInBounds_toArray, List.set_cons_succ, List.set_cons_zero, hp]; done) | simp [Act.put, hp]
                  refine AllOps.cons (fun ls x u hC hl hp K hK => ?_) ?_
                  · simp [KnownTill, Region.binds, V15] at hp
                    go_simp
                    refine hK _ _ _ (C15.pure (by decide) hC) (by exact rfl) ?_
                    first | (simp only [Act.put, List.setIfInBounds_toArray, List.set_cons_succ, List.set_cons_zero, hp]; done) | simp [Act.put, hp]
                  refine AllOps.cons (fun ls x u hC hl hp K hK => ?_) ?_
                  · simp [KnownTill, Region.binds, V15] at hp
                    go_simp
                    refine hK _ _ _ (C15.pure (by decide) hC) (by exact rfl) ?_
                    first | (simp only [Act.put, List.setIfInBounds_toArray, List.set_cons_succ, List.set_cons_zero, hp]; done) | simp [Act.put, hp]
                  refine AllOps.cons (fun ls x u hC hl hp K hK => ?_) ?_
                  · simp [KnownTill, Region.binds, V15] at hp
                    go_simp
                    refine hK _ _ _ (C15.pure (by decide) hC) (by exact rfl) ?_
                    first | (simp only [Act.put, List.setIfInBounds_toArray, List.set_cons_succ, List.set_cons_zero, hp]; done) | simp [Act.put, hp]
                  refine AllOps.cons (fun ls x u hC hl hp K hK => ?_) ?_
                  · simp [KnownTill, Region.binds, V15] at hp
                    go_simp
                    refine hK _ _ _ (C15.pure (by decide) hC) (by exact rfl) ?_
                    first | (simp only [Act.put, List.setIfInBounds_toArray, List.set_cons_succ, List.set_cons_zero, hp]; done) | simp [Act.put, hp]
                  refine AllOps.cons (fun ls x u hC hl hp K hK => ?_) ?_
                  · clear hp
                    go_simp
                    refine hK _ _ _ (C15.all1 hl hC) (by trivial) ?_
                    first | (simp only [Act.put, List.setIfInBounds_toArray, List.set_cons_succ, List.set_cons_zero]; done) | simp [Act.put]
                  refine AllOps.cons (fun ls x u hC hl hp K hK => ?_) ?_
                  · clear hp
                    go_simp
                    refine hK _ _ _ (C15.all2 hl hC) (by trivial) ?_
                    first | (simp only [Act.put, List.setIfInBounds_toArray, List.set_cons_succ, List.set_cons_zero]; done) | simp [Act.put]
                  refine AllOps.cons (fun ls x u hC hl hp K hK => ?_) ?_
                  · simp [KnownTill, Region.binds, V15] at hp
                    have hlk : ls 23 = true := by first | exact hp.1.1 | exact hp.2.1.1 | exact hp.2.1 | exact hp.1 | exact hp.2
                    obtain ⟨g, e23, hg0, cs, kb, ⟨y0, y1, y2, rfl⟩, _⟩ := hC.a hlk
                    have cw0 := kb.cell 0
                    have cw1 := kb.cell 1
                    have cw2 := kb.cell 2
                    simp only [List.getElem?_toArray, List.getElem?_cons_zero, List.getElem?_cons_succ] at cw0 cw1 cw2
                    have fw0 := kb.frozen 0
                    have fw1 := kb.frozen 1
                    have fw2 := kb.frozen 2
                    have sx0 := kb.set_ 0 (.int .u32 (M qa))
                    have ew0 := sx0.cell 0
                    have sx1 := sx0.set_ 1 (.int .u32 xs)
                    have ew1 := sx1.cell 1
                    have sx2 := sx1.set_ 2 (.bool false)
                    have ew2 := sx2.cell 2
                    simp at ew0 ew1 ew2
                    have hgr := ((grown_setQ u g 0 (.int .u32 (M qa))).trans (grown_setQ _ g 1 (.int .u32 xs))).trans (grown_setQ _ g 2 (.bool false))
                    have nC := C15.st1 (v := undef) hC hlk e23 hg0 hgr (by simpa using sx2) ⟨_, _, _, rfl⟩
                    clear sx0 sx1 sx2 hC hgr
                    simp only [e23]
                    go_simp
                    refine hK undef _ _ nC trivial ?_
                    first | (simp only [Act.put, List.setIfInBounds_toArray, List.set_cons_succ, List.set_cons_zero, hp, e23]; done) | simp [Act.put, hp, e23]
                  refine AllOps.cons (fun ls x u hC hl hp K hK => ?_) ?_
                  · simp [KnownTill, Region.binds, V15] at hp
                    have hlk : ls 24 = true := by first | exact hp.1.1 | exact hp.2.1.1 | exact hp.2.1 | exact hp.1 | exact hp.2
                    obtain ⟨g, e23, hg0, cs, kb, ⟨y0, y1, y2, rfl⟩, _⟩ := hC.b hlk
                    have cw0 := kb.cell 0
                    have cw1 := kb.cell 1
                    have cw2 := kb.cell 2
                    simp only [List.getElem?_toArray, List.getElem?_cons_zero, List.getElem?_cons_succ] at cw0 cw1 cw2
                    have fw0 := kb.frozen 0
                    have fw1 := kb.frozen 1
                    have fw2 := kb.frozen 2
                    have sx0 := kb.set_ 0 (.int .u32 (M qb))
                    have ew0 := sx0.cell 0
                    have sx1 := sx0.set_ 1 (.int .u32 ys)
                    have ew1 := sx1.cell 1
                    have sx2 := sx1.set_ 2 (.bool false)
                    have ew2 := sx2.cell 2
                    simp at ew0 ew1 ew2
                    have hgr := ((grown_setQ u g 0 (.int .u32 (M qb))).trans (grown_setQ _ g 1 (.int .u32 ys))).trans (grown_setQ _ g 2 (.bool false))
                    have nC := C15.st2 (v := undef) hC hlk e23 hg0 hgr (by simpa using sx2) ⟨_, _, _, rfl⟩
                    clear sx0 sx1 sx2 hC hgr
                    simp only [e23]
                    go_simp
                    refine hK undef _ _ nC trivial ?_
                    first | (simp only [Act.put, List.setIfInBounds_toArray, List.set_cons_succ, List.set_cons_zero, hp, e23]; done) | simp [Act.put, hp, e23]
                  refine AllOps.cons (fun ls x u hC hl hp K hK => ?_) ?_
                  · simp [KnownTill, Region.binds, V15] at hp
                    go_simp
                    refine hK _ _ _ (C15.pure (by decide) hC) (by exact rfl) ?_
                    first | (simp only [Act.put, List.setIfInBounds_toArray, List.set_cons_succ, List.set_cons_zero, hp]; done) | simp [Act.put, hp]
                  exact AllOps.nil
                case finX =>
                  intro ls x u hC hV
                  have l23 := (hV 23 (by decide)).1
                  have l24 := (hV 24 (by decide)).1
                  have l25 := (hV 25 (by decide)).1
                  have l26 := (hV 26 (by decide)).1
                  have e27 : x 27 = .bool ok := (hV 27 (by decide)).2
                  obtain ⟨ga, ea, hga, csa, ka, _, da⟩ := hC.a l23
                  obtain ⟨gb, eb, hgb, csb, kb, _, db⟩ := hC.b l24
                  have da := da l25
                  have db := db l26
                  subst da db
                  have hqab : qa ≠ qb := by intro e; rw [e] at kab; simp at kab
                  have hdd : Hid (gm ≠ gs ∧ ga ≠ gs ∧ gb ≠ gs ∧ w.heap.size ≤ gs ∧ qa * 4 + qb < 16 ∧ qb * 4 + qa < 16 ∧ qa * 4 + qb ≠ qb * 4 + qa) := Lib.hid ⟨by have := HG.out; omega, by omega, by omega, by have := HG.out; omega, by omega, by omega, by omega⟩
                  have HCu := Lib.hid (And.intro hC.c (And.intro ka kb))
                  rw [e27, ea, eb]
                  clear hV hC e27 ea eb ka kb hqab l23 l24 l25 l26 hga hgb hlt HA
                  have c1 := fun m : Nat => (show (u.drewN m).cell? ⟨gs, qa * 4 + qb, none⟩ = _ from HCu.out.1.s.cell (qa * 4 + qb) (by omega))
                  have c2 := fun m : Nat => (show (u.drewN m).cell? ⟨gs, qb * 4 + qa, none⟩ = _ from HCu.out.1.s.cell (qb * 4 + qa) (by omega))
                  have c3 := fun m : Nat => (show (u.drewN m).cell? ⟨gm, qb, none⟩ = _ from HCu.out.1.m.cell qb (by omega))
                  have c4 := fun m : Nat => (show (u.drewN m).cell? ⟨gm, qa, none⟩ = _ from HCu.out.1.m.cell qa (by omega))
                  rcases h1 : (Sv (qa * 4 + qb) == 0) with _ | _
                  · rcases h2 : (Sv (qa * 4 + qb) == M qb) with _ | _
                    · skip
                      have hok : ok = false := by rw [HOK.out.1]; simp [h1, h2]
                      subst hok
                      go_wp2_with fail
                      go_quiet (fail)
                      obtain ⟨u2, hu2⟩ : ∃ u2, u2 = u.drewN nq := ⟨_, rfl⟩
                      have HD : Hid (Ch w gm gs M Sv nx u2 ∧ Blk u2 ga 45 #[.int .u32 (M qa), .int .u32 xs, .bool false] ∧ Blk u2 gb 45 #[.int .u32 (M qb), .int .u32 ys, .bool false]) := Lib.hid (by
                        have hb : Below u.heap.size u u2 := by rw [hu2]; exact ⟨rfl, rfl, rfl, Nat.le_refl _, fun _ _ => rfl⟩
                        exact ⟨HCu.out.1.below hb, HCu.out.2.1.below hb HCu.out.2.1.lt, HCu.out.2.2.below hb HCu.out.2.2.lt⟩)
                      rw [← hu2]
                      clear hu2 c1 c2 c3 c4
                      go_wp2_with fail
                      go_quiet (fail)
                      obtain ⟨u3, hu3⟩ : ∃ u3, u3 = u2.drewN nq := ⟨_, rfl⟩
                      have HE : Hid (Ch w gm gs M Sv nx u3 ∧ Blk u3 ga 45 #[.int .u32 (M qa), .int .u32 xs, .bool false] ∧ Blk u3 gb 45 #[.int .u32 (M qb), .int .u32 ys, .bool false]) := Lib.hid (by
                        have hb : Below u2.heap.size u2 u3 := by rw [hu3]; exact ⟨rfl, rfl, rfl, Nat.le_refl _, fun _ _ => rfl⟩
                        exact ⟨HD.out.1.below hb, HD.out.2.1.below hb HD.out.2.1.lt, HD.out.2.2.below hb HD.out.2.2.lt⟩)
                      rw [← hu3]
                      clear hu3 HD
                      go_wp2_with fail
                      refine wp_region_invJ (F := ?FZ1) (V := (V19 gs ga gb qa qb xs ys)) (C := (C19 w gm gs ga gb (qa * 4 + qb) (qb * 4 + qa) M Sv nx xs ys #[.int .u32 (M qa), .int .u32 xs, .bool false] #[.int .u32 (M qb), .int .u32 ys, .bool false])) (by kernel_rfl) (by kernel_rfl) (by kernel_rfl) (fun x => ?hFZ1) ?hCZ1 ?stepZ1 ?finZ1
                      case hFZ1 => simp only [mkA, Act.put, List.setIfInBounds_toArray, List.set_cons_succ, List.set_cons_zero, Nat.reduceAdd, Nat.zero_add]; first | with_reducible rfl | rfl
                      case hCZ1 => exact fun x => ⟨by have hb : Below u3.heap.size u3 u3.drew := ⟨rfl, rfl, rfl, Nat.le_refl _, fun _ _ => rfl⟩; have := HE.out.1.below hb; exact ⟨this.m, this.s.congr2 (fun i => by unfold sv19; rw [if_neg (by simp), if_neg (by simp)]), this.p, this.n, this.b⟩, HE.out.2.1, HE.out.2.2, hdd.out⟩
                      case stepZ1 =>
                        refine AllOps.cons (fun ls x u hC hl hp K hK => ?_) ?_
                        · clear hp
                          go_simp
                          refine hK _ _ _ (C19.pure (by decide) hC) (by exact rfl) ?_
                          first | (simp only [Act.put, List.setIfInBounds_toArray, List.set_cons_succ, List.set_cons_zero]; done) | simp [Act.put]
                        refine AllOps.cons (fun ls x u hC hl hp K hK => ?_) ?_
                        · clear hp
                          go_simp
                          refine hK _ _ _ (C19.pure (by decide) hC) (by exact rfl) ?_
                          first | (simp only [Act.put, List.setIfInBounds_toArray, List.set_cons_succ, List.set_cons_zero]; done) | simp [Act.put]
                        refine AllOps.cons (fun ls x u hC hl hp K hK => ?_) ?_
                        · clear hp
                          go_simp
                          refine hK _ _ _ (C19.pure (by decide) hC) (by exact rfl) ?_
                          first | (simp only [Act.put, List.setIfInBounds_toArray, List.set_cons_succ, List.set_cons_zero]; done) | simp [Act.put]
                        refine AllOps.cons (fun ls x u hC hl hp K hK => ?_) ?_
                        · clear hp
                          go_simp
                          refine hK _ _ _ (C19.pure (by decide) hC) (by exact rfl) ?_
                          first | (simp only [Act.put, List.setIfInBounds_toArray, List.set_cons_succ, List.set_cons_zero]; done) | simp [Act.put]
                        refine AllOps.cons (fun ls x u hC hl hp K hK => ?_) ?_
                        · clear hp
                          go_simp
                          refine hK _ _ _ (C19.pure (by decide) hC) (by exact rfl) ?_
                          first | (simp only [Act.put, List.setIfInBounds_toArray, List.set_cons_succ, List.set_cons_zero]; done) | simp [Act.put]
                        refine AllOps.cons (fun ls x u hC hl hp K hK => ?_) ?_
                        · simp [KnownTill, Region.binds, V19] at hp
                          have cc := hC.a.cell 1
                          simp only [List.getElem?_toArray, List.getElem?_cons_zero, List.getElem?_cons_succ] at cc
                          go_simp
                          refine hK _ _ _ (C19.pure (by decide) hC) (by exact rfl) ?_
                          first | (simp only [Act.put, List.setIfInBounds_toArray, List.set_cons_succ, List.set_cons_zero, hp]; done) | simp [Act.put, hp]
                        refine AllOps.cons (fun ls x u hC hl hp K hK => ?_) ?_
                        · clear hp
                          go_simp
                          refine hK _ _ _ (C19.pure (by decide) hC) (by exact rfl) ?_
                          first | (simp only [Act.put, List.setIfInBounds_toArray, List.set_cons_succ, List.set_cons_zero]; done) | simp [Act.put]
                        refine AllOps.cons (fun ls x u hC hl hp K hK => ?_) ?_
                        · simp [KnownTill, Region.binds, V19] at hp
                          have cc := hC.b.cell 1
                          simp only [List.getElem?_toArray, List.getElem?_cons_zero, List.getElem?_cons_succ] at cc
                          go_simp
                          refine hK _ _ _ (C19.pure (by decide) hC) (by exact rfl) ?_
                          first | (simp only [Act.put, List.setIfInBounds_toArray, List.set_cons_succ, List.set_cons_zero, hp]; done) | simp [Act.put, hp]
                        refine AllOps.cons (fun ls x u hC hl hp K hK => ?_) ?_
                        · simp [KnownTill, Region.binds, V19] at hp
                          go_simp
                          refine hK _ _ _ (C19.pure (by decide) hC) (by exact rfl) ?_
                          first | (simp only [Act.put, List.setIfInBounds_toArray, List.set_cons_succ, List.set_cons_zero, hp]; done) | simp [Act.put, hp]
                        refine AllOps.cons (fun ls x u hC hl hp K hK => ?_) ?_
                        · simp [KnownTill, Region.binds, V19] at hp
                          go_simp
                          refine hK _ _ _ (C19.pure (by decide) hC) (by exact rfl) ?_
                          first | (simp only [Act.put, List.setIfInBounds_toArray, List.set_cons_succ, List.set_cons_zero, hp]; done) | simp [Act.put, hp]
                        refine AllOps.cons (fun ls x u hC hl hp K hK => ?_) ?_
                        · simp [KnownTill, Region.binds, V19] at hp
                          have cc := hC.c.s.cell (qa * 4 + qb) (by omega)
                          have ff := hC.c.s.frozen (qa * 4 + qb)
                          have nC := C19.st1 (v := undef) hC
                          go_simp
                          refine hK undef _ _ nC trivial ?_
                          first | (simp only [Act.put, List.setIfInBounds_toArray, List.set_cons_succ, List.set_cons_zero, hp]; done) | simp [Act.put, hp]
                        refine AllOps.cons (fun ls x u hC hl hp K hK => ?_) ?_
                        · simp [KnownTill, Region.binds, V19] at hp
                          go_simp
                          refine hK _ _ _ (C19.pure (by decide) hC) (by exact rfl) ?_
                          first | (simp only [Act.put, List.setIfInBounds_toArray, List.set_cons_succ, List.set_cons_zero, hp]; done) | simp [Act.put, hp]
                        refine AllOps.cons (fun ls x u hC hl hp K hK => ?_) ?_
                        · simp [KnownTill, Region.binds, V19] at hp
                          go_simp
                          refine hK _ _ _ (C19.pure (by decide) hC) (by exact rfl) ?_
                          first | (simp only [Act.put, List.setIfInBounds_toArray, List.set_cons_succ, List.set_cons_zero, hp]; done) | simp [Act.put, hp]
                        refine AllOps.cons (fun ls x u hC hl hp K hK => ?_) ?_
                        · simp [KnownTill, Region.binds, V19] at hp
                          have cc := hC.c.s.cell (qb * 4 + qa) (by omega)
                          have ff := hC.c.s.frozen (qb * 4 + qa)
                          have nC := C19.st2 (v := undef) hC
                          go_simp
                          refine hK undef _ _ nC trivial ?_
                          first | (simp only [Act.put, List.setIfInBounds_toArray, List.set_cons_succ, List.set_cons_zero, hp]; done) | simp [Act.put, hp]
                        exact AllOps.nil
                      case finZ1 =>
                        intro ls x u hC hV
                        have HR := Lib.hid hC.c
                        clear hV hC
                        go_wp2
                        go_roundw
                        case rel => exact ⟨j + 1, nx, M, _, by omega, by go_num, rfl, Lib.hid ⟨by have := HC2.out.1; omega, HR.out⟩⟩
                        case measure => simp [intOf]; omega
                    · rcases h3 : (Sv (qb * 4 + qa) == 0) with _ | _
                      · rcases h4 : (Sv (qb * 4 + qa) == M qa) with _ | _
                        · skip
                          have hok : ok = false := by rw [HOK.out.1]; simp [h1, h2, h3, h4]
                          subst hok
                          go_wp2_with fail
                          go_quiet (fail)
                          obtain ⟨u2, hu2⟩ : ∃ u2, u2 = u.drewN nq := ⟨_, rfl⟩
                          have HD : Hid (Ch w gm gs M Sv nx u2 ∧ Blk u2 ga 45 #[.int .u32 (M qa), .int .u32 xs, .bool false] ∧ Blk u2 gb 45 #[.int .u32 (M qb), .int .u32 ys, .bool false]) := Lib.hid (by
                            have hb : Below u.heap.size u u2 := by rw [hu2]; exact ⟨rfl, rfl, rfl, Nat.le_refl _, fun _ _ => rfl⟩
                            exact ⟨HCu.out.1.below hb, HCu.out.2.1.below hb HCu.out.2.1.lt, HCu.out.2.2.below hb HCu.out.2.2.lt⟩)
                          rw [← hu2]
                          clear hu2 c1 c2 c3 c4
                          go_wp2_with fail
                          go_quiet (fail)
                          obtain ⟨u3, hu3⟩ : ∃ u3, u3 = u2.drewN nq := ⟨_, rfl⟩
                          have HE : Hid (Ch w gm gs M Sv nx u3 ∧ Blk u3 ga 45 #[.int .u32 (M qa), .int .u32 xs, .bool false] ∧ Blk u3 gb 45 #[.int .u32 (M qb), .int .u32 ys, .bool false]) := Lib.hid (by
                            have hb : Below u2.heap.size u2 u3 := by rw [hu3]; exact ⟨rfl, rfl, rfl, Nat.le_refl _, fun _ _ => rfl⟩
                            exact ⟨HD.out.1.below hb, HD.out.2.1.below hb HD.out.2.1.lt, HD.out.2.2.below hb HD.out.2.2.lt⟩)
                          rw [← hu3]
                          clear hu3 HD
                          go_wp2_with fail
                          refine wp_region_invJ (F := ?FZ2) (V := (V19 gs ga gb qa qb xs ys)) (C := (C19 w gm gs ga gb (qa * 4 + qb) (qb * 4 + qa) M Sv nx xs ys #[.int .u32 (M qa), .int .u32 xs, .bool false] #[.int .u32 (M qb), .int .u32 ys, .bool false])) (by kernel_rfl) (by kernel_rfl) (by kernel_rfl) (fun x => ?hFZ2) ?hCZ2 ?stepZ2 ?finZ2
                          case hFZ2 => simp only [mkA, Act.put, List.setIfInBounds_toArray, List.set_cons_succ, List.set_cons_zero, Nat.reduceAdd, Nat.zero_add]; first | with_reducible rfl | rfl
                          case hCZ2 => exact fun x => ⟨by have hb : Below u3.heap.size u3 u3.drew := ⟨rfl, rfl, rfl, Nat.le_refl _, fun _ _ => rfl⟩; have := HE.out.1.below hb; exact ⟨this.m, this.s.congr2 (fun i => by unfold sv19; rw [if_neg (by simp), if_neg (by simp)]), this.p, this.n, this.b⟩, HE.out.2.1, HE.out.2.2, hdd.out⟩
                          case stepZ2 =>
                            refine AllOps.cons (fun ls x u hC hl hp K hK => ?_) ?_
                            · clear hp
                              go_simp
                              refine hK _ _ _ (C19.pure (by decide) hC) (by exact rfl) ?_
                              first | (simp only [Act.put, List.setIfInBounds_toArray, List.set_cons_succ, List.set_cons_zero]; done) | simp [Act.put]
                            refine AllOps.cons (fun ls x u hC hl hp K hK => ?_) ?_
                            · clear hp
                              go_simp
                              refine hK _ _ _ (C19.pure (by decide) hC) (by exact rfl) ?_
                              first | (simp only [Act.put, List.setIfInBounds_toArray, List.set_cons_succ, List.set_cons_zero]; done) | simp [Act.put]
                            refine AllOps.cons (fun ls x u hC hl hp K hK => ?_) ?_
                            · clear hp
                              go_simp
                              refine hK _ _ _ (C19.pure (by decide) hC) (by exact rfl) ?_
                              first | (simp only [Act.put, List.setIfInBounds_toArray, List.set_cons_succ, List.set_cons_zero]; done) | simp [Act.put]
                            refine AllOps.cons (fun ls x u hC hl hp K hK => ?_) ?_
                            · clear hp
                              go_simp
                              refine hK _ _ _ (C19.pure (by decide) hC) (by exact rfl) ?_
                              first | (simp only [Act.put, List.setIfInBounds_toArray, List.set_cons_succ, List.set_cons_zero]; done) | simp [Act.put]
                            refine AllOps.cons (fun ls x u hC hl hp K hK => ?_) ?_
                            · clear hp
                              go_simp
                              refine hK _ _ _ (C19.pure (by decide) hC) (by exact rfl) ?_
                              first | (simp only [Act.put, List.setIfInBounds_toArray, List.set_cons_succ, List.set_cons_zero]; done) | simp [Act.put]
                            refine AllOps.cons (fun ls x u hC hl hp K hK => ?_) ?_
                            · simp [KnownTill, Region.binds, V19] at hp
                              have cc := hC.a.cell 1
                              simp only [List.getElem?_toArray, List.getElem?_cons_zero, List.getElem?_cons_succ] at cc
                              go_simp
                              refine hK _ _ _ (C19.pure (by decide) hC) (by exact rfl) ?_
                              first | (simp only [Act.put, List.setIfInBounds_toArray, List.set_cons_succ, List.set_cons_zero, hp]; done) | simp [Act.put, hp]
                            refine AllOps.cons (fun ls x u hC hl hp K hK => ?_) ?_
                            · clear hp
                              go_simp
                              refine hK _ _ _ (C19.pure (by decide) hC) (by exact rfl) ?_
                              first | (simp only [Act.put, List.setIfInBounds_toArray, List.set_cons_succ, List.set_cons_zero]; done) | simp [Act.put]
                            refine AllOps.cons (fun ls x u hC hl hp K hK => ?_) ?_
                            · simp [KnownTill, Region.binds, V19] at hp
                              have cc := hC.b.cell 1
                              simp only [List.getElem?_toArray, List.getElem?_cons_zero, List.getElem?_cons_succ] at cc
                              go_simp
                              refine hK _ _ _ (C19.pure (by decide) hC) (by exact rfl) ?_
                              first | (simp only [Act.put, List.setIfInBounds_toArray, List.set_cons_succ, List.set_cons_zero, hp]; done) | simp [Act.put, hp]
                            refine AllOps.cons (fun ls x u hC hl hp K hK => ?_) ?_
                            · simp [KnownTill, Region.binds, V19] at hp
                              go_simp
                              refine hK _ _ _ (C19.pure (by decide) hC) (by exact rfl) ?_
                              first | (simp only [Act.put, List.setIfInBounds_toArray, List.set_cons_succ, List.set_cons_zero, hp]; done) | simp [Act.put, hp]
                            refine AllOps.cons (fun ls x u hC hl hp K hK => ?_) ?_
                            · simp [KnownTill, Region.binds, V19] at hp
                              go_simp
                              refine hK _ _ _ (C19.pure (by decide) hC) (by exact rfl) ?_
                              first | (simp only [Act.put, List.setIfInBounds_toArray, List.set_cons_succ, List.set_cons_zero, hp]; done) | simp [Act.put, hp]
                            refine AllOps.cons (fun ls x u hC hl hp K hK => ?_) ?_
                            · simp [KnownTill, Region.binds, V19] at hp
                              have cc := hC.c.s.cell (qa * 4 + qb) (by omega)
                              have ff := hC.c.s.frozen (qa * 4 + qb)
                              have nC := C19.st1 (v := undef) hC
                              go_simp
                              refine hK undef _ _ nC trivial ?_
                              first | (simp only [Act.put, List.setIfInBounds_toArray, List.set_cons_succ, List.set_cons_zero, hp]; done) | simp [Act.put, hp]
                            refine AllOps.cons (fun ls x u hC hl hp K hK => ?_) ?_
                            · simp [KnownTill, Region.binds, V19] at hp
                              go_simp
                              refine hK _ _ _ (C19.pure (by decide) hC) (by exact rfl) ?_
                              first | (simp only [Act.put, List.setIfInBounds_toArray, List.set_cons_succ, List.set_cons_zero, hp]; done) | simp [Act.put, hp]
                            refine AllOps.cons (fun ls x u hC hl hp K hK => ?_) ?_
                            · simp [KnownTill, Region.binds, V19] at hp
                              go_simp
                              refine hK _ _ _ (C19.pure (by decide) hC) (by exact rfl) ?_
                              first | (simp only [Act.put, List.setIfInBounds_toArray, List.set_cons_succ, List.set_cons_zero, hp]; done) | simp [Act.put, hp]
                            refine AllOps.cons (fun ls x u hC hl hp K hK => ?_) ?_
                            · simp [KnownTill, Region.binds, V19] at hp
                              have cc := hC.c.s.cell (qb * 4 + qa) (by omega)
                              have ff := hC.c.s.frozen (qb * 4 + qa)
                              have nC := C19.st2 (v := undef) hC
                              go_simp
                              refine hK undef _ _ nC trivial ?_
                              first | (simp only [Act.put, List.setIfInBounds_toArray, List.set_cons_succ, List.set_cons_zero, hp]; done) | simp [Act.put, hp]
                            exact AllOps.nil
                          case finZ2 =>
                            intro ls x u hC hV
                            have HR := Lib.hid hC.c
                            clear hV hC
                            go_wp2
                            go_roundw
                            case rel => exact ⟨j + 1, nx, M, _, by omega, by go_num, rfl, Lib.hid ⟨by have := HC2.out.1; omega, HR.out⟩⟩
                            case measure => simp [intOf]; omega
                        · skip
                          have hok : ok = true := by rw [HOK.out.1]; simp [h1, h2, h3, h4]
                          obtain ⟨hxs, hys⟩ := HOK.out.2 hok
                          subst hok hxs hys
                          go_wp2_with fail
                          go_quiet (fail)
                          obtain ⟨u2, hu2⟩ : ∃ u2, u2 = u.drewN nq := ⟨_, rfl⟩
                          have HD : Hid (Ch w gm gs M Sv nx u2 ∧ Blk u2 ga 45 #[.int .u32 (M qa), .int .u32 (M qb), .bool false] ∧ Blk u2 gb 45 #[.int .u32 (M qb), .int .u32 (M qa), .bool false]) := Lib.hid (by
                            have hb : Below u.heap.size u u2 := by rw [hu2]; exact ⟨rfl, rfl, rfl, Nat.le_refl _, fun _ _ => rfl⟩
                            exact ⟨HCu.out.1.below hb, HCu.out.2.1.below hb HCu.out.2.1.lt, HCu.out.2.2.below hb HCu.out.2.2.lt⟩)
                          rw [← hu2]
                          clear hu2 c1 c2 c3 c4
                          have a1 := fun m : Nat => (show (u2.drewN m).cell? ⟨ga, 1, none⟩ = some (.int .u32 (M qb)) from (HD.out.2.1.cell 1).trans rfl)
                          have a2 := fun m : Nat => (show (u2.drewN m).cell? ⟨gb, 1, none⟩ = some (.int .u32 (M qa)) from (HD.out.2.2.cell 1).trans rfl)
                          have a3 := fun m : Nat => (show (u2.drewN m).cell? ⟨gm, qb, none⟩ = _ from HD.out.1.m.cell qb (by omega))
                          have a4 := fun m : Nat => (show (u2.drewN m).cell? ⟨gm, qa, none⟩ = _ from HD.out.1.m.cell qa (by omega))
                          go_wp2_with fail
                          go_quiet (fail)
                          obtain ⟨u3, hu3⟩ : ∃ u3, u3 = u2.drewN nq := ⟨_, rfl⟩
                          have HE : Hid (Ch w gm gs M Sv nx u3 ∧ Blk u3 ga 45 #[.int .u32 (M qa), .int .u32 (M qb), .bool false] ∧ Blk u3 gb 45 #[.int .u32 (M qb), .int .u32 (M qa), .bool false]) := Lib.hid (by
                            have hb : Below u2.heap.size u2 u3 := by rw [hu3]; exact ⟨rfl, rfl, rfl, Nat.le_refl _, fun _ _ => rfl⟩
                            exact ⟨HD.out.1.below hb, HD.out.2.1.below hb HD.out.2.1.lt, HD.out.2.2.below hb HD.out.2.2.lt⟩)
                          rw [← hu3]
                          clear hu3 HD a1 a2 a3 a4
                          go_wp2_with fail
                          refine wp_region_invJ (F := ?FZ3) (V := (V19 gs ga gb qa qb (M qb) (M qa))) (C := (C19 w gm gs ga gb (qa * 4 + qb) (qb * 4 + qa) M Sv nx (M qb) (M qa) #[.int .u32 (M qa), .int .u32 (M qb), .bool false] #[.int .u32 (M qb), .int .u32 (M qa), .bool false])) (by kernel_rfl) (by kernel_rfl) (by kernel_rfl) (fun x => ?hFZ3) ?hCZ3 ?stepZ3 ?finZ3
                          case hFZ3 => simp only [mkA, Act.put, List.setIfInBounds_toArray, List.set_cons_succ, List.set_cons_zero, Nat.reduceAdd, Nat.zero_add]; first | with_reducible rfl | rfl
                          case hCZ3 => exact fun x => ⟨by have hb : Below u3.heap.size u3 u3.drew := ⟨rfl, rfl, rfl, Nat.le_refl _, fun _ _ => rfl⟩; have := HE.out.1.below hb; exact ⟨this.m, this.s.congr2 (fun i => by unfold sv19; rw [if_neg (by simp), if_neg (by simp)]), this.p, this.n, this.b⟩, HE.out.2.1, HE.out.2.2, hdd.out⟩
                          case stepZ3 =>
                            refine AllOps.cons (fun ls x u hC hl hp K hK => ?_) ?_
                            · clear hp
                              go_simp
                              refine hK _ _ _ (C19.pure (by decide) hC) (by exact rfl) ?_
                              first | (simp only [Act.put, List.setIfInBounds_toArray, List.set_cons_succ, List.set_cons_zero]; done) | simp [Act.put]
                            refine AllOps.cons (fun ls x u hC hl hp K hK => ?_) ?_
                            · clear hp
                              go_simp
                              refine hK _ _ _ (C19.pure (by decide) hC) (by exact rfl) ?_
                              first | (simp only [Act.put, List.setIfInBounds_toArray, List.set_cons_succ, List.set_cons_zero]; done) | simp [Act.put]
                            refine AllOps.cons (fun ls x u hC hl hp K hK => ?_) ?_
                            · clear hp
                              go_simp
                              refine hK _ _ _ (C19.pure (by decide) hC) (by exact rfl) ?_
                              first | (simp only [Act.put, List.setIfInBounds_toArray, List.set_cons_succ, List.set_cons_zero]; done) | simp [Act.put]
                            refine AllOps.cons (fun ls x u hC hl hp K hK => ?_) ?_
                            · clear hp
                              go_simp
                              refine hK _ _ _ (C19.pure (by decide) hC) (by exact rfl) ?_
                              first | (simp only [Act.put, List.setIfInBounds_toArray, List.set_cons_succ, List.set_cons_zero]; done) | simp [Act.put]
                            refine AllOps.cons (fun ls x u hC hl hp K hK => ?_) ?_
                            · clear hp
                              go_simp
                              refine hK _ _ _ (C19.pure (by decide) hC) (by exact rfl) ?_
                              first | (simp only [Act.put, List.setIfInBounds_toArray, List.set_cons_succ, List.set_cons_zero]; done) | simp [Act.put]
                            refine AllOps.cons (fun ls x u hC hl hp K hK => ?_) ?_
                            · simp [KnownTill, Region.binds, V19] at hp
                              have cc := hC.a.cell 1
                              simp only [List.getElem?_toArray, List.getElem?_cons_zero, List.getElem?_cons_succ] at cc
                              go_simp
                              refine hK _ _ _ (C19.pure (by decide) hC) (by exact rfl) ?_
                              first | (simp only [Act.put, List.setIfInBounds_toArray, List.set_cons_succ, List.set_cons_zero, hp]; done) | simp [Act.put, hp]
                            refine AllOps.cons (fun ls x u hC hl hp K hK => ?_) ?_
                            · clear hp
                              go_simp
                              refine hK _ _ _ (C19.pure (by decide) hC) (by exact rfl) ?_
                              first | (simp only [Act.put, List.setIfInBounds_toArray, List.set_cons_succ, List.set_cons_zero]; done) | simp [Act.put]
                            refine AllOps.cons (fun ls x u hC hl hp K hK => ?_) ?_
                            · simp [KnownTill, Region.binds, V19] at hp
                              have cc := hC.b.cell 1
                              simp only [List.getElem?_toArray, List.getElem?_cons_zero, List.getElem?_cons_succ] at cc
                              go_simp
                              refine hK _ _ _ (C19.pure (by decide) hC) (by exact rfl) ?_
                              first | (simp only [Act.put, List.setIfInBounds_toArray, List.set_cons_succ, List.set_cons_zero, hp]; done) | simp [Act.put, hp]
                            refine AllOps.cons (fun ls x u hC hl hp K hK => ?_) ?_
                            · simp [KnownTill, Region.binds, V19] at hp
                              go_simp
                              refine hK _ _ _ (C19.pure (by decide) hC) (by exact rfl) ?_
                              first | (simp only [Act.put, List.setIfInBounds_toArray, List.set_cons_succ, List.set_cons_zero, hp]; done) | simp [Act.put, hp]
                            refine AllOps.cons (fun ls x u hC hl hp K hK => ?_) ?_
                            · simp [KnownTill, Region.binds, V19] at hp
                              go_simp
                              refine hK _ _ _ (C19.pure (by decide) hC) (by exact rfl) ?_
                              first | (simp only [Act.put, List.setIfInBounds_toArray, List.set_cons_succ, List.set_cons_zero, hp]; done) | simp [Act.put, hp]
                            refine AllOps.cons (fun ls x u hC hl hp K hK => ?_) ?_
                            · simp [KnownTill, Region.binds, V19] at hp
                              have cc := hC.c.s.cell (qa * 4 + qb) (by omega)
                              have ff := hC.c.s.frozen (qa * 4 + qb)
                              have nC := C19.st1 (v := undef) hC
                              go_simp
                              refine hK undef _ _ nC trivial ?_
                              first | (simp only [Act.put, List.setIfInBounds_toArray, List.set_cons_succ, List.set_cons_zero, hp]; done) | simp [Act.put, hp]
                            refine AllOps.cons (fun ls x u hC hl hp K hK => ?_) ?_
                            · simp [KnownTill, Region.binds, V19] at hp
                              go_simp
                              refine hK _ _ _ (C19.pure (by decide) hC) (by exact rfl) ?_
                              first | (simp only [Act.put, List.setIfInBounds_toArray, List.set_cons_succ, List.set_cons_zero, hp]; done) | simp [Act.put, hp]
                            refine AllOps.cons (fun ls x u hC hl hp K hK => ?_) ?_
                            · simp [KnownTill, Region.binds, V19] at hp
                              go_simp
                              refine hK _ _ _ (C19.pure (by decide) hC) (by exact rfl) ?_
                              first | (simp only [Act.put, List.setIfInBounds_toArray, List.set_cons_succ, List.set_cons_zero, hp]; done) | simp [Act.put, hp]
                            refine AllOps.cons (fun ls x u hC hl hp K hK => ?_) ?_
                            · simp [KnownTill, Region.binds, V19] at hp
                              have cc := hC.c.s.cell (qb * 4 + qa) (by omega)
                              have ff := hC.c.s.frozen (qb * 4 + qa)
                              have nC := C19.st2 (v := undef) hC
                              go_simp
                              refine hK undef _ _ nC trivial ?_
                              first | (simp only [Act.put, List.setIfInBounds_toArray, List.set_cons_succ, List.set_cons_zero, hp]; done) | simp [Act.put, hp]
                            exact AllOps.nil
                          case finZ3 =>
                            intro ls x u hC hV
                            have HR := Lib.hid hC.c
                            clear hV hC
                            go_wp2
                            go_roundw
                            case rel => exact ⟨j + 1, nx, M, _, by omega, by go_num, rfl, Lib.hid ⟨by have := HC2.out.1; omega, HR.out⟩⟩
                            case measure => simp [intOf]; omega
                      · skip
                        have hok : ok = true := by rw [HOK.out.1]; simp [h1, h2, h3]
                        obtain ⟨hxs, hys⟩ := HOK.out.2 hok
                        subst hok hxs hys
                        go_wp2_with fail
                        go_quiet (fail)
                        obtain ⟨u2, hu2⟩ : ∃ u2, u2 = u.drewN nq := ⟨_, rfl⟩
                        have HD : Hid (Ch w gm gs M Sv nx u2 ∧ Blk u2 ga 45 #[.int .u32 (M qa), .int .u32 (M qb), .bool false] ∧ Blk u2 gb 45 #[.int .u32 (M qb), .int .u32 (M qa), .bool false]) := Lib.hid (by
                          have hb : Below u.heap.size u u2 := by rw [hu2]; exact ⟨rfl, rfl, rfl, Nat.le_refl _, fun _ _ => rfl⟩
                          exact ⟨HCu.out.1.below hb, HCu.out.2.1.below hb HCu.out.2.1.lt, HCu.out.2.2.below hb HCu.out.2.2.lt⟩)
                        rw [← hu2]
                        clear hu2 c1 c2 c3 c4
                        have a1 := fun m : Nat => (show (u2.drewN m).cell? ⟨ga, 1, none⟩ = some (.int .u32 (M qb)) from (HD.out.2.1.cell 1).trans rfl)
                        have a2 := fun m : Nat => (show (u2.drewN m).cell? ⟨gb, 1, none⟩ = some (.int .u32 (M qa)) from (HD.out.2.2.cell 1).trans rfl)
                        have a3 := fun m : Nat => (show (u2.drewN m).cell? ⟨gm, qb, none⟩ = _ from HD.out.1.m.cell qb (by omega))
                        have a4 := fun m : Nat => (show (u2.drewN m).cell? ⟨gm, qa, none⟩ = _ from HD.out.1.m.cell qa (by omega))
                        go_wp2_with fail
                        go_quiet (fail)
                        obtain ⟨u3, hu3⟩ : ∃ u3, u3 = u2.drewN nq := ⟨_, rfl⟩
                        have HE : Hid (Ch w gm gs M Sv nx u3 ∧ Blk u3 ga 45 #[.int .u32 (M qa), .int .u32 (M qb), .bool false] ∧ Blk u3 gb 45 #[.int .u32 (M qb), .int .u32 (M qa), .bool false]) := Lib.hid (by
                          have hb : Below u2.heap.size u2 u3 := by rw [hu3]; exact ⟨rfl, rfl, rfl, Nat.le_refl _, fun _ _ => rfl⟩
                          exact ⟨HD.out.1.below hb, HD.out.2.1.below hb HD.out.2.1.lt, HD.out.2.2.below hb HD.out.2.2.lt⟩)
                        rw [← hu3]
                        clear hu3 HD a1 a2 a3 a4
                        go_wp2_with fail
                        refine wp_region_invJ (F := ?FZ4) (V := (V19 gs ga gb qa qb (M qb) (M qa))) (C := (C19 w gm gs ga gb (qa * 4 + qb) (qb * 4 + qa) M Sv nx (M qb) (M qa) #[.int .u32 (M qa), .int .u32 (M qb), .bool false] #[.int .u32 (M qb), .int .u32 (M qa), .bool false])) (by kernel_rfl) (by kernel_rfl) (by kernel_rfl) (fun x => ?hFZ4) ?hCZ4 ?stepZ4 ?finZ4
                        case hFZ4 => simp only [mkA, Act.put, List.setIfInBounds_toArray, List.set_cons_succ, List.set_cons_zero, Nat.reduceAdd, Nat.zero_add]; first | with_reducible rfl | rfl
                        case hCZ4 => exact fun x => ⟨by have hb : Below u3.heap.size u3 u3.drew := ⟨rfl, rfl, rfl, Nat.le_refl _, fun _ _ => rfl⟩; have := HE.out.1.below hb; exact ⟨this.m, this.s.congr2 (fun i => by unfold sv19; rw [if_neg (by simp), if_neg (by simp)]), this.p, this.n, this.b⟩, HE.out.2.1, HE.out.2.2, hdd.out⟩
                        case stepZ4 =>
                          refine AllOps.cons (fun ls x u hC hl hp K hK => ?_) ?_
                          · clear hp
                            go_simp
                            refine hK _ _ _ (C19.pure (by decide) hC) (by exact rfl) ?_
                            first | (simp only [Act.put, List.setIfInBounds_toArray, List.set_cons_succ, List.set_cons_zero]; done) | simp [Act.put]
                          refine AllOps.cons (fun ls x u hC hl hp K hK => ?_) ?_
                          · clear hp
                            go_simp
                            refine hK _ _ _ (C19.pure (by decide) hC) (by exact rfl) ?_
                            first | (simp only [Act.put, List.setIfInBounds_toArray, List.set_cons_succ, List.set_cons_zero]; done) | simp [Act.put]
                          refine AllOps.cons (fun ls x u hC hl hp K hK => ?_) ?_
                          · clear hp
                            go_simp
                            refine hK _ _ _ (C19.pure (by decide) hC) (by exact rfl) ?_
                            first | (simp only [Act.put, List.setIfInBounds_toArray, List.set_cons_succ, List.set_cons_zero]; done) | simp [Act.put]
                          refine AllOps.cons (fun ls x u hC hl hp K hK => ?_) ?_
                          · clear hp
                            go_simp
                            refine hK _ _ _ (C19.pure (by decide) hC) (by exact rfl) ?_
                            first | (simp only [Act.put, List.setIfInBounds_toArray, List.set_cons_succ, List.set_cons_zero]; done) | simp [Act.put]
                          refine AllOps.cons (fun ls x u hC hl hp K hK => ?_) ?_
                          · clear hp
                            go_simp
                            refine hK _ _ _ (C19.pure (by decide) hC) (by exact rfl) ?_
                            first | (simp only [Act.put, List.setIfInBounds_toArray, List.set_cons_succ, List.set_cons_zero]; done) | simp [Act.put]
                          refine AllOps.cons (fun ls x u hC hl hp K hK => ?_) ?_
                          · simp [KnownTill, Region.binds, V19] at hp
                            have cc := hC.a.cell 1
                            simp only [List.getElem?_toArray, List.getElem?_cons_zero, List.getElem?_cons_succ] at cc
                            go_simp
                            refine hK _ _ _ (C19.pure (by decide) hC) (by exact rfl) ?_
                            first | (simp only [Act.put, List.setIfInBounds_toArray, List.set_cons_succ, List.set_cons_zero, hp]; done) | simp [Act.put, hp]
                          refine AllOps.cons (fun ls x u hC hl hp K hK => ?_) ?_
                          · clear hp
                            go_simp
                            refine hK _ _ _ (C19.pure (by decide) hC) (by exact rfl) ?_
                            first | (simp only [Act.put, List.setIfInBounds_toArray, List.set_cons_succ, List.set_cons_zero]; done) | simp [Act.put]
                          refine AllOps.cons (fun ls x u hC hl hp K hK => ?_) ?_
                          · simp [KnownTill, Region.binds, V19] at hp
                            have cc := hC.b.cell 1
                            simp only [List.getElem?_toArray, List.getElem?_cons_zero, List.getElem?_cons_succ] at cc
                            go_simp
                            refine hK _ _ _ (C19.pure (by decide) hC) (by exact rfl) ?_
                            first | (simp only [Act.put, List.setIfInBounds_toArray, List.set_cons_succ, List.set_cons_zero, hp]; done) | simp [Act.put, hp]
                          refine AllOps.cons (fun ls x u hC hl hp K hK => ?_) ?_
                          · simp [KnownTill, Region.binds, V19] at hp
                            go_simp
                            refine hK _ _ _ (C19.pure (by decide) hC) (by exact rfl) ?_
                            first | (simp only [Act.put, List.setIfInBounds_toArray, List.set_cons_succ, List.set_cons_zero, hp]; done) | simp [Act.put, hp]
                          refine AllOps.cons (fun ls x u hC hl hp K hK => ?_) ?_
                          · simp [KnownTill, Region.binds, V19] at hp
                            go_simp
                            refine hK _ _ _ (C19.pure (by decide) hC) (by exact rfl) ?_
                            first | (simp only [Act.put, List.setIfInBounds_toArray, List.set_cons_succ, List.set_cons_zero, hp]; done) | simp [Act.put, hp]
                          refine AllOps.cons (fun ls x u hC hl hp K hK => ?_) ?_
                          · simp [KnownTill, Region.binds, V19] at hp
                            have cc := hC.c.s.cell (qa * 4 + qb) (by omega)
                            have ff := hC.c.s.frozen (qa * 4 + qb)
                            have nC := C19.st1 (v := undef) hC
                            go_simp
                            refine hK undef _ _ nC trivial ?_
                            first | (simp only [Act.put, List.setIfInBounds_toArray, List.set_cons_succ, List.set_cons_zero, hp]; done) | simp [Act.put, hp]
                          refine AllOps.cons (fun ls x u hC hl hp K hK => ?_) ?_
                          · simp [KnownTill, Region.binds, V19] at hp
                            go_simp
                            refine hK _ _ _ (C19.pure (by decide) hC) (by exact rfl) ?_
                            first | (simp only [Act.put, List.setIfInBounds_toArray, List.set_cons_succ, List.set_cons_zero, hp]; done) | simp [Act.put, hp]
                          refine AllOps.cons (fun ls x u hC hl hp K hK => ?_) ?_
                          · simp [KnownTill, Region.binds, V19] at hp
                            go_simp
                            refine hK _ _ _ (C19.pure (by decide) hC) (by exact rfl) ?_
                            first | (simp only [Act.put, List.setIfInBounds_toArray, List.set_cons_succ, List.set_cons_zero, hp]; done) | simp [Act.put, hp]
                          refine AllOps.cons (fun ls x u hC hl hp K hK => ?_) ?_
                          · simp [KnownTill, Region.binds, V19] at hp
                            have cc := hC.c.s.cell (qb * 4 + qa) (by omega)
                            have ff := hC.c.s.frozen (qb * 4 + qa)
                            have nC := C19.st2 (v := undef) hC
                            go_simp
                            refine hK undef _ _ nC trivial ?_
                            first | (simp only [Act.put, List.setIfInBounds_toArray, List.set_cons_succ, List.set_cons_zero, hp]; done) | simp [Act.put, hp]
                          exact AllOps.nil
                        case finZ4 =>
                          intro ls x u hC hV
                          have HR := Lib.hid hC.c
                          clear hV hC
                          go_wp2
                          go_roundw
                          case rel => exact ⟨j + 1, nx, M, _, by omega, by go_num, rfl, Lib.hid ⟨by have := HC2.out.1; omega, HR.out⟩⟩
                          case measure => simp [intOf]; omega
                  · rcases h3 : (Sv (qb * 4 + qa) == 0) with _ | _
                    · rcases h4 : (Sv (qb * 4 + qa) == M qa) with _ | _
                      · skip
                        have hok : ok = false := by rw [HOK.out.1]; simp [h1, h3, h4]
                        subst hok
                        go_wp2_with fail
                        go_quiet (fail)
                        obtain ⟨u2, hu2⟩ : ∃ u2, u2 = u.drewN nq := ⟨_, rfl⟩
                        have HD : Hid (Ch w gm gs M Sv nx u2 ∧ Blk u2 ga 45 #[.int .u32 (M qa), .int .u32 xs, .bool false] ∧ Blk u2 gb 45 #[.int .u32 (M qb), .int .u32 ys, .bool false]) := Lib.hid (by
                          have hb : Below u.heap.size u u2 := by rw [hu2]; exact ⟨rfl, rfl, rfl, Nat.le_refl _, fun _ _ => rfl⟩
                          exact ⟨HCu.out.1.below hb, HCu.out.2.1.below hb HCu.out.2.1.lt, HCu.out.2.2.below hb HCu.out.2.2.lt⟩)
                        rw [← hu2]
                        clear hu2 c1 c2 c3 c4
                        go_wp2_with fail
                        go_quiet (fail)
                        obtain ⟨u3, hu3⟩ : ∃ u3, u3 = u2.drewN nq := ⟨_, rfl⟩
                        have HE : Hid (Ch w gm gs M Sv nx u3 ∧ Blk u3 ga 45 #[.int .u32 (M qa), .int .u32 xs, .bool false] ∧ Blk u3 gb 45 #[.int .u32 (M qb), .int .u32 ys, .bool false]) := Lib.hid (by
                          have hb : Below u2.heap.size u2 u3 := by rw [hu3]; exact ⟨rfl, rfl, rfl, Nat.le_refl _, fun _ _ => rfl⟩
                          exact ⟨HD.out.1.below hb, HD.out.2.1.below hb HD.out.2.1.lt, HD.out.2.2.below hb HD.out.2.2.lt⟩)
                        rw [← hu3]
                        clear hu3 HD
                        go_wp2_with fail
                        refine wp_region_invJ (F := ?FZ5) (V := (V19 gs ga gb qa qb xs ys)) (C := (C19 w gm gs ga gb (qa * 4 + qb) (qb * 4 + qa) M Sv nx xs ys #[.int .u32 (M qa), .int .u32 xs, .bool false] #[.int .u32 (M qb), .int .u32 ys, .bool false])) (by kernel_rfl) (by kernel_rfl) (by kernel_rfl) (fun x => ?hFZ5) ?hCZ5 ?stepZ5 ?finZ5
                        case hFZ5 => simp only [mkA, Act.put, List.setIfInBounds_toArray, List.set_cons_succ, List.set_cons_zero, Nat.reduceAdd, Nat.zero_add]; first | with_reducible rfl | rfl
                        case hCZ5 => exact fun x => ⟨by have hb : Below u3.heap.size u3 u3.drew := ⟨rfl, rfl, rfl, Nat.le_refl _, fun _ _ => rfl⟩; have := HE.out.1.below hb; exact ⟨this.m, this.s.congr2 (fun i => by unfold sv19; rw [if_neg (by simp), if_neg (by simp)]), this.p, this.n, this.b⟩, HE.out.2.1, HE.out.2.2, hdd.out⟩
                        case stepZ5 =>
                          refine AllOps.cons (fun ls x u hC hl hp K hK => ?_) ?_
                          · clear hp
                            go_simp
                            refine hK _ _ _ (C19.pure (by decide) hC) (by exact rfl) ?_
                            first | (simp only [Act.put, List.setIfInBounds_toArray, List.set_cons_succ, List.set_cons_zero]; done) | simp [Act.put]
                          refine AllOps.cons (fun ls x u hC hl hp K hK => ?_) ?_
                          · clear hp
                            go_simp
                            refine hK _ _ _ (C19.pure (by decide) hC) (by exact rfl) ?_
                            first | (simp only [Act.put, List.setIfInBounds_toArray, List.set_cons_succ, List.set_cons_zero]; done) | simp [Act.put]
                          refine AllOps.cons (fun ls x u hC hl hp K hK => ?_) ?_
                          · clear hp
                            go_simp
                            refine hK _ _ _ (C19.pure (by decide) hC) (by exact rfl) ?_
                            first | (simp only [Act.put, List.setIfInBounds_toArray, List.set_cons_succ, List.set_cons_zero]; done) | simp [Act.put]
                          refine AllOps.cons (fun ls x u hC hl hp K hK => ?_) ?_
                          · clear hp
                            go_simp
                            refine hK _ _ _ (C19.pure (by decide) hC) (by exact rfl) ?_
                            first | (simp only [Act.put, List.setIfInBounds_toArray, List.set_cons_succ, List.set_cons_zero]; done) | simp [Act.put]
                          refine AllOps.cons (fun ls x u hC hl hp K hK => ?_) ?_
                          · clear hp
                            go_simp
                            refine hK _ _ _ (C19.pure (by decide) hC) (by exact rfl) ?_
                            first | (simp only [Act.put, List.setIfInBounds_toArray, List.set_cons_succ, List.set_cons_zero]; done) | simp [Act.put]
                          refine AllOps.cons (fun ls x u hC hl hp K hK => ?_) ?_
                          · simp [KnownTill, Region.binds, V19] at hp
                            have cc := hC.a.cell 1
                            simp only [List.getElem?_toArray, List.getElem?_cons_zero, List.getElem?_cons_succ] at cc
                            go_simp
                            refine hK _ _ _ (C19.pure (by decide) hC) (by exact rfl) ?_
                            first | (simp only [Act.put, List.setIfInBounds_toArray, List.set_cons_succ, List.set_cons_zero, hp]; done) | simp [Act.put, hp]
                          refine AllOps.cons (fun ls x u hC hl hp K hK => ?_) ?_
                          · clear hp
                            go_simp
                            refine hK _ _ _ (C19.pure (by decide) hC) (by exact rfl) ?_
                            first | (simp only [Act.put, List.setIfInBounds_toArray, List.set_cons_succ, List.set_cons_zero]; done) | simp [Act.put]
                          refine AllOps.cons (fun ls x u hC hl hp K hK => ?_) ?_
                          · simp [KnownTill, Region.binds, V19] at hp
                            have cc := hC.b.cell 1
                            simp only [List.getElem?_toArray, List.getElem?_cons_zero, List.getElem?_cons_succ] at cc
                            go_simp
                            refine hK _ _ _ (C19.pure (by decide) hC) (by exact rfl) ?_
                            first | (simp only [Act.put, List.setIfInBounds_toArray, List.set_cons_succ, List.set_cons_zero, hp]; done) | simp [Act.put, hp]
                          refine AllOps.cons (fun ls x u hC hl hp K hK => ?_) ?_
                          · simp [KnownTill, Region.binds, V19] at hp
                            go_simp
                            refine hK _ _ _ (C19.pure (by decide) hC) (by exact rfl) ?_
                            first | (simp only [Act.put, List.setIfInBounds_toArray, List.set_cons_succ, List.set_cons_zero, hp]; done) | simp [Act.put, hp]
                          refine AllOps.cons (fun ls x u hC hl hp K hK => ?_) ?_
                          · simp [KnownTill, Region.binds, V19] at hp
                            go_simp
                            refine hK _ _ _ (C19.pure (by decide) hC) (by exact rfl) ?_
                            first | (simp only [Act.put, List.setIfInBounds_toArray, List.set_cons_succ, List.set_cons_zero, hp]; done) | simp [Act.put, hp]
                          refine AllOps.cons (fun ls x u hC hl hp K hK => ?_) ?_
                          · simp [KnownTill, Region.binds, V19] at hp
                            have cc := hC.c.s.cell (qa * 4 + qb) (by omega)
                            have ff := hC.c.s.frozen (qa * 4 + qb)
                            have nC := C19.st1 (v := undef) hC
                            go_simp
                            refine hK undef _ _ nC trivial ?_
                            first | (simp only [Act.put, List.setIfInBounds_toArray, List.set_cons_succ, List.set_cons_zero, hp]; done) | simp [Act.put, hp]
                          refine AllOps.cons (fun ls x u hC hl hp K hK => ?_) ?_
                          · simp [KnownTill, Region.binds, V19] at hp
                            go_simp
                            refine hK _ _ _ (C19.pure (by decide) hC) (by exact rfl) ?_
                            first | (simp only [Act.put, List.setIfInBounds_toArray, List.set_cons_succ, List.set_cons_zero, hp]; done) | simp [Act.put, hp]
                          refine AllOps.cons (fun ls x u hC hl hp K hK => ?_) ?_
                          · simp [KnownTill, Region.binds, V19] at hp
                            go_simp
                            refine hK _ _ _ (C19.pure (by decide) hC) (by exact rfl) ?_
                            first | (simp only [Act.put, List.setIfInBounds_toArray, List.set_cons_succ, List.set_cons_zero, hp]; done) | simp [Act.put, hp]
                          refine AllOps.cons (fun ls x u hC hl hp K hK => ?_) ?_
                          · simp [KnownTill, Region.binds, V19] at hp
                            have cc := hC.c.s.cell (qb * 4 + qa) (by omega)
                            have ff := hC.c.s.frozen (qb * 4 + qa)
                            have nC := C19.st2 (v := undef) hC
                            go_simp
                            refine hK undef _ _ nC trivial ?_
                            first | (simp only [Act.put, List.setIfInBounds_toArray, List.set_cons_succ, List.set_cons_zero, hp]; done) | simp [Act.put, hp]
                          exact AllOps.nil
                        case finZ5 =>
                          intro ls x u hC hV
                          have HR := Lib.hid hC.c
                          clear hV hC
                          go_wp2
                          go_roundw
                          case rel => exact ⟨j + 1, nx, M, _, by omega, by go_num, rfl, Lib.hid ⟨by have := HC2.out.1; omega, HR.out⟩⟩
                          case measure => simp [intOf]; omega
                      · skip
                        have hok : ok = true := by rw [HOK.out.1]; simp [h1, h3, h4]
                        obtain ⟨hxs, hys⟩ := HOK.out.2 hok
                        subst hok hxs hys
                        go_wp2_with fail
                        go_quiet (fail)
                        obtain ⟨u2, hu2⟩ : ∃ u2, u2 = u.drewN nq := ⟨_, rfl⟩
                        have HD : Hid (Ch w gm gs M Sv nx u2 ∧ Blk u2 ga 45 #[.int .u32 (M qa), .int .u32 (M qb), .bool false] ∧ Blk u2 gb 45 #[.int .u32 (M qb), .int .u32 (M qa), .bool false]) := Lib.hid (by
                          have hb : Below u.heap.size u u2 := by rw [hu2]; exact ⟨rfl, rfl, rfl, Nat.le_refl _, fun _ _ => rfl⟩
                          exact ⟨HCu.out.1.below hb, HCu.out.2.1.below hb HCu.out.2.1.lt, HCu.out.2.2.below hb HCu.out.2.2.lt⟩)
                        rw [← hu2]
                        clear hu2 c1 c2 c3 c4
                        have a1 := fun m : Nat => (show (u2.drewN m).cell? ⟨ga, 1, none⟩ = some (.int .u32 (M qb)) from (HD.out.2.1.cell 1).trans rfl)
                        have a2 := fun m : Nat => (show (u2.drewN m).cell? ⟨gb, 1, none⟩ = some (.int .u32 (M qa)) from (HD.out.2.2.cell 1).trans rfl)
                        have a3 := fun m : Nat => (show (u2.drewN m).cell? ⟨gm, qb, none⟩ = _ from HD.out.1.m.cell qb (by omega))
                        have a4 := fun m : Nat => (show (u2.drewN m).cell? ⟨gm, qa, none⟩ = _ from HD.out.1.m.cell qa (by omega))
                        go_wp2_with fail
                        go_quiet (fail)
                        obtain ⟨u3, hu3⟩ : ∃ u3, u3 = u2.drewN nq := ⟨_, rfl⟩
                        have HE : Hid (Ch w gm gs M Sv nx u3 ∧ Blk u3 ga 45 #[.int .u32 (M qa), .int .u32 (M qb), .bool false] ∧ Blk u3 gb 45 #[.int .u32 (M qb), .int .u32 (M qa), .bool false]) := Lib.hid (by
                          have hb : Below u2.heap.size u2 u3 := by rw [hu3]; exact ⟨rfl, rfl, rfl, Nat.le_refl _, fun _ _ => rfl⟩
                          exact ⟨HD.out.1.below hb, HD.out.2.1.below hb HD.out.2.1.lt, HD.out.2.2.below hb HD.out.2.2.lt⟩)
                        rw [← hu3]
                        clear hu3 HD a1 a2 a3 a4
                        go_wp2_with fail
                        refine wp_region_invJ (F := ?FZ6) (V := (V19 gs ga gb qa qb (M qb) (M qa))) (C := (C19 w gm gs ga gb (qa * 4 + qb) (qb * 4 + qa) M Sv nx (M qb) (M qa) #[.int .u32 (M qa), .int .u32 (M qb), .bool false] #[.int .u32 (M qb), .int .u32 (M qa), .bool false])) (by kernel_rfl) (by kernel_rfl) (by kernel_rfl) (fun x => ?hFZ6) ?hCZ6 ?stepZ6 ?finZ6
                        case hFZ6 => simp only [mkA, Act.put, List.setIfInBounds_toArray, List.set_cons_succ, List.set_cons_zero, Nat.reduceAdd, Nat.zero_add]; first | with_reducible rfl | rfl
                        case hCZ6 => exact fun x => ⟨by have hb : Below u3.heap.size u3 u3.drew := ⟨rfl, rfl, rfl, Nat.le_refl _, fun _ _ => rfl⟩; have := HE.out.1.below hb; exact ⟨this.m, this.s.congr2 (fun i => by unfold sv19; rw [if_neg (by simp), if_neg (by simp)]), this.p, this.n, this.b⟩, HE.out.2.1, HE.out.2.2, hdd.out⟩
                        case stepZ6 =>
                          refine AllOps.cons (fun ls x u hC hl hp K hK => ?_) ?_
                          · clear hp
                            go_simp
                            refine hK _ _ _ (C19.pure (by decide) hC) (by exact rfl) ?_
                            first | (simp only [Act.put, List.setIfInBounds_toArray, List.set_cons_succ, List.set_cons_zero]; done) | simp [Act.put]
                          refine AllOps.cons (fun ls x u hC hl hp K hK => ?_) ?_
                          · clear hp
                            go_simp
                            refine hK _ _ _ (C19.pure (by decide) hC) (by exact rfl) ?_
                            first | (simp only [Act.put, List.setIfInBounds_toArray, List.set_cons_succ, List.set_cons_zero]; done) | simp [Act.put]
                          refine AllOps.cons (fun ls x u hC hl hp K hK => ?_) ?_
                          · clear hp
                            go_simp
                            refine hK _ _ _ (C19.pure (by decide) hC) (by exact rfl) ?_
                            first | (simp only [Act.put, List.setIfInBounds_toArray, List.set_cons_succ, List.set_cons_zero]; done) | simp [Act.put]
                          refine AllOps.cons (fun ls x u hC hl hp K hK => ?_) ?_
                          · clear hp
                            go_simp
                            refine hK _ _ _ (C19.pure (by decide) hC) (by exact rfl) ?_
                            first | (simp only [Act.put, List.setIfInBounds_toArray, List.set_cons_succ, List.set_cons_zero]; done) | simp [Act.put]
                          refine AllOps.cons (fun ls x u hC hl hp K hK => ?_) ?_
                          · clear hp
                            go_simp
                            refine hK _ _ _ (C19.pure (by decide) hC) (by exact rfl) ?_
                            first | (simp only [Act.put, List.setIfInBounds_toArray, List.set_cons_succ, List.set_cons_zero]; done) | simp [Act.put]
                          refine AllOps.cons (fun ls x u hC hl hp K hK => ?_) ?_
                          · simp [KnownTill, Region.binds, V19] at hp
                            have cc := hC.a.cell 1
                            simp only [List.getElem?_toArray, List.getElem?_cons_zero, List.getElem?_cons_succ] at cc
                            go_simp
                            refine hK _ _ _ (C19.pure (by decide) hC) (by exact rfl) ?_
                            first | (simp only [Act.put, List.setIfInBounds_toArray, List.set_cons_succ, List.set_cons_zero, hp]; done) | simp [Act.put, hp]
                          refine AllOps.cons (fun ls x u hC hl hp K hK => ?_) ?_
                          · clear hp
                            go_simp
                            refine hK _ _ _ (C19.pure (by decide) hC) (by exact rfl) ?_
                            first | (simp only [Act.put, List.setIfInBounds_toArray, List.set_cons_succ, List.set_cons_zero]; done) | simp [Act.put]
                          refine AllOps.cons (fun ls x u hC hl hp K hK => ?_) ?_
                          · simp [KnownTill, Region.binds, V19] at hp
                            have cc := hC.b.cell 1
                            simp only [List.getElem?_toArray, List.getElem?_cons_zero, List.getElem?_cons_succ] at cc
                            go_simp
                            refine hK _ _ _ (C19.pure (by decide) hC) (by exact rfl) ?_
                            first | (simp only [Act.put, List.setIfInBounds_toArray, List.set_cons_succ, List.set_cons_zero, hp]; done) | simp [Act.put, hp]
                          refine AllOps.cons (fun ls x u hC hl hp K hK => ?_) ?_
                          · simp [KnownTill, Region.binds, V19] at hp
                            go_simp
                            refine hK _ _ _ (C19.pure (by decide) hC) (by exact rfl) ?_
                            first | (simp only [Act.put, List.setIfInBounds_toArray, List.set_cons_succ, List.set_cons_zero, hp]; done) | simp [Act.put, hp]
                          refine AllOps.cons (fun ls x u hC hl hp K hK => ?_) ?_
                          · simp [KnownTill, Region.binds, V19] at hp
                            go_simp
                            refine hK _ _ _ (C19.pure (by decide) hC) (by exact rfl) ?_
                            first | (simp only [Act.put, List.setIfInBounds_toArray, List.set_cons_succ, List.set_cons_zero, hp]; done) | simp [Act.put, hp]
                          refine AllOps.cons (fun ls x u hC hl hp K hK => ?_) ?_
                          · simp [KnownTill, Region.binds, V19] at hp
                            have cc := hC.c.s.cell (qa * 4 + qb) (by omega)
                            have ff := hC.c.s.frozen (qa * 4 + qb)
                            have nC := C19.st1 (v := undef) hC
                            go_simp
                            refine hK undef _ _ nC trivial ?_
                            first | (simp only [Act.put, List.setIfInBounds_toArray, List.set_cons_succ, List.set_cons_zero, hp]; done) | simp [Act.put, hp]
                          refine AllOps.cons (fun ls x u hC hl hp K hK => ?_) ?_
                          · simp [KnownTill, Region.binds, V19] at hp
                            go_simp
                            refine hK _ _ _ (C19.pure (by decide) hC) (by exact rfl) ?_
                            first | (simp only [Act.put, List.setIfInBounds_toArray, List.set_cons_succ, List.set_cons_zero, hp]; done) | simp [Act.put, hp]
                          refine AllOps.cons (fun ls x u hC hl hp K hK => ?_) ?_
                          · simp [KnownTill, Region.binds, V19] at hp
                            go_simp
                            refine hK _ _ _ (C19.pure (by decide) hC) (by exact rfl) ?_
                            first | (simp only [Act.put, List.setIfInBounds_toArray, List.set_cons_succ, List.set_cons_zero, hp]; done) | simp [Act.put, hp]
                          refine AllOps.cons (fun ls x u hC hl hp K hK => ?_) ?_
                          · simp [KnownTill, Region.binds, V19] at hp
                            have cc := hC.c.s.cell (qb * 4 + qa) (by omega)
                            have ff := hC.c.s.frozen (qb * 4 + qa)
                            have nC := C19.st2 (v := undef) hC
                            go_simp
                            refine hK undef _ _ nC trivial ?_
                            first | (simp only [Act.put, List.setIfInBounds_toArray, List.set_cons_succ, List.set_cons_zero, hp]; done) | simp [Act.put, hp]
                          exact AllOps.nil
                        case finZ6 =>
                          intro ls x u hC hV
                          have HR := Lib.hid hC.c
                          clear hV hC
                          go_wp2
                          go_roundw
                          case rel => exact ⟨j + 1, nx, M, _, by omega, by go_num, rfl, Lib.hid ⟨by have := HC2.out.1; omega, HR.out⟩⟩
                          case measure => simp [intOf]; omega
                    · skip
                      have hok : ok = true := by rw [HOK.out.1]; simp [h1, h3]
                      obtain ⟨hxs, hys⟩ := HOK.out.2 hok
                      subst hok hxs hys
                      go_wp2_with fail
                      go_quiet (fail)
                      obtain ⟨u2, hu2⟩ : ∃ u2, u2 = u.drewN nq := ⟨_, rfl⟩
                      have HD : Hid (Ch w gm gs M Sv nx u2 ∧ Blk u2 ga 45 #[.int .u32 (M qa), .int .u32 (M qb), .bool false] ∧ Blk u2 gb 45 #[.int .u32 (M qb), .int .u32 (M qa), .bool false]) := Lib.hid (by
                        have hb : Below u.heap.size u u2 := by rw [hu2]; exact ⟨rfl, rfl, rfl, Nat.le_refl _, fun _ _ => rfl⟩
                        exact ⟨HCu.out.1.below hb, HCu.out.2.1.below hb HCu.out.2.1.lt, HCu.out.2.2.below hb HCu.out.2.2.lt⟩)
                      rw [← hu2]
                      clear hu2 c1 c2 c3 c4
                      have a1 := fun m : Nat => (show (u2.drewN m).cell? ⟨ga, 1, none⟩ = some (.int .u32 (M qb)) from (HD.out.2.1.cell 1).trans rfl)
                      have a2 := fun m : Nat => (show (u2.drewN m).cell? ⟨gb, 1, none⟩ = some (.int .u32 (M qa)) from (HD.out.2.2.cell 1).trans rfl)
                      have a3 := fun m : Nat => (show (u2.drewN m).cell? ⟨gm, qb, none⟩ = _ from HD.out.1.m.cell qb (by omega))
                      have a4 := fun m : Nat => (show (u2.drewN m).cell? ⟨gm, qa, none⟩ = _ from HD.out.1.m.cell qa (by omega))
                      go_wp2_with fail
                      go_quiet (fail)
                      obtain ⟨u3, hu3⟩ : ∃ u3, u3 = u2.drewN nq := ⟨_, rfl⟩
                      have HE : Hid (Ch w gm gs M Sv nx u3 ∧ Blk u3 ga 45 #[.int .u32 (M qa), .int .u32 (M qb), .bool false] ∧ Blk u3 gb 45 #[.int .u32 (M qb), .int .u32 (M qa), .bool false]) := Lib.hid (by
                        have hb : Below u2.heap.size u2 u3 := by rw [hu3]; exact ⟨rfl, rfl, rfl, Nat.le_refl _, fun _ _ => rfl⟩
                        exact ⟨HD.out.1.below hb, HD.out.2.1.below hb HD.out.2.1.lt, HD.out.2.2.below hb HD.out.2.2.lt⟩)
                      rw [← hu3]
                      clear hu3 HD a1 a2 a3 a4
                      go_wp2_with fail
                      refine wp_region_invJ (F := ?FZ7) (V := (V19 gs ga gb qa qb (M qb) (M qa))) (C := (C19 w gm gs ga gb (qa * 4 + qb) (qb * 4 + qa) M Sv nx (M qb) (M qa) #[.int .u32 (M qa), .int .u32 (M qb), .bool false] #[.int .u32 (M qb), .int .u32 (M qa), .bool false])) (by kernel_rfl) (by kernel_rfl) (by kernel_rfl) (fun x => ?hFZ7) ?hCZ7 ?stepZ7 ?finZ7
                      case hFZ7 => simp only [mkA, Act.put, List.setIfInBounds_toArray, List.set_cons_succ, List.set_cons_zero, Nat.reduceAdd, Nat.zero_add]; first | with_reducible rfl | rfl
                      case hCZ7 => exact fun x => ⟨by have hb : Below u3.heap.size u3 u3.drew := ⟨rfl, rfl, rfl, Nat.le_refl _, fun _ _ => rfl⟩; have := HE.out.1.below hb; exact ⟨this.m, this.s.congr2 (fun i => by unfold sv19; rw [if_neg (by simp), if_neg (by simp)]), this.p, this.n, this.b⟩, HE.out.2.1, HE.out.2.2, hdd.out⟩
                      case stepZ7 =>
                        refine AllOps.cons (fun ls x u hC hl hp K hK => ?_) ?_
                        · clear hp
                          go_simp
                          refine hK _ _ _ (C19.pure (by decide) hC) (by exact rfl) ?_
                          first | (simp only [Act.put, List.setIfInBounds_toArray, List.set_cons_succ, List.set_cons_zero]; done) | simp [Act.put]
                        refine AllOps.cons (fun ls x u hC hl hp K hK => ?_) ?_
                        · clear hp
                          go_simp
                          refine hK _ _ _ (C19.pure (by decide) hC) (by exact rfl) ?_
                          first | (simp only [Act.put, List.setIfInBounds_toArray, List.set_cons_succ, List.set_cons_zero]; done) | simp [Act.put]
                        refine AllOps.cons (fun ls x u hC hl hp K hK => ?_) ?_
                        · clear hp
                          go_simp
                          refine hK _ _ _ (C19.pure (by decide) hC) (by exact rfl) ?_
                          first | (simp only [Act.put, List.setIfInBounds_toArray, List.set_cons_succ, List.set_cons_zero]; done) | simp [Act.put]
                        refine AllOps.cons (fun ls x u hC hl hp K hK => ?_) ?_
                        · clear hp
                          go_simp
                          refine hK _ _ _ (C19.pure (by decide) hC) (by exact rfl) ?_
                          first | (simp only [Act.put, List.setIfInBounds_toArray, List.set_cons_succ, List.set_cons_zero]; done) | simp [Act.put]
                        refine AllOps.cons (fun ls x u hC hl hp K hK => ?_) ?_
                        · clear hp
                          go_simp
                          refine hK _ _ _ (C19.pure (by decide) hC) (by exact rfl) ?_
                          first | (simp only [Act.put, List.setIfInBounds_toArray, List.set_cons_succ, List.set_cons_zero]; done) | simp [Act.put]
                        refine AllOps.cons (fun ls x u hC hl hp K hK => ?_) ?_
                        · simp [KnownTill, Region.binds, V19] at hp
                          have cc := hC.a.cell 1
                          simp only [List.getElem?_toArray, List.getElem?_cons_zero, List.getElem?_cons_succ] at cc
                          go_simp
                          refine hK _ _ _ (C19.pure (by decide) hC) (by exact rfl) ?_
                          first | (simp only [Act.put, List.setIfInBounds_toArray, List.set_cons_succ, List.set_cons_zero, hp]; done) | simp [Act.put, hp]
                        refine AllOps.cons (fun ls x u hC hl hp K hK => ?_) ?_
                        · clear hp
                          go_simp
                          refine hK _ _ _ (C19.pure (by decide) hC) (by exact rfl) ?_
                          first | (simp only [Act.put, List.setIfInBounds_toArray, List.set_cons_succ, List.set_cons_zero]; done) | simp [Act.put]
                        refine AllOps.cons (fun ls x u hC hl hp K hK => ?_) ?_
                        · simp [KnownTill, Region.binds, V19] at hp
                          have cc := hC.b.cell 1
                          simp only [List.getElem?_toArray, List.getElem?_cons_zero, List.getElem?_cons_succ] at cc
                          go_simp
                          refine hK _ _ _ (C19.pure (by decide) hC) (by exact rfl) ?_
                          first | (simp only [Act.put, List.setIfInBounds_toArray, List.set_cons_succ, List.set_cons_zero, hp]; done) | simp [Act.put, hp]
                        refine AllOps.cons (fun ls x u hC hl hp K hK => ?_) ?_
                        · simp [KnownTill, Region.binds, V19] at hp
                          go_simp
                          refine hK _ _ _ (C19.pure (by decide) hC) (by exact rfl) ?_
                          first | (simp only [Act.put, List.setIfInBounds_toArray, List.set_cons_succ, List.set_cons_zero, hp]; done) | simp [Act.put, hp]
                        refine AllOps.cons (fun ls x u hC hl hp K hK => ?_) ?_
                        · simp [KnownTill, Region.binds, V19] at hp
                          go_simp
                          refine hK _ _ _ (C19.pure (by decide) hC) (by exact rfl) ?_
                          first | (simp only [Act.put, List.setIfInBounds_toArray, List.set_cons_succ, List.set_cons_zero, hp]; done) | simp [Act.put, hp]
                        refine AllOps.cons (fun ls x u hC hl hp K hK => ?_) ?_
                        · simp [KnownTill, Region.binds, V19] at hp
                          have cc := hC.c.s.cell (qa * 4 + qb) (by omega)
                          have ff := hC.c.s.frozen (qa * 4 + qb)
                          have nC := C19.st1 (v := undef) hC
                          go_simp
                          refine hK undef _ _ nC trivial ?_
                          first | (simp only [Act.put, List.setIfInBounds_toArray, List.set_cons_succ, List.set_cons_zero, hp]; done) | simp [Act.put, hp]
                        refine AllOps.cons (fun ls x u hC hl hp K hK => ?_) ?_
                        · simp [KnownTill, Region.binds, V19] at hp
                          go_simp
                          refine hK _ _ _ (C19.pure (by decide) hC) (by exact rfl) ?_
                          first | (simp only [Act.put, List.setIfInBounds_toArray, List.set_cons_succ, List.set_cons_zero, hp]; done) | simp [Act.put, hp]
                        refine AllOps.cons (fun ls x u hC hl hp K hK => ?_) ?_
                        · simp [KnownTill, Region.binds, V19] at hp
                          go_simp
                          refine hK _ _ _ (C19.pure (by decide) hC) (by exact rfl) ?_
                          first | (simp only [Act.put, List.setIfInBounds_toArray, List.set_cons_succ, List.set_cons_zero, hp]; done) | simp [Act.put, hp]
                        refine AllOps.cons (fun ls x u hC hl hp K hK => ?_) ?_
                        · simp [KnownTill, Region.binds, V19] at hp
                          have cc := hC.c.s.cell (qb * 4 + qa) (by omega)
                          have ff := hC.c.s.frozen (qb * 4 + qa)
                          have nC := C19.st2 (v := undef) hC
                          go_simp
                          refine hK undef _ _ nC trivial ?_
                          first | (simp only [Act.put, List.setIfInBounds_toArray, List.set_cons_succ, List.set_cons_zero, hp]; done) | simp [Act.put, hp]
                        exact AllOps.nil
                      case finZ7 =>
                        intro ls x u hC hV
                        have HR := Lib.hid hC.c
                        clear hV hC
                        go_wp2
                        go_roundw
                        case rel => exact ⟨j + 1, nx, M, _, by omega, by go_num, rfl, Lib.hid ⟨by have := HC2.out.1; omega, HR.out⟩⟩
                        case measure => simp [intOf]; omega
              · go_wp2
                go_roundw
                case rel => exact ⟨j + 1, nx, M, Sv, by omega, by go_num, rfl, Lib.hid ⟨by have := HC2.out.1; omega, HC2.out.2⟩⟩
                case measure => simp [intOf]; omega
          · have hj2I : ¬ (j : Int) < 200 := by omega
            go_wp2_with fail
            refine (alive09_any _).mono ?_
            rintro e w9 ⟨rfl, b9⟩
            have hF := bt HC.out.2.b b9
            clear b9
            go_wp2
            go_ret
            exact ⟨rfl, hF⟩
        · have hjI : ¬ (j : Int) < (n : Int) := by omega
          go_wp2_with fail
          refine (alive09_any _).mono ?_
          rintro e w9 ⟨rfl, b9⟩
          have hF := bt HC.out.2.b b9
          clear b9
          go_wp2
          go_ret
          exact ⟨rfl, hF⟩
end Go.Proofs.Ytepcafkgpkbimaa
