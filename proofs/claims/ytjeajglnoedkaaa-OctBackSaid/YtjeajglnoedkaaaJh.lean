/- Layer 1: the program's Split. -/
import Derived.Test.YtjeajglnoedkaaaJg
import Derived.Test.YtjeajglnoedkaaaScopeIn
namespace Go.Proofs.Ytjeajglnoedkaaa
open Go.RowKit Go.Shelf
attribute [local go_sem] Oper.semAt_some
set_option linter.unusedVariables false
set_option linter.unusedSimpArgs false

theorem grownBy_putObj' (W : World) (r : Nat) (o' : Obj) : W.grownBy (W.putObj r o') (some r) := ⟨rfl, rfl, rfl, by simp [World.putObj], fun k _ hk => World.putObj_heap_other (fun e => hk (by rw [e]))⟩
theorem Blk.put {w : World} {g : Nat} {t : TypeId} {cs : Array Value} (h : Blk w g t cs) {r : Nat} (o' : Obj) (hne : g ≠ r) : Blk (w.putObj r o') g t cs := (World.putObj_heap_other hne).trans h
theorem gset (w : World) (p i : Nat) (v : Value) : w.grownBy (w.setCell ⟨p, i, none⟩ v) (some p) :=
  ⟨rfl, rfl, rfl, by simp [World.setCell], fun k _ hk => Below.heap_setCell w _ v k (fun e => hk (by simp [e]))⟩

theorem ListFrom.base {u : World} {B B' : Nat} {A : Option Addr} {ls : List (List UInt8)} (h : ListFrom u B A ls) (hB : B' ≤ B) : ListFrom u B' A ls := fun hn => by
  obtain ⟨b, e, h1, h2, h3⟩ := h hn
  refine ⟨b, e, Nat.le_trans hB h1, h2, fun i hi => ?_⟩
  obtain ⟨Ag, ci, h4, h5⟩ := h3 i hi
  exact ⟨Ag, ci, h4, h5.base hB⟩
structure SI (w : World) (B R3 R4 R5 : Nat) (pre : List (Nat × List UInt8 × Bool)) (W : World) : Prop where
  bel : Below w.heap.size w W
  size : B ≤ W.heap.size
  res : Blk W R3 36 #[.int .i64 0, .int .i64 0]
  flt : Blk W R5 36 #[.int .i64 0, .int .i64 0]
  lst : ∃ A c, Blk W R4 31 #[.slice A pre.length c] ∧ PartsAt W B A c (pre.map (·.2.1))
  whole : ∀ x ∈ pre, x.2.2 = true
  len : pre.length ≤ 1000
/-- What a round leaves that goes away. -/
structure SX (w : World) (B R3 R5 : Nat) (xs : List (Nat × List UInt8 × Bool)) (W : World) : Prop where
  bel : Below w.heap.size w W
  res : Blk W R3 36 #[.int .i64 0, .int .i64 0]
  why : ∃ pre x, xs = pre ++ [x] ∧ (∀ y ∈ pre, y.2.2 = true) ∧ pre.length ≤ 1000 ∧ ∃ fa fc : Int, Blk W R5 36 #[.int .i64 fa, .int .i64 fc] ∧ ((x.2.2 = false ∧ fa = x.1 ∧ fc = 11) ∨ (x.2.2 = true ∧ pre.length = 1000 ∧ fa = 0 ∧ fc = 2))
section
variable {w W : World} {B R3 R4 R5 : Nat} {pre xs : List (Nat × List UInt8 × Bool)}
theorem SI.put (h : SI w B R3 R4 R5 pre W) (h3 : R3 < B) (h4 : R4 < B) (h5 : R5 < B) (hw : w.heap.size ≤ B) {r : Nat} {o : Obj} (o' : Obj) (hr : W.heap[r]? = some o) (ho : o.isCells = false) (hB : B ≤ r) : SI w B R3 R4 R5 pre (W.putObj r o') := by
  obtain ⟨A, c, e1, e2⟩ := h.lst
  exact ⟨h.bel.grown (grownBy_putObj' W r o') h.bel.size (fun k e => by cases e; omega), by rw [World.putObj_size]; exact h.size, h.res.put _ (by omega), h.flt.put _ (by omega), ⟨A, c, e1.put _ (by omega), e2.kept (grownBy_putObj' W r o') (fun k e => by cases e; exact .inr ⟨o, hr, ho⟩)⟩, h.whole, h.len⟩
theorem SX.put (h : SX w B R3 R5 xs W) (h3 : R3 < B) (h5 : R5 < B) (hw : w.heap.size ≤ B) {r : Nat} {o : Obj} (o' : Obj) (hr : W.heap[r]? = some o) (ho : o.isCells = false) (hB : B ≤ r) : SX w B R3 R5 xs (W.putObj r o') := by
  obtain ⟨p, x, e1, e2, e3, fa, fc, e4, e5⟩ := h.why
  exact ⟨h.bel.grown (grownBy_putObj' W r o') h.bel.size (fun k e => by cases e; omega), h.res.put _ (by omega), p, x, e1, e2, e3, fa, fc, e4.put _ (by omega), e5⟩
theorem SI.below {W' : World} (h : SI w B R3 R4 R5 pre W) (hb : Below W.heap.size W W') : SI w B R3 R4 R5 pre W' := by
  obtain ⟨A, c, e1, e2⟩ := h.lst
  exact ⟨bt h.bel hb, Nat.le_trans h.size hb.size, h.res.below hb h.res.lt, h.flt.below hb h.flt.lt, ⟨A, c, e1.below hb e1.lt, e2.below hb⟩, h.whole, h.len⟩
theorem SI.alloc (h : SI w B R3 R4 R5 pre W) (o : Obj) : SI w B R3 R4 R5 pre (W.alloc o) := h.below (ba W o)
end

/-- What Split answers, of the parts as they come. -/
def runP : List (Nat × List UInt8 × Bool) → List (List UInt8) → List (List UInt8) × Int × Int
  | [], acc => (acc, 0, 0)
  | x :: t, acc => if x.2.2 = false then ([], x.1, 11) else if acc.length = 1000 then ([], 0, 2) else runP t (acc ++ [x.2.1])
def splitR (l : List UInt8) : List (List UInt8) × Int × Int := runP (scanL l.length l 0) []
theorem runP_pre (pre : List (Nat × List UInt8 × Bool)) : ∀ (t : List (Nat × List UInt8 × Bool)) (acc : List (List UInt8)), (∀ y ∈ pre, y.2.2 = true) → acc.length + pre.length ≤ 1000 → runP (pre ++ t) acc = runP t (acc ++ pre.map (·.2.1)) := by
  induction pre with
  | nil => intro t acc _ _; simp
  | cons y ys ih =>
    intro t acc h1 h2
    simp only [List.length_cons] at h2
    rw [List.cons_append, runP, if_neg (by rw [h1 y (by simp)]; simp), if_neg (by omega), ih t _ (fun z hz => h1 z (by simp [hz])) (by simp; omega)]
    simp
theorem runP_all {xs : List (Nat × List UInt8 × Bool)} (h1 : ∀ y ∈ xs, y.2.2 = true) (h2 : xs.length ≤ 1000) : runP xs [] = (xs.map (·.2.1), 0, 0) := by
  have := runP_pre xs [] [] h1 (by simpa using h2)
  rw [List.append_nil] at this
  rw [this]; rfl
theorem runP_away {pre : List (Nat × List UInt8 × Bool)} {x : Nat × List UInt8 × Bool} {T : List (Nat × List UInt8 × Bool)} {fa fc : Int} (hp : pre ++ [x] <+: T) (h1 : ∀ y ∈ pre, y.2.2 = true) (h2 : pre.length ≤ 1000)
    (h : (x.2.2 = false ∧ fa = x.1 ∧ fc = 11) ∨ (x.2.2 = true ∧ pre.length = 1000 ∧ fa = 0 ∧ fc = 2)) : runP T [] = ([], fa, fc) := by
  obtain ⟨t, rfl⟩ := hp
  rw [List.append_assoc, runP_pre pre _ [] h1 (by simpa using h2), List.singleton_append, List.nil_append, runP]
  rcases h with ⟨h3, rfl, rfl⟩ | ⟨h3, h4, rfl, rfl⟩
  · rw [if_pos h3]
  · rw [if_neg (by rw [h3]; simp), if_pos (by simpa using h4)]

def SplitO (w : World) (r : List (List UInt8) × Int × Int) (e : Ending) (w' : World) : Prop :=
  ∃ A c, e = .returned (.tuple #[.slice A r.1.length c, .agg #[.int .i64 r.2.1, .int .i64 r.2.2]]) ∧ ListFrom w' w.heap.size A r.1 ∧ Below w.heap.size w w'

theorem stepIn_append_run {Fc : Fence} {n : Nat} {P : Program} (hFn : ∀ f, Fc.fn f) {w : World} {ops : Array Oper} {o : Oper} {a : Act} {K : Act → World → Prop} {Q : Exit → Act → World → Prop} {E : Prop} (hgd : o.guard = none) (s x : Operand) (t : TypeId)
    (ho : o.op = .call { callee := .builtin .append, args := #[s, x], argTypes := #[t, t] }) (sv xv v : Value) (w' : World) (hs : a.eval s = sv) (hx : a.eval x = xv) (hrun : (Builtin.append_ #[t, t] o.type #[sv, xv]).run P w = .ok v w') (h : K (a.put o.dst v) w') :
    if Region.wanted o (yielded ops a.tmps) = true then Oper.wpIn Fc n P o a w K Q else E := by
  have hw : Region.wanted o (yielded ops a.tmps) = true := by simp [Region.wanted, hgd]
  rw [if_pos hw]
  unfold Oper.wpIn
  refine ⟨fun f _ => hFn f, ?_⟩
  rw [Oper.semAt_eq _ _ _ (by intro c; rw [ho]; simp)]
  unfold execOp
  simp only [ho, resolve, invoke, builtin, Sem.run_bind, Sem.run_pure, Result.andThen_ok, List.map_toArray, List.map_cons, List.map_nil, hs, hx, hrun]
  exact h

/-- What the region yields in which a part is put behind the others. -/
def VS (B R4 m cA t6 : Nat) (A xA : Option Addr) (L : List UInt8) (xc : Nat) (ls : List (List UInt8)) (i : Nat) (v : Value) (u : World) : Prop :=
  match i with
  | 0 => v = .slice A m cA
  | 1 => v = .pointer (some ⟨t6, 1, none⟩)
  | 2 => v = .slice xA L.length xc
  | 3 => ∃ g, v = .slice (some ⟨g, 0, none⟩) L.length L.length ∧ Raw u g 5 L ∧ B ≤ g
  | 4 => ∃ g q, v = .slice (some ⟨q, 0, none⟩) 1 1 ∧ Raw u g 5 L ∧ B ≤ g ∧ Blk u q 23 #[.slice (some ⟨g, 0, none⟩) L.length L.length] ∧ B ≤ q
  | 5 => ∃ A2 c2, v = .slice A2 (m + 1) c2 ∧ PartsAt u B A2 c2 (ls ++ [L])
  | 6 => ∃ A2 c2, Blk u R4 31 #[.slice A2 (m + 1) c2] ∧ PartsAt u B A2 c2 (ls ++ [L])
  | _ => True
def deadS : Nat → Option Nat
  | 4 => some 5
  | _ => none
def needS (i k : Nat) : Bool := i == 6 && (k == 5 || k == 0)
def TS (B R4 m cA : Nat) (A : Option Addr) (ls : List (List UInt8)) (j : Nat) (u : World) : Prop :=
  match j with
  | 0 => Blk u R4 31 #[.slice A m cA]
  | 5 => PartsAt u B A cA ls
  | _ => True
def ES (B R4 : Nat) (k : Nat) (u u' : World) : Prop :=
  match k with
  | 5 => ∃ row, u.grownBy u' row ∧ ∀ r, row = some r → B ≤ r ∧ ∃ cs fz, u.heap[r]? = some (.cells cs 23 fz)
  | 6 => u.grownBy u' (some R4)
  | _ => u.grownBy u' none
section
variable {B R4 m cA t6 xc : Nat} {A xA : Option Addr} {L : List UInt8} {ls : List (List UInt8)} {u u' : World}
theorem ES.none {k : Nat} (he : ES B R4 k u u') (h5 : k ≠ 5) (h6 : k ≠ 6) : u.grownBy u' none := by
  unfold ES at he
  split at he
  · exact absurd rfl h5
  · exact absurd rfl h6
  · exact he
theorem ES.row {k : Nat} (he : ES B R4 k u u') : ∃ row, u.grownBy u' row ∧ ∀ r, row = some r → r = R4 ∨ (B ≤ r ∧ ∃ cs fz, u.heap[r]? = some (.cells cs 23 fz)) := by
  unfold ES at he
  split at he
  · obtain ⟨row, h1, h2⟩ := he; exact ⟨row, h1, fun r e => .inr (h2 r e)⟩
  · exact ⟨_, he, fun r e => by cases e; exact .inl rfl⟩
  · exact ⟨_, he, fun r e => by cases e⟩
theorem ES.row5 {k : Nat} (he : ES B R4 k u u') (h5 : k ≠ 5) : ∃ row, u.grownBy u' row ∧ ∀ r, row = some r → r = R4 := by
  unfold ES at he
  split at he
  · exact absurd rfl h5
  · exact ⟨_, he, fun r e => by cases e; rfl⟩
  · exact ⟨_, he, fun r e => by cases e⟩
theorem raw_row {g : Nat} {K : List UInt8} (h4 : R4 < B) {k : Nat} (he : ES B R4 k u u') (hr : Raw u g 5 K) (hg : B ≤ g) : Raw u' g 5 K := by
  obtain ⟨row, h1, h2⟩ := he.row
  refine hr.kept h1 (fun e => ?_)
  rcases h2 g e.symm with h3 | ⟨_, cs, fz, h3⟩
  · omega
  · unfold Raw at hr; rw [hr] at h3; cases h3
theorem VS.mono (h4 : R4 < B) (k i : Nat) (v : Value) (w w' : World) (he : ES B R4 k w w') (hik : i ≠ k) (hn : needS i k = false) (hd : deadS i ≠ some k) (hv : VS B R4 m cA t6 A xA L xc ls i v w) : VS B R4 m cA t6 A xA L xc ls i v w' := by
  by_cases i0 : i = 0
  · subst i0; exact hv
  by_cases i1 : i = 1
  · subst i1; exact hv
  by_cases i2 : i = 2
  · subst i2; exact hv
  by_cases i3 : i = 3
  · subst i3
    obtain ⟨g, e, h1, h2⟩ := hv
    exact ⟨g, e, raw_row h4 he h1 h2, h2⟩
  by_cases i4 : i = 4
  · subst i4
    have k5 : k ≠ 5 := fun e => hd (by rw [e]; rfl)
    obtain ⟨g, q, e, h1, h2, h3, h5⟩ := hv
    obtain ⟨row, e1, e2⟩ := he.row5 k5
    exact ⟨g, q, e, raw_row h4 he h1 h2, h2, h3.kept e1 (fun e => by have := e2 q e.symm; omega), h5⟩
  by_cases i5 : i = 5
  · subst i5
    obtain ⟨A2, c2, e, h1⟩ := hv
    obtain ⟨row, e1, e2⟩ := he.row5 (fun e => hik e.symm)
    exact ⟨A2, c2, e, h1.kept e1 (fun r e => .inl (by rw [e2 r e]; exact h4))⟩
  by_cases i6 : i = 6
  · subst i6
    have k5 : k ≠ 5 := fun e => by subst e; simp [needS] at hn
    obtain ⟨A2, c2, h0, h1⟩ := hv
    have hg := he.none k5 (fun e => hik e.symm)
    exact ⟨A2, c2, h0.kept hg (by simp), h1.kept hg (fun r e => by cases e)⟩
  unfold VS
  split <;> first | contradiction | trivial
theorem TS.mono (h4 : R4 < B) (k j : Nat) (w w' : World) (he : ES B R4 k w w') (hkj : k ≠ j) (hn : needS k j = false) (ht : TS B R4 m cA A ls j w) : TS B R4 m cA A ls j w' := by
  by_cases j0 : j = 0
  · subst j0
    have k6 : k ≠ 6 := fun e => by subst e; simp [needS] at hn
    by_cases k5 : k = 5
    · subst k5
      obtain ⟨row, h1, h2⟩ := he
      exact Blk.kept ht h1 (fun e => by have := (h2 _ e.symm).1; omega)
    · exact Blk.kept ht (he.none k5 k6) (by simp)
  by_cases j5 : j = 5
  · subst j5
    obtain ⟨row, e1, e2⟩ := he.row5 hkj
    exact PartsAt.kept ht e1 (fun r e => .inl (by rw [e2 r e]; exact h4))
  unfold TS
  split <;> first | trivial | contradiction
end
/-- What holds between the steps of a round. -/
structure CS (w : World) (B R3 R4 R5 D0 t6 : Nat) (tc : Array Value) (W u : World) : Prop where
  bel : Below w.heap.size w u
  kept : KeepsOthers W u
  kp : KpP w D0 W u
  size : B ≤ u.heap.size
  res : Blk u R3 36 #[.int .i64 0, .int .i64 0]
  flt : Blk u R5 36 #[.int .i64 0, .int .i64 0]
  b4 : ∃ v, Blk u R4 31 #[v]
  b6 : Blk u t6 60 tc
section
variable {w W u u' : World} {B R3 R4 R5 D0 t6 : Nat} {tc : Array Value}
theorem CS.step (h : CS w B R3 R4 R5 D0 t6 tc W u) {row : Option Nat} (hg : u.grownBy u' row) (hr : ∀ r, row = some r → B ≤ r ∧ ∃ cs fz, u.heap[r]? = some (.cells cs 23 fz)) (h3 : R3 < B) (h4 : R4 < B) (h5 : R5 < B) (hD : D0 < B) (hw : w.heap.size ≤ B) : CS w B R3 R4 R5 D0 t6 tc W u' := by
  have hne : ∀ {r : Nat}, r < B → some r ≠ row := fun hr' e => by have := (hr _ e.symm).1; omega
  have hty : ∀ {r : Nat} {cs : Array Value} {t : TypeId} {fz : Nat × Nat}, u.heap[r]? = some (.cells cs t fz) → t ≠ 23 → some r ≠ row := fun hr' ht e => by
    obtain ⟨_, cs, fz, h1⟩ := hr _ e.symm
    rw [hr'] at h1; cases h1; exact ht rfl
  have hsz := h.size
  have hblk : ∀ j, row = some j → ∃ o, u.heap[j]? = some o ∧ o.isCells = true := fun j e => by
    obtain ⟨_, cs, fz, h1⟩ := hr j e
    exact ⟨_, h1, rfl⟩
  obtain ⟨v4, h4b⟩ := h.b4
  refine ⟨h.bel.grown hg h.bel.size (fun k e => Nat.le_trans hw (hr k e).1), h.kept.trans (KeepsOthers.of_grownBy hg fun j o hj ho => by
    obtain ⟨o', h1, h2⟩ := hblk j hj
    rw [h1] at ho; cases ho; exact h2), ⟨(hg.block D0 (by omega) (hne hD)).trans h.kp.1, fun k cs fz hk => ?_, h.kp.2.2.grown hg (Nat.le_trans hw h.size) (fun k e => Nat.le_trans hw (hr k e).1)⟩, Nat.le_trans h.size hg.size, h.res.kept hg (hne h3), h.flt.kept hg (hne h5), ⟨v4, h4b.kept hg (hne h4)⟩, h.b6.kept hg (hty h.b6 (by decide))⟩
  have h1 := (h.kp.2.1 k cs fz hk).trans hk
  exact (hg.block k (Array.getElem?_eq_some_iff.1 h1).1 (hty h1 (by decide))).trans (h.kp.2.1 k cs fz hk)
theorem CS.set4 (h : CS w B R3 R4 R5 D0 t6 tc W u) (v : Value) (hw : w.heap.size ≤ R4) (h3 : R3 ≠ R4) (h5 : R5 ≠ R4) (hD : D0 ≠ R4) : CS w B R3 R4 R5 D0 t6 tc W (u.setCell ⟨R4, 0, none⟩ v) := by
  obtain ⟨v4, h4b⟩ := h.b4
  have ne6 : t6 ≠ R4 := h.b6.ne h4b (by decide)
  refine ⟨h.bel.setCell hw _, h.kept.trans (KeepsOthers.setCell _ _ _), ⟨(Below.heap_setCell u ⟨R4, 0, none⟩ v D0 hD).trans h.kp.1, fun k cs fz hk => ?_, h.kp.2.2.setCell hw _⟩, by have := h.size; simpa [World.setCell] using this, h.res.far (p := ⟨R4, 0, none⟩) h3 _, h.flt.far (p := ⟨R4, 0, none⟩) h5 _, ⟨v, by simpa using h4b.set_ 0 v⟩, h.b6.far (p := ⟨R4, 0, none⟩) ne6 _⟩
  have h1 := (h.kp.2.1 k cs fz hk).trans hk
  have hk4 : k ≠ R4 := fun e => by subst e; unfold Blk at h4b; rw [h4b] at h1; cases h1
  exact (Below.heap_setCell u ⟨R4, 0, none⟩ v k hk4).trans (h.kp.2.1 k cs fz hk)
end

set_option maxRecDepth 100000 in
set_option maxHeartbeats 2000000 in
theorem split_any (A : Option Addr) (data : List UInt8) (N c : Nat) (w : World) (hN : Hid (N = data.length)) (hcap : N ≤ c) (hc2 : Hid (c ≤ 9223372036854775807)) (hm : Hid (N ≤ 100000000)) (hbs : Bs w w.heap.size A data) :
    Calls Try.prog 20 #[.slice A N c] w (SplitO w (splitR data)) := by
  have HBS := Lib.hid hbs
  clear hbs
  obtain ⟨R, hR⟩ : ∃ R, R = splitR data := ⟨_, rfl⟩
  rw [← hR]
  have HR : Hid (R = runP (scanL N data 0) []) := Lib.hid (by rw [hR, hN.out]; rfl)
  clear hR
  refine (callsIn_wide (n := 9)).1 ?_
  refine callsIn_of_wp_marks Try.func20 rfl trivial ?_ rfl
  simp only [Try.ntmps20, List.size_toArray, List.length_cons, List.length_nil, Nat.reduceAdd, Nat.reduceSub, Array.replicate_succ, Array.replicate_zero, List.push_toArray, List.append_toArray, List.nil_append, List.cons_append]
  gi_wp2_with fail
  refine wpIn_scope_straight ?_
  gi_wp2_with fail
  refine wpIn_label ?_
  gi_wp2_with fail
  obtain ⟨W0, hW0⟩ : ∃ W0, W0 = ((w.alloc (.cells #[.int .i64 0, .int .i64 0] 36)).alloc (.cells #[.slice none 0 0] 31)).alloc (.cells #[.int .i64 0, .int .i64 0] 36) := ⟨_, rfl⟩
  rw [← hW0]
  have z0 : W0.heap.size = w.heap.size + 3 := by rw [hW0]; simp
  have r3 : Blk W0 w.heap.size 36 #[.int .i64 0, .int .i64 0] := by rw [hW0]; exact ((Blk.new _ _ _).alloc _).alloc _
  have r4 : Blk W0 (w.heap.size + 1) 31 #[.slice none 0 0] := by
    rw [hW0]; have := Blk.new (w.alloc (.cells #[.int .i64 0, .int .i64 0] 36)) 31 #[.slice none 0 0]; rw [World.size_alloc] at this; exact this.alloc _
  have r5 : Blk W0 (w.heap.size + 1 + 1) 36 #[.int .i64 0, .int .i64 0] := by
    rw [hW0]; have := Blk.new ((w.alloc (.cells #[.int .i64 0, .int .i64 0] 36)).alloc (.cells #[.slice none 0 0] 31)) 36 #[.int .i64 0, .int .i64 0]; rwa [World.size_alloc, World.size_alloc] at this
  have bW0 : Below w.heap.size w W0 := by rw [hW0]; exact bt (ba _ _) (bt (ba _ _) (ba _ _))
  clear hW0
  refine ⟨trivial, ((callsIn_wide).2 (pieces_any A N c _)).mono ?_⟩
  rintro e w3 ⟨rfl, hD3, hb3, hz3⟩
  rw [z0] at hD3 hz3 ⊢
  have q3 := r3.below hb3 r3.lt
  have q4 := r4.below hb3 r4.lt
  have q5 := r5.below hb3 r5.lt
  have bw3 := bt bW0 hb3
  clear r3 r4 r5 bW0 hb3 z0
  gi_wp2_with fail
  refine wpIn_rangeFunc_leave (F := Fence.wide) rfl (by omega) (gf := 41) (lb := #[.pointer (some ⟨w.heap.size + 3, 0, none⟩)]) rfl trivial (enters_of Try.func41 (by kernel_rfl) rfl)
    (encs := encP (w := w)) (fun _ => rfl) (KpP w (w.heap.size + 3)) (fun pre W => SI w w3.heap.size w.heap.size (w.heap.size + 1) (w.heap.size + 1 + 1) (pre.map conP) W) (fun cd xs W => cd = .exit 0 ∧ SX w w3.heap.size w.heap.size (w.heap.size + 1 + 1) (xs.map conP) W)
    (fun xs => xs.map conP = scanL N data 0) (fun xs => xs.map conP <+: scanL N data 0) (N + 1)
    (fun h k => ⟨k.1.trans h.1, fun q cs fz hq => (k.2.1 q cs fz ((h.2.1 q cs fz hq).trans hq)).trans (h.2.1 q cs fz hq), RowKit.Below.trans h.2.2 k.2.2⟩)
    (fun W l o o' hl ho hoc => ⟨World.putObj_heap_other (by omega), fun q cs fz hq => World.putObj_heap_other (fun e => by subst e; rw [hq] at ho; cases ho; cases hoc), (Below.refl w.heap.size W).grown (grownBy_putObj' W l o') (by have := (Array.getElem?_eq_some_iff.1 ho).1; omega) (fun k e => by cases e; omega)⟩)
    (fun s W l o o' hi hl ho hoc => hi.put (by omega) (by omega) (by omega) (by omega) o' ho hoc hl)
    (fun cd s W l o o' hi hl ho hoc => ⟨hi.1, hi.2.put (by omega) (by omega) (by omega) o' ho hoc hl⟩)
    (fun o o' => SI.alloc (SI.alloc ⟨bw3, Nat.le_refl _, q3, q5, ⟨none, 0, q4, PartsAt.nil _ _⟩, fun x hx => by simp at hx, by simp⟩ _) _)
    ?iter (fun x a' W => ∃ t6, w3.heap.size ≤ t6 ∧ Blk W t6 60 #[.int .i64 x.1.p, .slice x.1.A x.1.l.length x.1.c, .bool x.1.wh] ∧ a' = { tmps := #[.slice A N c, undef, .slice none 0 0, .pointer (some ⟨w.heap.size, 0, none⟩), .pointer (some ⟨w.heap.size + 1, 0, none⟩), .pointer (some ⟨w.heap.size + 1 + 1, 0, none⟩), .pointer (some ⟨t6, 0, none⟩), .slice A N c, .func (.func 41) #[] #[.pointer (some ⟨w.heap.size + 3, 0, none⟩)], .agg #[.int .i64 x.1.p, .slice x.1.A x.1.l.length x.1.c, .bool x.1.wh], undef, undef, undef, undef, undef, undef, undef, undef, undef, undef, undef, undef, undef, undef, undef, undef, undef, undef, undef, undef, undef, undef, undef, undef], defers := [] })
    (fun x a' W l o o' h hl ho hoc => by obtain ⟨t6, h1, h2, h3⟩ := h; exact ⟨t6, h1, h2.put _ (fun e => by subst e; unfold Blk at h2; rw [h2] at ho; cases ho; cases hoc), h3⟩) ?assign ?body ?done ?stop
  case iter =>
    intro l W1 Z Y hZ hbW1 hi hz hY
    have hstep := pieces1_in 8 (by omega) l (w.heap.size + 3) A data N c w hN hcap hc2 hm HBS.out
      (fun s W => SI w w3.heap.size w.heap.size (w.heap.size + 1) (w.heap.size + 1 + 1) (s.map conP) W ∧ Z W) Y
      (fun s W W' hb h => ⟨h.1.below hb, hZ _ _ (keepsOthers_below hb) h.2⟩)
      (fun pre x W hJ hl => (hY pre x W hJ.1 hJ.2 hl).mono fun e w' h => h.imp (fun h => ⟨h.1, ⟨h.2.1, h.2.2.1⟩, h.2.2.2⟩) id)
      W1 (hD3.below hbW1 (by omega)) hi.bel (by omega) ⟨hi, hz⟩
    exact hstep.mono fun e W' h => ⟨h.1, h.2.imp (fun ⟨xs, h1, h2⟩ => ⟨xs, h1, h2.1, h2.2⟩) id⟩
  case assign =>
    intro l pre x W K hI hK
    simp [encP]
    gi_wp2
    exact hK _ _ (KeepsOthers.alloc _ _) ⟨Below.heap_alloc W _ _ (by have := hI.size; omega), fun k cs fz hk => Below.heap_alloc W _ _ (Array.getElem?_eq_some_iff.1 hk).1, (Below.refl _ W).alloc hI.bel.size _⟩ (hI.alloc _) ⟨W.heap.size, hI.size, Blk.new _ _ _, rfl⟩
  case body =>
    intro l pre x a' W hl hr hI hAx hlen
    obtain ⟨t6, ht6, hb6, rfl⟩ := hAx
    have hxb := x.2.1
    have hxl := x.2.2
    have hcx : conP x = (x.1.p, x.1.l, x.1.wh) := rfl
    obtain ⟨xp, hxp⟩ : ∃ q, q = x.1.p := ⟨_, rfl⟩
    obtain ⟨xA, hxA⟩ : ∃ q, q = x.1.A := ⟨_, rfl⟩
    obtain ⟨xl, hxl0⟩ : ∃ q, q = x.1.l := ⟨_, rfl⟩
    obtain ⟨xc, hxc⟩ : ∃ q, q = x.1.c := ⟨_, rfl⟩
    obtain ⟨xwh, hxw⟩ : ∃ q, q = x.1.wh := ⟨_, rfl⟩
    rw [← hxp, ← hxA, ← hxl0, ← hxc, ← hxw] at hb6 ⊢
    rw [← hxp, ← hxl0, ← hxw] at hcx
    rw [← hxA, ← hxl0] at hxb
    rw [← hxl0] at hxl
    clear hxp hxA hxl0 hxc hxw
    obtain ⟨bel, hsz, hres, hflt, ⟨Ao, co, hb4, hpa⟩, hwh, hle⟩ := hI
    have hmap : (pre ++ [x]).map conP = pre.map conP ++ [(xp, xl, xwh)] := by rw [List.map_append, List.map_cons, List.map_nil, hcx]
    clear hcx
    obtain ⟨P, hP⟩ : ∃ P, P = pre.map conP := ⟨_, rfl⟩
    rw [← hP] at hb4 hpa hwh hle hmap
    have c60 := hb6.cell 0
    have c61 := hb6.cell 1
    have c62 := hb6.cell 2
    have c4 := hb4.cell 0
    have c50 := hflt.cell 0
    have c51 := hflt.cell 1
    have f50 := hflt.frozen 0
    have f51 := hflt.frozen 1
    simp only [List.getElem?_toArray, List.getElem?_cons_zero, List.getElem?_cons_succ] at c60 c61 c62 c4 c50 c51
    have Hmap := Lib.hid hmap
    have HP := Lib.hid hP
    have Hwh := Lib.hid hwh
    obtain ⟨m, hmP⟩ : ∃ m, m = P.length := ⟨_, rfl⟩
    rw [← hmP] at hb4 hle c4
    have HmP := Lib.hid hmP
    clear hmap hP hmP hwh
    cases xwh
    · gi_wp2
      refine ⟨(KeepsOthers.setCell _ _ _).trans (KeepsOthers.setCell _ _ _), rfl, ?_⟩
      rw [Hmap.out]
      refine ⟨(bel.setCell (show w.heap.size ≤ w.heap.size + 1 + 1 by omega) _).setCell (show w.heap.size ≤ w.heap.size + 1 + 1 by omega) _, (hres.far (p := ⟨w.heap.size + 1 + 1, 0, none⟩) (show w.heap.size ≠ w.heap.size + 1 + 1 by omega) _).far (p := ⟨w.heap.size + 1 + 1, 1, none⟩) (by simp only; omega) _, P, _, rfl, Hwh.out, by rw [← HmP.out]; exact hle, xp, 11, ?_, .inl ⟨rfl, rfl, rfl⟩⟩
      simpa using (hflt.set_ 0 (.int .i64 (xp : Int))).set_ 1 (.int .i64 11)
    · by_cases h1000 : (m : Int) = 1000
      · have hm1 : m = 1000 := by omega
        gi_wp2
        refine ⟨(KeepsOthers.setCell _ _ _).trans (KeepsOthers.setCell _ _ _), rfl, ?_⟩
        rw [Hmap.out]
        refine ⟨(bel.setCell (show w.heap.size ≤ w.heap.size + 1 + 1 by omega) _).setCell (show w.heap.size ≤ w.heap.size + 1 + 1 by omega) _, (hres.far (p := ⟨w.heap.size + 1 + 1, 0, none⟩) (show w.heap.size ≠ w.heap.size + 1 + 1 by omega) _).far (p := ⟨w.heap.size + 1 + 1, 1, none⟩) (by simp only; omega) _, P, _, rfl, Hwh.out, by rw [← HmP.out]; exact hle, 0, 2, ?_, .inr ⟨rfl, by rw [← HmP.out]; exact hm1, rfl, rfl⟩⟩
        simpa using (hflt.set_ 0 (.int .i64 0)).set_ 1 (.int .i64 2)
      · have hm1 : m < 1000 := by omega
        obtain ⟨ls, hls⟩ : ∃ ls, ls = P.map (·.2.1) := ⟨_, rfl⟩
        have hlsm : m = ls.length := by rw [hls, List.length_map]; exact HmP.out
        rw [← hls] at hpa
        have Hls := Lib.hid hls
        have Hlsm := Lib.hid hlsm
        have Hm1 := Lib.hid hm1
        clear hls hlsm hm1
        have hB : ((m : Int) == 1000) = false := by rw [beq_eq_false_iff_ne]; exact h1000
        gi_wp2
        clear c60 c61 c62 c4 c50 c51 f50 f51
        refine wpIn_region_inv (Fc := Fence.wide.inRound l) (fun _ => trivial) (F := ?Fa) (VS w3.heap.size (w.heap.size + 1) m co t6 Ao xA xl xc ls) deadS needS (TS w3.heap.size (w.heap.size + 1) m co Ao ls) (CS w w3.heap.size w.heap.size (w.heap.size + 1) (w.heap.size + 1 + 1) (w.heap.size + 3) t6 #[.int .i64 xp, .slice xA xl.length xc, .bool true] W) (ES w3.heap.size (w.heap.size + 1)) (by kernel_rfl) (by kernel_rfl) (by kernel_rfl) (by kernel_rfl) (fun x => ?hFa) (VS.mono (by omega)) (TS.mono (by omega)) ?hTa ?hCa ?stepa ?fina
        case hFa => simp only [mkA, Act.put, List.setIfInBounds_toArray, List.set_cons_succ, List.set_cons_zero, Nat.reduceAdd, Nat.zero_add]; with_reducible rfl
        case hTa =>
          intro j
          unfold TS
          split
          · exact hb4
          · exact hpa.below (gr_drew _)
          · trivial
        case hCa => exact ⟨bt bel (gr_drew _), keepsOthers_below (gr_drew W), ⟨rfl, fun _ _ _ _ => rfl, (gr_drew W).mono bel.size⟩, hsz, hres, hflt, ⟨_, hb4⟩, hb6⟩
        case stepa =>
          refine AllOps.cons (fun x' u hC hT hp K hK => ?_) ?_
          · clear hp
            have c4 := (show Blk u _ _ _ from hT).cell 0
            simp only [List.getElem?_toArray, List.getElem?_cons_zero] at c4
            go_simp
            refine hK _ _ _ hC (World.grownBy.refl u none) (by exact rfl) ?_
            simp only [Act.put, List.setIfInBounds_toArray, List.set_cons_succ, List.set_cons_zero]
          refine AllOps.cons (fun x' u hC hT hp K hK => ?_) ?_
          · clear hp hT
            go_simp
            refine hK _ _ _ hC (World.grownBy.refl u none) (by exact rfl) ?_
            simp only [Act.put, List.setIfInBounds_toArray, List.set_cons_succ, List.set_cons_zero]
          refine AllOps.cons (fun x' u hC hT hp K hK => ?_) ?_
          · have h1 : x' 1 = .pointer (some ⟨t6, 1, none⟩) := hp.1 rfl (.inl rfl)
            clear hp hT
            have c61 := hC.b6.cell 1
            simp only [List.getElem?_toArray, List.getElem?_cons_zero, List.getElem?_cons_succ] at c61
            go_simp
            refine hK _ _ _ hC (World.grownBy.refl u none) (by exact rfl) ?_
            simp only [Act.put, List.setIfInBounds_toArray, List.set_cons_succ, List.set_cons_zero, h1]
          refine AllOps.cons (fun x' u hC hT hp K hK => ?_) ?_
          · have h2 : x' 2 = .slice xA xl.length xc := hp.1 rfl (.inl rfl)
            clear hp hT
            go_simp
            refine ⟨trivial, (CallsIn.inRound l ((callsIn_wide).2 (fresh_any xA xl _ xc u rfl (by omega) ((hxb.below hC.bel).more hC.bel.size)))).mono ?_⟩
            rintro e wA ⟨rfl, hrA, hbA⟩
            have hgA : u.grownBy wA none := ⟨hbA.os, hbA.tape, hbA.output, hbA.size, fun i hi _ => hbA.block i hi⟩
            refine hK _ _ _ (hC.step hgA (fun j e => by cases e) (by omega) (by omega) (by omega) (by omega) (by omega)) hgA ⟨_, rfl, hrA, hC.size⟩ ?_
            simp only [Act.put, List.setIfInBounds_toArray, List.set_cons_succ, List.set_cons_zero, h2]
          refine AllOps.cons (fun x' u hC hT hp K hK => ?_) ?_
          · obtain ⟨g, h3, hrg, hBg⟩ := hp.1 rfl (.inl rfl)
            clear hp hT
            go_simp
            have hbA := ba u (.cells #[.slice (some ⟨g, 0, none⟩) xl.length xl.length] 23)
            have hgA : u.grownBy (u.alloc (.cells #[.slice (some ⟨g, 0, none⟩) xl.length xl.length] 23)) none := ⟨hbA.os, hbA.tape, hbA.output, hbA.size, fun i hi _ => hbA.block i hi⟩
            refine hK (.slice (some ⟨u.heap.size, 0, none⟩) 1 1) _ _ (hC.step hgA (fun j e => by cases e) (by omega) (by omega) (by omega) (by omega) (by omega)) hgA ⟨g, u.heap.size, rfl, hrg.alloc _, hBg, Blk.new _ _ _, hC.size⟩ ?_
            simp only [Act.put, List.setIfInBounds_toArray, List.set_cons_succ, List.set_cons_zero, h3]
          refine AllOps.cons (fun x' u hC hT hp K hK => ?_) ?_
          · have h0 : x' 0 = .slice Ao m co := hp.1 rfl (.inl rfl)
            obtain ⟨g, q, h4, hrg, hBg, hbq, hBq⟩ := hp.2.1 rfl (.inr rfl)
            clear hp
            have hT5 : PartsAt u w3.heap.size Ao co ls := hT
            have hq := hbq.cell 0
            simp only [List.getElem?_toArray, List.getElem?_cons_zero] at hq
            obtain ⟨A2, c2, u2, hrun, hp2, row, hg2, hr2⟩ := parts_more hT5 m Hlsm.out (by have := Hm1.out; omega) (some ⟨g, 0, none⟩) xl.length xl.length q xl rfl (hrg.fr hBg) hC.size hq
            exact stepIn_append_run (fun _ => trivial) rfl (.tmp 22) (.tmp 26) 31 rfl _ _ _ u2 h0 h4 hrun (hK _ _ _ (hC.step hg2 hr2 (by omega) (by omega) (by omega) (by omega) (by omega)) ⟨row, hg2, hr2⟩ ⟨A2, c2, rfl, hp2⟩ rfl)
          refine AllOps.cons (fun x' u hC hT hp K hK => ?_) ?_
          · obtain ⟨A2, c2, h5, hp2⟩ := hp.1 rfl (.inl rfl)
            clear hp hT
            obtain ⟨v4, hb4u⟩ := hC.b4
            have c4 := hb4u.cell 0
            have f4 := hb4u.frozen 0
            simp only [List.getElem?_toArray, List.getElem?_cons_zero] at c4
            go_simp
            have hgA := gset u (w.heap.size + 1) 0 (.slice A2 (m + 1) c2)
            refine hK undef _ _ (hC.set4 _ (by omega) (by omega) (by omega) (by omega)) hgA ⟨A2, c2, by simpa using hb4u.set_ 0 (.slice A2 (m + 1) c2), hp2.kept hgA (fun r e => .inl (by cases e; omega))⟩ ?_
            simp only [Act.put, h5]
          exact AllOps.nil
        case fina =>
          intro x' u hC hV
          obtain ⟨A2, c2, q4u, hp2⟩ := hV 6 (by decide) rfl
          clear hV
          gi_wp2
          refine ⟨hC.kept, hC.kp, ?_⟩
          show SI _ _ _ _ _ _ _
          rw [Hmap.out]
          refine ⟨hC.bel, hC.size, hC.res, hC.flt, ⟨A2, c2, ?_, ?_⟩, ?_, ?_⟩
          · rw [List.length_append, ← HmP.out]; exact q4u
          · rw [List.map_append, ← Hls.out]; exact hp2
          · intro y hy
            rcases List.mem_append.1 hy with h | h
            · exact Hwh.out y h
            · simp at h; rw [h]
          · rw [List.length_append, ← HmP.out]; have := Hm1.out; simp; omega
  case done =>
    intro D xs W hD hS hi hK
    obtain ⟨bel, hsz, hres, hflt, ⟨Ad, c1, hb4, hpa⟩, hwh, hle⟩ := hi
    have hRR : R = ((xs.map conP).map (·.2.1), 0, 0) := by rw [HR.out, ← hS]; exact runP_all hwh hle
    have hlen2 : (xs.map conP).length = ((xs.map conP).map (·.2.1)).length := by simp
    rw [hlen2] at hb4
    obtain ⟨ls, hls⟩ : ∃ ls, ls = (xs.map conP).map (·.2.1) := ⟨_, rfl⟩
    rw [← hls] at hRR hb4 hpa
    subst hRR
    clear hls hlen2 hwh hle hS HR
    have c4 := hb4.cell 0
    have c50 := hflt.cell 0
    have c51 := hflt.cell 1
    have c30 := hres.cell 0
    have c31 := hres.cell 1
    have f30 := hres.frozen 0
    have f31 := hres.frozen 1
    simp only [List.getElem?_toArray, List.getElem?_cons_zero, List.getElem?_cons_succ] at c4 c50 c51 c30 c31
    have hK2 : ((W.setCell ⟨w.heap.size, 0, none⟩ (.int .i64 0)).setCell ⟨w.heap.size, 1, none⟩ (.int .i64 0)).heap[D]? = some (.deferred (some [])) := (Below.heap_setCell _ ⟨w.heap.size, 1, none⟩ _ D (show D ≠ w.heap.size by omega)).trans ((Below.heap_setCell _ ⟨w.heap.size, 0, none⟩ _ D (show D ≠ w.heap.size by omega)).trans hK)
    have hr2 : Blk ((W.setCell ⟨w.heap.size, 0, none⟩ (.int .i64 0)).setCell ⟨w.heap.size, 1, none⟩ (.int .i64 0)) w.heap.size 36 #[.int .i64 0, .int .i64 0] := by simpa using (hres.set_ 0 (.int .i64 0)).set_ 1 (.int .i64 0)
    have hbel2 : Below w.heap.size w ((W.setCell ⟨w.heap.size, 0, none⟩ (.int .i64 0)).setCell ⟨w.heap.size, 1, none⟩ (.int .i64 0)) := (bel.setCell (Nat.le_refl _) _).setCell (Nat.le_refl _) _
    have hpa2 := (hpa.kept (gset W w.heap.size 0 (.int .i64 0)) (fun r e => .inl (by cases e; omega))).kept (gset _ w.heap.size 1 (.int .i64 0)) (fun r e => .inl (by cases e; omega))
    gi_wp2
    refine ⟨by simp, .inl ⟨_, _, rfl, run_takeDeferred hK2, ?_⟩⟩
    have hr3 := hr2.put (r := D) (.deferred none) (by omega)
    have d0 := hr3.cell 0
    have d1 := hr3.cell 1
    simp only [List.getElem?_toArray, List.getElem?_cons_zero, List.getElem?_cons_succ] at d0 d1
    refine ⟨.tuple #[.slice Ad ls.length c1, .agg #[.int .i64 0, .int .i64 0]], by simp [results, Try.results20, go_sem, d0, d1]; try rfl, Ad, c1, rfl, ?_, ?_⟩
    · exact (((hpa2.kept (grownBy_putObj' _ D _) (fun r e => .inr (by cases e; exact ⟨_, hK2, rfl⟩))).list).base (by omega))
    · exact hbel2.grown (grownBy_putObj' _ D _) hbel2.size (fun k e => by cases e; omega)
  case stop =>
    intro D cd xs W hD hS hi hK
    obtain ⟨rfl, hi⟩ := hi
    obtain ⟨bel, hres, pre, x, e1, hwh, hle, fa, fc, hflt, hc⟩ := hi
    have hRR : R = ([], fa, fc) := by rw [HR.out]; rw [e1] at hS; exact runP_away hS hwh hle hc
    have hnz : fc = 11 ∨ fc = 2 := by
      rcases hc with ⟨_, _, h⟩ | ⟨_, _, _, h⟩
      · exact .inl h
      · exact .inr h
    subst hRR
    clear hwh hle hS HR e1 hc
    have c50 := hflt.cell 0
    have c51 := hflt.cell 1
    have c30 := hres.cell 0
    have c31 := hres.cell 1
    have f30 := hres.frozen 0
    have f31 := hres.frozen 1
    simp only [List.getElem?_toArray, List.getElem?_cons_zero, List.getElem?_cons_succ] at c50 c51 c30 c31
    have hz1 : ¬ (fa = 0 ∧ fc = 0) := by omega
    have hK2 : ((W.setCell ⟨w.heap.size, 0, none⟩ (.int .i64 fa)).setCell ⟨w.heap.size, 1, none⟩ (.int .i64 fc)).heap[D]? = some (.deferred (some [])) := (Below.heap_setCell _ ⟨w.heap.size, 1, none⟩ _ D (show D ≠ w.heap.size by omega)).trans ((Below.heap_setCell _ ⟨w.heap.size, 0, none⟩ _ D (show D ≠ w.heap.size by omega)).trans hK)
    have hr2 : Blk ((W.setCell ⟨w.heap.size, 0, none⟩ (.int .i64 fa)).setCell ⟨w.heap.size, 1, none⟩ (.int .i64 fc)) w.heap.size 36 #[.int .i64 fa, .int .i64 fc] := by simpa using (hres.set_ 0 (.int .i64 fa)).set_ 1 (.int .i64 fc)
    have hbel2 : Below w.heap.size w ((W.setCell ⟨w.heap.size, 0, none⟩ (.int .i64 fa)).setCell ⟨w.heap.size, 1, none⟩ (.int .i64 fc)) := (bel.setCell (Nat.le_refl _) _).setCell (Nat.le_refl _) _
    refine wpIn_exit ?_
    have hr2d : Blk (World.drew ((W.setCell ⟨w.heap.size, 0, none⟩ (.int .i64 fa)).setCell ⟨w.heap.size, 1, none⟩ (.int .i64 fc))) w.heap.size 36 #[.int .i64 fa, .int .i64 fc] := hr2
    have hK2d : (World.drew ((W.setCell ⟨w.heap.size, 0, none⟩ (.int .i64 fa)).setCell ⟨w.heap.size, 1, none⟩ (.int .i64 fc))).heap[D]? = some (.deferred (some [])) := hK2
    have hbel2d := bt hbel2 (gr_drew _)
    clear hr2 hK2 hbel2
    rcases hnz with hfc | hfc
    all_goals
      subst hfc
      gi_wp2
      gi_region
      all_goals
        gi_wp2
        refine ⟨by simp, .inl ⟨_, _, rfl, run_takeDeferred hK2d, ?_⟩⟩
        have hr3 := hr2d.put (r := D) (.deferred none) (by omega)
        have d0 := hr3.cell 0
        have d1 := hr3.cell 1
        simp only [List.getElem?_toArray, List.getElem?_cons_zero, List.getElem?_cons_succ] at d0 d1
        refine ⟨.tuple #[.slice none ([] : List (List UInt8)).length 0, .agg #[.int .i64 fa, .int .i64 _]], by simp [results, Try.results20, go_sem, d0, d1]; try rfl, none, 0, rfl, ListFrom.nil _ _ _, ?_⟩
        exact hbel2d.grown (grownBy_putObj' _ D _) hbel2d.size (fun k e => by cases e; omega)

end Go.Proofs.Ytjeajglnoedkaaa
