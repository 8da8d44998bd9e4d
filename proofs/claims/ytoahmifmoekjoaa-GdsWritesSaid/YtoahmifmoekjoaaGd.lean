/- Layer 4: a variable is written. -/
import Derived.Test.YtoahmifmoekjoaaGc
import Derived.Test.YtoahmifmoekjoaaInvIn
namespace Go.Proofs.Ytoahmifmoekjoaa
open Go.RowKit Go.Shelf
attribute [local go_sem] Oper.semAt_some
set_option linter.unusedVariables false
set_option linter.unusedSimpArgs false

def segOf (head p : List UInt8) (last : Bool) : List UInt8 := putL (2 + head.length + p.length + (if last = true then 0 else 32768)) 2 ++ head ++ p
def segsL (head : List UInt8) : List (List UInt8 × Bool) → List UInt8
  | [] => []
  | x :: xs => segOf head x.1 x.2 ++ segsL [] xs
/-- The ID stands in the first segment alone. -/
def hdOf (head : List UInt8) (pre : List (List UInt8 × Bool)) : List UInt8 := match pre with | [] => head | _ => []
theorem segsL_snoc (head : List UInt8) (pre : List (List UInt8 × Bool)) (x : List UInt8 × Bool) : segsL head (pre ++ [x]) = segsL head pre ++ segOf (hdOf head pre) x.1 x.2 := by
  induction pre generalizing head with
  | nil => simp [segsL, hdOf]
  | cons y ys ih =>
    simp only [List.cons_append, segsL, List.append_assoc, List.append_cancel_left_eq]
    rw [ih []]
    cases ys <;> simp [hdOf]
theorem hdOf_snoc (head : List UInt8) (pre : List (List UInt8 × Bool)) (x : List UInt8 × Bool) : hdOf head (pre ++ [x]) = [] := by
  cases pre <;> rfl

def mkP {w : World} (A : Option Addr) (l : List UInt8) (c : Nat) (last : Bool) (h1 : Bs w w.heap.size A l) (h2 : l.length ≤ 2048) : PVal w := ⟨⟨A, l, c, last⟩, h1, h2⟩
theorem conP_mkP {w : World} (A : Option Addr) (l : List UInt8) (c : Nat) (last : Bool) (h1 : Bs w w.heap.size A l) (h2 : l.length ≤ 2048) : conP (mkP A l c last h1 h2) = (l, last) := rfl
/-- What the loop that writes keeps: its own cells. -/
structure WI (w : World) (B1 R6 R7 Rp : Nat) (idb : List UInt8) (pre : List (List UInt8 × Bool)) (W : World) : Prop where
  bel : Below w.heap.size w W
  size : B1 ≤ W.heap.size
  out : ∃ A c, Blk W R6 22 #[.slice A (segsL idb pre).length c] ∧ Own W B1 5 A c (segsL idb pre)
  hd : ∃ A c, Blk W R7 22 #[.slice A (hdOf idb pre).length c] ∧ (hdOf idb pre = [] ∨ A = some ⟨Rp, 0, none⟩ ∧ hdOf idb pre = idb)
  raw : Raw W Rp 5 idb

theorem Own.put {w : World} {base : Nat} {e : TypeId} {A : Option Addr} {c : Nat} {l : List UInt8} (h : Own w base e A c l) {r : Nat} {o : Obj} (o' : Obj) (hr : w.heap[r]? = some o) (ho : o.isCells = false) : Own (w.putObj r o') base e A c l := by
  refine h.kept (row := some r) (grownBy_putObj' w r o') ?_
  rcases h.2 with ⟨h1, h2⟩ | ⟨g, cap, cur, h1, hb, hg, _⟩
  · simp only [Value.slice.injEq] at h1
    obtain ⟨rfl, _⟩ := h1
    exact .inl rfl
  · simp only [Value.slice.injEq] at h1
    obtain ⟨rfl, _, _⟩ := h1
    refine .inr fun e => ?_
    simp only [blk, Option.map_some, Option.some.injEq] at e
    subst e
    rw [hr] at hg
    cases hg
    cases ho
theorem Blk.put {w : World} {g : Nat} {t : TypeId} {cs : Array Value} (h : Blk w g t cs) {r : Nat} (o' : Obj) (hne : g ≠ r) : Blk (w.putObj r o') g t cs := (World.putObj_heap_other hne).trans h
theorem Raw.put {w : World} {g : Nat} {t : TypeId} {L : List UInt8} (h : Raw w g t L) {r : Nat} (o' : Obj) (hne : g ≠ r) : Raw (w.putObj r o') g t L := (World.putObj_heap_other hne).trans h

section
variable {w W : World} {B1 R6 R7 Rp : Nat} {idb : List UInt8} {pre : List (List UInt8 × Bool)}
theorem WI.put (h : WI w B1 R6 R7 Rp idb pre W) (h6 : R6 < B1) (h7 : R7 < B1) (hp : Rp < B1) (hw : w.heap.size ≤ B1) {r : Nat} {o : Obj} (o' : Obj) (hr : W.heap[r]? = some o) (ho : o.isCells = false) (hB : B1 ≤ r) : WI w B1 R6 R7 Rp idb pre (W.putObj r o') := by
  obtain ⟨A, c, h1, h2⟩ := h.out
  obtain ⟨A', c', h3, h4⟩ := h.hd
  exact ⟨h.bel.grown (grownBy_putObj' W r o') h.bel.size (fun k e => by cases e; omega), by rw [World.putObj_size]; exact h.size, ⟨A, c, h1.put _ (by omega), h2.put _ hr ho⟩, ⟨A', c', h3.put _ (by omega), h4⟩, h.raw.put _ (by omega)⟩
theorem WI.alloc (h : WI w B1 R6 R7 Rp idb pre W) (o : Obj) : WI w B1 R6 R7 Rp idb pre (W.alloc o) := by
  obtain ⟨A, c, h1, h2⟩ := h.out
  obtain ⟨A', c', h3, h4⟩ := h.hd
  exact ⟨h.bel.alloc h.bel.size _, by rw [World.size_alloc]; exact Nat.le_succ_of_le h.size, ⟨A, c, h1.alloc _, h2.alloc _⟩, ⟨A', c', h3.alloc _, h4⟩, h.raw.alloc _⟩
theorem WI.far (h : WI w B1 R6 R7 Rp idb pre W) {D0 : Nat} (hw : w.heap.size ≤ D0) (hD : D0 < B1) (h6 : R6 ≠ D0) (h7 : R7 ≠ D0) (hp : Rp ≠ D0) (v : Value) : WI w B1 R6 R7 Rp idb pre (W.setCell ⟨D0, 0, none⟩ v) := by
  obtain ⟨A, c, h1, h2⟩ := h.out
  obtain ⟨A', c', h3, h4⟩ := h.hd
  exact ⟨h.bel.setCell hw _, by have := h.size; simpa [World.setCell] using this, ⟨A, c, h1.far (p := ⟨D0, 0, none⟩) h6 _, h2.kept (gset W D0 0 v) (.inr fun e => by have := (h2.lt D0 e).1; omega)⟩, ⟨A', c', h3.far (p := ⟨D0, 0, none⟩) h7 _, h4⟩, h.raw.far (p := ⟨D0, 0, none⟩) hp _⟩
end

theorem segsL_len (l : List (List UInt8 × Bool)) : ∀ (head : List UInt8), head.length ≤ 2 → (∀ x ∈ l, x.1.length ≤ 2048) → (segsL head l).length ≤ l.length * 2052 := by
  induction l with
  | nil => intro head _ _; simp [segsL]
  | cons x xs ih =>
    intro head h h2
    have h3 := ih [] (by simp) (fun y hy => h2 y (List.mem_cons_of_mem _ hy))
    have h4 := h2 x List.mem_cons_self
    simp only [segsL, segOf, List.length_append, putL_length, List.length_cons]
    omega
theorem hdOf_len (head : List UInt8) (l : List (List UInt8 × Bool)) (h : head.length = 2) : (hdOf head l).length ≤ 2 := by
  cases l <;> simp [hdOf]; omega

/-- What the region yields in which the length is put behind. -/
def VW (B1 R6 L : Nat) (Ao : Option Addr) (co : Nat) (O : List UInt8) (i : Nat) (v : Value) (u : World) : Prop :=
  match i with
  | 0 => v = .slice Ao O.length co
  | 1 => v = .int .i64 L
  | 2 => ∃ g, v = .slice (some ⟨g, 0, none⟩) 2 2 ∧ Raw u g 5 (putL L 2) ∧ B1 ≤ g
  | 3 => ∃ A2 c2, v = .slice A2 (O.length + 2) c2 ∧ Own u B1 5 A2 c2 (O ++ putL L 2)
  | 4 => ∃ A2 c2, Blk u R6 22 #[.slice A2 (O.length + 2) c2] ∧ Own u B1 5 A2 c2 (O ++ putL L 2)
  | _ => True
def deadW : Nat → Option Nat
  | 2 => some 3
  | 3 => some 4
  | _ => none
def needW (i k : Nat) : Bool := i == 4 && (k == 3 || k == 0)
def TW (B1 R6 : Nat) (Ao : Option Addr) (co : Nat) (O : List UInt8) (j : Nat) (u : World) : Prop :=
  match j with
  | 0 => Blk u R6 22 #[.slice Ao O.length co]
  | 3 => Own u B1 5 Ao co O
  | _ => True
def EW (B1 R6 : Nat) (Ao : Option Addr) (k : Nat) (u u' : World) : Prop :=
  match k with
  | 3 => u.grownBy u' (blk Ao) ∧ ∀ j, blk Ao = some j → B1 ≤ j
  | 4 => u.grownBy u' (some R6)
  | _ => u.grownBy u' none
section
variable {B1 R6 L : Nat} {Ao : Option Addr} {co : Nat} {O : List UInt8} {u u' : World}
theorem own_row {A : Option Addr} {c : Nat} {l : List UInt8} {row : Option Nat} (h6 : R6 < B1) (hg : u.grownBy u' row) (hr : row = none ∨ row = some R6) (ho : Own u B1 5 A c l) : Own u' B1 5 A c l := by
  refine ho.kept hg ?_
  rcases hr with rfl | rfl
  · cases hA : blk A with
    | none => exact .inl rfl
    | some g => exact .inr (by simp)
  · exact .inr fun e => by have := (ho.lt R6 e).1; omega
theorem EW.row {k : Nat} (he : EW B1 R6 Ao k u u') (h3 : k ≠ 3) : ∃ row, u.grownBy u' row ∧ (row = none ∨ row = some R6) := by
  unfold EW at he
  split at he
  · exact absurd rfl h3
  · exact ⟨_, he, .inr rfl⟩
  · exact ⟨_, he, .inl rfl⟩
theorem EW.none {k : Nat} (he : EW B1 R6 Ao k u u') (h3 : k ≠ 3) (h4 : k ≠ 4) : u.grownBy u' none := by
  unfold EW at he
  split at he
  · exact absurd rfl h3
  · exact absurd rfl h4
  · exact he
theorem VW.mono (h6 : R6 < B1) (k i : Nat) (v : Value) (w w' : World) (he : EW B1 R6 Ao k w w') (hik : i ≠ k) (hn : needW i k = false) (hd : deadW i ≠ some k) (hv : VW B1 R6 L Ao co O i v w) : VW B1 R6 L Ao co O i v w' := by
  by_cases h0 : i = 0
  · subst h0; exact hv
  by_cases h1 : i = 1
  · subst h1; exact hv
  by_cases h2 : i = 2
  · subst h2
    have h3 : k ≠ 3 := fun e => hd (by rw [e]; rfl)
    obtain ⟨row, hg, hr⟩ := he.row h3
    obtain ⟨g, e, h1, h2⟩ := hv
    refine ⟨g, e, h1.kept hg ?_, h2⟩
    rcases hr with rfl | rfl
    · simp
    · simp; omega
  by_cases h3 : i = 3
  · subst h3
    obtain ⟨row, hg, hr⟩ := he.row (fun e => hik e.symm)
    obtain ⟨A2, c2, e, h1⟩ := hv
    exact ⟨A2, c2, e, own_row h6 hg hr h1⟩
  by_cases h4 : i = 4
  · subst h4
    obtain ⟨A2, c2, q0, q1⟩ := hv
    have k3 : k ≠ 3 := fun e => by subst e; simp [needW] at hn
    have hg := he.none k3 (fun e => hik e.symm)
    exact ⟨A2, c2, q0.kept hg (by simp), own_row h6 hg (.inl rfl) q1⟩
  unfold VW
  split <;> first | contradiction | trivial
theorem TW.mono (h6 : R6 < B1) (k j : Nat) (w w' : World) (he : EW B1 R6 Ao k w w') (hkj : k ≠ j) (hn : needW k j = false) (ht : TW B1 R6 Ao co O j w) : TW B1 R6 Ao co O j w' := by
  by_cases h0 : j = 0
  · subst h0
    have k4 : k ≠ 4 := fun e => by subst e; simp [needW] at hn
    by_cases k3 : k = 3
    · subst k3
      refine Blk.kept ht he.1 (fun e => ?_)
      have := he.2 _ e.symm
      omega
    · exact Blk.kept ht (he.none k3 k4) (by simp)
  by_cases h3 : j = 3
  · subst h3
    obtain ⟨row, hg, hr⟩ := he.row hkj
    exact own_row h6 hg hr ht
  unfold TW
  split <;> first | trivial | contradiction
end

/-- What holds between the steps of a round. -/
structure CW (w : World) (B1 R6 R7 Rp D0 S0 : Nat) (idb : List UInt8) (hv : Value) (W u : World) : Prop where
  bel : Below w.heap.size w u
  kept : KeepsOthers W u
  kp : KpP w D0 S0 W u
  b6 : ∃ v, Blk u R6 22 #[v]
  b7 : Blk u R7 22 #[hv]
  raw : Raw u Rp 5 idb
  size : B1 ≤ u.heap.size
theorem KeepsOthers.row {u u' : World} {row : Option Nat} (hg : u.grownBy u' row) (hr : ∀ j, row = some j → ∃ o, u.heap[j]? = some o ∧ o.isCells = true) : KeepsOthers u u' :=
  KeepsOthers.of_grownBy hg fun j o hj ho => by
    obtain ⟨o', h1, h2⟩ := hr j hj
    rw [h1] at ho; cases ho; exact h2
theorem Own.cells {w : World} {base : Nat} {e : TypeId} {A : Option Addr} {c : Nat} {l : List UInt8} (h : Own w base e A c l) : ∀ j, blk A = some j → ∃ o, w.heap[j]? = some o ∧ o.isCells = true := by
  intro j hj
  rcases h.2 with ⟨h1, h2⟩ | ⟨g, cap, cur, h1, hb, hg, _⟩
  · simp only [Value.slice.injEq] at h1
    obtain ⟨rfl, _⟩ := h1
    cases hj
  · simp only [Value.slice.injEq] at h1
    obtain ⟨rfl, _, _⟩ := h1
    simp only [blk, Option.map_some, Option.some.injEq] at hj
    subst hj
    exact ⟨_, hg, rfl⟩
theorem CW.step {w : World} {B1 R6 R7 Rp D0 S0 : Nat} {idb : List UInt8} {hv : Value} {W u u' : World} {row : Option Nat} (h : CW w B1 R6 R7 Rp D0 S0 idb hv W u) (hg : u.grownBy u' row) (hr : ∀ j, row = some j → ∃ o, u.heap[j]? = some o ∧ o.isCells = true)
    (hB : ∀ j, row = some j → B1 ≤ j) (h6 : R6 < B1) (h7 : R7 < B1) (hp : Rp < B1) (hD : D0 < B1) (hS : S0 < B1) (hw : w.heap.size ≤ B1) : CW w B1 R6 R7 Rp D0 S0 idb hv W u' := by
  have hne : ∀ {r : Nat}, r < B1 → some r ≠ row := fun hr' e => by have := hB _ e.symm; omega
  have hsz := h.size
  refine ⟨h.bel.grown hg h.bel.size (fun k e => Nat.le_trans hw (hB k e)), h.kept.trans (KeepsOthers.row hg hr), ⟨(hg.block D0 (by omega) (hne hD)).trans h.kp.1, (hg.block S0 (by omega) (hne hS)).trans h.kp.2.1, ?_⟩, ?_, h.b7.kept hg (hne h7), h.raw.kept hg (hne hp), Nat.le_trans h.size hg.size⟩
  · exact h.kp.2.2.grown hg (Nat.le_trans hw h.size) (fun k e => Nat.le_trans hw (hB k e))
  · obtain ⟨v, hb⟩ := h.b6; exact ⟨v, hb.kept hg (hne h6)⟩

theorem CW.set6 {w : World} {B1 R6 R7 Rp D0 S0 : Nat} {idb : List UInt8} {hv : Value} {W u : World} (h : CW w B1 R6 R7 Rp D0 S0 idb hv W u) (v : Value) (hw : w.heap.size ≤ R6) (h7 : R7 ≠ R6) (hp : Rp ≠ R6) (hD : D0 ≠ R6) (hS : S0 ≠ R6) : CW w B1 R6 R7 Rp D0 S0 idb hv W (u.setCell ⟨R6, 0, none⟩ v) := by
  obtain ⟨v0, hb⟩ := h.b6
  exact ⟨h.bel.setCell hw _, h.kept.trans (KeepsOthers.setCell _ _ _), ⟨(Below.heap_setCell u ⟨R6, 0, none⟩ v D0 hD).trans h.kp.1, (Below.heap_setCell u ⟨R6, 0, none⟩ v S0 hS).trans h.kp.2.1, h.kp.2.2.setCell hw _⟩,
    ⟨v, by simpa using hb.set_ 0 v⟩, h.b7.far (p := ⟨R6, 0, none⟩) h7 _, h.raw.far (p := ⟨R6, 0, none⟩) hp _, by have := h.size; simpa [World.setCell] using this⟩

set_option maxHeartbeats 1000000 in
theorem write_ok (id : Nat) (A : Option Addr) (data : List UInt8) (c seg : Nat) (w : World) (hid : id < 65536) (hdl : data.length ≤ 2048) (s1 : 1 ≤ seg) (s2 : seg ≤ 2048) (hfit : data.length ≤ seg * 64) (hle : data.length ≤ c) (hc : c ≤ 9223372036854775807)
    (hbs : Bs w w.heap.size A data) (R : List UInt8) (hR : Hid (R = segsL (putL id 2) (piecesL seg data.length data))) :
    Calls Try.prog 11 #[.agg #[.int .i64 id, .slice A data.length c], .int .i64 seg] w (OutB w (R, 0)) := by
  refine (callsIn_wide (n := 9)).1 ?_
  refine callsIn_of_wp_marks Try.func11 rfl trivial ?_ rfl
  simp only [Try.ntmps11, List.size_toArray, List.length_cons, List.length_nil, Nat.reduceAdd, Nat.reduceSub, Array.replicate_succ, Array.replicate_zero, List.push_toArray, List.append_toArray, List.nil_append, List.cons_append]
  gi_wp2_with fail
  refine ⟨trivial, ((callsIn_wide).2 (pair_any id _ hid)).mono ?_⟩
  rintro e w1 ⟨rfl, hraw1, hb1⟩
  obtain ⟨W0, hW0⟩ : ∃ W0, W0 = (w.alloc (.cells #[.int .i64 id, .slice A data.length c] 24)).alloc (.cells #[.slice none 0 0] 22) := ⟨_, rfl⟩
  rw [← hW0] at hraw1 hb1
  have hz0 : W0.heap.size = w.heap.size + 2 := by rw [hW0]; simp
  have hv0 : Blk W0 w.heap.size 24 #[.int .i64 id, .slice A data.length c] := by rw [hW0]; exact (Blk.new _ _ _).alloc _
  have hb6 : Blk W0 (w.heap.size + 1) 22 #[.slice none 0 0] := by
    rw [hW0]; have := Blk.new (w.alloc (.cells #[.int .i64 id, .slice A data.length c] 24)) 22 #[.slice none 0 0]; rwa [World.size_alloc] at this
  have hbW0 : Below w.heap.size w W0 := by rw [hW0]; exact bt (ba _ _) (ba _ _)
  rw [show ((w.alloc (.cells #[.int .i64 id, .slice A data.length c] 24)).alloc (.cells #[.slice none 0 0] 22)).heap.size = w.heap.size + 2 by simp]
  rw [hz0] at hraw1
  have hb1w := bt hbW0 hb1
  have hv1 := hv0.below hb1 hv0.lt
  have hb61 := hb6.below hb1 hb6.lt
  have hlt1 := hraw1.lt
  clear hW0 hv0 hb6 hb1 hbW0 hz0
  -- the head's box
  have hv2 := hv1.alloc (.cells #[.slice (some ⟨w.heap.size + 2, 0, none⟩) 2 2] 22)
  have hb62 := hb61.alloc (.cells #[.slice (some ⟨w.heap.size + 2, 0, none⟩) 2 2] 22)
  have hb72 := Blk.new w1 22 #[.slice (some ⟨w.heap.size + 2, 0, none⟩) 2 2]
  have hraw2 := hraw1.alloc (.cells #[.slice (some ⟨w.heap.size + 2, 0, none⟩) 2 2] 22)
  have hb2w := hb1w.alloc hb1w.size (.cells #[.slice (some ⟨w.heap.size + 2, 0, none⟩) 2 2] 22)
  have v0 := hv2.cell 0
  have v1 := hv2.cell 1
  simp only [List.getElem?_toArray, List.getElem?_cons_zero, List.getElem?_cons_succ] at v0 v1
  gi_wp2_with fail
  refine ⟨trivial, ((callsIn_wide).2 (pieces_any A data.length c seg _)).mono ?_⟩
  rintro e w3 ⟨rfl, hD3, hS3, hb3, hz3⟩
  rw [World.size_alloc] at hD3 hS3 hz3
  have hb63 := hb62.below hb3 hb62.lt
  have hb73 := hb72.below hb3 hb72.lt
  have hraw3 := hraw2.below hb3 hraw2.lt
  have hb3w := bt hb2w hb3
  rw [World.size_alloc]
  clear hb3 hb62 hb72 hraw2 hb2w v0 v1 hv2 hv1 hb61 hb1w hraw1
  gi_wp2_with fail
  have hR6 : w.heap.size + 1 < w1.heap.size := by omega
  have hidb : (putL id 2).length = 2 := putL_length _ _
  refine wpIn_rangeFunc_cells (F := Fence.wide) rfl (by omega) (gf := 25) (lb := #[.pointer (some ⟨w1.heap.size + 1, 0, none⟩), .pointer (some ⟨w1.heap.size + 1 + 1, 0, none⟩)]) rfl trivial (enters_of Try.func25 (by kernel_rfl) rfl)
    (encs := encP (w := w)) (fun _ => rfl) (KpP w (w1.heap.size + 1) (w1.heap.size + 1 + 1)) (fun pre W => WI w w3.heap.size (w.heap.size + 1) w1.heap.size (w.heap.size + 2) (putL id 2) (pre.map conP) W) (fun xs => xs.map conP = piecesL seg data.length data) (data.length + 1)
    (fun h k => ⟨k.1.trans h.1, k.2.1.trans h.2.1, RowKit.Below.trans h.2.2 k.2.2⟩)
    (fun W l o o' hl ho hoc => ⟨World.putObj_heap_other (by omega), World.putObj_heap_other (by omega), (Below.refl w.heap.size W).grown (grownBy_putObj' W l o') (by have := (Array.getElem?_eq_some_iff.1 ho).1; omega) (fun k e => by cases e; omega)⟩)
    (fun s W l o o' hi hl ho hoc => hi.put (by omega) (by omega) (by omega) (by omega) o' ho hoc hl)
    (fun o o' => WI.alloc (WI.alloc ⟨hb3w, Nat.le_refl _, ⟨none, 0, hb63, Own.nil⟩, ⟨some ⟨w.heap.size + 2, 0, none⟩, 2, by rw [show (hdOf (putL id 2) (List.map conP ([] : List (PVal w)))).length = 2 from hidb]; exact hb73, .inr ⟨rfl, rfl⟩⟩, hraw3⟩ _) _)
    ?iter ?a1 ?assign ?body ?done
  case iter =>
    intro l W1 Z hZ hbW1 hi hz hY
    have hstep := pieces1_in Fence.wide 8 trivial rfl (by omega) l (w1.heap.size + 1) (w1.heap.size + 1 + 1) seg A data c w s1 s2 hdl hle hc hbs
      (fun s W => WI w w3.heap.size (w.heap.size + 1) w1.heap.size (w.heap.size + 2) (putL id 2) (s.map conP) W ∧ Z W)
      (fun s W v h => ⟨h.1.far (by omega) (by omega) (by omega) (by omega) (by omega) v, hZ _ _ _ h.2⟩)
      (fun pre x W hJ hl => (hY pre x W hJ.1 hJ.2 hl).mono fun e w' h => ⟨h.1, ⟨h.2.1, h.2.2.1⟩, h.2.2.2⟩)
      W1 (hD3.below hbW1 (by omega)) (hS3.below hbW1 (by omega)) hi.bel (by omega) (by omega) ⟨hi, hz⟩
    exact hstep.mono fun e W' h => ⟨h.1, h.2.choose, h.2.choose_spec.1, h.2.choose_spec.2.1, h.2.choose_spec.2.2⟩
  case assign =>
    intro l x W K hK
    simp [encP]
    gi_wp2
    exact hK
  case body =>
    intro l pre x W hi hlen
    obtain ⟨bel, hsz, ⟨Ao, co, hb6, hown⟩, ⟨Ah, ch, hb7, hhd⟩, hraw⟩ := hi
    have hOl := segsL_len (pre.map conP) (putL id 2) (by omega) (fun y hy => by obtain ⟨z, _, rfl⟩ := List.mem_map.1 hy; exact z.2.2)
    rw [List.length_map] at hOl
    have hhl := hdOf_len (putL id 2) (pre.map conP) hidb
    obtain ⟨O, hO⟩ : ∃ O, O = segsL (putL id 2) (pre.map conP) := ⟨_, rfl⟩
    obtain ⟨hd, hhdE⟩ : ∃ hd, hd = hdOf (putL id 2) (pre.map conP) := ⟨_, rfl⟩
    rw [← hO] at hb6 hown hOl
    rw [← hhdE] at hb7 hhd hhl
    have HO := Lib.hid hO
    have Hhd := Lib.hid hhdE
    have Hhd2 := Lib.hid hhd
    have Hidb := Lib.hid hidb
    clear hO hhdE hhd hidb
    obtain ⟨⟨xA, xl, xc, xlast⟩, hxb, hxl⟩ := x
    simp only at hxb hxl
    obtain ⟨L, hL⟩ : ∃ L, L = 2 + hd.length + xl.length + (if xlast = true then 0 else 32768) := ⟨_, rfl⟩
    have hLl : L < 65536 := by rw [hL]; split <;> omega
    have HL := Lib.hid hL
    clear hL
    have c6 := hb6.cell 0
    have f6 := hb6.frozen 0
    have c7 := hb7.cell 0
    have f7 := hb7.frozen 0
    simp only [List.getElem?_toArray, List.getElem?_cons_zero] at c6 c7
    obtain ⟨i0, hi, hz0, hz1, hz2⟩ := info_parts Try.infoU8
    cases xlast
    · have HL2 : Hid (2 + (hd.length : Int) + (xl.length : Int) + 32768 = (L : Int)) := Lib.hid (by rw [HL.out]; simp)
      gi_wp2_with fail
      rw [HL2.out]
      clear c6 c7 f6
      refine wpIn_region_inv (Fc := Fence.wide.inRound l) (fun _ => trivial) (F := ?Fa) (VW w3.heap.size (w.heap.size + 1) L Ao co O) deadW needW (TW w3.heap.size (w.heap.size + 1) Ao co O) (CW w w3.heap.size (w.heap.size + 1) w1.heap.size (w.heap.size + 2) (w1.heap.size + 1) (w1.heap.size + 1 + 1) (putL id 2) (.slice Ah hd.length ch) W) (EW w3.heap.size (w.heap.size + 1) Ao) (by kernel_rfl) (by kernel_rfl) (by kernel_rfl) (by kernel_rfl) (fun x => ?hFa) (VW.mono (by omega)) (TW.mono (by omega)) ?hTa ?hCa ?stepa ?fina
      case hFa => simp only [mkA, Act.put, List.setIfInBounds_toArray, List.set_cons_succ, List.set_cons_zero, Nat.reduceAdd, Nat.zero_add]; with_reducible rfl
      case hTa =>
        intro j
        unfold TW
        split
        · exact hb6
        · exact hown.drew
        · trivial
      case hCa => exact ⟨bt bel (gr_drew _), KeepsOthers.drew W, ⟨rfl, rfl, (gr_drew W).mono bel.size⟩, ⟨_, hb6⟩, hb7, hraw, hsz⟩
      case stepa =>
        refine AllOps.cons (fun x' u hC hT hp K hK => ?_) ?_
        · clear hp
          have c6 := (show Blk u _ _ _ from hT).cell 0
          simp only [List.getElem?_toArray, List.getElem?_cons_zero] at c6
          go_simp
          refine hK _ _ _ hC (World.grownBy.refl u none) (by exact rfl) ?_
          simp only [Act.put, List.setIfInBounds_toArray, List.set_cons_succ, List.set_cons_zero]
        refine AllOps.cons (fun x' u hC hT hp K hK => ?_) ?_
        · clear hp hT
          go_simp
          refine hK _ _ _ hC (World.grownBy.refl u none) (by exact rfl) ?_
          simp only [Act.put, List.setIfInBounds_toArray, List.set_cons_succ, List.set_cons_zero]
        refine AllOps.cons (fun x' u hC hT hp K hK => ?_) ?_
        · have h1 : x' 1 = .int .i64 L := hp.1 rfl (.inl rfl)
          clear hp hT
          go_simp
          refine ⟨trivial, (CallsIn.inRound l ((callsIn_wide).2 (pair_any L u hLl))).mono ?_⟩
          rintro e wA ⟨rfl, hrA, hbA⟩
          have hgA : u.grownBy wA none := ⟨hbA.os, hbA.tape, hbA.output, hbA.size, fun i hi _ => hbA.block i hi⟩
          refine hK _ _ _ (hC.step hgA (fun j e => by cases e) (fun j e => by cases e) (by omega) (by omega) (by omega) (by omega) (by omega) (by omega)) hgA ⟨_, rfl, hrA, hC.size⟩ ?_
          simp only [Act.put, List.setIfInBounds_toArray, List.set_cons_succ, List.set_cons_zero, h1]
        refine AllOps.cons (fun x' u hC hT hp K hK => ?_) ?_
        · have h0 : x' 0 = .slice Ao O.length co := hp.1 rfl (.inl rfl)
          obtain ⟨g, h2, hrg, hBg⟩ := hp.2.1 rfl (.inr rfl)
          clear hp
          have hT3 : Own u w3.heap.size 5 Ao co O := hT
          refine stepIn_append_bs (fun _ => trivial) u rfl (.tmp 59) (.tmp 61) 22 rfl w3.heap.size 5 i0 _ Try.underlying22 hi hz0 hz1 hz2 rfl Ao co O O.length h0 rfl hT3 _ (some ⟨g, 0, none⟩) 2 (putL L 2) 2 h2 (by rw [putL_length]) (hrg.bs hrg.lt) (by rw [putL_length]; omega) hC.size ?_
          intro A2 c2 wA own2 hgA _
          exact hK _ _ _ (hC.step hgA hT3.cells (fun j e => (hT3.lt j e).1) (by omega) (by omega) (by omega) (by omega) (by omega) (by omega)) ⟨hgA, fun j e => (hT3.lt j e).1⟩ ⟨A2, c2, rfl, own2⟩ rfl
        refine AllOps.cons (fun x' u hC hT hp K hK => ?_) ?_
        · obtain ⟨A2, c2, h3, own2⟩ := hp.1 rfl (.inr rfl)
          clear hp hT
          obtain ⟨v6, hb6u⟩ := hC.b6
          have c6 := hb6u.cell 0
          have f6 := hb6u.frozen 0
          simp only [List.getElem?_toArray, List.getElem?_cons_zero] at c6
          go_simp
          have hgA := gset u (w.heap.size + 1) 0 (.slice A2 (O.length + 2) c2)
          refine hK undef _ _ (hC.set6 _ (by omega) (by omega) (by omega) (by omega) (by omega)) hgA ⟨A2, c2, by simpa using hb6u.set_ 0 (.slice A2 (O.length + 2) c2), own_row (R6 := w.heap.size + 1) (by omega) hgA (.inr rfl) own2⟩ ?_
          simp only [Act.put, h3]
        exact AllOps.nil
      case fina =>
        intro x' u hC hV
        obtain ⟨A2, c2, q6, own2⟩ := hV 4 (by decide) rfl
        clear hV
        have c6 := q6.cell 0
        have f6 := q6.frozen 0
        have c7 := hC.b7.cell 0
        have f7 := hC.b7.frozen 0
        simp only [List.getElem?_toArray, List.getElem?_cons_zero] at c6 c7
        have hbsH : Bs u u.heap.size Ah hd := by
          rcases Hhd2.out with h | ⟨h1, h2⟩
          · rw [h]; exact Bs.nil
          · rw [h1, h2]; exact hC.raw.bs hC.raw.lt
        have hcell2 := own2.cells
        have hlt2 : ∀ j, blk A2 = some j → w3.heap.size ≤ j := fun j e => (own2.lt j e).1
        gi_wp2_with (first
          | (gi_at_builtin
             refine wpListIn_append_bs (fun _ => trivial) rfl (.tmp 63) (.tmp 64) 22 rfl w3.heap.size 5 i0 _ Try.underlying22 hi hz0 hz1 hz2 rfl A2 c2 (O ++ putL L 2) (O.length + 2) rfl (by rw [List.length_append, putL_length]) own2 _ Ah ch hd hd.length rfl rfl hbsH (by rw [List.length_append, putL_length]; omega) hC.size ?_
             intro A3 c3 u2 own3 hg3 _
             have hC2 := hC.step hg3 hcell2 hlt2 (by omega) (by omega) (by omega) (by omega) (by omega) (by omega)
             have q62 := q6.kept hg3 (fun e => by have := hlt2 _ e.symm; omega)
             clear c6 f6 c7 f7
             have c6 := q62.cell 0
             have f6 := q62.frozen 0
             have c7 := hC2.b7.cell 0
             have f7 := hC2.b7.frozen 0
             simp only [List.getElem?_toArray, List.getElem?_cons_zero] at c6 c7
             have hC3 := hC2.set6 (.slice A3 (O.length + 2 + hd.length) c3) (by omega) (by omega) (by omega) (by omega) (by omega)
             have own3' := own_row (R6 := w.heap.size + 1) (by omega) (gset u2 (w.heap.size + 1) 0 (.slice A3 (O.length + 2 + hd.length) c3)) (.inr rfl) own3
             have hbsX := (hxb.below hC3.bel).more hC3.bel.size
             have q63 := q62.set_ 0 (.slice A3 (O.length + 2 + hd.length) c3)
             have hcell3 := own3'.cells
             have hlt3 : ∀ j, blk A3 = some j → w3.heap.size ≤ j := fun j e => (own3'.lt j e).1)
          | (gi_at_builtin
             refine wpListIn_append_bs (fun _ => trivial) rfl (.tmp 66) (.tmp 67) 22 rfl w3.heap.size 5 i0 _ Try.underlying22 hi hz0 hz1 hz2 rfl A3 c3 (O ++ putL L 2 ++ hd) (O.length + 2 + hd.length) rfl (by rw [List.length_append, List.length_append, putL_length]) own3' _ xA xc xl xl.length rfl rfl hbsX (by rw [List.length_append, List.length_append, putL_length]; omega) hC3.size ?_
             intro A4 c4 u4 own4 hg4 _
             have hC4 := hC3.step hg4 hcell3 hlt3 (by omega) (by omega) (by omega) (by omega) (by omega) (by omega)
             have q64 := q63.kept hg4 (fun e => by have := hlt3 _ e.symm; omega)
             clear c6 f6 c7 f7
             have c6 := q64.cell 0
             have f6 := q64.frozen 0
             have c7 := hC4.b7.cell 0
             have f7 := hC4.b7.frozen 0
             simp at c6 c7))
        have hC5 := hC4.set6 (.slice A4 (O.length + 2 + hd.length + xl.length) c4) (by omega) (by omega) (by omega) (by omega) (by omega)
        have q65 := q64.set_ 0 (.slice A4 (O.length + 2 + hd.length + xl.length) c4)
        have own5 := own_row (R6 := w.heap.size + 1) (by omega) (gset u4 (w.heap.size + 1) 0 (.slice A4 (O.length + 2 + hd.length + xl.length) c4)) (.inr rfl) own4
        have own6 := own_row (R6 := w1.heap.size) (by omega) (gset (u4.setCell ⟨w.heap.size + 1, 0, none⟩ (.slice A4 (O.length + 2 + hd.length + xl.length) c4)) w1.heap.size 0 (.slice none 0 0)) (.inr rfl) own5
        have hcont : segsL (putL id 2) ((pre ++ [mkP xA xl xc false hxb hxl]).map conP) = O ++ putL L 2 ++ hd ++ xl := by
          rw [List.map_append, List.map_cons, List.map_nil, segsL_snoc, ← HO.out, ← Hhd.out]
          rw [conP_mkP]
          simp only [segOf]
          rw [← HL.out]
          simp only [List.append_assoc]
        have hhs : hdOf (putL id 2) ((pre ++ [mkP xA xl xc false hxb hxl]).map conP) = [] := by
          rw [List.map_append, List.map_cons, List.map_nil, hdOf_snoc]
        have hcl : (O ++ putL L 2 ++ hd ++ xl).length = O.length + 2 + hd.length + xl.length := by simp only [List.length_append, putL_length]
        refine ⟨hC5.kept.trans (KeepsOthers.setCell _ _ _), ⟨(Below.heap_setCell _ ⟨w1.heap.size, 0, none⟩ _ (w1.heap.size + 1) (by show w1.heap.size + 1 ≠ w1.heap.size; omega)).trans hC5.kp.1, (Below.heap_setCell _ ⟨w1.heap.size, 0, none⟩ _ (w1.heap.size + 1 + 1) (by show w1.heap.size + 1 + 1 ≠ w1.heap.size; omega)).trans hC5.kp.2.1, hC5.kp.2.2.setCell (p := ⟨w1.heap.size, 0, none⟩) (by show w.heap.size ≤ w1.heap.size; omega) _⟩,
          ⟨hC5.bel.setCell (p := ⟨w1.heap.size, 0, none⟩) (by show w.heap.size ≤ w1.heap.size; omega) _, by have := hC5.size; simpa [World.setCell] using this, ⟨A4, c4, ?_, ?_⟩, ⟨none, 0, ?_, .inl hhs⟩, hC5.raw.far (p := ⟨w1.heap.size, 0, none⟩) (by show w.heap.size + 2 ≠ w1.heap.size; omega) _⟩⟩
        · show Blk _ _ _ #[.slice A4 (segsL (putL id 2) ((pre ++ [mkP xA xl xc false hxb hxl]).map conP)).length c4]
          rw [hcont, hcl]
          simpa using q65.far (p := ⟨w1.heap.size, 0, none⟩) (by show w.heap.size + 1 ≠ w1.heap.size; omega) (.slice none 0 0)
        · show Own _ _ _ _ _ (segsL (putL id 2) ((pre ++ [mkP xA xl xc false hxb hxl]).map conP))
          rw [hcont]
          exact own6
        · show Blk _ _ _ #[.slice none (hdOf (putL id 2) ((pre ++ [mkP xA xl xc false hxb hxl]).map conP)).length 0]
          rw [hhs]
          simpa using hC5.b7.set_ 0 (.slice none 0 0)
    · have HL2 : Hid (2 + (hd.length : Int) + (xl.length : Int) = (L : Int)) := Lib.hid (by rw [HL.out]; simp)
      gi_wp2_with fail
      rw [HL2.out]
      clear c6 c7 f6
      refine wpIn_region_inv (Fc := Fence.wide.inRound l) (fun _ => trivial) (F := ?Fb) (VW w3.heap.size (w.heap.size + 1) L Ao co O) deadW needW (TW w3.heap.size (w.heap.size + 1) Ao co O) (CW w w3.heap.size (w.heap.size + 1) w1.heap.size (w.heap.size + 2) (w1.heap.size + 1) (w1.heap.size + 1 + 1) (putL id 2) (.slice Ah hd.length ch) W) (EW w3.heap.size (w.heap.size + 1) Ao) (by kernel_rfl) (by kernel_rfl) (by kernel_rfl) (by kernel_rfl) (fun x => ?hFb) (VW.mono (by omega)) (TW.mono (by omega)) ?hTb ?hCb ?stepb ?finb
      case hFb => simp only [mkA, Act.put, List.setIfInBounds_toArray, List.set_cons_succ, List.set_cons_zero, Nat.reduceAdd, Nat.zero_add]; with_reducible rfl
      case hTb =>
        intro j
        unfold TW
        split
        · exact hb6
        · exact hown.drew
        · trivial
      case hCb => exact ⟨bt bel (gr_drew _), KeepsOthers.drew W, ⟨rfl, rfl, (gr_drew W).mono bel.size⟩, ⟨_, hb6⟩, hb7, hraw, hsz⟩
      case stepb =>
        refine AllOps.cons (fun x' u hC hT hp K hK => ?_) ?_
        · clear hp
          have c6 := (show Blk u _ _ _ from hT).cell 0
          simp only [List.getElem?_toArray, List.getElem?_cons_zero] at c6
          go_simp
          refine hK _ _ _ hC (World.grownBy.refl u none) (by exact rfl) ?_
          simp only [Act.put, List.setIfInBounds_toArray, List.set_cons_succ, List.set_cons_zero]
        refine AllOps.cons (fun x' u hC hT hp K hK => ?_) ?_
        · clear hp hT
          go_simp
          refine hK _ _ _ hC (World.grownBy.refl u none) (by exact rfl) ?_
          simp only [Act.put, List.setIfInBounds_toArray, List.set_cons_succ, List.set_cons_zero]
        refine AllOps.cons (fun x' u hC hT hp K hK => ?_) ?_
        · have h1 : x' 1 = .int .i64 L := hp.1 rfl (.inl rfl)
          clear hp hT
          go_simp
          refine ⟨trivial, (CallsIn.inRound l ((callsIn_wide).2 (pair_any L u hLl))).mono ?_⟩
          rintro e wA ⟨rfl, hrA, hbA⟩
          have hgA : u.grownBy wA none := ⟨hbA.os, hbA.tape, hbA.output, hbA.size, fun i hi _ => hbA.block i hi⟩
          refine hK _ _ _ (hC.step hgA (fun j e => by cases e) (fun j e => by cases e) (by omega) (by omega) (by omega) (by omega) (by omega) (by omega)) hgA ⟨_, rfl, hrA, hC.size⟩ ?_
          simp only [Act.put, List.setIfInBounds_toArray, List.set_cons_succ, List.set_cons_zero, h1]
        refine AllOps.cons (fun x' u hC hT hp K hK => ?_) ?_
        · have h0 : x' 0 = .slice Ao O.length co := hp.1 rfl (.inl rfl)
          obtain ⟨g, h2, hrg, hBg⟩ := hp.2.1 rfl (.inr rfl)
          clear hp
          have hT3 : Own u w3.heap.size 5 Ao co O := hT
          refine stepIn_append_bs (fun _ => trivial) u rfl (.tmp 59) (.tmp 61) 22 rfl w3.heap.size 5 i0 _ Try.underlying22 hi hz0 hz1 hz2 rfl Ao co O O.length h0 rfl hT3 _ (some ⟨g, 0, none⟩) 2 (putL L 2) 2 h2 (by rw [putL_length]) (hrg.bs hrg.lt) (by rw [putL_length]; omega) hC.size ?_
          intro A2 c2 wA own2 hgA _
          exact hK _ _ _ (hC.step hgA hT3.cells (fun j e => (hT3.lt j e).1) (by omega) (by omega) (by omega) (by omega) (by omega) (by omega)) ⟨hgA, fun j e => (hT3.lt j e).1⟩ ⟨A2, c2, rfl, own2⟩ rfl
        refine AllOps.cons (fun x' u hC hT hp K hK => ?_) ?_
        · obtain ⟨A2, c2, h3, own2⟩ := hp.1 rfl (.inr rfl)
          clear hp hT
          obtain ⟨v6, hb6u⟩ := hC.b6
          have c6 := hb6u.cell 0
          have f6 := hb6u.frozen 0
          simp only [List.getElem?_toArray, List.getElem?_cons_zero] at c6
          go_simp
          have hgA := gset u (w.heap.size + 1) 0 (.slice A2 (O.length + 2) c2)
          refine hK undef _ _ (hC.set6 _ (by omega) (by omega) (by omega) (by omega) (by omega)) hgA ⟨A2, c2, by simpa using hb6u.set_ 0 (.slice A2 (O.length + 2) c2), own_row (R6 := w.heap.size + 1) (by omega) hgA (.inr rfl) own2⟩ ?_
          simp only [Act.put, h3]
        exact AllOps.nil
      case finb =>
        intro x' u hC hV
        obtain ⟨A2, c2, q6, own2⟩ := hV 4 (by decide) rfl
        clear hV
        have c6 := q6.cell 0
        have f6 := q6.frozen 0
        have c7 := hC.b7.cell 0
        have f7 := hC.b7.frozen 0
        simp only [List.getElem?_toArray, List.getElem?_cons_zero] at c6 c7
        have hbsH : Bs u u.heap.size Ah hd := by
          rcases Hhd2.out with h | ⟨h1, h2⟩
          · rw [h]; exact Bs.nil
          · rw [h1, h2]; exact hC.raw.bs hC.raw.lt
        have hcell2 := own2.cells
        have hlt2 : ∀ j, blk A2 = some j → w3.heap.size ≤ j := fun j e => (own2.lt j e).1
        gi_wp2_with (first
          | (gi_at_builtin
             refine wpListIn_append_bs (fun _ => trivial) rfl (.tmp 63) (.tmp 64) 22 rfl w3.heap.size 5 i0 _ Try.underlying22 hi hz0 hz1 hz2 rfl A2 c2 (O ++ putL L 2) (O.length + 2) rfl (by rw [List.length_append, putL_length]) own2 _ Ah ch hd hd.length rfl rfl hbsH (by rw [List.length_append, putL_length]; omega) hC.size ?_
             intro A3 c3 u2 own3 hg3 _
             have hC2 := hC.step hg3 hcell2 hlt2 (by omega) (by omega) (by omega) (by omega) (by omega) (by omega)
             have q62 := q6.kept hg3 (fun e => by have := hlt2 _ e.symm; omega)
             clear c6 f6 c7 f7
             have c6 := q62.cell 0
             have f6 := q62.frozen 0
             have c7 := hC2.b7.cell 0
             have f7 := hC2.b7.frozen 0
             simp only [List.getElem?_toArray, List.getElem?_cons_zero] at c6 c7
             have hC3 := hC2.set6 (.slice A3 (O.length + 2 + hd.length) c3) (by omega) (by omega) (by omega) (by omega) (by omega)
             have own3' := own_row (R6 := w.heap.size + 1) (by omega) (gset u2 (w.heap.size + 1) 0 (.slice A3 (O.length + 2 + hd.length) c3)) (.inr rfl) own3
             have hbsX := (hxb.below hC3.bel).more hC3.bel.size
             have q63 := q62.set_ 0 (.slice A3 (O.length + 2 + hd.length) c3)
             have hcell3 := own3'.cells
             have hlt3 : ∀ j, blk A3 = some j → w3.heap.size ≤ j := fun j e => (own3'.lt j e).1)
          | (gi_at_builtin
             refine wpListIn_append_bs (fun _ => trivial) rfl (.tmp 66) (.tmp 67) 22 rfl w3.heap.size 5 i0 _ Try.underlying22 hi hz0 hz1 hz2 rfl A3 c3 (O ++ putL L 2 ++ hd) (O.length + 2 + hd.length) rfl (by rw [List.length_append, List.length_append, putL_length]) own3' _ xA xc xl xl.length rfl rfl hbsX (by rw [List.length_append, List.length_append, putL_length]; omega) hC3.size ?_
             intro A4 c4 u4 own4 hg4 _
             have hC4 := hC3.step hg4 hcell3 hlt3 (by omega) (by omega) (by omega) (by omega) (by omega) (by omega)
             have q64 := q63.kept hg4 (fun e => by have := hlt3 _ e.symm; omega)
             clear c6 f6 c7 f7
             have c6 := q64.cell 0
             have f6 := q64.frozen 0
             have c7 := hC4.b7.cell 0
             have f7 := hC4.b7.frozen 0
             simp at c6 c7))
        have hC5 := hC4.set6 (.slice A4 (O.length + 2 + hd.length + xl.length) c4) (by omega) (by omega) (by omega) (by omega) (by omega)
        have q65 := q64.set_ 0 (.slice A4 (O.length + 2 + hd.length + xl.length) c4)
        have own5 := own_row (R6 := w.heap.size + 1) (by omega) (gset u4 (w.heap.size + 1) 0 (.slice A4 (O.length + 2 + hd.length + xl.length) c4)) (.inr rfl) own4
        have own6 := own_row (R6 := w1.heap.size) (by omega) (gset (u4.setCell ⟨w.heap.size + 1, 0, none⟩ (.slice A4 (O.length + 2 + hd.length + xl.length) c4)) w1.heap.size 0 (.slice none 0 0)) (.inr rfl) own5
        have hcont : segsL (putL id 2) ((pre ++ [mkP xA xl xc true hxb hxl]).map conP) = O ++ putL L 2 ++ hd ++ xl := by
          rw [List.map_append, List.map_cons, List.map_nil, segsL_snoc, ← HO.out, ← Hhd.out]
          rw [conP_mkP]
          simp only [segOf]
          rw [← HL.out]
          simp only [List.append_assoc]
        have hhs : hdOf (putL id 2) ((pre ++ [mkP xA xl xc true hxb hxl]).map conP) = [] := by
          rw [List.map_append, List.map_cons, List.map_nil, hdOf_snoc]
        have hcl : (O ++ putL L 2 ++ hd ++ xl).length = O.length + 2 + hd.length + xl.length := by simp only [List.length_append, putL_length]
        refine ⟨hC5.kept.trans (KeepsOthers.setCell _ _ _), ⟨(Below.heap_setCell _ ⟨w1.heap.size, 0, none⟩ _ (w1.heap.size + 1) (by show w1.heap.size + 1 ≠ w1.heap.size; omega)).trans hC5.kp.1, (Below.heap_setCell _ ⟨w1.heap.size, 0, none⟩ _ (w1.heap.size + 1 + 1) (by show w1.heap.size + 1 + 1 ≠ w1.heap.size; omega)).trans hC5.kp.2.1, hC5.kp.2.2.setCell (p := ⟨w1.heap.size, 0, none⟩) (by show w.heap.size ≤ w1.heap.size; omega) _⟩,
          ⟨hC5.bel.setCell (p := ⟨w1.heap.size, 0, none⟩) (by show w.heap.size ≤ w1.heap.size; omega) _, by have := hC5.size; simpa [World.setCell] using this, ⟨A4, c4, ?_, ?_⟩, ⟨none, 0, ?_, .inl hhs⟩, hC5.raw.far (p := ⟨w1.heap.size, 0, none⟩) (by show w.heap.size + 2 ≠ w1.heap.size; omega) _⟩⟩
        · show Blk _ _ _ #[.slice A4 (segsL (putL id 2) ((pre ++ [mkP xA xl xc true hxb hxl]).map conP)).length c4]
          rw [hcont, hcl]
          simpa using q65.far (p := ⟨w1.heap.size, 0, none⟩) (by show w.heap.size + 1 ≠ w1.heap.size; omega) (.slice none 0 0)
        · show Own _ _ _ _ _ (segsL (putL id 2) ((pre ++ [mkP xA xl xc true hxb hxl]).map conP))
          rw [hcont]
          exact own6
        · show Blk _ _ _ #[.slice none (hdOf (putL id 2) ((pre ++ [mkP xA xl xc true hxb hxl]).map conP)).length 0]
          rw [hhs]
          simpa using hC5.b7.set_ 0 (.slice none 0 0)
  case done =>
    intro D xs W hD hS hi hK
    obtain ⟨bel, hsz, ⟨Ao, co, hb6, hown⟩, _, _⟩ := hi
    have hlt6 := hb6.lt
    have c6 := hb6.cell 0
    simp only [List.getElem?_toArray, List.getElem?_cons_zero] at c6
    rw [hS, ← hR.out] at c6 hown
    gi_wp2
    refine ⟨by simp, .inl ⟨_, _, rfl, run_takeDeferred hK, ?_⟩⟩
    refine ⟨_, by simp [results, Try.results11, go_sem], Ao, co, rfl, (hown.put _ hK rfl).base_le (by omega), ?_⟩
    exact bel.grown (grownBy_putObj' W D _) bel.size (fun k e => by cases e; omega)
end Go.Proofs.Ytoahmifmoekjoaa
