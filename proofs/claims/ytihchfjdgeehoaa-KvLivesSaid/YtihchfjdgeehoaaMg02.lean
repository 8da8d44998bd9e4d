/- Parts Blk Ka Kb of one proof. -/
import Derived.Test.YtihchfjdgeehoaaMg01
import Derived.Test.YtihchfjdgeehoaaProg
import Derived.DeepKeys4
import Derived.Maps.OwnSet
import Derived.Maps.RangeWalk
import Derived.Maps.Ext
namespace Go.Proofs.Ytihchfjdgeehoaa
open Go.RowKit
set_option linter.unusedVariables false

/-- A block that is known whole. -/
def Blk (w : World) (g : Nat) (t : TypeId) (cs : Array Value) : Prop := w.heap[g]? = some (.cells cs t (0, 0))
section
variable {w w' : World} {g : Nat} {t : TypeId} {cs : Array Value}
theorem Blk.lt (h : Blk w g t cs) : g < w.heap.size := (Array.getElem?_eq_some_iff.1 h).1
theorem Blk.cell (h : Blk w g t cs) (i : Nat) : w.cell? ⟨g, i, none⟩ = cs[i]? := cell_of_row w g i cs t (0, 0) h
theorem Blk.frozen (h : Blk w g t cs) (i : Nat) : w.frozen? ⟨g, i, none⟩ = false := frozen_of_row w g i cs t h
theorem Blk.new (w : World) (t : TypeId) (cs : Array Value) : Blk (w.alloc (.cells cs t)) w.heap.size t cs := heap_alloc_new w _
theorem Blk.alloc (h : Blk w g t cs) (o : Obj) : Blk (w.alloc o) g t cs := (Below.heap_alloc w o g h.lt).trans h
theorem Blk.set_ (h : Blk w g t cs) (i : Nat) (u : Value) : Blk (w.setCell ⟨g, i, none⟩ u) g t (cs.setIfInBounds i u) := heap_setCell_same w g i cs t u h
theorem Blk.far (h : Blk w g t cs) {p : Addr} (hp : g ≠ p.block) (u : Value) : Blk (w.setCell p u) g t cs := (Below.heap_setCell w p u g hp).trans h
theorem Blk.below {B : Nat} (h : Blk w g t cs) (hb : Below B w w') (hg : g < B) : Blk w' g t cs := (hb.block g hg).trans h
theorem Blk.kept {row : Option Nat} (h : Blk w g t cs) (hb : w.grownBy w' row) (hg : some g ≠ row) : Blk w' g t cs := (hb.block g h.lt hg).trans h
theorem Blk.ne_raw {g' : Nat} {e : TypeId} {L : List UInt8} (h : Blk w g t cs) (h' : Raw w g' e L) (hne : t ≠ e) : g ≠ g' := by
  rintro rfl
  unfold Blk at h
  unfold Raw at h'
  rw [h] at h'
  injection h' with h'
  injection h' with _ ht
  exact hne ht
theorem Blk.ne {g' : Nat} {t' : TypeId} {cs' : Array Value} (h : Blk w g t cs) (h' : Blk w g' t' cs') (hne : t ≠ t') : g ≠ g' := by
  rintro rfl
  unfold Blk at h h'
  rw [h] at h'
  injection h' with h'
  injection h' with _ ht
  exact hne ht
end

/-! ### Three cells, stored one after the other -/
section
variable {w : World} {g : Nat} {t : TypeId} {x' y' z' x y z : Value}
theorem Blk.set3 (h : Blk w g t #[x', y', z']) : Blk (((w.setCell ⟨g, 0, none⟩ x).setCell ⟨g, 1, none⟩ y).setCell ⟨g, 2, none⟩ z) g t #[x, y, z] := by
  simpa using ((h.set_ 0 x).set_ 1 y).set_ 2 z
theorem Blk.set3_0 (h : Blk w g t #[x', y', z']) : (w.setCell ⟨g, 0, none⟩ x).cell? ⟨g, 0, none⟩ = some x := by
  have := (h.set_ 0 x).cell 0
  simpa using this
theorem Blk.set3_1 (h : Blk w g t #[x', y', z']) : ((w.setCell ⟨g, 0, none⟩ x).setCell ⟨g, 1, none⟩ y).cell? ⟨g, 1, none⟩ = some y := by
  have := ((h.set_ 0 x).set_ 1 y).cell 1
  simpa using this
theorem Blk.set3_2 (h : Blk w g t #[x', y', z']) : (((w.setCell ⟨g, 0, none⟩ x).setCell ⟨g, 1, none⟩ y).setCell ⟨g, 2, none⟩ z).cell? ⟨g, 2, none⟩ = some z := by
  have := h.set3 (x := x) (y := y) (z := z) |>.cell 2
  simpa using this
end
theorem below_set3 {B : Nat} {a w : World} (h : Below B a w) {g : Nat} (hg : B ≤ g) (x y z : Value) : Below B a (((w.setCell ⟨g, 0, none⟩ x).setCell ⟨g, 1, none⟩ y).setCell ⟨g, 2, none⟩ z) :=
  ((h.setCell hg _).setCell hg _).setCell hg _

end Go.Proofs.Ytihchfjdgeehoaa

namespace Go.Proofs.Ytihchfjdgeehoaa
open Go.RowKit Go.Maps
set_option linter.unusedVariables false
set_option linter.unusedSimpArgs false

theorem Try.laidOutK : laidOutB Try.prog = true := by kernel_rfl
theorem Try.rowP : (99 : TypeId) < Try.prog.types.size := of_decide_eq_true (by kernel_rfl)
theorem Try.wideP : (match Try.prog.underlying 99 with | some (.array _ _) | some (.struct _) => true | _ => false) = true := by rw [Try.underlying99]
set_option maxRecDepth 1000000 in
/-- The keys' law. -/
theorem lawP : Keyed Try.prog 99 := Keyed.of_law (deep_law_laid Try.laidOutK (m := 2) (by omega) Try.rowP (by kernel_rfl) Try.wideP)
/-- How an element reads: a struct of one bool. -/
def holdElem {H : Type} (v : Value) : Option (DataW H × List MemPlace) := match v with
  | .agg cs => (match cs.toList with | [.bool a] => some (.lit (.bool a), []) | _ => none)
  | _ => none
theorem holdElem_mk {H : Type} (a : Bool) : holdElem (H := H) (.agg #[.bool a]) = some (.lit (.bool a), []) := rfl
/-- A key, and an owner, as a value. -/
def pv (k o : Int) : Value := .agg #[.int .i64 k, .int .i64 o]
/-- A table in block g: its map lies in block b and reads as D. -/
def TabAt {H : Type} (w : World) (g b n : Nat) (D : DataW H) : Prop := Blk w g 57 #[.map (some b)] ∧ w.ownsMap Try.prog 99 holdElem b n D
end Go.Proofs.Ytihchfjdgeehoaa

namespace Go.Proofs.Ytihchfjdgeehoaa
open Go.RowKit Go.Maps
set_option linter.unusedVariables false
set_option linter.unusedSimpArgs false

def i64ok (x : Int) : Prop := -9223372036854775808 ≤ x ∧ x ≤ 9223372036854775807
theorem wf_of_ok {x : Int} (h : i64ok x) : (Lit.int .i64 x).wf = true := by
  unfold i64ok at h
  simpa [Lit.wf, IntKind.min, IntKind.max, IntKind.signed, IntKind.bits] using h
theorem ok_of_wf {x : Int} (h : (Lit.int .i64 x).wf = true) : i64ok x := by
  unfold i64ok
  simpa [Lit.wf, IntKind.min, IntKind.max, IntKind.signed, IntKind.bits] using h

theorem keyTypeP : Try.prog.keyType 99 = true := by kernel_rfl
theorem cellsP : Try.prog.cellsOf 99 = 2 := by kernel_rfl
theorem cellsI : Try.prog.cellsOf 3 = 1 := by kernel_rfl
theorem sizeP : ∃ m, Try.prog.types.size = m + 1 := ⟨Try.prog.types.size - 1, by have : 1 < Try.prog.types.size := of_decide_eq_true (by kernel_rfl); omega⟩
theorem lits_int (d : Nat) (k : Int) (h : i64ok k) : Try.prog.keyLits (d + 1) 3 [.int .i64 k] = some [.int .i64 k] := by
  simp [Program.keyLits, Try.underlying3, wf_of_ok h]
theorem lits_pair (d : Nat) (k o : Int) (hk : i64ok k) (ho : i64ok o) : Try.prog.keyLits (d + 2) 99 [.int .i64 k, .int .i64 o] = some [.int .i64 k, .int .i64 o] := by
  have h1 := lits_int d k hk
  have h2 := lits_int d o ho
  simp [Program.keyLits, Try.underlying99, cellsP, cellsI, Try.underlying3, wf_of_ok hk, wf_of_ok ho]
def litP (k o : Int) : Lit := .string (keyBytes [.int .i64 k, .int .i64 o])
theorem keyOf_pv (k o : Int) (hk : i64ok k) (ho : i64ok o) : keyOf Try.prog 99 (pv k o) = some (litP k o) := by
  obtain ⟨m, hm⟩ := sizeP
  have h := lits_pair m k o hk ho
  simp [keyOf, Try.underlying99, keyTypeP, pv, Value.formed, cellsP, hm, Value.cells, h, litP]
theorem litP_inj {k o k' o' : Int} (hk : i64ok k) (ho : i64ok o) (hk' : i64ok k') (ho' : i64ok o') (h : litP k o = litP k' o') : k = k' ∧ o = o' := by
  have := lawP.inj (keyOf_pv k o hk ho) (h ▸ keyOf_pv k' o' hk' ho')
  simp [pv] at this
  exact this
theorem isKey (k o : Int) : WideAt.IsKeyLit (litP k o) := trivial
theorem sameKey_litP {k o k' o' : Int} (hk : i64ok k) (ho : i64ok o) (hk' : i64ok k') (ho' : i64ok o') : (litP k o).sameKey (litP k' o') = decide (k = k' ∧ o = o') := by
  by_cases h : k = k' ∧ o = o'
  · obtain ⟨rfl, rfl⟩ := h
    simp [litP, Lit.sameKey]
  · rw [decide_eq_false h]
    exact sameKey_ne (fun e => h (litP_inj hk ho hk' ho' e))
theorem lits_int_inv {d : Nat} {c : Value} {ls : List Lit} (h : Try.prog.keyLits (d + 1) 3 [c] = some ls) : ∃ k, c = .int .i64 k ∧ i64ok k ∧ ls = [.int .i64 k] := by
  cases c <;> simp [Program.keyLits, Try.underlying3] at h
  obtain ⟨⟨rfl, hw⟩, rfl⟩ := h
  exact ⟨_, rfl, ok_of_wf hw, rfl⟩
theorem lits_place (d : Nat) (c0 c1 : Value) : Try.prog.keyLits (d + 1) 99 [c0, c1] = ((Try.prog.keyLits d 3 [c0]).bind fun a => (Try.prog.keyLits d 3 [c1]).bind fun b => some (a ++ b)) := by
  simp [Program.keyLits, Try.underlying99, cellsP, cellsI]
  rcases Try.prog.keyLits d 3 [c0] with _ | a <;> rcases Try.prog.keyLits d 3 [c1] with _ | b <;> simp
theorem formed_inv {v : Value} (h : v.formed Try.prog 99 = true) : ∃ c0 c1, v = .agg #[c0, c1] := by
  cases v <;> simp [Value.formed, Try.underlying99, cellsP] at h
  rename_i cs
  obtain ⟨cs⟩ := cs
  match cs, h with
  | [c0, c1], _ => exact ⟨c0, c1, rfl⟩
theorem keyOf_inv {v : Value} {l : Lit} (h : keyOf Try.prog 99 v = some l) : ∃ x : Int × Int, v = pv x.1 x.2 ∧ i64ok x.1 ∧ i64ok x.2 ∧ l = litP x.1 x.2 := by
  obtain ⟨m, hm⟩ : ∃ m, Try.prog.types.size = m + 1 := sizeP
  have h0 := h
  simp only [keyOf, Try.underlying99, keyTypeP, Bool.true_and] at h
  split at h
  · rename_i hf
    obtain ⟨c0, c1, rfl⟩ := formed_inv hf
    rw [Option.map_eq_some_iff] at h
    obtain ⟨ls, hl, _⟩ := h
    rw [hm] at hl
    have hl2 : Try.prog.keyLits (m + 1 + 1) 99 [c0, c1] = some ls := hl
    rw [lits_place] at hl2
    rcases h1 : Try.prog.keyLits (m + 1) 3 [c0] with _ | l1
    · simp [h1] at hl2
    · rcases h2 : Try.prog.keyLits (m + 1) 3 [c1] with _ | l2
      · simp [h1, h2] at hl2
      · obtain ⟨k, rfl, hk, _⟩ := lits_int_inv h1
        obtain ⟨o, rfl, ho, _⟩ := lits_int_inv h2
        have := keyOf_pv k o hk ho
        unfold pv at this
        rw [h0] at this
        exact ⟨(k, o), rfl, hk, ho, Option.some.inj this⟩
  · cases h
theorem holdElem_inv {H : Type} {v : Value} {y : DataW H × List MemPlace} (h : holdElem v = some y) : ∃ c, v = .agg #[.bool c] ∧ y = (.lit (.bool c), []) := by
  cases v <;> simp only [holdElem] at h
  all_goals try cases h
  rename_i cs
  obtain ⟨cs⟩ := cs
  rcases cs with _ | ⟨c0, _ | ⟨c1, t⟩⟩
  · cases h
  · cases c0 <;> cases h
    exact ⟨_, rfl, rfl⟩
  · cases c0 <;> cases h
end Go.Proofs.Ytihchfjdgeehoaa
