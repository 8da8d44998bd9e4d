/- Layer 16: the laws' arguments, opened: a tree. -/
import Derived.Test.YtepcafkgpkbimaaOpen
import Derived.Test.YtepcafkgpkbimaaUf
import Derived.Deep.Slices
import Derived.Deep.SlicePairs
import Derived.Lib.SmallJoins
namespace Go.Proofs.Ytepcafkgpkbimaa
open Go.RowKit Go.ChangeShapes Go.WideShapes Go.Joins Go.Deep
set_option linter.unusedVariables false

theorem add_spotU {w : World} {a : Addr} {v : Value} (h : w.cell? a = some v) : ∃ b o, a = ⟨b, o, none⟩ ∧ b < w.heap.size := by
  have hs := World.cell?_spot h
  have hl := World.block_lt_of_cell? _ _ h
  obtain ⟨b, o, s⟩ := a
  simp only at hs hl
  subst hs
  exact ⟨b, o, rfl, hl⟩
section
variable {H : Type} {enc : TypeId × Value → H} {W : World}
theorem int_trodU {P : Program} {base : Nat} {spare : Nat → Bool} {held : Bool} {t : TypeId} {n : Nat} {v : Value} {y : DataW H × List MemPlace} (ht : P.underlying t = some (.int .i64)) (h : DataW.trod enc P W base spare held n t [v] = some y) :
    ∃ a : Int, v = .int .i64 a ∧ -9223372036854775808 ≤ a ∧ a ≤ 9223372036854775807 := by
  obtain ⟨a, e, _, hw⟩ := DataW.trod_int ht h
  simp at e
  exact ⟨a, e, i64_bd hw⟩
theorem kids_trod : ∀ (N : Nat) (d : DataW H), SizeOf.sizeOf d ≤ N → ∀ (fuel : Nat) (v : Value) (pl : List MemPlace), DataW.trod enc Try.prog W 0 (fun _ => true) true fuel 22 [v] = some (d, pl) →
    ∃ A k c, v = .slice A (Fo.len k) c ∧ TreeAt W A k := by
  intro N
  induction N with
  | zero => intro d hd; exfalso; cases d <;> simp at hd
  | succ N ih =>
    intro d hd fuel v pl h
    rcases open_slice_pairs Try.underlying22 Try.underlying24 (by kernel_rfl) (by kernel_rfl) (by kernel_rfl) (by kernel_rfl) (by kernel_rfl) h with ⟨hcs, _⟩ | ⟨a, len, cap, m, n, V0, V1, D0, D1, P0, P1, hcs, _, hl, hm, hmm, hx, hi⟩
    · simp at hcs
      subst hcs
      exact ⟨none, .nil, 0, rfl, by simp [Fo.len], trivial⟩
    · simp at hcs
      subst hcs
      simp only [if_true] at hmm
      subst hmm
      have hx1 := congrArg Prod.fst hx
      simp only at hx1
      have each : ∀ i, i < len → ∃ (z : Int) (A' : Option Addr) (k' : Fo) (c' : Nat), W.cell? (a.add (i * 2)) = some (.int .i64 z) ∧ W.cell? (a.add (i * 2 + 1)) = some (.slice A' k'.len c') ∧ TreeAt W A' k' := by
        intro i hlt
        obtain ⟨q0, q1, t0, t1⟩ := hi i (by omega)
        obtain ⟨z, hz, _, _⟩ := int_trodU Try.underlying3 t0
        have hsz : SizeOf.sizeOf (D1 i) ≤ N := by
          have hmem : DataW.agg [D0 i, D1 i] ∈ (List.range len).map fun i => DataW.agg [D0 i, D1 i] := List.mem_map.2 ⟨i, List.mem_range.2 hlt, rfl⟩
          have h1 := List.sizeOf_lt_of_mem hmem
          rw [hx1] at hd
          simp only [DataW.slice.sizeOf_spec] at hd
          simp only [DataW.agg.sizeOf_spec, List.cons.sizeOf_spec, List.nil.sizeOf_spec] at h1
          omega
        obtain ⟨A', k', c', e, ht⟩ := ih (D1 i) hsz _ _ _ t1
        exact ⟨z, A', k', c', by rw [q0, hz], by rw [q1, e], ht⟩
      have build : ∀ j, j ≤ len → ∃ k : Fo, k.len = j ∧ (0 < len → ∃ b o, a = ⟨b, o, none⟩ ∧ b < W.heap.size ∧ FoAt W W.heap.size k (some ⟨b, o + (len - j) * 2, none⟩)) := by
        intro j
        induction j with
        | zero =>
          intro _
          refine ⟨.nil, rfl, fun hp => ?_⟩
          obtain ⟨z, _, _, _, h0, _⟩ := each 0 hp
          rw [show a.add (0 * 2) = a by simp [Addr.add]] at h0
          obtain ⟨b, o, e, hlt⟩ := add_spotU h0
          exact ⟨b, o, e, hlt, trivial⟩
        | succ j ihj =>
          intro hj
          obtain ⟨k, hk, hf⟩ := ihj (by omega)
          obtain ⟨z, A', k', c', h0, h1, ht⟩ := each (len - (j + 1)) (by omega)
          refine ⟨.cons z k' k, by simp [Fo.len, hk], fun hp => ?_⟩
          obtain ⟨b, o, rfl, hlt, hf2⟩ := hf hp
          rw [Addr.add_lit] at h0 h1
          refine ⟨b, o, rfl, hlt, b, o + (len - (j + 1)) * 2, A', c', rfl, hlt, h0, h1, ht.len, ht.fo, ?_⟩
          rw [show o + (len - (j + 1)) * 2 + 2 = o + (len - j) * 2 by omega]
          exact hf2
      obtain ⟨k, hk, hf⟩ := build len (Nat.le_refl _)
      refine ⟨some a, k, _, by rw [hk], by rw [hk]; omega, ?_⟩
      cases k with
      | nil => trivial
      | cons z k' r =>
        obtain ⟨b, o, rfl, _, hf2⟩ := hf (by simp [Fo.len] at hk; omega)
        simpa using hf2

structure NodeV where
  v : Int
  A : Option Addr
  k : Fo
  c : Nat
def NodeV.val (o : NodeV) : Value := .agg #[.int .i64 o.v, .slice o.A o.k.len o.c]
structure NodeOk (W : World) (o : NodeV) : Prop where
  v1 : -9223372036854775808 ≤ o.v
  v2 : o.v ≤ 9223372036854775807
  t : TreeAt W o.A o.k
theorem open_node {r : Reach} {b0 : Nat} {v : Value} {d : DataW H} {p : List MemPlace} (hval : Value.okWide Try.prog W r b0 24 v) (h : DataW.Trod enc Try.prog W 0 (fun _ => true) true 24 v d p) :
    ∃ o : NodeV, v = o.val ∧ NodeOk W o := by
  obtain ⟨v0, v1, y0, y1, n, rfl, _, _, h0, h1⟩ := open_agg2 Try.underlying24 (by kernel_rfl) (by kernel_rfl) hval h
  obtain ⟨z, rfl, z1, z2⟩ := int_trodU Try.underlying3 h0
  obtain ⟨A, k, c, rfl, ht⟩ := kids_trod _ _ (Nat.le_refl _) _ _ _ h1
  exact ⟨⟨z, A, k, c⟩, rfl, z1, z2, ht⟩
end
end Go.Proofs.Ytepcafkgpkbimaa
