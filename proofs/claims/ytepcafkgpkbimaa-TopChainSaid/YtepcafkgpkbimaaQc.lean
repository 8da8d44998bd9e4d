/- Through the layers: sides that meet; names. -/
import Derived.Test.YtepcafkgpkbimaaUi
import Derived.Test.YtepcafkgpkbimaaInvJ
namespace Go.Proofs.Ytepcafkgpkbimaa
open Go.RowKit
set_option linter.unusedVariables false
set_option linter.unusedSimpArgs false

/-- A row of numbers of 32 bits, whole. -/
def ArrU (w : World) (g : Nat) (t : TypeId) (N : Nat) (M : Nat → Int) : Prop := ∃ cs : Array Value, Blk w g t cs ∧ cs.size = N ∧ ∀ i, i < N → cs[i]? = some (.int .u32 (M i))
def updM (M : Nat → Int) (i : Nat) (z : Int) : Nat → Int := fun j => if j = i then z else M j
section
variable {w w' : World} {g : Nat} {t : TypeId} {N : Nat} {M : Nat → Int}
theorem ArrU.lt (h : ArrU w g t N M) : g < w.heap.size := h.choose_spec.1.lt
theorem ArrU.cell (h : ArrU w g t N M) (i : Nat) (hi : i < N) : w.cell? ⟨g, i, none⟩ = some (.int .u32 (M i)) := by
  obtain ⟨cs, h1, h2, h3⟩ := h
  rw [h1.cell, h3 i hi]
theorem ArrU.frozen (h : ArrU w g t N M) (i : Nat) : w.frozen? ⟨g, i, none⟩ = false := by
  obtain ⟨cs, h1, h2, h3⟩ := h
  exact h1.frozen i
theorem ArrU.below (h : ArrU w g t N M) (hb : Below w.heap.size w w') : ArrU w' g t N M := by
  obtain ⟨cs, h1, h2, h3⟩ := h
  exact ⟨cs, h1.below hb h1.lt, h2, h3⟩
theorem ArrU.kept {row : Option Nat} (h : ArrU w g t N M) (hg : w.grownBy w' row) (hr : some g ≠ row) : ArrU w' g t N M := by
  obtain ⟨cs, h1, h2, h3⟩ := h
  exact ⟨cs, h1.kept hg hr, h2, h3⟩
theorem ArrU.set_ (h : ArrU w g t N M) (i : Nat) (hi : i < N) (z : Int) : ArrU (w.setCell ⟨g, i, none⟩ (.int .u32 z)) g t N (updM M i z) := by
  obtain ⟨cs, h1, h2, h3⟩ := h
  refine ⟨_, h1.set_ i _, by simp [h2], fun j hj => ?_⟩
  unfold updM
  by_cases hji : j = i
  · subst hji
    rw [if_pos rfl, Array.getElem?_setIfInBounds_self_of_lt (by omega)]
  · rw [if_neg hji, Array.getElem?_setIfInBounds_ne (fun e => hji e.symm), h3 j hj]
theorem ArrU.congr {M' : Nat → Int} (h : ArrU w g t N M) (hm : ∀ i, i < N → M i = M' i) : ArrU w g t N M' := by
  obtain ⟨cs, h1, h2, h3⟩ := h
  exact ⟨cs, h1, h2, fun i hi => by rw [h3 i hi, hm i hi]⟩
end
theorem grown_setQ (w : World) (g i : Nat) (v : Value) : w.grownBy (w.setCell ⟨g, i, none⟩ v) (some g) := by
  have h := ((Below.refl 0 w).setCell (p := ⟨g, i, none⟩) (Nat.zero_le _) v)
  exact ⟨h.os, h.tape, h.output, h.size, fun k hk hne => Below.heap_setCell w _ v k (fun e => hne (by rw [e]))⟩

theorem oldB_false {r n : Int} : oldB r n = false ↔ (r = 0 ∨ r = n) := by
  unfold oldB
  rw [Bool.and_eq_false_iff]
  simp
/-- What is told behind an exchange of two that have names. -/
theorem after_two (ma sa mb sb : Int) (ha : ma ≠ 0) (hb : mb ≠ 0) : ∃ (xs ys : Int) (ok : Bool), (ok = ((sa == 0 || sa == mb) && (sb == 0 || sb == ma))) ∧ (ok = true → xs = mb ∧ ys = ma) ∧
    ∀ w : World, Calls Try.prog 10 #[.agg #[.int .u32 ma, .int .u32 sa, .bool false], .agg #[.int .u32 mb, .int .u32 sb, .bool false]] w fun o w' => o = .returned (.tuple #[.agg #[.int .u32 ma, .int .u32 xs, .bool false], .agg #[.int .u32 mb, .int .u32 ys, .bool false], .bool ok]) ∧ Below w.heap.size w w' := by
  have h0 : (ma == 0 || mb == 0) = false := by simp [ha, hb]
  have h0' : (mb == 0 || ma == 0) = false := by simp [ha, hb]
  by_cases h1 : oldB sa mb = true
  · have hf : ((sa == 0 || sa == mb) && (sb == 0 || sb == ma)) = false := by
      have : (sa == 0 || sa == mb) = false := by
        unfold oldB at h1; simp at h1; simp [h1.1, h1.2]
      rw [this]; rfl
    have c1 : checkM ma sa mb sb false = (3, 0) := by unfold checkM; rw [if_neg (by rw [h0]; simp), if_pos h1]
    have hy : ∃ y, checkM mb sb ma sa false = (y, 0) := by
      unfold checkM; rw [if_neg (by rw [h0']; simp)]
      repeat' split
      all_goals exact ⟨_, rfl⟩
    obtain ⟨y, hy⟩ := hy
    exact ⟨sa, sb, false, hf.symm, fun h => by simp at h, fun w => after_bad1 ma sa false mb sb false 3 y c1 hy (by decide) w⟩
  · by_cases h2 : oldB sb ma = true
    · have hf : ((sa == 0 || sa == mb) && (sb == 0 || sb == ma)) = false := by
        have : (sb == 0 || sb == ma) = false := by
          unfold oldB at h2; simp at h2; simp [h2.1, h2.2]
        rw [this, Bool.and_false]
      have c1 : checkM ma sa mb sb false = (4, 0) := by unfold checkM; rw [if_neg (by rw [h0]; simp), if_neg h1, if_pos h2]
      have hy : ∃ y, checkM mb sb ma sa false = (y, 0) := by
        unfold checkM; rw [if_neg (by rw [h0']; simp)]
        repeat' split
        all_goals exact ⟨_, rfl⟩
      obtain ⟨y, hy⟩ := hy
      exact ⟨sa, sb, false, hf.symm, fun h => by simp at h, fun w => after_bad1 ma sa false mb sb false 4 y c1 hy (by decide) w⟩
    · have g1 := oldB_false.1 (by simpa using h1)
      have g2 := oldB_false.1 (by simpa using h2)
      have hf : ((sa == 0 || sa == mb) && (sb == 0 || sb == ma)) = true := by
        rcases g1 with g1 | g1 <;> rcases g2 with g2 | g2 <;> simp [g1, g2]
      have c1 : ∃ x, checkM ma sa mb sb false = (x, 0) ∧ badB x = false := by
        unfold checkM; rw [if_neg (by rw [h0]; simp), if_neg h1, if_neg h2, if_neg (by simp)]
        split
        · exact ⟨2, rfl, by decide⟩
        · exact ⟨1, rfl, by decide⟩
      have c2 : ∃ x, checkM mb sb ma sa false = (x, 0) ∧ badB x = false := by
        unfold checkM; rw [if_neg (by rw [h0']; simp), if_neg h2, if_neg h1, if_neg (by simp)]
        split
        · exact ⟨2, rfl, by decide⟩
        · exact ⟨1, rfl, by decide⟩
      obtain ⟨x, hx, bx⟩ := c1
      obtain ⟨y, hy, by_⟩ := c2
      exact ⟨mb, ma, true, hf.symm, fun _ => ⟨rfl, rfl⟩, fun w => after_ok ma sa false mb sb false x y hx hy bx by_ w⟩
theorem and_lowQ (x : Int) (m : Nat) (hm : m ≤ 9223372036854775807) : ∃ q : Nat, q ≤ m ∧ bits .and .i64 x (m : Int) = (q : Int) := by
  have h : (BitVec.ofInt 64 (m : Int)).toNat = m := by rw [BitVec.toNat_ofInt]; omega
  have h2 : (BitVec.ofInt 64 x &&& BitVec.ofInt 64 (m : Int)).toNat ≤ m := by
    rw [BitVec.toNat_and, h]; exact Nat.and_le_right
  refine ⟨(BitVec.ofInt 64 x &&& BitVec.ofInt 64 (m : Int)).toNat, h2, ?_⟩
  show IntKind.i64.wrap (((BitVec.ofInt 64 x &&& BitVec.ofInt 64 (m : Int)).toNat : Nat) : Int) = _
  exact IntWalk.i64_in _ (by omega)
end Go.Proofs.Ytepcafkgpkbimaa
