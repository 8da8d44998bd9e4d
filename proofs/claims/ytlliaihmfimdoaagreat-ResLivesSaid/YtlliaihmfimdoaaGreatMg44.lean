/- Parts OpenRd of one proof. -/
import Derived.Test.YtlliaihmfimdoaaGreatMg14
import Derived.Test.YtlliaihmfimdoaaGreatMg43
namespace Go.Proofs.YtlliaihmfimdoaaGreat.Re
open Go.RowKit Go.ChangeShapes Go.WideShapes Go.Joins Go.Deep Go.Proofs.YtlliaihmfimdoaaGreat
set_option linter.unusedVariables false
set_option linter.unusedSimpArgs false
def CapOk (o : OpV) : Prop := o.l.length ≤ o.c ∧ o.c ≤ 9223372036854775807
section
variable {H : Type} {enc : TypeId × Value → H} {W : World}
theorem slice_cap {t e : TypeId} {fuel n c : Nat} {A : Option Addr} {x : DataW H × List MemPlace} (ht : Tryz.prog.underlying t = some (.slice e)) (h : DataW.trod enc Tryz.prog W 0 (fun _ => true) true fuel t [.slice A n c] = some x) : n ≤ c ∧ c ≤ 9223372036854775807 := by
 rcases open_slice ht h with ⟨hcs, _⟩ | ⟨a, len, cap, m, n', D, Pl, hcs, _, hl, hm, _⟩
 ·simp at hcs
  omega
 ·simp at hcs
  obtain ⟨_, rfl, rfl⟩ := hcs
  unfold maxLen at hm
  exact ⟨hl, hm⟩
end
section
variable {H : Type} {enc : TypeId × Value → H} {W : World}
set_option maxRecDepth 1000000 in
theorem ops_trodC {fuel : Nat} {v : Value} {y : DataW H × List MemPlace} (hf : DataW.trod enc Tryz.prog W 0 (fun _ => true) true fuel 22 [v] = some y) :
  ∃ A ops c, v = .slice A (List.length ops) c ∧ OpsAt W A ops ∧ ∀ o ∈ ops, CapOk o := by
 have hC : Tryz.prog.cellsOf 42 = 5 := by kernel_rfl
 rcases open_slice Tryz.underlying22 hf with ⟨hcs, _⟩ | ⟨x, len, cap, m, n, D, Pl, hcs, _, hl, hm, hmm, _, hi⟩
 ·simp at hcs
  subst hcs
  exact ⟨none, [], 0, rfl, ⟨by simp [maxLen], by simp, fun h => absurd h (by simp)⟩, by simp⟩
 ·simp at hcs
  subst hcs
  simp only [if_true] at hmm
  subst hmm
  have each : ∀ i, i < m → ∃ o : OpV, (OpIn W o ∧ CapOk o) ∧ W.cell? (x.add (i * 5)) = some (.int .i64 o.k) ∧ W.cell? ((x.add (i * 5)).add 1) = some (.int .i64 o.n) ∧ W.cell? ((x.add (i * 5)).add 2) = some (.int .i64 o.y) ∧ W.cell? ((x.add (i * 5)).add 3) = some (.int .u64 (o.v : Nat)) ∧ W.cell? ((x.add (i * 5)).add 4) = some (.slice o.A o.l.length o.c) := by
   intro i him
   obtain ⟨cs', hc, ht⟩ := hi i him
   rw [hC] at hc
   obtain ⟨_, hcl, hat⟩ := World.cells?_some hc
   obtain ⟨xs, n', _, _, _, hxl, hf'⟩ := DataW.trod_struct Tryz.underlying42 ht
   match cs', hcl with
   | [c0, c1, c2, c3, c4], _ =>
    match xs, hxl with
    | [y0, y1, y2, y3, y4], _ =>
     have g0 := hf' 0 _ rfl
     have g1 := hf' 1 _ rfl
     have g2 := hf' 2 _ rfl
     have g3 := hf' 3 _ rfl
     have g4 := hf' 4 _ rfl
     have e_0 : Tryz.prog.cellsOf 3 = 1 := by kernel_rfl
     have e_1 : Tryz.prog.cellsOf 39 = 1 := by kernel_rfl
     have e_2 : Tryz.prog.cellsOf 40 = 1 := by kernel_rfl
     simp [e_0, e_1, e_2] at g0 g1 g2 g3 g4
     obtain ⟨z0, rfl, b0, d0⟩ := i64_trodB Tryz.underlying3 g0
     obtain ⟨z1, rfl, b1, d1⟩ := i64_trodB Tryz.underlying3 g1
     obtain ⟨z2, rfl, b2, d2⟩ := i64_trodB Tryz.underlying3 g2
     obtain ⟨z3, rfl, b3⟩ := u64_trodB Tryz.underlying39 g3
     obtain ⟨A4, l4, c4', rfl, b4⟩ := ch_trod g4
     have cp := slice_cap Tryz.underlying40 g4
     have a0 := hat 0 (by omega)
     have a1 := hat 1 (by omega)
     have a2 := hat 2 (by omega)
     have a3 := hat 3 (by omega)
     have a4 := hat 4 (by omega)
     have ez : (x.add (i * 5)).add 0 = x.add (i * 5) := by simp [Addr.add]
     rw [ez] at a0
     exact ⟨⟨z0, z1, z2, z3, A4, l4, c4'⟩, ⟨⟨⟨⟨b1, d1⟩, ⟨b2, d2⟩, b3⟩, b4.1, b4.2⟩, cp⟩, a0, a1, a2, a3, a4⟩
  let f : Nat → OpV := fun i => if h : i < m then (each i h).choose else ⟨0, 0, 0, 0, none, [], 0⟩
  have hf1 : ∀ i, (h : i < m) → (OpIn W (f i) ∧ CapOk (f i)) ∧ W.cell? (x.add (i * 5)) = some (.int .i64 (f i).k) ∧ W.cell? ((x.add (i * 5)).add 1) = some (.int .i64 (f i).n) ∧ W.cell? ((x.add (i * 5)).add 2) = some (.int .i64 (f i).y) ∧ W.cell? ((x.add (i * 5)).add 3) = some (.int .u64 ((f i).v : Nat)) ∧ W.cell? ((x.add (i * 5)).add 4) = some (.slice (f i).A (f i).l.length (f i).c) := by
   intro i h
   have := (each i h).choose_spec
   simp only [f, dif_pos h]
   exact this
  refine ⟨some x, (List.range len).map f, _, by simp; rfl, ⟨by simp; omega, fun o ho => ?_, fun hpos => ?_⟩, fun o ho => ?_⟩
  ·obtain ⟨i, hi', rfl⟩ := List.mem_map.1 ho
   exact (hf1 i (by have := List.mem_range.1 hi'; omega)).1.1
  ·have hpos' : 0 < len := by simpa using hpos
   have h00 := (hf1 0 (by omega)).2.1
   have ez : x.add (0 * 5) = x := by simp [Addr.add]
   rw [ez] at h00
   obtain ⟨b, o, rfl, hlt⟩ := add_spotB h00
   refine ⟨b, o, rfl, hlt, fun i hi' => ?_⟩
   have hi2 : i < len := by simpa using hi'
   have := (hf1 i (by omega)).2
   simp only [Addr.add_lit] at this
   simpa using this
  ·obtain ⟨i, hi', rfl⟩ := List.mem_map.1 ho
   exact (hf1 i (by have := List.mem_range.1 hi'; omega)).1.2
end
section
variable {H : Type} {enc : TypeId × Value → H} {W : World}
set_option maxRecDepth 1000000 in
theorem open_opsC {r : Reach} {b0 : Nat} {v : Value} {d : DataW H} {p : List MemPlace} (hval : Value.okWide Tryz.prog W r b0 22 v) (h : DataW.Trod enc Tryz.prog W 0 (fun _ => true) true 22 v d p) :
  ∃ A ops c, v = .slice A (List.length ops) c ∧ OpsAt W A ops ∧ ∀ o ∈ ops, CapOk o := by
 obtain ⟨a, len, cap, rfl⟩ := okWide_slice Tryz.underlying22 hval
 obtain ⟨fuel, hf⟩ := h
 exact ops_trodC hf
end
section
variable {H : Type} {enc : TypeId × Value → H} {W : World}
end
end Go.Proofs.YtlliaihmfimdoaaGreat.Re

