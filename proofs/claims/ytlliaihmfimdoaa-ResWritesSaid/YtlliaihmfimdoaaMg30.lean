/- Parts OpenB OpenCh T8 of one proof. -/
import Derived.Test.YtlliaihmfimdoaaMg01
import Derived.Test.YtlliaihmfimdoaaMg29
import Derived.Lib.SmallJoins
import Derived.Deep.Slices
import Derived.Test.YtlliaihmfimdoaaMg02
namespace Go.Proofs.Ytlliaihmfimdoaa
open Go.RowKit Go.ChangeShapes Go.WideShapes Go.Joins Go.Deep
set_option linter.unusedVariables false

theorem add_spotB {w : World} {a : Addr} {v : Value} (h : w.cell? a = some v) : ∃ b o, a = ⟨b, o, none⟩ ∧ b < w.heap.size := by
  have hs := World.cell?_spot h
  have hl := World.block_lt_of_cell? _ _ h
  obtain ⟨b, o, s⟩ := a
  simp only at hs hl
  subst hs
  exact ⟨b, o, rfl, hl⟩
section
variable {H : Type} {enc : TypeId × Value → H} {P : Program} {W : World} {base : Nat} {spare : Nat → Bool} {held : Bool}
theorem i64_trodB {t : TypeId} {n : Nat} {v : Value} {y : DataW H × List MemPlace} (ht : P.underlying t = some (.int .i64)) (h : DataW.trod enc P W base spare held n t [v] = some y) :
    ∃ a : Int, v = .int .i64 a ∧ -9223372036854775808 ≤ a ∧ a ≤ 9223372036854775807 := by
  obtain ⟨a, e, _, hw⟩ := DataW.trod_int ht h
  simp at e
  exact ⟨a, e, i64_bd hw⟩
theorem u64_trodB {t : TypeId} {n : Nat} {v : Value} {y : DataW H × List MemPlace} (ht : P.underlying t = some (.int .u64)) (h : DataW.trod enc P W base spare held n t [v] = some y) :
    ∃ a : Nat, v = .int .u64 (a : Nat) ∧ a < 18446744073709551616 := by
  obtain ⟨a, e, _, hw⟩ := DataW.trod_int ht h
  simp at e
  obtain ⟨n, rfl, hn⟩ := u64_nat hw
  exact ⟨n, e, hn⟩
theorem u32_trodB {t : TypeId} {n : Nat} {v : Value} {y : DataW H × List MemPlace} (ht : P.underlying t = some (.int .u32)) (h : DataW.trod enc P W base spare held n t [v] = some y) :
    ∃ a : Nat, v = .int .u32 (a : Nat) ∧ a < 4294967296 := by
  obtain ⟨a, e, _, hw⟩ := DataW.trod_int ht h
  simp at e
  obtain ⟨n, rfl, hn⟩ := u32_nat hw
  exact ⟨n, e, hn⟩
theorem bool_trodB {t : TypeId} {n : Nat} {v : Value} {y : DataW H × List MemPlace} (ht : P.underlying t = some .bool) (h : DataW.trod enc P W base spare held n t [v] = some y) :
    ∃ a : Bool, v = .bool a := by
  obtain ⟨a, e, _⟩ := DataW.trod_bool ht h
  simp at e
  exact ⟨a, e⟩
end
def InLs (w : World) (A : Option Addr) (l : List Ch) : Prop := l.length ≤ maxLen ∧ InL w A l
section
variable {H : Type} {enc : TypeId × Value → H} {W : World}
set_option maxRecDepth 1000000 in
theorem ch_trod {fuel : Nat} {v : Value} {y : DataW H × List MemPlace} (hf : DataW.trod enc Try.prog W 0 (fun _ => true) true fuel 22 [v] = some y) :
    ∃ A ops c, v = .slice A (List.length ops) c ∧ InLs W A ops := by
  have hC : Try.prog.cellsOf 39 = 3 := by kernel_rfl
  rcases open_slice Try.underlying22 hf with ⟨hcs, _⟩ | ⟨x, len, cap, m, n, D, Pl, hcs, _, hl, hm, hmm, _, hi⟩
  · simp at hcs
    subst hcs
    exact ⟨none, [], 0, rfl, by simp [maxLen], fun h => absurd h (by simp)⟩
  · simp at hcs
    subst hcs
    simp only [if_true] at hmm
    subst hmm
    have each : ∀ i, i < m → ∃ o : Ch, W.cell? (x.add (i * 3)) = some (.int .i64 o.k) ∧ W.cell? ((x.add (i * 3)).add 1) = some (.int .i64 o.y) ∧ W.cell? ((x.add (i * 3)).add 2) = some (.int .u64 (o.v : Nat)) := by
      intro i him
      obtain ⟨cs', hc, ht⟩ := hi i him
      rw [hC] at hc
      obtain ⟨_, hcl, hat⟩ := World.cells?_some hc
      obtain ⟨xs, n', _, _, _, hxl, hf'⟩ := DataW.trod_struct Try.underlying39 ht
      match cs', hcl with
      | [c0, c1, c2], _ =>
        match xs, hxl with
        | [y0, y1, y2], _ =>
          have g0 := hf' 0 _ rfl
          have g1 := hf' 1 _ rfl
          have g2 := hf' 2 _ rfl
          have e_0 : Try.prog.cellsOf 3 = 1 := by kernel_rfl
          have e_1 : Try.prog.cellsOf 35 = 1 := by kernel_rfl
          simp [e_0, e_1] at g0 g1 g2
          obtain ⟨z0, rfl, b0, d0⟩ := i64_trodB Try.underlying3 g0
          obtain ⟨z1, rfl, b1, d1⟩ := i64_trodB Try.underlying3 g1
          obtain ⟨z2, rfl, b2⟩ := u64_trodB Try.underlying35 g2
          have a0 := hat 0 (by omega)
          have a1 := hat 1 (by omega)
          have a2 := hat 2 (by omega)
          have ez : (x.add (i * 3)).add 0 = x.add (i * 3) := by simp [Addr.add]
          rw [ez] at a0
          exact ⟨⟨z0, z1, z2⟩, a0, a1, a2⟩
    let f : Nat → Ch := fun i => if h : i < m then (each i h).choose else ⟨0, 0, 0⟩
    have hf1 : ∀ i, (h : i < m) → W.cell? (x.add (i * 3)) = some (.int .i64 (f i).k) ∧ W.cell? ((x.add (i * 3)).add 1) = some (.int .i64 (f i).y) ∧ W.cell? ((x.add (i * 3)).add 2) = some (.int .u64 ((f i).v : Nat)) := by
      intro i h
      have := (each i h).choose_spec
      simp only [f, dif_pos h]
      exact this
    refine ⟨some x, (List.range len).map f, _, by simp; rfl, by simp; omega, fun hpos => ?_⟩
    · have hpos' : 0 < len := by simpa using hpos
      have h00 := (hf1 0 (by omega)).1
      have ez : x.add (0 * 3) = x := by simp [Addr.add]
      rw [ez] at h00
      obtain ⟨b, o, rfl, hlt⟩ := add_spotB h00
      refine ⟨b, o, rfl, hlt, fun i hi' => ?_⟩
      have hi2 : i < len := by simpa using hi'
      have := (hf1 i (by omega))
      simp only [Addr.add_lit] at this
      simpa using this
end
def OpIn (w : World) (o : OpV) : Prop := OpOk o ∧ o.l.length ≤ maxLen ∧ InL w o.A o.l
section
variable {H : Type} {enc : TypeId × Value → H} {W : World}
end
section
variable {H : Type} {enc : TypeId × Value → H} {W : World}
end
section
variable {H : Type} {enc : TypeId × Value → H} {W : World}
end
end Go.Proofs.Ytlliaihmfimdoaa

namespace Go.Proofs.Ytlliaihmfimdoaa.Re
open Go.RowKit Go.ChangeShapes Go.WideShapes Go.Joins Go.Deep Go.Proofs.Ytlliaihmfimdoaa
set_option linter.unusedVariables false
set_option linter.unusedSimpArgs false
def ChB (x : Ch) : Prop := i64ok x.k ∧ i64ok x.y ∧ x.v < 18446744073709551616
section
variable {H : Type} {enc : TypeId × Value → H} {W : World}
set_option maxRecDepth 1000000 in
theorem ch_trodV {fuel : Nat} {v : Value} {y : DataW H × List MemPlace} (hf : DataW.trod enc Try.prog W 0 (fun _ => true) true fuel 22 [v] = some y) :
    ∃ A ops c, v = .slice A (List.length ops) c ∧ InLs W A ops ∧ ∀ x ∈ ops, ChB x := by
  have hC : Try.prog.cellsOf 39 = 3 := by kernel_rfl
  rcases open_slice Try.underlying22 hf with ⟨hcs, _⟩ | ⟨x, len, cap, m, n, D, Pl, hcs, _, hl, hm, hmm, _, hi⟩
  · simp at hcs
    subst hcs
    exact ⟨none, [], 0, rfl, ⟨by simp [maxLen], fun h => absurd h (by simp)⟩, by simp⟩
  · simp at hcs
    subst hcs
    simp only [if_true] at hmm
    subst hmm
    have each : ∀ i, i < m → ∃ o : Ch, ChB o ∧ W.cell? (x.add (i * 3)) = some (.int .i64 o.k) ∧ W.cell? ((x.add (i * 3)).add 1) = some (.int .i64 o.y) ∧ W.cell? ((x.add (i * 3)).add 2) = some (.int .u64 (o.v : Nat)) := by
      intro i him
      obtain ⟨cs', hc, ht⟩ := hi i him
      rw [hC] at hc
      obtain ⟨_, hcl, hat⟩ := World.cells?_some hc
      obtain ⟨xs, n', _, _, _, hxl, hf'⟩ := DataW.trod_struct Try.underlying39 ht
      match cs', hcl with
      | [c0, c1, c2], _ =>
        match xs, hxl with
        | [y0, y1, y2], _ =>
          have g0 := hf' 0 _ rfl
          have g1 := hf' 1 _ rfl
          have g2 := hf' 2 _ rfl
          have e_0 : Try.prog.cellsOf 3 = 1 := by kernel_rfl
          have e_1 : Try.prog.cellsOf 35 = 1 := by kernel_rfl
          simp [e_0, e_1] at g0 g1 g2
          obtain ⟨z0, rfl, b0, d0⟩ := i64_trodB Try.underlying3 g0
          obtain ⟨z1, rfl, b1, d1⟩ := i64_trodB Try.underlying3 g1
          obtain ⟨z2, rfl, b2⟩ := u64_trodB Try.underlying35 g2
          have a0 := hat 0 (by omega)
          have a1 := hat 1 (by omega)
          have a2 := hat 2 (by omega)
          have ez : (x.add (i * 3)).add 0 = x.add (i * 3) := by simp [Addr.add]
          rw [ez] at a0
          exact ⟨⟨z0, z1, z2⟩, ⟨⟨b0, d0⟩, ⟨b1, d1⟩, b2⟩, a0, a1, a2⟩
    let f : Nat → Ch := fun i => if h : i < m then (each i h).choose else ⟨0, 0, 0⟩
    have hf1 : ∀ i, (h : i < m) → ChB (f i) ∧ W.cell? (x.add (i * 3)) = some (.int .i64 (f i).k) ∧ W.cell? ((x.add (i * 3)).add 1) = some (.int .i64 (f i).y) ∧ W.cell? ((x.add (i * 3)).add 2) = some (.int .u64 ((f i).v : Nat)) := by
      intro i h
      have := (each i h).choose_spec
      simp only [f, dif_pos h]
      exact this
    refine ⟨some x, (List.range len).map f, _, by simp; rfl, ⟨by simp; omega, fun hpos => ?_⟩, fun o ho => ?_⟩
    · have hpos' : 0 < len := by simpa using hpos
      have h00 := (hf1 0 (by omega)).2.1
      have ez : x.add (0 * 3) = x := by simp [Addr.add]
      rw [ez] at h00
      obtain ⟨b, o, rfl, hlt⟩ := add_spotB h00
      refine ⟨b, o, rfl, hlt, fun i hi' => ?_⟩
      have hi2 : i < len := by simpa using hi'
      have := (hf1 i (by omega)).2
      simp only [Addr.add_lit] at this
      simpa using this
    · obtain ⟨i, hi', rfl⟩ := List.mem_map.1 ho
      exact (hf1 i (by have := List.mem_range.1 hi'; omega)).1
set_option maxRecDepth 1000000 in
theorem open_chsV {r : Reach} {b0 : Nat} {v : Value} {d : DataW H} {p : List MemPlace} (hval : Value.okWide Try.prog W r b0 22 v) (h : DataW.Trod enc Try.prog W 0 (fun _ => true) true 22 v d p) :
    ∃ A ops c, v = .slice A (List.length ops) c ∧ InLs W A ops ∧ ∀ x ∈ ops, ChB x := by
  obtain ⟨a, len, cap, rfl⟩ := okWide_slice Try.underlying22 hval
  obtain ⟨fuel, hf⟩ := h
  exact ch_trodV hf
end
end Go.Proofs.Ytlliaihmfimdoaa.Re

namespace Go.Proofs.Ytlliaihmfimdoaa.Re
open Go.RowKit Go.ChangeShapes Go.WideShapes Go.Joins Go.Deep Go.Proofs.Ytlliaihmfimdoaa
set_option linter.unusedVariables false
section
variable {H : Type} {enc : TypeId × Value → H} {P : Program} {W : World} {base : Nat} {spare : Nat → Bool} {held : Bool}
theorem bsc_trod {t e : TypeId} {n : Nat} {v : Value} {y : DataW H × List MemPlace} (ht : P.underlying t = some (.slice e)) (he : P.underlying e = some (.int .u8)) (hc : P.cellsOf e = 1)
    (h : DataW.trod enc P W 0 (fun _ => true) true n t [v] = some y) : ∃ A l c, v = .slice A l.length c ∧ Bs W W.heap.size A l ∧ l.length ≤ c ∧ c ≤ 9223372036854775807 := by
  rcases open_ints ht he hc h with ⟨hcs, _⟩ | ⟨x, l, c, zs, hcs, _, hl, hm, hz, _, hcell, hwz⟩
  · simp at hcs
    subst hcs
    exact ⟨none, [], 0, rfl, Bs.nil, by simp, by omega⟩
  · simp at hcs
    subst hcs
    obtain ⟨m, rfl, hm'⟩ := bs_of_ints hl (by simpa using hz) hcell hwz
    exact ⟨_, m, _, rfl, hm', hl, by unfold maxLen at hm; omega⟩
end
section
variable {H : Type} {enc : TypeId × Value → H} {W : World}
set_option maxRecDepth 1000000 in
theorem open_bsc {r : Reach} {b0 : Nat} {v : Value} {d : DataW H} {p : List MemPlace} (hval : Value.okWide Try.prog W r b0 23 v) (h : DataW.Trod enc Try.prog W 0 (fun _ => true) true 23 v d p) :
    ∃ A l c, v = .slice A (List.length l) c ∧ Bs W W.heap.size A l ∧ l.length ≤ c ∧ c ≤ 9223372036854775807 := by
  obtain ⟨a, len, cap, rfl⟩ := okWide_slice Try.underlying23 hval
  obtain ⟨fuel, hf⟩ := h
  exact bsc_trod Try.underlying23 Try.underlying5 (by kernel_rfl) hf
end
theorem resWrites_walk (A : Option Addr) (l : List Ch) (c : Nat) (A0 : Option Addr) (bs : List UInt8) (c0 : Nat) (w : World) (h : InLs w A l ∧ ∀ x ∈ l, ChB x) (hbs : Bs w w.heap.size A0 bs) (e1 : bs.length ≤ c0) (e2 : c0 ≤ 9223372036854775807) :
    Calls Try.prog 3 #[.slice A l.length c, .slice A0 bs.length c0] w fun e w' => e = .returned (.bool true) ∧ Below w.heap.size w w' :=
  resWrites_main A l c A0 bs c0 w h.1 (fun x hx => ⟨(h.2 x hx).2.2, (h.2 x hx).2.1.2⟩) hbs ⟨e1, e2⟩
end Go.Proofs.Ytlliaihmfimdoaa.Re
