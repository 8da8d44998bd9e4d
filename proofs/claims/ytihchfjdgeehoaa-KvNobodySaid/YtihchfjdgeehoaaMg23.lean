/- Parts OpenO of one proof. -/
import Derived.Test.YtihchfjdgeehoaaMg13
namespace Go.Proofs.Ytihchfjdgeehoaa
open Go.RowKit Go.ChangeShapes Go.WideShapes Go.Joins Go.Deep
set_option linter.unusedVariables false
theorem array5 {α : Type} {cs : Array α} (h : cs.size = 5) : ∃ c0 c1 c2 c3 c4, cs = #[c0, c1, c2, c3, c4] := by
  obtain ⟨l⟩ := cs
  match l, h with
  | [c0, c1, c2, c3, c4], _ => exact ⟨c0, c1, c2, c3, c4, rfl⟩
section
variable {H : Type} {enc : TypeId × Value → H} {W : World}
set_option maxRecDepth 1000000 in
theorem open_op13 {r : Reach} {b0 : Nat} {v : Value} {d : DataW H} {p : List MemPlace} (hval : Value.okWide Try.prog W r b0 36 v) (h : DataW.Trod enc Try.prog W 0 (fun _ => true) true 36 v d p) :
    ∃ o : OpV, v = o.val ∧ OpIn W o := by
  have hC : Try.prog.cellsOf 36 = 5 := by kernel_rfl
  obtain ⟨cs, rfl, hsz⟩ := okWide_struct Try.underlying36 hval
  obtain ⟨c0, c1, c2, c3, c4, rfl⟩ := array5 (hsz.trans hC)
  obtain ⟨fuel, hf⟩ := h
  obtain ⟨xs, n', _, _, _, hxl, hf'⟩ := DataW.trod_struct Try.underlying36 hf
  match xs, hxl with
  | [y0, y1, y2, y3, y4], _ =>
    have g0 := hf' 0 _ rfl
    have g1 := hf' 1 _ rfl
    have g2 := hf' 2 _ rfl
    have g3 := hf' 3 _ rfl
    have g4 := hf' 4 _ rfl
    have e_0 : Try.prog.cellsOf 3 = 1 := by kernel_rfl
    have e_1 : Try.prog.cellsOf 33 = 1 := by kernel_rfl
    have e_2 : Try.prog.cellsOf 34 = 1 := by kernel_rfl
    simp [Value.cells, e_0, e_1, e_2] at g0 g1 g2 g3 g4
    obtain ⟨z0, rfl, b0, d0⟩ := i64_trodB Try.underlying3 g0
    obtain ⟨z1, rfl, b1, d1⟩ := i64_trodB Try.underlying3 g1
    obtain ⟨z2, rfl, b2, d2⟩ := i64_trodB Try.underlying3 g2
    obtain ⟨z3, rfl, b3⟩ := u64_trodB Try.underlying33 g3
    obtain ⟨A4, l4, c4', rfl, b4⟩ := ch_trod g4
    exact ⟨⟨z0, z1, z2, z3, A4, l4, c4'⟩, rfl, ⟨⟨b1, d1⟩, ⟨b2, d2⟩, b3⟩, b4.1, b4.2⟩
end
end Go.Proofs.Ytihchfjdgeehoaa
