/- Layer 6: the laws' arguments, opened: a message, bytes with their capacity. -/
import Derived.Test.YteniponkakaaaaaOpen
import Derived.Test.YteniponkakaaaaaOpenL
import Derived.Test.YteniponkakaaaaaMd
namespace Go.Proofs.Yteniponkakaaaaa
open Go.RowKit Go.ChangeShapes Go.WideShapes Go.Joins
set_option linter.unusedVariables false
set_option linter.unusedSimpArgs false

theorem list7 {α : Type} (l : List α) (h : l.length = 7) : ∃ a b c d e f g, l = [a, b, c, d, e, f, g] := by
  match l, h with
  | [a, b, c, d, e, f, g], _ => exact ⟨a, b, c, d, e, f, g, rfl⟩
theorem list5 {α : Type} (l : List α) (h : l.length = 5) : ∃ a b c d e, l = [a, b, c, d, e] := by
  match l, h with
  | [a, b, c, d, e], _ => exact ⟨a, b, c, d, e, rfl⟩
theorem list3 {α : Type} (l : List α) (h : l.length = 3) : ∃ a b c, l = [a, b, c] := by
  match l, h with
  | [a, b, c], _ => exact ⟨a, b, c, rfl⟩
section
variable {H : Type} {enc : TypeId × Value → H} {P : Program} {W : World} {base : Nat} {spare : Nat → Bool} {held : Bool}
theorem bool_trod {t : TypeId} {n : Nat} {v : Value} {y : DataW H × List MemPlace} (ht : P.underlying t = some .bool) (h : DataW.trod enc P W base spare held n t [v] = some y) : ∃ b : Bool, v = .bool b := by
  obtain ⟨b, e, _⟩ := DataW.trod_bool ht h
  simp at e
  exact ⟨b, e⟩
end
section
variable {H : Type} {enc : TypeId × Value → H} {W : World}
theorem open_msg {r : Reach} {b0 : Nat} {v : Value} {d : DataW H} {p : List MemPlace} (hval : Value.okWide Try.prog W r b0 26 v) (h : DataW.Trod enc Try.prog W 0 (fun _ => true) true 26 v d p) :
    ∃ m : MsgV, v = m.val ∧ MsgOk m := by
  obtain ⟨cs, rfl, hsz⟩ := okWide_struct Try.underlying26 hval
  have hC : Try.prog.cellsOf 26 = 7 := by kernel_rfl
  rw [hC] at hsz
  obtain ⟨fuel, ht⟩ := h
  have hcs : (Value.agg cs).cells.toList = cs.toList := rfl
  obtain ⟨c0, c1, c2, c3, c4, c5, c6, hl⟩ := list7 cs.toList (by simpa using hsz)
  rw [hcs, hl] at ht
  obtain ⟨xs, n', _, _, _, hxl, hf'⟩ := DataW.trod_struct Try.underlying26 ht
  obtain ⟨y0, y1, y2, y3, y4, rfl⟩ := list5 xs hxl
  have g0 := hf' 0 _ rfl
  have g1 := hf' 1 _ rfl
  have g2 := hf' 2 _ rfl
  have g3 := hf' 3 _ rfl
  have g4 := hf' 4 _ rfl
  have e3 : Try.prog.cellsOf 3 = 1 := by kernel_rfl
  have eL : Try.prog.cellsOf 24 = 3 := by kernel_rfl
  have eB : Try.prog.cellsOf 4 = 1 := by kernel_rfl
  have eU : Try.prog.cellsOf 22 = 1 := by kernel_rfl
  simp [e3, eL, eB, eU] at g0 g1 g2 g3 g4
  obtain ⟨k, rfl, k1, k2⟩ := i64_trod Try.underlying3 g0
  obtain ⟨b, rfl⟩ := bool_trod Try.underlying4 g2
  obtain ⟨mi, rfl, hmi⟩ := u32_trod Try.underlying22 g3
  obtain ⟨yo, rfl, hyo⟩ := u32_trod Try.underlying22 g4
  obtain ⟨xs, n', _, _, _, hxl, hf2⟩ := DataW.trod_struct Try.underlying24 g1
  obtain ⟨z0, z1, z2, rfl⟩ := list3 xs hxl
  have q0 := hf2 0 _ rfl
  have q1 := hf2 1 _ rfl
  have q2 := hf2 2 _ rfl
  simp [e3, eU] at q0 q1 q2
  obtain ⟨u, rfl, u1, u2⟩ := i64_trod Try.underlying3 q0
  obtain ⟨a, rfl, ha⟩ := u32_trod Try.underlying22 q1
  obtain ⟨q, rfl, hq⟩ := u32_trod Try.underlying22 q2
  refine ⟨⟨k, u, a, q, b, mi, yo⟩, ?_, k1, k2, u1, u2, ha, hq, hmi, hyo⟩
  unfold MsgV.val MsgV.cs
  congr 1
  exact Array.toList_inj.1 hl
end
end Go.Proofs.Yteniponkakaaaaa
