/- Layer 7: the laws' arguments, opened: a frame. -/
import Derived.Test.YtkhnhidckiopnaaOpen
import Derived.Test.YtkhnhidckiopnaaBase2
import Derived.Test.YtkhnhidckiopnaaProg
import Derived.Lib.SmallJoins
namespace Go.Proofs.Ytkhnhidckiopnaa
open Go.RowKit Go.ChangeShapes Go.WideShapes Go.Joins
set_option linter.unusedVariables false

structure FrmV where
  s : Nat
  q : Int
  a : Int
  A : Option Addr
  l : List UInt8
  c : Nat
structure FrmOk (w : World) (o : FrmV) : Prop where
  s1 : o.s < 4294967296
  q1 : -9223372036854775808 ≤ o.q
  q2 : o.q ≤ 9223372036854775807
  a1 : -9223372036854775808 ≤ o.a
  a2 : o.a ≤ 9223372036854775807
  bs : Bs w w.heap.size o.A o.l
  len : o.l.length ≤ o.c
  cap : o.c ≤ 9223372036854775807
def FrmV.val (o : FrmV) : Value := .agg #[.int .u32 o.s, .int .i64 o.q, .int .i64 o.a, .slice o.A o.l.length o.c]
theorem list4 {α : Type} (l : List α) (h : l.length = 4) : ∃ a b c d, l = [a, b, c, d] := by
  match l, h with
  | [a, b, c, d], _ => exact ⟨a, b, c, d, rfl⟩

section
variable {H : Type} {enc : TypeId × Value → H} {P : Program} {W : World} {base : Nat} {spare : Nat → Bool} {held : Bool}
theorem bsc_trod {t e : TypeId} {n : Nat} {v : Value} {y : DataW H × List MemPlace} (ht : P.underlying t = some (.slice e)) (he : P.underlying e = some (.int .u8)) (hc : P.cellsOf e = 1)
    (h : DataW.trod enc P W 0 (fun _ => true) true n t [v] = some y) : ∃ A l c, v = .slice A l.length c ∧ Bs W W.heap.size A l ∧ l.length ≤ c ∧ c ≤ 9223372036854775807 := by
  rcases open_ints ht he hc h with ⟨hcs, _⟩ | ⟨x, l, c, zs, hcs, _, hl, hm, hz, _, hcell, hwz⟩
  · simp at hcs
    subst hcs
    exact ⟨none, [], 0, rfl, Bs.nil, by simp, by omega⟩
  · simp at hcs
    subst hcs
    obtain ⟨m, rfl, hm'⟩ := bs_of_ints hl (by simpa using hz) hcell hwz
    exact ⟨_, m, _, rfl, hm', hl, by unfold maxLen at hm; omega⟩
theorem i64_trod {t : TypeId} {n : Nat} {v : Value} {y : DataW H × List MemPlace} (ht : P.underlying t = some (.int .i64)) (h : DataW.trod enc P W base spare held n t [v] = some y) :
    ∃ a : Int, v = .int .i64 a ∧ -9223372036854775808 ≤ a ∧ a ≤ 9223372036854775807 := by
  obtain ⟨a, e, _, hw⟩ := DataW.trod_int ht h
  simp at e
  exact ⟨a, e, i64_bd hw⟩
theorem u32_trod {t : TypeId} {n : Nat} {v : Value} {y : DataW H × List MemPlace} (ht : P.underlying t = some (.int .u32)) (h : DataW.trod enc P W base spare held n t [v] = some y) :
    ∃ a : Nat, v = .int .u32 a ∧ a < 4294967296 := by
  obtain ⟨a, e, _, hw⟩ := DataW.trod_int ht h
  simp at e
  obtain ⟨n, rfl, hn⟩ := u32_nat hw
  exact ⟨n, e, hn⟩
end

section
variable {H : Type} {enc : TypeId × Value → H} {W : World}
theorem open_bsc {r : Reach} {b0 : Nat} {v : Value} {d : DataW H} {p : List MemPlace} (hval : Value.okWide Try.prog W r b0 31 v) (h : DataW.Trod enc Try.prog W 0 (fun _ => true) true 31 v d p) :
    ∃ A l c, v = .slice A (List.length l) c ∧ Bs W W.heap.size A l ∧ l.length ≤ c ∧ c ≤ 9223372036854775807 := by
  obtain ⟨a, len, cap, rfl⟩ := okWide_slice Try.underlying31 hval
  obtain ⟨fuel, hf⟩ := h
  exact bsc_trod Try.underlying31 Try.underlying5 (by kernel_rfl) hf

theorem open_frame {r : Reach} {b0 : Nat} {v : Value} {d : DataW H} {p : List MemPlace} (hval : Value.okWide Try.prog W r b0 33 v) (h : DataW.Trod enc Try.prog W 0 (fun _ => true) true 33 v d p) :
    ∃ o : FrmV, v = o.val ∧ FrmOk W o := by
  obtain ⟨cs, rfl, hsz⟩ := okWide_struct Try.underlying33 hval
  have hC : Try.prog.cellsOf 33 = 4 := by kernel_rfl
  rw [hC] at hsz
  obtain ⟨fuel, ht⟩ := h
  have hcs : (Value.agg cs).cells.toList = cs.toList := rfl
  obtain ⟨c0, c1, c2, c3, hl⟩ := list4 cs.toList (by simpa using hsz)
  rw [hcs, hl] at ht
  obtain ⟨xs, n', _, _, _, hxl, hf'⟩ := DataW.trod_struct Try.underlying33 ht
  obtain ⟨y0, y1, y2, y3, rfl⟩ := list4 xs hxl
  have g0 := hf' 0 _ rfl
  have g1 := hf' 1 _ rfl
  have g2 := hf' 2 _ rfl
  have g3 := hf' 3 _ rfl
  have e3 : Try.prog.cellsOf 3 = 1 := by kernel_rfl
  have eU : Try.prog.cellsOf 22 = 1 := by kernel_rfl
  have eS : Try.prog.cellsOf 31 = 1 := by kernel_rfl
  simp [e3, eU, eS] at g0 g1 g2 g3
  obtain ⟨s, rfl, s1⟩ := u32_trod Try.underlying22 g0
  obtain ⟨q, rfl, q1, q2⟩ := i64_trod Try.underlying3 g1
  obtain ⟨a, rfl, a1, a2⟩ := i64_trod Try.underlying3 g2
  obtain ⟨A, l, c, rfl, hb, hl', hc'⟩ := bsc_trod Try.underlying31 Try.underlying5 (by kernel_rfl) g3
  refine ⟨⟨s, q, a, A, l, c⟩, ?_, s1, q1, q2, a1, a2, hb, hl', hc'⟩
  unfold FrmV.val
  congr 1
  exact Array.toList_inj.1 hl
end
end Go.Proofs.Ytkhnhidckiopnaa
