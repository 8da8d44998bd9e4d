/- Layer 4: the laws' arguments, opened: bytes with their capacity, a variable, a list of variables. -/
import Derived.Test.YtjcmdfgmclafcaaOpen
import Derived.Test.YtjcmdfgmclafcaaBase2
import Derived.Test.YtjcmdfgmclafcaaProg
import Derived.Lib.SmallJoins
import Derived.Deep.Slices
namespace Go.Proofs.Ytjcmdfgmclafcaa
open Go.RowKit Go.ChangeShapes Go.WideShapes Go.Joins Go.Deep
set_option linter.unusedVariables false

section
variable {H : Type} {enc : TypeId × Value → H} {P : Program} {W : World} {base : Nat} {spare : Nat → Bool} {held : Bool}
theorem bsc_trod {t e : TypeId} {n : Nat} {v : Value} {y : DataW H × List MemPlace} (ht : P.underlying t = some (.slice e)) (he : P.underlying e = some (.int .u8)) (hc : P.cellsOf e = 1)
    (h : DataW.trod enc P W 0 (fun _ => true) true n t [v] = some y) : ∃ A l c, v = .slice A l.length c ∧ Bs W W.heap.size A l ∧ l.length ≤ c ∧ c ≤ 9223372036854775807 := by
  rcases open_ints ht he hc h with ⟨hcs, _⟩ | ⟨x, l, c, zs, hcs, _, hl, hm, hz, _, hcell, hwz⟩
  · simp at hcs
    subst hcs
    exact ⟨none, [], 0, rfl, Bs.nil, by simp, by omega⟩
  · simp at hcs
    subst hcs
    obtain ⟨m, rfl, hm'⟩ := bs_of_ints hl (by simpa using hz) hcell hwz
    exact ⟨_, m, _, rfl, hm', hl, by unfold maxLen at hm; omega⟩
theorem int_trod {t : TypeId} {n : Nat} {v : Value} {y : DataW H × List MemPlace} (ht : P.underlying t = some (.int .i64)) (h : DataW.trod enc P W base spare held n t [v] = some y) :
    ∃ a : Int, v = .int .i64 a ∧ -9223372036854775808 ≤ a ∧ a ≤ 9223372036854775807 := by
  obtain ⟨a, e, _, hw⟩ := DataW.trod_int ht h
  simp at e
  exact ⟨a, e, i64_bd hw⟩
end


section
variable {H : Type} {enc : TypeId × Value → H} {W : World}
theorem open_bsc {r : Reach} {b0 : Nat} {v : Value} {d : DataW H} {p : List MemPlace} (hval : Value.okWide Try.prog W r b0 22 v) (h : DataW.Trod enc Try.prog W 0 (fun _ => true) true 22 v d p) :
    ∃ A l c, v = .slice A (List.length l) c ∧ Bs W W.heap.size A l ∧ l.length ≤ c ∧ c ≤ 9223372036854775807 := by
  obtain ⟨a, len, cap, rfl⟩ := okWide_slice Try.underlying22 hval
  obtain ⟨fuel, hf⟩ := h
  exact bsc_trod Try.underlying22 Try.underlying5 (by kernel_rfl) hf

structure VarV where
  id : Int
  A : Option Addr
  l : List UInt8
  c : Nat
structure VarOk (w : World) (o : VarV) : Prop where
  k1 : -9223372036854775808 ≤ o.id
  k2 : o.id ≤ 9223372036854775807
  bs : Bs w w.heap.size o.A o.l
  len : o.l.length ≤ o.c
  cap : o.c ≤ 9223372036854775807
def VarV.val (o : VarV) : Value := .agg #[.int .i64 o.id, .slice o.A o.l.length o.c]
theorem VarOk.below {w w' : World} {o : VarV} (h : VarOk w o) (hb : Below w.heap.size w w') : VarOk w' o := ⟨h.k1, h.k2, h.bs.bt hb, h.len, h.cap⟩

theorem open_var {r : Reach} {b0 : Nat} {v : Value} {d : DataW H} {p : List MemPlace} (hval : Value.okWide Try.prog W r b0 24 v) (h : DataW.Trod enc Try.prog W 0 (fun _ => true) true 24 v d p) :
    ∃ o : VarV, v = o.val ∧ VarOk W o := by
  obtain ⟨v0, v1, y0, y1, n, rfl, _, _, h0, h1⟩ := open_agg2 Try.underlying24 (by kernel_rfl) (by kernel_rfl) hval h
  obtain ⟨k, rfl, k1, k2⟩ := int_trod Try.underlying3 h0
  obtain ⟨A, l, c, rfl, hb, hl, hc⟩ := bsc_trod Try.underlying22 Try.underlying5 (by kernel_rfl) h1
  exact ⟨⟨k, A, l, c⟩, rfl, k1, k2, hb, hl, hc⟩
end
end Go.Proofs.Ytjcmdfgmclafcaa
