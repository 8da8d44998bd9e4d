/- Layer 17: the laws' arguments, opened: a side. -/
import Derived.Test.YtcihmjflfcbgmaaOpen
import Derived.Test.YtcihmjflfcbgmaaBase2
import Derived.Test.YtcihmjflfcbgmaaProg
import Derived.Lib.SmallJoins
namespace Go.Proofs.Ytcihmjflfcbgmaa
open Go.RowKit Go.ChangeShapes Go.WideShapes Go.Joins
set_option linter.unusedVariables false

structure SideV where
  m : Nat
  s : Nat
  k : Bool
def SideV.val (o : SideV) : Value := .agg #[.int .u32 o.m, .int .u32 o.s, .bool o.k]
section
variable {H : Type} {enc : TypeId × Value → H} {P : Program} {W : World} {base : Nat} {spare : Nat → Bool} {held : Bool}
theorem u32_trod {t : TypeId} {n : Nat} {v : Value} {y : DataW H × List MemPlace} (ht : P.underlying t = some (.int .u32)) (h : DataW.trod enc P W base spare held n t [v] = some y) :
    ∃ a : Nat, v = .int .u32 a ∧ a < 4294967296 := by
  obtain ⟨a, e, _, hw⟩ := DataW.trod_int ht h
  simp at e
  obtain ⟨n, rfl, hn⟩ := u32_nat hw
  exact ⟨n, e, hn⟩
end
section
variable {H : Type} {enc : TypeId × Value → H} {W : World}
theorem open_side {r : Reach} {b0 : Nat} {v : Value} {d : DataW H} {p : List MemPlace} (hval : Value.okWide Try.prog W r b0 31 v) (h : DataW.Trod enc Try.prog W 0 (fun _ => true) true 31 v d p) :
    ∃ o : SideV, v = o.val ∧ True := by
  obtain ⟨v0, v1, v2, y0, y1, y2, n, rfl, _, _, h0, h1, h2⟩ := open_agg3 Try.underlying31 (by kernel_rfl) (by kernel_rfl) hval h
  obtain ⟨m, rfl, _⟩ := u32_trod Try.underlying22 h0
  obtain ⟨q, rfl, _⟩ := u32_trod Try.underlying22 h1
  obtain ⟨k, e, _⟩ := DataW.trod_bool Try.underlying4 h2
  simp at e
  subst e
  exact ⟨⟨m, q, k⟩, rfl, trivial⟩
end
end Go.Proofs.Ytcihmjflfcbgmaa
