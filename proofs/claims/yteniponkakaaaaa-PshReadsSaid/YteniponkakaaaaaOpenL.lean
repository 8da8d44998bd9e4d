/- Layer 5: the laws' arguments, opened: a name. -/
import Derived.Test.YteniponkakaaaaaOpen
import Derived.Test.YteniponkakaaaaaBase2
import Derived.Test.YteniponkakaaaaaProg
import Derived.Lib.SmallJoins
namespace Go.Proofs.Yteniponkakaaaaa
open Go.RowKit Go.ChangeShapes Go.WideShapes Go.Joins
set_option linter.unusedVariables false

structure LuwV where
  u : Int
  a : Nat
  q : Nat
structure LuwOk (o : LuwV) : Prop where
  u1 : -9223372036854775808 ≤ o.u
  u2 : o.u ≤ 9223372036854775807
  a1 : o.a < 4294967296
  q1 : o.q < 4294967296
def LuwV.val (o : LuwV) : Value := .agg #[.int .i64 o.u, .int .u32 o.a, .int .u32 o.q]

section
variable {H : Type} {enc : TypeId × Value → H} {P : Program} {W : World} {base : Nat} {spare : Nat → Bool} {held : Bool}
theorem bsc_trod {t e : TypeId} {n : Nat} {v : Value} {y : DataW H × List MemPlace} (ht : P.underlying t = some (.slice e)) (he : P.underlying e = some (.int .u8)) (hc : P.cellsOf e = 1)
    (h : DataW.trod enc P W 0 (fun _ => true) true n t [v] = some y) : ∃ A l c, v = .slice A l.length c ∧ Bs W W.heap.size A l ∧ l.length ≤ c ∧ c ≤ 9223372036854775807 := by
  rcases open_ints ht he hc h with ⟨hcs, _⟩ | ⟨x, l, c, zs, hcs, _, hl, hm, hz, _, hcell, hwz⟩
  · simp at hcs
    subst hcs
    exact ⟨none, [], 0, rfl, Bs.nil, by simp, by omega⟩
  · simp at hcs
    subst hcs
    obtain ⟨m, rfl, hm'⟩ := bs_of_ints hl (by simpa using hz) hcell hwz
    exact ⟨_, m, _, rfl, hm', hl, by unfold maxLen at hm; omega⟩
theorem i64_trod {t : TypeId} {n : Nat} {v : Value} {y : DataW H × List MemPlace} (ht : P.underlying t = some (.int .i64)) (h : DataW.trod enc P W base spare held n t [v] = some y) :
    ∃ a : Int, v = .int .i64 a ∧ -9223372036854775808 ≤ a ∧ a ≤ 9223372036854775807 := by
  obtain ⟨a, e, _, hw⟩ := DataW.trod_int ht h
  simp at e
  exact ⟨a, e, i64_bd hw⟩
theorem u32_trod {t : TypeId} {n : Nat} {v : Value} {y : DataW H × List MemPlace} (ht : P.underlying t = some (.int .u32)) (h : DataW.trod enc P W base spare held n t [v] = some y) :
    ∃ a : Nat, v = .int .u32 a ∧ a < 4294967296 := by
  obtain ⟨a, e, _, hw⟩ := DataW.trod_int ht h
  simp at e
  obtain ⟨n, rfl, hn⟩ := u32_nat hw
  exact ⟨n, e, hn⟩
end

section
variable {H : Type} {enc : TypeId × Value → H} {W : World}
theorem open_bsc {r : Reach} {b0 : Nat} {v : Value} {d : DataW H} {p : List MemPlace} (hval : Value.okWide Try.prog W r b0 27 v) (h : DataW.Trod enc Try.prog W 0 (fun _ => true) true 27 v d p) :
    ∃ A l c, v = .slice A (List.length l) c ∧ Bs W W.heap.size A l ∧ l.length ≤ c ∧ c ≤ 9223372036854775807 := by
  obtain ⟨a, len, cap, rfl⟩ := okWide_slice Try.underlying27 hval
  obtain ⟨fuel, hf⟩ := h
  exact bsc_trod Try.underlying27 Try.underlying5 (by kernel_rfl) hf

theorem open_luw {r : Reach} {b0 : Nat} {v : Value} {d : DataW H} {p : List MemPlace} (hval : Value.okWide Try.prog W r b0 24 v) (h : DataW.Trod enc Try.prog W 0 (fun _ => true) true 24 v d p) :
    ∃ o : LuwV, v = o.val ∧ LuwOk o := by
  obtain ⟨v0, v1, v2, y0, y1, y2, n, rfl, _, _, h0, h1, h2⟩ := open_agg3 Try.underlying24 (by kernel_rfl) (by kernel_rfl) hval h
  obtain ⟨k, rfl, k1, k2⟩ := i64_trod Try.underlying3 h0
  obtain ⟨m, rfl, n1⟩ := u32_trod Try.underlying22 h1
  obtain ⟨q, rfl, q1⟩ := u32_trod Try.underlying22 h2
  exact ⟨⟨k, m, q⟩, rfl, k1, k2, n1, q1⟩
end
end Go.Proofs.Yteniponkakaaaaa
