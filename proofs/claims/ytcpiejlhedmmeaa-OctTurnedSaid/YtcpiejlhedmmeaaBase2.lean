/- More on bytes in memory. -/
import Derived.Test.YtcpiejlhedmmeaaBase
namespace Go.Proofs.Ytcpiejlhedmmeaa
open Go.RowKit
set_option linter.unusedVariables false

/-- append to a slice that is nil. -/
theorem wpList_append_nil {P : Program} (w : World) {ops : Array Oper} {rest : List Oper} {o : Oper} {a : Act} {Q : Exit → Act → World → Prop} (hgd : o.guard = none) (s x : Operand) (t : TypeId)
    (ho : o.op = .call { callee := .builtin .append, args := #[s, x], argTypes := #[t, t] })
    (base : Nat) (e : TypeId) (i : TypeInfo) (z : Value) (ht : P.underlying t = some (.slice e)) (hi : P.info? e = some i) (hz : i.zero = some z)
    (hsize : i.size = 1) (hby : i.bytes = 1) (hzs : z.cells.size = 1) (hs : a.eval s = .slice none 0 0)
    (B : Nat) (A' : Option Addr) (c' : Nat) (m : List UInt8) (n' : Nat) (hx : a.eval x = .slice A' n' c') (hn' : n' = m.length) (hr : Bs w B A' m) (hlen : m.length ≤ 140737488355328) (hbase : base ≤ w.heap.size)
    (h : ∀ A2 c2 w', Own w' base e A2 c2 m → Below w.heap.size w w' → wpList P ops Q rest (a.put o.dst (.slice A2 n' c2)) w') : wpList P ops Q (o :: rest) a w := by
  refine wpList_append_bs w hgd s x t ho base e i z ht hi hz hsize hby hzs none 0 [] 0 hs rfl Own.nil B A' c' m n' hx hn' hr (by simpa using hlen) hbase ?_
  intro A2 c2 w' h1 h2 h3
  rw [Nat.zero_add]
  exact h A2 c2 w' h1 (below_none h2)

theorem bt {a b c : World} (h : Below a.heap.size a b) (k : Below b.heap.size b c) : Below a.heap.size a c := h.trans (k.mono h.size)
theorem ba (w : World) (o : Obj) : Below w.heap.size w (w.alloc o) := (Below.refl _ _).alloc (Nat.le_refl _) o
/-- Bytes that lie in what was there, behind a call. -/
theorem Bs.bt {w w' : World} {A : Option Addr} {l : List UInt8} (h : Bs w w.heap.size A l) (hb : Below w.heap.size w w') : Bs w' w'.heap.size A l := (h.below hb).more hb.size
end Go.Proofs.Ytcpiejlhedmmeaa
