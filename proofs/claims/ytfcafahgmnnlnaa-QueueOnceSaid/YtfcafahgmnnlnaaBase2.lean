/- More on bytes in memory. -/
import Derived.Test.YtfcafahgmnnlnaaBase
namespace Go.Proofs.Ytfcafahgmnnlnaa
open Go.RowKit
set_option linter.unusedVariables false

/-- append to a slice that is nil. -/
theorem wpList_append_nil {P : Program} (w : World) {ops : Array Oper} {rest : List Oper} {o : Oper} {a : Act} {Q : Exit → Act → World → Prop} (hgd : o.guard = none) (s x : Operand) (t : TypeId)
    (ho : o.op = .call { callee := .builtin .append, args := #[s, x], argTypes := #[t, t] })
    (base : Nat) (e : TypeId) (i : TypeInfo) (z : Value) (ht : P.underlying t = some (.slice e)) (hi : P.info? e = some i) (hz : i.zero = some z)
    (hsize : i.size = 1) (hby : i.bytes = 1) (hzs : z.cells.size = 1) (hs : a.eval s = .slice none 0 0)
    (B : Nat) (A' : Option Addr) (c' : Nat) (m : List UInt8) (n' : Nat) (hx : a.eval x = .slice A' n' c') (hn' : n' = m.length) (hr : Bs w B A' m) (hlen : m.length ≤ 140737488355328) (hbase : base ≤ w.heap.size)
    (h : ∀ A2 c2 w', Own w' base e A2 c2 m → Below w.heap.size w w' → wpList P ops Q rest (a.put o.dst (.slice A2 n' c2)) w') : wpList P ops Q (o :: rest) a w := by
  refine wpList_append_bs w hgd s x t ho base e i z ht hi hz hsize hby hzs none 0 [] 0 hs rfl Own.nil B A' c' m n' hx hn' hr (by simpa using hlen) hbase ?_
  intro A2 c2 w' h1 h2 h3
  rw [Nat.zero_add]
  exact h A2 c2 w' h1 (below_none h2)

theorem bt {a b c : World} (h : Below a.heap.size a b) (k : Below b.heap.size b c) : Below a.heap.size a c := h.trans (k.mono h.size)
theorem ba (w : World) (o : Obj) : Below w.heap.size w (w.alloc o) := (Below.refl _ _).alloc (Nat.le_refl _) o
/-- Bytes that lie in what was there, behind a call. -/
theorem Bs.bt {w w' : World} {A : Option Addr} {l : List UInt8} (h : Bs w w.heap.size A l) (hb : Below w.heap.size w w') : Bs w' w'.heap.size A l := (h.below hb).more hb.size

/-! ### A block of bytes that is known whole -/
def Raw (w : World) (g : Nat) (e : TypeId) (L : List UInt8) : Prop := w.heap[g]? = some (.cells (bv L).toArray e (0, 0))
section
variable {w w' : World} {g : Nat} {e : TypeId} {L : List UInt8}
theorem Raw.lt (h : Raw w g e L) : g < w.heap.size := (Array.getElem?_eq_some_iff.1 h).1
theorem Raw.own (h : Raw w g e L) {base : Nat} (hb : base ≤ g) (hm : L.length ≤ maxLen) : Own w base e (some ⟨g, 0, none⟩) L.length L :=
  ⟨by simp [bv], .inr ⟨g, L.length, (bv L).toArray, rfl, hb, h, Nat.le_refl _, hm, by simp [bv], List.take_of_length_le (by simp [bv])⟩⟩
theorem Raw.cell (h : Raw w g e L) (i : Nat) (hi : i < L.length) : w.cell? ⟨g, i, none⟩ = some (.int .u8 ((L[i]'hi).toNat : Int)) := by
  rw [cell_of_row w g i _ e (0, 0) h]; simp [bv, hi]
theorem Raw.frozen (h : Raw w g e L) (i : Nat) : w.frozen? ⟨g, i, none⟩ = false := frozen_of_row w g i _ e h
theorem Raw.bs (h : Raw w g e L) {B : Nat} (hB : g < B) : Bs w B (some ⟨g, 0, none⟩) L := fun _ => ⟨g, 0, rfl, hB, fun i hi => by rw [Nat.zero_add]; exact h.cell i hi⟩
theorem Raw.stored (h : Raw w g e L) (j : Nat) (x : UInt8) : Raw (w.setCell ⟨g, j, none⟩ (.int .u8 (x.toNat : Int))) g e (L.set j x) := by
  unfold Raw
  rw [heap_setCell_same w g j _ e _ h, ← bv_set]
  simp
theorem Raw.below {B : Nat} (h : Raw w g e L) (hb : Below B w w') (hg : g < B) : Raw w' g e L := (hb.block g hg).trans h
theorem Raw.kept {row : Option Nat} (h : Raw w g e L) (hb : w.grownBy w' row) (hg : some g ≠ row) : Raw w' g e L := (hb.block g h.lt hg).trans h
theorem Raw.alloc (h : Raw w g e L) (o : Obj) : Raw (w.alloc o) g e L := (Below.heap_alloc w o g h.lt).trans h
theorem Raw.drew (h : Raw w g e L) : Raw w.drew g e L := h
theorem Raw.far (h : Raw w g e L) {p : Addr} (hp : g ≠ p.block) (u : Value) : Raw (w.setCell p u) g e L := (Below.heap_setCell w p u g hp).trans h
end

theorem wpList_make_raw {P : Program} (w : World) {ops : Array Oper} {rest : List Oper} {o : Oper} {a : Act} {Q : Exit → Act → World → Prop}
    (hg : o.guard = none) (l c : Operand) (t : TypeId) (hop : o.op = Op.makeSlice t l c)
    (e : TypeId) (i : TypeInfo) (h1 : P.underlying t = some (.slice e)) (h2 : P.info? e = some i) (h3 : i.zero = some (.int .u8 0)) (h4 : i.size = 1) (h5 : i.bytes = 1)
    (kl kc : IntKind) (L C : Int) (n : Nat) (hl : a.eval l = .int kl L) (hc : a.eval c = .int kc C) (hL : L = (n : Int)) (hC : C = (n : Int)) (b2 : n ≤ 281474976710656)
    (hK : ∀ w', Hid (Raw w' w.heap.size e (List.replicate n 0)) → Below w.heap.size w w' → wpList P ops Q rest (a.put o.dst (.slice (some ⟨w.heap.size, 0, none⟩) n n)) w') :
    wpList P ops Q (o :: rest) a w := by
  refine wpList_plain hg fun K hK' => ?_
  have hr := run_make (P := P) w t e i (.int .u8 0) h1 h2 h3 kl kc n n (by omega) (by omega) (by rw [h5]; omega) (by omega)
  subst hL
  subst hC
  unfold Oper.wp
  simp only [Int.toNat_natCast] at hr
  simp [execOp, hop, hl, hc, hr, Result.andThen]
  refine hK' _ _ (hK _ ?_ ((Below.refl _ _).alloc (Nat.le_refl _) _))
  show _ = _
  rw [heap_alloc_new, h4, Nat.mul_one]
  have e1 : (madeCells (Value.int IntKind.u8 0).cells n) = (bv (List.replicate n 0)).toArray := by
    apply Array.ext'
    rw [show (Value.int IntKind.u8 0).cells = #[.int .u8 0] from rfl, toList_madeCells_one]
    simp [bv]
  rw [e1]

theorem bv_splice (L : List UInt8) (off : Nat) (m : List UInt8) : splice (bv L) off (bv m) = bv (splice L off m) := by
  simp [splice, bv, List.map_take, List.map_drop]
theorem splice_head (l : List UInt8) (n : Nat) : splice (List.replicate (l.length + n) 0) 0 l = l ++ List.replicate n 0 := by simp [splice]
theorem splice_tail (l m : List UInt8) (k : Nat) (hk : k = m.length) : splice (l ++ List.replicate k 0) l.length m = l ++ m := by subst hk; simp [splice]

theorem wpList_copy_raw {P : Program} {w : World} {ops : Array Oper} {rest : List Oper} {o : Oper} {a : Act} {Q : Exit → Act → World → Prop} (hgd : o.guard = none) (d s : Operand) (t : TypeId)
    (ho : o.op = .call { callee := .builtin .copy, args := #[d, s], argTypes := #[t, t] }) (e : TypeId) (i : TypeInfo) (hu : P.underlying t = some (.slice e)) (h2 : P.info? e = some i) (h4 : i.size = 1)
    (dp sp : Option Addr) (dLen dCap sLen sCap : Nat) (hd : a.eval d = .slice dp dLen dCap) (hs : a.eval s = .slice sp sLen sCap)
    (g off : Nat) (L : List UInt8) (hg : Hid (Raw w g e L)) (B : Nat) (m : List UInt8) (hr : Bs w B sp m) (hn : sLen = m.length) (hle : m.length ≤ dLen)
    (hpos : 0 < m.length → dp = some ⟨g, off, none⟩) (hfit : off + m.length ≤ L.length) (B0 : Nat) (w0 : World) (hb : Below B0 w0 w) (hBg : B0 ≤ g)
    (h : ∀ w', Hid (Raw w' g e (splice L off m)) → Below B0 w0 w' → wpList P ops Q rest (a.put o.dst (goInt m.length)) w') :
    wpList P ops Q (o :: rest) a w := by
  have hlen : (bv m).length = m.length := bv_length m
  refine wpList_copy_splice hgd d s t t ho e hu (by rw [h2]; simp [h4]) dp sp dLen dCap sLen sCap hd hs g off (bv L) e hg.out (bv m) (by rw [hlen, hn]; exact (Nat.min_eq_left hle).symm) ?_ (by rw [hlen, bv_length]; exact hfit)
    (fun v hv => by obtain ⟨x, _, rfl⟩ := List.mem_map.1 hv; rfl) B0 w0 hb hBg ?_
  · intro hp
    rw [hlen] at hp
    obtain ⟨b, o', rfl, _, hc⟩ := hr hp
    refine ⟨hpos hp, _, rfl, fun j v hj => ?_⟩
    have hjl : j < m.length := by have := (List.getElem?_eq_some_iff.1 hj).1; simpa [bv] using this
    rw [bv_get m j hjl] at hj
    rw [Addr.add_lit, hc j hjl]; exact hj
  · intro w' hw' hb'
    rw [hlen]
    refine h w' ?_ hb'
    rw [bv_splice] at hw'
    exact hw'
end Go.Proofs.Ytfcafahgmnnlnaa
