/- Parts Ts Base2 Blk of one proof. -/
import Derived.Test.YtlliaihmfimdoaaGreatMg01
import Derived.Test.YtlliaihmfimdoaaGreatProg
namespace Go.Proofs.YtlliaihmfimdoaaGreat.Oc
set_option maxRecDepth 100000
open Go.Proofs.YtlliaihmfimdoaaGreat
open Go.RowKit
set_option linter.unusedVariables false
theorem Tryz.infoU8 : (Tryz.prog.info? 5).map (fun i => (i.zero, i.size, i.bytes)) = some (some (.int .u8 0), 1, 1) := by kernel_rfl
/-- v as n bytes, the greatest first (what stands above them is left out). -/
def putL (v : Nat) : Nat → List UInt8
  | 0 => []
  | n + 1 => putL (v / 256) n ++ [UInt8.ofNat (v % 256)]
theorem putL_length (v n : Nat) : (putL v n).length = n := by
  induction n generalizing v with
  | zero => rfl
  | succ n ih => simp [putL, ih]
theorem putL_cons (v n : Nat) : putL v (n + 1) = UInt8.ofNat (v / 256 ^ n % 256) :: putL v n := by
  induction n generalizing v with
  | zero => simp [putL]
  | succ n ih =>
    rw [putL, ih (v / 256), putL]
    simp only [List.cons_append]
    rw [Nat.div_div_eq_div_mul, Nat.pow_succ, Nat.mul_comm 256]
/-- What Put answers. -/
def putR (v : Nat) (n : Int) : List UInt8 × Int :=
  if 1 ≤ n ∧ n ≤ 8 then (if v / 256 ^ n.toNat = 0 then (putL v n.toNat, 0) else ([], 10)) else ([], 1)
/-- The outcome of a call that hands out new bytes and an error. -/
def OutB (w : World) (r : List UInt8 × Int) (e : Ending) (w' : World) : Prop :=
  ∃ A c, e = .returned (.tuple #[.slice A r.1.length c, .int .i64 r.2]) ∧ Own w' w.heap.size 5 A c r.1 ∧ Below w.heap.size w w'
theorem shr_u64 (v n : Nat) : (v : Int) / ((2 : Int) ^ (8 * n)) = ((v / 256 ^ n : Nat) : Int) := by
  have : (2 : Nat) ^ (8 * n) = 256 ^ n := by rw [Nat.pow_mul]
  rw [← this]; simp
theorem byte_of (x : Nat) : (x : Int) % 256 = ((UInt8.ofNat (x % 256)).toNat : Int) := by simp
theorem byte_of2 (x : Nat) : (x : Int) % 256 % 256 = ((UInt8.ofNat (x % 256)).toNat : Int) := by simp
theorem byte_at (v j : Nat) : (v : Int) / 256 ^ j % 256 = ((UInt8.ofNat (v / 256 ^ j % 256)).toNat : Int) := by
  have : (v : Int) / 256 ^ j = ((v / 256 ^ j : Nat) : Int) := by simp
  rw [this]
  generalize v / 256 ^ j = x
  simp
theorem replicate_set (k : Nat) (t : List UInt8) (x : UInt8) : (List.replicate (k + 1) (0 : UInt8) ++ t).set k x = List.replicate k 0 ++ x :: t := by
  rw [List.replicate_succ', List.append_assoc, List.set_append_right _ _ (by simp)]
  simp

/-! ### The document's -/
theorem putL_rev_snoc (v n : Nat) : (putL v (n + 1)).reverse = (putL v n).reverse ++ [UInt8.ofNat (v / 256 ^ n % 256)] := by rw [putL_cons]; simp
open Go.RowKit
theorem put_bad (v : Nat) (n : Int) (w : World) (hn : n < 1 ∨ 8 < n) : Calls Tryz.prog 98 #[.int .u64 v, .int .i64 n] w (OutB w ([], 1)) := by
  rcases hn with hn | hn
  all_goals
    go_enter Tryz.func98, Tryz.ntmps98
    go_wp2
    go_ret2
    exact ⟨none, 0, rfl, Own.nil, Below.refl _ _⟩
theorem put_wide (v m : Nat) (w : World) (hv : v < 18446744073709551616) (h1 : 1 ≤ m) (h8 : m ≤ 8) (h : v / 256 ^ m ≠ 0) : Calls Tryz.prog 98 #[.int .u64 v, .int .i64 m] w (OutB w ([], 10)) := by
  have hb : ((v : Int) / 2 ^ (8 * m) != 0) = true := by rw [shr_u64, bne_iff_ne]; omega
  go_enter Tryz.func98, Tryz.ntmps98
  go_wp2
  go_ret2
  exact ⟨none, 0, rfl, Own.nil, Below.refl _ _⟩
theorem put_fits (v m : Nat) (w : World) (hv : v < 18446744073709551616) (h1 : 1 ≤ m) (h8 : m ≤ 8) (h : v / 256 ^ m = 0) : Calls Tryz.prog 98 #[.int .u64 v, .int .i64 m] w (OutB w (putL v m, 0)) := by
  have hb : ((v : Int) / 2 ^ (8 * m) != 0) = false := by rw [shr_u64, h]; rfl
  obtain ⟨i0, hi, hz0, hz1, hz2⟩ := info_parts Tryz.infoU8
  clear h
  go_enter Tryz.func98, Tryz.ntmps98
  go_wp2_with (at_make; refine wpList_make_bs _ rfl _ _ 68 rfl w.heap.size 5 i0 Tryz.underlying68 hi hz0 hz1 hz2 .i64 .i64 _ _ m rfl rfl rfl rfl (by omega) (Nat.le_refl _) ?_; intro w1 hown hgr)
  have hbel := below_none hgr
  clear hb hgr
  go_loopw [0, 7] (fun x i wr => ∃ k j : Nat, k + j = m ∧ i = .int .i64 ((k : Int) - 1) ∧ x = .int .u64 ((v / 256 ^ j : Nat) : Int) ∧ Own wr w.heap.size 5 (some ⟨w.heap.size, 0, none⟩) m (List.replicate k 0 ++ putL v j) ∧ Below w.heap.size w wr)
    (fun _ i _ => (intOf i + 1).toNat)
  case atStart => exact ⟨m, 0, rfl, rfl, by simp, by simpa [putL] using hown, hbel⟩
  case round =>
    obtain ⟨k, j, hkj, rfl, rfl, ho, hb⟩ := hrel
    rcases Nat.eq_zero_or_pos k with rfl | hk
    · go_wp2
      go_ret2
      obtain rfl : j = m := by omega
      exact ⟨_, _, by rw [putL_length]; rfl, by simpa using ho, hb⟩
    · obtain ⟨k, rfl⟩ : ∃ q, k = q + 1 := ⟨k - 1, by omega⟩
      rw [show ((k + 1 : Nat) : Int) - 1 = (k : Int) by omega]
      have hc := ho.cell k (by simp; omega)
      have hf := ho.frozen k
      have hvj : v / 256 ^ j < 18446744073709551616 := Nat.lt_of_le_of_lt (Nat.div_le_self _ _) hv
      go_wp2
      go_roundw
      case rel =>
        refine ⟨k, j + 1, by omega, rfl, ?_, ?_, ?_⟩
        · rw [Nat.pow_succ, ← Nat.div_div_eq_div_mul]; simp
        · rw [byte_at]
          have := (ho.stored k (UInt8.ofNat (v / 256 ^ j % 256))).1
          rwa [replicate_set, ← putL_cons] at this
        · exact hb.setCell (Nat.le_refl _) _
      case measure => simp [intOf]
theorem put_any (v : Nat) (n : Int) (w : World) (hv : v < 18446744073709551616) :
    Calls Tryz.prog 98 #[.int .u64 v, .int .i64 n] w (OutB w (putR v n)) := by
  by_cases hn : 1 ≤ n ∧ n ≤ 8
  · obtain ⟨m, rfl⟩ := Int.eq_ofNat_of_zero_le (show 0 ≤ n by omega)
    by_cases h : v / 256 ^ m = 0
    · rw [show putR v m = (putL v m, 0) by unfold putR; rw [if_pos hn, Int.toNat_natCast, if_pos h]]
      exact put_fits v m w hv (by omega) (by omega) h
    · rw [show putR v m = ([], 10) by unfold putR; rw [if_pos hn, Int.toNat_natCast, if_neg h]]
      exact put_wide v m w hv (by omega) (by omega) h
  · rw [show putR v n = ([], 1) from if_neg hn]
    exact put_bad v n w (by omega)
open Go.RowKit
def num (l : List UInt8) : Nat := l.foldl (fun v x => 256 * v + x.toNat) 0
theorem num_snoc (l : List UInt8) (x : UInt8) : num (l ++ [x]) = 256 * num l + x.toNat := by simp [num]
theorem num_lt (l : List UInt8) : num l < 256 ^ l.length := by
  induction l using snoc_ind with
  | h0 => simp [num]
  | h1 l x ih => rw [num_snoc]; have := x.toNat_lt; simp [Nat.pow_succ]; omega
theorem num_take_lt (l : List UInt8) (k : Nat) (h8 : l.length ≤ 8) (hk : k < l.length) : num (l.take k) < 72057594037927936 := by
  have h1 := num_lt (l.take k)
  have h2 : (l.take k).length ≤ 7 := by simp; omega
  have h3 : 256 ^ (l.take k).length ≤ 256 ^ 7 := Nat.pow_le_pow_right (by omega) h2
  have : (256 : Nat) ^ 7 = 72057594037927936 := by decide
  omega
theorem num_lt64 (l : List UInt8) (h8 : l.length ≤ 8) : num l < 18446744073709551616 := by
  have h1 := num_lt l
  have h3 : 256 ^ l.length ≤ 256 ^ 8 := Nat.pow_le_pow_right (by omega) h8
  have : (256 : Nat) ^ 8 = 18446744073709551616 := by decide
  omega
theorem shl8_or (v x : Nat) (hv : v < 72057594037927936) (hx : x < 256) : bits .or .u64 ((v : Int) * 256) (x : Int) = ((256 * v + x : Nat) : Int) := by
  have : ((v : Int) * 256) = ((2 ^ 8 * v : Nat) : Int) := by omega
  rw [this, u64_or_nat _ _ (by omega) (by omega), ← Nat.two_pow_add_eq_or_of_lt hx]
/-- What Get answers. -/
def getR (l : List UInt8) : Nat × Int := if 1 ≤ l.length ∧ l.length ≤ 8 then (num l, 0) else (0, 1)
set_option maxHeartbeats 400000 in
theorem get_any (A : Option Addr) (l : List UInt8) (c : Nat) (w : World) (hm : l.length ≤ 9223372036854775807) (h : Bs w w.heap.size A l) :
    Calls Tryz.prog 100 #[.slice A l.length c] w fun e w' => e = .returned (.tuple #[.int .u64 (getR l).1, .int .i64 (getR l).2]) ∧ w = w' := by
  by_cases h1 : 1 ≤ l.length
  · by_cases h8 : l.length ≤ 8
    · have hr : getR l = (num l, 0) := if_pos ⟨h1, h8⟩
      obtain ⟨b, o, rfl, hb, hc⟩ := h (by omega)
      rw [hr]; clear hr
      go_enter Tryz.func100, Tryz.ntmps100
      go_wp2
      go_loop [4, 17] (fun v i => ∃ k : Nat, k ≤ l.length ∧ i = .int .i64 k ∧ v = .int .u64 (num (l.take k))) (fun _ i => l.length - (intOf i).toNat)
      case atStart => exact ⟨0, Nat.zero_le _, rfl, by simp [num]⟩
      case round =>
        obtain ⟨k, hk, rfl, rfl⟩ := hrel
        by_cases hlt : k < l.length
        · have hck := hc k hlt
          have hx := (l[k]).toNat_lt
          have hv := num_take_lt l k h8 hlt
          go_wp2
          go_round
          case rel => exact ⟨k + 1, by omega, by go_num, by rw [take_snoc l k hlt, num_snoc, shl8_or _ _ hv hx]⟩
          case measure => simp [intOf]; omega
        · go_wp2
          go_ret2
          exact ⟨by rw [List.take_of_length_le (by omega)]; rfl, rfl⟩
    · rw [show getR l = (0, 1) from if_neg (by omega)]
      go_enter Tryz.func100, Tryz.ntmps100
      go_wp2
      go_ret2
      exact ⟨rfl, rfl⟩
  · rw [show getR l = (0, 1) from if_neg (by omega)]
    go_enter Tryz.func100, Tryz.ntmps100
    go_wp2
    go_ret2
    exact ⟨rfl, rfl⟩
end Go.Proofs.YtlliaihmfimdoaaGreat.Oc

namespace Go.Proofs.YtlliaihmfimdoaaGreat
open Go.RowKit
set_option linter.unusedVariables false

/-- append to a slice that is nil. -/
theorem wpList_append_nil {P : Program} (w : World) {ops : Array Oper} {rest : List Oper} {o : Oper} {a : Act} {Q : Exit → Act → World → Prop} (hgd : o.guard = none) (s x : Operand) (t : TypeId)
    (ho : o.op = .call { callee := .builtin .append, args := #[s, x], argTypes := #[t, t] })
    (base : Nat) (e : TypeId) (i : TypeInfo) (z : Value) (ht : P.underlying t = some (.slice e)) (hi : P.info? e = some i) (hz : i.zero = some z)
    (hsize : i.size = 1) (hby : i.bytes = 1) (hzs : z.cells.size = 1) (hs : a.eval s = .slice none 0 0)
    (B : Nat) (A' : Option Addr) (c' : Nat) (m : List UInt8) (n' : Nat) (hx : a.eval x = .slice A' n' c') (hn' : n' = m.length) (hr : Bs w B A' m) (hlen : m.length ≤ 140737488355328) (hbase : base ≤ w.heap.size)
    (h : ∀ A2 c2 w', Own w' base e A2 c2 m → Below w.heap.size w w' → wpList P ops Q rest (a.put o.dst (.slice A2 n' c2)) w') : wpList P ops Q (o :: rest) a w := by
  refine wpList_append_bs w hgd s x t ho base e i z ht hi hz hsize hby hzs none 0 [] 0 hs rfl Own.nil B A' c' m n' hx hn' hr (by simpa using hlen) hbase ?_
  intro A2 c2 w' h1 h2 h3
  rw [Nat.zero_add]
  exact h A2 c2 w' h1 (below_none h2)

theorem bt {a b c : World} (h : Below a.heap.size a b) (k : Below b.heap.size b c) : Below a.heap.size a c := h.trans (k.mono h.size)
theorem ba (w : World) (o : Obj) : Below w.heap.size w (w.alloc o) := (Below.refl _ _).alloc (Nat.le_refl _) o
/-- Bytes that lie in what was there, behind a call. -/
theorem Bs.bt {w w' : World} {A : Option Addr} {l : List UInt8} (h : Bs w w.heap.size A l) (hb : Below w.heap.size w w') : Bs w' w'.heap.size A l := (h.below hb).more hb.size

/-! ### A block of bytes that is known whole -/
def Raw (w : World) (g : Nat) (e : TypeId) (L : List UInt8) : Prop := w.heap[g]? = some (.cells (bv L).toArray e (0, 0))
section
variable {w w' : World} {g : Nat} {e : TypeId} {L : List UInt8}
theorem Raw.lt (h : Raw w g e L) : g < w.heap.size := (Array.getElem?_eq_some_iff.1 h).1
theorem Raw.own (h : Raw w g e L) {base : Nat} (hb : base ≤ g) (hm : L.length ≤ maxLen) : Own w base e (some ⟨g, 0, none⟩) L.length L :=
  ⟨by simp [bv], .inr ⟨g, L.length, (bv L).toArray, rfl, hb, h, Nat.le_refl _, hm, by simp [bv], List.take_of_length_le (by simp [bv])⟩⟩
theorem Raw.cell (h : Raw w g e L) (i : Nat) (hi : i < L.length) : w.cell? ⟨g, i, none⟩ = some (.int .u8 ((L[i]'hi).toNat : Int)) := by
  rw [cell_of_row w g i _ e (0, 0) h]; simp [bv, hi]
theorem Raw.frozen (h : Raw w g e L) (i : Nat) : w.frozen? ⟨g, i, none⟩ = false := frozen_of_row w g i _ e h
theorem Raw.bs (h : Raw w g e L) {B : Nat} (hB : g < B) : Bs w B (some ⟨g, 0, none⟩) L := fun _ => ⟨g, 0, rfl, hB, fun i hi => by rw [Nat.zero_add]; exact h.cell i hi⟩
theorem Raw.stored (h : Raw w g e L) (j : Nat) (x : UInt8) : Raw (w.setCell ⟨g, j, none⟩ (.int .u8 (x.toNat : Int))) g e (L.set j x) := by
  unfold Raw
  rw [heap_setCell_same w g j _ e _ h, ← bv_set]
  simp
theorem Raw.below {B : Nat} (h : Raw w g e L) (hb : Below B w w') (hg : g < B) : Raw w' g e L := (hb.block g hg).trans h
theorem Raw.kept {row : Option Nat} (h : Raw w g e L) (hb : w.grownBy w' row) (hg : some g ≠ row) : Raw w' g e L := (hb.block g h.lt hg).trans h
theorem Raw.alloc (h : Raw w g e L) (o : Obj) : Raw (w.alloc o) g e L := (Below.heap_alloc w o g h.lt).trans h
theorem Raw.drew (h : Raw w g e L) : Raw w.drew g e L := h
theorem Raw.far (h : Raw w g e L) {p : Addr} (hp : g ≠ p.block) (u : Value) : Raw (w.setCell p u) g e L := (Below.heap_setCell w p u g hp).trans h
end

theorem wpList_make_raw {P : Program} (w : World) {ops : Array Oper} {rest : List Oper} {o : Oper} {a : Act} {Q : Exit → Act → World → Prop}
    (hg : o.guard = none) (l c : Operand) (t : TypeId) (hop : o.op = Op.makeSlice t l c)
    (e : TypeId) (i : TypeInfo) (h1 : P.underlying t = some (.slice e)) (h2 : P.info? e = some i) (h3 : i.zero = some (.int .u8 0)) (h4 : i.size = 1) (h5 : i.bytes = 1)
    (kl kc : IntKind) (L C : Int) (n : Nat) (hl : a.eval l = .int kl L) (hc : a.eval c = .int kc C) (hL : L = (n : Int)) (hC : C = (n : Int)) (b2 : n ≤ 281474976710656)
    (hK : ∀ w', Hid (Raw w' w.heap.size e (List.replicate n 0)) → Below w.heap.size w w' → wpList P ops Q rest (a.put o.dst (.slice (some ⟨w.heap.size, 0, none⟩) n n)) w') :
    wpList P ops Q (o :: rest) a w := by
  refine wpList_plain hg fun K hK' => ?_
  have hr := run_make (P := P) w t e i (.int .u8 0) h1 h2 h3 kl kc n n (by omega) (by omega) (by rw [h5]; omega) (by omega)
  subst hL
  subst hC
  unfold Oper.wp
  simp only [Int.toNat_natCast] at hr
  simp [execOp, hop, hl, hc, hr, Result.andThen]
  refine hK' _ _ (hK _ ?_ ((Below.refl _ _).alloc (Nat.le_refl _) _))
  show _ = _
  rw [heap_alloc_new, h4, Nat.mul_one]
  have e1 : (madeCells (Value.int IntKind.u8 0).cells n) = (bv (List.replicate n 0)).toArray := by
    apply Array.ext'
    rw [show (Value.int IntKind.u8 0).cells = #[.int .u8 0] from rfl, toList_madeCells_one]
    simp [bv]
  rw [e1]

theorem bv_splice (L : List UInt8) (off : Nat) (m : List UInt8) : splice (bv L) off (bv m) = bv (splice L off m) := by
  simp [splice, bv, List.map_take, List.map_drop]
theorem splice_head (l : List UInt8) (n : Nat) : splice (List.replicate (l.length + n) 0) 0 l = l ++ List.replicate n 0 := by simp [splice]
theorem splice_tail (l m : List UInt8) (k : Nat) (hk : k = m.length) : splice (l ++ List.replicate k 0) l.length m = l ++ m := by subst hk; simp [splice]

theorem wpList_copy_raw {P : Program} {w : World} {ops : Array Oper} {rest : List Oper} {o : Oper} {a : Act} {Q : Exit → Act → World → Prop} (hgd : o.guard = none) (d s : Operand) (t : TypeId)
    (ho : o.op = .call { callee := .builtin .copy, args := #[d, s], argTypes := #[t, t] }) (e : TypeId) (i : TypeInfo) (hu : P.underlying t = some (.slice e)) (h2 : P.info? e = some i) (h4 : i.size = 1)
    (dp sp : Option Addr) (dLen dCap sLen sCap : Nat) (hd : a.eval d = .slice dp dLen dCap) (hs : a.eval s = .slice sp sLen sCap)
    (g off : Nat) (L : List UInt8) (hg : Hid (Raw w g e L)) (B : Nat) (m : List UInt8) (hr : Bs w B sp m) (hn : sLen = m.length) (hle : m.length ≤ dLen)
    (hpos : 0 < m.length → dp = some ⟨g, off, none⟩) (hfit : off + m.length ≤ L.length) (B0 : Nat) (w0 : World) (hb : Below B0 w0 w) (hBg : B0 ≤ g)
    (h : ∀ w', Hid (Raw w' g e (splice L off m)) → Below B0 w0 w' → wpList P ops Q rest (a.put o.dst (goInt m.length)) w') :
    wpList P ops Q (o :: rest) a w := by
  have hlen : (bv m).length = m.length := bv_length m
  refine wpList_copy_splice hgd d s t t ho e hu (by rw [h2]; simp [h4]) dp sp dLen dCap sLen sCap hd hs g off (bv L) e hg.out (bv m) (by rw [hlen, hn]; exact (Nat.min_eq_left hle).symm) ?_ (by rw [hlen, bv_length]; exact hfit)
    (fun v hv => by obtain ⟨x, _, rfl⟩ := List.mem_map.1 hv; rfl) B0 w0 hb hBg ?_
  · intro hp
    rw [hlen] at hp
    obtain ⟨b, o', rfl, _, hc⟩ := hr hp
    refine ⟨hpos hp, _, rfl, fun j v hj => ?_⟩
    have hjl : j < m.length := by have := (List.getElem?_eq_some_iff.1 hj).1; simpa [bv] using this
    rw [bv_get m j hjl] at hj
    rw [Addr.add_lit, hc j hjl]; exact hj
  · intro w' hw' hb'
    rw [hlen]
    refine h w' ?_ hb'
    rw [bv_splice] at hw'
    exact hw'
end Go.Proofs.YtlliaihmfimdoaaGreat

namespace Go.Proofs.YtlliaihmfimdoaaGreat
open Go.RowKit
set_option linter.unusedVariables false

/-- A block that is known whole. -/
def Blk (w : World) (g : Nat) (t : TypeId) (cs : Array Value) : Prop := w.heap[g]? = some (.cells cs t (0, 0))
section
variable {w w' : World} {g : Nat} {t : TypeId} {cs : Array Value}
theorem Blk.lt (h : Blk w g t cs) : g < w.heap.size := (Array.getElem?_eq_some_iff.1 h).1
theorem Blk.cell (h : Blk w g t cs) (i : Nat) : w.cell? ⟨g, i, none⟩ = cs[i]? := cell_of_row w g i cs t (0, 0) h
theorem Blk.frozen (h : Blk w g t cs) (i : Nat) : w.frozen? ⟨g, i, none⟩ = false := frozen_of_row w g i cs t h
theorem Blk.new (w : World) (t : TypeId) (cs : Array Value) : Blk (w.alloc (.cells cs t)) w.heap.size t cs := heap_alloc_new w _
theorem Blk.alloc (h : Blk w g t cs) (o : Obj) : Blk (w.alloc o) g t cs := (Below.heap_alloc w o g h.lt).trans h
theorem Blk.set_ (h : Blk w g t cs) (i : Nat) (u : Value) : Blk (w.setCell ⟨g, i, none⟩ u) g t (cs.setIfInBounds i u) := heap_setCell_same w g i cs t u h
theorem Blk.far (h : Blk w g t cs) {p : Addr} (hp : g ≠ p.block) (u : Value) : Blk (w.setCell p u) g t cs := (Below.heap_setCell w p u g hp).trans h
theorem Blk.below {B : Nat} (h : Blk w g t cs) (hb : Below B w w') (hg : g < B) : Blk w' g t cs := (hb.block g hg).trans h
theorem Blk.kept {row : Option Nat} (h : Blk w g t cs) (hb : w.grownBy w' row) (hg : some g ≠ row) : Blk w' g t cs := (hb.block g h.lt hg).trans h
theorem Blk.ne_raw {g' : Nat} {e : TypeId} {L : List UInt8} (h : Blk w g t cs) (h' : Raw w g' e L) (hne : t ≠ e) : g ≠ g' := by
  rintro rfl
  unfold Blk at h
  unfold Raw at h'
  rw [h] at h'
  injection h' with h'
  injection h' with _ ht
  exact hne ht
theorem Blk.ne {g' : Nat} {t' : TypeId} {cs' : Array Value} (h : Blk w g t cs) (h' : Blk w g' t' cs') (hne : t ≠ t') : g ≠ g' := by
  rintro rfl
  unfold Blk at h h'
  rw [h] at h'
  injection h' with h'
  injection h' with _ ht
  exact hne ht
end

/-! ### Three cells, stored one after the other -/
section
variable {w : World} {g : Nat} {t : TypeId} {x' y' z' x y z : Value}
theorem Blk.set3 (h : Blk w g t #[x', y', z']) : Blk (((w.setCell ⟨g, 0, none⟩ x).setCell ⟨g, 1, none⟩ y).setCell ⟨g, 2, none⟩ z) g t #[x, y, z] := by
  simpa using ((h.set_ 0 x).set_ 1 y).set_ 2 z
theorem Blk.set3_0 (h : Blk w g t #[x', y', z']) : (w.setCell ⟨g, 0, none⟩ x).cell? ⟨g, 0, none⟩ = some x := by
  have := (h.set_ 0 x).cell 0
  simpa using this
theorem Blk.set3_1 (h : Blk w g t #[x', y', z']) : ((w.setCell ⟨g, 0, none⟩ x).setCell ⟨g, 1, none⟩ y).cell? ⟨g, 1, none⟩ = some y := by
  have := ((h.set_ 0 x).set_ 1 y).cell 1
  simpa using this
theorem Blk.set3_2 (h : Blk w g t #[x', y', z']) : (((w.setCell ⟨g, 0, none⟩ x).setCell ⟨g, 1, none⟩ y).setCell ⟨g, 2, none⟩ z).cell? ⟨g, 2, none⟩ = some z := by
  have := h.set3 (x := x) (y := y) (z := z) |>.cell 2
  simpa using this
end
theorem below_set3 {B : Nat} {a w : World} (h : Below B a w) {g : Nat} (hg : B ≤ g) (x y z : Value) : Below B a (((w.setCell ⟨g, 0, none⟩ x).setCell ⟨g, 1, none⟩ y).setCell ⟨g, 2, none⟩ z) :=
  ((h.setCell hg _).setCell hg _).setCell hg _

end Go.Proofs.YtlliaihmfimdoaaGreat
