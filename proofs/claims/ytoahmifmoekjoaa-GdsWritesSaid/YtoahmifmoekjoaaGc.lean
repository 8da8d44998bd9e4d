/- Layer 4: the pieces of a variable's data, as they are handed to a loop. -/
import Derived.Test.YtoahmifmoekjoaaGb
import Derived.Test.YtoahmifmoekjoaaSeq
import Derived.Shelf.Abstract
import Derived.Shelf.RegionOpen
import Derived.WalkKit
import Derived.OwnWalkIn
import Derived.TacticsInMore
import Derived.LoopNIn
import Derived.LoopIn
namespace Go.Proofs.Ytoahmifmoekjoaa
open Go.RowKit Go.Shelf
attribute [local go_sem] Oper.semAt_some
set_option linter.unusedVariables false
set_option linter.unusedSimpArgs false

/-- The pieces of d, of seg bytes each, and which is the last one. -/
def piecesL (seg : Nat) : Nat → List UInt8 → List (List UInt8 × Bool)
  | 0, d => [(d, true)]
  | k + 1, d => if seg < d.length then (d.take seg, false) :: piecesL seg k (d.drop seg) else [(d, true)]
theorem piecesL_last {seg k : Nat} {d : List UInt8} (h : ¬ seg < d.length) : piecesL seg k d = [(d, true)] := by
  cases k with
  | zero => rfl
  | succ k => rw [piecesL, if_neg h]

/-- A piece that lies in what was there. -/
structure PV where
  A : Option Addr
  l : List UInt8
  c : Nat
  last : Bool
def POk (w : World) (x : PV) : Prop := Bs w w.heap.size x.A x.l ∧ x.l.length ≤ 2048
def PVal (w : World) : Type := { x : PV // POk w x }
def encP {w : World} (x : PVal w) : Array Value := #[.slice x.1.A x.1.l.length x.1.c, .bool x.1.last]
def conP {w : World} (x : PVal w) : List UInt8 × Bool := (x.1.l, x.1.last)
/-- What a round keeps of what the iterator reads. -/
def KpP (w : World) (D0 S0 : Nat) (W W' : World) : Prop := W'.heap[D0]? = W.heap[D0]? ∧ W'.heap[S0]? = W.heap[S0]? ∧ Below w.heap.size W W'
def cellLen (W : World) (D0 : Nat) : Nat := match W.cell? ⟨D0, 0, none⟩ with | some (.slice _ n _) => n | _ => 0
theorem cellLen_eq {W : World} {D0 : Nat} {A : Option Addr} {n c : Nat} (h : W.cell? ⟨D0, 0, none⟩ = some (.slice A n c)) : cellLen W D0 = n := by
  unfold cellLen; rw [h]

set_option maxHeartbeats 1000000 in
theorem pieces1_in (F : Fence) (n : Nat) (hf : F.fn 25) (hround : F.round = none) (hn : 1 ≤ n) (l D0 S0 seg : Nat) (A : Option Addr) (data : List UInt8) (c : Nat) (w : World)
    (hs1 : 1 ≤ seg) (hs2 : seg ≤ 2048) (hdl : data.length ≤ 2048) (hcap : data.length ≤ c) (hc2 : c ≤ 9223372036854775807) (hbs : Bs w w.heap.size A data)
    (J : List (PVal w) → World → Prop) (hJ : ∀ s W v, J s W → J s (W.setCell ⟨D0, 0, none⟩ v))
    (hY : ∀ pre x W, J pre W → pre.length < data.length + 1 → YieldAt F (n - 1) Try.prog l (encP x) W fun e W' => e = .returned (.bool true) ∧ J (pre ++ [x]) W' ∧ KpP w D0 S0 W W')
    (W : World) (hD : Blk W D0 22 #[.slice A data.length c]) (hS : Blk W S0 3 #[.int .i64 seg]) (hb : Below w.heap.size w W) (hlt : w.heap.size ≤ D0) (hne : S0 ≠ D0) (h0 : J [] W) :
    CallsIn F n Try.prog 25 #[.func (.yield l) #[] #[], .pointer (some ⟨D0, 0, none⟩), .pointer (some ⟨S0, 0, none⟩)] W fun e W' => (∃ v, e = .returned v) ∧ ∃ xs, xs.map conP = piecesL seg data.length data ∧ J xs W' := by
  refine callsIn_of_wp Try.func25 rfl hf ?_ hround
  simp only [Try.ntmps25, List.size_toArray, List.length_cons, List.length_nil, Nat.reduceAdd, Nat.reduceSub, Array.replicate_succ, Array.replicate_zero, List.push_toArray, List.append_toArray, List.nil_append, List.cons_append]
  obtain ⟨T, hT⟩ : ∃ T, T = piecesL seg data.length data := ⟨_, rfl⟩
  rw [← hT]
  have HT := Lib.hid hT
  clear hT
  gi_wp2
  gi_loopw [4] (fun q wr => ∃ (pre : List (PVal w)) (d : List UInt8) (A' : Option Addr) (c' k : Nat), Hid (pre.map conP ++ piecesL seg k d = T) ∧ pre.length + k = data.length ∧ d.length ≤ k ∧ d.length ≤ 2048 ∧ d.length ≤ c' ∧ c' ≤ 9223372036854775807 ∧ Bs w w.heap.size A' d ∧
      Blk wr D0 22 #[.slice A' d.length c'] ∧ Blk wr S0 3 #[.int .i64 seg] ∧ Below w.heap.size w wr ∧ J pre wr)
    (fun _ wr => cellLen wr D0)
  case atStart => exact ⟨[], data, A, c, data.length, Lib.hid (by rw [HT.out]; rfl), by simp, Nat.le_refl _, hdl, hcap, hc2, hbs, hD, hS, hb, h0⟩
  case round =>
    obtain ⟨pre, d, A', c', k, hT2, hk, hdk, hd2, hdc, hcm, hbd, hD1, hS1, hb1, hJ1⟩ := hrel
    have c0 := hD1.cell 0
    have c1 := hS1.cell 0
    have f0 := hD1.frozen 0
    simp only [List.getElem?_toArray, List.getElem?_cons_zero] at c0 c1
    have hlenD := cellLen_eq c0
    have HlenD := Lib.hid hlenD
    clear hlenD
    by_cases hgt : seg < d.length
    · have hlen : (d.take seg).length = seg := by simp; omega
      obtain ⟨x, hx⟩ : ∃ x : PVal w, x = ⟨⟨A', d.take seg, c', false⟩, bs_take hbd seg, by rw [hlen]; exact hs2⟩ := ⟨_, rfl⟩
      obtain ⟨fn, tmps, assign, body, hy, hR⟩ := hY pre x wr hJ1 (by omega)
      have henc : encP x = #[.slice A' seg c', .bool false] := by rw [hx]; simp only [encP]; rw [hlen]
      have hcon : conP x = (d.take seg, false) := by rw [hx]; rfl
      have Hcon := Lib.hid hcon
      rw [henc] at hy
      clear henc hcon hx hlen
      have hca : ¬ c' = seg := by omega
      gi_wp2
      refine hR.mono ?_
      rintro e W3 ⟨rfl, hJ3, hk3⟩
      have hD3 : Blk W3 D0 22 #[.slice A' d.length c'] := hk3.1.trans hD1
      have hS3 : Blk W3 S0 3 #[.int .i64 seg] := hk3.2.1.trans hS1
      have hb3 : Below w.heap.size w W3 := RowKit.Below.trans hb1 hk3.2.2
      clear c0 c1 f0 hy hR
      have c0 := hD3.cell 0
      have c1 := hS3.cell 0
      have f0 := hD3.frozen 0
      simp only [List.getElem?_toArray, List.getElem?_cons_zero] at c0 c1
      gi_wp2
      go_roundw
      case rel =>
        obtain ⟨k, rfl⟩ : ∃ q, k = q + 1 := ⟨k - 1, by omega⟩
        have hdl2 : (d.drop seg).length = d.length - seg := by simp
        refine ⟨pre ++ [x], d.drop seg, A'.map fun x => x.add seg, c' - seg, k, Lib.hid ?_, by simp; omega, by omega, by omega, by omega, by omega, bs_dropM hbd seg, ?_, ?_, ?_, hJ _ _ _ hJ3⟩
        · rw [← hT2.out, piecesL, if_pos hgt, List.map_append, List.append_assoc]
          simp only [List.map_cons, List.map_nil, Hcon.out, List.cons_append, List.nil_append]
        · rw [hdl2]
          simpa using hD3.set_ 0 (.slice (A'.map fun x => x.add seg) (d.length - seg) (c' - seg))
        · exact hS3.far (p := ⟨D0, 0, none⟩) hne _
        · exact hb3.setCell hlt _
      case measure =>
        rw [HlenD.out]
        have h2 : (W3.setCell ⟨D0, 0, none⟩ (.slice (A'.map fun x => x.add seg) (d.length - seg) (c' - seg))).cell? ⟨D0, 0, none⟩ = some (.slice (A'.map fun x => x.add seg) (d.length - seg) (c' - seg)) := World.cell?_setCell_same' _ _ _ (by rw [c0]; rfl)
        rw [cellLen_eq h2]
        omega
    · obtain ⟨x, hx⟩ : ∃ x : PVal w, x = ⟨⟨A', d, c', true⟩, hbd, hd2⟩ := ⟨_, rfl⟩
      obtain ⟨fn, tmps, assign, body, hy, hR⟩ := hY pre x wr hJ1 (by omega)
      have henc : encP x = #[.slice A' d.length c', .bool true] := by rw [hx]; rfl
      have hcon : conP x = (d, true) := by rw [hx]; rfl
      have Hcon := Lib.hid hcon
      rw [henc] at hy
      clear henc hcon hx
      gi_wp2
      refine hR.mono ?_
      rintro e W3 ⟨rfl, hJ3, hk3⟩
      gi_wp2
      go_end0
      refine ⟨⟨_, rfl⟩, pre ++ [x], ?_, hJ3⟩
      rw [← hT2.out, piecesL_last hgt, List.map_append]
      simp only [List.map_cons, List.map_nil, Hcon.out]

set_option maxHeartbeats 400000 in
theorem pieces_any (A : Option Addr) (n c seg : Nat) (w : World) :
    Calls Try.prog 20 #[.slice A n c, .int .i64 seg] w fun e w' => e = .returned (.func (.func 25) #[] #[.pointer (some ⟨w.heap.size, 0, none⟩), .pointer (some ⟨w.heap.size + 1, 0, none⟩)]) ∧
      Blk w' w.heap.size 22 #[.slice A n c] ∧ Blk w' (w.heap.size + 1) 3 #[.int .i64 seg] ∧ Below w.heap.size w w' ∧ w'.heap.size = w.heap.size + 2 := by
  go_enter Try.func20, Try.ntmps20
  go_wp2
  go_ret
  refine ⟨rfl, (Blk.new _ _ _).alloc _, ?_, bt (ba _ _) (ba _ _), by simp⟩
  have := Blk.new (w.alloc (.cells #[.slice A n c] 22)) 3 #[.int .i64 seg]
  rwa [World.size_alloc] at this
end Go.Proofs.Ytoahmifmoekjoaa
