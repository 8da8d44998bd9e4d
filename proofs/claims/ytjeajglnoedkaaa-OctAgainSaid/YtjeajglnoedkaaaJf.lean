/- Layer 1: the parts, one behind the other, as they are handed to a loop. -/
import Derived.Test.YtjeajglnoedkaaaJe
import Derived.Test.YtjeajglnoedkaaaSeqL
import Derived.Shelf.Abstract
import Derived.Shelf.RegionOpen
import Derived.WalkKit
import Derived.OwnWalkIn
import Derived.TacticsInMore
import Derived.LoopNIn
import Derived.LoopIn
namespace Go.Proofs.Ytjeajglnoedkaaa
open Go.RowKit Go.Shelf
attribute [local go_sem] Oper.semAt_some
set_option linter.unusedVariables false
set_option linter.unusedSimpArgs false

/-- The parts of r, which stands at a place, till one is not whole. -/
def scanL : Nat → List UInt8 → Nat → List (Nat × List UInt8 × Bool)
  | 0, _, _ => []
  | k + 1, r, p => if r.length = 0 then [] else (p, (pieceR r).1, (pieceR r).2) :: (if (pieceR r).2 = true then scanL k (r.drop (2 + (pieceR r).1.length)) (p + (2 + (pieceR r).1.length)) else [])
theorem scanL_nil (k p : Nat) (r : List UInt8) (h : r.length = 0) : scanL k r p = [] := by
  cases k with
  | zero => rfl
  | succ k => rw [scanL, if_pos h]
theorem pieceR_len (r : List UInt8) (h : (pieceR r).2 = true) : 2 + (pieceR r).1.length ≤ r.length := by
  rcases r with _ | ⟨x, _ | ⟨y, t⟩⟩
  · cases h
  · cases h
  · rw [pieceR_cons] at h ⊢
    split at h
    · cases h
    · rename_i g
      rw [if_neg g]
      simp only [List.length_take, List.length_cons]
      omega
theorem pieceR_short (r : List UInt8) : (pieceR r).1.length ≤ 65535 := by
  rcases r with _ | ⟨x, _ | ⟨y, t⟩⟩
  · simp [pieceR]
  · simp [pieceR]
  · rw [pieceR_cons]
    have := num2_lt x y
    split
    · simp
    · simp only [List.length_take]; omega

/-- A part that lies in what was there. -/
structure PV where
  p : Nat
  A : Option Addr
  l : List UInt8
  c : Nat
  wh : Bool
def POk (w : World) (x : PV) : Prop := Bs w w.heap.size x.A x.l ∧ x.l.length ≤ 65535
def PVal (w : World) : Type := { x : PV // POk w x }
def encP {w : World} (x : PVal w) : Array Value := #[.agg #[.int .i64 x.1.p, .slice x.1.A x.1.l.length x.1.c, .bool x.1.wh]]
def conP {w : World} (x : PVal w) : Nat × List UInt8 × Bool := (x.1.p, x.1.l, x.1.wh)
/-- What a round keeps of what the iterator reads. -/
def KpP (w : World) (D0 : Nat) (W W' : World) : Prop := W'.heap[D0]? = W.heap[D0]? ∧ (∀ (k : Nat) (cs : Array Value) (fz : Nat × Nat), W.heap[k]? = some (Obj.cells cs 60 fz) → W'.heap[k]? = W.heap[k]?) ∧ Below w.heap.size W W'
theorem keepsOthers_below {W W' : World} (h : Below W.heap.size W W') : KeepsOthers W W' := ⟨h.size, fun k o hk _ => (h.block k (Array.getElem?_eq_some_iff.1 hk).1).trans hk⟩
theorem pre_prefix {α β : Type} {f : α → β} {pre : List α} {x : α} {t T : List β} (h : pre.map f ++ f x :: t = T) : (pre ++ [x]).map f <+: T := ⟨t, by rw [← h]; simp⟩

set_option maxRecDepth 100000 in
set_option maxHeartbeats 2000000 in
theorem pieces1_in (n : Nat) (hn : 2 ≤ n) (l D0 : Nat) (A : Option Addr) (data : List UInt8) (N c : Nat) (w : World) (hN : Hid (N = data.length)) (hcap : N ≤ c) (hc2 : Hid (c ≤ 9223372036854775807)) (hm : Hid (N ≤ 100000000)) (hbs : Bs w w.heap.size A data)
    (J : List (PVal w) → World → Prop) (Y : List (PVal w) → World → Prop) (hJ : ∀ s W W', Below W.heap.size W W' → J s W → J s W')
    (hY : ∀ pre x W, J pre W → pre.length < N + 1 → YieldAt Fence.wide (n - 1) Try.prog l (encP x) W fun e W' => (e = .returned (.bool true) ∧ J (pre ++ [x]) W' ∧ KpP w D0 W W') ∨ (e = .returned (.bool false) ∧ Y (pre ++ [x]) W'))
    (W : World) (hD : Blk W D0 23 #[.slice A N c]) (hb : Below w.heap.size w W) (hlt : w.heap.size ≤ D0) (h0 : J [] W) :
    CallsIn Fence.wide n Try.prog 41 #[.func (.yield l) #[] #[], .pointer (some ⟨D0, 0, none⟩)] W fun e W' => (∃ v, e = .returned v) ∧ ((∃ xs, xs.map conP = scanL N data 0 ∧ J xs W') ∨ (∃ xs, xs.map conP <+: scanL N data 0 ∧ Y xs W')) := by
  refine callsIn_of_wp Try.func41 rfl trivial ?_ rfl
  simp only [Try.ntmps41, List.size_toArray, List.length_cons, List.length_nil, Nat.reduceAdd, Nat.reduceSub, Array.replicate_succ, Array.replicate_zero, List.push_toArray, List.append_toArray, List.nil_append, List.cons_append]
  obtain ⟨T, hT⟩ : ∃ T, T = scanL N data 0 := ⟨_, rfl⟩
  rw [← hT]
  have HT := Lib.hid hT
  have HBS := Lib.hid hbs
  clear hT hbs
  gi_wp2
  gi_loopw [3, 4] (fun a p wr => ∃ (pre : List (PVal w)) (q k : Nat) (u : Value), u = p ∧ a = .int .i64 q ∧ Hid (pre.map conP ++ scanL k (data.drop q) q = T) ∧ Hid (pre.length + k = N ∧ N ≤ q + k) ∧ q ≤ N ∧
      Blk wr D0 23 #[.slice A N c] ∧ Below w.heap.size w wr ∧ J pre wr)
    (fun a _ _ => N - (intOf a).toNat)
  case atStart => exact ⟨[], 0, N, _, rfl, rfl, Lib.hid (by rw [HT.out]; rfl), Lib.hid ⟨by simp, by omega⟩, Nat.zero_le _, hD, hb, h0⟩
  case round =>
    obtain ⟨pre, q, k, u, rfl, rfl, hT2, hk, hq, hD1, hb1, hJ1⟩ := hrel
    have c0 := hD1.cell 0
    simp only [List.getElem?_toArray, List.getElem?_cons_zero] at c0
    by_cases hlt2 : q < N
    · have hqI : (q : Int) < (N : Int) := by omega
      obtain ⟨b, o, rfl, _⟩ := HBS.out (by rw [← hN.out]; omega)
      have hpa := fun W' (h : Below w.heap.size w W') => pieceAt_any b o data N c q W' hN.out hlt2 hcap hm.out hc2.out (HBS.out.bt h)
      have hshort := pieceR_short (data.drop q)
      have hlen := pieceR_len (data.drop q)
      obtain ⟨S, hS⟩ : ∃ S, S = pieceR (data.drop q) := ⟨_, rfl⟩
      rw [← hS] at hshort hlen
      simp only [← hS] at hpa
      have HS := Lib.hid hS
      have Hlen := Lib.hid hlen
      clear hlen hS
      obtain ⟨sl, wh⟩ := S
      simp only at hshort
      gi_wp2_with fail
      refine ⟨trivial, fun _ => by omega, ((callsIn_wide).2 (hpa _ hb1)).mono ?_⟩
      rintro e w1 ⟨A', c', rfl, hSub, hb2⟩
      obtain ⟨x, hx⟩ : ∃ x : PVal w, x = ⟨⟨q, A', sl, c', wh⟩, hSub _ _ HBS.out, hshort⟩ := ⟨_, rfl⟩
      have henc : encP x = #[.agg #[.int .i64 q, .slice A' sl.length c', .bool wh]] := by rw [hx]; rfl
      have hcon : conP x = (q, sl, wh) := by rw [hx]; rfl
      have Hcon := Lib.hid hcon
      clear hx hcon hSub
      have hbn := ba w1 (.cells #[.int .i64 q, .slice A' sl.length c', .bool wh] 60)
      have hbl := Blk.new w1 60 #[.int .i64 q, .slice A' sl.length c', .bool wh]
      have hJ2 := hJ pre _ _ (bt hb2 hbn) hJ1
      have hD2 := hD1.below (bt hb2 hbn) hD1.lt
      have hb3 := bt hb1 (bt hb2 hbn)
      obtain ⟨fn, tmps, assign, body, hy, hR⟩ := hY pre x _ hJ2 (by have := hk.out.1; omega)
      rw [henc] at hy
      clear hbn c0 hJ1 hD1 hb1 hb2 henc hpa
      gi_wp2
      refine ⟨fun _ => by omega, hR.mono ?_⟩
      rintro e W3 (⟨rfl, hJ3, hk3⟩ | ⟨rfl, hY3⟩)
      · have hD3 : Blk W3 D0 23 #[.slice (some ⟨b, o, none⟩) N c] := hk3.1.trans hD2
        have hbl3 : Blk W3 w1.heap.size 60 #[.int .i64 q, .slice A' sl.length c', .bool wh] := (hk3.2.1 _ _ _ hbl).trans hbl
        have hb4 : Below w.heap.size w W3 := RowKit.Below.trans hb3 hk3.2.2
        have p1 := hbl3.cell 1
        have p2 := hbl3.cell 2
        simp only [List.getElem?_toArray, List.getElem?_cons_zero, List.getElem?_cons_succ] at p1 p2
        have hKne : (data.drop q).length ≠ 0 := by rw [List.length_drop, ← hN.out]; omega
        obtain ⟨k, rfl⟩ : ∃ k', k = k' + 1 := ⟨k - 1, by have := hk.out; omega⟩
        cases wh
        · clear hy hR hbl hJ2 hD2
          gi_wp2
          (try simp only [Exit.inBlock, Exit.then]); refine bodyPost_ret (results_none rfl _ _ _) rfl ?_
          refine ⟨⟨_, rfl⟩, .inl ⟨pre ++ [x], ?_, hJ3⟩⟩
          rw [← hT2.out, scanL, if_neg hKne, ← HS.out, List.map_append]
          simp [Hcon.out]
        · have hl2 := Hlen.out rfl
          rw [List.length_drop, ← hN.out] at hl2
          have g1 : IntKind.i64.wrap (2 + (sl.length : Int)) = 2 + (sl.length : Int) := IntWalk.i64_in _ (by omega)
          have g2 : IntKind.i64.wrap ((q : Int) + (2 + (sl.length : Int))) = (q : Int) + (2 + (sl.length : Int)) := IntWalk.i64_in _ (by have := hm.out; omega)
          clear hy hR hbl hJ2 hD2
          gi_wp2
          go_roundw
          case rel =>
            refine ⟨pre ++ [x], q + (2 + sl.length), k, _, rfl, by first | rfl | (congr 1; push_cast; omega) | go_num, Lib.hid ?_, Lib.hid ⟨by have := hk.out.1; simp; omega, by have := hk.out.2; omega⟩, by omega, hD3, hb4, hJ3⟩
            rw [← hT2.out, scanL, if_neg hKne, ← HS.out, List.map_append, List.append_assoc, if_pos rfl, List.drop_drop]
            simp only [List.map_cons, List.map_nil, Hcon.out, List.cons_append, List.nil_append]
          case measure => simp [intOf]; omega
      · have hKne : (data.drop q).length ≠ 0 := by rw [List.length_drop, ← hN.out]; omega
        obtain ⟨k, rfl⟩ : ∃ k', k = k' + 1 := ⟨k - 1, by have := hk.out; omega⟩
        clear hy hR hbl hJ2 hD2
        gi_wp2
        (try simp only [Exit.inBlock, Exit.then]); refine bodyPost_ret (results_none rfl _ _ _) rfl ?_
        refine ⟨⟨_, rfl⟩, .inr ⟨pre ++ [x], ?_, hY3⟩⟩
        refine pre_prefix (t := if wh = true then scanL k ((data.drop q).drop (2 + sl.length)) (q + (2 + sl.length)) else []) ?_
        rw [← hT2.out, scanL, if_neg hKne, ← HS.out, Hcon.out]
    · obtain rfl : q = N := by omega
      gi_wp2
      go_end0
      refine ⟨⟨_, rfl⟩, .inl ⟨pre, ?_, hJ1⟩⟩
      rw [← hT2.out, scanL_nil _ _ _ (by rw [List.length_drop, ← hN.out]; omega), List.append_nil]
end Go.Proofs.Ytjeajglnoedkaaa
