/- Layer 14: the items, one behind the other, as they are handed to a loop; Values. -/
import Derived.Test.YtfcafahgmnnlnaaQ6
import Derived.Test.YtfcafahgmnnlnaaSeqM
import Derived.Test.YtfcafahgmnnlnaaMarks
import Derived.Shelf.Abstract
import Derived.Shelf.RegionOpen
import Derived.WalkKit
import Derived.OwnWalkIn
import Derived.TacticsInMore
import Derived.LoopNIn
import Derived.LoopIn
namespace Go.Proofs.Ytfcafahgmnnlnaa.Qu
open Go.RowKit Go.Shelf Go.Maps
attribute [local go_sem] Oper.semAt_some
set_option linter.unusedVariables false
set_option linter.unusedSimpArgs false

theorem keepsOthers_below {W W' : World} (h : Below W.heap.size W W') : KeepsOthers W W' := ⟨h.size, fun k o hk _ => (h.block k (Array.getElem?_eq_some_iff.1 hk).1).trans hk⟩
def encI (x : Nat × IT) : Array Value := #[.int .i64 x.1, x.2.val]
set_option maxRecDepth 100000 in
set_option maxHeartbeats 2000000 in
theorem each_in (n : Nat) (hn : 2 ≤ n) (l g of : Nat) (A : Option Addr) (L : List IT) (nL c : Nat) (hN : Hid (nL = L.length)) (hm : nL ≤ 100)
    (J : Nat → World → Prop) (Y : Nat → World → Prop) (hJ : ∀ s W W', Below W.heap.size W W' → J s W → J s W') (hA : ∀ s W, J s W → ItAt W anyB A L)
    (hY : ∀ (i : Nat) (h : i < L.length) (W : World), J i W → YieldAt Fence.wide (n - 1) Try.prog l (encI (i, L[i]'h)) W fun e W' => (e = .returned (.bool true) ∧ J (i + 1) W') ∨ (e = .returned (.bool false) ∧ Y i W'))
    (W : World) (hq : W.cell? ⟨g, of, none⟩ = some (.slice A nL c)) (h0 : J 0 W) :
    CallsIn Fence.wide n Try.prog 38 #[.pointer (some ⟨g, of, none⟩), .func (.yield l) #[] #[]] W fun e W' => (∃ v, e = .returned v) ∧ (J L.length W' ∨ ∃ i, i < L.length ∧ Y i W') := by
  refine callsIn_of_wp Try.func38 rfl trivial ?_ rfl
  simp only [Try.ntmps38, List.size_toArray, List.length_cons, List.length_nil, Nat.reduceAdd, Nat.reduceSub, Array.replicate_succ, Array.replicate_zero, List.push_toArray, List.append_toArray, List.nil_append, List.cons_append]
  gi_wp2
  gi_loopw [11] (fun a wr => ∃ (i0 : Nat), i0 ≤ nL ∧ a = .int .i64 i0 ∧ J i0 wr) (fun a _ => nL - (intOf a).toNat)
  case atStart => exact ⟨0, Nat.zero_le _, rfl, h0⟩
  case round =>
    obtain ⟨i0, hi, rfl, hJ1⟩ := hrel
    by_cases hin : i0 < nL
    · have hiI : (i0 : Int) < (nL : Int) := by omega
      have hil : i0 < L.length := by rw [← hN.out]; exact hin
      obtain ⟨b, o, rfl, _, hcs⟩ := (hA i0 wr hJ1) (by omega)
      obtain ⟨q0, q1, q2⟩ := hcs i0 hil
      have hYi := hY i0 hil
      obtain ⟨x, hx⟩ : ∃ x, x = L[i0]'hil := ⟨_, rfl⟩
      rw [← hx] at q0 q1 q2 hYi
      obtain ⟨xn, xv, xt⟩ := x
      dsimp only at q0 q1 q2
      obtain ⟨wA, hwA⟩ : ∃ wA, wA = wr.alloc (.cells #[.int .i64 xn, .int .u64 (xv : Nat), .int .i64 xt] 71) := ⟨_, rfl⟩
      have bA : Below wr.heap.size wr wA := by rw [hwA]; exact ba _ _
      have kA : Blk wA wr.heap.size 71 #[.int .i64 xn, .int .u64 (xv : Nat), .int .i64 xt] := by rw [hwA]; exact Blk.new _ _ _
      have e0 := kA.cell 0
      have e1 := kA.cell 1
      have e2 := kA.cell 2
      simp only [List.getElem?_toArray, List.getElem?_cons_zero, List.getElem?_cons_succ] at e0 e1 e2
      obtain ⟨fn, tmps, assign, body, hy, hR⟩ := hYi wA (hJ i0 _ _ bA hJ1)
      have henc : encI (i0, (⟨xn, xv, xt⟩ : IT)) = #[.int .i64 i0, .agg #[.int .i64 xn, .int .u64 (xv : Nat), .int .i64 xt]] := rfl
      rw [henc] at hy
      rw [hwA] at e0 e1 e2 hy
      have HR := Lib.hid hR
      have HWA := Lib.hid hwA
      rw [hwA] at hR
      clear hcs hx hJ1 hwA bA kA hYi henc
      gi_wp2
      refine ⟨fun _ => by omega, hR.mono ?_⟩
      rintro e W3 (⟨rfl, hJ3⟩ | ⟨rfl, hY3⟩)
      · clear hy hR HR q0 q1 q2 e0 e1 e2
        gi_wp2
        exact ⟨⟨i0 + 1, by omega, by go_num, hJ3⟩, by simp [intOf]; omega⟩
      · clear hy hR HR q0 q1 q2 e0 e1 e2
        gi_wp2
        (try simp only [Exit.inBlock, Exit.then]); refine bodyPost_ret (results_none rfl _ _ _) rfl ?_
        exact ⟨⟨_, rfl⟩, .inr ⟨i0, hil, hY3⟩⟩
    · obtain rfl : i0 = nL := by omega
      have hiI : ¬ (i0 : Int) < (i0 : Int) := by omega
      gi_wp2
      go_end0
      exact ⟨⟨_, rfl⟩, .inl (by rw [← hN.out]; exact hJ1)⟩
end Go.Proofs.Ytfcafahgmnnlnaa.Qu
