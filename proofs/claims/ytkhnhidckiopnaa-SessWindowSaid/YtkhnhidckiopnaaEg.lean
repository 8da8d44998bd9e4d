/- Layer 9: On. -/
import Derived.Test.YtkhnhidckiopnaaEf
import Derived.BigQuiet
namespace Go.Proofs.Ytkhnhidckiopnaa
open Go.RowKit
set_option linter.unusedVariables false
set_option linter.unusedSimpArgs false

theorem below_drewN {B : Nat} {w u : World} (h : Below B w u) (n : Nat) : Below B w (u.drewN n) := ⟨h.os, h.tape, h.output, h.size, h.block⟩
theorem EndAt.drewN {w : World} {g S W f x : Nat} {q : List (List UInt8)} {cs : Array Value} (h : EndAt w g S W q f x cs) (n : Nat) : EndAt (w.drewN n) g S W q f x cs := h.bt (below_drewN (Below.refl _ _) n)
theorem quiet_add {P : Program} {f : FuncId} {args : Array Value} {w : World} {a n : Nat} {v : Value} (h : Calls P f args (w.drewN (a + n)) fun e w' => e = .returned v ∧ ∃ m, w' = (w.drewN (a + n)).drewN m) : Calls P f args (w.drewN (a + n)) fun e w'' => e = .returned v ∧ ∃ m, w'' = w.drewN (a + m) :=
  h.mono fun _ _ ⟨he, m, hm⟩ => ⟨he, n + m, by rw [hm, World.drewN_drewN, Nat.add_assoc]⟩
theorem leave_any {w : World} {g S W f x : Nat} {q : List (List UInt8)} {cs : Array Value} (h : EndAt w g S W q f x cs) (a : Nat) (ha : a ≤ f + q.length) :
    Calls Try.prog 30 #[.pointer (some ⟨g, 0, none⟩), .int .i64 a] w fun e w' => (∃ v, e = .returned v) ∧ (∃ cs', EndAt w' g S W (q.drop (a - f)) (max f a) x cs') ∧ w.grownBy w' (some g) := by
  by_cases hf : a ≤ f
  · refine (leave_old h a hf).mono ?_
    rintro e w' ⟨hv, rfl⟩
    refine ⟨hv, ⟨cs, ?_⟩, World.grownBy.refl _ _⟩
    rw [Nat.sub_eq_zero_of_le hf, Nat.max_eq_left hf]
    exact h
  · rw [Nat.max_eq_right (by omega)]
    exact leave_some h a (a - f) (by omega) (by omega) (by omega)

set_option maxRecDepth 100000 in
set_option maxHeartbeats 2000000 in
theorem on_other {w : World} {g S W f x : Nat} {q : List (List UInt8)} {cs : Array Value} (h : EndAt w g S W q f x cs) (S2 n c : Nat) (sq ak : Int) (A : Option Addr) (hS : S2 ≠ S) :
    Calls Try.prog 15 #[.pointer (some ⟨g, 0, none⟩), .agg #[.int .u32 S2, .int .i64 sq, .int .i64 ak, .slice A n c]] w fun e w' => e = .returned (.tuple #[.slice none 0 0, .int .i64 90]) ∧ Below w.heap.size w w' := by
  have hbw := ba w (.cells #[.int .u32 (S2 : Nat), .int .i64 sq, .int .i64 ak, .slice A n c] 33)
  have h1 := h.bt hbw
  have Hm := Lib.hid h1.made
  have c0 := (h1.blk.cell 0).trans h1.c0
  have e1 : ((S2 : Int) != (S : Int)) = true := by simp; omega
  have HB := Lib.hid hbw
  clear h h1 hbw
  go_enter Try.func15, Try.ntmps15
  go_wp2_with fail
  refine Hm.out.mono ?_
  rintro e w1 ⟨rfl, rfl⟩
  go_wp2_with fail
  go_quiet (fail)
  go_wp2
  go_ret2
  first | exact ⟨rfl, below_drewN HB.out _⟩ | exact ⟨rfl, below_drewN (below_drewN HB.out _) _⟩
theorem next_q {w : World} {g S W f x : Nat} {q : List (List UInt8)} {cs : Array Value} (h : EndAt w g S W q f x cs) (n : Nat) (hn : n = f + q.length) : Calls Try.prog 28 #[.pointer (some ⟨g, 0, none⟩)] w fun e w' => e = .returned (.int .i64 n) ∧ ∃ m, w' = w.drewN m := by
  have c := (h.blk.cell 66).trans h.c66
  have d := (h.blk.cell 67).trans h.c67
  have hfq := h.fq
  obtain ⟨m, hm⟩ : ∃ m, m = q.length := ⟨_, rfl⟩
  rw [← hm] at c hn hfq
  subst hn
  have C := fun k : Nat => (show (w.drewN k).cell? _ = _ from c)
  have E := fun k : Nat => (show (w.drewN k).cell? _ = _ from d)
  have hw : IntKind.i64.wrap ((f : Int) + (m : Int)) = (f : Int) + (m : Int) := IntWalk.i64_in _ (by omega)
  clear hm h c d
  go_enter Try.func28, Try.ntmps28
  go_wp2_with fail
  go_quiet (fail)
  go_wp2
  go_ret
  exact ⟨by simp, nq, rfl⟩
set_option maxRecDepth 100000 in
set_option maxHeartbeats 4000000 in
theorem on_ack_bad {w : World} {g S W f x : Nat} {q : List (List UInt8)} {cs : Array Value} (h : EndAt w g S W q f x cs) (n c : Nat) (sq ak : Int) (A : Option Addr) (hk : ak < 0 ∨ ((f + q.length : Nat) : Int) < ak) :
    Calls Try.prog 15 #[.pointer (some ⟨g, 0, none⟩), .agg #[.int .u32 S, .int .i64 sq, .int .i64 ak, .slice A n c]] w fun e w' => e = .returned (.tuple #[.slice none 0 0, .int .i64 91]) ∧ Below w.heap.size w w' := by
  have hbw := ba w (.cells #[.int .u32 (S : Nat), .int .i64 sq, .int .i64 ak, .slice A n c] 33)
  have h1 := h.bt hbw
  obtain ⟨nx, hnx⟩ : ∃ nx, nx = f + q.length := ⟨_, rfl⟩
  have Hnx := Lib.hid (fun m : Nat => next_q (h1.drewN m) nx hnx)
  have Hm := Lib.hid h1.made
  have c0 := (h1.blk.cell 0).trans h1.c0
  have e1 : ((S : Int) != (S : Int)) = false := by simp
  have HB := Lib.hid hbw
  rw [← hnx] at hk
  clear h h1 hbw hnx
  by_cases ha : ak < 0
  · have hd : decide (ak < 0) = true := decide_eq_true ha
    go_enter Try.func15, Try.ntmps15
    go_wp2_with fail
    refine Hm.out.mono ?_
    rintro e w1 ⟨rfl, rfl⟩
    go_wp2_with fail
    go_quiet (fail)
    go_wp2_with fail
    go_quiet (fail)
    go_wp2
    go_ret2
    first | exact ⟨rfl, below_drewN HB.out _⟩ | exact ⟨rfl, below_drewN (below_drewN HB.out _) _⟩
  · have hd : decide (ak < 0) = false := decide_eq_false ha
    have hk2 : (nx : Int) < ak := by omega
    have hd2 : decide ((nx : Int) < ak) = true := decide_eq_true hk2
    go_enter Try.func15, Try.ntmps15
    go_wp2_with fail
    refine Hm.out.mono ?_
    rintro e w1 ⟨rfl, rfl⟩
    go_wp2_with fail
    go_quiet (fail)
    go_wp2_with fail
    go_quiet ((go_at_call 28; first | exact Calls.quiet_of (Hnx.out _) | exact quiet_add (Hnx.out _)))
    go_wp2
    go_ret2
    first | exact ⟨rfl, below_drewN HB.out _⟩ | exact ⟨rfl, below_drewN (below_drewN HB.out _) _⟩
set_option maxRecDepth 100000 in
set_option maxHeartbeats 4000000 in
theorem on_ack {w : World} {g S W f x : Nat} {q : List (List UInt8)} {cs : Array Value} (h : EndAt w g S W q f x cs) (c a : Nat) (sq : Int) (A : Option Addr) (hk : a ≤ f + q.length) :
    Calls Try.prog 15 #[.pointer (some ⟨g, 0, none⟩), .agg #[.int .u32 S, .int .i64 sq, .int .i64 a, .slice A 0 c]] w fun e w' => e = .returned (.tuple #[.slice none 0 0, .int .i64 0]) ∧ (∃ cs', EndAt w' g S W (q.drop (a - f)) (max f a) x cs') ∧ w.grownBy w' (some g) := by
  have hbw := ba w (.cells #[.int .u32 (S : Nat), .int .i64 sq, .int .i64 a, .slice A 0 c] 33)
  have kbx : Blk _ _ 33 _ := Blk.new w 33 #[.int .u32 (S : Nat), .int .i64 sq, .int .i64 a, .slice A 0 c]
  have hgl := h.blk.lt
  have h1 := h.bt hbw
  obtain ⟨nx, hnx⟩ : ∃ nx, nx = f + q.length := ⟨_, rfl⟩
  have Hnx := Lib.hid (fun m : Nat => next_q (h1.drewN m) nx hnx)
  have Hlv := Lib.hid (fun m : Nat => leave_any (h1.drewN m) a hk)
  have hna : ¬ nx < a := by omega
  have hle : a ≤ nx := by omega
  have hd3 : decide (nx < a) = false := decide_eq_false hna
  have Hm := Lib.hid h1.made
  have c0 := (h1.blk.cell 0).trans h1.c0
  have e1 : ((S : Int) != (S : Int)) = false := by simp
  have hd : decide ((a : Int) < 0) = false := decide_eq_false (by omega)
  have hd2 : decide ((nx : Int) < (a : Int)) = false := decide_eq_false (by omega)
  have HB := Lib.hid (And.intro hbw kbx)
  clear h h1 hbw hnx kbx
  go_enter Try.func15, Try.ntmps15
  go_wp2_with fail
  refine Hm.out.mono ?_
  rintro e w1 ⟨rfl, rfl⟩
  go_wp2_with fail
  go_quiet (fail)
  go_wp2_with fail
  go_quiet ((go_at_call 28; first | exact Calls.quiet_of (Hnx.out _) | exact quiet_add (Hnx.out _)))
  go_wp2_with fail
  refine (Hlv.out _).mono ?_
  rintro e w2 ⟨⟨v, rfl⟩, ⟨cs2, h2⟩, g2⟩
  have hlt : w.heap.size < (w.alloc (.cells #[.int .u32 (S : Nat), .int .i64 sq, .int .i64 a, .slice A 0 c] 33)).heap.size := HB.out.2.lt
  have hne : some w.heap.size ≠ some g := fun e => by injection e with e; omega
  have b1 : w2.cell? ⟨w.heap.size, 1, none⟩ = some (.int .i64 sq) := (cell_grown g2 (p := ⟨w.heap.size, 1, none⟩) hlt hne).trans (HB.out.2.cell 1)
  have b3 : w2.cell? ⟨w.heap.size, 3, none⟩ = some (.slice A 0 c) := (cell_grown g2 (p := ⟨w.heap.size, 3, none⟩) hlt hne).trans (HB.out.2.cell 3)
  have gA := grownBy_trans (grown_of (below_drewN HB.out.1 _) (some g)) g2
  have HA := Lib.hid (And.intro h2 gA)
  clear gA h2 g2 hlt hne Hlv Hnx Hm c0
  go_wp2_with fail
  go_quiet (fail)
  go_wp2
  go_ret2
  exact ⟨rfl, ⟨cs2, HA.out.1.drewN _⟩, grownBy_trans HA.out.2 (grown_of (below_drewN (Below.refl _ _) _) _)⟩
end Go.Proofs.Ytkhnhidckiopnaa
