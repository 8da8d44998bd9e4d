/- Layer 7: frames that are unlike have unlike bytes. -/
import Derived.Test.YthmhkicgghobmaaFe
import Derived.Test.YthmhkicgghobmaaGetR
import Derived.Test.YthmhkicgghobmaaInvT
namespace Go.Proofs.Ythmhkicgghobmaa
open Go.RowKit
set_option linter.unusedVariables false
set_option linter.unusedSimpArgs false

theorem pnum_putL (v n : Nat) : num (putL v n) = v % 256 ^ n := by
  induction n generalizing v with
  | zero => simp [putL, num, Nat.mod_one]
  | succ n ih =>
    rw [putL, num_snoc, ih, Nat.pow_succ, Nat.mul_comm (256 ^ n) 256, Nat.mod_mul]
    simp
    omega
theorem putL_inj4 {a b : Nat} (ha : a < 4294967296) (hb : b < 4294967296) (h : putL a 4 = putL b 4) : a = b := by
  have e4 : (256 : Nat) ^ 4 = 4294967296 := by decide
  have := congrArg num h
  rw [pnum_putL, pnum_putL, e4, Nat.mod_eq_of_lt ha, Nat.mod_eq_of_lt hb] at this
  exact this
theorem putL_inj2 {a b : Nat} (ha : a < 65536) (hb : b < 65536) (h : putL a 2 = putL b 2) : a = b := by
  have e4 : (256 : Nat) ^ 2 = 65536 := by decide
  have := congrArg num h
  rw [pnum_putL, pnum_putL, e4, Nat.mod_eq_of_lt ha, Nat.mod_eq_of_lt hb] at this
  exact this

theorem below_drew (w : World) : Below w.heap.size w w.drew := (Below.refl _ _).drew
theorem bytesF_inj {s q a s2 q2 a2 : Nat} {l l2 : List UInt8} (hs : s < 4294967296) (hs2 : s2 < 4294967296) (hq : q ≤ 65535) (hq2 : q2 ≤ 65535) (ha : a ≤ 65535) (ha2 : a2 ≤ 65535) (h : bytesF s q a l = bytesF s2 q2 a2 l2) : s = s2 ∧ q = q2 ∧ a = a2 ∧ l = l2 := by
  have hlen := congrArg List.length h
  rw [bytesF_len, bytesF_len] at hlen
  unfold bytesF at h
  have h1 := (List.append_inj h (by rw [frontF_len, frontF_len]; omega)).1
  rw [← frontF_eq, ← frontF_eq] at h1
  obtain ⟨h2, h3⟩ := List.append_inj h1 (by simp [putL_length])
  obtain ⟨h4, _⟩ := List.append_inj h2 (by simp [putL_length])
  obtain ⟨h5, h6⟩ := List.append_inj h4 (by simp [putL_length])
  obtain ⟨h7, h8⟩ := List.append_inj h5 (by simp [putL_length])
  exact ⟨putL_inj4 hs hs2 h7, putL_inj2 (by omega) (by omega) h8, putL_inj2 (by omega) (by omega) h6, h3⟩
theorem writeF_ok {s : Nat} {q a : Int} {l L : List UInt8} {E : Int} (h : writeF s q a l = (L, E)) : (E = 70 ∧ L = []) ∨ (E = 0 ∧ L = bytesF s q.toNat a.toNat l ∧ mayF s q a l.length = true) := by
  unfold writeF at h
  split at h
  · injection h with h1 h2; exact .inr ⟨h2.symm, h1.symm, by assumption⟩
  · injection h with h1 h2; exact .inl ⟨h2.symm, h1.symm⟩
theorem writeF_inj {s s2 : Nat} {q a q2 a2 : Int} {l l2 L : List UInt8} (hs : s < 4294967296) (hs2 : s2 < 4294967296) (h : writeF s q a l = (L, 0)) (h2 : writeF s2 q2 a2 l2 = (L, 0)) : s = s2 ∧ q = q2 ∧ a = a2 ∧ l = l2 := by
  rcases writeF_ok h with ⟨h, _⟩ | ⟨_, e1, m1⟩
  · exact absurd h (by decide)
  · rcases writeF_ok h2 with ⟨h, _⟩ | ⟨_, e2, m2⟩
    · exact absurd h (by decide)
    · obtain ⟨_, b2, b3, _⟩ := (mayF_iff _ _ _ _).1 m1
      obtain ⟨_, d2, d3, _⟩ := (mayF_iff _ _ _ _).1 m2
      rw [e1] at e2
      obtain ⟨r1, r2, r3, r4⟩ := bytesF_inj hs hs2 (by omega) (by omega) (by omega) (by omega) e2
      exact ⟨r1, by omega, by omega, r4⟩

set_option maxHeartbeats 1000000 in
theorem apart_big1 (s : Nat) (q a : Int) (A : Option Addr) (n c : Nat) (s2 : Nat) (q2 a2 : Int) (A2 : Option Addr) (n2 c2 : Nat) (w : World) (hb : decide (2000 < (n : Int)) = true) : Calls Try.prog 8 #[.agg #[.int .u32 s, .int .i64 q, .int .i64 a, .slice A n c], .agg #[.int .u32 s2, .int .i64 q2, .int .i64 a2, .slice A2 n2 c2]] w fun e w' => e = .returned (.bool true) ∧ Below w.heap.size w w' := by
  have k1 := (Blk.new w 25 #[.int .u32 s, .int .i64 q, .int .i64 a, .slice A n c]).alloc (.cells #[.int .u32 s2, .int .i64 q2, .int .i64 a2, .slice A2 n2 c2] 25)
  have k2 := Blk.new (w.alloc (.cells #[.int .u32 s, .int .i64 q, .int .i64 a, .slice A n c] 25)) 25 #[.int .u32 s2, .int .i64 q2, .int .i64 a2, .slice A2 n2 c2]
  simp only [World.size_alloc] at k2
  have hbw := bt (ba w (.cells #[.int .u32 s, .int .i64 q, .int .i64 a, .slice A n c] 25)) (ba (w.alloc (.cells #[.int .u32 s, .int .i64 q, .int .i64 a, .slice A n c] 25)) (.cells #[.int .u32 s2, .int .i64 q2, .int .i64 a2, .slice A2 n2 c2] 25))
  have x0 := (k1).cell 0
  have x1 := (k1).cell 1
  have x2 := (k1).cell 2
  have x3 := (k1).cell 3
  simp only [List.getElem?_toArray, List.getElem?_cons_zero, List.getElem?_cons_succ] at x0 x1 x2 x3
  have d0 := (k2).cell 0
  have d1 := (k2).cell 1
  have d2 := (k2).cell 2
  have d3 := (k2).cell 3
  simp only [List.getElem?_toArray, List.getElem?_cons_zero, List.getElem?_cons_succ] at d0 d1 d2 d3
  go_enter Try.func8, Try.ntmps8
  go_wp2_with fail
  refine (alive_any _).mono ?_
  rintro e wz ⟨rfl, hbz⟩
  go_wp2
  go_ret
  exact ⟨rfl, bt hbw hbz⟩

set_option maxHeartbeats 1000000 in
theorem apart_big2 (s : Nat) (q a : Int) (A : Option Addr) (n c : Nat) (s2 : Nat) (q2 a2 : Int) (A2 : Option Addr) (n2 c2 : Nat) (w : World) (hb : decide (2000 < (n : Int)) = false) (hb2 : decide (2000 < (n2 : Int)) = true) : Calls Try.prog 8 #[.agg #[.int .u32 s, .int .i64 q, .int .i64 a, .slice A n c], .agg #[.int .u32 s2, .int .i64 q2, .int .i64 a2, .slice A2 n2 c2]] w fun e w' => e = .returned (.bool true) ∧ Below w.heap.size w w' := by
  have k1 := (Blk.new w 25 #[.int .u32 s, .int .i64 q, .int .i64 a, .slice A n c]).alloc (.cells #[.int .u32 s2, .int .i64 q2, .int .i64 a2, .slice A2 n2 c2] 25)
  have k2 := Blk.new (w.alloc (.cells #[.int .u32 s, .int .i64 q, .int .i64 a, .slice A n c] 25)) 25 #[.int .u32 s2, .int .i64 q2, .int .i64 a2, .slice A2 n2 c2]
  simp only [World.size_alloc] at k2
  have hbw := bt (ba w (.cells #[.int .u32 s, .int .i64 q, .int .i64 a, .slice A n c] 25)) (ba (w.alloc (.cells #[.int .u32 s, .int .i64 q, .int .i64 a, .slice A n c] 25)) (.cells #[.int .u32 s2, .int .i64 q2, .int .i64 a2, .slice A2 n2 c2] 25))
  have x0 := (k1).cell 0
  have x1 := (k1).cell 1
  have x2 := (k1).cell 2
  have x3 := (k1).cell 3
  simp only [List.getElem?_toArray, List.getElem?_cons_zero, List.getElem?_cons_succ] at x0 x1 x2 x3
  have d0 := (k2).cell 0
  have d1 := (k2).cell 1
  have d2 := (k2).cell 2
  have d3 := (k2).cell 3
  simp only [List.getElem?_toArray, List.getElem?_cons_zero, List.getElem?_cons_succ] at d0 d1 d2 d3
  go_enter Try.func8, Try.ntmps8
  go_wp2_with fail
  refine (alive_any _).mono ?_
  rintro e wz ⟨rfl, hbz⟩
  go_wp2
  go_ret
  exact ⟨rfl, bt hbw hbz⟩

set_option maxHeartbeats 1000000 in
theorem apart_err1 (s : Nat) (q a : Int) (A : Option Addr) (l L : List UInt8) (E : Int) (n c : Nat) (hn : Hid (n = l.length)) (s2 : Nat) (q2 a2 : Int) (A2 : Option Addr) (l2 L2 : List UInt8) (E2 : Int) (n2 c2 : Nat) (hn2 : Hid (n2 = l2.length)) (w : World) (hs : s < 4294967296) (hs2 : s2 < 4294967296) (hbs : Bs w w.heap.size A l) (hbs2 : Bs w w.heap.size A2 l2) (hR : Hid (writeF s q a l = (L, E))) (hR2 : Hid (writeF s2 q2 a2 l2 = (L2, E2))) (hb : decide (2000 < (n : Int)) = false) (hb2 : decide (2000 < (n2 : Int)) = false) (he : (E != 0) = true) : Calls Try.prog 8 #[.agg #[.int .u32 s, .int .i64 q, .int .i64 a, .slice A n c], .agg #[.int .u32 s2, .int .i64 q2, .int .i64 a2, .slice A2 n2 c2]] w fun e w' => e = .returned (.bool true) ∧ Below w.heap.size w w' := by
  have Hw0 := Lib.hid (fun w h => fwrite_wr s q a A l L E n c hn w hs h hR)
  have Hw2 := Lib.hid (fun w h => fwrite_wr s2 q2 a2 A2 l2 L2 E2 n2 c2 hn2 w hs2 h hR2)
  have k1 := (Blk.new w 25 #[.int .u32 s, .int .i64 q, .int .i64 a, .slice A n c]).alloc (.cells #[.int .u32 s2, .int .i64 q2, .int .i64 a2, .slice A2 n2 c2] 25)
  have k2 := Blk.new (w.alloc (.cells #[.int .u32 s, .int .i64 q, .int .i64 a, .slice A n c] 25)) 25 #[.int .u32 s2, .int .i64 q2, .int .i64 a2, .slice A2 n2 c2]
  simp only [World.size_alloc] at k2
  have hbw := bt (ba w (.cells #[.int .u32 s, .int .i64 q, .int .i64 a, .slice A n c] 25)) (ba (w.alloc (.cells #[.int .u32 s, .int .i64 q, .int .i64 a, .slice A n c] 25)) (.cells #[.int .u32 s2, .int .i64 q2, .int .i64 a2, .slice A2 n2 c2] 25))
  have x0 := (k1).cell 0
  have x1 := (k1).cell 1
  have x2 := (k1).cell 2
  have x3 := (k1).cell 3
  simp only [List.getElem?_toArray, List.getElem?_cons_zero, List.getElem?_cons_succ] at x0 x1 x2 x3
  have d0 := (k2).cell 0
  have d1 := (k2).cell 1
  have d2 := (k2).cell 2
  have d3 := (k2).cell 3
  simp only [List.getElem?_toArray, List.getElem?_cons_zero, List.getElem?_cons_succ] at d0 d1 d2 d3
  go_enter Try.func8, Try.ntmps8
  go_wp2_with fail
  refine (Hw0.out _ (hbs.bt hbw)).mono ?_
  rintro e w1 ⟨A3, c3, J3, rfl, hJ3, own3, hb1⟩
  have g1 := k1.below hb1 k1.lt
  have g2 := k2.below hb1 k2.lt
  have hbw1 := bt hbw hb1
  clear x0 x1 x2 x3
  clear d0 d1 d2 d3
  have d0 := (g2).cell 0
  have d1 := (g2).cell 1
  have d2 := (g2).cell 2
  have d3 := (g2).cell 3
  simp only [List.getElem?_toArray, List.getElem?_cons_zero, List.getElem?_cons_succ] at d0 d1 d2 d3
  clear k1 k2 hb1 hbw
  go_wp2_with fail
  refine (Hw2.out _ (hbs2.bt hbw1)).mono ?_
  rintro e w2 ⟨A4, c4, J4, rfl, hJ4, own4, hb2⟩
  have g3 := g1.below hb2 g1.lt
  have g4 := g2.below hb2 g2.lt
  have own3' := own3.below hb2 (Nat.le_refl _)
  have hbw2 := bt hbw1 hb2
  clear d0 d1 d2 d3
  clear g1 g2 hb2
  go_wp2_with fail
  refine (alive_any _).mono ?_
  rintro e wz ⟨rfl, hbz⟩
  go_wp2
  go_ret
  exact ⟨rfl, bt hbw2 hbz⟩

set_option maxHeartbeats 1000000 in
theorem apart_err2 (s : Nat) (q a : Int) (A : Option Addr) (l L : List UInt8) (E : Int) (n c : Nat) (hn : Hid (n = l.length)) (s2 : Nat) (q2 a2 : Int) (A2 : Option Addr) (l2 L2 : List UInt8) (E2 : Int) (n2 c2 : Nat) (hn2 : Hid (n2 = l2.length)) (w : World) (hs : s < 4294967296) (hs2 : s2 < 4294967296) (hbs : Bs w w.heap.size A l) (hbs2 : Bs w w.heap.size A2 l2) (hR : Hid (writeF s q a l = (L, E))) (hR2 : Hid (writeF s2 q2 a2 l2 = (L2, E2))) (hb : decide (2000 < (n : Int)) = false) (hb2 : decide (2000 < (n2 : Int)) = false) (he : (E != 0) = false) (he2 : (E2 != 0) = true) : Calls Try.prog 8 #[.agg #[.int .u32 s, .int .i64 q, .int .i64 a, .slice A n c], .agg #[.int .u32 s2, .int .i64 q2, .int .i64 a2, .slice A2 n2 c2]] w fun e w' => e = .returned (.bool true) ∧ Below w.heap.size w w' := by
  have Hw0 := Lib.hid (fun w h => fwrite_wr s q a A l L E n c hn w hs h hR)
  have Hw2 := Lib.hid (fun w h => fwrite_wr s2 q2 a2 A2 l2 L2 E2 n2 c2 hn2 w hs2 h hR2)
  have k1 := (Blk.new w 25 #[.int .u32 s, .int .i64 q, .int .i64 a, .slice A n c]).alloc (.cells #[.int .u32 s2, .int .i64 q2, .int .i64 a2, .slice A2 n2 c2] 25)
  have k2 := Blk.new (w.alloc (.cells #[.int .u32 s, .int .i64 q, .int .i64 a, .slice A n c] 25)) 25 #[.int .u32 s2, .int .i64 q2, .int .i64 a2, .slice A2 n2 c2]
  simp only [World.size_alloc] at k2
  have hbw := bt (ba w (.cells #[.int .u32 s, .int .i64 q, .int .i64 a, .slice A n c] 25)) (ba (w.alloc (.cells #[.int .u32 s, .int .i64 q, .int .i64 a, .slice A n c] 25)) (.cells #[.int .u32 s2, .int .i64 q2, .int .i64 a2, .slice A2 n2 c2] 25))
  have x0 := (k1).cell 0
  have x1 := (k1).cell 1
  have x2 := (k1).cell 2
  have x3 := (k1).cell 3
  simp only [List.getElem?_toArray, List.getElem?_cons_zero, List.getElem?_cons_succ] at x0 x1 x2 x3
  have d0 := (k2).cell 0
  have d1 := (k2).cell 1
  have d2 := (k2).cell 2
  have d3 := (k2).cell 3
  simp only [List.getElem?_toArray, List.getElem?_cons_zero, List.getElem?_cons_succ] at d0 d1 d2 d3
  go_enter Try.func8, Try.ntmps8
  go_wp2_with fail
  refine (Hw0.out _ (hbs.bt hbw)).mono ?_
  rintro e w1 ⟨A3, c3, J3, rfl, hJ3, own3, hb1⟩
  have g1 := k1.below hb1 k1.lt
  have g2 := k2.below hb1 k2.lt
  have hbw1 := bt hbw hb1
  clear x0 x1 x2 x3
  clear d0 d1 d2 d3
  have d0 := (g2).cell 0
  have d1 := (g2).cell 1
  have d2 := (g2).cell 2
  have d3 := (g2).cell 3
  simp only [List.getElem?_toArray, List.getElem?_cons_zero, List.getElem?_cons_succ] at d0 d1 d2 d3
  clear k1 k2 hb1 hbw
  go_wp2_with fail
  refine (Hw2.out _ (hbs2.bt hbw1)).mono ?_
  rintro e w2 ⟨A4, c4, J4, rfl, hJ4, own4, hb2⟩
  have g3 := g1.below hb2 g1.lt
  have g4 := g2.below hb2 g2.lt
  have own3' := own3.below hb2 (Nat.le_refl _)
  have hbw2 := bt hbw1 hb2
  clear d0 d1 d2 d3
  clear g1 g2 hb2
  go_wp2_with fail
  refine (alive_any _).mono ?_
  rintro e wz ⟨rfl, hbz⟩
  go_wp2
  go_ret
  exact ⟨rfl, bt hbw2 hbz⟩

def VFa (A1 A2 : Option Addr) (J1 J2 c1 c2 : Nat) (L1 L2 : List UInt8) (m1 m2 : Array Value) (b : Bool) (i : Nat) (v : Value) (w : World) : Prop :=
  match i with
  | 0 => v = .bool true
  | 1 => v = .bool true
  | 2 => v = .slice A1 J1 c1
  | 3 => v = .string ⟨L1.toArray⟩
  | 4 => v = .slice A2 J2 c2
  | 5 => v = .string ⟨L2.toArray⟩
  | 6 => v = .bool b
  | 7 => v = .agg m1
  | 8 => v = .agg m2
  | 9 => v = .bool b
  | 10 => v = .bool true
  | 11 => v = .bool true
  | 12 => v = .bool true
  | _ => True
theorem VFa.mono {A1 A2 : Option Addr} {J1 J2 c1 c2 : Nat} {L1 L2 : List UInt8} {m1 m2 : Array Value} {b : Bool} {i : Nat} {v : Value} {w w' : World} (hv : VFa A1 A2 J1 J2 c1 c2 L1 L2 m1 m2 b i v w) : VFa A1 A2 J1 J2 c1 c2 L1 L2 m1 m2 b i v w' := by
  unfold VFa at hv ⊢; split at hv <;> exact hv


set_option maxHeartbeats 2000000 in
theorem apart_same (s : Nat) (q a : Int) (A : Option Addr) (l L : List UInt8) (n c : Nat) (hn : Hid (n = l.length)) (s2 : Nat) (q2 a2 : Int) (A2 : Option Addr) (l2 : List UInt8) (n2 c2 : Nat) (hn2 : Hid (n2 = l2.length)) (w : World) (hs : s < 4294967296) (hs2 : s2 < 4294967296) (hbs : Bs w w.heap.size A l) (hbs2 : Bs w w.heap.size A2 l2) (hR : Hid (writeF s q a l = (L, 0))) (hR2 : Hid (writeF s2 q2 a2 l2 = (L, 0))) (hb : decide (2000 < (n : Int)) = false) (hb2 : decide (2000 < (n2 : Int)) = false) (hS : Hid (sameF s q a l s2 q2 a2 l2 = true)) : Calls Try.prog 8 #[.agg #[.int .u32 s, .int .i64 q, .int .i64 a, .slice A n c], .agg #[.int .u32 s2, .int .i64 q2, .int .i64 a2, .slice A2 n2 c2]] w fun e w' => e = .returned (.bool true) ∧ Below w.heap.size w w' := by
  have hsm := fun w h1 h2 => same_any s q a A l n c hn s2 q2 a2 A2 l2 n2 c2 hn2 w h1 h2
  rw [hS.out] at hsm
  have Hsm := Lib.hid hsm
  clear hsm
  have Hw0 := Lib.hid (fun w h => fwrite_wr s q a A l L 0 n c hn w hs h hR)
  have Hw2 := Lib.hid (fun w h => fwrite_wr s2 q2 a2 A2 l2 L 0 n2 c2 hn2 w hs2 h hR2)
  have k1 := (Blk.new w 25 #[.int .u32 s, .int .i64 q, .int .i64 a, .slice A n c]).alloc (.cells #[.int .u32 s2, .int .i64 q2, .int .i64 a2, .slice A2 n2 c2] 25)
  have k2 := Blk.new (w.alloc (.cells #[.int .u32 s, .int .i64 q, .int .i64 a, .slice A n c] 25)) 25 #[.int .u32 s2, .int .i64 q2, .int .i64 a2, .slice A2 n2 c2]
  simp only [World.size_alloc] at k2
  have hbw := bt (ba w (.cells #[.int .u32 s, .int .i64 q, .int .i64 a, .slice A n c] 25)) (ba (w.alloc (.cells #[.int .u32 s, .int .i64 q, .int .i64 a, .slice A n c] 25)) (.cells #[.int .u32 s2, .int .i64 q2, .int .i64 a2, .slice A2 n2 c2] 25))
  have x0 := (k1).cell 0
  have x1 := (k1).cell 1
  have x2 := (k1).cell 2
  have x3 := (k1).cell 3
  simp only [List.getElem?_toArray, List.getElem?_cons_zero, List.getElem?_cons_succ] at x0 x1 x2 x3
  have d0 := (k2).cell 0
  have d1 := (k2).cell 1
  have d2 := (k2).cell 2
  have d3 := (k2).cell 3
  simp only [List.getElem?_toArray, List.getElem?_cons_zero, List.getElem?_cons_succ] at d0 d1 d2 d3
  go_enter Try.func8, Try.ntmps8
  go_wp2_with fail
  refine (Hw0.out _ (hbs.bt hbw)).mono ?_
  rintro e w1 ⟨A3, c3, J3, rfl, hJ3, own3, hb1⟩
  have g1 := k1.below hb1 k1.lt
  have g2 := k2.below hb1 k2.lt
  have hbw1 := bt hbw hb1
  clear x0 x1 x2 x3
  clear d0 d1 d2 d3
  have d0 := (g2).cell 0
  have d1 := (g2).cell 1
  have d2 := (g2).cell 2
  have d3 := (g2).cell 3
  simp only [List.getElem?_toArray, List.getElem?_cons_zero, List.getElem?_cons_succ] at d0 d1 d2 d3
  clear k1 k2 hb1 hbw
  go_wp2_with fail
  refine (Hw2.out _ (hbs2.bt hbw1)).mono ?_
  rintro e w2 ⟨A4, c4, J4, rfl, hJ4, own4, hb2⟩
  have g3 := g1.below hb2 g1.lt
  have g4 := g2.below hb2 g2.lt
  have own3' := own3.below hb2 (Nat.le_refl _)
  have hbw2 := bt hbw1 hb2
  clear d0 d1 d2 d3
  clear g1 g2 hb2
  go_wp2_with fail
  refine wp_region_invT (F := ?FA) (V := VFa A3 A4 J3 J4 c3 c4 L L #[.int .u32 s, .int .i64 q, .int .i64 a, .slice A n c] #[.int .u32 s2, .int .i64 q2, .int .i64 a2, .slice A2 n2 c2] true) (dead := fun _ => none) (T := fun _ _ => True) (C := fun u' => Below w2.heap.size w2 u') (E := fun _ _ _ => True) (by kernel_rfl) (by kernel_rfl) (by kernel_rfl) (fun x => ?hFA) ?hmonoA ?hTmA ?hTA ?hCA ?stepA ?finA
  case hFA => simp only [mkA, Act.put, List.setIfInBounds_toArray, List.set_cons_succ, List.set_cons_zero, Nat.reduceAdd, Nat.zero_add]; first | with_reducible rfl | rfl
  case hmonoA => exact fun k i v u u' he hik hwt hdd hv => VFa.mono hv
  case hTmA => exact fun _ _ _ _ _ _ _ _ => trivial
  case hTA => exact fun j => trivial
  case hCA => exact below_drew _
  case stepA =>
    refine AllOps.cons (fun x u hC hT hp K hK => ?_) ?_
    · clear hp hT
      go_simp
      refine (alive_any _).mono ?_
      rintro e wA ⟨rfl, hbA⟩
      refine hK _ _ _ (bt hC hbA) trivial (by exact rfl) ?_
      first | (simp only [Act.put, List.setIfInBounds_toArray, List.set_cons_succ, List.set_cons_zero]; done) | simp [Act.put]
    refine AllOps.cons (fun x u hC hT hp K hK => ?_) ?_
    · simp [KnownTill, Region.binds, VFa] at hp
      clear hT
      go_simp
      refine hK _ _ _ hC trivial (by exact rfl) ?_
      first | (simp only [Act.put, List.setIfInBounds_toArray, List.set_cons_succ, List.set_cons_zero, hp]; done) | simp [Act.put, hp]
    refine AllOps.cons (fun x u hC hT hp K hK => ?_) ?_
    · simp [KnownTill, Region.binds, VFa] at hp
      clear hT
      go_simp
      refine hK _ _ _ hC trivial (by exact rfl) ?_
      first | (simp only [Act.put, List.setIfInBounds_toArray, List.set_cons_succ, List.set_cons_zero, hp]; done) | simp [Act.put, hp]
    refine AllOps.cons (fun x u hC hT hp K hK => ?_) ?_
    · simp [KnownTill, Region.binds, VFa] at hp
      clear hT
      have cv := conv_n A3 L J3 c3 hJ3 u _ (own3'.below hC (Nat.le_refl _)).bs
      go_simp
      refine hK _ _ _ hC trivial (by exact rfl) ?_
      first | (simp only [Act.put, List.setIfInBounds_toArray, List.set_cons_succ, List.set_cons_zero, hp]; done) | simp [Act.put, hp]
    refine AllOps.cons (fun x u hC hT hp K hK => ?_) ?_
    · simp [KnownTill, Region.binds, VFa] at hp
      clear hT
      go_simp
      refine hK _ _ _ hC trivial (by exact rfl) ?_
      first | (simp only [Act.put, List.setIfInBounds_toArray, List.set_cons_succ, List.set_cons_zero, hp]; done) | simp [Act.put, hp]
    refine AllOps.cons (fun x u hC hT hp K hK => ?_) ?_
    · simp [KnownTill, Region.binds, VFa] at hp
      clear hT
      have cv := conv_n A4 L J4 c4 hJ4 u _ (own4.below hC (Nat.le_refl _)).bs
      go_simp
      refine hK _ _ _ hC trivial (by exact rfl) ?_
      first | (simp only [Act.put, List.setIfInBounds_toArray, List.set_cons_succ, List.set_cons_zero, hp]; done) | simp [Act.put, hp]
    refine AllOps.cons (fun x u hC hT hp K hK => ?_) ?_
    · simp [KnownTill, Region.binds, VFa] at hp
      clear hT
      go_simp
      refine hK _ _ _ hC trivial (by exact rfl) ?_
      first | (simp only [Act.put, List.setIfInBounds_toArray, List.set_cons_succ, List.set_cons_zero, hp]; done) | simp [Act.put, hp]
    refine AllOps.cons (fun x u hC hT hp K hK => ?_) ?_
    · simp [KnownTill, Region.binds, VFa] at hp
      clear hT
      have d0 := ((g3.below hC g3.lt)).cell 0
      have d1 := ((g3.below hC g3.lt)).cell 1
      have d2 := ((g3.below hC g3.lt)).cell 2
      have d3 := ((g3.below hC g3.lt)).cell 3
      simp only [List.getElem?_toArray, List.getElem?_cons_zero, List.getElem?_cons_succ] at d0 d1 d2 d3
      go_simp
      refine hK _ _ _ hC trivial (by exact rfl) ?_
      first | (simp only [Act.put, List.setIfInBounds_toArray, List.set_cons_succ, List.set_cons_zero, hp]; done) | simp [Act.put, hp]
    refine AllOps.cons (fun x u hC hT hp K hK => ?_) ?_
    · simp [KnownTill, Region.binds, VFa] at hp
      clear hT
      have d0 := ((g4.below hC g4.lt)).cell 0
      have d1 := ((g4.below hC g4.lt)).cell 1
      have d2 := ((g4.below hC g4.lt)).cell 2
      have d3 := ((g4.below hC g4.lt)).cell 3
      simp only [List.getElem?_toArray, List.getElem?_cons_zero, List.getElem?_cons_succ] at d0 d1 d2 d3
      go_simp
      refine hK _ _ _ hC trivial (by exact rfl) ?_
      first | (simp only [Act.put, List.setIfInBounds_toArray, List.set_cons_succ, List.set_cons_zero, hp]; done) | simp [Act.put, hp]
    refine AllOps.cons (fun x u hC hT hp K hK => ?_) ?_
    · simp [KnownTill, Region.binds, VFa] at hp
      clear hT
      go_simp
      refine (Hsm.out u (hbs.bt (bt hbw2 hC)) (hbs2.bt (bt hbw2 hC))).mono ?_
      rintro e wA ⟨rfl, hbA⟩
      refine hK _ _ _ (bt hC hbA) trivial (by exact rfl) ?_
      first | (simp only [Act.put, List.setIfInBounds_toArray, List.set_cons_succ, List.set_cons_zero, hp]; done) | simp [Act.put, hp]
    refine AllOps.cons (fun x u hC hT hp K hK => ?_) ?_
    · simp [KnownTill, Region.binds, VFa] at hp
      clear hT
      go_simp
      refine hK _ _ _ hC trivial (by exact rfl) ?_
      first | (simp only [Act.put, List.setIfInBounds_toArray, List.set_cons_succ, List.set_cons_zero, hp]; done) | simp [Act.put, hp]
    refine AllOps.cons (fun x u hC hT hp K hK => ?_) ?_
    · simp [KnownTill, Region.binds, VFa] at hp
      clear hT
      go_simp
      refine hK _ _ _ hC trivial (by exact rfl) ?_
      first | (simp only [Act.put, List.setIfInBounds_toArray, List.set_cons_succ, List.set_cons_zero, hp]; done) | simp [Act.put, hp]
    refine AllOps.cons (fun x u hC hT hp K hK => ?_) ?_
    · simp [KnownTill, Region.binds, VFa] at hp
      clear hT
      go_simp
      refine hK _ _ _ hC trivial (by exact rfl) ?_
      first | (simp only [Act.put, List.setIfInBounds_toArray, List.set_cons_succ, List.set_cons_zero, hp]; done) | simp [Act.put, hp]
    exact AllOps.nil
  case finA =>
    intro x u hC hV
    have hz : x 12 = .bool true := hV 12 (by decide) rfl
    rw [hz]
    have hbe := bt hbw2 hC
    clear hV hz hC g3 g4
    go_wp2
    go_ret
    exact ⟨rfl, hbe⟩

set_option maxHeartbeats 2000000 in
theorem apart_diff (s : Nat) (q a : Int) (A : Option Addr) (l L : List UInt8) (n c : Nat) (hn : Hid (n = l.length)) (s2 : Nat) (q2 a2 : Int) (A2 : Option Addr) (l2 L2 : List UInt8) (n2 c2 : Nat) (hn2 : Hid (n2 = l2.length)) (w : World) (hs : s < 4294967296) (hs2 : s2 < 4294967296) (hbs : Bs w w.heap.size A l) (hbs2 : Bs w w.heap.size A2 l2) (hR : Hid (writeF s q a l = (L, 0))) (hR2 : Hid (writeF s2 q2 a2 l2 = (L2, 0))) (hb : decide (2000 < (n : Int)) = false) (hb2 : decide (2000 < (n2 : Int)) = false) (hS : Hid (sameF s q a l s2 q2 a2 l2 = false)) (hL : L ≠ L2) : Calls Try.prog 8 #[.agg #[.int .u32 s, .int .i64 q, .int .i64 a, .slice A n c], .agg #[.int .u32 s2, .int .i64 q2, .int .i64 a2, .slice A2 n2 c2]] w fun e w' => e = .returned (.bool true) ∧ Below w.heap.size w w' := by
  have hsm := fun w h1 h2 => same_any s q a A l n c hn s2 q2 a2 A2 l2 n2 c2 hn2 w h1 h2
  rw [hS.out] at hsm
  have Hsm := Lib.hid hsm
  clear hsm
  have Hw0 := Lib.hid (fun w h => fwrite_wr s q a A l L 0 n c hn w hs h hR)
  have Hw2 := Lib.hid (fun w h => fwrite_wr s2 q2 a2 A2 l2 L2 0 n2 c2 hn2 w hs2 h hR2)
  have k1 := (Blk.new w 25 #[.int .u32 s, .int .i64 q, .int .i64 a, .slice A n c]).alloc (.cells #[.int .u32 s2, .int .i64 q2, .int .i64 a2, .slice A2 n2 c2] 25)
  have k2 := Blk.new (w.alloc (.cells #[.int .u32 s, .int .i64 q, .int .i64 a, .slice A n c] 25)) 25 #[.int .u32 s2, .int .i64 q2, .int .i64 a2, .slice A2 n2 c2]
  simp only [World.size_alloc] at k2
  have hbw := bt (ba w (.cells #[.int .u32 s, .int .i64 q, .int .i64 a, .slice A n c] 25)) (ba (w.alloc (.cells #[.int .u32 s, .int .i64 q, .int .i64 a, .slice A n c] 25)) (.cells #[.int .u32 s2, .int .i64 q2, .int .i64 a2, .slice A2 n2 c2] 25))
  have x0 := (k1).cell 0
  have x1 := (k1).cell 1
  have x2 := (k1).cell 2
  have x3 := (k1).cell 3
  simp only [List.getElem?_toArray, List.getElem?_cons_zero, List.getElem?_cons_succ] at x0 x1 x2 x3
  have d0 := (k2).cell 0
  have d1 := (k2).cell 1
  have d2 := (k2).cell 2
  have d3 := (k2).cell 3
  simp only [List.getElem?_toArray, List.getElem?_cons_zero, List.getElem?_cons_succ] at d0 d1 d2 d3
  go_enter Try.func8, Try.ntmps8
  go_wp2_with fail
  refine (Hw0.out _ (hbs.bt hbw)).mono ?_
  rintro e w1 ⟨A3, c3, J3, rfl, hJ3, own3, hb1⟩
  have g1 := k1.below hb1 k1.lt
  have g2 := k2.below hb1 k2.lt
  have hbw1 := bt hbw hb1
  clear x0 x1 x2 x3
  clear d0 d1 d2 d3
  have d0 := (g2).cell 0
  have d1 := (g2).cell 1
  have d2 := (g2).cell 2
  have d3 := (g2).cell 3
  simp only [List.getElem?_toArray, List.getElem?_cons_zero, List.getElem?_cons_succ] at d0 d1 d2 d3
  clear k1 k2 hb1 hbw
  go_wp2_with fail
  refine (Hw2.out _ (hbs2.bt hbw1)).mono ?_
  rintro e w2 ⟨A4, c4, J4, rfl, hJ4, own4, hb2⟩
  have g3 := g1.below hb2 g1.lt
  have g4 := g2.below hb2 g2.lt
  have own3' := own3.below hb2 (Nat.le_refl _)
  have hbw2 := bt hbw1 hb2
  clear d0 d1 d2 d3
  clear g1 g2 hb2
  have hl0 : (L == L2) = false := beq_eq_false_iff_ne.2 hL
  have hl1 : ((ByteArray.mk L.toArray).toList == (ByteArray.mk L2.toArray).toList) = false := by rw [ByteArray.toList_eq, ByteArray.toList_eq]; exact hl0
  have hl4 : decide (L = L2) = false := decide_eq_false hL
  go_wp2_with fail
  refine wp_region_invT (F := ?FA) (V := VFa A3 A4 J3 J4 c3 c4 L L2 #[.int .u32 s, .int .i64 q, .int .i64 a, .slice A n c] #[.int .u32 s2, .int .i64 q2, .int .i64 a2, .slice A2 n2 c2] false) (dead := fun _ => none) (T := fun _ _ => True) (C := fun u' => Below w2.heap.size w2 u') (E := fun _ _ _ => True) (by kernel_rfl) (by kernel_rfl) (by kernel_rfl) (fun x => ?hFA) ?hmonoA ?hTmA ?hTA ?hCA ?stepA ?finA
  case hFA => simp only [mkA, Act.put, List.setIfInBounds_toArray, List.set_cons_succ, List.set_cons_zero, Nat.reduceAdd, Nat.zero_add]; first | with_reducible rfl | rfl
  case hmonoA => exact fun k i v u u' he hik hwt hdd hv => VFa.mono hv
  case hTmA => exact fun _ _ _ _ _ _ _ _ => trivial
  case hTA => exact fun j => trivial
  case hCA => exact below_drew _
  case stepA =>
    refine AllOps.cons (fun x u hC hT hp K hK => ?_) ?_
    · clear hp hT
      go_simp
      refine (alive_any _).mono ?_
      rintro e wA ⟨rfl, hbA⟩
      refine hK _ _ _ (bt hC hbA) trivial (by exact rfl) ?_
      first | (simp only [Act.put, List.setIfInBounds_toArray, List.set_cons_succ, List.set_cons_zero]; done) | simp [Act.put]
    refine AllOps.cons (fun x u hC hT hp K hK => ?_) ?_
    · simp [KnownTill, Region.binds, VFa] at hp
      clear hT
      go_simp
      refine hK _ _ _ hC trivial (by exact rfl) ?_
      first | (simp only [Act.put, List.setIfInBounds_toArray, List.set_cons_succ, List.set_cons_zero, hp]; done) | simp [Act.put, hp]
    refine AllOps.cons (fun x u hC hT hp K hK => ?_) ?_
    · simp [KnownTill, Region.binds, VFa] at hp
      clear hT
      go_simp
      refine hK _ _ _ hC trivial (by exact rfl) ?_
      first | (simp only [Act.put, List.setIfInBounds_toArray, List.set_cons_succ, List.set_cons_zero, hp]; done) | simp [Act.put, hp]
    refine AllOps.cons (fun x u hC hT hp K hK => ?_) ?_
    · simp [KnownTill, Region.binds, VFa] at hp
      clear hT
      have cv := conv_n A3 L J3 c3 hJ3 u _ (own3'.below hC (Nat.le_refl _)).bs
      go_simp
      refine hK _ _ _ hC trivial (by exact rfl) ?_
      first | (simp only [Act.put, List.setIfInBounds_toArray, List.set_cons_succ, List.set_cons_zero, hp]; done) | simp [Act.put, hp]
    refine AllOps.cons (fun x u hC hT hp K hK => ?_) ?_
    · simp [KnownTill, Region.binds, VFa] at hp
      clear hT
      go_simp
      refine hK _ _ _ hC trivial (by exact rfl) ?_
      first | (simp only [Act.put, List.setIfInBounds_toArray, List.set_cons_succ, List.set_cons_zero, hp]; done) | simp [Act.put, hp]
    refine AllOps.cons (fun x u hC hT hp K hK => ?_) ?_
    · simp [KnownTill, Region.binds, VFa] at hp
      clear hT
      have cv := conv_n A4 L2 J4 c4 hJ4 u _ (own4.below hC (Nat.le_refl _)).bs
      go_simp
      refine hK _ _ _ hC trivial (by exact rfl) ?_
      first | (simp only [Act.put, List.setIfInBounds_toArray, List.set_cons_succ, List.set_cons_zero, hp]; done) | simp [Act.put, hp]
    refine AllOps.cons (fun x u hC hT hp K hK => ?_) ?_
    · simp [KnownTill, Region.binds, VFa] at hp
      clear hT
      go_simp
      refine hK _ _ _ hC trivial (by exact rfl) ?_
      first | (simp only [Act.put, List.setIfInBounds_toArray, List.set_cons_succ, List.set_cons_zero, hp]; done) | simp [Act.put, hp]
    refine AllOps.cons (fun x u hC hT hp K hK => ?_) ?_
    · simp [KnownTill, Region.binds, VFa] at hp
      clear hT
      have d0 := ((g3.below hC g3.lt)).cell 0
      have d1 := ((g3.below hC g3.lt)).cell 1
      have d2 := ((g3.below hC g3.lt)).cell 2
      have d3 := ((g3.below hC g3.lt)).cell 3
      simp only [List.getElem?_toArray, List.getElem?_cons_zero, List.getElem?_cons_succ] at d0 d1 d2 d3
      go_simp
      refine hK _ _ _ hC trivial (by exact rfl) ?_
      first | (simp only [Act.put, List.setIfInBounds_toArray, List.set_cons_succ, List.set_cons_zero, hp]; done) | simp [Act.put, hp]
    refine AllOps.cons (fun x u hC hT hp K hK => ?_) ?_
    · simp [KnownTill, Region.binds, VFa] at hp
      clear hT
      have d0 := ((g4.below hC g4.lt)).cell 0
      have d1 := ((g4.below hC g4.lt)).cell 1
      have d2 := ((g4.below hC g4.lt)).cell 2
      have d3 := ((g4.below hC g4.lt)).cell 3
      simp only [List.getElem?_toArray, List.getElem?_cons_zero, List.getElem?_cons_succ] at d0 d1 d2 d3
      go_simp
      refine hK _ _ _ hC trivial (by exact rfl) ?_
      first | (simp only [Act.put, List.setIfInBounds_toArray, List.set_cons_succ, List.set_cons_zero, hp]; done) | simp [Act.put, hp]
    refine AllOps.cons (fun x u hC hT hp K hK => ?_) ?_
    · simp [KnownTill, Region.binds, VFa] at hp
      clear hT
      go_simp
      refine (Hsm.out u (hbs.bt (bt hbw2 hC)) (hbs2.bt (bt hbw2 hC))).mono ?_
      rintro e wA ⟨rfl, hbA⟩
      refine hK _ _ _ (bt hC hbA) trivial (by exact rfl) ?_
      first | (simp only [Act.put, List.setIfInBounds_toArray, List.set_cons_succ, List.set_cons_zero, hp]; done) | simp [Act.put, hp]
    refine AllOps.cons (fun x u hC hT hp K hK => ?_) ?_
    · simp [KnownTill, Region.binds, VFa] at hp
      clear hT
      go_simp
      refine hK _ _ _ hC trivial (by exact rfl) ?_
      first | (simp only [Act.put, List.setIfInBounds_toArray, List.set_cons_succ, List.set_cons_zero, hp]; done) | simp [Act.put, hp]
    refine AllOps.cons (fun x u hC hT hp K hK => ?_) ?_
    · simp [KnownTill, Region.binds, VFa] at hp
      clear hT
      go_simp
      refine hK _ _ _ hC trivial (by exact rfl) ?_
      first | (simp only [Act.put, List.setIfInBounds_toArray, List.set_cons_succ, List.set_cons_zero, hp]; done) | simp [Act.put, hp]
    refine AllOps.cons (fun x u hC hT hp K hK => ?_) ?_
    · simp [KnownTill, Region.binds, VFa] at hp
      clear hT
      go_simp
      refine hK _ _ _ hC trivial (by exact rfl) ?_
      first | (simp only [Act.put, List.setIfInBounds_toArray, List.set_cons_succ, List.set_cons_zero, hp]; done) | simp [Act.put, hp]
    exact AllOps.nil
  case finA =>
    intro x u hC hV
    have hz : x 12 = .bool true := hV 12 (by decide) rfl
    rw [hz]
    have hbe := bt hbw2 hC
    clear hV hz hC g3 g4
    go_wp2
    go_ret
    exact ⟨rfl, hbe⟩

theorem frameApart_walk (o o2 : FrmV) (w : World) (ho : FrmOk w o) (ho2 : FrmOk w o2) : Calls Try.prog 8 #[o.val, o2.val] w fun e w' => e = .returned (.bool true) ∧ Below w.heap.size w w' := by
  obtain ⟨s, q, a, A, l, c⟩ := o
  obtain ⟨s1, _, _, _, _, bs, _, _⟩ := ho
  obtain ⟨s2, q2, a2, A2, l2, c2⟩ := o2
  obtain ⟨s12, _, _, _, _, bs2, _, _⟩ := ho2
  simp only at s1 bs s12 bs2
  unfold FrmV.val
  rcases hb : decide (2000 < (l.length : Int)) with _ | _
  · rcases hb2 : decide (2000 < (l2.length : Int)) with _ | _
    · obtain ⟨⟨L, E⟩, hR⟩ : ∃ r, r = writeF s q a l := ⟨_, rfl⟩
      obtain ⟨⟨L2, E2⟩, hR2⟩ : ∃ r, r = writeF s2 q2 a2 l2 := ⟨_, rfl⟩
      have go1 := writeF_ok hR.symm
      have go2 := writeF_ok hR2.symm
      by_cases h1 : E = 0
      · by_cases h2 : E2 = 0
        · subst h1 h2
          by_cases hL : L = L2
          · subst hL
            obtain ⟨r1, r2, r3, r4⟩ := writeF_inj s1 s12 hR.symm hR2.symm
            exact apart_same s q a A l L _ c (Lib.hid rfl) s2 q2 a2 A2 l2 _ c2 (Lib.hid rfl) w s1 s12 bs bs2 (Lib.hid hR.symm) (Lib.hid hR2.symm) hb hb2 (Lib.hid (by simp [sameF, r1, r2, r3, r4]))
          · refine apart_diff s q a A l L _ c (Lib.hid rfl) s2 q2 a2 A2 l2 L2 _ c2 (Lib.hid rfl) w s1 s12 bs bs2 (Lib.hid hR.symm) (Lib.hid hR2.symm) hb hb2 (Lib.hid ?_) hL
            cases hsf : sameF s q a l s2 q2 a2 l2 with
            | false => rfl
            | true =>
              exfalso
              unfold sameF at hsf
              simp at hsf
              obtain ⟨r1, r2, r3, r4⟩ := hsf
              subst r1 r2 r3 r4
              rw [← hR2] at hR
              injection hR with hR
              exact hL hR
        · exact apart_err2 s q a A l L E _ c (Lib.hid rfl) s2 q2 a2 A2 l2 L2 E2 _ c2 (Lib.hid rfl) w s1 s12 bs bs2 (Lib.hid hR.symm) (Lib.hid hR2.symm) hb hb2 (by subst h1; rfl) (bne_iff_ne.2 h2)
      · exact apart_err1 s q a A l L E _ c (Lib.hid rfl) s2 q2 a2 A2 l2 L2 E2 _ c2 (Lib.hid rfl) w s1 s12 bs bs2 (Lib.hid hR.symm) (Lib.hid hR2.symm) hb hb2 (bne_iff_ne.2 h1)
    · exact apart_big2 s q a A _ c s2 q2 a2 A2 _ c2 w hb hb2
  · exact apart_big1 s q a A _ c s2 q2 a2 A2 _ c2 w hb
end Go.Proofs.Ythmhkicgghobmaa
