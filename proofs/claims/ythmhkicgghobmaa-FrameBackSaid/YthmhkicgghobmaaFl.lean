/- Layer 7: frames there and back. -/
import Derived.Test.YthmhkicgghobmaaFj
namespace Go.Proofs.Ythmhkicgghobmaa
open Go.RowKit
set_option linter.unusedVariables false
set_option linter.unusedSimpArgs false

theorem back_big1 (s : Nat) (q a : Int) (A : Option Addr) (n c : Nat) (A0 : Option Addr) (m c0 : Nat) (w : World) (hb : decide (2000 < (n : Int)) = true) : Calls Try.prog 5 #[.agg #[.int .u32 s, .int .i64 q, .int .i64 a, .slice A n c], .slice A0 m c0] w fun e w' => e = .returned (.bool true) ∧ Below w.heap.size w w' := by
  have k1 := Blk.new w 25 #[.int .u32 s, .int .i64 q, .int .i64 a, .slice A n c]
  have hbw := ba w (.cells #[.int .u32 s, .int .i64 q, .int .i64 a, .slice A n c] 25)
  have x0 := (k1).cell 0
  have x1 := (k1).cell 1
  have x2 := (k1).cell 2
  have x3 := (k1).cell 3
  simp only [List.getElem?_toArray, List.getElem?_cons_zero, List.getElem?_cons_succ] at x0 x1 x2 x3
  go_enter Try.func5, Try.ntmps5
  go_wp2_with fail
  refine (alive_any _).mono ?_
  rintro e wz ⟨rfl, hbz⟩
  go_wp2
  go_ret
  exact ⟨rfl, bt hbw hbz⟩

theorem back_big2 (s : Nat) (q a : Int) (A : Option Addr) (n c : Nat) (A0 : Option Addr) (m c0 : Nat) (w : World) (hb : decide (2000 < (n : Int)) = false) (hb2 : decide (2000 < (m : Int)) = true) : Calls Try.prog 5 #[.agg #[.int .u32 s, .int .i64 q, .int .i64 a, .slice A n c], .slice A0 m c0] w fun e w' => e = .returned (.bool true) ∧ Below w.heap.size w w' := by
  have k1 := Blk.new w 25 #[.int .u32 s, .int .i64 q, .int .i64 a, .slice A n c]
  have hbw := ba w (.cells #[.int .u32 s, .int .i64 q, .int .i64 a, .slice A n c] 25)
  have x0 := (k1).cell 0
  have x1 := (k1).cell 1
  have x2 := (k1).cell 2
  have x3 := (k1).cell 3
  simp only [List.getElem?_toArray, List.getElem?_cons_zero, List.getElem?_cons_succ] at x0 x1 x2 x3
  go_enter Try.func5, Try.ntmps5
  go_wp2_with fail
  refine (alive_any _).mono ?_
  rintro e wz ⟨rfl, hbz⟩
  go_wp2
  go_ret
  exact ⟨rfl, bt hbw hbz⟩

set_option maxHeartbeats 2000000 in
theorem back_11 (s : Nat) (q a : Nat) (A : Option Addr) (l L : List UInt8) (n c : Nat) (hn : Hid (n = l.length)) (A0 : Option Addr) (b : List UInt8) (m c0 : Nat) (hmn : Hid (m = b.length)) (hc0 : Hid (m ≤ c0)) (hcm0 : Hid (c0 ≤ 9223372036854775807)) (w : World) (hs : s < 4294967296) (hbs : Bs w w.heap.size A l) (hbm : Bs w w.heap.size A0 b) (hR : Hid (writeF s q a l = (L, 0))) (hb : decide (2000 < (n : Int)) = false) (hb2 : decide (2000 < (m : Int)) = false) (hrd : Hid (readF L = (s, q, a, l, 0))) (S Q Z : Nat) (D : List UInt8) (hrd2 : Hid (readF b = (S, Q, Z, D, 0))) (hS : S < 4294967296) (hR2 : Hid (writeF S Q Z D = (b, 0))) : Calls Try.prog 5 #[.agg #[.int .u32 s, .int .i64 q, .int .i64 a, .slice A n c], .slice A0 m c0] w fun e w' => e = .returned (.bool true) ∧ Below w.heap.size w w' := by
  have Hw0 := Lib.hid (fun w h => fwrite_wr s q a A l L 0 n c hn w hs h hR)
  have k1 := Blk.new w 25 #[.int .u32 s, .int .i64 q, .int .i64 a, .slice A n c]
  have hbw := ba w (.cells #[.int .u32 s, .int .i64 q, .int .i64 a, .slice A n c] 25)
  have x0 := (k1).cell 0
  have x1 := (k1).cell 1
  have x2 := (k1).cell 2
  have x3 := (k1).cell 3
  simp only [List.getElem?_toArray, List.getElem?_cons_zero, List.getElem?_cons_succ] at x0 x1 x2 x3
  go_enter Try.func5, Try.ntmps5
  go_wp2_with fail
  refine (Hw0.out _ (hbs.bt hbw)).mono ?_
  rintro e w1 ⟨A1, c1, J1, rfl, hJ1, own1, hb1⟩
  have hbw1 := bt hbw hb1
  have kf := k1.below hb1 k1.lt
  clear x0 x1 x2 x3
  clear k1 hbw hb1
  have HBM := Lib.hid hbm
  clear hbm
  obtain ⟨hcap1, hcap2⟩ := own_cap own1
  have hz := fread_any A1 L J1 c1 hJ1 (Lib.hid (by rw [hJ1.out]; exact hcap1)) (Lib.hid hcap2) _ own1.bs s q a l 0 hrd
  clear hcap1 hcap2
  go_wp2_with fail
  refine hz.mono ?_
  clear hz
  rintro e w2 ⟨A2, c2, N2, rfl, hN2, own2, hb2⟩
  have k2 := Blk.new w2 25 #[.int .u32 s, .int .i64 q, .int .i64 a, .slice A2 N2 c2]
  have kf2 := (kf.below hb2 kf.lt).alloc (.cells #[.int .u32 s, .int .i64 q, .int .i64 a, .slice A2 N2 c2] 25)
  have own3 := own2.alloc (.cells #[.int .u32 s, .int .i64 q, .int .i64 a, .slice A2 N2 c2] 25)
  have hbw2 := bt (bt hbw1 hb2) (ba w2 (.cells #[.int .u32 s, .int .i64 q, .int .i64 a, .slice A2 N2 c2] 25))
  have x0 := (kf2).cell 0
  have x1 := (kf2).cell 1
  have x2 := (kf2).cell 2
  have x3 := (kf2).cell 3
  simp only [List.getElem?_toArray, List.getElem?_cons_zero, List.getElem?_cons_succ] at x0 x1 x2 x3
  have y0 := (k2).cell 0
  have y1 := (k2).cell 1
  have y2 := (k2).cell 2
  have y3 := (k2).cell 3
  simp only [List.getElem?_toArray, List.getElem?_cons_zero, List.getElem?_cons_succ] at y0 y1 y2 y3
  have hsm := same_any s q a A l n c hn s q a A2 l N2 c2 hN2 _ (hbs.bt hbw2) own3.bs
  rw [show sameF s q a l s q a l = true by simp [sameF]] at hsm
  clear hb2 own2 own1 hbw1
  go_wp2_with fail
  refine hsm.mono ?_
  clear hsm
  rintro e w3 ⟨rfl, hb3⟩
  have hbw3 := bt hbw2 hb3
  clear x0 x1 x2 x3
  clear y0 y1 y2 y3
  clear kf kf2 k2 own3 hb3 hbw2
  have hz := fun u hu => fread_any A0 b m c0 hmn hc0 hcm0 u hu S Q Z D 0 hrd2
  have Hz := Lib.hid hz
  clear hz
  go_wp2_with fail
  refine (Hz.out _ (HBM.out.bt hbw3)).mono ?_
  rintro e w4 ⟨A5, c5, N5, rfl, hN5, own5, hb5⟩
  have k5 := Blk.new w4 25 #[.int .u32 S, .int .i64 Q, .int .i64 Z, .slice A5 N5 c5]
  have own6 := own5.alloc (.cells #[.int .u32 S, .int .i64 Q, .int .i64 Z, .slice A5 N5 c5] 25)
  have hbw4 := bt (bt hbw3 hb5) (ba w4 (.cells #[.int .u32 S, .int .i64 Q, .int .i64 Z, .slice A5 N5 c5] 25))
  have x0 := (k5).cell 0
  have x1 := (k5).cell 1
  have x2 := (k5).cell 2
  have x3 := (k5).cell 3
  simp only [List.getElem?_toArray, List.getElem?_cons_zero, List.getElem?_cons_succ] at x0 x1 x2 x3
  have hw2 := fwrite_wr S Q Z A5 D b 0 N5 c5 hN5 _ hS own6.bs hR2
  clear hb5 own5 k5
  go_wp2_with fail
  refine hw2.mono ?_
  clear hw2
  rintro e w5 ⟨A6, c6, J6, rfl, hJ6, own7, hb6⟩
  have hbw5 := bt hbw4 hb6
  clear x0 x1 x2 x3
  clear own6 hb6 hbw4
  go_wp2_with fail
  refine (alive_any _).mono ?_
  rintro e w6 ⟨rfl, hb7⟩
  have own8 := own7.below hb7 (Nat.le_refl _)
  have hbw6 := bt hbw5 hb7
  have cv1 := conv_n A6 b J6 c6 hJ6 _ _ own8.bs
  have cv2 := conv_n A0 b m c0 hmn _ _ (HBM.out.bt hbw6)
  clear own7 own8 hb7 hbw5
  go_wp2
  go_ret
  exact ⟨rfl, hbw6⟩

set_option maxHeartbeats 2000000 in
theorem back_10 (s : Nat) (q a : Nat) (A : Option Addr) (l L : List UInt8) (n c : Nat) (hn : Hid (n = l.length)) (A0 : Option Addr) (b : List UInt8) (m c0 : Nat) (hmn : Hid (m = b.length)) (hc0 : Hid (m ≤ c0)) (hcm0 : Hid (c0 ≤ 9223372036854775807)) (w : World) (hs : s < 4294967296) (hbs : Bs w w.heap.size A l) (hbm : Bs w w.heap.size A0 b) (hR : Hid (writeF s q a l = (L, 0))) (hb : decide (2000 < (n : Int)) = false) (hb2 : decide (2000 < (m : Int)) = false) (hrd : Hid (readF L = (s, q, a, l, 0))) (E2 : Int) (hE2 : (E2 != 0) = true) (hrd2 : Hid (readF b = (0, 0, 0, [], E2))) : Calls Try.prog 5 #[.agg #[.int .u32 s, .int .i64 q, .int .i64 a, .slice A n c], .slice A0 m c0] w fun e w' => e = .returned (.bool true) ∧ Below w.heap.size w w' := by
  have Hw0 := Lib.hid (fun w h => fwrite_wr s q a A l L 0 n c hn w hs h hR)
  have k1 := Blk.new w 25 #[.int .u32 s, .int .i64 q, .int .i64 a, .slice A n c]
  have hbw := ba w (.cells #[.int .u32 s, .int .i64 q, .int .i64 a, .slice A n c] 25)
  have x0 := (k1).cell 0
  have x1 := (k1).cell 1
  have x2 := (k1).cell 2
  have x3 := (k1).cell 3
  simp only [List.getElem?_toArray, List.getElem?_cons_zero, List.getElem?_cons_succ] at x0 x1 x2 x3
  go_enter Try.func5, Try.ntmps5
  go_wp2_with fail
  refine (Hw0.out _ (hbs.bt hbw)).mono ?_
  rintro e w1 ⟨A1, c1, J1, rfl, hJ1, own1, hb1⟩
  have hbw1 := bt hbw hb1
  have kf := k1.below hb1 k1.lt
  clear x0 x1 x2 x3
  clear k1 hbw hb1
  have HBM := Lib.hid hbm
  clear hbm
  obtain ⟨hcap1, hcap2⟩ := own_cap own1
  have hz := fread_any A1 L J1 c1 hJ1 (Lib.hid (by rw [hJ1.out]; exact hcap1)) (Lib.hid hcap2) _ own1.bs s q a l 0 hrd
  clear hcap1 hcap2
  go_wp2_with fail
  refine hz.mono ?_
  clear hz
  rintro e w2 ⟨A2, c2, N2, rfl, hN2, own2, hb2⟩
  have k2 := Blk.new w2 25 #[.int .u32 s, .int .i64 q, .int .i64 a, .slice A2 N2 c2]
  have kf2 := (kf.below hb2 kf.lt).alloc (.cells #[.int .u32 s, .int .i64 q, .int .i64 a, .slice A2 N2 c2] 25)
  have own3 := own2.alloc (.cells #[.int .u32 s, .int .i64 q, .int .i64 a, .slice A2 N2 c2] 25)
  have hbw2 := bt (bt hbw1 hb2) (ba w2 (.cells #[.int .u32 s, .int .i64 q, .int .i64 a, .slice A2 N2 c2] 25))
  have x0 := (kf2).cell 0
  have x1 := (kf2).cell 1
  have x2 := (kf2).cell 2
  have x3 := (kf2).cell 3
  simp only [List.getElem?_toArray, List.getElem?_cons_zero, List.getElem?_cons_succ] at x0 x1 x2 x3
  have y0 := (k2).cell 0
  have y1 := (k2).cell 1
  have y2 := (k2).cell 2
  have y3 := (k2).cell 3
  simp only [List.getElem?_toArray, List.getElem?_cons_zero, List.getElem?_cons_succ] at y0 y1 y2 y3
  have hsm := same_any s q a A l n c hn s q a A2 l N2 c2 hN2 _ (hbs.bt hbw2) own3.bs
  rw [show sameF s q a l s q a l = true by simp [sameF]] at hsm
  clear hb2 own2 own1 hbw1
  go_wp2_with fail
  refine hsm.mono ?_
  clear hsm
  rintro e w3 ⟨rfl, hb3⟩
  have hbw3 := bt hbw2 hb3
  clear x0 x1 x2 x3
  clear y0 y1 y2 y3
  clear kf kf2 k2 own3 hb3 hbw2
  have hz := fun u hu => fread_zero A0 b m c0 hmn hc0 hcm0 u hu E2 hrd2
  have Hz := Lib.hid hz
  clear hz
  go_wp2_with fail
  refine (Hz.out _ (HBM.out.bt hbw3)).mono ?_
  rintro e w4 ⟨A5, c5, rfl, own5, hb5⟩
  have k5 := Blk.new w4 25 #[.int .u32 0, .int .i64 0, .int .i64 0, .slice A5 0 c5]
  have own6 := own5.alloc (.cells #[.int .u32 0, .int .i64 0, .int .i64 0, .slice A5 0 c5] 25)
  have hbw4 := bt (bt hbw3 hb5) (ba w4 (.cells #[.int .u32 0, .int .i64 0, .int .i64 0, .slice A5 0 c5] 25))
  have x0 := (k5).cell 0
  have x1 := (k5).cell 1
  have x2 := (k5).cell 2
  have x3 := (k5).cell 3
  simp only [List.getElem?_toArray, List.getElem?_cons_zero, List.getElem?_cons_succ] at x0 x1 x2 x3
  clear hb5 own5
  go_wp2_with fail
  refine (alive_any _).mono ?_
  rintro e w5 ⟨rfl, hb6⟩
  have k6 := k5.below hb6 (by simp)
  have own7 := own6.below hb6 (Nat.le_refl _)
  have hbw5 := bt hbw4 hb6
  clear x0 x1 x2 x3
  have x0 := (k6).cell 0
  have x1 := (k6).cell 1
  have x2 := (k6).cell 2
  have x3 := (k6).cell 3
  simp only [List.getElem?_toArray, List.getElem?_cons_zero, List.getElem?_cons_succ] at x0 x1 x2 x3
  have hsm := same_any 0 0 0 A5 [] 0 c5 (Lib.hid rfl) 0 0 0 none [] 0 0 (Lib.hid rfl) w5 own7.bs Bs.nil
  rw [show sameF 0 0 0 [] 0 0 0 [] = true by simp [sameF]] at hsm
  clear k5 k6 own6 own7 hb6 hbw4
  go_wp2_with fail
  refine hsm.mono ?_
  rintro e w6 ⟨rfl, hb7⟩
  go_wp2
  go_ret
  exact ⟨rfl, bt hbw5 hb7⟩

set_option maxHeartbeats 2000000 in
theorem back_01 (s : Nat) (q a : Int) (A : Option Addr) (l L : List UInt8) (n c : Nat) (hn : Hid (n = l.length)) (A0 : Option Addr) (b : List UInt8) (m c0 : Nat) (hmn : Hid (m = b.length)) (hc0 : Hid (m ≤ c0)) (hcm0 : Hid (c0 ≤ 9223372036854775807)) (w : World) (hs : s < 4294967296) (hbs : Bs w w.heap.size A l) (hbm : Bs w w.heap.size A0 b) (hR : Hid (writeF s q a l = (L, 70))) (hb : decide (2000 < (n : Int)) = false) (hb2 : decide (2000 < (m : Int)) = false) (S Q Z : Nat) (D : List UInt8) (hrd2 : Hid (readF b = (S, Q, Z, D, 0))) (hS : S < 4294967296) (hR2 : Hid (writeF S Q Z D = (b, 0))) : Calls Try.prog 5 #[.agg #[.int .u32 s, .int .i64 q, .int .i64 a, .slice A n c], .slice A0 m c0] w fun e w' => e = .returned (.bool true) ∧ Below w.heap.size w w' := by
  have Hw0 := Lib.hid (fun w h => fwrite_wr s q a A l L 70 n c hn w hs h hR)
  have k1 := Blk.new w 25 #[.int .u32 s, .int .i64 q, .int .i64 a, .slice A n c]
  have hbw := ba w (.cells #[.int .u32 s, .int .i64 q, .int .i64 a, .slice A n c] 25)
  have x0 := (k1).cell 0
  have x1 := (k1).cell 1
  have x2 := (k1).cell 2
  have x3 := (k1).cell 3
  simp only [List.getElem?_toArray, List.getElem?_cons_zero, List.getElem?_cons_succ] at x0 x1 x2 x3
  go_enter Try.func5, Try.ntmps5
  go_wp2_with fail
  refine (Hw0.out _ (hbs.bt hbw)).mono ?_
  rintro e w1 ⟨A1, c1, J1, rfl, hJ1, own1, hb1⟩
  have hbw1 := bt hbw hb1
  have kf := k1.below hb1 k1.lt
  clear x0 x1 x2 x3
  clear k1 hbw hb1
  have HBM := Lib.hid hbm
  clear hbm
  have hbw3 := hbw1
  clear kf own1 hbw1
  have hz := fun u hu => fread_any A0 b m c0 hmn hc0 hcm0 u hu S Q Z D 0 hrd2
  have Hz := Lib.hid hz
  clear hz
  go_wp2_with fail
  refine (Hz.out _ (HBM.out.bt hbw3)).mono ?_
  rintro e w4 ⟨A5, c5, N5, rfl, hN5, own5, hb5⟩
  have k5 := Blk.new w4 25 #[.int .u32 S, .int .i64 Q, .int .i64 Z, .slice A5 N5 c5]
  have own6 := own5.alloc (.cells #[.int .u32 S, .int .i64 Q, .int .i64 Z, .slice A5 N5 c5] 25)
  have hbw4 := bt (bt hbw3 hb5) (ba w4 (.cells #[.int .u32 S, .int .i64 Q, .int .i64 Z, .slice A5 N5 c5] 25))
  have x0 := (k5).cell 0
  have x1 := (k5).cell 1
  have x2 := (k5).cell 2
  have x3 := (k5).cell 3
  simp only [List.getElem?_toArray, List.getElem?_cons_zero, List.getElem?_cons_succ] at x0 x1 x2 x3
  have hw2 := fwrite_wr S Q Z A5 D b 0 N5 c5 hN5 _ hS own6.bs hR2
  clear hb5 own5 k5
  go_wp2_with fail
  refine hw2.mono ?_
  clear hw2
  rintro e w5 ⟨A6, c6, J6, rfl, hJ6, own7, hb6⟩
  have hbw5 := bt hbw4 hb6
  clear x0 x1 x2 x3
  clear own6 hb6 hbw4
  go_wp2_with fail
  refine (alive_any _).mono ?_
  rintro e w6 ⟨rfl, hb7⟩
  have own8 := own7.below hb7 (Nat.le_refl _)
  have hbw6 := bt hbw5 hb7
  have cv1 := conv_n A6 b J6 c6 hJ6 _ _ own8.bs
  have cv2 := conv_n A0 b m c0 hmn _ _ (HBM.out.bt hbw6)
  clear own7 own8 hb7 hbw5
  go_wp2
  go_ret
  exact ⟨rfl, hbw6⟩

set_option maxHeartbeats 2000000 in
theorem back_00 (s : Nat) (q a : Int) (A : Option Addr) (l L : List UInt8) (n c : Nat) (hn : Hid (n = l.length)) (A0 : Option Addr) (b : List UInt8) (m c0 : Nat) (hmn : Hid (m = b.length)) (hc0 : Hid (m ≤ c0)) (hcm0 : Hid (c0 ≤ 9223372036854775807)) (w : World) (hs : s < 4294967296) (hbs : Bs w w.heap.size A l) (hbm : Bs w w.heap.size A0 b) (hR : Hid (writeF s q a l = (L, 70))) (hb : decide (2000 < (n : Int)) = false) (hb2 : decide (2000 < (m : Int)) = false) (E2 : Int) (hE2 : (E2 != 0) = true) (hrd2 : Hid (readF b = (0, 0, 0, [], E2))) : Calls Try.prog 5 #[.agg #[.int .u32 s, .int .i64 q, .int .i64 a, .slice A n c], .slice A0 m c0] w fun e w' => e = .returned (.bool true) ∧ Below w.heap.size w w' := by
  have Hw0 := Lib.hid (fun w h => fwrite_wr s q a A l L 70 n c hn w hs h hR)
  have k1 := Blk.new w 25 #[.int .u32 s, .int .i64 q, .int .i64 a, .slice A n c]
  have hbw := ba w (.cells #[.int .u32 s, .int .i64 q, .int .i64 a, .slice A n c] 25)
  have x0 := (k1).cell 0
  have x1 := (k1).cell 1
  have x2 := (k1).cell 2
  have x3 := (k1).cell 3
  simp only [List.getElem?_toArray, List.getElem?_cons_zero, List.getElem?_cons_succ] at x0 x1 x2 x3
  go_enter Try.func5, Try.ntmps5
  go_wp2_with fail
  refine (Hw0.out _ (hbs.bt hbw)).mono ?_
  rintro e w1 ⟨A1, c1, J1, rfl, hJ1, own1, hb1⟩
  have hbw1 := bt hbw hb1
  have kf := k1.below hb1 k1.lt
  clear x0 x1 x2 x3
  clear k1 hbw hb1
  have HBM := Lib.hid hbm
  clear hbm
  have hbw3 := hbw1
  clear kf own1 hbw1
  have hz := fun u hu => fread_zero A0 b m c0 hmn hc0 hcm0 u hu E2 hrd2
  have Hz := Lib.hid hz
  clear hz
  go_wp2_with fail
  refine (Hz.out _ (HBM.out.bt hbw3)).mono ?_
  rintro e w4 ⟨A5, c5, rfl, own5, hb5⟩
  have k5 := Blk.new w4 25 #[.int .u32 0, .int .i64 0, .int .i64 0, .slice A5 0 c5]
  have own6 := own5.alloc (.cells #[.int .u32 0, .int .i64 0, .int .i64 0, .slice A5 0 c5] 25)
  have hbw4 := bt (bt hbw3 hb5) (ba w4 (.cells #[.int .u32 0, .int .i64 0, .int .i64 0, .slice A5 0 c5] 25))
  have x0 := (k5).cell 0
  have x1 := (k5).cell 1
  have x2 := (k5).cell 2
  have x3 := (k5).cell 3
  simp only [List.getElem?_toArray, List.getElem?_cons_zero, List.getElem?_cons_succ] at x0 x1 x2 x3
  clear hb5 own5
  go_wp2_with fail
  refine (alive_any _).mono ?_
  rintro e w5 ⟨rfl, hb6⟩
  have k6 := k5.below hb6 (by simp)
  have own7 := own6.below hb6 (Nat.le_refl _)
  have hbw5 := bt hbw4 hb6
  clear x0 x1 x2 x3
  have x0 := (k6).cell 0
  have x1 := (k6).cell 1
  have x2 := (k6).cell 2
  have x3 := (k6).cell 3
  simp only [List.getElem?_toArray, List.getElem?_cons_zero, List.getElem?_cons_succ] at x0 x1 x2 x3
  have hsm := same_any 0 0 0 A5 [] 0 c5 (Lib.hid rfl) 0 0 0 none [] 0 0 (Lib.hid rfl) w5 own7.bs Bs.nil
  rw [show sameF 0 0 0 [] 0 0 0 [] = true by simp [sameF]] at hsm
  clear k5 k6 own6 own7 hb6 hbw4
  go_wp2_with fail
  refine hsm.mono ?_
  rintro e w6 ⟨rfl, hb7⟩
  go_wp2
  go_ret
  exact ⟨rfl, bt hbw5 hb7⟩

theorem readF_writes (b : List UInt8) (S Q Z : Nat) (D : List UInt8) (h : readF b = (S, Q, Z, D, 0)) : S < 4294967296 ∧ writeF S Q Z D = (b, 0) := by
  obtain ⟨h1, h2, h3⟩ := readF_ok b S Q Z D h
  refine ⟨h2, ?_⟩
  unfold writeF
  rw [if_pos h1, Int.toNat_natCast, Int.toNat_natCast, ← h3]
theorem frameBack_walk (o : FrmV) (A0 : Option Addr) (b : List UInt8) (c0 : Nat) (w : World) (ho : FrmOk w o) (hbm : Bs w w.heap.size A0 b) (h1 : b.length ≤ c0) (h2 : c0 ≤ 9223372036854775807) : Calls Try.prog 5 #[o.val, .slice A0 b.length c0] w fun e w' => e = .returned (.bool true) ∧ Below w.heap.size w w' := by
  obtain ⟨s, q, a, A, l, c⟩ := o
  obtain ⟨s1, _, _, _, _, bs, _, _⟩ := ho
  simp only at s1 bs
  unfold FrmV.val
  rcases hb : decide (2000 < (l.length : Int)) with _ | _
  · rcases hb2 : decide (2000 < (b.length : Int)) with _ | _
    · obtain ⟨⟨L, E⟩, hR⟩ : ∃ r, r = writeF s q a l := ⟨_, rfl⟩
      obtain ⟨S, Q, Z, D, E2, hrd2⟩ : ∃ S Q Z D E, readF b = (S, Q, Z, D, E) := ⟨_, _, _, _, _, rfl⟩
      rcases writeF_ok hR.symm with ⟨rfl, rfl⟩ | ⟨rfl, rfl, hm⟩
      · by_cases hE2 : E2 = 0
        · subst hE2
          obtain ⟨r1, r2⟩ := readF_writes b S Q Z D hrd2
          exact back_01 s q a A l _ _ c (Lib.hid rfl) A0 b _ c0 (Lib.hid rfl) (Lib.hid h1) (Lib.hid h2) w s1 bs hbm (Lib.hid hR.symm) hb hb2 S Q Z D (Lib.hid hrd2) r1 (Lib.hid r2)
        · obtain ⟨rfl, rfl, rfl, rfl⟩ := readF_err _ _ _ _ _ _ hrd2 hE2
          exact back_00 s q a A l _ _ c (Lib.hid rfl) A0 b _ c0 (Lib.hid rfl) (Lib.hid h1) (Lib.hid h2) w s1 bs hbm (Lib.hid hR.symm) hb hb2 E2 (bne_iff_ne.2 hE2) (Lib.hid hrd2)
      · obtain ⟨_, d2, d3, d4⟩ := (mayF_iff _ _ _ _).1 hm
        obtain ⟨q, rfl⟩ := Int.eq_ofNat_of_zero_le d2.1
        obtain ⟨a, rfl⟩ := Int.eq_ofNat_of_zero_le d3.1
        rw [Int.toNat_natCast, Int.toNat_natCast] at hR
        have hrd := readF_write s q a l s1 hm
        by_cases hE2 : E2 = 0
        · subst hE2
          obtain ⟨r1, r2⟩ := readF_writes b S Q Z D hrd2
          exact back_11 s q a A l _ _ c (Lib.hid rfl) A0 b _ c0 (Lib.hid rfl) (Lib.hid h1) (Lib.hid h2) w s1 bs hbm (Lib.hid hR.symm) hb hb2 (Lib.hid hrd) S Q Z D (Lib.hid hrd2) r1 (Lib.hid r2)
        · obtain ⟨rfl, rfl, rfl, rfl⟩ := readF_err _ _ _ _ _ _ hrd2 hE2
          exact back_10 s q a A l _ _ c (Lib.hid rfl) A0 b _ c0 (Lib.hid rfl) (Lib.hid h1) (Lib.hid h2) w s1 bs hbm (Lib.hid hR.symm) hb hb2 (Lib.hid hrd) E2 (bne_iff_ne.2 hE2) (Lib.hid hrd2)
    · exact back_big2 s q a A _ c A0 _ c0 w hb hb2
  · exact back_big1 s q a A _ c A0 _ c0 w hb
end Go.Proofs.Ythmhkicgghobmaa
