/- The law on messages there and back. -/
import Derived.Test.YtoajhljfenpohaaMs
import Derived.Test.YtoajhljfenpohaaOpenM
namespace Go.Proofs.Ytoajhljfenpohaa
open Go.RowKit
set_option linter.unusedVariables false
set_option linter.unusedSimpArgs false

theorem nameB_some (k : Int) (h : 1 ≤ k ∧ k ≤ 13) : ∃ x l, nameB k = ⟨(x :: l).toArray⟩ := by
  rcases kinds k with h | h | rfl | rfl | rfl | rfl | rfl | rfl | rfl | rfl | rfl | rfl | rfl | rfl | rfl
  · omega
  · omega
  all_goals exact ⟨_, _, rfl⟩

set_option maxHeartbeats 1000000 in
theorem back_err_no (k uu : Int) (a q : Nat) (mx : Bool) (mi yo : Nat) (A : Option Addr) (b : List UInt8) (c n : Nat) (w : World) (hm : MsgOk ⟨k, uu, a, q, mx, mi, yo⟩) (hn : Hid (n = b.length)) (hs : Bs w w.heap.size A b) (hbig : ¬ (3000 : Int) < (n : Int)) (e1 : writeM ⟨k, uu, a, q, mx, mi, yo⟩ = ([], 30)) (e0 : Int) (h0 : (e0 != 0) = true) (hrd : ∀ w : World, Bs w w.heap.size A b → Calls Try.prog 15 #[.slice A n c] w fun e w' => e = .returned (.tuple #[.agg #[.int .i64 0, .int .i64 0, .int .u32 0, .int .u32 0, .bool false, .int .u32 0, .int .u32 0], .int .i64 e0]) ∧ Below w.heap.size w w') : Calls Try.prog 5 #[.agg #[.int .i64 k, .int .i64 uu, .int .u32 a, .int .u32 q, .bool mx, .int .u32 mi, .int .u32 yo], .slice A n c] w fun e w' => e = .returned (.bool true) ∧ Below w.heap.size w w' := by
  have hw1 := fun w => writeM_any ⟨k, uu, a, q, mx, mi, yo⟩ w hm
  rw [e1] at hw1
  unfold OutB MsgV.val MsgV.cs at hw1
  simp only at hw1
  have Hw1 := Lib.hid hw1
  have Hrd := Lib.hid hrd
  have Hs := Lib.hid hs
  clear hrd hs hw1
  clear e1 hm
  have kb := Blk.new w 26 #[.int .i64 k, .int .i64 uu, .int .u32 a, .int .u32 q, .bool mx, .int .u32 mi, .int .u32 yo]
  have hbw := ba w (.cells #[.int .i64 k, .int .i64 uu, .int .u32 a, .int .u32 q, .bool mx, .int .u32 mi, .int .u32 yo] 26)
  go_enter Try.func5, Try.ntmps5
  go_wp2_with fail
  refine (Hw1.out _).mono ?_
  rintro e w1 ⟨A1, c1, rfl, own1, hb1⟩
  have kb1 := kb.below hb1 kb.lt
  have hbw1 := bt hbw hb1
  clear kb hb1 hbw
  clear kb1 own1
  go_wp2_with fail
  refine (Hrd.out _ (Hs.out.bt hbw1)).mono ?_
  rintro e w4 ⟨rfl, hb4⟩
  have kx := Blk.new w4 26 #[.int .i64 0, .int .i64 0, .int .u32 0, .int .u32 0, .bool false, .int .u32 0, .int .u32 0]
  have hbw4 := bt hbw1 (bt hb4 (ba w4 (.cells #[.int .i64 0, .int .i64 0, .int .u32 0, .int .u32 0, .bool false, .int .u32 0, .int .u32 0] 26)))
  clear hb4 hbw1
  go_wp2_with fail
  refine (alive_any _).mono ?_
  rintro e w5 ⟨rfl, hb5⟩
  have kx5 := kx.below hb5 kx.lt
  have hbw5 := bt hbw4 hb5
  have d0 := (kx5).cell 0
  have d1 := (kx5).cell 1
  have d2 := (kx5).cell 2
  have d3 := (kx5).cell 3
  have d4 := (kx5).cell 4
  have d5 := (kx5).cell 5
  have d6 := (kx5).cell 6
  simp only [List.getElem?_toArray, List.getElem?_cons_zero, List.getElem?_cons_succ] at d0 d1 d2 d3 d4 d5 d6
  clear kx kx5 hb5
  go_wp2
  go_ret
  exact ⟨by simp, hbw5⟩

set_option maxHeartbeats 1000000 in
theorem back_err_yes (k uu : Int) (a q : Nat) (mx : Bool) (mi yo : Nat) (A : Option Addr) (b : List UInt8) (c n : Nat) (w : World) (hm : MsgOk ⟨k, uu, a, q, mx, mi, yo⟩) (hn : Hid (n = b.length)) (hs : Bs w w.heap.size A b) (hbig : ¬ (3000 : Int) < (n : Int)) (e1 : writeM ⟨k, uu, a, q, mx, mi, yo⟩ = ([], 30)) (k' uu' : Int) (a' q' : Nat) (mx' : Bool) (mi' yo' : Nat) (hm2 : MsgOk ⟨k', uu', a', q', mx', mi', yo'⟩) (e2 : writeM ⟨k', uu', a', q', mx', mi', yo'⟩ = (b, 0)) (hrd : ∀ w : World, Bs w w.heap.size A b → Calls Try.prog 15 #[.slice A n c] w fun e w' => e = .returned (.tuple #[.agg #[.int .i64 k', .int .i64 uu', .int .u32 a', .int .u32 q', .bool mx', .int .u32 mi', .int .u32 yo'], .int .i64 0]) ∧ Below w.heap.size w w') : Calls Try.prog 5 #[.agg #[.int .i64 k, .int .i64 uu, .int .u32 a, .int .u32 q, .bool mx, .int .u32 mi, .int .u32 yo], .slice A n c] w fun e w' => e = .returned (.bool true) ∧ Below w.heap.size w w' := by
  have hw1 := fun w => writeM_any ⟨k, uu, a, q, mx, mi, yo⟩ w hm
  rw [e1] at hw1
  unfold OutB MsgV.val MsgV.cs at hw1
  simp only at hw1
  have Hw1 := Lib.hid hw1
  have Hrd := Lib.hid hrd
  have Hs := Lib.hid hs
  clear hrd hs hw1
  have hw2 := fun w => writeM_any ⟨k', uu', a', q', mx', mi', yo'⟩ w hm2
  rw [e2] at hw2
  unfold OutB MsgV.val MsgV.cs at hw2
  simp only at hw2
  rw [← hn.out] at hw2
  have Hw2 := Lib.hid hw2
  have hk2 := okM_kind _ (writeM_next _ b e2).1
  simp only at hk2
  obtain ⟨x0, l0, hnb⟩ := nameB_some k' ⟨hk2.1, hk2.2.1⟩
  have hnm := fun w => name_any k' w (by omega) (by omega)
  rw [hnb] at hnm
  have Hnm := Lib.hid hnm
  clear hnm hw2 hk2 hnb e2 hm2
  clear e1 hm
  have kb := Blk.new w 26 #[.int .i64 k, .int .i64 uu, .int .u32 a, .int .u32 q, .bool mx, .int .u32 mi, .int .u32 yo]
  have hbw := ba w (.cells #[.int .i64 k, .int .i64 uu, .int .u32 a, .int .u32 q, .bool mx, .int .u32 mi, .int .u32 yo] 26)
  go_enter Try.func5, Try.ntmps5
  go_wp2_with fail
  refine (Hw1.out _).mono ?_
  rintro e w1 ⟨A1, c1, rfl, own1, hb1⟩
  have kb1 := kb.below hb1 kb.lt
  have hbw1 := bt hbw hb1
  clear kb hb1 hbw
  clear kb1 own1
  go_wp2_with fail
  refine (Hrd.out _ (Hs.out.bt hbw1)).mono ?_
  rintro e w4 ⟨rfl, hb4⟩
  have kx := Blk.new w4 26 #[.int .i64 k', .int .i64 uu', .int .u32 a', .int .u32 q', .bool mx', .int .u32 mi', .int .u32 yo']
  have hbw4 := bt hbw1 (bt hb4 (ba w4 (.cells #[.int .i64 k', .int .i64 uu', .int .u32 a', .int .u32 q', .bool mx', .int .u32 mi', .int .u32 yo'] 26)))
  clear hb4 hbw1
  have d0 := (kx).cell 0
  have d1 := (kx).cell 1
  have d2 := (kx).cell 2
  have d3 := (kx).cell 3
  have d4 := (kx).cell 4
  have d5 := (kx).cell 5
  have d6 := (kx).cell 6
  simp only [List.getElem?_toArray, List.getElem?_cons_zero, List.getElem?_cons_succ] at d0 d1 d2 d3 d4 d5 d6
  go_wp2_with fail
  refine (Hw2.out _).mono ?_
  rintro e w5 ⟨A5, c5, rfl, own5, hb5⟩
  have kx5 := kx.below hb5 kx.lt
  have hbw5 := bt hbw4 hb5
  clear kx hb5 hbw4 d0 d1 d2 d3 d4 d5 d6
  go_wp2_with fail
  refine (alive_any _).mono ?_
  rintro e w6 ⟨rfl, hb6⟩
  have kx6 := kx5.below hb6 kx5.lt
  have hbw6 := bt hbw5 hb6
  have own6 := own5.below hb6 (Nat.le_refl _)
  have cv1 : (convert 27 9 (.slice A5 n c5)).run Try.prog w6 = .ok (.string ⟨b.toArray⟩) w6 := by rw [hn.out]; exact conv_bytes Try.underlying27 Try.underlying5 Try.underlying9 own6.bs _
  have cv2 : (convert 27 9 (.slice A n c)).run Try.prog w6 = .ok (.string ⟨b.toArray⟩) w6 := by rw [hn.out]; exact conv_bytes Try.underlying27 Try.underlying5 Try.underlying9 (Hs.out.bt hbw6) _
  have d0 := (kx6).cell 0
  have d1 := (kx6).cell 1
  have d2 := (kx6).cell 2
  have d3 := (kx6).cell 3
  have d4 := (kx6).cell 4
  have d5 := (kx6).cell 5
  have d6 := (kx6).cell 6
  simp only [List.getElem?_toArray, List.getElem?_cons_zero, List.getElem?_cons_succ] at d0 d1 d2 d3 d4 d5 d6
  clear kx5 kx6 hb6 own5 own6
  go_wp2_with fail
  refine (Hnm.out _).mono ?_
  rintro e w7 ⟨rfl, hb7⟩
  go_wp2
  go_ret
  exact ⟨by simp, bt hbw6 hb7⟩

set_option maxHeartbeats 1000000 in
theorem back_ok_no (k uu : Int) (a q : Nat) (mx : Bool) (mi yo : Nat) (A : Option Addr) (b : List UInt8) (c n : Nat) (w : World) (hm : MsgOk ⟨k, uu, a, q, mx, mi, yo⟩) (hn : Hid (n = b.length)) (hs : Bs w w.heap.size A b) (hbig : ¬ (3000 : Int) < (n : Int)) (L : List UInt8) (e1 : writeM ⟨k, uu, a, q, mx, mi, yo⟩ = (L, 0)) (e0 : Int) (h0 : (e0 != 0) = true) (hrd : ∀ w : World, Bs w w.heap.size A b → Calls Try.prog 15 #[.slice A n c] w fun e w' => e = .returned (.tuple #[.agg #[.int .i64 0, .int .i64 0, .int .u32 0, .int .u32 0, .bool false, .int .u32 0, .int .u32 0], .int .i64 e0]) ∧ Below w.heap.size w w') : Calls Try.prog 5 #[.agg #[.int .i64 k, .int .i64 uu, .int .u32 a, .int .u32 q, .bool mx, .int .u32 mi, .int .u32 yo], .slice A n c] w fun e w' => e = .returned (.bool true) ∧ Below w.heap.size w w' := by
  have hw1 := fun w => writeM_any ⟨k, uu, a, q, mx, mi, yo⟩ w hm
  rw [e1] at hw1
  unfold OutB MsgV.val MsgV.cs at hw1
  simp only at hw1
  have Hw1 := Lib.hid hw1
  have Hrd := Lib.hid hrd
  have Hs := Lib.hid hs
  clear hrd hs hw1
  have hok := (writeM_next _ L e1).1
  have hR := fun w => rightM_any ⟨k, uu, a, q, mx, mi, yo⟩ w
  rw [hok] at hR
  unfold MsgV.val MsgV.cs at hR
  have HR := Lib.hid hR
  clear hR hok
  have hB := fun A c n w => read_back ⟨k, uu, a, q, mx, mi, yo⟩ L e1 hm A c n w
  unfold MsgV.val MsgV.cs at hB
  simp only at hB
  have HB := Lib.hid hB
  clear hB
  obtain ⟨wl, hwl⟩ : ∃ wl, wl = L.length := ⟨_, rfl⟩
  have Hwl := Lib.hid hwl
  rw [← hwl] at Hw1
  clear hwl
  clear e1 hm
  have kb := Blk.new w 26 #[.int .i64 k, .int .i64 uu, .int .u32 a, .int .u32 q, .bool mx, .int .u32 mi, .int .u32 yo]
  have hbw := ba w (.cells #[.int .i64 k, .int .i64 uu, .int .u32 a, .int .u32 q, .bool mx, .int .u32 mi, .int .u32 yo] 26)
  go_enter Try.func5, Try.ntmps5
  go_wp2_with fail
  refine (Hw1.out _).mono ?_
  rintro e w1 ⟨A1, c1, rfl, own1, hb1⟩
  have kb1 := kb.below hb1 kb.lt
  have hbw1 := bt hbw hb1
  clear kb hb1 hbw
  have hc1 : wl ≤ c1 ∧ c1 ≤ 9223372036854775807 := by rw [Hwl.out]; exact own_cap own1
  go_wp2_with fail
  refine (HB.out A1 c1 wl w1 Hwl hc1.1 hc1.2 own1.bs).mono ?_
  rintro e w2 ⟨rfl, hb2⟩
  have kz := Blk.new w2 26 #[.int .i64 k, .int .i64 uu, .int .u32 a, .int .u32 q, .bool mx, .int .u32 mi, .int .u32 yo]
  have kb2 := (kb1.below hb2 kb1.lt).alloc (.cells #[.int .i64 k, .int .i64 uu, .int .u32 a, .int .u32 q, .bool mx, .int .u32 mi, .int .u32 yo] 26)
  have hbw2 := bt hbw1 (bt hb2 (ba w2 (.cells #[.int .i64 k, .int .i64 uu, .int .u32 a, .int .u32 q, .bool mx, .int .u32 mi, .int .u32 yo] 26)))
  clear kb1 hb2 hbw1 own1
  have d0 := (kz).cell 0
  have d1 := (kz).cell 1
  have d2 := (kz).cell 2
  have d3 := (kz).cell 3
  have d4 := (kz).cell 4
  have d5 := (kz).cell 5
  have d6 := (kz).cell 6
  simp only [List.getElem?_toArray, List.getElem?_cons_zero, List.getElem?_cons_succ] at d0 d1 d2 d3 d4 d5 d6
  have c0 := (kb2).cell 0
  have c1 := (kb2).cell 1
  have c2 := (kb2).cell 2
  have c3 := (kb2).cell 3
  have c4 := (kb2).cell 4
  have c5 := (kb2).cell 5
  have c6 := (kb2).cell 6
  simp only [List.getElem?_toArray, List.getElem?_cons_zero, List.getElem?_cons_succ] at c0 c1 c2 c3 c4 c5 c6
  go_wp2_with fail
  refine (HR.out _).mono ?_
  rintro e w3 ⟨rfl, hb3⟩
  have hbw3 := bt hbw2 hb3
  clear kz kb2 hb3 hbw2 c0 d0 c1 d1 c2 d2 c3 d3 c4 d4 c5 d5 c6 d6
  go_wp2_with fail
  refine (Hrd.out _ (Hs.out.bt hbw3)).mono ?_
  rintro e w4 ⟨rfl, hb4⟩
  have kx := Blk.new w4 26 #[.int .i64 0, .int .i64 0, .int .u32 0, .int .u32 0, .bool false, .int .u32 0, .int .u32 0]
  have hbw4 := bt hbw3 (bt hb4 (ba w4 (.cells #[.int .i64 0, .int .i64 0, .int .u32 0, .int .u32 0, .bool false, .int .u32 0, .int .u32 0] 26)))
  clear hb4 hbw3
  go_wp2_with fail
  refine (alive_any _).mono ?_
  rintro e w5 ⟨rfl, hb5⟩
  have kx5 := kx.below hb5 kx.lt
  have hbw5 := bt hbw4 hb5
  have d0 := (kx5).cell 0
  have d1 := (kx5).cell 1
  have d2 := (kx5).cell 2
  have d3 := (kx5).cell 3
  have d4 := (kx5).cell 4
  have d5 := (kx5).cell 5
  have d6 := (kx5).cell 6
  simp only [List.getElem?_toArray, List.getElem?_cons_zero, List.getElem?_cons_succ] at d0 d1 d2 d3 d4 d5 d6
  clear kx kx5 hb5
  go_wp2
  go_ret
  exact ⟨by simp, hbw5⟩

set_option maxHeartbeats 1000000 in
theorem back_ok_yes (k uu : Int) (a q : Nat) (mx : Bool) (mi yo : Nat) (A : Option Addr) (b : List UInt8) (c n : Nat) (w : World) (hm : MsgOk ⟨k, uu, a, q, mx, mi, yo⟩) (hn : Hid (n = b.length)) (hs : Bs w w.heap.size A b) (hbig : ¬ (3000 : Int) < (n : Int)) (L : List UInt8) (e1 : writeM ⟨k, uu, a, q, mx, mi, yo⟩ = (L, 0)) (k' uu' : Int) (a' q' : Nat) (mx' : Bool) (mi' yo' : Nat) (hm2 : MsgOk ⟨k', uu', a', q', mx', mi', yo'⟩) (e2 : writeM ⟨k', uu', a', q', mx', mi', yo'⟩ = (b, 0)) (hrd : ∀ w : World, Bs w w.heap.size A b → Calls Try.prog 15 #[.slice A n c] w fun e w' => e = .returned (.tuple #[.agg #[.int .i64 k', .int .i64 uu', .int .u32 a', .int .u32 q', .bool mx', .int .u32 mi', .int .u32 yo'], .int .i64 0]) ∧ Below w.heap.size w w') : Calls Try.prog 5 #[.agg #[.int .i64 k, .int .i64 uu, .int .u32 a, .int .u32 q, .bool mx, .int .u32 mi, .int .u32 yo], .slice A n c] w fun e w' => e = .returned (.bool true) ∧ Below w.heap.size w w' := by
  have hw1 := fun w => writeM_any ⟨k, uu, a, q, mx, mi, yo⟩ w hm
  rw [e1] at hw1
  unfold OutB MsgV.val MsgV.cs at hw1
  simp only at hw1
  have Hw1 := Lib.hid hw1
  have Hrd := Lib.hid hrd
  have Hs := Lib.hid hs
  clear hrd hs hw1
  have hok := (writeM_next _ L e1).1
  have hR := fun w => rightM_any ⟨k, uu, a, q, mx, mi, yo⟩ w
  rw [hok] at hR
  unfold MsgV.val MsgV.cs at hR
  have HR := Lib.hid hR
  clear hR hok
  have hB := fun A c n w => read_back ⟨k, uu, a, q, mx, mi, yo⟩ L e1 hm A c n w
  unfold MsgV.val MsgV.cs at hB
  simp only at hB
  have HB := Lib.hid hB
  clear hB
  obtain ⟨wl, hwl⟩ : ∃ wl, wl = L.length := ⟨_, rfl⟩
  have Hwl := Lib.hid hwl
  rw [← hwl] at Hw1
  clear hwl
  have hw2 := fun w => writeM_any ⟨k', uu', a', q', mx', mi', yo'⟩ w hm2
  rw [e2] at hw2
  unfold OutB MsgV.val MsgV.cs at hw2
  simp only at hw2
  rw [← hn.out] at hw2
  have Hw2 := Lib.hid hw2
  have hk2 := okM_kind _ (writeM_next _ b e2).1
  simp only at hk2
  obtain ⟨x0, l0, hnb⟩ := nameB_some k' ⟨hk2.1, hk2.2.1⟩
  have hnm := fun w => name_any k' w (by omega) (by omega)
  rw [hnb] at hnm
  have Hnm := Lib.hid hnm
  clear hnm hw2 hk2 hnb e2 hm2
  clear e1 hm
  have kb := Blk.new w 26 #[.int .i64 k, .int .i64 uu, .int .u32 a, .int .u32 q, .bool mx, .int .u32 mi, .int .u32 yo]
  have hbw := ba w (.cells #[.int .i64 k, .int .i64 uu, .int .u32 a, .int .u32 q, .bool mx, .int .u32 mi, .int .u32 yo] 26)
  go_enter Try.func5, Try.ntmps5
  go_wp2_with fail
  refine (Hw1.out _).mono ?_
  rintro e w1 ⟨A1, c1, rfl, own1, hb1⟩
  have kb1 := kb.below hb1 kb.lt
  have hbw1 := bt hbw hb1
  clear kb hb1 hbw
  have hc1 : wl ≤ c1 ∧ c1 ≤ 9223372036854775807 := by rw [Hwl.out]; exact own_cap own1
  go_wp2_with fail
  refine (HB.out A1 c1 wl w1 Hwl hc1.1 hc1.2 own1.bs).mono ?_
  rintro e w2 ⟨rfl, hb2⟩
  have kz := Blk.new w2 26 #[.int .i64 k, .int .i64 uu, .int .u32 a, .int .u32 q, .bool mx, .int .u32 mi, .int .u32 yo]
  have kb2 := (kb1.below hb2 kb1.lt).alloc (.cells #[.int .i64 k, .int .i64 uu, .int .u32 a, .int .u32 q, .bool mx, .int .u32 mi, .int .u32 yo] 26)
  have hbw2 := bt hbw1 (bt hb2 (ba w2 (.cells #[.int .i64 k, .int .i64 uu, .int .u32 a, .int .u32 q, .bool mx, .int .u32 mi, .int .u32 yo] 26)))
  clear kb1 hb2 hbw1 own1
  have d0 := (kz).cell 0
  have d1 := (kz).cell 1
  have d2 := (kz).cell 2
  have d3 := (kz).cell 3
  have d4 := (kz).cell 4
  have d5 := (kz).cell 5
  have d6 := (kz).cell 6
  simp only [List.getElem?_toArray, List.getElem?_cons_zero, List.getElem?_cons_succ] at d0 d1 d2 d3 d4 d5 d6
  have c0 := (kb2).cell 0
  have c1 := (kb2).cell 1
  have c2 := (kb2).cell 2
  have c3 := (kb2).cell 3
  have c4 := (kb2).cell 4
  have c5 := (kb2).cell 5
  have c6 := (kb2).cell 6
  simp only [List.getElem?_toArray, List.getElem?_cons_zero, List.getElem?_cons_succ] at c0 c1 c2 c3 c4 c5 c6
  go_wp2_with fail
  refine (HR.out _).mono ?_
  rintro e w3 ⟨rfl, hb3⟩
  have hbw3 := bt hbw2 hb3
  clear kz kb2 hb3 hbw2 c0 d0 c1 d1 c2 d2 c3 d3 c4 d4 c5 d5 c6 d6
  go_wp2_with fail
  refine (Hrd.out _ (Hs.out.bt hbw3)).mono ?_
  rintro e w4 ⟨rfl, hb4⟩
  have kx := Blk.new w4 26 #[.int .i64 k', .int .i64 uu', .int .u32 a', .int .u32 q', .bool mx', .int .u32 mi', .int .u32 yo']
  have hbw4 := bt hbw3 (bt hb4 (ba w4 (.cells #[.int .i64 k', .int .i64 uu', .int .u32 a', .int .u32 q', .bool mx', .int .u32 mi', .int .u32 yo'] 26)))
  clear hb4 hbw3
  have d0 := (kx).cell 0
  have d1 := (kx).cell 1
  have d2 := (kx).cell 2
  have d3 := (kx).cell 3
  have d4 := (kx).cell 4
  have d5 := (kx).cell 5
  have d6 := (kx).cell 6
  simp only [List.getElem?_toArray, List.getElem?_cons_zero, List.getElem?_cons_succ] at d0 d1 d2 d3 d4 d5 d6
  go_wp2_with fail
  refine (Hw2.out _).mono ?_
  rintro e w5 ⟨A5, c5, rfl, own5, hb5⟩
  have kx5 := kx.below hb5 kx.lt
  have hbw5 := bt hbw4 hb5
  clear kx hb5 hbw4 d0 d1 d2 d3 d4 d5 d6
  go_wp2_with fail
  refine (alive_any _).mono ?_
  rintro e w6 ⟨rfl, hb6⟩
  have kx6 := kx5.below hb6 kx5.lt
  have hbw6 := bt hbw5 hb6
  have own6 := own5.below hb6 (Nat.le_refl _)
  have cv1 : (convert 27 9 (.slice A5 n c5)).run Try.prog w6 = .ok (.string ⟨b.toArray⟩) w6 := by rw [hn.out]; exact conv_bytes Try.underlying27 Try.underlying5 Try.underlying9 own6.bs _
  have cv2 : (convert 27 9 (.slice A n c)).run Try.prog w6 = .ok (.string ⟨b.toArray⟩) w6 := by rw [hn.out]; exact conv_bytes Try.underlying27 Try.underlying5 Try.underlying9 (Hs.out.bt hbw6) _
  have d0 := (kx6).cell 0
  have d1 := (kx6).cell 1
  have d2 := (kx6).cell 2
  have d3 := (kx6).cell 3
  have d4 := (kx6).cell 4
  have d5 := (kx6).cell 5
  have d6 := (kx6).cell 6
  simp only [List.getElem?_toArray, List.getElem?_cons_zero, List.getElem?_cons_succ] at d0 d1 d2 d3 d4 d5 d6
  clear kx5 kx6 hb6 own5 own6
  go_wp2_with fail
  refine (Hnm.out _).mono ?_
  rintro e w7 ⟨rfl, hb7⟩
  go_wp2
  go_ret
  exact ⟨by simp, bt hbw6 hb7⟩

theorem pshBack_walk (m : MsgV) (A : Option Addr) (b : List UInt8) (c : Nat) (w : World) (hm : MsgOk m) (hs : Bs w w.heap.size A b) (h1 : b.length ≤ c) (h2 : c ≤ 9223372036854775807) : Calls Try.prog 5 #[m.val, .slice A b.length c] w fun e w' => e = .returned (.bool true) ∧ Below w.heap.size w w' := by
  obtain ⟨n, hn⟩ : ∃ n, n = b.length := ⟨_, rfl⟩
  rw [← hn] at h1 ⊢
  obtain ⟨m', e0, hrd, hc⟩ := read_all A b c n (Lib.hid hn) h1 h2
  obtain ⟨k, uu, a, q, mx, mi, yo⟩ := m
  unfold MsgV.val MsgV.cs at *
  by_cases hbig : 3000 < n
  · have hbigI : (3000 : Int) < (n : Int) := by omega
    have hbw := ba w (.cells #[.int .i64 k, .int .i64 uu, .int .u32 a, .int .u32 q, .bool mx, .int .u32 mi, .int .u32 yo] 26)
    clear hrd hc hm
    go_enter Try.func5, Try.ntmps5
    go_wp2_with fail
    refine (alive_any _).mono ?_
    rintro e wz ⟨rfl, hbz⟩
    go_wp2
    go_ret
    exact ⟨rfl, bt hbw hbz⟩
  · have hbigI : ¬ (3000 : Int) < (n : Int) := by omega
    have hw0 : (∃ L, writeM ⟨k, uu, a, q, mx, mi, yo⟩ = (L, 0)) ∨ writeM ⟨k, uu, a, q, mx, mi, yo⟩ = ([], 30) := by
      unfold writeM
      rcases okM ⟨k, uu, a, q, mx, mi, yo⟩ with _ | _
      · exact .inr rfl
      · exact .inl ⟨_, rfl⟩
    rcases hc with ⟨rfl, e2, hm2⟩ | ⟨h0, rfl⟩
    · obtain ⟨k', uu', a', q', mx', mi', yo'⟩ := m'
      rcases hw0 with ⟨L, e1⟩ | e1
      · exact back_ok_yes k uu a q mx mi yo A b c n w hm (Lib.hid hn) hs hbigI L e1 k' uu' a' q' mx' mi' yo' hm2 e2 hrd
      · exact back_err_yes k uu a q mx mi yo A b c n w hm (Lib.hid hn) hs hbigI e1 k' uu' a' q' mx' mi' yo' hm2 e2 hrd
    · rcases hw0 with ⟨L, e1⟩ | e1
      · exact back_ok_no k uu a q mx mi yo A b c n w hm (Lib.hid hn) hs hbigI L e1 e0 h0 hrd
      · exact back_err_no k uu a q mx mi yo A b c n w hm (Lib.hid hn) hs hbigI e1 e0 h0 hrd
end Go.Proofs.Ytoajhljfenpohaa
