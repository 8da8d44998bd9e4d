/- A message's bytes: the document's Write. -/
import Derived.Test.YteniponkakaaaaaMi
import Derived.Test.YteniponkakaaaaaRw
namespace Go.Proofs.Yteniponkakaaaaa
open Go.RowKit
set_option linter.unusedVariables false
set_option linter.unusedSimpArgs false

theorem refput_f (q : Nat) (w : World) (h : q < 4294967296) : Calls Try.prog 21 #[.int .u64 q, .int .i64 4] w (PutOut w (putL q 4) 4) := refput_four q w h
theorem refwriteM_no (m : MsgV) (w : World) (hok : okM m = false) : Calls Try.prog 9 #[m.val] w (OutB w ([], 30)) := by
  have hr := fun w => refrightM_any m w
  rw [hok] at hr
  clear hok
  obtain ⟨k, uu, a, q, mx, mi, yo⟩ := m
  unfold MsgV.val MsgV.cs at hr ⊢
  go_enter Try.func9, Try.ntmps9
  go_wp2_with fail
  refine (hr _).mono ?_
  rintro e w1 ⟨rfl, hb1⟩
  go_wp2
  go_ret2
  exact ⟨none, 0, rfl, Own.nil, bt (ba _ _) hb1⟩
set_option maxHeartbeats 1000000 in
theorem refwriteM_13 (k uu : Int) (a q : Nat) (mx : Bool) (mi yo : Nat) (w : World) (n : Nat) (hn : k = n) (hn13 : n ≤ 13) (hr : ∀ w, Calls Try.prog 12 #[.agg #[.int .i64 k, .int .i64 uu, .int .u32 a, .int .u32 q, .bool mx, .int .u32 mi, .int .u32 yo]] w fun e w' => e = .returned (.bool true) ∧ Below w.heap.size w w') (h13 : k = 13) (D : List UInt8) (hD : D = []) : Calls Try.prog 9 #[.agg #[.int .i64 k, .int .i64 uu, .int .u32 a, .int .u32 q, .bool mx, .int .u32 mi, .int .u32 yo]] w (OutB w (segOf (putL (4864 + n) 2) D true, 0)) := by
  have hdl : D.length ≤ 2048 := by rw [hD]; simp
  have hw := fun A c (w : World) h1 h2 h3 => refwrite_ok (4864 + n) A D c 2048 w (by omega) (by omega) (by omega) (by omega) (by omega) h1 h2 h3 (segOf (putL (4864 + n) 2) D true) (Lib.hid (segs_one _ _ (by omega)).symm)
  have hcast : ((4864 + n : Nat) : Int) = (4864 : Int) + k := by omega
  rw [hcast] at hw
  generalize segOf (putL (4864 + n) 2) D true = R at *
  unfold OutB at hw
  have Hw := Lib.hid hw
  clear hw hcast
  have ew : IntKind.i64.wrap ((4864 : Int) + k) = (4864 : Int) + k := IntWalk.i64_in _ (by omega)
  subst hD
  have b1 : ¬ k < 12 := by omega
  have b2 : (k == 12) = false := beq_eq_false_iff_ne.2 (by omega)
  clear h13 hn
  have kb0 := Blk.new w 26 #[.int .i64 k, .int .i64 uu, .int .u32 a, .int .u32 q, .bool mx, .int .u32 mi, .int .u32 yo]
  have hbw0 := ba w (.cells #[.int .i64 k, .int .i64 uu, .int .u32 a, .int .u32 q, .bool mx, .int .u32 mi, .int .u32 yo] 26)
  obtain ⟨i0, hi, hz0, hz1, hz2⟩ := info_parts Try.infoU8
  go_enter Try.func9, Try.ntmps9
  go_wp2_with fail
  refine (hr _).mono ?_
  rintro e w1 ⟨rfl, hb1⟩
  have kb := kb0.below hb1 kb0.lt
  have hbw := bt hbw0 hb1
  clear kb0 hbw0 hb1
  have c0 := (kb).cell 0
  have c1 := (kb).cell 1
  have c2 := (kb).cell 2
  have c3 := (kb).cell 3
  have c4 := (kb).cell 4
  have c5 := (kb).cell 5
  have c6 := (kb).cell 6
  simp only [List.getElem?_toArray, List.getElem?_cons_zero, List.getElem?_cons_succ] at c0 c1 c2 c3 c4 c5 c6
  go_wp2_with fail
  refine (Hw.out none 0 _ (by simp) (by omega) Bs.nil).mono ?_
  rintro e wz ⟨Az, cz, rfl, ownz, hbz⟩
  go_wp2
  go_ret2
  exact ⟨Az, cz, rfl, ownz.base_le hbw.size, bt hbw hbz⟩
set_option maxHeartbeats 1000000 in
theorem refwriteM_12 (k uu : Int) (a q : Nat) (mx : Bool) (mi yo : Nat) (w : World) (n : Nat) (hn : k = n) (hn13 : n ≤ 13) (hr : ∀ w, Calls Try.prog 12 #[.agg #[.int .i64 k, .int .i64 uu, .int .u32 a, .int .u32 q, .bool mx, .int .u32 mi, .int .u32 yo]] w fun e w' => e = .returned (.bool true) ∧ Below w.heap.size w w') (h12 : k = 12) (hmi : mi < 4294967296) (hyo : yo < 4294967296) (D : List UInt8) (hD : D = putL mi 4 ++ putL yo 4) : Calls Try.prog 9 #[.agg #[.int .i64 k, .int .i64 uu, .int .u32 a, .int .u32 q, .bool mx, .int .u32 mi, .int .u32 yo]] w (OutB w (segOf (putL (4864 + n) 2) D true, 0)) := by
  have hdl8 : D.length = 8 := by rw [hD]; simp [putL_length]
  have hdl : D.length ≤ 2048 := by omega
  have hw := fun A c (w : World) h1 h2 h3 => refwrite_ok (4864 + n) A D c 2048 w (by omega) (by omega) (by omega) (by omega) (by omega) h1 h2 h3 (segOf (putL (4864 + n) 2) D true) (Lib.hid (segs_one _ _ (by omega)).symm)
  have hcast : ((4864 + n : Nat) : Int) = (4864 : Int) + k := by omega
  rw [hcast] at hw
  generalize segOf (putL (4864 + n) 2) D true = R at *
  unfold OutB at hw
  have Hw := Lib.hid hw
  clear hw hcast
  have ew : IntKind.i64.wrap ((4864 : Int) + k) = (4864 : Int) + k := IntWalk.i64_in _ (by omega)
  have hpa := fun w => refput_f mi w hmi
  have hpb := fun w => refput_f yo w hyo
  have b1 : ¬ k < 12 := by omega
  have b2 : (k == 12) = true := beq_iff_eq.2 h12
  have HD := Lib.hid hD
  have H8 := Lib.hid hdl8
  have ewa : IntKind.u64.wrap (mi : Int) = (mi : Int) := IntWalk.u64_in _ (by omega)
  have ewb : IntKind.u64.wrap (yo : Int) = (yo : Int) := IntWalk.u64_in _ (by omega)
  clear h12 hn hD hdl8
  have kb0 := Blk.new w 26 #[.int .i64 k, .int .i64 uu, .int .u32 a, .int .u32 q, .bool mx, .int .u32 mi, .int .u32 yo]
  have hbw0 := ba w (.cells #[.int .i64 k, .int .i64 uu, .int .u32 a, .int .u32 q, .bool mx, .int .u32 mi, .int .u32 yo] 26)
  obtain ⟨i0, hi, hz0, hz1, hz2⟩ := info_parts Try.infoU8
  go_enter Try.func9, Try.ntmps9
  go_wp2_with fail
  refine (hr _).mono ?_
  rintro e w1 ⟨rfl, hb1⟩
  have kb := kb0.below hb1 kb0.lt
  have hbw := bt hbw0 hb1
  clear kb0 hbw0 hb1
  have c0 := (kb).cell 0
  have c1 := (kb).cell 1
  have c2 := (kb).cell 2
  have c3 := (kb).cell 3
  have c4 := (kb).cell 4
  have c5 := (kb).cell 5
  have c6 := (kb).cell 6
  simp only [List.getElem?_toArray, List.getElem?_cons_zero, List.getElem?_cons_succ] at c0 c1 c2 c3 c4 c5 c6
  go_wp2_with fail
  refine (hpa _).mono ?_
  rintro e w2 ⟨A2, cA2, rfl, own2, hb2⟩
  have kb3 := kb.below hb2 kb.lt
  have hbw3 := bt hbw hb2
  clear c0 c1 c2 c3 c4 c5 c6
  have c0 := (kb3).cell 0
  have c1 := (kb3).cell 1
  have c2 := (kb3).cell 2
  have c3 := (kb3).cell 3
  have c4 := (kb3).cell 4
  have c5 := (kb3).cell 5
  have c6 := (kb3).cell 6
  simp only [List.getElem?_toArray, List.getElem?_cons_zero, List.getElem?_cons_succ] at c0 c1 c2 c3 c4 c5 c6
  go_wp2_with fail
  refine (hpb _).mono ?_
  rintro e w4 ⟨A4, cA4, rfl, own4, hb4⟩
  have kb5 := kb3.below hb4 kb3.lt
  have own2' := own2.below hb4 (Nat.le_refl _)
  have hbw4 := bt hbw3 hb4
  clear c0 c1 c2 c3 c4 c5 c6
  have HL : Hid (4 = (putL mi 4).length) := Lib.hid (by simp [putL_length])
  have HM : Hid (4 = (putL yo 4).length) := Lib.hid (by simp [putL_length])
  have hs4 : w1.heap.size ≤ w4.heap.size := Nat.le_trans hb2.size hb4.size
  have hlt0 := kb.lt
  go_wp2_with (at_builtin; refine wpList_append_bs _ rfl _ _ 27 rfl w1.heap.size 5 i0 _ Try.underlying27 hi hz0 hz1 hz2 rfl A2 cA2 (putL mi 4) 4 rfl HL.out own2' _ A4 cA4 (putL yo 4) 4 rfl HM.out own4.bs (by simp [putL_length]) hs4 ?_; intro A5 cA5 w5 own5 hg5 _; have kb6 := kb5.kept hg5 (fun e => by have := (own2'.lt _ e.symm).1; omega); have c0 := kb6.cell 0; have c1 := kb6.cell 1; have c2 := kb6.cell 2; have c3 := kb6.cell 3; have c4 := kb6.cell 4; have c5 := kb6.cell 5; have c6 := kb6.cell 6; simp only [List.getElem?_toArray, List.getElem?_cons_zero, List.getElem?_cons_succ] at c0 c1 c2 c3 c4 c5 c6)
  have hbw5 := hbw4.grown hg5 hbw4.size (fun k e => by have := (own2'.lt _ e).1; omega)
  rw [← HD.out] at own5
  obtain ⟨hc1, hc2⟩ := own_cap own5
  have hq := Hw.out A5 cA5 w5 hc1 hc2 own5.bs
  rw [H8.out] at hq
  refine hq.mono ?_
  rintro e wz ⟨Az, cz, rfl, ownz, hbz⟩
  go_wp2
  go_ret2
  exact ⟨Az, cz, rfl, ownz.base_le hbw5.size, bt hbw5 hbz⟩
set_option maxHeartbeats 1000000 in
theorem refwriteM_luw (k uu : Int) (a q : Nat) (mx : Bool) (mi yo : Nat) (w : World) (n : Nat) (hn : k = n) (hn13 : n ≤ 13) (hr : ∀ w, Calls Try.prog 12 #[.agg #[.int .i64 k, .int .i64 uu, .int .u32 a, .int .u32 q, .bool mx, .int .u32 mi, .int .u32 yo]] w fun e w' => e = .returned (.bool true) ∧ Below w.heap.size w w') (h1 : 1 ≤ k) (h2 : k ≤ 11) (hok : okL uu q = true) (ha : a < 4294967296) (hq : q < 4294967296) (D : List UInt8) (hD : D = UInt8.ofNat uu.toNat :: (putL a 4 ++ putL q 4) ++ [if mx then 1 else 0]) : Calls Try.prog 9 #[.agg #[.int .i64 k, .int .i64 uu, .int .u32 a, .int .u32 q, .bool mx, .int .u32 mi, .int .u32 yo]] w (OutB w (segOf (putL (4864 + n) 2) D true, 0)) := by
  have hdl10 : D.length = 10 := by rw [hD]; simp [putL_length]
  have hdl : D.length ≤ 2048 := by omega
  have hw := fun A c (w : World) h1 h2 h3 => refwrite_ok (4864 + n) A D c 2048 w (by omega) (by omega) (by omega) (by omega) (by omega) h1 h2 h3 (segOf (putL (4864 + n) 2) D true) (Lib.hid (segs_one _ _ (by omega)).symm)
  have hcast : ((4864 + n : Nat) : Int) = (4864 : Int) + k := by omega
  rw [hcast] at hw
  generalize segOf (putL (4864 + n) 2) D true = R at *
  unfold OutB at hw
  have Hw := Lib.hid hw
  clear hw hcast
  have ew : IntKind.i64.wrap ((4864 : Int) + k) = (4864 : Int) + k := IntWalk.i64_in _ (by omega)
  have hwr := fun w => refwrite_any uu a q w ha hq
  rw [show wrL uu a q = (UInt8.ofNat uu.toNat :: (putL a 4 ++ putL q 4), 0) by unfold wrL; rw [if_pos hok]] at hwr
  unfold OutB lv at hwr
  have hlen := wrL_len uu.toNat a q
  simp only [hlen] at hwr
  generalize hL : UInt8.ofNat uu.toNat :: (putL a 4 ++ putL q 4) = L at *
  have HLn : Hid (9 = L.length) := Lib.hid hlen.symm
  have b1 : k < 12 := by omega
  have b2 : (k == 12) = false := beq_eq_false_iff_ne.2 (by omega)
  have H10 := Lib.hid hdl10
  clear hlen hL hok hn hdl10
  rcases hmx : mx with _ | _
  · subst hmx
    have HD : Hid (D = L ++ [0]) := Lib.hid hD
    clear hD
    have kb0 := Blk.new w 26 #[.int .i64 k, .int .i64 uu, .int .u32 a, .int .u32 q, .bool false, .int .u32 mi, .int .u32 yo]
    have hbw0 := ba w (.cells #[.int .i64 k, .int .i64 uu, .int .u32 a, .int .u32 q, .bool false, .int .u32 mi, .int .u32 yo] 26)
    obtain ⟨i0, hi, hz0, hz1, hz2⟩ := info_parts Try.infoU8
    go_enter Try.func9, Try.ntmps9
    go_wp2_with fail
    refine (hr _).mono ?_
    rintro e w1 ⟨rfl, hb1⟩
    have kb := kb0.below hb1 kb0.lt
    have hbw := bt hbw0 hb1
    clear kb0 hbw0 hb1
    have c0 := (kb).cell 0
    have c1 := (kb).cell 1
    have c2 := (kb).cell 2
    have c3 := (kb).cell 3
    have c4 := (kb).cell 4
    have c5 := (kb).cell 5
    have c6 := (kb).cell 6
    simp only [List.getElem?_toArray, List.getElem?_cons_zero, List.getElem?_cons_succ] at c0 c1 c2 c3 c4 c5 c6
    go_wp2_with fail
    refine (hwr _).mono ?_
    rintro e w2 ⟨A2, cA2, rfl, own2, hb2⟩
    have kb3 := kb.below hb2 kb.lt
    have hbw3 := bt hbw hb2
    have hlt0 := kb.lt
    clear c0 c1 c2 c3 c4 c5 c6
    have c0 := (kb3).cell 0
    have c1 := (kb3).cell 1
    have c2 := (kb3).cell 2
    have c3 := (kb3).cell 3
    have c4 := (kb3).cell 4
    have c5 := (kb3).cell 5
    have c6 := (kb3).cell 6
    simp only [List.getElem?_toArray, List.getElem?_cons_zero, List.getElem?_cons_succ] at c0 c1 c2 c3 c4 c5 c6
    have own3 := own2.alloc (.cells #[.int .u8 0] 5)
    have kb4 := kb3.alloc (.cells #[.int .u8 0] 5)
    have hbw4 := bt hbw3 (ba w2 (.cells #[.int .u8 0] 5))
    have bsx := (raw_new w2 0 0 rfl).bs (by omega : w2.heap.size < w2.heap.size + 1)
    have hs4 : w1.heap.size ≤ (w2.alloc (.cells #[.int .u8 0] 5)).heap.size := by have := hb2.size; simp; omega
    go_wp2_with (at_builtin; refine wpList_append_bs _ rfl _ _ 27 rfl w1.heap.size 5 i0 _ Try.underlying27 hi hz0 hz1 hz2 rfl A2 cA2 L 9 rfl HLn.out own3 _ _ _ [0] 1 rfl rfl bsx (by rw [← HLn.out]; simp) hs4 ?_; intro A5 cA5 w5 own5 hg5 _; have kb6 := kb4.kept hg5 (fun e => by have := (own3.lt _ e.symm).1; omega); have c0 := kb6.cell 0; have c1 := kb6.cell 1; have c2 := kb6.cell 2; have c3 := kb6.cell 3; have c4 := kb6.cell 4; have c5 := kb6.cell 5; have c6 := kb6.cell 6; simp only [List.getElem?_toArray, List.getElem?_cons_zero, List.getElem?_cons_succ] at c0 c1 c2 c3 c4 c5 c6)
    have hbw5 := hbw4.grown hg5 hbw4.size (fun k e => by have := (own3.lt _ e).1; omega)
    rw [← HD.out] at own5
    obtain ⟨hc1, hc2⟩ := own_cap own5
    have hq := Hw.out A5 cA5 w5 hc1 hc2 own5.bs
    rw [H10.out] at hq
    refine hq.mono ?_
    rintro e wz ⟨Az, cz, rfl, ownz, hbz⟩
    go_wp2
    go_ret2
    exact ⟨Az, cz, rfl, ownz.base_le hbw5.size, bt hbw5 hbz⟩
  · subst hmx
    have HD : Hid (D = L ++ [1]) := Lib.hid hD
    clear hD
    have kb0 := Blk.new w 26 #[.int .i64 k, .int .i64 uu, .int .u32 a, .int .u32 q, .bool true, .int .u32 mi, .int .u32 yo]
    have hbw0 := ba w (.cells #[.int .i64 k, .int .i64 uu, .int .u32 a, .int .u32 q, .bool true, .int .u32 mi, .int .u32 yo] 26)
    obtain ⟨i0, hi, hz0, hz1, hz2⟩ := info_parts Try.infoU8
    go_enter Try.func9, Try.ntmps9
    go_wp2_with fail
    refine (hr _).mono ?_
    rintro e w1 ⟨rfl, hb1⟩
    have kb := kb0.below hb1 kb0.lt
    have hbw := bt hbw0 hb1
    clear kb0 hbw0 hb1
    have c0 := (kb).cell 0
    have c1 := (kb).cell 1
    have c2 := (kb).cell 2
    have c3 := (kb).cell 3
    have c4 := (kb).cell 4
    have c5 := (kb).cell 5
    have c6 := (kb).cell 6
    simp only [List.getElem?_toArray, List.getElem?_cons_zero, List.getElem?_cons_succ] at c0 c1 c2 c3 c4 c5 c6
    go_wp2_with fail
    refine (hwr _).mono ?_
    rintro e w2 ⟨A2, cA2, rfl, own2, hb2⟩
    have kb3 := kb.below hb2 kb.lt
    have hbw3 := bt hbw hb2
    have hlt0 := kb.lt
    clear c0 c1 c2 c3 c4 c5 c6
    have c0 := (kb3).cell 0
    have c1 := (kb3).cell 1
    have c2 := (kb3).cell 2
    have c3 := (kb3).cell 3
    have c4 := (kb3).cell 4
    have c5 := (kb3).cell 5
    have c6 := (kb3).cell 6
    simp only [List.getElem?_toArray, List.getElem?_cons_zero, List.getElem?_cons_succ] at c0 c1 c2 c3 c4 c5 c6
    have own3 := own2.alloc (.cells #[.int .u8 1] 5)
    have kb4 := kb3.alloc (.cells #[.int .u8 1] 5)
    have hbw4 := bt hbw3 (ba w2 (.cells #[.int .u8 1] 5))
    have bsx := (raw_new w2 1 1 rfl).bs (by omega : w2.heap.size < w2.heap.size + 1)
    have hs4 : w1.heap.size ≤ (w2.alloc (.cells #[.int .u8 1] 5)).heap.size := by have := hb2.size; simp; omega
    go_wp2_with (at_builtin; refine wpList_append_bs _ rfl _ _ 27 rfl w1.heap.size 5 i0 _ Try.underlying27 hi hz0 hz1 hz2 rfl A2 cA2 L 9 rfl HLn.out own3 _ _ _ [1] 1 rfl rfl bsx (by rw [← HLn.out]; simp) hs4 ?_; intro A5 cA5 w5 own5 hg5 _; have kb6 := kb4.kept hg5 (fun e => by have := (own3.lt _ e.symm).1; omega); have c0 := kb6.cell 0; have c1 := kb6.cell 1; have c2 := kb6.cell 2; have c3 := kb6.cell 3; have c4 := kb6.cell 4; have c5 := kb6.cell 5; have c6 := kb6.cell 6; simp only [List.getElem?_toArray, List.getElem?_cons_zero, List.getElem?_cons_succ] at c0 c1 c2 c3 c4 c5 c6)
    have hbw5 := hbw4.grown hg5 hbw4.size (fun k e => by have := (own3.lt _ e).1; omega)
    rw [← HD.out] at own5
    obtain ⟨hc1, hc2⟩ := own_cap own5
    have hq := Hw.out A5 cA5 w5 hc1 hc2 own5.bs
    rw [H10.out] at hq
    refine hq.mono ?_
    rintro e wz ⟨Az, cz, rfl, ownz, hbz⟩
    go_wp2
    go_ret2
    exact ⟨Az, cz, rfl, ownz.base_le hbw5.size, bt hbw5 hbz⟩
theorem refwriteM_any (m : MsgV) (w : World) (hm : MsgOk m) : Calls Try.prog 9 #[m.val] w (OutB w (writeM m)) := by
  rcases hok : okM m with _ | _
  · rw [show writeM m = ([], 30) by unfold writeM; rw [hok]; rfl]
    exact refwriteM_no m w hok
  · have hr := fun w => refrightM_any m w
    rw [hok] at hr
    rw [show writeM m = (segOf (putL (4864 + m.k).toNat 2) (dataM m) true, 0) by unfold writeM; rw [if_pos hok]]
    obtain ⟨h1, h2, h3⟩ := okM_kind m hok
    obtain ⟨n, hn⟩ := Int.eq_ofNat_of_zero_le (show 0 ≤ m.k by omega)
    rw [show (4864 + m.k).toNat = 4864 + n by omega]
    obtain ⟨_, _, _, _, ha, hq, hmi, hyo⟩ := hm
    obtain ⟨k, uu, a, q, mx, mi, yo⟩ := m
    simp only at h1 h2 h3 hn ha hq hmi hyo
    by_cases h11 : k ≤ 11
    · exact refwriteM_luw k uu a q mx mi yo w n hn (by omega) hr h1 h11 (h3 h11) ha hq _ (by unfold dataM; rw [if_pos h11])
    · by_cases h12 : k = 12
      · exact refwriteM_12 k uu a q mx mi yo w n hn (by omega) hr h12 hmi hyo _ (by unfold dataM; rw [if_neg h11, if_pos h12])
      · exact refwriteM_13 k uu a q mx mi yo w n hn (by omega) hr (by omega) _ (by unfold dataM; rw [if_neg h11, if_neg h12])
end Go.Proofs.Yteniponkakaaaaa
