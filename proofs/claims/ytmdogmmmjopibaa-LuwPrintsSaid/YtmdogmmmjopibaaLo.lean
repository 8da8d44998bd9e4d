/- The law on names there and back. -/
import Derived.Test.YtmdogmmmjopibaaLk
namespace Go.Proofs.Ytmdogmmmjopibaa
open Go.RowKit
set_option linter.unusedVariables false
set_option linter.unusedSimpArgs false

theorem putL_num (l : List UInt8) : putL (num l) l.length = l := by
  induction l using snoc_ind with
  | h0 => rfl
  | h1 l x ih =>
    have hx := x.toNat_lt
    rw [num_snoc, List.length_append, List.length_singleton, putL, show (256 * num l + x.toNat) / 256 = num l by omega, show (256 * num l + x.toNat) % 256 = x.toNat by omega, ih]
    simp
theorem num_putL (v n : Nat) : num (putL v n) = v % 256 ^ n := by
  induction n generalizing v with
  | zero => simp [putL, num, Nat.mod_one]
  | succ n ih =>
    rw [putL, num_snoc, ih, Nat.pow_succ, Nat.mul_comm (256 ^ n) 256, Nat.mod_mul]
    simp
    omega
theorem rd_cases (l : List UInt8) : ∃ u a q e, rdL l = ((u, a, q), e) ∧ a < 4294967296 ∧ q < 4294967296 ∧ ((e = 0 ∧ wrL u a q = (l, 0)) ∨ (e != 0) = true ∧ (e == 0) = false) := by
  unfold rdL
  split
  · exact ⟨0, 0, 0, 11, rfl, by omega, by omega, .inr ⟨rfl, rfl⟩⟩
  · split
    · exact ⟨0, 0, 0, 2, rfl, by omega, by omega, .inr ⟨rfl, rfl⟩⟩
    · have h9 : l.length = 9 := by omega
      have g1 : ((l.drop 1).take 4).length = 4 := by simp; omega
      have g5 : (l.drop 5).length = 4 := by simp; omega
      split
      · rename_i hk
        refine ⟨_, _, _, 0, rfl, num_lt4 _ g1, num_lt4 _ g5, .inl ⟨rfl, ?_⟩⟩
        unfold wrL
        rw [if_pos hk]
        have p1 := putL_num ((l.drop 1).take 4)
        have p5 := putL_num (l.drop 5)
        rw [g1] at p1
        rw [g5] at p5
        rw [p1, p5]
        congr 1
        match l, h9 with
        | x :: t, h9 =>
          have hx := x.toNat_lt
          simp only [List.headD_cons, Int.toNat_natCast, List.drop_succ_cons, List.drop_zero]
          have : t.take 4 ++ t.drop 4 = t := List.take_append_drop 4 t
          rw [this]
          simp
      · exact ⟨0, 0, 0, 50, rfl, by omega, by omega, .inr ⟨rfl, rfl⟩⟩
theorem rd_wr (m a q : Nat) (h : okL m q = true) (ha : a < 4294967296) (hq : q < 4294967296) : rdL (UInt8.ofNat m :: (putL a 4 ++ putL q 4)) = (((m : Int), a, q), 0) := by
  have hm := ((okL_iff _ _).1 h).2.1
  have e4 : (256 : Nat) ^ 4 = 4294967296 := by decide
  unfold rdL
  rw [wrL_len, if_neg (by omega), if_neg (by omega)]
  have d1 : ((UInt8.ofNat m :: (putL a 4 ++ putL q 4)).drop 1).take 4 = putL a 4 := by
    rw [List.drop_succ_cons, List.drop_zero, List.take_append_of_le_length (by rw [putL_length]; omega), List.take_of_length_le (by rw [putL_length]; omega)]
  have d5 : (UInt8.ofNat m :: (putL a 4 ++ putL q 4)).drop 5 = putL q 4 := by
    rw [List.drop_succ_cons, List.drop_append_of_le_length (by rw [putL_length]; omega), List.drop_of_length_le (by rw [putL_length]; omega), List.nil_append]
  rw [d1, d5, num_putL, num_putL, e4, Nat.mod_eq_of_lt ha, Nat.mod_eq_of_lt hq, List.headD_cons]
  have : ((UInt8.ofNat m).toNat : Int) = m := (byte_nat m (by omega)).symm
  rw [this, if_pos h]
theorem parse_print (u : Int) (a q : Nat) (s : ByteArray) (w : World) (h : okL u q = true) (ha : a < 4294967296) (hq : q < 4294967296) (hs : s = ⟨(printL u a q).toArray⟩) :
    Calls Try.prog 16 #[.string s] w fun e w' => e = .returned (.tuple #[.agg #[.int .i64 u, .int .u32 a, .int .u32 q], .int .i64 0]) ∧ Below w.heap.size w w' := by
  have hp : printL u a q = prL u a q := if_pos h
  have hsl : sl s = prL u a q := by rw [hs, hp]; simp [sl]
  have hz : s.size ≤ 1000000 := by
    have := dig_len10 a ha
    have := dig_len10 q hq
    rw [← sl_length, hsl, prL_length]; omega
  refine (parse_any s w hz).mono ?_
  rintro e w' ⟨u', a', q', err, hp', rfl, hb⟩
  obtain ⟨rfl, rfl, rfl, rfl⟩ := hp'.same (.inl ⟨rfl, h, ha, hq, hsl⟩)
  exact ⟨rfl, hb⟩

set_option maxHeartbeats 1600000 in
set_option maxRecDepth 100000 in
theorem luwBack_walk (o1 : LuwV) (A : Option Addr) (l : List UInt8) (c : Nat) (s : ByteArray) (w : World) (h1 : LuwOk o1) (hs : Bs w w.heap.size A l) (hlc : l.length ≤ c) (hcm : c ≤ 9223372036854775807) (hsz : s.size ≤ maxLen) :
    Calls Try.prog 6 #[o1.val, .slice A l.length c, .string s] w fun e w' => e = .returned (.bool true) ∧ Below w.heap.size w w' := by
  obtain ⟨n0, a, q⟩ := o1
  obtain ⟨_, _, ha, hq⟩ := h1
  unfold LuwV.val
  simp only at ha hq
  unfold maxLen at hsz
  by_cases hs100 : 100 < s.size
  · go_enter Try.func6, Try.ntmps6
    go_wp2_with fail
    refine (alive_any _).mono ?_
    rintro e wz ⟨rfl, hbz⟩
    go_wp2
    go_ret
    exact ⟨rfl, bt (ba _ _) hbz⟩
  by_cases hl100 : 100 < l.length
  · go_enter Try.func6, Try.ntmps6
    go_wp2_with fail
    refine (alive_any _).mono ?_
    rintro e wz ⟨rfl, hbz⟩
    go_wp2
    go_ret
    exact ⟨rfl, bt (ba _ _) hbz⟩
  have hw1 := fun w => write_any n0 a q w ha hq
  have hr1 := fun w => right_any n0 a q w
  have hp1 := fun w => print_any n0 a q w ha hq
  have hd1 := fun w hs => read_any A l c w hlc hcm hs
  obtain ⟨m0, m1, m2, e2, hrd, hm1, hm2, hcs⟩ := rd_cases l
  rw [hrd] at hd1
  have hw2 := fun w => write_any m0 m1 m2 w hm1 hm2
  generalize hR2 : wrL m0 m1 m2 = R2 at *
  obtain ⟨L2, e3⟩ := R2
  have hps := fun w => parse_any s w (by omega)
  unfold lv at hw1 hr1 hw2 hp1
  unfold OutB at hw2
  simp only [lvE, lv] at hd1
  have Hs := Lib.hid hs
  have Hd1 := Lib.hid hd1
  have Hcs := Lib.hid hcs
  clear hs hd1 hcs hrd hR2
  have kb1 := Blk.new w 24 #[.int .i64 n0, .int .u32 a, .int .u32 q]
  have hbw := ba w (.cells #[.int .i64 n0, .int .u32 a, .int .u32 q] 24)
  rcases hk : okL n0 q with _ | _
  · rw [hk] at hr1
    clear hk
    go_enter Try.func6, Try.ntmps6
    go_wp2_with fail
    refine (hr1 _).mono ?_
    rintro e w1 ⟨rfl, hb1⟩
    have hbw := bt hbw hb1
    clear kb1 hb1
    go_wp2_with fail
    refine (Hd1.out _ (Hs.out.bt hbw)).mono ?_
    rintro e w5 ⟨rfl, hb5⟩
    have x1 := Blk.new w5 24 #[.int .i64 m0, .int .u32 m1, .int .u32 m2]
    have hbw := bt hbw (bt hb5 (ba w5 (.cells #[.int .i64 m0, .int .u32 m1, .int .u32 m2] 24)))
    clear hb5
    have c0 := (x1).cell 0
    have c1 := (x1).cell 1
    have c2 := (x1).cell 2
    simp only [List.getElem?_toArray, List.getElem?_cons_zero, List.getElem?_cons_succ] at c0 c1 c2
    go_wp2_with fail
    refine (hw2 _).mono ?_
    rintro e w6 ⟨A6, c6, rfl, own6, hb6⟩
    have hbw := bt hbw hb6
    clear c0 c1 c2 x1
    have cv1 : (convert 25 9 (.slice A6 L2.length c6)).run Try.prog w6 = .ok (.string ⟨L2.toArray⟩) w6 := conv_bytes Try.underlying25 Try.underlying5 Try.underlying9 own6.bs _
    have cv2 : (convert 25 9 (.slice A l.length c)).run Try.prog w6 = .ok (.string ⟨l.toArray⟩) w6 := conv_bytes Try.underlying25 Try.underlying5 Try.underlying9 (Hs.out.bt hbw) _
    rcases Hcs.out with ⟨rfl, hww⟩ | ⟨hne, hne'⟩
    · injection hww with hww1 hww2
      subst hww1 hww2
      go_wp2_with fail
      refine (hps _).mono ?_
      rintro e w7 ⟨u', a', q', err, hpi, rfl, hb7⟩
      have hbw := bt hbw hb7
      simp only [lvE, lv]
      rcases hpi with ⟨rfl, hok, ha', hq', hsl⟩ | ⟨rfl, rfl, rfl, rfl, hno⟩
      · have hpr := fun w => print_any u' a' q' w ha' hq'
        have hri := fun w => right_any u' a' q' w
        have hpp : (⟨(printL u' a' q').toArray⟩ : ByteArray) = s := by rw [show printL u' a' q' = prL u' a' q' from if_pos hok, ← hsl, sl_eq]
        rw [hpp] at hpr
        rw [hok] at hri
        unfold lv at hpr hri
        have x2 := Blk.new w7 24 #[.int .i64 u', .int .u32 a', .int .u32 q']
        have hbw := bt hbw (ba w7 (.cells #[.int .i64 u', .int .u32 a', .int .u32 q'] 24))
        clear hpp hsl hok
        go_wp2_with fail
        refine (alive_any _).mono ?_
        rintro e w8 ⟨rfl, hb8⟩
        have x3 := x2.below hb8 x2.lt
        have hbw := bt hbw hb8
        have c0 := (x3).cell 0
        have c1 := (x3).cell 1
        have c2 := (x3).cell 2
        simp only [List.getElem?_toArray, List.getElem?_cons_zero, List.getElem?_cons_succ] at c0 c1 c2
        go_wp2_with fail
        refine (hpr _).mono ?_
        rintro e w9 ⟨rfl, hb9⟩
        have x4 := x3.below hb9 x3.lt
        have hbw := bt hbw hb9
        clear c0 c1 c2
        have c0 := (x4).cell 0
        have c1 := (x4).cell 1
        have c2 := (x4).cell 2
        simp only [List.getElem?_toArray, List.getElem?_cons_zero, List.getElem?_cons_succ] at c0 c1 c2
        go_wp2_with fail
        refine (hri _).mono ?_
        rintro e w10 ⟨rfl, hb10⟩
        have hbw := bt hbw hb10
        go_wp2
        go_ret
        exact ⟨by simp, hbw⟩
      · have hbw := bt hbw (ba w7 (.cells #[.int .i64 0, .int .u32 0, .int .u32 0] 24))
        go_wp2_with fail
        refine (alive_any _).mono ?_
        rintro e w8 ⟨rfl, hb8⟩
        have hbw := bt hbw hb8
        go_wp2
        go_ret
        exact ⟨rfl, hbw⟩
    · go_wp2_with fail
      refine (hps _).mono ?_
      rintro e w7 ⟨u', a', q', err, hpi, rfl, hb7⟩
      have hbw := bt hbw hb7
      simp only [lvE, lv]
      rcases hpi with ⟨rfl, hok, ha', hq', hsl⟩ | ⟨rfl, rfl, rfl, rfl, hno⟩
      · have hpr := fun w => print_any u' a' q' w ha' hq'
        have hri := fun w => right_any u' a' q' w
        have hpp : (⟨(printL u' a' q').toArray⟩ : ByteArray) = s := by rw [show printL u' a' q' = prL u' a' q' from if_pos hok, ← hsl, sl_eq]
        rw [hpp] at hpr
        rw [hok] at hri
        unfold lv at hpr hri
        have x2 := Blk.new w7 24 #[.int .i64 u', .int .u32 a', .int .u32 q']
        have hbw := bt hbw (ba w7 (.cells #[.int .i64 u', .int .u32 a', .int .u32 q'] 24))
        clear hpp hsl hok
        go_wp2_with fail
        refine (alive_any _).mono ?_
        rintro e w8 ⟨rfl, hb8⟩
        have x3 := x2.below hb8 x2.lt
        have hbw := bt hbw hb8
        have c0 := (x3).cell 0
        have c1 := (x3).cell 1
        have c2 := (x3).cell 2
        simp only [List.getElem?_toArray, List.getElem?_cons_zero, List.getElem?_cons_succ] at c0 c1 c2
        go_wp2_with fail
        refine (hpr _).mono ?_
        rintro e w9 ⟨rfl, hb9⟩
        have x4 := x3.below hb9 x3.lt
        have hbw := bt hbw hb9
        clear c0 c1 c2
        have c0 := (x4).cell 0
        have c1 := (x4).cell 1
        have c2 := (x4).cell 2
        simp only [List.getElem?_toArray, List.getElem?_cons_zero, List.getElem?_cons_succ] at c0 c1 c2
        go_wp2_with fail
        refine (hri _).mono ?_
        rintro e w10 ⟨rfl, hb10⟩
        have hbw := bt hbw hb10
        go_wp2
        go_ret
        exact ⟨by simp, hbw⟩
      · have hbw := bt hbw (ba w7 (.cells #[.int .i64 0, .int .u32 0, .int .u32 0] 24))
        go_wp2_with fail
        refine (alive_any _).mono ?_
        rintro e w8 ⟨rfl, hb8⟩
        have hbw := bt hbw hb8
        go_wp2
        go_ret
        exact ⟨rfl, hbw⟩
  · have hk2 := hk
    obtain ⟨hu1, hu2, hq0⟩ := (okL_iff n0 q).1 hk
    obtain ⟨m, rfl⟩ := Int.eq_ofNat_of_zero_le hu1
    have hwr : wrL m a q = (UInt8.ofNat m :: (putL a 4 ++ putL q 4), 0) := by unfold wrL; rw [if_pos hk, Int.toNat_natCast]
    have hrd := rd_wr m a q hk ha hq
    have hpa := fun w => parse_print (m : Int) a q _ w hk ha hq rfl
    rw [hwr] at hw1
    rw [hk] at hr1
    unfold OutB at hw1
    have hlen := wrL_len m a q
    generalize UInt8.ofNat m :: (putL a 4 ++ putL q 4) = L1 at *
    have hrr := fun A c w h1 h2 h3 => read_any A L1 c w h1 h2 h3
    rw [hrd] at hrr
    simp only [lvE, lv] at hrr
    simp only [hlen] at hw1 hrr
    have Hlen := Lib.hid hlen
    generalize printL m a q = pl at *
    have Hrr := Lib.hid hrr
    clear hk hk2 hu1 hu2 hq0 hwr hrd hlen hrr
    go_enter Try.func6, Try.ntmps6
    go_wp2_with fail
    refine (hr1 _).mono ?_
    rintro e w1 ⟨rfl, hb1⟩
    have kb2 := kb1.below hb1 kb1.lt
    have hbw := bt hbw hb1
    clear kb1 hb1
    have c0 := (kb2).cell 0
    have c1 := (kb2).cell 1
    have c2 := (kb2).cell 2
    simp only [List.getElem?_toArray, List.getElem?_cons_zero, List.getElem?_cons_succ] at c0 c1 c2
    go_wp2_with fail
    refine (hw1 _).mono ?_
    rintro e w2 ⟨A2, c2_, rfl, own2, hb2⟩
    have kb3 := kb2.below hb2 kb2.lt
    have hbw := bt hbw hb2
    clear c0 c1 c2 kb2 hb2
    obtain ⟨hc9, hcm9⟩ : 9 ≤ c2_ ∧ c2_ ≤ 9223372036854775807 := by
      obtain ⟨g2, _, _, _, h1, h2⟩ := own2.form (by rw [Hlen.out]; omega)
      rw [Hlen.out] at h1
      unfold maxLen at h2
      exact ⟨h1, by omega⟩
    go_wp2_with fail
    refine (Hrr.out _ _ _ hc9 (by omega) own2.bs).mono ?_
    rintro e w3 ⟨rfl, hb3⟩
    have kb4 := (kb3.below hb3 kb3.lt).alloc (.cells #[.int .i64 (m : Nat), .int .u32 a, .int .u32 q] 24)
    have y1 := Blk.new w3 24 #[.int .i64 (m : Nat), .int .u32 a, .int .u32 q]
    have hbw := bt hbw (bt hb3 (ba w3 (.cells #[.int .i64 (m : Nat), .int .u32 a, .int .u32 q] 24)))
    clear kb3 hb3
    have c0 := (kb4).cell 0
    have c1 := (kb4).cell 1
    have c2 := (kb4).cell 2
    simp only [List.getElem?_toArray, List.getElem?_cons_zero, List.getElem?_cons_succ] at c0 c1 c2
    go_wp2_with fail
    refine (hp1 _).mono ?_
    rintro e w4 ⟨rfl, hb4⟩
    go_wp2_with fail
    refine (hpa _).mono ?_
    rintro e w4b ⟨rfl, hb4b⟩
    have hbx := bt hb4 hb4b
    have kb5 := (kb4.below hbx kb4.lt).alloc (.cells #[.int .i64 (m : Nat), .int .u32 a, .int .u32 q] 24)
    have y2 := (y1.below hbx y1.lt).alloc (.cells #[.int .i64 (m : Nat), .int .u32 a, .int .u32 q] 24)
    have y3 := Blk.new w4b 24 #[.int .i64 (m : Nat), .int .u32 a, .int .u32 q]
    have hbw := bt hbw (bt hbx (ba w4b (.cells #[.int .i64 (m : Nat), .int .u32 a, .int .u32 q] 24)))
    clear kb4 y1 hb4 hb4b hbx c0 c1 c2
    have c0 := (kb5).cell 0
    have c1 := (kb5).cell 1
    have c2 := (kb5).cell 2
    simp only [List.getElem?_toArray, List.getElem?_cons_zero, List.getElem?_cons_succ] at c0 c1 c2
    have d0 := (y2).cell 0
    have d1 := (y2).cell 1
    have d2 := (y2).cell 2
    simp only [List.getElem?_toArray, List.getElem?_cons_zero, List.getElem?_cons_succ] at d0 d1 d2
    go_wp2_with fail
    refine (Hd1.out _ (Hs.out.bt hbw)).mono ?_
    rintro e w5 ⟨rfl, hb5⟩
    have x1 := Blk.new w5 24 #[.int .i64 m0, .int .u32 m1, .int .u32 m2]
    have hbw := bt hbw (bt hb5 (ba w5 (.cells #[.int .i64 m0, .int .u32 m1, .int .u32 m2] 24)))
    clear hb5
    have c0 := (x1).cell 0
    have c1 := (x1).cell 1
    have c2 := (x1).cell 2
    simp only [List.getElem?_toArray, List.getElem?_cons_zero, List.getElem?_cons_succ] at c0 c1 c2
    go_wp2_with fail
    refine (hw2 _).mono ?_
    rintro e w6 ⟨A6, c6, rfl, own6, hb6⟩
    have hbw := bt hbw hb6
    clear c0 c1 c2 x1
    have cv1 : (convert 25 9 (.slice A6 L2.length c6)).run Try.prog w6 = .ok (.string ⟨L2.toArray⟩) w6 := conv_bytes Try.underlying25 Try.underlying5 Try.underlying9 own6.bs _
    have cv2 : (convert 25 9 (.slice A l.length c)).run Try.prog w6 = .ok (.string ⟨l.toArray⟩) w6 := conv_bytes Try.underlying25 Try.underlying5 Try.underlying9 (Hs.out.bt hbw) _
    rcases Hcs.out with ⟨rfl, hww⟩ | ⟨hne, hne'⟩
    · injection hww with hww1 hww2
      subst hww1 hww2
      go_wp2_with fail
      refine (hps _).mono ?_
      rintro e w7 ⟨u', a', q', err, hpi, rfl, hb7⟩
      have hbw := bt hbw hb7
      simp only [lvE, lv]
      rcases hpi with ⟨rfl, hok, ha', hq', hsl⟩ | ⟨rfl, rfl, rfl, rfl, hno⟩
      · have hpr := fun w => print_any u' a' q' w ha' hq'
        have hri := fun w => right_any u' a' q' w
        have hpp : (⟨(printL u' a' q').toArray⟩ : ByteArray) = s := by rw [show printL u' a' q' = prL u' a' q' from if_pos hok, ← hsl, sl_eq]
        rw [hpp] at hpr
        rw [hok] at hri
        unfold lv at hpr hri
        have x2 := Blk.new w7 24 #[.int .i64 u', .int .u32 a', .int .u32 q']
        have hbw := bt hbw (ba w7 (.cells #[.int .i64 u', .int .u32 a', .int .u32 q'] 24))
        clear hpp hsl hok
        go_wp2_with fail
        refine (alive_any _).mono ?_
        rintro e w8 ⟨rfl, hb8⟩
        have x3 := x2.below hb8 x2.lt
        have hbw := bt hbw hb8
        have c0 := (x3).cell 0
        have c1 := (x3).cell 1
        have c2 := (x3).cell 2
        simp only [List.getElem?_toArray, List.getElem?_cons_zero, List.getElem?_cons_succ] at c0 c1 c2
        go_wp2_with fail
        refine (hpr _).mono ?_
        rintro e w9 ⟨rfl, hb9⟩
        have x4 := x3.below hb9 x3.lt
        have hbw := bt hbw hb9
        clear c0 c1 c2
        have c0 := (x4).cell 0
        have c1 := (x4).cell 1
        have c2 := (x4).cell 2
        simp only [List.getElem?_toArray, List.getElem?_cons_zero, List.getElem?_cons_succ] at c0 c1 c2
        go_wp2_with fail
        refine (hri _).mono ?_
        rintro e w10 ⟨rfl, hb10⟩
        have hbw := bt hbw hb10
        go_wp2
        go_ret
        exact ⟨by simp, hbw⟩
      · have hbw := bt hbw (ba w7 (.cells #[.int .i64 0, .int .u32 0, .int .u32 0] 24))
        go_wp2_with fail
        refine (alive_any _).mono ?_
        rintro e w8 ⟨rfl, hb8⟩
        have hbw := bt hbw hb8
        go_wp2
        go_ret
        exact ⟨rfl, hbw⟩
    · go_wp2_with fail
      refine (hps _).mono ?_
      rintro e w7 ⟨u', a', q', err, hpi, rfl, hb7⟩
      have hbw := bt hbw hb7
      simp only [lvE, lv]
      rcases hpi with ⟨rfl, hok, ha', hq', hsl⟩ | ⟨rfl, rfl, rfl, rfl, hno⟩
      · have hpr := fun w => print_any u' a' q' w ha' hq'
        have hri := fun w => right_any u' a' q' w
        have hpp : (⟨(printL u' a' q').toArray⟩ : ByteArray) = s := by rw [show printL u' a' q' = prL u' a' q' from if_pos hok, ← hsl, sl_eq]
        rw [hpp] at hpr
        rw [hok] at hri
        unfold lv at hpr hri
        have x2 := Blk.new w7 24 #[.int .i64 u', .int .u32 a', .int .u32 q']
        have hbw := bt hbw (ba w7 (.cells #[.int .i64 u', .int .u32 a', .int .u32 q'] 24))
        clear hpp hsl hok
        go_wp2_with fail
        refine (alive_any _).mono ?_
        rintro e w8 ⟨rfl, hb8⟩
        have x3 := x2.below hb8 x2.lt
        have hbw := bt hbw hb8
        have c0 := (x3).cell 0
        have c1 := (x3).cell 1
        have c2 := (x3).cell 2
        simp only [List.getElem?_toArray, List.getElem?_cons_zero, List.getElem?_cons_succ] at c0 c1 c2
        go_wp2_with fail
        refine (hpr _).mono ?_
        rintro e w9 ⟨rfl, hb9⟩
        have x4 := x3.below hb9 x3.lt
        have hbw := bt hbw hb9
        clear c0 c1 c2
        have c0 := (x4).cell 0
        have c1 := (x4).cell 1
        have c2 := (x4).cell 2
        simp only [List.getElem?_toArray, List.getElem?_cons_zero, List.getElem?_cons_succ] at c0 c1 c2
        go_wp2_with fail
        refine (hri _).mono ?_
        rintro e w10 ⟨rfl, hb10⟩
        have hbw := bt hbw hb10
        go_wp2
        go_ret
        exact ⟨by simp, hbw⟩
      · have hbw := bt hbw (ba w7 (.cells #[.int .i64 0, .int .u32 0, .int .u32 0] 24))
        go_wp2_with fail
        refine (alive_any _).mono ?_
        rintro e w8 ⟨rfl, hb8⟩
        have hbw := bt hbw hb8
        go_wp2
        go_ret
        exact ⟨rfl, hbw⟩
end Go.Proofs.Ytmdogmmmjopibaa
