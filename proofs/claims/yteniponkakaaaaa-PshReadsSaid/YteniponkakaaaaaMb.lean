/- Which messages are right: both programs' Right. -/
import Derived.Test.YteniponkakaaaaaMa
namespace Go.Proofs.Yteniponkakaaaaa
open Go.RowKit
set_option linter.unusedVariables false
set_option linter.unusedSimpArgs false

theorem beq_cast (n : Nat) : ((n : Int) == 0) = (n == 0) := by
  rcases Nat.eq_zero_or_pos n with h | h
  · subst h; rfl
  · rw [beq_eq_false_iff_ne.2 (show (n : Int) ≠ 0 by omega), beq_eq_false_iff_ne.2 (show n ≠ 0 by omega)]
structure MsgV where
  k : Int
  u : Int
  a : Nat
  q : Nat
  mx : Bool
  mi : Nat
  yo : Nat
def MsgV.cs (m : MsgV) : Array Value := #[.int .i64 m.k, .int .i64 m.u, .int .u32 m.a, .int .u32 m.q, .bool m.mx, .int .u32 m.mi, .int .u32 m.yo]
def MsgV.val (m : MsgV) : Value := .agg m.cs
/-- May a message be? -/
def okM (m : MsgV) : Bool :=
  if m.k < 1 ∨ 13 < m.k then false else
  if m.k ≤ 11 then (okL m.u m.q && ((m.k == 9 || !m.mx) && (m.mi == 0 && m.yo == 0))) else
  if (m.u != 0 || (m.a != 0 || (m.q != 0 || m.mx))) then false else
  if m.k = 12 then m.mi != 0 else (m.mi == 0 && m.yo == 0)

set_option maxHeartbeats 1000000 in
theorem right_none (k u : Int) (a q : Nat) (mx : Bool) (mi yo : Nat) (w : World) (h : k < 1 ∨ 13 < k) (R : Bool) (hR : Hid (R = (false))) : Calls Try.prog 11 #[.agg #[.int .i64 k, .int .i64 u, .int .u32 a, .int .u32 q, .bool mx, .int .u32 mi, .int .u32 yo]] w fun e w' => e = .returned (.bool R) ∧ Below w.heap.size w w' := by
  have hf := fun w => fieldsOf_any k w
  rw [f_low k h] at hf
  unfold fv at hf
  clear h
  have kb0 := Blk.new w 26 #[.int .i64 k, .int .i64 u, .int .u32 a, .int .u32 q, .bool mx, .int .u32 mi, .int .u32 yo]
  have hbw0 := ba w (.cells #[.int .i64 k, .int .i64 u, .int .u32 a, .int .u32 q, .bool mx, .int .u32 mi, .int .u32 yo] 26)
  go_enter Try.func11, Try.ntmps11
  go_wp2_with fail
  refine (hf _).mono ?_
  rintro e w1 ⟨rfl, hb1⟩
  have kb := kb0.below hb1 kb0.lt
  have hbw := bt hbw0 hb1
  have kb2 := kb.alloc (.cells #[.bool false, .bool false, .bool false, .bool false] 50)
  have kf := Blk.new w1 50 #[.bool false, .bool false, .bool false, .bool false]
  have hbw2 := bt hbw (ba w1 (.cells #[.bool false, .bool false, .bool false, .bool false] 50))
  clear kb0 hbw0 hb1
  have c0 := (kb2).cell 0
  have c1 := (kb2).cell 1
  have c2 := (kb2).cell 2
  have c3 := (kb2).cell 3
  have c4 := (kb2).cell 4
  have c5 := (kb2).cell 5
  have c6 := (kb2).cell 6
  simp only [List.getElem?_toArray, List.getElem?_cons_zero, List.getElem?_cons_succ] at c0 c1 c2 c3 c4 c5 c6
  go_wp2
  go_ret
  exact ⟨by rw [hR.out]; rfl, hbw2⟩

set_option maxHeartbeats 1000000 in
theorem right_nine (u : Int) (a q : Nat) (mx : Bool) (mi yo : Nat) (w : World)  (R : Bool) (hR : Hid (R = (okL u q && (mi == 0 && yo == 0)))) : Calls Try.prog 11 #[.agg #[.int .i64 9, .int .i64 u, .int .u32 a, .int .u32 q, .bool mx, .int .u32 mi, .int .u32 yo]] w fun e w' => e = .returned (.bool R) ∧ Below w.heap.size w w' := by
  have hf := fun w => fieldsOf_any 9 w
  have e9 : fv (fKn 9) (fLu 9) (fMi 9) (fNa 9) = fv true true true false := rfl
  rw [e9] at hf
  unfold fv at hf
  have kb0 := Blk.new w 26 #[.int .i64 9, .int .i64 u, .int .u32 a, .int .u32 q, .bool mx, .int .u32 mi, .int .u32 yo]
  have hbw0 := ba w (.cells #[.int .i64 9, .int .i64 u, .int .u32 a, .int .u32 q, .bool mx, .int .u32 mi, .int .u32 yo] 26)
  go_enter Try.func11, Try.ntmps11
  go_wp2_with fail
  refine (hf _).mono ?_
  rintro e w1 ⟨rfl, hb1⟩
  have kb := kb0.below hb1 kb0.lt
  have hbw := bt hbw0 hb1
  have kb2 := kb.alloc (.cells #[.bool true, .bool true, .bool true, .bool false] 50)
  have kf := Blk.new w1 50 #[.bool true, .bool true, .bool true, .bool false]
  have hbw2 := bt hbw (ba w1 (.cells #[.bool true, .bool true, .bool true, .bool false] 50))
  clear kb0 hbw0 hb1
  have c0 := (kb2).cell 0
  have c1 := (kb2).cell 1
  have c2 := (kb2).cell 2
  have c3 := (kb2).cell 3
  have c4 := (kb2).cell 4
  have c5 := (kb2).cell 5
  have c6 := (kb2).cell 6
  simp only [List.getElem?_toArray, List.getElem?_cons_zero, List.getElem?_cons_succ] at c0 c1 c2 c3 c4 c5 c6
  have hr := fun w => right_any u a q w
  unfold lv at hr
  rcases hk : okL u q with _ | _
  · have HK := Lib.hid hk
    rw [hk] at hr
    clear hk
    go_wp2_with fail
    refine (hr _).mono ?_
    rintro e w2 ⟨rfl, hb2⟩
    have kb3 := kb2.below hb2 kb2.lt
    have kf3 := kf.below hb2 kf.lt
    have hbw3 := bt hbw2 hb2
    clear c0 c1 c2 c3 c4 c5 c6
    have c0 := (kb3).cell 0
    have c1 := (kb3).cell 1
    have c2 := (kb3).cell 2
    have c3 := (kb3).cell 3
    have c4 := (kb3).cell 4
    have c5 := (kb3).cell 5
    have c6 := (kb3).cell 6
    simp only [List.getElem?_toArray, List.getElem?_cons_zero, List.getElem?_cons_succ] at c0 c1 c2 c3 c4 c5 c6
    have d0 := kf3.cell 0
    have d1 := kf3.cell 1
    have d2 := kf3.cell 2
    have d3 := kf3.cell 3
    simp only [List.getElem?_toArray, List.getElem?_cons_zero, List.getElem?_cons_succ] at d0 d1 d2 d3
    go_wp2
    go_ret
    exact ⟨by have e1 := HK.out; rw [hR.out]; simp [e1], hbw3⟩
  · have HK := Lib.hid hk
    rw [hk] at hr
    clear hk
    go_wp2_with fail
    refine (hr _).mono ?_
    rintro e w2 ⟨rfl, hb2⟩
    have kb3 := kb2.below hb2 kb2.lt
    have kf3 := kf.below hb2 kf.lt
    have hbw3 := bt hbw2 hb2
    clear c0 c1 c2 c3 c4 c5 c6
    have c0 := (kb3).cell 0
    have c1 := (kb3).cell 1
    have c2 := (kb3).cell 2
    have c3 := (kb3).cell 3
    have c4 := (kb3).cell 4
    have c5 := (kb3).cell 5
    have c6 := (kb3).cell 6
    simp only [List.getElem?_toArray, List.getElem?_cons_zero, List.getElem?_cons_succ] at c0 c1 c2 c3 c4 c5 c6
    have d0 := kf3.cell 0
    have d1 := kf3.cell 1
    have d2 := kf3.cell 2
    have d3 := kf3.cell 3
    simp only [List.getElem?_toArray, List.getElem?_cons_zero, List.getElem?_cons_succ] at d0 d1 d2 d3
    by_cases hz : mi = 0
    · have hz1 : ((mi : Int) == 0) = true := by simp [hz]
      have HZ := Lib.hid hz
      clear hz
      go_wp2
      go_ret
      exact ⟨by have e2 := HZ.out; have e1 := HK.out; rw [hR.out]; by_cases hy : yo = 0 <;> simp [e2, hy, beq_cast, e1], hbw3⟩
    · have hz1 : ((mi : Int) == 0) = false := beq_eq_false_iff_ne.2 (by omega)
      have HZ := Lib.hid hz
      clear hz
      go_wp2
      go_ret
      exact ⟨by have e2 := HZ.out; have e1 := HK.out; rw [hR.out]; simp [e2, e1], hbw3⟩

set_option maxHeartbeats 1000000 in
theorem right_luw (k u : Int) (a q : Nat) (mx : Bool) (mi yo : Nat) (w : World) (hk1 : 1 ≤ k) (hk2 : k ≤ 11) (hk9 : k ≠ 9) (R : Bool) (hR : Hid (R = (okL u q && (!mx && (mi == 0 && yo == 0))))) : Calls Try.prog 11 #[.agg #[.int .i64 k, .int .i64 u, .int .u32 a, .int .u32 q, .bool mx, .int .u32 mi, .int .u32 yo]] w fun e w' => e = .returned (.bool R) ∧ Below w.heap.size w w' := by
  have hf := fun w => fieldsOf_any k w
  have e9 : fv (fKn k) (fLu k) (fMi k) (fNa k) = fv true true false false := by unfold fKn fLu fMi fNa; rw [decide_eq_true hk1, decide_eq_true hk2, decide_eq_false hk9, decide_eq_true (by omega : k ≤ 13), decide_eq_false (by omega : ¬ k = 12)]; rfl
  rw [e9] at hf
  unfold fv at hf
  clear hk1 hk2 hk9 e9
  have kb0 := Blk.new w 26 #[.int .i64 k, .int .i64 u, .int .u32 a, .int .u32 q, .bool mx, .int .u32 mi, .int .u32 yo]
  have hbw0 := ba w (.cells #[.int .i64 k, .int .i64 u, .int .u32 a, .int .u32 q, .bool mx, .int .u32 mi, .int .u32 yo] 26)
  go_enter Try.func11, Try.ntmps11
  go_wp2_with fail
  refine (hf _).mono ?_
  rintro e w1 ⟨rfl, hb1⟩
  have kb := kb0.below hb1 kb0.lt
  have hbw := bt hbw0 hb1
  have kb2 := kb.alloc (.cells #[.bool true, .bool true, .bool false, .bool false] 50)
  have kf := Blk.new w1 50 #[.bool true, .bool true, .bool false, .bool false]
  have hbw2 := bt hbw (ba w1 (.cells #[.bool true, .bool true, .bool false, .bool false] 50))
  clear kb0 hbw0 hb1
  have c0 := (kb2).cell 0
  have c1 := (kb2).cell 1
  have c2 := (kb2).cell 2
  have c3 := (kb2).cell 3
  have c4 := (kb2).cell 4
  have c5 := (kb2).cell 5
  have c6 := (kb2).cell 6
  simp only [List.getElem?_toArray, List.getElem?_cons_zero, List.getElem?_cons_succ] at c0 c1 c2 c3 c4 c5 c6
  have hr := fun w => right_any u a q w
  unfold lv at hr
  rcases hk : okL u q with _ | _
  · have HK := Lib.hid hk
    rw [hk] at hr
    clear hk
    go_wp2_with fail
    refine (hr _).mono ?_
    rintro e w2 ⟨rfl, hb2⟩
    have kb3 := kb2.below hb2 kb2.lt
    have kf3 := kf.below hb2 kf.lt
    have hbw3 := bt hbw2 hb2
    clear c0 c1 c2 c3 c4 c5 c6
    have c0 := (kb3).cell 0
    have c1 := (kb3).cell 1
    have c2 := (kb3).cell 2
    have c3 := (kb3).cell 3
    have c4 := (kb3).cell 4
    have c5 := (kb3).cell 5
    have c6 := (kb3).cell 6
    simp only [List.getElem?_toArray, List.getElem?_cons_zero, List.getElem?_cons_succ] at c0 c1 c2 c3 c4 c5 c6
    have d0 := kf3.cell 0
    have d1 := kf3.cell 1
    have d2 := kf3.cell 2
    have d3 := kf3.cell 3
    simp only [List.getElem?_toArray, List.getElem?_cons_zero, List.getElem?_cons_succ] at d0 d1 d2 d3
    go_wp2
    go_ret
    exact ⟨by have e1 := HK.out; rw [hR.out]; simp [e1], hbw3⟩
  · have HK := Lib.hid hk
    rw [hk] at hr
    clear hk
    go_wp2_with fail
    refine (hr _).mono ?_
    rintro e w2 ⟨rfl, hb2⟩
    have kb3 := kb2.below hb2 kb2.lt
    have kf3 := kf.below hb2 kf.lt
    have hbw3 := bt hbw2 hb2
    clear c0 c1 c2 c3 c4 c5 c6
    have c0 := (kb3).cell 0
    have c1 := (kb3).cell 1
    have c2 := (kb3).cell 2
    have c3 := (kb3).cell 3
    have c4 := (kb3).cell 4
    have c5 := (kb3).cell 5
    have c6 := (kb3).cell 6
    simp only [List.getElem?_toArray, List.getElem?_cons_zero, List.getElem?_cons_succ] at c0 c1 c2 c3 c4 c5 c6
    have d0 := kf3.cell 0
    have d1 := kf3.cell 1
    have d2 := kf3.cell 2
    have d3 := kf3.cell 3
    simp only [List.getElem?_toArray, List.getElem?_cons_zero, List.getElem?_cons_succ] at d0 d1 d2 d3
    rcases hmx : mx with _ | _
    · subst hmx
      by_cases hz : mi = 0
      · have hz1 : ((mi : Int) == 0) = true := by simp [hz]
        have HZ := Lib.hid hz
        clear hz
        go_wp2
        go_ret
        exact ⟨by have e2 := HZ.out; have e1 := HK.out; rw [hR.out]; by_cases hy : yo = 0 <;> simp [e2, hy, beq_cast, e1], hbw3⟩
      · have hz1 : ((mi : Int) == 0) = false := beq_eq_false_iff_ne.2 (by omega)
        have HZ := Lib.hid hz
        clear hz
        go_wp2
        go_ret
        exact ⟨by have e2 := HZ.out; have e1 := HK.out; rw [hR.out]; simp [e2, e1], hbw3⟩
    · subst hmx
      go_wp2
      go_ret
      exact ⟨by rw [hR.out]; simp, hbw3⟩

set_option maxHeartbeats 1000000 in
theorem right_names (u : Int) (a q : Nat) (mx : Bool) (mi yo : Nat) (w : World)  (R : Bool) (hR : Hid (R = (if (u != 0 || (a != 0 || (q != 0 || mx))) then false else mi != 0))) : Calls Try.prog 11 #[.agg #[.int .i64 12, .int .i64 u, .int .u32 a, .int .u32 q, .bool mx, .int .u32 mi, .int .u32 yo]] w fun e w' => e = .returned (.bool R) ∧ Below w.heap.size w w' := by
  have hf := fun w => fieldsOf_any 12 w
  have e9 : fv (fKn 12) (fLu 12) (fMi 12) (fNa 12) = fv true false false true := rfl
  rw [e9] at hf
  unfold fv at hf
  have kb0 := Blk.new w 26 #[.int .i64 12, .int .i64 u, .int .u32 a, .int .u32 q, .bool mx, .int .u32 mi, .int .u32 yo]
  have hbw0 := ba w (.cells #[.int .i64 12, .int .i64 u, .int .u32 a, .int .u32 q, .bool mx, .int .u32 mi, .int .u32 yo] 26)
  go_enter Try.func11, Try.ntmps11
  go_wp2_with fail
  refine (hf _).mono ?_
  rintro e w1 ⟨rfl, hb1⟩
  have kb := kb0.below hb1 kb0.lt
  have hbw := bt hbw0 hb1
  have kb2 := kb.alloc (.cells #[.bool true, .bool false, .bool false, .bool true] 50)
  have kf := Blk.new w1 50 #[.bool true, .bool false, .bool false, .bool true]
  have hbw2 := bt hbw (ba w1 (.cells #[.bool true, .bool false, .bool false, .bool true] 50))
  clear kb0 hbw0 hb1
  have c0 := (kb2).cell 0
  have c1 := (kb2).cell 1
  have c2 := (kb2).cell 2
  have c3 := (kb2).cell 3
  have c4 := (kb2).cell 4
  have c5 := (kb2).cell 5
  have c6 := (kb2).cell 6
  simp only [List.getElem?_toArray, List.getElem?_cons_zero, List.getElem?_cons_succ] at c0 c1 c2 c3 c4 c5 c6
  rcases (by omega : u ≠ 0 ∨ (u = 0 ∧ a ≠ 0) ∨ (u = 0 ∧ a = 0 ∧ q ≠ 0) ∨ (u = 0 ∧ a = 0 ∧ q = 0)) with h | ⟨rfl, h⟩ | ⟨rfl, rfl, h⟩ | ⟨rfl, rfl, rfl⟩
  · have hb : (u != 0) = true := by simp [h]
    have hR2 : Hid (R = false) := Lib.hid (hR.out.trans (by simp [hb]))
    have hc : ¬ u = 0 := by omega
    clear h hb hR
    go_wp2
    all_goals first | (exfalso; omega) | (go_ret; exact ⟨by rw [hR2.out]; first | rfl | simp, hbw2⟩)
  · have hb : (a != 0) = true := by simp [h]
    have hR2 : Hid (R = false) := Lib.hid (hR.out.trans (by simp [hb]))
    have hc : ¬ (a : Int) = 0 := by omega
    clear h hb hR
    go_wp2
    all_goals first | (exfalso; omega) | (go_ret; exact ⟨by rw [hR2.out]; first | rfl | simp, hbw2⟩)
  · have hb : (q != 0) = true := by simp [h]
    have hR2 : Hid (R = false) := Lib.hid (hR.out.trans (by simp [hb]))
    have hc : ¬ (q : Int) = 0 := by omega
    clear h hb hR
    go_wp2
    all_goals first | (exfalso; omega) | (go_ret; exact ⟨by rw [hR2.out]; first | rfl | simp, hbw2⟩)
  · rcases hmx : mx with _ | _
    · subst hmx
      by_cases hz : mi = 0
      · have hz1 : ((mi : Int) != 0) = false := by simp [hz]
        have HZ := Lib.hid hz
        clear hz
        go_wp2
        go_ret
        exact ⟨by have e2 := HZ.out; rw [hR.out]; simp [e2], hbw2⟩
      · have hz1 : ((mi : Int) != 0) = true := by simp; omega
        have HZ := Lib.hid hz
        clear hz
        go_wp2
        go_ret
        exact ⟨by have e2 := HZ.out; rw [hR.out]; simp [e2], hbw2⟩
    · subst hmx
      have hR2 : Hid (R = false) := Lib.hid (hR.out.trans (by simp))
      clear hR
      go_wp2
      go_ret
      exact ⟨by rw [hR2.out]; first | rfl | simp, hbw2⟩

set_option maxHeartbeats 1000000 in
theorem right_refuse (u : Int) (a q : Nat) (mx : Bool) (mi yo : Nat) (w : World)  (R : Bool) (hR : Hid (R = (if (u != 0 || (a != 0 || (q != 0 || mx))) then false else (mi == 0 && yo == 0)))) : Calls Try.prog 11 #[.agg #[.int .i64 13, .int .i64 u, .int .u32 a, .int .u32 q, .bool mx, .int .u32 mi, .int .u32 yo]] w fun e w' => e = .returned (.bool R) ∧ Below w.heap.size w w' := by
  have hf := fun w => fieldsOf_any 13 w
  have e9 : fv (fKn 13) (fLu 13) (fMi 13) (fNa 13) = fv true false false false := rfl
  rw [e9] at hf
  unfold fv at hf
  have kb0 := Blk.new w 26 #[.int .i64 13, .int .i64 u, .int .u32 a, .int .u32 q, .bool mx, .int .u32 mi, .int .u32 yo]
  have hbw0 := ba w (.cells #[.int .i64 13, .int .i64 u, .int .u32 a, .int .u32 q, .bool mx, .int .u32 mi, .int .u32 yo] 26)
  go_enter Try.func11, Try.ntmps11
  go_wp2_with fail
  refine (hf _).mono ?_
  rintro e w1 ⟨rfl, hb1⟩
  have kb := kb0.below hb1 kb0.lt
  have hbw := bt hbw0 hb1
  have kb2 := kb.alloc (.cells #[.bool true, .bool false, .bool false, .bool false] 50)
  have kf := Blk.new w1 50 #[.bool true, .bool false, .bool false, .bool false]
  have hbw2 := bt hbw (ba w1 (.cells #[.bool true, .bool false, .bool false, .bool false] 50))
  clear kb0 hbw0 hb1
  have c0 := (kb2).cell 0
  have c1 := (kb2).cell 1
  have c2 := (kb2).cell 2
  have c3 := (kb2).cell 3
  have c4 := (kb2).cell 4
  have c5 := (kb2).cell 5
  have c6 := (kb2).cell 6
  simp only [List.getElem?_toArray, List.getElem?_cons_zero, List.getElem?_cons_succ] at c0 c1 c2 c3 c4 c5 c6
  rcases (by omega : u ≠ 0 ∨ (u = 0 ∧ a ≠ 0) ∨ (u = 0 ∧ a = 0 ∧ q ≠ 0) ∨ (u = 0 ∧ a = 0 ∧ q = 0)) with h | ⟨rfl, h⟩ | ⟨rfl, rfl, h⟩ | ⟨rfl, rfl, rfl⟩
  · have hb : (u != 0) = true := by simp [h]
    have hR2 : Hid (R = false) := Lib.hid (hR.out.trans (by simp [hb]))
    have hc : ¬ u = 0 := by omega
    clear h hb hR
    go_wp2
    all_goals first | (exfalso; omega) | (go_ret; exact ⟨by rw [hR2.out]; first | rfl | simp, hbw2⟩)
  · have hb : (a != 0) = true := by simp [h]
    have hR2 : Hid (R = false) := Lib.hid (hR.out.trans (by simp [hb]))
    have hc : ¬ (a : Int) = 0 := by omega
    clear h hb hR
    go_wp2
    all_goals first | (exfalso; omega) | (go_ret; exact ⟨by rw [hR2.out]; first | rfl | simp, hbw2⟩)
  · have hb : (q != 0) = true := by simp [h]
    have hR2 : Hid (R = false) := Lib.hid (hR.out.trans (by simp [hb]))
    have hc : ¬ (q : Int) = 0 := by omega
    clear h hb hR
    go_wp2
    all_goals first | (exfalso; omega) | (go_ret; exact ⟨by rw [hR2.out]; first | rfl | simp, hbw2⟩)
  · rcases hmx : mx with _ | _
    · subst hmx
      by_cases hz : mi = 0
      · have hz1 : ((mi : Int) == 0) = true := by simp [hz]
        have HZ := Lib.hid hz
        clear hz
        go_wp2
        go_ret
        exact ⟨by have e2 := HZ.out;  rw [hR.out]; by_cases hy : yo = 0 <;> simp [e2, hy, beq_cast], hbw2⟩
      · have hz1 : ((mi : Int) == 0) = false := beq_eq_false_iff_ne.2 (by omega)
        have HZ := Lib.hid hz
        clear hz
        go_wp2
        go_ret
        exact ⟨by have e2 := HZ.out;  rw [hR.out]; simp [e2], hbw2⟩
    · subst hmx
      have hR2 : Hid (R = false) := Lib.hid (hR.out.trans (by simp))
      clear hR
      go_wp2
      go_ret
      exact ⟨by rw [hR2.out]; first | rfl | simp, hbw2⟩

theorem rightM_any (m : MsgV) (w : World) : Calls Try.prog 11 #[m.val] w fun e w' => e = .returned (.bool (okM m)) ∧ Below w.heap.size w w' := by
  obtain ⟨k, u, a, q, mx, mi, yo⟩ := m
  by_cases h1 : k < 1 ∨ 13 < k
  · rw [show okM ⟨k, u, a, q, mx, mi, yo⟩ = false from if_pos h1]
    exact right_none k u a q mx mi yo w h1 _ (Lib.hid rfl)
  · by_cases h2 : k ≤ 11
    · have e : okM ⟨k, u, a, q, mx, mi, yo⟩ = (okL u q && ((k == 9 || !mx) && (mi == 0 && yo == 0))) := by unfold okM; rw [if_neg h1, if_pos h2]
      rw [e]
      by_cases h9 : k = 9
      · subst h9
        exact right_nine u a q mx mi yo w _ (Lib.hid (by simp))
      · rw [beq_eq_false_iff_ne.2 h9, Bool.false_or]
        exact right_luw k u a q mx mi yo w (by omega) h2 h9 _ (Lib.hid rfl)
    · have e : okM ⟨k, u, a, q, mx, mi, yo⟩ = (if (u != 0 || (a != 0 || (q != 0 || mx))) then false else if k = 12 then mi != 0 else (mi == 0 && yo == 0)) := by unfold okM; rw [if_neg h1, if_neg h2]
      rw [e]
      by_cases h12 : k = 12
      · subst h12
        exact right_names u a q mx mi yo w _ (Lib.hid (by simp))
      · obtain rfl : k = 13 := by omega
        exact right_refuse u a q mx mi yo w _ (Lib.hid (by simp))
end Go.Proofs.Yteniponkakaaaaa
