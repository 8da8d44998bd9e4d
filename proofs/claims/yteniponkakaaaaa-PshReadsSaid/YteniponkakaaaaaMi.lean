/- Which messages are right: the document's Right. -/
import Derived.Test.YteniponkakaaaaaMf
namespace Go.Proofs.Yteniponkakaaaaa
open Go.RowKit
set_option linter.unusedVariables false
set_option linter.unusedSimpArgs false

set_option maxHeartbeats 1000000 in
theorem rright_none (k u : Int) (a q : Nat) (mx : Bool) (mi yo : Nat) (w : World) (h : k < 1 ∨ 13 < k) (R : Bool) (hR : Hid (R = (false))) : Calls Try.prog 12 #[.agg #[.int .i64 k, .int .i64 u, .int .u32 a, .int .u32 q, .bool mx, .int .u32 mi, .int .u32 yo]] w fun e w' => e = .returned (.bool R) ∧ Below w.heap.size w w' := by
  have HR2 := hR
  have hlo : k < 1 ∨ 13 < k := h
  have kb0 := Blk.new w 26 #[.int .i64 k, .int .i64 u, .int .u32 a, .int .u32 q, .bool mx, .int .u32 mi, .int .u32 yo]
  have hbw0 := ba w (.cells #[.int .i64 k, .int .i64 u, .int .u32 a, .int .u32 q, .bool mx, .int .u32 mi, .int .u32 yo] 26)
  have c0 := (kb0).cell 0
  have c1 := (kb0).cell 1
  have c2 := (kb0).cell 2
  have c3 := (kb0).cell 3
  have c4 := (kb0).cell 4
  have c5 := (kb0).cell 5
  have c6 := (kb0).cell 6
  simp only [List.getElem?_toArray, List.getElem?_cons_zero, List.getElem?_cons_succ] at c0 c1 c2 c3 c4 c5 c6
  go_enter Try.func12, Try.ntmps12
  rcases h with h | h
  · go_wp2
    go_ret
    exact ⟨by rw [hR.out]; rfl, hbw0⟩
  · have h1 : ¬ k < 1 := by omega
    go_wp2
    go_ret
    exact ⟨by rw [hR.out]; rfl, hbw0⟩

set_option maxHeartbeats 1000000 in
theorem rright_nine (u : Int) (a q : Nat) (mx : Bool) (mi yo : Nat) (w : World)  (R : Bool) (hR : Hid (R = (okL u q && (mi == 0 && yo == 0)))) : Calls Try.prog 12 #[.agg #[.int .i64 9, .int .i64 u, .int .u32 a, .int .u32 q, .bool mx, .int .u32 mi, .int .u32 yo]] w fun e w' => e = .returned (.bool R) ∧ Below w.heap.size w w' := by
  have kb0 := Blk.new w 26 #[.int .i64 9, .int .i64 u, .int .u32 a, .int .u32 q, .bool mx, .int .u32 mi, .int .u32 yo]
  have hbw0 := ba w (.cells #[.int .i64 9, .int .i64 u, .int .u32 a, .int .u32 q, .bool mx, .int .u32 mi, .int .u32 yo] 26)
  have c0 := (kb0).cell 0
  have c1 := (kb0).cell 1
  have c2 := (kb0).cell 2
  have c3 := (kb0).cell 3
  have c4 := (kb0).cell 4
  have c5 := (kb0).cell 5
  have c6 := (kb0).cell 6
  simp only [List.getElem?_toArray, List.getElem?_cons_zero, List.getElem?_cons_succ] at c0 c1 c2 c3 c4 c5 c6
  go_enter Try.func12, Try.ntmps12
  have hr := fun w => refright_any u a q w
  unfold lv at hr
  rcases hk : okL u q with _ | _
  · have HK := Lib.hid hk
    rw [hk] at hr
    clear hk
    go_wp2_with fail
    refine (hr _).mono ?_
    rintro e w2 ⟨rfl, hb2⟩
    have kb3 := kb0.below hb2 kb0.lt
    have hbw3 := bt hbw0 hb2
    clear c0 c1 c2 c3 c4 c5 c6
    have c0 := (kb3).cell 0
    have c1 := (kb3).cell 1
    have c2 := (kb3).cell 2
    have c3 := (kb3).cell 3
    have c4 := (kb3).cell 4
    have c5 := (kb3).cell 5
    have c6 := (kb3).cell 6
    simp only [List.getElem?_toArray, List.getElem?_cons_zero, List.getElem?_cons_succ] at c0 c1 c2 c3 c4 c5 c6
    go_wp2
    go_ret
    exact ⟨by have e1 := HK.out; rw [hR.out]; simp [e1], hbw3⟩
  · have HK := Lib.hid hk
    rw [hk] at hr
    clear hk
    go_wp2_with fail
    refine (hr _).mono ?_
    rintro e w2 ⟨rfl, hb2⟩
    have kb3 := kb0.below hb2 kb0.lt
    have hbw3 := bt hbw0 hb2
    clear c0 c1 c2 c3 c4 c5 c6
    have c0 := (kb3).cell 0
    have c1 := (kb3).cell 1
    have c2 := (kb3).cell 2
    have c3 := (kb3).cell 3
    have c4 := (kb3).cell 4
    have c5 := (kb3).cell 5
    have c6 := (kb3).cell 6
    simp only [List.getElem?_toArray, List.getElem?_cons_zero, List.getElem?_cons_succ] at c0 c1 c2 c3 c4 c5 c6
    by_cases hz : mi = 0
    · have hz1 : ((mi : Int) == 0) = true := by simp [hz]
      have HZ := Lib.hid hz
      clear hz
      go_wp2
      go_ret
      exact ⟨by have e2 := HZ.out; have e1 := HK.out; rw [hR.out]; by_cases hy : yo = 0 <;> simp [e2, hy, beq_cast, e1], hbw3⟩
    · have hz1 : ((mi : Int) == 0) = false := beq_eq_false_iff_ne.2 (by omega)
      have HZ := Lib.hid hz
      clear hz
      go_wp2
      go_ret
      exact ⟨by have e2 := HZ.out; have e1 := HK.out; rw [hR.out]; simp [e2, e1], hbw3⟩

set_option maxHeartbeats 1000000 in
theorem rright_luw (k u : Int) (a q : Nat) (mx : Bool) (mi yo : Nat) (w : World) (hk1 : 1 ≤ k) (hk2 : k ≤ 11) (hk9 : k ≠ 9) (R : Bool) (hR : Hid (R = (okL u q && (!mx && (mi == 0 && yo == 0))))) : Calls Try.prog 12 #[.agg #[.int .i64 k, .int .i64 u, .int .u32 a, .int .u32 q, .bool mx, .int .u32 mi, .int .u32 yo]] w fun e w' => e = .returned (.bool R) ∧ Below w.heap.size w w' := by
  have b1 : ¬ k < 1 := by omega
  have b2 : k < 12 := by omega
  have b3 : (k == 9) = false := beq_eq_false_iff_ne.2 hk9
  clear hk9
  have kb0 := Blk.new w 26 #[.int .i64 k, .int .i64 u, .int .u32 a, .int .u32 q, .bool mx, .int .u32 mi, .int .u32 yo]
  have hbw0 := ba w (.cells #[.int .i64 k, .int .i64 u, .int .u32 a, .int .u32 q, .bool mx, .int .u32 mi, .int .u32 yo] 26)
  have c0 := (kb0).cell 0
  have c1 := (kb0).cell 1
  have c2 := (kb0).cell 2
  have c3 := (kb0).cell 3
  have c4 := (kb0).cell 4
  have c5 := (kb0).cell 5
  have c6 := (kb0).cell 6
  simp only [List.getElem?_toArray, List.getElem?_cons_zero, List.getElem?_cons_succ] at c0 c1 c2 c3 c4 c5 c6
  go_enter Try.func12, Try.ntmps12
  have hr := fun w => refright_any u a q w
  unfold lv at hr
  rcases hk : okL u q with _ | _
  · have HK := Lib.hid hk
    rw [hk] at hr
    clear hk
    go_wp2_with fail
    refine (hr _).mono ?_
    rintro e w2 ⟨rfl, hb2⟩
    have kb3 := kb0.below hb2 kb0.lt
    have hbw3 := bt hbw0 hb2
    clear c0 c1 c2 c3 c4 c5 c6
    have c0 := (kb3).cell 0
    have c1 := (kb3).cell 1
    have c2 := (kb3).cell 2
    have c3 := (kb3).cell 3
    have c4 := (kb3).cell 4
    have c5 := (kb3).cell 5
    have c6 := (kb3).cell 6
    simp only [List.getElem?_toArray, List.getElem?_cons_zero, List.getElem?_cons_succ] at c0 c1 c2 c3 c4 c5 c6
    go_wp2
    go_ret
    exact ⟨by have e1 := HK.out; rw [hR.out]; simp [e1], hbw3⟩
  · have HK := Lib.hid hk
    rw [hk] at hr
    clear hk
    go_wp2_with fail
    refine (hr _).mono ?_
    rintro e w2 ⟨rfl, hb2⟩
    have kb3 := kb0.below hb2 kb0.lt
    have hbw3 := bt hbw0 hb2
    clear c0 c1 c2 c3 c4 c5 c6
    have c0 := (kb3).cell 0
    have c1 := (kb3).cell 1
    have c2 := (kb3).cell 2
    have c3 := (kb3).cell 3
    have c4 := (kb3).cell 4
    have c5 := (kb3).cell 5
    have c6 := (kb3).cell 6
    simp only [List.getElem?_toArray, List.getElem?_cons_zero, List.getElem?_cons_succ] at c0 c1 c2 c3 c4 c5 c6
    rcases hmx : mx with _ | _
    · subst hmx
      by_cases hz : mi = 0
      · have hz1 : ((mi : Int) == 0) = true := by simp [hz]
        have HZ := Lib.hid hz
        clear hz
        go_wp2
        go_ret
        exact ⟨by have e2 := HZ.out; have e1 := HK.out; rw [hR.out]; by_cases hy : yo = 0 <;> simp [e2, hy, beq_cast, e1], hbw3⟩
      · have hz1 : ((mi : Int) == 0) = false := beq_eq_false_iff_ne.2 (by omega)
        have HZ := Lib.hid hz
        clear hz
        go_wp2
        go_ret
        exact ⟨by have e2 := HZ.out; have e1 := HK.out; rw [hR.out]; simp [e2, e1], hbw3⟩
    · subst hmx
      go_wp2
      go_ret
      exact ⟨by rw [hR.out]; simp, hbw3⟩

set_option maxHeartbeats 1000000 in
theorem rright_names (u : Int) (a q : Nat) (mx : Bool) (mi yo : Nat) (w : World)  (R : Bool) (hR : Hid (R = (if (u != 0 || (a != 0 || (q != 0 || mx))) then false else mi != 0))) : Calls Try.prog 12 #[.agg #[.int .i64 12, .int .i64 u, .int .u32 a, .int .u32 q, .bool mx, .int .u32 mi, .int .u32 yo]] w fun e w' => e = .returned (.bool R) ∧ Below w.heap.size w w' := by
  have kb0 := Blk.new w 26 #[.int .i64 12, .int .i64 u, .int .u32 a, .int .u32 q, .bool mx, .int .u32 mi, .int .u32 yo]
  have hbw0 := ba w (.cells #[.int .i64 12, .int .i64 u, .int .u32 a, .int .u32 q, .bool mx, .int .u32 mi, .int .u32 yo] 26)
  have c0 := (kb0).cell 0
  have c1 := (kb0).cell 1
  have c2 := (kb0).cell 2
  have c3 := (kb0).cell 3
  have c4 := (kb0).cell 4
  have c5 := (kb0).cell 5
  have c6 := (kb0).cell 6
  simp only [List.getElem?_toArray, List.getElem?_cons_zero, List.getElem?_cons_succ] at c0 c1 c2 c3 c4 c5 c6
  go_enter Try.func12, Try.ntmps12
  rcases (by omega : u ≠ 0 ∨ (u = 0 ∧ a ≠ 0) ∨ (u = 0 ∧ a = 0 ∧ q ≠ 0) ∨ (u = 0 ∧ a = 0 ∧ q = 0)) with h | ⟨rfl, h⟩ | ⟨rfl, rfl, h⟩ | ⟨rfl, rfl, rfl⟩
  · have hb : (u != 0) = true := by simp [h]
    have hR2 : Hid (R = false) := Lib.hid (hR.out.trans (by simp [hb]))
    have hc : (u != 0) = true := bne_iff_ne.2 (by omega)
    clear h hb hR
    go_wp2
    all_goals first | (exfalso; omega) | (go_ret; exact ⟨by rw [hR2.out]; first | rfl | simp, hbw0⟩)
  · have hb : (a != 0) = true := by simp [h]
    have hR2 : Hid (R = false) := Lib.hid (hR.out.trans (by simp [hb]))
    have hc : ((a : Int) != 0) = true := bne_iff_ne.2 (by omega)
    clear h hb hR
    go_wp2
    all_goals first | (exfalso; omega) | (go_ret; exact ⟨by rw [hR2.out]; first | rfl | simp, hbw0⟩)
  · have hb : (q != 0) = true := by simp [h]
    have hR2 : Hid (R = false) := Lib.hid (hR.out.trans (by simp [hb]))
    have hc : ((q : Int) != 0) = true := bne_iff_ne.2 (by omega)
    clear h hb hR
    go_wp2
    all_goals first | (exfalso; omega) | (go_ret; exact ⟨by rw [hR2.out]; first | rfl | simp, hbw0⟩)
  · rcases hmx : mx with _ | _
    · subst hmx
      by_cases hz : mi = 0
      · have hz1 : ((mi : Int) != 0) = false := by simp [hz]
        have HZ := Lib.hid hz
        clear hz
        go_wp2
        go_ret
        exact ⟨by have e2 := HZ.out; rw [hR.out]; simp [e2], hbw0⟩
      · have hz1 : ((mi : Int) != 0) = true := by simp; omega
        have HZ := Lib.hid hz
        clear hz
        go_wp2
        go_ret
        exact ⟨by have e2 := HZ.out; rw [hR.out]; simp [e2], hbw0⟩
    · subst hmx
      have hR2 : Hid (R = false) := Lib.hid (hR.out.trans (by simp))
      clear hR
      go_wp2
      go_ret
      exact ⟨by rw [hR2.out]; first | rfl | simp, hbw0⟩

set_option maxHeartbeats 1000000 in
theorem rright_refuse (u : Int) (a q : Nat) (mx : Bool) (mi yo : Nat) (w : World)  (R : Bool) (hR : Hid (R = (if (u != 0 || (a != 0 || (q != 0 || mx))) then false else (mi == 0 && yo == 0)))) : Calls Try.prog 12 #[.agg #[.int .i64 13, .int .i64 u, .int .u32 a, .int .u32 q, .bool mx, .int .u32 mi, .int .u32 yo]] w fun e w' => e = .returned (.bool R) ∧ Below w.heap.size w w' := by
  have kb0 := Blk.new w 26 #[.int .i64 13, .int .i64 u, .int .u32 a, .int .u32 q, .bool mx, .int .u32 mi, .int .u32 yo]
  have hbw0 := ba w (.cells #[.int .i64 13, .int .i64 u, .int .u32 a, .int .u32 q, .bool mx, .int .u32 mi, .int .u32 yo] 26)
  have c0 := (kb0).cell 0
  have c1 := (kb0).cell 1
  have c2 := (kb0).cell 2
  have c3 := (kb0).cell 3
  have c4 := (kb0).cell 4
  have c5 := (kb0).cell 5
  have c6 := (kb0).cell 6
  simp only [List.getElem?_toArray, List.getElem?_cons_zero, List.getElem?_cons_succ] at c0 c1 c2 c3 c4 c5 c6
  go_enter Try.func12, Try.ntmps12
  rcases (by omega : u ≠ 0 ∨ (u = 0 ∧ a ≠ 0) ∨ (u = 0 ∧ a = 0 ∧ q ≠ 0) ∨ (u = 0 ∧ a = 0 ∧ q = 0)) with h | ⟨rfl, h⟩ | ⟨rfl, rfl, h⟩ | ⟨rfl, rfl, rfl⟩
  · have hb : (u != 0) = true := by simp [h]
    have hR2 : Hid (R = false) := Lib.hid (hR.out.trans (by simp [hb]))
    have hc : (u != 0) = true := bne_iff_ne.2 (by omega)
    clear h hb hR
    go_wp2
    all_goals first | (exfalso; omega) | (go_ret; exact ⟨by rw [hR2.out]; first | rfl | simp, hbw0⟩)
  · have hb : (a != 0) = true := by simp [h]
    have hR2 : Hid (R = false) := Lib.hid (hR.out.trans (by simp [hb]))
    have hc : ((a : Int) != 0) = true := bne_iff_ne.2 (by omega)
    clear h hb hR
    go_wp2
    all_goals first | (exfalso; omega) | (go_ret; exact ⟨by rw [hR2.out]; first | rfl | simp, hbw0⟩)
  · have hb : (q != 0) = true := by simp [h]
    have hR2 : Hid (R = false) := Lib.hid (hR.out.trans (by simp [hb]))
    have hc : ((q : Int) != 0) = true := bne_iff_ne.2 (by omega)
    clear h hb hR
    go_wp2
    all_goals first | (exfalso; omega) | (go_ret; exact ⟨by rw [hR2.out]; first | rfl | simp, hbw0⟩)
  · rcases hmx : mx with _ | _
    · subst hmx
      by_cases hz : mi = 0
      · have hz1 : ((mi : Int) == 0) = true := by simp [hz]
        have HZ := Lib.hid hz
        clear hz
        go_wp2
        go_ret
        exact ⟨by have e2 := HZ.out; rw [hR.out]; by_cases hy : yo = 0 <;> simp [e2, hy, beq_cast], hbw0⟩
      · have hz1 : ((mi : Int) == 0) = false := beq_eq_false_iff_ne.2 (by omega)
        have HZ := Lib.hid hz
        clear hz
        go_wp2
        go_ret
        exact ⟨by have e2 := HZ.out; rw [hR.out]; simp [e2], hbw0⟩
    · subst hmx
      have hR2 : Hid (R = false) := Lib.hid (hR.out.trans (by simp))
      clear hR
      go_wp2
      go_ret
      exact ⟨by rw [hR2.out]; first | rfl | simp, hbw0⟩

theorem refrightM_any (m : MsgV) (w : World) : Calls Try.prog 12 #[m.val] w fun e w' => e = .returned (.bool (okM m)) ∧ Below w.heap.size w w' := by
  obtain ⟨k, u, a, q, mx, mi, yo⟩ := m
  by_cases h1 : k < 1 ∨ 13 < k
  · rw [show okM ⟨k, u, a, q, mx, mi, yo⟩ = false from if_pos h1]
    exact rright_none k u a q mx mi yo w h1 _ (Lib.hid rfl)
  · by_cases h2 : k ≤ 11
    · have e : okM ⟨k, u, a, q, mx, mi, yo⟩ = (okL u q && ((k == 9 || !mx) && (mi == 0 && yo == 0))) := by unfold okM; rw [if_neg h1, if_pos h2]
      rw [e]
      by_cases h9 : k = 9
      · subst h9
        exact rright_nine u a q mx mi yo w _ (Lib.hid (by simp))
      · rw [beq_eq_false_iff_ne.2 h9, Bool.false_or]
        exact rright_luw k u a q mx mi yo w (by omega) h2 h9 _ (Lib.hid rfl)
    · have e : okM ⟨k, u, a, q, mx, mi, yo⟩ = (if (u != 0 || (a != 0 || (q != 0 || mx))) then false else if k = 12 then mi != 0 else (mi == 0 && yo == 0)) := by unfold okM; rw [if_neg h1, if_neg h2]
      rw [e]
      by_cases h12 : k = 12
      · subst h12
        exact rright_names u a q mx mi yo w _ (Lib.hid (by simp))
      · obtain rfl : k = 13 := by omega
        exact rright_refuse u a q mx mi yo w _ (Lib.hid (by simp))
end Go.Proofs.Yteniponkakaaaaa
