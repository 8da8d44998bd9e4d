/- The laws on the order of names. -/
import Derived.Test.YtmdogmmmjopibaaLh
import Derived.Test.YtmdogmmmjopibaaOpenL
namespace Go.Proofs.Ytmdogmmmjopibaa
open Go.RowKit
set_option linter.unusedVariables false
set_option linter.unusedSimpArgs false

theorem less_trans {u v x : Int} {a b c q r s : Nat} (h1 : lessL u v a b q r = true) (h2 : lessL v x b c r s = true) : lessL u x a c q s = true := by
  unfold lessL at *
  split at h1 <;> split at h2 <;> split <;> (try split at h1) <;> (try split at h2) <;> (try split) <;> simp at * <;> omega
theorem less_self (u : Int) (a q : Nat) : lessL u u a a q q = false := by rw [lessL_q]; simp
theorem less_both {u v : Int} {a b q r : Nat} (h1 : lessL u v a b q r = true) : lessL v u b a r q = false := by
  cases h : lessL v u b a r q
  · rfl
  · have := less_trans h1 h; rw [less_self] at this; cases this
theorem less_next (u : Int) (a q : Nat) : lessL u u a a q (q + 1) = true := by rw [lessL_q]; simp
theorem less_gap {u v : Int} {a b q r : Nat} (h1 : lessL u v a b q r = true) (h2 : lessL v u b a r (q + 1) = true) : False := by
  unfold lessL at *
  split at h1 <;> split at h2 <;> (try split at h1) <;> (try split at h2) <;> simp at * <;> omega
def lwo (u : Int) (a q : Nat) : Obj := .cells #[.int .i64 u, .int .u32 a, .int .u32 q] 24

set_option maxHeartbeats 1000000 in
theorem luwNext_walk (o1 o2 : LuwV) (w : World) (h1 : LuwOk o1) (h2 : LuwOk o2) : Calls Try.prog 8 #[o1.val, o2.val] w fun e w' => e = .returned (.bool true) ∧ Below w.heap.size w w' := by
  obtain ⟨u, a, q⟩ := o1
  obtain ⟨v, b, r⟩ := o2
  obtain ⟨_, _, ha, hq⟩ := h1
  obtain ⟨_, _, hb, hr⟩ := h2
  unfold LuwV.val
  simp only at ha hq hb hr
  have hn := fun w => next_any u a q w hq
  unfold lv at hn
  have hl1 := fun w => less_any u u a a q (q + 1) w
  have hl2 := fun w => less_any u v a b q r w
  have hl3 := fun w => less_any v u b a r (q + 1) w
  have hrt := fun w => right_any u a q w
  rw [less_next] at hl1
  unfold lv at hl1 hl2 hl3 hrt
  unfold nextL at hn
  have kb1 := (Blk.new w 24 #[.int .i64 u, .int .u32 a, .int .u32 q]).alloc (.cells #[.int .i64 v, .int .u32 b, .int .u32 r] 24)
  have kb2 := (Blk.new (w.alloc (.cells #[.int .i64 u, .int .u32 a, .int .u32 q] 24)) 24 #[.int .i64 v, .int .u32 b, .int .u32 r])
  rw [show (w.alloc (.cells #[.int .i64 u, .int .u32 a, .int .u32 q] 24)).heap.size = w.heap.size + 1 by simp] at kb2
  have hb2 := ba2 w (.cells #[.int .i64 u, .int .u32 a, .int .u32 q] 24) (.cells #[.int .i64 v, .int .u32 b, .int .u32 r] 24)
  rcases hk : okL u q with _ | _
  · rw [hk] at hn hrt
    simp only [Bool.false_eq_true, if_false, lvE, lv] at hn
    clear hk
    go_enter Try.func8, Try.ntmps8
    go_wp2_with fail
    refine (hn _).mono ?_
    rintro e w1 ⟨rfl, hb3⟩
    have k1 := (kb1.below hb3 kb1.lt).alloc (.cells #[.int .i64 0, .int .u32 0, .int .u32 0] 24)
    have k2 := (kb2.below hb3 kb2.lt).alloc (.cells #[.int .i64 0, .int .u32 0, .int .u32 0] 24)
    have k3 := Blk.new w1 24 #[.int .i64 0, .int .u32 0, .int .u32 0]
    have hbw := bt hb2 (bt hb3 (ba w1 (.cells #[.int .i64 0, .int .u32 0, .int .u32 0] 24)))
    clear kb1 kb2 hb2 hb3
    go_wp2_with fail
    refine (alive_any _).mono ?_
    rintro e w2 ⟨rfl, hb4⟩
    have g1 := k1.below hb4 k1.lt
    have g2 := k2.below hb4 k2.lt
    have g3 := k3.below hb4 k3.lt
    have hbf := bt hbw hb4
    clear k1 k2 k3 hbw hb4
    have c0 := (g1).cell 0
    have c1 := (g1).cell 1
    have c2 := (g1).cell 2
    simp only [List.getElem?_toArray, List.getElem?_cons_zero, List.getElem?_cons_succ] at c0 c1 c2
    have d0 := (g3).cell 0
    have d1 := (g3).cell 1
    have d2 := (g3).cell 2
    simp only [List.getElem?_toArray, List.getElem?_cons_zero, List.getElem?_cons_succ] at d0 d1 d2
    go_wp2_with fail
    refine (hrt _).mono ?_
    rintro e w3 ⟨rfl, hb5⟩
    go_wp2
    go_ret
    exact ⟨by rfl, bt hbf hb5⟩
  · rw [hk] at hn hrt
    simp only [if_true] at hn
    clear hk
    by_cases hm : q = 4294967295
    · simp only [if_pos hm, lvE, lv] at hn
      clear hm
      go_enter Try.func8, Try.ntmps8
      go_wp2_with fail
      refine (hn _).mono ?_
      rintro e w1 ⟨rfl, hb3⟩
      have k1 := (kb1.below hb3 kb1.lt).alloc (.cells #[.int .i64 0, .int .u32 0, .int .u32 0] 24)
      have k2 := (kb2.below hb3 kb2.lt).alloc (.cells #[.int .i64 0, .int .u32 0, .int .u32 0] 24)
      have k3 := Blk.new w1 24 #[.int .i64 0, .int .u32 0, .int .u32 0]
      have hbw := bt hb2 (bt hb3 (ba w1 (.cells #[.int .i64 0, .int .u32 0, .int .u32 0] 24)))
      clear kb1 kb2 hb2 hb3
      go_wp2_with fail
      refine (alive_any _).mono ?_
      rintro e w2 ⟨rfl, hb4⟩
      have g1 := k1.below hb4 k1.lt
      have g2 := k2.below hb4 k2.lt
      have g3 := k3.below hb4 k3.lt
      have hbf := bt hbw hb4
      clear k1 k2 k3 hbw hb4
      have c0 := (g1).cell 0
      have c1 := (g1).cell 1
      have c2 := (g1).cell 2
      simp only [List.getElem?_toArray, List.getElem?_cons_zero, List.getElem?_cons_succ] at c0 c1 c2
      have d0 := (g3).cell 0
      have d1 := (g3).cell 1
      have d2 := (g3).cell 2
      simp only [List.getElem?_toArray, List.getElem?_cons_zero, List.getElem?_cons_succ] at d0 d1 d2
      go_wp2_with fail
      refine (hrt _).mono ?_
      rintro e w3 ⟨rfl, hb5⟩
      go_wp2
      go_ret
      exact ⟨by rfl, bt hbf hb5⟩
    · simp only [if_neg hm, lvE, lv] at hn
      clear hm
      go_enter Try.func8, Try.ntmps8
      go_wp2_with fail
      refine (hn _).mono ?_
      rintro e w1 ⟨rfl, hb3⟩
      have k1 := (kb1.below hb3 kb1.lt).alloc (.cells #[.int .i64 u, .int .u32 a, .int .u32 ((q + 1 : Nat) : Int)] 24)
      have k2 := (kb2.below hb3 kb2.lt).alloc (.cells #[.int .i64 u, .int .u32 a, .int .u32 ((q + 1 : Nat) : Int)] 24)
      have k3 := Blk.new w1 24 #[.int .i64 u, .int .u32 a, .int .u32 ((q + 1 : Nat) : Int)]
      have hbw := bt hb2 (bt hb3 (ba w1 (.cells #[.int .i64 u, .int .u32 a, .int .u32 ((q + 1 : Nat) : Int)] 24)))
      clear kb1 kb2 hb2 hb3
      go_wp2_with fail
      refine (alive_any _).mono ?_
      rintro e w2 ⟨rfl, hb4⟩
      have g1 := k1.below hb4 k1.lt
      have g2 := k2.below hb4 k2.lt
      have g3 := k3.below hb4 k3.lt
      have hbf := bt hbw hb4
      clear k1 k2 k3 hbw hb4
      have c0 := (g1).cell 0
      have c1 := (g1).cell 1
      have c2 := (g1).cell 2
      simp only [List.getElem?_toArray, List.getElem?_cons_zero, List.getElem?_cons_succ] at c0 c1 c2
      have d0 := (g3).cell 0
      have d1 := (g3).cell 1
      have d2 := (g3).cell 2
      simp only [List.getElem?_toArray, List.getElem?_cons_zero, List.getElem?_cons_succ] at d0 d1 d2
      have f0 := (g2).cell 0
      have f1 := (g2).cell 1
      have f2 := (g2).cell 2
      simp only [List.getElem?_toArray, List.getElem?_cons_zero, List.getElem?_cons_succ] at f0 f1 f2
      have hcs : lessL u v a b q r = false ∨ (lessL u v a b q r = true ∧ lessL v u b a r (q + 1) = false) := by
        cases h : lessL u v a b q r
        · exact .inl rfl
        · refine .inr ⟨rfl, ?_⟩
          cases h' : lessL v u b a r (q + 1)
          · rfl
          · exact (less_gap h h').elim
      go_wp2_with fail
      refine (hl1 _).mono ?_
      rintro e w3 ⟨rfl, hb5⟩
      have g4 := g1.below hb5 g1.lt
      have g5 := g2.below hb5 g2.lt
      have g6 := g3.below hb5 g3.lt
      have hbg := bt hbf hb5
      clear c0 c1 c2 d0 d1 d2 f0 f1 f2 g1 g2 g3 hbf hb5
      have c0 := (g4).cell 0
      have c1 := (g4).cell 1
      have c2 := (g4).cell 2
      simp only [List.getElem?_toArray, List.getElem?_cons_zero, List.getElem?_cons_succ] at c0 c1 c2
      have f0 := (g5).cell 0
      have f1 := (g5).cell 1
      have f2 := (g5).cell 2
      simp only [List.getElem?_toArray, List.getElem?_cons_zero, List.getElem?_cons_succ] at f0 f1 f2
      rcases hcs with hc | ⟨hc, hc'⟩
      · rw [hc] at hl2
        clear hc
        go_wp2_with fail
        refine (hl2 _).mono ?_
        rintro e w4 ⟨rfl, hb6⟩
        have g7 := g4.below hb6 g4.lt
        have g8 := g6.below hb6 g6.lt
        have hbh := bt hbg hb6
        clear c0 c1 c2 f0 f1 f2 g4 g5 g6 hbg hb6
        have c0 := (g7).cell 0
        have c1 := (g7).cell 1
        have c2 := (g7).cell 2
        simp only [List.getElem?_toArray, List.getElem?_cons_zero, List.getElem?_cons_succ] at c0 c1 c2
        have d0 := (g8).cell 0
        have d1 := (g8).cell 1
        have d2 := (g8).cell 2
        simp only [List.getElem?_toArray, List.getElem?_cons_zero, List.getElem?_cons_succ] at d0 d1 d2
        go_wp2
        go_ret
        exact ⟨by simp, hbh⟩
      · rw [hc] at hl2
        rw [hc'] at hl3
        clear hc hc'
        go_wp2_with fail
        refine (hl2 _).mono ?_
        rintro e w4 ⟨rfl, hb6⟩
        have g7 := g4.below hb6 g4.lt
        have g8 := g5.below hb6 g5.lt
        have g9 := g6.below hb6 g6.lt
        have hbh := bt hbg hb6
        clear c0 c1 c2 f0 f1 f2 g4 g5 g6 hbg hb6
        have c0 := (g8).cell 0
        have c1 := (g8).cell 1
        have c2 := (g8).cell 2
        simp only [List.getElem?_toArray, List.getElem?_cons_zero, List.getElem?_cons_succ] at c0 c1 c2
        have d0 := (g9).cell 0
        have d1 := (g9).cell 1
        have d2 := (g9).cell 2
        simp only [List.getElem?_toArray, List.getElem?_cons_zero, List.getElem?_cons_succ] at d0 d1 d2
        go_wp2_with fail
        refine (hl3 _).mono ?_
        rintro e w5 ⟨rfl, hb7⟩
        have g10 := g7.below hb7 g7.lt
        have g11 := g9.below hb7 g9.lt
        have hbi := bt hbh hb7
        clear c0 c1 c2 d0 d1 d2 g7 g8 g9 hbh hb7
        have c0 := (g10).cell 0
        have c1 := (g10).cell 1
        have c2 := (g10).cell 2
        simp only [List.getElem?_toArray, List.getElem?_cons_zero, List.getElem?_cons_succ] at c0 c1 c2
        have d0 := (g11).cell 0
        have d1 := (g11).cell 1
        have d2 := (g11).cell 2
        simp only [List.getElem?_toArray, List.getElem?_cons_zero, List.getElem?_cons_succ] at d0 d1 d2
        go_wp2
        go_ret
        exact ⟨by simp, hbi⟩
end Go.Proofs.Ytmdogmmmjopibaa
