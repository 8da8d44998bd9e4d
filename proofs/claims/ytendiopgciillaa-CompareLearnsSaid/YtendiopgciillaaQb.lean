/- Layer 18: the laws' walks. -/
import Derived.Test.YtendiopgciillaaQa
namespace Go.Proofs.Ytendiopgciillaa
open Go.RowKit
set_option linter.unusedVariables false
set_option linter.unusedSimpArgs false

set_option maxHeartbeats 1000000 in
theorem alive_any (w : World) : Calls Try.prog 13 #[] w fun e w' => e = .returned (.bool true) ∧ Below w.heap.size w w' := by
  have hbw := Below.refl w.heap.size w
  go_enter Try.func13, Try.ntmps13
  go_wp2_with fail
  refine (learn_any 7 4 5 true 0 rfl _).mono ?_
  rintro e w' ⟨rfl, rfl⟩
  go_wp2_with fail
  refine (answer_any 0 5 0 rfl _).mono ?_
  rintro e w' ⟨rfl, rfl⟩
  go_wp2_with fail
  refine (decide_any 1 true 0 7 rfl _).mono ?_
  rintro e w' ⟨rfl, rfl⟩
  go_wp2_with fail
  refine (name_any 3 _ (by decide) (by decide)).mono ?_
  rintro e v1 ⟨rfl, hb⟩
  have hbw := bt hbw hb
  clear hb
  rw [show nameB 3 = ⟨#[100, 111, 117, 98, 116]⟩ by decide]
  go_wp2
  go_ret
  exact ⟨rfl, hbw⟩

set_option maxHeartbeats 1000000 in
theorem compareLearns_walk (s o : Int) (w : World) (b1 : -9223372036854775808 ≤ s) (b2 : s ≤ 9223372036854775807) (b3 : -9223372036854775808 ≤ o) (b4 : o ≤ 9223372036854775807) : Calls Try.prog 3 #[.int .i64 s, .int .i64 o] w fun e w' => e = .returned (.bool true) ∧ Below w.heap.size w w' := by
  have hbw := Below.refl w.heap.size w
  clear b1 b2 b3 b4
  generalize hl : learnM s o = R
  obtain ⟨a, b, e⟩ := R
  generalize ha : answerM s = Q
  obtain ⟨x, g⟩ := Q
  go_enter Try.func3, Try.ntmps3
  go_wp2_with fail
  refine (learn_any s o a b e hl _).mono ?_
  rintro e w' ⟨rfl, rfl⟩
  go_wp2_with fail
  refine (reflearn_any s o a b e hl _).mono ?_
  rintro e w' ⟨rfl, rfl⟩
  go_wp2_with fail
  refine (answer_any s x g ha _).mono ?_
  rintro e w' ⟨rfl, rfl⟩
  go_wp2_with fail
  refine (refanswer_any s x g ha _).mono ?_
  rintro e w' ⟨rfl, rfl⟩
  go_wp2_with fail
  refine (alive_any _).mono ?_
  rintro e v1 ⟨rfl, hb⟩
  have hbw := bt hbw hb
  clear hb
  go_wp2
  go_ret
  exact ⟨rfl, hbw⟩

set_option maxHeartbeats 4000000 in
theorem compareDecides_walk (s : Int) (c : Bool) (w : World) (b1 : -9223372036854775808 ≤ s) (b2 : s ≤ 9223372036854775807) : Calls Try.prog 4 #[.int .i64 s, .bool c] w fun e w' => e = .returned (.bool true) ∧ Below w.heap.size w w' := by
  generalize hd : decideM s c = R
  obtain ⟨a, e⟩ := R
  have hn1 := fun w => name_any s w b1 b2
  have hn2 := fun w => refname_any s w b1 b2
  generalize hn : nameB s = nm at hn1 hn2
  clear hn b1 b2
  rcases (by omega : (s < 1 ∨ 3 < s) ∨ s = 1 ∨ s = 2 ∨ s = 3) with hs | rfl | rfl | rfl
  · have e1 : (s == 1) = false := beq_eq_false_iff_ne.2 (by omega)
    have e2 : (s == 2) = false := beq_eq_false_iff_ne.2 (by omega)
    have e3 : (s == 3) = false := beq_eq_false_iff_ne.2 (by omega)
    have ho : openB s = false := by simp [openB]; omega
    clear hs
    have hbw := Below.refl w.heap.size w
    go_enter Try.func4, Try.ntmps4
    go_wp2_with fail
    refine (decide_any s c a e hd _).mono ?_
    rintro e w' ⟨rfl, rfl⟩
    go_wp2_with fail
    refine (refdecide_any s c a e hd _).mono ?_
    rintro e w' ⟨rfl, rfl⟩
    go_wp2_with fail
    refine (alive_any _).mono ?_
    rintro e v1 ⟨rfl, hb⟩
    have hbw := bt hbw hb
    clear hb
    go_wp2_with fail
    refine (open_any s false ho _).mono ?_
    rintro e w' ⟨rfl, rfl⟩
    go_wp2_with fail
    refine (hn1 _).mono ?_
    rintro e v2 ⟨rfl, hb⟩
    have hbw := bt hbw hb
    clear hb
    go_wp2_with fail
    refine (hn2 _).mono ?_
    rintro e v3 ⟨rfl, hb⟩
    have hbw := bt hbw hb
    clear hb
    go_wp2
    go_ret
    exact ⟨rfl, hbw⟩
  · have ho : openB 1 = true := rfl
    have hbw := Below.refl w.heap.size w
    go_enter Try.func4, Try.ntmps4
    go_wp2_with fail
    refine (decide_any 1 c a e hd _).mono ?_
    rintro e w' ⟨rfl, rfl⟩
    go_wp2_with fail
    refine (refdecide_any 1 c a e hd _).mono ?_
    rintro e w' ⟨rfl, rfl⟩
    go_wp2_with fail
    refine (alive_any _).mono ?_
    rintro e v1 ⟨rfl, hb⟩
    have hbw := bt hbw hb
    clear hb
    go_wp2_with fail
    refine (open_any 1 true ho _).mono ?_
    rintro e w' ⟨rfl, rfl⟩
    go_wp2_with fail
    refine (hn1 _).mono ?_
    rintro e v2 ⟨rfl, hb⟩
    have hbw := bt hbw hb
    clear hb
    go_wp2_with fail
    refine (hn2 _).mono ?_
    rintro e v3 ⟨rfl, hb⟩
    have hbw := bt hbw hb
    clear hb
    go_wp2
    go_ret
    exact ⟨rfl, hbw⟩
  · have ho : openB 2 = true := rfl
    have hbw := Below.refl w.heap.size w
    go_enter Try.func4, Try.ntmps4
    go_wp2_with fail
    refine (decide_any 2 c a e hd _).mono ?_
    rintro e w' ⟨rfl, rfl⟩
    go_wp2_with fail
    refine (refdecide_any 2 c a e hd _).mono ?_
    rintro e w' ⟨rfl, rfl⟩
    go_wp2_with fail
    refine (alive_any _).mono ?_
    rintro e v1 ⟨rfl, hb⟩
    have hbw := bt hbw hb
    clear hb
    go_wp2_with fail
    refine (open_any 2 true ho _).mono ?_
    rintro e w' ⟨rfl, rfl⟩
    go_wp2_with fail
    refine (hn1 _).mono ?_
    rintro e v2 ⟨rfl, hb⟩
    have hbw := bt hbw hb
    clear hb
    go_wp2_with fail
    refine (hn2 _).mono ?_
    rintro e v3 ⟨rfl, hb⟩
    have hbw := bt hbw hb
    clear hb
    go_wp2
    go_ret
    exact ⟨rfl, hbw⟩
  · have ho : openB 3 = true := rfl
    have hbw := Below.refl w.heap.size w
    go_enter Try.func4, Try.ntmps4
    go_wp2_with fail
    refine (decide_any 3 c a e hd _).mono ?_
    rintro e w' ⟨rfl, rfl⟩
    go_wp2_with fail
    refine (refdecide_any 3 c a e hd _).mono ?_
    rintro e w' ⟨rfl, rfl⟩
    go_wp2_with fail
    refine (alive_any _).mono ?_
    rintro e v1 ⟨rfl, hb⟩
    have hbw := bt hbw hb
    clear hb
    go_wp2_with fail
    refine (open_any 3 true ho _).mono ?_
    rintro e w' ⟨rfl, rfl⟩
    go_wp2_with fail
    refine (hn1 _).mono ?_
    rintro e v2 ⟨rfl, hb⟩
    have hbw := bt hbw hb
    clear hb
    go_wp2_with fail
    refine (hn2 _).mono ?_
    rintro e v3 ⟨rfl, hb⟩
    have hbw := bt hbw hb
    clear hb
    go_wp2
    go_ret
    exact ⟨rfl, hbw⟩

set_option maxHeartbeats 8000000 in
theorem compareAgain_walk (s o : Int) (w : World) (b1 : -9223372036854775808 ≤ s) (b2 : s ≤ 9223372036854775807) (b3 : -9223372036854775808 ≤ o) (b4 : o ≤ 9223372036854775807) : Calls Try.prog 5 #[.int .i64 s, .int .i64 o] w fun e w' => e = .returned (.bool true) ∧ Below w.heap.size w w' := by
  clear b1 b2 b3 b4
  rcases st_cases s with ⟨hs, _⟩ | ⟨hs, _⟩ | hs
  · have hl : learnM s o = (0, false, 1) := by simp [learnM, hs]
    clear hs
    have hbw := Below.refl w.heap.size w
    go_enter Try.func5, Try.ntmps5
    go_wp2_with fail
    refine (learn_any s o 0 false 1 hl _).mono ?_
    rintro e w' ⟨rfl, rfl⟩
    go_wp2_with fail
    refine (alive_any _).mono ?_
    rintro e v1 ⟨rfl, hb⟩
    have hbw := bt hbw hb
    clear hb
    go_wp2
    go_ret
    exact ⟨rfl, hbw⟩
  · have hl : learnM s o = (0, false, 1) := by simp [learnM, hs]
    clear hs
    have hbw := Below.refl w.heap.size w
    go_enter Try.func5, Try.ntmps5
    go_wp2_with fail
    refine (learn_any s o 0 false 1 hl _).mono ?_
    rintro e w' ⟨rfl, rfl⟩
    go_wp2_with fail
    refine (alive_any _).mono ?_
    rintro e v1 ⟨rfl, hb⟩
    have hbw := bt hbw hb
    clear hb
    go_wp2
    go_ret
    exact ⟨rfl, hbw⟩
  · rcases out_cases o with ⟨ho, _⟩ | ⟨ho, _⟩ | ho
    · have hl : learnM s o = (0, false, 1) := by simp [learnM, ho]
      clear hs ho
      have hbw := Below.refl w.heap.size w
      go_enter Try.func5, Try.ntmps5
      go_wp2_with fail
      refine (learn_any s o 0 false 1 hl _).mono ?_
      rintro e w' ⟨rfl, rfl⟩
      go_wp2_with fail
      refine (alive_any _).mono ?_
      rintro e v1 ⟨rfl, hb⟩
      have hbw := bt hbw hb
      clear hb
      go_wp2
      go_ret
      exact ⟨rfl, hbw⟩
    · have hl : learnM s o = (0, false, 1) := by simp [learnM, ho]
      clear hs ho
      have hbw := Below.refl w.heap.size w
      go_enter Try.func5, Try.ntmps5
      go_wp2_with fail
      refine (learn_any s o 0 false 1 hl _).mono ?_
      rintro e w' ⟨rfl, rfl⟩
      go_wp2_with fail
      refine (alive_any _).mono ?_
      rintro e v1 ⟨rfl, hb⟩
      have hbw := bt hbw hb
      clear hb
      go_wp2
      go_ret
      exact ⟨rfl, hbw⟩
    · rcases hs with rfl | rfl | rfl | rfl | rfl | rfl | rfl | rfl
      · rcases ho with rfl | rfl
        · have hbw := Below.refl w.heap.size w
          go_enter Try.func5, Try.ntmps5
          go_wp2_with fail
          refine (learn_any 0 4 0 false 0 rfl _).mono ?_
          rintro e w' ⟨rfl, rfl⟩
          go_wp2_with fail
          refine (learn_any 0 4 0 false 0 rfl _).mono ?_
          rintro e w' ⟨rfl, rfl⟩
          go_wp2_with fail
          refine (alive_any _).mono ?_
          rintro e v1 ⟨rfl, hb⟩
          have hbw := bt hbw hb
          clear hb
          go_wp2_with fail
          refine (open_any 0 false rfl _).mono ?_
          rintro e w' ⟨rfl, rfl⟩
          go_wp2
          go_ret
          exact ⟨rfl, hbw⟩
        · have hbw := Below.refl w.heap.size w
          go_enter Try.func5, Try.ntmps5
          go_wp2_with fail
          refine (learn_any 0 5 0 false 0 rfl _).mono ?_
          rintro e w' ⟨rfl, rfl⟩
          go_wp2_with fail
          refine (learn_any 0 5 0 false 0 rfl _).mono ?_
          rintro e w' ⟨rfl, rfl⟩
          go_wp2_with fail
          refine (alive_any _).mono ?_
          rintro e v1 ⟨rfl, hb⟩
          have hbw := bt hbw hb
          clear hb
          go_wp2_with fail
          refine (open_any 0 false rfl _).mono ?_
          rintro e w' ⟨rfl, rfl⟩
          go_wp2
          go_ret
          exact ⟨rfl, hbw⟩
      · rcases ho with rfl | rfl
        · have hbw := Below.refl w.heap.size w
          go_enter Try.func5, Try.ntmps5
          go_wp2_with fail
          refine (learn_any 1 4 0 false 7 rfl _).mono ?_
          rintro e w' ⟨rfl, rfl⟩
          go_wp2_with fail
          refine (alive_any _).mono ?_
          rintro e v1 ⟨rfl, hb⟩
          have hbw := bt hbw hb
          clear hb
          go_wp2
          go_ret
          exact ⟨rfl, hbw⟩
        · have hbw := Below.refl w.heap.size w
          go_enter Try.func5, Try.ntmps5
          go_wp2_with fail
          refine (learn_any 1 5 5 false 0 rfl _).mono ?_
          rintro e w' ⟨rfl, rfl⟩
          go_wp2_with fail
          refine (learn_any 5 5 5 false 0 rfl _).mono ?_
          rintro e w' ⟨rfl, rfl⟩
          go_wp2_with fail
          refine (alive_any _).mono ?_
          rintro e v1 ⟨rfl, hb⟩
          have hbw := bt hbw hb
          clear hb
          go_wp2_with fail
          refine (open_any 5 false rfl _).mono ?_
          rintro e w' ⟨rfl, rfl⟩
          go_wp2
          go_ret
          exact ⟨rfl, hbw⟩
      · rcases ho with rfl | rfl
        · have hbw := Below.refl w.heap.size w
          go_enter Try.func5, Try.ntmps5
          go_wp2_with fail
          refine (learn_any 2 4 0 false 7 rfl _).mono ?_
          rintro e w' ⟨rfl, rfl⟩
          go_wp2_with fail
          refine (alive_any _).mono ?_
          rintro e v1 ⟨rfl, hb⟩
          have hbw := bt hbw hb
          clear hb
          go_wp2
          go_ret
          exact ⟨rfl, hbw⟩
        · have hbw := Below.refl w.heap.size w
          go_enter Try.func5, Try.ntmps5
          go_wp2_with fail
          refine (learn_any 2 5 5 false 0 rfl _).mono ?_
          rintro e w' ⟨rfl, rfl⟩
          go_wp2_with fail
          refine (learn_any 5 5 5 false 0 rfl _).mono ?_
          rintro e w' ⟨rfl, rfl⟩
          go_wp2_with fail
          refine (alive_any _).mono ?_
          rintro e v1 ⟨rfl, hb⟩
          have hbw := bt hbw hb
          clear hb
          go_wp2_with fail
          refine (open_any 5 false rfl _).mono ?_
          rintro e w' ⟨rfl, rfl⟩
          go_wp2
          go_ret
          exact ⟨rfl, hbw⟩
      · rcases ho with rfl | rfl
        · have hbw := Below.refl w.heap.size w
          go_enter Try.func5, Try.ntmps5
          go_wp2_with fail
          refine (learn_any 3 4 4 false 0 rfl _).mono ?_
          rintro e w' ⟨rfl, rfl⟩
          go_wp2_with fail
          refine (learn_any 4 4 4 false 0 rfl _).mono ?_
          rintro e w' ⟨rfl, rfl⟩
          go_wp2_with fail
          refine (alive_any _).mono ?_
          rintro e v1 ⟨rfl, hb⟩
          have hbw := bt hbw hb
          clear hb
          go_wp2_with fail
          refine (open_any 4 false rfl _).mono ?_
          rintro e w' ⟨rfl, rfl⟩
          go_wp2
          go_ret
          exact ⟨rfl, hbw⟩
        · have hbw := Below.refl w.heap.size w
          go_enter Try.func5, Try.ntmps5
          go_wp2_with fail
          refine (learn_any 3 5 5 false 0 rfl _).mono ?_
          rintro e w' ⟨rfl, rfl⟩
          go_wp2_with fail
          refine (learn_any 5 5 5 false 0 rfl _).mono ?_
          rintro e w' ⟨rfl, rfl⟩
          go_wp2_with fail
          refine (alive_any _).mono ?_
          rintro e v1 ⟨rfl, hb⟩
          have hbw := bt hbw hb
          clear hb
          go_wp2_with fail
          refine (open_any 5 false rfl _).mono ?_
          rintro e w' ⟨rfl, rfl⟩
          go_wp2
          go_ret
          exact ⟨rfl, hbw⟩
      · rcases ho with rfl | rfl
        · have hbw := Below.refl w.heap.size w
          go_enter Try.func5, Try.ntmps5
          go_wp2_with fail
          refine (learn_any 4 4 4 false 0 rfl _).mono ?_
          rintro e w' ⟨rfl, rfl⟩
          go_wp2_with fail
          refine (learn_any 4 4 4 false 0 rfl _).mono ?_
          rintro e w' ⟨rfl, rfl⟩
          go_wp2_with fail
          refine (alive_any _).mono ?_
          rintro e v1 ⟨rfl, hb⟩
          have hbw := bt hbw hb
          clear hb
          go_wp2_with fail
          refine (open_any 4 false rfl _).mono ?_
          rintro e w' ⟨rfl, rfl⟩
          go_wp2
          go_ret
          exact ⟨rfl, hbw⟩
        · have hbw := Below.refl w.heap.size w
          go_enter Try.func5, Try.ntmps5
          go_wp2_with fail
          refine (learn_any 4 5 4 true 0 rfl _).mono ?_
          rintro e w' ⟨rfl, rfl⟩
          go_wp2_with fail
          refine (learn_any 4 5 4 true 0 rfl _).mono ?_
          rintro e w' ⟨rfl, rfl⟩
          go_wp2_with fail
          refine (alive_any _).mono ?_
          rintro e v1 ⟨rfl, hb⟩
          have hbw := bt hbw hb
          clear hb
          go_wp2_with fail
          refine (open_any 4 false rfl _).mono ?_
          rintro e w' ⟨rfl, rfl⟩
          go_wp2
          go_ret
          exact ⟨rfl, hbw⟩
      · rcases ho with rfl | rfl
        · have hbw := Below.refl w.heap.size w
          go_enter Try.func5, Try.ntmps5
          go_wp2_with fail
          refine (learn_any 5 4 5 true 0 rfl _).mono ?_
          rintro e w' ⟨rfl, rfl⟩
          go_wp2_with fail
          refine (learn_any 5 4 5 true 0 rfl _).mono ?_
          rintro e w' ⟨rfl, rfl⟩
          go_wp2_with fail
          refine (alive_any _).mono ?_
          rintro e v1 ⟨rfl, hb⟩
          have hbw := bt hbw hb
          clear hb
          go_wp2_with fail
          refine (open_any 5 false rfl _).mono ?_
          rintro e w' ⟨rfl, rfl⟩
          go_wp2
          go_ret
          exact ⟨rfl, hbw⟩
        · have hbw := Below.refl w.heap.size w
          go_enter Try.func5, Try.ntmps5
          go_wp2_with fail
          refine (learn_any 5 5 5 false 0 rfl _).mono ?_
          rintro e w' ⟨rfl, rfl⟩
          go_wp2_with fail
          refine (learn_any 5 5 5 false 0 rfl _).mono ?_
          rintro e w' ⟨rfl, rfl⟩
          go_wp2_with fail
          refine (alive_any _).mono ?_
          rintro e v1 ⟨rfl, hb⟩
          have hbw := bt hbw hb
          clear hb
          go_wp2_with fail
          refine (open_any 5 false rfl _).mono ?_
          rintro e w' ⟨rfl, rfl⟩
          go_wp2
          go_ret
          exact ⟨rfl, hbw⟩
      · rcases ho with rfl | rfl
        · have hbw := Below.refl w.heap.size w
          go_enter Try.func5, Try.ntmps5
          go_wp2_with fail
          refine (learn_any 6 4 4 false 0 rfl _).mono ?_
          rintro e w' ⟨rfl, rfl⟩
          go_wp2_with fail
          refine (learn_any 4 4 4 false 0 rfl _).mono ?_
          rintro e w' ⟨rfl, rfl⟩
          go_wp2_with fail
          refine (alive_any _).mono ?_
          rintro e v1 ⟨rfl, hb⟩
          have hbw := bt hbw hb
          clear hb
          go_wp2_with fail
          refine (open_any 4 false rfl _).mono ?_
          rintro e w' ⟨rfl, rfl⟩
          go_wp2
          go_ret
          exact ⟨rfl, hbw⟩
        · have hbw := Below.refl w.heap.size w
          go_enter Try.func5, Try.ntmps5
          go_wp2_with fail
          refine (learn_any 6 5 4 true 0 rfl _).mono ?_
          rintro e w' ⟨rfl, rfl⟩
          go_wp2_with fail
          refine (learn_any 4 5 4 true 0 rfl _).mono ?_
          rintro e w' ⟨rfl, rfl⟩
          go_wp2_with fail
          refine (alive_any _).mono ?_
          rintro e v1 ⟨rfl, hb⟩
          have hbw := bt hbw hb
          clear hb
          go_wp2_with fail
          refine (open_any 4 false rfl _).mono ?_
          rintro e w' ⟨rfl, rfl⟩
          go_wp2
          go_ret
          exact ⟨rfl, hbw⟩
      · rcases ho with rfl | rfl
        · have hbw := Below.refl w.heap.size w
          go_enter Try.func5, Try.ntmps5
          go_wp2_with fail
          refine (learn_any 7 4 5 true 0 rfl _).mono ?_
          rintro e w' ⟨rfl, rfl⟩
          go_wp2_with fail
          refine (learn_any 5 4 5 true 0 rfl _).mono ?_
          rintro e w' ⟨rfl, rfl⟩
          go_wp2_with fail
          refine (alive_any _).mono ?_
          rintro e v1 ⟨rfl, hb⟩
          have hbw := bt hbw hb
          clear hb
          go_wp2_with fail
          refine (open_any 5 false rfl _).mono ?_
          rintro e w' ⟨rfl, rfl⟩
          go_wp2
          go_ret
          exact ⟨rfl, hbw⟩
        · have hbw := Below.refl w.heap.size w
          go_enter Try.func5, Try.ntmps5
          go_wp2_with fail
          refine (learn_any 7 5 5 false 0 rfl _).mono ?_
          rintro e w' ⟨rfl, rfl⟩
          go_wp2_with fail
          refine (learn_any 5 5 5 false 0 rfl _).mono ?_
          rintro e w' ⟨rfl, rfl⟩
          go_wp2_with fail
          refine (alive_any _).mono ?_
          rintro e v1 ⟨rfl, hb⟩
          have hbw := bt hbw hb
          clear hb
          go_wp2_with fail
          refine (open_any 5 false rfl _).mono ?_
          rintro e w' ⟨rfl, rfl⟩
          go_wp2
          go_ret
          exact ⟨rfl, hbw⟩

set_option maxHeartbeats 8000000 in
theorem compareDamage_walk (c : Bool) (o : Int) (w : World) (b1 : -9223372036854775808 ≤ o) (b2 : o ≤ 9223372036854775807) : Calls Try.prog 6 #[.bool c, .int .i64 o] w fun e w' => e = .returned (.bool true) ∧ Below w.heap.size w w' := by
  clear b1 b2
  rcases out_cases o with ⟨_, ho⟩ | ⟨_, ho⟩ | rfl | rfl
  · have e4 : (o == 4) = false := beq_eq_false_iff_ne.2 (by omega)
    have e5 : (o == 5) = false := beq_eq_false_iff_ne.2 (by omega)
    have n4 : (o != 4) = true := by simp [bne, e4]
    have n5 : (o != 5) = true := by simp [bne, e5]
    clear ho
    have hbw := Below.refl w.heap.size w
    go_enter Try.func6, Try.ntmps6
    go_wp2_with fail
    refine (alive_any _).mono ?_
    rintro e v1 ⟨rfl, hb⟩
    have hbw := bt hbw hb
    clear hb
    go_wp2
    go_ret
    exact ⟨rfl, hbw⟩
  · have e4 : (o == 4) = false := beq_eq_false_iff_ne.2 (by omega)
    have e5 : (o == 5) = false := beq_eq_false_iff_ne.2 (by omega)
    have n4 : (o != 4) = true := by simp [bne, e4]
    have n5 : (o != 5) = true := by simp [bne, e5]
    clear ho
    have hbw := Below.refl w.heap.size w
    go_enter Try.func6, Try.ntmps6
    go_wp2_with fail
    refine (alive_any _).mono ?_
    rintro e v1 ⟨rfl, hb⟩
    have hbw := bt hbw hb
    clear hb
    go_wp2
    go_ret
    exact ⟨rfl, hbw⟩
  · cases c
    · have hbw := Below.refl w.heap.size w
      go_enter Try.func6, Try.ntmps6
      go_wp2_with fail
      refine (decide_any 3 false 7 0 rfl _).mono ?_
      rintro e w' ⟨rfl, rfl⟩
      go_wp2_with fail
      refine (learn_any 7 4 5 true 0 rfl _).mono ?_
      rintro e w' ⟨rfl, rfl⟩
      go_wp2_with fail
      refine (learn_any 3 4 4 false 0 rfl _).mono ?_
      rintro e w' ⟨rfl, rfl⟩
      go_wp2_with fail
      refine (learn_any 4 4 4 false 0 rfl _).mono ?_
      rintro e w' ⟨rfl, rfl⟩
      go_wp2_with fail
      refine (alive_any _).mono ?_
      rintro e v1 ⟨rfl, hb⟩
      have hbw := bt hbw hb
      clear hb
      go_wp2
      go_ret
      exact ⟨rfl, hbw⟩
    · have hbw := Below.refl w.heap.size w
      go_enter Try.func6, Try.ntmps6
      go_wp2_with fail
      refine (decide_any 3 true 6 0 rfl _).mono ?_
      rintro e w' ⟨rfl, rfl⟩
      go_wp2_with fail
      refine (learn_any 6 4 4 false 0 rfl _).mono ?_
      rintro e w' ⟨rfl, rfl⟩
      go_wp2_with fail
      refine (learn_any 3 4 4 false 0 rfl _).mono ?_
      rintro e w' ⟨rfl, rfl⟩
      go_wp2_with fail
      refine (learn_any 4 4 4 false 0 rfl _).mono ?_
      rintro e w' ⟨rfl, rfl⟩
      go_wp2_with fail
      refine (alive_any _).mono ?_
      rintro e v1 ⟨rfl, hb⟩
      have hbw := bt hbw hb
      clear hb
      go_wp2
      go_ret
      exact ⟨rfl, hbw⟩
  · cases c
    · have hbw := Below.refl w.heap.size w
      go_enter Try.func6, Try.ntmps6
      go_wp2_with fail
      refine (decide_any 3 false 7 0 rfl _).mono ?_
      rintro e w' ⟨rfl, rfl⟩
      go_wp2_with fail
      refine (learn_any 7 5 5 false 0 rfl _).mono ?_
      rintro e w' ⟨rfl, rfl⟩
      go_wp2_with fail
      refine (learn_any 3 5 5 false 0 rfl _).mono ?_
      rintro e w' ⟨rfl, rfl⟩
      go_wp2_with fail
      refine (learn_any 5 5 5 false 0 rfl _).mono ?_
      rintro e w' ⟨rfl, rfl⟩
      go_wp2_with fail
      refine (alive_any _).mono ?_
      rintro e v1 ⟨rfl, hb⟩
      have hbw := bt hbw hb
      clear hb
      go_wp2
      go_ret
      exact ⟨rfl, hbw⟩
    · have hbw := Below.refl w.heap.size w
      go_enter Try.func6, Try.ntmps6
      go_wp2_with fail
      refine (decide_any 3 true 6 0 rfl _).mono ?_
      rintro e w' ⟨rfl, rfl⟩
      go_wp2_with fail
      refine (learn_any 6 5 4 true 0 rfl _).mono ?_
      rintro e w' ⟨rfl, rfl⟩
      go_wp2_with fail
      refine (learn_any 3 5 5 false 0 rfl _).mono ?_
      rintro e w' ⟨rfl, rfl⟩
      go_wp2_with fail
      refine (learn_any 5 5 5 false 0 rfl _).mono ?_
      rintro e w' ⟨rfl, rfl⟩
      go_wp2_with fail
      refine (alive_any _).mono ?_
      rintro e v1 ⟨rfl, hb⟩
      have hbw := bt hbw hb
      clear hb
      go_wp2
      go_ret
      exact ⟨rfl, hbw⟩

set_option maxHeartbeats 8000000 in
theorem compareAsked_walk (s : Int) (w : World) (b1 : -9223372036854775808 ≤ s) (b2 : s ≤ 9223372036854775807) : Calls Try.prog 7 #[.int .i64 s] w fun e w' => e = .returned (.bool true) ∧ Below w.heap.size w w' := by
  clear b1 b2
  rcases st_cases s with ⟨hs, _⟩ | ⟨hs, _⟩ | hs
  · have ha : answerM s = (0, 1) := by simp [answerM, hs]
    clear hs
    have hbw := Below.refl w.heap.size w
    go_enter Try.func7, Try.ntmps7
    go_wp2_with fail
    refine (answer_any s 0 1 ha _).mono ?_
    rintro e w' ⟨rfl, rfl⟩
    go_wp2_with fail
    refine (alive_any _).mono ?_
    rintro e v1 ⟨rfl, hb⟩
    have hbw := bt hbw hb
    clear hb
    go_wp2
    go_ret
    exact ⟨rfl, hbw⟩
  · have ha : answerM s = (0, 1) := by simp [answerM, hs]
    clear hs
    have hbw := Below.refl w.heap.size w
    go_enter Try.func7, Try.ntmps7
    go_wp2_with fail
    refine (answer_any s 0 1 ha _).mono ?_
    rintro e w' ⟨rfl, rfl⟩
    go_wp2_with fail
    refine (alive_any _).mono ?_
    rintro e v1 ⟨rfl, hb⟩
    have hbw := bt hbw hb
    clear hb
    go_wp2
    go_ret
    exact ⟨rfl, hbw⟩
  · rcases hs with rfl | rfl | rfl | rfl | rfl | rfl | rfl | rfl
    · have hbw := Below.refl w.heap.size w
      go_enter Try.func7, Try.ntmps7
      go_wp2_with fail
      refine (answer_any 0 5 0 rfl _).mono ?_
      rintro e w' ⟨rfl, rfl⟩
      go_wp2_with fail
      refine (learn_any 3 5 5 false 0 rfl _).mono ?_
      rintro e w' ⟨rfl, rfl⟩
      go_wp2_with fail
      refine (learn_any 0 5 0 false 0 rfl _).mono ?_
      rintro e w' ⟨rfl, rfl⟩
      go_wp2_with fail
      refine (alive_any _).mono ?_
      rintro e v1 ⟨rfl, hb⟩
      have hbw := bt hbw hb
      clear hb
      go_wp2
      go_ret
      exact ⟨rfl, hbw⟩
    · have hbw := Below.refl w.heap.size w
      go_enter Try.func7, Try.ntmps7
      go_wp2_with fail
      refine (answer_any 1 0 0 rfl _).mono ?_
      rintro e w' ⟨rfl, rfl⟩
      go_wp2_with fail
      refine (alive_any _).mono ?_
      rintro e v1 ⟨rfl, hb⟩
      have hbw := bt hbw hb
      clear hb
      go_wp2_with fail
      refine (open_any 1 true rfl _).mono ?_
      rintro e w' ⟨rfl, rfl⟩
      go_wp2
      go_ret
      exact ⟨rfl, hbw⟩
    · have hbw := Below.refl w.heap.size w
      go_enter Try.func7, Try.ntmps7
      go_wp2_with fail
      refine (answer_any 2 0 0 rfl _).mono ?_
      rintro e w' ⟨rfl, rfl⟩
      go_wp2_with fail
      refine (alive_any _).mono ?_
      rintro e v1 ⟨rfl, hb⟩
      have hbw := bt hbw hb
      clear hb
      go_wp2_with fail
      refine (open_any 2 true rfl _).mono ?_
      rintro e w' ⟨rfl, rfl⟩
      go_wp2
      go_ret
      exact ⟨rfl, hbw⟩
    · have hbw := Below.refl w.heap.size w
      go_enter Try.func7, Try.ntmps7
      go_wp2_with fail
      refine (answer_any 3 0 0 rfl _).mono ?_
      rintro e w' ⟨rfl, rfl⟩
      go_wp2_with fail
      refine (alive_any _).mono ?_
      rintro e v1 ⟨rfl, hb⟩
      have hbw := bt hbw hb
      clear hb
      go_wp2_with fail
      refine (open_any 3 true rfl _).mono ?_
      rintro e w' ⟨rfl, rfl⟩
      go_wp2
      go_ret
      exact ⟨rfl, hbw⟩
    · have hbw := Below.refl w.heap.size w
      go_enter Try.func7, Try.ntmps7
      go_wp2_with fail
      refine (answer_any 4 4 0 rfl _).mono ?_
      rintro e w' ⟨rfl, rfl⟩
      go_wp2_with fail
      refine (learn_any 3 4 4 false 0 rfl _).mono ?_
      rintro e w' ⟨rfl, rfl⟩
      go_wp2_with fail
      refine (learn_any 4 4 4 false 0 rfl _).mono ?_
      rintro e w' ⟨rfl, rfl⟩
      go_wp2_with fail
      refine (alive_any _).mono ?_
      rintro e v1 ⟨rfl, hb⟩
      have hbw := bt hbw hb
      clear hb
      go_wp2
      go_ret
      exact ⟨rfl, hbw⟩
    · have hbw := Below.refl w.heap.size w
      go_enter Try.func7, Try.ntmps7
      go_wp2_with fail
      refine (answer_any 5 5 0 rfl _).mono ?_
      rintro e w' ⟨rfl, rfl⟩
      go_wp2_with fail
      refine (learn_any 3 5 5 false 0 rfl _).mono ?_
      rintro e w' ⟨rfl, rfl⟩
      go_wp2_with fail
      refine (learn_any 5 5 5 false 0 rfl _).mono ?_
      rintro e w' ⟨rfl, rfl⟩
      go_wp2_with fail
      refine (alive_any _).mono ?_
      rintro e v1 ⟨rfl, hb⟩
      have hbw := bt hbw hb
      clear hb
      go_wp2
      go_ret
      exact ⟨rfl, hbw⟩
    · have hbw := Below.refl w.heap.size w
      go_enter Try.func7, Try.ntmps7
      go_wp2_with fail
      refine (answer_any 6 4 0 rfl _).mono ?_
      rintro e w' ⟨rfl, rfl⟩
      go_wp2_with fail
      refine (learn_any 3 4 4 false 0 rfl _).mono ?_
      rintro e w' ⟨rfl, rfl⟩
      go_wp2_with fail
      refine (learn_any 6 4 4 false 0 rfl _).mono ?_
      rintro e w' ⟨rfl, rfl⟩
      go_wp2_with fail
      refine (alive_any _).mono ?_
      rintro e v1 ⟨rfl, hb⟩
      have hbw := bt hbw hb
      clear hb
      go_wp2
      go_ret
      exact ⟨rfl, hbw⟩
    · have hbw := Below.refl w.heap.size w
      go_enter Try.func7, Try.ntmps7
      go_wp2_with fail
      refine (answer_any 7 5 0 rfl _).mono ?_
      rintro e w' ⟨rfl, rfl⟩
      go_wp2_with fail
      refine (learn_any 3 5 5 false 0 rfl _).mono ?_
      rintro e w' ⟨rfl, rfl⟩
      go_wp2_with fail
      refine (learn_any 7 5 5 false 0 rfl _).mono ?_
      rintro e w' ⟨rfl, rfl⟩
      go_wp2_with fail
      refine (alive_any _).mono ?_
      rintro e v1 ⟨rfl, hb⟩
      have hbw := bt hbw hb
      clear hb
      go_wp2
      go_ret
      exact ⟨rfl, hbw⟩

set_option maxHeartbeats 8000000 in
theorem compareHand_walk (s : Int) (c d : Bool) (o : Int) (w : World) (b1 : -9223372036854775808 ≤ s) (b2 : s ≤ 9223372036854775807) (b3 : -9223372036854775808 ≤ o) (b4 : o ≤ 9223372036854775807) : Calls Try.prog 8 #[.int .i64 s, .bool c, .bool d, .int .i64 o] w fun e w' => e = .returned (.bool true) ∧ Below w.heap.size w w' := by
  clear b1 b2 b3 b4
  rcases (by omega : s = 3 ∨ s ≠ 3) with rfl | h3
  · cases c
    · cases d
      · rcases out_cases o with ⟨ho, _⟩ | ⟨ho, _⟩ | rfl | rfl
        · have hl : learnM 7 o = (0, false, 1) := by simp [learnM, ho]
          clear ho
          have hbw := Below.refl w.heap.size w
          go_enter Try.func8, Try.ntmps8
          go_wp2_with fail
          refine (decide_any 3 false 7 0 rfl _).mono ?_
          rintro e w' ⟨rfl, rfl⟩
          go_wp2_with fail
          refine (decide_any 7 false 0 7 rfl _).mono ?_
          rintro e w' ⟨rfl, rfl⟩
          go_wp2_with fail
          refine (learn_any 7 o 0 false 1 hl _).mono ?_
          rintro e w' ⟨rfl, rfl⟩
          go_wp2_with fail
          refine (alive_any _).mono ?_
          rintro e v1 ⟨rfl, hb⟩
          have hbw := bt hbw hb
          clear hb
          go_wp2
          go_ret
          exact ⟨rfl, hbw⟩
        · have hl : learnM 7 o = (0, false, 1) := by simp [learnM, ho]
          clear ho
          have hbw := Below.refl w.heap.size w
          go_enter Try.func8, Try.ntmps8
          go_wp2_with fail
          refine (decide_any 3 false 7 0 rfl _).mono ?_
          rintro e w' ⟨rfl, rfl⟩
          go_wp2_with fail
          refine (decide_any 7 false 0 7 rfl _).mono ?_
          rintro e w' ⟨rfl, rfl⟩
          go_wp2_with fail
          refine (learn_any 7 o 0 false 1 hl _).mono ?_
          rintro e w' ⟨rfl, rfl⟩
          go_wp2_with fail
          refine (alive_any _).mono ?_
          rintro e v1 ⟨rfl, hb⟩
          have hbw := bt hbw hb
          clear hb
          go_wp2
          go_ret
          exact ⟨rfl, hbw⟩
        · have hbw := Below.refl w.heap.size w
          go_enter Try.func8, Try.ntmps8
          go_wp2_with fail
          refine (decide_any 3 false 7 0 rfl _).mono ?_
          rintro e w' ⟨rfl, rfl⟩
          go_wp2_with fail
          refine (decide_any 7 false 0 7 rfl _).mono ?_
          rintro e w' ⟨rfl, rfl⟩
          go_wp2_with fail
          refine (learn_any 7 4 5 true 0 rfl _).mono ?_
          rintro e w' ⟨rfl, rfl⟩
          go_wp2_with fail
          refine (answer_any 7 5 0 rfl _).mono ?_
          rintro e w' ⟨rfl, rfl⟩
          go_wp2_with fail
          refine (alive_any _).mono ?_
          rintro e v1 ⟨rfl, hb⟩
          have hbw := bt hbw hb
          clear hb
          go_wp2_with fail
          refine (open_any 7 false rfl _).mono ?_
          rintro e w' ⟨rfl, rfl⟩
          go_wp2
          go_ret
          exact ⟨rfl, hbw⟩
        · have hbw := Below.refl w.heap.size w
          go_enter Try.func8, Try.ntmps8
          go_wp2_with fail
          refine (decide_any 3 false 7 0 rfl _).mono ?_
          rintro e w' ⟨rfl, rfl⟩
          go_wp2_with fail
          refine (decide_any 7 false 0 7 rfl _).mono ?_
          rintro e w' ⟨rfl, rfl⟩
          go_wp2_with fail
          refine (learn_any 7 5 5 false 0 rfl _).mono ?_
          rintro e w' ⟨rfl, rfl⟩
          go_wp2_with fail
          refine (answer_any 7 5 0 rfl _).mono ?_
          rintro e w' ⟨rfl, rfl⟩
          go_wp2_with fail
          refine (alive_any _).mono ?_
          rintro e v1 ⟨rfl, hb⟩
          have hbw := bt hbw hb
          clear hb
          go_wp2_with fail
          refine (open_any 7 false rfl _).mono ?_
          rintro e w' ⟨rfl, rfl⟩
          go_wp2
          go_ret
          exact ⟨rfl, hbw⟩
      · rcases out_cases o with ⟨ho, _⟩ | ⟨ho, _⟩ | rfl | rfl
        · have hl : learnM 7 o = (0, false, 1) := by simp [learnM, ho]
          clear ho
          have hbw := Below.refl w.heap.size w
          go_enter Try.func8, Try.ntmps8
          go_wp2_with fail
          refine (decide_any 3 false 7 0 rfl _).mono ?_
          rintro e w' ⟨rfl, rfl⟩
          go_wp2_with fail
          refine (decide_any 7 true 0 7 rfl _).mono ?_
          rintro e w' ⟨rfl, rfl⟩
          go_wp2_with fail
          refine (learn_any 7 o 0 false 1 hl _).mono ?_
          rintro e w' ⟨rfl, rfl⟩
          go_wp2_with fail
          refine (alive_any _).mono ?_
          rintro e v1 ⟨rfl, hb⟩
          have hbw := bt hbw hb
          clear hb
          go_wp2
          go_ret
          exact ⟨rfl, hbw⟩
        · have hl : learnM 7 o = (0, false, 1) := by simp [learnM, ho]
          clear ho
          have hbw := Below.refl w.heap.size w
          go_enter Try.func8, Try.ntmps8
          go_wp2_with fail
          refine (decide_any 3 false 7 0 rfl _).mono ?_
          rintro e w' ⟨rfl, rfl⟩
          go_wp2_with fail
          refine (decide_any 7 true 0 7 rfl _).mono ?_
          rintro e w' ⟨rfl, rfl⟩
          go_wp2_with fail
          refine (learn_any 7 o 0 false 1 hl _).mono ?_
          rintro e w' ⟨rfl, rfl⟩
          go_wp2_with fail
          refine (alive_any _).mono ?_
          rintro e v1 ⟨rfl, hb⟩
          have hbw := bt hbw hb
          clear hb
          go_wp2
          go_ret
          exact ⟨rfl, hbw⟩
        · have hbw := Below.refl w.heap.size w
          go_enter Try.func8, Try.ntmps8
          go_wp2_with fail
          refine (decide_any 3 false 7 0 rfl _).mono ?_
          rintro e w' ⟨rfl, rfl⟩
          go_wp2_with fail
          refine (decide_any 7 true 0 7 rfl _).mono ?_
          rintro e w' ⟨rfl, rfl⟩
          go_wp2_with fail
          refine (learn_any 7 4 5 true 0 rfl _).mono ?_
          rintro e w' ⟨rfl, rfl⟩
          go_wp2_with fail
          refine (answer_any 7 5 0 rfl _).mono ?_
          rintro e w' ⟨rfl, rfl⟩
          go_wp2_with fail
          refine (alive_any _).mono ?_
          rintro e v1 ⟨rfl, hb⟩
          have hbw := bt hbw hb
          clear hb
          go_wp2_with fail
          refine (open_any 7 false rfl _).mono ?_
          rintro e w' ⟨rfl, rfl⟩
          go_wp2
          go_ret
          exact ⟨rfl, hbw⟩
        · have hbw := Below.refl w.heap.size w
          go_enter Try.func8, Try.ntmps8
          go_wp2_with fail
          refine (decide_any 3 false 7 0 rfl _).mono ?_
          rintro e w' ⟨rfl, rfl⟩
          go_wp2_with fail
          refine (decide_any 7 true 0 7 rfl _).mono ?_
          rintro e w' ⟨rfl, rfl⟩
          go_wp2_with fail
          refine (learn_any 7 5 5 false 0 rfl _).mono ?_
          rintro e w' ⟨rfl, rfl⟩
          go_wp2_with fail
          refine (answer_any 7 5 0 rfl _).mono ?_
          rintro e w' ⟨rfl, rfl⟩
          go_wp2_with fail
          refine (alive_any _).mono ?_
          rintro e v1 ⟨rfl, hb⟩
          have hbw := bt hbw hb
          clear hb
          go_wp2_with fail
          refine (open_any 7 false rfl _).mono ?_
          rintro e w' ⟨rfl, rfl⟩
          go_wp2
          go_ret
          exact ⟨rfl, hbw⟩
    · cases d
      · rcases out_cases o with ⟨ho, _⟩ | ⟨ho, _⟩ | rfl | rfl
        · have hl : learnM 6 o = (0, false, 1) := by simp [learnM, ho]
          clear ho
          have hbw := Below.refl w.heap.size w
          go_enter Try.func8, Try.ntmps8
          go_wp2_with fail
          refine (decide_any 3 true 6 0 rfl _).mono ?_
          rintro e w' ⟨rfl, rfl⟩
          go_wp2_with fail
          refine (decide_any 6 false 0 7 rfl _).mono ?_
          rintro e w' ⟨rfl, rfl⟩
          go_wp2_with fail
          refine (learn_any 6 o 0 false 1 hl _).mono ?_
          rintro e w' ⟨rfl, rfl⟩
          go_wp2_with fail
          refine (alive_any _).mono ?_
          rintro e v1 ⟨rfl, hb⟩
          have hbw := bt hbw hb
          clear hb
          go_wp2
          go_ret
          exact ⟨rfl, hbw⟩
        · have hl : learnM 6 o = (0, false, 1) := by simp [learnM, ho]
          clear ho
          have hbw := Below.refl w.heap.size w
          go_enter Try.func8, Try.ntmps8
          go_wp2_with fail
          refine (decide_any 3 true 6 0 rfl _).mono ?_
          rintro e w' ⟨rfl, rfl⟩
          go_wp2_with fail
          refine (decide_any 6 false 0 7 rfl _).mono ?_
          rintro e w' ⟨rfl, rfl⟩
          go_wp2_with fail
          refine (learn_any 6 o 0 false 1 hl _).mono ?_
          rintro e w' ⟨rfl, rfl⟩
          go_wp2_with fail
          refine (alive_any _).mono ?_
          rintro e v1 ⟨rfl, hb⟩
          have hbw := bt hbw hb
          clear hb
          go_wp2
          go_ret
          exact ⟨rfl, hbw⟩
        · have hbw := Below.refl w.heap.size w
          go_enter Try.func8, Try.ntmps8
          go_wp2_with fail
          refine (decide_any 3 true 6 0 rfl _).mono ?_
          rintro e w' ⟨rfl, rfl⟩
          go_wp2_with fail
          refine (decide_any 6 false 0 7 rfl _).mono ?_
          rintro e w' ⟨rfl, rfl⟩
          go_wp2_with fail
          refine (learn_any 6 4 4 false 0 rfl _).mono ?_
          rintro e w' ⟨rfl, rfl⟩
          go_wp2_with fail
          refine (answer_any 6 4 0 rfl _).mono ?_
          rintro e w' ⟨rfl, rfl⟩
          go_wp2_with fail
          refine (alive_any _).mono ?_
          rintro e v1 ⟨rfl, hb⟩
          have hbw := bt hbw hb
          clear hb
          go_wp2_with fail
          refine (open_any 6 false rfl _).mono ?_
          rintro e w' ⟨rfl, rfl⟩
          go_wp2
          go_ret
          exact ⟨rfl, hbw⟩
        · have hbw := Below.refl w.heap.size w
          go_enter Try.func8, Try.ntmps8
          go_wp2_with fail
          refine (decide_any 3 true 6 0 rfl _).mono ?_
          rintro e w' ⟨rfl, rfl⟩
          go_wp2_with fail
          refine (decide_any 6 false 0 7 rfl _).mono ?_
          rintro e w' ⟨rfl, rfl⟩
          go_wp2_with fail
          refine (learn_any 6 5 4 true 0 rfl _).mono ?_
          rintro e w' ⟨rfl, rfl⟩
          go_wp2_with fail
          refine (answer_any 6 4 0 rfl _).mono ?_
          rintro e w' ⟨rfl, rfl⟩
          go_wp2_with fail
          refine (alive_any _).mono ?_
          rintro e v1 ⟨rfl, hb⟩
          have hbw := bt hbw hb
          clear hb
          go_wp2_with fail
          refine (open_any 6 false rfl _).mono ?_
          rintro e w' ⟨rfl, rfl⟩
          go_wp2
          go_ret
          exact ⟨rfl, hbw⟩
      · rcases out_cases o with ⟨ho, _⟩ | ⟨ho, _⟩ | rfl | rfl
        · have hl : learnM 6 o = (0, false, 1) := by simp [learnM, ho]
          clear ho
          have hbw := Below.refl w.heap.size w
          go_enter Try.func8, Try.ntmps8
          go_wp2_with fail
          refine (decide_any 3 true 6 0 rfl _).mono ?_
          rintro e w' ⟨rfl, rfl⟩
          go_wp2_with fail
          refine (decide_any 6 true 0 7 rfl _).mono ?_
          rintro e w' ⟨rfl, rfl⟩
          go_wp2_with fail
          refine (learn_any 6 o 0 false 1 hl _).mono ?_
          rintro e w' ⟨rfl, rfl⟩
          go_wp2_with fail
          refine (alive_any _).mono ?_
          rintro e v1 ⟨rfl, hb⟩
          have hbw := bt hbw hb
          clear hb
          go_wp2
          go_ret
          exact ⟨rfl, hbw⟩
        · have hl : learnM 6 o = (0, false, 1) := by simp [learnM, ho]
          clear ho
          have hbw := Below.refl w.heap.size w
          go_enter Try.func8, Try.ntmps8
          go_wp2_with fail
          refine (decide_any 3 true 6 0 rfl _).mono ?_
          rintro e w' ⟨rfl, rfl⟩
          go_wp2_with fail
          refine (decide_any 6 true 0 7 rfl _).mono ?_
          rintro e w' ⟨rfl, rfl⟩
          go_wp2_with fail
          refine (learn_any 6 o 0 false 1 hl _).mono ?_
          rintro e w' ⟨rfl, rfl⟩
          go_wp2_with fail
          refine (alive_any _).mono ?_
          rintro e v1 ⟨rfl, hb⟩
          have hbw := bt hbw hb
          clear hb
          go_wp2
          go_ret
          exact ⟨rfl, hbw⟩
        · have hbw := Below.refl w.heap.size w
          go_enter Try.func8, Try.ntmps8
          go_wp2_with fail
          refine (decide_any 3 true 6 0 rfl _).mono ?_
          rintro e w' ⟨rfl, rfl⟩
          go_wp2_with fail
          refine (decide_any 6 true 0 7 rfl _).mono ?_
          rintro e w' ⟨rfl, rfl⟩
          go_wp2_with fail
          refine (learn_any 6 4 4 false 0 rfl _).mono ?_
          rintro e w' ⟨rfl, rfl⟩
          go_wp2_with fail
          refine (answer_any 6 4 0 rfl _).mono ?_
          rintro e w' ⟨rfl, rfl⟩
          go_wp2_with fail
          refine (alive_any _).mono ?_
          rintro e v1 ⟨rfl, hb⟩
          have hbw := bt hbw hb
          clear hb
          go_wp2_with fail
          refine (open_any 6 false rfl _).mono ?_
          rintro e w' ⟨rfl, rfl⟩
          go_wp2
          go_ret
          exact ⟨rfl, hbw⟩
        · have hbw := Below.refl w.heap.size w
          go_enter Try.func8, Try.ntmps8
          go_wp2_with fail
          refine (decide_any 3 true 6 0 rfl _).mono ?_
          rintro e w' ⟨rfl, rfl⟩
          go_wp2_with fail
          refine (decide_any 6 true 0 7 rfl _).mono ?_
          rintro e w' ⟨rfl, rfl⟩
          go_wp2_with fail
          refine (learn_any 6 5 4 true 0 rfl _).mono ?_
          rintro e w' ⟨rfl, rfl⟩
          go_wp2_with fail
          refine (answer_any 6 4 0 rfl _).mono ?_
          rintro e w' ⟨rfl, rfl⟩
          go_wp2_with fail
          refine (alive_any _).mono ?_
          rintro e v1 ⟨rfl, hb⟩
          have hbw := bt hbw hb
          clear hb
          go_wp2_with fail
          refine (open_any 6 false rfl _).mono ?_
          rintro e w' ⟨rfl, rfl⟩
          go_wp2
          go_ret
          exact ⟨rfl, hbw⟩
  · have e3 : (s == 3) = false := beq_eq_false_iff_ne.2 h3
    have n3 : (s != 3) = true := by simp [bne, e3]
    obtain ⟨e, hd, he⟩ : ∃ e, decideM s c = (0, e) ∧ (e = 1 ∨ e = 7) := by
      unfold decideM
      split
      · exact ⟨1, rfl, .inl rfl⟩
      · first | exact ⟨7, rfl, .inr rfl⟩ | (rw [if_pos h3]; exact ⟨7, rfl, .inr rfl⟩)
    clear h3
    rcases he with rfl | rfl
    · have hbw := Below.refl w.heap.size w
      go_enter Try.func8, Try.ntmps8
      go_wp2_with fail
      refine (decide_any s c 0 1 hd _).mono ?_
      rintro e w' ⟨rfl, rfl⟩
      go_wp2_with fail
      refine (alive_any _).mono ?_
      rintro e v1 ⟨rfl, hb⟩
      have hbw := bt hbw hb
      clear hb
      go_wp2
      go_ret
      exact ⟨rfl, hbw⟩
    · have hbw := Below.refl w.heap.size w
      go_enter Try.func8, Try.ntmps8
      go_wp2_with fail
      refine (decide_any s c 0 7 hd _).mono ?_
      rintro e w' ⟨rfl, rfl⟩
      go_wp2_with fail
      refine (alive_any _).mono ?_
      rintro e v1 ⟨rfl, hb⟩
      have hbw := bt hbw hb
      clear hb
      go_wp2
      go_ret
      exact ⟨rfl, hbw⟩
end Go.Proofs.Ytendiopgciillaa
