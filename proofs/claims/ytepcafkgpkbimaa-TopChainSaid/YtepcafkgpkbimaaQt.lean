/- Layer 18: what becomes of a state. -/
import Derived.Test.YtepcafkgpkbimaaBlk
import Derived.Test.YtepcafkgpkbimaaProg
namespace Go.Proofs.Ytepcafkgpkbimaa
open Go.RowKit
set_option linter.unusedVariables false
set_option linter.unusedSimpArgs false

def stB (s : Int) : Bool := decide (0 ≤ s) && decide (s ≤ 7)
def outB (o : Int) : Bool := o == 4 || o == 5
def didM (s : Int) : Int := if s = 4 ∨ s = 6 then 4 else if s = 5 ∨ s = 7 then 5 else 0
def learnM (s o : Int) : Int × Bool × Int := if stB s = false then (0, false, 1) else if outB o = false then (0, false, 1) else if s = 0 then (0, false, 0) else if s = 3 ∨ (s < 3 ∧ o = 5) then (o, false, 0) else if s < 3 then (0, false, 7) else (didM s, !decide (didM s = o), 0)
def answerM (s : Int) : Int × Int := if stB s = false then (0, 1) else if s = 0 then (5, 0) else (didM s, 0)
def decideM (s : Int) (c : Bool) : Int × Int := if stB s = false then (0, 1) else if s ≠ 3 then (0, 7) else if c then (6, 0) else (7, 0)
def openB (s : Int) : Bool := decide (1 ≤ s) && decide (s ≤ 3)
theorem st_cases (s : Int) : (stB s = false ∧ s < 0) ∨ (stB s = false ∧ 7 < s) ∨ s = 0 ∨ s = 1 ∨ s = 2 ∨ s = 3 ∨ s = 4 ∨ s = 5 ∨ s = 6 ∨ s = 7 := by
  unfold stB
  by_cases h1 : 0 ≤ s
  · by_cases h2 : s ≤ 7
    · omega
    · simp [h2]; omega
  · simp [h1]; omega
theorem out_cases (o : Int) : (outB o = false ∧ o < 4) ∨ (outB o = false ∧ 5 < o) ∨ o = 4 ∨ o = 5 := by
  unfold outB
  by_cases h1 : o = 4
  · omega
  · by_cases h2 : o = 5
    · omega
    · simp [h1, h2]; omega

set_option maxHeartbeats 1000000 in
theorem isState_any (s : Int) (b : Bool) (h : stB s = b) (w : World) : Calls Try.prog 15 #[.int .i64 s] w fun e w' => e = .returned (.bool b) ∧ w = w' := by
  unfold stB at h
  rcases h1 : decide (0 ≤ s) with _ | _
  · rw [h1] at h
    subst h
    go_enter Try.func15, Try.ntmps15
    go_wp2
    go_ret
    exact ⟨rfl, rfl⟩
  · rw [h1] at h
    rcases h2 : decide (s ≤ 7) with _ | _
    all_goals
      rw [h2] at h
      subst h
      go_enter Try.func15, Try.ntmps15
      go_wp2
      go_ret
      exact ⟨rfl, rfl⟩

set_option maxHeartbeats 1000000 in
theorem isOutcome_any (s : Int) (b : Bool) (h : outB s = b) (w : World) : Calls Try.prog 16 #[.int .i64 s] w fun e w' => e = .returned (.bool b) ∧ w = w' := by
  unfold outB at h
  rcases h1 : (s == 4) with _ | _
  · rw [h1] at h
    rcases h2 : (s == 5) with _ | _
    all_goals
      rw [h2] at h
      subst h
      go_enter Try.func16, Try.ntmps16
      go_wp2
      go_ret
      exact ⟨rfl, rfl⟩
  · rw [h1] at h
    subst h
    go_enter Try.func16, Try.ntmps16
    go_wp2
    go_ret
    exact ⟨rfl, rfl⟩

set_option maxHeartbeats 1000000 in
theorem done_any (s : Int) (h1 : 0 ≤ s) (h2 : s ≤ 7) (a : Int) (h : (answerM s).1 = a) (w : World) : Calls Try.prog 17 #[.int .i64 s] w fun e w' => e = .returned (.int .i64 a) ∧ w = w' := by
  subst h
  rcases (by omega : s = 0 ∨ s = 1 ∨ s = 2 ∨ s = 3 ∨ s = 4 ∨ s = 5 ∨ s = 6 ∨ s = 7) with rfl | rfl | rfl | rfl | rfl | rfl | rfl | rfl
  all_goals
    go_enter Try.func17, Try.ntmps17
    go_wp2
    go_ret
    exact ⟨rfl, rfl⟩

set_option maxHeartbeats 4000000 in
theorem learn_any (s o a : Int) (b : Bool) (e : Int) (h : learnM s o = (a, b, e)) (w : World) : Calls Try.prog 9 #[.int .i64 s, .int .i64 o] w fun x w' => x = .returned (.tuple #[.int .i64 a, .bool b, .int .i64 e]) ∧ w = w' := by
  rcases st_cases s with ⟨hs, _⟩ | ⟨hs, _⟩ | hs
  · rw [show learnM s o = (0, false, 1) by simp [learnM, hs]] at h
    injection h with ha h; injection h with hb he; subst ha hb he
    go_enter Try.func9, Try.ntmps9
    go_wp2_with fail
    refine (isState_any s _ hs _).mono ?_
    rintro e w' ⟨rfl, rfl⟩
    go_wp2
    go_returns
    exact ⟨rfl, rfl⟩
  · rw [show learnM s o = (0, false, 1) by simp [learnM, hs]] at h
    injection h with ha h; injection h with hb he; subst ha hb he
    go_enter Try.func9, Try.ntmps9
    go_wp2_with fail
    refine (isState_any s _ hs _).mono ?_
    rintro e w' ⟨rfl, rfl⟩
    go_wp2
    go_returns
    exact ⟨rfl, rfl⟩
  · rcases out_cases o with ⟨ho, _⟩ | ⟨ho, _⟩ | ho
    · rw [show learnM s o = (0, false, 1) by simp [learnM, ho]] at h
      injection h with ha h; injection h with hb he; subst ha hb he
      have hs : stB s = true := by rcases hs with rfl | rfl | rfl | rfl | rfl | rfl | rfl | rfl <;> rfl
      go_enter Try.func9, Try.ntmps9
      go_wp2_with fail
      refine (isState_any s _ hs _).mono ?_
      rintro e w' ⟨rfl, rfl⟩
      go_wp2_with fail
      refine (isOutcome_any o _ ho _).mono ?_
      rintro e w' ⟨rfl, rfl⟩
      go_wp2
      go_returns
      exact ⟨rfl, rfl⟩
    · rw [show learnM s o = (0, false, 1) by simp [learnM, ho]] at h
      injection h with ha h; injection h with hb he; subst ha hb he
      have hs : stB s = true := by rcases hs with rfl | rfl | rfl | rfl | rfl | rfl | rfl | rfl <;> rfl
      go_enter Try.func9, Try.ntmps9
      go_wp2_with fail
      refine (isState_any s _ hs _).mono ?_
      rintro e w' ⟨rfl, rfl⟩
      go_wp2_with fail
      refine (isOutcome_any o _ ho _).mono ?_
      rintro e w' ⟨rfl, rfl⟩
      go_wp2
      go_returns
      exact ⟨rfl, rfl⟩
    · rcases hs with rfl | rfl | rfl | rfl | rfl | rfl | rfl | rfl
      · rcases ho with rfl | rfl
        · cases h
          go_enter Try.func9, Try.ntmps9
          go_wp2_with fail
          refine (isState_any 0 true rfl _).mono ?_
          rintro e w' ⟨rfl, rfl⟩
          go_wp2_with fail
          refine (isOutcome_any 4 true rfl _).mono ?_
          rintro e w' ⟨rfl, rfl⟩
          go_wp2
          go_returns
          exact ⟨rfl, rfl⟩
        · cases h
          go_enter Try.func9, Try.ntmps9
          go_wp2_with fail
          refine (isState_any 0 true rfl _).mono ?_
          rintro e w' ⟨rfl, rfl⟩
          go_wp2_with fail
          refine (isOutcome_any 5 true rfl _).mono ?_
          rintro e w' ⟨rfl, rfl⟩
          go_wp2
          go_returns
          exact ⟨rfl, rfl⟩
      · rcases ho with rfl | rfl
        · cases h
          go_enter Try.func9, Try.ntmps9
          go_wp2_with fail
          refine (isState_any 1 true rfl _).mono ?_
          rintro e w' ⟨rfl, rfl⟩
          go_wp2_with fail
          refine (isOutcome_any 4 true rfl _).mono ?_
          rintro e w' ⟨rfl, rfl⟩
          go_wp2
          go_returns
          exact ⟨rfl, rfl⟩
        · cases h
          go_enter Try.func9, Try.ntmps9
          go_wp2_with fail
          refine (isState_any 1 true rfl _).mono ?_
          rintro e w' ⟨rfl, rfl⟩
          go_wp2_with fail
          refine (isOutcome_any 5 true rfl _).mono ?_
          rintro e w' ⟨rfl, rfl⟩
          go_wp2
          go_returns
          exact ⟨rfl, rfl⟩
      · rcases ho with rfl | rfl
        · cases h
          go_enter Try.func9, Try.ntmps9
          go_wp2_with fail
          refine (isState_any 2 true rfl _).mono ?_
          rintro e w' ⟨rfl, rfl⟩
          go_wp2_with fail
          refine (isOutcome_any 4 true rfl _).mono ?_
          rintro e w' ⟨rfl, rfl⟩
          go_wp2
          go_returns
          exact ⟨rfl, rfl⟩
        · cases h
          go_enter Try.func9, Try.ntmps9
          go_wp2_with fail
          refine (isState_any 2 true rfl _).mono ?_
          rintro e w' ⟨rfl, rfl⟩
          go_wp2_with fail
          refine (isOutcome_any 5 true rfl _).mono ?_
          rintro e w' ⟨rfl, rfl⟩
          go_wp2
          go_returns
          exact ⟨rfl, rfl⟩
      · rcases ho with rfl | rfl
        · cases h
          go_enter Try.func9, Try.ntmps9
          go_wp2_with fail
          refine (isState_any 3 true rfl _).mono ?_
          rintro e w' ⟨rfl, rfl⟩
          go_wp2_with fail
          refine (isOutcome_any 4 true rfl _).mono ?_
          rintro e w' ⟨rfl, rfl⟩
          go_wp2
          go_returns
          exact ⟨rfl, rfl⟩
        · cases h
          go_enter Try.func9, Try.ntmps9
          go_wp2_with fail
          refine (isState_any 3 true rfl _).mono ?_
          rintro e w' ⟨rfl, rfl⟩
          go_wp2_with fail
          refine (isOutcome_any 5 true rfl _).mono ?_
          rintro e w' ⟨rfl, rfl⟩
          go_wp2
          go_returns
          exact ⟨rfl, rfl⟩
      · rcases ho with rfl | rfl
        · cases h
          go_enter Try.func9, Try.ntmps9
          go_wp2_with fail
          refine (isState_any 4 true rfl _).mono ?_
          rintro e w' ⟨rfl, rfl⟩
          go_wp2_with fail
          refine (isOutcome_any 4 true rfl _).mono ?_
          rintro e w' ⟨rfl, rfl⟩
          go_wp2_with fail
          refine (done_any 4 (by decide) (by decide) _ rfl _).mono ?_
          rintro e w' ⟨rfl, rfl⟩
          go_wp2
          go_returns
          exact ⟨rfl, rfl⟩
        · cases h
          go_enter Try.func9, Try.ntmps9
          go_wp2_with fail
          refine (isState_any 4 true rfl _).mono ?_
          rintro e w' ⟨rfl, rfl⟩
          go_wp2_with fail
          refine (isOutcome_any 5 true rfl _).mono ?_
          rintro e w' ⟨rfl, rfl⟩
          go_wp2_with fail
          refine (done_any 4 (by decide) (by decide) _ rfl _).mono ?_
          rintro e w' ⟨rfl, rfl⟩
          go_wp2
          go_returns
          exact ⟨rfl, rfl⟩
      · rcases ho with rfl | rfl
        · cases h
          go_enter Try.func9, Try.ntmps9
          go_wp2_with fail
          refine (isState_any 5 true rfl _).mono ?_
          rintro e w' ⟨rfl, rfl⟩
          go_wp2_with fail
          refine (isOutcome_any 4 true rfl _).mono ?_
          rintro e w' ⟨rfl, rfl⟩
          go_wp2_with fail
          refine (done_any 5 (by decide) (by decide) _ rfl _).mono ?_
          rintro e w' ⟨rfl, rfl⟩
          go_wp2
          go_returns
          exact ⟨rfl, rfl⟩
        · cases h
          go_enter Try.func9, Try.ntmps9
          go_wp2_with fail
          refine (isState_any 5 true rfl _).mono ?_
          rintro e w' ⟨rfl, rfl⟩
          go_wp2_with fail
          refine (isOutcome_any 5 true rfl _).mono ?_
          rintro e w' ⟨rfl, rfl⟩
          go_wp2_with fail
          refine (done_any 5 (by decide) (by decide) _ rfl _).mono ?_
          rintro e w' ⟨rfl, rfl⟩
          go_wp2
          go_returns
          exact ⟨rfl, rfl⟩
      · rcases ho with rfl | rfl
        · cases h
          go_enter Try.func9, Try.ntmps9
          go_wp2_with fail
          refine (isState_any 6 true rfl _).mono ?_
          rintro e w' ⟨rfl, rfl⟩
          go_wp2_with fail
          refine (isOutcome_any 4 true rfl _).mono ?_
          rintro e w' ⟨rfl, rfl⟩
          go_wp2_with fail
          refine (done_any 6 (by decide) (by decide) _ rfl _).mono ?_
          rintro e w' ⟨rfl, rfl⟩
          go_wp2
          go_returns
          exact ⟨rfl, rfl⟩
        · cases h
          go_enter Try.func9, Try.ntmps9
          go_wp2_with fail
          refine (isState_any 6 true rfl _).mono ?_
          rintro e w' ⟨rfl, rfl⟩
          go_wp2_with fail
          refine (isOutcome_any 5 true rfl _).mono ?_
          rintro e w' ⟨rfl, rfl⟩
          go_wp2_with fail
          refine (done_any 6 (by decide) (by decide) _ rfl _).mono ?_
          rintro e w' ⟨rfl, rfl⟩
          go_wp2
          go_returns
          exact ⟨rfl, rfl⟩
      · rcases ho with rfl | rfl
        · cases h
          go_enter Try.func9, Try.ntmps9
          go_wp2_with fail
          refine (isState_any 7 true rfl _).mono ?_
          rintro e w' ⟨rfl, rfl⟩
          go_wp2_with fail
          refine (isOutcome_any 4 true rfl _).mono ?_
          rintro e w' ⟨rfl, rfl⟩
          go_wp2_with fail
          refine (done_any 7 (by decide) (by decide) _ rfl _).mono ?_
          rintro e w' ⟨rfl, rfl⟩
          go_wp2
          go_returns
          exact ⟨rfl, rfl⟩
        · cases h
          go_enter Try.func9, Try.ntmps9
          go_wp2_with fail
          refine (isState_any 7 true rfl _).mono ?_
          rintro e w' ⟨rfl, rfl⟩
          go_wp2_with fail
          refine (isOutcome_any 5 true rfl _).mono ?_
          rintro e w' ⟨rfl, rfl⟩
          go_wp2_with fail
          refine (done_any 7 (by decide) (by decide) _ rfl _).mono ?_
          rintro e w' ⟨rfl, rfl⟩
          go_wp2
          go_returns
          exact ⟨rfl, rfl⟩

set_option maxHeartbeats 4000000 in
theorem decide_any (s : Int) (c : Bool) (a e : Int) (h : decideM s c = (a, e)) (w : World) : Calls Try.prog 8 #[.int .i64 s, .bool c] w fun x w' => x = .returned (.tuple #[.int .i64 a, .int .i64 e]) ∧ w = w' := by
  rcases st_cases s with ⟨hs, h0⟩ | ⟨hs, h0⟩ | hs
  · rw [show decideM s c = (0, 1) by simp [decideM, hs]] at h
    injection h with ha he; subst ha he
    go_enter Try.func8, Try.ntmps8
    go_wp2_with fail
    refine (isState_any s _ hs _).mono ?_
    rintro e w' ⟨rfl, rfl⟩
    go_wp2
    go_returns
    exact ⟨rfl, rfl⟩
  · rw [show decideM s c = (0, 1) by simp [decideM, hs]] at h
    injection h with ha he; subst ha he
    go_enter Try.func8, Try.ntmps8
    go_wp2_with fail
    refine (isState_any s _ hs _).mono ?_
    rintro e w' ⟨rfl, rfl⟩
    go_wp2
    go_returns
    exact ⟨rfl, rfl⟩
  · rcases hs with rfl | rfl | rfl | rfl | rfl | rfl | rfl | rfl
    · cases h
      go_enter Try.func8, Try.ntmps8
      go_wp2_with fail
      refine (isState_any 0 true rfl _).mono ?_
      rintro e w' ⟨rfl, rfl⟩
      go_wp2
      go_returns
      exact ⟨rfl, rfl⟩
    · cases h
      go_enter Try.func8, Try.ntmps8
      go_wp2_with fail
      refine (isState_any 1 true rfl _).mono ?_
      rintro e w' ⟨rfl, rfl⟩
      go_wp2
      go_returns
      exact ⟨rfl, rfl⟩
    · cases h
      go_enter Try.func8, Try.ntmps8
      go_wp2_with fail
      refine (isState_any 2 true rfl _).mono ?_
      rintro e w' ⟨rfl, rfl⟩
      go_wp2
      go_returns
      exact ⟨rfl, rfl⟩
    · cases c
      · cases h
        go_enter Try.func8, Try.ntmps8
        go_wp2_with fail
        refine (isState_any 3 true rfl _).mono ?_
        rintro e w' ⟨rfl, rfl⟩
        go_wp2
        go_returns
        exact ⟨rfl, rfl⟩
      · cases h
        go_enter Try.func8, Try.ntmps8
        go_wp2_with fail
        refine (isState_any 3 true rfl _).mono ?_
        rintro e w' ⟨rfl, rfl⟩
        go_wp2
        go_returns
        exact ⟨rfl, rfl⟩
    · cases h
      go_enter Try.func8, Try.ntmps8
      go_wp2_with fail
      refine (isState_any 4 true rfl _).mono ?_
      rintro e w' ⟨rfl, rfl⟩
      go_wp2
      go_returns
      exact ⟨rfl, rfl⟩
    · cases h
      go_enter Try.func8, Try.ntmps8
      go_wp2_with fail
      refine (isState_any 5 true rfl _).mono ?_
      rintro e w' ⟨rfl, rfl⟩
      go_wp2
      go_returns
      exact ⟨rfl, rfl⟩
    · cases h
      go_enter Try.func8, Try.ntmps8
      go_wp2_with fail
      refine (isState_any 6 true rfl _).mono ?_
      rintro e w' ⟨rfl, rfl⟩
      go_wp2
      go_returns
      exact ⟨rfl, rfl⟩
    · cases h
      go_enter Try.func8, Try.ntmps8
      go_wp2_with fail
      refine (isState_any 7 true rfl _).mono ?_
      rintro e w' ⟨rfl, rfl⟩
      go_wp2
      go_returns
      exact ⟨rfl, rfl⟩
end Go.Proofs.Ytepcafkgpkbimaa
