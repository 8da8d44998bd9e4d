/- Layer 17: what a side finds; the program's small functions. -/
import Derived.Test.YtepcafkgpkbimaaBlk
import Derived.Test.YtepcafkgpkbimaaProg
namespace Go.Proofs.Ytepcafkgpkbimaa
open Go.RowKit
set_option linter.unusedVariables false
set_option linter.unusedSimpArgs false

/-- A side: its name, what it remembers, whether it holds works. -/
def sv (m s : Int) (k : Bool) : Value := .agg #[.int .u32 m, .int .u32 s, .bool k]
def oldB (r n : Int) : Bool := r != 0 && r != n
def checkM (m s t k : Int) (wk : Bool) : Int × Int :=
  if (m == 0 || t == 0) = true then (0, 1) else if oldB s t = true then (3, 0) else if oldB k m = true then (4, 0) else if ((k == 0) && wk) = true then (5, 0) else if (s == 0) = true then (2, 0) else (1, 0)
def badB (x : Int) : Bool := decide (3 ≤ x) && decide (x ≤ 5)

theorem isOld_any (r n : Int) (b : Bool) (h : oldB r n = b) (w : World) : Calls Try.prog 23 #[.int .u32 r, .int .u32 n] w fun e w' => e = .returned (.bool b) ∧ w = w' := by
  unfold oldB at h
  rcases h1 : (r != 0) with _ | _
  · rw [h1] at h
    subst h
    have g1 : (r == 0) = true := by simpa using h1
    go_enter Try.func23, Try.ntmps23
    go_wp2
    go_ret
    exact ⟨rfl, rfl⟩
  · have g1 : (r == 0) = false := by simpa using h1
    rcases h2 : (r != n) with _ | _
    · rw [h1, h2] at h
      subst h
      have g2 : (r == n) = true := by simpa using h2
      go_enter Try.func23, Try.ntmps23
      go_wp2
      go_ret
      exact ⟨rfl, rfl⟩
    · rw [h1, h2] at h
      subst h
      have g2 : (r == n) = false := by simpa using h2
      go_enter Try.func23, Try.ntmps23
      go_wp2
      go_ret
      exact ⟨rfl, rfl⟩
theorem bad_any (x : Int) (b : Bool) (h : badB x = b) (w : World) : Calls Try.prog 19 #[.int .i64 x] w fun e w' => e = .returned (.bool b) ∧ w = w' := by
  unfold badB at h
  rcases h1 : decide (3 ≤ x) with _ | _
  · rw [h1] at h
    subst h
    go_enter Try.func19, Try.ntmps19
    go_wp2
    go_ret
    exact ⟨rfl, rfl⟩
  · rw [h1] at h
    rcases h2 : decide (x ≤ 5) with _ | _
    all_goals
      rw [h2] at h
      subst h
      go_enter Try.func19, Try.ntmps19
      go_wp2
      go_ret
      exact ⟨rfl, rfl⟩

set_option maxHeartbeats 1000000 in
theorem check_any (m s t k : Int) (wk : Bool) (x e : Int) (h : checkM m s t k wk = (x, e)) (w : World) : Calls Try.prog 14 #[.int .u32 m, .int .u32 s, .int .u32 t, .int .u32 k, .bool wk] w fun o w' => o = .returned (.tuple #[.int .i64 x, .int .i64 e]) ∧ w = w' := by
  unfold checkM at h
  rcases h1 : (m == 0) with _ | _
  · rcases h2 : (t == 0) with _ | _
    · rw [h1, h2, if_neg (by simp)] at h
      rcases h3 : oldB s t with _ | _
      · rw [h3, if_neg (by simp)] at h
        rcases h4 : oldB k m with _ | _
        · rw [h4, if_neg (by simp)] at h
          rcases h5 : (k == 0) with _ | _
          · rw [h5, if_neg (by simp)] at h
            rcases h6 : (s == 0) with _ | _
            all_goals
              simp only [h6, Bool.false_eq_true, if_true, if_false] at h
              injection h with hx he
              subst hx he
              go_enter Try.func14, Try.ntmps14
              go_wp2_with fail
              refine (isOld_any s t _ h3 _).mono ?_
              rintro e1 w1 ⟨rfl, rfl⟩
              go_wp2_with fail
              refine (isOld_any k m _ h4 _).mono ?_
              rintro e1 w1 ⟨rfl, rfl⟩
              go_wp2
              go_returns
              exact ⟨rfl, rfl⟩
          · rcases wk with _ | _
            · rw [h5, if_neg (by simp)] at h
              rcases h6 : (s == 0) with _ | _
              all_goals
                simp only [h6, Bool.false_eq_true, if_true, if_false] at h
                injection h with hx he
                subst hx he
                go_enter Try.func14, Try.ntmps14
                go_wp2_with fail
                refine (isOld_any s t _ h3 _).mono ?_
                rintro e1 w1 ⟨rfl, rfl⟩
                go_wp2_with fail
                refine (isOld_any k m _ h4 _).mono ?_
                rintro e1 w1 ⟨rfl, rfl⟩
                go_wp2
                go_returns
                exact ⟨rfl, rfl⟩
            · rw [h5, if_pos (by simp)] at h
              injection h with hx he
              subst hx he
              go_enter Try.func14, Try.ntmps14
              go_wp2_with fail
              refine (isOld_any s t _ h3 _).mono ?_
              rintro e1 w1 ⟨rfl, rfl⟩
              go_wp2_with fail
              refine (isOld_any k m _ h4 _).mono ?_
              rintro e1 w1 ⟨rfl, rfl⟩
              go_wp2
              go_returns
              exact ⟨rfl, rfl⟩
        · rw [h4, if_pos (by simp)] at h
          injection h with hx he
          subst hx he
          go_enter Try.func14, Try.ntmps14
          go_wp2_with fail
          refine (isOld_any s t _ h3 _).mono ?_
          rintro e1 w1 ⟨rfl, rfl⟩
          go_wp2_with fail
          refine (isOld_any k m _ h4 _).mono ?_
          rintro e1 w1 ⟨rfl, rfl⟩
          go_wp2
          go_returns
          exact ⟨rfl, rfl⟩
      · rw [h3, if_pos (by simp)] at h
        injection h with hx he
        subst hx he
        go_enter Try.func14, Try.ntmps14
        go_wp2_with fail
        refine (isOld_any s t _ h3 _).mono ?_
        rintro e1 w1 ⟨rfl, rfl⟩
        go_wp2
        go_returns
        exact ⟨rfl, rfl⟩
    · rw [h1, h2, if_pos (by simp)] at h
      injection h with hx he
      subst hx he
      go_enter Try.func14, Try.ntmps14
      go_wp2
      go_returns
      exact ⟨rfl, rfl⟩
  · rw [h1, if_pos (by simp)] at h
    injection h with hx he
    subst hx he
    go_enter Try.func14, Try.ntmps14
    go_wp2
    go_returns
    exact ⟨rfl, rfl⟩
end Go.Proofs.Ytepcafkgpkbimaa
