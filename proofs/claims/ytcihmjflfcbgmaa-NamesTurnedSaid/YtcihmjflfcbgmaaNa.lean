/- Layer 17: what a side finds; the program's small functions. -/
import Derived.Test.YtcihmjflfcbgmaaBlk
import Derived.Test.YtcihmjflfcbgmaaProg
namespace Go.Proofs.Ytcihmjflfcbgmaa
open Go.RowKit
set_option linter.unusedVariables false
set_option linter.unusedSimpArgs false

/-- A side: its name, what it remembers, whether it holds works. -/
def sv (m s : Int) (k : Bool) : Value := .agg #[.int .u32 m, .int .u32 s, .bool k]
def oldB (r n : Int) : Bool := r != 0 && r != n
def checkM (m s t k : Int) (wk : Bool) : Int × Int :=
  if (m == 0 || t == 0) = true then (0, 1) else if oldB s t = true then (3, 0) else if oldB k m = true then (4, 0) else if ((k == 0) && wk) = true then (5, 0) else if (s == 0) = true then (2, 0) else (1, 0)
def badB (x : Int) : Bool := decide (3 ≤ x) && decide (x ≤ 5)

theorem isOld_any (r n : Int) (b : Bool) (h : oldB r n = b) (w : World) : Calls Try.prog 17 #[.int .u32 r, .int .u32 n] w fun e w' => e = .returned (.bool b) ∧ w = w' := by
  unfold oldB at h
  rcases h1 : (r != 0) with _ | _
  · rw [h1] at h
    subst h
    have g1 : (r == 0) = true := by simpa using h1
    go_enter Try.func17, Try.ntmps17
    go_wp2
    go_ret
    exact ⟨rfl, rfl⟩
  · have g1 : (r == 0) = false := by simpa using h1
    rcases h2 : (r != n) with _ | _
    · rw [h1, h2] at h
      subst h
      have g2 : (r == n) = true := by simpa using h2
      go_enter Try.func17, Try.ntmps17
      go_wp2
      go_ret
      exact ⟨rfl, rfl⟩
    · rw [h1, h2] at h
      subst h
      have g2 : (r == n) = false := by simpa using h2
      go_enter Try.func17, Try.ntmps17
      go_wp2
      go_ret
      exact ⟨rfl, rfl⟩
theorem bad_any (x : Int) (b : Bool) (h : badB x = b) (w : World) : Calls Try.prog 12 #[.int .i64 x] w fun e w' => e = .returned (.bool b) ∧ w = w' := by
  unfold badB at h
  rcases h1 : decide (3 ≤ x) with _ | _
  · rw [h1] at h
    subst h
    go_enter Try.func12, Try.ntmps12
    go_wp2
    go_ret
    exact ⟨rfl, rfl⟩
  · rw [h1] at h
    rcases h2 : decide (x ≤ 5) with _ | _
    all_goals
      rw [h2] at h
      subst h
      go_enter Try.func12, Try.ntmps12
      go_wp2
      go_ret
      exact ⟨rfl, rfl⟩

set_option maxHeartbeats 1000000 in
theorem check_any (m s t k : Int) (wk : Bool) (x e : Int) (h : checkM m s t k wk = (x, e)) (w : World) : Calls Try.prog 9 #[.int .u32 m, .int .u32 s, .int .u32 t, .int .u32 k, .bool wk] w fun o w' => o = .returned (.tuple #[.int .i64 x, .int .i64 e]) ∧ w = w' := by
  unfold checkM at h
  rcases h1 : (m == 0) with _ | _
  · rcases h2 : (t == 0) with _ | _
    · rw [h1, h2, if_neg (by simp)] at h
      rcases h3 : oldB s t with _ | _
      · rw [h3, if_neg (by simp)] at h
        rcases h4 : oldB k m with _ | _
        · rw [h4, if_neg (by simp)] at h
          rcases h5 : (k == 0) with _ | _
          · rw [h5, if_neg (by simp)] at h
            rcases h6 : (s == 0) with _ | _
            all_goals
              simp only [h6, Bool.false_eq_true, if_true, if_false] at h
              injection h with hx he
              subst hx he
              go_enter Try.func9, Try.ntmps9
              go_wp2_with fail
              refine (isOld_any s t _ h3 _).mono ?_
              rintro e1 w1 ⟨rfl, rfl⟩
              go_wp2_with fail
              refine (isOld_any k m _ h4 _).mono ?_
              rintro e1 w1 ⟨rfl, rfl⟩
              go_wp2
              go_returns
              exact ⟨rfl, rfl⟩
          · rcases wk with _ | _
            · rw [h5, if_neg (by simp)] at h
              rcases h6 : (s == 0) with _ | _
              all_goals
                simp only [h6, Bool.false_eq_true, if_true, if_false] at h
                injection h with hx he
                subst hx he
                go_enter Try.func9, Try.ntmps9
                go_wp2_with fail
                refine (isOld_any s t _ h3 _).mono ?_
                rintro e1 w1 ⟨rfl, rfl⟩
                go_wp2_with fail
                refine (isOld_any k m _ h4 _).mono ?_
                rintro e1 w1 ⟨rfl, rfl⟩
                go_wp2
                go_returns
                exact ⟨rfl, rfl⟩
            · rw [h5, if_pos (by simp)] at h
              injection h with hx he
              subst hx he
              go_enter Try.func9, Try.ntmps9
              go_wp2_with fail
              refine (isOld_any s t _ h3 _).mono ?_
              rintro e1 w1 ⟨rfl, rfl⟩
              go_wp2_with fail
              refine (isOld_any k m _ h4 _).mono ?_
              rintro e1 w1 ⟨rfl, rfl⟩
              go_wp2
              go_returns
              exact ⟨rfl, rfl⟩
        · rw [h4, if_pos (by simp)] at h
          injection h with hx he
          subst hx he
          go_enter Try.func9, Try.ntmps9
          go_wp2_with fail
          refine (isOld_any s t _ h3 _).mono ?_
          rintro e1 w1 ⟨rfl, rfl⟩
          go_wp2_with fail
          refine (isOld_any k m _ h4 _).mono ?_
          rintro e1 w1 ⟨rfl, rfl⟩
          go_wp2
          go_returns
          exact ⟨rfl, rfl⟩
      · rw [h3, if_pos (by simp)] at h
        injection h with hx he
        subst hx he
        go_enter Try.func9, Try.ntmps9
        go_wp2_with fail
        refine (isOld_any s t _ h3 _).mono ?_
        rintro e1 w1 ⟨rfl, rfl⟩
        go_wp2
        go_returns
        exact ⟨rfl, rfl⟩
    · rw [h1, h2, if_pos (by simp)] at h
      injection h with hx he
      subst hx he
      go_enter Try.func9, Try.ntmps9
      go_wp2
      go_returns
      exact ⟨rfl, rfl⟩
  · rw [h1, if_pos (by simp)] at h
    injection h with hx he
    subst hx he
    go_enter Try.func9, Try.ntmps9
    go_wp2
    go_returns
    exact ⟨rfl, rfl⟩
set_option maxHeartbeats 1000000 in
theorem refcheck_any (m s t k : Int) (wk : Bool) (x e : Int) (h : checkM m s t k wk = (x, e)) (w : World) : Calls Try.prog 10 #[.int .u32 m, .int .u32 s, .int .u32 t, .int .u32 k, .bool wk] w fun o w' => o = .returned (.tuple #[.int .i64 x, .int .i64 e]) ∧ w = w' := by
  unfold checkM oldB at h
  rcases gm0 : (m == 0) with _ | _
  · rcases gt0 : (t == 0) with _ | _
    · rcases gs0 : (s == 0) with _ | _
      · rcases gst : (s == t) with _ | _
        · have nm0 : (m != 0) = true := by simp [bne, gm0]
          have nt0 : (t != 0) = true := by simp [bne, gt0]
          have ns0 : (s != 0) = true := by simp [bne, gs0]
          have nst : (s != t) = true := by simp [bne, gst]
          simp only [gm0, nm0, gt0, nt0, gs0, ns0, gst, nst, Bool.false_and, Bool.true_and, Bool.and_false, Bool.and_true, Bool.or_false, Bool.or_true, Bool.true_or, Bool.false_or, Bool.false_eq_true, if_true, if_false] at h
          injection h with hx he
          subst hx he
          go_enter Try.func10, Try.ntmps10
          go_wp2
          go_returns
          exact ⟨rfl, rfl⟩
        · rcases gk0 : (k == 0) with _ | _
          · rcases gkm : (k == m) with _ | _
            · have nm0 : (m != 0) = true := by simp [bne, gm0]
              have nt0 : (t != 0) = true := by simp [bne, gt0]
              have ns0 : (s != 0) = true := by simp [bne, gs0]
              have nst : (s != t) = false := by simp [bne, gst]
              have nk0 : (k != 0) = true := by simp [bne, gk0]
              have nkm : (k != m) = true := by simp [bne, gkm]
              simp only [gm0, nm0, gt0, nt0, gs0, ns0, gst, nst, gk0, nk0, gkm, nkm, Bool.false_and, Bool.true_and, Bool.and_false, Bool.and_true, Bool.or_false, Bool.or_true, Bool.true_or, Bool.false_or, Bool.false_eq_true, if_true, if_false] at h
              injection h with hx he
              subst hx he
              go_enter Try.func10, Try.ntmps10
              go_wp2
              go_returns
              exact ⟨rfl, rfl⟩
            · have nm0 : (m != 0) = true := by simp [bne, gm0]
              have nt0 : (t != 0) = true := by simp [bne, gt0]
              have ns0 : (s != 0) = true := by simp [bne, gs0]
              have nst : (s != t) = false := by simp [bne, gst]
              have nk0 : (k != 0) = true := by simp [bne, gk0]
              have nkm : (k != m) = false := by simp [bne, gkm]
              simp only [gm0, nm0, gt0, nt0, gs0, ns0, gst, nst, gk0, nk0, gkm, nkm, Bool.false_and, Bool.true_and, Bool.and_false, Bool.and_true, Bool.or_false, Bool.or_true, Bool.true_or, Bool.false_or, Bool.false_eq_true, if_true, if_false] at h
              injection h with hx he
              subst hx he
              go_enter Try.func10, Try.ntmps10
              go_wp2
              go_returns
              exact ⟨rfl, rfl⟩
          · rcases wk with _ | _
            · have nm0 : (m != 0) = true := by simp [bne, gm0]
              have nt0 : (t != 0) = true := by simp [bne, gt0]
              have ns0 : (s != 0) = true := by simp [bne, gs0]
              have nst : (s != t) = false := by simp [bne, gst]
              have nk0 : (k != 0) = false := by simp [bne, gk0]
              simp only [gm0, nm0, gt0, nt0, gs0, ns0, gst, nst, gk0, nk0, Bool.false_and, Bool.true_and, Bool.and_false, Bool.and_true, Bool.or_false, Bool.or_true, Bool.true_or, Bool.false_or, Bool.false_eq_true, if_true, if_false] at h
              injection h with hx he
              subst hx he
              go_enter Try.func10, Try.ntmps10
              go_wp2
              go_returns
              exact ⟨rfl, rfl⟩
            · have nm0 : (m != 0) = true := by simp [bne, gm0]
              have nt0 : (t != 0) = true := by simp [bne, gt0]
              have ns0 : (s != 0) = true := by simp [bne, gs0]
              have nst : (s != t) = false := by simp [bne, gst]
              have nk0 : (k != 0) = false := by simp [bne, gk0]
              simp only [gm0, nm0, gt0, nt0, gs0, ns0, gst, nst, gk0, nk0, Bool.false_and, Bool.true_and, Bool.and_false, Bool.and_true, Bool.or_false, Bool.or_true, Bool.true_or, Bool.false_or, Bool.false_eq_true, if_true, if_false] at h
              injection h with hx he
              subst hx he
              go_enter Try.func10, Try.ntmps10
              go_wp2
              go_returns
              exact ⟨rfl, rfl⟩
      · rcases gk0 : (k == 0) with _ | _
        · rcases gkm : (k == m) with _ | _
          · have nm0 : (m != 0) = true := by simp [bne, gm0]
            have nt0 : (t != 0) = true := by simp [bne, gt0]
            have ns0 : (s != 0) = false := by simp [bne, gs0]
            have nk0 : (k != 0) = true := by simp [bne, gk0]
            have nkm : (k != m) = true := by simp [bne, gkm]
            simp only [gm0, nm0, gt0, nt0, gs0, ns0, gk0, nk0, gkm, nkm, Bool.false_and, Bool.true_and, Bool.and_false, Bool.and_true, Bool.or_false, Bool.or_true, Bool.true_or, Bool.false_or, Bool.false_eq_true, if_true, if_false] at h
            injection h with hx he
            subst hx he
            go_enter Try.func10, Try.ntmps10
            go_wp2
            go_returns
            exact ⟨rfl, rfl⟩
          · have nm0 : (m != 0) = true := by simp [bne, gm0]
            have nt0 : (t != 0) = true := by simp [bne, gt0]
            have ns0 : (s != 0) = false := by simp [bne, gs0]
            have nk0 : (k != 0) = true := by simp [bne, gk0]
            have nkm : (k != m) = false := by simp [bne, gkm]
            simp only [gm0, nm0, gt0, nt0, gs0, ns0, gk0, nk0, gkm, nkm, Bool.false_and, Bool.true_and, Bool.and_false, Bool.and_true, Bool.or_false, Bool.or_true, Bool.true_or, Bool.false_or, Bool.false_eq_true, if_true, if_false] at h
            injection h with hx he
            subst hx he
            go_enter Try.func10, Try.ntmps10
            go_wp2
            go_returns
            exact ⟨rfl, rfl⟩
        · rcases wk with _ | _
          · have nm0 : (m != 0) = true := by simp [bne, gm0]
            have nt0 : (t != 0) = true := by simp [bne, gt0]
            have ns0 : (s != 0) = false := by simp [bne, gs0]
            have nk0 : (k != 0) = false := by simp [bne, gk0]
            simp only [gm0, nm0, gt0, nt0, gs0, ns0, gk0, nk0, Bool.false_and, Bool.true_and, Bool.and_false, Bool.and_true, Bool.or_false, Bool.or_true, Bool.true_or, Bool.false_or, Bool.false_eq_true, if_true, if_false] at h
            injection h with hx he
            subst hx he
            go_enter Try.func10, Try.ntmps10
            go_wp2
            go_returns
            exact ⟨rfl, rfl⟩
          · have nm0 : (m != 0) = true := by simp [bne, gm0]
            have nt0 : (t != 0) = true := by simp [bne, gt0]
            have ns0 : (s != 0) = false := by simp [bne, gs0]
            have nk0 : (k != 0) = false := by simp [bne, gk0]
            simp only [gm0, nm0, gt0, nt0, gs0, ns0, gk0, nk0, Bool.false_and, Bool.true_and, Bool.and_false, Bool.and_true, Bool.or_false, Bool.or_true, Bool.true_or, Bool.false_or, Bool.false_eq_true, if_true, if_false] at h
            injection h with hx he
            subst hx he
            go_enter Try.func10, Try.ntmps10
            go_wp2
            go_returns
            exact ⟨rfl, rfl⟩
    · have nm0 : (m != 0) = true := by simp [bne, gm0]
      have nt0 : (t != 0) = false := by simp [bne, gt0]
      simp only [gm0, nm0, gt0, nt0, Bool.false_and, Bool.true_and, Bool.and_false, Bool.and_true, Bool.or_false, Bool.or_true, Bool.true_or, Bool.false_or, Bool.false_eq_true, if_true, if_false] at h
      injection h with hx he
      subst hx he
      go_enter Try.func10, Try.ntmps10
      go_wp2
      go_returns
      exact ⟨rfl, rfl⟩
  · have nm0 : (m != 0) = false := by simp [bne, gm0]
    simp only [gm0, nm0, Bool.false_and, Bool.true_and, Bool.and_false, Bool.and_true, Bool.or_false, Bool.or_true, Bool.true_or, Bool.false_or, Bool.false_eq_true, if_true, if_false] at h
    injection h with hx he
    subst hx he
    go_enter Try.func10, Try.ntmps10
    go_wp2
    go_returns
    exact ⟨rfl, rfl⟩

def nameB (k : Int) : ByteArray := if k = 1 then ⟨#[102, 105, 110, 101]⟩ else if k = 2 then ⟨#[110, 101, 119]⟩ else if k = 3 then ⟨#[99, 104, 97, 110, 103, 101, 100]⟩ else if k = 4 then ⟨#[115, 116, 114, 97, 110, 103, 101]⟩ else if k = 5 then ⟨#[102, 111, 114, 103, 111, 116]⟩ else ⟨#[]⟩
theorem nameB_no (k : Int) (h : k < 1 ∨ 5 < k) : nameB k = ⟨#[]⟩ := by
  unfold nameB
  repeat rw [if_neg (by omega)]
theorem kinds5 (k : Int) : k < 1 ∨ 5 < k ∨ k = 1 ∨ k = 2 ∨ k = 3 ∨ k = 4 ∨ k = 5 := by omega
set_option maxHeartbeats 2000000 in
set_option maxRecDepth 100000 in
theorem name_any (k : Int) (w : World) (b1 : -9223372036854775808 ≤ k) (b2 : k ≤ 9223372036854775807) : Calls Try.prog 13 #[.int .i64 k] w fun e w' => e = .returned (.string (nameB k)) ∧ Below w.heap.size w w' := by
  rcases kinds5 k with h | h | rfl | rfl | rfl | rfl | rfl
  · rw [nameB_no k (.inl h)]
    go_enter Try.func13, Try.ntmps13
    go_wp2
    go_ret
    exact ⟨rfl, by first | exact Below.refl _ _ | exact ba _ _⟩
  · rw [nameB_no k (.inr h)]
    go_enter Try.func13, Try.ntmps13
    go_wp2
    go_ret
    exact ⟨rfl, by first | exact Below.refl _ _ | exact ba _ _⟩
  all_goals
    go_enter Try.func13, Try.ntmps13
    go_wp2
    go_ret
    exact ⟨by first | rfl | simp [nameB], by first | exact Below.refl _ _ | exact ba _ _⟩
set_option maxHeartbeats 2000000 in
set_option maxRecDepth 100000 in
theorem refname_any (k : Int) (w : World) (b1 : -9223372036854775808 ≤ k) (b2 : k ≤ 9223372036854775807) : Calls Try.prog 14 #[.int .i64 k] w fun e w' => e = .returned (.string (nameB k)) ∧ Below w.heap.size w w' := by
  rcases kinds5 k with h | h | rfl | rfl | rfl | rfl | rfl
  · rw [nameB_no k (.inl h)]
    have n1 : (k == 1) = false := beq_eq_false_iff_ne.2 (by omega)
    have n2 : (k == 2) = false := beq_eq_false_iff_ne.2 (by omega)
    have n3 : (k == 3) = false := beq_eq_false_iff_ne.2 (by omega)
    have n4 : (k == 4) = false := beq_eq_false_iff_ne.2 (by omega)
    have n5 : (k == 5) = false := beq_eq_false_iff_ne.2 (by omega)
    clear h
    go_enter Try.func14, Try.ntmps14
    go_wp2
    go_ret
    exact ⟨rfl, by first | exact Below.refl _ _ | exact ba _ _⟩
  · rw [nameB_no k (.inr h)]
    have n1 : (k == 1) = false := beq_eq_false_iff_ne.2 (by omega)
    have n2 : (k == 2) = false := beq_eq_false_iff_ne.2 (by omega)
    have n3 : (k == 3) = false := beq_eq_false_iff_ne.2 (by omega)
    have n4 : (k == 4) = false := beq_eq_false_iff_ne.2 (by omega)
    have n5 : (k == 5) = false := beq_eq_false_iff_ne.2 (by omega)
    clear h
    go_enter Try.func14, Try.ntmps14
    go_wp2
    go_ret
    exact ⟨rfl, by first | exact Below.refl _ _ | exact ba _ _⟩
  all_goals
    go_enter Try.func14, Try.ntmps14
    go_wp2
    go_ret
    exact ⟨by first | rfl | simp [nameB], by first | exact Below.refl _ _ | exact ba _ _⟩
end Go.Proofs.Ytcihmjflfcbgmaa
