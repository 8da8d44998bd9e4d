/- Layer 17: the laws' walks. -/
import Derived.Test.YtcihmjflfcbgmaaNb
namespace Go.Proofs.Ytcihmjflfcbgmaa
open Go.RowKit
set_option linter.unusedVariables false
set_option linter.unusedSimpArgs false

set_option maxHeartbeats 1000000 in
theorem alive_any (w : World) : Calls Try.prog 11 #[] w fun e w' => e = .returned (.bool true) ∧ Below w.heap.size w w' := by
  have hbw := Below.refl w.heap.size w
  go_enter Try.func11, Try.ntmps11
  go_wp2_with fail
  refine (check_any 1 0 2 0 false 2 0 (by decide) _).mono ?_
  rintro e v1 ⟨rfl, rfl⟩
  go_wp2_with fail
  refine (check_any 1 2 3 0 true 3 0 (by decide) _).mono ?_
  rintro e v2 ⟨rfl, rfl⟩
  go_wp2_with fail
  refine (check_any 0 2 3 0 true 0 1 (by decide) _).mono ?_
  rintro e v3 ⟨rfl, rfl⟩
  go_wp2_with fail
  refine (name_any 5 _ (by decide) (by decide)).mono ?_
  rintro e v4 ⟨rfl, hb⟩
  have hbw := bt hbw hb
  clear hb
  rw [show nameB 5 = ⟨#[102, 111, 114, 103, 111, 116]⟩ by decide]
  go_wp2
  go_ret
  exact ⟨rfl, hbw⟩

set_option maxHeartbeats 1000000 in
theorem namesFinds_walk (m s t k : Nat) (wk : Bool) (f : Int) (w : World) (h1 : m < 4294967296) (h2 : s < 4294967296) (h3 : t < 4294967296) (h4 : k < 4294967296) (f1 : -9223372036854775808 ≤ f) (f2 : f ≤ 9223372036854775807) : Calls Try.prog 3 #[.int .u32 m, .int .u32 s, .int .u32 t, .int .u32 k, .bool wk, .int .i64 f] w fun e w' => e = .returned (.bool true) ∧ Below w.heap.size w w' := by
  clear h1 h2 h3 h4
  generalize (m : Int) = m at *
  generalize (s : Int) = s at *
  generalize (t : Int) = t at *
  generalize (k : Int) = k at *
  obtain hf | rfl | rfl | rfl : (f < 3 ∨ 5 < f) ∨ f = 3 ∨ f = 4 ∨ f = 5 := by omega
  · have hbw := Below.refl w.heap.size w
    have d3 : (f == 3) = false := beq_eq_false_iff_ne.2 (by omega)
    have d4 : (f == 4) = false := beq_eq_false_iff_ne.2 (by omega)
    have d5 : (f == 5) = false := beq_eq_false_iff_ne.2 (by omega)
    have hb : badB f = false := by simp [badB]; omega
    clear hf
    generalize hc : checkM m s t k wk = R
    obtain ⟨x, y⟩ := R
    generalize hn : nameB f = nm
    go_enter Try.func3, Try.ntmps3
    go_wp2_with fail
    refine (check_any m s t k wk x y hc _).mono ?_
    rintro e v1 ⟨rfl, rfl⟩
    go_wp2_with fail
    refine (refcheck_any m s t k wk x y hc _).mono ?_
    rintro e v2 ⟨rfl, rfl⟩
    go_wp2_with fail
    refine (alive_any _).mono ?_
    rintro e v3 ⟨rfl, hb⟩
    have hbw := bt hbw hb
    clear hb
    go_wp2_with fail
    refine (bad_any f _ hb _).mono ?_
    rintro e v9 ⟨rfl, rfl⟩
    have hn1 := fun w => name_any f w (by omega) (by omega)
    have hn2 := fun w => refname_any f w (by omega) (by omega)
    rw [hn] at hn1 hn2
    go_wp2_with fail
    refine (hn1 _).mono ?_
    rintro e v4 ⟨rfl, hb⟩
    have hbw := bt hbw hb
    clear hb
    go_wp2_with fail
    refine (hn2 _).mono ?_
    rintro e v5 ⟨rfl, hb⟩
    have hbw := bt hbw hb
    clear hb
    go_wp2
    go_ret
    exact ⟨rfl, hbw⟩
  · have hbw := Below.refl w.heap.size w
    have hb : badB 3 = true := by decide
    generalize hc : checkM m s t k wk = R
    obtain ⟨x, y⟩ := R
    generalize hn : nameB 3 = nm
    go_enter Try.func3, Try.ntmps3
    go_wp2_with fail
    refine (check_any m s t k wk x y hc _).mono ?_
    rintro e v1 ⟨rfl, rfl⟩
    go_wp2_with fail
    refine (refcheck_any m s t k wk x y hc _).mono ?_
    rintro e v2 ⟨rfl, rfl⟩
    go_wp2_with fail
    refine (alive_any _).mono ?_
    rintro e v3 ⟨rfl, hb⟩
    have hbw := bt hbw hb
    clear hb
    go_wp2_with fail
    refine (bad_any 3 _ hb _).mono ?_
    rintro e v9 ⟨rfl, rfl⟩
    have hn1 := fun w => name_any 3 w (by omega) (by omega)
    have hn2 := fun w => refname_any 3 w (by omega) (by omega)
    rw [hn] at hn1 hn2
    go_wp2_with fail
    refine (hn1 _).mono ?_
    rintro e v4 ⟨rfl, hb⟩
    have hbw := bt hbw hb
    clear hb
    go_wp2_with fail
    refine (hn2 _).mono ?_
    rintro e v5 ⟨rfl, hb⟩
    have hbw := bt hbw hb
    clear hb
    go_wp2
    go_ret
    exact ⟨rfl, hbw⟩
  · have hbw := Below.refl w.heap.size w
    have hb : badB 4 = true := by decide
    generalize hc : checkM m s t k wk = R
    obtain ⟨x, y⟩ := R
    generalize hn : nameB 4 = nm
    go_enter Try.func3, Try.ntmps3
    go_wp2_with fail
    refine (check_any m s t k wk x y hc _).mono ?_
    rintro e v1 ⟨rfl, rfl⟩
    go_wp2_with fail
    refine (refcheck_any m s t k wk x y hc _).mono ?_
    rintro e v2 ⟨rfl, rfl⟩
    go_wp2_with fail
    refine (alive_any _).mono ?_
    rintro e v3 ⟨rfl, hb⟩
    have hbw := bt hbw hb
    clear hb
    go_wp2_with fail
    refine (bad_any 4 _ hb _).mono ?_
    rintro e v9 ⟨rfl, rfl⟩
    have hn1 := fun w => name_any 4 w (by omega) (by omega)
    have hn2 := fun w => refname_any 4 w (by omega) (by omega)
    rw [hn] at hn1 hn2
    go_wp2_with fail
    refine (hn1 _).mono ?_
    rintro e v4 ⟨rfl, hb⟩
    have hbw := bt hbw hb
    clear hb
    go_wp2_with fail
    refine (hn2 _).mono ?_
    rintro e v5 ⟨rfl, hb⟩
    have hbw := bt hbw hb
    clear hb
    go_wp2
    go_ret
    exact ⟨rfl, hbw⟩
  · have hbw := Below.refl w.heap.size w
    have hb : badB 5 = true := by decide
    generalize hc : checkM m s t k wk = R
    obtain ⟨x, y⟩ := R
    generalize hn : nameB 5 = nm
    go_enter Try.func3, Try.ntmps3
    go_wp2_with fail
    refine (check_any m s t k wk x y hc _).mono ?_
    rintro e v1 ⟨rfl, rfl⟩
    go_wp2_with fail
    refine (refcheck_any m s t k wk x y hc _).mono ?_
    rintro e v2 ⟨rfl, rfl⟩
    go_wp2_with fail
    refine (alive_any _).mono ?_
    rintro e v3 ⟨rfl, hb⟩
    have hbw := bt hbw hb
    clear hb
    go_wp2_with fail
    refine (bad_any 5 _ hb _).mono ?_
    rintro e v9 ⟨rfl, rfl⟩
    have hn1 := fun w => name_any 5 w (by omega) (by omega)
    have hn2 := fun w => refname_any 5 w (by omega) (by omega)
    rw [hn] at hn1 hn2
    go_wp2_with fail
    refine (hn1 _).mono ?_
    rintro e v4 ⟨rfl, hb⟩
    have hbw := bt hbw hb
    clear hb
    go_wp2_with fail
    refine (hn2 _).mono ?_
    rintro e v5 ⟨rfl, hb⟩
    have hbw := bt hbw hb
    clear hb
    go_wp2
    go_ret
    exact ⟨rfl, hbw⟩
end Go.Proofs.Ytcihmjflfcbgmaa
