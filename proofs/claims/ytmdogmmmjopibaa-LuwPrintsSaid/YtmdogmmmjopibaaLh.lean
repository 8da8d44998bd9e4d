/- The fixed calls of the laws of layer 5 come out as the document says. -/
import Derived.Test.YtmdogmmmjopibaaLd
import Derived.Test.YtmdogmmmjopibaaLg
namespace Go.Proofs.Ytmdogmmmjopibaa
open Go.RowKit
set_option linter.unusedVariables false
set_option linter.unusedSimpArgs false

theorem pr_one : prL 1 20 3 = [98, 50, 48, 46, 51] := by
  unfold prL
  rw [dig_ge 20 (by omega), dig_lt (20 / 10) (by omega), dig_lt 3 (by omega)]
  rfl
theorem write_one (w : World) : Calls Try.prog 9 #[.agg #[.int .i64 1, .int .u32 20, .int .u32 3]] w (OutB w ([1, 0, 0, 0, 20, 0, 0, 0, 3], 0)) := by
  have := write_any 1 20 3 w (by omega) (by omega)
  rw [show wrL 1 20 3 = ([1, 0, 0, 0, 20, 0, 0, 0, 3], 0) by rfl] at this
  exact this
theorem print_one (w : World) : Calls Try.prog 18 #[.agg #[.int .i64 1, .int .u32 20, .int .u32 3]] w fun e w' => e = .returned (.string ⟨#[98, 50, 48, 46, 51]⟩) ∧ Below w.heap.size w w' := by
  have := print_any 1 20 3 w (by omega) (by omega)
  rw [show printL 1 20 3 = [98, 50, 48, 46, 51] by unfold printL; rw [if_pos (by rfl), pr_one]] at this
  exact this
theorem parse_one (w : World) : Calls Try.prog 16 #[.string ⟨#[98, 50, 48, 46, 51]⟩] w fun e w' => e = .returned (.tuple #[.agg #[.int .i64 1, .int .u32 20, .int .u32 3], .int .i64 0]) ∧ Below w.heap.size w w' := by
  refine (parse_any ⟨#[98, 50, 48, 46, 51]⟩ w (by decide)).mono ?_
  rintro e w' ⟨u, a, q, err, hp, rfl, hb⟩
  obtain ⟨rfl, rfl, rfl, rfl⟩ := hp.same (u' := 1) (a' := 20) (q' := 3) (e' := 0) (.inl ⟨rfl, by rfl, by omega, by omega, by rw [pr_one]; rfl⟩)
  exact ⟨rfl, hb⟩
theorem read_none (w : World) : Calls Try.prog 11 #[.slice none 0 0] w fun e w' => e = .returned (.tuple #[.agg #[.int .i64 0, .int .u32 0, .int .u32 0], .int .i64 11]) ∧ Below w.heap.size w w' :=
  read_any none [] 0 w (by simp) (by omega) Bs.nil

set_option maxHeartbeats 1000000 in
theorem alive_any (w : World) : Calls Try.prog 13 #[] w fun e w' => e = .returned (.bool true) ∧ Below w.heap.size w w' := by
  go_enter Try.func13, Try.ntmps13
  go_wp2_with fail
  refine (write_one _).mono ?_
  rintro e w1 ⟨A1, c1, rfl, own1, hb1⟩
  have k0 := (Blk.new w 24 #[.int .i64 1, .int .u32 20, .int .u32 3]).below hb1 (by simp)
  go_wp2_with fail
  refine (parse_one _).mono ?_
  rintro e w2 ⟨rfl, hb2⟩
  go_wp2_with fail
  refine (read_none _).mono ?_
  rintro e w3 ⟨rfl, hb3⟩
  have k2 := (k0.below hb2 k0.lt).alloc (.cells #[.int .i64 1, .int .u32 20, .int .u32 3] 24)
  have k4 := (Blk.new w2 24 #[.int .i64 1, .int .u32 20, .int .u32 3])
  have k2' := (k2.below hb3 k2.lt).alloc (.cells #[.int .i64 0, .int .u32 0, .int .u32 0] 24)
  have k4' := (k4.below hb3 k4.lt).alloc (.cells #[.int .i64 0, .int .u32 0, .int .u32 0] 24)
  have own2 := (((own1.below hb2 (Nat.le_refl _)).alloc (.cells #[.int .i64 1, .int .u32 20, .int .u32 3] 24)).below hb3 (Nat.le_refl _)).alloc (.cells #[.int .i64 0, .int .u32 0, .int .u32 0] 24)
  have hbw : Below w.heap.size w (w3.alloc (.cells #[.int .i64 0, .int .u32 0, .int .u32 0] 24)) := bt (ba w _) (bt hb1 (bt hb2 (bt (ba w2 (.cells #[.int .i64 1, .int .u32 20, .int .u32 3] 24)) (bt hb3 (ba w3 _)))))
  have cv : (convert 25 9 (.slice A1 9 c1)).run Try.prog (w3.alloc (.cells #[.int .i64 0, .int .u32 0, .int .u32 0] 24)) = .ok (.string ⟨#[1, 0, 0, 0, 20, 0, 0, 0, 3]⟩) (w3.alloc (.cells #[.int .i64 0, .int .u32 0, .int .u32 0] 24)) :=
    conv_bytes (l := [1, 0, 0, 0, 20, 0, 0, 0, 3]) Try.underlying25 Try.underlying5 Try.underlying9 own2.bs _
  have c0 := k2'.cell 0
  have c1' := k2'.cell 1
  have c2 := k2'.cell 2
  simp only [List.getElem?_toArray, List.getElem?_cons_zero, List.getElem?_cons_succ] at c0 c1' c2
  clear k2 k4 own1 own2 hb1 hb2 hb3 k0
  go_wp2_with fail
  refine (print_one _).mono ?_
  rintro e w4 ⟨rfl, hb4⟩
  have k5 := k2'.below hb4 k2'.lt
  have k6 := k4'.below hb4 k4'.lt
  have d0 := k5.cell 0
  have d1 := k5.cell 1
  have d2 := k5.cell 2
  have e0 := k6.cell 0
  have e1 := k6.cell 1
  have e2 := k6.cell 2
  simp only [List.getElem?_toArray, List.getElem?_cons_zero, List.getElem?_cons_succ] at d0 d1 d2 e0 e1 e2
  have hbf := bt hbw hb4
  clear c0 c1' c2 k5 k6 k2' k4' hbw hb4 cv
  go_wp2
  go_ret
  exact ⟨by simp, hbf⟩
end Go.Proofs.Ytmdogmmmjopibaa
