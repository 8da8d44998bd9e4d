/- The law on tapes that are none. -/
import Derived.Test.YtcolioihgblapaaTAlive
import Derived.Test.YtcolioihgblapaaOpenT
namespace Go.Proofs.Ytcolioihgblapaa
open Go.RowKit
set_option linter.unusedVariables false

set_option maxHeartbeats 2000000 in
theorem tapeNobody_in (k n : Int) (A : Option Addr) (b : List UInt8) (c : Nat) (w : World) (hbs : Bs w w.heap.size A b) (hb : b.length ≤ 1000) (k1 : 0 ≤ k) (k2 : k ≤ 4) :
    Calls Try.prog 4 #[.agg #[.int .i64 k, .int .i64 n, .slice A b.length c]] w fun e w' => e = .returned (.bool true) ∧ Below w.heap.size w w' := by
  have hbx := Blk.new w 32 #[.int .i64 k, .int .i64 n, .slice A b.length c]
  go_enter Try.func4, Try.ntmps4
  go_wp2_with fail
  have hbb : Below w.heap.size w ((w.alloc (.cells #[.int .i64 k, .int .i64 n, .slice A b.length c] 32)).alloc (.cells #[.int .i64 0, .slice none 0 0, .int .i64 0] 42)) := bt (ba _ _) (ba _ _)
  have hN : NotMade ((w.alloc (.cells #[.int .i64 k, .int .i64 n, .slice A b.length c] 32)).alloc (.cells #[.int .i64 0, .slice none 0 0, .int .i64 0] 42)) (some ⟨w.heap.size + 1, 0, none⟩) :=
    .inr ⟨_, rfl, by simp⟩
  refine (call_no k n A b c none _ (.inl rfl) (hbs.bt hbb) (by omega) ⟨k1, k2⟩).mono ?_
  rintro e w1 ⟨rfl, hb1⟩
  have y := ((hbx.alloc _).below hb1 (by simp; omega))
  have y0 := y.cell 0
  have y1 := y.cell 1
  have y2 := y.cell 2
  simp only [List.getElem?_toArray, List.getElem?_cons_zero, List.getElem?_cons_succ] at y0 y1 y2
  have hN1 := hN.below hb1
  have hbb1 := bt hbb hb1
  go_wp2_with fail
  refine (call_no k n A b c (some ⟨w.heap.size + 1, 0, none⟩) _ hN1 (hbs.bt hbb1) (by omega) ⟨k1, k2⟩).mono ?_
  rintro e w2 ⟨rfl, hb2⟩
  have hN2 := hN1.below hb2
  have hbb2 := bt hbb1 hb2
  clear hbb hbb1 hN hN1 hb1 hb2 y y0 y1 y2 hbx
  go_wp2_with fail
  refine (alive_any _).mono ?_
  rintro e w3 ⟨rfl, hb3⟩
  have hN3 := hN2.below hb3
  have hbb3 := bt hbb2 hb3
  clear hN2 hbb2 hb3
  go_wp2_with fail
  refine (noBytes none _ (.inl rfl)).mono ?_
  rintro e w4 ⟨rfl, rfl⟩
  go_wp2_with fail
  refine (noBytes _ _ hN3).mono ?_
  rintro e w4 ⟨rfl, rfl⟩
  go_wp2_with fail
  refine (noLen none _ (.inl rfl)).mono ?_
  rintro e w4 ⟨rfl, rfl⟩
  go_wp2_with fail
  refine (noLen _ _ hN3).mono ?_
  rintro e w4 ⟨rfl, rfl⟩
  go_wp2_with fail
  refine (noForced none _ (.inl rfl)).mono ?_
  rintro e w4 ⟨rfl, rfl⟩
  go_wp2_with fail
  refine (noForced _ _ hN3).mono ?_
  rintro e w4 ⟨rfl, rfl⟩
  go_wp2_with fail
  refine (noRoom none _ (.inl rfl)).mono ?_
  rintro e w4 ⟨rfl, rfl⟩
  go_wp2_with fail
  refine (noRoom _ _ hN3).mono ?_
  rintro e w4 ⟨rfl, rfl⟩
  go_wp2
  go_ret
  exact ⟨rfl, hbb3⟩

set_option maxHeartbeats 2000000 in
theorem tapeNobody_out (k n : Int) (A : Option Addr) (b : List UInt8) (c : Nat) (w : World) (hb : b.length ≤ 1000) (hk : k < 0 ∨ 4 < k) :
    Calls Try.prog 4 #[.agg #[.int .i64 k, .int .i64 n, .slice A b.length c]] w fun e w' => e = .returned (.bool true) ∧ Below w.heap.size w w' := by
  rcases hk with hk | hk
  all_goals
    go_enter Try.func4, Try.ntmps4
    go_wp2_with fail
    have hbb : Below w.heap.size w ((w.alloc (.cells #[.int .i64 k, .int .i64 n, .slice A b.length c] 32)).alloc (.cells #[.int .i64 0, .slice none 0 0, .int .i64 0] 42)) := bt (ba _ _) (ba _ _)
    have hN : NotMade ((w.alloc (.cells #[.int .i64 k, .int .i64 n, .slice A b.length c] 32)).alloc (.cells #[.int .i64 0, .slice none 0 0, .int .i64 0] 42)) (some ⟨w.heap.size + 1, 0, none⟩) :=
      .inr ⟨_, rfl, by simp⟩
    refine (alive_any _).mono ?_
    rintro e w3 ⟨rfl, hb3⟩
    have hN3 := hN.below hb3
    have hbb3 := bt hbb hb3
    clear hN hbb hb3
    go_wp2_with fail
    refine (noBytes none _ (.inl rfl)).mono ?_
    rintro e w4 ⟨rfl, rfl⟩
    go_wp2_with fail
    refine (noBytes _ _ hN3).mono ?_
    rintro e w4 ⟨rfl, rfl⟩
    go_wp2_with fail
    refine (noLen none _ (.inl rfl)).mono ?_
    rintro e w4 ⟨rfl, rfl⟩
    go_wp2_with fail
    refine (noLen _ _ hN3).mono ?_
    rintro e w4 ⟨rfl, rfl⟩
    go_wp2_with fail
    refine (noForced none _ (.inl rfl)).mono ?_
    rintro e w4 ⟨rfl, rfl⟩
    go_wp2_with fail
    refine (noForced _ _ hN3).mono ?_
    rintro e w4 ⟨rfl, rfl⟩
    go_wp2_with fail
    refine (noRoom none _ (.inl rfl)).mono ?_
    rintro e w4 ⟨rfl, rfl⟩
    go_wp2_with fail
    refine (noRoom _ _ hN3).mono ?_
    rintro e w4 ⟨rfl, rfl⟩
    go_wp2
    go_ret
    exact ⟨rfl, hbb3⟩

theorem tapeNobody_walk (o : OpV) (w : World) (h : OpOk w o) :
    Calls Try.prog 4 #[o.val] w fun e w' => e = .returned (.bool true) ∧ Below w.heap.size w w' := by
  obtain ⟨k, n, A, b, c⟩ := o
  have hl := h.len
  unfold maxLen at hl
  dsimp only at hl
  show Calls Try.prog _ #[.agg #[.int .i64 k, .int .i64 n, .slice A b.length c]] w _
  by_cases hb : b.length ≤ 1000
  · by_cases hk : 0 ≤ k ∧ k ≤ 4
    · exact tapeNobody_in k n A b c w h.bs hb hk.1 hk.2
    · exact tapeNobody_out k n A b c w hb (by omega)
  · go_enter Try.func4, Try.ntmps4
    go_wp2_with fail
    refine (alive_any _).mono ?_
    rintro e w3 ⟨rfl, hb3⟩
    go_wp2
    go_ret
    exact ⟨rfl, bt (ba _ _) hb3⟩
end Go.Proofs.Ytcolioihgblapaa
