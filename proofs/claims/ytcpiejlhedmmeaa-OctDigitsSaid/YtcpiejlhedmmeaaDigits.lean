/- The law on digits. -/
import Derived.Test.YtcpiejlhedmmeaaUnhexR
import Derived.Test.YtcpiejlhedmmeaaUnhexG
import Derived.Test.YtcpiejlhedmmeaaAlive
namespace Go.Proofs.Ytcpiejlhedmmeaa
open Go.RowKit
set_option linter.unusedVariables false

theorem first_bad (s : ByteArray) : ∀ n : Nat, (∀ j, j < n → isD (cs s j)) ∨ ∃ k, k < n ∧ (∀ j, j < k → isD (cs s j)) ∧ ¬ isD (cs s k)
  | 0 => .inl fun j hj => absurd hj (by omega)
  | n + 1 => by
    rcases first_bad s n with h | ⟨k, h1, h2, h3⟩
    · by_cases hn : isD (cs s n)
      · left
        intro j hj
        by_cases e : j = n
        · rw [e]; exact hn
        · exact h j (by omega)
      · exact .inr ⟨n, by omega, h, hn⟩
    · exact .inr ⟨k, by omega, h2, h3⟩

theorem unhex_both (s : ByteArray) (hs : s.size ≤ 4000) : ∃ (l : List UInt8) (p q : Int),
    (∀ w, Calls Try.prog 27 #[.string s] w fun e w' => ∃ A c, e = .returned (.tuple #[.slice A l.length c, .agg #[.int .i64 p, .int .i64 q]]) ∧ Bs w' w'.heap.size A l ∧ Below w.heap.size w w') ∧
    (∀ w, Calls Try.prog 28 #[.string s] w fun e w' => ∃ A c, e = .returned (.tuple #[.slice A l.length c, .agg #[.int .i64 p, .int .i64 q]]) ∧ Bs w' w'.heap.size A l ∧ Below w.heap.size w w') := by
  rcases first_bad s s.size with h | ⟨k, h1, h2, h3⟩
  · by_cases he : s.size % 2 = 0
    · refine ⟨outL s, 0, 0, fun w => ?_, fun w => ?_⟩
      · exact unhex_good s w hs h he
      · exact refunhex_good s w hs h he
    · refine ⟨[], s.size, 3, fun w => ?_, fun w => ?_⟩
      · exact (unhex_odd s w hs h (by omega)).mono fun e w' ⟨h1, h2⟩ => ⟨none, 0, h1, Bs.nil, h2⟩
      · exact (refunhex_odd s w hs h (by omega)).mono fun e w' ⟨h1, h2⟩ => ⟨none, 0, h1, Bs.nil, h2⟩
  · refine ⟨[], k, 3, fun w => ?_, fun w => ?_⟩
    · exact (unhex_bad s k w hs h1 h2 h3).mono fun e w' ⟨h1, h2⟩ => ⟨none, 0, h1, Bs.nil, h2⟩
    · exact (refunhex_bad s k w hs h1 h2 h3).mono fun e w' ⟨h1, h2⟩ => ⟨none, 0, h1, Bs.nil, h2⟩

set_option maxHeartbeats 1000000 in
theorem octDigits_walk (A : Option Addr) (l : List UInt8) (c : Nat) (s : ByteArray) (w : World) (hb : Bs w w.heap.size A l) (hl : l.length ≤ maxLen) (hs : s.size ≤ maxLen) :
    Calls Try.prog 7 #[.slice A l.length c, .string s] w fun e w' => e = .returned (.bool true) ∧ Below w.heap.size w w' := by
  unfold maxLen at hl hs
  by_cases h : l.length ≤ 2000 ∧ s.size ≤ 4000
  · obtain ⟨h1, h2⟩ := h
    obtain ⟨m, p, q, c1, c2⟩ := unhex_both s h2
    have C1 := Lib.hid c1
    have C2 := Lib.hid c2
    clear c1 c2
    go_enter Try.func7, Try.ntmps7
    go_wp2_with fail
    refine (C1.out _).mono ?_
    rintro e w1 ⟨A1, c1, rfl, hB1, hb1⟩
    go_wp2_with fail
    refine (C2.out _).mono ?_
    rintro e w2 ⟨A2, c2, rfl, hB2, hb2⟩
    obtain ⟨w1', hw1⟩ : ∃ x, x = w1.alloc (.cells #[.int .i64 p, .int .i64 q] 36) := ⟨_, rfl⟩
    rw [← hw1] at hb2
    obtain ⟨w2', hw2⟩ : ∃ x, x = w2.alloc (.cells #[.int .i64 p, .int .i64 q] 36) := ⟨_, rfl⟩
    have k1 : Below w.heap.size w w1' := bt hb1 (by rw [hw1]; exact ba _ _)
    have k2 : Below w1'.heap.size w1' w2' := bt hb2 (by rw [hw2]; exact ba _ _)
    have r1 : w1'.heap[w1.heap.size]? = some (.cells #[.int .i64 p, .int .i64 q] 36 (0, 0)) := by rw [hw1]; exact heap_alloc_new w1 _
    have r2 : w2'.heap[w2.heap.size]? = some (.cells #[.int .i64 p, .int .i64 q] 36 (0, 0)) := by rw [hw2]; exact heap_alloc_new w2 _
    have l1 : w1.heap.size < w1'.heap.size := by rw [hw1]; simp
    have l2 : w2.heap.size < w2'.heap.size := by rw [hw2]; simp
    have B1 : Bs w2' w2'.heap.size A1 m := (hB1.bt (show Below w1.heap.size w1 w1' by rw [hw1]; exact ba _ _)).bt k2
    have B2 : Bs w2' w2'.heap.size A2 m := hB2.bt (show Below w2.heap.size w2 w2' by rw [hw2]; exact ba _ _)
    have Hw1 := Lib.hid hw1
    have Hw2 := Lib.hid hw2
    have k12 := bt k1 k2
    clear hw1
    go_wp2_with fail
    rw [← hw2]
    clear hw2
    refine (alive_any _).mono ?_
    rintro e w3 ⟨rfl, hb3⟩
    go_wp2_with fail
    refine (hex_any A l c _ (by omega) (hb.bt (bt k12 hb3))).mono ?_
    rintro e w4 ⟨rfl, hb4⟩
    go_wp2_with fail
    refine (refhex_any A l c _ (by omega) (hb.bt (bt (bt k12 hb3) hb4))).mono ?_
    rintro e w5 ⟨rfl, hb5⟩
    have k5 := bt (bt hb3 hb4) hb5
    have r25 : w5.heap[w2.heap.size]? = _ := (k5.block w2.heap.size l2).trans r2
    have r15 : w5.heap[w1.heap.size]? = _ := ((bt k2 k5).block w1.heap.size l1).trans r1
    have cv1 : (convert 23 9 (.slice A1 m.length c1)).run Try.prog w5 = .ok (.string ⟨m.toArray⟩) w5 :=
      conv_bytes Try.underlying23 Try.underlying5 Try.underlying9 (B1.bt k5) c1
    have cv2 : (convert 23 9 (.slice A2 m.length c2)).run Try.prog w5 = .ok (.string ⟨m.toArray⟩) w5 :=
      conv_bytes Try.underlying23 Try.underlying5 Try.underlying9 (B2.bt k5) c2
    have x10 : w5.cell? ⟨w1.heap.size, 0, none⟩ = some (.int .i64 p) := cell_of_row w5 _ 0 _ _ _ r15
    have x11 : w5.cell? ⟨w1.heap.size, 1, none⟩ = some (.int .i64 q) := cell_of_row w5 _ 1 _ _ _ r15
    have x20 : w5.cell? ⟨w2.heap.size, 0, none⟩ = some (.int .i64 p) := cell_of_row w5 _ 0 _ _ _ r25
    have x21 : w5.cell? ⟨w2.heap.size, 1, none⟩ = some (.int .i64 q) := cell_of_row w5 _ 1 _ _ _ r25
    have Hk := Lib.hid (bt k12 k5)
    clear r1 r2 r15 r25 B1 B2 hB1 hB2 k1 k2 k12 k5 hb3 hb4 hb5
    go_wp2
    go_ret
    exact ⟨by simp, Hk.out⟩
  · have hcases : 2000 < l.length ∨ (l.length ≤ 2000 ∧ 4000 < s.size) := by omega
    clear h
    rcases hcases with h | ⟨h, h'⟩
    all_goals
      go_enter Try.func7, Try.ntmps7
      go_wp2_with fail
      refine (alive_any _).mono ?_
      rintro e w3 ⟨rfl, hb3⟩
      go_wp2
      go_ret
      exact ⟨rfl, hb3⟩
end Go.Proofs.Ytcpiejlhedmmeaa
