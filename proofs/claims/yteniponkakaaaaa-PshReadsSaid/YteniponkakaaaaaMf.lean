/- Layer 6: the fixed calls of the laws. -/
import Derived.Test.YteniponkakaaaaaMe
namespace Go.Proofs.Yteniponkakaaaaa
open Go.RowKit
set_option linter.unusedVariables false
set_option linter.unusedSimpArgs false

theorem msg_ok0 (k : Int) (h1 : 0 ≤ k) (h2 : k ≤ 100) : MsgOk ⟨k, 0, 0, 0, false, 0, 0⟩ := by constructor <;> simp <;> omega
theorem write_13 (w : World) : Calls Try.prog 8 #[.agg #[.int .i64 13, .int .i64 0, .int .u32 0, .int .u32 0, .bool false, .int .u32 0, .int .u32 0]] w (OutB w ([0, 4, 19, 13], 0)) := by
  have := writeM_any ⟨13, 0, 0, 0, false, 0, 0⟩ w (msg_ok0 13 (by omega) (by omega))
  rw [show writeM ⟨13, 0, 0, 0, false, 0, 0⟩ = ([0, 4, 19, 13], 0) by decide] at this
  exact this
theorem write_0 (w : World) : Calls Try.prog 8 #[.agg #[.int .i64 0, .int .i64 0, .int .u32 0, .int .u32 0, .bool false, .int .u32 0, .int .u32 0]] w (OutB w ([], 30)) := by
  have := writeM_any ⟨0, 0, 0, 0, false, 0, 0⟩ w (msg_ok0 0 (by omega) (by omega))
  rw [show writeM ⟨0, 0, 0, 0, false, 0, 0⟩ = ([], 30) by decide] at this
  exact this
theorem write_14 (w : World) : Calls Try.prog 8 #[.agg #[.int .i64 14, .int .i64 0, .int .u32 0, .int .u32 0, .bool false, .int .u32 0, .int .u32 0]] w (OutB w ([], 30)) := by
  have := writeM_any ⟨14, 0, 0, 0, false, 0, 0⟩ w (msg_ok0 14 (by omega) (by omega))
  rw [show writeM ⟨14, 0, 0, 0, false, 0, 0⟩ = ([], 30) by decide] at this
  exact this
theorem next_14 (A : Option Addr) (c : Nat) (w : World) (h1 : 4 ≤ c) (h2 : c ≤ 9223372036854775807) (hs : Bs w w.heap.size A [0, 4, 19, 14]) : Calls Try.prog 26 #[.slice A 4 c] w (NextOut w (4878, [], 4, 0)) := by
  have h := next_any A [0, 4, 19, 14] c w h1 h2 hs
  rw [show nextR [0, 4, 19, 14] = (4878, [], 4, 0) by decide] at h
  exact h
theorem message_14 (A : Option Addr) (c : Nat) (w : World) : Calls Try.prog 27 #[.agg #[.int .i64 4878, .slice A 0 c]] w fun e w' => e = .returned (.agg #[.int .i64 14, .int .i64 0, .int .u32 0, .int .u32 0, .bool false, .int .u32 0, .int .u32 0]) ∧ Below w.heap.size w w' :=
  message_none 4878 A 0 c w (by omega) (by omega) (by omega)

set_option maxHeartbeats 1000000 in
theorem read_14 (A : Option Addr) (c : Nat) (w : World) (h1 : 4 ≤ c) (h2 : c ≤ 9223372036854775807) (hs : Bs w w.heap.size A [0, 4, 19, 14]) : Calls Try.prog 15 #[.slice A 4 c] w fun e w' => e = .returned (.tuple #[.agg #[.int .i64 0, .int .i64 0, .int .u32 0, .int .u32 0, .bool false, .int .u32 0, .int .u32 0], .int .i64 30]) ∧ Below w.heap.size w w' := by
  have kr := Blk.new w 26 #[.int .i64 0, .int .i64 0, .int .u32 0, .int .u32 0, .bool false, .int .u32 0, .int .u32 0]
  have hbw := ba w (.cells #[.int .i64 0, .int .i64 0, .int .u32 0, .int .u32 0, .bool false, .int .u32 0, .int .u32 0] 26)
  have Hs := Lib.hid hs
  clear hs
  go_enter Try.func15, Try.ntmps15
  go_wp2_with fail
  refine (next_14 A c _ h1 h2 (Hs.out.bt hbw)).mono ?_
  rintro e w1 ⟨A1, c1, rfl, hn1, hb1, hl1, hm1⟩
  have kr1 := (kr.below hb1 kr.lt).alloc (.cells #[.int .i64 (4878 : Nat), .slice A1 0 c1] 45)
  have hbw := bt hbw (bt hb1 (ba w1 (.cells #[.int .i64 (4878 : Nat), .slice A1 0 c1] 45)))
  clear hb1 kr hn1
  go_wp2_with fail
  refine (message_14 A1 c1 _).mono ?_
  rintro e w2 ⟨rfl, hb2⟩
  have kr2 := (kr1.below hb2 kr1.lt).alloc (.cells #[.int .i64 14, .int .i64 0, .int .u32 0, .int .u32 0, .bool false, .int .u32 0, .int .u32 0] 26)
  have hbw := bt hbw (bt hb2 (ba w2 (.cells #[.int .i64 14, .int .i64 0, .int .u32 0, .int .u32 0, .bool false, .int .u32 0, .int .u32 0] 26)))
  clear hb2 kr1
  go_wp2_with fail
  refine (write_14 _).mono ?_
  rintro e w3 ⟨A3, c3, rfl, own3, hb3⟩
  have kr3 := kr2.below hb3 kr2.lt
  have hbf := bt hbw hb3
  clear hbw hb3 kr2 own3
  have d0 := (kr3).cell 0
  have d1 := (kr3).cell 1
  have d2 := (kr3).cell 2
  have d3 := (kr3).cell 3
  have d4 := (kr3).cell 4
  have d5 := (kr3).cell 5
  have d6 := (kr3).cell 6
  simp only [List.getElem?_toArray, List.getElem?_cons_zero, List.getElem?_cons_succ] at d0 d1 d2 d3 d4 d5 d6
  have f0 := (kr3).frozen 0
  have f1 := (kr3).frozen 1
  have f2 := (kr3).frozen 2
  have f3 := (kr3).frozen 3
  have f4 := (kr3).frozen 4
  have f5 := (kr3).frozen 5
  have f6 := (kr3).frozen 6
  have st0 := kr3.set_ 0 (.int .i64 0)
  have ee0 := st0.cell 0
  have hs0 := hbf.setCell (p := ⟨w.heap.size, 0, none⟩) (by first | (show _ ≤ _; omega) | simp) (.int .i64 0)
  have st1 := st0.set_ 1 (.int .i64 0)
  have ee1 := st1.cell 1
  have hs1 := hs0.setCell (p := ⟨w.heap.size, 1, none⟩) (by first | (show _ ≤ _; omega) | simp) (.int .i64 0)
  have st2 := st1.set_ 2 (.int .u32 0)
  have ee2 := st2.cell 2
  have hs2 := hs1.setCell (p := ⟨w.heap.size, 2, none⟩) (by first | (show _ ≤ _; omega) | simp) (.int .u32 0)
  have st3 := st2.set_ 3 (.int .u32 0)
  have ee3 := st3.cell 3
  have hs3 := hs2.setCell (p := ⟨w.heap.size, 3, none⟩) (by first | (show _ ≤ _; omega) | simp) (.int .u32 0)
  have st4 := st3.set_ 4 (.bool false)
  have ee4 := st4.cell 4
  have hs4 := hs3.setCell (p := ⟨w.heap.size, 4, none⟩) (by first | (show _ ≤ _; omega) | simp) (.bool false)
  have st5 := st4.set_ 5 (.int .u32 0)
  have ee5 := st5.cell 5
  have hs5 := hs4.setCell (p := ⟨w.heap.size, 5, none⟩) (by first | (show _ ≤ _; omega) | simp) (.int .u32 0)
  have st6 := st5.set_ 6 (.int .u32 0)
  have ee6 := st6.cell 6
  have hs6 := hs5.setCell (p := ⟨w.heap.size, 6, none⟩) (by first | (show _ ≤ _; omega) | simp) (.int .u32 0)
  simp at ee0 ee1 ee2 ee3 ee4 ee5 ee6
  clear st0 st1 st2 st3 st4 st5 st6
  clear kr3
  go_wp2
  refine bodyPost_ret (by simp [results, Try.results15, go_sem, ee0, ee1, ee2, ee3, ee4, ee5, ee6]; try rfl) rfl ?_
  exact ⟨rfl, hs6⟩

set_option maxHeartbeats 1000000 in
theorem alive_any (w : World) : Calls Try.prog 10 #[] w fun e w' => e = .returned (.bool true) ∧ Below w.heap.size w w' := by
  have hn9 : ∀ w, Calls Try.prog 13 #[.int .i64 9] w fun e w' => e = .returned (.string ⟨#[102, 111, 114, 103, 101, 116]⟩) ∧ Below w.heap.size w w' := fun w => name_any 9 w (by omega) (by omega)
  go_enter Try.func10, Try.ntmps10
  go_wp2_with fail
  refine (write_13 _).mono ?_
  rintro e w1 ⟨A1, c1, rfl, own1, hb1⟩
  go_wp2_with fail
  refine (write_0 _).mono ?_
  rintro e w2 ⟨A2, c2, rfl, own2, hb2⟩
  go_wp2_with fail
  refine (read_14 _ _ _ (by omega) (by omega) (Bs.lit' (by simp) rfl)).mono ?_
  rintro e w3 ⟨rfl, hb3⟩
  have hb4 := bt hb2 (bt (ba w2 _) hb3)
  have own3 := (own1.below hb4 (Nat.le_refl _)).alloc (.cells #[.int .i64 0, .int .i64 0, .int .u32 0, .int .u32 0, .bool false, .int .u32 0, .int .u32 0] 26)
  have hbf := bt hb1 (bt hb4 (ba w3 (.cells #[.int .i64 0, .int .i64 0, .int .u32 0, .int .u32 0, .bool false, .int .u32 0, .int .u32 0] 26)))
  have cv : (convert 27 9 (.slice A1 4 c1)).run Try.prog (w3.alloc (.cells #[.int .i64 0, .int .i64 0, .int .u32 0, .int .u32 0, .bool false, .int .u32 0, .int .u32 0] 26)) = .ok (.string ⟨#[0, 4, 19, 13]⟩) (w3.alloc (.cells #[.int .i64 0, .int .i64 0, .int .u32 0, .int .u32 0, .bool false, .int .u32 0, .int .u32 0] 26)) :=
    conv_bytes (l := [0, 4, 19, 13]) Try.underlying27 Try.underlying5 Try.underlying9 own3.bs _
  clear own1 own2 own3 hb1 hb2 hb3 hb4
  go_wp2_with fail
  refine (hn9 _).mono ?_
  rintro e w5 ⟨rfl, hb5⟩
  go_wp2
  go_ret
  exact ⟨by simp, bt hbf hb5⟩
end Go.Proofs.Yteniponkakaaaaa
