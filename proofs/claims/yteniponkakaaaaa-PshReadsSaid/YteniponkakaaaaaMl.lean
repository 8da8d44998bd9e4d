/- Layer 6: what is cut, or has others behind it, is none. -/
import Derived.Test.YteniponkakaaaaaMh
import Derived.Test.YteniponkakaaaaaGm
import Derived.Test.YteniponkakaaaaaCopy
namespace Go.Proofs.Yteniponkakaaaaa
open Go.RowKit
set_option linter.unusedVariables false
set_option linter.unusedSimpArgs false

theorem writeM_reads (m : MsgV) (L : List UInt8) (h : writeM m = (L, 0)) : ∃ i d, (∀ more, nextR (L ++ more) = (i, d, L.length, 0)) ∧ (∀ n, n < L.length → nextR (L.take n) = (0, [], 0, 11)) ∧ 4 ≤ L.length ∧ L.length ≤ 100 := by
  unfold writeM at h
  rcases ho : okM m with _ | _
  · rw [ho] at h; injection h with _ h; exact absurd h (by decide)
  · rw [if_pos ho] at h
    injection h with h _
    have hk := okM_kind m ho
    have hdl := dataM_len m
    rw [← segs_one _ _ (by omega)] at h
    have hlen : L.length = 4 + (dataM m).length := by
      rw [← h, segs_one _ _ (by omega), segOf_length, putL_length]
    refine ⟨(4864 + m.k).toNat, dataM m, fun more => ?_, fun n hn => ?_, by omega, by omega⟩
    · have := next_write (4864 + m.k).toNat 2048 (dataM m) more (by omega) (by omega) (by omega) (by omega) (by omega)
      rw [h] at this
      exact this
    · have hq := next_cut (4864 + m.k).toNat 2048 n (dataM m) (by omega) (by omega) (by omega) (by omega) (by omega)
      rw [h] at hq
      exact hq hn

set_option maxHeartbeats 1000000 in
theorem read_cut (A : Option Addr) (b : List UInt8) (c n : Nat) (w : World) (hn : Hid (n = b.length)) (h1 : n ≤ c) (h2 : c ≤ 9223372036854775807) (hs : Bs w w.heap.size A b) (hr : Hid (nextR b = (0, [], 0, 11))) : Calls Try.prog 15 #[.slice A n c] w fun e w' => e = .returned (.tuple #[.agg #[.int .i64 0, .int .i64 0, .int .u32 0, .int .u32 0, .bool false, .int .u32 0, .int .u32 0], .int .i64 11]) ∧ Below w.heap.size w w' := by
  have kr := Blk.new w 26 #[.int .i64 0, .int .i64 0, .int .u32 0, .int .u32 0, .bool false, .int .u32 0, .int .u32 0]
  have hbw := ba w (.cells #[.int .i64 0, .int .i64 0, .int .u32 0, .int .u32 0, .bool false, .int .u32 0, .int .u32 0] 26)
  have hb0 := hbw.size
  have hnx := next_any A b c (w.alloc (.cells #[.int .i64 0, .int .i64 0, .int .u32 0, .int .u32 0, .bool false, .int .u32 0, .int .u32 0] 26)) (by rw [← hn.out]; exact h1) h2 (hs.bt hbw)
  rw [hr.out, ← hn.out] at hnx
  clear hb0
  have Hs := Lib.hid hs
  clear hs
  go_enter Try.func15, Try.ntmps15
  go_wp2_with fail
  refine hnx.mono ?_
  clear hnx
  rintro e w1 ⟨A1, c1, rfl, hn1, hb1, hl1, hm1⟩
  have kr1 := (kr.below hb1 kr.lt).alloc (.cells #[.int .i64 0, .slice A1 0 c1] 45)
  have hbf := bt hbw (bt hb1 (ba w1 (.cells #[.int .i64 0, .slice A1 0 c1] 45)))
  clear hb1 kr hn1 hbw hl1 hm1
  have d0 := (kr1).cell 0
  have d1 := (kr1).cell 1
  have d2 := (kr1).cell 2
  have d3 := (kr1).cell 3
  have d4 := (kr1).cell 4
  have d5 := (kr1).cell 5
  have d6 := (kr1).cell 6
  simp only [List.getElem?_toArray, List.getElem?_cons_zero, List.getElem?_cons_succ] at d0 d1 d2 d3 d4 d5 d6
  have f0 := (kr1).frozen 0
  have f1 := (kr1).frozen 1
  have f2 := (kr1).frozen 2
  have f3 := (kr1).frozen 3
  have f4 := (kr1).frozen 4
  have f5 := (kr1).frozen 5
  have f6 := (kr1).frozen 6
  have st0 := kr1.set_ 0 (.int .i64 0)
  have ee0 := st0.cell 0
  have hs0 := hbf.setCell (p := ⟨w.heap.size, 0, none⟩) (by first | (show _ ≤ _; omega) | simp) (.int .i64 0)
  have st1 := st0.set_ 1 (.int .i64 0)
  have ee1 := st1.cell 1
  have hs1 := hs0.setCell (p := ⟨w.heap.size, 1, none⟩) (by first | (show _ ≤ _; omega) | simp) (.int .i64 0)
  have st2 := st1.set_ 2 (.int .u32 0)
  have ee2 := st2.cell 2
  have hs2 := hs1.setCell (p := ⟨w.heap.size, 2, none⟩) (by first | (show _ ≤ _; omega) | simp) (.int .u32 0)
  have st3 := st2.set_ 3 (.int .u32 0)
  have ee3 := st3.cell 3
  have hs3 := hs2.setCell (p := ⟨w.heap.size, 3, none⟩) (by first | (show _ ≤ _; omega) | simp) (.int .u32 0)
  have st4 := st3.set_ 4 (.bool false)
  have ee4 := st4.cell 4
  have hs4 := hs3.setCell (p := ⟨w.heap.size, 4, none⟩) (by first | (show _ ≤ _; omega) | simp) (.bool false)
  have st5 := st4.set_ 5 (.int .u32 0)
  have ee5 := st5.cell 5
  have hs5 := hs4.setCell (p := ⟨w.heap.size, 5, none⟩) (by first | (show _ ≤ _; omega) | simp) (.int .u32 0)
  have st6 := st5.set_ 6 (.int .u32 0)
  have ee6 := st6.cell 6
  have hs6 := hs5.setCell (p := ⟨w.heap.size, 6, none⟩) (by first | (show _ ≤ _; omega) | simp) (.int .u32 0)
  simp at ee0 ee1 ee2 ee3 ee4 ee5 ee6
  clear st0 st1 st2 st3 st4 st5 st6
  clear kr1
  go_wp2
  refine bodyPost_ret (by simp [results, Try.results15, go_sem, ee0, ee1, ee2, ee3, ee4, ee5, ee6]; try rfl) rfl ?_
  exact ⟨rfl, hs6⟩

set_option maxHeartbeats 1000000 in
theorem read_long (A : Option Addr) (b : List UInt8) (c n : Nat) (i : Nat) (d : List UInt8) (sz : Nat) (hsz : sz < n) (w : World) (hn : Hid (n = b.length)) (h1 : n ≤ c) (h2 : c ≤ 9223372036854775807) (hs : Bs w w.heap.size A b) (hr : Hid (nextR b = (i, d, sz, 0))) : Calls Try.prog 15 #[.slice A n c] w fun e w' => e = .returned (.tuple #[.agg #[.int .i64 0, .int .i64 0, .int .u32 0, .int .u32 0, .bool false, .int .u32 0, .int .u32 0], .int .i64 2]) ∧ Below w.heap.size w w' := by
  have kr := Blk.new w 26 #[.int .i64 0, .int .i64 0, .int .u32 0, .int .u32 0, .bool false, .int .u32 0, .int .u32 0]
  have hbw := ba w (.cells #[.int .i64 0, .int .i64 0, .int .u32 0, .int .u32 0, .bool false, .int .u32 0, .int .u32 0] 26)
  have hb0 := hbw.size
  have hnx := next_any A b c (w.alloc (.cells #[.int .i64 0, .int .i64 0, .int .u32 0, .int .u32 0, .bool false, .int .u32 0, .int .u32 0] 26)) (by rw [← hn.out]; exact h1) h2 (hs.bt hbw)
  rw [hr.out, ← hn.out] at hnx
  clear hb0
  have Hs := Lib.hid hs
  clear hs
  have hszI : (sz : Int) < (n : Int) := by omega
  go_enter Try.func15, Try.ntmps15
  go_wp2_with fail
  refine hnx.mono ?_
  clear hnx
  rintro e w1 ⟨A1, c1, rfl, hn1, hb1, hl1, hm1⟩
  have kr1 := (kr.below hb1 kr.lt).alloc (.cells #[.int .i64 i, .slice A1 d.length c1] 45)
  have hbf := bt hbw (bt hb1 (ba w1 (.cells #[.int .i64 i, .slice A1 d.length c1] 45)))
  clear hb1 kr hn1 hbw hl1 hm1
  have d0 := (kr1).cell 0
  have d1 := (kr1).cell 1
  have d2 := (kr1).cell 2
  have d3 := (kr1).cell 3
  have d4 := (kr1).cell 4
  have d5 := (kr1).cell 5
  have d6 := (kr1).cell 6
  simp only [List.getElem?_toArray, List.getElem?_cons_zero, List.getElem?_cons_succ] at d0 d1 d2 d3 d4 d5 d6
  have f0 := (kr1).frozen 0
  have f1 := (kr1).frozen 1
  have f2 := (kr1).frozen 2
  have f3 := (kr1).frozen 3
  have f4 := (kr1).frozen 4
  have f5 := (kr1).frozen 5
  have f6 := (kr1).frozen 6
  have st0 := kr1.set_ 0 (.int .i64 0)
  have ee0 := st0.cell 0
  have hs0 := hbf.setCell (p := ⟨w.heap.size, 0, none⟩) (by first | (show _ ≤ _; omega) | simp) (.int .i64 0)
  have st1 := st0.set_ 1 (.int .i64 0)
  have ee1 := st1.cell 1
  have hs1 := hs0.setCell (p := ⟨w.heap.size, 1, none⟩) (by first | (show _ ≤ _; omega) | simp) (.int .i64 0)
  have st2 := st1.set_ 2 (.int .u32 0)
  have ee2 := st2.cell 2
  have hs2 := hs1.setCell (p := ⟨w.heap.size, 2, none⟩) (by first | (show _ ≤ _; omega) | simp) (.int .u32 0)
  have st3 := st2.set_ 3 (.int .u32 0)
  have ee3 := st3.cell 3
  have hs3 := hs2.setCell (p := ⟨w.heap.size, 3, none⟩) (by first | (show _ ≤ _; omega) | simp) (.int .u32 0)
  have st4 := st3.set_ 4 (.bool false)
  have ee4 := st4.cell 4
  have hs4 := hs3.setCell (p := ⟨w.heap.size, 4, none⟩) (by first | (show _ ≤ _; omega) | simp) (.bool false)
  have st5 := st4.set_ 5 (.int .u32 0)
  have ee5 := st5.cell 5
  have hs5 := hs4.setCell (p := ⟨w.heap.size, 5, none⟩) (by first | (show _ ≤ _; omega) | simp) (.int .u32 0)
  have st6 := st5.set_ 6 (.int .u32 0)
  have ee6 := st6.cell 6
  have hs6 := hs5.setCell (p := ⟨w.heap.size, 6, none⟩) (by first | (show _ ≤ _; omega) | simp) (.int .u32 0)
  simp at ee0 ee1 ee2 ee3 ee4 ee5 ee6
  clear st0 st1 st2 st3 st4 st5 st6
  clear kr1
  go_wp2
  refine bodyPost_ret (by simp [results, Try.results15, go_sem, ee0, ee1, ee2, ee3, ee4, ee5, ee6]; try rfl) rfl ?_
  exact ⟨rfl, hs6⟩

end Go.Proofs.Yteniponkakaaaaa
