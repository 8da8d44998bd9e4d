/- Layer 6: Read on a variable that takes all bytes. -/
import Derived.Test.YteniponkakaaaaaMq
import Derived.Test.YteniponkakaaaaaMf
namespace Go.Proofs.Yteniponkakaaaaa
open Go.RowKit
set_option linter.unusedVariables false
set_option linter.unusedSimpArgs false
set_option maxHeartbeats 1000000 in
theorem read_err (A : Option Addr) (b : List UInt8) (c n : Nat) (id : Nat) (D : List UInt8) (k uu : Int) (a q : Nat) (mx : Bool) (mi yo : Nat) (hw : Hid (writeM ⟨k, uu, a, q, mx, mi, yo⟩ = ([], 30))) (w : World) (hn : Hid (n = b.length)) (h1 : n ≤ c) (h2 : c ≤ 9223372036854775807) (hs : Bs w w.heap.size A b) (hr : Hid (nextR b = (id, D, n, 0))) (hid : id < 65536) (hm : Hid (messageM id D = ⟨k, uu, a, q, mx, mi, yo⟩)) (hok : MsgOk ⟨k, uu, a, q, mx, mi, yo⟩) : Calls Try.prog 15 #[.slice A n c] w fun e w' => e = .returned (.tuple #[.agg #[.int .i64 0, .int .i64 0, .int .u32 0, .int .u32 0, .bool false, .int .u32 0, .int .u32 0], .int .i64 30]) ∧ Below w.heap.size w w' := by
  have kr := Blk.new w 26 #[.int .i64 0, .int .i64 0, .int .u32 0, .int .u32 0, .bool false, .int .u32 0, .int .u32 0]
  have hbw := ba w (.cells #[.int .i64 0, .int .i64 0, .int .u32 0, .int .u32 0, .bool false, .int .u32 0, .int .u32 0] 26)
  have hnx := next_any A b c (w.alloc (.cells #[.int .i64 0, .int .i64 0, .int .u32 0, .int .u32 0, .bool false, .int .u32 0, .int .u32 0] 26)) (by rw [← hn.out]; exact h1) h2 (hs.bt hbw)
  rw [hr.out, ← hn.out] at hnx
  have hwr := fun w => writeM_any ⟨k, uu, a, q, mx, mi, yo⟩ w hok
  rw [hw.out] at hwr
  unfold OutB MsgV.val MsgV.cs at hwr
  simp only at hwr
  have hmg := fun A c (w : World) h1 h2 h3 => message_any id A D c w hid h1 h2 h3
  rw [hm.out] at hmg
  unfold MsgV.val MsgV.cs at hmg
  simp only at hmg
  have Hwr := Lib.hid hwr
  have Hmg := Lib.hid hmg
  have Hs := Lib.hid hs
  clear hwr hmg hs hok
  go_enter Try.func15, Try.ntmps15
  go_wp2_with fail
  refine hnx.mono ?_
  clear hnx
  rintro e w1 ⟨A1, c1, rfl, hn1, hb1, hl1, hm1⟩
  simp only at hl1 hn1
  have kr1 := (kr.below hb1 kr.lt).alloc (.cells #[.int .i64 id, .slice A1 D.length c1] 45)
  have hq1 := hn1.bs.bt (ba w1 (.cells #[.int .i64 id, .slice A1 D.length c1] 45))
  have hbw1 := bt hbw (bt hb1 (ba w1 (.cells #[.int .i64 id, .slice A1 D.length c1] 45)))
  clear hb1 kr hn1 hbw
  go_wp2_with fail
  refine (Hmg.out A1 c1 _ hl1 hm1 hq1).mono ?_
  rintro e w2 ⟨rfl, hb2⟩
  have kr2 := (kr1.below hb2 kr1.lt).alloc (.cells #[.int .i64 k, .int .i64 uu, .int .u32 a, .int .u32 q, .bool mx, .int .u32 mi, .int .u32 yo] 26)
  have km2 := Blk.new w2 26 #[.int .i64 k, .int .i64 uu, .int .u32 a, .int .u32 q, .bool mx, .int .u32 mi, .int .u32 yo]
  have hbw2 := bt hbw1 (bt hb2 (ba w2 (.cells #[.int .i64 k, .int .i64 uu, .int .u32 a, .int .u32 q, .bool mx, .int .u32 mi, .int .u32 yo] 26)))
  clear hb2 kr1 hbw1 hq1 hl1 hm1
  go_wp2_with fail
  refine (Hwr.out _).mono ?_
  rintro e w3 ⟨A3, c3, rfl, own3, hb3⟩
  have kr3 := kr2.below hb3 kr2.lt
  have km3 := km2.below hb3 km2.lt
  have hbf := bt hbw2 hb3
  clear hbw2 hb3 kr2 km2
  clear own3
  have d0 := (kr3).cell 0
  have d1 := (kr3).cell 1
  have d2 := (kr3).cell 2
  have d3 := (kr3).cell 3
  have d4 := (kr3).cell 4
  have d5 := (kr3).cell 5
  have d6 := (kr3).cell 6
  simp only [List.getElem?_toArray, List.getElem?_cons_zero, List.getElem?_cons_succ] at d0 d1 d2 d3 d4 d5 d6
  have f0 := (kr3).frozen 0
  have f1 := (kr3).frozen 1
  have f2 := (kr3).frozen 2
  have f3 := (kr3).frozen 3
  have f4 := (kr3).frozen 4
  have f5 := (kr3).frozen 5
  have f6 := (kr3).frozen 6
  have st0 := kr3.set_ 0 (.int .i64 0)
  have ee0 := st0.cell 0
  have hs0 := hbf.setCell (p := ⟨w.heap.size, 0, none⟩) (by first | (show _ ≤ _; omega) | simp) (.int .i64 0)
  have st1 := st0.set_ 1 (.int .i64 0)
  have ee1 := st1.cell 1
  have hs1 := hs0.setCell (p := ⟨w.heap.size, 1, none⟩) (by first | (show _ ≤ _; omega) | simp) (.int .i64 0)
  have st2 := st1.set_ 2 (.int .u32 0)
  have ee2 := st2.cell 2
  have hs2 := hs1.setCell (p := ⟨w.heap.size, 2, none⟩) (by first | (show _ ≤ _; omega) | simp) (.int .u32 0)
  have st3 := st2.set_ 3 (.int .u32 0)
  have ee3 := st3.cell 3
  have hs3 := hs2.setCell (p := ⟨w.heap.size, 3, none⟩) (by first | (show _ ≤ _; omega) | simp) (.int .u32 0)
  have st4 := st3.set_ 4 (.bool false)
  have ee4 := st4.cell 4
  have hs4 := hs3.setCell (p := ⟨w.heap.size, 4, none⟩) (by first | (show _ ≤ _; omega) | simp) (.bool false)
  have st5 := st4.set_ 5 (.int .u32 0)
  have ee5 := st5.cell 5
  have hs5 := hs4.setCell (p := ⟨w.heap.size, 5, none⟩) (by first | (show _ ≤ _; omega) | simp) (.int .u32 0)
  have st6 := st5.set_ 6 (.int .u32 0)
  have ee6 := st6.cell 6
  have hs6 := hs5.setCell (p := ⟨w.heap.size, 6, none⟩) (by first | (show _ ≤ _; omega) | simp) (.int .u32 0)
  simp at ee0 ee1 ee2 ee3 ee4 ee5 ee6
  clear st0 st1 st2 st3 st4 st5 st6
  clear kr3 km3
  go_wp2
  refine bodyPost_ret (by simp [results, Try.results15, go_sem, ee0, ee1, ee2, ee3, ee4, ee5, ee6]; try rfl) rfl ?_
  exact ⟨rfl, hs6⟩

set_option maxHeartbeats 1000000 in
theorem read_diff (A : Option Addr) (b : List UInt8) (c n : Nat) (id : Nat) (D : List UInt8) (k uu : Int) (a q : Nat) (mx : Bool) (mi yo : Nat) (L : List UInt8) (hw : Hid (writeM ⟨k, uu, a, q, mx, mi, yo⟩ = (L, 0))) (hne : Hid (L ≠ b)) (w : World) (hn : Hid (n = b.length)) (h1 : n ≤ c) (h2 : c ≤ 9223372036854775807) (hs : Bs w w.heap.size A b) (hr : Hid (nextR b = (id, D, n, 0))) (hid : id < 65536) (hm : Hid (messageM id D = ⟨k, uu, a, q, mx, mi, yo⟩)) (hok : MsgOk ⟨k, uu, a, q, mx, mi, yo⟩) : Calls Try.prog 15 #[.slice A n c] w fun e w' => e = .returned (.tuple #[.agg #[.int .i64 0, .int .i64 0, .int .u32 0, .int .u32 0, .bool false, .int .u32 0, .int .u32 0], .int .i64 30]) ∧ Below w.heap.size w w' := by
  have kr := Blk.new w 26 #[.int .i64 0, .int .i64 0, .int .u32 0, .int .u32 0, .bool false, .int .u32 0, .int .u32 0]
  have hbw := ba w (.cells #[.int .i64 0, .int .i64 0, .int .u32 0, .int .u32 0, .bool false, .int .u32 0, .int .u32 0] 26)
  have hnx := next_any A b c (w.alloc (.cells #[.int .i64 0, .int .i64 0, .int .u32 0, .int .u32 0, .bool false, .int .u32 0, .int .u32 0] 26)) (by rw [← hn.out]; exact h1) h2 (hs.bt hbw)
  rw [hr.out, ← hn.out] at hnx
  have hwr := fun w => writeM_any ⟨k, uu, a, q, mx, mi, yo⟩ w hok
  rw [hw.out] at hwr
  unfold OutB MsgV.val MsgV.cs at hwr
  simp only at hwr
  have hmg := fun A c (w : World) h1 h2 h3 => message_any id A D c w hid h1 h2 h3
  rw [hm.out] at hmg
  unfold MsgV.val MsgV.cs at hmg
  simp only at hmg
  have Hwr := Lib.hid hwr
  have Hmg := Lib.hid hmg
  have Hs := Lib.hid hs
  clear hwr hmg hs hok
  go_enter Try.func15, Try.ntmps15
  go_wp2_with fail
  refine hnx.mono ?_
  clear hnx
  rintro e w1 ⟨A1, c1, rfl, hn1, hb1, hl1, hm1⟩
  simp only at hl1 hn1
  have kr1 := (kr.below hb1 kr.lt).alloc (.cells #[.int .i64 id, .slice A1 D.length c1] 45)
  have hq1 := hn1.bs.bt (ba w1 (.cells #[.int .i64 id, .slice A1 D.length c1] 45))
  have hbw1 := bt hbw (bt hb1 (ba w1 (.cells #[.int .i64 id, .slice A1 D.length c1] 45)))
  clear hb1 kr hn1 hbw
  go_wp2_with fail
  refine (Hmg.out A1 c1 _ hl1 hm1 hq1).mono ?_
  rintro e w2 ⟨rfl, hb2⟩
  have kr2 := (kr1.below hb2 kr1.lt).alloc (.cells #[.int .i64 k, .int .i64 uu, .int .u32 a, .int .u32 q, .bool mx, .int .u32 mi, .int .u32 yo] 26)
  have km2 := Blk.new w2 26 #[.int .i64 k, .int .i64 uu, .int .u32 a, .int .u32 q, .bool mx, .int .u32 mi, .int .u32 yo]
  have hbw2 := bt hbw1 (bt hb2 (ba w2 (.cells #[.int .i64 k, .int .i64 uu, .int .u32 a, .int .u32 q, .bool mx, .int .u32 mi, .int .u32 yo] 26)))
  clear hb2 kr1 hbw1 hq1 hl1 hm1
  go_wp2_with fail
  refine (Hwr.out _).mono ?_
  rintro e w3 ⟨A3, c3, rfl, own3, hb3⟩
  have kr3 := kr2.below hb3 kr2.lt
  have km3 := km2.below hb3 km2.lt
  have hbf := bt hbw2 hb3
  clear hbw2 hb3 kr2 km2
  have hbs3 := Hs.out.bt hbf
  go_wp2_with fail
  refine (equal_diff A3 A L b _ _ c3 c w3 (Lib.hid rfl) hn own3.bs hbs3 hne).mono ?_
  rintro e w4 ⟨rfl, rfl⟩
  clear hbs3
  clear own3
  have d0 := (kr3).cell 0
  have d1 := (kr3).cell 1
  have d2 := (kr3).cell 2
  have d3 := (kr3).cell 3
  have d4 := (kr3).cell 4
  have d5 := (kr3).cell 5
  have d6 := (kr3).cell 6
  simp only [List.getElem?_toArray, List.getElem?_cons_zero, List.getElem?_cons_succ] at d0 d1 d2 d3 d4 d5 d6
  have f0 := (kr3).frozen 0
  have f1 := (kr3).frozen 1
  have f2 := (kr3).frozen 2
  have f3 := (kr3).frozen 3
  have f4 := (kr3).frozen 4
  have f5 := (kr3).frozen 5
  have f6 := (kr3).frozen 6
  have st0 := kr3.set_ 0 (.int .i64 0)
  have ee0 := st0.cell 0
  have hs0 := hbf.setCell (p := ⟨w.heap.size, 0, none⟩) (by first | (show _ ≤ _; omega) | simp) (.int .i64 0)
  have st1 := st0.set_ 1 (.int .i64 0)
  have ee1 := st1.cell 1
  have hs1 := hs0.setCell (p := ⟨w.heap.size, 1, none⟩) (by first | (show _ ≤ _; omega) | simp) (.int .i64 0)
  have st2 := st1.set_ 2 (.int .u32 0)
  have ee2 := st2.cell 2
  have hs2 := hs1.setCell (p := ⟨w.heap.size, 2, none⟩) (by first | (show _ ≤ _; omega) | simp) (.int .u32 0)
  have st3 := st2.set_ 3 (.int .u32 0)
  have ee3 := st3.cell 3
  have hs3 := hs2.setCell (p := ⟨w.heap.size, 3, none⟩) (by first | (show _ ≤ _; omega) | simp) (.int .u32 0)
  have st4 := st3.set_ 4 (.bool false)
  have ee4 := st4.cell 4
  have hs4 := hs3.setCell (p := ⟨w.heap.size, 4, none⟩) (by first | (show _ ≤ _; omega) | simp) (.bool false)
  have st5 := st4.set_ 5 (.int .u32 0)
  have ee5 := st5.cell 5
  have hs5 := hs4.setCell (p := ⟨w.heap.size, 5, none⟩) (by first | (show _ ≤ _; omega) | simp) (.int .u32 0)
  have st6 := st5.set_ 6 (.int .u32 0)
  have ee6 := st6.cell 6
  have hs6 := hs5.setCell (p := ⟨w.heap.size, 6, none⟩) (by first | (show _ ≤ _; omega) | simp) (.int .u32 0)
  simp at ee0 ee1 ee2 ee3 ee4 ee5 ee6
  clear st0 st1 st2 st3 st4 st5 st6
  clear kr3 km3
  go_wp2
  refine bodyPost_ret (by simp [results, Try.results15, go_sem, ee0, ee1, ee2, ee3, ee4, ee5, ee6]; try rfl) rfl ?_
  exact ⟨rfl, hs6⟩

set_option maxHeartbeats 1000000 in
theorem read_same (A : Option Addr) (b : List UInt8) (c n : Nat) (id : Nat) (D : List UInt8) (k uu : Int) (a q : Nat) (mx : Bool) (mi yo : Nat) (hw : Hid (writeM ⟨k, uu, a, q, mx, mi, yo⟩ = (b, 0))) (w : World) (hn : Hid (n = b.length)) (h1 : n ≤ c) (h2 : c ≤ 9223372036854775807) (hs : Bs w w.heap.size A b) (hr : Hid (nextR b = (id, D, n, 0))) (hid : id < 65536) (hm : Hid (messageM id D = ⟨k, uu, a, q, mx, mi, yo⟩)) (hok : MsgOk ⟨k, uu, a, q, mx, mi, yo⟩) : Calls Try.prog 15 #[.slice A n c] w fun e w' => e = .returned (.tuple #[.agg #[.int .i64 k, .int .i64 uu, .int .u32 a, .int .u32 q, .bool mx, .int .u32 mi, .int .u32 yo], .int .i64 0]) ∧ Below w.heap.size w w' := by
  have kr := Blk.new w 26 #[.int .i64 0, .int .i64 0, .int .u32 0, .int .u32 0, .bool false, .int .u32 0, .int .u32 0]
  have hbw := ba w (.cells #[.int .i64 0, .int .i64 0, .int .u32 0, .int .u32 0, .bool false, .int .u32 0, .int .u32 0] 26)
  have hnx := next_any A b c (w.alloc (.cells #[.int .i64 0, .int .i64 0, .int .u32 0, .int .u32 0, .bool false, .int .u32 0, .int .u32 0] 26)) (by rw [← hn.out]; exact h1) h2 (hs.bt hbw)
  rw [hr.out, ← hn.out] at hnx
  have hwr := fun w => writeM_any ⟨k, uu, a, q, mx, mi, yo⟩ w hok
  rw [hw.out] at hwr
  unfold OutB MsgV.val MsgV.cs at hwr
  simp only at hwr
  have hmg := fun A c (w : World) h1 h2 h3 => message_any id A D c w hid h1 h2 h3
  rw [hm.out] at hmg
  unfold MsgV.val MsgV.cs at hmg
  simp only at hmg
  have Hwr := Lib.hid hwr
  have Hmg := Lib.hid hmg
  have Hs := Lib.hid hs
  clear hwr hmg hs hok
  go_enter Try.func15, Try.ntmps15
  go_wp2_with fail
  refine hnx.mono ?_
  clear hnx
  rintro e w1 ⟨A1, c1, rfl, hn1, hb1, hl1, hm1⟩
  simp only at hl1 hn1
  have kr1 := (kr.below hb1 kr.lt).alloc (.cells #[.int .i64 id, .slice A1 D.length c1] 45)
  have hq1 := hn1.bs.bt (ba w1 (.cells #[.int .i64 id, .slice A1 D.length c1] 45))
  have hbw1 := bt hbw (bt hb1 (ba w1 (.cells #[.int .i64 id, .slice A1 D.length c1] 45)))
  clear hb1 kr hn1 hbw
  go_wp2_with fail
  refine (Hmg.out A1 c1 _ hl1 hm1 hq1).mono ?_
  rintro e w2 ⟨rfl, hb2⟩
  have kr2 := (kr1.below hb2 kr1.lt).alloc (.cells #[.int .i64 k, .int .i64 uu, .int .u32 a, .int .u32 q, .bool mx, .int .u32 mi, .int .u32 yo] 26)
  have km2 := Blk.new w2 26 #[.int .i64 k, .int .i64 uu, .int .u32 a, .int .u32 q, .bool mx, .int .u32 mi, .int .u32 yo]
  have hbw2 := bt hbw1 (bt hb2 (ba w2 (.cells #[.int .i64 k, .int .i64 uu, .int .u32 a, .int .u32 q, .bool mx, .int .u32 mi, .int .u32 yo] 26)))
  clear hb2 kr1 hbw1 hq1 hl1 hm1
  go_wp2_with fail
  refine (Hwr.out _).mono ?_
  rintro e w3 ⟨A3, c3, rfl, own3, hb3⟩
  have kr3 := kr2.below hb3 kr2.lt
  have km3 := km2.below hb3 km2.lt
  have hbf := bt hbw2 hb3
  clear hbw2 hb3 kr2 km2
  have hbs3 := Hs.out.bt hbf
  rw [← hn.out]
  go_wp2_with fail
  refine (equal_same A3 A b n c3 c w3 hn own3.bs hbs3).mono ?_
  rintro e w4 ⟨rfl, rfl⟩
  clear hbs3
  clear own3
  have c0 := (km3).cell 0
  have c1 := (km3).cell 1
  have c2 := (km3).cell 2
  have c3 := (km3).cell 3
  have c4 := (km3).cell 4
  have c5 := (km3).cell 5
  have c6 := (km3).cell 6
  simp only [List.getElem?_toArray, List.getElem?_cons_zero, List.getElem?_cons_succ] at c0 c1 c2 c3 c4 c5 c6
  have d0 := (kr3).cell 0
  have d1 := (kr3).cell 1
  have d2 := (kr3).cell 2
  have d3 := (kr3).cell 3
  have d4 := (kr3).cell 4
  have d5 := (kr3).cell 5
  have d6 := (kr3).cell 6
  simp only [List.getElem?_toArray, List.getElem?_cons_zero, List.getElem?_cons_succ] at d0 d1 d2 d3 d4 d5 d6
  have f0 := (kr3).frozen 0
  have f1 := (kr3).frozen 1
  have f2 := (kr3).frozen 2
  have f3 := (kr3).frozen 3
  have f4 := (kr3).frozen 4
  have f5 := (kr3).frozen 5
  have f6 := (kr3).frozen 6
  have st0 := kr3.set_ 0 (.int .i64 k)
  have ee0 := st0.cell 0
  have hs0 := hbf.setCell (p := ⟨w.heap.size, 0, none⟩) (by first | (show _ ≤ _; omega) | simp) (.int .i64 k)
  have st1 := st0.set_ 1 (.int .i64 uu)
  have ee1 := st1.cell 1
  have hs1 := hs0.setCell (p := ⟨w.heap.size, 1, none⟩) (by first | (show _ ≤ _; omega) | simp) (.int .i64 uu)
  have st2 := st1.set_ 2 (.int .u32 a)
  have ee2 := st2.cell 2
  have hs2 := hs1.setCell (p := ⟨w.heap.size, 2, none⟩) (by first | (show _ ≤ _; omega) | simp) (.int .u32 a)
  have st3 := st2.set_ 3 (.int .u32 q)
  have ee3 := st3.cell 3
  have hs3 := hs2.setCell (p := ⟨w.heap.size, 3, none⟩) (by first | (show _ ≤ _; omega) | simp) (.int .u32 q)
  have st4 := st3.set_ 4 (.bool mx)
  have ee4 := st4.cell 4
  have hs4 := hs3.setCell (p := ⟨w.heap.size, 4, none⟩) (by first | (show _ ≤ _; omega) | simp) (.bool mx)
  have st5 := st4.set_ 5 (.int .u32 mi)
  have ee5 := st5.cell 5
  have hs5 := hs4.setCell (p := ⟨w.heap.size, 5, none⟩) (by first | (show _ ≤ _; omega) | simp) (.int .u32 mi)
  have st6 := st5.set_ 6 (.int .u32 yo)
  have ee6 := st6.cell 6
  have hs6 := hs5.setCell (p := ⟨w.heap.size, 6, none⟩) (by first | (show _ ≤ _; omega) | simp) (.int .u32 yo)
  simp at ee0 ee1 ee2 ee3 ee4 ee5 ee6
  clear st0 st1 st2 st3 st4 st5 st6
  clear kr3 km3
  go_wp2
  refine bodyPost_ret (by simp [results, Try.results15, go_sem, ee0, ee1, ee2, ee3, ee4, ee5, ee6]; try rfl) rfl ?_
  exact ⟨rfl, hs6⟩

end Go.Proofs.Yteniponkakaaaaa
