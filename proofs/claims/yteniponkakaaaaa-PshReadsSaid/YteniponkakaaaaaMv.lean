/- Layer 6: the document's Read. -/
import Derived.Test.YteniponkakaaaaaMu
import Derived.Test.YteniponkakaaaaaMj
import Derived.Test.YteniponkakaaaaaRn
namespace Go.Proofs.Yteniponkakaaaaa
open Go.RowKit
set_option linter.unusedVariables false
set_option linter.unusedSimpArgs false

theorem refnext_n (A : Option Addr) (b : List UInt8) (c n : Nat) (hn : Hid (n = b.length)) (w : World) (hle : n ≤ c) (hm : c ≤ 9223372036854775807) (hb : n ≤ 1000000000) (hs : Bs w w.heap.size A b) :
    Calls Try.prog 29 #[.slice A n c] w (NextOut w (nextR b)) := by
  have e := hn.out
  subst e
  exact refnext_any A b c w hle hm hb hs
theorem conv_n (A : Option Addr) (l : List UInt8) (n c : Nat) (hn : Hid (n = l.length)) (w : World) (B : Nat) (h : Bs w B A l) : (convert 27 9 (.slice A n c)).run Try.prog w = .ok (.string ⟨l.toArray⟩) w := by
  rw [hn.out]; exact conv_bytes Try.underlying27 Try.underlying5 Try.underlying9 h _
set_option maxHeartbeats 1000000 in
theorem rread6_e (A : Option Addr) (b : List UInt8) (c n : Nat) (e0 : Int) (he : (e0 != 0) = true) (w : World) (hn : Hid (n = b.length)) (h1 : n ≤ c) (h2 : c ≤ 9223372036854775807) (hb9 : n ≤ 1000000000) (hs : Bs w w.heap.size A b) (hr : Hid (nextR b = (0, [], 0, e0))) : Calls Try.prog 17 #[.slice A n c] w fun e w' => e = .returned (.tuple #[.agg #[.int .i64 0, .int .i64 0, .int .u32 0, .int .u32 0, .bool false, .int .u32 0, .int .u32 0], .int .i64 e0]) ∧ Below w.heap.size w w' := by
  have kr := Blk.new w 26 #[.int .i64 0, .int .i64 0, .int .u32 0, .int .u32 0, .bool false, .int .u32 0, .int .u32 0]
  have hbw := ba w (.cells #[.int .i64 0, .int .i64 0, .int .u32 0, .int .u32 0, .bool false, .int .u32 0, .int .u32 0] 26)
  have hnx := refnext_n A b c n hn (w.alloc (.cells #[.int .i64 0, .int .i64 0, .int .u32 0, .int .u32 0, .bool false, .int .u32 0, .int .u32 0] 26)) h1 h2 hb9 (hs.bt hbw)
  rw [hr.out] at hnx
  have Hs := Lib.hid hs
  clear hs hb9
  go_enter Try.func17, Try.ntmps17
  go_wp2_with fail
  refine hnx.mono ?_
  clear hnx
  rintro e w1 ⟨A1, c1, rfl, hn1, hb1, hl1, hm1⟩
  have kr1 := (kr.below hb1 kr.lt).alloc (.cells #[.int .i64 0, .slice A1 0 c1] 45)
  have hbf := bt hbw (bt hb1 (ba w1 (.cells #[.int .i64 0, .slice A1 0 c1] 45)))
  clear hb1 kr hn1 hbw hl1 hm1
  have d0 := (kr1).cell 0
  have d1 := (kr1).cell 1
  have d2 := (kr1).cell 2
  have d3 := (kr1).cell 3
  have d4 := (kr1).cell 4
  have d5 := (kr1).cell 5
  have d6 := (kr1).cell 6
  simp only [List.getElem?_toArray, List.getElem?_cons_zero, List.getElem?_cons_succ] at d0 d1 d2 d3 d4 d5 d6
  have f0 := (kr1).frozen 0
  have f1 := (kr1).frozen 1
  have f2 := (kr1).frozen 2
  have f3 := (kr1).frozen 3
  have f4 := (kr1).frozen 4
  have f5 := (kr1).frozen 5
  have f6 := (kr1).frozen 6
  have st0 := kr1.set_ 0 (.int .i64 0)
  have ee0 := st0.cell 0
  have hs0 := hbf.setCell (p := ⟨w.heap.size, 0, none⟩) (by first | (show _ ≤ _; omega) | simp) (.int .i64 0)
  have st1 := st0.set_ 1 (.int .i64 0)
  have ee1 := st1.cell 1
  have hs1 := hs0.setCell (p := ⟨w.heap.size, 1, none⟩) (by first | (show _ ≤ _; omega) | simp) (.int .i64 0)
  have st2 := st1.set_ 2 (.int .u32 0)
  have ee2 := st2.cell 2
  have hs2 := hs1.setCell (p := ⟨w.heap.size, 2, none⟩) (by first | (show _ ≤ _; omega) | simp) (.int .u32 0)
  have st3 := st2.set_ 3 (.int .u32 0)
  have ee3 := st3.cell 3
  have hs3 := hs2.setCell (p := ⟨w.heap.size, 3, none⟩) (by first | (show _ ≤ _; omega) | simp) (.int .u32 0)
  have st4 := st3.set_ 4 (.bool false)
  have ee4 := st4.cell 4
  have hs4 := hs3.setCell (p := ⟨w.heap.size, 4, none⟩) (by first | (show _ ≤ _; omega) | simp) (.bool false)
  have st5 := st4.set_ 5 (.int .u32 0)
  have ee5 := st5.cell 5
  have hs5 := hs4.setCell (p := ⟨w.heap.size, 5, none⟩) (by first | (show _ ≤ _; omega) | simp) (.int .u32 0)
  have st6 := st5.set_ 6 (.int .u32 0)
  have ee6 := st6.cell 6
  have hs6 := hs5.setCell (p := ⟨w.heap.size, 6, none⟩) (by first | (show _ ≤ _; omega) | simp) (.int .u32 0)
  simp at ee0 ee1 ee2 ee3 ee4 ee5 ee6
  clear st0 st1 st2 st3 st4 st5 st6
  clear kr1
  go_wp2
  refine bodyPost_ret (by simp [results, Try.results17, go_sem, ee0, ee1, ee2, ee3, ee4, ee5, ee6]; try rfl) rfl ?_
  exact ⟨rfl, hs6⟩

set_option maxHeartbeats 1000000 in
theorem rread6_long (A : Option Addr) (b : List UInt8) (c n : Nat) (i : Nat) (d : List UInt8) (sz : Nat) (hsz : sz < n) (w : World) (hn : Hid (n = b.length)) (h1 : n ≤ c) (h2 : c ≤ 9223372036854775807) (hb9 : n ≤ 1000000000) (hs : Bs w w.heap.size A b) (hr : Hid (nextR b = (i, d, sz, 0))) : Calls Try.prog 17 #[.slice A n c] w fun e w' => e = .returned (.tuple #[.agg #[.int .i64 0, .int .i64 0, .int .u32 0, .int .u32 0, .bool false, .int .u32 0, .int .u32 0], .int .i64 2]) ∧ Below w.heap.size w w' := by
  have kr := Blk.new w 26 #[.int .i64 0, .int .i64 0, .int .u32 0, .int .u32 0, .bool false, .int .u32 0, .int .u32 0]
  have hbw := ba w (.cells #[.int .i64 0, .int .i64 0, .int .u32 0, .int .u32 0, .bool false, .int .u32 0, .int .u32 0] 26)
  have hnx := refnext_n A b c n hn (w.alloc (.cells #[.int .i64 0, .int .i64 0, .int .u32 0, .int .u32 0, .bool false, .int .u32 0, .int .u32 0] 26)) h1 h2 hb9 (hs.bt hbw)
  rw [hr.out] at hnx
  have Hs := Lib.hid hs
  clear hs hb9
  have hszI : ((sz : Int) != (n : Int)) = true := by simp; omega
  have hszN : ¬ (sz = n) := by omega
  have hszB : (sz == n) = false := beq_eq_false_iff_ne.2 hszN
  go_enter Try.func17, Try.ntmps17
  go_wp2_with fail
  refine hnx.mono ?_
  clear hnx
  rintro e w1 ⟨A1, c1, rfl, hn1, hb1, hl1, hm1⟩
  have kr1 := (kr.below hb1 kr.lt).alloc (.cells #[.int .i64 i, .slice A1 d.length c1] 45)
  have hbf := bt hbw (bt hb1 (ba w1 (.cells #[.int .i64 i, .slice A1 d.length c1] 45)))
  clear hb1 kr hn1 hbw hl1 hm1
  have d0 := (kr1).cell 0
  have d1 := (kr1).cell 1
  have d2 := (kr1).cell 2
  have d3 := (kr1).cell 3
  have d4 := (kr1).cell 4
  have d5 := (kr1).cell 5
  have d6 := (kr1).cell 6
  simp only [List.getElem?_toArray, List.getElem?_cons_zero, List.getElem?_cons_succ] at d0 d1 d2 d3 d4 d5 d6
  have f0 := (kr1).frozen 0
  have f1 := (kr1).frozen 1
  have f2 := (kr1).frozen 2
  have f3 := (kr1).frozen 3
  have f4 := (kr1).frozen 4
  have f5 := (kr1).frozen 5
  have f6 := (kr1).frozen 6
  have st0 := kr1.set_ 0 (.int .i64 0)
  have ee0 := st0.cell 0
  have hs0 := hbf.setCell (p := ⟨w.heap.size, 0, none⟩) (by first | (show _ ≤ _; omega) | simp) (.int .i64 0)
  have st1 := st0.set_ 1 (.int .i64 0)
  have ee1 := st1.cell 1
  have hs1 := hs0.setCell (p := ⟨w.heap.size, 1, none⟩) (by first | (show _ ≤ _; omega) | simp) (.int .i64 0)
  have st2 := st1.set_ 2 (.int .u32 0)
  have ee2 := st2.cell 2
  have hs2 := hs1.setCell (p := ⟨w.heap.size, 2, none⟩) (by first | (show _ ≤ _; omega) | simp) (.int .u32 0)
  have st3 := st2.set_ 3 (.int .u32 0)
  have ee3 := st3.cell 3
  have hs3 := hs2.setCell (p := ⟨w.heap.size, 3, none⟩) (by first | (show _ ≤ _; omega) | simp) (.int .u32 0)
  have st4 := st3.set_ 4 (.bool false)
  have ee4 := st4.cell 4
  have hs4 := hs3.setCell (p := ⟨w.heap.size, 4, none⟩) (by first | (show _ ≤ _; omega) | simp) (.bool false)
  have st5 := st4.set_ 5 (.int .u32 0)
  have ee5 := st5.cell 5
  have hs5 := hs4.setCell (p := ⟨w.heap.size, 5, none⟩) (by first | (show _ ≤ _; omega) | simp) (.int .u32 0)
  have st6 := st5.set_ 6 (.int .u32 0)
  have ee6 := st6.cell 6
  have hs6 := hs5.setCell (p := ⟨w.heap.size, 6, none⟩) (by first | (show _ ≤ _; omega) | simp) (.int .u32 0)
  simp at ee0 ee1 ee2 ee3 ee4 ee5 ee6
  clear st0 st1 st2 st3 st4 st5 st6
  clear kr1
  go_wp2
  refine bodyPost_ret (by simp [results, Try.results17, go_sem, ee0, ee1, ee2, ee3, ee4, ee5, ee6]; try rfl) rfl ?_
  exact ⟨rfl, hs6⟩

set_option maxHeartbeats 1000000 in
theorem rread6_err (A : Option Addr) (b : List UInt8) (c n : Nat) (id : Nat) (D : List UInt8) (k uu : Int) (a q : Nat) (mx : Bool) (mi yo : Nat) (hw : Hid (writeM ⟨k, uu, a, q, mx, mi, yo⟩ = ([], 30))) (w : World) (hn : Hid (n = b.length)) (h1 : n ≤ c) (h2 : c ≤ 9223372036854775807) (hb9 : n ≤ 1000000000) (hs : Bs w w.heap.size A b) (hr : Hid (nextR b = (id, D, n, 0))) (hid : id < 65536) (hm : Hid (guessM id D = ⟨k, uu, a, q, mx, mi, yo⟩)) (hok : MsgOk ⟨k, uu, a, q, mx, mi, yo⟩) : Calls Try.prog 17 #[.slice A n c] w fun e w' => e = .returned (.tuple #[.agg #[.int .i64 0, .int .i64 0, .int .u32 0, .int .u32 0, .bool false, .int .u32 0, .int .u32 0], .int .i64 30]) ∧ Below w.heap.size w w' := by
  have kr := Blk.new w 26 #[.int .i64 0, .int .i64 0, .int .u32 0, .int .u32 0, .bool false, .int .u32 0, .int .u32 0]
  have hbw := ba w (.cells #[.int .i64 0, .int .i64 0, .int .u32 0, .int .u32 0, .bool false, .int .u32 0, .int .u32 0] 26)
  have hnx := refnext_n A b c n hn (w.alloc (.cells #[.int .i64 0, .int .i64 0, .int .u32 0, .int .u32 0, .bool false, .int .u32 0, .int .u32 0] 26)) h1 h2 hb9 (hs.bt hbw)
  rw [hr.out] at hnx
  have hwr := fun w => refwriteM_any ⟨k, uu, a, q, mx, mi, yo⟩ w hok
  rw [hw.out] at hwr
  unfold OutB MsgV.val MsgV.cs at hwr
  simp only at hwr
  have hmg := fun A c (w : World) h1 h2 h3 => guess_any id A D c w hid h1 h2 h3
  rw [hm.out] at hmg
  unfold MsgV.val MsgV.cs at hmg
  simp only at hmg
  have Hwr := Lib.hid hwr
  have Hmg := Lib.hid hmg
  have Hs := Lib.hid hs
  clear hwr hmg hs hok hb9
  go_enter Try.func17, Try.ntmps17
  go_wp2_with fail
  refine hnx.mono ?_
  clear hnx
  rintro e w1 ⟨A1, c1, rfl, hn1, hb1, hl1, hm1⟩
  simp only at hl1 hn1
  have kr1 := (kr.below hb1 kr.lt).alloc (.cells #[.int .i64 id, .slice A1 D.length c1] 45)
  have kv1 := Blk.new w1 45 #[.int .i64 id, .slice A1 D.length c1]
  have hq1 := hn1.bs.bt (ba w1 (.cells #[.int .i64 id, .slice A1 D.length c1] 45))
  have hbw1 := bt hbw (bt hb1 (ba w1 (.cells #[.int .i64 id, .slice A1 D.length c1] 45)))
  have v0 := (kv1).cell 0
  have v1 := (kv1).cell 1
  simp only [List.getElem?_toArray, List.getElem?_cons_zero, List.getElem?_cons_succ] at v0 v1
  clear hb1 kr hn1 hbw kv1
  go_wp2_with fail
  refine (Hmg.out A1 c1 _ hl1 hm1 hq1).mono ?_
  rintro e w2 ⟨rfl, hb2⟩
  have kr2 := (kr1.below hb2 kr1.lt).alloc (.cells #[.int .i64 k, .int .i64 uu, .int .u32 a, .int .u32 q, .bool mx, .int .u32 mi, .int .u32 yo] 26)
  have km2 := Blk.new w2 26 #[.int .i64 k, .int .i64 uu, .int .u32 a, .int .u32 q, .bool mx, .int .u32 mi, .int .u32 yo]
  have hbw2 := bt hbw1 (bt hb2 (ba w2 (.cells #[.int .i64 k, .int .i64 uu, .int .u32 a, .int .u32 q, .bool mx, .int .u32 mi, .int .u32 yo] 26)))
  have g0 := (km2).cell 0
  have g1 := (km2).cell 1
  have g2 := (km2).cell 2
  have g3 := (km2).cell 3
  have g4 := (km2).cell 4
  have g5 := (km2).cell 5
  have g6 := (km2).cell 6
  simp only [List.getElem?_toArray, List.getElem?_cons_zero, List.getElem?_cons_succ] at g0 g1 g2 g3 g4 g5 g6
  clear hb2 kr1 hbw1 hq1 hl1 hm1 v0 v1
  go_wp2_with fail
  refine (Hwr.out _).mono ?_
  rintro e w3 ⟨A3, c3, rfl, own3, hb3⟩
  have kr3 := kr2.below hb3 kr2.lt
  have km3 := km2.below hb3 km2.lt
  have hbf := bt hbw2 hb3
  clear hbw2 hb3 kr2 km2 g0 g1 g2 g3 g4 g5 g6
  clear own3
  have d0 := (kr3).cell 0
  have d1 := (kr3).cell 1
  have d2 := (kr3).cell 2
  have d3 := (kr3).cell 3
  have d4 := (kr3).cell 4
  have d5 := (kr3).cell 5
  have d6 := (kr3).cell 6
  simp only [List.getElem?_toArray, List.getElem?_cons_zero, List.getElem?_cons_succ] at d0 d1 d2 d3 d4 d5 d6
  have f0 := (kr3).frozen 0
  have f1 := (kr3).frozen 1
  have f2 := (kr3).frozen 2
  have f3 := (kr3).frozen 3
  have f4 := (kr3).frozen 4
  have f5 := (kr3).frozen 5
  have f6 := (kr3).frozen 6
  have st0 := kr3.set_ 0 (.int .i64 0)
  have ee0 := st0.cell 0
  have hs0 := hbf.setCell (p := ⟨w.heap.size, 0, none⟩) (by first | (show _ ≤ _; omega) | simp) (.int .i64 0)
  have st1 := st0.set_ 1 (.int .i64 0)
  have ee1 := st1.cell 1
  have hs1 := hs0.setCell (p := ⟨w.heap.size, 1, none⟩) (by first | (show _ ≤ _; omega) | simp) (.int .i64 0)
  have st2 := st1.set_ 2 (.int .u32 0)
  have ee2 := st2.cell 2
  have hs2 := hs1.setCell (p := ⟨w.heap.size, 2, none⟩) (by first | (show _ ≤ _; omega) | simp) (.int .u32 0)
  have st3 := st2.set_ 3 (.int .u32 0)
  have ee3 := st3.cell 3
  have hs3 := hs2.setCell (p := ⟨w.heap.size, 3, none⟩) (by first | (show _ ≤ _; omega) | simp) (.int .u32 0)
  have st4 := st3.set_ 4 (.bool false)
  have ee4 := st4.cell 4
  have hs4 := hs3.setCell (p := ⟨w.heap.size, 4, none⟩) (by first | (show _ ≤ _; omega) | simp) (.bool false)
  have st5 := st4.set_ 5 (.int .u32 0)
  have ee5 := st5.cell 5
  have hs5 := hs4.setCell (p := ⟨w.heap.size, 5, none⟩) (by first | (show _ ≤ _; omega) | simp) (.int .u32 0)
  have st6 := st5.set_ 6 (.int .u32 0)
  have ee6 := st6.cell 6
  have hs6 := hs5.setCell (p := ⟨w.heap.size, 6, none⟩) (by first | (show _ ≤ _; omega) | simp) (.int .u32 0)
  simp at ee0 ee1 ee2 ee3 ee4 ee5 ee6
  clear st0 st1 st2 st3 st4 st5 st6
  clear kr3 km3
  go_wp2
  refine bodyPost_ret (by simp [results, Try.results17, go_sem, ee0, ee1, ee2, ee3, ee4, ee5, ee6]; try rfl) rfl ?_
  exact ⟨rfl, hs6⟩

set_option maxHeartbeats 1000000 in
theorem rread6_diff (A : Option Addr) (b : List UInt8) (c n : Nat) (id : Nat) (D : List UInt8) (k uu : Int) (a q : Nat) (mx : Bool) (mi yo : Nat) (L : List UInt8) (hw : Hid (writeM ⟨k, uu, a, q, mx, mi, yo⟩ = (L, 0))) (hne : Hid (L ≠ b)) (w : World) (hn : Hid (n = b.length)) (h1 : n ≤ c) (h2 : c ≤ 9223372036854775807) (hb9 : n ≤ 1000000000) (hs : Bs w w.heap.size A b) (hr : Hid (nextR b = (id, D, n, 0))) (hid : id < 65536) (hm : Hid (guessM id D = ⟨k, uu, a, q, mx, mi, yo⟩)) (hok : MsgOk ⟨k, uu, a, q, mx, mi, yo⟩) : Calls Try.prog 17 #[.slice A n c] w fun e w' => e = .returned (.tuple #[.agg #[.int .i64 0, .int .i64 0, .int .u32 0, .int .u32 0, .bool false, .int .u32 0, .int .u32 0], .int .i64 30]) ∧ Below w.heap.size w w' := by
  have kr := Blk.new w 26 #[.int .i64 0, .int .i64 0, .int .u32 0, .int .u32 0, .bool false, .int .u32 0, .int .u32 0]
  have hbw := ba w (.cells #[.int .i64 0, .int .i64 0, .int .u32 0, .int .u32 0, .bool false, .int .u32 0, .int .u32 0] 26)
  have hnx := refnext_n A b c n hn (w.alloc (.cells #[.int .i64 0, .int .i64 0, .int .u32 0, .int .u32 0, .bool false, .int .u32 0, .int .u32 0] 26)) h1 h2 hb9 (hs.bt hbw)
  rw [hr.out] at hnx
  have hwr := fun w => refwriteM_any ⟨k, uu, a, q, mx, mi, yo⟩ w hok
  rw [hw.out] at hwr
  unfold OutB MsgV.val MsgV.cs at hwr
  simp only at hwr
  have hmg := fun A c (w : World) h1 h2 h3 => guess_any id A D c w hid h1 h2 h3
  rw [hm.out] at hmg
  unfold MsgV.val MsgV.cs at hmg
  simp only at hmg
  have Hwr := Lib.hid hwr
  have Hmg := Lib.hid hmg
  have Hs := Lib.hid hs
  clear hwr hmg hs hok hb9
  go_enter Try.func17, Try.ntmps17
  go_wp2_with fail
  refine hnx.mono ?_
  clear hnx
  rintro e w1 ⟨A1, c1, rfl, hn1, hb1, hl1, hm1⟩
  simp only at hl1 hn1
  have kr1 := (kr.below hb1 kr.lt).alloc (.cells #[.int .i64 id, .slice A1 D.length c1] 45)
  have kv1 := Blk.new w1 45 #[.int .i64 id, .slice A1 D.length c1]
  have hq1 := hn1.bs.bt (ba w1 (.cells #[.int .i64 id, .slice A1 D.length c1] 45))
  have hbw1 := bt hbw (bt hb1 (ba w1 (.cells #[.int .i64 id, .slice A1 D.length c1] 45)))
  have v0 := (kv1).cell 0
  have v1 := (kv1).cell 1
  simp only [List.getElem?_toArray, List.getElem?_cons_zero, List.getElem?_cons_succ] at v0 v1
  clear hb1 kr hn1 hbw kv1
  go_wp2_with fail
  refine (Hmg.out A1 c1 _ hl1 hm1 hq1).mono ?_
  rintro e w2 ⟨rfl, hb2⟩
  have kr2 := (kr1.below hb2 kr1.lt).alloc (.cells #[.int .i64 k, .int .i64 uu, .int .u32 a, .int .u32 q, .bool mx, .int .u32 mi, .int .u32 yo] 26)
  have km2 := Blk.new w2 26 #[.int .i64 k, .int .i64 uu, .int .u32 a, .int .u32 q, .bool mx, .int .u32 mi, .int .u32 yo]
  have hbw2 := bt hbw1 (bt hb2 (ba w2 (.cells #[.int .i64 k, .int .i64 uu, .int .u32 a, .int .u32 q, .bool mx, .int .u32 mi, .int .u32 yo] 26)))
  have g0 := (km2).cell 0
  have g1 := (km2).cell 1
  have g2 := (km2).cell 2
  have g3 := (km2).cell 3
  have g4 := (km2).cell 4
  have g5 := (km2).cell 5
  have g6 := (km2).cell 6
  simp only [List.getElem?_toArray, List.getElem?_cons_zero, List.getElem?_cons_succ] at g0 g1 g2 g3 g4 g5 g6
  clear hb2 kr1 hbw1 hq1 hl1 hm1 v0 v1
  go_wp2_with fail
  refine (Hwr.out _).mono ?_
  rintro e w3 ⟨A3, c3, rfl, own3, hb3⟩
  have kr3 := kr2.below hb3 kr2.lt
  have km3 := km2.below hb3 km2.lt
  have hbf := bt hbw2 hb3
  clear hbw2 hb3 kr2 km2 g0 g1 g2 g3 g4 g5 g6
  have hbs3 := Hs.out.bt hbf
  have cv1 := conv_n A3 L _ c3 (Lib.hid rfl) _ _ own3.bs
  have cv2 := conv_n A b n c hn _ _ hbs3
  have hL := hne.out
  have hl0 : (L == b) = false := beq_eq_false_iff_ne.2 hL
  have hl1 : ((ByteArray.mk L.toArray).toList == (ByteArray.mk b.toArray).toList) = false := by rw [ByteArray.toList_eq, ByteArray.toList_eq]; exact hl0
  have hl4 : decide (L = b) = false := decide_eq_false hL
  clear hbs3
  clear own3
  have d0 := (kr3).cell 0
  have d1 := (kr3).cell 1
  have d2 := (kr3).cell 2
  have d3 := (kr3).cell 3
  have d4 := (kr3).cell 4
  have d5 := (kr3).cell 5
  have d6 := (kr3).cell 6
  simp only [List.getElem?_toArray, List.getElem?_cons_zero, List.getElem?_cons_succ] at d0 d1 d2 d3 d4 d5 d6
  have f0 := (kr3).frozen 0
  have f1 := (kr3).frozen 1
  have f2 := (kr3).frozen 2
  have f3 := (kr3).frozen 3
  have f4 := (kr3).frozen 4
  have f5 := (kr3).frozen 5
  have f6 := (kr3).frozen 6
  have st0 := kr3.set_ 0 (.int .i64 0)
  have ee0 := st0.cell 0
  have hs0 := hbf.setCell (p := ⟨w.heap.size, 0, none⟩) (by first | (show _ ≤ _; omega) | simp) (.int .i64 0)
  have st1 := st0.set_ 1 (.int .i64 0)
  have ee1 := st1.cell 1
  have hs1 := hs0.setCell (p := ⟨w.heap.size, 1, none⟩) (by first | (show _ ≤ _; omega) | simp) (.int .i64 0)
  have st2 := st1.set_ 2 (.int .u32 0)
  have ee2 := st2.cell 2
  have hs2 := hs1.setCell (p := ⟨w.heap.size, 2, none⟩) (by first | (show _ ≤ _; omega) | simp) (.int .u32 0)
  have st3 := st2.set_ 3 (.int .u32 0)
  have ee3 := st3.cell 3
  have hs3 := hs2.setCell (p := ⟨w.heap.size, 3, none⟩) (by first | (show _ ≤ _; omega) | simp) (.int .u32 0)
  have st4 := st3.set_ 4 (.bool false)
  have ee4 := st4.cell 4
  have hs4 := hs3.setCell (p := ⟨w.heap.size, 4, none⟩) (by first | (show _ ≤ _; omega) | simp) (.bool false)
  have st5 := st4.set_ 5 (.int .u32 0)
  have ee5 := st5.cell 5
  have hs5 := hs4.setCell (p := ⟨w.heap.size, 5, none⟩) (by first | (show _ ≤ _; omega) | simp) (.int .u32 0)
  have st6 := st5.set_ 6 (.int .u32 0)
  have ee6 := st6.cell 6
  have hs6 := hs5.setCell (p := ⟨w.heap.size, 6, none⟩) (by first | (show _ ≤ _; omega) | simp) (.int .u32 0)
  simp at ee0 ee1 ee2 ee3 ee4 ee5 ee6
  clear st0 st1 st2 st3 st4 st5 st6
  clear kr3 km3
  go_wp2
  refine bodyPost_ret (by simp [results, Try.results17, go_sem, ee0, ee1, ee2, ee3, ee4, ee5, ee6]; try rfl) rfl ?_
  exact ⟨rfl, hs6⟩

set_option maxHeartbeats 1000000 in
theorem rread6_same (A : Option Addr) (b : List UInt8) (c n : Nat) (id : Nat) (D : List UInt8) (k uu : Int) (a q : Nat) (mx : Bool) (mi yo : Nat) (hw : Hid (writeM ⟨k, uu, a, q, mx, mi, yo⟩ = (b, 0))) (w : World) (hn : Hid (n = b.length)) (h1 : n ≤ c) (h2 : c ≤ 9223372036854775807) (hb9 : n ≤ 1000000000) (hs : Bs w w.heap.size A b) (hr : Hid (nextR b = (id, D, n, 0))) (hid : id < 65536) (hm : Hid (guessM id D = ⟨k, uu, a, q, mx, mi, yo⟩)) (hok : MsgOk ⟨k, uu, a, q, mx, mi, yo⟩) : Calls Try.prog 17 #[.slice A n c] w fun e w' => e = .returned (.tuple #[.agg #[.int .i64 k, .int .i64 uu, .int .u32 a, .int .u32 q, .bool mx, .int .u32 mi, .int .u32 yo], .int .i64 0]) ∧ Below w.heap.size w w' := by
  have kr := Blk.new w 26 #[.int .i64 0, .int .i64 0, .int .u32 0, .int .u32 0, .bool false, .int .u32 0, .int .u32 0]
  have hbw := ba w (.cells #[.int .i64 0, .int .i64 0, .int .u32 0, .int .u32 0, .bool false, .int .u32 0, .int .u32 0] 26)
  have hnx := refnext_n A b c n hn (w.alloc (.cells #[.int .i64 0, .int .i64 0, .int .u32 0, .int .u32 0, .bool false, .int .u32 0, .int .u32 0] 26)) h1 h2 hb9 (hs.bt hbw)
  rw [hr.out] at hnx
  have hwr := fun w => refwriteM_any ⟨k, uu, a, q, mx, mi, yo⟩ w hok
  rw [hw.out] at hwr
  unfold OutB MsgV.val MsgV.cs at hwr
  simp only at hwr
  have hmg := fun A c (w : World) h1 h2 h3 => guess_any id A D c w hid h1 h2 h3
  rw [hm.out] at hmg
  unfold MsgV.val MsgV.cs at hmg
  simp only at hmg
  have Hwr := Lib.hid hwr
  have Hmg := Lib.hid hmg
  have Hs := Lib.hid hs
  clear hwr hmg hs hok hb9
  go_enter Try.func17, Try.ntmps17
  go_wp2_with fail
  refine hnx.mono ?_
  clear hnx
  rintro e w1 ⟨A1, c1, rfl, hn1, hb1, hl1, hm1⟩
  simp only at hl1 hn1
  have kr1 := (kr.below hb1 kr.lt).alloc (.cells #[.int .i64 id, .slice A1 D.length c1] 45)
  have kv1 := Blk.new w1 45 #[.int .i64 id, .slice A1 D.length c1]
  have hq1 := hn1.bs.bt (ba w1 (.cells #[.int .i64 id, .slice A1 D.length c1] 45))
  have hbw1 := bt hbw (bt hb1 (ba w1 (.cells #[.int .i64 id, .slice A1 D.length c1] 45)))
  have v0 := (kv1).cell 0
  have v1 := (kv1).cell 1
  simp only [List.getElem?_toArray, List.getElem?_cons_zero, List.getElem?_cons_succ] at v0 v1
  clear hb1 kr hn1 hbw kv1
  go_wp2_with fail
  refine (Hmg.out A1 c1 _ hl1 hm1 hq1).mono ?_
  rintro e w2 ⟨rfl, hb2⟩
  have kr2 := (kr1.below hb2 kr1.lt).alloc (.cells #[.int .i64 k, .int .i64 uu, .int .u32 a, .int .u32 q, .bool mx, .int .u32 mi, .int .u32 yo] 26)
  have km2 := Blk.new w2 26 #[.int .i64 k, .int .i64 uu, .int .u32 a, .int .u32 q, .bool mx, .int .u32 mi, .int .u32 yo]
  have hbw2 := bt hbw1 (bt hb2 (ba w2 (.cells #[.int .i64 k, .int .i64 uu, .int .u32 a, .int .u32 q, .bool mx, .int .u32 mi, .int .u32 yo] 26)))
  have g0 := (km2).cell 0
  have g1 := (km2).cell 1
  have g2 := (km2).cell 2
  have g3 := (km2).cell 3
  have g4 := (km2).cell 4
  have g5 := (km2).cell 5
  have g6 := (km2).cell 6
  simp only [List.getElem?_toArray, List.getElem?_cons_zero, List.getElem?_cons_succ] at g0 g1 g2 g3 g4 g5 g6
  clear hb2 kr1 hbw1 hq1 hl1 hm1 v0 v1
  go_wp2_with fail
  refine (Hwr.out _).mono ?_
  rintro e w3 ⟨A3, c3, rfl, own3, hb3⟩
  have kr3 := kr2.below hb3 kr2.lt
  have km3 := km2.below hb3 km2.lt
  have hbf := bt hbw2 hb3
  clear hbw2 hb3 kr2 km2 g0 g1 g2 g3 g4 g5 g6
  have hbs3 := Hs.out.bt hbf
  have cv1 := conv_n A3 b _ c3 (Lib.hid rfl) _ _ own3.bs
  have cv2 := conv_n A b n c hn _ _ hbs3
  clear hbs3
  clear own3
  have m0 := (km3).cell 0
  have m1 := (km3).cell 1
  have m2 := (km3).cell 2
  have m3 := (km3).cell 3
  have m4 := (km3).cell 4
  have m5 := (km3).cell 5
  have m6 := (km3).cell 6
  simp only [List.getElem?_toArray, List.getElem?_cons_zero, List.getElem?_cons_succ] at m0 m1 m2 m3 m4 m5 m6
  have d0 := (kr3).cell 0
  have d1 := (kr3).cell 1
  have d2 := (kr3).cell 2
  have d3 := (kr3).cell 3
  have d4 := (kr3).cell 4
  have d5 := (kr3).cell 5
  have d6 := (kr3).cell 6
  simp only [List.getElem?_toArray, List.getElem?_cons_zero, List.getElem?_cons_succ] at d0 d1 d2 d3 d4 d5 d6
  have f0 := (kr3).frozen 0
  have f1 := (kr3).frozen 1
  have f2 := (kr3).frozen 2
  have f3 := (kr3).frozen 3
  have f4 := (kr3).frozen 4
  have f5 := (kr3).frozen 5
  have f6 := (kr3).frozen 6
  have st0 := kr3.set_ 0 (.int .i64 k)
  have ee0 := st0.cell 0
  have hs0 := hbf.setCell (p := ⟨w.heap.size, 0, none⟩) (by first | (show _ ≤ _; omega) | simp) (.int .i64 k)
  have st1 := st0.set_ 1 (.int .i64 uu)
  have ee1 := st1.cell 1
  have hs1 := hs0.setCell (p := ⟨w.heap.size, 1, none⟩) (by first | (show _ ≤ _; omega) | simp) (.int .i64 uu)
  have st2 := st1.set_ 2 (.int .u32 a)
  have ee2 := st2.cell 2
  have hs2 := hs1.setCell (p := ⟨w.heap.size, 2, none⟩) (by first | (show _ ≤ _; omega) | simp) (.int .u32 a)
  have st3 := st2.set_ 3 (.int .u32 q)
  have ee3 := st3.cell 3
  have hs3 := hs2.setCell (p := ⟨w.heap.size, 3, none⟩) (by first | (show _ ≤ _; omega) | simp) (.int .u32 q)
  have st4 := st3.set_ 4 (.bool mx)
  have ee4 := st4.cell 4
  have hs4 := hs3.setCell (p := ⟨w.heap.size, 4, none⟩) (by first | (show _ ≤ _; omega) | simp) (.bool mx)
  have st5 := st4.set_ 5 (.int .u32 mi)
  have ee5 := st5.cell 5
  have hs5 := hs4.setCell (p := ⟨w.heap.size, 5, none⟩) (by first | (show _ ≤ _; omega) | simp) (.int .u32 mi)
  have st6 := st5.set_ 6 (.int .u32 yo)
  have ee6 := st6.cell 6
  have hs6 := hs5.setCell (p := ⟨w.heap.size, 6, none⟩) (by first | (show _ ≤ _; omega) | simp) (.int .u32 yo)
  simp at ee0 ee1 ee2 ee3 ee4 ee5 ee6
  clear st0 st1 st2 st3 st4 st5 st6
  clear kr3 km3
  go_wp2
  refine bodyPost_ret (by simp [results, Try.results17, go_sem, ee0, ee1, ee2, ee3, ee4, ee5, ee6]; try rfl) rfl ?_
  exact ⟨rfl, hs6⟩

theorem guessM_data (m : MsgV) (hm : MsgOk m) (h : okM m = true) : guessM (4864 + m.k).toNat (dataM m) = m := by
  have hk := okM_kind m h
  have hr := okM_rest m h
  obtain ⟨_, _, _, _, ha, hq, hmi, hyo⟩ := hm
  clear h
  obtain ⟨k, u, a, q, mx, mi, yo⟩ := m
  simp only at *
  have hid : (((4864 + k).toNat : Nat) : Int) - 4864 = k := by omega
  have na : num (putL a 4) = a := by rw [pnum_putL]; exact Nat.mod_eq_of_lt ha
  have nq : num (putL q 4) = q := by rw [pnum_putL]; exact Nat.mod_eq_of_lt hq
  have nmi : num (putL mi 4) = mi := by rw [pnum_putL]; exact Nat.mod_eq_of_lt hmi
  have nyo : num (putL yo 4) = yo := by rw [pnum_putL]; exact Nat.mod_eq_of_lt hyo
  unfold guessM dataM
  rw [hid]
  by_cases h11 : k ≤ 11
  · simp only [if_pos h11]
    obtain ⟨a1, a2, a3, a4, ea⟩ := putL_four a
    obtain ⟨q1, q2, q3, q4, eq⟩ := putL_four q
    obtain ⟨e1, e2⟩ := hr.1 h11
    have hok := hk.2.2 h11
    have hu : 0 ≤ u ∧ u ≤ 5 := by
      have hok' := hok
      unfold okL at hok'
      simp only [Bool.and_eq_true, decide_eq_true_eq] at hok'
      omega
    have hun : ((UInt8.ofNat u.toNat).toNat : Int) = u := by simp only [UInt8.toNat_ofNat']; omega
    rw [ea] at na
    rw [eq] at nq
    rw [ea, eq, if_pos ⟨by omega, rfl⟩]
    have hrd : rdL (List.take 9 (UInt8.ofNat u.toNat :: ([a1, a2, a3, a4] ++ [q1, q2, q3, q4]) ++ [if mx = true then 1 else 0])) = ((u, a, q), 0) := by
      show rdL [UInt8.ofNat u.toNat, a1, a2, a3, a4, q1, q2, q3, q4] = _
      unfold rdL
      rw [if_neg (by simp), if_neg (by simp)]
      show (if okL ((UInt8.ofNat u.toNat).toNat : Int) (num [q1, q2, q3, q4]) = true then ((((UInt8.ofNat u.toNat).toNat : Int), num [a1, a2, a3, a4], num [q1, q2, q3, q4]), (0 : Int)) else ((0, 0, 0), 50)) = _
      rw [hun, na, nq, if_pos hok]
    rw [hrd, e1, e2]
    have hmx : ((((UInt8.ofNat u.toNat :: ([a1, a2, a3, a4] ++ [q1, q2, q3, q4]) ++ [if mx = true then 1 else 0]).getD 9 0).toNat : Int) == 1) = mx := by
      show ((((if mx = true then 1 else 0 : UInt8)).toNat : Int) == 1) = mx
      cases mx <;> rfl
    rw [hmx]
  · obtain ⟨e1, e2, e3, e4⟩ := hr.2.1 (by omega)
    subst e1 e2 e3 e4
    simp only [if_neg h11]
    by_cases h12 : k = 12
    · subst h12
      obtain ⟨a1, a2, a3, a4, ea⟩ := putL_four mi
      obtain ⟨q1, q2, q3, q4, eq⟩ := putL_four yo
      rw [ea] at nmi
      rw [eq] at nyo
      rw [if_pos rfl, ea, eq, if_neg (by simp), if_pos ⟨rfl, rfl⟩]
      show (⟨12, 0, 0, 0, false, num [a1, a2, a3, a4], num [q1, q2, q3, q4]⟩ : MsgV) = _
      rw [nmi, nyo]
    · obtain ⟨e5, e6⟩ := hr.2.2 (by omega)
      subst e5 e6
      rw [if_neg h12, if_neg (by simp), if_neg (by simp)]
theorem guessM_ok (id : Nat) (D : List UInt8) (hid : id < 65536) : MsgOk (guessM id D) := by
  unfold guessM
  split
  · rename_i h
    obtain ⟨h1, h2⟩ := h
    have hb : (rdL (D.take 9)).1.1 < 256 ∧ 0 ≤ (rdL (D.take 9)).1.1 ∧ (rdL (D.take 9)).1.2.1 < 4294967296 ∧ (rdL (D.take 9)).1.2.2 < 4294967296 := by
      have hl : (D.take 9).length = 9 := by rw [List.length_take]; omega
      have n1 := num_lt4 (((D.take 9).drop 1).take 4) (by simp; omega)
      have n2 := num_lt4 ((D.take 9).drop 5) (by rw [List.length_drop]; omega)
      have hx := ((D.take 9).headD 0).toNat_lt
      generalize D.take 9 = l at *
      unfold rdL
      rw [if_neg (by omega), if_neg (by omega)]
      split
      · exact ⟨by simp only; omega, by simp only; omega, n1, n2⟩
      · simp
    constructor <;> simp only <;> omega
  · split
    · rename_i h
      obtain ⟨h1, h2⟩ := h
      have n1 := num_lt4 (D.take 4) (by rw [List.length_take]; omega)
      have n2 := num_lt4 (D.drop 4) (by rw [List.length_drop]; omega)
      constructor <;> simp only <;> omega
    · constructor <;> simp only <;> omega
theorem writeM_30 (m : MsgV) (L : List UInt8) (h : writeM m = (L, 30)) : writeM m = ([], 30) := by
  have e3 := h
  unfold writeM at e3
  split at e3
  · injection e3 with _ e3; exact absurd e3 (by decide)
  · rename_i hno; unfold writeM; rw [if_neg hno]

/-- Both Reads on any bytes. -/
theorem both_all (A A' : Option Addr) (b : List UInt8) (c c' n : Nat) (hn : Hid (n = b.length)) (h1 : n ≤ c) (h2 : c ≤ 9223372036854775807) (h1' : n ≤ c') (h2' : c' ≤ 9223372036854775807) (hb9 : n ≤ 1000000000) :
    ∃ (m : MsgV) (e0 : Int), (∀ w : World, Bs w w.heap.size A b → Calls Try.prog 15 #[.slice A n c] w fun e w' => e = .returned (.tuple #[m.val, .int .i64 e0]) ∧ Below w.heap.size w w') ∧ (∀ w : World, Bs w w.heap.size A' b → Calls Try.prog 17 #[.slice A' n c'] w fun e w' => e = .returned (.tuple #[m.val, .int .i64 e0]) ∧ Below w.heap.size w w') := by
  have hsome := nextR_some b
  have herr := nextR_err b
  obtain ⟨⟨id, D, sz, e0⟩, hr⟩ : ∃ r, r = nextR b := ⟨_, rfl⟩
  rw [← hr] at hsome herr
  simp only at hsome herr
  by_cases h0 : e0 = 0
  · subst h0
    obtain ⟨s1, s2, s3, s4⟩ := hsome rfl
    have hnn := hn.out
    by_cases hlt : sz < n
    · exact ⟨⟨0, 0, 0, 0, false, 0, 0⟩, 2, fun w hs => read_long A b c n id D sz hlt w hn h1 h2 hs (Lib.hid hr.symm), fun w hs => rread6_long A' b c' n id D sz hlt w hn h1' h2' hb9 hs (Lib.hid hr.symm)⟩
    · have hsz : sz = n := by omega
      subst hsz
      have hokm := messageM_ok id D s1
      have hokg := guessM_ok id D s1
      by_cases hw : writeM (messageM id D) = (b, 0)
      · have hnx := writeM_next (messageM id D) b hw
        have hnn2 := hnx.2
        rw [← hr] at hnn2
        simp only [Prod.mk.injEq] at hnn2
        have hg : guessM id D = messageM id D := by
          have := guessM_data (messageM id D) hokm hnx.1
          rwa [← hnn2.1, ← hnn2.2.1] at this
        generalize hM : messageM id D = m at *
        refine ⟨m, 0, fun w hs => ?_, fun w hs => ?_⟩
        · obtain ⟨k, uu, a, q, mx, mi, yo⟩ := m
          exact read_same A b c _ id D k uu a q mx mi yo (Lib.hid hw) w hn h1 h2 hs (Lib.hid hr.symm) s1 (Lib.hid hM) hokm
        · obtain ⟨k, uu, a, q, mx, mi, yo⟩ := m
          exact rread6_same A' b c' _ id D k uu a q mx mi yo (Lib.hid hw) w hn h1' h2' hb9 hs (Lib.hid hr.symm) s1 (Lib.hid hg) hokm
      · have hwg : ¬ writeM (guessM id D) = (b, 0) := by
          intro e
          have hnx := writeM_next (guessM id D) b e
          have hnn2 := hnx.2
          rw [← hr] at hnn2
          simp only [Prod.mk.injEq] at hnn2
          have := messageM_data (guessM id D) hokg hnx.1
          rw [← hnn2.1, ← hnn2.2.1] at this
          rw [this] at hw
          exact hw e
        refine ⟨⟨0, 0, 0, 0, false, 0, 0⟩, 30, fun w hs => ?_, fun w hs => ?_⟩
        · generalize hM : messageM id D = m at *
          rcases writeM_cases m with ⟨L, e1, _⟩ | ⟨L, e1⟩
          · have hL : L ≠ b := fun e => hw (by rw [e1, e])
            obtain ⟨k, uu, a, q, mx, mi, yo⟩ := m
            exact read_diff A b c _ id D k uu a q mx mi yo L (Lib.hid e1) (Lib.hid hL) w hn h1 h2 hs (Lib.hid hr.symm) s1 (Lib.hid hM) hokm
          · have e2 := writeM_30 m L e1
            obtain ⟨k, uu, a, q, mx, mi, yo⟩ := m
            exact read_err A b c _ id D k uu a q mx mi yo (Lib.hid e2) w hn h1 h2 hs (Lib.hid hr.symm) s1 (Lib.hid hM) hokm
        · generalize hM : guessM id D = m at *
          rcases writeM_cases m with ⟨L, e1, _⟩ | ⟨L, e1⟩
          · have hL : L ≠ b := fun e => hwg (by rw [e1, e])
            obtain ⟨k, uu, a, q, mx, mi, yo⟩ := m
            exact rread6_diff A' b c' _ id D k uu a q mx mi yo L (Lib.hid e1) (Lib.hid hL) w hn h1' h2' hb9 hs (Lib.hid hr.symm) s1 (Lib.hid hM) hokg
          · have e2 := writeM_30 m L e1
            obtain ⟨k, uu, a, q, mx, mi, yo⟩ := m
            exact rread6_err A' b c' _ id D k uu a q mx mi yo (Lib.hid e2) w hn h1' h2' hb9 hs (Lib.hid hr.symm) s1 (Lib.hid hM) hokg
  · obtain ⟨e1, e2, e3⟩ := herr h0
    subst e1 e2 e3
    exact ⟨⟨0, 0, 0, 0, false, 0, 0⟩, e0, fun w hs => read_e A b c n e0 (bne_iff_ne.2 h0) w hn h1 h2 hs (Lib.hid hr.symm), fun w hs => rread6_e A' b c' n e0 (bne_iff_ne.2 h0) w hn h1' h2' hb9 hs (Lib.hid hr.symm)⟩

theorem copy_n (A : Option Addr) (l : List UInt8) (n c : Nat) (hn : Hid (n = l.length)) (w : World) (hm : n ≤ 140737488355328) (h : Bs w w.heap.size A l) :
    Calls Try.prog 16 #[.slice A n c] w fun e w' => ∃ A2 c2, e = .returned (.slice A2 n c2) ∧ Own w' w.heap.size 5 A2 c2 l ∧ Below w.heap.size w w' := by
  have hm' : l.length ≤ 140737488355328 := by rw [← hn.out]; exact hm
  rw [hn.out]; exact copy_any A l c w hm' h

set_option maxHeartbeats 1000000 in
theorem preads_big (A : Option Addr) (n c : Nat) (w : World) (hb : decide (3000 < (n : Int)) = true) : Calls Try.prog 4 #[.slice A n c] w fun e w' => e = .returned (.bool true) ∧ Below w.heap.size w w' := by
  go_enter Try.func4, Try.ntmps4
  go_wp2_with fail
  refine (alive_any _).mono ?_
  rintro e w1 ⟨rfl, hb1⟩
  go_wp2
  go_ret
  exact ⟨rfl, hb1⟩
set_option maxHeartbeats 2000000 in
theorem preads_all (A : Option Addr) (b : List UInt8) (n c : Nat) (hn : Hid (n = b.length)) (h1 : n ≤ c) (h2 : c ≤ 9223372036854775807) (w : World) (hbs : Bs w w.heap.size A b) (hb : decide (3000 < (n : Int)) = false) : Calls Try.prog 4 #[.slice A n c] w fun e w' => e = .returned (.bool true) ∧ Below w.heap.size w w' := by
  have hle : Hid (n ≤ 3000) := Lib.hid (by simp at hb; omega)
  have HBS := Lib.hid hbs
  have H1 := Lib.hid h1
  have H2 := Lib.hid h2
  clear hbs h1 h2
  go_enter Try.func4, Try.ntmps4
  go_wp2_with fail
  refine (copy_n A b n c hn _ (by have := hle.out; omega) HBS.out).mono ?_
  rintro e w1 ⟨A1, c1, rfl, own1, hb1⟩
  obtain ⟨hcap1, hcap2⟩ := own_cap own1
  obtain ⟨⟨k, uu, a, q, mx, mi, yo⟩, e0, hp, hq⟩ := both_all A1 A b c1 c n hn (by rw [hn.out]; exact hcap1) hcap2 H1.out H2.out (by have := hle.out; omega)
  unfold MsgV.val MsgV.cs at hp hq
  simp only at hp hq
  have hz := hp _ own1.bs
  have Hq := Lib.hid hq
  clear hp hq hcap1 hcap2
  go_wp2_with fail
  refine hz.mono ?_
  clear hz
  rintro e w2 ⟨rfl, hb2⟩
  have k3 := Blk.new w2 26 #[.int .i64 k, .int .i64 uu, .int .u32 a, .int .u32 q, .bool mx, .int .u32 mi, .int .u32 yo]
  have hbw2 := bt (bt hb1 hb2) (ba w2 (.cells #[.int .i64 k, .int .i64 uu, .int .u32 a, .int .u32 q, .bool mx, .int .u32 mi, .int .u32 yo] 26))
  clear own1 hb1 hb2
  go_wp2_with fail
  refine (Hq.out _ (HBS.out.bt hbw2)).mono ?_
  rintro e w4 ⟨rfl, hb4⟩
  have k5 := Blk.new w4 26 #[.int .i64 k, .int .i64 uu, .int .u32 a, .int .u32 q, .bool mx, .int .u32 mi, .int .u32 yo]
  have k4 := (k3.below hb4 k3.lt).alloc (.cells #[.int .i64 k, .int .i64 uu, .int .u32 a, .int .u32 q, .bool mx, .int .u32 mi, .int .u32 yo] 26)
  have hbw4 := bt (bt hbw2 hb4) (ba w4 (.cells #[.int .i64 k, .int .i64 uu, .int .u32 a, .int .u32 q, .bool mx, .int .u32 mi, .int .u32 yo] 26))
  clear k3 hb4 hbw2
  go_wp2_with fail
  refine (alive_any _).mono ?_
  rintro e w6 ⟨rfl, hb6⟩
  have k6 := k5.below hb6 k5.lt
  have k7 := k4.below hb6 k4.lt
  have x0 := (k6).cell 0
  have x1 := (k6).cell 1
  have x2 := (k6).cell 2
  have x3 := (k6).cell 3
  have x4 := (k6).cell 4
  have x5 := (k6).cell 5
  have x6 := (k6).cell 6
  simp only [List.getElem?_toArray, List.getElem?_cons_zero, List.getElem?_cons_succ] at x0 x1 x2 x3 x4 x5 x6
  have y0 := (k7).cell 0
  have y1 := (k7).cell 1
  have y2 := (k7).cell 2
  have y3 := (k7).cell 3
  have y4 := (k7).cell 4
  have y5 := (k7).cell 5
  have y6 := (k7).cell 6
  simp only [List.getElem?_toArray, List.getElem?_cons_zero, List.getElem?_cons_succ] at y0 y1 y2 y3 y4 y5 y6
  clear k4 k5 k6 k7
  go_wp2
  go_ret
  exact ⟨by simp, bt hbw4 hb6⟩
theorem pshReads_walk (A : Option Addr) (b : List UInt8) (c : Nat) (w : World) (hbm : Bs w w.heap.size A b) (h1 : b.length ≤ c) (h2 : c ≤ 9223372036854775807) : Calls Try.prog 4 #[.slice A b.length c] w fun e w' => e = .returned (.bool true) ∧ Below w.heap.size w w' := by
  rcases hb : decide (3000 < (b.length : Int)) with _ | _
  · exact preads_all A b _ c (Lib.hid rfl) h1 h2 w hbm hb
  · exact preads_big A _ c w hb
end Go.Proofs.Yteniponkakaaaaa
