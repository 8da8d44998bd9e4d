/- Layer 6: what a variable seems to say. -/
import Derived.Test.YteniponkakaaaaaMe
import Derived.Test.YteniponkakaaaaaGetP
namespace Go.Proofs.Yteniponkakaaaaa
open Go.RowKit
set_option linter.unusedVariables false
set_option linter.unusedSimpArgs false
set_option maxHeartbeats 1000000 in
theorem message_13 (id k : Int) (A : Option Addr) (n c : Nat) (w : World) (h0 : 0 ≤ id) (h1 : id ≤ 65535) (hid : k = id - 4864) (hfl : fv (fKn k) (fLu k) (fMi k) (fNa k) = fv true false false false) : Calls Try.prog 27 #[.agg #[.int .i64 id, .slice A n c]] w fun e w' => e = .returned (.agg #[.int .i64 k, .int .i64 0, .int .u32 0, .int .u32 0, .bool false, .int .u32 0, .int .u32 0]) ∧ Below w.heap.size w w' := by
  have hf := fun w => fieldsOf_any k w
  rw [hfl] at hf
  unfold fv at hf
  have ew : IntKind.i64.wrap (id - 4864) = k := by rw [hid]; exact IntWalk.i64_in _ (by omega)
  have kv := ((Blk.new w 45 #[.int .i64 id, .slice A n c]).alloc (.cells #[.int .i64 0, .int .i64 0, .int .u32 0, .int .u32 0, .bool false, .int .u32 0, .int .u32 0] 26)).alloc (.cells #[.int .i64 k, .int .i64 0, .int .u32 0, .int .u32 0, .bool false, .int .u32 0, .int .u32 0] 26)
  have kr := ((Blk.new (w.alloc (.cells #[.int .i64 id, .slice A n c] 45)) 26 #[.int .i64 0, .int .i64 0, .int .u32 0, .int .u32 0, .bool false, .int .u32 0, .int .u32 0])).alloc (.cells #[.int .i64 k, .int .i64 0, .int .u32 0, .int .u32 0, .bool false, .int .u32 0, .int .u32 0] 26)
  have km := Blk.new ((w.alloc (.cells #[.int .i64 id, .slice A n c] 45)).alloc (.cells #[.int .i64 0, .int .i64 0, .int .u32 0, .int .u32 0, .bool false, .int .u32 0, .int .u32 0] 26)) 26 #[.int .i64 k, .int .i64 0, .int .u32 0, .int .u32 0, .bool false, .int .u32 0, .int .u32 0]
  have hz : ∀ (w : World) (o : Obj), (w.alloc o).heap.size = w.heap.size + 1 := fun w o => by simp
  rw [hz] at kr
  rw [hz, hz] at km
  have hbw := bt (ba2 w (.cells #[.int .i64 id, .slice A n c] 45) (.cells #[.int .i64 0, .int .i64 0, .int .u32 0, .int .u32 0, .bool false, .int .u32 0, .int .u32 0] 26)) (ba _ (.cells #[.int .i64 k, .int .i64 0, .int .u32 0, .int .u32 0, .bool false, .int .u32 0, .int .u32 0] 26))
  clear hz
  clear hid
  go_enter Try.func27, Try.ntmps27
  go_wp2_with fail
  refine (hf _).mono ?_
  rintro e w1 ⟨rfl, hb1⟩
  have kv1 := (kv.below hb1 kv.lt).alloc (.cells #[.bool true, .bool false, .bool false, .bool false] 50)
  have km1 := (km.below hb1 km.lt).alloc (.cells #[.bool true, .bool false, .bool false, .bool false] 50)
  have kr1 := (kr.below hb1 kr.lt).alloc (.cells #[.bool true, .bool false, .bool false, .bool false] 50)
  have kf1 := Blk.new w1 50 #[.bool true, .bool false, .bool false, .bool false]
  have hbf := bt hbw (bt hb1 (ba w1 (.cells #[.bool true, .bool false, .bool false, .bool false] 50)))
  have hmf : w.heap.size + 1 + 1 < w1.heap.size := Nat.lt_of_lt_of_le km.lt hb1.size
  clear km kr kv hbw hb1 hf
  have b0 := (kv1).cell 0
  have b1 := (kv1).cell 1
  simp only [List.getElem?_toArray, List.getElem?_cons_zero, List.getElem?_cons_succ] at b0 b1
  have c0 := (km1).cell 0
  have c1 := (km1).cell 1
  have c2 := (km1).cell 2
  have c3 := (km1).cell 3
  have c4 := (km1).cell 4
  have c5 := (km1).cell 5
  have c6 := (km1).cell 6
  simp only [List.getElem?_toArray, List.getElem?_cons_zero, List.getElem?_cons_succ] at c0 c1 c2 c3 c4 c5 c6
  have d0 := (kr1).cell 0
  have d1 := (kr1).cell 1
  have d2 := (kr1).cell 2
  have d3 := (kr1).cell 3
  have d4 := (kr1).cell 4
  have d5 := (kr1).cell 5
  have d6 := (kr1).cell 6
  simp only [List.getElem?_toArray, List.getElem?_cons_zero, List.getElem?_cons_succ] at d0 d1 d2 d3 d4 d5 d6
  have g0 := (kf1).cell 0
  have g1 := (kf1).cell 1
  have g2 := (kf1).cell 2
  have g3 := (kf1).cell 3
  simp only [List.getElem?_toArray, List.getElem?_cons_zero, List.getElem?_cons_succ] at g0 g1 g2 g3
  have f0 := (kr1).frozen 0
  have f1 := (kr1).frozen 1
  have f2 := (kr1).frozen 2
  have f3 := (kr1).frozen 3
  have f4 := (kr1).frozen 4
  have f5 := (kr1).frozen 5
  have f6 := (kr1).frozen 6
  have st0 := kr1.set_ 0 (.int .i64 k)
  have ee0 := st0.cell 0
  have hs0 := hbf.setCell (p := ⟨w.heap.size + 1, 0, none⟩) (by first | (show _ ≤ _; omega) | simp) (.int .i64 k)
  have st1 := st0.set_ 1 (.int .i64 0)
  have ee1 := st1.cell 1
  have hs1 := hs0.setCell (p := ⟨w.heap.size + 1, 1, none⟩) (by first | (show _ ≤ _; omega) | simp) (.int .i64 0)
  have st2 := st1.set_ 2 (.int .u32 0)
  have ee2 := st2.cell 2
  have hs2 := hs1.setCell (p := ⟨w.heap.size + 1, 2, none⟩) (by first | (show _ ≤ _; omega) | simp) (.int .u32 0)
  have st3 := st2.set_ 3 (.int .u32 0)
  have ee3 := st3.cell 3
  have hs3 := hs2.setCell (p := ⟨w.heap.size + 1, 3, none⟩) (by first | (show _ ≤ _; omega) | simp) (.int .u32 0)
  have st4 := st3.set_ 4 (.bool false)
  have ee4 := st4.cell 4
  have hs4 := hs3.setCell (p := ⟨w.heap.size + 1, 4, none⟩) (by first | (show _ ≤ _; omega) | simp) (.bool false)
  have st5 := st4.set_ 5 (.int .u32 0)
  have ee5 := st5.cell 5
  have hs5 := hs4.setCell (p := ⟨w.heap.size + 1, 5, none⟩) (by first | (show _ ≤ _; omega) | simp) (.int .u32 0)
  have st6 := st5.set_ 6 (.int .u32 0)
  have ee6 := st6.cell 6
  have hs6 := hs5.setCell (p := ⟨w.heap.size + 1, 6, none⟩) (by first | (show _ ≤ _; omega) | simp) (.int .u32 0)
  simp at ee0 ee1 ee2 ee3 ee4 ee5 ee6
  clear st0 st1 st2 st3 st4 st5 st6
  clear km1 kr1 kv1 kf1 hmf
  go_wp2
  refine bodyPost_ret (by simp [results, Try.results27, go_sem, ee0, ee1, ee2, ee3, ee4, ee5, ee6]; try rfl) rfl ?_
  exact ⟨rfl, hs6⟩

set_option maxHeartbeats 1000000 in
theorem message_l (id k : Int) (A : Option Addr) (n c : Nat) (w : World) (h0 : 0 ≤ id) (h1 : id ≤ 65535) (hid : k = id - 4864) (mi : Bool) (hfl : fv (fKn k) (fLu k) (fMi k) (fNa k) = fv true true mi false) (hn : n ≠ 10) : Calls Try.prog 27 #[.agg #[.int .i64 id, .slice A n c]] w fun e w' => e = .returned (.agg #[.int .i64 k, .int .i64 0, .int .u32 0, .int .u32 0, .bool false, .int .u32 0, .int .u32 0]) ∧ Below w.heap.size w w' := by
  have hf := fun w => fieldsOf_any k w
  rw [hfl] at hf
  unfold fv at hf
  have ew : IntKind.i64.wrap (id - 4864) = k := by rw [hid]; exact IntWalk.i64_in _ (by omega)
  have hnI : ((n : Int) == 10) = false := beq_eq_false_iff_ne.2 (by omega)
  have kv := ((Blk.new w 45 #[.int .i64 id, .slice A n c]).alloc (.cells #[.int .i64 0, .int .i64 0, .int .u32 0, .int .u32 0, .bool false, .int .u32 0, .int .u32 0] 26)).alloc (.cells #[.int .i64 k, .int .i64 0, .int .u32 0, .int .u32 0, .bool false, .int .u32 0, .int .u32 0] 26)
  have kr := ((Blk.new (w.alloc (.cells #[.int .i64 id, .slice A n c] 45)) 26 #[.int .i64 0, .int .i64 0, .int .u32 0, .int .u32 0, .bool false, .int .u32 0, .int .u32 0])).alloc (.cells #[.int .i64 k, .int .i64 0, .int .u32 0, .int .u32 0, .bool false, .int .u32 0, .int .u32 0] 26)
  have km := Blk.new ((w.alloc (.cells #[.int .i64 id, .slice A n c] 45)).alloc (.cells #[.int .i64 0, .int .i64 0, .int .u32 0, .int .u32 0, .bool false, .int .u32 0, .int .u32 0] 26)) 26 #[.int .i64 k, .int .i64 0, .int .u32 0, .int .u32 0, .bool false, .int .u32 0, .int .u32 0]
  have hz : ∀ (w : World) (o : Obj), (w.alloc o).heap.size = w.heap.size + 1 := fun w o => by simp
  rw [hz] at kr
  rw [hz, hz] at km
  have hbw := bt (ba2 w (.cells #[.int .i64 id, .slice A n c] 45) (.cells #[.int .i64 0, .int .i64 0, .int .u32 0, .int .u32 0, .bool false, .int .u32 0, .int .u32 0] 26)) (ba _ (.cells #[.int .i64 k, .int .i64 0, .int .u32 0, .int .u32 0, .bool false, .int .u32 0, .int .u32 0] 26))
  clear hz
  clear hid
  go_enter Try.func27, Try.ntmps27
  go_wp2_with fail
  refine (hf _).mono ?_
  rintro e w1 ⟨rfl, hb1⟩
  have kv1 := (kv.below hb1 kv.lt).alloc (.cells #[.bool true, .bool true, .bool mi, .bool false] 50)
  have km1 := (km.below hb1 km.lt).alloc (.cells #[.bool true, .bool true, .bool mi, .bool false] 50)
  have kr1 := (kr.below hb1 kr.lt).alloc (.cells #[.bool true, .bool true, .bool mi, .bool false] 50)
  have kf1 := Blk.new w1 50 #[.bool true, .bool true, .bool mi, .bool false]
  have hbf := bt hbw (bt hb1 (ba w1 (.cells #[.bool true, .bool true, .bool mi, .bool false] 50)))
  have hmf : w.heap.size + 1 + 1 < w1.heap.size := Nat.lt_of_lt_of_le km.lt hb1.size
  clear km kr kv hbw hb1 hf
  have b0 := (kv1).cell 0
  have b1 := (kv1).cell 1
  simp only [List.getElem?_toArray, List.getElem?_cons_zero, List.getElem?_cons_succ] at b0 b1
  have c0 := (km1).cell 0
  have c1 := (km1).cell 1
  have c2 := (km1).cell 2
  have c3 := (km1).cell 3
  have c4 := (km1).cell 4
  have c5 := (km1).cell 5
  have c6 := (km1).cell 6
  simp only [List.getElem?_toArray, List.getElem?_cons_zero, List.getElem?_cons_succ] at c0 c1 c2 c3 c4 c5 c6
  have d0 := (kr1).cell 0
  have d1 := (kr1).cell 1
  have d2 := (kr1).cell 2
  have d3 := (kr1).cell 3
  have d4 := (kr1).cell 4
  have d5 := (kr1).cell 5
  have d6 := (kr1).cell 6
  simp only [List.getElem?_toArray, List.getElem?_cons_zero, List.getElem?_cons_succ] at d0 d1 d2 d3 d4 d5 d6
  have g0 := (kf1).cell 0
  have g1 := (kf1).cell 1
  have g2 := (kf1).cell 2
  have g3 := (kf1).cell 3
  simp only [List.getElem?_toArray, List.getElem?_cons_zero, List.getElem?_cons_succ] at g0 g1 g2 g3
  have f0 := (kr1).frozen 0
  have f1 := (kr1).frozen 1
  have f2 := (kr1).frozen 2
  have f3 := (kr1).frozen 3
  have f4 := (kr1).frozen 4
  have f5 := (kr1).frozen 5
  have f6 := (kr1).frozen 6
  have st0 := kr1.set_ 0 (.int .i64 k)
  have ee0 := st0.cell 0
  have hs0 := hbf.setCell (p := ⟨w.heap.size + 1, 0, none⟩) (by first | (show _ ≤ _; omega) | simp) (.int .i64 k)
  have st1 := st0.set_ 1 (.int .i64 0)
  have ee1 := st1.cell 1
  have hs1 := hs0.setCell (p := ⟨w.heap.size + 1, 1, none⟩) (by first | (show _ ≤ _; omega) | simp) (.int .i64 0)
  have st2 := st1.set_ 2 (.int .u32 0)
  have ee2 := st2.cell 2
  have hs2 := hs1.setCell (p := ⟨w.heap.size + 1, 2, none⟩) (by first | (show _ ≤ _; omega) | simp) (.int .u32 0)
  have st3 := st2.set_ 3 (.int .u32 0)
  have ee3 := st3.cell 3
  have hs3 := hs2.setCell (p := ⟨w.heap.size + 1, 3, none⟩) (by first | (show _ ≤ _; omega) | simp) (.int .u32 0)
  have st4 := st3.set_ 4 (.bool false)
  have ee4 := st4.cell 4
  have hs4 := hs3.setCell (p := ⟨w.heap.size + 1, 4, none⟩) (by first | (show _ ≤ _; omega) | simp) (.bool false)
  have st5 := st4.set_ 5 (.int .u32 0)
  have ee5 := st5.cell 5
  have hs5 := hs4.setCell (p := ⟨w.heap.size + 1, 5, none⟩) (by first | (show _ ≤ _; omega) | simp) (.int .u32 0)
  have st6 := st5.set_ 6 (.int .u32 0)
  have ee6 := st6.cell 6
  have hs6 := hs5.setCell (p := ⟨w.heap.size + 1, 6, none⟩) (by first | (show _ ≤ _; omega) | simp) (.int .u32 0)
  simp at ee0 ee1 ee2 ee3 ee4 ee5 ee6
  clear st0 st1 st2 st3 st4 st5 st6
  clear km1 kr1 kv1 kf1 hmf
  go_wp2
  refine bodyPost_ret (by simp [results, Try.results27, go_sem, ee0, ee1, ee2, ee3, ee4, ee5, ee6]; try rfl) rfl ?_
  exact ⟨rfl, hs6⟩

set_option maxHeartbeats 1000000 in
theorem message_n (id k : Int) (A : Option Addr) (n c : Nat) (w : World) (h0 : 0 ≤ id) (h1 : id ≤ 65535) (hid : k = id - 4864) (hfl : fv (fKn k) (fLu k) (fMi k) (fNa k) = fv true false false true) (hn : n ≠ 8) : Calls Try.prog 27 #[.agg #[.int .i64 id, .slice A n c]] w fun e w' => e = .returned (.agg #[.int .i64 k, .int .i64 0, .int .u32 0, .int .u32 0, .bool false, .int .u32 0, .int .u32 0]) ∧ Below w.heap.size w w' := by
  have hf := fun w => fieldsOf_any k w
  rw [hfl] at hf
  unfold fv at hf
  have ew : IntKind.i64.wrap (id - 4864) = k := by rw [hid]; exact IntWalk.i64_in _ (by omega)
  have hnI : ((n : Int) == 8) = false := beq_eq_false_iff_ne.2 (by omega)
  have kv := ((Blk.new w 45 #[.int .i64 id, .slice A n c]).alloc (.cells #[.int .i64 0, .int .i64 0, .int .u32 0, .int .u32 0, .bool false, .int .u32 0, .int .u32 0] 26)).alloc (.cells #[.int .i64 k, .int .i64 0, .int .u32 0, .int .u32 0, .bool false, .int .u32 0, .int .u32 0] 26)
  have kr := ((Blk.new (w.alloc (.cells #[.int .i64 id, .slice A n c] 45)) 26 #[.int .i64 0, .int .i64 0, .int .u32 0, .int .u32 0, .bool false, .int .u32 0, .int .u32 0])).alloc (.cells #[.int .i64 k, .int .i64 0, .int .u32 0, .int .u32 0, .bool false, .int .u32 0, .int .u32 0] 26)
  have km := Blk.new ((w.alloc (.cells #[.int .i64 id, .slice A n c] 45)).alloc (.cells #[.int .i64 0, .int .i64 0, .int .u32 0, .int .u32 0, .bool false, .int .u32 0, .int .u32 0] 26)) 26 #[.int .i64 k, .int .i64 0, .int .u32 0, .int .u32 0, .bool false, .int .u32 0, .int .u32 0]
  have hz : ∀ (w : World) (o : Obj), (w.alloc o).heap.size = w.heap.size + 1 := fun w o => by simp
  rw [hz] at kr
  rw [hz, hz] at km
  have hbw := bt (ba2 w (.cells #[.int .i64 id, .slice A n c] 45) (.cells #[.int .i64 0, .int .i64 0, .int .u32 0, .int .u32 0, .bool false, .int .u32 0, .int .u32 0] 26)) (ba _ (.cells #[.int .i64 k, .int .i64 0, .int .u32 0, .int .u32 0, .bool false, .int .u32 0, .int .u32 0] 26))
  clear hz
  clear hid
  go_enter Try.func27, Try.ntmps27
  go_wp2_with fail
  refine (hf _).mono ?_
  rintro e w1 ⟨rfl, hb1⟩
  have kv1 := (kv.below hb1 kv.lt).alloc (.cells #[.bool true, .bool false, .bool false, .bool true] 50)
  have km1 := (km.below hb1 km.lt).alloc (.cells #[.bool true, .bool false, .bool false, .bool true] 50)
  have kr1 := (kr.below hb1 kr.lt).alloc (.cells #[.bool true, .bool false, .bool false, .bool true] 50)
  have kf1 := Blk.new w1 50 #[.bool true, .bool false, .bool false, .bool true]
  have hbf := bt hbw (bt hb1 (ba w1 (.cells #[.bool true, .bool false, .bool false, .bool true] 50)))
  have hmf : w.heap.size + 1 + 1 < w1.heap.size := Nat.lt_of_lt_of_le km.lt hb1.size
  clear km kr kv hbw hb1 hf
  have b0 := (kv1).cell 0
  have b1 := (kv1).cell 1
  simp only [List.getElem?_toArray, List.getElem?_cons_zero, List.getElem?_cons_succ] at b0 b1
  have c0 := (km1).cell 0
  have c1 := (km1).cell 1
  have c2 := (km1).cell 2
  have c3 := (km1).cell 3
  have c4 := (km1).cell 4
  have c5 := (km1).cell 5
  have c6 := (km1).cell 6
  simp only [List.getElem?_toArray, List.getElem?_cons_zero, List.getElem?_cons_succ] at c0 c1 c2 c3 c4 c5 c6
  have d0 := (kr1).cell 0
  have d1 := (kr1).cell 1
  have d2 := (kr1).cell 2
  have d3 := (kr1).cell 3
  have d4 := (kr1).cell 4
  have d5 := (kr1).cell 5
  have d6 := (kr1).cell 6
  simp only [List.getElem?_toArray, List.getElem?_cons_zero, List.getElem?_cons_succ] at d0 d1 d2 d3 d4 d5 d6
  have g0 := (kf1).cell 0
  have g1 := (kf1).cell 1
  have g2 := (kf1).cell 2
  have g3 := (kf1).cell 3
  simp only [List.getElem?_toArray, List.getElem?_cons_zero, List.getElem?_cons_succ] at g0 g1 g2 g3
  have f0 := (kr1).frozen 0
  have f1 := (kr1).frozen 1
  have f2 := (kr1).frozen 2
  have f3 := (kr1).frozen 3
  have f4 := (kr1).frozen 4
  have f5 := (kr1).frozen 5
  have f6 := (kr1).frozen 6
  have st0 := kr1.set_ 0 (.int .i64 k)
  have ee0 := st0.cell 0
  have hs0 := hbf.setCell (p := ⟨w.heap.size + 1, 0, none⟩) (by first | (show _ ≤ _; omega) | simp) (.int .i64 k)
  have st1 := st0.set_ 1 (.int .i64 0)
  have ee1 := st1.cell 1
  have hs1 := hs0.setCell (p := ⟨w.heap.size + 1, 1, none⟩) (by first | (show _ ≤ _; omega) | simp) (.int .i64 0)
  have st2 := st1.set_ 2 (.int .u32 0)
  have ee2 := st2.cell 2
  have hs2 := hs1.setCell (p := ⟨w.heap.size + 1, 2, none⟩) (by first | (show _ ≤ _; omega) | simp) (.int .u32 0)
  have st3 := st2.set_ 3 (.int .u32 0)
  have ee3 := st3.cell 3
  have hs3 := hs2.setCell (p := ⟨w.heap.size + 1, 3, none⟩) (by first | (show _ ≤ _; omega) | simp) (.int .u32 0)
  have st4 := st3.set_ 4 (.bool false)
  have ee4 := st4.cell 4
  have hs4 := hs3.setCell (p := ⟨w.heap.size + 1, 4, none⟩) (by first | (show _ ≤ _; omega) | simp) (.bool false)
  have st5 := st4.set_ 5 (.int .u32 0)
  have ee5 := st5.cell 5
  have hs5 := hs4.setCell (p := ⟨w.heap.size + 1, 5, none⟩) (by first | (show _ ≤ _; omega) | simp) (.int .u32 0)
  have st6 := st5.set_ 6 (.int .u32 0)
  have ee6 := st6.cell 6
  have hs6 := hs5.setCell (p := ⟨w.heap.size + 1, 6, none⟩) (by first | (show _ ≤ _; omega) | simp) (.int .u32 0)
  simp at ee0 ee1 ee2 ee3 ee4 ee5 ee6
  clear st0 st1 st2 st3 st4 st5 st6
  clear km1 kr1 kv1 kf1 hmf
  go_wp2
  refine bodyPost_ret (by simp [results, Try.results27, go_sem, ee0, ee1, ee2, ee3, ee4, ee5, ee6]; try rfl) rfl ?_
  exact ⟨rfl, hs6⟩

end Go.Proofs.Yteniponkakaaaaa
