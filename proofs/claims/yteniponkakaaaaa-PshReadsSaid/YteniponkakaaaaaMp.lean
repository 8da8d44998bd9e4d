/- Layer 6: what a variable seems to say. -/
import Derived.Test.YteniponkakaaaaaMo
namespace Go.Proofs.Yteniponkakaaaaa
open Go.RowKit
set_option linter.unusedVariables false
set_option linter.unusedSimpArgs false
set_option maxHeartbeats 1000000 in
theorem message_luw_false (id k : Int) (A : Option Addr) (D : List UInt8) (c : Nat) (w : World) (h0 : 0 ≤ id) (h1 : id ≤ 65535) (hid : k = id - 4864) (hfl : fv (fKn k) (fLu k) (fMi k) (fNa k) = fv true true false false) (h10 : D.length = 10) (hc : 10 ≤ c) (hcm : c ≤ 9223372036854775807) (hbs : Bs w w.heap.size A D) (r : (Int × Nat × Nat) × Int) (hr : Hid (r = rdL (D.take 9))) (y : Bool) (hy : Hid (y = (((D.getD 9 0).toNat : Int) == 1))) : Calls Try.prog 27 #[.agg #[.int .i64 id, .slice A 10 c]] w fun e w' => e = .returned (.agg #[.int .i64 k, .int .i64 r.1.1, .int .u32 (r.1.2.1 : Nat), .int .u32 (r.1.2.2 : Nat), .bool false, .int .u32 0, .int .u32 0]) ∧ Below w.heap.size w w' := by
  obtain ⟨b, o, rfl, hB, hcl⟩ := hbs (by omega)
  have hs1 := hbs.part 0 9 (by omega)
  rw [List.drop_zero, Nat.add_zero] at hs1
  have p1 := fun (w' : World) (hb : Below w.heap.size w w') => read_any (some ⟨b, o, none⟩) (D.take 9) c w' (by rw [List.length_take]; omega) hcm ((hs1.below hb).more hb.size)
  rw [show (D.take 9).length = 9 by rw [List.length_take]; omega, ← hr.out] at p1
  have hx9 := hcl 9 (by omega)
  rw [show D[9] = D.getD 9 0 by rw [List.getD_eq_getElem?_getD, List.getElem?_eq_getElem (by omega)]; rfl] at hx9
  have hxl := (D.getD 9 0).toNat_lt
  obtain ⟨x, hx⟩ : ∃ x, x = (D.getD 9 0).toNat := ⟨_, rfl⟩
  have ey : ((x : Int) == 1) = y := by rw [hx]; exact hy.out.symm
  rw [← hx] at hx9
  obtain ⟨⟨uu, a, q⟩, er⟩ := r
  unfold lvE lv at p1
  simp only at p1 ⊢
  have P1 := Lib.hid p1
  clear p1 hs1 hbs hcl h10 hx hy hr hxl
  have i2 : (9 : Int) ≤ (c : Int) := by omega
  have i3 : (10 : Int) ≤ (c : Int) := by omega
  have hf := fun w => fieldsOf_any k w
  rw [hfl] at hf
  unfold fv at hf
  have ew : IntKind.i64.wrap (id - 4864) = k := by rw [hid]; exact IntWalk.i64_in _ (by omega)
  have kv := ((Blk.new w 45 #[.int .i64 id, .slice (some ⟨b, o, none⟩) 10 c]).alloc (.cells #[.int .i64 0, .int .i64 0, .int .u32 0, .int .u32 0, .bool false, .int .u32 0, .int .u32 0] 26)).alloc (.cells #[.int .i64 k, .int .i64 0, .int .u32 0, .int .u32 0, .bool false, .int .u32 0, .int .u32 0] 26)
  have kr := ((Blk.new (w.alloc (.cells #[.int .i64 id, .slice (some ⟨b, o, none⟩) 10 c] 45)) 26 #[.int .i64 0, .int .i64 0, .int .u32 0, .int .u32 0, .bool false, .int .u32 0, .int .u32 0])).alloc (.cells #[.int .i64 k, .int .i64 0, .int .u32 0, .int .u32 0, .bool false, .int .u32 0, .int .u32 0] 26)
  have km := Blk.new ((w.alloc (.cells #[.int .i64 id, .slice (some ⟨b, o, none⟩) 10 c] 45)).alloc (.cells #[.int .i64 0, .int .i64 0, .int .u32 0, .int .u32 0, .bool false, .int .u32 0, .int .u32 0] 26)) 26 #[.int .i64 k, .int .i64 0, .int .u32 0, .int .u32 0, .bool false, .int .u32 0, .int .u32 0]
  have hz : ∀ (w : World) (o : Obj), (w.alloc o).heap.size = w.heap.size + 1 := fun w o => by simp
  rw [hz] at kr
  rw [hz, hz] at km
  have hbw := bt (ba2 w (.cells #[.int .i64 id, .slice (some ⟨b, o, none⟩) 10 c] 45) (.cells #[.int .i64 0, .int .i64 0, .int .u32 0, .int .u32 0, .bool false, .int .u32 0, .int .u32 0] 26)) (ba _ (.cells #[.int .i64 k, .int .i64 0, .int .u32 0, .int .u32 0, .bool false, .int .u32 0, .int .u32 0] 26))
  clear hz
  clear hid
  go_enter Try.func27, Try.ntmps27
  go_wp2_with fail
  refine (hf _).mono ?_
  rintro e w1 ⟨rfl, hb1⟩
  have kv1 := (kv.below hb1 kv.lt).alloc (.cells #[.bool true, .bool true, .bool false, .bool false] 50)
  have km1 := (km.below hb1 km.lt).alloc (.cells #[.bool true, .bool true, .bool false, .bool false] 50)
  have kr1 := (kr.below hb1 kr.lt).alloc (.cells #[.bool true, .bool true, .bool false, .bool false] 50)
  have kf1 := Blk.new w1 50 #[.bool true, .bool true, .bool false, .bool false]
  have hbf := bt hbw (bt hb1 (ba w1 (.cells #[.bool true, .bool true, .bool false, .bool false] 50)))
  have hmf : w.heap.size + 1 + 1 < w1.heap.size := Nat.lt_of_lt_of_le km.lt hb1.size
  clear km kr kv hbw hb1 hf
  have b0 := (kv1).cell 0
  have b1 := (kv1).cell 1
  simp only [List.getElem?_toArray, List.getElem?_cons_zero, List.getElem?_cons_succ] at b0 b1
  have g0 := (kf1).cell 0
  have g1 := (kf1).cell 1
  have g2 := (kf1).cell 2
  have g3 := (kf1).cell 3
  simp only [List.getElem?_toArray, List.getElem?_cons_zero, List.getElem?_cons_succ] at g0 g1 g2 g3
  go_wp2_with fail
  refine (P1.out _ hbf).mono ?_
  rintro e w3 ⟨rfl, hb3⟩
  clear b0 b1 g0 g1 g2 g3
  have kv3 := kv1.below hb3 kv1.lt
  have km3 := km1.below hb3 km1.lt
  have kr3 := kr1.below hb3 kr1.lt
  have kf3 := kf1.below hb3 kf1.lt
  have hb30 := bt hbf hb3
  have hsm := kf3.lt
  clear kv1 km1 kr1 kf1 hb3 hbf P1
  have m0 := (km3).cell 0
  have m1 := (km3).cell 1
  have m2 := (km3).cell 2
  have m3 := (km3).cell 3
  have m4 := (km3).cell 4
  have m5 := (km3).cell 5
  have m6 := (km3).cell 6
  simp only [List.getElem?_toArray, List.getElem?_cons_zero, List.getElem?_cons_succ] at m0 m1 m2 m3 m4 m5 m6
  have fm0 := (km3).frozen 0
  have fm1 := (km3).frozen 1
  have fm2 := (km3).frozen 2
  have fm3 := (km3).frozen 3
  have fm4 := (km3).frozen 4
  have fm5 := (km3).frozen 5
  have fm6 := (km3).frozen 6
  have e1 := km3.set_ 1 (.int .i64 uu)
  have e2 := e1.set_ 2 (.int .u32 (a : Nat))
  have e3 := e2.set_ 3 (.int .u32 (q : Nat))
  have hb31 := hb30.setCell (p := ⟨w.heap.size + 1 + 1, 1, none⟩) (by show w.heap.size ≤ w.heap.size + 1 + 1; omega) (.int .i64 uu)
  have hb32 := hb31.setCell (p := ⟨w.heap.size + 1 + 1, 2, none⟩) (by show w.heap.size ≤ w.heap.size + 1 + 1; omega) (.int .u32 (a : Nat))
  have hb33 := hb32.setCell (p := ⟨w.heap.size + 1 + 1, 3, none⟩) (by show w.heap.size ≤ w.heap.size + 1 + 1; omega) (.int .u32 (q : Nat))
  have kv31 := kv3.far (p := ⟨w.heap.size + 1 + 1, 1, none⟩) (by show w.heap.size ≠ w.heap.size + 1 + 1; omega) (.int .i64 uu)
  have kv32 := kv31.far (p := ⟨w.heap.size + 1 + 1, 2, none⟩) (by show w.heap.size ≠ w.heap.size + 1 + 1; omega) (.int .u32 (a : Nat))
  have kv33 := kv32.far (p := ⟨w.heap.size + 1 + 1, 3, none⟩) (by show w.heap.size ≠ w.heap.size + 1 + 1; omega) (.int .u32 (q : Nat))
  have kr31 := kr3.far (p := ⟨w.heap.size + 1 + 1, 1, none⟩) (by show w.heap.size + 1 ≠ w.heap.size + 1 + 1; omega) (.int .i64 uu)
  have kr32 := kr31.far (p := ⟨w.heap.size + 1 + 1, 2, none⟩) (by show w.heap.size + 1 ≠ w.heap.size + 1 + 1; omega) (.int .u32 (a : Nat))
  have kr33 := kr32.far (p := ⟨w.heap.size + 1 + 1, 3, none⟩) (by show w.heap.size + 1 ≠ w.heap.size + 1 + 1; omega) (.int .u32 (q : Nat))
  have kf31 := kf3.far (p := ⟨w.heap.size + 1 + 1, 1, none⟩) (by show w1.heap.size ≠ w.heap.size + 1 + 1; omega) (.int .i64 uu)
  have kf32 := kf31.far (p := ⟨w.heap.size + 1 + 1, 2, none⟩) (by show w1.heap.size ≠ w.heap.size + 1 + 1; omega) (.int .u32 (a : Nat))
  have kf33 := kf32.far (p := ⟨w.heap.size + 1 + 1, 3, none⟩) (by show w1.heap.size ≠ w.heap.size + 1 + 1; omega) (.int .u32 (q : Nat))
  have hx93 : (((w3.setCell ⟨w.heap.size + 1 + 1, 1, none⟩ (.int .i64 uu)).setCell ⟨w.heap.size + 1 + 1, 2, none⟩ (.int .u32 (a : Nat))).setCell ⟨w.heap.size + 1 + 1, 3, none⟩ (.int .u32 (q : Nat))).cell? ⟨b, o + 9, none⟩ = some (.int .u8 (x : Int)) := by rw [hb33.cell (p := ⟨b, o + 9, none⟩) hB]; exact hx9
  clear hx9
  have b0 := (kv33).cell 0
  have b1 := (kv33).cell 1
  simp only [List.getElem?_toArray, List.getElem?_cons_zero, List.getElem?_cons_succ] at b0 b1
  have g0 := (kf33).cell 0
  have g1 := (kf33).cell 1
  have g2 := (kf33).cell 2
  have g3 := (kf33).cell 3
  simp only [List.getElem?_toArray, List.getElem?_cons_zero, List.getElem?_cons_succ] at g0 g1 g2 g3
  have n4 := e3.cell 4
  have fn4 := e3.frozen 4
  simp at n4
  have e4 := e3.set_ 4 (.bool false)
  have hb34 := hb33.setCell (p := ⟨w.heap.size + 1 + 1, 4, none⟩) (by show w.heap.size ≤ w.heap.size + 1 + 1; omega) (.bool false)
  have kr34 := kr33.far (p := ⟨w.heap.size + 1 + 1, 4, none⟩) (by show w.heap.size + 1 ≠ w.heap.size + 1 + 1; omega) (.bool false)
  have kf34 := kf33.far (p := ⟨w.heap.size + 1 + 1, 4, none⟩) (by show w1.heap.size ≠ w.heap.size + 1 + 1; omega) (.bool false)
  have gg0 := (kf34).cell 0
  have gg1 := (kf34).cell 1
  have gg2 := (kf34).cell 2
  have gg3 := (kf34).cell 3
  simp only [List.getElem?_toArray, List.getElem?_cons_zero, List.getElem?_cons_succ] at gg0 gg1 gg2 gg3
  have c0 := (e4).cell 0
  have c1 := (e4).cell 1
  have c2 := (e4).cell 2
  have c3 := (e4).cell 3
  have c4 := (e4).cell 4
  have c5 := (e4).cell 5
  have c6 := (e4).cell 6
  simp at c0
  simp at c1
  simp at c2
  simp at c3
  simp at c4
  simp at c5
  simp at c6
  have d0 := (kr34).cell 0
  have d1 := (kr34).cell 1
  have d2 := (kr34).cell 2
  have d3 := (kr34).cell 3
  have d4 := (kr34).cell 4
  have d5 := (kr34).cell 5
  have d6 := (kr34).cell 6
  simp only [List.getElem?_toArray, List.getElem?_cons_zero, List.getElem?_cons_succ] at d0 d1 d2 d3 d4 d5 d6
  have f0 := (kr34).frozen 0
  have f1 := (kr34).frozen 1
  have f2 := (kr34).frozen 2
  have f3 := (kr34).frozen 3
  have f4 := (kr34).frozen 4
  have f5 := (kr34).frozen 5
  have f6 := (kr34).frozen 6
  have st0 := kr34.set_ 0 (.int .i64 k)
  have ee0 := st0.cell 0
  have hs0 := hb34.setCell (p := ⟨w.heap.size + 1, 0, none⟩) (by first | (show _ ≤ _; omega) | simp) (.int .i64 k)
  have st1 := st0.set_ 1 (.int .i64 uu)
  have ee1 := st1.cell 1
  have hs1 := hs0.setCell (p := ⟨w.heap.size + 1, 1, none⟩) (by first | (show _ ≤ _; omega) | simp) (.int .i64 uu)
  have st2 := st1.set_ 2 (.int .u32 (a : Nat))
  have ee2 := st2.cell 2
  have hs2 := hs1.setCell (p := ⟨w.heap.size + 1, 2, none⟩) (by first | (show _ ≤ _; omega) | simp) (.int .u32 (a : Nat))
  have st3 := st2.set_ 3 (.int .u32 (q : Nat))
  have ee3 := st3.cell 3
  have hs3 := hs2.setCell (p := ⟨w.heap.size + 1, 3, none⟩) (by first | (show _ ≤ _; omega) | simp) (.int .u32 (q : Nat))
  have st4 := st3.set_ 4 (.bool false)
  have ee4 := st4.cell 4
  have hs4 := hs3.setCell (p := ⟨w.heap.size + 1, 4, none⟩) (by first | (show _ ≤ _; omega) | simp) (.bool false)
  have st5 := st4.set_ 5 (.int .u32 0)
  have ee5 := st5.cell 5
  have hs5 := hs4.setCell (p := ⟨w.heap.size + 1, 5, none⟩) (by first | (show _ ≤ _; omega) | simp) (.int .u32 0)
  have st6 := st5.set_ 6 (.int .u32 0)
  have ee6 := st6.cell 6
  have hs6 := hs5.setCell (p := ⟨w.heap.size + 1, 6, none⟩) (by first | (show _ ≤ _; omega) | simp) (.int .u32 0)
  simp at ee0 ee1 ee2 ee3 ee4 ee5 ee6
  clear st0 st1 st2 st3 st4 st5 st6
  clear e1 e2 e3 e4 km3 kv3 kr3 kf3 kv31 kv32 kv33 kr31 kr32 kr33 kr34 kf31 kf32 kf33 kf34 hb30 hb31 hb32 hb33 hb34
  go_wp2
  refine bodyPost_ret (by simp [results, Try.results27, go_sem, ee0, ee1, ee2, ee3, ee4, ee5, ee6]; try rfl) rfl ?_
  exact ⟨rfl, hs6⟩

set_option maxHeartbeats 1000000 in
theorem message_luw_true (id k : Int) (A : Option Addr) (D : List UInt8) (c : Nat) (w : World) (h0 : 0 ≤ id) (h1 : id ≤ 65535) (hid : k = id - 4864) (hfl : fv (fKn k) (fLu k) (fMi k) (fNa k) = fv true true true false) (h10 : D.length = 10) (hc : 10 ≤ c) (hcm : c ≤ 9223372036854775807) (hbs : Bs w w.heap.size A D) (r : (Int × Nat × Nat) × Int) (hr : Hid (r = rdL (D.take 9))) (y : Bool) (hy : Hid (y = (((D.getD 9 0).toNat : Int) == 1))) : Calls Try.prog 27 #[.agg #[.int .i64 id, .slice A 10 c]] w fun e w' => e = .returned (.agg #[.int .i64 k, .int .i64 r.1.1, .int .u32 (r.1.2.1 : Nat), .int .u32 (r.1.2.2 : Nat), .bool y, .int .u32 0, .int .u32 0]) ∧ Below w.heap.size w w' := by
  obtain ⟨b, o, rfl, hB, hcl⟩ := hbs (by omega)
  have hs1 := hbs.part 0 9 (by omega)
  rw [List.drop_zero, Nat.add_zero] at hs1
  have p1 := fun (w' : World) (hb : Below w.heap.size w w') => read_any (some ⟨b, o, none⟩) (D.take 9) c w' (by rw [List.length_take]; omega) hcm ((hs1.below hb).more hb.size)
  rw [show (D.take 9).length = 9 by rw [List.length_take]; omega, ← hr.out] at p1
  have hx9 := hcl 9 (by omega)
  rw [show D[9] = D.getD 9 0 by rw [List.getD_eq_getElem?_getD, List.getElem?_eq_getElem (by omega)]; rfl] at hx9
  have hxl := (D.getD 9 0).toNat_lt
  obtain ⟨x, hx⟩ : ∃ x, x = (D.getD 9 0).toNat := ⟨_, rfl⟩
  have ey : ((x : Int) == 1) = y := by rw [hx]; exact hy.out.symm
  rw [← hx] at hx9
  obtain ⟨⟨uu, a, q⟩, er⟩ := r
  unfold lvE lv at p1
  simp only at p1 ⊢
  have P1 := Lib.hid p1
  clear p1 hs1 hbs hcl h10 hx hy hr hxl
  have i2 : (9 : Int) ≤ (c : Int) := by omega
  have i3 : (10 : Int) ≤ (c : Int) := by omega
  have hf := fun w => fieldsOf_any k w
  rw [hfl] at hf
  unfold fv at hf
  have ew : IntKind.i64.wrap (id - 4864) = k := by rw [hid]; exact IntWalk.i64_in _ (by omega)
  have kv := ((Blk.new w 45 #[.int .i64 id, .slice (some ⟨b, o, none⟩) 10 c]).alloc (.cells #[.int .i64 0, .int .i64 0, .int .u32 0, .int .u32 0, .bool false, .int .u32 0, .int .u32 0] 26)).alloc (.cells #[.int .i64 k, .int .i64 0, .int .u32 0, .int .u32 0, .bool false, .int .u32 0, .int .u32 0] 26)
  have kr := ((Blk.new (w.alloc (.cells #[.int .i64 id, .slice (some ⟨b, o, none⟩) 10 c] 45)) 26 #[.int .i64 0, .int .i64 0, .int .u32 0, .int .u32 0, .bool false, .int .u32 0, .int .u32 0])).alloc (.cells #[.int .i64 k, .int .i64 0, .int .u32 0, .int .u32 0, .bool false, .int .u32 0, .int .u32 0] 26)
  have km := Blk.new ((w.alloc (.cells #[.int .i64 id, .slice (some ⟨b, o, none⟩) 10 c] 45)).alloc (.cells #[.int .i64 0, .int .i64 0, .int .u32 0, .int .u32 0, .bool false, .int .u32 0, .int .u32 0] 26)) 26 #[.int .i64 k, .int .i64 0, .int .u32 0, .int .u32 0, .bool false, .int .u32 0, .int .u32 0]
  have hz : ∀ (w : World) (o : Obj), (w.alloc o).heap.size = w.heap.size + 1 := fun w o => by simp
  rw [hz] at kr
  rw [hz, hz] at km
  have hbw := bt (ba2 w (.cells #[.int .i64 id, .slice (some ⟨b, o, none⟩) 10 c] 45) (.cells #[.int .i64 0, .int .i64 0, .int .u32 0, .int .u32 0, .bool false, .int .u32 0, .int .u32 0] 26)) (ba _ (.cells #[.int .i64 k, .int .i64 0, .int .u32 0, .int .u32 0, .bool false, .int .u32 0, .int .u32 0] 26))
  clear hz
  clear hid
  go_enter Try.func27, Try.ntmps27
  go_wp2_with fail
  refine (hf _).mono ?_
  rintro e w1 ⟨rfl, hb1⟩
  have kv1 := (kv.below hb1 kv.lt).alloc (.cells #[.bool true, .bool true, .bool true, .bool false] 50)
  have km1 := (km.below hb1 km.lt).alloc (.cells #[.bool true, .bool true, .bool true, .bool false] 50)
  have kr1 := (kr.below hb1 kr.lt).alloc (.cells #[.bool true, .bool true, .bool true, .bool false] 50)
  have kf1 := Blk.new w1 50 #[.bool true, .bool true, .bool true, .bool false]
  have hbf := bt hbw (bt hb1 (ba w1 (.cells #[.bool true, .bool true, .bool true, .bool false] 50)))
  have hmf : w.heap.size + 1 + 1 < w1.heap.size := Nat.lt_of_lt_of_le km.lt hb1.size
  clear km kr kv hbw hb1 hf
  have b0 := (kv1).cell 0
  have b1 := (kv1).cell 1
  simp only [List.getElem?_toArray, List.getElem?_cons_zero, List.getElem?_cons_succ] at b0 b1
  have g0 := (kf1).cell 0
  have g1 := (kf1).cell 1
  have g2 := (kf1).cell 2
  have g3 := (kf1).cell 3
  simp only [List.getElem?_toArray, List.getElem?_cons_zero, List.getElem?_cons_succ] at g0 g1 g2 g3
  go_wp2_with fail
  refine (P1.out _ hbf).mono ?_
  rintro e w3 ⟨rfl, hb3⟩
  clear b0 b1 g0 g1 g2 g3
  have kv3 := kv1.below hb3 kv1.lt
  have km3 := km1.below hb3 km1.lt
  have kr3 := kr1.below hb3 kr1.lt
  have kf3 := kf1.below hb3 kf1.lt
  have hb30 := bt hbf hb3
  have hsm := kf3.lt
  clear kv1 km1 kr1 kf1 hb3 hbf P1
  have m0 := (km3).cell 0
  have m1 := (km3).cell 1
  have m2 := (km3).cell 2
  have m3 := (km3).cell 3
  have m4 := (km3).cell 4
  have m5 := (km3).cell 5
  have m6 := (km3).cell 6
  simp only [List.getElem?_toArray, List.getElem?_cons_zero, List.getElem?_cons_succ] at m0 m1 m2 m3 m4 m5 m6
  have fm0 := (km3).frozen 0
  have fm1 := (km3).frozen 1
  have fm2 := (km3).frozen 2
  have fm3 := (km3).frozen 3
  have fm4 := (km3).frozen 4
  have fm5 := (km3).frozen 5
  have fm6 := (km3).frozen 6
  have e1 := km3.set_ 1 (.int .i64 uu)
  have e2 := e1.set_ 2 (.int .u32 (a : Nat))
  have e3 := e2.set_ 3 (.int .u32 (q : Nat))
  have hb31 := hb30.setCell (p := ⟨w.heap.size + 1 + 1, 1, none⟩) (by show w.heap.size ≤ w.heap.size + 1 + 1; omega) (.int .i64 uu)
  have hb32 := hb31.setCell (p := ⟨w.heap.size + 1 + 1, 2, none⟩) (by show w.heap.size ≤ w.heap.size + 1 + 1; omega) (.int .u32 (a : Nat))
  have hb33 := hb32.setCell (p := ⟨w.heap.size + 1 + 1, 3, none⟩) (by show w.heap.size ≤ w.heap.size + 1 + 1; omega) (.int .u32 (q : Nat))
  have kv31 := kv3.far (p := ⟨w.heap.size + 1 + 1, 1, none⟩) (by show w.heap.size ≠ w.heap.size + 1 + 1; omega) (.int .i64 uu)
  have kv32 := kv31.far (p := ⟨w.heap.size + 1 + 1, 2, none⟩) (by show w.heap.size ≠ w.heap.size + 1 + 1; omega) (.int .u32 (a : Nat))
  have kv33 := kv32.far (p := ⟨w.heap.size + 1 + 1, 3, none⟩) (by show w.heap.size ≠ w.heap.size + 1 + 1; omega) (.int .u32 (q : Nat))
  have kr31 := kr3.far (p := ⟨w.heap.size + 1 + 1, 1, none⟩) (by show w.heap.size + 1 ≠ w.heap.size + 1 + 1; omega) (.int .i64 uu)
  have kr32 := kr31.far (p := ⟨w.heap.size + 1 + 1, 2, none⟩) (by show w.heap.size + 1 ≠ w.heap.size + 1 + 1; omega) (.int .u32 (a : Nat))
  have kr33 := kr32.far (p := ⟨w.heap.size + 1 + 1, 3, none⟩) (by show w.heap.size + 1 ≠ w.heap.size + 1 + 1; omega) (.int .u32 (q : Nat))
  have kf31 := kf3.far (p := ⟨w.heap.size + 1 + 1, 1, none⟩) (by show w1.heap.size ≠ w.heap.size + 1 + 1; omega) (.int .i64 uu)
  have kf32 := kf31.far (p := ⟨w.heap.size + 1 + 1, 2, none⟩) (by show w1.heap.size ≠ w.heap.size + 1 + 1; omega) (.int .u32 (a : Nat))
  have kf33 := kf32.far (p := ⟨w.heap.size + 1 + 1, 3, none⟩) (by show w1.heap.size ≠ w.heap.size + 1 + 1; omega) (.int .u32 (q : Nat))
  have hx93 : (((w3.setCell ⟨w.heap.size + 1 + 1, 1, none⟩ (.int .i64 uu)).setCell ⟨w.heap.size + 1 + 1, 2, none⟩ (.int .u32 (a : Nat))).setCell ⟨w.heap.size + 1 + 1, 3, none⟩ (.int .u32 (q : Nat))).cell? ⟨b, o + 9, none⟩ = some (.int .u8 (x : Int)) := by rw [hb33.cell (p := ⟨b, o + 9, none⟩) hB]; exact hx9
  clear hx9
  have b0 := (kv33).cell 0
  have b1 := (kv33).cell 1
  simp only [List.getElem?_toArray, List.getElem?_cons_zero, List.getElem?_cons_succ] at b0 b1
  have g0 := (kf33).cell 0
  have g1 := (kf33).cell 1
  have g2 := (kf33).cell 2
  have g3 := (kf33).cell 3
  simp only [List.getElem?_toArray, List.getElem?_cons_zero, List.getElem?_cons_succ] at g0 g1 g2 g3
  have n4 := e3.cell 4
  have fn4 := e3.frozen 4
  simp at n4
  have e4 := e3.set_ 4 (.bool y)
  have hb34 := hb33.setCell (p := ⟨w.heap.size + 1 + 1, 4, none⟩) (by show w.heap.size ≤ w.heap.size + 1 + 1; omega) (.bool y)
  have kr34 := kr33.far (p := ⟨w.heap.size + 1 + 1, 4, none⟩) (by show w.heap.size + 1 ≠ w.heap.size + 1 + 1; omega) (.bool y)
  have kf34 := kf33.far (p := ⟨w.heap.size + 1 + 1, 4, none⟩) (by show w1.heap.size ≠ w.heap.size + 1 + 1; omega) (.bool y)
  have gg0 := (kf34).cell 0
  have gg1 := (kf34).cell 1
  have gg2 := (kf34).cell 2
  have gg3 := (kf34).cell 3
  simp only [List.getElem?_toArray, List.getElem?_cons_zero, List.getElem?_cons_succ] at gg0 gg1 gg2 gg3
  have c0 := (e4).cell 0
  have c1 := (e4).cell 1
  have c2 := (e4).cell 2
  have c3 := (e4).cell 3
  have c4 := (e4).cell 4
  have c5 := (e4).cell 5
  have c6 := (e4).cell 6
  simp at c0
  simp at c1
  simp at c2
  simp at c3
  simp at c4
  simp at c5
  simp at c6
  have d0 := (kr34).cell 0
  have d1 := (kr34).cell 1
  have d2 := (kr34).cell 2
  have d3 := (kr34).cell 3
  have d4 := (kr34).cell 4
  have d5 := (kr34).cell 5
  have d6 := (kr34).cell 6
  simp only [List.getElem?_toArray, List.getElem?_cons_zero, List.getElem?_cons_succ] at d0 d1 d2 d3 d4 d5 d6
  have f0 := (kr34).frozen 0
  have f1 := (kr34).frozen 1
  have f2 := (kr34).frozen 2
  have f3 := (kr34).frozen 3
  have f4 := (kr34).frozen 4
  have f5 := (kr34).frozen 5
  have f6 := (kr34).frozen 6
  have st0 := kr34.set_ 0 (.int .i64 k)
  have ee0 := st0.cell 0
  have hs0 := hb34.setCell (p := ⟨w.heap.size + 1, 0, none⟩) (by first | (show _ ≤ _; omega) | simp) (.int .i64 k)
  have st1 := st0.set_ 1 (.int .i64 uu)
  have ee1 := st1.cell 1
  have hs1 := hs0.setCell (p := ⟨w.heap.size + 1, 1, none⟩) (by first | (show _ ≤ _; omega) | simp) (.int .i64 uu)
  have st2 := st1.set_ 2 (.int .u32 (a : Nat))
  have ee2 := st2.cell 2
  have hs2 := hs1.setCell (p := ⟨w.heap.size + 1, 2, none⟩) (by first | (show _ ≤ _; omega) | simp) (.int .u32 (a : Nat))
  have st3 := st2.set_ 3 (.int .u32 (q : Nat))
  have ee3 := st3.cell 3
  have hs3 := hs2.setCell (p := ⟨w.heap.size + 1, 3, none⟩) (by first | (show _ ≤ _; omega) | simp) (.int .u32 (q : Nat))
  have st4 := st3.set_ 4 (.bool y)
  have ee4 := st4.cell 4
  have hs4 := hs3.setCell (p := ⟨w.heap.size + 1, 4, none⟩) (by first | (show _ ≤ _; omega) | simp) (.bool y)
  have st5 := st4.set_ 5 (.int .u32 0)
  have ee5 := st5.cell 5
  have hs5 := hs4.setCell (p := ⟨w.heap.size + 1, 5, none⟩) (by first | (show _ ≤ _; omega) | simp) (.int .u32 0)
  have st6 := st5.set_ 6 (.int .u32 0)
  have ee6 := st6.cell 6
  have hs6 := hs5.setCell (p := ⟨w.heap.size + 1, 6, none⟩) (by first | (show _ ≤ _; omega) | simp) (.int .u32 0)
  simp at ee0 ee1 ee2 ee3 ee4 ee5 ee6
  clear st0 st1 st2 st3 st4 st5 st6
  clear e1 e2 e3 e4 km3 kv3 kr3 kf3 kv31 kv32 kv33 kr31 kr32 kr33 kr34 kf31 kf32 kf33 kf34 hb30 hb31 hb32 hb33 hb34
  go_wp2
  refine bodyPost_ret (by simp [results, Try.results27, go_sem, ee0, ee1, ee2, ee3, ee4, ee5, ee6]; try rfl) rfl ?_
  exact ⟨rfl, hs6⟩

end Go.Proofs.Yteniponkakaaaaa
