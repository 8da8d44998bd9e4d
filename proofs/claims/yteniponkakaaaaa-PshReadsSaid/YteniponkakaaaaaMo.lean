/- Layer 6: what a variable seems to say. -/
import Derived.Test.YteniponkakaaaaaMn
namespace Go.Proofs.Yteniponkakaaaaa
open Go.RowKit
set_option linter.unusedVariables false
set_option linter.unusedSimpArgs false
theorem num_lt4' (l : List UInt8) (h : l.length = 4) : num l < 4294967296 := num_lt4 l h
set_option maxHeartbeats 1000000 in
theorem pnumber_any (A : Option Addr) (l : List UInt8) (c : Nat) (w : World) (h4 : l.length = 4) (h : Bs w w.heap.size A l) : Calls Try.prog 40 #[.slice A 4 c] w fun e w' => e = .returned (.int .u32 (num l : Nat)) ∧ w = w' := by
  have hg := get_any A l c w (by omega) h
  have hlt := num_lt4 l h4
  rw [show getR l = (num l, 0) from if_pos ⟨by omega, by omega⟩, h4] at hg
  have ew : IntKind.u32.wrap (num l : Int) = (num l : Int) := IntWalk.u32_in _ (by omega)
  clear h
  go_enter Try.func40, Try.ntmps40
  go_wp2_with fail
  refine hg.mono ?_
  rintro e w1 ⟨rfl, rfl⟩
  go_wp2
  go_ret
  exact ⟨rfl, rfl⟩

set_option maxHeartbeats 1000000 in
theorem message_names (id k : Int) (A : Option Addr) (D : List UInt8) (c : Nat) (w : World) (h0 : 0 ≤ id) (h1 : id ≤ 65535) (hid : k = id - 4864) (hfl : fv (fKn k) (fLu k) (fMi k) (fNa k) = fv true false false true) (h8 : D.length = 8) (hc : 8 ≤ c) (hbs : Bs w w.heap.size A D) : Calls Try.prog 27 #[.agg #[.int .i64 id, .slice A 8 c]] w fun e w' => e = .returned (.agg #[.int .i64 k, .int .i64 0, .int .u32 0, .int .u32 0, .bool false, .int .u32 (num (D.take 4) : Nat), .int .u32 (num (D.drop 4) : Nat)]) ∧ Below w.heap.size w w' := by
  obtain ⟨b, o, rfl, hB, hcl⟩ := hbs (by omega)
  have hs1 := hbs.part 0 4 (by omega)
  have hs2 := hbs.part 4 4 (by omega)
  rw [List.take_of_length_le (by rw [List.length_drop]; omega)] at hs2
  rw [List.drop_zero, Nat.add_zero] at hs1
  have p1 := fun (w' : World) (hb : Below w.heap.size w w') cc => pnumber_any (some ⟨b, o, none⟩) (D.take 4) cc w' (by rw [List.length_take]; omega) ((hs1.below hb).more hb.size)
  have p2 := fun (w' : World) (hb : Below w.heap.size w w') cc => pnumber_any (some ⟨b, o + 4, none⟩) (D.drop 4) cc w' (by rw [List.length_drop]; omega) ((hs2.below hb).more hb.size)
  generalize num (D.take 4) = y1 at *
  generalize num (D.drop 4) = y2 at *
  have P1 := Lib.hid p1
  have P2 := Lib.hid p2
  clear p1 p2 hs1 hs2 hbs hcl hB h8
  have i1 : ¬ (c = 4) := by omega
  have i2 : (4 : Int) ≤ (c : Int) := by omega
  have i3 : (8 : Int) ≤ (c : Int) := by omega
  have hf := fun w => fieldsOf_any k w
  rw [hfl] at hf
  unfold fv at hf
  have ew : IntKind.i64.wrap (id - 4864) = k := by rw [hid]; exact IntWalk.i64_in _ (by omega)
  have kv := ((Blk.new w 45 #[.int .i64 id, .slice (some ⟨b, o, none⟩) 8 c]).alloc (.cells #[.int .i64 0, .int .i64 0, .int .u32 0, .int .u32 0, .bool false, .int .u32 0, .int .u32 0] 26)).alloc (.cells #[.int .i64 k, .int .i64 0, .int .u32 0, .int .u32 0, .bool false, .int .u32 0, .int .u32 0] 26)
  have kr := ((Blk.new (w.alloc (.cells #[.int .i64 id, .slice (some ⟨b, o, none⟩) 8 c] 45)) 26 #[.int .i64 0, .int .i64 0, .int .u32 0, .int .u32 0, .bool false, .int .u32 0, .int .u32 0])).alloc (.cells #[.int .i64 k, .int .i64 0, .int .u32 0, .int .u32 0, .bool false, .int .u32 0, .int .u32 0] 26)
  have km := Blk.new ((w.alloc (.cells #[.int .i64 id, .slice (some ⟨b, o, none⟩) 8 c] 45)).alloc (.cells #[.int .i64 0, .int .i64 0, .int .u32 0, .int .u32 0, .bool false, .int .u32 0, .int .u32 0] 26)) 26 #[.int .i64 k, .int .i64 0, .int .u32 0, .int .u32 0, .bool false, .int .u32 0, .int .u32 0]
  have hz : ∀ (w : World) (o : Obj), (w.alloc o).heap.size = w.heap.size + 1 := fun w o => by simp
  rw [hz] at kr
  rw [hz, hz] at km
  have hbw := bt (ba2 w (.cells #[.int .i64 id, .slice (some ⟨b, o, none⟩) 8 c] 45) (.cells #[.int .i64 0, .int .i64 0, .int .u32 0, .int .u32 0, .bool false, .int .u32 0, .int .u32 0] 26)) (ba _ (.cells #[.int .i64 k, .int .i64 0, .int .u32 0, .int .u32 0, .bool false, .int .u32 0, .int .u32 0] 26))
  clear hz
  clear hid
  go_enter Try.func27, Try.ntmps27
  go_wp2_with fail
  refine (hf _).mono ?_
  rintro e w1 ⟨rfl, hb1⟩
  have kv1 := (kv.below hb1 kv.lt).alloc (.cells #[.bool true, .bool false, .bool false, .bool true] 50)
  have km1 := (km.below hb1 km.lt).alloc (.cells #[.bool true, .bool false, .bool false, .bool true] 50)
  have kr1 := (kr.below hb1 kr.lt).alloc (.cells #[.bool true, .bool false, .bool false, .bool true] 50)
  have kf1 := Blk.new w1 50 #[.bool true, .bool false, .bool false, .bool true]
  have hbf := bt hbw (bt hb1 (ba w1 (.cells #[.bool true, .bool false, .bool false, .bool true] 50)))
  have hmf : w.heap.size + 1 + 1 < w1.heap.size := Nat.lt_of_lt_of_le km.lt hb1.size
  clear km kr kv hbw hb1 hf
  have b0 := (kv1).cell 0
  have b1 := (kv1).cell 1
  simp only [List.getElem?_toArray, List.getElem?_cons_zero, List.getElem?_cons_succ] at b0 b1
  have g0 := (kf1).cell 0
  have g1 := (kf1).cell 1
  have g2 := (kf1).cell 2
  have g3 := (kf1).cell 3
  simp only [List.getElem?_toArray, List.getElem?_cons_zero, List.getElem?_cons_succ] at g0 g1 g2 g3
  go_wp2_with fail
  refine (P1.out _ hbf _).mono ?_
  rintro e w2 ⟨rfl, rfl⟩
  clear b0 b1 g0 g1 g2 g3
  generalize (w1.alloc (.cells #[.bool true, .bool false, .bool false, .bool true] 50)) = W0 at *
  have e1 := km1.set_ 5 (.int .u32 (y1 : Nat))
  have fm5 := km1.frozen 5
  have cm5 := km1.cell 5
  simp at cm5
  have hbA := hbf.setCell (p := ⟨w.heap.size + 1 + 1, 5, none⟩) (by show w.heap.size ≤ w.heap.size + 1 + 1; omega) (.int .u32 (y1 : Nat))
  have kv1A := kv1.far (p := ⟨w.heap.size + 1 + 1, 5, none⟩) (by show w.heap.size ≠ w.heap.size + 1 + 1; omega) (.int .u32 (y1 : Nat))
  have kr1A := kr1.far (p := ⟨w.heap.size + 1 + 1, 5, none⟩) (by show w.heap.size + 1 ≠ w.heap.size + 1 + 1; omega) (.int .u32 (y1 : Nat))
  have kf1A := kf1.far (p := ⟨w.heap.size + 1 + 1, 5, none⟩) (by show w1.heap.size ≠ w.heap.size + 1 + 1; omega) (.int .u32 (y1 : Nat))
  clear kv1 kr1 kf1 km1 hbf
  have b0 := (kv1A).cell 0
  have b1 := (kv1A).cell 1
  simp only [List.getElem?_toArray, List.getElem?_cons_zero, List.getElem?_cons_succ] at b0 b1
  go_wp2_with fail
  clear b0 b1 fm5 cm5
  skip
  refine (P2.out _ hbA _).mono ?_
  rintro e w2 ⟨rfl, rfl⟩
  generalize (W0.setCell ⟨w.heap.size + 1 + 1, 5, none⟩ (.int .u32 (y1 : Nat))) = W1 at *
  have fn6 := e1.frozen 6
  have cn6 := e1.cell 6
  simp at cn6
  have e2 := e1.set_ 6 (.int .u32 (y2 : Nat))
  have hbB := hbA.setCell (p := ⟨w.heap.size + 1 + 1, 6, none⟩) (by show w.heap.size ≤ w.heap.size + 1 + 1; omega) (.int .u32 (y2 : Nat))
  have kr1B := kr1A.far (p := ⟨w.heap.size + 1 + 1, 6, none⟩) (by show w.heap.size + 1 ≠ w.heap.size + 1 + 1; omega) (.int .u32 (y2 : Nat))
  have c0 := (e2).cell 0
  have c1 := (e2).cell 1
  have c2 := (e2).cell 2
  have c3 := (e2).cell 3
  have c4 := (e2).cell 4
  have c5 := (e2).cell 5
  have c6 := (e2).cell 6
  simp at c0
  simp at c1
  simp at c2
  simp at c3
  simp at c4
  simp at c5
  simp at c6
  clear e1 e2 kr1A hbA kv1A kf1A
  have d0 := (kr1B).cell 0
  have d1 := (kr1B).cell 1
  have d2 := (kr1B).cell 2
  have d3 := (kr1B).cell 3
  have d4 := (kr1B).cell 4
  have d5 := (kr1B).cell 5
  have d6 := (kr1B).cell 6
  simp only [List.getElem?_toArray, List.getElem?_cons_zero, List.getElem?_cons_succ] at d0 d1 d2 d3 d4 d5 d6
  have f0 := (kr1B).frozen 0
  have f1 := (kr1B).frozen 1
  have f2 := (kr1B).frozen 2
  have f3 := (kr1B).frozen 3
  have f4 := (kr1B).frozen 4
  have f5 := (kr1B).frozen 5
  have f6 := (kr1B).frozen 6
  have st0 := kr1B.set_ 0 (.int .i64 k)
  have ee0 := st0.cell 0
  have hs0 := hbB.setCell (p := ⟨w.heap.size + 1, 0, none⟩) (by first | (show _ ≤ _; omega) | simp) (.int .i64 k)
  have st1 := st0.set_ 1 (.int .i64 0)
  have ee1 := st1.cell 1
  have hs1 := hs0.setCell (p := ⟨w.heap.size + 1, 1, none⟩) (by first | (show _ ≤ _; omega) | simp) (.int .i64 0)
  have st2 := st1.set_ 2 (.int .u32 0)
  have ee2 := st2.cell 2
  have hs2 := hs1.setCell (p := ⟨w.heap.size + 1, 2, none⟩) (by first | (show _ ≤ _; omega) | simp) (.int .u32 0)
  have st3 := st2.set_ 3 (.int .u32 0)
  have ee3 := st3.cell 3
  have hs3 := hs2.setCell (p := ⟨w.heap.size + 1, 3, none⟩) (by first | (show _ ≤ _; omega) | simp) (.int .u32 0)
  have st4 := st3.set_ 4 (.bool false)
  have ee4 := st4.cell 4
  have hs4 := hs3.setCell (p := ⟨w.heap.size + 1, 4, none⟩) (by first | (show _ ≤ _; omega) | simp) (.bool false)
  have st5 := st4.set_ 5 (.int .u32 (y1 : Nat))
  have ee5 := st5.cell 5
  have hs5 := hs4.setCell (p := ⟨w.heap.size + 1, 5, none⟩) (by first | (show _ ≤ _; omega) | simp) (.int .u32 (y1 : Nat))
  have st6 := st5.set_ 6 (.int .u32 (y2 : Nat))
  have ee6 := st6.cell 6
  have hs6 := hs5.setCell (p := ⟨w.heap.size + 1, 6, none⟩) (by first | (show _ ≤ _; omega) | simp) (.int .u32 (y2 : Nat))
  simp at ee0 ee1 ee2 ee3 ee4 ee5 ee6
  clear st0 st1 st2 st3 st4 st5 st6
  clear kr1B
  go_wp2
  refine bodyPost_ret (by simp [results, Try.results27, go_sem, ee0, ee1, ee2, ee3, ee4, ee5, ee6]; try rfl) rfl ?_
  exact ⟨rfl, hs6⟩

end Go.Proofs.Yteniponkakaaaaa
