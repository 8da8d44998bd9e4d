/- Layer 6: the document's guess at a message. -/
import Derived.Test.YteniponkakaaaaaMs
import Derived.Test.YteniponkakaaaaaGetR
namespace Go.Proofs.Yteniponkakaaaaa
open Go.RowKit
set_option linter.unusedVariables false
set_option linter.unusedSimpArgs false

/-- What a variable would be. -/
def guessM (id : Nat) (D : List UInt8) : MsgV :=
  if (id : Int) - 4864 < 12 ∧ D.length = 10 then ⟨(id : Int) - 4864, (rdL (D.take 9)).1.1, (rdL (D.take 9)).1.2.1, (rdL (D.take 9)).1.2.2, (((D.getD 9 0).toNat : Int) == 1), 0, 0⟩
  else if (id : Int) - 4864 = 12 ∧ D.length = 8 then ⟨12, 0, 0, 0, false, num (D.take 4), num (D.drop 4)⟩
  else ⟨(id : Int) - 4864, 0, 0, 0, false, 0, 0⟩
set_option maxHeartbeats 1000000 in
theorem guess_13 (id k : Int) (A : Option Addr) (n c : Nat) (w : World) (h0 : 0 ≤ id) (h1 : id ≤ 65535) (hid : k = id - 4864) (hk : 12 < k) : Calls Try.prog 30 #[.agg #[.int .i64 id, .slice A n c]] w fun e w' => e = .returned (.agg #[.int .i64 k, .int .i64 0, .int .u32 0, .int .u32 0, .bool false, .int .u32 0, .int .u32 0]) ∧ Below w.heap.size w w' := by
  have hk1 : ¬ k < 12 := by omega
  have hk2 : (k == 12) = false := beq_eq_false_iff_ne.2 (by omega)
  have hk3 : ¬ k = 12 := by omega
  have ew : IntKind.i64.wrap (id - 4864) = k := by rw [hid]; exact IntWalk.i64_in _ (by omega)
  have kv := ((Blk.new w 45 #[.int .i64 id, .slice A n c]).alloc (.cells #[.int .i64 0, .int .i64 0, .int .u32 0, .int .u32 0, .bool false, .int .u32 0, .int .u32 0] 26)).alloc (.cells #[.int .i64 k, .int .i64 0, .int .u32 0, .int .u32 0, .bool false, .int .u32 0, .int .u32 0] 26)
  have kr := ((Blk.new (w.alloc (.cells #[.int .i64 id, .slice A n c] 45)) 26 #[.int .i64 0, .int .i64 0, .int .u32 0, .int .u32 0, .bool false, .int .u32 0, .int .u32 0])).alloc (.cells #[.int .i64 k, .int .i64 0, .int .u32 0, .int .u32 0, .bool false, .int .u32 0, .int .u32 0] 26)
  have km := Blk.new ((w.alloc (.cells #[.int .i64 id, .slice A n c] 45)).alloc (.cells #[.int .i64 0, .int .i64 0, .int .u32 0, .int .u32 0, .bool false, .int .u32 0, .int .u32 0] 26)) 26 #[.int .i64 k, .int .i64 0, .int .u32 0, .int .u32 0, .bool false, .int .u32 0, .int .u32 0]
  have kz := ((Blk.new (w.alloc (.cells #[.int .i64 id, .slice A n c] 45)) 26 #[.int .i64 k, .int .i64 0, .int .u32 0, .int .u32 0, .bool false, .int .u32 0, .int .u32 0])).alloc (.cells #[.int .i64 k, .int .i64 0, .int .u32 0, .int .u32 0, .bool false, .int .u32 0, .int .u32 0] 26)
  have hz : ∀ (w : World) (o : Obj), (w.alloc o).heap.size = w.heap.size + 1 := fun w o => by simp
  rw [hz] at kr kz
  rw [hz, hz] at km
  have hbw := bt (ba2 w (.cells #[.int .i64 id, .slice A n c] 45) (.cells #[.int .i64 0, .int .i64 0, .int .u32 0, .int .u32 0, .bool false, .int .u32 0, .int .u32 0] 26)) (ba _ (.cells #[.int .i64 k, .int .i64 0, .int .u32 0, .int .u32 0, .bool false, .int .u32 0, .int .u32 0] 26))
  have hbz := bt (ba2 w (.cells #[.int .i64 id, .slice A n c] 45) (.cells #[.int .i64 k, .int .i64 0, .int .u32 0, .int .u32 0, .bool false, .int .u32 0, .int .u32 0] 26)) (ba _ (.cells #[.int .i64 k, .int .i64 0, .int .u32 0, .int .u32 0, .bool false, .int .u32 0, .int .u32 0] 26))
  clear hz
  clear hid
  go_enter Try.func30, Try.ntmps30
  have b0 := (kv).cell 0
  have b1 := (kv).cell 1
  simp only [List.getElem?_toArray, List.getElem?_cons_zero, List.getElem?_cons_succ] at b0 b1
  have c0 := (km).cell 0
  have c1 := (km).cell 1
  have c2 := (km).cell 2
  have c3 := (km).cell 3
  have c4 := (km).cell 4
  have c5 := (km).cell 5
  have c6 := (km).cell 6
  simp only [List.getElem?_toArray, List.getElem?_cons_zero, List.getElem?_cons_succ] at c0 c1 c2 c3 c4 c5 c6
  have d0 := (kr).cell 0
  have d1 := (kr).cell 1
  have d2 := (kr).cell 2
  have d3 := (kr).cell 3
  have d4 := (kr).cell 4
  have d5 := (kr).cell 5
  have d6 := (kr).cell 6
  simp only [List.getElem?_toArray, List.getElem?_cons_zero, List.getElem?_cons_succ] at d0 d1 d2 d3 d4 d5 d6
  have z0 := (kz).cell 0
  have z1 := (kz).cell 1
  have z2 := (kz).cell 2
  have z3 := (kz).cell 3
  have z4 := (kz).cell 4
  have z5 := (kz).cell 5
  have z6 := (kz).cell 6
  simp only [List.getElem?_toArray, List.getElem?_cons_zero, List.getElem?_cons_succ] at z0 z1 z2 z3 z4 z5 z6
  have f0 := (kr).frozen 0
  have f1 := (kr).frozen 1
  have f2 := (kr).frozen 2
  have f3 := (kr).frozen 3
  have f4 := (kr).frozen 4
  have f5 := (kr).frozen 5
  have f6 := (kr).frozen 6
  clear kv km kr kz
  go_wp2
  refine bodyPost_ret (by simp [results, Try.results30, go_sem, z0, z1, z2, z3, z4, z5, z6]; try rfl) rfl ?_
  exact ⟨rfl, hbz⟩

set_option maxHeartbeats 1000000 in
theorem guess_l (id k : Int) (A : Option Addr) (n c : Nat) (w : World) (h0 : 0 ≤ id) (h1 : id ≤ 65535) (hid : k = id - 4864) (hk : k < 12) (hn : n ≠ 10) : Calls Try.prog 30 #[.agg #[.int .i64 id, .slice A n c]] w fun e w' => e = .returned (.agg #[.int .i64 k, .int .i64 0, .int .u32 0, .int .u32 0, .bool false, .int .u32 0, .int .u32 0]) ∧ Below w.heap.size w w' := by
  have hnI : ((n : Int) == 10) = false := beq_eq_false_iff_ne.2 (by omega)
  have hk2 : (k == 12) = false := beq_eq_false_iff_ne.2 (by omega)
  have hk3 : ¬ k = 12 := by omega
  have ew : IntKind.i64.wrap (id - 4864) = k := by rw [hid]; exact IntWalk.i64_in _ (by omega)
  have kv := ((Blk.new w 45 #[.int .i64 id, .slice A n c]).alloc (.cells #[.int .i64 0, .int .i64 0, .int .u32 0, .int .u32 0, .bool false, .int .u32 0, .int .u32 0] 26)).alloc (.cells #[.int .i64 k, .int .i64 0, .int .u32 0, .int .u32 0, .bool false, .int .u32 0, .int .u32 0] 26)
  have kr := ((Blk.new (w.alloc (.cells #[.int .i64 id, .slice A n c] 45)) 26 #[.int .i64 0, .int .i64 0, .int .u32 0, .int .u32 0, .bool false, .int .u32 0, .int .u32 0])).alloc (.cells #[.int .i64 k, .int .i64 0, .int .u32 0, .int .u32 0, .bool false, .int .u32 0, .int .u32 0] 26)
  have km := Blk.new ((w.alloc (.cells #[.int .i64 id, .slice A n c] 45)).alloc (.cells #[.int .i64 0, .int .i64 0, .int .u32 0, .int .u32 0, .bool false, .int .u32 0, .int .u32 0] 26)) 26 #[.int .i64 k, .int .i64 0, .int .u32 0, .int .u32 0, .bool false, .int .u32 0, .int .u32 0]
  have kz := ((Blk.new (w.alloc (.cells #[.int .i64 id, .slice A n c] 45)) 26 #[.int .i64 k, .int .i64 0, .int .u32 0, .int .u32 0, .bool false, .int .u32 0, .int .u32 0])).alloc (.cells #[.int .i64 k, .int .i64 0, .int .u32 0, .int .u32 0, .bool false, .int .u32 0, .int .u32 0] 26)
  have hz : ∀ (w : World) (o : Obj), (w.alloc o).heap.size = w.heap.size + 1 := fun w o => by simp
  rw [hz] at kr kz
  rw [hz, hz] at km
  have hbw := bt (ba2 w (.cells #[.int .i64 id, .slice A n c] 45) (.cells #[.int .i64 0, .int .i64 0, .int .u32 0, .int .u32 0, .bool false, .int .u32 0, .int .u32 0] 26)) (ba _ (.cells #[.int .i64 k, .int .i64 0, .int .u32 0, .int .u32 0, .bool false, .int .u32 0, .int .u32 0] 26))
  have hbz := bt (ba2 w (.cells #[.int .i64 id, .slice A n c] 45) (.cells #[.int .i64 k, .int .i64 0, .int .u32 0, .int .u32 0, .bool false, .int .u32 0, .int .u32 0] 26)) (ba _ (.cells #[.int .i64 k, .int .i64 0, .int .u32 0, .int .u32 0, .bool false, .int .u32 0, .int .u32 0] 26))
  clear hz
  clear hid
  go_enter Try.func30, Try.ntmps30
  have b0 := (kv).cell 0
  have b1 := (kv).cell 1
  simp only [List.getElem?_toArray, List.getElem?_cons_zero, List.getElem?_cons_succ] at b0 b1
  have c0 := (km).cell 0
  have c1 := (km).cell 1
  have c2 := (km).cell 2
  have c3 := (km).cell 3
  have c4 := (km).cell 4
  have c5 := (km).cell 5
  have c6 := (km).cell 6
  simp only [List.getElem?_toArray, List.getElem?_cons_zero, List.getElem?_cons_succ] at c0 c1 c2 c3 c4 c5 c6
  have d0 := (kr).cell 0
  have d1 := (kr).cell 1
  have d2 := (kr).cell 2
  have d3 := (kr).cell 3
  have d4 := (kr).cell 4
  have d5 := (kr).cell 5
  have d6 := (kr).cell 6
  simp only [List.getElem?_toArray, List.getElem?_cons_zero, List.getElem?_cons_succ] at d0 d1 d2 d3 d4 d5 d6
  have z0 := (kz).cell 0
  have z1 := (kz).cell 1
  have z2 := (kz).cell 2
  have z3 := (kz).cell 3
  have z4 := (kz).cell 4
  have z5 := (kz).cell 5
  have z6 := (kz).cell 6
  simp only [List.getElem?_toArray, List.getElem?_cons_zero, List.getElem?_cons_succ] at z0 z1 z2 z3 z4 z5 z6
  have f0 := (kr).frozen 0
  have f1 := (kr).frozen 1
  have f2 := (kr).frozen 2
  have f3 := (kr).frozen 3
  have f4 := (kr).frozen 4
  have f5 := (kr).frozen 5
  have f6 := (kr).frozen 6
  clear kv km kr kz
  go_wp2
  refine bodyPost_ret (by simp [results, Try.results30, go_sem, z0, z1, z2, z3, z4, z5, z6]; try rfl) rfl ?_
  exact ⟨rfl, hbz⟩

set_option maxHeartbeats 1000000 in
theorem guess_n (id k : Int) (A : Option Addr) (n c : Nat) (w : World) (h0 : 0 ≤ id) (h1 : id ≤ 65535) (hid : k = id - 4864) (hk : k = 12) (hn : n ≠ 8) : Calls Try.prog 30 #[.agg #[.int .i64 id, .slice A n c]] w fun e w' => e = .returned (.agg #[.int .i64 k, .int .i64 0, .int .u32 0, .int .u32 0, .bool false, .int .u32 0, .int .u32 0]) ∧ Below w.heap.size w w' := by
  have hnI : ((n : Int) == 8) = false := beq_eq_false_iff_ne.2 (by omega)
  have hk1 : ¬ k < 12 := by omega
  have hk2 : (k == 12) = true := beq_iff_eq.2 hk
  have HK := Lib.hid hk
  clear hk
  have ew : IntKind.i64.wrap (id - 4864) = k := by rw [hid]; exact IntWalk.i64_in _ (by omega)
  have kv := ((Blk.new w 45 #[.int .i64 id, .slice A n c]).alloc (.cells #[.int .i64 0, .int .i64 0, .int .u32 0, .int .u32 0, .bool false, .int .u32 0, .int .u32 0] 26)).alloc (.cells #[.int .i64 k, .int .i64 0, .int .u32 0, .int .u32 0, .bool false, .int .u32 0, .int .u32 0] 26)
  have kr := ((Blk.new (w.alloc (.cells #[.int .i64 id, .slice A n c] 45)) 26 #[.int .i64 0, .int .i64 0, .int .u32 0, .int .u32 0, .bool false, .int .u32 0, .int .u32 0])).alloc (.cells #[.int .i64 k, .int .i64 0, .int .u32 0, .int .u32 0, .bool false, .int .u32 0, .int .u32 0] 26)
  have km := Blk.new ((w.alloc (.cells #[.int .i64 id, .slice A n c] 45)).alloc (.cells #[.int .i64 0, .int .i64 0, .int .u32 0, .int .u32 0, .bool false, .int .u32 0, .int .u32 0] 26)) 26 #[.int .i64 k, .int .i64 0, .int .u32 0, .int .u32 0, .bool false, .int .u32 0, .int .u32 0]
  have kz := ((Blk.new (w.alloc (.cells #[.int .i64 id, .slice A n c] 45)) 26 #[.int .i64 k, .int .i64 0, .int .u32 0, .int .u32 0, .bool false, .int .u32 0, .int .u32 0])).alloc (.cells #[.int .i64 k, .int .i64 0, .int .u32 0, .int .u32 0, .bool false, .int .u32 0, .int .u32 0] 26)
  have hz : ∀ (w : World) (o : Obj), (w.alloc o).heap.size = w.heap.size + 1 := fun w o => by simp
  rw [hz] at kr kz
  rw [hz, hz] at km
  have hbw := bt (ba2 w (.cells #[.int .i64 id, .slice A n c] 45) (.cells #[.int .i64 0, .int .i64 0, .int .u32 0, .int .u32 0, .bool false, .int .u32 0, .int .u32 0] 26)) (ba _ (.cells #[.int .i64 k, .int .i64 0, .int .u32 0, .int .u32 0, .bool false, .int .u32 0, .int .u32 0] 26))
  have hbz := bt (ba2 w (.cells #[.int .i64 id, .slice A n c] 45) (.cells #[.int .i64 k, .int .i64 0, .int .u32 0, .int .u32 0, .bool false, .int .u32 0, .int .u32 0] 26)) (ba _ (.cells #[.int .i64 k, .int .i64 0, .int .u32 0, .int .u32 0, .bool false, .int .u32 0, .int .u32 0] 26))
  clear hz
  clear hid
  go_enter Try.func30, Try.ntmps30
  have b0 := (kv).cell 0
  have b1 := (kv).cell 1
  simp only [List.getElem?_toArray, List.getElem?_cons_zero, List.getElem?_cons_succ] at b0 b1
  have c0 := (km).cell 0
  have c1 := (km).cell 1
  have c2 := (km).cell 2
  have c3 := (km).cell 3
  have c4 := (km).cell 4
  have c5 := (km).cell 5
  have c6 := (km).cell 6
  simp only [List.getElem?_toArray, List.getElem?_cons_zero, List.getElem?_cons_succ] at c0 c1 c2 c3 c4 c5 c6
  have d0 := (kr).cell 0
  have d1 := (kr).cell 1
  have d2 := (kr).cell 2
  have d3 := (kr).cell 3
  have d4 := (kr).cell 4
  have d5 := (kr).cell 5
  have d6 := (kr).cell 6
  simp only [List.getElem?_toArray, List.getElem?_cons_zero, List.getElem?_cons_succ] at d0 d1 d2 d3 d4 d5 d6
  have z0 := (kz).cell 0
  have z1 := (kz).cell 1
  have z2 := (kz).cell 2
  have z3 := (kz).cell 3
  have z4 := (kz).cell 4
  have z5 := (kz).cell 5
  have z6 := (kz).cell 6
  simp only [List.getElem?_toArray, List.getElem?_cons_zero, List.getElem?_cons_succ] at z0 z1 z2 z3 z4 z5 z6
  have f0 := (kr).frozen 0
  have f1 := (kr).frozen 1
  have f2 := (kr).frozen 2
  have f3 := (kr).frozen 3
  have f4 := (kr).frozen 4
  have f5 := (kr).frozen 5
  have f6 := (kr).frozen 6
  clear kv km kr kz
  go_wp2
  refine bodyPost_ret (by simp [results, Try.results30, go_sem, z0, z1, z2, z3, z4, z5, z6]; try rfl) rfl ?_
  exact ⟨rfl, hbz⟩

set_option maxHeartbeats 1000000 in
theorem guess_luw (id k : Int) (A : Option Addr) (D : List UInt8) (c : Nat) (w : World) (h0 : 0 ≤ id) (h1 : id ≤ 65535) (hid : k = id - 4864) (hk : k < 12) (h10 : D.length = 10) (hc : 10 ≤ c) (hcm : c ≤ 9223372036854775807) (hbs : Bs w w.heap.size A D) (r : (Int × Nat × Nat) × Int) (hr : Hid (r = rdL (D.take 9))) (y : Bool) (hy : Hid (y = (((D.getD 9 0).toNat : Int) == 1))) : Calls Try.prog 30 #[.agg #[.int .i64 id, .slice A 10 c]] w fun e w' => e = .returned (.agg #[.int .i64 k, .int .i64 r.1.1, .int .u32 (r.1.2.1 : Nat), .int .u32 (r.1.2.2 : Nat), .bool y, .int .u32 0, .int .u32 0]) ∧ Below w.heap.size w w' := by
  obtain ⟨b, o, rfl, hB, hcl⟩ := hbs (by omega)
  have hs1 := hbs.part 0 9 (by omega)
  rw [List.drop_zero, Nat.add_zero] at hs1
  have p1 := fun (w' : World) (hb : Below w.heap.size w w') => refread_any (some ⟨b, o, none⟩) (D.take 9) c w' (by rw [List.length_take]; omega) hcm ((hs1.below hb).more hb.size)
  rw [show (D.take 9).length = 9 by rw [List.length_take]; omega, ← hr.out] at p1
  have hx9 := hcl 9 (by omega)
  rw [show D[9] = D.getD 9 0 by rw [List.getD_eq_getElem?_getD, List.getElem?_eq_getElem (by omega)]; rfl] at hx9
  have hxl := (D.getD 9 0).toNat_lt
  obtain ⟨x, hx⟩ : ∃ x, x = (D.getD 9 0).toNat := ⟨_, rfl⟩
  have ey : ((x : Int) == 1) = y := by rw [hx]; exact hy.out.symm
  rw [← hx] at hx9
  obtain ⟨⟨uu, a, q⟩, er⟩ := r
  unfold lvE lv at p1
  simp only at p1 ⊢
  have P1 := Lib.hid p1
  clear p1 hs1 hbs hcl h10 hx hy hr hxl
  have i2 : (9 : Int) ≤ (c : Int) := by omega
  have i3 : (10 : Int) ≤ (c : Int) := by omega
  have hk2 : (k == 12) = false := beq_eq_false_iff_ne.2 (by omega)
  have hk3 : ¬ k = 12 := by omega
  have ew : IntKind.i64.wrap (id - 4864) = k := by rw [hid]; exact IntWalk.i64_in _ (by omega)
  have kv := ((Blk.new w 45 #[.int .i64 id, .slice (some ⟨b, o, none⟩) 10 c]).alloc (.cells #[.int .i64 0, .int .i64 0, .int .u32 0, .int .u32 0, .bool false, .int .u32 0, .int .u32 0] 26)).alloc (.cells #[.int .i64 k, .int .i64 0, .int .u32 0, .int .u32 0, .bool false, .int .u32 0, .int .u32 0] 26)
  have kr := ((Blk.new (w.alloc (.cells #[.int .i64 id, .slice (some ⟨b, o, none⟩) 10 c] 45)) 26 #[.int .i64 0, .int .i64 0, .int .u32 0, .int .u32 0, .bool false, .int .u32 0, .int .u32 0])).alloc (.cells #[.int .i64 k, .int .i64 0, .int .u32 0, .int .u32 0, .bool false, .int .u32 0, .int .u32 0] 26)
  have km := Blk.new ((w.alloc (.cells #[.int .i64 id, .slice (some ⟨b, o, none⟩) 10 c] 45)).alloc (.cells #[.int .i64 0, .int .i64 0, .int .u32 0, .int .u32 0, .bool false, .int .u32 0, .int .u32 0] 26)) 26 #[.int .i64 k, .int .i64 0, .int .u32 0, .int .u32 0, .bool false, .int .u32 0, .int .u32 0]
  have kz := ((Blk.new (w.alloc (.cells #[.int .i64 id, .slice (some ⟨b, o, none⟩) 10 c] 45)) 26 #[.int .i64 k, .int .i64 0, .int .u32 0, .int .u32 0, .bool false, .int .u32 0, .int .u32 0])).alloc (.cells #[.int .i64 k, .int .i64 0, .int .u32 0, .int .u32 0, .bool false, .int .u32 0, .int .u32 0] 26)
  have hz : ∀ (w : World) (o : Obj), (w.alloc o).heap.size = w.heap.size + 1 := fun w o => by simp
  rw [hz] at kr kz
  rw [hz, hz] at km
  have hbw := bt (ba2 w (.cells #[.int .i64 id, .slice (some ⟨b, o, none⟩) 10 c] 45) (.cells #[.int .i64 0, .int .i64 0, .int .u32 0, .int .u32 0, .bool false, .int .u32 0, .int .u32 0] 26)) (ba _ (.cells #[.int .i64 k, .int .i64 0, .int .u32 0, .int .u32 0, .bool false, .int .u32 0, .int .u32 0] 26))
  have hbz := bt (ba2 w (.cells #[.int .i64 id, .slice (some ⟨b, o, none⟩) 10 c] 45) (.cells #[.int .i64 k, .int .i64 0, .int .u32 0, .int .u32 0, .bool false, .int .u32 0, .int .u32 0] 26)) (ba _ (.cells #[.int .i64 k, .int .i64 0, .int .u32 0, .int .u32 0, .bool false, .int .u32 0, .int .u32 0] 26))
  clear hz
  clear hid
  go_enter Try.func30, Try.ntmps30
  have b0 := (kv).cell 0
  have b1 := (kv).cell 1
  simp only [List.getElem?_toArray, List.getElem?_cons_zero, List.getElem?_cons_succ] at b0 b1
  have m0 := (km).cell 0
  have m1 := (km).cell 1
  have m2 := (km).cell 2
  have m3 := (km).cell 3
  have m4 := (km).cell 4
  have m5 := (km).cell 5
  have m6 := (km).cell 6
  simp only [List.getElem?_toArray, List.getElem?_cons_zero, List.getElem?_cons_succ] at m0 m1 m2 m3 m4 m5 m6
  clear kz hbz
  go_wp2_with fail
  refine (P1.out _ hbw).mono ?_
  rintro e w3 ⟨rfl, hb3⟩
  clear b0 b1 m0 m1 m2 m3 m4 m5 m6
  have kv3 := kv.below hb3 kv.lt
  have km3 := km.below hb3 km.lt
  have kr3 := kr.below hb3 kr.lt
  have hb30 := bt hbw hb3
  clear kv km kr hb3 hbw P1
  have m0 := (km3).cell 0
  have m1 := (km3).cell 1
  have m2 := (km3).cell 2
  have m3 := (km3).cell 3
  have m4 := (km3).cell 4
  have m5 := (km3).cell 5
  have m6 := (km3).cell 6
  simp only [List.getElem?_toArray, List.getElem?_cons_zero, List.getElem?_cons_succ] at m0 m1 m2 m3 m4 m5 m6
  have fm0 := (km3).frozen 0
  have fm1 := (km3).frozen 1
  have fm2 := (km3).frozen 2
  have fm3 := (km3).frozen 3
  have fm4 := (km3).frozen 4
  have fm5 := (km3).frozen 5
  have fm6 := (km3).frozen 6
  have e1 := km3.set_ 1 (.int .i64 uu)
  have e2 := e1.set_ 2 (.int .u32 (a : Nat))
  have e3 := e2.set_ 3 (.int .u32 (q : Nat))
  have hb31 := hb30.setCell (p := ⟨w.heap.size + 1 + 1, 1, none⟩) (by show w.heap.size ≤ w.heap.size + 1 + 1; omega) (.int .i64 uu)
  have hb32 := hb31.setCell (p := ⟨w.heap.size + 1 + 1, 2, none⟩) (by show w.heap.size ≤ w.heap.size + 1 + 1; omega) (.int .u32 (a : Nat))
  have hb33 := hb32.setCell (p := ⟨w.heap.size + 1 + 1, 3, none⟩) (by show w.heap.size ≤ w.heap.size + 1 + 1; omega) (.int .u32 (q : Nat))
  have kv31 := kv3.far (p := ⟨w.heap.size + 1 + 1, 1, none⟩) (by show w.heap.size ≠ w.heap.size + 1 + 1; omega) (.int .i64 uu)
  have kv32 := kv31.far (p := ⟨w.heap.size + 1 + 1, 2, none⟩) (by show w.heap.size ≠ w.heap.size + 1 + 1; omega) (.int .u32 (a : Nat))
  have kv33 := kv32.far (p := ⟨w.heap.size + 1 + 1, 3, none⟩) (by show w.heap.size ≠ w.heap.size + 1 + 1; omega) (.int .u32 (q : Nat))
  have kr31 := kr3.far (p := ⟨w.heap.size + 1 + 1, 1, none⟩) (by show w.heap.size + 1 ≠ w.heap.size + 1 + 1; omega) (.int .i64 uu)
  have kr32 := kr31.far (p := ⟨w.heap.size + 1 + 1, 2, none⟩) (by show w.heap.size + 1 ≠ w.heap.size + 1 + 1; omega) (.int .u32 (a : Nat))
  have kr33 := kr32.far (p := ⟨w.heap.size + 1 + 1, 3, none⟩) (by show w.heap.size + 1 ≠ w.heap.size + 1 + 1; omega) (.int .u32 (q : Nat))
  have hx93 : (((w3.setCell ⟨w.heap.size + 1 + 1, 1, none⟩ (.int .i64 uu)).setCell ⟨w.heap.size + 1 + 1, 2, none⟩ (.int .u32 (a : Nat))).setCell ⟨w.heap.size + 1 + 1, 3, none⟩ (.int .u32 (q : Nat))).cell? ⟨b, o + 9, none⟩ = some (.int .u8 (x : Int)) := by rw [hb33.cell (p := ⟨b, o + 9, none⟩) hB]; exact hx9
  clear hx9
  have b0 := (kv33).cell 0
  have b1 := (kv33).cell 1
  simp only [List.getElem?_toArray, List.getElem?_cons_zero, List.getElem?_cons_succ] at b0 b1
  have n4 := e3.cell 4
  have fn4 := e3.frozen 4
  simp at n4
  have e4 := e3.set_ 4 (.bool y)
  have hb34 := hb33.setCell (p := ⟨w.heap.size + 1 + 1, 4, none⟩) (by show w.heap.size ≤ w.heap.size + 1 + 1; omega) (.bool y)
  have kv34 := kv33.far (p := ⟨w.heap.size + 1 + 1, 4, none⟩) (by show w.heap.size ≠ w.heap.size + 1 + 1; omega) (.bool y)
  have kr34 := kr33.far (p := ⟨w.heap.size + 1 + 1, 4, none⟩) (by show w.heap.size + 1 ≠ w.heap.size + 1 + 1; omega) (.bool y)
  have bb0 := (kv34).cell 0
  have bb1 := (kv34).cell 1
  simp only [List.getElem?_toArray, List.getElem?_cons_zero, List.getElem?_cons_succ] at bb0 bb1
  have c0 := (e4).cell 0
  have c1 := (e4).cell 1
  have c2 := (e4).cell 2
  have c3 := (e4).cell 3
  have c4 := (e4).cell 4
  have c5 := (e4).cell 5
  have c6 := (e4).cell 6
  simp at c0
  simp at c1
  simp at c2
  simp at c3
  simp at c4
  simp at c5
  simp at c6
  have d0 := (kr34).cell 0
  have d1 := (kr34).cell 1
  have d2 := (kr34).cell 2
  have d3 := (kr34).cell 3
  have d4 := (kr34).cell 4
  have d5 := (kr34).cell 5
  have d6 := (kr34).cell 6
  simp only [List.getElem?_toArray, List.getElem?_cons_zero, List.getElem?_cons_succ] at d0 d1 d2 d3 d4 d5 d6
  have f0 := (kr34).frozen 0
  have f1 := (kr34).frozen 1
  have f2 := (kr34).frozen 2
  have f3 := (kr34).frozen 3
  have f4 := (kr34).frozen 4
  have f5 := (kr34).frozen 5
  have f6 := (kr34).frozen 6
  have st0 := kr34.set_ 0 (.int .i64 k)
  have ee0 := st0.cell 0
  have hs0 := hb34.setCell (p := ⟨w.heap.size + 1, 0, none⟩) (by first | (show _ ≤ _; omega) | simp) (.int .i64 k)
  have st1 := st0.set_ 1 (.int .i64 uu)
  have ee1 := st1.cell 1
  have hs1 := hs0.setCell (p := ⟨w.heap.size + 1, 1, none⟩) (by first | (show _ ≤ _; omega) | simp) (.int .i64 uu)
  have st2 := st1.set_ 2 (.int .u32 (a : Nat))
  have ee2 := st2.cell 2
  have hs2 := hs1.setCell (p := ⟨w.heap.size + 1, 2, none⟩) (by first | (show _ ≤ _; omega) | simp) (.int .u32 (a : Nat))
  have st3 := st2.set_ 3 (.int .u32 (q : Nat))
  have ee3 := st3.cell 3
  have hs3 := hs2.setCell (p := ⟨w.heap.size + 1, 3, none⟩) (by first | (show _ ≤ _; omega) | simp) (.int .u32 (q : Nat))
  have st4 := st3.set_ 4 (.bool y)
  have ee4 := st4.cell 4
  have hs4 := hs3.setCell (p := ⟨w.heap.size + 1, 4, none⟩) (by first | (show _ ≤ _; omega) | simp) (.bool y)
  have st5 := st4.set_ 5 (.int .u32 0)
  have ee5 := st5.cell 5
  have hs5 := hs4.setCell (p := ⟨w.heap.size + 1, 5, none⟩) (by first | (show _ ≤ _; omega) | simp) (.int .u32 0)
  have st6 := st5.set_ 6 (.int .u32 0)
  have ee6 := st6.cell 6
  have hs6 := hs5.setCell (p := ⟨w.heap.size + 1, 6, none⟩) (by first | (show _ ≤ _; omega) | simp) (.int .u32 0)
  simp at ee0 ee1 ee2 ee3 ee4 ee5 ee6
  clear st0 st1 st2 st3 st4 st5 st6
  clear e1 e2 e3 e4 km3 kv3 kr3 kv31 kv32 kv33 kv34 kr31 kr32 kr33 kr34 hb30 hb31 hb32 hb33 hb34
  go_wp2
  refine bodyPost_ret (by simp [results, Try.results30, go_sem, ee0, ee1, ee2, ee3, ee4, ee5, ee6]; try rfl) rfl ?_
  exact ⟨rfl, hs6⟩

set_option maxHeartbeats 1000000 in
theorem guess_names (id k : Int) (A : Option Addr) (D : List UInt8) (c : Nat) (w : World) (h0 : 0 ≤ id) (h1 : id ≤ 65535) (hid : k = id - 4864) (hk : k = 12) (h8 : D.length = 8) (hc : 8 ≤ c) (hbs : Bs w w.heap.size A D) : Calls Try.prog 30 #[.agg #[.int .i64 id, .slice A 8 c]] w fun e w' => e = .returned (.agg #[.int .i64 k, .int .i64 0, .int .u32 0, .int .u32 0, .bool false, .int .u32 (num (D.take 4) : Nat), .int .u32 (num (D.drop 4) : Nat)]) ∧ Below w.heap.size w w' := by
  obtain ⟨b, o, rfl, hB, hcl⟩ := hbs (by omega)
  have hs1 := hbs.part 0 4 (by omega)
  have hs2 := hbs.part 4 4 (by omega)
  rw [List.take_of_length_le (by rw [List.length_drop]; omega)] at hs2
  rw [List.drop_zero, Nat.add_zero] at hs1
  have g1 : (D.take 4).length = 4 := by rw [List.length_take]; omega
  have g2 : (D.drop 4).length = 4 := by rw [List.length_drop]; omega
  have p1 := fun (w' : World) (hb : Below w.heap.size w w') cc => refget_any (some ⟨b, o, none⟩) (D.take 4) cc w' (by omega) ((hs1.below hb).more hb.size)
  have p2 := fun (w' : World) (hb : Below w.heap.size w w') cc => refget_any (some ⟨b, o + 4, none⟩) (D.drop 4) cc w' (by omega) ((hs2.below hb).more hb.size)
  rw [show getR (D.take 4) = (num (D.take 4), 0) from if_pos ⟨by omega, by omega⟩, g1] at p1
  rw [show getR (D.drop 4) = (num (D.drop 4), 0) from if_pos ⟨by omega, by omega⟩, g2] at p2
  have n1 := num_lt4 _ g1
  have n2 := num_lt4 _ g2
  generalize num (D.take 4) = y1 at *
  generalize num (D.drop 4) = y2 at *
  have ex1 : IntKind.u32.wrap (y1 : Int) = (y1 : Int) := IntWalk.u32_in _ (by omega)
  have ex2 : IntKind.u32.wrap (y2 : Int) = (y2 : Int) := IntWalk.u32_in _ (by omega)
  have P1 := Lib.hid p1
  have P2 := Lib.hid p2
  clear p1 p2 hs1 hs2 hbs hcl hB h8 g1 g2 n1 n2
  have i1 : ¬ (c = 4) := by omega
  have i2 : (4 : Int) ≤ (c : Int) := by omega
  have i3 : (8 : Int) ≤ (c : Int) := by omega
  have i4 : ¬ (c = 0) := by omega
  have hk1 : ¬ k < 12 := by omega
  have hk2 : (k == 12) = true := beq_iff_eq.2 hk
  clear hk
  have ew : IntKind.i64.wrap (id - 4864) = k := by rw [hid]; exact IntWalk.i64_in _ (by omega)
  have kv := ((Blk.new w 45 #[.int .i64 id, .slice (some ⟨b, o, none⟩) 8 c]).alloc (.cells #[.int .i64 0, .int .i64 0, .int .u32 0, .int .u32 0, .bool false, .int .u32 0, .int .u32 0] 26)).alloc (.cells #[.int .i64 k, .int .i64 0, .int .u32 0, .int .u32 0, .bool false, .int .u32 0, .int .u32 0] 26)
  have kr := ((Blk.new (w.alloc (.cells #[.int .i64 id, .slice (some ⟨b, o, none⟩) 8 c] 45)) 26 #[.int .i64 0, .int .i64 0, .int .u32 0, .int .u32 0, .bool false, .int .u32 0, .int .u32 0])).alloc (.cells #[.int .i64 k, .int .i64 0, .int .u32 0, .int .u32 0, .bool false, .int .u32 0, .int .u32 0] 26)
  have km := Blk.new ((w.alloc (.cells #[.int .i64 id, .slice (some ⟨b, o, none⟩) 8 c] 45)).alloc (.cells #[.int .i64 0, .int .i64 0, .int .u32 0, .int .u32 0, .bool false, .int .u32 0, .int .u32 0] 26)) 26 #[.int .i64 k, .int .i64 0, .int .u32 0, .int .u32 0, .bool false, .int .u32 0, .int .u32 0]
  have kz := ((Blk.new (w.alloc (.cells #[.int .i64 id, .slice (some ⟨b, o, none⟩) 8 c] 45)) 26 #[.int .i64 k, .int .i64 0, .int .u32 0, .int .u32 0, .bool false, .int .u32 0, .int .u32 0])).alloc (.cells #[.int .i64 k, .int .i64 0, .int .u32 0, .int .u32 0, .bool false, .int .u32 0, .int .u32 0] 26)
  have hz : ∀ (w : World) (o : Obj), (w.alloc o).heap.size = w.heap.size + 1 := fun w o => by simp
  rw [hz] at kr kz
  rw [hz, hz] at km
  have hbw := bt (ba2 w (.cells #[.int .i64 id, .slice (some ⟨b, o, none⟩) 8 c] 45) (.cells #[.int .i64 0, .int .i64 0, .int .u32 0, .int .u32 0, .bool false, .int .u32 0, .int .u32 0] 26)) (ba _ (.cells #[.int .i64 k, .int .i64 0, .int .u32 0, .int .u32 0, .bool false, .int .u32 0, .int .u32 0] 26))
  have hbz := bt (ba2 w (.cells #[.int .i64 id, .slice (some ⟨b, o, none⟩) 8 c] 45) (.cells #[.int .i64 k, .int .i64 0, .int .u32 0, .int .u32 0, .bool false, .int .u32 0, .int .u32 0] 26)) (ba _ (.cells #[.int .i64 k, .int .i64 0, .int .u32 0, .int .u32 0, .bool false, .int .u32 0, .int .u32 0] 26))
  clear hz
  clear hid
  go_enter Try.func30, Try.ntmps30
  have b0 := (kv).cell 0
  have b1 := (kv).cell 1
  simp only [List.getElem?_toArray, List.getElem?_cons_zero, List.getElem?_cons_succ] at b0 b1
  have m0 := (km).cell 0
  have m1 := (km).cell 1
  have m2 := (km).cell 2
  have m3 := (km).cell 3
  have m4 := (km).cell 4
  have m5 := (km).cell 5
  have m6 := (km).cell 6
  simp only [List.getElem?_toArray, List.getElem?_cons_zero, List.getElem?_cons_succ] at m0 m1 m2 m3 m4 m5 m6
  clear kz hbz
  go_wp2_with fail
  refine (P1.out _ hbw _).mono ?_
  rintro e w2 ⟨rfl, rfl⟩
  clear b0 b1 m0 m1 m2 m3 m4 m5 m6
  generalize (((w.alloc (.cells #[.int .i64 id, .slice (some ⟨b, o, none⟩) 8 c] 45)).alloc (.cells #[.int .i64 0, .int .i64 0, .int .u32 0, .int .u32 0, .bool false, .int .u32 0, .int .u32 0] 26)).alloc (.cells #[.int .i64 k, .int .i64 0, .int .u32 0, .int .u32 0, .bool false, .int .u32 0, .int .u32 0] 26)) = W0 at *
  have b0 := (kv).cell 0
  have b1 := (kv).cell 1
  simp only [List.getElem?_toArray, List.getElem?_cons_zero, List.getElem?_cons_succ] at b0 b1
  go_wp2_with fail
  refine (P2.out _ hbw _).mono ?_
  rintro e w2 ⟨rfl, rfl⟩
  have e1 := km.set_ 5 (.int .u32 (y1 : Nat))
  have fm5 := km.frozen 5
  have cm5 := km.cell 5
  simp at cm5
  have hbA := hbw.setCell (p := ⟨w.heap.size + 1 + 1, 5, none⟩) (by show w.heap.size ≤ w.heap.size + 1 + 1; omega) (.int .u32 (y1 : Nat))
  have krA := kr.far (p := ⟨w.heap.size + 1 + 1, 5, none⟩) (by show w.heap.size + 1 ≠ w.heap.size + 1 + 1; omega) (.int .u32 (y1 : Nat))
  have fn6 := e1.frozen 6
  have cn6 := e1.cell 6
  simp at cn6
  have e2 := e1.set_ 6 (.int .u32 (y2 : Nat))
  have hbB := hbA.setCell (p := ⟨w.heap.size + 1 + 1, 6, none⟩) (by show w.heap.size ≤ w.heap.size + 1 + 1; omega) (.int .u32 (y2 : Nat))
  have krB := krA.far (p := ⟨w.heap.size + 1 + 1, 6, none⟩) (by show w.heap.size + 1 ≠ w.heap.size + 1 + 1; omega) (.int .u32 (y2 : Nat))
  have c0 := (e2).cell 0
  have c1 := (e2).cell 1
  have c2 := (e2).cell 2
  have c3 := (e2).cell 3
  have c4 := (e2).cell 4
  have c5 := (e2).cell 5
  have c6 := (e2).cell 6
  simp at c0
  simp at c1
  simp at c2
  simp at c3
  simp at c4
  simp at c5
  simp at c6
  clear e1 e2 krA kr km kv hbA hbw
  have d0 := (krB).cell 0
  have d1 := (krB).cell 1
  have d2 := (krB).cell 2
  have d3 := (krB).cell 3
  have d4 := (krB).cell 4
  have d5 := (krB).cell 5
  have d6 := (krB).cell 6
  simp only [List.getElem?_toArray, List.getElem?_cons_zero, List.getElem?_cons_succ] at d0 d1 d2 d3 d4 d5 d6
  have f0 := (krB).frozen 0
  have f1 := (krB).frozen 1
  have f2 := (krB).frozen 2
  have f3 := (krB).frozen 3
  have f4 := (krB).frozen 4
  have f5 := (krB).frozen 5
  have f6 := (krB).frozen 6
  have st0 := krB.set_ 0 (.int .i64 k)
  have ee0 := st0.cell 0
  have hs0 := hbB.setCell (p := ⟨w.heap.size + 1, 0, none⟩) (by first | (show _ ≤ _; omega) | simp) (.int .i64 k)
  have st1 := st0.set_ 1 (.int .i64 0)
  have ee1 := st1.cell 1
  have hs1 := hs0.setCell (p := ⟨w.heap.size + 1, 1, none⟩) (by first | (show _ ≤ _; omega) | simp) (.int .i64 0)
  have st2 := st1.set_ 2 (.int .u32 0)
  have ee2 := st2.cell 2
  have hs2 := hs1.setCell (p := ⟨w.heap.size + 1, 2, none⟩) (by first | (show _ ≤ _; omega) | simp) (.int .u32 0)
  have st3 := st2.set_ 3 (.int .u32 0)
  have ee3 := st3.cell 3
  have hs3 := hs2.setCell (p := ⟨w.heap.size + 1, 3, none⟩) (by first | (show _ ≤ _; omega) | simp) (.int .u32 0)
  have st4 := st3.set_ 4 (.bool false)
  have ee4 := st4.cell 4
  have hs4 := hs3.setCell (p := ⟨w.heap.size + 1, 4, none⟩) (by first | (show _ ≤ _; omega) | simp) (.bool false)
  have st5 := st4.set_ 5 (.int .u32 (y1 : Nat))
  have ee5 := st5.cell 5
  have hs5 := hs4.setCell (p := ⟨w.heap.size + 1, 5, none⟩) (by first | (show _ ≤ _; omega) | simp) (.int .u32 (y1 : Nat))
  have st6 := st5.set_ 6 (.int .u32 (y2 : Nat))
  have ee6 := st6.cell 6
  have hs6 := hs5.setCell (p := ⟨w.heap.size + 1, 6, none⟩) (by first | (show _ ≤ _; omega) | simp) (.int .u32 (y2 : Nat))
  simp at ee0 ee1 ee2 ee3 ee4 ee5 ee6
  clear st0 st1 st2 st3 st4 st5 st6
  clear krB
  go_wp2
  refine bodyPost_ret (by simp [results, Try.results30, go_sem, ee0, ee1, ee2, ee3, ee4, ee5, ee6]; try rfl) rfl ?_
  exact ⟨rfl, hs6⟩

theorem guess_any (id : Nat) (A : Option Addr) (D : List UInt8) (c : Nat) (w : World) (h1 : id < 65536) (hc : D.length ≤ c) (hcm : c ≤ 9223372036854775807) (hbs : Bs w w.heap.size A D) : Calls Try.prog 30 #[.agg #[.int .i64 id, .slice A D.length c]] w fun e w' => e = .returned (guessM id D).val ∧ Below w.heap.size w w' := by
  unfold guessM
  by_cases hl : (id : Int) - 4864 < 12
  · by_cases h10 : D.length = 10
    · rw [if_pos ⟨hl, h10⟩]
      have := guess_luw id _ A D c w (by omega) (by omega) rfl hl h10 (by omega) hcm hbs _ (Lib.hid rfl) _ (Lib.hid rfl)
      rw [h10]
      exact this
    · rw [if_neg (by omega), if_neg (by omega)]
      exact guess_l id _ A _ c w (by omega) (by omega) rfl hl h10
  · by_cases h12 : (id : Int) - 4864 = 12
    · by_cases h8 : D.length = 8
      · rw [if_neg (by omega), if_pos ⟨h12, h8⟩, h8]
        exact guess_names id 12 A D c w (by omega) (by omega) h12.symm rfl h8 (by omega) hbs
      · rw [if_neg (by omega), if_neg (by omega)]
        exact guess_n id _ A _ c w (by omega) (by omega) rfl h12 h8
    · have hgt : (12 : Int) < (id : Int) - 4864 := by omega
      rw [if_neg (by omega), if_neg (by omega)]
      exact guess_13 id _ A _ c w (by omega) (by omega) rfl hgt
end Go.Proofs.Yteniponkakaaaaa
