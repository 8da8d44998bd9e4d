/- Messages that are unlike have unlike bytes. -/
import Derived.Test.YteniponkakaaaaaMf
import Derived.Test.YteniponkakaaaaaOpenM
namespace Go.Proofs.Yteniponkakaaaaa
open Go.RowKit
set_option linter.unusedVariables false
set_option linter.unusedSimpArgs false

theorem pnum_putL (v n : Nat) : num (putL v n) = v % 256 ^ n := by
  induction n generalizing v with
  | zero => simp [putL, num, Nat.mod_one]
  | succ n ih =>
    rw [putL, num_snoc, ih, Nat.pow_succ, Nat.mul_comm (256 ^ n) 256, Nat.mod_mul]
    simp
    omega
theorem putL_inj4 {a b : Nat} (ha : a < 4294967296) (hb : b < 4294967296) (h : putL a 4 = putL b 4) : a = b := by
  have e4 : (256 : Nat) ^ 4 = 4294967296 := by decide
  have := congrArg num h
  rw [pnum_putL, pnum_putL, e4, Nat.mod_eq_of_lt ha, Nat.mod_eq_of_lt hb] at this
  exact this
theorem putL_inj2 {a b : Nat} (ha : a < 65536) (hb : b < 65536) (h : putL a 2 = putL b 2) : a = b := by
  have e4 : (256 : Nat) ^ 2 = 65536 := by decide
  have := congrArg num h
  rw [pnum_putL, pnum_putL, e4, Nat.mod_eq_of_lt ha, Nat.mod_eq_of_lt hb] at this
  exact this
theorem okM_rest (m : MsgV) (h : okM m = true) : (m.k ≤ 11 → m.mi = 0 ∧ m.yo = 0) ∧ (11 < m.k → m.u = 0 ∧ m.a = 0 ∧ m.q = 0 ∧ m.mx = false) ∧ (m.k = 13 → m.mi = 0 ∧ m.yo = 0) := by
  unfold okM at h
  split at h
  · cases h
  · split at h
    · simp only [Bool.and_eq_true, beq_iff_eq] at h
      exact ⟨fun _ => h.2.2, fun h2 => by omega, fun h2 => by omega⟩
    · split at h
      · cases h
      · rename_i h1 h2 h3
        simp only [Bool.or_eq_true, bne_iff_ne, not_or, ne_eq, Classical.not_not, Bool.not_eq_true] at h3
        refine ⟨fun h4 => by omega, fun _ => h3, fun h4 => ?_⟩
        rw [if_neg (by omega)] at h
        simpa using h
theorem writeM_inj (m n : MsgV) (hm : MsgOk m) (hn : MsgOk n) (h1 : okM m = true) (h2 : okM n = true) (h : (writeM m).1 = (writeM n).1) : m = n := by
  unfold writeM at h
  rw [if_pos h1, if_pos h2] at h
  unfold segOf at h
  rw [List.append_assoc, List.append_assoc] at h
  obtain ⟨a1, a2, a3⟩ := okM_kind m h1
  obtain ⟨b1, b2, b3⟩ := okM_kind n h2
  obtain ⟨r1, r2, r3⟩ := okM_rest m h1
  obtain ⟨s1, s2, s3⟩ := okM_rest n h2
  have e1 := (List.append_inj h (by rw [putL_length, putL_length])).2
  obtain ⟨e2, e3⟩ := List.append_inj e1 (by rw [putL_length, putL_length])
  have e4 := putL_inj2 (by omega) (by omega) e2
  have hk : m.k = n.k := by omega
  obtain ⟨_, _, _, _, ha, hq, hmi, hyo⟩ := hm
  obtain ⟨_, _, _, _, ha', hq', hmi', hyo'⟩ := hn
  obtain ⟨k, u, a, q, mx, mi, yo⟩ := m
  obtain ⟨k', u', a', q', mx', mi', yo'⟩ := n
  simp only at *
  subst hk
  unfold dataM at e3
  simp only at e3
  by_cases h11 : k ≤ 11
  · rw [if_pos h11, if_pos h11] at e3
    have f1 := a3 h11
    have f2 := b3 h11
    obtain ⟨g1, g2, _⟩ := (okL_iff _ _).1 f1
    obtain ⟨g3, g4, _⟩ := (okL_iff _ _).1 f2
    obtain ⟨x1, x2⟩ := List.append_inj e3 (by simp [putL_length])
    injection x1 with y1 y2
    obtain ⟨y3, y4⟩ := List.append_inj y2 (by simp [putL_length])
    have z1 := putL_inj4 ha ha' y3
    have z2 := putL_inj4 hq hq' y4
    have z3 : u = u' := by
      have := congrArg UInt8.toNat y1
      simp at this
      omega
    have z4 : mx = mx' := by
      cases mx <;> cases mx' <;> simp at x2 <;> rfl
    obtain ⟨rfl, rfl⟩ := r1 h11
    obtain ⟨rfl, rfl⟩ := s1 h11
    subst z1 z2 z3 z4
    rfl
  · rw [if_neg h11, if_neg h11] at e3
    obtain ⟨rfl, rfl, rfl, rfl⟩ := r2 (by omega)
    obtain ⟨rfl, rfl, rfl, rfl⟩ := s2 (by omega)
    by_cases h12 : k = 12
    · rw [if_pos h12, if_pos h12] at e3
      obtain ⟨x1, x2⟩ := List.append_inj e3 (by simp [putL_length])
      have z1 := putL_inj4 hmi hmi' x1
      have z2 := putL_inj4 hyo hyo' x2
      subst z1 z2
      rfl
    · obtain ⟨rfl, rfl⟩ := r3 (by omega)
      obtain ⟨rfl, rfl⟩ := s3 (by omega)
      rfl
theorem writeM_cases (m : MsgV) : (∃ L, writeM m = (L, 0) ∧ okM m = true) ∨ (∃ L, writeM m = (L, 30)) := by
  unfold writeM
  rcases h : okM m with _ | _
  · exact .inr ⟨_, rfl⟩
  · exact .inl ⟨_, rfl, rfl⟩

def VAp (A1 A2 : Option Addr) (c1 c2 : Nat) (L1 L2 : List UInt8) (m1 m2 : Array Value) (b : Bool) (i : Nat) (v : Value) (w : World) : Prop :=
  match i with
  | 0 => v = .bool true
  | 1 => v = .bool true
  | 2 => v = .slice A1 L1.length c1
  | 3 => v = .string ⟨L1.toArray⟩
  | 4 => v = .slice A2 L2.length c2
  | 5 => v = .string ⟨L2.toArray⟩
  | 6 => v = .bool b
  | 7 => v = .agg m1
  | 8 => v = .agg m2
  | 9 => v = .bool b
  | 10 => v = .bool true
  | 11 => v = .bool true
  | 12 => v = .bool true
  | _ => True
theorem VAp.mono {A1 A2 : Option Addr} {c1 c2 : Nat} {L1 L2 : List UInt8} {m1 m2 : Array Value} {b : Bool} {i : Nat} {v : Value} {w w' : World} (hv : VAp A1 A2 c1 c2 L1 L2 m1 m2 b i v w) : VAp A1 A2 c1 c2 L1 L2 m1 m2 b i v w' := by
  unfold VAp at hv ⊢; split at hv <;> exact hv

set_option maxHeartbeats 1000000 in
theorem apart_err (k1 u1 : Int) (a1 q1 : Nat) (mx1 : Bool) (mi1 yo1 : Nat) (k2 u2 : Int) (a2 q2 : Nat) (mx2 : Bool) (mi2 yo2 : Nat) (w : World) (h1 : MsgOk ⟨k1, u1, a1, q1, mx1, mi1, yo1⟩) (h2 : MsgOk ⟨k2, u2, a2, q2, mx2, mi2, yo2⟩) (L1 L2 : List UInt8) (e1 e2 : Int) (hr1 : writeM ⟨k1, u1, a1, q1, mx1, mi1, yo1⟩ = (L1, e1)) (hr2 : writeM ⟨k2, u2, a2, q2, mx2, mi2, yo2⟩ = (L2, e2)) (he : (e1 = 30 ∧ (e2 = 0 ∨ e2 = 30)) ∨ (e1 = 0 ∧ e2 = 30)) : Calls Try.prog 7 #[.agg #[.int .i64 k1, .int .i64 u1, .int .u32 a1, .int .u32 q1, .bool mx1, .int .u32 mi1, .int .u32 yo1], .agg #[.int .i64 k2, .int .i64 u2, .int .u32 a2, .int .u32 q2, .bool mx2, .int .u32 mi2, .int .u32 yo2]] w fun e w' => e = .returned (.bool true) ∧ Below w.heap.size w w' := by
  have hw1 := fun w => writeM_any ⟨k1, u1, a1, q1, mx1, mi1, yo1⟩ w h1
  have hw2 := fun w => writeM_any ⟨k2, u2, a2, q2, mx2, mi2, yo2⟩ w h2
  unfold MsgV.val MsgV.cs at hw1 hw2
  unfold OutB at hw1 hw2
  simp only at hw1 hw2
  rw [hr1] at hw1
  rw [hr2] at hw2
  have kb1 := (Blk.new w 26 #[.int .i64 k1, .int .i64 u1, .int .u32 a1, .int .u32 q1, .bool mx1, .int .u32 mi1, .int .u32 yo1]).alloc (.cells #[.int .i64 k2, .int .i64 u2, .int .u32 a2, .int .u32 q2, .bool mx2, .int .u32 mi2, .int .u32 yo2] 26)
  have kb2 := (Blk.new (w.alloc (.cells #[.int .i64 k1, .int .i64 u1, .int .u32 a1, .int .u32 q1, .bool mx1, .int .u32 mi1, .int .u32 yo1] 26)) 26 #[.int .i64 k2, .int .i64 u2, .int .u32 a2, .int .u32 q2, .bool mx2, .int .u32 mi2, .int .u32 yo2])
  rw [show (w.alloc (.cells #[.int .i64 k1, .int .i64 u1, .int .u32 a1, .int .u32 q1, .bool mx1, .int .u32 mi1, .int .u32 yo1] 26)).heap.size = w.heap.size + 1 by simp] at kb2
  have hbw := ba2 w (.cells #[.int .i64 k1, .int .i64 u1, .int .u32 a1, .int .u32 q1, .bool mx1, .int .u32 mi1, .int .u32 yo1] 26) (.cells #[.int .i64 k2, .int .i64 u2, .int .u32 a2, .int .u32 q2, .bool mx2, .int .u32 mi2, .int .u32 yo2] 26)
  go_enter Try.func7, Try.ntmps7
  go_wp2_with fail
  refine (hw1 _).mono ?_
  rintro e w1 ⟨A1, c1, rfl, own1, hb1⟩
  have g1 := kb1.below hb1 kb1.lt
  have g2 := kb2.below hb1 kb2.lt
  have hbw := bt hbw hb1
  clear kb1 kb2 hb1
  have d0 := (g2).cell 0
  have d1 := (g2).cell 1
  have d2 := (g2).cell 2
  have d3 := (g2).cell 3
  have d4 := (g2).cell 4
  have d5 := (g2).cell 5
  have d6 := (g2).cell 6
  simp only [List.getElem?_toArray, List.getElem?_cons_zero, List.getElem?_cons_succ] at d0 d1 d2 d3 d4 d5 d6
  go_wp2_with fail
  refine (hw2 _).mono ?_
  rintro e w2 ⟨A2, c2, rfl, own2, hb2⟩
  have g3 := g1.below hb2 g1.lt
  have g4 := g2.below hb2 g2.lt
  have own1 := own1.below hb2 (Nat.le_refl _)
  have hbw := bt hbw hb2
  clear g1 g2 hb2 d0 d1 d2 d3 d4 d5 d6
  clear hr1 hr2 hw1 hw2 own1 own2
  rcases he with ⟨rfl, _⟩ | ⟨rfl, rfl⟩
  · skip
    go_wp2_with fail
    refine (alive_any _).mono ?_
    rintro e wz ⟨rfl, hbz⟩
    go_wp2
    go_ret
    exact ⟨rfl, bt hbw hbz⟩
  · skip
    go_wp2_with fail
    refine (alive_any _).mono ?_
    rintro e wz ⟨rfl, hbz⟩
    go_wp2
    go_ret
    exact ⟨rfl, bt hbw hbz⟩

set_option maxHeartbeats 1000000 in
theorem apart_same (k1 u1 : Int) (a1 q1 : Nat) (mx1 : Bool) (mi1 yo1 : Nat) (k2 u2 : Int) (a2 q2 : Nat) (mx2 : Bool) (mi2 yo2 : Nat) (w : World) (h1 : MsgOk ⟨k1, u1, a1, q1, mx1, mi1, yo1⟩) (h2 : MsgOk ⟨k2, u2, a2, q2, mx2, mi2, yo2⟩) (L1 L2 : List UInt8) (hr1 : writeM ⟨k1, u1, a1, q1, mx1, mi1, yo1⟩ = (L1, 0)) (hr2 : writeM ⟨k2, u2, a2, q2, mx2, mi2, yo2⟩ = (L2, 0)) (hmn : (k1 = k2 ∧ u1 = u2 ∧ a1 = a2 ∧ q1 = q2 ∧ mx1 = mx2 ∧ mi1 = mi2 ∧ yo1 = yo2)) : Calls Try.prog 7 #[.agg #[.int .i64 k1, .int .i64 u1, .int .u32 a1, .int .u32 q1, .bool mx1, .int .u32 mi1, .int .u32 yo1], .agg #[.int .i64 k2, .int .i64 u2, .int .u32 a2, .int .u32 q2, .bool mx2, .int .u32 mi2, .int .u32 yo2]] w fun e w' => e = .returned (.bool true) ∧ Below w.heap.size w w' := by
  obtain ⟨rfl, rfl, rfl, rfl, rfl, rfl, rfl⟩ := hmn
  obtain rfl : L1 = L2 := by rw [hr1] at hr2; injection hr2
  have hw1 := fun w => writeM_any ⟨k1, u1, a1, q1, mx1, mi1, yo1⟩ w h1
  have hw2 := fun w => writeM_any ⟨k1, u1, a1, q1, mx1, mi1, yo1⟩ w h2
  unfold MsgV.val MsgV.cs at hw1 hw2
  unfold OutB at hw1 hw2
  simp only at hw1 hw2
  rw [hr1] at hw1
  rw [hr2] at hw2
  have kb1 := (Blk.new w 26 #[.int .i64 k1, .int .i64 u1, .int .u32 a1, .int .u32 q1, .bool mx1, .int .u32 mi1, .int .u32 yo1]).alloc (.cells #[.int .i64 k1, .int .i64 u1, .int .u32 a1, .int .u32 q1, .bool mx1, .int .u32 mi1, .int .u32 yo1] 26)
  have kb2 := (Blk.new (w.alloc (.cells #[.int .i64 k1, .int .i64 u1, .int .u32 a1, .int .u32 q1, .bool mx1, .int .u32 mi1, .int .u32 yo1] 26)) 26 #[.int .i64 k1, .int .i64 u1, .int .u32 a1, .int .u32 q1, .bool mx1, .int .u32 mi1, .int .u32 yo1])
  rw [show (w.alloc (.cells #[.int .i64 k1, .int .i64 u1, .int .u32 a1, .int .u32 q1, .bool mx1, .int .u32 mi1, .int .u32 yo1] 26)).heap.size = w.heap.size + 1 by simp] at kb2
  have hbw := ba2 w (.cells #[.int .i64 k1, .int .i64 u1, .int .u32 a1, .int .u32 q1, .bool mx1, .int .u32 mi1, .int .u32 yo1] 26) (.cells #[.int .i64 k1, .int .i64 u1, .int .u32 a1, .int .u32 q1, .bool mx1, .int .u32 mi1, .int .u32 yo1] 26)
  go_enter Try.func7, Try.ntmps7
  go_wp2_with fail
  refine (hw1 _).mono ?_
  rintro e w1 ⟨A1, c1, rfl, own1, hb1⟩
  have g1 := kb1.below hb1 kb1.lt
  have g2 := kb2.below hb1 kb2.lt
  have hbw := bt hbw hb1
  clear kb1 kb2 hb1
  have d0 := (g2).cell 0
  have d1 := (g2).cell 1
  have d2 := (g2).cell 2
  have d3 := (g2).cell 3
  have d4 := (g2).cell 4
  have d5 := (g2).cell 5
  have d6 := (g2).cell 6
  simp only [List.getElem?_toArray, List.getElem?_cons_zero, List.getElem?_cons_succ] at d0 d1 d2 d3 d4 d5 d6
  go_wp2_with fail
  refine (hw2 _).mono ?_
  rintro e w2 ⟨A2, c2, rfl, own2, hb2⟩
  have g3 := g1.below hb2 g1.lt
  have g4 := g2.below hb2 g2.lt
  have own1 := own1.below hb2 (Nat.le_refl _)
  have hbw := bt hbw hb2
  clear g1 g2 hb2 d0 d1 d2 d3 d4 d5 d6
  clear hr1 hr2 hw1 hw2
  go_wp2_with fail
  refine wp_region_invT (F := ?FA) (V := VAp A1 A2 c1 c2 L1 L1 #[.int .i64 k1, .int .i64 u1, .int .u32 a1, .int .u32 q1, .bool mx1, .int .u32 mi1, .int .u32 yo1] #[.int .i64 k1, .int .i64 u1, .int .u32 a1, .int .u32 q1, .bool mx1, .int .u32 mi1, .int .u32 yo1] true) (dead := fun _ => none) (T := fun _ _ => True) (C := fun u' => Below w2.heap.size w2 u') (E := fun _ _ _ => True) (by kernel_rfl) (by kernel_rfl) (by kernel_rfl) (fun x => ?hFA) ?hmonoA ?hTmA ?hTA ?hCA ?stepA ?finA
  case hFA => simp only [mkA, Act.put, List.setIfInBounds_toArray, List.set_cons_succ, List.set_cons_zero, Nat.reduceAdd, Nat.zero_add]; first | with_reducible rfl | rfl
  case hmonoA => exact fun k i v u u' he hik hwt hdd hv => VAp.mono hv
  case hTmA => exact fun _ _ _ _ _ _ _ _ => trivial
  case hTA => exact fun j => trivial
  case hCA => exact below_drew _
  case stepA =>
    refine AllOps.cons (fun x u hC hT hp K hK => ?_) ?_
    · clear hp hT
      go_simp
      refine (alive_any _).mono ?_
      rintro e wA ⟨rfl, hbA⟩
      refine hK _ _ _ (bt hC hbA) trivial (by exact rfl) ?_
      first | (simp only [Act.put, List.setIfInBounds_toArray, List.set_cons_succ, List.set_cons_zero]; done) | simp [Act.put]
    refine AllOps.cons (fun x u hC hT hp K hK => ?_) ?_
    · simp [KnownTill, Region.binds, VAp] at hp
      clear hT
      go_simp
      refine hK _ _ _ hC trivial (by exact rfl) ?_
      first | (simp only [Act.put, List.setIfInBounds_toArray, List.set_cons_succ, List.set_cons_zero, hp]; done) | simp [Act.put, hp]
    refine AllOps.cons (fun x u hC hT hp K hK => ?_) ?_
    · simp [KnownTill, Region.binds, VAp] at hp
      clear hT
      go_simp
      refine hK _ _ _ hC trivial (by exact rfl) ?_
      first | (simp only [Act.put, List.setIfInBounds_toArray, List.set_cons_succ, List.set_cons_zero, hp]; done) | simp [Act.put, hp]
    refine AllOps.cons (fun x u hC hT hp K hK => ?_) ?_
    · simp [KnownTill, Region.binds, VAp] at hp
      clear hT
      have cv : (convert 27 9 (.slice A1 L1.length c1)).run Try.prog u = .ok (.string ⟨L1.toArray⟩) u := conv_bytes Try.underlying27 Try.underlying5 Try.underlying9 (own1.below hC (Nat.le_refl _)).bs _
      go_simp
      refine hK _ _ _ hC trivial (by exact rfl) ?_
      first | (simp only [Act.put, List.setIfInBounds_toArray, List.set_cons_succ, List.set_cons_zero, hp]; done) | simp [Act.put, hp]
    refine AllOps.cons (fun x u hC hT hp K hK => ?_) ?_
    · simp [KnownTill, Region.binds, VAp] at hp
      clear hT
      go_simp
      refine hK _ _ _ hC trivial (by exact rfl) ?_
      first | (simp only [Act.put, List.setIfInBounds_toArray, List.set_cons_succ, List.set_cons_zero, hp]; done) | simp [Act.put, hp]
    refine AllOps.cons (fun x u hC hT hp K hK => ?_) ?_
    · simp [KnownTill, Region.binds, VAp] at hp
      clear hT
      have cv : (convert 27 9 (.slice A2 L1.length c2)).run Try.prog u = .ok (.string ⟨L1.toArray⟩) u := conv_bytes Try.underlying27 Try.underlying5 Try.underlying9 (own2.below hC (Nat.le_refl _)).bs _
      go_simp
      refine hK _ _ _ hC trivial (by exact rfl) ?_
      first | (simp only [Act.put, List.setIfInBounds_toArray, List.set_cons_succ, List.set_cons_zero, hp]; done) | simp [Act.put, hp]
    refine AllOps.cons (fun x u hC hT hp K hK => ?_) ?_
    · simp [KnownTill, Region.binds, VAp] at hp
      clear hT
      go_simp
      refine hK _ _ _ hC trivial (by exact rfl) ?_
      first | (simp only [Act.put, List.setIfInBounds_toArray, List.set_cons_succ, List.set_cons_zero, hp]; done) | simp [Act.put, hp]
    refine AllOps.cons (fun x u hC hT hp K hK => ?_) ?_
    · simp [KnownTill, Region.binds, VAp] at hp
      clear hT
      have d0 := ((g3.below hC g3.lt)).cell 0
      have d1 := ((g3.below hC g3.lt)).cell 1
      have d2 := ((g3.below hC g3.lt)).cell 2
      have d3 := ((g3.below hC g3.lt)).cell 3
      have d4 := ((g3.below hC g3.lt)).cell 4
      have d5 := ((g3.below hC g3.lt)).cell 5
      have d6 := ((g3.below hC g3.lt)).cell 6
      simp only [List.getElem?_toArray, List.getElem?_cons_zero, List.getElem?_cons_succ] at d0 d1 d2 d3 d4 d5 d6
      go_simp
      refine hK _ _ _ hC trivial (by exact rfl) ?_
      first | (simp only [Act.put, List.setIfInBounds_toArray, List.set_cons_succ, List.set_cons_zero, hp]; done) | simp [Act.put, hp]
    refine AllOps.cons (fun x u hC hT hp K hK => ?_) ?_
    · simp [KnownTill, Region.binds, VAp] at hp
      clear hT
      have d0 := ((g4.below hC g4.lt)).cell 0
      have d1 := ((g4.below hC g4.lt)).cell 1
      have d2 := ((g4.below hC g4.lt)).cell 2
      have d3 := ((g4.below hC g4.lt)).cell 3
      have d4 := ((g4.below hC g4.lt)).cell 4
      have d5 := ((g4.below hC g4.lt)).cell 5
      have d6 := ((g4.below hC g4.lt)).cell 6
      simp only [List.getElem?_toArray, List.getElem?_cons_zero, List.getElem?_cons_succ] at d0 d1 d2 d3 d4 d5 d6
      go_simp
      refine hK _ _ _ hC trivial (by exact rfl) ?_
      first | (simp only [Act.put, List.setIfInBounds_toArray, List.set_cons_succ, List.set_cons_zero, hp]; done) | simp [Act.put, hp]
    refine AllOps.cons (fun x u hC hT hp K hK => ?_) ?_
    · simp [KnownTill, Region.binds, VAp] at hp
      clear hT
      go_simp
      refine hK _ _ _ hC trivial (by exact rfl) ?_
      first | (simp only [Act.put, List.setIfInBounds_toArray, List.set_cons_succ, List.set_cons_zero, hp]; done) | simp [Act.put, hp]
    refine AllOps.cons (fun x u hC hT hp K hK => ?_) ?_
    · simp [KnownTill, Region.binds, VAp] at hp
      clear hT
      go_simp
      refine hK _ _ _ hC trivial (by exact rfl) ?_
      first | (simp only [Act.put, List.setIfInBounds_toArray, List.set_cons_succ, List.set_cons_zero, hp]; done) | simp [Act.put, hp]
    refine AllOps.cons (fun x u hC hT hp K hK => ?_) ?_
    · simp [KnownTill, Region.binds, VAp] at hp
      clear hT
      go_simp
      refine hK _ _ _ hC trivial (by exact rfl) ?_
      first | (simp only [Act.put, List.setIfInBounds_toArray, List.set_cons_succ, List.set_cons_zero, hp]; done) | simp [Act.put, hp]
    refine AllOps.cons (fun x u hC hT hp K hK => ?_) ?_
    · simp [KnownTill, Region.binds, VAp] at hp
      clear hT
      go_simp
      refine hK _ _ _ hC trivial (by exact rfl) ?_
      first | (simp only [Act.put, List.setIfInBounds_toArray, List.set_cons_succ, List.set_cons_zero, hp]; done) | simp [Act.put, hp]
    exact AllOps.nil
  case finA =>
    intro x u hC hV
    have hz : x 12 = .bool true := hV 12 (by decide) rfl
    rw [hz]
    have hbe := bt hbw hC
    clear hV hz hC g3 g4
    go_wp2
    go_ret
    exact ⟨rfl, hbe⟩
end Go.Proofs.Yteniponkakaaaaa
