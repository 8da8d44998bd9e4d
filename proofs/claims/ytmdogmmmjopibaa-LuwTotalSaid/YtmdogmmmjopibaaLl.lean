/- The law on the whole order of names. -/
import Derived.Test.YtmdogmmmjopibaaLk
namespace Go.Proofs.Ytmdogmmmjopibaa
open Go.RowKit
set_option linter.unusedVariables false
set_option linter.unusedSimpArgs false

theorem bl_arith (p x y s t : Nat) (la : s < p) (lb : t < p) : (decide (x < y) || (decide (x = y) && decide (s < t))) = decide (p * x + s < p * y + t) := by
  rcases Nat.lt_trichotomy x y with e | e | e
  · have : p * (x + 1) ≤ p * y := Nat.mul_le_mul_left p e
    rw [Nat.mul_add, Nat.mul_one] at this
    have h : p * x + s < p * y + t := by omega
    rw [decide_eq_true e, decide_eq_true h]; rfl
  · subst e
    simp
  · have : p * (y + 1) ≤ p * x := Nat.mul_le_mul_left p e
    rw [Nat.mul_add, Nat.mul_one] at this
    have h : ¬ (p * x + s < p * y + t) := by omega
    rw [decide_eq_false (show ¬ x < y by omega), decide_eq_false (show ¬ x = y by omega), decide_eq_false h]; rfl
theorem bl_u8 (x y : Nat) (hx : x < 256) (hy : y < 256) (z : Bool) : (decide (UInt8.ofNat x < UInt8.ofNat y) || (UInt8.ofNat x == UInt8.ofNat y && z)) = (decide (x < y) || (decide (x = y) && z)) := by
  have h1 : decide (UInt8.ofNat x < UInt8.ofNat y) = decide (x < y) := decide_eq_decide.2 (by rw [UInt8.lt_iff_toNat_lt]; simp; omega)
  have h2 : (UInt8.ofNat x == UInt8.ofNat y) = decide (x = y) := by
    by_cases e : x = y
    · subst e; simp
    · rw [decide_eq_false e]
      refine beq_eq_false_iff_ne.2 (fun e2 => e ?_)
      have := congrArg UInt8.toNat e2
      simp at this; omega
  rw [h1, h2]
theorem bl_putL (n a b : Nat) : Op.bytesLess (putL a n) (putL b n) = decide (a % 256 ^ n < b % 256 ^ n) := by
  induction n generalizing a b with
  | zero => simp [putL, Op.bytesLess, Nat.mod_one]
  | succ n ih =>
    have hp : 0 < 256 ^ n := Nat.pow_pos (by omega)
    have ea : a % 256 ^ (n + 1) = 256 ^ n * (a / 256 ^ n % 256) + a % 256 ^ n := by rw [Nat.pow_succ, Nat.mod_mul]; omega
    have eb : b % 256 ^ (n + 1) = 256 ^ n * (b / 256 ^ n % 256) + b % 256 ^ n := by rw [Nat.pow_succ, Nat.mod_mul]; omega
    rw [putL_cons, putL_cons, ea, eb]
    show (decide (UInt8.ofNat (a / 256 ^ n % 256) < UInt8.ofNat (b / 256 ^ n % 256)) || (UInt8.ofNat (a / 256 ^ n % 256) == UInt8.ofNat (b / 256 ^ n % 256) && Op.bytesLess (putL a n) (putL b n))) = _
    rw [ih, bl_u8 _ _ (Nat.mod_lt _ (by omega)) (Nat.mod_lt _ (by omega)), bl_arith _ _ _ _ _ (Nat.mod_lt _ hp) (Nat.mod_lt _ hp)]
theorem putL_app (a q n k : Nat) (hq : q < 256 ^ k) : putL (a * 256 ^ k + q) (n + k) = putL a n ++ putL q k := by
  induction k generalizing q with
  | zero => simp at hq; subst hq; simp [putL]
  | succ k ih =>
    have e1 : (a * 256 ^ (k + 1) + q) / 256 = a * 256 ^ k + q / 256 := by rw [Nat.pow_succ, ← Nat.mul_assoc]; omega
    have e2 : (a * 256 ^ (k + 1) + q) % 256 = q % 256 := by rw [Nat.pow_succ, ← Nat.mul_assoc]; omega
    rw [← Nat.add_assoc, putL, e1, e2, ih (q / 256) (by rw [Nat.pow_succ] at hq; omega), List.append_assoc]
    rfl
theorem wr_num (m a q : Nat) (hm : m < 6) (ha : a < 4294967296) (hq : q < 4294967296) : UInt8.ofNat m :: (putL a 4 ++ putL q 4) = putL ((m * 4294967296 + a) * 4294967296 + q) 9 := by
  have e4 : (256 : Nat) ^ 4 = 4294967296 := by decide
  have h1 := putL_app (m * 4294967296 + a) q 5 4 (by rw [e4]; exact hq)
  have h2 := putL_app m a 1 4 (by rw [e4]; exact ha)
  rw [e4] at h1 h2
  rw [h1, h2]
  simp [putL]
  rw [Nat.mod_eq_of_lt (by omega)]
theorem bytes_less {u v : Int} {a b q r : Nat} (h1 : okL u q = true) (h2 : okL v r = true) (ha : a < 4294967296) (hb : b < 4294967296) (hq : q < 4294967296) (hr : r < 4294967296) :
    Op.bytesLess (wrL u a q).1 (wrL v b r).1 = lessL u v a b q r := by
  unfold wrL
  rw [if_pos h1, if_pos h2]
  obtain ⟨u1, u2, _⟩ := (okL_iff u q).1 h1
  obtain ⟨v1, v2, _⟩ := (okL_iff v r).1 h2
  obtain ⟨m, rfl⟩ := Int.eq_ofNat_of_zero_le u1
  obtain ⟨n, rfl⟩ := Int.eq_ofNat_of_zero_le v1
  simp only [Int.toNat_natCast]
  have e9 : (256 : Nat) ^ 9 = 4722366482869645213696 := by decide
  rw [wr_num m a q (by omega) ha hq, wr_num n b r (by omega) hb hr, bl_putL, e9, Nat.mod_eq_of_lt (by omega), Nat.mod_eq_of_lt (by omega)]
  unfold lessL
  split
  · split
    · congr 1; simp; omega
    · congr 1; simp; omega
  · congr 1; simp; omega
theorem wrL_ok (u : Int) (a q : Nat) : ((wrL u a q).2 = 0 ∧ okL u q = true) ∨ (wrL u a q).2 = 50 := by
  unfold wrL; split
  · exact .inl ⟨rfl, by assumption⟩
  · exact .inr rfl
theorem bl_self (l : List UInt8) : Op.bytesLess l l = false := by
  induction l with
  | nil => rfl
  | cons x t ih => unfold Op.bytesLess; rw [ih]; simp
/-- What the law asks of the bytes of two names. -/
theorem tot_bytes (u v : Int) (a b q r : Nat) (ha : a < 4294967296) (hb : b < 4294967296) (hq : q < 4294967296) (hr : r < 4294967296) :
    (wrL u a q).2 = 50 ∨ (wrL v b r).2 = 50 ∨ ((wrL u a q).2 = 0 ∧ (wrL v b r).2 = 0 ∧ Op.bytesLess (wrL u a q).1 (wrL v b r).1 = lessL u v a b q r) := by
  rcases wrL_ok u a q with ⟨h1, h2⟩ | h
  · rcases wrL_ok v b r with ⟨h3, h4⟩ | h'
    · exact .inr (.inr ⟨h1, h3, bytes_less h2 h4 ha hb hq hr⟩)
    · exact .inr (.inl h')
  · exact .inl h
theorem less_tri (u v : Int) (a b q r : Nat) : (lessL u v a b q r = false ∧ lessL v u b a r q = false ∧ u = v ∧ a = b ∧ q = r) ∨ (lessL u v a b q r = true ∧ lessL v u b a r q = false ∧ ¬ (u = v ∧ a = b ∧ q = r)) ∨ (lessL u v a b q r = false ∧ lessL v u b a r q = true ∧ ¬ (u = v ∧ a = b ∧ q = r)) := by
  unfold lessL
  repeat' split
  all_goals (simp; try omega)

def VTt (u v0 : Int) (a b q r : Nat) (x y : Bool) (i : Nat) (v : Value) (w : World) : Prop :=
  match i with
  | 0 => v = .agg #[.int .i64 u, .int .u32 a, .int .u32 q]
  | 1 => v = .agg #[.int .i64 v0, .int .u32 b, .int .u32 r]
  | 2 => v = .bool x
  | 3 => v = .agg #[.int .i64 v0, .int .u32 b, .int .u32 r]
  | 4 => v = .agg #[.int .i64 u, .int .u32 a, .int .u32 q]
  | 5 => v = .bool y
  | 6 => v = .bool x
  | 7 => v = .bool y
  | _ => True
theorem VTt.mono {u v0 : Int} {a b q r : Nat} {x y : Bool} {i : Nat} {v : Value} {w w' : World} (hv : VTt u v0 a b q r x y i v w) : VTt u v0 a b q r x y i v w' := by
  unfold VTt at hv ⊢; split at hv <;> exact hv

set_option maxHeartbeats 2000000 in
theorem luwTotal_e (o1 o2 o3 : LuwV) (w : World) (h1 : LuwOk o1) (h2 : LuwOk o2) (h3 : LuwOk o3) (hcase : lessL o1.u o2.u o1.a o2.a o1.q o2.q = false ∧ lessL o2.u o1.u o2.a o1.a o2.q o1.q = false ∧ (o1.u = o2.u ∧ o1.a = o2.a ∧ o1.q = o2.q)) : Calls Try.prog 7 #[o1.val, o2.val, o3.val] w fun e w' => e = .returned (.bool true) ∧ Below w.heap.size w w' := by
  obtain ⟨n0, a, q⟩ := o1
  obtain ⟨v0, b, r⟩ := o2
  obtain ⟨t, d, g⟩ := o3
  obtain ⟨_, _, ha, hq⟩ := h1
  obtain ⟨_, _, hb, hr⟩ := h2
  obtain ⟨_, _, hd, hg⟩ := h3
  unfold LuwV.val
  simp only at ha hq hb hr hd hg
  have hw1 := fun w => write_any n0 a q w ha hq
  have hw2 := fun w => write_any v0 b r w hb hr
  have hl1 := fun w => less_any n0 v0 a b q r w
  have hl2 := fun w => less_any v0 n0 b a r q w
  have hl3 := fun w => less_any n0 n0 a a q q w
  have hl4 := fun w => less_any v0 t b d r g w
  have hl5 := fun w => less_any n0 t a d q g w
  have htb := tot_bytes n0 v0 a b q r ha hb hq hr
  obtain ⟨hc1, hc2, hc3⟩ := hcase
  simp only at hc1 hc2 hc3
  have htt : lessL n0 v0 a b q r = true → lessL v0 t b d r g = true → lessL n0 t a d q g = true := less_trans
  rw [less_self] at hl3
  generalize lessL n0 v0 a b q r = xB at *
  generalize lessL v0 n0 b a r q = y at *
  generalize lessL v0 t b d r g = z at *
  generalize lessL n0 t a d q g = z2 at *
  unfold lv at hw1 hw2 hl1 hl2 hl3 hl4 hl5
  unfold OutB at hw1 hw2
  generalize wrL n0 a q = R1 at *
  obtain ⟨L1, e1⟩ := R1
  generalize wrL v0 b r = R2 at *
  obtain ⟨L2, e2⟩ := R2
  simp only at htb hw1 hw2
  have k1 := ((Blk.new w 24 #[.int .i64 n0, .int .u32 a, .int .u32 q]).alloc (.cells #[.int .i64 v0, .int .u32 b, .int .u32 r] 24)).alloc (.cells #[.int .i64 t, .int .u32 d, .int .u32 g] 24)
  have k2 := (Blk.new (w.alloc (.cells #[.int .i64 n0, .int .u32 a, .int .u32 q] 24)) 24 #[.int .i64 v0, .int .u32 b, .int .u32 r]).alloc (.cells #[.int .i64 t, .int .u32 d, .int .u32 g] 24)
  have k3 := Blk.new ((w.alloc (.cells #[.int .i64 n0, .int .u32 a, .int .u32 q] 24)).alloc (.cells #[.int .i64 v0, .int .u32 b, .int .u32 r] 24)) 24 #[.int .i64 t, .int .u32 d, .int .u32 g]
  have hz : ∀ (w : World) (o : Obj), (w.alloc o).heap.size = w.heap.size + 1 := fun w o => by simp
  rw [hz] at k2
  rw [hz, hz] at k3
  clear hz
  have hbw := bt (ba2 w (.cells #[.int .i64 n0, .int .u32 a, .int .u32 q] 24) (.cells #[.int .i64 v0, .int .u32 b, .int .u32 r] 24)) (ba _ (.cells #[.int .i64 t, .int .u32 d, .int .u32 g] 24))
  have Htb := Lib.hid htb
  have Htt := Lib.hid htt
  clear htb htt
  have Hc := Lib.hid (And.intro hc1 (And.intro hc2 hc3))
  clear hc1 hc2 hc3
  go_enter Try.func7, Try.ntmps7
  go_wp2_with fail
  generalize ((w.alloc (.cells #[.int .i64 n0, .int .u32 a, .int .u32 q] 24)).alloc (.cells #[.int .i64 v0, .int .u32 b, .int .u32 r] 24)).alloc (.cells #[.int .i64 t, .int .u32 d, .int .u32 g] 24) = w1 at *
  refine wp_region_invT (F := ?FT) (V := VTt n0 v0 a b q r xB y) (dead := fun _ => none) (T := fun _ _ => True) (C := fun u' => Below w1.heap.size w1 u') (E := fun _ _ _ => True) (by kernel_rfl) (by kernel_rfl) (by kernel_rfl) (fun x => ?hFT) ?hmonoT ?hTmT ?hTT ?hCT ?stepT ?finT
  case hFT => simp only [mkA, Act.put, List.setIfInBounds_toArray, List.set_cons_succ, List.set_cons_zero, Nat.reduceAdd, Nat.zero_add]; first | with_reducible rfl | rfl
  case hmonoT => exact fun k i v u u' he hik hwt hdd hv => VTt.mono hv
  case hTmT => exact fun _ _ _ _ _ _ _ _ => trivial
  case hTT => exact fun j => trivial
  case hCT => exact below_drew _
  case stepT =>
    refine AllOps.cons (fun x u hC hT hp K hK => ?_) ?_
    · clear hp hT
      have c0 := ((k1.below hC k1.lt)).cell 0
      have c1 := ((k1.below hC k1.lt)).cell 1
      have c2 := ((k1.below hC k1.lt)).cell 2
      simp only [List.getElem?_toArray, List.getElem?_cons_zero, List.getElem?_cons_succ] at c0 c1 c2
      go_simp
      refine hK _ _ _ hC trivial (by exact rfl) ?_
      first | (simp only [Act.put, List.setIfInBounds_toArray, List.set_cons_succ, List.set_cons_zero]; done) | simp [Act.put]
    refine AllOps.cons (fun x u hC hT hp K hK => ?_) ?_
    · clear hp hT
      have c0 := ((k2.below hC k2.lt)).cell 0
      have c1 := ((k2.below hC k2.lt)).cell 1
      have c2 := ((k2.below hC k2.lt)).cell 2
      simp only [List.getElem?_toArray, List.getElem?_cons_zero, List.getElem?_cons_succ] at c0 c1 c2
      go_simp
      refine hK _ _ _ hC trivial (by exact rfl) ?_
      first | (simp only [Act.put, List.setIfInBounds_toArray, List.set_cons_succ, List.set_cons_zero]; done) | simp [Act.put]
    refine AllOps.cons (fun x u hC hT hp K hK => ?_) ?_
    · simp [KnownTill, Region.binds, VTt] at hp
      clear hT
      go_simp
      refine (hl1 _).mono ?_
      rintro e wA ⟨rfl, hbA⟩
      refine hK _ _ _ (bt hC hbA) trivial (by exact rfl) ?_
      first | (simp only [Act.put, List.setIfInBounds_toArray, List.set_cons_succ, List.set_cons_zero, hp]; done) | simp [Act.put, hp]
    refine AllOps.cons (fun x u hC hT hp K hK => ?_) ?_
    · clear hp hT
      have c0 := ((k2.below hC k2.lt)).cell 0
      have c1 := ((k2.below hC k2.lt)).cell 1
      have c2 := ((k2.below hC k2.lt)).cell 2
      simp only [List.getElem?_toArray, List.getElem?_cons_zero, List.getElem?_cons_succ] at c0 c1 c2
      go_simp
      refine hK _ _ _ hC trivial (by exact rfl) ?_
      first | (simp only [Act.put, List.setIfInBounds_toArray, List.set_cons_succ, List.set_cons_zero]; done) | simp [Act.put]
    refine AllOps.cons (fun x u hC hT hp K hK => ?_) ?_
    · clear hp hT
      have c0 := ((k1.below hC k1.lt)).cell 0
      have c1 := ((k1.below hC k1.lt)).cell 1
      have c2 := ((k1.below hC k1.lt)).cell 2
      simp only [List.getElem?_toArray, List.getElem?_cons_zero, List.getElem?_cons_succ] at c0 c1 c2
      go_simp
      refine hK _ _ _ hC trivial (by exact rfl) ?_
      first | (simp only [Act.put, List.setIfInBounds_toArray, List.set_cons_succ, List.set_cons_zero]; done) | simp [Act.put]
    refine AllOps.cons (fun x u hC hT hp K hK => ?_) ?_
    · simp [KnownTill, Region.binds, VTt] at hp
      clear hT
      go_simp
      refine (hl2 _).mono ?_
      rintro e wA ⟨rfl, hbA⟩
      refine hK _ _ _ (bt hC hbA) trivial (by exact rfl) ?_
      first | (simp only [Act.put, List.setIfInBounds_toArray, List.set_cons_succ, List.set_cons_zero, hp]; done) | simp [Act.put, hp]
    refine AllOps.cons (fun x u hC hT hp K hK => ?_) ?_
    · simp [KnownTill, Region.binds, VTt] at hp
      clear hT
      go_simp
      refine hK _ _ _ hC trivial (by exact rfl) ?_
      first | (simp only [Act.put, List.setIfInBounds_toArray, List.set_cons_succ, List.set_cons_zero, hp]; done) | simp [Act.put, hp]
    refine AllOps.cons (fun x u hC hT hp K hK => ?_) ?_
    · simp [KnownTill, Region.binds, VTt] at hp
      clear hT
      go_simp
      refine hK _ _ _ hC trivial (by exact rfl) ?_
      first | (simp only [Act.put, List.setIfInBounds_toArray, List.set_cons_succ, List.set_cons_zero, hp]; done) | simp [Act.put, hp]
    exact AllOps.nil
  case finT =>
    intro x u hC hV
    have z6 : x 6 = .bool xB := hV 6 (by decide) rfl
    have z7 : x 7 = .bool y := hV 7 (by decide) rfl
    rw [z6, z7]
    have k1 := k1.below hC k1.lt
    have k2 := k2.below hC k2.lt
    have k3 := k3.below hC k3.lt
    have hbw := bt hbw hC
    clear hV z6 z7 hC
    have c0 := (k1).cell 0
    have c1 := (k1).cell 1
    have c2 := (k1).cell 2
    simp only [List.getElem?_toArray, List.getElem?_cons_zero, List.getElem?_cons_succ] at c0 c1 c2
    have d0 := (k2).cell 0
    have d1 := (k2).cell 1
    have d2 := (k2).cell 2
    simp only [List.getElem?_toArray, List.getElem?_cons_zero, List.getElem?_cons_succ] at d0 d1 d2
    obtain ⟨hc1, hc2, hc3⟩ := Hc.out
    subst hc1 hc2
    obtain ⟨rfl, rfl, rfl⟩ := hc3
    clear Hc
    go_wp2_with fail
    all_goals
      refine (hl3 _).mono ?_
      rintro e w4 ⟨rfl, hb4⟩
      have k1 := k1.below hb4 k1.lt
      have k2 := k2.below hb4 k2.lt
      have k3 := k3.below hb4 k3.lt
      have hbw := bt hbw hb4
      clear c0 c1 c2 d0 d1 d2
      have c0 := (k1).cell 0
      have c1 := (k1).cell 1
      have c2 := (k1).cell 2
      simp only [List.getElem?_toArray, List.getElem?_cons_zero, List.getElem?_cons_succ] at c0 c1 c2
      go_wp2_with fail
      refine (hw1 _).mono ?_
      rintro e wA ⟨A1, c_1, rfl, own1, hbA⟩
      have k2 := k2.below hbA k2.lt
      clear c0 c1 c2
      have d0 := (k2).cell 0
      have d1 := (k2).cell 1
      have d2 := (k2).cell 2
      simp only [List.getElem?_toArray, List.getElem?_cons_zero, List.getElem?_cons_succ] at d0 d1 d2
      go_wp2_with fail
      refine (hw2 _).mono ?_
      rintro e wB ⟨A2, c_2, rfl, own2, hbB⟩
      have own1 := own1.below hbB (Nat.le_refl _)
      clear d0 d1 d2
      go_wp2_with fail
      refine (alive_any _).mono ?_
      rintro e wC ⟨rfl, hbC⟩
      have cv1 : (convert 25 9 (.slice A1 L1.length c_1)).run Try.prog wC = .ok (.string ⟨L1.toArray⟩) wC := conv_bytes Try.underlying25 Try.underlying5 Try.underlying9 (own1.below hbC (Nat.le_refl _)).bs _
      have cv2 : (convert 25 9 (.slice A2 L2.length c_2)).run Try.prog wC = .ok (.string ⟨L2.toArray⟩) wC := conv_bytes Try.underlying25 Try.underlying5 Try.underlying9 (own2.below hbC (Nat.le_refl _)).bs _
      have hbe := bt hbw (bt hbA (bt hbB hbC))
      clear hbw hbA hbB hbC own1 own2 k1 k2 k3
      rcases Htb.out with rfl | rfl | ⟨rfl, rfl, hbl⟩
      · go_wp2
        go_ret
        exact ⟨rfl, hbe⟩
      · have h9 : (e1 != 0) = true ∨ (e1 != 0) = false := by cases (e1 != 0) <;> simp
        rcases h9 with h9 | h9
        · go_wp2
          go_ret
          exact ⟨rfl, hbe⟩
        · go_wp2
          go_ret
          exact ⟨rfl, hbe⟩
      · have hbl2 : Op.bytesLess (ByteArray.mk L1.toArray).toList (ByteArray.mk L2.toArray).toList = false := by rw [ByteArray.toList_eq, ByteArray.toList_eq]; exact hbl
        go_wp2
        go_ret
        exact ⟨by simp, hbe⟩
end Go.Proofs.Ytmdogmmmjopibaa
