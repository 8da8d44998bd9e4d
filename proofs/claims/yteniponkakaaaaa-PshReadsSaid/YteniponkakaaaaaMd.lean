/- A message's bytes: the program's Write. -/
import Derived.Test.YteniponkakaaaaaMc
import Derived.Test.YteniponkakaaaaaGe
namespace Go.Proofs.Yteniponkakaaaaa
open Go.RowKit
set_option linter.unusedVariables false
set_option linter.unusedSimpArgs false

/-- A message's bytes, or that it is not right. -/
def writeM (m : MsgV) : List UInt8 × Int := if okM m = true then (segOf (putL (4864 + m.k).toNat 2) (dataM m) true, 0) else ([], 30)
structure MsgOk (m : MsgV) : Prop where
  k1 : -9223372036854775808 ≤ m.k
  k2 : m.k ≤ 9223372036854775807
  u1 : -9223372036854775808 ≤ m.u
  u2 : m.u ≤ 9223372036854775807
  a1 : m.a < 4294967296
  q1 : m.q < 4294967296
  mi1 : m.mi < 4294967296
  yo1 : m.yo < 4294967296
theorem okM_kind (m : MsgV) (h : okM m = true) : 1 ≤ m.k ∧ m.k ≤ 13 ∧ (m.k ≤ 11 → okL m.u m.q = true) := by
  unfold okM at h
  split at h
  · cases h
  · rename_i h1
    refine ⟨by omega, by omega, fun h2 => ?_⟩
    rw [if_pos h2] at h
    simp only [Bool.and_eq_true] at h
    exact h.1
theorem data_any (m : MsgV) (w : World) (hok : okM m = true) (hm : MsgOk m) : Calls Try.prog 19 #[m.val] w (DataOut w (dataM m)) := by
  obtain ⟨h1, h2, h3⟩ := okM_kind m hok
  obtain ⟨_, _, _, _, ha, hq, hmi, hyo⟩ := hm
  obtain ⟨k, u, a, q, mx, mi, yo⟩ := m
  simp only at h1 h2 h3 ha hq hmi hyo
  unfold dataM
  by_cases h11 : k ≤ 11
  · rw [if_pos h11]
    exact data_luw k u a q mx mi yo w h1 h11 (h3 h11) ha hq
  · rw [if_neg h11]
    by_cases h12 : k = 12
    · rw [if_pos h12]
      exact data_names k u a q mx mi yo w h12 hmi hyo
    · rw [if_neg h12]
      exact data_refuse k u a q mx mi yo w (by omega)
theorem segs_one (id : Nat) (d : List UInt8) (h : d.length ≤ 2048) : segsL (putL id 2) (piecesL 2048 d.length d) = segOf (putL id 2) d true := by
  rw [piecesL_last (by omega)]
  simp [segsL]
def IsVar (w : World) (s : Nat) (v : Value) (id : Int) (L : List UInt8) : Prop := ∃ A c, v = .agg #[.int .i64 id, .slice A L.length c] ∧ Own w s 5 A c L
def IsPair (w : World) (s : Nat) (v : Value) (L : List UInt8) : Prop := ∃ A c, v = .tuple #[.slice A L.length c, .int .i64 0] ∧ Own w s 5 A c L
def IsOwnL (w : World) (s : Nat) (v : Value) (L : List UInt8) : Prop := ∃ A c, v = .slice A L.length c ∧ Own w s 5 A c L
theorem IsVar.bt {w w' : World} {s : Nat} {v : Value} {id : Int} {L : List UInt8} (h : IsVar w s v id L) (hb : Below w.heap.size w w') : IsVar w' s v id L := by obtain ⟨A, c, e, h⟩ := h; exact ⟨A, c, e, h.below hb (Nat.le_refl _)⟩
theorem IsPair.bt {w w' : World} {s : Nat} {v : Value} {L : List UInt8} (h : IsPair w s v L) (hb : Below w.heap.size w w') : IsPair w' s v L := by obtain ⟨A, c, e, h⟩ := h; exact ⟨A, c, e, h.below hb (Nat.le_refl _)⟩
theorem IsOwnL.bt {w w' : World} {s : Nat} {v : Value} {L : List UInt8} (h : IsOwnL w s v L) (hb : Below w.heap.size w w') : IsOwnL w' s v L := by obtain ⟨A, c, e, h⟩ := h; exact ⟨A, c, e, h.below hb (Nat.le_refl _)⟩
def VMw (s : Nat) (k : Int) (mc : Array Value) (D R : List UInt8) (i : Nat) (v : Value) (w : World) : Prop :=
  match i with
  | 0 => v = .pointer (some ⟨s, 0, none⟩)
  | 1 => v = .int .i64 k
  | 2 => v = .int .i64 ((4864 : Int) + k)
  | 3 => v = .agg mc
  | 4 => IsOwnL w s v D
  | 5 => IsVar w s v ((4864 : Int) + k) D
  | 6 => IsPair w s v R
  | 7 => IsOwnL w s v R
  | 8 => v = .int .i64 0
  | 9 => IsOwnL w s v R
  | 10 => v = .int .i64 0
  | _ => True
theorem VMw.mono {s : Nat} {k : Int} {mc : Array Value} {D R : List UInt8} {i : Nat} {v : Value} {u u' : World} (he : Below u.heap.size u u') (hv : VMw s k mc D R i v u) : VMw s k mc D R i v u' := by
  unfold VMw at hv ⊢
  split at hv <;> first | exact hv | exact IsOwnL.bt hv he | exact IsVar.bt hv he | exact IsPair.bt hv he

set_option maxHeartbeats 1000000 in
theorem writeM_any (m : MsgV) (w : World) (hm : MsgOk m) : Calls Try.prog 8 #[m.val] w (OutB w (writeM m)) := by
  have hr := fun w => rightM_any m w
  rcases hok : okM m with _ | _
  · rw [hok] at hr
    rw [show writeM m = ([], 30) by unfold writeM; rw [hok]; rfl]
    clear hok hm
    obtain ⟨k, uu, a, q, mx, mi, yo⟩ := m
    unfold MsgV.val MsgV.cs at hr ⊢
    go_enter Try.func8, Try.ntmps8
    go_wp2_with fail
    refine (hr _).mono ?_
    rintro e w1 ⟨rfl, hb1⟩
    go_wp2
    go_ret2
    exact ⟨none, 0, rfl, Own.nil, bt (ba _ _) hb1⟩
  · have hd := fun w => data_any m w hok hm
    have hk := okM_kind m hok
    rw [hok] at hr
    rw [show writeM m = (segOf (putL (4864 + m.k).toNat 2) (dataM m) true, 0) by unfold writeM; rw [if_pos hok]]
    have hdl := dataM_len m
    obtain ⟨n, hn⟩ := Int.eq_ofNat_of_zero_le (show 0 ≤ m.k by omega)
    have hid : (4864 + m.k).toNat = 4864 + n := by omega
    rw [hid]
    have hw := fun A c (w : World) h1 h2 h3 => write_ok (4864 + n) A (dataM m) c 2048 w (by omega) (by omega) (by omega) (by omega) (by omega) h1 h2 h3 (segOf (putL (4864 + n) 2) (dataM m) true) (Lib.hid (segs_one _ _ (by omega)).symm)
    have hcast : ((4864 + n : Nat) : Int) = (4864 : Int) + m.k := by omega
    rw [hcast] at hw
    generalize segOf (putL (4864 + n) 2) (dataM m) true = R at *
    generalize dataM m = D at *
    obtain ⟨hk1, hk2, _⟩ := hk
    clear hok hm hn hid hcast
    obtain ⟨k, uu, a, q, mx, mi, yo⟩ := m
    unfold MsgV.val MsgV.cs at hr hd ⊢
    simp only at hw hk1 hk2
    unfold OutB at hw
    unfold DataOut at hd
    have Hw := Lib.hid hw
    have ew : IntKind.i64.wrap ((4864 : Int) + k) = (4864 : Int) + k := IntWalk.i64_in _ (by omega)
    clear hw
    have kb0 := Blk.new w 26 #[.int .i64 k, .int .i64 uu, .int .u32 a, .int .u32 q, .bool mx, .int .u32 mi, .int .u32 yo]
    have hbw0 := ba w (.cells #[.int .i64 k, .int .i64 uu, .int .u32 a, .int .u32 q, .bool mx, .int .u32 mi, .int .u32 yo] 26)
    go_enter Try.func8, Try.ntmps8
    go_wp2_with fail
    refine (hr _).mono ?_
    rintro e w1 ⟨rfl, hb1⟩
    have kb := kb0.below hb1 kb0.lt
    have hbw := bt hbw0 hb1
    clear kb0 hbw0 hb1
    go_wp2_with fail
    refine wp_region_invT (F := ?FM) (V := VMw w.heap.size k #[.int .i64 k, .int .i64 uu, .int .u32 a, .int .u32 q, .bool mx, .int .u32 mi, .int .u32 yo] D R) (dead := fun _ => none) (T := fun _ _ => True) (C := fun u' => Below w1.heap.size w1 u') (E := fun _ u u' => Below u.heap.size u u') (by kernel_rfl) (by kernel_rfl) (by kernel_rfl) (fun x => ?hFM) ?hmonoM ?hTmM ?hTM ?hCM ?stepM ?finM
    case hFM => simp only [mkA, Act.put, List.setIfInBounds_toArray, List.set_cons_succ, List.set_cons_zero, Nat.reduceAdd, Nat.zero_add]; first | with_reducible rfl | rfl
    case hmonoM => exact fun k i v u u' he hik hwt hdd hv => VMw.mono he hv
    case hTmM => exact fun _ _ _ _ _ _ _ _ => trivial
    case hTM => exact fun j => trivial
    case hCM => exact below_drew _
    case stepM =>
      refine AllOps.cons (fun x u hC hT hp K hK => ?_) ?_
      · clear hp hT
        go_simp
        refine hK _ _ _ hC (Below.refl _ _) (by exact rfl) ?_
        first | (simp only [Act.put, List.setIfInBounds_toArray, List.set_cons_succ, List.set_cons_zero]; done) | simp [Act.put]
      refine AllOps.cons (fun x u hC hT hp K hK => ?_) ?_
      · simp [KnownTill, Region.binds, VMw] at hp
        clear hT
        have c0 := ((kb.below hC kb.lt)).cell 0
        have c1 := ((kb.below hC kb.lt)).cell 1
        have c2 := ((kb.below hC kb.lt)).cell 2
        have c3 := ((kb.below hC kb.lt)).cell 3
        have c4 := ((kb.below hC kb.lt)).cell 4
        have c5 := ((kb.below hC kb.lt)).cell 5
        have c6 := ((kb.below hC kb.lt)).cell 6
        simp only [List.getElem?_toArray, List.getElem?_cons_zero, List.getElem?_cons_succ] at c0 c1 c2 c3 c4 c5 c6
        go_simp
        refine hK _ _ _ hC (Below.refl _ _) (by exact rfl) ?_
        first | (simp only [Act.put, List.setIfInBounds_toArray, List.set_cons_succ, List.set_cons_zero, hp]; done) | simp [Act.put, hp]
      refine AllOps.cons (fun x u hC hT hp K hK => ?_) ?_
      · simp [KnownTill, Region.binds, VMw] at hp
        clear hT
        go_simp
        refine hK _ _ _ hC (Below.refl _ _) (by exact rfl) ?_
        first | (simp only [Act.put, List.setIfInBounds_toArray, List.set_cons_succ, List.set_cons_zero, hp]; done) | simp [Act.put, hp]
      refine AllOps.cons (fun x u hC hT hp K hK => ?_) ?_
      · clear hp hT
        have c0 := ((kb.below hC kb.lt)).cell 0
        have c1 := ((kb.below hC kb.lt)).cell 1
        have c2 := ((kb.below hC kb.lt)).cell 2
        have c3 := ((kb.below hC kb.lt)).cell 3
        have c4 := ((kb.below hC kb.lt)).cell 4
        have c5 := ((kb.below hC kb.lt)).cell 5
        have c6 := ((kb.below hC kb.lt)).cell 6
        simp only [List.getElem?_toArray, List.getElem?_cons_zero, List.getElem?_cons_succ] at c0 c1 c2 c3 c4 c5 c6
        go_simp
        refine hK _ _ _ hC (Below.refl _ _) (by exact rfl) ?_
        first | (simp only [Act.put, List.setIfInBounds_toArray, List.set_cons_succ, List.set_cons_zero]; done) | simp [Act.put]
      refine AllOps.cons (fun x u hC hT hp K hK => ?_) ?_
      · simp [KnownTill, Region.binds, VMw] at hp
        clear hT
        go_simp
        refine (hd _).mono ?_
        rintro e wA ⟨A4, cA4, rfl, own4, hbA⟩
        refine hK _ _ _ (bt hC hbA) hbA (by exact ⟨A4, cA4, rfl, own4.base_le (Nat.le_trans hbw.size hC.size)⟩) ?_
        first | (simp only [Act.put, List.setIfInBounds_toArray, List.set_cons_succ, List.set_cons_zero, hp]; done) | simp [Act.put, hp]
      refine AllOps.cons (fun x u hC hT hp K hK => ?_) ?_
      · simp [KnownTill, Region.binds, VMw] at hp
        clear hT
        have hp0 := hp
        obtain ⟨h2, ⟨A4, cA4, h4, own4⟩⟩ : x 2 = .int .i64 ((4864 : Int) + k) ∧ IsOwnL u w.heap.size (x 4) D := by first | exact ⟨hp0.1, hp0.2.1⟩ | exact ⟨hp0.1, hp0.2⟩ | exact ⟨hp0.2.1, hp0.1⟩
        go_simp
        refine hK _ _ _ hC (Below.refl _ _) (by exact ⟨A4, cA4, rfl, own4⟩) ?_
        first | (simp only [Act.put, List.setIfInBounds_toArray, List.set_cons_succ, List.set_cons_zero, hp, h2, h4]; done) | simp [Act.put, hp, h2, h4]
      refine AllOps.cons (fun x u hC hT hp K hK => ?_) ?_
      · simp [KnownTill, Region.binds, VMw] at hp
        clear hT
        obtain ⟨A5, cA5, h5, own5⟩ : IsVar u w.heap.size (x 5) ((4864 : Int) + k) D := by first | exact hp | exact hp.1
        obtain ⟨hc1, hc2⟩ := own_cap own5
        go_simp
        refine (Hw.out A5 cA5 u hc1 hc2 own5.bs).mono ?_
        rintro e wA ⟨A6, cA6, rfl, own6, hbA⟩
        refine hK _ _ _ (bt hC hbA) hbA ⟨A6, cA6, rfl, own6.base_le (Nat.le_trans hbw.size hC.size)⟩ ?_
        first | (simp only [Act.put, List.setIfInBounds_toArray, List.set_cons_succ, List.set_cons_zero, hp, h5]; done) | simp [Act.put, hp, h5]
      refine AllOps.cons (fun x u hC hT hp K hK => ?_) ?_
      · simp [KnownTill, Region.binds, VMw] at hp
        clear hT
        obtain ⟨A6, cA6, h6, own6⟩ : IsPair u w.heap.size (x 6) R := by first | exact hp | exact hp.1
        go_simp
        refine hK _ _ _ hC (Below.refl _ _) (by exact ⟨A6, cA6, rfl, own6⟩) ?_
        first | (simp only [Act.put, List.setIfInBounds_toArray, List.set_cons_succ, List.set_cons_zero, hp, h6]; done) | simp [Act.put, hp, h6]
      refine AllOps.cons (fun x u hC hT hp K hK => ?_) ?_
      · simp [KnownTill, Region.binds, VMw] at hp
        clear hT
        obtain ⟨A6, cA6, h6, own6⟩ : IsPair u w.heap.size (x 6) R := by first | exact hp | exact hp.1
        go_simp
        refine hK _ _ _ hC (Below.refl _ _) (by exact rfl) ?_
        first | (simp only [Act.put, List.setIfInBounds_toArray, List.set_cons_succ, List.set_cons_zero, hp, h6]; done) | simp [Act.put, hp, h6]
      refine AllOps.cons (fun x u hC hT hp K hK => ?_) ?_
      · simp [KnownTill, Region.binds, VMw] at hp
        clear hT
        obtain ⟨A7, cA7, h7, own7⟩ : IsOwnL u w.heap.size (x 7) R := by first | exact hp | exact hp.1
        go_simp
        refine hK _ _ _ hC (Below.refl _ _) (by exact ⟨A7, cA7, rfl, own7⟩) ?_
        first | (simp only [Act.put, List.setIfInBounds_toArray, List.set_cons_succ, List.set_cons_zero, hp, h7]; done) | simp [Act.put, hp, h7]
      refine AllOps.cons (fun x u hC hT hp K hK => ?_) ?_
      · simp [KnownTill, Region.binds, VMw] at hp
        clear hT
        go_simp
        refine hK _ _ _ hC (Below.refl _ _) (by exact rfl) ?_
        first | (simp only [Act.put, List.setIfInBounds_toArray, List.set_cons_succ, List.set_cons_zero, hp]; done) | simp [Act.put, hp]
      exact AllOps.nil
    case finM =>
      intro x u hC hV
      obtain ⟨A9, cA9, h9, own9⟩ : IsOwnL u w.heap.size (x 9) R := hV 9 (by decide) rfl
      have h10 : x 10 = .int .i64 0 := hV 10 (by decide) rfl
      rw [h9, h10]
      clear hV h9 h10
      go_wp2
      go_ret2
      exact ⟨A9, cA9, rfl, own9, bt hbw hC⟩
end Go.Proofs.Yteniponkakaaaaa
