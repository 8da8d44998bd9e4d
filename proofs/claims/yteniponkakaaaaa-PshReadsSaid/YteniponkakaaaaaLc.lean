/- A name's bytes: both programs' Write. -/
import Derived.Test.YteniponkakaaaaaLb
import Derived.Test.YteniponkakaaaaaPutR
import Derived.Test.YteniponkakaaaaaGetR
import Derived.Test.YteniponkakaaaaaInvT
import Derived.Lib.SlBytesConst
import Derived.Laws.BitsAllLaws
namespace Go.Proofs.Yteniponkakaaaaa
open Go.RowKit
set_option linter.unusedVariables false
set_option linter.unusedSimpArgs false

/-- A name's bytes, or that it may not be. -/
def wrL (u : Int) (a q : Nat) : List UInt8 × Int := if okL u q = true then (UInt8.ofNat u.toNat :: (putL a 4 ++ putL q 4), 0) else ([], 50)

theorem four_cells (n : Nat) (h : n < 4294967296) : [Value.int .u8 ((n : Int) / 16777216), .int .u8 ((n : Int) / 65536 % 256), .int .u8 ((n : Int) / 256 % 256), .int .u8 ((n : Int) % 256)] = bv (putL n 4) := by
  simp [bv, putL]
  omega

def FourOut (w : World) (n : Nat) (e : Ending) (w' : World) : Prop := ∃ A c, e = .returned (.slice A 4 c) ∧ Bs w' w'.heap.size A (putL n 4) ∧ Below w.heap.size w w'
theorem four_any (n : Nat) (w : World) (h : n < 4294967296) : Calls Try.prog 44 #[.int .u32 n] w (FourOut w n) := by
  have hc := four_cells n h
  have Hc := Lib.hid hc
  clear hc
  go_enter Try.func44, Try.ntmps44
  go_wp2
  go_ret
  exact ⟨_, _, rfl, (Bs.lit Hc.out).more (by simp), ba _ _⟩

theorem byte_nat (m : Nat) (h2 : m < 6) : (m : Int) = ((UInt8.ofNat m).toNat : Int) := by simp; omega
def IsBs (w : World) (v : Value) (L : List UInt8) (n : Nat) : Prop := ∃ A c, v = .slice A n c ∧ Bs w w.heap.size A L
def IsOwn (w : World) (s : Nat) (v : Value) (L : List UInt8) (n : Nat) : Prop := ∃ A c, v = .slice A n c ∧ Own w s 5 A c L
def IsRaw (w : World) (s : Nat) (v : Value) (L : List UInt8) (n : Nat) : Prop := ∃ g, v = .slice (some ⟨g, 0, none⟩) n n ∧ s ≤ g ∧ Raw w g 5 L
theorem IsBs.bt {w w' : World} {v : Value} {L : List UInt8} {n : Nat} (h : IsBs w v L n) (hb : Below w.heap.size w w') : IsBs w' v L n := by obtain ⟨A, c, e, h⟩ := h; exact ⟨A, c, e, h.bt hb⟩
theorem IsOwn.bt {w w' : World} {s : Nat} {v : Value} {L : List UInt8} {n : Nat} (h : IsOwn w s v L n) (hb : Below w.heap.size w w') : IsOwn w' s v L n := by obtain ⟨A, c, e, h⟩ := h; exact ⟨A, c, e, h.below hb (Nat.le_refl _)⟩
theorem IsRaw.bt {w w' : World} {s : Nat} {v : Value} {L : List UInt8} {n : Nat} (h : IsRaw w s v L n) (hb : Below w.heap.size w w') : IsRaw w' s v L n := by obtain ⟨g, e, hg, h⟩ := h; exact ⟨g, e, hg, h.below hb h.lt⟩
theorem below_drew (w : World) : Below w.heap.size w w.drew := (Below.refl _ _).drew
theorem raw_new (w : World) (x : UInt8) (n : Int) (h : n = (x.toNat : Int)) : Raw (w.alloc (.cells #[.int .u8 n] 5)) w.heap.size 5 [x] := by
  subst h; exact heap_alloc_new w _
theorem wrL_len (m : Nat) (a q : Nat) : (UInt8.ofNat m :: (putL a 4 ++ putL q 4)).length = 9 := by simp [putL_length]
def VLw (s : Nat) (m : Nat) (a : Nat) (i : Nat) (v : Value) (w : World) : Prop :=
  match i with
  | 0 => v = .pointer (some ⟨s, 0, none⟩)
  | 1 => v = .int .i64 m
  | 2 => v = .int .u8 m
  | 3 => IsRaw w s v [UInt8.ofNat m] 1
  | 4 => v = .pointer (some ⟨s, 1, none⟩)
  | 5 => v = .int .u32 a
  | 6 => IsBs w v (putL a 4) 4
  | 7 => IsOwn w s v (UInt8.ofNat m :: putL a 4) 5
  | 8 => IsOwn w s v (UInt8.ofNat m :: putL a 4) 5
  | _ => True
def ELw (k : Nat) (u u' : World) : Prop := match k with
  | 7 => True
  | _ => Below u.heap.size u u'
def deadLw (i : Nat) : Option Nat := match i with
  | 3 => some 7
  | 6 => some 7
  | _ => none
theorem VLw.mono {s m a : Nat} {k i : Nat} {v : Value} {u u' : World} (he : ELw k u u') (hik : i ≠ k) (h8 : i = 8 ∧ k = 7 → False) (hd : deadLw i ≠ some k) (hv : VLw s m a i v u) : VLw s m a i v u' := by
  unfold ELw at he
  split at he
  · unfold VLw at hv ⊢
    split at hv <;> first | exact hv | exact absurd rfl hik | exact absurd rfl hd | exact absurd ⟨rfl, rfl⟩ h8
  · unfold VLw at hv ⊢
    split at hv <;> first | exact hv | exact IsRaw.bt hv he | exact IsBs.bt hv he | exact IsOwn.bt hv he
theorem ltf {x : Bool} {P : Prop} (h : x = false) (h' : x = true) : P := by rw [h] at h'; cases h'

set_option maxHeartbeats 1000000 in
theorem write_any (n : Int) (a q : Nat) (w : World) (ha : a < 4294967296) (hq : q < 4294967296) : Calls Try.prog 33 #[lv n a q] w (OutB w (wrL n a q)) := by
  have hr := fun w => right_any n a q w
  unfold lv at hr ⊢
  obtain ⟨i0, hi, hz0, hz1, hz2⟩ := info_parts Try.infoU8
  rcases hk : okL n q with _ | _
  · rw [hk] at hr
    rw [show wrL n a q = ([], 50) by unfold wrL; rw [hk]; rfl]
    clear hk
    go_enter Try.func33, Try.ntmps33
    go_wp2_with fail
    refine (hr _).mono ?_
    rintro e w1 ⟨rfl, hb1⟩
    go_wp2
    go_ret2
    exact ⟨none, 0, rfl, Own.nil, bt (ba _ _) hb1⟩
  · rw [hk] at hr
    rw [show wrL n a q = (UInt8.ofNat n.toNat :: (putL a 4 ++ putL q 4), 0) by unfold wrL; rw [if_pos hk]]
    obtain ⟨hu1, hu2, hq0⟩ := (okL_iff n q).1 hk
    obtain ⟨m, rfl⟩ := Int.eq_ofNat_of_zero_le hu1
    have hm6 : m < 6 := by omega
    rw [Int.toNat_natCast]
    clear hk hu1 hu2
    go_enter Try.func33, Try.ntmps33
    go_wp2_with fail
    refine (hr _).mono ?_
    rintro e w1 ⟨rfl, hb1⟩
    have k0 : Blk w1 w.heap.size 24 #[.int .i64 (m : Nat), .int .u32 a, .int .u32 q] := (Blk.new w 24 #[.int .i64 (m : Nat), .int .u32 a, .int .u32 q]).below hb1 (by simp)
    have hbw := bt (ba w _) hb1
    go_wp2_with fail
    refine wp_region_invT (F := ?FL) (V := VLw w.heap.size m a) (dead := deadLw) (T := fun _ _ => True) (C := fun u => Blk u w.heap.size 24 #[.int .i64 (m : Nat), .int .u32 a, .int .u32 q] ∧ Below w.heap.size w u) (E := ELw) (by kernel_rfl) (by kernel_rfl) (by kernel_rfl) (fun x => ?hFL) ?hmonoL ?hTmL ?hTL ?hCL ?stepL ?finL
    case hFL => simp only [mkA, Act.put, List.setIfInBounds_toArray, List.set_cons_succ, List.set_cons_zero, Nat.reduceAdd, Nat.zero_add]; first | with_reducible rfl | rfl
    case hmonoL => exact fun k i v u u' he hik hwt hdd hv => VLw.mono he hik (fun h => ltf hwt (by rw [h.1, h.2]; kernel_rfl)) hdd hv
    case hTmL => exact fun _ _ _ _ _ _ _ _ => trivial
    case hTL => exact fun j => trivial
    case hCL => exact ⟨k0, bt hbw (below_drew _)⟩
    case stepL =>
      refine AllOps.cons (fun x u hC hT hp K hK => ?_) ?_
      · clear hp hT
        go_simp
        refine hK _ _ _ hC (Below.refl _ _) (by exact rfl) ?_
        first | (simp only [Act.put, List.setIfInBounds_toArray, List.set_cons_succ, List.set_cons_zero]; done) | simp [Act.put]
      refine AllOps.cons (fun x u hC hT hp K hK => ?_) ?_
      · simp [KnownTill, Region.binds, VLw, deadLw] at hp
        clear hT
        have c0 := hC.1.cell 0
        have c1 := hC.1.cell 1
        simp only [List.getElem?_toArray, List.getElem?_cons_zero, List.getElem?_cons_succ] at c0 c1
        go_simp
        refine hK _ _ _ hC (Below.refl _ _) (by exact rfl) ?_
        first | (simp only [Act.put, List.setIfInBounds_toArray, List.set_cons_succ, List.set_cons_zero, hp]; done) | simp [Act.put, hp]
      refine AllOps.cons (fun x u hC hT hp K hK => ?_) ?_
      · simp [KnownTill, Region.binds, VLw, deadLw] at hp
        clear hT
        have hwm : IntKind.u8.wrap (m : Int) = (m : Int) := IntWalk.u8_in _ (by omega)
        go_simp
        refine hK _ _ _ hC (Below.refl _ _) (by exact rfl) ?_
        first | (simp only [Act.put, List.setIfInBounds_toArray, List.set_cons_succ, List.set_cons_zero, hp]; done) | simp [Act.put, hp]
      refine AllOps.cons (fun x u hC hT hp K hK => ?_) ?_
      · simp [KnownTill, Region.binds, VLw, deadLw] at hp
        clear hT
        go_simp
        refine hK (.slice (some ⟨u.heap.size, 0, none⟩) 1 1) _ (u.alloc (.cells #[.int .u8 (m : Int)] 5)) ⟨hC.1.alloc _, bt hC.2 (ba _ _)⟩ (ba _ _) ⟨_, rfl, hC.2.size, raw_new _ _ _ (byte_nat m hm6)⟩ ?_
        first | (simp only [Act.put, List.setIfInBounds_toArray, List.set_cons_succ, List.set_cons_zero, hp]; done) | simp [Act.put, hp]
      refine AllOps.cons (fun x u hC hT hp K hK => ?_) ?_
      · clear hp hT
        go_simp
        refine hK _ _ _ hC (Below.refl _ _) (by exact rfl) ?_
        first | (simp only [Act.put, List.setIfInBounds_toArray, List.set_cons_succ, List.set_cons_zero]; done) | simp [Act.put]
      refine AllOps.cons (fun x u hC hT hp K hK => ?_) ?_
      · simp [KnownTill, Region.binds, VLw, deadLw] at hp
        clear hT
        have c0 := hC.1.cell 0
        have c1 := hC.1.cell 1
        simp only [List.getElem?_toArray, List.getElem?_cons_zero, List.getElem?_cons_succ] at c0 c1
        go_simp
        refine hK _ _ _ hC (Below.refl _ _) (by exact rfl) ?_
        first | (simp only [Act.put, List.setIfInBounds_toArray, List.set_cons_succ, List.set_cons_zero, hp]; done) | simp [Act.put, hp]
      refine AllOps.cons (fun x u hC hT hp K hK => ?_) ?_
      · simp [KnownTill, Region.binds, VLw, deadLw] at hp
        clear hT
        go_simp
        refine (four_any a _ ha).mono ?_
        rintro e wA ⟨A6, c6, rfl, hb6, hbA⟩
        refine hK _ _ _ ⟨hC.1.below hbA hC.1.lt, bt hC.2 hbA⟩ hbA (by exact ⟨A6, c6, rfl, hb6⟩) ?_
        first | (simp only [Act.put, List.setIfInBounds_toArray, List.set_cons_succ, List.set_cons_zero, hp]; done) | simp [Act.put, hp]
      refine AllOps.cons (fun x u hC hT hp K hK => ?_) ?_
      · simp [KnownTill, Region.binds, VLw, deadLw] at hp
        clear hT
        have hp0 := hp
        obtain ⟨⟨g, h3, hg, hr⟩, ⟨A6, c6, h6, hb6⟩⟩ := hp0
        have hgn : w.heap.size ≠ g := hC.1.ne_raw hr (by decide)
        refine step_append_bs u rfl (.tmp 11) (.tmp 14) 27 rfl w.heap.size 5 i0 _ Try.underlying27 hi hz0 hz1 hz2 rfl (some ⟨g, 0, none⟩) 1 [UInt8.ofNat m] 1 (by simp [Act.eval, h3]) rfl (hr.own hg (by simp [maxLen])) _ A6 c6 (putL a 4) 4 (by simp [Act.eval, h6]) (by rw [putL_length]) hb6 (by rw [putL_length]; simp) hC.2.size ?_
        intro A2 c2 u2 own2 hg2 hblk2
        refine hK (.slice A2 5 c2) _ _ ⟨hC.1.kept hg2 (by simp [blk]; exact hgn), hC.2.grown hg2 hC.2.size (fun k e => by simp only [blk, Option.map_some, Option.some.injEq] at e; omega)⟩ trivial ⟨A2, c2, rfl, own2⟩ ?_
        first | (simp only [Act.put, List.setIfInBounds_toArray, List.set_cons_succ, List.set_cons_zero, hp, h3, h6]; done) | simp [Act.put, hp, h3, h6]
      refine AllOps.cons (fun x u hC hT hp K hK => ?_) ?_
      · simp [KnownTill, Region.binds, VLw, deadLw] at hp
        clear hT
        obtain ⟨⟨A2, c2, h7, own2⟩, hp⟩ := hp
        go_simp
        refine hK _ _ _ hC (Below.refl _ _) (by exact ⟨A2, c2, rfl, own2⟩) ?_
        first | (simp only [Act.put, List.setIfInBounds_toArray, List.set_cons_succ, List.set_cons_zero, hp, h7]; done) | simp [Act.put, hp, h7]
      exact AllOps.nil
    case finL =>
      intro x u hC hV
      obtain ⟨A4, c4, h4, own4⟩ : IsOwn u w.heap.size (x 8) (UInt8.ofNat m :: putL a 4) 5 := hV 8 (by decide) rfl
      rw [h4]
      clear hV h4
      have d2 := hC.1.cell 2
      simp only [List.getElem?_toArray, List.getElem?_cons_zero, List.getElem?_cons_succ] at d2
      have hC2 := hC.2
      clear hC
      go_wp2_with fail
      refine (four_any q _ hq).mono ?_
      rintro e w2 ⟨A5, c5, rfl, hb5, hbel5⟩
      have own5 := own4.below hbel5 (Nat.le_refl _)
      have hC3 := bt hC2 hbel5
      have HL : Hid (5 = (UInt8.ofNat m :: putL a 4).length) := Lib.hid (by simp [putL_length])
      have HL2 : Hid (4 = (putL q 4).length) := Lib.hid (by simp [putL_length])
      clear own4
      go_wp2_with (at_builtin; refine wpList_append_bs _ rfl _ _ 27 rfl w.heap.size 5 i0 _ Try.underlying27 hi hz0 hz1 hz2 rfl A4 c4 (UInt8.ofNat m :: putL a 4) 5 rfl HL.out own5 _ A5 c5 (putL q 4) 4 rfl HL2.out hb5 (by rw [← HL.out, ← HL2.out]; omega) hC3.size ?_; intro A6 c6 w6 own6 hg6 _)
      go_ret2
      exact ⟨A6, c6, by rw [wrL_len]; rfl, by simpa using own6, hC3.grown hg6 hC3.size (fun k e => (own5.lt _ e).1)⟩

theorem putR_byte (m : Nat) (h : m < 6) : putR m 1 = ([UInt8.ofNat m], 0) := by
  have e : m / 256 ^ (1 : Int).toNat = 0 := by simp; omega
  unfold putR
  rw [if_pos (by omega), if_pos e]
  simp [putL]
  rw [Nat.mod_eq_of_lt (by omega)]
theorem putR_four (q : Nat) (h : q < 4294967296) : putR q 4 = (putL q 4, 0) := by
  have e : q / 256 ^ (4 : Int).toNat = 0 := by
    have : (256 : Nat) ^ (4 : Int).toNat = 4294967296 := by decide
    rw [this]; omega
  unfold putR
  rw [if_pos (by omega), if_pos e]; rfl
def PutOut (w : World) (L : List UInt8) (n : Nat) (e : Ending) (w' : World) : Prop := ∃ A c, e = .returned (.tuple #[.slice A n c, .int .i64 0]) ∧ Own w' w.heap.size 5 A c L ∧ Below w.heap.size w w'
theorem refput_byte (m : Nat) (w : World) (h : m < 6) : Calls Try.prog 21 #[.int .u64 m, .int .i64 1] w (PutOut w [UInt8.ofNat m] 1) := by
  have := refput_any m 1 w (by omega)
  rw [putR_byte m h] at this
  exact this.mono fun e w' ⟨A, c, h1, h2, h3⟩ => ⟨A, c, h1, h2, h3⟩
theorem refput_four (q : Nat) (w : World) (h : q < 4294967296) : Calls Try.prog 21 #[.int .u64 q, .int .i64 4] w (PutOut w (putL q 4) 4) := by
  have := refput_any q 4 w (by omega)
  rw [putR_four q h] at this
  exact this.mono fun e w' ⟨A, c, h1, h2, h3⟩ => ⟨A, c, by rw [h1]; simp only [putL_length], h2, h3⟩

set_option maxHeartbeats 1000000 in
theorem refwrite_any (n : Int) (a q : Nat) (w : World) (ha : a < 4294967296) (hq : q < 4294967296) : Calls Try.prog 20 #[lv n a q] w (OutB w (wrL n a q)) := by
  have hr := fun w => refright_any n a q w
  unfold lv at hr ⊢
  obtain ⟨i0, hi, hz0, hz1, hz2⟩ := info_parts Try.infoU8
  rcases hk : okL n q with _ | _
  · rw [hk] at hr
    rw [show wrL n a q = ([], 50) by unfold wrL; rw [hk]; rfl]
    clear hk
    go_enter Try.func20, Try.ntmps20
    go_wp2_with fail
    refine (hr _).mono ?_
    rintro e w1 ⟨rfl, hb1⟩
    go_wp2
    go_ret2
    exact ⟨none, 0, rfl, Own.nil, bt (ba _ _) hb1⟩
  · rw [hk] at hr
    rw [show wrL n a q = (UInt8.ofNat n.toNat :: (putL a 4 ++ putL q 4), 0) by unfold wrL; rw [if_pos hk]]
    obtain ⟨hu1, hu2, hq0⟩ := (okL_iff n q).1 hk
    obtain ⟨m, rfl⟩ := Int.eq_ofNat_of_zero_le hu1
    have hm6 : m < 6 := by omega
    rw [Int.toNat_natCast]
    clear hk hu1 hu2
    go_enter Try.func20, Try.ntmps20
    go_wp2_with fail
    refine (hr _).mono ?_
    rintro e w1 ⟨rfl, hb1⟩
    have k0 : Blk w1 w.heap.size 24 #[.int .i64 (m : Nat), .int .u32 a, .int .u32 q] := (Blk.new w 24 #[.int .i64 (m : Nat), .int .u32 a, .int .u32 q]).below hb1 (by simp)
    have hbw := bt (ba w _) hb1
    have c0 := k0.cell 0
    simp only [List.getElem?_toArray, List.getElem?_cons_zero, List.getElem?_cons_succ] at c0
    have hwm : IntKind.u64.wrap (m : Int) = (m : Int) := IntWalk.u64_in _ (by omega)
    go_wp2_with fail
    refine (refput_byte m _ hm6).mono ?_
    rintro e w2 ⟨A2, c2, rfl, own2, hb2⟩
    have k2 := k0.below hb2 k0.lt
    have c1 := k2.cell 1
    simp only [List.getElem?_toArray, List.getElem?_cons_zero, List.getElem?_cons_succ] at c1
    clear c0
    go_wp2_with fail
    refine (refput_four a _ ha).mono ?_
    rintro e w3 ⟨A3, c3, rfl, own3, hb3⟩
    have k3 := k2.below hb3 k2.lt
    have c2 := k3.cell 2
    simp only [List.getElem?_toArray, List.getElem?_cons_zero, List.getElem?_cons_succ] at c2
    clear c1
    go_wp2_with fail
    refine (refput_four q _ hq).mono ?_
    rintro e w4 ⟨A4, c4, rfl, own4, hb4⟩
    clear c2
    have o2 := (own2.below hb3 (Nat.le_refl _)).below hb4 (Nat.le_refl _)
    have o3 := own3.below hb4 (Nat.le_refl _)
    have hs2 : w1.heap.size ≤ w4.heap.size := Nat.le_trans hb2.size (Nat.le_trans hb3.size hb4.size)
    have hbf := bt hbw (bt hb2 (bt hb3 hb4))
    have HL : Hid (4 = (putL a 4).length) := Lib.hid (by simp [putL_length])
    have HL2 : Hid (4 = (putL q 4).length) := Lib.hid (by simp [putL_length])
    have HL3 : Hid (5 = ([UInt8.ofNat m] ++ putL a 4).length) := Lib.hid (by simp [putL_length])
    have l1 := own2.lt
    have l4 := own4.lt
    have Hs3 := hb3.size
    have Hs4 := hb4.size
    go_wp2_with (first
      | (at_builtin; refine wpList_append_bs _ rfl _ _ 27 rfl w1.heap.size 5 i0 _ Try.underlying27 hi hz0 hz1 hz2 rfl A2 c2 [UInt8.ofNat m] 1 rfl rfl o2 _ A3 c3 (putL a 4) 4 rfl HL.out o3.bs (by rw [← HL.out]; simp) hs2 ?_; intro A6 c6 w6 own6 hg6 hblk6; have o4 := own4.kept hg6 (by rcases hA : blk A4 with _ | k; exact .inl rfl; refine .inr (fun e => ?_); have h1 := l4 k hA; have h2 := l1 k e.symm; omega); have hs6 := Nat.le_trans hs2 hg6.size)
      | (at_builtin; refine wpList_append_bs _ rfl _ _ 27 rfl w1.heap.size 5 i0 _ Try.underlying27 hi hz0 hz1 hz2 rfl A6 c6 ([UInt8.ofNat m] ++ putL a 4) 5 rfl HL3.out own6 _ A4 c4 (putL q 4) 4 rfl HL2.out o4.bs (by rw [← HL3.out, ← HL2.out]; omega) hs6 ?_; intro A7 c7 w7 own7 hg7 hblk7))
    go_ret2
    exact ⟨A7, c7, by rw [wrL_len]; rfl, by simpa using own7.base_le hbw.size, (hbf.grown hg6 (by have := hbw.size; omega) (fun k e => by have := l1 k e; have := hbw.size; omega)).grown hg7 (by have := hbw.size; omega) (fun k e => by have := (own6.lt k e).1; have := hbw.size; omega)⟩
end Go.Proofs.Yteniponkakaaaaa
