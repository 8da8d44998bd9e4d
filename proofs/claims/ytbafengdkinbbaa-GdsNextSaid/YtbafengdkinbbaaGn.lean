/- The law on the variable at the front. -/
import Derived.Test.YtbafengdkinbbaaGf
import Derived.Test.YtbafengdkinbbaaGm
import Derived.Test.YtbafengdkinbbaaRn
import Derived.Test.YtbafengdkinbbaaCopy
import Derived.Test.YtbafengdkinbbaaOpenG
import Derived.Deep.RegionHeld
namespace Go.Proofs.Ytbafengdkinbbaa
open Go.RowKit
set_option linter.unusedVariables false
set_option linter.unusedSimpArgs false

theorem own_flip {w : World} {base : Nat} {e : TypeId} {g c : Nat} {l : List UInt8} (h : Own w base e (some ⟨g, 0, none⟩) c l) (j : Nat) (n : Int) (hn : 0 ≤ n ∧ n < 256) :
    ∃ L, L.length = l.length ∧ Own (w.setCell ⟨g, j, none⟩ (.int .u8 n)) base e (some ⟨g, 0, none⟩) c L := by
  refine ⟨l.set j (UInt8.ofNat n.toNat), by simp, ?_⟩
  have := (h.stored j (UInt8.ofNat n.toNat)).1
  have e1 : ((UInt8.ofNat n.toNat).toNat : Int) = n := by simp only [UInt8.toNat_ofNat']; omega
  rw [e1] at this
  exact this
theorem xor_flip (x : UInt8) : 0 ≤ bits .xor .u8 (x.toNat : Int) 255 ∧ bits .xor .u8 (x.toNat : Int) 255 < 256 := by
  have h := u8_xor_nat x.toNat 255 x.toNat_lt (by omega)
  rw [show (255 : Int) = ((255 : Nat) : Int) from rfl, h]
  have : x.toNat ^^^ 255 < 2 ^ 8 := Nat.xor_lt_two_pow x.toNat_lt (by omega)
  omega
theorem NewBs.far {w : World} {base : Nat} {A : Option Addr} {l : List UInt8} (h : NewBs w base A l) {p : Addr} (hp : p.block < base) (u : Value) : NewBs (w.setCell p u) base A l := fun hn => by
  obtain ⟨b, o, e, h1, h2, h3⟩ := h hn
  refine ⟨b, o, e, h1, by simpa using h2, fun i hi => ?_⟩
  rw [World.cell?_setCell_far _ _ _ _ (by show p.block ≠ b; omega)]
  exact h3 i hi
theorem NewBs.bel {w w' : World} {base : Nat} {A : Option Addr} {l : List UInt8} (h : NewBs w base A l) (hb : Below w.heap.size w w') : NewBs w' base A l := fun hn => by
  obtain ⟨b, o, e, h1, h2, h3⟩ := h hn
  obtain ⟨b', o', e', h2', h3'⟩ := h.bs.bt hb hn
  rw [e] at e'
  injection e' with e'
  injection e' with e1 e2
  subst e1 e2
  exact ⟨b, o, e, h1, h2', h3'⟩
def IsOne (w : World) (v : Value) (id : Int) (data : List UInt8) : Prop := ∃ A c, v = .slice A 1 c ∧ VarsAt w w.heap.size A [(id, data)]
theorem IsOne.bt {w w' : World} {v : Value} {id : Int} {data : List UInt8} (h : IsOne w v id data) (hb : Below w.heap.size w w') : IsOne w' v id data := by obtain ⟨A, c, e, h⟩ := h; exact ⟨A, c, e, h.bt hb⟩
def VGn (id : Int) (data : List UInt8) (dl : Nat) (A2 A4 : Option Addr) (c2 c4 : Nat) (n e : Int) (i : Nat) (v : Value) (w : World) : Prop :=
  match i with
  | 0 => v = .bool true
  | 1 => v = .bool true
  | 2 => v = .agg #[.int .i64 id, .slice A2 dl c2]
  | 3 => IsOne w v id data
  | 4 => v = .agg #[.int .i64 id, .slice A4 dl c4]
  | 5 => IsOne w v id data
  | 6 => v = .bool true
  | 7 => v = .bool true
  | 8 => v = .bool true
  | 9 => v = .int .i64 n
  | 10 => v = .int .i64 n
  | 11 => v = .bool true
  | 12 => v = .bool true
  | 13 => v = .bool true
  | 14 => v = .int .i64 e
  | 15 => v = .int .i64 e
  | 16 => v = .bool true
  | 17 => v = .bool true
  | 18 => v = .bool true
  | _ => True
theorem VGn.mono {id : Int} {data : List UInt8} {dl : Nat} {A2 A4 : Option Addr} {c2 c4 : Nat} {n e : Int} {i : Nat} {v : Value} {w w' : World} (hb : Below w.heap.size w w') (hv : VGn id data dl A2 A4 c2 c4 n e i v w) : VGn id data dl A2 A4 c2 c4 n e i v w' := by
  unfold VGn at hv ⊢; split at hv <;> first | exact hv | exact IsOne.bt hv hb

set_option maxRecDepth 100000 in
set_option maxHeartbeats 2000000 in
theorem gdsNext_walk (A : Option Addr) (l : List UInt8) (c : Nat) (w : World) (hb : Bs w w.heap.size A l) (hle : l.length ≤ c) (hc : c ≤ 9223372036854775807) :
    Calls Try.prog 4 #[.slice A l.length c] w fun e w' => e = .returned (.bool true) ∧ Below w.heap.size w w' := by
  by_cases hbig : 5000 < l.length
  · go_enter Try.func4, Try.ntmps4
    go_wp2_with fail
    refine (alive_any _).mono ?_
    rintro e wz ⟨rfl, hbz⟩
    go_wp2
    go_ret
    exact ⟨rfl, hbz⟩
  · have hn1 := fun A c (w : World) h1 h2 h3 => next_any A l c w h1 h2 h3
    have hn2 := fun (w : World) h3 => refnext_any A l c w hle hc (by omega) h3
    have hcp := copy_any A l c w (by omega) hb
    obtain ⟨⟨id, data, n, e0⟩, hr⟩ : ∃ r, r = nextR l := ⟨_, rfl⟩
    have hsome := nextR_some l
    have herr := nextR_err l
    rw [← hr] at hn1 hn2 hsome herr
    simp only at hsome herr
    have hdl : data.length ≤ 9223372036854775807 := by
      by_cases h0 : e0 = 0
      · obtain ⟨_, s2, _⟩ := hsome h0; omega
      · have := herr h0; simp_all
    obtain ⟨N, hN⟩ : ∃ N, N = l.length := ⟨_, rfl⟩
    rw [← hN] at hn1 hn2 hcp hle hbig ⊢
    have Hn1 := Lib.hid hn1
    have Hn2 := Lib.hid hn2
    have HN := Lib.hid hN
    clear hr hsome herr hn1 hn2 hN
    go_enter Try.func4, Try.ntmps4
    go_wp2_with fail
    refine hcp.mono ?_
    clear hcp
    rintro e w1 ⟨A1, c1, rfl, own1, hb1⟩
    have hc1 : N ≤ c1 ∧ c1 ≤ 9223372036854775807 := by
      rw [HN.out]
      rcases own1.2 with ⟨h1, h2⟩ | ⟨g, cap, cur, h1, _, _, hn, hm, _⟩
      · simp only [Value.slice.injEq] at h1
        omega
      · simp only [Value.slice.injEq] at h1
        unfold maxLen at hm
        omega
    have hg1 : ∀ k, blk A1 = some k → k < w1.heap.size := fun k e => (own1.lt k e).2
    go_wp2_with fail
    refine (Hn1.out A1 c1 w1 hc1.1 hc1.2 own1.bs).mono ?_
    rintro e w2 ⟨A2, c2, rfl, hv2, hb2, _, _⟩
    simp only at hv2
    have own2 := (own1.below hb2 (Nat.le_refl _)).alloc (.cells #[.int .i64 id, .slice A2 data.length c2] 24)
    have kv2 := Blk.new w2 24 #[.int .i64 id, .slice A2 data.length c2]
    have hv3 := hv2.bel (ba w2 (.cells #[.int .i64 id, .slice A2 data.length c2] 24))
    have hbw2 := bt hb1 (bt hb2 (ba w2 (.cells #[.int .i64 id, .slice A2 data.length c2] 24)))
    have hs12 : w1.heap.size ≤ w2.heap.size := hb2.size
    clear own1 hb1 hv2 hb2 hc1
    go_wp2_with fail
    generalize hW3 : w2.alloc (.cells #[.int .i64 id, .slice A2 data.length c2] 24) = w3 at *
    clear hW3
    go_loopw [7] (fun i wr => ∃ j : Nat, j ≤ N ∧ i = .int .i64 j ∧ (∃ L, L.length = N ∧ Own wr w.heap.size 5 A1 c1 L) ∧ Below w.heap.size w wr ∧ Blk wr w2.heap.size 24 #[.int .i64 id, .slice A2 data.length c2] ∧ NewBs wr w1.heap.size A2 data) (fun i _ => N - (intOf i).toNat)
    case atStart => exact ⟨0, Nat.zero_le _, rfl, ⟨l, HN.out.symm, own2⟩, hbw2, kv2, hv3⟩
    case round =>
      clear own2 kv2 hv3 hbw2
      obtain ⟨j, hj, rfl, ⟨L, hL, hO⟩, hB, hK, hNw⟩ := hrel
      by_cases hjl : j < N
      · obtain ⟨g, rfl, hg, _⟩ := hO.form (by omega)
        have hgl := hg1 g rfl
        have hcell := hO.cell j (by omega)
        have hfr := hO.frozen j
        have hx := xor_flip (L[j]'(by omega))
        obtain ⟨x, hxe⟩ : ∃ x, x = L[j]'(by omega) := ⟨_, rfl⟩
        rw [← hxe] at hcell hx
        have HL := Lib.hid hL
        clear hxe hL
        go_wp2
        go_roundw
        case rel =>
          obtain ⟨L', hL', hO'⟩ := own_flip hO j _ hx
          exact ⟨j + 1, by omega, by go_num, ⟨L', by rw [hL', HL.out], hO'⟩, hB.setCell hg _, hK.far (by show w2.heap.size ≠ g; omega) _, hNw.far (by show g < w1.heap.size; omega) _⟩
        case measure => simp [intOf]; omega
      · have Hno := Lib.hid hO
        clear hO hg1
        go_wp2_with fail
        refine (Hn2.out _ (hb.bt hB)).mono ?_
        rintro e w4 ⟨A4, c4, rfl, hv4, hb4, _, _⟩
        simp only at hv4
        have hb45 := bt hb4 (ba w4 (.cells #[.int .i64 id, .slice A4 data.length c4] 24))
        have k1 := (hK.below hb4 hK.lt).alloc (.cells #[.int .i64 id, .slice A4 data.length c4] 24)
        have k2 := Blk.new w4 24 #[.int .i64 id, .slice A4 data.length c4]
        have s1 := hNw.bs.bt hb45
        have s2 := hv4.bs.bt (ba w4 (.cells #[.int .i64 id, .slice A4 data.length c4] 24))
        have hbe := bt hB hb45
        clear hNw hv4 hb4 hb45 hK hB
        go_wp2_with fail
        generalize hW5 : w4.alloc (.cells #[.int .i64 id, .slice A4 data.length c4] 24) = w5 at *
        clear hW5
        refine wp_region_invT (F := ?FG) (V := VGn (id : Int) data data.length A2 A4 c2 c4 (n : Int) e0) (dead := fun _ => none) (T := fun _ _ => True) (C := fun u => Below w5.heap.size w5 u) (E := fun _ u u' => Below u.heap.size u u') (by kernel_rfl) (by kernel_rfl) (by kernel_rfl) (fun x => ?hFG) ?hmonoG ?hTmG ?hTG ?hCG ?stepG ?finG
        case hFG => simp only [mkA, Act.put, List.setIfInBounds_toArray, List.set_cons_succ, List.set_cons_zero, Nat.reduceAdd, Nat.zero_add]; first | with_reducible rfl | rfl
        case hmonoG => exact fun k i v u u' he hik hwt hdd hv => VGn.mono he hv
        case hTmG => exact fun _ _ _ _ _ _ _ _ => trivial
        case hTG => exact fun j => trivial
        case hCG => exact gr_drew _
        case stepG =>
          refine AllOps.cons (fun x u hC hT hp K hK => ?_) ?_
          · clear hp hT
            go_simp
            refine (alive_any _).mono ?_
            rintro e wA ⟨rfl, hbA⟩
            refine hK _ _ _ (bt hC hbA) hbA (by exact rfl) ?_
            first | (simp only [Act.put, List.setIfInBounds_toArray, List.set_cons_succ, List.set_cons_zero]; done) | simp [Act.put]
          refine AllOps.cons (fun x u hC hT hp K hK => ?_) ?_
          · simp [KnownTill, Region.binds, VGn] at hp
            clear hT
            go_simp
            refine hK _ _ _ hC (Below.refl _ _) (by exact rfl) ?_
            first | (simp only [Act.put, List.setIfInBounds_toArray, List.set_cons_succ, List.set_cons_zero, hp]; done) | simp [Act.put, hp]
          refine AllOps.cons (fun x u hC hT hp K hK => ?_) ?_
          · simp [KnownTill, Region.binds, VGn] at hp
            clear hT
            have d0 := (k1.below hC k1.lt).cell 0
            have d1 := (k1.below hC k1.lt).cell 1
            simp only [List.getElem?_toArray, List.getElem?_cons_zero, List.getElem?_cons_succ] at d0 d1
            go_simp
            refine hK _ _ _ hC (Below.refl _ _) (by exact rfl) ?_
            first | (simp only [Act.put, List.setIfInBounds_toArray, List.set_cons_succ, List.set_cons_zero, hp]; done) | simp [Act.put, hp]
          refine AllOps.cons (fun x u hC hT hp K hK => ?_) ?_
          · simp [KnownTill, Region.binds, VGn] at hp
            clear hT
            have hone := fun e w' (h : OneOut u (id : Int) A2 data.length c2 e w') => h.vars (s1.bt hC)
            go_simp
            refine ((one_any (id : Int) A2 data.length c2 u).mono hone).mono ?_
            rintro e wA ⟨A', c', rfl, hv, hbA⟩
            refine hK _ _ _ (bt hC hbA) hbA ⟨A', c', rfl, hv⟩ ?_
            first | (simp only [Act.put, List.setIfInBounds_toArray, List.set_cons_succ, List.set_cons_zero, hp]; done) | simp [Act.put, hp]
          refine AllOps.cons (fun x u hC hT hp K hK => ?_) ?_
          · simp [KnownTill, Region.binds, VGn] at hp
            clear hT
            have d0 := (k2.below hC k2.lt).cell 0
            have d1 := (k2.below hC k2.lt).cell 1
            simp only [List.getElem?_toArray, List.getElem?_cons_zero, List.getElem?_cons_succ] at d0 d1
            go_simp
            refine hK _ _ _ hC (Below.refl _ _) (by exact rfl) ?_
            first | (simp only [Act.put, List.setIfInBounds_toArray, List.set_cons_succ, List.set_cons_zero, hp]; done) | simp [Act.put, hp]
          refine AllOps.cons (fun x u hC hT hp K hK => ?_) ?_
          · simp [KnownTill, Region.binds, VGn] at hp
            clear hT
            have hone := fun e w' (h : OneOut u (id : Int) A4 data.length c4 e w') => h.vars (s2.bt hC)
            go_simp
            refine ((one_any (id : Int) A4 data.length c4 u).mono hone).mono ?_
            rintro e wA ⟨A', c', rfl, hv, hbA⟩
            refine hK _ _ _ (bt hC hbA) hbA ⟨A', c', rfl, hv⟩ ?_
            first | (simp only [Act.put, List.setIfInBounds_toArray, List.set_cons_succ, List.set_cons_zero, hp]; done) | simp [Act.put, hp]
          refine AllOps.cons (fun x u hC hT hp K hK => ?_) ?_
          · simp [KnownTill, Region.binds, VGn] at hp
            clear hT
            have hp0 := hp
            obtain ⟨⟨X1, y1, hx1, hv1⟩, ⟨X2, y2, hx2, hv2⟩⟩ : IsOne u (x 3) (id : Int) data ∧ IsOne u (x 5) (id : Int) data := by first | exact ⟨hp0.1, hp0.2.1⟩ | exact ⟨hp0.1, hp0.2⟩ | exact ⟨hp0.2.1, hp0.2.2⟩ | exact ⟨hp0.2.1, hp0.2.2.1⟩
            go_simp
            refine (same_yes X1 X2 [((id : Int), data)] y1 y2 u (by simp) (by simp; omega) hv1 hv2).mono ?_
            rintro e wA ⟨rfl, nq, rfl⟩
            refine hK _ _ _ (bt hC (bl_drewN _ nq)) (bl_drewN _ nq) rfl ?_
            first | (simp only [Act.put, List.setIfInBounds_toArray, List.set_cons_succ, List.set_cons_zero, hp, hx1, hx2]; done) | simp [Act.put, hp, hx1, hx2]
          refine AllOps.cons (fun x u hC hT hp K hK => ?_) ?_
          · simp [KnownTill, Region.binds, VGn] at hp
            clear hT
            go_simp
            refine hK _ _ _ hC (Below.refl _ _) (by exact rfl) ?_
            first | (simp only [Act.put, List.setIfInBounds_toArray, List.set_cons_succ, List.set_cons_zero, hp]; done) | simp [Act.put, hp]
          refine AllOps.cons (fun x u hC hT hp K hK => ?_) ?_
          · simp [KnownTill, Region.binds, VGn] at hp
            clear hT
            go_simp
            refine hK _ _ _ hC (Below.refl _ _) (by exact rfl) ?_
            first | (simp only [Act.put, List.setIfInBounds_toArray, List.set_cons_succ, List.set_cons_zero, hp]; done) | simp [Act.put, hp]
          refine AllOps.cons (fun x u hC hT hp K hK => ?_) ?_
          · simp [KnownTill, Region.binds, VGn] at hp
            clear hT
            go_simp
            refine hK _ _ _ hC (Below.refl _ _) (by exact rfl) ?_
            first | (simp only [Act.put, List.setIfInBounds_toArray, List.set_cons_succ, List.set_cons_zero, hp]; done) | simp [Act.put, hp]
          refine AllOps.cons (fun x u hC hT hp K hK => ?_) ?_
          · simp [KnownTill, Region.binds, VGn] at hp
            clear hT
            go_simp
            refine hK _ _ _ hC (Below.refl _ _) (by exact rfl) ?_
            first | (simp only [Act.put, List.setIfInBounds_toArray, List.set_cons_succ, List.set_cons_zero, hp]; done) | simp [Act.put, hp]
          refine AllOps.cons (fun x u hC hT hp K hK => ?_) ?_
          · simp [KnownTill, Region.binds, VGn] at hp
            clear hT
            go_simp
            refine hK _ _ _ hC (Below.refl _ _) (by exact rfl) ?_
            first | (simp only [Act.put, List.setIfInBounds_toArray, List.set_cons_succ, List.set_cons_zero, hp]; done) | simp [Act.put, hp]
          refine AllOps.cons (fun x u hC hT hp K hK => ?_) ?_
          · simp [KnownTill, Region.binds, VGn] at hp
            clear hT
            go_simp
            refine hK _ _ _ hC (Below.refl _ _) (by exact rfl) ?_
            first | (simp only [Act.put, List.setIfInBounds_toArray, List.set_cons_succ, List.set_cons_zero, hp]; done) | simp [Act.put, hp]
          refine AllOps.cons (fun x u hC hT hp K hK => ?_) ?_
          · simp [KnownTill, Region.binds, VGn] at hp
            clear hT
            go_simp
            refine hK _ _ _ hC (Below.refl _ _) (by exact rfl) ?_
            first | (simp only [Act.put, List.setIfInBounds_toArray, List.set_cons_succ, List.set_cons_zero, hp]; done) | simp [Act.put, hp]
          refine AllOps.cons (fun x u hC hT hp K hK => ?_) ?_
          · simp [KnownTill, Region.binds, VGn] at hp
            clear hT
            go_simp
            refine hK _ _ _ hC (Below.refl _ _) (by exact rfl) ?_
            first | (simp only [Act.put, List.setIfInBounds_toArray, List.set_cons_succ, List.set_cons_zero, hp]; done) | simp [Act.put, hp]
          refine AllOps.cons (fun x u hC hT hp K hK => ?_) ?_
          · simp [KnownTill, Region.binds, VGn] at hp
            clear hT
            go_simp
            refine hK _ _ _ hC (Below.refl _ _) (by exact rfl) ?_
            first | (simp only [Act.put, List.setIfInBounds_toArray, List.set_cons_succ, List.set_cons_zero, hp]; done) | simp [Act.put, hp]
          refine AllOps.cons (fun x u hC hT hp K hK => ?_) ?_
          · simp [KnownTill, Region.binds, VGn] at hp
            clear hT
            go_simp
            refine hK _ _ _ hC (Below.refl _ _) (by exact rfl) ?_
            first | (simp only [Act.put, List.setIfInBounds_toArray, List.set_cons_succ, List.set_cons_zero, hp]; done) | simp [Act.put, hp]
          refine AllOps.cons (fun x u hC hT hp K hK => ?_) ?_
          · simp [KnownTill, Region.binds, VGn] at hp
            clear hT
            go_simp
            refine hK _ _ _ hC (Below.refl _ _) (by exact rfl) ?_
            first | (simp only [Act.put, List.setIfInBounds_toArray, List.set_cons_succ, List.set_cons_zero, hp]; done) | simp [Act.put, hp]
          refine AllOps.cons (fun x u hC hT hp K hK => ?_) ?_
          · simp [KnownTill, Region.binds, VGn] at hp
            clear hT
            go_simp
            refine hK _ _ _ hC (Below.refl _ _) (by exact rfl) ?_
            first | (simp only [Act.put, List.setIfInBounds_toArray, List.set_cons_succ, List.set_cons_zero, hp]; done) | simp [Act.put, hp]
          exact AllOps.nil
        case finG =>
          intro x u hC hV
          have hz : x 18 = .bool true := hV 18 (by decide) rfl
          rw [hz]
          have hbf := bt hbe hC
          clear hV hz hC k1 k2 s1 s2
          go_wp2
          go_ret
          exact ⟨rfl, hbf⟩
end Go.Proofs.Ytbafengdkinbbaa
