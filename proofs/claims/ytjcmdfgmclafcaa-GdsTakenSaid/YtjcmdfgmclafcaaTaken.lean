/- The law on what is read. -/
import Derived.Test.YtjcmdfgmclafcaaGf
import Derived.Test.YtjcmdfgmclafcaaGm
namespace Go.Proofs.Ytjcmdfgmclafcaa
open Go.RowKit
set_option linter.unusedVariables false
set_option linter.unusedSimpArgs false

def VT (R3 n : Nat) (A1 : Option Addr) (c1 : Nat) (A : Option Addr) (l : List UInt8) (c : Nat) (A2 : Option Addr) (c2 wl : Nat) (A3 : Option Addr) (c3 : Nat) (id : Int) (data : List UInt8) (i : Nat) (v : Value) (w : World) : Prop :=
  match i with
  | 2 => v = .int .i64 n
  | 3 => v = .pointer (some ⟨R3, 1, none⟩)
  | 4 => v = .slice A1 data.length c1
  | 5 => v = .int .i64 data.length
  | 6 => v = .int .i64 ((data.length : Int) + 4)
  | 10 => v = .int .i64 n
  | 11 => v = .slice A l.length c
  | 12 => v = .int .i64 l.length
  | 16 => v = .int .i64 0
  | 20 => v = .int .i64 0
  | 24 => v = .int .i64 wl
  | 25 => v = .slice A2 wl c2
  | 26 => v = .int .i64 wl
  | 30 => v = .agg #[.int .i64 id, .slice A3 data.length c3]
  | 31 => ∃ A c, v = .slice A 1 c ∧ VarsAt w w.heap.size A [(id, data)]
  | 32 => v = .agg #[.int .i64 id, .slice A1 data.length c1]
  | 33 => ∃ A c, v = .slice A 1 c ∧ VarsAt w w.heap.size A [(id, data)]
  | 37 => v = .slice A2 wl c2
  | 38 => v = .int .i64 wl
  | 39 => v = .int .i64 n
  | _ => v = .bool true

set_option maxRecDepth 100000 in
set_option maxHeartbeats 2000000 in
theorem gdsTaken_walk (A : Option Addr) (l : List UInt8) (c : Nat) (w : World) (hb : Bs w w.heap.size A l) (hle : l.length ≤ c) (hc : c ≤ 9223372036854775807) :
    Calls Try.prog 8 #[.slice A l.length c] w fun e w' => e = .returned (.bool true) ∧ Below w.heap.size w w' := by
  by_cases hbig : 5000 < l.length
  · go_enter Try.func8, Try.ntmps8
    go_wp2_with fail
    refine (alive_any _).mono ?_
    rintro e wz ⟨rfl, hbz⟩
    go_wp2
    go_ret
    exact ⟨rfl, hbz⟩
  · have hsome := nextR_some l
    have herr := nextR_err l
    have hcall := next_any A l c w hle hc hb
    obtain ⟨⟨id, data, n, e0⟩, hr⟩ : ∃ r, r = nextR l := ⟨_, rfl⟩
    rw [← hr] at hsome herr hcall
    simp only at hsome herr
    clear hr
    by_cases h0 : e0 = 0
    · subst h0
      obtain ⟨s1, s2, s3, s4⟩ := hsome rfl
      clear herr hsome
      go_enter Try.func8, Try.ntmps8
      go_wp2_with fail
      refine hcall.mono ?_
      clear hcall
      rintro e w1 ⟨A1, c1, rfl, hn1, hb1, hl1, hm1⟩
      simp only at hl1 hn1
      have hB1 := Blk.new w1 24 #[.int .i64 id, .slice A1 data.length c1]
      have hbs1' := hn1.bs.bt (ba w1 (.cells #[.int .i64 id, .slice A1 data.length c1] 24))
      have hb1' := bt hb1 (ba w1 (.cells #[.int .i64 id, .slice A1 data.length c1] 24))
      go_wp2_with fail
      have hwr := write_any id A1 data c1 2048 _ hl1 hm1 (by omega) (by omega) hbs1' _ (Lib.hid rfl)
      have hR : writeR id data 2048 = (segsL (putL id 2) (piecesL 2048 data.length data), 0) := by
        unfold writeR; rw [if_neg (by omega), if_neg (by omega), if_neg (by omega)]; rfl
      have hnw := next_write id 2048 data [] s1 (by omega) (by omega) s2 (by omega)
      rw [List.append_nil] at hnw
      have hlen : (segsL (putL id 2) (piecesL 2048 data.length data)).length = data.length + 4 := by
        rw [piecesL_last (by omega)]
        simp only [segsL, List.append_nil, segOf_length, putL_length]; omega
      rw [hR] at hwr
      generalize segsL (putL id 2) (piecesL 2048 data.length data) = S at hwr hnw hlen
      clear hR
      refine hwr.mono ?_
      clear hwr
      rintro e w2 ⟨A2, c2, rfl, ho2, hb2⟩
      simp only at ho2
      have hB2 := hB1.below hb2 hB1.lt
      have hbs12 := hbs1'.bt hb2
      have hb2' := bt hb1' hb2
      obtain ⟨wl, hwl⟩ : ∃ wl, wl = S.length := ⟨_, rfl⟩
      have ho2b := ho2.bs
      have hle2 : S.length ≤ c2 ∧ c2 ≤ 9223372036854775807 := by
        obtain ⟨_, _, _, _, h5, h6⟩ := ho2.form (by omega)
        unfold maxLen at h6
        exact ⟨h5, by omega⟩
      have hcall := next_any A2 S c2 w2 hle2.1 hle2.2 ho2b
      rw [hnw] at hcall
      simp only
      rw [← hwl] at hcall hlen ⊢
      have Hlen := Lib.hid hlen
      clear hnw hwl ho2 ho2b hle2 hB1 hbs1' hb1' hb2 hlen
      go_wp2_with fail
      refine hcall.mono ?_
      clear hcall
      rintro e w3 ⟨A3, c3, rfl, hn3, hb3, _, _⟩
      simp only at hn3
      have hB3 := (hB2.below hb3 hB2.lt).alloc (.cells #[.int .i64 id, .slice A3 data.length c3] 24)
      have hB8 := Blk.new w3 24 #[.int .i64 id, .slice A3 data.length c3]
      have hbs1 := (hbs12.bt hb3).bt (ba w3 (.cells #[.int .i64 id, .slice A3 data.length c3] 24))
      have hbs3 := hn3.bs.bt (ba w3 (.cells #[.int .i64 id, .slice A3 data.length c3] 24))
      have hb4 := bt (bt hb2' hb3) (ba w3 (.cells #[.int .i64 id, .slice A3 data.length c3] 24))
      have dd1 : decide ((data.length : Int) + 4 ≤ (n : Int)) = true := by simp; omega
      have dd2 : decide ((n : Int) ≤ (l.length : Int)) = true := by simp; omega
      have dd3 : decide ((wl : Int) ≤ (n : Int)) = true := by have := Hlen.out; simp; omega
      have de2 : decide (n ≤ l.length) = true := by simp; omega
      have de3 : decide (wl ≤ n) = true := by have := Hlen.out; simp; omega
      have ew : IntKind.i64.wrap ((data.length : Int) + 4) = (data.length : Int) + 4 := IntWalk.i64_in _ (by omega)
      clear hb hB2 hbs12 hn3 hn1 hb1 hb3 hb2' s1 s3 s4 hle hl1
      go_wp2_with fail
      generalize hW4 : w3.alloc (.cells #[.int .i64 id, .slice A3 data.length c3] 24) = w4 at *
      clear hW4
      · skip
        refine wp_region_inv (F := ?F) (V := VT w1.heap.size n A1 c1 A l c A2 c2 wl A3 c3 id data) (C := fun u => Below w4.heap.size w4 u) (E := fun u u' => Below u.heap.size u u') (by kernel_rfl) (by kernel_rfl) (by kernel_rfl) (fun x => ?hF) ?hmono ?hC ?step ?fin
        case hF => simp only [mkA, Act.put, List.setIfInBounds_toArray, List.set_cons_succ, List.set_cons_zero, Nat.reduceAdd, Nat.zero_add]; with_reducible rfl
        case hmono =>
          intro i v u u' he hv
          unfold VT at hv ⊢
          split at hv <;> first | exact hv | (obtain ⟨A, c, e, hr⟩ := hv; exact ⟨A, c, e, hr.bt he⟩)
        case hC => exact gr_drew _
        case step =>
          refine AllOps.cons (fun x u hC hp K hK => ?_) ?_
          · clear hp
            go_simp
            refine (alive_any _).mono ?_
            rintro e wA ⟨rfl, hbA⟩
            refine hK _ _ _ (bt hC hbA) hbA rfl ?_
            simp only [Act.put, List.setIfInBounds_toArray, List.set_cons_succ, List.set_cons_zero]
          refine AllOps.cons (fun x u hC hp K hK => ?_) ?_
          · simp [Known, Region.binds, VT] at hp
            go_simp
            refine hK _ _ _ hC (Below.refl _ _) (by exact rfl) ?_
            simp only [Act.put, List.setIfInBounds_toArray, List.set_cons_succ, List.set_cons_zero, hp]
          refine AllOps.cons (fun x u hC hp K hK => ?_) ?_
          · simp [Known, Region.binds, VT] at hp
            go_simp
            refine hK _ _ _ hC (Below.refl _ _) (by exact rfl) ?_
            simp only [Act.put, List.setIfInBounds_toArray, List.set_cons_succ, List.set_cons_zero, hp]
          refine AllOps.cons (fun x u hC hp K hK => ?_) ?_
          · simp [Known, Region.binds, VT] at hp
            go_simp
            refine hK _ _ _ hC (Below.refl _ _) (by exact rfl) ?_
            simp only [Act.put, List.setIfInBounds_toArray, List.set_cons_succ, List.set_cons_zero, hp]
          refine AllOps.cons (fun x u hC hp K hK => ?_) ?_
          · simp [Known, Region.binds, VT] at hp
            have c0 := (hB3.below hC hB3.lt).cell 0; have c1' := (hB3.below hC hB3.lt).cell 1; simp only [List.getElem?_toArray, List.getElem?_cons_zero, List.getElem?_cons_succ] at c0 c1'
            go_simp
            refine hK _ _ _ hC (Below.refl _ _) (by exact rfl) ?_
            simp only [Act.put, List.setIfInBounds_toArray, List.set_cons_succ, List.set_cons_zero, hp]
          refine AllOps.cons (fun x u hC hp K hK => ?_) ?_
          · simp [Known, Region.binds, VT] at hp
            go_simp
            refine hK _ _ _ hC (Below.refl _ _) (by exact rfl) ?_
            simp only [Act.put, List.setIfInBounds_toArray, List.set_cons_succ, List.set_cons_zero, hp]
          refine AllOps.cons (fun x u hC hp K hK => ?_) ?_
          · simp [Known, Region.binds, VT] at hp
            go_simp
            refine hK _ _ _ hC (Below.refl _ _) (by exact rfl) ?_
            simp only [Act.put, List.setIfInBounds_toArray, List.set_cons_succ, List.set_cons_zero, hp, ew]
          refine AllOps.cons (fun x u hC hp K hK => ?_) ?_
          · simp [Known, Region.binds, VT] at hp
            go_simp
            refine hK _ _ _ hC (Below.refl _ _) (by exact rfl) ?_
            simp only [Act.put, List.setIfInBounds_toArray, List.set_cons_succ, List.set_cons_zero, hp, dd1]
          refine AllOps.cons (fun x u hC hp K hK => ?_) ?_
          · simp [Known, Region.binds, VT] at hp
            go_simp
            refine hK _ _ _ hC (Below.refl _ _) (by exact rfl) ?_
            simp only [Act.put, List.setIfInBounds_toArray, List.set_cons_succ, List.set_cons_zero, hp]
          refine AllOps.cons (fun x u hC hp K hK => ?_) ?_
          · simp [Known, Region.binds, VT] at hp
            go_simp
            refine hK _ _ _ hC (Below.refl _ _) (by exact rfl) ?_
            simp only [Act.put, List.setIfInBounds_toArray, List.set_cons_succ, List.set_cons_zero, hp]
          refine AllOps.cons (fun x u hC hp K hK => ?_) ?_
          · simp [Known, Region.binds, VT] at hp
            go_simp
            refine hK _ _ _ hC (Below.refl _ _) (by exact rfl) ?_
            simp only [Act.put, List.setIfInBounds_toArray, List.set_cons_succ, List.set_cons_zero, hp]
          refine AllOps.cons (fun x u hC hp K hK => ?_) ?_
          · simp [Known, Region.binds, VT] at hp
            go_simp
            refine hK _ _ _ hC (Below.refl _ _) (by exact rfl) ?_
            simp only [Act.put, List.setIfInBounds_toArray, List.set_cons_succ, List.set_cons_zero, hp]
          refine AllOps.cons (fun x u hC hp K hK => ?_) ?_
          · simp [Known, Region.binds, VT] at hp
            go_simp
            refine hK _ _ _ hC (Below.refl _ _) (by exact rfl) ?_
            simp only [Act.put, List.setIfInBounds_toArray, List.set_cons_succ, List.set_cons_zero, hp]
          refine AllOps.cons (fun x u hC hp K hK => ?_) ?_
          · simp [Known, Region.binds, VT] at hp
            go_simp
            refine hK _ _ _ hC (Below.refl _ _) (by exact rfl) ?_
            simp only [Act.put, List.setIfInBounds_toArray, List.set_cons_succ, List.set_cons_zero, hp, dd2, de2]
          refine AllOps.cons (fun x u hC hp K hK => ?_) ?_
          · simp [Known, Region.binds, VT] at hp
            go_simp
            refine hK _ _ _ hC (Below.refl _ _) (by exact rfl) ?_
            simp only [Act.put, List.setIfInBounds_toArray, List.set_cons_succ, List.set_cons_zero, hp]
          refine AllOps.cons (fun x u hC hp K hK => ?_) ?_
          · simp [Known, Region.binds, VT] at hp
            go_simp
            refine hK _ _ _ hC (Below.refl _ _) (by exact rfl) ?_
            simp only [Act.put, List.setIfInBounds_toArray, List.set_cons_succ, List.set_cons_zero, hp]
          refine AllOps.cons (fun x u hC hp K hK => ?_) ?_
          · simp [Known, Region.binds, VT] at hp
            go_simp
            refine hK _ _ _ hC (Below.refl _ _) (by exact rfl) ?_
            simp only [Act.put, List.setIfInBounds_toArray, List.set_cons_succ, List.set_cons_zero, hp]
          refine AllOps.cons (fun x u hC hp K hK => ?_) ?_
          · simp [Known, Region.binds, VT] at hp
            go_simp
            refine hK _ _ _ hC (Below.refl _ _) (by exact rfl) ?_
            simp only [Act.put, List.setIfInBounds_toArray, List.set_cons_succ, List.set_cons_zero, hp]
          refine AllOps.cons (fun x u hC hp K hK => ?_) ?_
          · simp [Known, Region.binds, VT] at hp
            go_simp
            refine hK _ _ _ hC (Below.refl _ _) (by exact rfl) ?_
            simp only [Act.put, List.setIfInBounds_toArray, List.set_cons_succ, List.set_cons_zero, hp]
          refine AllOps.cons (fun x u hC hp K hK => ?_) ?_
          · simp [Known, Region.binds, VT] at hp
            go_simp
            refine hK _ _ _ hC (Below.refl _ _) (by exact rfl) ?_
            simp only [Act.put, List.setIfInBounds_toArray, List.set_cons_succ, List.set_cons_zero, hp]
          refine AllOps.cons (fun x u hC hp K hK => ?_) ?_
          · simp [Known, Region.binds, VT] at hp
            go_simp
            refine hK _ _ _ hC (Below.refl _ _) (by exact rfl) ?_
            simp only [Act.put, List.setIfInBounds_toArray, List.set_cons_succ, List.set_cons_zero, hp]
          refine AllOps.cons (fun x u hC hp K hK => ?_) ?_
          · simp [Known, Region.binds, VT] at hp
            go_simp
            refine hK _ _ _ hC (Below.refl _ _) (by exact rfl) ?_
            simp only [Act.put, List.setIfInBounds_toArray, List.set_cons_succ, List.set_cons_zero, hp]
          refine AllOps.cons (fun x u hC hp K hK => ?_) ?_
          · simp [Known, Region.binds, VT] at hp
            go_simp
            refine hK _ _ _ hC (Below.refl _ _) (by exact rfl) ?_
            simp only [Act.put, List.setIfInBounds_toArray, List.set_cons_succ, List.set_cons_zero, hp]
          refine AllOps.cons (fun x u hC hp K hK => ?_) ?_
          · simp [Known, Region.binds, VT] at hp
            go_simp
            refine hK _ _ _ hC (Below.refl _ _) (by exact rfl) ?_
            simp only [Act.put, List.setIfInBounds_toArray, List.set_cons_succ, List.set_cons_zero, hp]
          refine AllOps.cons (fun x u hC hp K hK => ?_) ?_
          · simp [Known, Region.binds, VT] at hp
            go_simp
            refine hK _ _ _ hC (Below.refl _ _) (by exact rfl) ?_
            simp only [Act.put, List.setIfInBounds_toArray, List.set_cons_succ, List.set_cons_zero, hp]
          refine AllOps.cons (fun x u hC hp K hK => ?_) ?_
          · simp [Known, Region.binds, VT] at hp
            go_simp
            refine hK _ _ _ hC (Below.refl _ _) (by exact rfl) ?_
            simp only [Act.put, List.setIfInBounds_toArray, List.set_cons_succ, List.set_cons_zero, hp]
          refine AllOps.cons (fun x u hC hp K hK => ?_) ?_
          · simp [Known, Region.binds, VT] at hp
            go_simp
            refine hK _ _ _ hC (Below.refl _ _) (by exact rfl) ?_
            simp only [Act.put, List.setIfInBounds_toArray, List.set_cons_succ, List.set_cons_zero, hp]
          refine AllOps.cons (fun x u hC hp K hK => ?_) ?_
          · simp [Known, Region.binds, VT] at hp
            go_simp
            refine hK _ _ _ hC (Below.refl _ _) (by exact rfl) ?_
            simp only [Act.put, List.setIfInBounds_toArray, List.set_cons_succ, List.set_cons_zero, hp]
          refine AllOps.cons (fun x u hC hp K hK => ?_) ?_
          · simp [Known, Region.binds, VT] at hp
            go_simp
            refine hK _ _ _ hC (Below.refl _ _) (by exact rfl) ?_
            simp only [Act.put, List.setIfInBounds_toArray, List.set_cons_succ, List.set_cons_zero, hp]
          refine AllOps.cons (fun x u hC hp K hK => ?_) ?_
          · simp [Known, Region.binds, VT] at hp
            go_simp
            refine hK _ _ _ hC (Below.refl _ _) (by exact rfl) ?_
            simp only [Act.put, List.setIfInBounds_toArray, List.set_cons_succ, List.set_cons_zero, hp]
          refine AllOps.cons (fun x u hC hp K hK => ?_) ?_
          · simp [Known, Region.binds, VT] at hp
            have c0 := (hB8.below hC hB8.lt).cell 0; have c1' := (hB8.below hC hB8.lt).cell 1; simp only [List.getElem?_toArray, List.getElem?_cons_zero, List.getElem?_cons_succ] at c0 c1'
            go_simp
            refine hK _ _ _ hC (Below.refl _ _) (by exact rfl) ?_
            simp only [Act.put, List.setIfInBounds_toArray, List.set_cons_succ, List.set_cons_zero, hp]
          refine AllOps.cons (fun x u hC hp K hK => ?_) ?_
          · simp [Known, Region.binds, VT] at hp
            have hone := fun e w' (h : OneOut u id A3 data.length c3 e w') => h.vars (hbs3.bt hC)
            go_simp
            refine ((one_any id A3 data.length c3 u).mono hone).mono ?_
            rintro e wA ⟨A, c, rfl, hv, hbA⟩
            refine hK _ _ _ (bt hC hbA) hbA ⟨A, c, rfl, hv⟩ ?_
            simp only [Act.put, List.setIfInBounds_toArray, List.set_cons_succ, List.set_cons_zero, hp]
          refine AllOps.cons (fun x u hC hp K hK => ?_) ?_
          · simp [Known, Region.binds, VT] at hp
            have c0 := (hB3.below hC hB3.lt).cell 0; have c1' := (hB3.below hC hB3.lt).cell 1; simp only [List.getElem?_toArray, List.getElem?_cons_zero, List.getElem?_cons_succ] at c0 c1'
            go_simp
            refine hK _ _ _ hC (Below.refl _ _) (by exact rfl) ?_
            simp only [Act.put, List.setIfInBounds_toArray, List.set_cons_succ, List.set_cons_zero, hp]
          refine AllOps.cons (fun x u hC hp K hK => ?_) ?_
          · simp [Known, Region.binds, VT] at hp
            have hone := fun e w' (h : OneOut u id A1 data.length c1 e w') => h.vars (hbs1.bt hC)
            go_simp
            refine ((one_any id A1 data.length c1 u).mono hone).mono ?_
            rintro e wA ⟨A, c, rfl, hv, hbA⟩
            refine hK _ _ _ (bt hC hbA) hbA ⟨A, c, rfl, hv⟩ ?_
            simp only [Act.put, List.setIfInBounds_toArray, List.set_cons_succ, List.set_cons_zero, hp]
          refine AllOps.cons (fun x u hC hp K hK => ?_) ?_
          · simp [Known, Region.binds, VT] at hp
            obtain ⟨⟨X1, ⟨y1, hx1⟩, hv1⟩, ⟨X2, ⟨y2, hx2⟩, hv2⟩, hp⟩ := hp
            go_simp
            refine (same_yes X1 X2 [(id, data)] y1 y2 u (by simp) (by simp; omega) hv1 hv2).mono ?_
            rintro e wA ⟨rfl, nq, rfl⟩
            refine hK _ _ _ (bt hC (bl_drewN _ nq)) (bl_drewN _ nq) rfl ?_
            simp only [Act.put, List.setIfInBounds_toArray, List.set_cons_succ, List.set_cons_zero, hp, hx1, hx2]
          refine AllOps.cons (fun x u hC hp K hK => ?_) ?_
          · simp [Known, Region.binds, VT] at hp
            go_simp
            refine hK _ _ _ hC (Below.refl _ _) (by exact rfl) ?_
            simp only [Act.put, List.setIfInBounds_toArray, List.set_cons_succ, List.set_cons_zero, hp]
          refine AllOps.cons (fun x u hC hp K hK => ?_) ?_
          · simp [Known, Region.binds, VT] at hp
            go_simp
            refine hK _ _ _ hC (Below.refl _ _) (by exact rfl) ?_
            simp only [Act.put, List.setIfInBounds_toArray, List.set_cons_succ, List.set_cons_zero, hp]
          refine AllOps.cons (fun x u hC hp K hK => ?_) ?_
          · simp [Known, Region.binds, VT] at hp
            go_simp
            refine hK _ _ _ hC (Below.refl _ _) (by exact rfl) ?_
            simp only [Act.put, List.setIfInBounds_toArray, List.set_cons_succ, List.set_cons_zero, hp]
          refine AllOps.cons (fun x u hC hp K hK => ?_) ?_
          · simp [Known, Region.binds, VT] at hp
            go_simp
            refine hK _ _ _ hC (Below.refl _ _) (by exact rfl) ?_
            simp only [Act.put, List.setIfInBounds_toArray, List.set_cons_succ, List.set_cons_zero, hp]
          refine AllOps.cons (fun x u hC hp K hK => ?_) ?_
          · simp [Known, Region.binds, VT] at hp
            go_simp
            refine hK _ _ _ hC (Below.refl _ _) (by exact rfl) ?_
            simp only [Act.put, List.setIfInBounds_toArray, List.set_cons_succ, List.set_cons_zero, hp]
          refine AllOps.cons (fun x u hC hp K hK => ?_) ?_
          · simp [Known, Region.binds, VT] at hp
            go_simp
            refine hK _ _ _ hC (Below.refl _ _) (by exact rfl) ?_
            simp only [Act.put, List.setIfInBounds_toArray, List.set_cons_succ, List.set_cons_zero, hp, dd3, de3]
          refine AllOps.cons (fun x u hC hp K hK => ?_) ?_
          · simp [Known, Region.binds, VT] at hp
            go_simp
            refine hK _ _ _ hC (Below.refl _ _) (by exact rfl) ?_
            simp only [Act.put, List.setIfInBounds_toArray, List.set_cons_succ, List.set_cons_zero, hp]
          refine AllOps.cons (fun x u hC hp K hK => ?_) ?_
          · simp [Known, Region.binds, VT] at hp
            go_simp
            refine hK _ _ _ hC (Below.refl _ _) (by exact rfl) ?_
            simp only [Act.put, List.setIfInBounds_toArray, List.set_cons_succ, List.set_cons_zero, hp]
          exact AllOps.nil
        case fin =>
          intro x u hC hV
          have hz : x 42 = .bool true := allV_at hV 42 (by decide)
          rw [hz]
          clear hV hz
          go_wp2
          go_ret
          exact ⟨rfl, bt hb4 hC⟩
    · obtain ⟨rfl, rfl, rfl⟩ := herr h0
      clear herr hsome
      have hne : (e0 != 0) = true := bne_iff_ne.2 h0
      go_enter Try.func8, Try.ntmps8
      go_wp2_with fail
      refine hcall.mono ?_
      clear hcall
      rintro e w1 ⟨A1, c1, rfl, hn1, hb1, hl1, hm1⟩
      have hb1' := bt hb1 (ba w1 (.cells #[.int .i64 0, .slice A1 0 c1] 24))
      have hB1 := Blk.new w1 24 #[.int .i64 0, .slice A1 0 c1]
      go_wp2_with fail
      refine (alive_any _).mono ?_
      rintro e wz ⟨rfl, hbz⟩
      have hB2 := hB1.below hbz hB1.lt
      have q0 := hB2.cell 0
      have q1 := hB2.cell 1
      simp only [List.getElem?_toArray, List.getElem?_cons_zero, List.getElem?_cons_succ] at q0 q1
      go_wp2
      go_ret
      exact ⟨rfl, bt hb1' hbz⟩
end Go.Proofs.Ytjcmdfgmclafcaa
