/- The law on what is cut. -/
import Derived.Test.YtjcmdfgmclafcaaGf
import Derived.Test.YtjcmdfgmclafcaaGm
import Derived.Test.YtjcmdfgmclafcaaCopy
import Derived.Test.YtjcmdfgmclafcaaOpenG
namespace Go.Proofs.Ytjcmdfgmclafcaa
open Go.RowKit
set_option linter.unusedVariables false
set_option linter.unusedSimpArgs false

def VC (wl : Nat) (A2 : Option Addr) (c2 : Nat) (A3 : Option Addr) (c3 : Nat) (id : Int) (A : Option Addr) (data : List UInt8) (c : Nat) (i : Nat) (v : Value) (w : World) : Prop :=
  match i with
  | 0 => v = .int .i64 0
  | 3 => v = .int .i64 wl
  | 4 => v = .slice A2 wl c2
  | 5 => v = .int .i64 wl
  | 9 => v = .agg #[.int .i64 id, .slice A3 data.length c3]
  | 10 => ∃ A c, v = .slice A 1 c ∧ VarsAt w w.heap.size A [(id, data)]
  | 11 => v = .agg #[.int .i64 id, .slice A data.length c]
  | 12 => ∃ A c, v = .slice A 1 c ∧ VarsAt w w.heap.size A [(id, data)]
  | 13 => v = .bool true
  | _ => v = .bool false

theorem pieces_le (seg : Nat) : ∀ (k : Nat) (d : List UInt8), ∀ y ∈ piecesL seg k d, y.1.length ≤ d.length := by
  intro k
  induction k with
  | zero => intro d y hy; simp [piecesL] at hy; subst hy; exact Nat.le_refl _
  | succ k ih =>
    intro d y hy
    rw [piecesL] at hy
    split at hy
    · rcases List.mem_cons.1 hy with rfl | hy
      · simp; omega
      · have := ih _ y hy
        simp at this; omega
    · simp at hy; subst hy; exact Nat.le_refl _

set_option maxRecDepth 100000 in
set_option maxHeartbeats 2000000 in
theorem gdsCut_walk (o : VarV) (seg cut : Int) (more : UInt8) (w : World) (ho : VarOk w o) (g1 : -9223372036854775808 ≤ seg) (g2 : seg ≤ 9223372036854775807) (k1 : -9223372036854775808 ≤ cut) (k2 : cut ≤ 9223372036854775807) :
    Calls Try.prog 7 #[o.val, .int .i64 seg, .int .i64 cut, .int .u8 (more.toNat : Int)] w fun e w' => e = .returned (.bool true) ∧ Below w.heap.size w w' := by
  obtain ⟨id, A, data, c⟩ := o
  obtain ⟨q1, q2, hbs, hle, hc⟩ := ho
  simp only at q1 q2 hbs hle hc
  simp only [VarV.val]
  have hB0 := Blk.new w 24 #[.int .i64 id, .slice A data.length c]
  have hbs0 := hbs.bt (ba w (.cells #[.int .i64 id, .slice A data.length c] 24))
  have hb0 := ba w (.cells #[.int .i64 id, .slice A data.length c] 24)
  have v0 := hB0.cell 0
  have v1 := hB0.cell 1
  simp only [List.getElem?_toArray, List.getElem?_cons_zero, List.getElem?_cons_succ] at v0 v1
  have hmb := more.toNat_lt
  by_cases hbig : 400 < data.length
  · go_enter Try.func7, Try.ntmps7
    go_wp2_with fail
    refine (alive_any _).mono ?_
    rintro e wz ⟨rfl, hbz⟩
    go_wp2
    go_ret
    exact ⟨rfl, bt hb0 hbz⟩
  · have hwr := write_any id A data c seg _ hle hc g1 g2 hbs0 _ (Lib.hid rfl)
    obtain ⟨⟨S, e0⟩, hSE⟩ : ∃ r, r = writeR id data seg := ⟨_, rfl⟩
    rw [← hSE] at hwr
    by_cases h0 : e0 = 0
    · subst h0
      -- what is written, and what is read of it
      have hfacts : ∃ (i s : Nat), id = i ∧ i < 65536 ∧ S = segsL (putL i 2) (piecesL s data.length data) ∧ 1 ≤ s ∧ s ≤ 2048 ∧ data.length ≤ s * 64 := by
        unfold writeR at hSE
        by_cases c1 : seg < 1 ∨ 2048 < seg
        · rw [if_pos c1] at hSE; cases hSE
        · rw [if_neg c1] at hSE
          by_cases c2 : id < 0 ∨ 65535 < id ∨ 2048 < data.length
          · rw [if_pos c2] at hSE; cases hSE
          · rw [if_neg c2] at hSE
            by_cases c3 : seg * 64 < data.length
            · rw [if_pos c3] at hSE; cases hSE
            · rw [if_neg c3] at hSE
              cases hSE
              exact ⟨id.toNat, seg.toNat, by omega, by omega, rfl, by omega, by omega, by omega⟩
      obtain ⟨i, s, rfl, hi6, hS, s1, s2, hf⟩ := hfacts
      clear hSE
      have hnext : nextR (S ++ [more]) = (i, data, S.length, 0) := by rw [hS]; exact next_write i s data [more] hi6 s1 s2 (by omega) hf
      have HS : Hid (∀ m, m < S.length → nextR (S.take m) = (0, [], 0, 11)) := Lib.hid (fun m hm => by rw [hS] at hm ⊢; exact next_cut i s m data hi6 s1 s2 (by omega) hf hm)
      have hSl : S.length ≤ 200000 := by
        rw [hS]
        have h1 := segsL_len (piecesL s data.length data) (putL i 2) (by rw [putL_length]; omega) (fun y hy => ?_)
        · have h2 := pieces_count s s1 data.length data 64 hf (by omega)
          omega
        · exact Nat.le_trans (pieces_le s data.length data y hy) (by omega)
      have hS4 : 2 ≤ S.length := by
        rw [hS]
        cases hk : piecesL s data.length data with
        | nil => exact absurd hk (by cases data.length <;> simp [piecesL] ; split <;> simp)
        | cons y ys => simp only [segsL, List.length_append, segOf_length]; omega
      clear hS hf s1 s2
      go_enter Try.func7, Try.ntmps7
      go_wp2_with fail
      refine hwr.mono ?_
      clear hwr
      rintro e w1 ⟨A2, c2, rfl, ho2, hb1⟩
      simp only at ho2
      have hB1 := hB0.below hb1 hB0.lt
      have hbs1 := hbs0.bt hb1
      have hb1' := bt hb0 hb1
      have hc2 : S.length ≤ c2 ∧ c2 ≤ 9223372036854775807 := by
        obtain ⟨_, _, _, _, h5, h6⟩ := ho2.form (by omega)
        unfold maxLen at h6
        exact ⟨h5, by omega⟩
      obtain ⟨wl, hwl⟩ : ∃ wl, wl = S.length := ⟨_, rfl⟩
      have Hwl := Lib.hid hwl
      simp only
      have hcp := copy_any A2 S c2 w1 (by omega) ho2.bs
      rw [← hwl] at hcp hnext ⊢
      clear v0 v1 hB0 hbs0 hb0 hwl
      go_wp2_with fail
      refine hcp.mono ?_
      clear hcp
      rintro e w2 ⟨Ac, cc, rfl, hoc, hb2⟩
      have hB2 := hB1.below hb2 hB1.lt
      have hbs12 := hbs1.bt hb2
      have ho22 := ho2.bs.bt hb2
      have hb2' := bt hb1' hb2
      obtain ⟨i0, hi, hz0, hz1, hz2⟩ := info_parts Try.infoU8
      go_wp2_with (at_builtin; refine wpList_append_one _ rfl (.tmp 33) (.tmp 35) 22 rfl w1.heap.size 5 i0 _ Try.underlying22 hi hz0 hz1 hz2 rfl Ac cc S wl rfl Hwl.out (hoc.alloc _) _ _ _ rfl more (cell_new1 _ _ _) (by have := Hwl.out; omega) (by have := hb2.size; simp; omega) ?_; intro A4 c4 w3 ho3 hg3 _)
      have hb13 : Below w1.heap.size w1 w3 := (hb2.alloc hb2.size _).grown hg3 (by have := hb2.size; simp; omega) (fun k e => (hoc.lt k e).1)
      have hB3 := hB1.below hb13 hB1.lt
      have hbs13 := hbs1.bt hb13
      have hbs23 := ho2.bs.bt hb13
      have hb3' := bt hb1' hb13
      have hwl1 : (S ++ [more]).length = wl + 1 := by rw [List.length_append, ← Hwl.out]; rfl
      have hc4 : (S ++ [more]).length ≤ c4 ∧ c4 ≤ 9223372036854775807 := by
        obtain ⟨_, _, _, _, h5, h6⟩ := ho3.form (by rw [hwl1]; omega)
        unfold maxLen at h6
        exact ⟨h5, by omega⟩
      have hcall := next_any A4 (S ++ [more]) c4 w3 hc4.1 hc4.2 ho3.bs
      rw [hnext, hwl1] at hcall
      clear hB1 hbs1 hb1' hb2 hB2 hbs12 ho22 hb2' hoc hg3 ho3 hb13 hwl1 hc4 hnext ho2 hb1 hi hz0 hz1 hz2
      go_wp2_with fail
      refine hcall.mono ?_
      clear hcall
      rintro e w5 ⟨A3, c3, rfl, hn3, hb5, _, _⟩
      simp only at hn3
      have hB4 := (hB3.below hb5 hB3.lt).alloc (.cells #[.int .i64 i, .slice A3 data.length c3] 24)
      have hB12 := Blk.new w5 24 #[.int .i64 i, .slice A3 data.length c3]
      have hbs1 := (hbs13.bt hb5).bt (ba w5 (.cells #[.int .i64 i, .slice A3 data.length c3] 24))
      have hbs2 := (hbs23.bt hb5).bt (ba w5 (.cells #[.int .i64 i, .slice A3 data.length c3] 24))
      have hbs3 := hn3.bs.bt (ba w5 (.cells #[.int .i64 i, .slice A3 data.length c3] 24))
      have hb4 := bt (bt hb3' hb5) (ba w5 (.cells #[.int .i64 i, .slice A3 data.length c3] 24))
      clear hB3 hbs13 hbs23 hb3' hb5 hn3
      go_wp2_with fail
      generalize hW4 : w5.alloc (.cells #[.int .i64 i, .slice A3 data.length c3] 24) = w4 at *
      clear hW4
      refine wp_region_inv (F := ?F) (V := VC wl A2 c2 A3 c3 (i : Int) A data c) (C := fun u => Below w4.heap.size w4 u) (E := fun u u' => Below u.heap.size u u') (by kernel_rfl) (by kernel_rfl) (by kernel_rfl) (fun x => ?hF) ?hmono ?hC ?step ?fin
      case hF => simp only [mkA, Act.put, List.setIfInBounds_toArray, List.set_cons_succ, List.set_cons_zero, Nat.reduceAdd, Nat.zero_add]; with_reducible rfl
      case hmono =>
        intro i v u u' he hv
        unfold VC at hv ⊢
        split at hv <;> first | exact hv | (obtain ⟨A, c, e, hr⟩ := hv; exact ⟨A, c, e, hr.bt he⟩)
      case hC => exact gr_drew _
      case step =>
        refine AllOps.cons (fun x u hC hp K hK => ?_) ?_
        · clear hp
          go_simp
          refine hK _ _ _ hC (Below.refl _ _) (by exact rfl) ?_
          simp only [Act.put, List.setIfInBounds_toArray, List.set_cons_succ, List.set_cons_zero]
        refine AllOps.cons (fun x u hC hp K hK => ?_) ?_
        · simp [Known, Region.binds, VC] at hp
          go_simp
          refine hK _ _ _ hC (Below.refl _ _) (by exact rfl) ?_
          simp only [Act.put, List.setIfInBounds_toArray, List.set_cons_succ, List.set_cons_zero, hp]
        refine AllOps.cons (fun x u hC hp K hK => ?_) ?_
        · simp [Known, Region.binds, VC] at hp
          go_simp
          refine hK _ _ _ hC (Below.refl _ _) (by exact rfl) ?_
          simp only [Act.put, List.setIfInBounds_toArray, List.set_cons_succ, List.set_cons_zero, hp]
        refine AllOps.cons (fun x u hC hp K hK => ?_) ?_
        · simp [Known, Region.binds, VC] at hp
          go_simp
          refine hK _ _ _ hC (Below.refl _ _) (by exact rfl) ?_
          simp only [Act.put, List.setIfInBounds_toArray, List.set_cons_succ, List.set_cons_zero, hp]
        refine AllOps.cons (fun x u hC hp K hK => ?_) ?_
        · simp [Known, Region.binds, VC] at hp
          go_simp
          refine hK _ _ _ hC (Below.refl _ _) (by exact rfl) ?_
          simp only [Act.put, List.setIfInBounds_toArray, List.set_cons_succ, List.set_cons_zero, hp]
        refine AllOps.cons (fun x u hC hp K hK => ?_) ?_
        · simp [Known, Region.binds, VC] at hp
          go_simp
          refine hK _ _ _ hC (Below.refl _ _) (by exact rfl) ?_
          simp only [Act.put, List.setIfInBounds_toArray, List.set_cons_succ, List.set_cons_zero, hp]
        refine AllOps.cons (fun x u hC hp K hK => ?_) ?_
        · simp [Known, Region.binds, VC] at hp
          go_simp
          refine hK _ _ _ hC (Below.refl _ _) (by exact rfl) ?_
          simp only [Act.put, List.setIfInBounds_toArray, List.set_cons_succ, List.set_cons_zero, hp]
        refine AllOps.cons (fun x u hC hp K hK => ?_) ?_
        · simp [Known, Region.binds, VC] at hp
          go_simp
          refine hK _ _ _ hC (Below.refl _ _) (by exact rfl) ?_
          simp only [Act.put, List.setIfInBounds_toArray, List.set_cons_succ, List.set_cons_zero, hp]
        refine AllOps.cons (fun x u hC hp K hK => ?_) ?_
        · simp [Known, Region.binds, VC] at hp
          go_simp
          refine hK _ _ _ hC (Below.refl _ _) (by exact rfl) ?_
          simp only [Act.put, List.setIfInBounds_toArray, List.set_cons_succ, List.set_cons_zero, hp]
        refine AllOps.cons (fun x u hC hp K hK => ?_) ?_
        · simp [Known, Region.binds, VC] at hp
          have c0 := (hB12.below hC hB12.lt).cell 0; have c1' := (hB12.below hC hB12.lt).cell 1; simp only [List.getElem?_toArray, List.getElem?_cons_zero, List.getElem?_cons_succ] at c0 c1'
          go_simp
          refine hK _ _ _ hC (Below.refl _ _) (by exact rfl) ?_
          simp only [Act.put, List.setIfInBounds_toArray, List.set_cons_succ, List.set_cons_zero, hp]
        refine AllOps.cons (fun x u hC hp K hK => ?_) ?_
        · simp [Known, Region.binds, VC] at hp
          have hone := fun e w' (h : OneOut u (i : Int) A3 data.length c3 e w') => h.vars (hbs3.bt hC)
          go_simp
          refine ((one_any (i : Int) A3 data.length c3 u).mono hone).mono ?_
          rintro e wA ⟨A, c, rfl, hv, hbA⟩
          refine hK _ _ _ (bt hC hbA) hbA ⟨A, c, rfl, hv⟩ ?_
          simp only [Act.put, List.setIfInBounds_toArray, List.set_cons_succ, List.set_cons_zero, hp]
        refine AllOps.cons (fun x u hC hp K hK => ?_) ?_
        · simp [Known, Region.binds, VC] at hp
          have c0 := (hB4.below hC hB4.lt).cell 0; have c1' := (hB4.below hC hB4.lt).cell 1; simp only [List.getElem?_toArray, List.getElem?_cons_zero, List.getElem?_cons_succ] at c0 c1'
          go_simp
          refine hK _ _ _ hC (Below.refl _ _) (by exact rfl) ?_
          simp only [Act.put, List.setIfInBounds_toArray, List.set_cons_succ, List.set_cons_zero, hp]
        refine AllOps.cons (fun x u hC hp K hK => ?_) ?_
        · simp [Known, Region.binds, VC] at hp
          have hone := fun e w' (h : OneOut u (i : Int) A data.length c e w') => h.vars (hbs1.bt hC)
          go_simp
          refine ((one_any (i : Int) A data.length c u).mono hone).mono ?_
          rintro e wA ⟨A, c, rfl, hv, hbA⟩
          refine hK _ _ _ (bt hC hbA) hbA ⟨A, c, rfl, hv⟩ ?_
          simp only [Act.put, List.setIfInBounds_toArray, List.set_cons_succ, List.set_cons_zero, hp]
        refine AllOps.cons (fun x u hC hp K hK => ?_) ?_
        · simp [Known, Region.binds, VC] at hp
          obtain ⟨⟨X1, ⟨y1, hx1⟩, hv1⟩, ⟨X2, ⟨y2, hx2⟩, hv2⟩, hp⟩ := hp
          go_simp
          refine (same_yes X1 X2 [((i : Int), data)] y1 y2 u (by simp) (by simp; omega) hv1 hv2).mono ?_
          rintro e wA ⟨rfl, nq, rfl⟩
          refine hK _ _ _ (bt hC (bl_drewN _ nq)) (bl_drewN _ nq) rfl ?_
          simp only [Act.put, List.setIfInBounds_toArray, List.set_cons_succ, List.set_cons_zero, hp, hx1, hx2]
        refine AllOps.cons (fun x u hC hp K hK => ?_) ?_
        · simp [Known, Region.binds, VC] at hp
          go_simp
          refine hK _ _ _ hC (Below.refl _ _) (by exact rfl) ?_
          simp only [Act.put, List.setIfInBounds_toArray, List.set_cons_succ, List.set_cons_zero, hp]
        refine AllOps.cons (fun x u hC hp K hK => ?_) ?_
        · simp [Known, Region.binds, VC] at hp
          go_simp
          refine hK _ _ _ hC (Below.refl _ _) (by exact rfl) ?_
          simp only [Act.put, List.setIfInBounds_toArray, List.set_cons_succ, List.set_cons_zero, hp]
        exact AllOps.nil
      case fin =>
        intro x u hC hV
        have hz : x 15 = .bool false := allV_at hV 15 (by decide)
        rw [hz]
        clear hV hz
        have hb4u := bt hb4 hC
        have hbs2u := hbs2.bt hC
        clear hbs1 hbs3 hB4 hB12
        by_cases hcut : cut < 0 ∨ (S.length : Int) ≤ cut
        · rcases hcut with hcut | hcut
          all_goals
            have hcutI := hcut
            try (have hcutW : (wl : Int) ≤ cut := by rw [Hwl.out]; exact hcut)
            try (have hcut0 : ¬ cut < 0 := by omega)
            go_wp2_with fail
            refine (alive_any _).mono ?_
            rintro e wz ⟨rfl, hbz⟩
            go_wp2
            go_ret
            exact ⟨rfl, bt hb4u hbz⟩
        · obtain ⟨m, rfl⟩ := Int.eq_ofNat_of_zero_le (show 0 ≤ cut by omega)
          have hmS : m < S.length := by omega
          have hmw : (m : Int) < (wl : Int) := by rw [Hwl.out]; omega
          have hnc := HS.out m hmS
          have hcall := next_any A2 (S.take m) c2 u (by rw [List.length_take]; have := hc2.1; omega) hc2.2 (bs_take hbs2u m)
          rw [hnc, show (S.take m).length = m by rw [List.length_take]; omega] at hcall
          have hmc : (m : Int) ≤ (c2 : Int) := by have := hc2.1; omega
          clear hnc hmS hcut
          go_wp2_with fail
          refine hcall.mono ?_
          clear hcall
          rintro e w5 ⟨A5, c5, rfl, hn5, hb5, _, _⟩
          have hb6 := bt (bt hb4u hb5) (ba w5 (.cells #[.int .i64 0, .slice A5 0 c5] 24))
          go_wp2_with fail
          refine (alive_any _).mono ?_
          rintro e wz ⟨rfl, hbz⟩
          go_wp2
          go_ret
          exact ⟨rfl, bt hb6 hbz⟩

    · have hne : (e0 != 0) = true := bne_iff_ne.2 h0
      clear hSE
      go_enter Try.func7, Try.ntmps7
      go_wp2_with fail
      refine hwr.mono ?_
      clear hwr
      rintro e w1 ⟨A2, c2, rfl, ho2, hb1⟩
      go_wp2_with fail
      refine (alive_any _).mono ?_
      rintro e wz ⟨rfl, hbz⟩
      go_wp2
      go_ret
      exact ⟨rfl, bt (bt hb0 hb1) hbz⟩

end Go.Proofs.Ytjcmdfgmclafcaa
