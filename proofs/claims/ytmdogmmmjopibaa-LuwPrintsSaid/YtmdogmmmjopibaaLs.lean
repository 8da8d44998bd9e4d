/- A name out of a text: the document's Parse. -/
import Derived.Test.YtmdogmmmjopibaaLr
namespace Go.Proofs.Ytmdogmmmjopibaa
open Go.RowKit
set_option linter.unusedVariables false
set_option linter.unusedSimpArgs false

def VRy (s : ByteArray) (p a q : Nat) (i : Nat) (v : Value) (w : World) : Prop :=
  match i with
  | 0 => v = .string s
  | 1 => v = .int .i64 p
  | 2 => v = .string (s.extract 1 p)
  | 3 => v = .int .u64 a
  | 4 => v = .string s
  | 5 => v = .int .i64 p
  | 6 => v = .int .i64 ((p : Int) + 1)
  | 7 => v = .string (s.extract (p + 1) s.size)
  | 8 => v = .int .u64 q
  | 9 => v = .int .u64 a
  | 10 => v = .int .u64 q
  | _ => True
theorem VRy.mono {s : ByteArray} {p a q i : Nat} {v : Value} {u u' : World} (hv : VRy s p a q i v u) : VRy s p a q i v u' := by
  unfold VRy at hv ⊢; split at hv <;> exact hv

theorem name_chars {s : ByteArray} {u : Int} {a q : Nat} (h : sl s = prL u a q) : ∀ k, k < s.size → (k = 0 ∧ chr s k = UInt8.ofNat (97 + u).toNat) ∨ (k = 1 + (dig a).length ∧ chr s k = 46) ∨ (0 < k ∧ k ≠ 1 + (dig a).length ∧ isN (chr s k)) := fun k hk => by
  obtain ⟨h0, e1, h2, h46, e2, h5, hc⟩ := name_parts s h
  rw [e1] at h2 h46 h5
  rw [e2] at h5
  rcases Nat.eq_zero_or_pos k with rfl | hp
  · exact .inl ⟨rfl, hc⟩
  · rcases Nat.lt_trichotomy k (1 + (dig a).length) with g | g | g
    · refine .inr (.inr ⟨hp, by omega, ?_⟩)
      have hj : k - 1 < (ds ((sl s).drop 1)).length := by show _ < (d1 s).length; rw [e1]; omega
      have := (drop_chr s 1 (k - 1) hj).2
      rw [show 1 + (k - 1) = k by omega] at this
      rw [← this]
      exact ds_all _ _ (List.getElem_mem hj)
    · exact .inr (.inl ⟨g, by rw [g]; exact h46⟩)
    · refine .inr (.inr ⟨hp, by omega, ?_⟩)
      have hj : k - (1 + (dig a).length + 1) < (ds ((sl s).drop (1 + (d1 s).length + 1))).length := by show _ < (d2 s).length; rw [e2]; omega
      have := (drop_chr s (1 + (d1 s).length + 1) (k - (1 + (dig a).length + 1)) hj).2
      have hk2 : 1 + (d1 s).length + 1 + (k - (1 + (dig a).length + 1)) = k := by rw [e1]; omega
      rw [hk2] at this
      rw [← this]
      exact ds_all _ _ (List.getElem_mem hj)
theorem name_first {s : ByteArray} {u : Int} {a q : Nat} (h : sl s = prL u a q) : sl (s.extract 1 (1 + (dig a).length)) = dig a := by
  obtain ⟨h0, e1, h2, h46, e2, h5, hc⟩ := name_parts s h
  rw [sl_extract, Nat.add_sub_cancel_left]
  have := ds_take ((sl s).drop 1)
  have e1' : ds ((sl s).drop 1) = dig a := e1
  rw [e1'] at this
  exact this.symm
theorem name_second {s : ByteArray} {u : Int} {a q : Nat} (h : sl s = prL u a q) : sl (s.extract (1 + (dig a).length + 1) s.size) = dig q := by
  obtain ⟨h0, e1, h2, h46, e2, h5, hc⟩ := name_parts s h
  rw [e1, e2] at h5
  have := ds_take ((sl s).drop (1 + (dig a).length + 1))
  have e2' : ds ((sl s).drop (1 + (dig a).length + 1)) = dig q := by unfold d2 at e2; rw [e1] at e2; exact e2
  rw [e2'] at this
  rw [sl_extract, show s.size - (1 + (dig a).length + 1) = (dig q).length by omega]
  exact this.symm

set_option maxHeartbeats 2000000 in
set_option maxRecDepth 100000 in
theorem refparse_yes (s : ByteArray) (m a q : Nat) (w : World) (hok : okL m q = true) (ha : a < 4294967296) (hq : q < 4294967296) (h : sl s = prL m a q) : Calls Try.prog 17 #[.string s] w (ParseOut w (sl s)) := by
  have hyes := fun (w' : World) hb => ParseOut.yes (w := w) (w' := w') (l := sl s) hok ha hq h hb
  have hch := name_chars h
  have hf := name_first h
  have hse := name_second h
  obtain ⟨h0, e1, h2, h46, e2, h5, hc⟩ := name_parts s h
  rw [e1, e2] at h5
  have la := dig_len10 a ha
  have lq := dig_len10 q hq
  have pa := dig_pos a
  have hm6 := ((okL_iff _ _).1 hok).2.1
  have hx0 : (chr s 0).toNat = 97 + m := by rw [hc]; simp; omega
  have hwa := fun w => worth_dig _ a w ha hf
  have hwb := fun w => worth_dig _ q w hq hse
  have hr := fun w => refright_any m a q w
  rw [hok] at hr
  have hpr := fun w => refprint_any m a q w ha hq
  have hps : strB (printL m a q) = s := by
    unfold printL; rw [if_pos hok, ← h]; exact sl_eq s
  rw [hps] at hpr
  unfold lv at hr hpr
  have hs24 : s.size ≤ 23 := by omega
  have hpp : 1 + (dig a).length + 1 ≤ s.size := by omega
  have hp2 : 2 ≤ 1 + (dig a).length := by omega
  have Hyes := Lib.hid hyes
  clear hyes h hf hse e1 h2 h46 e2 h5 hc hps la lq pa
  generalize 1 + (dig a).length = p at *
  have Hch := Lib.hid hch
  have Hx0 := Lib.hid hx0
  have Hwa := Lib.hid hwa
  have Hwb := Lib.hid hwb
  have ea : IntKind.u32.wrap (a : Int) = (a : Int) := IntWalk.u32_in _ (by omega)
  have eq : IntKind.u32.wrap (q : Int) = (q : Int) := IntWalk.u32_in _ (by omega)
  have da : decide ((4294967295 : Int) < (a : Int)) = false := decide_eq_false (by omega)
  have db : decide ((4294967295 : Int) < (q : Int)) = false := decide_eq_false (by omega)
  have Ha := Lib.hid ha
  have Hq := Lib.hid hq
  clear hch hx0 hwa hwb ha hq hok
  have kb := Blk.new w 24 #[.int .i64 0, .int .u32 0, .int .u32 0]
  have hb0 := ba w (.cells #[.int .i64 0, .int .u32 0, .int .u32 0] 24)
  have hsz : (w.alloc (.cells #[.int .i64 0, .int .u32 0, .int .u32 0] 24)).heap.size = w.heap.size + 1 := by simp
  go_enter Try.func17, Try.ntmps17
  go_wp2_with fail
  go_loopw [4, 5] (fun v i wr => ∃ (k : Nat) (z : Int), k ≤ s.size ∧ i = .int .i64 k ∧ v = .int .i64 z ∧ ((k ≤ p ∧ z = -1) ∨ (p < k ∧ z = p)) ∧ wr = w.alloc (.cells #[.int .i64 0, .int .u32 0, .int .u32 0] 24)) (fun _ i _ => s.size - (intOf i).toNat)
  case atStart => exact ⟨0, -1, Nat.zero_le _, rfl, rfl, .inl ⟨by omega, rfl⟩, rfl⟩
  case round =>
    obtain ⟨k, z, hk, rfl, rfl, hz, rfl⟩ := hrel
    by_cases hlt : k < s.size
    · have i1 := index_chr s k hlt
      have hck := Hch.out k hlt
      have hx := (chr s k).toNat_lt
      rcases hck with ⟨rfl, hc⟩ | ⟨rfl, hc⟩ | ⟨hk0, hkp, hc⟩
      · have hxx := Hx0.out
        have i1' : ∀ w, (Instr.index 9 (.string s) (.int .i64 0)).run Try.prog w = .ok (.int .u8 ((chr s 0).toNat : Int)) w := i1
        clear i1
        generalize (chr s 0).toNat = x at *
        have hz1 : z = -1 := by omega
        subst hz1
        have b46 : ((x : Int) == 46) = false := beq_eq_false_iff_ne.2 (by omega)
        clear hc hxx hz
        go_wp2
        go_roundw
        case rel => exact ⟨1, -1, by omega, by go_num, rfl, .inl ⟨by omega, rfl⟩, by trivial⟩
        case measure => simp [intOf]; omega
      · rw [hc] at i1
        have i1' : ∀ w, (Instr.index 9 (.string s) (.int .i64 (k : Int))).run Try.prog w = .ok (.int .u8 46) w := i1
        have hz1 : z = -1 := by omega
        subst hz1
        clear hc hz i1
        go_wp2
        go_roundw
        case rel => exact ⟨k + 1, (k : Int), by omega, by go_num, rfl, .inr ⟨by omega, rfl⟩, by trivial⟩
        case measure => simp [intOf]; omega
      · unfold isN at hc
        generalize (chr s k).toNat = x at *
        obtain ⟨hc1, hc2⟩ := hc
        have b46 : ((x : Int) == 46) = false := beq_eq_false_iff_ne.2 (by omega)
        go_wp2
        go_roundw
        case rel => exact ⟨k + 1, z, by omega, by go_num, rfl, by omega, by trivial⟩
        case measure => simp [intOf]; omega
    · obtain rfl : z = p := by omega
      have i0 : ∀ w, (Instr.index 9 (.string s) (.int .i64 0)).run Try.prog w = .ok (.int .u8 ((97 + m : Nat) : Int)) w := fun w => by have := index_chr s 0 h0 w; rw [Hx0.out] at this; exact this
      have hwa := Hwa.out
      have hwb := Hwb.out
      clear hz
      go_wp2_with fail
      generalize w.alloc (.cells #[.int .i64 0, .int .u32 0, .int .u32 0] 24) = w1 at *
      refine wp_region_invT (F := ?FR) (V := VRy s p a q) (dead := fun _ => none) (T := fun _ _ => True) (C := fun u => Hid (u = w1.drew)) (E := fun _ u u' => u' = u) (by kernel_rfl) (by kernel_rfl) (by kernel_rfl) (fun x => ?hFR) ?hmonoR ?hTmR ?hTR ?hCR ?stepR ?finR
      case hFR => simp only [mkA, Act.put, List.setIfInBounds_toArray, List.set_cons_succ, List.set_cons_zero, Nat.reduceAdd, Nat.zero_add]; first | with_reducible rfl | rfl
      case hmonoR => exact fun k i v u u' he hik hwt hdd hv => by rw [he]; exact VRy.mono hv
      case hTmR => exact fun _ _ _ _ _ _ _ _ => trivial
      case hTR => exact fun j => trivial
      case hCR => exact Lib.hid rfl
      case stepR =>
        refine AllOps.cons (fun x u hC hT hp K hK => ?_) ?_
        · clear hp hT
          go_simp
          refine hK _ _ _ hC rfl (by exact rfl) ?_
          first | (simp only [Act.put, List.setIfInBounds_toArray, List.set_cons_succ, List.set_cons_zero]; done) | simp [Act.put]
        refine AllOps.cons (fun x u hC hT hp K hK => ?_) ?_
        · clear hp hT
          go_simp
          refine hK _ _ _ hC rfl (by exact rfl) ?_
          first | (simp only [Act.put, List.setIfInBounds_toArray, List.set_cons_succ, List.set_cons_zero]; done) | simp [Act.put]
        refine AllOps.cons (fun x u hC hT hp K hK => ?_) ?_
        · simp [KnownTill, Region.binds, VRy] at hp
          clear hT
          have i1 : (1 : Int) ≤ (p : Int) := by omega
          have i2 : (p : Int) ≤ (s.size : Int) := by omega
          have i3 : (p : Int) + 1 ≤ (s.size : Int) := by omega
          go_simp
          refine hK _ _ _ hC rfl (by exact rfl) ?_
          first | (simp only [Act.put, List.setIfInBounds_toArray, List.set_cons_succ, List.set_cons_zero, hp]; done) | simp [Act.put, hp]
        refine AllOps.cons (fun x u hC hT hp K hK => ?_) ?_
        · simp [KnownTill, Region.binds, VRy] at hp
          clear hT
          go_simp
          refine (hwa _).mono ?_
          rintro e wA ⟨rfl, rfl⟩
          refine hK _ _ _ hC rfl (by exact rfl) ?_
          first | (simp only [Act.put, List.setIfInBounds_toArray, List.set_cons_succ, List.set_cons_zero, hp]; done) | simp [Act.put, hp]
        refine AllOps.cons (fun x u hC hT hp K hK => ?_) ?_
        · clear hp hT
          go_simp
          refine hK _ _ _ hC rfl (by exact rfl) ?_
          first | (simp only [Act.put, List.setIfInBounds_toArray, List.set_cons_succ, List.set_cons_zero]; done) | simp [Act.put]
        refine AllOps.cons (fun x u hC hT hp K hK => ?_) ?_
        · clear hp hT
          go_simp
          refine hK _ _ _ hC rfl (by exact rfl) ?_
          first | (simp only [Act.put, List.setIfInBounds_toArray, List.set_cons_succ, List.set_cons_zero]; done) | simp [Act.put]
        refine AllOps.cons (fun x u hC hT hp K hK => ?_) ?_
        · simp [KnownTill, Region.binds, VRy] at hp
          clear hT
          have ew : IntKind.i64.wrap ((p : Int) + 1) = (p : Int) + 1 := IntWalk.i64_in _ (by omega)
          go_simp
          refine hK _ _ _ hC rfl (by exact rfl) ?_
          first | (simp only [Act.put, List.setIfInBounds_toArray, List.set_cons_succ, List.set_cons_zero, hp]; done) | simp [Act.put, hp]
        refine AllOps.cons (fun x u hC hT hp K hK => ?_) ?_
        · simp [KnownTill, Region.binds, VRy] at hp
          clear hT
          have i1 : (1 : Int) ≤ (p : Int) := by omega
          have i2 : (p : Int) ≤ (s.size : Int) := by omega
          have i3 : (p : Int) + 1 ≤ (s.size : Int) := by omega
          have t1 : ((p : Int) + 1).toNat = p + 1 := by omega
          go_simp
          refine hK _ _ _ hC rfl (by exact rfl) ?_
          first | (simp only [Act.put, List.setIfInBounds_toArray, List.set_cons_succ, List.set_cons_zero, hp]; done) | simp [Act.put, hp]
        refine AllOps.cons (fun x u hC hT hp K hK => ?_) ?_
        · simp [KnownTill, Region.binds, VRy] at hp
          clear hT
          go_simp
          refine (hwb _).mono ?_
          rintro e wA ⟨rfl, rfl⟩
          refine hK _ _ _ hC rfl (by exact rfl) ?_
          first | (simp only [Act.put, List.setIfInBounds_toArray, List.set_cons_succ, List.set_cons_zero, hp]; done) | simp [Act.put, hp]
        refine AllOps.cons (fun x u hC hT hp K hK => ?_) ?_
        · simp [KnownTill, Region.binds, VRy] at hp
          clear hT
          go_simp
          refine hK _ _ _ hC rfl (by exact rfl) ?_
          first | (simp only [Act.put, List.setIfInBounds_toArray, List.set_cons_succ, List.set_cons_zero, hp]; done) | simp [Act.put, hp]
        refine AllOps.cons (fun x u hC hT hp K hK => ?_) ?_
        · simp [KnownTill, Region.binds, VRy] at hp
          clear hT
          go_simp
          refine hK _ _ _ hC rfl (by exact rfl) ?_
          first | (simp only [Act.put, List.setIfInBounds_toArray, List.set_cons_succ, List.set_cons_zero, hp]; done) | simp [Act.put, hp]
        exact AllOps.nil
      case finR =>
        intro xR u hC hV
        have hC1 := hC.out
        subst hC1
        clear hC
        have h9 : xR 9 = .int .u64 a := hV 9 (by decide) rfl
        have h10 : xR 10 = .int .u64 q := hV 10 (by decide) rfl
        rw [h9, h10]
        clear hV h9 h10 hwa hwb
        have ew : IntKind.i64.wrap ((97 + m : Nat) : Int) = (97 : Int) + m := (IntWalk.i64_in _ (by omega)).trans (by omega)
        have ew2 : (97 : Int) + (m : Int) - 97 = (m : Int) := by omega
        have ew3 : ((97 + m : Nat) : Int) - 97 = (m : Int) := by omega
        have kb2 : Blk w1.drew w.heap.size 24 #[.int .i64 0, .int .u32 0, .int .u32 0] := kb
        have hb2 := bt hb0 (below_drew w1)
        have hsz2 : w1.drew.heap.size = w.heap.size + 1 := hsz
        generalize w1.drew = w2 at *
        clear kb hb0 hsz
        have ka := kb2.alloc (.cells #[.int .i64 m, .int .u32 a, .int .u32 q] 24)
        have kl := Blk.new w2 24 #[.int .i64 m, .int .u32 a, .int .u32 q]
        rw [hsz2] at kl
        have hba := bt hb2 (ba w2 (.cells #[.int .i64 m, .int .u32 a, .int .u32 q] 24))
        go_wp2_with fail
        refine (hr _).mono ?_
        rintro e w3 ⟨rfl, hb3⟩
        have kl3 := kl.below hb3 kl.lt
        have ka3 := ka.below hb3 ka.lt
        have hba := bt hba hb3
        have c0 := kl3.cell 0
        have c1 := kl3.cell 1
        have c2 := kl3.cell 2
        simp only [List.getElem?_toArray, List.getElem?_cons_zero, List.getElem?_cons_succ] at c0 c1 c2
        clear kl ka kb2 hb3
        go_wp2_with fail
        refine (hpr _).mono ?_
        rintro e w4 ⟨rfl, hb4⟩
        have kl4 := kl3.below hb4 kl3.lt
        have ka4 := ka3.below hb4 ka3.lt
        have hba := bt hba hb4
        clear c0 c1 c2 kl3 ka3 hb4
        have c0 := kl4.cell 0
        have c1 := kl4.cell 1
        have c2 := kl4.cell 2
        have d0 := ka4.cell 0
        have d1 := ka4.cell 1
        have d2 := ka4.cell 2
        have f0 := ka4.frozen 0
        have f1 := ka4.frozen 1
        have f2 := ka4.frozen 2
        simp at c0 c1 c2 d0 d1 d2
        have e0 := ka4.set3_0 (x := .int .i64 m)
        have e1 := ka4.set3_1 (x := .int .i64 m) (y := .int .u32 a)
        have e2 := ka4.set3_2 (x := .int .i64 m) (y := .int .u32 a) (z := .int .u32 q)
        have hbf := below_set3 hba (g := w.heap.size) (by omega) (.int .i64 m) (.int .u32 a) (.int .u32 q)
        clear kl4 ka4 hba
        go_wp2
        refine bodyPost_ret (by simp [results, Try.results17, go_sem, e0, e1, e2]; try rfl) rfl ?_
        exact Hyes.out _ hbf

theorem refparse_any (s : ByteArray) (w : World) (hs : s.size ≤ 1000000) : Calls Try.prog 17 #[.string s] w (ParseOut w (sl s)) := by
  by_cases h : ∃ u a q, okL u q = true ∧ a < 4294967296 ∧ q < 4294967296 ∧ sl s = prL u a q
  · obtain ⟨u, a, q, h1, h2, h3, h4⟩ := h
    obtain ⟨m, rfl⟩ := Int.eq_ofNat_of_zero_le ((okL_iff u q).1 h1).1
    exact refparse_yes s m a q w h1 h2 h3 h4
  · exact refparse_no s w hs (fun u a q h1 h2 h3 h4 => h ⟨u, a, q, h1, h2, h3, h4⟩)
end Go.Proofs.Ytmdogmmmjopibaa
