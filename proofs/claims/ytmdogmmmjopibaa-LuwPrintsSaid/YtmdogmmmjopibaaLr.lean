/- A name out of a text: the document's Parse. -/
import Derived.Test.YtmdogmmmjopibaaLq
namespace Go.Proofs.Ytmdogmmmjopibaa
open Go.RowKit
set_option linter.unusedVariables false
set_option linter.unusedSimpArgs false

def VRp (s : ByteArray) (p : Nat) (i : Nat) (v : Value) (w : World) : Prop :=
  match i with
  | 0 => v = .string s
  | 1 => v = .int .i64 p
  | 2 => v = .string (s.extract 1 p)
  | 3 => IsU64 v
  | 4 => v = .string s
  | 5 => v = .int .i64 p
  | 6 => v = .int .i64 ((p : Int) + 1)
  | 7 => v = .string (s.extract (p + 1) s.size)
  | 8 => IsU64 v
  | 9 => IsU64 v
  | 10 => IsU64 v
  | _ => True
theorem VRp.mono {s : ByteArray} {p i : Nat} {v : Value} {u u' : World} (hv : VRp s p i v u) : VRp s p i v u' := by
  unfold VRp at hv ⊢; split at hv <;> exact hv

set_option maxHeartbeats 2000000 in
set_option maxRecDepth 100000 in
theorem refparse_no (s : ByteArray) (w : World) (hs : s.size ≤ 1000000) (hno : noName (sl s)) : Calls Try.prog 17 #[.string s] w (ParseOut w (sl s)) := by
  have Hno := Lib.hid hno
  clear hno
  have kb := Blk.new w 24 #[.int .i64 0, .int .u32 0, .int .u32 0]
  have hb0 := ba w (.cells #[.int .i64 0, .int .u32 0, .int .u32 0] 24)
  have hsz : (w.alloc (.cells #[.int .i64 0, .int .u32 0, .int .u32 0] 24)).heap.size = w.heap.size + 1 := by simp
  go_enter Try.func17, Try.ntmps17
  go_wp2_with fail
  go_loopw [4, 5] (fun v i wr => ∃ (k : Nat) (p : Int), k ≤ s.size ∧ i = .int .i64 k ∧ v = .int .i64 p ∧ -1 ≤ p ∧ p < k ∧ wr = w.alloc (.cells #[.int .i64 0, .int .u32 0, .int .u32 0] 24)) (fun _ i _ => s.size - (intOf i).toNat)
  case atStart => exact ⟨0, -1, Nat.zero_le _, rfl, rfl, by omega, by omega, rfl⟩
  case round =>
    obtain ⟨k, p, hk, rfl, rfl, hp1, hp2, rfl⟩ := hrel
    by_cases hlt : k < s.size
    · have i1 := index_chr s k hlt
      have hx := (chr s k).toNat_lt
      generalize (chr s k).toNat = x at *
      by_cases h46 : x = 46
      · subst h46
        by_cases hpn : p < 0
        · go_wp2
          go_roundw
          case rel => exact ⟨k + 1, (k : Int), by omega, by go_num, rfl, by omega, by omega, by trivial⟩
          case measure => simp [intOf]; omega
        · by_cases hk0 : 0 < k
          · go_wp2
            go_returns
            exact ParseOut.no Hno.out (ba _ _)
          · go_wp2
            go_roundw
            case rel => exact ⟨k + 1, p, by omega, by go_num, rfl, by omega, by omega, by trivial⟩
            case measure => simp [intOf]; omega
      · have b46 : ((x : Int) == 46) = false := beq_eq_false_iff_ne.2 (by omega)
        clear h46
        by_cases hk0 : 0 < k
        · by_cases h48 : x < 48
          · go_wp2
            go_returns
            exact ParseOut.no Hno.out (ba _ _)
          · by_cases h57 : 57 < x
            · go_wp2
              go_returns
              exact ParseOut.no Hno.out (ba _ _)
            · go_wp2
              go_roundw
              case rel => exact ⟨k + 1, p, by omega, by go_num, rfl, by omega, by omega, by trivial⟩
              case measure => simp [intOf]; omega
        · go_wp2
          go_roundw
          case rel => exact ⟨k + 1, p, by omega, by go_num, rfl, by omega, by omega, by trivial⟩
          case measure => simp [intOf]; omega
    · by_cases hp0 : p < 1
      · go_wp2
        go_returns
        exact ParseOut.no Hno.out (ba _ _)
      · by_cases h23 : 23 < s.size
        · go_wp2
          go_returns
          exact ParseOut.no Hno.out (ba _ _)
        · obtain ⟨p, rfl⟩ := Int.eq_ofNat_of_zero_le (show 0 ≤ p by omega)
          have hwa := fun w => worth_some (s.extract 1 p) w (Nat.le_trans (extract_size s 1 p) hs)
          have hwb := fun w => worth_some (s.extract (p + 1) s.size) w (Nat.le_trans (extract_size s (p + 1) s.size) hs)
          have i0 : ∀ w, (Instr.index 9 (.string s) (.int .i64 0)).run Try.prog w = .ok (.int .u8 ((chr s 0).toNat : Int)) w := index_chr s 0 (by omega)
          have hx := (chr s 0).toNat_lt
          generalize (chr s 0).toNat = x at *
          go_wp2_with fail
          generalize w.alloc (.cells #[.int .i64 0, .int .u32 0, .int .u32 0] 24) = w1 at *
          refine wp_region_invT (F := ?FR) (V := VRp s p) (dead := fun _ => none) (T := fun _ _ => True) (C := fun u => Hid (u = w1.drew)) (E := fun _ u u' => u' = u) (by kernel_rfl) (by kernel_rfl) (by kernel_rfl) (fun x => ?hFR) ?hmonoR ?hTmR ?hTR ?hCR ?stepR ?finR
          case hFR => simp only [mkA, Act.put, List.setIfInBounds_toArray, List.set_cons_succ, List.set_cons_zero, Nat.reduceAdd, Nat.zero_add]; first | with_reducible rfl | rfl
          case hmonoR => exact fun k i v u u' he hik hwt hdd hv => by rw [he]; exact VRp.mono hv
          case hTmR => exact fun _ _ _ _ _ _ _ _ => trivial
          case hTR => exact fun j => trivial
          case hCR => exact Lib.hid rfl
          case stepR =>
            refine AllOps.cons (fun x u hC hT hp K hK => ?_) ?_
            · clear hp hT
              go_simp
              refine hK _ _ _ hC rfl (by exact rfl) ?_
              first | (simp only [Act.put, List.setIfInBounds_toArray, List.set_cons_succ, List.set_cons_zero]; done) | simp [Act.put]
            refine AllOps.cons (fun x u hC hT hp K hK => ?_) ?_
            · clear hp hT
              go_simp
              refine hK _ _ _ hC rfl (by exact rfl) ?_
              first | (simp only [Act.put, List.setIfInBounds_toArray, List.set_cons_succ, List.set_cons_zero]; done) | simp [Act.put]
            refine AllOps.cons (fun x u hC hT hp K hK => ?_) ?_
            · simp [KnownTill, Region.binds, VRp] at hp
              clear hT
              have i1 : (1 : Int) ≤ (p : Int) := by omega
              have i2 : (p : Int) ≤ (s.size : Int) := by omega
              have i3 : (p : Int) + 1 ≤ (s.size : Int) := by omega
              go_simp
              refine hK _ _ _ hC rfl (by exact rfl) ?_
              first | (simp only [Act.put, List.setIfInBounds_toArray, List.set_cons_succ, List.set_cons_zero, hp]; done) | simp [Act.put, hp]
            refine AllOps.cons (fun x u hC hT hp K hK => ?_) ?_
            · simp [KnownTill, Region.binds, VRp] at hp
              clear hT
              go_simp
              refine (hwa _).mono ?_
              rintro e wA ⟨⟨vA, rfl, hvA⟩, rfl⟩
              refine hK _ _ _ hC rfl (by exact hvA) ?_
              first | (simp only [Act.put, List.setIfInBounds_toArray, List.set_cons_succ, List.set_cons_zero, hp]; done) | simp [Act.put, hp]
            refine AllOps.cons (fun x u hC hT hp K hK => ?_) ?_
            · clear hp hT
              go_simp
              refine hK _ _ _ hC rfl (by exact rfl) ?_
              first | (simp only [Act.put, List.setIfInBounds_toArray, List.set_cons_succ, List.set_cons_zero]; done) | simp [Act.put]
            refine AllOps.cons (fun x u hC hT hp K hK => ?_) ?_
            · clear hp hT
              go_simp
              refine hK _ _ _ hC rfl (by exact rfl) ?_
              first | (simp only [Act.put, List.setIfInBounds_toArray, List.set_cons_succ, List.set_cons_zero]; done) | simp [Act.put]
            refine AllOps.cons (fun x u hC hT hp K hK => ?_) ?_
            · simp [KnownTill, Region.binds, VRp] at hp
              clear hT
              have ew : IntKind.i64.wrap ((p : Int) + 1) = (p : Int) + 1 := IntWalk.i64_in _ (by omega)
              go_simp
              refine hK _ _ _ hC rfl (by exact rfl) ?_
              first | (simp only [Act.put, List.setIfInBounds_toArray, List.set_cons_succ, List.set_cons_zero, hp]; done) | simp [Act.put, hp]
            refine AllOps.cons (fun x u hC hT hp K hK => ?_) ?_
            · simp [KnownTill, Region.binds, VRp] at hp
              clear hT
              have i1 : (1 : Int) ≤ (p : Int) := by omega
              have i2 : (p : Int) ≤ (s.size : Int) := by omega
              have i3 : (p : Int) + 1 ≤ (s.size : Int) := by omega
              have t1 : ((p : Int) + 1).toNat = p + 1 := by omega
              go_simp
              refine hK _ _ _ hC rfl (by exact rfl) ?_
              first | (simp only [Act.put, List.setIfInBounds_toArray, List.set_cons_succ, List.set_cons_zero, hp]; done) | simp [Act.put, hp]
            refine AllOps.cons (fun x u hC hT hp K hK => ?_) ?_
            · simp [KnownTill, Region.binds, VRp] at hp
              clear hT
              go_simp
              refine (hwb _).mono ?_
              rintro e wA ⟨⟨vA, rfl, hvA⟩, rfl⟩
              refine hK _ _ _ hC rfl (by exact hvA) ?_
              first | (simp only [Act.put, List.setIfInBounds_toArray, List.set_cons_succ, List.set_cons_zero, hp]; done) | simp [Act.put, hp]
            refine AllOps.cons (fun x u hC hT hp K hK => ?_) ?_
            · simp [KnownTill, Region.binds, VRp] at hp
              clear hT
              go_simp
              refine hK _ _ _ hC rfl (by exact hp.1) ?_
              first | (simp only [Act.put, List.setIfInBounds_toArray, List.set_cons_succ, List.set_cons_zero, hp]; done) | simp [Act.put, hp]
            refine AllOps.cons (fun x u hC hT hp K hK => ?_) ?_
            · simp [KnownTill, Region.binds, VRp] at hp
              clear hT
              go_simp
              refine hK _ _ _ hC rfl (by exact hp.1) ?_
              first | (simp only [Act.put, List.setIfInBounds_toArray, List.set_cons_succ, List.set_cons_zero, hp]; done) | simp [Act.put, hp]
            exact AllOps.nil
          case finR =>
            intro xR u hC hV
            have hC1 := hC.out
            subst hC1
            clear hC
            obtain ⟨z1, h9, g1, g2⟩ : IsU64 (xR 9) := hV 9 (by decide) rfl
            obtain ⟨z2, h10, g3, g4⟩ : IsU64 (xR 10) := hV 10 (by decide) rfl
            rw [h9, h10]
            clear hV h9 h10 hwa hwb
            obtain ⟨y1, hy1⟩ : ∃ y, y = IntKind.u32.wrap z1 := ⟨_, rfl⟩
            obtain ⟨y2, hy2⟩ : ∃ y, y = IntKind.u32.wrap z2 := ⟨_, rfl⟩
            have ew1 := hy1.symm
            have ew2 := hy2.symm
            clear hy1 hy2
            have ew : IntKind.i64.wrap (x : Int) = (x : Int) := IntWalk.i64_in _ (by omega)
            have kb2 : Blk w1.drew w.heap.size 24 #[.int .i64 0, .int .u32 0, .int .u32 0] := kb
            have hb2 := bt hb0 (below_drew w1)
            have hsz2 : w1.drew.heap.size = w.heap.size + 1 := hsz
            generalize w1.drew = w2 at *
            clear kb hb0 hsz
            have G2 := Lib.hid (And.intro g1 g2)
            have G4 := Lib.hid (And.intro g3 g4)
            clear g1 g2 g3 g4
            have m0 := kb2.cell 0
            have m1 := kb2.cell 1
            have m2 := kb2.cell 2
            have n0 := kb2.frozen 0
            have n1 := kb2.frozen 1
            have n2 := kb2.frozen 2
            simp only [List.getElem?_toArray, List.getElem?_cons_zero, List.getElem?_cons_succ] at m0 m1 m2
            have ka := kb2.alloc (.cells #[.int .i64 ((x : Int) - 97), .int .u32 y1, .int .u32 y2] 24)
            have hba := bt hb2 (ba w2 (.cells #[.int .i64 ((x : Int) - 97), .int .u32 y1, .int .u32 y2] 24))
            rcases (by omega : (4294967295 : Int) < z1 ∨ z1 ≤ 4294967295) with ha | ha
            · have da : decide ((4294967295 : Int) < z1) = true := decide_eq_true ha
              have Ha := Lib.hid ha
              clear ha
              have ks := (kb2.set3 (x := .int .i64 0) (y := .int .u32 0) (z := .int .u32 0)).alloc (.cells #[.int .i64 ((x : Int) - 97), .int .u32 y1, .int .u32 y2] 24)
              have hbf := bt (below_set3 hb2 (g := w.heap.size) (by omega) (.int .i64 0) (.int .u32 0) (.int .u32 0)) (ba _ (.cells #[.int .i64 ((x : Int) - 97), .int .u32 y1, .int .u32 y2] 24))
              have h0 := ks.cell 0
              have h1 := ks.cell 1
              have h2 := ks.cell 2
              simp only [List.getElem?_toArray, List.getElem?_cons_zero, List.getElem?_cons_succ] at h0 h1 h2
              clear ks
              go_wp2
              refine bodyPost_ret (by simp [results, Try.results17, go_sem, h0, h1, h2]; try rfl) rfl ?_
              exact ParseOut.no Hno.out hbf
            · have da : decide ((4294967295 : Int) < z1) = false := decide_eq_false (by omega)
              have Ha := Lib.hid ha
              clear ha
              rcases (by omega : (4294967295 : Int) < z2 ∨ z2 ≤ 4294967295) with hq | hq
              · have db : decide ((4294967295 : Int) < z2) = true := decide_eq_true hq
                have Hq := Lib.hid hq
                clear hq
                have ks := (kb2.set3 (x := .int .i64 0) (y := .int .u32 0) (z := .int .u32 0)).alloc (.cells #[.int .i64 ((x : Int) - 97), .int .u32 y1, .int .u32 y2] 24)
                have hbf := bt (below_set3 hb2 (g := w.heap.size) (by omega) (.int .i64 0) (.int .u32 0) (.int .u32 0)) (ba _ (.cells #[.int .i64 ((x : Int) - 97), .int .u32 y1, .int .u32 y2] 24))
                have h0 := ks.cell 0
                have h1 := ks.cell 1
                have h2 := ks.cell 2
                simp only [List.getElem?_toArray, List.getElem?_cons_zero, List.getElem?_cons_succ] at h0 h1 h2
                clear ks
                go_wp2
                refine bodyPost_ret (by simp [results, Try.results17, go_sem, h0, h1, h2]; try rfl) rfl ?_
                exact ParseOut.no Hno.out hbf
              · skip
                have db : decide ((4294967295 : Int) < z2) = false := decide_eq_false (by omega)
                have Hq := Lib.hid hq
                clear hq
                have ey1 : y1 = z1 := by rw [← ew1]; exact IntWalk.u32_in _ (by have := G2.out; have := Ha.out; omega)
                have ey2 : y2 = z2 := by rw [← ew2]; exact IntWalk.u32_in _ (by have := G4.out; have := Hq.out; omega)
                subst ey1 ey2
                obtain ⟨a, rfl⟩ := Int.eq_ofNat_of_zero_le G2.out.1
                obtain ⟨q, rfl⟩ := Int.eq_ofNat_of_zero_le G4.out.1
                have hr := fun w => refright_any ((x : Int) - 97) a q w
                have hpr := fun w => refprint_any ((x : Int) - 97) a q w (by have := Ha.out; omega) (by have := Hq.out; omega)
                have hneq : okL ((x : Int) - 97) q = true → strB (printL ((x : Int) - 97) a q) ≠ s := fun hk e => by
                  refine Hno.out ((x : Int) - 97) a q hk (by have := Ha.out; omega) (by have := Hq.out; omega) ?_
                  rw [← e]; unfold printL; rw [if_pos hk]; simp [sl, strB]
                have kl := Blk.new w2 24 #[.int .i64 ((x : Int) - 97), .int .u32 a, .int .u32 q]
                rw [hsz2] at kl
                unfold lv at hr hpr
                generalize strB (printL ((x : Int) - 97) a q) = Q at *
                rcases hk : okL ((x : Int) - 97) q with _ | _
                · rw [hk] at hr
                  clear hk hneq hpr
                  go_wp2_with fail
                  refine (hr _).mono ?_
                  rintro e w3 ⟨rfl, hb3⟩
                  have kr := (ka.below hb3 ka.lt)
                  have hbf := below_set3 (bt hba hb3) (g := w.heap.size) (by omega) (.int .i64 0) (.int .u32 0) (.int .u32 0)
                  have e0 := kr.set3_0 (x := .int .i64 0)
                  have e1 := kr.set3_1 (x := .int .i64 0) (y := .int .u32 0)
                  have e2 := kr.set3_2 (x := .int .i64 0) (y := .int .u32 0) (z := .int .u32 0)
                  have d0 := kr.cell 0
                  have d1 := kr.cell 1
                  have d2 := kr.cell 2
                  have f0 := kr.frozen 0
                  have f1 := kr.frozen 1
                  have f2 := kr.frozen 2
                  simp at d0 d1 d2
                  clear kr
                  go_wp2
                  refine bodyPost_ret (by simp [results, Try.results17, go_sem, e0, e1, e2]; try rfl) rfl ?_
                  exact ParseOut.no Hno.out hbf
                · rw [hk] at hr
                  have hn := hneq hk
                  have hl1 : (Q.toList == s.toList) = false := by rw [ByteArray.toList_eq, ByteArray.toList_eq]; exact beq_eq_false_iff_ne.2 (fun e => hn (WideShapes.bytes_inj e))
                  have hl4 : decide (Q = s) = false := decide_eq_false hn
                  clear hk hneq
                  go_wp2_with fail
                  refine (hr _).mono ?_
                  rintro e w3 ⟨rfl, hb3⟩
                  have kl3 := kl.below hb3 kl.lt
                  have c0 := kl3.cell 0
                  have c1 := kl3.cell 1
                  have c2 := kl3.cell 2
                  simp only [List.getElem?_toArray, List.getElem?_cons_zero, List.getElem?_cons_succ] at c0 c1 c2
                  clear kl3
                  go_wp2_with fail
                  refine (hpr _).mono ?_
                  rintro e w4 ⟨rfl, hb4⟩
                  clear c0 c1 c2
                  have kr := ((ka.below hb3 ka.lt).below hb4 (ka.below hb3 ka.lt).lt)
                  have hbf := below_set3 (bt hba (bt hb3 hb4)) (g := w.heap.size) (by omega) (.int .i64 0) (.int .u32 0) (.int .u32 0)
                  have e0 := kr.set3_0 (x := .int .i64 0)
                  have e1 := kr.set3_1 (x := .int .i64 0) (y := .int .u32 0)
                  have e2 := kr.set3_2 (x := .int .i64 0) (y := .int .u32 0) (z := .int .u32 0)
                  have d0 := kr.cell 0
                  have d1 := kr.cell 1
                  have d2 := kr.cell 2
                  have f0 := kr.frozen 0
                  have f1 := kr.frozen 1
                  have f2 := kr.frozen 2
                  simp at d0 d1 d2
                  clear kr
                  go_wp2
                  refine bodyPost_ret (by simp [results, Try.results17, go_sem, e0, e1, e2]; try rfl) rfl ?_
                  exact ParseOut.no Hno.out hbf
end Go.Proofs.Ytmdogmmmjopibaa
