/- Parts Bl2 Sk Sl Sm of one proof. -/
import Derived.Test.YtlliaihmfimdoaaGreatMg12
import Derived.Test.YtlliaihmfimdoaaGreatMg24
import Derived.BigQuiet
namespace Go.Proofs.YtlliaihmfimdoaaGreat
open Go.RowKit Go.Maps
set_option linter.unusedVariables false
set_option linter.unusedSimpArgs false

set_option maxRecDepth 100000 in
set_option maxHeartbeats 4000000 in
theorem are_in (A : Option Addr) (l : List Ch) (n c : Nat) (w : World) (hn : Hid (n = l.length)) (hm : n ≤ 1000000) (h : InL w A l) :
    Calls Tryz.prog 116 #[.slice A n c] w fun e w' => e = .returned (.bool (areB (fun _ => false) l)) ∧ Below w.heap.size w w' := by
  obtain ⟨w1, hw1⟩ : ∃ w1, w1 = w.alloc (.cells #[.bool false, .bool false, .bool false, .bool false, .bool false, .bool false, .bool false, .bool false, .bool false, .bool false, .bool false, .bool false, .bool false, .bool false, .bool false, .bool false] 191) := ⟨_, rfl⟩
  have b1 : Below w.heap.size w w1 := by rw [hw1]; exact ba _ _
  obtain ⟨gs, hgs⟩ : ∃ gs, gs = w.heap.size := ⟨_, rfl⟩
  have a1 : ArrB w1 gs (fun _ => false) := by
    rw [hw1, hgs]
    exact ⟨_, Blk.new _ _ _, rfl, fun i hi => match i, hi with | 0, _ => rfl | 1, _ => rfl | 2, _ => rfl | 3, _ => rfl | 4, _ => rfl | 5, _ => rfl | 6, _ => rfl | 7, _ => rfl | 8, _ => rfl | 9, _ => rfl | 10, _ => rfl | 11, _ => rfl | 12, _ => rfl | 13, _ => rfl | 14, _ => rfl | 15, _ => rfl | _ + 16, hi => absurd hi (by omega)⟩
  have H0 := Lib.hid h
  have H1 := Lib.hid (And.intro a1 (And.intro b1 (h.below b1)))
  have HW1 := Lib.hid hw1
  clear a1 b1 h hw1
  go_enter Tryz.func116, Tryz.ntmps116
  go_wp2_with fail
  rw [← HW1.out]
  rw [← hgs]
  have Hgs := Lib.hid hgs
  clear hgs HW1
  go_loopw [8] (fun i wr => ∃ (i0 : Nat) (M : Nat → Bool), i0 ≤ n ∧ i = .int .i64 i0 ∧ Hid (areB (fun _ => false) l = areB M (l.drop i0) ∧ ArrB wr gs M ∧ Below w.heap.size w wr ∧ InL wr A l)) (fun i _ => n - (intOf i).toNat)
  case atStart => exact ⟨0, _, Nat.zero_le _, rfl, Lib.hid ⟨rfl, H1.out⟩⟩
  case round =>
    obtain ⟨i0, M, hi, rfl, HR⟩ := hrel
    by_cases hin : i0 < n
    · have hiI : (i0 : Int) < (n : Int) := by omega
      obtain ⟨hE, hM, hb, hc⟩ := HR.out
      have hil : i0 < l.length := by rw [← hn.out]; exact hin
      obtain ⟨b, o, rfl, hbk, hcs⟩ := hc (by omega)
      obtain ⟨q0, q1, q2⟩ := hcs i0 hil
      rw [List.drop_eq_getElem_cons hil] at hE
      obtain ⟨x, hx⟩ : ∃ x, x = l[i0]'hil := ⟨_, rfl⟩
      rw [← hx] at q0 q1 q2 hE
      obtain ⟨kd, y, v⟩ := x
      dsimp only at q0 q1 q2
      obtain ⟨wA, hwA⟩ : ∃ wA, wA = wr.alloc (.cells #[.int .i64 kd, .int .i64 y, .int .u64 (v : Nat)] 74) := ⟨_, rfl⟩
      have bA : Below wr.heap.size wr wA := by rw [hwA]; exact ba _ _
      have kA : Blk wA wr.heap.size 74 #[.int .i64 kd, .int .i64 y, .int .u64 (v : Nat)] := by rw [hwA]; exact Blk.new _ _ _
      have e0 := kA.cell 0
      have e1 := kA.cell 1
      have e2 := kA.cell 2
      simp only [List.getElem?_toArray, List.getElem?_cons_zero, List.getElem?_cons_succ] at e0 e1 e2
      have mA := hM.below bA
      have HA := Lib.hid (And.intro hE (And.intro mA (And.intro (bt hb bA) (hc.below bA))))
      have HWA := Lib.hid hwA
      have hgsl := mA.lt
      rw [hwA] at e0 e1 e2
      have hno : kindB ⟨kd, y, v⟩ = false → areB (fun _ => false) l = false := fun h => by rw [hE]; simp only [areB, h, Bool.false_and]
      have Hno := Lib.hid hno
      clear hE hM hb hc hbk hcs hx hil HR hwA bA kA mA hno
      have fin : Hid (Below w.heap.size w wA) := Lib.hid HA.out.2.2.1
      rcases k1 : (kd == 1) with _ | _
      · have k1n : (kd != 1) = true := by simp [bne, k1]
        rcases k2 : (kd == 2) with _ | _
        · have k2n : (kd != 2) = true := by simp [bne, k2]
          have hF : Hid (areB (fun _ => false) l = false) := Lib.hid (Hno.out (by unfold kindB; simp only [k1, k2]; rfl))
          go_wp2
          rw [← HWA.out]
          go_ret
          exact ⟨by rw [hF.out]; rfl, fin.out⟩
        · have k2n : (kd != 2) = false := by simp [bne, k2]
          rcases v0 : ((v : Int) != 0) with _ | _
          · have hk : Hid (kindB ⟨kd, y, v⟩ = true) := Lib.hid (by
              have : v = 0 := by simpa using v0
              unfold kindB; simp only [k1, k2, this]; rfl)
            rcases ky : keyB y with _ | _
            · have hF : Hid (areB (fun _ => false) l = false) := Lib.hid (by rw [HA.out.1]; simp only [areB, ky, Bool.false_and, Bool.and_false])
              go_wp2_with fail
              rw [← HWA.out]
              refine (kisKey_any y false ky wA).mono ?_
              rintro e u ⟨rfl, rfl⟩
              go_wp2
              go_ret
              exact ⟨by rw [hF.out]; rfl, fin.out⟩
            · obtain ⟨k, hk16, rfl⟩ := keyB_nat ky
              have hkI : (k : Int) < 16 := by omega
              have cM := HA.out.2.1.cell k hk16
              have fM := HA.out.2.1.frozen k
              rw [HWA.out] at cM fM
              rcases hs : M k with _ | _
              · rw [hs] at cM
                have hE2 : Hid (areB (fun _ => false) l = areB (updS M k) (l.drop (i0 + 1))) := Lib.hid (by
                  rw [HA.out.1]
                  simp only [areB, hk.out, ky, Int.toNat_natCast, hs, Bool.true_and, Bool.not_false])
                have HX : Hid (areB (fun _ => false) l = areB (updS M k) (l.drop (i0 + 1)) ∧ ArrB (wA.setCell ⟨gs, k, none⟩ (.bool true)) gs (updS M k) ∧ Below w.heap.size w (wA.setCell ⟨gs, k, none⟩ (.bool true)) ∧ InL (wA.setCell ⟨gs, k, none⟩ (.bool true)) (some ⟨b, o, none⟩) l) := Lib.hid ⟨hE2.out, HA.out.2.1.set_ k hk16, HA.out.2.2.1.setCell (by have := Hgs.out; dsimp only; omega) _, H0.out.below (HA.out.2.2.1.setCell (by have := Hgs.out; dsimp only; omega) _)⟩
                rw [HWA.out] at HX
                go_wp2_with fail
                refine (kisKey_any (k : Int) true ky _).mono ?_
                rintro e u ⟨rfl, rfl⟩
                go_wp2
                go_roundw
                case rel => exact ⟨i0 + 1, _, by omega, by go_num, HX⟩
                case measure => simp [intOf]; omega
              · rw [hs] at cM
                have hF : Hid (areB (fun _ => false) l = false) := Lib.hid (by rw [HA.out.1]; simp only [areB, Int.toNat_natCast, hs, Bool.not_true, Bool.false_and, Bool.and_false])
                go_wp2_with fail
                refine (kisKey_any (k : Int) true ky _).mono ?_
                rintro e u ⟨rfl, rfl⟩
                go_wp2
                rw [← HWA.out]
                go_ret
                exact ⟨by rw [hF.out]; rfl, fin.out⟩
          · have hF : Hid (areB (fun _ => false) l = false) := Lib.hid (Hno.out (by
              have : (v == 0) = false := by simpa using v0
              unfold kindB; simp only [k1, k2, this]; rfl))
            go_wp2
            rw [← HWA.out]
            go_ret
            exact ⟨by rw [hF.out]; rfl, fin.out⟩
      · have k1n : (kd != 1) = false := by simp [bne, k1]
        have k2 : (kd == 2) = false := by
          have : kd = 1 := by simpa using k1
          subst this; rfl
        have hk : Hid (kindB ⟨kd, y, v⟩ = true) := Lib.hid (by unfold kindB; simp only [k1]; rfl)
        rcases ky : keyB y with _ | _
        · have hF : Hid (areB (fun _ => false) l = false) := Lib.hid (by rw [HA.out.1]; simp only [areB, ky, Bool.false_and, Bool.and_false])
          go_wp2_with fail
          rw [← HWA.out]
          refine (kisKey_any y false ky wA).mono ?_
          rintro e u ⟨rfl, rfl⟩
          go_wp2
          go_ret
          exact ⟨by rw [hF.out]; rfl, fin.out⟩
        · obtain ⟨k, hk16, rfl⟩ := keyB_nat ky
          have hkI : (k : Int) < 16 := by omega
          have cM := HA.out.2.1.cell k hk16
          have fM := HA.out.2.1.frozen k
          rw [HWA.out] at cM fM
          rcases hs : M k with _ | _
          · rw [hs] at cM
            have hE2 : Hid (areB (fun _ => false) l = areB (updS M k) (l.drop (i0 + 1))) := Lib.hid (by
              rw [HA.out.1]
              simp only [areB, hk.out, ky, Int.toNat_natCast, hs, Bool.true_and, Bool.not_false])
            have HX : Hid (areB (fun _ => false) l = areB (updS M k) (l.drop (i0 + 1)) ∧ ArrB (wA.setCell ⟨gs, k, none⟩ (.bool true)) gs (updS M k) ∧ Below w.heap.size w (wA.setCell ⟨gs, k, none⟩ (.bool true)) ∧ InL (wA.setCell ⟨gs, k, none⟩ (.bool true)) (some ⟨b, o, none⟩) l) := Lib.hid ⟨hE2.out, HA.out.2.1.set_ k hk16, HA.out.2.2.1.setCell (by have := Hgs.out; dsimp only; omega) _, H0.out.below (HA.out.2.2.1.setCell (by have := Hgs.out; dsimp only; omega) _)⟩
            rw [HWA.out] at HX
            go_wp2_with fail
            refine (kisKey_any (k : Int) true ky _).mono ?_
            rintro e u ⟨rfl, rfl⟩
            go_wp2
            go_roundw
            case rel => exact ⟨i0 + 1, _, by omega, by go_num, HX⟩
            case measure => simp [intOf]; omega
          · rw [hs] at cM
            have hF : Hid (areB (fun _ => false) l = false) := Lib.hid (by rw [HA.out.1]; simp only [areB, Int.toNat_natCast, hs, Bool.not_true, Bool.false_and, Bool.and_false])
            go_wp2_with fail
            refine (kisKey_any (k : Int) true ky _).mono ?_
            rintro e u ⟨rfl, rfl⟩
            go_wp2
            rw [← HWA.out]
            go_ret
            exact ⟨by rw [hF.out]; rfl, fin.out⟩
    · obtain rfl : i0 = n := by omega
      have hiI : ¬ (i0 : Int) < (i0 : Int) := by omega
      have hT : Hid (areB (fun _ => false) l = true) := Lib.hid (by
        rw [HR.out.1, List.drop_of_length_le (by rw [hn.out]; exact Nat.le_refl _)]; rfl)
      have hF := Lib.hid HR.out.2.2.1
      clear HR
      go_wp2
      go_ret
      exact ⟨by rw [hT.out]; rfl, hF.out⟩
set_option maxRecDepth 100000 in
set_option maxHeartbeats 4000000 in
theorem restore_in (g : Nat) (tt : TypeId) (cs : Array Value) (S : KS) (N : Nat) (n : Int) (A : Option Addr) (l : List Ch) (q c : Nat) (w : World) (h : KvAt w g tt cs S N) (hN : N < 300000) (hn : i64ok n) (hq : Hid (q = l.length)) (hqN : q ≤ N + 1) (hc : ∀ u, w.grownBy u (some g) → InL u A l) (hB : ∀ b, w.heap.size ≤ b → S.B b) :
    Calls Tryz.prog 72 #[.pointer (some ⟨g, 0, none⟩), .int .i64 n, .slice A q c] w fun e w' => e = .returned (.int .i64 (restoreM S n l).1) ∧ KvO w g tt cs (restoreM S n l).2 (N + 1) w' := by
  have HN := Lib.hid (names_any g n w)
  by_cases h1 : n < 1
  · have hM : restoreM S n l = (1, S) := if_pos h1
    rw [hM]
    have HF := Lib.hid (KvO.same (h.more (Nat.le_succ N)) (Below.refl _ _))
    have hE : namesE n = 1 := if_pos h1
    rw [hE] at HN
    clear h hM hE hc hB
    go_enter Tryz.func72, Tryz.ntmps72
    go_wp2_with fail
    refine HN.out.mono ?_
    rintro e w1 ⟨rfl, rfl⟩
    go_wp2
    go_ret
    exact ⟨rfl, HF.out⟩
  have hE : namesE n = 0 := if_neg h1
  rw [hE] at HN
  have HA := Lib.hid (are_in A l q c w hq (by omega) (hc w (lbelow_grown (Below.refl _ _) _)))
  have HR : restoreM S n l = if areB (fun _ => false) l = false then (1, S) else if busyB S n = true then (7, S) else if (takeAll S.L n l).1 = 0 then (0, { S with L := (takeAll S.L n l).2, W := restW S n l }) else ((takeAll S.L n l).1, { S with L := (takeAll S.L n l).2 }) := if_neg h1
  rw [HR]
  have H := Lib.hid (And.intro h (And.intro hn hc))
  have HBB := Lib.hid hB
  clear HR hE h hn hc hB
  rcases ha : areB (fun _ => false) l with _ | _
  · rw [if_pos rfl]
    rw [ha] at HA
    clear ha
    go_enter Tryz.func72, Tryz.ntmps72
    go_wp2_with fail
    refine HN.out.mono ?_
    rintro e w1 ⟨rfl, rfl⟩
    go_wp2_with fail
    refine HA.out.mono ?_
    rintro e w2 ⟨rfl, b2⟩
    have HF := Lib.hid (KvO.same (H.out.1.more (Nat.le_succ N)) b2)
    clear b2
    go_wp2
    go_ret
    exact ⟨rfl, HF.out⟩
  rw [if_neg (by simp)]
  rw [ha] at HA
  have Hkeys := Lib.hid (areB_keys l _ ha)
  clear ha
  have hbz := fun (u : World) (hb : Below w.heap.size w u) => busy_any g tt cs S N n u (H.out.1.below hb) H.out.2.1
  rcases hbs : busyB S n with _ | _
  · rw [if_neg (by simp)]
    rw [hbs] at hbz
    have HB := Lib.hid hbz
    clear hbz hbs
    obtain ⟨R, hR⟩ : ∃ R, R = takeAll S.L n l := ⟨_, rfl⟩
    rw [← hR]
    have HRR := Lib.hid hR
    obtain ⟨re, rL⟩ := R
    dsimp only
    rcases hre : (re == 0) with _ | _
    · have hre' : re ≠ 0 := by simpa using hre
      rw [if_neg hre']
      clear hR hre'
      go_enter Tryz.func72, Tryz.ntmps72
      go_wp2_with fail
      refine HN.out.mono ?_
      rintro e w1 ⟨rfl, rfl⟩
      go_wp2_with fail
      refine HA.out.mono ?_
      rintro e w2 ⟨rfl, b2⟩
      go_wp2_with fail
      refine (HB.out w2 b2).mono ?_
      rintro e w3 ⟨rfl, b3⟩
      have H3 := Lib.hid (And.intro (H.out.1.below (bt b2 b3)) (And.intro (H.out.2.2 _ (lbelow_grown (bt b2 b3) _)) (bt b2 b3)))
      clear b2 b3 HA HB HN
      have hqm : q ≤ 9223372036854775807 := by omega
      go_wp2_with fail
      go_loopw [27] (fun i wr => ∃ (i0 : Nat) (L0 : List LRow), i0 ≤ q ∧ i = .int .i64 i0 ∧ Hid (takeAll S.L n l = takeAll L0 n (l.drop i0) ∧ (∃ cs', KvAt wr g tt cs' { S with L := L0 } N ∧ Keep cs cs') ∧ w.grownBy wr (some g) ∧ InL wr A l)) (fun i _ => q - (intOf i).toNat)
      case atStart => exact ⟨0, S.L, Nat.zero_le _, rfl, Lib.hid ⟨rfl, ⟨cs, H3.out.1, Keep.rfl'⟩, lbelow_grown H3.out.2.2 _, H3.out.2.1⟩⟩
      case round =>
        clear H3
        obtain ⟨i0, L0, hi, rfl, HR⟩ := hrel
        by_cases hiq : i0 < q
        · have hiI : (i0 : Int) < (q : Int) := by omega
          obtain ⟨hE, ⟨cs', hk, hkp⟩, hg, hc⟩ := HR.out
          have hil : i0 < l.length := by rw [← hq.out]; exact hiq
          obtain ⟨b, o, rfl, hbk, hcs⟩ := hc (by omega)
          obtain ⟨q0, q1, q2⟩ := hcs i0 hil
          rw [List.drop_eq_getElem_cons hil] at hE
          obtain ⟨x, hx⟩ : ∃ x, x = l[i0]'hil := ⟨_, rfl⟩
          have hxk := Hkeys.out x (by rw [hx]; exact List.getElem_mem hil)
          rw [← hx] at q0 q1 q2 hE
          obtain ⟨kd, y, v⟩ := x
          dsimp only at q0 q1 q2 hxk
          have Hyo := Lib.hid (keyB_ok hxk)
          obtain ⟨TL, hTL⟩ : ∃ TL, TL = takeL L0 n y true := ⟨_, rfl⟩
          obtain ⟨er, her⟩ : ∃ er, er = TL.1 := ⟨_, rfl⟩
          simp only [takeAll, ← hTL, ← her] at hE
          have HTL := Lib.hid hTL
          have Her : Hid (Value.int .i64 (takeL L0 n y true).1 = Value.int .i64 er) := Lib.hid (by rw [← hTL, her])
          obtain ⟨wA, hwA⟩ : ∃ wA, wA = wr.alloc (.cells #[.int .i64 kd, .int .i64 y, .int .u64 (v : Nat)] 74) := ⟨_, rfl⟩
          have bA : Below wr.heap.size wr wA := by rw [hwA]; exact ba _ _
          have kA : Blk wA wr.heap.size 74 #[.int .i64 kd, .int .i64 y, .int .u64 (v : Nat)] := by rw [hwA]; exact Blk.new _ _ _
          have HA2 := Lib.hid (And.intro (hk.below bA) (And.intro hkp (And.intro (hg.trans (lbelow_grown bA (some g))) (And.intro (hc.below bA) (And.intro kA (And.intro hE (show g ≠ wr.heap.size by have := hk.lt; omega)))))))
          have HWA := Lib.hid hwA
          clear hk hkp hg hc hbk hcs hx hil HR hwA bA kA hE hxk hTL
          go_wp2_with fail
          rw [← HWA.out]
          clear q0 q1 q2
          obtain ⟨tb, htb⟩ : ∃ tb, tb = wr.heap.size := ⟨_, rfl⟩
          rw [← htb] at HA2 ⊢
          have HER := Lib.hid her
          clear htb HWA her
          refine wp_region_invJ (F := ?FR1) (V := (VRs g tb n y er)) (C := (CRs wA g tb kd y v (fun u => (∃ cs2, KvAt u g tt cs2 { S with L := TL.2 } N ∧ Keep cs' cs2) ∧ wA.grownBy u (some g)))) (by kernel_rfl) (by kernel_rfl) (by kernel_rfl) (fun x => ?hFR1) ?hCR1 ?stepR1 ?finR1
          case hFR1 => simp only [mkA, Act.put, List.setIfInBounds_toArray, List.set_cons_succ, List.set_cons_zero, Nat.reduceAdd, Nat.zero_add]; first | with_reducible rfl | rfl
          case hCR1 => exact fun x => ⟨HA2.out.2.2.2.2.1, fun _ => rfl, fun e => by simp at e⟩
          case stepR1 =>
            refine AllOps.cons (fun ls x u hC hl hp K hK => ?_) ?_
            · clear hp
              go_simp
              refine hK _ _ _ (CRs.pure (by decide) hC) (by exact rfl) ?_
              first | (simp only [Act.put, List.setIfInBounds_toArray, List.set_cons_succ, List.set_cons_zero]; done) | simp [Act.put]
            refine AllOps.cons (fun ls x u hC hl hp K hK => ?_) ?_
            · simp [KnownTill, Region.binds, VRs] at hp
              go_simp
              refine hK _ _ _ (CRs.pure (by decide) hC) (by exact rfl) ?_
              first | (simp only [Act.put, List.setIfInBounds_toArray, List.set_cons_succ, List.set_cons_zero, hp]; done) | simp [Act.put, hp]
            refine AllOps.cons (fun ls x u hC hl hp K hK => ?_) ?_
            · simp [KnownTill, Region.binds, VRs] at hp
              go_simp
              refine hK _ _ _ (CRs.pure (by decide) hC) (by exact rfl) ?_
              first | (simp only [Act.put, List.setIfInBounds_toArray, List.set_cons_succ, List.set_cons_zero, hp]; done) | simp [Act.put, hp]
            refine AllOps.cons (fun ls x u hC hl hp K hK => ?_) ?_
            · clear hp
              go_simp
              refine hK _ _ _ (CRs.pure (by decide) hC) (by exact rfl) ?_
              first | (simp only [Act.put, List.setIfInBounds_toArray, List.set_cons_succ, List.set_cons_zero]; done) | simp [Act.put]
            refine AllOps.cons (fun ls x u hC hl hp K hK => ?_) ?_
            · clear hp
              go_simp
              refine hK _ _ _ (CRs.pure (by decide) hC) (by exact rfl) ?_
              first | (simp only [Act.put, List.setIfInBounds_toArray, List.set_cons_succ, List.set_cons_zero]; done) | simp [Act.put]
            refine AllOps.cons (fun ls x u hC hl hp K hK => ?_) ?_
            · simp [KnownTill, Region.binds, VRs] at hp
              have cc := hC.b.cell 1
              simp only [List.getElem?_toArray, List.getElem?_cons_zero, List.getElem?_cons_succ] at cc
              go_simp
              refine hK _ _ _ (CRs.pure (by decide) hC) (by exact rfl) ?_
              first | (simp only [Act.put, List.setIfInBounds_toArray, List.set_cons_succ, List.set_cons_zero, hp]; done) | simp [Act.put, hp]
            refine AllOps.cons (fun ls x u hC hl hp K hK => ?_) ?_
            · simp [KnownTill, Region.binds, VRs] at hp
              have hu := hC.n hl
              have hku : KvAt u g tt cs' { S with L := L0 } N := by rw [hu]; exact HA2.out.1.below ⟨rfl, rfl, rfl, Nat.le_refl _, fun _ _ => rfl⟩
              have hgu : wA.grownBy u (some g) := by rw [hu]; exact ⟨rfl, rfl, rfl, Nat.le_refl _, fun _ _ _ => rfl⟩
              have HTk := Lib.hid (take_any g 33 tt cs' L0 n y true u hku.tab Hyo.out H.out.2.1)
              clear hu
              go_simp
              refine HTk.out.mono ?_
              rintro e u2 ⟨rfl, ht, hg2⟩
              have hlk := hku.locked hg2 ht
              refine hK _ _ _ ⟨hC.b.kept hg2 (fun e => HA2.out.2.2.2.2.2.2 (Option.some.inj e).symm), (fun e => by rw [updB_same] at e; cases e), (fun _ => ⟨by rw [HTL.out]; exact hlk, hgu.trans hg2⟩)⟩ (by exact Her.out) ?_
              first | (simp only [Act.put, List.setIfInBounds_toArray, List.set_cons_succ, List.set_cons_zero, hp, Her.out]; done) | simp [Act.put, hp, Her.out]
            refine AllOps.cons (fun ls x u hC hl hp K hK => ?_) ?_
            · simp [KnownTill, Region.binds, VRs] at hp
              go_simp
              refine hK _ _ _ (CRs.pure (by decide) hC) (by exact rfl) ?_
              first | (simp only [Act.put, List.setIfInBounds_toArray, List.set_cons_succ, List.set_cons_zero, hp]; done) | simp [Act.put, hp]
            exact AllOps.nil
          case finR1 =>
            intro ls x u hC hV
            have hs6 := (hV 6 (by decide)).1
            have e7 : x 7 = .int .i64 er := (hV 7 (by decide)).2
            rw [e7]
            obtain ⟨⟨cs2, hk2, hkp2⟩, hg2⟩ := hC.s hs6
            have hgw := HA2.out.2.2.1.trans hg2
            have hc2 := H.out.2.2 u hgw
            rcases her0 : (er == 0) with _ | _
            · have hne : (er != 0) = true := by simp [bne, her0]
              have hne2 : er ≠ 0 := by simpa using her0
              have hE := HA2.out.2.2.2.2.2.1
              rw [if_neg hne2, ← HRR.out] at hE
              injection hE with hE1 hE2
              have hlen2 : TL.2.length ≤ 64 := hk2.lk.1
              have HD := Lib.hid (drop_any g 33 tt cs2 TL.2 n u hk2.tab H.out.2.1)
              have HK := Lib.hid (And.intro hk2 (And.intro (HA2.out.2.1.trans hkp2) hgw))
              have Hre := Lib.hid (And.intro hE1 hE2)
              clear hC hV hk2 hkp2 hg2 hgw hc2 hs6 e7 hE1 hE2 hlen2 hne2
              go_wp2_with fail
              refine HD.out.mono ?_
              rintro e u2 ⟨rfl, ht, hg3⟩
              have HF : Hid (KvO w g tt cs { S with L := rL } (N + 1) u2) := Lib.hid (by
                obtain ⟨cs3, hk3, hkp3⟩ := (HK.out.1.more (Nat.le_succ N)).locked hg3 ht
                rw [Hre.out.2]
                exact KvO.from HK.out.2.1 HK.out.2.2 ⟨⟨cs3, hk3, hkp3⟩, hg3⟩)
              clear ht hg3
              go_wp2
              go_ret
              exact ⟨by rw [Hre.out.1]; rfl, HF.out⟩
            · have hne : (er != 0) = false := by simp [bne, her0]
              have hne2 : er = 0 := by simpa using her0
              have HN2 : Hid (takeAll S.L n l = takeAll TL.2 n (l.drop (i0 + 1)) ∧ (∃ cs', KvAt u g tt cs' { S with L := TL.2 } N ∧ Keep cs cs') ∧ w.grownBy u (some g) ∧ InL u (some ⟨b, o, none⟩) l) := Lib.hid ⟨by have hE := HA2.out.2.2.2.2.2.1; rw [if_pos hne2] at hE; exact hE, ⟨cs2, hk2, HA2.out.2.1.trans hkp2⟩, hgw, hc2⟩
              clear hC hV hk2 hkp2 hg2 hgw hc2 hs6 e7 hne2
              go_wp2
              go_roundw
              case rel => exact ⟨i0 + 1, TL.2, by omega, by go_num, HN2⟩
              case measure => simp [intOf]; omega
        · obtain rfl : i0 = q := by omega
          have hiI : ¬ (i0 : Int) < (i0 : Int) := by omega
          obtain ⟨hE, ⟨cs', hk, hkp⟩, hg, hc⟩ := HR.out
          rw [List.drop_of_length_le (by rw [hq.out]; exact Nat.le_refl _)] at hE
          rw [show takeAll L0 n [] = (0, L0) from rfl, ← HRR.out] at hE
          injection hE with hE1 hE2
          subst hE1
          simp at hre
    · obtain rfl : re = 0 := by simpa using hre
      rw [if_pos rfl]
      clear hR hre
      go_enter Tryz.func72, Tryz.ntmps72
      go_wp2_with fail
      refine HN.out.mono ?_
      rintro e w1 ⟨rfl, rfl⟩
      go_wp2_with fail
      refine HA.out.mono ?_
      rintro e w2 ⟨rfl, b2⟩
      go_wp2_with fail
      refine (HB.out w2 b2).mono ?_
      rintro e w3 ⟨rfl, b3⟩
      have H3 := Lib.hid (And.intro (H.out.1.below (bt b2 b3)) (And.intro (H.out.2.2 _ (lbelow_grown (bt b2 b3) _)) (bt b2 b3)))
      clear b2 b3 HA HB HN
      have hqm : q ≤ 9223372036854775807 := by omega
      go_wp2_with fail
      go_loopw [27] (fun i wr => ∃ (i0 : Nat) (L0 : List LRow), i0 ≤ q ∧ i = .int .i64 i0 ∧ Hid (takeAll S.L n l = takeAll L0 n (l.drop i0) ∧ (∃ cs', KvAt wr g tt cs' { S with L := L0 } N ∧ Keep cs cs') ∧ w.grownBy wr (some g) ∧ InL wr A l)) (fun i _ => q - (intOf i).toNat)
      case atStart => exact ⟨0, S.L, Nat.zero_le _, rfl, Lib.hid ⟨rfl, ⟨cs, H3.out.1, Keep.rfl'⟩, lbelow_grown H3.out.2.2 _, H3.out.2.1⟩⟩
      case round =>
        clear H3
        obtain ⟨i0, L0, hi, rfl, HR⟩ := hrel
        by_cases hiq : i0 < q
        · have hiI : (i0 : Int) < (q : Int) := by omega
          obtain ⟨hE, ⟨cs', hk, hkp⟩, hg, hc⟩ := HR.out
          have hil : i0 < l.length := by rw [← hq.out]; exact hiq
          obtain ⟨b, o, rfl, hbk, hcs⟩ := hc (by omega)
          obtain ⟨q0, q1, q2⟩ := hcs i0 hil
          rw [List.drop_eq_getElem_cons hil] at hE
          obtain ⟨x, hx⟩ : ∃ x, x = l[i0]'hil := ⟨_, rfl⟩
          have hxk := Hkeys.out x (by rw [hx]; exact List.getElem_mem hil)
          rw [← hx] at q0 q1 q2 hE
          obtain ⟨kd, y, v⟩ := x
          dsimp only at q0 q1 q2 hxk
          have Hyo := Lib.hid (keyB_ok hxk)
          obtain ⟨TL, hTL⟩ : ∃ TL, TL = takeL L0 n y true := ⟨_, rfl⟩
          obtain ⟨er, her⟩ : ∃ er, er = TL.1 := ⟨_, rfl⟩
          simp only [takeAll, ← hTL, ← her] at hE
          have HTL := Lib.hid hTL
          have Her : Hid (Value.int .i64 (takeL L0 n y true).1 = Value.int .i64 er) := Lib.hid (by rw [← hTL, her])
          obtain ⟨wA, hwA⟩ : ∃ wA, wA = wr.alloc (.cells #[.int .i64 kd, .int .i64 y, .int .u64 (v : Nat)] 74) := ⟨_, rfl⟩
          have bA : Below wr.heap.size wr wA := by rw [hwA]; exact ba _ _
          have kA : Blk wA wr.heap.size 74 #[.int .i64 kd, .int .i64 y, .int .u64 (v : Nat)] := by rw [hwA]; exact Blk.new _ _ _
          have HA2 := Lib.hid (And.intro (hk.below bA) (And.intro hkp (And.intro (hg.trans (lbelow_grown bA (some g))) (And.intro (hc.below bA) (And.intro kA (And.intro hE (show g ≠ wr.heap.size by have := hk.lt; omega)))))))
          have HWA := Lib.hid hwA
          clear hk hkp hg hc hbk hcs hx hil HR hwA bA kA hE hxk hTL
          go_wp2_with fail
          rw [← HWA.out]
          clear q0 q1 q2
          obtain ⟨tb, htb⟩ : ∃ tb, tb = wr.heap.size := ⟨_, rfl⟩
          rw [← htb] at HA2 ⊢
          have HER := Lib.hid her
          clear htb HWA her
          refine wp_region_invJ (F := ?FR2) (V := (VRs g tb n y er)) (C := (CRs wA g tb kd y v (fun u => (∃ cs2, KvAt u g tt cs2 { S with L := TL.2 } N ∧ Keep cs' cs2) ∧ wA.grownBy u (some g)))) (by kernel_rfl) (by kernel_rfl) (by kernel_rfl) (fun x => ?hFR2) ?hCR2 ?stepR2 ?finR2
          case hFR2 => simp only [mkA, Act.put, List.setIfInBounds_toArray, List.set_cons_succ, List.set_cons_zero, Nat.reduceAdd, Nat.zero_add]; first | with_reducible rfl | rfl
          case hCR2 => exact fun x => ⟨HA2.out.2.2.2.2.1, fun _ => rfl, fun e => by simp at e⟩
          case stepR2 =>
            refine AllOps.cons (fun ls x u hC hl hp K hK => ?_) ?_
            · clear hp
              go_simp
              refine hK _ _ _ (CRs.pure (by decide) hC) (by exact rfl) ?_
              first | (simp only [Act.put, List.setIfInBounds_toArray, List.set_cons_succ, List.set_cons_zero]; done) | simp [Act.put]
            refine AllOps.cons (fun ls x u hC hl hp K hK => ?_) ?_
            · simp [KnownTill, Region.binds, VRs] at hp
              go_simp
              refine hK _ _ _ (CRs.pure (by decide) hC) (by exact rfl) ?_
              first | (simp only [Act.put, List.setIfInBounds_toArray, List.set_cons_succ, List.set_cons_zero, hp]; done) | simp [Act.put, hp]
            refine AllOps.cons (fun ls x u hC hl hp K hK => ?_) ?_
            · simp [KnownTill, Region.binds, VRs] at hp
              go_simp
              refine hK _ _ _ (CRs.pure (by decide) hC) (by exact rfl) ?_
              first | (simp only [Act.put, List.setIfInBounds_toArray, List.set_cons_succ, List.set_cons_zero, hp]; done) | simp [Act.put, hp]
            refine AllOps.cons (fun ls x u hC hl hp K hK => ?_) ?_
            · clear hp
              go_simp
              refine hK _ _ _ (CRs.pure (by decide) hC) (by exact rfl) ?_
              first | (simp only [Act.put, List.setIfInBounds_toArray, List.set_cons_succ, List.set_cons_zero]; done) | simp [Act.put]
            refine AllOps.cons (fun ls x u hC hl hp K hK => ?_) ?_
            · clear hp
              go_simp
              refine hK _ _ _ (CRs.pure (by decide) hC) (by exact rfl) ?_
              first | (simp only [Act.put, List.setIfInBounds_toArray, List.set_cons_succ, List.set_cons_zero]; done) | simp [Act.put]
            refine AllOps.cons (fun ls x u hC hl hp K hK => ?_) ?_
            · simp [KnownTill, Region.binds, VRs] at hp
              have cc := hC.b.cell 1
              simp only [List.getElem?_toArray, List.getElem?_cons_zero, List.getElem?_cons_succ] at cc
              go_simp
              refine hK _ _ _ (CRs.pure (by decide) hC) (by exact rfl) ?_
              first | (simp only [Act.put, List.setIfInBounds_toArray, List.set_cons_succ, List.set_cons_zero, hp]; done) | simp [Act.put, hp]
            refine AllOps.cons (fun ls x u hC hl hp K hK => ?_) ?_
            · simp [KnownTill, Region.binds, VRs] at hp
              have hu := hC.n hl
              have hku : KvAt u g tt cs' { S with L := L0 } N := by rw [hu]; exact HA2.out.1.below ⟨rfl, rfl, rfl, Nat.le_refl _, fun _ _ => rfl⟩
              have hgu : wA.grownBy u (some g) := by rw [hu]; exact ⟨rfl, rfl, rfl, Nat.le_refl _, fun _ _ _ => rfl⟩
              have HTk := Lib.hid (take_any g 33 tt cs' L0 n y true u hku.tab Hyo.out H.out.2.1)
              clear hu
              go_simp
              refine HTk.out.mono ?_
              rintro e u2 ⟨rfl, ht, hg2⟩
              have hlk := hku.locked hg2 ht
              refine hK _ _ _ ⟨hC.b.kept hg2 (fun e => HA2.out.2.2.2.2.2.2 (Option.some.inj e).symm), (fun e => by rw [updB_same] at e; cases e), (fun _ => ⟨by rw [HTL.out]; exact hlk, hgu.trans hg2⟩)⟩ (by exact Her.out) ?_
              first | (simp only [Act.put, List.setIfInBounds_toArray, List.set_cons_succ, List.set_cons_zero, hp, Her.out]; done) | simp [Act.put, hp, Her.out]
            refine AllOps.cons (fun ls x u hC hl hp K hK => ?_) ?_
            · simp [KnownTill, Region.binds, VRs] at hp
              go_simp
              refine hK _ _ _ (CRs.pure (by decide) hC) (by exact rfl) ?_
              first | (simp only [Act.put, List.setIfInBounds_toArray, List.set_cons_succ, List.set_cons_zero, hp]; done) | simp [Act.put, hp]
            exact AllOps.nil
          case finR2 =>
            intro ls x u hC hV
            have hs6 := (hV 6 (by decide)).1
            have e7 : x 7 = .int .i64 er := (hV 7 (by decide)).2
            rw [e7]
            obtain ⟨⟨cs2, hk2, hkp2⟩, hg2⟩ := hC.s hs6
            have hgw := HA2.out.2.2.1.trans hg2
            have hc2 := H.out.2.2 u hgw
            rcases her0 : (er == 0) with _ | _
            · have hne : (er != 0) = true := by simp [bne, her0]
              have hne2 : er ≠ 0 := by simpa using her0
              have hE := HA2.out.2.2.2.2.2.1
              rw [if_neg hne2, ← HRR.out] at hE
              injection hE with hE1 hE2
              exact absurd hE1.symm hne2
            · have hne : (er != 0) = false := by simp [bne, her0]
              have hne2 : er = 0 := by simpa using her0
              have HN2 : Hid (takeAll S.L n l = takeAll TL.2 n (l.drop (i0 + 1)) ∧ (∃ cs', KvAt u g tt cs' { S with L := TL.2 } N ∧ Keep cs cs') ∧ w.grownBy u (some g) ∧ InL u (some ⟨b, o, none⟩) l) := Lib.hid ⟨by have hE := HA2.out.2.2.2.2.2.1; rw [if_pos hne2] at hE; exact hE, ⟨cs2, hk2, HA2.out.2.1.trans hkp2⟩, hgw, hc2⟩
              clear hC hV hk2 hkp2 hg2 hgw hc2 hs6 e7 hne2
              go_wp2
              go_roundw
              case rel => exact ⟨i0 + 1, TL.2, by omega, by go_num, HN2⟩
              case measure => simp [intOf]; omega
        · obtain rfl : i0 = q := by omega
          have hiI : ¬ (i0 : Int) < (i0 : Int) := by omega
          obtain ⟨hE, ⟨cs', hk, hkp⟩, hg, hc⟩ := HR.out
          rw [List.drop_of_length_le (by rw [hq.out]; exact Nat.le_refl _)] at hE
          rw [show takeAll L0 n [] = (0, L0) from rfl, ← HRR.out] at hE
          injection hE with _ hE2
          subst hE2
          by_cases hl0 : i0 = 0
          · subst hl0
            have hl : l = [] := List.eq_nil_of_length_eq_zero hq.out.symm
            have HF : Hid (KvO w g tt cs { S with L := rL, W := restW S n l } (N + 1) wr) := Lib.hid (by
              unfold restW; rw [if_pos hl]; exact ⟨⟨cs', hk.more (Nat.le_succ N), hkp⟩, hg⟩)
            clear hk hkp hg hc HR hl
            go_wp2
            go_ret
            exact ⟨rfl, HF.out⟩
          · have hl : l ≠ [] := fun e => hl0 (by rw [hq.out, e]; rfl)
            have hl0I : (0 : Int) < (i0 : Int) := by omega
            have HCl := Lib.hid (cclone_in A l i0 c wr (Lib.hid hq.out) (Lib.hid (by omega)) hc)
            have HK := Lib.hid (And.intro hk (And.intro hkp (And.intro hg hl)))
            clear hk hkp hg hc HR hl
            go_wp2_with fail
            refine HCl.out.mono ?_
            rintro e w4 ⟨A4, c4, rfl, own4, b4⟩
            have HL := Lib.hid (lay_any g tt cs' { S with L := rL } N n A4 l i0 c4 true w4 (HK.out.1.below b4) (by omega) H.out.2.1 hq.out (by rw [← hq.out]; exact hqN) Hkeys.out (own4.at_.mono fun b hb _ => HBB.out b (Nat.le_trans HK.out.2.2.1.size hb)))
            have HG := Lib.hid (HK.out.2.2.1.trans (lbelow_grown b4 (some g)))
            clear own4 b4
            go_wp2_with fail
            refine HL.out.mono ?_
            rintro e w5 ⟨rfl, hk5, hg5⟩
            have HF : Hid (KvO w g tt cs { S with L := rL, W := restW S n l } (N + 1) w5) := Lib.hid (by
              unfold restW; rw [if_neg HK.out.2.2.2]; exact KvO.from HK.out.2.1 HG.out ⟨hk5, hg5⟩)
            clear hk5 hg5
            go_wp2
            go_ret
            exact ⟨rfl, HF.out⟩
  · rw [if_pos rfl]
    rw [hbs] at hbz
    have HB := Lib.hid hbz
    clear hbz hbs
    go_enter Tryz.func72, Tryz.ntmps72
    go_wp2_with fail
    refine HN.out.mono ?_
    rintro e w1 ⟨rfl, rfl⟩
    go_wp2_with fail
    refine HA.out.mono ?_
    rintro e w2 ⟨rfl, b2⟩
    go_wp2_with fail
    refine (HB.out w2 b2).mono ?_
    rintro e w3 ⟨rfl, b3⟩
    have HF := Lib.hid (KvO.same (H.out.1.more (Nat.le_succ N)) (bt b2 b3))
    clear b2 b3
    go_wp2
    go_ret
    exact ⟨rfl, HF.out⟩
end Go.Proofs.YtlliaihmfimdoaaGreat

namespace Go.Proofs.YtlliaihmfimdoaaGreat.Re
open Go.RowKit Go.Maps Go.Deep Go.Proofs.YtlliaihmfimdoaaGreat
set_option linter.unusedVariables false
set_option linter.unusedSimpArgs false

def isK (c : Ch) : Bool := decide (1 ≤ c.k) && decide (c.k ≤ 2)
theorem isk_any (k y : Int) (v : Nat) (w : World) : Calls Tryz.prog 71 #[.agg #[.int .i64 k, .int .i64 y, .int .u64 (v : Nat)]] w fun e w' => e = .returned (.bool (isK ⟨k, y, v⟩)) ∧ Below w.heap.size w w' := by
  have hb := ba w (.cells #[.int .i64 k, .int .i64 y, .int .u64 (v : Nat)] 74)
  have HB := Lib.hid hb
  clear hb
  by_cases h1 : 1 ≤ k
  · have hR : Hid (isK ⟨k, y, v⟩ = decide (k ≤ 2)) := Lib.hid (by unfold isK; simp [h1])
    go_enter Tryz.func71, Tryz.ntmps71
    go_wp2
    go_ret
    exact ⟨by rw [hR.out]; rfl, HB.out⟩
  · have hR : Hid (isK ⟨k, y, v⟩ = false) := Lib.hid (by unfold isK; simp [h1])
    go_enter Tryz.func71, Tryz.ntmps71
    go_wp2
    go_ret
    exact ⟨by rw [hR.out]; rfl, HB.out⟩
theorem notk_any (k y : Int) (v : Nat) (w : World) : Calls Tryz.prog 115 #[.agg #[.int .i64 k, .int .i64 y, .int .u64 (v : Nat)]] w fun e w' => e = .returned (.bool (!isK ⟨k, y, v⟩)) ∧ Below w.heap.size w w' := by
  have hb := ba w (.cells #[.int .i64 k, .int .i64 y, .int .u64 (v : Nat)] 74)
  have HB := Lib.hid hb
  have kb := Blk.new w 74 #[.int .i64 k, .int .i64 y, .int .u64 (v : Nat)]
  have c0 := kb.cell 0
  have c1 := kb.cell 1
  have c2 := kb.cell 2
  simp only [List.getElem?_toArray, List.getElem?_cons_zero, List.getElem?_cons_succ] at c0 c1 c2
  clear hb kb
  go_enter Tryz.func115, Tryz.ntmps115
  go_wp2_with fail
  refine (isk_any k y v _).mono ?_
  rintro e w1 ⟨rfl, b1⟩
  have HX := Lib.hid (bt HB.out b1)
  clear b1 c0 c1 c2
  go_wp2
  go_ret
  exact ⟨rfl, HX.out⟩
def posC (p : Ch → Bool) (l : List Ch) : Nat := l.findIdx p
def posD (p : Ch → Bool) (l : List Ch) : Int := if posC p l < l.length then (posC p l : Nat) else -1
def notK (c : Ch) : Bool := !isK c
set_option maxRecDepth 100000 in
set_option maxHeartbeats 1000000 in
theorem indexk_any (A : Option Addr) (l : List Ch) (n c : Nat) (hn : Hid (n = l.length)) (hm : n ≤ 1000000) (w : World) (h : InL w A l) :
    Calls Tryz.prog 97 #[.slice A n c, .func (.func 71) #[] #[]] w fun e w' => e = .returned (.int .i64 (posD isK l)) ∧ Below w.heap.size w w' := by
  have H := Lib.hid h
  clear h
  go_enter Tryz.func97, Tryz.ntmps97
  go_wp2_with fail
  go_loopw [8] (fun i wr => ∃ (j : Nat), j ≤ n ∧ i = .int .i64 j ∧ Hid (∀ q, q < j → ∀ hq : q < l.length, isK (l[q]'hq) = false) ∧ Hid (Below w.heap.size w wr)) (fun i _ => n - (intOf i).toNat)
  case atStart => exact ⟨0, Nat.zero_le _, rfl, Lib.hid (fun q hq => by omega), Lib.hid (Below.refl _ _)⟩
  case round =>
    obtain ⟨j, hj, rfl, hno, hb⟩ := hrel
    by_cases hjn : j < n
    · have hjI : (j : Int) < (n : Int) := by omega
      have hjl : j < l.length := by rw [← hn.out]; exact hjn
      obtain ⟨b, o, rfl, _, hcs⟩ := (H.out.below hb.out) (by omega)
      obtain ⟨q0, q1, q2⟩ := hcs j hjl
      obtain ⟨x, hx⟩ : ∃ x, x = l[j]'hjl := ⟨_, rfl⟩
      rw [← hx] at q0 q1 q2
      have HX := Lib.hid (show ∃ hjl : j < l.length, x = l[j]'hjl from ⟨hjl, hx⟩)
      obtain ⟨xk, xy, xv⟩ := x
      dsimp only at q0 q1 q2
      have hC := isk_any xk xy xv wr
      obtain ⟨r, hr⟩ : ∃ r, r = isK ⟨xk, xy, xv⟩ := ⟨_, rfl⟩
      have hC2 : Calls Tryz.prog 71 #[.agg #[.int .i64 xk, .int .i64 xy, .int .u64 (xv : Nat)]] wr fun e w' => e = .returned (.bool r) ∧ Below wr.heap.size wr w' := by rw [hr]; exact hC
      have HC := Lib.hid hC2
      have HRr := Lib.hid hr
      clear hcs hx hjl hC hC2 hr
      rcases r with _ | _
      · have hno2 : Hid (∀ q, q < j + 1 → ∀ hq : q < l.length, isK (l[q]'hq) = false) := Lib.hid fun q hq hql => by
          by_cases e : q = j
          · subst e
            obtain ⟨_, hx⟩ := HX.out
            rw [← hx, ← HRr.out]
          · exact hno.out q (by omega) hql
        go_wp2_with fail
        refine HC.out.mono ?_
        rintro e w2 ⟨rfl, b2⟩
        have hb2 := Lib.hid (bt hb.out b2)
        clear b2 q0 q1 q2
        go_wp2
        go_roundw
        case rel => exact ⟨j + 1, by omega, by go_num, hno2, hb2⟩
        case measure => simp [intOf]; omega
      · have hpos : Hid (posD isK l = (j : Int)) := Lib.hid (by
          obtain ⟨hjl, hx⟩ := HX.out
          have e : posC isK l = j := by
            unfold posC
            rw [List.findIdx_eq hjl]
            exact ⟨by rw [← hx]; exact HRr.out.symm, fun q hq => hno.out q hq (by omega)⟩
          unfold posD
          rw [e, if_pos hjl])
        go_wp2_with fail
        refine HC.out.mono ?_
        rintro e w2 ⟨rfl, b2⟩
        have hb2 := Lib.hid (bt hb.out b2)
        clear b2 q0 q1 q2
        go_wp2
        go_ret
        exact ⟨by rw [hpos.out]; rfl, hb2.out⟩
    · obtain rfl : j = n := by omega
      have hjI : ¬ (j : Int) < (j : Int) := by omega
      have hpos : Hid (posD isK l = -1) := Lib.hid (by
        have e : posC isK l = l.length := by
          unfold posC
          rw [List.findIdx_eq_length]
          intro x hx
          obtain ⟨q, hq, rfl⟩ := List.mem_iff_getElem.1 hx
          exact hno.out q (by rw [hn.out]; exact hq) hq
        unfold posD
        rw [e, if_neg (by omega)])
      go_wp2
      go_ret
      exact ⟨by rw [hpos.out]; rfl, hb.out⟩
set_option maxRecDepth 100000 in
set_option maxHeartbeats 1000000 in
theorem indexn_any (A : Option Addr) (l : List Ch) (n c : Nat) (hn : Hid (n = l.length)) (hm : n ≤ 1000000) (w : World) (h : InL w A l) :
    Calls Tryz.prog 97 #[.slice A n c, .func (.func 115) #[] #[]] w fun e w' => e = .returned (.int .i64 (posD notK l)) ∧ Below w.heap.size w w' := by
  have H := Lib.hid h
  clear h
  go_enter Tryz.func97, Tryz.ntmps97
  go_wp2_with fail
  go_loopw [8] (fun i wr => ∃ (j : Nat), j ≤ n ∧ i = .int .i64 j ∧ Hid (∀ q, q < j → ∀ hq : q < l.length, notK (l[q]'hq) = false) ∧ Hid (Below w.heap.size w wr)) (fun i _ => n - (intOf i).toNat)
  case atStart => exact ⟨0, Nat.zero_le _, rfl, Lib.hid (fun q hq => by omega), Lib.hid (Below.refl _ _)⟩
  case round =>
    obtain ⟨j, hj, rfl, hno, hb⟩ := hrel
    by_cases hjn : j < n
    · have hjI : (j : Int) < (n : Int) := by omega
      have hjl : j < l.length := by rw [← hn.out]; exact hjn
      obtain ⟨b, o, rfl, _, hcs⟩ := (H.out.below hb.out) (by omega)
      obtain ⟨q0, q1, q2⟩ := hcs j hjl
      obtain ⟨x, hx⟩ : ∃ x, x = l[j]'hjl := ⟨_, rfl⟩
      rw [← hx] at q0 q1 q2
      have HX := Lib.hid (show ∃ hjl : j < l.length, x = l[j]'hjl from ⟨hjl, hx⟩)
      obtain ⟨xk, xy, xv⟩ := x
      dsimp only at q0 q1 q2
      have hC := notk_any xk xy xv wr
      obtain ⟨r, hr⟩ : ∃ r, r = notK ⟨xk, xy, xv⟩ := ⟨_, rfl⟩
      have hC2 : Calls Tryz.prog 115 #[.agg #[.int .i64 xk, .int .i64 xy, .int .u64 (xv : Nat)]] wr fun e w' => e = .returned (.bool r) ∧ Below wr.heap.size wr w' := by rw [hr]; exact hC
      have HC := Lib.hid hC2
      have HRr := Lib.hid hr
      clear hcs hx hjl hC hC2 hr
      rcases r with _ | _
      · have hno2 : Hid (∀ q, q < j + 1 → ∀ hq : q < l.length, notK (l[q]'hq) = false) := Lib.hid fun q hq hql => by
          by_cases e : q = j
          · subst e
            obtain ⟨_, hx⟩ := HX.out
            rw [← hx, ← HRr.out]
          · exact hno.out q (by omega) hql
        go_wp2_with fail
        refine HC.out.mono ?_
        rintro e w2 ⟨rfl, b2⟩
        have hb2 := Lib.hid (bt hb.out b2)
        clear b2 q0 q1 q2
        go_wp2
        go_roundw
        case rel => exact ⟨j + 1, by omega, by go_num, hno2, hb2⟩
        case measure => simp [intOf]; omega
      · have hpos : Hid (posD notK l = (j : Int)) := Lib.hid (by
          obtain ⟨hjl, hx⟩ := HX.out
          have e : posC notK l = j := by
            unfold posC
            rw [List.findIdx_eq hjl]
            exact ⟨by rw [← hx]; exact HRr.out.symm, fun q hq => hno.out q hq (by omega)⟩
          unfold posD
          rw [e, if_pos hjl])
        go_wp2_with fail
        refine HC.out.mono ?_
        rintro e w2 ⟨rfl, b2⟩
        have hb2 := Lib.hid (bt hb.out b2)
        clear b2 q0 q1 q2
        go_wp2
        go_ret
        exact ⟨by rw [hpos.out]; rfl, hb2.out⟩
    · obtain rfl : j = n := by omega
      have hjI : ¬ (j : Int) < (j : Int) := by omega
      have hpos : Hid (posD notK l = -1) := Lib.hid (by
        have e : posC notK l = l.length := by
          unfold posC
          rw [List.findIdx_eq_length]
          intro x hx
          obtain ⟨q, hq, rfl⟩ := List.mem_iff_getElem.1 hx
          exact hno.out q (by rw [hn.out]; exact hq) hq
        unfold posD
        rw [e, if_neg (by omega)])
      go_wp2
      go_ret
      exact ⟨by rw [hpos.out]; rfl, hb.out⟩
end Go.Proofs.YtlliaihmfimdoaaGreat.Re

namespace Go.Proofs.YtlliaihmfimdoaaGreat.Re
open Go.RowKit Go.Maps Go.Deep Go.Proofs.YtlliaihmfimdoaaGreat
set_option linter.unusedVariables false
set_option linter.unusedSimpArgs false

theorem posD_any (l : List Ch) (p : Ch → Bool) : decide (0 ≤ posD p l) = l.any p := by
  unfold posD posC
  by_cases h : l.findIdx p < l.length
  · rw [if_pos h]
    have := List.findIdx_lt_length.1 h
    rw [List.any_eq_true.2 (by obtain ⟨x, hx, hp⟩ := this; exact ⟨x, hx, hp⟩)]
    simp
  · rw [if_neg h]
    have : l.any p = false := by
      rw [List.any_eq_false]
      intro x hx hp
      exact h (List.findIdx_lt_length.2 ⟨x, hx, hp⟩)
    rw [this]; rfl
set_option maxRecDepth 100000 in
set_option maxHeartbeats 1000000 in
theorem containsk_any (A : Option Addr) (l : List Ch) (n c : Nat) (hn : Hid (n = l.length)) (hm : n ≤ 1000000) (w : World) (h : InL w A l) :
    Calls Tryz.prog 56 #[.slice A n c, .func (.func 71) #[] #[]] w fun e w' => e = .returned (.bool (l.any isK)) ∧ Below w.heap.size w w' := by
  have HC := Lib.hid (indexk_any A l n c hn hm w h)
  obtain ⟨k, hk⟩ : ∃ k, k = posD isK l := ⟨_, rfl⟩
  rw [← hk] at HC
  have HK : Hid (l.any isK = decide (0 ≤ k)) := Lib.hid (by rw [hk, posD_any])
  clear h hk
  go_enter Tryz.func56, Tryz.ntmps56
  go_wp2_with fail
  refine HC.out.mono ?_
  rintro e w1 ⟨rfl, b1⟩
  have HB := Lib.hid b1
  clear b1
  go_wp2
  go_ret
  exact ⟨by rw [HK.out]; rfl, HB.out⟩
/-- Where the changes of keys that stand ahead end. -/
def endK (l : List Ch) : Nat := posC notK l
theorem endK_le (l : List Ch) : endK l ≤ l.length := List.findIdx_le_length
def shiftA (A : Option Addr) (m : Nat) : Option Addr := A.map fun a => ⟨a.block, a.off + m * 3, a.spot⟩
theorem inl_take {u : World} {A : Option Addr} {l : List Ch} (h : InL u A l) (m : Nat) : InL u A (l.take m) := fun hl => by
  rw [List.length_take] at hl
  obtain ⟨b, o, e, hb, hc⟩ := h (by omega)
  refine ⟨b, o, e, hb, fun i hi => ?_⟩
  rw [List.length_take] at hi
  rw [List.getElem_take]
  exact hc i (by omega)
theorem inl_drop {u : World} {A : Option Addr} {l : List Ch} (h : InL u A l) (m : Nat) : InL u (shiftA A m) (l.drop m) := fun hl => by
  rw [List.length_drop] at hl
  obtain ⟨b, o, rfl, hb, hc⟩ := h (by omega)
  refine ⟨b, o + m * 3, rfl, hb, fun i hi => ?_⟩
  rw [List.length_drop] at hi
  rw [List.getElem_drop]
  have := hc (m + i) (by omega)
  rw [show o + m * 3 + i * 3 = o + (m + i) * 3 by omega]
  exact this
set_option maxRecDepth 100000 in
set_option maxHeartbeats 1000000 in
theorem parted_any (A : Option Addr) (l : List Ch) (n c : Nat) (hn : Hid (n = l.length)) (hm : n ≤ 1000000) (hc : n ≤ c ∧ c ≤ 9223372036854775807) (w : World) (h : InL w A l) :
    Calls Tryz.prog 70 #[.slice A n c] w fun e w' => (∃ A2, e = .returned (.tuple #[.slice A (endK l) c, .slice A2 (n - endK l) (c - endK l)]) ∧ (endK l < n → A2 = shiftA A (endK l))) ∧ Below w.heap.size w w' := by
  have HC := Lib.hid (indexn_any A l n c hn hm w h)
  have HA : Hid (0 < n → ∃ b o, A = some ⟨b, o, none⟩) := Lib.hid fun h0 => by
    obtain ⟨b, o, e, _⟩ := h (by rw [← hn.out]; exact h0)
    exact ⟨b, o, e⟩
  obtain ⟨m, hmm⟩ : ∃ m, m = endK l := ⟨_, rfl⟩
  have hmn : m ≤ n := by rw [hmm, hn.out]; exact endK_le l
  rw [← hmm]
  have HD : Hid ((m < n → posD notK l = (m : Nat)) ∧ (¬ m < n → posD notK l = -1)) := Lib.hid (by
    rw [hmm, hn.out]
    unfold posD endK
    exact ⟨fun h => if_pos h, fun h => if_neg h⟩)
  clear h hmm
  by_cases hlt : m < n
  · rw [HD.out.1 hlt] at HC
    obtain ⟨b, o, rfl⟩ := HA.out (by omega)
    have hmI : ¬ (m : Int) < 0 := by omega
    have hmI2 : decide ((m : Int) < 0) = false := decide_eq_false hmI
    have hmc : (m : Int) ≤ (c : Int) := by omega
    have hmn2 : (m : Int) ≤ (n : Int) := by omega
    have hnc : (n : Int) ≤ (c : Int) := by omega
    go_enter Tryz.func70, Tryz.ntmps70
    go_wp2_with fail
    refine HC.out.mono ?_
    rintro e w1 ⟨rfl, b1⟩
    have HB : Hid (∀ k : Nat, Below w.heap.size w (w1.drewN k)) := Lib.hid fun k => bt b1 ⟨rfl, rfl, rfl, Nat.le_refl _, fun _ _ => rfl⟩
    clear b1
    go_wp2_with fail
    go_quiet (fail)
    go_wp2
    go_ret2
    exact ⟨⟨_, rfl, fun _ => rfl⟩, HB.out nq⟩
  · rw [HD.out.2 hlt] at HC
    obtain rfl : m = n := by omega
    have hmc : (m : Int) ≤ (c : Int) := by omega
    have HX : Hid (∀ A2 : Option Addr, m < m → A2 = shiftA A m) := Lib.hid fun A2 h => absurd h (Nat.lt_irrefl _)
    rcases A with _ | a
    · have hm0 : m = 0 := Classical.byContradiction fun e => by
        obtain ⟨b, o, e2⟩ := HA.out (by omega)
        cases e2
      subst hm0
      go_enter Tryz.func70, Tryz.ntmps70
      go_wp2_with fail
      refine HC.out.mono ?_
      rintro e w1 ⟨rfl, b1⟩
      have HB : Hid (∀ k : Nat, Below w.heap.size w (w1.drewN k)) := Lib.hid fun k => bt b1 ⟨rfl, rfl, rfl, Nat.le_refl _, fun _ _ => rfl⟩
      clear b1
      go_wp2_with fail
      go_quiet (fail)
      go_wp2
      go_ret2
      exact ⟨⟨_, rfl, HX.out _⟩, HB.out nq⟩
    · obtain ⟨ab, ao, af⟩ := a
      go_enter Tryz.func70, Tryz.ntmps70
      go_wp2_with fail
      refine HC.out.mono ?_
      rintro e w1 ⟨rfl, b1⟩
      have HB : Hid (∀ k : Nat, Below w.heap.size w (w1.drewN k)) := Lib.hid fun k => bt b1 ⟨rfl, rfl, rfl, Nat.le_refl _, fun _ _ => rfl⟩
      clear b1
      go_wp2_with fail
      go_quiet (fail)
      all_goals
        go_wp2
        all_goals
          go_ret2
          first | exact ⟨⟨_, rfl⟩, HB.out nq⟩ | exact ⟨⟨_, rfl, HX.out _⟩, HB.out nq⟩
end Go.Proofs.YtlliaihmfimdoaaGreat.Re

namespace Go.Proofs.YtlliaihmfimdoaaGreat.Re
open Go.RowKit Go.Maps Go.Deep Go.Proofs.YtlliaihmfimdoaaGreat
set_option linter.unusedVariables false
set_option linter.unusedSimpArgs false

def restoreR (S : RS) (n : Int) (l : List Ch) : Int × RS :=
  if n < 1 then (1, S)
  else if (l.drop (endK l)).any isK = true then (3, S)
  else if (restoreM S.K n (l.take (endK l))).1 ≠ 0 then ((restoreM S.K n (l.take (endK l))).1, { S with K := (restoreM S.K n (l.take (endK l))).2 })
  else if (Qu.restM S.Q n (l.drop (endK l))).1 ≠ 0 then ((Qu.restM S.Q n (l.drop (endK l))).1, ⟨(backoutM (restoreM S.K n (l.take (endK l))).2 n).2, (Qu.restM S.Q n (l.drop (endK l))).2, S.pr⟩)
  else (0, holdR ⟨(restoreM S.K n (l.take (endK l))).2, (Qu.restM S.Q n (l.drop (endK l))).2, S.pr⟩ n l.length)
theorem inl_nil (u : World) (A : Option Addr) : InL u A [] := fun h => by simp at h
set_option maxRecDepth 100000 in
set_option maxHeartbeats 2000000 in
theorem resrestore_any (g : Nat) (cs : Array Value) (S : RS) (N : Nat) (n : Int) (A : Option Addr) (l : List Ch) (q c : Nat) (w : World) (h : ResAt w g cs S N) (hN : N < 200000) (hn : i64ok n) (hq : Hid (q = l.length)) (hqN : q ≤ N + 1) (hcap : q ≤ c ∧ c ≤ 9223372036854775807) (hL : ∀ u, w.grownBy u (some g) → InL u A l) (hBK : ∀ b, w.heap.size ≤ b → S.K.B b) (hBQ : ∀ b, w.heap.size ≤ b → S.Q.B b) :
    Calls Tryz.prog 28 #[.pointer (some ⟨g, 0, none⟩), .int .i64 n, .slice A q c] w fun e w' => e = .returned (.int .i64 (restoreR S n l).1) ∧ ResO w g (restoreR S n l).2 (N + 4) w' := by
  have HNm := Lib.hid (resnames_any g n w)
  by_cases h1 : n < 1
  · have hM : restoreR S n l = (1, S) := if_pos h1
    rw [hM]
    rw [if_pos h1] at HNm
    have HX := Lib.hid (ResO.same (h.more (by omega : N ≤ N + 4)) (Below.refl _ _))
    clear h hM hn hL hBK hBQ
    go_enter Tryz.func28, Tryz.ntmps28
    go_wp2_with fail
    refine HNm.out.mono ?_
    rintro e w1 ⟨rfl, rfl⟩
    go_wp2
    go_ret
    exact ⟨rfl, HX.out⟩
  · have hM : restoreR S n l = if (l.drop (endK l)).any isK = true then (3, S)
      else if (restoreM S.K n (l.take (endK l))).1 ≠ 0 then ((restoreM S.K n (l.take (endK l))).1, { S with K := (restoreM S.K n (l.take (endK l))).2 })
      else if (Qu.restM S.Q n (l.drop (endK l))).1 ≠ 0 then ((Qu.restM S.Q n (l.drop (endK l))).1, ⟨(backoutM (restoreM S.K n (l.take (endK l))).2 n).2, (Qu.restM S.Q n (l.drop (endK l))).2, S.pr⟩)
      else (0, holdR ⟨(restoreM S.K n (l.take (endK l))).2, (Qu.restM S.Q n (l.drop (endK l))).2, S.pr⟩ n l.length) := if_neg h1
    rw [hM]
    rw [if_neg h1] at HNm
    have HP := Lib.hid (parted_any A l q c hq (by omega) hcap w (hL w (lbelow_grown (Below.refl _ _) _)))
    obtain ⟨m, hm⟩ : ∃ m, m = endK l := ⟨_, rfl⟩
    have hmq : m ≤ q := by rw [hm, hq.out]; exact endK_le l
    rw [← hm] at HP ⊢
    obtain ⟨l1, hl1⟩ : ∃ l1, l1 = l.take m := ⟨_, rfl⟩
    obtain ⟨l2, hl2⟩ : ∃ l2, l2 = l.drop m := ⟨_, rfl⟩
    rw [← hl1, ← hl2]
    have hq1 : m = l1.length := by rw [hl1, List.length_take, ← hq.out]; omega
    have hq2 : q - m = l2.length := by rw [hl2, List.length_drop, ← hq.out]
    have HL : Hid (∀ u A2, w.grownBy u (some g) → (m < q → A2 = shiftA A m) → InL u A l1 ∧ InL u A2 l2) := Lib.hid fun u A2 hu hA => ⟨by rw [hl1]; exact inl_take (hL u hu) m, by
      by_cases hmlt : m < q
      · rw [hA hmlt, hl2]; exact inl_drop (hL u hu) m
      · have : l2 = [] := List.eq_nil_of_length_eq_zero (by omega)
        rw [this]; exact inl_nil _ _⟩
    have H := Lib.hid (And.intro h (And.intro hn (And.intro hBK (And.intro hBQ (And.intro hq1 hq2)))))
    obtain ⟨r1, hr1⟩ : ∃ r1, r1 = restoreM S.K n l1 := ⟨_, rfl⟩
    obtain ⟨r2, hr2⟩ : ∃ r2, r2 = Qu.restM S.Q n l2 := ⟨_, rfl⟩
    rw [← hr1, ← hr2]
    have HR := Lib.hid (And.intro hr1 hr2)
    obtain ⟨e1, K1⟩ := r1
    obtain ⟨e2, Q2⟩ := r2
    dsimp only
    clear h hM hn hL hBK hBQ hm hl1 hl2 hq1 hq2 hr1 hr2
    rcases hk : l2.any isK with _ | _
    · rw [if_neg (by simp)]
      by_cases h0 : e1 = 0
      · subst h0
        rw [if_neg (by simp)]
        by_cases h2 : e2 = 0
        · subst h2
          rw [if_neg (by simp)]
          go_enter Tryz.func28, Tryz.ntmps28
          go_wp2_with fail
          refine HNm.out.mono ?_
          rintro e w1 ⟨rfl, rfl⟩
          go_wp2_with fail
          refine HP.out.mono ?_
          rintro e w2 ⟨⟨A2, rfl, hA2⟩, b2⟩
          have HA2 := Lib.hid hA2
          have hc2 := containsk_any A2 l2 (q - m) (c - m) (Lib.hid H.out.2.2.2.2.2) (by omega) w2 (HL.out w2 A2 (lbelow_grown b2 _) hA2).2
          rw [hk] at hc2
          have HC := Lib.hid hc2
          have HB2 := Lib.hid b2
          clear hA2 b2 hc2
          go_wp2_with fail
          refine HC.out.mono ?_
          rintro e w3 ⟨rfl, b3⟩
          have b23 := bt HB2.out b3
          have h3 := H.out.1.below b23
          have hK := restore_in g 102 cs S.K N n A l1 m c w3 h3.kv (by omega) H.out.2.1 (Lib.hid H.out.2.2.2.2.1) (by omega) (fun u hu => (HL.out u A2 ((lbelow_grown b23 (some g)).trans hu) HA2.out).1) (fun b hb => H.out.2.2.1 b (Nat.le_trans b23.size hb))
          rw [← HR.out.1] at hK
          have HK := Lib.hid hK
          have H3 := Lib.hid (And.intro h3 b23)
          clear b3 b23 h3 hK HC
          go_wp2_with fail
          refine HK.out.mono ?_
          rintro e w4 ⟨rfl, hk4⟩
          try dsimp only at hk4
          obtain ⟨⟨cs4, k4⟩, g4⟩ := H3.out.1.kturn hk4 (Nat.le_succ _)
          have g04 := (lbelow_grown H3.out.2 (some g)).trans g4
          have hQ := Qu.rest_any g 34 102 cs4 S.Q (N + 1) n A2 l2 (q - m) (c - m) w4 k4.qu (by omega) H.out.2.1 (Lib.hid H.out.2.2.2.2.2) (by omega) (fun u hu => (HL.out u A2 (g04.trans hu) HA2.out).2) (fun b hb => H.out.2.2.2.1 b (Nat.le_trans g04.size hb))
          rw [← HR.out.2] at hQ
          have HQ := Lib.hid hQ
          have H4 := Lib.hid (And.intro k4 g04)
          clear hk4 k4 g4 g04 hQ HK
          go_wp2_with fail
          refine HQ.out.mono ?_
          rintro e w5 ⟨rfl, hk5⟩
          try dsimp only at hk5
          obtain ⟨⟨cs5, k5⟩, g5⟩ := H4.out.1.qturn hk5 (Nat.le_succ _)
          have g05 := H4.out.2.trans g5
          try dsimp only at k5
          have HH := Lib.hid (hold_any g cs5 ⟨K1, Q2, S.pr⟩ (N + 2) n A q c w5 k5 (by omega))
          have H5 := Lib.hid g05
          clear hk5 k5 g5 g05 HQ
          go_wp2_with fail
          refine HH.out.mono ?_
          rintro e w6 ⟨rfl, hO⟩
          obtain ⟨⟨cs6, k6⟩, g6⟩ := ResO.from H5.out hO
          have HX : Hid (ResO w g (holdR ⟨K1, Q2, S.pr⟩ n l.length) (N + 4) w6) := Lib.hid (by rw [← hq.out]; exact ⟨⟨cs6, k6.more (by omega)⟩, g6⟩)
          clear hO k6 g6
          go_wp2
          go_ret
          exact ⟨rfl, HX.out⟩
        · rw [if_pos h2]
          have hb : (e2 != 0) = true := by simpa using h2
          go_enter Tryz.func28, Tryz.ntmps28
          go_wp2_with fail
          refine HNm.out.mono ?_
          rintro e w1 ⟨rfl, rfl⟩
          go_wp2_with fail
          refine HP.out.mono ?_
          rintro e w2 ⟨⟨A2, rfl, hA2⟩, b2⟩
          have HA2 := Lib.hid hA2
          have hc2 := containsk_any A2 l2 (q - m) (c - m) (Lib.hid H.out.2.2.2.2.2) (by omega) w2 (HL.out w2 A2 (lbelow_grown b2 _) hA2).2
          rw [hk] at hc2
          have HC := Lib.hid hc2
          have HB2 := Lib.hid b2
          clear hA2 b2 hc2
          go_wp2_with fail
          refine HC.out.mono ?_
          rintro e w3 ⟨rfl, b3⟩
          have b23 := bt HB2.out b3
          have h3 := H.out.1.below b23
          have hK := restore_in g 102 cs S.K N n A l1 m c w3 h3.kv (by omega) H.out.2.1 (Lib.hid H.out.2.2.2.2.1) (by omega) (fun u hu => (HL.out u A2 ((lbelow_grown b23 (some g)).trans hu) HA2.out).1) (fun b hb => H.out.2.2.1 b (Nat.le_trans b23.size hb))
          rw [← HR.out.1] at hK
          have HK := Lib.hid hK
          have H3 := Lib.hid (And.intro h3 b23)
          clear b3 b23 h3 hK HC
          go_wp2_with fail
          refine HK.out.mono ?_
          rintro e w4 ⟨rfl, hk4⟩
          try dsimp only at hk4
          obtain ⟨⟨cs4, k4⟩, g4⟩ := H3.out.1.kturn hk4 (Nat.le_succ _)
          have g04 := (lbelow_grown H3.out.2 (some g)).trans g4
          have hQ := Qu.rest_any g 34 102 cs4 S.Q (N + 1) n A2 l2 (q - m) (c - m) w4 k4.qu (by omega) H.out.2.1 (Lib.hid H.out.2.2.2.2.2) (by omega) (fun u hu => (HL.out u A2 (g04.trans hu) HA2.out).2) (fun b hb => H.out.2.2.2.1 b (Nat.le_trans g04.size hb))
          rw [← HR.out.2] at hQ
          have HQ := Lib.hid hQ
          have H4 := Lib.hid (And.intro k4 g04)
          clear hk4 k4 g4 g04 hQ HK
          go_wp2_with fail
          refine HQ.out.mono ?_
          rintro e w5 ⟨rfl, hk5⟩
          try dsimp only at hk5
          obtain ⟨⟨cs5, k5⟩, g5⟩ := H4.out.1.qturn hk5 (Nat.le_succ _)
          have g05 := H4.out.2.trans g5
          try dsimp only at k5
          have HBo := Lib.hid (backout_any g 102 cs5 K1 (N + 2) n w5 k5.kv H.out.2.1)
          have H5 := Lib.hid (And.intro k5 g05)
          clear hk5 k5 g5 g05 HQ
          go_wp2_with fail
          refine HBo.out.mono ?_
          rintro e w6 ⟨rfl, hk6⟩
          obtain ⟨⟨cs6, k6⟩, g6⟩ := H5.out.1.kturn hk6 (Nat.le_refl _)
          have HX : Hid (ResO w g ⟨(backoutM K1 n).2, Q2, S.pr⟩ (N + 4) w6) := Lib.hid ⟨⟨cs6, k6.more (by omega)⟩, H5.out.2.trans g6⟩
          clear hk6 k6 g6
          go_wp2
          go_ret
          exact ⟨rfl, HX.out⟩
      · rw [if_pos h0]
        have hb : (e1 != 0) = true := by simpa using h0
        go_enter Tryz.func28, Tryz.ntmps28
        go_wp2_with fail
        refine HNm.out.mono ?_
        rintro e w1 ⟨rfl, rfl⟩
        go_wp2_with fail
        refine HP.out.mono ?_
        rintro e w2 ⟨⟨A2, rfl, hA2⟩, b2⟩
        have HA2 := Lib.hid hA2
        have hc2 := containsk_any A2 l2 (q - m) (c - m) (Lib.hid H.out.2.2.2.2.2) (by omega) w2 (HL.out w2 A2 (lbelow_grown b2 _) hA2).2
        rw [hk] at hc2
        have HC := Lib.hid hc2
        have HB2 := Lib.hid b2
        clear hA2 b2 hc2
        go_wp2_with fail
        refine HC.out.mono ?_
        rintro e w3 ⟨rfl, b3⟩
        have b23 := bt HB2.out b3
        have h3 := H.out.1.below b23
        have hK := restore_in g 102 cs S.K N n A l1 m c w3 h3.kv (by omega) H.out.2.1 (Lib.hid H.out.2.2.2.2.1) (by omega) (fun u hu => (HL.out u A2 ((lbelow_grown b23 (some g)).trans hu) HA2.out).1) (fun b hb => H.out.2.2.1 b (Nat.le_trans b23.size hb))
        rw [← HR.out.1] at hK
        have HK := Lib.hid hK
        have H3 := Lib.hid (And.intro h3 b23)
        clear b3 b23 h3 hK HC
        go_wp2_with fail
        refine HK.out.mono ?_
        rintro e w4 ⟨rfl, hk4⟩
        try dsimp only at hk4
        obtain ⟨⟨cs4, k4⟩, g4⟩ := H3.out.1.kturn hk4 (Nat.le_succ _)
        have g04 := (lbelow_grown H3.out.2 (some g)).trans g4
        have HX : Hid (ResO w g { S with K := K1 } (N + 4) w4) := Lib.hid ⟨⟨cs4, k4.more (by omega)⟩, g04⟩
        clear hk4 k4 g4 g04 HK
        go_wp2
        go_ret
        exact ⟨rfl, HX.out⟩
    · rw [if_pos rfl]
      go_enter Tryz.func28, Tryz.ntmps28
      go_wp2_with fail
      refine HNm.out.mono ?_
      rintro e w1 ⟨rfl, rfl⟩
      go_wp2_with fail
      refine HP.out.mono ?_
      rintro e w2 ⟨⟨A2, rfl, hA2⟩, b2⟩
      have hc2 := containsk_any A2 l2 (q - m) (c - m) (Lib.hid H.out.2.2.2.2.2) (by omega) w2 (HL.out w2 A2 (lbelow_grown b2 _) hA2).2
      rw [hk] at hc2
      have HC := Lib.hid hc2
      have HB2 := Lib.hid b2
      clear hA2 b2 hc2
      go_wp2_with fail
      refine HC.out.mono ?_
      rintro e w3 ⟨rfl, b3⟩
      have HX := Lib.hid (ResO.same (H.out.1.more (by omega : N ≤ N + 4)) (bt HB2.out b3))
      clear b3
      go_wp2
      go_ret
      exact ⟨rfl, HX.out⟩
end Go.Proofs.YtlliaihmfimdoaaGreat.Re
