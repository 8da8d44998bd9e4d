/- The law that records laid in the place of all are there. -/
import Derived.Test.YtflibdiafhkpoaaSw
namespace Go.Proofs.Ytflibdiafhkpoaa
open Go.RowKit
set_option linter.unusedVariables false
set_option linter.unusedSimpArgs false

theorem open_nil (p : Nat) (w : World) (h : TapeAt w p 65536 [] 0) : Calls Try.prog 22 #[.pointer (some ⟨p, 0, none⟩)] w fun e w' =>
    ∃ q A c, e = .returned (.tuple #[.pointer (some ⟨q, 0, none⟩), .slice A 0 c, .int .i64 0]) ∧ TapeAt w' p 65536 (recsL []) (recsL []).length ∧ LogAt w' q p ∧ w.grownBy w' (some p) := by
  refine (open_any p 65536 [] 0 w h).mono ?_
  rintro e w' ⟨q, A, c, rfl, hT, _, hg, _, _, hq⟩
  exact ⟨q, A, c, rfl, hT, hq, hg⟩
theorem add_recs (q p f : Nat) (rs : List (Int × List UInt8)) (hg : ∀ v ∈ rs, Good v) (force : Bool) (v : RecV) (w : World) (hq : LogAt w q p) (hT : TapeAt w p 65536 (recsL rs) f) (hl : v.l.length ≤ 3000) (hbs : Bs w w.heap.size v.A v.l) :
    ∃ e0 t f', (∀ v ∈ rs ++ t, Good v) ∧ (force = true → f = (recsL rs).length → f' = (recsL (rs ++ t)).length) ∧ (force = false → f' = f) ∧
      Calls Try.prog 26 #[.pointer (some ⟨q, 0, none⟩), .agg #[.int .i64 v.id, .slice v.A v.l.length v.c], .bool force] w (TapeOut w p 65536 (e0, recsL (rs ++ t), f')) := by
  obtain ⟨e0, t, f', h1, h2, h3, h4⟩ := addR_recs hg 65536 f v.id v.l force
  have := add_any q p 65536 (recsL rs) f v.id v.A v.l v.l.length v.c force w hq hT rfl (by unfold maxLen; omega) hbs
  rw [h1] at this
  exact ⟨e0, t, f', h2, h3, h4, this⟩

set_option maxRecDepth 100000 in
set_option maxHeartbeats 8000000 in
theorem walSwaps_walk (A1 : Option Addr) (vs1 : List RecV) (c1 : Nat) (A2 : Option Addr) (vs2 : List RecV) (c2 : Nat) (keep : Int) (w : World) (h1 : RecVsAt w A1 vs1) (hlc1 : vs1.length ≤ c1) (hcc1 : c1 ≤ 9223372036854775807) (h2 : RecVsAt w A2 vs2) (hlc2 : vs2.length ≤ c2) (hcc2 : c2 ≤ 9223372036854775807) (k1 : -9223372036854775808 ≤ keep) (k2 : keep ≤ 9223372036854775807) :
    Calls Try.prog 10 #[.slice A1 vs1.length c1, .slice A2 vs2.length c2, .int .i64 keep] w fun e w' => e = .returned (.bool true) ∧ Below w.heap.size w w' := by
  have H1 := Lib.hid h1
  have H2 := Lib.hid h2
  have K1 := Lib.hid k1
  have K2 := Lib.hid k2
  clear h1 h2 hlc1 hlc2 hcc1 hcc2 k1 k2
  go_enter Try.func10, Try.ntmps10
  go_wp2_with fail
  refine (great_any A1 vs1 c1 _ H1.out).mono ?_
  rintro e w1 ⟨⟨b, rfl, hgr⟩, hb1⟩
  cases b
  · obtain ⟨hn1, hsm1⟩ := hgr rfl
    have HSM1 := Lib.hid hsm1
    clear hgr hsm1
    have hx2 : RecVsAt w1 A2 vs2 := H2.out.below hb1
    go_wp2_with fail
    refine (great_any A2 vs2 c2 _ hx2).mono ?_
    rintro e w2 ⟨⟨b, rfl, hgr⟩, hb2'⟩
    have hb2 := bt hb1 hb2'
    clear hx2 hb1 hb2'
    cases b
    · obtain ⟨hn2, hsm2⟩ := hgr rfl
      have HSM2 := Lib.hid hsm2
      clear hgr hsm2
      go_wp2_with fail
      refine (new_ok 65536 _ (by omega) (by omega)).mono ?_
      obtain ⟨p, hp⟩ : ∃ p, p = w2.heap.size := ⟨_, rfl⟩
      rw [← hp]
      have hpw : Hid (w.heap.size ≤ p) := Lib.hid (by rw [hp]; exact hb2.size)
      rintro e w3 ⟨rfl, hT3, hb3'⟩
      have hb3 : Below w.heap.size w w3 := bt hb2 (by rw [← hp]; exact hb3')
      clear hb3' hp hb2
      go_wp2_with fail
      refine (open_nil p _ hT3).mono ?_
      rintro e w4 ⟨q, A4, c4, rfl, hT4, hq4, hg4⟩
      have hb4 : Below w.heap.size w w4 := hb3.grown hg4 hb3.size (fun k e => by cases e; exact hpw.out)
      clear hT3 hb3 hg4
      go_wp2_with fail
      go_loopw [12] (fun i wr => ∃ (k : Nat) (rs : List (Int × List UInt8)) (f : Nat), k ≤ vs1.length ∧ i = .int .i64 k ∧ Hid (∀ v ∈ rs, Good v) ∧ LogAt wr q p ∧ TapeAt wr p 65536 (recsL rs) f ∧ Below w.heap.size w wr) (fun i _ => vs1.length - (intOf i).toNat)
      case atStart => exact ⟨0, [], _, Nat.zero_le _, rfl, Lib.hid (fun v h => by cases h), hq4, hT4, hb4⟩
      case round =>
        obtain ⟨k, rs, f, hk, rfl, hgd, hqr, hTr, hbr⟩ := hrel
        by_cases hlt : k < vs1.length
        · obtain ⟨b1, o1, rfl, hbb1, hc1⟩ := H1.out.2.2 (by omega)
          obtain ⟨x1, y1⟩ := hc1 k hlt
          have hok := H1.out.2.1 _ (List.getElem_mem hlt)
          have hsv := HSM1.out k hlt
          clear hc1
          obtain ⟨v, hv⟩ : ∃ v, v = vs1[k] := ⟨_, rfl⟩
          rw [← hv] at x1 y1 hok hsv
          have X1 := (hbr.cell (p := ⟨b1, o1 + k * 2, none⟩) hbb1).trans x1
          have Y1 := (hbr.cell (p := ⟨b1, o1 + k * 2 + 1, none⟩) hbb1).trans y1
          have hki : (k : Int) < (vs1.length : Int) := by omega
          obtain ⟨e0, t, f', g1, _, _, hadd⟩ := add_recs q p f rs hgd.out ((k : Int) % 2 == 0) v wr hqr hTr hsv (hok.bs.bt hbr)
          have HADD := Lib.hid hadd
          have hG := Lib.hid g1
          have hne := hqr.ne hTr
          clear hv x1 y1 hok hadd g1 hgd hsv hTr
          go_wp2_with fail
          refine HADD.out.mono ?_
          rintro e w5 h5
          have hb5 := h5.below hbr hpw.out
          obtain ⟨rfl, hT5, hg5, -⟩ := h5
          have hq5 := hqr.grown hg5 hne
          dsimp only at hT5
          clear hg5 hqr X1 Y1 HADD hbr
          go_wp2
          go_roundw
          case rel => exact ⟨k + 1, rs ++ t, f', by omega, by go_num, hG, hq5, hT5, hb5⟩
          case measure => simp [intOf]; omega
        · clear hT4 hq4 hb4
          go_wp2_with fail
          refine (records_any q p _ _ _ _ hqr hTr).mono ?_
          rintro e w5 ⟨A13, c13, rfl, hR5, hb5', _⟩
          rw [readR_all hgd.out] at hR5 ⊢
          dsimp only at hR5 ⊢
          have hfew := recsL_few rs
          have hl1 := hTr.l1
          have hplt := hTr.lt'
          have hb5 := bt hbr hb5'
          have hq5 := hqr.below hb5'
          have hT5 := hTr.below hb5'
          have hne := hq5.ne hT5
          obtain ⟨n1, hn1x⟩ : ∃ n1, n1 = rs.length := ⟨_, rfl⟩
          rw [← hn1x]
          have HN1 := Lib.hid hn1x
          have HRL := Lib.hid (show rs.length ≤ 9223372036854775807 by omega)
          clear hn1x hqr hTr hbr hb5' hlt hk hfew hl1
          have HSW := Lib.hid (swap_any q p (recsL rs) f A2 vs2 c2 w5 hq5 hT5 (H2.out.below hb5) hn2 HSM2.out)
          go_wp2_with fail
          refine HSW.out.mono ?_
          rintro e w6 ⟨e0, rfl, hcase, hg6⟩
          have hb6 : Below w.heap.size w w6 := hb5.grown hg6 hb5.size (fun k e => by cases e; exact hpw.out)
          have hq6 := hq5.grown hg6 hne
          have hR6 := hR5.kept hg6 (fun r e => by cases e; exact hplt)
          clear HSW hR5 hq5 hT5 hb5 hg6
          rcases hcase with ⟨h0, hgd2, hT6⟩ | ⟨h0, hT6⟩
          · subst h0
            have HI2 := Lib.hid H2.out.in_
            have HL2 := Lib.hid (show (consV vs2).length ≤ 9223372036854775807 by rw [consV_len]; omega)
            have HSX : Hid (∀ x ∈ consV vs2, x.2.length ≤ 9223372036854775807) := Lib.hid (fun x hx => by have := (hgd2 x hx).2.2; omega)
            have hra := readR_all hgd2
            obtain ⟨L, hL⟩ : ∃ L, L = recsL (consV vs2) := ⟨_, rfl⟩
            rw [← hL] at hra hT6
            obtain ⟨cs, hcs⟩ : ∃ cs, cs = consV vs2 := ⟨_, rfl⟩
            have hcl : cs.length = vs2.length := by rw [hcs, consV_len]
            rw [← hcs] at hra HI2 HL2 HSX
            have HCL := Lib.hid hcl
            have hcr := fun W (h : TapeAt W p 65536 L L.length) => tapeCrash p 65536 L L.length keep W h K1.out K2.out
            rw [show L.length + min keep.toNat (L.length - L.length) = L.length by omega, List.take_length] at hcr
            have hop := fun W (h : TapeAt W p 65536 L L.length) => open_any p 65536 L L.length W h
            have hrec := fun W (hq : LogAt W q p) (h : TapeAt W p 65536 L L.length) => records_any q p 65536 L L.length W hq h
            rw [hra] at hop hrec
            dsimp only at hop hrec
            rw [List.take_length] at hop
            have HCR := Lib.hid hcr
            have HOP := Lib.hid hop
            have HREC := Lib.hid hrec
            clear hra hL hcs hcl hcr hop hrec hgd2 hR6
            go_wp2_with fail
            refine (HCR.out _ hT6).mono ?_
            rintro e w7 h7
            have hb7 := h7.below hb6 hpw.out
            obtain ⟨rfl, hT7, hg7, -⟩ := h7
            dsimp only at hT7
            have hq7 := hq6.grown hg7 hne
            clear hT6 hq6 hg7 hb6 HCR
            go_wp2_with fail
            refine (HOP.out _ hT7).mono ?_
            rintro e w8 h8
            have hb8 := h8.below hb7 hpw.out
            obtain ⟨q8, A15, c15, rfl, hT8, hR8, hg8, -⟩ := h8
            rw [HCL.out]
            have hq8 := hq7.grown hg8 hne
            have hi8 := hR8.in_
            clear hT7 hq7 hg8 hb7 HOP hR8
            go_wp2_with fail
            refine (alive_any _).mono ?_
            rintro e w9 ⟨rfl, hb9'⟩
            have hT9 := hT8.below hb9'
            have hq9 := hq8.below hb9'
            have hi9 := hi8.bt hb9'
            have hb9 := bt hb8 hb9'
            clear hT8 hq8 hi8 hb8 hb9'
            go_wp2_with fail
            refine (same_n _ _ cs _ _ _ _ (Lib.hid HCL.out.symm) (Lib.hid HCL.out.symm) _ HL2.out HSX.out hi9 (HI2.out.bt hb9)).mono ?_
            rintro e w10 ⟨rfl, hb10'⟩
            have hT10 := hT9.below hb10'
            have hq10 := hq9.below hb10'
            have hb10 := bt hb9 hb10'
            clear hT9 hq9 hi9 hb9 hb10'
            go_wp2_with fail
            refine (HREC.out _ hq10 hT10).mono ?_
            rintro e w11 ⟨A11, c11, rfl, hR11, hb11', _⟩
            rw [HCL.out]
            have hb11 := bt hb10 hb11'
            have hi11 := hR11.in_
            clear hT10 hq10 hb10 hb11' hR11
            go_wp2_with fail
            refine (same_n _ _ cs _ _ _ _ (Lib.hid HCL.out.symm) (Lib.hid HCL.out.symm) _ HL2.out HSX.out hi11 (HI2.out.bt hb11)).mono ?_
            rintro e w12 ⟨rfl, hb12⟩
            go_wp2
            go_ret
            exact ⟨rfl, bt hb11 hb12⟩
          · have hne0 : (e0 != 0) = true := bne_iff_ne.2 h0
            have HSX : Hid (∀ x ∈ rs, x.2.length ≤ 9223372036854775807) := Lib.hid (fun x hx => by have := (hgd.out x hx).2.2; omega)
            clear h0
            go_wp2_with fail
            refine (alive_any _).mono ?_
            rintro e w7 ⟨rfl, hb7'⟩
            have hT7 := hT6.below hb7'
            have hq7 := hq6.below hb7'
            have hi7 := hR6.in_.bt hb7'
            have hb7 := bt hb6 hb7'
            clear hT6 hq6 hR6 hb6 hb7' hne0
            go_wp2_with fail
            refine (records_any q p _ _ _ _ hq7 hT7).mono ?_
            rintro e w8 ⟨A8, c8, rfl, hR8, hb8', _⟩
            rw [readR_all hgd.out] at hR8 ⊢
            dsimp only at hR8 ⊢
            rw [← HN1.out]
            have hb8 := bt hb7 hb8'
            have hi8 := hR8.in_
            have hi8' := hi7.bt hb8'
            clear hT7 hq7 hi7 hb7 hb8' hR8
            go_wp2_with fail
            refine (same_n _ _ rs _ _ _ _ HN1 HN1 _ HRL.out HSX.out hi8 hi8').mono ?_
            rintro e w9 ⟨rfl, hb9⟩
            go_wp2
            go_ret
            exact ⟨rfl, bt hb8 hb9⟩
    · go_wp2_with fail
      refine (alive_any _).mono ?_
      rintro e w3 ⟨rfl, hb3⟩
      go_wp2
      go_ret
      exact ⟨rfl, bt hb2 hb3⟩
  · go_wp2_with fail
    refine (alive_any _).mono ?_
    rintro e w3 ⟨rfl, hb3⟩
    go_wp2
    go_ret
    exact ⟨rfl, bt hb1 hb3⟩
end Go.Proofs.Ytflibdiafhkpoaa
