/- The law that a record that is turned in one byte is read no more. -/
import Derived.Test.YtflibdiafhkpoaaZj
import Derived.Test.YtflibdiafhkpoaaZt
namespace Go.Proofs.Ytflibdiafhkpoaa
open Go.RowKit
set_option linter.unusedVariables false
set_option linter.unusedSimpArgs false

set_option maxRecDepth 100000 in
set_option maxHeartbeats 8000000 in
theorem walTurned_walk (A : Option Addr) (vs : List RecV) (c : Nat) (which at_ : Int) (y : UInt8) (w : World) (h : RecVsAt w A vs) (hlc : vs.length ≤ c) (hcc : c ≤ 9223372036854775807) (k1 : -9223372036854775808 ≤ which) (k2 : which ≤ 9223372036854775807) (k3 : -9223372036854775808 ≤ at_) (k4 : at_ ≤ 9223372036854775807) :
    Calls Try.prog 9 #[.slice A vs.length c, .int .i64 which, .int .i64 at_, .int .u8 (y.toNat : Int)] w fun e w' => e = .returned (.bool true) ∧ Below w.heap.size w w' := by
  obtain ⟨i0, hi, hz0, hz1, hz2⟩ := info_parts Try.infoU8z
  have H := Lib.hid h
  have HIN := Lib.hid h.in_
  have HLC := Lib.hid hlc
  have HCC := Lib.hid hcc
  have hyl := y.toNat_lt
  clear h hlc hcc
  go_enter Try.func9, Try.ntmps9
  go_wp2_with fail
  refine (great_any A vs c _ H.out).mono ?_
  rintro e w1 ⟨⟨b, rfl, hgr⟩, hb1⟩
  cases b
  · obtain ⟨hn20, hsm⟩ := hgr rfl
    have HSM := Lib.hid hsm
    have HSMX : Hid (∀ x ∈ consV vs, x.2.length ≤ 9223372036854775807) := Lib.hid (fun x hx => by
      obtain ⟨v, hv, rfl⟩ := List.mem_map.1 hx
      obtain ⟨i, hi, rfl⟩ := List.getElem_of_mem hv
      have := HSM.out i hi
      show (vs[i]).l.length ≤ _
      omega)
    clear hgr hsm
    by_cases hw0 : which < 0
    · go_wp2_with fail
      refine (alive_any _).mono ?_
      rintro e w2 ⟨rfl, hb2⟩
      go_wp2
      go_ret
      exact ⟨rfl, bt hb1 hb2⟩
    by_cases hw1 : (vs.length : Int) ≤ which
    · go_wp2_with fail
      refine (alive_any _).mono ?_
      rintro e w2 ⟨rfl, hb2⟩
      go_wp2
      go_ret
      exact ⟨rfl, bt hb1 hb2⟩
    by_cases hy0 : (y.toNat : Int) = 0
    · have hyb : ((y.toNat : Int) == 0) = true := by rw [hy0]; rfl
      go_wp2_with fail
      refine (alive_any _).mono ?_
      rintro e w2 ⟨rfl, hb2⟩
      go_wp2
      go_ret
      exact ⟨rfl, bt hb1 hb2⟩
    obtain ⟨jn, rfl⟩ : ∃ jn : Nat, which = jn := ⟨which.toNat, by omega⟩
    have hjn : Hid (jn < vs.length) := Lib.hid (by omega)
    have hyn : Hid (y ≠ 0) := Lib.hid (fun e => hy0 (by rw [e]; rfl))
    have hyb : ((y.toNat : Int) == 0) = false := beq_eq_false_iff_ne.2 hy0
    clear hy0
    have d1 : ¬ vs.length ≤ jn := by omega
    have d0 : ¬ (jn : Int) < 0 := by omega
    go_wp2_with fail
    clear hyb
    go_loopw [9, 10, 11] (fun o fr i wr => ∃ (k : Nat) (A2 : Option Addr) (c2 m2 F : Nat), k ≤ vs.length ∧ i = .int .i64 k ∧ Hid (∀ j, (h : j < vs.length) → j < k → Good ((vs[j]'h).id, (vs[j]'h).l)) ∧ m2 = (recsL ((consV vs).take k)).length ∧ o = .slice A2 m2 c2 ∧ m2 ≤ k * 1031 ∧ fr = .int .i64 F ∧ Hid (jn < k → F = (recsL ((consV vs).take jn)).length) ∧ Own wr w.heap.size 5 A2 c2 (recsL ((consV vs).take k)) ∧ Below w.heap.size w wr) (fun _ _ i _ => vs.length - (intOf i).toNat)
    case atStart => exact ⟨0, none, 0, 0, 0, Nat.zero_le _, rfl, Lib.hid (fun j h hj => absurd hj (by omega)), rfl, rfl, Nat.zero_le _, rfl, Lib.hid (fun h => absurd h (by omega)), Own.nil, hb1⟩
    case round =>
      obtain ⟨k, A2, c2, m2, F, hk, rfl, hgd, hm2, rfl, hmk, rfl, hF, hown, hbr⟩ := hrel
      by_cases hlt : k < vs.length
      · obtain ⟨b1, o1, rfl, hbb1, hc1⟩ := H.out.2.2 (by omega)
        obtain ⟨x1, y1⟩ := hc1 k hlt
        have hok := H.out.2.1 _ (List.getElem_mem hlt)
        have hsv := HSM.out k hlt
        clear hc1
        have hsnoc := recsL_snoc (consV vs) k (by rw [consV_len]; exact hlt)
        rw [consV_get vs k hlt] at hsnoc
        obtain ⟨v, hv⟩ : ∃ v, v = vs[k] := ⟨_, rfl⟩
        rw [← hv] at x1 y1 hok hsv hsnoc
        have X1 := (hbr.cell (p := ⟨b1, o1 + k * 2, none⟩) hbb1).trans x1
        have Y1 := (hbr.cell (p := ⟨b1, o1 + k * 2 + 1, none⟩) hbb1).trans y1
        have HV := Lib.hid hv
        have hki : (k : Int) < (vs.length : Int) := by omega
        have HW := Lib.hid (write_any v.id v.A v.l v.l.length v.c _ rfl (by unfold maxLen; omega) (hok.bs.bt hbr))
        have Hsnoc := Lib.hid hsnoc
        have Hm2 := Lib.hid hm2
        clear hv x1 y1 hok hsnoc hm2
        go_wp2_with fail
        refine HW.out.mono ?_
        rintro e w2 ⟨Ab, cb, rfl, hob, hbw⟩
        have hown2 := hown.below hbw (Nat.le_refl _)
        have hbr2 := bt hbr hbw
        clear X1 Y1 HW hown hbr hbw
        by_cases h0 : (writeR v.id v.l).2 = 0
        · have hg := good_of h0
          have hwg := writeR_good hg
          dsimp only at hwg
          rw [hwg] at hob ⊢
          dsimp only at hob ⊢
          have hlen : (recL v.id.toNat v.l).length ≤ 1031 := by rw [recL_length]; have := hg.2.2; dsimp only at this; omega
          obtain ⟨S, hS⟩ : ∃ S, S = recL v.id.toNat v.l := ⟨_, rfl⟩
          rw [← hS] at hob hlen Hsnoc ⊢
          have hbs := hob.bs
          have hgd2 : Hid (∀ j, (h : j < vs.length) → j < k + 1 → Good ((vs[j]'h).id, (vs[j]'h).l)) := Lib.hid (fun j h hj' => by
            rcases Nat.lt_or_eq_of_le (Nat.lt_succ_iff.1 hj') with h4 | h4
            · exact hgd.out j h h4
            · subst h4; rw [← HV.out]; exact hg)
          have hsz := hbr2.size
          clear h0 hg hwg hgd hob hsv hS
          by_cases hkj : k = jn
          · have hF2 : Hid (jn < k + 1 → m2 = (recsL ((consV vs).take jn)).length) := Lib.hid (fun _ => by rw [← hkj]; exact Hm2.out)
            have hne : (k : Int) = (jn : Int) := by omega
            clear hkj
            clear hF
            go_wp2_with (at_builtin
                         refine wpList_append_bs _ rfl (.tmp 56) (.tmp 57) 22 rfl w.heap.size 5 i0 _ Try.underlying22 hi hz0 hz1 hz2 rfl A2 c2 _ m2 rfl Hm2.out hown2 _ Ab cb S S.length rfl rfl hbs (by rw [← Hm2.out]; omega) hsz ?_
                         intro A4 c4 w3 own3 hg3 _
                         obtain ⟨m4, hm4⟩ : ∃ m4, m4 = m2 + S.length := ⟨_, rfl⟩
                         rw [← hm4]
                         have hL4 : recsL ((consV vs).take k) ++ S = recsL ((consV vs).take (k + 1)) := Hsnoc.out.symm
                         have hm4L : m4 = (recsL ((consV vs).take k) ++ S).length := by rw [List.length_append, ← Hm2.out]; exact hm4
                         have hb3 : Below w.heap.size w w3 := hbr2.grown hg3 hbr2.size (fun r e => (hown2.lt r e).1)
                         rw [hL4] at own3 hm4L
                         have hm45 : m4 ≤ (k + 1) * 1031 := by omega
                         have HM4 := Lib.hid hm4L
                         clear hm4 hm4L hL4 hg3 hbr2 hown2 hbs hlen hsz)
            go_roundw
            case rel => exact ⟨k + 1, A4, c4, m4, m2, by omega, by go_num, hgd2, HM4.out, rfl, hm45, rfl, hF2, own3, hb3⟩
            case measure => simp [intOf]; omega
          · have hF2 : Hid (jn < k + 1 → F = (recsL ((consV vs).take jn)).length) := Lib.hid (fun h => hF.out (by omega))
            have hne : ¬ (k : Int) = (jn : Int) := by omega
            clear hkj
            clear hF
            go_wp2_with (at_builtin
                         refine wpList_append_bs _ rfl (.tmp 56) (.tmp 57) 22 rfl w.heap.size 5 i0 _ Try.underlying22 hi hz0 hz1 hz2 rfl A2 c2 _ m2 rfl Hm2.out hown2 _ Ab cb S S.length rfl rfl hbs (by rw [← Hm2.out]; omega) hsz ?_
                         intro A4 c4 w3 own3 hg3 _
                         obtain ⟨m4, hm4⟩ : ∃ m4, m4 = m2 + S.length := ⟨_, rfl⟩
                         rw [← hm4]
                         have hL4 : recsL ((consV vs).take k) ++ S = recsL ((consV vs).take (k + 1)) := Hsnoc.out.symm
                         have hm4L : m4 = (recsL ((consV vs).take k) ++ S).length := by rw [List.length_append, ← Hm2.out]; exact hm4
                         have hb3 : Below w.heap.size w w3 := hbr2.grown hg3 hbr2.size (fun r e => (hown2.lt r e).1)
                         rw [hL4] at own3 hm4L
                         have hm45 : m4 ≤ (k + 1) * 1031 := by omega
                         have HM4 := Lib.hid hm4L
                         clear hm4 hm4L hL4 hg3 hbr2 hown2 hbs hlen hsz)
            go_roundw
            case rel => exact ⟨k + 1, A4, c4, m4, F, by omega, by go_num, hgd2, HM4.out, rfl, hm45, rfl, hF2, own3, hb3⟩
            case measure => simp [intOf]; omega
        · obtain ⟨e0, he0⟩ : ∃ e0, e0 = (writeR v.id v.l).2 := ⟨_, rfl⟩
          rw [← he0] at h0 ⊢
          have hne : (e0 != 0) = true := bne_iff_ne.2 h0
          clear he0 h0 hob hgd hsv Hsnoc Hm2 hown2
          go_wp2_with fail
          refine (alive_any _).mono ?_
          rintro e w4 ⟨rfl, hb4⟩
          go_wp2
          go_ret
          exact ⟨rfl, bt hbr2 hb4⟩
      · obtain rfl : k = vs.length := by omega
        have hgood : ∀ x ∈ consV vs, Good x := fun x hx => by
          obtain ⟨v, hv, rfl⟩ := List.mem_map.1 hx
          obtain ⟨i, hi, rfl⟩ := List.getElem_of_mem hv
          exact hgd.out i hi hi
        rw [← consV_len vs, List.take_length] at hm2 hown
        have hFj := hF.out hjn.out
        have hjl := hjn.out
        obtain ⟨b1, o1, rfl, hbb1, hc1⟩ := H.out.2.2 (by omega)
        obtain ⟨x1, y1⟩ := hc1 jn hjl
        obtain ⟨v, hv⟩ : ∃ v, v = vs[jn] := ⟨_, rfl⟩
        rw [← hv] at x1 y1
        have X1 := (hbr.cell (p := ⟨b1, o1 + jn * 2, none⟩) hbb1).trans x1
        have Y1 := (hbr.cell (p := ⟨b1, o1 + jn * 2 + 1, none⟩) hbb1).trans y1
        have hcj : (consV vs)[jn]'(by rw [consV_len]; exact hjl) = (v.id, v.l) := by rw [consV_get vs jn hjl, hv]
        have HCJ := Lib.hid hcj
        have HFJ := Lib.hid hFj
        have HM2 := Lib.hid hm2
        have HG := Lib.hid hgood
        clear hc1 x1 y1 hv hcj hF hFj hgood hgd
        by_cases ha0 : at_ < 0
        · clear hm2 hown
          go_wp2_with fail
          refine (alive_any _).mono ?_
          rintro e w4 ⟨rfl, hb4⟩
          go_wp2
          go_ret
          exact ⟨rfl, bt hbr hb4⟩
        by_cases ha1 : (v.l.length : Int) < at_
        · clear hm2 hown
          go_wp2_with fail
          refine (alive_any _).mono ?_
          rintro e w4 ⟨rfl, hb4⟩
          go_wp2
          go_ret
          exact ⟨rfl, bt hbr hb4⟩
        obtain ⟨a, rfl⟩ : ∃ a : Nat, at_ = a := ⟨at_.toNat, by omega⟩
        have hal : a ≤ v.l.length := by omega
        have hpl : (recsL ((consV vs).take jn)).length + (v.l.length + 7) ≤ (recsL (consV vs)).length := by
          have e := recsL_snoc (consV vs) jn (by rw [consV_len]; exact hjl)
          rw [HCJ.out] at e
          dsimp only at e
          have e2 : recsL (consV vs) = recsL ((consV vs).take (jn + 1)) ++ recsL ((consV vs).drop (jn + 1)) := by rw [← recsL_append, List.take_append_drop]
          rw [e2, e, List.length_append, List.length_append, recL_length]
          omega
        obtain ⟨p, hp⟩ : ∃ p, p = F + 2 + a := ⟨_, rfl⟩
        have hpm : p < (recsL (consV vs)).length := by rw [hp, HFJ.out]; omega
        have HCOPY := Lib.hid (copy_any A2 (recsL (consV vs)) c2 wr (by omega) hown.bs)
        rw [← hm2] at HCOPY
        have HP := Lib.hid hp
        have HPM := Lib.hid hpm
        have HAL := Lib.hid hal
        clear hpl hp hpm hal hm2 hown
        go_wp2_with fail
        refine HCOPY.out.mono ?_
        rintro e w2 ⟨A5, c5, rfl, ho5, hb5⟩
        obtain ⟨g, rfl, hg1, hg2, hg3, hg4⟩ := ho5.form (by have := HPM.out; omega)
        have hc5 := ho5.cell p HPM.out
        have hf5 := ho5.frozen p
        obtain ⟨x, hx⟩ : ∃ x, x = (recsL (consV vs))[p]'HPM.out := ⟨_, rfl⟩
        rw [← hx] at hc5
        have HX := Lib.hid hx
        have hxl := x.toNat_lt
        have hF1 : F + 2 + a < m2 := by rw [HM2.out, ← HP.out]; exact HPM.out
        have wF2 : IntKind.i64.wrap ((F : Int) + 2) = (F : Int) + 2 := IntWalk.i64_in _ (by omega)
        have wFa : IntKind.i64.wrap ((F : Int) + 2 + (a : Int)) = (F : Int) + 2 + (a : Int) := IntWalk.i64_in _ (by omega)
        have tFa : ((F : Int) + 2 + (a : Int)).toNat = F + 2 + a := by omega
        have lFa : (F : Int) + 2 + (a : Int) < (m2 : Int) := by omega
        have gFa : (0 : Int) ≤ (F : Int) + 2 + (a : Int) := by omega
        rw [HP.out] at hc5 hf5
        have hbr5 := bt hbr hb5
        have HST := Lib.hid (ho5.stored p (x ^^^ y)).1
        have HO5 := Lib.hid ho5
        have HG4 := Lib.hid hg4
        have HG3 := Lib.hid hg3
        have HG1 := Lib.hid hg1
        clear hx hg1 hg2 hg3 hg4 ho5 X1 Y1 HCOPY hF1 hb5
        go_wp2_with fail
        have ep := HP.out
        subst ep
        have hst := HST.out
        rw [← xor_u8] at hst
        have hb5s : Below w.heap.size w (w2.setCell ⟨g, F + 2 + a, none⟩ (.int .u8 (bits .xor .u8 (x.toNat : Int) (y.toNat : Int)))) := hbr5.setCell (by have := HG1.out; have := hbr.size; exact Nat.le_trans hbr.size HG1.out) _
        have hrd := read_any (some ⟨g, 0, none⟩) ((recsL (consV vs)).set (F + 2 + a) (x ^^^ y)) m2 c5 _ (Lib.hid (by rw [List.length_set]; exact HM2.out)) (Lib.hid (by rw [HM2.out]; exact HG3.out)) (Lib.hid (by have := HG4.out; unfold maxLen at this; omega)) (Lib.hid (by omega)) hst.bs
        rw [readR_turned HG.out jn (by rw [consV_len]; exact hjl) a (by rw [HCJ.out]; exact HAL.out) (x ^^^ y) (F + 2 + a) (by rw [HFJ.out]) HPM.out (by rw [← HX.out]; exact xor_ne x y hyn.out), ← HFJ.out] at hrd
        refine hrd.mono ?_
        clear hst hrd HST hbr5 hc5 hf5 wF2 wFa tFa lFa gFa
        rintro e w6 ⟨A6, c6, rfl, hR6, hb6⟩
        have hcl : ((consV vs).take jn).length = jn := by rw [List.length_take, consV_len]; omega
        have HCL := Lib.hid hcl
        dsimp only at hR6 ⊢
        rw [hcl]
        clear hcl
        have hbb6 := bt hb5s hb6
        have hi6 := hR6.in_
        have hi6' := (HIN.out.bt hbb6).take jn
        clear hR6 hb5s hb6
        go_wp2_with fail
        refine (alive_any _).mono ?_
        rintro e w7 ⟨rfl, hb7⟩
        have hi7 := hi6.bt hb7
        have hi7' := hi6'.bt hb7
        have hbb7 := bt hbb6 hb7
        have hjc0 : jn ≤ c := by have := HLC.out; omega
        have hjc : (jn : Int) ≤ (c : Int) := by omega
        clear hi6 hi6' hbb6 hb7
        go_wp2_with fail
        refine (same_n _ _ ((consV vs).take jn) _ _ _ _ (Lib.hid HCL.out.symm) (Lib.hid HCL.out.symm) _ (by rw [HCL.out]; omega) (fun x hx => HSMX.out x (List.mem_of_mem_take hx)) hi7 hi7').mono ?_
        rintro e w8 ⟨rfl, hb8⟩
        go_wp2
        go_ret
        exact ⟨rfl, bt hbb7 hb8⟩
  · go_wp2_with fail
    refine (alive_any _).mono ?_
    rintro e w2 ⟨rfl, hb2⟩
    go_wp2
    go_ret
    exact ⟨rfl, bt hb1 hb2⟩
end Go.Proofs.Ytflibdiafhkpoaa
