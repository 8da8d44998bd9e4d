/- The law that what is written is read, cut anywhere. -/
import Derived.Test.YtflibdiafhkpoaaZh
namespace Go.Proofs.Ytflibdiafhkpoaa
open Go.RowKit
set_option linter.unusedVariables false
set_option linter.unusedSimpArgs false

theorem Own.cap {w : World} {base : Nat} {e : TypeId} {A : Option Addr} {c : Nat} {l : List UInt8} (h : Own w base e A c l) : l.length ≤ c ∧ c ≤ 9223372036854775807 := by
  rcases h.2 with ⟨h1, h2⟩ | ⟨g, cap, cur, h1, hb, hg, hn, hm, _⟩
  · simp only [Value.slice.injEq] at h1
    obtain ⟨_, h3, rfl⟩ := h1
    omega
  · simp only [Value.slice.injEq] at h1
    obtain ⟨_, _, rfl⟩ := h1
    unfold maxLen at hm
    omega
theorem bs_takeA {w : World} {B : Nat} {A : Option Addr} {l : List UInt8} (h : Bs w B A l) (m : Nat) : Bs w B A (l.take m) := fun hp => by
  rw [List.length_take] at hp
  obtain ⟨b, o, e, h1, h2⟩ := h (by omega)
  refine ⟨b, o, e, h1, fun i hi => ?_⟩
  rw [List.length_take] at hi
  rw [List.getElem_take]
  exact h2 i (by omega)
def consV (vs : List RecV) : List (Int × List UInt8) := vs.map fun v => (v.id, v.l)
theorem consV_len (vs : List RecV) : (consV vs).length = vs.length := List.length_map _
theorem consV_get (vs : List RecV) (i : Nat) (h : i < vs.length) : (consV vs)[i]'(by rw [consV_len]; exact h) = ((vs[i]'h).id, (vs[i]'h).l) := by unfold consV; rw [List.getElem_map]
theorem RecVsAt.in_ {w : World} {A : Option Addr} {vs : List RecV} (h : RecVsAt w A vs) : RecsIn w w.heap.size A (consV vs) := fun hn => by
  rw [consV_len] at hn
  obtain ⟨b, o, e, h1, h2⟩ := h.2.2 hn
  refine ⟨b, o, e, h1, fun i hi => ?_⟩
  rw [consV_len] at hi
  rw [consV_get vs i hi]
  obtain ⟨h3, h4⟩ := h2 i hi
  exact ⟨h3, _, _, h4, (h.2.1 _ (List.getElem_mem hi)).bs⟩
theorem same_n (A1 A2 : Option Addr) (vs : List (Int × List UInt8)) (n1 n2 c1 c2 : Nat) (hn1 : Hid (n1 = vs.length)) (hn2 : Hid (n2 = vs.length)) (w : World) (hm : vs.length ≤ 9223372036854775807) (hl : ∀ x ∈ vs, x.2.length ≤ 9223372036854775807) (h1 : RecsIn w w.heap.size A1 vs) (h2 : RecsIn w w.heap.size A2 vs) :
    Calls Try.prog 17 #[.slice A1 n1 c1, .slice A2 n2 c2] w fun e w' => e = .returned (.bool true) ∧ Below w.heap.size w w' := by
  rw [hn1.out, hn2.out]
  refine (same_yes A1 A2 vs c1 c2 w hm hl h1 h2).mono ?_
  rintro e w' ⟨rfl, n, rfl⟩
  exact ⟨rfl, bl_drewN w n⟩

set_option maxRecDepth 100000 in
set_option maxHeartbeats 8000000 in
theorem walBack_walk (A : Option Addr) (vs : List RecV) (c : Nat) (cut : Int) (w : World) (h : RecVsAt w A vs) (hlc : vs.length ≤ c) (hcc : c ≤ 9223372036854775807) (k1 : -9223372036854775808 ≤ cut) (k2 : cut ≤ 9223372036854775807) :
    Calls Try.prog 8 #[.slice A vs.length c, .int .i64 cut] w fun e w' => e = .returned (.bool true) ∧ Below w.heap.size w w' := by
  obtain ⟨i0, hi, hz0, hz1, hz2⟩ := info_parts Try.infoU8z
  have H := Lib.hid h
  have HIN := Lib.hid h.in_
  have HLC := Lib.hid hlc
  have HCC := Lib.hid hcc
  clear h hlc hcc
  go_enter Try.func8, Try.ntmps8
  go_wp2_with fail
  refine (great_any A vs c _ H.out).mono ?_
  rintro e w1 ⟨⟨b, rfl, hgr⟩, hb1⟩
  cases b
  · obtain ⟨hn20, hsm⟩ := hgr rfl
    have HSM := Lib.hid hsm
    have HSMX : Hid (∀ x ∈ consV vs, x.2.length ≤ 9223372036854775807) := Lib.hid (fun x hx => by
      obtain ⟨v, hv, rfl⟩ := List.mem_map.1 hx
      obtain ⟨i, hi, rfl⟩ := List.getElem_of_mem hv
      have := HSM.out i hi
      show (vs[i]).l.length ≤ _
      omega)
    clear hgr hsm
    go_wp2_with fail
    go_loopw [5, 6, 7] (fun o es i wr => ∃ (k : Nat) (A2 : Option Addr) (c2 : Nat) (A3 : Option Addr) (c3 m2 : Nat), k ≤ vs.length ∧ i = .int .i64 k ∧ Hid (∀ j, (h : j < vs.length) → j < k → Good ((vs[j]'h).id, (vs[j]'h).l)) ∧ m2 = (recsL ((consV vs).take k)).length ∧ o = .slice A2 m2 c2 ∧ m2 ≤ k * 1031 ∧ es = .slice A3 k c3 ∧ BI w (consV vs) k A2 c2 A3 c3 wr) (fun _ _ i _ => vs.length - (intOf i).toNat)
    case atStart => exact ⟨0, none, 0, none, 0, 0, Nat.zero_le _, rfl, Lib.hid (fun j h hj => absurd hj (by omega)), rfl, rfl, Nat.zero_le _, rfl, Own.nil, EndsAt.nil _ _, hb1⟩
    case round =>
      obtain ⟨k, A2, c2, A3, c3, m2, hk, rfl, hgd, hm2, rfl, hmk, rfl, hBI⟩ := hrel
      by_cases hlt : k < vs.length
      · obtain ⟨b1, o1, rfl, hbb1, hc1⟩ := H.out.2.2 (by omega)
        obtain ⟨x1, y1⟩ := hc1 k hlt
        have hok := H.out.2.1 _ (List.getElem_mem hlt)
        have hsv := HSM.out k hlt
        clear hc1
        have hsnoc := recsL_snoc (consV vs) k (by rw [consV_len]; exact hlt)
        rw [consV_get vs k hlt] at hsnoc
        obtain ⟨v, hv⟩ : ∃ v, v = vs[k] := ⟨_, rfl⟩
        rw [← hv] at x1 y1 hok hsv hsnoc
        have X1 := (hBI.bel.cell (p := ⟨b1, o1 + k * 2, none⟩) hbb1).trans x1
        have Y1 := (hBI.bel.cell (p := ⟨b1, o1 + k * 2 + 1, none⟩) hbb1).trans y1
        have HV := Lib.hid hv
        have hki : (k : Int) < (vs.length : Int) := by omega
        have hwr := fun wr (hb : Below w.heap.size w wr) => write_any v.id v.A v.l v.l.length v.c wr rfl (by unfold maxLen; omega) (hok.bs.bt hb)
        have HW := Lib.hid (hwr _ hBI.bel)
        have Hsnoc := Lib.hid hsnoc
        have Hm2 := Lib.hid hm2
        clear hv x1 y1 hwr hok hsnoc hm2
        go_wp2_with fail
        refine HW.out.mono ?_
        rintro e w2 ⟨Ab, cb, rfl, hob, hbw⟩
        have hBI2 := hBI.below hbw
        clear X1 Y1 HW hBI
        by_cases h0 : (writeR v.id v.l).2 = 0
        · have hg := good_of h0
          have hwg := writeR_good hg
          dsimp only at hwg
          rw [hwg] at hob ⊢
          dsimp only at hob ⊢
          have hlen : (recL v.id.toNat v.l).length ≤ 1031 := by rw [recL_length]; have := hg.2.2; dsimp only at this; omega
          obtain ⟨S, hS⟩ : ∃ S, S = recL v.id.toNat v.l := ⟨_, rfl⟩
          rw [← hS] at hob hlen Hsnoc ⊢
          have hbs := hob.bs
          have hgd2 : Hid (∀ j, (h : j < vs.length) → j < k + 1 → Good ((vs[j]'h).id, (vs[j]'h).l)) := Lib.hid (fun j h hj' => by
            rcases Nat.lt_or_eq_of_le (Nat.lt_succ_iff.1 hj') with h4 | h4
            · exact hgd.out j h h4
            · subst h4; rw [← HV.out]; exact hg)
          have hsz := hBI2.bel.size
          clear h0 hg hwg hgd hob hsv hS
          go_wp2_with (first
            | (at_builtin
               refine wpList_append_bs _ rfl (.tmp 38) (.tmp 39) 22 rfl w.heap.size 5 i0 _ Try.underlying22 hi hz0 hz1 hz2 rfl A2 c2 _ m2 rfl Hm2.out hBI2.out _ Ab cb S S.length rfl rfl hbs (by rw [← Hm2.out]; omega) hsz ?_
               intro A4 c4 w3 own3 hg3 _
               obtain ⟨m4, hm4⟩ : ∃ m4, m4 = m2 + S.length := ⟨_, rfl⟩
               rw [← hm4]
               have hL4 : recsL ((consV vs).take k) ++ S = recsL ((consV vs).take (k + 1)) := Hsnoc.out.symm
               have hm4L : m4 = (recsL ((consV vs).take k) ++ S).length := by rw [List.length_append, ← Hm2.out]; exact hm4
               obtain ⟨A5, c5, w5, hrun5, hBI5⟩ := hBI2.more own3 hg3 hL4 (by omega) hm4L
               have hm45 : m4 ≤ (k + 1) * 1031 := by omega
               have Hm4 : m4 = (recsL ((consV vs).take (k + 1))).length := by rw [← hL4]; exact hm4L
               have HM4 := Lib.hid Hm4
               clear hm4 hm4L hL4 own3 hg3 hBI2 hbs hlen hsz Hm4)
            | (at_builtin; refine wpList_append_run rfl (.tmp 41) (.tmp 44) 71 rfl _ _ _ w5 rfl rfl hrun5 ?_))
          go_roundw
          case rel => exact ⟨k + 1, A4, c4, A5, c5, m4, by omega, by go_num, hgd2, HM4.out, rfl, hm45, rfl, hBI5⟩
          case measure => simp [intOf]; omega
        · have hw0 := writeR_bad h0
          obtain ⟨e0, he0⟩ : ∃ e0, e0 = (writeR v.id v.l).2 := ⟨_, rfl⟩
          rw [← he0] at h0 ⊢
          rw [hw0, List.length_nil]
          have hne : (e0 != 0) = true := bne_iff_ne.2 h0
          have hbw2 := hBI2.bel
          clear hw0 he0 h0 hob hBI2 hgd hsv Hsnoc Hm2
          go_wp2_with fail
          refine (alive_any _).mono ?_
          rintro e w4 ⟨rfl, hb4⟩
          go_wp2
          go_ret
          exact ⟨rfl, bt hbw2 hb4⟩
      · obtain rfl : k = vs.length := by omega
        have hgood : ∀ x ∈ consV vs, Good x := fun x hx => by
          obtain ⟨v, hv, rfl⟩ := List.mem_map.1 hx
          obtain ⟨i, hi, rfl⟩ := List.getElem_of_mem hv
          exact hgd.out i hi hi
        rw [← consV_len vs, List.take_length] at hm2
        have hBI' : BI w (consV vs) (consV vs).length A2 c2 A3 c3 wr := by rw [consV_len]; exact hBI
        have hown := hBI'.out
        rw [List.take_length] at hown
        have hcap := hown.cap
        have hrd := read_any A2 (recsL (consV vs)) m2 c2 wr (Lib.hid hm2) (Lib.hid (by rw [hm2]; exact hcap.1)) (Lib.hid hcap.2) (Lib.hid (by omega)) hown.bs
        rw [readR_all hgood] at hrd
        rw [← hm2] at hrd
        have HRD := Lib.hid hrd
        have HM2 := Lib.hid hm2
        have HG := Lib.hid hgood
        have HCAP := Lib.hid hcap
        have HBI := Lib.hid hBI'
        have hbr := hBI.bel
        clear hrd hm2 hgood hcap hBI' hBI hown hgd
        go_wp2_with fail
        refine HRD.out.mono ?_
        rintro e w2 ⟨Ar, cr, rfl, hR, hb2⟩
        dsimp only at hR ⊢
        have hin := hR.in_
        have hin2 := HIN.out.bt (bt hbr hb2)
        go_wp2_with fail
        refine (same_n _ _ (consV vs) _ _ _ _ (Lib.hid rfl) (Lib.hid (consV_len vs).symm) _ (by rw [consV_len]; omega) HSMX.out hin hin2).mono ?_
        rintro e w3 ⟨rfl, hb3⟩
        have hbA := bt hbr (bt hb2 hb3)
        have HBI3 := Lib.hid ((HBI.out.below hb2).below hb3)
        have HIN3 := Lib.hid (hin2.bt hb3)
        clear hin hin2 hR hb2 hb3 HRD hbr HBI
        by_cases hc0 : cut < 0
        · go_wp2_with fail
          refine (alive_any _).mono ?_
          rintro e w4 ⟨rfl, hb4⟩
          go_wp2
          go_ret
          exact ⟨rfl, bt hbA hb4⟩
        by_cases hc1 : (m2 : Int) < cut
        · go_wp2_with fail
          refine (alive_any _).mono ?_
          rintro e w4 ⟨rfl, hb4⟩
          go_wp2
          go_ret
          exact ⟨rfl, bt hbA hb4⟩
        obtain ⟨m, rfl⟩ : ∃ m : Nat, cut = m := ⟨cut.toNat, by omega⟩
        have hmm : Hid (m ≤ m2) := Lib.hid (by omega)
        go_wp2_with fail
        go_loopw [12] (fun i W => ∃ j : Nat, j ≤ vs.length ∧ i = .int .i64 j ∧ Hid ((recsL ((consV vs).take j)).length ≤ m) ∧ W = w3) (fun i _ => vs.length - (intOf i).toNat)
        case atStart => exact ⟨0, Nat.zero_le _, rfl, Lib.hid (Nat.zero_le _), rfl⟩
        case round =>
          obtain ⟨j, hj, rfl, hjm, hW⟩ := hrel
          subst hW
          have hcell : ∀ h : j < vs.length, ∃ g3, A3 = some ⟨g3, 0, none⟩ ∧ wr.cell? ⟨g3, j, none⟩ = some (.int .i64 ((recsL ((consV vs).take (j + 1))).length : Nat)) := fun h => by
            obtain ⟨g3, e, hc⟩ := HBI3.out.ends.cell j (by rw [esL_len, consV_len]; exact h)
            refine ⟨g3, e, hc.trans ?_⟩
            unfold esL
            rw [List.getElem_map, List.getElem_range]
          have HCELL := Lib.hid hcell
          clear hcell
          rcases Nat.lt_or_ge j vs.length with hlt2 | hge
          · obtain ⟨g3, rfl, hcj⟩ := HCELL.out hlt2
            obtain ⟨E, hE⟩ : ∃ E, E = (recsL ((consV vs).take (j + 1))).length := ⟨_, rfl⟩
            rw [← hE] at hcj
            have HE := Lib.hid hE
            clear hE HCELL
            have hjI : (j : Int) < (vs.length : Int) := by omega
            by_cases hEm : (E : Int) ≤ (m : Int)
            · go_wp2
              go_roundw
              case rel => exact ⟨j + 1, by omega, by go_num, Lib.hid (by rw [← HE.out]; omega), trivial⟩
              case measure => simp [intOf]; omega
            · have hchar : Hid (j < vs.length → m < (recsL ((consV vs).take (j + 1))).length) := Lib.hid (fun _ => by rw [← HE.out]; omega)
              have hcut := readR_cut HG.out (m := m) (j := j) (by rw [← HM2.out]; exact hmm.out) (by rw [consV_len]; exact hj) hjm.out (fun h => hchar.out (by rw [consV_len] at h; exact h))
              have hown := HBI3.out.out
              rw [List.take_length] at hown
              have hmc0 : m ≤ c2 := by have := HCAP.out.1; rw [← HM2.out] at this; have := hmm.out; omega
              have hmc : (m : Int) ≤ (c2 : Int) := by omega
              have hm0 : (0 : Int) ≤ (m : Int) := by omega
              have hrd := read_any A2 ((recsL (consV vs)).take m) m c2 wr (Lib.hid (by rw [List.length_take, ← HM2.out]; have := hmm.out; omega)) (Lib.hid hmc0) (Lib.hid HCAP.out.2) (Lib.hid (by omega)) (bs_takeA hown.bs m)
              rw [hcut] at hrd
              obtain ⟨q, hq⟩ : ∃ q, q = (recsL ((consV vs).take j)).length := ⟨_, rfl⟩
              rw [← hq] at hrd
              have HRD := Lib.hid hrd
              have HQ := Lib.hid hq
              have hcj : ((consV vs).take j).length = j := by rw [List.length_take, consV_len]; omega
              have HCJ := Lib.hid hcj
              clear hcut hown hrd hq hcj
              go_wp2_with fail
              refine HRD.out.mono ?_
              rintro e w4 ⟨A4, c4, rfl, hR4, hb4⟩
              dsimp only at hR4 ⊢
              rw [HCJ.out]
              have hi4 := hR4.in_
              have hi4' := HIN3.out.bt hb4
              have hbB := bt hbA hb4
              have he4 := HBI3.out.ends.kept (gbelow hb4 none) (fun r e => by cases e)
              clear hR4 hb4 hbA HIN3 HBI3 HRD
              go_wp2_with fail
              refine (alive_any _).mono ?_
              rintro e w5 ⟨rfl, hb5⟩
              have hi5 := hi4.bt hb5
              have hi5' := (hi4'.bt hb5).take j
              have hbC := bt hbB hb5
              have he5 := he4.kept (gbelow hb5 none) (fun r e => by cases e)
              have hjc0 : j ≤ c := by have := HLC.out; omega
              have hjc : (j : Int) ≤ (c : Int) := by omega
              have hj0 : (0 : Int) ≤ (j : Int) := by omega
              clear hi4 hi4' hbB he4 hb5
              go_wp2_with fail
              refine (same_n _ _ ((consV vs).take j) _ _ _ _ (Lib.hid HCJ.out.symm) (Lib.hid HCJ.out.symm) _ (by rw [HCJ.out]; omega) (fun x hx => HSMX.out x (List.mem_of_mem_take hx)) hi5 hi5').mono ?_
              rintro e w6 ⟨rfl, hb6⟩
              have hbD := bt hbC hb6
              have he6 := he5.kept (gbelow hb6 none) (fun r e => by cases e)
              clear hi5 hi5' hbC he5 hb6 hmc hmc0 hm0 hjc hjc0 hj0
              rcases Nat.eq_zero_or_pos j with hz | hjp
              · subst hz
                obtain rfl : q = 0 := HQ.out
                go_wp2
                go_ret
                exact ⟨rfl, hbD⟩
              · obtain ⟨j2, rfl⟩ : ∃ j2, j = j2 + 1 := ⟨j - 1, by omega⟩
                obtain ⟨g5, e5, hc5⟩ := he6.cell j2 (by rw [esL_len, consV_len]; omega)
                have hc6 : w6.cell? ⟨g5, j2, none⟩ = some (.int .i64 q) := hc5.trans (by
                  unfold esL
                  rw [List.getElem_map, List.getElem_range, HQ.out])
                cases e5
                have hwj : IntKind.i64.wrap (j2 : Int) = (j2 : Int) := IntWalk.i64_in _ (by omega)
                have hj2 : (j2 : Int) < (vs.length : Int) := by omega
                have hj3 : ¬ (j2 : Int) + 1 = 0 := by omega
                have hj4 : (0 : Int) < (j2 : Int) + 1 := by omega
                clear hc5 he6
                go_wp2
                go_ret
                exact ⟨rfl, hbD⟩
          · have hjI : ¬ (j : Int) < (vs.length : Int) := by omega
            have hchar : Hid (j < vs.length → m < (recsL ((consV vs).take (j + 1))).length) := Lib.hid (fun h => absurd h (by omega))
            have hcut := readR_cut HG.out (m := m) (j := j) (by rw [← HM2.out]; exact hmm.out) (by rw [consV_len]; exact hj) hjm.out (fun h => hchar.out (by rw [consV_len] at h; exact h))
            have hown := HBI3.out.out
            rw [List.take_length] at hown
            have hmc0 : m ≤ c2 := by have := HCAP.out.1; rw [← HM2.out] at this; have := hmm.out; omega
            have hmc : (m : Int) ≤ (c2 : Int) := by omega
            have hm0 : (0 : Int) ≤ (m : Int) := by omega
            have hrd := read_any A2 ((recsL (consV vs)).take m) m c2 wr (Lib.hid (by rw [List.length_take, ← HM2.out]; have := hmm.out; omega)) (Lib.hid hmc0) (Lib.hid HCAP.out.2) (Lib.hid (by omega)) (bs_takeA hown.bs m)
            rw [hcut] at hrd
            obtain ⟨q, hq⟩ : ∃ q, q = (recsL ((consV vs).take j)).length := ⟨_, rfl⟩
            rw [← hq] at hrd
            have HRD := Lib.hid hrd
            have HQ := Lib.hid hq
            have hcj : ((consV vs).take j).length = j := by rw [List.length_take, consV_len]; omega
            have HCJ := Lib.hid hcj
            clear hcut hown hrd hq hcj
            go_wp2_with fail
            refine HRD.out.mono ?_
            rintro e w4 ⟨A4, c4, rfl, hR4, hb4⟩
            dsimp only at hR4 ⊢
            rw [HCJ.out]
            have hi4 := hR4.in_
            have hi4' := HIN3.out.bt hb4
            have hbB := bt hbA hb4
            have he4 := HBI3.out.ends.kept (gbelow hb4 none) (fun r e => by cases e)
            clear hR4 hb4 hbA HIN3 HBI3 HRD
            go_wp2_with fail
            refine (alive_any _).mono ?_
            rintro e w5 ⟨rfl, hb5⟩
            have hi5 := hi4.bt hb5
            have hi5' := (hi4'.bt hb5).take j
            have hbC := bt hbB hb5
            have he5 := he4.kept (gbelow hb5 none) (fun r e => by cases e)
            have hjc0 : j ≤ c := by have := HLC.out; omega
            have hjc : (j : Int) ≤ (c : Int) := by omega
            have hj0 : (0 : Int) ≤ (j : Int) := by omega
            clear hi4 hi4' hbB he4 hb5
            go_wp2_with fail
            refine (same_n _ _ ((consV vs).take j) _ _ _ _ (Lib.hid HCJ.out.symm) (Lib.hid HCJ.out.symm) _ (by rw [HCJ.out]; omega) (fun x hx => HSMX.out x (List.mem_of_mem_take hx)) hi5 hi5').mono ?_
            rintro e w6 ⟨rfl, hb6⟩
            have hbD := bt hbC hb6
            have he6 := he5.kept (gbelow hb6 none) (fun r e => by cases e)
            clear hi5 hi5' hbC he5 hb6 hmc hmc0 hm0 hjc hjc0 hj0
            rcases Nat.eq_zero_or_pos j with hz | hjp
            · subst hz
              obtain rfl : q = 0 := HQ.out
              go_wp2
              go_ret
              exact ⟨rfl, hbD⟩
            · obtain ⟨j2, rfl⟩ : ∃ j2, j = j2 + 1 := ⟨j - 1, by omega⟩
              obtain ⟨g5, e5, hc5⟩ := he6.cell j2 (by rw [esL_len, consV_len]; omega)
              have hc6 : w6.cell? ⟨g5, j2, none⟩ = some (.int .i64 q) := hc5.trans (by
                unfold esL
                rw [List.getElem_map, List.getElem_range, HQ.out])
              cases e5
              have hwj : IntKind.i64.wrap (j2 : Int) = (j2 : Int) := IntWalk.i64_in _ (by omega)
              have hj2 : (j2 : Int) < (vs.length : Int) := by omega
              have hj3 : ¬ (j2 : Int) + 1 = 0 := by omega
              have hj4 : (0 : Int) < (j2 : Int) + 1 := by omega
              clear hc5 he6
              go_wp2
              go_ret
              exact ⟨rfl, hbD⟩
  · go_wp2_with fail
    refine (alive_any _).mono ?_
    rintro e w2 ⟨rfl, hb2⟩
    go_wp2
    go_ret
    exact ⟨rfl, bt hb1 hb2⟩
end Go.Proofs.Ytflibdiafhkpoaa
