/- The law that what was forced is found. -/
import Derived.Test.YtflibdiafhkpoaaZx
import Derived.Test.YtflibdiafhkpoaaZt
namespace Go.Proofs.Ytflibdiafhkpoaa
open Go.RowKit
set_option linter.unusedVariables false
set_option linter.unusedSimpArgs false

theorem open_nil (p : Nat) (w : World) (h : TapeAt w p 65536 [] 0) : Calls Try.prog 22 #[.pointer (some ⟨p, 0, none⟩)] w fun e w' =>
    ∃ q A c, e = .returned (.tuple #[.pointer (some ⟨q, 0, none⟩), .slice A 0 c, .int .i64 0]) ∧ TapeAt w' p 65536 (recsL []) (recsL []).length ∧ LogAt w' q p ∧ w.grownBy w' (some p) := by
  refine (open_any p 65536 [] 0 w h).mono ?_
  rintro e w' ⟨q, A, c, rfl, hT, _, hg, _, _, hq⟩
  exact ⟨q, A, c, rfl, hT, hq, hg⟩
theorem add_recs (q p f : Nat) (rs : List (Int × List UInt8)) (hg : ∀ v ∈ rs, Good v) (force : Bool) (v : RecV) (w : World) (hq : LogAt w q p) (hT : TapeAt w p 65536 (recsL rs) f) (hl : v.l.length ≤ 3000) (hbs : Bs w w.heap.size v.A v.l) :
    ∃ e0 t f', (∀ v ∈ rs ++ t, Good v) ∧ (force = true → f = (recsL rs).length → f' = (recsL (rs ++ t)).length) ∧ (force = false → f' = f) ∧
      Calls Try.prog 26 #[.pointer (some ⟨q, 0, none⟩), .agg #[.int .i64 v.id, .slice v.A v.l.length v.c], .bool force] w (TapeOut w p 65536 (e0, recsL (rs ++ t), f')) := by
  obtain ⟨e0, t, f', h1, h2, h3, h4⟩ := addR_recs hg 65536 f v.id v.l force
  have := add_any q p 65536 (recsL rs) f v.id v.A v.l v.l.length v.c force w hq hT rfl (by unfold maxLen; omega) hbs
  rw [h1] at this
  exact ⟨e0, t, f', h2, h3, h4, this⟩

set_option maxRecDepth 100000 in
set_option maxHeartbeats 8000000 in
theorem walFound_walk (A1 : Option Addr) (vs1 : List RecV) (c1 : Nat) (A2 : Option Addr) (vs2 : List RecV) (c2 : Nat) (keep : Int) (w : World) (h1 : RecVsAt w A1 vs1) (hlc1 : vs1.length ≤ c1) (hcc1 : c1 ≤ 9223372036854775807) (h2 : RecVsAt w A2 vs2) (hlc2 : vs2.length ≤ c2) (hcc2 : c2 ≤ 9223372036854775807) (k1 : -9223372036854775808 ≤ keep) (k2 : keep ≤ 9223372036854775807) :
    Calls Try.prog 6 #[.slice A1 vs1.length c1, .slice A2 vs2.length c2, .int .i64 keep] w fun e w' => e = .returned (.bool true) ∧ Below w.heap.size w w' := by
  have H1 := Lib.hid h1
  have H2 := Lib.hid h2
  have K1 := Lib.hid k1
  have K2 := Lib.hid k2
  clear h1 h2 hlc1 hlc2 hcc1 hcc2 k1 k2
  go_enter Try.func6, Try.ntmps6
  go_wp2_with fail
  refine (great_any A1 vs1 c1 _ H1.out).mono ?_
  rintro e w1 ⟨⟨b, rfl, hgr⟩, hb1⟩
  cases b
  · obtain ⟨hn1, hsm1⟩ := hgr rfl
    have HSM1 := Lib.hid hsm1
    clear hgr hsm1
    have hx2 : RecVsAt w1 A2 vs2 := H2.out.below hb1
    go_wp2_with fail
    refine (great_any A2 vs2 c2 _ hx2).mono ?_
    rintro e w2 ⟨⟨b, rfl, hgr⟩, hb2'⟩
    have hb2 := bt hb1 hb2'
    clear hx2 hb1 hb2'
    cases b
    · obtain ⟨hn2, hsm2⟩ := hgr rfl
      have HSM2 := Lib.hid hsm2
      clear hgr hsm2
      go_wp2_with fail
      refine (new_ok 65536 _ (by omega) (by omega)).mono ?_
      obtain ⟨p, hp⟩ : ∃ p, p = w2.heap.size := ⟨_, rfl⟩
      rw [← hp]
      have hpw : Hid (w.heap.size ≤ p) := Lib.hid (by rw [hp]; exact hb2.size)
      rintro e w3 ⟨rfl, hT3, hb3'⟩
      have hb3 : Below w.heap.size w w3 := bt hb2 (by rw [← hp]; exact hb3')
      clear hb3' hp hb2
      go_wp2_with fail
      refine (open_nil p _ hT3).mono ?_
      rintro e w4 ⟨q, A4, c4, rfl, hT4, hq4, hg4⟩
      have hb4 : Below w.heap.size w w4 := hb3.grown hg4 hb3.size (fun k e => by cases e; exact hpw.out)
      clear hT3 hb3 hg4
      go_wp2_with fail
      go_loopw [12] (fun i wr => ∃ (k : Nat) (rs : List (Int × List UInt8)), k ≤ vs1.length ∧ i = .int .i64 k ∧ Hid (∀ v ∈ rs, Good v) ∧ LogAt wr q p ∧ TapeAt wr p 65536 (recsL rs) (recsL rs).length ∧ Below w.heap.size w wr) (fun i _ => vs1.length - (intOf i).toNat)
      case atStart => exact ⟨0, [], Nat.zero_le _, rfl, Lib.hid (fun v h => by cases h), hq4, hT4, hb4⟩
      case round =>
        obtain ⟨k, rs, hk, rfl, hgd, hqr, hTr, hbr⟩ := hrel
        by_cases hlt : k < vs1.length
        · obtain ⟨b1, o1, rfl, hbb1, hc1⟩ := H1.out.2.2 (by omega)
          obtain ⟨x1, y1⟩ := hc1 k hlt
          have hok := H1.out.2.1 _ (List.getElem_mem hlt)
          have hsv := HSM1.out k hlt
          clear hc1
          obtain ⟨v, hv⟩ : ∃ v, v = vs1[k] := ⟨_, rfl⟩
          rw [← hv] at x1 y1 hok hsv
          have X1 := (hbr.cell (p := ⟨b1, o1 + k * 2, none⟩) hbb1).trans x1
          have Y1 := (hbr.cell (p := ⟨b1, o1 + k * 2 + 1, none⟩) hbb1).trans y1
          have hki : (k : Int) < (vs1.length : Int) := by omega
          obtain ⟨e0, t, f', g1, g2, _, hadd⟩ := add_recs q p _ rs hgd.out true v wr hqr hTr hsv (hok.bs.bt hbr)
          obtain rfl := g2 rfl rfl
          have HADD := Lib.hid hadd
          have hG := Lib.hid g1
          have hne := hqr.ne hTr
          clear hv x1 y1 hok hadd g1 g2 hgd hsv hTr
          go_wp2_with fail
          refine HADD.out.mono ?_
          rintro e w5 h5
          have hb5 := h5.below hbr hpw.out
          obtain ⟨rfl, hT5, hg5, -⟩ := h5
          have hq5 := hqr.grown hg5 hne
          dsimp only at hT5
          clear hg5 hqr X1 Y1 HADD hbr
          go_wp2
          go_roundw
          case rel => exact ⟨k + 1, rs ++ t, by omega, by go_num, hG, hq5, hT5, hb5⟩
          case measure => simp [intOf]; omega
        · clear hT4 hq4 hb4
          go_wp2_with fail
          refine (records_any q p _ _ _ _ hqr hTr).mono ?_
          rintro e w5 ⟨A13, c13, rfl, _, hb5', _⟩
          rw [readR_all hgd.out]
          dsimp only
          have hb5 := bt hbr hb5'
          have hq5 := hqr.below hb5'
          have hT5 := hTr.below hb5'
          obtain ⟨n1, hn1x⟩ : ∃ n1, n1 = rs.length := ⟨_, rfl⟩
          rw [← hn1x]
          have HN1 := Lib.hid hn1x
          clear hn1x hqr hTr hbr hb5' hlt hk
          go_wp2_with fail
          go_loopw [14] (fun i W => ∃ (k2 : Nat) (t : List (Int × List UInt8)), k2 ≤ vs2.length ∧ i = .int .i64 k2 ∧ Hid (∀ v ∈ rs ++ t, Good v) ∧ LogAt W q p ∧ TapeAt W p 65536 (recsL (rs ++ t)) (recsL rs).length ∧ Below w.heap.size w W) (fun i _ => vs2.length - (intOf i).toNat)
          case atStart => exact ⟨0, [], Nat.zero_le _, rfl, Lib.hid (by rw [List.append_nil]; exact hgd.out), hq5, by rw [List.append_nil]; exact hT5, hb5⟩
          case round =>
            obtain ⟨k2, t, hk2, rfl, hgd2, hqr, hTr, hbr⟩ := hrel
            clear hq5 hT5 hb5
            by_cases hlt : k2 < vs2.length
            · obtain ⟨b1, o1, rfl, hbb1, hc1⟩ := H2.out.2.2 (by omega)
              obtain ⟨x1, y1⟩ := hc1 k2 hlt
              have hok := H2.out.2.1 _ (List.getElem_mem hlt)
              have hsv := HSM2.out k2 hlt
              clear hc1
              obtain ⟨v, hv⟩ : ∃ v, v = vs2[k2] := ⟨_, rfl⟩
              rw [← hv] at x1 y1 hok hsv
              have X1 := (hbr.cell (p := ⟨b1, o1 + k2 * 2, none⟩) hbb1).trans x1
              have Y1 := (hbr.cell (p := ⟨b1, o1 + k2 * 2 + 1, none⟩) hbb1).trans y1
              have hki : (k2 : Int) < (vs2.length : Int) := by omega
              obtain ⟨e0, t2, f', g1, _, g3, hadd⟩ := add_recs q p _ (rs ++ t) hgd2.out false v _ hqr hTr hsv (hok.bs.bt hbr)
              obtain rfl := g3 rfl
              rw [List.append_assoc] at g1 hadd
              have HADD := Lib.hid hadd
              have hG := Lib.hid g1
              have hne := hqr.ne hTr
              clear hv x1 y1 hok hadd g1 g3 hgd2 hsv hTr
              go_wp2_with fail
              refine HADD.out.mono ?_
              rintro e w6 h6
              have hb6 := h6.below hbr hpw.out
              obtain ⟨rfl, hT6, hg6, -⟩ := h6
              have hq6 := hqr.grown hg6 hne
              dsimp only at hT6
              clear hg6 hqr X1 Y1 HADD hbr
              go_wp2
              go_roundw
              case rel => exact ⟨k2 + 1, t ++ t2, by omega, by go_num, hG, hq6, hT6, hb6⟩
              case measure => simp [intOf]; omega
            · have hplt := hTr.lt'
              have hf1 := hTr.f1
              have hl1 := hTr.l1
              have hfew := recsL_few (rs ++ t)
              obtain ⟨m, hm⟩ : ∃ m, m = (recsL rs).length + min keep.toNat ((recsL (rs ++ t)).length - (recsL rs).length) := ⟨_, rfl⟩
              obtain ⟨j, j1, j2, j3⟩ := found_of hgd2.out (m := m) (by omega) (by omega)
              have hjl : ((rs ++ t).take j).length = j := by rw [List.length_take]; omega
              have hcr := fun W (h : TapeAt W p 65536 (recsL (rs ++ t)) (recsL rs).length) => tapeCrash p 65536 _ _ keep W h K1.out K2.out
              rw [← hm] at hcr
              have HCR := Lib.hid hcr
              have J3 := Lib.hid j3
              have HJL := Lib.hid hjl
              have J1 := Lib.hid j1
              have J2 := Lib.hid j2
              have HN := Lib.hid (show (rs ++ t).length ≤ 65536 by omega)
              clear hm hcr j3 hjl j1 j2 hfew hf1 hl1
              go_wp2_with fail
              refine (records_any q p _ _ _ _ hqr hTr).mono ?_
              rintro e w6 ⟨A15, c15, rfl, hR6, hb6', hcap⟩
              rw [readR_all hgd2.out] at hR6 hcap ⊢
              dsimp only at hR6 hcap ⊢
              obtain ⟨n2, hn2x⟩ : ∃ n2, n2 = (rs ++ t).length := ⟨_, rfl⟩
              rw [← hn2x] at hcap ⊢
              have HN2 := Lib.hid hn2x
              have HCAP := Lib.hid hcap
              have hb6 := bt hbr hb6'
              have hT6 := hTr.below hb6'
              clear hn2x hcap hbr hTr hqr hb6'
              go_wp2_with fail
              refine (HCR.out _ hT6).mono ?_
              rintro e w7 h7
              have hb7 := h7.below hb6 hpw.out
              obtain ⟨rfl, hT7, hg7, -⟩ := h7
              dsimp only at hT7
              have hR7 := hR6.kept hg7 (fun r e => by cases e; exact hplt)
              clear hR6 hT6 hg7 hb6 HCR
              go_wp2_with fail
              refine (open_any p 65536 _ m w7 hT7).mono ?_
              rintro e w8 h8
              have hb8 := h8.below hb7 hpw.out
              obtain ⟨q8, A17, c17, rfl, hT8, hR8, hg8, -⟩ := h8
              rw [J3.out] at hR8 ⊢
              rw [HJL.out]
              have hi8 := hR8.in_
              have hi7 := (hR7.kept hg8 (fun r e => by cases e; exact hplt)).in_.take j
              clear hR7 hR8 hT7 hT8 hg8 hb7 J3
              go_wp2_with fail
              refine (alive_any _).mono ?_
              rintro e w9 ⟨rfl, hb9'⟩
              have hi9 := hi8.bt hb9'
              have hi9' := hi7.bt hb9'
              have hb9 := bt hb8 hb9'
              clear hi8 hi7 hb8 hb9'
              have f1 : (n1 : Int) ≤ (j : Int) := by have := J1.out; have := HN1.out; omega
              have f2 : (j : Int) ≤ (n2 : Int) := by have := J2.out; have := HN2.out; omega
              have f3 : (j : Int) ≤ (c15 : Int) := by have := HCAP.out; omega
              have f4 : j ≤ c15 := by omega
              go_wp2_with fail
              refine (same_n _ _ ((rs ++ t).take j) _ _ _ _ (Lib.hid HJL.out.symm) (Lib.hid HJL.out.symm) _ (by rw [HJL.out]; have := J2.out; have := HN.out; omega) (fun x hx => by have := (hgd2.out x (List.mem_of_mem_take hx)).2.2; omega) hi9 hi9').mono ?_
              rintro e w10 ⟨rfl, hb10⟩
              go_wp2
              go_ret
              exact ⟨rfl, bt hb9 hb10⟩
    · go_wp2_with fail
      refine (alive_any _).mono ?_
      rintro e w3 ⟨rfl, hb3⟩
      go_wp2
      go_ret
      exact ⟨rfl, bt hb2 hb3⟩
  · go_wp2_with fail
    refine (alive_any _).mono ?_
    rintro e w3 ⟨rfl, hb3⟩
    go_wp2
    go_ret
    exact ⟨rfl, bt hb1 hb3⟩
end Go.Proofs.Ytflibdiafhkpoaa
