/- Layer 3: other records in the place of all. -/
import Derived.Test.YtflibdiafhkpoaaZx
import Derived.Test.YtflibdiafhkpoaaZt
namespace Go.Proofs.Ytflibdiafhkpoaa
open Go.RowKit
set_option linter.unusedVariables false
set_option linter.unusedSimpArgs false

/-- What laying other records in the place of all makes. -/
def SwapO (w : World) (p : Nat) (cs : List (Int × List UInt8)) (l : List UInt8) (f : Nat) (e : Ending) (w' : World) : Prop :=
  ∃ e0 : Int, e = .returned (.int .i64 e0) ∧ ((e0 = 0 ∧ (∀ v ∈ cs, Good v) ∧ TapeAt w' p 65536 (recsL cs) (recsL cs).length) ∨ (e0 ≠ 0 ∧ TapeAt w' p 65536 l f)) ∧ w.grownBy w' (some p)

set_option maxRecDepth 100000 in
set_option maxHeartbeats 4000000 in
theorem swap_any (q p : Nat) (l : List UInt8) (f : Nat) (A : Option Addr) (vs : List RecV) (c : Nat) (w : World) (hq : LogAt w q p) (hT : TapeAt w p 65536 l f) (h : RecVsAt w A vs) (hn20 : vs.length ≤ 20) (hsm : ∀ i, (h : i < vs.length) → (vs[i]'h).l.length ≤ 3000) :
    Calls Try.prog 28 #[.pointer (some ⟨q, 0, none⟩), .slice A vs.length c] w (SwapO w p (consV vs) l f) := by
  obtain ⟨i0, hi, hz0, hz1, hz2⟩ := info_parts Try.infoU8z
  have H := Lib.hid h
  have HSM := Lib.hid hsm
  clear h hsm
  go_enter Try.func28, Try.ntmps28
  go_wp2_with fail
  refine (logMade_yes q p _ hq).mono ?_
  rintro e w' ⟨rfl, rfl⟩
  go_wp2_with fail
  go_loopw [5, 15] (fun o i wr => ∃ (k : Nat) (A2 : Option Addr) (c2 m2 : Nat) (a : List UInt8), k ≤ vs.length ∧ i = .int .i64 k ∧ Hid (∀ j, (h : j < vs.length) → j < k → Good ((vs[j]'h).id, (vs[j]'h).l)) ∧ m2 = a.length ∧ o = .slice A2 m2 c2 ∧ m2 ≤ 70000 ∧ Hid (a = recsL ((consV vs).take k) ∨ 65536 < a.length) ∧ Own wr w.heap.size 5 A2 c2 a ∧ Below w.heap.size w wr) (fun _ i _ => vs.length - (intOf i).toNat)
  case atStart => exact ⟨0, none, 0, 0, [], Nat.zero_le _, rfl, Lib.hid (fun j h hj => absurd hj (by omega)), rfl, rfl, by omega, Lib.hid (.inl rfl), Own.nil, Below.refl _ _⟩
  case round =>
    obtain ⟨k, A2, c2, m2, a, hk, rfl, hgd, hm2, rfl, hmk, ha, hown, hbr⟩ := hrel
    by_cases hlt : k < vs.length
    · obtain ⟨b1, o1, rfl, hbb1, hc1⟩ := H.out.2.2 (by omega)
      obtain ⟨x1, y1⟩ := hc1 k hlt
      have hok := H.out.2.1 _ (List.getElem_mem hlt)
      have hsv := HSM.out k hlt
      clear hc1
      have hsnoc := recsL_snoc (consV vs) k (by rw [consV_len]; exact hlt)
      rw [consV_get vs k hlt] at hsnoc
      obtain ⟨v, hv⟩ : ∃ v, v = vs[k] := ⟨_, rfl⟩
      rw [← hv] at x1 y1 hok hsv hsnoc
      have X1 := (hbr.cell (p := ⟨b1, o1 + k * 2, none⟩) hbb1).trans x1
      have Y1 := (hbr.cell (p := ⟨b1, o1 + k * 2 + 1, none⟩) hbb1).trans y1
      have HV := Lib.hid hv
      have hki : (k : Int) < (vs.length : Int) := by omega
      have hbr1 := bt hbr (ba wr (.cells #[.int .i64 v.id, .slice v.A v.l.length v.c] 24))
      have HW := Lib.hid (write_any v.id v.A v.l v.l.length v.c _ rfl (by unfold maxLen; omega) (hok.bs.bt hbr1))
      have Hsnoc := Lib.hid hsnoc
      have Hm2 := Lib.hid hm2
      have hown1 := hown.alloc (.cells #[.int .i64 v.id, .slice v.A v.l.length v.c] 24)
      clear hv x1 y1 hok hsnoc hm2 hown
      go_wp2_with fail
      refine HW.out.mono ?_
      rintro e w2 ⟨Ab, cb, rfl, hob, hbw⟩
      have hown2 := hown1.below hbw (Nat.le_refl _)
      have hbr2 := bt hbr1 hbw
      have hT2 := hT.below hbr2
      have hq2 := hq.below hbr2
      clear X1 Y1 HW hown1 hbr hbw hbr1
      by_cases h0 : (writeR v.id v.l).2 = 0
      · have hg := good_of h0
        have hwg := writeR_good hg
        dsimp only at hwg
        rw [hwg] at hob ⊢
        dsimp only at hob ⊢
        have hlen : (recL v.id.toNat v.l).length ≤ 1031 := by rw [recL_length]; have := hg.2.2; dsimp only at this; omega
        obtain ⟨S, hS⟩ : ∃ S, S = recL v.id.toNat v.l := ⟨_, rfl⟩
        rw [← hS] at hob hlen Hsnoc ⊢
        have hbs := hob.bs
        have hgd2 : Hid (∀ j, (h : j < vs.length) → j < k + 1 → Good ((vs[j]'h).id, (vs[j]'h).l)) := Lib.hid (fun j h hj' => by
          rcases Nat.lt_or_eq_of_le (Nat.lt_succ_iff.1 hj') with h4 | h4
          · exact hgd.out j h h4
          · subst h4; rw [← HV.out]; exact hg)
        have hsz := hbr2.size
        have hqc : w2.cell? ⟨q, 0, none⟩ = some (.pointer (some ⟨p, 0, none⟩)) := hq2
        clear h0 hg hwg hgd hob hsv hS
        by_cases hroom : (m2 : Int) ≤ 65536
        · have haa : a = recsL ((consV vs).take k) := by
            rcases ha.out with h | h
            · exact h
            · rw [← Hm2.out] at h; omega
          have HAA := Lib.hid haa
          clear haa ha
          go_wp2_with fail
          refine (tapeRoom p 65536 l f _ hT2).mono ?_
          rintro e w3 ⟨rfl, rfl⟩
          go_wp2_with (at_builtin
                       refine wpList_append_bs _ rfl (.tmp 35) (.tmp 36) 22 rfl w.heap.size 5 i0 _ Try.underlying22 hi hz0 hz1 hz2 rfl A2 c2 _ m2 rfl Hm2.out hown2 _ Ab cb S S.length rfl rfl hbs (by rw [← Hm2.out]; omega) hsz ?_
                       intro A4 c4 w3 own3 hg3 _
                       obtain ⟨m4, hm4⟩ : ∃ m4, m4 = m2 + S.length := ⟨_, rfl⟩
                       rw [← hm4]
                       have hm4L : m4 = (a ++ S).length := by rw [List.length_append, ← Hm2.out]; exact hm4
                       have hb3 : Below w.heap.size w w3 := hbr2.grown hg3 hbr2.size (fun r e => (hown2.lt r e).1)
                       have hm45 : m4 ≤ 70000 := by omega
                       have hA4 : Hid (a ++ S = recsL ((consV vs).take (k + 1)) ∨ 65536 < (a ++ S).length) := Lib.hid (.inl (by rw [Hsnoc.out, HAA.out]))
                       have HM4 := Lib.hid hm4L
                       clear hm4 hm4L hg3 hbr2 hown2 hbs hlen hsz HAA)
          go_roundw
          case rel => exact ⟨k + 1, A4, c4, m4, a ++ S, by omega, by go_num, hgd2, HM4.out, rfl, hm45, hA4, own3, hb3⟩
          case measure => simp [intOf]; omega
        · have ha2 : Hid (a = recsL ((consV vs).take (k + 1)) ∨ 65536 < a.length) := Lib.hid (.inr (by rw [← Hm2.out]; omega))
          clear ha hbs hlen
          go_wp2_with fail
          refine (tapeRoom p 65536 l f _ hT2).mono ?_
          rintro e w3 ⟨rfl, rfl⟩
          go_wp2
          go_roundw
          case rel => exact ⟨k + 1, A2, c2, m2, a, by omega, by go_num, hgd2, Hm2.out, rfl, hmk, ha2, hown2, hbr2⟩
          case measure => simp [intOf]; omega
      · obtain ⟨e0, he0⟩ : ∃ e0, e0 = (writeR v.id v.l).2 := ⟨_, rfl⟩
        rw [← he0] at h0 ⊢
        have hne : (e0 != 0) = true := bne_iff_ne.2 h0
        have hne2 := Lib.hid h0
        clear he0 h0 hob hgd hsv Hsnoc Hm2 hown2 ha
        go_wp2
        go_ret
        exact ⟨e0, rfl, .inr ⟨hne2.out, hT2⟩, gbelow hbr2 _⟩
    · obtain rfl : k = vs.length := by omega
      have hgood : ∀ x ∈ consV vs, Good x := fun x hx => by
        obtain ⟨v, hv, rfl⟩ := List.mem_map.1 hx
        obtain ⟨i, hi, rfl⟩ := List.getElem_of_mem hv
        exact hgd.out i hi hi
      have hT2 := hT.below hbr
      have hqc : wr.cell? ⟨q, 0, none⟩ = some (.pointer (some ⟨p, 0, none⟩)) := hq.below hbr
      have hsw := tapeSwap p 65536 l f A2 a c2 wr hT2 hown.bs (by omega)
      rw [← hm2] at hsw
      have HGD := Lib.hid hgood
      by_cases hroom : 65536 < m2
      · rw [if_pos hroom] at hsw
        have HS := Lib.hid hsw
        clear hsw hm2 ha hgood hroom
        go_wp2_with fail
        refine HS.out.mono ?_
        rintro e w3 ⟨rfl, hT3, hg3, -⟩
        go_wp2
        go_ret
        exact ⟨5, rfl, .inr ⟨by omega, hT3⟩, gtrans (gbelow hbr _) hg3⟩
      · rw [if_neg hroom] at hsw
        have haa : a = recsL (consV vs) := by
          rcases ha.out with h | h
          · rw [h, ← consV_len, List.take_length]
          · omega
        have HAA := Lib.hid haa
        have HS := Lib.hid hsw
        have HM := Lib.hid hm2
        clear hsw hm2 ha hgood hroom haa
        go_wp2_with fail
        refine HS.out.mono ?_
        rintro e w3 ⟨rfl, hT3, hg3, -⟩
        go_wp2
        go_ret
        have hT3' : TapeAt w3 p 65536 (recsL (consV vs)) (recsL (consV vs)).length := by
          have e1 := HM.out
          have e2 := HAA.out
          rw [← e2]
          first | exact hT3 | (rw [← e1]; exact hT3)
        exact ⟨0, rfl, .inl ⟨rfl, HGD.out, hT3'⟩, gtrans (gbelow hbr _) hg3⟩
end Go.Proofs.Ytflibdiafhkpoaa
