/- Layer 14: QueueOnce. -/
import Derived.Test.YtfcafahgmnnlnaaQ29
namespace Go.Proofs.Ytfcafahgmnnlnaa.Qu
open Go.RowKit Go.Maps Go.Deep
set_option linter.unusedVariables false
set_option linter.unusedSimpArgs false

/-- So many in, so many out. -/
structure IO (S : QS) (a b : Nat) : Prop where
  ok : QOk S
  qr : QR S
  B : S.B = anyB
  g : S.g = (a : Nat)
  len : S.I.length + b = a
theorem IO.zero : IO (QS.zero anyB) 0 0 := ⟨QOk.zero _, QR.zero _, rfl, rfl, rfl⟩
theorem IO.call {S : QS} {a b : Nat} (h : IO S a b) (hd : S.ws.Pairwise fun a b => a.n ≠ b.n) (o : OpV) (hk : o.k ≤ 4 ∧ o.k ≠ 3) : IO { (callM S o).2 with B := anyB } a b := by
  refine ⟨(h.ok.call hd o).rebase, (h.qr.call o).rebase, rfl, ?_, ?_⟩
  · rw [← h.g]
    show (callM S o).2.g = S.g
    unfold callM
    split; · unfold putM; split; rfl; split <;> rfl
    split; · unfold takeM; split; rfl; split; rfl; split <;> rfl
    split; · unfold prepM; split; rfl; split <;> rfl
    split; · omega
    split; · unfold backM; split <;> rfl
    split; · omega
    split; · omega
    rfl
  · have e : (callM S o).2.I.length = S.I.length := by
      unfold callM
      split; · unfold putM; split; rfl; split <;> rfl
      split
      · unfold takeM; split; rfl; split; rfl; split
        · dsimp only; rw [giveI_len]
        · rfl
      split; · unfold prepM; split; rfl; split <;> rfl
      split; · omega
      split
      · unfold backM; split
        · rfl
        · dsimp only; rw [List.length_map]
      split; · omega
      split; · omega
      rfl
    show (callM S o).2.I.length + b = a
    rw [e]; exact h.len
theorem IO.prep {S : QS} {a b : Nat} (h : IO S a b) (hd : S.ws.Pairwise fun a b => a.n ≠ b.n) (n : Int) : IO (prepM S n).2 a b := by
  refine ⟨h.ok.prep hd n, h.qr.prep n, (prepM_B' S n).trans h.B, ?_, ?_⟩
  · rw [← h.g]; unfold prepM; split; rfl; split <;> rfl
  · rw [← h.len]; unfold prepM; split; rfl; split <;> rfl
theorem IO.commit {S : QS} {a b : Nat} (h : IO S a b) (hd : S.ws.Pairwise fun a b => a.n ≠ b.n) {n : Int} (hn : 1 ≤ n) : IO (commitM S n).2 (a + putsL (curQ S.ws n).1) (b + ((curQ S.ws n).1.length - putsL (curQ S.ws n).1)) := by
  obtain ⟨kl, f1, f2, f3, _⟩ := commit_facts hn h.qr
  have hl := h.len
  refine ⟨h.ok.commit hd n, h.qr.commit n, (commitM_B S n).trans h.B, ?_, ?_⟩
  · have := h.g
    unfold commitM; rw [if_neg (by omega)]
    dsimp only; push_cast; omega
  · omega
set_option maxRecDepth 100000 in
set_option maxHeartbeats 1000000 in
theorem queueOnce_walk (A : Option Addr) (ops : List OpV) (c : Nat) (w : World) (ho : OpsAt w A ops) :
    Calls Try.prog 8 #[.slice A ops.length c] w fun e w' => e = .returned (.bool true) ∧ Below w.heap.size w w' := by
  obtain ⟨n, hn⟩ : ∃ n, n = ops.length := ⟨_, rfl⟩
  have H := Lib.hid ho
  have HMn := Lib.hid hn
  have hml : n ≤ 9223372036854775807 := by have := ho.1; rw [hn]; unfold maxLen at this; omega
  rw [← hn]
  clear hn ho
  obtain ⟨g, hg⟩ : ∃ g, g = w.heap.size := ⟨_, rfl⟩
  have HG := Lib.hid hg
  go_enter Try.func8, Try.ntmps8
  go_wp2_with fail
  refine (new_any anyB w).mono ?_
  rintro e w1 ⟨rfl, ⟨cs, hk⟩, b1⟩
  rw [← hg] at hk ⊢
  have HI : Hid (∃ S, IO S 0 0 ∧ (∃ cs, QAt w1 g 0 54 cs S (50 + 0)) ∧ Below w.heap.size w w1) := Lib.hid ⟨_, IO.zero, ⟨cs, hk.more (by omega)⟩, b1⟩
  clear hk b1 hg
  go_wp2_with fail
  go_loopw [4, 5, 6] (fun av bv iv wr => ∃ (a b i : Nat), i ≤ n ∧ i ≤ 60 ∧ b ≤ a ∧ a ≤ 4611686018427387904 ∧ av = .int .i64 a ∧ bv = .int .i64 b ∧ iv = .int .i64 i ∧ Hid (∃ S, IO S a b ∧ (∃ cs, QAt wr g 0 54 cs S (50 + i)) ∧ Below w.heap.size w wr)) (fun _ _ iv _ => n - (intOf iv).toNat)
  case atStart => exact ⟨0, 0, 0, Nat.zero_le _, by omega, by omega, by omega, rfl, rfl, rfl, HI⟩
  case round =>
    clear HI
    obtain ⟨a, b, i, hi, hi60, hba, ha62, rfl, rfl, rfl, HR⟩ := hrel
    by_cases hgo : i < n ∧ i < 60
    · obtain ⟨him, hi6⟩ := hgo
      have himI : (i : Int) < (n : Int) := by omega
      have hi6I : (i : Int) < 60 := by omega
      have hio : i < ops.length := by rw [← HMn.out]; exact him
      obtain ⟨S, hio2, ⟨csx, hqx⟩, hb⟩ := HR.out
      obtain ⟨bo, o, rfl, hlt, hcs⟩ := H.out.2.2 (by omega)
      obtain ⟨q0, q1, q2, q3, q4, q5⟩ := hcs i hio
      have hin := H.out.2.1 _ (List.getElem_mem hio)
      generalize ops[i]'hio = op at q0 q1 q2 q3 q4 q5 hin
      have hlo := fun u => long_any op u
      have hcal := fun (u : World) (hu : Below wr.heap.size wr u) (hk : op.k ≤ 4) => call_any g _ csx S (50 + i) op u (hqx.below hu) hio2.ok (by omega) hin.1 (fun e => by omega) (fun e => by omega) (fun e => by omega) (fun b _ => by rw [hio2.B]; trivial)
      have hnx := fun hk => hio2.call hqx.nd op hk
      unfold OpV.val at hlo hcal
      have hwk : i64ok op.n := hin.1
      generalize hlb : longB op = lb at hlo
      generalize hcm : callM S op = R at hcal hnx
      obtain ⟨ok, on, ox, ov, oA, ol, oc, oVA, ovs, ovc⟩ := op
      dsimp only at q0 q1 q2 q3 q4 q5 hlo hcal hnx hwk
      have p0 := (hb.cell (p := ⟨bo, o + i * 6, none⟩) hlt).trans q0
      have p1 := (hb.cell (p := ⟨bo, o + i * 6 + 1, none⟩) hlt).trans q1
      have p2 := (hb.cell (p := ⟨bo, o + i * 6 + 2, none⟩) hlt).trans q2
      have p3 := (hb.cell (p := ⟨bo, o + i * 6 + 3, none⟩) hlt).trans q3
      have p4 := (hb.cell (p := ⟨bo, o + i * 6 + 4, none⟩) hlt).trans q4
      have p5 := (hb.cell (p := ⟨bo, o + i * 6 + 5, none⟩) hlt).trans q5
      obtain ⟨lq, hlq⟩ : ∃ lq, lq = ol.length := ⟨_, rfl⟩
      obtain ⟨vq, hvq⟩ : ∃ vq, vq = ovs.length := ⟨_, rfl⟩
      rw [← hlq, ← hvq] at hlo hcal
      rw [← hlq] at p4
      rw [← hvq] at p5
      obtain ⟨w2, hw2⟩ : ∃ w2, w2 = wr.alloc (.cells #[.int .i64 ok, .int .i64 on, .int .i64 ox, .int .u64 (ov : Nat), .slice oA lq oc, .slice oVA vq ovc] 35) := ⟨_, rfl⟩
      have b2 : Below wr.heap.size wr w2 := by rw [hw2]; exact ba _ _
      have k2 : Blk w2 wr.heap.size 35 #[.int .i64 ok, .int .i64 on, .int .i64 ox, .int .u64 (ov : Nat), .slice oA lq oc, .slice oVA vq ovc] := by rw [hw2]; exact Blk.new _ _ _
      have HW2 := Lib.hid hw2
      have HLo := Lib.hid (hlo w2)
      have HCal := Lib.hid hcal
      have HNx := Lib.hid hnx
      have HX := Lib.hid (And.intro hio2 (And.intro hqx (And.intro hb (And.intro b2 (And.intro k2 hwk)))))
      have HSm : Hid (∀ u, Below wr.heap.size wr u → ∃ S, IO S a b ∧ (∃ cs, QAt u g 0 54 cs S (50 + (i + 1))) ∧ Below w.heap.size w u) := Lib.hid fun u hu => ⟨S, hio2, ⟨csx, (hqx.below hu).more (by omega)⟩, bt hb hu⟩
      have hgw : g < wr.heap.size := hqx.lt
      have Hgw := Lib.hid hgw
      clear hcal hlo hnx hio2 hqx hb q0 q1 q2 q3 q4 q5 hcs hio hlq hvq HR hin hw2 b2 k2 hwk hgw hlb hcm
      go_wp2_with fail
      rw [← HW2.out]
      refine HLo.out.mono ?_
      rintro e w3 ⟨rfl, b3⟩
      have hb3 := bt HX.out.2.2.2.1 b3
      have k3 := HX.out.2.2.2.2.1.below b3 HX.out.2.2.2.2.1.lt
      have d0 := k3.cell 0
      have d1 := k3.cell 1
      have d2 := k3.cell 2
      have d3 := k3.cell 3
      have d4 := k3.cell 4
      have d5 := k3.cell 5
      simp only [List.getElem?_toArray, List.getElem?_cons_zero, List.getElem?_cons_succ] at d0 d1 d2 d3 d4 d5
      have H3 := Lib.hid (And.intro hb3 k3)
      clear b3 hb3 k3 p0 p1 p2 p3 p4 p5
      cases lb with
      | true =>
        have HN := Lib.hid (HSm.out w3 H3.out.1)
        clear d0 d1 d2 d3 d4 d5
        go_wp2
        go_roundw
        case rel => exact ⟨a, b, i + 1, by omega, by omega, hba, ha62, rfl, rfl, by go_num, HN⟩
        case measure => simp [intOf]; omega
      | false =>
        by_cases hk4 : 4 < ok
        · have HN := Lib.hid (HSm.out w3 H3.out.1)
          clear d1 d2 d3 d4 d5
          go_wp2
          go_roundw
          case rel => exact ⟨a, b, i + 1, by omega, by omega, hba, ha62, rfl, rfl, by go_num, HN⟩
          case measure => simp [intOf]; omega
        · by_cases hk3 : ok = 3
          · subst hk3
            have hpr := prep_any g 0 _ csx S (50 + i) on w3 (HX.out.2.1.below H3.out.1) (by omega) HX.out.2.2.2.2.2
            have hpio := HX.out.1.prep HX.out.2.1.nd on
            rcases openE_cases S on with ⟨he, _⟩ | ⟨he, _⟩ | ⟨he, hon1, _⟩
            · have hM : prepM S on = (([], 1), S) := by unfold prepM; rw [if_pos (by rw [he]; simp), he]
              rw [hM] at hpr
              dsimp only at hpr
              have HC := Lib.hid hpr
              clear hpr hM he hpio hk4
              go_wp2_with fail
              refine HC.out.mono ?_
              rintro e w4 ⟨⟨A5, q5, c5, rfl, _, _⟩, ⟨⟨cs4, hq4, _⟩, hg4⟩⟩
              have HN : Hid (∃ S, IO S a b ∧ (∃ cs, QAt w4 g 0 54 cs S (50 + (i + 1))) ∧ Below w.heap.size w w4) := Lib.hid ⟨S, HX.out.1, ⟨cs4, hq4⟩, (bt HX.out.2.2.1 H3.out.1).grown hg4 (bt HX.out.2.2.1 H3.out.1).size (fun r e => by cases e; have := HG.out; omega)⟩
              clear hq4 hg4 d0 d1 d2 d3 d4 d5
              go_wp2
              go_roundw
              case rel => exact ⟨a, b, i + 1, by omega, by omega, hba, ha62, rfl, rfl, by go_num, HN⟩
              case measure => simp [intOf]; omega
            · have hM : prepM S on = (([], 7), S) := by unfold prepM; rw [if_pos (by rw [he]; simp), he]
              rw [hM] at hpr
              dsimp only at hpr
              have HC := Lib.hid hpr
              clear hpr hM he hpio hk4
              go_wp2_with fail
              refine HC.out.mono ?_
              rintro e w4 ⟨⟨A5, q5, c5, rfl, _, _⟩, ⟨⟨cs4, hq4, _⟩, hg4⟩⟩
              have HN : Hid (∃ S, IO S a b ∧ (∃ cs, QAt w4 g 0 54 cs S (50 + (i + 1))) ∧ Below w.heap.size w w4) := Lib.hid ⟨S, HX.out.1, ⟨cs4, hq4⟩, (bt HX.out.2.2.1 H3.out.1).grown hg4 (bt HX.out.2.2.1 H3.out.1).size (fun r e => by cases e; have := HG.out; omega)⟩
              clear hq4 hg4 d0 d1 d2 d3 d4 d5
              go_wp2
              go_roundw
              case rel => exact ⟨a, b, i + 1, by omega, by omega, hba, ha62, rfl, rfl, by go_num, HN⟩
              case measure => simp [intOf]; omega
            · obtain ⟨x1, x2, x3, x4, _⟩ := prep_facts he
              obtain ⟨S1, hS1⟩ : ∃ S1, S1 = (prepM S on).2 := ⟨_, rfl⟩
              rw [x1, ← hS1, ← x2, ← hS1] at hpr
              rw [← hS1] at hpio
              dsimp only at hpr
              obtain ⟨l, hl⟩ : ∃ l, l = (curQ S1.ws on).1 := ⟨_, rfl⟩
              rw [← hl] at hpr
              have hll : l.length ≤ 200 := by rw [hl, hS1, x2]; have := HX.out.2.1.cur_len on; omega
              have hpl := putsL_le l
              have HC := Lib.hid hpr
              have HS1 := Lib.hid (And.intro hpio (And.intro hl (And.intro hll (And.intro hpl hon1))))
              clear hpr he hpio hk4 x1 x2 x3 x4 hS1 hl hll hpl hon1
              go_wp2_with fail
              refine HC.out.mono ?_
              rintro e w4 ⟨⟨A5, q5, c5, rfl, hq5, own5⟩, ⟨⟨cs4, hq4, _⟩, hg4⟩⟩
              have Hq5 := Lib.hid hq5
              have k4 := H3.out.2.kept hg4 (fun e => by have := Option.some.inj e; have := Hgw.out; omega)
              have d1' := k4.cell 1
              simp only [List.getElem?_toArray, List.getElem?_cons_zero, List.getElem?_cons_succ] at d1'
              have HPu := Lib.hid (fun u (hb : Below w4.heap.size w4 u) => refputs_any A5 l q5 c5 u Hq5 (by have := HS1.out.2.2.1; omega) (own5.at_.inl.below hb))
              have hnd := hq4.nd
              have hcmio := HS1.out.1.commit hnd HS1.out.2.2.2.2
              rw [← HS1.out.2.1] at hcmio
              have H4 := Lib.hid (And.intro k4 (And.intro hq4 (And.intro ((bt HX.out.2.2.1 H3.out.1).grown hg4 (bt HX.out.2.2.1 H3.out.1).size (fun r e => by cases e; have := HG.out; omega)) (And.intro hcmio HS1.out.1))))
              obtain ⟨pz, hpz⟩ : ∃ pz, pz = putsL l := ⟨_, rfl⟩
              rw [← hpz] at HPu
              have HPz := Lib.hid hpz
              have HP4 := Lib.hid (HPu.out w4 (Below.refl _ _))
              have hq200 : q5 ≤ 200 := by rw [hq5]; exact HS1.out.2.2.1
              have hpq : pz ≤ q5 := by rw [hq5, hpz]; exact HS1.out.2.2.2.1
              clear hq5 own5 hq4 hg4 k4 hnd hcmio hpz d0 d1 d2 d3 d4 d5
              go_wp2_with fail
              refine HP4.out.mono ?_
              rintro e w5 ⟨rfl, b5⟩
              have HP5 := Lib.hid (HPu.out w5 b5)
              have HB5 := Lib.hid b5
              clear b5
              have hin2 : IntKind.i64.wrap ((a : Int) + (pz : Int)) = ((a + pz : Nat) : Int) := by rw [IntWalk.i64_in _ (by omega)]; omega
              have hou1 : IntKind.i64.wrap ((b : Int) + (q5 : Int)) = ((b + q5 : Nat) : Int) := by rw [IntWalk.i64_in _ (by omega)]; omega
              have hou2 : IntKind.i64.wrap (((b + q5 : Nat) : Int) - (pz : Int)) = ((b + (q5 - pz) : Nat) : Int) := by rw [IntWalk.i64_in _ (by omega)]; omega
              obtain ⟨a2, ha2⟩ : ∃ a2, a2 = a + pz := ⟨_, rfl⟩
              obtain ⟨b2, hb2⟩ : ∃ b2, b2 = b + (q5 - pz) := ⟨_, rfl⟩
              obtain ⟨bx, hbx⟩ : ∃ bx, bx = b + q5 := ⟨_, rfl⟩
              rw [← ha2] at hin2
              rw [← hbx] at hou1 hou2
              rw [← hb2] at hou2
              have HAB := Lib.hid (And.intro ha2 hb2)
              clear ha2 hb2 hbx
              have hcio : Hid (IO (commitM S1 on).2 a2 b2) := Lib.hid (by rw [HAB.out.1, HAB.out.2, HPz.out, Hq5.out]; exact H4.out.2.2.2.1)
              go_wp2_with fail
              refine HP5.out.mono ?_
              rintro e w6 ⟨rfl, b6⟩
              have hb6 := bt HB5.out b6
              have k6 := H4.out.1.below hb6 H4.out.1.lt
              have d1 := k6.cell 1
              simp only [List.getElem?_toArray, List.getElem?_cons_zero, List.getElem?_cons_succ] at d1
              have hcm := commit_any g 0 _ cs4 S1 _ on w6 (H4.out.2.1.below hb6) H4.out.2.2.2.2.ok (by omega) HX.out.2.2.2.2.2
              have e1 : (commitM S1 on).1 = 0 := by unfold commitM; rw [if_neg (by have := HS1.out.2.2.2.2; omega)]
              rw [e1] at hcm
              generalize (commitM S1 on).2 = S2 at hcm hcio
              have HCm := Lib.hid hcm
              have HB6 := Lib.hid (bt H4.out.2.2.1 hb6)
              clear hcm b6 hb6 k6 d1' e1
              go_wp2_with fail
              refine HCm.out.mono ?_
              rintro e w7 ⟨rfl, ⟨⟨cs7, hq7, _⟩, hg7⟩⟩
              have hb7 := HB6.out.grown hg7 HB6.out.size (fun r e => by cases e; have := HG.out; omega)
              have hv := values_any g 0 _ cs7 S2 _ w7 hq7
              obtain ⟨nl, hnl⟩ : ∃ nl, nl = S2.I.length := ⟨_, rfl⟩
              rw [← hnl] at hv
              have hle : nl + b2 = a2 := by rw [hnl]; exact hcio.out.len
              have ha2m : a2 ≤ 4611686018427387904 := by have := hcio.out.g; have := hcio.out.ok.last; omega
              have HV := Lib.hid hv
              have H7 := Lib.hid (And.intro hq7 hb7)
              have hgt : ¬ (a2 : Int) < (b2 : Int) := by omega
              have hsb : IntKind.i64.wrap ((a2 : Int) - (b2 : Int)) = (nl : Int) := by rw [IntWalk.i64_in _ (by omega)]; omega
              have hba2 : b2 ≤ a2 := by omega
              have Hfin := Lib.hid (And.intro hba2 ha2m)
              have hnn : ((nl : Int) != (nl : Int)) = false := by simp
              clear hv hq7 hg7 hb7 hnl hle d1 hba2 ha2m
              go_wp2_with fail
              refine HV.out.mono ?_
              rintro e w8 ⟨A8, c8, rfl, _, b8⟩
              have HN : Hid (∃ S, IO S a2 b2 ∧ (∃ cs, QAt w8 g 0 54 cs S (50 + (i + 1))) ∧ Below w.heap.size w w8) := Lib.hid ⟨S2, hcio.out, ⟨cs7, H7.out.1.below b8⟩, bt H7.out.2 b8⟩
              clear b8
              go_wp2
              go_roundw
              case rel => exact ⟨a2, b2, i + 1, by omega, by omega, Hfin.out.1, Hfin.out.2, rfl, rfl, by go_num, HN⟩
              case measure => simp [intOf]; omega
          · by_cases hk2 : ok = 2
            · subst hk2
              have HN := Lib.hid (HSm.out w3 H3.out.1)
              clear d1 d2 d3 d4 d5
              go_wp2
              go_roundw
              case rel => exact ⟨a, b, i + 1, by omega, by omega, hba, ha62, rfl, rfl, by go_num, HN⟩
              case measure => simp [intOf]; omega
            · have HC := Lib.hid (HCal.out w3 H3.out.1 (by omega))
              have hN2 := Lib.hid (HNx.out ⟨by omega, hk3⟩)
              go_wp2_with fail
              refine HC.out.mono ?_
              rintro e w4 ⟨A5, q5, c5, rfl, _, _, ⟨⟨cs4, hq4, _⟩, hg4⟩⟩
              have HN : Hid (∃ S, IO S a b ∧ (∃ cs, QAt w4 g 0 54 cs S (50 + (i + 1))) ∧ Below w.heap.size w w4) := Lib.hid ⟨_, hN2.out, ⟨cs4, hq4.rebase fun _ _ _ => trivial⟩, (bt HX.out.2.2.1 H3.out.1).grown hg4 (bt HX.out.2.2.1 H3.out.1).size (fun r e => by cases e; have := HG.out; omega)⟩
              clear hq4 hg4 d0 d1 d2 d3 d4 d5
              go_wp2
              go_roundw
              case rel => exact ⟨a, b, i + 1, by omega, by omega, hba, ha62, rfl, rfl, by go_num, HN⟩
              case measure => simp [intOf]; omega
    · have hcond : (¬ (i : Int) < (n : Int)) ∨ ((i : Int) < (n : Int) ∧ ¬ (i : Int) < 60) := by omega
      clear hgo
      suffices hs : ∀ (P : Prop), P → P by
        rcases hcond with hc1 | ⟨hc1, hc2⟩
        all_goals
          go_wp2_with fail
          refine (alive_any wr).mono ?_
          rintro e w4 ⟨rfl, b4⟩
          obtain ⟨S, hio2, ⟨csx, hqx⟩, hb⟩ := HR.out
          have hv := values_any g 0 _ csx S _ w4 (hqx.below b4)
          obtain ⟨nl, hnl⟩ : ∃ nl, nl = S.I.length := ⟨_, rfl⟩
          rw [← hnl] at hv
          have hle : nl + b = a := by rw [hnl]; exact hio2.len
          have HV := Lib.hid hv
          have HNt := Lib.hid (fun u (hu : Below w4.heap.size w4 u) => next_any g 0 _ csx S _ u ((hqx.below b4).below hu))
          rw [hio2.g] at HNt
          have H4 := Lib.hid (bt hb b4)
          have hsb : IntKind.i64.wrap ((a : Int) - (b : Int)) = (nl : Int) := by rw [IntWalk.i64_in _ (by omega)]; omega
          have hsa : IntKind.i64.wrap ((a : Int) + 1) = (a : Int) + 1 := IntWalk.i64_in _ (by omega)
          clear hv hqx hb b4 hnl hle hio2
          go_wp2_with fail
          refine HV.out.mono ?_
          rintro e w5 ⟨A5, c5, rfl, _, b5⟩
          have HN5 := Lib.hid (HNt.out w5 b5)
          have H5 := Lib.hid (bt H4.out b5)
          clear b5
          go_wp2_with fail
          refine HN5.out.mono ?_
          rintro e w6 ⟨rfl, rfl⟩
          go_wp2
          go_ret
          exact ⟨by simp, H5.out⟩
      exact fun P h => h
end Go.Proofs.Ytfcafahgmnnlnaa.Qu
