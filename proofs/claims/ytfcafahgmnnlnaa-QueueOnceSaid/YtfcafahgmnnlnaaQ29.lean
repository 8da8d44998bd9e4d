/- Layer 14: QueueRestores. -/
import Derived.Test.YtfcafahgmnnlnaaQ28
namespace Go.Proofs.Ytfcafahgmnnlnaa.Qu
open Go.RowKit Go.Maps Go.Deep
set_option linter.unusedVariables false
set_option linter.unusedSimpArgs false

/-- Two queues, their states. -/
def Two2 (w u : World) (g g2 : Nat) (S S2 : QS) (N : Nat) : Prop := (∃ cs, QAt u g 0 54 cs S N) ∧ (∃ cs, QAt u g2 0 54 cs S2 N) ∧ Below w.heap.size w u
theorem Two2.below {w u u' : World} {g g2 : Nat} {S S2 : QS} {N : Nat} (h : Two2 w u g g2 S S2 N) (hb : Below u.heap.size u u') : Two2 w u' g g2 S S2 N := by
  obtain ⟨⟨cs, h2⟩, ⟨cs2, h3⟩, h4⟩ := h
  exact ⟨⟨cs, h2.below hb⟩, ⟨cs2, h3.below hb⟩, bt h4 hb⟩
set_option maxRecDepth 100000 in
set_option maxHeartbeats 1000000 in
theorem queueRestores_walk (A : Option Addr) (ops : List OpV) (c : Nat) (work : Int) (cm : Bool) (w : World) (ho : OpsAt w A ops) (hx1 : -9223372036854775808 ≤ work) (hx2 : work ≤ 9223372036854775807) :
    Calls Try.prog 9 #[.slice A ops.length c, .int .i64 work, .bool cm] w fun e w' => e = .returned (.bool true) ∧ Below w.heap.size w w' := by
  obtain ⟨n, hn⟩ : ∃ n, n = ops.length := ⟨_, rfl⟩
  have HP1 := Lib.hid (played_any A ops n c w (Lib.hid hn) ho)
  rw [← hn]
  have hwo : i64ok work := ⟨hx1, hx2⟩
  have HQ := Lib.hid (And.intro (QR.play ops) (QN.play ops))
  generalize playQ ops = S at HP1 HQ
  clear hn ho
  go_enter Try.func9, Try.ntmps9
  go_wp2_with fail
  refine HP1.out.mono ?_
  rintro e w1 ⟨⟨g, cs, rfl, hk, hok, hSB, hgl⟩, b1⟩
  have H1 := Lib.hid (And.intro hk (And.intro hok (And.intro hSB (And.intro hgl b1))))
  clear HP1 hk hok hSB hgl b1
  obtain ⟨g2, hg2⟩ : ∃ g2, g2 = w1.heap.size := ⟨_, rfl⟩
  have HG2 := Lib.hid hg2
  go_wp2_with fail
  refine (new_any anyB w1).mono ?_
  rintro e w2 ⟨rfl, ⟨cs2, hk2⟩, b2⟩
  rw [← hg2] at hk2 ⊢
  clear hg2
  by_cases h1 : work < 1
  · have HB := Lib.hid (bt H1.out.2.2.2.2 b2)
    clear hk2 b2
    go_wp2_with fail
    refine (alive_any w2).mono ?_
    rintro e w3 ⟨rfl, b3⟩
    have HB3 := Lib.hid (bt HB.out b3)
    clear b3
    go_wp2
    go_ret
    exact ⟨by simp, HB3.out⟩
  have hw1 : 1 ≤ work := by omega
  obtain ⟨U0, U1, r1, r2, r3, r4, r5, r6, r7, r8, r9⟩ := restores hw1 HQ.out.1 HQ.out.2 H1.out.2.1 H1.out.1.nd
  obtain ⟨il, hil⟩ : ∃ il, il = S.I.length := ⟨_, rfl⟩
  have hil16 : il ≤ 16 := by have := H1.out.2.1.room; omega
  obtain ⟨V, hV⟩ : ∃ V, V = S.I.map IT.v := ⟨_, rfl⟩
  have hVl : Hid (il = V.length) := Lib.hid (by rw [hV, List.length_map, hil])
  have hne : Hid (g ≠ g2 ∧ w.heap.size ≤ g ∧ w.heap.size ≤ g2) := Lib.hid ⟨by have := H1.out.1.lt; have := HG2.out; omega, H1.out.2.2.2.1, by have := H1.out.2.2.2.2.size; have := HG2.out; omega⟩
  have H2 := Lib.hid (show Two2 w w2 g g2 S (QS.zero anyB) 205 from ⟨⟨cs, (H1.out.1.below b2).more (by omega)⟩, ⟨cs2, hk2.more (by omega)⟩, bt H1.out.2.2.2.2 b2⟩)
  have hv2 := values_any g 0 _ cs S _ w2 (H1.out.1.below b2)
  rw [← hil, ← hV] at hv2
  have HV2 := Lib.hid hv2
  have hs2 := b2.size
  have HSz := Lib.hid (show g < w2.heap.size ∧ g2 < w2.heap.size from ⟨by have := H1.out.1.lt; omega, hk2.lt⟩)
  have HF := Lib.hid (And.intro r1 (And.intro r2 (And.intro r3 (And.intro r4 (And.intro r5 (And.intro r6 (And.intro r7 (And.intro r8 r9))))))))
  have HIV := Lib.hid (And.intro hil hV)
  clear hk2 b2 hv2 hs2 r1 r2 r3 r4 r5 r6 r7 r8 r9 hil hV
  go_wp2_with fail
  refine HV2.out.mono ?_
  rintro e w3 ⟨A3, c3, rfl, own3, b3⟩
  have H3 := Lib.hid (H2.out.below b3)
  have HU3 := Lib.hid own3.at_
  have hn3 := (by obtain ⟨⟨csx, hx⟩, _⟩ := H3.out; exact next_any g 0 _ csx S _ w3 hx : Calls Try.prog 19 #[.pointer (some ⟨g, 0, none⟩)] w3 fun e w' => e = .returned (.int .i64 (S.g + 1)) ∧ w3 = w')
  obtain ⟨nx, hnx⟩ : ∃ nx, nx = S.g + 1 := ⟨_, rfl⟩
  rw [← hnx] at hn3
  have HN3 := Lib.hid hn3
  have HB3 := Lib.hid b3
  obtain ⟨csy, hy⟩ := H3.out.2.1
  have hld := load_any g2 0 _ csy (QS.zero anyB) _ A3 V il c3 nx w3 hy hVl HU3.out
  rw [hnx, HIV.out.2, HF.out.1, ← hnx] at hld
  have HLd := Lib.hid hld
  have Hnx := Lib.hid hnx
  clear own3 b3 hn3 hy hld hnx
  go_wp2_with fail
  refine HN3.out.mono ?_
  rintro e w3' ⟨rfl, rfl⟩
  go_wp2_with fail
  refine HLd.out.mono ?_
  rintro e w4 ⟨rfl, ⟨⟨cs4, hq4, _⟩, hg4⟩⟩
  have H4 := Lib.hid (show Two2 w w4 g g2 S U0 205 ∧ g < w4.heap.size ∧ g2 < w4.heap.size from by
    obtain ⟨⟨csx, hx⟩, ⟨csy, hy⟩, hb⟩ := H3.out
    have hs := hg4.size
    have hs3 := HB3.out.size
    exact ⟨⟨⟨csx, hx.far hg4 hne.out.1 hy.bk (by decide) (by decide)⟩, ⟨cs4, hq4⟩, hb.grown hg4 hb.size (fun r e => by cases e; exact hne.out.2.2)⟩, by have := HSz.out; omega, by have := HSz.out; omega⟩)
  clear hq4 hg4
  have hpr := (by obtain ⟨⟨csx, hx⟩, _⟩ := H4.out.1; exact ⟨csx, prep_any g 0 _ csx S 205 work w4 hx (by omega) hwo⟩ : ∃ csx, _)
  obtain ⟨csx, hpr⟩ := hpr
  rcases openE_cases S work with ⟨_, hc⟩ | ⟨he7, _⟩ | ⟨he0, _⟩
  · omega
  · have hM : prepM S work = (([], 7), S) := by unfold prepM; rw [if_pos (by rw [he7]; simp), he7]
    rw [hM] at hpr
    dsimp only at hpr
    have HC := Lib.hid hpr
    clear hpr hM he7
    go_wp2_with fail
    refine HC.out.mono ?_
    rintro e w5 ⟨⟨A5, q5, c5, rfl, _, _⟩, ⟨_, hg5⟩⟩
    have HB5 := Lib.hid (H4.out.1.2.2.grown hg5 H4.out.1.2.2.size (fun r e => by cases e; exact hne.out.2.1))
    clear hg5
    go_wp2_with fail
    refine (alive_any w5).mono ?_
    rintro e w6 ⟨rfl, b6⟩
    have HB6 := Lib.hid (bt HB5.out b6)
    clear b6
    go_wp2
    go_ret
    exact ⟨rfl, HB6.out⟩
  obtain ⟨p1, p2, p3, p4, p5⟩ := prep_facts he0
  have hok1 := H1.out.2.1.prep H1.out.1.nd work
  obtain ⟨S1, hS1⟩ : ∃ S1, S1 = (prepM S work).2 := ⟨_, rfl⟩
  rw [p1, ← hS1] at hpr
  rw [← hS1] at p2 p3 p4 p5 hok1
  obtain ⟨l, hl⟩ : ∃ l, l = (curQ S.ws work).1 := ⟨_, rfl⟩
  rw [← hl] at hpr p2
  dsimp only at hpr
  have hll : l.length ≤ 200 := by rw [hl]; exact H1.out.1.cur_len work
  -- what a decision leaves, of the prepared one
  have hcS1 : (commitM S1 work).2.I.map IT.v = (commitM S work).2.I.map IT.v ∧ (commitM S1 work).2.g = (commitM S work).2.g := by
    unfold commitM
    rw [if_neg (by omega), if_neg (by omega), p2, p3, p4, ← hl]
    exact ⟨rfl, rfl⟩
  have hbS1 : (backM S1 work).2.I.map IT.v = (backM S work).2.I.map IT.v ∧ (backM S1 work).2.g = (backM S work).2.g := by
    unfold backM
    rw [if_neg (by omega), if_neg (by omega), p3, p4]
    exact ⟨rfl, rfl⟩
  have HC := Lib.hid hpr
  have HX := Lib.hid (And.intro hok1 (And.intro hcS1 (And.intro hbS1 (And.intro p3 (And.intro hl (And.intro hll h1))))))
  clear hpr p1 p2 p3 p4 p5 hok1 hS1 hl hcS1 hbS1 he0 hll
  go_wp2_with fail
  refine HC.out.mono ?_
  rintro e w5 ⟨⟨A5, q5, c5, rfl, hq5, own5⟩, ⟨⟨cs5, hk5, _⟩, hg5⟩⟩
  have Hq5 := Lib.hid hq5
  have H5 := Lib.hid (show Two2 w w5 g g2 S1 U0 206 ∧ OwnC w5 w4.heap.size A5 c5 l from by
    obtain ⟨⟨csx, hx⟩, ⟨csy, hy⟩, hb⟩ := H4.out.1
    exact ⟨⟨⟨cs5, hk5⟩, ⟨csy, (hy.far hg5 (fun e => hne.out.1 e.symm) hx.bk (by decide) (by decide)).more (by omega)⟩, hb.grown hg5 hb.size (fun r e => by cases e; exact hne.out.2.1)⟩, own5⟩)
  clear hq5 hk5 hg5 own5
  have hrs := (by
    obtain ⟨_, ⟨csy, hy⟩, _⟩ := H5.out.1
    have hUB : U0.B = anyB := by have := loadM_B (QS.zero anyB) (S.I.map IT.v) (S.g + 1); rw [HF.out.1] at this; exact this
    have := rest_any g2 0 _ csy U0 206 work A5 l q5 c5 w5 hy (by omega) hwo Hq5 (by have := Hq5.out; have := HX.out.2.2.2.2.2.1; omega) (fun u hu => (H5.out.2.kept hu (fun r e => by cases e; exact H4.out.2.2)).at_.inl) (fun b _ => by rw [hUB]; trivial)
    rw [HX.out.2.2.2.2.1, HF.out.2.1] at this
    exact ⟨csy, this⟩ : ∃ csy, Calls Try.prog 29 #[.pointer (some ⟨g2, 0, none⟩), .int .i64 work, .slice A5 q5 c5] w5 fun e w' => e = .returned (.int .i64 0) ∧ QO w5 g2 0 54 csy U1 (206 + 1) w')
  obtain ⟨csr, hrs⟩ := hrs
  have HRs := Lib.hid hrs
  clear hrs
  go_wp2_with fail
  refine HRs.out.mono ?_
  rintro e w6 ⟨rfl, ⟨⟨cs6, hq6, _⟩, hg6⟩⟩
  have H6 := Lib.hid (show Two2 w w6 g g2 S1 U1 207 from by
    obtain ⟨⟨csx, hx⟩, ⟨csy, hy⟩, hb⟩ := H5.out.1
    exact ⟨⟨csx, (hx.far hg6 hne.out.1 hy.bk (by decide) (by decide)).more (by omega)⟩, ⟨cs6, hq6⟩, hb.grown hg6 hb.size (fun r e => by cases e; exact hne.out.2.2)⟩)
  clear hq6 hg6
  have hby := (by
    obtain ⟨_, ⟨csy, hy⟩, _⟩ := H6.out
    have := busy_any g2 0 _ csy U1 _ work w6 hy hwo
    rw [HF.out.2.2.2.2.2.1, ← HX.out.2.2.2.2.1, ← Hq5.out] at this
    exact this : Calls Try.prog 20 #[.pointer (some ⟨g2, 0, none⟩), .int .i64 work] w6 fun e w' => e = .returned (.bool (decide (0 < q5))) ∧ Below w6.heap.size w6 w')
  have H6b := Lib.hid (And.intro (show S1.I.map IT.v = V by rw [HX.out.2.2.2.1, HIV.out.2]) (And.intro (show S1.I.length = il by rw [HX.out.2.2.2.1, HIV.out.1]) (And.intro (show U1.I.map IT.v = V by rw [HF.out.2.2.2.2.2.2.1, HIV.out.2]) (show U1.I.length = il by have := congrArg List.length HF.out.2.2.2.2.2.2.1; rw [List.length_map, List.length_map] at this; rw [this, HIV.out.1]))))
  have HNx := Lib.hid h1
  obtain ⟨bq, hbq⟩ : ∃ bq, bq = decide (0 < q5) := ⟨_, rfl⟩
  rw [← hbq] at hby
  have HBy := Lib.hid hby
  have hbI : bq = decide ((0 : Int) < (q5 : Int)) := by rw [hbq]; congr 1; apply propext; omega
  have HbI := Lib.hid hbI
  clear hby hbq hbI
  suffices hs : ∀ (P : Prop), P → P by
    cases bq
    all_goals
      have hlt := HbI.out.symm
      first
        | (have hlt2 := of_decide_eq_true hlt)
        | (have hlt2 := of_decide_eq_false hlt)
      clear hlt
      go_wp2_with fail
      refine HBy.out.mono ?_
      rintro e w7 ⟨rfl, b7⟩
      have H7 := Lib.hid (H6.out.below b7)
      have hvu := (by
        obtain ⟨_, ⟨csy, hy⟩, _⟩ := H7.out
        have := values_any g2 0 _ csy U1 _ w7 hy
        rw [H6b.out.2.2.1, H6b.out.2.2.2] at this
        exact this : Calls Try.prog 17 #[.pointer (some ⟨g2, 0, none⟩)] w7 fun e w' => ∃ A c, e = .returned (.slice A il c) ∧ OwnU w' w7.heap.size A c V ∧ Below w7.heap.size w7 w')
      have HVu := Lib.hid hvu
      clear hvu b7
      go_wp2_with fail
      refine HVu.out.mono ?_
      rintro e w8 ⟨A8, c8, rfl, own8, b8⟩
      have H8 := Lib.hid (H7.out.below b8)
      have hvq := (by
        obtain ⟨⟨csx, hx⟩, _⟩ := H8.out
        have := values_any g 0 _ csx S1 _ w8 hx
        rw [H6b.out.1, H6b.out.2.1] at this
        exact this : Calls Try.prog 17 #[.pointer (some ⟨g, 0, none⟩)] w8 fun e w' => ∃ A c, e = .returned (.slice A il c) ∧ OwnU w' w8.heap.size A c V ∧ Below w8.heap.size w8 w')
      have HVq := Lib.hid hvq
      have HU8 := Lib.hid own8.at_
      clear hvq own8 b8
      go_wp2_with fail
      refine HVq.out.mono ?_
      rintro e w9 ⟨A9, c9, rfl, own9, b9⟩
      have hsm := same_any A8 A9 V V il il c8 c9 w9 hVl hVl (by omega) (HU8.out.below b9) own9.at_
      rw [decide_eq_true rfl] at hsm
      have HS := Lib.hid hsm
      have H9 := Lib.hid (H8.out.below b9)
      clear own9 b9 hsm
      go_wp2_with fail
      refine HS.out.mono ?_
      rintro e wa ⟨rfl, ba1⟩
      have Ha := Lib.hid (H9.out.below ba1)
      clear ba1
      cases cm
      · have hcq := (by
          obtain ⟨⟨csx, hx⟩, _⟩ := Ha.out
          have hz : (backM S1 work).1 = 0 := by unfold backM; rw [if_neg (by have := HNx.out; omega)]
          have := backout_any g 0 _ csx S1 _ work wa hx hwo
          rw [hz] at this
          exact ⟨csx, this⟩ : ∃ csx, Calls Try.prog 23 #[.pointer (some ⟨g, 0, none⟩), .int .i64 work] wa fun e w' => e = .returned (.int .i64 0) ∧ QO wa g 0 54 csx (backM S1 work).2 207 w')
        have hvv := (show (backM S1 work).2.I.map IT.v = (backM U1 work).2.I.map IT.v ∧ (backM S1 work).2.g = (backM U1 work).2.g from ⟨HX.out.2.2.1.1.trans HF.out.2.2.2.2.2.2.2.2.1.symm, HX.out.2.2.1.2.trans HF.out.2.2.2.2.2.2.2.2.2.symm⟩)
        obtain ⟨S2, hS2⟩ : ∃ S2, S2 = (backM S1 work).2 := ⟨_, rfl⟩
        obtain ⟨U2, hU2⟩ : ∃ U2, U2 = (backM U1 work).2 := ⟨_, rfl⟩
        rw [← hS2] at hcq hvv
        rw [← hU2] at hvv
        obtain ⟨csq, hcq⟩ := hcq
        have HCq := Lib.hid hcq
        have HU2 := Lib.hid hU2
        have HVV := Lib.hid hvv
        clear hcq hS2 hU2 hvv
        go_wp2_with fail
        refine HCq.out.mono ?_
        rintro e wb ⟨rfl, ⟨⟨csb, hqb, _⟩, hgb⟩⟩
        have Hb := Lib.hid (show Two2 w wb g g2 S2 U1 207 from by
          obtain ⟨⟨csx, hx⟩, ⟨csy, hy⟩, hb⟩ := Ha.out
          exact ⟨⟨csb, hqb⟩, ⟨csy, hy.far hgb (fun e => hne.out.1 e.symm) hx.bk (by decide) (by decide)⟩, hb.grown hgb hb.size (fun r e => by cases e; exact hne.out.2.1)⟩)
        clear hqb hgb
        have hcu := (by
          obtain ⟨_, ⟨csy, hy⟩, _⟩ := Hb.out
          have hz : (backM U1 work).1 = 0 := by unfold backM; rw [if_neg (by have := HNx.out; omega)]
          have := backout_any g2 0 _ csy U1 _ work wb hy hwo
          rw [hz, ← HU2.out] at this
          exact ⟨csy, this⟩ : ∃ csy, Calls Try.prog 23 #[.pointer (some ⟨g2, 0, none⟩), .int .i64 work] wb fun e w' => e = .returned (.int .i64 0) ∧ QO wb g2 0 54 csy U2 207 w')
        obtain ⟨csu, hcu⟩ := hcu
        have HCu := Lib.hid hcu
        clear hcu
        go_wp2_with fail
        refine HCu.out.mono ?_
        rintro e wc ⟨rfl, ⟨⟨csc, hqc, _⟩, hgc⟩⟩
        have Hc := Lib.hid (show Two2 w wc g g2 S2 U2 207 from by
          obtain ⟨⟨csx, hx⟩, ⟨csy, hy⟩, hb⟩ := Hb.out
          exact ⟨⟨csx, hx.far hgc hne.out.1 hy.bk (by decide) (by decide)⟩, ⟨csc, hqc⟩, hb.grown hgc hb.size (fun r e => by cases e; exact hne.out.2.2)⟩)
        clear hqc hgc
        go_wp2_with fail
        refine (alive_any wc).mono ?_
        rintro e wd ⟨rfl, bd⟩
        have Hd := Lib.hid (Hc.out.below bd)
        clear bd
        obtain ⟨jl, hjl⟩ : ∃ jl, jl = U2.I.length := ⟨_, rfl⟩
        have hjl48 : jl ≤ 48 := by obtain ⟨_, ⟨csy, hy⟩, _⟩ := Hd.out; have := hy.iv.room; omega
        have hjl2 : jl = S2.I.length := by have := congrArg List.length HVV.out.1; rw [List.length_map, List.length_map] at this; rw [this, hjl]
        obtain ⟨W, hW⟩ : ∃ W, W = U2.I.map IT.v := ⟨_, rfl⟩
        have hvu := (by
          obtain ⟨_, ⟨csy, hy⟩, _⟩ := Hd.out
          have := values_any g2 0 _ csy U2 _ wd hy
          rw [← hjl, ← hW] at this
          exact this : Calls Try.prog 17 #[.pointer (some ⟨g2, 0, none⟩)] wd fun e w' => ∃ A c, e = .returned (.slice A jl c) ∧ OwnU w' wd.heap.size A c W ∧ Below wd.heap.size wd w')
        have HVu2 := Lib.hid hvu
        have Hjl := Lib.hid (And.intro hjl (And.intro hjl2 hW))
        clear hvu hjl hjl2 hW
        go_wp2_with fail
        refine HVu2.out.mono ?_
        rintro e we ⟨Ae, ce, rfl, owne, be⟩
        have He := Lib.hid (Hd.out.below be)
        have hvq := (by
          obtain ⟨⟨csx, hx⟩, _⟩ := He.out
          have := values_any g 0 _ csx S2 _ we hx
          rw [← Hjl.out.2.1, HVV.out.1, ← Hjl.out.2.2] at this
          exact this : Calls Try.prog 17 #[.pointer (some ⟨g, 0, none⟩)] we fun e w' => ∃ A c, e = .returned (.slice A jl c) ∧ OwnU w' we.heap.size A c W ∧ Below we.heap.size we w')
        have HVq2 := Lib.hid hvq
        have HUe := Lib.hid owne.at_
        clear hvq owne be
        go_wp2_with fail
        refine HVq2.out.mono ?_
        rintro e wf ⟨Af, cf, rfl, ownf, bf⟩
        have hWl : jl = W.length := by rw [Hjl.out.2.2, List.length_map]; exact Hjl.out.1
        have hsm := same_any Ae Af W W jl jl ce cf wf (Lib.hid hWl) (Lib.hid hWl) (by omega) (HUe.out.below bf) ownf.at_
        rw [decide_eq_true rfl] at hsm
        have HSm := Lib.hid hsm
        have Hf := Lib.hid (He.out.below bf)
        clear ownf bf hsm hWl
        go_wp2_with fail
        refine HSm.out.mono ?_
        rintro e wg ⟨rfl, bg⟩
        have Hg := Lib.hid (Hf.out.below bg)
        clear bg
        have hn1 := (by
          obtain ⟨⟨csx, hx⟩, _⟩ := Hg.out
          have := next_any g 0 _ csx S2 _ wg hx
          rw [HVV.out.2] at this
          exact this : Calls Try.prog 19 #[.pointer (some ⟨g, 0, none⟩)] wg fun e w' => e = .returned (.int .i64 (U2.g + 1)) ∧ wg = w')
        have hn2 := (by
          obtain ⟨_, ⟨csy, hy⟩, _⟩ := Hg.out
          exact next_any g2 0 _ csy U2 _ wg hy : Calls Try.prog 19 #[.pointer (some ⟨g2, 0, none⟩)] wg fun e w' => e = .returned (.int .i64 (U2.g + 1)) ∧ wg = w')
        have HN1 := Lib.hid hn1
        have HN2 := Lib.hid hn2
        clear hn1 hn2
        go_wp2_with fail
        refine HN1.out.mono ?_
        rintro e wh ⟨rfl, rfl⟩
        go_wp2_with fail
        refine HN2.out.mono ?_
        rintro e wi ⟨rfl, rfl⟩
        go_wp2
        go_ret
        exact ⟨by simp, Hg.out.2.2⟩
      · have hcq := (by
          obtain ⟨⟨csx, hx⟩, _⟩ := Ha.out
          have hz : (commitM S1 work).1 = 0 := by unfold commitM; rw [if_neg (by have := HNx.out; omega)]
          have := commit_any g 0 _ csx S1 _ work wa hx HX.out.1 (by omega) hwo
          rw [hz] at this
          exact ⟨csx, this⟩ : ∃ csx, Calls Try.prog 26 #[.pointer (some ⟨g, 0, none⟩), .int .i64 work] wa fun e w' => e = .returned (.int .i64 0) ∧ QO wa g 0 54 csx (commitM S1 work).2 207 w')
        have hvv := (show (commitM S1 work).2.I.map IT.v = (commitM U1 work).2.I.map IT.v ∧ (commitM S1 work).2.g = (commitM U1 work).2.g from ⟨HX.out.2.1.1.trans HF.out.2.2.2.2.2.2.2.1.1.symm, HX.out.2.1.2.trans HF.out.2.2.2.2.2.2.2.1.2.symm⟩)
        obtain ⟨S2, hS2⟩ : ∃ S2, S2 = (commitM S1 work).2 := ⟨_, rfl⟩
        obtain ⟨U2, hU2⟩ : ∃ U2, U2 = (commitM U1 work).2 := ⟨_, rfl⟩
        rw [← hS2] at hcq hvv
        rw [← hU2] at hvv
        obtain ⟨csq, hcq⟩ := hcq
        have HCq := Lib.hid hcq
        have HU2 := Lib.hid hU2
        have HVV := Lib.hid hvv
        clear hcq hS2 hU2 hvv
        go_wp2_with fail
        refine HCq.out.mono ?_
        rintro e wb ⟨rfl, ⟨⟨csb, hqb, _⟩, hgb⟩⟩
        have Hb := Lib.hid (show Two2 w wb g g2 S2 U1 207 from by
          obtain ⟨⟨csx, hx⟩, ⟨csy, hy⟩, hb⟩ := Ha.out
          exact ⟨⟨csb, hqb⟩, ⟨csy, hy.far hgb (fun e => hne.out.1 e.symm) hx.bk (by decide) (by decide)⟩, hb.grown hgb hb.size (fun r e => by cases e; exact hne.out.2.1)⟩)
        clear hqb hgb
        have hcu := (by
          obtain ⟨_, ⟨csy, hy⟩, _⟩ := Hb.out
          have hz : (commitM U1 work).1 = 0 := by unfold commitM; rw [if_neg (by have := HNx.out; omega)]
          have := commit_any g2 0 _ csy U1 _ work wb hy HF.out.2.2.2.2.1 (by omega) hwo
          rw [hz, ← HU2.out] at this
          exact ⟨csy, this⟩ : ∃ csy, Calls Try.prog 26 #[.pointer (some ⟨g2, 0, none⟩), .int .i64 work] wb fun e w' => e = .returned (.int .i64 0) ∧ QO wb g2 0 54 csy U2 207 w')
        obtain ⟨csu, hcu⟩ := hcu
        have HCu := Lib.hid hcu
        clear hcu
        go_wp2_with fail
        refine HCu.out.mono ?_
        rintro e wc ⟨rfl, ⟨⟨csc, hqc, _⟩, hgc⟩⟩
        have Hc := Lib.hid (show Two2 w wc g g2 S2 U2 207 from by
          obtain ⟨⟨csx, hx⟩, ⟨csy, hy⟩, hb⟩ := Hb.out
          exact ⟨⟨csx, hx.far hgc hne.out.1 hy.bk (by decide) (by decide)⟩, ⟨csc, hqc⟩, hb.grown hgc hb.size (fun r e => by cases e; exact hne.out.2.2)⟩)
        clear hqc hgc
        go_wp2_with fail
        refine (alive_any wc).mono ?_
        rintro e wd ⟨rfl, bd⟩
        have Hd := Lib.hid (Hc.out.below bd)
        clear bd
        obtain ⟨jl, hjl⟩ : ∃ jl, jl = U2.I.length := ⟨_, rfl⟩
        have hjl48 : jl ≤ 48 := by obtain ⟨_, ⟨csy, hy⟩, _⟩ := Hd.out; have := hy.iv.room; omega
        have hjl2 : jl = S2.I.length := by have := congrArg List.length HVV.out.1; rw [List.length_map, List.length_map] at this; rw [this, hjl]
        obtain ⟨W, hW⟩ : ∃ W, W = U2.I.map IT.v := ⟨_, rfl⟩
        have hvu := (by
          obtain ⟨_, ⟨csy, hy⟩, _⟩ := Hd.out
          have := values_any g2 0 _ csy U2 _ wd hy
          rw [← hjl, ← hW] at this
          exact this : Calls Try.prog 17 #[.pointer (some ⟨g2, 0, none⟩)] wd fun e w' => ∃ A c, e = .returned (.slice A jl c) ∧ OwnU w' wd.heap.size A c W ∧ Below wd.heap.size wd w')
        have HVu2 := Lib.hid hvu
        have Hjl := Lib.hid (And.intro hjl (And.intro hjl2 hW))
        clear hvu hjl hjl2 hW
        go_wp2_with fail
        refine HVu2.out.mono ?_
        rintro e we ⟨Ae, ce, rfl, owne, be⟩
        have He := Lib.hid (Hd.out.below be)
        have hvq := (by
          obtain ⟨⟨csx, hx⟩, _⟩ := He.out
          have := values_any g 0 _ csx S2 _ we hx
          rw [← Hjl.out.2.1, HVV.out.1, ← Hjl.out.2.2] at this
          exact this : Calls Try.prog 17 #[.pointer (some ⟨g, 0, none⟩)] we fun e w' => ∃ A c, e = .returned (.slice A jl c) ∧ OwnU w' we.heap.size A c W ∧ Below we.heap.size we w')
        have HVq2 := Lib.hid hvq
        have HUe := Lib.hid owne.at_
        clear hvq owne be
        go_wp2_with fail
        refine HVq2.out.mono ?_
        rintro e wf ⟨Af, cf, rfl, ownf, bf⟩
        have hWl : jl = W.length := by rw [Hjl.out.2.2, List.length_map]; exact Hjl.out.1
        have hsm := same_any Ae Af W W jl jl ce cf wf (Lib.hid hWl) (Lib.hid hWl) (by omega) (HUe.out.below bf) ownf.at_
        rw [decide_eq_true rfl] at hsm
        have HSm := Lib.hid hsm
        have Hf := Lib.hid (He.out.below bf)
        clear ownf bf hsm hWl
        go_wp2_with fail
        refine HSm.out.mono ?_
        rintro e wg ⟨rfl, bg⟩
        have Hg := Lib.hid (Hf.out.below bg)
        clear bg
        have hn1 := (by
          obtain ⟨⟨csx, hx⟩, _⟩ := Hg.out
          have := next_any g 0 _ csx S2 _ wg hx
          rw [HVV.out.2] at this
          exact this : Calls Try.prog 19 #[.pointer (some ⟨g, 0, none⟩)] wg fun e w' => e = .returned (.int .i64 (U2.g + 1)) ∧ wg = w')
        have hn2 := (by
          obtain ⟨_, ⟨csy, hy⟩, _⟩ := Hg.out
          exact next_any g2 0 _ csy U2 _ wg hy : Calls Try.prog 19 #[.pointer (some ⟨g2, 0, none⟩)] wg fun e w' => e = .returned (.int .i64 (U2.g + 1)) ∧ wg = w')
        have HN1 := Lib.hid hn1
        have HN2 := Lib.hid hn2
        clear hn1 hn2
        go_wp2_with fail
        refine HN1.out.mono ?_
        rintro e wh ⟨rfl, rfl⟩
        go_wp2_with fail
        refine HN2.out.mono ?_
        rintro e wi ⟨rfl, rfl⟩
        go_wp2
        go_ret
        exact ⟨by simp, Hg.out.2.2⟩
  exact fun P h => h
end Go.Proofs.Ytfcafahgmnnlnaa.Qu
