/- Layer 14: QueueBack. -/
import Derived.Test.YtfcafahgmnnlnaaQ26
namespace Go.Proofs.Ytfcafahgmnnlnaa.Qu
open Go.RowKit Go.Maps Go.Deep
set_option linter.unusedVariables false
set_option linter.unusedSimpArgs false

/-- Backed out, S is S0. -/
structure BR (S0 S : QS) (n : Int) : Prop where
  it : S.I.map (freeI n) = S0.I
  g : S.g = S0.g
  ws : othersQ S.ws n = S0.ws
  B : S.B = anyB
  ok : QOk S
theorem BR.start {S : QS} {n : Int} (h : QR S) (hn : 1 ≤ n) (hB : S.B = anyB) (hok : QOk S) (hb : (lookQ S.ws n).isSome = false) : BR S S n := by
  have hf : findQ S.ws n = none := by
    unfold lookQ at hb
    rcases hh : findQ S.ws n with _ | z
    · rfl
    · rw [hh] at hb; cases hb
  have hc : (curQ S.ws n).1 = [] := by unfold curQ lookQ; rw [hf]; rfl
  have ht := h.tk n hn
  rw [hc] at ht
  have hby : byI S.I n = [] := List.map_eq_nil_iff.1 ht.symm
  refine ⟨?_, rfl, ?_, hB, hok⟩
  · conv => rhs; rw [← List.map_id S.I]
    refine List.map_congr_left fun x hx => ?_
    have : ¬ x.t = n := fun e => by
      have := List.filter_eq_nil_iff.1 hby x hx
      exact this (by simpa using e)
    unfold freeI; rw [if_neg this]; rfl
  · unfold othersQ
    rw [List.filter_eq_self]
    intro y hy
    simpa using findQ_none.1 hf y hy
theorem BR.step {S0 S : QS} {o : OpV} (h : BR S0 S o.n) (hd : S.ws.Pairwise fun a b => a.n ≠ b.n) (h0 : 0 ≤ o.k) (h2 : o.k ≤ 2) : BR S0 { (callM S o).2 with B := anyB } o.n := by
  have hok : QOk { (callM S o).2 with B := anyB } := (h.ok.call hd o).rebase
  rcases (show o.k = 0 ∨ o.k = 1 ∨ o.k = 2 by omega) with e | e | e
  · have hc : (callM S o).2 = (putM S o.n o.v).2 := by unfold callM; rw [if_pos e]
    rw [hc] at hok ⊢
    unfold putM at hok ⊢
    split
    · exact ⟨h.it, h.g, h.ws, rfl, h.ok.rebase⟩
    · split
      · exact ⟨h.it, h.g, h.ws, rfl, h.ok.rebase⟩
      · rename_i h1 h2
        rw [if_neg h1, if_neg h2] at hok
        exact ⟨h.it, h.g, by dsimp only; unfold addQ; rw [othersQ_lay]; exact h.ws, rfl, hok⟩
  · have hc : (callM S o).2 = (takeM S o.n).2 := by unfold callM; rw [if_neg (by omega), if_pos e]
    rw [hc] at hok ⊢
    unfold takeM at hok ⊢
    split
    · exact ⟨h.it, h.g, h.ws, rfl, h.ok.rebase⟩
    · rename_i h1
      split
      · exact ⟨h.it, h.g, h.ws, rfl, h.ok.rebase⟩
      · rename_i hf
        obtain ⟨hi, ht0, _, _⟩ := front_ok (by simpa using hf : (frontR S.I o.n).2 = 0)
        rw [if_neg h1, if_neg hf, List.getElem?_eq_getElem hi] at hok
        rw [List.getElem?_eq_getElem hi]
        dsimp only at hok ⊢
        refine ⟨?_, h.g, by dsimp only; unfold addQ; rw [othersQ_lay]; exact h.ws, rfl, hok⟩
        dsimp only
        rw [← h.it]
        generalize (frontR S.I o.n).1 = i at hi ht0
        have ea : S.I = S.I.take i ++ S.I[i]'hi :: S.I.drop (i + 1) := by
          rw [← List.drop_eq_getElem_cons hi, List.take_append_drop]
        have hla : (S.I.take i).length = i := by rw [List.length_take]; omega
        generalize S.I[i]'hi = x at ea ht0
        have hg := giveI_app (S.I.take i) x (S.I.drop (i + 1)) o.n
        rw [hla, ← ea] at hg
        rw [hg]
        conv => rhs; rw [ea]
        rw [List.map_append, List.map_append, List.map_cons, List.map_cons]
        congr 2
        obtain ⟨xn, xv, xt⟩ := x
        dsimp only at ht0
        subst ht0
        unfold freeI
        dsimp only
        rw [if_pos rfl]
        split <;> rfl
  · have hc : (callM S o).2 = (prepM S o.n).2 := by unfold callM; rw [if_neg (by omega), if_neg (by omega), if_pos e]
    rw [hc] at hok ⊢
    unfold prepM at hok ⊢
    split
    · exact ⟨h.it, h.g, h.ws, rfl, h.ok.rebase⟩
    · split
      · exact ⟨h.it, h.g, h.ws, rfl, h.ok.rebase⟩
      · rename_i h1 h2
        rw [if_neg h1, if_neg h2] at hok
        exact ⟨h.it, h.g, by dsimp only; rw [othersQ_lay]; exact h.ws, rfl, hok⟩
theorem BR.back {S0 S : QS} {n : Int} (h : BR S0 S n) (hn : 1 ≤ n) (hB : S0.B = anyB) : backM S n = (0, S0) := by
  unfold backM
  rw [if_neg (by omega)]
  obtain ⟨B, I, g, ws⟩ := S
  obtain ⟨B0, I0, g0, ws0⟩ := S0
  obtain ⟨h1, h2, h3, h4, _⟩ := h
  dsimp only at h1 h2 h3 h4 hB ⊢
  rw [h1, h2, h3, h4, hB]
theorem BR.vals {S0 S : QS} {n : Int} (h : BR S0 S n) : S.I.map IT.v = S0.I.map IT.v := by
  rw [← h.it, List.map_map]
  refine List.map_congr_left fun x _ => ?_
  simp only [Function.comp]
  unfold freeI
  split <;> rfl
theorem BR.len {S0 S : QS} {n : Int} (h : BR S0 S n) : S.I.length = S0.I.length := by rw [← h.it, List.length_map]
/-- Two queues. -/
def TwoQ (w u : World) (g g2 : Nat) (S0 : QS) (n : Int) (N : Nat) : Prop := ∃ S, BR S0 S n ∧ (∃ cs, QAt u g 0 54 cs S N) ∧ (∃ cs, QAt u g2 0 54 cs S0 201) ∧ Below w.heap.size w u
theorem TwoQ.below {w u u' : World} {g g2 : Nat} {S0 : QS} {n : Int} {N : Nat} (h : TwoQ w u g g2 S0 n N) (hb : Below u.heap.size u u') : TwoQ w u' g g2 S0 n N := by
  obtain ⟨S, h1, ⟨cs, h2⟩, ⟨cs2, h3⟩, h4⟩ := h
  exact ⟨S, h1, ⟨cs, h2.below hb⟩, ⟨cs2, h3.below hb⟩, bt h4 hb⟩
set_option maxRecDepth 100000 in
set_option maxHeartbeats 1000000 in
theorem queueBack_walk (A : Option Addr) (ops : List OpV) (c : Nat) (A2 : Option Addr) (more : List OpV) (c2 : Nat) (work : Int) (w : World) (ho : OpsAt w A ops) (hm : OpsAt w A2 more) (hx1 : -9223372036854775808 ≤ work) (hx2 : work ≤ 9223372036854775807) :
    Calls Try.prog 5 #[.slice A ops.length c, .slice A2 more.length c2, .int .i64 work] w fun e w' => e = .returned (.bool true) ∧ Below w.heap.size w w' := by
  obtain ⟨n, hn⟩ : ∃ n, n = ops.length := ⟨_, rfl⟩
  obtain ⟨m, hmn⟩ : ∃ m, m = more.length := ⟨_, rfl⟩
  have HP := Lib.hid (fun u (hb : Below w.heap.size w u) => played_any A ops n c u (Lib.hid hn) (ho.below hb))
  have HM := Lib.hid hm
  have HMn := Lib.hid hmn
  have hml : m ≤ 9223372036854775807 := by have := hm.1; rw [hmn]; unfold maxLen at this; omega
  rw [← hn, ← hmn]
  have hwo : i64ok work := ⟨hx1, hx2⟩
  have HQ := Lib.hid (QR.play ops)
  generalize playQ ops = S at HP HQ
  have HP1 := Lib.hid (HP.out w (Below.refl _ _))
  clear hn ho hm hmn
  go_enter Try.func5, Try.ntmps5
  go_wp2_with fail
  refine HP1.out.mono ?_
  rintro e w1 ⟨⟨g, cs, rfl, hk, hok, hSB, hgl⟩, b1⟩
  have HP2 := Lib.hid (HP.out w1 b1)
  have H1 := Lib.hid (And.intro hk (And.intro hok (And.intro hSB (And.intro hgl b1))))
  clear HP HP1 hk hok hSB hgl b1
  go_wp2_with fail
  refine HP2.out.mono ?_
  rintro e w2 ⟨⟨g2, cs2, rfl, hk2, _, _, hgl2⟩, b2⟩
  clear HP2
  by_cases h1 : work < 1
  · have HB := Lib.hid (bt H1.out.2.2.2.2 b2)
    clear hk2 b2 hgl2
    go_wp2_with fail
    refine (alive_any w2).mono ?_
    rintro e w3 ⟨rfl, b3⟩
    have HB3 := Lib.hid (bt HB.out b3)
    clear b3
    go_wp2
    go_ret
    exact ⟨rfl, HB3.out⟩
  have hw1 : 1 ≤ work := by omega
  have hbu := busy_any g 0 _ cs S 200 work w2 (H1.out.1.below b2) hwo
  rcases hbz : (lookQ S.ws work).isSome with _ | _
  · rw [hbz] at hbu
    have HBu := Lib.hid hbu
    have hst : BR S S work := BR.start HQ.out hw1 H1.out.2.2.1 H1.out.2.1 hbz
    have H2 := Lib.hid (show TwoQ w w2 g g2 S work (200 + 0) ∧ (lookQ S.ws work).isSome = false ∧ S.B = anyB ∧ w.heap.size ≤ g ∧ w.heap.size ≤ g2 ∧ g ≠ g2 from ⟨⟨S, hst, ⟨cs, H1.out.1.below b2⟩, ⟨cs2, hk2.more (by omega)⟩, bt H1.out.2.2.2.2 b2⟩, hbz, H1.out.2.2.1, H1.out.2.2.2.1, by have := H1.out.2.2.2.2.size; omega, by have := H1.out.1.lt; omega⟩)
    clear hk2 b2 hgl2 hbu hst hbz H1
    go_wp2_with fail
    refine HBu.out.mono ?_
    rintro e w3 ⟨rfl, b3⟩
    have HI : Hid (TwoQ w w3 g g2 S work (200 + 0)) := Lib.hid (H2.out.1.below b3)
    clear b3 HBu
    go_wp2_with fail
    go_loopw [9] (fun iv wr => ∃ (i : Nat), i ≤ m ∧ i ≤ 30 ∧ iv = .int .i64 i ∧ Hid (TwoQ w wr g g2 S work (200 + i))) (fun iv _ => m - (intOf iv).toNat)
    case atStart => exact ⟨0, Nat.zero_le _, by omega, rfl, HI⟩
    case round =>
      clear HI
      obtain ⟨i, hi, hi30, rfl, HR⟩ := hrel
      have HEnd : Hid (TwoQ w wr g g2 S work 300) := Lib.hid (by
        obtain ⟨Sx, h1, ⟨csx, h2⟩, h3, h4⟩ := HR.out
        exact ⟨Sx, h1, ⟨csx, h2.more (by omega)⟩, h3, h4⟩)
      by_cases hgo : i < m ∧ i < 30
      · obtain ⟨him, hi3⟩ := hgo
        have himI : (i : Int) < (m : Int) := by omega
        have hi3I : (i : Int) < 30 := by omega
        have hio : i < more.length := by rw [← HMn.out]; exact him
        obtain ⟨Sx, hbr, ⟨csx, hqx⟩, ⟨csy, hqy⟩, hb⟩ := HR.out
        obtain ⟨b, o, rfl, hlt, hcs⟩ := HM.out.2.2 (by omega)
        obtain ⟨q0, q1, q2, q3, q4, q5⟩ := hcs i hio
        generalize more[i]'hio = op at q0 q1 q2 q3 q4 q5
        obtain ⟨ok, on, ox, ov, oA, ol, oc, oVA, ovs, ovc⟩ := op
        dsimp only at q0 q1 q2 q3 q4 q5
        have p0 := (hb.cell (p := ⟨b, o + i * 6, none⟩) hlt).trans q0
        have p1 := (hb.cell (p := ⟨b, o + i * 6 + 1, none⟩) hlt).trans q1
        have p2 := (hb.cell (p := ⟨b, o + i * 6 + 2, none⟩) hlt).trans q2
        have p3 := (hb.cell (p := ⟨b, o + i * 6 + 3, none⟩) hlt).trans q3
        have p4 := (hb.cell (p := ⟨b, o + i * 6 + 4, none⟩) hlt).trans q4
        have p5 := (hb.cell (p := ⟨b, o + i * 6 + 5, none⟩) hlt).trans q5
        by_cases hk02 : 0 ≤ ok ∧ ok ≤ 2
        · obtain ⟨hk0, hk2⟩ := hk02
          have hb3 := ba wr (.cells #[.int .i64 ok, .int .i64 work, .int .i64 ox, .int .u64 (ov : Nat), .slice oA ol.length oc, .slice oVA ovs.length ovc] 35)
          have hcall := call_any g _ csx Sx (200 + i) ⟨ok, work, ox, ov, oA, ol, oc, oVA, ovs, ovc⟩ _ (hqx.below hb3) hbr.ok (by omega) hwo (fun e => by dsimp only at e; omega) (fun e => by dsimp only at e; omega) (fun e => by dsimp only at e; omega) (fun b _ => by rw [hbr.B]; trivial)
          unfold OpV.val at hcall
          dsimp only at hcall
          have hstep := hbr.step (o := ⟨ok, work, ox, ov, oA, ol, oc, oVA, ovs, ovc⟩) hqx.nd hk0 hk2
          obtain ⟨lq, hlq⟩ : ∃ lq, lq = ol.length := ⟨_, rfl⟩
          obtain ⟨vq, hvq⟩ : ∃ vq, vq = ovs.length := ⟨_, rfl⟩
          rw [← hlq, ← hvq] at hcall
          rw [← hlq] at p4 hb3
          rw [← hvq] at p5 hb3
          have HC := Lib.hid hcall
          have HX := Lib.hid (And.intro hstep (And.intro (hqx.below hb3) (And.intro (hqy.below hb3) (bt hb hb3))))
          clear hcall hstep hb3 hbr hqx hqy hb q0 q1 q2 q3 q4 q5 hcs hio hlq hvq HEnd HR
          go_wp2_with fail
          refine HC.out.mono ?_
          rintro e w5 ⟨A5, q5, c5, rfl, _, _, ⟨⟨cs5, hq5, _⟩, hg5⟩⟩
          have HN : Hid (TwoQ w w5 g g2 S work (200 + (i + 1))) := Lib.hid ⟨_, HX.out.1, ⟨cs5, hq5.rebase fun _ _ _ => trivial⟩, ⟨csy, HX.out.2.2.1.far hg5 (fun e => H2.out.2.2.2.2.2 e.symm) HX.out.2.1.bk (by decide) (by decide)⟩, HX.out.2.2.2.grown hg5 HX.out.2.2.2.size (fun r e => by cases e; exact H2.out.2.2.2.1)⟩
          clear hq5 hg5 HC HX
          go_wp2
          go_roundw
          case rel => exact ⟨i + 1, by omega, by omega, by go_num, HN⟩
          case measure => simp [intOf]; omega
        · obtain ⟨lq, hlq⟩ : ∃ lq, lq = ol.length := ⟨_, rfl⟩
          obtain ⟨vq, hvq⟩ : ∃ vq, vq = ovs.length := ⟨_, rfl⟩
          rw [← hlq] at p4
          rw [← hvq] at p5
          have hb3 := ba wr (.cells #[.int .i64 ok, .int .i64 on, .int .i64 ox, .int .u64 (ov : Nat), .slice oA lq oc, .slice oVA vq ovc] 35)
          have HN : Hid (TwoQ w (wr.alloc (.cells #[.int .i64 ok, .int .i64 on, .int .i64 ox, .int .u64 (ov : Nat), .slice oA lq oc, .slice oVA vq ovc] 35)) g g2 S work (200 + (i + 1))) := Lib.hid (by
            obtain ⟨Sx, h1, ⟨csx, h2⟩, h3, h4⟩ := HR.out.below hb3
            exact ⟨Sx, h1, ⟨csx, h2.more (by omega)⟩, h3, h4⟩)
          clear hb3 hbr hqx hqy hb q0 q1 q2 q3 q4 q5 hcs hio hlq hvq HEnd HR
          by_cases hk0 : 0 ≤ ok
          · have hk2 : ¬ ok ≤ 2 := fun e => hk02 ⟨hk0, e⟩
            clear hk02
            go_wp2
            go_roundw
            case rel => exact ⟨i + 1, by omega, by omega, by go_num, HN⟩
            case measure => simp [intOf]; omega
          · clear hk02
            go_wp2
            go_roundw
            case rel => exact ⟨i + 1, by omega, by omega, by go_num, HN⟩
            case measure => simp [intOf]; omega
      · have hcond : (¬ (i : Int) < (m : Int)) ∨ ((i : Int) < (m : Int) ∧ ¬ (i : Int) < 30) := by omega
        obtain ⟨Sx, hbr, ⟨csx, hqx⟩, ⟨csy, hqy⟩, hb⟩ := HEnd.out
        have hvq := values_any g 0 _ csx Sx _ wr hqx
        rw [hbr.vals, hbr.len] at hvq
        have HV1 := Lib.hid hvq
        have HV2 := Lib.hid (fun u (hu : Below wr.heap.size wr u) => values_any g2 0 _ csy S _ u (hqy.below hu))
        have HBk := Lib.hid (fun u (hu : Below wr.heap.size wr u) => backout_any g 0 _ csx Sx _ work u (hqx.below hu) hwo)
        rw [hbr.back hw1 H2.out.2.2.1] at HBk
        have HX := Lib.hid (And.intro hqx (And.intro hqy hb))
        obtain ⟨il, hil⟩ : ∃ il, il = S.I.length := ⟨_, rfl⟩
        have hil16 : il ≤ 16 := by have := hbr.ok.room; have := hbr.len; omega
        obtain ⟨V, hV⟩ : ∃ V, V = S.I.map IT.v := ⟨_, rfl⟩
        have hVl : Hid (il = V.length) := Lib.hid (by rw [hV, List.length_map, hil])
        rw [← hil, ← hV] at HV1 HV2
        have HilV := Lib.hid (And.intro hil hV)
        clear hvq hbr hqx hqy hb HEnd HR hgo hil hV hi hi30
        suffices hs : ∀ (P : Prop), P → P by
          rcases hcond with hc1 | ⟨hc1, hc2⟩
          all_goals
            go_wp2_with fail
            refine HV1.out.mono ?_
            rintro e w4 ⟨A4, c4, rfl, own4, b4⟩
            have HV2b := Lib.hid (HV2.out w4 b4)
            have H4 := Lib.hid (And.intro own4.at_ b4)
            clear own4 b4
            go_wp2_with fail
            refine HV2b.out.mono ?_
            rintro e w5 ⟨A5, c5, rfl, own5, b5⟩
            have hsm := same_any A4 A5 V V il il c4 c5 w5 hVl hVl (by omega) (H4.out.1.below b5) own5.at_
            rw [decide_eq_true rfl] at hsm
            have HS := Lib.hid hsm
            have H5 := Lib.hid (bt H4.out.2 b5)
            clear own5 b5 hsm
            go_wp2_with fail
            refine HS.out.mono ?_
            rintro e w6 ⟨rfl, b6⟩
            have HB6 := Lib.hid (HBk.out w6 (bt H5.out b6))
            have H6 := Lib.hid (bt H5.out b6)
            clear b6
            go_wp2_with fail
            refine HB6.out.mono ?_
            rintro e w7 ⟨rfl, ⟨⟨cs7, hq7, _⟩, hg7⟩⟩
            have hqy7 := (HX.out.2.1.below H6.out).far hg7 (fun e => H2.out.2.2.2.2.2 e.symm) (HX.out.1.below H6.out).bk (by decide) (by decide)
            have hb7 := (bt HX.out.2.2 H6.out).grown hg7 (bt HX.out.2.2 H6.out).size (fun r e => by cases e; exact H2.out.2.2.2.1)
            have hbu := busy_any g 0 _ cs7 S _ work w7 hq7 hwo
            rw [H2.out.2.1] at hbu
            have HBu := Lib.hid hbu
            have H7 := Lib.hid (And.intro hq7 (And.intro hqy7 hb7))
            clear hq7 hqy7 hb7 hg7 hbu
            go_wp2_with fail
            refine HBu.out.mono ?_
            rintro e w8 ⟨rfl, b8⟩
            have htk := take_any g 0 _ cs7 S _ work w8 (H7.out.1.below b8) (by omega) hwo (fun b _ => by rw [H2.out.2.2.1]; trivial)
            have htk2 := fun cs5 N u (h : QAt u g2 0 54 cs5 S N) (hN : N < 300000) => take_any g2 0 _ cs5 S N work u h hN hwo (fun b _ => by rw [H2.out.2.2.1]; trivial)
            generalize takeM S work = R at htk htk2
            obtain ⟨⟨rv, re⟩, rS⟩ := R
            dsimp only at htk htk2
            have HT := Lib.hid htk
            have HT2 := Lib.hid htk2
            have H8 := Lib.hid (And.intro (H7.out.1.below b8) (And.intro (H7.out.2.1.below b8) (bt H7.out.2.2 b8)))
            clear htk htk2 b8
            go_wp2_with fail
            refine HT.out.mono ?_
            rintro e w9 ⟨rfl, ⟨⟨cs9, hq9, _⟩, hg9⟩⟩
            have hqy9 := H8.out.2.1.far hg9 (fun e => H2.out.2.2.2.2.2 e.symm) H8.out.1.bk (by decide) (by decide)
            have hb9 := H8.out.2.2.grown hg9 H8.out.2.2.size (fun r e => by cases e; exact H2.out.2.2.2.1)
            have HT9 := Lib.hid (HT2.out _ _ w9 hqy9 (by omega))
            have H9 := Lib.hid (And.intro hq9 (And.intro hqy9 hb9))
            clear hq9 hqy9 hb9 hg9
            go_wp2_with fail
            refine HT9.out.mono ?_
            rintro e wa ⟨rfl, ⟨⟨csa, hqa, _⟩, hga⟩⟩
            have hq10 := H9.out.1.far hga H2.out.2.2.2.2.2 H9.out.2.1.bk (by decide) (by decide)
            have hb10 := H9.out.2.2.grown hga H9.out.2.2.size (fun r e => by cases e; exact H2.out.2.2.2.2.1)
            have H10 := Lib.hid (And.intro hq10 (And.intro hqa hb10))
            clear hq10 hqa hb10 hga
            have hrv : ((rv : Int) == (rv : Int)) = true := by simp
            go_wp2_with fail
            refine (alive_any wa).mono ?_
            rintro e wb ⟨rfl, bb⟩
            have hv11 := values_any g 0 _ cs9 rS _ wb (H10.out.1.below bb)
            obtain ⟨jl, hjl⟩ : ∃ jl, jl = rS.I.length := ⟨_, rfl⟩
            have hjl48 : jl ≤ 48 := by have := H10.out.1.iv.room; omega
            have HW2 := Lib.hid (fun u (hu : Below wb.heap.size wb u) => values_any g2 0 _ csa rS _ u ((H10.out.2.1.below bb).below hu))
            rw [← hjl] at hv11 HW2
            have HV11 := Lib.hid hv11
            have H11 := Lib.hid (And.intro (H10.out.1.below bb) (And.intro (H10.out.2.1.below bb) (bt H10.out.2.2 bb)))
            have Hjl := Lib.hid hjl
            clear hv11 bb hjl
            go_wp2_with fail
            refine HV11.out.mono ?_
            rintro e wc ⟨Ac, cc, rfl, ownc, bc⟩
            have HW2b := Lib.hid (HW2.out wc bc)
            have H12 := Lib.hid (And.intro ownc.at_ bc)
            clear ownc bc
            go_wp2_with fail
            refine HW2b.out.mono ?_
            rintro e wd ⟨Ad, cd, rfl, ownd, bd⟩
            have hsm := same_any Ac Ad (rS.I.map IT.v) (rS.I.map IT.v) jl jl cc cd wd (Lib.hid (by rw [List.length_map]; exact Hjl.out)) (Lib.hid (by rw [List.length_map]; exact Hjl.out)) (by omega) (H12.out.1.below bd) ownd.at_
            rw [decide_eq_true rfl] at hsm
            have HSm := Lib.hid hsm
            have H13 := Lib.hid (bt H12.out.2 bd)
            clear ownd bd hsm
            go_wp2_with fail
            refine HSm.out.mono ?_
            rintro e we ⟨rfl, be⟩
            have H14 := Lib.hid (bt H13.out be)
            have HN1 := Lib.hid (next_any g 0 _ cs9 rS _ we (H11.out.1.below H14.out))
            clear be
            go_wp2_with fail
            refine HN1.out.mono ?_
            rintro e wf ⟨rfl, rfl⟩
            have HN2 := Lib.hid (next_any g2 0 _ csa rS _ we (H11.out.2.1.below H14.out))
            go_wp2_with fail
            refine HN2.out.mono ?_
            rintro e wg ⟨rfl, rfl⟩
            have HF := Lib.hid (bt H11.out.2.2 H14.out)
            go_wp2
            go_ret
            exact ⟨by simp, HF.out⟩
        exact fun P h => h
  · rw [hbz] at hbu
    have HBu := Lib.hid hbu
    have HB := Lib.hid (bt H1.out.2.2.2.2 b2)
    clear hk2 b2 hgl2 hbu
    go_wp2_with fail
    refine HBu.out.mono ?_
    rintro e w3 ⟨rfl, b3⟩
    have HB3 := Lib.hid (bt HB.out b3)
    clear b3
    go_wp2_with fail
    refine (alive_any w3).mono ?_
    rintro e w4 ⟨rfl, b4⟩
    have HB4 := Lib.hid (bt HB3.out b4)
    clear b4
    go_wp2
    go_ret
    exact ⟨rfl, HB4.out⟩
end Go.Proofs.Ytfcafahgmnnlnaa.Qu
