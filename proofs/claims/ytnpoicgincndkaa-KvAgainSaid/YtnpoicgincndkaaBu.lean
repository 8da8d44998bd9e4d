/- Layer 13: KvAgain. -/
import Derived.Test.YtnpoicgincndkaaBt
namespace Go.Proofs.Ytnpoicgincndkaa
open Go.RowKit Go.Maps
set_option linter.unusedVariables false
set_option linter.unusedSimpArgs false

theorem zero_Tl : KS.zero anyB = Tl [] := by
  unfold KS.zero Tl
  have : (fun j : Int => if j = 1 then (if ([] : List Ch).isEmpty then none else some (([] : List Ch), false)) else none) = fun _ => none := by
    funext j; split <;> rfl
  rw [this]
  rfl
/-- Two stores. -/
def P2 (a : World) (g g' : Nat) (S T : KS) (N : Nat) (w : World) : Prop :=
  ∃ cs cs', KvAt w g 59 cs S N ∧ KvAt w g' 59 cs' T N ∧ Below a.heap.size a w ∧ a.heap.size ≤ g ∧ a.heap.size ≤ g' ∧ g ≠ g'
theorem P2.one {a w w' : World} {g g' N N' : Nat} {S S' T : KS} (h : P2 a g g' S T N w) {cs1 : Array Value} (hk : KvAt w' g 59 cs1 S' N') (hg : w.grownBy w' (some g)) (hN : N ≤ N') : P2 a g g' S' T N' w' := by
  obtain ⟨cs, cs', h1, h2, h3, h4, h5, h6⟩ := h
  exact ⟨_, _, hk, (h2.far hg (fun e => h6 e.symm) h1.bk (by decide)).more hN, h3.grown hg h3.size (fun r e => by cases e; exact h4), h4, h5, h6⟩
theorem P2.two {a w w' : World} {g g' N N' : Nat} {S T T' : KS} (h : P2 a g g' S T N w) {cs1 : Array Value} (hk : KvAt w' g' 59 cs1 T' N') (hg : w.grownBy w' (some g')) (hN : N ≤ N') : P2 a g g' S T' N' w' := by
  obtain ⟨cs, cs', h1, h2, h3, h4, h5, h6⟩ := h
  exact ⟨_, _, (h1.far hg h6 h2.bk (by decide)).more hN, hk, h3.grown hg h3.size (fun r e => by cases e; exact h5), h4, h5, h6⟩
theorem P2.below {a w w' : World} {g g' N : Nat} {S T : KS} (h : P2 a g g' S T N w) (hb : Below w.heap.size w w') : P2 a g g' S T N w' := by
  obtain ⟨cs, cs', h1, h2, h3, h4, h5, h6⟩ := h
  exact ⟨_, _, h1.below hb, h2.below hb, bt h3 hb, h4, h5, h6⟩
theorem P2.more {a w : World} {g g' N N' : Nat} {S T : KS} (h : P2 a g g' S T N w) (hN : N ≤ N') : P2 a g g' S T N' w := by
  obtain ⟨cs, cs', h1, h2, h3⟩ := h
  exact ⟨_, _, h1.more hN, h2.more hN, h3⟩
theorem P2.bel {a w : World} {g g' N : Nat} {S T : KS} (h : P2 a g g' S T N w) : Below a.heap.size a w := by
  obtain ⟨cs, cs', h1, h2, h3, _⟩ := h
  exact h3
theorem same_true {V V' : Nat → Nat × Bool} (h : ∀ k, k < 16 → V k = V' k) : sameB V V' = true := sameB_iff.2 h
set_option maxRecDepth 100000 in
set_option maxHeartbeats 8000000 in
theorem kvAgain_walk (A : Option Addr) (ops : List OpV) (c : Nat) (A2 : Option Addr) (more : List OpV) (c2 : Nat) (n : Int) (w : World) (h : OpsAt w A ops) (h2 : OpsAt w A2 more) (n1 : -9223372036854775808 ≤ n) (n2 : n ≤ 9223372036854775807) :
    Calls Try.prog 6 #[.slice A ops.length c, .slice A2 more.length c2, .int .i64 n] w fun e w' => e = .returned (.bool true) ∧ Below w.heap.size w w' := by
  obtain ⟨m, hm⟩ : ∃ m, m = ops.length := ⟨_, rfl⟩
  obtain ⟨m2, hm2⟩ : ∃ m2, m2 = more.length := ⟨_, rfl⟩
  rw [← hm, ← hm2]
  have Hn : Hid (i64ok n) := Lib.hid ⟨n1, n2⟩
  have Hm2 := Lib.hid hm2
  have H2 := Lib.hid h2
  have hmx : (m2 : Int) ≤ 9223372036854775807 := by have := h2.1; rw [← hm2] at this; unfold maxLen at this; omega
  have HP := Lib.hid (played_any A ops m c w (Lib.hid hm) h)
  obtain ⟨S, hS⟩ : ∃ S, S = playK ops := ⟨_, rfl⟩
  have hSB := playK_B ops
  have hIR := InvR.play ops
  have hIZ := InvZ.play ops
  rw [← hS] at HP hSB hIR hIZ
  obtain ⟨V2, hV2⟩ : ∃ V2, V2 = (listV S.V 16).foldl setV zeroV := ⟨_, rfl⟩
  have hsm := same_listV hIZ
  have hcm := commit_Tl (listV S.V 16)
  rw [← hV2] at hsm hcm
  have HS := Lib.hid (And.intro hSB (And.intro hIR (And.intro hsm hcm)))
  clear h h2 n1 n2 hS hSB hm hm2 hIR hIZ hsm hcm hV2
  go_enter Try.func6, Try.ntmps6
  go_wp2_with fail
  refine HP.out.mono ?_
  rintro e w1 ⟨⟨g, cs, rfl, hk, hg0⟩, b1⟩
  have H1 := Lib.hid (And.intro hk (And.intro b1 hg0))
  clear hk b1 hg0 HP
  go_wp2_with fail
  refine (knew_any anyB w1).mono ?_
  rintro e w2 ⟨rfl, ⟨cs2, hk2⟩, b2⟩
  obtain ⟨g', hg'⟩ : ∃ g', g' = w1.heap.size := ⟨_, rfl⟩
  rw [← hg'] at hk2 ⊢
  have HI : Hid (P2 w g g' S (Tl (listV S.V 0)) (2000 + 0) w2) := Lib.hid ⟨cs, cs2, H1.out.1.below b2, by rw [zero_Tl] at hk2; exact hk2.more (by omega), bt H1.out.2.1 b2, H1.out.2.2, by rw [hg']; exact H1.out.2.1.size, by rw [hg']; have := H1.out.1.lt; omega⟩
  clear hk2 b2 H1 hg'
  go_wp2_with fail
  go_loopw [9] (fun i wr => ∃ (j : Nat), j ≤ 16 ∧ i = .int .i64 j ∧ Hid (P2 w g g' S (Tl (listV S.V j)) (2000 + j) wr)) (fun i _ => 16 - (intOf i).toNat)
  case atStart => exact ⟨0, by omega, rfl, HI⟩
  case round =>
    clear HI
    obtain ⟨j, hj, rfl, HR⟩ := hrel
    by_cases hjn : j < 16
    · have hjI : (j : Int) < 16 := by omega
      have hkj : keyB (j : Int) = true := by unfold keyB; simp; omega
      obtain ⟨csa, csb, hka, hkb, _⟩ := HR.out
      have hr := value_any g _ csa S (2000 + j) (j : Int) wr hka
      rw [show valM S (j : Int) = S.V j by unfold valM; rw [if_pos hkj, Int.toNat_natCast]] at hr
      rcases hv : (S.V j).2 with _ | _
      · rw [hv] at hr
        have hno := listV_no hv
        have HC := Lib.hid hr
        have HN0 := Lib.hid hno
        obtain ⟨vj, hvj⟩ : ∃ vj, vj = (S.V j).1 := ⟨_, rfl⟩
        rw [← hvj] at HC
        clear hr hka hkb hv hkj hno hvj
        go_wp2_with fail
        refine HC.out.mono ?_
        rintro e w3 ⟨rfl, b3⟩
        have HX : Hid (P2 w g g' S (Tl (listV S.V (j + 1))) (2000 + (j + 1)) w3) := Lib.hid (by rw [HN0.out]; exact (HR.out.below b3).more (by omega))
        clear b3 HC HR
        go_wp2
        go_roundw
        case rel => exact ⟨j + 1, by omega, by go_num, HX⟩
        case measure => simp [intOf]; omega
      · rw [hv] at hr
        have hch := change_listV hjn hv
        have HC := Lib.hid hr
        obtain ⟨vj, hvj⟩ : ∃ vj, vj = (S.V j).1 := ⟨_, rfl⟩
        rw [← hvj] at HC hch
        have HCH := Lib.hid hch
        clear hr hka hkb hv hkj hch hvj
        go_wp2_with fail
        refine HC.out.mono ?_
        rintro e w3 ⟨rfl, b3⟩
        have HX := Lib.hid (HR.out.below b3)
        clear b3 HC HR
        obtain ⟨csa, csb, _, hkb, _⟩ := HX.out
        have hr := kput_any g' _ csb (Tl (listV S.V j)) (2000 + j) 1 (j : Int) vj w3 hkb (by omega) ⟨by omega, by omega⟩ ⟨by omega, by omega⟩ (fun _ _ => trivial)
        rw [HCH.out] at hr
        have HC2 := Lib.hid hr
        clear hr hkb
        go_wp2_with fail
        refine HC2.out.mono ?_
        rintro e w4 ⟨rfl, ⟨⟨cs4, hk4, _⟩, hg4⟩⟩
        have HY : Hid (P2 w g g' S (Tl (listV S.V (j + 1))) (2000 + (j + 1)) w4) := Lib.hid (HX.out.two hk4 hg4 (by omega))
        clear hk4 hg4 HC2 HX
        go_wp2
        go_roundw
        case rel => exact ⟨j + 1, by omega, by go_num, HY⟩
        case measure => simp [intOf]; omega
    · obtain rfl : j = 16 := by omega
      have hjI : ¬ ((16 : Nat) : Int) < 16 := by omega
      obtain ⟨csa, csb, _, hkb, _⟩ := HR.out
      have hr := commit_any g' _ csb (Tl (listV S.V 16)) (2000 + 16) 1 wr hkb (by omega) ⟨by omega, by omega⟩
      rw [HS.out.2.2.2] at hr
      have HC := Lib.hid hr
      clear hr hkb
      go_wp2_with fail
      refine HC.out.mono ?_
      rintro e w3 ⟨rfl, ⟨⟨cs3, hk3, _⟩, hg3⟩⟩
      have HQ : Hid (P2 w g g' S (T0 V2) 3000 w3) := Lib.hid ((HR.out.two hk3 hg3 (Nat.le_refl _)).more (by omega))
      clear hk3 hg3 HC HR
      obtain ⟨csa, csb, hka, hkb, _⟩ := HQ.out
      have hrb := busy_any g _ csa S 3000 n w3 hka Hn.out
      have HBs := Lib.hid hrb
      clear hrb hka hkb
      rcases hn1 : decide (n < 1) with _ | _
      · have hnP : ¬ n < 1 := of_decide_eq_false hn1
        rcases hbs : busyB S n with _ | _
        · rw [hbs] at HBs
          have HM := Lib.hid (MoreI.start HS.out.1 HS.out.2.1 hbs)
          go_wp2_with fail
          refine HBs.out.mono ?_
          rintro e w4 ⟨rfl, b4⟩
          have HQ4 := Lib.hid (HQ.out.below b4)
          clear b4 HBs hbs
          obtain ⟨csa, csb, hka, hkb, _⟩ := HQ4.out
          have hr := sameValues_any g g' csa csb S (T0 V2) _ _ w4 hka hkb
          rw [show sameB S.V (T0 V2).V = true from same_true HS.out.2.2.1] at hr
          have HC4 := Lib.hid hr
          clear hr hka hkb
          go_wp2_with fail
          refine HC4.out.mono ?_
          rintro e w5 ⟨rfl, b5⟩
          have HI5 : Hid (∃ St : KS, MoreI S.V n St ∧ P2 w g g' St (T0 V2) (3000 + 31 * 0) w5) := Lib.hid ⟨S, HM.out, HQ4.out.below b5⟩
          clear b5 HC4 HQ4 HQ HM
          go_wp2_with fail
          go_loopw [12] (fun i wr => ∃ (j : Nat), j ≤ m2 ∧ j ≤ 30 ∧ i = .int .i64 j ∧ Hid (∃ St : KS, MoreI S.V n St ∧ P2 w g g' St (T0 V2) (3000 + 31 * j) wr)) (fun i _ => m2 - (intOf i).toNat)
          case atStart => exact ⟨0, Nat.zero_le _, by omega, rfl, HI5⟩
          case round =>
            clear HI5
            obtain ⟨j, hj, hj30, rfl, HR⟩ := hrel
            by_cases hjn : j < m2 ∧ j < 30
            · have hjI : (j : Int) < (m2 : Int) := by omega
              have hj3I : (j : Int) < 30 := by omega
              obtain ⟨St, hM, hQ⟩ := HR.out
              have hjo : j < more.length := by rw [← Hm2.out]; exact hjn.1
              obtain ⟨b, o, rfl, hlt, hcs⟩ := H2.out.2.2 (by omega)
              obtain ⟨q0, q1, q2, q3, q4⟩ := hcs j hjo
              obtain ⟨hok, hml, hin⟩ := H2.out.2.1 _ (List.getElem_mem hjo)
              obtain ⟨op, hop⟩ : ∃ op, op = more[j] := ⟨_, rfl⟩
              rw [← hop] at q0 q1 q2 q3 q4 hok hml hin
              have hb := hQ.bel
              have p0 := (hb.cell (p := ⟨b, o + j * 5, none⟩) hlt).trans q0
              have p1 := (hb.cell (p := ⟨b, o + j * 5 + 1, none⟩) hlt).trans q1
              have p2 := (hb.cell (p := ⟨b, o + j * 5 + 2, none⟩) hlt).trans q2
              have p3 := (hb.cell (p := ⟨b, o + j * 5 + 3, none⟩) hlt).trans q3
              have p4 := (hb.cell (p := ⟨b, o + j * 5 + 4, none⟩) hlt).trans q4
              obtain ⟨ok, on, oy, ov, oA, ol, oc⟩ := op
              obtain ⟨ml, hmq⟩ : ∃ ml, ml = ol.length := ⟨_, rfl⟩
              dsimp only at p0 p1 p2 p3 p4 hml hin
              rw [← hmq] at p4 hml
              obtain ⟨wA, hwA⟩ : ∃ wA, wA = wr.alloc (.cells #[.int .i64 ok, .int .i64 on, .int .i64 oy, .int .u64 (ov : Nat), .slice oA ml oc] 36) := ⟨_, rfl⟩
              have kA : Blk wA wr.heap.size 36 #[.int .i64 ok, .int .i64 on, .int .i64 oy, .int .u64 (ov : Nat), .slice oA ml oc] := by rw [hwA]; exact Blk.new _ _ _
              have d0 := kA.cell 0
              simp only [List.getElem?_toArray, List.getElem?_cons_zero, List.getElem?_cons_succ] at d0
              have HWA := Lib.hid hwA
              rw [hwA] at d0
              have HB := Lib.hid (And.intro hM (And.intro hQ (And.intro hok (And.intro hmq (hin.below hb)))))
              clear q0 q1 q2 q3 q4 hcs hop hb hwA kA hok hmq hin HR hjo hlt hM hQ
              by_cases k02 : 0 ≤ ok ∧ ok ≤ 2
              · have k0I : decide (0 ≤ ok) = true := decide_eq_true (by omega)
                have k2I : decide (ok ≤ 2) = true := decide_eq_true (by omega)
                have k0P : 0 ≤ ok := by omega
                have k2P : ok ≤ 2 := by omega
                obtain ⟨wB, hwB⟩ : ∃ wB, wB = wr.alloc (.cells #[.int .i64 ok, .int .i64 n, .int .i64 oy, .int .u64 (ov : Nat), .slice oA ml oc] 36) := ⟨_, rfl⟩
                have bB : Below wr.heap.size wr wB := by rw [hwB]; exact ba _ _
                obtain ⟨hM, hQ, hok, hmq, hin⟩ := HB.out
                have hQB := hQ.below bB
                obtain ⟨csa, csb, hkaB, _, _, _⟩ := hQB
                have hcall := call_any g _ csa St (3000 + 31 * j) ⟨ok, n, oy, ov, oA, ol, oc⟩ wB hkaB (by omega) ⟨Hn.out, hok.y, hok.v⟩ (fun e => absurd e (by dsimp only; omega)) (hin.below bB) (fun b _ => by rw [hM.2.1]; trivial)
                unfold OpV.val at hcall
                dsimp only at hcall
                rw [← hmq] at hcall
                have HC := Lib.hid hcall
                have H5 := Lib.hid (And.intro (hM.step ⟨ok, n, oy, ov, oA, ol, oc⟩ rfl k02.1 k02.2) (hQ.below bB))
                have HWB := Lib.hid hwB
                clear hwB bB hM hQ hok hmq hin hkaB hcall HB
                go_wp2_with fail
                rw [← HWB.out]
                refine HC.out.mono ?_
                rintro e w6 ⟨A6, q6, c6, rfl, _, _, ⟨⟨cs6, hk6, _⟩, hg6⟩⟩
                have HN : Hid (∃ St : KS, MoreI S.V n St ∧ P2 w g g' St (T0 V2) (3000 + 31 * (j + 1)) w6) := Lib.hid ⟨_, H5.out.1, H5.out.2.one ((hk6.more (by omega)).rebase fun _ _ _ => trivial) hg6 (by omega)⟩
                clear hk6 hg6 p0 p1 p2 p3 p4 d0
                go_wp2
                go_roundw
                case rel => exact ⟨j + 1, by omega, by omega, by go_num, HN⟩
                case measure => simp [intOf]; omega
              · have HN : Hid (∃ St : KS, MoreI S.V n St ∧ P2 w g g' St (T0 V2) (3000 + 31 * (j + 1)) wA) := Lib.hid ⟨St, HB.out.1, (HB.out.2.1.below (by rw [HWA.out]; exact ba _ _)).more (by omega)⟩
                clear HB
                rcases k0 : decide (0 ≤ ok) with _ | _
                · have k0P : ¬ 0 ≤ ok := of_decide_eq_false k0
                  go_wp2
                  rw [← HWA.out]
                  go_roundw
                  case rel => exact ⟨j + 1, by omega, by omega, by go_num, HN⟩
                  case measure => simp [intOf]; omega
                · have k0P : 0 ≤ ok := of_decide_eq_true k0
                  have k2P : ¬ ok ≤ 2 := by omega
                  have k2 : decide (ok ≤ 2) = false := decide_eq_false k2P
                  go_wp2
                  rw [← HWA.out]
                  go_roundw
                  case rel => exact ⟨j + 1, by omega, by omega, by go_num, HN⟩
                  case measure => simp [intOf]; omega
            · have hf : Hid (∃ St : KS, MoreI S.V n St ∧ P2 w g g' St (T0 V2) 200000 wr) := Lib.hid (by
                obtain ⟨St, a, b⟩ := HR.out
                exact ⟨St, a, b.more (by omega)⟩)
              obtain ⟨St, hM, hQ⟩ := hf.out
              obtain ⟨l, S2, hpr, hRl, hcv, hSB2⟩ := hM.prep (show 1 ≤ n by omega)
              obtain ⟨T1, hrs, htb, htv, hTB, htn⟩ := rest_T (V := V2) (show 1 ≤ n by omega) hRl
              have HQQ := Lib.hid hQ
              obtain ⟨csa, csb, hka, _, _, hgw, hgw', _⟩ := hQ
              have hr := prep_any g _ csa St 200000 n wr hka (by omega) Hn.out
              rw [hpr] at hr
              have HC := Lib.hid hr
              have HQr := Lib.hid hf.out
              have HT := Lib.hid (And.intro hRl (And.intro hcv (And.intro hrs (And.intro htb (And.intro htv (And.intro htn hTB))))))
              clear hr hka hM hpr hRl hcv hSB2 hrs htb htv hTB htn hf HR hgw hgw'
              by_cases hjm : j < m2
              · have hjI : (j : Int) < (m2 : Int) := by omega
                have hj3I : ¬ (j : Int) < 30 := by omega
                go_wp2_with fail
                refine HC.out.mono ?_
                rintro e w6 ⟨⟨A6, q6, c6, rfl, hq6, hown⟩, ⟨⟨cs6, hk6, _⟩, hg6⟩⟩
                have HQ6 := Lib.hid (HQQ.out.one hk6 hg6 (by omega))
                obtain ⟨csx, csy, _, hky, _⟩ := HQ6.out
                have hr := restore_any g' _ csy (T0 V2) _ n A6 l q6 c6 w6 hky (by omega) Hn.out (Lib.hid hq6) (by have := HT.out.1.len; omega) hown.at_ (fun _ _ => trivial)
                rw [HT.out.2.2.1] at hr
                have HC6 := Lib.hid hr
                have Hq := Lib.hid hq6
                clear hr hky hk6 hg6 hq6 hown HC
                go_wp2_with fail
                refine HC6.out.mono ?_
                rintro e w7 ⟨rfl, ⟨⟨cs7, hk7, _⟩, hg7⟩⟩
                have HQ7 := Lib.hid (HQ6.out.two hk7 hg7 (by omega))
                clear hk7 hg7 HC6 HQ6
                obtain ⟨csx, csy, hkx, hky, _⟩ := HQ7.out
                have hr := busy_any g' _ csy T1 _ n w7 hky Hn.out
                rw [HT.out.2.2.2.1, ← Hq.out] at hr
                have HC7 := Lib.hid hr
                clear hr hkx hky
                rcases hq0 : decide (0 < q6) with _ | _
                · have hqP : ¬ 0 < q6 := of_decide_eq_false hq0
                  have hqI : ¬ (0 : Int) < (q6 : Int) := by omega
                  rw [hq0] at HC7
                  go_wp2_with fail
                  refine HC7.out.mono ?_
                  rintro e w8 ⟨rfl, b8⟩
                  have HQ8 := Lib.hid (HQ7.out.below b8)
                  clear b8 HC7 HQ7
                  obtain ⟨csx, csy, hkx, _, _⟩ := HQ8.out
                  have hr := commit_any g _ csx S2 _ n w8 hkx (by omega) Hn.out
                  have hcv := HT.out.2.1
                  obtain ⟨SC, hSC⟩ : ∃ SC, SC = commitM S2 n := ⟨_, rfl⟩
                  rw [← hSC] at hr hcv
                  have HCV := Lib.hid hcv
                  have HC8 := Lib.hid hr
                  clear hr hkx hSC hcv
                  go_wp2_with fail
                  refine HC8.out.mono ?_
                  rintro e w9 ⟨rfl, ⟨⟨cs9, hk9, _⟩, hg9⟩⟩
                  have HQ9 := Lib.hid (HQ8.out.one hk9 hg9 (by omega))
                  clear hk9 hg9 HC8 HQ8
                  obtain ⟨csx, csy, _, hky, _⟩ := HQ9.out
                  have hr := commit_any g' _ csy T1 _ n w9 hky (by omega) Hn.out
                  have hcv := HT.out.2.2.2.2
                  obtain ⟨TC, hTC⟩ : ∃ TC, TC = commitM T1 n := ⟨_, rfl⟩
                  rw [← hTC] at hr hcv
                  have HTV := Lib.hid (And.intro hcv.1 hcv.2.1)
                  have HC9 := Lib.hid hr
                  clear hr hky hTC hcv
                  go_wp2_with fail
                  refine HC9.out.mono ?_
                  rintro e w10 ⟨rfl, ⟨⟨cs10, hk10, _⟩, hg10⟩⟩
                  have HQ10 := Lib.hid (HQ9.out.two hk10 hg10 (by omega))
                  clear hk10 hg10 HC9 HQ9
                  go_wp2_with fail
                  refine (alive_any w10).mono ?_
                  rintro e w11 ⟨rfl, b11⟩
                  have HQ11 := Lib.hid (HQ10.out.below b11)
                  clear b11 HQ10
                  obtain ⟨csx, csy, hkx, hky, _⟩ := HQ11.out
                  have hr := sameValues_any g g' csx csy SC.2 TC.2 _ _ w11 hkx hky
                  rw [show sameB SC.2.V TC.2.V = true from same_true (by rw [HCV.out, HTV.out.1]; exact fold_same l _ _ HS.out.2.2.1)] at hr
                  have HC11 := Lib.hid hr
                  clear hr hkx hky
                  go_wp2_with fail
                  refine HC11.out.mono ?_
                  rintro e w12 ⟨rfl, b12⟩
                  have HQ12 := Lib.hid (HQ11.out.below b12)
                  clear b12 HC11 HQ11
                  obtain ⟨csx, csy, _, hky, _⟩ := HQ12.out
                  have hr := busy_any g' _ csy TC.2 _ n w12 hky Hn.out
                  rw [HTV.out.2] at hr
                  have HC12 := Lib.hid hr
                  clear hr hky
                  go_wp2_with fail
                  refine HC12.out.mono ?_
                  rintro e w13 ⟨rfl, b13⟩
                  have hF := Lib.hid (HQ12.out.below b13).bel
                  clear b13 HC12
                  go_wp2
                  go_ret
                  exact ⟨rfl, hF.out⟩
                · have hqP : 0 < q6 := of_decide_eq_true hq0
                  have hqI : (0 : Int) < (q6 : Int) := by omega
                  rw [hq0] at HC7
                  go_wp2_with fail
                  refine HC7.out.mono ?_
                  rintro e w8 ⟨rfl, b8⟩
                  have HQ8 := Lib.hid (HQ7.out.below b8)
                  clear b8 HC7 HQ7
                  obtain ⟨csx, csy, hkx, _, _⟩ := HQ8.out
                  have hr := commit_any g _ csx S2 _ n w8 hkx (by omega) Hn.out
                  have hcv := HT.out.2.1
                  obtain ⟨SC, hSC⟩ : ∃ SC, SC = commitM S2 n := ⟨_, rfl⟩
                  rw [← hSC] at hr hcv
                  have HCV := Lib.hid hcv
                  have HC8 := Lib.hid hr
                  clear hr hkx hSC hcv
                  go_wp2_with fail
                  refine HC8.out.mono ?_
                  rintro e w9 ⟨rfl, ⟨⟨cs9, hk9, _⟩, hg9⟩⟩
                  have HQ9 := Lib.hid (HQ8.out.one hk9 hg9 (by omega))
                  clear hk9 hg9 HC8 HQ8
                  obtain ⟨csx, csy, _, hky, _⟩ := HQ9.out
                  have hr := commit_any g' _ csy T1 _ n w9 hky (by omega) Hn.out
                  have hcv := HT.out.2.2.2.2
                  obtain ⟨TC, hTC⟩ : ∃ TC, TC = commitM T1 n := ⟨_, rfl⟩
                  rw [← hTC] at hr hcv
                  have HTV := Lib.hid (And.intro hcv.1 hcv.2.1)
                  have HC9 := Lib.hid hr
                  clear hr hky hTC hcv
                  go_wp2_with fail
                  refine HC9.out.mono ?_
                  rintro e w10 ⟨rfl, ⟨⟨cs10, hk10, _⟩, hg10⟩⟩
                  have HQ10 := Lib.hid (HQ9.out.two hk10 hg10 (by omega))
                  clear hk10 hg10 HC9 HQ9
                  go_wp2_with fail
                  refine (alive_any w10).mono ?_
                  rintro e w11 ⟨rfl, b11⟩
                  have HQ11 := Lib.hid (HQ10.out.below b11)
                  clear b11 HQ10
                  obtain ⟨csx, csy, hkx, hky, _⟩ := HQ11.out
                  have hr := sameValues_any g g' csx csy SC.2 TC.2 _ _ w11 hkx hky
                  rw [show sameB SC.2.V TC.2.V = true from same_true (by rw [HCV.out, HTV.out.1]; exact fold_same l _ _ HS.out.2.2.1)] at hr
                  have HC11 := Lib.hid hr
                  clear hr hkx hky
                  go_wp2_with fail
                  refine HC11.out.mono ?_
                  rintro e w12 ⟨rfl, b12⟩
                  have HQ12 := Lib.hid (HQ11.out.below b12)
                  clear b12 HC11 HQ11
                  obtain ⟨csx, csy, _, hky, _⟩ := HQ12.out
                  have hr := busy_any g' _ csy TC.2 _ n w12 hky Hn.out
                  rw [HTV.out.2] at hr
                  have HC12 := Lib.hid hr
                  clear hr hky
                  go_wp2_with fail
                  refine HC12.out.mono ?_
                  rintro e w13 ⟨rfl, b13⟩
                  have hF := Lib.hid (HQ12.out.below b13).bel
                  clear b13 HC12
                  go_wp2
                  go_ret
                  exact ⟨rfl, hF.out⟩
              · have hjI : ¬ (j : Int) < (m2 : Int) := by omega
                go_wp2_with fail
                refine HC.out.mono ?_
                rintro e w6 ⟨⟨A6, q6, c6, rfl, hq6, hown⟩, ⟨⟨cs6, hk6, _⟩, hg6⟩⟩
                have HQ6 := Lib.hid (HQQ.out.one hk6 hg6 (by omega))
                obtain ⟨csx, csy, _, hky, _⟩ := HQ6.out
                have hr := restore_any g' _ csy (T0 V2) _ n A6 l q6 c6 w6 hky (by omega) Hn.out (Lib.hid hq6) (by have := HT.out.1.len; omega) hown.at_ (fun _ _ => trivial)
                rw [HT.out.2.2.1] at hr
                have HC6 := Lib.hid hr
                have Hq := Lib.hid hq6
                clear hr hky hk6 hg6 hq6 hown HC
                go_wp2_with fail
                refine HC6.out.mono ?_
                rintro e w7 ⟨rfl, ⟨⟨cs7, hk7, _⟩, hg7⟩⟩
                have HQ7 := Lib.hid (HQ6.out.two hk7 hg7 (by omega))
                clear hk7 hg7 HC6 HQ6
                obtain ⟨csx, csy, hkx, hky, _⟩ := HQ7.out
                have hr := busy_any g' _ csy T1 _ n w7 hky Hn.out
                rw [HT.out.2.2.2.1, ← Hq.out] at hr
                have HC7 := Lib.hid hr
                clear hr hkx hky
                rcases hq0 : decide (0 < q6) with _ | _
                · have hqP : ¬ 0 < q6 := of_decide_eq_false hq0
                  have hqI : ¬ (0 : Int) < (q6 : Int) := by omega
                  rw [hq0] at HC7
                  go_wp2_with fail
                  refine HC7.out.mono ?_
                  rintro e w8 ⟨rfl, b8⟩
                  have HQ8 := Lib.hid (HQ7.out.below b8)
                  clear b8 HC7 HQ7
                  obtain ⟨csx, csy, hkx, _, _⟩ := HQ8.out
                  have hr := commit_any g _ csx S2 _ n w8 hkx (by omega) Hn.out
                  have hcv := HT.out.2.1
                  obtain ⟨SC, hSC⟩ : ∃ SC, SC = commitM S2 n := ⟨_, rfl⟩
                  rw [← hSC] at hr hcv
                  have HCV := Lib.hid hcv
                  have HC8 := Lib.hid hr
                  clear hr hkx hSC hcv
                  go_wp2_with fail
                  refine HC8.out.mono ?_
                  rintro e w9 ⟨rfl, ⟨⟨cs9, hk9, _⟩, hg9⟩⟩
                  have HQ9 := Lib.hid (HQ8.out.one hk9 hg9 (by omega))
                  clear hk9 hg9 HC8 HQ8
                  obtain ⟨csx, csy, _, hky, _⟩ := HQ9.out
                  have hr := commit_any g' _ csy T1 _ n w9 hky (by omega) Hn.out
                  have hcv := HT.out.2.2.2.2
                  obtain ⟨TC, hTC⟩ : ∃ TC, TC = commitM T1 n := ⟨_, rfl⟩
                  rw [← hTC] at hr hcv
                  have HTV := Lib.hid (And.intro hcv.1 hcv.2.1)
                  have HC9 := Lib.hid hr
                  clear hr hky hTC hcv
                  go_wp2_with fail
                  refine HC9.out.mono ?_
                  rintro e w10 ⟨rfl, ⟨⟨cs10, hk10, _⟩, hg10⟩⟩
                  have HQ10 := Lib.hid (HQ9.out.two hk10 hg10 (by omega))
                  clear hk10 hg10 HC9 HQ9
                  go_wp2_with fail
                  refine (alive_any w10).mono ?_
                  rintro e w11 ⟨rfl, b11⟩
                  have HQ11 := Lib.hid (HQ10.out.below b11)
                  clear b11 HQ10
                  obtain ⟨csx, csy, hkx, hky, _⟩ := HQ11.out
                  have hr := sameValues_any g g' csx csy SC.2 TC.2 _ _ w11 hkx hky
                  rw [show sameB SC.2.V TC.2.V = true from same_true (by rw [HCV.out, HTV.out.1]; exact fold_same l _ _ HS.out.2.2.1)] at hr
                  have HC11 := Lib.hid hr
                  clear hr hkx hky
                  go_wp2_with fail
                  refine HC11.out.mono ?_
                  rintro e w12 ⟨rfl, b12⟩
                  have HQ12 := Lib.hid (HQ11.out.below b12)
                  clear b12 HC11 HQ11
                  obtain ⟨csx, csy, _, hky, _⟩ := HQ12.out
                  have hr := busy_any g' _ csy TC.2 _ n w12 hky Hn.out
                  rw [HTV.out.2] at hr
                  have HC12 := Lib.hid hr
                  clear hr hky
                  go_wp2_with fail
                  refine HC12.out.mono ?_
                  rintro e w13 ⟨rfl, b13⟩
                  have hF := Lib.hid (HQ12.out.below b13).bel
                  clear b13 HC12
                  go_wp2
                  go_ret
                  exact ⟨rfl, hF.out⟩
                · have hqP : 0 < q6 := of_decide_eq_true hq0
                  have hqI : (0 : Int) < (q6 : Int) := by omega
                  rw [hq0] at HC7
                  go_wp2_with fail
                  refine HC7.out.mono ?_
                  rintro e w8 ⟨rfl, b8⟩
                  have HQ8 := Lib.hid (HQ7.out.below b8)
                  clear b8 HC7 HQ7
                  obtain ⟨csx, csy, hkx, _, _⟩ := HQ8.out
                  have hr := commit_any g _ csx S2 _ n w8 hkx (by omega) Hn.out
                  have hcv := HT.out.2.1
                  obtain ⟨SC, hSC⟩ : ∃ SC, SC = commitM S2 n := ⟨_, rfl⟩
                  rw [← hSC] at hr hcv
                  have HCV := Lib.hid hcv
                  have HC8 := Lib.hid hr
                  clear hr hkx hSC hcv
                  go_wp2_with fail
                  refine HC8.out.mono ?_
                  rintro e w9 ⟨rfl, ⟨⟨cs9, hk9, _⟩, hg9⟩⟩
                  have HQ9 := Lib.hid (HQ8.out.one hk9 hg9 (by omega))
                  clear hk9 hg9 HC8 HQ8
                  obtain ⟨csx, csy, _, hky, _⟩ := HQ9.out
                  have hr := commit_any g' _ csy T1 _ n w9 hky (by omega) Hn.out
                  have hcv := HT.out.2.2.2.2
                  obtain ⟨TC, hTC⟩ : ∃ TC, TC = commitM T1 n := ⟨_, rfl⟩
                  rw [← hTC] at hr hcv
                  have HTV := Lib.hid (And.intro hcv.1 hcv.2.1)
                  have HC9 := Lib.hid hr
                  clear hr hky hTC hcv
                  go_wp2_with fail
                  refine HC9.out.mono ?_
                  rintro e w10 ⟨rfl, ⟨⟨cs10, hk10, _⟩, hg10⟩⟩
                  have HQ10 := Lib.hid (HQ9.out.two hk10 hg10 (by omega))
                  clear hk10 hg10 HC9 HQ9
                  go_wp2_with fail
                  refine (alive_any w10).mono ?_
                  rintro e w11 ⟨rfl, b11⟩
                  have HQ11 := Lib.hid (HQ10.out.below b11)
                  clear b11 HQ10
                  obtain ⟨csx, csy, hkx, hky, _⟩ := HQ11.out
                  have hr := sameValues_any g g' csx csy SC.2 TC.2 _ _ w11 hkx hky
                  rw [show sameB SC.2.V TC.2.V = true from same_true (by rw [HCV.out, HTV.out.1]; exact fold_same l _ _ HS.out.2.2.1)] at hr
                  have HC11 := Lib.hid hr
                  clear hr hkx hky
                  go_wp2_with fail
                  refine HC11.out.mono ?_
                  rintro e w12 ⟨rfl, b12⟩
                  have HQ12 := Lib.hid (HQ11.out.below b12)
                  clear b12 HC11 HQ11
                  obtain ⟨csx, csy, _, hky, _⟩ := HQ12.out
                  have hr := busy_any g' _ csy TC.2 _ n w12 hky Hn.out
                  rw [HTV.out.2] at hr
                  have HC12 := Lib.hid hr
                  clear hr hky
                  go_wp2_with fail
                  refine HC12.out.mono ?_
                  rintro e w13 ⟨rfl, b13⟩
                  have hF := Lib.hid (HQ12.out.below b13).bel
                  clear b13 HC12
                  go_wp2
                  go_ret
                  exact ⟨rfl, hF.out⟩
        · rw [hbs] at HBs
          go_wp2_with fail
          refine HBs.out.mono ?_
          rintro e w4 ⟨rfl, b4⟩
          have HQ4 := Lib.hid (HQ.out.below b4)
          clear b4 HBs hbs
          go_wp2_with fail
          refine (alive_any w4).mono ?_
          rintro e w5 ⟨rfl, b5⟩
          have HQ5 := Lib.hid (HQ4.out.below b5)
          clear b5
          obtain ⟨csa, csb, hka, hkb, _⟩ := HQ5.out
          have hr := sameValues_any g g' csa csb S (T0 V2) _ _ w5 hka hkb
          rw [show sameB S.V (T0 V2).V = true from same_true HS.out.2.2.1] at hr
          have HC4 := Lib.hid hr
          clear hr hka hkb
          go_wp2_with fail
          refine HC4.out.mono ?_
          rintro e w6 ⟨rfl, b6⟩
          have hF := Lib.hid (HQ5.out.below b6).bel
          clear b6 HC4
          go_wp2
          go_ret
          exact ⟨rfl, hF.out⟩
      · have hnP : n < 1 := of_decide_eq_true hn1
        have HQ4 := HQ
        go_wp2_with fail
        refine (alive_any w3).mono ?_
        rintro e w5 ⟨rfl, b5⟩
        have HQ5 := Lib.hid (HQ4.out.below b5)
        clear b5
        obtain ⟨csa, csb, hka, hkb, _⟩ := HQ5.out
        have hr := sameValues_any g g' csa csb S (T0 V2) _ _ w5 hka hkb
        rw [show sameB S.V (T0 V2).V = true from same_true HS.out.2.2.1] at hr
        have HC4 := Lib.hid hr
        clear hr hka hkb
        go_wp2_with fail
        refine HC4.out.mono ?_
        rintro e w6 ⟨rfl, b6⟩
        have hF := Lib.hid (HQ5.out.below b6).bel
        clear b6 HC4
        go_wp2
        go_ret
        exact ⟨rfl, hF.out⟩
end Go.Proofs.Ytnpoicgincndkaa
