/- Layer 13: KvAlone, KvApart. -/
import Derived.Test.YtnpoicgincndkaaOpenB
namespace Go.Proofs.Ytnpoicgincndkaa
open Go.RowKit Go.Maps
set_option linter.unusedVariables false
set_option linter.unusedSimpArgs false

theorem playK_B (ops : List OpV) : (playK ops).B = anyB := by
  unfold playK
  generalize ops.take 60 = l
  have : ∀ (l : List OpV) (S : KS), S.B = anyB → (l.foldl stepK S).B = anyB := by
    intro l
    induction l with
    | nil => intro S h; exact h
    | cons o l ih => intro S h; exact ih _ (stepK_B h o)
  exact this l _ rfl
set_option maxRecDepth 100000 in
set_option maxHeartbeats 4000000 in
theorem kvAlone_walk (A : Option Addr) (ops : List OpV) (c : Nat) (one two key : Int) (v : Nat) (w : World) (h : OpsAt w A ops) (o1 : -9223372036854775808 ≤ one) (o2 : one ≤ 9223372036854775807) (t1 : -9223372036854775808 ≤ two) (t2 : two ≤ 9223372036854775807) (y1 : -9223372036854775808 ≤ key) (y2 : key ≤ 9223372036854775807) (hv : v < 18446744073709551616) :
    Calls Try.prog 7 #[.slice A ops.length c, .int .i64 one, .int .i64 two, .int .i64 key, .int .u64 (v : Nat)] w fun e w' => e = .returned (.bool true) ∧ Below w.heap.size w w' := by
  obtain ⟨m, hm⟩ : ∃ m, m = ops.length := ⟨_, rfl⟩
  rw [← hm]
  have Ho : Hid (i64ok one) := Lib.hid ⟨o1, o2⟩
  have Ht : Hid (i64ok two) := Lib.hid ⟨t1, t2⟩
  have Hy : Hid (i64ok key) := Lib.hid ⟨y1, y2⟩
  have HP := Lib.hid (played_any A ops m c w (Lib.hid hm) h)
  obtain ⟨S, hS⟩ : ∃ S, S = playK ops := ⟨_, rfl⟩
  have hSB := playK_B ops
  rw [← hS] at HP hSB
  have HSB := Lib.hid hSB
  have hw1 : ∃ v1 : Nat, IntKind.u64.wrap ((v : Int) + 1) = (v1 : Int) := ⟨(v + 1) % 18446744073709551616, by simp [IntKind.wrap, IntKind.bits, IntKind.signed]⟩
  obtain ⟨v1, hw1⟩ := hw1
  clear h o1 o2 t1 t2 y1 y2 hv hS hSB hm
  go_enter Try.func7, Try.ntmps7
  go_wp2_with fail
  refine HP.out.mono ?_
  rintro e w1 ⟨⟨g, cs, rfl, hk, hg0⟩, b1⟩
  have H1 := Lib.hid (And.intro hk (And.intro b1 hg0))
  clear hk b1 hg0 HP
  rcases h12 : (one == two) with _ | _
  · have hne : two ≠ one := fun e => by subst e; simp at h12
    have hr := kput_any g _ cs S 2000 one key v w1 H1.out.1 (by omega) Ho.out Hy.out (fun _ _ => by rw [HSB.out]; trivial)
    obtain ⟨R, hR⟩ : ∃ R, R = changeM S one ⟨1, key, v⟩ := ⟨_, rfl⟩
    rw [← hR] at hr
    have HR := Lib.hid hR
    obtain ⟨e1, S1⟩ := R
    dsimp only at hr
    have HC := Lib.hid hr
    clear hr hR
    go_wp2_with fail
    refine HC.out.mono ?_
    rintro e w2 ⟨rfl, ⟨⟨cs2, hk2, _⟩, hg2⟩⟩
    have hB2 := H1.out.2.1.grown hg2 H1.out.2.1.size (fun r e => by cases e; exact H1.out.2.2)
    have H2 := Lib.hid (And.intro hk2 hB2)
    clear hk2 hg2 hB2
    rcases he : (e1 != 0) with _ | _
    · obtain rfl : e1 = 0 := by simpa using he
      have hal := alone_facts HR.out.symm
      have hcl : ∀ al, (openM S1 two key al).1 ≠ 0 := fun al => openM_clash hal.1 rfl (fun e => hne e.symm) rfl
      have r1 := changeM_refused (x := ⟨1, key, v1⟩) (hcl true)
      have r2 := changeM_refused (x := ⟨2, key, 0⟩) (hcl true)
      have r3 := getM_refused (hcl false)
      dsimp only at r1 r2
      obtain ⟨ea, hea⟩ : ∃ ea, ea = (openM S1 two key true).1 := ⟨_, rfl⟩
      obtain ⟨eb, heb⟩ : ∃ eb, eb = (openM S1 two key false).1 := ⟨_, rfl⟩
      have hea0 : (ea != 0) = true := by rw [hea]; simpa using hcl true
      have heb0 : (eb != 0) = true := by rw [heb]; simpa using hcl false
      rw [← hea] at r1 r2
      rw [← heb] at r3
      obtain ⟨S2, hS2⟩ := hal.2.1
      have hB1 : S1.B = anyB := hal.2.2.trans HSB.out
      have hr := kput_any g _ cs2 S1 2001 two key v1 w2 H2.out.1 (by omega) Ht.out Hy.out (fun _ _ => by rw [hB1]; trivial)
      rw [r1] at hr
      have HA := Lib.hid hr
      have HRR := Lib.hid (And.intro r2 (And.intro r3 (And.intro hS2 hB1)))
      clear hr r1 r2 r3 hS2 hB1 hal hcl hea heb he
      go_wp2_with fail
      refine HA.out.mono ?_
      rintro e w3 ⟨rfl, ⟨⟨cs3, hk3, _⟩, hg3⟩⟩
      have hB3 := H2.out.2.grown hg3 H2.out.2.size (fun r e => by cases e; exact H1.out.2.2)
      have hr := kdel_any g _ cs3 S1 2002 two key w3 hk3 (by omega) Ht.out Hy.out (fun _ _ => by rw [HRR.out.2.2.2]; trivial)
      rw [HRR.out.1] at hr
      have HBb := Lib.hid hr
      have HB3 := Lib.hid hB3
      clear hr hk3 hg3 hB3
      go_wp2_with fail
      refine HBb.out.mono ?_
      rintro e w4 ⟨rfl, ⟨⟨cs4, hk4, _⟩, hg4⟩⟩
      have hB4 := HB3.out.grown hg4 HB3.out.size (fun r e => by cases e; exact H1.out.2.2)
      have hr := get_any g _ cs4 S1 2003 two key w4 hk4 (by omega) Ht.out Hy.out
      rw [HRR.out.2.1] at hr
      have HCc := Lib.hid hr
      have HB4 := Lib.hid hB4
      clear hr hk4 hg4 hB4
      go_wp2_with fail
      refine HCc.out.mono ?_
      rintro e w5 ⟨rfl, ⟨⟨cs5, hk5, _⟩, hg5⟩⟩
      have hB5 := HB4.out.grown hg5 HB4.out.size (fun r e => by cases e; exact H1.out.2.2)
      have hr := get_any g _ cs5 S1 2003 one key w5 hk5 (by omega) Ho.out Hy.out
      rw [HRR.out.2.2.1] at hr
      have HD := Lib.hid hr
      have HB5 := Lib.hid hB5
      clear hr hk5 hg5 hB5
      go_wp2_with fail
      refine HD.out.mono ?_
      rintro e w6 ⟨rfl, ⟨_, hg6⟩⟩
      have HB6 := Lib.hid (HB5.out.grown hg6 HB5.out.size (fun r e => by cases e; exact H1.out.2.2))
      clear hg6
      go_wp2_with fail
      refine (alive_any w6).mono ?_
      rintro e w7 ⟨rfl, b7⟩
      have hF := Lib.hid (bt HB6.out b7)
      clear b7
      go_wp2
      go_ret
      exact ⟨rfl, hF.out⟩
    · go_wp2_with fail
      refine (alive_any w2).mono ?_
      rintro e w3 ⟨rfl, b3⟩
      have hF := Lib.hid (bt H2.out.2 b3)
      clear b3
      go_wp2
      go_ret
      exact ⟨rfl, hF.out⟩
  · go_wp2_with fail
    refine (alive_any w1).mono ?_
    rintro e w2 ⟨rfl, b2⟩
    have hF := Lib.hid (bt H1.out.2.1 b2)
    clear b2
    go_wp2
    go_ret
    exact ⟨rfl, hF.out⟩
theorem backout_V (S : KS) (n : Int) : (backoutM S n).2.V = S.V := by unfold backoutM; split <;> rfl
theorem backout_busy {S : KS} {n : Int} (h : 1 ≤ n) : busyB (backoutM S n).2 n = false := by unfold backoutM; rw [if_neg (by omega)]; exact busy_drop S n
set_option maxRecDepth 100000 in
set_option maxHeartbeats 4000000 in
theorem kvApart_walk (A : Option Addr) (ops : List OpV) (c : Nat) (A2 : Option Addr) (more : List OpV) (c2 : Nat) (n : Int) (w : World) (h : OpsAt w A ops) (h2 : OpsAt w A2 more) (n1 : -9223372036854775808 ≤ n) (n2 : n ≤ 9223372036854775807) :
    Calls Try.prog 5 #[.slice A ops.length c, .slice A2 more.length c2, .int .i64 n] w fun e w' => e = .returned (.bool true) ∧ Below w.heap.size w w' := by
  obtain ⟨m, hm⟩ : ∃ m, m = ops.length := ⟨_, rfl⟩
  obtain ⟨m2, hm2⟩ : ∃ m2, m2 = more.length := ⟨_, rfl⟩
  rw [← hm, ← hm2]
  have Hn : Hid (i64ok n) := Lib.hid ⟨n1, n2⟩
  have Hm2 := Lib.hid hm2
  have H2 := Lib.hid h2
  have hmx : (m2 : Int) ≤ 9223372036854775807 := by have := h2.1; rw [← hm2] at this; unfold maxLen at this; omega
  have hp := fun (u : World) (hu : Below w.heap.size w u) => played_any A ops m c u (Lib.hid hm) (h.below hu)
  obtain ⟨S, hS⟩ : ∃ S, S = playK ops := ⟨_, rfl⟩
  have hSB := playK_B ops
  rw [← hS] at hp hSB
  have HP := Lib.hid hp
  have HSB := Lib.hid hSB
  clear h h2 n1 n2 hS hSB hm hm2 hp
  go_enter Try.func5, Try.ntmps5
  go_wp2_with fail
  refine (HP.out w (Below.refl _ _)).mono ?_
  rintro e w1 ⟨⟨g, cs, rfl, hk, hg0⟩, b1⟩
  have H1 := Lib.hid (And.intro hk (And.intro b1 hg0))
  clear hk b1 hg0
  go_wp2_with fail
  refine (HP.out w1 H1.out.2.1).mono ?_
  rintro e w2 ⟨⟨g', cs', rfl, hk', hg0'⟩, b2⟩
  have H0 := Lib.hid (And.intro (H1.out.1.below b2) (And.intro hk' (And.intro (bt H1.out.2.1 b2) (And.intro H1.out.2.2 (And.intro (show w.heap.size ≤ g' by have := H1.out.2.1.size; omega) (show g ≠ g' by have := H1.out.1.lt; omega))))))
  clear hk' b2 hg0' HP H1
  go_wp2_with fail
  have HI : Hid (∃ St : KS, St.V = S.V ∧ St.B = anyB ∧ (∃ cs, KvAt w2 g 59 cs St (2000 + 31 * 0)) ∧ (∃ cs, KvAt w2 g' 59 cs S 2000) ∧ Below w.heap.size w w2) := Lib.hid ⟨S, rfl, HSB.out, ⟨cs, H0.out.1⟩, ⟨cs', H0.out.2.1⟩, H0.out.2.2.1⟩
  have HD := Lib.hid H0.out.2.2.2
  clear H0
  go_loopw [9] (fun i wr => ∃ (j : Nat), j ≤ m2 ∧ j ≤ 30 ∧ i = .int .i64 j ∧ Hid (∃ St : KS, St.V = S.V ∧ St.B = anyB ∧ (∃ cs, KvAt wr g 59 cs St (2000 + 31 * j)) ∧ (∃ cs, KvAt wr g' 59 cs S 2000) ∧ Below w.heap.size w wr)) (fun i _ => m2 - (intOf i).toNat)
  case atStart => exact ⟨0, Nat.zero_le _, by omega, rfl, HI⟩
  case round =>
    clear HI
    obtain ⟨j, hj, hj30, rfl, HR⟩ := hrel
    by_cases hjn : j < m2 ∧ j < 30
    · have hjI : (j : Int) < (m2 : Int) := by omega
      have hj3I : (j : Int) < 30 := by omega
      obtain ⟨St, hV, hSt, ⟨csa, hka⟩, ⟨csb, hkb⟩, hb⟩ := HR.out
      have hjo : j < more.length := by rw [← Hm2.out]; exact hjn.1
      obtain ⟨b, o, rfl, hlt, hcs⟩ := H2.out.2.2 (by omega)
      obtain ⟨q0, q1, q2, q3, q4⟩ := hcs j hjo
      obtain ⟨hok, hml, hin⟩ := H2.out.2.1 _ (List.getElem_mem hjo)
      obtain ⟨op, hop⟩ : ∃ op, op = more[j] := ⟨_, rfl⟩
      rw [← hop] at q0 q1 q2 q3 q4 hok hml hin
      have p0 := (hb.cell (p := ⟨b, o + j * 5, none⟩) hlt).trans q0
      have p1 := (hb.cell (p := ⟨b, o + j * 5 + 1, none⟩) hlt).trans q1
      have p2 := (hb.cell (p := ⟨b, o + j * 5 + 2, none⟩) hlt).trans q2
      have p3 := (hb.cell (p := ⟨b, o + j * 5 + 3, none⟩) hlt).trans q3
      have p4 := (hb.cell (p := ⟨b, o + j * 5 + 4, none⟩) hlt).trans q4
      obtain ⟨ok, on, oy, ov, oA, ol, oc⟩ := op
      obtain ⟨ml, hmq⟩ : ∃ ml, ml = ol.length := ⟨_, rfl⟩
      dsimp only at p0 p1 p2 p3 p4 hml hin
      rw [← hmq] at p4 hml
      obtain ⟨wA, hwA⟩ : ∃ wA, wA = wr.alloc (.cells #[.int .i64 ok, .int .i64 on, .int .i64 oy, .int .u64 (ov : Nat), .slice oA ml oc] 36) := ⟨_, rfl⟩
      have bA : Below wr.heap.size wr wA := by rw [hwA]; exact ba _ _
      have kA : Blk wA wr.heap.size 36 #[.int .i64 ok, .int .i64 on, .int .i64 oy, .int .u64 (ov : Nat), .slice oA ml oc] := by rw [hwA]; exact Blk.new _ _ _
      have d0 := kA.cell 0
      simp only [List.getElem?_toArray, List.getElem?_cons_zero, List.getElem?_cons_succ] at d0
      have HWA := Lib.hid hwA
      rw [hwA] at d0
      have HB := Lib.hid (And.intro hka (And.intro hkb (And.intro hb (And.intro hV (And.intro hSt (And.intro hok (And.intro hmq (hin.below hb))))))))
      have hnext : ∀ (u : World) (St : KS), St.V = S.V → St.B = anyB → (∃ cs, KvAt u g 59 cs St (2000 + 31 * (j + 1))) → (∃ cs, KvAt u g' 59 cs S 2000) → Below w.heap.size w u → Hid (∃ St : KS, St.V = S.V ∧ St.B = anyB ∧ (∃ cs, KvAt u g 59 cs St (2000 + 31 * (j + 1))) ∧ (∃ cs, KvAt u g' 59 cs S 2000) ∧ Below w.heap.size w u) := fun u St a b c d e => Lib.hid ⟨St, a, b, c, d, e⟩
      have hks := (hka.below bA).lt
      clear q0 q1 q2 q3 q4 hcs hop hka hkb hb hV hSt hwA bA kA hok hmq hin HR hjo hlt
      by_cases k03 : 0 ≤ ok ∧ ok ≤ 3
      · have k0I : decide (ok < 0) = false := decide_eq_false (by omega)
        have k3I : decide (3 < ok) = false := decide_eq_false (by omega)
        have k0P : ¬ ok < 0 := by omega
        have k3P : ¬ 3 < ok := by omega
        obtain ⟨wB, hwB⟩ : ∃ wB, wB = wr.alloc (.cells #[.int .i64 ok, .int .i64 n, .int .i64 oy, .int .u64 (ov : Nat), .slice oA ml oc] 36) := ⟨_, rfl⟩
        have bB : Below wr.heap.size wr wB := by rw [hwB]; exact ba _ _
        obtain ⟨hka, hkb, hb, hV, hSt, hok, hmq, hin⟩ := HB.out
        have hkaB := hka.below bB
        have hcall := call_any g _ csa St (2000 + 31 * j) ⟨ok, n, oy, ov, oA, ol, oc⟩ wB hkaB (by omega) ⟨Hn.out, hok.y, hok.v⟩ (fun e => absurd e (by dsimp only; omega)) (hin.below bB) (fun b _ => by rw [hSt]; trivial)
        unfold OpV.val at hcall
        dsimp only at hcall
        rw [← hmq] at hcall
        have HC := Lib.hid hcall
        have HVM := Lib.hid (callM_V St ⟨ok, n, oy, ov, oA, ol, oc⟩ k03.1 k03.2)
        have H5 := Lib.hid (And.intro (hkb.below bB) (And.intro (bt hb bB) (And.intro hkaB.bk (And.intro hV hSt))))
        have HWB := Lib.hid hwB
        clear hwB bB hka hkb hb hV hSt hok hmq hin hkaB hcall HB
        go_wp2_with fail
        rw [← HWB.out]
        refine HC.out.mono ?_
        rintro e w3 ⟨A3, q3, c3, rfl, _, _, ⟨⟨cs3, hk3, _⟩, hg3⟩⟩
        have HN := hnext w3 { (callM St ⟨ok, n, oy, ov, oA, ol, oc⟩).2 with B := anyB } (HVM.out.trans H5.out.2.2.2.1) rfl ⟨cs3, (hk3.more (by omega)).rebase fun _ _ _ => trivial⟩ ⟨csb, (H5.out.1.far hg3 (fun e => HD.out.2.2 e.symm) H5.out.2.2.1 (by decide)).rebase fun _ _ _ => by rw [HSB.out]; trivial⟩ (H5.out.2.1.grown hg3 H5.out.2.1.size (fun r e => by cases e; exact HD.out.1))
        clear hk3 hg3 p0 p1 p2 p3 p4 d0 hnext
        go_wp2
        go_roundw
        case rel => exact ⟨j + 1, by omega, by omega, by go_num, HN⟩
        case measure => simp [intOf]; omega
      · have HN := hnext wA St HB.out.2.2.2.1 HB.out.2.2.2.2.1 ⟨csa, (HB.out.1.below (by rw [HWA.out]; exact ba _ _)).more (by omega)⟩ ⟨csb, HB.out.2.1.below (by rw [HWA.out]; exact ba _ _)⟩ (bt HB.out.2.2.1 (by rw [HWA.out]; exact ba _ _))
        clear hnext HB
        rcases k0 : decide (ok < 0) with _ | _
        · have k0P : ¬ ok < 0 := of_decide_eq_false k0
          have k3P : 3 < ok := by omega
          have k3 : decide (3 < ok) = true := decide_eq_true k3P
          go_wp2
          rw [← HWA.out]
          go_roundw
          case rel => exact ⟨j + 1, by omega, by omega, by go_num, HN⟩
          case measure => simp [intOf]; omega
        · have k0P : ok < 0 := of_decide_eq_true k0
          go_wp2
          rw [← HWA.out]
          go_roundw
          case rel => exact ⟨j + 1, by omega, by omega, by go_num, HN⟩
          case measure => simp [intOf]; omega
    · have hf : Hid (∃ St : KS, St.V = S.V ∧ (∃ cs, KvAt wr g 59 cs St 200000) ∧ (∃ cs, KvAt wr g' 59 cs S 2000) ∧ Below w.heap.size w wr) := Lib.hid (by
        obtain ⟨St, a, _, ⟨cs1, b⟩, c, d⟩ := HR.out
        exact ⟨St, a, ⟨cs1, b.more (by omega)⟩, c, d⟩)
      obtain ⟨St, hV, ⟨csa, hka⟩, ⟨csb, hkb⟩, hb⟩ := hf.out
      have hr := sameValues_any g g' csa csb St S 200000 2000 wr hka hkb
      rw [show sameB St.V S.V = true from sameB_iff.2 fun k _ => by rw [hV]] at hr
      have HC := Lib.hid hr
      have H4 := Lib.hid (And.intro hka (And.intro hkb (And.intro hb hV)))
      clear hr hka hkb hb hV hf HR
      by_cases hjm : j < m2
      · have hjI : (j : Int) < (m2 : Int) := by omega
        have hj3I : ¬ (j : Int) < 30 := by omega
        go_wp2_with fail
        refine HC.out.mono ?_
        rintro e w3 ⟨rfl, b3⟩
        have hr := backout_any g _ csa St 200000 n w3 (H4.out.1.below b3) Hn.out
        have HC2 := Lib.hid hr
        have HP2 := Lib.hid (And.intro (H4.out.2.1.below b3) (And.intro (H4.out.1.below b3).bk (bt H4.out.2.2.1 b3)))
        obtain ⟨R, hR⟩ : ∃ R, R = backoutM St n := ⟨_, rfl⟩
        have HR := Lib.hid hR
        rw [← hR] at HC2
        clear hr b3 HC hR
        go_wp2_with fail
        refine HC2.out.mono ?_
        rintro e w4 ⟨rfl, ⟨⟨cs4, hk4, _⟩, hg4⟩⟩
        have H6 := Lib.hid (And.intro hk4 (And.intro (HP2.out.1.far hg4 (fun e => HD.out.2.2 e.symm) HP2.out.2.1 (by decide)) (HP2.out.2.2.grown hg4 HP2.out.2.2.size (fun r e => by cases e; exact HD.out.1))))
        clear hk4 hg4 HP2 HC2
        go_wp2_with fail
        refine (alive_any w4).mono ?_
        rintro e w5 ⟨rfl, b5⟩
        have hr := sameValues_any g g' _ _ R.2 S _ _ w5 (H6.out.1.below b5) (H6.out.2.1.below b5)
        rw [show sameB R.2.V S.V = true from sameB_iff.2 fun k _ => by rw [HR.out, backout_V, H4.out.2.2.2]] at hr
        have HC3 := Lib.hid hr
        have H7 := Lib.hid (And.intro (H6.out.1.below b5) (bt H6.out.2.2 b5))
        clear hr b5 H6
        go_wp2_with fail
        refine HC3.out.mono ?_
        rintro e w6 ⟨rfl, b6⟩
        have H8 := Lib.hid (And.intro (H7.out.1.below b6) (bt H7.out.2 b6))
        clear b6 H7 HC3
        rcases hn1 : decide (n < 1) with _ | _
        · have hnP : ¬ n < 1 := of_decide_eq_false hn1
          have hr := busy_any g _ _ R.2 _ n w6 H8.out.1 Hn.out
          rw [HR.out, backout_busy (by omega)] at hr
          have HC4 := Lib.hid hr
          clear hr
          go_wp2_with fail
          refine HC4.out.mono ?_
          rintro e w7 ⟨rfl, b7⟩
          have hF := Lib.hid (bt H8.out.2 b7)
          clear b7 HC4
          go_wp2
          go_ret
          exact ⟨rfl, hF.out⟩
        · have hnP : n < 1 := of_decide_eq_true hn1
          have hF := Lib.hid H8.out.2
          go_wp2
          go_ret
          exact ⟨rfl, hF.out⟩
      · have hjI : ¬ (j : Int) < (m2 : Int) := by omega
        go_wp2_with fail
        refine HC.out.mono ?_
        rintro e w3 ⟨rfl, b3⟩
        have hr := backout_any g _ csa St 200000 n w3 (H4.out.1.below b3) Hn.out
        have HC2 := Lib.hid hr
        have HP2 := Lib.hid (And.intro (H4.out.2.1.below b3) (And.intro (H4.out.1.below b3).bk (bt H4.out.2.2.1 b3)))
        obtain ⟨R, hR⟩ : ∃ R, R = backoutM St n := ⟨_, rfl⟩
        have HR := Lib.hid hR
        rw [← hR] at HC2
        clear hr b3 HC hR
        go_wp2_with fail
        refine HC2.out.mono ?_
        rintro e w4 ⟨rfl, ⟨⟨cs4, hk4, _⟩, hg4⟩⟩
        have H6 := Lib.hid (And.intro hk4 (And.intro (HP2.out.1.far hg4 (fun e => HD.out.2.2 e.symm) HP2.out.2.1 (by decide)) (HP2.out.2.2.grown hg4 HP2.out.2.2.size (fun r e => by cases e; exact HD.out.1))))
        clear hk4 hg4 HP2 HC2
        go_wp2_with fail
        refine (alive_any w4).mono ?_
        rintro e w5 ⟨rfl, b5⟩
        have hr := sameValues_any g g' _ _ R.2 S _ _ w5 (H6.out.1.below b5) (H6.out.2.1.below b5)
        rw [show sameB R.2.V S.V = true from sameB_iff.2 fun k _ => by rw [HR.out, backout_V, H4.out.2.2.2]] at hr
        have HC3 := Lib.hid hr
        have H7 := Lib.hid (And.intro (H6.out.1.below b5) (bt H6.out.2.2 b5))
        clear hr b5 H6
        go_wp2_with fail
        refine HC3.out.mono ?_
        rintro e w6 ⟨rfl, b6⟩
        have H8 := Lib.hid (And.intro (H7.out.1.below b6) (bt H7.out.2 b6))
        clear b6 H7 HC3
        rcases hn1 : decide (n < 1) with _ | _
        · have hnP : ¬ n < 1 := of_decide_eq_false hn1
          have hr := busy_any g _ _ R.2 _ n w6 H8.out.1 Hn.out
          rw [HR.out, backout_busy (by omega)] at hr
          have HC4 := Lib.hid hr
          clear hr
          go_wp2_with fail
          refine HC4.out.mono ?_
          rintro e w7 ⟨rfl, b7⟩
          have hF := Lib.hid (bt H8.out.2 b7)
          clear b7 HC4
          go_wp2
          go_ret
          exact ⟨rfl, hF.out⟩
        · have hnP : n < 1 := of_decide_eq_true hn1
          have hF := Lib.hid H8.out.2
          go_wp2
          go_ret
          exact ⟨rfl, hF.out⟩
end Go.Proofs.Ytnpoicgincndkaa
