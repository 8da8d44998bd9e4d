/- Parts Sz of one proof. -/
import Derived.Test.YtlliaihmfimdoaaGreatMg36
namespace Go.Proofs.YtlliaihmfimdoaaGreat.Re
open Go.RowKit Go.Maps Go.Joins Go.Deep Go.Proofs.YtlliaihmfimdoaaGreat
set_option linter.unusedVariables false
set_option linter.unusedSimpArgs false

theorem risF_all : ∀ (P : List (Int × Nat)) (lo : Int), 0 ≤ lo → risF lo P = true → ∀ p ∈ P, lo ≤ p.1 ∧ p.1 < 16
  | [], _, _, _ => fun p hp => nomatch hp
  | y :: r, lo, h0, h => by
    unfold risF at h
    by_cases e : y.1 < lo ∨ 16 ≤ y.1
    · rw [if_pos e] at h; cases h
    · rw [if_neg e] at h
      intro p hp
      rcases List.mem_cons.1 hp with rfl | hp
      · omega
      · have := risF_all r (y.1 + 1) (by omega) h p hp
        omega
def loadN (nx : Int) (q' : Nat) : Int := if nx = 0 ∧ q' = 0 then 1 else nx
def putsR (S : RS) (P : List (Int × Nat)) : RS := P.foldl (fun S p => (putR S 1 p.1 p.2).2) S
def loadS (vs : List Nat) (nx : Int) : RS := { RS.zero anyB with Q := (Qu.loadM (Qu.QS.zero anyB) vs (loadN nx vs.length)).2 }
def loadE (P : List (Int × Nat)) (vs : List Nat) (nx : Int) : Int := if risF 0 P = false then 3 else (Qu.loadM (Qu.QS.zero anyB) vs (loadN nx vs.length)).1
def loadR (P : List (Int × Nat)) (vs : List Nat) (nx : Int) : RS := (commitR (putsR (loadS vs nx) P) 1).2
theorem putR_B (S : RS) (n y : Int) (v : Nat) : (putR S n y v).2.K.B = S.K.B ∧ (putR S n y v).2.Q = S.Q := by
  unfold putR; split
  · exact ⟨rfl, rfl⟩
  · exact ⟨changeM_B _ _ _, rfl⟩
theorem putsR_B : ∀ (P : List (Int × Nat)) (S : RS), (putsR S P).K.B = S.K.B ∧ (putsR S P).Q = S.Q
  | [], S => ⟨rfl, rfl⟩
  | p :: r, S => by
    have h1 := putR_B S 1 p.1 p.2
    have h2 := putsR_B r (putR S 1 p.1 p.2).2
    exact ⟨h2.1.trans h1.1, h2.2.trans h1.2⟩
theorem putsR_snoc (S : RS) (P : List (Int × Nat)) (i : Nat) (h : i < P.length) : putsR S (P.take (i + 1)) = (putR (putsR S (P.take i)) 1 (P[i]'h).1 (P[i]'h).2).2 := by
  unfold putsR
  rw [List.take_add_one, List.getElem?_eq_getElem h, List.foldl_append]; rfl
/-- What Load leaves. -/
def LoadO (w : World) (P : List (Int × Nat)) (vs : List Nat) (nx : Int) (e : Ending) (w' : World) : Prop :=
  Below w.heap.size w w' ∧ ((loadE P vs nx ≠ 0 ∧ e = .returned (.tuple #[.pointer none, .int .i64 (loadE P vs nx)])) ∨ (loadE P vs nx = 0 ∧ ∃ g cs, e = .returned (.tuple #[.pointer (some ⟨g, 0, none⟩), .int .i64 0]) ∧ w.heap.size ≤ g ∧ ResAt w' g cs (loadR P vs nx) 2000))
set_option maxRecDepth 100000 in
set_option maxHeartbeats 2000000 in
theorem resload_any (A A' : Option Addr) (q c q' c' : Nat) (nx : Int) (P : List (Int × Nat)) (vs : List Nat) (w : World) (hq : Hid (q = P.length)) (hq' : Hid (q' = vs.length)) (hm : q ≤ 1000 ∧ q' ≤ 1000) (hP : InRp w A P) (hU : Qu.UAt w A' vs) :
    Calls Tryz.prog 20 #[.agg #[.slice A q c, .slice A' q' c', .int .i64 nx]] w (LoadO w P vs nx) := by
  obtain ⟨w1, hw1⟩ : ∃ w1, w1 = w.alloc (.cells #[.slice A q c, .slice A' q' c', .int .i64 nx] 58) := ⟨_, rfl⟩
  have b1 : Below w.heap.size w w1 := by rw [hw1]; exact ba _ _
  obtain ⟨gi, hgi⟩ : ∃ gi, gi = w.heap.size := ⟨_, rfl⟩
  have k1 : Blk w1 gi 58 #[.slice A q c, .slice A' q' c', .int .i64 nx] := by rw [hw1, hgi]; exact Blk.new _ _ _
  have HR1 := Lib.hid (rising_any A q c P w1 hq (by omega) (hP.below b1))
  have H1 := Lib.hid (And.intro b1 (And.intro k1 (And.intro (hP.below b1) (hU.below b1))))
  have HG := Lib.hid hgi
  have HW := Lib.hid hw1
  obtain ⟨R, hR⟩ : ∃ R, R = risF 0 P := ⟨_, rfl⟩
  rw [← hR] at HR1
  have HRv := Lib.hid hR
  have a0 := k1.cell 0
  simp only [List.getElem?_toArray, List.getElem?_cons_zero] at a0
  rw [hw1, hgi] at a0
  have H0 := Lib.hid hP
  clear hP hU b1 k1 hw1 hgi hR
  cases R with
  | false =>
    have HE : Hid (loadE P vs nx = 3) := Lib.hid (if_pos HRv.out.symm)
    go_enter Tryz.func20, Tryz.ntmps20
    go_wp2_with fail
    rw [← HW.out]
    refine HR1.out.mono ?_
    rintro e w2 ⟨rfl, b2⟩
    have HX : Hid (LoadO w P vs nx (.returned (.tuple #[.pointer none, .int .i64 3])) w2) := Lib.hid ⟨bt H1.out.1 b2, .inl ⟨by rw [HE.out]; decide, by rw [HE.out]⟩⟩
    clear b2 a0
    go_wp2
    go_returns
    exact HX.out
  | true =>
    obtain ⟨nn, hnn⟩ : ∃ nn, nn = loadN nx q' := ⟨_, rfl⟩
    have hcase : (nx = 0 ∧ q' = 0 ∧ nn = 1) ∨ (nx = 0 ∧ 0 < q' ∧ nn = nx) ∨ (nx ≠ 0 ∧ nn = nx) := by
      rw [hnn]; unfold loadN
      by_cases e1 : nx = 0
      · by_cases e2 : q' = 0
        · exact .inl ⟨e1, e2, if_pos ⟨e1, e2⟩⟩
        · exact .inr (.inl ⟨e1, by omega, if_neg (fun h => e2 h.2)⟩)
      · exact .inr (.inr ⟨e1, if_neg (fun h => e1 h.1)⟩)
    rcases hcase with ⟨h0, h1, hn1⟩ | ⟨h0, h1, hn1⟩ | ⟨h0, hn1⟩
    · subst h0 h1
      have HNn := Lib.hid hn1
      have HE : Hid (loadE P vs 0 = (Qu.loadM (Qu.QS.zero anyB) vs (loadN 0 0)).1) := Lib.hid (by rw [hq'.out]; exact if_neg (by rw [← HRv.out]; simp))
      have HS : Hid (loadS vs 0 = { RS.zero anyB with Q := (Qu.loadM (Qu.QS.zero anyB) vs (loadN 0 0)).2 }) := Lib.hid (by rw [hq'.out]; rfl)
      rw [← hnn] at HE HS
      clear hn1 hnn
      obtain ⟨L, hL⟩ : ∃ L, L = Qu.loadM (Qu.QS.zero anyB) vs nn := ⟨_, rfl⟩
      rw [← hL] at HE HS
      have HL := Lib.hid hL
      obtain ⟨er, Q1⟩ := L
      dsimp only at HE HS
      clear hL
      go_enter Tryz.func20, Tryz.ntmps20
      go_wp2_with fail
      rw [← HW.out]
      refine HR1.out.mono ?_
      rintro e w2 ⟨rfl, b2⟩
      have H2 := Lib.hid (And.intro (bt H1.out.1 b2) (And.intro (H1.out.2.1.below b2 H1.out.2.1.lt) (And.intro (H1.out.2.2.1.below b2) (H1.out.2.2.2.below b2))))
      have c1 := H2.out.2.1.cell 1
      have c2 := H2.out.2.1.cell 2
      simp only [List.getElem?_toArray, List.getElem?_cons_zero, List.getElem?_cons_succ] at c1 c2
      rw [HG.out] at c1 c2
      clear b2 a0
      go_wp2_with fail
      refine (newres_any anyB w2).mono ?_
      rintro e w3 ⟨rfl, ⟨cs, hz⟩, b3⟩
      obtain ⟨g, hg⟩ : ∃ g, g = w2.heap.size := ⟨_, rfl⟩
      rw [← hg] at hz ⊢
      have H3 := Lib.hid (And.intro (bt H2.out.1 b3) (And.intro (H2.out.2.1.below b3 H2.out.2.1.lt) (And.intro (H2.out.2.2.1.below b3) (And.intro (H2.out.2.2.2.below b3) (And.intro hz (And.intro hg H2.out.1))))))
      have HLd : Hid (∀ u, Below w3.heap.size w3 u → Calls Tryz.prog 54 #[.pointer (some ⟨g, 34, none⟩), .slice A' 0 c', .int .i64 nn] u fun e w' => e = .returned (.int .i64 er) ∧ Qu.QO u g 34 102 cs Q1 0 w') := Lib.hid fun u hu => by
        have := Qu.load_any g 34 102 cs (Qu.QS.zero anyB) 0 A' vs 0 c' nn u (H3.out.2.2.2.2.1.below hu).qu hq' (H3.out.2.2.2.1.below hu)
        rw [← HL.out] at this
        exact this
      have d1 := H3.out.2.1.cell 1
      simp only [List.getElem?_toArray, List.getElem?_cons_zero, List.getElem?_cons_succ] at d1
      rw [HG.out] at d1
      clear hz hg b3 c1 c2
      rw [HNn.out] at HLd
      go_wp2_with fail
      go_region_with (go_simp; go_at_call 54; refine (HLd.out _ (by first | exact Below.refl _ _ | exact ⟨rfl, rfl, rfl, Nat.le_refl _, fun _ _ => rfl⟩)).mono ?_; rintro e w4 ⟨rfl, hQO⟩)
      all_goals
        have bd : Below w3.heap.size w3 w3.drew := ⟨rfl, rfl, rfl, Nat.le_refl _, fun _ _ => rfl⟩
        have hRO : ResO w3.drew g (loadS vs 0) 0 w4 := by rw [HS.out]; exact (H3.out.2.2.2.2.1.below bd).qturn (by first | exact hQO | exact hQO) (Nat.le_refl _)
        obtain ⟨⟨cs4, hr4⟩, hg4⟩ := hRO
        have hgl : w.heap.size ≤ g := by rw [H3.out.2.2.2.2.2.1]; exact H2.out.1.size
        have hgi : gi ≠ g := fun e => by have h1 := H2.out.2.1.lt; have h2 := H3.out.2.2.2.2.2.1; omega
        have b4 : Below w.heap.size w w4 := (bt H3.out.1 bd).grown hg4 (bt H3.out.1 bd).size (fun r e => by cases e; exact hgl)
        have k4 := (H3.out.2.1.below bd H3.out.2.1.lt).kept hg4 (fun e => hgi (Option.some.inj e))
        have z0 := k4.cell 0
        simp only [List.getElem?_toArray, List.getElem?_cons_zero] at z0
        rw [HG.out] at z0
        have H4 : Hid (∃ cs, ResAt w4 g cs (putsR (loadS vs 0) (P.take 0)) 0 ∧ Below w.heap.size w w4) := Lib.hid ⟨cs4, hr4, b4⟩
        have Hgl := Lib.hid hgl
        clear bd hr4 hg4 hgl hgi b4 k4 hQO d1
        by_cases he : er = 0
        · subst he
          go_wp2_with fail
          go_loopw [37] (fun iv wr => ∃ i : Nat, i ≤ q ∧ iv = .int .i64 i ∧ Hid (∃ cs, ResAt wr g cs (putsR (loadS vs 0) (P.take i)) i ∧ Below w.heap.size w wr)) (fun iv _ => q - (intOf iv).toNat)
          case atStart => exact ⟨0, Nat.zero_le _, rfl, H4⟩
          case round =>
            clear H4 z0
            obtain ⟨i, hi, rfl, HR⟩ := hrel
            obtain ⟨cs5, h5, b5⟩ := HR.out
            by_cases hin : i < q
            · have hiI : (i : Int) < (q : Int) := by omega
              have hil : i < P.length := by rw [← hq.out]; exact hin
              obtain ⟨b, o, hA, _, hcs⟩ := (H0.out.below b5) (by omega)
              obtain ⟨q0, q1⟩ := hcs i hil
              have hsn := putsR_snoc (loadS vs 0) P i hil
              have hkb := risF_all P 0 (Int.le_refl _) HRv.out.symm _ (List.getElem_mem hil)
              generalize P[i]'hil = y at q0 q1 hsn hkb
              obtain ⟨yk, yv⟩ := y
              dsimp only at q0 q1 hsn hkb
              obtain ⟨w5, hw5⟩ : ∃ w5, w5 = wr.alloc (.cells #[.int .i64 yk, .int .u64 (yv : Nat)] 85) := ⟨_, rfl⟩
              have ba5 : Below wr.heap.size wr w5 := by rw [hw5]; exact ba _ _
              have hp := Lib.hid (resput_any g cs5 _ i 1 yk yv w5 (h5.below ba5) (by omega) (small_ok _ (by omega) (by omega)) (small_ok _ (by omega) (by omega)) (fun b _ => by rw [(putsR_B _ _).1]; trivial))
              have HB5 := Lib.hid (bt b5 ba5)
              have HW5 := Lib.hid hw5
              have HSn := Lib.hid hsn
              subst hA
              clear hcs hil hsn hkb h5 b5 hw5 ba5 HR
              go_wp2_with fail
              rw [← HW5.out]
              refine hp.out.mono ?_
              rintro e w6 ⟨rfl, ⟨⟨cs6, h6⟩, hg6⟩⟩
              have HN : Hid (∃ cs, ResAt w6 g cs (putsR (loadS vs 0) (P.take (i + 1))) (i + 1) ∧ Below w.heap.size w w6) := Lib.hid ⟨cs6, by rw [HSn.out]; exact h6, HB5.out.grown hg6 HB5.out.size (fun r e => by cases e; exact Hgl.out)⟩
              clear h6 hg6 q0 q1
              go_wp2
              go_roundw
              case rel => exact ⟨i + 1, by omega, by go_num, HN⟩
              case measure => simp [intOf]; omega
            · have hiI : ¬ (i : Int) < (q : Int) := by omega
              have hjj : P.take i = P := List.take_of_length_le (by rw [← hq.out]; omega)
              rw [hjj] at h5
              have hc := Lib.hid (rescommit_any g cs5 _ i 1 wr h5 (by rw [(putsR_B _ _).2]; exact (Qu.QOk.zero anyB).load vs _) (by omega) (small_ok _ (by omega) (by omega)))
              have HB5 := Lib.hid b5
              clear hjj h5 b5 HR
              go_wp2_with fail
              refine hc.out.mono ?_
              rintro e w6 ⟨rfl, ⟨⟨cs6, h6⟩, hg6⟩⟩
              have HX : Hid (LoadO w P vs 0 (.returned (.tuple #[.pointer (some ⟨g, 0, none⟩), .int .i64 0])) w6) := Lib.hid ⟨HB5.out.grown hg6 HB5.out.size (fun r e => by cases e; exact Hgl.out), .inr ⟨HE.out, g, cs6, rfl, Hgl.out, h6.more (by omega)⟩⟩
              clear h6 hg6
              go_wp2
              go_returns
              exact HX.out
        · have heb : (er != 0) = true := by simpa using he
          have HX : Hid (LoadO w P vs 0 (.returned (.tuple #[.pointer none, .int .i64 er])) w4) := Lib.hid ⟨H4.out.choose_spec.2, .inl ⟨by rw [HE.out]; exact he, by rw [HE.out]⟩⟩
          clear he H4 z0
          go_wp2
          go_returns
          exact HX.out
    · subst h0
      have hq0 : ((q' : Int) == 0) = false := beq_eq_false_iff_ne.2 (by omega)
      have HNn := Lib.hid hn1
      have HE : Hid (loadE P vs 0 = (Qu.loadM (Qu.QS.zero anyB) vs (loadN 0 q')).1) := Lib.hid (by rw [hq'.out]; exact if_neg (by rw [← HRv.out]; simp))
      have HS : Hid (loadS vs 0 = { RS.zero anyB with Q := (Qu.loadM (Qu.QS.zero anyB) vs (loadN 0 q')).2 }) := Lib.hid (by rw [hq'.out]; rfl)
      rw [← hnn] at HE HS
      clear hn1 hnn
      obtain ⟨L, hL⟩ : ∃ L, L = Qu.loadM (Qu.QS.zero anyB) vs nn := ⟨_, rfl⟩
      rw [← hL] at HE HS
      have HL := Lib.hid hL
      obtain ⟨er, Q1⟩ := L
      dsimp only at HE HS
      clear hL
      go_enter Tryz.func20, Tryz.ntmps20
      go_wp2_with fail
      rw [← HW.out]
      refine HR1.out.mono ?_
      rintro e w2 ⟨rfl, b2⟩
      have H2 := Lib.hid (And.intro (bt H1.out.1 b2) (And.intro (H1.out.2.1.below b2 H1.out.2.1.lt) (And.intro (H1.out.2.2.1.below b2) (H1.out.2.2.2.below b2))))
      have c1 := H2.out.2.1.cell 1
      have c2 := H2.out.2.1.cell 2
      simp only [List.getElem?_toArray, List.getElem?_cons_zero, List.getElem?_cons_succ] at c1 c2
      rw [HG.out] at c1 c2
      clear b2 a0
      go_wp2_with fail
      refine (newres_any anyB w2).mono ?_
      rintro e w3 ⟨rfl, ⟨cs, hz⟩, b3⟩
      obtain ⟨g, hg⟩ : ∃ g, g = w2.heap.size := ⟨_, rfl⟩
      rw [← hg] at hz ⊢
      have H3 := Lib.hid (And.intro (bt H2.out.1 b3) (And.intro (H2.out.2.1.below b3 H2.out.2.1.lt) (And.intro (H2.out.2.2.1.below b3) (And.intro (H2.out.2.2.2.below b3) (And.intro hz (And.intro hg H2.out.1))))))
      have HLd : Hid (∀ u, Below w3.heap.size w3 u → Calls Tryz.prog 54 #[.pointer (some ⟨g, 34, none⟩), .slice A' q' c', .int .i64 nn] u fun e w' => e = .returned (.int .i64 er) ∧ Qu.QO u g 34 102 cs Q1 0 w') := Lib.hid fun u hu => by
        have := Qu.load_any g 34 102 cs (Qu.QS.zero anyB) 0 A' vs q' c' nn u (H3.out.2.2.2.2.1.below hu).qu hq' (H3.out.2.2.2.1.below hu)
        rw [← HL.out] at this
        exact this
      have d1 := H3.out.2.1.cell 1
      simp only [List.getElem?_toArray, List.getElem?_cons_zero, List.getElem?_cons_succ] at d1
      rw [HG.out] at d1
      clear hz hg b3 c1 c2
      rw [HNn.out] at HLd
      go_wp2_with fail
      go_region_with (go_simp; go_at_call 54; refine (HLd.out _ (by first | exact Below.refl _ _ | exact ⟨rfl, rfl, rfl, Nat.le_refl _, fun _ _ => rfl⟩)).mono ?_; rintro e w4 ⟨rfl, hQO⟩)
      all_goals
        have bd : Below w3.heap.size w3 w3.drew := ⟨rfl, rfl, rfl, Nat.le_refl _, fun _ _ => rfl⟩
        have hRO : ResO w3.drew g (loadS vs 0) 0 w4 := by rw [HS.out]; exact (H3.out.2.2.2.2.1.below bd).qturn (by first | exact hQO | exact hQO) (Nat.le_refl _)
        obtain ⟨⟨cs4, hr4⟩, hg4⟩ := hRO
        have hgl : w.heap.size ≤ g := by rw [H3.out.2.2.2.2.2.1]; exact H2.out.1.size
        have hgi : gi ≠ g := fun e => by have h1 := H2.out.2.1.lt; have h2 := H3.out.2.2.2.2.2.1; omega
        have b4 : Below w.heap.size w w4 := (bt H3.out.1 bd).grown hg4 (bt H3.out.1 bd).size (fun r e => by cases e; exact hgl)
        have k4 := (H3.out.2.1.below bd H3.out.2.1.lt).kept hg4 (fun e => hgi (Option.some.inj e))
        have z0 := k4.cell 0
        simp only [List.getElem?_toArray, List.getElem?_cons_zero] at z0
        rw [HG.out] at z0
        have H4 : Hid (∃ cs, ResAt w4 g cs (putsR (loadS vs 0) (P.take 0)) 0 ∧ Below w.heap.size w w4) := Lib.hid ⟨cs4, hr4, b4⟩
        have Hgl := Lib.hid hgl
        clear bd hr4 hg4 hgl hgi b4 k4 hQO d1
        by_cases he : er = 0
        · subst he
          go_wp2_with fail
          go_loopw [37] (fun iv wr => ∃ i : Nat, i ≤ q ∧ iv = .int .i64 i ∧ Hid (∃ cs, ResAt wr g cs (putsR (loadS vs 0) (P.take i)) i ∧ Below w.heap.size w wr)) (fun iv _ => q - (intOf iv).toNat)
          case atStart => exact ⟨0, Nat.zero_le _, rfl, H4⟩
          case round =>
            clear H4 z0
            obtain ⟨i, hi, rfl, HR⟩ := hrel
            obtain ⟨cs5, h5, b5⟩ := HR.out
            by_cases hin : i < q
            · have hiI : (i : Int) < (q : Int) := by omega
              have hil : i < P.length := by rw [← hq.out]; exact hin
              obtain ⟨b, o, hA, _, hcs⟩ := (H0.out.below b5) (by omega)
              obtain ⟨q0, q1⟩ := hcs i hil
              have hsn := putsR_snoc (loadS vs 0) P i hil
              have hkb := risF_all P 0 (Int.le_refl _) HRv.out.symm _ (List.getElem_mem hil)
              generalize P[i]'hil = y at q0 q1 hsn hkb
              obtain ⟨yk, yv⟩ := y
              dsimp only at q0 q1 hsn hkb
              obtain ⟨w5, hw5⟩ : ∃ w5, w5 = wr.alloc (.cells #[.int .i64 yk, .int .u64 (yv : Nat)] 85) := ⟨_, rfl⟩
              have ba5 : Below wr.heap.size wr w5 := by rw [hw5]; exact ba _ _
              have hp := Lib.hid (resput_any g cs5 _ i 1 yk yv w5 (h5.below ba5) (by omega) (small_ok _ (by omega) (by omega)) (small_ok _ (by omega) (by omega)) (fun b _ => by rw [(putsR_B _ _).1]; trivial))
              have HB5 := Lib.hid (bt b5 ba5)
              have HW5 := Lib.hid hw5
              have HSn := Lib.hid hsn
              subst hA
              clear hcs hil hsn hkb h5 b5 hw5 ba5 HR
              go_wp2_with fail
              rw [← HW5.out]
              refine hp.out.mono ?_
              rintro e w6 ⟨rfl, ⟨⟨cs6, h6⟩, hg6⟩⟩
              have HN : Hid (∃ cs, ResAt w6 g cs (putsR (loadS vs 0) (P.take (i + 1))) (i + 1) ∧ Below w.heap.size w w6) := Lib.hid ⟨cs6, by rw [HSn.out]; exact h6, HB5.out.grown hg6 HB5.out.size (fun r e => by cases e; exact Hgl.out)⟩
              clear h6 hg6 q0 q1
              go_wp2
              go_roundw
              case rel => exact ⟨i + 1, by omega, by go_num, HN⟩
              case measure => simp [intOf]; omega
            · have hiI : ¬ (i : Int) < (q : Int) := by omega
              have hjj : P.take i = P := List.take_of_length_le (by rw [← hq.out]; omega)
              rw [hjj] at h5
              have hc := Lib.hid (rescommit_any g cs5 _ i 1 wr h5 (by rw [(putsR_B _ _).2]; exact (Qu.QOk.zero anyB).load vs _) (by omega) (small_ok _ (by omega) (by omega)))
              have HB5 := Lib.hid b5
              clear hjj h5 b5 HR
              go_wp2_with fail
              refine hc.out.mono ?_
              rintro e w6 ⟨rfl, ⟨⟨cs6, h6⟩, hg6⟩⟩
              have HX : Hid (LoadO w P vs 0 (.returned (.tuple #[.pointer (some ⟨g, 0, none⟩), .int .i64 0])) w6) := Lib.hid ⟨HB5.out.grown hg6 HB5.out.size (fun r e => by cases e; exact Hgl.out), .inr ⟨HE.out, g, cs6, rfl, Hgl.out, h6.more (by omega)⟩⟩
              clear h6 hg6
              go_wp2
              go_returns
              exact HX.out
        · have heb : (er != 0) = true := by simpa using he
          have HX : Hid (LoadO w P vs 0 (.returned (.tuple #[.pointer none, .int .i64 er])) w4) := Lib.hid ⟨H4.out.choose_spec.2, .inl ⟨by rw [HE.out]; exact he, by rw [HE.out]⟩⟩
          clear he H4 z0
          go_wp2
          go_returns
          exact HX.out
    · have hx0 : (nx == 0) = false := beq_eq_false_iff_ne.2 h0
      clear h0
      have HNn := Lib.hid hn1
      have HE : Hid (loadE P vs nx = (Qu.loadM (Qu.QS.zero anyB) vs (loadN nx q')).1) := Lib.hid (by rw [hq'.out]; exact if_neg (by rw [← HRv.out]; simp))
      have HS : Hid (loadS vs nx = { RS.zero anyB with Q := (Qu.loadM (Qu.QS.zero anyB) vs (loadN nx q')).2 }) := Lib.hid (by rw [hq'.out]; rfl)
      rw [← hnn] at HE HS
      clear hn1 hnn
      obtain ⟨L, hL⟩ : ∃ L, L = Qu.loadM (Qu.QS.zero anyB) vs nn := ⟨_, rfl⟩
      rw [← hL] at HE HS
      have HL := Lib.hid hL
      obtain ⟨er, Q1⟩ := L
      dsimp only at HE HS
      clear hL
      go_enter Tryz.func20, Tryz.ntmps20
      go_wp2_with fail
      rw [← HW.out]
      refine HR1.out.mono ?_
      rintro e w2 ⟨rfl, b2⟩
      have H2 := Lib.hid (And.intro (bt H1.out.1 b2) (And.intro (H1.out.2.1.below b2 H1.out.2.1.lt) (And.intro (H1.out.2.2.1.below b2) (H1.out.2.2.2.below b2))))
      have c1 := H2.out.2.1.cell 1
      have c2 := H2.out.2.1.cell 2
      simp only [List.getElem?_toArray, List.getElem?_cons_zero, List.getElem?_cons_succ] at c1 c2
      rw [HG.out] at c1 c2
      clear b2 a0
      go_wp2_with fail
      refine (newres_any anyB w2).mono ?_
      rintro e w3 ⟨rfl, ⟨cs, hz⟩, b3⟩
      obtain ⟨g, hg⟩ : ∃ g, g = w2.heap.size := ⟨_, rfl⟩
      rw [← hg] at hz ⊢
      have H3 := Lib.hid (And.intro (bt H2.out.1 b3) (And.intro (H2.out.2.1.below b3 H2.out.2.1.lt) (And.intro (H2.out.2.2.1.below b3) (And.intro (H2.out.2.2.2.below b3) (And.intro hz (And.intro hg H2.out.1))))))
      have HLd : Hid (∀ u, Below w3.heap.size w3 u → Calls Tryz.prog 54 #[.pointer (some ⟨g, 34, none⟩), .slice A' q' c', .int .i64 nn] u fun e w' => e = .returned (.int .i64 er) ∧ Qu.QO u g 34 102 cs Q1 0 w') := Lib.hid fun u hu => by
        have := Qu.load_any g 34 102 cs (Qu.QS.zero anyB) 0 A' vs q' c' nn u (H3.out.2.2.2.2.1.below hu).qu hq' (H3.out.2.2.2.1.below hu)
        rw [← HL.out] at this
        exact this
      have d1 := H3.out.2.1.cell 1
      simp only [List.getElem?_toArray, List.getElem?_cons_zero, List.getElem?_cons_succ] at d1
      rw [HG.out] at d1
      clear hz hg b3 c1 c2
      rw [HNn.out] at HLd
      go_wp2_with fail
      go_region_with (go_simp; go_at_call 54; refine (HLd.out _ (by first | exact Below.refl _ _ | exact ⟨rfl, rfl, rfl, Nat.le_refl _, fun _ _ => rfl⟩)).mono ?_; rintro e w4 ⟨rfl, hQO⟩)
      all_goals
        have bd : Below w3.heap.size w3 w3.drew := ⟨rfl, rfl, rfl, Nat.le_refl _, fun _ _ => rfl⟩
        have hRO : ResO w3.drew g (loadS vs nx) 0 w4 := by rw [HS.out]; exact (H3.out.2.2.2.2.1.below bd).qturn (by first | exact hQO | exact hQO) (Nat.le_refl _)
        obtain ⟨⟨cs4, hr4⟩, hg4⟩ := hRO
        have hgl : w.heap.size ≤ g := by rw [H3.out.2.2.2.2.2.1]; exact H2.out.1.size
        have hgi : gi ≠ g := fun e => by have h1 := H2.out.2.1.lt; have h2 := H3.out.2.2.2.2.2.1; omega
        have b4 : Below w.heap.size w w4 := (bt H3.out.1 bd).grown hg4 (bt H3.out.1 bd).size (fun r e => by cases e; exact hgl)
        have k4 := (H3.out.2.1.below bd H3.out.2.1.lt).kept hg4 (fun e => hgi (Option.some.inj e))
        have z0 := k4.cell 0
        simp only [List.getElem?_toArray, List.getElem?_cons_zero] at z0
        rw [HG.out] at z0
        have H4 : Hid (∃ cs, ResAt w4 g cs (putsR (loadS vs nx) (P.take 0)) 0 ∧ Below w.heap.size w w4) := Lib.hid ⟨cs4, hr4, b4⟩
        have Hgl := Lib.hid hgl
        clear bd hr4 hg4 hgl hgi b4 k4 hQO d1
        by_cases he : er = 0
        · subst he
          go_wp2_with fail
          go_loopw [37] (fun iv wr => ∃ i : Nat, i ≤ q ∧ iv = .int .i64 i ∧ Hid (∃ cs, ResAt wr g cs (putsR (loadS vs nx) (P.take i)) i ∧ Below w.heap.size w wr)) (fun iv _ => q - (intOf iv).toNat)
          case atStart => exact ⟨0, Nat.zero_le _, rfl, H4⟩
          case round =>
            clear H4 z0
            obtain ⟨i, hi, rfl, HR⟩ := hrel
            obtain ⟨cs5, h5, b5⟩ := HR.out
            by_cases hin : i < q
            · have hiI : (i : Int) < (q : Int) := by omega
              have hil : i < P.length := by rw [← hq.out]; exact hin
              obtain ⟨b, o, hA, _, hcs⟩ := (H0.out.below b5) (by omega)
              obtain ⟨q0, q1⟩ := hcs i hil
              have hsn := putsR_snoc (loadS vs nx) P i hil
              have hkb := risF_all P 0 (Int.le_refl _) HRv.out.symm _ (List.getElem_mem hil)
              generalize P[i]'hil = y at q0 q1 hsn hkb
              obtain ⟨yk, yv⟩ := y
              dsimp only at q0 q1 hsn hkb
              obtain ⟨w5, hw5⟩ : ∃ w5, w5 = wr.alloc (.cells #[.int .i64 yk, .int .u64 (yv : Nat)] 85) := ⟨_, rfl⟩
              have ba5 : Below wr.heap.size wr w5 := by rw [hw5]; exact ba _ _
              have hp := Lib.hid (resput_any g cs5 _ i 1 yk yv w5 (h5.below ba5) (by omega) (small_ok _ (by omega) (by omega)) (small_ok _ (by omega) (by omega)) (fun b _ => by rw [(putsR_B _ _).1]; trivial))
              have HB5 := Lib.hid (bt b5 ba5)
              have HW5 := Lib.hid hw5
              have HSn := Lib.hid hsn
              subst hA
              clear hcs hil hsn hkb h5 b5 hw5 ba5 HR
              go_wp2_with fail
              rw [← HW5.out]
              refine hp.out.mono ?_
              rintro e w6 ⟨rfl, ⟨⟨cs6, h6⟩, hg6⟩⟩
              have HN : Hid (∃ cs, ResAt w6 g cs (putsR (loadS vs nx) (P.take (i + 1))) (i + 1) ∧ Below w.heap.size w w6) := Lib.hid ⟨cs6, by rw [HSn.out]; exact h6, HB5.out.grown hg6 HB5.out.size (fun r e => by cases e; exact Hgl.out)⟩
              clear h6 hg6 q0 q1
              go_wp2
              go_roundw
              case rel => exact ⟨i + 1, by omega, by go_num, HN⟩
              case measure => simp [intOf]; omega
            · have hiI : ¬ (i : Int) < (q : Int) := by omega
              have hjj : P.take i = P := List.take_of_length_le (by rw [← hq.out]; omega)
              rw [hjj] at h5
              have hc := Lib.hid (rescommit_any g cs5 _ i 1 wr h5 (by rw [(putsR_B _ _).2]; exact (Qu.QOk.zero anyB).load vs _) (by omega) (small_ok _ (by omega) (by omega)))
              have HB5 := Lib.hid b5
              clear hjj h5 b5 HR
              go_wp2_with fail
              refine hc.out.mono ?_
              rintro e w6 ⟨rfl, ⟨⟨cs6, h6⟩, hg6⟩⟩
              have HX : Hid (LoadO w P vs nx (.returned (.tuple #[.pointer (some ⟨g, 0, none⟩), .int .i64 0])) w6) := Lib.hid ⟨HB5.out.grown hg6 HB5.out.size (fun r e => by cases e; exact Hgl.out), .inr ⟨HE.out, g, cs6, rfl, Hgl.out, h6.more (by omega)⟩⟩
              clear h6 hg6
              go_wp2
              go_returns
              exact HX.out
        · have heb : (er != 0) = true := by simpa using he
          have HX : Hid (LoadO w P vs nx (.returned (.tuple #[.pointer none, .int .i64 er])) w4) := Lib.hid ⟨H4.out.choose_spec.2, .inl ⟨by rw [HE.out]; exact he, by rw [HE.out]⟩⟩
          clear he H4 z0
          go_wp2
          go_returns
          exact HX.out
end Go.Proofs.YtlliaihmfimdoaaGreat.Re
