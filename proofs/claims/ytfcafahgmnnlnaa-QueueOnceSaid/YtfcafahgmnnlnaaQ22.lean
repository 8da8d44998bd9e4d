/- Layer 14: the fixed calls, equal lists, how many put, long. -/
import Derived.Test.YtfcafahgmnnlnaaQ21
import Derived.BigQuiet
namespace Go.Proofs.Ytfcafahgmnnlnaa.Qu
open Go.RowKit Go.Maps Go.Deep
set_option linter.unusedVariables false
set_option linter.unusedSimpArgs false

theorem QOk.zero (B : Nat → Prop) : QOk (QS.zero B) := ⟨Nat.zero_le _, Int.le_refl _, by show (0 : Int) + 1 + ((0 : Nat) : Int) ≤ 4611686018427387904; decide⟩
theorem small_ok (x : Int) (h1 : -1000 ≤ x) (h2 : x ≤ 1000) : i64ok x := by unfold i64ok; omega
theorem aliveM : ∃ S1 S2 S3 S4 S5 S6, putM (QS.zero anyB) 1 7 = (0, S1) ∧ commitM S1 1 = (0, S2) ∧ takeM S2 2 = ((7, 0), S3) ∧ takeM S3 3 = ((0, 120), S4) ∧ backM S4 2 = (0, S5) ∧ takeM S5 3 = ((7, 0), S6) ∧ S6.g = 1 :=
  ⟨_, _, _, _, _, _, rfl, rfl, rfl, rfl, rfl, rfl, rfl⟩
set_option maxRecDepth 100000 in
set_option maxHeartbeats 2000000 in
theorem alive_any (w : World) : Calls Try.prog 12 #[] w fun e w' => e = .returned (.bool true) ∧ Below w.heap.size w w' := by
  obtain ⟨S1, S2, S3, S4, S5, S6, e1, e2, e3, e4, e5, e6, e7⟩ := aliveM
  have q1 : S1.B = anyB := by have := putM_B (QS.zero anyB) 1 7; rw [e1] at this; exact this
  have q2 : S2.B = anyB := by have := commitM_B S1 1; rw [e2] at this; exact this.trans q1
  have q3 : S3.B = anyB := by have := takeM_B S2 2; rw [e3] at this; exact this.trans q2
  have q4 : S4.B = anyB := by have := takeM_B S3 3; rw [e4] at this; exact this.trans q3
  have q5 : S5.B = anyB := by have := backM_B S4 2; rw [e5] at this; exact this.trans q4
  have k1 : QOk S1 := by have := (QOk.zero anyB).put List.Pairwise.nil 1 7; rw [e1] at this; exact this
  have E := Lib.hid (And.intro e1 (And.intro e2 (And.intro e3 (And.intro e4 (And.intro e5 (And.intro e6 e7))))))
  have EQ := Lib.hid (And.intro q1 (And.intro q2 (And.intro q3 (And.intro q4 (And.intro q5 k1)))))
  clear e1 e2 e3 e4 e5 e6 e7 q1 q2 q3 q4 q5 k1
  obtain ⟨g, hg⟩ : ∃ g, g = w.heap.size := ⟨_, rfl⟩
  have HG := Lib.hid hg
  go_enter Try.func12, Try.ntmps12
  go_wp2_with fail
  refine (new_any anyB w).mono ?_
  rintro e w1 ⟨rfl, ⟨cs, hk⟩, b1⟩
  rw [← hg] at hk ⊢
  clear hg
  have hr := put_any g 0 _ cs _ 0 1 7 w1 hk (by omega) (small_ok _ (by omega) (by omega)) (fun b _ => trivial)
  rw [E.out.1] at hr
  have HC1 := Lib.hid hr
  have HB1 := Lib.hid b1
  clear hk b1 hr
  go_wp2_with fail
  refine HC1.out.mono ?_
  rintro e w2 ⟨rfl, ⟨⟨cs2, hk2, _⟩, hg2⟩⟩
  have hB2 := HB1.out.grown hg2 HB1.out.size (fun r e => by cases e; have := HG.out; omega)
  have hr := commit_any g 0 _ cs2 S1 1 1 w2 hk2 EQ.out.2.2.2.2.2 (by omega) (small_ok _ (by omega) (by omega))
  rw [E.out.2.1] at hr
  have HC2 := Lib.hid hr
  have HB2 := Lib.hid hB2
  clear hk2 hg2 hB2 hr
  go_wp2_with fail
  refine HC2.out.mono ?_
  rintro e w3 ⟨rfl, ⟨⟨cs3, hk3, _⟩, hg3⟩⟩
  have hB3 := HB2.out.grown hg3 HB2.out.size (fun r e => by cases e; have := HG.out; omega)
  have hr := take_any g 0 _ cs3 S2 1 2 w3 hk3 (by omega) (small_ok _ (by omega) (by omega)) (fun b _ => by rw [EQ.out.2.1]; trivial)
  rw [E.out.2.2.1] at hr
  have HC3 := Lib.hid hr
  have HB3 := Lib.hid hB3
  clear hk3 hg3 hB3 hr
  go_wp2_with fail
  refine HC3.out.mono ?_
  rintro e w4 ⟨rfl, ⟨⟨cs4, hk4, _⟩, hg4⟩⟩
  have hB4 := HB3.out.grown hg4 HB3.out.size (fun r e => by cases e; have := HG.out; omega)
  have hr := take_any g 0 _ cs4 S3 2 3 w4 hk4 (by omega) (small_ok _ (by omega) (by omega)) (fun b _ => by rw [EQ.out.2.2.1]; trivial)
  rw [E.out.2.2.2.1] at hr
  have HC4 := Lib.hid hr
  have HB4 := Lib.hid hB4
  clear hk4 hg4 hB4 hr
  go_wp2_with fail
  refine HC4.out.mono ?_
  rintro e w5 ⟨rfl, ⟨⟨cs5, hk5, _⟩, hg5⟩⟩
  have hB5 := HB4.out.grown hg5 HB4.out.size (fun r e => by cases e; have := HG.out; omega)
  have hr := backout_any g 0 _ cs5 S4 3 2 w5 hk5 (small_ok _ (by omega) (by omega))
  rw [E.out.2.2.2.2.1] at hr
  have HC5 := Lib.hid hr
  have HB5 := Lib.hid hB5
  clear hk5 hg5 hB5 hr
  go_wp2_with fail
  refine HC5.out.mono ?_
  rintro e w6 ⟨rfl, ⟨⟨cs6, hk6, _⟩, hg6⟩⟩
  have hB6 := HB5.out.grown hg6 HB5.out.size (fun r e => by cases e; have := HG.out; omega)
  have hr := take_any g 0 _ cs6 S5 3 3 w6 hk6 (by omega) (small_ok _ (by omega) (by omega)) (fun b _ => by rw [EQ.out.2.2.2.2.1]; trivial)
  rw [E.out.2.2.2.2.2.1] at hr
  have HC6 := Lib.hid hr
  have HB6 := Lib.hid hB6
  clear hk6 hg6 hB6 hr
  go_wp2_with fail
  refine HC6.out.mono ?_
  rintro e w7 ⟨rfl, ⟨⟨cs7, hk7, _⟩, hg7⟩⟩
  have hB7 := HB6.out.grown hg7 HB6.out.size (fun r e => by cases e; have := HG.out; omega)
  have hr := next_any g 0 _ cs7 S6 4 w7 hk7
  rw [E.out.2.2.2.2.2.2] at hr
  have HC7 := Lib.hid hr
  have HB7 := Lib.hid hB7
  clear hk7 hg7 hB7 hr
  go_wp2_with fail
  refine HC7.out.mono ?_
  rintro e w8 ⟨rfl, rfl⟩
  go_wp2
  go_ret
  exact ⟨rfl, HB7.out⟩
set_option maxRecDepth 100000 in
set_option maxHeartbeats 2000000 in
theorem same_any (A A' : Option Addr) (zs zs' : List Nat) (n n' c c' : Nat) (w : World) (hn : Hid (n = zs.length)) (hn' : Hid (n' = zs'.length)) (hm : n ≤ 9223372036854775807) (h : UAt w A zs) (h' : UAt w A' zs') :
    Calls Try.prog 16 #[.slice A n c, .slice A' n' c'] w fun e w' => e = .returned (.bool (decide (zs = zs'))) ∧ Below w.heap.size w w' := by
  by_cases hnn : n = n'
  · subst hnn
    have HI : Hid (Below w.heap.size w w ∧ ∀ k, k < 0 → zs[k]? = zs'[k]?) := Lib.hid ⟨Below.refl _ _, fun k hk => by omega⟩
    have H := Lib.hid (And.intro h h')
    clear h h'
    have hnn : ((n : Int) != (n : Int)) = false := by simp
    obtain ⟨r, hr⟩ : ∃ r, r = decide (zs = zs') := ⟨_, rfl⟩
    rw [← hr]
    have HR := Lib.hid hr
    clear hr
    go_enter Try.func16, Try.ntmps16
    go_wp2_with fail
    go_loopw [5] (fun i wr => ∃ (i0 : Nat), i0 ≤ n ∧ i = .int .i64 i0 ∧ Hid (Below w.heap.size w wr ∧ ∀ k, k < i0 → zs[k]? = zs'[k]?)) (fun i _ => n - (intOf i).toNat)
    case atStart => exact ⟨0, Nat.zero_le _, rfl, HI⟩
    case round =>
      clear HI
      obtain ⟨j, hj, rfl, HW⟩ := hrel
      by_cases hjn : j < n
      · have hjI : (j : Int) < (n : Int) := by omega
        have hjl : j < zs.length := by rw [← hn.out]; exact hjn
        have hjl' : j < zs'.length := by rw [← hn'.out]; exact hjn
        obtain ⟨b, o, rfl, hbk, hcs⟩ := H.out.1.below HW.out.1 (by omega)
        obtain ⟨b', o', rfl, hbk', hcs'⟩ := H.out.2.below HW.out.1 (by omega)
        have q0 := hcs j hjl
        have p0 := hcs' j hjl'
        obtain ⟨x, hx⟩ : ∃ x, x = zs[j]'hjl := ⟨_, rfl⟩
        obtain ⟨y, hy⟩ : ∃ y, y = zs'[j]'hjl' := ⟨_, rfl⟩
        rw [← hx] at q0
        rw [← hy] at p0
        have e0 := fun m : Nat => cell_drew' q0 m
        have d0 := fun m : Nat => cell_drew' p0 m
        have hdr : ∀ m : Nat, Below wr.heap.size wr (wr.drewN m) := fun m => ⟨rfl, rfl, rfl, Nat.le_refl _, fun _ _ => rfl⟩
        by_cases hxy : x = y
        · subst hxy
          have hne : ((x : Int) != (x : Int)) = false := by simp
          have HX : Hid (∀ m : Nat, Below w.heap.size w (wr.drewN m) ∧ ∀ k, k < j + 1 → zs[k]? = zs'[k]?) := Lib.hid fun m => ⟨bt HW.out.1 (hdr m), fun k hk => by
            by_cases e : k = j
            · subst e; rw [List.getElem?_eq_getElem hjl, List.getElem?_eq_getElem hjl', ← hx, ← hy]
            · exact HW.out.2 k (by omega)⟩
          clear hbk hbk' hcs hcs' hjl hjl' q0 p0 HW hdr hx hy
          go_wp2_with fail
          go_quiet (fail)
          have HX2 := Lib.hid (HX.out nq)
          clear e0 d0 HX
          go_wp2
          go_roundw
          case rel => exact ⟨j + 1, by omega, by go_num, HX2⟩
          case measure => simp [intOf]; omega
        · have hne : ((x : Int) != (y : Int)) = true := by simp; omega
          have HX : Hid (r = false ∧ ∀ m : Nat, Below w.heap.size w (wr.drewN m)) := Lib.hid ⟨by
            rw [HR.out]
            refine decide_eq_false fun e => hxy ?_
            subst e
            rw [hx, hy], fun m => bt HW.out.1 (hdr m)⟩
          clear hbk hbk' hcs hcs' hjl hjl' q0 p0 HW hdr hx hy hxy
          go_wp2_with fail
          go_quiet (fail)
          have HX2 := Lib.hid (HX.out.2 nq)
          clear e0 d0
          go_wp2
          go_ret
          exact ⟨by rw [HX.out.1]; rfl, HX2.out⟩
      · have hjI : ¬ (j : Int) < (n : Int) := by omega
        have hF := Lib.hid (show r = true ∧ Below w.heap.size w wr from ⟨by
          rw [HR.out]
          refine decide_eq_true (List.ext_getElem? fun k => ?_)
          by_cases e : k < j
          · exact HW.out.2 k e
          · rw [List.getElem?_eq_none (by rw [← hn.out]; omega), List.getElem?_eq_none (by rw [← hn'.out]; omega)], HW.out.1⟩)
        clear HW
        go_wp2
        go_ret
        exact ⟨by rw [hF.out.1]; rfl, hF.out.2⟩
  · have hb : ((n : Int) != (n' : Int)) = true := by simp; omega
    have hF : Hid (decide (zs = zs') = false) := Lib.hid (decide_eq_false fun e => hnn (by rw [hn.out, hn'.out, e]))
    clear h h' hnn
    go_enter Try.func16, Try.ntmps16
    go_wp2
    go_ret
    exact ⟨by rw [hF.out]; rfl, Below.refl _ _⟩
theorem putsL_step (l : List Ch) (i : Nat) (h : i < l.length) : putsL (l.take (i + 1)) = putsL (l.take i) + (if (l[i]'h).k = 3 then 1 else 0) := by
  have e2 : l.take (i + 1) = l.take i ++ [l[i]'h] := by rw [List.take_add_one, List.getElem?_eq_getElem h]; rfl
  rw [e2, putsL_snoc]
set_option maxRecDepth 100000 in
set_option maxHeartbeats 2000000 in
theorem refputs_any (A : Option Addr) (l : List Ch) (n c : Nat) (w : World) (hn : Hid (n = l.length)) (hm : n ≤ 1000000) (h : InL w A l) :
    Calls Try.prog 27 #[.slice A n c] w fun e w' => e = .returned (.int .i64 (putsL l : Nat)) ∧ Below w.heap.size w w' := by
  obtain ⟨pz, hpz⟩ : ∃ pz, pz = putsL l := ⟨_, rfl⟩
  rw [← hpz]
  have HP := Lib.hid hpz
  clear hpz
  go_enter Try.func27, Try.ntmps27
  go_wp2_with fail
  go_loopw [3, 4] (fun v i wr => ∃ (i0 k : Nat), i0 ≤ n ∧ k ≤ i0 ∧ v = .int .i64 k ∧ i = .int .i64 i0 ∧ Hid (k = putsL (l.take i0) ∧ Below w.heap.size w wr)) (fun _ i _ => n - (intOf i).toNat)
  case atStart => exact ⟨0, 0, Nat.zero_le _, Nat.le_refl _, rfl, rfl, Lib.hid ⟨rfl, Below.refl _ _⟩⟩
  case round =>
    obtain ⟨j, k, hj, hkj, rfl, rfl, HW⟩ := hrel
    by_cases hjn : j < n
    · have hjI : (j : Int) < (n : Int) := by omega
      have hjl : j < l.length := by rw [← hn.out]; exact hjn
      obtain ⟨b, o, rfl, hbk, hcs⟩ := h.below HW.out.2 (by omega)
      have q0 := (hcs j hjl).1
      have hst := putsL_step l j hjl
      generalize l[j]'hjl = x at q0 hst
      obtain ⟨xk, xy, xv⟩ := x
      dsimp only at q0 hst
      by_cases h3 : xk = 3
      · subst h3
        rw [if_pos rfl] at hst
        have HN : Hid (k + 1 = putsL (l.take (j + 1)) ∧ Below w.heap.size w wr) := Lib.hid ⟨by rw [hst, HW.out.1], HW.out.2⟩
        clear hst HW hcs hbk hjl h
        go_wp2
        go_roundw
        case rel => exact ⟨j + 1, k + 1, by omega, by omega, by go_num, by go_num, HN⟩
        case measure => simp [intOf]; omega
      · rw [if_neg h3] at hst
        have HN : Hid (k = putsL (l.take (j + 1)) ∧ Below w.heap.size w wr) := Lib.hid ⟨by rw [hst, HW.out.1]; rfl, HW.out.2⟩
        have h3b : (xk == 3) = false := by simpa using h3
        clear hst HW hcs hbk hjl h h3
        go_wp2
        go_roundw
        case rel => exact ⟨j + 1, k, by omega, by omega, rfl, by go_num, HN⟩
        case measure => simp [intOf]; omega
    · have hjI : ¬ (j : Int) < (n : Int) := by omega
      have hF : Hid (k = pz ∧ Below w.heap.size w wr) := Lib.hid ⟨by rw [HW.out.1, HP.out, List.take_of_length_le (by rw [← hn.out]; omega)], HW.out.2⟩
      clear HW h
      go_wp2
      go_ret
      exact ⟨by rw [hF.out.1]; rfl, hF.out.2⟩
def longB (o : OpV) : Bool := decide (40 < o.l.length) || decide (40 < o.vs.length)
set_option maxRecDepth 100000 in
theorem long_any (o : OpV) (w : World) : Calls Try.prog 11 #[o.val] w fun e w' => e = .returned (.bool (longB o)) ∧ Below w.heap.size w w' := by
  obtain ⟨k, n, x, v, A, l, c, VA, vs, vc⟩ := o
  show Calls Try.prog _ #[.agg #[.int .i64 k, .int .i64 n, .int .i64 x, .int .u64 (v : Nat), .slice A l.length c, .slice VA vs.length vc]] w fun e w' => e = .returned (.bool (decide (40 < l.length) || decide (40 < vs.length))) ∧ Below w.heap.size w w'
  generalize l.length = q
  generalize vs.length = vq
  have HB := Lib.hid (ba w (.cells #[.int .i64 k, .int .i64 n, .int .i64 x, .int .u64 (v : Nat), .slice A q c, .slice VA vq vc] 35))
  by_cases h1 : 40 < q
  · have h1I : (40 : Int) < (q : Int) := by omega
    have hR : Hid ((decide (40 < q) || decide (40 < vq)) = true) := Lib.hid (by simp [h1])
    clear h1
    go_enter Try.func11, Try.ntmps11
    go_wp2
    go_ret
    exact ⟨by rw [hR.out]; rfl, HB.out⟩
  · have h1I : ¬ (40 : Int) < (q : Int) := by omega
    have hR : Hid ((decide (40 < q) || decide (40 < vq)) = decide ((40 : Int) < (vq : Int))) := Lib.hid (by rw [decide_eq_false h1, Bool.false_or]; congr 1; apply propext; omega)
    clear h1
    go_enter Try.func11, Try.ntmps11
    go_wp2
    go_ret
    exact ⟨by rw [hR.out]; rfl, HB.out⟩
end Go.Proofs.Ytfcafahgmnnlnaa.Qu
