/- Parts R19 R20 R21 R22 of one proof. -/
import Derived.Test.YtfcafahgmnnlnaaMg16
import Derived.Test.YtfcafahgmnnlnaaMg13
namespace Go.Proofs.Ytfcafahgmnnlnaa.Qu
open Go.RowKit Go.Maps Go.Joins Go.Deep
set_option linter.unusedVariables false
set_option linter.unusedSimpArgs false

set_option maxRecDepth 100000 in
set_option maxHeartbeats 1000000 in
theorem call_nil (o : OpV) (w : World) (hk0 : 0 ≤ o.k) (hk6 : o.k ≤ 6) :
    Calls Try.prog 13 #[.pointer none, o.val] w fun e w' => e = .returned (.tuple #[.int .u64 ((0 : Nat) : Nat), .slice none 0 0, .int .i64 6]) ∧ Below w.heap.size w w' := by
  obtain ⟨k, n, x, v, A, l, c, VA, vs, vc⟩ := o
  dsimp only at hk0 hk6
  show Calls Try.prog _ #[.pointer none, .agg #[.int .i64 k, .int .i64 n, .int .i64 x, .int .u64 (v : Nat), .slice A l.length c, .slice VA vs.length vc]] w _
  obtain ⟨q, hq⟩ : ∃ q, q = l.length := ⟨_, rfl⟩
  obtain ⟨vq, hvq⟩ : ∃ vq, vq = vs.length := ⟨_, rfl⟩
  rw [← hq, ← hvq]
  obtain ⟨w1, hw1⟩ : ∃ w1, w1 = w.alloc (.cells #[.int .i64 k, .int .i64 n, .int .i64 x, .int .u64 (v : Nat), .slice A q c, .slice VA vq vc] 35) := ⟨_, rfl⟩
  have b1 : Below w.heap.size w w1 := by rw [hw1]; exact ba _ _
  have k1 : Blk w1 w.heap.size 35 #[.int .i64 k, .int .i64 n, .int .i64 x, .int .u64 (v : Nat), .slice A q c, .slice VA vq vc] := by rw [hw1]; exact Blk.new _ _ _
  have d0 := k1.cell 0
  have d1 := k1.cell 1
  have d2 := k1.cell 2
  have d3 := k1.cell 3
  have d4 := k1.cell 4
  have d5 := k1.cell 5
  simp only [List.getElem?_toArray, List.getElem?_cons_zero, List.getElem?_cons_succ] at d0 d1 d2 d3 d4 d5
  have HB1 := Lib.hid b1
  have HW := Lib.hid hw1
  rw [hw1] at d0 d1 d2 d3 d4 d5
  clear hq hvq hw1 b1 k1
  rcases e0 : (k == 0) with _ | _
  · skip
    rcases e1 : (k == 1) with _ | _
    · skip
      rcases e2 : (k == 2) with _ | _
      · skip
        rcases e3 : (k == 3) with _ | _
        · skip
          rcases e4 : (k == 4) with _ | _
          · skip
            rcases e5 : (k == 5) with _ | _
            · skip
              rcases e6 : (k == 6) with _ | _
              · skip
                have n0 : k ≠ 0 := by simpa using e0
                have n1 : k ≠ 1 := by simpa using e1
                have n2 : k ≠ 2 := by simpa using e2
                have n3 : k ≠ 3 := by simpa using e3
                have n4 : k ≠ 4 := by simpa using e4
                have n5 : k ≠ 5 := by simpa using e5
                have n6 : k ≠ 6 := by simpa using e6
                omega
              · obtain rfl : k = 6 := by simpa using e6
                go_enter Try.func13, Try.ntmps13
                go_wp2_with fail
                rw [← HW.out]
                refine (load_nil VA vq vc x w1).mono ?_
                rintro e w2 ⟨rfl, rfl⟩
                have HX := HB1
                go_wp2
                go_returns
                exact ⟨rfl, HX.out⟩
            · obtain rfl : k = 5 := by simpa using e5
              go_enter Try.func13, Try.ntmps13
              go_wp2_with fail
              rw [← HW.out]
              refine (rest_nil n A q c w1).mono ?_
              rintro e w2 ⟨rfl, rfl⟩
              have HX := HB1
              go_wp2
              go_returns
              exact ⟨rfl, HX.out⟩
          · obtain rfl : k = 4 := by simpa using e4
            go_enter Try.func13, Try.ntmps13
            go_wp2_with fail
            rw [← HW.out]
            refine (backout_nil n w1).mono ?_
            rintro e w2 ⟨rfl, b2⟩
            have HX := Lib.hid (bt HB1.out b2)
            clear b2
            go_wp2
            go_returns
            exact ⟨rfl, HX.out⟩
        · obtain rfl : k = 3 := by simpa using e3
          go_enter Try.func13, Try.ntmps13
          go_wp2_with fail
          rw [← HW.out]
          refine (commit_nil n w1).mono ?_
          rintro e w2 ⟨rfl, b2⟩
          have HX := Lib.hid (bt HB1.out b2)
          clear b2
          go_wp2
          go_returns
          exact ⟨rfl, HX.out⟩
      · obtain rfl : k = 2 := by simpa using e2
        go_enter Try.func13, Try.ntmps13
        go_wp2_with fail
        rw [← HW.out]
        refine (prep_nil n w1).mono ?_
        rintro e w2 ⟨rfl, rfl⟩
        have HX := HB1
        go_wp2
        go_returns
        exact ⟨rfl, HX.out⟩
    · obtain rfl : k = 1 := by simpa using e1
      go_enter Try.func13, Try.ntmps13
      go_wp2_with fail
      rw [← HW.out]
      refine (take_nil n w1).mono ?_
      rintro e w2 ⟨rfl, rfl⟩
      have HX := HB1
      go_wp2
      go_returns
      exact ⟨rfl, HX.out⟩
  · obtain rfl : k = 0 := by simpa using e0
    go_enter Try.func13, Try.ntmps13
    go_wp2_with fail
    rw [← HW.out]
    refine (put_nil n v w1).mono ?_
    rintro e w2 ⟨rfl, rfl⟩
    have HX := HB1
    go_wp2
    go_returns
    exact ⟨rfl, HX.out⟩
theorem callM_len (S : QS) (o : OpV) (N : Nat) (h : ∀ n, (curQ S.ws n).1.length ≤ N) : (callM S o).1.2.1.length ≤ N := by
  unfold callM
  split
  · simp
  split
  · simp
  split
  · unfold prepM
    split
    · simp
    split
    · simp
    · exact h o.n
  split
  · simp
  split
  · simp
  split
  · simp
  split
  · simp
  · simp
end Go.Proofs.Ytfcafahgmnnlnaa.Qu

namespace Go.Proofs.Ytfcafahgmnnlnaa.Qu
open Go.RowKit Go.Maps Go.Joins Go.Deep
set_option linter.unusedVariables false
set_option linter.unusedSimpArgs false

theorem RH.bel {w a u : World} {x : Nat} {S : Nat → Prop} (h : RH w.heap.size a u x S) (hb : Below w.heap.size w a) (hx : w.heap.size ≤ x) : Below w.heap.size w u :=
  ⟨h.os.trans hb.os, h.tape.trans hb.tape, h.output.trans hb.output, Nat.le_trans hb.size h.size, fun j hj => (h.low j hj (Nat.lt_of_lt_of_le hj hb.size) (by omega)).trans (hb.block j hj)⟩
set_option maxRecDepth 100000 in
set_option maxHeartbeats 2000000 in
theorem queueNobody_walk (o : OpV) (w : World) (hin : OpIn w o) :
    Calls Try.prog 4 #[o.val] w fun e w' => e = .returned (.bool true) ∧ Below w.heap.size w w' := by
  obtain ⟨ho, ⟨hq0, hL⟩, hv0, hz⟩ := hin
  obtain ⟨ov, hov⟩ : ∃ ov, ov = o := ⟨_, rfl⟩
  obtain ⟨k, n, y, v, A, l, c, VA, vs, vc⟩ := o
  dsimp only at hL hq0 hv0 hz ho
  show Calls Try.prog _ #[.agg #[.int .i64 k, .int .i64 n, .int .i64 y, .int .u64 (v : Nat), .slice A l.length c, .slice VA vs.length vc]] w _
  obtain ⟨q, hq⟩ : ∃ q, q = l.length := ⟨_, rfl⟩
  obtain ⟨vq, hvq⟩ : ∃ vq, vq = vs.length := ⟨_, rfl⟩
  rw [← hq, ← hvq]
  obtain ⟨w1, hw1⟩ : ∃ w1, w1 = w.alloc (.cells #[.int .i64 k, .int .i64 n, .int .i64 y, .int .u64 (v : Nat), .slice A q c, .slice VA vq vc] 35) := ⟨_, rfl⟩
  have b1 : Below w.heap.size w w1 := by rw [hw1]; exact ba _ _
  have k1 : Blk w1 w.heap.size 35 #[.int .i64 k, .int .i64 n, .int .i64 y, .int .u64 (v : Nat), .slice A q c, .slice VA vq vc] := by rw [hw1]; exact Blk.new _ _ _
  obtain ⟨gO, hgO⟩ : ∃ gO, gO = w.heap.size := ⟨_, rfl⟩
  rw [← hgO] at k1
  have hval : ov.val = .agg #[.int .i64 k, .int .i64 n, .int .i64 y, .int .u64 (v : Nat), .slice A q c, .slice VA vq vc] := by rw [hov, hq, hvq]; rfl
  have hov2 : ov.k = k ∧ ov.n = n := by rw [hov]; exact ⟨rfl, rfl⟩
  have hLv : InL w ov.A ov.l ∧ UAt w ov.VA ov.vs ∧ i64ok ov.n := by rw [hov]; exact ⟨hL, hz, ho⟩
  have HA := Lib.hid (And.intro hLv (And.intro hval hov2))
  have HB1 := Lib.hid b1
  have HK1 := Lib.hid k1
  have HW := Lib.hid hw1
  have HgO := Lib.hid hgO
  have d0 := k1.cell 0
  have d1 := k1.cell 1
  have d2 := k1.cell 2
  have d3 := k1.cell 3
  have d4 := k1.cell 4
  have d5 := k1.cell 5
  simp only [List.getElem?_toArray, List.getElem?_cons_zero, List.getElem?_cons_succ] at d0 d1 d2 d3 d4 d5
  have HLo := long_any ov w1
  rw [hval] at HLo
  have HLo := Lib.hid HLo
  obtain ⟨lb, hlb⟩ : ∃ lb, lb = longB ov := ⟨_, rfl⟩
  rw [← hlb] at HLo
  have HLb := Lib.hid hlb
  rw [hw1, hgO] at d0 d1 d2 d3 d4 d5
  clear hov hval hov2 ho hLv b1 k1 hw1 hgO hL hq0 hq hvq hv0 hz hlb
  go_enter Try.func4, Try.ntmps4
  go_wp2_with fail
  rw [← HW.out]
  refine HLo.out.mono ?_
  rintro e w1' ⟨rfl, b1'⟩
  have k1' := HK1.out.below b1' HK1.out.lt
  have B1 := bt HB1.out b1'
  have e0 := k1'.cell 0
  have e1 := k1'.cell 1
  have e2 := k1'.cell 2
  have e3 := k1'.cell 3
  have e4 := k1'.cell 4
  have e5 := k1'.cell 5
  simp only [List.getElem?_toArray, List.getElem?_cons_zero, List.getElem?_cons_succ] at e0 e1 e2 e3 e4 e5
  rw [HgO.out] at e0 e1 e2 e3 e4 e5
  have HB1' := Lib.hid B1
  have HK1' := Lib.hid k1'
  clear k1' B1 b1' d0 d1 d2 d3 d4 d5
  rcases lb with _ | _
  · rcases c2 : decide (k < 0) with _ | _
    · rcases c3 : decide (6 < k) with _ | _
      · have HR : Hid (0 ≤ k ∧ k ≤ 6) := Lib.hid ⟨by have := of_decide_eq_false c2; omega, by have := of_decide_eq_false c3; omega⟩
        have HSm : Hid (ov.l.length ≤ 40) := Lib.hid (by
          have := HLb.out
          unfold longB at this
          have h2 := (Bool.or_eq_false_iff.1 this.symm).1
          have := of_decide_eq_false h2
          omega)
        -- the queue that no call made
        obtain ⟨w2, hw2⟩ : ∃ w2, w2 = w1'.alloc (.cells #[.slice none 0 0, .int .i64 0, .map none] 54) := ⟨_, rfl⟩
        have b2 : Below w1'.heap.size w1' w2 := by rw [hw2]; exact ba _ _
        have kz := QAt.zero anyB w1'
        rw [← hw2] at kz
        obtain ⟨g, hg⟩ : ∃ g, g = w1'.heap.size := ⟨_, rfl⟩
        rw [← hg] at kz
        have k2 := HK1'.out.below b2 HK1'.out.lt
        have m0 := k2.cell 0
        have m1 := k2.cell 1
        have m2 := k2.cell 2
        have m3 := k2.cell 3
        have m4 := k2.cell 4
        have m5 := k2.cell 5
        simp only [List.getElem?_toArray, List.getElem?_cons_zero, List.getElem?_cons_succ] at m0 m1 m2 m3 m4 m5
        have HN := call_nil ov w2 (by rw [HA.out.2.2.1]; exact HR.out.1) (by rw [HA.out.2.2.1]; exact HR.out.2)
        rw [HA.out.2.1] at HN
        have HN := Lib.hid HN
        have HK2 := Lib.hid (And.intro kz (And.intro b2 (And.intro k2 hg)))
        have HW2 := Lib.hid hw2
        rw [hw2, HgO.out] at m0 m1 m2 m3 m4 m5
        clear kz b2 k2 hw2
        go_wp2_with fail
        rw [← HW2.out]
        refine HN.out.mono ?_
        rintro e w3 ⟨rfl, b3⟩
        obtain ⟨kz, b2, k2, _⟩ := HK2.out
        have kz3 := kz.below b3
        have k3 := k2.below b3 k2.lt
        have B3 : Below w.heap.size w w3 := bt (bt HB1'.out b2) b3
        have hgw : w.heap.size ≤ g := by rw [hg]; exact HB1'.out.size
        have HC := call_any g 54 _ (QS.zero anyB) 50 ov w3 (kz3.more (by omega)) (QOk.zero anyB) ⟨by omega, by omega⟩ HA.out.1.2.2 (fun _ => HSm.out) (fun _ u hu => inl_offg HA.out.1.1 B3 hgw hu) (fun _ => HA.out.1.2.1.below B3) (fun b hb => trivial)
        rw [HA.out.2.1] at HC
        have HC := Lib.hid HC
        have m0' := k3.cell 0
        have m1' := k3.cell 1
        have m2' := k3.cell 2
        have m3' := k3.cell 3
        have m4' := k3.cell 4
        have m5' := k3.cell 5
        simp only [List.getElem?_toArray, List.getElem?_cons_zero, List.getElem?_cons_succ] at m0' m1' m2' m3' m4' m5'
        have H3 := Lib.hid (And.intro k3 (And.intro B3 hgw))
        rw [HgO.out] at m0' m1' m2' m3' m4' m5'
        clear kz b2 k2 kz3 k3 B3 b3 m0 m1 m2 m3 m4 m5 e0 e1 e2 e3 e4 e5 HN hgw
        have Hg := Lib.hid hg
        go_wp2_with fail
        rw [← Hg.out]
        refine HC.out.mono ?_
        rintro e w4 ⟨A4, q4, c4, rfl, hq4, own4, ⟨⟨cs4, kv4, _⟩, hg4⟩⟩
        obtain ⟨k3, B3, hgw⟩ := H3.out
        have hgO1 : gO < g := by rw [hg]; exact HK1'.out.lt
        have k4 : Blk w4 gO 35 _ := k3.kept hg4 (fun e => by injection e; omega)
        have B4 : Below w.heap.size w w4 := B3.grown hg4 B3.size (fun r e => by cases e; exact hgw)
        obtain ⟨x, hx⟩ : ∃ x, x = w4.heap.size := ⟨_, rfl⟩
        obtain ⟨w5, hw5⟩ : ∃ w5, w5 = w4.alloc (.cells #[.slice none 0 0, .slice none 0 0, .int .i64 0] 29) := ⟨_, rfl⟩
        have b5 : Below w4.heap.size w4 w5 := by rw [hw5]; exact ba _ _
        have rz := RQ.zero w4 w.heap.size
        rw [← hw5, ← hx] at rz
        have kx : Blk w5 x 29 #[.slice none 0 0, .slice none 0 0, .int .i64 0] := by rw [hw5, hx]; exact Blk.new _ _ _
        have k5 := k4.below b5 k4.lt
        have B5 := bt B4 b5
        have hxw : w.heap.size ≤ x := by rw [hx]; exact B4.size
        have HM := model_any w.heap.size x [] [] 0 ov w5 rz B5.size (by omega) (by simp) (fun y hy => nomatch hy) (fun n z hf => by unfold findW at hf; cases hf) (by have := HSm.out; omega) (HA.out.1.1.below B5) (fun u hu => HA.out.1.2.1.below (hu.bel B5 hxw))
        rw [HA.out.2.1] at HM
        have HM := Lib.hid HM
        have m0 := k5.cell 0
        have m1 := k5.cell 1
        have m2 := k5.cell 2
        have m3 := k5.cell 3
        have m4 := k5.cell 4
        have m5 := k5.cell 5
        simp only [List.getElem?_toArray, List.getElem?_cons_zero, List.getElem?_cons_succ] at m0 m1 m2 m3 m4 m5
        have H5 := Lib.hid (And.intro k5 (And.intro B5 (And.intro kx (And.intro (own4.at_.below b5) (And.intro hxw (And.intro hq4 (And.intro hx rz)))))))
        have HW5 := Lib.hid hw5
        rw [hw5, HgO.out] at m0 m1 m2 m3 m4 m5
        clear m0' m1' m2' m3' m4' m5' k3 B3 hgO1 hgw k4 B4 b5 rz kx k5 B5 hxw hw5 own4 kv4 hg4 hq4 HC
        go_wp2_with fail
        rw [← HW5.out, ← H5.out.2.2.2.2.2.2.1]
        refine HM.out.mono ?_
        rintro e w6 hm
        obtain ⟨A6, q6, c6, P6, ws6, gv6, rfl, hq6, own6, hR6, hrel6, hlen6, hg6, hA6⟩ := mdl_step (S := QS.zero anyB) H5.out.2.2.2.2.2.2.2 (Rel.zero _) (QGood.zero _) hm
        obtain ⟨k5, B5, kx, at5, hxw, hq4, hx, _⟩ := H5.out
        have at6 := ChAt.rh (w' := w6) at5 hg6 kx (fun b hb ⟨y, hy, _⟩ => nomatch hy)
        have k6 : Blk w6 gO 35 _ := hg6.blk k5 (fun e => k5.ne kx (by decide) e) (by decide) (by decide) (by decide) (fun e => absurd e (by decide))
        have B6 : Below w.heap.size w w6 := hg6.bel B5 hxw
        have p1 := k6.cell 1
        simp only [List.getElem?_toArray, List.getElem?_cons_zero, List.getElem?_cons_succ] at p1
        have HV : Hid (∀ u, Below w6.heap.size w6 u → ∃ B' B'', ChAt u B' A4 (callM (QS.zero anyB) ov).1.2.1 ∧ ChAt u B'' A6 (callM (QS.zero anyB) ov).1.2.1) := Lib.hid (fun u hu => ⟨_, _, at6.below hu, own6.at_.below hu⟩)
        have H6 := Lib.hid (And.intro k6 (And.intro B6 (And.intro hq4 hq6)))
        obtain ⟨⟨rv, rl, re⟩, hr⟩ : ∃ R, R = (callM (QS.zero anyB) ov).1 := ⟨_, rfl⟩
        rw [← hr] at HV H6 ⊢
        dsimp only at HV H6 ⊢
        have hrl : q4 ≤ 1000000 := by
          have h1 := callM_len (QS.zero anyB) ov 0 (fun n => by unfold curQ QS.zero; simp [lookQ, findQ])
          rw [← hr] at h1
          have := H6.out.2.2.1
          dsimp only at h1
          omega
        clear hr hR6 hrel6 hlen6 hg6 hA6 own6 hq6 k5 B5 kx at5 hxw hq4 hx at6 k6 B6 m0 m1 m2 m3 m4 m5 hm HM
        rw [HgO.out] at p1
        obtain rfl : q4 = q6 := H6.out.2.2.1.trans H6.out.2.2.2.symm
        go_wp2_with fail
        refine (alive_any w6).mono ?_
        rintro e w8 ⟨rfl, b8⟩
        obtain ⟨B', B'', v1, v2⟩ := HV.out w8 b8
        have HS := Lib.hid (samech_any A4 A6 rl q4 c4 c6 w8 (Lib.hid H6.out.2.2.1) hrl v1 v2)
        have k8 := H6.out.1.below b8 H6.out.1.lt
        have B8 := bt H6.out.2.1 b8
        have H8 := Lib.hid (And.intro k8 B8)
        clear v1 v2 k8 B8 b8 p1
        go_wp2_with fail
        refine HS.out.mono ?_
        rintro e w9 ⟨rfl, b9⟩
        have k9 := H8.out.1.below b9 H8.out.1.lt
        have B9 := Lib.hid (bt H8.out.2 b9)
        have p1 := k9.cell 1
        simp only [List.getElem?_toArray, List.getElem?_cons_zero, List.getElem?_cons_succ] at p1
        rw [HgO.out] at p1
        clear k9 b9
        go_wp2_with fail
        refine (values_nil w9).mono ?_
        rintro e w10 ⟨rfl, rfl⟩
        go_wp2_with fail
        refine (next_nil w9).mono ?_
        rintro e w10 ⟨rfl, rfl⟩
        go_wp2_with fail
        refine (busy_nil n w9).mono ?_
        rintro e w10 ⟨rfl, rfl⟩
        go_wp2
        go_ret
        exact ⟨rfl, B9.out⟩
      · go_wp2_with fail
        refine (alive_any w1').mono ?_
        rintro e w2 ⟨rfl, b2⟩
        have HX := Lib.hid (bt HB1'.out b2)
        clear b2
        go_wp2
        go_ret
        exact ⟨rfl, HX.out⟩
    · go_wp2_with fail
      refine (alive_any w1').mono ?_
      rintro e w2 ⟨rfl, b2⟩
      have HX := Lib.hid (bt HB1'.out b2)
      clear b2
      go_wp2
      go_ret
      exact ⟨rfl, HX.out⟩
  · go_wp2_with fail
    refine (alive_any w1').mono ?_
    rintro e w2 ⟨rfl, b2⟩
    have HX := Lib.hid (bt HB1'.out b2)
    clear b2
    go_wp2
    go_ret
    exact ⟨rfl, HX.out⟩
end Go.Proofs.Ytfcafahgmnnlnaa.Qu

namespace Go.Proofs.Ytfcafahgmnnlnaa.Qu
open Go.RowKit Go.Maps Go.Joins Go.Deep
set_option linter.unusedVariables false
set_option linter.unusedSimpArgs false

/-- Both queues hold the same, beside each other. -/
structure LvAt (w u : World) (g x : Nat) (S : QS) (P : List (Int × Nat)) (ws : List WI) (gv : Int) (N : Nat) : Prop where
  qa : ∃ cs, QAt u g 0 54 cs S N
  rt : RQ u w.heap.size x P ws gv
  rl : Rel S P ws gv
  gd : QGood S
  be : Below w.heap.size w u
  gx : w.heap.size ≤ g ∧ w.heap.size ≤ x
  b1 : ∀ b, S.B b → ∀ y ∈ ws, blk y.A ≠ some b
  b2 : ∀ b, u.heap.size ≤ b → S.B b
theorem Rel.base {S : QS} {P : List (Int × Nat)} {ws : List WI} {gv : Int} (h : Rel S P ws gv) (B : Nat → Prop) : Rel { S with B := B } P ws gv := ⟨h.I, h.g, h.w⟩
theorem LvAt.below {w u u' : World} {g x N : Nat} {S : QS} {P : List (Int × Nat)} {ws : List WI} {gv : Int} (h : LvAt w u g x S P ws gv N) (hb : Below u.heap.size u u') : LvAt w u' g x S P ws gv N :=
  ⟨h.qa.elim fun cs hk => ⟨cs, hk.below hb⟩, h.rt.below hb, h.rl, h.gd, bt h.be hb, h.gx, h.b1, fun b hle => h.b2 b (Nat.le_trans hb.size hle)⟩
theorem LvAt.more {w u : World} {g x N N' : Nat} {S : QS} {P : List (Int × Nat)} {ws : List WI} {gv : Int} (h : LvAt w u g x S P ws gv N) (hN : N ≤ N') : LvAt w u g x S P ws gv N' :=
  ⟨h.qa.elim fun cs hk => ⟨cs, hk.more hN⟩, h.rt, h.rl, h.gd, h.be, h.gx, h.b1, h.b2⟩
/-- A row of one's own turns. -/
theorem LvAt.write {w u u' : World} {g x N ob : Nat} {S : QS} {P : List (Int × Nat)} {ws : List WI} {gv : Int} {cur : Array Value} (h : LvAt w u g x S P ws gv N) (hg : u.grownBy u' (some ob)) (hk : Blk u ob 49 cur) (hS : ¬ S.B ob) (hws : ∀ y ∈ ws, blk y.A ≠ some ob) (hob : w.heap.size ≤ ob) : LvAt w u' g x S P ws gv N := by
  refine ⟨h.qa.elim fun cs hkv => ⟨cs, hkv.off hg (fun e => hkv.bk.ne hk (by decide) e) hk (by decide) (fun b hb e => hS (e ▸ hb))⟩, h.rt.other hg hk (by decide) (by decide) (by decide) (by decide) (fun _ => hws), h.rl, h.gd, h.be.grown hg h.be.size (fun r e => by cases e; exact hob), h.gx, h.b1, fun b hle => h.b2 b (Nat.le_trans hg.size hle)⟩
/-- Behind the program's call, ahead of the document's. -/
structure MidAt (w u u' : World) (g x : Nat) (S : QS) (P : List (Int × Nat)) (ws : List WI) (gv : Int) (N : Nat) (o : OpV) (A : Option Addr) (c : Nat) : Prop where
  qa : ∃ cs, QAt u' g 0 54 cs { (callM S o).2 with B := fun b => S.B b ∧ blk A ≠ some b ∧ b < u'.heap.size } (N + 1)
  rt : RQ u' w.heap.size x P ws gv
  be : Below w.heap.size w u'
  ow : OwnC u' u.heap.size A c (callM S o).1.2.1
  sz : u.heap.size ≤ u'.heap.size
theorem LvAt.mid {w u u' : World} {g x N : Nat} {S : QS} {P : List (Int × Nat)} {ws : List WI} {gv : Int} {cs : Array Value} {o : OpV} {e : Ending} (h : LvAt w u g x S P ws gv N) (hk : QAt u g 0 54 cs S N) (hc : CallO u g 0 54 cs N S.B (callM S o) e u') :
    ∃ A q c, e = .returned (.tuple #[.int .u64 ((callM S o).1.1 : Nat), .slice A q c, .int .i64 (callM S o).1.2.2]) ∧ q = (callM S o).1.2.1.length ∧ MidAt w u u' g x S P ws gv N o A c := by
  obtain ⟨A, q, c, rfl, hq, hown, ⟨⟨cs', hk', _⟩, hg⟩⟩ := hc
  exact ⟨A, q, c, rfl, hq, ⟨⟨cs', hk'.rebase fun b hb hlt => ⟨hb.1, hb.2, hlt⟩⟩, h.rt.other hg hk.bk (by decide) (by decide) (by decide) (by decide) (fun e => absurd e (by decide)), h.be.grown hg h.be.size (fun r e => by cases e; exact h.gx.1), hown, hg.size⟩⟩
theorem MidAt.below {w u u' u2 : World} {g x N c : Nat} {S : QS} {P : List (Int × Nat)} {ws : List WI} {gv : Int} {o : OpV} {A : Option Addr} (h : MidAt w u u' g x S P ws gv N o A c) (hb : Below u'.heap.size u' u2) : MidAt w u u2 g x S P ws gv N o A c := by
  obtain ⟨cs, hk⟩ := h.qa
  exact ⟨⟨cs, (hk.below hb).rebase fun b hbb _ => ⟨hbb.1, hbb.2.1, Nat.lt_of_lt_of_le hbb.2.2 hb.size⟩⟩, h.rt.below hb, bt h.be hb, own_same h.ow (fun r hr _ _ => hb.block r hr), Nat.le_trans h.sz hb.size⟩
theorem MidAt.fin {w u u' u2 : World} {g x N c : Nat} {S : QS} {P : List (Int × Nat)} {ws : List WI} {gv : Int} {o : OpV} {A : Option Addr} {e : Ending} (h : MidAt w u u' g x S P ws gv N o A c) (h0 : LvAt w u g x S P ws gv N) (hs : StepO u' w.heap.size x o S ws e u2) :
    ∃ A6 q6 c6 P' ws' gv', e = .returned (.tuple #[.int .u64 ((callM S o).1.1 : Nat), .slice A6 q6 c6, .int .i64 (callM S o).1.2.2]) ∧ q6 = (callM S o).1.2.1.length ∧ OwnC u2 u'.heap.size A6 c6 (callM S o).1.2.1 ∧ OwnC u2 u.heap.size A c (callM S o).1.2.1 ∧
      LvAt w u2 g x { (callM S o).2 with B := fun b => (∀ y ∈ ws', blk y.A ≠ some b) ∧ blk A ≠ some b } P' ws' gv' (N + 1) ∧ ws'.length ≤ ws.length + 1 ∧ ∀ y ∈ ws', ∀ r, blk A = some r → blk y.A ≠ some r := by
  obtain ⟨A6, q6, c6, P', ws', gv', rfl, hq, hown, hR, hrel, hlen, hg, hA⟩ := hs
  obtain ⟨_, _, _, _, _, _, hx, _⟩ := h.rt.ex
  have hws : ∀ y ∈ ws, ∀ r, blk y.A = some r → r < u.heap.size := fun y hy r e => ((h0.rt.wk y hy).2.2.lt' r e).2
  have hAb := fun r e => h.ow.lt' r e
  have hown2 : OwnC u2 u.heap.size A c (callM S o).1.2.1 := by
    refine own_same h.ow fun r hr hc e => ?_
    obtain ⟨cs, fz, hc⟩ := hc
    refine hg.kind (fun e2 => ?_) hc fun cs' t fz' e2 => ?_
    · subst e2; exact own_ne h.ow hx (by decide) e
    · injection e2 with _ e2 _
      subst e2
      exact ⟨by decide, by decide, by decide, fun _ ⟨y, hy, e3⟩ => by have h1 := hws y hy r e3; have h2 := (hAb r e).1; omega⟩
  have hapart : ∀ y ∈ ws', ∀ r, blk A = some r → blk y.A ≠ some r := fun y hy r e e2 => by
    rcases hA y hy r e2 with ⟨y0, hy0, e3⟩ | h3
    · have h1 := hws y0 hy0 r e3; have h2 := (hAb r e).1; omega
    · have h2 := (hAb r e).2; omega
  obtain ⟨cs, hk⟩ := h.qa
  have hk2 := (hk.rh hg hx (fun b hb ⟨y, hy, e⟩ => h0.b1 b hb.1 y hy e)).rebase (B' := fun b => (∀ y ∈ ws', blk y.A ≠ some b) ∧ blk A ≠ some b) (fun b hb _ => ⟨fun y hy e => by
    rcases hA y hy b e with ⟨y0, hy0, e3⟩ | h3
    · exact h0.b1 b hb.1 y0 hy0 e3
    · have := hb.2.2; omega, hb.2.1⟩)
  exact ⟨A6, q6, c6, P', ws', gv', rfl, hq, hown, hown2, ⟨⟨cs, hk2⟩, hR, hrel.base _, (h0.gd.call o).rebase, hg.bel h.be h0.gx.2, h0.gx, fun b hb => hb.1, fun b hb => ⟨fun y hy e => by have := ((hR.wk y hy).2.2.lt' b e).2; omega, fun e => by have := (hown2.lt' b e).2; omega⟩⟩, hlen, hapart⟩
/-- What the document's call wants. -/
theorem LvAt.len {w u : World} {g x N : Nat} {S : QS} {P : List (Int × Nat)} {ws : List WI} {gv : Int} (h : LvAt w u g x S P ws gv N) (hN : N < 300) : (0 ≤ gv ∧ gv ≤ 4611686018427387904) ∧ (∀ y ∈ ws, y.l.length < 300) ∧ ∀ n z, findW ws n = some z → P.length + putsL z.l ≤ 48 ∧ gv + (putsL z.l : Nat) ≤ 4611686018427387904 := by
  have h1 := h.gd.ok.room
  have h2 := h.gd.ok.last
  have h3 := h.gd.ok.g0
  have h4 := h.rl.g
  refine ⟨by omega, fun y hy => ?_, fun n z hf => ?_⟩
  · obtain ⟨cs, hk⟩ := h.qa
    have := (hk.le (wq y) (by rw [h.rl.w]; exact List.mem_map_of_mem hy)).1
    have e : (wq y).l = y.l := rfl
    rw [e] at this
    omega
  · have hc := h.rl.cur hf
    have hp := putsW_others S.ws n h.gd.nd
    rw [hc] at hp
    dsimp only at hp
    have hl := h.rl.len
    omega
/-- A list of numbers, somewhere. -/
def IsU (w : World) (n : Nat) (zs : List Nat) (v : Value) : Prop := ∃ A c, v = .slice A n c ∧ UAt w A zs
theorem IsU.below {w w' : World} {n : Nat} {zs : List Nat} {v : Value} (h : IsU w n zs v) (hb : Below w.heap.size w w') : IsU w' n zs v := by
  obtain ⟨A, c, e, h⟩ := h; exact ⟨A, c, e, h.below hb⟩
theorem IsU.same {w : World} {n : Nat} {zs : List Nat} {v v' : Value} (hn : Hid (n = zs.length)) (hm : n ≤ 9223372036854775807) (h : IsU w n zs v) (h' : IsU w n zs v') :
    Calls Try.prog 16 #[v, v'] w fun e w' => e = .returned (.bool true) ∧ Below w.heap.size w w' := by
  obtain ⟨A, c, rfl, h1⟩ := h
  obtain ⟨A', c', rfl, h2⟩ := h'
  refine (same_any A A' zs zs n n c c' w hn hn hm h1 h2).mono ?_
  rintro e w' ⟨rfl, hb⟩
  exact ⟨by simp, hb⟩
end Go.Proofs.Ytfcafahgmnnlnaa.Qu

namespace Go.Proofs.Ytfcafahgmnnlnaa.Qu
open Go.RowKit Go.Maps Go.Joins Go.Deep
set_option linter.unusedVariables false
set_option linter.unusedSimpArgs false

theorem chV_set_k {l : List Ch} {i : Nat} {x : Ch} {hi : i < l.length} {z : Int} (hx : x = l[i]'hi) : (chV l).set (i * 3) (.int .i64 z) = chV (l.set i ⟨z, x.y, x.v⟩) := by
  obtain ⟨a1, a2, a3⟩ := chV_at l i hi
  rw [← chV_set]
  dsimp only
  have hl := chV_len l
  refine List.ext_getElem? fun j => ?_
  by_cases h2 : j = i * 3 + 2
  · subst h2
    rw [List.getElem?_set_self (by rw [List.length_set, List.length_set, hl]; omega), List.getElem?_set_ne (by omega), a3, hx]
  · rw [List.getElem?_set_ne (i := i * 3 + 2) (fun e => h2 e.symm)]
    by_cases h1 : j = i * 3 + 1
    · subst h1
      rw [List.getElem?_set_self (by rw [List.length_set, hl]; omega), List.getElem?_set_ne (by omega), a2, hx]
    · rw [List.getElem?_set_ne (i := i * 3 + 1) (fun e => h1 e.symm)]
def VQl (g xb b o j n q c c6 : Nat) (cl : Nat) (A A6 : Option Addr) (rv : Nat) (er nn gv gn : Int) (bz : Bool) (pf : Value) (nP : Nat) (zs : List Nat) (i : Nat) (v : Value) (w : World) : Prop :=
  match i with
  | 0 => v = .int .u64 (rv : Nat)
  | 1 => v = .int .u64 (rv : Nat)
  | 2 => v = .bool false
  | 3 => v = .bool false
  | 4 => v = .slice A q c
  | 5 => v = .slice A6 q c6
  | 6 => v = .bool true
  | 7 => v = .bool false
  | 8 => v = .bool false
  | 9 => v = .bool false
  | 10 => v = .int .i64 er
  | 11 => v = .int .i64 er
  | 12 => v = .bool false
  | 13 => v = .bool false
  | 14 => v = .bool false
  | 15 => v = .pointer (some ⟨g, 0, none⟩)
  | 16 => IsU w nP zs v
  | 17 => v = .pointer (some ⟨xb, 0, none⟩)
  | 18 => IsU w nP zs v
  | 19 => v = .bool true
  | 20 => v = .bool false
  | 21 => v = .bool false
  | 22 => v = .bool false
  | 23 => v = .pointer (some ⟨g, 0, none⟩)
  | 24 => v = .int .i64 gn
  | 25 => v = .pointer (some ⟨xb, 0, none⟩)
  | 26 => v = .pointer (some ⟨xb, 0, none⟩)
  | 27 => v = .pointer (some ⟨xb, 2, none⟩)
  | 28 => v = .int .i64 gv
  | 29 => v = .int .i64 gn
  | 30 => v = .bool false
  | 31 => v = .bool false
  | 32 => v = .bool false
  | 33 => v = .pointer (some ⟨g, 0, none⟩)
  | 34 => v = .slice (some ⟨b, o, none⟩) n cl
  | 35 => v = .int .i64 j
  | 36 => v = .pointer (some ⟨b, o + j * 6, none⟩)
  | 37 => v = .pointer (some ⟨b, o + j * 6 + 1, none⟩)
  | 38 => v = .int .i64 nn
  | 39 => v = .bool bz
  | 40 => v = .pointer (some ⟨xb, 0, none⟩)
  | 41 => v = .slice (some ⟨b, o, none⟩) n cl
  | 42 => v = .int .i64 j
  | 43 => v = .pointer (some ⟨b, o + j * 6, none⟩)
  | 44 => v = .pointer (some ⟨b, o + j * 6 + 1, none⟩)
  | 45 => v = .int .i64 nn
  | 46 => v = pf
  | 47 => v = .bool bz
  | 48 => v = .bool false
  | 49 => v = .bool false
  | _ => True
theorem VQl.mono {g xb b o j n q c c6 : Nat} {cl : Nat} {A A6 : Option Addr} {rv : Nat} {er nn gv gn : Int} {bz : Bool} {pf : Value} {nP : Nat} {zs : List Nat} {q i : Nat} {v : Value} {u u' : World} (he : Below u.heap.size u u') (h : VQl g xb b o j n q c c6 cl A A6 rv er nn gv gn bz pf nP zs i v u) : VQl g xb b o j n q c c6 cl A A6 rv er nn gv gn bz pf nP zs i v u' := by
  unfold VQl at h ⊢
  split at h <;> first | with_reducible exact h | exact IsU.below h he

set_option maxRecDepth 100000 in
set_option maxHeartbeats 8000000 in
theorem queueLives_walk (A : Option Addr) (ops : List OpV) (c : Nat) (w : World) (h : OpsAt w A ops) :
    Calls Try.prog 3 #[.slice A ops.length c] w fun e w' => e = .returned (.bool true) ∧ Below w.heap.size w w' := by
  have hlen := h.1
  unfold maxLen at hlen
  obtain ⟨n, hn⟩ : ∃ n, n = ops.length := ⟨_, rfl⟩
  rw [← hn] at hlen ⊢
  have HN := Lib.hid hn
  have HO := Lib.hid h
  obtain ⟨A0, hA0⟩ : ∃ A0, A0 = A := ⟨_, rfl⟩
  rw [← hA0] at HO ⊢
  obtain ⟨cl, hcl⟩ : ∃ cl, cl = c := ⟨_, rfl⟩
  rw [← hcl]
  clear h hn hA0 hcl A c
  obtain ⟨g, hg⟩ : ∃ g, g = w.heap.size := ⟨_, rfl⟩
  have HG := Lib.hid hg
  go_enter Try.func3, Try.ntmps3
  go_wp2_with fail
  refine (new_any anyB w).mono ?_
  rintro e w1 ⟨rfl, ⟨cs, hk⟩, b1⟩
  rw [← hg] at hk ⊢
  obtain ⟨xb, hx⟩ : ∃ xb, xb = w1.heap.size := ⟨_, rfl⟩
  have HX := Lib.hid hx
  obtain ⟨w2, hw2⟩ : ∃ w2, w2 = w1.alloc (.cells #[.slice none 0 0, .slice none 0 0, .int .i64 0] 29) := ⟨_, rfl⟩
  have HW2 := Lib.hid hw2
  have H0 : Hid (∃ S P ws gv, ws.length ≤ 0 ∧ LvAt w w2 g xb S P ws gv (50 + 0)) := Lib.hid (by
    have b2 : Below w1.heap.size w1 w2 := by rw [hw2]; exact ba _ _
    have rz := RQ.zero w1 w.heap.size
    rw [← hw2, ← hx] at rz
    exact ⟨QS.zero anyB, [], [], 0, Nat.le_refl _, ⟨⟨cs, (hk.below b2).more (by omega)⟩, rz, Rel.zero _, QGood.zero _, bt b1 b2, ⟨by rw [hg]; exact Nat.le_refl _, by rw [hx]; exact b1.size⟩, (fun b _ y hy => nomatch hy), fun b _ => trivial⟩⟩)
  clear hk b1 hx hw2 hg
  go_wp2_with fail
  rw [← HW2.out, ← HX.out]
  go_loopw [5] (fun i wr => ∃ (j : Nat), j ≤ n ∧ j ≤ 60 ∧ i = .int .i64 j ∧ Hid (∃ S P ws gv, ws.length ≤ j ∧ LvAt w wr g xb S P ws gv (50 + j))) (fun i _ => 60 - (intOf i).toNat)
  case atStart => exact ⟨0, Nat.zero_le _, by omega, rfl, H0⟩
  case round =>
    clear H0
    obtain ⟨j, hj, hj60, rfl, HR⟩ := hrel
    by_cases hjn : j < n
    · have hjI : (j : Int) < (n : Int) := by omega
      by_cases hj6 : j < 60
      · have hj6I : (j : Int) < 60 := by omega
        obtain ⟨S, P, ws, gv, hwl, hlv⟩ := HR.out
        have hjo : j < ops.length := by rw [← HN.out]; exact hjn
        obtain ⟨b, o, rfl, hlt, hcs⟩ := HO.out.2.2 (by omega)
        obtain ⟨q0, q1, q2, q3, q4, q5⟩ := hcs j hjo
        have hin := HO.out.2.1 _ (List.getElem_mem hjo)
        obtain ⟨op, hop⟩ : ∃ op, op = ops[j] := ⟨_, rfl⟩
        rw [← hop] at q0 q1 q2 q3 q4 q5 hin
        have hb := hlv.be
        have p0 := (hb.cell (p := ⟨b, o + j * 6, none⟩) hlt).trans q0
        have p1 := (hb.cell (p := ⟨b, o + j * 6 + 1, none⟩) hlt).trans q1
        have p2 := (hb.cell (p := ⟨b, o + j * 6 + 2, none⟩) hlt).trans q2
        have p3 := (hb.cell (p := ⟨b, o + j * 6 + 3, none⟩) hlt).trans q3
        have p4 := (hb.cell (p := ⟨b, o + j * 6 + 4, none⟩) hlt).trans q4
        have p5 := (hb.cell (p := ⟨b, o + j * 6 + 5, none⟩) hlt).trans q5
        obtain ⟨m, hm⟩ : ∃ m, m = op.l.length := ⟨_, rfl⟩
        obtain ⟨mv, hmv⟩ : ∃ mv, mv = op.vs.length := ⟨_, rfl⟩
        obtain ⟨ov, hov⟩ : ∃ ov, ov = op.val := ⟨_, rfl⟩
        have hlo := long_any op wr
        rw [← hov] at hlo
        obtain ⟨lb, hlb⟩ : ∃ lb, lb = longB op := ⟨_, rfl⟩
        rw [← hlb] at hlo
        have HLo := Lib.hid hlo
        have HLb := Lib.hid hlb
        have HL0 := Lib.hid (And.intro hlv (And.intro hwl (And.intro hin (And.intro hlt (And.intro hov (And.intro hm hmv))))))
        have HQ := Lib.hid (And.intro q0 (And.intro q1 (And.intro q2 (And.intro q3 (And.intro q4 q5)))))
        obtain ⟨ok, on, ox, oz, oA, ol, oc, oVA, ovs, ovc⟩ := op
        have hov2 : ov = .agg #[.int .i64 ok, .int .i64 on, .int .i64 ox, .int .u64 (oz : Nat), .slice oA m oc, .slice oVA mv ovc] := by rw [hov, hm, hmv]; rfl
        dsimp only at p0 p1 p2 p3 p4 p5 hm hmv
        rw [← hm] at p4
        rw [← hmv] at p5
        have HV := Lib.hid hov2
        clear hlo hlb q0 q1 q2 q3 q4 q5 hcs hop hb hov hm hmv hin hjo hlv hwl hlt hov2
        go_wp2_with fail
        rw [← HV.out]
        refine HLo.out.mono ?_
        rintro e wl ⟨rfl, bl⟩
        have hlt := HL0.out.2.2.2.1
        have hbl := bt HL0.out.1.be bl
        obtain ⟨q0, q1, q2, q3, q4, q5⟩ := HQ.out
        have r0 := (hbl.cell (p := ⟨b, o + j * 6, none⟩) hlt).trans q0
        have r1 := (hbl.cell (p := ⟨b, o + j * 6 + 1, none⟩) hlt).trans q1
        have r2 := (hbl.cell (p := ⟨b, o + j * 6 + 2, none⟩) hlt).trans q2
        have r3 := (hbl.cell (p := ⟨b, o + j * 6 + 3, none⟩) hlt).trans q3
        have r4 := (hbl.cell (p := ⟨b, o + j * 6 + 4, none⟩) hlt).trans q4
        have r5 := (hbl.cell (p := ⟨b, o + j * 6 + 5, none⟩) hlt).trans q5
        have hm := HL0.out.2.2.2.2.2.1
        have hmv := HL0.out.2.2.2.2.2.2
        try dsimp only at r0 r1 r2 r3 r4 r5 hm hmv
        rw [← hm] at r4
        rw [← hmv] at r5
        have HLv := Lib.hid (HL0.out.1.below bl)
        clear p0 p1 p2 p3 p4 p5 q0 q1 q2 q3 q4 q5 hlt hbl hm hmv bl HLo
        rcases lb with _ | _
        · have hsm : ol.length ≤ 40 := by
            have := HLb.out
            unfold longB at this
            have h2 := (Bool.or_eq_false_iff.1 this.symm).1
            have := of_decide_eq_false h2
            dsimp only at this
            omega
          obtain ⟨csk, hkv⟩ := HLv.out.qa
          have hin := HL0.out.2.2.1
          have hbl := HLv.out.be
          have hcall := call_any g _ csk S (50 + j) ⟨ok, on, ox, oz, oA, ol, oc, oVA, ovs, ovc⟩ wl hkv HLv.out.gd.ok ⟨by omega, by omega⟩ hin.1 (fun _ => hsm) (fun _ u hu => inl_offg hin.2.1.2 hbl HLv.out.gx.1 hu) (fun _ => hin.2.2.2.below hbl) HLv.out.b2
          rw [← HL0.out.2.2.2.2.1] at hcall
          have HC := Lib.hid hcall
          have HKv := Lib.hid hkv
          have HSm := Lib.hid hsm
          clear hsm hkv hin hbl hcall HLb
          go_wp2_with fail
          rw [← HV.out]
          refine HC.out.mono ?_
          rintro e w2 hc2
          obtain ⟨A, q, c, rfl, hq, hmid⟩ := HLv.out.mid HKv.out hc2
          have hb2 := hmid.be
          have HM2 := Lib.hid (And.intro hmid hq)
          have hlt := HL0.out.2.2.2.1
          obtain ⟨q0, q1, q2, q3, q4, q5⟩ := HQ.out
          have p0' := (hb2.cell (p := ⟨b, o + j * 6, none⟩) hlt).trans q0
          have p1' := (hb2.cell (p := ⟨b, o + j * 6 + 1, none⟩) hlt).trans q1
          have p2' := (hb2.cell (p := ⟨b, o + j * 6 + 2, none⟩) hlt).trans q2
          have p3' := (hb2.cell (p := ⟨b, o + j * 6 + 3, none⟩) hlt).trans q3
          have p4' := (hb2.cell (p := ⟨b, o + j * 6 + 4, none⟩) hlt).trans q4
          have p5' := (hb2.cell (p := ⟨b, o + j * 6 + 5, none⟩) hlt).trans q5
          have hm := HL0.out.2.2.2.2.2.1
          have hmv := HL0.out.2.2.2.2.2.2
          try dsimp only at p0' p1' p2' p3' p4' p5' hm hmv
          rw [← hm] at p4'
          rw [← hmv] at p5'
          have hin := HL0.out.2.2.1
          obtain ⟨l1, l2, l3⟩ := HLv.out.len (by omega)
          have hmod := model_any w.heap.size xb P ws gv ⟨ok, on, ox, oz, oA, ol, oc, oVA, ovs, ovc⟩ w2 hmid.rt hb2.size l1 (by have := HL0.out.2.1; omega) l2 l3 (by have := HSm.out; dsimp only; omega) (hin.2.1.2.below hb2) (fun u hu => hin.2.2.2.below (hu.bel hb2 HLv.out.gx.2))
          rw [← HL0.out.2.2.2.2.1] at hmod
          have HD := Lib.hid hmod
          clear r0 r1 r2 r3 r4 r5 q0 q1 q2 q3 q4 q5 hm hmv hmod hmid hc2 hb2 hlt hq HC hin l1 l2 l3 HKv
          go_wp2_with fail
          rw [← HV.out]
          refine HD.out.mono ?_
          rintro e w3 hm3'
          obtain ⟨A6, q6, c6, P', ws', gv3, rfl, hq6, own6, ownA, hlv3, hlen3, hap⟩ := HM2.out.1.fin HLv.out (mdl_step HM2.out.1.rt HLv.out.rl HLv.out.gd hm3')
          have hq := HM2.out.2
          have hqs : q ≤ 110 := by
            have := callM_len S ⟨ok, on, ox, oz, oA, ol, oc, oVA, ovs, ovc⟩ (50 + j) (fun k => by
              obtain ⟨csk, hkv⟩ := HLv.out.qa
              exact hkv.cur_len k)
            rw [hq]; omega
          have hb3 := hlv3.be
          have hlt := HL0.out.2.2.2.1
          have p1 := (hb3.cell (p := ⟨b, o + j * 6 + 1, none⟩) hlt).trans HQ.out.2.1
          try dsimp only at p1
          obtain ⟨_, _, _, _, _, _, hxk, _⟩ := hlv3.rt.ex
          have hx2 := hxk.cell 2
          simp only [List.getElem?_toArray, List.getElem?_cons_zero, List.getElem?_cons_succ] at hx2
          have HBl : Hid (b < w3.heap.size ∧ xb < w3.heap.size ∧ w3.cell? ⟨b, o + j * 6 + 1, none⟩ = some (.int .i64 on) ∧ w3.cell? ⟨xb, 2, none⟩ = some (.int .i64 gv3)) := Lib.hid ⟨Nat.lt_of_lt_of_le hlt hb3.size, hxk.lt, p1, hx2⟩
          have hio : i64ok on := HL0.out.2.2.1.1
          have hwl3 : ws'.length ≤ j + 1 := by have := HL0.out.2.1; omega
          obtain ⟨BA, hBA⟩ : ∃ BA, BA = wl.heap.size := ⟨_, rfl⟩
          have hwA : w.heap.size ≤ BA := by rw [hBA]; exact HLv.out.be.size
          rw [← hBA] at ownA
          obtain ⟨S2, hS2⟩ : ∃ S2, S2 = { (callM S ⟨ok, on, ox, oz, oA, ol, oc, oVA, ovs, ovc⟩).2 with B := fun b => (∀ y ∈ ws', blk y.A ≠ some b) ∧ blk A ≠ some b } := ⟨_, rfl⟩
          rw [← hS2] at hlv3
          have hSA : ∀ r, blk A = some r → ¬ S2.B r := fun r e hb => by rw [hS2] at hb; exact hb.2 e
          obtain ⟨⟨rv, rl, re⟩, hr⟩ : ∃ R, R = (callM S ⟨ok, on, ox, oz, oA, ol, oc, oVA, ovs, ovc⟩).1 := ⟨_, rfl⟩
          rw [← hr] at hq6 own6 ownA hq ⊢
          dsimp only at hq6 own6 ownA hq ⊢
          have HS := Lib.hid (fun u (hu : Below w3.heap.size w3 u) => samech_any A A6 rl q c c6 u (Lib.hid hq) (by omega) (ownA.at_.below hu) (own6.at_.below hu))
          obtain ⟨cs3, hk3⟩ := hlv3.qa
          have hbz : (lookQ S2.ws on).isSome = (findW ws' on).isSome := by rw [hlv3.rl.look]; cases findW ws' on <;> rfl
          have HBz0 := fun u (hu : Below w3.heap.size w3 u) => busy_any g 0 _ cs3 S2 (50 + j + 1) on u (hk3.below hu) hio
          rw [hbz] at HBz0
          have HFd0 := fun u (hu : Below w3.heap.size w3 u) => rfind_any w.heap.size xb P' ws' gv3 on u (hlv3.rt.below hu)
          obtain ⟨nP, hnP⟩ : ∃ nP, nP = P'.length := ⟨_, rfl⟩
          obtain ⟨zs, hzs⟩ : ∃ zs, zs = P'.map (·.2) := ⟨_, rfl⟩
          have HNz : Hid (nP = zs.length) := Lib.hid (by rw [hnP, hzs, List.length_map])
          have hnz : nP ≤ 9223372036854775807 := by have := hlv3.rt.sm.1; omega
          have hzp : S2.I.map IT.v = zs := by rw [hzs, hlv3.rl.I]; unfold prI; rw [List.map_map]; rfl
          have hnp2 : S2.I.length = nP := by rw [hnP, hlv3.rl.len]
          have HVp : Hid (∀ u, Below w3.heap.size w3 u → Calls Try.prog 17 #[.pointer (some ⟨g, 0, none⟩)] u fun e w' => ∃ v, e = .returned v ∧ IsU w' nP zs v ∧ Below u.heap.size u w') := Lib.hid fun u hu => by
            refine (values_any g 0 _ cs3 S2 (50 + j + 1) u (hk3.below hu)).mono ?_
            rintro e w' ⟨A, c, rfl, ho, hb⟩
            rw [hzp] at ho
            exact ⟨_, rfl, ⟨A, c, by rw [hnp2], ho.at_⟩, hb⟩
          have HVd : Hid (∀ u, Below w3.heap.size w3 u → Calls Try.prog 18 #[.pointer (some ⟨xb, 0, none⟩)] u fun e w' => ∃ v, e = .returned v ∧ IsU w' nP zs v ∧ Below u.heap.size u w') := Lib.hid fun u hu => by
            refine (rvalues_any w.heap.size xb P' ws' gv3 u (hlv3.rt.below hu)).mono ?_
            rintro e w' ⟨A, c, rfl, ho, hb⟩
            rw [← hzs] at ho
            exact ⟨_, rfl, ⟨A, c, by rw [hnP], ho.at_⟩, hb⟩
          obtain ⟨gn, hgn⟩ : ∃ gn : Int, gn = gv3 + 1 := ⟨_, rfl⟩
          have HNx0 := fun u (hu : Below w3.heap.size w3 u) => next_any g 0 _ cs3 S2 (50 + j + 1) u (hk3.below hu)
          rw [← hlv3.rl.g, ← hgn] at HNx0
          have HNx := Lib.hid HNx0
          have swr : IntKind.i64.wrap (gv3 + 1) = gn := by
            have h1 := hlv3.gd.ok.last
            have h2 := hlv3.gd.ok.g0
            have h3 := hlv3.rl.g
            rw [hgn]; exact IntWalk.i64_in _ (by omega)
          have HZ := Lib.hid (And.intro hlv3 (And.intro hwl3 (And.intro hq (And.intro ownA (And.intro hap (And.intro hSA hwA))))))
          have hq66 : q6 = q := hq6.trans hq.symm
          subst hq66
          clear p0' p1' p2' p3' p4' p5' p1 hr hS2 hq6 own6 ownA hlv3 hlen3 hap hq hb3 hlt hwl3 hk3 hbz hio hm3' hSA hwA hBA HD HM2 HQ hxk hx2 hnP hzs hzp hnp2 hgn HNx0
          go_wp2_with fail
          rcases hf : findW ws' on with _ | z
          · rw [hf] at HBz0 HFd0
            have HBz := Lib.hid HBz0
            have HFd := Lib.hid HFd0
            clear HBz0 HFd0
            dsimp only [Option.isSome_none, Option.map_none] at HBz HFd
            refine wp_region_invT (F := ?FA) (V := VQl g xb b o j n q6 c c6 cl A A6 rv re on gv3 gn false ((.pointer none)) nP zs) (dead := fun _ => none) (T := fun _ _ => True) (C := fun u => Below w3.heap.size w3 u) (E := fun _ u u' => Below u.heap.size u u') (by kernel_rfl) (by kernel_rfl) (by kernel_rfl) (fun x => ?hFA) ?hmonoA ?hTmA ?hTA ?hCA ?stepA ?finA
            case hFA => simp only [mkA, Act.put, List.setIfInBounds_toArray, List.set_cons_succ, List.set_cons_zero, Nat.reduceAdd, Nat.zero_add]; first | with_reducible rfl | rfl
            case hmonoA => exact fun q' i v u u' he hik hwt hdd hv => VQl.mono (q := q') he hv
            case hTmA => exact fun _ _ _ _ _ _ _ _ => trivial
            case hTA => exact fun j => trivial
            case hCA => exact (Below.refl _ _).drew
            case stepA =>
              refine AllOps.cons (fun x u hC hT hp K hK => ?_) ?_
              · clear hp hT
                go_simp
                refine hK _ _ _ hC (Below.refl _ _) (by exact rfl) ?_
                first | (simp only [Act.put, List.setIfInBounds_toArray, List.set_cons_succ, List.set_cons_zero]; done) | simp [Act.put]
              refine AllOps.cons (fun x u hC hT hp K hK => ?_) ?_
              · clear hp hT
                go_simp
                refine hK _ _ _ hC (Below.refl _ _) (by exact rfl) ?_
                first | (simp only [Act.put, List.setIfInBounds_toArray, List.set_cons_succ, List.set_cons_zero]; done) | simp [Act.put]
              refine AllOps.cons (fun x u hC hT hp K hK => ?_) ?_
              · simp [KnownTill, Region.binds, VQl] at hp
                clear hT
                go_simp
                refine hK _ _ _ hC (Below.refl _ _) (by exact (by first | exact rfl | simp)) ?_
                first | (simp only [Act.put, List.setIfInBounds_toArray, List.set_cons_succ, List.set_cons_zero, hp]; done) | simp [Act.put, hp]
              refine AllOps.cons (fun x u hC hT hp K hK => ?_) ?_
              · simp [KnownTill, Region.binds, VQl] at hp
                clear hT
                go_simp
                refine hK _ _ _ hC (Below.refl _ _) (by exact rfl) ?_
                first | (simp only [Act.put, List.setIfInBounds_toArray, List.set_cons_succ, List.set_cons_zero, hp]; done) | simp [Act.put, hp]
              refine AllOps.cons (fun x u hC hT hp K hK => ?_) ?_
              · simp [KnownTill, Region.binds, VQl] at hp
                clear hT
                go_simp
                refine hK _ _ _ hC (Below.refl _ _) (by exact rfl) ?_
                first | (simp only [Act.put, List.setIfInBounds_toArray, List.set_cons_succ, List.set_cons_zero, hp]; done) | simp [Act.put, hp]
              refine AllOps.cons (fun x u hC hT hp K hK => ?_) ?_
              · simp [KnownTill, Region.binds, VQl] at hp
                clear hT
                go_simp
                refine hK _ _ _ hC (Below.refl _ _) (by exact rfl) ?_
                first | (simp only [Act.put, List.setIfInBounds_toArray, List.set_cons_succ, List.set_cons_zero, hp]; done) | simp [Act.put, hp]
              refine AllOps.cons (fun x u hC hT hp K hK => ?_) ?_
              · simp [KnownTill, Region.binds, VQl] at hp
                clear hT
                go_simp
                refine (HS.out u hC).mono ?_
                rintro e wA ⟨rfl, hbA⟩
                refine hK _ _ _ (bt hC hbA) hbA (by exact rfl) ?_
                first | (simp only [Act.put, List.setIfInBounds_toArray, List.set_cons_succ, List.set_cons_zero, hp]; done) | simp [Act.put, hp]
              refine AllOps.cons (fun x u hC hT hp K hK => ?_) ?_
              · simp [KnownTill, Region.binds, VQl] at hp
                clear hT
                go_simp
                refine hK _ _ _ hC (Below.refl _ _) (by exact rfl) ?_
                first | (simp only [Act.put, List.setIfInBounds_toArray, List.set_cons_succ, List.set_cons_zero, hp]; done) | simp [Act.put, hp]
              refine AllOps.cons (fun x u hC hT hp K hK => ?_) ?_
              · simp [KnownTill, Region.binds, VQl] at hp
                clear hT
                go_simp
                refine hK _ _ _ hC (Below.refl _ _) (by exact rfl) ?_
                first | (simp only [Act.put, List.setIfInBounds_toArray, List.set_cons_succ, List.set_cons_zero, hp]; done) | simp [Act.put, hp]
              refine AllOps.cons (fun x u hC hT hp K hK => ?_) ?_
              · simp [KnownTill, Region.binds, VQl] at hp
                clear hT
                go_simp
                refine hK _ _ _ hC (Below.refl _ _) (by exact rfl) ?_
                first | (simp only [Act.put, List.setIfInBounds_toArray, List.set_cons_succ, List.set_cons_zero, hp]; done) | simp [Act.put, hp]
              refine AllOps.cons (fun x u hC hT hp K hK => ?_) ?_
              · simp [KnownTill, Region.binds, VQl] at hp
                clear hT
                go_simp
                refine hK _ _ _ hC (Below.refl _ _) (by exact rfl) ?_
                first | (simp only [Act.put, List.setIfInBounds_toArray, List.set_cons_succ, List.set_cons_zero, hp]; done) | simp [Act.put, hp]
              refine AllOps.cons (fun x u hC hT hp K hK => ?_) ?_
              · simp [KnownTill, Region.binds, VQl] at hp
                clear hT
                go_simp
                refine hK _ _ _ hC (Below.refl _ _) (by exact rfl) ?_
                first | (simp only [Act.put, List.setIfInBounds_toArray, List.set_cons_succ, List.set_cons_zero, hp]; done) | simp [Act.put, hp]
              refine AllOps.cons (fun x u hC hT hp K hK => ?_) ?_
              · simp [KnownTill, Region.binds, VQl] at hp
                clear hT
                go_simp
                refine hK _ _ _ hC (Below.refl _ _) (by exact (by first | exact rfl | simp)) ?_
                first | (simp only [Act.put, List.setIfInBounds_toArray, List.set_cons_succ, List.set_cons_zero, hp]; done) | simp [Act.put, hp]
              refine AllOps.cons (fun x u hC hT hp K hK => ?_) ?_
              · simp [KnownTill, Region.binds, VQl] at hp
                clear hT
                go_simp
                refine hK _ _ _ hC (Below.refl _ _) (by exact rfl) ?_
                first | (simp only [Act.put, List.setIfInBounds_toArray, List.set_cons_succ, List.set_cons_zero, hp]; done) | simp [Act.put, hp]
              refine AllOps.cons (fun x u hC hT hp K hK => ?_) ?_
              · simp [KnownTill, Region.binds, VQl] at hp
                clear hT
                go_simp
                refine hK _ _ _ hC (Below.refl _ _) (by exact rfl) ?_
                first | (simp only [Act.put, List.setIfInBounds_toArray, List.set_cons_succ, List.set_cons_zero, hp]; done) | simp [Act.put, hp]
              refine AllOps.cons (fun x u hC hT hp K hK => ?_) ?_
              · simp [KnownTill, Region.binds, VQl] at hp
                clear hT
                go_simp
                refine hK _ _ _ hC (Below.refl _ _) (by exact rfl) ?_
                first | (simp only [Act.put, List.setIfInBounds_toArray, List.set_cons_succ, List.set_cons_zero, hp]; done) | simp [Act.put, hp]
              refine AllOps.cons (fun x u hC hT hp K hK => ?_) ?_
              · simp [KnownTill, Region.binds, VQl] at hp
                clear hT
                go_simp
                refine (HVp.out u hC).mono ?_
                rintro e wA ⟨vA, rfl, hvA, hbA⟩
                refine hK _ _ _ (bt hC hbA) hbA hvA ?_
                first | (simp only [Act.put, List.setIfInBounds_toArray, List.set_cons_succ, List.set_cons_zero, hp]; done) | simp [Act.put, hp]
              refine AllOps.cons (fun x u hC hT hp K hK => ?_) ?_
              · simp [KnownTill, Region.binds, VQl] at hp
                clear hT
                go_simp
                refine hK _ _ _ hC (Below.refl _ _) (by exact rfl) ?_
                first | (simp only [Act.put, List.setIfInBounds_toArray, List.set_cons_succ, List.set_cons_zero, hp]; done) | simp [Act.put, hp]
              refine AllOps.cons (fun x u hC hT hp K hK => ?_) ?_
              · simp [KnownTill, Region.binds, VQl] at hp
                clear hT
                go_simp
                refine (HVd.out u hC).mono ?_
                rintro e wA ⟨vA, rfl, hvA, hbA⟩
                refine hK _ _ _ (bt hC hbA) hbA hvA ?_
                first | (simp only [Act.put, List.setIfInBounds_toArray, List.set_cons_succ, List.set_cons_zero, hp]; done) | simp [Act.put, hp]
              refine AllOps.cons (fun x u hC hT hp K hK => ?_) ?_
              · simp [KnownTill, Region.binds, VQl] at hp
                clear hT
                go_simp
                have h1 : IsU u nP zs (x 16) := by first | exact hp.1 | exact hp.2.1 | exact hp.2 | exact hp.2.2.1 | exact hp.2.2
                have h2 : IsU u nP zs (x 18) := by first | exact hp.2.1 | exact hp.2 | exact hp.2.2.1 | exact hp.2.2 | exact hp.2.2.2
                refine (IsU.same HNz.out hnz h1 h2).mono ?_
                rintro e wA ⟨rfl, hbA⟩
                refine hK _ _ _ (bt hC hbA) hbA (by exact rfl) ?_
                first | (simp only [Act.put, List.setIfInBounds_toArray, List.set_cons_succ, List.set_cons_zero, hp]; done) | simp [Act.put, hp]
              refine AllOps.cons (fun x u hC hT hp K hK => ?_) ?_
              · simp [KnownTill, Region.binds, VQl] at hp
                clear hT
                go_simp
                refine hK _ _ _ hC (Below.refl _ _) (by exact rfl) ?_
                first | (simp only [Act.put, List.setIfInBounds_toArray, List.set_cons_succ, List.set_cons_zero, hp]; done) | simp [Act.put, hp]
              refine AllOps.cons (fun x u hC hT hp K hK => ?_) ?_
              · simp [KnownTill, Region.binds, VQl] at hp
                clear hT
                go_simp
                refine hK _ _ _ hC (Below.refl _ _) (by exact rfl) ?_
                first | (simp only [Act.put, List.setIfInBounds_toArray, List.set_cons_succ, List.set_cons_zero, hp]; done) | simp [Act.put, hp]
              refine AllOps.cons (fun x u hC hT hp K hK => ?_) ?_
              · simp [KnownTill, Region.binds, VQl] at hp
                clear hT
                go_simp
                refine hK _ _ _ hC (Below.refl _ _) (by exact rfl) ?_
                first | (simp only [Act.put, List.setIfInBounds_toArray, List.set_cons_succ, List.set_cons_zero, hp]; done) | simp [Act.put, hp]
              refine AllOps.cons (fun x u hC hT hp K hK => ?_) ?_
              · simp [KnownTill, Region.binds, VQl] at hp
                clear hT
                go_simp
                refine hK _ _ _ hC (Below.refl _ _) (by exact rfl) ?_
                first | (simp only [Act.put, List.setIfInBounds_toArray, List.set_cons_succ, List.set_cons_zero, hp]; done) | simp [Act.put, hp]
              refine AllOps.cons (fun x u hC hT hp K hK => ?_) ?_
              · simp [KnownTill, Region.binds, VQl] at hp
                clear hT
                go_simp
                refine (HNx.out u hC).mono ?_
                rintro e wA ⟨rfl, rfl⟩
                refine hK _ _ _ hC (Below.refl _ _) (by exact rfl) ?_
                first | (simp only [Act.put, List.setIfInBounds_toArray, List.set_cons_succ, List.set_cons_zero, hp]; done) | simp [Act.put, hp]
              refine AllOps.cons (fun x u hC hT hp K hK => ?_) ?_
              · simp [KnownTill, Region.binds, VQl] at hp
                clear hT
                go_simp
                refine hK _ _ _ hC (Below.refl _ _) (by exact rfl) ?_
                first | (simp only [Act.put, List.setIfInBounds_toArray, List.set_cons_succ, List.set_cons_zero, hp]; done) | simp [Act.put, hp]
              refine AllOps.cons (fun x u hC hT hp K hK => ?_) ?_
              · simp [KnownTill, Region.binds, VQl] at hp
                clear hT
                go_simp
                refine hK _ _ _ hC (Below.refl _ _) (by exact rfl) ?_
                first | (simp only [Act.put, List.setIfInBounds_toArray, List.set_cons_succ, List.set_cons_zero, hp]; done) | simp [Act.put, hp]
              refine AllOps.cons (fun x u hC hT hp K hK => ?_) ?_
              · simp [KnownTill, Region.binds, VQl] at hp
                clear hT
                go_simp
                refine hK _ _ _ hC (Below.refl _ _) (by exact rfl) ?_
                first | (simp only [Act.put, List.setIfInBounds_toArray, List.set_cons_succ, List.set_cons_zero, hp]; done) | simp [Act.put, hp]
              refine AllOps.cons (fun x u hC hT hp K hK => ?_) ?_
              · simp [KnownTill, Region.binds, VQl] at hp
                clear hT
                have qq := (show Below w3.heap.size w3 u from hC).cell (p := ⟨xb, 2, none⟩) HBl.out.2.1
                rw [HBl.out.2.2.2] at qq
                go_simp
                refine hK _ _ _ hC (Below.refl _ _) (by exact rfl) ?_
                first | (simp only [Act.put, List.setIfInBounds_toArray, List.set_cons_succ, List.set_cons_zero, hp]; done) | simp [Act.put, hp]
              refine AllOps.cons (fun x u hC hT hp K hK => ?_) ?_
              · simp [KnownTill, Region.binds, VQl] at hp
                clear hT
                go_simp
                refine hK _ _ _ hC (Below.refl _ _) (by exact (by first | exact rfl | exact congrArg (Value.int .i64) swr | simp)) ?_
                first | (simp only [Act.put, List.setIfInBounds_toArray, List.set_cons_succ, List.set_cons_zero, hp]; done) | simp [Act.put, hp]
              refine AllOps.cons (fun x u hC hT hp K hK => ?_) ?_
              · simp [KnownTill, Region.binds, VQl] at hp
                clear hT
                go_simp
                refine hK _ _ _ hC (Below.refl _ _) (by exact (by first | exact rfl | simp)) ?_
                first | (simp only [Act.put, List.setIfInBounds_toArray, List.set_cons_succ, List.set_cons_zero, hp]; done) | simp [Act.put, hp]
              refine AllOps.cons (fun x u hC hT hp K hK => ?_) ?_
              · simp [KnownTill, Region.binds, VQl] at hp
                clear hT
                go_simp
                refine hK _ _ _ hC (Below.refl _ _) (by exact rfl) ?_
                first | (simp only [Act.put, List.setIfInBounds_toArray, List.set_cons_succ, List.set_cons_zero, hp]; done) | simp [Act.put, hp]
              refine AllOps.cons (fun x u hC hT hp K hK => ?_) ?_
              · simp [KnownTill, Region.binds, VQl] at hp
                clear hT
                go_simp
                refine hK _ _ _ hC (Below.refl _ _) (by exact rfl) ?_
                first | (simp only [Act.put, List.setIfInBounds_toArray, List.set_cons_succ, List.set_cons_zero, hp]; done) | simp [Act.put, hp]
              refine AllOps.cons (fun x u hC hT hp K hK => ?_) ?_
              · simp [KnownTill, Region.binds, VQl] at hp
                clear hT
                go_simp
                refine hK _ _ _ hC (Below.refl _ _) (by exact rfl) ?_
                first | (simp only [Act.put, List.setIfInBounds_toArray, List.set_cons_succ, List.set_cons_zero, hp]; done) | simp [Act.put, hp]
              refine AllOps.cons (fun x u hC hT hp K hK => ?_) ?_
              · simp [KnownTill, Region.binds, VQl] at hp
                clear hT
                go_simp
                refine hK _ _ _ hC (Below.refl _ _) (by exact rfl) ?_
                first | (simp only [Act.put, List.setIfInBounds_toArray, List.set_cons_succ, List.set_cons_zero, hp]; done) | simp [Act.put, hp]
              refine AllOps.cons (fun x u hC hT hp K hK => ?_) ?_
              · simp [KnownTill, Region.binds, VQl] at hp
                clear hT
                go_simp
                refine hK _ _ _ hC (Below.refl _ _) (by exact rfl) ?_
                first | (simp only [Act.put, List.setIfInBounds_toArray, List.set_cons_succ, List.set_cons_zero, hp]; done) | simp [Act.put, hp]
              refine AllOps.cons (fun x u hC hT hp K hK => ?_) ?_
              · simp [KnownTill, Region.binds, VQl] at hp
                clear hT
                go_simp
                refine hK _ _ _ hC (Below.refl _ _) (by exact rfl) ?_
                first | (simp only [Act.put, List.setIfInBounds_toArray, List.set_cons_succ, List.set_cons_zero, hp]; done) | simp [Act.put, hp]
              refine AllOps.cons (fun x u hC hT hp K hK => ?_) ?_
              · simp [KnownTill, Region.binds, VQl] at hp
                clear hT
                go_simp
                refine hK _ _ _ hC (Below.refl _ _) (by exact rfl) ?_
                first | (simp only [Act.put, List.setIfInBounds_toArray, List.set_cons_succ, List.set_cons_zero, hp]; done) | simp [Act.put, hp]
              refine AllOps.cons (fun x u hC hT hp K hK => ?_) ?_
              · simp [KnownTill, Region.binds, VQl] at hp
                clear hT
                have qq := (show Below w3.heap.size w3 u from hC).cell (p := ⟨b, o + j * 6 + 1, none⟩) HBl.out.1
                rw [HBl.out.2.2.1] at qq
                go_simp
                refine hK _ _ _ hC (Below.refl _ _) (by exact rfl) ?_
                first | (simp only [Act.put, List.setIfInBounds_toArray, List.set_cons_succ, List.set_cons_zero, hp]; done) | simp [Act.put, hp]
              refine AllOps.cons (fun x u hC hT hp K hK => ?_) ?_
              · simp [KnownTill, Region.binds, VQl] at hp
                clear hT
                go_simp
                refine (HBz.out u hC).mono ?_
                rintro e wA ⟨rfl, hbA⟩
                refine hK _ _ _ (bt hC hbA) hbA (by exact rfl) ?_
                first | (simp only [Act.put, List.setIfInBounds_toArray, List.set_cons_succ, List.set_cons_zero, hp]; done) | simp [Act.put, hp]
              refine AllOps.cons (fun x u hC hT hp K hK => ?_) ?_
              · simp [KnownTill, Region.binds, VQl] at hp
                clear hT
                go_simp
                refine hK _ _ _ hC (Below.refl _ _) (by exact rfl) ?_
                first | (simp only [Act.put, List.setIfInBounds_toArray, List.set_cons_succ, List.set_cons_zero, hp]; done) | simp [Act.put, hp]
              refine AllOps.cons (fun x u hC hT hp K hK => ?_) ?_
              · simp [KnownTill, Region.binds, VQl] at hp
                clear hT
                go_simp
                refine hK _ _ _ hC (Below.refl _ _) (by exact rfl) ?_
                first | (simp only [Act.put, List.setIfInBounds_toArray, List.set_cons_succ, List.set_cons_zero, hp]; done) | simp [Act.put, hp]
              refine AllOps.cons (fun x u hC hT hp K hK => ?_) ?_
              · simp [KnownTill, Region.binds, VQl] at hp
                clear hT
                go_simp
                refine hK _ _ _ hC (Below.refl _ _) (by exact rfl) ?_
                first | (simp only [Act.put, List.setIfInBounds_toArray, List.set_cons_succ, List.set_cons_zero, hp]; done) | simp [Act.put, hp]
              refine AllOps.cons (fun x u hC hT hp K hK => ?_) ?_
              · simp [KnownTill, Region.binds, VQl] at hp
                clear hT
                go_simp
                refine hK _ _ _ hC (Below.refl _ _) (by exact rfl) ?_
                first | (simp only [Act.put, List.setIfInBounds_toArray, List.set_cons_succ, List.set_cons_zero, hp]; done) | simp [Act.put, hp]
              refine AllOps.cons (fun x u hC hT hp K hK => ?_) ?_
              · simp [KnownTill, Region.binds, VQl] at hp
                clear hT
                go_simp
                refine hK _ _ _ hC (Below.refl _ _) (by exact rfl) ?_
                first | (simp only [Act.put, List.setIfInBounds_toArray, List.set_cons_succ, List.set_cons_zero, hp]; done) | simp [Act.put, hp]
              refine AllOps.cons (fun x u hC hT hp K hK => ?_) ?_
              · simp [KnownTill, Region.binds, VQl] at hp
                clear hT
                have qq := (show Below w3.heap.size w3 u from hC).cell (p := ⟨b, o + j * 6 + 1, none⟩) HBl.out.1
                rw [HBl.out.2.2.1] at qq
                go_simp
                refine hK _ _ _ hC (Below.refl _ _) (by exact rfl) ?_
                first | (simp only [Act.put, List.setIfInBounds_toArray, List.set_cons_succ, List.set_cons_zero, hp]; done) | simp [Act.put, hp]
              refine AllOps.cons (fun x u hC hT hp K hK => ?_) ?_
              · simp [KnownTill, Region.binds, VQl] at hp
                clear hT
                go_simp
                refine (HFd.out u hC).mono ?_
                rintro e wA ⟨rfl, rfl⟩
                refine hK _ _ _ hC (Below.refl _ _) (by exact rfl) ?_
                first | (simp only [Act.put, List.setIfInBounds_toArray, List.set_cons_succ, List.set_cons_zero, hp]; done) | simp [Act.put, hp]
              refine AllOps.cons (fun x u hC hT hp K hK => ?_) ?_
              · simp [KnownTill, Region.binds, VQl] at hp
                clear hT
                go_simp
                refine hK _ _ _ hC (Below.refl _ _) (by exact (by first | exact rfl | simp)) ?_
                first | (simp only [Act.put, List.setIfInBounds_toArray, List.set_cons_succ, List.set_cons_zero, hp]; done) | simp [Act.put, hp]
              refine AllOps.cons (fun x u hC hT hp K hK => ?_) ?_
              · simp [KnownTill, Region.binds, VQl] at hp
                clear hT
                go_simp
                refine hK _ _ _ hC (Below.refl _ _) (by exact (by first | exact rfl | simp)) ?_
                first | (simp only [Act.put, List.setIfInBounds_toArray, List.set_cons_succ, List.set_cons_zero, hp]; done) | simp [Act.put, hp]
              refine AllOps.cons (fun x u hC hT hp K hK => ?_) ?_
              · simp [KnownTill, Region.binds, VQl] at hp
                clear hT
                go_simp
                refine hK _ _ _ hC (Below.refl _ _) (by exact rfl) ?_
                first | (simp only [Act.put, List.setIfInBounds_toArray, List.set_cons_succ, List.set_cons_zero, hp]; done) | simp [Act.put, hp]
              exact AllOps.nil
            case finA =>
              intro x u hC hV
              have e103 : x 49 = .bool false := hV 49 (by decide) rfl
              rw [e103]
              clear e103
              clear hV
              have HS1 : Hid (∃ P ws gv, ws.length ≤ j + 1 ∧ LvAt w u g xb S2 P ws gv (50 + (j + 1)) ∧ OwnC u BA A c rl ∧ (∀ r, blk A = some r → ¬ S2.B r ∧ ∀ y ∈ ws, blk y.A ≠ some r) ∧ w.heap.size ≤ BA) := Lib.hid ⟨P', ws', gv3, HZ.out.2.1, (HZ.out.1.below hC).more (by omega), own_same HZ.out.2.2.2.1 (fun r hr _ _ => (show Below w3.heap.size w3 u from hC).block r hr), fun r e => ⟨HZ.out.2.2.2.2.2.1 r e, fun y hy => HZ.out.2.2.2.2.1 y hy r e⟩, HZ.out.2.2.2.2.2.2⟩
              have HLq := Lib.hid HZ.out.2.2.1
              clear hC HS HBz HFd HZ HBl HL0 HLv hf HR HVp HVd HNx HNz swr
              go_wp2_with fail
              go_loopw [12] (fun i wr => ∃ (i0 : Nat) (l' : List Ch), i0 ≤ q6 ∧ i = .int .i64 i0 ∧ Hid (q6 = l'.length ∧ ∃ P ws gv, ws.length ≤ j + 1 ∧ LvAt w wr g xb S2 P ws gv (50 + (j + 1)) ∧ OwnC wr BA A c l' ∧ (∀ r, blk A = some r → ¬ S2.B r ∧ ∀ y ∈ ws, blk y.A ≠ some r) ∧ w.heap.size ≤ BA)) (fun i _ => q6 - (intOf i).toNat)
              case atStart => exact ⟨0, rl, Nat.zero_le _, rfl, Lib.hid ⟨HLq.out, HS1.out⟩⟩
              case round =>
                clear HS1 HLq
                obtain ⟨i0, l', hi, rfl, HI⟩ := hrel
                by_cases hiq : i0 < q6
                · have hiI : (i0 : Int) < (q6 : Int) := by omega
                  obtain ⟨hlq, P2, ws2, gv2, hwl, hlv, own, hSA, hwA⟩ := HI.out
                  have hil : i0 < l'.length := by rw [← hlq]; exact hiq
                  obtain ⟨ob, cap, e⟩ := Joins.ownsRow_form own (by omega)
                  cases e
                  unfold OwnC at own
                  rw [← hlq] at own
                  obtain ⟨hoB, hol⟩ := own.lt ob rfl
                  obtain ⟨a1, a2, a3⟩ := chV_at l' i0 hil
                  have c1 := (own.cellAt (i0 * 3) (by omega)).trans a1
                  have f1 := own.frozenAt (i0 * 3)
                  obtain ⟨xx, hxx⟩ : ∃ xx, xx = l'[i0]'hil := ⟨_, rfl⟩
                  rw [← hxx] at c1
                  have st := own.stored (i0 * 3) (.int .i64 77)
                  have hset : (chV l').set (i0 * 3) (.int .i64 77) = chV (l'.set i0 ⟨77, xx.y, xx.v⟩) := chV_set_k hxx
                  rw [hset] at st
                  have hblk : ∃ cur : Array Value, Blk wr ob 49 cur := by
                    rcases own.2 with ⟨h1, _⟩ | ⟨g', cap', cur, h1, _, h2, _⟩
                    · cases h1
                    · cases h1; exact ⟨cur, h2⟩
                  obtain ⟨cur, hcur⟩ := hblk
                  have HN2 : Hid (q6 = (l'.set i0 ⟨77, xx.y, xx.v⟩).length ∧ ∃ P ws gv, ws.length ≤ j + 1 ∧ LvAt w (wr.setCell ⟨ob, i0 * 3, none⟩ (.int .i64 77)) g xb S2 P ws gv (50 + (j + 1)) ∧ OwnC (wr.setCell ⟨ob, i0 * 3, none⟩ (.int .i64 77)) BA (some ⟨ob, 0, none⟩) c (l'.set i0 ⟨77, xx.y, xx.v⟩) ∧ (∀ r, blk (some (⟨ob, 0, none⟩ : Addr)) = some r → ¬ S2.B r ∧ ∀ y ∈ ws, blk y.A ≠ some r) ∧ w.heap.size ≤ BA) := Lib.hid
                    ⟨by rw [List.length_set]; exact hlq, P2, ws2, gv2, hwl, hlv.write st.2 hcur (hSA ob rfl).1 (hSA ob rfl).2 (Nat.le_trans hwA hoB), by unfold OwnC; rw [List.length_set, ← hlq]; exact st.1, hSA, hwA⟩
                  clear hlq hwl hlv own hSA hwA hoB hol a1 a2 a3 st hset hcur hxx HI hil
                  go_wp2
                  go_roundw
                  case rel => exact ⟨i0 + 1, _, by omega, by go_num, HN2⟩
                  case measure => simp [intOf]; omega
                · obtain rfl : i0 = q6 := by omega
                  have hiI : ¬ (i0 : Int) < (i0 : Int) := by omega
                  have HT : Hid (∃ S P ws gv, ws.length ≤ j + 1 ∧ LvAt w wr g xb S P ws gv (50 + (j + 1))) := Lib.hid (by
                    obtain ⟨_, P2, ws2, gv2, hwl, hlv, _⟩ := HI.out
                    exact ⟨S2, P2, ws2, gv2, hwl, hlv⟩)
                  clear HI
                  go_wp2
                  go_roundw
                  case rel => exact ⟨j + 1, by omega, by omega, by go_num, HT⟩
                  case measure => simp [intOf]; omega
          · rw [hf] at HBz0 HFd0
            have HBz := Lib.hid HBz0
            have HFd := Lib.hid HFd0
            clear HBz0 HFd0
            dsimp only [Option.isSome_some, Option.map_some] at HBz HFd
            refine wp_region_invT (F := ?FB) (V := VQl g xb b o j n q6 c c6 cl A A6 rv re on gv3 gn true ((.pointer (some ⟨z.q, 0, none⟩))) nP zs) (dead := fun _ => none) (T := fun _ _ => True) (C := fun u => Below w3.heap.size w3 u) (E := fun _ u u' => Below u.heap.size u u') (by kernel_rfl) (by kernel_rfl) (by kernel_rfl) (fun x => ?hFB) ?hmonoB ?hTmB ?hTB ?hCB ?stepB ?finB
            case hFB => simp only [mkA, Act.put, List.setIfInBounds_toArray, List.set_cons_succ, List.set_cons_zero, Nat.reduceAdd, Nat.zero_add]; first | with_reducible rfl | rfl
            case hmonoB => exact fun q' i v u u' he hik hwt hdd hv => VQl.mono (q := q') he hv
            case hTmB => exact fun _ _ _ _ _ _ _ _ => trivial
            case hTB => exact fun j => trivial
            case hCB => exact (Below.refl _ _).drew
            case stepB =>
              refine AllOps.cons (fun x u hC hT hp K hK => ?_) ?_
              · clear hp hT
                go_simp
                refine hK _ _ _ hC (Below.refl _ _) (by exact rfl) ?_
                first | (simp only [Act.put, List.setIfInBounds_toArray, List.set_cons_succ, List.set_cons_zero]; done) | simp [Act.put]
              refine AllOps.cons (fun x u hC hT hp K hK => ?_) ?_
              · clear hp hT
                go_simp
                refine hK _ _ _ hC (Below.refl _ _) (by exact rfl) ?_
                first | (simp only [Act.put, List.setIfInBounds_toArray, List.set_cons_succ, List.set_cons_zero]; done) | simp [Act.put]
              refine AllOps.cons (fun x u hC hT hp K hK => ?_) ?_
              · simp [KnownTill, Region.binds, VQl] at hp
                clear hT
                go_simp
                refine hK _ _ _ hC (Below.refl _ _) (by exact (by first | exact rfl | simp)) ?_
                first | (simp only [Act.put, List.setIfInBounds_toArray, List.set_cons_succ, List.set_cons_zero, hp]; done) | simp [Act.put, hp]
              refine AllOps.cons (fun x u hC hT hp K hK => ?_) ?_
              · simp [KnownTill, Region.binds, VQl] at hp
                clear hT
                go_simp
                refine hK _ _ _ hC (Below.refl _ _) (by exact rfl) ?_
                first | (simp only [Act.put, List.setIfInBounds_toArray, List.set_cons_succ, List.set_cons_zero, hp]; done) | simp [Act.put, hp]
              refine AllOps.cons (fun x u hC hT hp K hK => ?_) ?_
              · simp [KnownTill, Region.binds, VQl] at hp
                clear hT
                go_simp
                refine hK _ _ _ hC (Below.refl _ _) (by exact rfl) ?_
                first | (simp only [Act.put, List.setIfInBounds_toArray, List.set_cons_succ, List.set_cons_zero, hp]; done) | simp [Act.put, hp]
              refine AllOps.cons (fun x u hC hT hp K hK => ?_) ?_
              · simp [KnownTill, Region.binds, VQl] at hp
                clear hT
                go_simp
                refine hK _ _ _ hC (Below.refl _ _) (by exact rfl) ?_
                first | (simp only [Act.put, List.setIfInBounds_toArray, List.set_cons_succ, List.set_cons_zero, hp]; done) | simp [Act.put, hp]
              refine AllOps.cons (fun x u hC hT hp K hK => ?_) ?_
              · simp [KnownTill, Region.binds, VQl] at hp
                clear hT
                go_simp
                refine (HS.out u hC).mono ?_
                rintro e wA ⟨rfl, hbA⟩
                refine hK _ _ _ (bt hC hbA) hbA (by exact rfl) ?_
                first | (simp only [Act.put, List.setIfInBounds_toArray, List.set_cons_succ, List.set_cons_zero, hp]; done) | simp [Act.put, hp]
              refine AllOps.cons (fun x u hC hT hp K hK => ?_) ?_
              · simp [KnownTill, Region.binds, VQl] at hp
                clear hT
                go_simp
                refine hK _ _ _ hC (Below.refl _ _) (by exact rfl) ?_
                first | (simp only [Act.put, List.setIfInBounds_toArray, List.set_cons_succ, List.set_cons_zero, hp]; done) | simp [Act.put, hp]
              refine AllOps.cons (fun x u hC hT hp K hK => ?_) ?_
              · simp [KnownTill, Region.binds, VQl] at hp
                clear hT
                go_simp
                refine hK _ _ _ hC (Below.refl _ _) (by exact rfl) ?_
                first | (simp only [Act.put, List.setIfInBounds_toArray, List.set_cons_succ, List.set_cons_zero, hp]; done) | simp [Act.put, hp]
              refine AllOps.cons (fun x u hC hT hp K hK => ?_) ?_
              · simp [KnownTill, Region.binds, VQl] at hp
                clear hT
                go_simp
                refine hK _ _ _ hC (Below.refl _ _) (by exact rfl) ?_
                first | (simp only [Act.put, List.setIfInBounds_toArray, List.set_cons_succ, List.set_cons_zero, hp]; done) | simp [Act.put, hp]
              refine AllOps.cons (fun x u hC hT hp K hK => ?_) ?_
              · simp [KnownTill, Region.binds, VQl] at hp
                clear hT
                go_simp
                refine hK _ _ _ hC (Below.refl _ _) (by exact rfl) ?_
                first | (simp only [Act.put, List.setIfInBounds_toArray, List.set_cons_succ, List.set_cons_zero, hp]; done) | simp [Act.put, hp]
              refine AllOps.cons (fun x u hC hT hp K hK => ?_) ?_
              · simp [KnownTill, Region.binds, VQl] at hp
                clear hT
                go_simp
                refine hK _ _ _ hC (Below.refl _ _) (by exact rfl) ?_
                first | (simp only [Act.put, List.setIfInBounds_toArray, List.set_cons_succ, List.set_cons_zero, hp]; done) | simp [Act.put, hp]
              refine AllOps.cons (fun x u hC hT hp K hK => ?_) ?_
              · simp [KnownTill, Region.binds, VQl] at hp
                clear hT
                go_simp
                refine hK _ _ _ hC (Below.refl _ _) (by exact (by first | exact rfl | simp)) ?_
                first | (simp only [Act.put, List.setIfInBounds_toArray, List.set_cons_succ, List.set_cons_zero, hp]; done) | simp [Act.put, hp]
              refine AllOps.cons (fun x u hC hT hp K hK => ?_) ?_
              · simp [KnownTill, Region.binds, VQl] at hp
                clear hT
                go_simp
                refine hK _ _ _ hC (Below.refl _ _) (by exact rfl) ?_
                first | (simp only [Act.put, List.setIfInBounds_toArray, List.set_cons_succ, List.set_cons_zero, hp]; done) | simp [Act.put, hp]
              refine AllOps.cons (fun x u hC hT hp K hK => ?_) ?_
              · simp [KnownTill, Region.binds, VQl] at hp
                clear hT
                go_simp
                refine hK _ _ _ hC (Below.refl _ _) (by exact rfl) ?_
                first | (simp only [Act.put, List.setIfInBounds_toArray, List.set_cons_succ, List.set_cons_zero, hp]; done) | simp [Act.put, hp]
              refine AllOps.cons (fun x u hC hT hp K hK => ?_) ?_
              · simp [KnownTill, Region.binds, VQl] at hp
                clear hT
                go_simp
                refine hK _ _ _ hC (Below.refl _ _) (by exact rfl) ?_
                first | (simp only [Act.put, List.setIfInBounds_toArray, List.set_cons_succ, List.set_cons_zero, hp]; done) | simp [Act.put, hp]
              refine AllOps.cons (fun x u hC hT hp K hK => ?_) ?_
              · simp [KnownTill, Region.binds, VQl] at hp
                clear hT
                go_simp
                refine (HVp.out u hC).mono ?_
                rintro e wA ⟨vA, rfl, hvA, hbA⟩
                refine hK _ _ _ (bt hC hbA) hbA hvA ?_
                first | (simp only [Act.put, List.setIfInBounds_toArray, List.set_cons_succ, List.set_cons_zero, hp]; done) | simp [Act.put, hp]
              refine AllOps.cons (fun x u hC hT hp K hK => ?_) ?_
              · simp [KnownTill, Region.binds, VQl] at hp
                clear hT
                go_simp
                refine hK _ _ _ hC (Below.refl _ _) (by exact rfl) ?_
                first | (simp only [Act.put, List.setIfInBounds_toArray, List.set_cons_succ, List.set_cons_zero, hp]; done) | simp [Act.put, hp]
              refine AllOps.cons (fun x u hC hT hp K hK => ?_) ?_
              · simp [KnownTill, Region.binds, VQl] at hp
                clear hT
                go_simp
                refine (HVd.out u hC).mono ?_
                rintro e wA ⟨vA, rfl, hvA, hbA⟩
                refine hK _ _ _ (bt hC hbA) hbA hvA ?_
                first | (simp only [Act.put, List.setIfInBounds_toArray, List.set_cons_succ, List.set_cons_zero, hp]; done) | simp [Act.put, hp]
              refine AllOps.cons (fun x u hC hT hp K hK => ?_) ?_
              · simp [KnownTill, Region.binds, VQl] at hp
                clear hT
                go_simp
                have h1 : IsU u nP zs (x 16) := by first | exact hp.1 | exact hp.2.1 | exact hp.2 | exact hp.2.2.1 | exact hp.2.2
                have h2 : IsU u nP zs (x 18) := by first | exact hp.2.1 | exact hp.2 | exact hp.2.2.1 | exact hp.2.2 | exact hp.2.2.2
                refine (IsU.same HNz.out hnz h1 h2).mono ?_
                rintro e wA ⟨rfl, hbA⟩
                refine hK _ _ _ (bt hC hbA) hbA (by exact rfl) ?_
                first | (simp only [Act.put, List.setIfInBounds_toArray, List.set_cons_succ, List.set_cons_zero, hp]; done) | simp [Act.put, hp]
              refine AllOps.cons (fun x u hC hT hp K hK => ?_) ?_
              · simp [KnownTill, Region.binds, VQl] at hp
                clear hT
                go_simp
                refine hK _ _ _ hC (Below.refl _ _) (by exact rfl) ?_
                first | (simp only [Act.put, List.setIfInBounds_toArray, List.set_cons_succ, List.set_cons_zero, hp]; done) | simp [Act.put, hp]
              refine AllOps.cons (fun x u hC hT hp K hK => ?_) ?_
              · simp [KnownTill, Region.binds, VQl] at hp
                clear hT
                go_simp
                refine hK _ _ _ hC (Below.refl _ _) (by exact rfl) ?_
                first | (simp only [Act.put, List.setIfInBounds_toArray, List.set_cons_succ, List.set_cons_zero, hp]; done) | simp [Act.put, hp]
              refine AllOps.cons (fun x u hC hT hp K hK => ?_) ?_
              · simp [KnownTill, Region.binds, VQl] at hp
                clear hT
                go_simp
                refine hK _ _ _ hC (Below.refl _ _) (by exact rfl) ?_
                first | (simp only [Act.put, List.setIfInBounds_toArray, List.set_cons_succ, List.set_cons_zero, hp]; done) | simp [Act.put, hp]
              refine AllOps.cons (fun x u hC hT hp K hK => ?_) ?_
              · simp [KnownTill, Region.binds, VQl] at hp
                clear hT
                go_simp
                refine hK _ _ _ hC (Below.refl _ _) (by exact rfl) ?_
                first | (simp only [Act.put, List.setIfInBounds_toArray, List.set_cons_succ, List.set_cons_zero, hp]; done) | simp [Act.put, hp]
              refine AllOps.cons (fun x u hC hT hp K hK => ?_) ?_
              · simp [KnownTill, Region.binds, VQl] at hp
                clear hT
                go_simp
                refine (HNx.out u hC).mono ?_
                rintro e wA ⟨rfl, rfl⟩
                refine hK _ _ _ hC (Below.refl _ _) (by exact rfl) ?_
                first | (simp only [Act.put, List.setIfInBounds_toArray, List.set_cons_succ, List.set_cons_zero, hp]; done) | simp [Act.put, hp]
              refine AllOps.cons (fun x u hC hT hp K hK => ?_) ?_
              · simp [KnownTill, Region.binds, VQl] at hp
                clear hT
                go_simp
                refine hK _ _ _ hC (Below.refl _ _) (by exact rfl) ?_
                first | (simp only [Act.put, List.setIfInBounds_toArray, List.set_cons_succ, List.set_cons_zero, hp]; done) | simp [Act.put, hp]
              refine AllOps.cons (fun x u hC hT hp K hK => ?_) ?_
              · simp [KnownTill, Region.binds, VQl] at hp
                clear hT
                go_simp
                refine hK _ _ _ hC (Below.refl _ _) (by exact rfl) ?_
                first | (simp only [Act.put, List.setIfInBounds_toArray, List.set_cons_succ, List.set_cons_zero, hp]; done) | simp [Act.put, hp]
              refine AllOps.cons (fun x u hC hT hp K hK => ?_) ?_
              · simp [KnownTill, Region.binds, VQl] at hp
                clear hT
                go_simp
                refine hK _ _ _ hC (Below.refl _ _) (by exact rfl) ?_
                first | (simp only [Act.put, List.setIfInBounds_toArray, List.set_cons_succ, List.set_cons_zero, hp]; done) | simp [Act.put, hp]
              refine AllOps.cons (fun x u hC hT hp K hK => ?_) ?_
              · simp [KnownTill, Region.binds, VQl] at hp
                clear hT
                have qq := (show Below w3.heap.size w3 u from hC).cell (p := ⟨xb, 2, none⟩) HBl.out.2.1
                rw [HBl.out.2.2.2] at qq
                go_simp
                refine hK _ _ _ hC (Below.refl _ _) (by exact rfl) ?_
                first | (simp only [Act.put, List.setIfInBounds_toArray, List.set_cons_succ, List.set_cons_zero, hp]; done) | simp [Act.put, hp]
              refine AllOps.cons (fun x u hC hT hp K hK => ?_) ?_
              · simp [KnownTill, Region.binds, VQl] at hp
                clear hT
                go_simp
                refine hK _ _ _ hC (Below.refl _ _) (by exact (by first | exact rfl | exact congrArg (Value.int .i64) swr | simp)) ?_
                first | (simp only [Act.put, List.setIfInBounds_toArray, List.set_cons_succ, List.set_cons_zero, hp]; done) | simp [Act.put, hp]
              refine AllOps.cons (fun x u hC hT hp K hK => ?_) ?_
              · simp [KnownTill, Region.binds, VQl] at hp
                clear hT
                go_simp
                refine hK _ _ _ hC (Below.refl _ _) (by exact (by first | exact rfl | simp)) ?_
                first | (simp only [Act.put, List.setIfInBounds_toArray, List.set_cons_succ, List.set_cons_zero, hp]; done) | simp [Act.put, hp]
              refine AllOps.cons (fun x u hC hT hp K hK => ?_) ?_
              · simp [KnownTill, Region.binds, VQl] at hp
                clear hT
                go_simp
                refine hK _ _ _ hC (Below.refl _ _) (by exact rfl) ?_
                first | (simp only [Act.put, List.setIfInBounds_toArray, List.set_cons_succ, List.set_cons_zero, hp]; done) | simp [Act.put, hp]
              refine AllOps.cons (fun x u hC hT hp K hK => ?_) ?_
              · simp [KnownTill, Region.binds, VQl] at hp
                clear hT
                go_simp
                refine hK _ _ _ hC (Below.refl _ _) (by exact rfl) ?_
                first | (simp only [Act.put, List.setIfInBounds_toArray, List.set_cons_succ, List.set_cons_zero, hp]; done) | simp [Act.put, hp]
              refine AllOps.cons (fun x u hC hT hp K hK => ?_) ?_
              · simp [KnownTill, Region.binds, VQl] at hp
                clear hT
                go_simp
                refine hK _ _ _ hC (Below.refl _ _) (by exact rfl) ?_
                first | (simp only [Act.put, List.setIfInBounds_toArray, List.set_cons_succ, List.set_cons_zero, hp]; done) | simp [Act.put, hp]
              refine AllOps.cons (fun x u hC hT hp K hK => ?_) ?_
              · simp [KnownTill, Region.binds, VQl] at hp
                clear hT
                go_simp
                refine hK _ _ _ hC (Below.refl _ _) (by exact rfl) ?_
                first | (simp only [Act.put, List.setIfInBounds_toArray, List.set_cons_succ, List.set_cons_zero, hp]; done) | simp [Act.put, hp]
              refine AllOps.cons (fun x u hC hT hp K hK => ?_) ?_
              · simp [KnownTill, Region.binds, VQl] at hp
                clear hT
                go_simp
                refine hK _ _ _ hC (Below.refl _ _) (by exact rfl) ?_
                first | (simp only [Act.put, List.setIfInBounds_toArray, List.set_cons_succ, List.set_cons_zero, hp]; done) | simp [Act.put, hp]
              refine AllOps.cons (fun x u hC hT hp K hK => ?_) ?_
              · simp [KnownTill, Region.binds, VQl] at hp
                clear hT
                go_simp
                refine hK _ _ _ hC (Below.refl _ _) (by exact rfl) ?_
                first | (simp only [Act.put, List.setIfInBounds_toArray, List.set_cons_succ, List.set_cons_zero, hp]; done) | simp [Act.put, hp]
              refine AllOps.cons (fun x u hC hT hp K hK => ?_) ?_
              · simp [KnownTill, Region.binds, VQl] at hp
                clear hT
                go_simp
                refine hK _ _ _ hC (Below.refl _ _) (by exact rfl) ?_
                first | (simp only [Act.put, List.setIfInBounds_toArray, List.set_cons_succ, List.set_cons_zero, hp]; done) | simp [Act.put, hp]
              refine AllOps.cons (fun x u hC hT hp K hK => ?_) ?_
              · simp [KnownTill, Region.binds, VQl] at hp
                clear hT
                have qq := (show Below w3.heap.size w3 u from hC).cell (p := ⟨b, o + j * 6 + 1, none⟩) HBl.out.1
                rw [HBl.out.2.2.1] at qq
                go_simp
                refine hK _ _ _ hC (Below.refl _ _) (by exact rfl) ?_
                first | (simp only [Act.put, List.setIfInBounds_toArray, List.set_cons_succ, List.set_cons_zero, hp]; done) | simp [Act.put, hp]
              refine AllOps.cons (fun x u hC hT hp K hK => ?_) ?_
              · simp [KnownTill, Region.binds, VQl] at hp
                clear hT
                go_simp
                refine (HBz.out u hC).mono ?_
                rintro e wA ⟨rfl, hbA⟩
                refine hK _ _ _ (bt hC hbA) hbA (by exact rfl) ?_
                first | (simp only [Act.put, List.setIfInBounds_toArray, List.set_cons_succ, List.set_cons_zero, hp]; done) | simp [Act.put, hp]
              refine AllOps.cons (fun x u hC hT hp K hK => ?_) ?_
              · simp [KnownTill, Region.binds, VQl] at hp
                clear hT
                go_simp
                refine hK _ _ _ hC (Below.refl _ _) (by exact rfl) ?_
                first | (simp only [Act.put, List.setIfInBounds_toArray, List.set_cons_succ, List.set_cons_zero, hp]; done) | simp [Act.put, hp]
              refine AllOps.cons (fun x u hC hT hp K hK => ?_) ?_
              · simp [KnownTill, Region.binds, VQl] at hp
                clear hT
                go_simp
                refine hK _ _ _ hC (Below.refl _ _) (by exact rfl) ?_
                first | (simp only [Act.put, List.setIfInBounds_toArray, List.set_cons_succ, List.set_cons_zero, hp]; done) | simp [Act.put, hp]
              refine AllOps.cons (fun x u hC hT hp K hK => ?_) ?_
              · simp [KnownTill, Region.binds, VQl] at hp
                clear hT
                go_simp
                refine hK _ _ _ hC (Below.refl _ _) (by exact rfl) ?_
                first | (simp only [Act.put, List.setIfInBounds_toArray, List.set_cons_succ, List.set_cons_zero, hp]; done) | simp [Act.put, hp]
              refine AllOps.cons (fun x u hC hT hp K hK => ?_) ?_
              · simp [KnownTill, Region.binds, VQl] at hp
                clear hT
                go_simp
                refine hK _ _ _ hC (Below.refl _ _) (by exact rfl) ?_
                first | (simp only [Act.put, List.setIfInBounds_toArray, List.set_cons_succ, List.set_cons_zero, hp]; done) | simp [Act.put, hp]
              refine AllOps.cons (fun x u hC hT hp K hK => ?_) ?_
              · simp [KnownTill, Region.binds, VQl] at hp
                clear hT
                go_simp
                refine hK _ _ _ hC (Below.refl _ _) (by exact rfl) ?_
                first | (simp only [Act.put, List.setIfInBounds_toArray, List.set_cons_succ, List.set_cons_zero, hp]; done) | simp [Act.put, hp]
              refine AllOps.cons (fun x u hC hT hp K hK => ?_) ?_
              · simp [KnownTill, Region.binds, VQl] at hp
                clear hT
                have qq := (show Below w3.heap.size w3 u from hC).cell (p := ⟨b, o + j * 6 + 1, none⟩) HBl.out.1
                rw [HBl.out.2.2.1] at qq
                go_simp
                refine hK _ _ _ hC (Below.refl _ _) (by exact rfl) ?_
                first | (simp only [Act.put, List.setIfInBounds_toArray, List.set_cons_succ, List.set_cons_zero, hp]; done) | simp [Act.put, hp]
              refine AllOps.cons (fun x u hC hT hp K hK => ?_) ?_
              · simp [KnownTill, Region.binds, VQl] at hp
                clear hT
                go_simp
                refine (HFd.out u hC).mono ?_
                rintro e wA ⟨rfl, rfl⟩
                refine hK _ _ _ hC (Below.refl _ _) (by exact rfl) ?_
                first | (simp only [Act.put, List.setIfInBounds_toArray, List.set_cons_succ, List.set_cons_zero, hp]; done) | simp [Act.put, hp]
              refine AllOps.cons (fun x u hC hT hp K hK => ?_) ?_
              · simp [KnownTill, Region.binds, VQl] at hp
                clear hT
                go_simp
                refine hK _ _ _ hC (Below.refl _ _) (by exact (by first | exact rfl | simp)) ?_
                first | (simp only [Act.put, List.setIfInBounds_toArray, List.set_cons_succ, List.set_cons_zero, hp]; done) | simp [Act.put, hp]
              refine AllOps.cons (fun x u hC hT hp K hK => ?_) ?_
              · simp [KnownTill, Region.binds, VQl] at hp
                clear hT
                go_simp
                refine hK _ _ _ hC (Below.refl _ _) (by exact (by first | exact rfl | simp)) ?_
                first | (simp only [Act.put, List.setIfInBounds_toArray, List.set_cons_succ, List.set_cons_zero, hp]; done) | simp [Act.put, hp]
              refine AllOps.cons (fun x u hC hT hp K hK => ?_) ?_
              · simp [KnownTill, Region.binds, VQl] at hp
                clear hT
                go_simp
                refine hK _ _ _ hC (Below.refl _ _) (by exact rfl) ?_
                first | (simp only [Act.put, List.setIfInBounds_toArray, List.set_cons_succ, List.set_cons_zero, hp]; done) | simp [Act.put, hp]
              exact AllOps.nil
            case finB =>
              intro x u hC hV
              have e103 : x 49 = .bool false := hV 49 (by decide) rfl
              rw [e103]
              clear e103
              clear hV
              have HS1 : Hid (∃ P ws gv, ws.length ≤ j + 1 ∧ LvAt w u g xb S2 P ws gv (50 + (j + 1)) ∧ OwnC u BA A c rl ∧ (∀ r, blk A = some r → ¬ S2.B r ∧ ∀ y ∈ ws, blk y.A ≠ some r) ∧ w.heap.size ≤ BA) := Lib.hid ⟨P', ws', gv3, HZ.out.2.1, (HZ.out.1.below hC).more (by omega), own_same HZ.out.2.2.2.1 (fun r hr _ _ => (show Below w3.heap.size w3 u from hC).block r hr), fun r e => ⟨HZ.out.2.2.2.2.2.1 r e, fun y hy => HZ.out.2.2.2.2.1 y hy r e⟩, HZ.out.2.2.2.2.2.2⟩
              have HLq := Lib.hid HZ.out.2.2.1
              clear hC HS HBz HFd HZ HBl HL0 HLv hf HR HVp HVd HNx HNz swr
              go_wp2_with fail
              go_loopw [12] (fun i wr => ∃ (i0 : Nat) (l' : List Ch), i0 ≤ q6 ∧ i = .int .i64 i0 ∧ Hid (q6 = l'.length ∧ ∃ P ws gv, ws.length ≤ j + 1 ∧ LvAt w wr g xb S2 P ws gv (50 + (j + 1)) ∧ OwnC wr BA A c l' ∧ (∀ r, blk A = some r → ¬ S2.B r ∧ ∀ y ∈ ws, blk y.A ≠ some r) ∧ w.heap.size ≤ BA)) (fun i _ => q6 - (intOf i).toNat)
              case atStart => exact ⟨0, rl, Nat.zero_le _, rfl, Lib.hid ⟨HLq.out, HS1.out⟩⟩
              case round =>
                clear HS1 HLq
                obtain ⟨i0, l', hi, rfl, HI⟩ := hrel
                by_cases hiq : i0 < q6
                · have hiI : (i0 : Int) < (q6 : Int) := by omega
                  obtain ⟨hlq, P2, ws2, gv2, hwl, hlv, own, hSA, hwA⟩ := HI.out
                  have hil : i0 < l'.length := by rw [← hlq]; exact hiq
                  obtain ⟨ob, cap, e⟩ := Joins.ownsRow_form own (by omega)
                  cases e
                  unfold OwnC at own
                  rw [← hlq] at own
                  obtain ⟨hoB, hol⟩ := own.lt ob rfl
                  obtain ⟨a1, a2, a3⟩ := chV_at l' i0 hil
                  have c1 := (own.cellAt (i0 * 3) (by omega)).trans a1
                  have f1 := own.frozenAt (i0 * 3)
                  obtain ⟨xx, hxx⟩ : ∃ xx, xx = l'[i0]'hil := ⟨_, rfl⟩
                  rw [← hxx] at c1
                  have st := own.stored (i0 * 3) (.int .i64 77)
                  have hset : (chV l').set (i0 * 3) (.int .i64 77) = chV (l'.set i0 ⟨77, xx.y, xx.v⟩) := chV_set_k hxx
                  rw [hset] at st
                  have hblk : ∃ cur : Array Value, Blk wr ob 49 cur := by
                    rcases own.2 with ⟨h1, _⟩ | ⟨g', cap', cur, h1, _, h2, _⟩
                    · cases h1
                    · cases h1; exact ⟨cur, h2⟩
                  obtain ⟨cur, hcur⟩ := hblk
                  have HN2 : Hid (q6 = (l'.set i0 ⟨77, xx.y, xx.v⟩).length ∧ ∃ P ws gv, ws.length ≤ j + 1 ∧ LvAt w (wr.setCell ⟨ob, i0 * 3, none⟩ (.int .i64 77)) g xb S2 P ws gv (50 + (j + 1)) ∧ OwnC (wr.setCell ⟨ob, i0 * 3, none⟩ (.int .i64 77)) BA (some ⟨ob, 0, none⟩) c (l'.set i0 ⟨77, xx.y, xx.v⟩) ∧ (∀ r, blk (some (⟨ob, 0, none⟩ : Addr)) = some r → ¬ S2.B r ∧ ∀ y ∈ ws, blk y.A ≠ some r) ∧ w.heap.size ≤ BA) := Lib.hid
                    ⟨by rw [List.length_set]; exact hlq, P2, ws2, gv2, hwl, hlv.write st.2 hcur (hSA ob rfl).1 (hSA ob rfl).2 (Nat.le_trans hwA hoB), by unfold OwnC; rw [List.length_set, ← hlq]; exact st.1, hSA, hwA⟩
                  clear hlq hwl hlv own hSA hwA hoB hol a1 a2 a3 st hset hcur hxx HI hil
                  go_wp2
                  go_roundw
                  case rel => exact ⟨i0 + 1, _, by omega, by go_num, HN2⟩
                  case measure => simp [intOf]; omega
                · obtain rfl : i0 = q6 := by omega
                  have hiI : ¬ (i0 : Int) < (i0 : Int) := by omega
                  have HT : Hid (∃ S P ws gv, ws.length ≤ j + 1 ∧ LvAt w wr g xb S P ws gv (50 + (j + 1))) := Lib.hid (by
                    obtain ⟨_, P2, ws2, gv2, hwl, hlv, _⟩ := HI.out
                    exact ⟨S2, P2, ws2, gv2, hwl, hlv⟩)
                  clear HI
                  go_wp2
                  go_roundw
                  case rel => exact ⟨j + 1, by omega, by omega, by go_num, HT⟩
                  case measure => simp [intOf]; omega
        · clear r0 r1 r2 r3 r4 r5
          have hb := HLv.out.be
          have HBe := Lib.hid hb
          clear hb HR
          go_wp2_with fail
          refine (alive_any _).mono ?_
          rintro e w5 ⟨rfl, hb5⟩
          have hB5 := Lib.hid (bt HBe.out hb5)
          clear hb5
          go_wp2
          go_ret
          exact ⟨rfl, hB5.out⟩
      · have hj6I : ¬ (j : Int) < 60 := by omega
        have hb := HR.out.elim fun S h => h.elim fun P h => h.elim fun ws h => h.elim fun gv h => h.2.be
        have HBe := Lib.hid hb
        clear hb HR
        go_wp2_with fail
        refine (alive_any _).mono ?_
        rintro e w5 ⟨rfl, hb5⟩
        have hB5 := Lib.hid (bt HBe.out hb5)
        clear hb5
        go_wp2
        go_ret
        exact ⟨rfl, hB5.out⟩
    · have hjI : ¬ (j : Int) < (n : Int) := by omega
      have hb := HR.out.elim fun S h => h.elim fun P h => h.elim fun ws h => h.elim fun gv h => h.2.be
      have HBe := Lib.hid hb
      clear hb HR
      go_wp2_with fail
      refine (alive_any _).mono ?_
      rintro e w5 ⟨rfl, hb5⟩
      have hB5 := Lib.hid (bt HBe.out hb5)
      clear hb5
      go_wp2
      go_ret
      exact ⟨rfl, hB5.out⟩
end Go.Proofs.Ytfcafahgmnnlnaa.Qu
