/- Layer 14: QueueKeeps. -/
import Derived.Test.YtfcafahgmnnlnaaQ25
namespace Go.Proofs.Ytfcafahgmnnlnaa.Qu
open Go.RowKit Go.Maps Go.Deep
set_option linter.unusedVariables false
set_option linter.unusedSimpArgs false

def putV (l : List Ch) : List Nat := (l.filter fun x => decide (x.k = 3)).map Ch.v
theorem newsQ_v : ∀ (l : List Ch) (g : Int), (newsQ g l).map IT.v = putV l
  | [], g => rfl
  | x :: r, g => by
    unfold newsQ putV
    rw [List.filter_cons]
    by_cases e : x.k = 3
    · rw [if_pos e, if_pos (by simpa using e), List.map_cons, List.map_cons, newsQ_v r]; rfl
    · rw [if_neg e, if_neg (by simpa using e), newsQ_v r]; rfl
theorem putV_len (l : List Ch) : (putV l).length = putsL l := by unfold putV putsL; rw [List.length_map]
theorem putV_at (l : List Ch) (i : Nat) (h : i < l.length) (hk : (l[i]'h).k = 3) : (putV l)[putsL (l.take i)]? = some (l[i]'h).v := by
  have e : l = l.take i ++ l[i]'h :: l.drop (i + 1) := by rw [← List.drop_eq_getElem_cons h, List.take_append_drop]
  have e2 : putV l = putV (l.take i) ++ (l[i]'h).v :: putV (l.drop (i + 1)) := by
    conv => lhs; rw [e]
    unfold putV
    rw [List.filter_append, List.map_append, List.filter_cons, if_pos (by simpa using hk), List.map_cons]
  rw [e2, List.getElem?_append_right (by rw [putV_len]; exact Nat.le_refl _), putV_len, Nat.sub_self]; rfl
theorem tk_len : ∀ (l : List Ch), kdOk l → (tkL l).length + putsL l = l.length
  | [], _ => rfl
  | x :: r, h => by
    have ih := tk_len r fun y hy => h y (List.mem_cons_of_mem _ hy)
    unfold tkL putsL at ih ⊢
    rw [List.filter_cons, List.filter_cons, List.length_cons]
    rcases h x (List.mem_cons_self ..) with ⟨e, _⟩ | e
    · rw [if_neg (by simp [e]), if_pos (by simp [e]), List.length_cons]; omega
    · rw [if_pos (by simp [e]), if_neg (by simp [e]), List.length_cons]; omega
theorem kept_len (L : List IT) (n : Int) : (keptI L n).length + (byI L n).length = L.length := by
  unfold keptI byI
  induction L with
  | nil => rfl
  | cons x r ih =>
    rw [List.filter_cons, List.filter_cons, List.length_cons]
    by_cases e : x.t = n
    · rw [if_neg (by simp [e]), if_pos (by simp [e]), List.length_cons]; omega
    · rw [if_pos (by simp [e]), if_neg (by simp [e]), List.length_cons]; omega
/-- What prepare hands out is what stands there; the items stay. -/
theorem prep_facts {S : QS} {n : Int} (h : openE S n = 0) : (prepM S n).1 = ((curQ S.ws n).1, 0) ∧ (curQ (prepM S n).2.ws n).1 = (curQ S.ws n).1 ∧ (prepM S n).2.I = S.I ∧ (prepM S n).2.g = S.g ∧ (∀ m, m ≠ n → curQ (prepM S n).2.ws m = curQ S.ws m) := by
  unfold prepM
  rw [if_neg (by rw [h]; simp)]
  split
  · rename_i hb
    have hc0 : (curQ S.ws n).1 = [] := by
      unfold curQ
      rcases hl : lookQ S.ws n with _ | z
      · rfl
      · rw [hl] at hb; simp at hb
    rw [hc0]
    exact ⟨rfl, rfl, rfl, rfl, fun _ _ => rfl⟩
  · exact ⟨rfl, by dsimp only; rw [curQ_lay, if_pos rfl], rfl, rfl, fun m hm => by dsimp only; rw [curQ_lay, if_neg hm]⟩
/-- How a commit's values lie. -/
theorem commit_facts {S : QS} {n : Int} (hn : 1 ≤ n) (h : QR S) : ∃ kl, (commitM S n).1 = 0 ∧ (commitM S n).2.I.length = kl + putsL (curQ S.ws n).1 ∧ kl + ((curQ S.ws n).1.length - putsL (curQ S.ws n).1) = S.I.length ∧
    ∀ i (hi : i < (curQ S.ws n).1.length), ((curQ S.ws n).1[i]'hi).k ≠ 4 → ((commitM S n).2.I.map IT.v)[kl + putsL ((curQ S.ws n).1.take i)]? = some ((curQ S.ws n).1[i]'hi).v := by
  have hI : (commitM S n).2.I = keptI S.I n ++ newsQ S.g (curQ S.ws n).1 := by unfold commitM; rw [if_neg (by omega)]
  have h1 : (commitM S n).1 = 0 := by unfold commitM; rw [if_neg (by omega)]
  have ht := h.tk n hn
  have hk := h.kd n
  have hl := tk_len _ hk
  have hkl := kept_len S.I n
  rw [ht, List.length_map] at hl
  refine ⟨(keptI S.I n).length, h1, by rw [hI, List.length_append, newsQ_len], by omega, fun i hi h4 => ?_⟩
  have h3 : ((curQ S.ws n).1[i]'hi).k = 3 := by
    rcases hk _ (List.getElem_mem hi) with ⟨e, _⟩ | e
    · exact e
    · exact absurd e h4
  rw [hI, List.map_append, newsQ_v, List.getElem?_append_right (by rw [List.length_map]; omega), List.length_map, Nat.add_sub_cancel_left]
  exact putV_at _ i hi h3
set_option maxRecDepth 100000 in
set_option maxHeartbeats 1000000 in
theorem queueKeeps_walk (A : Option Addr) (ops : List OpV) (c : Nat) (work : Int) (w : World) (ho : OpsAt w A ops) (hx1 : -9223372036854775808 ≤ work) (hx2 : work ≤ 9223372036854775807) :
    Calls Try.prog 6 #[.slice A ops.length c, .int .i64 work] w fun e w' => e = .returned (.bool true) ∧ Below w.heap.size w w' := by
  obtain ⟨n, hn⟩ : ∃ n, n = ops.length := ⟨_, rfl⟩
  have HP := Lib.hid (played_any A ops n c w (Lib.hid hn) ho)
  rw [← hn]
  have hwo : i64ok work := ⟨hx1, hx2⟩
  have HQ := Lib.hid (QR.play ops)
  generalize playQ ops = S at HP HQ
  clear hn ho
  go_enter Try.func6, Try.ntmps6
  go_wp2_with fail
  refine HP.out.mono ?_
  rintro e w1 ⟨⟨g, cs, rfl, hk, hok, hSB, hgl⟩, b1⟩
  clear HP
  by_cases h1 : work < 1
  · have HB := Lib.hid b1
    clear hk hok hSB b1 hgl
    go_wp2_with fail
    refine (alive_any w1).mono ?_
    rintro e w3 ⟨rfl, b3⟩
    have HB3 := Lib.hid (bt HB.out b3)
    clear b3
    go_wp2
    go_ret
    exact ⟨rfl, HB3.out⟩
  · have hpr := prep_any g 0 _ cs S 200 work w1 hk (by omega) hwo
    rcases openE_cases S work with ⟨_, hc⟩ | ⟨he7, _⟩ | ⟨he0, _⟩
    · exact absurd hc h1
    · have hM : prepM S work = (([], 7), S) := by unfold prepM; rw [if_pos (by rw [he7]; simp), he7]
      rw [hM] at hpr
      dsimp only at hpr
      have HC := Lib.hid hpr
      have HB := Lib.hid (And.intro b1 hgl)
      clear hpr hM hk hok hSB b1 hgl he7
      go_wp2_with fail
      refine HC.out.mono ?_
      rintro e w2 ⟨⟨A2, q2, c2, rfl, _, _⟩, ⟨_, hg2⟩⟩
      have HB2 := Lib.hid (HB.out.1.grown hg2 HB.out.1.size (fun r e => by cases e; exact HB.out.2))
      clear hg2
      go_wp2_with fail
      refine (alive_any w2).mono ?_
      rintro e w3 ⟨rfl, b3⟩
      have HB3 := Lib.hid (bt HB2.out b3)
      clear b3
      go_wp2
      go_ret
      exact ⟨rfl, HB3.out⟩
    · obtain ⟨p1, p2, p3, p4, _⟩ := prep_facts he0
      have hok1 := hok.prep hk.nd work
      have hqr1 := HQ.out.prep work
      obtain ⟨S1, hS1⟩ : ∃ S1, S1 = (prepM S work).2 := ⟨_, rfl⟩
      rw [p1, ← hS1] at hpr
      rw [← hS1] at p2 p3 p4 hok1 hqr1
      rw [← p2] at hpr
      dsimp only at hpr
      obtain ⟨kl, f1, f2, f3, f4⟩ := commit_facts (by omega : 1 ≤ work) hqr1
      obtain ⟨l, hl⟩ : ∃ l, l = (curQ S1.ws work).1 := ⟨_, rfl⟩
      rw [← hl] at hpr f2 f3 f4
      have hll : l.length ≤ 200 := by rw [hl, p2]; exact hk.cur_len work
      have HC := Lib.hid hpr
      have HB := Lib.hid (And.intro b1 (And.intro hgl (And.intro hk.lt hok1)))
      have hkd : kdOk l := by rw [hl]; exact hqr1.kd work
      have hpl := putsL_le l
      obtain ⟨il, hil⟩ : ∃ il, il = S1.I.length := ⟨_, rfl⟩
      have hil48 : S1.I.length ≤ 16 := by have := hok1.room; omega
      rw [← hil] at f3 hil48
      have HF := Lib.hid (And.intro f1 (And.intro f2 (And.intro f4 hil)))
      clear hpr p1 p2 p3 p4 hk hok hSB b1 hgl hok1 hqr1 hS1 f1 f2 f4 hl he0 hil
      go_wp2_with fail
      refine HC.out.mono ?_
      rintro e w2 ⟨⟨A2, q2, c2, rfl, hq2, own2⟩, ⟨⟨cs2, hk2, _⟩, hg2⟩⟩
      have hb2 := HB.out.1.grown hg2 HB.out.1.size (fun r e => by cases e; exact HB.out.2.1)
      have hv := values_any g 0 _ cs2 S1 _ w2 hk2
      rw [← HF.out.2.2.2] at hv
      have HV := Lib.hid hv
      have H2 := Lib.hid (And.intro own2 (And.intro hk2 (And.intro hb2 hq2)))
      clear hv own2 hk2 hg2 hb2 hq2
      go_wp2_with fail
      refine HV.out.mono ?_
      rintro e w3 ⟨A3, c3, rfl, _, b3⟩
      have hb3 := bt H2.out.2.2.1 b3
      have hcm := commit_any g 0 _ cs2 S1 _ work w3 (H2.out.2.1.below b3) HB.out.2.2.2 (by omega) hwo
      have e1 := HF.out.1
      generalize commitM S1 work = R at hcm HF e1
      obtain ⟨re, rS⟩ := R
      dsimp only at hcm HF e1
      subst e1
      have HCm := Lib.hid hcm
      have H3 := Lib.hid (And.intro (H2.out.1.kept (lbelow_grown b3 none) (fun r e => by cases e)) hb3)
      clear hcm hb3 b3
      go_wp2_with fail
      refine HCm.out.mono ?_
      rintro e w4 ⟨rfl, ⟨⟨cs4, hk4, _⟩, hg4⟩⟩
      have hb4 := H3.out.2.grown hg4 H3.out.2.size (fun r e => by cases e; exact HB.out.2.1)
      have own4 := H3.out.1.kept hg4 (fun r e => by cases e; exact HB.out.2.2.1)
      have hv := values_any g 0 _ cs4 rS _ w4 hk4
      obtain ⟨nl, hnl⟩ : ∃ nl, nl = rS.I.length := ⟨_, rfl⟩
      rw [← hnl] at hv
      have HV4 := Lib.hid hv
      have H4 := Lib.hid (And.intro own4 (And.intro hb4 hnl))
      clear hv own4 hk4 hg4 hb4 hnl
      go_wp2_with fail
      refine HV4.out.mono ?_
      rintro e w5 ⟨A5, c5, rfl, own5, b5⟩
      have hb5 := bt H4.out.2.1 b5
      have hin5 : InL w5 A2 l := (H4.out.1.kept (lbelow_grown b5 none) (fun r e => by cases e)).at_.inl
      have HPu := Lib.hid (fun u (hb : Below w5.heap.size w5 u) => refputs_any A2 l q2 c2 u (Lib.hid H2.out.2.2.2) (by have := H2.out.2.2.2; omega) (hin5.below hb))
      have H5 := Lib.hid (And.intro hin5 (And.intro own5.at_ hb5))
      have hnl2 : nl = kl + putsL l := H4.out.2.2.trans HF.out.2.1
      obtain ⟨pz, hpz⟩ : ∃ pz, pz = putsL l := ⟨_, rfl⟩
      rw [← hpz] at HPu hnl2 f3 hpl
      have HPz := Lib.hid hpz
      have HNum := Lib.hid (And.intro hnl2 (And.intro f3 (And.intro hpl (And.intro hll (And.intro hil48 H2.out.2.2.2)))))
      clear hin5 own5 hb5 b5 hpz hnl2 f3 hpl hll hil48
      have hw5 := Below.refl w5.heap.size w5
      have HP5 := Lib.hid (HPu.out w5 hw5)
      clear hw5
      go_wp2_with fail
      refine HP5.out.mono ?_
      rintro e w6 ⟨rfl, b6⟩
      have hsub : IntKind.i64.wrap ((nl : Int) - (pz : Int)) = (kl : Int) := by have := HNum.out; rw [IntWalk.i64_in _ (by omega)]; omega
      have HI : Hid (0 = putsL (l.take 0) ∧ Below w5.heap.size w5 w6) := Lib.hid ⟨rfl, b6⟩
      clear b6
      have hq200 : q2 ≤ 200 := by have := HNum.out; omega
      go_wp2_with fail
      have HQ200 := Lib.hid hq200
      go_loopw [10, 11, 12] (fun tv kv iv wr => ∃ (i p : Nat), i ≤ q2 ∧ p ≤ i ∧ tv = .int .i64 ((i - p : Nat) : Nat) ∧ kv = .int .i64 ((kl + p : Nat) : Nat) ∧ iv = .int .i64 i ∧ Hid (p = putsL (l.take i) ∧ Below w5.heap.size w5 wr)) (fun _ _ iv _ => q2 - (intOf iv).toNat)
      case atStart => exact ⟨0, 0, Nat.zero_le _, Nat.le_refl _, rfl, rfl, rfl, HI⟩
      case round =>
        clear HI
        obtain ⟨i, p, hi, hpi, rfl, rfl, rfl, HR⟩ := hrel
        by_cases hiq : i < q2
        · have hiI : (i : Int) < (q2 : Int) := by omega
          have hil2 : i < l.length := by have := HNum.out; omega
          obtain ⟨b, o, rfl, hbk, hcs⟩ := H5.out.1.below HR.out.2 (by omega)
          have q0 := (hcs i hil2).1
          have qv := (hcs i hil2).2.2
          have hst := putsL_step l i hil2
          have hnow := HF.out.2.2.1 i hil2
          have hkk := hkd _ (List.getElem_mem hil2)
          generalize l[i]'hil2 = x at q0 qv hst hnow hkk
          obtain ⟨xk, xy, xv⟩ := x
          dsimp only at q0 qv hst hnow hkk
          by_cases h4 : xk = 4
          · subst h4
            rw [if_neg (by decide)] at hst
            have HN : Hid (p = putsL (l.take (i + 1)) ∧ Below w5.heap.size w5 wr) := Lib.hid ⟨by rw [hst, HR.out.1]; rfl, HR.out.2⟩
            clear hst HR hcs hbk hil2 hnow hkk qv
            go_wp2
            go_roundw
            case rel => exact ⟨i + 1, p, by omega, by omega, by go_num, rfl, by go_num, HN⟩
            case measure => simp [intOf]; omega
          · have h3 : xk = 3 := by
              rcases hkk with ⟨e, _⟩ | e
              · exact e
              · exact absurd e h4
            subst h3
            rw [if_pos rfl] at hst
            have hpl2 : putsL (l.take (i + 1)) ≤ putsL l := by
              have := putsW_app
              have e : putsL l = putsL (l.take (i + 1)) + putsL (l.drop (i + 1)) := by
                conv => lhs; rw [← List.take_append_drop (i + 1) l]
                unfold putsL
                rw [List.filter_append, List.length_append]
              omega
            have hpp : p < pz := by rw [HPz.out]; rw [hst, ← HR.out.1] at hpl2; omega
            have hnw := hnow (by decide)
            rw [← HR.out.1] at hnw
            obtain ⟨kk, hkk2⟩ : ∃ kk, kk = kl + p := ⟨_, rfl⟩
            rw [← hkk2] at hnw
            have hkn : kk < (rS.I.map IT.v).length := by rw [List.length_map, HF.out.2.1, ← HPz.out]; omega
            obtain ⟨b5, o5, rfl, hbk5, hcs5⟩ := H5.out.2.1.below HR.out.2 (by omega)
            have n0 := hcs5 kk hkn
            have hnv : (rS.I.map IT.v)[kk]'hkn = xv := by
              rw [List.getElem?_eq_getElem hkn] at hnw
              exact Option.some.inj hnw
            rw [hnv] at n0
            have e0 := fun m : Nat => cell_drew' qv m
            have e1 := fun m : Nat => cell_drew' n0 m
            have hvv : ((xv : Int) != (xv : Int)) = false := by simp
            have hk0 : decide ((kk : Int) < 0) = false := decide_eq_false (by omega)
            have hkl2 : decide ((nl : Int) ≤ (kk : Int)) = false := decide_eq_false (by have := HNum.out; omega)
            have hkl3 : decide (nl ≤ kk) = false := decide_eq_false (by have := HNum.out; omega)
            have hkl4 : decide (kk < nl) = true := decide_eq_true (by have := HNum.out; omega)
            have hkl5 : decide ((kk : Int) < (nl : Int)) = true := decide_eq_true (by have := HNum.out; omega)
            have hkI : (kk : Int) < (nl : Int) := by have := HNum.out; omega
            have HX : Hid (∀ m : Nat, p + 1 = putsL (l.take (i + 1)) ∧ Below w5.heap.size w5 (wr.drewN m)) := Lib.hid fun m => ⟨by rw [hst, ← HR.out.1], bt HR.out.2 ⟨rfl, rfl, rfl, Nat.le_refl _, fun _ _ => rfl⟩⟩
            have Hk2 := Lib.hid hkk2
            have HKb : Hid (kk < 1000) := Lib.hid (by have := HNum.out; omega)
            rw [← hkk2]
            clear hst HR hcs hcs5 hbk hbk5 hil2 hnow hkk hnw hpl2 hkk2 hnv hkn qv n0 h4
            go_wp2_with fail
            go_quiet (fail)
            have HX2 := Lib.hid (HX.out nq)
            clear e0 e1 HX
            go_wp2
            go_roundw
            case rel => exact ⟨i + 1, p + 1, by omega, by omega, by rw [show i + 1 - (p + 1) = i - p by omega], by rw [show ((kl + (p + 1) : Nat) : Int) = (kk : Int) + 1 by have := Hk2.out; omega]; refine congrArg (Value.int .i64) ?_; have := HKb.out; unfold wrap64; omega, by go_num, HX2⟩
            case measure => simp [intOf]; omega
        · obtain rfl : i = q2 := by omega
          have hiI : ¬ (i : Int) < (i : Int) := by omega
          have hp2 : p = pz := by rw [HR.out.1, HPz.out, List.take_of_length_le (by have := HNum.out; omega)]
          subst hp2
          have HB5 := Lib.hid HR.out.2
          clear HR
          go_wp2_with fail
          refine (alive_any wr).mono ?_
          rintro e w7 ⟨rfl, b7⟩
          have HP7 := Lib.hid (HPu.out w7 (bt HB5.out b7))
          have HB7 := Lib.hid (bt HB5.out b7)
          clear b7
          have hs1 : IntKind.i64.wrap ((il : Int) - ((i - p : Nat) : Int)) = ((il - (i - p) : Nat) : Int) := by have := HNum.out; rw [IntWalk.i64_in _ (by omega)]; omega
          have hs2 : IntKind.i64.wrap (((il - (i - p) : Nat) : Int) + (p : Int)) = (nl : Int) := by have := HNum.out; rw [IntWalk.i64_in _ (by omega)]; omega
          have hs3 : ((kl + p : Nat) : Int) = (nl : Int) := by have := HNum.out; omega
          go_wp2_with fail
          refine HP7.out.mono ?_
          rintro e w8 ⟨rfl, b8⟩
          have HB8 := Lib.hid (bt H5.out.2.2 (bt HB7.out b8))
          clear b8
          go_wp2
          go_ret
          exact ⟨by simp; have := HNum.out; omega, HB8.out⟩
end Go.Proofs.Ytfcafahgmnnlnaa.Qu
