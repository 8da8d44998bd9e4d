/- Parts Q22 of one proof. -/
import Derived.Test.YtlliaihmfimdoaaGreatMg20
import Derived.BigQuiet
namespace Go.Proofs.YtlliaihmfimdoaaGreat.Qu
open Go.RowKit Go.Maps Go.Deep
set_option linter.unusedVariables false
set_option linter.unusedSimpArgs false

theorem QOk.zero (B : Nat → Prop) : QOk (QS.zero B) := ⟨Nat.zero_le _, Int.le_refl _, by show (0 : Int) + 1 + ((0 : Nat) : Int) ≤ 4611686018427387904; decide⟩
theorem small_ok (x : Int) (h1 : -1000 ≤ x) (h2 : x ≤ 1000) : i64ok x := by unfold i64ok; omega
theorem aliveM : ∃ S1 S2 S3 S4 S5 S6, putM (QS.zero anyB) 1 7 = (0, S1) ∧ commitM S1 1 = (0, S2) ∧ takeM S2 2 = ((7, 0), S3) ∧ takeM S3 3 = ((0, 120), S4) ∧ backM S4 2 = (0, S5) ∧ takeM S5 3 = ((7, 0), S6) ∧ S6.g = 1 :=
  ⟨_, _, _, _, _, _, rfl, rfl, rfl, rfl, rfl, rfl, rfl⟩
set_option maxRecDepth 100000 in
set_option maxHeartbeats 2000000 in
theorem same_any (A A' : Option Addr) (zs zs' : List Nat) (n n' c c' : Nat) (w : World) (hn : Hid (n = zs.length)) (hn' : Hid (n' = zs'.length)) (hm : n ≤ 9223372036854775807) (h : UAt w A zs) (h' : UAt w A' zs') :
    Calls Tryz.prog 47 #[.slice A n c, .slice A' n' c'] w fun e w' => e = .returned (.bool (decide (zs = zs'))) ∧ Below w.heap.size w w' := by
  by_cases hnn : n = n'
  · subst hnn
    have HI : Hid (Below w.heap.size w w ∧ ∀ k, k < 0 → zs[k]? = zs'[k]?) := Lib.hid ⟨Below.refl _ _, fun k hk => by omega⟩
    have H := Lib.hid (And.intro h h')
    clear h h'
    have hnn : ((n : Int) != (n : Int)) = false := by simp
    obtain ⟨r, hr⟩ : ∃ r, r = decide (zs = zs') := ⟨_, rfl⟩
    rw [← hr]
    have HR := Lib.hid hr
    clear hr
    go_enter Tryz.func47, Tryz.ntmps47
    go_wp2_with fail
    go_loopw [5] (fun i wr => ∃ (i0 : Nat), i0 ≤ n ∧ i = .int .i64 i0 ∧ Hid (Below w.heap.size w wr ∧ ∀ k, k < i0 → zs[k]? = zs'[k]?)) (fun i _ => n - (intOf i).toNat)
    case atStart => exact ⟨0, Nat.zero_le _, rfl, HI⟩
    case round =>
      clear HI
      obtain ⟨j, hj, rfl, HW⟩ := hrel
      by_cases hjn : j < n
      · have hjI : (j : Int) < (n : Int) := by omega
        have hjl : j < zs.length := by rw [← hn.out]; exact hjn
        have hjl' : j < zs'.length := by rw [← hn'.out]; exact hjn
        obtain ⟨b, o, rfl, hbk, hcs⟩ := H.out.1.below HW.out.1 (by omega)
        obtain ⟨b', o', rfl, hbk', hcs'⟩ := H.out.2.below HW.out.1 (by omega)
        have q0 := hcs j hjl
        have p0 := hcs' j hjl'
        obtain ⟨x, hx⟩ : ∃ x, x = zs[j]'hjl := ⟨_, rfl⟩
        obtain ⟨y, hy⟩ : ∃ y, y = zs'[j]'hjl' := ⟨_, rfl⟩
        rw [← hx] at q0
        rw [← hy] at p0
        have e0 := fun m : Nat => cell_drew' q0 m
        have d0 := fun m : Nat => cell_drew' p0 m
        have hdr : ∀ m : Nat, Below wr.heap.size wr (wr.drewN m) := fun m => ⟨rfl, rfl, rfl, Nat.le_refl _, fun _ _ => rfl⟩
        by_cases hxy : x = y
        · subst hxy
          have hne : ((x : Int) != (x : Int)) = false := by simp
          have HX : Hid (∀ m : Nat, Below w.heap.size w (wr.drewN m) ∧ ∀ k, k < j + 1 → zs[k]? = zs'[k]?) := Lib.hid fun m => ⟨bt HW.out.1 (hdr m), fun k hk => by
            by_cases e : k = j
            · subst e; rw [List.getElem?_eq_getElem hjl, List.getElem?_eq_getElem hjl', ← hx, ← hy]
            · exact HW.out.2 k (by omega)⟩
          clear hbk hbk' hcs hcs' hjl hjl' q0 p0 HW hdr hx hy
          go_wp2_with fail
          go_quiet (fail)
          have HX2 := Lib.hid (HX.out nq)
          clear e0 d0 HX
          go_wp2
          go_roundw
          case rel => exact ⟨j + 1, by omega, by go_num, HX2⟩
          case measure => simp [intOf]; omega
        · have hne : ((x : Int) != (y : Int)) = true := by simp; omega
          have HX : Hid (r = false ∧ ∀ m : Nat, Below w.heap.size w (wr.drewN m)) := Lib.hid ⟨by
            rw [HR.out]
            refine decide_eq_false fun e => hxy ?_
            subst e
            rw [hx, hy], fun m => bt HW.out.1 (hdr m)⟩
          clear hbk hbk' hcs hcs' hjl hjl' q0 p0 HW hdr hx hy hxy
          go_wp2_with fail
          go_quiet (fail)
          have HX2 := Lib.hid (HX.out.2 nq)
          clear e0 d0
          go_wp2
          go_ret
          exact ⟨by rw [HX.out.1]; rfl, HX2.out⟩
      · have hjI : ¬ (j : Int) < (n : Int) := by omega
        have hF := Lib.hid (show r = true ∧ Below w.heap.size w wr from ⟨by
          rw [HR.out]
          refine decide_eq_true (List.ext_getElem? fun k => ?_)
          by_cases e : k < j
          · exact HW.out.2 k e
          · rw [List.getElem?_eq_none (by rw [← hn.out]; omega), List.getElem?_eq_none (by rw [← hn'.out]; omega)], HW.out.1⟩)
        clear HW
        go_wp2
        go_ret
        exact ⟨by rw [hF.out.1]; rfl, hF.out.2⟩
  · have hb : ((n : Int) != (n' : Int)) = true := by simp; omega
    have hF : Hid (decide (zs = zs') = false) := Lib.hid (decide_eq_false fun e => hnn (by rw [hn.out, hn'.out, e]))
    clear h h' hnn
    go_enter Tryz.func47, Tryz.ntmps47
    go_wp2
    go_ret
    exact ⟨by rw [hF.out]; rfl, Below.refl _ _⟩
theorem putsL_step (l : List Ch) (i : Nat) (h : i < l.length) : putsL (l.take (i + 1)) = putsL (l.take i) + (if (l[i]'h).k = 3 then 1 else 0) := by
  have e2 : l.take (i + 1) = l.take i ++ [l[i]'h] := by rw [List.take_add_one, List.getElem?_eq_getElem h]; rfl
  rw [e2, putsL_snoc]
set_option maxRecDepth 100000 in
set_option maxHeartbeats 2000000 in
theorem refputs_any (A : Option Addr) (l : List Ch) (n c : Nat) (w : World) (hn : Hid (n = l.length)) (hm : n ≤ 1000000) (h : InL w A l) :
    Calls Tryz.prog 152 #[.slice A n c] w fun e w' => e = .returned (.int .i64 (putsL l : Nat)) ∧ Below w.heap.size w w' := by
  obtain ⟨pz, hpz⟩ : ∃ pz, pz = putsL l := ⟨_, rfl⟩
  rw [← hpz]
  have HP := Lib.hid hpz
  clear hpz
  go_enter Tryz.func152, Tryz.ntmps152
  go_wp2_with fail
  go_loopw [3, 4] (fun v i wr => ∃ (i0 k : Nat), i0 ≤ n ∧ k ≤ i0 ∧ v = .int .i64 k ∧ i = .int .i64 i0 ∧ Hid (k = putsL (l.take i0) ∧ Below w.heap.size w wr)) (fun _ i _ => n - (intOf i).toNat)
  case atStart => exact ⟨0, 0, Nat.zero_le _, Nat.le_refl _, rfl, rfl, Lib.hid ⟨rfl, Below.refl _ _⟩⟩
  case round =>
    obtain ⟨j, k, hj, hkj, rfl, rfl, HW⟩ := hrel
    by_cases hjn : j < n
    · have hjI : (j : Int) < (n : Int) := by omega
      have hjl : j < l.length := by rw [← hn.out]; exact hjn
      obtain ⟨b, o, rfl, hbk, hcs⟩ := h.below HW.out.2 (by omega)
      have q0 := (hcs j hjl).1
      have hst := putsL_step l j hjl
      generalize l[j]'hjl = x at q0 hst
      obtain ⟨xk, xy, xv⟩ := x
      dsimp only at q0 hst
      by_cases h3 : xk = 3
      · subst h3
        rw [if_pos rfl] at hst
        have HN : Hid (k + 1 = putsL (l.take (j + 1)) ∧ Below w.heap.size w wr) := Lib.hid ⟨by rw [hst, HW.out.1], HW.out.2⟩
        clear hst HW hcs hbk hjl h
        go_wp2
        go_roundw
        case rel => exact ⟨j + 1, k + 1, by omega, by omega, by go_num, by go_num, HN⟩
        case measure => simp [intOf]; omega
      · rw [if_neg h3] at hst
        have HN : Hid (k = putsL (l.take (j + 1)) ∧ Below w.heap.size w wr) := Lib.hid ⟨by rw [hst, HW.out.1]; rfl, HW.out.2⟩
        have h3b : (xk == 3) = false := by simpa using h3
        clear hst HW hcs hbk hjl h h3
        go_wp2
        go_roundw
        case rel => exact ⟨j + 1, k, by omega, by omega, rfl, by go_num, HN⟩
        case measure => simp [intOf]; omega
    · have hjI : ¬ (j : Int) < (n : Int) := by omega
      have hF : Hid (k = pz ∧ Below w.heap.size w wr) := Lib.hid ⟨by rw [HW.out.1, HP.out, List.take_of_length_le (by rw [← hn.out]; omega)], HW.out.2⟩
      clear HW h
      go_wp2
      go_ret
      exact ⟨by rw [hF.out.1]; rfl, hF.out.2⟩
def longB (o : OpV) : Bool := decide (40 < o.l.length) || decide (40 < o.vs.length)
end Go.Proofs.YtlliaihmfimdoaaGreat.Qu
