/- Parts Se T7 Bo Bp of one proof. -/
import Derived.Test.YtlliaihmfimdoaaMg24
import Derived.Test.YtlliaihmfimdoaaMg28
import Derived.Test.YtlliaihmfimdoaaMg23
namespace Go.Proofs.Ytlliaihmfimdoaa.Re
open Go.RowKit Go.Maps Go.Deep Go.Proofs.Ytlliaihmfimdoaa
set_option linter.unusedVariables false
set_option linter.unusedSimpArgs false

set_option maxRecDepth 100000 in
set_option maxHeartbeats 1000000 in
theorem samech_any (A A' : Option Addr) (l : List Ch) (n c c' : Nat) (w : World) (hn : Hid (n = l.length)) (hm : n ≤ 1000000) {B B' : Nat → Prop} (h : ChAt w B A l) (h' : ChAt w B' A' l) :
    Calls Try.prog 9 #[.slice A n c, .slice A' n c'] w fun e w' => e = .returned (.bool true) ∧ Below w.heap.size w w' := by
  have HI : Hid (Below w.heap.size w w ∧ ChAt w B A l ∧ ChAt w B' A' l) := Lib.hid ⟨Below.refl _ _, h, h'⟩
  clear h h'
  have hnn : ((n : Int) != (n : Int)) = false := by simp
  go_enter Try.func9, Try.ntmps9
  go_wp2_with fail
  go_loopw [5] (fun i wr => ∃ (i0 : Nat), i0 ≤ n ∧ i = .int .i64 i0 ∧ Hid (Below w.heap.size w wr ∧ ChAt wr B A l ∧ ChAt wr B' A' l)) (fun i _ => n - (intOf i).toNat)
  case atStart => exact ⟨0, Nat.zero_le _, rfl, HI⟩
  case round =>
    clear HI
    obtain ⟨j, hj, rfl, HW⟩ := hrel
    by_cases hjn : j < n
    · have hjI : (j : Int) < (n : Int) := by omega
      obtain ⟨hb, hc, hc'⟩ := HW.out
      have hjl : j < l.length := by rw [← hn.out]; exact hjn
      obtain ⟨b, o, rfl, hbk, hcs⟩ := hc (by omega)
      obtain ⟨b', o', rfl, hbk', hcs'⟩ := hc' (by omega)
      obtain ⟨q0, q1, q2⟩ := hcs j hjl
      obtain ⟨p0, p1, p2⟩ := hcs' j hjl
      generalize l[j]'hjl = x at q0 q1 q2 p0 p1 p2
      obtain ⟨xk, xy, xv⟩ := x
      dsimp only at q0 q1 q2 p0 p1 p2
      have e0 := fun m : Nat => Qu.cell_drew' q0 m
      have e1 := fun m : Nat => Qu.cell_drew' q1 m
      have e2 := fun m : Nat => Qu.cell_drew' q2 m
      have d0 := fun m : Nat => Qu.cell_drew' p0 m
      have d1 := fun m : Nat => Qu.cell_drew' p1 m
      have d2 := fun m : Nat => Qu.cell_drew' p2 m
      have hdr : ∀ m : Nat, Below wr.heap.size wr (wr.drewN m) := fun m => ⟨rfl, rfl, rfl, Nat.le_refl _, fun _ _ => rfl⟩
      have HX : Hid (∀ m : Nat, Below w.heap.size w (wr.drewN m) ∧ ChAt (wr.drewN m) B (some ⟨b, o, none⟩) l ∧ ChAt (wr.drewN m) B' (some ⟨b', o', none⟩) l) := Lib.hid fun m => ⟨bt hb (hdr m), hc.below (hdr m), hc'.below (hdr m)⟩
      clear hb hc hc' hbk hbk' hcs hcs' hjl q0 q1 q2 p0 p1 p2 HW hdr
      go_wp2_with fail
      go_quiet (fail)
      have HX2 := Lib.hid (HX.out nq)
      clear e0 e1 e2 d0 d1 d2 HX
      go_wp2
      go_roundw
      case rel => exact ⟨j + 1, by omega, by go_num, HX2⟩
      case measure => simp [intOf]; omega
    · have hjI : ¬ (j : Int) < (n : Int) := by omega
      have hF := Lib.hid HW.out.1
      clear HW
      go_wp2
      go_ret
      exact ⟨rfl, hF.out⟩
theorem put_nil (n y : Int) (v : Nat) (w : World) : Calls Try.prog 11 #[.pointer none, .int .i64 n, .int .i64 y, .int .u64 (v : Nat)] w fun e w' => e = .returned (.int .i64 6) ∧ w = w' := by
  go_enter Try.func11, Try.ntmps11
  go_wp2_with fail
  refine (resopen_nil n w).mono ?_
  rintro e w1 ⟨rfl, rfl⟩
  go_wp2
  go_returns
  exact ⟨rfl, rfl⟩
theorem push_nil (n : Int) (v : Nat) (w : World) : Calls Try.prog 12 #[.pointer none, .int .i64 n, .int .u64 (v : Nat)] w fun e w' => e = .returned (.int .i64 6) ∧ w = w' := by
  go_enter Try.func12, Try.ntmps12
  go_wp2_with fail
  refine (resopen_nil n w).mono ?_
  rintro e w1 ⟨rfl, rfl⟩
  go_wp2
  go_returns
  exact ⟨rfl, rfl⟩
theorem prep_nil (n : Int) (w : World) : Calls Try.prog 13 #[.pointer none, .int .i64 n] w fun e w' => e = .returned (.tuple #[.slice none 0 0, .int .i64 6]) ∧ w = w' := by
  go_enter Try.func13, Try.ntmps13
  go_wp2_with fail
  refine (resopen_nil n w).mono ?_
  rintro e w1 ⟨rfl, rfl⟩
  go_wp2
  go_returns
  exact ⟨rfl, rfl⟩
end Go.Proofs.Ytlliaihmfimdoaa.Re

namespace Go.Proofs.Ytlliaihmfimdoaa.Re
open Go.RowKit Go.Maps Go.Deep Go.Proofs.Ytlliaihmfimdoaa
set_option linter.unusedVariables false
set_option linter.unusedSimpArgs false

set_option maxRecDepth 100000 in
set_option maxHeartbeats 4000000 in
theorem resWrites_main (A : Option Addr) (l : List Ch) (c : Nat) (A0 : Option Addr) (bs : List UInt8) (c0 : Nat) (w : World) (h : l.length ≤ maxLen ∧ InL w A l) (hb : ∀ x ∈ l, x.v < 18446744073709551616 ∧ x.y ≤ 9223372036854775807) (hbs : Bs w w.heap.size A0 bs) (hcap : bs.length ≤ c0 ∧ c0 ≤ 9223372036854775807) :
    Calls Try.prog 3 #[.slice A l.length c, .slice A0 bs.length c0] w fun e w' => e = .returned (.bool true) ∧ Below w.heap.size w w' := by
  have hnl : (l.length : Int) ≤ 9223372036854775807 := by have := h.1; unfold maxLen at this; omega
  have hNl : (bs.length : Int) ≤ 9223372036854775807 := by omega
  obtain ⟨n, hn⟩ : ∃ n, n = l.length := ⟨_, rfl⟩
  obtain ⟨N, hN⟩ : ∃ N, N = bs.length := ⟨_, rfl⟩
  rw [← hn] at hnl
  rw [← hN] at hNl hcap
  rw [← hn, ← hN]
  have H := Lib.hid (And.intro h.2 (And.intro hb (And.intro hbs hcap)))
  have HN := Lib.hid (And.intro hn hN)
  have HBe := Lib.hid (Below.refl w.heap.size w)
  clear h hb hbs hcap hn hN
  by_cases h200 : 200 < n
  · have h200I : (200 : Int) < (n : Int) := by omega
    go_enter Try.func3, Try.ntmps3
    go_wp2_with fail
    refine (alive_any _).mono ?_
    rintro e wz ⟨rfl, hbz⟩
    have hBz := Lib.hid (bt HBe.out hbz)
    clear hbz
    go_wp2
    go_ret
    exact ⟨rfl, hBz.out⟩
  · have h200I : ¬ (200 : Int) < (n : Int) := by omega
    by_cases h4 : 4000 < N
    · have h4I : (4000 : Int) < (N : Int) := by omega
      go_enter Try.func3, Try.ntmps3
      go_wp2_with fail
      refine (alive_any _).mono ?_
      rintro e wz ⟨rfl, hbz⟩
      have hBz := Lib.hid (bt HBe.out hbz)
      clear hbz
      go_wp2
      go_ret
      exact ⟨rfl, hBz.out⟩
    · have h4I : ¬ (4000 : Int) < (N : Int) := by omega
      have HW := Lib.hid (write_any A l n c (Lib.hid HN.out.1) (by omega) w H.out.1 H.out.2.1)
      obtain ⟨⟨Wb, we⟩, hW⟩ : ∃ W, W = writeC l := ⟨_, rfl⟩
      obtain ⟨⟨Rl, re⟩, hR⟩ : ∃ R, R = readC bs := ⟨_, rfl⟩
      rw [← hW] at HW
      have HWq := Lib.hid hW
      have HRq := Lib.hid hR
      clear hW hR
      go_enter Try.func3, Try.ntmps3
      go_wp2_with fail
      refine HW.out.mono ?_
      rintro e w1 ⟨A1, q1, c1, rfl, HX1⟩
      dsimp only at HX1 ⊢
      have b1 := HX1.out.2.2
      have hw2 := rwrite_any A l n c (Lib.hid HN.out.1) (by omega) w1 (H.out.1.below b1) H.out.2.1
      rw [← HWq.out] at hw2
      have HW2 := Lib.hid hw2
      have HB1 := Lib.hid b1
      clear hw2 b1 HW
      go_wp2_with fail
      refine HW2.out.mono ?_
      rintro e w2 ⟨A2, q2, c2, rfl, HX2⟩
      dsimp only at HX2 ⊢
      have b2 := bt HB1.out HX2.out.2.2
      have hr := read_any A0 bs N c0 w2 (Lib.hid HN.out.2) (Lib.hid H.out.2.2.2.1) (Lib.hid H.out.2.2.2.2) (bs_below H.out.2.2.1 b2)
      rw [← HRq.out] at hr
      have HRd := Lib.hid hr
      have HB2 := Lib.hid b2
      clear hr b2 HW2
      go_wp2_with fail
      refine HRd.out.mono ?_
      rintro e w3 ⟨A3, q3, c3, rfl, HX3⟩
      dsimp only at HX3 ⊢
      have b3 := bt HB2.out HX3.out.2.2
      have hr2 := rread_any A0 bs N c0 w3 (Lib.hid HN.out.2) (Lib.hid H.out.2.2.2.1) (Lib.hid H.out.2.2.2.2) (bs_below H.out.2.2.1 b3)
      rw [← HRq.out] at hr2
      have HRd2 := Lib.hid hr2
      have HB3 := Lib.hid b3
      clear hr2 b3 HRd
      go_wp2_with fail
      refine HRd2.out.mono ?_
      rintro e w4 ⟨A4, q4, c4, rfl, HX4⟩
      dsimp only at HX4 ⊢
      have HB4 := Lib.hid (bt HB3.out HX4.out.2.2)
      clear HRd2
      go_wp2_with fail
      refine (alive_any _).mono ?_
      rintro e w5 ⟨rfl, hb5⟩
      have hq2 : q2 = q1 := HX2.out.1.trans HX1.out.1.symm
      have hq4 : q4 = q3 := HX4.out.1.trans HX3.out.1.symm
      subst hq2 hq4
      have b45 : Below w4.heap.size w4 w5 := hb5
      have o1 := (((HX1.out.2.1.below HX2.out.2.2 (Nat.le_refl _)).below HX3.out.2.2 (Nat.le_refl _)).below HX4.out.2.2 (Nat.le_refl _)).below hb5 (Nat.le_refl _)
      have o2 := ((HX2.out.2.1.below HX3.out.2.2 (Nat.le_refl _)).below HX4.out.2.2 (Nat.le_refl _)).below hb5 (Nat.le_refl _)
      have hc1 : (convert 23 9 (.slice A1 q2 c1)).run Try.prog w5 = .ok (.string ⟨Wb.toArray⟩) w5 := by
        rw [HX1.out.1]
        exact conv_bytes Try.underlying23 Try.underlying5 Try.underlying9 o1.bs _
      have hc2 : (convert 23 9 (.slice A2 q2 c2)).run Try.prog w5 = .ok (.string ⟨Wb.toArray⟩) w5 := by
        rw [HX2.out.1]
        exact conv_bytes Try.underlying23 Try.underlying5 Try.underlying9 o2.bs _
      have i3 := (HX3.out.2.1.at_.below HX4.out.2.2).below hb5
      have i4 := HX4.out.2.1.at_.below hb5
      have hqs : q4 ≤ 1000000 := by
        have h1 := HX4.out.1
        have h2 := HRq.out
        unfold readC at h2
        split at h2
        · injection h2 with h2 _; rw [h2] at h1; simp at h1; omega
        · split at h2
          · injection h2 with h2 _; rw [h2] at h1; simp at h1; omega
          · split at h2
            · injection h2 with h2 _
              rw [h2] at h1
              unfold chsC at h1
              rw [List.length_map, List.length_range] at h1
              omega
            · injection h2 with h2 _; rw [h2] at h1; simp at h1; omega
      have HSm := Lib.hid (samech_any A3 A4 Rl q4 c3 c4 w5 (Lib.hid HX4.out.1) hqs i3 i4)
      have HF := Lib.hid (bt HB4.out hb5)
      clear hb5 b45 o1 o2 i3 i4
      go_wp2_with fail
      refine HSm.out.mono ?_
      rintro e w6 ⟨rfl, hb6⟩
      have HG := Lib.hid (bt HF.out hb6)
      clear hb6 hc1 hc2
      go_wp2
      go_ret
      exact ⟨rfl, HG.out⟩
end Go.Proofs.Ytlliaihmfimdoaa.Re

namespace Go.Proofs.Ytlliaihmfimdoaa
open Go.RowKit Go.Maps
set_option linter.unusedVariables false
set_option linter.unusedSimpArgs false

/-! ### one work's calls on a store that is its own -/
def rowO (n y : Int) : Option Bool → List LRow
  | none => []
  | some b => [(y, n, b)]
def lastS (n y : Int) (c : Option Ch) (p : Bool) (a : Option Bool) : KS := ⟨anyB, fun _ => (0, false), fun j => if j = n then c.map (fun x => ([x], p)) else none, rowO n y a⟩
theorem take_last (n y : Int) (a : Option Bool) (al : Bool) : takeL (rowO n y a) n y al = (0, rowO n y (some ((a.getD false) || al))) := by
  rcases a with _ | b
  · simp [takeL, clashL, rowO, heldL, putL, aloneL]
  · simp [takeL, clashL, rowO, heldL, putL, aloneL, atB]
theorem open_last {n y : Int} (hn : 1 ≤ n) (hy : keyB y = true) (c : Option Ch) (a : Option Bool) (al : Bool) : openM (lastS n y c false a) n y al = (0, lastS n y c false (some ((a.getD false) || al))) := by
  unfold openM
  rw [if_neg (by simp [hy]; omega), if_neg (by unfold curW lastS; rcases c with _ | x <;> simp)]
  have := take_last n y a al
  show ((takeL (rowO n y a) n y al).1, { lastS n y c false a with L := (takeL (rowO n y a) n y al).2 }) = _
  rw [this]; rfl
theorem cur_last (n y : Int) (c : Option Ch) (p : Bool) (a : Option Bool) : curW (lastS n y c p a) n = ((c.map (fun x => ([x], p))).getD ([], false)) := by unfold curW lastS; simp
theorem upd_last (n y : Int) (c : Option Ch) (p : Bool) (a : Option Bool) (x : Ch) (q : Bool) : updW (lastS n y c p a).W n (some ([x], q)) = (lastS n y (some x) q a).W := by
  funext j; unfold updW lastS; dsimp only; split <;> rfl
theorem change_last {n y : Int} (hn : 1 ≤ n) (hy : keyB y = true) (c : Option Ch) (hc : ∀ x, c = some x → x.y = y) (a : Option Bool) (x : Ch) (hx : x.y = y) : changeM (lastS n y c false a) n x = (0, lastS n y (some x) false (some true)) := by
  have ho := open_last hn hy c a true
  rw [← hx] at ho ⊢
  unfold changeM
  rw [ho]
  simp only [if_true, Bool.or_true]
  have hw : withL (curW (lastS n x.y c false a) n).1 x = [x] := by
    rw [cur_last]
    rcases c with _ | x0
    · rfl
    · have := hc x0 rfl
      simp [withL, posN, this, hx]
  rw [hw]
  congr 1
  show (⟨anyB, _, updW (lastS n x.y c false a).W n (some ([x], false)), _⟩ : KS) = _
  rw [upd_last]; rfl
theorem get_last {n y : Int} (hn : 1 ≤ n) (hy : keyB y = true) (c : Option Ch) (hc : ∀ x, c = some x → x.y = y) (a : Option Bool) : getM (lastS n y c false a) n y = (((c.map (·.v)).getD 0, (c.map (fun x => x.k == 1)).getD false, 0), lastS n y c false (some (a.getD false))) := by
  have ho := open_last hn hy c a false
  unfold getM
  rw [ho]
  simp only [if_true, Bool.or_false]
  rw [cur_last]
  rcases c with _ | x0
  · simp [posN, valM, lastS, hy]
  · have := hc x0 rfl
    simp [posN, this]
theorem prep_last {n y : Int} (hn : 1 ≤ n) (x : Ch) (a : Option Bool) : prepM (lastS n y (some x) false a) n = (([x], 0), lastS n y (some x) true a) := by
  unfold prepM
  rw [if_neg (by omega), cur_last, if_neg (by simp), if_neg (by simp [lastS])]
  congr 1
  show (⟨anyB, _, updW (lastS n y (some x) false a).W n (some ([x], true)), _⟩ : KS) = _
  rw [upd_last]; rfl
theorem prep_last0 {n y : Int} (hn : 1 ≤ n) (a : Option Bool) : (prepM (lastS n y none false a) n).1 = ([], 0) ∧ (prepM (lastS n y none false a) n).2.V = fun _ => (0, false) := by
  unfold prepM
  rw [if_neg (by omega), cur_last, if_neg (by simp), if_pos (by simp [lastS])]
  exact ⟨rfl, rfl⟩
theorem commit_val {S : KS} {n : Int} (hn : 1 ≤ n) : (commitM S n).2.V = (curW S n).1.foldl setV S.V := by
  unfold commitM; rw [if_neg (by omega)]; rfl
theorem bad_open {S : KS} {n y : Int} (h : n < 1 ∨ keyB y = false) (al : Bool) : openM S n y al = (1, S) := if_pos h
theorem bad_change {S : KS} {n : Int} {x : Ch} (h : n < 1 ∨ keyB x.y = false) : changeM S n x = (1, S) := by
  unfold changeM; rw [bad_open h]; rfl
theorem bad_get {S : KS} {n y : Int} (h : n < 1 ∨ keyB y = false) : getM S n y = ((0, false, 1), S) := by
  unfold getM; rw [bad_open h]; rfl

/-! ### two works at one key -/
theorem openM_refused {S : KS} {n y : Int} {al : Bool} (h : (openM S n y al).1 ≠ 0) : (openM S n y al).2 = S := by
  unfold openM at h ⊢
  split
  · rfl
  · split
    · rfl
    · rename_i h1 h2
      rw [if_neg h1, if_neg h2] at h
      have := take_not (L := S.L) (L' := (takeL S.L n y al).2) (o := n) (k := y) (a := al) (r := (takeL S.L n y al).1) rfl h
      show ({ S with L := (takeL S.L n y al).2 } : KS) = S
      rw [this.1]
theorem changeM_refused {S : KS} {n : Int} {x : Ch} (h : (openM S n x.y true).1 ≠ 0) : changeM S n x = ((openM S n x.y true).1, S) := by
  unfold changeM; rw [if_neg h]
  have := openM_refused h
  exact Prod.ext rfl this
theorem getM_refused {S : KS} {n y : Int} (h : (openM S n y false).1 ≠ 0) : getM S n y = ((0, false, (openM S n y false).1), S) := by
  unfold getM; rw [if_neg h, openM_refused h]
theorem openM_clash {S : KS} {n y : Int} {al : Bool} {x : LRow} (hx : x ∈ S.L) (h1 : x.1 = y) (h2 : x.2.1 ≠ n) (h3 : x.2.2 = true) : (openM S n y al).1 ≠ 0 := by
  unfold openM
  split
  · simp
  · split
    · simp
    · have hc : clashL S.L n y al = false ∨ True := .inr trivial
      have hcl : clashL S.L y n al = true := clash_yes hx h1 h2 h3
      unfold takeL
      rw [if_pos hcl]
      simp
theorem withL_pos (l : List Ch) (x : Ch) : (withL l x)[posN (withL l x) x.y]? = some x := by
  unfold withL
  split
  · rename_i hlt
    have e : posN (l.set (posN l x.y) x) x.y = posN l x.y := by
      have hl2 : posN l x.y < (l.set (posN l x.y) x).length := by rw [List.length_set]; exact hlt
      show List.findIdx _ _ = _
      rw [List.findIdx_eq hl2]
      refine ⟨by simp, fun j hj => ?_⟩
      have hne : posN l x.y ≠ j := by omega
      rw [List.getElem_set_ne hne]
      have := List.not_of_lt_findIdx (show j < List.findIdx (fun z => decide (z.y = x.y)) l from hj)
      simpa using this
    rw [e, List.getElem?_set_self hlt]
  · rename_i hge
    have e : posN (l ++ [x]) x.y = l.length := by
      have hle := posN_le l x.y
      have heq : List.findIdx (fun z : Ch => decide (z.y = x.y)) l = l.length := by unfold posN at hle hge; omega
      unfold posN
      rw [List.findIdx_append, heq]
      simp
    rw [e]; simp
theorem alone_facts {S S1 : KS} {n y : Int} {v : Nat} (h : changeM S n ⟨1, y, v⟩ = (0, S1)) : (y, n, true) ∈ S1.L ∧ (∃ S2, getM S1 n y = ((v, true, 0), S2)) ∧ S1.B = S.B := by
  have hB := changeM_B S n ⟨1, y, v⟩
  rw [h] at hB
  unfold changeM at h
  split at h
  · rename_i h0
    injection h with _ h2
    have hok := openM_ok h0
    have hL : S1.L = putL S.L y n true ∧ clashL S.L y n true = false := by
      rw [← h2]
      show (openM S n y true).2.L = _ ∧ _
      unfold openM at h0 ⊢
      have e1 : ¬ (n < 1 ∨ keyB y = false) := by
        rintro (h | h)
        · have := hok.2.1; omega
        · have := hok.2.2; rw [h] at this; cases this
      have e2 : ¬ ((curW S n).2 = true) := by rw [hok.1]; simp
      rw [if_neg e1, if_neg e2] at h0 ⊢
      have := take_ok (L := S.L) (L' := (takeL S.L n y true).2) (o := n) (k := y) (a := true) (r := (takeL S.L n y true).1) rfl h0
      refine ⟨?_, this.1⟩
      show (takeL S.L n y true).2 = _
      rw [this.2, Bool.or_true]
    have hW : S1.W = updW S.W n (some (withL (curW S n).1 ⟨1, y, v⟩, false)) := by rw [← h2]
    refine ⟨by rw [hL.1]; exact put_new _ _ _ _, ?_, hB⟩
    have hcur : curW S1 n = (withL (curW S n).1 ⟨1, y, v⟩, false) := by show (S1.W n).getD _ = _; rw [hW]; simp [updW]
    have hcl : clashL S1.L y n false = false := by
      unfold clashL
      rw [List.any_eq_false]
      intro x hx hc
      rw [hL.1] at hx
      rcases put_mem hx with rfl | ⟨hx, hne⟩
      · simp at hc
      · simp only [Bool.and_eq_true, decide_eq_true_eq, Bool.not_eq_true', decide_eq_false_iff_not] at hc
        have := clash_no hL.2 hx hc.1.1 hc.1.2
        simp at this
    have hheld : heldL S1.L y n = true := by rw [hL.1]; exact held_iff.2 ⟨_, put_new _ _ _ _, rfl, rfl⟩
    have ho : (openM S1 n y false).1 = 0 := by
      unfold openM
      rw [if_neg (by rintro (h | h); have := hok.2.1; omega; have := hok.2.2; rw [h] at this; cases this), if_neg (by rw [hcur]; simp)]
      show (takeL S1.L n y false).1 = 0
      unfold takeL
      rw [hcl, if_neg (by simp), if_neg (by simp [hheld])]
    refine ⟨(getM S1 n y).2, ?_⟩
    obtain ⟨hp1, hp2⟩ := List.getElem?_eq_some_iff.1 (withL_pos (curW S n).1 ⟨1, y, v⟩)
    dsimp only at hp1 hp2
    have hg : getM S1 n y = ((v, true, 0), (openM S1 n y false).2) := by
      unfold getM
      rw [if_pos ho]
      rw [dif_pos (by rw [hcur]; exact hp1)]
      simp only [hcur, hp2]
      rfl
    rw [hg]
  · rename_i h0
    rw [h] at h0
    exact absurd rfl h0

/-! ### what is kept -/
theorem openM_V (S : KS) (n y : Int) (al : Bool) : (openM S n y al).2.V = S.V := (openM_W S n y al).2
theorem callM_V (S : KS) (o : OpV) (h1 : 0 ≤ o.k) (h2 : o.k ≤ 3) : (callM S o).2.V = S.V := by
  unfold callM
  by_cases k0 : o.k = 0
  · rw [if_pos k0]
    show (getM S o.n o.y).2.V = S.V
    unfold getM
    split
    · split <;> exact openM_V _ _ _ _
    · exact openM_V _ _ _ _
  · rw [if_neg k0]
    have hch : ∀ x : Ch, (changeM S o.n x).2.V = S.V := fun x => by
      unfold changeM; split <;> exact openM_V S o.n x.y true
    by_cases k1 : o.k = 1
    · rw [if_pos k1]; exact hch _
    · rw [if_neg k1]
      by_cases k2 : o.k = 2
      · rw [if_pos k2]; exact hch _
      · rw [if_neg k2, if_pos (by omega)]
        show (prepM S o.n).2.V = S.V
        unfold prepM
        split
        · rfl
        · split
          · rfl
          · split <;> rfl
theorem not_hasL_drop (L : List LRow) (n : Int) : hasL (dropL L n) n = false := by
  unfold hasL dropL
  rw [List.any_eq_false]
  intro x hx
  have := (List.mem_filter.1 hx).2
  simpa using this
theorem busy_drop (S : KS) (n : Int) : busyB (dropM S n) n = false := by
  unfold busyB dropM updW
  simp [not_hasL_drop]
end Go.Proofs.Ytlliaihmfimdoaa

namespace Go.Proofs.Ytlliaihmfimdoaa
open Go.RowKit Go.Maps
set_option linter.unusedVariables false
set_option linter.unusedSimpArgs false

/-- Numbers of 64 bits that came in. -/
def U64At (w : World) (A : Option Addr) (zs : List Nat) : Prop := zs.length ≤ maxLen ∧ (0 < zs.length → ∃ b o, A = some ⟨b, o, none⟩ ∧ b < w.heap.size ∧ ∀ i, (h : i < zs.length) → w.cell? ⟨b, o + i, none⟩ = some (.int .u64 ((zs[i]'h : Nat) : Int)))
def wantV (c : Option Ch) : Nat := (c.map (·.v)).getD 0
def wantT (c : Option Ch) : Bool := (c.map (fun x => x.k == 1)).getD false
theorem get_last2 {n y : Int} (hn : 1 ≤ n) (hy : keyB y = true) (c : Option Ch) (hc : ∀ x, c = some x → x.y = y) (a : Option Bool) : getM (lastS n y c false a) n y = ((wantV c, wantT c, 0), lastS n y c false (some (a.getD false))) := get_last hn hy c hc a
theorem last_tail {n y : Int} (hn : 1 ≤ n) (hy : keyB y = true) (c : Option Ch) (hc : ∀ x, c = some x → x.y = y) (a : Option Bool) : ∃ l S', prepM (lastS n y c false a) n = ((l, 0), S') ∧ l.length ≤ 1 ∧ S'.B = anyB ∧ valM (commitM S' n).2 y = (wantV c, wantT c) := by
  rcases c with _ | x
  · have h1 := (prep_last0 (y := y) hn a).1
    refine ⟨[], (prepM (lastS n y none false a) n).2, ?_, by simp, ?_, ?_⟩
    · rw [← h1]
    · unfold prepM; rw [if_neg (by omega), cur_last, if_neg (by simp), if_pos (by simp [lastS])]; rfl
    · unfold valM
      rw [if_pos hy, commit_val hn, (prep_last0 (y := y) hn a).2]
      have : (curW (prepM (lastS n y none false a) n).2 n).1 = [] := by
        unfold prepM; rw [if_neg (by omega), cur_last, if_neg (by simp), if_pos (by simp [lastS])]
        simp [curW, lastS]
      rw [this]; rfl
  · have hx := hc x rfl
    refine ⟨[x], _, prep_last hn x a, by simp, rfl, ?_⟩
    unfold valM
    rw [if_pos hy, commit_val hn, cur_last]
    show setV (fun _ => (0, false)) x y.toNat = _
    unfold setV
    rw [if_pos (by rw [hx])]
    rfl
theorem bad_key {n y : Int} (h : n < 1 ∨ keyB y = false) : n < 1 ∨ y < 0 ∨ 16 ≤ y := by
  rcases h with h | h
  · exact .inl h
  · unfold keyB at h; simp at h; omega
end Go.Proofs.Ytlliaihmfimdoaa
