/- Parts Sk Sl of one proof. -/
import Derived.Test.YtlliaihmfimdoaaGreatMg30
import Derived.Test.YtlliaihmfimdoaaGreatMg31
import Derived.BigQuiet
namespace Go.Proofs.YtlliaihmfimdoaaGreat.Re
open Go.RowKit Go.Maps Go.Deep Go.Proofs.YtlliaihmfimdoaaGreat
set_option linter.unusedVariables false
set_option linter.unusedSimpArgs false
def isK (c : Ch) : Bool := decide (1 ≤ c.k) && decide (c.k ≤ 2)
theorem isk_any (k y : Int) (v : Nat) (w : World) : Calls Tryz.prog 71 #[.agg #[.int .i64 k, .int .i64 y, .int .u64 (v : Nat)]] w fun e w' => e = .returned (.bool (isK ⟨k, y, v⟩)) ∧ Below w.heap.size w w' := by
 have hb := ba w (.cells #[.int .i64 k, .int .i64 y, .int .u64 (v : Nat)] 74)
 have HB := Lib.hid hb
 clear hb
 by_cases h1 : 1 ≤ k
 ·have hR : Hid (isK ⟨k, y, v⟩ = decide (k ≤ 2)) := Lib.hid (by unfold isK; simp [h1])
  go_enter Tryz.func71, Tryz.ntmps71
  go_wp2
  go_ret
  exact ⟨by rw [hR.out]; rfl, HB.out⟩
 ·have hR : Hid (isK ⟨k, y, v⟩ = false) := Lib.hid (by unfold isK; simp [h1])
  go_enter Tryz.func71, Tryz.ntmps71
  go_wp2
  go_ret
  exact ⟨by rw [hR.out]; rfl, HB.out⟩
theorem notk_any (k y : Int) (v : Nat) (w : World) : Calls Tryz.prog 115 #[.agg #[.int .i64 k, .int .i64 y, .int .u64 (v : Nat)]] w fun e w' => e = .returned (.bool (!isK ⟨k, y, v⟩)) ∧ Below w.heap.size w w' := by
 have hb := ba w (.cells #[.int .i64 k, .int .i64 y, .int .u64 (v : Nat)] 74)
 have HB := Lib.hid hb
 have kb := Blk.new w 74 #[.int .i64 k, .int .i64 y, .int .u64 (v : Nat)]
 have c0 := kb.cell 0
 have c1 := kb.cell 1
 have c2 := kb.cell 2
 simp only [List.getElem?_toArray, List.getElem?_cons_zero, List.getElem?_cons_succ] at c0 c1 c2
 clear hb kb
 go_enter Tryz.func115, Tryz.ntmps115
 go_wp2_with fail
 refine (isk_any k y v _).mono ?_
 rintro e w1 ⟨rfl, b1⟩
 have HX := Lib.hid (bt HB.out b1)
 clear b1 c0 c1 c2
 go_wp2
 go_ret
 exact ⟨rfl, HX.out⟩
def posC (p : Ch → Bool) (l : List Ch) : Nat := l.findIdx p
def posD (p : Ch → Bool) (l : List Ch) : Int := if posC p l < l.length then (posC p l : Nat) else -1
def notK (c : Ch) : Bool := !isK c
set_option maxRecDepth 100000 in
set_option maxHeartbeats 1000000 in
theorem indexk_any (A : Option Addr) (l : List Ch) (n c : Nat) (hn : Hid (n = l.length)) (hm : n ≤ 1000000) (w : World) (h : InL w A l) :
  Calls Tryz.prog 97 #[.slice A n c, .func (.func 71) #[] #[]] w fun e w' => e = .returned (.int .i64 (posD isK l)) ∧ Below w.heap.size w w' := by
 have H := Lib.hid h
 clear h
 go_enter Tryz.func97, Tryz.ntmps97
 go_wp2_with fail
 go_loopw [8] (fun i wr => ∃ (j : Nat), j ≤ n ∧ i = .int .i64 j ∧ Hid (∀ q, q < j → ∀ hq : q < l.length, isK (l[q]'hq) = false) ∧ Hid (Below w.heap.size w wr)) (fun i _ => n - (intOf i).toNat)
 case atStart => exact ⟨0, Nat.zero_le _, rfl, Lib.hid (fun q hq => by omega), Lib.hid (Below.refl _ _)⟩
 case round =>
  obtain ⟨j, hj, rfl, hno, hb⟩ := hrel
  by_cases hjn : j < n
  ·have hjI : (j : Int) < (n : Int) := by omega
   have hjl : j < l.length := by rw [← hn.out]; exact hjn
   obtain ⟨b, o, rfl, _, hcs⟩ := (H.out.below hb.out) (by omega)
   obtain ⟨q0, q1, q2⟩ := hcs j hjl
   obtain ⟨x, hx⟩ : ∃ x, x = l[j]'hjl := ⟨_, rfl⟩
   rw [← hx] at q0 q1 q2
   have HX := Lib.hid (show ∃ hjl : j < l.length, x = l[j]'hjl from ⟨hjl, hx⟩)
   obtain ⟨xk, xy, xv⟩ := x
   dsimp only at q0 q1 q2
   have hC := isk_any xk xy xv wr
   obtain ⟨r, hr⟩ : ∃ r, r = isK ⟨xk, xy, xv⟩ := ⟨_, rfl⟩
   have hC2 : Calls Tryz.prog 71 #[.agg #[.int .i64 xk, .int .i64 xy, .int .u64 (xv : Nat)]] wr fun e w' => e = .returned (.bool r) ∧ Below wr.heap.size wr w' := by rw [hr]; exact hC
   have HC := Lib.hid hC2
   have HRr := Lib.hid hr
   clear hcs hx hjl hC hC2 hr
   rcases r with _ | _
   ·have hno2 : Hid (∀ q, q < j + 1 → ∀ hq : q < l.length, isK (l[q]'hq) = false) := Lib.hid fun q hq hql => by
     by_cases e : q = j
     ·subst e
      obtain ⟨_, hx⟩ := HX.out
      rw [← hx, ← HRr.out]
     ·exact hno.out q (by omega) hql
    go_wp2_with fail
    refine HC.out.mono ?_
    rintro e w2 ⟨rfl, b2⟩
    have hb2 := Lib.hid (bt hb.out b2)
    clear b2 q0 q1 q2
    go_wp2
    go_roundw
    case rel => exact ⟨j + 1, by omega, by go_num, hno2, hb2⟩
    case measure => simp [intOf]; omega
   ·have hpos : Hid (posD isK l = (j : Int)) := Lib.hid (by
     obtain ⟨hjl, hx⟩ := HX.out
     have e : posC isK l = j := by
      unfold posC
      rw [List.findIdx_eq hjl]
      exact ⟨by rw [← hx]; exact HRr.out.symm, fun q hq => hno.out q hq (by omega)⟩
     unfold posD
     rw [e, if_pos hjl])
    go_wp2_with fail
    refine HC.out.mono ?_
    rintro e w2 ⟨rfl, b2⟩
    have hb2 := Lib.hid (bt hb.out b2)
    clear b2 q0 q1 q2
    go_wp2
    go_ret
    exact ⟨by rw [hpos.out]; rfl, hb2.out⟩
  ·obtain rfl : j = n := by omega
   have hjI : ¬ (j : Int) < (j : Int) := by omega
   have hpos : Hid (posD isK l = -1) := Lib.hid (by
    have e : posC isK l = l.length := by
     unfold posC
     rw [List.findIdx_eq_length]
     intro x hx
     obtain ⟨q, hq, rfl⟩ := List.mem_iff_getElem.1 hx
     exact hno.out q (by rw [hn.out]; exact hq) hq
    unfold posD
    rw [e, if_neg (by omega)])
   go_wp2
   go_ret
   exact ⟨by rw [hpos.out]; rfl, hb.out⟩
set_option maxRecDepth 100000 in
set_option maxHeartbeats 1000000 in
theorem indexn_any (A : Option Addr) (l : List Ch) (n c : Nat) (hn : Hid (n = l.length)) (hm : n ≤ 1000000) (w : World) (h : InL w A l) :
  Calls Tryz.prog 97 #[.slice A n c, .func (.func 115) #[] #[]] w fun e w' => e = .returned (.int .i64 (posD notK l)) ∧ Below w.heap.size w w' := by
 have H := Lib.hid h
 clear h
 go_enter Tryz.func97, Tryz.ntmps97
 go_wp2_with fail
 go_loopw [8] (fun i wr => ∃ (j : Nat), j ≤ n ∧ i = .int .i64 j ∧ Hid (∀ q, q < j → ∀ hq : q < l.length, notK (l[q]'hq) = false) ∧ Hid (Below w.heap.size w wr)) (fun i _ => n - (intOf i).toNat)
 case atStart => exact ⟨0, Nat.zero_le _, rfl, Lib.hid (fun q hq => by omega), Lib.hid (Below.refl _ _)⟩
 case round =>
  obtain ⟨j, hj, rfl, hno, hb⟩ := hrel
  by_cases hjn : j < n
  ·have hjI : (j : Int) < (n : Int) := by omega
   have hjl : j < l.length := by rw [← hn.out]; exact hjn
   obtain ⟨b, o, rfl, _, hcs⟩ := (H.out.below hb.out) (by omega)
   obtain ⟨q0, q1, q2⟩ := hcs j hjl
   obtain ⟨x, hx⟩ : ∃ x, x = l[j]'hjl := ⟨_, rfl⟩
   rw [← hx] at q0 q1 q2
   have HX := Lib.hid (show ∃ hjl : j < l.length, x = l[j]'hjl from ⟨hjl, hx⟩)
   obtain ⟨xk, xy, xv⟩ := x
   dsimp only at q0 q1 q2
   have hC := notk_any xk xy xv wr
   obtain ⟨r, hr⟩ : ∃ r, r = notK ⟨xk, xy, xv⟩ := ⟨_, rfl⟩
   have hC2 : Calls Tryz.prog 115 #[.agg #[.int .i64 xk, .int .i64 xy, .int .u64 (xv : Nat)]] wr fun e w' => e = .returned (.bool r) ∧ Below wr.heap.size wr w' := by rw [hr]; exact hC
   have HC := Lib.hid hC2
   have HRr := Lib.hid hr
   clear hcs hx hjl hC hC2 hr
   rcases r with _ | _
   ·have hno2 : Hid (∀ q, q < j + 1 → ∀ hq : q < l.length, notK (l[q]'hq) = false) := Lib.hid fun q hq hql => by
     by_cases e : q = j
     ·subst e
      obtain ⟨_, hx⟩ := HX.out
      rw [← hx, ← HRr.out]
     ·exact hno.out q (by omega) hql
    go_wp2_with fail
    refine HC.out.mono ?_
    rintro e w2 ⟨rfl, b2⟩
    have hb2 := Lib.hid (bt hb.out b2)
    clear b2 q0 q1 q2
    go_wp2
    go_roundw
    case rel => exact ⟨j + 1, by omega, by go_num, hno2, hb2⟩
    case measure => simp [intOf]; omega
   ·have hpos : Hid (posD notK l = (j : Int)) := Lib.hid (by
     obtain ⟨hjl, hx⟩ := HX.out
     have e : posC notK l = j := by
      unfold posC
      rw [List.findIdx_eq hjl]
      exact ⟨by rw [← hx]; exact HRr.out.symm, fun q hq => hno.out q hq (by omega)⟩
     unfold posD
     rw [e, if_pos hjl])
    go_wp2_with fail
    refine HC.out.mono ?_
    rintro e w2 ⟨rfl, b2⟩
    have hb2 := Lib.hid (bt hb.out b2)
    clear b2 q0 q1 q2
    go_wp2
    go_ret
    exact ⟨by rw [hpos.out]; rfl, hb2.out⟩
  ·obtain rfl : j = n := by omega
   have hjI : ¬ (j : Int) < (j : Int) := by omega
   have hpos : Hid (posD notK l = -1) := Lib.hid (by
    have e : posC notK l = l.length := by
     unfold posC
     rw [List.findIdx_eq_length]
     intro x hx
     obtain ⟨q, hq, rfl⟩ := List.mem_iff_getElem.1 hx
     exact hno.out q (by rw [hn.out]; exact hq) hq
    unfold posD
    rw [e, if_neg (by omega)])
   go_wp2
   go_ret
   exact ⟨by rw [hpos.out]; rfl, hb.out⟩
end Go.Proofs.YtlliaihmfimdoaaGreat.Re


namespace Go.Proofs.YtlliaihmfimdoaaGreat.Re
open Go.RowKit Go.Maps Go.Deep Go.Proofs.YtlliaihmfimdoaaGreat
set_option linter.unusedVariables false
set_option linter.unusedSimpArgs false
theorem posD_any (l : List Ch) (p : Ch → Bool) : decide (0 ≤ posD p l) = l.any p := by
 unfold posD posC
 by_cases h : l.findIdx p < l.length
 ·rw [if_pos h]
  have := List.findIdx_lt_length.1 h
  rw [List.any_eq_true.2 (by obtain ⟨x, hx, hp⟩ := this; exact ⟨x, hx, hp⟩)]
  simp
 ·rw [if_neg h]
  have : l.any p = false := by
   rw [List.any_eq_false]
   intro x hx hp
   exact h (List.findIdx_lt_length.2 ⟨x, hx, hp⟩)
  rw [this]; rfl
set_option maxRecDepth 100000 in
set_option maxHeartbeats 1000000 in
theorem containsk_any (A : Option Addr) (l : List Ch) (n c : Nat) (hn : Hid (n = l.length)) (hm : n ≤ 1000000) (w : World) (h : InL w A l) :
  Calls Tryz.prog 56 #[.slice A n c, .func (.func 71) #[] #[]] w fun e w' => e = .returned (.bool (l.any isK)) ∧ Below w.heap.size w w' := by
 have HC := Lib.hid (indexk_any A l n c hn hm w h)
 obtain ⟨k, hk⟩ : ∃ k, k = posD isK l := ⟨_, rfl⟩
 rw [← hk] at HC
 have HK : Hid (l.any isK = decide (0 ≤ k)) := Lib.hid (by rw [hk, posD_any])
 clear h hk
 go_enter Tryz.func56, Tryz.ntmps56
 go_wp2_with fail
 refine HC.out.mono ?_
 rintro e w1 ⟨rfl, b1⟩
 have HB := Lib.hid b1
 clear b1
 go_wp2
 go_ret
 exact ⟨by rw [HK.out]; rfl, HB.out⟩
def endK (l : List Ch) : Nat := posC notK l
theorem endK_le (l : List Ch) : endK l ≤ l.length := List.findIdx_le_length
def shiftA (A : Option Addr) (m : Nat) : Option Addr := A.map fun a => ⟨a.block, a.off + m * 3, a.spot⟩
theorem inl_take {u : World} {A : Option Addr} {l : List Ch} (h : InL u A l) (m : Nat) : InL u A (l.take m) := fun hl => by
 rw [List.length_take] at hl
 obtain ⟨b, o, e, hb, hc⟩ := h (by omega)
 refine ⟨b, o, e, hb, fun i hi => ?_⟩
 rw [List.length_take] at hi
 rw [List.getElem_take]
 exact hc i (by omega)
theorem inl_drop {u : World} {A : Option Addr} {l : List Ch} (h : InL u A l) (m : Nat) : InL u (shiftA A m) (l.drop m) := fun hl => by
 rw [List.length_drop] at hl
 obtain ⟨b, o, rfl, hb, hc⟩ := h (by omega)
 refine ⟨b, o + m * 3, rfl, hb, fun i hi => ?_⟩
 rw [List.length_drop] at hi
 rw [List.getElem_drop]
 have := hc (m + i) (by omega)
 rw [show o + m * 3 + i * 3 = o + (m + i) * 3 by omega]
 exact this
set_option maxRecDepth 100000 in
set_option maxHeartbeats 1000000 in
theorem parted_any (A : Option Addr) (l : List Ch) (n c : Nat) (hn : Hid (n = l.length)) (hm : n ≤ 1000000) (hc : n ≤ c ∧ c ≤ 9223372036854775807) (w : World) (h : InL w A l) :
  Calls Tryz.prog 70 #[.slice A n c] w fun e w' => (∃ A2, e = .returned (.tuple #[.slice A (endK l) c, .slice A2 (n - endK l) (c - endK l)]) ∧ (endK l < n → A2 = shiftA A (endK l))) ∧ Below w.heap.size w w' := by
 have HC := Lib.hid (indexn_any A l n c hn hm w h)
 have HA : Hid (0 < n → ∃ b o, A = some ⟨b, o, none⟩) := Lib.hid fun h0 => by
  obtain ⟨b, o, e, _⟩ := h (by rw [← hn.out]; exact h0)
  exact ⟨b, o, e⟩
 obtain ⟨m, hmm⟩ : ∃ m, m = endK l := ⟨_, rfl⟩
 have hmn : m ≤ n := by rw [hmm, hn.out]; exact endK_le l
 rw [← hmm]
 have HD : Hid ((m < n → posD notK l = (m : Nat)) ∧ (¬ m < n → posD notK l = -1)) := Lib.hid (by
  rw [hmm, hn.out]
  unfold posD endK
  exact ⟨fun h => if_pos h, fun h => if_neg h⟩)
 clear h hmm
 by_cases hlt : m < n
 ·rw [HD.out.1 hlt] at HC
  obtain ⟨b, o, rfl⟩ := HA.out (by omega)
  have hmI : ¬ (m : Int) < 0 := by omega
  have hmI2 : decide ((m : Int) < 0) = false := decide_eq_false hmI
  have hmc : (m : Int) ≤ (c : Int) := by omega
  have hmn2 : (m : Int) ≤ (n : Int) := by omega
  have hnc : (n : Int) ≤ (c : Int) := by omega
  go_enter Tryz.func70, Tryz.ntmps70
  go_wp2_with fail
  refine HC.out.mono ?_
  rintro e w1 ⟨rfl, b1⟩
  have HB : Hid (∀ k : Nat, Below w.heap.size w (w1.drewN k)) := Lib.hid fun k => bt b1 ⟨rfl, rfl, rfl, Nat.le_refl _, fun _ _ => rfl⟩
  clear b1
  go_wp2_with fail
  go_quiet (fail)
  go_wp2
  go_ret2
  exact ⟨⟨_, rfl, fun _ => rfl⟩, HB.out nq⟩
 ·rw [HD.out.2 hlt] at HC
  obtain rfl : m = n := by omega
  have hmc : (m : Int) ≤ (c : Int) := by omega
  have HX : Hid (∀ A2 : Option Addr, m < m → A2 = shiftA A m) := Lib.hid fun A2 h => absurd h (Nat.lt_irrefl _)
  rcases A with _ | a
  ·have hm0 : m = 0 := Classical.byContradiction fun e => by
    obtain ⟨b, o, e2⟩ := HA.out (by omega)
    cases e2
   subst hm0
   go_enter Tryz.func70, Tryz.ntmps70
   go_wp2_with fail
   refine HC.out.mono ?_
   rintro e w1 ⟨rfl, b1⟩
   have HB : Hid (∀ k : Nat, Below w.heap.size w (w1.drewN k)) := Lib.hid fun k => bt b1 ⟨rfl, rfl, rfl, Nat.le_refl _, fun _ _ => rfl⟩
   clear b1
   go_wp2_with fail
   go_quiet (fail)
   go_wp2
   go_ret2
   exact ⟨⟨_, rfl, HX.out _⟩, HB.out nq⟩
  ·obtain ⟨ab, ao, af⟩ := a
   go_enter Tryz.func70, Tryz.ntmps70
   go_wp2_with fail
   refine HC.out.mono ?_
   rintro e w1 ⟨rfl, b1⟩
   have HB : Hid (∀ k : Nat, Below w.heap.size w (w1.drewN k)) := Lib.hid fun k => bt b1 ⟨rfl, rfl, rfl, Nat.le_refl _, fun _ _ => rfl⟩
   clear b1
   go_wp2_with fail
   go_quiet (fail)
   all_goals
    go_wp2
    all_goals
     go_ret2
     first | exact ⟨⟨_, rfl⟩, HB.out nq⟩ | exact ⟨⟨_, rfl, HX.out _⟩, HB.out nq⟩
end Go.Proofs.YtlliaihmfimdoaaGreat.Re

