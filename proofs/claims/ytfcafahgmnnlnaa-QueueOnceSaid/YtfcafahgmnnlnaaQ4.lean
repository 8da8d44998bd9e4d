/- Layer 14: New, names, open, Next, Busy, puts. -/
import Derived.Test.YtfcafahgmnnlnaaQ3
namespace Go.Proofs.Ytfcafahgmnnlnaa.Qu
open Go.RowKit Go.Maps
set_option linter.unusedVariables false
set_option linter.unusedSimpArgs false

set_option maxRecDepth 100000 in
theorem new_any (B : Nat → Prop) (w : World) : Calls Try.prog 10 #[] w fun e w' => e = .returned (.pointer (some ⟨w.heap.size, 0, none⟩)) ∧ (∃ cs, QAt w' w.heap.size 0 54 cs (QS.zero B) 0) ∧ Below w.heap.size w w' := by
  have hk := QAt.zero B w
  go_enter Try.func10, Try.ntmps10
  go_wp2
  go_ret
  exact ⟨rfl, ⟨_, hk⟩, ba _ _⟩
theorem names_nil (n : Int) (w : World) : Calls Try.prog 39 #[.pointer none, .int .i64 n] w fun e w' => e = .returned (.int .i64 6) ∧ w = w' := by
  go_enter Try.func39, Try.ntmps39
  go_wp2
  go_ret
  exact ⟨rfl, rfl⟩
def namesE (n : Int) : Int := if n < 1 then 1 else 0
theorem names_any (g of : Nat) (n : Int) (w : World) : Calls Try.prog 39 #[.pointer (some ⟨g, of, none⟩), .int .i64 n] w fun e w' => e = .returned (.int .i64 (namesE n)) ∧ w = w' := by
  unfold namesE
  by_cases h : n < 1
  · rw [if_pos h]
    go_enter Try.func39, Try.ntmps39
    go_wp2
    go_ret
    exact ⟨rfl, rfl⟩
  · rw [if_neg h]
    go_enter Try.func39, Try.ntmps39
    go_wp2
    go_ret
    exact ⟨rfl, rfl⟩
theorem next_nil (w : World) : Calls Try.prog 19 #[.pointer none] w fun e w' => e = .returned (.int .i64 0) ∧ w = w' := by
  go_enter Try.func19, Try.ntmps19
  go_wp2
  go_ret
  exact ⟨rfl, rfl⟩
theorem next_any (g of : Nat) (tt : TypeId) (cs : Array Value) (S : QS) (N : Nat) (w : World) (h : QAt w g of tt cs S N) : Calls Try.prog 19 #[.pointer (some ⟨g, of, none⟩)] w fun e w' => e = .returned (.int .i64 (S.g + 1)) ∧ w = w' := by
  have c1 := (h.bk.cell (of + 1)).trans h.la
  have hw : IntKind.i64.wrap (S.g + 1) = S.g + 1 := IntWalk.i64_in _ (by have := h.iv.g0; have := h.iv.last; omega)
  clear h
  go_enter Try.func19, Try.ntmps19
  go_wp2
  go_ret
  exact ⟨rfl, rfl⟩
theorem busy_nil (n : Int) (w : World) : Calls Try.prog 20 #[.pointer none, .int .i64 n] w fun e w' => e = .returned (.bool false) ∧ w = w' := by
  go_enter Try.func20, Try.ntmps20
  go_wp2
  go_ret
  exact ⟨rfl, rfl⟩
set_option maxRecDepth 100000 in
theorem busy_any (g of : Nat) (tt : TypeId) (cs : Array Value) (S : QS) (N : Nat) (n : Int) (w : World) (h : QAt w g of tt cs S N) (hn : i64ok n) :
    Calls Try.prog 20 #[.pointer (some ⟨g, of, none⟩), .int .i64 n] w fun e w' => e = .returned (.bool (lookQ S.ws n).isSome) ∧ Below w.heap.size w w' := by
  obtain ⟨m, A, q, c, h32, hq, hc, _, r2⟩ := h.look hn
  have c32 := (h.bk.cell (of + 2)).trans h32
  generalize (curQ S.ws n).2 = pr at r2
  generalize (lookQ S.ws n).isSome = bz at r2
  clear h hq hc h32
  go_enter Try.func20, Try.ntmps20
  go_wp2
  go_ret
  exact ⟨rfl, ba _ _⟩
theorem putsL_take (l : List Ch) (i : Nat) (hi : i < l.length) : putsL (l.take (i + 1)) = putsL (l.take i) + (if (l[i]'hi).k = 3 then 1 else 0) := by
  unfold putsL
  rw [List.take_add_one, List.getElem?_eq_getElem hi, List.filter_append, List.length_append]
  congr 1
  by_cases e : (l[i]'hi).k = 3
  · simp [e]
  · simp [e]
theorem putsL_le (l : List Ch) : putsL l ≤ l.length := List.length_filter_le _ _
set_option maxRecDepth 100000 in
set_option maxHeartbeats 2000000 in
theorem puts_any (A : Option Addr) (l : List Ch) (n c : Nat) (w : World) (hn : Hid (n = l.length)) (hm : n ≤ 1000000) (hL : InL w A l) :
    Calls Try.prog 48 #[.slice A n c] w fun e w' => e = .returned (.int .i64 ((putsL l : Nat) : Int)) ∧ Below w.heap.size w w' := by
  have HI : Hid (Below w.heap.size w w) := Lib.hid (Below.refl _ _)
  have HL := Lib.hid hL
  clear hL
  go_enter Try.func48, Try.ntmps48
  go_wp2_with fail
  go_loopw [8, 3] (fun i k wr => ∃ (i0 k0 : Nat), i0 ≤ n ∧ i = .int .i64 i0 ∧ k = .int .i64 k0 ∧ k0 ≤ i0 ∧ Hid (k0 = putsL (l.take i0)) ∧ Hid (Below w.heap.size w wr)) (fun i k _ => n - (intOf i).toNat)
  case atStart => exact ⟨0, 0, Nat.zero_le _, rfl, rfl, Nat.le_refl _, Lib.hid rfl, HI⟩
  case round =>
    clear HI
    obtain ⟨i0, k0, hi, rfl, rfl, hk0, HK, HB⟩ := hrel
    by_cases hin : i0 < n
    · have hiI : (i0 : Int) < (n : Int) := by omega
      have hil : i0 < l.length := by rw [← hn.out]; exact hin
      obtain ⟨b, o, rfl, _, hcs⟩ := (HL.out.below HB.out) (by omega)
      obtain ⟨q0, q1, q2⟩ := hcs i0 hil
      have hst := putsL_take l i0 hil
      obtain ⟨x, hx⟩ : ∃ x, x = l[i0]'hil := ⟨_, rfl⟩
      rw [← hx] at q0 q1 q2 hst
      obtain ⟨kd, y, v⟩ := x
      dsimp only at q0 q1 q2 hst
      obtain ⟨wA, hwA⟩ : ∃ wA, wA = wr.alloc (.cells #[.int .i64 kd, .int .i64 y, .int .u64 (v : Nat)] 49) := ⟨_, rfl⟩
      have bA : Below wr.heap.size wr wA := by rw [hwA]; exact ba _ _
      have kA : Blk wA wr.heap.size 49 #[.int .i64 kd, .int .i64 y, .int .u64 (v : Nat)] := by rw [hwA]; exact Blk.new _ _ _
      have e0 := kA.cell 0
      simp only [List.getElem?_toArray, List.getElem?_cons_zero] at e0
      have HB2 : Hid (Below w.heap.size w wA) := Lib.hid (bt HB.out bA)
      have HWA := Lib.hid hwA
      rw [hwA] at e0
      by_cases hk3 : kd = 3
      · subst hk3
        have HK2 : Hid (k0 + 1 = putsL (l.take (i0 + 1))) := Lib.hid (by rw [hst, if_pos rfl, ← HK.out])
        clear hcs hx hst HK HB hwA bA kA
        go_wp2
        rw [← HWA.out]
        go_roundw
        case rel => exact ⟨i0 + 1, k0 + 1, by omega, by go_num, by go_num, by omega, HK2, HB2⟩
        case measure => simp [intOf]; omega
      · have HK2 : Hid (k0 = putsL (l.take (i0 + 1))) := Lib.hid (by rw [hst, if_neg hk3, ← HK.out]; rfl)
        have hkb : (kd == 3) = false := by simp [hk3]
        clear hcs hx hst HK HB hwA bA kA
        go_wp2
        rw [← HWA.out]
        go_roundw
        case rel => exact ⟨i0 + 1, k0, by omega, by go_num, rfl, by omega, HK2, HB2⟩
        case measure => simp [intOf]; omega
    · obtain rfl : i0 = n := by omega
      have hiI : ¬ (i0 : Int) < (i0 : Int) := by omega
      have HK2 : Hid (k0 = putsL l) := Lib.hid (by rw [HK.out, List.take_of_length_le (by rw [hn.out]; exact Nat.le_refl _)])
      clear HK
      go_wp2
      go_ret
      exact ⟨by rw [← HK2.out]; rfl, HB.out⟩
end Go.Proofs.Ytfcafahgmnnlnaa.Qu
