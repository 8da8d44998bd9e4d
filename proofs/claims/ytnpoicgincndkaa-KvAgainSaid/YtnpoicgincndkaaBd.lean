/- Layer 13: where a change stands; a list is cloned; a change more. -/
import Derived.Test.YtnpoicgincndkaaBc
namespace Go.Proofs.Ytnpoicgincndkaa
open Go.RowKit
set_option linter.unusedVariables false
set_option linter.unusedSimpArgs false

def keyB (y : Int) : Bool := decide (0 ≤ y) && decide (y < 16)
theorem kisKey_any (y : Int) (b : Bool) (h : keyB y = b) (w : World) : Calls Try.prog 36 #[.int .i64 y] w fun e w' => e = .returned (.bool b) ∧ w = w' := by
  unfold keyB at h
  rcases h1 : decide (0 ≤ y) with _ | _
  · rw [h1] at h
    subst h
    go_enter Try.func36, Try.ntmps36
    go_wp2
    go_ret
    exact ⟨rfl, rfl⟩
  · rw [h1] at h
    rcases h2 : decide (y < 16) with _ | _
    all_goals
      rw [h2] at h
      subst h
      go_enter Try.func36, Try.ntmps36
      go_wp2
      go_ret
      exact ⟨rfl, rfl⟩
theorem place1_any (x : Ch) (p : Nat) (y : Int) (b : Bool) (hb : (x.y == y) = b) (w : World) (hp : w.cell? ⟨p, 0, none⟩ = some (.int .i64 y)) : Calls Try.prog 60 #[.agg #[.int .i64 x.k, .int .i64 x.y, .int .u64 (x.v : Nat)], .pointer (some ⟨p, 0, none⟩)] w fun e w' => e = .returned (.bool b) ∧ Below w.heap.size w w' := by
  have hlt := World.block_lt_of_cell? _ _ hp
  have hbw := ba w (.cells #[.int .i64 x.k, .int .i64 x.y, .int .u64 (x.v : Nat)] 47)
  have kb := Blk.new w 47 #[.int .i64 x.k, .int .i64 x.y, .int .u64 (x.v : Nat)]
  have c1 := kb.cell 1
  simp only [List.getElem?_toArray, List.getElem?_cons_zero, List.getElem?_cons_succ] at c1
  have cp := (hbw.cell (p := ⟨p, 0, none⟩) hlt).trans hp
  go_enter Try.func60, Try.ntmps60
  go_wp2
  go_ret
  exact ⟨rfl, hbw⟩
set_option maxHeartbeats 1000000 in
theorem index_any (A : Option Addr) (l : List Ch) (n c p : Nat) (y : Int) (hn : Hid (n = l.length)) (hm : n ≤ 1000000) (w : World) {B : Nat → Prop} (h : ChAt w B A l) (hp : w.cell? ⟨p, 0, none⟩ = some (.int .i64 y)) :
    Calls Try.prog 59 #[.slice A n c, .func (.func 60) #[] #[.pointer (some ⟨p, 0, none⟩)]] w fun e w' => e = .returned (.int .i64 (posI l y)) ∧ Below w.heap.size w w' := by
  have H := Lib.hid h
  have hlt := World.block_lt_of_cell? _ _ hp
  have HP := Lib.hid (And.intro hp hlt)
  clear h hp hlt
  go_enter Try.func59, Try.ntmps59
  go_wp2_with fail
  go_loopw [8] (fun i wr => ∃ (j : Nat), j ≤ n ∧ i = .int .i64 j ∧ Hid (∀ q, q < j → ∀ hq : q < l.length, (l[q]'hq).y ≠ y) ∧ Below w.heap.size w wr) (fun i _ => n - (intOf i).toNat)
  case atStart => exact ⟨0, Nat.zero_le _, rfl, Lib.hid (fun q hq => by omega), Below.refl _ _⟩
  case round =>
    obtain ⟨j, hj, rfl, hno, hb⟩ := hrel
    by_cases hjn : j < n
    · have hjI : (j : Int) < (n : Int) := by omega
      have hjl : j < l.length := by rw [← hn.out]; exact hjn
      obtain ⟨b, o, rfl, hbk, hcs⟩ := H.out (by omega)
      obtain ⟨q0, q1, q2⟩ := hcs j hjl
      have hbl : b < w.heap.size := by obtain ⟨_, cs, fz, hh⟩ := hbk; exact (Array.getElem?_eq_some_iff.1 hh).1
      have p0 := (hb.cell (p := ⟨b, o + j * 3, none⟩) hbl).trans q0
      have p1 := (hb.cell (p := ⟨b, o + j * 3 + 1, none⟩) hbl).trans q1
      have p2 := (hb.cell (p := ⟨b, o + j * 3 + 2, none⟩) hbl).trans q2
      have hcp := (hb.cell (p := ⟨p, 0, none⟩) HP.out.2).trans HP.out.1
      obtain ⟨x, hx⟩ : ∃ x, x = l[j]'hjl := ⟨_, rfl⟩
      rw [← hx] at p0 p1 p2
      have HX := Lib.hid hx
      have hc := fun b' (hb' : (x.y == y) = b') => place1_any x p y b' hb' wr hcp
      clear hcs q0 q1 q2 hbk hx hcp
      rcases hxy : (x.y == y) with _ | _
      · have HC := Lib.hid (hc _ hxy)
        have hno2 : Hid (∀ q, q < j + 1 → ∀ hq : q < l.length, (l[q]'hq).y ≠ y) := Lib.hid fun q hq hql => by
          by_cases e : q = j
          · subst e; rw [← HX.out]; simpa using hxy
          · exact hno.out q (by omega) hql
        clear hc
        go_wp2_with fail
        refine HC.out.mono ?_
        rintro e w2 ⟨rfl, b2⟩
        have hb2 := bt hb b2
        clear b2 p0 p1 p2
        go_wp2
        go_roundw
        case rel => exact ⟨j + 1, by omega, by go_num, hno2, hb2⟩
        case measure => simp [intOf]; omega
      · have HC := Lib.hid (hc _ hxy)
        have hpos : Hid (posI l y = (j : Int)) := Lib.hid (by
          have e : posN l y = j := by
            unfold posN
            rw [List.findIdx_eq hjl]
            refine ⟨by rw [← HX.out]; simpa using hxy, fun q hq => by simpa using hno.out q hq (by omega)⟩
          unfold posI
          rw [e, if_pos hjl])
        clear hc
        go_wp2_with fail
        refine HC.out.mono ?_
        rintro e w2 ⟨rfl, b2⟩
        have hb2 := bt hb b2
        clear b2 p0 p1 p2
        go_wp2
        go_ret
        exact ⟨by rw [hpos.out]; rfl, hb2⟩
    · obtain rfl : j = n := by omega
      have hjI : ¬ (j : Int) < (j : Int) := by omega
      have hpos : Hid (posI l y = -1) := Lib.hid (by
        have e : posN l y = l.length := by
          unfold posN
          rw [List.findIdx_eq_length]
          intro x hx
          obtain ⟨q, hq, rfl⟩ := List.mem_iff_getElem.1 hx
          simpa using hno.out q (by rw [hn.out]; exact hq) hq
        unfold posI
        rw [e, if_neg (by omega)])
      go_wp2
      go_ret
      exact ⟨by rw [hpos.out]; rfl, hb⟩
theorem kplace_any (A : Option Addr) (l : List Ch) (n c : Nat) (y : Int) (hn : Hid (n = l.length)) (hm : n ≤ 1000000) (w : World) {B : Nat → Prop} (h : ChAt w B A l) :
    Calls Try.prog 46 #[.agg #[.slice A n c], .int .i64 y] w fun e w' => e = .returned (.int .i64 (posI l y)) ∧ Below w.heap.size w w' := by
  obtain ⟨W2, hW2⟩ : ∃ W2, W2 = (w.alloc (.cells #[.slice A n c] 79)).alloc (.cells #[.int .i64 y] 3) := ⟨_, rfl⟩
  have k1 : Blk W2 w.heap.size 79 #[.slice A n c] := by rw [hW2]; exact (Blk.new _ _ _).alloc _
  have k2 : Blk W2 (w.heap.size + 1) 3 #[.int .i64 y] := by
    rw [hW2]; have := Blk.new (w.alloc (.cells #[.slice A n c] 79)) 3 #[.int .i64 y]; rwa [World.size_alloc] at this
  have b2 : Below w.heap.size w W2 := by rw [hW2]; exact bt (ba _ _) (ba _ _)
  have c0 := k1.cell 0
  simp only [List.getElem?_toArray, List.getElem?_cons_zero] at c0
  have HI := Lib.hid (index_any A l n c (w.heap.size + 1) y hn hm W2 (h.below b2) ((k2.cell 0).trans rfl))
  have HB := Lib.hid b2
  have HW := Lib.hid hW2
  rw [hW2] at c0
  clear hW2 k1 k2 b2 h
  go_enter Try.func46, Try.ntmps46
  go_wp2_with fail
  rw [← HW.out]
  refine HI.out.mono ?_
  rintro e w3 ⟨rfl, b3⟩
  have hF := bt HB.out b3
  clear b3 c0
  go_wp2
  go_ret
  exact ⟨rfl, hF⟩
theorem cclone_any (A : Option Addr) (l : List Ch) (n c : Nat) (w : World) (hn : Hid (n = l.length)) (hm : Hid (n ≤ 500000)) {B : Nat → Prop} (h : ChAt w B A l) :
    Calls Try.prog 42 #[.slice A n c] w fun e w' => ∃ A2 c2, e = .returned (.slice A2 n c2) ∧ OwnC w' w.heap.size A2 c2 l ∧ Below w.heap.size w w' := by
  cases A with
  | none =>
    have hl : l = [] := by
      cases l with
      | nil => rfl
      | cons x t => obtain ⟨b, o, e, _⟩ := h (by simp); cases e
    subst hl
    obtain rfl : n = 0 := hn.out
    have hnl : ∀ w, (binOp .eql 34 (.slice none 0 c) (.slice none 0 0)).run Try.prog w = .ok (.bool true) w := fun w => by simp [binOp, Go.run_equal_slice_nil w 34 47 none 0 c Try.underlying34]
    go_enter Try.func42, Try.ntmps42
    go_wp2
    go_ret
    exact ⟨none, 0, rfl, OwnC.nil _ _, Below.refl _ _⟩
  | some a =>
    obtain ⟨w1, hw1⟩ : ∃ w1, w1 = w.alloc (.cells #[] 47) := ⟨_, rfl⟩
    have ow : OwnC w1 w.heap.size (some ⟨w.heap.size, 0, none⟩) 0 [] := by
      rw [hw1]
      exact World.ownsRow_made w #[] 0 (Nat.le_refl _) (by simp [maxLen]) rfl
    have hbw : Below w.heap.size w w1 := by rw [hw1]; exact ba _ _
    have hat := h.below hbw
    obtain ⟨A2, c2, w2, hrun, own2, hg2, _⟩ := ch_app ow (some a) c l 0 n rfl hn.out (fun b o e i hi => by
      obtain ⟨b', o', e', _, hc⟩ := hat (by omega)
      cases e; cases e'; exact hc i hi) (fun hl => by obtain ⟨b', o', e', _⟩ := hat hl; exact ⟨b', o', e'⟩) (Nat.zero_le _) (by have := hm.out; have := hn.out; simp; omega) hbw.size
    rw [Nat.zero_add] at hrun
    rw [List.nil_append] at own2
    have hF : Below w.heap.size w w2 := hbw.grown hg2 hbw.size (fun k e => by have := (ow.lt' k e).1; exact this)
    have HO := Lib.hid (And.intro own2 hF)
    rw [hw1] at hrun
    have hnl : ∀ w, (binOp .eql 34 (.slice (some a) n c) (.slice none 0 0)).run Try.prog w = .ok (.bool false) w := fun w => by simp [binOp, Go.run_equal_slice_nil w 34 47 (some a) n c Try.underlying34]
    clear hw1 ow hbw hat own2 hg2 hF h
    go_enter Try.func42, Try.ntmps42
    go_wp2_with (at_builtin; refine wpList_append_run rfl (.tmp 5) (.tmp 6) 34 rfl _ _ _ w2 rfl rfl hrun ?_)
    go_ret
    exact ⟨A2, c2, rfl, HO.out.1, HO.out.2⟩
end Go.Proofs.Ytnpoicgincndkaa
