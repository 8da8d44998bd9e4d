/- Layer 10: the document's Right. -/
import Derived.Test.YtfhfbekphmnbgaaDoorVs
namespace Go.Proofs.YtfhfbekphmnbgaaDoor
open Go.RowKit
set_option linter.unusedVariables false
set_option linter.unusedSimpArgs false

def rowM (c : Int × Int × Bool × Int × Bool × Int) (i : Bool) : Bool := shapeM c i 1 false 2 0 || (shapeM c i 12 false 12 0 || (shapeM c i 1 true 3 1 || (shapeM c i 1 true 4 1 || (shapeM c i 1 true 5 1 || (shapeM c i 10 false 2 2 || (shapeM c i 11 false 2 2 || (shapeM c i 1 true 6 2 || (shapeM c i 10 true 7 2 || (shapeM c i 11 true 8 2 || shapeM c i (baseM c i) true 9 2)))))))))
theorem shape_hit (c : Int × Int × Bool × Int × Bool × Int) (i : Bool) (a b n : Int) (x : Bool) : shapeM c i a x b n = hit (stM c i) (wtM c i) (stM c (!i)) (wtM c (!i)) c.1 (a, x, b, false, n) := by
  unfold shapeM hit
  generalize wtM c (!i) = y
  cases y <;> cases h1 : stM c i == a <;> cases h2 : wtM c i == x <;> cases h3 : stM c (!i) == b <;> cases h4 : decide (n ≤ c.1) <;> simp [h1, h2, h3, h4]
theorem row_meet (l s0 : Int) (w0 : Bool) (s1 : Int) (w1 : Bool) (t : Int) (i : Bool) (hl : lvM l = true) : rowM (l, s0, w0, s1, w1, t) i = meetM (l, s0, w0, s1, w1, t) i := by
  obtain ⟨c, hc⟩ : ∃ c, c = (l, s0, w0, s1, w1, t) := ⟨_, rfl⟩
  have hm : meetM c i = (tab.any (hit (stM c i) (wtM c i) (stM c (!i)) (wtM c (!i)) c.1) || (c.1 == 2 && (stM c i == baseM c i && (wtM c i == true && (stM c (!i) == 9 && wtM c (!i) == false))))) := by
    subst hc
    cases i <;> rfl
  have h2 : (c.1 == 2) = decide (2 ≤ c.1) := by
    subst hc
    simp [lvM] at hl
    rw [Bool.eq_iff_iff]
    simp
    omega
  rw [← hc, hm, h2]
  unfold rowM
  simp only [shape_hit, tab, List.any_cons, List.any_nil, Bool.or_false]
  have h9 : hit (stM c i) (wtM c i) (stM c (!i)) (wtM c (!i)) c.1 (baseM c i, true, 9, false, 2) = (decide (2 ≤ c.1) && (stM c i == baseM c i && (wtM c i == true && (stM c (!i) == 9 && wtM c (!i) == false)))) := rfl
  rw [h9]
  generalize (decide (2 ≤ c.1) && (stM c i == baseM c i && (wtM c i == true && (stM c (!i) == 9 && wtM c (!i) == false)))) = z
  generalize hit (stM c i) (wtM c i) (stM c (!i)) (wtM c (!i)) c.1 = f
  ac_rfl
def refRightM (c : Int × Int × Bool × Int × Bool × Int) : Bool := match c with | (l, _, _, _, _, t) => lvM l && (sdM t && (rowM c false || rowM c true))
theorem refRight_eq (l s0 : Int) (w0 : Bool) (s1 : Int) (w1 : Bool) (t : Int) : refRightM (l, s0, w0, s1, w1, t) = rightM (l, s0, w0, s1, w1, t) := by
  have h1 : refRightM (l, s0, w0, s1, w1, t) = (lvM l && (sdM t && (rowM (l, s0, w0, s1, w1, t) false || rowM (l, s0, w0, s1, w1, t) true))) := rfl
  have h2 : rightM (l, s0, w0, s1, w1, t) = (lvM l && (sdM t && (meetM (l, s0, w0, s1, w1, t) false || meetM (l, s0, w0, s1, w1, t) true))) := rfl
  rw [h1, h2]
  rcases hl : lvM l with _ | _
  · rfl
  · rw [row_meet _ _ _ _ _ _ _ hl, row_meet _ _ _ _ _ _ _ hl]

def VRr1 (B : Value) (ii : Int) (i : Nat) (v : Value) (w : World) : Prop :=
  match i with
  | 0 => v = B
  | 1 => v = .int .i64 ii
  | 2 => v = .bool true
  | 3 => v = .bool true
  | 7 => v = .bool true
  | 8 => v = .bool true
  | 15 => v = .bool true
  | _ => True

def VRr2 (B : Value) (ii : Int) (i : Nat) (v : Value) (w : World) : Prop :=
  match i with
  | 0 => v = B
  | 1 => v = .int .i64 ii
  | 2 => v = .bool false
  | 3 => v = .bool false
  | 4 => v = B
  | 5 => v = .int .i64 ii
  | 6 => v = .bool true
  | 7 => v = .bool true
  | 8 => v = .bool true
  | 15 => v = .bool true
  | _ => True

def VRr3 (B : Value) (ii bb : Int) (R : Bool) (i : Nat) (v : Value) (w : World) : Prop :=
  match i with
  | 0 => v = B
  | 1 => v = .int .i64 ii
  | 2 => v = .bool false
  | 3 => v = .bool false
  | 4 => v = B
  | 5 => v = .int .i64 ii
  | 6 => v = .bool false
  | 7 => v = .bool false
  | 8 => v = .bool false
  | 9 => v = B
  | 10 => v = .int .i64 ii
  | 11 => v = B
  | 12 => v = .int .i64 ii
  | 13 => v = .int .i64 bb
  | 14 => v = .bool R
  | 15 => v = .bool R
  | _ => True

set_option maxRecDepth 100000 in
set_option maxHeartbeats 8000000 in
theorem refright_any (l s0 : Int) (w0 : Bool) (s1 : Int) (w1 : Bool) (t : Int) (w : World) : Calls Tryd.prog 16 #[.agg #[.int .i64 l, .int .i64 s0, .int .i64 s1, .bool w0, .bool w1, .int .i64 t]] w fun e w' => e = .returned (.bool (rightM (l, s0, w0, s1, w1, t))) ∧ Below w.heap.size w w' := by
  rw [← refRight_eq]
  have h1 : refRightM (l, s0, w0, s1, w1, t) = (lvM l && (sdM t && (rowM (l, s0, w0, s1, w1, t) false || rowM (l, s0, w0, s1, w1, t) true))) := rfl
  rw [h1]
  clear h1
  have hbw := ba w (.cells #[.int .i64 l, .int .i64 s0, .int .i64 s1, .bool w0, .bool w1, .int .i64 t] 33)
  by_cases h0 : l < 0
  · have g0 : decide (l < 0) = true := decide_eq_true h0
    have e : lvM l = false := by simp [lvM]; omega
    rw [e, Bool.false_and]
    clear h0 e
    go_enter Tryd.func16, Tryd.ntmps16
    go_wp2
    go_ret
    exact ⟨rfl, hbw⟩
  have g0 : decide (l < 0) = false := decide_eq_false h0
  by_cases h1 : l > 2
  · have g1 : decide (l > 2) = true := decide_eq_true h1
    have g2 : decide (2 < l) = true := g1
    have e : lvM l = false := by simp [lvM]; omega
    rw [e, Bool.false_and]
    clear h0 h1 e
    go_enter Tryd.func16, Tryd.ntmps16
    go_wp2
    go_ret
    exact ⟨rfl, hbw⟩
  have g1 : decide (l > 2) = false := decide_eq_false h1
  have g2 : decide (2 < l) = false := g1
  have e : lvM l = true := by simp [lvM]; omega
  rw [e, Bool.true_and]
  clear h0 h1 e
  by_cases h0 : t < 0
  · have g3 : decide (t < 0) = true := decide_eq_true h0
    have e : sdM t = false := by
      have a : ¬ t = 0 := by omega
      have b : ¬ t = 1 := by omega
      simp [sdM, a, b]
    rw [e, Bool.false_and]
    clear h0 e
    go_enter Tryd.func16, Tryd.ntmps16
    go_wp2
    go_ret
    exact ⟨rfl, hbw⟩
  have g3 : decide (t < 0) = false := decide_eq_false h0
  by_cases h1 : t > 1
  · have g4 : decide (t > 1) = true := decide_eq_true h1
    have g5 : decide (1 < t) = true := g4
    have e : sdM t = false := by
      have a : ¬ t = 0 := by omega
      have b : ¬ t = 1 := by omega
      simp [sdM, a, b]
    rw [e, Bool.false_and]
    clear h0 h1 e
    go_enter Tryd.func16, Tryd.ntmps16
    go_wp2
    go_ret
    exact ⟨rfl, hbw⟩
  have g4 : decide (t > 1) = false := decide_eq_false h1
  have g5 : decide (1 < t) = false := g4
  have e : sdM t = true := by
    have a : t = 0 ∨ t = 1 := by omega
    rcases a with rfl | rfl <;> rfl
  rw [e, Bool.true_and]
  clear h0 h1 e
  obtain ⟨R, hR⟩ : ∃ R, R = (rowM (l, s0, w0, s1, w1, t) false || rowM (l, s0, w0, s1, w1, t) true) := ⟨_, rfl⟩
  rw [← hR]
  have HR := Lib.hid hR
  clear hR
  have kbw := Blk.new w 33 #[.int .i64 l, .int .i64 s0, .int .i64 s1, .bool w0, .bool w1, .int .i64 t]
  go_enter Tryd.func16, Tryd.ntmps16
  go_wp2
  have hbw1 := hbw
  clear hbw
  go_loopw [3] (fun i wr => ∃ q : Nat, q ≤ 2 ∧ i = .int .i64 q ∧ Hid ((0 < q → rowM (l, s0, w0, s1, w1, t) false = false) ∧ (1 < q → rowM (l, s0, w0, s1, w1, t) true = false)) ∧ (Blk wr w.heap.size 33 #[.int .i64 l, .int .i64 s0, .int .i64 s1, .bool w0, .bool w1, .int .i64 t] ∧ Below w.heap.size w wr)) (fun i _ => 2 - (intOf i).toNat)
  case atStart => exact ⟨0, Nat.zero_le _, rfl, Lib.hid ⟨fun h => absurd h (by decide), fun h => absurd h (by decide)⟩, kbw, hbw1⟩
  case round =>
    obtain ⟨q, hq, rfl, hrow, kb, hbw⟩ := hrel
    clear hbw1 kbw
    have hq3 : q = 0 ∨ q = 1 ∨ q = 2 := by omega
    clear hq
    rcases hq3 with rfl | rfl | rfl
    · have hyes : rowM (l, s0, w0, s1, w1, t) false = true → R = true := fun h => by rw [HR.out, h]; rfl
      have hno : rowM (l, s0, w0, s1, w1, t) false = false → rowM (l, s0, w0, s1, w1, t) false = false := fun h => h
      have hc0 := fun w => shape_any l s0 w0 s1 w1 t w false 1 false 2 0
      simp only [bi, if_true, if_false, Bool.false_eq_true] at hc0
      rcases hs0 : shapeM (l, s0, w0, s1, w1, t) false 1 false 2 0 with _ | _
      all_goals rw [hs0] at hc0
      rotate_left
      · have hR := Lib.hid (hyes (by simp [rowM, hs0]))
        clear hyes hno hs0
        have c0 := kb.cell 0
        have c1 := kb.cell 1
        have c2 := kb.cell 2
        have c3 := kb.cell 3
        have c4 := kb.cell 4
        have c5 := kb.cell 5
        simp only [List.getElem?_toArray, List.getElem?_cons_zero, List.getElem?_cons_succ] at c0 c1 c2 c3 c4 c5
        go_wp2_with fail
        refine (hc0 _).mono ?_
        rintro e v ⟨rfl, hb⟩
        clear c0 c1 c2 c3 c4 c5
        have hbw := bt hbw hb
        go_wp2
        go_ret
        exact ⟨by rw [hR.out]; rfl, hbw⟩
      have hh0 := Lib.hid hs0
      clear hs0
      have c0 := kb.cell 0
      have c1 := kb.cell 1
      have c2 := kb.cell 2
      have c3 := kb.cell 3
      have c4 := kb.cell 4
      have c5 := kb.cell 5
      simp only [List.getElem?_toArray, List.getElem?_cons_zero, List.getElem?_cons_succ] at c0 c1 c2 c3 c4 c5
      go_wp2_with fail
      refine (hc0 _).mono ?_
      rintro e v ⟨rfl, hb⟩
      clear c0 c1 c2 c3 c4 c5
      have kb := kb.below hb kb.lt
      have hbw := bt hbw hb
      clear hb
      clear hc0
      have hc1 := fun w => shape_any l s0 w0 s1 w1 t w false 12 false 12 0
      simp only [bi, if_true, if_false, Bool.false_eq_true] at hc1
      rcases hs1 : shapeM (l, s0, w0, s1, w1, t) false 12 false 12 0 with _ | _
      all_goals rw [hs1] at hc1
      rotate_left
      · have hR := Lib.hid (hyes (by simp [rowM, hs1]))
        clear hyes hno hs1
        have c0 := kb.cell 0
        have c1 := kb.cell 1
        have c2 := kb.cell 2
        have c3 := kb.cell 3
        have c4 := kb.cell 4
        have c5 := kb.cell 5
        simp only [List.getElem?_toArray, List.getElem?_cons_zero, List.getElem?_cons_succ] at c0 c1 c2 c3 c4 c5
        go_wp2_with fail
        refine (hc1 _).mono ?_
        rintro e v ⟨rfl, hb⟩
        clear c0 c1 c2 c3 c4 c5
        have hbw := bt hbw hb
        go_wp2
        go_ret
        exact ⟨by rw [hR.out]; rfl, hbw⟩
      have hh1 := Lib.hid hs1
      clear hs1
      have c0 := kb.cell 0
      have c1 := kb.cell 1
      have c2 := kb.cell 2
      have c3 := kb.cell 3
      have c4 := kb.cell 4
      have c5 := kb.cell 5
      simp only [List.getElem?_toArray, List.getElem?_cons_zero, List.getElem?_cons_succ] at c0 c1 c2 c3 c4 c5
      go_wp2_with fail
      refine (hc1 _).mono ?_
      rintro e v ⟨rfl, hb⟩
      clear c0 c1 c2 c3 c4 c5
      have kb := kb.below hb kb.lt
      have hbw := bt hbw hb
      clear hb
      clear hc1
      have c0 := kb.cell 0
      have c1 := kb.cell 1
      have c2 := kb.cell 2
      have c3 := kb.cell 3
      have c4 := kb.cell 4
      have c5 := kb.cell 5
      simp only [List.getElem?_toArray, List.getElem?_cons_zero, List.getElem?_cons_succ] at c0 c1 c2 c3 c4 c5
      go_wp2
      clear c0 c1 c2 c3 c4 c5
      have kb0 := kb
      have hbw0 := hbw
      clear kb hbw
      go_loopw [4] (fun i wr => ∃ k : Nat, (3 ≤ k ∧ k ≤ 6) ∧ i = .int .i64 k ∧ Hid (∀ j : Nat, 3 ≤ j → j < k → shapeM (l, s0, w0, s1, w1, t) false 1 true j 1 = false) ∧ (Blk wr w.heap.size 33 #[.int .i64 l, .int .i64 s0, .int .i64 s1, .bool w0, .bool w1, .int .i64 t] ∧ Below w.heap.size w wr)) (fun i _ => 6 - (intOf i).toNat)
      case atStart => exact ⟨3, ⟨by decide, by decide⟩, rfl, Lib.hid (fun j h1 h2 => absurd h2 (by omega)), kb0, hbw0⟩
      case round =>
        obtain ⟨k, ⟨hk3, hk6⟩, rfl, hall, kb, hbw⟩ := hrel
        clear kb0 hbw0
        by_cases hkl : k < 6
        · have hkI : (k : Int) ≤ 5 := by omega
          have hck := fun w => shape_any l s0 w0 s1 w1 t w false 1 true (k : Int) 1
          simp only [bi, if_true, if_false, Bool.false_eq_true] at hck
          rcases hsk : shapeM (l, s0, w0, s1, w1, t) false 1 true (k : Int) 1 with _ | _
          all_goals rw [hsk] at hck
          · have hn2 : Hid (∀ j : Nat, 3 ≤ j → j < k + 1 → shapeM (l, s0, w0, s1, w1, t) false 1 true j 1 = false) := Lib.hid fun j h1 h2 => by
              rcases Nat.lt_or_ge j k with h3 | h3
              · exact hall.out j h1 h3
              · obtain rfl : j = k := by omega
                exact hsk
            clear hsk hall
            have c0 := kb.cell 0
            have c1 := kb.cell 1
            have c2 := kb.cell 2
            have c3 := kb.cell 3
            have c4 := kb.cell 4
            have c5 := kb.cell 5
            simp only [List.getElem?_toArray, List.getElem?_cons_zero, List.getElem?_cons_succ] at c0 c1 c2 c3 c4 c5
            go_wp2_with fail
            refine (hck _).mono ?_
            rintro e v ⟨rfl, hb⟩
            clear c0 c1 c2 c3 c4 c5
            have kb := kb.below hb kb.lt
            have hbw := bt hbw hb
            clear hb
            go_wp2_with fail
            go_roundw
            case rel => exact ⟨k + 1, ⟨by omega, by omega⟩, by go_num, hn2, kb, hbw⟩
            case measure => simp [intOf]; omega
          · have hk : (k : Int) = 3 ∨ (k : Int) = 4 ∨ (k : Int) = 5 := by omega
            have hR := Lib.hid (hyes (by rcases hk with h | h | h <;> (rw [h] at hsk; simp [rowM, hsk])))
            clear hyes hno hsk hall hk
            have c0 := kb.cell 0
            have c1 := kb.cell 1
            have c2 := kb.cell 2
            have c3 := kb.cell 3
            have c4 := kb.cell 4
            have c5 := kb.cell 5
            simp only [List.getElem?_toArray, List.getElem?_cons_zero, List.getElem?_cons_succ] at c0 c1 c2 c3 c4 c5
            go_wp2_with fail
            refine (hck _).mono ?_
            rintro e v ⟨rfl, hb⟩
            clear c0 c1 c2 c3 c4 c5
            have hbw := bt hbw hb
            go_wp2
            go_ret
            exact ⟨by rw [hR.out]; rfl, hbw⟩
        · obtain rfl : k = 6 := by omega
          have hs3 : Hid (shapeM (l, s0, w0, s1, w1, t) false 1 true 3 1 = false) := Lib.hid (hall.out 3 (by decide) (by decide))
          have hs4 : Hid (shapeM (l, s0, w0, s1, w1, t) false 1 true 4 1 = false) := Lib.hid (hall.out 4 (by decide) (by decide))
          have hs5 : Hid (shapeM (l, s0, w0, s1, w1, t) false 1 true 5 1 = false) := Lib.hid (hall.out 5 (by decide) (by decide))
          clear hall
          have hc6 := fun w => shape_any l s0 w0 s1 w1 t w false 10 false 2 2
          simp only [bi, if_true, if_false, Bool.false_eq_true] at hc6
          rcases hs6 : shapeM (l, s0, w0, s1, w1, t) false 10 false 2 2 with _ | _
          all_goals rw [hs6] at hc6
          rotate_left
          · have hR := Lib.hid (hyes (by simp [rowM, hs6]))
            clear hyes hno hs6
            have c0 := kb.cell 0
            have c1 := kb.cell 1
            have c2 := kb.cell 2
            have c3 := kb.cell 3
            have c4 := kb.cell 4
            have c5 := kb.cell 5
            simp only [List.getElem?_toArray, List.getElem?_cons_zero, List.getElem?_cons_succ] at c0 c1 c2 c3 c4 c5
            go_wp2_with fail
            refine (hc6 _).mono ?_
            rintro e v ⟨rfl, hb⟩
            clear c0 c1 c2 c3 c4 c5
            have hbw := bt hbw hb
            go_wp2
            go_ret
            exact ⟨by rw [hR.out]; rfl, hbw⟩
          have hh6 := Lib.hid hs6
          clear hs6
          have c0 := kb.cell 0
          have c1 := kb.cell 1
          have c2 := kb.cell 2
          have c3 := kb.cell 3
          have c4 := kb.cell 4
          have c5 := kb.cell 5
          simp only [List.getElem?_toArray, List.getElem?_cons_zero, List.getElem?_cons_succ] at c0 c1 c2 c3 c4 c5
          go_wp2_with fail
          refine (hc6 _).mono ?_
          rintro e v ⟨rfl, hb⟩
          clear c0 c1 c2 c3 c4 c5
          have kb := kb.below hb kb.lt
          have hbw := bt hbw hb
          clear hb
          clear hc6
          have hc7 := fun w => shape_any l s0 w0 s1 w1 t w false 11 false 2 2
          simp only [bi, if_true, if_false, Bool.false_eq_true] at hc7
          rcases hs7 : shapeM (l, s0, w0, s1, w1, t) false 11 false 2 2 with _ | _
          all_goals rw [hs7] at hc7
          rotate_left
          · have hR := Lib.hid (hyes (by simp [rowM, hs7]))
            clear hyes hno hs7
            have c0 := kb.cell 0
            have c1 := kb.cell 1
            have c2 := kb.cell 2
            have c3 := kb.cell 3
            have c4 := kb.cell 4
            have c5 := kb.cell 5
            simp only [List.getElem?_toArray, List.getElem?_cons_zero, List.getElem?_cons_succ] at c0 c1 c2 c3 c4 c5
            go_wp2_with fail
            refine (hc7 _).mono ?_
            rintro e v ⟨rfl, hb⟩
            clear c0 c1 c2 c3 c4 c5
            have hbw := bt hbw hb
            go_wp2
            go_ret
            exact ⟨by rw [hR.out]; rfl, hbw⟩
          have hh7 := Lib.hid hs7
          clear hs7
          have c0 := kb.cell 0
          have c1 := kb.cell 1
          have c2 := kb.cell 2
          have c3 := kb.cell 3
          have c4 := kb.cell 4
          have c5 := kb.cell 5
          simp only [List.getElem?_toArray, List.getElem?_cons_zero, List.getElem?_cons_succ] at c0 c1 c2 c3 c4 c5
          go_wp2_with fail
          refine (hc7 _).mono ?_
          rintro e v ⟨rfl, hb⟩
          clear c0 c1 c2 c3 c4 c5
          have kb := kb.below hb kb.lt
          have hbw := bt hbw hb
          clear hb
          clear hc7
          have hc8 := fun w => shape_any l s0 w0 s1 w1 t w false 1 true 6 2
          simp only [bi, if_true, if_false, Bool.false_eq_true] at hc8
          rcases hs8 : shapeM (l, s0, w0, s1, w1, t) false 1 true 6 2 with _ | _
          all_goals rw [hs8] at hc8
          rotate_left
          · have hR := Lib.hid (hyes (by simp [rowM, hs8]))
            clear hyes hno hs8
            have c0 := kb.cell 0
            have c1 := kb.cell 1
            have c2 := kb.cell 2
            have c3 := kb.cell 3
            have c4 := kb.cell 4
            have c5 := kb.cell 5
            simp only [List.getElem?_toArray, List.getElem?_cons_zero, List.getElem?_cons_succ] at c0 c1 c2 c3 c4 c5
            go_wp2_with fail
            refine (hc8 _).mono ?_
            rintro e v ⟨rfl, hb⟩
            clear c0 c1 c2 c3 c4 c5
            have hbw := bt hbw hb
            go_wp2
            go_ret
            exact ⟨by rw [hR.out]; rfl, hbw⟩
          have hh8 := Lib.hid hs8
          clear hs8
          have c0 := kb.cell 0
          have c1 := kb.cell 1
          have c2 := kb.cell 2
          have c3 := kb.cell 3
          have c4 := kb.cell 4
          have c5 := kb.cell 5
          simp only [List.getElem?_toArray, List.getElem?_cons_zero, List.getElem?_cons_succ] at c0 c1 c2 c3 c4 c5
          go_wp2_with fail
          refine (hc8 _).mono ?_
          rintro e v ⟨rfl, hb⟩
          clear c0 c1 c2 c3 c4 c5
          have kb := kb.below hb kb.lt
          have hbw := bt hbw hb
          clear hb
          clear hc8
          have c0 := kb.cell 0
          have c1 := kb.cell 1
          have c2 := kb.cell 2
          have c3 := kb.cell 3
          have c4 := kb.cell 4
          have c5 := kb.cell 5
          simp only [List.getElem?_toArray, List.getElem?_cons_zero, List.getElem?_cons_succ] at c0 c1 c2 c3 c4 c5
          have hc9 := fun w => shape_any l s0 w0 s1 w1 t w false 10 true 7 2
          have hc10 := fun w => shape_any l s0 w0 s1 w1 t w false 11 true 8 2
          have hbb := fun w => refbase_any l s0 w0 s1 w1 t w false
          have hc11 := fun w => shape_any l s0 w0 s1 w1 t w false (baseM (l, s0, w0, s1, w1, t) false) true 9 2
          simp only [bi, if_true, if_false, Bool.false_eq_true] at hc9 hc10 hc11 hbb
          go_wp2_with fail
          clear c0 c1 c2 c3 c4 c5
          rcases hs9 : shapeM (l, s0, w0, s1, w1, t) false 10 true 7 2 with _ | _
          all_goals rw [hs9] at hc9
          rotate_left
          · have hR := Lib.hid (hyes (by simp [rowM, hs9]))
            clear hyes hno hs9 hc10 hc11 hbb
            refine wp_region_invT (F := ?FR1) (V := VRr1 (.agg #[.int .i64 l, .int .i64 s0, .int .i64 s1, .bool w0, .bool w1, .int .i64 t]) 0) (dead := fun _ => none) (T := fun _ _ => True) (C := fun u' => Blk u' w.heap.size 33 #[.int .i64 l, .int .i64 s0, .int .i64 s1, .bool w0, .bool w1, .int .i64 t] ∧ Below w.heap.size w u') (E := fun _ _ _ => True) (by kernel_rfl) (by kernel_rfl) (by kernel_rfl) (fun x => ?hFR1) ?hmonoR1 ?hTmR1 ?hTR1 ?hCR1 ?stepR1 ?finR1
            case hFR1 => simp only [mkA, Act.put, List.setIfInBounds_toArray, List.set_cons_succ, List.set_cons_zero, Nat.reduceAdd, Nat.zero_add]; first | with_reducible rfl | rfl
            case hmonoR1 => exact fun k i v u u' he hik hwt hdd hv => by unfold VRr1 at hv ⊢; split at hv <;> exact hv
            case hTmR1 => exact fun _ _ _ _ _ _ _ _ => trivial
            case hTR1 => exact fun j => trivial
            case hCR1 => exact ⟨kb, bt hbw (below_drew _)⟩
            case stepR1 =>
              refine AllOps.cons (fun x u hC hT hp K hK => ?_) ?_
              · clear hp hT
                have ca0 := hC.1.cell 0
                have ca1 := hC.1.cell 1
                have ca2 := hC.1.cell 2
                have ca3 := hC.1.cell 3
                have ca4 := hC.1.cell 4
                have ca5 := hC.1.cell 5
                simp only [List.getElem?_toArray, List.getElem?_cons_zero, List.getElem?_cons_succ] at ca0 ca1 ca2 ca3 ca4 ca5
                go_simp
                refine hK _ _ _ hC trivial (by exact rfl) ?_
                first | (simp only [Act.put, List.setIfInBounds_toArray, List.set_cons_succ, List.set_cons_zero]; done) | simp [Act.put]
              refine AllOps.cons (fun x u hC hT hp K hK => ?_) ?_
              · clear hp hT
                go_simp
                refine hK _ _ _ hC trivial (by exact rfl) ?_
                first | (simp only [Act.put, List.setIfInBounds_toArray, List.set_cons_succ, List.set_cons_zero]; done) | simp [Act.put]
              refine AllOps.cons (fun x u hC hT hp K hK => ?_) ?_
              · simp [KnownTill, Region.binds, VRr1] at hp
                clear hT
                go_simp
                refine (hc9 u).mono ?_
                rintro e wA ⟨rfl, hbu⟩
                refine hK _ _ _ ⟨hC.1.below hbu hC.1.lt, bt hC.2 hbu⟩ trivial (by exact rfl) ?_
                first | (simp only [Act.put, List.setIfInBounds_toArray, List.set_cons_succ, List.set_cons_zero, hp]; done) | simp [Act.put, hp]
              refine AllOps.cons (fun x u hC hT hp K hK => ?_) ?_
              · simp [KnownTill, Region.binds, VRr1] at hp
                clear hT
                go_simp
                refine hK _ _ _ hC trivial (by exact rfl) ?_
                first | (simp only [Act.put, List.setIfInBounds_toArray, List.set_cons_succ, List.set_cons_zero, hp]; done) | simp [Act.put, hp]
              refine AllOps.cons (fun x u hC hT hp K hK => ?_) ?_
              · simp [KnownTill, Region.binds, VRr1] at hp
                clear hT
                go_simp
                refine hK undef _ _ hC trivial (by exact trivial) ?_
                first | (simp only [Act.put, List.setIfInBounds_toArray, List.set_cons_succ, List.set_cons_zero, hp]; done) | simp [Act.put, hp]
              refine AllOps.cons (fun x u hC hT hp K hK => ?_) ?_
              · simp [KnownTill, Region.binds, VRr1] at hp
                clear hT
                go_simp
                refine hK undef _ _ hC trivial (by exact trivial) ?_
                first | (simp only [Act.put, List.setIfInBounds_toArray, List.set_cons_succ, List.set_cons_zero, hp]; done) | simp [Act.put, hp]
              refine AllOps.cons (fun x u hC hT hp K hK => ?_) ?_
              · simp [KnownTill, Region.binds, VRr1] at hp
                clear hT
                go_simp
                refine hK undef _ _ hC trivial (by exact trivial) ?_
                first | (simp only [Act.put, List.setIfInBounds_toArray, List.set_cons_succ, List.set_cons_zero, hp]; done) | simp [Act.put, hp]
              refine AllOps.cons (fun x u hC hT hp K hK => ?_) ?_
              · simp [KnownTill, Region.binds, VRr1] at hp
                clear hT
                go_simp
                refine hK _ _ _ hC trivial (by exact rfl) ?_
                first | (simp only [Act.put, List.setIfInBounds_toArray, List.set_cons_succ, List.set_cons_zero, hp]; done) | simp [Act.put, hp]
              refine AllOps.cons (fun x u hC hT hp K hK => ?_) ?_
              · simp [KnownTill, Region.binds, VRr1] at hp
                clear hT
                go_simp
                refine hK _ _ _ hC trivial (by exact rfl) ?_
                first | (simp only [Act.put, List.setIfInBounds_toArray, List.set_cons_succ, List.set_cons_zero, hp]; done) | simp [Act.put, hp]
              refine AllOps.cons (fun x u hC hT hp K hK => ?_) ?_
              · simp [KnownTill, Region.binds, VRr1] at hp
                clear hT
                go_simp
                refine hK undef _ _ hC trivial (by exact trivial) ?_
                first | (simp only [Act.put, List.setIfInBounds_toArray, List.set_cons_succ, List.set_cons_zero, hp]; done) | simp [Act.put, hp]
              refine AllOps.cons (fun x u hC hT hp K hK => ?_) ?_
              · simp [KnownTill, Region.binds, VRr1] at hp
                clear hT
                go_simp
                refine hK undef _ _ hC trivial (by exact trivial) ?_
                first | (simp only [Act.put, List.setIfInBounds_toArray, List.set_cons_succ, List.set_cons_zero, hp]; done) | simp [Act.put, hp]
              refine AllOps.cons (fun x u hC hT hp K hK => ?_) ?_
              · simp [KnownTill, Region.binds, VRr1] at hp
                clear hT
                go_simp
                refine hK undef _ _ hC trivial (by exact trivial) ?_
                first | (simp only [Act.put, List.setIfInBounds_toArray, List.set_cons_succ, List.set_cons_zero, hp]; done) | simp [Act.put, hp]
              refine AllOps.cons (fun x u hC hT hp K hK => ?_) ?_
              · simp [KnownTill, Region.binds, VRr1] at hp
                clear hT
                go_simp
                refine hK undef _ _ hC trivial (by exact trivial) ?_
                first | (simp only [Act.put, List.setIfInBounds_toArray, List.set_cons_succ, List.set_cons_zero, hp]; done) | simp [Act.put, hp]
              refine AllOps.cons (fun x u hC hT hp K hK => ?_) ?_
              · simp [KnownTill, Region.binds, VRr1] at hp
                clear hT
                go_simp
                refine hK undef _ _ hC trivial (by exact trivial) ?_
                first | (simp only [Act.put, List.setIfInBounds_toArray, List.set_cons_succ, List.set_cons_zero, hp]; done) | simp [Act.put, hp]
              refine AllOps.cons (fun x u hC hT hp K hK => ?_) ?_
              · simp [KnownTill, Region.binds, VRr1] at hp
                clear hT
                go_simp
                refine hK undef _ _ hC trivial (by exact trivial) ?_
                first | (simp only [Act.put, List.setIfInBounds_toArray, List.set_cons_succ, List.set_cons_zero, hp]; done) | simp [Act.put, hp]
              refine AllOps.cons (fun x u hC hT hp K hK => ?_) ?_
              · simp [KnownTill, Region.binds, VRr1] at hp
                clear hT
                go_simp
                refine hK _ _ _ hC trivial (by exact rfl) ?_
                first | (simp only [Act.put, List.setIfInBounds_toArray, List.set_cons_succ, List.set_cons_zero, hp]; done) | simp [Act.put, hp]
              exact AllOps.nil
            case finR1 =>
              intro x u hC hV
              have hz : x 15 = .bool true := hV 15 (by decide) rfl
              rw [hz]
              have hbz := hC.2
              clear hV hC hz
              go_wp2
              go_ret
              exact ⟨by rw [hR.out]; rfl, hbz⟩
          have hh9 := Lib.hid hs9
          clear hs9
          rcases hs10 : shapeM (l, s0, w0, s1, w1, t) false 11 true 8 2 with _ | _
          all_goals rw [hs10] at hc10
          rotate_left
          · have hR := Lib.hid (hyes (by simp [rowM, hs10]))
            clear hyes hno hs10 hc11 hbb
            refine wp_region_invT (F := ?FR2) (V := VRr2 (.agg #[.int .i64 l, .int .i64 s0, .int .i64 s1, .bool w0, .bool w1, .int .i64 t]) 0) (dead := fun _ => none) (T := fun _ _ => True) (C := fun u' => Blk u' w.heap.size 33 #[.int .i64 l, .int .i64 s0, .int .i64 s1, .bool w0, .bool w1, .int .i64 t] ∧ Below w.heap.size w u') (E := fun _ _ _ => True) (by kernel_rfl) (by kernel_rfl) (by kernel_rfl) (fun x => ?hFR2) ?hmonoR2 ?hTmR2 ?hTR2 ?hCR2 ?stepR2 ?finR2
            case hFR2 => simp only [mkA, Act.put, List.setIfInBounds_toArray, List.set_cons_succ, List.set_cons_zero, Nat.reduceAdd, Nat.zero_add]; first | with_reducible rfl | rfl
            case hmonoR2 => exact fun k i v u u' he hik hwt hdd hv => by unfold VRr2 at hv ⊢; split at hv <;> exact hv
            case hTmR2 => exact fun _ _ _ _ _ _ _ _ => trivial
            case hTR2 => exact fun j => trivial
            case hCR2 => exact ⟨kb, bt hbw (below_drew _)⟩
            case stepR2 =>
              refine AllOps.cons (fun x u hC hT hp K hK => ?_) ?_
              · clear hp hT
                have ca0 := hC.1.cell 0
                have ca1 := hC.1.cell 1
                have ca2 := hC.1.cell 2
                have ca3 := hC.1.cell 3
                have ca4 := hC.1.cell 4
                have ca5 := hC.1.cell 5
                simp only [List.getElem?_toArray, List.getElem?_cons_zero, List.getElem?_cons_succ] at ca0 ca1 ca2 ca3 ca4 ca5
                go_simp
                refine hK _ _ _ hC trivial (by exact rfl) ?_
                first | (simp only [Act.put, List.setIfInBounds_toArray, List.set_cons_succ, List.set_cons_zero]; done) | simp [Act.put]
              refine AllOps.cons (fun x u hC hT hp K hK => ?_) ?_
              · clear hp hT
                go_simp
                refine hK _ _ _ hC trivial (by exact rfl) ?_
                first | (simp only [Act.put, List.setIfInBounds_toArray, List.set_cons_succ, List.set_cons_zero]; done) | simp [Act.put]
              refine AllOps.cons (fun x u hC hT hp K hK => ?_) ?_
              · simp [KnownTill, Region.binds, VRr2] at hp
                clear hT
                go_simp
                refine (hc9 u).mono ?_
                rintro e wA ⟨rfl, hbu⟩
                refine hK _ _ _ ⟨hC.1.below hbu hC.1.lt, bt hC.2 hbu⟩ trivial (by exact rfl) ?_
                first | (simp only [Act.put, List.setIfInBounds_toArray, List.set_cons_succ, List.set_cons_zero, hp]; done) | simp [Act.put, hp]
              refine AllOps.cons (fun x u hC hT hp K hK => ?_) ?_
              · simp [KnownTill, Region.binds, VRr2] at hp
                clear hT
                go_simp
                refine hK _ _ _ hC trivial (by exact rfl) ?_
                first | (simp only [Act.put, List.setIfInBounds_toArray, List.set_cons_succ, List.set_cons_zero, hp]; done) | simp [Act.put, hp]
              refine AllOps.cons (fun x u hC hT hp K hK => ?_) ?_
              · simp [KnownTill, Region.binds, VRr2] at hp
                clear hT
                have ca0 := hC.1.cell 0
                have ca1 := hC.1.cell 1
                have ca2 := hC.1.cell 2
                have ca3 := hC.1.cell 3
                have ca4 := hC.1.cell 4
                have ca5 := hC.1.cell 5
                simp only [List.getElem?_toArray, List.getElem?_cons_zero, List.getElem?_cons_succ] at ca0 ca1 ca2 ca3 ca4 ca5
                go_simp
                refine hK _ _ _ hC trivial (by exact rfl) ?_
                first | (simp only [Act.put, List.setIfInBounds_toArray, List.set_cons_succ, List.set_cons_zero, hp]; done) | simp [Act.put, hp]
              refine AllOps.cons (fun x u hC hT hp K hK => ?_) ?_
              · simp [KnownTill, Region.binds, VRr2] at hp
                clear hT
                go_simp
                refine hK _ _ _ hC trivial (by exact rfl) ?_
                first | (simp only [Act.put, List.setIfInBounds_toArray, List.set_cons_succ, List.set_cons_zero, hp]; done) | simp [Act.put, hp]
              refine AllOps.cons (fun x u hC hT hp K hK => ?_) ?_
              · simp [KnownTill, Region.binds, VRr2] at hp
                clear hT
                go_simp
                refine (hc10 u).mono ?_
                rintro e wA ⟨rfl, hbu⟩
                refine hK _ _ _ ⟨hC.1.below hbu hC.1.lt, bt hC.2 hbu⟩ trivial (by exact rfl) ?_
                first | (simp only [Act.put, List.setIfInBounds_toArray, List.set_cons_succ, List.set_cons_zero, hp]; done) | simp [Act.put, hp]
              refine AllOps.cons (fun x u hC hT hp K hK => ?_) ?_
              · simp [KnownTill, Region.binds, VRr2] at hp
                clear hT
                go_simp
                refine hK _ _ _ hC trivial (by exact rfl) ?_
                first | (simp only [Act.put, List.setIfInBounds_toArray, List.set_cons_succ, List.set_cons_zero, hp]; done) | simp [Act.put, hp]
              refine AllOps.cons (fun x u hC hT hp K hK => ?_) ?_
              · simp [KnownTill, Region.binds, VRr2] at hp
                clear hT
                go_simp
                refine hK _ _ _ hC trivial (by exact rfl) ?_
                first | (simp only [Act.put, List.setIfInBounds_toArray, List.set_cons_succ, List.set_cons_zero, hp]; done) | simp [Act.put, hp]
              refine AllOps.cons (fun x u hC hT hp K hK => ?_) ?_
              · simp [KnownTill, Region.binds, VRr2] at hp
                clear hT
                go_simp
                refine hK undef _ _ hC trivial (by exact trivial) ?_
                first | (simp only [Act.put, List.setIfInBounds_toArray, List.set_cons_succ, List.set_cons_zero, hp]; done) | simp [Act.put, hp]
              refine AllOps.cons (fun x u hC hT hp K hK => ?_) ?_
              · simp [KnownTill, Region.binds, VRr2] at hp
                clear hT
                go_simp
                refine hK undef _ _ hC trivial (by exact trivial) ?_
                first | (simp only [Act.put, List.setIfInBounds_toArray, List.set_cons_succ, List.set_cons_zero, hp]; done) | simp [Act.put, hp]
              refine AllOps.cons (fun x u hC hT hp K hK => ?_) ?_
              · simp [KnownTill, Region.binds, VRr2] at hp
                clear hT
                go_simp
                refine hK undef _ _ hC trivial (by exact trivial) ?_
                first | (simp only [Act.put, List.setIfInBounds_toArray, List.set_cons_succ, List.set_cons_zero, hp]; done) | simp [Act.put, hp]
              refine AllOps.cons (fun x u hC hT hp K hK => ?_) ?_
              · simp [KnownTill, Region.binds, VRr2] at hp
                clear hT
                go_simp
                refine hK undef _ _ hC trivial (by exact trivial) ?_
                first | (simp only [Act.put, List.setIfInBounds_toArray, List.set_cons_succ, List.set_cons_zero, hp]; done) | simp [Act.put, hp]
              refine AllOps.cons (fun x u hC hT hp K hK => ?_) ?_
              · simp [KnownTill, Region.binds, VRr2] at hp
                clear hT
                go_simp
                refine hK undef _ _ hC trivial (by exact trivial) ?_
                first | (simp only [Act.put, List.setIfInBounds_toArray, List.set_cons_succ, List.set_cons_zero, hp]; done) | simp [Act.put, hp]
              refine AllOps.cons (fun x u hC hT hp K hK => ?_) ?_
              · simp [KnownTill, Region.binds, VRr2] at hp
                clear hT
                go_simp
                refine hK undef _ _ hC trivial (by exact trivial) ?_
                first | (simp only [Act.put, List.setIfInBounds_toArray, List.set_cons_succ, List.set_cons_zero, hp]; done) | simp [Act.put, hp]
              refine AllOps.cons (fun x u hC hT hp K hK => ?_) ?_
              · simp [KnownTill, Region.binds, VRr2] at hp
                clear hT
                go_simp
                refine hK _ _ _ hC trivial (by exact rfl) ?_
                first | (simp only [Act.put, List.setIfInBounds_toArray, List.set_cons_succ, List.set_cons_zero, hp]; done) | simp [Act.put, hp]
              exact AllOps.nil
            case finR2 =>
              intro x u hC hV
              have hz : x 15 = .bool true := hV 15 (by decide) rfl
              rw [hz]
              have hbz := hC.2
              clear hV hC hz
              go_wp2
              go_ret
              exact ⟨by rw [hR.out]; rfl, hbz⟩
          have hh10 := Lib.hid hs10
          clear hs10
          have hno2 : shapeM (l, s0, w0, s1, w1, t) false (baseM (l, s0, w0, s1, w1, t) false) true 9 2 = false → _ := fun h11 => hno (by simp [rowM, hh0.out, hh1.out, hs3.out, hs4.out, hs5.out, hh6.out, hh7.out, hh8.out, hh9.out, hh10.out, h11])
          have hyes2 : shapeM (l, s0, w0, s1, w1, t) false (baseM (l, s0, w0, s1, w1, t) false) true 9 2 = true → _ := fun h11 => hyes (by simp [rowM, h11])
          clear hno hyes hh0 hh1 hs3 hs4 hs5 hh6 hh7 hh8 hh9 hh10
          generalize shapeM (l, s0, w0, s1, w1, t) false (baseM (l, s0, w0, s1, w1, t) false) true 9 2 = R9 at *
          generalize baseM (l, s0, w0, s1, w1, t) false = bb at *
          cases R9
          · have hn3 := Lib.hid (hno2 rfl)
            clear hno2 hyes2
            refine wp_region_invT (F := ?FR3) (V := VRr3 (.agg #[.int .i64 l, .int .i64 s0, .int .i64 s1, .bool w0, .bool w1, .int .i64 t]) 0 bb false) (dead := fun _ => none) (T := fun _ _ => True) (C := fun u' => Blk u' w.heap.size 33 #[.int .i64 l, .int .i64 s0, .int .i64 s1, .bool w0, .bool w1, .int .i64 t] ∧ Below w.heap.size w u') (E := fun _ _ _ => True) (by kernel_rfl) (by kernel_rfl) (by kernel_rfl) (fun x => ?hFR3) ?hmonoR3 ?hTmR3 ?hTR3 ?hCR3 ?stepR3 ?finR3
            case hFR3 => simp only [mkA, Act.put, List.setIfInBounds_toArray, List.set_cons_succ, List.set_cons_zero, Nat.reduceAdd, Nat.zero_add]; first | with_reducible rfl | rfl
            case hmonoR3 => exact fun k i v u u' he hik hwt hdd hv => by unfold VRr3 at hv ⊢; split at hv <;> exact hv
            case hTmR3 => exact fun _ _ _ _ _ _ _ _ => trivial
            case hTR3 => exact fun j => trivial
            case hCR3 => exact ⟨kb, bt hbw (below_drew _)⟩
            case stepR3 =>
              refine AllOps.cons (fun x u hC hT hp K hK => ?_) ?_
              · clear hp hT
                have ca0 := hC.1.cell 0
                have ca1 := hC.1.cell 1
                have ca2 := hC.1.cell 2
                have ca3 := hC.1.cell 3
                have ca4 := hC.1.cell 4
                have ca5 := hC.1.cell 5
                simp only [List.getElem?_toArray, List.getElem?_cons_zero, List.getElem?_cons_succ] at ca0 ca1 ca2 ca3 ca4 ca5
                go_simp
                refine hK _ _ _ hC trivial (by exact rfl) ?_
                first | (simp only [Act.put, List.setIfInBounds_toArray, List.set_cons_succ, List.set_cons_zero]; done) | simp [Act.put]
              refine AllOps.cons (fun x u hC hT hp K hK => ?_) ?_
              · clear hp hT
                go_simp
                refine hK _ _ _ hC trivial (by exact rfl) ?_
                first | (simp only [Act.put, List.setIfInBounds_toArray, List.set_cons_succ, List.set_cons_zero]; done) | simp [Act.put]
              refine AllOps.cons (fun x u hC hT hp K hK => ?_) ?_
              · simp [KnownTill, Region.binds, VRr3] at hp
                clear hT
                go_simp
                refine (hc9 u).mono ?_
                rintro e wA ⟨rfl, hbu⟩
                refine hK _ _ _ ⟨hC.1.below hbu hC.1.lt, bt hC.2 hbu⟩ trivial (by exact rfl) ?_
                first | (simp only [Act.put, List.setIfInBounds_toArray, List.set_cons_succ, List.set_cons_zero, hp]; done) | simp [Act.put, hp]
              refine AllOps.cons (fun x u hC hT hp K hK => ?_) ?_
              · simp [KnownTill, Region.binds, VRr3] at hp
                clear hT
                go_simp
                refine hK _ _ _ hC trivial (by exact rfl) ?_
                first | (simp only [Act.put, List.setIfInBounds_toArray, List.set_cons_succ, List.set_cons_zero, hp]; done) | simp [Act.put, hp]
              refine AllOps.cons (fun x u hC hT hp K hK => ?_) ?_
              · simp [KnownTill, Region.binds, VRr3] at hp
                clear hT
                have ca0 := hC.1.cell 0
                have ca1 := hC.1.cell 1
                have ca2 := hC.1.cell 2
                have ca3 := hC.1.cell 3
                have ca4 := hC.1.cell 4
                have ca5 := hC.1.cell 5
                simp only [List.getElem?_toArray, List.getElem?_cons_zero, List.getElem?_cons_succ] at ca0 ca1 ca2 ca3 ca4 ca5
                go_simp
                refine hK _ _ _ hC trivial (by exact rfl) ?_
                first | (simp only [Act.put, List.setIfInBounds_toArray, List.set_cons_succ, List.set_cons_zero, hp]; done) | simp [Act.put, hp]
              refine AllOps.cons (fun x u hC hT hp K hK => ?_) ?_
              · simp [KnownTill, Region.binds, VRr3] at hp
                clear hT
                go_simp
                refine hK _ _ _ hC trivial (by exact rfl) ?_
                first | (simp only [Act.put, List.setIfInBounds_toArray, List.set_cons_succ, List.set_cons_zero, hp]; done) | simp [Act.put, hp]
              refine AllOps.cons (fun x u hC hT hp K hK => ?_) ?_
              · simp [KnownTill, Region.binds, VRr3] at hp
                clear hT
                go_simp
                refine (hc10 u).mono ?_
                rintro e wA ⟨rfl, hbu⟩
                refine hK _ _ _ ⟨hC.1.below hbu hC.1.lt, bt hC.2 hbu⟩ trivial (by exact rfl) ?_
                first | (simp only [Act.put, List.setIfInBounds_toArray, List.set_cons_succ, List.set_cons_zero, hp]; done) | simp [Act.put, hp]
              refine AllOps.cons (fun x u hC hT hp K hK => ?_) ?_
              · simp [KnownTill, Region.binds, VRr3] at hp
                clear hT
                go_simp
                refine hK _ _ _ hC trivial (by exact rfl) ?_
                first | (simp only [Act.put, List.setIfInBounds_toArray, List.set_cons_succ, List.set_cons_zero, hp]; done) | simp [Act.put, hp]
              refine AllOps.cons (fun x u hC hT hp K hK => ?_) ?_
              · simp [KnownTill, Region.binds, VRr3] at hp
                clear hT
                go_simp
                refine hK _ _ _ hC trivial (by exact rfl) ?_
                first | (simp only [Act.put, List.setIfInBounds_toArray, List.set_cons_succ, List.set_cons_zero, hp]; done) | simp [Act.put, hp]
              refine AllOps.cons (fun x u hC hT hp K hK => ?_) ?_
              · simp [KnownTill, Region.binds, VRr3] at hp
                clear hT
                have ca0 := hC.1.cell 0
                have ca1 := hC.1.cell 1
                have ca2 := hC.1.cell 2
                have ca3 := hC.1.cell 3
                have ca4 := hC.1.cell 4
                have ca5 := hC.1.cell 5
                simp only [List.getElem?_toArray, List.getElem?_cons_zero, List.getElem?_cons_succ] at ca0 ca1 ca2 ca3 ca4 ca5
                go_simp
                refine hK _ _ _ hC trivial (by exact rfl) ?_
                first | (simp only [Act.put, List.setIfInBounds_toArray, List.set_cons_succ, List.set_cons_zero, hp]; done) | simp [Act.put, hp]
              refine AllOps.cons (fun x u hC hT hp K hK => ?_) ?_
              · simp [KnownTill, Region.binds, VRr3] at hp
                clear hT
                go_simp
                refine hK _ _ _ hC trivial (by exact rfl) ?_
                first | (simp only [Act.put, List.setIfInBounds_toArray, List.set_cons_succ, List.set_cons_zero, hp]; done) | simp [Act.put, hp]
              refine AllOps.cons (fun x u hC hT hp K hK => ?_) ?_
              · simp [KnownTill, Region.binds, VRr3] at hp
                clear hT
                have ca0 := hC.1.cell 0
                have ca1 := hC.1.cell 1
                have ca2 := hC.1.cell 2
                have ca3 := hC.1.cell 3
                have ca4 := hC.1.cell 4
                have ca5 := hC.1.cell 5
                simp only [List.getElem?_toArray, List.getElem?_cons_zero, List.getElem?_cons_succ] at ca0 ca1 ca2 ca3 ca4 ca5
                go_simp
                refine hK _ _ _ hC trivial (by exact rfl) ?_
                first | (simp only [Act.put, List.setIfInBounds_toArray, List.set_cons_succ, List.set_cons_zero, hp]; done) | simp [Act.put, hp]
              refine AllOps.cons (fun x u hC hT hp K hK => ?_) ?_
              · simp [KnownTill, Region.binds, VRr3] at hp
                clear hT
                go_simp
                refine hK _ _ _ hC trivial (by exact rfl) ?_
                first | (simp only [Act.put, List.setIfInBounds_toArray, List.set_cons_succ, List.set_cons_zero, hp]; done) | simp [Act.put, hp]
              refine AllOps.cons (fun x u hC hT hp K hK => ?_) ?_
              · simp [KnownTill, Region.binds, VRr3] at hp
                clear hT
                go_simp
                refine (hbb u).mono ?_
                rintro e wA ⟨rfl, hbu⟩
                refine hK _ _ _ ⟨hC.1.below hbu hC.1.lt, bt hC.2 hbu⟩ trivial (by exact rfl) ?_
                first | (simp only [Act.put, List.setIfInBounds_toArray, List.set_cons_succ, List.set_cons_zero, hp]; done) | simp [Act.put, hp]
              refine AllOps.cons (fun x u hC hT hp K hK => ?_) ?_
              · simp [KnownTill, Region.binds, VRr3] at hp
                clear hT
                go_simp
                refine (hc11 u).mono ?_
                rintro e wA ⟨rfl, hbu⟩
                refine hK _ _ _ ⟨hC.1.below hbu hC.1.lt, bt hC.2 hbu⟩ trivial (by exact rfl) ?_
                first | (simp only [Act.put, List.setIfInBounds_toArray, List.set_cons_succ, List.set_cons_zero, hp]; done) | simp [Act.put, hp]
              refine AllOps.cons (fun x u hC hT hp K hK => ?_) ?_
              · simp [KnownTill, Region.binds, VRr3] at hp
                clear hT
                go_simp
                refine hK _ _ _ hC trivial (by exact rfl) ?_
                first | (simp only [Act.put, List.setIfInBounds_toArray, List.set_cons_succ, List.set_cons_zero, hp]; done) | simp [Act.put, hp]
              exact AllOps.nil
            case finR3 =>
              intro x u hC hV
              have hz : x 15 = .bool false := hV 15 (by decide) rfl
              rw [hz]
              obtain ⟨kb, hbw⟩ := hC
              clear hV hz
              go_wp2_with fail
              go_roundw
              case rel => exact ⟨1, by decide, by go_num, Lib.hid ⟨fun _ => hn3.out, fun h => absurd h (by decide)⟩, kb, hbw⟩
              case measure => simp [intOf]
          · have hR := Lib.hid (hyes2 rfl)
            clear hno2 hyes2
            refine wp_region_invT (F := ?FR4) (V := VRr3 (.agg #[.int .i64 l, .int .i64 s0, .int .i64 s1, .bool w0, .bool w1, .int .i64 t]) 0 bb true) (dead := fun _ => none) (T := fun _ _ => True) (C := fun u' => Blk u' w.heap.size 33 #[.int .i64 l, .int .i64 s0, .int .i64 s1, .bool w0, .bool w1, .int .i64 t] ∧ Below w.heap.size w u') (E := fun _ _ _ => True) (by kernel_rfl) (by kernel_rfl) (by kernel_rfl) (fun x => ?hFR4) ?hmonoR4 ?hTmR4 ?hTR4 ?hCR4 ?stepR4 ?finR4
            case hFR4 => simp only [mkA, Act.put, List.setIfInBounds_toArray, List.set_cons_succ, List.set_cons_zero, Nat.reduceAdd, Nat.zero_add]; first | with_reducible rfl | rfl
            case hmonoR4 => exact fun k i v u u' he hik hwt hdd hv => by unfold VRr3 at hv ⊢; split at hv <;> exact hv
            case hTmR4 => exact fun _ _ _ _ _ _ _ _ => trivial
            case hTR4 => exact fun j => trivial
            case hCR4 => exact ⟨kb, bt hbw (below_drew _)⟩
            case stepR4 =>
              refine AllOps.cons (fun x u hC hT hp K hK => ?_) ?_
              · clear hp hT
                have ca0 := hC.1.cell 0
                have ca1 := hC.1.cell 1
                have ca2 := hC.1.cell 2
                have ca3 := hC.1.cell 3
                have ca4 := hC.1.cell 4
                have ca5 := hC.1.cell 5
                simp only [List.getElem?_toArray, List.getElem?_cons_zero, List.getElem?_cons_succ] at ca0 ca1 ca2 ca3 ca4 ca5
                go_simp
                refine hK _ _ _ hC trivial (by exact rfl) ?_
                first | (simp only [Act.put, List.setIfInBounds_toArray, List.set_cons_succ, List.set_cons_zero]; done) | simp [Act.put]
              refine AllOps.cons (fun x u hC hT hp K hK => ?_) ?_
              · clear hp hT
                go_simp
                refine hK _ _ _ hC trivial (by exact rfl) ?_
                first | (simp only [Act.put, List.setIfInBounds_toArray, List.set_cons_succ, List.set_cons_zero]; done) | simp [Act.put]
              refine AllOps.cons (fun x u hC hT hp K hK => ?_) ?_
              · simp [KnownTill, Region.binds, VRr3] at hp
                clear hT
                go_simp
                refine (hc9 u).mono ?_
                rintro e wA ⟨rfl, hbu⟩
                refine hK _ _ _ ⟨hC.1.below hbu hC.1.lt, bt hC.2 hbu⟩ trivial (by exact rfl) ?_
                first | (simp only [Act.put, List.setIfInBounds_toArray, List.set_cons_succ, List.set_cons_zero, hp]; done) | simp [Act.put, hp]
              refine AllOps.cons (fun x u hC hT hp K hK => ?_) ?_
              · simp [KnownTill, Region.binds, VRr3] at hp
                clear hT
                go_simp
                refine hK _ _ _ hC trivial (by exact rfl) ?_
                first | (simp only [Act.put, List.setIfInBounds_toArray, List.set_cons_succ, List.set_cons_zero, hp]; done) | simp [Act.put, hp]
              refine AllOps.cons (fun x u hC hT hp K hK => ?_) ?_
              · simp [KnownTill, Region.binds, VRr3] at hp
                clear hT
                have ca0 := hC.1.cell 0
                have ca1 := hC.1.cell 1
                have ca2 := hC.1.cell 2
                have ca3 := hC.1.cell 3
                have ca4 := hC.1.cell 4
                have ca5 := hC.1.cell 5
                simp only [List.getElem?_toArray, List.getElem?_cons_zero, List.getElem?_cons_succ] at ca0 ca1 ca2 ca3 ca4 ca5
                go_simp
                refine hK _ _ _ hC trivial (by exact rfl) ?_
                first | (simp only [Act.put, List.setIfInBounds_toArray, List.set_cons_succ, List.set_cons_zero, hp]; done) | simp [Act.put, hp]
              refine AllOps.cons (fun x u hC hT hp K hK => ?_) ?_
              · simp [KnownTill, Region.binds, VRr3] at hp
                clear hT
                go_simp
                refine hK _ _ _ hC trivial (by exact rfl) ?_
                first | (simp only [Act.put, List.setIfInBounds_toArray, List.set_cons_succ, List.set_cons_zero, hp]; done) | simp [Act.put, hp]
              refine AllOps.cons (fun x u hC hT hp K hK => ?_) ?_
              · simp [KnownTill, Region.binds, VRr3] at hp
                clear hT
                go_simp
                refine (hc10 u).mono ?_
                rintro e wA ⟨rfl, hbu⟩
                refine hK _ _ _ ⟨hC.1.below hbu hC.1.lt, bt hC.2 hbu⟩ trivial (by exact rfl) ?_
                first | (simp only [Act.put, List.setIfInBounds_toArray, List.set_cons_succ, List.set_cons_zero, hp]; done) | simp [Act.put, hp]
              refine AllOps.cons (fun x u hC hT hp K hK => ?_) ?_
              · simp [KnownTill, Region.binds, VRr3] at hp
                clear hT
                go_simp
                refine hK _ _ _ hC trivial (by exact rfl) ?_
                first | (simp only [Act.put, List.setIfInBounds_toArray, List.set_cons_succ, List.set_cons_zero, hp]; done) | simp [Act.put, hp]
              refine AllOps.cons (fun x u hC hT hp K hK => ?_) ?_
              · simp [KnownTill, Region.binds, VRr3] at hp
                clear hT
                go_simp
                refine hK _ _ _ hC trivial (by exact rfl) ?_
                first | (simp only [Act.put, List.setIfInBounds_toArray, List.set_cons_succ, List.set_cons_zero, hp]; done) | simp [Act.put, hp]
              refine AllOps.cons (fun x u hC hT hp K hK => ?_) ?_
              · simp [KnownTill, Region.binds, VRr3] at hp
                clear hT
                have ca0 := hC.1.cell 0
                have ca1 := hC.1.cell 1
                have ca2 := hC.1.cell 2
                have ca3 := hC.1.cell 3
                have ca4 := hC.1.cell 4
                have ca5 := hC.1.cell 5
                simp only [List.getElem?_toArray, List.getElem?_cons_zero, List.getElem?_cons_succ] at ca0 ca1 ca2 ca3 ca4 ca5
                go_simp
                refine hK _ _ _ hC trivial (by exact rfl) ?_
                first | (simp only [Act.put, List.setIfInBounds_toArray, List.set_cons_succ, List.set_cons_zero, hp]; done) | simp [Act.put, hp]
              refine AllOps.cons (fun x u hC hT hp K hK => ?_) ?_
              · simp [KnownTill, Region.binds, VRr3] at hp
                clear hT
                go_simp
                refine hK _ _ _ hC trivial (by exact rfl) ?_
                first | (simp only [Act.put, List.setIfInBounds_toArray, List.set_cons_succ, List.set_cons_zero, hp]; done) | simp [Act.put, hp]
              refine AllOps.cons (fun x u hC hT hp K hK => ?_) ?_
              · simp [KnownTill, Region.binds, VRr3] at hp
                clear hT
                have ca0 := hC.1.cell 0
                have ca1 := hC.1.cell 1
                have ca2 := hC.1.cell 2
                have ca3 := hC.1.cell 3
                have ca4 := hC.1.cell 4
                have ca5 := hC.1.cell 5
                simp only [List.getElem?_toArray, List.getElem?_cons_zero, List.getElem?_cons_succ] at ca0 ca1 ca2 ca3 ca4 ca5
                go_simp
                refine hK _ _ _ hC trivial (by exact rfl) ?_
                first | (simp only [Act.put, List.setIfInBounds_toArray, List.set_cons_succ, List.set_cons_zero, hp]; done) | simp [Act.put, hp]
              refine AllOps.cons (fun x u hC hT hp K hK => ?_) ?_
              · simp [KnownTill, Region.binds, VRr3] at hp
                clear hT
                go_simp
                refine hK _ _ _ hC trivial (by exact rfl) ?_
                first | (simp only [Act.put, List.setIfInBounds_toArray, List.set_cons_succ, List.set_cons_zero, hp]; done) | simp [Act.put, hp]
              refine AllOps.cons (fun x u hC hT hp K hK => ?_) ?_
              · simp [KnownTill, Region.binds, VRr3] at hp
                clear hT
                go_simp
                refine (hbb u).mono ?_
                rintro e wA ⟨rfl, hbu⟩
                refine hK _ _ _ ⟨hC.1.below hbu hC.1.lt, bt hC.2 hbu⟩ trivial (by exact rfl) ?_
                first | (simp only [Act.put, List.setIfInBounds_toArray, List.set_cons_succ, List.set_cons_zero, hp]; done) | simp [Act.put, hp]
              refine AllOps.cons (fun x u hC hT hp K hK => ?_) ?_
              · simp [KnownTill, Region.binds, VRr3] at hp
                clear hT
                go_simp
                refine (hc11 u).mono ?_
                rintro e wA ⟨rfl, hbu⟩
                refine hK _ _ _ ⟨hC.1.below hbu hC.1.lt, bt hC.2 hbu⟩ trivial (by exact rfl) ?_
                first | (simp only [Act.put, List.setIfInBounds_toArray, List.set_cons_succ, List.set_cons_zero, hp]; done) | simp [Act.put, hp]
              refine AllOps.cons (fun x u hC hT hp K hK => ?_) ?_
              · simp [KnownTill, Region.binds, VRr3] at hp
                clear hT
                go_simp
                refine hK _ _ _ hC trivial (by exact rfl) ?_
                first | (simp only [Act.put, List.setIfInBounds_toArray, List.set_cons_succ, List.set_cons_zero, hp]; done) | simp [Act.put, hp]
              exact AllOps.nil
            case finR4 =>
              intro x u hC hV
              have hz : x 15 = .bool true := hV 15 (by decide) rfl
              rw [hz]
              have hbz := hC.2
              clear hV hC hz
              go_wp2
              go_ret
              exact ⟨by rw [hR.out]; rfl, hbz⟩
    · have hyes : rowM (l, s0, w0, s1, w1, t) true = true → R = true := fun h => by rw [HR.out, h]; simp
      have hno : rowM (l, s0, w0, s1, w1, t) true = false → rowM (l, s0, w0, s1, w1, t) true = false := fun h => h
      have hc0 := fun w => shape_any l s0 w0 s1 w1 t w true 1 false 2 0
      simp only [bi, if_true, if_false, Bool.false_eq_true] at hc0
      rcases hs0 : shapeM (l, s0, w0, s1, w1, t) true 1 false 2 0 with _ | _
      all_goals rw [hs0] at hc0
      rotate_left
      · have hR := Lib.hid (hyes (by simp [rowM, hs0]))
        clear hyes hno hs0
        have c0 := kb.cell 0
        have c1 := kb.cell 1
        have c2 := kb.cell 2
        have c3 := kb.cell 3
        have c4 := kb.cell 4
        have c5 := kb.cell 5
        simp only [List.getElem?_toArray, List.getElem?_cons_zero, List.getElem?_cons_succ] at c0 c1 c2 c3 c4 c5
        go_wp2_with fail
        refine (hc0 _).mono ?_
        rintro e v ⟨rfl, hb⟩
        clear c0 c1 c2 c3 c4 c5
        have hbw := bt hbw hb
        go_wp2
        go_ret
        exact ⟨by rw [hR.out]; rfl, hbw⟩
      have hh0 := Lib.hid hs0
      clear hs0
      have c0 := kb.cell 0
      have c1 := kb.cell 1
      have c2 := kb.cell 2
      have c3 := kb.cell 3
      have c4 := kb.cell 4
      have c5 := kb.cell 5
      simp only [List.getElem?_toArray, List.getElem?_cons_zero, List.getElem?_cons_succ] at c0 c1 c2 c3 c4 c5
      go_wp2_with fail
      refine (hc0 _).mono ?_
      rintro e v ⟨rfl, hb⟩
      clear c0 c1 c2 c3 c4 c5
      have kb := kb.below hb kb.lt
      have hbw := bt hbw hb
      clear hb
      clear hc0
      have hc1 := fun w => shape_any l s0 w0 s1 w1 t w true 12 false 12 0
      simp only [bi, if_true, if_false, Bool.false_eq_true] at hc1
      rcases hs1 : shapeM (l, s0, w0, s1, w1, t) true 12 false 12 0 with _ | _
      all_goals rw [hs1] at hc1
      rotate_left
      · have hR := Lib.hid (hyes (by simp [rowM, hs1]))
        clear hyes hno hs1
        have c0 := kb.cell 0
        have c1 := kb.cell 1
        have c2 := kb.cell 2
        have c3 := kb.cell 3
        have c4 := kb.cell 4
        have c5 := kb.cell 5
        simp only [List.getElem?_toArray, List.getElem?_cons_zero, List.getElem?_cons_succ] at c0 c1 c2 c3 c4 c5
        go_wp2_with fail
        refine (hc1 _).mono ?_
        rintro e v ⟨rfl, hb⟩
        clear c0 c1 c2 c3 c4 c5
        have hbw := bt hbw hb
        go_wp2
        go_ret
        exact ⟨by rw [hR.out]; rfl, hbw⟩
      have hh1 := Lib.hid hs1
      clear hs1
      have c0 := kb.cell 0
      have c1 := kb.cell 1
      have c2 := kb.cell 2
      have c3 := kb.cell 3
      have c4 := kb.cell 4
      have c5 := kb.cell 5
      simp only [List.getElem?_toArray, List.getElem?_cons_zero, List.getElem?_cons_succ] at c0 c1 c2 c3 c4 c5
      go_wp2_with fail
      refine (hc1 _).mono ?_
      rintro e v ⟨rfl, hb⟩
      clear c0 c1 c2 c3 c4 c5
      have kb := kb.below hb kb.lt
      have hbw := bt hbw hb
      clear hb
      clear hc1
      have c0 := kb.cell 0
      have c1 := kb.cell 1
      have c2 := kb.cell 2
      have c3 := kb.cell 3
      have c4 := kb.cell 4
      have c5 := kb.cell 5
      simp only [List.getElem?_toArray, List.getElem?_cons_zero, List.getElem?_cons_succ] at c0 c1 c2 c3 c4 c5
      go_wp2
      clear c0 c1 c2 c3 c4 c5
      have kb0 := kb
      have hbw0 := hbw
      clear kb hbw
      go_loopw [4] (fun i wr => ∃ k : Nat, (3 ≤ k ∧ k ≤ 6) ∧ i = .int .i64 k ∧ Hid (∀ j : Nat, 3 ≤ j → j < k → shapeM (l, s0, w0, s1, w1, t) true 1 true j 1 = false) ∧ (Blk wr w.heap.size 33 #[.int .i64 l, .int .i64 s0, .int .i64 s1, .bool w0, .bool w1, .int .i64 t] ∧ Below w.heap.size w wr)) (fun i _ => 6 - (intOf i).toNat)
      case atStart => exact ⟨3, ⟨by decide, by decide⟩, rfl, Lib.hid (fun j h1 h2 => absurd h2 (by omega)), kb0, hbw0⟩
      case round =>
        obtain ⟨k, ⟨hk3, hk6⟩, rfl, hall, kb, hbw⟩ := hrel
        clear kb0 hbw0
        by_cases hkl : k < 6
        · have hkI : (k : Int) ≤ 5 := by omega
          have hck := fun w => shape_any l s0 w0 s1 w1 t w true 1 true (k : Int) 1
          simp only [bi, if_true, if_false, Bool.false_eq_true] at hck
          rcases hsk : shapeM (l, s0, w0, s1, w1, t) true 1 true (k : Int) 1 with _ | _
          all_goals rw [hsk] at hck
          · have hn2 : Hid (∀ j : Nat, 3 ≤ j → j < k + 1 → shapeM (l, s0, w0, s1, w1, t) true 1 true j 1 = false) := Lib.hid fun j h1 h2 => by
              rcases Nat.lt_or_ge j k with h3 | h3
              · exact hall.out j h1 h3
              · obtain rfl : j = k := by omega
                exact hsk
            clear hsk hall
            have c0 := kb.cell 0
            have c1 := kb.cell 1
            have c2 := kb.cell 2
            have c3 := kb.cell 3
            have c4 := kb.cell 4
            have c5 := kb.cell 5
            simp only [List.getElem?_toArray, List.getElem?_cons_zero, List.getElem?_cons_succ] at c0 c1 c2 c3 c4 c5
            go_wp2_with fail
            refine (hck _).mono ?_
            rintro e v ⟨rfl, hb⟩
            clear c0 c1 c2 c3 c4 c5
            have kb := kb.below hb kb.lt
            have hbw := bt hbw hb
            clear hb
            go_wp2_with fail
            go_roundw
            case rel => exact ⟨k + 1, ⟨by omega, by omega⟩, by go_num, hn2, kb, hbw⟩
            case measure => simp [intOf]; omega
          · have hk : (k : Int) = 3 ∨ (k : Int) = 4 ∨ (k : Int) = 5 := by omega
            have hR := Lib.hid (hyes (by rcases hk with h | h | h <;> (rw [h] at hsk; simp [rowM, hsk])))
            clear hyes hno hsk hall hk
            have c0 := kb.cell 0
            have c1 := kb.cell 1
            have c2 := kb.cell 2
            have c3 := kb.cell 3
            have c4 := kb.cell 4
            have c5 := kb.cell 5
            simp only [List.getElem?_toArray, List.getElem?_cons_zero, List.getElem?_cons_succ] at c0 c1 c2 c3 c4 c5
            go_wp2_with fail
            refine (hck _).mono ?_
            rintro e v ⟨rfl, hb⟩
            clear c0 c1 c2 c3 c4 c5
            have hbw := bt hbw hb
            go_wp2
            go_ret
            exact ⟨by rw [hR.out]; rfl, hbw⟩
        · obtain rfl : k = 6 := by omega
          have hs3 : Hid (shapeM (l, s0, w0, s1, w1, t) true 1 true 3 1 = false) := Lib.hid (hall.out 3 (by decide) (by decide))
          have hs4 : Hid (shapeM (l, s0, w0, s1, w1, t) true 1 true 4 1 = false) := Lib.hid (hall.out 4 (by decide) (by decide))
          have hs5 : Hid (shapeM (l, s0, w0, s1, w1, t) true 1 true 5 1 = false) := Lib.hid (hall.out 5 (by decide) (by decide))
          clear hall
          have hc6 := fun w => shape_any l s0 w0 s1 w1 t w true 10 false 2 2
          simp only [bi, if_true, if_false, Bool.false_eq_true] at hc6
          rcases hs6 : shapeM (l, s0, w0, s1, w1, t) true 10 false 2 2 with _ | _
          all_goals rw [hs6] at hc6
          rotate_left
          · have hR := Lib.hid (hyes (by simp [rowM, hs6]))
            clear hyes hno hs6
            have c0 := kb.cell 0
            have c1 := kb.cell 1
            have c2 := kb.cell 2
            have c3 := kb.cell 3
            have c4 := kb.cell 4
            have c5 := kb.cell 5
            simp only [List.getElem?_toArray, List.getElem?_cons_zero, List.getElem?_cons_succ] at c0 c1 c2 c3 c4 c5
            go_wp2_with fail
            refine (hc6 _).mono ?_
            rintro e v ⟨rfl, hb⟩
            clear c0 c1 c2 c3 c4 c5
            have hbw := bt hbw hb
            go_wp2
            go_ret
            exact ⟨by rw [hR.out]; rfl, hbw⟩
          have hh6 := Lib.hid hs6
          clear hs6
          have c0 := kb.cell 0
          have c1 := kb.cell 1
          have c2 := kb.cell 2
          have c3 := kb.cell 3
          have c4 := kb.cell 4
          have c5 := kb.cell 5
          simp only [List.getElem?_toArray, List.getElem?_cons_zero, List.getElem?_cons_succ] at c0 c1 c2 c3 c4 c5
          go_wp2_with fail
          refine (hc6 _).mono ?_
          rintro e v ⟨rfl, hb⟩
          clear c0 c1 c2 c3 c4 c5
          have kb := kb.below hb kb.lt
          have hbw := bt hbw hb
          clear hb
          clear hc6
          have hc7 := fun w => shape_any l s0 w0 s1 w1 t w true 11 false 2 2
          simp only [bi, if_true, if_false, Bool.false_eq_true] at hc7
          rcases hs7 : shapeM (l, s0, w0, s1, w1, t) true 11 false 2 2 with _ | _
          all_goals rw [hs7] at hc7
          rotate_left
          · have hR := Lib.hid (hyes (by simp [rowM, hs7]))
            clear hyes hno hs7
            have c0 := kb.cell 0
            have c1 := kb.cell 1
            have c2 := kb.cell 2
            have c3 := kb.cell 3
            have c4 := kb.cell 4
            have c5 := kb.cell 5
            simp only [List.getElem?_toArray, List.getElem?_cons_zero, List.getElem?_cons_succ] at c0 c1 c2 c3 c4 c5
            go_wp2_with fail
            refine (hc7 _).mono ?_
            rintro e v ⟨rfl, hb⟩
            clear c0 c1 c2 c3 c4 c5
            have hbw := bt hbw hb
            go_wp2
            go_ret
            exact ⟨by rw [hR.out]; rfl, hbw⟩
          have hh7 := Lib.hid hs7
          clear hs7
          have c0 := kb.cell 0
          have c1 := kb.cell 1
          have c2 := kb.cell 2
          have c3 := kb.cell 3
          have c4 := kb.cell 4
          have c5 := kb.cell 5
          simp only [List.getElem?_toArray, List.getElem?_cons_zero, List.getElem?_cons_succ] at c0 c1 c2 c3 c4 c5
          go_wp2_with fail
          refine (hc7 _).mono ?_
          rintro e v ⟨rfl, hb⟩
          clear c0 c1 c2 c3 c4 c5
          have kb := kb.below hb kb.lt
          have hbw := bt hbw hb
          clear hb
          clear hc7
          have hc8 := fun w => shape_any l s0 w0 s1 w1 t w true 1 true 6 2
          simp only [bi, if_true, if_false, Bool.false_eq_true] at hc8
          rcases hs8 : shapeM (l, s0, w0, s1, w1, t) true 1 true 6 2 with _ | _
          all_goals rw [hs8] at hc8
          rotate_left
          · have hR := Lib.hid (hyes (by simp [rowM, hs8]))
            clear hyes hno hs8
            have c0 := kb.cell 0
            have c1 := kb.cell 1
            have c2 := kb.cell 2
            have c3 := kb.cell 3
            have c4 := kb.cell 4
            have c5 := kb.cell 5
            simp only [List.getElem?_toArray, List.getElem?_cons_zero, List.getElem?_cons_succ] at c0 c1 c2 c3 c4 c5
            go_wp2_with fail
            refine (hc8 _).mono ?_
            rintro e v ⟨rfl, hb⟩
            clear c0 c1 c2 c3 c4 c5
            have hbw := bt hbw hb
            go_wp2
            go_ret
            exact ⟨by rw [hR.out]; rfl, hbw⟩
          have hh8 := Lib.hid hs8
          clear hs8
          have c0 := kb.cell 0
          have c1 := kb.cell 1
          have c2 := kb.cell 2
          have c3 := kb.cell 3
          have c4 := kb.cell 4
          have c5 := kb.cell 5
          simp only [List.getElem?_toArray, List.getElem?_cons_zero, List.getElem?_cons_succ] at c0 c1 c2 c3 c4 c5
          go_wp2_with fail
          refine (hc8 _).mono ?_
          rintro e v ⟨rfl, hb⟩
          clear c0 c1 c2 c3 c4 c5
          have kb := kb.below hb kb.lt
          have hbw := bt hbw hb
          clear hb
          clear hc8
          have c0 := kb.cell 0
          have c1 := kb.cell 1
          have c2 := kb.cell 2
          have c3 := kb.cell 3
          have c4 := kb.cell 4
          have c5 := kb.cell 5
          simp only [List.getElem?_toArray, List.getElem?_cons_zero, List.getElem?_cons_succ] at c0 c1 c2 c3 c4 c5
          have hc9 := fun w => shape_any l s0 w0 s1 w1 t w true 10 true 7 2
          have hc10 := fun w => shape_any l s0 w0 s1 w1 t w true 11 true 8 2
          have hbb := fun w => refbase_any l s0 w0 s1 w1 t w true
          have hc11 := fun w => shape_any l s0 w0 s1 w1 t w true (baseM (l, s0, w0, s1, w1, t) true) true 9 2
          simp only [bi, if_true, if_false, Bool.false_eq_true] at hc9 hc10 hc11 hbb
          go_wp2_with fail
          clear c0 c1 c2 c3 c4 c5
          rcases hs9 : shapeM (l, s0, w0, s1, w1, t) true 10 true 7 2 with _ | _
          all_goals rw [hs9] at hc9
          rotate_left
          · have hR := Lib.hid (hyes (by simp [rowM, hs9]))
            clear hyes hno hs9 hc10 hc11 hbb
            refine wp_region_invT (F := ?FR5) (V := VRr1 (.agg #[.int .i64 l, .int .i64 s0, .int .i64 s1, .bool w0, .bool w1, .int .i64 t]) 1) (dead := fun _ => none) (T := fun _ _ => True) (C := fun u' => Blk u' w.heap.size 33 #[.int .i64 l, .int .i64 s0, .int .i64 s1, .bool w0, .bool w1, .int .i64 t] ∧ Below w.heap.size w u') (E := fun _ _ _ => True) (by kernel_rfl) (by kernel_rfl) (by kernel_rfl) (fun x => ?hFR5) ?hmonoR5 ?hTmR5 ?hTR5 ?hCR5 ?stepR5 ?finR5
            case hFR5 => simp only [mkA, Act.put, List.setIfInBounds_toArray, List.set_cons_succ, List.set_cons_zero, Nat.reduceAdd, Nat.zero_add]; first | with_reducible rfl | rfl
            case hmonoR5 => exact fun k i v u u' he hik hwt hdd hv => by unfold VRr1 at hv ⊢; split at hv <;> exact hv
            case hTmR5 => exact fun _ _ _ _ _ _ _ _ => trivial
            case hTR5 => exact fun j => trivial
            case hCR5 => exact ⟨kb, bt hbw (below_drew _)⟩
            case stepR5 =>
              refine AllOps.cons (fun x u hC hT hp K hK => ?_) ?_
              · clear hp hT
                have ca0 := hC.1.cell 0
                have ca1 := hC.1.cell 1
                have ca2 := hC.1.cell 2
                have ca3 := hC.1.cell 3
                have ca4 := hC.1.cell 4
                have ca5 := hC.1.cell 5
                simp only [List.getElem?_toArray, List.getElem?_cons_zero, List.getElem?_cons_succ] at ca0 ca1 ca2 ca3 ca4 ca5
                go_simp
                refine hK _ _ _ hC trivial (by exact rfl) ?_
                first | (simp only [Act.put, List.setIfInBounds_toArray, List.set_cons_succ, List.set_cons_zero]; done) | simp [Act.put]
              refine AllOps.cons (fun x u hC hT hp K hK => ?_) ?_
              · clear hp hT
                go_simp
                refine hK _ _ _ hC trivial (by exact rfl) ?_
                first | (simp only [Act.put, List.setIfInBounds_toArray, List.set_cons_succ, List.set_cons_zero]; done) | simp [Act.put]
              refine AllOps.cons (fun x u hC hT hp K hK => ?_) ?_
              · simp [KnownTill, Region.binds, VRr1] at hp
                clear hT
                go_simp
                refine (hc9 u).mono ?_
                rintro e wA ⟨rfl, hbu⟩
                refine hK _ _ _ ⟨hC.1.below hbu hC.1.lt, bt hC.2 hbu⟩ trivial (by exact rfl) ?_
                first | (simp only [Act.put, List.setIfInBounds_toArray, List.set_cons_succ, List.set_cons_zero, hp]; done) | simp [Act.put, hp]
              refine AllOps.cons (fun x u hC hT hp K hK => ?_) ?_
              · simp [KnownTill, Region.binds, VRr1] at hp
                clear hT
                go_simp
                refine hK _ _ _ hC trivial (by exact rfl) ?_
                first | (simp only [Act.put, List.setIfInBounds_toArray, List.set_cons_succ, List.set_cons_zero, hp]; done) | simp [Act.put, hp]
              refine AllOps.cons (fun x u hC hT hp K hK => ?_) ?_
              · simp [KnownTill, Region.binds, VRr1] at hp
                clear hT
                go_simp
                refine hK undef _ _ hC trivial (by exact trivial) ?_
                first | (simp only [Act.put, List.setIfInBounds_toArray, List.set_cons_succ, List.set_cons_zero, hp]; done) | simp [Act.put, hp]
              refine AllOps.cons (fun x u hC hT hp K hK => ?_) ?_
              · simp [KnownTill, Region.binds, VRr1] at hp
                clear hT
                go_simp
                refine hK undef _ _ hC trivial (by exact trivial) ?_
                first | (simp only [Act.put, List.setIfInBounds_toArray, List.set_cons_succ, List.set_cons_zero, hp]; done) | simp [Act.put, hp]
              refine AllOps.cons (fun x u hC hT hp K hK => ?_) ?_
              · simp [KnownTill, Region.binds, VRr1] at hp
                clear hT
                go_simp
                refine hK undef _ _ hC trivial (by exact trivial) ?_
                first | (simp only [Act.put, List.setIfInBounds_toArray, List.set_cons_succ, List.set_cons_zero, hp]; done) | simp [Act.put, hp]
              refine AllOps.cons (fun x u hC hT hp K hK => ?_) ?_
              · simp [KnownTill, Region.binds, VRr1] at hp
                clear hT
                go_simp
                refine hK _ _ _ hC trivial (by exact rfl) ?_
                first | (simp only [Act.put, List.setIfInBounds_toArray, List.set_cons_succ, List.set_cons_zero, hp]; done) | simp [Act.put, hp]
              refine AllOps.cons (fun x u hC hT hp K hK => ?_) ?_
              · simp [KnownTill, Region.binds, VRr1] at hp
                clear hT
                go_simp
                refine hK _ _ _ hC trivial (by exact rfl) ?_
                first | (simp only [Act.put, List.setIfInBounds_toArray, List.set_cons_succ, List.set_cons_zero, hp]; done) | simp [Act.put, hp]
              refine AllOps.cons (fun x u hC hT hp K hK => ?_) ?_
              · simp [KnownTill, Region.binds, VRr1] at hp
                clear hT
                go_simp
                refine hK undef _ _ hC trivial (by exact trivial) ?_
                first | (simp only [Act.put, List.setIfInBounds_toArray, List.set_cons_succ, List.set_cons_zero, hp]; done) | simp [Act.put, hp]
              refine AllOps.cons (fun x u hC hT hp K hK => ?_) ?_
              · simp [KnownTill, Region.binds, VRr1] at hp
                clear hT
                go_simp
                refine hK undef _ _ hC trivial (by exact trivial) ?_
                first | (simp only [Act.put, List.setIfInBounds_toArray, List.set_cons_succ, List.set_cons_zero, hp]; done) | simp [Act.put, hp]
              refine AllOps.cons (fun x u hC hT hp K hK => ?_) ?_
              · simp [KnownTill, Region.binds, VRr1] at hp
                clear hT
                go_simp
                refine hK undef _ _ hC trivial (by exact trivial) ?_
                first | (simp only [Act.put, List.setIfInBounds_toArray, List.set_cons_succ, List.set_cons_zero, hp]; done) | simp [Act.put, hp]
              refine AllOps.cons (fun x u hC hT hp K hK => ?_) ?_
              · simp [KnownTill, Region.binds, VRr1] at hp
                clear hT
                go_simp
                refine hK undef _ _ hC trivial (by exact trivial) ?_
                first | (simp only [Act.put, List.setIfInBounds_toArray, List.set_cons_succ, List.set_cons_zero, hp]; done) | simp [Act.put, hp]
              refine AllOps.cons (fun x u hC hT hp K hK => ?_) ?_
              · simp [KnownTill, Region.binds, VRr1] at hp
                clear hT
                go_simp
                refine hK undef _ _ hC trivial (by exact trivial) ?_
                first | (simp only [Act.put, List.setIfInBounds_toArray, List.set_cons_succ, List.set_cons_zero, hp]; done) | simp [Act.put, hp]
              refine AllOps.cons (fun x u hC hT hp K hK => ?_) ?_
              · simp [KnownTill, Region.binds, VRr1] at hp
                clear hT
                go_simp
                refine hK undef _ _ hC trivial (by exact trivial) ?_
                first | (simp only [Act.put, List.setIfInBounds_toArray, List.set_cons_succ, List.set_cons_zero, hp]; done) | simp [Act.put, hp]
              refine AllOps.cons (fun x u hC hT hp K hK => ?_) ?_
              · simp [KnownTill, Region.binds, VRr1] at hp
                clear hT
                go_simp
                refine hK _ _ _ hC trivial (by exact rfl) ?_
                first | (simp only [Act.put, List.setIfInBounds_toArray, List.set_cons_succ, List.set_cons_zero, hp]; done) | simp [Act.put, hp]
              exact AllOps.nil
            case finR5 =>
              intro x u hC hV
              have hz : x 15 = .bool true := hV 15 (by decide) rfl
              rw [hz]
              have hbz := hC.2
              clear hV hC hz
              go_wp2
              go_ret
              exact ⟨by rw [hR.out]; rfl, hbz⟩
          have hh9 := Lib.hid hs9
          clear hs9
          rcases hs10 : shapeM (l, s0, w0, s1, w1, t) true 11 true 8 2 with _ | _
          all_goals rw [hs10] at hc10
          rotate_left
          · have hR := Lib.hid (hyes (by simp [rowM, hs10]))
            clear hyes hno hs10 hc11 hbb
            refine wp_region_invT (F := ?FR6) (V := VRr2 (.agg #[.int .i64 l, .int .i64 s0, .int .i64 s1, .bool w0, .bool w1, .int .i64 t]) 1) (dead := fun _ => none) (T := fun _ _ => True) (C := fun u' => Blk u' w.heap.size 33 #[.int .i64 l, .int .i64 s0, .int .i64 s1, .bool w0, .bool w1, .int .i64 t] ∧ Below w.heap.size w u') (E := fun _ _ _ => True) (by kernel_rfl) (by kernel_rfl) (by kernel_rfl) (fun x => ?hFR6) ?hmonoR6 ?hTmR6 ?hTR6 ?hCR6 ?stepR6 ?finR6
            case hFR6 => simp only [mkA, Act.put, List.setIfInBounds_toArray, List.set_cons_succ, List.set_cons_zero, Nat.reduceAdd, Nat.zero_add]; first | with_reducible rfl | rfl
            case hmonoR6 => exact fun k i v u u' he hik hwt hdd hv => by unfold VRr2 at hv ⊢; split at hv <;> exact hv
            case hTmR6 => exact fun _ _ _ _ _ _ _ _ => trivial
            case hTR6 => exact fun j => trivial
            case hCR6 => exact ⟨kb, bt hbw (below_drew _)⟩
            case stepR6 =>
              refine AllOps.cons (fun x u hC hT hp K hK => ?_) ?_
              · clear hp hT
                have ca0 := hC.1.cell 0
                have ca1 := hC.1.cell 1
                have ca2 := hC.1.cell 2
                have ca3 := hC.1.cell 3
                have ca4 := hC.1.cell 4
                have ca5 := hC.1.cell 5
                simp only [List.getElem?_toArray, List.getElem?_cons_zero, List.getElem?_cons_succ] at ca0 ca1 ca2 ca3 ca4 ca5
                go_simp
                refine hK _ _ _ hC trivial (by exact rfl) ?_
                first | (simp only [Act.put, List.setIfInBounds_toArray, List.set_cons_succ, List.set_cons_zero]; done) | simp [Act.put]
              refine AllOps.cons (fun x u hC hT hp K hK => ?_) ?_
              · clear hp hT
                go_simp
                refine hK _ _ _ hC trivial (by exact rfl) ?_
                first | (simp only [Act.put, List.setIfInBounds_toArray, List.set_cons_succ, List.set_cons_zero]; done) | simp [Act.put]
              refine AllOps.cons (fun x u hC hT hp K hK => ?_) ?_
              · simp [KnownTill, Region.binds, VRr2] at hp
                clear hT
                go_simp
                refine (hc9 u).mono ?_
                rintro e wA ⟨rfl, hbu⟩
                refine hK _ _ _ ⟨hC.1.below hbu hC.1.lt, bt hC.2 hbu⟩ trivial (by exact rfl) ?_
                first | (simp only [Act.put, List.setIfInBounds_toArray, List.set_cons_succ, List.set_cons_zero, hp]; done) | simp [Act.put, hp]
              refine AllOps.cons (fun x u hC hT hp K hK => ?_) ?_
              · simp [KnownTill, Region.binds, VRr2] at hp
                clear hT
                go_simp
                refine hK _ _ _ hC trivial (by exact rfl) ?_
                first | (simp only [Act.put, List.setIfInBounds_toArray, List.set_cons_succ, List.set_cons_zero, hp]; done) | simp [Act.put, hp]
              refine AllOps.cons (fun x u hC hT hp K hK => ?_) ?_
              · simp [KnownTill, Region.binds, VRr2] at hp
                clear hT
                have ca0 := hC.1.cell 0
                have ca1 := hC.1.cell 1
                have ca2 := hC.1.cell 2
                have ca3 := hC.1.cell 3
                have ca4 := hC.1.cell 4
                have ca5 := hC.1.cell 5
                simp only [List.getElem?_toArray, List.getElem?_cons_zero, List.getElem?_cons_succ] at ca0 ca1 ca2 ca3 ca4 ca5
                go_simp
                refine hK _ _ _ hC trivial (by exact rfl) ?_
                first | (simp only [Act.put, List.setIfInBounds_toArray, List.set_cons_succ, List.set_cons_zero, hp]; done) | simp [Act.put, hp]
              refine AllOps.cons (fun x u hC hT hp K hK => ?_) ?_
              · simp [KnownTill, Region.binds, VRr2] at hp
                clear hT
                go_simp
                refine hK _ _ _ hC trivial (by exact rfl) ?_
                first | (simp only [Act.put, List.setIfInBounds_toArray, List.set_cons_succ, List.set_cons_zero, hp]; done) | simp [Act.put, hp]
              refine AllOps.cons (fun x u hC hT hp K hK => ?_) ?_
              · simp [KnownTill, Region.binds, VRr2] at hp
                clear hT
                go_simp
                refine (hc10 u).mono ?_
                rintro e wA ⟨rfl, hbu⟩
                refine hK _ _ _ ⟨hC.1.below hbu hC.1.lt, bt hC.2 hbu⟩ trivial (by exact rfl) ?_
                first | (simp only [Act.put, List.setIfInBounds_toArray, List.set_cons_succ, List.set_cons_zero, hp]; done) | simp [Act.put, hp]
              refine AllOps.cons (fun x u hC hT hp K hK => ?_) ?_
              · simp [KnownTill, Region.binds, VRr2] at hp
                clear hT
                go_simp
                refine hK _ _ _ hC trivial (by exact rfl) ?_
                first | (simp only [Act.put, List.setIfInBounds_toArray, List.set_cons_succ, List.set_cons_zero, hp]; done) | simp [Act.put, hp]
              refine AllOps.cons (fun x u hC hT hp K hK => ?_) ?_
              · simp [KnownTill, Region.binds, VRr2] at hp
                clear hT
                go_simp
                refine hK _ _ _ hC trivial (by exact rfl) ?_
                first | (simp only [Act.put, List.setIfInBounds_toArray, List.set_cons_succ, List.set_cons_zero, hp]; done) | simp [Act.put, hp]
              refine AllOps.cons (fun x u hC hT hp K hK => ?_) ?_
              · simp [KnownTill, Region.binds, VRr2] at hp
                clear hT
                go_simp
                refine hK undef _ _ hC trivial (by exact trivial) ?_
                first | (simp only [Act.put, List.setIfInBounds_toArray, List.set_cons_succ, List.set_cons_zero, hp]; done) | simp [Act.put, hp]
              refine AllOps.cons (fun x u hC hT hp K hK => ?_) ?_
              · simp [KnownTill, Region.binds, VRr2] at hp
                clear hT
                go_simp
                refine hK undef _ _ hC trivial (by exact trivial) ?_
                first | (simp only [Act.put, List.setIfInBounds_toArray, List.set_cons_succ, List.set_cons_zero, hp]; done) | simp [Act.put, hp]
              refine AllOps.cons (fun x u hC hT hp K hK => ?_) ?_
              · simp [KnownTill, Region.binds, VRr2] at hp
                clear hT
                go_simp
                refine hK undef _ _ hC trivial (by exact trivial) ?_
                first | (simp only [Act.put, List.setIfInBounds_toArray, List.set_cons_succ, List.set_cons_zero, hp]; done) | simp [Act.put, hp]
              refine AllOps.cons (fun x u hC hT hp K hK => ?_) ?_
              · simp [KnownTill, Region.binds, VRr2] at hp
                clear hT
                go_simp
                refine hK undef _ _ hC trivial (by exact trivial) ?_
                first | (simp only [Act.put, List.setIfInBounds_toArray, List.set_cons_succ, List.set_cons_zero, hp]; done) | simp [Act.put, hp]
              refine AllOps.cons (fun x u hC hT hp K hK => ?_) ?_
              · simp [KnownTill, Region.binds, VRr2] at hp
                clear hT
                go_simp
                refine hK undef _ _ hC trivial (by exact trivial) ?_
                first | (simp only [Act.put, List.setIfInBounds_toArray, List.set_cons_succ, List.set_cons_zero, hp]; done) | simp [Act.put, hp]
              refine AllOps.cons (fun x u hC hT hp K hK => ?_) ?_
              · simp [KnownTill, Region.binds, VRr2] at hp
                clear hT
                go_simp
                refine hK undef _ _ hC trivial (by exact trivial) ?_
                first | (simp only [Act.put, List.setIfInBounds_toArray, List.set_cons_succ, List.set_cons_zero, hp]; done) | simp [Act.put, hp]
              refine AllOps.cons (fun x u hC hT hp K hK => ?_) ?_
              · simp [KnownTill, Region.binds, VRr2] at hp
                clear hT
                go_simp
                refine hK _ _ _ hC trivial (by exact rfl) ?_
                first | (simp only [Act.put, List.setIfInBounds_toArray, List.set_cons_succ, List.set_cons_zero, hp]; done) | simp [Act.put, hp]
              exact AllOps.nil
            case finR6 =>
              intro x u hC hV
              have hz : x 15 = .bool true := hV 15 (by decide) rfl
              rw [hz]
              have hbz := hC.2
              clear hV hC hz
              go_wp2
              go_ret
              exact ⟨by rw [hR.out]; rfl, hbz⟩
          have hh10 := Lib.hid hs10
          clear hs10
          have hno2 : shapeM (l, s0, w0, s1, w1, t) true (baseM (l, s0, w0, s1, w1, t) true) true 9 2 = false → _ := fun h11 => hno (by simp [rowM, hh0.out, hh1.out, hs3.out, hs4.out, hs5.out, hh6.out, hh7.out, hh8.out, hh9.out, hh10.out, h11])
          have hyes2 : shapeM (l, s0, w0, s1, w1, t) true (baseM (l, s0, w0, s1, w1, t) true) true 9 2 = true → _ := fun h11 => hyes (by simp [rowM, h11])
          clear hno hyes hh0 hh1 hs3 hs4 hs5 hh6 hh7 hh8 hh9 hh10
          generalize shapeM (l, s0, w0, s1, w1, t) true (baseM (l, s0, w0, s1, w1, t) true) true 9 2 = R9 at *
          generalize baseM (l, s0, w0, s1, w1, t) true = bb at *
          cases R9
          · have hn3 := Lib.hid (hno2 rfl)
            clear hno2 hyes2
            refine wp_region_invT (F := ?FR7) (V := VRr3 (.agg #[.int .i64 l, .int .i64 s0, .int .i64 s1, .bool w0, .bool w1, .int .i64 t]) 1 bb false) (dead := fun _ => none) (T := fun _ _ => True) (C := fun u' => Blk u' w.heap.size 33 #[.int .i64 l, .int .i64 s0, .int .i64 s1, .bool w0, .bool w1, .int .i64 t] ∧ Below w.heap.size w u') (E := fun _ _ _ => True) (by kernel_rfl) (by kernel_rfl) (by kernel_rfl) (fun x => ?hFR7) ?hmonoR7 ?hTmR7 ?hTR7 ?hCR7 ?stepR7 ?finR7
            case hFR7 => simp only [mkA, Act.put, List.setIfInBounds_toArray, List.set_cons_succ, List.set_cons_zero, Nat.reduceAdd, Nat.zero_add]; first | with_reducible rfl | rfl
            case hmonoR7 => exact fun k i v u u' he hik hwt hdd hv => by unfold VRr3 at hv ⊢; split at hv <;> exact hv
            case hTmR7 => exact fun _ _ _ _ _ _ _ _ => trivial
            case hTR7 => exact fun j => trivial
            case hCR7 => exact ⟨kb, bt hbw (below_drew _)⟩
            case stepR7 =>
              refine AllOps.cons (fun x u hC hT hp K hK => ?_) ?_
              · clear hp hT
                have ca0 := hC.1.cell 0
                have ca1 := hC.1.cell 1
                have ca2 := hC.1.cell 2
                have ca3 := hC.1.cell 3
                have ca4 := hC.1.cell 4
                have ca5 := hC.1.cell 5
                simp only [List.getElem?_toArray, List.getElem?_cons_zero, List.getElem?_cons_succ] at ca0 ca1 ca2 ca3 ca4 ca5
                go_simp
                refine hK _ _ _ hC trivial (by exact rfl) ?_
                first | (simp only [Act.put, List.setIfInBounds_toArray, List.set_cons_succ, List.set_cons_zero]; done) | simp [Act.put]
              refine AllOps.cons (fun x u hC hT hp K hK => ?_) ?_
              · clear hp hT
                go_simp
                refine hK _ _ _ hC trivial (by exact rfl) ?_
                first | (simp only [Act.put, List.setIfInBounds_toArray, List.set_cons_succ, List.set_cons_zero]; done) | simp [Act.put]
              refine AllOps.cons (fun x u hC hT hp K hK => ?_) ?_
              · simp [KnownTill, Region.binds, VRr3] at hp
                clear hT
                go_simp
                refine (hc9 u).mono ?_
                rintro e wA ⟨rfl, hbu⟩
                refine hK _ _ _ ⟨hC.1.below hbu hC.1.lt, bt hC.2 hbu⟩ trivial (by exact rfl) ?_
                first | (simp only [Act.put, List.setIfInBounds_toArray, List.set_cons_succ, List.set_cons_zero, hp]; done) | simp [Act.put, hp]
              refine AllOps.cons (fun x u hC hT hp K hK => ?_) ?_
              · simp [KnownTill, Region.binds, VRr3] at hp
                clear hT
                go_simp
                refine hK _ _ _ hC trivial (by exact rfl) ?_
                first | (simp only [Act.put, List.setIfInBounds_toArray, List.set_cons_succ, List.set_cons_zero, hp]; done) | simp [Act.put, hp]
              refine AllOps.cons (fun x u hC hT hp K hK => ?_) ?_
              · simp [KnownTill, Region.binds, VRr3] at hp
                clear hT
                have ca0 := hC.1.cell 0
                have ca1 := hC.1.cell 1
                have ca2 := hC.1.cell 2
                have ca3 := hC.1.cell 3
                have ca4 := hC.1.cell 4
                have ca5 := hC.1.cell 5
                simp only [List.getElem?_toArray, List.getElem?_cons_zero, List.getElem?_cons_succ] at ca0 ca1 ca2 ca3 ca4 ca5
                go_simp
                refine hK _ _ _ hC trivial (by exact rfl) ?_
                first | (simp only [Act.put, List.setIfInBounds_toArray, List.set_cons_succ, List.set_cons_zero, hp]; done) | simp [Act.put, hp]
              refine AllOps.cons (fun x u hC hT hp K hK => ?_) ?_
              · simp [KnownTill, Region.binds, VRr3] at hp
                clear hT
                go_simp
                refine hK _ _ _ hC trivial (by exact rfl) ?_
                first | (simp only [Act.put, List.setIfInBounds_toArray, List.set_cons_succ, List.set_cons_zero, hp]; done) | simp [Act.put, hp]
              refine AllOps.cons (fun x u hC hT hp K hK => ?_) ?_
              · simp [KnownTill, Region.binds, VRr3] at hp
                clear hT
                go_simp
                refine (hc10 u).mono ?_
                rintro e wA ⟨rfl, hbu⟩
                refine hK _ _ _ ⟨hC.1.below hbu hC.1.lt, bt hC.2 hbu⟩ trivial (by exact rfl) ?_
                first | (simp only [Act.put, List.setIfInBounds_toArray, List.set_cons_succ, List.set_cons_zero, hp]; done) | simp [Act.put, hp]
              refine AllOps.cons (fun x u hC hT hp K hK => ?_) ?_
              · simp [KnownTill, Region.binds, VRr3] at hp
                clear hT
                go_simp
                refine hK _ _ _ hC trivial (by exact rfl) ?_
                first | (simp only [Act.put, List.setIfInBounds_toArray, List.set_cons_succ, List.set_cons_zero, hp]; done) | simp [Act.put, hp]
              refine AllOps.cons (fun x u hC hT hp K hK => ?_) ?_
              · simp [KnownTill, Region.binds, VRr3] at hp
                clear hT
                go_simp
                refine hK _ _ _ hC trivial (by exact rfl) ?_
                first | (simp only [Act.put, List.setIfInBounds_toArray, List.set_cons_succ, List.set_cons_zero, hp]; done) | simp [Act.put, hp]
              refine AllOps.cons (fun x u hC hT hp K hK => ?_) ?_
              · simp [KnownTill, Region.binds, VRr3] at hp
                clear hT
                have ca0 := hC.1.cell 0
                have ca1 := hC.1.cell 1
                have ca2 := hC.1.cell 2
                have ca3 := hC.1.cell 3
                have ca4 := hC.1.cell 4
                have ca5 := hC.1.cell 5
                simp only [List.getElem?_toArray, List.getElem?_cons_zero, List.getElem?_cons_succ] at ca0 ca1 ca2 ca3 ca4 ca5
                go_simp
                refine hK _ _ _ hC trivial (by exact rfl) ?_
                first | (simp only [Act.put, List.setIfInBounds_toArray, List.set_cons_succ, List.set_cons_zero, hp]; done) | simp [Act.put, hp]
              refine AllOps.cons (fun x u hC hT hp K hK => ?_) ?_
              · simp [KnownTill, Region.binds, VRr3] at hp
                clear hT
                go_simp
                refine hK _ _ _ hC trivial (by exact rfl) ?_
                first | (simp only [Act.put, List.setIfInBounds_toArray, List.set_cons_succ, List.set_cons_zero, hp]; done) | simp [Act.put, hp]
              refine AllOps.cons (fun x u hC hT hp K hK => ?_) ?_
              · simp [KnownTill, Region.binds, VRr3] at hp
                clear hT
                have ca0 := hC.1.cell 0
                have ca1 := hC.1.cell 1
                have ca2 := hC.1.cell 2
                have ca3 := hC.1.cell 3
                have ca4 := hC.1.cell 4
                have ca5 := hC.1.cell 5
                simp only [List.getElem?_toArray, List.getElem?_cons_zero, List.getElem?_cons_succ] at ca0 ca1 ca2 ca3 ca4 ca5
                go_simp
                refine hK _ _ _ hC trivial (by exact rfl) ?_
                first | (simp only [Act.put, List.setIfInBounds_toArray, List.set_cons_succ, List.set_cons_zero, hp]; done) | simp [Act.put, hp]
              refine AllOps.cons (fun x u hC hT hp K hK => ?_) ?_
              · simp [KnownTill, Region.binds, VRr3] at hp
                clear hT
                go_simp
                refine hK _ _ _ hC trivial (by exact rfl) ?_
                first | (simp only [Act.put, List.setIfInBounds_toArray, List.set_cons_succ, List.set_cons_zero, hp]; done) | simp [Act.put, hp]
              refine AllOps.cons (fun x u hC hT hp K hK => ?_) ?_
              · simp [KnownTill, Region.binds, VRr3] at hp
                clear hT
                go_simp
                refine (hbb u).mono ?_
                rintro e wA ⟨rfl, hbu⟩
                refine hK _ _ _ ⟨hC.1.below hbu hC.1.lt, bt hC.2 hbu⟩ trivial (by exact rfl) ?_
                first | (simp only [Act.put, List.setIfInBounds_toArray, List.set_cons_succ, List.set_cons_zero, hp]; done) | simp [Act.put, hp]
              refine AllOps.cons (fun x u hC hT hp K hK => ?_) ?_
              · simp [KnownTill, Region.binds, VRr3] at hp
                clear hT
                go_simp
                refine (hc11 u).mono ?_
                rintro e wA ⟨rfl, hbu⟩
                refine hK _ _ _ ⟨hC.1.below hbu hC.1.lt, bt hC.2 hbu⟩ trivial (by exact rfl) ?_
                first | (simp only [Act.put, List.setIfInBounds_toArray, List.set_cons_succ, List.set_cons_zero, hp]; done) | simp [Act.put, hp]
              refine AllOps.cons (fun x u hC hT hp K hK => ?_) ?_
              · simp [KnownTill, Region.binds, VRr3] at hp
                clear hT
                go_simp
                refine hK _ _ _ hC trivial (by exact rfl) ?_
                first | (simp only [Act.put, List.setIfInBounds_toArray, List.set_cons_succ, List.set_cons_zero, hp]; done) | simp [Act.put, hp]
              exact AllOps.nil
            case finR7 =>
              intro x u hC hV
              have hz : x 15 = .bool false := hV 15 (by decide) rfl
              rw [hz]
              obtain ⟨kb, hbw⟩ := hC
              clear hV hz
              go_wp2_with fail
              go_roundw
              case rel => exact ⟨2, by decide, by go_num, Lib.hid ⟨fun _ => hrow.out.1 (by decide), fun _ => hn3.out⟩, kb, hbw⟩
              case measure => simp [intOf]
          · have hR := Lib.hid (hyes2 rfl)
            clear hno2 hyes2
            refine wp_region_invT (F := ?FR8) (V := VRr3 (.agg #[.int .i64 l, .int .i64 s0, .int .i64 s1, .bool w0, .bool w1, .int .i64 t]) 1 bb true) (dead := fun _ => none) (T := fun _ _ => True) (C := fun u' => Blk u' w.heap.size 33 #[.int .i64 l, .int .i64 s0, .int .i64 s1, .bool w0, .bool w1, .int .i64 t] ∧ Below w.heap.size w u') (E := fun _ _ _ => True) (by kernel_rfl) (by kernel_rfl) (by kernel_rfl) (fun x => ?hFR8) ?hmonoR8 ?hTmR8 ?hTR8 ?hCR8 ?stepR8 ?finR8
            case hFR8 => simp only [mkA, Act.put, List.setIfInBounds_toArray, List.set_cons_succ, List.set_cons_zero, Nat.reduceAdd, Nat.zero_add]; first | with_reducible rfl | rfl
            case hmonoR8 => exact fun k i v u u' he hik hwt hdd hv => by unfold VRr3 at hv ⊢; split at hv <;> exact hv
            case hTmR8 => exact fun _ _ _ _ _ _ _ _ => trivial
            case hTR8 => exact fun j => trivial
            case hCR8 => exact ⟨kb, bt hbw (below_drew _)⟩
            case stepR8 =>
              refine AllOps.cons (fun x u hC hT hp K hK => ?_) ?_
              · clear hp hT
                have ca0 := hC.1.cell 0
                have ca1 := hC.1.cell 1
                have ca2 := hC.1.cell 2
                have ca3 := hC.1.cell 3
                have ca4 := hC.1.cell 4
                have ca5 := hC.1.cell 5
                simp only [List.getElem?_toArray, List.getElem?_cons_zero, List.getElem?_cons_succ] at ca0 ca1 ca2 ca3 ca4 ca5
                go_simp
                refine hK _ _ _ hC trivial (by exact rfl) ?_
                first | (simp only [Act.put, List.setIfInBounds_toArray, List.set_cons_succ, List.set_cons_zero]; done) | simp [Act.put]
              refine AllOps.cons (fun x u hC hT hp K hK => ?_) ?_
              · clear hp hT
                go_simp
                refine hK _ _ _ hC trivial (by exact rfl) ?_
                first | (simp only [Act.put, List.setIfInBounds_toArray, List.set_cons_succ, List.set_cons_zero]; done) | simp [Act.put]
              refine AllOps.cons (fun x u hC hT hp K hK => ?_) ?_
              · simp [KnownTill, Region.binds, VRr3] at hp
                clear hT
                go_simp
                refine (hc9 u).mono ?_
                rintro e wA ⟨rfl, hbu⟩
                refine hK _ _ _ ⟨hC.1.below hbu hC.1.lt, bt hC.2 hbu⟩ trivial (by exact rfl) ?_
                first | (simp only [Act.put, List.setIfInBounds_toArray, List.set_cons_succ, List.set_cons_zero, hp]; done) | simp [Act.put, hp]
              refine AllOps.cons (fun x u hC hT hp K hK => ?_) ?_
              · simp [KnownTill, Region.binds, VRr3] at hp
                clear hT
                go_simp
                refine hK _ _ _ hC trivial (by exact rfl) ?_
                first | (simp only [Act.put, List.setIfInBounds_toArray, List.set_cons_succ, List.set_cons_zero, hp]; done) | simp [Act.put, hp]
              refine AllOps.cons (fun x u hC hT hp K hK => ?_) ?_
              · simp [KnownTill, Region.binds, VRr3] at hp
                clear hT
                have ca0 := hC.1.cell 0
                have ca1 := hC.1.cell 1
                have ca2 := hC.1.cell 2
                have ca3 := hC.1.cell 3
                have ca4 := hC.1.cell 4
                have ca5 := hC.1.cell 5
                simp only [List.getElem?_toArray, List.getElem?_cons_zero, List.getElem?_cons_succ] at ca0 ca1 ca2 ca3 ca4 ca5
                go_simp
                refine hK _ _ _ hC trivial (by exact rfl) ?_
                first | (simp only [Act.put, List.setIfInBounds_toArray, List.set_cons_succ, List.set_cons_zero, hp]; done) | simp [Act.put, hp]
              refine AllOps.cons (fun x u hC hT hp K hK => ?_) ?_
              · simp [KnownTill, Region.binds, VRr3] at hp
                clear hT
                go_simp
                refine hK _ _ _ hC trivial (by exact rfl) ?_
                first | (simp only [Act.put, List.setIfInBounds_toArray, List.set_cons_succ, List.set_cons_zero, hp]; done) | simp [Act.put, hp]
              refine AllOps.cons (fun x u hC hT hp K hK => ?_) ?_
              · simp [KnownTill, Region.binds, VRr3] at hp
                clear hT
                go_simp
                refine (hc10 u).mono ?_
                rintro e wA ⟨rfl, hbu⟩
                refine hK _ _ _ ⟨hC.1.below hbu hC.1.lt, bt hC.2 hbu⟩ trivial (by exact rfl) ?_
                first | (simp only [Act.put, List.setIfInBounds_toArray, List.set_cons_succ, List.set_cons_zero, hp]; done) | simp [Act.put, hp]
              refine AllOps.cons (fun x u hC hT hp K hK => ?_) ?_
              · simp [KnownTill, Region.binds, VRr3] at hp
                clear hT
                go_simp
                refine hK _ _ _ hC trivial (by exact rfl) ?_
                first | (simp only [Act.put, List.setIfInBounds_toArray, List.set_cons_succ, List.set_cons_zero, hp]; done) | simp [Act.put, hp]
              refine AllOps.cons (fun x u hC hT hp K hK => ?_) ?_
              · simp [KnownTill, Region.binds, VRr3] at hp
                clear hT
                go_simp
                refine hK _ _ _ hC trivial (by exact rfl) ?_
                first | (simp only [Act.put, List.setIfInBounds_toArray, List.set_cons_succ, List.set_cons_zero, hp]; done) | simp [Act.put, hp]
              refine AllOps.cons (fun x u hC hT hp K hK => ?_) ?_
              · simp [KnownTill, Region.binds, VRr3] at hp
                clear hT
                have ca0 := hC.1.cell 0
                have ca1 := hC.1.cell 1
                have ca2 := hC.1.cell 2
                have ca3 := hC.1.cell 3
                have ca4 := hC.1.cell 4
                have ca5 := hC.1.cell 5
                simp only [List.getElem?_toArray, List.getElem?_cons_zero, List.getElem?_cons_succ] at ca0 ca1 ca2 ca3 ca4 ca5
                go_simp
                refine hK _ _ _ hC trivial (by exact rfl) ?_
                first | (simp only [Act.put, List.setIfInBounds_toArray, List.set_cons_succ, List.set_cons_zero, hp]; done) | simp [Act.put, hp]
              refine AllOps.cons (fun x u hC hT hp K hK => ?_) ?_
              · simp [KnownTill, Region.binds, VRr3] at hp
                clear hT
                go_simp
                refine hK _ _ _ hC trivial (by exact rfl) ?_
                first | (simp only [Act.put, List.setIfInBounds_toArray, List.set_cons_succ, List.set_cons_zero, hp]; done) | simp [Act.put, hp]
              refine AllOps.cons (fun x u hC hT hp K hK => ?_) ?_
              · simp [KnownTill, Region.binds, VRr3] at hp
                clear hT
                have ca0 := hC.1.cell 0
                have ca1 := hC.1.cell 1
                have ca2 := hC.1.cell 2
                have ca3 := hC.1.cell 3
                have ca4 := hC.1.cell 4
                have ca5 := hC.1.cell 5
                simp only [List.getElem?_toArray, List.getElem?_cons_zero, List.getElem?_cons_succ] at ca0 ca1 ca2 ca3 ca4 ca5
                go_simp
                refine hK _ _ _ hC trivial (by exact rfl) ?_
                first | (simp only [Act.put, List.setIfInBounds_toArray, List.set_cons_succ, List.set_cons_zero, hp]; done) | simp [Act.put, hp]
              refine AllOps.cons (fun x u hC hT hp K hK => ?_) ?_
              · simp [KnownTill, Region.binds, VRr3] at hp
                clear hT
                go_simp
                refine hK _ _ _ hC trivial (by exact rfl) ?_
                first | (simp only [Act.put, List.setIfInBounds_toArray, List.set_cons_succ, List.set_cons_zero, hp]; done) | simp [Act.put, hp]
              refine AllOps.cons (fun x u hC hT hp K hK => ?_) ?_
              · simp [KnownTill, Region.binds, VRr3] at hp
                clear hT
                go_simp
                refine (hbb u).mono ?_
                rintro e wA ⟨rfl, hbu⟩
                refine hK _ _ _ ⟨hC.1.below hbu hC.1.lt, bt hC.2 hbu⟩ trivial (by exact rfl) ?_
                first | (simp only [Act.put, List.setIfInBounds_toArray, List.set_cons_succ, List.set_cons_zero, hp]; done) | simp [Act.put, hp]
              refine AllOps.cons (fun x u hC hT hp K hK => ?_) ?_
              · simp [KnownTill, Region.binds, VRr3] at hp
                clear hT
                go_simp
                refine (hc11 u).mono ?_
                rintro e wA ⟨rfl, hbu⟩
                refine hK _ _ _ ⟨hC.1.below hbu hC.1.lt, bt hC.2 hbu⟩ trivial (by exact rfl) ?_
                first | (simp only [Act.put, List.setIfInBounds_toArray, List.set_cons_succ, List.set_cons_zero, hp]; done) | simp [Act.put, hp]
              refine AllOps.cons (fun x u hC hT hp K hK => ?_) ?_
              · simp [KnownTill, Region.binds, VRr3] at hp
                clear hT
                go_simp
                refine hK _ _ _ hC trivial (by exact rfl) ?_
                first | (simp only [Act.put, List.setIfInBounds_toArray, List.set_cons_succ, List.set_cons_zero, hp]; done) | simp [Act.put, hp]
              exact AllOps.nil
            case finR8 =>
              intro x u hC hV
              have hz : x 15 = .bool true := hV 15 (by decide) rfl
              rw [hz]
              have hbz := hC.2
              clear hV hC hz
              go_wp2
              go_ret
              exact ⟨by rw [hR.out]; rfl, hbz⟩
    · have hR : Hid (R = false) := Lib.hid (by rw [HR.out, hrow.out.1 (by decide), hrow.out.2 (by decide)]; rfl)
      clear hrow
      go_wp2
      go_ret
      exact ⟨by rw [hR.out]; rfl, hbw⟩
end Go.Proofs.YtfhfbekphmnbgaaDoor
