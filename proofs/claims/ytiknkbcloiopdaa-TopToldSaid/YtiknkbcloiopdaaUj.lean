/- Through the layers: a tree that is told. -/
import Derived.Test.YtiknkbcloiopdaaUi
namespace Go.Proofs.Ytiknkbcloiopdaa
open Go.RowKit
set_option linter.unusedVariables false
set_option linter.unusedSimpArgs false

set_option maxRecDepth 100000 in
set_option maxHeartbeats 4000000 in
theorem topTold_walk (o : NodeV) (A : Option Addr) (l : List UInt8) (c : Nat) (w : World) (ho : NodeOk w o) (hbs : Bs w w.heap.size A l) (hl : l.length ≤ maxLen) : Calls Try.prog 3 #[o.val, .slice A l.length c] w fun e w' => e = .returned (.bool true) ∧ Below w.heap.size w w' := by
  obtain ⟨v, At, k, ct⟩ := o
  obtain ⟨_, _, ht⟩ := ho
  show Calls Try.prog _ #[.agg #[.int .i64 v, .slice At k.len ct], .slice A l.length c] w _
  obtain ⟨m, hm⟩ : ∃ m, m = k.len := ⟨_, rfl⟩
  obtain ⟨n, hn⟩ : ∃ n, n = l.length := ⟨_, rfl⟩
  rw [← hm, ← hn]
  have Hm := Lib.hid hm
  have Hn := Lib.hid hn
  clear hm hn hl
  obtain ⟨W1, hW1⟩ : ∃ W1, W1 = w.alloc (.cells #[.int .i64 v, .slice At m ct] 24) := ⟨_, rfl⟩
  have k1 : Blk W1 w.heap.size 24 #[.int .i64 v, .slice At m ct] := by rw [hW1]; exact Blk.new _ _ _
  have b1 : Below w.heap.size w W1 := by rw [hW1]; exact ba _ _
  have ht1 := ht.bt b1
  have c0 := k1.cell 0
  have c1 := k1.cell 1
  simp only [List.getElem?_toArray, List.getElem?_cons_zero, List.getElem?_cons_succ] at c0 c1
  have HW1 := Lib.hid hW1
  have HT := Lib.hid (And.intro ht1 (And.intro k1 (And.intro b1 hbs)))
  rw [hW1] at c0 c1
  clear hW1 ht1 k1 b1 hbs ht
  rcases hr : rightB v k with _ | _
  · have hc := commits_no v At k m ct Hm W1 HT.out.1 hr
    have HC := Lib.hid hc
    have HR := Lib.hid hr
    clear hc hr
    go_enter Try.func3, Try.ntmps3
    go_wp2_with fail
    rw [← HW1.out]
    refine HC.out.mono ?_
    rintro e w2 ⟨rfl, b2⟩
    clear c0 c1
    have k2 := HT.out.2.1.below b2 HT.out.2.1.lt
    have c0 := k2.cell 0
    have c1 := k2.cell 1
    simp only [List.getElem?_toArray, List.getElem?_cons_zero, List.getElem?_cons_succ] at c0 c1
    have HD := Lib.hid (told_no v At k m ct Hm w2 (HT.out.1.bt b2) HR.out)
    have HB := Lib.hid b2
    clear k2 b2
    go_wp2_with fail
    refine HD.out.mono ?_
    rintro e w3 ⟨rfl, b3⟩
    go_wp2_with fail
    refine (alive09_any _).mono ?_
    rintro e w4 ⟨rfl, b4⟩
    have HF := Lib.hid (bt (bt (bt HT.out.2.2.1 HB.out) b3) b4)
    clear b3 b4
    go_wp2
    go_ret
    exact ⟨rfl, HF.out⟩
  obtain ⟨b, hb⟩ : ∃ b, (saysB v k != 3) = b := ⟨_, rfl⟩
  have hc := commits_ok v At k m ct Hm W1 HT.out.1 hr b hb
  have HC := Lib.hid hc
  have HR := Lib.hid hr
  clear hc hr hb
  go_enter Try.func3, Try.ntmps3
  go_wp2_with fail
  rw [← HW1.out]
  refine HC.out.mono ?_
  rintro e w2 ⟨rfl, b2⟩
  clear c0 c1
  have k2 := HT.out.2.1.below b2 HT.out.2.1.lt
  have c0 := k2.cell 0
  have c1 := k2.cell 1
  simp only [List.getElem?_toArray, List.getElem?_cons_zero, List.getElem?_cons_succ] at c0 c1
  have hd := told_ok v At k m ct Hm w2 (HT.out.1.bt b2) HR.out
  obtain ⟨n2, hn2⟩ : ∃ n2, n2 = (kidsM v k).2.length := ⟨_, rfl⟩
  have hn64 : n2 ≤ 64 := by rw [hn2]; have h1 := kfold_le (nodesL 1 (.cons v k .nil)); have h2 := right_cnt HR.out; rw [nodes_len] at h1; unfold kidsM; omega
  rw [← hn2] at hd
  have HD := Lib.hid hd
  have HB := Lib.hid b2
  clear k2 b2 hd hn2
  go_wp2_with fail
  refine HD.out.mono ?_
  rintro e w3 ⟨⟨A2, c2, rfl, _⟩, b3⟩
  have HF := Lib.hid (bt (bt HT.out.2.2.1 HB.out) b3)
  have hh : ∀ (hp : 0 < l.length), ∃ b o, A = some ⟨b, o, none⟩ ∧ b < w.heap.size ∧ ∀ i, (h : i < l.length) → w3.cell? ⟨b, o + i, none⟩ = some (.int .u8 ((l[i]'h).toNat : Int)) := fun hp => by
    obtain ⟨b, o, e, hlt, hc⟩ := HT.out.2.2.2 hp
    exact ⟨b, o, e, hlt, fun i hi => (HF.out.cell (p := ⟨b, o + i, none⟩) hlt).trans (hc i hi)⟩
  have HH := Lib.hid hh
  clear c0 c1 b3 hh
  cases b
  · go_wp2_with fail
    go_loopw [10] (fun i wr => ∃ i0 : Nat, i0 ≤ n2 ∧ i = .int .i64 i0 ∧ wr = w3) (fun i _ => n2 - (intOf i).toNat)
    case atStart => exact ⟨0, Nat.zero_le _, rfl, rfl⟩
    case round =>
      obtain ⟨i0, him, rfl, rfl⟩ := hrel
      by_cases hi0 : i0 < n2
      · have hiI : (i0 : Int) < (n2 : Int) := by omega
        by_cases hin : i0 < n
        · have hinI : (i0 : Int) < (n : Int) := by omega
          obtain ⟨b, o, rfl, hlt, hcell⟩ := HH.out (by rw [← Hn.out]; omega)
          have cc := hcell i0 (by rw [← Hn.out]; exact hin)
          obtain ⟨x, hx⟩ : ∃ x, x = (l[i0]'(by rw [← Hn.out]; exact hin)).toNat := ⟨_, rfl⟩
          rw [← hx] at cc
          clear hcell hx
          obtain hx3 | hx3 | hx3 : x % 3 = 0 ∨ x % 3 = 1 ∨ x % 3 = 2 := by omega
          · have hm : (x : Int) % 3 = 0 := by omega
            have hm2 : Int.tmod (x : Int) 3 = 0 := by rw [Int.tmod_eq_emod_of_nonneg (by omega)]; exact hm
            go_wp2_with fail
            refine (learn_any 3 5 5 false 0 rfl _).mono ?_
            rintro e w9 ⟨rfl, rfl⟩
            go_wp2
            go_roundw
            case rel => exact ⟨i0 + 1, by omega, by go_num, trivial⟩
            case measure => simp [intOf]; omega
          · have hm : (x : Int) % 3 = 1 := by omega
            have hm2 : Int.tmod (x : Int) 3 = 1 := by rw [Int.tmod_eq_emod_of_nonneg (by omega)]; exact hm
            go_wp2_with fail
            refine (decide_any 3 true 6 0 rfl _).mono ?_
            rintro e w9 ⟨rfl, rfl⟩
            go_wp2_with fail
            refine (learn_any 6 5 4 true 0 rfl _).mono ?_
            rintro e w9 ⟨rfl, rfl⟩
            go_wp2
            go_roundw
            case rel => exact ⟨i0 + 1, by omega, by go_num, trivial⟩
            case measure => simp [intOf]; omega
          · have hm : (x : Int) % 3 = 2 := by omega
            have hm2 : Int.tmod (x : Int) 3 = 2 := by rw [Int.tmod_eq_emod_of_nonneg (by omega)]; exact hm
            go_wp2_with fail
            refine (decide_any 3 false 7 0 rfl _).mono ?_
            rintro e w9 ⟨rfl, rfl⟩
            go_wp2_with fail
            refine (learn_any 7 5 5 false 0 rfl _).mono ?_
            rintro e w9 ⟨rfl, rfl⟩
            go_wp2
            go_roundw
            case rel => exact ⟨i0 + 1, by omega, by go_num, trivial⟩
            case measure => simp [intOf]; omega
        · have hinI : ¬ (i0 : Int) < (n : Int) := by omega
          go_wp2_with fail
          refine (learn_any 3 5 5 false 0 rfl _).mono ?_
          rintro e w9 ⟨rfl, rfl⟩
          go_wp2
          go_roundw
          case rel => exact ⟨i0 + 1, by omega, by go_num, trivial⟩
          case measure => simp [intOf]; omega
      · obtain rfl : i0 = n2 := by omega
        have hiI : ¬ (i0 : Int) < (i0 : Int) := by omega
        go_wp2_with fail
        refine (alive09_any _).mono ?_
        rintro e w8 ⟨rfl, b8⟩
        go_wp2
        go_ret
        exact ⟨rfl, bt HF.out b8⟩
  · go_wp2_with fail
    go_loopw [10] (fun i wr => ∃ i0 : Nat, i0 ≤ n2 ∧ i = .int .i64 i0 ∧ wr = w3) (fun i _ => n2 - (intOf i).toNat)
    case atStart => exact ⟨0, Nat.zero_le _, rfl, rfl⟩
    case round =>
      obtain ⟨i0, him, rfl, rfl⟩ := hrel
      by_cases hi0 : i0 < n2
      · have hiI : (i0 : Int) < (n2 : Int) := by omega
        by_cases hin : i0 < n
        · have hinI : (i0 : Int) < (n : Int) := by omega
          obtain ⟨b, o, rfl, hlt, hcell⟩ := HH.out (by rw [← Hn.out]; omega)
          have cc := hcell i0 (by rw [← Hn.out]; exact hin)
          obtain ⟨x, hx⟩ : ∃ x, x = (l[i0]'(by rw [← Hn.out]; exact hin)).toNat := ⟨_, rfl⟩
          rw [← hx] at cc
          clear hcell hx
          obtain hx3 | hx3 | hx3 : x % 3 = 0 ∨ x % 3 = 1 ∨ x % 3 = 2 := by omega
          · have hm : (x : Int) % 3 = 0 := by omega
            have hm2 : Int.tmod (x : Int) 3 = 0 := by rw [Int.tmod_eq_emod_of_nonneg (by omega)]; exact hm
            go_wp2_with fail
            refine (learn_any 3 4 4 false 0 rfl _).mono ?_
            rintro e w9 ⟨rfl, rfl⟩
            go_wp2
            go_roundw
            case rel => exact ⟨i0 + 1, by omega, by go_num, trivial⟩
            case measure => simp [intOf]; omega
          · have hm : (x : Int) % 3 = 1 := by omega
            have hm2 : Int.tmod (x : Int) 3 = 1 := by rw [Int.tmod_eq_emod_of_nonneg (by omega)]; exact hm
            go_wp2_with fail
            refine (decide_any 3 true 6 0 rfl _).mono ?_
            rintro e w9 ⟨rfl, rfl⟩
            go_wp2_with fail
            refine (learn_any 6 4 4 false 0 rfl _).mono ?_
            rintro e w9 ⟨rfl, rfl⟩
            go_wp2
            go_roundw
            case rel => exact ⟨i0 + 1, by omega, by go_num, trivial⟩
            case measure => simp [intOf]; omega
          · have hm : (x : Int) % 3 = 2 := by omega
            have hm2 : Int.tmod (x : Int) 3 = 2 := by rw [Int.tmod_eq_emod_of_nonneg (by omega)]; exact hm
            go_wp2_with fail
            refine (decide_any 3 false 7 0 rfl _).mono ?_
            rintro e w9 ⟨rfl, rfl⟩
            go_wp2_with fail
            refine (learn_any 7 4 5 true 0 rfl _).mono ?_
            rintro e w9 ⟨rfl, rfl⟩
            go_wp2
            go_roundw
            case rel => exact ⟨i0 + 1, by omega, by go_num, trivial⟩
            case measure => simp [intOf]; omega
        · have hinI : ¬ (i0 : Int) < (n : Int) := by omega
          go_wp2_with fail
          refine (learn_any 3 4 4 false 0 rfl _).mono ?_
          rintro e w9 ⟨rfl, rfl⟩
          go_wp2
          go_roundw
          case rel => exact ⟨i0 + 1, by omega, by go_num, trivial⟩
          case measure => simp [intOf]; omega
      · obtain rfl : i0 = n2 := by omega
        have hiI : ¬ (i0 : Int) < (i0 : Int) := by omega
        go_wp2_with fail
        refine (alive09_any _).mono ?_
        rintro e w8 ⟨rfl, b8⟩
        go_wp2
        go_ret
        exact ⟨rfl, bt HF.out b8⟩
end Go.Proofs.Ytiknkbcloiopdaa
