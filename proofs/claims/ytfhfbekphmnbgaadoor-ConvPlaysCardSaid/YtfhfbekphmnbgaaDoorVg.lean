/- Layer 10: which verb may be said. -/
import Derived.Test.YtfhfbekphmnbgaaDoorVb
namespace Go.Proofs.YtfhfbekphmnbgaaDoor
open Go.RowKit
set_option linter.unusedVariables false
set_option linter.unusedSimpArgs false

def iv (L : List Int) : List Value := L.map fun x => .int .i64 x

set_option maxHeartbeats 800000 in
theorem index_any (L : List Int) (b c n : Nat) (s : Int) (w : World) (hn : Hid (n = L.length)) (hm : n ≤ 1000) (h : Hid (∀ i, (hi : i < L.length) → w.cell? ⟨b, i, none⟩ = some (.int .i64 L[i]))) : Calls Tryd.prog 39 #[.slice (some ⟨b, 0, none⟩) n c, .int .i64 s] w fun e w' => ∃ r : Int, e = .returned (.int .i64 r) ∧ decide (0 ≤ r) = L.contains s ∧ w = w' := by
  go_enter Tryd.func39, Tryd.ntmps39
  go_wp2
  go_loopw [8] (fun i wr => ∃ q : Nat, q ≤ n ∧ i = .int .i64 q ∧ Hid (∀ j (hj : j < L.length), j < q → L[j] ≠ s) ∧ wr = w) (fun i _ => n - (intOf i).toNat)
  case atStart => exact ⟨0, Nat.zero_le _, rfl, Lib.hid (fun j _ hj => absurd hj (by omega)), rfl⟩
  case round =>
    obtain ⟨q, hq, rfl, hbq, rfl⟩ := hrel
    by_cases hql : q < n
    · have hqk : q < L.length := by rw [← hn.out]; exact hql
      have hqI : (q : Int) < (n : Int) := by omega
      have cq := h.out q hqk
      by_cases he : L[q] = s
      · have g : (s == L[q]) = true := by simp [he]
        have hin : L.contains s = true := by
          have hmem : s ∈ L := he ▸ List.getElem_mem hqk
          simpa using hmem
        have HE := Lib.hid he
        clear he
        go_wp2
        go_ret
        exact ⟨(q : Int), rfl, by rw [hin]; simp, rfl⟩
      · have g : (s == L[q]) = false := by simpa using fun e => he e.symm
        have HE := Lib.hid he
        clear he
        go_wp2
        go_roundw
        case rel => exact ⟨q + 1, by omega, by go_num, Lib.hid (fun j hj hj2 => by
          rcases Nat.lt_or_ge j q with h1 | h1
          · exact hbq.out j hj h1
          · obtain rfl : j = q := by omega
            exact HE.out), by trivial⟩
        case measure => simp [intOf]; omega
    · obtain rfl : q = n := by omega
      have hout : L.contains s = false := by
        rw [Bool.eq_false_iff]
        intro hc
        have hmem : s ∈ L := by simpa using hc
        obtain ⟨j, hj, he⟩ := List.getElem_of_mem hmem
        exact hbq.out j hj (by have := hn.out; omega) he
      go_wp2
      go_ret
      exact ⟨-1, rfl, by rw [hout]; simp, rfl⟩
theorem contains_any (L : List Int) (b c n : Nat) (s : Int) (w : World) (hn : Hid (n = L.length)) (hm : n ≤ 1000) (h : Hid (∀ i, (hi : i < L.length) → w.cell? ⟨b, i, none⟩ = some (.int .i64 L[i]))) : Calls Tryd.prog 38 #[.slice (some ⟨b, 0, none⟩) n c, .int .i64 s] w fun e w' => e = .returned (.bool (L.contains s)) ∧ w = w' := by
  have hi := index_any L b c n s w hn hm h
  generalize L.contains s = R at *
  go_enter Tryd.func38, Tryd.ntmps38
  go_wp2_with fail
  refine hi.mono ?_
  rintro e wA ⟨r, rfl, hr, rfl⟩
  cases R
  all_goals
    go_wp2
    go_ret
    exact ⟨rfl, rfl⟩
theorem isOne_any (L : List Int) (b c n : Nat) (s : Int) (w : World) (hn : Hid (n = L.length)) (hm : n ≤ 1000) (h : Hid (∀ i, (hi : i < L.length) → w.cell? ⟨b, i, none⟩ = some (.int .i64 L[i]))) : Calls Tryd.prog 32 #[.int .i64 s, .slice (some ⟨b, 0, none⟩) n c] w fun e w' => e = .returned (.bool (L.contains s)) ∧ w = w' := by
  have hi := contains_any L b c n s w hn hm h
  generalize L.contains s = R at *
  go_enter Tryd.func32, Tryd.ntmps32
  go_wp2_with fail
  refine hi.mono ?_
  rintro e wA ⟨rfl, rfl⟩
  go_wp2
  go_ret
  exact ⟨rfl, rfl⟩
/-- The same, for a list that was just laid down. -/
theorem isOne_new (L : List Int) (c n : Nat) (s : Int) (w : World) (t : TypeId) (hn : n = L.length) (hm : n ≤ 1000) : Calls Tryd.prog 32 #[.int .i64 s, .slice (some ⟨w.heap.size, 0, none⟩) n c] (w.alloc (.cells (iv L).toArray t)) fun e w' => e = .returned (.bool (L.contains s)) ∧ w.alloc (.cells (iv L).toArray t) = w' :=
  isOne_any L _ c n s _ (Lib.hid hn) hm (Lib.hid fun i hi => by
    rw [(Blk.new w t (iv L).toArray).cell i]
    simp [iv, hi])

def mayM (v s l : Int) : Bool :=
  if v = 11 ∨ v = 12 then !decide (l < 2) && (!decide (l < 1) && s == 1)
  else if v = 3 ∨ v = 4 ∨ v = 5 then !decide (l < 1) && s == 1
  else if v = 1 ∨ v = 2 then s == 1
  else if v = 8 then s == 1 && decide (l < 2)
  else if v = 6 then ([3, 4, 5] : List Int).contains s
  else if v = 10 then l == 2 && ([1, 10, 11, 6, 7, 8] : List Int).contains s
  else if v = 7 then !([10, 11, 9, 12] : List Int).contains s
  else if v = 13 then !decide (l < 2) && s != 12
  else if v = 9 then s != 12
  else false
section
variable (s l : Int) (w : World)
set_option maxHeartbeats 1000000 in
theorem may_11 : Calls Tryd.prog 26 #[.int .i64 11, .int .i64 s, .int .i64 l] w fun e w' => e = .returned (.bool (mayM 11 s l)) ∧ Below w.heap.size w w' := by
  have hm : mayM 11 s l = (!decide (l < 2) && (!decide (l < 1) && s == 1)) := rfl
  rw [hm]
  clear hm
  rcases h2 : decide (l < 2) with _ | _
  · rcases h1 : decide (l < 1) with _ | _
    · rcases h3 : (s == 1) with _ | _
      all_goals
        go_enter Tryd.func26, Tryd.ntmps26
        go_wp2
        go_ret
        exact ⟨rfl, Below.refl _ _⟩
    · exfalso
      have a := of_decide_eq_false h2
      have b := of_decide_eq_true h1
      omega
  · go_enter Tryd.func26, Tryd.ntmps26
    go_wp2
    go_ret
    exact ⟨rfl, Below.refl _ _⟩
set_option maxHeartbeats 1000000 in
theorem may_12 : Calls Tryd.prog 26 #[.int .i64 12, .int .i64 s, .int .i64 l] w fun e w' => e = .returned (.bool (mayM 12 s l)) ∧ Below w.heap.size w w' := by
  have hm : mayM 12 s l = (!decide (l < 2) && (!decide (l < 1) && s == 1)) := rfl
  rw [hm]
  clear hm
  rcases h2 : decide (l < 2) with _ | _
  · rcases h1 : decide (l < 1) with _ | _
    · rcases h3 : (s == 1) with _ | _
      all_goals
        go_enter Tryd.func26, Tryd.ntmps26
        go_wp2
        go_ret
        exact ⟨rfl, Below.refl _ _⟩
    · exfalso
      have a := of_decide_eq_false h2
      have b := of_decide_eq_true h1
      omega
  · go_enter Tryd.func26, Tryd.ntmps26
    go_wp2
    go_ret
    exact ⟨rfl, Below.refl _ _⟩
set_option maxHeartbeats 1000000 in
theorem may_3 : Calls Tryd.prog 26 #[.int .i64 3, .int .i64 s, .int .i64 l] w fun e w' => e = .returned (.bool (mayM 3 s l)) ∧ Below w.heap.size w w' := by
  have hm : mayM 3 s l = (!decide (l < 1) && s == 1) := rfl
  rw [hm]
  clear hm
  rcases h1 : decide (l < 1) with _ | _
  · rcases h3 : (s == 1) with _ | _
    all_goals
      go_enter Tryd.func26, Tryd.ntmps26
      go_wp2
      go_ret
      exact ⟨rfl, Below.refl _ _⟩
  · go_enter Tryd.func26, Tryd.ntmps26
    go_wp2
    go_ret
    exact ⟨rfl, Below.refl _ _⟩
set_option maxHeartbeats 1000000 in
theorem may_4 : Calls Tryd.prog 26 #[.int .i64 4, .int .i64 s, .int .i64 l] w fun e w' => e = .returned (.bool (mayM 4 s l)) ∧ Below w.heap.size w w' := by
  have hm : mayM 4 s l = (!decide (l < 1) && s == 1) := rfl
  rw [hm]
  clear hm
  rcases h1 : decide (l < 1) with _ | _
  · rcases h3 : (s == 1) with _ | _
    all_goals
      go_enter Tryd.func26, Tryd.ntmps26
      go_wp2
      go_ret
      exact ⟨rfl, Below.refl _ _⟩
  · go_enter Tryd.func26, Tryd.ntmps26
    go_wp2
    go_ret
    exact ⟨rfl, Below.refl _ _⟩
set_option maxHeartbeats 1000000 in
theorem may_5 : Calls Tryd.prog 26 #[.int .i64 5, .int .i64 s, .int .i64 l] w fun e w' => e = .returned (.bool (mayM 5 s l)) ∧ Below w.heap.size w w' := by
  have hm : mayM 5 s l = (!decide (l < 1) && s == 1) := rfl
  rw [hm]
  clear hm
  rcases h1 : decide (l < 1) with _ | _
  · rcases h3 : (s == 1) with _ | _
    all_goals
      go_enter Tryd.func26, Tryd.ntmps26
      go_wp2
      go_ret
      exact ⟨rfl, Below.refl _ _⟩
  · go_enter Tryd.func26, Tryd.ntmps26
    go_wp2
    go_ret
    exact ⟨rfl, Below.refl _ _⟩
set_option maxHeartbeats 1000000 in
theorem may_1 : Calls Tryd.prog 26 #[.int .i64 1, .int .i64 s, .int .i64 l] w fun e w' => e = .returned (.bool (mayM 1 s l)) ∧ Below w.heap.size w w' := by
  have hm : mayM 1 s l = (s == 1) := rfl
  rw [hm]
  clear hm
  rcases h3 : (s == 1) with _ | _
  all_goals
    go_enter Tryd.func26, Tryd.ntmps26
    go_wp2
    go_ret
    exact ⟨rfl, Below.refl _ _⟩
set_option maxHeartbeats 1000000 in
theorem may_2 : Calls Tryd.prog 26 #[.int .i64 2, .int .i64 s, .int .i64 l] w fun e w' => e = .returned (.bool (mayM 2 s l)) ∧ Below w.heap.size w w' := by
  have hm : mayM 2 s l = (s == 1) := rfl
  rw [hm]
  clear hm
  rcases h3 : (s == 1) with _ | _
  all_goals
    go_enter Tryd.func26, Tryd.ntmps26
    go_wp2
    go_ret
    exact ⟨rfl, Below.refl _ _⟩
set_option maxHeartbeats 1000000 in
theorem may_8 : Calls Tryd.prog 26 #[.int .i64 8, .int .i64 s, .int .i64 l] w fun e w' => e = .returned (.bool (mayM 8 s l)) ∧ Below w.heap.size w w' := by
  have hm : mayM 8 s l = (s == 1 && decide (l < 2)) := rfl
  rw [hm]
  clear hm
  rcases h3 : (s == 1) with _ | _
  · go_enter Tryd.func26, Tryd.ntmps26
    go_wp2
    go_ret
    exact ⟨rfl, Below.refl _ _⟩
  · rcases h1 : decide (l < 2) with _ | _
    all_goals
      go_enter Tryd.func26, Tryd.ntmps26
      go_wp2
      go_ret
      exact ⟨rfl, Below.refl _ _⟩
set_option maxHeartbeats 1000000 in
theorem may_6 : Calls Tryd.prog 26 #[.int .i64 6, .int .i64 s, .int .i64 l] w fun e w' => e = .returned (.bool (mayM 6 s l)) ∧ Below w.heap.size w w' := by
  have hm : mayM 6 s l = ([3, 4, 5] : List Int).contains s := rfl
  rw [hm]
  clear hm
  have hc : ∀ w : World, Calls Tryd.prog 32 #[.int .i64 s, .slice (some ⟨w.heap.size, 0, none⟩) 3 3] (w.alloc (.cells #[.int .i64 3, .int .i64 4, .int .i64 5] 3)) fun e w' => e = .returned (.bool (([3, 4, 5] : List Int).contains s)) ∧ w.alloc (.cells #[.int .i64 3, .int .i64 4, .int .i64 5] 3) = w' := fun w => isOne_new [3, 4, 5] 3 3 s w 3 rfl (by decide)
  generalize ([3, 4, 5] : List Int).contains s = R at *
  go_enter Tryd.func26, Tryd.ntmps26
  go_wp2_with fail
  refine (hc _).mono ?_
  rintro e wA ⟨rfl, rfl⟩
  go_wp2
  go_ret
  exact ⟨rfl, ba _ _⟩
set_option maxHeartbeats 1000000 in
theorem may_7 : Calls Tryd.prog 26 #[.int .i64 7, .int .i64 s, .int .i64 l] w fun e w' => e = .returned (.bool (mayM 7 s l)) ∧ Below w.heap.size w w' := by
  have hm : mayM 7 s l = (!([10, 11, 9, 12] : List Int).contains s) := rfl
  rw [hm]
  clear hm
  have hc : ∀ w : World, Calls Tryd.prog 32 #[.int .i64 s, .slice (some ⟨w.heap.size, 0, none⟩) 4 4] (w.alloc (.cells #[.int .i64 10, .int .i64 11, .int .i64 9, .int .i64 12] 3)) fun e w' => e = .returned (.bool (([10, 11, 9, 12] : List Int).contains s)) ∧ w.alloc (.cells #[.int .i64 10, .int .i64 11, .int .i64 9, .int .i64 12] 3) = w' := fun w => isOne_new [10, 11, 9, 12] 4 4 s w 3 rfl (by decide)
  generalize ([10, 11, 9, 12] : List Int).contains s = R at *
  go_enter Tryd.func26, Tryd.ntmps26
  go_wp2_with fail
  refine (hc _).mono ?_
  rintro e wA ⟨rfl, rfl⟩
  go_wp2
  go_ret
  exact ⟨rfl, ba _ _⟩
set_option maxHeartbeats 1000000 in
theorem may_10 : Calls Tryd.prog 26 #[.int .i64 10, .int .i64 s, .int .i64 l] w fun e w' => e = .returned (.bool (mayM 10 s l)) ∧ Below w.heap.size w w' := by
  have hm : mayM 10 s l = (l == 2 && ([1, 10, 11, 6, 7, 8] : List Int).contains s) := rfl
  rw [hm]
  clear hm
  have hc : ∀ w : World, Calls Tryd.prog 32 #[.int .i64 s, .slice (some ⟨w.heap.size, 0, none⟩) 6 6] (w.alloc (.cells #[.int .i64 1, .int .i64 10, .int .i64 11, .int .i64 6, .int .i64 7, .int .i64 8] 3)) fun e w' => e = .returned (.bool (([1, 10, 11, 6, 7, 8] : List Int).contains s)) ∧ w.alloc (.cells #[.int .i64 1, .int .i64 10, .int .i64 11, .int .i64 6, .int .i64 7, .int .i64 8] 3) = w' := fun w => isOne_new [1, 10, 11, 6, 7, 8] 6 6 s w 3 rfl (by decide)
  generalize ([1, 10, 11, 6, 7, 8] : List Int).contains s = R at *
  rcases h3 : (l == 2) with _ | _
  · go_enter Tryd.func26, Tryd.ntmps26
    go_wp2
    go_ret
    exact ⟨rfl, Below.refl _ _⟩
  · go_enter Tryd.func26, Tryd.ntmps26
    go_wp2_with fail
    refine (hc _).mono ?_
    rintro e wA ⟨rfl, rfl⟩
    go_wp2
    go_ret
    exact ⟨rfl, ba _ _⟩
set_option maxHeartbeats 1000000 in
theorem may_13 : Calls Tryd.prog 26 #[.int .i64 13, .int .i64 s, .int .i64 l] w fun e w' => e = .returned (.bool (mayM 13 s l)) ∧ Below w.heap.size w w' := by
  have hm : mayM 13 s l = (!decide (l < 2) && s != 12) := rfl
  rw [hm]
  clear hm
  rcases h1 : decide (l < 2) with _ | _
  · rcases h3 : (s != 12) with _ | _
    all_goals
      go_enter Tryd.func26, Tryd.ntmps26
      go_wp2
      go_ret
      exact ⟨rfl, Below.refl _ _⟩
  · go_enter Tryd.func26, Tryd.ntmps26
    go_wp2
    go_ret
    exact ⟨rfl, Below.refl _ _⟩
set_option maxHeartbeats 1000000 in
theorem may_9 : Calls Tryd.prog 26 #[.int .i64 9, .int .i64 s, .int .i64 l] w fun e w' => e = .returned (.bool (mayM 9 s l)) ∧ Below w.heap.size w w' := by
  have hm : mayM 9 s l = (s != 12) := rfl
  rw [hm]
  clear hm
  rcases h3 : (s != 12) with _ | _
  all_goals
    go_enter Tryd.func26, Tryd.ntmps26
    go_wp2
    go_ret
    exact ⟨rfl, Below.refl _ _⟩
theorem may_any (v : Int) (h1 : 1 ≤ v) (h2 : v ≤ 13) : Calls Tryd.prog 26 #[.int .i64 v, .int .i64 s, .int .i64 l] w fun e w' => e = .returned (.bool (mayM v s l)) ∧ Below w.heap.size w w' := by
  have hv : v = 1 ∨ v = 2 ∨ v = 3 ∨ v = 4 ∨ v = 5 ∨ v = 6 ∨ v = 7 ∨ v = 8 ∨ v = 9 ∨ v = 10 ∨ v = 11 ∨ v = 12 ∨ v = 13 := by omega
  clear h1 h2
  rcases hv with rfl | rfl | rfl | rfl | rfl | rfl | rfl | rfl | rfl | rfl | rfl | rfl | rfl
  · exact may_1 s l w
  · exact may_2 s l w
  · exact may_3 s l w
  · exact may_4 s l w
  · exact may_5 s l w
  · exact may_6 s l w
  · exact may_7 s l w
  · exact may_8 s l w
  · exact may_9 s l w
  · exact may_10 s l w
  · exact may_11 s l w
  · exact may_12 s l w
  · exact may_13 s l w
end
end Go.Proofs.YtfhfbekphmnbgaaDoor
