/- Layer 7: which frames may be. -/
import Derived.Test.YthmhkicgghobmaaBlk
import Derived.Test.YthmhkicgghobmaaProg
namespace Go.Proofs.Ythmhkicgghobmaa
open Go.RowKit
set_option linter.unusedVariables false
set_option linter.unusedSimpArgs false

def shortR (q : Int) : Bool := decide (0 ≤ q) && decide (q ≤ 65535)
def mayF (s : Nat) (q a : Int) (n : Nat) : Bool := !decide ((s : Int) = 0) && (shortR q && (shortR a && decide ((n : Int) ≤ 256)))
theorem mayF_iff (s : Nat) (q a : Int) (n : Nat) : mayF s q a n = true ↔ s ≠ 0 ∧ (0 ≤ q ∧ q ≤ 65535) ∧ (0 ≤ a ∧ a ≤ 65535) ∧ n ≤ 256 := by
  unfold mayF shortR
  simp
  omega
theorem isShort_any (q : Int) (w : World) : Calls Try.prog 26 #[.int .i64 q] w fun e w' => e = .returned (.bool (shortR q)) ∧ w = w' := by
  unfold shortR
  rcases h1 : decide (0 ≤ q) with _ | _
  · go_enter Try.func26, Try.ntmps26
    go_wp2
    go_ret
    exact ⟨rfl, rfl⟩
  · rcases h2 : decide (q ≤ 65535) with _ | _
    all_goals
      go_enter Try.func26, Try.ntmps26
      go_wp2
      go_ret
      exact ⟨rfl, rfl⟩

section
variable (s : Nat) (q a : Int) (A : Option Addr) (n c : Nat) (w : World)
theorem mayBe_any : Calls Try.prog 16 #[.agg #[.int .u32 s, .int .i64 q, .int .i64 a, .slice A n c]] w fun e w' => e = .returned (.bool (mayF s q a n)) ∧ Below w.heap.size w w' := by
  have hq := fun w => isShort_any q w
  have ha := fun w => isShort_any a w
  unfold mayF
  generalize shortR q = bq at *
  generalize shortR a = b2 at *
  have kb0 := Blk.new w 25 #[.int .u32 s, .int .i64 q, .int .i64 a, .slice A n c]
  have hbw0 := ba w (.cells #[.int .u32 s, .int .i64 q, .int .i64 a, .slice A n c] 25)
  have c0 := (kb0).cell 0
  have c1 := (kb0).cell 1
  have c2 := (kb0).cell 2
  have c3 := (kb0).cell 3
  simp only [List.getElem?_toArray, List.getElem?_cons_zero, List.getElem?_cons_succ] at c0 c1 c2 c3
  rcases h1 : decide ((s : Int) = 0) with _ | _
  · have g1 : ((s : Int) != 0) = true := by simpa using h1
    clear h1
    cases bq
    · go_enter Try.func16, Try.ntmps16
      go_wp2_with fail
      refine (hq _).mono ?_
      rintro e w1 ⟨rfl, rfl⟩
      go_wp2
      go_ret
      exact ⟨rfl, hbw0⟩
    · cases b2
      · go_enter Try.func16, Try.ntmps16
        go_wp2_with fail
        refine (hq _).mono ?_
        rintro e w1 ⟨rfl, rfl⟩
        go_wp2_with fail
        refine (ha _).mono ?_
        rintro e w1 ⟨rfl, rfl⟩
        go_wp2
        go_ret
        exact ⟨rfl, hbw0⟩
      · rcases h4 : decide ((n : Int) ≤ 256) with _ | _
        all_goals
          go_enter Try.func16, Try.ntmps16
          go_wp2_with fail
          refine (hq _).mono ?_
          rintro e w1 ⟨rfl, rfl⟩
          go_wp2_with fail
          refine (ha _).mono ?_
          rintro e w1 ⟨rfl, rfl⟩
          go_wp2
          go_ret
          exact ⟨rfl, hbw0⟩
  · have g1 : ((s : Int) != 0) = false := by simpa using h1
    clear h1
    go_enter Try.func16, Try.ntmps16
    go_wp2
    go_ret
    exact ⟨rfl, hbw0⟩

theorem refMay_any : Calls Try.prog 19 #[.agg #[.int .u32 s, .int .i64 q, .int .i64 a, .slice A n c]] w fun e w' => e = .returned (.bool (mayF s q a n)) ∧ Below w.heap.size w w' := by
  have kb0 := Blk.new w 25 #[.int .u32 s, .int .i64 q, .int .i64 a, .slice A n c]
  have hbw0 := ba w (.cells #[.int .u32 s, .int .i64 q, .int .i64 a, .slice A n c] 25)
  have c0 := (kb0).cell 0
  have c1 := (kb0).cell 1
  have c2 := (kb0).cell 2
  have c3 := (kb0).cell 3
  simp only [List.getElem?_toArray, List.getElem?_cons_zero, List.getElem?_cons_succ] at c0 c1 c2 c3
  obtain ⟨R, hR⟩ : ∃ R, R = mayF s q a n := ⟨_, rfl⟩
  rw [← hR]
  unfold mayF shortR at hR
  have HR := Lib.hid hR
  clear hR
  rcases h1 : decide ((s : Int) = 0) with _ | _
  · have g1 : ((s : Int) == 0) = false := by simpa using h1
    rcases h4 : decide (256 < (n : Int)) with _ | _
    · have g4 : decide ((n : Int) ≤ 256) = true := by simp at h4 ⊢; omega
      have G4 := Lib.hid g4
      have H1 := Lib.hid h1
      clear g4 h1
      rcases h5 : decide (0 ≤ q) with _ | _
      · go_enter Try.func19, Try.ntmps19
        go_wp2
        go_ret
        exact ⟨by rw [HR.out, H1.out]; simp [h5], hbw0⟩
      · rcases h6 : decide (q < 65536) with _ | _
        · have g6 : decide (q ≤ 65535) = false := by simp at h6 ⊢; omega
          have G6 := Lib.hid g6
          clear g6
          go_enter Try.func19, Try.ntmps19
          go_wp2
          go_ret
          exact ⟨by rw [HR.out, G6.out]; simp, hbw0⟩
        · have g6 : decide (q ≤ 65535) = true := by simp at h6 ⊢; omega
          have G6 := Lib.hid g6
          clear g6
          rcases h7 : decide (0 ≤ a) with _ | _
          · go_enter Try.func19, Try.ntmps19
            go_wp2
            go_ret
            exact ⟨by rw [HR.out]; simp [h7], hbw0⟩
          · rcases h8 : decide (a < 65536) with _ | _
            · have g8 : decide (a ≤ 65535) = false := by simp at h8 ⊢; omega
              have G8 := Lib.hid g8
              clear g8
              go_enter Try.func19, Try.ntmps19
              go_wp2
              go_ret
              exact ⟨by rw [HR.out, G8.out]; simp, hbw0⟩
            · have g8 : decide (a ≤ 65535) = true := by simp at h8 ⊢; omega
              have G8 := Lib.hid g8
              clear g8
              go_enter Try.func19, Try.ntmps19
              go_wp2
              go_ret
              exact ⟨by rw [HR.out, G8.out, G6.out, G4.out, h5, h7, H1.out]; rfl, hbw0⟩
    · have g4 : decide ((n : Int) ≤ 256) = false := by simp at h4 ⊢; omega
      have G4 := Lib.hid g4
      clear g4
      go_enter Try.func19, Try.ntmps19
      go_wp2
      go_ret
      exact ⟨by rw [HR.out, G4.out]; simp, hbw0⟩
  · have H1 := Lib.hid h1
    have g1 : ((s : Int) == 0) = true := by simpa using h1
    clear h1
    go_enter Try.func19, Try.ntmps19
    go_wp2
    go_ret
    exact ⟨by rw [HR.out, H1.out]; rfl, hbw0⟩
end
end Go.Proofs.Ythmhkicgghobmaa
