/- A digit read: isDigit, digitValue, and the other program's worth. -/
import Derived.Test.YtjeajglnoedkaaaHex
import Derived.Handy
namespace Go.Proofs.Ytjeajglnoedkaaa
open Go.RowKit
set_option linter.unusedVariables false

/-- A character of a text. -/
def cs (s : ByteArray) (k : Nat) : UInt8 := if h : k < s.size then s[k] else 0
theorem index_cs (s : ByteArray) (k : Nat) (hk : k < s.size) (w : World) :
    (Instr.index 9 (.string s) (.int .i64 (k : Int))).run Try.prog w = .ok (.int .u8 ((cs s k).toNat : Int)) w := by
  rw [run_index_string _ _ _ _ _ Try.underlying9, dif_pos (by omega)]
  simp [cs, hk]
def isD (x : UInt8) : Prop := (48 ≤ x.toNat ∧ x.toNat ≤ 57) ∨ (97 ≤ x.toNat ∧ x.toNat ≤ 102)
instance (x : UInt8) : Decidable (isD x) := inferInstanceAs (Decidable (_ ∨ _))
def wd (x : UInt8) : Nat := if x.toNat ≤ 57 then x.toNat - 48 else x.toNat - 87
theorem wd_lt (x : UInt8) (h : isD x) : wd x < 16 := by unfold wd; unfold isD at h; split <;> omega

theorem isDigit_in (x : UInt8) (w : World) (h : isD x) :
    Calls Try.prog 36 #[.int .u8 (x.toNat : Int)] w fun e w' => e = .returned (.bool true) ∧ w' = w := by
  have hl := x.toNat_lt
  rcases h with h | h
  all_goals
    go_enter Try.func36, Try.ntmps36
    go_wp2
    go_ret
    exact ⟨by simp <;> omega, rfl⟩
theorem isDigit_out (x : UInt8) (w : World) (h : ¬ isD x) :
    Calls Try.prog 36 #[.int .u8 (x.toNat : Int)] w fun e w' => e = .returned (.bool false) ∧ w' = w := by
  have hl := x.toNat_lt
  have h' : x.toNat < 48 ∨ (57 < x.toNat ∧ x.toNat < 97) ∨ 102 < x.toNat := by unfold isD at h; omega
  clear h
  rcases h' with h | h | h
  all_goals
    go_enter Try.func36, Try.ntmps36
    go_wp2
    go_ret
    exact ⟨by simp <;> omega, rfl⟩
theorem digitValue_in (x : UInt8) (w : World) (h : isD x) :
    Calls Try.prog 37 #[.int .u8 (x.toNat : Int)] w fun e w' => e = .returned (.int .u8 (wd x : Int)) ∧ w' = w := by
  have hl := x.toNat_lt
  rcases h with h | h
  · have e1 : (wd x : Int) = (x.toNat : Int) - 48 := by unfold wd; rw [if_pos h.2]; omega
    rw [e1]
    have e2 : IntKind.u8.wrap ((x.toNat : Int) - 48) = (x.toNat : Int) - 48 := IntWalk.u8_in _ (by omega)
    go_enter Try.func37, Try.ntmps37
    go_wp2
    go_ret
    exact ⟨rfl, rfl⟩
  · have e1 : (wd x : Int) = (x.toNat : Int) - 97 + 10 := by unfold wd; rw [if_neg (by omega)]; omega
    rw [e1]
    have e2 : IntKind.u8.wrap ((x.toNat : Int) - 97) = (x.toNat : Int) - 97 := IntWalk.u8_in _ (by omega)
    have e3 : IntKind.u8.wrap ((x.toNat : Int) - 97 + 10) = (x.toNat : Int) - 97 + 10 := IntWalk.u8_in _ (by omega)
    go_enter Try.func37, Try.ntmps37
    go_wp2
    go_ret
    exact ⟨rfl, rfl⟩
theorem dig_eq (k : Nat) (hk : k < 16) (x : UInt8) : dig k = x ↔ isD x ∧ wd x = k := by
  have hl := x.toNat_lt
  rw [← UInt8.toNat_inj]
  unfold dig isD wd
  rw [UInt8.toNat_ofNat']
  split <;> split <;> omega

/-- The worth of a character: -1 is none. -/
def worthR (x : UInt8) : Int := if isD x then (wd x : Int) else -1
theorem worth_any (x : UInt8) (w : World) :
    Calls Try.prog 38 #[.int .u8 (x.toNat : Int)] w fun e w' => e = .returned (.int .i64 (worthR x)) ∧ w' = w := by
  have hl := x.toNat_lt
  go_enter Try.func38, Try.ntmps38
  go_wp2
  go_loopw [4] (fun i wr => ∃ k : Nat, k ≤ 16 ∧ i = .int .i64 k ∧ wr = w ∧ ∀ j, j < k → dig j ≠ x)
    (fun i _ => 16 - (intOf i).toNat)
  case atStart => exact ⟨0, by omega, rfl, rfl, fun j hj => absurd hj (by omega)⟩
  case round =>
    obtain ⟨k, hk, rfl, rfl, hn⟩ := hrel
    have Hn := Lib.hid hn
    clear hn
    by_cases hlt : k < 16
    · have hi := index_digit' k hlt wr
      by_cases he : dig k = x
      · rw [he] at hi
        have hr : worthR x = (k : Int) := by
          have := (dig_eq k hlt x).1 he
          unfold worthR
          rw [if_pos this.1, this.2]
        clear he
        go_wp2
        go_ret
        exact ⟨by rw [hr]; rfl, rfl⟩
      · have hne : (((dig k).toNat : Int) == (x.toNat : Int)) = false := by
          rw [beq_eq_false_iff_ne]
          intro e
          exact he (UInt8.toNat_inj.1 (by omega))
        go_wp2
        go_roundw
        case rel =>
          refine ⟨k + 1, by omega, by go_num, by trivial, fun j hj => ?_⟩
          by_cases e : j = k
          · rw [e]; exact he
          · exact Hn.out j (by omega)
        case measure => simp [intOf]; omega
    · obtain rfl : k = 16 := by omega
      have hr : worthR x = -1 := by
        unfold worthR
        rw [if_neg]
        intro h
        exact Hn.out (wd x) (wd_lt x h) ((dig_eq _ (wd_lt x h) x).2 ⟨h, rfl⟩)
      go_wp2
      go_ret
      exact ⟨by rw [hr]; rfl, rfl⟩
end Go.Proofs.Ytjeajglnoedkaaa
