/- Layer 1: lists of texts become bytes as the document says. -/
import Derived.Test.YtjeajglnoedkaaaJc
import Derived.Test.YtjeajglnoedkaaaAlive
namespace Go.Proofs.Ytjeajglnoedkaaa
open Go.RowKit
set_option linter.unusedVariables false
set_option linter.unusedSimpArgs false

set_option maxHeartbeats 4000000 in
theorem octJoins_walk (A : Option Addr) (ls : List (List UInt8)) (c : Nat) (w : World) (hm : ls.length ≤ maxLen) (hls : ListAt w w.heap.size A ls) :
    Calls Try.prog 4 #[.slice A ls.length c] w fun e w' => e = .returned (.bool true) ∧ Below w.heap.size w w' := by
  obtain ⟨n, hn0⟩ : ∃ n, n = ls.length := ⟨_, rfl⟩
  rw [← hn0] at hm ⊢
  have hn := Lib.hid hn0
  have HM := Lib.hid hm
  unfold maxLen at hm
  have HLS := Lib.hid hls
  clear hls hn0
  by_cases h40 : (40 : Int) < (n : Int) ∧ (n : Int) ≤ 1000
  · obtain ⟨h41, h42⟩ := h40
    go_enter Try.func4, Try.ntmps4
    go_wp2_with fail
    refine (alive_any _).mono ?_
    rintro e w1 ⟨rfl, hb1⟩
    go_wp2
    go_ret
    exact ⟨rfl, hb1⟩
  · have hcs : (n : Int) ≤ 40 ∨ ((40 : Int) < (n : Int) ∧ (1000 : Int) < (n : Int)) := by omega
    clear h40
    rcases hcs with h41 | ⟨h41, h42⟩
    all_goals
      go_enter Try.func4, Try.ntmps4
      go_wp2
      go_loopw [3] (fun i wr => ∃ k : Nat, k ≤ n ∧ k ≤ 41 ∧ i = .int .i64 k ∧ wr = w) (fun i _ => n - (intOf i).toNat)
      case atStart => exact ⟨0, Nat.zero_le _, Nat.zero_le _, rfl, rfl⟩
      case round =>
        obtain ⟨k, hk, hk41, rfl, hww⟩ := hrel
        have hww' := hww.symm
        subst hww'
        clear hww
        have hcase : (k < n ∧ k < 41) ∨ (¬ k < n) ∨ (k < n ∧ ¬ k < 41) := by omega
        rcases hcase with ⟨hlt, hlt2⟩ | hdone | ⟨hlt, hdone⟩
        · have hkl : k < ls.length := by rw [← hn.out]; exact hlt
          obtain ⟨b, o, rfl, hblt, hcs⟩ := HLS.out (by omega)
          obtain ⟨Ai, ci, hcl, hbs⟩ := hcs k hkl
          obtain ⟨l, hl⟩ : ∃ l, l = ls[k] := ⟨_, rfl⟩
          rw [← hl] at hcl hbs
          have hkI : (k : Int) < (n : Int) := by omega
          have hkI2 : (k : Int) < 41 := by omega
          clear hl hcs
          by_cases h3 : (300 : Int) < (l.length : Int)
          · by_cases h4 : (l.length : Int) ≤ 65535
            · go_wp2_with fail
              refine (alive_any _).mono ?_
              rintro e w1 ⟨rfl, hb1⟩
              go_wp2
              go_ret
              exact ⟨rfl, hb1⟩
            · go_wp2
              go_roundw
              case rel => exact ⟨k + 1, by omega, by omega, by go_num, by first | trivial | rfl⟩
              case measure => simp [intOf]; omega
          · go_wp2
            go_roundw
            case rel => exact ⟨k + 1, by omega, by omega, by go_num, by first | trivial | rfl⟩
            case measure => simp [intOf]; omega
        all_goals try (exfalso; omega)
        all_goals
          have hkI : ¬ ((k : Int) < (n : Int) ∧ (k : Int) < 41) := by omega
          obtain ⟨R, hR⟩ : ∃ R, R = joinR ls := ⟨_, rfl⟩
          obtain ⟨L, x⟩ := R
          have j1 := join_any A ls n c w hn HM.out HLS.out
          have j2 := fun w' (h : Below w.heap.size w w') => refjoin_any A ls n c w' hn HM.out (HLS.out.bt h)
          unfold JoinO at j1 j2
          rw [← hR] at j1 j2
          have J1 := Lib.hid j1
          have J2 := Lib.hid j2
          clear j1 j2 hR
          go_wp2_with fail
          refine J1.out.mono ?_
          rintro e w1 ⟨A1, c1, rfl, hB1, hb1⟩
          go_wp2_with fail
          refine (J2.out _ hb1).mono ?_
          rintro e w2 ⟨A2, c2, rfl, hB2, hb2⟩
          go_wp2_with fail
          refine (alive_any _).mono ?_
          rintro e w3 ⟨rfl, hb3⟩
          have cv1 : (convert 23 9 (.slice A1 L.length c1)).run Try.prog w3 = .ok (.string ⟨L.toArray⟩) w3 :=
            conv_bytes Try.underlying23 Try.underlying5 Try.underlying9 (hB1.bt (bt hb2 hb3)) c1
          have cv2 : (convert 23 9 (.slice A2 L.length c2)).run Try.prog w3 = .ok (.string ⟨L.toArray⟩) w3 :=
            conv_bytes Try.underlying23 Try.underlying5 Try.underlying9 (hB2.bt hb3) c2
          go_wp2
          go_ret
          exact ⟨by simp, bt hb1 (bt hb2 hb3)⟩
end Go.Proofs.Ytjeajglnoedkaaa
