/- Layer 3: is a list too great for a statement? -/
import Derived.Test.YtflibdiafhkpoaaZe
import Derived.Test.YtflibdiafhkpoaaOpenW
namespace Go.Proofs.Ytflibdiafhkpoaa
open Go.RowKit
set_option linter.unusedVariables false
set_option linter.unusedSimpArgs false

def GreatO (w : World) (vs : List RecV) (e : Ending) (w' : World) : Prop := (∃ b, e = .returned (.bool b) ∧ (b = false → vs.length ≤ 20 ∧ ∀ i, (h : i < vs.length) → (vs[i]'h).l.length ≤ 3000)) ∧ Below w.heap.size w w'
theorem great_yes {w w' : World} {vs : List RecV} (hb : Below w.heap.size w w') : GreatO w vs (.returned (.bool true)) w' := ⟨⟨_, rfl, fun e => by cases e⟩, hb⟩
theorem great_no {w w' : World} {vs : List RecV} (hn : vs.length ≤ 20) (h : ∀ i, (h : i < vs.length) → (vs[i]'h).l.length ≤ 3000) (hb : Below w.heap.size w w') : GreatO w vs (.returned (.bool false)) w' := ⟨⟨_, rfl, fun _ => ⟨hn, h⟩⟩, hb⟩
set_option maxHeartbeats 1000000 in
theorem great_any (A : Option Addr) (vs : List RecV) (c : Nat) (w : World) (h : RecVsAt w A vs) :
    Calls Try.prog 25 #[.slice A vs.length c] w (GreatO w vs) := by
  obtain ⟨hm, hok, hcells⟩ := h
  by_cases h20 : (20 : Int) < (vs.length : Int)
  · go_enter Try.func25, Try.ntmps25
    go_wp2
    go_ret
    exact great_yes (Below.refl _ _)
  · have Hok := Lib.hid hok
    have Hcells := Lib.hid hcells
    clear hok hcells
    go_enter Try.func25, Try.ntmps25
    go_wp2
    go_loopw [3] (fun i wr => ∃ k : Nat, k ≤ vs.length ∧ i = .int .i64 k ∧ Hid (∀ j, (h : j < vs.length) → j < k → (vs[j]'h).l.length ≤ 3000) ∧ Below w.heap.size w wr) (fun i _ => vs.length - (intOf i).toNat)
    case atStart => exact ⟨0, Nat.zero_le _, rfl, Lib.hid (fun j h hj => absurd hj (by omega)), Below.refl _ _⟩
    case round =>
      obtain ⟨k, hk, rfl, hj, hb⟩ := hrel
      by_cases hlt : k < vs.length
      · obtain ⟨b1, o1, rfl, hb1, hc1⟩ := Hcells.out (by omega)
        obtain ⟨x1, y1⟩ := hc1 k hlt
        clear hc1
        obtain ⟨v, hv⟩ : ∃ v, v = vs[k] := ⟨_, rfl⟩
        rw [← hv] at x1 y1
        have X1 := (hb.cell (p := ⟨b1, o1 + k * 2, none⟩) hb1).trans x1
        have Y1 := (hb.cell (p := ⟨b1, o1 + k * 2 + 1, none⟩) hb1).trans y1
        have HV := Lib.hid hv
        have hki : (k : Int) < (vs.length : Int) := by omega
        clear hv x1 y1
        go_wp2_with fail
        refine (long_any _ _ _ _ _).mono ?_
        rintro e w1 ⟨⟨b, rfl, hbn⟩, hbw⟩
        have hbb := bt hb hbw
        clear X1 Y1
        cases b
        · have h3 := hbn rfl
          have hj2 : Hid (∀ j, (h : j < vs.length) → j < k + 1 → (vs[j]'h).l.length ≤ 3000) := Lib.hid (fun j h hj' => by
            rcases Nat.lt_or_eq_of_le (Nat.lt_succ_iff.1 hj') with h4 | h4
            · exact hj.out j h h4
            · subst h4; rw [← HV.out]; exact h3)
          clear hbn h3
          go_wp2
          go_roundw
          case rel => exact ⟨k + 1, by omega, by go_num, hj2, hbb⟩
          case measure => simp [intOf]; omega
        · go_wp2
          go_ret
          exact great_yes hbb
      · go_wp2
        go_ret
        exact great_no (by omega) (fun i h => hj.out i h (by omega)) hb
end Go.Proofs.Ytflibdiafhkpoaa
