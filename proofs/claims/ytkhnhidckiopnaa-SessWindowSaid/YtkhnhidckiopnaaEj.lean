/- Layer 9: both, and long. -/
import Derived.Test.YtkhnhidckiopnaaEh
import Derived.Test.YtkhnhidckiopnaaOpenS
namespace Go.Proofs.Ytkhnhidckiopnaa
open Go.RowKit
set_option linter.unusedVariables false
set_option linter.unusedSimpArgs false

theorem both_bad (S : Nat) (W : Int) (w : World) (h : S = 0 ∨ W < 1 ∨ 16 < W) :
    Calls Try.prog 22 #[.int .u32 S, .int .i64 W] w fun e w' => e = .returned (.pointer none) ∧ w = w' := by
  have hn := new_bad S W w h
  clear h
  go_enter Try.func22, Try.ntmps22
  go_wp2_with fail
  refine hn.mono ?_
  rintro e w1 ⟨rfl, rfl⟩
  go_wp2_with fail
  refine hn.mono ?_
  rintro e w1 ⟨rfl, rfl⟩
  go_wp2
  go_ret
  exact ⟨rfl, rfl⟩
/-- Two ends of one session, as both makes them. -/
def PairAt (w : World) (B p ga gb S W : Nat) : Prop := B ≤ ga ∧ ga < gb ∧ gb < p ∧ (∃ cs, EndAt w ga S W [] 0 0 cs) ∧ (∃ cs, EndAt w gb S W [] 0 0 cs) ∧ Blk w p 64 #[.pointer (some ⟨ga, 0, none⟩), .pointer (some ⟨gb, 0, none⟩), .slice none 0 0, .slice none 0 0, .slice none 0 0, .slice none 0 0, .slice none 0 0, .slice none 0 0]
set_option maxRecDepth 100000 in
set_option maxHeartbeats 4000000 in
theorem both_ok (S W : Nat) (w : World) (h1 : S ≠ 0) (h2 : 1 ≤ W) (h3 : W ≤ 16) :
    Calls Try.prog 22 #[.int .u32 S, .int .i64 W] w fun e w' => ∃ p ga gb, e = .returned (.pointer (some ⟨p, 0, none⟩)) ∧ PairAt w' w.heap.size p ga gb S W ∧ Below w.heap.size w w' := by
  have hn := Lib.hid (fun u => new_ok S W u h1 h2 h3)
  clear h1 h2 h3
  go_enter Try.func22, Try.ntmps22
  go_wp2_with fail
  refine (hn.out _).mono ?_
  rintro e w1 ⟨rfl, ⟨cs1, k1⟩, b1⟩
  go_wp2_with fail
  refine (hn.out _).mono ?_
  rintro e w2 ⟨rfl, ⟨cs2, k2⟩, b2⟩
  have HA := Lib.hid (And.intro (k1.bt b2) (And.intro k2 (And.intro b1 b2)))
  have l1 := k1.blk.lt
  have l2 := k2.blk.lt
  clear k1 k2 b1 b2 hn
  go_wp2
  go_ret
  exact ⟨_, _, _, rfl, ⟨Nat.le_refl _, l1, l2, ⟨_, HA.out.1.bt (ba _ _)⟩, ⟨_, HA.out.2.1.bt (ba _ _)⟩, Blk.new _ _ _⟩, bt (bt HA.out.2.2.1 HA.out.2.2.2) (ba _ _)⟩
/-- What long says. -/
def LongQ (w : World) (n : Nat) (ls : List (List UInt8)) (e : Ending) (w' : World) : Prop := (∃ b, e = .returned (.bool b) ∧ (b = false → n ≤ 80 ∧ ∀ j, (hj : j < ls.length) → (ls[j]'hj).length ≤ 300)) ∧ w = w'
set_option maxHeartbeats 2000000 in
theorem long_any (A : Option Addr) (ls : List (List UInt8)) (n c : Nat) (hn : Hid (n = ls.length)) (w : World) (h : ListAt w w.heap.size A ls) :
    Calls Try.prog 23 #[.slice A n c] w (LongQ w n ls) := by
  by_cases h80 : 80 < n
  · have h80I : (80 : Int) < (n : Int) := by omega
    clear h
    go_enter Try.func23, Try.ntmps23
    go_wp2
    go_ret
    exact ⟨⟨true, rfl, fun e => by cases e⟩, rfl⟩
  · have h80I : ¬ (80 : Int) < (n : Int) := by omega
    have HL := Lib.hid h
    clear h
    go_enter Try.func23, Try.ntmps23
    go_wp2_with fail
    go_loopw [3] (fun i wr => ∃ i0 : Nat, i0 ≤ n ∧ i = .int .i64 i0 ∧ wr = w ∧ Hid (∀ j, (hj : j < ls.length) → j < i0 → (ls[j]'hj).length ≤ 300)) (fun i _ => n - (intOf i).toNat)
    case atStart => exact ⟨0, Nat.zero_le _, rfl, rfl, Lib.hid (fun j hj h => by omega)⟩
    case round =>
      obtain ⟨i0, him, rfl, rfl, hall⟩ := hrel
      by_cases hi0 : i0 < n
      · have hiI : (i0 : Int) < (n : Int) := by omega
        have hiq : i0 < ls.length := by rw [← hn.out]; exact hi0
        obtain ⟨b, o, rfl, _, hcell⟩ := HL.out (by omega)
        obtain ⟨Ai, ci, hci, _⟩ := hcell i0 hiq
        obtain ⟨d, hd⟩ : ∃ d, d = (ls[i0]'hiq).length := ⟨_, rfl⟩
        rw [← hd] at hci
        clear hcell
        by_cases h300 : 300 < d
        · have h300I : (300 : Int) < (d : Int) := by omega
          go_wp2
          go_ret
          exact ⟨⟨true, rfl, fun e => by cases e⟩, rfl⟩
        · have h300I : ¬ (300 : Int) < (d : Int) := by omega
          have hnew : Hid (∀ j, (hj : j < ls.length) → j < i0 + 1 → (ls[j]'hj).length ≤ 300) := Lib.hid (fun j hj hji => by
            by_cases e : j = i0
            · subst e; omega
            · exact hall.out j hj (by omega))
          clear hall hd
          go_wp2
          go_roundw
          case rel => exact ⟨i0 + 1, by omega, by go_num, by first | trivial | rfl, hnew⟩
          case measure => simp [intOf]; omega
      · obtain rfl : i0 = n := by omega
        have hiI : ¬ (i0 : Int) < (i0 : Int) := by omega
        go_wp2
        go_ret
        exact ⟨⟨false, rfl, fun _ => ⟨by omega, fun j hj => hall.out j hj (by rw [hn.out]; exact hj)⟩⟩, rfl⟩
end Go.Proofs.Ytkhnhidckiopnaa
