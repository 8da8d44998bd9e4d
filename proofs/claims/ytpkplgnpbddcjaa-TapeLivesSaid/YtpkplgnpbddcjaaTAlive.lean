/- The fixed calls of the laws of layer 2 come out as the document says. -/
import Derived.Test.YtpkplgnpbddcjaaCallNo
namespace Go.Proofs.Ytpkplgnpbddcjaa
open Go.RowKit
set_option linter.unusedVariables false

theorem TapeOut.below {w w' w0 : World} {p room : Nat} {r : Int × List UInt8 × Nat} {e : Ending} (h : TapeOut w p room r e w') (hb : Below w0.heap.size w0 w) (hp : w0.heap.size ≤ p) : Below w0.heap.size w0 w' :=
  hb.grown h.2.2.1 hb.size (fun k hk => by cases hk; exact hp)

theorem new_4 (w : World) : Calls Try.prog 4 #[.int .i64 4] w fun e w' => e = .returned (.tuple #[.pointer (some ⟨w.heap.size, 0, none⟩), .int .i64 0]) ∧ TapeAt w' w.heap.size 4 [] 0 ∧ Below w.heap.size w w' := new_ok 4 w (by omega) (by omega)
theorem new_0 (w : World) : Calls Try.prog 4 #[.int .i64 0] w fun e w' => e = .returned (.tuple #[.pointer none, .int .i64 1]) ∧ w = w' := new_bad 0 w (by omega)
theorem ap12 (p : Nat) (A : Option Addr) (c : Nat) (w : World) (h : TapeAt w p 4 [] 0) (hb : Bs w w.heap.size A [1, 2]) :
    Calls Try.prog 14 #[.pointer (some ⟨p, 0, none⟩), .slice A 2 c] w (TapeOut w p 4 (0, [1, 2], 0)) := tapeAppend p 4 [] 0 A [1, 2] c w h hb (by simp)
theorem fo12 (p : Nat) (w : World) (h : TapeAt w p 4 [1, 2] 0) : Calls Try.prog 15 #[.pointer (some ⟨p, 0, none⟩)] w (TapeOut w p 4 (0, [1, 2], 2)) := tapeForce p 4 [1, 2] 0 w h
theorem ap34 (p : Nat) (A : Option Addr) (c : Nat) (w : World) (h : TapeAt w p 4 [1, 2] 2) (hb : Bs w w.heap.size A [3, 4]) :
    Calls Try.prog 14 #[.pointer (some ⟨p, 0, none⟩), .slice A 2 c] w (TapeOut w p 4 (0, [1, 2, 3, 4], 2)) := tapeAppend p 4 [1, 2] 2 A [3, 4] c w h hb (by simp)
theorem cr1 (p : Nat) (w : World) (h : TapeAt w p 4 [1, 2, 3, 4] 2) : Calls Try.prog 16 #[.pointer (some ⟨p, 0, none⟩), .int .i64 1] w (TapeOut w p 4 (0, [1, 2, 3], 3)) := tapeCrash p 4 [1, 2, 3, 4] 2 1 w h (by omega) (by omega)
theorem ap56 (p : Nat) (A : Option Addr) (c : Nat) (w : World) (h : TapeAt w p 4 [1, 2, 3] 3) (hb : Bs w w.heap.size A [5, 6]) :
    Calls Try.prog 14 #[.pointer (some ⟨p, 0, none⟩), .slice A 2 c] w (TapeOut w p 4 (5, [1, 2, 3], 3)) := tapeAppend p 4 [1, 2, 3] 3 A [5, 6] c w h hb (by simp)

set_option maxHeartbeats 2000000 in
theorem alive_any (w : World) : Calls Try.prog 6 #[] w fun e w' => e = .returned (.bool true) ∧ Below w.heap.size w w' := by
  go_enter Try.func6, Try.ntmps6
  go_wp2_with fail
  refine (new_4 _).mono ?_
  rintro e w1 ⟨rfl, hT1, hb1⟩
  go_wp2_with fail
  refine (new_0 _).mono ?_
  rintro e w2 ⟨rfl, rfl⟩
  go_wp2_with fail
  refine (ap12 _ _ _ _ (hT1.below (ba _ _)) (Bs.lit' rfl rfl)).mono ?_
  rintro e w3 h3
  have hb3 := h3.below (bt hb1 (ba _ _)) (Nat.le_refl _)
  obtain ⟨rfl, hT3, _⟩ := h3
  go_wp2_with fail
  refine (fo12 _ _ hT3).mono ?_
  rintro e w4 h4
  have hb4 := h4.below hb3 (Nat.le_refl _)
  obtain ⟨rfl, hT4, _⟩ := h4
  go_wp2_with fail
  refine (ap34 _ _ _ _ (hT4.below (ba _ _)) (Bs.lit' rfl rfl)).mono ?_
  rintro e w5 h5
  have hb5 := h5.below (bt hb4 (ba _ _)) (Nat.le_refl _)
  obtain ⟨rfl, hT5, _⟩ := h5
  go_wp2_with fail
  refine (cr1 _ _ hT5).mono ?_
  rintro e w6 h6
  have hb6 := h6.below hb5 (Nat.le_refl _)
  obtain ⟨rfl, hT6, _⟩ := h6
  go_wp2_with fail
  refine (tapeBytes _ _ _ _ _ hT6).mono ?_
  rintro e w7 ⟨rfl, hr7, hb7⟩
  have hT7 := hT6.below hb7
  have hb7' := bt hb6 hb7
  have cv : (convert 30 9 (.slice (some ⟨w6.heap.size, 0, none⟩) 3 3)).run Try.prog w7 = .ok (.string ⟨#[1, 2, 3]⟩) w7 :=
    conv_bytes (l := [1, 2, 3]) Try.underlying30 Try.underlying5 Try.underlying9 (hr7.bs hr7.lt) 3
  go_wp2_with fail
  refine (ap56 _ _ _ _ (hT7.below (ba _ _)) (Bs.lit' rfl rfl)).mono ?_
  rintro e w8 h8
  have hb8 := h8.below (bt hb7' (ba _ _)) (Nat.le_refl _)
  obtain ⟨rfl, hT8, _⟩ := h8
  go_wp2_with fail
  refine (tapeLen _ _ _ _ _ hT8).mono ?_
  rintro e w9 ⟨rfl, rfl⟩
  go_wp2_with fail
  refine (tapeForced _ _ _ _ _ hT8).mono ?_
  rintro e w9 ⟨rfl, rfl⟩
  go_wp2_with fail
  refine (tapeRoom _ _ _ _ _ hT8).mono ?_
  rintro e w9 ⟨rfl, rfl⟩
  go_wp2
  go_ret
  exact ⟨rfl, hb8⟩
end Go.Proofs.Ytpkplgnpbddcjaa
