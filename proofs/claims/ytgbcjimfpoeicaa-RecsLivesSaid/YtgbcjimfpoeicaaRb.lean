/- Layer 11: slices.Concat of two, slices.Clone. -/
import Derived.Test.YtgbcjimfpoeicaaRa
namespace Go.Proofs.Ytgbcjimfpoeicaa
open Go.RowKit
set_option linter.unusedVariables false
set_option linter.unusedSimpArgs false

theorem bt' {a b c : World} (h : Below a.heap.size a b) (k : Below b.heap.size b c) : Below a.heap.size a c := h.trans (k.mono h.size)
def csz (n1 n2 k : Nat) : Nat := match k with | 0 => 0 | 1 => n1 | _ => n1 + n2
def cpart (l1 l2 : List UInt8) (k : Nat) : List UInt8 := match k with | 0 => [] | 1 => l1 | _ => l1 ++ l2

set_option maxHeartbeats 1000000 in
theorem concat2 (b : Nat) (A1 A2 : Option Addr) (l1 l2 : List UInt8) (n1 n2 c1 c2 : Nat) (hn1 : Hid (n1 = l1.length)) (hn2 : Hid (n2 = l2.length)) (w : World) (hlt : b < w.heap.size) (h0 : w.cell? ⟨b, 0, none⟩ = some (.slice A1 n1 c1)) (h1 : w.cell? ⟨b, 1, none⟩ = some (.slice A2 n2 c2))
    (hb1 : Bs w w.heap.size A1 l1) (hb2 : Bs w w.heap.size A2 l2) (hm : Hid (l1.length + l2.length ≤ 1000000000)) :
    Calls Try.prog 21 #[.slice (some ⟨b, 0, none⟩) 2 2] w fun e w' => ∃ A c, e = .returned (.slice A (n1 + n2) c) ∧ Own w' w.heap.size 5 A c (l1 ++ l2) ∧ Below w.heap.size w w' := by
  obtain ⟨i0, hi, hz0, hz1, hz2⟩ := info_parts Try.infoU8r
  have hN : Hid (n1 + n2 ≤ 1000000000) := Lib.hid (by have := hn1.out; have := hn2.out; have := hm.out; omega)
  have g1 : IntKind.i64.wrap (n1 : Int) = (n1 : Int) := IntWalk.i64_in _ (by have := hN.out; omega)
  have g2 : IntKind.i64.wrap ((n1 : Int) + (n2 : Int)) = (n1 : Int) + (n2 : Int) := IntWalk.i64_in _ (by have := hN.out; omega)
  have d1 : decide ((n1 : Int) < 0) = false := by simp
  have d2 : decide ((n1 : Int) + (n2 : Int) < 0) = false := by simp; omega
  go_enter Try.func21, Try.ntmps21
  go_wp2_with fail
  go_loopw [3, 5, 11] (fun s p i wr => ∃ (k : Nat) (v : Value), v = p ∧ k ≤ 2 ∧ i = .int .i64 k ∧ s = .int .i64 (csz n1 n2 k) ∧ wr = w) (fun _ _ i _ => 2 - (intOf i).toNat)
  case atStart => exact ⟨0, _, rfl, by omega, rfl, rfl, rfl⟩
  case round =>
    obtain ⟨k, v, rfl, hk, rfl, rfl, hww⟩ := hrel
    have hww' := hww.symm
    subst hww'
    clear hww
    have hk3 : k = 0 ∨ k = 1 ∨ k = 2 := by omega
    rcases hk3 with rfl | rfl | rfl
    · simp only [csz]
      go_wp2
      go_roundw
      case rel => exact ⟨1, _, rfl, by omega, by first | go_num | simp, by first | go_num | (simp [csz]; try omega), by first | trivial | rfl⟩
      case measure => simp [intOf]
    · simp only [csz]
      go_wp2
      go_roundw
      case rel => exact ⟨2, _, rfl, by omega, by first | go_num | simp, by first | go_num | (simp [csz]; try omega), by first | trivial | rfl⟩
      case measure => simp [intOf]
    · simp only [csz]
      go_wp2_with fail
      refine (grow_any (n1 + n2) _ (by have := hN.out; omega)).mono ?_
      rintro e w1 ⟨A, c, rfl, own1, hbw1⟩
      have H0 := Lib.hid h0
      have H1 := Lib.hid h1
      have HB1 := Lib.hid hb1
      have HB2 := Lib.hid hb2
      clear h0 h1 hb1 hb2
      go_wp2_with fail
      go_loopw [6, 8, 27] (fun s p i wz => ∃ (k : Nat) (v : Value) (A' : Option Addr) (c' n' : Nat), v = p ∧ k ≤ 2 ∧ i = .int .i64 k ∧ s = .slice A' n' c' ∧ Hid (n' = csz n1 n2 k) ∧ Hid (n' = (cpart l1 l2 k).length) ∧ Own wz w.heap.size 5 A' c' (cpart l1 l2 k) ∧ Below w.heap.size w wz) (fun _ _ i _ => 2 - (intOf i).toNat)
      case atStart => exact ⟨0, _, _, _, 0, rfl, by omega, rfl, rfl, Lib.hid rfl, Lib.hid rfl, own1, hbw1⟩
      case round =>
        clear own1 hbw1
        obtain ⟨k, v2, A', c', n', rfl, hk, rfl, rfl, hn', hl', own2, hbw2⟩ := hrel
        have z0 := (hbw2.cell (p := ⟨b, 0, none⟩) hlt).trans H0.out
        have z1 := (hbw2.cell (p := ⟨b, 1, none⟩) hlt).trans H1.out
        have r1 := (HB1.out.below hbw2).more hbw2.size
        have r2 := (HB2.out.below hbw2).more hbw2.size
        have hk3 : k = 0 ∨ k = 1 ∨ k = 2 := by omega
        rcases hk3 with rfl | rfl | rfl
        · simp only [cpart] at own2 hl'
          go_wp2_with (at_builtin; refine wpList_append_bs _ rfl (.tmp 31) (.tmp 32) 26 rfl w.heap.size 5 i0 _ Try.underlying26 hi hz0 hz1 hz2 rfl A' c' [] n' rfl hl'.out own2 _ A1 c1 l1 n1 rfl hn1.out r1 (by have := hm.out; simp; omega) hbw2.size ?_; intro A3 c3 w3 own3 hg3 _)
          have hbw3 := own2.grown hg3 hbw2.size
          go_roundw
          case rel => exact ⟨1, _, A3, c3, n' + n1, rfl, by omega, by first | go_num | simp, by first | rfl | simp, Lib.hid (by have := hn'.out; simp [csz] at *; omega), Lib.hid (by have := hl'.out; have := hn1.out; simp [cpart] at *; omega), by simpa [cpart] using own3, hbw2.trans hbw3⟩
          case measure => simp [intOf]
        · simp only [cpart] at own2 hl'
          go_wp2_with (at_builtin; refine wpList_append_bs _ rfl (.tmp 31) (.tmp 32) 26 rfl w.heap.size 5 i0 _ Try.underlying26 hi hz0 hz1 hz2 rfl A' c' l1 n' rfl hl'.out own2 _ A2 c2 l2 n2 rfl hn2.out r2 (by have := hm.out; omega) hbw2.size ?_; intro A3 c3 w3 own3 hg3 _)
          have hbw3 := own2.grown hg3 hbw2.size
          go_roundw
          case rel => exact ⟨2, _, A3, c3, n' + n2, rfl, by omega, by first | go_num | simp, by first | rfl | simp, Lib.hid (by have := hn'.out; simp [csz] at *; omega), Lib.hid (by have := hl'.out; have := hn2.out; simp [cpart] at *; omega), by simpa [cpart] using own3, hbw2.trans hbw3⟩
          case measure => simp [intOf]
        · simp only [cpart] at own2 hl'
          obtain rfl : n' = n1 + n2 := hn'.out
          go_wp2
          go_ret
          exact ⟨_, _, rfl, own2, hbw2⟩

set_option maxHeartbeats 1000000 in
theorem sclone_any (A : Option Addr) (l : List UInt8) (n c : Nat) (w : World) (hn : Hid (n = l.length)) (hm : Hid (l.length ≤ 1000000000)) (h : Bs w w.heap.size A l) : Calls Try.prog 29 #[.slice A n c] w fun e w' => ∃ A2 c2, e = .returned (.slice A2 n c2) ∧ Own w' w.heap.size 5 A2 c2 l ∧ Below w.heap.size w w' := by
  cases A with
  | none =>
    have hl : l = [] := by
      cases l with
      | nil => rfl
      | cons x t => obtain ⟨b, o, e, _⟩ := h (by simp); cases e
    subst hl
    obtain rfl : n = 0 := hn.out
    have hnl : ∀ w, (binOp .eql 26 (.slice none 0 c) (.slice none 0 0)).run Try.prog w = .ok (.bool true) w := fun w => by simp [binOp, Go.run_equal_slice_nil w 26 5 none 0 c Try.underlying26]
    go_enter Try.func29, Try.ntmps29
    go_wp2
    go_ret
    exact ⟨none, 0, rfl, Own.nil, Below.refl _ _⟩
  | some a =>
    obtain ⟨i0, hi, hz0, hz1, hz2⟩ := info_parts Try.infoU8r
    have ow : Own (w.alloc (.cells #[] 5)) w.heap.size 5 (some ⟨w.heap.size, 0, none⟩) 0 [] := by
      have hr : Raw (w.alloc (.cells #[] 5)) w.heap.size 5 [] := heap_alloc_new w _
      exact hr.own (Nat.le_refl _) (by simp [maxLen])
    have hbw := ba w (.cells #[] 5)
    have hb2 := h.bt hbw
    have hs := hbw.size
    have hnl : ∀ w, (binOp .eql 26 (.slice (some a) n c) (.slice none 0 0)).run Try.prog w = .ok (.bool false) w := fun w => by simp [binOp, Go.run_equal_slice_nil w 26 5 (some a) n c Try.underlying26]
    go_enter Try.func29, Try.ntmps29
    go_wp2_with (at_builtin; refine wpList_append_bs _ rfl _ _ 26 rfl w.heap.size 5 i0 _ Try.underlying26 hi hz0 hz1 hz2 rfl (some ⟨w.heap.size, 0, none⟩) 0 [] 0 rfl rfl ow _ (some a) c l n rfl hn.out hb2 (by have := hm.out; simp; omega) hs ?_; intro A4 cA4 w4 own4 hg4 _)
    go_ret
    rw [List.nil_append] at own4
    exact ⟨A4, cA4, by first | rfl | simp, own4, hbw.grown hg4 hs (fun k e => (ow.lt _ e).1)⟩
end Go.Proofs.Ytgbcjimfpoeicaa
