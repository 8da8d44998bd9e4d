/- Layer 11: Write. -/
import Derived.Test.YtgbcjimfpoeicaaRg
namespace Go.Proofs.Ytgbcjimfpoeicaa
open Go.RowKit
set_option linter.unusedVariables false
set_option linter.unusedSimpArgs false

theorem write_long (A : Option Addr) (n c : Nat) (w : World) (h : 32765 < n) (hm : n ≤ 9223372036854775000) : Calls Try.prog 19 #[.slice A n c] w fun e w' => e = .returned (.tuple #[.slice none 0 0, .int .i64 2]) ∧ w = w' := by
  have e1 : IntKind.i64.wrap (2 + (n : Int)) = 2 + (n : Int) := IntWalk.i64_in _ (by omega)
  have d1 : decide (32767 < 2 + (n : Int)) = true := by simp; omega
  go_enter Try.func19, Try.ntmps19
  go_wp2
  go_ret2
  exact ⟨rfl, rfl⟩

theorem write_ok (A : Option Addr) (l : List UInt8) (n c : Nat) (w : World) (hn : Hid (n = l.length)) (h : n ≤ 32765) (hb : Bs w w.heap.size A l) : Calls Try.prog 19 #[.slice A n c] w fun e w' => ∃ A2 c2, e = .returned (.tuple #[.slice A2 (n + 2) c2, .int .i64 0]) ∧ Own w' w.heap.size 5 A2 c2 (UInt8.ofNat ((n + 2) / 256) :: UInt8.ofNat ((n + 2) % 256) :: l) ∧ Below w.heap.size w w' := by
  have e1 : IntKind.i64.wrap (2 + (n : Int)) = ((n + 2 : Nat) : Int) := by rw [IntWalk.i64_in _ (by omega)]; omega
  obtain ⟨q, hq⟩ : ∃ q, q = n + 2 := ⟨_, rfl⟩
  rw [← hq] at e1 ⊢
  have d1 : decide (32767 < (q : Int)) = false := by simp; omega
  have hq2 := Lib.hid (show q < 32768 by omega)
  have HQ := Lib.hid hq
  clear hq h
  go_enter Try.func19, Try.ntmps19
  go_wp2_with fail
  have x1 : ((q : Int) / 256 % 256) = ((UInt8.ofNat (q / 256)).toNat : Int) := by have := hq2.out; simp only [UInt8.toNat_ofNat']; omega
  have x2 : ((q : Int) % 256) = ((UInt8.ofNat (q % 256)).toNat : Int) := by simp only [UInt8.toNat_ofNat']; omega
  have t1 := Bs.two (w := w) (t := 5) x1 x2
  have ba1 := ba w (.cells #[.int .u8 ((q : Int) / 256 % 256), .int .u8 ((q : Int) % 256)] 5)
  have hb1 := hb.bt ba1
  generalize hw1 : w.alloc (.cells #[.int .u8 ((q : Int) / 256 % 256), .int .u8 ((q : Int) % 256)] 5) = w1 at *
  have hs1 : w1.heap.size = w.heap.size + 1 := by rw [← hw1]; simp
  rw [← hs1] at t1 ⊢
  have ba2 := ba w1 (.cells #[.slice (some ⟨w.heap.size, 0, none⟩) 2 2, .slice A n c] 26)
  have hcc := concat2 w1.heap.size (some ⟨w.heap.size, 0, none⟩) A [UInt8.ofNat (q / 256), UInt8.ofNat (q % 256)] l 2 n 2 c (Lib.hid rfl) hn (w1.alloc (.cells #[.slice (some ⟨w.heap.size, 0, none⟩) 2 2, .slice A n c] 26)) (by simp) (by rw [World.cell?_alloc_at _ _ _ _ rfl]; rfl) (by rw [World.cell?_alloc_at _ _ _ _ rfl]; rfl) (t1.bt ba2) (hb1.bt ba2) (Lib.hid (by have := hq2.out; have := HQ.out; have := hn.out; simp; omega))
  have hb3 := bt ba1 ba2
  generalize (w1.alloc (.cells #[.slice (some ⟨w.heap.size, 0, none⟩) 2 2, .slice A n c] 26)) = w2 at *
  have e2 : 2 + n = q := by have := HQ.out; omega
  rw [e2] at hcc
  clear hw1 t1 ba1 hb1 ba2 x1 x2 e1 e2
  refine hcc.mono ?_
  clear hcc
  rintro e w3 ⟨A3, c3, rfl, own3, hb4⟩
  go_wp2
  go_ret2
  exact ⟨A3, c3, rfl, own3.base_le hb3.size, bt hb3 hb4⟩
end Go.Proofs.Ytgbcjimfpoeicaa
