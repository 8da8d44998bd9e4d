/- Layer 11: alive. -/
import Derived.Test.YtgbcjimfpoeicaaRf
namespace Go.Proofs.Ytgbcjimfpoeicaa
open Go.RowKit
set_option linter.unusedVariables false
set_option linter.unusedSimpArgs false

theorem conv_n (A : Option Addr) (l : List UInt8) (n c : Nat) (hn : Hid (n = l.length)) (w : World) (B : Nat) (h : Bs w B A l) : (convert 26 9 (.slice A n c)).run Try.prog w = .ok (.string ⟨l.toArray⟩) w := by
  rw [hn.out]; exact conv_bytes Try.underlying26 Try.underlying5 Try.underlying9 h _

set_option maxHeartbeats 2000000 in
theorem alive_any (w : World) : Calls Try.prog 9 #[] w fun e w' => e = .returned (.bool true) ∧ Below w.heap.size w w' := by
  go_enter Try.func9, Try.ntmps9
  go_wp2_with fail
  refine (new_any _).mono ?_
  rintro e w1 ⟨rfl, S1, hb1⟩
  have hba := ba w1 (.cells #[.int .u8 0, .int .u8 4, .int .u8 7] 5)
  have S2 := S1.below hba
  have hb2 := bt hb1 hba
  have hbs : Bs (w1.alloc (.cells #[.int .u8 0, .int .u8 4, .int .u8 7] 5)) (w1.alloc (.cells #[.int .u8 0, .int .u8 4, .int .u8 7] 5)).heap.size (some ⟨w1.heap.size, 0, none⟩) [0, 4, 7] := Bs.lit' rfl rfl
  have hp := put_ok S2 (some ⟨w1.heap.size, 0, none⟩) [0, 4, 7] 3 3 (Lib.hid rfl) hbs (by simp)
  clear S1 S2 hbs hb1 hba
  go_wp2_with fail
  refine hp.mono ?_
  clear hp
  rintro e w3 ⟨rfl, S3, hg3⟩
  have hb3 := hb2.trans (below_of hg3 (Nat.le_refl _) hb2.size)
  have hq := get_any S3 9 (by omega)
  rw [show getM 0 ([] ++ [0, 4, 7]) false 9 = (([], false, 140), 0, [0, 4, 7]) by decide] at hq
  clear hg3 hb2 S3
  go_wp2_with fail
  refine hq.mono ?_
  clear hq
  rintro e w4 ⟨A4, n4, c4, rfl, hn4, own4, S4, hg4⟩
  have hb4 := hb3.trans (below_of hg4 (Nat.le_refl _) hb3.size)
  simp only at S4
  have hba := ba w4 (.cells #[.int .u8 8] 5)
  have S5 := S4.below hba
  have hb5 := bt hb4 hba
  have hbs : Bs (w4.alloc (.cells #[.int .u8 8] 5)) (w4.alloc (.cells #[.int .u8 8] 5)).heap.size (some ⟨w4.heap.size, 0, none⟩) [8] := Bs.lit' rfl rfl
  have hp := put_ok S5 (some ⟨w4.heap.size, 0, none⟩) [8] 1 1 (Lib.hid rfl) hbs (by simp)
  clear S4 S5 hbs hb4 hba own4 hg4 hb3 hn4
  simp only
  go_wp2_with fail
  refine hp.mono ?_
  clear hp
  rintro e w6 ⟨rfl, S6, hg6⟩
  have hb6 := hb5.trans (below_of hg6 (Nat.le_refl _) hb5.size)
  have hq := get_any S6 3 (by omega)
  rw [show getM 0 ([0, 4, 7] ++ [8]) false 3 = (([0, 4, 7], false, 0), 1, [8]) by decide] at hq
  clear hg6 hb5 S6
  go_wp2_with fail
  refine hq.mono ?_
  clear hq
  rintro e w7 ⟨A7, n7, c7, rfl, hn7, own7, S7, hg7⟩
  obtain rfl : n7 = 3 := hn7.out
  have hb7 := hb6.trans (below_of hg7 (Nat.le_refl _) hb6.size)
  simp only at S7 own7
  have hq := get_any S7 3 (by omega)
  rw [show getM 1 [8] false 3 = (([8], true, 0), 0, []) by decide] at hq
  clear hg7 hb6 hn7
  simp only
  go_wp2_with fail
  refine hq.mono ?_
  clear hq
  rintro e w8 ⟨A8, n8, c8, rfl, hn8, own8, S8, hg8⟩
  obtain rfl : n8 = 1 := hn8.out
  have hb8 := hb7.trans (below_of hg8 (Nat.le_refl _) hb7.size)
  obtain ⟨A, n, c, bk, _⟩ := S7.at_
  have own7' := own7.kept hg8 (.inr (fun e => own7.ne_blk' bk stream_ne e.symm))
  have cv0 := conv_n A7 [0, 4, 7] 3 c7 (Lib.hid rfl) w8 _ own7'.bs
  have cv1 := conv_n A8 [8] 1 c8 (Lib.hid rfl) w8 _ own8.bs
  clear hg8 hb7 hn8 own7 own8 own7' S7 S8 bk
  simp only
  go_wp2
  go_ret
  exact ⟨by simp, hb8⟩
end Go.Proofs.Ytgbcjimfpoeicaa
