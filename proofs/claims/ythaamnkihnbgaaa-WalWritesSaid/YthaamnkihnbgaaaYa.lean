/- Layer 3: the document's bytes of a record. -/
import Derived.Test.YthaamnkihnbgaaaZa
import Derived.Test.YthaamnkihnbgaaaPutR
namespace Go.Proofs.Ythaamnkihnbgaaa
open Go.RowKit
set_option linter.unusedVariables false
set_option linter.unusedSimpArgs false

set_option maxRecDepth 100000 in
set_option maxHeartbeats 2000000 in
theorem refwrite_any (k : Int) (A : Option Addr) (d : List UInt8) (n c : Nat) (w : World) (hn : n = d.length) (hm : n ≤ maxLen) (h : Bs w w.heap.size A d) :
    Calls Try.prog 13 #[.agg #[.int .i64 k, .slice A n c]] w (OutB w (writeR k d)) := by
  unfold maxLen at hm
  have Hn := Lib.hid hn
  have HB := Lib.hid h
  by_cases h1 : k < 1
  · rw [show writeR k d = ([], 30) from if_pos (.inl h1)]
    clear hn hm h
    go_enter Try.func13, Try.ntmps13
    go_wp2
    go_ret2
    exact ⟨none, 0, rfl, Own.nil, ba _ _⟩
  by_cases h2 : 255 < k
  · rw [show writeR k d = ([], 30) from if_pos (.inr h2)]
    clear hn hm h
    go_enter Try.func13, Try.ntmps13
    go_wp2
    go_ret2
    exact ⟨none, 0, rfl, Own.nil, ba _ _⟩
  by_cases h3 : (1024 : Int) < (n : Int)
  · rw [show writeR k d = ([], 2) from by unfold writeR; rw [if_neg (by omega), if_pos (by omega)]]
    clear hn hm h
    go_enter Try.func13, Try.ntmps13
    go_wp2
    go_ret2
    exact ⟨none, 0, rfl, Own.nil, ba _ _⟩
  rw [show writeR k d = (recL k.toNat d, 0) from by unfold writeR; rw [if_neg (by omega), if_neg (by omega)]]
  obtain ⟨K, rfl⟩ := Int.eq_ofNat_of_zero_le (show 0 ≤ k by omega)
  rw [Int.toNat_natCast]
  obtain ⟨i0, hi, hz0, hz1, hz2⟩ := info_parts Try.infoU8z
  have p1 := fun (w' : World) => refput_any n 2 w' (by omega)
  rw [show putR n 2 = (putL n 2, 0) from by unfold putR; rw [if_pos (by omega)]; simp; omega] at p1
  have p3 := fun (w' : World) => refput_any (sumR (headL K d)) 4 w' (by have := sumR_lt (headL K d); omega)
  rw [show putR (sumR (headL K d)) 4 = (putL (sumR (headL K d)) 4, 0) from by have := sumR_lt (headL K d); unfold putR; rw [if_pos (by omega)]; simp; omega] at p3
  have hhl := headL_length K d
  rw [← hn] at hhl
  have hH : headL K d = putL n 2 ++ [UInt8.ofNat (K % 256)] ++ d := by unfold headL; rw [hn]; simp [putL]
  have g1 : IntKind.u64.wrap (n : Int) = (n : Int) := IntWalk.u64_in _ (by omega)
  have gs : IntKind.u64.wrap (sumR (headL K d) : Int) = (sumR (headL K d) : Int) := IntWalk.u64_in _ (by have := sumR_lt (headL K d); omega)
  have HKb : Hid ((K : Int) = ((UInt8.ofNat (K % 256)).toNat : Int)) := Lib.hid (by rw [Nat.mod_eq_of_lt (by omega)]; simp; omega)
  have Hs := Lib.hid (And.intro hhl hH)
  have P1 := Lib.hid p1
  have P3 := Lib.hid p3
  have Hm := Lib.hid (show n ≤ 1024 by omega)
  clear hn hm h p1 p3 hhl hH
  go_enter Try.func13, Try.ntmps13
  have hbx : BoxIn w (.int .i64 (K : Int)) (.slice A n c) (w.alloc (.cells #[.int .i64 (K : Int), .slice A n c] 24)) := ⟨ba _ _, Blk.new _ _ _, by simp⟩
  have d0 := hbx.c0
  have d1 := hbx.c1
  go_wp2_with fail
  refine (P1.out _).mono ?_
  rintro e w2 ⟨A2, c2, rfl, own2, hb2⟩
  rw [World.size_alloc] at own2
  dsimp only at own2
  have hx2 := hbx.below hb2
  clear hbx hb2 d0 d1
  have d0 := hx2.c0
  have d1 := hx2.c1
  have own2a := own2.alloc (.cells #[.int .u8 (K : Int)] 5)
  have hx2a := hx2.below (ba w2 (.cells #[.int .u8 (K : Int)] 5))
  have Hl2 : Hid (2 = (putL n 2).length) := Lib.hid (by rw [putL_length])
  simp only [putL_length]
  go_wp2_with (first
    | (at_builtin; (refine wpList_append_one _ rfl (.tmp 28) (.tmp 32) 22 rfl (w.heap.size + 1) 5 i0 _ Try.underlying22 hi hz0 hz1 hz2 rfl A2 c2 (putL n 2) 2 rfl Hl2.out own2a _ _ _ rfl (UInt8.ofNat (K % 256)) (cell_new1' _ _ _ _ HKb.out) (by omega) hx2a.sz ?_; intro A5 c5 w5 own5 hg5 _; have hx5 := hx2a.row own2a hg5; have d1 := hx5.c1; have hbd := HB.out.bt hx5.bel; clear hg5 own2 own2a hx2 hx2a))
    | (at_builtin; refine wpList_append_bs _ rfl (.tmp 34) (.tmp 36) 22 rfl (w.heap.size + 1) 5 i0 _ Try.underlying22 hi hz0 hz1 hz2 rfl A5 c5 (putL n 2 ++ [UInt8.ofNat (K % 256)]) (2 + 1) rfl (by simp only [List.length_append, putL_length, List.length_singleton]) own5 w5.heap.size A c d n rfl Hn.out hbd ?_ hx5.sz ?_; (have := Hm.out; have := Hn.out; simp only [List.length_append, putL_length, List.length_singleton]; omega); intro A6 c6 w6 own6 hg6 _; have hx6 := hx5.row own5 hg6; clear own5 hg6 hx5 hbd d1))
  have hHd : putL n 2 ++ [UInt8.ofNat (K % 256)] ++ d = headL K d := Hs.out.2.symm
  have hl3 : (headL K d).length = 2 + 1 + n := by rw [Hs.out.1]; omega
  rw [hHd] at own6
  have hsum := refsum_any A6 (headL K d) c6 w6 (by rw [hl3]; have := Hm.out; omega) own6.bs
  rw [hl3] at hsum
  have Hl3 := Lib.hid hl3
  clear hHd hl3
  refine hsum.mono ?_
  rintro e w7 ⟨rfl, rfl⟩
  clear hsum
  go_wp2_with fail
  refine (P3.out _).mono ?_
  rintro e w8 ⟨A8, c8, rfl, own8, hb8⟩
  have own6' := own6.below hb8 (Nat.le_refl _)
  have hx8 := hx6.below hb8
  clear own6 hx6 hb8
  go_wp2_with (at_builtin; refine wpList_append_bs _ rfl (.tmp 45) (.tmp 46) 22 rfl (w.heap.size + 1) 5 i0 _ Try.underlying22 hi hz0 hz1 hz2 rfl A6 c6 (headL K d) (2 + 1 + n) rfl Hl3.out.symm own6' w8.heap.size A8 c8 (putL (sumR (headL K d)) 4) 4 rfl (by rw [putL_length]) own8.bs ?_ hx8.sz ?_; (rw [Hl3.out, putL_length]; have := Hm.out; omega); intro A9 c9 w9 own9 hg9 _; have hx9 := hx8.row own6' hg9; clear own6' hg9 hx8 own8)
  go_ret2
  have hfin : 2 + 1 + n + 4 = (recL K d).length := by rw [recL_length, ← Hn.out]; omega
  exact ⟨A9, c9, by rw [← hfin]; rfl, (show Own w9 (w.heap.size + 1) 5 A9 c9 (recL K d) from own9).base_le (by omega), hx9.bel⟩
end Go.Proofs.Ythaamnkihnbgaaa
