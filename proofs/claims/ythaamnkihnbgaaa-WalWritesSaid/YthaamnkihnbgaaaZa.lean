/- Layer 3: a record's bytes: put, get, fresh, Write. -/
import Derived.Test.YthaamnkihnbgaaaPutP
import Derived.Test.YthaamnkihnbgaaaGetQ
import Derived.Test.YthaamnkihnbgaaaSumS
import Derived.Test.YthaamnkihnbgaaaBlk
namespace Go.Proofs.Ythaamnkihnbgaaa
open Go.RowKit
set_option linter.unusedVariables false
set_option linter.unusedSimpArgs false

theorem wput (v m : Nat) (w : World) (h1 : 1 ≤ m) (h8 : m ≤ 8) (hv : v < 4611686018427387904) (h : v / 256 ^ m = 0) :
    Calls Try.prog 38 #[.int .i64 v, .int .i64 m] w fun e w' => ∃ A c, e = .returned (.slice A m c) ∧ Own w' w.heap.size 5 A c (putL v m) ∧ Below w.heap.size w w' := by
  have hput := put_fits v m w (by omega) h1 h8 h
  have hcv : IntKind.u64.wrap (v : Int) = (v : Int) := IntWalk.u64_in _ (by omega)
  clear h
  go_enter Try.func38, Try.ntmps38
  go_wp2_with fail
  refine hput.mono ?_
  rintro e w1 ⟨A, c, rfl, own1, hb1⟩
  simp only [putL_length] at own1
  go_wp2
  go_ret
  exact ⟨A, c, by first | rfl | (simp only [putL_length]; rfl), own1, hb1⟩

theorem num_small (l : List UInt8) (h : l.length ≤ 4) : num l < 4294967296 := by
  have := num_lt l
  have : (256 : Nat) ^ l.length ≤ 256 ^ 4 := Nat.pow_le_pow_right (by omega) h
  omega
theorem wget (A : Option Addr) (l : List UInt8) (n c : Nat) (w : World) (hn : n = l.length) (h1 : 1 ≤ n) (h4 : n ≤ 4) (h : Bs w w.heap.size A l) :
    Calls Try.prog 56 #[.slice A n c] w fun e w' => e = .returned (.int .i64 (num l)) ∧ w = w' := by
  subst hn
  have hget := get_any A l c w (by omega) h
  rw [show getR l = (num l, 0) from if_pos ⟨h1, by omega⟩] at hget
  have hcv : IntKind.i64.wrap (num l : Int) = (num l : Int) := IntWalk.i64_in _ (by have := num_small l h4; omega)
  clear h1 h4
  go_enter Try.func56, Try.ntmps56
  go_wp2_with fail
  refine hget.mono ?_
  rintro e w1 ⟨rfl, rfl⟩
  go_wp2
  go_ret
  exact ⟨rfl, rfl⟩

theorem Try.infoU8z : (Try.prog.info? 5).map (fun i => (i.zero, i.size, i.bytes)) = some (some (.int .u8 0), 1, 1) := by kernel_rfl
set_option maxHeartbeats 1000000 in
theorem fresh_any (A : Option Addr) (l : List UInt8) (n c : Nat) (w : World) (hn : n = l.length) (hm : n ≤ 100000000) (h : Bs w w.heap.size A l) :
    Calls Try.prog 57 #[.slice A n c] w fun e w' => e = .returned (.slice (some ⟨w.heap.size, 0, none⟩) n n) ∧ Raw w' w.heap.size 5 l ∧ Below w.heap.size w w' := by
  obtain ⟨i0, hi, hz0, hz1, hz2⟩ := info_parts Try.infoU8z
  have hnI : ¬ (n : Int) < 0 := by omega
  have Hn := Lib.hid hn
  have Hm := Lib.hid hm
  clear hn hm
  go_enter Try.func57, Try.ntmps57
  go_wp2_with (first
    | (at_make; refine wpList_make_raw _ rfl _ _ 22 rfl 5 i0 Try.underlying22 hi hz0 hz1 hz2 .i64 .i64 _ _ n rfl rfl rfl rfl (by have := Hm.out; omega) ?_; intro w1 hr1 hb1)
    | (with_reducible refine wpList_copy_raw rfl (.tmp 7) (.tmp 8) 22 rfl 5 i0 Try.underlying22 hi hz1 _ _ _ _ _ _ rfl rfl w.heap.size 0 _ hr1 w.heap.size l (h.below hb1) Hn.out (by rw [Hn.out]; exact Nat.le_refl _) (fun _ => rfl) (by simp [Hn.out]) w.heap.size w hb1 (Nat.le_refl _) ?_))
  intro w2 hr2 hb2
  have h2 := hr2.out
  have e := splice_head l 0
  rw [Nat.add_zero] at e
  rw [Hn.out, e] at h2
  simp only [List.replicate_zero, List.append_nil] at h2
  clear hr1 hr2 e
  go_wp2
  go_ret
  exact ⟨rfl, h2, hb2⟩

/-- A record's bytes. -/
def headL (k : Nat) (d : List UInt8) : List UInt8 := putL d.length 2 ++ putL k 1 ++ d
def recL (k : Nat) (d : List UInt8) : List UInt8 := headL k d ++ putL (sumR (headL k d)) 4
theorem headL_length (k : Nat) (d : List UInt8) : (headL k d).length = d.length + 3 := by unfold headL; simp only [List.length_append, putL_length]; omega
theorem recL_length (k : Nat) (d : List UInt8) : (recL k d).length = d.length + 7 := by unfold recL; simp only [List.length_append, putL_length, headL_length]
def writeR (k : Int) (d : List UInt8) : List UInt8 × Int := if k < 1 ∨ 255 < k then ([], 30) else if 1024 < d.length then ([], 2) else (recL k.toNat d, 0)

/-- The boxed record, while Write runs. -/
structure BoxIn (w : World) (v0 v1 : Value) (W : World) : Prop where
  bel : Below w.heap.size w W
  box : Blk W w.heap.size 24 #[v0, v1]
  sz : w.heap.size + 1 ≤ W.heap.size
section
variable {w W W' : World} {v0 v1 : Value}
theorem BoxIn.below (h : BoxIn w v0 v1 W) (hb : Below W.heap.size W W') : BoxIn w v0 v1 W' := ⟨bt h.bel hb, h.box.below hb h.box.lt, Nat.le_trans h.sz hb.size⟩
theorem BoxIn.row (h : BoxIn w v0 v1 W) {A : Option Addr} {c : Nat} {l : List UInt8} (ho : Own W (w.heap.size + 1) 5 A c l) (hg : W.grownBy W' (blk A)) : BoxIn w v0 v1 W' :=
  ⟨h.bel.grown hg h.bel.size (fun k e => by have := (ho.lt k e).1; omega), h.box.kept hg (fun e => by have := (ho.lt _ e.symm).1; omega), Nat.le_trans h.sz hg.size⟩
theorem BoxIn.c0 (h : BoxIn w v0 v1 W) : W.cell? ⟨w.heap.size, 0, none⟩ = some v0 := h.box.cell 0
theorem BoxIn.c1 (h : BoxIn w v0 v1 W) : W.cell? ⟨w.heap.size, 1, none⟩ = some v1 := h.box.cell 1
end

set_option maxRecDepth 100000 in
set_option maxHeartbeats 2000000 in
theorem write_any (k : Int) (A : Option Addr) (d : List UInt8) (n c : Nat) (w : World) (hn : n = d.length) (hm : n ≤ maxLen) (h : Bs w w.heap.size A d) :
    Calls Try.prog 12 #[.agg #[.int .i64 k, .slice A n c]] w (OutB w (writeR k d)) := by
  unfold maxLen at hm
  have Hn := Lib.hid hn
  have HB := Lib.hid h
  by_cases h1 : k < 1
  · rw [show writeR k d = ([], 30) from if_pos (.inl h1)]
    clear hn hm h
    go_enter Try.func12, Try.ntmps12
    go_wp2
    go_ret2
    exact ⟨none, 0, rfl, Own.nil, ba _ _⟩
  by_cases h2 : 255 < k
  · rw [show writeR k d = ([], 30) from if_pos (.inr h2)]
    clear hn hm h
    go_enter Try.func12, Try.ntmps12
    go_wp2
    go_ret2
    exact ⟨none, 0, rfl, Own.nil, ba _ _⟩
  by_cases h3 : (1024 : Int) < (n : Int)
  · rw [show writeR k d = ([], 2) from by unfold writeR; rw [if_neg (by omega), if_pos (by omega)]]
    clear hn hm h
    go_enter Try.func12, Try.ntmps12
    go_wp2
    go_ret2
    exact ⟨none, 0, rfl, Own.nil, ba _ _⟩
  rw [show writeR k d = (recL k.toNat d, 0) from by unfold writeR; rw [if_neg (by omega), if_neg (by omega)]]
  obtain ⟨K, rfl⟩ := Int.eq_ofNat_of_zero_le (show 0 ≤ k by omega)
  rw [Int.toNat_natCast]
  obtain ⟨i0, hi, hz0, hz1, hz2⟩ := info_parts Try.infoU8z
  have p1 := fun (w' : World) => wput n 2 w' (by omega) (by omega) (by omega) (by omega)
  have p2 := fun (w' : World) => wput K 1 w' (by omega) (by omega) (by omega) (by omega)
  have p3 := fun (w' : World) => wput (sumR (headL K d)) 4 w' (by omega) (by omega) (by have := sumR_lt (headL K d); omega) (by have := sumR_lt (headL K d); omega)
  have hhl := headL_length K d
  rw [← hn] at hhl
  have hH : headL K d = putL n 2 ++ putL K 1 ++ d := by unfold headL; rw [hn]
  have g1 : IntKind.i64.wrap (3 + (n : Int)) = 3 + (n : Int) := IntWalk.i64_in _ (by omega)
  have g2 : IntKind.i64.wrap (3 + (n : Int) + 4) = 3 + (n : Int) + 4 := IntWalk.i64_in _ (by omega)
  have gs : IntKind.i64.wrap (sumR (headL K d) : Int) = (sumR (headL K d) : Int) := IntWalk.i64_in _ (by have := sumR_lt (headL K d); omega)
  have g3 : ¬ (3 + (n : Int) + 4 < 0) := by omega
  have Hs := Lib.hid (And.intro hhl hH)
  have P1 := Lib.hid p1
  have P2 := Lib.hid p2
  have P3 := Lib.hid p3
  have Hm := Lib.hid (show n ≤ 1024 by omega)
  clear hn hm h p1 p2 p3 hhl hH
  go_enter Try.func12, Try.ntmps12
  have hbx : BoxIn w (.int .i64 (K : Int)) (.slice A n c) (w.alloc (.cells #[.int .i64 (K : Int), .slice A n c] 24)) := ⟨ba _ _, Blk.new _ _ _, by simp⟩
  go_wp2_with (at_make; refine wpList_make_own _ rfl _ _ 22 rfl (w.heap.size + 1) 5 i0 _ 1 Try.underlying22 hi hz0 hz1 .i64 .i64 _ (3 + n + 4) rfl rfl (by omega) (by rw [hz2]; omega) (by simp only [maxLen]; omega) (by simp) ?_; intro w1 hown hgr; have hx1 := hbx.below (below_none hgr); have d0 := hx1.c0; have d1 := hx1.c1)
  have own0 : Own w1 (w.heap.size + 1) 5 (some ⟨w.heap.size + 1, 0, none⟩) (3 + n + 4) [] := by
    have h2 := hown
    rw [World.size_alloc] at h2
    exact h2
  clear hbx hown hgr
  refine (P1.out _).mono ?_
  rintro e w2 ⟨A2, c2, rfl, own2, hb2⟩
  have own0' := own0.below hb2 (Nat.le_refl _)
  have hx2 := hx1.below hb2
  clear own0 hx1 hb2 d0 d1
  go_wp2_with (at_builtin; refine wpList_append_bs _ rfl (.tmp 23) (.tmp 27) 22 rfl (w.heap.size + 1) 5 i0 _ Try.underlying22 hi hz0 hz1 hz2 rfl _ _ [] 0 rfl rfl own0' w2.heap.size A2 c2 (putL n 2) 2 rfl rfl own2.bs (by rw [putL_length]; simp) hx2.sz ?_; intro A3 c3 w3 own3 hg3 _; have hx3 := hx2.row own0' hg3; have d0 := hx3.c0; clear own0' hg3 hx2 own2)
  refine (P2.out _).mono ?_
  rintro e w4 ⟨A4, c4, rfl, own4, hb4⟩
  have own3' := own3.below hb4 (Nat.le_refl _)
  have hx4 := hx3.below hb4
  clear own3 hx3 hb4 d0
  go_wp2_with (first
    | (at_builtin; refine wpList_append_bs _ rfl (.tmp 29) (.tmp 32) 22 rfl (w.heap.size + 1) 5 i0 _ Try.underlying22 hi hz0 hz1 hz2 rfl A3 c3 ([] ++ putL n 2) (0 + 2) rfl rfl own3' w4.heap.size A4 c4 (putL K 1) 1 rfl rfl own4.bs ?_ hx4.sz ?_; (simp only [List.nil_append, putL_length]; omega); intro A5 c5 w5 own5 hg5 _; have hx5 := hx4.row own3' hg5; have d1 := hx5.c1; have hbd := HB.out.bt hx5.bel; clear own3' hg5 hx4 own4)
    | (at_builtin; refine wpList_append_bs _ rfl (.tmp 34) (.tmp 36) 22 rfl (w.heap.size + 1) 5 i0 _ Try.underlying22 hi hz0 hz1 hz2 rfl A5 c5 ([] ++ putL n 2 ++ putL K 1) (0 + 2 + 1) rfl rfl own5 w5.heap.size A c d n rfl Hn.out hbd ?_ hx5.sz ?_; (have := Hm.out; have := Hn.out; simp only [List.nil_append, List.length_append, putL_length]; omega); intro A6 c6 w6 own6 hg6 _; have hx6 := hx5.row own5 hg6; clear own5 hg6 hx5 hbd d1))
  have hHd : [] ++ putL n 2 ++ putL K 1 ++ d = headL K d := by rw [Hs.out.2]; simp
  have hl3 : (headL K d).length = 3 + n := by rw [Hs.out.1]; omega
  rw [hHd] at own6
  have hsum := sum_any A6 (headL K d) c6 w6 (by rw [hl3]; have := Hm.out; omega) own6.bs
  rw [hl3] at hsum
  have Hl3 := Lib.hid hl3
  clear hHd hl3
  refine hsum.mono ?_
  rintro e w7 ⟨rfl, rfl⟩
  clear hsum
  go_wp2_with fail
  refine (P3.out _).mono ?_
  rintro e w8 ⟨A8, c8, rfl, own8, hb8⟩
  have own6' := own6.below hb8 (Nat.le_refl _)
  have hx8 := hx6.below hb8
  clear own6 hx6 hb8
  go_wp2_with (at_builtin; refine wpList_append_bs _ rfl (.tmp 38) (.tmp 42) 22 rfl (w.heap.size + 1) 5 i0 _ Try.underlying22 hi hz0 hz1 hz2 rfl A6 c6 (headL K d) (3 + n) rfl Hl3.out.symm own6' w8.heap.size A8 c8 (putL (sumR (headL K d)) 4) 4 rfl rfl own8.bs ?_ hx8.sz ?_; (rw [Hl3.out, putL_length]; have := Hm.out; omega); intro A9 c9 w9 own9 hg9 _; have hx9 := hx8.row own6' hg9; clear own6' hg9 hx8 own8)
  go_ret2
  have hfin : 3 + n + 4 = (recL K d).length := by rw [recL_length, ← Hn.out]; omega
  exact ⟨A9, c9, by rw [← hfin]; rfl, (show Own w9 (w.heap.size + 1) 5 A9 c9 (recL K d) from own9).base_le (by omega), hx9.bel⟩
end Go.Proofs.Ythaamnkihnbgaaa
