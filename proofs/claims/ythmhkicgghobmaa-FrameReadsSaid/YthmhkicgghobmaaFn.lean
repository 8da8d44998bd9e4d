/- Layer 7: any bytes are read as a frame, or what is wrong is told. -/
import Derived.Test.YthmhkicgghobmaaFm
namespace Go.Proofs.Ythmhkicgghobmaa
open Go.RowKit
set_option linter.unusedVariables false
set_option linter.unusedSimpArgs false

theorem rread_any (A : Option Addr) (b : List UInt8) (n c : Nat) (hn : Hid (n = b.length)) (hc : Hid (n ≤ c)) (hcm : Hid (c ≤ 9223372036854775807)) (w : World) (hs : Bs w w.heap.size A b) (S Q Z : Nat) (D : List UInt8) (E : Int) (hR : Hid (readF b = (S, Q, Z, D, E))) : Calls Try.prog 15 #[.slice A n c] w (RdO w S Q Z D E) := by
  have h := hR.out
  have hnn := hn.out
  unfold readF at h
  split at h
  · simp only [Prod.mk.injEq] at h
    obtain ⟨rfl, rfl, rfl, rfl, rfl⟩ := h
    exact rread_few A n c w (decide_eq_true (by omega))
  · rename_i h14
    obtain ⟨B, o, rfl, hB, hcell⟩ := hs (by omega)
    split at h
    · rename_i h2
      simp only [Prod.mk.injEq] at h
      obtain ⟨rfl, rfl, rfl, rfl, rfl⟩ := h
      exact rread_2 B o c n (kF b) (10 + kF b) (14 + kF b) b w hn hc hcm (Lib.hid (by omega)) hs (Lib.hid rfl) (Lib.hid rfl) (Lib.hid (by omega)) (by omega)
    · split at h
      · rename_i h2 h3
        simp only [Prod.mk.injEq] at h
        obtain ⟨rfl, rfl, rfl, rfl, rfl⟩ := h
        exact rread_3 B o c n (kF b) (10 + kF b) (14 + kF b) b w hn hc hcm (Lib.hid (by omega)) hs (Lib.hid rfl) (Lib.hid rfl) (Lib.hid (by omega)) (by omega) (by omega)
      · rename_i h2 h3
        split at h
        · rename_i h4
          split at h
          · rename_i h5
            simp only [Prod.mk.injEq] at h
            obtain ⟨rfl, rfl, rfl, rfl, rfl⟩ := h
            exact rread_6 B o c n (kF b) (10 + kF b) b w hn hc hcm (Lib.hid (by omega)) hs (Lib.hid rfl) (Lib.hid rfl) (Lib.hid (by omega)) _ _ (Lib.hid rfl) (Lib.hid rfl) (by rw [h4]; simp) _ _ _ _ (Lib.hid rfl) (Lib.hid rfl) (Lib.hid rfl) (Lib.hid rfl) (Lib.hid h5)
          · rename_i h5
            simp only [Prod.mk.injEq] at h
            obtain ⟨rfl, rfl, rfl, rfl, rfl⟩ := h
            exact rread_5 B o c n (kF b) (10 + kF b) b w hn hc hcm (Lib.hid (by omega)) hs (Lib.hid rfl) (Lib.hid rfl) (Lib.hid (by omega)) _ _ (Lib.hid rfl) (Lib.hid rfl) (by rw [h4]; simp) _ _ _ _ (Lib.hid rfl) (Lib.hid rfl) (Lib.hid rfl) (Lib.hid rfl) (Lib.hid (by simpa using h5))
        · rename_i h4
          simp only [Prod.mk.injEq] at h
          obtain ⟨rfl, rfl, rfl, rfl, rfl⟩ := h
          exact rread_4 B o c n (kF b) (10 + kF b) b w hn hc hcm (Lib.hid (by omega)) hs (Lib.hid rfl) (Lib.hid rfl) (Lib.hid (by omega)) _ _ (Lib.hid rfl) (Lib.hid rfl) (bne_iff_ne.2 (by omega))

theorem reads_big (A : Option Addr) (n c : Nat) (w : World) (hb : decide (2000 < (n : Int)) = true) : Calls Try.prog 4 #[.slice A n c] w fun e w' => e = .returned (.bool true) ∧ Below w.heap.size w w' := by
  go_enter Try.func4, Try.ntmps4
  go_wp2_with fail
  refine (alive_any _).mono ?_
  rintro e w1 ⟨rfl, hb1⟩
  go_wp2
  go_ret
  exact ⟨rfl, hb1⟩

set_option maxHeartbeats 2000000 in
theorem reads_all (A : Option Addr) (b : List UInt8) (n c : Nat) (hn : Hid (n = b.length)) (hc : Hid (n ≤ c)) (hcm : Hid (c ≤ 9223372036854775807)) (w : World) (hbs : Bs w w.heap.size A b) (hb : decide (2000 < (n : Int)) = false) (S Q Z : Nat) (D : List UInt8) (E : Int) (hR : Hid (readF b = (S, Q, Z, D, E))) : Calls Try.prog 4 #[.slice A n c] w fun e w' => e = .returned (.bool true) ∧ Below w.heap.size w w' := by
  have hle : Hid (n ≤ 2000) := Lib.hid (by simp at hb; omega)
  have HBS := Lib.hid hbs
  clear hbs
  go_enter Try.func4, Try.ntmps4
  go_wp2_with fail
  refine (copy_n A b n c hn _ (by have := hle.out; omega) HBS.out).mono ?_
  rintro e w1 ⟨A1, c1, rfl, own1, hb1⟩
  obtain ⟨hcap1, hcap2⟩ := own_cap own1
  have hz := fread_any A1 b n c1 hn (Lib.hid (by rw [hn.out]; exact hcap1)) (Lib.hid hcap2) _ own1.bs S Q Z D E hR
  clear hcap1 hcap2
  go_wp2_with fail
  refine hz.mono ?_
  clear hz
  rintro e w2 ⟨A2, c2, N2, rfl, hN2, own2, hb2⟩
  have k3 := Blk.new w2 25 #[.int .u32 S, .int .i64 Q, .int .i64 Z, .slice A2 N2 c2]
  have own1' := (own1.below hb2 (Nat.le_refl _)).alloc (.cells #[.int .u32 S, .int .i64 Q, .int .i64 Z, .slice A2 N2 c2] 25)
  have own2' := own2.alloc (.cells #[.int .u32 S, .int .i64 Q, .int .i64 Z, .slice A2 N2 c2] 25)
  have hbw2 := bt (bt hb1 hb2) (ba w2 (.cells #[.int .u32 S, .int .i64 Q, .int .i64 Z, .slice A2 N2 c2] 25))
  have hlt1 : Hid (∀ k, blk A1 = some k → w.heap.size ≤ k ∧ k < w1.heap.size) := Lib.hid own1.lt
  have hsz := hb1.size
  clear own1 own2 hb1 hb2
  go_wp2
  go_loopw [6] (fun i wr => ∃ (k : Nat) (L : List UInt8), k ≤ n ∧ i = .int .i64 k ∧ Hid (L.length = n) ∧ Own wr w.heap.size 5 A1 c1 L ∧ Own wr w1.heap.size 5 A2 c2 D ∧ Blk wr w2.heap.size 25 #[.int .u32 S, .int .i64 Q, .int .i64 Z, .slice A2 N2 c2] ∧ Below w.heap.size w wr) (fun i _ => n - (intOf i).toNat)
  case atStart => exact ⟨0, b, Nat.zero_le _, rfl, Lib.hid hn.out.symm, own1', own2', k3, hbw2⟩
  case round =>
    obtain ⟨k, L, hk, rfl, hL, oa, ob, kk, hbr⟩ := hrel
    clear own1' own2' k3 hbw2
    by_cases hlt : k < n
    · obtain ⟨g, rfl, hg1, _, _, _⟩ := oa.form (by rw [hL.out]; omega)
      have hkl : k < L.length := by rw [hL.out]; exact hlt
      have hc := oa.cell k hkl
      have hf := oa.frozen k
      obtain ⟨x, hx⟩ : ∃ x, x = L[k] := ⟨_, rfl⟩
      rw [← hx] at hc
      have hst := (oa.stored k (x ^^^ 255)).1
      have hgl := (hlt1.out g rfl).2
      have ob2 := ob.far (p := ⟨g, k, none⟩) (fun e => by have := (ob.lt g e.symm).1; omega) (.int .u8 ((x ^^^ 255).toNat : Int))
      have kk2 := kk.far (p := ⟨g, k, none⟩) (fun e => oa.ne_blk kk frm_ne (by rw [e]; rfl)) (.int .u8 ((x ^^^ 255).toNat : Int))
      have hbr2 := hbr.setCell (p := ⟨g, k, none⟩) hg1 (.int .u8 ((x ^^^ 255).toNat : Int))
      have e255 : bits .xor .u8 (x.toNat : Int) 255 = ((x ^^^ 255).toNat : Int) := xor_u8 x 255
      have hxl := x.toNat_lt
      have hkn : k < 9223372036854775806 := by have := hle.out; omega
      clear oa ob kk hbr hg1 hgl hkl hx
      go_wp2
      go_roundw
      case rel => exact ⟨k + 1, L.set k (x ^^^ 255), by omega, by go_num, Lib.hid (by rw [List.length_set]; exact hL.out), by first | exact hst | simpa [e255] using hst, by first | exact ob2 | simpa [e255] using ob2, by first | exact kk2 | simpa [e255] using kk2, by first | exact hbr2 | simpa [e255] using hbr2⟩
      case measure => simp [intOf]; omega
    · obtain rfl : k = n := by omega
      have hz := rread_any A b k c hn hc hcm wr (HBS.out.bt hbr) S Q Z D E hR
      clear oa hlt hk
      go_wp2_with fail
      refine hz.mono ?_
      clear hz
      rintro e w6 ⟨A6, c6, N6, rfl, hN6, own6, hb6⟩
      have k7 := Blk.new w6 25 #[.int .u32 S, .int .i64 Q, .int .i64 Z, .slice A6 N6 c6]
      have kk3 := (kk.below hb6 kk.lt).alloc (.cells #[.int .u32 S, .int .i64 Q, .int .i64 Z, .slice A6 N6 c6] 25)
      have ob3 := (ob.below hb6 (Nat.le_refl _)).alloc (.cells #[.int .u32 S, .int .i64 Q, .int .i64 Z, .slice A6 N6 c6] 25)
      have own7 := own6.alloc (.cells #[.int .u32 S, .int .i64 Q, .int .i64 Z, .slice A6 N6 c6] 25)
      have hb7 := bt (bt hbr hb6) (ba w6 (.cells #[.int .u32 S, .int .i64 Q, .int .i64 Z, .slice A6 N6 c6] 25))
      clear kk ob own6 hbr hb6
      go_wp2_with fail
      refine (alive_any _).mono ?_
      rintro e w8 ⟨rfl, hb8⟩
      have k7' := k7.below hb8 k7.lt
      have kk4 := kk3.below hb8 kk3.lt
      have ob4 := ob3.below hb8 (Nat.le_refl _)
      have own8 := own7.below hb8 (Nat.le_refl _)
      have hb9 := bt hb7 hb8
      have x0 := (kk4).cell 0
      have x1 := (kk4).cell 1
      have x2 := (kk4).cell 2
      have x3 := (kk4).cell 3
      simp only [List.getElem?_toArray, List.getElem?_cons_zero, List.getElem?_cons_succ] at x0 x1 x2 x3
      have y0 := (k7').cell 0
      have y1 := (k7').cell 1
      have y2 := (k7').cell 2
      have y3 := (k7').cell 3
      simp only [List.getElem?_toArray, List.getElem?_cons_zero, List.getElem?_cons_succ] at y0 y1 y2 y3
      have hsm := same_any S Q Z A2 D N2 c2 hN2 S Q Z A6 D N6 c6 hN6 w8 ob4.bs own8.bs
      rw [show sameF S Q Z D S Q Z D = true by simp [sameF]] at hsm
      clear k7 k7' kk3 kk4 ob3 ob4 own7 own8 hb7 hb8
      go_wp2_with fail
      refine hsm.mono ?_
      rintro e w9 ⟨rfl, hb10⟩
      go_wp2
      go_ret
      exact ⟨rfl, bt hb9 hb10⟩

theorem frameReads_walk (A : Option Addr) (b : List UInt8) (c : Nat) (w : World) (hbm : Bs w w.heap.size A b) (h1 : b.length ≤ c) (h2 : c ≤ 9223372036854775807) : Calls Try.prog 4 #[.slice A b.length c] w fun e w' => e = .returned (.bool true) ∧ Below w.heap.size w w' := by
  rcases hb : decide (2000 < (b.length : Int)) with _ | _
  · obtain ⟨S, Q, Z, D, E, hR⟩ : ∃ S Q Z D E, readF b = (S, Q, Z, D, E) := ⟨_, _, _, _, _, rfl⟩
    exact reads_all A b _ c (Lib.hid rfl) (Lib.hid h1) (Lib.hid h2) w hbm hb S Q Z D E (Lib.hid hR)
  · exact reads_big A _ c w hb
end Go.Proofs.Ythmhkicgghobmaa
