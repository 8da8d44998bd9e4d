/- A name's text: the program's Print. -/
import Derived.Test.YtmdogmmmjopibaaLb
import Derived.Test.YtmdogmmmjopibaaInv
namespace Go.Proofs.Ytmdogmmmjopibaa
open Go.RowKit
set_option linter.unusedVariables false
set_option linter.unusedSimpArgs false

theorem gsetD (w : World) (p i : Nat) (v : Value) : w.grownBy (w.setCell ⟨p, i, none⟩ v) (some p) :=
  ⟨rfl, rfl, rfl, by simp [World.setCell], fun k _ hk => Below.heap_setCell w _ v k (fun e => hk (by simp [e]))⟩
theorem gtransD {a b c : World} {row : Option Nat} (h : a.grownBy b row) (k : b.grownBy c row) : a.grownBy c row :=
  ⟨k.os.trans h.os, k.tape.trans h.tape, k.output.trans h.output, Nat.le_trans h.size k.size, fun i hi hn => (k.block i (Nat.lt_of_lt_of_le hi h.size) hn).trans (h.block i hi hn)⟩

/-- Digits, written ahead of place e, till n' is left. -/
def DigRel (w : World) (g : Nat) (t : TypeId) (L : List UInt8) (e n : Nat) (v1 v2 : Value) (wr : World) : Prop :=
  ∃ (k n' : Nat) (suf : List UInt8), k + suf.length = e ∧ (dig n').length ≤ k ∧ n' < 4294967296 ∧ v1 = .int .i64 k ∧ v2 = .int .u32 n' ∧ Hid (dig n = dig n' ++ suf) ∧ Raw wr g t (L.take k ++ (suf ++ L.drop e)) ∧ w.grownBy wr (some g)
def DigOut (w : World) (g : Nat) (t : TypeId) (L : List UInt8) (e n : Nat) (r : Ending) (w' : World) : Prop :=
  ∃ k, k + (dig n).length = e ∧ r = .returned (.int .i64 (k : Nat)) ∧ Raw w' g t (L.take k ++ (dig n ++ L.drop e)) ∧ w.grownBy w' (some g)

theorem set_ahead (L : List UInt8) (k e : Nat) (suf : List UInt8) (x : UInt8) (hk : k + 1 + suf.length = e) (he : e ≤ L.length) :
    (L.take (k + 1) ++ (suf ++ L.drop e)).set k x = L.take k ++ (x :: suf ++ L.drop e) := by
  have hk' : k < L.length := by omega
  rw [take_snoc L k hk', List.append_assoc, List.set_append_right _ _ (by simp; omega)]
  have : k - (L.take k).length = 0 := by simp; omega
  rw [this]
  rfl

set_option maxHeartbeats 1000000 in
theorem putDigits_any (g : Nat) (L : List UInt8) (e n : Nat) (w : World) (hL : L.length = 22) (he : e ≤ 22) (hn : n < 4294967296) (hd : (dig n).length ≤ e) (hr : Raw w g 50 L) :
    Calls Try.prog 30 #[.pointer (some ⟨g, 0, none⟩), .int .i64 e, .int .u32 n] w (DigOut w g 50 L e n) := by
  have HL := Lib.hid hL
  clear hL
  go_enter Try.func30, Try.ntmps30
  go_wp2
  go_loopw [1, 2] (fun v1 v2 wr => DigRel w g 50 L e n v1 v2 wr) (fun _ v2 _ => (intOf v2).toNat)
  case atStart => exact ⟨e, n, [], rfl, hd, hn, rfl, rfl, Lib.hid (by simp), by simpa using hr, World.grownBy.refl w _⟩
  case round =>
    obtain ⟨k, n', suf, hk, hdk, hn', rfl, rfl, hdg, hraw, hgr⟩ := hrel
    obtain ⟨k, rfl⟩ : ∃ z, k = z + 1 := ⟨k - 1, by have := dig_pos n'; omega⟩
    have hk1 : ((k + 1 : Nat) : Int) - 1 = (k : Int) := by omega
    have Hdk := Lib.hid hdk
    have Hk := Lib.hid hk
    have hk22 : k < 22 := by omega
    have hlen : (L.take (k + 1) ++ (suf ++ L.drop e)).length = 22 := by have := HL.out; simp; omega
    obtain ⟨vc, hc⟩ : ∃ v, wr.cell? ⟨g, k, none⟩ = some v := ⟨_, hraw.cell k (by omega)⟩
    have hf := hraw.frozen k
    have e1 : (n' : Int).tmod 10 = ((n' % 10 : Nat) : Int) := by rw [Int.tmod_eq_emod_of_nonneg (by omega)]; omega
    have e2 : (n' : Int).tdiv 10 = ((n' / 10 : Nat) : Int) := by rw [Int.tdiv_eq_ediv_of_nonneg (by omega)]; omega
    have hx : (48 : Int) + (n' : Int) % 10 = ((UInt8.ofNat (48 + n' % 10)).toNat : Int) := by rw [toNat48 _ (by omega)]; omega
    have hst := hraw.stored k (UInt8.ofNat (48 + n' % 10))
    rw [set_ahead L k e suf _ hk (by rw [HL.out]; exact he)] at hst
    have Hst := Lib.hid hst
    have Hx := Lib.hid hx
    clear hk hdk hst hraw hlen hx
    by_cases h10 : n' < 10
    · have h0 : (((n' / 10 : Nat) : Int) == 0) = true := by simp; omega
      go_wp2
      go_ret
      have hs1 : dig n = UInt8.ofNat (48 + n' % 10) :: suf := by rw [hdg.out, dig_lt n' h10, Nat.mod_eq_of_lt h10]; rfl
      refine ⟨k, by rw [hs1, ← Hk.out]; simp; omega, rfl, ?_, ?_⟩
      · rw [Hx.out, hs1]; exact Hst.out
      · exact gtransD hgr (gsetD wr g k _)
    · have h0 : (((n' / 10 : Nat) : Int) == 0) = false := beq_eq_false_iff_ne.2 (by omega)
      go_wp2
      go_roundw
      case rel =>
        refine ⟨k, n' / 10, UInt8.ofNat (48 + n' % 10) :: suf, by have := Hk.out; simp; omega, ?_, by omega, rfl, by go_num, ?_, ?_, gtransD hgr (gsetD wr g k _)⟩
        · have := Hdk.out
          rw [dig_ge n' (by omega)] at this
          simpa using this
        · exact Lib.hid (by rw [hdg.out, dig_ge n' (by omega)]; simp)
        · rw [Hx.out]; exact Hst.out
      case measure => simp [intOf]; omega

/-- A name's text, or none. -/
def printL (u : Int) (a q : Nat) : List UInt8 := if okL u q = true then prL u a q else []
theorem prL_byte (m : Nat) (h : m < 6) : (97 : Int) + (m : Int) = ((UInt8.ofNat (97 + (m : Int)).toNat).toNat : Int) := by
  simp; omega
theorem array_text (m a q k1 k2 : Nat) (L : List UInt8) (hL : L.length = 22) (h1 : k1 + (dig q).length = 22) (h2 : k2 + (dig a).length + 1 = k1) (h3 : 1 ≤ k2) :
    (((L.take k1 ++ (dig q ++ L.drop 22)).set (k1 - 1) 46).take k2 ++ (dig a ++ ((L.take k1 ++ (dig q ++ L.drop 22)).set (k1 - 1) 46).drop (k1 - 1))).set (k2 - 1) (UInt8.ofNat (97 + (m : Int)).toNat) = L.take (k2 - 1) ++ prL m a q := by
  have e22 : L.drop 22 = [] := List.drop_of_length_le (by omega)
  have es : (L.take k1 ++ (dig q ++ L.drop 22)).set (k1 - 1) 46 = L.take (k1 - 1) ++ (46 :: dig q) := by
    rw [e22, List.append_nil]
    obtain ⟨k, rfl⟩ : ∃ k, k1 = k + 1 := ⟨k1 - 1, by omega⟩
    rw [Nat.add_sub_cancel, take_snoc L k (by omega), List.append_assoc, List.set_append_right _ _ (by simp; omega)]
    have : k - (L.take k).length = 0 := by simp; omega
    rw [this]; rfl
  rw [es, List.drop_append_of_le_length (by simp; omega), List.drop_of_length_le (by simp; omega), List.nil_append, List.take_append_of_le_length (by simp; omega), List.take_take, Nat.min_eq_left (by omega)]
  obtain ⟨k, rfl⟩ : ∃ k, k2 = k + 1 := ⟨k2 - 1, by omega⟩
  rw [Nat.add_sub_cancel, take_snoc L k (by omega), List.append_assoc, List.set_append_right _ _ (by simp; omega)]
  have : k - (L.take k).length = 0 := by simp; omega
  rw [this]; rfl

set_option maxHeartbeats 1000000 in
theorem print_any (u : Int) (a q : Nat) (w : World) (ha : a < 4294967296) (hq : q < 4294967296) :
    Calls Try.prog 18 #[lv u a q] w fun e w' => e = .returned (.string ⟨(printL u a q).toArray⟩) ∧ Below w.heap.size w w' := by
  have hr := fun w => right_any u a q w
  unfold lv at hr ⊢
  rcases hk : okL u q with _ | _
  · rw [hk] at hr
    rw [show printL u a q = [] by unfold printL; rw [hk]; rfl]
    clear hk
    go_enter Try.func18, Try.ntmps18
    go_wp2_with fail
    refine (hr _).mono ?_
    rintro e w1 ⟨rfl, hb1⟩
    go_wp2
    go_ret
    exact ⟨rfl, bt (ba _ _) hb1⟩
  · rw [hk] at hr
    rw [show printL u a q = prL u a q by unfold printL; rw [if_pos hk]]
    obtain ⟨hu1, hu2, hq0⟩ := (okL_iff u q).1 hk
    obtain ⟨m, rfl⟩ := Int.eq_ofNat_of_zero_le hu1
    have hm6 : m < 6 := by omega
    clear hk hu1 hu2
    have la := dig_len10 a ha
    have lq := dig_len10 q hq
    have pa := dig_pos a
    have pq := dig_pos q
    go_enter Try.func18, Try.ntmps18
    go_wp2_with fail
    refine (hr _).mono ?_
    rintro e w1 ⟨rfl, hb1⟩
    have k0 : Blk w1 w.heap.size 24 #[.int .i64 (m : Nat), .int .u32 a, .int .u32 q] := (Blk.new w 24 #[.int .i64 (m : Nat), .int .u32 a, .int .u32 q]).below hb1 (by simp)
    have hbw := bt (ba w _) hb1
    have c2 : ∀ o, (w1.alloc o).cell? ⟨w.heap.size, 2, none⟩ = some (.int .u32 (q : Int)) := fun o => ((k0.alloc o).cell 2).trans rfl
    have hlt := k0.lt
    go_wp2_with fail
    refine (putDigits_any w1.heap.size (List.replicate 22 0) 22 q _ (by simp) (by omega) hq (by omega) (heap_alloc_new w1 _)).mono ?_
    rintro e w2 ⟨k1, hk1, rfl, hraw2, hgr2⟩
    have k2 := (k0.alloc (.cells (Array.replicate 22 (.int .u8 0)) 50)).kept hgr2 (by intro e; injection e with e; omega)
    clear c2
    have HL := Lib.hid hk1
    obtain ⟨k1, rfl⟩ : ∃ z, k1 = z + 1 := ⟨k1 - 1, by omega⟩
    have hd1 : ((k1 + 1 : Nat) : Int) - 1 = (k1 : Int) := by omega
    have hl1 : ((List.replicate 22 (0 : UInt8)).take (k1 + 1) ++ (dig q ++ (List.replicate 22 (0 : UInt8)).drop 22)).length = 22 := by simp; omega
    have Hl1 := Lib.hid hl1
    have f1 := hraw2.frozen k1
    obtain ⟨vc, c1⟩ : ∃ v, w2.cell? ⟨w1.heap.size, k1, none⟩ = some v := ⟨_, hraw2.cell k1 (by omega)⟩
    have hst := hraw2.stored k1 46
    have k3 := k2.far (p := ⟨w1.heap.size, k1, none⟩) (by show w.heap.size ≠ w1.heap.size; omega) (.int .u8 46)
    have c3 := k3.cell 1
    simp only [List.getElem?_toArray, List.getElem?_cons_zero, List.getElem?_cons_succ] at c3
    have hk22 : k1 < 22 := by omega
    have hk1' : k1 + 1 + (dig q).length = 22 := hk1
    obtain ⟨L2, hL2⟩ : ∃ L, L = ((List.replicate 22 (0 : UInt8)).take (k1 + 1) ++ (dig q ++ (List.replicate 22 (0 : UInt8)).drop 22)).set k1 46 := ⟨_, rfl⟩
    rw [← hL2] at hst
    have hlen2 : L2.length = 22 := by rw [hL2, List.length_set]; exact hl1
    have HL2 := Lib.hid hL2
    have Hlen2 := Lib.hid hlen2
    have pd2 := fun w' hr => putDigits_any w1.heap.size L2 k1 a w' hlen2 (by omega) ha (by omega) hr
    have kk : ∀ k2, k2 + (dig a).length = k1 → 1 ≤ k2 ∧ k2 ≤ k1 := fun k2 h => by omega
    have Hkk := Lib.hid kk
    have Hpd2 := Lib.hid pd2
    clear hk1 hk1' hl1 hL2 hlen2 pd2 kk
    go_wp2_with fail
    refine (Hpd2.out _ hst).mono ?_
    rintro e w4 ⟨k2, hk2, rfl, hraw4, hgr4⟩
    have Hk2 := Lib.hid hk2
    have hkb := Hkk.out k2 hk2
    clear hk2
    obtain ⟨k2, rfl⟩ : ∃ z, k2 = z + 1 := ⟨k2 - 1, by omega⟩
    have hd2 : ((k2 + 1 : Nat) : Int) - 1 = (k2 : Int) := by omega
    have k4 := k3.kept hgr4 (by intro e; injection e with e; omega)
    have c4 := k4.cell 0
    simp only [List.getElem?_toArray, List.getElem?_cons_zero, List.getElem?_cons_succ] at c4
    have f4 := hraw4.frozen k2
    have hl4 : (L2.take (k2 + 1) ++ (dig a ++ L2.drop k1)).length = 22 := by have := Hk2.out; have := Hlen2.out; simp; omega
    obtain ⟨vc4, c5⟩ : ∃ v, w4.cell? ⟨w1.heap.size, k2, none⟩ = some v := ⟨_, hraw4.cell k2 (by omega)⟩
    have hst4 := hraw4.stored k2 (UInt8.ofNat (97 + (m : Int)).toNat)
    rw [← prL_byte m hm6] at hst4
    have hk222 : k2 < 22 := by omega
    have hat := array_text m a q (k1 + 1) (k2 + 1) (List.replicate 22 0) (by simp) HL.out (by have := Hk2.out; omega) (by omega)
    rw [Nat.add_sub_cancel, Nat.add_sub_cancel, ← HL2.out] at hat
    rw [hat] at hst4
    have hlp : (prL m a q).length = 22 - k2 := by have := HL.out; have := Hk2.out; rw [prL_length]; omega
    have hbf : Below w.heap.size w (w4.setCell ⟨w1.heap.size, k2, none⟩ (.int .u8 (97 + (m : Int)))) := by
      have b1 := hbw.alloc hbw.size (.cells (bv (List.replicate 22 0)).toArray 50)
      have b2 := b1.grown hgr2 b1.size (fun k e => by injection e with e; omega)
      have b3 := b2.setCell (p := ⟨w1.heap.size, k1, none⟩) (by show w.heap.size ≤ w1.heap.size; omega) (.int .u8 46)
      have b4 := b3.grown hgr4 b3.size (fun k e => by injection e with e; omega)
      exact b4.setCell (p := ⟨w1.heap.size, k2, none⟩) (by show w.heap.size ≤ w1.heap.size; omega) _
    have hbs : Bs (w4.setCell ⟨w1.heap.size, k2, none⟩ (.int .u8 (97 + (m : Int)))) (w1.heap.size + 1) (some ⟨w1.heap.size, k2, none⟩) (prL m a q) := fun hn => by
      refine ⟨w1.heap.size, k2, rfl, by omega, fun i hi => ?_⟩
      rw [hst4.cell (k2 + i) (by simp [List.length_take]; omega)]
      congr 3
      rw [List.getElem_append_right (by simp; omega)]
      have hidx : k2 + i - (List.take k2 (List.replicate 22 (0 : UInt8))).length = i := by simp; omega
      simp only [hidx]
    have cv := conv_bytes (P := Try.prog) Try.underlying25 Try.underlying5 Try.underlying9 hbs (22 - k2)
    rw [hlp] at cv
    have sl : ∀ W : World, (Instr.sliceAt 50 (.pointer (some ⟨w1.heap.size, 0, none⟩)) (some (.int .i64 (k2 : Int))) none none).run Try.prog W = .ok (.slice (some ⟨w1.heap.size, k2, none⟩) (22 - k2) (22 - k2)) W := fun W => by
      have hal : Try.prog.arrayLen 50 = 22 := by kernel_rfl
      have hsz : Try.prog.elem 50 = 5 := by kernel_rfl
      refine (run_sliceAt_array_l (P := Try.prog) W 50 ⟨w1.heap.size, 0, none⟩ (by kernel_rfl) .i64 (k2 : Int) (by omega) (by rw [hal]; omega)).trans ?_
      rw [hal, hsz]
      have hne : ¬ (22 = k2) := by omega
      go_simp
    have Hbf := Lib.hid hbf
    clear hst4 hat hlp hl4 hbf hbs hkb
    go_wp2
    go_ret
    exact ⟨rfl, Hbf.out⟩
end Go.Proofs.Ytmdogmmmjopibaa
