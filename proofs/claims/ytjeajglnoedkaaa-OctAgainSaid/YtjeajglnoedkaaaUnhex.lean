/- Digits read: both programs' Unhex. -/
import Derived.Test.YtjeajglnoedkaaaDigit
import Derived.Test.YtjeajglnoedkaaaBase2
import Derived.StillTailTactics
import Derived.Deep.RegionWith
namespace Go.Proofs.Ytjeajglnoedkaaa
open Go.RowKit
set_option linter.unusedVariables false
set_option linter.unusedSimpArgs false

def tuple (A : Option Addr) (n c : Nat) (p q : Int) : Ending := .returned (.tuple #[.slice A n c, .agg #[.int .i64 p, .int .i64 q]])

set_option maxHeartbeats 1000000 in
theorem unhex_bad (s : ByteArray) (k0 : Nat) (w : World) (hs : s.size ≤ 4000) (hk0 : k0 < s.size) (hgood : ∀ j, j < k0 → isD (cs s j)) (hbad : ¬ isD (cs s k0)) :
    Calls Try.prog 27 #[.string s] w fun e w' => e = tuple none 0 0 k0 3 ∧ Below w.heap.size w w' := by
  have Hgood := Lib.hid hgood
  have Hbad := Lib.hid hbad
  clear hgood hbad
  go_enter Try.func27, Try.ntmps27
  go_wp2_with fail
  go_loopw [9] (fun i wr => ∃ k : Nat, k ≤ k0 ∧ i = .int .i64 k ∧ wr = w.alloc (.cells #[.int .i64 0, .int .i64 0] 36))
    (fun i _ => s.size - (intOf i).toNat)
  case atStart => exact ⟨0, by omega, rfl, rfl⟩
  case round =>
    obtain ⟨k, hk, rfl, rfl⟩ := hrel
    by_cases he : k = k0
    · subst he
      have i1 := index_cs s k hk0
      go_wp2_with fail
      refine (isDigit_out _ _ Hbad.out).mono ?_
      rintro e w1 ⟨rfl, rfl⟩
      go_wp2
      go_returns
      exact ⟨rfl, ba _ _⟩
    · have i1 := index_cs s k (by omega)
      go_wp2_with fail
      refine (isDigit_in _ _ (Hgood.out k (by omega))).mono ?_
      rintro e w1 ⟨rfl, rfl⟩
      go_wp2
      go_roundw
      case rel => exact ⟨k + 1, by omega, by go_num, by trivial⟩
      case measure => simp [intOf]; omega

def out1 (s : ByteArray) (j : Nat) : UInt8 := UInt8.ofNat (16 * wd (cs s (2 * j)) + wd (cs s (2 * j + 1)))
def outL (s : ByteArray) : List UInt8 := (List.range (s.size / 2)).map (out1 s)
theorem outL_length (s : ByteArray) : (outL s).length = s.size / 2 := by simp [outL]
theorem outL_get (s : ByteArray) (j : Nat) (h : j < (outL s).length) : (outL s)[j] = out1 s j := by simp [outL]

set_option maxHeartbeats 1000000 in
theorem unhex_odd (s : ByteArray) (w : World) (hs : s.size ≤ 4000) (hgood : ∀ j, j < s.size → isD (cs s j)) (hodd : s.size % 2 = 1) :
    Calls Try.prog 27 #[.string s] w fun e w' => e = tuple none 0 0 s.size 3 ∧ Below w.heap.size w w' := by
  have Hgood := Lib.hid hgood
  clear hgood
  go_enter Try.func27, Try.ntmps27
  go_wp2_with fail
  go_loopw [9] (fun i wr => ∃ k : Nat, k ≤ s.size ∧ i = .int .i64 k ∧ wr = w.alloc (.cells #[.int .i64 0, .int .i64 0] 36))
    (fun i _ => s.size - (intOf i).toNat)
  case atStart => exact ⟨0, by omega, rfl, rfl⟩
  case round =>
    obtain ⟨k, hk, rfl, rfl⟩ := hrel
    by_cases hlt : k < s.size
    · have i1 := index_cs s k hlt
      go_wp2_with fail
      refine (isDigit_in _ _ (Hgood.out k hlt)).mono ?_
      rintro e w1 ⟨rfl, rfl⟩
      go_wp2
      go_roundw
      case rel => exact ⟨k + 1, by omega, by go_num, by trivial⟩
      case measure => simp [intOf]; omega
    · have e1 : (s.size : Int).tmod 2 = 1 := by rw [Int.tmod_eq_emod_of_nonneg (by omega)]; omega
      go_wp2
      go_returns
      exact ⟨rfl, ba _ _⟩

theorem or16 (a b : Nat) (ha : a < 16) (hb : b < 16) : bits .or .u8 ((a : Int) * 16) (b : Int) = ((UInt8.ofNat (16 * a + b)).toNat : Int) := by
  have h : ((List.range 16).all fun a => (List.range 16).all fun b => decide (bits .or .u8 ((a : Int) * 16) (b : Int) = ((UInt8.ofNat (16 * a + b)).toNat : Int))) = true := by kernel_rfl
  have h1 := List.all_eq_true.1 h a (List.mem_range.2 ha)
  have h2 := List.all_eq_true.1 h1 b (List.mem_range.2 hb)
  exact of_decide_eq_true h2
theorem set_take (l : List UInt8) (k n : Nat) (hn : l.length = n) (hk : k < n) :
    (l.take k ++ List.replicate (n - k) 0).set k (l[k]'(by omega)) = l.take (k + 1) ++ List.replicate (n - (k + 1)) 0 := by
  have e : n - k = (n - (k + 1)) + 1 := by omega
  have e2 : (l.take k).length = k := by simp; omega
  rw [e, List.replicate_succ, take_snoc l k (by omega), List.set_append_right _ _ (by omega), e2, Nat.sub_self, List.set_cons_zero, List.append_assoc]
  rfl

set_option maxHeartbeats 1000000 in
theorem unhex_good (s : ByteArray) (w : World) (hs : s.size ≤ 4000) (hgood : ∀ j, j < s.size → isD (cs s j)) (hev : s.size % 2 = 0) :
    Calls Try.prog 27 #[.string s] w fun e w' => ∃ A c, e = tuple A (outL s).length c 0 0 ∧ Bs w' w'.heap.size A (outL s) ∧ Below w.heap.size w w' := by
  obtain ⟨i0, hi, hz0, hz1, hz2⟩ := info_parts Try.infoU8h
  have Hgood := Lib.hid hgood
  clear hgood
  go_enter Try.func27, Try.ntmps27
  go_wp2_with fail
  go_loopw [9] (fun i wr => ∃ k : Nat, k ≤ s.size ∧ i = .int .i64 k ∧ wr = w.alloc (.cells #[.int .i64 0, .int .i64 0] 36))
    (fun i _ => s.size - (intOf i).toNat)
  case atStart => exact ⟨0, by omega, rfl, rfl⟩
  case round =>
    obtain ⟨k, hk, rfl, rfl⟩ := hrel
    by_cases hlt : k < s.size
    · have i1 := index_cs s k hlt
      go_wp2_with fail
      refine (isDigit_in _ _ (Hgood.out k hlt)).mono ?_
      rintro e w1 ⟨rfl, rfl⟩
      go_wp2
      go_roundw
      case rel => exact ⟨k + 1, by omega, by go_num, by trivial⟩
      case measure => simp [intOf]; omega
    · have e1 : (s.size : Int).tmod 2 = 0 := by rw [Int.tmod_eq_emod_of_nonneg (by omega)]; omega
      have e2 : (s.size : Int).tdiv 2 = ((s.size / 2 : Nat) : Int) := by rw [Int.tdiv_eq_ediv_of_nonneg (by omega)]; omega
      go_wp2_with (at_make; refine wpList_make_raw _ rfl _ _ 23 rfl 5 i0 Try.underlying23 hi hz0 hz1 hz2 .i64 .i64 _ _ (s.size / 2) rfl rfl (by first | exact e2 | rfl) (by first | exact e2 | rfl) (by omega) ?_; intro w2 hraw2 hb2)
      have hg1 : (w.alloc (.cells #[.int .i64 0, .int .i64 0] 36)).heap.size = w.heap.size + 1 := by simp
      obtain ⟨w1, hw1⟩ : ∃ x, x = w.alloc (.cells #[.int .i64 0, .int .i64 0] 36) := ⟨_, rfl⟩
      have Hw1 := Lib.hid hw1
      rw [← hw1] at hraw2 hb2 hg1
      clear hw1
      rw [hg1] at hraw2 hb2
      go_loopw [33] (fun i wr => ∃ k : Nat, k ≤ s.size / 2 ∧ i = .int .i64 k ∧ Raw wr (w.heap.size + 1) 5 ((outL s).take k ++ List.replicate (s.size / 2 - k) 0) ∧ Below (w.heap.size + 1) w1 wr)
        (fun i _ => s.size / 2 - (intOf i).toNat)
      case atStart => exact ⟨0, by omega, rfl, by simpa using hraw2.out, hb2⟩
      case round =>
        obtain ⟨k, hk, rfl, hraw, hb⟩ := hrel
        by_cases hlt : k < s.size / 2
        · have hL : ((outL s).take k ++ List.replicate (s.size / 2 - k) 0).length = s.size / 2 := by simp [outL_length]; omega
          have hc := hraw.cell k (by omega)
          have hf := hraw.frozen k
          have i1 := index_cs s (2 * k) (by omega)
          have i2 := index_cs s (2 * k + 1) (by omega)
          have ew1 : IntKind.i64.wrap (2 * (k : Int)) = 2 * (k : Int) := IntWalk.i64_in _ (by omega)
          have ew2 : IntKind.i64.wrap (2 * (k : Int) + 1) = 2 * (k : Int) + 1 := IntWalk.i64_in _ (by omega)
          have d1 := fun w => digitValue_in _ w (Hgood.out (2 * k) (by omega))
          have d2 := fun w => digitValue_in _ w (Hgood.out (2 * k + 1) (by omega))
          have g1 := wd_lt _ (Hgood.out (2 * k) (by omega))
          have g2 := wd_lt _ (Hgood.out (2 * k + 1) (by omega))
          push_cast at i1 i2
          go_wp2_with fail
          go_still_tail 16, (by kernel_rfl)
          still_call (d1 _)
          repeat still_step
          still_call (d2 _)
          repeat still_step
          refine wpStill_nil ?_
          change wpList _ _ _ _ _ wr.drew
          have hc' : wr.drew.cell? _ = _ := hc
          have hf' : wr.drew.frozen? _ = _ := hf
          clear hc hf
          go_wp2
          go_roundw
          case rel =>
            refine ⟨k + 1, by omega, by go_num, ?_, (hb.setCell (by simp) _).drew⟩
            rw [or16 _ _ g1 g2]
            have := hraw.stored k (out1 s k)
            rw [← outL_get s k (by rw [outL_length]; omega), set_take (outL s) k (s.size / 2) (outL_length s) hlt, outL_get] at this
            exact this
          case measure => simp [intOf]; omega
        · obtain rfl : k = s.size / 2 := by omega
          have hraw' : Raw wr (w.heap.size + 1) 5 (outL s) := by
            rw [Nat.sub_self, List.replicate_zero, List.append_nil, List.take_of_length_le (by rw [outL_length]; omega)] at hraw
            exact hraw
          have hc0 : wr.cell? ⟨w.heap.size, 0, none⟩ = some (.int .i64 0) := by
            rw [hb.cell (p := ⟨w.heap.size, 0, none⟩) (by simp), Hw1.out, World.cell?_alloc_at _ _ _ _ rfl]; rfl
          have hc1 : wr.cell? ⟨w.heap.size, 1, none⟩ = some (.int .i64 0) := by
            rw [hb.cell (p := ⟨w.heap.size, 1, none⟩) (by simp), Hw1.out, World.cell?_alloc_at _ _ _ _ rfl]; rfl
          have hf0 : ∀ j, wr.frozen? ⟨w.heap.size, j, none⟩ = false := fun j => by
            rw [hb.frozen (p := ⟨w.heap.size, j, none⟩) (by simp), Hw1.out]; exact frozen_of_row _ _ _ _ _ (heap_alloc_new w _)
          have h00 := World.cell?_setCell_same' wr ⟨w.heap.size, 0, none⟩ (.int .i64 0) (by rw [hc0]; rfl)
          clear hraw
          go_wp2
          refine bodyPost_ret (by simp [results, Try.results27, go_sem, h00, hc0, hc1]; try rfl) rfl ?_
          refine ⟨some ⟨w.heap.size + 1, 0, none⟩, s.size / 2, ?_, ?_, ?_⟩
          · rw [outL_length]; rfl
          · exact ((hraw'.far (by simp) _).far (by simp) _).bs ((hraw'.far (p := ⟨w.heap.size, 0, none⟩) (by simp) _).far (p := ⟨w.heap.size, 1, none⟩) (by simp) _).lt
          · have hbw : Below w.heap.size w wr := by
              have h1 := ba w (.cells #[.int .i64 0, .int .i64 0] 36)
              rw [← Hw1.out] at h1
              exact h1.trans (hb.mono (by omega))
            exact (hbw.setCell (by simp) _).setCell (by simp) _
end Go.Proofs.Ytjeajglnoedkaaa
