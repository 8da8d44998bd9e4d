/- Digits read: the other program's Unhex, where all is well. -/
import Derived.Test.YtcpiejlhedmmeaaUnhex
import Derived.Deep.RegionHeld
namespace Go.Proofs.Ytcpiejlhedmmeaa
open Go.RowKit
set_option linter.unusedVariables false

theorem val16 {a b : Nat} (ha : a < 16) (hb : b < 16) : 16 * (a : Int) + (b : Int) = ((UInt8.ofNat (16 * a + b)).toNat : Int) := by
  rw [UInt8.toNat_ofNat']; omega
set_option maxHeartbeats 2000000 in
theorem refunhex_good (s : ByteArray) (w : World) (hs : s.size ≤ 4000) (hgood : ∀ j, j < s.size → isD (cs s j)) (hev : s.size % 2 = 0) :
    Calls Try.prog 28 #[.string s] w fun e w' => ∃ A c, e = tuple A (outL s).length c 0 0 ∧ Bs w' w'.heap.size A (outL s) ∧ Below w.heap.size w w' := by
  obtain ⟨i0, hi, hz0, hz1, hz2⟩ := info_parts Try.infoU8h
  have Hgood := Lib.hid hgood
  clear hgood
  go_enter Try.func28, Try.ntmps28
  go_wp2_with fail
  go_loopw [4] (fun i wr => ∃ k : Nat, k ≤ s.size ∧ i = .int .i64 k ∧ wr = w.alloc (.cells #[.int .i64 0, .int .i64 0] 36))
    (fun i _ => s.size - (intOf i).toNat)
  case atStart => exact ⟨0, by omega, rfl, rfl⟩
  case round =>
    obtain ⟨k, hk, rfl, rfl⟩ := hrel
    by_cases hlt : k < s.size
    · have i1 := index_cs s k hlt
      have hg0 : worthR (cs s k) = (wd (cs s k) : Int) := by unfold worthR; rw [if_pos (Hgood.out k hlt)]
      go_wp2_with fail
      refine (worth_any _ _).mono ?_
      rintro e w1 ⟨rfl, rfl⟩
      rw [hg0]
      go_wp2
      go_roundw
      case rel => exact ⟨k + 1, by omega, by go_num, by trivial⟩
      case measure => simp [intOf]; omega
    · have e1 : (s.size : Int).tmod 2 = 0 := by rw [Int.tmod_eq_emod_of_nonneg (by omega)]; omega
      go_wp2_with fail
      have hg1 : (w.alloc (.cells #[.int .i64 0, .int .i64 0] 36)).heap.size = w.heap.size + 1 := by simp
      obtain ⟨w1, hw1⟩ : ∃ x, x = w.alloc (.cells #[.int .i64 0, .int .i64 0] 36) := ⟨_, rfl⟩
      have Hw1 := Lib.hid hw1
      rw [← hw1] at hg1
      go_loopw [5, 6] (fun b i wr => ∃ k : Nat, k ≤ s.size / 2 ∧ i = .int .i64 ((2 * k : Nat)) ∧ (∃ A2 c2, b = .slice A2 k c2 ∧ Own wr (w.heap.size + 1) 5 A2 c2 ((outL s).take k)) ∧ Below (w.heap.size + 1) w1 wr)
        (fun _ i _ => s.size - (intOf i).toNat)
      case atStart => exact ⟨0, by omega, rfl, ⟨none, 0, rfl, Own.nil⟩, by rw [hw1]; exact Below.refl _ _⟩
      case round =>
        clear hw1
        obtain ⟨k, hk, rfl, ⟨A2, c2, rfl, ho⟩, hb⟩ := hrel
        have hsz := hb.size
        by_cases hlt : k < s.size / 2
        · have i1 := index_cs s (2 * k) (by omega)
          have i2 := index_cs s (2 * k + 1) (by omega)
          have D1 := Hgood.out (2 * k) (by omega)
          have D2 := Hgood.out (2 * k + 1) (by omega)
          have hout : out1 s k = UInt8.ofNat (16 * wd (cs s (2 * k)) + wd (cs s (2 * k + 1))) := rfl
          push_cast at i1 i2
          obtain ⟨x, hx⟩ : ∃ x, x = cs s (2 * k) := ⟨_, rfl⟩
          obtain ⟨y, hy⟩ : ∃ x, x = cs s (2 * k + 1) := ⟨_, rfl⟩
          rw [← hx] at i1 D1 hout
          rw [← hy] at i2 D2 hout
          clear hx hy
          have g1 := wd_lt _ D1
          have g2 := wd_lt _ D2
          have hr1 : worthR x = (wd x : Int) := by unfold worthR; rw [if_pos D1]
          have hr2 : worthR y = (wd y : Int) := by unfold worthR; rw [if_pos D2]
          clear D1 D2
          obtain ⟨p, hp⟩ : ∃ p, p = wd x := ⟨_, rfl⟩
          obtain ⟨q, hq⟩ : ∃ q, q = wd y := ⟨_, rfl⟩
          rw [← hp] at g1 hr1 hout
          rw [← hq] at g2 hr2 hout
          clear hp hq
          have Hout := Lib.hid hout
          clear hout
          have ew1 : IntKind.i64.wrap (2 * (k : Int) + 1) = 2 * (k : Int) + 1 := IntWalk.i64_in _ (by omega)
          have ew2 : IntKind.i64.wrap (16 * (p : Int)) = 16 * (p : Int) := IntWalk.i64_in _ (by omega)
          have ew3 : IntKind.i64.wrap (16 * (p : Int) + (q : Int)) = 16 * (p : Int) + (q : Int) := IntWalk.i64_in _ (by omega)
          have ew4 : IntKind.u8.wrap (16 * (p : Int) + (q : Int)) = 16 * (p : Int) + (q : Int) := IntWalk.u8_in _ (by omega)
          go_wp2_with fail
          go_region_law (first
            | (go_simp; go_at_call 38; refine (worth_any _ _).mono ?_; rintro e w' ⟨rfl, rfl⟩; simp only [hr1, hr2])
            | (refine step_append_bs _ rfl _ _ 23 rfl (w.heap.size + 1) 5 i0 _ Try.underlying23 hi hz0 hz1 hz2 rfl A2 c2 ((outL s).take k) k rfl (by rw [List.length_take, outL_length]; omega) (ho.drew.alloc _) _ _ _ [UInt8.ofNat (16 * p + q)] 1 rfl rfl (Bs.lit (congrArg (fun x : Int => [Value.int .u8 x]) (val16 g1 g2))) (by rw [List.length_take, outL_length]; simp; omega) (by simp; omega) ?_; intro A3 c3 w3 ho3 hg3 _))
          all_goals
            clear ew1 ew2 ew3 ew4 hr1 hr2
            go_wp2
            go_roundw
            case rel =>
              refine ⟨k + 1, by omega, by go_num, ⟨A3, c3, rfl, ?_⟩, (hb.drew.alloc (by simp; omega) _).grown hg3 (by simp; omega) (fun k hk => (ho.lt k hk).1)⟩
              rw [take_snoc (outL s) k (by rw [outL_length]; omega), outL_get, Hout.out]
              exact ho3
            case measure => simp [intOf]; omega
        · obtain rfl : k = s.size / 2 := by omega
          have hc0 : wr.cell? ⟨w.heap.size, 0, none⟩ = some (.int .i64 0) := by
            rw [hb.cell (p := ⟨w.heap.size, 0, none⟩) (by simp), Hw1.out, World.cell?_alloc_at _ _ _ _ rfl]; rfl
          have hc1 : wr.cell? ⟨w.heap.size, 1, none⟩ = some (.int .i64 0) := by
            rw [hb.cell (p := ⟨w.heap.size, 1, none⟩) (by simp), Hw1.out, World.cell?_alloc_at _ _ _ _ rfl]; rfl
          have hf0 : ∀ j, wr.frozen? ⟨w.heap.size, j, none⟩ = false := fun j => by
            rw [hb.frozen (p := ⟨w.heap.size, j, none⟩) (by simp), Hw1.out]; exact frozen_of_row _ _ _ _ _ (heap_alloc_new w _)
          have h00 := World.cell?_setCell_same' wr ⟨w.heap.size, 0, none⟩ (.int .i64 0) (by rw [hc0]; rfl)
          rw [List.take_of_length_le (by rw [outL_length]; omega)] at ho
          have Ho := Lib.hid ho
          clear ho
          have hend : ¬ (2 * ((s.size / 2 : Nat) : Int) < (s.size : Int)) := by omega
          go_wp2
          refine bodyPost_ret (by simp [results, Try.results28, go_sem, h00, hc0, hc1]; try rfl) rfl ?_
          have hx := Ho.out.bs
          have hx2 := Ho.out.lt
          refine ⟨A2, ⟨c2, ?_⟩, ?_, ?_⟩
          · rw [outL_length]; rfl
          · intro hn
            obtain ⟨g, rfl, hg, hgl, _, _⟩ := Ho.out.form hn
            obtain ⟨b, o, e, hbb, hcc⟩ := hx hn
            cases e
            refine ⟨g, 0, rfl, by simp; omega, fun i hi => ?_⟩
            rw [World.cell?_setCell_far _ _ _ _ (by show w.heap.size ≠ g; omega), World.cell?_setCell_far _ _ _ _ (by show w.heap.size ≠ g; omega)]
            exact hcc i hi
          · have hbw : Below w.heap.size w wr := by
              have h1 := ba w (.cells #[.int .i64 0, .int .i64 0] 36)
              rw [← Hw1.out] at h1
              exact h1.trans (hb.mono (by omega))
            exact (hbw.setCell (by simp) _).setCell (by simp) _
end Go.Proofs.Ytcpiejlhedmmeaa
