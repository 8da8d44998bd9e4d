/- Layer 7: frames that are cut, or have bytes behind them. -/
import Derived.Test.YthmhkicgghobmaaFi
import Derived.Test.YthmhkicgghobmaaCopy
namespace Go.Proofs.Ythmhkicgghobmaa
open Go.RowKit
set_option linter.unusedVariables false
set_option linter.unusedSimpArgs false

/-- Read that finds a fault. -/
def RdZ (w : World) (E : Int) (e : Ending) (w' : World) : Prop := ∃ A c, e = .returned (.tuple #[.agg #[.int .u32 0, .int .i64 0, .int .i64 0, .slice A 0 c], .int .i64 E]) ∧ Own w' w.heap.size 5 A c [] ∧ Below w.heap.size w w'
theorem fread_zero (A : Option Addr) (b : List UInt8) (n c : Nat) (hn : Hid (n = b.length)) (hc : Hid (n ≤ c)) (hcm : Hid (c ≤ 9223372036854775807)) (w : World) (hs : Bs w w.heap.size A b) (E : Int) (hR : Hid (readF b = (0, 0, 0, [], E))) : Calls Try.prog 14 #[.slice A n c] w (RdZ w E) := by
  refine (fread_any A b n c hn hc hcm w hs 0 0 0 [] E hR).mono ?_
  rintro e w' ⟨A', c', N, rfl, hN, own, hb⟩
  obtain rfl : N = 0 := hN.out
  exact ⟨A', c', rfl, own, hb⟩
theorem own_cap {w : World} {base : Nat} {e : TypeId} {A : Option Addr} {c : Nat} {l : List UInt8} (h : Own w base e A c l) : l.length ≤ c ∧ c ≤ 9223372036854775807 := by
  rcases h.2 with ⟨h1, h2⟩ | ⟨g, cap, cur, h1, _, _, hn, hm, _⟩
  · simp only [Value.slice.injEq] at h1
    obtain ⟨_, h3, rfl⟩ := h1
    omega
  · simp only [Value.slice.injEq] at h1
    obtain ⟨_, _, rfl⟩ := h1
    unfold maxLen at hm
    omega
theorem bs_take {w : World} {B : Nat} {A : Option Addr} {l : List UInt8} (h : Bs w B A l) (n : Nat) : Bs w B A (l.take n) := fun hn => by
  rw [List.length_take] at hn
  obtain ⟨b, o, rfl, hb, hc⟩ := h (by omega)
  refine ⟨b, o, rfl, hb, fun i hi => ?_⟩
  rw [List.length_take] at hi
  rw [hc i (by omega), List.getElem_take]

theorem cut_big1 (s : Nat) (q a : Int) (A : Option Addr) (n c : Nat) (cut : Int) (A0 : Option Addr) (m c0 : Nat) (w : World) (hb : decide (2000 < (n : Int)) = true) : Calls Try.prog 7 #[.agg #[.int .u32 s, .int .i64 q, .int .i64 a, .slice A n c], .int .i64 cut, .slice A0 m c0] w fun e w' => e = .returned (.bool true) ∧ Below w.heap.size w w' := by
  have k1 := Blk.new w 25 #[.int .u32 s, .int .i64 q, .int .i64 a, .slice A n c]
  have hbw := ba w (.cells #[.int .u32 s, .int .i64 q, .int .i64 a, .slice A n c] 25)
  have x0 := (k1).cell 0
  have x1 := (k1).cell 1
  have x2 := (k1).cell 2
  have x3 := (k1).cell 3
  simp only [List.getElem?_toArray, List.getElem?_cons_zero, List.getElem?_cons_succ] at x0 x1 x2 x3
  go_enter Try.func7, Try.ntmps7
  go_wp2_with fail
  refine (alive_any _).mono ?_
  rintro e wz ⟨rfl, hbz⟩
  go_wp2
  go_ret
  exact ⟨rfl, bt hbw hbz⟩

theorem cut_big2 (s : Nat) (q a : Int) (A : Option Addr) (n c : Nat) (cut : Int) (A0 : Option Addr) (m c0 : Nat) (w : World) (hb : decide (2000 < (n : Int)) = false) (hb2 : decide (300 < (m : Int)) = true) : Calls Try.prog 7 #[.agg #[.int .u32 s, .int .i64 q, .int .i64 a, .slice A n c], .int .i64 cut, .slice A0 m c0] w fun e w' => e = .returned (.bool true) ∧ Below w.heap.size w w' := by
  have k1 := Blk.new w 25 #[.int .u32 s, .int .i64 q, .int .i64 a, .slice A n c]
  have hbw := ba w (.cells #[.int .u32 s, .int .i64 q, .int .i64 a, .slice A n c] 25)
  have x0 := (k1).cell 0
  have x1 := (k1).cell 1
  have x2 := (k1).cell 2
  have x3 := (k1).cell 3
  simp only [List.getElem?_toArray, List.getElem?_cons_zero, List.getElem?_cons_succ] at x0 x1 x2 x3
  go_enter Try.func7, Try.ntmps7
  go_wp2_with fail
  refine (alive_any _).mono ?_
  rintro e wz ⟨rfl, hbz⟩
  go_wp2
  go_ret
  exact ⟨rfl, bt hbw hbz⟩

set_option maxHeartbeats 1000000 in
theorem cut_err (s : Nat) (q a : Int) (A : Option Addr) (l L : List UInt8) (E : Int) (n c : Nat) (hn : Hid (n = l.length)) (cut : Int) (A0 : Option Addr) (more : List UInt8) (m c0 : Nat) (hmn : Hid (m = more.length)) (w : World) (hs : s < 4294967296) (hbs : Bs w w.heap.size A l) (hbm : Bs w w.heap.size A0 more) (hR : Hid (writeF s q a l = (L, E))) (hb : decide (2000 < (n : Int)) = false) (hb2 : decide (300 < (m : Int)) = false) (he : (E != 0) = true) : Calls Try.prog 7 #[.agg #[.int .u32 s, .int .i64 q, .int .i64 a, .slice A n c], .int .i64 cut, .slice A0 m c0] w fun e w' => e = .returned (.bool true) ∧ Below w.heap.size w w' := by
  have Hw0 := Lib.hid (fun w h => fwrite_wr s q a A l L E n c hn w hs h hR)
  have k1 := Blk.new w 25 #[.int .u32 s, .int .i64 q, .int .i64 a, .slice A n c]
  have hbw := ba w (.cells #[.int .u32 s, .int .i64 q, .int .i64 a, .slice A n c] 25)
  have x0 := (k1).cell 0
  have x1 := (k1).cell 1
  have x2 := (k1).cell 2
  have x3 := (k1).cell 3
  simp only [List.getElem?_toArray, List.getElem?_cons_zero, List.getElem?_cons_succ] at x0 x1 x2 x3
  go_enter Try.func7, Try.ntmps7
  go_wp2_with fail
  refine (Hw0.out _ (hbs.bt hbw)).mono ?_
  rintro e w1 ⟨A1, c1, J1, rfl, hJ1, own1, hb1⟩
  have hbw1 := bt hbw hb1
  clear x0 x1 x2 x3
  clear k1 hbw
  go_wp2_with fail
  refine (alive_any _).mono ?_
  rintro e wz ⟨rfl, hbz⟩
  go_wp2
  go_ret
  exact ⟨rfl, bt hbw1 hbz⟩

set_option maxHeartbeats 1000000 in
theorem cut_ok0 (s : Nat) (q a : Int) (A : Option Addr) (l L : List UInt8) (n c : Nat) (hn : Hid (n = l.length)) (cut : Int) (A0 : Option Addr) (more : List UInt8) (m c0 : Nat) (hmn : Hid (m = more.length)) (w : World) (hs : s < 4294967296) (hbs : Bs w w.heap.size A l) (hbm : Bs w w.heap.size A0 more) (hR : Hid (writeF s q a l = (L, 0))) (hb : decide (2000 < (n : Int)) = false) (hb2 : decide (300 < (m : Int)) = false) (hLl : Hid (L.length ≤ 300)) (hmore : Hid (0 < more.length → readF (L ++ more) = (0, 0, 0, [], 2))) (hcut : Hid (∀ t, t < L.length → readF (L.take t) = (0, 0, 0, [], 11))) (h0 : m = 0) : Calls Try.prog 7 #[.agg #[.int .u32 s, .int .i64 q, .int .i64 a, .slice A n c], .int .i64 cut, .slice A0 m c0] w fun e w' => e = .returned (.bool true) ∧ Below w.heap.size w w' := by
  have hm0 : (0 : Int) < (m : Int) ↔ False := by rw [h0]; simp
  subst h0
  clear hm0
  have Hw0 := Lib.hid (fun w h => fwrite_wr s q a A l L 0 n c hn w hs h hR)
  have k1 := Blk.new w 25 #[.int .u32 s, .int .i64 q, .int .i64 a, .slice A n c]
  have hbw := ba w (.cells #[.int .u32 s, .int .i64 q, .int .i64 a, .slice A n c] 25)
  have x0 := (k1).cell 0
  have x1 := (k1).cell 1
  have x2 := (k1).cell 2
  have x3 := (k1).cell 3
  simp only [List.getElem?_toArray, List.getElem?_cons_zero, List.getElem?_cons_succ] at x0 x1 x2 x3
  go_enter Try.func7, Try.ntmps7
  go_wp2_with fail
  refine (Hw0.out _ (hbs.bt hbw)).mono ?_
  rintro e w1 ⟨A1, c1, J1, rfl, hJ1, own1, hb1⟩
  have hbw1 := bt hbw hb1
  clear x0 x1 x2 x3
  clear k1 hbw
  obtain ⟨hcap1, hcap2⟩ := own_cap own1
  have hJL : Hid (J1 ≤ 300) := Lib.hid (by rw [hJ1.out]; exact hLl.out)
  by_cases hct : cut < 0 ∨ (J1 : Int) ≤ cut
  · rcases hct with hct | hct
    · go_wp2_with fail
      refine (alive_any _).mono ?_
      rintro e wz ⟨rfl, hbz⟩
      go_wp2
      go_ret
      exact ⟨rfl, bt hbw1 hbz⟩
    · have hcut0 : ¬ cut < 0 := by omega
      go_wp2_with fail
      refine (alive_any _).mono ?_
      rintro e wz ⟨rfl, hbz⟩
      go_wp2
      go_ret
      exact ⟨rfl, bt hbw1 hbz⟩
  · obtain ⟨t, rfl⟩ := Int.eq_ofNat_of_zero_le (show 0 ≤ cut by omega)
    have hmw : (t : Int) < (J1 : Int) := by omega
    have htl : Hid (t < L.length) := Lib.hid (by rw [← hJ1.out]; omega)
    have hz := fread_zero A1 (L.take t) t c1 (Lib.hid (by rw [List.length_take]; have := htl.out; omega)) (Lib.hid (by have := htl.out; omega)) (Lib.hid hcap2) _ (bs_take own1.bs t) 11 (Lib.hid (hcut.out t htl.out))
    have hmc : (t : Int) ≤ (c1 : Int) := by have := htl.out; omega
    clear hct
    go_wp2_with fail
    refine hz.mono ?_
    clear hz
    rintro e w5 ⟨A5, c5, rfl, own5, hb5⟩
    have hb6 := bt (bt hbw1 hb5) (ba w5 (.cells #[.int .u32 0, .int .i64 0, .int .i64 0, .slice A5 0 c5] 25))
    go_wp2_with fail
    refine (alive_any _).mono ?_
    rintro e wz ⟨rfl, hbz⟩
    go_wp2
    go_ret
    exact ⟨rfl, bt hb6 hbz⟩

set_option maxHeartbeats 2000000 in
theorem cut_okm (s : Nat) (q a : Int) (A : Option Addr) (l L : List UInt8) (n c : Nat) (hn : Hid (n = l.length)) (cut : Int) (A0 : Option Addr) (more : List UInt8) (m c0 : Nat) (hmn : Hid (m = more.length)) (w : World) (hs : s < 4294967296) (hbs : Bs w w.heap.size A l) (hbm : Bs w w.heap.size A0 more) (hR : Hid (writeF s q a l = (L, 0))) (hb : decide (2000 < (n : Int)) = false) (hb2 : decide (300 < (m : Int)) = false) (hLl : Hid (L.length ≤ 300)) (hmore : Hid (0 < more.length → readF (L ++ more) = (0, 0, 0, [], 2))) (hcut : Hid (∀ t, t < L.length → readF (L.take t) = (0, 0, 0, [], 11))) (h0 : 0 < m) : Calls Try.prog 7 #[.agg #[.int .u32 s, .int .i64 q, .int .i64 a, .slice A n c], .int .i64 cut, .slice A0 m c0] w fun e w' => e = .returned (.bool true) ∧ Below w.heap.size w w' := by
  have hm3 : Hid (m ≤ 300) := Lib.hid (by simp at hb2; omega)
  have Hw0 := Lib.hid (fun w h => fwrite_wr s q a A l L 0 n c hn w hs h hR)
  have k1 := Blk.new w 25 #[.int .u32 s, .int .i64 q, .int .i64 a, .slice A n c]
  have hbw := ba w (.cells #[.int .u32 s, .int .i64 q, .int .i64 a, .slice A n c] 25)
  have x0 := (k1).cell 0
  have x1 := (k1).cell 1
  have x2 := (k1).cell 2
  have x3 := (k1).cell 3
  simp only [List.getElem?_toArray, List.getElem?_cons_zero, List.getElem?_cons_succ] at x0 x1 x2 x3
  go_enter Try.func7, Try.ntmps7
  go_wp2_with fail
  refine (Hw0.out _ (hbs.bt hbw)).mono ?_
  rintro e w1 ⟨A1, c1, J1, rfl, hJ1, own1, hb1⟩
  have hbw1 := bt hbw hb1
  clear x0 x1 x2 x3
  clear k1 hbw
  obtain ⟨i0, hi, hz0, hz1, hz2⟩ := info_parts Try.infoU8
  go_wp2_with fail
  refine (copy_n A1 L J1 c1 hJ1 _ (by rw [hJ1.out]; have := hLl.out; omega) own1.bs).mono ?_
  rintro e w2 ⟨A2, c2, rfl, own2, hb2⟩
  have own12 := own1.below hb2 (Nat.le_refl _)
  have hbm2 := hbm.bt (bt hbw1 hb2)
  have hz2' := hb2.size
  go_wp2_with (at_builtin; refine wpList_append_bs _ rfl _ _ 23 rfl w1.heap.size 5 i0 _ Try.underlying23 hi hz0 hz1 hz2 rfl A2 c2 L J1 rfl hJ1.out own2 _ A0 c0 more m rfl hmn.out hbm2 (by rw [← hmn.out]; have := hLl.out; have := hm3.out; omega) hz2' ?_; intro A3 c3 w3 own3 hg3 _)
  have hb13 : Below w1.heap.size w1 w3 := hb2.grown hg3 hb2.size (fun k e => (own2.lt k e).1)
  have own13 := own1.below hb13 (Nat.le_refl _)
  have hbw3 := bt hbw1 hb13
  have hcap3 := own_cap own3
  have hz := fread_zero A3 (L ++ more) (J1 + m) c3 (Lib.hid (by rw [List.length_append, ← hJ1.out, ← hmn.out])) (Lib.hid (by rw [hJ1.out, hmn.out, ← List.length_append]; exact hcap3.1)) (Lib.hid hcap3.2) w3 own3.bs 2 (Lib.hid (hmore.out (by rw [← hmn.out]; omega)))
  clear own2 own12 own3 hcap3 hb2 hbm2 hz2' hg3 hi hz0 hz1 hz2
  go_wp2_with fail
  refine hz.mono ?_
  clear hz
  rintro e w4 ⟨A4, c4, rfl, own4, hb4⟩
  have own14 := (own13.below hb4 (Nat.le_refl _)).alloc (.cells #[.int .u32 0, .int .i64 0, .int .i64 0, .slice A4 0 c4] 25)
  have hbw4 := bt hbw3 (bt hb4 (ba w4 (.cells #[.int .u32 0, .int .i64 0, .int .i64 0, .slice A4 0 c4] 25)))
  obtain ⟨hcap1, hcap2⟩ := own_cap own14
  have hJL : Hid (J1 ≤ 300) := Lib.hid (by rw [hJ1.out]; exact hLl.out)
  by_cases hct : cut < 0 ∨ (J1 : Int) ≤ cut
  · rcases hct with hct | hct
    · go_wp2_with fail
      refine (alive_any _).mono ?_
      rintro e wz ⟨rfl, hbz⟩
      go_wp2
      go_ret
      exact ⟨rfl, bt hbw4 hbz⟩
    · have hcut0 : ¬ cut < 0 := by omega
      go_wp2_with fail
      refine (alive_any _).mono ?_
      rintro e wz ⟨rfl, hbz⟩
      go_wp2
      go_ret
      exact ⟨rfl, bt hbw4 hbz⟩
  · obtain ⟨t, rfl⟩ := Int.eq_ofNat_of_zero_le (show 0 ≤ cut by omega)
    have hmw : (t : Int) < (J1 : Int) := by omega
    have htl : Hid (t < L.length) := Lib.hid (by rw [← hJ1.out]; omega)
    have hz := fread_zero A1 (L.take t) t c1 (Lib.hid (by rw [List.length_take]; have := htl.out; omega)) (Lib.hid (by have := htl.out; omega)) (Lib.hid hcap2) _ (bs_take own14.bs t) 11 (Lib.hid (hcut.out t htl.out))
    have hmc : (t : Int) ≤ (c1 : Int) := by have := htl.out; omega
    clear hct
    go_wp2_with fail
    refine hz.mono ?_
    clear hz
    rintro e w5 ⟨A5, c5, rfl, own5, hb5⟩
    have hb6 := bt (bt hbw4 hb5) (ba w5 (.cells #[.int .u32 0, .int .i64 0, .int .i64 0, .slice A5 0 c5] 25))
    go_wp2_with fail
    refine (alive_any _).mono ?_
    rintro e wz ⟨rfl, hbz⟩
    go_wp2
    go_ret
    exact ⟨rfl, bt hb6 hbz⟩

theorem frameCut_walk (o : FrmV) (cut : Int) (A0 : Option Addr) (more : List UInt8) (c0 : Nat) (w : World) (ho : FrmOk w o) (b1 : -9223372036854775808 ≤ cut) (b2 : cut ≤ 9223372036854775807) (hbm : Bs w w.heap.size A0 more) (h1 : more.length ≤ c0) (h2 : c0 ≤ 9223372036854775807) : Calls Try.prog 7 #[o.val, .int .i64 cut, .slice A0 more.length c0] w fun e w' => e = .returned (.bool true) ∧ Below w.heap.size w w' := by
  obtain ⟨s, q, a, A, l, c⟩ := o
  obtain ⟨s1, _, _, _, _, bs, _, _⟩ := ho
  simp only at s1 bs
  unfold FrmV.val
  rcases hb : decide (2000 < (l.length : Int)) with _ | _
  · rcases hb2 : decide (300 < (more.length : Int)) with _ | _
    · obtain ⟨⟨L, E⟩, hR⟩ : ∃ r, r = writeF s q a l := ⟨_, rfl⟩
      rcases writeF_ok hR.symm with ⟨rfl, rfl⟩ | ⟨rfl, rfl, hm⟩
      · exact cut_err s q a A l _ _ _ c (Lib.hid rfl) cut A0 more _ c0 (Lib.hid rfl) w s1 bs hbm (Lib.hid hR.symm) hb hb2 rfl
      · obtain ⟨_, d2, d3, d4⟩ := (mayF_iff _ _ _ _).1 hm
        have hm' : mayF s (q.toNat : Nat) (a.toNat : Nat) l.length = true := by
          rw [show ((q.toNat : Nat) : Int) = q by omega, show ((a.toNat : Nat) : Int) = a by omega]; exact hm
        have hl := bytesF_len s q.toNat a.toNat l
        have r1 : Hid ((bytesF s q.toNat a.toNat l).length ≤ 300) := Lib.hid (by omega)
        have r2 : Hid (0 < more.length → readF (bytesF s q.toNat a.toNat l ++ more) = (0, 0, 0, [], 2)) := Lib.hid (fun h => readF_more s q.toNat a.toNat l more s1 hm' h)
        have r3 : Hid (∀ t, t < (bytesF s q.toNat a.toNat l).length → readF ((bytesF s q.toNat a.toNat l).take t) = (0, 0, 0, [], 11)) := Lib.hid (fun t ht => readF_cut s q.toNat a.toNat l s1 hm' t ht)
        rcases Nat.eq_zero_or_pos more.length with h0 | h0
        · exact cut_ok0 s q a A l _ _ c (Lib.hid rfl) cut A0 more _ c0 (Lib.hid rfl) w s1 bs hbm (Lib.hid hR.symm) hb hb2 r1 r2 r3 h0
        · exact cut_okm s q a A l _ _ c (Lib.hid rfl) cut A0 more _ c0 (Lib.hid rfl) w s1 bs hbm (Lib.hid hR.symm) hb hb2 r1 r2 r3 h0
    · exact cut_big2 s q a A _ c cut A0 _ c0 w hb hb2
  · exact cut_big1 s q a A _ c cut A0 _ c0 w hb
end Go.Proofs.Ythmhkicgghobmaa
