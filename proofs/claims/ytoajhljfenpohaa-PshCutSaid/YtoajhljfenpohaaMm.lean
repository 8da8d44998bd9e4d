/- The law on cut messages. -/
import Derived.Test.YtoajhljfenpohaaMl
import Derived.Test.YtoajhljfenpohaaOpenM
namespace Go.Proofs.Ytoajhljfenpohaa
open Go.RowKit
set_option linter.unusedVariables false
set_option linter.unusedSimpArgs false

set_option maxHeartbeats 2000000 in
theorem pshCut_walk (m : MsgV) (cut : Int) (A0 : Option Addr) (l : List UInt8) (c0 : Nat) (w : World) (hm : MsgOk m) (b1 : -9223372036854775808 ≤ cut) (b2 : cut ≤ 9223372036854775807) (hs : Bs w w.heap.size A0 l) (h1 : l.length ≤ c0) (h2 : c0 ≤ 9223372036854775807) : Calls Try.prog 6 #[m.val, .int .i64 cut, .slice A0 l.length c0] w fun e w' => e = .returned (.bool true) ∧ Below w.heap.size w w' := by
  have hw1 := fun w => writeM_any m w hm
  rcases writeM_cases m with ⟨L, e1, _⟩ | ⟨L, e1⟩
  · rw [e1] at hw1
    obtain ⟨k, uu, a, q, mx, mi, yo⟩ := m
    unfold MsgV.val MsgV.cs at *
    unfold OutB at hw1
    have hbw := ba w (.cells #[.int .i64 k, .int .i64 uu, .int .u32 a, .int .u32 q, .bool mx, .int .u32 mi, .int .u32 yo] 26)
    obtain ⟨i, d, hlong, hcutL, hL4, hL100⟩ := writeM_reads _ L e1
    have HS := Lib.hid hcutL
    have Hlong := Lib.hid hlong
    obtain ⟨wl, hwl⟩ : ∃ wl, wl = L.length := ⟨_, rfl⟩
    have Hwl := Lib.hid hwl
    obtain ⟨n, hn⟩ : ∃ n, n = l.length := ⟨_, rfl⟩
    have Hn := Lib.hid hn
    rw [← hn] at h1 ⊢
    rw [← hwl] at hL4 hL100
    simp only at hw1
    rw [← hwl] at hw1
    clear e1 hcutL hlong hwl hn hm
    by_cases hbig : 1000 < n
    · have hbigI : (1000 : Int) < (n : Int) := by omega
      go_enter Try.func6, Try.ntmps6
      go_wp2_with fail
      refine (hw1 _).mono ?_
      clear hw1
      rintro e w1 ⟨A1, c1, rfl, own1, hb1⟩
      have hbw1 := bt hbw hb1
      go_wp2_with fail
      refine (alive_any _).mono ?_
      rintro e wz ⟨rfl, hbz⟩
      go_wp2
      go_ret
      exact ⟨rfl, bt hbw1 hbz⟩
    · have hbigI : ¬ (1000 : Int) < (n : Int) := by omega
      by_cases hpos : 0 < n
      · have hposI : (0 : Int) < (n : Int) := by omega
        have hs0 := hs.bt hbw
        clear hs
        go_enter Try.func6, Try.ntmps6
        go_wp2_with fail
        refine (hw1 _).mono ?_
        clear hw1
        rintro e w1 ⟨A1, c1, rfl, own1, hb1⟩
        have hbw1 := bt hbw hb1
        have hs1 := hs0.bt hb1
        have hc1 : wl ≤ c1 ∧ c1 ≤ 9223372036854775807 := by rw [Hwl.out]; exact own_cap own1
        clear hs0 hbw
        have hcp := fun v h => copy_any A1 L c1 v (by rw [← Hwl.out]; omega) h
        rw [← Hwl.out] at hcp
        obtain ⟨i0, hi, hz0, hz1, hz2⟩ := info_parts Try.infoU8
        go_wp2_with fail
        refine (hcp _ own1.bs).mono ?_
        clear hcp
        rintro e w2 ⟨A2, c2, rfl, own2, hb2⟩
        have own12 := own1.below hb2 (Nat.le_refl _)
        have hs2 := hs1.bt hb2
        have hbw2 := bt hbw1 hb2
        have hz2' : w1.heap.size ≤ w2.heap.size := hb2.size
        go_wp2_with (at_builtin; refine wpList_append_bs _ rfl _ _ 27 rfl w1.heap.size 5 i0 _ Try.underlying27 hi hz0 hz1 hz2 rfl A2 c2 L wl rfl Hwl.out own2 _ A0 c0 l n rfl Hn.out hs2 (by rw [← Hwl.out, ← Hn.out]; omega) hz2' ?_; intro A3 c3 w3 own3 hg3 _)
        have hb13 : Below w1.heap.size w1 w3 := hb2.grown hg3 hb2.size (fun k e => (own2.lt k e).1)
        have own13 := own1.below hb13 (Nat.le_refl _)
        have hbw3 := bt hbw1 hb13
        have hc3 : wl + n ≤ c3 ∧ c3 ≤ 9223372036854775807 := by have := own_cap own3; rw [List.length_append, ← Hwl.out, ← Hn.out] at this; exact this
        have hcall := read_long A3 (L ++ l) c3 (wl + n) i d wl (by omega) w3 (Lib.hid (by rw [List.length_append, ← Hwl.out, ← Hn.out])) hc3.1 hc3.2 own3.bs (Lib.hid (by rw [Hlong.out, ← Hwl.out]))
        clear own1 own12 own2 own3 hb1 hb2 hs1 hs2 hbw2 hg3 hb13 hi hz0 hz1 hz2 hz2' hc3
        go_wp2_with fail
        refine hcall.mono ?_
        clear hcall
        rintro e w4 ⟨rfl, hb4⟩
        have kz := Blk.new w4 26 #[.int .i64 0, .int .i64 0, .int .u32 0, .int .u32 0, .bool false, .int .u32 0, .int .u32 0]
        have own14 := own13.below (bt hb4 (ba w4 (.cells #[.int .i64 0, .int .i64 0, .int .u32 0, .int .u32 0, .bool false, .int .u32 0, .int .u32 0] 26))) (Nat.le_refl _)
        have hbw4 := bt hbw3 (bt hb4 (ba w4 (.cells #[.int .i64 0, .int .i64 0, .int .u32 0, .int .u32 0, .bool false, .int .u32 0, .int .u32 0] 26)))
        clear own13 hbw3 hb4
        have d0 := kz.cell 0
        have d1 := kz.cell 1
        have d2 := kz.cell 2
        have d3 := kz.cell 3
        have d4 := kz.cell 4
        have d5 := kz.cell 5
        have d6 := kz.cell 6
        simp only [List.getElem?_toArray, List.getElem?_cons_zero, List.getElem?_cons_succ] at d0 d1 d2 d3 d4 d5 d6
        clear kz
        by_cases hcut : cut < 0 ∨ (wl : Int) ≤ cut
        · rcases hcut with hcut | hcut
          · go_wp2_with fail
            refine (alive_any _).mono ?_
            rintro e wz ⟨rfl, hbz⟩
            go_wp2
            go_ret
            exact ⟨rfl, bt hbw4 hbz⟩
          · have hcut0 : ¬ cut < 0 := by omega
            go_wp2_with fail
            refine (alive_any _).mono ?_
            rintro e wz ⟨rfl, hbz⟩
            go_wp2
            go_ret
            exact ⟨rfl, bt hbw4 hbz⟩
        · obtain ⟨t, rfl⟩ := Int.eq_ofNat_of_zero_le (show 0 ≤ cut by omega)
          have hmw : (t : Int) < (wl : Int) := by omega
          have hcall := fun v h => read_cut A1 (L.take t) c1 t v (Lib.hid (by have := Hwl.out; rw [List.length_take]; omega)) (by have := hc1.1; omega) hc1.2 h (Lib.hid (HS.out t (by have := Hwl.out; omega)))
          have hcall := hcall _ (bs_take own14.bs t)
          have hmc : (t : Int) ≤ (c1 : Int) := by have := hc1.1; omega
          clear hcut
          go_wp2_with fail
          refine hcall.mono ?_
          clear hcall
          rintro e w5 ⟨rfl, hb5⟩
          have hb6 := bt (bt hbw4 hb5) (ba w5 (.cells #[.int .i64 0, .int .i64 0, .int .u32 0, .int .u32 0, .bool false, .int .u32 0, .int .u32 0] 26))
          go_wp2_with fail
          refine (alive_any _).mono ?_
          rintro e wz ⟨rfl, hbz⟩
          go_wp2
          go_ret
          exact ⟨rfl, bt hb6 hbz⟩
      · have hposI : ¬ (0 : Int) < (n : Int) := by omega
        go_enter Try.func6, Try.ntmps6
        go_wp2_with fail
        refine (hw1 _).mono ?_
        clear hw1
        rintro e w1 ⟨A1, c1, rfl, own1, hb1⟩
        have hbw1 := bt hbw hb1
        have hc1 : wl ≤ c1 ∧ c1 ≤ 9223372036854775807 := by rw [Hwl.out]; exact own_cap own1
        by_cases hcut : cut < 0 ∨ (wl : Int) ≤ cut
        · rcases hcut with hcut | hcut
          · go_wp2_with fail
            refine (alive_any _).mono ?_
            rintro e wz ⟨rfl, hbz⟩
            go_wp2
            go_ret
            exact ⟨rfl, bt hbw1 hbz⟩
          · have hcut0 : ¬ cut < 0 := by omega
            go_wp2_with fail
            refine (alive_any _).mono ?_
            rintro e wz ⟨rfl, hbz⟩
            go_wp2
            go_ret
            exact ⟨rfl, bt hbw1 hbz⟩
        · obtain ⟨t, rfl⟩ := Int.eq_ofNat_of_zero_le (show 0 ≤ cut by omega)
          have hmw : (t : Int) < (wl : Int) := by omega
          have hcall := fun v h => read_cut A1 (L.take t) c1 t v (Lib.hid (by have := Hwl.out; rw [List.length_take]; omega)) (by have := hc1.1; omega) hc1.2 h (Lib.hid (HS.out t (by have := Hwl.out; omega)))
          have hcall := hcall _ (bs_take own1.bs t)
          have hmc : (t : Int) ≤ (c1 : Int) := by have := hc1.1; omega
          clear hcut
          go_wp2_with fail
          refine hcall.mono ?_
          clear hcall
          rintro e w5 ⟨rfl, hb5⟩
          have hb6 := bt (bt hbw1 hb5) (ba w5 (.cells #[.int .i64 0, .int .i64 0, .int .u32 0, .int .u32 0, .bool false, .int .u32 0, .int .u32 0] 26))
          go_wp2_with fail
          refine (alive_any _).mono ?_
          rintro e wz ⟨rfl, hbz⟩
          go_wp2
          go_ret
          exact ⟨rfl, bt hb6 hbz⟩
  · rw [e1] at hw1
    obtain ⟨k, uu, a, q, mx, mi, yo⟩ := m
    unfold MsgV.val MsgV.cs at *
    unfold OutB at hw1
    have hbw := ba w (.cells #[.int .i64 k, .int .i64 uu, .int .u32 a, .int .u32 q, .bool mx, .int .u32 mi, .int .u32 yo] 26)
    clear e1
    simp only at hw1
    go_enter Try.func6, Try.ntmps6
    go_wp2_with fail
    refine (hw1 _).mono ?_
    clear hw1
    rintro e w1 ⟨A1, c1, rfl, own1, hb1⟩
    have hbw1 := bt hbw hb1
    go_wp2_with fail
    refine (alive_any _).mono ?_
    rintro e wz ⟨rfl, hbz⟩
    go_wp2
    go_ret
    exact ⟨rfl, bt hbw1 hbz⟩
end Go.Proofs.Ytoajhljfenpohaa
