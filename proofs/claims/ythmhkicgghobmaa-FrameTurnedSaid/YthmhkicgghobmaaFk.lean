/- Layer 7: a frame that is turned in one byte is none. -/
import Derived.Test.YthmhkicgghobmaaFj
namespace Go.Proofs.Ythmhkicgghobmaa
open Go.RowKit
set_option linter.unusedVariables false
set_option linter.unusedSimpArgs false

theorem turned_big (s : Nat) (q a : Int) (A : Option Addr) (n c : Nat) (at_ : Int) (y : UInt8) (w : World) (hb : decide (2000 < (n : Int)) = true) : Calls Try.prog 6 #[.agg #[.int .u32 s, .int .i64 q, .int .i64 a, .slice A n c], .int .i64 at_, .int .u8 (y.toNat : Int)] w fun e w' => e = .returned (.bool true) ∧ Below w.heap.size w w' := by
  have k1 := Blk.new w 25 #[.int .u32 s, .int .i64 q, .int .i64 a, .slice A n c]
  have hbw := ba w (.cells #[.int .u32 s, .int .i64 q, .int .i64 a, .slice A n c] 25)
  have x0 := (k1).cell 0
  have x1 := (k1).cell 1
  have x2 := (k1).cell 2
  have x3 := (k1).cell 3
  simp only [List.getElem?_toArray, List.getElem?_cons_zero, List.getElem?_cons_succ] at x0 x1 x2 x3
  go_enter Try.func6, Try.ntmps6
  go_wp2_with fail
  refine (alive_any _).mono ?_
  rintro e wz ⟨rfl, hbz⟩
  go_wp2
  go_ret
  exact ⟨rfl, bt hbw hbz⟩

set_option maxHeartbeats 1000000 in
theorem turned_err (s : Nat) (q a : Int) (A : Option Addr) (l L : List UInt8) (E : Int) (n c : Nat) (hn : Hid (n = l.length)) (at_ : Int) (y : UInt8) (w : World) (hs : s < 4294967296) (hbs : Bs w w.heap.size A l) (hR : Hid (writeF s q a l = (L, E))) (hb : decide (2000 < (n : Int)) = false) (he : (E != 0) = true) : Calls Try.prog 6 #[.agg #[.int .u32 s, .int .i64 q, .int .i64 a, .slice A n c], .int .i64 at_, .int .u8 (y.toNat : Int)] w fun e w' => e = .returned (.bool true) ∧ Below w.heap.size w w' := by
  have Hw0 := Lib.hid (fun w h => fwrite_wr s q a A l L E n c hn w hs h hR)
  have k1 := Blk.new w 25 #[.int .u32 s, .int .i64 q, .int .i64 a, .slice A n c]
  have hbw := ba w (.cells #[.int .u32 s, .int .i64 q, .int .i64 a, .slice A n c] 25)
  have x0 := (k1).cell 0
  have x1 := (k1).cell 1
  have x2 := (k1).cell 2
  have x3 := (k1).cell 3
  simp only [List.getElem?_toArray, List.getElem?_cons_zero, List.getElem?_cons_succ] at x0 x1 x2 x3
  go_enter Try.func6, Try.ntmps6
  go_wp2_with fail
  refine (Hw0.out _ (hbs.bt hbw)).mono ?_
  rintro e w1 ⟨A1, c1, J1, rfl, hJ1, own1, hb1⟩
  have hbw1 := bt hbw hb1
  clear x0 x1 x2 x3
  clear k1 hbw
  go_wp2_with fail
  refine (alive_any _).mono ?_
  rintro e wz ⟨rfl, hbz⟩
  go_wp2
  go_ret
  exact ⟨rfl, bt hbw1 hbz⟩

set_option maxHeartbeats 1000000 in
theorem turned_neg (s : Nat) (q a : Int) (A : Option Addr) (l L : List UInt8) (n c : Nat) (hn : Hid (n = l.length)) (at_ : Int) (y : UInt8) (w : World) (hs : s < 4294967296) (hbs : Bs w w.heap.size A l) (hR : Hid (writeF s q a l = (L, 0))) (hb : decide (2000 < (n : Int)) = false) (h0 : at_ < 0) : Calls Try.prog 6 #[.agg #[.int .u32 s, .int .i64 q, .int .i64 a, .slice A n c], .int .i64 at_, .int .u8 (y.toNat : Int)] w fun e w' => e = .returned (.bool true) ∧ Below w.heap.size w w' := by
  have Hw0 := Lib.hid (fun w h => fwrite_wr s q a A l L 0 n c hn w hs h hR)
  have k1 := Blk.new w 25 #[.int .u32 s, .int .i64 q, .int .i64 a, .slice A n c]
  have hbw := ba w (.cells #[.int .u32 s, .int .i64 q, .int .i64 a, .slice A n c] 25)
  have x0 := (k1).cell 0
  have x1 := (k1).cell 1
  have x2 := (k1).cell 2
  have x3 := (k1).cell 3
  simp only [List.getElem?_toArray, List.getElem?_cons_zero, List.getElem?_cons_succ] at x0 x1 x2 x3
  go_enter Try.func6, Try.ntmps6
  go_wp2_with fail
  refine (Hw0.out _ (hbs.bt hbw)).mono ?_
  rintro e w1 ⟨A1, c1, J1, rfl, hJ1, own1, hb1⟩
  have hbw1 := bt hbw hb1
  clear x0 x1 x2 x3
  clear k1 hbw
  go_wp2_with fail
  refine (alive_any _).mono ?_
  rintro e wz ⟨rfl, hbz⟩
  go_wp2
  go_ret
  exact ⟨rfl, bt hbw1 hbz⟩

set_option maxHeartbeats 1000000 in
theorem turned_out (s : Nat) (q a : Int) (A : Option Addr) (l L : List UInt8) (n c : Nat) (hn : Hid (n = l.length)) (at_ : Int) (y : UInt8) (w : World) (hs : s < 4294967296) (hbs : Bs w w.heap.size A l) (hR : Hid (writeF s q a l = (L, 0))) (hb : decide (2000 < (n : Int)) = false) (h0 : ¬ at_ < 0) (h1 : (L.length : Int) ≤ at_) : Calls Try.prog 6 #[.agg #[.int .u32 s, .int .i64 q, .int .i64 a, .slice A n c], .int .i64 at_, .int .u8 (y.toNat : Int)] w fun e w' => e = .returned (.bool true) ∧ Below w.heap.size w w' := by
  have Hw0 := Lib.hid (fun w h => fwrite_wr s q a A l L 0 n c hn w hs h hR)
  have k1 := Blk.new w 25 #[.int .u32 s, .int .i64 q, .int .i64 a, .slice A n c]
  have hbw := ba w (.cells #[.int .u32 s, .int .i64 q, .int .i64 a, .slice A n c] 25)
  have x0 := (k1).cell 0
  have x1 := (k1).cell 1
  have x2 := (k1).cell 2
  have x3 := (k1).cell 3
  simp only [List.getElem?_toArray, List.getElem?_cons_zero, List.getElem?_cons_succ] at x0 x1 x2 x3
  go_enter Try.func6, Try.ntmps6
  go_wp2_with fail
  refine (Hw0.out _ (hbs.bt hbw)).mono ?_
  rintro e w1 ⟨A1, c1, J1, rfl, hJ1, own1, hb1⟩
  have hbw1 := bt hbw hb1
  clear x0 x1 x2 x3
  clear k1 hbw
  have h2 : (J1 : Int) ≤ at_ := by rw [hJ1.out]; exact h1
  clear h1
  go_wp2_with fail
  refine (alive_any _).mono ?_
  rintro e wz ⟨rfl, hbz⟩
  go_wp2
  go_ret
  exact ⟨rfl, bt hbw1 hbz⟩

set_option maxHeartbeats 1000000 in
theorem turned_zero (s : Nat) (q a : Int) (A : Option Addr) (l L : List UInt8) (n c : Nat) (hn : Hid (n = l.length)) (j : Nat) (w : World) (hs : s < 4294967296) (hbs : Bs w w.heap.size A l) (hR : Hid (writeF s q a l = (L, 0))) (hb : decide (2000 < (n : Int)) = false) (h1 : j < L.length) : Calls Try.prog 6 #[.agg #[.int .u32 s, .int .i64 q, .int .i64 a, .slice A n c], .int .i64 j, .int .u8 0] w fun e w' => e = .returned (.bool true) ∧ Below w.heap.size w w' := by
  have Hw0 := Lib.hid (fun w h => fwrite_wr s q a A l L 0 n c hn w hs h hR)
  have k1 := Blk.new w 25 #[.int .u32 s, .int .i64 q, .int .i64 a, .slice A n c]
  have hbw := ba w (.cells #[.int .u32 s, .int .i64 q, .int .i64 a, .slice A n c] 25)
  have x0 := (k1).cell 0
  have x1 := (k1).cell 1
  have x2 := (k1).cell 2
  have x3 := (k1).cell 3
  simp only [List.getElem?_toArray, List.getElem?_cons_zero, List.getElem?_cons_succ] at x0 x1 x2 x3
  go_enter Try.func6, Try.ntmps6
  go_wp2_with fail
  refine (Hw0.out _ (hbs.bt hbw)).mono ?_
  rintro e w1 ⟨A1, c1, J1, rfl, hJ1, own1, hb1⟩
  have hbw1 := bt hbw hb1
  clear x0 x1 x2 x3
  clear k1 hbw
  have h2 : ¬ (J1 : Int) ≤ (j : Int) := by rw [hJ1.out]; omega
  have h3 : ¬ J1 ≤ j := by omega
  go_wp2_with fail
  refine (alive_any _).mono ?_
  rintro e wz ⟨rfl, hbz⟩
  go_wp2
  go_ret
  exact ⟨rfl, bt hbw1 hbz⟩

set_option maxHeartbeats 2000000 in
theorem turned_ok (s : Nat) (q a : Int) (A : Option Addr) (l L : List UInt8) (n c : Nat) (hn : Hid (n = l.length)) (j : Nat) (y : UInt8) (w : World) (hs : s < 4294967296) (hbs : Bs w w.heap.size A l) (hR : Hid (writeF s q a l = (L, 0))) (hb : decide (2000 < (n : Int)) = false) (h1 : Hid (j < L.length)) (x : UInt8) (hx : Hid (L[j]? = some x)) (hy : y ≠ 0) (E : Int) (hE : (E != 0) = true) (hrd : Hid (readF (L.set j (x ^^^ y)) = (0, 0, 0, [], E))) : Calls Try.prog 6 #[.agg #[.int .u32 s, .int .i64 q, .int .i64 a, .slice A n c], .int .i64 j, .int .u8 (y.toNat : Int)] w fun e w' => e = .returned (.bool true) ∧ Below w.heap.size w w' := by
  have hy0 : ((y.toNat : Int) == 0) = false := by
    rw [beq_eq_false_iff_ne]
    intro e
    exact hy (UInt8.toNat_inj.1 (by simpa using e))
  have hyl := y.toNat_lt
  have Hw0 := Lib.hid (fun w h => fwrite_wr s q a A l L 0 n c hn w hs h hR)
  have k1 := Blk.new w 25 #[.int .u32 s, .int .i64 q, .int .i64 a, .slice A n c]
  have hbw := ba w (.cells #[.int .u32 s, .int .i64 q, .int .i64 a, .slice A n c] 25)
  have x0 := (k1).cell 0
  have x1 := (k1).cell 1
  have x2 := (k1).cell 2
  have x3 := (k1).cell 3
  simp only [List.getElem?_toArray, List.getElem?_cons_zero, List.getElem?_cons_succ] at x0 x1 x2 x3
  go_enter Try.func6, Try.ntmps6
  go_wp2_with fail
  refine (Hw0.out _ (hbs.bt hbw)).mono ?_
  rintro e w1 ⟨A1, c1, J1, rfl, hJ1, own1, hb1⟩
  have hbw1 := bt hbw hb1
  clear x0 x1 x2 x3
  clear k1 hbw
  have h2 : ¬ (J1 : Int) ≤ (j : Int) := by have := h1.out; rw [hJ1.out]; omega
  have h3 : ¬ J1 ≤ j := by omega
  have h4 : j < J1 := by omega
  have h5 : (j : Int) < (J1 : Int) := by omega
  obtain ⟨g, rfl, hg1, hg2, hg3, hg4⟩ := own1.form (by have := h1.out; omega)
  have hc := own1.cell j h1.out
  have hf := own1.frozen j
  have hxx : L[j]'h1.out = x := by have := hx.out; rw [List.getElem?_eq_getElem h1.out] at this; injection this
  rw [hxx] at hc
  have hxl := x.toNat_lt
  have hst := (own1.stored j (x ^^^ y)).1
  rw [← xor_u8] at hst
  have hbs' : Below w.heap.size w (w1.setCell ⟨g, j, none⟩ (.int .u8 (bits .xor .u8 (x.toNat : Int) (y.toNat : Int)))) := hbw1.setCell (Nat.le_trans (ba w (.cells #[.int .u32 s, .int .i64 q, .int .i64 a, .slice A n c] 25)).size hg1) _
  obtain ⟨hcap1, hcap2⟩ := own_cap own1
  have hz := fread_zero (some ⟨g, 0, none⟩) (L.set j (x ^^^ y)) J1 c1 (Lib.hid (by rw [List.length_set]; exact hJ1.out)) (Lib.hid (by rw [hJ1.out]; exact hcap1)) (Lib.hid hcap2) _ hst.bs E hrd
  have hne0 : ¬ ((y.toNat : Int) = 0) := by intro e; rw [e] at hy0; exact absurd hy0 (by decide)
  clear own1 hg2 hg3 hg4 hst hb1 hbw1 hcap1 hcap2
  go_wp2_with fail
  refine hz.mono ?_
  clear hz
  rintro e w2 ⟨A5, c5, rfl, own5, hb5⟩
  have k5 := Blk.new w2 25 #[.int .u32 0, .int .i64 0, .int .i64 0, .slice A5 0 c5]
  have own6 := own5.alloc (.cells #[.int .u32 0, .int .i64 0, .int .i64 0, .slice A5 0 c5] 25)
  have hbw2 := bt (bt hbs' hb5) (ba w2 (.cells #[.int .u32 0, .int .i64 0, .int .i64 0, .slice A5 0 c5] 25))
  have x0 := (k5).cell 0
  have x1 := (k5).cell 1
  have x2 := (k5).cell 2
  have x3 := (k5).cell 3
  simp only [List.getElem?_toArray, List.getElem?_cons_zero, List.getElem?_cons_succ] at x0 x1 x2 x3
  clear hc hf hb5 own5 hbs'
  go_wp2_with fail
  refine (alive_any _).mono ?_
  rintro e w3 ⟨rfl, hb3⟩
  have k6 := k5.below hb3 (by simp)
  have own7 := own6.below hb3 (Nat.le_refl _)
  have hbw3 := bt hbw2 hb3
  clear x0 x1 x2 x3
  have x0 := (k6).cell 0
  have x1 := (k6).cell 1
  have x2 := (k6).cell 2
  have x3 := (k6).cell 3
  simp only [List.getElem?_toArray, List.getElem?_cons_zero, List.getElem?_cons_succ] at x0 x1 x2 x3
  have hsm := same_any 0 0 0 A5 [] 0 c5 (Lib.hid rfl) 0 0 0 none [] 0 0 (Lib.hid rfl) w3 own7.bs Bs.nil
  rw [show sameF 0 0 0 [] 0 0 0 [] = true by simp [sameF]] at hsm
  clear k5 k6 own6 own7 hb3 hbw2
  go_wp2_with fail
  refine hsm.mono ?_
  rintro e w4 ⟨rfl, hb4⟩
  go_wp2
  go_ret
  exact ⟨rfl, bt hbw3 hb4⟩

theorem frameTurned_walk (o : FrmV) (at_ : Int) (y : UInt8) (w : World) (ho : FrmOk w o) (b1 : -9223372036854775808 ≤ at_) (b2 : at_ ≤ 9223372036854775807) : Calls Try.prog 6 #[o.val, .int .i64 at_, .int .u8 (y.toNat : Int)] w fun e w' => e = .returned (.bool true) ∧ Below w.heap.size w w' := by
  obtain ⟨s, q, a, A, l, c⟩ := o
  obtain ⟨s1, _, _, _, _, bs, _, _⟩ := ho
  simp only at s1 bs
  unfold FrmV.val
  rcases hb : decide (2000 < (l.length : Int)) with _ | _
  · obtain ⟨⟨L, E⟩, hR⟩ : ∃ r, r = writeF s q a l := ⟨_, rfl⟩
    rcases writeF_ok hR.symm with ⟨rfl, rfl⟩ | ⟨rfl, rfl, hm⟩
    · exact turned_err s q a A l _ _ _ c (Lib.hid rfl) at_ y w s1 bs (Lib.hid hR.symm) hb rfl
    · by_cases h0 : at_ < 0
      · exact turned_neg s q a A l _ _ c (Lib.hid rfl) at_ y w s1 bs (Lib.hid hR.symm) hb h0
      · by_cases h1 : ((bytesF s q.toNat a.toNat l).length : Int) ≤ at_
        · exact turned_out s q a A l _ _ c (Lib.hid rfl) at_ y w s1 bs (Lib.hid hR.symm) hb h0 h1
        · obtain ⟨j, rfl⟩ := Int.eq_ofNat_of_zero_le (show 0 ≤ at_ by omega)
          have hj : j < (bytesF s q.toNat a.toNat l).length := by omega
          by_cases hy : y = 0
          · subst hy
            exact turned_zero s q a A l _ _ c (Lib.hid rfl) j w s1 bs (Lib.hid hR.symm) hb hj
          · obtain ⟨S, Q, Z, D, E, hrd⟩ : ∃ S Q Z D E, readF ((bytesF s q.toNat a.toNat l).set j ((bytesF s q.toNat a.toNat l)[j] ^^^ y)) = (S, Q, Z, D, E) := ⟨_, _, _, _, _, rfl⟩
            have hE := readF_turned s q.toNat a.toNat l j _ hj (by rw [List.getElem?_eq_getElem hj]; intro e; injection e with e; exact xor_ne _ y hy e.symm) S Q Z D E hrd
            obtain ⟨rfl, rfl, rfl, rfl⟩ := readF_err _ _ _ _ _ _ hrd hE
            exact turned_ok s q a A l _ _ c (Lib.hid rfl) j y w s1 bs (Lib.hid hR.symm) hb (Lib.hid hj) _ (Lib.hid (List.getElem?_eq_getElem hj)) hy E (bne_iff_ne.2 hE) (Lib.hid hrd)
  · exact turned_big s q a A _ c at_ y w hb
end Go.Proofs.Ythmhkicgghobmaa
