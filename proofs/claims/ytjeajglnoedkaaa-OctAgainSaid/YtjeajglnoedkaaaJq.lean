/- Layer 1: what is split is joined again as it stood; cut, it is a fault, or fewer parts. -/
import Derived.Test.YtjeajglnoedkaaaJp
namespace Go.Proofs.Ytjeajglnoedkaaa
open Go.RowKit
set_option linter.unusedVariables false
set_option linter.unusedSimpArgs false

set_option maxRecDepth 100000 in
set_option maxHeartbeats 4000000 in
theorem octAgain_walk (A : Option Addr) (l : List UInt8) (c : Nat) (cut : Int) (w : World) (hb : Bs w w.heap.size A l) (hcap : l.length ≤ c) (hc2 : c ≤ 9223372036854775807) (k1 : -9223372036854775808 ≤ cut) (k2 : cut ≤ 9223372036854775807) :
    Calls Try.prog 9 #[.slice A l.length c, .int .i64 cut] w fun e w' => e = .returned (.bool true) ∧ Below w.heap.size w w' := by
  obtain ⟨n, hn⟩ : ∃ n, n = l.length := ⟨_, rfl⟩
  rw [← hn] at hcap ⊢
  have HN := Lib.hid hn
  have HB := Lib.hid hb
  have Hcap := Lib.hid (And.intro hcap hc2)
  clear hn hb hcap hc2
  by_cases h4 : (4000 : Int) < (n : Int)
  · go_enter Try.func9, Try.ntmps9
    go_wp2_with fail
    refine (alive_any _).mono ?_
    rintro e w1 ⟨rfl, hb1⟩
    go_wp2
    go_ret
    exact ⟨rfl, hb1⟩
  · have hsp := split_any A l n c w HN Hcap.out.1 (Lib.hid Hcap.out.2) (Lib.hid (by omega)) HB.out
    obtain ⟨R, hR⟩ : ∃ R, R = splitR l := ⟨_, rfl⟩
    rw [← hR] at hsp
    have hf := split_fault l
    have hg := split_back l
    have hcu := fun k hk => split_cut l k hk
    have hpl := splitR_len l
    rw [← hR] at hf hg hpl
    simp only [← hR] at hcu
    obtain ⟨ps, fa, fc⟩ := R
    unfold SplitO at hsp
    simp only at hsp hf hg hcu hpl
    have Hf := Lib.hid hf
    have Hg := Lib.hid hg
    have Hcu := Lib.hid hcu
    have Hpl := Lib.hid hpl
    have Hsp := Lib.hid hsp
    clear hR hf hg hcu hpl hsp
    go_enter Try.func9, Try.ntmps9
    go_wp2_with fail
    refine Hsp.out.mono ?_
    rintro e w1 ⟨A1, c1, rfl, hL1, hb1⟩
    obtain ⟨w2, hw2⟩ : ∃ x, x = w1.alloc (.cells #[.int .i64 fa, .int .i64 fc] 36) := ⟨_, rfl⟩
    have hbl : Blk w2 w1.heap.size 36 #[.int .i64 fa, .int .i64 fc] := by rw [hw2]; exact Blk.new _ _ _
    have hb2 : Below w1.heap.size w1 w2 := by rw [hw2]; exact ba _ _
    have hLa := hL1.at_.bt hb2
    have hbw2 := bt hb1 hb2
    clear hL1 hb1 hb2 Hsp
    have x10 := hbl.cell 0
    have x11 := hbl.cell 1
    simp only [List.getElem?_toArray, List.getElem?_cons_zero, List.getElem?_cons_succ] at x10 x11
    by_cases hfc : fc = 0
    · subst hfc
      have hj := Hg.out rfl
      have hjoin := join_any A1 ps ps.length c1 w2 (Lib.hid rfl) (by have := Hpl.out; unfold maxLen; omega) hLa
      unfold JoinO at hjoin
      rw [hj] at hjoin
      simp only at hjoin
      rw [← HN.out] at hjoin
      have Hjoin := Lib.hid hjoin
      have HLa := Lib.hid hLa
      clear hjoin hj hLa
      go_wp2_with fail
      rw [← hw2]
      clear hw2
      refine Hjoin.out.mono ?_
      rintro e w3 ⟨A3, c3, rfl, hB3, hb3, _, _⟩
      have cv1 := conv_of n c3 HN.out hB3
      have cv2 := conv_of n c HN.out (HB.out.bt (bt hbw2 hb3))
      have hbw3 := bt hbw2 hb3
      clear hB3 hb3 hbw2 Hjoin
      by_cases hc0 : cut < 0
      · go_wp2_with fail
        refine (alive_any _).mono ?_
        rintro e w4 ⟨rfl, hb4⟩
        go_wp2
        go_ret
        exact ⟨rfl, bt hbw3 hb4⟩
      by_cases hcn : (n : Int) ≤ cut
      · go_wp2_with fail
        refine (alive_any _).mono ?_
        rintro e w4 ⟨rfl, hb4⟩
        go_wp2
        go_ret
        exact ⟨rfl, bt hbw3 hb4⟩
      obtain ⟨k, rfl⟩ := Int.eq_ofNat_of_zero_le (show 0 ≤ cut by omega)
      have hkn : k < n := by omega
      obtain ⟨b, o, rfl, hblt, hcs⟩ := HB.out (by rw [← HN.out]; omega)
      have hbk : ∀ w', Below w.heap.size w w' → Bs w' w'.heap.size (some ⟨b, o, none⟩) (l.take k) := fun w' h hp => by
        rw [List.length_take] at hp
        obtain ⟨b', o', e, h1, h2⟩ := HB.out.bt h (by omega)
        cases e
        refine ⟨b, o, rfl, h1, fun i hi => ?_⟩
        rw [List.length_take] at hi
        rw [List.getElem_take]
        exact h2 _ _
      have hkl : k = (l.take k).length := by rw [List.length_take, ← HN.out]; omega
      have hsp2 := fun (w' : World) (h : Below w.heap.size w w') => split_any (some ⟨b, o, none⟩) (l.take k) k c w' (Lib.hid hkl) (by have := Hcap.out.1; omega) (Lib.hid Hcap.out.2) (Lib.hid (by omega)) (hbk w' h)
      obtain ⟨R2, hR2⟩ : ∃ R2, R2 = splitR (l.take k) := ⟨_, rfl⟩
      have hcu := Hcu.out k (by rw [← HN.out]; exact hkn) (by first | trivial | rfl)
      rw [← hR2] at hcu
      simp only [← hR2] at hsp2
      obtain ⟨qs, ga, gc⟩ := R2
      unfold SplitO at hsp2
      simp only at hsp2 hcu
      have Hcu2 := Lib.hid hcu
      have Hsp2 := Lib.hid hsp2
      have HhK := Lib.hid (And.intro hbk hkl)
      have hkc : (k : Int) ≤ (c : Int) := by have := Hcap.out.1; omega
      clear hR2 hcu hsp2 hbk hkl hcs
      go_wp2_with fail
      refine (Hsp2.out _ hbw3).mono ?_
      rintro e w4 ⟨A4, c4, rfl, hL4, hb4⟩
      obtain ⟨w5, hw5⟩ : ∃ x, x = w4.alloc (.cells #[.int .i64 ga, .int .i64 gc] 36) := ⟨_, rfl⟩
      have hbl5 : Blk w5 w4.heap.size 36 #[.int .i64 ga, .int .i64 gc] := by rw [hw5]; exact Blk.new _ _ _
      have hb5 : Below w4.heap.size w4 w5 := by rw [hw5]; exact ba _ _
      have hbw5 := bt hbw3 (bt hb4 hb5)
      clear hL4 hb4 hb5 hbw3 hbl
      go_wp2_with fail
      rw [← hw5]
      clear hw5
      refine (alive_any _).mono ?_
      rintro e w6 ⟨rfl, hb6⟩
      have z := hbl5.below hb6 hbl5.lt
      have y10 := z.cell 0
      have y11 := z.cell 1
      simp only [List.getElem?_toArray, List.getElem?_cons_zero, List.getElem?_cons_succ] at y10 y11
      by_cases hgc : gc = 0
      · have hlen := Hcu2.out hgc
        have hlI : (qs.length : Int) < (ps.length : Int) := by omega
        subst hgc
        clear hlen
        go_wp2
        go_ret
        exact ⟨by simp, bt hbw5 hb6⟩
      · have hB2 : ((gc : Int) != 0) = true := by simp [hgc]
        go_wp2
        go_ret
        exact ⟨by simp, bt hbw5 hb6⟩
    · have hB1 : ((fc : Int) != 0) = true := by simp [hfc]
      obtain ⟨hp, f1, f2⟩ := Hf.out hfc
      have f3 : fa < (n : Int) := by rw [HN.out]; exact f2
      subst hp
      clear f2 hfc
      go_wp2_with fail
      rw [← hw2]
      clear hw2
      refine (alive_any _).mono ?_
      rintro e w3 ⟨rfl, hb3⟩
      have z := hbl.below hb3 hbl.lt
      have y10 := z.cell 0
      have y11 := z.cell 1
      simp only [List.getElem?_toArray, List.getElem?_cons_zero, List.getElem?_cons_succ] at y10 y11
      go_wp2
      go_ret
      exact ⟨by simp, bt hbw2 hb3⟩
end Go.Proofs.Ytjeajglnoedkaaa
