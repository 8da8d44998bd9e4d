/- Layer 11: what is told does not hang on how the bytes were cut. -/
import Derived.Test.YtgbcjimfpoeicaaRh
namespace Go.Proofs.Ytgbcjimfpoeicaa
open Go.RowKit
set_option linter.unusedVariables false
set_option linter.unusedSimpArgs false

theorem and_low (z : Int) (m : Nat) (hm : m < 1024) : ∃ k : Nat, k ≤ m ∧ bits .and .i64 z (m : Int) = (k : Int) := by
  refine ⟨(BitVec.ofInt 64 z &&& BitVec.ofInt 64 (m : Int)).toNat, ?_, ?_⟩
  · rw [BitVec.toNat_and, ofInt_u64 m (by omega)]
    exact Nat.and_le_right
  · show IntKind.i64.wrap ((BitVec.ofInt 64 z &&& BitVec.ofInt 64 (m : Int)).toNat : Int) = _
    have h : (BitVec.ofInt 64 z &&& BitVec.ofInt 64 (m : Int)).toNat ≤ m := by
      rw [BitVec.toNat_and, ofInt_u64 m (by omega)]
      exact Nat.and_le_right
    exact IntWalk.i64_in _ (by omega)
theorem StrAt.blk {w : World} {g left : Nat} {l : List UInt8} {en : Bool} (h : StrAt w g left l en) : ∃ cs, Blk w g 45 cs := by
  obtain ⟨A, n, c, h1, _⟩ := h.at_; exact ⟨_, h1⟩
theorem bs_none {w : World} {B : Nat} {l : List UInt8} (h : Bs w B none l) : l = [] := by
  cases l with
  | nil => rfl
  | cons x t => obtain ⟨b, o, e, _⟩ := h (by simp); cases e
theorem bs_take' {w : World} {B : Nat} {A : Option Addr} {l : List UInt8} (h : Bs w B A l) (m : Nat) : Bs w B A (l.take m) := fun hn => by
  rw [List.length_take] at hn
  obtain ⟨b, o, e, hb, hc⟩ := h (by omega)
  refine ⟨b, o, e, hb, fun i hi => ?_⟩
  rw [List.length_take] at hi
  rw [List.getElem_take]
  exact hc i (by omega)
theorem bs_drop' {w : World} {B : Nat} {A A2 : Option Addr} {l : List UInt8} (h : Bs w B A l) (m : Nat) (hA : 0 < (l.drop m).length → ∀ b o, A = some ⟨b, o, none⟩ → A2 = some ⟨b, o + m, none⟩) : Bs w B A2 (l.drop m) := fun hn => by
  have hn' := hn
  rw [List.length_drop] at hn'
  obtain ⟨b, o, e, hb, hc⟩ := h (by omega)
  refine ⟨b, o + m, hA hn b o e, hb, fun i hi => ?_⟩
  rw [List.length_drop] at hi
  rw [List.getElem_drop, Nat.add_assoc]
  exact hc (m + i) (by omega)
theorem bs_cases {w : World} {B n c : Nat} {A : Option Addr} {l : List UInt8} (h : Bs w B A l) (hs : ∀ a, A = some a → a.spot = none ∨ 0 < l.length) : True := trivial

theorem put_any {w : World} {g left : Nat} {l : List UInt8} (h : StrAt w g left l false) (A' : Option Addr) (m : List UInt8) (n' c' : Nat) (hn' : Hid (n' = m.length)) (hbs : Bs w w.heap.size A' m) (L : List UInt8) (hL : Hid (L = l ++ m)) (hf : Hid (L.length ≤ 65536)) :
    Calls Try.prog 11 #[.pointer (some ⟨g, 0, none⟩), .slice A' n' c'] w fun e w' => e = .returned (.int .i64 0) ∧ StrAt w' g left L false ∧ w.grownBy w' (some g) := by
  rw [hL.out]
  exact put_ok h A' m n' c' hn' hbs (by have := hf.out; rw [hL.out, List.length_append, ← hn'.out] at this; exact this)

set_option maxRecDepth 100000 in
set_option maxHeartbeats 4000000 in
theorem recsPieces_walk (A : Option Addr) (l : List UInt8) (c : Nat) (A1 : Option Addr) (cuts : List Int) (c1 : Nat) (A2 : Option Addr) (takes : List Int) (c2 : Nat) (w : World) (hb : Bs w w.heap.size A l) (hlc : l.length ≤ c) (hcm : c ≤ 9223372036854775807) (hA1 : IsAt w A1 cuts) (hm1 : cuts.length ≤ maxLen) (hA2 : IsAt w A2 takes) (hm2 : takes.length ≤ maxLen) :
    Calls Try.prog 7 #[.slice A l.length c, .slice A1 cuts.length c1, .slice A2 takes.length c2] w fun e w' => e = .returned (.bool true) ∧ Below w.heap.size w w' := by
  unfold maxLen at hm1 hm2
  obtain ⟨n, hn⟩ : ∃ n, n = l.length := ⟨_, rfl⟩
  obtain ⟨m1, hmm1⟩ : ∃ m1, m1 = cuts.length := ⟨_, rfl⟩
  obtain ⟨m2, hmm2⟩ : ∃ m2, m2 = takes.length := ⟨_, rfl⟩
  rw [← hn, ← hmm1, ← hmm2]
  rw [← hn] at hlc
  rw [← hmm1] at hm1
  rw [← hmm2] at hm2
  have Hn := Lib.hid hn
  have H1 := Lib.hid hmm1
  have H2 := Lib.hid hmm2
  clear hn hmm1 hmm2
  by_cases hbig : 600 < (n : Int)
  · go_enter Try.func7, Try.ntmps7
    go_wp2_with fail
    refine (alive_any _).mono ?_
    rintro e wz ⟨rfl, hbz⟩
    go_wp2
    go_ret
    exact ⟨rfl, hbz⟩
  by_cases hbig2 : 60 < (m2 : Int)
  · go_enter Try.func7, Try.ntmps7
    go_wp2_with fail
    refine (alive_any _).mono ?_
    rintro e wz ⟨rfl, hbz⟩
    go_wp2
    go_ret
    exact ⟨rfl, hbz⟩
  go_enter Try.func7, Try.ntmps7
  go_wp2_with fail
  refine (new_any _).mono ?_
  rintro e w1 ⟨rfl, S1, hb1⟩
  go_wp2_with fail
  refine (new_any _).mono ?_
  rintro e w2 ⟨rfl, T2, hb2⟩
  have S2 := S1.below hb2
  have hgt : w.heap.size < w1.heap.size := S1.lt
  have hw2 := bt hb1 hb2
  have hbs2 := (hb.below hw2).more hw2.size
  have hne : (w.heap.size : Nat) ≠ w1.heap.size := by omega
  obtain ⟨gt, hgte⟩ : ∃ gt, gt = w1.heap.size := ⟨_, rfl⟩
  rw [← hgte] at T2 hgt hne ⊢
  have hput := put_any S2 A l n c Hn hbs2 l (Lib.hid (by simp)) (Lib.hid (by rw [← Hn.out]; omega))
  obtain ⟨cs2, sb2⟩ := S2.blk
  clear S1 S2 hb1 hb2 hgte
  go_wp2_with fail
  refine hput.mono ?_
  clear hput
  rintro e w3 ⟨rfl, S3, hg3⟩
  have T3 := T2.other hg3 sb2 (Ne.symm hne)
  have hw3 := hw2.trans (below_of hg3 (Nat.le_refl _) hw2.size)
  clear sb2 T2 hg3 hbs2 hw2
  go_wp2_with fail
  go_loopw [9, 10] (fun lf i wr => ∃ (k : Nat) (p q : List UInt8) (A' : Option Addr) (n' c' : Nat), k ≤ m1 ∧ k ≤ 100 ∧ i = .int .i64 k ∧ lf = .slice A' n' c' ∧ Hid (l = p ++ q) ∧ Hid (n' = q.length) ∧ Bs w w.heap.size A' q ∧ n' ≤ c' ∧ c' ≤ 9223372036854775807 ∧ StrAt wr w.heap.size 0 l false ∧ StrAt wr gt 0 p false ∧ Below w.heap.size w wr) (fun _ i _ => 100 - (intOf i).toNat)
  case atStart => exact ⟨0, [], l, A, n, c, Nat.zero_le _, by omega, rfl, rfl, Lib.hid rfl, Hn, hb, hlc, hcm, S3, T3, hw3⟩
  case round =>
    clear S3 T3 hw3
    obtain ⟨k, p, q, A', n', c', hk, hk100, rfl, rfl, hl, hn', hbq, hle', hcm', S4, T4, hw4⟩ := hrel
    have hPQ : Hid (p.length + n' = n) := Lib.hid (by rw [Hn.out, hl.out, hn'.out, List.length_append])
    have goon : ¬ (k < m1 ∧ k < 100) → True := fun _ => trivial
    by_cases hkk : k < m1 ∧ k < 100
    · obtain ⟨hk1, hk2⟩ := hkk
      obtain ⟨b, o, rfl, hlt, hcs⟩ := (hA1.below hw4).2 (by rw [← H1.out]; omega)
      have q0 := hcs k (by rw [← H1.out]; exact hk1)
      obtain ⟨z, hz⟩ : ∃ z, z = cuts[k]'(by rw [← H1.out]; exact hk1) := ⟨_, rfl⟩
      rw [← hz] at q0
      obtain ⟨kk, hkk15, hand0⟩ := and_low z 15 (by omega)
      have hand : bits .and .i64 z 15 = (kk : Int) := hand0
      clear hand0
      clear hz hcs
      have hk1I : (k : Int) < (m1 : Int) := by omega
      obtain ⟨kc, hkc⟩ : ∃ kc, kc = min kk n' := ⟨_, rfl⟩
      have hbq4 := (hbq.below hw4).more hw4.size
      have hput := put_any T4 A' (q.take kc) kc c' (Lib.hid (by rw [List.length_take, ← hn'.out]; omega)) (bs_take' hbq4 kc) (p ++ q.take kc) (Lib.hid rfl) (Lib.hid (by rw [List.length_append, List.length_take]; have := hPQ.out; omega))
      obtain ⟨cs4, tb4⟩ := T4.blk
      have Hkc := Lib.hid hkc
      clear hkc
      by_cases hov : (n' : Int) < (kk : Int)
      · obtain rfl : kc = n' := by have := Hkc.out; omega
        have hn0 : q.take kc = q := List.take_of_length_le (by rw [hn'.out]; omega)
        have hn1 : Hid (q.drop kc = []) := Lib.hid (List.drop_of_length_le (by rw [hn'.out]; omega))
        rw [hn0] at hput
        have hkcI : (kc : Int) ≤ (c' : Int) := by omega
        have hovd : decide ((kc : Int) < (kk : Int)) = true := by simp; omega
        clear hn0
        go_wp2_with fail
        refine hput.mono ?_
        clear hput
        rintro e w5 ⟨rfl, T5, hg5⟩
        have S5 := S4.other hg5 tb4 hne
        have hw5 := hw4.trans (below_of hg5 (by omega) hw4.size)
        clear tb4 S4 hg5 hw4 hbq4 T4
        go_wp2
        go_roundw
        case rel => exact ⟨k + 1, p ++ q, [], _, 0, _, by omega, by omega, by first | go_num | simp, by first | rfl | (simp; done), Lib.hid (by rw [hl.out, List.append_nil]), Lib.hid rfl, Bs.nil, by omega, by omega, S5, T5, hw5⟩
        case measure => simp [intOf]; omega
      · obtain rfl : kc = kk := by have := Hkc.out; omega
        have hkn : kc ≤ n' := by omega
        have hkI : (kc : Int) ≤ (n' : Int) := by omega
        have hkcI : (kc : Int) ≤ (c' : Int) := by omega
        have hkc' : kc ≤ c' := by omega
        have hncI : (n' : Int) ≤ (c' : Int) := by omega
        have hovd : decide ((n' : Int) < (kc : Int)) = false := by simp; omega
        go_wp2_with fail
        refine hput.mono ?_
        clear hput
        rintro e w5 ⟨rfl, T5, hg5⟩
        have S5 := S4.other hg5 tb4 hne
        have hw5 := hw4.trans (below_of hg5 (by omega) hw4.size)
        clear tb4 S4 hg5 hw4 hbq4 T4
        go_wp2
        go_roundw
        case rel => exact ⟨k + 1, p ++ q.take kc, q.drop kc, _, n' - kc, c' - kc, by omega, by omega, by first | go_num | simp, rfl, Lib.hid (by rw [hl.out, List.append_assoc, List.take_append_drop]), Lib.hid (by rw [List.length_drop, ← hn'.out]), bs_drop' hbq kc (fun hp b' o' e => by rw [e, if_neg (by rw [List.length_drop, ← hn'.out] at hp; omega)]; simp [Addr.add]), by omega, by omega, S5, T5, hw5⟩
        case measure => simp [intOf]; omega
    · have hex : ¬ (k : Int) < (m1 : Int) ∨ ((k : Int) < (m1 : Int) ∧ ¬ (k : Int) < 100) := by omega
      have hbq4 := (hbq.below hw4).more hw4.size
      have hput := put_any T4 A' q n' c' hn' hbq4 l hl (Lib.hid (by rw [← Hn.out]; omega))
      obtain ⟨cs4, tb4⟩ := T4.blk
      have Hput := Lib.hid hput
      have HS4 := Lib.hid S4
      have HT4 := Lib.hid tb4
      clear hput S4 T4 hbq hbq4 hPQ hl tb4
      rcases hex with hx | ⟨hx, hx2⟩
      · skip
        go_wp2_with fail
        refine Hput.out.mono ?_
        clear Hput
        rintro e w5 ⟨rfl, T5, hg5⟩
        have S5 := HS4.out.other hg5 HT4.out hne
        have hw5 := hw4.trans (below_of hg5 (by omega) hw4.size)
        have hend := end_any S5
        obtain ⟨cs5, sb5⟩ := S5.blk
        clear HT4 HS4 hg5 hw4 S5
        go_wp2_with fail
        refine hend.mono ?_
        clear hend
        rintro e w6 ⟨rfl, S6, hg6⟩
        have T6 := T5.other hg6 sb5 (Ne.symm hne)
        have hw6 := hw5.trans (below_of hg6 (Nat.le_refl _) hw5.size)
        have hend := end_any T6
        obtain ⟨cs6, tb6⟩ := T6.blk
        clear sb5 T5 hg6 hw5 T6
        go_wp2_with fail
        refine hend.mono ?_
        clear hend
        rintro e w7 ⟨rfl, T7, hg7⟩
        have S7 := S6.other hg7 tb6 hne
        have hw7 := hw6.trans (below_of hg7 (by omega) hw6.size)
        clear tb6 S6 hg7 hw6
        go_wp2_with fail
        go_loopw [12] (fun i wr => ∃ (j lf : Nat) (L : List UInt8), j ≤ m2 ∧ i = .int .i64 j ∧ StrAt wr w.heap.size lf L true ∧ StrAt wr gt lf L true ∧ Below w.heap.size w wr) (fun i _ => m2 - (intOf i).toNat)
        case atStart => exact ⟨0, 0, l, Nat.zero_le _, rfl, S7, T7, hw7⟩
        case round =>
          clear S7 T7 hw7
          obtain ⟨j, lf, L, hj, rfl, S8, T8, hw8⟩ := hrel
          by_cases hjm : j < m2
          · obtain ⟨b2, o2, rfl, hlt2, hcs2⟩ := hA2.2 (by rw [← H2.out]; omega)
            have q00 := hcs2 j (by rw [← H2.out]; exact hjm)
            have hzb := hA2.1 (takes[j]'(by rw [← H2.out]; exact hjm)) (List.getElem_mem _)
            obtain ⟨z, hz⟩ : ∃ z, z = takes[j]'(by rw [← H2.out]; exact hjm) := ⟨_, rfl⟩
            rw [← hz] at q00 hzb
            have q0 := (hw8.cell (p := ⟨b2, o2 + j, none⟩) hlt2).trans q00
            have hjI : (j : Int) < (m2 : Int) := by omega
            have hg := get_any S8 z hzb.2
            have hgT := fun u (hT : StrAt u gt lf L true) => get_any hT z hzb.2
            obtain ⟨r, hr⟩ : ∃ r, r = getM lf L true z := ⟨_, rfl⟩
            rw [← hr] at hg hgT
            clear hr hz hcs2
            obtain ⟨⟨rb, rw_, rz⟩, rl, rL⟩ := r
            obtain ⟨cs8, sb8⟩ := S8.blk
            clear S8 hzb
            go_wp2_with fail
            refine hg.mono ?_
            clear hg
            rintro e w9 ⟨A9, n9, c9, rfl, hn9, own9, S9, hg9⟩
            simp only at hn9 own9 S9
            have T9 := T8.other hg9 sb8 (Ne.symm hne)
            have hw9 := hw8.trans (below_of hg9 (Nat.le_refl _) hw8.size)
            have q9 := (hw9.cell (p := ⟨b2, o2 + j, none⟩) hlt2).trans q00
            have hg2 := hgT _ T9
            obtain ⟨cs9, tb9⟩ := T9.blk
            clear q0 hgT sb8 T8 hw8 hg9 T9
            simp only
            go_wp2_with fail
            refine hg2.mono ?_
            clear hg2
            rintro e w10 ⟨A10, n10, c10, rfl, hn10, own10, T10, hg10⟩
            simp only at hn10 own10 T10
            have S10 := S9.other hg10 tb9 hne
            have hw10 := hw9.trans (below_of hg10 (by omega) hw9.size)
            have own9' := own9.kept hg10 (.inr (fun e => own9.ne_blk' tb9 stream_ne e.symm))
            have cv9 := conv_n A9 rb n9 c9 hn9 w10 _ own9'.bs
            have cv10 := conv_n A10 rb n10 c10 hn10 w10 _ own10.bs
            clear own9 own9' own10 hg10 hw9 q9 S9 tb9 hn9 hn10
            simp only
            go_wp2
            go_roundw
            case rel => exact ⟨j + 1, rl, rL, by omega, by first | go_num | simp, S10, T10, hw10⟩
            case measure => simp [intOf]; omega
          · have hjI : ¬ (j : Int) < (m2 : Int) := by omega
            obtain ⟨hl_, hhl⟩ : ∃ hl_, hl_ = L.length := ⟨_, rfl⟩
            have HH := Lib.hid hhl
            clear hhl
            go_wp2_with fail
            refine (alive_any _).mono ?_
            rintro e w9 ⟨rfl, hb9⟩
            have S9 := S8.below hb9
            have T9 := T8.below hb9
            have hw9 := bt hw8 hb9
            clear S8 T8 hb9 hw8
            go_wp2_with fail
            refine (held_n S9 hl_ HH).mono ?_
            rintro e wh ⟨rfl, rfl⟩
            go_wp2_with fail
            refine (held_n T9 hl_ HH).mono ?_
            rintro e wh ⟨rfl, rfl⟩
            go_wp2
            go_ret
            exact ⟨by simp, hw9⟩
      · skip
        go_wp2_with fail
        refine Hput.out.mono ?_
        clear Hput
        rintro e w5 ⟨rfl, T5, hg5⟩
        have S5 := HS4.out.other hg5 HT4.out hne
        have hw5 := hw4.trans (below_of hg5 (by omega) hw4.size)
        have hend := end_any S5
        obtain ⟨cs5, sb5⟩ := S5.blk
        clear HT4 HS4 hg5 hw4 S5
        go_wp2_with fail
        refine hend.mono ?_
        clear hend
        rintro e w6 ⟨rfl, S6, hg6⟩
        have T6 := T5.other hg6 sb5 (Ne.symm hne)
        have hw6 := hw5.trans (below_of hg6 (Nat.le_refl _) hw5.size)
        have hend := end_any T6
        obtain ⟨cs6, tb6⟩ := T6.blk
        clear sb5 T5 hg6 hw5 T6
        go_wp2_with fail
        refine hend.mono ?_
        clear hend
        rintro e w7 ⟨rfl, T7, hg7⟩
        have S7 := S6.other hg7 tb6 hne
        have hw7 := hw6.trans (below_of hg7 (by omega) hw6.size)
        clear tb6 S6 hg7 hw6
        go_wp2_with fail
        go_loopw [12] (fun i wr => ∃ (j lf : Nat) (L : List UInt8), j ≤ m2 ∧ i = .int .i64 j ∧ StrAt wr w.heap.size lf L true ∧ StrAt wr gt lf L true ∧ Below w.heap.size w wr) (fun i _ => m2 - (intOf i).toNat)
        case atStart => exact ⟨0, 0, l, Nat.zero_le _, rfl, S7, T7, hw7⟩
        case round =>
          clear S7 T7 hw7
          obtain ⟨j, lf, L, hj, rfl, S8, T8, hw8⟩ := hrel
          by_cases hjm : j < m2
          · obtain ⟨b2, o2, rfl, hlt2, hcs2⟩ := hA2.2 (by rw [← H2.out]; omega)
            have q00 := hcs2 j (by rw [← H2.out]; exact hjm)
            have hzb := hA2.1 (takes[j]'(by rw [← H2.out]; exact hjm)) (List.getElem_mem _)
            obtain ⟨z, hz⟩ : ∃ z, z = takes[j]'(by rw [← H2.out]; exact hjm) := ⟨_, rfl⟩
            rw [← hz] at q00 hzb
            have q0 := (hw8.cell (p := ⟨b2, o2 + j, none⟩) hlt2).trans q00
            have hjI : (j : Int) < (m2 : Int) := by omega
            have hg := get_any S8 z hzb.2
            have hgT := fun u (hT : StrAt u gt lf L true) => get_any hT z hzb.2
            obtain ⟨r, hr⟩ : ∃ r, r = getM lf L true z := ⟨_, rfl⟩
            rw [← hr] at hg hgT
            clear hr hz hcs2
            obtain ⟨⟨rb, rw_, rz⟩, rl, rL⟩ := r
            obtain ⟨cs8, sb8⟩ := S8.blk
            clear S8 hzb
            go_wp2_with fail
            refine hg.mono ?_
            clear hg
            rintro e w9 ⟨A9, n9, c9, rfl, hn9, own9, S9, hg9⟩
            simp only at hn9 own9 S9
            have T9 := T8.other hg9 sb8 (Ne.symm hne)
            have hw9 := hw8.trans (below_of hg9 (Nat.le_refl _) hw8.size)
            have q9 := (hw9.cell (p := ⟨b2, o2 + j, none⟩) hlt2).trans q00
            have hg2 := hgT _ T9
            obtain ⟨cs9, tb9⟩ := T9.blk
            clear q0 hgT sb8 T8 hw8 hg9 T9
            simp only
            go_wp2_with fail
            refine hg2.mono ?_
            clear hg2
            rintro e w10 ⟨A10, n10, c10, rfl, hn10, own10, T10, hg10⟩
            simp only at hn10 own10 T10
            have S10 := S9.other hg10 tb9 hne
            have hw10 := hw9.trans (below_of hg10 (by omega) hw9.size)
            have own9' := own9.kept hg10 (.inr (fun e => own9.ne_blk' tb9 stream_ne e.symm))
            have cv9 := conv_n A9 rb n9 c9 hn9 w10 _ own9'.bs
            have cv10 := conv_n A10 rb n10 c10 hn10 w10 _ own10.bs
            clear own9 own9' own10 hg10 hw9 q9 S9 tb9 hn9 hn10
            simp only
            go_wp2
            go_roundw
            case rel => exact ⟨j + 1, rl, rL, by omega, by first | go_num | simp, S10, T10, hw10⟩
            case measure => simp [intOf]; omega
          · have hjI : ¬ (j : Int) < (m2 : Int) := by omega
            obtain ⟨hl_, hhl⟩ : ∃ hl_, hl_ = L.length := ⟨_, rfl⟩
            have HH := Lib.hid hhl
            clear hhl
            go_wp2_with fail
            refine (alive_any _).mono ?_
            rintro e w9 ⟨rfl, hb9⟩
            have S9 := S8.below hb9
            have T9 := T8.below hb9
            have hw9 := bt hw8 hb9
            clear S8 T8 hb9 hw8
            go_wp2_with fail
            refine (held_n S9 hl_ HH).mono ?_
            rintro e wh ⟨rfl, rfl⟩
            go_wp2_with fail
            refine (held_n T9 hl_ HH).mono ?_
            rintro e wh ⟨rfl, rfl⟩
            go_wp2
            go_ret
            exact ⟨by simp, hw9⟩
end Go.Proofs.Ytgbcjimfpoeicaa
