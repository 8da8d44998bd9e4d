/- Layer 11: however the bytes come, records come out as they were. -/
import Derived.Test.YtgbcjimfpoeicaaRl
namespace Go.Proofs.Ytgbcjimfpoeicaa
open Go.RowKit
set_option linter.unusedVariables false
set_option linter.unusedSimpArgs false

/-- The loop over what came and what is taken. -/
structure Mid (w2 wr : World) (g : Nat) (rs : List (List UInt8)) (nd left : Nat) (piece L R : List UInt8) (AA AP : Option Addr) (nA nP cP : Nat) (j : Nat) : Prop where
  hnA : nA = R.length
  hnP : nP = piece.length
  hR : Bs w2 g AA R
  hP : Own wr g 5 AP cP piece
  hS : StrAt wr g left L false
  hF : piece ++ (L ++ R) = flatR (rs.drop nd)
  hp : (piece = [] ∧ left = 0) ∨ (nd < rs.length ∧ piece.length + left = (encR (rs.getD nd [])).length ∧ 0 < left)
  hN : ∀ x, blk AP = some x → BytesNot wr g x
  hM : j + 2 * R.length + L.length ≤ 4848
  hT : piece.length + L.length + R.length ≤ 2424
  hB : Below g w2 wr

theorem idx_lists (bL oL k c nd : Nat) (h : nd < k) (u : World) : (Instr.indexAt 47 (.slice (some ⟨bL, oL, none⟩) k c) (.int .i64 nd)).run Try.prog u = .ok (.pointer (some ⟨bL, oL + nd, none⟩)) u := by
  have h2 : (nd : Int) < (k : Int) := by omega
  simp [go_sem, h2, h]
set_option maxRecDepth 100000 in
set_option maxHeartbeats 8000000 in
theorem recsWhole_walk (A : Option Addr) (rs : List (List UInt8)) (c : Nat) (A1 : Option Addr) (cuts : List Int) (c1 : Nat) (A2 : Option Addr) (takes : List Int) (c2 : Nat) (w : World) (hm : rs.length ≤ maxLen) (hL : ListAt w w.heap.size A rs) (hA1 : IsAt w A1 cuts) (hm1 : cuts.length ≤ maxLen) (hA2 : IsAt w A2 takes) (hm2 : takes.length ≤ maxLen) :
    Calls Try.prog 5 #[.slice A rs.length c, .slice A1 cuts.length c1, .slice A2 takes.length c2] w fun e w' => e = .returned (.bool true) ∧ Below w.heap.size w w' := by
  obtain ⟨i0, hi, hz0, hz1, hz2⟩ := info_parts Try.infoU8r
  unfold maxLen at hm hm1 hm2
  obtain ⟨n, hn⟩ : ∃ n, n = rs.length := ⟨_, rfl⟩
  obtain ⟨m1, hmm1⟩ : ∃ m1, m1 = cuts.length := ⟨_, rfl⟩
  obtain ⟨m2, hmm2⟩ : ∃ m2, m2 = takes.length := ⟨_, rfl⟩
  rw [← hn, ← hmm1, ← hmm2]
  rw [← hn] at hm
  rw [← hmm1] at hm1
  rw [← hmm2] at hm2
  have Hn := Lib.hid hn
  have H1 := Lib.hid hmm1
  have H2 := Lib.hid hmm2
  clear hn hmm1 hmm2
  by_cases hbig : 12 < (n : Int)
  · go_enter Try.func5, Try.ntmps5
    go_wp2_with fail
    refine (alive_any _).mono ?_
    rintro e wz ⟨rfl, hbz⟩
    go_wp2
    go_ret
    exact ⟨rfl, hbz⟩
  have hn12 : Hid (n ≤ 12) := Lib.hid (by omega)
  have hbd : decide (12 < (n : Int)) = false := by simp; omega
  clear hbig
  go_enter Try.func5, Try.ntmps5
  go_wp2_with fail
  go_loopw [7, 8] (fun al i wr => ∃ (k : Nat) (Ao : Option Addr) (co no : Nat) (O : List UInt8), k ≤ n ∧ i = .int .i64 k ∧ al = .slice Ao no co ∧ Hid (no = O.length) ∧ Own wr w.heap.size 5 Ao co O ∧ Hid (O = flatR (rs.take k)) ∧ Hid (O.length ≤ k * 202) ∧ Hid (∀ q, q < k → (rs.getD q []).length ≤ 200) ∧ Below w.heap.size w wr) (fun _ i _ => n - (intOf i).toNat)
  case atStart => exact ⟨0, none, 0, 0, [], Nat.zero_le _, rfl, rfl, Lib.hid rfl, Own.nil, Lib.hid rfl, Lib.hid (by simp), Lib.hid (fun q h => absurd h (by omega)), Below.refl _ _⟩
  case round =>
    obtain ⟨k, Ao, co, no, O, hk, rfl, rfl, hno, hown, hO, hOl, hall, hb⟩ := hrel
    by_cases hkn : k < n
    · obtain ⟨b, o, rfl, hlt, hcs⟩ := hL (by rw [← Hn.out]; omega)
      have hkr : k < rs.length := by rw [← Hn.out]; exact hkn
      obtain ⟨Ar, cr, q0, hr0⟩ := hcs k hkr
      have hrk : rs.getD k [] = rs[k] := by simp [List.getD, hkr]
      have hst : rs.take (k + 1) = rs.take k ++ [rs[k]] := List.take_succ_eq_append_getElem hkr
      obtain ⟨r, hr⟩ : ∃ r, r = rs[k] := ⟨_, rfl⟩
      rw [← hr] at q0 hr0 hrk hst
      obtain ⟨nr, hnr⟩ : ∃ nr, nr = r.length := ⟨_, rfl⟩
      rw [← hnr] at q0
      have Hnr := Lib.hid hnr
      have Hrk := Lib.hid hrk
      have Hst := Lib.hid hst
      have q1 := (hb.cell (p := ⟨b, o + k, none⟩) hlt).trans q0
      have hr1 := (hr0.below hb).more hb.size
      have hkI : (k : Int) < (n : Int) := by omega
      clear hcs hr hnr hrk hst q0 hkr
      by_cases hbr : 200 < (nr : Int)
      · go_wp2_with fail
        refine (alive_any _).mono ?_
        rintro e wz ⟨rfl, hbz⟩
        go_wp2
        go_ret
        exact ⟨rfl, bt hb hbz⟩
      · have hbrd : decide (200 < (nr : Int)) = false := by simp; omega
        have Hbr : Hid (nr ≤ 200) := Lib.hid (by omega)
        clear hbr
        have hw := write_ok Ar r nr cr wr Hnr (by have := Hbr.out; omega) hr1
        have eq1 : (UInt8.ofNat ((nr + 2) / 256) :: UInt8.ofNat ((nr + 2) % 256) :: r) = encR r := by rw [Hnr.out]; rfl
        rw [eq1] at hw
        clear eq1 hr1
        go_wp2_with fail
        refine hw.mono ?_
        clear hw
        rintro e w1 ⟨A3, c3, rfl, own3, hb3⟩
        have hown1 := hown.below hb3 (Nat.le_refl _)
        have hb4 := bt hb hb3
        have r3 := own3.bs
        clear hown own3 hb3 hb q1
        go_wp2_with (at_builtin; refine wpList_append_bs _ rfl (.tmp 49) (.tmp 50) 26 rfl w.heap.size 5 i0 _ Try.underlying26 hi hz0 hz1 hz2 rfl Ao co O no rfl hno.out hown1 _ A3 c3 (encR r) (nr + 2) rfl (by rw [encR_length, Hnr.out]) r3 (by have := hOl.out; have := Hbr.out; have := Hnr.out; have := hn12.out; rw [encR_length]; omega) hb4.size ?_; intro A4 c4 w4 own4 hg4 _)
        have hb5 := hb4.trans (hown1.grown hg4 hb4.size)
        go_roundw
        case rel => exact ⟨k + 1, A4, c4, no + (nr + 2), O ++ encR r, by omega, by first | go_num | simp, rfl, Lib.hid (by rw [List.length_append, encR_length, ← hno.out, Hnr.out]), own4, Lib.hid (by rw [Hst.out, flatR_snoc, hO.out]), Lib.hid (by have := hOl.out; have := Hbr.out; have := Hnr.out; rw [List.length_append, encR_length]; omega), Lib.hid (fun q hq => by
          rcases Nat.lt_or_ge q k with h | h
          · exact hall.out q h
          · obtain rfl : q = k := by omega
            rw [Hrk.out, ← Hnr.out]; exact Hbr.out), hb5⟩
        case measure => simp [intOf]; omega
    · have hkI : ¬ (k : Int) < (n : Int) := by omega
      obtain rfl : k = n := by omega
      have hO2 : Hid (O = flatR rs) := Lib.hid (by rw [hO.out, Hn.out, List.take_length])
      go_wp2_with fail
      refine (new_any _).mono ?_
      rintro e w1 ⟨rfl, S1, hb1⟩
      have hlo := Own.cap hown
      have hR1 : Bs w1 wr.heap.size Ao O := hown.bs.below hb1
      have hw1 := bt hb hb1
      have hgw : w.heap.size ≤ wr.heap.size := hb.size
      obtain ⟨g, hg⟩ : ∃ g, g = wr.heap.size := ⟨_, rfl⟩
      rw [← hg] at S1 hR1 hgw hb1 ⊢
      have hM : Mid w1 w1 g rs 0 0 [] [] O Ao none no 0 0 0 := ⟨hno.out, rfl, hR1, Own.nil, S1, by rw [List.nil_append, List.nil_append, hO2.out]; rfl, .inl ⟨rfl, rfl⟩, by simp [blk], by have := hOl.out; have := hn12.out; simp; omega, by have := hOl.out; have := hn12.out; simp; omega, Below.refl _ _⟩
      have HM := Lib.hid hM
      have hcap : no ≤ co ∧ co ≤ 9223372036854775807 := by rw [hno.out]; simp only [maxLen] at hlo; omega
      have hgl : g ≤ w1.heap.size := by rw [hg]; exact hb1.size
      clear hM S1 hR1 hown hO hOl hb hlo hb1 hg
      have hcap1 := hcap.1
      have hcap2 := hcap.2
      clear hcap
      go_wp2_with fail
      go_loopw [7, 12, 13, 14] (fun al nn pc i wz => ∃ (j nd left nA nP cA cP : Nat) (piece L R : List UInt8) (AA AP : Option Addr), al = .slice AA nA cA ∧ nn = .int .i64 nd ∧ pc = .slice AP nP cP ∧ i = .int .i64 j ∧ nd ≤ k ∧ nA ≤ cA ∧ cA ≤ 9223372036854775807 ∧ Hid (Mid w1 wz g rs nd left piece L R AA AP nA nP cP j)) (fun _ _ _ i _ => 6000 - (intOf i).toNat)
      case atStart => exact ⟨0, 0, 0, no, 0, co, 0, [], [], O, Ao, none, rfl, rfl, rfl, rfl, Nat.zero_le _, hcap1, hcap2, HM⟩
      case round =>
        have HGL := Lib.hid hgl
        clear HM hcap1 hcap2 hgl
        obtain ⟨j, nd, left, nA, nP, cA, cP, piece, L, R, AA, AP, rfl, rfl, rfl, rfl, hnd, hcA, hcA2, HM⟩ := hrel
        have hjb : j ≤ 4848 := by have := HM.out.hM; omega
        have hj6 : decide ((j : Int) < 6000) = true := by simp; omega
        have Hjb := Lib.hid hjb
        clear hjb
        by_cases hnk : nd < k
        · have hnkI : (nd : Int) < (k : Int) := by omega
          have hwr := hw1.trans (HM.out.hB.mono hgw)
          have hPl : Hid (∀ x, Go.Proofs.Ytgbcjimfpoeicaa.blk AP = some x → x < wr.heap.size) := Lib.hid (fun x hx => (HM.out.hP.lt x hx).2)
          have hgl1 : g ≤ w1.heap.size := HGL.out
          have hall2 : ∀ q, q < k → (rs.getD q []).length ≤ 200 := hall.out
          by_cases hjc : j < m1
          · skip
            by_cases hjt : j < m2
            · skip
              obtain ⟨bC, oC, rfl, hltC, hcsC⟩ := hA1.2 (by rw [← H1.out]; omega)
              have qC0 := hcsC j (by rw [← H1.out]; exact hjc)
              obtain ⟨z, hz⟩ : ∃ z, z = cuts[j]'(by rw [← H1.out]; exact hjc) := ⟨_, rfl⟩
              rw [← hz] at qC0
              have qC := (hwr.cell (p := ⟨bC, oC + j, none⟩) hltC).trans qC0
              obtain ⟨kk, hkk31, hand0⟩ := and_low z 31 (by omega)
              have hand : bits .and .i64 z 31 = (kk : Int) := hand0
              obtain ⟨K0, hK0⟩ : ∃ K0, K0 = 1 + kk := ⟨_, rfl⟩
              have ek : IntKind.i64.wrap (1 + (kk : Int)) = (K0 : Int) := by rw [IntWalk.i64_in _ (by omega)]; omega
              have HK0 : Hid (1 ≤ K0 ∧ K0 ≤ 32) := Lib.hid (by omega)
              clear hz hcsC qC0 hand0 hK0 hkk31
              have hjcI : (j : Int) < (m1 : Int) := by omega
              by_cases hov : nA < K0
              · skip
                obtain ⟨bT, oT, rfl, hltT, hcsT⟩ := hA2.2 (by rw [← H2.out]; omega)
                have qT0 := hcsT j (by rw [← H2.out]; exact hjt)
                obtain ⟨y, hy⟩ : ∃ y, y = takes[j]'(by rw [← H2.out]; exact hjt) := ⟨_, rfl⟩
                rw [← hy] at qT0
                obtain ⟨tt, htt, handt0⟩ := and_low y 15 (by omega)
                have handt : bits .and .i64 y 15 = (tt : Int) := handt0
                obtain ⟨T0, hT0⟩ : ∃ T0, T0 = 1 + tt := ⟨_, rfl⟩
                have et : IntKind.i64.wrap (1 + (tt : Int)) = (T0 : Int) := by rw [IntWalk.i64_in _ (by omega)]; omega
                have HT0 : Hid (1 ≤ T0 ∧ T0 ≤ 16) := Lib.hid (by omega)
                clear hy hcsT handt0 hT0 htt
                have hjtI : (j : Int) < (m2 : Int) := by omega
                have hovd : decide ((nA : Int) < (K0 : Int)) = true := by simp; omega
                have hnAI : (nA : Int) ≤ (cA : Int) := by omega
                have hKc : Hid (nA ≤ nA) := Lib.hid (by omega)
                obtain ⟨AB, hAB⟩ : ∃ AB, AB = (if cA = nA then AA else AA.map (fun x => x.add nA)) := ⟨_, rfl⟩
                have HAB := Lib.hid hAB
                have hif := hAB.symm
                skip
                clear hAB
                have hbsR : Bs wr wr.heap.size AA R := (HM.out.hR.below HM.out.hB).more (Nat.le_of_lt HM.out.hS.lt)
                have hput := put_okX HM.out.hS AA (R.take nA) nA cA (Lib.hid (by rw [List.length_take, ← HM.out.hnA]; have := hKc.out; omega)) (bs_take' hbsR nA) (by have := HM.out.hT; have := HM.out.hnA; have := hKc.out; omega)
                clear hbsR hjc hjt
                go_wp2_with fail
                refine hput.mono ?_
                clear hput
                rintro e w5 ⟨rfl, S5, hg5, hbn5⟩
                have hb5 : Below g w1 w5 := HM.out.hB.trans (below_of hg5 (Nat.le_refl _) (Nat.le_trans hgl1 HM.out.hB.size))
                have n5 : Go.Proofs.Ytgbcjimfpoeicaa.blk AP ≠ some g := fun e => by obtain ⟨cs, hcs⟩ := HM.out.hS.blk; exact HM.out.hP.ne_blk' hcs stream_ne e.symm
                have P5 := HM.out.hP.kept hg5 (.inr n5)
                have N5 : Hid (∀ x, Go.Proofs.Ytgbcjimfpoeicaa.blk AP = some x → BytesNot w5 g x) := Lib.hid (fun x hx => hbn5 x (hPl.out x hx))
                have hstep := get_step (t := T0) (hall2 nd hnk) (show piece ++ ((L ++ R.take nA) ++ R.drop nA) = _ by rw [List.append_assoc, List.take_append_drop, HM.out.hF, flatR_drop rs nd (by rw [← Hn.out]; exact hnk)]) (HM.out.hp.imp id (fun h => h.2)) HT0.out.1
                skip
                have hget := get_anyX S5 T0 (by have := HT0.out; omega)
                have hw5 := hw1.trans (hb5.mono hgw)
                have qT := (hw5.cell (p := ⟨bT, oT + j, none⟩) hltT).trans qT0
                clear S5 hbn5 hg5 hov
                rcases hstep with ⟨hr, hRn⟩ | ⟨p, L', hr, hpp, hLp, hwh⟩ | ⟨p, left', L', hr, hpp, hLp, hlf, hl0⟩
                · rw [hr] at hget
                  have HR := Lib.hid hr
                  clear hr
                  have hget' := Lib.hid hget
                  clear hget
                  go_wp2_with fail
                  refine hget'.out.mono ?_
                  clear hget'
                  rintro e w6 ⟨⟨A6, n6, c6, rfl, hn6, own6, S6, hg6⟩, hbn6⟩
                  simp only at hn6 own6 S6
                  have hg5s : g ≤ w5.heap.size := Nat.le_trans hgl1 hb5.size
                  have hb6 : Below g w1 w6 := hb5.trans (below_of hg6 (Nat.le_refl _) hg5s)
                  have P6 := P5.kept hg6 (.inr n5)
                  have N6 : Hid (∀ x, Go.Proofs.Ytgbcjimfpoeicaa.blk AP = some x → BytesNot w6 g x) := Lib.hid (fun x hx => hbn6 x (N5.out x hx))
                  have HLEN : Hid ((R.drop nA).length = nA - nA ∧ (L ++ R.take nA).length = L.length + nA ∧ nA = R.length) := Lib.hid ⟨by rw [List.length_drop, ← HM.out.hnA], by rw [List.length_append, List.length_take, ← HM.out.hnA]; have := hKc.out; omega, HM.out.hnA⟩
                  clear own6 hbn6 hg6 P5
                  simp only
                  go_wp2
                  go_roundw
                  case rel => exact ⟨j + 1, nd, left, 0, nP, (cA - nA), cP, piece, L ++ R.take nA, R.drop nA, AB, AP, rfl, rfl, rfl, by first | go_num | simp, hnd, by omega, by omega, Lib.hid ⟨by have := HLEN.out; omega, HM.out.hnP, bs_drop' HM.out.hR nA (fun hp b' o' e => by rw [List.length_drop, ← HM.out.hnA] at hp; omega), P6, S6, by rw [List.append_assoc, List.take_append_drop]; exact HM.out.hF, HM.out.hp, N6.out, by have := HLEN.out; have := HM.out.hM; have hne : 0 < (R.drop nA).length := List.length_pos_iff.2 hRn; have := HK0.out; have := hKc.out; omega, by have := HLEN.out; have := HM.out.hT; have := hKc.out; omega, hb6⟩⟩
                  case measure => have := Hjb.out; simp [intOf]; omega
                · rw [hr] at hget
                  have HR := Lib.hid hr
                  clear hr
                  have hget' := Lib.hid hget
                  clear hget
                  go_wp2_with fail
                  refine hget'.out.mono ?_
                  clear hget'
                  rintro e w6 ⟨⟨A6, n6, c6, rfl, hn6, own6, S6, hg6⟩, hbn6⟩
                  simp only at hn6 own6 S6
                  have hg5s : g ≤ w5.heap.size := Nat.le_trans hgl1 hb5.size
                  have hb6 : Below g w1 w6 := hb5.trans (below_of hg6 (Nat.le_refl _) hg5s)
                  have P6 := P5.kept hg6 (.inr n5)
                  have N6 : Hid (∀ x, Go.Proofs.Ytgbcjimfpoeicaa.blk AP = some x → BytesNot w6 g x) := Lib.hid (fun x hx => hbn6 x (N5.out x hx))
                  have HLEN : Hid ((R.drop nA).length = nA - nA ∧ (L ++ R.take nA).length = L.length + nA ∧ nA = R.length) := Lib.hid ⟨by rw [List.length_drop, ← HM.out.hnA], by rw [List.length_append, List.length_take, ← HM.out.hnA]; have := hKc.out; omega, HM.out.hnA⟩
                  have r6 := own6.bs
                  have hsz6 : g ≤ w6.heap.size := Nat.le_trans hg5s hg6.size
                  simp only
                  have hlen3 : Hid (p.length + L'.length = L.length + nA) := Lib.hid (by have h2 := congrArg List.length hLp; rw [HLEN.out.2.1, List.length_append] at h2; omega)
                  go_wp2_with (at_builtin; refine wpList_append_bs _ rfl (.tmp 111) (.tmp 112) 26 rfl g 5 i0 _ Try.underlying26 hi hz0 hz1 hz2 rfl AP cP piece nP rfl HM.out.hnP P6 _ A6 c6 p n6 rfl hn6.out r6 (by have := HM.out.hT; have := hlen3.out; have := hKc.out; have := HLEN.out; omega) hsz6 ?_; intro A7 c7 w7 own7 hg7 hbk7)
                  have hb7 : Below g w1 w7 := hb6.trans (P6.grown hg7 hsz6)
                  have S7 : StrAt w7 g 0 L' false := by
                    cases hAP : Go.Proofs.Ytgbcjimfpoeicaa.blk AP with
                    | none => exact S6.apart (x := w6.heap.size) hg7 (.inl hAP) (bn_far S6 (Nat.le_refl _)) (by have := S6.lt; omega)
                    | some x => exact S6.apart (x := x) hg7 (.inr hAP) (N6.out x hAP) (fun e => n5 (by rw [hAP, e]))
                  have hw7 := hw1.trans (hb7.mono hgw)
                  obtain ⟨bL, oL, rfl, hltL, hcsL⟩ := hL (by rw [← Hn.out]; omega)
                  have hndr : nd < rs.length := by rw [← Hn.out]; exact hnk
                  obtain ⟨Ar, cr, qL0, hr0⟩ := hcsL nd hndr
                  have hrk : rs.getD nd [] = rs[nd] := by simp [List.getD, hndr]
                  have hr200 := hall2 nd hnk
                  obtain ⟨r, hr⟩ : ∃ r, r = rs[nd] := ⟨_, rfl⟩
                  rw [← hr] at qL0 hr0 hrk
                  rw [hrk] at hr200 hwh
                  obtain ⟨nr, hnr⟩ : ∃ nr, nr = r.length := ⟨_, rfl⟩
                  rw [← hnr] at qL0
                  have Hnr := Lib.hid hnr
                  have qL := (hw7.cell (p := ⟨bL, oL + nd, none⟩) hltL).trans qL0
                  have hwrt := write_ok Ar r nr cr w7 Hnr (by omega) ((hr0.below hw7).more hw7.size)
                  have eq1 : (UInt8.ofNat ((nr + 2) / 256) :: UInt8.ofNat ((nr + 2) % 256) :: r) = encR r := by rw [Hnr.out]; rfl
                  rw [eq1] at hwrt
                  have hwrt' := Lib.hid hwrt
                  have hFn : Hid (L' ++ R.drop nA = flatR (rs.drop (nd + 1))) := Lib.hid (by
                    have h1 : (piece ++ p) ++ (L' ++ R.drop nA) = encR r ++ flatR (rs.drop (nd + 1)) := by
                      rw [← hrk, ← flatR_drop rs nd hndr, ← HM.out.hF, List.append_assoc, ← List.append_assoc p, ← hLp, List.append_assoc, List.take_append_drop]
                    rw [hwh] at h1
                    exact List.append_cancel_left h1)
                  have hPn : Hid (nP + n6 = (encR r).length) := Lib.hid (by rw [← hwh, List.length_append, ← HM.out.hnP, ← hn6.out])
                  have e3 : Hid (nr + 2 = (encR r).length) := Lib.hid (by rw [encR_length, ← Hnr.out])
                  rw [hwh] at own7
                  have hix := fun u => idx_lists bL oL k c nd hnk u
                  have HPP := Lib.hid hpp
                  clear hwrt eq1 hwh hLp hpp hcsL hndr hrk hr200 hr hnr qL0 hr0 own6 r6 hbn6 hg6 P5 P6 N6 hbk7 hg7 S6 hb6
                  go_wp2_with fail
                  simp only [hix]
                  clear hix
                  go_wp2_with fail
                  refine hwrt'.out.mono ?_
                  clear hwrt'
                  rintro e w8 ⟨A8, c8, rfl, own8, hb8⟩
                  have S8 := S7.below hb8
                  have hg7s : g ≤ w7.heap.size := Nat.le_trans hgl1 hb7.size
                  have hb9 : Below g w1 w8 := hb7.trans (hb8.mono hg7s)
                  have cv7 := conv_n A7 (encR r) (nP + n6) c7 hPn w8 _ (own7.below hb8 (Nat.le_refl _)).bs
                  have cv8 := conv_n A8 (encR r) (nr + 2) c8 e3 w8 _ own8.bs
                  have en : IntKind.i64.wrap ((nd : Int) + 1) = ((nd + 1 : Nat) : Int) := by rw [IntWalk.i64_in _ (by have := hn12.out; omega)]; omega
                  clear own7 own8 S7 hb8 hb7 hw7 qL hltL
                  go_wp2
                  go_roundw
                  case rel => exact ⟨j + 1, nd + 1, 0, 0, 0, (cA - nA), 0, [], L', R.drop nA, AB, none, rfl, by first | go_num | simp, rfl, by first | go_num | simp, by omega, by omega, by omega, Lib.hid ⟨by have := HLEN.out; omega, rfl, bs_drop' HM.out.hR nA (fun hp b' o' e => by rw [List.length_drop, ← HM.out.hnA] at hp; omega), Own.nil, S8, by rw [List.nil_append]; exact hFn.out, .inl ⟨rfl, rfl⟩, by simp [Go.Proofs.Ytgbcjimfpoeicaa.blk], by have := HPP.out; have := HLEN.out; have := HM.out.hM; have := hKc.out; have := hlen3.out; omega, by have := HLEN.out; have := HM.out.hT; have := hKc.out; have := hlen3.out; simp only [List.length_nil]; omega, hb9⟩⟩
                  case measure => have := Hjb.out; simp [intOf]; omega
                · rw [hr] at hget
                  have HR := Lib.hid hr
                  clear hr
                  have hget' := Lib.hid hget
                  clear hget
                  go_wp2_with fail
                  refine hget'.out.mono ?_
                  clear hget'
                  rintro e w6 ⟨⟨A6, n6, c6, rfl, hn6, own6, S6, hg6⟩, hbn6⟩
                  simp only at hn6 own6 S6
                  have hg5s : g ≤ w5.heap.size := Nat.le_trans hgl1 hb5.size
                  have hb6 : Below g w1 w6 := hb5.trans (below_of hg6 (Nat.le_refl _) hg5s)
                  have P6 := P5.kept hg6 (.inr n5)
                  have N6 : Hid (∀ x, Go.Proofs.Ytgbcjimfpoeicaa.blk AP = some x → BytesNot w6 g x) := Lib.hid (fun x hx => hbn6 x (N5.out x hx))
                  have HLEN : Hid ((R.drop nA).length = nA - nA ∧ (L ++ R.take nA).length = L.length + nA ∧ nA = R.length) := Lib.hid ⟨by rw [List.length_drop, ← HM.out.hnA], by rw [List.length_append, List.length_take, ← HM.out.hnA]; have := hKc.out; omega, HM.out.hnA⟩
                  have r6 := own6.bs
                  have hsz6 : g ≤ w6.heap.size := Nat.le_trans hg5s hg6.size
                  simp only
                  have hlen3 : Hid (p.length + L'.length = L.length + nA) := Lib.hid (by have h2 := congrArg List.length hLp; rw [HLEN.out.2.1, List.length_append] at h2; omega)
                  go_wp2_with (at_builtin; refine wpList_append_bs _ rfl (.tmp 111) (.tmp 112) 26 rfl g 5 i0 _ Try.underlying26 hi hz0 hz1 hz2 rfl AP cP piece nP rfl HM.out.hnP P6 _ A6 c6 p n6 rfl hn6.out r6 (by have := HM.out.hT; have := hlen3.out; have := hKc.out; have := HLEN.out; omega) hsz6 ?_; intro A7 c7 w7 own7 hg7 hbk7)
                  have hb7 : Below g w1 w7 := hb6.trans (P6.grown hg7 hsz6)
                  have S7 : StrAt w7 g left' L' false := by
                    cases hAP : Go.Proofs.Ytgbcjimfpoeicaa.blk AP with
                    | none => exact S6.apart (x := w6.heap.size) hg7 (.inl hAP) (bn_far S6 (Nat.le_refl _)) (by have := S6.lt; omega)
                    | some x => exact S6.apart (x := x) hg7 (.inr hAP) (N6.out x hAP) (fun e => n5 (by rw [hAP, e]))
                  have N7 : ∀ x, Go.Proofs.Ytgbcjimfpoeicaa.blk A7 = some x → BytesNot w7 g x := by
                    intro x hx
                    have hgg := S6.lt
                    rcases hbk7 with e | e
                    · rw [e] at hx
                      exact bn_grown hg7 hgg (fun e' => n5 e'.symm) (N6.out x hx)
                    · rw [e] at hx
                      injection hx with hx
                      subst hx
                      exact bn_grown hg7 hgg (fun e' => n5 e'.symm) (bn_far S6 (Nat.le_refl _))
                  have HN7 := Lib.hid N7
                  clear N7 own6 r6 hbn6 hg6 P5 P6 N6 hbk7 hg7 S6 hb6
                  go_wp2
                  go_roundw
                  case rel => exact ⟨j + 1, nd, left', 0, nP + n6, (cA - nA), c7, piece ++ p, L', R.drop nA, AB, A7, rfl, rfl, rfl, by first | go_num | simp, hnd, by omega, by omega, Lib.hid ⟨by have := HLEN.out; omega, by rw [List.length_append, ← HM.out.hnP, ← hn6.out], bs_drop' HM.out.hR nA (fun hp b' o' e => by rw [List.length_drop, ← HM.out.hnA] at hp; omega), own7, S7, by rw [List.append_assoc, ← List.append_assoc p, ← hLp, List.append_assoc, List.take_append_drop]; exact HM.out.hF, .inr ⟨by rw [← Hn.out]; exact hnk, hlf, hl0⟩, HN7.out, by have := HLEN.out; have := HM.out.hM; have := hKc.out; have := hlen3.out; omega, by have := HLEN.out; have := HM.out.hT; have := hKc.out; have := hlen3.out; rw [List.length_append]; omega, hb7⟩⟩
                  case measure => have := Hjb.out; simp [intOf]; omega
              · skip
                obtain ⟨bT, oT, rfl, hltT, hcsT⟩ := hA2.2 (by rw [← H2.out]; omega)
                have qT0 := hcsT j (by rw [← H2.out]; exact hjt)
                obtain ⟨y, hy⟩ : ∃ y, y = takes[j]'(by rw [← H2.out]; exact hjt) := ⟨_, rfl⟩
                rw [← hy] at qT0
                obtain ⟨tt, htt, handt0⟩ := and_low y 15 (by omega)
                have handt : bits .and .i64 y 15 = (tt : Int) := handt0
                obtain ⟨T0, hT0⟩ : ∃ T0, T0 = 1 + tt := ⟨_, rfl⟩
                have et : IntKind.i64.wrap (1 + (tt : Int)) = (T0 : Int) := by rw [IntWalk.i64_in _ (by omega)]; omega
                have HT0 : Hid (1 ≤ T0 ∧ T0 ≤ 16) := Lib.hid (by omega)
                clear hy hcsT handt0 hT0 htt
                have hjtI : (j : Int) < (m2 : Int) := by omega
                have hovd : decide ((nA : Int) < (K0 : Int)) = false := by simp; omega
                have hcI : (K0 : Int) ≤ (cA : Int) := by omega
                have hcN : K0 ≤ cA := by omega
                have hnI : (K0 : Int) ≤ (nA : Int) := by omega
                have hnN : K0 ≤ nA := by omega
                have hnAI : (nA : Int) ≤ (cA : Int) := by omega
                have hKc : Hid (K0 ≤ nA) := Lib.hid (by omega)
                have Hov : Hid (¬ nA < K0) := Lib.hid (by omega)
                obtain ⟨AB, hAB⟩ : ∃ AB, AB = (if cA = K0 then AA else AA.map (fun x => x.add K0)) := ⟨_, rfl⟩
                have HAB := Lib.hid hAB
                have hif := hAB.symm
                skip
                clear hAB
                have hbsR : Bs wr wr.heap.size AA R := (HM.out.hR.below HM.out.hB).more (Nat.le_of_lt HM.out.hS.lt)
                have hput := put_okX HM.out.hS AA (R.take K0) K0 cA (Lib.hid (by rw [List.length_take, ← HM.out.hnA]; have := hKc.out; omega)) (bs_take' hbsR K0) (by have := HM.out.hT; have := HM.out.hnA; have := hKc.out; omega)
                clear hbsR hjc hjt
                go_wp2_with fail
                refine hput.mono ?_
                clear hput
                rintro e w5 ⟨rfl, S5, hg5, hbn5⟩
                have hb5 : Below g w1 w5 := HM.out.hB.trans (below_of hg5 (Nat.le_refl _) (Nat.le_trans hgl1 HM.out.hB.size))
                have n5 : Go.Proofs.Ytgbcjimfpoeicaa.blk AP ≠ some g := fun e => by obtain ⟨cs, hcs⟩ := HM.out.hS.blk; exact HM.out.hP.ne_blk' hcs stream_ne e.symm
                have P5 := HM.out.hP.kept hg5 (.inr n5)
                have N5 : Hid (∀ x, Go.Proofs.Ytgbcjimfpoeicaa.blk AP = some x → BytesNot w5 g x) := Lib.hid (fun x hx => hbn5 x (hPl.out x hx))
                have hstep := get_step (t := T0) (hall2 nd hnk) (show piece ++ ((L ++ R.take K0) ++ R.drop K0) = _ by rw [List.append_assoc, List.take_append_drop, HM.out.hF, flatR_drop rs nd (by rw [← Hn.out]; exact hnk)]) (HM.out.hp.imp id (fun h => h.2)) HT0.out.1
                skip
                have hget := get_anyX S5 T0 (by have := HT0.out; omega)
                have hw5 := hw1.trans (hb5.mono hgw)
                have qT := (hw5.cell (p := ⟨bT, oT + j, none⟩) hltT).trans qT0
                clear S5 hbn5 hg5 hov
                rcases hstep with ⟨hr, hRn⟩ | ⟨p, L', hr, hpp, hLp, hwh⟩ | ⟨p, left', L', hr, hpp, hLp, hlf, hl0⟩
                · rw [hr] at hget
                  have HR := Lib.hid hr
                  clear hr
                  have hget' := Lib.hid hget
                  clear hget
                  go_wp2_with fail
                  refine hget'.out.mono ?_
                  clear hget'
                  rintro e w6 ⟨⟨A6, n6, c6, rfl, hn6, own6, S6, hg6⟩, hbn6⟩
                  simp only at hn6 own6 S6
                  have hg5s : g ≤ w5.heap.size := Nat.le_trans hgl1 hb5.size
                  have hb6 : Below g w1 w6 := hb5.trans (below_of hg6 (Nat.le_refl _) hg5s)
                  have P6 := P5.kept hg6 (.inr n5)
                  have N6 : Hid (∀ x, Go.Proofs.Ytgbcjimfpoeicaa.blk AP = some x → BytesNot w6 g x) := Lib.hid (fun x hx => hbn6 x (N5.out x hx))
                  have HLEN : Hid ((R.drop K0).length = nA - K0 ∧ (L ++ R.take K0).length = L.length + K0 ∧ nA = R.length) := Lib.hid ⟨by rw [List.length_drop, ← HM.out.hnA], by rw [List.length_append, List.length_take, ← HM.out.hnA]; have := hKc.out; omega, HM.out.hnA⟩
                  clear own6 hbn6 hg6 P5
                  simp only
                  go_wp2
                  go_roundw
                  case rel => exact ⟨j + 1, nd, left, nA - K0, nP, (cA - K0), cP, piece, L ++ R.take K0, R.drop K0, AB, AP, rfl, rfl, rfl, by first | go_num | simp, hnd, by omega, by omega, Lib.hid ⟨by have := HLEN.out; omega, HM.out.hnP, bs_drop' HM.out.hR K0 (fun hp b' o' e => by rw [HAB.out, e, if_neg (by rw [List.length_drop, ← HM.out.hnA] at hp; have := Hov.out; omega)]; simp [Addr.add]), P6, S6, by rw [List.append_assoc, List.take_append_drop]; exact HM.out.hF, HM.out.hp, N6.out, by have := HLEN.out; have := HM.out.hM; have hne : 0 < (R.drop K0).length := List.length_pos_iff.2 hRn; have := HK0.out; have := hKc.out; omega, by have := HLEN.out; have := HM.out.hT; have := hKc.out; omega, hb6⟩⟩
                  case measure => have := Hjb.out; simp [intOf]; omega
                · rw [hr] at hget
                  have HR := Lib.hid hr
                  clear hr
                  have hget' := Lib.hid hget
                  clear hget
                  go_wp2_with fail
                  refine hget'.out.mono ?_
                  clear hget'
                  rintro e w6 ⟨⟨A6, n6, c6, rfl, hn6, own6, S6, hg6⟩, hbn6⟩
                  simp only at hn6 own6 S6
                  have hg5s : g ≤ w5.heap.size := Nat.le_trans hgl1 hb5.size
                  have hb6 : Below g w1 w6 := hb5.trans (below_of hg6 (Nat.le_refl _) hg5s)
                  have P6 := P5.kept hg6 (.inr n5)
                  have N6 : Hid (∀ x, Go.Proofs.Ytgbcjimfpoeicaa.blk AP = some x → BytesNot w6 g x) := Lib.hid (fun x hx => hbn6 x (N5.out x hx))
                  have HLEN : Hid ((R.drop K0).length = nA - K0 ∧ (L ++ R.take K0).length = L.length + K0 ∧ nA = R.length) := Lib.hid ⟨by rw [List.length_drop, ← HM.out.hnA], by rw [List.length_append, List.length_take, ← HM.out.hnA]; have := hKc.out; omega, HM.out.hnA⟩
                  have r6 := own6.bs
                  have hsz6 : g ≤ w6.heap.size := Nat.le_trans hg5s hg6.size
                  simp only
                  have hlen3 : Hid (p.length + L'.length = L.length + K0) := Lib.hid (by have h2 := congrArg List.length hLp; rw [HLEN.out.2.1, List.length_append] at h2; omega)
                  go_wp2_with (at_builtin; refine wpList_append_bs _ rfl (.tmp 111) (.tmp 112) 26 rfl g 5 i0 _ Try.underlying26 hi hz0 hz1 hz2 rfl AP cP piece nP rfl HM.out.hnP P6 _ A6 c6 p n6 rfl hn6.out r6 (by have := HM.out.hT; have := hlen3.out; have := hKc.out; have := HLEN.out; omega) hsz6 ?_; intro A7 c7 w7 own7 hg7 hbk7)
                  have hb7 : Below g w1 w7 := hb6.trans (P6.grown hg7 hsz6)
                  have S7 : StrAt w7 g 0 L' false := by
                    cases hAP : Go.Proofs.Ytgbcjimfpoeicaa.blk AP with
                    | none => exact S6.apart (x := w6.heap.size) hg7 (.inl hAP) (bn_far S6 (Nat.le_refl _)) (by have := S6.lt; omega)
                    | some x => exact S6.apart (x := x) hg7 (.inr hAP) (N6.out x hAP) (fun e => n5 (by rw [hAP, e]))
                  have hw7 := hw1.trans (hb7.mono hgw)
                  obtain ⟨bL, oL, rfl, hltL, hcsL⟩ := hL (by rw [← Hn.out]; omega)
                  have hndr : nd < rs.length := by rw [← Hn.out]; exact hnk
                  obtain ⟨Ar, cr, qL0, hr0⟩ := hcsL nd hndr
                  have hrk : rs.getD nd [] = rs[nd] := by simp [List.getD, hndr]
                  have hr200 := hall2 nd hnk
                  obtain ⟨r, hr⟩ : ∃ r, r = rs[nd] := ⟨_, rfl⟩
                  rw [← hr] at qL0 hr0 hrk
                  rw [hrk] at hr200 hwh
                  obtain ⟨nr, hnr⟩ : ∃ nr, nr = r.length := ⟨_, rfl⟩
                  rw [← hnr] at qL0
                  have Hnr := Lib.hid hnr
                  have qL := (hw7.cell (p := ⟨bL, oL + nd, none⟩) hltL).trans qL0
                  have hwrt := write_ok Ar r nr cr w7 Hnr (by omega) ((hr0.below hw7).more hw7.size)
                  have eq1 : (UInt8.ofNat ((nr + 2) / 256) :: UInt8.ofNat ((nr + 2) % 256) :: r) = encR r := by rw [Hnr.out]; rfl
                  rw [eq1] at hwrt
                  have hwrt' := Lib.hid hwrt
                  have hFn : Hid (L' ++ R.drop K0 = flatR (rs.drop (nd + 1))) := Lib.hid (by
                    have h1 : (piece ++ p) ++ (L' ++ R.drop K0) = encR r ++ flatR (rs.drop (nd + 1)) := by
                      rw [← hrk, ← flatR_drop rs nd hndr, ← HM.out.hF, List.append_assoc, ← List.append_assoc p, ← hLp, List.append_assoc, List.take_append_drop]
                    rw [hwh] at h1
                    exact List.append_cancel_left h1)
                  have hPn : Hid (nP + n6 = (encR r).length) := Lib.hid (by rw [← hwh, List.length_append, ← HM.out.hnP, ← hn6.out])
                  have e3 : Hid (nr + 2 = (encR r).length) := Lib.hid (by rw [encR_length, ← Hnr.out])
                  rw [hwh] at own7
                  have hix := fun u => idx_lists bL oL k c nd hnk u
                  have HPP := Lib.hid hpp
                  clear hwrt eq1 hwh hLp hpp hcsL hndr hrk hr200 hr hnr qL0 hr0 own6 r6 hbn6 hg6 P5 P6 N6 hbk7 hg7 S6 hb6
                  go_wp2_with fail
                  simp only [hix]
                  clear hix
                  go_wp2_with fail
                  refine hwrt'.out.mono ?_
                  clear hwrt'
                  rintro e w8 ⟨A8, c8, rfl, own8, hb8⟩
                  have S8 := S7.below hb8
                  have hg7s : g ≤ w7.heap.size := Nat.le_trans hgl1 hb7.size
                  have hb9 : Below g w1 w8 := hb7.trans (hb8.mono hg7s)
                  have cv7 := conv_n A7 (encR r) (nP + n6) c7 hPn w8 _ (own7.below hb8 (Nat.le_refl _)).bs
                  have cv8 := conv_n A8 (encR r) (nr + 2) c8 e3 w8 _ own8.bs
                  have en : IntKind.i64.wrap ((nd : Int) + 1) = ((nd + 1 : Nat) : Int) := by rw [IntWalk.i64_in _ (by have := hn12.out; omega)]; omega
                  clear own7 own8 S7 hb8 hb7 hw7 qL hltL
                  go_wp2
                  go_roundw
                  case rel => exact ⟨j + 1, nd + 1, 0, nA - K0, 0, (cA - K0), 0, [], L', R.drop K0, AB, none, rfl, by first | go_num | simp, rfl, by first | go_num | simp, by omega, by omega, by omega, Lib.hid ⟨by have := HLEN.out; omega, rfl, bs_drop' HM.out.hR K0 (fun hp b' o' e => by rw [HAB.out, e, if_neg (by rw [List.length_drop, ← HM.out.hnA] at hp; have := Hov.out; omega)]; simp [Addr.add]), Own.nil, S8, by rw [List.nil_append]; exact hFn.out, .inl ⟨rfl, rfl⟩, by simp [Go.Proofs.Ytgbcjimfpoeicaa.blk], by have := HPP.out; have := HLEN.out; have := HM.out.hM; have := hKc.out; have := hlen3.out; omega, by have := HLEN.out; have := HM.out.hT; have := hKc.out; have := hlen3.out; simp only [List.length_nil]; omega, hb9⟩⟩
                  case measure => have := Hjb.out; simp [intOf]; omega
                · rw [hr] at hget
                  have HR := Lib.hid hr
                  clear hr
                  have hget' := Lib.hid hget
                  clear hget
                  go_wp2_with fail
                  refine hget'.out.mono ?_
                  clear hget'
                  rintro e w6 ⟨⟨A6, n6, c6, rfl, hn6, own6, S6, hg6⟩, hbn6⟩
                  simp only at hn6 own6 S6
                  have hg5s : g ≤ w5.heap.size := Nat.le_trans hgl1 hb5.size
                  have hb6 : Below g w1 w6 := hb5.trans (below_of hg6 (Nat.le_refl _) hg5s)
                  have P6 := P5.kept hg6 (.inr n5)
                  have N6 : Hid (∀ x, Go.Proofs.Ytgbcjimfpoeicaa.blk AP = some x → BytesNot w6 g x) := Lib.hid (fun x hx => hbn6 x (N5.out x hx))
                  have HLEN : Hid ((R.drop K0).length = nA - K0 ∧ (L ++ R.take K0).length = L.length + K0 ∧ nA = R.length) := Lib.hid ⟨by rw [List.length_drop, ← HM.out.hnA], by rw [List.length_append, List.length_take, ← HM.out.hnA]; have := hKc.out; omega, HM.out.hnA⟩
                  have r6 := own6.bs
                  have hsz6 : g ≤ w6.heap.size := Nat.le_trans hg5s hg6.size
                  simp only
                  have hlen3 : Hid (p.length + L'.length = L.length + K0) := Lib.hid (by have h2 := congrArg List.length hLp; rw [HLEN.out.2.1, List.length_append] at h2; omega)
                  go_wp2_with (at_builtin; refine wpList_append_bs _ rfl (.tmp 111) (.tmp 112) 26 rfl g 5 i0 _ Try.underlying26 hi hz0 hz1 hz2 rfl AP cP piece nP rfl HM.out.hnP P6 _ A6 c6 p n6 rfl hn6.out r6 (by have := HM.out.hT; have := hlen3.out; have := hKc.out; have := HLEN.out; omega) hsz6 ?_; intro A7 c7 w7 own7 hg7 hbk7)
                  have hb7 : Below g w1 w7 := hb6.trans (P6.grown hg7 hsz6)
                  have S7 : StrAt w7 g left' L' false := by
                    cases hAP : Go.Proofs.Ytgbcjimfpoeicaa.blk AP with
                    | none => exact S6.apart (x := w6.heap.size) hg7 (.inl hAP) (bn_far S6 (Nat.le_refl _)) (by have := S6.lt; omega)
                    | some x => exact S6.apart (x := x) hg7 (.inr hAP) (N6.out x hAP) (fun e => n5 (by rw [hAP, e]))
                  have N7 : ∀ x, Go.Proofs.Ytgbcjimfpoeicaa.blk A7 = some x → BytesNot w7 g x := by
                    intro x hx
                    have hgg := S6.lt
                    rcases hbk7 with e | e
                    · rw [e] at hx
                      exact bn_grown hg7 hgg (fun e' => n5 e'.symm) (N6.out x hx)
                    · rw [e] at hx
                      injection hx with hx
                      subst hx
                      exact bn_grown hg7 hgg (fun e' => n5 e'.symm) (bn_far S6 (Nat.le_refl _))
                  have HN7 := Lib.hid N7
                  clear N7 own6 r6 hbn6 hg6 P5 P6 N6 hbk7 hg7 S6 hb6
                  go_wp2
                  go_roundw
                  case rel => exact ⟨j + 1, nd, left', nA - K0, nP + n6, (cA - K0), c7, piece ++ p, L', R.drop K0, AB, A7, rfl, rfl, rfl, by first | go_num | simp, hnd, by omega, by omega, Lib.hid ⟨by have := HLEN.out; omega, by rw [List.length_append, ← HM.out.hnP, ← hn6.out], bs_drop' HM.out.hR K0 (fun hp b' o' e => by rw [HAB.out, e, if_neg (by rw [List.length_drop, ← HM.out.hnA] at hp; have := Hov.out; omega)]; simp [Addr.add]), own7, S7, by rw [List.append_assoc, ← List.append_assoc p, ← hLp, List.append_assoc, List.take_append_drop]; exact HM.out.hF, .inr ⟨by rw [← Hn.out]; exact hnk, hlf, hl0⟩, HN7.out, by have := HLEN.out; have := HM.out.hM; have := hKc.out; have := hlen3.out; omega, by have := HLEN.out; have := HM.out.hT; have := hKc.out; have := hlen3.out; rw [List.length_append]; omega, hb7⟩⟩
                  case measure => have := Hjb.out; simp [intOf]; omega
            · skip
              obtain ⟨bC, oC, rfl, hltC, hcsC⟩ := hA1.2 (by rw [← H1.out]; omega)
              have qC0 := hcsC j (by rw [← H1.out]; exact hjc)
              obtain ⟨z, hz⟩ : ∃ z, z = cuts[j]'(by rw [← H1.out]; exact hjc) := ⟨_, rfl⟩
              rw [← hz] at qC0
              have qC := (hwr.cell (p := ⟨bC, oC + j, none⟩) hltC).trans qC0
              obtain ⟨kk, hkk31, hand0⟩ := and_low z 31 (by omega)
              have hand : bits .and .i64 z 31 = (kk : Int) := hand0
              obtain ⟨K0, hK0⟩ : ∃ K0, K0 = 1 + kk := ⟨_, rfl⟩
              have ek : IntKind.i64.wrap (1 + (kk : Int)) = (K0 : Int) := by rw [IntWalk.i64_in _ (by omega)]; omega
              have HK0 : Hid (1 ≤ K0 ∧ K0 ≤ 32) := Lib.hid (by omega)
              clear hz hcsC qC0 hand0 hK0 hkk31
              have hjcI : (j : Int) < (m1 : Int) := by omega
              by_cases hov : nA < K0
              · skip
                have hjtI : ¬ (j : Int) < (m2 : Int) := by omega
                have HT0 : Hid (1 ≤ 7 ∧ 7 ≤ 16) := Lib.hid (by omega)
                have hovd : decide ((nA : Int) < (K0 : Int)) = true := by simp; omega
                have hnAI : (nA : Int) ≤ (cA : Int) := by omega
                have hKc : Hid (nA ≤ nA) := Lib.hid (by omega)
                obtain ⟨AB, hAB⟩ : ∃ AB, AB = (if cA = nA then AA else AA.map (fun x => x.add nA)) := ⟨_, rfl⟩
                have HAB := Lib.hid hAB
                have hif := hAB.symm
                skip
                clear hAB
                have hbsR : Bs wr wr.heap.size AA R := (HM.out.hR.below HM.out.hB).more (Nat.le_of_lt HM.out.hS.lt)
                have hput := put_okX HM.out.hS AA (R.take nA) nA cA (Lib.hid (by rw [List.length_take, ← HM.out.hnA]; have := hKc.out; omega)) (bs_take' hbsR nA) (by have := HM.out.hT; have := HM.out.hnA; have := hKc.out; omega)
                clear hbsR hjc hjt
                go_wp2_with fail
                refine hput.mono ?_
                clear hput
                rintro e w5 ⟨rfl, S5, hg5, hbn5⟩
                have hb5 : Below g w1 w5 := HM.out.hB.trans (below_of hg5 (Nat.le_refl _) (Nat.le_trans hgl1 HM.out.hB.size))
                have n5 : Go.Proofs.Ytgbcjimfpoeicaa.blk AP ≠ some g := fun e => by obtain ⟨cs, hcs⟩ := HM.out.hS.blk; exact HM.out.hP.ne_blk' hcs stream_ne e.symm
                have P5 := HM.out.hP.kept hg5 (.inr n5)
                have N5 : Hid (∀ x, Go.Proofs.Ytgbcjimfpoeicaa.blk AP = some x → BytesNot w5 g x) := Lib.hid (fun x hx => hbn5 x (hPl.out x hx))
                have hstep := get_step (t := 7) (hall2 nd hnk) (show piece ++ ((L ++ R.take nA) ++ R.drop nA) = _ by rw [List.append_assoc, List.take_append_drop, HM.out.hF, flatR_drop rs nd (by rw [← Hn.out]; exact hnk)]) (HM.out.hp.imp id (fun h => h.2)) HT0.out.1
                change StepO (rs.getD nd []) piece (L ++ R.take nA) (R.drop nA) left (getM left (L ++ R.take nA) false 7) at hstep
                have hget := get_anyX S5 7 (by have := HT0.out; omega)
                have hw5 := hw1.trans (hb5.mono hgw)
                skip
                clear S5 hbn5 hg5 hov
                rcases hstep with ⟨hr, hRn⟩ | ⟨p, L', hr, hpp, hLp, hwh⟩ | ⟨p, left', L', hr, hpp, hLp, hlf, hl0⟩
                · rw [hr] at hget
                  have HR := Lib.hid hr
                  clear hr
                  have hget' := Lib.hid hget
                  clear hget
                  go_wp2_with fail
                  refine hget'.out.mono ?_
                  clear hget'
                  rintro e w6 ⟨⟨A6, n6, c6, rfl, hn6, own6, S6, hg6⟩, hbn6⟩
                  simp only at hn6 own6 S6
                  have hg5s : g ≤ w5.heap.size := Nat.le_trans hgl1 hb5.size
                  have hb6 : Below g w1 w6 := hb5.trans (below_of hg6 (Nat.le_refl _) hg5s)
                  have P6 := P5.kept hg6 (.inr n5)
                  have N6 : Hid (∀ x, Go.Proofs.Ytgbcjimfpoeicaa.blk AP = some x → BytesNot w6 g x) := Lib.hid (fun x hx => hbn6 x (N5.out x hx))
                  have HLEN : Hid ((R.drop nA).length = nA - nA ∧ (L ++ R.take nA).length = L.length + nA ∧ nA = R.length) := Lib.hid ⟨by rw [List.length_drop, ← HM.out.hnA], by rw [List.length_append, List.length_take, ← HM.out.hnA]; have := hKc.out; omega, HM.out.hnA⟩
                  clear own6 hbn6 hg6 P5
                  simp only
                  go_wp2
                  go_roundw
                  case rel => exact ⟨j + 1, nd, left, 0, nP, (cA - nA), cP, piece, L ++ R.take nA, R.drop nA, AB, AP, rfl, rfl, rfl, by first | go_num | simp, hnd, by omega, by omega, Lib.hid ⟨by have := HLEN.out; omega, HM.out.hnP, bs_drop' HM.out.hR nA (fun hp b' o' e => by rw [List.length_drop, ← HM.out.hnA] at hp; omega), P6, S6, by rw [List.append_assoc, List.take_append_drop]; exact HM.out.hF, HM.out.hp, N6.out, by have := HLEN.out; have := HM.out.hM; have hne : 0 < (R.drop nA).length := List.length_pos_iff.2 hRn; have := HK0.out; have := hKc.out; omega, by have := HLEN.out; have := HM.out.hT; have := hKc.out; omega, hb6⟩⟩
                  case measure => have := Hjb.out; simp [intOf]; omega
                · rw [hr] at hget
                  have HR := Lib.hid hr
                  clear hr
                  have hget' := Lib.hid hget
                  clear hget
                  go_wp2_with fail
                  refine hget'.out.mono ?_
                  clear hget'
                  rintro e w6 ⟨⟨A6, n6, c6, rfl, hn6, own6, S6, hg6⟩, hbn6⟩
                  simp only at hn6 own6 S6
                  have hg5s : g ≤ w5.heap.size := Nat.le_trans hgl1 hb5.size
                  have hb6 : Below g w1 w6 := hb5.trans (below_of hg6 (Nat.le_refl _) hg5s)
                  have P6 := P5.kept hg6 (.inr n5)
                  have N6 : Hid (∀ x, Go.Proofs.Ytgbcjimfpoeicaa.blk AP = some x → BytesNot w6 g x) := Lib.hid (fun x hx => hbn6 x (N5.out x hx))
                  have HLEN : Hid ((R.drop nA).length = nA - nA ∧ (L ++ R.take nA).length = L.length + nA ∧ nA = R.length) := Lib.hid ⟨by rw [List.length_drop, ← HM.out.hnA], by rw [List.length_append, List.length_take, ← HM.out.hnA]; have := hKc.out; omega, HM.out.hnA⟩
                  have r6 := own6.bs
                  have hsz6 : g ≤ w6.heap.size := Nat.le_trans hg5s hg6.size
                  simp only
                  have hlen3 : Hid (p.length + L'.length = L.length + nA) := Lib.hid (by have h2 := congrArg List.length hLp; rw [HLEN.out.2.1, List.length_append] at h2; omega)
                  go_wp2_with (at_builtin; refine wpList_append_bs _ rfl (.tmp 111) (.tmp 112) 26 rfl g 5 i0 _ Try.underlying26 hi hz0 hz1 hz2 rfl AP cP piece nP rfl HM.out.hnP P6 _ A6 c6 p n6 rfl hn6.out r6 (by have := HM.out.hT; have := hlen3.out; have := hKc.out; have := HLEN.out; omega) hsz6 ?_; intro A7 c7 w7 own7 hg7 hbk7)
                  have hb7 : Below g w1 w7 := hb6.trans (P6.grown hg7 hsz6)
                  have S7 : StrAt w7 g 0 L' false := by
                    cases hAP : Go.Proofs.Ytgbcjimfpoeicaa.blk AP with
                    | none => exact S6.apart (x := w6.heap.size) hg7 (.inl hAP) (bn_far S6 (Nat.le_refl _)) (by have := S6.lt; omega)
                    | some x => exact S6.apart (x := x) hg7 (.inr hAP) (N6.out x hAP) (fun e => n5 (by rw [hAP, e]))
                  have hw7 := hw1.trans (hb7.mono hgw)
                  obtain ⟨bL, oL, rfl, hltL, hcsL⟩ := hL (by rw [← Hn.out]; omega)
                  have hndr : nd < rs.length := by rw [← Hn.out]; exact hnk
                  obtain ⟨Ar, cr, qL0, hr0⟩ := hcsL nd hndr
                  have hrk : rs.getD nd [] = rs[nd] := by simp [List.getD, hndr]
                  have hr200 := hall2 nd hnk
                  obtain ⟨r, hr⟩ : ∃ r, r = rs[nd] := ⟨_, rfl⟩
                  rw [← hr] at qL0 hr0 hrk
                  rw [hrk] at hr200 hwh
                  obtain ⟨nr, hnr⟩ : ∃ nr, nr = r.length := ⟨_, rfl⟩
                  rw [← hnr] at qL0
                  have Hnr := Lib.hid hnr
                  have qL := (hw7.cell (p := ⟨bL, oL + nd, none⟩) hltL).trans qL0
                  have hwrt := write_ok Ar r nr cr w7 Hnr (by omega) ((hr0.below hw7).more hw7.size)
                  have eq1 : (UInt8.ofNat ((nr + 2) / 256) :: UInt8.ofNat ((nr + 2) % 256) :: r) = encR r := by rw [Hnr.out]; rfl
                  rw [eq1] at hwrt
                  have hwrt' := Lib.hid hwrt
                  have hFn : Hid (L' ++ R.drop nA = flatR (rs.drop (nd + 1))) := Lib.hid (by
                    have h1 : (piece ++ p) ++ (L' ++ R.drop nA) = encR r ++ flatR (rs.drop (nd + 1)) := by
                      rw [← hrk, ← flatR_drop rs nd hndr, ← HM.out.hF, List.append_assoc, ← List.append_assoc p, ← hLp, List.append_assoc, List.take_append_drop]
                    rw [hwh] at h1
                    exact List.append_cancel_left h1)
                  have hPn : Hid (nP + n6 = (encR r).length) := Lib.hid (by rw [← hwh, List.length_append, ← HM.out.hnP, ← hn6.out])
                  have e3 : Hid (nr + 2 = (encR r).length) := Lib.hid (by rw [encR_length, ← Hnr.out])
                  rw [hwh] at own7
                  have hix := fun u => idx_lists bL oL k c nd hnk u
                  have HPP := Lib.hid hpp
                  clear hwrt eq1 hwh hLp hpp hcsL hndr hrk hr200 hr hnr qL0 hr0 own6 r6 hbn6 hg6 P5 P6 N6 hbk7 hg7 S6 hb6
                  go_wp2_with fail
                  simp only [hix]
                  clear hix
                  go_wp2_with fail
                  refine hwrt'.out.mono ?_
                  clear hwrt'
                  rintro e w8 ⟨A8, c8, rfl, own8, hb8⟩
                  have S8 := S7.below hb8
                  have hg7s : g ≤ w7.heap.size := Nat.le_trans hgl1 hb7.size
                  have hb9 : Below g w1 w8 := hb7.trans (hb8.mono hg7s)
                  have cv7 := conv_n A7 (encR r) (nP + n6) c7 hPn w8 _ (own7.below hb8 (Nat.le_refl _)).bs
                  have cv8 := conv_n A8 (encR r) (nr + 2) c8 e3 w8 _ own8.bs
                  have en : IntKind.i64.wrap ((nd : Int) + 1) = ((nd + 1 : Nat) : Int) := by rw [IntWalk.i64_in _ (by have := hn12.out; omega)]; omega
                  clear own7 own8 S7 hb8 hb7 hw7 qL hltL
                  go_wp2
                  go_roundw
                  case rel => exact ⟨j + 1, nd + 1, 0, 0, 0, (cA - nA), 0, [], L', R.drop nA, AB, none, rfl, by first | go_num | simp, rfl, by first | go_num | simp, by omega, by omega, by omega, Lib.hid ⟨by have := HLEN.out; omega, rfl, bs_drop' HM.out.hR nA (fun hp b' o' e => by rw [List.length_drop, ← HM.out.hnA] at hp; omega), Own.nil, S8, by rw [List.nil_append]; exact hFn.out, .inl ⟨rfl, rfl⟩, by simp [Go.Proofs.Ytgbcjimfpoeicaa.blk], by have := HPP.out; have := HLEN.out; have := HM.out.hM; have := hKc.out; have := hlen3.out; omega, by have := HLEN.out; have := HM.out.hT; have := hKc.out; have := hlen3.out; simp only [List.length_nil]; omega, hb9⟩⟩
                  case measure => have := Hjb.out; simp [intOf]; omega
                · rw [hr] at hget
                  have HR := Lib.hid hr
                  clear hr
                  have hget' := Lib.hid hget
                  clear hget
                  go_wp2_with fail
                  refine hget'.out.mono ?_
                  clear hget'
                  rintro e w6 ⟨⟨A6, n6, c6, rfl, hn6, own6, S6, hg6⟩, hbn6⟩
                  simp only at hn6 own6 S6
                  have hg5s : g ≤ w5.heap.size := Nat.le_trans hgl1 hb5.size
                  have hb6 : Below g w1 w6 := hb5.trans (below_of hg6 (Nat.le_refl _) hg5s)
                  have P6 := P5.kept hg6 (.inr n5)
                  have N6 : Hid (∀ x, Go.Proofs.Ytgbcjimfpoeicaa.blk AP = some x → BytesNot w6 g x) := Lib.hid (fun x hx => hbn6 x (N5.out x hx))
                  have HLEN : Hid ((R.drop nA).length = nA - nA ∧ (L ++ R.take nA).length = L.length + nA ∧ nA = R.length) := Lib.hid ⟨by rw [List.length_drop, ← HM.out.hnA], by rw [List.length_append, List.length_take, ← HM.out.hnA]; have := hKc.out; omega, HM.out.hnA⟩
                  have r6 := own6.bs
                  have hsz6 : g ≤ w6.heap.size := Nat.le_trans hg5s hg6.size
                  simp only
                  have hlen3 : Hid (p.length + L'.length = L.length + nA) := Lib.hid (by have h2 := congrArg List.length hLp; rw [HLEN.out.2.1, List.length_append] at h2; omega)
                  go_wp2_with (at_builtin; refine wpList_append_bs _ rfl (.tmp 111) (.tmp 112) 26 rfl g 5 i0 _ Try.underlying26 hi hz0 hz1 hz2 rfl AP cP piece nP rfl HM.out.hnP P6 _ A6 c6 p n6 rfl hn6.out r6 (by have := HM.out.hT; have := hlen3.out; have := hKc.out; have := HLEN.out; omega) hsz6 ?_; intro A7 c7 w7 own7 hg7 hbk7)
                  have hb7 : Below g w1 w7 := hb6.trans (P6.grown hg7 hsz6)
                  have S7 : StrAt w7 g left' L' false := by
                    cases hAP : Go.Proofs.Ytgbcjimfpoeicaa.blk AP with
                    | none => exact S6.apart (x := w6.heap.size) hg7 (.inl hAP) (bn_far S6 (Nat.le_refl _)) (by have := S6.lt; omega)
                    | some x => exact S6.apart (x := x) hg7 (.inr hAP) (N6.out x hAP) (fun e => n5 (by rw [hAP, e]))
                  have N7 : ∀ x, Go.Proofs.Ytgbcjimfpoeicaa.blk A7 = some x → BytesNot w7 g x := by
                    intro x hx
                    have hgg := S6.lt
                    rcases hbk7 with e | e
                    · rw [e] at hx
                      exact bn_grown hg7 hgg (fun e' => n5 e'.symm) (N6.out x hx)
                    · rw [e] at hx
                      injection hx with hx
                      subst hx
                      exact bn_grown hg7 hgg (fun e' => n5 e'.symm) (bn_far S6 (Nat.le_refl _))
                  have HN7 := Lib.hid N7
                  clear N7 own6 r6 hbn6 hg6 P5 P6 N6 hbk7 hg7 S6 hb6
                  go_wp2
                  go_roundw
                  case rel => exact ⟨j + 1, nd, left', 0, nP + n6, (cA - nA), c7, piece ++ p, L', R.drop nA, AB, A7, rfl, rfl, rfl, by first | go_num | simp, hnd, by omega, by omega, Lib.hid ⟨by have := HLEN.out; omega, by rw [List.length_append, ← HM.out.hnP, ← hn6.out], bs_drop' HM.out.hR nA (fun hp b' o' e => by rw [List.length_drop, ← HM.out.hnA] at hp; omega), own7, S7, by rw [List.append_assoc, ← List.append_assoc p, ← hLp, List.append_assoc, List.take_append_drop]; exact HM.out.hF, .inr ⟨by rw [← Hn.out]; exact hnk, hlf, hl0⟩, HN7.out, by have := HLEN.out; have := HM.out.hM; have := hKc.out; have := hlen3.out; omega, by have := HLEN.out; have := HM.out.hT; have := hKc.out; have := hlen3.out; rw [List.length_append]; omega, hb7⟩⟩
                  case measure => have := Hjb.out; simp [intOf]; omega
              · skip
                have hjtI : ¬ (j : Int) < (m2 : Int) := by omega
                have HT0 : Hid (1 ≤ 7 ∧ 7 ≤ 16) := Lib.hid (by omega)
                have hovd : decide ((nA : Int) < (K0 : Int)) = false := by simp; omega
                have hcI : (K0 : Int) ≤ (cA : Int) := by omega
                have hcN : K0 ≤ cA := by omega
                have hnI : (K0 : Int) ≤ (nA : Int) := by omega
                have hnN : K0 ≤ nA := by omega
                have hnAI : (nA : Int) ≤ (cA : Int) := by omega
                have hKc : Hid (K0 ≤ nA) := Lib.hid (by omega)
                have Hov : Hid (¬ nA < K0) := Lib.hid (by omega)
                obtain ⟨AB, hAB⟩ : ∃ AB, AB = (if cA = K0 then AA else AA.map (fun x => x.add K0)) := ⟨_, rfl⟩
                have HAB := Lib.hid hAB
                have hif := hAB.symm
                skip
                clear hAB
                have hbsR : Bs wr wr.heap.size AA R := (HM.out.hR.below HM.out.hB).more (Nat.le_of_lt HM.out.hS.lt)
                have hput := put_okX HM.out.hS AA (R.take K0) K0 cA (Lib.hid (by rw [List.length_take, ← HM.out.hnA]; have := hKc.out; omega)) (bs_take' hbsR K0) (by have := HM.out.hT; have := HM.out.hnA; have := hKc.out; omega)
                clear hbsR hjc hjt
                go_wp2_with fail
                refine hput.mono ?_
                clear hput
                rintro e w5 ⟨rfl, S5, hg5, hbn5⟩
                have hb5 : Below g w1 w5 := HM.out.hB.trans (below_of hg5 (Nat.le_refl _) (Nat.le_trans hgl1 HM.out.hB.size))
                have n5 : Go.Proofs.Ytgbcjimfpoeicaa.blk AP ≠ some g := fun e => by obtain ⟨cs, hcs⟩ := HM.out.hS.blk; exact HM.out.hP.ne_blk' hcs stream_ne e.symm
                have P5 := HM.out.hP.kept hg5 (.inr n5)
                have N5 : Hid (∀ x, Go.Proofs.Ytgbcjimfpoeicaa.blk AP = some x → BytesNot w5 g x) := Lib.hid (fun x hx => hbn5 x (hPl.out x hx))
                have hstep := get_step (t := 7) (hall2 nd hnk) (show piece ++ ((L ++ R.take K0) ++ R.drop K0) = _ by rw [List.append_assoc, List.take_append_drop, HM.out.hF, flatR_drop rs nd (by rw [← Hn.out]; exact hnk)]) (HM.out.hp.imp id (fun h => h.2)) HT0.out.1
                change StepO (rs.getD nd []) piece (L ++ R.take K0) (R.drop K0) left (getM left (L ++ R.take K0) false 7) at hstep
                have hget := get_anyX S5 7 (by have := HT0.out; omega)
                have hw5 := hw1.trans (hb5.mono hgw)
                skip
                clear S5 hbn5 hg5 hov
                rcases hstep with ⟨hr, hRn⟩ | ⟨p, L', hr, hpp, hLp, hwh⟩ | ⟨p, left', L', hr, hpp, hLp, hlf, hl0⟩
                · rw [hr] at hget
                  have HR := Lib.hid hr
                  clear hr
                  have hget' := Lib.hid hget
                  clear hget
                  go_wp2_with fail
                  refine hget'.out.mono ?_
                  clear hget'
                  rintro e w6 ⟨⟨A6, n6, c6, rfl, hn6, own6, S6, hg6⟩, hbn6⟩
                  simp only at hn6 own6 S6
                  have hg5s : g ≤ w5.heap.size := Nat.le_trans hgl1 hb5.size
                  have hb6 : Below g w1 w6 := hb5.trans (below_of hg6 (Nat.le_refl _) hg5s)
                  have P6 := P5.kept hg6 (.inr n5)
                  have N6 : Hid (∀ x, Go.Proofs.Ytgbcjimfpoeicaa.blk AP = some x → BytesNot w6 g x) := Lib.hid (fun x hx => hbn6 x (N5.out x hx))
                  have HLEN : Hid ((R.drop K0).length = nA - K0 ∧ (L ++ R.take K0).length = L.length + K0 ∧ nA = R.length) := Lib.hid ⟨by rw [List.length_drop, ← HM.out.hnA], by rw [List.length_append, List.length_take, ← HM.out.hnA]; have := hKc.out; omega, HM.out.hnA⟩
                  clear own6 hbn6 hg6 P5
                  simp only
                  go_wp2
                  go_roundw
                  case rel => exact ⟨j + 1, nd, left, nA - K0, nP, (cA - K0), cP, piece, L ++ R.take K0, R.drop K0, AB, AP, rfl, rfl, rfl, by first | go_num | simp, hnd, by omega, by omega, Lib.hid ⟨by have := HLEN.out; omega, HM.out.hnP, bs_drop' HM.out.hR K0 (fun hp b' o' e => by rw [HAB.out, e, if_neg (by rw [List.length_drop, ← HM.out.hnA] at hp; have := Hov.out; omega)]; simp [Addr.add]), P6, S6, by rw [List.append_assoc, List.take_append_drop]; exact HM.out.hF, HM.out.hp, N6.out, by have := HLEN.out; have := HM.out.hM; have hne : 0 < (R.drop K0).length := List.length_pos_iff.2 hRn; have := HK0.out; have := hKc.out; omega, by have := HLEN.out; have := HM.out.hT; have := hKc.out; omega, hb6⟩⟩
                  case measure => have := Hjb.out; simp [intOf]; omega
                · rw [hr] at hget
                  have HR := Lib.hid hr
                  clear hr
                  have hget' := Lib.hid hget
                  clear hget
                  go_wp2_with fail
                  refine hget'.out.mono ?_
                  clear hget'
                  rintro e w6 ⟨⟨A6, n6, c6, rfl, hn6, own6, S6, hg6⟩, hbn6⟩
                  simp only at hn6 own6 S6
                  have hg5s : g ≤ w5.heap.size := Nat.le_trans hgl1 hb5.size
                  have hb6 : Below g w1 w6 := hb5.trans (below_of hg6 (Nat.le_refl _) hg5s)
                  have P6 := P5.kept hg6 (.inr n5)
                  have N6 : Hid (∀ x, Go.Proofs.Ytgbcjimfpoeicaa.blk AP = some x → BytesNot w6 g x) := Lib.hid (fun x hx => hbn6 x (N5.out x hx))
                  have HLEN : Hid ((R.drop K0).length = nA - K0 ∧ (L ++ R.take K0).length = L.length + K0 ∧ nA = R.length) := Lib.hid ⟨by rw [List.length_drop, ← HM.out.hnA], by rw [List.length_append, List.length_take, ← HM.out.hnA]; have := hKc.out; omega, HM.out.hnA⟩
                  have r6 := own6.bs
                  have hsz6 : g ≤ w6.heap.size := Nat.le_trans hg5s hg6.size
                  simp only
                  have hlen3 : Hid (p.length + L'.length = L.length + K0) := Lib.hid (by have h2 := congrArg List.length hLp; rw [HLEN.out.2.1, List.length_append] at h2; omega)
                  go_wp2_with (at_builtin; refine wpList_append_bs _ rfl (.tmp 111) (.tmp 112) 26 rfl g 5 i0 _ Try.underlying26 hi hz0 hz1 hz2 rfl AP cP piece nP rfl HM.out.hnP P6 _ A6 c6 p n6 rfl hn6.out r6 (by have := HM.out.hT; have := hlen3.out; have := hKc.out; have := HLEN.out; omega) hsz6 ?_; intro A7 c7 w7 own7 hg7 hbk7)
                  have hb7 : Below g w1 w7 := hb6.trans (P6.grown hg7 hsz6)
                  have S7 : StrAt w7 g 0 L' false := by
                    cases hAP : Go.Proofs.Ytgbcjimfpoeicaa.blk AP with
                    | none => exact S6.apart (x := w6.heap.size) hg7 (.inl hAP) (bn_far S6 (Nat.le_refl _)) (by have := S6.lt; omega)
                    | some x => exact S6.apart (x := x) hg7 (.inr hAP) (N6.out x hAP) (fun e => n5 (by rw [hAP, e]))
                  have hw7 := hw1.trans (hb7.mono hgw)
                  obtain ⟨bL, oL, rfl, hltL, hcsL⟩ := hL (by rw [← Hn.out]; omega)
                  have hndr : nd < rs.length := by rw [← Hn.out]; exact hnk
                  obtain ⟨Ar, cr, qL0, hr0⟩ := hcsL nd hndr
                  have hrk : rs.getD nd [] = rs[nd] := by simp [List.getD, hndr]
                  have hr200 := hall2 nd hnk
                  obtain ⟨r, hr⟩ : ∃ r, r = rs[nd] := ⟨_, rfl⟩
                  rw [← hr] at qL0 hr0 hrk
                  rw [hrk] at hr200 hwh
                  obtain ⟨nr, hnr⟩ : ∃ nr, nr = r.length := ⟨_, rfl⟩
                  rw [← hnr] at qL0
                  have Hnr := Lib.hid hnr
                  have qL := (hw7.cell (p := ⟨bL, oL + nd, none⟩) hltL).trans qL0
                  have hwrt := write_ok Ar r nr cr w7 Hnr (by omega) ((hr0.below hw7).more hw7.size)
                  have eq1 : (UInt8.ofNat ((nr + 2) / 256) :: UInt8.ofNat ((nr + 2) % 256) :: r) = encR r := by rw [Hnr.out]; rfl
                  rw [eq1] at hwrt
                  have hwrt' := Lib.hid hwrt
                  have hFn : Hid (L' ++ R.drop K0 = flatR (rs.drop (nd + 1))) := Lib.hid (by
                    have h1 : (piece ++ p) ++ (L' ++ R.drop K0) = encR r ++ flatR (rs.drop (nd + 1)) := by
                      rw [← hrk, ← flatR_drop rs nd hndr, ← HM.out.hF, List.append_assoc, ← List.append_assoc p, ← hLp, List.append_assoc, List.take_append_drop]
                    rw [hwh] at h1
                    exact List.append_cancel_left h1)
                  have hPn : Hid (nP + n6 = (encR r).length) := Lib.hid (by rw [← hwh, List.length_append, ← HM.out.hnP, ← hn6.out])
                  have e3 : Hid (nr + 2 = (encR r).length) := Lib.hid (by rw [encR_length, ← Hnr.out])
                  rw [hwh] at own7
                  have hix := fun u => idx_lists bL oL k c nd hnk u
                  have HPP := Lib.hid hpp
                  clear hwrt eq1 hwh hLp hpp hcsL hndr hrk hr200 hr hnr qL0 hr0 own6 r6 hbn6 hg6 P5 P6 N6 hbk7 hg7 S6 hb6
                  go_wp2_with fail
                  simp only [hix]
                  clear hix
                  go_wp2_with fail
                  refine hwrt'.out.mono ?_
                  clear hwrt'
                  rintro e w8 ⟨A8, c8, rfl, own8, hb8⟩
                  have S8 := S7.below hb8
                  have hg7s : g ≤ w7.heap.size := Nat.le_trans hgl1 hb7.size
                  have hb9 : Below g w1 w8 := hb7.trans (hb8.mono hg7s)
                  have cv7 := conv_n A7 (encR r) (nP + n6) c7 hPn w8 _ (own7.below hb8 (Nat.le_refl _)).bs
                  have cv8 := conv_n A8 (encR r) (nr + 2) c8 e3 w8 _ own8.bs
                  have en : IntKind.i64.wrap ((nd : Int) + 1) = ((nd + 1 : Nat) : Int) := by rw [IntWalk.i64_in _ (by have := hn12.out; omega)]; omega
                  clear own7 own8 S7 hb8 hb7 hw7 qL hltL
                  go_wp2
                  go_roundw
                  case rel => exact ⟨j + 1, nd + 1, 0, nA - K0, 0, (cA - K0), 0, [], L', R.drop K0, AB, none, rfl, by first | go_num | simp, rfl, by first | go_num | simp, by omega, by omega, by omega, Lib.hid ⟨by have := HLEN.out; omega, rfl, bs_drop' HM.out.hR K0 (fun hp b' o' e => by rw [HAB.out, e, if_neg (by rw [List.length_drop, ← HM.out.hnA] at hp; have := Hov.out; omega)]; simp [Addr.add]), Own.nil, S8, by rw [List.nil_append]; exact hFn.out, .inl ⟨rfl, rfl⟩, by simp [Go.Proofs.Ytgbcjimfpoeicaa.blk], by have := HPP.out; have := HLEN.out; have := HM.out.hM; have := hKc.out; have := hlen3.out; omega, by have := HLEN.out; have := HM.out.hT; have := hKc.out; have := hlen3.out; simp only [List.length_nil]; omega, hb9⟩⟩
                  case measure => have := Hjb.out; simp [intOf]; omega
                · rw [hr] at hget
                  have HR := Lib.hid hr
                  clear hr
                  have hget' := Lib.hid hget
                  clear hget
                  go_wp2_with fail
                  refine hget'.out.mono ?_
                  clear hget'
                  rintro e w6 ⟨⟨A6, n6, c6, rfl, hn6, own6, S6, hg6⟩, hbn6⟩
                  simp only at hn6 own6 S6
                  have hg5s : g ≤ w5.heap.size := Nat.le_trans hgl1 hb5.size
                  have hb6 : Below g w1 w6 := hb5.trans (below_of hg6 (Nat.le_refl _) hg5s)
                  have P6 := P5.kept hg6 (.inr n5)
                  have N6 : Hid (∀ x, Go.Proofs.Ytgbcjimfpoeicaa.blk AP = some x → BytesNot w6 g x) := Lib.hid (fun x hx => hbn6 x (N5.out x hx))
                  have HLEN : Hid ((R.drop K0).length = nA - K0 ∧ (L ++ R.take K0).length = L.length + K0 ∧ nA = R.length) := Lib.hid ⟨by rw [List.length_drop, ← HM.out.hnA], by rw [List.length_append, List.length_take, ← HM.out.hnA]; have := hKc.out; omega, HM.out.hnA⟩
                  have r6 := own6.bs
                  have hsz6 : g ≤ w6.heap.size := Nat.le_trans hg5s hg6.size
                  simp only
                  have hlen3 : Hid (p.length + L'.length = L.length + K0) := Lib.hid (by have h2 := congrArg List.length hLp; rw [HLEN.out.2.1, List.length_append] at h2; omega)
                  go_wp2_with (at_builtin; refine wpList_append_bs _ rfl (.tmp 111) (.tmp 112) 26 rfl g 5 i0 _ Try.underlying26 hi hz0 hz1 hz2 rfl AP cP piece nP rfl HM.out.hnP P6 _ A6 c6 p n6 rfl hn6.out r6 (by have := HM.out.hT; have := hlen3.out; have := hKc.out; have := HLEN.out; omega) hsz6 ?_; intro A7 c7 w7 own7 hg7 hbk7)
                  have hb7 : Below g w1 w7 := hb6.trans (P6.grown hg7 hsz6)
                  have S7 : StrAt w7 g left' L' false := by
                    cases hAP : Go.Proofs.Ytgbcjimfpoeicaa.blk AP with
                    | none => exact S6.apart (x := w6.heap.size) hg7 (.inl hAP) (bn_far S6 (Nat.le_refl _)) (by have := S6.lt; omega)
                    | some x => exact S6.apart (x := x) hg7 (.inr hAP) (N6.out x hAP) (fun e => n5 (by rw [hAP, e]))
                  have N7 : ∀ x, Go.Proofs.Ytgbcjimfpoeicaa.blk A7 = some x → BytesNot w7 g x := by
                    intro x hx
                    have hgg := S6.lt
                    rcases hbk7 with e | e
                    · rw [e] at hx
                      exact bn_grown hg7 hgg (fun e' => n5 e'.symm) (N6.out x hx)
                    · rw [e] at hx
                      injection hx with hx
                      subst hx
                      exact bn_grown hg7 hgg (fun e' => n5 e'.symm) (bn_far S6 (Nat.le_refl _))
                  have HN7 := Lib.hid N7
                  clear N7 own6 r6 hbn6 hg6 P5 P6 N6 hbk7 hg7 S6 hb6
                  go_wp2
                  go_roundw
                  case rel => exact ⟨j + 1, nd, left', nA - K0, nP + n6, (cA - K0), c7, piece ++ p, L', R.drop K0, AB, A7, rfl, rfl, rfl, by first | go_num | simp, hnd, by omega, by omega, Lib.hid ⟨by have := HLEN.out; omega, by rw [List.length_append, ← HM.out.hnP, ← hn6.out], bs_drop' HM.out.hR K0 (fun hp b' o' e => by rw [HAB.out, e, if_neg (by rw [List.length_drop, ← HM.out.hnA] at hp; have := Hov.out; omega)]; simp [Addr.add]), own7, S7, by rw [List.append_assoc, ← List.append_assoc p, ← hLp, List.append_assoc, List.take_append_drop]; exact HM.out.hF, .inr ⟨by rw [← Hn.out]; exact hnk, hlf, hl0⟩, HN7.out, by have := HLEN.out; have := HM.out.hM; have := hKc.out; have := hlen3.out; omega, by have := HLEN.out; have := HM.out.hT; have := hKc.out; have := hlen3.out; rw [List.length_append]; omega, hb7⟩⟩
                  case measure => have := Hjb.out; simp [intOf]; omega
          · skip
            by_cases hjt : j < m2
            · skip
              have hjcI : ¬ (j : Int) < (m1 : Int) := by omega
              have HK0 : Hid (1 ≤ 5 ∧ 5 ≤ 32) := Lib.hid (by omega)
              by_cases hov : nA < 5
              · skip
                obtain ⟨bT, oT, rfl, hltT, hcsT⟩ := hA2.2 (by rw [← H2.out]; omega)
                have qT0 := hcsT j (by rw [← H2.out]; exact hjt)
                obtain ⟨y, hy⟩ : ∃ y, y = takes[j]'(by rw [← H2.out]; exact hjt) := ⟨_, rfl⟩
                rw [← hy] at qT0
                obtain ⟨tt, htt, handt0⟩ := and_low y 15 (by omega)
                have handt : bits .and .i64 y 15 = (tt : Int) := handt0
                obtain ⟨T0, hT0⟩ : ∃ T0, T0 = 1 + tt := ⟨_, rfl⟩
                have et : IntKind.i64.wrap (1 + (tt : Int)) = (T0 : Int) := by rw [IntWalk.i64_in _ (by omega)]; omega
                have HT0 : Hid (1 ≤ T0 ∧ T0 ≤ 16) := Lib.hid (by omega)
                clear hy hcsT handt0 hT0 htt
                have hjtI : (j : Int) < (m2 : Int) := by omega
                have hovd : decide ((nA : Int) < (5 : Int)) = true := by simp; omega
                have hnAI : (nA : Int) ≤ (cA : Int) := by omega
                have hKc : Hid (nA ≤ nA) := Lib.hid (by omega)
                obtain ⟨AB, hAB⟩ : ∃ AB, AB = (if cA = nA then AA else AA.map (fun x => x.add nA)) := ⟨_, rfl⟩
                have HAB := Lib.hid hAB
                have hif := hAB.symm
                skip
                clear hAB
                have hbsR : Bs wr wr.heap.size AA R := (HM.out.hR.below HM.out.hB).more (Nat.le_of_lt HM.out.hS.lt)
                have hput := put_okX HM.out.hS AA (R.take nA) nA cA (Lib.hid (by rw [List.length_take, ← HM.out.hnA]; have := hKc.out; omega)) (bs_take' hbsR nA) (by have := HM.out.hT; have := HM.out.hnA; have := hKc.out; omega)
                clear hbsR hjc hjt
                go_wp2_with fail
                refine hput.mono ?_
                clear hput
                rintro e w5 ⟨rfl, S5, hg5, hbn5⟩
                have hb5 : Below g w1 w5 := HM.out.hB.trans (below_of hg5 (Nat.le_refl _) (Nat.le_trans hgl1 HM.out.hB.size))
                have n5 : Go.Proofs.Ytgbcjimfpoeicaa.blk AP ≠ some g := fun e => by obtain ⟨cs, hcs⟩ := HM.out.hS.blk; exact HM.out.hP.ne_blk' hcs stream_ne e.symm
                have P5 := HM.out.hP.kept hg5 (.inr n5)
                have N5 : Hid (∀ x, Go.Proofs.Ytgbcjimfpoeicaa.blk AP = some x → BytesNot w5 g x) := Lib.hid (fun x hx => hbn5 x (hPl.out x hx))
                have hstep := get_step (t := T0) (hall2 nd hnk) (show piece ++ ((L ++ R.take nA) ++ R.drop nA) = _ by rw [List.append_assoc, List.take_append_drop, HM.out.hF, flatR_drop rs nd (by rw [← Hn.out]; exact hnk)]) (HM.out.hp.imp id (fun h => h.2)) HT0.out.1
                skip
                have hget := get_anyX S5 T0 (by have := HT0.out; omega)
                have hw5 := hw1.trans (hb5.mono hgw)
                have qT := (hw5.cell (p := ⟨bT, oT + j, none⟩) hltT).trans qT0
                clear S5 hbn5 hg5 hov
                rcases hstep with ⟨hr, hRn⟩ | ⟨p, L', hr, hpp, hLp, hwh⟩ | ⟨p, left', L', hr, hpp, hLp, hlf, hl0⟩
                · rw [hr] at hget
                  have HR := Lib.hid hr
                  clear hr
                  have hget' := Lib.hid hget
                  clear hget
                  go_wp2_with fail
                  refine hget'.out.mono ?_
                  clear hget'
                  rintro e w6 ⟨⟨A6, n6, c6, rfl, hn6, own6, S6, hg6⟩, hbn6⟩
                  simp only at hn6 own6 S6
                  have hg5s : g ≤ w5.heap.size := Nat.le_trans hgl1 hb5.size
                  have hb6 : Below g w1 w6 := hb5.trans (below_of hg6 (Nat.le_refl _) hg5s)
                  have P6 := P5.kept hg6 (.inr n5)
                  have N6 : Hid (∀ x, Go.Proofs.Ytgbcjimfpoeicaa.blk AP = some x → BytesNot w6 g x) := Lib.hid (fun x hx => hbn6 x (N5.out x hx))
                  have HLEN : Hid ((R.drop nA).length = nA - nA ∧ (L ++ R.take nA).length = L.length + nA ∧ nA = R.length) := Lib.hid ⟨by rw [List.length_drop, ← HM.out.hnA], by rw [List.length_append, List.length_take, ← HM.out.hnA]; have := hKc.out; omega, HM.out.hnA⟩
                  clear own6 hbn6 hg6 P5
                  simp only
                  go_wp2
                  go_roundw
                  case rel => exact ⟨j + 1, nd, left, 0, nP, (cA - nA), cP, piece, L ++ R.take nA, R.drop nA, AB, AP, rfl, rfl, rfl, by first | go_num | simp, hnd, by omega, by omega, Lib.hid ⟨by have := HLEN.out; omega, HM.out.hnP, bs_drop' HM.out.hR nA (fun hp b' o' e => by rw [List.length_drop, ← HM.out.hnA] at hp; omega), P6, S6, by rw [List.append_assoc, List.take_append_drop]; exact HM.out.hF, HM.out.hp, N6.out, by have := HLEN.out; have := HM.out.hM; have hne : 0 < (R.drop nA).length := List.length_pos_iff.2 hRn; have := HK0.out; have := hKc.out; omega, by have := HLEN.out; have := HM.out.hT; have := hKc.out; omega, hb6⟩⟩
                  case measure => have := Hjb.out; simp [intOf]; omega
                · rw [hr] at hget
                  have HR := Lib.hid hr
                  clear hr
                  have hget' := Lib.hid hget
                  clear hget
                  go_wp2_with fail
                  refine hget'.out.mono ?_
                  clear hget'
                  rintro e w6 ⟨⟨A6, n6, c6, rfl, hn6, own6, S6, hg6⟩, hbn6⟩
                  simp only at hn6 own6 S6
                  have hg5s : g ≤ w5.heap.size := Nat.le_trans hgl1 hb5.size
                  have hb6 : Below g w1 w6 := hb5.trans (below_of hg6 (Nat.le_refl _) hg5s)
                  have P6 := P5.kept hg6 (.inr n5)
                  have N6 : Hid (∀ x, Go.Proofs.Ytgbcjimfpoeicaa.blk AP = some x → BytesNot w6 g x) := Lib.hid (fun x hx => hbn6 x (N5.out x hx))
                  have HLEN : Hid ((R.drop nA).length = nA - nA ∧ (L ++ R.take nA).length = L.length + nA ∧ nA = R.length) := Lib.hid ⟨by rw [List.length_drop, ← HM.out.hnA], by rw [List.length_append, List.length_take, ← HM.out.hnA]; have := hKc.out; omega, HM.out.hnA⟩
                  have r6 := own6.bs
                  have hsz6 : g ≤ w6.heap.size := Nat.le_trans hg5s hg6.size
                  simp only
                  have hlen3 : Hid (p.length + L'.length = L.length + nA) := Lib.hid (by have h2 := congrArg List.length hLp; rw [HLEN.out.2.1, List.length_append] at h2; omega)
                  go_wp2_with (at_builtin; refine wpList_append_bs _ rfl (.tmp 111) (.tmp 112) 26 rfl g 5 i0 _ Try.underlying26 hi hz0 hz1 hz2 rfl AP cP piece nP rfl HM.out.hnP P6 _ A6 c6 p n6 rfl hn6.out r6 (by have := HM.out.hT; have := hlen3.out; have := hKc.out; have := HLEN.out; omega) hsz6 ?_; intro A7 c7 w7 own7 hg7 hbk7)
                  have hb7 : Below g w1 w7 := hb6.trans (P6.grown hg7 hsz6)
                  have S7 : StrAt w7 g 0 L' false := by
                    cases hAP : Go.Proofs.Ytgbcjimfpoeicaa.blk AP with
                    | none => exact S6.apart (x := w6.heap.size) hg7 (.inl hAP) (bn_far S6 (Nat.le_refl _)) (by have := S6.lt; omega)
                    | some x => exact S6.apart (x := x) hg7 (.inr hAP) (N6.out x hAP) (fun e => n5 (by rw [hAP, e]))
                  have hw7 := hw1.trans (hb7.mono hgw)
                  obtain ⟨bL, oL, rfl, hltL, hcsL⟩ := hL (by rw [← Hn.out]; omega)
                  have hndr : nd < rs.length := by rw [← Hn.out]; exact hnk
                  obtain ⟨Ar, cr, qL0, hr0⟩ := hcsL nd hndr
                  have hrk : rs.getD nd [] = rs[nd] := by simp [List.getD, hndr]
                  have hr200 := hall2 nd hnk
                  obtain ⟨r, hr⟩ : ∃ r, r = rs[nd] := ⟨_, rfl⟩
                  rw [← hr] at qL0 hr0 hrk
                  rw [hrk] at hr200 hwh
                  obtain ⟨nr, hnr⟩ : ∃ nr, nr = r.length := ⟨_, rfl⟩
                  rw [← hnr] at qL0
                  have Hnr := Lib.hid hnr
                  have qL := (hw7.cell (p := ⟨bL, oL + nd, none⟩) hltL).trans qL0
                  have hwrt := write_ok Ar r nr cr w7 Hnr (by omega) ((hr0.below hw7).more hw7.size)
                  have eq1 : (UInt8.ofNat ((nr + 2) / 256) :: UInt8.ofNat ((nr + 2) % 256) :: r) = encR r := by rw [Hnr.out]; rfl
                  rw [eq1] at hwrt
                  have hwrt' := Lib.hid hwrt
                  have hFn : Hid (L' ++ R.drop nA = flatR (rs.drop (nd + 1))) := Lib.hid (by
                    have h1 : (piece ++ p) ++ (L' ++ R.drop nA) = encR r ++ flatR (rs.drop (nd + 1)) := by
                      rw [← hrk, ← flatR_drop rs nd hndr, ← HM.out.hF, List.append_assoc, ← List.append_assoc p, ← hLp, List.append_assoc, List.take_append_drop]
                    rw [hwh] at h1
                    exact List.append_cancel_left h1)
                  have hPn : Hid (nP + n6 = (encR r).length) := Lib.hid (by rw [← hwh, List.length_append, ← HM.out.hnP, ← hn6.out])
                  have e3 : Hid (nr + 2 = (encR r).length) := Lib.hid (by rw [encR_length, ← Hnr.out])
                  rw [hwh] at own7
                  have hix := fun u => idx_lists bL oL k c nd hnk u
                  have HPP := Lib.hid hpp
                  clear hwrt eq1 hwh hLp hpp hcsL hndr hrk hr200 hr hnr qL0 hr0 own6 r6 hbn6 hg6 P5 P6 N6 hbk7 hg7 S6 hb6
                  go_wp2_with fail
                  simp only [hix]
                  clear hix
                  go_wp2_with fail
                  refine hwrt'.out.mono ?_
                  clear hwrt'
                  rintro e w8 ⟨A8, c8, rfl, own8, hb8⟩
                  have S8 := S7.below hb8
                  have hg7s : g ≤ w7.heap.size := Nat.le_trans hgl1 hb7.size
                  have hb9 : Below g w1 w8 := hb7.trans (hb8.mono hg7s)
                  have cv7 := conv_n A7 (encR r) (nP + n6) c7 hPn w8 _ (own7.below hb8 (Nat.le_refl _)).bs
                  have cv8 := conv_n A8 (encR r) (nr + 2) c8 e3 w8 _ own8.bs
                  have en : IntKind.i64.wrap ((nd : Int) + 1) = ((nd + 1 : Nat) : Int) := by rw [IntWalk.i64_in _ (by have := hn12.out; omega)]; omega
                  clear own7 own8 S7 hb8 hb7 hw7 qL hltL
                  go_wp2
                  go_roundw
                  case rel => exact ⟨j + 1, nd + 1, 0, 0, 0, (cA - nA), 0, [], L', R.drop nA, AB, none, rfl, by first | go_num | simp, rfl, by first | go_num | simp, by omega, by omega, by omega, Lib.hid ⟨by have := HLEN.out; omega, rfl, bs_drop' HM.out.hR nA (fun hp b' o' e => by rw [List.length_drop, ← HM.out.hnA] at hp; omega), Own.nil, S8, by rw [List.nil_append]; exact hFn.out, .inl ⟨rfl, rfl⟩, by simp [Go.Proofs.Ytgbcjimfpoeicaa.blk], by have := HPP.out; have := HLEN.out; have := HM.out.hM; have := hKc.out; have := hlen3.out; omega, by have := HLEN.out; have := HM.out.hT; have := hKc.out; have := hlen3.out; simp only [List.length_nil]; omega, hb9⟩⟩
                  case measure => have := Hjb.out; simp [intOf]; omega
                · rw [hr] at hget
                  have HR := Lib.hid hr
                  clear hr
                  have hget' := Lib.hid hget
                  clear hget
                  go_wp2_with fail
                  refine hget'.out.mono ?_
                  clear hget'
                  rintro e w6 ⟨⟨A6, n6, c6, rfl, hn6, own6, S6, hg6⟩, hbn6⟩
                  simp only at hn6 own6 S6
                  have hg5s : g ≤ w5.heap.size := Nat.le_trans hgl1 hb5.size
                  have hb6 : Below g w1 w6 := hb5.trans (below_of hg6 (Nat.le_refl _) hg5s)
                  have P6 := P5.kept hg6 (.inr n5)
                  have N6 : Hid (∀ x, Go.Proofs.Ytgbcjimfpoeicaa.blk AP = some x → BytesNot w6 g x) := Lib.hid (fun x hx => hbn6 x (N5.out x hx))
                  have HLEN : Hid ((R.drop nA).length = nA - nA ∧ (L ++ R.take nA).length = L.length + nA ∧ nA = R.length) := Lib.hid ⟨by rw [List.length_drop, ← HM.out.hnA], by rw [List.length_append, List.length_take, ← HM.out.hnA]; have := hKc.out; omega, HM.out.hnA⟩
                  have r6 := own6.bs
                  have hsz6 : g ≤ w6.heap.size := Nat.le_trans hg5s hg6.size
                  simp only
                  have hlen3 : Hid (p.length + L'.length = L.length + nA) := Lib.hid (by have h2 := congrArg List.length hLp; rw [HLEN.out.2.1, List.length_append] at h2; omega)
                  go_wp2_with (at_builtin; refine wpList_append_bs _ rfl (.tmp 111) (.tmp 112) 26 rfl g 5 i0 _ Try.underlying26 hi hz0 hz1 hz2 rfl AP cP piece nP rfl HM.out.hnP P6 _ A6 c6 p n6 rfl hn6.out r6 (by have := HM.out.hT; have := hlen3.out; have := hKc.out; have := HLEN.out; omega) hsz6 ?_; intro A7 c7 w7 own7 hg7 hbk7)
                  have hb7 : Below g w1 w7 := hb6.trans (P6.grown hg7 hsz6)
                  have S7 : StrAt w7 g left' L' false := by
                    cases hAP : Go.Proofs.Ytgbcjimfpoeicaa.blk AP with
                    | none => exact S6.apart (x := w6.heap.size) hg7 (.inl hAP) (bn_far S6 (Nat.le_refl _)) (by have := S6.lt; omega)
                    | some x => exact S6.apart (x := x) hg7 (.inr hAP) (N6.out x hAP) (fun e => n5 (by rw [hAP, e]))
                  have N7 : ∀ x, Go.Proofs.Ytgbcjimfpoeicaa.blk A7 = some x → BytesNot w7 g x := by
                    intro x hx
                    have hgg := S6.lt
                    rcases hbk7 with e | e
                    · rw [e] at hx
                      exact bn_grown hg7 hgg (fun e' => n5 e'.symm) (N6.out x hx)
                    · rw [e] at hx
                      injection hx with hx
                      subst hx
                      exact bn_grown hg7 hgg (fun e' => n5 e'.symm) (bn_far S6 (Nat.le_refl _))
                  have HN7 := Lib.hid N7
                  clear N7 own6 r6 hbn6 hg6 P5 P6 N6 hbk7 hg7 S6 hb6
                  go_wp2
                  go_roundw
                  case rel => exact ⟨j + 1, nd, left', 0, nP + n6, (cA - nA), c7, piece ++ p, L', R.drop nA, AB, A7, rfl, rfl, rfl, by first | go_num | simp, hnd, by omega, by omega, Lib.hid ⟨by have := HLEN.out; omega, by rw [List.length_append, ← HM.out.hnP, ← hn6.out], bs_drop' HM.out.hR nA (fun hp b' o' e => by rw [List.length_drop, ← HM.out.hnA] at hp; omega), own7, S7, by rw [List.append_assoc, ← List.append_assoc p, ← hLp, List.append_assoc, List.take_append_drop]; exact HM.out.hF, .inr ⟨by rw [← Hn.out]; exact hnk, hlf, hl0⟩, HN7.out, by have := HLEN.out; have := HM.out.hM; have := hKc.out; have := hlen3.out; omega, by have := HLEN.out; have := HM.out.hT; have := hKc.out; have := hlen3.out; rw [List.length_append]; omega, hb7⟩⟩
                  case measure => have := Hjb.out; simp [intOf]; omega
              · skip
                obtain ⟨bT, oT, rfl, hltT, hcsT⟩ := hA2.2 (by rw [← H2.out]; omega)
                have qT0 := hcsT j (by rw [← H2.out]; exact hjt)
                obtain ⟨y, hy⟩ : ∃ y, y = takes[j]'(by rw [← H2.out]; exact hjt) := ⟨_, rfl⟩
                rw [← hy] at qT0
                obtain ⟨tt, htt, handt0⟩ := and_low y 15 (by omega)
                have handt : bits .and .i64 y 15 = (tt : Int) := handt0
                obtain ⟨T0, hT0⟩ : ∃ T0, T0 = 1 + tt := ⟨_, rfl⟩
                have et : IntKind.i64.wrap (1 + (tt : Int)) = (T0 : Int) := by rw [IntWalk.i64_in _ (by omega)]; omega
                have HT0 : Hid (1 ≤ T0 ∧ T0 ≤ 16) := Lib.hid (by omega)
                clear hy hcsT handt0 hT0 htt
                have hjtI : (j : Int) < (m2 : Int) := by omega
                have hovd : decide ((nA : Int) < (5 : Int)) = false := by simp; omega
                have hcI : (5 : Int) ≤ (cA : Int) := by omega
                have hcN : 5 ≤ cA := by omega
                have hnI : (5 : Int) ≤ (nA : Int) := by omega
                have hnN : 5 ≤ nA := by omega
                have hnAI : (nA : Int) ≤ (cA : Int) := by omega
                have hKc : Hid (5 ≤ nA) := Lib.hid (by omega)
                have Hov : Hid (¬ nA < 5) := Lib.hid (by omega)
                obtain ⟨AB, hAB⟩ : ∃ AB, AB = (if cA = 5 then AA else AA.map (fun x => x.add 5)) := ⟨_, rfl⟩
                have HAB := Lib.hid hAB
                have hif := hAB.symm
                have hif2 : (if cA = 5 then AA else Option.map (fun x => { block := x.block, off := x.off + 5 }) AA) = AB := by rw [hAB]; first | rfl | simp [Addr.add]
                clear hAB
                have hbsR : Bs wr wr.heap.size AA R := (HM.out.hR.below HM.out.hB).more (Nat.le_of_lt HM.out.hS.lt)
                have hput := put_okX HM.out.hS AA (R.take 5) 5 cA (Lib.hid (by rw [List.length_take, ← HM.out.hnA]; have := hKc.out; omega)) (bs_take' hbsR 5) (by have := HM.out.hT; have := HM.out.hnA; have := hKc.out; omega)
                clear hbsR hjc hjt
                go_wp2_with fail
                refine hput.mono ?_
                clear hput
                rintro e w5 ⟨rfl, S5, hg5, hbn5⟩
                have hb5 : Below g w1 w5 := HM.out.hB.trans (below_of hg5 (Nat.le_refl _) (Nat.le_trans hgl1 HM.out.hB.size))
                have n5 : Go.Proofs.Ytgbcjimfpoeicaa.blk AP ≠ some g := fun e => by obtain ⟨cs, hcs⟩ := HM.out.hS.blk; exact HM.out.hP.ne_blk' hcs stream_ne e.symm
                have P5 := HM.out.hP.kept hg5 (.inr n5)
                have N5 : Hid (∀ x, Go.Proofs.Ytgbcjimfpoeicaa.blk AP = some x → BytesNot w5 g x) := Lib.hid (fun x hx => hbn5 x (hPl.out x hx))
                have hstep := get_step (t := T0) (hall2 nd hnk) (show piece ++ ((L ++ R.take 5) ++ R.drop 5) = _ by rw [List.append_assoc, List.take_append_drop, HM.out.hF, flatR_drop rs nd (by rw [← Hn.out]; exact hnk)]) (HM.out.hp.imp id (fun h => h.2)) HT0.out.1
                skip
                have hget := get_anyX S5 T0 (by have := HT0.out; omega)
                have hw5 := hw1.trans (hb5.mono hgw)
                have qT := (hw5.cell (p := ⟨bT, oT + j, none⟩) hltT).trans qT0
                clear S5 hbn5 hg5 hov
                rcases hstep with ⟨hr, hRn⟩ | ⟨p, L', hr, hpp, hLp, hwh⟩ | ⟨p, left', L', hr, hpp, hLp, hlf, hl0⟩
                · rw [hr] at hget
                  have HR := Lib.hid hr
                  clear hr
                  have hget' := Lib.hid hget
                  clear hget
                  go_wp2_with fail
                  refine hget'.out.mono ?_
                  clear hget'
                  rintro e w6 ⟨⟨A6, n6, c6, rfl, hn6, own6, S6, hg6⟩, hbn6⟩
                  simp only at hn6 own6 S6
                  have hg5s : g ≤ w5.heap.size := Nat.le_trans hgl1 hb5.size
                  have hb6 : Below g w1 w6 := hb5.trans (below_of hg6 (Nat.le_refl _) hg5s)
                  have P6 := P5.kept hg6 (.inr n5)
                  have N6 : Hid (∀ x, Go.Proofs.Ytgbcjimfpoeicaa.blk AP = some x → BytesNot w6 g x) := Lib.hid (fun x hx => hbn6 x (N5.out x hx))
                  have HLEN : Hid ((R.drop 5).length = nA - 5 ∧ (L ++ R.take 5).length = L.length + 5 ∧ nA = R.length) := Lib.hid ⟨by rw [List.length_drop, ← HM.out.hnA], by rw [List.length_append, List.length_take, ← HM.out.hnA]; have := hKc.out; omega, HM.out.hnA⟩
                  clear own6 hbn6 hg6 P5
                  simp only
                  go_wp2
                  go_roundw
                  case rel => exact ⟨j + 1, nd, left, nA - 5, nP, (cA - 5), cP, piece, L ++ R.take 5, R.drop 5, AB, AP, rfl, rfl, rfl, by first | go_num | simp, hnd, by omega, by omega, Lib.hid ⟨by have := HLEN.out; omega, HM.out.hnP, bs_drop' HM.out.hR 5 (fun hp b' o' e => by rw [HAB.out, e, if_neg (by rw [List.length_drop, ← HM.out.hnA] at hp; have := Hov.out; omega)]; simp [Addr.add]), P6, S6, by rw [List.append_assoc, List.take_append_drop]; exact HM.out.hF, HM.out.hp, N6.out, by have := HLEN.out; have := HM.out.hM; have hne : 0 < (R.drop 5).length := List.length_pos_iff.2 hRn; have := HK0.out; have := hKc.out; omega, by have := HLEN.out; have := HM.out.hT; have := hKc.out; omega, hb6⟩⟩
                  case measure => have := Hjb.out; simp [intOf]; omega
                · rw [hr] at hget
                  have HR := Lib.hid hr
                  clear hr
                  have hget' := Lib.hid hget
                  clear hget
                  go_wp2_with fail
                  refine hget'.out.mono ?_
                  clear hget'
                  rintro e w6 ⟨⟨A6, n6, c6, rfl, hn6, own6, S6, hg6⟩, hbn6⟩
                  simp only at hn6 own6 S6
                  have hg5s : g ≤ w5.heap.size := Nat.le_trans hgl1 hb5.size
                  have hb6 : Below g w1 w6 := hb5.trans (below_of hg6 (Nat.le_refl _) hg5s)
                  have P6 := P5.kept hg6 (.inr n5)
                  have N6 : Hid (∀ x, Go.Proofs.Ytgbcjimfpoeicaa.blk AP = some x → BytesNot w6 g x) := Lib.hid (fun x hx => hbn6 x (N5.out x hx))
                  have HLEN : Hid ((R.drop 5).length = nA - 5 ∧ (L ++ R.take 5).length = L.length + 5 ∧ nA = R.length) := Lib.hid ⟨by rw [List.length_drop, ← HM.out.hnA], by rw [List.length_append, List.length_take, ← HM.out.hnA]; have := hKc.out; omega, HM.out.hnA⟩
                  have r6 := own6.bs
                  have hsz6 : g ≤ w6.heap.size := Nat.le_trans hg5s hg6.size
                  simp only
                  have hlen3 : Hid (p.length + L'.length = L.length + 5) := Lib.hid (by have h2 := congrArg List.length hLp; rw [HLEN.out.2.1, List.length_append] at h2; omega)
                  go_wp2_with (at_builtin; refine wpList_append_bs _ rfl (.tmp 111) (.tmp 112) 26 rfl g 5 i0 _ Try.underlying26 hi hz0 hz1 hz2 rfl AP cP piece nP rfl HM.out.hnP P6 _ A6 c6 p n6 rfl hn6.out r6 (by have := HM.out.hT; have := hlen3.out; have := hKc.out; have := HLEN.out; omega) hsz6 ?_; intro A7 c7 w7 own7 hg7 hbk7)
                  have hb7 : Below g w1 w7 := hb6.trans (P6.grown hg7 hsz6)
                  have S7 : StrAt w7 g 0 L' false := by
                    cases hAP : Go.Proofs.Ytgbcjimfpoeicaa.blk AP with
                    | none => exact S6.apart (x := w6.heap.size) hg7 (.inl hAP) (bn_far S6 (Nat.le_refl _)) (by have := S6.lt; omega)
                    | some x => exact S6.apart (x := x) hg7 (.inr hAP) (N6.out x hAP) (fun e => n5 (by rw [hAP, e]))
                  have hw7 := hw1.trans (hb7.mono hgw)
                  obtain ⟨bL, oL, rfl, hltL, hcsL⟩ := hL (by rw [← Hn.out]; omega)
                  have hndr : nd < rs.length := by rw [← Hn.out]; exact hnk
                  obtain ⟨Ar, cr, qL0, hr0⟩ := hcsL nd hndr
                  have hrk : rs.getD nd [] = rs[nd] := by simp [List.getD, hndr]
                  have hr200 := hall2 nd hnk
                  obtain ⟨r, hr⟩ : ∃ r, r = rs[nd] := ⟨_, rfl⟩
                  rw [← hr] at qL0 hr0 hrk
                  rw [hrk] at hr200 hwh
                  obtain ⟨nr, hnr⟩ : ∃ nr, nr = r.length := ⟨_, rfl⟩
                  rw [← hnr] at qL0
                  have Hnr := Lib.hid hnr
                  have qL := (hw7.cell (p := ⟨bL, oL + nd, none⟩) hltL).trans qL0
                  have hwrt := write_ok Ar r nr cr w7 Hnr (by omega) ((hr0.below hw7).more hw7.size)
                  have eq1 : (UInt8.ofNat ((nr + 2) / 256) :: UInt8.ofNat ((nr + 2) % 256) :: r) = encR r := by rw [Hnr.out]; rfl
                  rw [eq1] at hwrt
                  have hwrt' := Lib.hid hwrt
                  have hFn : Hid (L' ++ R.drop 5 = flatR (rs.drop (nd + 1))) := Lib.hid (by
                    have h1 : (piece ++ p) ++ (L' ++ R.drop 5) = encR r ++ flatR (rs.drop (nd + 1)) := by
                      rw [← hrk, ← flatR_drop rs nd hndr, ← HM.out.hF, List.append_assoc, ← List.append_assoc p, ← hLp, List.append_assoc, List.take_append_drop]
                    rw [hwh] at h1
                    exact List.append_cancel_left h1)
                  have hPn : Hid (nP + n6 = (encR r).length) := Lib.hid (by rw [← hwh, List.length_append, ← HM.out.hnP, ← hn6.out])
                  have e3 : Hid (nr + 2 = (encR r).length) := Lib.hid (by rw [encR_length, ← Hnr.out])
                  rw [hwh] at own7
                  have hix := fun u => idx_lists bL oL k c nd hnk u
                  have HPP := Lib.hid hpp
                  clear hwrt eq1 hwh hLp hpp hcsL hndr hrk hr200 hr hnr qL0 hr0 own6 r6 hbn6 hg6 P5 P6 N6 hbk7 hg7 S6 hb6
                  go_wp2_with fail
                  simp only [hix]
                  clear hix
                  go_wp2_with fail
                  refine hwrt'.out.mono ?_
                  clear hwrt'
                  rintro e w8 ⟨A8, c8, rfl, own8, hb8⟩
                  have S8 := S7.below hb8
                  have hg7s : g ≤ w7.heap.size := Nat.le_trans hgl1 hb7.size
                  have hb9 : Below g w1 w8 := hb7.trans (hb8.mono hg7s)
                  have cv7 := conv_n A7 (encR r) (nP + n6) c7 hPn w8 _ (own7.below hb8 (Nat.le_refl _)).bs
                  have cv8 := conv_n A8 (encR r) (nr + 2) c8 e3 w8 _ own8.bs
                  have en : IntKind.i64.wrap ((nd : Int) + 1) = ((nd + 1 : Nat) : Int) := by rw [IntWalk.i64_in _ (by have := hn12.out; omega)]; omega
                  clear own7 own8 S7 hb8 hb7 hw7 qL hltL
                  go_wp2
                  go_roundw
                  case rel => exact ⟨j + 1, nd + 1, 0, nA - 5, 0, (cA - 5), 0, [], L', R.drop 5, AB, none, rfl, by first | go_num | simp, rfl, by first | go_num | simp, by omega, by omega, by omega, Lib.hid ⟨by have := HLEN.out; omega, rfl, bs_drop' HM.out.hR 5 (fun hp b' o' e => by rw [HAB.out, e, if_neg (by rw [List.length_drop, ← HM.out.hnA] at hp; have := Hov.out; omega)]; simp [Addr.add]), Own.nil, S8, by rw [List.nil_append]; exact hFn.out, .inl ⟨rfl, rfl⟩, by simp [Go.Proofs.Ytgbcjimfpoeicaa.blk], by have := HPP.out; have := HLEN.out; have := HM.out.hM; have := hKc.out; have := hlen3.out; omega, by have := HLEN.out; have := HM.out.hT; have := hKc.out; have := hlen3.out; simp only [List.length_nil]; omega, hb9⟩⟩
                  case measure => have := Hjb.out; simp [intOf]; omega
                · rw [hr] at hget
                  have HR := Lib.hid hr
                  clear hr
                  have hget' := Lib.hid hget
                  clear hget
                  go_wp2_with fail
                  refine hget'.out.mono ?_
                  clear hget'
                  rintro e w6 ⟨⟨A6, n6, c6, rfl, hn6, own6, S6, hg6⟩, hbn6⟩
                  simp only at hn6 own6 S6
                  have hg5s : g ≤ w5.heap.size := Nat.le_trans hgl1 hb5.size
                  have hb6 : Below g w1 w6 := hb5.trans (below_of hg6 (Nat.le_refl _) hg5s)
                  have P6 := P5.kept hg6 (.inr n5)
                  have N6 : Hid (∀ x, Go.Proofs.Ytgbcjimfpoeicaa.blk AP = some x → BytesNot w6 g x) := Lib.hid (fun x hx => hbn6 x (N5.out x hx))
                  have HLEN : Hid ((R.drop 5).length = nA - 5 ∧ (L ++ R.take 5).length = L.length + 5 ∧ nA = R.length) := Lib.hid ⟨by rw [List.length_drop, ← HM.out.hnA], by rw [List.length_append, List.length_take, ← HM.out.hnA]; have := hKc.out; omega, HM.out.hnA⟩
                  have r6 := own6.bs
                  have hsz6 : g ≤ w6.heap.size := Nat.le_trans hg5s hg6.size
                  simp only
                  have hlen3 : Hid (p.length + L'.length = L.length + 5) := Lib.hid (by have h2 := congrArg List.length hLp; rw [HLEN.out.2.1, List.length_append] at h2; omega)
                  go_wp2_with (at_builtin; refine wpList_append_bs _ rfl (.tmp 111) (.tmp 112) 26 rfl g 5 i0 _ Try.underlying26 hi hz0 hz1 hz2 rfl AP cP piece nP rfl HM.out.hnP P6 _ A6 c6 p n6 rfl hn6.out r6 (by have := HM.out.hT; have := hlen3.out; have := hKc.out; have := HLEN.out; omega) hsz6 ?_; intro A7 c7 w7 own7 hg7 hbk7)
                  have hb7 : Below g w1 w7 := hb6.trans (P6.grown hg7 hsz6)
                  have S7 : StrAt w7 g left' L' false := by
                    cases hAP : Go.Proofs.Ytgbcjimfpoeicaa.blk AP with
                    | none => exact S6.apart (x := w6.heap.size) hg7 (.inl hAP) (bn_far S6 (Nat.le_refl _)) (by have := S6.lt; omega)
                    | some x => exact S6.apart (x := x) hg7 (.inr hAP) (N6.out x hAP) (fun e => n5 (by rw [hAP, e]))
                  have N7 : ∀ x, Go.Proofs.Ytgbcjimfpoeicaa.blk A7 = some x → BytesNot w7 g x := by
                    intro x hx
                    have hgg := S6.lt
                    rcases hbk7 with e | e
                    · rw [e] at hx
                      exact bn_grown hg7 hgg (fun e' => n5 e'.symm) (N6.out x hx)
                    · rw [e] at hx
                      injection hx with hx
                      subst hx
                      exact bn_grown hg7 hgg (fun e' => n5 e'.symm) (bn_far S6 (Nat.le_refl _))
                  have HN7 := Lib.hid N7
                  clear N7 own6 r6 hbn6 hg6 P5 P6 N6 hbk7 hg7 S6 hb6
                  go_wp2
                  go_roundw
                  case rel => exact ⟨j + 1, nd, left', nA - 5, nP + n6, (cA - 5), c7, piece ++ p, L', R.drop 5, AB, A7, rfl, rfl, rfl, by first | go_num | simp, hnd, by omega, by omega, Lib.hid ⟨by have := HLEN.out; omega, by rw [List.length_append, ← HM.out.hnP, ← hn6.out], bs_drop' HM.out.hR 5 (fun hp b' o' e => by rw [HAB.out, e, if_neg (by rw [List.length_drop, ← HM.out.hnA] at hp; have := Hov.out; omega)]; simp [Addr.add]), own7, S7, by rw [List.append_assoc, ← List.append_assoc p, ← hLp, List.append_assoc, List.take_append_drop]; exact HM.out.hF, .inr ⟨by rw [← Hn.out]; exact hnk, hlf, hl0⟩, HN7.out, by have := HLEN.out; have := HM.out.hM; have := hKc.out; have := hlen3.out; omega, by have := HLEN.out; have := HM.out.hT; have := hKc.out; have := hlen3.out; rw [List.length_append]; omega, hb7⟩⟩
                  case measure => have := Hjb.out; simp [intOf]; omega
            · skip
              have hjcI : ¬ (j : Int) < (m1 : Int) := by omega
              have HK0 : Hid (1 ≤ 5 ∧ 5 ≤ 32) := Lib.hid (by omega)
              by_cases hov : nA < 5
              · skip
                have hjtI : ¬ (j : Int) < (m2 : Int) := by omega
                have HT0 : Hid (1 ≤ 7 ∧ 7 ≤ 16) := Lib.hid (by omega)
                have hovd : decide ((nA : Int) < (5 : Int)) = true := by simp; omega
                have hnAI : (nA : Int) ≤ (cA : Int) := by omega
                have hKc : Hid (nA ≤ nA) := Lib.hid (by omega)
                have ej : IntKind.i64.wrap ((j : Int) + 1) = (j : Int) + 1 := IntWalk.i64_in _ (by have := Hjb.out; omega)
                obtain ⟨AB, hAB⟩ : ∃ AB, AB = (if cA = nA then AA else AA.map (fun x => x.add nA)) := ⟨_, rfl⟩
                have HAB := Lib.hid hAB
                have hif := hAB.symm
                skip
                clear hAB
                have hbsR : Bs wr wr.heap.size AA R := (HM.out.hR.below HM.out.hB).more (Nat.le_of_lt HM.out.hS.lt)
                have hput := put_okX HM.out.hS AA (R.take nA) nA cA (Lib.hid (by rw [List.length_take, ← HM.out.hnA]; have := hKc.out; omega)) (bs_take' hbsR nA) (by have := HM.out.hT; have := HM.out.hnA; have := hKc.out; omega)
                clear hbsR hjc hjt
                go_wp2_with fail
                refine hput.mono ?_
                clear hput
                rintro e w5 ⟨rfl, S5, hg5, hbn5⟩
                have hb5 : Below g w1 w5 := HM.out.hB.trans (below_of hg5 (Nat.le_refl _) (Nat.le_trans hgl1 HM.out.hB.size))
                have n5 : Go.Proofs.Ytgbcjimfpoeicaa.blk AP ≠ some g := fun e => by obtain ⟨cs, hcs⟩ := HM.out.hS.blk; exact HM.out.hP.ne_blk' hcs stream_ne e.symm
                have P5 := HM.out.hP.kept hg5 (.inr n5)
                have N5 : Hid (∀ x, Go.Proofs.Ytgbcjimfpoeicaa.blk AP = some x → BytesNot w5 g x) := Lib.hid (fun x hx => hbn5 x (hPl.out x hx))
                have hstep := get_step (t := 7) (hall2 nd hnk) (show piece ++ ((L ++ R.take nA) ++ R.drop nA) = _ by rw [List.append_assoc, List.take_append_drop, HM.out.hF, flatR_drop rs nd (by rw [← Hn.out]; exact hnk)]) (HM.out.hp.imp id (fun h => h.2)) HT0.out.1
                change StepO (rs.getD nd []) piece (L ++ R.take nA) (R.drop nA) left (getM left (L ++ R.take nA) false 7) at hstep
                have hget := get_anyX S5 7 (by have := HT0.out; omega)
                have hw5 := hw1.trans (hb5.mono hgw)
                skip
                clear S5 hbn5 hg5 hov
                rcases hstep with ⟨hr, hRn⟩ | ⟨p, L', hr, hpp, hLp, hwh⟩ | ⟨p, left', L', hr, hpp, hLp, hlf, hl0⟩
                · rw [hr] at hget
                  have HR := Lib.hid hr
                  clear hr
                  have hget' := Lib.hid hget
                  clear hget
                  go_wp2_with fail
                  refine hget'.out.mono ?_
                  clear hget'
                  rintro e w6 ⟨⟨A6, n6, c6, rfl, hn6, own6, S6, hg6⟩, hbn6⟩
                  simp only at hn6 own6 S6
                  have hg5s : g ≤ w5.heap.size := Nat.le_trans hgl1 hb5.size
                  have hb6 : Below g w1 w6 := hb5.trans (below_of hg6 (Nat.le_refl _) hg5s)
                  have P6 := P5.kept hg6 (.inr n5)
                  have N6 : Hid (∀ x, Go.Proofs.Ytgbcjimfpoeicaa.blk AP = some x → BytesNot w6 g x) := Lib.hid (fun x hx => hbn6 x (N5.out x hx))
                  have HLEN : Hid ((R.drop nA).length = nA - nA ∧ (L ++ R.take nA).length = L.length + nA ∧ nA = R.length) := Lib.hid ⟨by rw [List.length_drop, ← HM.out.hnA], by rw [List.length_append, List.length_take, ← HM.out.hnA]; have := hKc.out; omega, HM.out.hnA⟩
                  clear own6 hbn6 hg6 P5
                  simp only
                  go_wp2
                  go_roundw
                  case rel => exact ⟨j + 1, nd, left, 0, nP, (cA - nA), cP, piece, L ++ R.take nA, R.drop nA, AB, AP, rfl, rfl, rfl, by first | go_num | simp, hnd, by omega, by omega, Lib.hid ⟨by have := HLEN.out; omega, HM.out.hnP, bs_drop' HM.out.hR nA (fun hp b' o' e => by rw [List.length_drop, ← HM.out.hnA] at hp; omega), P6, S6, by rw [List.append_assoc, List.take_append_drop]; exact HM.out.hF, HM.out.hp, N6.out, by have := HLEN.out; have := HM.out.hM; have hne : 0 < (R.drop nA).length := List.length_pos_iff.2 hRn; have := HK0.out; have := hKc.out; omega, by have := HLEN.out; have := HM.out.hT; have := hKc.out; omega, hb6⟩⟩
                  case measure => have := Hjb.out; simp [intOf]; omega
                · rw [hr] at hget
                  have HR := Lib.hid hr
                  clear hr
                  have hget' := Lib.hid hget
                  clear hget
                  go_wp2_with fail
                  refine hget'.out.mono ?_
                  clear hget'
                  rintro e w6 ⟨⟨A6, n6, c6, rfl, hn6, own6, S6, hg6⟩, hbn6⟩
                  simp only at hn6 own6 S6
                  have hg5s : g ≤ w5.heap.size := Nat.le_trans hgl1 hb5.size
                  have hb6 : Below g w1 w6 := hb5.trans (below_of hg6 (Nat.le_refl _) hg5s)
                  have P6 := P5.kept hg6 (.inr n5)
                  have N6 : Hid (∀ x, Go.Proofs.Ytgbcjimfpoeicaa.blk AP = some x → BytesNot w6 g x) := Lib.hid (fun x hx => hbn6 x (N5.out x hx))
                  have HLEN : Hid ((R.drop nA).length = nA - nA ∧ (L ++ R.take nA).length = L.length + nA ∧ nA = R.length) := Lib.hid ⟨by rw [List.length_drop, ← HM.out.hnA], by rw [List.length_append, List.length_take, ← HM.out.hnA]; have := hKc.out; omega, HM.out.hnA⟩
                  have r6 := own6.bs
                  have hsz6 : g ≤ w6.heap.size := Nat.le_trans hg5s hg6.size
                  simp only
                  have hlen3 : Hid (p.length + L'.length = L.length + nA) := Lib.hid (by have h2 := congrArg List.length hLp; rw [HLEN.out.2.1, List.length_append] at h2; omega)
                  go_wp2_with (at_builtin; refine wpList_append_bs _ rfl (.tmp 111) (.tmp 112) 26 rfl g 5 i0 _ Try.underlying26 hi hz0 hz1 hz2 rfl AP cP piece nP rfl HM.out.hnP P6 _ A6 c6 p n6 rfl hn6.out r6 (by have := HM.out.hT; have := hlen3.out; have := hKc.out; have := HLEN.out; omega) hsz6 ?_; intro A7 c7 w7 own7 hg7 hbk7)
                  have hb7 : Below g w1 w7 := hb6.trans (P6.grown hg7 hsz6)
                  have S7 : StrAt w7 g 0 L' false := by
                    cases hAP : Go.Proofs.Ytgbcjimfpoeicaa.blk AP with
                    | none => exact S6.apart (x := w6.heap.size) hg7 (.inl hAP) (bn_far S6 (Nat.le_refl _)) (by have := S6.lt; omega)
                    | some x => exact S6.apart (x := x) hg7 (.inr hAP) (N6.out x hAP) (fun e => n5 (by rw [hAP, e]))
                  have hw7 := hw1.trans (hb7.mono hgw)
                  obtain ⟨bL, oL, rfl, hltL, hcsL⟩ := hL (by rw [← Hn.out]; omega)
                  have hndr : nd < rs.length := by rw [← Hn.out]; exact hnk
                  obtain ⟨Ar, cr, qL0, hr0⟩ := hcsL nd hndr
                  have hrk : rs.getD nd [] = rs[nd] := by simp [List.getD, hndr]
                  have hr200 := hall2 nd hnk
                  obtain ⟨r, hr⟩ : ∃ r, r = rs[nd] := ⟨_, rfl⟩
                  rw [← hr] at qL0 hr0 hrk
                  rw [hrk] at hr200 hwh
                  obtain ⟨nr, hnr⟩ : ∃ nr, nr = r.length := ⟨_, rfl⟩
                  rw [← hnr] at qL0
                  have Hnr := Lib.hid hnr
                  have qL := (hw7.cell (p := ⟨bL, oL + nd, none⟩) hltL).trans qL0
                  have hwrt := write_ok Ar r nr cr w7 Hnr (by omega) ((hr0.below hw7).more hw7.size)
                  have eq1 : (UInt8.ofNat ((nr + 2) / 256) :: UInt8.ofNat ((nr + 2) % 256) :: r) = encR r := by rw [Hnr.out]; rfl
                  rw [eq1] at hwrt
                  have hwrt' := Lib.hid hwrt
                  have hFn : Hid (L' ++ R.drop nA = flatR (rs.drop (nd + 1))) := Lib.hid (by
                    have h1 : (piece ++ p) ++ (L' ++ R.drop nA) = encR r ++ flatR (rs.drop (nd + 1)) := by
                      rw [← hrk, ← flatR_drop rs nd hndr, ← HM.out.hF, List.append_assoc, ← List.append_assoc p, ← hLp, List.append_assoc, List.take_append_drop]
                    rw [hwh] at h1
                    exact List.append_cancel_left h1)
                  have hPn : Hid (nP + n6 = (encR r).length) := Lib.hid (by rw [← hwh, List.length_append, ← HM.out.hnP, ← hn6.out])
                  have e3 : Hid (nr + 2 = (encR r).length) := Lib.hid (by rw [encR_length, ← Hnr.out])
                  rw [hwh] at own7
                  have hix := fun u => idx_lists bL oL k c nd hnk u
                  have HPP := Lib.hid hpp
                  clear hwrt eq1 hwh hLp hpp hcsL hndr hrk hr200 hr hnr qL0 hr0 own6 r6 hbn6 hg6 P5 P6 N6 hbk7 hg7 S6 hb6
                  go_wp2_with fail
                  simp only [hix]
                  clear hix
                  go_wp2_with fail
                  refine hwrt'.out.mono ?_
                  clear hwrt'
                  rintro e w8 ⟨A8, c8, rfl, own8, hb8⟩
                  have S8 := S7.below hb8
                  have hg7s : g ≤ w7.heap.size := Nat.le_trans hgl1 hb7.size
                  have hb9 : Below g w1 w8 := hb7.trans (hb8.mono hg7s)
                  have cv7 := conv_n A7 (encR r) (nP + n6) c7 hPn w8 _ (own7.below hb8 (Nat.le_refl _)).bs
                  have cv8 := conv_n A8 (encR r) (nr + 2) c8 e3 w8 _ own8.bs
                  have en : IntKind.i64.wrap ((nd : Int) + 1) = ((nd + 1 : Nat) : Int) := by rw [IntWalk.i64_in _ (by have := hn12.out; omega)]; omega
                  clear own7 own8 S7 hb8 hb7 hw7 qL hltL
                  go_wp2
                  go_roundw
                  case rel => exact ⟨j + 1, nd + 1, 0, 0, 0, (cA - nA), 0, [], L', R.drop nA, AB, none, rfl, by first | go_num | simp, rfl, by first | go_num | simp, by omega, by omega, by omega, Lib.hid ⟨by have := HLEN.out; omega, rfl, bs_drop' HM.out.hR nA (fun hp b' o' e => by rw [List.length_drop, ← HM.out.hnA] at hp; omega), Own.nil, S8, by rw [List.nil_append]; exact hFn.out, .inl ⟨rfl, rfl⟩, by simp [Go.Proofs.Ytgbcjimfpoeicaa.blk], by have := HPP.out; have := HLEN.out; have := HM.out.hM; have := hKc.out; have := hlen3.out; omega, by have := HLEN.out; have := HM.out.hT; have := hKc.out; have := hlen3.out; simp only [List.length_nil]; omega, hb9⟩⟩
                  case measure => have := Hjb.out; simp [intOf]; omega
                · rw [hr] at hget
                  have HR := Lib.hid hr
                  clear hr
                  have hget' := Lib.hid hget
                  clear hget
                  go_wp2_with fail
                  refine hget'.out.mono ?_
                  clear hget'
                  rintro e w6 ⟨⟨A6, n6, c6, rfl, hn6, own6, S6, hg6⟩, hbn6⟩
                  simp only at hn6 own6 S6
                  have hg5s : g ≤ w5.heap.size := Nat.le_trans hgl1 hb5.size
                  have hb6 : Below g w1 w6 := hb5.trans (below_of hg6 (Nat.le_refl _) hg5s)
                  have P6 := P5.kept hg6 (.inr n5)
                  have N6 : Hid (∀ x, Go.Proofs.Ytgbcjimfpoeicaa.blk AP = some x → BytesNot w6 g x) := Lib.hid (fun x hx => hbn6 x (N5.out x hx))
                  have HLEN : Hid ((R.drop nA).length = nA - nA ∧ (L ++ R.take nA).length = L.length + nA ∧ nA = R.length) := Lib.hid ⟨by rw [List.length_drop, ← HM.out.hnA], by rw [List.length_append, List.length_take, ← HM.out.hnA]; have := hKc.out; omega, HM.out.hnA⟩
                  have r6 := own6.bs
                  have hsz6 : g ≤ w6.heap.size := Nat.le_trans hg5s hg6.size
                  simp only
                  have hlen3 : Hid (p.length + L'.length = L.length + nA) := Lib.hid (by have h2 := congrArg List.length hLp; rw [HLEN.out.2.1, List.length_append] at h2; omega)
                  go_wp2_with (at_builtin; refine wpList_append_bs _ rfl (.tmp 111) (.tmp 112) 26 rfl g 5 i0 _ Try.underlying26 hi hz0 hz1 hz2 rfl AP cP piece nP rfl HM.out.hnP P6 _ A6 c6 p n6 rfl hn6.out r6 (by have := HM.out.hT; have := hlen3.out; have := hKc.out; have := HLEN.out; omega) hsz6 ?_; intro A7 c7 w7 own7 hg7 hbk7)
                  have hb7 : Below g w1 w7 := hb6.trans (P6.grown hg7 hsz6)
                  have S7 : StrAt w7 g left' L' false := by
                    cases hAP : Go.Proofs.Ytgbcjimfpoeicaa.blk AP with
                    | none => exact S6.apart (x := w6.heap.size) hg7 (.inl hAP) (bn_far S6 (Nat.le_refl _)) (by have := S6.lt; omega)
                    | some x => exact S6.apart (x := x) hg7 (.inr hAP) (N6.out x hAP) (fun e => n5 (by rw [hAP, e]))
                  have N7 : ∀ x, Go.Proofs.Ytgbcjimfpoeicaa.blk A7 = some x → BytesNot w7 g x := by
                    intro x hx
                    have hgg := S6.lt
                    rcases hbk7 with e | e
                    · rw [e] at hx
                      exact bn_grown hg7 hgg (fun e' => n5 e'.symm) (N6.out x hx)
                    · rw [e] at hx
                      injection hx with hx
                      subst hx
                      exact bn_grown hg7 hgg (fun e' => n5 e'.symm) (bn_far S6 (Nat.le_refl _))
                  have HN7 := Lib.hid N7
                  clear N7 own6 r6 hbn6 hg6 P5 P6 N6 hbk7 hg7 S6 hb6
                  go_wp2
                  go_roundw
                  case rel => exact ⟨j + 1, nd, left', 0, nP + n6, (cA - nA), c7, piece ++ p, L', R.drop nA, AB, A7, rfl, rfl, rfl, by first | go_num | simp, hnd, by omega, by omega, Lib.hid ⟨by have := HLEN.out; omega, by rw [List.length_append, ← HM.out.hnP, ← hn6.out], bs_drop' HM.out.hR nA (fun hp b' o' e => by rw [List.length_drop, ← HM.out.hnA] at hp; omega), own7, S7, by rw [List.append_assoc, ← List.append_assoc p, ← hLp, List.append_assoc, List.take_append_drop]; exact HM.out.hF, .inr ⟨by rw [← Hn.out]; exact hnk, hlf, hl0⟩, HN7.out, by have := HLEN.out; have := HM.out.hM; have := hKc.out; have := hlen3.out; omega, by have := HLEN.out; have := HM.out.hT; have := hKc.out; have := hlen3.out; rw [List.length_append]; omega, hb7⟩⟩
                  case measure => have := Hjb.out; simp [intOf]; omega
              · skip
                have hjtI : ¬ (j : Int) < (m2 : Int) := by omega
                have HT0 : Hid (1 ≤ 7 ∧ 7 ≤ 16) := Lib.hid (by omega)
                have hovd : decide ((nA : Int) < (5 : Int)) = false := by simp; omega
                have hcI : (5 : Int) ≤ (cA : Int) := by omega
                have hcN : 5 ≤ cA := by omega
                have hnI : (5 : Int) ≤ (nA : Int) := by omega
                have hnN : 5 ≤ nA := by omega
                have hnAI : (nA : Int) ≤ (cA : Int) := by omega
                have hKc : Hid (5 ≤ nA) := Lib.hid (by omega)
                have Hov : Hid (¬ nA < 5) := Lib.hid (by omega)
                have ej : IntKind.i64.wrap ((j : Int) + 1) = (j : Int) + 1 := IntWalk.i64_in _ (by have := Hjb.out; omega)
                obtain ⟨AB, hAB⟩ : ∃ AB, AB = (if cA = 5 then AA else AA.map (fun x => x.add 5)) := ⟨_, rfl⟩
                have HAB := Lib.hid hAB
                have hif := hAB.symm
                have hif2 : (if cA = 5 then AA else Option.map (fun x => { block := x.block, off := x.off + 5 }) AA) = AB := by rw [hAB]; first | rfl | simp [Addr.add]
                clear hAB
                have hbsR : Bs wr wr.heap.size AA R := (HM.out.hR.below HM.out.hB).more (Nat.le_of_lt HM.out.hS.lt)
                have hput := put_okX HM.out.hS AA (R.take 5) 5 cA (Lib.hid (by rw [List.length_take, ← HM.out.hnA]; have := hKc.out; omega)) (bs_take' hbsR 5) (by have := HM.out.hT; have := HM.out.hnA; have := hKc.out; omega)
                clear hbsR hjc hjt
                go_wp2_with fail
                refine hput.mono ?_
                clear hput
                rintro e w5 ⟨rfl, S5, hg5, hbn5⟩
                have hb5 : Below g w1 w5 := HM.out.hB.trans (below_of hg5 (Nat.le_refl _) (Nat.le_trans hgl1 HM.out.hB.size))
                have n5 : Go.Proofs.Ytgbcjimfpoeicaa.blk AP ≠ some g := fun e => by obtain ⟨cs, hcs⟩ := HM.out.hS.blk; exact HM.out.hP.ne_blk' hcs stream_ne e.symm
                have P5 := HM.out.hP.kept hg5 (.inr n5)
                have N5 : Hid (∀ x, Go.Proofs.Ytgbcjimfpoeicaa.blk AP = some x → BytesNot w5 g x) := Lib.hid (fun x hx => hbn5 x (hPl.out x hx))
                have hstep := get_step (t := 7) (hall2 nd hnk) (show piece ++ ((L ++ R.take 5) ++ R.drop 5) = _ by rw [List.append_assoc, List.take_append_drop, HM.out.hF, flatR_drop rs nd (by rw [← Hn.out]; exact hnk)]) (HM.out.hp.imp id (fun h => h.2)) HT0.out.1
                change StepO (rs.getD nd []) piece (L ++ R.take 5) (R.drop 5) left (getM left (L ++ R.take 5) false 7) at hstep
                have hget := get_anyX S5 7 (by have := HT0.out; omega)
                have hw5 := hw1.trans (hb5.mono hgw)
                skip
                clear S5 hbn5 hg5 hov
                rcases hstep with ⟨hr, hRn⟩ | ⟨p, L', hr, hpp, hLp, hwh⟩ | ⟨p, left', L', hr, hpp, hLp, hlf, hl0⟩
                · rw [hr] at hget
                  have HR := Lib.hid hr
                  clear hr
                  have hget' := Lib.hid hget
                  clear hget
                  go_wp2_with fail
                  refine hget'.out.mono ?_
                  clear hget'
                  rintro e w6 ⟨⟨A6, n6, c6, rfl, hn6, own6, S6, hg6⟩, hbn6⟩
                  simp only at hn6 own6 S6
                  have hg5s : g ≤ w5.heap.size := Nat.le_trans hgl1 hb5.size
                  have hb6 : Below g w1 w6 := hb5.trans (below_of hg6 (Nat.le_refl _) hg5s)
                  have P6 := P5.kept hg6 (.inr n5)
                  have N6 : Hid (∀ x, Go.Proofs.Ytgbcjimfpoeicaa.blk AP = some x → BytesNot w6 g x) := Lib.hid (fun x hx => hbn6 x (N5.out x hx))
                  have HLEN : Hid ((R.drop 5).length = nA - 5 ∧ (L ++ R.take 5).length = L.length + 5 ∧ nA = R.length) := Lib.hid ⟨by rw [List.length_drop, ← HM.out.hnA], by rw [List.length_append, List.length_take, ← HM.out.hnA]; have := hKc.out; omega, HM.out.hnA⟩
                  clear own6 hbn6 hg6 P5
                  simp only
                  go_wp2
                  go_roundw
                  case rel => exact ⟨j + 1, nd, left, nA - 5, nP, (cA - 5), cP, piece, L ++ R.take 5, R.drop 5, AB, AP, rfl, rfl, rfl, by first | go_num | simp, hnd, by omega, by omega, Lib.hid ⟨by have := HLEN.out; omega, HM.out.hnP, bs_drop' HM.out.hR 5 (fun hp b' o' e => by rw [HAB.out, e, if_neg (by rw [List.length_drop, ← HM.out.hnA] at hp; have := Hov.out; omega)]; simp [Addr.add]), P6, S6, by rw [List.append_assoc, List.take_append_drop]; exact HM.out.hF, HM.out.hp, N6.out, by have := HLEN.out; have := HM.out.hM; have hne : 0 < (R.drop 5).length := List.length_pos_iff.2 hRn; have := HK0.out; have := hKc.out; omega, by have := HLEN.out; have := HM.out.hT; have := hKc.out; omega, hb6⟩⟩
                  case measure => have := Hjb.out; simp [intOf]; omega
                · rw [hr] at hget
                  have HR := Lib.hid hr
                  clear hr
                  have hget' := Lib.hid hget
                  clear hget
                  go_wp2_with fail
                  refine hget'.out.mono ?_
                  clear hget'
                  rintro e w6 ⟨⟨A6, n6, c6, rfl, hn6, own6, S6, hg6⟩, hbn6⟩
                  simp only at hn6 own6 S6
                  have hg5s : g ≤ w5.heap.size := Nat.le_trans hgl1 hb5.size
                  have hb6 : Below g w1 w6 := hb5.trans (below_of hg6 (Nat.le_refl _) hg5s)
                  have P6 := P5.kept hg6 (.inr n5)
                  have N6 : Hid (∀ x, Go.Proofs.Ytgbcjimfpoeicaa.blk AP = some x → BytesNot w6 g x) := Lib.hid (fun x hx => hbn6 x (N5.out x hx))
                  have HLEN : Hid ((R.drop 5).length = nA - 5 ∧ (L ++ R.take 5).length = L.length + 5 ∧ nA = R.length) := Lib.hid ⟨by rw [List.length_drop, ← HM.out.hnA], by rw [List.length_append, List.length_take, ← HM.out.hnA]; have := hKc.out; omega, HM.out.hnA⟩
                  have r6 := own6.bs
                  have hsz6 : g ≤ w6.heap.size := Nat.le_trans hg5s hg6.size
                  simp only
                  have hlen3 : Hid (p.length + L'.length = L.length + 5) := Lib.hid (by have h2 := congrArg List.length hLp; rw [HLEN.out.2.1, List.length_append] at h2; omega)
                  go_wp2_with (at_builtin; refine wpList_append_bs _ rfl (.tmp 111) (.tmp 112) 26 rfl g 5 i0 _ Try.underlying26 hi hz0 hz1 hz2 rfl AP cP piece nP rfl HM.out.hnP P6 _ A6 c6 p n6 rfl hn6.out r6 (by have := HM.out.hT; have := hlen3.out; have := hKc.out; have := HLEN.out; omega) hsz6 ?_; intro A7 c7 w7 own7 hg7 hbk7)
                  have hb7 : Below g w1 w7 := hb6.trans (P6.grown hg7 hsz6)
                  have S7 : StrAt w7 g 0 L' false := by
                    cases hAP : Go.Proofs.Ytgbcjimfpoeicaa.blk AP with
                    | none => exact S6.apart (x := w6.heap.size) hg7 (.inl hAP) (bn_far S6 (Nat.le_refl _)) (by have := S6.lt; omega)
                    | some x => exact S6.apart (x := x) hg7 (.inr hAP) (N6.out x hAP) (fun e => n5 (by rw [hAP, e]))
                  have hw7 := hw1.trans (hb7.mono hgw)
                  obtain ⟨bL, oL, rfl, hltL, hcsL⟩ := hL (by rw [← Hn.out]; omega)
                  have hndr : nd < rs.length := by rw [← Hn.out]; exact hnk
                  obtain ⟨Ar, cr, qL0, hr0⟩ := hcsL nd hndr
                  have hrk : rs.getD nd [] = rs[nd] := by simp [List.getD, hndr]
                  have hr200 := hall2 nd hnk
                  obtain ⟨r, hr⟩ : ∃ r, r = rs[nd] := ⟨_, rfl⟩
                  rw [← hr] at qL0 hr0 hrk
                  rw [hrk] at hr200 hwh
                  obtain ⟨nr, hnr⟩ : ∃ nr, nr = r.length := ⟨_, rfl⟩
                  rw [← hnr] at qL0
                  have Hnr := Lib.hid hnr
                  have qL := (hw7.cell (p := ⟨bL, oL + nd, none⟩) hltL).trans qL0
                  have hwrt := write_ok Ar r nr cr w7 Hnr (by omega) ((hr0.below hw7).more hw7.size)
                  have eq1 : (UInt8.ofNat ((nr + 2) / 256) :: UInt8.ofNat ((nr + 2) % 256) :: r) = encR r := by rw [Hnr.out]; rfl
                  rw [eq1] at hwrt
                  have hwrt' := Lib.hid hwrt
                  have hFn : Hid (L' ++ R.drop 5 = flatR (rs.drop (nd + 1))) := Lib.hid (by
                    have h1 : (piece ++ p) ++ (L' ++ R.drop 5) = encR r ++ flatR (rs.drop (nd + 1)) := by
                      rw [← hrk, ← flatR_drop rs nd hndr, ← HM.out.hF, List.append_assoc, ← List.append_assoc p, ← hLp, List.append_assoc, List.take_append_drop]
                    rw [hwh] at h1
                    exact List.append_cancel_left h1)
                  have hPn : Hid (nP + n6 = (encR r).length) := Lib.hid (by rw [← hwh, List.length_append, ← HM.out.hnP, ← hn6.out])
                  have e3 : Hid (nr + 2 = (encR r).length) := Lib.hid (by rw [encR_length, ← Hnr.out])
                  rw [hwh] at own7
                  have hix := fun u => idx_lists bL oL k c nd hnk u
                  have HPP := Lib.hid hpp
                  clear hwrt eq1 hwh hLp hpp hcsL hndr hrk hr200 hr hnr qL0 hr0 own6 r6 hbn6 hg6 P5 P6 N6 hbk7 hg7 S6 hb6
                  go_wp2_with fail
                  simp only [hix]
                  clear hix
                  go_wp2_with fail
                  refine hwrt'.out.mono ?_
                  clear hwrt'
                  rintro e w8 ⟨A8, c8, rfl, own8, hb8⟩
                  have S8 := S7.below hb8
                  have hg7s : g ≤ w7.heap.size := Nat.le_trans hgl1 hb7.size
                  have hb9 : Below g w1 w8 := hb7.trans (hb8.mono hg7s)
                  have cv7 := conv_n A7 (encR r) (nP + n6) c7 hPn w8 _ (own7.below hb8 (Nat.le_refl _)).bs
                  have cv8 := conv_n A8 (encR r) (nr + 2) c8 e3 w8 _ own8.bs
                  have en : IntKind.i64.wrap ((nd : Int) + 1) = ((nd + 1 : Nat) : Int) := by rw [IntWalk.i64_in _ (by have := hn12.out; omega)]; omega
                  clear own7 own8 S7 hb8 hb7 hw7 qL hltL
                  go_wp2
                  go_roundw
                  case rel => exact ⟨j + 1, nd + 1, 0, nA - 5, 0, (cA - 5), 0, [], L', R.drop 5, AB, none, rfl, by first | go_num | simp, rfl, by first | go_num | simp, by omega, by omega, by omega, Lib.hid ⟨by have := HLEN.out; omega, rfl, bs_drop' HM.out.hR 5 (fun hp b' o' e => by rw [HAB.out, e, if_neg (by rw [List.length_drop, ← HM.out.hnA] at hp; have := Hov.out; omega)]; simp [Addr.add]), Own.nil, S8, by rw [List.nil_append]; exact hFn.out, .inl ⟨rfl, rfl⟩, by simp [Go.Proofs.Ytgbcjimfpoeicaa.blk], by have := HPP.out; have := HLEN.out; have := HM.out.hM; have := hKc.out; have := hlen3.out; omega, by have := HLEN.out; have := HM.out.hT; have := hKc.out; have := hlen3.out; simp only [List.length_nil]; omega, hb9⟩⟩
                  case measure => have := Hjb.out; simp [intOf]; omega
                · rw [hr] at hget
                  have HR := Lib.hid hr
                  clear hr
                  have hget' := Lib.hid hget
                  clear hget
                  go_wp2_with fail
                  refine hget'.out.mono ?_
                  clear hget'
                  rintro e w6 ⟨⟨A6, n6, c6, rfl, hn6, own6, S6, hg6⟩, hbn6⟩
                  simp only at hn6 own6 S6
                  have hg5s : g ≤ w5.heap.size := Nat.le_trans hgl1 hb5.size
                  have hb6 : Below g w1 w6 := hb5.trans (below_of hg6 (Nat.le_refl _) hg5s)
                  have P6 := P5.kept hg6 (.inr n5)
                  have N6 : Hid (∀ x, Go.Proofs.Ytgbcjimfpoeicaa.blk AP = some x → BytesNot w6 g x) := Lib.hid (fun x hx => hbn6 x (N5.out x hx))
                  have HLEN : Hid ((R.drop 5).length = nA - 5 ∧ (L ++ R.take 5).length = L.length + 5 ∧ nA = R.length) := Lib.hid ⟨by rw [List.length_drop, ← HM.out.hnA], by rw [List.length_append, List.length_take, ← HM.out.hnA]; have := hKc.out; omega, HM.out.hnA⟩
                  have r6 := own6.bs
                  have hsz6 : g ≤ w6.heap.size := Nat.le_trans hg5s hg6.size
                  simp only
                  have hlen3 : Hid (p.length + L'.length = L.length + 5) := Lib.hid (by have h2 := congrArg List.length hLp; rw [HLEN.out.2.1, List.length_append] at h2; omega)
                  go_wp2_with (at_builtin; refine wpList_append_bs _ rfl (.tmp 111) (.tmp 112) 26 rfl g 5 i0 _ Try.underlying26 hi hz0 hz1 hz2 rfl AP cP piece nP rfl HM.out.hnP P6 _ A6 c6 p n6 rfl hn6.out r6 (by have := HM.out.hT; have := hlen3.out; have := hKc.out; have := HLEN.out; omega) hsz6 ?_; intro A7 c7 w7 own7 hg7 hbk7)
                  have hb7 : Below g w1 w7 := hb6.trans (P6.grown hg7 hsz6)
                  have S7 : StrAt w7 g left' L' false := by
                    cases hAP : Go.Proofs.Ytgbcjimfpoeicaa.blk AP with
                    | none => exact S6.apart (x := w6.heap.size) hg7 (.inl hAP) (bn_far S6 (Nat.le_refl _)) (by have := S6.lt; omega)
                    | some x => exact S6.apart (x := x) hg7 (.inr hAP) (N6.out x hAP) (fun e => n5 (by rw [hAP, e]))
                  have N7 : ∀ x, Go.Proofs.Ytgbcjimfpoeicaa.blk A7 = some x → BytesNot w7 g x := by
                    intro x hx
                    have hgg := S6.lt
                    rcases hbk7 with e | e
                    · rw [e] at hx
                      exact bn_grown hg7 hgg (fun e' => n5 e'.symm) (N6.out x hx)
                    · rw [e] at hx
                      injection hx with hx
                      subst hx
                      exact bn_grown hg7 hgg (fun e' => n5 e'.symm) (bn_far S6 (Nat.le_refl _))
                  have HN7 := Lib.hid N7
                  clear N7 own6 r6 hbn6 hg6 P5 P6 N6 hbk7 hg7 S6 hb6
                  go_wp2
                  go_roundw
                  case rel => exact ⟨j + 1, nd, left', nA - 5, nP + n6, (cA - 5), c7, piece ++ p, L', R.drop 5, AB, A7, rfl, rfl, rfl, by first | go_num | simp, hnd, by omega, by omega, Lib.hid ⟨by have := HLEN.out; omega, by rw [List.length_append, ← HM.out.hnP, ← hn6.out], bs_drop' HM.out.hR 5 (fun hp b' o' e => by rw [HAB.out, e, if_neg (by rw [List.length_drop, ← HM.out.hnA] at hp; have := Hov.out; omega)]; simp [Addr.add]), own7, S7, by rw [List.append_assoc, ← List.append_assoc p, ← hLp, List.append_assoc, List.take_append_drop]; exact HM.out.hF, .inr ⟨by rw [← Hn.out]; exact hnk, hlf, hl0⟩, HN7.out, by have := HLEN.out; have := HM.out.hM; have := hKc.out; have := hlen3.out; omega, by have := HLEN.out; have := HM.out.hT; have := hKc.out; have := hlen3.out; rw [List.length_append]; omega, hb7⟩⟩
                  case measure => have := Hjb.out; simp [intOf]; omega
        · have hnkI : ¬ (nd : Int) < (k : Int) := by omega
          obtain rfl : nd = k := by omega
          have hF := HM.out.hF
          rw [Hn.out, List.drop_length] at hF
          have e0 : piece = [] ∧ L = [] ∧ R = [] := by
            have h0 : piece ++ (L ++ R) = [] := hF
            simpa using h0
          obtain ⟨rfl, rfl, rfl⟩ := e0
          obtain rfl : nA = 0 := HM.out.hnA
          have S3 := HM.out.hS
          have hw3 := hw1.trans (HM.out.hB.mono hgw)
          clear HM hF
          go_wp2_with fail
          refine (alive_any _).mono ?_
          rintro e wz ⟨rfl, hbz⟩
          have S4 := S3.below hbz
          have hw4 := bt hw3 hbz
          clear S3 hw3 hbz
          go_wp2_with fail
          refine (held_n S4 0 (Lib.hid rfl)).mono ?_
          rintro e wh ⟨rfl, rfl⟩
          go_wp2
          go_ret
          exact ⟨by simp, hw4⟩
end Go.Proofs.Ytgbcjimfpoeicaa
