/- The law that what is written is read as it was. -/
import Derived.Test.YtjcmdfgmclafcaaRead
import Derived.Test.YtjcmdfgmclafcaaCut
import Derived.Test.YtjcmdfgmclafcaaOpenG
namespace Go.Proofs.Ytjcmdfgmclafcaa
open Go.RowKit
set_option linter.unusedVariables false
set_option linter.unusedSimpArgs false

/-- The bytes S are this variable's, however it was cut. -/
def Wrote (S : List UInt8) (v : Int × List UInt8) : Prop :=
  ∃ (i s : Nat), v.1 = i ∧ i < 65536 ∧ 1 ≤ s ∧ s ≤ 2048 ∧ v.2.length ≤ 2048 ∧ v.2.length ≤ s * 64 ∧ S = segsL (putL i 2) (piecesL s v.2.length v.2)
def AllWrote : List UInt8 → List (Int × List UInt8) → Prop
  | O, [] => O = []
  | O, v :: vs => ∃ S O', O = S ++ O' ∧ Wrote S v ∧ AllWrote O' vs
theorem allWrote_snoc {S : List UInt8} {v : Int × List UInt8} : ∀ {vs : List (Int × List UInt8)} {O : List UInt8}, AllWrote O vs → Wrote S v → AllWrote (O ++ S) (vs ++ [v])
  | [], O, h, hw => by
    have h' : O = [] := h
    subst h'
    exact ⟨S, [], by simp, hw, rfl⟩
  | x :: vs, O, h, hw => by
    obtain ⟨S1, O1, rfl, h1, h2⟩ := h
    exact ⟨S1, O1 ++ S, by simp, h1, allWrote_snoc h2 hw⟩
theorem wrote_pos {S : List UInt8} {v : Int × List UInt8} (h : Wrote S v) : 2 ≤ S.length := by
  obtain ⟨i, s, _, _, _, _, _, _, rfl⟩ := h
  cases hk : piecesL s v.2.length v.2 with
  | nil => exact absurd hk (by cases v.2.length <;> simp [piecesL] ; split <;> simp)
  | cons y ys => simp only [segsL, List.length_append, segOf_length]; omega
/-- **What was written one behind the other is read as it was.** -/
theorem reads_all (b : List UInt8) : ∀ (vs : List (Int × List UInt8)) (O : List UInt8) (at_ : Nat), AllWrote O vs → b.drop at_ = O → at_ ≤ b.length → ReadsAs b at_ vs
  | [], O, at_, h, hb, hat => by
    have h' : O = [] := h
    subst h'
    have := congrArg List.length hb
    simp at this
    show at_ = b.length
    omega
  | v :: vs, O, at_, h, hb, hat => by
    obtain ⟨S, O1, rfl, hw, h2⟩ := h
    have hp := wrote_pos hw
    have hl := congrArg List.length hb
    rw [List.length_drop, List.length_append] at hl
    obtain ⟨i, s, h3, h4, h5, h6, h7, h8, h9⟩ := hw
    refine ⟨by omega, i, S.length, h3, ?_, reads_all b vs O1 _ h2 (drop_more hb) (by omega)⟩
    rw [hb, h9]
    exact next_write i s v.2 O1 h4 h5 h6 h7 h8

theorem writeR_err (id : Int) (d : List UInt8) (seg : Int) (h : (writeR id d seg).2 ≠ 0) : (writeR id d seg).1 = [] := by
  unfold writeR at h ⊢
  split
  · rfl
  · rename_i c1
    rw [if_neg c1] at h
    split
    · rfl
    · rename_i c2
      rw [if_neg c2] at h
      split
      · rfl
      · rename_i c3
        rw [if_neg c3] at h
        exact absurd rfl h
theorem writeR_ok (id : Int) (d : List UInt8) (seg : Int) (h : (writeR id d seg).2 = 0) (hd : d.length ≤ 400) : Wrote (writeR id d seg).1 (id, d) ∧ (writeR id d seg).1.length ≤ 140000 := by
  unfold writeR at h ⊢
  by_cases c1 : seg < 1 ∨ 2048 < seg
  · rw [if_pos c1] at h; cases h
  · rw [if_neg c1] at h ⊢
    by_cases c2 : id < 0 ∨ 65535 < id ∨ 2048 < d.length
    · rw [if_pos c2] at h; cases h
    · rw [if_neg c2] at h ⊢
      by_cases c3 : seg * 64 < d.length
      · rw [if_pos c3] at h; cases h
      · rw [if_neg c3]
        refine ⟨⟨id.toNat, seg.toNat, by simp; omega, by omega, by omega, by omega, by simp; omega, by simp; omega, rfl⟩, ?_⟩
        have h1 := segsL_len (piecesL seg.toNat d.length d) (putL id.toNat 2) (by rw [putL_length]; omega) (fun y hy => Nat.le_trans (pieces_le seg.toNat d.length d y hy) (by omega))
        have h2 := pieces_count seg.toNat (by omega) d.length d 64 (by omega) (by omega)
        show (segsL (putL id.toNat 2) (piecesL seg.toNat d.length d)).length ≤ 140000
        omega

theorem varVs_vars {w : World} {A : Option Addr} {vs : List VarV} (h : VarVsAt w A vs) : VarsAt w w.heap.size A (vs.map fun o => (o.id, o.l)) := fun hn => by
  rw [List.length_map] at hn
  obtain ⟨b, o, e, hb, hc⟩ := h.2.2 hn
  refine ⟨b, o, e, hb, fun i hi => ?_⟩
  rw [List.length_map] at hi
  obtain ⟨h1, h2⟩ := hc i hi
  refine ⟨vs[i].A, vs[i].c, ?_, ?_, ?_⟩
  · simpa using h1
  · simpa using h2
  · simpa using (h.2.1 _ (List.getElem_mem hi)).bs

set_option maxRecDepth 100000 in
set_option maxHeartbeats 2000000 in
theorem gdsBack_walk (A : Option Addr) (ls : List VarV) (c : Nat) (seg other : Int) (w : World) (h : VarVsAt w A ls) (g1 : -9223372036854775808 ≤ seg) (g2 : seg ≤ 9223372036854775807) (k1 : -9223372036854775808 ≤ other) (k2 : other ≤ 9223372036854775807) :
    Calls Try.prog 6 #[.slice A ls.length c, .int .i64 seg, .int .i64 other] w fun e w' => e = .returned (.bool true) ∧ Below w.heap.size w w' := by
  have hlm := h.1
  unfold maxLen at hlm
  by_cases hbig : 10 < ls.length
  · go_enter Try.func6, Try.ntmps6
    go_wp2_with fail
    refine (alive_any _).mono ?_
    rintro e wz ⟨rfl, hbz⟩
    go_wp2
    go_ret
    exact ⟨rfl, hbz⟩
  · obtain ⟨i0, hi, hz0, hz1, hz2⟩ := info_parts Try.infoU8
    go_enter Try.func6, Try.ntmps6
    go_wp2_with fail
    go_loopw [7, 8] (fun out i wr => ∃ (k : Nat) (Ao : Option Addr) (co : Nat) (O : List UInt8), k ≤ ls.length ∧ i = .int .i64 k ∧ out = .slice Ao O.length co ∧ Own wr w.heap.size 5 Ao co O ∧ Hid (AllWrote O ((ls.take k).map fun o => (o.id, o.l))) ∧ O.length ≤ k * 140000 ∧ Below w.heap.size w wr)
      (fun _ i _ => ls.length - (intOf i).toNat)
    case atStart => exact ⟨0, none, 0, [], Nat.zero_le _, rfl, rfl, Own.nil, Lib.hid rfl, by simp, Below.refl _ _⟩
    case round =>
      obtain ⟨k, Ao, co, O, hk, rfl, rfl, hown, hO, hOl, hb⟩ := hrel
      by_cases hlt : k < ls.length
      · obtain ⟨bb, oo, rfl, hbl, hcs⟩ := (h.below hb).2.2 (by omega)
        obtain ⟨x0, x1⟩ := hcs k hlt
        have hvo := (h.below hb).2.1 _ (List.getElem_mem hlt)
        obtain ⟨v, hv⟩ : ∃ v, v = ls[k] := ⟨_, rfl⟩
        rw [← hv] at x0 x1 hvo
        have Hv := Lib.hid hv
        clear hv hcs
        have hq1 := hvo.k1
        have hq2 := hvo.k2
        have hki : (k : Int) < (ls.length : Int) := by omega
        by_cases hk400 : v.l.length ≤ 400
        · by_cases hpar : ((k : Int) % 2 == 1) = true
          · skip
            have hwr := write_any v.id v.A v.l v.c other wr hvo.len hvo.cap (by omega) (by omega) hvo.bs _ (Lib.hid rfl)
            have herrw := writeR_err v.id v.l other
            have hokw := writeR_ok v.id v.l other
            obtain ⟨⟨S, e0⟩, hSE⟩ : ∃ r, r = writeR v.id v.l other := ⟨_, rfl⟩
            rw [← hSE] at hwr herrw hokw
            simp only at herrw hokw
            clear hSE
            by_cases h0 : e0 = 0
            · subst h0
              have hwS := hokw rfl hk400
              clear herrw hokw
              obtain ⟨hw1, hw2⟩ := hwS
              have Hw1 := Lib.hid hw1
              have hOl2 : O.length + S.length ≤ (k + 1) * 140000 := by omega
              clear hw1
              go_wp2_with fail
              refine hwr.mono ?_
              clear hwr
              rintro e w1 ⟨A1, c1, rfl, ho1, hb1⟩
              simp only at ho1
              have hown1 := hown.below hb1 (Nat.le_refl _)
              have ho1b := ho1.bs
              have hb1' := bt hb hb1
              go_wp2_with (at_builtin; refine wpList_append_bs _ rfl (.tmp 54) (.tmp 55) 22 rfl w.heap.size 5 i0 _ Try.underlying22 hi hz0 hz1 hz2 rfl Ao co O O.length rfl rfl hown1 _ A1 c1 S S.length rfl rfl ho1b (by omega) hb1'.size ?_; intro A2 c2 w2 own2 hg2 _)
              go_roundw
              case rel =>
                refine ⟨k + 1, A2, c2, O ++ S, by omega, by go_num, by rw [List.length_append], own2, Lib.hid ?_, by rw [List.length_append]; exact hOl2, hb1'.grown hg2 hb1'.size (fun k e => (hown1.lt k e).1)⟩
                rw [take_snoc ls k hlt, List.map_append]
                exact allWrote_snoc hO.out (by rw [← Hv.out]; exact Hw1.out)
              case measure => simp [intOf]; omega
            · obtain rfl := herrw h0
              have hne : (e0 != 0) = true := bne_iff_ne.2 h0
              clear hokw herrw
              go_wp2_with fail
              refine hwr.mono ?_
              clear hwr
              rintro e w1 ⟨A1, c1, rfl, ho1, hb1⟩
              have hb1' := bt hb hb1
              go_wp2_with fail
              refine (alive_any _).mono ?_
              rintro e wz ⟨rfl, hbz⟩
              go_wp2
              go_ret
              exact ⟨rfl, bt hb1' hbz⟩
          · have hpar : ((k : Int) % 2 == 1) = false := by simpa using hpar
            have hwr := write_any v.id v.A v.l v.c seg wr hvo.len hvo.cap (by omega) (by omega) hvo.bs _ (Lib.hid rfl)
            have herrw := writeR_err v.id v.l seg
            have hokw := writeR_ok v.id v.l seg
            obtain ⟨⟨S, e0⟩, hSE⟩ : ∃ r, r = writeR v.id v.l seg := ⟨_, rfl⟩
            rw [← hSE] at hwr herrw hokw
            simp only at herrw hokw
            clear hSE
            by_cases h0 : e0 = 0
            · subst h0
              have hwS := hokw rfl hk400
              clear herrw hokw
              obtain ⟨hw1, hw2⟩ := hwS
              have Hw1 := Lib.hid hw1
              have hOl2 : O.length + S.length ≤ (k + 1) * 140000 := by omega
              clear hw1
              go_wp2_with fail
              refine hwr.mono ?_
              clear hwr
              rintro e w1 ⟨A1, c1, rfl, ho1, hb1⟩
              simp only at ho1
              have hown1 := hown.below hb1 (Nat.le_refl _)
              have ho1b := ho1.bs
              have hb1' := bt hb hb1
              go_wp2_with (at_builtin; refine wpList_append_bs _ rfl (.tmp 54) (.tmp 55) 22 rfl w.heap.size 5 i0 _ Try.underlying22 hi hz0 hz1 hz2 rfl Ao co O O.length rfl rfl hown1 _ A1 c1 S S.length rfl rfl ho1b (by omega) hb1'.size ?_; intro A2 c2 w2 own2 hg2 _)
              go_roundw
              case rel =>
                refine ⟨k + 1, A2, c2, O ++ S, by omega, by go_num, by rw [List.length_append], own2, Lib.hid ?_, by rw [List.length_append]; exact hOl2, hb1'.grown hg2 hb1'.size (fun k e => (hown1.lt k e).1)⟩
                rw [take_snoc ls k hlt, List.map_append]
                exact allWrote_snoc hO.out (by rw [← Hv.out]; exact Hw1.out)
              case measure => simp [intOf]; omega
            · obtain rfl := herrw h0
              have hne : (e0 != 0) = true := bne_iff_ne.2 h0
              clear hokw herrw
              go_wp2_with fail
              refine hwr.mono ?_
              clear hwr
              rintro e w1 ⟨A1, c1, rfl, ho1, hb1⟩
              have hb1' := bt hb hb1
              go_wp2_with fail
              refine (alive_any _).mono ?_
              rintro e wz ⟨rfl, hbz⟩
              go_wp2
              go_ret
              exact ⟨rfl, bt hb1' hbz⟩
        · have hk401 : 400 < v.l.length := by omega
          go_wp2_with fail
          refine (alive_any _).mono ?_
          rintro e wz ⟨rfl, hbz⟩
          go_wp2
          go_ret
          exact ⟨rfl, bt hb hbz⟩
      · obtain rfl : k = ls.length := by omega
        rw [List.take_length] at hO
        have hrd := reads_all O _ O 0 hO.out (by simp) (Nat.zero_le _)
        have hvs := varVs_vars (h.below hb)
        have hcapO : O.length ≤ co ∧ co ≤ 9223372036854775807 := by
          rcases hown.2 with ⟨e1, e2⟩ | ⟨g, cap, cur, e1, _, _, e3, e4, _⟩
          · simp only [Value.slice.injEq] at e1
            obtain ⟨_, e5, rfl⟩ := e1
            exact ⟨by omega, by omega⟩
          · simp only [Value.slice.injEq] at e1
            obtain ⟨_, _, rfl⟩ := e1
            unfold maxLen at e4
            exact ⟨e3, by omega⟩
        have hcall := read_ok Ao O co (ls.map fun o => (o.id, o.l)) wr hcapO.1 hcapO.2 (by omega) (by simp; omega) hown.bs hrd
        rw [List.length_map] at hcall
        have hl400 : ∀ x ∈ ls.map (fun o : VarV => (o.id, o.l)), x.2.length ≤ 9223372036854775807 := by
          intro x hx
          obtain ⟨o, ho, rfl⟩ := List.mem_map.1 hx
          exact Nat.le_trans (h.2.1 o ho).len (h.2.1 o ho).cap
        have Hl400 := Lib.hid hl400
        have Hhlen : Hid ((ls.map fun o : VarV => (o.id, o.l)).length = ls.length) := Lib.hid (by simp)
        generalize (ls.map fun o : VarV => (o.id, o.l)) = VS at *
        clear hl400 hrd hO
        go_wp2_with fail
        refine hcall.mono ?_
        clear hcall
        rintro e w1 ⟨A2, c2, rfl, hv1, hb1⟩
        have hvs1 := hvs.bt hb1
        have hb2 := bt hb hb1
        have hF := Blk.new w1 38 #[.int .i64 0, .int .i64 0]
        have hv2 := hv1.bt (ba w1 (.cells #[.int .i64 0, .int .i64 0] 38))
        have hvs2 := hvs1.bt (ba w1 (.cells #[.int .i64 0, .int .i64 0] 38))
        have hb3 := bt hb2 (ba w1 (.cells #[.int .i64 0, .int .i64 0] 38))
        go_wp2_with fail
        refine (alive_any _).mono ?_
        rintro e w4 ⟨rfl, hb4⟩
        have hF4 := hF.below hb4 hF.lt
        have q0 := hF4.cell 0
        have q1 := hF4.cell 1
        simp only [List.getElem?_toArray, List.getElem?_cons_zero, List.getElem?_cons_succ] at q0 q1
        have hcall := same_yes A2 A VS c2 c w4 (by rw [Hhlen.out]; omega) Hl400.out (hv2.bt hb4) (hvs2.bt hb4)
        rw [Hhlen.out] at hcall
        have hb4' := bt hb3 hb4
        clear hF hv2 hvs2 hb3 hb2 hvs1 hv1 hb1 hvs
        go_wp2_with fail
        refine hcall.mono ?_
        rintro e w5 ⟨rfl, nq, rfl⟩
        go_wp2
        go_ret
        exact ⟨rfl, bt hb4' (bl_drewN _ nq)⟩
end Go.Proofs.Ytjcmdfgmclafcaa
