/- Layer 11: what is taken and what is held is what came. -/
import Derived.Test.YtgbcjimfpoeicaaRg
import Derived.Test.YtgbcjimfpoeicaaOpenR
namespace Go.Proofs.Ytgbcjimfpoeicaa
open Go.RowKit
set_option linter.unusedVariables false
set_option linter.unusedSimpArgs false

theorem getM_err {left : Nat} {l : List UInt8} {en : Bool} {m : Int} (h : (getM left l en m).1.2.2 ≠ 0) : getM left l en m = (([], false, (getM left l en m).1.2.2), left, l) := by
  unfold getM takeM at *
  split at h
  · rw [if_pos (by assumption)]
  · rename_i h1
    rw [if_neg h1]
    split at h
    · rename_i h2
      rw [if_pos h2]
      split at h
      · rename_i h3
        rw [if_pos h3]
        split at h
        · rename_i h4; rw [if_pos h4]
        · simp at h
      · rename_i h3
        rw [if_neg h3]
    · rename_i h2
      rw [if_neg h2]
      split at h
      · rename_i h4; rw [if_pos h4]
      · simp at h
theorem getM_ok {left : Nat} {l : List UInt8} {en : Bool} {m : Int} (h : (getM left l en m).1.2.2 = 0) : ((getM left l en m).1.1.length : Int) ≤ m ∧ l = (getM left l en m).1.1 ++ (getM left l en m).2.2 := by
  unfold getM takeM at *
  split at h
  · simp at h
  · rename_i h1
    rw [if_neg h1]
    split at h
    · rename_i h2
      rw [if_pos h2]
      split at h
      · rename_i h3
        rw [if_pos h3]
        split at h
        · simp [lackE] at h; split at h <;> simp at h
        · rename_i h4; rw [if_neg h4]; simp; omega
      · rename_i h3
        simp at h
        exact absurd h h3
    · rename_i h2
      rw [if_neg h2]
      split at h
      · simp [lackE] at h; split at h <;> simp at h
      · rename_i h4; rw [if_neg h4]; simp; omega
theorem heap_size_alloc' (w : World) (o : Obj) : (w.alloc o).heap.size = w.heap.size + 1 := by simp
theorem held_n {w : World} {g left : Nat} {l : List UInt8} {en : Bool} (h : StrAt w g left l en) (n : Nat) (hn : Hid (n = l.length)) : Calls Try.prog 17 #[.pointer (some ⟨g, 0, none⟩)] w fun e w' => e = .returned (.int .i64 n) ∧ w = w' := by
  rw [hn.out]; exact held_any h

set_option maxRecDepth 100000 in
set_option maxHeartbeats 4000000 in
theorem recsHeld_walk (A : Option Addr) (ops : List OpV) (c : Nat) (w : World) (h : OpsAt w A ops) :
    Calls Try.prog 6 #[.slice A ops.length c] w fun e w' => e = .returned (.bool true) ∧ Below w.heap.size w w' := by
  have hlen := h.1
  unfold maxLen at hlen
  go_enter Try.func6, Try.ntmps6
  go_wp2_with fail
  refine (new_any _).mono ?_
  rintro e w1 ⟨rfl, S1, hb1⟩
  go_wp2_with fail
  go_loopw [4, 5, 6] (fun cm tk i wr => ∃ (k left C T : Nat) (L : List UInt8) (en : Bool), k ≤ ops.length ∧ k ≤ 60 ∧ i = .int .i64 k ∧ cm = .int .i64 C ∧ tk = .int .i64 T ∧ Hid (C = T + L.length) ∧ C ≤ k * 1000 ∧ StrAt wr w.heap.size left L en ∧ Below w.heap.size w wr) (fun _ _ i _ => 60 - (intOf i).toNat)
  case atStart => exact ⟨0, 0, 0, 0, [], false, Nat.zero_le _, by omega, rfl, rfl, rfl, Lib.hid rfl, by omega, S1, hb1⟩
  case round =>
    obtain ⟨k, left, C, T, L, en, hk, hk60, rfl, rfl, rfl, hCT, hC, S2, hb2⟩ := hrel
    clear S1 hb1
    by_cases hkl : k < ops.length
    · by_cases hk6 : k < 60
      · obtain ⟨b, o, rfl, hlt, hcs⟩ := (h.below hb2).2.2 (by omega)
        obtain ⟨q0, q1, q2⟩ := hcs k hkl
        obtain ⟨op, hop⟩ : ∃ op, op = ops[k] := ⟨_, rfl⟩
        rw [← hop] at q0 q1 q2
        have hok : OpOk wr op := by rw [hop]; exact (h.below hb2).2.1 _ (List.getElem_mem _)
        clear hop hcs
        obtain ⟨ok, on, oA, ob, oc⟩ := op
        obtain ⟨k1, k2, n1, n2, obs, olen⟩ := hok
        simp only at q0 q1 q2 k1 k2 n1 n2 obs olen
        unfold maxLen at olen
        obtain ⟨bn, hbn⟩ : ∃ bn, bn = ob.length := ⟨_, rfl⟩
        rw [← hbn] at q2 olen
        have Hbn := Lib.hid hbn
        clear hbn
        have hkI : (k : Int) < (ops.length : Int) := by omega
        have hba := ba wr (.cells #[.int .i64 ok, .int .i64 on, .slice oA bn oc] 30)
        have B3 := Blk.new wr 30 #[.int .i64 ok, .int .i64 on, .slice oA bn oc]
        have S3 := S2.below hba
        have hb3 := bt hb2 hba
        have obs3 := obs.bt hba
        have hgl := S2.lt
        have hgn : (w.heap.size : Nat) ≠ wr.heap.size := by omega
        have c0 := B3.cell 0
        have c1 := B3.cell 1
        have c2 := B3.cell 2
        simp only [List.getElem?_toArray, List.getElem?_cons_zero, List.getElem?_cons_succ] at c0 c1 c2
        by_cases hbig : 1000 < (bn : Int)
        · go_wp2_with fail
          refine (alive_any _).mono ?_
          rintro e wz ⟨rfl, hbz⟩
          go_wp2
          go_ret
          exact ⟨rfl, bt hb3 hbz⟩
        · have hdb : decide (1000 < (bn : Int)) = false := by simp; omega
          clear hba S2 obs
          have HC := Lib.hid hC
          clear hC
          by_cases hk0 : ok = 0
          · subst hk0
            cases en
            · have hput := put_ok S3 oA ob bn oc Hbn obs3 (by have := HC.out; have := hCT.out; omega)
              clear S3 B3
              go_wp2_with fail
              refine hput.mono ?_
              clear hput
              rintro e w5 ⟨rfl, S5, hg5⟩
              have hb5 := hb3.trans (below_of hg5 (Nat.le_refl _) hb3.size)
              have c2' := (cell_grown hg5 (p := ⟨wr.heap.size, 2, none⟩) (by simp) (fun e => by injection e with e; exact hgn e.symm)).trans c2
              have ew1 : IntKind.i64.wrap ((C : Int) + (bn : Int)) = ((C + bn : Nat) : Int) := by rw [IntWalk.i64_in _ (by have := HC.out; omega)]; omega
              obtain ⟨C2, hC2⟩ : ∃ C2, C2 = C + bn := ⟨_, rfl⟩
              rw [← hC2] at ew1
              have HC2 := Lib.hid hC2
              clear hg5 c2 hb3 hC2 q0 q1 q2
              obtain ⟨hn, hhn⟩ : ∃ hn, hn = (L ++ ob).length := ⟨_, rfl⟩
              have hheld := held_n S5 hn (Lib.hid hhn)
              have ew : IntKind.i64.wrap ((C2 : Int) - (T : Int)) = (hn : Int) := by rw [IntWalk.i64_in _ (by have := HC.out; have := hCT.out; have := Hbn.out; have := HC2.out; simp only [List.length_append] at *; omega)]; have := HC.out; have := hCT.out; have := Hbn.out; have := HC2.out; simp only [List.length_append] at *; omega
              have SS := Lib.hid S5
              have HN := Lib.hid hhn
              clear hhn S5
              go_wp2_with fail
              refine hheld.mono ?_
              rintro e wh ⟨rfl, rfl⟩
              clear hheld
              go_wp2
              go_roundw
              case rel => exact ⟨k + 1, left, C2, T, L ++ ob, false, by omega, by omega, by first | go_num | simp, by first | rfl | simp, by first | rfl | simp, Lib.hid (by have := HC.out; have := hCT.out; have := Hbn.out; have := HC2.out; simp only [List.length_append] at *; omega), by have := HC.out; have := hCT.out; have := Hbn.out; have := HC2.out; simp only [List.length_append] at *; omega, SS.out, hb5⟩
              case measure => simp [intOf]; omega
            · have hput := put_ended S3 (.slice oA bn oc)
              clear B3
              go_wp2_with fail
              refine hput.mono ?_
              clear hput
              rintro e w5 ⟨rfl, rfl⟩
              obtain ⟨hn, hhn⟩ : ∃ hn, hn = L.length := ⟨_, rfl⟩
              have hheld := held_n S3 hn (Lib.hid hhn)
              have ew : IntKind.i64.wrap ((C : Int) - (T : Int)) = (hn : Int) := by rw [IntWalk.i64_in _ (by have := HC.out; have := hCT.out; have := Hbn.out; omega)]; have := HC.out; have := hCT.out; have := Hbn.out; omega
              have SS := Lib.hid S3
              have HN := Lib.hid hhn
              clear hhn S3
              go_wp2_with fail
              refine hheld.mono ?_
              rintro e wh ⟨rfl, rfl⟩
              clear hheld
              go_wp2
              go_roundw
              case rel => exact ⟨k + 1, left, C, T, L, true, by omega, by omega, by first | go_num | simp, by first | rfl | simp, by first | rfl | simp, Lib.hid (by have := HC.out; have := hCT.out; have := Hbn.out; omega), by have := HC.out; have := hCT.out; have := Hbn.out; omega, SS.out, hb3⟩
              case measure => simp [intOf]; omega
          · by_cases hk1 : ok = 1
            · subst hk1
              obtain ⟨r, hr⟩ : ∃ r, r = getM left L en on := ⟨_, rfl⟩
              have hget := get_any S3 on n2
              have herr := @getM_err left L en on
              have hgok := @getM_ok left L en on
              rw [← hr] at hget herr hgok
              have HR := Lib.hid hr
              clear hr
              obtain ⟨⟨rb, rw_, rz⟩, rl, rL⟩ := r
              simp only at herr hgok
              by_cases hz : rz = 0
              · subst hz
                obtain ⟨g1, g2⟩ := hgok rfl
                clear hgok herr S3 B3
                go_wp2_with fail
                refine hget.mono ?_
                clear hget
                rintro e w5 ⟨A5, n5, c5, rfl, hn5, own5, S5, hg5⟩
                simp only at hn5 S5
                have hb5 := hb3.trans (below_of hg5 (Nat.le_refl _) hb3.size)
                have c1' := (cell_grown hg5 (p := ⟨wr.heap.size, 1, none⟩) (by simp) (fun e => by injection e with e; exact hgn e.symm)).trans c1
                have hn5I : ((n5 : Int) ≤ on) := by rw [hn5.out]; exact g1
                have hn5d : decide (on < (n5 : Int)) = false := by simp; omega
                have hgl2 : Hid (L.length = n5 + rL.length) := Lib.hid (by have := congrArg List.length g2; rw [List.length_append] at this; rw [hn5.out]; exact this)
                have ew1 : IntKind.i64.wrap ((T : Int) + (n5 : Int)) = ((T + n5 : Nat) : Int) := by rw [IntWalk.i64_in _ (by have := HC.out; have := hCT.out; have := hgl2.out; omega)]; omega
                obtain ⟨T2, hT2⟩ : ∃ T2, T2 = T + n5 := ⟨_, rfl⟩
                rw [← hT2] at ew1
                have HT2 := Lib.hid hT2
                clear hg5 c1 hb3 hT2 g1 g2 own5 q0 q1 q2
                simp only
                by_cases hn0 : n5 = 0
                · subst hn0
                  obtain rfl : T2 = T := by have := HT2.out; omega
                  have ew3 : IntKind.i64.wrap (T2 : Int) = (T2 : Int) := by rw [IntWalk.i64_in _ (by have := HC.out; have := hCT.out; omega)]
                  clear ew1
                  obtain ⟨hn, hhn⟩ : ∃ hn, hn = rL.length := ⟨_, rfl⟩
                  have hheld := held_n S5 hn (Lib.hid hhn)
                  have ew : IntKind.i64.wrap ((C : Int) - (T2 : Int)) = (hn : Int) := by rw [IntWalk.i64_in _ (by have := HC.out; have := hCT.out; have := hgl2.out; have := HT2.out; omega)]; have := HC.out; have := hCT.out; have := hgl2.out; have := HT2.out; omega
                  have SS := Lib.hid S5
                  have HN := Lib.hid hhn
                  clear hhn S5
                  go_wp2_with fail
                  refine hheld.mono ?_
                  rintro e wh ⟨rfl, rfl⟩
                  clear hheld
                  go_wp2
                  go_roundw
                  case rel => exact ⟨k + 1, rl, C, T2, rL, en, by omega, by omega, by first | go_num | simp, by first | rfl | simp, by first | rfl | simp, Lib.hid (by have := HC.out; have := hCT.out; have := hgl2.out; have := HT2.out; omega), by have := HC.out; have := hCT.out; have := hgl2.out; have := HT2.out; omega, SS.out, hb5⟩
                  case measure => simp [intOf]; omega
                · skip
                  have hpos : decide ((0 : Int) < (n5 : Int)) = true := by simp; omega
                  obtain ⟨hn, hhn⟩ : ∃ hn, hn = rL.length := ⟨_, rfl⟩
                  have hheld := held_n S5 hn (Lib.hid hhn)
                  have ew : IntKind.i64.wrap ((C : Int) - (T2 : Int)) = (hn : Int) := by rw [IntWalk.i64_in _ (by have := HC.out; have := hCT.out; have := hgl2.out; have := HT2.out; omega)]; have := HC.out; have := hCT.out; have := hgl2.out; have := HT2.out; omega
                  have SS := Lib.hid S5
                  have HN := Lib.hid hhn
                  clear hhn S5
                  go_wp2_with fail
                  refine hheld.mono ?_
                  rintro e wh ⟨rfl, rfl⟩
                  clear hheld
                  go_wp2
                  go_roundw
                  case rel => exact ⟨k + 1, rl, C, T2, rL, en, by omega, by omega, by first | go_num | simp, by first | rfl | simp, by first | rfl | simp, Lib.hid (by have := HC.out; have := hCT.out; have := hgl2.out; have := HT2.out; omega), by have := HC.out; have := hCT.out; have := hgl2.out; have := HT2.out; omega, SS.out, hb5⟩
                  case measure => simp [intOf]; omega
              · have her := herr hz
                simp only [Prod.mk.injEq] at her
                obtain ⟨⟨rfl, rfl, _⟩, rfl, rfl⟩ := her
                clear hgok herr B3
                have ew3 : IntKind.i64.wrap (T : Int) = (T : Int) := by rw [IntWalk.i64_in _ (by have := HC.out; have := hCT.out; omega)]
                have hzb : (rz != 0) = true := bne_iff_ne.2 hz
                go_wp2_with fail
                refine hget.mono ?_
                rintro e w5 ⟨A5, n5, c5, rfl, hn5, own5, S5, hg5⟩
                obtain rfl : n5 = 0 := hn5.out
                simp only at S5
                have hb5 := hb3.trans (below_of hg5 (Nat.le_refl _) hb3.size)
                have c1' := (cell_grown hg5 (p := ⟨wr.heap.size, 1, none⟩) (by simp) (fun e => by injection e with e; exact hgn e.symm)).trans c1
                have hsz5 := hg5.size
                have hget2 := get_any S5 on n2
                rw [← HR.out] at hget2
                clear hget S3 own5 hg5 hb3 q0 q1 q2
                simp only
                go_wp2_with fail
                refine hget2.mono ?_
                clear hget2
                rintro e w6 ⟨A6, n6, c6, rfl, hn6, own6, S6, hg6⟩
                simp only at S6
                have hb6 := hb5.trans (below_of hg6 (Nat.le_refl _) hb5.size)
                have c1'' := (cell_grown hg6 (p := ⟨wr.heap.size, 1, none⟩) (by have := hsz5; simp only [heap_size_alloc'] at this; simp only; omega) (fun e => by injection e with e; exact hgn e.symm)).trans c1'
                clear hg6 c1' c1 hb5 own6 S5
                simp only
                obtain ⟨hn, hhn⟩ : ∃ hn, hn = rL.length := ⟨_, rfl⟩
                have hheld := held_n S6 hn (Lib.hid hhn)
                have ew : IntKind.i64.wrap ((C : Int) - (T : Int)) = (hn : Int) := by rw [IntWalk.i64_in _ (by have := HC.out; have := hCT.out; have := Hbn.out; omega)]; have := HC.out; have := hCT.out; have := Hbn.out; omega
                have SS := Lib.hid S6
                have HN := Lib.hid hhn
                clear hhn S6
                go_wp2_with fail
                refine hheld.mono ?_
                rintro e wh ⟨rfl, rfl⟩
                clear hheld
                go_wp2
                go_roundw
                case rel => exact ⟨k + 1, rl, C, T, rL, en, by omega, by omega, by first | go_num | simp, by first | rfl | simp, by first | rfl | simp, Lib.hid (by have := HC.out; have := hCT.out; have := Hbn.out; omega), by have := HC.out; have := hCT.out; have := Hbn.out; omega, SS.out, hb6⟩
                case measure => simp [intOf]; omega
            · by_cases hk2 : ok = 2
              · subst hk2
                have hend := end_any S3
                clear S3 B3
                go_wp2_with fail
                refine hend.mono ?_
                clear hend
                rintro e w5 ⟨rfl, S5, hg5⟩
                have hb5 := hb3.trans (below_of hg5 (Nat.le_refl _) hb3.size)
                clear hg5 hb3 q0 q1 q2
                obtain ⟨hn, hhn⟩ : ∃ hn, hn = L.length := ⟨_, rfl⟩
                have hheld := held_n S5 hn (Lib.hid hhn)
                have ew : IntKind.i64.wrap ((C : Int) - (T : Int)) = (hn : Int) := by rw [IntWalk.i64_in _ (by have := HC.out; have := hCT.out; have := Hbn.out; omega)]; have := HC.out; have := hCT.out; have := Hbn.out; omega
                have SS := Lib.hid S5
                have HN := Lib.hid hhn
                clear hhn S5
                go_wp2_with fail
                refine hheld.mono ?_
                rintro e wh ⟨rfl, rfl⟩
                clear hheld
                go_wp2
                go_roundw
                case rel => exact ⟨k + 1, left, C, T, L, true, by omega, by omega, by first | go_num | simp, by first | rfl | simp, by first | rfl | simp, Lib.hid (by have := HC.out; have := hCT.out; have := Hbn.out; omega), by have := HC.out; have := hCT.out; have := Hbn.out; omega, SS.out, hb5⟩
                case measure => simp [intOf]; omega
              · clear B3
                obtain ⟨hn, hhn⟩ : ∃ hn, hn = L.length := ⟨_, rfl⟩
                have hheld := held_n S3 hn (Lib.hid hhn)
                have ew : IntKind.i64.wrap ((C : Int) - (T : Int)) = (hn : Int) := by rw [IntWalk.i64_in _ (by have := HC.out; have := hCT.out; have := Hbn.out; omega)]; have := HC.out; have := hCT.out; have := Hbn.out; omega
                have SS := Lib.hid S3
                have HN := Lib.hid hhn
                clear hhn S3
                go_wp2_with fail
                refine hheld.mono ?_
                rintro e wh ⟨rfl, rfl⟩
                clear hheld
                go_wp2
                go_roundw
                case rel => exact ⟨k + 1, left, C, T, L, en, by omega, by omega, by first | go_num | simp, by first | rfl | simp, by first | rfl | simp, Lib.hid (by have := HC.out; have := hCT.out; have := Hbn.out; omega), by have := HC.out; have := hCT.out; have := Hbn.out; omega, SS.out, hb3⟩
                case measure => simp [intOf]; omega
      · have hk6I : ¬ (k : Int) < 60 := by omega
        go_wp2_with fail
        refine (alive_any _).mono ?_
        rintro e wz ⟨rfl, hbz⟩
        go_wp2
        go_ret
        exact ⟨rfl, bt hb2 hbz⟩
    · have hklI : ¬ (k : Int) < (ops.length : Int) := by omega
      go_wp2_with fail
      refine (alive_any _).mono ?_
      rintro e wz ⟨rfl, hbz⟩
      go_wp2
      go_ret
      exact ⟨rfl, bt hb2 hbz⟩
end Go.Proofs.Ytgbcjimfpoeicaa
