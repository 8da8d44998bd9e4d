/- Layer 16: the document's Right. -/
import Derived.Test.YtmfjenhonghkpaaVa
namespace Go.Proofs.Ytmfjenhonghkpaa
open Go Go.RowKit
set_option linter.unusedVariables false
set_option linter.unusedSimpArgs false

set_option maxRecDepth 100000 in
set_option maxHeartbeats 2000000 in
theorem refright_any (v : Int) (A : Option Addr) (k : Fo) (m c : Nat) (hm : Hid (m = k.len)) (w : World) (ht : TreeAt w A k) : Calls Try.prog 20 #[.agg #[.int .i64 v, .slice A m c]] w fun e w' => e = .returned (.bool (rightB v k)) ∧ Below w.heap.size w w' := by
  obtain ⟨W1, hW1⟩ : ∃ W1, W1 = w.alloc (.cells #[.int .i64 v, .slice A m c] 28) := ⟨_, rfl⟩
  have k1 : Blk W1 w.heap.size 28 #[.int .i64 v, .slice A m c] := by rw [hW1]; exact Blk.new _ _ _
  have b1 : Below w.heap.size w W1 := by rw [hW1]; exact ba _ _
  have H1 := Lib.hid (rcount_any k v A m c 64 hm W1 (ht.bt b1) (by omega))
  have c0 := k1.cell 0
  have c1 := k1.cell 1
  simp only [List.getElem?_toArray, List.getElem?_cons_zero, List.getElem?_cons_succ] at c0 c1
  have HT := Lib.hid (ht.bt b1)
  have HK := Lib.hid (And.intro k1 b1)
  rw [hW1] at c0 c1
  have HW1 := Lib.hid hW1
  clear ht hW1 k1 b1
  have HR := Lib.hid (right_doc v k)
  have HS := Lib.hid (@right_small v k)
  obtain ⟨qq, dd, hqd⟩ : ∃ qq dd, cntM 64 1 1 k = (qq, dd) := ⟨_, _, rfl⟩
  rw [hqd] at H1 HR HS
  dsimp only at H1 HR HS
  rw [show (((64 : Nat) : Int)) = 64 from rfl] at H1
  clear hqd
  go_enter Try.func20, Try.ntmps20
  go_wp2_with fail
  rw [← HW1.out]
  refine H1.out.mono ?_
  rintro e w1 ⟨rfl, b1⟩
  have k2 := HK.out.1.below b1 HK.out.1.lt
  have HB := Lib.hid (HK.out.2.trans (b1.mono HK.out.2.size))
  have HT1 := Lib.hid (HT.out.bt b1)
  clear b1 H1 c0 c1
  have c0 := k2.cell 0
  have c1 := k2.cell 1
  simp only [List.getElem?_toArray, List.getElem?_cons_zero, List.getElem?_cons_succ] at c0 c1
  clear k2
  by_cases hq : 64 < qq
  · have hf : rightB v k = false := by
      rcases h : rightB v k with _ | _
      · rfl
      · have := (HR.out.1 h).1.1; omega
    have HF := Lib.hid hf
    have hqI : decide (64 < qq) = true := by simp; omega
    have hqJ : (64 : Int) < (qq : Int) := by omega
    clear hf
    go_wp2
    go_ret
    exact ⟨by rw [HF.out]; rfl, HB.out⟩
  have hqI : decide (64 < qq) = false := by simp; omega
  have hqJ : ¬ (64 : Int) < (qq : Int) := by omega
  by_cases hd : 8 < dd
  · have hf : rightB v k = false := by
      rcases h : rightB v k with _ | _
      · rfl
      · have := (HR.out.1 h).1.2; omega
    have HF := Lib.hid hf
    have hdI : decide (8 < dd) = true := by simp; omega
    have hdJ : (8 : Int) < (dd : Int) := by omega
    clear hf
    go_wp2
    go_ret
    exact ⟨by rw [HF.out]; rfl, HB.out⟩
  have hdI : decide (8 < dd) = false := by simp; omega
  have hdJ : ¬ (8 : Int) < (dd : Int) := by omega
  have hsm := HS.out (by omega)
  have hvk : (v :: votesF k).length = k.cnt + 1 := by rw [List.length_cons, votesF_len]
  have HV := Lib.hid (votes_any k v A m c hm w1 HT1.out (by omega))
  obtain ⟨n, hn⟩ : ∃ n, n = k.cnt + 1 := ⟨_, rfl⟩
  rw [← hn] at HV hvk hsm
  have HN := Lib.hid hn
  clear hn
  go_wp2_with fail
  refine HV.out.mono ?_
  rintro e w2 ⟨⟨A5, c5, rfl, own5⟩, b2⟩
  have HN5 := Lib.hid own5.nums
  have HB2 := Lib.hid (HB.out.trans (b2.mono HB.out.size))
  clear own5 b2 c0 c1
  obtain ⟨zs, hzs⟩ : ∃ zs, zs = v :: votesF k := ⟨_, rfl⟩
  rw [← hzs] at HN5 HR hvk
  clear hzs
  have hR : rightB v k = true ↔ ∀ z ∈ zs, voteB z = true := by rw [HR.out]; constructor; exact fun h => h.2; exact fun h => ⟨⟨by omega, by omega⟩, h⟩
  have HR := Lib.hid hR
  clear hR
  go_wp2_with fail
  go_loopw [6] (fun i wr => ∃ (i0 : Nat), i0 ≤ n ∧ i = .int .i64 i0 ∧ Hid (∀ z ∈ zs.take i0, voteB z = true) ∧ wr = w2) (fun i _ => n - (intOf i).toNat)
  case atStart => exact ⟨0, Nat.zero_le _, rfl, Lib.hid (by simp), rfl⟩
  case round =>
    obtain ⟨i0, him, rfl, hall, rfl⟩ := hrel
    by_cases hi0 : i0 < n
    · have hiI : (i0 : Int) < (n : Int) := by omega
      have hiz : i0 < zs.length := by omega
      obtain ⟨b, o, rfl, hcell⟩ := HN5.out (by omega)
      have cc := hcell i0 hiz
      have htk := take_snoc zs i0 hiz
      obtain ⟨z, hz⟩ : ∃ z, z = zs[i0]'hiz := ⟨_, rfl⟩
      rw [← hz] at cc htk
      have HT := Lib.hid htk
      have HZ := Lib.hid (show z ∈ zs by rw [hz]; exact List.getElem_mem hiz)
      have hvl := Lib.hid hvk
      clear hcell htk hz hiz hvk
      by_cases h1 : z < 1
      · have hf : Hid (rightB v k = false) := Lib.hid (by
          rcases h : rightB v k with _ | _
          · rfl
          · have := HR.out.1 h z HZ.out
            simp only [voteB, Bool.or_eq_true, beq_iff_eq] at this
            omega)
        go_wp2
        go_ret
        exact ⟨by rw [hf.out]; rfl, HB2.out⟩
      by_cases h3 : 3 < z
      · have hf : Hid (rightB v k = false) := Lib.hid (by
          rcases h : rightB v k with _ | _
          · rfl
          · have := HR.out.1 h z HZ.out
            simp only [voteB, Bool.or_eq_true, beq_iff_eq] at this
            omega)
        go_wp2
        go_ret
        exact ⟨by rw [hf.out]; rfl, HB2.out⟩
      · have ha2 : Hid (∀ y ∈ zs.take (i0 + 1), voteB y = true) := Lib.hid (by
          intro y hy
          rw [HT.out, List.mem_append, List.mem_singleton] at hy
          rcases hy with hy | rfl
          · exact hall.out y hy
          · simp only [voteB, Bool.or_eq_true, beq_iff_eq]; omega)
        go_wp2
        go_roundw
        case rel => exact ⟨i0 + 1, by omega, by go_num, ha2, trivial⟩
        case measure => simp [intOf]; omega
    · obtain rfl : i0 = n := by omega
      have hiI : ¬ (i0 : Int) < (i0 : Int) := by omega
      have hf : Hid (rightB v k = true) := Lib.hid (HR.out.2 fun z hz => hall.out z (by rw [List.take_of_length_le (by omega)]; exact hz))
      go_wp2
      go_ret
      exact ⟨by rw [hf.out]; rfl, HB2.out⟩
end Go.Proofs.Ytmfjenhonghkpaa
