/- Layer 16: the laws' own walks of a tree. -/
import Derived.Test.YtmfjenhonghkpaaUl
import Derived.Test.YtmfjenhonghkpaaUk
namespace Go.Proofs.Ytmfjenhonghkpaa
open Go Go.RowKit
set_option linter.unusedVariables false
set_option linter.unusedSimpArgs false

def NoOk (k : Fo) : Prop := ∀ (v : Int) (A : Option Addr) (m c : Nat) (hm : Hid (m = k.len)) (w : World) (ht : TreeAt w A k), Calls Try.prog 23 #[.agg #[.int .i64 v, .slice A m c]] w fun e w' => e = .returned (.bool (v == 3 || noF k)) ∧ Below w.heap.size w w'
def AllNo : Fo → Prop
  | .nil => True
  | .cons _ k r => NoOk k ∧ AllNo r
set_option maxRecDepth 100000 in
set_option maxHeartbeats 2000000 in
theorem no_tree (k : Fo) (hall : AllNo k) : NoOk k := by
  intro v A m c hm w ht
  obtain ⟨b0, o0, hA0⟩ : ∃ b0 o0, Hid (0 < k.len → A = some ⟨b0, o0, none⟩) := by
    have h := ht.fo
    cases k with
    | nil => exact ⟨0, 0, Lib.hid (fun h => by simp [Fo.len] at h)⟩
    | cons v0 k0 r0 =>
      obtain ⟨b, o, _, _, e, _⟩ := h
      exact ⟨b, o, Lib.hid (fun _ => e)⟩
  obtain ⟨W1, hW1⟩ : ∃ W1, W1 = w.alloc (.cells #[.int .i64 v, .slice A m c] 24) := ⟨_, rfl⟩
  have k1 : Blk W1 w.heap.size 24 #[.int .i64 v, .slice A m c] := by rw [hW1]; exact Blk.new _ _ _
  have b1 : Below w.heap.size w W1 := by rw [hW1]; exact ba _ _
  have c0 := k1.cell 0
  have c1 := k1.cell 1
  simp only [List.getElem?_toArray, List.getElem?_cons_zero, List.getElem?_cons_succ] at c0 c1
  have HW1 := Lib.hid hW1
  have HK := Lib.hid (And.intro k1 (And.intro b1 (And.intro ht.len (And.intro hall (ht.fo.below b1)))))
  rw [hW1] at c0 c1
  clear hW1 k1 b1 ht hall
  rcases h3 : (v == 3) with _ | _
  case true =>
    go_enter Try.func23, Try.ntmps23
    go_wp2
    go_ret
    exact ⟨rfl, by rw [← HW1.out]; exact HK.out.2.1⟩
  go_enter Try.func23, Try.ntmps23
  go_wp2_with fail
  rw [← HW1.out]
  clear c0 c1
  go_loopw [3] (fun i wr => ∃ (i0 : Nat) (r : Fo), i0 + r.len = m ∧ i = .int .i64 i0 ∧ Hid (Blk wr w.heap.size 24 #[.int .i64 v, .slice A m c] ∧ Below w.heap.size w wr ∧ FoAt wr w.heap.size r (some ⟨b0, o0 + i0 * 2, none⟩) ∧ AllNo r ∧ noF k = noF r)) (fun i _ => m - (intOf i).toNat)
  case atStart =>
    refine ⟨0, k, by rw [hm.out]; omega, rfl, Lib.hid ⟨HK.out.1, HK.out.2.1, ?_, HK.out.2.2.2.1, rfl⟩⟩
    have h := HK.out.2.2.2.2
    cases k with
    | nil => trivial
    | cons v0 k0 r0 => rw [hA0.out (by simp [Fo.len])] at h; simpa using h
  case round =>
    obtain ⟨i0, r, hir, rfl, HR⟩ := hrel
    have c1 := HR.out.1.cell 1
    simp only [List.getElem?_toArray, List.getElem?_cons_zero, List.getElem?_cons_succ] at c1
    have hmm : m ≤ 9223372036854775807 := by rw [hm.out]; have := HK.out.2.2.1; unfold maxLen at this; omega
    have Hmm := Lib.hid hmm
    clear hmm
    cases r with
    | nil =>
      simp only [Fo.len, Nat.add_zero] at hir
      subst hir
      have hiI : ¬ (i0 : Int) < (i0 : Int) := by omega
      go_wp2
      go_ret
      exact ⟨(by rw [HR.out.2.2.2.2]; rfl), HR.out.2.1⟩
    | cons v2 k2 r2 =>
      obtain ⟨_, _, hfr, har, hno⟩ := HR.out
      obtain ⟨b, o, A2, c2, hAe, hbB, q0, q1, hk2m, hf2, hfr2⟩ := hfr
      obtain ⟨rfl, rfl⟩ : b0 = b ∧ o0 + i0 * 2 = o := by cases hAe; exact ⟨rfl, rfl⟩
      obtain rfl : A = some ⟨b0, o0, none⟩ := hA0.out (by rw [← hm.out]; simp only [Fo.len] at hir; omega)
      obtain ⟨m2, hm2⟩ : ∃ m2, m2 = k2.len := ⟨_, rfl⟩
      rw [← hm2] at q1
      have him : i0 < m := by simp only [Fo.len] at hir; omega
      have hiI : (i0 : Int) < (m : Int) := by omega
      have hcall := har.1 v2 A2 m2 c2 (Lib.hid hm2) wr ⟨hk2m, FoAt.more (by have := HR.out.2.1.size; omega) _ _ hf2⟩
      have HC := Lib.hid hcall
      have hir2 : i0 + 1 + r2.len = m := by simp only [Fo.len] at hir; omega
      have HS := Lib.hid (And.intro har.2 (And.intro hfr2 (And.intro hir2 hno)))
      clear hcall hAe hbB hf2 hfr2 har hk2m hm2 hir hir2
      rcases hvb : (v2 == 3 || noF k2) with _ | _
      · rw [hvb] at HC
        go_wp2_with fail
        refine HC.out.mono ?_
        rintro e w2 ⟨rfl, bw⟩
        have hnn : noF k = noF r2 := by rw [HS.out.2.2.2]; simp only [Bool.or_eq_false_iff] at hvb; simp only [noF, votesF, List.any_cons, List.any_append]; rw [hvb.1]; have := hvb.2; unfold noF at this; rw [this]; rfl
        have HNN := Lib.hid hnn
        clear hnn
        have hmI : ((i0 : Int) + 1) ≤ 9223372036854775807 := by have := Hmm.out; omega
        have hb2 := HR.out.2.1.trans (bw.mono HR.out.2.1.size)
        have kb2 := HR.out.1.below bw HR.out.1.lt
        have hfr3 := HS.out.2.1.below (bw.mono HR.out.2.1.size)
        have hi2 : o0 + (i0 + 1) * 2 = o0 + i0 * 2 + 2 := by omega
        have HX := Lib.hid (And.intro kb2 (And.intro hb2 hfr3))
        clear bw hb2 kb2 hfr3
        go_wp2
        go_roundw
        case rel => exact ⟨i0 + 1, r2, HS.out.2.2.1, by go_num, Lib.hid ⟨HX.out.1, HX.out.2.1, by rw [hi2]; exact HX.out.2.2, HS.out.1, HNN.out⟩⟩
        case measure => simp [intOf]; omega
      · rw [hvb] at HC
        go_wp2_with fail
        refine HC.out.mono ?_
        rintro e w2 ⟨rfl, bw⟩
        have hnn : noF k = true := by rw [HS.out.2.2.2]; simp only [noF, votesF, List.any_cons, List.any_append]; unfold noF at hvb; rw [← Bool.or_assoc, hvb]; rfl
        have HNN := Lib.hid hnn
        have HX := Lib.hid (HR.out.2.1.trans (bw.mono HR.out.2.1.size))
        clear hnn bw
        go_wp2
        go_ret
        exact ⟨by rw [HNN.out]; rfl, HX.out⟩
theorem no_all : ∀ k : Fo, AllNo k
  | .nil => trivial
  | .cons v k r => ⟨no_tree k (no_all k), no_all r⟩
theorem no_any (k : Fo) : NoOk k := no_tree k (no_all k)

def CntOk (k : Fo) : Prop := ∀ (v : Int) (A : Option Addr) (m c : Nat) (hm : Hid (m = k.len)) (w : World) (ht : TreeAt w A k) (hbd : k.cnt + 1 ≤ 1000000), Calls Try.prog 24 #[.agg #[.int .i64 v, .slice A m c]] w fun e w' => e = .returned (.int .i64 ((k.cnt + 1 : Nat) : Int)) ∧ Below w.heap.size w w'
def AllCnt : Fo → Prop
  | .nil => True
  | .cons _ k r => CntOk k ∧ AllCnt r
set_option maxRecDepth 100000 in
set_option maxHeartbeats 2000000 in
theorem count_tree (k : Fo) (hall : AllCnt k) : CntOk k := by
  intro v A m c hm w ht hbd
  obtain ⟨b0, o0, hA0⟩ : ∃ b0 o0, Hid (0 < k.len → A = some ⟨b0, o0, none⟩) := by
    have h := ht.fo
    cases k with
    | nil => exact ⟨0, 0, Lib.hid (fun h => by simp [Fo.len] at h)⟩
    | cons v0 k0 r0 =>
      obtain ⟨b, o, _, _, e, _⟩ := h
      exact ⟨b, o, Lib.hid (fun _ => e)⟩
  obtain ⟨W1, hW1⟩ : ∃ W1, W1 = w.alloc (.cells #[.int .i64 v, .slice A m c] 24) := ⟨_, rfl⟩
  have k1 : Blk W1 w.heap.size 24 #[.int .i64 v, .slice A m c] := by rw [hW1]; exact Blk.new _ _ _
  have b1 : Below w.heap.size w W1 := by rw [hW1]; exact ba _ _
  have c0 := k1.cell 0
  have c1 := k1.cell 1
  simp only [List.getElem?_toArray, List.getElem?_cons_zero, List.getElem?_cons_succ] at c0 c1
  have HW1 := Lib.hid hW1
  have HK := Lib.hid (And.intro k1 (And.intro b1 (And.intro ht.len (And.intro hall (ht.fo.below b1)))))
  rw [hW1] at c0 c1
  clear hW1 k1 b1 ht hall
  have Hbd := Lib.hid hbd
  clear hbd
  go_enter Try.func24, Try.ntmps24
  go_wp2_with fail
  rw [← HW1.out]
  clear c0 c1
  go_loopw [3, 4] (fun s i wr => ∃ (i0 q : Nat) (r : Fo), i0 + r.len = m ∧ i = .int .i64 i0 ∧ s = .int .i64 q ∧ Hid (Blk wr w.heap.size 24 #[.int .i64 v, .slice A m c] ∧ Below w.heap.size w wr ∧ FoAt wr w.heap.size r (some ⟨b0, o0 + i0 * 2, none⟩) ∧ AllCnt r ∧ q + r.cnt = k.cnt + 1)) (fun s i _ => m - (intOf i).toNat)
  case atStart =>
    refine ⟨0, 1, k, by rw [hm.out]; omega, rfl, rfl, Lib.hid ⟨HK.out.1, HK.out.2.1, ?_, HK.out.2.2.2.1, by omega⟩⟩
    have h := HK.out.2.2.2.2
    cases k with
    | nil => trivial
    | cons v0 k0 r0 => rw [hA0.out (by simp [Fo.len])] at h; simpa using h
  case round =>
    obtain ⟨i0, q, r, hir, rfl, rfl, HR⟩ := hrel
    have c1 := HR.out.1.cell 1
    simp only [List.getElem?_toArray, List.getElem?_cons_zero, List.getElem?_cons_succ] at c1
    have hmm : m ≤ 9223372036854775807 := by rw [hm.out]; have := HK.out.2.2.1; unfold maxLen at this; omega
    have Hmm := Lib.hid hmm
    clear hmm
    cases r with
    | nil =>
      simp only [Fo.len, Nat.add_zero] at hir
      subst hir
      have hiI : ¬ (i0 : Int) < (i0 : Int) := by omega
      go_wp2
      go_ret
      exact ⟨(by have h := HR.out.2.2.2.2; simp only [Fo.cnt, Nat.add_zero] at h; have h2 : (q : Int) = (k.cnt : Int) + 1 := (by omega); first | (rw [← h2]; rfl) | (rw [← h]; rfl)), HR.out.2.1⟩
    | cons v2 k2 r2 =>
      obtain ⟨_, _, hfr, har, hq⟩ := HR.out
      obtain ⟨b, o, A2, c2, hAe, hbB, q0, q1, hk2m, hf2, hfr2⟩ := hfr
      obtain ⟨rfl, rfl⟩ : b0 = b ∧ o0 + i0 * 2 = o := by cases hAe; exact ⟨rfl, rfl⟩
      obtain rfl : A = some ⟨b0, o0, none⟩ := hA0.out (by rw [← hm.out]; simp only [Fo.len] at hir; omega)
      obtain ⟨m2, hm2⟩ : ∃ m2, m2 = k2.len := ⟨_, rfl⟩
      rw [← hm2] at q1
      have him : i0 < m := by simp only [Fo.len] at hir; omega
      have hiI : (i0 : Int) < (m : Int) := by omega
      have hcall := har.1 v2 A2 m2 c2 (Lib.hid hm2) wr ⟨hk2m, FoAt.more (by have := HR.out.2.1.size; omega) _ _ hf2⟩ (by have := Hbd.out; simp only [Fo.cnt] at hq; omega)
      have HC := Lib.hid hcall
      have hir2 : i0 + 1 + r2.len = m := by simp only [Fo.len] at hir; omega
      have HS := Lib.hid (And.intro har.2 (And.intro hfr2 (And.intro hir2 hq)))
      clear hcall hAe hbB hf2 hfr2 har hk2m hm2 hir hir2
      have hqb : q + (k2.cnt + 1) ≤ 1000000 := by have h := HS.out.2.2.2; have := Hbd.out; simp only [Fo.cnt] at h; omega
      have hwq : IntKind.i64.wrap ((q : Int) + ((k2.cnt + 1 : Nat) : Int)) = ((q + (k2.cnt + 1) : Nat) : Int) := by rw [IntWalk.i64_in _ (by omega)]; omega
      obtain ⟨z, hz⟩ : ∃ z, z = k2.cnt + 1 := ⟨_, rfl⟩
      rw [← hz] at HC hwq
      have HZ := Lib.hid hz
      clear hqb hz
      go_wp2_with fail
      refine HC.out.mono ?_
      rintro e w2 ⟨rfl, bw⟩
      have hmI : ((i0 : Int) + 1) ≤ 9223372036854775807 := by have := Hmm.out; omega
      have hb2 := HR.out.2.1.trans (bw.mono HR.out.2.1.size)
      have kb2 := HR.out.1.below bw HR.out.1.lt
      have hfr3 := HS.out.2.1.below (bw.mono HR.out.2.1.size)
      have hi2 : o0 + (i0 + 1) * 2 = o0 + i0 * 2 + 2 := by omega
      have HX := Lib.hid (And.intro kb2 (And.intro hb2 hfr3))
      clear bw hb2 kb2 hfr3
      go_wp2
      go_roundw
      case rel => exact ⟨i0 + 1, q + z, r2, HS.out.2.2.1, by go_num, by first | rfl | (rw [hwq]) | simp, Lib.hid ⟨HX.out.1, HX.out.2.1, by rw [hi2]; exact HX.out.2.2, HS.out.1, by have h := HS.out.2.2.2; simp only [Fo.cnt] at h; rw [HZ.out]; omega⟩⟩
      case measure => simp [intOf]; omega
theorem count_all : ∀ k : Fo, AllCnt k
  | .nil => trivial
  | .cons v k r => ⟨count_tree k (count_all k), count_all r⟩
theorem count_any (k : Fo) : CntOk k := count_tree k (count_all k)

end Go.Proofs.Ytmfjenhonghkpaa
