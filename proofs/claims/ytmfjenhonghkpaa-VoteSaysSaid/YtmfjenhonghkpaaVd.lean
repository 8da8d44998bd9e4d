/- Layer 16: what the document says and tells. -/
import Derived.Test.YtmfjenhonghkpaaVc
namespace Go.Proofs.Ytmfjenhonghkpaa
open Go Go.RowKit
set_option linter.unusedVariables false
set_option linter.unusedSimpArgs false

set_option maxHeartbeats 1000000 in
theorem refsays_no (v : Int) (A : Option Addr) (k : Fo) (m c : Nat) (hm : Hid (m = k.len)) (w : World) (ht : TreeAt w A k) (h : rightB v k = false) : Calls Try.prog 12 #[.agg #[.int .i64 v, .slice A m c]] w fun e w' => e = .returned (.tuple #[.int .i64 0, .int .i64 1]) ∧ Below w.heap.size w w' := by
  have hbw := ba w (.cells #[.int .i64 v, .slice A m c] 28)
  have k1 := Blk.new w 28 #[.int .i64 v, .slice A m c]
  have c0 := k1.cell 0
  have c1 := k1.cell 1
  simp only [List.getElem?_toArray, List.getElem?_cons_zero, List.getElem?_cons_succ] at c0 c1
  have hr := refright_any v A k m c hm _ (ht.bt hbw)
  rw [h] at hr
  have HR := Lib.hid hr
  clear ht h hr k1
  go_enter Try.func12, Try.ntmps12
  go_wp2_with fail
  refine HR.out.mono ?_
  rintro e w1 ⟨rfl, b1⟩
  go_wp2
  go_returns
  exact ⟨rfl, bt hbw b1⟩
set_option maxHeartbeats 1000000 in
theorem refsays_ok (v : Int) (A : Option Addr) (k : Fo) (m c : Nat) (hm : Hid (m = k.len)) (w : World) (ht : TreeAt w A k) (h : rightB v k = true) : Calls Try.prog 12 #[.agg #[.int .i64 v, .slice A m c]] w fun e w' => e = .returned (.tuple #[.int .i64 (says3L (v :: votesF k)), .int .i64 0]) ∧ Below w.heap.size w w' := by
  have hbw := ba w (.cells #[.int .i64 v, .slice A m c] 28)
  have k1 := Blk.new w 28 #[.int .i64 v, .slice A m c]
  have c0 := k1.cell 0
  have c1 := k1.cell 1
  simp only [List.getElem?_toArray, List.getElem?_cons_zero, List.getElem?_cons_succ] at c0 c1
  have ht1 := ht.bt hbw
  have hr := refright_any v A k m c hm _ ht1
  rw [h] at hr
  have HR := Lib.hid hr
  have HT := Lib.hid (And.intro ht1 (And.intro k1 ((right_iff v k).1 h).2.2.2))
  clear ht h hr k1 ht1
  go_enter Try.func12, Try.ntmps12
  go_wp2_with fail
  refine HR.out.mono ?_
  rintro e w1 ⟨rfl, b1⟩
  clear c0 c1
  have c0 := (HT.out.2.1.below b1 HT.out.2.1.lt).cell 0
  have c1 := (HT.out.2.1.below b1 HT.out.2.1.lt).cell 1
  simp only [List.getElem?_toArray, List.getElem?_cons_zero, List.getElem?_cons_succ] at c0 c1
  have HV := Lib.hid (votes_any k v A m c hm w1 (HT.out.1.bt b1) (by have := HT.out.2.2; omega))
  obtain ⟨z, hz⟩ : ∃ z, z = k.cnt + 1 := ⟨_, rfl⟩
  have hz6 : z ≤ 1000000 := by have := HT.out.2.2; omega
  rw [← hz] at HV
  have HZ := Lib.hid (show z = (v :: votesF k).length by rw [List.length_cons, votesF_len]; exact hz)
  clear hz
  go_wp2_with fail
  refine HV.out.mono ?_
  rintro e w2 ⟨⟨A5, c5, rfl, own5⟩, b2⟩
  have H3 := Lib.hid (refsays3_any A5 (v :: votesF k) z c5 (Lib.hid HZ.out) hz6 w2 own5.nums)
  clear own5
  go_wp2_with fail
  refine H3.out.mono ?_
  rintro e w3 ⟨rfl, rfl⟩
  go_wp2
  go_returns
  exact ⟨rfl, bt hbw (bt b1 b2)⟩
set_option maxHeartbeats 1000000 in
theorem reftold_no (v : Int) (A : Option Addr) (k : Fo) (m c : Nat) (hm : Hid (m = k.len)) (w : World) (ht : TreeAt w A k) (h : rightB v k = false) : Calls Try.prog 15 #[.agg #[.int .i64 v, .slice A m c]] w fun e w' => e = .returned (.tuple #[.slice none 0 0, .int .i64 1]) ∧ Below w.heap.size w w' := by
  have hbw := ba w (.cells #[.int .i64 v, .slice A m c] 28)
  have k1 := Blk.new w 28 #[.int .i64 v, .slice A m c]
  have c0 := k1.cell 0
  have c1 := k1.cell 1
  simp only [List.getElem?_toArray, List.getElem?_cons_zero, List.getElem?_cons_succ] at c0 c1
  have hr := refright_any v A k m c hm _ (ht.bt hbw)
  rw [h] at hr
  have HR := Lib.hid hr
  clear ht h hr k1
  go_enter Try.func15, Try.ntmps15
  go_wp2_with fail
  refine HR.out.mono ?_
  rintro e w1 ⟨rfl, b1⟩
  go_wp2
  go_returns
  exact ⟨rfl, bt hbw b1⟩
set_option maxHeartbeats 1000000 in
theorem reftold_ok (v : Int) (A : Option Addr) (k : Fo) (m c : Nat) (hm : Hid (m = k.len)) (w : World) (ht : TreeAt w A k) (h : rightB v k = true) : Calls Try.prog 15 #[.agg #[.int .i64 v, .slice A m c]] w fun e w' => (∃ n A2 c2, e = .returned (.tuple #[.slice A2 n c2, .int .i64 0]) ∧ n = (tolF 1 k).length ∧ EndsAt w' w.heap.size A2 c2 (tolF 1 k)) ∧ Below w.heap.size w w' := by
  have hbw := ba w (.cells #[.int .i64 v, .slice A m c] 28)
  have k1 := Blk.new w 28 #[.int .i64 v, .slice A m c]
  have c0 := k1.cell 0
  have c1 := k1.cell 1
  simp only [List.getElem?_toArray, List.getElem?_cons_zero, List.getElem?_cons_succ] at c0 c1
  have ht1 := ht.bt hbw
  have hr := refright_any v A k m c hm _ ht1
  rw [h] at hr
  have HR := Lib.hid hr
  have HT := Lib.hid (And.intro ht1 (And.intro k1 ((right_iff v k).1 h).2.2.2))
  clear ht h hr k1 ht1
  go_enter Try.func15, Try.ntmps15
  go_wp2_with fail
  refine HR.out.mono ?_
  rintro e w1 ⟨rfl, b1⟩
  clear c0 c1
  have c0 := (HT.out.2.1.below b1 HT.out.2.1.lt).cell 0
  have c1 := (HT.out.2.1.below b1 HT.out.2.1.lt).cell 1
  simp only [List.getElem?_toArray, List.getElem?_cons_zero, List.getElem?_cons_succ] at c0 c1
  have HV := Lib.hid (reftold_any k v A m c 0 hm w1 (HT.out.1.bt b1) (by have := HT.out.2.2; omega))
  rw [show (((0 : Nat) : Int)) = 0 from rfl] at HV
  go_wp2_with fail
  refine HV.out.mono ?_
  rintro e w2 ⟨⟨n, A5, c5, rfl, hn, own5⟩, b2⟩
  have HE := Lib.hid (And.intro hn own5)
  clear hn own5
  go_wp2
  go_returns
  exact ⟨⟨n, A5, c5, rfl, HE.out.1, HE.out.2.less (by have := b1.size; have := hbw.size; omega)⟩, bt hbw (bt b1 b2)⟩
end Go.Proofs.Ytmfjenhonghkpaa
