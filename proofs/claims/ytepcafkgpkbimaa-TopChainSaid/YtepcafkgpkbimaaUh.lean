/- Layer 16: Told. -/
import Derived.Test.YtepcafkgpkbimaaUg
namespace Go.Proofs.Ytepcafkgpkbimaa
open Go Go.RowKit Go.Shelf
set_option linter.unusedVariables false
set_option linter.unusedSimpArgs false

set_option maxHeartbeats 1000000 in
theorem told_no (v : Int) (A : Option Addr) (k : Fo) (m c : Nat) (hm : Hid (m = k.len)) (w : World) (ht : TreeAt w A k) (h : rightB v k = false) : Calls Try.prog 6 #[.agg #[.int .i64 v, .slice A m c]] w fun e w' => e = .returned (.tuple #[.slice none 0 0, .int .i64 1]) ∧ Below w.heap.size w w' := by
  have hbw := ba w (.cells #[.int .i64 v, .slice A m c] 24)
  have k1 := Blk.new w 24 #[.int .i64 v, .slice A m c]
  have c0 := k1.cell 0
  have c1 := k1.cell 1
  simp only [List.getElem?_toArray, List.getElem?_cons_zero, List.getElem?_cons_succ] at c0 c1
  have hr := right_any v A k c _ ht.len (ht.bt hbw).fo
  rw [h, ← hm.out] at hr
  have HR := Lib.hid hr
  clear ht h hr k1
  go_enter Try.func6, Try.ntmps6
  go_wp2_with fail
  refine HR.out.mono ?_
  rintro e w1 ⟨rfl, b1⟩
  go_wp2
  go_returns
  exact ⟨rfl, bt hbw b1⟩
set_option maxHeartbeats 1000000 in
theorem told_ok (v : Int) (A : Option Addr) (k : Fo) (m c : Nat) (hm : Hid (m = k.len)) (w : World) (ht : TreeAt w A k) (h : rightB v k = true) : Calls Try.prog 6 #[.agg #[.int .i64 v, .slice A m c]] w fun e w' => (∃ A2 c2, e = .returned (.tuple #[.slice A2 (kidsM v k).2.length c2, .int .i64 0]) ∧ EndsAt w' w.heap.size A2 c2 (kidsM v k).2) ∧ Below w.heap.size w w' := by
  have hbw := ba w (.cells #[.int .i64 v, .slice A m c] 24)
  have k1 := Blk.new w 24 #[.int .i64 v, .slice A m c]
  have c0 := k1.cell 0
  have c1 := k1.cell 1
  simp only [List.getElem?_toArray, List.getElem?_cons_zero, List.getElem?_cons_succ] at c0 c1
  have ht1 := ht.bt hbw
  have hr := right_any v A k c _ ht.len ht1.fo
  rw [h, ← hm.out] at hr
  have HR := Lib.hid hr
  have HT := Lib.hid (And.intro ht1 (And.intro k1 (right_cnt h)))
  obtain ⟨q, hq⟩ : ∃ q, q = (kidsM v k).2.length := ⟨_, rfl⟩
  rw [← hq]
  have HQ := Lib.hid hq
  clear ht h hr k1 ht1 hq
  go_enter Try.func6, Try.ntmps6
  go_wp2_with fail
  refine HR.out.mono ?_
  rintro e w1 ⟨rfl, b1⟩
  clear c0 c1
  have c0 := (HT.out.2.1.below b1 HT.out.2.1.lt).cell 0
  have c1 := (HT.out.2.1.below b1 HT.out.2.1.lt).cell 1
  simp only [List.getElem?_toArray, List.getElem?_cons_zero, List.getElem?_cons_succ] at c0 c1
  have hsy := kids_any v A k c w1 HT.out.1.len (HT.out.1.bt b1).fo (by rw [nodes_len]; have := HT.out.2.2; omega)
  rw [← hm.out, ← HQ.out] at hsy
  have HY := Lib.hid hsy
  clear hsy
  go_wp2_with fail
  refine HY.out.mono ?_
  rintro e w2 ⟨⟨A2, c2, rfl, hE⟩, b2⟩
  have HE := Lib.hid (And.intro hE b2)
  clear hE b2
  go_wp2
  go_returns
  exact ⟨⟨A2, c2, rfl, HE.out.1.less (by have := b1.size; have := hbw.size; omega)⟩, bt hbw (bt b1 HE.out.2)⟩
end Go.Proofs.Ytepcafkgpkbimaa
