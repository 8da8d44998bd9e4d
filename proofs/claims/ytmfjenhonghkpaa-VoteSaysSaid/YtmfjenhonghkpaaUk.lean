/- Layer 16: Says and Flows; the fixed calls. -/
import Derived.Test.YtmfjenhonghkpaaUh
import Derived.Test.YtmfjenhonghkpaaOpenU
namespace Go.Proofs.Ytmfjenhonghkpaa
open Go Go.RowKit
set_option linter.unusedVariables false
set_option linter.unusedSimpArgs false

def flowsM (v : Int) (k : Fo) : Nat := 2 * (kidsM v k).1 + 3 * (kidsM v k).2.length
set_option maxHeartbeats 1000000 in
theorem says_no (v : Int) (A : Option Addr) (k : Fo) (m c : Nat) (hm : Hid (m = k.len)) (w : World) (ht : TreeAt w A k) (h : rightB v k = false) : Calls Try.prog 11 #[.agg #[.int .i64 v, .slice A m c]] w fun e w' => e = .returned (.tuple #[.int .i64 0, .int .i64 1]) ∧ Below w.heap.size w w' := by
  have hbw := ba w (.cells #[.int .i64 v, .slice A m c] 24)
  have k1 := Blk.new w 24 #[.int .i64 v, .slice A m c]
  have c0 := k1.cell 0
  have c1 := k1.cell 1
  simp only [List.getElem?_toArray, List.getElem?_cons_zero, List.getElem?_cons_succ] at c0 c1
  have hr := right_any v A k c _ ht.len (ht.bt hbw).fo
  rw [h, ← hm.out] at hr
  have HR := Lib.hid hr
  clear ht h hr k1
  go_enter Try.func11, Try.ntmps11
  go_wp2_with fail
  refine HR.out.mono ?_
  rintro e w1 ⟨rfl, b1⟩
  go_wp2
  go_returns
  exact ⟨rfl, bt hbw b1⟩
set_option maxHeartbeats 1000000 in
theorem says_ok (v : Int) (A : Option Addr) (k : Fo) (m c : Nat) (hm : Hid (m = k.len)) (w : World) (ht : TreeAt w A k) (h : rightB v k = true) (s : Int) (hs : s = saysB v k) : Calls Try.prog 11 #[.agg #[.int .i64 v, .slice A m c]] w fun e w' => e = .returned (.tuple #[.int .i64 s, .int .i64 0]) ∧ Below w.heap.size w w' := by
  have hbw := ba w (.cells #[.int .i64 v, .slice A m c] 24)
  have k1 := Blk.new w 24 #[.int .i64 v, .slice A m c]
  have c0 := k1.cell 0
  have c1 := k1.cell 1
  simp only [List.getElem?_toArray, List.getElem?_cons_zero, List.getElem?_cons_succ] at c0 c1
  have ht1 := ht.bt hbw
  have hr := right_any v A k c _ ht.len ht1.fo
  rw [h, ← hm.out] at hr
  have HR := Lib.hid hr
  have HT := Lib.hid (And.intro ht1 (And.intro k1 (right_cnt h)))
  have HS := Lib.hid hs
  clear ht h hr k1 ht1 hs
  go_enter Try.func11, Try.ntmps11
  go_wp2_with fail
  refine HR.out.mono ?_
  rintro e w1 ⟨rfl, b1⟩
  clear c0 c1
  have c0 := (HT.out.2.1.below b1 HT.out.2.1.lt).cell 0
  have c1 := (HT.out.2.1.below b1 HT.out.2.1.lt).cell 1
  simp only [List.getElem?_toArray, List.getElem?_cons_zero, List.getElem?_cons_succ] at c0 c1
  have hsy := says_any v A k c w1 HT.out.1.len (HT.out.1.bt b1).fo (by rw [nodes_len]; have := HT.out.2.2; omega)
  rw [← hm.out, ← HS.out] at hsy
  have HY := Lib.hid hsy
  clear hsy
  go_wp2_with fail
  refine HY.out.mono ?_
  rintro e w2 ⟨rfl, b2⟩
  go_wp2
  go_returns
  exact ⟨rfl, bt hbw (bt b1 b2)⟩
set_option maxHeartbeats 1000000 in
theorem flows_no (v : Int) (A : Option Addr) (k : Fo) (m c : Nat) (hm : Hid (m = k.len)) (w : World) (ht : TreeAt w A k) (h : rightB v k = false) : Calls Try.prog 16 #[.agg #[.int .i64 v, .slice A m c]] w fun e w' => e = .returned (.tuple #[.int .i64 0, .int .i64 1]) ∧ Below w.heap.size w w' := by
  have hbw := ba w (.cells #[.int .i64 v, .slice A m c] 24)
  have k1 := Blk.new w 24 #[.int .i64 v, .slice A m c]
  have c0 := k1.cell 0
  have c1 := k1.cell 1
  simp only [List.getElem?_toArray, List.getElem?_cons_zero, List.getElem?_cons_succ] at c0 c1
  have hr := right_any v A k c _ ht.len (ht.bt hbw).fo
  rw [h, ← hm.out] at hr
  have HR := Lib.hid hr
  clear ht h hr k1
  go_enter Try.func16, Try.ntmps16
  go_wp2_with fail
  refine HR.out.mono ?_
  rintro e w1 ⟨rfl, b1⟩
  go_wp2
  go_returns
  exact ⟨rfl, bt hbw b1⟩
set_option maxHeartbeats 1000000 in
theorem flows_ok (v : Int) (A : Option Addr) (k : Fo) (m c : Nat) (hm : Hid (m = k.len)) (w : World) (ht : TreeAt w A k) (h : rightB v k = true) : Calls Try.prog 16 #[.agg #[.int .i64 v, .slice A m c]] w fun e w' => e = .returned (.tuple #[.int .i64 ((flowsM v k : Nat) : Int), .int .i64 0]) ∧ Below w.heap.size w w' := by
  have hbw := ba w (.cells #[.int .i64 v, .slice A m c] 24)
  have k1 := Blk.new w 24 #[.int .i64 v, .slice A m c]
  have c0 := k1.cell 0
  have c1 := k1.cell 1
  simp only [List.getElem?_toArray, List.getElem?_cons_zero, List.getElem?_cons_succ] at c0 c1
  have ht1 := ht.bt hbw
  have hr := right_any v A k c _ ht.len ht1.fo
  rw [h, ← hm.out] at hr
  have HR := Lib.hid hr
  have HT := Lib.hid (And.intro ht1 (And.intro k1 (right_cnt h)))
  obtain ⟨q, hq⟩ : ∃ q, q = (kidsM v k).2.length := ⟨_, rfl⟩
  obtain ⟨al, hal⟩ : ∃ al, al = (kidsM v k).1 := ⟨_, rfl⟩
  have hle := kfold_le (nodesL 1 (.cons v k .nil))
  rw [nodes_len] at hle
  have hrc := right_cnt h
  have hq64 : q ≤ 64 ∧ al ≤ 64 := by rw [hq, hal]; unfold kidsM; omega
  have hfl : flowsM v k = 2 * al + 3 * q := by rw [hq, hal]; rfl
  rw [hfl]
  have w1 : IntKind.i64.wrap (2 * (al : Int)) = 2 * (al : Int) := IntWalk.i64_in _ (by omega)
  have w2 : IntKind.i64.wrap (3 * (q : Int)) = 3 * (q : Int) := IntWalk.i64_in _ (by omega)
  have w3 : IntKind.i64.wrap (2 * (al : Int) + 3 * (q : Int)) = 2 * (al : Int) + 3 * (q : Int) := IntWalk.i64_in _ (by omega)
  have HQ := Lib.hid hq
  have HAL := Lib.hid hal
  clear ht h hr k1 ht1 hq hal hle hrc hq64 hfl
  go_enter Try.func16, Try.ntmps16
  go_wp2_with fail
  refine HR.out.mono ?_
  rintro e w1 ⟨rfl, b1⟩
  clear c0 c1
  have c0 := (HT.out.2.1.below b1 HT.out.2.1.lt).cell 0
  have c1 := (HT.out.2.1.below b1 HT.out.2.1.lt).cell 1
  simp only [List.getElem?_toArray, List.getElem?_cons_zero, List.getElem?_cons_succ] at c0 c1
  have hsy := kids_any v A k c w1 HT.out.1.len (HT.out.1.bt b1).fo (by rw [nodes_len]; have := HT.out.2.2; omega)
  rw [← hm.out, ← HQ.out, ← HAL.out] at hsy
  have HY := Lib.hid hsy
  clear hsy
  go_wp2_with fail
  refine HY.out.mono ?_
  rintro e w2 ⟨⟨A2, c2, rfl, hE⟩, b2⟩
  have HE := Lib.hid (And.intro hE b2)
  clear hE b2
  go_wp2
  go_returns
  exact ⟨by simp [Int.natCast_add, Int.natCast_mul], bt hbw (bt b1 HE.out.2)⟩
end Go.Proofs.Ytmfjenhonghkpaa
