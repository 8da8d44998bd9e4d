/- Layer 16: the document's flows. -/
import Derived.Test.YtmfjenhonghkpaaVe
namespace Go.Proofs.Ytmfjenhonghkpaa
open Go Go.RowKit
set_option linter.unusedVariables false
set_option linter.unusedSimpArgs false

set_option maxHeartbeats 1000000 in
theorem refflows_no (v : Int) (A : Option Addr) (k : Fo) (m c : Nat) (hm : Hid (m = k.len)) (w : World) (ht : TreeAt w A k) (h : rightB v k = false) : Calls Try.prog 17 #[.agg #[.int .i64 v, .slice A m c]] w fun e w' => e = .returned (.tuple #[.int .i64 0, .int .i64 1]) ∧ Below w.heap.size w w' := by
  have hbw := ba w (.cells #[.int .i64 v, .slice A m c] 28)
  have k1 := Blk.new w 28 #[.int .i64 v, .slice A m c]
  have c0 := k1.cell 0
  have c1 := k1.cell 1
  simp only [List.getElem?_toArray, List.getElem?_cons_zero, List.getElem?_cons_succ] at c0 c1
  have ht1 := ht.bt hbw
  have HR := Lib.hid (reftold_no v A k m c hm _ ht1 h)
  clear ht h k1 ht1
  go_enter Try.func17, Try.ntmps17
  go_wp2_with fail
  refine HR.out.mono ?_
  rintro e w1 ⟨rfl, b1⟩
  go_wp2
  go_returns
  exact ⟨rfl, bt hbw b1⟩
set_option maxHeartbeats 1000000 in
theorem refflows_ok (v : Int) (A : Option Addr) (k : Fo) (m c : Nat) (hm : Hid (m = k.len)) (w : World) (ht : TreeAt w A k) (h : rightB v k = true) : Calls Try.prog 17 #[.agg #[.int .i64 v, .slice A m c]] w fun e w' => e = .returned (.tuple #[.int .i64 ((2 * k.cnt + 3 * (tolF 1 k).length : Nat) : Int), .int .i64 0]) ∧ Below w.heap.size w w' := by
  obtain ⟨x, hx⟩ : ∃ x, x = 2 * k.cnt + 3 * (tolF 1 k).length := ⟨_, rfl⟩
  rw [← hx]
  have hbw := ba w (.cells #[.int .i64 v, .slice A m c] 28)
  have k1 := Blk.new w 28 #[.int .i64 v, .slice A m c]
  have c0 := k1.cell 0
  have c1 := k1.cell 1
  simp only [List.getElem?_toArray, List.getElem?_cons_zero, List.getElem?_cons_succ] at c0 c1
  have ht1 := ht.bt hbw
  have HR := Lib.hid (reftold_ok v A k m c hm _ ht1 h)
  have HT := Lib.hid (And.intro ht1 (And.intro k1 ((right_iff v k).1 h).2.2.2))
  clear ht h k1 ht1
  go_enter Try.func17, Try.ntmps17
  go_wp2_with fail
  refine HR.out.mono ?_
  rintro e w1 ⟨⟨n, A5, c5, rfl, hn, own5⟩, b1⟩
  clear c0 c1 own5
  have c0 := (HT.out.2.1.below b1 HT.out.2.1.lt).cell 0
  have c1 := (HT.out.2.1.below b1 HT.out.2.1.lt).cell 1
  simp only [List.getElem?_toArray, List.getElem?_cons_zero, List.getElem?_cons_succ] at c0 c1
  have HV := Lib.hid (votes_any k v A m c hm w1 (HT.out.1.bt b1) (by have := HT.out.2.2; omega))
  obtain ⟨z, hz⟩ : ∃ z, z = k.cnt + 1 := ⟨_, rfl⟩
  have hn64 : n ≤ 64 := by rw [hn]; have := tolF_len k 1; have := HT.out.2.2; omega
  have hz64 : z ≤ 64 := by have := HT.out.2.2; omega
  have e1 : IntKind.i64.wrap ((z : Int) - 1) = (k.cnt : Int) := by rw [IntWalk.i64_in _ (by omega)]; omega
  have e2 : IntKind.i64.wrap (2 * (k.cnt : Int)) = 2 * (k.cnt : Int) := IntWalk.i64_in _ (by omega)
  have e3 : IntKind.i64.wrap (3 * (n : Int)) = 3 * (n : Int) := IntWalk.i64_in _ (by omega)
  have e4 : IntKind.i64.wrap (2 * (k.cnt : Int) + 3 * (n : Int)) = (x : Int) := by rw [IntWalk.i64_in _ (by omega)]; rw [← hn] at hx; omega
  rw [← hz] at HV
  clear hz hx hn
  go_wp2_with fail
  refine HV.out.mono ?_
  rintro e w2 ⟨⟨A6, c6, rfl, own6⟩, b2⟩
  clear own6
  go_wp2
  go_returns
  exact ⟨rfl, bt hbw (bt b1 b2)⟩
end Go.Proofs.Ytmfjenhonghkpaa
