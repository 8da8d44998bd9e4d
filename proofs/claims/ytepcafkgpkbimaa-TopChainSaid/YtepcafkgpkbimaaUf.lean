/- Layer 16: Commits. -/
import Derived.Test.YtepcafkgpkbimaaUe
namespace Go.Proofs.Ytepcafkgpkbimaa
open Go Go.RowKit Go.Shelf
set_option linter.unusedVariables false
set_option linter.unusedSimpArgs false

theorem right_cnt {v : Int} {k : Fo} (h : rightB v k = true) : k.cnt + 1 ≤ 64 := by
  have := rightL_le _ 0 h (by omega)
  rw [nodesL_cnt] at this
  simp only [Fo.cnt] at this
  omega
theorem nodes_len (v : Int) (k : Fo) (d : Int) : (nodesL d (.cons v k .nil)).length = k.cnt + 1 := by rw [nodesL_cnt]; simp only [Fo.cnt]; omega
/-- A tree that comes in. -/
structure TreeAt (w : World) (A : Option Addr) (k : Fo) : Prop where
  len : k.len ≤ maxLen
  fo : FoAt w w.heap.size k A
theorem TreeAt.bt {w w' : World} {A : Option Addr} {k : Fo} (h : TreeAt w A k) (hb : Below w.heap.size w w') : TreeAt w' A k := by
  refine ⟨h.len, ?_⟩
  have h2 := h.fo.below hb
  clear h
  have hs := hb.size
  suffices h : ∀ (f : Fo) (A : Option Addr), FoAt w' w.heap.size f A → FoAt w' w'.heap.size f A from h _ _ h2
  intro f
  induction f with
  | nil => intro A _; trivial
  | cons v k r ih1 ih2 =>
    rintro A ⟨b, o, A', c', e, h1, h2, h3, h4, h5, h6⟩
    exact ⟨b, o, A', c', e, by omega, h2, h3, h4, ih1 _ h5, ih2 _ h6⟩

set_option maxHeartbeats 1000000 in
theorem commits_no (v : Int) (A : Option Addr) (k : Fo) (m c : Nat) (hm : Hid (m = k.len)) (w : World) (ht : TreeAt w A k) (h : rightB v k = false) : Calls Try.prog 5 #[.agg #[.int .i64 v, .slice A m c]] w fun e w' => e = .returned (.tuple #[.bool false, .int .i64 1]) ∧ Below w.heap.size w w' := by
  have hbw := ba w (.cells #[.int .i64 v, .slice A m c] 24)
  have k1 := Blk.new w 24 #[.int .i64 v, .slice A m c]
  have c0 := k1.cell 0
  have c1 := k1.cell 1
  simp only [List.getElem?_toArray, List.getElem?_cons_zero, List.getElem?_cons_succ] at c0 c1
  have hr := right_any v A k c _ ht.len (ht.bt hbw).fo
  rw [h, ← hm.out] at hr
  have HR := Lib.hid hr
  clear ht h hr k1
  go_enter Try.func5, Try.ntmps5
  go_wp2_with fail
  refine HR.out.mono ?_
  rintro e w1 ⟨rfl, b1⟩
  go_wp2
  go_returns
  exact ⟨rfl, bt hbw b1⟩
set_option maxHeartbeats 1000000 in
theorem commits_ok (v : Int) (A : Option Addr) (k : Fo) (m c : Nat) (hm : Hid (m = k.len)) (w : World) (ht : TreeAt w A k) (h : rightB v k = true) (b : Bool) (hb : (saysB v k != 3) = b) : Calls Try.prog 5 #[.agg #[.int .i64 v, .slice A m c]] w fun e w' => e = .returned (.tuple #[.bool b, .int .i64 0]) ∧ Below w.heap.size w w' := by
  have hbw := ba w (.cells #[.int .i64 v, .slice A m c] 24)
  have k1 := Blk.new w 24 #[.int .i64 v, .slice A m c]
  have c0 := k1.cell 0
  have c1 := k1.cell 1
  simp only [List.getElem?_toArray, List.getElem?_cons_zero, List.getElem?_cons_succ] at c0 c1
  have ht1 := ht.bt hbw
  have hr := right_any v A k c _ ht.len ht1.fo
  rw [h, ← hm.out] at hr
  have HR := Lib.hid hr
  have HT := Lib.hid (And.intro ht1 (And.intro k1 (right_cnt h)))
  obtain ⟨s, hs⟩ : ∃ s, s = saysB v k := ⟨_, rfl⟩
  rw [← hs] at hb
  have HS := Lib.hid hs
  clear ht h hr k1 ht1 hs
  go_enter Try.func5, Try.ntmps5
  go_wp2_with fail
  refine HR.out.mono ?_
  rintro e w1 ⟨rfl, b1⟩
  clear c0 c1
  have c0 := (HT.out.2.1.below b1 HT.out.2.1.lt).cell 0
  have c1 := (HT.out.2.1.below b1 HT.out.2.1.lt).cell 1
  simp only [List.getElem?_toArray, List.getElem?_cons_zero, List.getElem?_cons_succ] at c0 c1
  have hsy := says_any v A k c w1 HT.out.1.len (HT.out.1.bt b1).fo (by rw [nodes_len]; have := HT.out.2.2; omega)
  rw [← hm.out, ← HS.out] at hsy
  have HY := Lib.hid hsy
  clear hsy
  go_wp2_with fail
  refine HY.out.mono ?_
  rintro e w2 ⟨rfl, b2⟩
  rcases h3 : (s == 3) with _ | _
  · have n3 : (s != 3) = true := by simp [bne, h3]
    rw [n3] at hb
    subst hb
    go_wp2
    go_returns
    exact ⟨rfl, bt hbw (bt b1 b2)⟩
  · have n3 : (s != 3) = false := by simp [bne, h3]
    rw [n3] at hb
    subst hb
    go_wp2
    go_returns
    exact ⟨rfl, bt hbw (bt b1 b2)⟩
end Go.Proofs.Ytepcafkgpkbimaa
