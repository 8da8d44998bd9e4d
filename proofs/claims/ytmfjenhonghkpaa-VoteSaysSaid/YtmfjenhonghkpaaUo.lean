/- Layer 16: the fixed calls; VoteAll. -/
import Derived.Test.YtmfjenhonghkpaaUm
namespace Go.Proofs.Ytmfjenhonghkpaa
open Go Go.RowKit
set_option linter.unusedVariables false
set_option linter.unusedSimpArgs false

def kT : Fo := .cons 2 .nil (.cons 1 .nil .nil)
theorem kT_right : rightB 1 kT = true := by
  have hw : wrap64 ((1 : Int) + 1) = 2 := by unfold wrap64; omega
  unfold rightB kT
  simp only [nodesL, hw]
  decide
theorem kT_kids : kidsM 1 kT = (2, [2]) := by rw [kidsM_eq]; decide
theorem kT_says : saysB 1 kT = 1 := by unfold saysB; rw [votesL_eq]; decide
theorem kT_flows : flowsM 1 kT = 7 := by unfold flowsM; rw [kT_kids]; rfl
set_option maxRecDepth 100000 in
set_option maxHeartbeats 2000000 in
theorem alive_any (w : World) : Calls Try.prog 10 #[] w fun e w' => e = .returned (.bool true) ∧ Below w.heap.size w w' := by
  obtain ⟨W1, hW1⟩ : ∃ W1, W1 = (w.alloc (.cells #[.int .i64 2, .slice none 0 0, .int .i64 1, .slice none 0 0] 24)).alloc (.cells #[.int .i64 1, .slice (some ⟨w.heap.size, 0, none⟩) 2 2] 24) := ⟨_, rfl⟩
  have kk : Blk W1 w.heap.size 24 #[.int .i64 2, .slice none 0 0, .int .i64 1, .slice none 0 0] := by rw [hW1]; exact (Blk.new _ _ _).alloc _
  have kt : Blk W1 (w.heap.size + 1) 24 #[.int .i64 1, .slice (some ⟨w.heap.size, 0, none⟩) 2 2] := by
    rw [hW1]
    have := Blk.new (w.alloc (.cells #[.int .i64 2, .slice none 0 0, .int .i64 1, .slice none 0 0] 24)) 24 #[.int .i64 1, .slice (some ⟨w.heap.size, 0, none⟩) 2 2]
    rwa [World.size_alloc] at this
  have hb1 : Below w.heap.size w W1 := by rw [hW1]; exact bt (ba _ _) (ba _ _)
  have hs1 : W1.heap.size = w.heap.size + 2 := by rw [hW1]; simp
  have ht : TreeAt W1 (some ⟨w.heap.size, 0, none⟩) kT := ⟨by decide, w.heap.size, 0, none, 0, rfl, by omega, (kk.cell 0).trans rfl, (kk.cell 1).trans rfl, by decide, trivial, w.heap.size, 2, none, 0, rfl, by omega, (kk.cell 2).trans rfl, (kk.cell 3).trans rfl, by decide, trivial, trivial⟩
  have c0 := kt.cell 0
  have c1 := kt.cell 1
  simp only [List.getElem?_toArray, List.getElem?_cons_zero, List.getElem?_cons_succ] at c0 c1
  have hsy := says_ok 1 _ kT 2 2 (Lib.hid rfl) W1 ht kT_right 1 kT_says.symm
  have HY := Lib.hid hsy
  have HT := Lib.hid (And.intro ht (And.intro kt hb1))
  have HW1 := Lib.hid hW1
  rw [hW1] at c0 c1
  clear kk kt hb1 ht hsy hW1 hs1
  go_enter Try.func10, Try.ntmps10
  go_wp2_with fail
  rw [← HW1.out]
  refine HY.out.mono ?_
  rintro e w2 ⟨rfl, b2⟩
  clear c0 c1
  have k2 := HT.out.2.1.below b2 HT.out.2.1.lt
  have c0 := k2.cell 0
  have c1 := k2.cell 1
  simp only [List.getElem?_toArray, List.getElem?_cons_zero, List.getElem?_cons_succ] at c0 c1
  have htd := told_ok 1 _ kT 2 2 (Lib.hid rfl) w2 (HT.out.1.bt b2) kT_right
  rw [kT_kids] at htd
  have HD := Lib.hid htd
  have H2 := Lib.hid (And.intro k2 b2)
  clear htd k2 b2
  go_wp2_with fail
  refine HD.out.mono ?_
  rintro e w3 ⟨⟨A2, c2, rfl, hE⟩, b3⟩
  clear c0 c1
  have k3 := H2.out.1.below b3 H2.out.1.lt
  have c0 := k3.cell 0
  have c1 := k3.cell 1
  simp only [List.getElem?_toArray, List.getElem?_cons_zero, List.getElem?_cons_succ] at c0 c1
  have hfl := flows_ok 1 _ kT 2 2 (Lib.hid rfl) w3 ((HT.out.1.bt H2.out.2).bt b3) kT_right
  rw [kT_flows] at hfl
  have HL := Lib.hid hfl
  have H3 := Lib.hid (And.intro hE b3)
  clear hfl k3 b3 hE
  go_wp2_with fail
  refine HL.out.mono ?_
  rintro e w4 ⟨rfl, b4⟩
  clear c0 c1
  go_wp2_with fail
  refine (says_no 0 none .nil 0 0 (Lib.hid rfl) w4 ⟨by decide, trivial⟩ (by decide)).mono ?_
  rintro e w5 ⟨rfl, b5⟩
  obtain ⟨g, hA, hc⟩ := H3.out.1.cell 0 (by decide)
  subst hA
  have c0 : w5.cell? ⟨g, 0, none⟩ = some (.int .i64 2) := by
    have hl := World.block_lt_of_cell? _ _ hc
    exact (b5.cell (p := ⟨g, 0, none⟩) (by have := b4.size; dsimp only at hl ⊢; omega)).trans ((b4.cell (p := ⟨g, 0, none⟩) hl).trans hc)
  have HF := Lib.hid (bt (bt (bt (bt HT.out.2.2 H2.out.2) H3.out.2) b4) b5)
  clear hc b4 b5
  go_wp2
  go_ret
  exact ⟨rfl, HF.out⟩

set_option maxHeartbeats 2000000 in
theorem voteAll_walk (o : NodeV) (w : World) (ho : NodeOk w o) : Calls Try.prog 4 #[o.val] w fun e w' => e = .returned (.bool true) ∧ Below w.heap.size w w' := by
  obtain ⟨v, A, k, c⟩ := o
  obtain ⟨_, _, ht⟩ := ho
  show Calls Try.prog _ #[.agg #[.int .i64 v, .slice A k.len c]] w _
  obtain ⟨m, hm⟩ : ∃ m, m = k.len := ⟨_, rfl⟩
  rw [← hm]
  have Hm := Lib.hid hm
  clear hm
  obtain ⟨W1, hW1⟩ : ∃ W1, W1 = w.alloc (.cells #[.int .i64 v, .slice A m c] 24) := ⟨_, rfl⟩
  have k1 : Blk W1 w.heap.size 24 #[.int .i64 v, .slice A m c] := by rw [hW1]; exact Blk.new _ _ _
  have b1 : Below w.heap.size w W1 := by rw [hW1]; exact ba _ _
  have ht1 := ht.bt b1
  have c0 := k1.cell 0
  have c1 := k1.cell 1
  simp only [List.getElem?_toArray, List.getElem?_cons_zero, List.getElem?_cons_succ] at c0 c1
  have HW1 := Lib.hid hW1
  have hr := right_any v A k c W1 ht1.len ht1.fo
  rw [← Hm.out] at hr
  have HR := Lib.hid hr
  have HT := Lib.hid (And.intro ht1 (And.intro k1 b1))
  rw [hW1] at c0 c1
  clear hW1 ht1 k1 b1 ht hr
  rcases hrb : rightB v k with _ | _
  · rw [hrb] at HR
    go_enter Try.func4, Try.ntmps4
    go_wp2_with fail
    rw [← HW1.out]
    refine HR.out.mono ?_
    rintro e w2 ⟨rfl, b2⟩
    clear c0 c1
    go_wp2_with fail
    refine (alive_any _).mono ?_
    rintro e w3 ⟨rfl, b3⟩
    have HF := Lib.hid (bt (bt HT.out.2.2 b2) b3)
    clear b2 b3
    go_wp2
    go_ret
    exact ⟨rfl, HF.out⟩
  rw [hrb] at HR
  have HB := Lib.hid hrb
  clear hrb
  go_enter Try.func4, Try.ntmps4
  go_wp2_with fail
  rw [← HW1.out]
  refine HR.out.mono ?_
  rintro e w2 ⟨rfl, b2⟩
  clear c0 c1
  have k2 := HT.out.2.1.below b2 HT.out.2.1.lt
  have c0 := k2.cell 0
  have c1 := k2.cell 1
  simp only [List.getElem?_toArray, List.getElem?_cons_zero, List.getElem?_cons_succ] at c0 c1
  have hcm := commits_ok v A k m c Hm w2 (HT.out.1.bt b2) HB.out _ (says_no3 HB.out)
  obtain ⟨b, hb⟩ : ∃ b, b = (v == 3 || noF k) := ⟨_, rfl⟩
  rw [← hb] at hcm
  have HC := Lib.hid hcm
  have H2 := Lib.hid (And.intro k2 b2)
  have HBB := Lib.hid hb
  clear hcm k2 b2 hb
  go_wp2_with fail
  refine HC.out.mono ?_
  rintro e w3 ⟨rfl, b3⟩
  clear c0 c1
  go_wp2_with fail
  refine (alive_any _).mono ?_
  rintro e w4 ⟨rfl, b4⟩
  have k4 := (H2.out.1.below b3 H2.out.1.lt).below b4 (by have := H2.out.1.lt; have := b3.size; omega)
  have c0 := k4.cell 0
  have c1 := k4.cell 1
  simp only [List.getElem?_toArray, List.getElem?_cons_zero, List.getElem?_cons_succ] at c0 c1
  have hno := no_any k v A m c Hm w4 (((HT.out.1.bt H2.out.2).bt b3).bt b4)
  rw [← HBB.out] at hno
  have HN := Lib.hid hno
  have HF := Lib.hid (bt (bt (bt HT.out.2.2 H2.out.2) b3) b4)
  clear hno k4 b3 b4
  go_wp2_with fail
  refine HN.out.mono ?_
  rintro e w5 ⟨rfl, b5⟩
  have HG := Lib.hid (bt HF.out b5)
  clear c0 c1 b5
  go_wp2
  go_ret
  exact ⟨by cases b <;> rfl, HG.out⟩
end Go.Proofs.Ytmfjenhonghkpaa
