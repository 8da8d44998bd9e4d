/- Layer 16: VoteFlows. -/
import Derived.Test.YtmfjenhonghkpaaUo
import Derived.Test.YtmfjenhonghkpaaInvT
namespace Go.Proofs.Ytmfjenhonghkpaa
open Go.RowKit
set_option linter.unusedVariables false
set_option linter.unusedSimpArgs false

theorem flows_facts {v : Int} {k : Fo} (h : rightB v k = true) : flowsM v k = 2 * k.cnt + 3 * (kidsM v k).2.length ∧ (kidsM v k).2.length ≤ k.cnt ∧ k.cnt ≤ 63 ∧ (saysB v k = 2 → (kidsM v k).2.length = 0) ∧ (kidsM v k).2.Pairwise (· < ·) := by
  have h1 := kfold_le (nodesL 1 (.cons v k .nil))
  have h2 := kids_all h
  have h3 := right_cnt h
  have h4 := kfold_rising (nodesL 1 (.cons v k .nil))
  unfold flowsM
  rw [h2]
  refine ⟨rfl, ?_, by omega, fun hs => by rw [kids_none hs]; rfl, h4.1⟩
  have h5 : (kidsM v k).2.length ≤ (kidsM v k).1 := h1.2
  omega
def VFl (g n c i0 : Nat) (z1 z0 : Int) (i : Nat) (v : Value) (w : World) : Prop :=
  match i with
  | 0 => v = .slice (some ⟨g, 0, none⟩) n c
  | 1 => v = .int .i64 ((i0 + 1 : Nat) : Int)
  | 2 => v = .pointer (some ⟨g, i0 + 1, none⟩)
  | 3 => v = .int .i64 z1
  | 4 => v = .slice (some ⟨g, 0, none⟩) n c
  | 5 => v = .int .i64 ((i0 + 1 : Nat) : Int)
  | 6 => v = .int .i64 (i0 : Nat)
  | 7 => v = .pointer (some ⟨g, i0, none⟩)
  | 8 => v = .int .i64 z0
  | 9 => v = .bool false
  | _ => True
theorem VFl.mono {g n c i0 i : Nat} {z1 z0 : Int} {v : Value} {u u' : World} (hv : VFl g n c i0 z1 z0 i v u) : VFl g n c i0 z1 z0 i v u' := by
  unfold VFl at hv ⊢; split at hv <;> exact hv
set_option maxHeartbeats 2000000 in
theorem voteFlows_walk (o : NodeV) (w : World) (ho : NodeOk w o) : Calls Try.prog 8 #[o.val] w fun e w' => e = .returned (.bool true) ∧ Below w.heap.size w w' := by
  obtain ⟨v, A, k, c⟩ := o
  obtain ⟨_, _, ht⟩ := ho
  show Calls Try.prog _ #[.agg #[.int .i64 v, .slice A k.len c]] w _
  obtain ⟨m, hm⟩ : ∃ m, m = k.len := ⟨_, rfl⟩
  rw [← hm]
  have Hm := Lib.hid hm
  clear hm
  obtain ⟨W1, hW1⟩ : ∃ W1, W1 = w.alloc (.cells #[.int .i64 v, .slice A m c] 24) := ⟨_, rfl⟩
  have k1 : Blk W1 w.heap.size 24 #[.int .i64 v, .slice A m c] := by rw [hW1]; exact Blk.new _ _ _
  have b1 : Below w.heap.size w W1 := by rw [hW1]; exact ba _ _
  have ht1 := ht.bt b1
  have c0 := k1.cell 0
  have c1 := k1.cell 1
  simp only [List.getElem?_toArray, List.getElem?_cons_zero, List.getElem?_cons_succ] at c0 c1
  have HW1 := Lib.hid hW1
  have hr := right_any v A k c W1 ht1.len ht1.fo
  rw [← Hm.out] at hr
  have HR := Lib.hid hr
  have HT := Lib.hid (And.intro ht1 (And.intro k1 b1))
  rw [hW1] at c0 c1
  clear hW1 ht1 k1 b1 ht hr
  rcases hrb : rightB v k with _ | _
  · rw [hrb] at HR
    go_enter Try.func8, Try.ntmps8
    go_wp2_with fail
    rw [← HW1.out]
    refine HR.out.mono ?_
    rintro e w2 ⟨rfl, b2⟩
    clear c0 c1
    go_wp2_with fail
    refine (alive_any _).mono ?_
    rintro e w3 ⟨rfl, b3⟩
    have HF := Lib.hid (bt (bt HT.out.2.2 b2) b3)
    clear b2 b3
    go_wp2
    go_ret
    exact ⟨rfl, HF.out⟩
  rw [hrb] at HR
  have HB := Lib.hid hrb
  clear hrb
  go_enter Try.func8, Try.ntmps8
  go_wp2_with fail
  rw [← HW1.out]
  refine HR.out.mono ?_
  rintro e w2 ⟨rfl, b2⟩
  clear c0 c1
  have k2 := HT.out.2.1.below b2 HT.out.2.1.lt
  have c0 := k2.cell 0
  have c1 := k2.cell 1
  simp only [List.getElem?_toArray, List.getElem?_cons_zero, List.getElem?_cons_succ] at c0 c1
  obtain ⟨hfl, hn2, hc63, hs0, hpw⟩ := flows_facts HB.out
  obtain ⟨n2, hN2⟩ : ∃ n2, n2 = (kidsM v k).2.length := ⟨_, rfl⟩
  obtain ⟨C, hC⟩ : ∃ C, C = k.cnt := ⟨_, rfl⟩
  obtain ⟨s, hs⟩ : ∃ s, s = saysB v k := ⟨_, rfl⟩
  rw [← hN2, ← hC] at hfl hn2
  rw [← hs, ← hN2] at hs0
  rw [← hC] at hc63
  have hflow := flows_ok v A k m c Hm w2 (HT.out.1.bt b2) HB.out
  rw [hfl] at hflow
  have hF : ((2 * C + 3 * n2 : Nat) : Int) = 2 * (C : Int) + 3 * (n2 : Int) := by omega
  rw [hF] at hflow
  obtain ⟨FI, hFI⟩ : ∃ FI, FI = 2 * (C : Int) + 3 * (n2 : Int) := ⟨_, rfl⟩
  rw [← hFI] at hflow
  have HC := Lib.hid hflow
  have H2 := Lib.hid (And.intro k2 b2)
  have HQ := Lib.hid (And.intro hN2 (And.intro hC (And.intro hs (And.intro hs0 (And.intro hpw (And.intro hn2 (And.intro hc63 hFI)))))))
  clear hflow k2 b2 hN2 hC hs hs0 hpw hfl hF hn2 hc63 hFI
  go_wp2_with fail
  refine HC.out.mono ?_
  rintro e w3 ⟨rfl, b3⟩
  clear c0 c1
  have k3 := H2.out.1.below b3 H2.out.1.lt
  have c0 := k3.cell 0
  have c1 := k3.cell 1
  simp only [List.getElem?_toArray, List.getElem?_cons_zero, List.getElem?_cons_succ] at c0 c1
  have HY := Lib.hid (says_ok v A k m c Hm w3 ((HT.out.1.bt H2.out.2).bt b3) HB.out s HQ.out.2.2.1)
  have H3 := Lib.hid (And.intro k3 b3)
  clear k3 b3
  go_wp2_with fail
  refine HY.out.mono ?_
  rintro e w4 ⟨rfl, b4⟩
  clear c0 c1
  have k4 := H3.out.1.below b4 H3.out.1.lt
  have c0 := k4.cell 0
  have c1 := k4.cell 1
  simp only [List.getElem?_toArray, List.getElem?_cons_zero, List.getElem?_cons_succ] at c0 c1
  have htd := told_ok v A k m c Hm w4 (((HT.out.1.bt H2.out.2).bt H3.out.2).bt b4) HB.out
  rw [← HQ.out.1] at htd
  have HD := Lib.hid htd
  have H4 := Lib.hid (And.intro k4 b4)
  clear k4 b4 htd
  go_wp2_with fail
  refine HD.out.mono ?_
  rintro e w5 ⟨⟨A2, c2, rfl, hE⟩, b5⟩
  clear c0 c1
  have k5 := H4.out.1.below b5 H4.out.1.lt
  have c0 := k5.cell 0
  have c1 := k5.cell 1
  simp only [List.getElem?_toArray, List.getElem?_cons_zero, List.getElem?_cons_succ] at c0 c1
  have hcn := count_any k v A m c Hm w5 ((((HT.out.1.bt H2.out.2).bt H3.out.2).bt H4.out.2).bt b5) (by have := HQ.out.2.2.2.2.2.2.1; have := HQ.out.2.1; omega)
  rw [← HQ.out.2.1] at hcn
  have HN := Lib.hid hcn
  have H5 := Lib.hid (And.intro b5 hE)
  have wsub : IntKind.i64.wrap (((C + 1 : Nat) : Int) - 1) = (C : Int) := by rw [IntWalk.i64_in _ (by have := HQ.out.2.2.2.2.2.2.1; omega)]; omega
  have wsub2 : IntKind.i64.wrap (C : Int) = (C : Int) := IntWalk.i64_in _ (by have := HQ.out.2.2.2.2.2.2.1; omega)
  have w2C : IntKind.i64.wrap (2 * (C : Int)) = 2 * (C : Int) := IntWalk.i64_in _ (by have := HQ.out.2.2.2.2.2.2.1; omega)
  have w5C : IntKind.i64.wrap (5 * (C : Int)) = 5 * (C : Int) := IntWalk.i64_in _ (by have := HQ.out.2.2.2.2.2.2.1; omega)
  have w3n : IntKind.i64.wrap (3 * (n2 : Int)) = 3 * (n2 : Int) := IntWalk.i64_in _ (by have := HQ.out.2.2.2.2.2.2.1; have := HQ.out.2.2.2.2.2.1; omega)
  have w23 : IntKind.i64.wrap (2 * (C : Int) + 3 * (n2 : Int)) = FI := by rw [HQ.out.2.2.2.2.2.2.2]; exact IntWalk.i64_in _ (by have := HQ.out.2.2.2.2.2.2.1; have := HQ.out.2.2.2.2.2.1; omega)
  have hge : decide (2 * (C : Int) ≤ FI) = true := decide_eq_true (by rw [HQ.out.2.2.2.2.2.2.2]; omega)
  have hle : decide (FI ≤ 5 * (C : Int)) = true := decide_eq_true (by rw [HQ.out.2.2.2.2.2.2.2]; have := HQ.out.2.2.2.2.2.1; omega)
  clear k5 b5 hE hcn
  go_wp2_with fail
  refine HN.out.mono ?_
  rintro e w6 ⟨rfl, b6⟩
  have HBel := Lib.hid (bt (bt (bt (bt (bt HT.out.2.2 H2.out.2) H3.out.2) H4.out.2) H5.out.1) b6)
  have H6 := Lib.hid b6
  clear c0 c1 b6
  have hne : (s == 2) = true → (FI != 2 * (C : Int)) = false := fun h => by
    have h2 : s = 2 := by simpa using h
    have h3 := HQ.out.2.2.2.1 h2
    rw [HQ.out.2.2.2.2.2.2.2, h3]
    simp
  have hn64 : n2 ≤ 64 := by have := HQ.out.2.2.2.2.2.2.1; have := HQ.out.2.2.2.2.2.1; omega
  rcases hs2 : (s == 2) with _ | _
  · clear hne
    go_wp2_with fail
    go_loopw [10] (fun i wr => ∃ i0 : Nat, i0 + 1 ≤ n2 + 1 ∧ i = .int .i64 ((i0 + 1 : Nat) : Int) ∧ Hid (Below w6.heap.size w6 wr)) (fun i _ => n2 + 1 - (intOf i).toNat)
    case atStart => exact ⟨0, by omega, rfl, Lib.hid (Below.refl _ _)⟩
    case round =>
      obtain ⟨i0, him, rfl, hq⟩ := hrel
      by_cases hi0 : i0 + 1 < n2
      · have hiI : ((i0 : Int) + 1) < (n2 : Int) := by omega
        have hiN : ((i0 + 1 : Nat) : Int) < (n2 : Int) := by omega
        have hi0I : (i0 : Int) < (n2 : Int) := by omega
        have hl1 : i0 + 1 < (kidsM v k).2.length := by rw [← HQ.out.1]; exact hi0
        obtain ⟨g, hA, hc1⟩ := H5.out.2.cell (i0 + 1) hl1
        obtain ⟨g', hA', hc0⟩ := H5.out.2.cell i0 (by omega)
        subst hA
        cases hA'
        have e1 := cell_step (cell_step hc1 (Step.of H6.out)) (Step.of hq.out)
        have e0 := cell_step (cell_step hc0 (Step.of H6.out)) (Step.of hq.out)
        have hlt := (List.pairwise_iff_getElem.1 HQ.out.2.2.2.2.1) i0 (i0 + 1) (by omega) hl1 (by omega)
        generalize (kidsM v k).2[i0 + 1]'hl1 = z1 at e1 hlt
        generalize (kidsM v k).2[i0]'(by omega) = z0 at e0 hlt
        have hzz : decide (z1 ≤ z0) = false := decide_eq_false (by omega)
        have HE := Lib.hid (And.intro e1 e0)
        have hwr : IntKind.i64.wrap (i0 : Int) = (i0 : Int) := IntWalk.i64_in _ (by omega)
        clear e1 e0 hlt hc1 hc0 hl1
        go_wp2_with fail
        refine wp_region_invT (F := ?FFa) (V := VFl g n2 c2 i0 z1 z0) (dead := fun _ => none) (T := fun _ _ => True) (C := fun u' => (u'.cell? ⟨g, i0 + 1, none⟩ = some (.int .i64 z1) ∧ u'.cell? ⟨g, i0, none⟩ = some (.int .i64 z0) ∧ Below w6.heap.size w6 u')) (E := fun _ _ _ => True) (by kernel_rfl) (by kernel_rfl) (by kernel_rfl) (fun x => ?hFFa) ?hmonoFa ?hTmFa ?hTFa ?hCFa ?stepFa ?finFa
        case hFFa => simp only [mkA, Act.put, List.setIfInBounds_toArray, List.set_cons_succ, List.set_cons_zero, Nat.reduceAdd, Nat.zero_add]; first | with_reducible rfl | rfl
        case hmonoFa => exact fun q' i v u u' he hik hwt hdd hv => VFl.mono hv
        case hTmFa => exact fun _ _ _ _ _ _ _ _ => trivial
        case hTFa => exact fun j => trivial
        case hCFa => exact ⟨HE.out.1, HE.out.2, hq.out.drew⟩
        case stepFa =>
          refine AllOps.cons (fun x u hC hT hp K hK => ?_) ?_
          · clear hp hT
            go_simp
            refine hK _ _ _ hC trivial (by exact rfl) ?_
            first | (simp only [Act.put, List.setIfInBounds_toArray, List.set_cons_succ, List.set_cons_zero]; done) | simp [Act.put]
          refine AllOps.cons (fun x u hC hT hp K hK => ?_) ?_
          · clear hp hT
            go_simp
            refine hK _ _ _ hC trivial (by exact rfl) ?_
            first | (simp only [Act.put, List.setIfInBounds_toArray, List.set_cons_succ, List.set_cons_zero]; done) | simp [Act.put]
          refine AllOps.cons (fun x u hC hT hp K hK => ?_) ?_
          · simp [KnownTill, Region.binds, VFl] at hp
            clear hT
            go_simp
            refine hK _ _ _ hC trivial (by exact (by first | rfl | simp)) ?_
            first | (simp only [Act.put, List.setIfInBounds_toArray, List.set_cons_succ, List.set_cons_zero, hp]; done) | simp [Act.put, hp]
          refine AllOps.cons (fun x u hC hT hp K hK => ?_) ?_
          · simp [KnownTill, Region.binds, VFl] at hp
            clear hT
            have cc := hC.1
            go_simp
            refine hK _ _ _ hC trivial (by exact rfl) ?_
            first | (simp only [Act.put, List.setIfInBounds_toArray, List.set_cons_succ, List.set_cons_zero, hp]; done) | simp [Act.put, hp]
          refine AllOps.cons (fun x u hC hT hp K hK => ?_) ?_
          · clear hp hT
            go_simp
            refine hK _ _ _ hC trivial (by exact rfl) ?_
            first | (simp only [Act.put, List.setIfInBounds_toArray, List.set_cons_succ, List.set_cons_zero]; done) | simp [Act.put]
          refine AllOps.cons (fun x u hC hT hp K hK => ?_) ?_
          · clear hp hT
            go_simp
            refine hK _ _ _ hC trivial (by exact rfl) ?_
            first | (simp only [Act.put, List.setIfInBounds_toArray, List.set_cons_succ, List.set_cons_zero]; done) | simp [Act.put]
          refine AllOps.cons (fun x u hC hT hp K hK => ?_) ?_
          · simp [KnownTill, Region.binds, VFl] at hp
            clear hT
            go_simp
            refine hK _ _ _ hC trivial (by exact (by first | rfl | (simp; done))) ?_
            first | (simp only [Act.put, List.setIfInBounds_toArray, List.set_cons_succ, List.set_cons_zero, hp, hwr]; done) | simp [Act.put, hp, hwr]
          refine AllOps.cons (fun x u hC hT hp K hK => ?_) ?_
          · simp [KnownTill, Region.binds, VFl] at hp
            clear hT
            go_simp
            refine hK _ _ _ hC trivial (by exact (by first | rfl | simp)) ?_
            first | (simp only [Act.put, List.setIfInBounds_toArray, List.set_cons_succ, List.set_cons_zero, hp]; done) | simp [Act.put, hp]
          refine AllOps.cons (fun x u hC hT hp K hK => ?_) ?_
          · simp [KnownTill, Region.binds, VFl] at hp
            clear hT
            have cc := hC.2.1
            go_simp
            refine hK _ _ _ hC trivial (by exact rfl) ?_
            first | (simp only [Act.put, List.setIfInBounds_toArray, List.set_cons_succ, List.set_cons_zero, hp]; done) | simp [Act.put, hp]
          refine AllOps.cons (fun x u hC hT hp K hK => ?_) ?_
          · simp [KnownTill, Region.binds, VFl] at hp
            clear hT
            go_simp
            refine hK _ _ _ hC trivial (by exact (by first | rfl | simp)) ?_
            first | (simp only [Act.put, List.setIfInBounds_toArray, List.set_cons_succ, List.set_cons_zero, hp]; done) | simp [Act.put, hp]
          exact AllOps.nil
        case finFa =>
          intro x9 u9 hC hV
          have h9 : x9 9 = .bool false := hV 9 (by decide) rfl
          simp only [h9]
          have HQ9 := Lib.hid hC.2.2
          clear hV h9 hC hq
          go_wp2
          go_roundw
          case rel => exact ⟨i0 + 1, by omega, by go_num, HQ9⟩
          case measure => simp [intOf]; omega
      · have hiI : ¬ ((i0 : Int) + 1) < (n2 : Int) := by omega
        go_wp2_with fail
        refine (alive_any _).mono ?_
        rintro e w8 ⟨rfl, b8⟩
        have HG := Lib.hid (bt (bt HBel.out hq.out) b8)
        clear b8
        go_wp2
        go_ret
        exact ⟨rfl, HG.out⟩
  · have hne2 := hne hs2
    have hne3 : (FI == 2 * (C : Int)) = true := by simpa [bne] using hne2
    clear hne
    go_wp2_with fail
    go_loopw [10] (fun i wr => ∃ i0 : Nat, i0 + 1 ≤ n2 + 1 ∧ i = .int .i64 ((i0 + 1 : Nat) : Int) ∧ Hid (Below w6.heap.size w6 wr)) (fun i _ => n2 + 1 - (intOf i).toNat)
    case atStart => exact ⟨0, by omega, rfl, Lib.hid (Below.refl _ _)⟩
    case round =>
      obtain ⟨i0, him, rfl, hq⟩ := hrel
      by_cases hi0 : i0 + 1 < n2
      · have hiI : ((i0 : Int) + 1) < (n2 : Int) := by omega
        have hiN : ((i0 + 1 : Nat) : Int) < (n2 : Int) := by omega
        have hi0I : (i0 : Int) < (n2 : Int) := by omega
        have hl1 : i0 + 1 < (kidsM v k).2.length := by rw [← HQ.out.1]; exact hi0
        obtain ⟨g, hA, hc1⟩ := H5.out.2.cell (i0 + 1) hl1
        obtain ⟨g', hA', hc0⟩ := H5.out.2.cell i0 (by omega)
        subst hA
        cases hA'
        have e1 := cell_step (cell_step hc1 (Step.of H6.out)) (Step.of hq.out)
        have e0 := cell_step (cell_step hc0 (Step.of H6.out)) (Step.of hq.out)
        have hlt := (List.pairwise_iff_getElem.1 HQ.out.2.2.2.2.1) i0 (i0 + 1) (by omega) hl1 (by omega)
        generalize (kidsM v k).2[i0 + 1]'hl1 = z1 at e1 hlt
        generalize (kidsM v k).2[i0]'(by omega) = z0 at e0 hlt
        have hzz : decide (z1 ≤ z0) = false := decide_eq_false (by omega)
        have HE := Lib.hid (And.intro e1 e0)
        have hwr : IntKind.i64.wrap (i0 : Int) = (i0 : Int) := IntWalk.i64_in _ (by omega)
        clear e1 e0 hlt hc1 hc0 hl1
        go_wp2_with fail
        refine wp_region_invT (F := ?FFb) (V := VFl g n2 c2 i0 z1 z0) (dead := fun _ => none) (T := fun _ _ => True) (C := fun u' => (u'.cell? ⟨g, i0 + 1, none⟩ = some (.int .i64 z1) ∧ u'.cell? ⟨g, i0, none⟩ = some (.int .i64 z0) ∧ Below w6.heap.size w6 u')) (E := fun _ _ _ => True) (by kernel_rfl) (by kernel_rfl) (by kernel_rfl) (fun x => ?hFFb) ?hmonoFb ?hTmFb ?hTFb ?hCFb ?stepFb ?finFb
        case hFFb => simp only [mkA, Act.put, List.setIfInBounds_toArray, List.set_cons_succ, List.set_cons_zero, Nat.reduceAdd, Nat.zero_add]; first | with_reducible rfl | rfl
        case hmonoFb => exact fun q' i v u u' he hik hwt hdd hv => VFl.mono hv
        case hTmFb => exact fun _ _ _ _ _ _ _ _ => trivial
        case hTFb => exact fun j => trivial
        case hCFb => exact ⟨HE.out.1, HE.out.2, hq.out.drew⟩
        case stepFb =>
          refine AllOps.cons (fun x u hC hT hp K hK => ?_) ?_
          · clear hp hT
            go_simp
            refine hK _ _ _ hC trivial (by exact rfl) ?_
            first | (simp only [Act.put, List.setIfInBounds_toArray, List.set_cons_succ, List.set_cons_zero]; done) | simp [Act.put]
          refine AllOps.cons (fun x u hC hT hp K hK => ?_) ?_
          · clear hp hT
            go_simp
            refine hK _ _ _ hC trivial (by exact rfl) ?_
            first | (simp only [Act.put, List.setIfInBounds_toArray, List.set_cons_succ, List.set_cons_zero]; done) | simp [Act.put]
          refine AllOps.cons (fun x u hC hT hp K hK => ?_) ?_
          · simp [KnownTill, Region.binds, VFl] at hp
            clear hT
            go_simp
            refine hK _ _ _ hC trivial (by exact (by first | rfl | simp)) ?_
            first | (simp only [Act.put, List.setIfInBounds_toArray, List.set_cons_succ, List.set_cons_zero, hp]; done) | simp [Act.put, hp]
          refine AllOps.cons (fun x u hC hT hp K hK => ?_) ?_
          · simp [KnownTill, Region.binds, VFl] at hp
            clear hT
            have cc := hC.1
            go_simp
            refine hK _ _ _ hC trivial (by exact rfl) ?_
            first | (simp only [Act.put, List.setIfInBounds_toArray, List.set_cons_succ, List.set_cons_zero, hp]; done) | simp [Act.put, hp]
          refine AllOps.cons (fun x u hC hT hp K hK => ?_) ?_
          · clear hp hT
            go_simp
            refine hK _ _ _ hC trivial (by exact rfl) ?_
            first | (simp only [Act.put, List.setIfInBounds_toArray, List.set_cons_succ, List.set_cons_zero]; done) | simp [Act.put]
          refine AllOps.cons (fun x u hC hT hp K hK => ?_) ?_
          · clear hp hT
            go_simp
            refine hK _ _ _ hC trivial (by exact rfl) ?_
            first | (simp only [Act.put, List.setIfInBounds_toArray, List.set_cons_succ, List.set_cons_zero]; done) | simp [Act.put]
          refine AllOps.cons (fun x u hC hT hp K hK => ?_) ?_
          · simp [KnownTill, Region.binds, VFl] at hp
            clear hT
            go_simp
            refine hK _ _ _ hC trivial (by exact (by first | rfl | (simp; done))) ?_
            first | (simp only [Act.put, List.setIfInBounds_toArray, List.set_cons_succ, List.set_cons_zero, hp, hwr]; done) | simp [Act.put, hp, hwr]
          refine AllOps.cons (fun x u hC hT hp K hK => ?_) ?_
          · simp [KnownTill, Region.binds, VFl] at hp
            clear hT
            go_simp
            refine hK _ _ _ hC trivial (by exact (by first | rfl | simp)) ?_
            first | (simp only [Act.put, List.setIfInBounds_toArray, List.set_cons_succ, List.set_cons_zero, hp]; done) | simp [Act.put, hp]
          refine AllOps.cons (fun x u hC hT hp K hK => ?_) ?_
          · simp [KnownTill, Region.binds, VFl] at hp
            clear hT
            have cc := hC.2.1
            go_simp
            refine hK _ _ _ hC trivial (by exact rfl) ?_
            first | (simp only [Act.put, List.setIfInBounds_toArray, List.set_cons_succ, List.set_cons_zero, hp]; done) | simp [Act.put, hp]
          refine AllOps.cons (fun x u hC hT hp K hK => ?_) ?_
          · simp [KnownTill, Region.binds, VFl] at hp
            clear hT
            go_simp
            refine hK _ _ _ hC trivial (by exact (by first | rfl | simp)) ?_
            first | (simp only [Act.put, List.setIfInBounds_toArray, List.set_cons_succ, List.set_cons_zero, hp]; done) | simp [Act.put, hp]
          exact AllOps.nil
        case finFb =>
          intro x9 u9 hC hV
          have h9 : x9 9 = .bool false := hV 9 (by decide) rfl
          simp only [h9]
          have HQ9 := Lib.hid hC.2.2
          clear hV h9 hC hq
          go_wp2
          go_roundw
          case rel => exact ⟨i0 + 1, by omega, by go_num, HQ9⟩
          case measure => simp [intOf]; omega
      · have hiI : ¬ ((i0 : Int) + 1) < (n2 : Int) := by omega
        go_wp2_with fail
        refine (alive_any _).mono ?_
        rintro e w8 ⟨rfl, b8⟩
        have HG := Lib.hid (bt (bt HBel.out hq.out) b8)
        clear b8
        go_wp2
        go_ret
        exact ⟨rfl, HG.out⟩
end Go.Proofs.Ytmfjenhonghkpaa
