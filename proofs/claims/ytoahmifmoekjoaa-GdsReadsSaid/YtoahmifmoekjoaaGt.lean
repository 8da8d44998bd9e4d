/- Layer 4: Read on any bytes: the document's; the law. -/
import Derived.Test.YtoahmifmoekjoaaGs
import Derived.Test.YtoahmifmoekjoaaRn
import Derived.Test.YtoahmifmoekjoaaOpenG
namespace Go.Proofs.Ytoahmifmoekjoaa
open Go.RowKit
set_option linter.unusedVariables false
set_option linter.unusedSimpArgs false

theorem refnext_at (A : Option Addr) (b : List UInt8) (n c : Nat) (w : World) (hn : n = b.length) (hle : n ≤ c) (hm : c ≤ 9223372036854775807) (hb9 : n ≤ 1000000000) (hs : Bs w w.heap.size A b) (R : Nat × List UInt8 × Nat × Int) (hR : nextR b = R) :
    Calls Try.prog 16 #[.slice A n c] w (NextOut w R) := by
  subst hn; rw [← hR]; exact refnext_any A b c w hle hm hb9 hs

set_option maxHeartbeats 2000000 in
theorem refreads_any (A : Option Addr) (b : List UInt8) (c : Nat) (w : World) (hle : b.length ≤ c) (hm : c ≤ 9223372036854775807) (hbl : b.length ≤ 900000) (hs : Bs w w.heap.size A b) (R : List (Int × List UInt8) × Nat × Int) (hR : Hid (R = readsR b)) :
    Calls Try.prog 18 #[.slice A b.length c] w (RsO w R) := by
  obtain ⟨i0, hi, hz0, hz1, hz2⟩ := info_parts Try.infoVar2
  go_enter Try.func18, Try.ntmps18
  go_wp2_with fail
  go_loopw [4, 5] (fun v a wr => ∃ (f : Nat) (v1 : List (Int × List UInt8)) (xs : List Value) (at_ : Nat) (q : Value), q = v ∧ Hid (R = readsGo b f at_ v1) ∧ Hid (v1.length ≤ at_) ∧ a = .int .i64 at_ ∧ at_ ≤ b.length ∧ b.length < at_ + f ∧ wr.ownsRow (w.heap.size + 1) 24 2 q v1.length xs ∧ VCells wr q.ownBlock xs v1 ∧ Blk wr w.heap.size 38 #[.int .i64 0, .int .i64 0] ∧ Below w.heap.size w wr)
    (fun _ a _ => b.length - (intOf a).toNat)
  case atStart => exact ⟨b.length + 1, [], [], 0, _, rfl, Lib.hid hR.out, Lib.hid (by simp), rfl, Nat.zero_le _, by omega, World.ownsRow_nil _ _ _ _, trivial, Blk.new _ _ _, ba _ _⟩
  case round =>
    obtain ⟨f, v1, xs, at_, q, rfl, hRR, hv1, rfl, hat, hfu, hown, hvc, hF, hb⟩ := hrel
    have q0 := hF.cell 0
    have q1 := hF.cell 1
    have f0 := hF.frozen 0
    have f1 := hF.frozen 1
    simp only [List.getElem?_toArray, List.getElem?_cons_zero, List.getElem?_cons_succ] at q0 q1
    by_cases hlt : at_ < b.length
    · obtain ⟨f, rfl⟩ : ∃ z, f = z + 1 := ⟨f - 1, by omega⟩
      obtain ⟨⟨i, d, n, e0⟩, hnx⟩ : ∃ r, nextR (b.drop at_) = r := ⟨_, rfl⟩
      have hca : ¬ c = at_ := by omega
      have hbd := hs.bt hb
      have hcall := refnext_at (A.map fun x => x.add at_) (b.drop at_) (b.length - at_) (c - at_) wr (by simp) (by omega) (by omega) (by omega) (bs_dropM hbd at_) _ hnx
      by_cases h0 : e0 = 0
      · subst h0
        have hsm := nextR_some (b.drop at_) (by rw [hnx])
        rw [hnx] at hsm
        simp only [List.length_drop] at hsm
        have hRR2 : Hid (R = readsGo b f (at_ + n) (v1 ++ [((i : Int), d)])) := Lib.hid (by rw [hRR.out]; exact readsGo_go b f at_ v1 hlt i d n hnx)
        clear hnx hRR
        go_wp2_with fail
        refine hcall.mono ?_
        clear hcall
        rintro e w1 ⟨A1, c1, rfl, hn1, hb1, hl1, hm1⟩
        simp only at hn1 hl1
        have hv1l : v1.length ≤ 1000000 := by have := hv1.out; omega
        have hlt2 : ∀ k, q.ownBlock = some k → w.heap.size + 1 ≤ k ∧ k < wr.heap.size := fun k hk => World.ownsRow.lt hown k hk
        have hbA := bt hb1 (bt (ba w1 (.cells #[.int .i64 i, .slice A1 d.length c1] 24)) (ba _ (.cells #[.int .i64 i, .slice A1 d.length c1] 24)))
        have hown3 := row_below hown hbA
        have hnew : ∀ j u, [Value.int .i64 i, .slice A1 d.length c1][j]? = some u → ((w1.alloc (.cells #[.int .i64 i, .slice A1 d.length c1] 24)).alloc (.cells #[.int .i64 i, .slice A1 d.length c1] 24)).cell? ((⟨(w1.alloc (.cells #[.int .i64 i, .slice A1 d.length c1] 24)).heap.size, 0, none⟩ : Addr).add j) = some u := by
          intro j u hu
          rw [Addr.add_lit, World.cell?_alloc_at _ _ _ _ rfl, Nat.zero_add]
          simpa using hu
        rw [World.size_alloc] at hnew
        have hdn : DAt ((w1.alloc (.cells #[.int .i64 i, .slice A1 d.length c1] 24)).alloc (.cells #[.int .i64 i, .slice A1 d.length c1] 24)) q.ownBlock A1 d := by
          refine DAt.below (w := w1) (fun hn => ?_) (bt (ba _ _) (ba _ _))
          obtain ⟨bb, oo, e, h1, h2, h3⟩ := hn1 hn
          exact ⟨bb, oo, e, fun e' => by have := (hlt2 bb e'.symm).2; omega, h2, h3⟩
        have hvc3 := VCells.map (fun A d h => DAt.below h hbA) xs v1 hvc
        have hFA := hF.below hbA hF.lt
        have hbB := bt hb hbA
        have hsz1 : w.heap.size ≤ w1.heap.size := Nat.le_trans hb.size hb1.size
        clear q0 q1 f0 f1 hbd hn1 hown hvc hF
        go_wp2_with (at_builtin; refine wpList_append_own_at _ rfl (.tmp 26) (.tmp 28) 31 rfl (w.heap.size + 1) 24 i0 _ 2 32 Try.underlying31 hi hz0 hz1 hz2 rfl (by decide) q v1.length xs rfl hown3 ⟨w1.heap.size + 1, 0, none⟩ 1 1 [.int .i64 i, .slice A1 d.length c1] rfl rfl hnew (by intro u hu; simp at hu; rcases hu with rfl | rfl <;> rfl) (by simp only [maxLen]; omega) (by omega) (by simp only [World.size_alloc]; omega) ?_; intro q' w' hown4 hgr4 _ hbk4)
        have hbk5 : q'.ownBlock = q.ownBlock ∨ q'.ownBlock = some ((w1.alloc (.cells #[.int .i64 i, .slice A1 d.length c1] 24)).alloc (.cells #[.int .i64 i, .slice A1 d.length c1] 24)).heap.size := hbk4
        have hvc4 := VCells.map (fun A d h => DAt.grown h hgr4 hbk5) _ _ (VCells.snoc (id := (i : Int)) (c := c1) hdn xs v1 hvc3)
        go_roundw
        case rel =>
          refine ⟨f, v1 ++ [((i : Int), d)], _, at_ + n, _, rfl, hRR2, Lib.hid (by rw [List.length_append]; have := hv1.out; simp; omega), by go_num, by omega, by omega, ?_, hvc4, hFA.kept hgr4 (fun e => by have := (hlt2 _ e.symm).1; omega), hbB.grown hgr4 hbB.size (fun k e => by have := (hlt2 k e).1; omega)⟩
          rw [List.length_append]; exact hown4
        case measure => simp [intOf]; omega
      · have hse := nextR_err (b.drop at_) (by rw [hnx]; exact h0)
        rw [hnx] at hse
        simp only at hse
        obtain ⟨rfl, rfl, rfl⟩ := hse
        have hRv : R = ([], at_, e0) := by rw [hRR.out]; exact readsGo_err b f at_ v1 hlt e0 h0 _ _ _ hnx
        have hne : (e0 != 0) = true := bne_iff_ne.2 h0
        subst hRv
        clear hnx hRR hown hvc q0 q1 f0 f1 h0
        go_wp2_with fail
        refine hcall.mono ?_
        clear hcall
        rintro e w1 ⟨A1, c1, rfl, hn1, hb1, hl1, hm1⟩
        have hF1 := (hF.below hb1 hF.lt).alloc (.cells #[.int .i64 0, .slice A1 0 c1] 24)
        have hbf := bt hb (bt hb1 (ba w1 (.cells #[.int .i64 0, .slice A1 0 c1] 24)))
        have q0 := hF1.cell 0
        have q1 := hF1.cell 1
        have f0 := hF1.frozen 0
        have f1 := hF1.frozen 1
        simp only [List.getElem?_toArray, List.getElem?_cons_zero, List.getElem?_cons_succ] at q0 q1
        have g0 := hF1.set_ 0 (.int .i64 at_)
        have z0' := g0.cell 1
        simp at z0'
        have g1 := g0.set_ 1 (.int .i64 e0)
        have z0 := g1.cell 0
        have z1 := g1.cell 1
        simp at z0 z1
        have hbz := (hbf.setCell (p := ⟨w.heap.size, 0, none⟩) (Nat.le_refl _) (.int .i64 at_)).setCell (p := ⟨w.heap.size, 1, none⟩) (Nat.le_refl _) (.int .i64 e0)
        clear g0 g1 hF1 hF hn1 hb1 hbf hb
        go_wp2
        refine bodyPost_ret (by simp [results, Try.results18, go_sem, z0, z1]; try rfl) rfl ?_
        exact ⟨none, 0, 0, rfl, Lib.hid rfl, VarsAt.nil, hbz⟩
    · have hat2 : at_ = b.length := by omega
      subst hat2
      obtain ⟨A2, c2, hv, hva⟩ := hvc.vars hown rfl
      subst hv
      have hRv : R = (v1, 0, 0) := by rw [hRR.out]; exact readsGo_end b f _ v1 (by omega)
      subst hRv
      clear hRR hlt
      go_wp2
      have hfin0 := hF.set_ 0 (.int .i64 0)
      have z0' := hfin0.cell 1
      simp at z0'
      have hfin := hfin0.set_ 1 (.int .i64 0)
      have z0 := hfin.cell 0
      have z1 := hfin.cell 1
      simp at z0 z1
      refine bodyPost_ret (by simp [results, Try.results18, go_sem, z0, z1]; rfl) rfl ?_
      refine ⟨A2, c2, _, rfl, Lib.hid rfl, ?_, (hb.setCell (Nat.le_refl _) _).setCell (Nat.le_refl _) _⟩
      refine (hva.keep fun p _ => ?_).more (by simp [World.setCell])
      rw [setCell_self _ (by simpa using z0' ), setCell_self _ q0]

theorem readsGo_len (b : List UInt8) : ∀ (f at_ : Nat) (acc : List (Int × List UInt8)), (∀ x ∈ acc, x.2.length ≤ 2048) → (∀ x ∈ (readsGo b f at_ acc).1, x.2.length ≤ 2048) ∧ (readsGo b f at_ acc).1.length ≤ acc.length + f := by
  intro f
  induction f with
  | zero => intro at_ acc h; exact ⟨h, Nat.le_refl _⟩
  | succ f ih =>
    intro at_ acc h
    by_cases hlt : at_ < b.length
    · obtain ⟨⟨i, d, n, e0⟩, hnx⟩ : ∃ r, nextR (b.drop at_) = r := ⟨_, rfl⟩
      by_cases h0 : e0 = 0
      · subst h0
        rw [readsGo_go b f at_ acc hlt i d n hnx]
        have hsm := nextR_some (b.drop at_) (by rw [hnx])
        rw [hnx] at hsm
        have := ih (at_ + n) (acc ++ [((i : Int), d)]) (fun x hx => by
          rcases List.mem_append.1 hx with hx | hx
          · exact h x hx
          · rw [List.mem_singleton.1 hx]; exact hsm.2.1)
        rw [List.length_append] at this
        exact ⟨this.1, by have := this.2; simp at this; omega⟩
      · rw [readsGo_err b f at_ acc hlt e0 h0 i d n hnx]
        exact ⟨by simp, by simp⟩
    · rw [readsGo_end b _ at_ acc hlt]
      exact ⟨h, by show acc.length ≤ _; omega⟩
theorem same_n (A1 A2 : Option Addr) (vs : List (Int × List UInt8)) (n1 n2 c1 c2 : Nat) (hn1 : Hid (n1 = vs.length)) (hn2 : Hid (n2 = vs.length)) (w : World) (hm : vs.length ≤ 9223372036854775807) (hl : ∀ x ∈ vs, x.2.length ≤ 9223372036854775807) (h1 : VarsAt w w.heap.size A1 vs) (h2 : VarsAt w w.heap.size A2 vs) :
    Calls Try.prog 13 #[.slice A1 n1 c1, .slice A2 n2 c2] w fun e w' => e = .returned (.bool true) ∧ ∃ n, w' = w.drewN n := by
  rw [hn1.out, hn2.out]
  exact same_yes A1 A2 vs c1 c2 w hm hl h1 h2
theorem below_drewN (w : World) (n : Nat) : Below w.heap.size w (w.drewN n) := by
  induction n with
  | zero => exact Below.refl _ _
  | succ n ih => exact ih.drew

theorem greads_big (A : Option Addr) (n c : Nat) (w : World) (hb : decide (3000 < (n : Int)) = true) : Calls Try.prog 5 #[.slice A n c] w fun e w' => e = .returned (.bool true) ∧ Below w.heap.size w w' := by
  go_enter Try.func5, Try.ntmps5
  go_wp2_with fail
  refine (alive_any _).mono ?_
  rintro e w1 ⟨rfl, hb1⟩
  go_wp2
  go_ret
  exact ⟨rfl, hb1⟩

set_option maxHeartbeats 2000000 in
theorem greads_all (A : Option Addr) (b : List UInt8) (n c : Nat) (hn : Hid (n = b.length)) (h1 : n ≤ c) (h2 : c ≤ 9223372036854775807) (w : World) (hbs : Bs w w.heap.size A b) (hb : decide (3000 < (n : Int)) = false) : Calls Try.prog 5 #[.slice A n c] w fun e w' => e = .returned (.bool true) ∧ Below w.heap.size w w' := by
  have hle : Hid (n ≤ 3000) := Lib.hid (by simp at hb; omega)
  obtain ⟨⟨L, ta, E⟩, hR⟩ : ∃ r, r = readsR b := ⟨_, rfl⟩
  have hlen := readsGo_len b (b.length + 1) 0 [] (by simp)
  rw [show readsGo b (b.length + 1) 0 [] = (L, ta, E) from hR.symm] at hlen
  obtain ⟨hl1, hl2⟩ := hlen
  simp only [List.length_nil, Nat.zero_add] at hl1 hl2
  have hl3 : L.length ≤ 9223372036854775807 := by have := hle.out; have := hn.out; omega
  have p1 : ∀ (w : World), Bs w w.heap.size A b → Calls Try.prog 17 #[.slice A n c] w (RsO w (L, ta, E)) := by
    intro w h
    have := reads_any A b c w (by rw [← hn.out]; exact h1) h2 (by rw [← hn.out]; have := hle.out; omega) h _ (Lib.hid hR)
    rwa [← hn.out] at this
  have p2 : ∀ (w : World), Bs w w.heap.size A b → Calls Try.prog 18 #[.slice A n c] w (RsO w (L, ta, E)) := by
    intro w h
    have := refreads_any A b c w (by rw [← hn.out]; exact h1) h2 (by rw [← hn.out]; have := hle.out; omega) h _ (Lib.hid hR)
    rwa [← hn.out] at this
  have P1 := Lib.hid p1
  have P2 := Lib.hid p2
  have HBS := Lib.hid hbs
  have HL1 := Lib.hid hl1
  have HL3 := Lib.hid hl3
  clear p1 p2 hbs hl1 hl2 hl3 hR h1 h2
  go_enter Try.func5, Try.ntmps5
  go_wp2_with fail
  refine (P1.out _ HBS.out).mono ?_
  rintro e w1 ⟨A2, c2, n2, rfl, hn2, hv2, hb1⟩
  simp only at hn2 hv2
  have k2 := Blk.new w1 38 #[.int .i64 ta, .int .i64 E]
  have hv2' := hv2.bt (ba w1 (.cells #[.int .i64 ta, .int .i64 E] 38))
  have hbw1 := bt hb1 (ba w1 (.cells #[.int .i64 ta, .int .i64 E] 38))
  clear hv2 hb1
  go_wp2_with fail
  refine (P2.out _ (HBS.out.bt hbw1)).mono ?_
  rintro e w3 ⟨A4, c4, n4, rfl, hn4, hv4, hb3⟩
  simp only at hn4 hv4
  have k4 := Blk.new w3 38 #[.int .i64 ta, .int .i64 E]
  have k3 := (k2.below hb3 k2.lt).alloc (.cells #[.int .i64 ta, .int .i64 E] 38)
  have hb34 := bt hb3 (ba w3 (.cells #[.int .i64 ta, .int .i64 E] 38))
  have hv2'' := hv2'.bt hb34
  have hv4' := hv4.bt (ba w3 (.cells #[.int .i64 ta, .int .i64 E] 38))
  have hbw3 := bt hbw1 hb34
  clear hv2' hv4 hb3 hb34 k2 hbw1
  go_wp2_with fail
  refine (alive_any _).mono ?_
  rintro e w5 ⟨rfl, hb5⟩
  have k5 := k4.below hb5 k4.lt
  have k6 := k3.below hb5 k3.lt
  have hsm := same_n A2 A4 L n2 n4 c2 c4 hn2 hn4 w5 HL3.out (fun x hx => Nat.le_trans (HL1.out x hx) (by omega)) (hv2''.bt hb5) (hv4'.bt hb5)
  have hbw5 := bt hbw3 hb5
  clear hv2'' hv4' hb5 hbw3 k3 k4
  go_wp2_with fail
  refine hsm.mono ?_
  clear hsm
  rintro e w6 ⟨rfl, nn, rfl⟩
  have hbn := below_drewN w5 nn
  have k7 := k5.below hbn k5.lt
  have k8 := k6.below hbn k6.lt
  have x0 := (k7).cell 0
  have x1 := (k7).cell 1
  simp only [List.getElem?_toArray, List.getElem?_cons_zero, List.getElem?_cons_succ] at x0 x1
  have y0 := (k8).cell 0
  have y1 := (k8).cell 1
  simp only [List.getElem?_toArray, List.getElem?_cons_zero, List.getElem?_cons_succ] at y0 y1
  have hbf := bt hbw5 hbn
  clear k5 k6 k7 k8 hbw5
  generalize w5.drewN nn = W at *
  go_wp2
  go_ret
  exact ⟨by simp, hbf⟩
theorem gdsReads_walk (A : Option Addr) (b : List UInt8) (c : Nat) (w : World) (hbm : Bs w w.heap.size A b) (h1 : b.length ≤ c) (h2 : c ≤ 9223372036854775807) : Calls Try.prog 5 #[.slice A b.length c] w fun e w' => e = .returned (.bool true) ∧ Below w.heap.size w w' := by
  rcases hb : decide (3000 < (b.length : Int)) with _ | _
  · exact greads_all A b _ c (Lib.hid rfl) h1 h2 w hbm hb
  · exact greads_big A _ c w hb
end Go.Proofs.Ytoahmifmoekjoaa
