/- Layer 4: Read on any bytes: what it answers; the program's. -/
import Derived.Test.YtoahmifmoekjoaaRead
namespace Go.Proofs.Ytoahmifmoekjoaa
open Go.RowKit
set_option linter.unusedVariables false
set_option linter.unusedSimpArgs false

/-- From byte at_ on: the variables, or the first fault and its place. -/
def readsGo (b : List UInt8) : Nat → Nat → List (Int × List UInt8) → List (Int × List UInt8) × Nat × Int
  | 0, _, acc => (acc, 0, 0)
  | k + 1, at_, acc => if at_ < b.length then (if (nextR (b.drop at_)).2.2.2 = 0 then readsGo b k (at_ + (nextR (b.drop at_)).2.2.1) (acc ++ [(((nextR (b.drop at_)).1 : Int), (nextR (b.drop at_)).2.1)]) else ([], at_, (nextR (b.drop at_)).2.2.2)) else (acc, 0, 0)
def readsR (b : List UInt8) : List (Int × List UInt8) × Nat × Int := readsGo b (b.length + 1) 0 []
/-- What a Read hands out. -/
def RsO (w : World) (R : List (Int × List UInt8) × Nat × Int) (e : Ending) (w' : World) : Prop := ∃ A2 c2 n2, e = .returned (.tuple #[.slice A2 n2 c2, .agg #[.int .i64 R.2.1, .int .i64 R.2.2]]) ∧ Hid (n2 = R.1.length) ∧ VarsAt w' w'.heap.size A2 R.1 ∧ Below w.heap.size w w'
theorem readsGo_end (b : List UInt8) (f at_ : Nat) (acc : List (Int × List UInt8)) (h : ¬ at_ < b.length) : readsGo b f at_ acc = (acc, 0, 0) := by
  cases f with
  | zero => rfl
  | succ k => rw [readsGo, if_neg h]
theorem readsGo_err (b : List UInt8) (f at_ : Nat) (acc : List (Int × List UInt8)) (h : at_ < b.length) (e : Int) (he : ¬ e = 0) (i : Nat) (d : List UInt8) (n : Nat) (hx : nextR (b.drop at_) = (i, d, n, e)) : readsGo b (f + 1) at_ acc = ([], at_, e) := by
  rw [readsGo, if_pos h, hx, if_neg he]
theorem readsGo_go (b : List UInt8) (f at_ : Nat) (acc : List (Int × List UInt8)) (h : at_ < b.length) (i : Nat) (d : List UInt8) (n : Nat) (hx : nextR (b.drop at_) = (i, d, n, 0)) : readsGo b (f + 1) at_ acc = readsGo b f (at_ + n) (acc ++ [((i : Int), d)]) := by
  rw [readsGo, if_pos h, hx, if_pos rfl]

set_option maxHeartbeats 2000000 in
theorem reads_any (A : Option Addr) (b : List UInt8) (c : Nat) (w : World) (hle : b.length ≤ c) (hm : c ≤ 9223372036854775807) (hbl : b.length ≤ 900000) (hs : Bs w w.heap.size A b) (R : List (Int × List UInt8) × Nat × Int) (hR : Hid (R = readsR b)) :
    Calls Try.prog 17 #[.slice A b.length c] w (RsO w R) := by
  obtain ⟨i0, hi, hz0, hz1, hz2⟩ := info_parts Try.infoVar2
  go_enter Try.func17, Try.ntmps17
  go_wp2_with fail
  go_loopw [4, 5] (fun v a wr => ∃ (f : Nat) (v1 : List (Int × List UInt8)) (xs : List Value) (at_ : Nat) (q : Value), q = v ∧ Hid (R = readsGo b f at_ v1) ∧ Hid (v1.length ≤ at_) ∧ a = .int .i64 at_ ∧ at_ ≤ b.length ∧ b.length < at_ + f ∧ wr.ownsRow (w.heap.size + 1) 24 2 q v1.length xs ∧ VCells wr q.ownBlock xs v1 ∧ Blk wr w.heap.size 38 #[.int .i64 0, .int .i64 0] ∧ Below w.heap.size w wr)
    (fun _ a _ => b.length - (intOf a).toNat)
  case atStart => exact ⟨b.length + 1, [], [], 0, _, rfl, Lib.hid hR.out, Lib.hid (by simp), rfl, Nat.zero_le _, by omega, World.ownsRow_nil _ _ _ _, trivial, Blk.new _ _ _, ba _ _⟩
  case round =>
    obtain ⟨f, v1, xs, at_, q, rfl, hRR, hv1, rfl, hat, hfu, hown, hvc, hF, hb⟩ := hrel
    have q0 := hF.cell 0
    have q1 := hF.cell 1
    have f0 := hF.frozen 0
    have f1 := hF.frozen 1
    simp only [List.getElem?_toArray, List.getElem?_cons_zero, List.getElem?_cons_succ] at q0 q1
    by_cases hlt : at_ < b.length
    · obtain ⟨f, rfl⟩ : ∃ z, f = z + 1 := ⟨f - 1, by omega⟩
      obtain ⟨⟨i, d, n, e0⟩, hnx⟩ : ∃ r, nextR (b.drop at_) = r := ⟨_, rfl⟩
      have hca : ¬ c = at_ := by omega
      have hbd := hs.bt hb
      have hcall := next_at (A.map fun x => x.add at_) (b.drop at_) (b.length - at_) (c - at_) wr (by simp) (by omega) (by omega) (bs_dropM hbd at_) _ hnx
      by_cases h0 : e0 = 0
      · subst h0
        have hsm := nextR_some (b.drop at_) (by rw [hnx])
        rw [hnx] at hsm
        simp only [List.length_drop] at hsm
        have hRR2 : Hid (R = readsGo b f (at_ + n) (v1 ++ [((i : Int), d)])) := Lib.hid (by rw [hRR.out]; exact readsGo_go b f at_ v1 hlt i d n hnx)
        clear hnx hRR
        go_wp2_with fail
        refine hcall.mono ?_
        clear hcall
        rintro e w1 ⟨A1, c1, rfl, hn1, hb1, hl1, hm1⟩
        simp only at hn1 hl1
        have hv1l : v1.length ≤ 1000000 := by have := hv1.out; omega
        have hlt2 : ∀ k, q.ownBlock = some k → w.heap.size + 1 ≤ k ∧ k < wr.heap.size := fun k hk => World.ownsRow.lt hown k hk
        have hbA := bt hb1 (bt (ba w1 (.cells #[.int .i64 i, .slice A1 d.length c1] 24)) (ba _ (.cells #[.int .i64 i, .slice A1 d.length c1] 24)))
        have hown3 := row_below hown hbA
        have hnew : ∀ j u, [Value.int .i64 i, .slice A1 d.length c1][j]? = some u → ((w1.alloc (.cells #[.int .i64 i, .slice A1 d.length c1] 24)).alloc (.cells #[.int .i64 i, .slice A1 d.length c1] 24)).cell? ((⟨(w1.alloc (.cells #[.int .i64 i, .slice A1 d.length c1] 24)).heap.size, 0, none⟩ : Addr).add j) = some u := by
          intro j u hu
          rw [Addr.add_lit, World.cell?_alloc_at _ _ _ _ rfl, Nat.zero_add]
          simpa using hu
        rw [World.size_alloc] at hnew
        have hdn : DAt ((w1.alloc (.cells #[.int .i64 i, .slice A1 d.length c1] 24)).alloc (.cells #[.int .i64 i, .slice A1 d.length c1] 24)) q.ownBlock A1 d := by
          refine DAt.below (w := w1) (fun hn => ?_) (bt (ba _ _) (ba _ _))
          obtain ⟨bb, oo, e, h1, h2, h3⟩ := hn1 hn
          exact ⟨bb, oo, e, fun e' => by have := (hlt2 bb e'.symm).2; omega, h2, h3⟩
        have hvc3 := VCells.map (fun A d h => DAt.below h hbA) xs v1 hvc
        have hFA := hF.below hbA hF.lt
        have hbB := bt hb hbA
        have hsz1 : w.heap.size ≤ w1.heap.size := Nat.le_trans hb.size hb1.size
        clear q0 q1 f0 f1 hbd hn1 hown hvc hF
        go_wp2_with (at_builtin; refine wpList_append_own_at _ rfl (.tmp 26) (.tmp 28) 31 rfl (w.heap.size + 1) 24 i0 _ 2 32 Try.underlying31 hi hz0 hz1 hz2 rfl (by decide) q v1.length xs rfl hown3 ⟨w1.heap.size + 1, 0, none⟩ 1 1 [.int .i64 i, .slice A1 d.length c1] rfl rfl hnew (by intro u hu; simp at hu; rcases hu with rfl | rfl <;> rfl) (by simp only [maxLen]; omega) (by omega) (by simp only [World.size_alloc]; omega) ?_; intro q' w' hown4 hgr4 _ hbk4)
        have hbk5 : q'.ownBlock = q.ownBlock ∨ q'.ownBlock = some ((w1.alloc (.cells #[.int .i64 i, .slice A1 d.length c1] 24)).alloc (.cells #[.int .i64 i, .slice A1 d.length c1] 24)).heap.size := hbk4
        have hvc4 := VCells.map (fun A d h => DAt.grown h hgr4 hbk5) _ _ (VCells.snoc (id := (i : Int)) (c := c1) hdn xs v1 hvc3)
        go_roundw
        case rel =>
          refine ⟨f, v1 ++ [((i : Int), d)], _, at_ + n, _, rfl, hRR2, Lib.hid (by rw [List.length_append]; have := hv1.out; simp; omega), by go_num, by omega, by omega, ?_, hvc4, hFA.kept hgr4 (fun e => by have := (hlt2 _ e.symm).1; omega), hbB.grown hgr4 hbB.size (fun k e => by have := (hlt2 k e).1; omega)⟩
          rw [List.length_append]; exact hown4
        case measure => simp [intOf]; omega
      · have hse := nextR_err (b.drop at_) (by rw [hnx]; exact h0)
        rw [hnx] at hse
        simp only at hse
        obtain ⟨rfl, rfl, rfl⟩ := hse
        have hRv : R = ([], at_, e0) := by rw [hRR.out]; exact readsGo_err b f at_ v1 hlt e0 h0 _ _ _ hnx
        have hne : (e0 != 0) = true := bne_iff_ne.2 h0
        subst hRv
        clear hnx hRR hown hvc q0 q1 f0 f1 h0
        go_wp2_with fail
        refine hcall.mono ?_
        clear hcall
        rintro e w1 ⟨A1, c1, rfl, hn1, hb1, hl1, hm1⟩
        have hF1 := (hF.below hb1 hF.lt).alloc (.cells #[.int .i64 0, .slice A1 0 c1] 24)
        have hbf := bt hb (bt hb1 (ba w1 (.cells #[.int .i64 0, .slice A1 0 c1] 24)))
        have q0 := hF1.cell 0
        have q1 := hF1.cell 1
        have f0 := hF1.frozen 0
        have f1 := hF1.frozen 1
        simp only [List.getElem?_toArray, List.getElem?_cons_zero, List.getElem?_cons_succ] at q0 q1
        have g0 := hF1.set_ 0 (.int .i64 at_)
        have z0' := g0.cell 1
        simp at z0'
        have g1 := g0.set_ 1 (.int .i64 e0)
        have z0 := g1.cell 0
        have z1 := g1.cell 1
        simp at z0 z1
        have hbz := (hbf.setCell (p := ⟨w.heap.size, 0, none⟩) (Nat.le_refl _) (.int .i64 at_)).setCell (p := ⟨w.heap.size, 1, none⟩) (Nat.le_refl _) (.int .i64 e0)
        clear g0 g1 hF1 hF hn1 hb1 hbf hb
        go_wp2
        refine bodyPost_ret (by simp [results, Try.results17, go_sem, z0, z1]; try rfl) rfl ?_
        exact ⟨none, 0, 0, rfl, Lib.hid rfl, VarsAt.nil, hbz⟩
    · have hat2 : at_ = b.length := by omega
      subst hat2
      obtain ⟨A2, c2, hv, hva⟩ := hvc.vars hown rfl
      subst hv
      have hRv : R = (v1, 0, 0) := by rw [hRR.out]; exact readsGo_end b f _ v1 (by omega)
      subst hRv
      clear hRR hlt
      go_wp2
      have hfin0 := hF.set_ 0 (.int .i64 0)
      have z0' := hfin0.cell 1
      simp at z0'
      have hfin := hfin0.set_ 1 (.int .i64 0)
      have z0 := hfin.cell 0
      have z1 := hfin.cell 1
      simp at z0 z1
      refine bodyPost_ret (by simp [results, Try.results17, go_sem, z0, z1]; rfl) rfl ?_
      refine ⟨A2, c2, _, rfl, Lib.hid rfl, ?_, (hb.setCell (Nat.le_refl _) _).setCell (Nat.le_refl _) _⟩
      refine (hva.keep fun p _ => ?_).more (by simp [World.setCell])
      rw [setCell_self _ (by simpa using z0' ), setCell_self _ q0]
end Go.Proofs.Ytoahmifmoekjoaa
