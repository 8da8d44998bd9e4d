/- Layer 16: a No more. -/
import Derived.Test.YtmfjenhonghkpaaUq
namespace Go.Proofs.Ytmfjenhonghkpaa
open Go.RowKit
set_option linter.unusedVariables false
set_option linter.unusedSimpArgs false

theorem foN_app : ∀ (l m : List NR) (d : Int), nodesL d (foN (l ++ m)) = nodesL d (foN l) ++ nodesL d (foN m)
  | [], m, d => by simp [foN, nodesL]
  | x :: l, m, d => by simp only [List.cons_append, foN, nodesL, foN_app l m d, List.append_assoc]
theorem right_split (v : Int) (k : Fo) : rightB v k = (voteB v && rightL 1 (nodesL 2 k)) := by
  have hw : wrap64 ((1 : Int) + 1) = 2 := by unfold wrap64; omega
  unfold rightB
  simp only [nodesL, hw, List.append_nil, rightL, okN]
  simp
theorem right_three {v : Int} {k : Fo} (h : rightB v k = true) : rightB 3 k = true := by
  rw [right_split] at h ⊢
  simp only [Bool.and_eq_true] at h
  rw [h.2]; rfl
theorem right_more {v : Int} {l : List NR} (h : rightB v (foN l) = true) (hc : (foN l).cnt + 1 < 64) : rightB v (foN (l ++ [⟨3, none, 0, .nil⟩])) = true := by
  rw [right_split] at h ⊢
  simp only [Bool.and_eq_true] at h
  rw [h.1, foN_app]
  simp only [foN, nodesL, List.append_nil, List.nil_append]
  rw [rightL_snoc, h.2, nodesL_cnt]
  have h1 : 1 + (foN l).cnt + 1 ≤ 64 := by omega
  simp [okN, voteB, h1]
theorem votes_more (l : List NR) : noF (foN (l ++ [⟨3, none, 0, .nil⟩])) = true := by
  unfold noF
  rw [← nodesL_votes _ 2, foN_app]
  simp [foN, nodesL]
/-- Both appends. -/
theorem OwnN.grown {w w' : World} {B : Nat} {A : Option Addr} {c : Nat} {l : List NR} {row : Option Nat} (h : OwnN w B A c l) (hg : w.grownBy w' row) (hr : ∀ r, row = some r → r < B) : OwnN w' B A c l := by
  refine World.ownsRow.kept h hg ?_
  rcases hb : (Value.slice A l.length c).ownBlock with _ | k
  · exact .inl rfl
  · exact .inr (fun e => by have := (h.lt k hb).1; have := hr k e.symm; omega)
theorem grown_setN (w : World) (g i : Nat) (v : Value) : w.grownBy (w.setCell ⟨g, i, none⟩ v) (some g) := by
  have h := ((Below.refl 0 w).setCell (p := ⟨g, i, none⟩) (Nat.zero_le _) v)
  exact ⟨h.os, h.tape, h.output, h.size, fun k hk hne => Below.heap_setCell w _ v k (fun e => hne (by rw [e]))⟩
theorem grown_of' {w w' : World} (hb : Below w.heap.size w w') (row : Option Nat) : w.grownBy w' row := ⟨hb.os, hb.tape, hb.output, hb.size, fun k hk _ => hb.block k hk⟩
theorem wpList_append_run {P : Program} {w : World} {ops : Array Oper} {rest : List Oper} {o : Oper} {a : Act} {Q : Exit → Act → World → Prop} (hgd : o.guard = none) (s x : Operand) (t : TypeId)
    (ho : o.op = .call { callee := .builtin .append, args := #[s, x], argTypes := #[t, t] }) (sv xv v : Value) (w' : World) (hs : a.eval s = sv) (hx : a.eval x = xv) (hrun : (Builtin.append_ #[t, t] o.type #[sv, xv]).run P w = .ok v w') (h : wpList P ops Q rest (a.put o.dst v) w') :
    wpList P ops Q (o :: rest) a w := by
  refine wpList_plain hgd fun _ hK => ?_
  unfold Oper.wp execOp
  simp only [ho, resolve, invoke, builtin, Sem.run_bind, Sem.run_pure, Result.andThen_ok, List.map_toArray, List.map_cons, List.map_nil, hs, hx, hrun]
  exact hK _ _ h

set_option maxHeartbeats 2000000 in
theorem voteMore_walk (o : NodeV) (w : World) (ho : NodeOk w o) : Calls Try.prog 7 #[o.val] w fun e w' => e = .returned (.bool true) ∧ Below w.heap.size w w' := by
  obtain ⟨v, A, k, c⟩ := o
  obtain ⟨_, _, ht⟩ := ho
  show Calls Try.prog _ #[.agg #[.int .i64 v, .slice A k.len c]] w _
  obtain ⟨m, hm⟩ : ∃ m, m = k.len := ⟨_, rfl⟩
  rw [← hm]
  have Hm := Lib.hid hm
  clear hm
  obtain ⟨W1, hW1⟩ : ∃ W1, W1 = w.alloc (.cells #[.int .i64 v, .slice A m c] 24) := ⟨_, rfl⟩
  have k1 : Blk W1 w.heap.size 24 #[.int .i64 v, .slice A m c] := by rw [hW1]; exact Blk.new _ _ _
  have b1 : Below w.heap.size w W1 := by rw [hW1]; exact ba _ _
  have ht1 := ht.bt b1
  have c0 := k1.cell 0
  have c1 := k1.cell 1
  simp only [List.getElem?_toArray, List.getElem?_cons_zero, List.getElem?_cons_succ] at c0 c1
  have HW1 := Lib.hid hW1
  have hr := right_any v A k c W1 ht1.len ht1.fo
  rw [← Hm.out] at hr
  have HR := Lib.hid hr
  have HT := Lib.hid (And.intro ht1 (And.intro k1 b1))
  rw [hW1] at c0 c1
  clear hW1 ht1 k1 b1 ht hr
  rcases hrb : rightB v k with _ | _
  · rw [hrb] at HR
    go_enter Try.func7, Try.ntmps7
    go_wp2_with fail
    rw [← HW1.out]
    refine HR.out.mono ?_
    rintro e w2 ⟨rfl, b2⟩
    clear c0 c1
    go_wp2_with fail
    refine (alive_any _).mono ?_
    rintro e w3 ⟨rfl, b3⟩
    have HF := Lib.hid (bt (bt HT.out.2.2 b2) b3)
    clear b2 b3
    go_wp2
    go_ret
    exact ⟨rfl, HF.out⟩
  rw [hrb] at HR
  have HB := Lib.hid hrb
  clear hrb
  go_enter Try.func7, Try.ntmps7
  go_wp2_with fail
  rw [← HW1.out]
  refine HR.out.mono ?_
  rintro e w2 ⟨rfl, b2⟩
  clear c0 c1
  have k2 := HT.out.2.1.below b2 HT.out.2.1.lt
  have c0 := k2.cell 0
  have c1 := k2.cell 1
  simp only [List.getElem?_toArray, List.getElem?_cons_zero, List.getElem?_cons_succ] at c0 c1
  have hcb : k.cnt + 1 ≤ 64 := right_cnt HB.out
  obtain ⟨C, hC⟩ : ∃ C, C = k.cnt := ⟨_, rfl⟩
  have hcn := count_any k v A m c Hm w2 (HT.out.1.bt b2) (by omega)
  rw [← hC] at hcn hcb
  have HN := Lib.hid hcn
  have HCC := Lib.hid hC
  have H2 := Lib.hid (And.intro k2 b2)
  clear hcn k2 b2 hC
  go_wp2_with fail
  refine HN.out.mono ?_
  rintro e w3 ⟨rfl, b3⟩
  clear c0 c1
  by_cases hc63 : (64 : Int) ≤ (C : Int) + 1
  · have hc63N : 64 ≤ C + 1 := by omega
    have hc63D : decide (64 ≤ ((C + 1 : Nat) : Int)) = true := decide_eq_true (by omega)
    go_wp2_with fail
    refine (alive_any _).mono ?_
    rintro e w4 ⟨rfl, b4⟩
    have HG := Lib.hid (bt (bt (bt HT.out.2.2 H2.out.2) b3) b4)
    clear b3 b4
    go_wp2
    go_ret
    exact ⟨rfl, HG.out⟩
  have hc63D : decide (64 ≤ ((C + 1 : Nat) : Int)) = false := decide_eq_false (by omega)
  have hlt63 : C + 1 < 64 := by omega
  have HLT := Lib.hid hlt63
  have k3 := H2.out.1.below b3 H2.out.1.lt
  have ht3 := (HT.out.1.bt H2.out.2).bt b3
  have hb3 := bt (bt HT.out.2.2 H2.out.2) b3
  obtain ⟨l, hl, hok, hrow⟩ := of_fo k A ht3.fo
  have hll : l.length = m := by rw [← foN_len, hl, Hm.out]
  have hm64 : m ≤ 64 := by
    have h1 : ∀ f : Fo, f.len ≤ f.cnt := by
      intro f
      induction f with
      | nil => exact Nat.le_refl _
      | cons v k r _ ih2 => simp only [Fo.len, Fo.cnt]; omega
    have h2 := h1 k
    rw [← Hm.out, ← HCC.out] at h2
    omega
  -- u
  obtain ⟨W4, hW4⟩ : ∃ W4, W4 = w3.alloc (.cells #[.int .i64 v, .slice none 0 0] 24) := ⟨_, rfl⟩
  have k34 : Blk W4 w3.heap.size 24 #[.int .i64 v, .slice none 0 0] := by rw [hW4]; exact Blk.new _ _ _
  have b34 : Below w3.heap.size w3 W4 := by rw [hW4]; exact ba _ _
  have s4 : W4.heap.size = w3.heap.size + 1 := by rw [hW4]; simp
  have k14 := k3.below b34 k3.lt
  obtain ⟨A2, c2, w5, hrun1, own5, b5⟩ := append_nodes (OwnN.nil W4 W4.heap.size) A c l 0 m rfl hll.symm (fun h => by
    obtain ⟨b, o, e, hlt, hr⟩ := hrow h
    exact ⟨b, o, e, RowN.below (B := w3.heap.size) b34 hlt l o hr⟩) (by simp; omega) (Nat.le_refl _)
  rw [Nat.zero_add] at hrun1
  rw [List.nil_append] at own5
  have k35 := k34.below b5 k34.lt
  have k15 := k14.below b5 k14.lt
  obtain ⟨W6, hW6⟩ : ∃ W6, W6 = w5.setCell ⟨w3.heap.size, 1, none⟩ (.slice A2 m c2) := ⟨_, rfl⟩
  have k36 : Blk W6 w3.heap.size 24 #[.int .i64 v, .slice A2 m c2] := by rw [hW6]; simpa using k35.set_ 1 (.slice A2 m c2)
  have k16 : Blk W6 w.heap.size 24 #[.int .i64 v, .slice A m c] := by rw [hW6]; exact k15.far (by have := k3.lt; dsimp only; omega) _
  have g6 : w5.grownBy W6 (some w3.heap.size) := by rw [hW6]; exact grown_setN _ _ _ _
  have own6 := own5.grown g6 (fun r e => by cases e; omega)
  obtain ⟨W7, hW7⟩ : ∃ W7, W7 = W6.alloc (.cells #[.int .i64 3, .slice none 0 0] 24) := ⟨_, rfl⟩
  have kq7 : Blk W7 W6.heap.size 24 #[.int .i64 3, .slice none 0 0] := by rw [hW7]; exact Blk.new _ _ _
  have b7 : Below W6.heap.size W6 W7 := by rw [hW7]; exact ba _ _
  have own7 := own6.grown (grown_of' b7 none) (fun r e => by cases e)
  have s6 : W4.heap.size ≤ W6.heap.size := Nat.le_trans b5.size g6.size
  obtain ⟨A3, c3, w8, hrun2, own8, b8⟩ := append_nodes own7 (some ⟨W6.heap.size, 0, none⟩) 1 [⟨3, none, 0, .nil⟩] m 1 hll.symm rfl (fun _ => ⟨_, _, rfl, (kq7.cell 0).trans rfl, (kq7.cell 1).trans rfl, trivial⟩) (by simp; omega) (by have := b7.size; omega)
  have k37 := k36.below b7 k36.lt
  have k38 := k37.below b8 (by omega)
  have k17 := k16.below b7 k16.lt
  have k18 := k17.below b8 (by have := k3.lt; omega)
  obtain ⟨W9, hW9⟩ : ∃ W9, W9 = w8.setCell ⟨w3.heap.size, 1, none⟩ (.slice A3 (m + 1 : Nat) c3) := ⟨_, rfl⟩
  have k39 : Blk W9 w3.heap.size 24 #[.int .i64 v, .slice A3 (m + 1) c3] := by rw [hW9]; simpa using k38.set_ 1 (.slice A3 (m + 1 : Nat) c3)
  have k19 : Blk W9 w.heap.size 24 #[.int .i64 v, .slice A m c] := by rw [hW9]; exact k18.far (by have := k3.lt; dsimp only; omega) _
  have g9 : w8.grownBy W9 (some w3.heap.size) := by rw [hW9]; exact grown_setN _ _ _ _
  have own9 := own8.grown g9 (fun r e => by cases e; omega)
  have bel9 : Below w3.heap.size w3 W9 := by
    have h5 : Below w3.heap.size w3 w5 := b34.trans (b5.mono (by omega))
    have h6 : Below w3.heap.size w3 W6 := h5.grown g6 h5.size (fun r e => by cases e; omega)
    have h8 : Below w3.heap.size w3 w8 := (h6.trans (b7.mono h6.size)).trans (b8.mono (by omega))
    exact h8.grown g9 h8.size (fun r e => by cases e; omega)
  have ht9 := ht3.bt bel9
  have hok9 : OkN W9 W9.heap.size (l ++ [⟨3, none, 0, .nil⟩]) := fun x hx => by
    rcases List.mem_append.1 hx with hx | hx
    · exact ((hok.below bel9).more bel9.size) x hx
    · simp only [List.mem_cons, List.not_mem_nil, or_false] at hx; subst hx; exact ⟨by simp [Fo.len], trivial⟩
  have htu := own9.tree hok9 (by simp only [maxLen, List.length_append, List.length_singleton]; omega)
  have hru : rightB v (foN (l ++ [⟨3, none, 0, .nil⟩])) = true := right_more (by rw [hl]; exact HB.out) (by rw [hl, ← HCC.out]; exact HLT.out)
  have hcu := commits_ok v A3 _ (m + 1) c3 (Lib.hid (by rw [foN_len, List.length_append, List.length_singleton, hll])) W9 htu hru false (by rw [says_no3 hru, votes_more]; simp)
  have r3 := right_three HB.out
  have hct := fun W' (hb : Below W9.heap.size W9 W') => commits_ok 3 A k m c Hm W' (ht9.bt hb) r3 false (by rw [says_no3 r3]; rfl)
  have HU := Lib.hid hcu
  have HCT := Lib.hid hct
  have HK9 := Lib.hid (And.intro k19 (bt hb3 bel9))
  -- the cells that the walk reads
  have a0 := k3.cell 0
  have a1 := k14.cell 1
  have a2 := k34.cell 1
  have f5 := k35.frozen 1
  have d5 := k35.cell 1
  have d6 := k36.cell 1
  have f8 := k38.frozen 1
  have d8 := k38.cell 1
  have d90 := k39.cell 0
  have d91 := k39.cell 1
  simp only [List.getElem?_toArray, List.getElem?_cons_zero, List.getElem?_cons_succ] at a0 a1 a2 d5 d6 d8 d90 d91
  have HWS := Lib.hid (And.intro hW4 (And.intro hW6 (And.intro hW7 hW9)))
  rw [hW4] at a1 a2 hrun1
  rw [hW6] at d6
  rw [hW7, hW6] at hrun2
  simp only [World.size_setCell] at hrun2
  rw [hW9] at d90 d91
  clear k3 k34 k14 k35 k15 k36 k16 k37 k38 k17 k18 k39 k19 kq7 own5 own6 own7 own8 own9 b34 b5 b7 b8 b3 g6 g9 bel9 ht9 hok9 htu hru hcu hct r3 hb3 ht3 hok hrow hl s4 s6 hW4 hW6 hW7 hW9 hm64 hlt63 hll hcb
  go_wp2_with (first | (at_builtin; refine wpList_append_run rfl (.tmp 21) (.tmp 23) 22 rfl _ _ _ w5 rfl rfl hrun1 ?_) | (at_builtin; refine wpList_append_run rfl (.tmp 27) (.tmp 29) 22 rfl _ _ _ w8 rfl rfl hrun2 ?_))
  rw [← HWS.out.2.2.2]
  refine HU.out.mono ?_
  rintro e w10 ⟨rfl, b10⟩
  clear a0 a1 a2 d5 d6 f5 d8 f8 d90 d91 hrun1 hrun2
  have k10 := HK9.out.1.below b10 HK9.out.1.lt
  have c1 := k10.cell 1
  simp only [List.getElem?_toArray, List.getElem?_cons_zero, List.getElem?_cons_succ] at c1
  have HC2 := Lib.hid (HCT.out w10 b10)
  have HB10 := Lib.hid (bt HK9.out.2 b10)
  clear k10 b10
  go_wp2_with fail
  refine HC2.out.mono ?_
  rintro e w11 ⟨rfl, b11⟩
  clear c1
  go_wp2_with fail
  refine (alive_any _).mono ?_
  rintro e w12 ⟨rfl, b12⟩
  have HG := Lib.hid (bt (bt HB10.out b11) b12)
  clear b11 b12
  go_wp2
  go_ret
  exact ⟨rfl, HG.out⟩
end Go.Proofs.Ytmfjenhonghkpaa
