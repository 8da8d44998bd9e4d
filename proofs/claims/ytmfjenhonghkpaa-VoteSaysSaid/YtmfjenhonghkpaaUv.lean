/- Layer 16: VoteOrder. -/
import Derived.Test.YtmfjenhonghkpaaUt
import Derived.Test.YtmfjenhonghkpaaUr
import Derived.Test.YtmfjenhonghkpaaInvT
namespace Go.Proofs.Ytmfjenhonghkpaa
open Go.RowKit
set_option linter.unusedVariables false
set_option linter.unusedSimpArgs false

theorem rowN_at {w : World} {b : Nat} : ∀ (l : List NR) (o r : Nat) (hr : r < l.length), RowN w b o l → w.cell? ⟨b, o + r * 2, none⟩ = some (.int .i64 (l[r]'hr).v) ∧ w.cell? ⟨b, o + r * 2 + 1, none⟩ = some (.slice (l[r]'hr).A (l[r]'hr).k.len (l[r]'hr).c)
  | [], _, _, hr, _ => by simp at hr
  | x :: l, o, 0, _, h => ⟨h.1, h.2.1⟩
  | x :: l, o, r + 1, hr, h => by
    have := rowN_at l (o + 2) r (by simpa using hr) h.2.2
    rw [show o + (r + 1) * 2 = o + 2 + r * 2 by omega]
    exact this
theorem step_append_run {P : Program} {w : World} {ops : Array Oper} {o : Oper} {a : Act} {K : Act → World → Prop} {Q : Exit → Act → World → Prop} {E : Prop} (hgd : o.guard = none) (s x : Operand) (t : TypeId)
    (ho : o.op = .call { callee := .builtin .append, args := #[s, x], argTypes := #[t, t] }) (sv xv v : Value) (w' : World) (hs : a.eval s = sv) (hx : a.eval x = xv) (hrun : (Builtin.append_ #[t, t] o.type #[sv, xv]).run P w = .ok v w') (h : K (a.put o.dst v) w') :
    if Region.wanted o (yielded ops a.tmps) = true then Oper.wp P o a w K Q else E := by
  have hw : Region.wanted o (yielded ops a.tmps) = true := by simp [Region.wanted, hgd]
  rw [if_pos hw]
  unfold Oper.wp execOp
  simp only [ho, resolve, invoke, builtin, Sem.run_bind, Sem.run_pure, Result.andThen_ok, List.map_toArray, List.map_cons, List.map_nil, hs, hx, hrun]
  exact h
theorem ltf {a : Bool} (h : a = false) (h2 : a = true) : False := by rw [h] at h2; cases h2
/-- The list that is under way. -/
def PreO (w3 : World) (v : Int) (l : List NR) (q : Nat) (A2 : Option Addr) (i c2 : Nat) (u : World) : Prop :=
  Blk u w3.heap.size 24 #[.int .i64 v, .slice A2 i c2] ∧ OwnN u (w3.heap.size + 1) A2 c2 (rotN l q i) ∧ Below w3.heap.size w3 u ∧ w3.heap.size + 1 ≤ u.heap.size
theorem PreO.below {w3 u u' : World} {v : Int} {l : List NR} {q i c2 : Nat} {A2 : Option Addr} (h : PreO w3 v l q A2 i c2 u) (hb : Below u.heap.size u u') : PreO w3 v l q A2 i c2 u' :=
  ⟨h.1.below hb h.1.lt, h.2.1.grown (grown_of' hb none) (fun r e => by cases e), h.2.2.1.trans (hb.mono h.2.2.1.size), Nat.le_trans h.2.2.2 hb.size⟩
def VOr (w3 : World) (v : Int) (l : List NR) (q : Nat) (A2 : Option Addr) (c2 t1 n c b o i r m2 : Nat) (tn : Int) (x : NR) (j : Nat) (z : Value) (w : World) : Prop :=
  match j with
  | 0 => z = .pointer (some ⟨w3.heap.size, 1, none⟩)
  | 1 => z = .slice A2 i c2
  | 2 => z = .pointer (some ⟨t1, 1, none⟩)
  | 3 => z = .slice (some ⟨b, o, none⟩) n c
  | 4 => z = .int .i64 (i : Nat)
  | 5 => z = .int .i64 tn
  | 6 => z = .int .i64 (q : Nat)
  | 7 => z = .int .i64 ((i + q : Nat) : Int)
  | 8 => z = .int .i64 (n : Nat)
  | 9 => z = .int .i64 (r : Nat)
  | 10 => z = .pointer (some ⟨b, o + r * 2, none⟩)
  | 11 => z = .agg #[.int .i64 x.v, .slice x.A m2 x.c]
  | 12 => ∃ qb, z = .slice (some ⟨qb, 0, none⟩) 1 1 ∧ RowN w qb 0 [x] ∧ w3.heap.size + 1 ≤ qb
  | 13 => ∃ A3 c3, z = .slice A3 (i + 1) c3 ∧ Blk w w3.heap.size 24 #[.int .i64 v, .slice A2 i c2] ∧ OwnN w (w3.heap.size + 1) A3 c3 (rotN l q (i + 1))
  | 14 => z = .pointer (some ⟨w3.heap.size, 1, none⟩)
  | 15 => ∃ A3 c3, PreO w3 v l q A3 (i + 1) c3 w
  | _ => True
def EOr (gu k : Nat) (u u' : World) : Prop := match k with
  | 12 => Below u.heap.size u u'
  | 13 => True
  | 15 => ∃ val, u' = u.setCell ⟨gu, 1, none⟩ val
  | _ => u' = u
theorem EOr.same {gu k : Nat} {u u' : World} (h : EOr gu k u u') (h1 : k ≠ 12) (h2 : k ≠ 13) (h3 : k ≠ 15) : u' = u := by
  unfold EOr at h
  split at h
  · exact absurd rfl h1
  · exact absurd rfl h2
  · exact absurd rfl h3
  · exact h
theorem Blk.farC {W : World} (p : Addr) (val : Value) (a : Addr) (h : a.block ≠ p.block) : (W.setCell p val).cell? a = W.cell? a := by
  unfold World.cell?
  rw [Below.heap_setCell W p val a.block h]
theorem VOr.mono {w3 : World} {v : Int} {l : List NR} {q : Nat} {A2 : Option Addr} {c2 t1 n c b o i r m2 : Nat} {tn : Int} {x : NR} {j k : Nat} {z : Value} {u u' : World} (he : EOr w3.heap.size k u u') (hjk : j ≠ k) (h12 : j = 12 ∧ k = 13 → False) (h13 : j = 13 ∧ (k = 15 ∨ k = 12) → False) (h15 : j = 15 ∧ (k = 12 ∨ k = 13) → False) (h : VOr w3 v l q A2 c2 t1 n c b o i r m2 tn x j z u) : VOr w3 v l q A2 c2 t1 n c b o i r m2 tn x j z u' := by
  unfold VOr at h ⊢
  split at h
  all_goals first | exact h | skip
  · by_cases k13 : k = 13
    · exact (h12 ⟨rfl, k13⟩).elim
    · by_cases k15 : k = 15
      · subst k15
        obtain ⟨qb, e, h1, h2⟩ := h
        obtain ⟨val, rfl⟩ := he
        exact ⟨qb, e, ⟨((Blk.farC _ _ _ (by dsimp only; omega)).trans h1.1), ((Blk.farC _ _ _ (by dsimp only; omega)).trans h1.2.1), trivial⟩, h2⟩
      · rw [he.same (fun e => hjk e.symm) k13 k15]; exact h
  · by_cases k12 : k = 12
    · exact (h13 ⟨rfl, .inr k12⟩).elim
    · by_cases k15 : k = 15
      · exact (h13 ⟨rfl, .inl k15⟩).elim
      · rw [he.same k12 (fun e => hjk e.symm) k15]; exact h
  · by_cases k12 : k = 12
    · exact (h15 ⟨rfl, .inl k12⟩).elim
    · by_cases k13 : k = 13
      · exact (h15 ⟨rfl, .inr k13⟩).elim
      · rw [he.same k12 k13 (fun e => hjk e.symm)]; exact h
def TOr (w3 : World) (v : Int) (l : List NR) (q : Nat) (A2 : Option Addr) (i c2 : Nat) (j : Nat) (u : World) : Prop := match j with
  | 1 => PreO w3 v l q A2 i c2 u
  | 13 => PreO w3 v l q A2 i c2 u
  | _ => True
theorem TOr.mono {w3 : World} {v : Int} {l : List NR} {q i c2 : Nat} {A2 : Option Addr} {j k : Nat} {u u' : World} (he : EOr w3.heap.size k u u') (hkj : k ≠ j) (h1 : j = 1 ∧ (k = 13 ∨ k = 15) → False) (h13 : j = 13 ∧ k = 15 → False) (h : TOr w3 v l q A2 i c2 j u) : TOr w3 v l q A2 i c2 j u' := by
  unfold TOr at h ⊢
  split at h
  · by_cases k12 : k = 12
    · subst k12; exact h.below he
    · by_cases k13 : k = 13
      · exact (h1 ⟨rfl, .inl k13⟩).elim
      · by_cases k15 : k = 15
        · exact (h1 ⟨rfl, .inr k15⟩).elim
        · rw [he.same k12 k13 k15]; exact h
  · by_cases k12 : k = 12
    · subst k12; exact h.below he
    · by_cases k15 : k = 15
      · exact (h13 ⟨rfl, k15⟩).elim
      · rw [he.same k12 hkj k15]; exact h
  · trivial
set_option maxRecDepth 100000 in
set_option maxHeartbeats 8000000 in
theorem voteOrder_walk (o : NodeV) (tn : Int) (w : World) (ho : NodeOk w o) (t1 : -9223372036854775808 ≤ tn) (t2 : tn ≤ 9223372036854775807) : Calls Try.prog 5 #[o.val, .int .i64 tn] w fun e w' => e = .returned (.bool true) ∧ Below w.heap.size w w' := by
  obtain ⟨v, A, k, c⟩ := o
  obtain ⟨_, _, ht⟩ := ho
  show Calls Try.prog _ #[.agg #[.int .i64 v, .slice A k.len c], .int .i64 tn] w _
  obtain ⟨m, hm⟩ : ∃ m, m = k.len := ⟨_, rfl⟩
  rw [← hm]
  have Hm := Lib.hid hm
  clear hm
  obtain ⟨W1, hW1⟩ : ∃ W1, W1 = w.alloc (.cells #[.int .i64 v, .slice A m c] 24) := ⟨_, rfl⟩
  have k1 : Blk W1 w.heap.size 24 #[.int .i64 v, .slice A m c] := by rw [hW1]; exact Blk.new _ _ _
  have b1 : Below w.heap.size w W1 := by rw [hW1]; exact ba _ _
  have ht1 := ht.bt b1
  have c0 := k1.cell 0
  have c1 := k1.cell 1
  simp only [List.getElem?_toArray, List.getElem?_cons_zero, List.getElem?_cons_succ] at c0 c1
  have HW1 := Lib.hid hW1
  have hr := right_any v A k c W1 ht1.len ht1.fo
  rw [← Hm.out] at hr
  have HR := Lib.hid hr
  have HT := Lib.hid (And.intro ht1 (And.intro k1 b1))
  rw [hW1] at c0 c1
  clear hW1 ht1 k1 b1 ht hr
  rcases hrb : rightB v k with _ | _
  · rw [hrb] at HR
    go_enter Try.func5, Try.ntmps5
    go_wp2_with fail
    rw [← HW1.out]
    refine HR.out.mono ?_
    rintro e w2 ⟨rfl, b2⟩
    clear c0 c1
    go_wp2_with fail
    refine (alive_any _).mono ?_
    rintro e w3 ⟨rfl, b3⟩
    have HF := Lib.hid (bt (bt HT.out.2.2 b2) b3)
    clear b2 b3
    go_wp2
    go_ret
    exact ⟨rfl, HF.out⟩
  rw [hrb] at HR
  have HB := Lib.hid hrb
  clear hrb
  go_enter Try.func5, Try.ntmps5
  go_wp2_with fail
  rw [← HW1.out]
  refine HR.out.mono ?_
  rintro e w2 ⟨rfl, b2⟩
  clear c0 c1
  have k2 := HT.out.2.1.below b2 HT.out.2.1.lt
  have c0 := k2.cell 0
  have c1 := k2.cell 1
  simp only [List.getElem?_toArray, List.getElem?_cons_zero, List.getElem?_cons_succ] at c0 c1
  have hcb : k.cnt + 1 ≤ 64 := right_cnt HB.out
  have k3 := k2
  have ht3 := HT.out.1.bt b2
  have hb3 := bt HT.out.2.2 b2
  obtain ⟨l, hl, hok, hrow⟩ := of_fo k A ht3.fo
  have hll : l.length = m := by rw [← foN_len, hl, Hm.out]
  have hm64 : m ≤ 64 := by
    have h1 : ∀ f : Fo, f.len ≤ f.cnt := by
      intro f
      induction f with
      | nil => exact Nat.le_refl _
      | cons v k r _ ih2 => simp only [Fo.len, Fo.cnt]; omega
    have h2 := h1 k
    rw [← Hm.out] at h2
    omega
  obtain ⟨q, hq63, hqe⟩ := and_low tn 63 (by omega)
  obtain ⟨b, o, hA⟩ : ∃ b o, Hid (0 < m → A = some ⟨b, o, none⟩ ∧ b < w2.heap.size ∧ RowN w2 b o l) := by
    by_cases h0 : 0 < m
    · obtain ⟨b, o, e, hb, hr⟩ := hrow (by omega)
      exact ⟨b, o, Lib.hid (fun _ => ⟨e, hb, hr⟩)⟩
    · exact ⟨0, 0, Lib.hid (fun h => absurd h h0)⟩
  have HLL := Lib.hid (And.intro hl (And.intro hok (And.intro hll (And.intro ht3 hb3))))
  have HK3 := Lib.hid k3
  have HQE := Lib.hid hqe
  have d0 := k3.cell 0
  simp only [List.getElem?_toArray, List.getElem?_cons_zero] at d0
  have hpre : PreO w2 v l q none 0 0 (w2.alloc (.cells #[.int .i64 v, .slice none 0 0] 24)) := ⟨Blk.new _ _ _, by unfold rotN; exact OwnN.nil _ _, ba _ _, by simp⟩
  have HPRE := Lib.hid hpre
  have e1 := (k3.alloc (.cells #[.int .i64 v, .slice none 0 0] 24)).cell 1
  simp only [List.getElem?_toArray, List.getElem?_cons_zero, List.getElem?_cons_succ] at e1
  clear hl hok hll hrow ht3 hb3 k3 k2 b2 hpre hqe hcb
  go_wp2_with fail
  clear c0 c1 d0 e1
  go_loopw [7] (fun z wr => ∃ i0 : Nat, i0 ≤ m ∧ z = .int .i64 i0 ∧ Hid (∃ A2 c2, PreO w2 v l q A2 i0 c2 wr)) (fun z _ => m - (intOf z).toNat)
  case atStart => exact ⟨0, Nat.zero_le _, rfl, Lib.hid ⟨none, 0, HPRE.out⟩⟩
  case round =>
    obtain ⟨i0, him, rfl, hI⟩ := hrel
    by_cases hi0 : i0 < m
    · have hiI : (i0 : Int) < (m : Int) := by omega
      obtain ⟨A2, c2, hP⟩ := hI.out
      have hrl : (i0 + q) % m < l.length := by rw [HLL.out.2.2.1]; exact Nat.mod_lt _ (by omega)
      obtain ⟨r, hr⟩ : ∃ r, r = (i0 + q) % m := ⟨_, rfl⟩
      rw [← hr] at hrl
      obtain ⟨x, hx⟩ : ∃ x, x = l[r]'hrl := ⟨_, rfl⟩
      obtain ⟨rfl, hbw, hrw⟩ := hA.out (by omega)
      have hat := rowN_at l o r hrl hrw
      rw [← hx] at hat
      obtain ⟨m2, hm2⟩ : ∃ m2, m2 = x.k.len := ⟨_, rfl⟩
      rw [← hm2] at hat
      have hsucc : rotN l q (i0 + 1) = rotN l q i0 ++ [x] := by
        rw [rotN_succ, HLL.out.2.2.1, ← hr, List.getD_eq_getElem?_getD, List.getElem?_eq_getElem hrl, hx]; rfl
      have hrm : r < m := by rw [← HLL.out.2.2.1]; exact hrl
      have hrI : (r : Int) < (m : Int) := by omega
      have hq63i : bits .and .i64 tn 63 = (q : Int) := HQE.out
      have hm0N : ¬ m = 0 := by omega
      have hwa : IntKind.i64.wrap ((i0 : Int) + (q : Int)) = (i0 : Int) + (q : Int) := IntWalk.i64_in _ (by omega)
      have hrem : Int.tmod ((i0 : Int) + (q : Int)) (m : Int) = (r : Int) := by
        rw [Int.tmod_eq_emod_of_nonneg (by omega)]
        rw [hr, Int.natCast_emod, Int.natCast_add]
      have hwr : IntKind.i64.wrap (r : Int) = (r : Int) := IntWalk.i64_in _ (by omega)
      have hm0 : ((m : Int) == 0) = false := by simp; omega
      have hm0' : ¬ (m : Int) = 0 := by omega
      have HS := Lib.hid (And.intro hsucc (And.intro hm2 (And.intro hat hbw)))
      clear hsucc hm2 hat hbw hrw hrl hx hr hI
      go_wp2_with fail
      refine wp_region_invT (F := ?FO) (V := VOr w2 v l q A2 c2 w.heap.size m c b o i0 r m2 tn x) (dead := fun j => if j = 12 then some 13 else if j = 13 then some 15 else none) (T := TOr w2 v l q A2 i0 c2) (C := fun u' => (Below w2.heap.size w2 u' ∧ w2.heap.size + 1 ≤ u'.heap.size)) (E := EOr w2.heap.size) (by kernel_rfl) (by kernel_rfl) (by kernel_rfl) (fun x_1 => ?hFO) ?hmonoO ?hTmO ?hTO ?hCO ?stepO ?finO
      case hFO => simp only [mkA, Act.put, List.setIfInBounds_toArray, List.set_cons_succ, List.set_cons_zero, Nat.reduceAdd, Nat.zero_add]; first | with_reducible rfl | rfl
      case hmonoO => exact fun k' j z u u' he hjk hwt hdd hv => VOr.mono he hjk (fun hh => hdd (by rw [hh.1, hh.2]; rfl)) (fun hh => by rcases hh with ⟨rfl, rfl | rfl⟩; exact hdd rfl; exact ltf hwt (by kernel_rfl)) (fun hh => by rcases hh with ⟨rfl, rfl | rfl⟩ <;> exact ltf hwt (by kernel_rfl)) hv
      case hTmO => exact fun k' j u u' he hkj hwt hv => TOr.mono he hkj (fun hh => by rcases hh with ⟨rfl, rfl | rfl⟩ <;> exact ltf hwt (by kernel_rfl)) (fun hh => by rcases hh with ⟨rfl, rfl⟩; exact ltf hwt (by kernel_rfl)) hv
      case hTO => exact fun j => by unfold TOr; split <;> first | exact hP.below ((Below.refl _ _).drew) | trivial
      case hCO => exact ⟨hP.2.2.1.drew, hP.2.2.2⟩
      case stepO =>
        refine AllOps.cons (fun x_1 u hC hT hp K hK => ?_) ?_
        · clear hp hT
          go_simp
          refine hK _ _ _ hC rfl (by exact rfl) ?_
          first | (simp only [Act.put, List.setIfInBounds_toArray, List.set_cons_succ, List.set_cons_zero]; done) | simp [Act.put]
        refine AllOps.cons (fun x_1 u hC hT hp K hK => ?_) ?_
        · simp [KnownTill, Region.binds, VOr] at hp
          have cc := (show PreO w2 v l q A2 i0 c2 u from hT).1.cell 1
          simp only [List.getElem?_toArray, List.getElem?_cons_zero, List.getElem?_cons_succ] at cc
          clear hT
          go_simp
          refine hK _ _ _ hC rfl (by exact rfl) ?_
          first | (simp only [Act.put, List.setIfInBounds_toArray, List.set_cons_succ, List.set_cons_zero, hp]; done) | simp [Act.put, hp]
        refine AllOps.cons (fun x_1 u hC hT hp K hK => ?_) ?_
        · clear hp hT
          go_simp
          refine hK _ _ _ hC rfl (by exact rfl) ?_
          first | (simp only [Act.put, List.setIfInBounds_toArray, List.set_cons_succ, List.set_cons_zero]; done) | simp [Act.put]
        refine AllOps.cons (fun x_1 u hC hT hp K hK => ?_) ?_
        · simp [KnownTill, Region.binds, VOr] at hp
          clear hT
          have cc := (HK3.out.below hC.1 HK3.out.lt).cell 1
          simp only [List.getElem?_toArray, List.getElem?_cons_zero, List.getElem?_cons_succ] at cc
          go_simp
          refine hK _ _ _ hC rfl (by exact rfl) ?_
          first | (simp only [Act.put, List.setIfInBounds_toArray, List.set_cons_succ, List.set_cons_zero, hp]; done) | simp [Act.put, hp]
        refine AllOps.cons (fun x_1 u hC hT hp K hK => ?_) ?_
        · clear hp hT
          go_simp
          refine hK _ _ _ hC rfl (by exact rfl) ?_
          first | (simp only [Act.put, List.setIfInBounds_toArray, List.set_cons_succ, List.set_cons_zero]; done) | simp [Act.put]
        refine AllOps.cons (fun x_1 u hC hT hp K hK => ?_) ?_
        · clear hp hT
          go_simp
          refine hK _ _ _ hC rfl (by exact rfl) ?_
          first | (simp only [Act.put, List.setIfInBounds_toArray, List.set_cons_succ, List.set_cons_zero]; done) | simp [Act.put]
        refine AllOps.cons (fun x_1 u hC hT hp K hK => ?_) ?_
        · simp [KnownTill, Region.binds, VOr] at hp
          clear hT
          go_simp
          refine hK _ _ _ hC rfl (by exact (by first | rfl | simp [hq63i])) ?_
          first | (simp only [Act.put, List.setIfInBounds_toArray, List.set_cons_succ, List.set_cons_zero, hp, hq63i]; done) | simp [Act.put, hp, hq63i]
        refine AllOps.cons (fun x_1 u hC hT hp K hK => ?_) ?_
        · simp [KnownTill, Region.binds, VOr] at hp
          clear hT
          go_simp
          refine hK _ _ _ hC rfl (by exact (by first | rfl | simp)) ?_
          first | (simp only [Act.put, List.setIfInBounds_toArray, List.set_cons_succ, List.set_cons_zero, hp, hwa]; done) | simp [Act.put, hp, hwa]
        refine AllOps.cons (fun x_1 u hC hT hp K hK => ?_) ?_
        · clear hp hT
          go_simp
          refine hK _ _ _ hC rfl (by exact rfl) ?_
          first | (simp only [Act.put, List.setIfInBounds_toArray, List.set_cons_succ, List.set_cons_zero]; done) | simp [Act.put]
        refine AllOps.cons (fun x_1 u hC hT hp K hK => ?_) ?_
        · simp [KnownTill, Region.binds, VOr] at hp
          clear hT
          go_simp
          refine hK _ _ _ hC rfl (by exact (by first | rfl | simp [hrem])) ?_
          first | (simp only [Act.put, List.setIfInBounds_toArray, List.set_cons_succ, List.set_cons_zero, hp, hrem, hwr, hm0, hm0', hm0N]; done) | simp [Act.put, hp, hrem, hwr, hm0, hm0', hm0N]
        refine AllOps.cons (fun x_1 u hC hT hp K hK => ?_) ?_
        · simp [KnownTill, Region.binds, VOr] at hp
          clear hT
          go_simp
          refine hK _ _ _ hC rfl (by exact (by first | rfl | simp)) ?_
          first | (simp only [Act.put, List.setIfInBounds_toArray, List.set_cons_succ, List.set_cons_zero, hp]; done) | simp [Act.put, hp]
        refine AllOps.cons (fun x_1 u hC hT hp K hK => ?_) ?_
        · simp [KnownTill, Region.binds, VOr] at hp
          clear hT
          have q0 := (hC.1.cell (p := ⟨b, o + r * 2, none⟩) HS.out.2.2.2).trans HS.out.2.2.1.1
          have q1 := (hC.1.cell (p := ⟨b, o + r * 2 + 1, none⟩) HS.out.2.2.2).trans HS.out.2.2.1.2
          go_simp
          refine hK _ _ _ hC rfl (by exact rfl) ?_
          first | (simp only [Act.put, List.setIfInBounds_toArray, List.set_cons_succ, List.set_cons_zero, hp]; done) | simp [Act.put, hp]
        refine AllOps.cons (fun x_1 u hC hT hp K hK => ?_) ?_
        · simp [KnownTill, Region.binds, VOr] at hp
          clear hT
          have kn := Blk.new u 24 #[.int .i64 x.v, .slice x.A m2 x.c]
          go_simp
          refine hK (.slice (some ⟨u.heap.size, 0, none⟩) 1 1) _ _ ⟨hC.1.trans ((ba _ _).mono hC.1.size), by have := hC.2; simp; omega⟩ (ba _ _) ⟨u.heap.size, rfl, ⟨(kn.cell 0).trans rfl, by rw [← HS.out.2.1]; exact (kn.cell 1).trans rfl, trivial⟩, hC.2⟩ ?_
          first | (simp only [Act.put, List.setIfInBounds_toArray, List.set_cons_succ, List.set_cons_zero, hp]; done) | simp [Act.put, hp]
        refine AllOps.cons (fun x_1 u hC hT hp K hK => ?_) ?_
        · simp [KnownTill, Region.binds, VOr] at hp
          obtain ⟨h1, qb, h12, hrq, hqb⟩ := hp
          have hT' : PreO w2 v l q A2 i0 c2 u := hT
          obtain ⟨A3, c3, w8, hrun, own8, b8⟩ := append_nodes hT'.2.1 (some ⟨qb, 0, none⟩) 1 [x] i0 1 (rotN_len l q i0).symm rfl (fun _ => ⟨qb, 0, rfl, hrq⟩) (by rw [rotN_len]; simp; omega) hT'.2.2.2
          rw [← HS.out.1] at own8
          refine step_append_run rfl (.tmp 32) (.tmp 43) 22 rfl (.slice A2 i0 c2) (.slice (some ⟨qb, 0, none⟩) 1 1) _ w8 (by show x_1 1 = _; exact h1) (by show x_1 12 = _; exact h12) hrun ?_
          refine hK _ _ _ ⟨hT'.2.2.1.trans (b8.mono (by omega)), Nat.le_trans hT'.2.2.2 b8.size⟩ trivial ⟨A3, c3, rfl, hT'.1.below b8 (by omega), own8⟩ rfl
        refine AllOps.cons (fun x_1 u hC hT hp K hK => ?_) ?_
        · clear hp hT
          go_simp
          refine hK _ _ _ hC rfl (by exact rfl) ?_
          first | (simp only [Act.put, List.setIfInBounds_toArray, List.set_cons_succ, List.set_cons_zero]; done) | simp [Act.put]
        refine AllOps.cons (fun x_1 u hC hT hp K hK => ?_) ?_
        · simp [KnownTill, Region.binds, VOr] at hp
          clear hT
          have hp' := hp
          obtain ⟨h14, ⟨A3, c3, h13, k3', own3⟩, _⟩ := hp'
          have cc := k3'.cell 1
          have ff := k3'.frozen 1
          simp only [List.getElem?_toArray, List.getElem?_cons_zero, List.getElem?_cons_succ] at cc
          have kF : Blk (u.setCell ⟨w2.heap.size, 1, none⟩ (.slice A3 (i0 + 1) c3)) w2.heap.size 24 #[.int .i64 v, .slice A3 (i0 + 1) c3] := by simpa using k3'.set_ 1 (.slice A3 (i0 + 1) c3)
          have gF := grown_setN u w2.heap.size 1 (.slice A3 (i0 + 1) c3)
          have bF := hC.1.grown gF hC.1.size (fun r e => by cases e; omega)
          have sF := Nat.le_trans hC.2 gF.size
          have pF : PreO w2 v l q A3 (i0 + 1) c3 (u.setCell ⟨w2.heap.size, 1, none⟩ (.slice A3 (i0 + 1) c3)) := ⟨kF, own3.grown gF (fun r e => by cases e; omega), bF, sF⟩
          go_simp
          refine hK undef _ _ ⟨bF, sF⟩ ⟨_, rfl⟩ ⟨A3, c3, pF⟩ ?_
          first | (simp only [Act.put, List.setIfInBounds_toArray, List.set_cons_succ, List.set_cons_zero, hp, h13]; done) | simp [Act.put, hp, h13]
        exact AllOps.nil
      case finO =>
        intro x9 u9 hC hV
        obtain ⟨A3, c3, hPP⟩ := hV 15 (by decide) rfl
        have HPP := Lib.hid (⟨A3, c3, hPP⟩ : ∃ A2 c2, PreO w2 v l q A2 (i0 + 1) c2 u9)
        clear hV hC hPP hP
        go_wp2
        go_roundw
        case rel => exact ⟨i0 + 1, by omega, by go_num, HPP⟩
        case measure => simp [intOf]; omega
    · obtain rfl : i0 = m := by omega
      have hiI : ¬ (i0 : Int) < (i0 : Int) := by omega
      obtain ⟨A2, c2, hP⟩ := hI.out
      obtain ⟨hl, hok, hll, ht3, hb3⟩ := HLL.out
      have hperm := rot_perm l q
      rw [hll] at hperm
      have hkl := HB.out
      rw [← hl] at hkl
      obtain ⟨hr2, hs2, hf2⟩ := order_facts (v := v) hperm hkl
      rw [hl] at hs2 hf2
      have htu : TreeAt wr A2 (foN (rotN l q i0)) := by
        refine OwnN.tree (B := w2.heap.size + 1) (c := c2) hP.2.1 ?_ (by rw [rotN_len]; simp only [maxLen]; omega)
        exact fun x hx => ((hok.below hP.2.2.1).more hP.2.2.1.size) x (hperm.mem_iff.1 hx)
      have htt := ht3.bt hP.2.2.1
      have hbw := bt hb3 hP.2.2.1
      have ku := hP.1
      have kt := HK3.out.below hP.2.2.1 HK3.out.lt
      obtain ⟨s, hs⟩ : ∃ s, s = saysB v k := ⟨_, rfl⟩
      obtain ⟨F, hF⟩ : ∃ F, F = flowsM v k := ⟨_, rfl⟩
      have hmu : Hid (i0 = (foN (rotN l q i0)).len) := Lib.hid (by rw [foN_len, rotN_len])
      have HALL := Lib.hid (And.intro hr2 (And.intro (hs.trans hs2.symm) (And.intro (hF.trans hf2.symm) (And.intro hs hF))))
      clear hperm hkl hr2 hs2 hf2 hl hok hll ht3 hb3 hP hs hF hI
      have ct0 := kt.cell 0
      have ct1 := kt.cell 1
      have cu0 := ku.cell 0
      have cu1 := ku.cell 1
      simp only [List.getElem?_toArray, List.getElem?_cons_zero, List.getElem?_cons_succ] at ct0 ct1 cu0 cu1
      have hcall := says_ok v A k i0 c Hm wr htt HB.out s HALL.out.2.2.2.1
      have HC := Lib.hid hcall
      have HKK := Lib.hid (And.intro kt (And.intro ku (And.intro htt (And.intro htu hbw))))
      clear hcall kt ku htt htu hbw
      go_wp2_with fail
      refine HC.out.mono ?_
      rintro e v1 ⟨rfl, bz⟩
      have kt := HKK.out.1.below bz HKK.out.1.lt
      have ku := HKK.out.2.1.below bz HKK.out.2.1.lt
      have htt := HKK.out.2.2.1.bt bz
      have htu := HKK.out.2.2.2.1.bt bz
      have hbw := bt HKK.out.2.2.2.2 bz
      clear ct0 ct1 cu0 cu1 HC HKK bz
      have ct0 := kt.cell 0
      have ct1 := kt.cell 1
      have cu0 := ku.cell 0
      have cu1 := ku.cell 1
      simp only [List.getElem?_toArray, List.getElem?_cons_zero, List.getElem?_cons_succ] at ct0 ct1 cu0 cu1
      have hcall := says_ok v A2 (foN (rotN l q i0)) i0 c2 hmu v1 htu HALL.out.1 s HALL.out.2.1
      have HC := Lib.hid hcall
      have HKK := Lib.hid (And.intro kt (And.intro ku (And.intro htt (And.intro htu hbw))))
      clear hcall kt ku htt htu hbw
      go_wp2_with fail
      refine HC.out.mono ?_
      rintro e v2 ⟨rfl, bz⟩
      have kt := HKK.out.1.below bz HKK.out.1.lt
      have ku := HKK.out.2.1.below bz HKK.out.2.1.lt
      have htt := HKK.out.2.2.1.bt bz
      have htu := HKK.out.2.2.2.1.bt bz
      have hbw := bt HKK.out.2.2.2.2 bz
      clear ct0 ct1 cu0 cu1 HC HKK bz
      have ct0 := kt.cell 0
      have ct1 := kt.cell 1
      have cu0 := ku.cell 0
      have cu1 := ku.cell 1
      simp only [List.getElem?_toArray, List.getElem?_cons_zero, List.getElem?_cons_succ] at ct0 ct1 cu0 cu1
      have hcall := flows_ok v A k i0 c Hm v2 htt HB.out
      rw [← HALL.out.2.2.2.2] at hcall
      have HC := Lib.hid hcall
      have HKK := Lib.hid (And.intro kt (And.intro ku (And.intro htt (And.intro htu hbw))))
      clear hcall kt ku htt htu hbw
      go_wp2_with fail
      refine HC.out.mono ?_
      rintro e v3 ⟨rfl, bz⟩
      have kt := HKK.out.1.below bz HKK.out.1.lt
      have ku := HKK.out.2.1.below bz HKK.out.2.1.lt
      have htt := HKK.out.2.2.1.bt bz
      have htu := HKK.out.2.2.2.1.bt bz
      have hbw := bt HKK.out.2.2.2.2 bz
      clear ct0 ct1 cu0 cu1 HC HKK bz
      have ct0 := kt.cell 0
      have ct1 := kt.cell 1
      have cu0 := ku.cell 0
      have cu1 := ku.cell 1
      simp only [List.getElem?_toArray, List.getElem?_cons_zero, List.getElem?_cons_succ] at ct0 ct1 cu0 cu1
      have hcall := flows_ok v A2 (foN (rotN l q i0)) i0 c2 hmu v3 htu HALL.out.1
      rw [← HALL.out.2.2.1] at hcall
      have HC := Lib.hid hcall
      have HKK := Lib.hid (And.intro kt (And.intro ku (And.intro htt (And.intro htu hbw))))
      clear hcall kt ku htt htu hbw
      go_wp2_with fail
      refine HC.out.mono ?_
      rintro e v4 ⟨rfl, bz⟩
      have kt := HKK.out.1.below bz HKK.out.1.lt
      have ku := HKK.out.2.1.below bz HKK.out.2.1.lt
      have htt := HKK.out.2.2.1.bt bz
      have htu := HKK.out.2.2.2.1.bt bz
      have hbw := bt HKK.out.2.2.2.2 bz
      clear ct0 ct1 cu0 cu1 HC HKK bz
      have HBW := Lib.hid hbw
      clear kt ku htt htu hbw
      go_wp2_with fail
      refine (alive_any _).mono ?_
      rintro e v9 ⟨rfl, b9⟩
      have HG := Lib.hid (bt HBW.out b9)
      clear b9
      go_wp2
      go_ret
      exact ⟨rfl, HG.out⟩
end Go.Proofs.Ytmfjenhonghkpaa
