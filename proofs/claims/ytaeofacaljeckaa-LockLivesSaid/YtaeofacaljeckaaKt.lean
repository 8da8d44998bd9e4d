/- Layer 12: a lock is taken in the document's table. -/
import Derived.Test.YtaeofacaljeckaaKs
namespace Go.Proofs.Ytaeofacaljeckaa
open Go.RowKit Go.Maps
set_option linter.unusedVariables false
set_option linter.unusedSimpArgs false

theorem OwnL.base {u : World} {B B' c : Nat} {A : Option Addr} {L : List LRow} (h : OwnL u B A c L) (hB : B' ≤ B) : OwnL u B' A c L := by
  unfold OwnL at h ⊢
  obtain ⟨h1, h2⟩ := h
  refine ⟨h1, ?_⟩
  rcases h2 with h2 | ⟨g', cap', cur, hv, hb, hrest⟩
  · exact .inl h2
  · exact .inr ⟨g', cap', cur, hv, Nat.le_trans hB hb, hrest⟩
/-- A table that owns its rows. -/
def OTab (w : World) (q n : Nat) (L : List LRow) : Prop := ∃ A2 c2, Blk w q 28 #[.slice A2 n c2] ∧ OwnL w (q + 1) A2 c2 L ∧ (L = [] → A2 = none ∧ c2 = 0)

def VNx (q x n c : Nat) (A : Option Addr) (L : List LRow) (i : Nat) (v : Value) (w : World) : Prop :=
  match i with
  | 0 => v = .pointer (some ⟨q, 0, none⟩)
  | 1 => v = .pointer (some ⟨q, 0, none⟩)
  | 2 => v = .pointer (some ⟨q, 0, none⟩)
  | 3 => v = .pointer (some ⟨q, 0, none⟩)
  | 4 => v = .slice none 0 0
  | 5 => v = .pointer (some ⟨x, 0, none⟩)
  | 6 => v = .pointer (some ⟨x, 0, none⟩)
  | 7 => v = .pointer (some ⟨x, 0, none⟩)
  | 8 => v = .slice A n c
  | 9 => ∃ A2 c2, v = .slice A2 n c2 ∧ OwnL w (q + 1) A2 c2 L ∧ (L = [] → A2 = none ∧ c2 = 0)
  | 10 => v = .pointer (some ⟨q, 0, none⟩)
  | 11 => v = .pointer (some ⟨q, 0, none⟩)
  | 12 => OTab w q n L
  | _ => True

def ENx (q k : Nat) (u u' : World) : Prop := match k with
  | 12 => u.grownBy u' (some q)
  | _ => Below u.heap.size u u'
def TNx (q j : Nat) (u : World) : Prop := match j with
  | 4 => Blk u q 28 #[.slice none 0 0]
  | 12 => Blk u q 28 #[.slice none 0 0]
  | _ => True
theorem ENx.grown {q k : Nat} {u u' : World} (he : ENx q k u u') : u.grownBy u' (some q) := by
  unfold ENx at he
  split at he
  · exact he
  · exact lbelow_grown he _
theorem VNx.mono {q x n c : Nat} {A : Option Addr} {L : List LRow} {k i : Nat} {v : Value} {u u' : World} (he : ENx q k u u') (hik : i ≠ k) (h : VNx q x n c A L i v u) : VNx q x n c A L i v u' := by
  unfold VNx at h ⊢
  split at h
  case h_10 =>
    obtain ⟨A2, c2, h1, h2, h3⟩ := h
    exact ⟨A2, c2, h1, h2.kept he.grown (fun r e => by cases e; omega), h3⟩
  case h_13 =>
    obtain ⟨A2, c2, h1, h2, h3⟩ := h
    unfold ENx at he
    split at he
    · exact absurd rfl hik
    · exact ⟨A2, c2, h1.below he h1.lt, h2.kept (lbelow_grown he none) (fun r e => by cases e), h3⟩
  all_goals exact h
theorem TNx.mono {q k j : Nat} {u u' : World} (he : ENx q k u u') (hkj : k ≠ j) (h : j = 4 ∧ k = 12 → False) (hv : TNx q j u) : TNx q j u' := by
  unfold TNx at hv ⊢
  split at hv
  · unfold ENx at he
    split at he
    · exact (h ⟨rfl, rfl⟩).elim
    · exact hv.below he hv.lt
  · unfold ENx at he
    split at he
    · exact absurd rfl hkj
    · exact hv.below he hv.lt
  · trivial
theorem alone_full {L : List LRow} (hok : LOk L) {k o : Int} {i : Nat} (hi : i < L.length) (h1 : (L[i]'hi).1 = k) (h2 : (L[i]'hi).2.1 = o) : putL L k o (aloneL L k o) = L := by
  obtain ⟨g1, g2⟩ := alone_at hok hi h1 h2
  refine put_same g1 fun x hx hb => ?_
  obtain ⟨x1, x2⟩ := atB_iff.1 hb
  have := at_same hok hx (List.getElem_mem hi) (x1.trans h1.symm) (x2.trans h2.symm)
  rw [g2, ← this, ← x1, ← x2]
theorem put_idx {L : List LRow} (hok : LOk L) {k o : Int} {a : Bool} {i : Nat} (hi : i < L.length) (h1 : (L[i]'hi).1 = k) (h2 : (L[i]'hi).2.1 = o) :
    (putL L k o a).length = L.length ∧ ∀ j, (h : j < (putL L k o a).length) → (hj : j < L.length) → ((putL L k o a)[j]'h) = if j = i then (k, o, a) else L[j]'hj := by
  obtain ⟨g1, _⟩ := alone_at hok hi h1 h2
  have e : putL L k o a = L.map fun x => if atB k o x then (k, o, a) else x := by unfold putL; rw [if_pos g1]
  refine ⟨by rw [e, List.length_map], fun j h hj => ?_⟩
  simp only [e, List.getElem_map]
  by_cases hji : j = i
  · subst hji
    rw [if_pos rfl, if_pos (atB_iff.2 ⟨h1, h2⟩)]
  · rw [if_neg hji, if_neg fun hb => hji ?_]
    obtain ⟨x1, x2⟩ := atB_iff.1 hb
    exact idx_same hok hj hi (x1.trans h1.symm) (x2.trans h2.symm)
/-- What is stored alone. -/
theorem LRows.alone {u : World} {B c b : Nat} {L : List LRow} (h : LRows u B (some ⟨b, 0, none⟩) c L) (hok : LOk L) {k o : Int} {i : Nat} (hi : i < L.length) (h1 : (L[i]'hi).1 = k) (h2 : (L[i]'hi).2.1 = o) :
    LRows (u.setCell ⟨b, i * 3 + 2, none⟩ (.bool true)) B (some ⟨b, 0, none⟩) c (putL L k o true) := by
  obtain ⟨hlen, hat⟩ := put_idx (a := true) hok hi h1 h2
  have hne : L ≠ [] := by intro e; rw [e] at hi; simp at hi
  obtain ⟨b', cs, e, hb, hk, hc⟩ := h.at_ hne
  cases e
  refine ⟨fun e => by rw [e] at hlen; simp at hlen; exact absurd (List.eq_nil_of_length_eq_zero hlen.symm) hne, fun _ => ⟨b, _, rfl, hb, hk.set_ (i * 3 + 2) (.bool true), fun j hj => ?_⟩⟩
  have hjL : j < L.length := by omega
  obtain ⟨q0, q1, q2⟩ := hc j hjL
  obtain ⟨p0, p1, p2⟩ := hc i hi
  rw [hat j hj hjL]
  have s0 : i * 3 + 2 ≠ j * 3 := by omega
  have s1 : i * 3 + 2 ≠ j * 3 + 1 := by omega
  rw [Array.getElem?_setIfInBounds_ne s0, Array.getElem?_setIfInBounds_ne s1]
  by_cases hji : j = i
  · subst hji
    rw [if_pos rfl]
    have hsz : j * 3 + 2 < cs.size := by
      rcases Nat.lt_or_ge (j * 3 + 2) cs.size with h' | h'
      · exact h'
      · rw [Array.getElem?_eq_none h'] at q2; cases q2
    refine ⟨by rw [q0, h1], by rw [q1, h2], ?_⟩
    rw [Array.getElem?_setIfInBounds_self_of_lt hsz]
  · rw [if_neg hji]
    have s2 : i * 3 + 2 ≠ j * 3 + 2 := by omega
    rw [Array.getElem?_setIfInBounds_ne s2]
    exact ⟨q0, q1, q2⟩
theorem step_append_run {P : Program} {w : World} {ops : Array Oper} {o : Oper} {a : Act} {K : Act → World → Prop} {Q : Exit → Act → World → Prop} {E : Prop} (hgd : o.guard = none) (s x : Operand) (t : TypeId)
    (ho : o.op = .call { callee := .builtin .append, args := #[s, x], argTypes := #[t, t] }) (sv xv v : Value) (w' : World) (hs : a.eval s = sv) (hx : a.eval x = xv) (hrun : (Builtin.append_ #[t, t] o.type #[sv, xv]).run P w = .ok v w') (h : K (a.put o.dst v) w') :
    if Region.wanted o (yielded ops a.tmps) = true then Oper.wp P o a w K Q else E := by
  have hw : Region.wanted o (yielded ops a.tmps) = true := by simp [Region.wanted, hgd]
  rw [if_pos hw]
  unfold Oper.wp execOp
  simp only [ho, resolve, invoke, builtin, Sem.run_bind, Sem.run_pure, Result.andThen_ok, List.map_toArray, List.map_cons, List.map_nil, hs, hx, hrun]
  exact h
def RTakeO (w : World) (B x : Nat) (r : Int × List LRow) (e : Ending) (w' : World) : Prop := e = .returned (.int .i64 r.1) ∧ RTab w' B x r.2 ∧ w.grownBy w' (some x)
theorem take_by {L : List LRow} (hn : NoClash L) (hl : L.length ≤ 64) (o k : Int) (a : Bool) : takeL L o k a = if clashR (putL L k o (aloneL L k o || a)) then (120, L) else if 64 < (putL L k o (aloneL L k o || a)).length then (5, L) else (0, putL L k o (aloneL L k o || a)) := by
  rw [clash_same hn]
  unfold takeL
  by_cases hc : clashL L k o a = true
  · rw [if_pos hc, if_pos hc]
  · rw [if_neg hc, if_neg hc]
    by_cases h1 : heldL L k o = false ∧ L.length = 64
    · rw [if_pos h1, if_pos]
      rw [putL_len, if_neg (by rw [h1.1]; simp)]
      omega
    · rw [if_neg h1, if_neg]
      rw [putL_len]
      split
      · omega
      · rename_i h2
        have h2 : heldL L k o = false := Bool.eq_false_iff.2 h2
        have : L.length ≠ 64 := fun e => h1 ⟨h2, e⟩
        omega

set_option maxRecDepth 100000 in
set_option maxHeartbeats 4000000 in
theorem rtake_any (B x : Nat) (L : List LRow) (ow k : Int) (a : Bool) (w : World) (h : RTab w B x L) (hl : L.length ≤ 64) (hB : B ≤ w.heap.size) (hok : LOk L) (hnc : NoClash L) :
    Calls Try.prog 11 #[.pointer (some ⟨x, 0, none⟩), .int .i64 ow, .int .i64 k, .bool a] w (RTakeO w B x (takeL L ow k a)) := by
  obtain ⟨R, hR⟩ : ∃ R, R = takeL L ow k a := ⟨_, rfl⟩
  have HT := Lib.hid (hR.trans (take_by hnc hl ow k a))
  rw [← hR]
  have hxl : x < w.heap.size := by obtain ⟨A, n, c, _, hk, _⟩ := h; exact hk.lt
  have hb0 := ba w (.cells #[.slice none 0 0] 28)
  have kq := Blk.new w 28 #[.slice none 0 0]
  obtain ⟨A, n, c, hn, hkx, hRx⟩ := h.below hb0
  have HX := Lib.hid h
  have HOK := Lib.hid hok
  obtain ⟨q, hq⟩ : ∃ q, q = w.heap.size := ⟨_, rfl⟩
  generalize hw1 : w.alloc (.cells #[.slice none 0 0] 28) = w1 at *
  have HW1 := Lib.hid hw1
  rw [← hq] at kq
  have hq1 : q + 1 ≤ w1.heap.size := kq.lt
  have hn64 : n ≤ 64 := by rw [hn.out]; exact hl
  have hxq : x ≠ q := by omega
  have hBq : B ≤ q := by omega
  have hxlq : x < q := by omega
  have Hq := Lib.hid hq
  clear hw1 hnc hl h hok hR
  go_enter Try.func11, Try.ntmps11
  go_wp2_with fail
  rw [HW1.out, ← hq]
  clear hq HW1
  refine wp_region_invT (F := ?FN) (V := VNx q x n c A L) (dead := fun _ => none) (T := TNx q) (C := fun u => Blk u x 28 #[.slice A n c] ∧ LRows u B A c L ∧ Below w.heap.size w u ∧ q + 1 ≤ u.heap.size) (E := ENx q) (by kernel_rfl) (by kernel_rfl) (by kernel_rfl) (fun x_ => ?hFN) ?hmonoN ?hTmN ?hTN ?hCN ?stepN ?finN
  case hFN => simp only [mkA, Act.put, List.setIfInBounds_toArray, List.set_cons_succ, List.set_cons_zero, Nat.reduceAdd, Nat.zero_add]; first | with_reducible rfl | rfl
  case hmonoN => exact fun q' i v u u' he hik hwt hdd hv => VNx.mono he hik hv
  case hTmN => exact fun k' j u u' he hkj hwt hv => TNx.mono he hkj (fun h => ltf hwt (by rw [h.1, h.2]; kernel_rfl)) hv
  case hTN => exact fun j => by unfold TNx; split <;> first | exact kq | trivial
  case hCN => exact ⟨hkx, hRx.below ((Below.refl _ _).drew), hb0.drew, hq1⟩
  case stepN =>
    refine AllOps.cons (fun x_ u hC hT hp K hK => ?_) ?_
    · clear hp hT
      go_simp
      refine hK _ _ _ hC (Below.refl _ _) (by exact rfl) ?_
      first | (simp only [Act.put, List.setIfInBounds_toArray, List.set_cons_succ, List.set_cons_zero]; done) | simp [Act.put]
    refine AllOps.cons (fun x_ u hC hT hp K hK => ?_) ?_
    · clear hp hT
      go_simp
      refine hK _ _ _ hC (Below.refl _ _) (by exact rfl) ?_
      first | (simp only [Act.put, List.setIfInBounds_toArray, List.set_cons_succ, List.set_cons_zero]; done) | simp [Act.put]
    refine AllOps.cons (fun x_ u hC hT hp K hK => ?_) ?_
    · simp [KnownTill, Region.binds, VNx] at hp
      clear hT
      go_simp
      refine hK _ _ _ hC (Below.refl _ _) (by exact rfl) ?_
      first | (simp only [Act.put, List.setIfInBounds_toArray, List.set_cons_succ, List.set_cons_zero, hp]; done) | simp [Act.put, hp]
    refine AllOps.cons (fun x_ u hC hT hp K hK => ?_) ?_
    · simp [KnownTill, Region.binds, VNx] at hp
      clear hT
      go_simp
      refine hK _ _ _ hC (Below.refl _ _) (by exact rfl) ?_
      first | (simp only [Act.put, List.setIfInBounds_toArray, List.set_cons_succ, List.set_cons_zero, hp]; done) | simp [Act.put, hp]
    refine AllOps.cons (fun x_ u hC hT hp K hK => ?_) ?_
    · simp [KnownTill, Region.binds, VNx] at hp
      have kk : Blk u q 28 #[.slice none 0 0] := hT
      have cc := kk.cell 0
      simp only [List.getElem?_toArray, List.getElem?_cons_zero] at cc
      go_simp
      refine hK _ _ _ hC (Below.refl _ _) (by exact rfl) ?_
      first | (simp only [Act.put, List.setIfInBounds_toArray, List.set_cons_succ, List.set_cons_zero, hp]; done) | simp [Act.put, hp]
    refine AllOps.cons (fun x_ u hC hT hp K hK => ?_) ?_
    · clear hp hT
      go_simp
      refine hK _ _ _ hC (Below.refl _ _) (by exact rfl) ?_
      first | (simp only [Act.put, List.setIfInBounds_toArray, List.set_cons_succ, List.set_cons_zero]; done) | simp [Act.put]
    refine AllOps.cons (fun x_ u hC hT hp K hK => ?_) ?_
    · simp [KnownTill, Region.binds, VNx] at hp
      clear hT
      go_simp
      refine hK _ _ _ hC (Below.refl _ _) (by exact rfl) ?_
      first | (simp only [Act.put, List.setIfInBounds_toArray, List.set_cons_succ, List.set_cons_zero, hp]; done) | simp [Act.put, hp]
    refine AllOps.cons (fun x_ u hC hT hp K hK => ?_) ?_
    · simp [KnownTill, Region.binds, VNx] at hp
      clear hT
      go_simp
      refine hK _ _ _ hC (Below.refl _ _) (by exact rfl) ?_
      first | (simp only [Act.put, List.setIfInBounds_toArray, List.set_cons_succ, List.set_cons_zero, hp]; done) | simp [Act.put, hp]
    refine AllOps.cons (fun x_ u hC hT hp K hK => ?_) ?_
    · simp [KnownTill, Region.binds, VNx] at hp
      clear hT
      have cc := hC.1.cell 0
      simp only [List.getElem?_toArray, List.getElem?_cons_zero] at cc
      go_simp
      refine hK _ _ _ hC (Below.refl _ _) (by exact rfl) ?_
      first | (simp only [Act.put, List.setIfInBounds_toArray, List.set_cons_succ, List.set_cons_zero, hp]; done) | simp [Act.put, hp]
    refine AllOps.cons (fun x_ u hC hT hp K hK => ?_) ?_
    · simp [KnownTill, Region.binds, VNx] at hp
      clear hT
      obtain ⟨A2, c2, uA, hrun, p1, p2, p3⟩ := rows_copy hC.2.1 n hn.out (by omega)
      have hC2 := hC
      obtain ⟨g1, g2, g3, g4⟩ := hC2
      refine step_append_run rfl (.tmp 17) (.tmp 21) 26 rfl (.slice none 0 0) (.slice A n c) (.slice A2 n c2) uA (by simp [Act.eval, hp]) (by simp [Act.eval, hp]) hrun ?_
      refine hK _ _ _ ⟨g1.below p3 g1.lt, g2.below p3, ⟨p3.os.trans g3.os, p3.tape.trans g3.tape, p3.output.trans g3.output, Nat.le_trans g3.size p3.size, fun i hi => (p3.block i (Nat.lt_of_lt_of_le hi g3.size)).trans (g3.block i hi)⟩, Nat.le_trans g4 p3.size⟩ p3 ⟨A2, c2, rfl, p1.base g4, p2⟩ ?_
      first | (simp only [Act.put, List.setIfInBounds_toArray, List.set_cons_succ, List.set_cons_zero, hp]; done) | simp [Act.put, hp]
    refine AllOps.cons (fun x_ u hC hT hp K hK => ?_) ?_
    · simp [KnownTill, Region.binds, VNx] at hp
      clear hT
      go_simp
      refine hK _ _ _ hC (Below.refl _ _) (by exact rfl) ?_
      first | (simp only [Act.put, List.setIfInBounds_toArray, List.set_cons_succ, List.set_cons_zero, hp]; done) | simp [Act.put, hp]
    refine AllOps.cons (fun x_ u hC hT hp K hK => ?_) ?_
    · simp [KnownTill, Region.binds, VNx] at hp
      clear hT
      go_simp
      refine hK _ _ _ hC (Below.refl _ _) (by exact rfl) ?_
      first | (simp only [Act.put, List.setIfInBounds_toArray, List.set_cons_succ, List.set_cons_zero, hp]; done) | simp [Act.put, hp]
    refine AllOps.cons (fun x_ u hC hT hp K hK => ?_) ?_
    · simp [KnownTill, Region.binds, VNx] at hp
      obtain ⟨e11, A2, c2, e9, o9, z9⟩ : x_ 11 = .pointer (some ⟨q, 0, none⟩) ∧ ∃ A2 c2, x_ 9 = .slice A2 n c2 ∧ OwnL u (q + 1) A2 c2 L ∧ (L = [] → A2 = none ∧ c2 = 0) := by first | exact hp | exact ⟨hp.2, hp.1⟩ | exact ⟨hp.1, hp.2.1⟩ | exact ⟨hp.2.1, hp.1⟩
      clear hp
      have kk : Blk u q 28 #[.slice none 0 0] := hT
      have cc := kk.cell 0
      have ff := kk.frozen 0
      have ks := kk.set_ 0 (.slice A2 n c2)
      have gs := lgrown_set u ⟨q, 0, none⟩ (.slice A2 n c2)
      simp only [List.getElem?_toArray, List.getElem?_cons_zero, List.setIfInBounds_toArray, List.set_cons_zero] at cc ks
      obtain ⟨g1, g2, g3, g4⟩ := hC
      have gB := g3.setCell (p := ⟨q, 0, none⟩) (Nat.le_of_eq Hq.out.symm) (.slice A2 n c2)
      have KK := Lib.hid kk
      have KS := Lib.hid (And.intro ks gs)
      have GB := Lib.hid gB
      clear ks gs kk gB
      go_simp
      refine hK undef _ _ ⟨g1.kept KS.out.2 (fun e => hxq (by injection e)), g2.kept KS.out.2 (fun r e => by cases e; exact .inr ⟨_, _, by decide, KK.out⟩), GB.out, Nat.le_trans g4 KS.out.2.size⟩ KS.out.2 ⟨A2, c2, KS.out.1, o9.kept KS.out.2 (fun r e => by cases e; exact Nat.lt_succ_self q), z9⟩ ?_
      simp [Act.put, e9, e11]
    exact AllOps.nil
  case finN =>
    intro x_ W2 hC hV
    obtain ⟨A2, c2, k2, o2, z2⟩ : OTab W2 q n L := hV 12 (by decide) rfl
    obtain ⟨g1, g2, BE2, g4⟩ := hC
    clear hV g1 g2
    have RT2 : RTab W2 (q + 1) q L := ⟨A2, n, c2, hn, k2, o2.rows z2⟩
    have hpl := place_any (q + 1) q L ow k W2 RT2 (by rw [← hn.out]; omega)
    clear hkx hRx kq hb0
    go_wp2_with fail
    refine hpl.mono ?_
    clear hpl
    rintro e w3 ⟨p, rfl, hp, rfl⟩
    have q0 := k2.cell 0
    have f0 := k2.frozen 0
    simp only [List.getElem?_toArray, List.getElem?_cons_zero] at q0
    rcases hp with ⟨rfl, hh⟩ | ⟨i, hi, rfl, h1, h2⟩
    · obtain ⟨M, hM⟩ : ∃ M, M = putL L k ow (aloneL L k ow || a) := ⟨_, rfl⟩
      have hM' : M = L ++ [(k, ow, a)] := by
        rw [hM, alone_no hh, Bool.false_or]
        unfold putL
        rw [if_neg (by rw [hh]; simp)]
      have HM2 := Lib.hid hM
      have hb3 := ba W2 (.cells #[.int .i64 k, .int .i64 ow, .bool a] 61)
      have o3 := o2.kept (lbelow_grown hb3 none) (fun r e => by cases e)
      obtain ⟨A5, c5, w5, hrun, o5, hg5⟩ := rows_more o3 n hn.out (by omega) (k, ow, a) W2.heap.size (by have := hb3.size; omega) (Blk.new W2 _ _)
      have hrow : ∀ r, Go.Proofs.Ytaeofacaljeckaa.blk A2 = some r → q + 1 ≤ r := fun r e => (World.ownsRow.lt o2 r (by rw [ownBlock_slice]; exact e)).1
      have k5 := (k2.below hb3 k2.lt).kept hg5 (fun e => by have := hrow q e.symm; omega)
      have BE3 : Below w.heap.size w (W2.alloc (.cells #[.int .i64 k, .int .i64 ow, .bool a] 61)) := BE2.trans (hb3.mono BE2.size)
      have BE5 := BE3.grown hg5 BE3.size (fun r e => by have := hrow r e; have := Hq.out; omega)
      have d5 := k5.cell 0
      have f5 := k5.frozen 0
      have s5 := k5.set_ 0 (.slice A5 (n + 1) c5)
      simp only [List.getElem?_toArray, List.getElem?_cons_zero, List.setIfInBounds_toArray, List.set_cons_zero] at d5 s5
      have hset := lgrown_set w5 ⟨q, 0, none⟩ (.slice A5 (n + 1) c5)
      have o6 := o5.kept hset (fun r e => by cases e; exact Nat.lt_succ_self q)
      have BE4 := BE5.setCell (p := ⟨q, 0, none⟩) (Nat.le_of_eq Hq.out.symm) (.slice A5 (n + 1) c5)
      obtain ⟨n2, hn2⟩ : ∃ n2, n2 = n + 1 := ⟨_, rfl⟩
      have HM : Hid (n2 = M.length) := Lib.hid (by rw [hM', List.length_append, ← hn.out, hn2]; rfl)
      have RT4 : RTab (w5.setCell ⟨q, 0, none⟩ (.slice A5 (n + 1) c5)) (q + 1) q M := ⟨A5, n + 1, c5, Lib.hid (by rw [hM', List.length_append, ← hn.out]; rfl), s5, by rw [hM']; exact o6.rows (fun e => by simp at e)⟩
      have hn65 : n2 ≤ 65 := by omega
      obtain ⟨W4, hW4⟩ : ∃ W4, W4 = w5.setCell ⟨q, 0, none⟩ (.slice A5 (n + 1) c5) := ⟨_, rfl⟩
      rw [← hW4] at RT4 BE4
      have HW4 := Lib.hid hW4
      clear hM hM' hb3 o3 hg5 hrow k5 BE3 BE5 s5 hset o6 o5 hW4 hn2 hh RT2 BE2 k2 o2 z2
      go_wp2_with (at_builtin; refine wpList_append_run rfl (.tmp 35) (.tmp 40) 26 rfl _ _ _ w5 rfl rfl hrun ?_)
      rw [← HW4.out]
      clear HW4 hrun d5 f5 q0 f0
      have hcl := clashR_any (q + 1) q M W4 RT4 (by rw [← HM.out]; omega)
      obtain ⟨cl, hcl0⟩ : ∃ cl, cl = clashR M := ⟨_, rfl⟩
      rw [← hcl0] at hcl
      have HCL := Lib.hid hcl0
      clear hcl0
      refine hcl.mono ?_
      clear hcl
      rintro e W5 ⟨rfl, b5⟩
      have RT5 := RT4.below b5
      have BE5 : Below w.heap.size w W5 := BE4.trans (b5.mono BE4.size)
      have X5 := HX.out.below BE5
      have B5 := lbelow_grown BE5 (some x)
      clear RT4 b5
      rcases cl with _ | _
      · obtain ⟨A6, n6, c6, hn6, k6, R6⟩ := RT5
        obtain rfl : n6 = n2 := hn6.out.trans HM.out.symm
        have d0 := k6.cell 0
        simp only [List.getElem?_toArray, List.getElem?_cons_zero] at d0
        by_cases hbig : 64 < n6
        · have hbI : (64 : Int) < (n6 : Int) := by omega
          have HR : R = (5, L) := by rw [HT.out, if_neg (by rw [← HM2.out, ← HCL.out]; simp), if_pos (by rw [← HM2.out, ← HM.out]; exact hbig)]
          have HRR := Lib.hid HR
          clear HR
          go_wp2
          go_ret
          rw [HRR.out]
          exact ⟨rfl, X5, B5⟩
        · have hbI : ¬ (64 : Int) < (n6 : Int) := by omega
          have HR : R = (0, M) := by rw [HT.out, if_neg (by rw [← HM2.out, ← HCL.out]; simp), if_neg (by rw [← HM2.out, ← HM.out]; exact hbig), HM2.out]
          obtain ⟨A7, n7, c7, hn7, k7, R7⟩ := X5
          have f0 := k7.frozen 0
          have d7 := k7.cell 0
          have s7 := k7.set_ 0 (.slice A6 n6 c6)
          simp only [List.getElem?_toArray, List.getElem?_cons_zero, List.setIfInBounds_toArray, List.set_cons_zero] at d7 s7
          have hset := lgrown_set W5 ⟨x, 0, none⟩ (.slice A6 n6 c6)
          have R8 := (R6.kept hset (fun r e => by cases e; exact .inr ⟨_, _, by decide, k7⟩)).base (B' := B) (by omega)
          have Hfin := Lib.hid (And.intro (show RTab (W5.setCell ⟨x, 0, none⟩ (.slice A6 n6 c6)) B x M from ⟨A6, n6, c6, hn6, s7, R8⟩) (B5.andThen hset (fun r e => by cases e; exact .inr rfl)))
          have HRR := Lib.hid HR
          clear HR hset R8 s7 R6 R7 hn6 hn7 k7 k6 B5
          go_wp2
          go_ret
          rw [HRR.out]
          exact ⟨rfl, Hfin.out⟩
      · have HR : R = (120, L) := by rw [HT.out, if_pos (by rw [← HM2.out, ← HCL.out])]
        have HRR := Lib.hid HR
        clear HR RT5
        go_wp2
        go_ret
        rw [HRR.out]
        exact ⟨rfl, X5, B5⟩
    · obtain ⟨n2, hn2⟩ : ∃ n2, n2 = n := ⟨_, rfl⟩
      rcases a with _ | _
      · obtain ⟨M, hM⟩ : ∃ M, M = putL L k ow (aloneL L k ow || false) := ⟨_, rfl⟩
        have HM2 := Lib.hid hM
        have hML : M = L := by rw [hM, Bool.or_false]; exact alone_full HOK.out hi h1 h2
        have HM : Hid (n2 = M.length) := Lib.hid (by rw [hML, hn2]; exact hn.out)
        have RT4 : RTab W2 (q + 1) q M := by rw [hML]; exact RT2
        have hn65 : n2 ≤ 65 := by omega
        obtain ⟨W4, hW4⟩ : ∃ W4, W4 = W2 := ⟨_, rfl⟩
        subst hW4
        have BE4 := BE2
        have hi0 : ¬ (i : Int) < 0 := by omega
        clear hM hML hn2 RT2 BE2 k2 o2 z2 h1 h2 hi
        go_wp2_with fail
        clear q0 f0
        have hcl := clashR_any (q + 1) q M W4 RT4 (by rw [← HM.out]; omega)
        obtain ⟨cl, hcl0⟩ : ∃ cl, cl = clashR M := ⟨_, rfl⟩
        rw [← hcl0] at hcl
        have HCL := Lib.hid hcl0
        clear hcl0
        refine hcl.mono ?_
        clear hcl
        rintro e W5 ⟨rfl, b5⟩
        have RT5 := RT4.below b5
        have BE5 : Below w.heap.size w W5 := BE4.trans (b5.mono BE4.size)
        have X5 := HX.out.below BE5
        have B5 := lbelow_grown BE5 (some x)
        clear RT4 b5
        rcases cl with _ | _
        · obtain ⟨A6, n6, c6, hn6, k6, R6⟩ := RT5
          obtain rfl : n6 = n2 := hn6.out.trans HM.out.symm
          have d0 := k6.cell 0
          simp only [List.getElem?_toArray, List.getElem?_cons_zero] at d0
          by_cases hbig : 64 < n6
          · have hbI : (64 : Int) < (n6 : Int) := by omega
            have HR : R = (5, L) := by rw [HT.out, if_neg (by rw [← HM2.out, ← HCL.out]; simp), if_pos (by rw [← HM2.out, ← HM.out]; exact hbig)]
            have HRR := Lib.hid HR
            clear HR
            go_wp2
            go_ret
            rw [HRR.out]
            exact ⟨rfl, X5, B5⟩
          · have hbI : ¬ (64 : Int) < (n6 : Int) := by omega
            have HR : R = (0, M) := by rw [HT.out, if_neg (by rw [← HM2.out, ← HCL.out]; simp), if_neg (by rw [← HM2.out, ← HM.out]; exact hbig), HM2.out]
            obtain ⟨A7, n7, c7, hn7, k7, R7⟩ := X5
            have f0 := k7.frozen 0
            have d7 := k7.cell 0
            have s7 := k7.set_ 0 (.slice A6 n6 c6)
            simp only [List.getElem?_toArray, List.getElem?_cons_zero, List.setIfInBounds_toArray, List.set_cons_zero] at d7 s7
            have hset := lgrown_set W5 ⟨x, 0, none⟩ (.slice A6 n6 c6)
            have R8 := (R6.kept hset (fun r e => by cases e; exact .inr ⟨_, _, by decide, k7⟩)).base (B' := B) (by omega)
            have Hfin := Lib.hid (And.intro (show RTab (W5.setCell ⟨x, 0, none⟩ (.slice A6 n6 c6)) B x M from ⟨A6, n6, c6, hn6, s7, R8⟩) (B5.andThen hset (fun r e => by cases e; exact .inr rfl)))
            have HRR := Lib.hid HR
            clear HR hset R8 s7 R6 R7 hn6 hn7 k7 k6 B5
            go_wp2
            go_ret
            rw [HRR.out]
            exact ⟨rfl, Hfin.out⟩
        · have HR : R = (120, L) := by rw [HT.out, if_pos (by rw [← HM2.out, ← HCL.out])]
          have HRR := Lib.hid HR
          clear HR RT5
          go_wp2
          go_ret
          rw [HRR.out]
          exact ⟨rfl, X5, B5⟩
      · obtain ⟨M, hM⟩ : ∃ M, M = putL L k ow (aloneL L k ow || true) := ⟨_, rfl⟩
        have HM2 := Lib.hid hM
        rw [Bool.or_true] at hM
        have hML := (put_idx (a := true) HOK.out hi h1 h2).1
        have R2 := o2.rows z2
        obtain ⟨b, cs, e, hbb, hkb, hc⟩ := R2.at_ (by intro e; rw [e] at hi; simp at hi)
        subst e
        have R4 := R2.alone HOK.out hi h1 h2
        have hqb : q ≠ b := by omega
        have k4 := k2.far (p := ⟨b, i * 3 + 2, none⟩) hqb (.bool true)
        have BE4 := BE2.setCell (p := ⟨b, i * 3 + 2, none⟩) (show w.heap.size ≤ b by have := Hq.out; omega) (.bool true)
        have HM : Hid (n2 = M.length) := Lib.hid (by rw [hM, hML, hn2]; exact hn.out)
        have RT4 : RTab (W2.setCell ⟨b, i * 3 + 2, none⟩ (.bool true)) (q + 1) q M := ⟨_, n, c2, Lib.hid (by rw [hM, hML]; exact hn.out), k4, by rw [hM]; exact R4⟩
        have hn65 : n2 ≤ 65 := by omega
        have db := (hkb.cell (i * 3 + 2)).trans (hc i hi).2.2
        have fb := hkb.frozen (i * 3 + 2)
        generalize (L[i]'hi).2.2 = zb at db
        have hi0 : ¬ (i : Int) < 0 := by omega
        have hin : (i : Int) < (n : Int) := by have := hn.out; omega
        obtain ⟨W4, hW4⟩ : ∃ W4, W4 = W2.setCell ⟨b, i * 3 + 2, none⟩ (.bool true) := ⟨_, rfl⟩
        rw [← hW4] at RT4 BE4
        have HW4 := Lib.hid hW4
        clear hM hML hn2 RT2 BE2 R2 R4 k4 hkb hc hW4 k2 o2 z2 h1 h2 hi
        go_wp2_with fail
        rw [← HW4.out]
        clear HW4 db fb q0 f0
        have hcl := clashR_any (q + 1) q M W4 RT4 (by rw [← HM.out]; omega)
        obtain ⟨cl, hcl0⟩ : ∃ cl, cl = clashR M := ⟨_, rfl⟩
        rw [← hcl0] at hcl
        have HCL := Lib.hid hcl0
        clear hcl0
        refine hcl.mono ?_
        clear hcl
        rintro e W5 ⟨rfl, b5⟩
        have RT5 := RT4.below b5
        have BE5 : Below w.heap.size w W5 := BE4.trans (b5.mono BE4.size)
        have X5 := HX.out.below BE5
        have B5 := lbelow_grown BE5 (some x)
        clear RT4 b5
        rcases cl with _ | _
        · obtain ⟨A6, n6, c6, hn6, k6, R6⟩ := RT5
          obtain rfl : n6 = n2 := hn6.out.trans HM.out.symm
          have d0 := k6.cell 0
          simp only [List.getElem?_toArray, List.getElem?_cons_zero] at d0
          by_cases hbig : 64 < n6
          · have hbI : (64 : Int) < (n6 : Int) := by omega
            have HR : R = (5, L) := by rw [HT.out, if_neg (by rw [← HM2.out, ← HCL.out]; simp), if_pos (by rw [← HM2.out, ← HM.out]; exact hbig)]
            have HRR := Lib.hid HR
            clear HR
            go_wp2
            go_ret
            rw [HRR.out]
            exact ⟨rfl, X5, B5⟩
          · have hbI : ¬ (64 : Int) < (n6 : Int) := by omega
            have HR : R = (0, M) := by rw [HT.out, if_neg (by rw [← HM2.out, ← HCL.out]; simp), if_neg (by rw [← HM2.out, ← HM.out]; exact hbig), HM2.out]
            obtain ⟨A7, n7, c7, hn7, k7, R7⟩ := X5
            have f0 := k7.frozen 0
            have d7 := k7.cell 0
            have s7 := k7.set_ 0 (.slice A6 n6 c6)
            simp only [List.getElem?_toArray, List.getElem?_cons_zero, List.setIfInBounds_toArray, List.set_cons_zero] at d7 s7
            have hset := lgrown_set W5 ⟨x, 0, none⟩ (.slice A6 n6 c6)
            have R8 := (R6.kept hset (fun r e => by cases e; exact .inr ⟨_, _, by decide, k7⟩)).base (B' := B) (by omega)
            have Hfin := Lib.hid (And.intro (show RTab (W5.setCell ⟨x, 0, none⟩ (.slice A6 n6 c6)) B x M from ⟨A6, n6, c6, hn6, s7, R8⟩) (B5.andThen hset (fun r e => by cases e; exact .inr rfl)))
            have HRR := Lib.hid HR
            clear HR hset R8 s7 R6 R7 hn6 hn7 k7 k6 B5
            go_wp2
            go_ret
            rw [HRR.out]
            exact ⟨rfl, Hfin.out⟩
        · have HR : R = (120, L) := by rw [HT.out, if_pos (by rw [← HM2.out, ← HCL.out])]
          have HRR := Lib.hid HR
          clear HR RT5
          go_wp2
          go_ret
          rw [HRR.out]
          exact ⟨rfl, X5, B5⟩
end Go.Proofs.Ytaeofacaljeckaa
