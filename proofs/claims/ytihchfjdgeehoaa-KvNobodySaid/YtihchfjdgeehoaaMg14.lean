/- Parts Iq Bq Br of one proof. -/
import Derived.Test.YtihchfjdgeehoaaMg13
namespace Go.Proofs.Ytihchfjdgeehoaa
open Go.RowKit Go.Maps
set_option linter.unusedVariables false
set_option linter.unusedSimpArgs false

theorem OwnL.base {u : World} {B B' c : Nat} {A : Option Addr} {L : List LRow} (h : OwnL u B A c L) (hB : B' ≤ B) : OwnL u B' A c L := by
  unfold OwnL at h ⊢
  obtain ⟨h1, h2⟩ := h
  refine ⟨h1, ?_⟩
  rcases h2 with h2 | ⟨g', cap', cur, hv, hb, hrest⟩
  · exact .inl h2
  · exact .inr ⟨g', cap', cur, hv, Nat.le_trans hB hb, hrest⟩
/-- A table that owns its rows. -/
def OTab (w : World) (q n : Nat) (L : List LRow) : Prop := ∃ A2 c2, Blk w q 30 #[.slice A2 n c2] ∧ OwnL w (q + 1) A2 c2 L ∧ (L = [] → A2 = none ∧ c2 = 0)

def VNx (q x of n c : Nat) (A : Option Addr) (L : List LRow) (i : Nat) (v : Value) (w : World) : Prop :=
  match i with
  | 0 => v = .pointer (some ⟨q, 0, none⟩)
  | 1 => v = .pointer (some ⟨q, 0, none⟩)
  | 2 => v = .pointer (some ⟨q, 0, none⟩)
  | 3 => v = .pointer (some ⟨q, 0, none⟩)
  | 4 => v = .slice none 0 0
  | 5 => v = .pointer (some ⟨x, of, none⟩)
  | 6 => v = .pointer (some ⟨x, of, none⟩)
  | 7 => v = .pointer (some ⟨x, of, none⟩)
  | 8 => v = .slice A n c
  | 9 => ∃ A2 c2, v = .slice A2 n c2 ∧ OwnL w (q + 1) A2 c2 L ∧ (L = [] → A2 = none ∧ c2 = 0)
  | 10 => v = .pointer (some ⟨q, 0, none⟩)
  | 11 => v = .pointer (some ⟨q, 0, none⟩)
  | 12 => OTab w q n L
  | _ => True

def ENx (q k : Nat) (u u' : World) : Prop := match k with
  | 12 => u.grownBy u' (some q)
  | _ => Below u.heap.size u u'
def TNx (q j : Nat) (u : World) : Prop := match j with
  | 4 => Blk u q 30 #[.slice none 0 0]
  | 12 => Blk u q 30 #[.slice none 0 0]
  | _ => True
theorem ENx.grown {q k : Nat} {u u' : World} (he : ENx q k u u') : u.grownBy u' (some q) := by
  unfold ENx at he
  split at he
  · exact he
  · exact lbelow_grown he _
theorem VNx.mono {q x of n c : Nat} {A : Option Addr} {L : List LRow} {k i : Nat} {v : Value} {u u' : World} (he : ENx q k u u') (hik : i ≠ k) (h : VNx q x of n c A L i v u) : VNx q x of n c A L i v u' := by
  unfold VNx at h ⊢
  split at h
  case h_10 =>
    obtain ⟨A2, c2, h1, h2, h3⟩ := h
    exact ⟨A2, c2, h1, h2.kept he.grown (fun r e => by cases e; omega), h3⟩
  case h_13 =>
    obtain ⟨A2, c2, h1, h2, h3⟩ := h
    unfold ENx at he
    split at he
    · exact absurd rfl hik
    · exact ⟨A2, c2, h1.below he h1.lt, h2.kept (lbelow_grown he none) (fun r e => by cases e), h3⟩
  all_goals exact h
theorem TNx.mono {q k j : Nat} {u u' : World} (he : ENx q k u u') (hkj : k ≠ j) (h : j = 4 ∧ k = 12 → False) (hv : TNx q j u) : TNx q j u' := by
  unfold TNx at hv ⊢
  split at hv
  · unfold ENx at he
    split at he
    · exact (h ⟨rfl, rfl⟩).elim
    · exact hv.below he hv.lt
  · unfold ENx at he
    split at he
    · exact absurd rfl hkj
    · exact hv.below he hv.lt
  · trivial
theorem ltf {a : Bool} (h : a = false) (h2 : a = true) : False := by rw [h] at h2; cases h2
theorem alone_full {L : List LRow} (hok : LOk L) {k o : Int} {i : Nat} (hi : i < L.length) (h1 : (L[i]'hi).1 = k) (h2 : (L[i]'hi).2.1 = o) : putL L k o (aloneL L k o) = L := by
  obtain ⟨g1, g2⟩ := alone_at hok hi h1 h2
  refine put_same g1 fun x hx hb => ?_
  obtain ⟨x1, x2⟩ := atB_iff.1 hb
  have := at_same hok hx (List.getElem_mem hi) (x1.trans h1.symm) (x2.trans h2.symm)
  rw [g2, ← this, ← x1, ← x2]
theorem put_idx {L : List LRow} (hok : LOk L) {k o : Int} {a : Bool} {i : Nat} (hi : i < L.length) (h1 : (L[i]'hi).1 = k) (h2 : (L[i]'hi).2.1 = o) :
    (putL L k o a).length = L.length ∧ ∀ j, (h : j < (putL L k o a).length) → (hj : j < L.length) → ((putL L k o a)[j]'h) = if j = i then (k, o, a) else L[j]'hj := by
  obtain ⟨g1, _⟩ := alone_at hok hi h1 h2
  have e : putL L k o a = L.map fun x => if atB k o x then (k, o, a) else x := by unfold putL; rw [if_pos g1]
  refine ⟨by rw [e, List.length_map], fun j h hj => ?_⟩
  simp only [e, List.getElem_map]
  by_cases hji : j = i
  · subst hji
    rw [if_pos rfl, if_pos (atB_iff.2 ⟨h1, h2⟩)]
  · rw [if_neg hji, if_neg fun hb => hji ?_]
    obtain ⟨x1, x2⟩ := atB_iff.1 hb
    exact idx_same hok hj hi (x1.trans h1.symm) (x2.trans h2.symm)
/-- What is stored alone. -/
theorem LRows.alone {u : World} {B c b : Nat} {L : List LRow} (h : LRows u B (some ⟨b, 0, none⟩) c L) (hok : LOk L) {k o : Int} {i : Nat} (hi : i < L.length) (h1 : (L[i]'hi).1 = k) (h2 : (L[i]'hi).2.1 = o) :
    LRows (u.setCell ⟨b, i * 3 + 2, none⟩ (.bool true)) B (some ⟨b, 0, none⟩) c (putL L k o true) := by
  obtain ⟨hlen, hat⟩ := put_idx (a := true) hok hi h1 h2
  have hne : L ≠ [] := by intro e; rw [e] at hi; simp at hi
  obtain ⟨b', cs, e, hb, hk, hc⟩ := h.at_ hne
  cases e
  refine ⟨fun e => by rw [e] at hlen; simp at hlen; exact absurd (List.eq_nil_of_length_eq_zero hlen.symm) hne, fun _ => ⟨b, _, rfl, hb, hk.set_ (i * 3 + 2) (.bool true), fun j hj => ?_⟩⟩
  have hjL : j < L.length := by omega
  obtain ⟨q0, q1, q2⟩ := hc j hjL
  obtain ⟨p0, p1, p2⟩ := hc i hi
  rw [hat j hj hjL]
  have s0 : i * 3 + 2 ≠ j * 3 := by omega
  have s1 : i * 3 + 2 ≠ j * 3 + 1 := by omega
  rw [Array.getElem?_setIfInBounds_ne s0, Array.getElem?_setIfInBounds_ne s1]
  by_cases hji : j = i
  · subst hji
    rw [if_pos rfl]
    have hsz : j * 3 + 2 < cs.size := by
      rcases Nat.lt_or_ge (j * 3 + 2) cs.size with h' | h'
      · exact h'
      · rw [Array.getElem?_eq_none h'] at q2; cases q2
    refine ⟨by rw [q0, h1], by rw [q1, h2], ?_⟩
    rw [Array.getElem?_setIfInBounds_self_of_lt hsz]
  · rw [if_neg hji]
    have s2 : i * 3 + 2 ≠ j * 3 + 2 := by omega
    rw [Array.getElem?_setIfInBounds_ne s2]
    exact ⟨q0, q1, q2⟩
theorem step_append_run {P : Program} {w : World} {ops : Array Oper} {o : Oper} {a : Act} {K : Act → World → Prop} {Q : Exit → Act → World → Prop} {E : Prop} (hgd : o.guard = none) (s x : Operand) (t : TypeId)
    (ho : o.op = .call { callee := .builtin .append, args := #[s, x], argTypes := #[t, t] }) (sv xv v : Value) (w' : World) (hs : a.eval s = sv) (hx : a.eval x = xv) (hrun : (Builtin.append_ #[t, t] o.type #[sv, xv]).run P w = .ok v w') (h : K (a.put o.dst v) w') :
    if Region.wanted o (yielded ops a.tmps) = true then Oper.wp P o a w K Q else E := by
  have hw : Region.wanted o (yielded ops a.tmps) = true := by simp [Region.wanted, hgd]
  rw [if_pos hw]
  unfold Oper.wp execOp
  simp only [ho, resolve, invoke, builtin, Sem.run_bind, Sem.run_pure, Result.andThen_ok, List.map_toArray, List.map_cons, List.map_nil, hs, hx, hrun]
  exact h
def RTakeO (w : World) (B x of : Nat) (tt : TypeId) (cs : Array Value) (r : Int × List LRow) (e : Ending) (w' : World) : Prop := e = .returned (.int .i64 r.1) ∧ (∃ v, ROf w' B x of tt (cs.setIfInBounds of v) r.2) ∧ w.grownBy w' (some x)
theorem ROf.self {u : World} {B x of : Nat} {tt : TypeId} {cs : Array Value} {L : List LRow} (h : ROf u B x of tt cs L) : ∃ v, ROf u B x of tt (cs.setIfInBounds of v) L := by
  obtain ⟨A, n, c, hn, hk, hcs, hR⟩ := h
  refine ⟨.slice A n c, ?_⟩
  rw [set_self hcs]
  exact ⟨A, n, c, hn, hk, hcs, hR⟩
theorem take_by {L : List LRow} (hn : NoClash L) (hl : L.length ≤ 64) (o k : Int) (a : Bool) : takeL L o k a = if clashR (putL L k o (aloneL L k o || a)) then (120, L) else if 64 < (putL L k o (aloneL L k o || a)).length then (5, L) else (0, putL L k o (aloneL L k o || a)) := by
  rw [clash_same hn]
  unfold takeL
  by_cases hc : clashL L k o a = true
  · rw [if_pos hc, if_pos hc]
  · rw [if_neg hc, if_neg hc]
    by_cases h1 : heldL L k o = false ∧ L.length = 64
    · rw [if_pos h1, if_pos]
      rw [putL_len, if_neg (by rw [h1.1]; simp)]
      omega
    · rw [if_neg h1, if_neg]
      rw [putL_len]
      split
      · omega
      · rename_i h2
        have h2 : heldL L k o = false := Bool.eq_false_iff.2 h2
        have : L.length ≠ 64 := fun e => h1 ⟨h2, e⟩
        omega

set_option maxRecDepth 100000 in
set_option maxHeartbeats 4000000 in
theorem rtake_any (B x of : Nat) (tt : TypeId) (cs : Array Value) (htt : tt ≠ 116) (L : List LRow) (ow k : Int) (a : Bool) (w : World) (h : ROf w B x of tt cs L) (hl : L.length ≤ 64) (hB : B ≤ w.heap.size) (hok : LOk L) (hnc : NoClash L) :
    Calls Try.prog 50 #[.pointer (some ⟨x, of, none⟩), .int .i64 ow, .int .i64 k, .bool a] w (RTakeO w B x of tt cs (takeL L ow k a)) := by
  obtain ⟨R, hR⟩ : ∃ R, R = takeL L ow k a := ⟨_, rfl⟩
  have HT := Lib.hid (hR.trans (take_by hnc hl ow k a))
  rw [← hR]
  have hxl : x < w.heap.size := by obtain ⟨A, n, c, _, hk, _, _⟩ := h; exact hk.lt
  have hb0 := ba w (.cells #[.slice none 0 0] 30)
  have kq := Blk.new w 30 #[.slice none 0 0]
  obtain ⟨A, n, c, hn, hkx, hcs, hRx⟩ := h.below hb0
  have HX := Lib.hid h
  have HOK := Lib.hid hok
  obtain ⟨q, hq⟩ : ∃ q, q = w.heap.size := ⟨_, rfl⟩
  generalize hw1 : w.alloc (.cells #[.slice none 0 0] 30) = w1 at *
  have HW1 := Lib.hid hw1
  rw [← hq] at kq
  have hq1 : q + 1 ≤ w1.heap.size := kq.lt
  have hn64 : n ≤ 64 := by rw [hn.out]; exact hl
  have hxq : x ≠ q := by omega
  have hBq : B ≤ q := by omega
  have hxlq : x < q := by omega
  have Hq := Lib.hid hq
  clear hw1 hnc hl h hok hR
  go_enter Try.func50, Try.ntmps50
  go_wp2_with fail
  rw [HW1.out, ← hq]
  clear hq HW1
  refine wp_region_invT (F := ?FN) (V := VNx q x of n c A L) (dead := fun _ => none) (T := TNx q) (C := fun u => Blk u x tt cs ∧ LRows u B A c L ∧ Below w.heap.size w u ∧ q + 1 ≤ u.heap.size) (E := ENx q) (by kernel_rfl) (by kernel_rfl) (by kernel_rfl) (fun x_ => ?hFN) ?hmonoN ?hTmN ?hTN ?hCN ?stepN ?finN
  case hFN => simp only [mkA, Act.put, List.setIfInBounds_toArray, List.set_cons_succ, List.set_cons_zero, Nat.reduceAdd, Nat.zero_add]; first | with_reducible rfl | rfl
  case hmonoN => exact fun q' i v u u' he hik hwt hdd hv => VNx.mono he hik hv
  case hTmN => exact fun k' j u u' he hkj hwt hv => TNx.mono he hkj (fun h => ltf hwt (by rw [h.1, h.2]; kernel_rfl)) hv
  case hTN => exact fun j => by unfold TNx; split <;> first | exact kq | trivial
  case hCN => exact ⟨hkx, hRx.below ((Below.refl _ _).drew), hb0.drew, hq1⟩
  case stepN =>
    refine AllOps.cons (fun x_ u hC hT hp K hK => ?_) ?_
    · clear hp hT
      go_simp
      refine hK _ _ _ hC (Below.refl _ _) (by exact rfl) ?_
      first | (simp only [Act.put, List.setIfInBounds_toArray, List.set_cons_succ, List.set_cons_zero]; done) | simp [Act.put]
    refine AllOps.cons (fun x_ u hC hT hp K hK => ?_) ?_
    · clear hp hT
      go_simp
      refine hK _ _ _ hC (Below.refl _ _) (by exact rfl) ?_
      first | (simp only [Act.put, List.setIfInBounds_toArray, List.set_cons_succ, List.set_cons_zero]; done) | simp [Act.put]
    refine AllOps.cons (fun x_ u hC hT hp K hK => ?_) ?_
    · simp [KnownTill, Region.binds, VNx] at hp
      clear hT
      go_simp
      refine hK _ _ _ hC (Below.refl _ _) (by exact rfl) ?_
      first | (simp only [Act.put, List.setIfInBounds_toArray, List.set_cons_succ, List.set_cons_zero, hp]; done) | simp [Act.put, hp]
    refine AllOps.cons (fun x_ u hC hT hp K hK => ?_) ?_
    · simp [KnownTill, Region.binds, VNx] at hp
      clear hT
      go_simp
      refine hK _ _ _ hC (Below.refl _ _) (by exact rfl) ?_
      first | (simp only [Act.put, List.setIfInBounds_toArray, List.set_cons_succ, List.set_cons_zero, hp]; done) | simp [Act.put, hp]
    refine AllOps.cons (fun x_ u hC hT hp K hK => ?_) ?_
    · simp [KnownTill, Region.binds, VNx] at hp
      have kk : Blk u q 30 #[.slice none 0 0] := hT
      have cc := kk.cell 0
      simp only [List.getElem?_toArray, List.getElem?_cons_zero] at cc
      go_simp
      refine hK _ _ _ hC (Below.refl _ _) (by exact rfl) ?_
      first | (simp only [Act.put, List.setIfInBounds_toArray, List.set_cons_succ, List.set_cons_zero, hp]; done) | simp [Act.put, hp]
    refine AllOps.cons (fun x_ u hC hT hp K hK => ?_) ?_
    · clear hp hT
      go_simp
      refine hK _ _ _ hC (Below.refl _ _) (by exact rfl) ?_
      first | (simp only [Act.put, List.setIfInBounds_toArray, List.set_cons_succ, List.set_cons_zero]; done) | simp [Act.put]
    refine AllOps.cons (fun x_ u hC hT hp K hK => ?_) ?_
    · simp [KnownTill, Region.binds, VNx] at hp
      clear hT
      go_simp
      refine hK _ _ _ hC (Below.refl _ _) (by exact rfl) ?_
      first | (simp only [Act.put, List.setIfInBounds_toArray, List.set_cons_succ, List.set_cons_zero, hp]; done) | simp [Act.put, hp]
    refine AllOps.cons (fun x_ u hC hT hp K hK => ?_) ?_
    · simp [KnownTill, Region.binds, VNx] at hp
      clear hT
      go_simp
      refine hK _ _ _ hC (Below.refl _ _) (by exact rfl) ?_
      first | (simp only [Act.put, List.setIfInBounds_toArray, List.set_cons_succ, List.set_cons_zero, hp]; done) | simp [Act.put, hp]
    refine AllOps.cons (fun x_ u hC hT hp K hK => ?_) ?_
    · simp [KnownTill, Region.binds, VNx] at hp
      clear hT
      have cc := (hC.1.cell of).trans hcs
      go_simp
      refine hK _ _ _ hC (Below.refl _ _) (by exact rfl) ?_
      first | (simp only [Act.put, List.setIfInBounds_toArray, List.set_cons_succ, List.set_cons_zero, hp]; done) | simp [Act.put, hp]
    refine AllOps.cons (fun x_ u hC hT hp K hK => ?_) ?_
    · simp [KnownTill, Region.binds, VNx] at hp
      clear hT
      obtain ⟨A2, c2, uA, hrun, p1, p2, p3⟩ := rows_copy hC.2.1 n hn.out (by omega)
      have hC2 := hC
      obtain ⟨g1, g2, g3, g4⟩ := hC2
      refine step_append_run rfl (.tmp 17) (.tmp 21) 28 rfl (.slice none 0 0) (.slice A n c) (.slice A2 n c2) uA (by simp [Act.eval, hp]) (by simp [Act.eval, hp]) hrun ?_
      refine hK _ _ _ ⟨g1.below p3 g1.lt, g2.below p3, ⟨p3.os.trans g3.os, p3.tape.trans g3.tape, p3.output.trans g3.output, Nat.le_trans g3.size p3.size, fun i hi => (p3.block i (Nat.lt_of_lt_of_le hi g3.size)).trans (g3.block i hi)⟩, Nat.le_trans g4 p3.size⟩ p3 ⟨A2, c2, rfl, p1.base g4, p2⟩ ?_
      first | (simp only [Act.put, List.setIfInBounds_toArray, List.set_cons_succ, List.set_cons_zero, hp]; done) | simp [Act.put, hp]
    refine AllOps.cons (fun x_ u hC hT hp K hK => ?_) ?_
    · simp [KnownTill, Region.binds, VNx] at hp
      clear hT
      go_simp
      refine hK _ _ _ hC (Below.refl _ _) (by exact rfl) ?_
      first | (simp only [Act.put, List.setIfInBounds_toArray, List.set_cons_succ, List.set_cons_zero, hp]; done) | simp [Act.put, hp]
    refine AllOps.cons (fun x_ u hC hT hp K hK => ?_) ?_
    · simp [KnownTill, Region.binds, VNx] at hp
      clear hT
      go_simp
      refine hK _ _ _ hC (Below.refl _ _) (by exact rfl) ?_
      first | (simp only [Act.put, List.setIfInBounds_toArray, List.set_cons_succ, List.set_cons_zero, hp]; done) | simp [Act.put, hp]
    refine AllOps.cons (fun x_ u hC hT hp K hK => ?_) ?_
    · simp [KnownTill, Region.binds, VNx] at hp
      obtain ⟨e11, A2, c2, e9, o9, z9⟩ : x_ 11 = .pointer (some ⟨q, 0, none⟩) ∧ ∃ A2 c2, x_ 9 = .slice A2 n c2 ∧ OwnL u (q + 1) A2 c2 L ∧ (L = [] → A2 = none ∧ c2 = 0) := by first | exact hp | exact ⟨hp.2, hp.1⟩ | exact ⟨hp.1, hp.2.1⟩ | exact ⟨hp.2.1, hp.1⟩
      clear hp
      have kk : Blk u q 30 #[.slice none 0 0] := hT
      have cc := kk.cell 0
      have ff := kk.frozen 0
      have ks := kk.set_ 0 (.slice A2 n c2)
      have gs := lgrown_set u ⟨q, 0, none⟩ (.slice A2 n c2)
      simp only [List.getElem?_toArray, List.getElem?_cons_zero, List.setIfInBounds_toArray, List.set_cons_zero] at cc ks
      obtain ⟨g1, g2, g3, g4⟩ := hC
      have gB := g3.setCell (p := ⟨q, 0, none⟩) (Nat.le_of_eq Hq.out.symm) (.slice A2 n c2)
      have KK := Lib.hid kk
      have KS := Lib.hid (And.intro ks gs)
      have GB := Lib.hid gB
      clear ks gs kk gB
      go_simp
      refine hK undef _ _ ⟨g1.kept KS.out.2 (fun e => hxq (by injection e)), g2.kept KS.out.2 (fun r e => by cases e; exact .inr ⟨_, _, by decide, KK.out⟩), GB.out, Nat.le_trans g4 KS.out.2.size⟩ KS.out.2 ⟨A2, c2, KS.out.1, o9.kept KS.out.2 (fun r e => by cases e; exact Nat.lt_succ_self q), z9⟩ ?_
      simp [Act.put, e9, e11]
    exact AllOps.nil
  case finN =>
    intro x_ W2 hC hV
    obtain ⟨A2, c2, k2, o2, z2⟩ : OTab W2 q n L := hV 12 (by decide) rfl
    obtain ⟨g1, g2, BE2, g4⟩ := hC
    clear hV g1 g2
    have RT2 : RTab W2 (q + 1) q L := ⟨A2, n, c2, hn, k2, o2.rows z2⟩
    have hpl := place_any (q + 1) q L ow k W2 RT2 (by rw [← hn.out]; omega)
    clear hkx hRx kq hb0
    go_wp2_with fail
    refine hpl.mono ?_
    clear hpl
    rintro e w3 ⟨p, rfl, hp, rfl⟩
    have q0 := k2.cell 0
    have f0 := k2.frozen 0
    simp only [List.getElem?_toArray, List.getElem?_cons_zero] at q0
    rcases hp with ⟨rfl, hh⟩ | ⟨i, hi, rfl, h1, h2⟩
    · obtain ⟨M, hM⟩ : ∃ M, M = putL L k ow (aloneL L k ow || a) := ⟨_, rfl⟩
      have hM' : M = L ++ [(k, ow, a)] := by
        rw [hM, alone_no hh, Bool.false_or]
        unfold putL
        rw [if_neg (by rw [hh]; simp)]
      have HM2 := Lib.hid hM
      have hb3 := ba W2 (.cells #[.int .i64 k, .int .i64 ow, .bool a] 116)
      have o3 := o2.kept (lbelow_grown hb3 none) (fun r e => by cases e)
      obtain ⟨A5, c5, w5, hrun, o5, hg5⟩ := rows_more o3 n hn.out (by omega) (k, ow, a) W2.heap.size (by have := hb3.size; omega) (Blk.new W2 _ _)
      have hrow : ∀ r, Go.Proofs.Ytihchfjdgeehoaa.blk A2 = some r → q + 1 ≤ r := fun r e => (World.ownsRow.lt o2 r (by rw [ownBlock_slice]; exact e)).1
      have k5 := (k2.below hb3 k2.lt).kept hg5 (fun e => by have := hrow q e.symm; omega)
      have BE3 : Below w.heap.size w (W2.alloc (.cells #[.int .i64 k, .int .i64 ow, .bool a] 116)) := BE2.trans (hb3.mono BE2.size)
      have BE5 := BE3.grown hg5 BE3.size (fun r e => by have := hrow r e; have := Hq.out; omega)
      have d5 := k5.cell 0
      have f5 := k5.frozen 0
      have s5 := k5.set_ 0 (.slice A5 (n + 1) c5)
      simp only [List.getElem?_toArray, List.getElem?_cons_zero, List.setIfInBounds_toArray, List.set_cons_zero] at d5 s5
      have hset := lgrown_set w5 ⟨q, 0, none⟩ (.slice A5 (n + 1) c5)
      have o6 := o5.kept hset (fun r e => by cases e; exact Nat.lt_succ_self q)
      have BE4 := BE5.setCell (p := ⟨q, 0, none⟩) (Nat.le_of_eq Hq.out.symm) (.slice A5 (n + 1) c5)
      obtain ⟨n2, hn2⟩ : ∃ n2, n2 = n + 1 := ⟨_, rfl⟩
      have HM : Hid (n2 = M.length) := Lib.hid (by rw [hM', List.length_append, ← hn.out, hn2]; rfl)
      have RT4 : RTab (w5.setCell ⟨q, 0, none⟩ (.slice A5 (n + 1) c5)) (q + 1) q M := ⟨A5, n + 1, c5, Lib.hid (by rw [hM', List.length_append, ← hn.out]; rfl), s5, by rw [hM']; exact o6.rows (fun e => by simp at e)⟩
      have hn65 : n2 ≤ 65 := by omega
      obtain ⟨W4, hW4⟩ : ∃ W4, W4 = w5.setCell ⟨q, 0, none⟩ (.slice A5 (n + 1) c5) := ⟨_, rfl⟩
      rw [← hW4] at RT4 BE4
      have HW4 := Lib.hid hW4
      clear hM hM' hb3 o3 hg5 hrow k5 BE3 BE5 s5 hset o6 o5 hW4 hn2 hh RT2 BE2 k2 o2 z2
      go_wp2_with (at_builtin; refine wpList_append_run rfl (.tmp 35) (.tmp 40) 28 rfl _ _ _ w5 rfl rfl hrun ?_)
      rw [← HW4.out]
      clear HW4 hrun d5 f5 q0 f0
      have hcl := clashR_any (q + 1) q M W4 RT4 (by rw [← HM.out]; omega)
      obtain ⟨cl, hcl0⟩ : ∃ cl, cl = clashR M := ⟨_, rfl⟩
      rw [← hcl0] at hcl
      have HCL := Lib.hid hcl0
      clear hcl0
      refine hcl.mono ?_
      clear hcl
      rintro e W5 ⟨rfl, b5⟩
      have RT5 := RT4.below b5
      have BE5 : Below w.heap.size w W5 := BE4.trans (b5.mono BE4.size)
      have X5 := HX.out.below BE5
      have B5 := lbelow_grown BE5 (some x)
      clear RT4 b5
      rcases cl with _ | _
      · obtain ⟨A6, n6, c6, hn6, k6, R6⟩ := RT5
        obtain rfl : n6 = n2 := hn6.out.trans HM.out.symm
        have d0 := k6.cell 0
        simp only [List.getElem?_toArray, List.getElem?_cons_zero] at d0
        by_cases hbig : 64 < n6
        · have hbI : (64 : Int) < (n6 : Int) := by omega
          have HR : R = (5, L) := by rw [HT.out, if_neg (by rw [← HM2.out, ← HCL.out]; simp), if_pos (by rw [← HM2.out, ← HM.out]; exact hbig)]
          have HRR := Lib.hid HR
          clear HR
          go_wp2
          go_ret
          rw [HRR.out]
          exact ⟨rfl, X5.self, B5⟩
        · have hbI : ¬ (64 : Int) < (n6 : Int) := by omega
          have HR : R = (0, M) := by rw [HT.out, if_neg (by rw [← HM2.out, ← HCL.out]; simp), if_neg (by rw [← HM2.out, ← HM.out]; exact hbig), HM2.out]
          obtain ⟨A7, n7, c7, hn7, k7, hc7, R7⟩ := X5
          have f0 := k7.frozen of
          have d7 := (k7.cell of).trans hc7
          have s7 := k7.set_ of (.slice A6 n6 c6)
          have hset := lgrown_set W5 ⟨x, of, none⟩ (.slice A6 n6 c6)
          have R8 := (R6.kept hset (fun r e => by cases e; exact .inr ⟨_, _, htt, k7⟩)).base (B' := B) (by omega)
          have Hfin := Lib.hid (And.intro (show ∃ v, ROf (W5.setCell ⟨x, of, none⟩ (.slice A6 n6 c6)) B x of tt (cs.setIfInBounds of v) M from ⟨_, A6, n6, c6, hn6, s7, set_at hc7, R8⟩) (B5.andThen hset (fun r e => by cases e; exact .inr rfl)))
          have HRR := Lib.hid HR
          clear HR hset R8 s7 R6 R7 hn6 hn7 k7 hc7 k6 B5
          go_wp2
          go_ret
          rw [HRR.out]
          exact ⟨rfl, Hfin.out⟩
      · have HR : R = (120, L) := by rw [HT.out, if_pos (by rw [← HM2.out, ← HCL.out])]
        have HRR := Lib.hid HR
        clear HR RT5
        go_wp2
        go_ret
        rw [HRR.out]
        exact ⟨rfl, X5.self, B5⟩
    · obtain ⟨n2, hn2⟩ : ∃ n2, n2 = n := ⟨_, rfl⟩
      rcases a with _ | _
      · obtain ⟨M, hM⟩ : ∃ M, M = putL L k ow (aloneL L k ow || false) := ⟨_, rfl⟩
        have HM2 := Lib.hid hM
        have hML : M = L := by rw [hM, Bool.or_false]; exact alone_full HOK.out hi h1 h2
        have HM : Hid (n2 = M.length) := Lib.hid (by rw [hML, hn2]; exact hn.out)
        have RT4 : RTab W2 (q + 1) q M := by rw [hML]; exact RT2
        have hn65 : n2 ≤ 65 := by omega
        obtain ⟨W4, hW4⟩ : ∃ W4, W4 = W2 := ⟨_, rfl⟩
        subst hW4
        have BE4 := BE2
        have hi0 : ¬ (i : Int) < 0 := by omega
        clear hM hML hn2 RT2 BE2 k2 o2 z2 h1 h2 hi
        go_wp2_with fail
        clear q0 f0
        have hcl := clashR_any (q + 1) q M W4 RT4 (by rw [← HM.out]; omega)
        obtain ⟨cl, hcl0⟩ : ∃ cl, cl = clashR M := ⟨_, rfl⟩
        rw [← hcl0] at hcl
        have HCL := Lib.hid hcl0
        clear hcl0
        refine hcl.mono ?_
        clear hcl
        rintro e W5 ⟨rfl, b5⟩
        have RT5 := RT4.below b5
        have BE5 : Below w.heap.size w W5 := BE4.trans (b5.mono BE4.size)
        have X5 := HX.out.below BE5
        have B5 := lbelow_grown BE5 (some x)
        clear RT4 b5
        rcases cl with _ | _
        · obtain ⟨A6, n6, c6, hn6, k6, R6⟩ := RT5
          obtain rfl : n6 = n2 := hn6.out.trans HM.out.symm
          have d0 := k6.cell 0
          simp only [List.getElem?_toArray, List.getElem?_cons_zero] at d0
          by_cases hbig : 64 < n6
          · have hbI : (64 : Int) < (n6 : Int) := by omega
            have HR : R = (5, L) := by rw [HT.out, if_neg (by rw [← HM2.out, ← HCL.out]; simp), if_pos (by rw [← HM2.out, ← HM.out]; exact hbig)]
            have HRR := Lib.hid HR
            clear HR
            go_wp2
            go_ret
            rw [HRR.out]
            exact ⟨rfl, X5.self, B5⟩
          · have hbI : ¬ (64 : Int) < (n6 : Int) := by omega
            have HR : R = (0, M) := by rw [HT.out, if_neg (by rw [← HM2.out, ← HCL.out]; simp), if_neg (by rw [← HM2.out, ← HM.out]; exact hbig), HM2.out]
            obtain ⟨A7, n7, c7, hn7, k7, hc7, R7⟩ := X5
            have f0 := k7.frozen of
            have d7 := (k7.cell of).trans hc7
            have s7 := k7.set_ of (.slice A6 n6 c6)
            have hset := lgrown_set W5 ⟨x, of, none⟩ (.slice A6 n6 c6)
            have R8 := (R6.kept hset (fun r e => by cases e; exact .inr ⟨_, _, htt, k7⟩)).base (B' := B) (by omega)
            have Hfin := Lib.hid (And.intro (show ∃ v, ROf (W5.setCell ⟨x, of, none⟩ (.slice A6 n6 c6)) B x of tt (cs.setIfInBounds of v) M from ⟨_, A6, n6, c6, hn6, s7, set_at hc7, R8⟩) (B5.andThen hset (fun r e => by cases e; exact .inr rfl)))
            have HRR := Lib.hid HR
            clear HR hset R8 s7 R6 R7 hn6 hn7 k7 hc7 k6 B5
            go_wp2
            go_ret
            rw [HRR.out]
            exact ⟨rfl, Hfin.out⟩
        · have HR : R = (120, L) := by rw [HT.out, if_pos (by rw [← HM2.out, ← HCL.out])]
          have HRR := Lib.hid HR
          clear HR RT5
          go_wp2
          go_ret
          rw [HRR.out]
          exact ⟨rfl, X5.self, B5⟩
      · obtain ⟨M, hM⟩ : ∃ M, M = putL L k ow (aloneL L k ow || true) := ⟨_, rfl⟩
        have HM2 := Lib.hid hM
        rw [Bool.or_true] at hM
        have hML := (put_idx (a := true) HOK.out hi h1 h2).1
        have R2 := o2.rows z2
        obtain ⟨b, cb, e, hbb, hkb, hc⟩ := R2.at_ (by intro e; rw [e] at hi; simp at hi)
        subst e
        have R4 := R2.alone HOK.out hi h1 h2
        have hqb : q ≠ b := by omega
        have k4 := k2.far (p := ⟨b, i * 3 + 2, none⟩) hqb (.bool true)
        have BE4 := BE2.setCell (p := ⟨b, i * 3 + 2, none⟩) (show w.heap.size ≤ b by have := Hq.out; omega) (.bool true)
        have HM : Hid (n2 = M.length) := Lib.hid (by rw [hM, hML, hn2]; exact hn.out)
        have RT4 : RTab (W2.setCell ⟨b, i * 3 + 2, none⟩ (.bool true)) (q + 1) q M := ⟨_, n, c2, Lib.hid (by rw [hM, hML]; exact hn.out), k4, by rw [hM]; exact R4⟩
        have hn65 : n2 ≤ 65 := by omega
        have db := (hkb.cell (i * 3 + 2)).trans (hc i hi).2.2
        have fb := hkb.frozen (i * 3 + 2)
        generalize (L[i]'hi).2.2 = zb at db
        have hi0 : ¬ (i : Int) < 0 := by omega
        have hin : (i : Int) < (n : Int) := by have := hn.out; omega
        obtain ⟨W4, hW4⟩ : ∃ W4, W4 = W2.setCell ⟨b, i * 3 + 2, none⟩ (.bool true) := ⟨_, rfl⟩
        rw [← hW4] at RT4 BE4
        have HW4 := Lib.hid hW4
        clear hM hML hn2 RT2 BE2 R2 R4 k4 hkb hc hW4 k2 o2 z2 h1 h2 hi
        go_wp2_with fail
        rw [← HW4.out]
        clear HW4 db fb q0 f0
        have hcl := clashR_any (q + 1) q M W4 RT4 (by rw [← HM.out]; omega)
        obtain ⟨cl, hcl0⟩ : ∃ cl, cl = clashR M := ⟨_, rfl⟩
        rw [← hcl0] at hcl
        have HCL := Lib.hid hcl0
        clear hcl0
        refine hcl.mono ?_
        clear hcl
        rintro e W5 ⟨rfl, b5⟩
        have RT5 := RT4.below b5
        have BE5 : Below w.heap.size w W5 := BE4.trans (b5.mono BE4.size)
        have X5 := HX.out.below BE5
        have B5 := lbelow_grown BE5 (some x)
        clear RT4 b5
        rcases cl with _ | _
        · obtain ⟨A6, n6, c6, hn6, k6, R6⟩ := RT5
          obtain rfl : n6 = n2 := hn6.out.trans HM.out.symm
          have d0 := k6.cell 0
          simp only [List.getElem?_toArray, List.getElem?_cons_zero] at d0
          by_cases hbig : 64 < n6
          · have hbI : (64 : Int) < (n6 : Int) := by omega
            have HR : R = (5, L) := by rw [HT.out, if_neg (by rw [← HM2.out, ← HCL.out]; simp), if_pos (by rw [← HM2.out, ← HM.out]; exact hbig)]
            have HRR := Lib.hid HR
            clear HR
            go_wp2
            go_ret
            rw [HRR.out]
            exact ⟨rfl, X5.self, B5⟩
          · have hbI : ¬ (64 : Int) < (n6 : Int) := by omega
            have HR : R = (0, M) := by rw [HT.out, if_neg (by rw [← HM2.out, ← HCL.out]; simp), if_neg (by rw [← HM2.out, ← HM.out]; exact hbig), HM2.out]
            obtain ⟨A7, n7, c7, hn7, k7, hc7, R7⟩ := X5
            have f0 := k7.frozen of
            have d7 := (k7.cell of).trans hc7
            have s7 := k7.set_ of (.slice A6 n6 c6)
            have hset := lgrown_set W5 ⟨x, of, none⟩ (.slice A6 n6 c6)
            have R8 := (R6.kept hset (fun r e => by cases e; exact .inr ⟨_, _, htt, k7⟩)).base (B' := B) (by omega)
            have Hfin := Lib.hid (And.intro (show ∃ v, ROf (W5.setCell ⟨x, of, none⟩ (.slice A6 n6 c6)) B x of tt (cs.setIfInBounds of v) M from ⟨_, A6, n6, c6, hn6, s7, set_at hc7, R8⟩) (B5.andThen hset (fun r e => by cases e; exact .inr rfl)))
            have HRR := Lib.hid HR
            clear HR hset R8 s7 R6 R7 hn6 hn7 k7 hc7 k6 B5
            go_wp2
            go_ret
            rw [HRR.out]
            exact ⟨rfl, Hfin.out⟩
        · have HR : R = (120, L) := by rw [HT.out, if_pos (by rw [← HM2.out, ← HCL.out])]
          have HRR := Lib.hid HR
          clear HR RT5
          go_wp2
          go_ret
          rw [HRR.out]
          exact ⟨rfl, X5.self, B5⟩
end Go.Proofs.Ytihchfjdgeehoaa

namespace Go.Proofs.Ytihchfjdgeehoaa
open Go.RowKit Go.Maps
set_option linter.unusedVariables false
set_option linter.unusedSimpArgs false

theorem playK_B (ops : List OpV) : (playK ops).B = anyB := by
  unfold playK
  generalize ops.take 60 = l
  have : ∀ (l : List OpV) (S : KS), S.B = anyB → (l.foldl stepK S).B = anyB := by
    intro l
    induction l with
    | nil => intro S h; exact h
    | cons o l ih => intro S h; exact ih _ (stepK_B h o)
  exact this l _ rfl
set_option maxRecDepth 100000 in
set_option maxHeartbeats 4000000 in
theorem kvAlone_walk (A : Option Addr) (ops : List OpV) (c : Nat) (one two key : Int) (v : Nat) (w : World) (h : OpsAt w A ops) (o1 : -9223372036854775808 ≤ one) (o2 : one ≤ 9223372036854775807) (t1 : -9223372036854775808 ≤ two) (t2 : two ≤ 9223372036854775807) (y1 : -9223372036854775808 ≤ key) (y2 : key ≤ 9223372036854775807) (hv : v < 18446744073709551616) :
    Calls Try.prog 7 #[.slice A ops.length c, .int .i64 one, .int .i64 two, .int .i64 key, .int .u64 (v : Nat)] w fun e w' => e = .returned (.bool true) ∧ Below w.heap.size w w' := by
  obtain ⟨m, hm⟩ : ∃ m, m = ops.length := ⟨_, rfl⟩
  rw [← hm]
  have Ho : Hid (i64ok one) := Lib.hid ⟨o1, o2⟩
  have Ht : Hid (i64ok two) := Lib.hid ⟨t1, t2⟩
  have Hy : Hid (i64ok key) := Lib.hid ⟨y1, y2⟩
  have HP := Lib.hid (played_any A ops m c w (Lib.hid hm) h)
  obtain ⟨S, hS⟩ : ∃ S, S = playK ops := ⟨_, rfl⟩
  have hSB := playK_B ops
  rw [← hS] at HP hSB
  have HSB := Lib.hid hSB
  have hw1 : ∃ v1 : Nat, IntKind.u64.wrap ((v : Int) + 1) = (v1 : Int) := ⟨(v + 1) % 18446744073709551616, by simp [IntKind.wrap, IntKind.bits, IntKind.signed]⟩
  obtain ⟨v1, hw1⟩ := hw1
  clear h o1 o2 t1 t2 y1 y2 hv hS hSB hm
  go_enter Try.func7, Try.ntmps7
  go_wp2_with fail
  refine HP.out.mono ?_
  rintro e w1 ⟨⟨g, cs, rfl, hk, hg0⟩, b1⟩
  have H1 := Lib.hid (And.intro hk (And.intro b1 hg0))
  clear hk b1 hg0 HP
  rcases h12 : (one == two) with _ | _
  · have hne : two ≠ one := fun e => by subst e; simp at h12
    have hr := kput_any g _ cs S 2000 one key v w1 H1.out.1 (by omega) Ho.out Hy.out (fun _ _ => by rw [HSB.out]; trivial)
    obtain ⟨R, hR⟩ : ∃ R, R = changeM S one ⟨1, key, v⟩ := ⟨_, rfl⟩
    rw [← hR] at hr
    have HR := Lib.hid hR
    obtain ⟨e1, S1⟩ := R
    dsimp only at hr
    have HC := Lib.hid hr
    clear hr hR
    go_wp2_with fail
    refine HC.out.mono ?_
    rintro e w2 ⟨rfl, ⟨⟨cs2, hk2, _⟩, hg2⟩⟩
    have hB2 := H1.out.2.1.grown hg2 H1.out.2.1.size (fun r e => by cases e; exact H1.out.2.2)
    have H2 := Lib.hid (And.intro hk2 hB2)
    clear hk2 hg2 hB2
    rcases he : (e1 != 0) with _ | _
    · obtain rfl : e1 = 0 := by simpa using he
      have hal := alone_facts HR.out.symm
      have hcl : ∀ al, (openM S1 two key al).1 ≠ 0 := fun al => openM_clash hal.1 rfl (fun e => hne e.symm) rfl
      have r1 := changeM_refused (x := ⟨1, key, v1⟩) (hcl true)
      have r2 := changeM_refused (x := ⟨2, key, 0⟩) (hcl true)
      have r3 := getM_refused (hcl false)
      dsimp only at r1 r2
      obtain ⟨ea, hea⟩ : ∃ ea, ea = (openM S1 two key true).1 := ⟨_, rfl⟩
      obtain ⟨eb, heb⟩ : ∃ eb, eb = (openM S1 two key false).1 := ⟨_, rfl⟩
      have hea0 : (ea != 0) = true := by rw [hea]; simpa using hcl true
      have heb0 : (eb != 0) = true := by rw [heb]; simpa using hcl false
      rw [← hea] at r1 r2
      rw [← heb] at r3
      obtain ⟨S2, hS2⟩ := hal.2.1
      have hB1 : S1.B = anyB := hal.2.2.trans HSB.out
      have hr := kput_any g _ cs2 S1 2001 two key v1 w2 H2.out.1 (by omega) Ht.out Hy.out (fun _ _ => by rw [hB1]; trivial)
      rw [r1] at hr
      have HA := Lib.hid hr
      have HRR := Lib.hid (And.intro r2 (And.intro r3 (And.intro hS2 hB1)))
      clear hr r1 r2 r3 hS2 hB1 hal hcl hea heb he
      go_wp2_with fail
      refine HA.out.mono ?_
      rintro e w3 ⟨rfl, ⟨⟨cs3, hk3, _⟩, hg3⟩⟩
      have hB3 := H2.out.2.grown hg3 H2.out.2.size (fun r e => by cases e; exact H1.out.2.2)
      have hr := kdel_any g _ cs3 S1 2002 two key w3 hk3 (by omega) Ht.out Hy.out (fun _ _ => by rw [HRR.out.2.2.2]; trivial)
      rw [HRR.out.1] at hr
      have HBb := Lib.hid hr
      have HB3 := Lib.hid hB3
      clear hr hk3 hg3 hB3
      go_wp2_with fail
      refine HBb.out.mono ?_
      rintro e w4 ⟨rfl, ⟨⟨cs4, hk4, _⟩, hg4⟩⟩
      have hB4 := HB3.out.grown hg4 HB3.out.size (fun r e => by cases e; exact H1.out.2.2)
      have hr := get_any g _ cs4 S1 2003 two key w4 hk4 (by omega) Ht.out Hy.out
      rw [HRR.out.2.1] at hr
      have HCc := Lib.hid hr
      have HB4 := Lib.hid hB4
      clear hr hk4 hg4 hB4
      go_wp2_with fail
      refine HCc.out.mono ?_
      rintro e w5 ⟨rfl, ⟨⟨cs5, hk5, _⟩, hg5⟩⟩
      have hB5 := HB4.out.grown hg5 HB4.out.size (fun r e => by cases e; exact H1.out.2.2)
      have hr := get_any g _ cs5 S1 2003 one key w5 hk5 (by omega) Ho.out Hy.out
      rw [HRR.out.2.2.1] at hr
      have HD := Lib.hid hr
      have HB5 := Lib.hid hB5
      clear hr hk5 hg5 hB5
      go_wp2_with fail
      refine HD.out.mono ?_
      rintro e w6 ⟨rfl, ⟨_, hg6⟩⟩
      have HB6 := Lib.hid (HB5.out.grown hg6 HB5.out.size (fun r e => by cases e; exact H1.out.2.2))
      clear hg6
      go_wp2_with fail
      refine (alive_any w6).mono ?_
      rintro e w7 ⟨rfl, b7⟩
      have hF := Lib.hid (bt HB6.out b7)
      clear b7
      go_wp2
      go_ret
      exact ⟨rfl, hF.out⟩
    · go_wp2_with fail
      refine (alive_any w2).mono ?_
      rintro e w3 ⟨rfl, b3⟩
      have hF := Lib.hid (bt H2.out.2 b3)
      clear b3
      go_wp2
      go_ret
      exact ⟨rfl, hF.out⟩
  · go_wp2_with fail
    refine (alive_any w1).mono ?_
    rintro e w2 ⟨rfl, b2⟩
    have hF := Lib.hid (bt H1.out.2.1 b2)
    clear b2
    go_wp2
    go_ret
    exact ⟨rfl, hF.out⟩
theorem backout_V (S : KS) (n : Int) : (backoutM S n).2.V = S.V := by unfold backoutM; split <;> rfl
theorem backout_busy {S : KS} {n : Int} (h : 1 ≤ n) : busyB (backoutM S n).2 n = false := by unfold backoutM; rw [if_neg (by omega)]; exact busy_drop S n
set_option maxRecDepth 100000 in
set_option maxHeartbeats 4000000 in
theorem kvApart_walk (A : Option Addr) (ops : List OpV) (c : Nat) (A2 : Option Addr) (more : List OpV) (c2 : Nat) (n : Int) (w : World) (h : OpsAt w A ops) (h2 : OpsAt w A2 more) (n1 : -9223372036854775808 ≤ n) (n2 : n ≤ 9223372036854775807) :
    Calls Try.prog 5 #[.slice A ops.length c, .slice A2 more.length c2, .int .i64 n] w fun e w' => e = .returned (.bool true) ∧ Below w.heap.size w w' := by
  obtain ⟨m, hm⟩ : ∃ m, m = ops.length := ⟨_, rfl⟩
  obtain ⟨m2, hm2⟩ : ∃ m2, m2 = more.length := ⟨_, rfl⟩
  rw [← hm, ← hm2]
  have Hn : Hid (i64ok n) := Lib.hid ⟨n1, n2⟩
  have Hm2 := Lib.hid hm2
  have H2 := Lib.hid h2
  have hmx : (m2 : Int) ≤ 9223372036854775807 := by have := h2.1; rw [← hm2] at this; unfold maxLen at this; omega
  have hp := fun (u : World) (hu : Below w.heap.size w u) => played_any A ops m c u (Lib.hid hm) (h.below hu)
  obtain ⟨S, hS⟩ : ∃ S, S = playK ops := ⟨_, rfl⟩
  have hSB := playK_B ops
  rw [← hS] at hp hSB
  have HP := Lib.hid hp
  have HSB := Lib.hid hSB
  clear h h2 n1 n2 hS hSB hm hm2 hp
  go_enter Try.func5, Try.ntmps5
  go_wp2_with fail
  refine (HP.out w (Below.refl _ _)).mono ?_
  rintro e w1 ⟨⟨g, cs, rfl, hk, hg0⟩, b1⟩
  have H1 := Lib.hid (And.intro hk (And.intro b1 hg0))
  clear hk b1 hg0
  go_wp2_with fail
  refine (HP.out w1 H1.out.2.1).mono ?_
  rintro e w2 ⟨⟨g', cs', rfl, hk', hg0'⟩, b2⟩
  have H0 := Lib.hid (And.intro (H1.out.1.below b2) (And.intro hk' (And.intro (bt H1.out.2.1 b2) (And.intro H1.out.2.2 (And.intro (show w.heap.size ≤ g' by have := H1.out.2.1.size; omega) (show g ≠ g' by have := H1.out.1.lt; omega))))))
  clear hk' b2 hg0' HP H1
  go_wp2_with fail
  have HI : Hid (∃ St : KS, St.V = S.V ∧ St.B = anyB ∧ (∃ cs, KvAt w2 g 59 cs St (2000 + 31 * 0)) ∧ (∃ cs, KvAt w2 g' 59 cs S 2000) ∧ Below w.heap.size w w2) := Lib.hid ⟨S, rfl, HSB.out, ⟨cs, H0.out.1⟩, ⟨cs', H0.out.2.1⟩, H0.out.2.2.1⟩
  have HD := Lib.hid H0.out.2.2.2
  clear H0
  go_loopw [9] (fun i wr => ∃ (j : Nat), j ≤ m2 ∧ j ≤ 30 ∧ i = .int .i64 j ∧ Hid (∃ St : KS, St.V = S.V ∧ St.B = anyB ∧ (∃ cs, KvAt wr g 59 cs St (2000 + 31 * j)) ∧ (∃ cs, KvAt wr g' 59 cs S 2000) ∧ Below w.heap.size w wr)) (fun i _ => m2 - (intOf i).toNat)
  case atStart => exact ⟨0, Nat.zero_le _, by omega, rfl, HI⟩
  case round =>
    clear HI
    obtain ⟨j, hj, hj30, rfl, HR⟩ := hrel
    by_cases hjn : j < m2 ∧ j < 30
    · have hjI : (j : Int) < (m2 : Int) := by omega
      have hj3I : (j : Int) < 30 := by omega
      obtain ⟨St, hV, hSt, ⟨csa, hka⟩, ⟨csb, hkb⟩, hb⟩ := HR.out
      have hjo : j < more.length := by rw [← Hm2.out]; exact hjn.1
      obtain ⟨b, o, rfl, hlt, hcs⟩ := H2.out.2.2 (by omega)
      obtain ⟨q0, q1, q2, q3, q4⟩ := hcs j hjo
      obtain ⟨hok, hml, hin⟩ := H2.out.2.1 _ (List.getElem_mem hjo)
      obtain ⟨op, hop⟩ : ∃ op, op = more[j] := ⟨_, rfl⟩
      rw [← hop] at q0 q1 q2 q3 q4 hok hml hin
      have p0 := (hb.cell (p := ⟨b, o + j * 5, none⟩) hlt).trans q0
      have p1 := (hb.cell (p := ⟨b, o + j * 5 + 1, none⟩) hlt).trans q1
      have p2 := (hb.cell (p := ⟨b, o + j * 5 + 2, none⟩) hlt).trans q2
      have p3 := (hb.cell (p := ⟨b, o + j * 5 + 3, none⟩) hlt).trans q3
      have p4 := (hb.cell (p := ⟨b, o + j * 5 + 4, none⟩) hlt).trans q4
      obtain ⟨ok, on, oy, ov, oA, ol, oc⟩ := op
      obtain ⟨ml, hmq⟩ : ∃ ml, ml = ol.length := ⟨_, rfl⟩
      dsimp only at p0 p1 p2 p3 p4 hml hin
      rw [← hmq] at p4 hml
      obtain ⟨wA, hwA⟩ : ∃ wA, wA = wr.alloc (.cells #[.int .i64 ok, .int .i64 on, .int .i64 oy, .int .u64 (ov : Nat), .slice oA ml oc] 36) := ⟨_, rfl⟩
      have bA : Below wr.heap.size wr wA := by rw [hwA]; exact ba _ _
      have kA : Blk wA wr.heap.size 36 #[.int .i64 ok, .int .i64 on, .int .i64 oy, .int .u64 (ov : Nat), .slice oA ml oc] := by rw [hwA]; exact Blk.new _ _ _
      have d0 := kA.cell 0
      simp only [List.getElem?_toArray, List.getElem?_cons_zero, List.getElem?_cons_succ] at d0
      have HWA := Lib.hid hwA
      rw [hwA] at d0
      have HB := Lib.hid (And.intro hka (And.intro hkb (And.intro hb (And.intro hV (And.intro hSt (And.intro hok (And.intro hmq (hin.below hb))))))))
      have hnext : ∀ (u : World) (St : KS), St.V = S.V → St.B = anyB → (∃ cs, KvAt u g 59 cs St (2000 + 31 * (j + 1))) → (∃ cs, KvAt u g' 59 cs S 2000) → Below w.heap.size w u → Hid (∃ St : KS, St.V = S.V ∧ St.B = anyB ∧ (∃ cs, KvAt u g 59 cs St (2000 + 31 * (j + 1))) ∧ (∃ cs, KvAt u g' 59 cs S 2000) ∧ Below w.heap.size w u) := fun u St a b c d e => Lib.hid ⟨St, a, b, c, d, e⟩
      have hks := (hka.below bA).lt
      clear q0 q1 q2 q3 q4 hcs hop hka hkb hb hV hSt hwA bA kA hok hmq hin HR hjo hlt
      by_cases k03 : 0 ≤ ok ∧ ok ≤ 3
      · have k0I : decide (ok < 0) = false := decide_eq_false (by omega)
        have k3I : decide (3 < ok) = false := decide_eq_false (by omega)
        have k0P : ¬ ok < 0 := by omega
        have k3P : ¬ 3 < ok := by omega
        obtain ⟨wB, hwB⟩ : ∃ wB, wB = wr.alloc (.cells #[.int .i64 ok, .int .i64 n, .int .i64 oy, .int .u64 (ov : Nat), .slice oA ml oc] 36) := ⟨_, rfl⟩
        have bB : Below wr.heap.size wr wB := by rw [hwB]; exact ba _ _
        obtain ⟨hka, hkb, hb, hV, hSt, hok, hmq, hin⟩ := HB.out
        have hkaB := hka.below bB
        have hcall := call_any g _ csa St (2000 + 31 * j) ⟨ok, n, oy, ov, oA, ol, oc⟩ wB hkaB (by omega) ⟨Hn.out, hok.y, hok.v⟩ (fun e => absurd e (by dsimp only; omega)) (hin.below bB) (fun b _ => by rw [hSt]; trivial)
        unfold OpV.val at hcall
        dsimp only at hcall
        rw [← hmq] at hcall
        have HC := Lib.hid hcall
        have HVM := Lib.hid (callM_V St ⟨ok, n, oy, ov, oA, ol, oc⟩ k03.1 k03.2)
        have H5 := Lib.hid (And.intro (hkb.below bB) (And.intro (bt hb bB) (And.intro hkaB.bk (And.intro hV hSt))))
        have HWB := Lib.hid hwB
        clear hwB bB hka hkb hb hV hSt hok hmq hin hkaB hcall HB
        go_wp2_with fail
        rw [← HWB.out]
        refine HC.out.mono ?_
        rintro e w3 ⟨A3, q3, c3, rfl, _, _, ⟨⟨cs3, hk3, _⟩, hg3⟩⟩
        have HN := hnext w3 { (callM St ⟨ok, n, oy, ov, oA, ol, oc⟩).2 with B := anyB } (HVM.out.trans H5.out.2.2.2.1) rfl ⟨cs3, (hk3.more (by omega)).rebase fun _ _ _ => trivial⟩ ⟨csb, (H5.out.1.far hg3 (fun e => HD.out.2.2 e.symm) H5.out.2.2.1 (by decide)).rebase fun _ _ _ => by rw [HSB.out]; trivial⟩ (H5.out.2.1.grown hg3 H5.out.2.1.size (fun r e => by cases e; exact HD.out.1))
        clear hk3 hg3 p0 p1 p2 p3 p4 d0 hnext
        go_wp2
        go_roundw
        case rel => exact ⟨j + 1, by omega, by omega, by go_num, HN⟩
        case measure => simp [intOf]; omega
      · have HN := hnext wA St HB.out.2.2.2.1 HB.out.2.2.2.2.1 ⟨csa, (HB.out.1.below (by rw [HWA.out]; exact ba _ _)).more (by omega)⟩ ⟨csb, HB.out.2.1.below (by rw [HWA.out]; exact ba _ _)⟩ (bt HB.out.2.2.1 (by rw [HWA.out]; exact ba _ _))
        clear hnext HB
        rcases k0 : decide (ok < 0) with _ | _
        · have k0P : ¬ ok < 0 := of_decide_eq_false k0
          have k3P : 3 < ok := by omega
          have k3 : decide (3 < ok) = true := decide_eq_true k3P
          go_wp2
          rw [← HWA.out]
          go_roundw
          case rel => exact ⟨j + 1, by omega, by omega, by go_num, HN⟩
          case measure => simp [intOf]; omega
        · have k0P : ok < 0 := of_decide_eq_true k0
          go_wp2
          rw [← HWA.out]
          go_roundw
          case rel => exact ⟨j + 1, by omega, by omega, by go_num, HN⟩
          case measure => simp [intOf]; omega
    · have hf : Hid (∃ St : KS, St.V = S.V ∧ (∃ cs, KvAt wr g 59 cs St 200000) ∧ (∃ cs, KvAt wr g' 59 cs S 2000) ∧ Below w.heap.size w wr) := Lib.hid (by
        obtain ⟨St, a, _, ⟨cs1, b⟩, c, d⟩ := HR.out
        exact ⟨St, a, ⟨cs1, b.more (by omega)⟩, c, d⟩)
      obtain ⟨St, hV, ⟨csa, hka⟩, ⟨csb, hkb⟩, hb⟩ := hf.out
      have hr := sameValues_any g g' csa csb St S 200000 2000 wr hka hkb
      rw [show sameB St.V S.V = true from sameB_iff.2 fun k _ => by rw [hV]] at hr
      have HC := Lib.hid hr
      have H4 := Lib.hid (And.intro hka (And.intro hkb (And.intro hb hV)))
      clear hr hka hkb hb hV hf HR
      by_cases hjm : j < m2
      · have hjI : (j : Int) < (m2 : Int) := by omega
        have hj3I : ¬ (j : Int) < 30 := by omega
        go_wp2_with fail
        refine HC.out.mono ?_
        rintro e w3 ⟨rfl, b3⟩
        have hr := backout_any g _ csa St 200000 n w3 (H4.out.1.below b3) Hn.out
        have HC2 := Lib.hid hr
        have HP2 := Lib.hid (And.intro (H4.out.2.1.below b3) (And.intro (H4.out.1.below b3).bk (bt H4.out.2.2.1 b3)))
        obtain ⟨R, hR⟩ : ∃ R, R = backoutM St n := ⟨_, rfl⟩
        have HR := Lib.hid hR
        rw [← hR] at HC2
        clear hr b3 HC hR
        go_wp2_with fail
        refine HC2.out.mono ?_
        rintro e w4 ⟨rfl, ⟨⟨cs4, hk4, _⟩, hg4⟩⟩
        have H6 := Lib.hid (And.intro hk4 (And.intro (HP2.out.1.far hg4 (fun e => HD.out.2.2 e.symm) HP2.out.2.1 (by decide)) (HP2.out.2.2.grown hg4 HP2.out.2.2.size (fun r e => by cases e; exact HD.out.1))))
        clear hk4 hg4 HP2 HC2
        go_wp2_with fail
        refine (alive_any w4).mono ?_
        rintro e w5 ⟨rfl, b5⟩
        have hr := sameValues_any g g' _ _ R.2 S _ _ w5 (H6.out.1.below b5) (H6.out.2.1.below b5)
        rw [show sameB R.2.V S.V = true from sameB_iff.2 fun k _ => by rw [HR.out, backout_V, H4.out.2.2.2]] at hr
        have HC3 := Lib.hid hr
        have H7 := Lib.hid (And.intro (H6.out.1.below b5) (bt H6.out.2.2 b5))
        clear hr b5 H6
        go_wp2_with fail
        refine HC3.out.mono ?_
        rintro e w6 ⟨rfl, b6⟩
        have H8 := Lib.hid (And.intro (H7.out.1.below b6) (bt H7.out.2 b6))
        clear b6 H7 HC3
        rcases hn1 : decide (n < 1) with _ | _
        · have hnP : ¬ n < 1 := of_decide_eq_false hn1
          have hr := busy_any g _ _ R.2 _ n w6 H8.out.1 Hn.out
          rw [HR.out, backout_busy (by omega)] at hr
          have HC4 := Lib.hid hr
          clear hr
          go_wp2_with fail
          refine HC4.out.mono ?_
          rintro e w7 ⟨rfl, b7⟩
          have hF := Lib.hid (bt H8.out.2 b7)
          clear b7 HC4
          go_wp2
          go_ret
          exact ⟨rfl, hF.out⟩
        · have hnP : n < 1 := of_decide_eq_true hn1
          have hF := Lib.hid H8.out.2
          go_wp2
          go_ret
          exact ⟨rfl, hF.out⟩
      · have hjI : ¬ (j : Int) < (m2 : Int) := by omega
        go_wp2_with fail
        refine HC.out.mono ?_
        rintro e w3 ⟨rfl, b3⟩
        have hr := backout_any g _ csa St 200000 n w3 (H4.out.1.below b3) Hn.out
        have HC2 := Lib.hid hr
        have HP2 := Lib.hid (And.intro (H4.out.2.1.below b3) (And.intro (H4.out.1.below b3).bk (bt H4.out.2.2.1 b3)))
        obtain ⟨R, hR⟩ : ∃ R, R = backoutM St n := ⟨_, rfl⟩
        have HR := Lib.hid hR
        rw [← hR] at HC2
        clear hr b3 HC hR
        go_wp2_with fail
        refine HC2.out.mono ?_
        rintro e w4 ⟨rfl, ⟨⟨cs4, hk4, _⟩, hg4⟩⟩
        have H6 := Lib.hid (And.intro hk4 (And.intro (HP2.out.1.far hg4 (fun e => HD.out.2.2 e.symm) HP2.out.2.1 (by decide)) (HP2.out.2.2.grown hg4 HP2.out.2.2.size (fun r e => by cases e; exact HD.out.1))))
        clear hk4 hg4 HP2 HC2
        go_wp2_with fail
        refine (alive_any w4).mono ?_
        rintro e w5 ⟨rfl, b5⟩
        have hr := sameValues_any g g' _ _ R.2 S _ _ w5 (H6.out.1.below b5) (H6.out.2.1.below b5)
        rw [show sameB R.2.V S.V = true from sameB_iff.2 fun k _ => by rw [HR.out, backout_V, H4.out.2.2.2]] at hr
        have HC3 := Lib.hid hr
        have H7 := Lib.hid (And.intro (H6.out.1.below b5) (bt H6.out.2.2 b5))
        clear hr b5 H6
        go_wp2_with fail
        refine HC3.out.mono ?_
        rintro e w6 ⟨rfl, b6⟩
        have H8 := Lib.hid (And.intro (H7.out.1.below b6) (bt H7.out.2 b6))
        clear b6 H7 HC3
        rcases hn1 : decide (n < 1) with _ | _
        · have hnP : ¬ n < 1 := of_decide_eq_false hn1
          have hr := busy_any g _ _ R.2 _ n w6 H8.out.1 Hn.out
          rw [HR.out, backout_busy (by omega)] at hr
          have HC4 := Lib.hid hr
          clear hr
          go_wp2_with fail
          refine HC4.out.mono ?_
          rintro e w7 ⟨rfl, b7⟩
          have hF := Lib.hid (bt H8.out.2 b7)
          clear b7 HC4
          go_wp2
          go_ret
          exact ⟨rfl, hF.out⟩
        · have hnP : n < 1 := of_decide_eq_true hn1
          have hF := Lib.hid H8.out.2
          go_wp2
          go_ret
          exact ⟨rfl, hF.out⟩
end Go.Proofs.Ytihchfjdgeehoaa

namespace Go.Proofs.Ytihchfjdgeehoaa
open Go.RowKit Go.Maps
set_option linter.unusedVariables false
set_option linter.unusedSimpArgs false

def RightL (l : List Ch) : Prop := (∀ x ∈ l, kindB x = true ∧ keyB x.y = true) ∧ l.Pairwise (fun a b => a.y ≠ b.y)
theorem RightL.nil : RightL [] := ⟨(fun x hx => by cases hx), List.Pairwise.nil⟩
theorem RightL.with_ {l : List Ch} (h : RightL l) {x : Ch} (h1 : kindB x = true) (h2 : keyB x.y = true) : RightL (withL l x) := by
  unfold withL
  split
  · rename_i hlt
    refine ⟨fun z hz => ?_, ?_⟩
    · rcases List.mem_or_eq_of_mem_set hz with hz | rfl
      · exact h.1 z hz
      · exact ⟨h1, h2⟩
    · have hp : (l[posN l x.y]'hlt).y = x.y := by
        have := List.findIdx_getElem (p := fun z : Ch => decide (z.y = x.y)) (xs := l) (w := hlt)
        unfold posN
        simpa using this
      have hw := List.pairwise_iff_getElem.1 h.2
      rw [List.pairwise_iff_getElem]
      intro i j hi hj hij
      rw [List.length_set] at hi hj
      rw [List.getElem_set, List.getElem_set]
      split
      · rename_i e
        subst e
        rw [if_neg (by omega)]
        have := hw _ j hi hj hij
        rw [hp] at this
        exact this
      · split
        · rename_i e
          subst e
          have := hw i _ hi hj hij
          rw [hp] at this
          exact this
        · exact hw i j hi hj hij
  · rename_i hge
    refine ⟨fun z hz => ?_, ?_⟩
    · rcases List.mem_append.1 hz with hz | hz
      · exact h.1 z hz
      · obtain rfl := List.mem_singleton.1 hz
        exact ⟨h1, h2⟩
    · rw [List.pairwise_append]
      refine ⟨h.2, List.pairwise_singleton _ _, fun a ha b hb => ?_⟩
      obtain rfl := List.mem_singleton.1 hb
      intro e
      exact hge (List.findIdx_lt_length_of_exists ⟨a, ha, by simpa using e⟩)
theorem are_right : ∀ (l : List Ch) (s : Nat → Bool), areB s l = true → (∀ x ∈ l, s x.y.toNat = false) ∧ RightL l
  | [], s, _ => ⟨(fun x hx => by cases hx), RightL.nil⟩
  | x :: l, s, h => by
    unfold areB at h
    simp only [Bool.and_eq_true, Bool.not_eq_true'] at h
    obtain ⟨h1, h2, h3, h4⟩ := h
    obtain ⟨i1, i2⟩ := are_right l _ h4
    have hn : ∀ z ∈ l, z.y.toNat ≠ x.y.toNat := fun z hz e => by
      have := i1 z hz
      unfold updS at this
      rw [if_pos e] at this
      cases this
    refine ⟨fun z hz => ?_, fun z hz => ?_, ?_⟩
    · rcases List.mem_cons.1 hz with rfl | hz
      · exact h3
      · have := i1 z hz
        unfold updS at this
        rw [if_neg (hn z hz)] at this
        exact this
    · rcases List.mem_cons.1 hz with rfl | hz
      · exact ⟨h1, h2⟩
      · exact i2.1 z hz
    · exact List.pairwise_cons.2 ⟨fun z hz e => hn z hz (by rw [e]), i2.2⟩
theorem fold_not : ∀ (l : List Ch) (V : Nat → Nat × Bool) (k : Nat), (∀ z ∈ l, z.y.toNat ≠ k) → (l.foldl setV V) k = V k
  | [], V, k, _ => rfl
  | x :: l, V, k, h => by
    rw [List.foldl_cons, fold_not l _ k (fun z hz => h z (List.mem_cons_of_mem _ hz))]
    exact if_neg (fun e => h x (List.mem_cons_self ..) e.symm)
theorem key_bd {y : Int} (h : keyB y = true) : 0 ≤ y ∧ y < 16 := by
  unfold keyB at h
  simpa using h
theorem fold_right : ∀ (l : List Ch) (V : Nat → Nat × Bool), RightL l → ∀ x ∈ l, (l.foldl setV V) x.y.toNat = (x.v, x.k == 1)
  | a :: l, V, h, x, hx => by
    have hp := List.pairwise_cons.1 h.2
    have hr : RightL l := ⟨fun z hz => h.1 z (List.mem_cons_of_mem _ hz), hp.2⟩
    rw [List.foldl_cons]
    rcases List.mem_cons.1 hx with rfl | hx
    · rw [fold_not]
      · exact if_pos rfl
      · intro z hz e
        have h1 := key_bd (hr.1 z hz).2
        have h2 := key_bd (h.1 x (List.mem_cons_self ..)).2
        exact hp.1 z hz (by omega)
    · exact fold_right l _ hr x hx
def InvR (S : KS) : Prop := ∀ n l p, S.W n = some (l, p) → RightL l
theorem InvR.cur {S : KS} (h : InvR S) (n : Int) : RightL (curW S n).1 := by
  unfold curW
  rcases hw : S.W n with _ | ⟨l, p⟩
  · exact RightL.nil
  · exact h n l p hw
theorem InvR.up {S : KS} (h : InvR S) {W : Int → Option (List Ch × Bool)} {n : Int} {o : Option (List Ch × Bool)} (ho : ∀ l p, o = some (l, p) → RightL l) (hW : W = updW S.W n o) {V B L} : InvR ⟨B, V, W, L⟩ := fun m l p e => by
  have e : W m = some (l, p) := e
  rw [hW] at e
  unfold updW at e
  split at e
  · exact ho l p e
  · exact h m l p e
theorem InvR.same {S S' : KS} (h : InvR S) (e : S'.W = S.W) : InvR S' := fun m l p h' => h m l p (by rw [← e]; exact h')
theorem InvR.change {S : KS} (h : InvR S) (n : Int) (x : Ch) (h1 : kindB x = true) : InvR (changeM S n x).2 := by
  unfold changeM
  split
  · rename_i h0
    refine InvR.up (S := S) h (o := some (withL (curW S n).1 x, false)) (n := n) ?_ rfl
    rintro l p e
    injection e with e
    injection e with e _
    rw [← e]
    exact (h.cur n).with_ h1 (openM_ok h0).2.2
  · exact h.same (openM_W S n x.y true).1
theorem InvR.drop {S : KS} (h : InvR S) (n : Int) : InvR (dropM S n) := InvR.up (S := S) h (o := none) (n := n) (fun l p e => by cases e) rfl
theorem InvR.step {S : KS} (h : InvR S) (o : OpV) : InvR (stepK S o) := by
  unfold stepK
  split
  · refine InvR.same (S := (callM S o).2) ?_ rfl
    unfold callM
    split
    · show InvR (getM S o.n o.y).2
      unfold getM
      split
      · split <;> exact h.same (openM_W _ _ _ _).1
      · exact h.same (openM_W _ _ _ _).1
    · split
      · exact h.change _ _ rfl
      · split
        · exact h.change _ _ rfl
        · split
          · show InvR (prepM S o.n).2
            unfold prepM
            split
            · exact h
            · split
              · exact h
              · split
                · exact h.same rfl
                · refine InvR.up (S := S) h (o := some ((curW S o.n).1, true)) (n := o.n) ?_ rfl
                  rintro l p e
                  injection e with e
                  injection e with e _
                  rw [← e]
                  exact h.cur _
          · split
            · show InvR (commitM S o.n).2
              unfold commitM
              split
              · exact h
              · exact InvR.drop (h.same rfl) _
            · split
              · show InvR (backoutM S o.n).2
                unfold backoutM
                split
                · exact h
                · exact h.drop _
              · split
                · show InvR (restoreM S o.n o.l).2
                  unfold restoreM
                  split
                  · exact h
                  · split
                    · exact h
                    · rename_i ha
                      split
                      · exact h
                      · split
                        · show InvR ⟨S.B, S.V, restW S o.n o.l, (takeAll S.L o.n o.l).2⟩
                          unfold restW
                          split
                          · exact h
                          · refine InvR.up (S := S) h (o := some (o.l, true)) (n := o.n) ?_ rfl
                            rintro l p e
                            injection e with e
                            injection e with e _
                            rw [← e]
                            exact (are_right o.l _ (by simpa using ha)).2
                        · exact h.same rfl
                · exact h
  · exact h
theorem InvR.play (ops : List OpV) : InvR (playK ops) := by
  unfold playK
  generalize ops.take 60 = l
  have : ∀ (l : List OpV) (S : KS), InvR S → InvR (l.foldl stepK S) := by
    intro l
    induction l with
    | nil => intro S h; exact h
    | cons o l ih => intro S h; exact ih _ (h.step o)
  exact this l _ (fun n l p e => by cases e)
/-- What a work that is prepared tells. -/
theorem prep_facts {S S1 : KS} {n : Int} {l : List Ch} (hS : InvR S) (h : prepM S n = ((l, 0), S1)) (hl : 0 < l.length) : RightL l ∧ 1 ≤ n ∧ S1 = { S with W := updW S.W n (some (l, true)) } := by
  have hc := hS.cur n
  unfold prepM at h
  split at h
  · injection h with h1 _; injection h1 with h1 h2; cases h2
  · split at h
    · injection h with h1 _; injection h1 with h1 h2; cases h2
    · split at h
      · injection h with h1 _; injection h1 with h1 h2; rw [← h1] at hl; exact absurd hl (by simp)
      · injection h with h1 h2
        injection h1 with h1 _
        rw [h1] at h2 hc
        exact ⟨hc, by omega, h2.symm⟩
theorem prepared_open {S : KS} {n : Int} {l : List Ch} (hn : 1 ≤ n) (y : Int) (al : Bool) (h : S.W n = some (l, true)) : openM S n y al = (if keyB y then 7 else 1, S) := by
  unfold openM curW
  rw [h]
  rcases hk : keyB y with _ | _
  · rw [if_pos (.inr rfl)]; rfl
  · rw [if_neg (by rintro (h | h); omega; cases h)]; rfl
theorem prepared_change {S : KS} {n : Int} {l : List Ch} (hn : 1 ≤ n) (x : Ch) (h : S.W n = some (l, true)) : changeM S n x = (if keyB x.y then 7 else 1, S) := by
  unfold changeM
  rw [prepared_open hn x.y true h]
  rw [if_neg]
  dsimp only
  split <;> decide
theorem prepared_get {S : KS} {n : Int} {l : List Ch} (hn : 1 ≤ n) (y : Int) (h : S.W n = some (l, true)) : getM S n y = ((0, false, if keyB y then 7 else 1), S) := by
  unfold getM
  rw [prepared_open hn y false h]
  rw [if_neg]
  dsimp only
  split <;> decide
theorem prepared_prep {S : KS} {n : Int} {l : List Ch} (hn : 1 ≤ n) (h : S.W n = some (l, true)) : prepM S n = (([], 7), S) := by
  unfold prepM curW
  rw [h, if_neg (by omega)]
  rfl
theorem prepared_busy {S : KS} {n : Int} {l : List Ch} (h : S.W n = some (l, true)) : busyB S n = true := by
  unfold busyB; rw [h]; rfl
theorem prepared_commit {S : KS} {n : Int} {l : List Ch} (hn : 1 ≤ n) (h : S.W n = some (l, true)) : (commitM S n).2.V = l.foldl setV S.V ∧ busyB (commitM S n).2 n = false := by
  unfold commitM curW
  rw [h, if_neg (by omega)]
  exact ⟨rfl, busy_drop _ _⟩
end Go.Proofs.Ytihchfjdgeehoaa
