/- Layer 12: the document's table. -/
import Derived.Test.YtaeofacaljeckaaKq
namespace Go.Proofs.Ytaeofacaljeckaa
open Go.RowKit Go.Maps Go.Joins Go.Deep
set_option linter.unusedVariables false
set_option linter.unusedSimpArgs false

theorem Try.infoLock : (Try.prog.info? 61).map (fun i => (i.zero, i.size, i.bytes)) = some (some (.agg #[.int .i64 0, .int .i64 0, .bool false]), 3, 24) := by kernel_rfl
def flatL (L : List LRow) : List Value := L.flatMap fun x => [.int .i64 x.1, .int .i64 x.2.1, .bool x.2.2]
theorem flatL_len (L : List LRow) : (flatL L).length = L.length * 3 := by
  induction L with
  | nil => rfl
  | cons o L ih => unfold flatL at ih ⊢; rw [List.flatMap_cons, List.length_append, ih]; simp; omega
theorem flatL_snoc (L : List LRow) (x : LRow) : flatL (L ++ [x]) = flatL L ++ [.int .i64 x.1, .int .i64 x.2.1, .bool x.2.2] := by unfold flatL; simp
theorem flatL_at : ∀ (L : List LRow) (i : Nat) (h : i < L.length), (flatL L)[i * 3]? = some (.int .i64 L[i].1) ∧ (flatL L)[i * 3 + 1]? = some (.int .i64 L[i].2.1) ∧ (flatL L)[i * 3 + 2]? = some (.bool L[i].2.2)
  | x :: L, 0, _ => by unfold flatL; simp
  | x :: L, i + 1, h => by
    have := flatL_at L i (by simpa using h)
    have e : flatL (x :: L) = [.int .i64 x.1, .int .i64 x.2.1, .bool x.2.2] ++ flatL L := by unfold flatL; rw [List.flatMap_cons]
    rw [e]
    have hs : ∀ j, ([.int .i64 x.1, .int .i64 x.2.1, .bool x.2.2] ++ flatL L)[(i + 1) * 3 + j]? = (flatL L)[i * 3 + j]? := by
      intro j
      rw [List.getElem?_append_right (by simp; omega)]
      congr 1
      simp
      omega
    exact ⟨(hs 0).trans this.1, (hs 1).trans this.2.1, (hs 2).trans this.2.2⟩
/-- The rows of a table of the document's, in a block at or above B. -/
structure LRows (u : World) (B : Nat) (A : Option Addr) (c : Nat) (L : List LRow) : Prop where
  nil : L = [] → A = none ∧ c = 0
  at_ : L ≠ [] → ∃ b cs, A = some ⟨b, 0, none⟩ ∧ B ≤ b ∧ Blk u b 61 cs ∧ ∀ i, (h : i < L.length) → cs[i * 3]? = some (.int .i64 (L[i]'h).1) ∧ cs[i * 3 + 1]? = some (.int .i64 (L[i]'h).2.1) ∧ cs[i * 3 + 2]? = some (.bool (L[i]'h).2.2)
theorem LRows.empty (u : World) (B : Nat) : LRows u B none 0 [] := ⟨fun _ => ⟨rfl, rfl⟩, fun h => absurd rfl h⟩
theorem LRows.kept {u u' : World} {B c : Nat} {A : Option Addr} {L : List LRow} {row : Option Nat} (h : LRows u B A c L) (hg : u.grownBy u' row) (hr : ∀ r, row = some r → r < B ∨ ∃ t cs, t ≠ 61 ∧ Blk u r t cs) : LRows u' B A c L := by
  refine ⟨h.nil, fun hn => ?_⟩
  obtain ⟨b, cs, e, hb, hk, hc⟩ := h.at_ hn
  refine ⟨b, cs, e, hb, hk.kept hg (fun e2 => ?_), hc⟩
  rcases hr b e2.symm with h1 | ⟨t, cs2, h1, h2⟩
  · omega
  · exact h2.ne hk h1 rfl
theorem LRows.below {u u' : World} {B c : Nat} {A : Option Addr} {L : List LRow} (h : LRows u B A c L) (hb : Below u.heap.size u u') : LRows u' B A c L := h.kept (lbelow_grown hb none) (fun r e => by cases e)
theorem LRows.base {u : World} {B B' c : Nat} {A : Option Addr} {L : List LRow} (h : LRows u B A c L) (hB : B' ≤ B) : LRows u B' A c L := ⟨h.nil, fun hn => by
  obtain ⟨b, cs, e, hb, hk, hc⟩ := h.at_ hn
  exact ⟨b, cs, e, Nat.le_trans hB hb, hk, hc⟩⟩
def OwnL (u : World) (B : Nat) (A : Option Addr) (c : Nat) (L : List LRow) : Prop := u.ownsRow B 61 3 (.slice A L.length c) L.length (flatL L)
theorem OwnL.rows {u : World} {B c : Nat} {A : Option Addr} {L : List LRow} (h : OwnL u B A c L) (hz : L = [] → A = none ∧ c = 0) : LRows u B A c L := by
  refine ⟨hz, fun hn => ?_⟩
  have hp : 0 < L.length := List.length_pos_iff.2 hn
  rcases h.2 with ⟨h1, h2⟩ | ⟨g, cap, cur, h1, hb, hg, h3, h4, h5, h6⟩
  · omega
  · cases h1
    have hc : ∀ j v, (flatL L)[j]? = some v → cur[j]? = some v := fun j v hv => by
      rw [← Array.getElem?_toList]
      rw [← h6, List.getElem?_take] at hv
      split at hv
      · exact hv
      · cases hv
    refine ⟨g, cur, rfl, hb, hg, fun i hi => ?_⟩
    obtain ⟨q0, q1, q2⟩ := flatL_at L i hi
    exact ⟨hc _ _ q0, hc _ _ q1, hc _ _ q2⟩
theorem OwnL.kept {u u' : World} {B c : Nat} {A : Option Addr} {L : List LRow} {row : Option Nat} (h : OwnL u B A c L) (hg : u.grownBy u' row) (hr : ∀ r, row = some r → r < B) : OwnL u' B A c L := by
  refine World.ownsRow.kept h hg ?_
  rcases hb : (Value.slice A L.length c).ownBlock with _ | k
  · exact .inl rfl
  · refine .inr (fun e => ?_)
    have h2 := World.ownsRow.lt h k hb
    have := hr k e.symm
    omega
/-- A copy of a table's rows. -/
theorem rows_copy {u : World} {B c : Nat} {A : Option Addr} {L : List LRow} (h : LRows u B A c L) (n : Nat) (hn : n = L.length) (hl : n ≤ 100) :
    ∃ A2 c2 u', (Builtin.append_ #[26, 26] 26 #[.slice none 0 0, .slice A n c]).run Try.prog u = .ok (.slice A2 n c2) u' ∧
      OwnL u' u.heap.size A2 c2 L ∧ (L = [] → A2 = none ∧ c2 = 0) ∧ Below u.heap.size u u' := by
  subst hn
  obtain ⟨i0, hi, hz0, hz1, hz2⟩ := info_parts Try.infoLock
  by_cases hL : L = []
  · subst hL
    obtain ⟨rfl, rfl⟩ := h.nil rfl
    exact ⟨none, 0, u, run_append_owned_none (P := Try.prog) (w := u) u.heap.size 26 26 61 i0 3 Try.underlying26 hi _ 0 [] (World.ownsRow_nil _ _ _ _), World.ownsRow_nil _ _ _ _, fun _ => ⟨rfl, rfl⟩, Below.refl _ _⟩
  · obtain ⟨b, cs, rfl, hb, hk, hc⟩ := h.at_ hL
    have hp : 0 < L.length := List.length_pos_iff.2 hL
    have hcell : ∀ j v, (flatL L)[j]? = some v → u.cell? ⟨b, j, none⟩ = some v := fun j v hv => by
      have hj : j < L.length * 3 := by rw [← flatL_len]; exact (List.getElem?_eq_some_iff.1 hv).1
      obtain ⟨q0, q1, q2⟩ := hc (j / 3) (by omega)
      obtain ⟨p0, p1, p2⟩ := flatL_at L (j / 3) (by omega)
      rw [hk.cell]
      have hm : j = j / 3 * 3 ∨ j = j / 3 * 3 + 1 ∨ j = j / 3 * 3 + 2 := by omega
      rcases hm with e | e | e
      · rw [e] at hv ⊢; rw [q0, ← p0, hv]
      · rw [e] at hv ⊢; rw [q1, ← p1, hv]
      · rw [e] at hv ⊢; rw [q2, ← p2, hv]
    obtain ⟨v', w', hrun, hown, hgr, _, _⟩ := run_append_own_at (P := Try.prog) u u.heap.size 26 26 61 i0 _ 3 24 Try.underlying26 hi hz0 hz1 hz2 rfl (by omega) (.slice none 0 0) 0 [] (World.ownsRow_nil _ _ _ _) ⟨b, 0, none⟩ L.length c (flatL L) (flatL_len L)
      (fun j v hv => by
        have e : (⟨b, 0, none⟩ : Addr).add j = ⟨b, j, none⟩ := by
          simp [Addr.add]
          try omega
        rw [e]; exact hcell j v hv)
      (fun v hv => by
        unfold flatL at hv
        obtain ⟨x, _, hx⟩ := List.mem_flatMap.1 hv
        simp at hx
        rcases hx with rfl | rfl | rfl <;> rfl) (by simp only [maxLen]; omega) (by omega) (Nat.le_refl _)
    obtain ⟨g2, c2, rfl⟩ := Joins.ownsRow_form hown (by omega)
    simp only [Nat.zero_add, List.nil_append] at hrun hown
    exact ⟨some ⟨g2, 0, none⟩, c2, w', hrun, hown, fun e => absurd e hL, lgrown_below hgr⟩
theorem rows_more {u : World} {B c : Nat} {A : Option Addr} {L : List LRow} (h : OwnL u B A c L) (n : Nat) (hn : n = L.length) (hl : n ≤ 100) (x : LRow) (q : Nat) (hBu : B ≤ u.heap.size)
    (hq : Blk u q 61 #[.int .i64 x.1, .int .i64 x.2.1, .bool x.2.2]) :
    ∃ A2 c2 u', (Builtin.append_ #[26, 26] 26 #[.slice A n c, .slice (some ⟨q, 0, none⟩) 1 1]).run Try.prog u = .ok (.slice A2 (n + 1) c2) u' ∧
      OwnL u' B A2 c2 (L ++ [x]) ∧ u.grownBy u' (blk A) := by
  subst hn
  obtain ⟨i0, hi, hz0, hz1, hz2⟩ := info_parts Try.infoLock
  obtain ⟨v', w', hrun, hown, hgr, _, _⟩ := run_append_own_at (P := Try.prog) u B 26 26 61 i0 _ 3 24 Try.underlying26 hi hz0 hz1 hz2 rfl (by omega) (.slice A L.length c) L.length (flatL L) h ⟨q, 0, none⟩ 1 1 [.int .i64 x.1, .int .i64 x.2.1, .bool x.2.2] rfl
    (fun j v hv => by
      have := hq.cell j
      have e : (⟨q, 0, none⟩ : Addr).add j = ⟨q, j, none⟩ := by
        simp [Addr.add]
        try omega
      rw [e, this]
      rw [List.getElem?_toArray]; exact hv)
    (fun v hv => by simp at hv; rcases hv with rfl | rfl | rfl <;> rfl) (by simp only [maxLen]; omega) (by omega) hBu
  obtain ⟨g2, c2, rfl⟩ := Joins.ownsRow_form hown (by omega)
  rw [ownBlock_slice] at hgr
  refine ⟨some ⟨g2, 0, none⟩, c2, w', hrun, ?_, hgr⟩
  unfold OwnL
  rw [List.length_append, flatL_snoc]
  exact hown
/-- The document's table. -/
def RTab (u : World) (B x : Nat) (L : List LRow) : Prop := ∃ A n c, Hid (n = L.length) ∧ Blk u x 28 #[.slice A n c] ∧ LRows u B A c L
theorem RTab.kept {u u' : World} {B x : Nat} {L : List LRow} {row : Option Nat} (h : RTab u B x L) (hg : u.grownBy u' row) (hr : ∀ r, row = some r → r ≠ x ∧ (r < B ∨ ∃ t cs, t ≠ 61 ∧ Blk u r t cs)) : RTab u' B x L := by
  obtain ⟨A, n, c, hn, hk, hR⟩ := h
  exact ⟨A, n, c, hn, hk.kept hg (fun e => (hr x e.symm).1 rfl), hR.kept hg fun r e => (hr r e).2⟩
theorem RTab.below {u u' : World} {B x : Nat} {L : List LRow} (h : RTab u B x L) (hb : Below u.heap.size u u') : RTab u' B x L := h.kept (lbelow_grown hb none) (fun r e => by cases e)
/-- Where a lock stands. -/
def PlaceR (L : List LRow) (k o : Int) (p : Int) : Prop := (p = -1 ∧ heldL L k o = false) ∨ ∃ i, ∃ h : i < L.length, p = (i : Int) ∧ (L[i]'h).1 = k ∧ (L[i]'h).2.1 = o
theorem heldL_no {L : List LRow} {k o : Int} (h : ∀ x ∈ L, ¬ (x.1 = k ∧ x.2.1 = o)) : heldL L k o = false := by
  cases hh : heldL L k o with
  | false => rfl
  | true => obtain ⟨x, hx, e⟩ := held_iff.1 hh; exact absurd e (h x hx)

set_option maxRecDepth 100000 in
set_option maxHeartbeats 1000000 in
theorem place_any (B x : Nat) (L : List LRow) (ow k : Int) (w : World) (h : RTab w B x L) (hl : L.length ≤ 100) :
    Calls Try.prog 24 #[.pointer (some ⟨x, 0, none⟩), .int .i64 ow, .int .i64 k] w fun e w' => ∃ p, e = .returned (.int .i64 p) ∧ PlaceR L k ow p ∧ w = w' := by
  obtain ⟨A, n, c, hn, hk, hR⟩ := h
  have c0 := hk.cell 0
  simp only [List.getElem?_toArray, List.getElem?_cons_zero] at c0
  have hn100 : n ≤ 100 := by rw [hn.out]; exact hl
  have HR := Lib.hid hR
  clear hk hR hl
  go_enter Try.func24, Try.ntmps24
  go_wp2_with fail
  go_loopw [7] (fun i wr => ∃ j : Nat, j ≤ n ∧ i = .int .i64 j ∧ Hid (∀ i, (h : i < L.length) → i < j → ¬ ((L[i]'h).1 = k ∧ (L[i]'h).2.1 = ow)) ∧ w = wr) (fun i _ => n - (intOf i).toNat)
  case atStart => exact ⟨0, Nat.zero_le _, rfl, Lib.hid (fun i h h2 => by omega), rfl⟩
  case round =>
    obtain ⟨j, hj, rfl, hno, rfl⟩ := hrel
    by_cases hjn : j < n
    · have hjI : (j : Int) < (n : Int) := by omega
      have hjL : j < L.length := by have := hn.out; omega
      obtain ⟨b, cs, rfl, _, hkb, hc⟩ := HR.out.at_ (by intro e; rw [e] at hjL; simp at hjL)
      obtain ⟨q0, q1, q2⟩ := hc j hjL
      rw [← hkb.cell] at q0 q1 q2
      have hstep : Hid (¬ ((L[j]'hjL).1 = k ∧ (L[j]'hjL).2.1 = ow) → ∀ i, (h : i < L.length) → i < j + 1 → ¬ ((L[i]'h).1 = k ∧ (L[i]'h).2.1 = ow)) := Lib.hid (fun h1 i hi hij => by
        by_cases e : i = j
        · subst e; exact h1
        · exact hno.out i hi (by omega))
      have hyes : Hid ((L[j]'hjL).1 = k → (L[j]'hjL).2.1 = ow → PlaceR L k ow (j : Int)) := Lib.hid (fun h1 h2 => .inr ⟨j, hjL, rfl, h1, h2⟩)
      generalize L[j]'hjL = z at q0 q1 q2 hstep hyes
      obtain ⟨zk, zo, za⟩ := z
      simp only at q0 q1 q2 hstep hyes
      clear hc hkb hjL hno
      by_cases h1 : zk = k
      · by_cases h2 : zo = ow
        · have hP := hyes.out h1 h2
          subst h1
          subst h2
          have HP := Lib.hid hP
          clear hstep hyes hP
          go_wp2
          go_ret
          exact ⟨_, rfl, HP.out, rfl⟩
        · have hno2 : Hid _ := Lib.hid (hstep.out (fun e => h2 e.2))
          have e1 : (zk == k) = true := by simp [h1]
          have e2 : (zo == ow) = false := by simp [h2]
          clear hstep hyes
          subst h1
          go_wp2
          go_roundw
          case rel => exact ⟨j + 1, by omega, by go_num, hno2, by first | rfl | trivial⟩
          case measure => simp [intOf]; omega
      · have hno2 : Hid _ := Lib.hid (hstep.out (fun e => h1 e.1))
        have e1 : (zk == k) = false := by simp [h1]
        clear hstep hyes
        go_wp2
        go_roundw
        case rel => exact ⟨j + 1, by omega, by go_num, hno2, by first | rfl | trivial⟩
        case measure => simp [intOf]; omega
    · have hjI : ¬ (j : Int) < (n : Int) := by omega
      have HP : Hid (PlaceR L k ow (-1)) := Lib.hid (.inl ⟨rfl, heldL_no fun x hx e => by
        obtain ⟨i, hi, rfl⟩ := List.mem_iff_getElem.1 hx
        exact hno.out i hi (by have := hn.out; omega) e⟩)
      clear hno
      go_wp2
      go_ret
      exact ⟨_, rfl, HP.out, rfl⟩
end Go.Proofs.Ytaeofacaljeckaa
