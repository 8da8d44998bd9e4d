/- Parts Iu Iv Iw Ix of one proof. -/
import Derived.Test.YtlliaihmfimdoaaGreatMg29
import Derived.Test.YtlliaihmfimdoaaGreatMg30
namespace Go.Proofs.YtlliaihmfimdoaaGreat
open Go.RowKit Go.Maps Go.Joins Go.Deep
set_option linter.unusedVariables false
set_option linter.unusedSimpArgs false

/-- A work of the document's store, with the places where it lies. -/
structure WI where
  q : Nat
  n : Int
  A : Option Addr
  c : Nat
  l : List Ch
  p : Bool
def ptV (qs : List Nat) : List Value := qs.map fun q => .pointer (some ⟨q, 0, none⟩)
def OwnPt (u : World) (B : Nat) (A : Option Addr) (c : Nat) (qs : List Nat) : Prop := u.ownsRow B 109 1 (.slice A qs.length c) qs.length (ptV qs)
def prV (P : List (Int × Nat)) : List Value := P.flatMap fun x => [.int .i64 x.1, .int .u64 (x.2 : Nat)]
def OwnPr (u : World) (B : Nat) (A : Option Addr) (c : Nat) (P : List (Int × Nat)) : Prop := u.ownsRow B 114 2 (.slice A P.length c) P.length (prV P)
theorem prV_at : ∀ (P : List (Int × Nat)) (i : Nat) (h : i < P.length), (prV P)[i * 2]? = some (.int .i64 (P[i]'h).1) ∧ (prV P)[i * 2 + 1]? = some (.int .u64 ((P[i]'h).2 : Nat))
  | x :: P, 0, _ => by unfold prV; simp
  | x :: P, i + 1, h => by
    have := prV_at P i (by simpa using h)
    have e : prV (x :: P) = [.int .i64 x.1, .int .u64 (x.2 : Nat)] ++ prV P := by unfold prV; rw [List.flatMap_cons]
    rw [e]
    have hs : ∀ j, ([.int .i64 x.1, .int .u64 (x.2 : Nat)] ++ prV P)[(i + 1) * 2 + j]? = (prV P)[i * 2 + j]? := by
      intro j
      rw [List.getElem?_append_right (by simp; omega)]
      congr 1
      simp
      omega
    exact ⟨(hs 0).trans this.1, (hs 1).trans this.2⟩
theorem row_cells {u : World} {B k n c : Nat} {t : TypeId} {A : Option Addr} {vs : List Value} (h : u.ownsRow B t k (.slice A n c) n vs) (hp : 0 < n) : ∃ b, A = some ⟨b, 0, none⟩ ∧ B ≤ b ∧ b < u.heap.size ∧ (∃ cs fz, u.heap[b]? = some (.cells cs t fz)) ∧ ∀ j v, vs[j]? = some v → u.cell? ⟨b, j, none⟩ = some v := by
  rcases h.2 with ⟨h1, h2⟩ | ⟨g, cap, cur, h1, hb, hg, hn, hm, hc, ht⟩
  · omega
  · injection h1 with e1 e2 e3
    refine ⟨g, e1, hb, (Array.getElem?_eq_some_iff.1 hg).1, ⟨cur, _, hg⟩, fun j v hv => ?_⟩
    have hcell : u.cell? ⟨g, j, none⟩ = cur[j]? := cell_of_row u g j cur _ (0, 0) hg
    rw [hcell]
    rw [← ht, List.getElem?_take] at hv
    split at hv
    · simpa using hv
    · cases hv
/-- The document's store: its pairs, works, locks. -/
structure RAt (u : World) (B x : Nat) (P : List (Int × Nat)) (ws : List WI) (L : List LRow) : Prop where
  ex : ∃ AP nP cP AW nW cW AL nL cL, Blk u x 32 #[.slice AP nP cP, .slice AW nW cW, .slice AL nL cL] ∧ nP = P.length ∧ nW = ws.length ∧ nL = L.length ∧ OwnPr u B AP cP P ∧ OwnPt u B AW cW (ws.map WI.q) ∧ LRows u B AL cL L
  wk : ∀ y ∈ ws, B ≤ y.q ∧ Blk u y.q 147 #[.int .i64 y.n, .slice y.A y.l.length y.c, .bool y.p] ∧ OwnC u B y.A y.c y.l
  ds : ws.Pairwise fun a b => a.q ≠ b.q ∧ ∀ r, blk a.A = some r → blk b.A ≠ some r
  sm : P.length ≤ 100 ∧ ws.length ≤ 100 ∧ L.length ≤ 64 ∧ ∀ y ∈ ws, y.l.length ≤ 100
def findW (ws : List WI) (n : Int) : Option WI := ws.find? fun y => decide (y.n = n)
theorem findW_at {ws : List WI} {n : Int} {j : Nat} (hj : j < ws.length) (hno : ∀ i, (h : i < ws.length) → i < j → (ws[i]'h).n ≠ n) (h : (ws[j]'hj).n = n) : findW ws n = some (ws[j]'hj) := by
  unfold findW
  rw [List.find?_eq_some_iff_getElem]
  exact ⟨by simpa using h, j, hj, rfl, fun i hi => by simpa using hno i (by omega) hi⟩
theorem findW_none {ws : List WI} {n : Int} (hno : ∀ i, (h : i < ws.length) → (ws[i]'h).n ≠ n) : findW ws n = none := by
  unfold findW
  rw [List.find?_eq_none]
  intro y hy
  obtain ⟨i, hi, rfl⟩ := List.mem_iff_getElem.1 hy
  simpa using hno i hi
set_option maxRecDepth 100000 in
set_option maxHeartbeats 2000000 in
theorem find_any (B x : Nat) (P : List (Int × Nat)) (ws : List WI) (L : List LRow) (n : Int) (w : World) (h : RAt w B x P ws L) :
    Calls Tryz.prog 45 #[.pointer (some ⟨x, 0, none⟩), .int .i64 n] w fun e w' => e = .returned (.pointer ((findW ws n).map fun y => ⟨y.q, 0, none⟩)) ∧ w = w' := by
  obtain ⟨AP, nP, cP, AW, nW, cW, AL, nL, cL, hk, _, hnW, _, _, hpt, _⟩ := h.ex
  have c1 := hk.cell 1
  simp only [List.getElem?_toArray, List.getElem?_cons_zero, List.getElem?_cons_succ] at c1
  have hn1 : nW ≤ 100 := by rw [hnW]; exact h.sm.2.1
  have HN := Lib.hid hnW
  have H := Lib.hid (And.intro hpt h.wk)
  clear hk hpt h hnW
  go_enter Tryz.func45, Tryz.ntmps45
  go_wp2_with fail
  go_loopw [5] (fun i wr => ∃ j : Nat, j ≤ nW ∧ i = .int .i64 j ∧ Hid (∀ i, (h : i < ws.length) → i < j → (ws[i]'h).n ≠ n) ∧ w = wr) (fun i _ => nW - (intOf i).toNat)
  case atStart => exact ⟨0, Nat.zero_le _, rfl, Lib.hid (fun i h h2 => by omega), rfl⟩
  case round =>
    obtain ⟨j, hj, rfl, hno, rfl⟩ := hrel
    by_cases hjn : j < nW
    · have hjI : (j : Int) < (nW : Int) := by omega
      have hjL : j < ws.length := by rw [← HN.out]; exact hjn
      have hpt := H.out.1
      unfold OwnPt at hpt
      rw [List.length_map] at hpt
      obtain ⟨b, rfl, _, _, _, hc⟩ := row_cells hpt (by omega)
      have q0 := hc j (.pointer (some ⟨(ws[j]'hjL).q, 0, none⟩)) (by unfold ptV; simp [hjL])
      have q1 := (H.out.2 _ (List.getElem_mem hjL)).2.1.cell 0
      simp only [List.getElem?_toArray, List.getElem?_cons_zero, List.getElem?_cons_succ] at q1
      have hyes : Hid ((ws[j]'hjL).n = n → findW ws n = some (ws[j]'hjL)) := Lib.hid (fun e => findW_at hjL hno.out e)
      have hstep : Hid (¬ (ws[j]'hjL).n = n → ∀ i, (h : i < ws.length) → i < j + 1 → (ws[i]'h).n ≠ n) := Lib.hid (fun h1 i hi hij => by
        by_cases e : i = j
        · subst e; exact h1
        · exact hno.out i hi (by omega))
      generalize ws[j]'hjL = y at q0 q1 hyes hstep
      obtain ⟨yq, yn, yA, yc, yl, yp⟩ := y
      dsimp only at q0 q1 hyes hstep
      clear hpt hc hno hjL
      by_cases h1 : yn = n
      · have HP : Hid (findW ws n = some ⟨yq, yn, yA, yc, yl, yp⟩) := Lib.hid (hyes.out h1)
        subst h1
        clear hyes hstep
        go_wp2
        go_ret
        exact ⟨by rw [HP.out]; rfl, rfl⟩
      · have hno2 : Hid (∀ i, (h : i < ws.length) → i < j + 1 → (ws[i]'h).n ≠ n) := Lib.hid (hstep.out h1)
        have e1 : (yn == n) = false := by simp [h1]
        clear hyes hstep
        go_wp2
        go_roundw
        case rel => exact ⟨j + 1, by omega, by go_num, hno2, by first | rfl | trivial⟩
        case measure => simp [intOf]; omega
    · have hjI : ¬ (j : Int) < (nW : Int) := by omega
      have HP : Hid (findW ws n = none) := Lib.hid (findW_none fun i hi => hno.out i hi (by have := HN.out; omega))
      clear hno
      go_wp2
      go_ret
      exact ⟨by rw [HP.out]; rfl, rfl⟩
def valP (P : List (Int × Nat)) (y : Int) : Nat × Bool := match P.find? (fun x => decide (x.1 = y)) with | some x => (x.2, true) | none => (0, false)
theorem valP_at {P : List (Int × Nat)} {n : Int} {j : Nat} (hj : j < P.length) (hno : ∀ i, (h : i < P.length) → i < j → (P[i]'h).1 ≠ n) (h : (P[j]'hj).1 = n) : valP P n = ((P[j]'hj).2, true) := by
  unfold valP
  have : P.find? (fun x => decide (x.1 = n)) = some (P[j]'hj) := by
    rw [List.find?_eq_some_iff_getElem]
    exact ⟨by simpa using h, j, hj, rfl, fun i hi => by simpa using hno i (by omega) hi⟩
  rw [this]
theorem valP_none {P : List (Int × Nat)} {n : Int} (hno : ∀ i, (h : i < P.length) → (P[i]'h).1 ≠ n) : valP P n = (0, false) := by
  unfold valP
  have : P.find? (fun x => decide (x.1 = n)) = none := by
    rw [List.find?_eq_none]
    intro y hy
    obtain ⟨i, hi, rfl⟩ := List.mem_iff_getElem.1 hy
    simpa using hno i hi
  rw [this]
set_option maxRecDepth 100000 in
set_option maxHeartbeats 2000000 in
theorem rvalue_any (B x : Nat) (P : List (Int × Nat)) (ws : List WI) (L : List LRow) (n : Int) (w : World) (h : RAt w B x P ws L) :
    Calls Tryz.prog 52 #[.pointer (some ⟨x, 0, none⟩), .int .i64 n] w fun e w' => e = .returned (.tuple #[.int .u64 ((valP P n).1 : Nat), .bool (valP P n).2]) ∧ w = w' := by
  obtain ⟨AP, nP, cP, AW, nW, cW, AL, nL, cL, hk, hnP, _, _, hpr, _, _⟩ := h.ex
  have c1 := hk.cell 0
  simp only [List.getElem?_toArray, List.getElem?_cons_zero, List.getElem?_cons_succ] at c1
  have hn1 : nP ≤ 100 := by rw [hnP]; exact h.sm.1
  have HN := Lib.hid hnP
  have H := Lib.hid hpr
  clear hk hpr h hnP
  go_enter Tryz.func52, Tryz.ntmps52
  go_wp2_with fail
  go_loopw [6] (fun i wr => ∃ j : Nat, j ≤ nP ∧ i = .int .i64 j ∧ Hid (∀ i, (h : i < P.length) → i < j → (P[i]'h).1 ≠ n) ∧ w = wr) (fun i _ => nP - (intOf i).toNat)
  case atStart => exact ⟨0, Nat.zero_le _, rfl, Lib.hid (fun i h h2 => by omega), rfl⟩
  case round =>
    obtain ⟨j, hj, rfl, hno, rfl⟩ := hrel
    by_cases hjn : j < nP
    · have hjI : (j : Int) < (nP : Int) := by omega
      have hjL : j < P.length := by rw [← HN.out]; exact hjn
      have hpt := H.out
      unfold OwnPr at hpt
      obtain ⟨b, rfl, _, _, _, hc⟩ := row_cells hpt (by omega)
      have q0 := hc (j * 2) _ (prV_at P j hjL).1
      have q1 := hc (j * 2 + 1) _ (prV_at P j hjL).2
      have hyes : Hid ((P[j]'hjL).1 = n → valP P n = ((P[j]'hjL).2, true)) := Lib.hid (fun e => valP_at hjL hno.out e)
      have hstep : Hid (¬ (P[j]'hjL).1 = n → ∀ i, (h : i < P.length) → i < j + 1 → (P[i]'h).1 ≠ n) := Lib.hid (fun h1 i hi hij => by
        by_cases e : i = j
        · subst e; exact h1
        · exact hno.out i hi (by omega))
      generalize P[j]'hjL = y at q0 q1 hyes hstep
      obtain ⟨yk, yv⟩ := y
      dsimp only at q0 q1 hyes hstep
      clear hpt hc hno hjL
      by_cases h1 : yk = n
      · have HP : Hid (valP P n = (yv, true)) := Lib.hid (hyes.out h1)
        subst h1
        clear hyes hstep
        go_wp2
        go_ret2
        exact ⟨by rw [HP.out]; rfl, rfl⟩
      · have hno2 : Hid (∀ i, (h : i < P.length) → i < j + 1 → (P[i]'h).1 ≠ n) := Lib.hid (hstep.out h1)
        have e1 : (yk == n) = false := by simp [h1]
        clear hyes hstep
        go_wp2
        go_roundw
        case rel => exact ⟨j + 1, by omega, by go_num, hno2, by first | rfl | trivial⟩
        case measure => simp [intOf]; omega
    · have hjI : ¬ (j : Int) < (nP : Int) := by omega
      have HP : Hid (valP P n = (0, false)) := Lib.hid (valP_none fun i hi => hno.out i hi (by have := HN.out; omega))
      clear hno
      go_wp2
      go_ret2
      exact ⟨by rw [HP.out]; rfl, rfl⟩
end Go.Proofs.YtlliaihmfimdoaaGreat

namespace Go.Proofs.YtlliaihmfimdoaaGreat
open Go.RowKit Go.Maps Go.Joins Go.Deep
set_option linter.unusedVariables false
set_option linter.unusedSimpArgs false

theorem Tryz.infoPt : (Tryz.prog.info? 109).map (fun i => (i.zero, i.size, i.bytes)) = some (some (.pointer none), 1, 8) := by kernel_rfl
theorem own_ne {u : World} {B k n c m x : Nat} {t tt : TypeId} {A : Option Addr} {vs : List Value} {cs : Array Value} (h : u.ownsRow B t k (.slice A n c) m vs) (hx : Blk u x tt cs) (ht : t ≠ tt) : blk A ≠ some x := by
  rcases h.2 with ⟨h1, h2⟩ | ⟨g, cap, cur, h1, hb, hg, hn, hm, hc, ht'⟩
  · cases h1
    simp [blk]
  · injection h1 with e1 e2 e3
    intro e
    rw [e1] at e
    injection e with e
    have e : g = x := e
    subst e
    unfold Blk at hx
    rw [hx] at hg
    injection hg with hg
    injection hg with _ hg _
    exact ht hg.symm
theorem own_kept {u u' : World} {B k n c m x : Nat} {t tt : TypeId} {A : Option Addr} {vs : List Value} {cs : Array Value} (h : u.ownsRow B t k (.slice A n c) m vs) (hx : Blk u x tt cs) (ht : t ≠ tt) (hg : u.grownBy u' (some x)) : u'.ownsRow B t k (.slice A n c) m vs := by
  refine World.ownsRow.kept h hg ?_
  rcases hb : (Value.slice A n c).ownBlock with _ | k
  · exact .inl rfl
  · refine .inr (fun e => ?_)
    rw [ownBlock_slice] at hb
    exact own_ne h hx ht (hb.trans e)
theorem wk_kept {u u' : World} {B x : Nat} {ws : List WI} {cs : Array Value} (hw : ∀ y ∈ ws, B ≤ y.q ∧ Blk u y.q 147 #[.int .i64 y.n, .slice y.A y.l.length y.c, .bool y.p] ∧ OwnC u B y.A y.c y.l) (hx : Blk u x 32 cs) (hg : u.grownBy u' (some x)) :
    ∀ y ∈ ws, B ≤ y.q ∧ Blk u' y.q 147 #[.int .i64 y.n, .slice y.A y.l.length y.c, .bool y.p] ∧ OwnC u' B y.A y.c y.l := fun y hy => by
  obtain ⟨h1, h2, h3⟩ := hw y hy
  exact ⟨h1, h2.kept hg (fun e => h2.ne hx (by decide) (by injection e)), own_kept h3 hx (by decide) hg⟩
/-- The locks turn. -/
theorem RAt.rof {w : World} {B x : Nat} {P : List (Int × Nat)} {ws : List WI} {L : List LRow} (h : RAt w B x P ws L) : ∃ cs, ROf w B x 2 32 cs L ∧ ∀ w' v L', ROf w' B x 2 32 (cs.setIfInBounds 2 v) L' → L'.length ≤ 64 → w.grownBy w' (some x) → RAt w' B x P ws L' := by
  obtain ⟨AP, nP, cP, AW, nW, cW, AL, nL, cL, hk, hnP, hnW, hnL, hpr, hpt, hl⟩ := h.ex
  refine ⟨_, ⟨AL, nL, cL, Lib.hid hnL, hk, rfl, hl⟩, fun w' v L' h' hl' hg => ?_⟩
  obtain ⟨A', n', c', hn', hk', hcs', hl2⟩ := h'
  have hv : v = .slice A' n' c' := by simpa using hcs'
  subst hv
  exact ⟨⟨AP, nP, cP, AW, nW, cW, A', n', c', hk', hnP, hnW, hn'.out, own_kept hpr hk (by decide) hg, own_kept hpt hk (by decide) hg, hl2⟩, wk_kept h.wk hk hg, h.ds, h.sm.1, h.sm.2.1, hl', h.sm.2.2.2⟩
theorem RAt.below {w w' : World} {B x : Nat} {P : List (Int × Nat)} {ws : List WI} {L : List LRow} (h : RAt w B x P ws L) (hb : Below w.heap.size w w') : RAt w' B x P ws L := by
  obtain ⟨AP, nP, cP, AW, nW, cW, AL, nL, cL, hk, hnP, hnW, hnL, hpr, hpt, hl⟩ := h.ex
  have hg := lbelow_grown hb (some x)
  exact ⟨⟨AP, nP, cP, AW, nW, cW, AL, nL, cL, hk.below hb hk.lt, hnP, hnW, hnL, own_kept hpr hk (by decide) hg, own_kept hpt hk (by decide) hg, hl.below hb⟩, wk_kept h.wk hk hg, h.ds, h.sm⟩
/-- What a call of the document's store may write: its own block, blocks of its works and of their pointers, and lists of its works. -/
structure RG (B0 : Nat) (u u' : World) (x : Nat) (S : Nat → Prop) : Prop where
  os : u'.os = u.os
  tape : u'.tape = u.tape
  output : u'.output = u.output
  size : u.heap.size ≤ u'.heap.size
  low : ∀ k, k < B0 → k < u.heap.size → k ≠ x → u'.heap[k]? = u.heap[k]?
  block : ∀ k, k < u.heap.size → k ≠ x → u'.heap[k]? = u.heap[k]? ∨ (∃ cs fz, u.heap[k]? = some (.cells cs 109 fz)) ∨ (∃ cs fz, u.heap[k]? = some (.cells cs 147 fz)) ∨ ((∃ cs fz, u.heap[k]? = some (.cells cs 74 fz)) ∧ S k)
theorem RG.of {B0 : Nat} {u u' : World} {x : Nat} {S : Nat → Prop} (h : u.grownBy u' (some x)) : RG B0 u u' x S :=
  ⟨h.os, h.tape, h.output, h.size, fun k _ hk hx => h.block k hk (fun e => hx (by injection e)), fun k hk hx => .inl (h.block k hk (fun e => hx (by injection e)))⟩
theorem RG.trans {B0 : Nat} {a b c : World} {x : Nat} {S S' : Nat → Prop} (h : RG B0 a b x S) (k : RG B0 b c x S') (hS : ∀ r, r < a.heap.size → S' r → S r) : RG B0 a c x S := by
  refine ⟨k.os.trans h.os, k.tape.trans h.tape, k.output.trans h.output, Nat.le_trans h.size k.size, fun r hb hr hx => (k.low r hb (Nat.lt_of_lt_of_le hr h.size) hx).trans (h.low r hb hr hx), fun r hr hx => ?_⟩
  rcases h.block r hr hx with e | e | e | e
  · have := k.block r (Nat.lt_of_lt_of_le hr h.size) hx
    rw [e] at this
    rcases this with e | e | e | ⟨e, e2⟩
    · exact .inl e
    · exact .inr (.inl e)
    · exact .inr (.inr (.inl e))
    · exact .inr (.inr (.inr ⟨e, hS r hr e2⟩))
  · exact .inr (.inl e)
  · exact .inr (.inr (.inl e))
  · exact .inr (.inr (.inr e))
theorem pt_more {u : World} {B c : Nat} {A : Option Addr} {qs : List Nat} (h : OwnPt u B A c qs) (n : Nat) (hn : n = qs.length) (hl : n ≤ 1000000) (q b : Nat) (hBu : B ≤ u.heap.size) (hq0 : u.cell? ⟨b, 0, none⟩ = some (.pointer (some ⟨q, 0, none⟩))) :
    ∃ A2 c2 u', (Builtin.append_ #[27, 27] 27 #[.slice A n c, .slice (some ⟨b, 0, none⟩) 1 1]).run Tryz.prog u = .ok (.slice A2 (n + 1) c2) u' ∧
      OwnPt u' B A2 c2 (qs ++ [q]) ∧ u.grownBy u' (blk A) := by
  subst hn
  obtain ⟨i0, hi, hz0, hz1, hz2⟩ := info_parts Tryz.infoPt
  obtain ⟨v', w', hrun, hown, hgr, _, _⟩ := run_append_own_at (P := Tryz.prog) u B 27 27 109 i0 _ 1 8 Tryz.underlying27 hi hz0 hz1 hz2 rfl (by omega) (.slice A qs.length c) qs.length (ptV qs) h ⟨b, 0, none⟩ 1 1 [.pointer (some ⟨q, 0, none⟩)] rfl
    (fun j u hu => by
      match j, hu with
      | 0, hu => cases hu; exact hq0)
    (fun u hu => by simp at hu; subst hu; rfl) (by simp only [maxLen]; omega) (by omega) hBu
  obtain ⟨g2, c2, rfl⟩ := Joins.ownsRow_form hown (by omega)
  rw [ownBlock_slice] at hgr
  refine ⟨some ⟨g2, 0, none⟩, c2, w', hrun, ?_, hgr⟩
  unfold OwnPt ptV
  rw [List.length_append, List.map_append]
  exact hown
/-- A work is put behind the others. -/
theorem RAt.add {w : World} {B x : Nat} {P : List (Int × Nat)} {ws : List WI} {L : List LRow} (h : RAt w B x P ws L) (hB : B ≤ w.heap.size) (n : Int) (hl : ws.length < 100) :
    ∃ AW nW cW A3 c3 w3, (Blk w x 32 #[(w.cell? ⟨x, 0, none⟩).getD undef, .slice AW nW cW, (w.cell? ⟨x, 2, none⟩).getD undef]) ∧ nW ≤ 100 ∧
      (Builtin.append_ #[27, 27] 27 #[.slice AW nW cW, .slice (some ⟨w.heap.size + 1, 0, none⟩) 1 1]).run Tryz.prog ((w.alloc (.cells #[.int .i64 n, .slice none 0 0, .bool false] 147)).alloc (.cells #[.pointer (some ⟨w.heap.size, 0, none⟩)] 109)) = .ok (.slice A3 (nW + 1) c3) w3 ∧
      Blk w3 x 32 #[(w.cell? ⟨x, 0, none⟩).getD undef, .slice AW nW cW, (w.cell? ⟨x, 2, none⟩).getD undef] ∧
      RAt (w3.setCell ⟨x, 1, none⟩ (.slice A3 (nW + 1) c3)) B x P (ws ++ [⟨w.heap.size, n, none, 0, [], false⟩]) L ∧ RG B w (w3.setCell ⟨x, 1, none⟩ (.slice A3 (nW + 1) c3)) x (fun _ => False) := by
  obtain ⟨AP, nP, cP, AW, nW, cW, AL, nL, cL, hk, hnP, hnW, hnL, hpr, hpt, hll⟩ := h.ex
  obtain ⟨w1, hw1⟩ : ∃ w1, w1 = w.alloc (.cells #[.int .i64 n, .slice none 0 0, .bool false] 147) := ⟨_, rfl⟩
  have b1 : Below w.heap.size w w1 := by rw [hw1]; exact ba _ _
  have kn : Blk w1 w.heap.size 147 #[.int .i64 n, .slice none 0 0, .bool false] := by rw [hw1]; exact Blk.new _ _ _
  rw [← hw1]
  obtain ⟨w2, hw2⟩ : ∃ w2, w2 = w1.alloc (.cells #[.pointer (some ⟨w.heap.size, 0, none⟩)] 109) := ⟨_, rfl⟩
  have b2 : Below w1.heap.size w1 w2 := by rw [hw2]; exact ba _ _
  have kp : Blk w2 w1.heap.size 109 #[.pointer (some ⟨w.heap.size, 0, none⟩)] := by rw [hw2]; exact Blk.new _ _ _
  rw [← hw2]
  have b12 := bt b1 b2
  have h2 := h.below b12
  obtain ⟨hwk, hds, hsm⟩ := And.intro h2.wk (And.intro h2.ds h2.sm)
  have hk2 := hk.below b12 hk.lt
  have hg12 := lbelow_grown b12 (some x)
  have hpt2 : OwnPt w2 B AW cW (ws.map WI.q) := own_kept hpt hk (by decide) hg12
  have hpr2 : OwnPr w2 B AP cP P := own_kept hpr hk (by decide) hg12
  have kn2 := kn.below b2 kn.lt
  have hs1 := b1.size
  have hs2 := b2.size
  have hkn := kn.lt
  obtain ⟨A3, c3, w3, hrun, own3, hg3⟩ := pt_more hpt2 nW (by rw [List.length_map]; exact hnW) (by omega) w.heap.size w1.heap.size (by omega) (by have := kp.cell 0; simpa using this)
  have hsz : w1.heap.size = w.heap.size + 1 := by rw [hw1]; first | rfl | exact Array.size_push _ | simp
  rw [hsz] at hrun
  have hxne : blk AW ≠ some x := own_ne hpt2 hk2 (by decide)
  have hk3 : Blk w3 x 32 #[.slice AP nP cP, .slice AW nW cW, .slice AL nL cL] := hk2.kept hg3 (fun e => hxne e.symm)
  have hgs := lgrown_set w3 ⟨x, 1, none⟩ (.slice A3 (nW + 1) c3)
  have e0 : (w.cell? ⟨x, 0, none⟩).getD undef = .slice AP nP cP := by rw [hk.cell 0]; rfl
  have e2 : (w.cell? ⟨x, 2, none⟩).getD undef = .slice AL nL cL := by rw [hk.cell 2]; rfl
  rw [e0, e2]
  have hnb : ∀ {t : TypeId} {g : Nat} {cs : Array Value}, Blk w2 g t cs → 109 ≠ t → some g ≠ blk AW := fun hb ht e => own_ne hpt2 hb ht e.symm
  have hok : ∀ {k n c m : Nat} {t : TypeId} {A : Option Addr} {vs : List Value}, w2.ownsRow B t k (.slice A n c) m vs → t ≠ 109 → w3.ownsRow B t k (.slice A n c) m vs := fun {k n c m t A vs} ho ht => by
    refine World.ownsRow.kept ho hg3 ?_
    rcases hb : (Value.slice A n c).ownBlock with _ | r
    · exact .inl rfl
    · refine .inr (fun e => ?_)
      rw [ownBlock_slice] at hb
      rcases ho.2 with ⟨h1, h2⟩ | ⟨g, cap, cur, h1, hbb, hg, hn, hm, hc, ht'⟩
      · cases h1; cases hb
      · injection h1 with e1 e2 e3
        rw [e1] at hb
        injection hb with hb
        have hb : g = r := hb
        subst hb
        rcases hpt2.2 with ⟨h1, h2⟩ | ⟨g', cap', cur', h1, hbb', hg', _⟩
        · injection h1 with e1 _ _
          rw [e1] at e
          cases e
        · injection h1 with e1 _ _
          rw [e1] at e
          injection e with e
          have e : g = g' := e
          subst e
          rw [hg] at hg'
          injection hg' with hg'
          injection hg' with _ hg' _
          exact ht hg'
  refine ⟨AW, nW, cW, A3, c3, w3, hk, by omega, hrun, hk3, ?_, ?_⟩
  · have hq : w.heap.size ≠ x := by have := hk.lt; omega
    have kn3 : Blk w3 w.heap.size 147 #[.int .i64 n, .slice none 0 0, .bool false] := kn2.kept hg3 (hnb kn2 (by decide))
    have hwk3 : ∀ y ∈ ws ++ [⟨w.heap.size, n, none, 0, [], false⟩], B ≤ y.q ∧ Blk w3 y.q 147 #[.int .i64 y.n, .slice y.A y.l.length y.c, .bool y.p] ∧ OwnC w3 B y.A y.c y.l := fun y hy => by
      rcases List.mem_append.1 hy with hy | hy
      · obtain ⟨g1, g2, g3⟩ := hwk y hy
        exact ⟨g1, g2.kept hg3 (hnb g2 (by decide)), hok g3 (by decide)⟩
      · obtain rfl := List.mem_singleton.1 hy
        exact ⟨hB, kn3, OwnC.nil _ _⟩
    have own3' : OwnPt w3 B A3 c3 ((ws ++ [(⟨w.heap.size, n, none, 0, [], false⟩ : WI)]).map WI.q) := by rw [List.map_append]; exact own3
    have hll3 : LRows w3 B AL cL L := (hll.below b12).kept hg3 fun r e => .inr (by
      rcases hpt2.2 with ⟨h1, h2⟩ | ⟨g', cap', cur', h1, hbb', hg', _⟩
      · injection h1 with e1 _ _
        rw [e1] at e
        cases e
      · injection h1 with e1 _ _
        rw [e1] at e
        injection e with e
        have e : g' = r := e
        subst e
        exact ⟨_, _, by decide, hg'⟩)
    have ks := hk3.set_ 1 (.slice A3 (nW + 1) c3)
    refine ⟨⟨AP, nP, cP, A3, nW + 1, c3, AL, nL, cL, ks, hnP, by rw [List.length_append, hnW]; rfl, hnL, own_kept (hok hpr2 (by decide)) hk3 (by decide) hgs, ?_, ?_⟩, wk_kept hwk3 hk3 hgs, ?_, hsm.1, ?_, hsm.2.2.1, ?_⟩
    · have := own3'
      unfold OwnPt at this ⊢
      exact own_kept this hk3 (by decide) hgs
    · exact hll3.kept hgs fun r e => by cases e; exact .inr ⟨_, _, by decide, hk3⟩
    · rw [List.pairwise_append]
      refine ⟨hds, List.pairwise_singleton _ _, fun a ha b hb => ?_⟩
      obtain rfl := List.mem_singleton.1 hb
      have := (h.wk a ha).2.1.lt
      exact ⟨by show a.q ≠ w.heap.size; omega, fun r _ => by simp [blk]⟩
    · rw [List.length_append]; simp; omega
    · intro y hy
      rcases List.mem_append.1 hy with hy | hy
      · exact hsm.2.2.2 y hy
      · obtain rfl := List.mem_singleton.1 hy
        simp
  · have r12 : RG B w w2 x (fun _ => False) := RG.of hg12
    refine (r12.trans (⟨hg3.os, hg3.tape, hg3.output, hg3.size, fun k hb hk' hx => hg3.block k hk' (fun e => by have := (World.ownsRow.lt hpt2 k (by rw [ownBlock_slice]; exact e.symm)).1; omega), fun k hk' hx => ?_⟩ : RG B w2 w3 x (fun _ => False)) (fun _ _ h => h)).trans (RG.of hgs) (fun _ _ h => h)
    by_cases e : blk AW = some k
    · refine .inr (.inl ?_)
      rcases hpt2.2 with ⟨h1, h2⟩ | ⟨g', cap', cur', h1, hbb', hg', _⟩
      · injection h1 with e1 _ _
        rw [e1] at e
        cases e
      · injection h1 with e1 _ _
        rw [e1] at e
        injection e with e
        have e : g' = k := e
        subst e
        exact ⟨_, _, hg'⟩
    · exact .inl (hg3.block k hk' (fun e' => e e'.symm))
end Go.Proofs.YtlliaihmfimdoaaGreat

namespace Go.Proofs.YtlliaihmfimdoaaGreat
open Go.RowKit Go.Maps Go.Joins Go.Deep
set_option linter.unusedVariables false
set_option linter.unusedSimpArgs false

def touchM (ws : List WI) (L : List LRow) (n y : Int) (al : Bool) (q : Nat) : Int × List WI × List LRow :=
  if n < 1 ∨ keyB y = false then (1, ws, L)
  else match findW ws n with
    | some x => if x.p = true then (7, ws, L) else ((takeL L n y al).1, ws, (takeL L n y al).2)
    | none => ((takeL L n y al).1, if (takeL L n y al).1 = 0 then ws ++ [⟨q, n, none, 0, [], false⟩] else ws, (takeL L n y al).2)
def TouchO (w : World) (B x : Nat) (P : List (Int × Nat)) (ws : List WI) (L : List LRow) (n y : Int) (al : Bool) (e : Ending) (w' : World) : Prop :=
  ∃ q, w.heap.size ≤ q ∧ e = .returned (.int .i64 (touchM ws L n y al q).1) ∧ RAt w' B x P (touchM ws L n y al q).2.1 (touchM ws L n y al q).2.2 ∧ RG B w w' x (fun _ => False)
set_option maxRecDepth 100000 in
set_option maxHeartbeats 4000000 in
theorem touch_any (B x : Nat) (P : List (Int × Nat)) (ws : List WI) (L : List LRow) (n y : Int) (al : Bool) (w : World) (h : RAt w B x P ws L) (hB : B ≤ w.heap.size) (hl : ws.length < 100) (hok : LOk L) (hnc : NoClash L) :
    Calls Tryz.prog 127 #[.pointer (some ⟨x, 0, none⟩), .int .i64 n, .int .i64 y, .bool al] w (TouchO w B x P ws L n y al) := by
  have HF := Lib.hid (find_any B x P ws L n w h)
  by_cases hbad : n < 1 ∨ keyB y = false
  · have hM : ∀ q, touchM ws L n y al q = (1, ws, L) := fun q => if_pos hbad
    have HX : Hid (∃ q, w.heap.size ≤ q ∧ Ending.returned (.int .i64 1) = .returned (.int .i64 (touchM ws L n y al q).1) ∧ RAt w B x P (touchM ws L n y al q).2.1 (touchM ws L n y al q).2.2 ∧ RG B w w x (fun _ => False)) := Lib.hid ⟨w.heap.size, Nat.le_refl _, by rw [hM], by rw [hM]; exact h, RG.of (lbelow_grown (Below.refl _ _) _)⟩
    have hb3 : n < 1 ∨ y < 0 ∨ 15 < y := by
      rcases hbad with h | h
      · exact .inl h
      · refine .inr ?_
        unfold keyB at h
        simp at h
        omega
    clear h hok hnc hM hbad HF
    go_enter Tryz.func127, Tryz.ntmps127
    rcases a1 : decide (n < 1) with _ | _
    · have p1 : ¬ n < 1 := of_decide_eq_false a1
      rcases a2 : decide (y < 0) with _ | _
      · have p2 : ¬ y < 0 := of_decide_eq_false a2
        have p3 : 15 < y := by omega
        have a3 : decide (15 < y) = true := decide_eq_true p3
        go_wp2
        go_ret
        exact HX.out
      · have p2 : y < 0 := of_decide_eq_true a2
        go_wp2
        go_ret
        exact HX.out
    · have p1 : n < 1 := of_decide_eq_true a1
      go_wp2
      go_ret
      exact HX.out
  · have hn1 : ¬ n < 1 := fun e => hbad (.inl e)
    have hk := key_bd (show keyB y = true by cases hk : keyB y with | true => rfl | false => exact absurd (.inr hk) hbad)
    have a1 : decide (n < 1) = false := decide_eq_false hn1
    have a2 : decide (y < 0) = false := decide_eq_false (by omega)
    have a3 : decide (15 < y) = false := decide_eq_false (by omega)
    have p2 : ¬ y < 0 := by omega
    have p3 : ¬ 15 < y := by omega
    obtain ⟨cs, hro, hback⟩ := h.rof
    have hTk := rtake_any B x 2 32 cs (by decide) L n y al w hro h.sm.2.2.1 hB hok hnc
    have h64 := takeL_len h.sm.2.2.1 n y al
    obtain ⟨T, hT⟩ : ∃ T, T = takeL L n y al := ⟨_, rfl⟩
    rw [← hT] at hTk h64
    obtain ⟨er, L'⟩ := T
    have HT := Lib.hid hTk
    have HBk := Lib.hid (And.intro hback (And.intro h64 (And.intro hB hl)))
    rcases hf : findW ws n with _ | z
    · have hM : ∀ q, touchM ws L n y al q = (er, if er = 0 then ws ++ [⟨q, n, none, 0, [], false⟩] else ws, L') := fun q => by unfold touchM; rw [if_neg hbad, hf]; dsimp only; rw [← hT]
      have HM := Lib.hid hM
      rw [hf] at HF
      clear h hok hnc hbad hM hro hback hTk h64 hT hf hB hl hk
      go_enter Tryz.func127, Tryz.ntmps127
      go_wp2_with fail
      refine HF.out.mono ?_
      rintro e w1 ⟨rfl, rfl⟩
      dsimp only [Option.map_none]
      go_wp2_with fail
      refine HT.out.mono ?_
      rintro e w2 ⟨rfl, ⟨v, hv⟩, hg2⟩
      have hR2 := HBk.out.1 w2 v L' hv HBk.out.2.1 hg2
      rcases he : (er == 0) with _ | _
      · have hne : er ≠ 0 := by simpa using he
        have HX : Hid (TouchO w B x P ws L n y al (.returned (.int .i64 er)) w2) := Lib.hid ⟨w.heap.size, Nat.le_refl _, by rw [HM.out], by rw [HM.out, if_neg hne]; exact hR2, RG.of hg2⟩
        clear hv hg2 hR2
        go_wp2
        go_ret
        exact HX.out
      · obtain rfl : er = 0 := by simpa using he
        have hs2 := hg2.size
        obtain ⟨AW, nW, cW, A3, c3, w3, hx2, hnW, hrun, hx3, hR3, hrg⟩ := hR2.add (Nat.le_trans HBk.out.2.2.1 hs2) n HBk.out.2.2.2
        have c1 := hx2.cell 1
        have f1 := hx3.frozen 1
        have d1 := hx3.cell 1
        simp only [List.getElem?_toArray, List.getElem?_cons_zero, List.getElem?_cons_succ] at c1 d1
        have HX : Hid (TouchO w B x P ws L n y al (.returned (.int .i64 0)) (w3.setCell ⟨x, 1, none⟩ (.slice A3 (nW + 1) c3))) := Lib.hid ⟨w2.heap.size, hs2, by rw [HM.out], by rw [HM.out, if_pos rfl]; exact hR3, (RG.of hg2).trans hrg (fun _ _ h => h)⟩
        clear hv hg2 hR2 hx2 hx3 hR3 hrg hs2
        go_wp2_with (at_builtin; refine wpList_append_run rfl (.tmp 49) (.tmp 53) 27 rfl _ _ _ w3 rfl rfl hrun ?_)
        go_ret
        exact HX.out
    · obtain ⟨zq, zn, zA, zc, zl, zp⟩ := z
      have hz := h.wk _ (List.mem_of_find?_eq_some hf)
      have z2 := hz.2.1.cell 2
      simp only [List.getElem?_toArray, List.getElem?_cons_zero, List.getElem?_cons_succ] at z2
      have HH := Lib.hid h
      rw [hf] at HF
      rcases zp with _ | _
      · have hM : ∀ q, touchM ws L n y al q = (er, ws, L') := fun q => by unfold touchM; rw [if_neg hbad, hf]; dsimp only; rw [if_neg (by simp), ← hT]
        have HM := Lib.hid hM
        clear h hok hnc hbad hM hro hback hTk h64 hT hf hB hl hk hz
        go_enter Tryz.func127, Tryz.ntmps127
        go_wp2_with fail
        refine HF.out.mono ?_
        rintro e w1 ⟨rfl, rfl⟩
        dsimp only [Option.map_some]
        go_wp2_with fail
        refine HT.out.mono ?_
        rintro e w2 ⟨rfl, ⟨v, hv⟩, hg2⟩
        have hR2 := HBk.out.1 w2 v L' hv HBk.out.2.1 hg2
        have HX : Hid (TouchO w B x P ws L n y al (.returned (.int .i64 er)) w2) := Lib.hid ⟨w.heap.size, Nat.le_refl _, by rw [HM.out], by rw [HM.out]; exact hR2, RG.of hg2⟩
        clear hv hg2 hR2 z2
        rcases he : (er == 0) with _ | _
        · go_wp2
          go_ret
          exact HX.out
        · go_wp2
          go_ret
          exact HX.out
      · have hM : ∀ q, touchM ws L n y al q = (7, ws, L) := fun q => by unfold touchM; rw [if_neg hbad, hf]; dsimp only; rw [if_pos rfl]
        have HX : Hid (TouchO w B x P ws L n y al (.returned (.int .i64 7)) w) := Lib.hid ⟨w.heap.size, Nat.le_refl _, by rw [hM], by rw [hM]; exact h, RG.of (lbelow_grown (Below.refl _ _) _)⟩
        clear h hok hnc hbad hM hro hback hTk h64 hT hf hB hl hk hz
        go_enter Tryz.func127, Tryz.ntmps127
        go_wp2_with fail
        refine HF.out.mono ?_
        rintro e w1 ⟨rfl, rfl⟩
        dsimp only [Option.map_some]
        go_wp2
        go_ret
        exact HX.out
end Go.Proofs.YtlliaihmfimdoaaGreat

namespace Go.Proofs.YtlliaihmfimdoaaGreat
open Go.RowKit Go.Maps Go.Joins Go.Deep
set_option linter.unusedVariables false
set_option linter.unusedSimpArgs false

theorem own_less {u : World} {B B' k n c m : Nat} {t : TypeId} {A : Option Addr} {vs : List Value} (h : u.ownsRow B' t k (.slice A n c) m vs) (hB : B ≤ B') : u.ownsRow B t k (.slice A n c) m vs := by
  obtain ⟨h1, h2⟩ := h
  refine ⟨h1, ?_⟩
  rcases h2 with h2 | ⟨g', cap', cur, hv, hb, hrest⟩
  · exact .inl h2
  · exact .inr ⟨g', cap', cur, hv, Nat.le_trans hB hb, hrest⟩
/-- Other works. -/
theorem RAt.rws {w : World} {B B' x : Nat} {P : List (Int × Nat)} {ws ws' : List WI} {L : List LRow} (h : RAt w B x P ws L) {A : Option Addr} {c n : Nat} (hn : n = ws'.length) (ho : OwnPt w B' A c (ws'.map WI.q)) (hB : B ≤ B') (hs : ws'.Sublist ws) : RAt (w.setCell ⟨x, 1, none⟩ (.slice A n c)) B x P ws' L := by
  obtain ⟨AP, nP, cP, AW, nW, cW, AL, nL, cL, hk, hnP, hnW, hnL, hpr, hpt, hl⟩ := h.ex
  have hgs := lgrown_set w ⟨x, 1, none⟩ (.slice A n c)
  have ks := hk.set_ 1 (.slice A n c)
  have hwk := wk_kept h.wk hk hgs
  refine ⟨⟨AP, nP, cP, A, n, c, AL, nL, cL, ks, hnP, hn, hnL, own_kept hpr hk (by decide) hgs, own_kept (own_less ho hB) hk (by decide) hgs, hl.kept hgs fun r e => by cases e; exact .inr ⟨_, _, by decide, hk⟩⟩, fun y hy => hwk y (hs.subset hy), h.ds.sublist hs, h.sm.1, Nat.le_trans hs.length_le h.sm.2.1, h.sm.2.2.1, fun y hy => h.sm.2.2.2 y (hs.subset hy)⟩
def othersW (ws : List WI) (n : Int) : List WI := ws.filter fun y => decide (y.n ≠ n)
theorem othersW_snoc {ws : List WI} {n : Int} {j : Nat} (hj : j < ws.length) : othersW (ws.take (j + 1)) n = if (ws[j]'hj).n = n then othersW (ws.take j) n else othersW (ws.take j) n ++ [ws[j]'hj] := by
  unfold othersW
  rw [List.take_add_one, List.getElem?_eq_getElem hj, List.filter_append]
  split
  · rename_i h; simp [h]
  · rename_i h; simp [h]
set_option maxRecDepth 100000 in
set_option maxHeartbeats 4000000 in
theorem rsdrop_any (B x : Nat) (P : List (Int × Nat)) (ws : List WI) (L : List LRow) (n : Int) (w : World) (h : RAt w B x P ws L) (hB : B ≤ w.heap.size) :
    Calls Tryz.prog 132 #[.pointer (some ⟨x, 0, none⟩), .int .i64 n] w fun e w' => e = .returned (.tuple #[]) ∧ RAt w' B x P (othersW ws n) (dropL L n) ∧ w.grownBy w' (some x) := by
  obtain ⟨cs, hro, hback⟩ := h.rof
  have h64 : (dropL L n).length ≤ 64 := Nat.le_trans (dropL_len L n) h.sm.2.2.1
  have hDr := rdrop_any B x 2 32 cs (by decide) L n w hro (by have := h.sm.2.2.1; omega) hB
  have HD := Lib.hid hDr
  have HBk := Lib.hid (And.intro hback (And.intro h64 hB))
  clear h hro hback h64 hDr
  go_enter Tryz.func132, Tryz.ntmps132
  go_wp2_with fail
  refine HD.out.mono ?_
  rintro e w1 ⟨rfl, ⟨v, hv⟩, hg1⟩
  have hR1 := HBk.out.1 w1 v _ hv HBk.out.2.1 hg1
  have H1 := Lib.hid (And.intro hR1 (And.intro hg1 (Nat.le_trans HBk.out.2.2 hg1.size)))
  obtain ⟨AP, nP, cP, AW, nW, cW, AL, nL, cL, hk, _, hnW, _, _, hpt, _⟩ := hR1.ex
  have HK := Lib.hid (And.intro hk hpt)
  have HN := Lib.hid hnW
  have hn1 : nW ≤ 100 := by rw [hnW]; exact hR1.sm.2.1
  clear hv hg1 hR1 hk hnW hpt HD HBk
  go_wp2_with fail
  go_loopw [4, 5] (fun v i wr => ∃ (j n2 c2 : Nat) (A2 : Option Addr), v = .slice A2 n2 c2 ∧ j ≤ nW ∧ n2 ≤ j ∧ i = .int .i64 j ∧ Hid (n2 = (othersW (ws.take j) n).length ∧ OwnPt wr w1.heap.size A2 c2 ((othersW (ws.take j) n).map WI.q) ∧ Below w1.heap.size w1 wr)) (fun _ i _ => nW - (intOf i).toNat)
  case atStart => exact ⟨0, 0, 0, none, rfl, Nat.zero_le _, Nat.le_refl _, rfl, Lib.hid ⟨rfl, World.ownsRow_nil _ _ _ _, Below.refl _ _⟩⟩
  case round =>
    obtain ⟨j, n2, c2, A2, rfl, hj, hn2j, rfl, HR⟩ := hrel
    by_cases hjn : j < nW
    · have hjI : (j : Int) < (nW : Int) := by omega
      have hjL : j < ws.length := by rw [← HN.out]; exact hjn
      obtain ⟨hn2, hown, hb⟩ := HR.out
      have hkr := HK.out.1.below hb HK.out.1.lt
      have c1 := hkr.cell 1
      simp only [List.getElem?_toArray, List.getElem?_cons_zero, List.getElem?_cons_succ] at c1
      have hpt := HK.out.2
      unfold OwnPt at hpt
      rw [List.length_map] at hpt
      obtain ⟨b, rfl, _, hbl, _, hc⟩ := row_cells hpt (by omega)
      have q0 := (hb.cell (p := ⟨b, j, none⟩) hbl).trans (hc j (.pointer (some ⟨(ws[j]'hjL).q, 0, none⟩)) (by unfold ptV; simp [hjL]))
      have hwj := (H1.out.1.wk _ (List.getElem_mem hjL)).2.1
      have q1 := (hwj.below hb hwj.lt).cell 0
      simp only [List.getElem?_toArray, List.getElem?_cons_zero, List.getElem?_cons_succ] at q1
      have hsn := othersW_snoc (n := n) hjL
      generalize ws[j]'hjL = y at q0 q1 hsn
      obtain ⟨yq, yn, yA, yc, yl, yp⟩ := y
      dsimp only at q0 q1 hsn
      by_cases h1 : yn = n
      · rw [if_pos h1] at hsn
        have HX : Hid (n2 = (othersW (ws.take (j + 1)) n).length ∧ OwnPt wr w1.heap.size A2 c2 ((othersW (ws.take (j + 1)) n).map WI.q) ∧ Below w1.heap.size w1 wr) := Lib.hid (by rw [hsn]; exact HR.out)
        subst h1
        clear hpt hc hwj hkr hown hb hbl hsn HR hjL hn2
        go_wp2
        go_roundw
        case rel => exact ⟨j + 1, n2, c2, A2, rfl, by omega, by omega, by go_num, HX⟩
        case measure => simp [intOf]; omega
      · rw [if_neg h1] at hsn
        have e1 : (yn != n) = true := by simp [h1]
        have hb3 := ba wr (.cells #[.pointer (some ⟨yq, 0, none⟩)] 109)
        have own3 : OwnPt (wr.alloc (.cells #[.pointer (some ⟨yq, 0, none⟩)] 109)) w1.heap.size A2 c2 ((othersW (ws.take j) n).map WI.q) := World.ownsRow.kept hown (lbelow_grown hb3 none) (by rcases (Value.slice A2 ((othersW (ws.take j) n).map WI.q).length c2).ownBlock with _ | k; exact .inl rfl; exact .inr (fun e => by cases e))
        obtain ⟨A5, c5, w5, hrun, hE5, hg5⟩ := pt_more own3 n2 (by rw [List.length_map]; exact hn2) (by omega) yq wr.heap.size (by have := hb.size; have := hb3.size; omega) ((Blk.new wr 109 #[.pointer (some ⟨yq, 0, none⟩)]).cell 0)
        have hB5 := (bt hb hb3).grown hg5 (by have := hb.size; have := hb3.size; omega) (fun r e => (World.ownsRow.lt own3 r (by rw [ownBlock_slice]; exact e)).1)
        have HX : Hid (n2 + 1 = (othersW (ws.take (j + 1)) n).length ∧ OwnPt w5 w1.heap.size A5 c5 ((othersW (ws.take (j + 1)) n).map WI.q) ∧ Below w1.heap.size w1 w5) := Lib.hid (by rw [hsn, List.length_append, List.map_append, ← hn2]; exact ⟨rfl, hE5, hB5⟩)
        clear hpt hc hwj hkr hown hb hbl hsn HR hjL hn2 hb3 own3 hE5 hg5 hB5
        go_wp2_with (at_builtin; refine wpList_append_run rfl (.tmp 32) (.tmp 40) 27 rfl _ _ _ w5 rfl rfl hrun ?_)
        go_roundw
        case rel => exact ⟨j + 1, n2 + 1, c5, A5, rfl, by omega, by omega, by go_num, HX⟩
        case measure => simp [intOf]; omega
    · have hjI : ¬ (j : Int) < (nW : Int) := by omega
      have hjj : ws.take j = ws := List.take_of_length_le (by have := HN.out; omega)
      obtain ⟨hn2, hown, hb⟩ := HR.out
      rw [hjj] at hn2 hown
      have hkr := HK.out.1.below hb HK.out.1.lt
      have c1 := hkr.cell 1
      have f1 := hkr.frozen 1
      simp only [List.getElem?_toArray, List.getElem?_cons_zero, List.getElem?_cons_succ] at c1
      have HX : Hid (RAt (wr.setCell ⟨x, 1, none⟩ (.slice A2 n2 c2)) B x P (othersW ws n) (dropL L n) ∧ w.grownBy (wr.setCell ⟨x, 1, none⟩ (.slice A2 n2 c2)) (some x)) := Lib.hid ⟨(H1.out.1.below hb).rws hn2 hown H1.out.2.2 List.filter_sublist, (H1.out.2.1.trans (lbelow_grown hb (some x))).trans (lgrown_set wr ⟨x, 1, none⟩ (.slice A2 n2 c2))⟩
      clear hn2 hown hb hkr HR hjj
      go_wp2
      go_end0
      exact ⟨rfl, HX.out⟩
def backR (ws : List WI) (L : List LRow) (n : Int) : Int × List WI × List LRow := if n < 1 then (1, ws, L) else (0, othersW ws n, dropL L n)
set_option maxRecDepth 100000 in
set_option maxHeartbeats 1000000 in
theorem rback_any (B x : Nat) (P : List (Int × Nat)) (ws : List WI) (L : List LRow) (n : Int) (w : World) (h : RAt w B x P ws L) (hB : B ≤ w.heap.size) :
    Calls Tryz.prog 90 #[.pointer (some ⟨x, 0, none⟩), .int .i64 n] w fun e w' => e = .returned (.int .i64 (backR ws L n).1) ∧ RAt w' B x P (backR ws L n).2.1 (backR ws L n).2.2 ∧ w.grownBy w' (some x) := by
  have HD := Lib.hid (rsdrop_any B x P ws L n w h hB)
  have H := Lib.hid h
  unfold backR
  rcases a1 : decide (n < 1) with _ | _
  · have p1 : ¬ n < 1 := of_decide_eq_false a1
    rw [if_neg p1]
    clear h
    go_enter Tryz.func90, Tryz.ntmps90
    go_wp2_with fail
    refine HD.out.mono ?_
    rintro e w1 ⟨rfl, hr⟩
    have HX := Lib.hid hr
    clear hr
    go_wp2
    go_ret
    exact ⟨rfl, HX.out⟩
  · have p1 : n < 1 := of_decide_eq_true a1
    rw [if_pos p1]
    clear h
    go_enter Tryz.func90, Tryz.ntmps90
    go_wp2
    go_ret
    exact ⟨rfl, H.out, lbelow_grown (Below.refl _ _) _⟩
end Go.Proofs.YtlliaihmfimdoaaGreat
