/- Parts Q22 R1 R2 R3 R4 R5 R6 R9 R10 R11 F1 F2 of one proof. -/
import Derived.Test.YtlliaihmfimdoaaGreatMg25
import Derived.BigQuiet
import Derived.StillTailTactics
namespace Go.Proofs.YtlliaihmfimdoaaGreat.Qu
open Go.RowKit Go.Maps Go.Deep
set_option linter.unusedVariables false
set_option linter.unusedSimpArgs false
theorem QOk.zero (B : Nat → Prop) : QOk (QS.zero B) := ⟨Nat.zero_le _, Int.le_refl _, by show (0 : Int) + 1 + ((0 : Nat) : Int) ≤ 4611686018427387904; decide⟩
set_option maxRecDepth 100000 in
set_option maxHeartbeats 2000000 in
theorem same_any (A A' : Option Addr) (zs zs' : List Nat) (n n' c c' : Nat) (w : World) (hn : Hid (n = zs.length)) (hn' : Hid (n' = zs'.length)) (hm : n ≤ 9223372036854775807) (h : UAt w A zs) (h' : UAt w A' zs') :
  Calls Tryz.prog 47 #[.slice A n c, .slice A' n' c'] w fun e w' => e = .returned (.bool (decide (zs = zs'))) ∧ Below w.heap.size w w' := by
 by_cases hnn : n = n'
 ·subst hnn
  have HI : Hid (Below w.heap.size w w ∧ ∀ k, k < 0 → zs[k]? = zs'[k]?) := Lib.hid ⟨Below.refl _ _, fun k hk => by omega⟩
  have H := Lib.hid (And.intro h h')
  clear h h'
  have hnn : ((n : Int) != (n : Int)) = false := by simp
  obtain ⟨r, hr⟩ : ∃ r, r = decide (zs = zs') := ⟨_, rfl⟩
  rw [← hr]
  have HR := Lib.hid hr
  clear hr
  go_enter Tryz.func47, Tryz.ntmps47
  go_wp2_with fail
  go_loopw [5] (fun i wr => ∃ (i0 : Nat), i0 ≤ n ∧ i = .int .i64 i0 ∧ Hid (Below w.heap.size w wr ∧ ∀ k, k < i0 → zs[k]? = zs'[k]?)) (fun i _ => n - (intOf i).toNat)
  case atStart => exact ⟨0, Nat.zero_le _, rfl, HI⟩
  case round =>
   clear HI
   obtain ⟨j, hj, rfl, HW⟩ := hrel
   by_cases hjn : j < n
   ·have hjI : (j : Int) < (n : Int) := by omega
    have hjl : j < zs.length := by rw [← hn.out]; exact hjn
    have hjl' : j < zs'.length := by rw [← hn'.out]; exact hjn
    obtain ⟨b, o, rfl, hbk, hcs⟩ := H.out.1.below HW.out.1 (by omega)
    obtain ⟨b', o', rfl, hbk', hcs'⟩ := H.out.2.below HW.out.1 (by omega)
    have q0 := hcs j hjl
    have p0 := hcs' j hjl'
    obtain ⟨x, hx⟩ : ∃ x, x = zs[j]'hjl := ⟨_, rfl⟩
    obtain ⟨y, hy⟩ : ∃ y, y = zs'[j]'hjl' := ⟨_, rfl⟩
    rw [← hx] at q0
    rw [← hy] at p0
    have e0 := fun m : Nat => cell_drew' q0 m
    have d0 := fun m : Nat => cell_drew' p0 m
    have hdr : ∀ m : Nat, Below wr.heap.size wr (wr.drewN m) := fun m => ⟨rfl, rfl, rfl, Nat.le_refl _, fun _ _ => rfl⟩
    by_cases hxy : x = y
    ·subst hxy
     have hne : ((x : Int) != (x : Int)) = false := by simp
     have HX : Hid (∀ m : Nat, Below w.heap.size w (wr.drewN m) ∧ ∀ k, k < j + 1 → zs[k]? = zs'[k]?) := Lib.hid fun m => ⟨bt HW.out.1 (hdr m), fun k hk => by
      by_cases e : k = j
      ·subst e; rw [List.getElem?_eq_getElem hjl, List.getElem?_eq_getElem hjl', ← hx, ← hy]
      ·exact HW.out.2 k (by omega)⟩
     clear hbk hbk' hcs hcs' hjl hjl' q0 p0 HW hdr hx hy
     go_wp2_with fail
     go_quiet (fail)
     have HX2 := Lib.hid (HX.out nq)
     clear e0 d0 HX
     go_wp2
     go_roundw
     case rel => exact ⟨j + 1, by omega, by go_num, HX2⟩
     case measure => simp [intOf]; omega
    ·have hne : ((x : Int) != (y : Int)) = true := by simp; omega
     have HX : Hid (r = false ∧ ∀ m : Nat, Below w.heap.size w (wr.drewN m)) := Lib.hid ⟨by
      rw [HR.out]
      refine decide_eq_false fun e => hxy ?_
      subst e
      rw [hx, hy], fun m => bt HW.out.1 (hdr m)⟩
     clear hbk hbk' hcs hcs' hjl hjl' q0 p0 HW hdr hx hy hxy
     go_wp2_with fail
     go_quiet (fail)
     have HX2 := Lib.hid (HX.out.2 nq)
     clear e0 d0
     go_wp2
     go_ret
     exact ⟨by rw [HX.out.1]; rfl, HX2.out⟩
   ·have hjI : ¬ (j : Int) < (n : Int) := by omega
    have hF := Lib.hid (show r = true ∧ Below w.heap.size w wr from ⟨by
     rw [HR.out]
     refine decide_eq_true (List.ext_getElem? fun k => ?_)
     by_cases e : k < j
     ·exact HW.out.2 k e
     ·rw [List.getElem?_eq_none (by rw [← hn.out]; omega), List.getElem?_eq_none (by rw [← hn'.out]; omega)], HW.out.1⟩)
    clear HW
    go_wp2
    go_ret
    exact ⟨by rw [hF.out.1]; rfl, hF.out.2⟩
 ·have hb : ((n : Int) != (n' : Int)) = true := by simp; omega
  have hF : Hid (decide (zs = zs') = false) := Lib.hid (decide_eq_false fun e => hnn (by rw [hn.out, hn'.out, e]))
  clear h h' hnn
  go_enter Tryz.func47, Tryz.ntmps47
  go_wp2
  go_ret
  exact ⟨by rw [hF.out]; rfl, Below.refl _ _⟩
theorem putsL_step (l : List Ch) (i : Nat) (h : i < l.length) : putsL (l.take (i + 1)) = putsL (l.take i) + (if (l[i]'h).k = 3 then 1 else 0) := by
 have e2 : l.take (i + 1) = l.take i ++ [l[i]'h] := by rw [List.take_add_one, List.getElem?_eq_getElem h]; rfl
 rw [e2, putsL_snoc]
set_option maxRecDepth 100000 in
set_option maxHeartbeats 2000000 in
theorem refputs_any (A : Option Addr) (l : List Ch) (n c : Nat) (w : World) (hn : Hid (n = l.length)) (hm : n ≤ 1000000) (h : InL w A l) :
  Calls Tryz.prog 152 #[.slice A n c] w fun e w' => e = .returned (.int .i64 (putsL l : Nat)) ∧ Below w.heap.size w w' := by
 obtain ⟨pz, hpz⟩ : ∃ pz, pz = putsL l := ⟨_, rfl⟩
 rw [← hpz]
 have HP := Lib.hid hpz
 clear hpz
 go_enter Tryz.func152, Tryz.ntmps152
 go_wp2_with fail
 go_loopw [3, 4] (fun v i wr => ∃ (i0 k : Nat), i0 ≤ n ∧ k ≤ i0 ∧ v = .int .i64 k ∧ i = .int .i64 i0 ∧ Hid (k = putsL (l.take i0) ∧ Below w.heap.size w wr)) (fun _ i _ => n - (intOf i).toNat)
 case atStart => exact ⟨0, 0, Nat.zero_le _, Nat.le_refl _, rfl, rfl, Lib.hid ⟨rfl, Below.refl _ _⟩⟩
 case round =>
  obtain ⟨j, k, hj, hkj, rfl, rfl, HW⟩ := hrel
  by_cases hjn : j < n
  ·have hjI : (j : Int) < (n : Int) := by omega
   have hjl : j < l.length := by rw [← hn.out]; exact hjn
   obtain ⟨b, o, rfl, hbk, hcs⟩ := h.below HW.out.2 (by omega)
   have q0 := (hcs j hjl).1
   have hst := putsL_step l j hjl
   generalize l[j]'hjl = x at q0 hst
   obtain ⟨xk, xy, xv⟩ := x
   dsimp only at q0 hst
   by_cases h3 : xk = 3
   ·subst h3
    rw [if_pos rfl] at hst
    have HN : Hid (k + 1 = putsL (l.take (j + 1)) ∧ Below w.heap.size w wr) := Lib.hid ⟨by rw [hst, HW.out.1], HW.out.2⟩
    clear hst HW hcs hbk hjl h
    go_wp2
    go_roundw
    case rel => exact ⟨j + 1, k + 1, by omega, by omega, by go_num, by go_num, HN⟩
    case measure => simp [intOf]; omega
   ·rw [if_neg h3] at hst
    have HN : Hid (k = putsL (l.take (j + 1)) ∧ Below w.heap.size w wr) := Lib.hid ⟨by rw [hst, HW.out.1]; rfl, HW.out.2⟩
    have h3b : (xk == 3) = false := by simpa using h3
    clear hst HW hcs hbk hjl h h3
    go_wp2
    go_roundw
    case rel => exact ⟨j + 1, k, by omega, by omega, rfl, by go_num, HN⟩
    case measure => simp [intOf]; omega
  ·have hjI : ¬ (j : Int) < (n : Int) := by omega
   have hF : Hid (k = pz ∧ Below w.heap.size w wr) := Lib.hid ⟨by rw [HW.out.1, HP.out, List.take_of_length_le (by rw [← hn.out]; omega)], HW.out.2⟩
   clear HW h
   go_wp2
   go_ret
   exact ⟨by rw [hF.out.1]; rfl, hF.out.2⟩
end Go.Proofs.YtlliaihmfimdoaaGreat.Qu


namespace Go.Proofs.YtlliaihmfimdoaaGreat.Qu
open Go.RowKit Go.Maps Go.Joins Go.Deep
set_option linter.unusedVariables false
set_option linter.unusedSimpArgs false
structure WI where
 q : Nat
 n : Int
 A : Option Addr
 c : Nat
 l : List Ch
 p : Bool
def ptV (qs : List Nat) : List Value := qs.map fun q => .pointer (some ⟨q, 0, none⟩)
def OwnPt (u : World) (B : Nat) (A : Option Addr) (c : Nat) (qs : List Nat) : Prop := u.ownsRow B 111 1 (.slice A qs.length c) qs.length (ptV qs)
def prV (P : List (Int × Nat)) : List Value := P.flatMap fun x => [.int .i64 x.1, .int .u64 (x.2 : Nat)]
def OwnPr (u : World) (B : Nat) (A : Option Addr) (c : Nat) (P : List (Int × Nat)) : Prop := u.ownsRow B 154 2 (.slice A P.length c) P.length (prV P)
theorem prV_at : ∀ (P : List (Int × Nat)) (i : Nat) (h : i < P.length), (prV P)[i * 2]? = some (.int .i64 (P[i]'h).1) ∧ (prV P)[i * 2 + 1]? = some (.int .u64 ((P[i]'h).2 : Nat))
 | x :: P, 0, _ => by unfold prV; simp
 | x :: P, i + 1, h => by
  have := prV_at P i (by simpa using h)
  have e : prV (x :: P) = [.int .i64 x.1, .int .u64 (x.2 : Nat)] ++ prV P := by unfold prV; rw [List.flatMap_cons]
  rw [e]
  have hs : ∀ j, ([.int .i64 x.1, .int .u64 (x.2 : Nat)] ++ prV P)[(i + 1) * 2 + j]? = (prV P)[i * 2 + j]? := by
   intro j
   rw [List.getElem?_append_right (by simp; omega)]
   congr 1
   simp
   omega
  exact ⟨(hs 0).trans this.1, (hs 1).trans this.2⟩
theorem row_cells {u : World} {B k n c : Nat} {t : TypeId} {A : Option Addr} {vs : List Value} (h : u.ownsRow B t k (.slice A n c) n vs) (hp : 0 < n) : ∃ b, A = some ⟨b, 0, none⟩ ∧ B ≤ b ∧ b < u.heap.size ∧ (∃ cs fz, u.heap[b]? = some (.cells cs t fz)) ∧ ∀ j v, vs[j]? = some v → u.cell? ⟨b, j, none⟩ = some v := by
 rcases h.2 with ⟨h1, h2⟩ | ⟨g, cap, cur, h1, hb, hg, hn, hm, hc, ht⟩
 ·omega
 ·injection h1 with e1 e2 e3
  refine ⟨g, e1, hb, (Array.getElem?_eq_some_iff.1 hg).1, ⟨cur, _, hg⟩, fun j v hv => ?_⟩
  have hcell : u.cell? ⟨g, j, none⟩ = cur[j]? := cell_of_row u g j cur _ (0, 0) hg
  rw [hcell]
  rw [← ht, List.getElem?_take] at hv
  split at hv
  ·simpa using hv
  ·cases hv
def findW (ws : List WI) (n : Int) : Option WI := ws.find? fun y => decide (y.n = n)
theorem findW_at {ws : List WI} {n : Int} {j : Nat} (hj : j < ws.length) (hno : ∀ i, (h : i < ws.length) → i < j → (ws[i]'h).n ≠ n) (h : (ws[j]'hj).n = n) : findW ws n = some (ws[j]'hj) := by
 unfold findW
 rw [List.find?_eq_some_iff_getElem]
 exact ⟨by simpa using h, j, hj, rfl, fun i hi => by simpa using hno i (by omega) hi⟩
theorem findW_none {ws : List WI} {n : Int} (hno : ∀ i, (h : i < ws.length) → (ws[i]'h).n ≠ n) : findW ws n = none := by
 unfold findW
 rw [List.find?_eq_none]
 intro y hy
 obtain ⟨i, hi, rfl⟩ := List.mem_iff_getElem.1 hy
 simpa using hno i hi
def mayR (ws : List WI) (n : Int) : Int := if n < 1 then 1 else match findW ws n with
 | some y => if y.p = true then 7 else 0
 | none => 0
theorem findW_mem {ws : List WI} {n : Int} {y : WI} (h : findW ws n = some y) : y ∈ ws ∧ y.n = n := by
 unfold findW at h
 exact ⟨List.mem_of_find?_eq_some h, by simpa using List.find?_some h⟩
end Go.Proofs.YtlliaihmfimdoaaGreat.Qu


namespace Go.Proofs.YtlliaihmfimdoaaGreat.Qu
open Go.RowKit Go.Maps Go.Joins Go.Deep
set_option linter.unusedVariables false
set_option linter.unusedSimpArgs false
theorem own_below' {u u' : World} {B k n c : Nat} {t : TypeId} {A : Option Addr} {vs : List Value} (h : u.ownsRow B t k (.slice A n c) n vs) (hb : Below u.heap.size u u') : u'.ownsRow B t k (.slice A n c) n vs := by
 refine World.ownsRow.kept h (lbelow_grown hb none) ?_
 rcases hv : (Value.slice A n c).ownBlock with _ | r
 ·exact .inl rfl
 ·exact .inr (fun e => by cases e)
def putsR (ws : List WI) : Nat := (ws.map fun y => putsL y.l).sum
def roomR (P : List (Int × Nat)) (ws : List WI) (gv : Int) : Int := min (16 - (P.length : Int) - (putsR ws : Int)) (4611686018427387904 - (gv + 1) - (putsR ws : Int))
theorem putsR_step (ws : List WI) (i : Nat) (h : i < ws.length) : putsR (ws.take (i + 1)) = putsR (ws.take i) + putsL (ws[i]'h).l := by
 have e2 : ws.take (i + 1) = ws.take i ++ [ws[i]'h] := by rw [List.take_add_one, List.getElem?_eq_getElem h]; rfl
 rw [e2]; unfold putsR; rw [List.map_append, List.sum_append]; rfl
end Go.Proofs.YtlliaihmfimdoaaGreat.Qu


namespace Go.Proofs.YtlliaihmfimdoaaGreat.Qu
open Go.RowKit Go.Maps Go.Joins Go.Deep
set_option linter.unusedVariables false
set_option linter.unusedSimpArgs false
def hasT (l : List Ch) (k : Int) : Bool := l.any fun c => decide (c.k = 4) && decide (c.y = k)
def takR (ws : List WI) (k : Int) : Int := match ws.find? (fun y => hasT y.l k) with
 | some y => y.n
 | none => 0
theorem hasT_at {l : List Ch} {k : Int} {j : Nat} (hj : j < l.length) (h4 : (l[j]'hj).k = 4) (hk : (l[j]'hj).y = k) : hasT l k = true := by
 unfold hasT
 rw [List.any_eq_true]
 exact ⟨_, List.getElem_mem hj, by simp [h4, hk]⟩
theorem hasT_no {l : List Ch} {k : Int} (h : ∀ j (hj : j < l.length), ¬ ((l[j]'hj).k = 4 ∧ (l[j]'hj).y = k)) : hasT l k = false := by
 unfold hasT
 rw [List.any_eq_false]
 intro x hx
 obtain ⟨j, hj, rfl⟩ := List.mem_iff_getElem.1 hx
 have := h j hj
 simpa using this
theorem takR_at {ws : List WI} {k : Int} {i : Nat} (hi : i < ws.length) (hno : ∀ j (hj : j < ws.length), j < i → hasT (ws[j]'hj).l k = false) (h : hasT (ws[i]'hi).l k = true) : takR ws k = (ws[i]'hi).n := by
 unfold takR
 have : ws.find? (fun y => hasT y.l k) = some (ws[i]'hi) := by
  rw [List.find?_eq_some_iff_getElem]
  exact ⟨h, i, hi, rfl, fun j hj => by rw [hno j (by omega) hj]; rfl⟩
 rw [this]
theorem takR_no {ws : List WI} {k : Int} (hno : ∀ j (hj : j < ws.length), hasT (ws[j]'hj).l k = false) : takR ws k = 0 := by
 unfold takR
 have : ws.find? (fun y => hasT y.l k) = none := by
  rw [List.find?_eq_none]
  intro y hy
  obtain ⟨j, hj, rfl⟩ := List.mem_iff_getElem.1 hy
  rw [hno j hj]; simp
 rw [this]
end Go.Proofs.YtlliaihmfimdoaaGreat.Qu


namespace Go.Proofs.YtlliaihmfimdoaaGreat.Qu
open Go.RowKit Go.Maps Go.Joins Go.Deep
set_option linter.unusedVariables false
set_option linter.unusedSimpArgs false
theorem Tryz.infoPt : (Tryz.prog.info? 111).map (fun i => (i.zero, i.size, i.bytes)) = some (some (.pointer none), 1, 8) := by kernel_rfl
theorem own_ne {u : World} {B k n c m x : Nat} {t tt : TypeId} {A : Option Addr} {vs : List Value} {cs : Array Value} (h : u.ownsRow B t k (.slice A n c) m vs) (hx : Blk u x tt cs) (ht : t ≠ tt) : blk A ≠ some x := by
 rcases h.2 with ⟨h1, h2⟩ | ⟨g, cap, cur, h1, hb, hg, hn, hm, hc, ht'⟩
 ·cases h1
  simp [blk]
 ·injection h1 with e1 e2 e3
  intro e
  rw [e1] at e
  injection e with e
  have e : g = x := e
  subst e
  unfold Blk at hx
  rw [hx] at hg
  injection hg with hg
  injection hg with _ hg _
  exact ht hg.symm
theorem own_kept {u u' : World} {B k n c m x : Nat} {t tt : TypeId} {A : Option Addr} {vs : List Value} {cs : Array Value} (h : u.ownsRow B t k (.slice A n c) m vs) (hx : Blk u x tt cs) (ht : t ≠ tt) (hg : u.grownBy u' (some x)) : u'.ownsRow B t k (.slice A n c) m vs := by
 refine World.ownsRow.kept h hg ?_
 rcases hb : (Value.slice A n c).ownBlock with _ | k
 ·exact .inl rfl
 ·refine .inr (fun e => ?_)
  rw [ownBlock_slice] at hb
  exact own_ne h hx ht (hb.trans e)
structure RG (B0 : Nat) (u u' : World) (x : Nat) (S : Nat → Prop) : Prop where
 os : u'.os = u.os
 tape : u'.tape = u.tape
 output : u'.output = u.output
 size : u.heap.size ≤ u'.heap.size
 low : ∀ k, k < B0 → k < u.heap.size → k ≠ x → u'.heap[k]? = u.heap[k]?
 block : ∀ k, k < u.heap.size → k ≠ x → u'.heap[k]? = u.heap[k]? ∨ (∃ cs fz, u.heap[k]? = some (.cells cs 111 fz)) ∨ (∃ cs fz, u.heap[k]? = some (.cells cs 149 fz)) ∨ ((∃ cs fz, u.heap[k]? = some (.cells cs 74 fz)) ∧ S k)
theorem RG.of {B0 : Nat} {u u' : World} {x : Nat} {S : Nat → Prop} (h : u.grownBy u' (some x)) : RG B0 u u' x S :=
 ⟨h.os, h.tape, h.output, h.size, fun k _ hk hx => h.block k hk (fun e => hx (by injection e)), fun k hk hx => .inl (h.block k hk (fun e => hx (by injection e)))⟩
theorem RG.trans {B0 : Nat} {a b c : World} {x : Nat} {S S' : Nat → Prop} (h : RG B0 a b x S) (k : RG B0 b c x S') (hS : ∀ r, r < a.heap.size → S' r → S r) : RG B0 a c x S := by
 refine ⟨k.os.trans h.os, k.tape.trans h.tape, k.output.trans h.output, Nat.le_trans h.size k.size, fun r hb hr hx => (k.low r hb (Nat.lt_of_lt_of_le hr h.size) hx).trans (h.low r hb hr hx), fun r hr hx => ?_⟩
 rcases h.block r hr hx with e | e | e | e
 ·have := k.block r (Nat.lt_of_lt_of_le hr h.size) hx
  rw [e] at this
  rcases this with e | e | e | ⟨e, e2⟩
  ·exact .inl e
  ·exact .inr (.inl e)
  ·exact .inr (.inr (.inl e))
  ·exact .inr (.inr (.inr ⟨e, hS r hr e2⟩))
 ·exact .inr (.inl e)
 ·exact .inr (.inr (.inl e))
 ·exact .inr (.inr (.inr e))
theorem pt_more {u : World} {B c : Nat} {A : Option Addr} {qs : List Nat} (h : OwnPt u B A c qs) (n : Nat) (hn : n = qs.length) (hl : n ≤ 1000000) (q b : Nat) (hBu : B ≤ u.heap.size) (hq0 : u.cell? ⟨b, 0, none⟩ = some (.pointer (some ⟨q, 0, none⟩))) :
  ∃ A2 c2 u', (Builtin.append_ #[34, 34] 34 #[.slice A n c, .slice (some ⟨b, 0, none⟩) 1 1]).run Tryz.prog u = .ok (.slice A2 (n + 1) c2) u' ∧
   OwnPt u' B A2 c2 (qs ++ [q]) ∧ u.grownBy u' (blk A) := by
 subst hn
 obtain ⟨i0, hi, hz0, hz1, hz2⟩ := info_parts Tryz.infoPt
 obtain ⟨v', w', hrun, hown, hgr, _, _⟩ := run_append_own_at (P := Tryz.prog) u B 34 34 111 i0 _ 1 8 Tryz.underlying34 hi hz0 hz1 hz2 rfl (by omega) (.slice A qs.length c) qs.length (ptV qs) h ⟨b, 0, none⟩ 1 1 [.pointer (some ⟨q, 0, none⟩)] rfl
  (fun j u hu => by
   match j, hu with
   | 0, hu => cases hu; exact hq0)
  (fun u hu => by simp at hu; subst hu; rfl) (by simp only [maxLen]; omega) (by omega) hBu
 obtain ⟨g2, c2, rfl⟩ := Joins.ownsRow_form hown (by omega)
 rw [ownBlock_slice] at hgr
 refine ⟨some ⟨g2, 0, none⟩, c2, w', hrun, ?_, hgr⟩
 unfold OwnPt ptV
 rw [List.length_append, List.map_append]
 exact hown
end Go.Proofs.YtlliaihmfimdoaaGreat.Qu


namespace Go.Proofs.YtlliaihmfimdoaaGreat.Qu
open Go.RowKit Go.Maps Go.Joins Go.Deep
set_option linter.unusedVariables false
set_option linter.unusedSimpArgs false
theorem own_same {u u' : World} {B k n c m : Nat} {t : TypeId} {A : Option Addr} {vs : List Value} (h : u.ownsRow B t k (.slice A n c) m vs) (hs : ∀ r, r < u.heap.size → (∃ cs fz, u.heap[r]? = some (.cells cs t fz)) → blk A = some r → u'.heap[r]? = u.heap[r]?) : u'.ownsRow B t k (.slice A n c) m vs := by
 obtain ⟨h1, h2⟩ := h
 refine ⟨h1, ?_⟩
 rcases h2 with h2 | ⟨g, cap, cur, hv, hb, hg, hrest⟩
 ·exact .inl h2
 ·refine .inr ⟨g, cap, cur, hv, hb, ?_, hrest⟩
  injection hv with e1 _ _
  rw [hs g (Array.getElem?_eq_some_iff.1 hg).1 ⟨_, _, hg⟩ (by rw [e1]; rfl)]
  exact hg
theorem q_same {ws : List WI} (hd : ws.Pairwise fun a b => a.q ≠ b.q ∧ ∀ r, blk a.A = some r → blk b.A ≠ some r) {a b : WI} (ha : a ∈ ws) (hb : b ∈ ws) (e : a.q = b.q) : a = b := by
 obtain ⟨i, hi, rfl⟩ := List.mem_iff_getElem.1 ha
 obtain ⟨j, hj, rfl⟩ := List.mem_iff_getElem.1 hb
 rcases Nat.lt_trichotomy i j with h | h | h
 ·exact absurd e (List.pairwise_iff_getElem.1 hd i j hi hj h).1
 ·subst h; rfl
 ·exact absurd e.symm (List.pairwise_iff_getElem.1 hd j i hj hi h).1
theorem A_apart {ws : List WI} (hd : ws.Pairwise fun a b => a.q ≠ b.q ∧ ∀ r, blk a.A = some r → blk b.A ≠ some r) {a b : WI} (ha : a ∈ ws) (hb : b ∈ ws) (e : a.q ≠ b.q) (r : Nat) (h1 : blk a.A = some r) : blk b.A ≠ some r := by
 obtain ⟨i, hi, rfl⟩ := List.mem_iff_getElem.1 ha
 obtain ⟨j, hj, rfl⟩ := List.mem_iff_getElem.1 hb
 rcases Nat.lt_trichotomy i j with h | h | h
 ·exact (List.pairwise_iff_getElem.1 hd i j hi hj h).2 r h1
 ·subst h; exact absurd rfl e
 ·intro h2
  exact (List.pairwise_iff_getElem.1 hd j i hj hi h).2 r h2 h1
def turnW (ws : List WI) (z : WI) : List WI := ws.map fun y => if y.q = z.q then z else y
theorem own_less {u : World} {B B' k n c m : Nat} {t : TypeId} {A : Option Addr} {vs : List Value} (h : u.ownsRow B' t k (.slice A n c) m vs) (hB : B ≤ B') : u.ownsRow B t k (.slice A n c) m vs := by
 obtain ⟨h1, h2⟩ := h
 refine ⟨h1, ?_⟩
 rcases h2 with h2 | ⟨g', cap', cur, hv, hb, hrest⟩
 ·exact .inl h2
 ·exact .inr ⟨g', cap', cur, hv, Nat.le_trans hB hb, hrest⟩
def othersW (ws : List WI) (n : Int) : List WI := ws.filter fun y => decide (y.n ≠ n)
theorem othersW_snoc {ws : List WI} {n : Int} {j : Nat} (hj : j < ws.length) : othersW (ws.take (j + 1)) n = if (ws[j]'hj).n = n then othersW (ws.take j) n else othersW (ws.take j) n ++ [ws[j]'hj] := by
 unfold othersW
 rw [List.take_add_one, List.getElem?_eq_getElem hj, List.filter_append]
 split
 ·rename_i h; simp [h]
 ·rename_i h; simp [h]
def backR (ws : List WI) (n : Int) : Int × List WI := if n < 1 then (1, ws) else (0, othersW ws n)
end Go.Proofs.YtlliaihmfimdoaaGreat.Qu


namespace Go.Proofs.YtlliaihmfimdoaaGreat.Qu
open Go.RowKit Go.Maps Go.Joins Go.Deep
set_option linter.unusedVariables false
set_option linter.unusedSimpArgs false
theorem RG.change {B0 : Nat} {w w' : World} {x k : Nat} {cs : Array Value} (h : RG B0 w w' x (fun _ => False)) (hk : Blk w k 74 cs) (hx : k ≠ x) : Blk w' k 74 cs := by
 unfold Blk at hk ⊢
 rcases h.block k (Array.getElem?_eq_some_iff.1 hk).1 hx with e | ⟨cs2, fz, e⟩ | ⟨cs2, fz, e⟩ | ⟨_, e⟩
 ·rw [e]; exact hk
 ·rw [e] at hk; injection hk with hk; injection hk with _ hk _; exact absurd hk (by decide)
 ·rw [e] at hk; injection hk with hk; injection hk with _ hk _; exact absurd hk (by decide)
 ·exact e.elim
end Go.Proofs.YtlliaihmfimdoaaGreat.Qu


namespace Go.Proofs.YtlliaihmfimdoaaGreat.Qu
open Go.RowKit Go.Maps Go.Joins Go.Deep
set_option linter.unusedVariables false
set_option linter.unusedSimpArgs false
def prepR (ws : List WI) (n : Int) : (List Ch × Int) × List WI :=
 if mayR ws n ≠ 0 then (([], mayR ws n), ws) else match findW ws n with
  | some z => ((z.l, 0), turnW ws ⟨z.q, z.n, z.A, z.c, z.l, true⟩)
  | none => (([], 0), ws)
end Go.Proofs.YtlliaihmfimdoaaGreat.Qu


namespace Go.Proofs.YtlliaihmfimdoaaGreat.Qu
open Go.RowKit Go.Maps Go.Joins Go.Deep
set_option linter.unusedVariables false
set_option linter.unusedSimpArgs false
theorem RG.item {B0 : Nat} {w w' : World} {x k : Nat} {T : Nat → Prop} {cs : Array Value} (h : RG B0 w w' x T) (hk : Blk w k 154 cs) (hx : k ≠ x) : Blk w' k 154 cs := by
 unfold Blk at hk ⊢
 rcases h.block k (Array.getElem?_eq_some_iff.1 hk).1 hx with e | ⟨cs2, fz, e⟩ | ⟨cs2, fz, e⟩ | ⟨⟨cs2, fz, e⟩, _⟩
 ·rw [e]; exact hk
 all_goals
  rw [e] at hk; injection hk with hk; injection hk with _ hk _; exact absurd hk (by decide)
def nextR (ws : List WI) (n : Int) : List (Int × Nat) → Option (Int × Nat)
 | [] => none
 | y :: r => if takR ws y.1 = n then nextR ws n r else some y
theorem nextR_drop (ws : List WI) (n : Int) (P : List (Int × Nat)) (i : Nat) (h : i < P.length) : nextR ws n (P.drop i) = if takR ws (P[i]'h).1 = n then nextR ws n (P.drop (i + 1)) else some (P[i]'h) := by
 rw [List.drop_eq_getElem_cons h]; rfl
end Go.Proofs.YtlliaihmfimdoaaGreat.Qu


namespace Go.Proofs.YtlliaihmfimdoaaGreat.Qu
open Go.RowKit Go.Maps Go.Joins Go.Deep
set_option linter.unusedVariables false
set_option linter.unusedSimpArgs false
theorem Tryz.infoPr : (Tryz.prog.info? 154).map (fun i => (i.zero, i.size, i.bytes)) = some (some (.agg #[.int .i64 0, .int .u64 0]), 2, 16) := by kernel_rfl
theorem pr_more {u : World} {B c : Nat} {A : Option Addr} {P : List (Int × Nat)} (h : OwnPr u B A c P) (n : Nat) (hn : n = P.length) (hl : n ≤ 1000) (k : Int) (v : Nat) (q : Nat) (hBu : B ≤ u.heap.size)
  (hq : Blk u q 154 #[.int .i64 k, .int .u64 (v : Nat)]) :
  ∃ A2 c2 u', (Builtin.append_ #[33, 33] 33 #[.slice A n c, .slice (some ⟨q, 0, none⟩) 1 1]).run Tryz.prog u = .ok (.slice A2 (n + 1) c2) u' ∧
   OwnPr u' B A2 c2 (P ++ [(k, v)]) ∧ u.grownBy u' (blk A) := by
 subst hn
 obtain ⟨i0, hi, hz0, hz1, hz2⟩ := info_parts Tryz.infoPr
 have hlen : ∀ P : List (Int × Nat), (prV P).length = P.length * 2 := fun P => by
  induction P with
  | nil => rfl
  | cons o P ih => unfold prV at ih ⊢; rw [List.flatMap_cons, List.length_append, ih]; simp; omega
 obtain ⟨v', w', hrun, hown, hgr, _, _⟩ := run_append_own_at (P := Tryz.prog) u B 33 33 154 i0 _ 2 16 Tryz.underlying33 hi hz0 hz1 hz2 rfl (by omega) (.slice A P.length c) P.length (prV P) h ⟨q, 0, none⟩ 1 1 [.int .i64 k, .int .u64 (v : Nat)] rfl
  (fun j v hv => by
   have := hq.cell j
   have e : (⟨q, 0, none⟩ : Addr).add j = ⟨q, j, none⟩ := by
    simp [Addr.add]
    try omega
   rw [e, this]
   rw [List.getElem?_toArray]; exact hv)
  (fun v hv => by simp at hv; rcases hv with rfl | rfl <;> rfl) (by simp only [maxLen]; omega) (by omega) hBu
 obtain ⟨g2, c2, rfl⟩ := Joins.ownsRow_form hown (by omega)
 rw [ownBlock_slice] at hgr
 refine ⟨some ⟨g2, 0, none⟩, c2, w', hrun, ?_, hgr⟩
 unfold OwnPr
 rw [List.length_append, show prV (P ++ [(k, v)]) = prV P ++ [.int .i64 k, .int .u64 (v : Nat)] by unfold prV; simp]
 exact hown
theorem grown_new {w u u' : World} {g row : Option Nat} (h : w.grownBy u g) (k : u.grownBy u' row) (hr : ∀ r, row = some r → w.heap.size ≤ r) : w.grownBy u' g :=
 ⟨k.os.trans h.os, k.tape.trans h.tape, k.output.trans h.output, Nat.le_trans h.size k.size, fun r hl hx => (k.block r (Nat.lt_of_lt_of_le hl h.size) (fun e => by have := hr r e.symm; omega)).trans (h.block r hl hx)⟩
def keptR (ws : List WI) (n : Int) (P : List (Int × Nat)) : List (Int × Nat) := P.filter fun y => decide (takR ws y.1 ≠ n)
theorem keptR_snoc {ws : List WI} {n : Int} {P : List (Int × Nat)} {j : Nat} (hj : j < P.length) : keptR ws n (P.take (j + 1)) = if takR ws (P[j]'hj).1 = n then keptR ws n (P.take j) else keptR ws n (P.take j) ++ [P[j]'hj] := by
 unfold keptR
 rw [List.take_add_one, List.getElem?_eq_getElem hj, List.filter_append]
 split
 ·rename_i h; simp [h]
 ·rename_i h; simp [h]
theorem keptR_le (ws : List WI) (n : Int) (P : List (Int × Nat)) : (keptR ws n P).length ≤ P.length := List.length_filter_le _ _
def prI (l : List IT) : List (Int × Nat) := l.map fun x => (x.n, x.v)
def newsR (g : Int) (l : List Ch) : List (Int × Nat) := prI (newsQ g l)
theorem newsR_len (g : Int) (l : List Ch) : (newsR g l).length = putsL l := by unfold newsR prI; rw [List.length_map, newsQ_len]
theorem newsR_step (g : Int) (l : List Ch) (j : Nat) (h : j < l.length) : newsR g (l.take (j + 1)) = if (l[j]'h).k = 3 then newsR g (l.take j) ++ [(g + (putsL (l.take j) : Nat) + 1, (l[j]'h).v)] else newsR g (l.take j) := by
 have e2 : l.take (j + 1) = l.take j ++ [l[j]'h] := by rw [List.take_add_one, List.getElem?_eq_getElem h]; rfl
 unfold newsR
 rw [e2, newsQ_snoc]
 split
 ·unfold prI; rw [List.map_append]; rfl
 ·rfl
theorem putsL_take_le (l : List Ch) (j : Nat) : putsL (l.take j) ≤ putsL l := by
 unfold putsL
 exact ((List.take_sublist j l).filter _).length_le
def commitR (P : List (Int × Nat)) (ws : List WI) (gv n : Int) : Int × List (Int × Nat) × List WI × Int :=
 if n < 1 then (1, P, ws, gv) else match findW ws n with
  | none => (0, P, ws, gv)
  | some z => (0, keptR ws n P ++ newsR gv z.l, othersW ws n, gv + (putsL z.l : Nat))
theorem OwnPr.grown {u u' : World} {B : Nat} {A : Option Addr} {c : Nat} {P : List (Int × Nat)} {row : Option Nat} (h : OwnPr u B A c P) (hg : u.grownBy u' row) (hr : ∀ r, row = some r → blk A ≠ some r) : OwnPr u' B A c P := by
 refine World.ownsRow.kept h hg ?_
 rcases hb : (Value.slice A P.length c).ownBlock with _ | r
 ·exact .inl rfl
 ·refine .inr (fun e => ?_)
  rw [ownBlock_slice] at hb
  exact hr r e.symm hb
theorem OwnPr.lt' {u : World} {B : Nat} {A : Option Addr} {c : Nat} {P : List (Int × Nat)} (h : OwnPr u B A c P) : ∀ r, blk A = some r → B ≤ r ∧ r < u.heap.size := fun r e => World.ownsRow.lt h r (by rw [ownBlock_slice]; exact e)
end Go.Proofs.YtlliaihmfimdoaaGreat.Qu


namespace Go.Proofs.YtlliaihmfimdoaaGreat.Qu.Dq
variable {E : Value × Value × Value}
open Go.RowKit Go.Maps Go.Joins Go.Deep
set_option linter.unusedVariables false
set_option linter.unusedSimpArgs false
structure RQ (E : Value × Value × Value) (u : World) (B x : Nat) (P : List (Int × Nat)) (ws : List WI) (gv : Int) : Prop where
 ex : ∃ AP nP cP AW nW cW, Blk u x 38 #[E.1, E.2.1, E.2.2, .slice AP nP cP, .slice AW nW cW, .int .i64 gv] ∧ nP = P.length ∧ nW = ws.length ∧ OwnPr u B AP cP P ∧ OwnPt u B AW cW (ws.map WI.q)
 wk : ∀ y ∈ ws, B ≤ y.q ∧ Blk u y.q 149 #[.int .i64 y.n, .slice y.A y.l.length y.c, .bool y.p] ∧ OwnC u B y.A y.c y.l
 ds : ws.Pairwise fun a b => a.q ≠ b.q ∧ ∀ r, blk a.A = some r → blk b.A ≠ some r
 sm : P.length ≤ 48 ∧ ws.length ≤ 100 ∧ ∀ y ∈ ws, y.l.length ≤ 300
set_option maxRecDepth 100000 in
set_option maxHeartbeats 2000000 in
theorem rfind_any (B x : Nat) (P : List (Int × Nat)) (ws : List WI) (gv : Int) (n : Int) (w : World) (h : RQ E w B x P ws gv) :
  Calls Tryz.prog 46 #[.pointer (some ⟨x, 3, none⟩), .int .i64 n] w fun e w' => e = .returned (.pointer ((findW ws n).map fun y => ⟨y.q, 0, none⟩)) ∧ w = w' := by
 obtain ⟨AP, nP, cP, AW, nW, cW, hk, _, hnW, _, hpt⟩ := h.ex
 have c1 := hk.cell 4
 simp only [List.getElem?_toArray, List.getElem?_cons_zero, List.getElem?_cons_succ] at c1
 have hn1 : nW ≤ 100 := by rw [hnW]; exact h.sm.2.1
 have HN := Lib.hid hnW
 have H := Lib.hid (And.intro hpt h.wk)
 clear hk hpt h hnW
 go_enter Tryz.func46, Tryz.ntmps46
 go_wp2_with fail
 go_loopw [5] (fun i wr => ∃ j : Nat, j ≤ nW ∧ i = .int .i64 j ∧ Hid (∀ i, (h : i < ws.length) → i < j → (ws[i]'h).n ≠ n) ∧ w = wr) (fun i _ => nW - (intOf i).toNat)
 case atStart => exact ⟨0, Nat.zero_le _, rfl, Lib.hid (fun i h h2 => by omega), rfl⟩
 case round =>
  obtain ⟨j, hj, rfl, hno, rfl⟩ := hrel
  by_cases hjn : j < nW
  ·have hjI : (j : Int) < (nW : Int) := by omega
   have hjL : j < ws.length := by rw [← HN.out]; exact hjn
   have hpt := H.out.1
   unfold OwnPt at hpt
   rw [List.length_map] at hpt
   obtain ⟨b, rfl, _, _, _, hc⟩ := row_cells hpt (by omega)
   have q0 := hc j (.pointer (some ⟨(ws[j]'hjL).q, 0, none⟩)) (by unfold ptV; simp [hjL])
   have q1 := (H.out.2 _ (List.getElem_mem hjL)).2.1.cell 0
   simp only [List.getElem?_toArray, List.getElem?_cons_zero, List.getElem?_cons_succ] at q1
   have hyes : Hid ((ws[j]'hjL).n = n → findW ws n = some (ws[j]'hjL)) := Lib.hid (fun e => findW_at hjL hno.out e)
   have hstep : Hid (¬ (ws[j]'hjL).n = n → ∀ i, (h : i < ws.length) → i < j + 1 → (ws[i]'h).n ≠ n) := Lib.hid (fun h1 i hi hij => by
    by_cases e : i = j
    ·subst e; exact h1
    ·exact hno.out i hi (by omega))
   generalize ws[j]'hjL = y at q0 q1 hyes hstep
   obtain ⟨yq, yn, yA, yc, yl, yp⟩ := y
   dsimp only at q0 q1 hyes hstep
   clear hpt hc hno hjL
   by_cases h1 : yn = n
   ·have HP : Hid (findW ws n = some ⟨yq, yn, yA, yc, yl, yp⟩) := Lib.hid (hyes.out h1)
    subst h1
    clear hyes hstep
    go_wp2
    go_ret
    exact ⟨by rw [HP.out]; rfl, rfl⟩
   ·have hno2 : Hid (∀ i, (h : i < ws.length) → i < j + 1 → (ws[i]'h).n ≠ n) := Lib.hid (hstep.out h1)
    have e1 : (yn == n) = false := by simp [h1]
    clear hyes hstep
    go_wp2
    go_roundw
    case rel => exact ⟨j + 1, by omega, by go_num, hno2, by first | rfl | trivial⟩
    case measure => simp [intOf]; omega
  ·have hjI : ¬ (j : Int) < (nW : Int) := by omega
   have HP : Hid (findW ws n = none) := Lib.hid (findW_none fun i hi => hno.out i hi (by have := HN.out; omega))
   clear hno
   go_wp2
   go_ret
   exact ⟨by rw [HP.out]; rfl, rfl⟩
set_option maxRecDepth 100000 in
set_option maxHeartbeats 1000000 in
theorem rmay_any (B x : Nat) (P : List (Int × Nat)) (ws : List WI) (gv : Int) (n : Int) (w : World) (h : RQ E w B x P ws gv) :
  Calls Tryz.prog 128 #[.pointer (some ⟨x, 3, none⟩), .int .i64 n] w fun e w' => e = .returned (.int .i64 (mayR ws n)) ∧ w = w' := by
 have HF := Lib.hid (rfind_any B x P ws gv n w h)
 by_cases h1 : n < 1
 ·have hM : mayR ws n = 1 := if_pos h1
  rw [hM]
  clear h hM
  go_enter Tryz.func128, Tryz.ntmps128
  go_wp2
  go_ret
  exact ⟨rfl, rfl⟩
 ·rcases hf : findW ws n with _ | y
  ·have hM : mayR ws n = 0 := by unfold mayR; rw [if_neg h1, hf]
   rw [hM]
   rw [hf] at HF
   clear h hM hf
   go_enter Tryz.func128, Tryz.ntmps128
   go_wp2_with fail
   refine HF.out.mono ?_
   rintro e w1 ⟨rfl, rfl⟩
   go_wp2
   go_ret
   exact ⟨rfl, rfl⟩
  ·have hM : mayR ws n = if y.p = true then 7 else 0 := by unfold mayR; rw [if_neg h1, hf]
   rw [hM]
   rw [hf] at HF
   have hk := (h.wk y (findW_mem hf).1).2.1
   have c2 := hk.cell 2
   simp only [List.getElem?_toArray, List.getElem?_cons_zero, List.getElem?_cons_succ] at c2
   obtain ⟨yq, yn, yA, yc, yl, yp⟩ := y
   dsimp only at c2 HF
   clear h hM hf hk
   cases yp with
   | true =>
    go_enter Tryz.func128, Tryz.ntmps128
    go_wp2_with fail
    refine HF.out.mono ?_
    rintro e w1 ⟨rfl, rfl⟩
    go_wp2
    go_ret
    exact ⟨rfl, rfl⟩
   | false =>
    go_enter Tryz.func128, Tryz.ntmps128
    go_wp2_with fail
    refine HF.out.mono ?_
    rintro e w1 ⟨rfl, rfl⟩
    go_wp2
    go_ret
    exact ⟨rfl, rfl⟩
end Go.Proofs.YtlliaihmfimdoaaGreat.Qu.Dq


namespace Go.Proofs.YtlliaihmfimdoaaGreat.Qu.Dq
variable {E : Value × Value × Value}
open Go.RowKit Go.Maps Go.Joins Go.Deep
set_option linter.unusedVariables false
set_option linter.unusedSimpArgs false
theorem RQ.below {u u' : World} {B x : Nat} {P : List (Int × Nat)} {ws : List WI} {gv : Int} (h : RQ E u B x P ws gv) (hb : Below u.heap.size u u') : RQ E u' B x P ws gv := by
 obtain ⟨AP, nP, cP, AW, nW, cW, hk, h1, h2, h3, h4⟩ := h.ex
 exact ⟨⟨AP, nP, cP, AW, nW, cW, hk.below hb hk.lt, h1, h2, own_below' h3 hb, own_below' h4 hb⟩, fun y hy => by
  obtain ⟨a1, a2, a3⟩ := h.wk y hy
  exact ⟨a1, a2.below hb a2.lt, a3.kept (lbelow_grown hb none) (fun r e => by cases e)⟩, h.ds, h.sm⟩
theorem RQ.at_ {u : World} {B x : Nat} {P : List (Int × Nat)} {ws : List WI} {gv : Int} (h : RQ E u B x P ws gv) (i : Nat) (hi : i < ws.length) : ∃ b cW, u.cell? ⟨x, 4, none⟩ = some (.slice (some ⟨b, 0, none⟩) ws.length cW) ∧ u.cell? ⟨b, i, none⟩ = some (.pointer (some ⟨(ws[i]'hi).q, 0, none⟩)) ∧
  u.cell? ⟨(ws[i]'hi).q, 0, none⟩ = some (.int .i64 (ws[i]'hi).n) ∧ u.cell? ⟨(ws[i]'hi).q, 1, none⟩ = some (.slice (ws[i]'hi).A (ws[i]'hi).l.length (ws[i]'hi).c) ∧ InL u (ws[i]'hi).A (ws[i]'hi).l := by
 obtain ⟨AP, nP, cP, AW, nW, cW, hk, h1, h2, h3, h4⟩ := h.ex
 have c1 := hk.cell 4
 simp only [List.getElem?_toArray, List.getElem?_cons_zero, List.getElem?_cons_succ] at c1
 obtain ⟨_, a2, a3⟩ := h.wk _ (List.getElem_mem hi)
 unfold OwnPt at h4
 rw [List.length_map] at h4
 obtain ⟨b, rfl, _, _, _, hc⟩ := row_cells h4 (by omega)
 have q0 := a2.cell 0
 have q1 := a2.cell 1
 simp only [List.getElem?_toArray, List.getElem?_cons_zero, List.getElem?_cons_succ] at q0 q1
 rw [h2] at c1
 exact ⟨b, cW, c1, hc i _ (by unfold ptV; simp [hi]), q0, q1, a3.at_.inl⟩
theorem RQ.len_ {u : World} {B x : Nat} {P : List (Int × Nat)} {ws : List WI} {gv : Int} (h : RQ E u B x P ws gv) : ∃ AW cW, u.cell? ⟨x, 4, none⟩ = some (.slice AW ws.length cW) := by
 obtain ⟨AP, nP, cP, AW, nW, cW, hk, h1, h2, h3, h4⟩ := h.ex
 have c1 := hk.cell 4
 simp only [List.getElem?_toArray, List.getElem?_cons_zero, List.getElem?_cons_succ] at c1
 rw [h2] at c1
 exact ⟨AW, cW, c1⟩
set_option maxRecDepth 100000 in
set_option maxHeartbeats 1000000 in
theorem rroom_any (B x : Nat) (P : List (Int × Nat)) (ws : List WI) (gv : Int) (w : World) (h : RQ E w B x P ws gv) (hg : 0 ≤ gv ∧ gv ≤ 4611686018427387904) :
  Calls Tryz.prog 129 #[.pointer (some ⟨x, 3, none⟩)] w fun e w' => e = .returned (.int .i64 (roomR P ws gv)) ∧ Below w.heap.size w w' := by
 obtain ⟨nW, hnW⟩ : ∃ nW, nW = ws.length := ⟨_, rfl⟩
 obtain ⟨nP, hnP⟩ : ∃ nP, nP = P.length := ⟨_, rfl⟩
 have hW1 : nW ≤ 100 := by rw [hnW]; exact h.sm.2.1
 have hP1 : nP ≤ 48 := by rw [hnP]; exact h.sm.1
 have HN := Lib.hid (And.intro hnW hnP)
 have H := Lib.hid h
 have HG := Lib.hid hg
 obtain ⟨AW, cW, c1⟩ := h.len_
 rw [← hnW] at c1
 have HI : Hid (0 = putsR (ws.take 0) ∧ Below w.heap.size w w) := Lib.hid ⟨rfl, Below.refl _ _⟩
 clear h hnW hnP c1
 go_enter Tryz.func129, Tryz.ntmps129
 go_wp2_with fail
 go_loopw [3, 4] (fun sv iv wr => ∃ (s i : Nat), i ≤ nW ∧ s ≤ 300 * i ∧ sv = .int .i64 s ∧ iv = .int .i64 i ∧ Hid (s = putsR (ws.take i) ∧ Below w.heap.size w wr)) (fun _ iv _ => nW - (intOf iv).toNat)
 case atStart => exact ⟨0, 0, Nat.zero_le _, by omega, rfl, rfl, HI⟩
 case round =>
  clear HI
  obtain ⟨s, i, hi, hs, rfl, rfl, HR⟩ := hrel
  have hr := H.out.below HR.out.2
  by_cases hin : i < nW
  ·have hiI : (i : Int) < (nW : Int) := by omega
   have hil : i < ws.length := by rw [← HN.out.1]; exact hin
   obtain ⟨b, cw, r1, r2, r3, r4, r5⟩ := hr.at_ i hil
   clear r3
   have hst := putsR_step ws i hil
   have hsm := hr.sm.2.2 _ (List.getElem_mem hil)
   generalize ws[i]'hil = y at r2 r4 r5 hst hsm
   obtain ⟨yq, yn, yA, yc, yl, yp⟩ := y
   dsimp only at r2 r4 r5 hst hsm
   rw [← HN.out.1] at r1
   obtain ⟨lq, hlq⟩ : ∃ lq, lq = yl.length := ⟨_, rfl⟩
   have hpl := putsL_le yl
   have HPu := Lib.hid (refputs_any yA yl lq yc wr (Lib.hid hlq) (by omega) r5)
   rw [← hlq] at r4
   obtain ⟨pz, hpz⟩ : ∃ pz, pz = putsL yl := ⟨_, rfl⟩
   rw [← hpz] at HPu hst hpl
   have hpz3 : pz ≤ 300 := by omega
   have HN2 : Hid (s + pz = putsR (ws.take (i + 1)) ∧ Below w.heap.size w wr) := Lib.hid ⟨by rw [hst, HR.out.1], HR.out.2⟩
   clear hr hil r5 hst hsm hlq hpl hpz HR
   go_wp2_with fail
   refine HPu.out.mono ?_
   rintro e w2 ⟨rfl, b2⟩
   have HN3 : Hid (s + pz = putsR (ws.take (i + 1)) ∧ Below w.heap.size w w2) := Lib.hid ⟨HN2.out.1, bt HN2.out.2 b2⟩
   clear b2 r1 r2 r4
   go_wp2
   go_roundw
   case rel => exact ⟨s + pz, i + 1, by omega, by omega, by go_num, by go_num, HN3⟩
   case measure => simp [intOf]; omega
  ·have hiI : ¬ (i : Int) < (nW : Int) := by omega
   obtain ⟨AP, nP', cP, AW', nW', cW', hk, k1, k2, _, _⟩ := hr.ex
   have c0 := hk.cell 3
   have c1 := hk.cell 4
   have c2 := hk.cell 5
   simp only [List.getElem?_toArray, List.getElem?_cons_zero, List.getElem?_cons_succ] at c0 c1 c2
   rw [k1, ← HN.out.2] at c0
   rw [k2, ← HN.out.1] at c1
   have hsp : s = putsR ws := by rw [HR.out.1, List.take_of_length_le (by rw [← HN.out.1]; omega)]
   have hg0 := HG.out
   have s1 : IntKind.i64.wrap ((16 : Int) - (nP : Int)) = 16 - (nP : Int) := IntWalk.i64_in _ (by omega)
   have s3 : IntKind.i64.wrap (gv + 1) = gv + 1 := IntWalk.i64_in _ (by omega)
   have s4 : IntKind.i64.wrap ((4611686018427387904 : Int) - (gv + 1)) = 4611686018427387904 - (gv + 1) := IntWalk.i64_in _ (by omega)
   obtain ⟨va, hva⟩ : ∃ va, va = 16 - (nP : Int) - (s : Int) := ⟨_, rfl⟩
   obtain ⟨vb, hvb⟩ : ∃ vb, vb = 4611686018427387904 - (gv + 1) - (s : Int) := ⟨_, rfl⟩
   have s2 : IntKind.i64.wrap (16 - (nP : Int) - (s : Int)) = va := by rw [hva]; exact IntWalk.i64_in _ (by omega)
   have s5 : IntKind.i64.wrap (4611686018427387904 - (gv + 1) - (s : Int)) = vb := by rw [hvb]; exact IntWalk.i64_in _ (by omega)
   have hR : roomR P ws gv = min va vb := by unfold roomR; rw [← HN.out.2, ← hsp, ← hva, ← hvb]
   have d0 := fun m : Nat => cell_drew' c0 m
   have d2 := fun m : Nat => cell_drew' c2 m
   have HX : Hid (∀ m : Nat, Below w.heap.size w (wr.drewN m)) := Lib.hid fun m => bt HR.out.2 ⟨rfl, rfl, rfl, Nat.le_refl _, fun _ _ => rfl⟩
   have HRm := Lib.hid hR
   clear hr hk k1 k2 hsp hg0 hR hva hvb HR hs hi hin
   go_wp2_with fail
   go_quiet (fail)
   have HX2 := Lib.hid (HX.out nq)
   clear d0 d2 c0 c2 HX s1 s2 s3 s4 s5 c1
   by_cases hab : vb < va
   ·have hm : Hid (min va vb = vb) := Lib.hid (Int.min_eq_right (by omega))
    go_wp2
    go_ret
    exact ⟨by rw [HRm.out, hm.out]; rfl, HX2.out⟩
   ·have hm : Hid (min va vb = va) := Lib.hid (Int.min_eq_left (by omega))
    go_wp2
    go_ret
    exact ⟨by rw [HRm.out, hm.out]; rfl, HX2.out⟩
end Go.Proofs.YtlliaihmfimdoaaGreat.Qu.Dq

