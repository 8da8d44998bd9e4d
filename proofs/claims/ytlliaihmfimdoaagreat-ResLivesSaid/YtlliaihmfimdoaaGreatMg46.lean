/- Parts Dl Dm Dn Do of one proof. -/
import Derived.Test.YtlliaihmfimdoaaGreatMg42
import Derived.Test.YtlliaihmfimdoaaGreatMg45
import Derived.Test.YtlliaihmfimdoaaGreatMg04
import Derived.Test.YtlliaihmfimdoaaGreatMg24
namespace Go.Proofs.YtlliaihmfimdoaaGreat.Dr
open Go.RowKit Go.Maps Go.Joins Go.Deep Go.Proofs.YtlliaihmfimdoaaGreat
set_option linter.unusedVariables false
set_option linter.unusedSimpArgs false
def docP (P : PL) : Nat → List (Int × Nat)
 | 0 => []
 | k + 1 => docP P k ++ if (valP P k).2 = true then [((k : Int), (valP P k).1)] else []
theorem docP_len (P : PL) : ∀ k, (docP P k).length ≤ k
 | 0 => Nat.le_refl _
 | k + 1 => by
  have := docP_len P k
  unfold docP
  rw [List.length_append]
  split
  ·simp; omega
  ·simp; omega
theorem docP_im {S : KS} {P : PL} {ws : List WI} (h : Rel S P ws) : ∀ k, Re.imP S k = docP P k
 | 0 => rfl
 | k + 1 => by
  unfold Re.imP docP
  rw [docP_im h k, h.val]
def NewI (w : World) (B : Nat) (v : Value) (cs : Array Value) : Prop := ∃ b, v = .pointer (some ⟨b, 0, none⟩) ∧ B ≤ b ∧ Blk w b 54 cs
def IsOu (w : World) (B n : Nat) (vs : List Nat) (v : Value) : Prop := ∃ A c, v = .slice A n c ∧ Qu.OwnU w B A c vs
def EIm (B : Nat) (k : Nat) (u u' : World) : Prop := match k with
 | 12 => ∃ b cs, B ≤ b ∧ Blk u b 54 cs ∧ u.grownBy u' (some b)
 | _ => Below u.heap.size u u'
theorem ou_kept {w w' : World} {B b c : Nat} {A : Option Addr} {vs : List Nat} {cs : Array Value} (h : Qu.OwnU w B A c vs) (hg : w.grownBy w' (some b)) (hk : Blk w b 54 cs) : Qu.OwnU w' B A c vs := own_kept h hk (by decide) hg
theorem IsOu.mono {B B2 n q : Nat} {vs : List Nat} {v : Value} {u u' : World} (he : EIm B2 q u u') (h : IsOu u B n vs v) : IsOu u' B n vs v := by
 obtain ⟨A, c, e, h⟩ := h
 unfold EIm at he
 split at he
 ·obtain ⟨b, cs, _, hk, hg⟩ := he
  exact ⟨A, c, e, ou_kept h hg hk⟩
 ·exact ⟨A, c, e, h.grown (lbelow_grown he none) (fun r e => by cases e)⟩
def VIm (x B n : Nat) (gv : Int) (vs : List Nat) (i : Nat) (v p : Value) (w : World) : Prop :=
 match i with
 | 0 => v = .pointer (some ⟨x, 0, none⟩)
 | 1 => v = .pointer (some ⟨x, 0, none⟩)
 | 2 => v = .pointer (some ⟨x, 3, none⟩)
 | 3 => IsOu w B n vs v
 | 4 => v = .pointer (some ⟨x, 0, none⟩)
 | 5 => v = .pointer (some ⟨x, 0, none⟩)
 | 6 => v = .pointer (some ⟨x, 3, none⟩)
 | 7 => v = .pointer (some ⟨x, 5, none⟩)
 | 8 => v = .int .i64 gv
 | 9 => v = .int .i64 (gv + 1)
 | 10 => ∃ s, v = .agg #[.slice none 0 0, s, .int .i64 (gv + 1)] ∧ IsOu w B n vs s
 | 11 => NewI w B v #[.slice none 0 0, .slice none 0 0, .int .i64 0]
 | 12 => ∃ s, NewI w B p #[.slice none 0 0, s, .int .i64 (gv + 1)] ∧ IsOu w B n vs s
 | _ => True
theorem VIm.mono {x B n : Nat} {gv : Int} {vs : List Nat} {q i : Nat} {v p : Value} {u u' : World} (he : EIm B q u u') (hiq : i ≠ q) (h1 : i = 11 ∧ q = 12 → False) (h : VIm x B n gv vs i v p u) : VIm x B n gv vs i v p u' := by
 unfold VIm at h ⊢
 split at h
 case h_4 => exact h.mono he
 case h_11 =>
  obtain ⟨s, e, h⟩ := h
  exact ⟨s, e, h.mono he⟩
 case h_12 =>
  unfold EIm at he
  split at he
  ·exact (h1 ⟨rfl, rfl⟩).elim
  ·obtain ⟨b, e, hb, hk⟩ := h
   exact ⟨b, e, hb, hk.below he hk.lt⟩
 case h_13 =>
  obtain ⟨s, ⟨b, e, hb, hk⟩, h⟩ := h
  refine ⟨s, ⟨b, e, hb, ?_⟩, h.mono he⟩
  unfold EIm at he
  split at he
  ·exact absurd rfl hiq
  ·exact hk.below he hk.lt
 all_goals exact h
structure DI (w wr : World) (gr go B : Nat) (A' : Option Addr) (q' c' : Nat) (nx : Int) (vs : List Nat) (A2 : Option Addr) (c2 : Nat) (P' : List (Int × Nat)) : Prop where
 be : Below w.heap.size w wr
 kr : Blk wr gr 54 #[.slice none 0 0, .slice none 0 0, .int .i64 0]
 ko : Blk wr go 54 #[.slice A2 P'.length c2, .slice A' q' c', .int .i64 nx]
 own : OwnPr wr B A2 c2 P'
 u : Qu.OwnU wr w.heap.size A' c' vs
 lt : gr < B ∧ go < B ∧ B ≤ wr.heap.size
 ne : gr ≠ go ∧ w.heap.size ≤ gr ∧ w.heap.size ≤ go ∧ w.heap.size ≤ B
theorem DI.below {w wr v : World} {gr go B : Nat} {A' : Option Addr} {q' c' : Nat} {nx : Int} {vs : List Nat} {A2 : Option Addr} {c2 : Nat} {P' : List (Int × Nat)} (h : DI w wr gr go B A' q' c' nx vs A2 c2 P') (hb : Below wr.heap.size wr v) : DI w v gr go B A' q' c' nx vs A2 c2 P' :=
 ⟨bt h.be hb, h.kr.below hb h.kr.lt, h.ko.below hb h.ko.lt, World.ownsRow.kept h.own (lbelow_grown hb none) (by rcases (Value.slice A2 P'.length c2).ownBlock with _ | k; exact .inl rfl; exact .inr (fun e => by cases e)), h.u.grown (lbelow_grown hb none) (fun r e => by cases e), ⟨h.lt.1, h.lt.2.1, Nat.le_trans h.lt.2.2 hb.size⟩, h.ne⟩
theorem DI.more {w wr : World} {gr go B : Nat} {A' : Option Addr} {q' c' : Nat} {nx : Int} {vs : List Nat} {A2 : Option Addr} {c2 : Nat} {P' : List (Int × Nat)} (h : DI w wr gr go B A' q' c' nx vs A2 c2 P') (hl : P'.length ≤ 1000) (k : Int) (v : Nat) :
  ∃ A3 c3 w3, (Builtin.append_ #[26, 26] 26 #[.slice A2 P'.length c2, .slice (some ⟨wr.heap.size, 0, none⟩) 1 1]).run Tryz.prog (wr.alloc (.cells #[.int .i64 k, .int .u64 (v : Nat)] 114)) = .ok (.slice A3 (P'.length + 1) c3) w3 ∧
   w3.cell? ⟨go, 0, none⟩ = some (.slice A2 P'.length c2) ∧ w3.frozen? ⟨go, 0, none⟩ = false ∧ DI w (w3.setCell ⟨go, 0, none⟩ (.slice A3 (P'.length + 1) c3)) gr go B A' q' c' nx vs A3 c3 (P' ++ [(k, v)]) := by
 have h3 := h.below (ba wr (.cells #[.int .i64 k, .int .u64 (v : Nat)] 114))
 obtain ⟨A3, c3, w3, hrun, own3, g3⟩ := pr_more h3.own P'.length rfl hl k v wr.heap.size h3.lt.2.2 (Blk.new wr _ _)
 have hno : ∀ {r t cs}, Blk (wr.alloc (.cells #[.int .i64 k, .int .u64 (v : Nat)] 114)) r t cs → r < B → Blk w3 r t cs := fun hk hr => hk.kept g3 (fun e => by
  have := (World.ownsRow.lt h3.own _ (by rw [ownBlock_slice]; exact e.symm)).1; omega)
 have ko3 := hno h3.ko h3.lt.2.1
 have hu3 : Qu.OwnU w3 w.heap.size A' c' vs := by
  rcases hA : blk A2 with _ | r
  ·rw [hA] at g3
   exact h3.u.grown g3 (fun r e => by cases e)
  ·rw [hA] at g3
   obtain ⟨cs, fz, ht⟩ := own_kind h3.own hA
   refine h3.u.grown g3 (fun r2 e e2 => ?_)
   injection e with e
   subst e
   obtain ⟨cs2, fz2, ht2⟩ := own_kind h3.u e2
   rw [ht] at ht2
   injection ht2 with ht2
   injection ht2 with _ ht2 _
   exact absurd ht2 (by decide)
 have hgs := lgrown_set w3 ⟨go, 0, none⟩ (.slice A3 (P'.length + 1) c3)
 have hs := h.lt.2.2
 have hne := h.ne
 refine ⟨A3, c3, w3, hrun, ?_, ko3.frozen 0, ?_⟩
 ·have := ko3.cell 0
  simpa using this
 ·refine ⟨(h3.be.grown g3 (by have := h3.be.size; omega) (fun r e => by have := (World.ownsRow.lt h3.own r (by rw [ownBlock_slice]; exact e)).1; omega)).setCell (p := ⟨go, 0, none⟩) (by have := hne.2.2.1; exact this) _, (hno h3.kr h3.lt.1).kept hgs (fun e => hne.1 (Option.some.inj e)), ?_, ?_, ou_kept hu3 hgs ko3, ⟨h.lt.1, h.lt.2.1, ?_⟩, h.ne⟩
  ·have := ko3.set_ 0 (.slice A3 (P'.length + 1) c3)
   rw [List.length_append]
   simpa using this
  ·exact own_kept own3 ko3 (by decide) hgs
  ·have := g3.size; have := h3.lt.2.2; rw [World.size_setCell]; omega
set_option maxRecDepth 100000 in
set_option maxHeartbeats 4000000 in
theorem dimage_any (B x : Nat) (P : PL) (ws : List WI) (L : List LRow) (Q : PL) (qs : List Qu.WI) (gv : Int) (w : World) (h : DR w B x P ws L Q qs gv) (hg : 0 ≤ gv ∧ gv ≤ 4611686018427387904) :
  Calls Tryz.prog 19 #[.pointer (some ⟨x, 0, none⟩)] w fun e w' => ∃ A q c A' q' c', e = .returned (.agg #[.slice A q c, .slice A' q' c', .int .i64 (gv + 1)]) ∧ Hid (Re.DocAt w' A q A' q' (docP P 16) (Q.map (·.2)) ∧ Below w.heap.size w w') := by
 obtain ⟨w1, hw1⟩ : ∃ w1, w1 = w.alloc (.cells #[.slice none 0 0, .slice none 0 0, .int .i64 0] 54) := ⟨_, rfl⟩
 have b1 : Below w.heap.size w w1 := by rw [hw1]; exact ba _ _
 obtain ⟨gr, hgr⟩ : ∃ gr, gr = w.heap.size := ⟨_, rfl⟩
 have k1 : Blk w1 gr 54 #[.slice none 0 0, .slice none 0 0, .int .i64 0] := by rw [hw1, hgr]; exact Blk.new _ _ _
 obtain ⟨vs, hvs⟩ : ∃ vs, vs = Q.map (·.2) := ⟨_, rfl⟩
 obtain ⟨nq, hnq⟩ : ∃ nq, nq = vs.length := ⟨_, rfl⟩
 have hnq2 : nq = Q.length := by rw [hnq, hvs, List.length_map]
 obtain ⟨a0, b0, c0, d0, e0, r1, r2, r3⟩ := (h.below b1).ex
 have HK : Hid (∀ u, Below w1.heap.size w1 u → u.cell? ⟨x, 5, none⟩ = some (.int .i64 gv)) := Lib.hid fun u hu => by
  have := (r3.below hu r3.lt).cell 5
  simpa using this
 have HV : Hid (∀ (k : Nat) u, Below w1.heap.size w1 u → Calls Tryz.prog 52 #[.pointer (some ⟨x, 0, none⟩), .int .i64 k] u fun e w' => e = .returned (.tuple #[.int .u64 ((valP P k).1 : Nat), .bool (valP P k).2]) ∧ u = w') := Lib.hid fun k u hu => Ds.rvalue_any B x P ws L k u (r1.below hu)
 have HVals : Hid (∀ u, Below w1.heap.size w1 u → Calls Tryz.prog 51 #[.pointer (some ⟨x, 3, none⟩)] u fun e w' => ∃ A c, e = .returned (.slice A nq c) ∧ Qu.OwnU w' w1.heap.size A c vs ∧ Below u.heap.size u w') := Lib.hid fun u hu => by
  rw [hnq2, hvs]
  refine (Qu.Dq.rvalues_any B x Q qs gv u (r2.below hu)).mono ?_
  rintro e w' ⟨A, c, h1, h2, h3⟩
  exact ⟨A, c, h1, h2.less hu.size, h3⟩
 have H := Lib.hid (And.intro b1 (And.intro k1 (And.intro hgr hw1)))
 have HL := Lib.hid (And.intro hnq hvs)
 have swr : IntKind.i64.wrap (gv + 1) = gv + 1 := IntWalk.i64_in _ (by omega)
 clear h b1 k1 hgr hw1 hnq hvs hnq2 r1 r2 r3 hg
 go_enter Tryz.func19, Tryz.ntmps19
 go_wp2_with fail
 rw [← H.out.2.2.2, ← H.out.2.2.1]
 refine wp_region_invX (F := ?FI) (V := VIm x w1.heap.size nq gv vs) (par := fun i => if i = 12 then 11 else i) (dead := fun i => if i = 11 then some 12 else none) (T := fun _ _ => True) (C := fun u => Below w1.heap.size w1 u) (E := EIm w1.heap.size) (by kernel_rfl) (by kernel_rfl) (by kernel_rfl) (fun y => ?hFI) (fun i _ => by by_cases h : i = 12; (subst h; exact .inr (by kernel_rfl)); exact .inl (if_neg h)) ?hmonoI ?hTmI ?hTI ?hCI ?stepI ?finI
 case hFI => simp only [mkA, Act.put, List.setIfInBounds_toArray, List.set_cons_succ, List.set_cons_zero, Nat.reduceAdd, Nat.zero_add]; first | with_reducible rfl | rfl
 case hmonoI => exact fun q' i v p u u' he hik hwt hdd hv => VIm.mono he hik (fun hh => hdd (by rw [hh.1, hh.2]; rfl)) hv
 case hTmI => exact fun _ _ _ _ _ _ _ _ => trivial
 case hTI => exact fun j => trivial
 case hCI => exact (Below.refl _ _).drew
 case stepI =>
  refine AllOps.cons (fun y u hC hT hp K hK => ?_) ?_
  ·clear hp hT
   go_simp
   refine hK _ _ _ hC (Below.refl _ _) (by exact rfl) ?_
   first | (simp only [Act.put, List.setIfInBounds_toArray, List.set_cons_succ, List.set_cons_zero]; done) | simp [Act.put]
  refine AllOps.cons (fun y u hC hT hp K hK => ?_) ?_
  ·simp [KnownTill, Region.binds, VIm] at hp
   clear hT
   go_simp
   refine hK _ _ _ hC (Below.refl _ _) (by exact rfl) ?_
   first | (simp only [Act.put, List.setIfInBounds_toArray, List.set_cons_succ, List.set_cons_zero, hp]; done) | simp [Act.put, hp]
  refine AllOps.cons (fun y u hC hT hp K hK => ?_) ?_
  ·simp [KnownTill, Region.binds, VIm] at hp
   clear hT
   go_simp
   refine hK _ _ _ hC (Below.refl _ _) (by exact rfl) ?_
   first | (simp only [Act.put, List.setIfInBounds_toArray, List.set_cons_succ, List.set_cons_zero, hp]; done) | simp [Act.put, hp]
  refine AllOps.cons (fun y u hC hT hp K hK => ?_) ?_
  ·simp [KnownTill, Region.binds, VIm] at hp
   clear hT
   go_simp
   refine (HVals.out u hC).mono ?_
   rintro e uA ⟨A, c, rfl, hO, hbA⟩
   refine hK _ _ _ (bt hC hbA) hbA ⟨A, c, rfl, hO⟩ ?_
   first | (simp only [Act.put, List.setIfInBounds_toArray, List.set_cons_succ, List.set_cons_zero, hp]; done) | simp [Act.put, hp]
  refine AllOps.cons (fun y u hC hT hp K hK => ?_) ?_
  ·clear hp hT
   go_simp
   refine hK _ _ _ hC (Below.refl _ _) (by exact rfl) ?_
   first | (simp only [Act.put, List.setIfInBounds_toArray, List.set_cons_succ, List.set_cons_zero]; done) | simp [Act.put]
  refine AllOps.cons (fun y u hC hT hp K hK => ?_) ?_
  ·simp [KnownTill, Region.binds, VIm] at hp
   clear hT
   go_simp
   refine hK _ _ _ hC (Below.refl _ _) (by exact rfl) ?_
   first | (simp only [Act.put, List.setIfInBounds_toArray, List.set_cons_succ, List.set_cons_zero, hp]; done) | simp [Act.put, hp]
  refine AllOps.cons (fun y u hC hT hp K hK => ?_) ?_
  ·simp [KnownTill, Region.binds, VIm] at hp
   clear hT
   go_simp
   refine hK _ _ _ hC (Below.refl _ _) (by exact rfl) ?_
   first | (simp only [Act.put, List.setIfInBounds_toArray, List.set_cons_succ, List.set_cons_zero, hp]; done) | simp [Act.put, hp]
  refine AllOps.cons (fun y u hC hT hp K hK => ?_) ?_
  ·simp [KnownTill, Region.binds, VIm] at hp
   clear hT
   go_simp
   refine hK _ _ _ hC (Below.refl _ _) (by exact rfl) ?_
   first | (simp only [Act.put, List.setIfInBounds_toArray, List.set_cons_succ, List.set_cons_zero, hp]; done) | simp [Act.put, hp]
  refine AllOps.cons (fun y u hC hT hp K hK => ?_) ?_
  ·simp [KnownTill, Region.binds, VIm] at hp
   clear hT
   have ck := HK.out u hC
   go_simp
   refine hK _ _ _ hC (Below.refl _ _) (by exact rfl) ?_
   first | (simp only [Act.put, List.setIfInBounds_toArray, List.set_cons_succ, List.set_cons_zero, hp]; done) | simp [Act.put, hp]
  refine AllOps.cons (fun y u hC hT hp K hK => ?_) ?_
  ·simp [KnownTill, Region.binds, VIm] at hp
   clear hT
   go_simp
   refine hK _ _ _ hC (Below.refl _ _) (by exact rfl) ?_
   first | (simp only [Act.put, List.setIfInBounds_toArray, List.set_cons_succ, List.set_cons_zero, hp]; done) | simp [Act.put, hp]
  refine AllOps.cons (fun y u hC hT hp K hK => ?_) ?_
  ·simp [KnownTill, Region.binds, VIm] at hp
   clear hT
   obtain ⟨⟨A, c, e3, hO⟩, e9⟩ : IsOu u w1.heap.size nq vs (y 3) ∧ y 9 = .int .i64 (gv + 1) := by first | exact hp | exact ⟨hp.1, hp.2⟩ | exact ⟨hp.1, hp.2.1⟩ | exact ⟨hp.2.1, hp.2.2⟩
   simp only [e3, e9]
   go_simp
   refine hK _ _ _ hC (Below.refl _ _) ⟨_, rfl, A, c, rfl, hO⟩ ?_
   first | (simp only [Act.put, List.setIfInBounds_toArray, List.set_cons_succ, List.set_cons_zero, e3, e9]; done) | simp [Act.put, e3, e9]
  refine AllOps.cons (fun y u hC hT hp K hK => ?_) ?_
  ·clear hp hT
   go_simp
   refine hK _ _ _ (bt hC (ba u (.cells #[.slice none 0 0, .slice none 0 0, .int .i64 0] 54))) (ba u (.cells #[.slice none 0 0, .slice none 0 0, .int .i64 0] 54)) ⟨u.heap.size, rfl, hC.size, Blk.new u _ _⟩ ?_
   first | (simp only [Act.put, List.setIfInBounds_toArray, List.set_cons_succ, List.set_cons_zero]; done) | simp [Act.put]
  refine AllOps.cons (fun y u hC hT hp K hK => ?_) ?_
  ·simp [KnownTill, Region.binds, VIm] at hp
   clear hT
   obtain ⟨b, e11, hbl, kz⟩ : NewI u w1.heap.size (y 11) #[.slice none 0 0, .slice none 0 0, .int .i64 0] := by first | exact hp.1 | exact hp.2.1 | exact hp.2 | exact hp.2.2
   obtain ⟨s, e10, hs⟩ : ∃ s, y 10 = .agg #[.slice none 0 0, s, .int .i64 (gv + 1)] ∧ IsOu u w1.heap.size nq vs s := by first | exact hp.1 | exact hp.2.1 | exact hp.2 | exact hp.2.2
   clear hp
   obtain ⟨A9, c9, rfl, hs⟩ := hs
   have s0 := kz.cell 0
   have s1 := kz.cell 1
   have s2 := kz.cell 2
   have f3 := kz.frozen
   simp only [List.getElem?_toArray, List.getElem?_cons_zero, List.getElem?_cons_succ] at s0 s1 s2
   have kf := ((kz.set_ 0 (.slice none 0 0)).set_ 1 (.slice A9 nq c9)).set_ 2 (.int .i64 (gv + 1))
   simp only [List.setIfInBounds_toArray, List.set_cons_succ, List.set_cons_zero] at kf
   have hgr := ((lgrown_set u ⟨b, 0, none⟩ (.slice none 0 0)).trans (lgrown_set _ ⟨b, 1, none⟩ (.slice A9 nq c9))).trans (lgrown_set _ ⟨b, 2, none⟩ (.int .i64 (gv + 1)))
   have HF := Lib.hid (And.intro kf (And.intro hgr (And.intro kz hs)))
   clear kf hgr kz hs
   simp only [e10, e11]
   go_simp
   refine hK undef _ _ (hC.grown HF.out.2.1 hC.size (fun r e => by cases e; exact hbl)) ⟨b, _, hbl, HF.out.2.2.1, HF.out.2.1⟩ ⟨_, ⟨b, e11, hbl, HF.out.1⟩, IsOu.mono (q := 12) (B2 := w1.heap.size) ⟨b, _, hbl, HF.out.2.2.1, HF.out.2.1⟩ ⟨A9, c9, rfl, HF.out.2.2.2⟩⟩ ?_
   simp [Act.put, e10, e11]
  exact AllOps.nil
 case finI =>
  intro y u hC hV
  obtain ⟨s, ⟨go, hgo, hgl, kgo⟩, A', c', rfl, hou⟩ : ∃ s, NewI u w1.heap.size (y 11) #[.slice none 0 0, s, .int .i64 (gv + 1)] ∧ IsOu u w1.heap.size nq vs s := hV 12 (by decide) rfl
  rw [hgo]
  obtain ⟨B2, hB2⟩ : ∃ B2, B2 = u.heap.size := ⟨_, rfl⟩
  have hI0 : DI w u gr go B2 A' nq c' (gv + 1) vs none 0 (docP P 0) := by
   have hs1 := H.out.1.size
   have hlt := H.out.2.1.lt
   have hz := hC.size
   refine ⟨bt H.out.1 hC, H.out.2.1.below hC hlt, kgo, World.ownsRow_nil _ _ _ _, hou.less hs1, ⟨by rw [hB2]; exact Nat.lt_of_lt_of_le hlt hz, by rw [hB2]; exact kgo.lt, Nat.le_of_eq hB2⟩, ⟨by omega, by rw [H.out.2.2.1]; exact Nat.le_refl _, Nat.le_trans hs1 hgl, by omega⟩⟩
  have HI : Hid (Below w1.heap.size w1 u ∧ ∃ A2 c2, DI w u gr go B2 A' nq c' (gv + 1) vs A2 c2 (docP P 0)) := Lib.hid ⟨hC, none, 0, hI0⟩
  clear hI0 hC hV hgo hgl kgo hou hB2
  go_wp2_with fail
  go_loopw [4] (fun iv wr => ∃ j : Nat, j ≤ 16 ∧ iv = .int .i64 j ∧ Hid (Below w1.heap.size w1 wr ∧ ∃ A2 c2, DI w wr gr go B2 A' nq c' (gv + 1) vs A2 c2 (docP P j))) (fun iv _ => 16 - (intOf iv).toNat)
  case atStart => exact ⟨0, Nat.zero_le _, rfl, HI⟩
  case round =>
   clear HI
   obtain ⟨j, hj, rfl, HR⟩ := hrel
   obtain ⟨hb1, A2, c2, hr⟩ := HR.out
   by_cases hjn : j < 16
   ·have hjI : (j : Int) < 16 := by omega
    have hV := Lib.hid (HV.out j wr hb1)
    obtain ⟨xv, hxv⟩ : ∃ xv, xv = valP P j := ⟨_, rfl⟩
    have HS : Hid (docP P (j + 1) = docP P j ++ if xv.2 = true then [((j : Int), xv.1)] else []) := Lib.hid (by rw [hxv]; rfl)
    rw [← hxv] at hV
    clear hxv
    obtain ⟨yv, yt⟩ := xv
    dsimp only at hV HS
    cases yt with
    | false =>
     have HX : Hid (Below w1.heap.size w1 wr ∧ ∃ A2 c2, DI w wr gr go B2 A' nq c' (gv + 1) vs A2 c2 (docP P (j + 1))) := Lib.hid (by rw [HS.out]; simpa using HR.out)
     clear HR hr hb1
     go_wp2_with fail
     refine hV.out.mono ?_
     rintro e w2 ⟨rfl, rfl⟩
     go_wp2
     go_roundw
     case rel => exact ⟨j + 1, by omega, by go_num, HX⟩
     case measure => simp [intOf]; omega
    | true =>
     have hjl : (docP P j).length ≤ 1000 := Nat.le_trans (docP_len P j) (by omega)
     obtain ⟨A3, c3, w4, hrun, e3, f3, h4⟩ := hr.more hjl j yv
     have hb4 : Below w1.heap.size w1 (w4.setCell ⟨go, 0, none⟩ (.slice A3 ((docP P j).length + 1) c3)) := by
      have e1 : w1.heap.size = gr + 1 := by rw [H.out.2.2.2, H.out.2.2.1]; simp
      have hs4 := h4.be
      have hgr := h4.kr
      refine ⟨h4.be.os.trans H.out.1.os.symm, h4.be.tape.trans H.out.1.tape.symm, h4.be.output.trans H.out.1.output.symm, by have := h4.kr.lt; omega, fun k hk => ?_⟩
      by_cases e : k = gr
      ·subst e
       have := H.out.2.1
       unfold Blk at this hgr
       rw [this]; exact hgr
      ·have hkw : k < w.heap.size := by rw [← H.out.2.2.1]; omega
       exact (h4.be.block k hkw).trans (H.out.1.block k hkw).symm
     have HX : Hid (Below w1.heap.size w1 (w4.setCell ⟨go, 0, none⟩ (.slice A3 ((docP P j).length + 1) c3)) ∧ ∃ A2 c2, DI w (w4.setCell ⟨go, 0, none⟩ (.slice A3 ((docP P j).length + 1) c3)) gr go B2 A' nq c' (gv + 1) vs A2 c2 (docP P (j + 1))) := Lib.hid ⟨hb4, A3, c3, by rw [HS.out, if_pos rfl]; exact h4⟩
     have e0 := hr.ko.cell 0
     have e2 := (hr.below (ba _ (.cells #[.int .i64 j, .int .u64 (yv : Nat)] 114))).ko.cell 0
     simp only [List.getElem?_toArray, List.getElem?_cons_zero] at e0 e2
     generalize (docP P j).length = dl at hrun e3 h4 hb4 HX e0 e2
     clear hb1 hr HR hjl h4 hb4 HS
     go_wp2_with fail
     refine hV.out.mono ?_
     rintro e w2 ⟨rfl, rfl⟩
     go_wp2_with (at_builtin; refine wpList_append_run rfl (.tmp 32) (.tmp 36) 26 rfl _ _ _ w4 rfl rfl hrun ?_)
     go_roundw
     case rel => exact ⟨j + 1, by omega, by go_num, HX⟩
     case measure => simp [intOf]; omega
   ·have hjI : ¬ (j : Int) < 16 := by omega
    have hj16 : j = 16 := by omega
    subst hj16
    obtain ⟨q, hq⟩ : ∃ q, q = (docP P 16).length := ⟨_, rfl⟩
    have o0 := hr.ko.cell 0
    have o1 := hr.ko.cell 1
    have o2 := hr.ko.cell 2
    have g0 := hr.kr.cell 0
    have g1 := hr.kr.cell 1
    have g2 := hr.kr.cell 2
    have f3 := hr.kr.frozen
    simp only [List.getElem?_toArray, List.getElem?_cons_zero, List.getElem?_cons_succ] at o0 o1 o2 g0 g1 g2
    rw [← hq] at o0
    have kf := ((hr.kr.set_ 0 (.slice A2 q c2)).set_ 1 (.slice A' nq c')).set_ 2 (.int .i64 (gv + 1))
    have r0 := kf.cell 0
    have r1 := kf.cell 1
    have r2 := kf.cell 2
    simp only [List.setIfInBounds_toArray, List.set_cons_succ, List.set_cons_zero, List.getElem?_toArray, List.getElem?_cons_zero, List.getElem?_cons_succ] at r0 r1 r2
    have hg := ((lgrown_set wr ⟨gr, 0, none⟩ (.slice A2 q c2)).trans (lgrown_set _ ⟨gr, 1, none⟩ (.slice A' nq c'))).trans (lgrown_set _ ⟨gr, 2, none⟩ (.int .i64 (gv + 1)))
    have HX := Lib.hid (And.intro (Re.DocAt.mk (A := A2) (A' := A') hq HL.out.1 (Re.OwnPr.in_ (own_kept hr.own hr.kr (by decide) hg)) (ou_kept hr.u hg hr.kr).at_) (hr.be.grown hg hr.be.size (fun r e => by cases e; exact hr.ne.2.1)))
    rw [HL.out.2] at HX
    clear hb1 hr HR kf hg hq
    go_wp2
    refine bodyPost_ret (by simp [results, Tryz.results19, go_sem, r0, r1, r2]; try rfl) rfl ?_
    exact ⟨A2, q, c2, A', nq, ⟨c', rfl⟩, HX⟩
end Go.Proofs.YtlliaihmfimdoaaGreat.Dr


namespace Go.Proofs.YtlliaihmfimdoaaGreat.Dr
open Go.RowKit Go.Maps Go.Joins Go.Deep Go.Proofs.YtlliaihmfimdoaaGreat
set_option linter.unusedVariables false
set_option linter.unusedSimpArgs false
theorem kprep_B (S : KS) (n : Int) : (prepM S n).2.B = S.B := by
 unfold prepM; split
 ·rfl
 ·split
  ·rfl
  ·split <;> rfl
theorem krest_B (S : KS) (n : Int) (l : List Ch) : (restoreM S n l).2.B = S.B := by
 unfold restoreM; split
 ·rfl
 ·split
  ·rfl
  ·split
   ·rfl
   ·split <;> rfl
theorem hold_KQ (S : Re.RS) (n : Int) (q : Nat) : (Re.holdR S n q).K = S.K ∧ (Re.holdR S n q).Q = S.Q := by unfold Re.holdR; split <;> exact ⟨rfl, rfl⟩
theorem callR_B (S : Re.RS) (o : OpV) : (Re.callR S o).2.K.B = S.K.B ∧ (Re.callR S o).2.Q.B = S.Q.B := by
 unfold Re.callR
 split
 ·unfold Re.getR; split
  ·exact ⟨rfl, rfl⟩
  ·exact ⟨getM_B _ _ _, rfl⟩
 split
 ·unfold Re.putR; split
  ·exact ⟨rfl, rfl⟩
  ·exact ⟨changeM_B _ _ _, rfl⟩
 split
 ·unfold Re.delR; split
  ·exact ⟨rfl, rfl⟩
  ·exact ⟨changeM_B _ _ _, rfl⟩
 split
 ·unfold Re.pushR; split
  ·exact ⟨rfl, rfl⟩
  ·exact ⟨rfl, Qu.putM_B _ _ _⟩
 split
 ·unfold Re.popR; split
  ·exact ⟨rfl, rfl⟩
  ·exact ⟨rfl, Qu.takeM_B _ _⟩
 split
 ·unfold Re.prepR; split
  ·exact ⟨rfl, rfl⟩
  ·dsimp only
   rw [(hold_KQ _ _ _).1, (hold_KQ _ _ _).2]
   exact ⟨kprep_B _ _, Qu.prepM_B' _ _⟩
 split
 ·unfold Re.commitR; split
  ·exact ⟨rfl, rfl⟩
  ·exact ⟨commitM_B _ _, Qu.commitM_B _ _⟩
 split
 ·unfold Re.backR; split
  ·exact ⟨rfl, rfl⟩
  ·exact ⟨backoutM_B _ _, Qu.backM_B _ _⟩
 split
 ·unfold Re.restoreR; split
  ·exact ⟨rfl, rfl⟩
  ·split
   ·exact ⟨rfl, rfl⟩
   ·split
    ·exact ⟨krest_B _ _ _, rfl⟩
    ·split
     ·exact ⟨(backoutM_B _ _).trans (krest_B _ _ _), Qu.restM_B _ _ _⟩
     ·dsimp only
      rw [(hold_KQ _ _ _).1, (hold_KQ _ _ _).2]
      exact ⟨krest_B _ _ _, Qu.restM_B _ _ _⟩
 ·exact ⟨rfl, rfl⟩
theorem callR_good {S : Re.RS} (h : Qu.QGood S.Q) (o : OpV) : Qu.QGood (Re.callR S o).2.Q := by
 have gput : ∀ n v, Qu.QGood (Qu.putM S.Q n v).2 := fun n v => h.call ⟨0, n, 0, v, none, [], 0, none, [], 0⟩
 have gtake : ∀ n, Qu.QGood (Qu.takeM S.Q n).2 := fun n => h.call ⟨1, n, 0, 0, none, [], 0, none, [], 0⟩
 have gprep : ∀ n, Qu.QGood (Qu.prepM S.Q n).2 := fun n => h.call ⟨2, n, 0, 0, none, [], 0, none, [], 0⟩
 have gcom : ∀ n, Qu.QGood (Qu.commitM S.Q n).2 := fun n => h.call ⟨3, n, 0, 0, none, [], 0, none, [], 0⟩
 have gback : ∀ n, Qu.QGood (Qu.backM S.Q n).2 := fun n => h.call ⟨4, n, 0, 0, none, [], 0, none, [], 0⟩
 have grest : ∀ n l, Qu.QGood (Qu.restM S.Q n l).2 := fun n l => h.call ⟨5, n, 0, 0, none, l, 0, none, [], 0⟩
 unfold Re.callR
 split
 ·unfold Re.getR; split <;> exact h
 split
 ·unfold Re.putR; split <;> exact h
 split
 ·unfold Re.delR; split <;> exact h
 split
 ·unfold Re.pushR; split
  ·exact h
  ·exact gput _ _
 split
 ·unfold Re.popR; split
  ·exact h
  ·exact gtake _
 split
 ·unfold Re.prepR; split
  ·exact h
  ·dsimp only
   rw [(hold_KQ _ _ _).2]
   exact gprep _
 split
 ·unfold Re.commitR; split
  ·exact h
  ·exact gcom _
 split
 ·unfold Re.backR; split
  ·exact h
  ·exact gback _
 split
 ·unfold Re.restoreR; split
  ·exact h
  ·split
   ·exact h
   ·split
    ·exact h
    ·split
     ·exact grest _ _
     ·dsimp only
      rw [(hold_KQ _ _ _).2]
      exact grest _ _
 ·exact h
def LQ (S : Qu.QS) (M : Nat) : Prop := ∀ y ∈ S.ws, y.l.length ≤ M
theorem LQ.more {S : Qu.QS} {M M' : Nat} (h : LQ S M) (hM : M ≤ M') : LQ S M' := fun y hy => Nat.le_trans (h y hy) hM
theorem LQ.lay {S : Qu.QS} {M : Nat} (h : LQ S M) {n : Int} {l : List Ch} {p : Bool} (hl : l.length ≤ M) : ∀ y ∈ Qu.layQ S.ws n l p, y.l.length ≤ M := by
 unfold Qu.layQ
 split
 ·intro y hy
  obtain ⟨z, hz, rfl⟩ := List.mem_map.1 hy
  split
  ·exact hl
  ·exact h z hz
 ·intro y hy
  rcases List.mem_append.1 hy with hy | hy
  ·exact h y hy
  ·rw [List.mem_singleton] at hy; subst hy; exact hl
theorem LQ.cur {S : Qu.QS} {M : Nat} (h : LQ S M) (n : Int) : (Qu.curQ S.ws n).1.length ≤ M := by
 unfold Qu.curQ Qu.lookQ
 rcases hf : Qu.findQ S.ws n with _ | z
 ·exact Nat.zero_le _
 ·exact h z (Qu.findQ_mem hf).1
theorem LQ.add {S : Qu.QS} {M : Nat} (h : LQ S M) (n : Int) (c : Ch) : ∀ y ∈ Qu.addQ S.ws n c, y.l.length ≤ M + 1 := by
 unfold Qu.addQ
 exact (h.more (Nat.le_succ M)).lay (by rw [List.length_append]; have := h.cur n; simp; omega)
theorem LQ.others {S : Qu.QS} {M : Nat} (h : LQ S M) (n : Int) : ∀ y ∈ Qu.othersQ S.ws n, y.l.length ≤ M + 1 := fun y hy => Nat.le_succ_of_le (h y (List.mem_filter.1 hy).1)
theorem callR_lq {S : Re.RS} {M : Nat} (h : LQ S.Q M) (hM : 40 ≤ M) (o : OpV) (hl : o.l.length ≤ 40) : LQ (Re.callR S o).2.Q (M + 1) := by
 have h' := h.more (Nat.le_succ M)
 have gput : ∀ n v, LQ (Qu.putM S.Q n v).2 (M + 1) := fun n v => by
  unfold Qu.putM
  split
  ·exact h'
  ·split
   ·exact h'
   ·exact h.add _ _
 have gtake : ∀ n, LQ (Qu.takeM S.Q n).2 (M + 1) := fun n => by
  unfold Qu.takeM
  split
  ·exact h'
  ·split
   ·exact h'
   ·split
    ·exact h.add _ _
    ·exact h'
 have gprep : ∀ n, LQ (Qu.prepM S.Q n).2 (M + 1) := fun n => by
  unfold Qu.prepM
  split
  ·exact h'
  ·split
   ·exact h'
   ·exact h'.lay (Nat.le_succ_of_le (h.cur n))
 have gcom : ∀ n, LQ (Qu.commitM S.Q n).2 (M + 1) := fun n => by
  unfold Qu.commitM
  split
  ·exact h'
  ·exact h.others _
 have gback : ∀ n, LQ (Qu.backM S.Q n).2 (M + 1) := fun n => by
  unfold Qu.backM
  split
  ·exact h'
  ·exact h.others _
 have grest : ∀ n l, l.length ≤ 40 → LQ (Qu.restM S.Q n l).2 (M + 1) := fun n l hl => by
  unfold Qu.restM
  split
  ·exact h'
  ·split
   ·exact h'
   ·split
    ·exact h'
    ·split
     ·exact h'
     ·split
      ·exact h'
      ·exact h'.lay (by omega)
 unfold Re.callR
 split
 ·unfold Re.getR; split <;> exact h'
 split
 ·unfold Re.putR; split <;> exact h'
 split
 ·unfold Re.delR; split <;> exact h'
 split
 ·unfold Re.pushR; split
  ·exact h'
  ·exact gput _ _
 split
 ·unfold Re.popR; split
  ·exact h'
  ·exact gtake _
 split
 ·unfold Re.prepR; split
  ·exact h'
  ·dsimp only
   rw [(hold_KQ _ _ _).2]
   exact gprep _
 split
 ·unfold Re.commitR; split
  ·exact h'
  ·exact gcom _
 split
 ·unfold Re.backR; split
  ·exact h'
  ·exact gback _
 split
 ·have hd : (o.l.drop (Re.endK o.l)).length ≤ 40 := by rw [List.length_drop]; omega
  unfold Re.restoreR; split
  ·exact h'
  ·split
   ·exact h'
   ·split
    ·exact h'
    ·split
     ·exact grest _ _ hd
     ·dsimp only
      rw [(hold_KQ _ _ _).2]
      exact grest _ _ hd
 ·exact h'
def bas (S : Re.RS) (B1 B2 : Nat → Prop) : Re.RS := ⟨{ S.K with B := B1 }, { S.Q with B := B2 }, S.pr⟩
theorem DRel.bas {S : Re.RS} {P : PL} {ws : List WI} {Q : PL} {qs : List Qu.WI} {gv : Int} (h : DRel S P ws Q qs gv) (B1 B2 : Nat → Prop) : DRel (bas S B1 B2) P ws Q qs gv :=
 ⟨⟨h.K.V, h.K.P, h.K.ok, h.K.nc, h.K.no, h.K.yes, h.K.ll⟩, ⟨h.Q.I, h.Q.g, h.Q.w⟩, h.pr⟩
structure LvAt (w u : World) (g x : Nat) (S : Re.RS) (P : PL) (ws : List WI) (Q : PL) (qs : List Qu.WI) (gv : Int) (N j : Nat) : Prop where
 ra : ∃ cs, Re.ResAt u g cs S N
 dr : DR u w.heap.size x P ws S.K.L Q qs gv
 rl : DRel S P ws Q qs gv
 gd : Qu.QGood S.Q
 ne : ∀ y ∈ qs, y.l ≠ []
 be : Below w.heap.size w u
 gx : w.heap.size ≤ g ∧ w.heap.size ≤ x
 b1 : ∀ b, S.K.B b → ¬ Ours ws qs b
 b2 : ∀ b, S.Q.B b → ¬ Ours ws qs b
 b3 : ∀ b, u.heap.size ≤ b → S.K.B b ∧ S.Q.B b
 ln : ws.length ≤ j ∧ qs.length ≤ j
 lq : LQ S.Q (40 + j)
section
variable {w u : World} {g x : Nat} {S : Re.RS} {P : PL} {ws : List WI} {Q : PL} {qs : List Qu.WI} {gv : Int} {N j : Nat}
theorem LvAt.below {u' : World} (h : LvAt w u g x S P ws Q qs gv N j) (hb : Below u.heap.size u u') : LvAt w u' g x S P ws Q qs gv N j :=
 ⟨h.ra.elim fun cs hk => ⟨cs, hk.below hb⟩, h.dr.below hb, h.rl, h.gd, h.ne, bt h.be hb, h.gx, h.b1, h.b2, fun b hle => h.b3 b (Nat.le_trans hb.size hle), h.ln, h.lq⟩
theorem LvAt.mh (h : LvAt w u g x S P ws Q qs gv N j) (hj : j < 100) {u' : World} (hd : DR u' w.heap.size x P ws S.K.L Q qs gv) (hs : w.heap.size ≤ u'.heap.size) : MH u' w.heap.size x S P ws Q qs gv := by
 have h1 := h.gd.ok.room
 have h2 := h.gd.ok.last
 have h3 := h.gd.ok.g0
 have h4 := h.rl.Q.g
 refine ⟨hd, h.rl, h.gd, h.ne, hs, by have := h.ln.1; omega, by have := h.ln.2; omega, by omega, fun y hy => ?_, fun n z hf => ?_⟩
 ·have := h.lq (Qu.wq y) (by rw [h.rl.Q.w]; exact List.mem_map_of_mem hy)
  have e : (Qu.wq y).l = y.l := rfl
  rw [e] at this
  omega
 ·have hc := h.rl.Q.cur hf
  have hp := Qu.putsW_others S.Q.ws n h.gd.nd
  rw [hc] at hp
  dsimp only at hp
  have hl := h.rl.Q.len
  omega
theorem LvAt.our_lt (h : LvAt w u g x S P ws Q qs gv N j) {r : Nat} (hr : Ours ws qs r) : r < u.heap.size := by
 obtain ⟨a, b, c, d, e, k1, k2, k3⟩ := h.dr.ex
 rcases hr with ⟨y, hy, e⟩ | ⟨y, hy, e⟩
 ·exact ((k1.wk y hy).2.2.lt' r e).2
 ·exact ((k2.wk y hy).2.2.lt' r e).2
end
def TellV (u : World) (B : Nat) (r : Nat × Bool × List Ch × Int) (v : Value) : Prop := ∃ A q c, v = .agg #[.int .u64 (r.1 : Nat), .bool r.2.1, .slice A q c, .int .i64 r.2.2.2] ∧ q = r.2.2.1.length ∧ OwnC u B A c r.2.2.1
theorem TellV.below {u u' : World} {B : Nat} {r : Nat × Bool × List Ch × Int} {v : Value} (h : TellV u B r v) (hb : Below u.heap.size u u') : TellV u' B r v := by
 obtain ⟨A, q, c, e, hq, ho⟩ := h
 exact ⟨A, q, c, e, hq, own_same ho (fun r hr _ _ => hb.block r hr)⟩
def ImgV (u : World) (P : List (Int × Nat)) (vs : List Nat) (nx : Int) (v : Value) : Prop := ∃ B A q c A' q' c', v = .agg #[.slice A q c, .slice A' q' c', .int .i64 nx] ∧ Re.ImgAt u B A q c A' q' c' P vs
def DocV (u : World) (P : List (Int × Nat)) (vs : List Nat) (nx : Int) (v : Value) : Prop := ∃ A q c A' q' c', v = .agg #[.slice A q c, .slice A' q' c', .int .i64 nx] ∧ Re.DocAt u A q A' q' P vs
theorem ImgV.below {u u' : World} {P : List (Int × Nat)} {vs : List Nat} {nx : Int} {v : Value} (h : ImgV u P vs nx v) (hb : Below u.heap.size u u') : ImgV u' P vs nx v := by
 obtain ⟨B, A, q, c, A', q', c', e, h⟩ := h
 exact ⟨B, A, q, c, A', q', c', e, h.below hb⟩
theorem DocV.below {u u' : World} {P : List (Int × Nat)} {vs : List Nat} {nx : Int} {v : Value} (h : DocV u P vs nx v) (hb : Below u.heap.size u u') : DocV u' P vs nx v := by
 obtain ⟨A, q, c, A', q', c', e, h⟩ := h
 exact ⟨A, q, c, A', q', c', e, h.below hb⟩
set_option maxRecDepth 100000 in
set_option maxHeartbeats 1000000 in
theorem same15_any (V : Nat) (t : Bool) (er : Int) (l : List Ch) (A A' : Option Addr) (q c c' : Nat) {B B' : Nat → Prop} (w : World) (hq : Hid (q = l.length)) (hm : q ≤ 1000000) (h : ChAt w B A l) (h' : ChAt w B' A' l) : Calls Tryz.prog 11 #[.agg #[.int .u64 (V : Nat), .bool t, .slice A q c, .int .i64 er], .agg #[.int .u64 (V : Nat), .bool t, .slice A' q c', .int .i64 er]] w fun e w' => e = .returned (.bool true) ∧ Below w.heap.size w w' := by
 obtain ⟨w2, hw2⟩ : ∃ w2, w2 = (w.alloc (.cells #[.int .u64 (V : Nat), .bool t, .slice A q c, .int .i64 er] 47)).alloc (.cells #[.int .u64 (V : Nat), .bool t, .slice A' q c', .int .i64 er] 47) := ⟨_, rfl⟩
 have b2 : Below w.heap.size w w2 := by rw [hw2]; exact bt (ba _ _) (ba _ _)
 have ka : Blk w2 w.heap.size 47 #[.int .u64 (V : Nat), .bool t, .slice A q c, .int .i64 er] := by rw [hw2]; exact (Blk.new w _ _).below (ba _ _) (Blk.new w _ _).lt
 have kb : Blk w2 (w.heap.size + 1) 47 #[.int .u64 (V : Nat), .bool t, .slice A' q c', .int .i64 er] := by
  have := Blk.new (w.alloc (.cells #[.int .u64 (V : Nat), .bool t, .slice A q c, .int .i64 er] 47)) 47 #[.int .u64 (V : Nat), .bool t, .slice A' q c', .int .i64 er]
  rw [World.size_alloc] at this
  rw [hw2]; exact this
 have HS := Lib.hid (Re.samech_any A A' l q c c' w2 hq hm (h.below b2) (h'.below b2))
 have HK := Lib.hid (And.intro ka (And.intro kb b2))
 have HW := Lib.hid hw2
 clear ka kb b2 hw2 h h'
 have hVV : ((V : Int) == (V : Int)) = true := by simp
 have hee : (er == er) = true := by simp
 have htt : (t == t) = true := by simp
 go_enter Tryz.func11, Tryz.ntmps11
 go_wp2_with fail
 rw [← HW.out]
 refine HS.out.mono ?_
 rintro e w3 ⟨rfl, b3⟩
 obtain ⟨ka, kb, b2⟩ := HK.out
 have x3 := (ka.below b3 ka.lt).cell 3
 have y3 := (kb.below b3 kb.lt).cell 3
 simp only [List.getElem?_toArray, List.getElem?_cons_zero, List.getElem?_cons_succ] at x3 y3
 have HX := Lib.hid (bt b2 b3)
 clear ka kb b2 b3
 go_wp2
 go_ret
 exact ⟨by simp, HX.out⟩
theorem TellV.same {u : World} {B B' : Nat} {r : Nat × Bool × List Ch × Int} {a b : Value} (ha : TellV u B r a) (hb : TellV u B' r b) (hm : r.2.2.1.length ≤ 1000000) : Calls Tryz.prog 11 #[a, b] u fun e w' => e = .returned (.bool true) ∧ Below u.heap.size u w' := by
 obtain ⟨A, q, c, rfl, hq, ho⟩ := ha
 obtain ⟨A', q', c', rfl, hq', ho'⟩ := hb
 have e : q' = q := hq'.trans hq.symm
 subst e
 exact same15_any r.1 r.2.1 r.2.2.2 r.2.2.1 A A' q' c c' u (Lib.hid hq) (by omega) ho.at_ ho'.at_
end Go.Proofs.YtlliaihmfimdoaaGreat.Dr


namespace Go.Proofs.YtlliaihmfimdoaaGreat.Dr
open Go.RowKit Go.Maps Go.Joins Go.Deep Go.Proofs.YtlliaihmfimdoaaGreat
set_option linter.unusedVariables false
set_option linter.unusedSimpArgs false
def BW (w wr u : World) : Prop := Below w.heap.size w u ∧ wr.heap.size ≤ u.heap.size
theorem BW.below {w wr u u' : World} (h : BW w wr u) (hb : Below u.heap.size u u') : BW w wr u' := ⟨bt h.1 hb, Nat.le_trans h.2 hb.size⟩
structure RndF (w wr : World) (g x : Nat) (ov : Value) (on : Int) (bz : Bool) (O5 O11 FIN : World → Prop) (ST LST IMG DOC : World → Value → Prop) (EA EB : World → World → Prop) : Prop where
 o5 : O5 wr
 o11 : O11 wr
 mO5 : ∀ u u', O5 u → Below u.heap.size u u' → O5 u'
 mO11 : ∀ u u', O11 u → Below u.heap.size u u' → O11 u'
 mO11A : ∀ u u', O11 u → EA u u' → O11 u'
 mS : ∀ u u' v, ST u v → Below u.heap.size u u' → ST u' v
 mSB : ∀ u u' v, ST u v → EB u u' → ST u' v
 mL : ∀ u u' v, LST u v → Below u.heap.size u u' → LST u' v
 mF : ∀ u u', FIN u → Below u.heap.size u u' → FIN u'
 mI : ∀ u u' v, IMG u v → Below u.heap.size u u' → IMG u' v
 mD : ∀ u u' v, DOC u v → Below u.heap.size u u' → DOC u' v
 call : ∀ u, BW w wr u → O5 u → Calls Tryz.prog 12 #[.pointer (some ⟨g, 0, none⟩), ov] u fun e u' => ∃ v, e = .returned v ∧ ST u' v ∧ BW w wr u' ∧ EA u u'
 mod : ∀ u v5, BW w wr u → O11 u → ST u v5 → Calls Tryz.prog 13 #[.pointer (some ⟨x, 0, none⟩), ov] u fun e u' => ∃ v, e = .returned v ∧ LST u' v ∧ FIN u' ∧ BW w wr u' ∧ EB u u'
 same : ∀ u a b, ST u a → LST u b → Calls Tryz.prog 11 #[a, b] u fun e u' => e = .returned (.bool true) ∧ Below u.heap.size u u'
 busy : ∀ u, FIN u → Calls Tryz.prog 14 #[.pointer (some ⟨g, 0, none⟩), .int .i64 on] u fun e u' => e = .returned (.bool bz) ∧ Below u.heap.size u u'
 dbusy : ∀ u, FIN u → Calls Tryz.prog 15 #[.pointer (some ⟨x, 0, none⟩), .int .i64 on] u fun e u' => e = .returned (.bool bz) ∧ Below u.heap.size u u'
 img : ∀ u, FIN u → Calls Tryz.prog 18 #[.pointer (some ⟨g, 0, none⟩)] u fun e u' => ∃ v, e = .returned v ∧ IMG u' v ∧ Below u.heap.size u u'
 as_ : ∀ u v, IMG u v → Calls Tryz.prog 17 #[v] u fun e u' => ∃ v', e = .returned v' ∧ DOC u' v' ∧ Below u.heap.size u u'
 dimg : ∀ u, FIN u → Calls Tryz.prog 19 #[.pointer (some ⟨x, 0, none⟩)] u fun e u' => ∃ v, e = .returned v ∧ DOC u' v ∧ Below u.heap.size u u'
 sdoc : ∀ u a b, DOC u a → DOC u b → Calls Tryz.prog 16 #[a, b] u fun e u' => e = .returned (.bool true) ∧ Below u.heap.size u u'
theorem callR_len {w : World} {g N : Nat} {cs : Array Value} {S : Re.RS} (h : Re.ResAt w g cs S N) (o : OpV) : (Re.callR S o).1.2.2.1.length ≤ N + N := by
 unfold Re.callR
 split
 ·exact Nat.zero_le _
 split
 ·exact Nat.zero_le _
 split
 ·exact Nat.zero_le _
 split
 ·exact Nat.zero_le _
 split
 ·exact Nat.zero_le _
 split
 ·dsimp only
  unfold Re.prepR
  split
  ·exact Nat.zero_le _
  ·rw [List.length_append]
   exact Nat.add_le_add (Re.kprep_len h.kv o.n) (Re.qprep_len h.qu o.n)
 split
 ·exact Nat.zero_le _
 split
 ·exact Nat.zero_le _
 split
 ·exact Nat.zero_le _
 ·exact Nat.zero_le _
theorem TellV.rj {w u u' : World} {B x : Nat} {B0 : Nat} {r : Nat × Bool × List Ch × Int} {v : Value} {csx : Array Value} {T : Nat → Prop} (h : TellV u B r v) (hg : RJ B0 u u' x T) (hx : Blk u x 38 csx) (hT : ∀ k, T k → k < B) : TellV u' B r v := by
 obtain ⟨A, q, c, e, hq, ho⟩ := h
 refine ⟨A, q, c, e, hq, own_same ho (fun k hk ⟨cs, fz, ht⟩ hb => ?_)⟩
 exact cells_rj hg hx ht (by decide) ⟨by decide, by decide, by decide, by decide, by decide⟩ (fun _ hTk => by have := hT k hTk; have := (ho.lt' k hb).1; omega)
theorem bel_rj {w u u' : World} {x : Nat} {S : Nat → Prop} (hb : Below w.heap.size w u) (hg : RJ w.heap.size u u' x S) (hx : w.heap.size ≤ x) : Below w.heap.size w u' :=
 ⟨hg.os.trans hb.os, hg.tape.trans hb.tape, hg.output.trans hb.output, Nat.le_trans hb.size hg.size, fun j hj => (hg.low j hj (Nat.lt_of_lt_of_le hj hb.size) (by omega)).trans (hb.block j hj)⟩
set_option maxHeartbeats 1000000 in
theorem rnd {w wr : World} {g x : Nat} {S : Re.RS} {P : PL} {ws : List WI} {Q : PL} {qs : List Qu.WI} {gv : Int} {N j : Nat} (h : LvAt w wr g x S P ws Q qs gv N j) (hN : N < 190000) (hN2 : 39 ≤ N) (hj : j < 100) (o : OpV) (ho : OpOk o) (hcap : o.l.length ≤ o.c ∧ o.c ≤ 9223372036854775807) (hl : o.l.length ≤ 40) (hin : InL w o.A o.l) :
  ∃ bz O5 O11 FIN ST LST IMG DOC EA EB, RndF w wr g x o.val o.n bz O5 O11 FIN ST LST IMG DOC EA EB ∧ ∀ u, FIN u → ∃ S P ws Q qs gv, LvAt w u g x S P ws Q qs gv (N + 4) (j + 1) := by
 obtain ⟨R, hR⟩ : ∃ R, R = Re.callR S o := ⟨_, rfl⟩
 have hB := callR_B S o
 have hG := callR_good h.gd o
 have hL := callR_lq h.lq (by omega) o hl
 have hlen : R.1.2.2.1.length ≤ 1000000 := by
  obtain ⟨cs, hk⟩ := h.ra
  rw [hR]
  have := callR_len hk o
  omega
 rw [← hR] at hB hG hL
 have hPl : (Re.imP R.2.K 16).length ≤ 1000 := Nat.le_trans (Re.imP_len _ 16) (by omega)
 have hVl : (R.2.Q.I.map Qu.IT.v).length ≤ 1000 := by rw [List.length_map]; have := hG.ok.room; omega
 refine ⟨Re.busyR R.2 o.n, fun u => ∃ cs, Re.ResAt u g cs S N, fun u => DR u w.heap.size x P ws S.K.L Q qs gv,
  fun u => ∃ P' ws' Q' qs' gv', LvAt w u g x (bas R.2 (fun b => ¬ Ours ws' qs' b) (fun b => ¬ Ours ws' qs' b)) P' ws' Q' qs' gv' (N + 4) (j + 1),
  fun u v => TellV u wr.heap.size R.1 v ∧ ∃ K0 cs, K0 ≤ u.heap.size ∧ Re.ResAt u g cs (bas R.2 (fun b => S.K.B b ∧ b < K0) (fun b => S.Q.B b ∧ b < K0)) (N + 4),
  fun u v => TellV u wr.heap.size R.1 v, fun u v => ImgV u (Re.imP R.2.K 16) (R.2.Q.I.map Qu.IT.v) (R.2.Q.g + 1) v, fun u v => DocV u (Re.imP R.2.K 16) (R.2.Q.I.map Qu.IT.v) (R.2.Q.g + 1) v,
  fun u u' => u.grownBy u' (some g) ∧ ∃ cs, Blk u g 102 cs, fun u u' => (∃ cs, Blk u x 38 cs) ∧ RJ w.heap.size u u' x (Ours ws qs), ⟨h.ra, h.dr, ?_, ?_, ?_, ?_, ?_, ?_, ?_, ?_, ?_, ?_, ?_, ?_, ?_, ?_, ?_, ?_, ?_, ?_⟩, ?_⟩
 ·exact fun u u' ⟨cs, hk⟩ hb => ⟨cs, hk.below hb⟩
 ·exact fun u u' hk hb => hk.below hb
 ·exact fun u u' hk ⟨hg, cs, hb⟩ => hk.other hg hb Oth.res
 ·exact fun u u' v ⟨h1, K0, cs, h2, h3⟩ hb => ⟨h1.below hb, K0, cs, Nat.le_trans h2 hb.size, h3.below hb⟩
 ·exact fun u u' v ⟨h1, K0, cs, h2, h3⟩ ⟨⟨csx, hx⟩, hg⟩ => ⟨h1.rj (w := w) hg hx (fun k hk => h.our_lt hk), K0, cs, Nat.le_trans h2 hg.size, res_rj h3 hg hx (fun b hb => h.b1 b hb.1) (fun b hb => h.b2 b hb.1)⟩
 ·exact fun u u' v h1 hb => h1.below hb
 ·exact fun u u' ⟨P', ws', Q', qs', gv', h1⟩ hb => ⟨P', ws', Q', qs', gv', h1.below hb⟩
 ·exact fun u u' v h1 hb => h1.below hb
 ·exact fun u u' v h1 hb => h1.below hb
 ·rintro u hu ⟨cs, hk⟩
  refine (Re.call_any g cs S N o u hk (by omega) h.gd.ok ho.n ho.y hcap (fun _ => by omega) (fun _ u' hu' => Re.inl_offg hin hu.1 h.gx.1 hu') (fun b hb => (h.b3 b (Nat.le_trans hu.2 hb)).1) (fun b hb => (h.b3 b (Nat.le_trans hu.2 hb)).2)).mono ?_
  rintro e u' ⟨A, q, c, rfl, hq, hown, ⟨⟨cs', hk'⟩, hg⟩⟩
  rw [← hR] at hq hown hk' ⊢
  refine ⟨_, rfl, ⟨⟨A, q, c, rfl, hq, hown.less hu.2⟩, u'.heap.size, cs', Nat.le_refl _, ?_⟩, ⟨hu.1.grown hg hu.1.size (fun r e => by cases e; exact h.gx.1), Nat.le_trans hu.2 hg.size⟩, hg, _, hk.kv.bk⟩
  exact res_rebase hk' (fun b hb hlt => ⟨by rw [hB.1] at hb; exact hb, hlt⟩) (fun b hb hlt => ⟨by rw [hB.2] at hb; exact hb, hlt⟩)
 ·rintro u v5 hu hd ⟨_, K0, cs, hK0, hk⟩
  have hmh := h.mh hj hd hu.1.size
  refine (mdl_any o hmh ho.n (fun _ => by omega) (fun _ => hin.below hu.1)).mono ?_
  rintro e u' ⟨A, q, c, rfl, hq, hown, P', ws', Q', qs', gv', d1, d2, ⟨l1, l2, l3⟩, hj1, hnew⟩
  rw [← hR] at hq hown d1 d2 ⊢
  obtain ⟨a, b, c0, d, e, k1, k2, hx⟩ := hd.ex
  have hap : ∀ b, b < K0 → ¬ Ours ws qs b → ¬ Ours ws' qs' b := fun b hb hno hO => by
   rcases hnew b hO with h1 | h1
   ·exact hno h1
   ·omega
  refine ⟨_, rfl, ⟨A, q, c, rfl, hq, hown.less hu.2⟩, ⟨P', ws', Q', qs', gv', ?_⟩, ⟨bel_rj hu.1 hj1 h.gx.2, Nat.le_trans hu.2 hj1.size⟩, ⟨_, hx⟩, hj1⟩
  refine ⟨⟨cs, ?_⟩, d1, d2.bas _ _, hG.rebase, l3, bel_rj hu.1 hj1 h.gx.2, h.gx, fun b hb => hb, fun b hb => hb, fun b hb => ?_, ?_, ?_⟩
  ·exact res_rebase (res_rj hk hj1 hx (fun b hb => h.b1 b hb.1) (fun b hb => h.b2 b hb.1)) (fun b hb _ => hap b hb.2 (h.b1 b hb.1)) (fun b hb _ => hap b hb.2 (h.b2 b hb.1))
  ·have : ¬ Ours ws' qs' b := fun hO => by
    obtain ⟨a, b0, c0, d, e, k1, k2, k3⟩ := d1.ex
    rcases hO with ⟨y, hy, e⟩ | ⟨y, hy, e⟩
    ·have := ((k1.wk y hy).2.2.lt' b e).2; omega
    ·have := ((k2.wk y hy).2.2.lt' b e).2; omega
   exact ⟨this, this⟩
  ·have := h.ln
   exact ⟨by omega, by omega⟩
  ·exact fun y hy => by have := hL y hy; omega
 ·exact fun u a b h1 h2 => h1.1.same h2 hlen
 ·rintro u ⟨P', ws', Q', qs', gv', hv⟩
  obtain ⟨cs, hk⟩ := hv.ra
  have hb := Re.resbusy_any g cs _ _ o.n u hk ho.n
  exact hb
 ·rintro u ⟨P', ws', Q', qs', gv', hv⟩
  refine (busy_any w.heap.size x P' ws' _ Q' qs' gv' o.n u hv.dr).mono ?_
  rintro e u' ⟨rfl, rfl⟩
  refine ⟨?_, Below.refl _ _⟩
  have e1 : busyB R.2.K o.n = (findW ws' o.n).isSome := (show Rel (bas R.2 _ _).K P' ws' from hv.rl.K).busy o.n
  have e2 : (Qu.lookQ R.2.Q.ws o.n).isSome = (Qu.findW qs' o.n).isSome := by
   have := hv.rl.Q.look o.n
   have e3 : Qu.lookQ R.2.Q.ws o.n = _ := this
   rw [e3]; cases Qu.findW qs' o.n <;> rfl
  unfold busyD Re.busyR
  rw [e1, e2]
 ·rintro u ⟨P', ws', Q', qs', gv', hv⟩
  obtain ⟨cs, hk⟩ := hv.ra
  refine (Re.image_img g cs _ _ u hk).mono ?_
  rintro e u' ⟨A, q, c, A', q', c', rfl, HX⟩
  exact ⟨_, rfl, ⟨_, A, q, c, A', q', c', rfl, by rw [Re.imP_eq (S := R.2.K) (S' := (bas R.2 (fun b => ¬ Ours ws' qs' b) (fun b => ¬ Ours ws' qs' b)).K) rfl]; exact HX.out.1⟩, HX.out.2⟩
 ·rintro u v ⟨B, A, q, c, A', q', c', rfl, hv⟩
  refine (Re.as_img u B A q c A' q' c' _ _ _ hv (by rw [hv.q]; exact hPl)).mono ?_
  rintro e u' ⟨A9, c9, rfl, HX⟩
  exact ⟨_, rfl, ⟨A9, q, c9, A', q', c', rfl, HX.out.1⟩, HX.out.2⟩
 ·rintro u ⟨P', ws', Q', qs', gv', hv⟩
  have h4 : gv' = R.2.Q.g := hv.rl.Q.g
  have h5 := hG.ok.last
  have h6 := hG.ok.g0
  refine (dimage_any w.heap.size x P' ws' _ Q' qs' gv' u hv.dr (by omega)).mono ?_
  rintro e u' ⟨A, q, c, A', q', c', rfl, HX⟩
  have e1 : docP P' 16 = Re.imP R.2.K 16 := by
   rw [← docP_im hv.rl.K 16]
   exact Re.imP_eq rfl 16
  have e2 : Q'.map (·.2) = R.2.Q.I.map Qu.IT.v := by
   have : Q' = Qu.prI R.2.Q.I := hv.rl.Q.I
   rw [this]; unfold Qu.prI; rw [List.map_map]; rfl
  rw [e1, e2] at HX
  exact ⟨_, rfl, ⟨A, q, c, A', q', c', by rw [h4], HX.out.1⟩, HX.out.2⟩
 ·rintro u a b ⟨A, q, c, A', q', c', rfl, h1⟩ ⟨A2, q2, c2, A3, q3, c3, rfl, h2⟩
  exact Re.same_docs u A q c A' q' c' A2 q2 c2 A3 q3 c3 _ _ _ h1 h2 ⟨by rw [h1.q]; exact hPl, by rw [h1.q']; exact hVl⟩
 ·rintro u ⟨P', ws', Q', qs', gv', hv⟩
  exact ⟨_, P', ws', Q', qs', gv', hv⟩
end Go.Proofs.YtlliaihmfimdoaaGreat.Dr


namespace Go.Proofs.YtlliaihmfimdoaaGreat.Dr
open Go.RowKit Go.Maps Go.Joins Go.Deep Go.Proofs.YtlliaihmfimdoaaGreat
set_option linter.unusedVariables false
set_option linter.unusedSimpArgs false
theorem ltf {a : Bool} (h : a = false) (h2 : a = true) : False := by rw [h] at h2; cases h2
theorem DR.zero (w : World) (B : Nat) : DR (w.alloc (.cells #[.slice none 0 0, .slice none 0 0, .slice none 0 0, .slice none 0 0, .slice none 0 0, .int .i64 0] 38)) B w.heap.size [] [] [] [] [] 0 :=
 ⟨⟨_, _, _, _, _, ⟨⟨none, 0, 0, none, 0, 0, none, 0, 0, Blk.new _ _ _, rfl, rfl, rfl, World.ownsRow_nil _ _ _ _, World.ownsRow_nil _ _ _ _, LRows.empty _ _⟩, (fun y hy => nomatch hy), List.Pairwise.nil, ⟨by decide, by decide, by decide, fun y hy => nomatch hy⟩⟩,
  ⟨⟨none, 0, 0, none, 0, 0, Blk.new _ _ _, rfl, rfl, World.ownsRow_nil _ _ _ _, World.ownsRow_nil _ _ _ _⟩, (fun y hy => nomatch hy), List.Pairwise.nil, ⟨by decide, by decide, fun y hy => nomatch hy⟩⟩, Blk.new _ _ _⟩, fun y hy => nomatch hy⟩
theorem DRel.zero (B : Nat → Prop) : DRel (Re.RS.zero B) [] [] [] [] 0 :=
 ⟨⟨fun k _ => rfl, ⟨(fun x hx => nomatch hx), List.Pairwise.nil⟩, LOk.nil, (fun x hx => nomatch hx), fun n _ => ⟨rfl, rfl⟩, (fun n y h => by unfold findW at h; cases h), fun y hy => nomatch hy⟩, ⟨rfl, rfl, rfl⟩, fun n => by simp [Re.RS.zero, KS.zero, curW, Qu.QS.zero, Qu.curQ, Qu.lookQ, Qu.findQ]⟩
theorem LvAt.zero {w w1 : World} {g : Nat} {cs : Array Value} {N : Nat} (hk : Re.ResAt w1 g cs (Re.RS.zero anyB) N) (b1 : Below w.heap.size w w1) (hg : w.heap.size ≤ g) : LvAt w (w1.alloc (.cells #[.slice none 0 0, .slice none 0 0, .slice none 0 0, .slice none 0 0, .slice none 0 0, .int .i64 0] 38)) g w1.heap.size (Re.RS.zero anyB) [] [] [] [] 0 N 0 := by
 have b2 : Below w1.heap.size w1 (w1.alloc (.cells #[.slice none 0 0, .slice none 0 0, .slice none 0 0, .slice none 0 0, .slice none 0 0, .int .i64 0] 38)) := ba _ _
 exact ⟨⟨cs, hk.below b2⟩, DR.zero w1 _, DRel.zero _, Qu.QGood.zero _, (fun y hy => nomatch hy), bt b1 b2, ⟨hg, b1.size⟩, (fun b _ h => by rcases h with ⟨y, hy, _⟩ | ⟨y, hy, _⟩ <;> exact nomatch hy), (fun b _ h => by rcases h with ⟨y, hy, _⟩ | ⟨y, hy, _⟩ <;> exact nomatch hy), fun b _ => ⟨trivial, trivial⟩, ⟨Nat.le_refl _, Nat.le_refl _⟩, fun y hy => nomatch hy⟩
def VLv (g xb b o j n cl : Nat) (ov : Value) (on : Int) (bz : Bool) (FIN : World → Prop) (ST LST IMG DOC : World → Value → Prop) (i : Nat) (v : Value) (w : World) : Prop :=
 match i with
 | 0 => v = .pointer (some ⟨g, 0, none⟩)
 | 1 => v = .slice (some ⟨b, o, none⟩) n cl
 | 2 => v = .int .i64 j
 | 3 => v = .pointer (some ⟨b, o + j * 5, none⟩)
 | 4 => v = ov
 | 5 => ST w v
 | 6 => v = .pointer (some ⟨xb, 0, none⟩)
 | 7 => v = .slice (some ⟨b, o, none⟩) n cl
 | 8 => v = .int .i64 j
 | 9 => v = .pointer (some ⟨b, o + j * 5, none⟩)
 | 10 => v = ov
 | 11 => LST w v ∧ FIN w
 | 12 => v = .bool true ∧ FIN w
 | 13 => v = .bool false ∧ FIN w
 | 14 => v = .bool false ∧ FIN w
 | 15 => v = .pointer (some ⟨g, 0, none⟩)
 | 16 => v = .slice (some ⟨b, o, none⟩) n cl
 | 17 => v = .int .i64 j
 | 18 => v = .pointer (some ⟨b, o + j * 5, none⟩)
 | 19 => v = .pointer (some ⟨b, o + j * 5 + 1, none⟩)
 | 20 => v = .int .i64 on
 | 21 => v = .bool bz
 | 22 => v = .pointer (some ⟨xb, 0, none⟩)
 | 23 => v = .slice (some ⟨b, o, none⟩) n cl
 | 24 => v = .int .i64 j
 | 25 => v = .pointer (some ⟨b, o + j * 5, none⟩)
 | 26 => v = .pointer (some ⟨b, o + j * 5 + 1, none⟩)
 | 27 => v = .int .i64 on
 | 28 => v = .bool bz
 | 29 => v = .bool false
 | 30 => v = .bool false ∧ FIN w
 | 31 => v = .bool false ∧ FIN w
 | 32 => v = .pointer (some ⟨g, 0, none⟩)
 | 33 => IMG w v
 | 34 => DOC w v
 | 35 => v = .pointer (some ⟨xb, 0, none⟩)
 | 36 => DOC w v
 | 37 => v = .bool true
 | 38 => v = .bool false
 | 39 => v = .bool false
 | _ => True
def ELv (EA EB : World → World → Prop) (k : Nat) (u u' : World) : Prop := match k with
 | 5 => EA u u'
 | 11 => EB u u'
 | _ => Below u.heap.size u u'
def TLv (O5 O11 : World → Prop) (j : Nat) (u : World) : Prop := match j with
 | 5 => O5 u
 | 11 => O11 u
 | _ => True
section
variable {w wr : World} {g xb : Nat} {ov : Value} {on : Int} {bz : Bool} {O5 O11 FIN : World → Prop} {ST LST IMG DOC : World → Value → Prop} {EA EB : World → World → Prop}
theorem VLv.mono (hf : RndF w wr g xb ov on bz O5 O11 FIN ST LST IMG DOC EA EB) {b o j n cl q i : Nat} {ov' : Value} {on' : Int} {v : Value} {u u' : World} (he : ELv EA EB q u u') (hik : i ≠ q) (h5 : q = 5 → i = 11 ∨ i = 12 ∨ i = 13 ∨ i = 14 ∨ i = 30 ∨ i = 31 ∨ i = 33 ∨ i = 34 ∨ i = 36 → False) (h11 : q = 11 → i = 12 ∨ i = 13 ∨ i = 14 ∨ i = 30 ∨ i = 31 ∨ i = 33 ∨ i = 34 ∨ i = 36 → False) (h : VLv g xb b o j n cl ov' on' bz FIN ST LST IMG DOC i v u) : VLv g xb b o j n cl ov' on' bz FIN ST LST IMG DOC i v u' := by
 unfold ELv at he
 split at he
 ·unfold VLv at h ⊢
  split at h <;> first | with_reducible exact h | exact absurd rfl hik | exact (h5 rfl (by simp)).elim
 ·unfold VLv at h ⊢
  split at h <;> first | with_reducible exact h | exact hf.mSB _ _ _ h he | exact absurd rfl hik | exact (h11 rfl (by simp)).elim
 ·unfold VLv at h ⊢
  split at h <;> first | with_reducible exact h | exact hf.mS _ _ _ h he | exact ⟨hf.mL _ _ _ h.1 he, hf.mF _ _ h.2 he⟩ | exact ⟨h.1, hf.mF _ _ h.2 he⟩ | exact hf.mI _ _ _ h he | exact hf.mD _ _ _ h he
theorem TLv.mono (hf : RndF w wr g xb ov on bz O5 O11 FIN ST LST IMG DOC EA EB) {q j : Nat} {u u' : World} (he : ELv EA EB q u u') (hqj : q ≠ j) (h : q = 11 → j = 5 → False) (hv : TLv O5 O11 j u) : TLv O5 O11 j u' := by
 unfold ELv at he
 split at he
 ·unfold TLv at hv ⊢
  split at hv <;> first | trivial | exact absurd rfl hqj | exact hf.mO11A _ _ hv he
 ·unfold TLv at hv ⊢
  split at hv <;> first | trivial | exact absurd rfl hqj | exact (h rfl rfl).elim
 ·unfold TLv at hv ⊢
  split at hv <;> first | trivial | exact hf.mO5 _ _ hv he | exact hf.mO11 _ _ hv he
end
set_option maxRecDepth 100000 in
set_option maxHeartbeats 8000000 in
theorem resLives_main (A : Option Addr) (ops : List OpV) (c : Nat) (w : World) (h : OpsAt w A ops) (hcp : ∀ o ∈ ops, Re.CapOk o) :
  Calls Tryz.prog 3 #[.slice A ops.length c] w fun e w' => e = .returned (.bool true) ∧ Below w.heap.size w w' := by
 have hlen := h.1
 unfold maxLen at hlen
 obtain ⟨n, hn⟩ : ∃ n, n = ops.length := ⟨_, rfl⟩
 rw [← hn] at hlen ⊢
 have HN := Lib.hid hn
 have HO := Lib.hid (And.intro h hcp)
 obtain ⟨A0, hA0⟩ : ∃ A0, A0 = A := ⟨_, rfl⟩
 rw [← hA0] at HO ⊢
 obtain ⟨cl, hcl⟩ : ∃ cl, cl = c := ⟨_, rfl⟩
 rw [← hcl]
 clear h hcp hn hA0 hcl A c
 obtain ⟨g, hg⟩ : ∃ g, g = w.heap.size := ⟨_, rfl⟩
 go_enter Tryz.func3, Tryz.ntmps3
 go_wp2_with fail
 refine (Re.newres_any anyB w).mono ?_
 rintro e w1 ⟨rfl, ⟨cs, hk⟩, b1⟩
 rw [← hg] at hk ⊢
 obtain ⟨xb, hx⟩ : ∃ xb, xb = w1.heap.size := ⟨_, rfl⟩
 have HX := Lib.hid hx
 obtain ⟨w2, hw2⟩ : ∃ w2, w2 = w1.alloc (.cells #[.slice none 0 0, .slice none 0 0, .slice none 0 0, .slice none 0 0, .slice none 0 0, .int .i64 0] 38) := ⟨_, rfl⟩
 have HW2 := Lib.hid hw2
 have H0 : Hid (∃ S P ws Q qs gv, LvAt w w2 g xb S P ws Q qs gv (45 + 4 * 0) 0) := Lib.hid (by
  have hz := LvAt.zero (hk.more (by omega : 0 ≤ 45 + 4 * 0)) b1 (by omega : w.heap.size ≤ g)
  rw [← hw2, ← hx] at hz
  exact ⟨_, _, _, _, _, _, hz⟩)
 clear hk b1 hx hw2 hg
 go_wp2_with fail
 rw [← HW2.out, ← HX.out]
 go_loopw [5] (fun i wr => ∃ (j : Nat), j ≤ n ∧ j ≤ 60 ∧ i = .int .i64 j ∧ Hid (∃ S P ws Q qs gv, LvAt w wr g xb S P ws Q qs gv (45 + 4 * j) j)) (fun i _ => 60 - (intOf i).toNat)
 case atStart => exact ⟨0, Nat.zero_le _, by omega, rfl, H0⟩
 case round =>
  clear H0
  obtain ⟨j, hj, hj60, rfl, HR⟩ := hrel
  by_cases hjn : j < n
  ·have hjI : (j : Int) < (n : Int) := by omega
   by_cases hj6 : j < 60
   ·have hj6I : (j : Int) < 60 := by omega
    obtain ⟨S, P, ws, Q, qs, gv, hlv⟩ := HR.out
    have hjo : j < ops.length := by rw [← HN.out]; exact hjn
    obtain ⟨b, o, rfl, hlt, hcs⟩ := HO.out.1.2.2 (by omega)
    obtain ⟨q0, q1, q2, q3, q4⟩ := hcs j hjo
    obtain ⟨hok, hml, hin⟩ := HO.out.1.2.1 _ (List.getElem_mem hjo)
    have hcap := HO.out.2 _ (List.getElem_mem hjo)
    obtain ⟨op, hop⟩ : ∃ op, op = ops[j] := ⟨_, rfl⟩
    rw [← hop] at q0 q1 q2 q3 q4 hok hml hin hcap
    have hb := hlv.be
    have p4 := (hb.cell (p := ⟨b, o + j * 5 + 4, none⟩) hlt).trans q4
    have hrnd := fun hl => rnd hlv (by omega) (by omega) (by omega) op hok hcap hl hin
    obtain ⟨ok, on, oy, oz, oA, ol, oc⟩ := op
    obtain ⟨m, hm⟩ : ∃ m, m = ol.length := ⟨_, rfl⟩
    dsimp only at p4 hml q0 q1 q2 q3 q4 hrnd
    rw [← hm] at p4 hml q4 hrnd
    unfold OpV.val at hrnd
    dsimp only at hrnd
    rw [← hm] at hrnd
    have hmx : (m : Int) ≤ 9223372036854775807 := by unfold maxLen at hml; omega
    have HRnd := Lib.hid hrnd
    have HQ := Lib.hid (And.intro q0 (And.intro q1 (And.intro q2 (And.intro q3 (And.intro q4 (And.intro hlt hb))))))
    clear hrnd q0 q1 q2 q3 q4 hlt hb hlv hcs hop hok hml hin hcap hjo hm HR
    by_cases hm3 : m ≤ 40
    ·have hm3I : ¬ (40 : Int) < (m : Int) := by omega
     obtain ⟨bz, O5, O11, FIN, ST, LST, IMG, DOC, EA, EB, hF, hnext⟩ := HRnd.out hm3
     have HF := Lib.hid hF
     have HNx := Lib.hid hnext
     clear hF hnext HRnd
     go_wp2_with fail
     refine wp_region_invU (F := ?FL) (V := VLv g xb b o j n cl (.agg #[.int .i64 ok, .int .i64 on, .int .i64 oy, .int .u64 (oz : Nat), .slice oA m oc]) on bz FIN ST LST IMG DOC) (dead := fun _ => none) (T := TLv O5 O11) (C := fun u => BW w wr u) (E := ELv EA EB) (by kernel_rfl) (by kernel_rfl) (by kernel_rfl) (fun x => ?hFL) ?hmonoL ?hTmL ?hTL ?hCL ?stepL ?finL
     case hFL => simp only [mkA, Act.put, List.setIfInBounds_toArray, List.set_cons_succ, List.set_cons_zero, Nat.reduceAdd, Nat.zero_add]; first | with_reducible rfl | rfl
     case hmonoL => exact fun q' i v u u' he hik hwt hdd hv => VLv.mono HF.out he hik (fun hk hi => by subst hk; rcases hi with rfl | rfl | rfl | rfl | rfl | rfl | rfl | rfl | rfl <;> exact ltf hwt (by kernel_rfl)) (fun hk hi => by subst hk; rcases hi with rfl | rfl | rfl | rfl | rfl | rfl | rfl | rfl <;> exact ltf hwt (by kernel_rfl)) hv
     case hTmL => exact fun q j' u u' he hkj hwt hv => TLv.mono HF.out he hkj (fun hk hi => by subst hk hi; exact ltf hwt (by kernel_rfl)) hv
     case hTL => exact fun j' => by unfold TLv; split <;> first | exact HF.out.mO5 _ _ HF.out.o5 (Below.refl _ _).drew | exact HF.out.mO11 _ _ HF.out.o11 (Below.refl _ _).drew | trivial
     case hCL => exact ⟨HQ.out.2.2.2.2.2.2.drew, Nat.le_refl _⟩
     case stepL =>
      refine AllOps.cons (fun x u hC hT hp K hK => ?_) ?_
      ·clear hp hT
       go_simp
       refine hK _ _ _ hC (Below.refl _ _) (by exact rfl) ?_
       first | (simp only [Act.put, List.setIfInBounds_toArray, List.set_cons_succ, List.set_cons_zero]; done) | simp [Act.put]
      refine AllOps.cons (fun x u hC hT hp K hK => ?_) ?_
      ·clear hp hT
       go_simp
       refine hK _ _ _ hC (Below.refl _ _) (by exact rfl) ?_
       first | (simp only [Act.put, List.setIfInBounds_toArray, List.set_cons_succ, List.set_cons_zero]; done) | simp [Act.put]
      refine AllOps.cons (fun x u hC hT hp K hK => ?_) ?_
      ·clear hp hT
       go_simp
       refine hK _ _ _ hC (Below.refl _ _) (by exact rfl) ?_
       first | (simp only [Act.put, List.setIfInBounds_toArray, List.set_cons_succ, List.set_cons_zero]; done) | simp [Act.put]
      refine AllOps.cons (fun x u hC hT hp K hK => ?_) ?_
      ·simp [KnownTill, Region.binds, VLv] at hp
       clear hT
       go_simp
       refine hK _ _ _ hC (Below.refl _ _) (by exact rfl) ?_
       first | (simp only [Act.put, List.setIfInBounds_toArray, List.set_cons_succ, List.set_cons_zero, hp]; done) | simp [Act.put, hp]
      refine AllOps.cons (fun x u hC hT hp K hK => ?_) ?_
      ·simp [KnownTill, Region.binds, VLv] at hp
       clear hT
       have p0 := (hC.1.cell (p := ⟨b, o + j * 5, none⟩) HQ.out.2.2.2.2.2.1).trans HQ.out.1
       have p1 := (hC.1.cell (p := ⟨b, o + j * 5 + 1, none⟩) HQ.out.2.2.2.2.2.1).trans HQ.out.2.1
       have p2 := (hC.1.cell (p := ⟨b, o + j * 5 + 2, none⟩) HQ.out.2.2.2.2.2.1).trans HQ.out.2.2.1
       have p3 := (hC.1.cell (p := ⟨b, o + j * 5 + 3, none⟩) HQ.out.2.2.2.2.2.1).trans HQ.out.2.2.2.1
       have p4 := (hC.1.cell (p := ⟨b, o + j * 5 + 4, none⟩) HQ.out.2.2.2.2.2.1).trans HQ.out.2.2.2.2.1
       go_simp
       refine hK _ _ _ hC (Below.refl _ _) (by exact rfl) ?_
       first | (simp only [Act.put, List.setIfInBounds_toArray, List.set_cons_succ, List.set_cons_zero, hp]; done) | simp [Act.put, hp]
      refine AllOps.cons (fun x u hC hT hp K hK => ?_) ?_
      ·simp [KnownTill, Region.binds, VLv] at hp
       have hT5 : O5 u := hT
       go_simp
       refine (HF.out.call u hC hT5).mono ?_
       rintro e uA ⟨v, rfl, s1, c1, ea⟩
       refine hK _ _ _ c1 ea s1 ?_
       first | (simp only [Act.put, List.setIfInBounds_toArray, List.set_cons_succ, List.set_cons_zero, hp]; done) | simp [Act.put, hp]
      refine AllOps.cons (fun x u hC hT hp K hK => ?_) ?_
      ·clear hp hT
       go_simp
       refine hK _ _ _ hC (Below.refl _ _) (by exact rfl) ?_
       first | (simp only [Act.put, List.setIfInBounds_toArray, List.set_cons_succ, List.set_cons_zero]; done) | simp [Act.put]
      refine AllOps.cons (fun x u hC hT hp K hK => ?_) ?_
      ·clear hp hT
       go_simp
       refine hK _ _ _ hC (Below.refl _ _) (by exact rfl) ?_
       first | (simp only [Act.put, List.setIfInBounds_toArray, List.set_cons_succ, List.set_cons_zero]; done) | simp [Act.put]
      refine AllOps.cons (fun x u hC hT hp K hK => ?_) ?_
      ·clear hp hT
       go_simp
       refine hK _ _ _ hC (Below.refl _ _) (by exact rfl) ?_
       first | (simp only [Act.put, List.setIfInBounds_toArray, List.set_cons_succ, List.set_cons_zero]; done) | simp [Act.put]
      refine AllOps.cons (fun x u hC hT hp K hK => ?_) ?_
      ·simp [KnownTill, Region.binds, VLv] at hp
       clear hT
       go_simp
       refine hK _ _ _ hC (Below.refl _ _) (by exact rfl) ?_
       first | (simp only [Act.put, List.setIfInBounds_toArray, List.set_cons_succ, List.set_cons_zero, hp]; done) | simp [Act.put, hp]
      refine AllOps.cons (fun x u hC hT hp K hK => ?_) ?_
      ·simp [KnownTill, Region.binds, VLv] at hp
       clear hT
       have p0 := (hC.1.cell (p := ⟨b, o + j * 5, none⟩) HQ.out.2.2.2.2.2.1).trans HQ.out.1
       have p1 := (hC.1.cell (p := ⟨b, o + j * 5 + 1, none⟩) HQ.out.2.2.2.2.2.1).trans HQ.out.2.1
       have p2 := (hC.1.cell (p := ⟨b, o + j * 5 + 2, none⟩) HQ.out.2.2.2.2.2.1).trans HQ.out.2.2.1
       have p3 := (hC.1.cell (p := ⟨b, o + j * 5 + 3, none⟩) HQ.out.2.2.2.2.2.1).trans HQ.out.2.2.2.1
       have p4 := (hC.1.cell (p := ⟨b, o + j * 5 + 4, none⟩) HQ.out.2.2.2.2.2.1).trans HQ.out.2.2.2.2.1
       go_simp
       refine hK _ _ _ hC (Below.refl _ _) (by exact rfl) ?_
       first | (simp only [Act.put, List.setIfInBounds_toArray, List.set_cons_succ, List.set_cons_zero, hp]; done) | simp [Act.put, hp]
      refine AllOps.cons (fun x u hC hT hp K hK => ?_) ?_
      ·simp [KnownTill, Region.binds, VLv] at hp
       have hT11 : O11 u := hT
       have h5 : ST u (x 5) := by first | exact hp | exact hp.1.2 | exact hp.1.1 | exact hp.1 | exact hp.2 | exact hp.2.1 | exact hp.2.2 | exact hp.2.2.1 | exact hp.2.2.2 | exact hp.2.2.2.1 | exact hp.2.2.2.2 | exact hp.2.2.2.2.1 | exact hp.2.2.2.2.2 | exact hp.2.2.2.2.2.1 | exact hp.2.2.2.2.2.2
       go_simp
       refine (HF.out.mod u _ hC hT11 h5).mono ?_
       rintro e uA ⟨v, rfl, s1, s2, c1, ea⟩
       refine hK _ _ _ c1 ea ⟨s1, s2⟩ ?_
       first | (simp only [Act.put, List.setIfInBounds_toArray, List.set_cons_succ, List.set_cons_zero, hp]; done) | simp [Act.put, hp]
      refine AllOps.cons (fun x u hC hT hp K hK => ?_) ?_
      ·simp [KnownTill, Region.binds, VLv] at hp
       clear hT
       have h5 : ST u (x 5) := by first | exact hp | exact hp.1.2 | exact hp.1.1 | exact hp.1 | exact hp.2 | exact hp.2.1 | exact hp.2.2 | exact hp.2.2.1 | exact hp.2.2.2 | exact hp.2.2.2.1 | exact hp.2.2.2.2 | exact hp.2.2.2.2.1 | exact hp.2.2.2.2.2 | exact hp.2.2.2.2.2.1 | exact hp.2.2.2.2.2.2
       have h11 : LST u (x 11) := by first | exact hp | exact hp.1.2 | exact hp.1.1 | exact hp.1 | exact hp.2 | exact hp.2.1 | exact hp.2.2 | exact hp.2.2.1 | exact hp.2.2.2 | exact hp.2.2.2.1 | exact hp.2.2.2.2 | exact hp.2.2.2.2.1 | exact hp.2.2.2.2.2 | exact hp.2.2.2.2.2.1 | exact hp.2.2.2.2.2.2
       have hf : FIN u := by first | exact hp | exact hp.1.2 | exact hp.1.1 | exact hp.1 | exact hp.2 | exact hp.2.1 | exact hp.2.2 | exact hp.2.2.1 | exact hp.2.2.2 | exact hp.2.2.2.1 | exact hp.2.2.2.2 | exact hp.2.2.2.2.1 | exact hp.2.2.2.2.2 | exact hp.2.2.2.2.2.1 | exact hp.2.2.2.2.2.2
       go_simp
       refine (HF.out.same u _ _ h5 h11).mono ?_
       rintro e uA ⟨rfl, hb⟩
       refine hK _ _ _ (hC.below hb) hb ⟨rfl, HF.out.mF _ _ hf hb⟩ ?_
       first | (simp only [Act.put, List.setIfInBounds_toArray, List.set_cons_succ, List.set_cons_zero, hp]; done) | simp [Act.put, hp]
      refine AllOps.cons (fun x u hC hT hp K hK => ?_) ?_
      ·simp [KnownTill, Region.binds, VLv] at hp
       clear hT
       have hf : FIN u := by first | exact hp | exact hp.1.2 | exact hp.1.1 | exact hp.1 | exact hp.2 | exact hp.2.1 | exact hp.2.2 | exact hp.2.2.1 | exact hp.2.2.2 | exact hp.2.2.2.1 | exact hp.2.2.2.2 | exact hp.2.2.2.2.1 | exact hp.2.2.2.2.2 | exact hp.2.2.2.2.2.1 | exact hp.2.2.2.2.2.2
       go_simp
       refine hK _ _ _ hC (Below.refl _ _) (by exact ⟨rfl, hf⟩) ?_
       first | (simp only [Act.put, List.setIfInBounds_toArray, List.set_cons_succ, List.set_cons_zero, hp]; done) | simp [Act.put, hp]
      refine AllOps.cons (fun x u hC hT hp K hK => ?_) ?_
      ·simp [KnownTill, Region.binds, VLv] at hp
       clear hT
       have hf : FIN u := by first | exact hp | exact hp.1.2 | exact hp.1.1 | exact hp.1 | exact hp.2 | exact hp.2.1 | exact hp.2.2 | exact hp.2.2.1 | exact hp.2.2.2 | exact hp.2.2.2.1 | exact hp.2.2.2.2 | exact hp.2.2.2.2.1 | exact hp.2.2.2.2.2 | exact hp.2.2.2.2.2.1 | exact hp.2.2.2.2.2.2
       go_simp
       refine hK _ _ _ hC (Below.refl _ _) (by exact ⟨rfl, hf⟩) ?_
       first | (simp only [Act.put, List.setIfInBounds_toArray, List.set_cons_succ, List.set_cons_zero, hp]; done) | simp [Act.put, hp]
      refine AllOps.cons (fun x u hC hT hp K hK => ?_) ?_
      ·simp [KnownTill, Region.binds, VLv] at hp
       clear hT
       go_simp
       refine hK _ _ _ hC (Below.refl _ _) (by exact rfl) ?_
       first | (simp only [Act.put, List.setIfInBounds_toArray, List.set_cons_succ, List.set_cons_zero, hp]; done) | simp [Act.put, hp]
      refine AllOps.cons (fun x u hC hT hp K hK => ?_) ?_
      ·simp [KnownTill, Region.binds, VLv] at hp
       clear hT
       go_simp
       refine hK _ _ _ hC (Below.refl _ _) (by exact rfl) ?_
       first | (simp only [Act.put, List.setIfInBounds_toArray, List.set_cons_succ, List.set_cons_zero, hp]; done) | simp [Act.put, hp]
      refine AllOps.cons (fun x u hC hT hp K hK => ?_) ?_
      ·simp [KnownTill, Region.binds, VLv] at hp
       clear hT
       go_simp
       refine hK _ _ _ hC (Below.refl _ _) (by exact rfl) ?_
       first | (simp only [Act.put, List.setIfInBounds_toArray, List.set_cons_succ, List.set_cons_zero, hp]; done) | simp [Act.put, hp]
      refine AllOps.cons (fun x u hC hT hp K hK => ?_) ?_
      ·simp [KnownTill, Region.binds, VLv] at hp
       clear hT
       go_simp
       refine hK _ _ _ hC (Below.refl _ _) (by exact rfl) ?_
       first | (simp only [Act.put, List.setIfInBounds_toArray, List.set_cons_succ, List.set_cons_zero, hp]; done) | simp [Act.put, hp]
      refine AllOps.cons (fun x u hC hT hp K hK => ?_) ?_
      ·simp [KnownTill, Region.binds, VLv] at hp
       clear hT
       go_simp
       refine hK _ _ _ hC (Below.refl _ _) (by exact rfl) ?_
       first | (simp only [Act.put, List.setIfInBounds_toArray, List.set_cons_succ, List.set_cons_zero, hp]; done) | simp [Act.put, hp]
      refine AllOps.cons (fun x u hC hT hp K hK => ?_) ?_
      ·simp [KnownTill, Region.binds, VLv] at hp
       clear hT
       have p1 := (hC.1.cell (p := ⟨b, o + j * 5 + 1, none⟩) HQ.out.2.2.2.2.2.1).trans HQ.out.2.1
       go_simp
       refine hK _ _ _ hC (Below.refl _ _) (by exact rfl) ?_
       first | (simp only [Act.put, List.setIfInBounds_toArray, List.set_cons_succ, List.set_cons_zero, hp]; done) | simp [Act.put, hp]
      refine AllOps.cons (fun x u hC hT hp K hK => ?_) ?_
      ·simp [KnownTill, Region.binds, VLv] at hp
       clear hT
       have hf : FIN u := by first | exact hp | exact hp.1.2 | exact hp.1.1 | exact hp.1 | exact hp.2 | exact hp.2.1 | exact hp.2.2 | exact hp.2.2.1 | exact hp.2.2.2 | exact hp.2.2.2.1 | exact hp.2.2.2.2 | exact hp.2.2.2.2.1 | exact hp.2.2.2.2.2 | exact hp.2.2.2.2.2.1 | exact hp.2.2.2.2.2.2
       go_simp
       refine (HF.out.busy u hf).mono ?_
       rintro e uA ⟨rfl, hb⟩
       refine hK _ _ _ (hC.below hb) hb rfl ?_
       first | (simp only [Act.put, List.setIfInBounds_toArray, List.set_cons_succ, List.set_cons_zero, hp]; done) | simp [Act.put, hp]
      refine AllOps.cons (fun x u hC hT hp K hK => ?_) ?_
      ·simp [KnownTill, Region.binds, VLv] at hp
       clear hT
       go_simp
       refine hK _ _ _ hC (Below.refl _ _) (by exact rfl) ?_
       first | (simp only [Act.put, List.setIfInBounds_toArray, List.set_cons_succ, List.set_cons_zero, hp]; done) | simp [Act.put, hp]
      refine AllOps.cons (fun x u hC hT hp K hK => ?_) ?_
      ·simp [KnownTill, Region.binds, VLv] at hp
       clear hT
       go_simp
       refine hK _ _ _ hC (Below.refl _ _) (by exact rfl) ?_
       first | (simp only [Act.put, List.setIfInBounds_toArray, List.set_cons_succ, List.set_cons_zero, hp]; done) | simp [Act.put, hp]
      refine AllOps.cons (fun x u hC hT hp K hK => ?_) ?_
      ·simp [KnownTill, Region.binds, VLv] at hp
       clear hT
       go_simp
       refine hK _ _ _ hC (Below.refl _ _) (by exact rfl) ?_
       first | (simp only [Act.put, List.setIfInBounds_toArray, List.set_cons_succ, List.set_cons_zero, hp]; done) | simp [Act.put, hp]
      refine AllOps.cons (fun x u hC hT hp K hK => ?_) ?_
      ·simp [KnownTill, Region.binds, VLv] at hp
       clear hT
       go_simp
       refine hK _ _ _ hC (Below.refl _ _) (by exact rfl) ?_
       first | (simp only [Act.put, List.setIfInBounds_toArray, List.set_cons_succ, List.set_cons_zero, hp]; done) | simp [Act.put, hp]
      refine AllOps.cons (fun x u hC hT hp K hK => ?_) ?_
      ·simp [KnownTill, Region.binds, VLv] at hp
       clear hT
       go_simp
       refine hK _ _ _ hC (Below.refl _ _) (by exact rfl) ?_
       first | (simp only [Act.put, List.setIfInBounds_toArray, List.set_cons_succ, List.set_cons_zero, hp]; done) | simp [Act.put, hp]
      refine AllOps.cons (fun x u hC hT hp K hK => ?_) ?_
      ·simp [KnownTill, Region.binds, VLv] at hp
       clear hT
       have p1 := (hC.1.cell (p := ⟨b, o + j * 5 + 1, none⟩) HQ.out.2.2.2.2.2.1).trans HQ.out.2.1
       go_simp
       refine hK _ _ _ hC (Below.refl _ _) (by exact rfl) ?_
       first | (simp only [Act.put, List.setIfInBounds_toArray, List.set_cons_succ, List.set_cons_zero, hp]; done) | simp [Act.put, hp]
      refine AllOps.cons (fun x u hC hT hp K hK => ?_) ?_
      ·simp [KnownTill, Region.binds, VLv] at hp
       clear hT
       have hf : FIN u := by first | exact hp | exact hp.1.2 | exact hp.1.1 | exact hp.1 | exact hp.2 | exact hp.2.1 | exact hp.2.2 | exact hp.2.2.1 | exact hp.2.2.2 | exact hp.2.2.2.1 | exact hp.2.2.2.2 | exact hp.2.2.2.2.1 | exact hp.2.2.2.2.2 | exact hp.2.2.2.2.2.1 | exact hp.2.2.2.2.2.2
       go_simp
       refine (HF.out.dbusy u hf).mono ?_
       rintro e uA ⟨rfl, hb⟩
       refine hK _ _ _ (hC.below hb) hb rfl ?_
       first | (simp only [Act.put, List.setIfInBounds_toArray, List.set_cons_succ, List.set_cons_zero, hp]; done) | simp [Act.put, hp]
      refine AllOps.cons (fun x u hC hT hp K hK => ?_) ?_
      ·simp [KnownTill, Region.binds, VLv] at hp
       clear hT
       go_simp
       refine hK _ _ _ hC (Below.refl _ _) (by exact (by first | exact rfl | simp)) ?_
       first | (simp only [Act.put, List.setIfInBounds_toArray, List.set_cons_succ, List.set_cons_zero, hp]; done) | simp [Act.put, hp]
      refine AllOps.cons (fun x u hC hT hp K hK => ?_) ?_
      ·simp [KnownTill, Region.binds, VLv] at hp
       clear hT
       have hf : FIN u := by first | exact hp | exact hp.1.2 | exact hp.1.1 | exact hp.1 | exact hp.2 | exact hp.2.1 | exact hp.2.2 | exact hp.2.2.1 | exact hp.2.2.2 | exact hp.2.2.2.1 | exact hp.2.2.2.2 | exact hp.2.2.2.2.1 | exact hp.2.2.2.2.2 | exact hp.2.2.2.2.2.1 | exact hp.2.2.2.2.2.2
       go_simp
       refine hK _ _ _ hC (Below.refl _ _) (by exact ⟨rfl, hf⟩) ?_
       first | (simp only [Act.put, List.setIfInBounds_toArray, List.set_cons_succ, List.set_cons_zero, hp]; done) | simp [Act.put, hp]
      refine AllOps.cons (fun x u hC hT hp K hK => ?_) ?_
      ·simp [KnownTill, Region.binds, VLv] at hp
       clear hT
       have hf : FIN u := by first | exact hp | exact hp.1.2 | exact hp.1.1 | exact hp.1 | exact hp.2 | exact hp.2.1 | exact hp.2.2 | exact hp.2.2.1 | exact hp.2.2.2 | exact hp.2.2.2.1 | exact hp.2.2.2.2 | exact hp.2.2.2.2.1 | exact hp.2.2.2.2.2 | exact hp.2.2.2.2.2.1 | exact hp.2.2.2.2.2.2
       go_simp
       refine hK _ _ _ hC (Below.refl _ _) (by exact ⟨rfl, hf⟩) ?_
       first | (simp only [Act.put, List.setIfInBounds_toArray, List.set_cons_succ, List.set_cons_zero, hp]; done) | simp [Act.put, hp]
      refine AllOps.cons (fun x u hC hT hp K hK => ?_) ?_
      ·simp [KnownTill, Region.binds, VLv] at hp
       clear hT
       go_simp
       refine hK _ _ _ hC (Below.refl _ _) (by exact rfl) ?_
       first | (simp only [Act.put, List.setIfInBounds_toArray, List.set_cons_succ, List.set_cons_zero, hp]; done) | simp [Act.put, hp]
      refine AllOps.cons (fun x u hC hT hp K hK => ?_) ?_
      ·simp [KnownTill, Region.binds, VLv] at hp
       clear hT
       have hf : FIN u := by first | exact hp | exact hp.1.2 | exact hp.1.1 | exact hp.1 | exact hp.2 | exact hp.2.1 | exact hp.2.2 | exact hp.2.2.1 | exact hp.2.2.2 | exact hp.2.2.2.1 | exact hp.2.2.2.2 | exact hp.2.2.2.2.1 | exact hp.2.2.2.2.2 | exact hp.2.2.2.2.2.1 | exact hp.2.2.2.2.2.2
       go_simp
       refine (HF.out.img u hf).mono ?_
       rintro e uA ⟨v, rfl, s1, hb⟩
       refine hK _ _ _ (hC.below hb) hb s1 ?_
       first | (simp only [Act.put, List.setIfInBounds_toArray, List.set_cons_succ, List.set_cons_zero, hp]; done) | simp [Act.put, hp]
      refine AllOps.cons (fun x u hC hT hp K hK => ?_) ?_
      ·simp [KnownTill, Region.binds, VLv] at hp
       clear hT
       have h33 : IMG u (x 33) := by first | exact hp | exact hp.1.2 | exact hp.1.1 | exact hp.1 | exact hp.2 | exact hp.2.1 | exact hp.2.2 | exact hp.2.2.1 | exact hp.2.2.2 | exact hp.2.2.2.1 | exact hp.2.2.2.2 | exact hp.2.2.2.2.1 | exact hp.2.2.2.2.2 | exact hp.2.2.2.2.2.1 | exact hp.2.2.2.2.2.2
       go_simp
       refine (HF.out.as_ u _ h33).mono ?_
       rintro e uA ⟨v, rfl, s1, hb⟩
       refine hK _ _ _ (hC.below hb) hb s1 ?_
       first | (simp only [Act.put, List.setIfInBounds_toArray, List.set_cons_succ, List.set_cons_zero, hp]; done) | simp [Act.put, hp]
      refine AllOps.cons (fun x u hC hT hp K hK => ?_) ?_
      ·simp [KnownTill, Region.binds, VLv] at hp
       clear hT
       go_simp
       refine hK _ _ _ hC (Below.refl _ _) (by exact rfl) ?_
       first | (simp only [Act.put, List.setIfInBounds_toArray, List.set_cons_succ, List.set_cons_zero, hp]; done) | simp [Act.put, hp]
      refine AllOps.cons (fun x u hC hT hp K hK => ?_) ?_
      ·simp [KnownTill, Region.binds, VLv] at hp
       clear hT
       have hf : FIN u := by first | exact hp | exact hp.1.2 | exact hp.1.1 | exact hp.1 | exact hp.2 | exact hp.2.1 | exact hp.2.2 | exact hp.2.2.1 | exact hp.2.2.2 | exact hp.2.2.2.1 | exact hp.2.2.2.2 | exact hp.2.2.2.2.1 | exact hp.2.2.2.2.2 | exact hp.2.2.2.2.2.1 | exact hp.2.2.2.2.2.2
       go_simp
       refine (HF.out.dimg u hf).mono ?_
       rintro e uA ⟨v, rfl, s1, hb⟩
       refine hK _ _ _ (hC.below hb) hb s1 ?_
       first | (simp only [Act.put, List.setIfInBounds_toArray, List.set_cons_succ, List.set_cons_zero, hp]; done) | simp [Act.put, hp]
      refine AllOps.cons (fun x u hC hT hp K hK => ?_) ?_
      ·simp [KnownTill, Region.binds, VLv] at hp
       clear hT
       have h34 : DOC u (x 34) := by first | exact hp | exact hp.1.2 | exact hp.1.1 | exact hp.1 | exact hp.2 | exact hp.2.1 | exact hp.2.2 | exact hp.2.2.1 | exact hp.2.2.2 | exact hp.2.2.2.1 | exact hp.2.2.2.2 | exact hp.2.2.2.2.1 | exact hp.2.2.2.2.2 | exact hp.2.2.2.2.2.1 | exact hp.2.2.2.2.2.2
       have h36 : DOC u (x 36) := by first | exact hp | exact hp.1.2 | exact hp.1.1 | exact hp.1 | exact hp.2 | exact hp.2.1 | exact hp.2.2 | exact hp.2.2.1 | exact hp.2.2.2 | exact hp.2.2.2.1 | exact hp.2.2.2.2 | exact hp.2.2.2.2.1 | exact hp.2.2.2.2.2 | exact hp.2.2.2.2.2.1 | exact hp.2.2.2.2.2.2
       go_simp
       refine (HF.out.sdoc u _ _ h34 h36).mono ?_
       rintro e uA ⟨rfl, hb⟩
       refine hK _ _ _ (hC.below hb) hb rfl ?_
       first | (simp only [Act.put, List.setIfInBounds_toArray, List.set_cons_succ, List.set_cons_zero, hp]; done) | simp [Act.put, hp]
      refine AllOps.cons (fun x u hC hT hp K hK => ?_) ?_
      ·simp [KnownTill, Region.binds, VLv] at hp
       clear hT
       go_simp
       refine hK _ _ _ hC (Below.refl _ _) (by exact rfl) ?_
       first | (simp only [Act.put, List.setIfInBounds_toArray, List.set_cons_succ, List.set_cons_zero, hp]; done) | simp [Act.put, hp]
      refine AllOps.cons (fun x u hC hT hp K hK => ?_) ?_
      ·simp [KnownTill, Region.binds, VLv] at hp
       clear hT
       go_simp
       refine hK _ _ _ hC (Below.refl _ _) (by exact rfl) ?_
       first | (simp only [Act.put, List.setIfInBounds_toArray, List.set_cons_succ, List.set_cons_zero, hp]; done) | simp [Act.put, hp]
      exact AllOps.nil
     case finL =>
      intro x u hC hV
      have e39 : x 39 = .bool false := hV 39 (by decide) rfl
      have hfin : LST u (x 11) ∧ FIN u := hV 11 (by decide) rfl
      rw [e39]
      have HT : Hid (∃ S P ws Q qs gv, LvAt w u g xb S P ws Q qs gv (45 + 4 * (j + 1)) (j + 1)) := Lib.hid (HNx.out u hfin.2)
      clear hV hC hfin e39 HF HNx HQ
      go_wp2
      go_roundw
      case rel => exact ⟨j + 1, by omega, by omega, by go_num, HT⟩
      case measure => simp [intOf]; omega
    ·have hm3I : (40 : Int) < (m : Int) := by omega
     have HBe := Lib.hid HQ.out.2.2.2.2.2.2
     clear HRnd HQ
     go_wp2_with fail
     refine (Re.alive_any _).mono ?_
     rintro e w5 ⟨rfl, hb5⟩
     have hB5 := Lib.hid (bt HBe.out hb5)
     clear hb5
     go_wp2
     go_ret
     exact ⟨rfl, hB5.out⟩
   ·have hj6I : ¬ (j : Int) < 60 := by omega
    have HBe : Hid (Below w.heap.size w wr) := Lib.hid (by obtain ⟨S, P, ws, Q, qs, gv, hlv⟩ := HR.out; exact hlv.be)
    clear HR
    go_wp2_with fail
    refine (Re.alive_any _).mono ?_
    rintro e w5 ⟨rfl, hb5⟩
    have hB5 := Lib.hid (bt HBe.out hb5)
    clear hb5
    go_wp2
    go_ret
    exact ⟨rfl, hB5.out⟩
  ·have hjI : ¬ (j : Int) < (n : Int) := by omega
   have HBe : Hid (Below w.heap.size w wr) := Lib.hid (by obtain ⟨S, P, ws, Q, qs, gv, hlv⟩ := HR.out; exact hlv.be)
   clear HR
   go_wp2_with fail
   refine (Re.alive_any _).mono ?_
   rintro e w5 ⟨rfl, hb5⟩
   have hB5 := Lib.hid (bt HBe.out hb5)
   clear hb5
   go_wp2
   go_ret
   exact ⟨rfl, hB5.out⟩
theorem resLives_walk (A : Option Addr) (ops : List OpV) (c : Nat) (w : World) (h : OpsAt w A ops ∧ ∀ o ∈ ops, Re.CapOk o) : Calls Tryz.prog 3 #[.slice A ops.length c] w fun e w' => e = .returned (.bool true) ∧ Below w.heap.size w w' := resLives_main A ops c w h.1 h.2
end Go.Proofs.YtlliaihmfimdoaaGreat.Dr

