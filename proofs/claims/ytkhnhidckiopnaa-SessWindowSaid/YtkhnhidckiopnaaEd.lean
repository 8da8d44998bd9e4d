/- Layer 9: Frames. -/
import Derived.Test.YtkhnhidckiopnaaEc
import Derived.Laws.OwnMore
namespace Go.Proofs.Ytkhnhidckiopnaa
open Go.RowKit
set_option linter.unusedVariables false
set_option linter.unusedSimpArgs false

theorem Try.infoFrame : (Try.prog.info? 33).map (fun i => (i.zero, i.size, i.bytes)) = some (some (.agg #[.int .u32 0, .int .i64 0, .int .i64 0, .slice none 0 0]), 4, 48) := by kernel_rfl
theorem frame_ne : (33 : TypeId) ≠ 5 := by decide
theorem frame_ne2 : (33 : TypeId) ≠ 51 := by decide
theorem make_frames (w : World) (m : Nat) (hm : m ≤ 64) : ∃ w' cs2, (Instr.makeSlice 41 (.int .i64 (m : Int)) (.int .i64 (m : Int))).run Try.prog w = .ok (.slice (some ⟨w.heap.size, 0, none⟩) m m) w' ∧ Blk w' w.heap.size 33 cs2 ∧ cs2.size = m * 4 ∧ Below w.heap.size w w' := by
  obtain ⟨i0, hi, hz0, hz1, hz2⟩ := info_parts Try.infoFrame
  obtain ⟨w', h1, h2, h3⟩ := run_makeSlice_full (P := Try.prog) w w.heap.size 41 33 i0 _ 4 Try.underlying41 hi hz0 hz1 .i64 .i64 m (by omega) (by rw [hz2]; omega) (by simp only [maxLen]; omega) (Nat.le_refl _)
  rcases h2.2 with ⟨e1, _⟩ | ⟨g, cap, cur, e1, _, hb, _, _, hs, _⟩
  · cases e1
  · cases e1
    exact ⟨w', cur, h1, hb, hs, ⟨h3.os, h3.tape, h3.output, h3.size, fun k hk => h3.block k hk (by simp)⟩⟩

def MfHeld (w : World) (m s : Nat) (v : Value) : Prop := ∃ fb cs2, v = .slice (some ⟨fb, 0, none⟩) m m ∧ s ≤ fb ∧ Blk w fb 33 cs2 ∧ cs2.size = m * 4
def VMf (g W k m s : Nat) (i : Nat) (v : Value) (w : World) : Prop :=
  match i with
  | 0 => v = .pointer (some ⟨g, 0, none⟩)
  | 1 => v = .pointer (some ⟨g, 0, none⟩)
  | 2 => v = .pointer (some ⟨g, 1, none⟩)
  | 3 => v = .int .i64 W
  | 4 => v = .pointer (some ⟨g, 0, none⟩)
  | 5 => v = .pointer (some ⟨g, 0, none⟩)
  | 6 => v = .pointer (some ⟨g, 66, none⟩)
  | 7 => v = .int .i64 k
  | 8 => v = .int .i64 m
  | 9 => MfHeld w m s v
  | 10 => MfHeld w m s v
  | _ => True

theorem VMf.mono {g W k m s i : Nat} {v : Value} {u u' : World} (he : Below u.heap.size u u') (h : VMf g W k m s i v u) : VMf g W k m s i v u' := by
  unfold VMf at h ⊢
  split at h
  case h_10 => obtain ⟨fb, cs2, e, h1, h2, h3⟩ := h; exact ⟨fb, cs2, e, h1, h2.below he h2.lt, h3⟩
  case h_11 => obtain ⟨fb, cs2, e, h1, h2, h3⟩ := h; exact ⟨fb, cs2, e, h1, h2.below he h2.lt, h3⟩
  all_goals exact h

/-- A frame that is laid at its place. -/
def FrHeld (w : World) (fb i0 S f x n s : Nat) (d : List UInt8) (cs2 : Array Value) : Prop := ∃ A c cs3, Blk w fb 33 cs3 ∧ cs3.size = cs2.size ∧ cs3[i0 * 4]? = some (.int .u32 S) ∧ cs3[i0 * 4 + 1]? = some (.int .i64 ((f : Int) + (i0 : Int))) ∧ cs3[i0 * 4 + 2]? = some (.int .i64 x) ∧ cs3[i0 * 4 + 3]? = some (.slice A n c) ∧ (∀ j, (j < i0 * 4 ∨ i0 * 4 + 4 ≤ j) → cs3[j]? = cs2[j]?) ∧ Own w s 5 A c d
def BldHeld (w : World) (S f i0 x n s : Nat) (d : List UInt8) (v : Value) : Prop := ∃ A c, v = .agg #[.int .u32 S, .int .i64 ((f : Int) + (i0 : Int)), .int .i64 x, .slice A n c] ∧ Own w s 5 A c d
def VFm (g fb m i0 S f x n s : Nat) (Ai : Option Addr) (ci : Nat) (d : List UInt8) (cs2 : Array Value) (i : Nat) (v : Value) (w : World) : Prop :=
  match i with
  | 0 => v = .slice (some ⟨fb, 0, none⟩) m m
  | 1 => v = .int .i64 i0
  | 2 => v = .pointer (some ⟨g, 0, none⟩)
  | 3 => v = .pointer (some ⟨g, 0, none⟩)
  | 4 => v = .pointer (some ⟨g, 0, none⟩)
  | 5 => v = .int .u32 S
  | 6 => v = .pointer (some ⟨g, 0, none⟩)
  | 7 => v = .pointer (some ⟨g, 0, none⟩)
  | 8 => v = .pointer (some ⟨g, 67, none⟩)
  | 9 => v = .int .i64 f
  | 10 => v = .int .i64 i0
  | 11 => v = .int .i64 ((f : Int) + (i0 : Int))
  | 12 => v = .pointer (some ⟨g, 0, none⟩)
  | 13 => v = .pointer (some ⟨g, 0, none⟩)
  | 14 => v = .pointer (some ⟨g, 68, none⟩)
  | 15 => v = .int .i64 x
  | 16 => v = .pointer (some ⟨g, 0, none⟩)
  | 17 => v = .int .i64 i0
  | 18 => v = .pointer (some ⟨g, 0, none⟩)
  | 19 => v = .pointer (some ⟨g, 2, none⟩)
  | 20 => v = .pointer (some ⟨g, 2 + i0, none⟩)
  | 21 => v = .slice Ai n ci
  | 22 => IsOwnN w s v d n
  | 23 => BldHeld w S f i0 x n s d v
  | 24 => v = .pointer (some ⟨fb, i0 * 4, none⟩)
  | 25 => FrHeld w fb i0 S f x n s d cs2
  | _ => True

def EFm (g fb : Nat) (k : Nat) (u u' : World) : Prop := match k with
  | 25 => u.grownBy u' (some fb) ∧ ∃ cs3, Blk u fb 33 cs3
  | _ => Below u.heap.size u u'
def TFm (g fb : Nat) (cs2 : Array Value) (j : Nat) (u : World) : Prop := match j with
  | 25 => Blk u fb 33 cs2
  | _ => True
theorem VFm.mono {g fb m i0 S f x n s : Nat} {Ai : Option Addr} {ci : Nat} {d : List UInt8} {cs2 : Array Value} {k i : Nat} {v : Value} {u u' : World} (he : EFm g fb k u u') (hik : i ≠ k) (h : VFm g fb m i0 S f x n s Ai ci d cs2 i v u) : VFm g fb m i0 S f x n s Ai ci d cs2 i v u' := by
  unfold EFm at he
  split at he
  · obtain ⟨hg, cs3, hb⟩ := he
    unfold VFm at h ⊢
    split at h
    case h_23 => obtain ⟨A, c, e, h⟩ := h; exact ⟨A, c, e, h.kept hg (.inr (fun e => h.ne_blk hb frame_ne e.symm))⟩
    case h_24 => obtain ⟨A, c, e, h⟩ := h; exact ⟨A, c, e, h.kept hg (.inr (fun e => h.ne_blk hb frame_ne e.symm))⟩
    case h_26 => exact absurd rfl hik
    all_goals exact h
  · unfold VFm at h ⊢
    split at h
    case h_23 => exact IsOwnN.bt h he
    case h_24 => obtain ⟨A, c, e, h⟩ := h; exact ⟨A, c, e, h.below he (Nat.le_refl _)⟩
    case h_26 => obtain ⟨A, c, cs3, h0, h1, h2, h3, h4, h5, h6, h7⟩ := h; exact ⟨A, c, cs3, h0.below he h0.lt, h1, h2, h3, h4, h5, h6, h7.below he (Nat.le_refl _)⟩
    all_goals exact h
theorem TFm.mono {g fb : Nat} {cs2 : Array Value} {k j : Nat} {u u' : World} (he : EFm g fb k u u') (hkj : k ≠ j) (h : TFm g fb cs2 j u) : TFm g fb cs2 j u' := by
  unfold TFm at h ⊢
  split at h
  · unfold EFm at he
    split at he
    · exact absurd rfl hkj
    · exact h.below he h.lt
  · trivial
theorem step_make_run {P : Program} {w : World} {ops : Array Oper} {o : Oper} {a : Act} {K : Act → World → Prop} {Q : Exit → Act → World → Prop} {E : Prop} (hgd : o.guard = none) (l c : Operand) (t : TypeId)
    (ho : o.op = Op.makeSlice t l c) (lv cv v : Value) (w' : World) (hs : a.eval l = lv) (hx : a.eval c = cv) (hrun : (Instr.makeSlice t lv cv).run P w = .ok v w') (h : K (a.put o.dst v) w') :
    if Region.wanted o (yielded ops a.tmps) = true then Oper.wp P o a w K Q else E := by
  have hw : Region.wanted o (yielded ops a.tmps) = true := by simp [Region.wanted, hgd]
  rw [if_pos hw]
  unfold Oper.wp
  simp [execOp, ho, hs, hx, hrun, Result.andThen]
  exact h
theorem fr_set0 {cs2 : Array Value} {i0 m : Nat} {a b c d : Value} (hs : cs2.size = m * 4) (hi : i0 < m) : ((((cs2.setIfInBounds (i0 * 4) a).setIfInBounds (i0 * 4 + 1) b).setIfInBounds (i0 * 4 + 2) c).setIfInBounds (i0 * 4 + 3) d)[i0 * 4]? = some a := by
  rw [Array.getElem?_setIfInBounds_ne (by omega), Array.getElem?_setIfInBounds_ne (by omega), Array.getElem?_setIfInBounds_ne (by omega), Array.getElem?_setIfInBounds_self_of_lt (by omega)]
theorem fr_set1 {cs2 : Array Value} {i0 m : Nat} {a b c d : Value} (hs : cs2.size = m * 4) (hi : i0 < m) : ((((cs2.setIfInBounds (i0 * 4) a).setIfInBounds (i0 * 4 + 1) b).setIfInBounds (i0 * 4 + 2) c).setIfInBounds (i0 * 4 + 3) d)[i0 * 4 + 1]? = some b := by
  rw [Array.getElem?_setIfInBounds_ne (by omega), Array.getElem?_setIfInBounds_ne (by omega), Array.getElem?_setIfInBounds_self_of_lt (by simp; omega)]
theorem fr_set2 {cs2 : Array Value} {i0 m : Nat} {a b c d : Value} (hs : cs2.size = m * 4) (hi : i0 < m) : ((((cs2.setIfInBounds (i0 * 4) a).setIfInBounds (i0 * 4 + 1) b).setIfInBounds (i0 * 4 + 2) c).setIfInBounds (i0 * 4 + 3) d)[i0 * 4 + 2]? = some c := by
  rw [Array.getElem?_setIfInBounds_ne (by omega), Array.getElem?_setIfInBounds_self_of_lt (by simp; omega)]
theorem fr_set3 {cs2 : Array Value} {i0 m : Nat} {a b c d : Value} (hs : cs2.size = m * 4) (hi : i0 < m) : ((((cs2.setIfInBounds (i0 * 4) a).setIfInBounds (i0 * 4 + 1) b).setIfInBounds (i0 * 4 + 2) c).setIfInBounds (i0 * 4 + 3) d)[i0 * 4 + 3]? = some d := by
  rw [Array.getElem?_setIfInBounds_self_of_lt (by simp; omega)]
theorem fr_far {cs2 : Array Value} {i0 : Nat} {a b c d : Value} (j : Nat) (hj : j < i0 * 4 ∨ i0 * 4 + 4 ≤ j) : ((((cs2.setIfInBounds (i0 * 4) a).setIfInBounds (i0 * 4 + 1) b).setIfInBounds (i0 * 4 + 2) c).setIfInBounds (i0 * 4 + 3) d)[j]? = cs2[j]? := by
  rw [Array.getElem?_setIfInBounds_ne (by omega), Array.getElem?_setIfInBounds_ne (by omega), Array.getElem?_setIfInBounds_ne (by omega), Array.getElem?_setIfInBounds_ne (by omega)]
/-- A frame's cells in a row of frames. -/
def FrC (w : World) (B S f x : Nat) (cs : Array Value) (j : Nat) (d : List UInt8) : Prop := cs[j * 4]? = some (.int .u32 S) ∧ cs[j * 4 + 1]? = some (.int .i64 ((f : Int) + (j : Int))) ∧ cs[j * 4 + 2]? = some (.int .i64 x) ∧ ∃ A c, cs[j * 4 + 3]? = some (.slice A d.length c) ∧ Own w B 5 A c d
/-- What is to be sent now. -/
def framesL (W : Nat) (q : List (List UInt8)) (f : Nat) : List (Nat × List UInt8) := if q = [] then [(0, [])] else (List.range (min W q.length)).map fun i => (f + i, q.getD i [])
/-- Frames in memory of one's own. -/
def FrsAt (w : World) (B fb S x : Nat) (fs : List (Nat × List UInt8)) : Prop := ∃ cs, B ≤ fb ∧ Blk w fb 33 cs ∧ ∀ i, (h : i < fs.length) → cs[i * 4]? = some (.int .u32 S) ∧ cs[i * 4 + 1]? = some (.int .i64 ((fs[i]'h).1 : Nat)) ∧ cs[i * 4 + 2]? = some (.int .i64 x) ∧ ∃ A c, cs[i * 4 + 3]? = some (.slice A (fs[i]'h).2.length c) ∧ ∃ s, B ≤ s ∧ Own w s 5 A c (fs[i]'h).2

/-- The rows of the frames that are laid already. -/
def OldOwn (u : World) (B : Nat) (q : List (List UInt8)) (cs2 : Array Value) (i0 : Nat) : Prop := ∀ j, (hj : j < q.length) → j < i0 → ∀ A c, cs2[j * 4 + 3]? = some (.slice A (q[j]'hj).length c) → Own u B 5 A c (q[j]'hj)
theorem OldOwn.of {u : World} {B S f x i0 : Nat} {q : List (List UInt8)} {cs2 : Array Value} (h : ∀ j, (hj : j < q.length) → j < i0 → FrC u B S f x cs2 j (q[j]'hj)) : OldOwn u B q cs2 i0 := by
  intro j hj hi A c e
  obtain ⟨_, _, _, A1, c1, e1, o⟩ := h j hj hi
  rw [e1] at e
  cases e
  exact o
theorem OldOwn.below {u u' : World} {B i0 : Nat} {q : List (List UInt8)} {cs2 : Array Value} (h : OldOwn u B q cs2 i0) (he : Below u.heap.size u u') : OldOwn u' B q cs2 i0 :=
  fun j hj hi A c e => (h j hj hi A c e).below he (Nat.le_refl _)
theorem OldOwn.kept {u u' : World} {B i0 fb : Nat} {q : List (List UInt8)} {cs2 cs3 : Array Value} (h : OldOwn u B q cs2 i0) (hg : u.grownBy u' (some fb)) (hb : Blk u fb 33 cs3) : OldOwn u' B q cs2 i0 :=
  fun j hj hi A c e => (h j hj hi A c e).kept hg (.inr (fun e1 => (h j hj hi A c e).ne_blk hb frame_ne e1.symm))
theorem frs_of {w' : World} {B fb S x W f m : Nat} {q : List (List UInt8)} {cs : Array Value} (hq : q ≠ []) (hm : m = min W q.length) (hB : B ≤ fb) (hb : Blk w' fb 33 cs) (hall : ∀ j, (hj : j < q.length) → j < m → FrC w' B S f x cs j (q[j]'hj)) : FrsAt w' B fb S x (framesL W q f) := by
  have hl : (framesL W q f).length = m := by unfold framesL; rw [if_neg hq, List.length_map, List.length_range, hm]
  refine ⟨cs, hB, hb, fun i hi => ?_⟩
  have him : i < m := by omega
  have hiq : i < q.length := by omega
  have e : (framesL W q f)[i]'hi = (f + i, q[i]'hiq) := by
    unfold framesL
    simp [if_neg hq, List.getD_eq_getElem?_getD, List.getElem?_eq_getElem hiq]
  rw [e]
  obtain ⟨p0, p1, p2, A, c, p3, p4⟩ := hall i hiq him
  exact ⟨p0, by rw [p1]; simp, p2, A, c, p3, B, Nat.le_refl _, p4⟩

set_option maxRecDepth 100000 in
set_option maxHeartbeats 4000000 in
theorem frames_some {w : World} {g S W f x : Nat} {q : List (List UInt8)} {cs : Array Value} (h : EndAt w g S W q f x cs) (hq : q ≠ []) (m : Nat) (hm : m = min W q.length) :
    Calls Try.prog 17 #[.pointer (some ⟨g, 0, none⟩)] w fun e w' => ∃ fb, e = .returned (.slice (some ⟨fb, 0, none⟩) m m) ∧ FrsAt w' w.heap.size fb S x (framesL W q f) ∧ Below w.heap.size w w' := by
  have Hm := Lib.hid h.made
  obtain ⟨k, hk⟩ : ∃ k, k = q.length := ⟨_, rfl⟩
  have hk0 : 0 < k := by rw [hk]; exact List.length_pos_iff.2 hq
  have hcnt : Hid (cs[66]? = some (.int .i64 (k : Nat))) := Lib.hid (by rw [hk]; exact h.c66)
  have c66 := (h.blk.cell 66).trans hcnt.out
  have HP := Lib.hid (And.intro h hk)
  have hb0 := h.blk
  have hgl := h.blk.lt
  have hk64 : k ≤ 64 := by rw [hk]; exact h.ql
  have hw16 := h.w2
  have e0 : ((k : Int) == 0) = false := by simp; omega
  have hmk : m ≤ k ∧ m ≤ 16 := by rw [hm, hk]; exact ⟨Nat.min_le_right _ _, Nat.le_trans (Nat.min_le_left _ _) hw16⟩
  have hmc : Hid (m = min W k) := Lib.hid (by rw [hm, hk])
  have HQ := Lib.hid hq
  clear hm hk h hq
  have main : ∀ (b : Bool), b = decide (W ≤ k) → True := fun _ _ => trivial
  rcases Nat.lt_or_ge k W with hlt | hge
  · obtain rfl : m = k := by rw [hmc.out]; omega
    have hlI : ¬ (W : Int) ≤ (m : Int) := by omega
    go_enter Try.func17, Try.ntmps17
    go_wp2_with fail
    refine Hm.out.mono ?_
    rintro e w1 ⟨rfl, rfl⟩
    go_wp2_with fail
    refine wp_region_invT (F := ?FM1) (V := VMf g W m m w.heap.size) (dead := fun _ => none) (T := fun _ _ => True) (C := fun u => Blk u g 51 cs ∧ Below w.heap.size w u) (E := fun _ u u' => Below u.heap.size u u') (by kernel_rfl) (by kernel_rfl) (by kernel_rfl) (fun x_ => ?hFM1) ?hmonoM1 ?hTmM1 ?hTM1 ?hCM1 ?stepM1 ?finM1
    case hFM1 => simp only [mkA, Act.put, List.setIfInBounds_toArray, List.set_cons_succ, List.set_cons_zero, Nat.reduceAdd, Nat.zero_add]; first | with_reducible rfl | rfl
    case hmonoM1 => exact fun q' i v u u' he hik hwt hdd hv => VMf.mono he hv
    case hTmM1 => exact fun _ _ _ _ _ _ _ _ => trivial
    case hTM1 => exact fun j => trivial
    case hCM1 => exact ⟨hb0, (Below.refl _ _).drew⟩
    case stepM1 =>
      refine AllOps.cons (fun x_ u hC hT hp K hK => ?_) ?_
      · clear hp hT
        go_simp
        refine hK _ _ _ hC (Below.refl _ _) (by exact rfl) ?_
        first | (simp only [Act.put, List.setIfInBounds_toArray, List.set_cons_succ, List.set_cons_zero]; done) | simp [Act.put]
      refine AllOps.cons (fun x_ u hC hT hp K hK => ?_) ?_
      · simp [KnownTill, Region.binds, VMf] at hp
        clear hT
        go_simp
        refine hK _ _ _ hC (Below.refl _ _) (by exact rfl) ?_
        first | (simp only [Act.put, List.setIfInBounds_toArray, List.set_cons_succ, List.set_cons_zero, hp]; done) | simp [Act.put, hp]
      refine AllOps.cons (fun x_ u hC hT hp K hK => ?_) ?_
      · simp [KnownTill, Region.binds, VMf] at hp
        clear hT
        go_simp
        refine hK _ _ _ hC (Below.refl _ _) (by exact rfl) ?_
        first | (simp only [Act.put, List.setIfInBounds_toArray, List.set_cons_succ, List.set_cons_zero, hp]; done) | simp [Act.put, hp]
      refine AllOps.cons (fun x_ u hC hT hp K hK => ?_) ?_
      · simp [KnownTill, Region.binds, VMf] at hp
        clear hT
        have cc := (hC.1.cell 1).trans HP.out.1.c1
        go_simp
        refine hK _ _ _ hC (Below.refl _ _) (by exact rfl) ?_
        first | (simp only [Act.put, List.setIfInBounds_toArray, List.set_cons_succ, List.set_cons_zero, hp]; done) | simp [Act.put, hp]
      refine AllOps.cons (fun x_ u hC hT hp K hK => ?_) ?_
      · clear hp hT
        go_simp
        refine hK _ _ _ hC (Below.refl _ _) (by exact rfl) ?_
        first | (simp only [Act.put, List.setIfInBounds_toArray, List.set_cons_succ, List.set_cons_zero]; done) | simp [Act.put]
      refine AllOps.cons (fun x_ u hC hT hp K hK => ?_) ?_
      · simp [KnownTill, Region.binds, VMf] at hp
        clear hT
        go_simp
        refine hK _ _ _ hC (Below.refl _ _) (by exact rfl) ?_
        first | (simp only [Act.put, List.setIfInBounds_toArray, List.set_cons_succ, List.set_cons_zero, hp]; done) | simp [Act.put, hp]
      refine AllOps.cons (fun x_ u hC hT hp K hK => ?_) ?_
      · simp [KnownTill, Region.binds, VMf] at hp
        clear hT
        go_simp
        refine hK _ _ _ hC (Below.refl _ _) (by exact rfl) ?_
        first | (simp only [Act.put, List.setIfInBounds_toArray, List.set_cons_succ, List.set_cons_zero, hp]; done) | simp [Act.put, hp]
      refine AllOps.cons (fun x_ u hC hT hp K hK => ?_) ?_
      · simp [KnownTill, Region.binds, VMf] at hp
        clear hT
        have cc := (hC.1.cell 66).trans hcnt.out
        go_simp
        refine hK _ _ _ hC (Below.refl _ _) (by exact rfl) ?_
        first | (simp only [Act.put, List.setIfInBounds_toArray, List.set_cons_succ, List.set_cons_zero, hp]; done) | simp [Act.put, hp]
      refine AllOps.cons (fun x_ u hC hT hp K hK => ?_) ?_
      · simp [KnownTill, Region.binds, VMf] at hp
        clear hT
        go_simp
        refine hK (.int .i64 (m : Nat)) _ _ hC (Below.refl _ _) rfl ?_
        first | (simp only [Act.put, List.setIfInBounds_toArray, List.set_cons_succ, List.set_cons_zero, hp]; done) | (simp [Act.put, hp]; done) | (simp [Act.put, hp]; omega)
      refine AllOps.cons (fun x_ u hC hT hp K hK => ?_) ?_
      · simp [KnownTill, Region.binds, VMf] at hp
        clear hT
        have e8 : x_ 8 = .int .i64 m := by first | exact hp | exact hp.1
        obtain ⟨w', cs2, hrun, p1, p2, p3⟩ := make_frames u m (by omega)
        refine step_make_run rfl (.tmp 31) (.tmp 31) 41 rfl (.int .i64 m) (.int .i64 m) _ w' (by simp [Act.eval, e8]) (by simp [Act.eval, e8]) hrun ?_
        refine hK _ _ _ ⟨hC.1.below p3 hC.1.lt, bt hC.2 p3⟩ p3 ⟨_, cs2, rfl, hC.2.size, p1, p2⟩ ?_
        simp [Act.put, e8]
      refine AllOps.cons (fun x_ u hC hT hp K hK => ?_) ?_
      · simp [KnownTill, Region.binds, VMf] at hp
        clear hT
        obtain ⟨fb, cs2, e9, p0, p1, p2⟩ : MfHeld u m w.heap.size (x_ 9) := by first | exact hp | exact hp.1
        simp only [e9]
        go_simp
        refine hK _ _ _ hC (Below.refl _ _) ⟨fb, cs2, rfl, p0, p1, p2⟩ ?_
        simp [Act.put, hp, e9]
      exact AllOps.nil
    case finM1 =>
      intro x_ u5 hC hV
      obtain ⟨fb, cs2, e10, p0, p1, p2⟩ : MfHeld u5 m w.heap.size (x_ 10) := hV 10 (by decide) rfl
      have k5 := hC.1
      have b5 := hC.2
      rw [e10]
      clear hV e10 hC hb0
      have hgfb : g ≠ fb := fun e => p1.ne k5 frame_ne2 e.symm
      have Hfb := Lib.hid p0
      go_wp2_with fail
      go_loopw [35] (fun i wr => ∃ (i0 : Nat) (cs2 : Array Value), i0 ≤ m ∧ i = .int .i64 i0 ∧ Blk wr fb 33 cs2 ∧ Hid (cs2.size = m * 4) ∧ Hid (∀ j, (hj : j < q.length) → j < i0 → FrC wr w.heap.size S f x cs2 j (q[j]'hj)) ∧ Blk wr g 51 cs ∧ Below w.heap.size w wr) (fun i _ => m - (intOf i).toNat)
      case atStart => exact ⟨0, cs2, Nat.zero_le _, rfl, p1, p2, Lib.hid (fun j hj h => by omega), k5, b5⟩
      case round =>
        clear p1 p2 k5 b5
        obtain ⟨i0, cs2, him, rfl, kf, Hcs, hall, kg, hbr⟩ := hrel
        by_cases hi0 : i0 < m
        · have hiI : (i0 : Int) < (m : Int) := by omega
          have hi64 : (i0 : Int) < 64 := by omega
          have hiq : i0 < q.length := by rw [← HP.out.2]; omega
          obtain ⟨Ai, ci, hqi, hdi⟩ := HP.out.1.at_ i0 hiq
          have hdl := HP.out.1.qs _ (List.getElem_mem hiq)
          obtain ⟨d, hd⟩ : ∃ d, d = q[i0]'hiq := ⟨_, rfl⟩
          rw [← hd] at hqi hdi hdl
          obtain ⟨n, hn⟩ : ∃ n, n = d.length := ⟨_, rfl⟩
          rw [← hn] at hqi
          have Hd := Lib.hid (And.intro hn hd)
          have Hcl := Lib.hid (fun u (hu : Below w.heap.size w u) => clone_all Ai d n ci u (Lib.hid hn) (Lib.hid (by omega)) ((hdi.below hu).bs))
          have hwf : IntKind.i64.wrap ((f : Int) + (i0 : Int)) = (f : Int) + (i0 : Int) := IntWalk.i64_in _ (by have := HP.out.1.fq; omega)
          clear hd hn hdi hdl
          go_wp2_with fail
          refine wp_region_invT (F := ?FZ1) (V := VFm g fb m i0 S f x n w.heap.size Ai ci d cs2) (dead := fun _ => none) (T := TFm g fb cs2) (C := fun u => Blk u g 51 cs ∧ Below w.heap.size w u ∧ OldOwn u w.heap.size q cs2 i0) (E := EFm g fb) (by kernel_rfl) (by kernel_rfl) (by kernel_rfl) (fun x_ => ?hFZ1) ?hmonoZ1 ?hTmZ1 ?hTZ1 ?hCZ1 ?stepZ1 ?finZ1
          case hFZ1 => simp only [mkA, Act.put, List.setIfInBounds_toArray, List.set_cons_succ, List.set_cons_zero, Nat.reduceAdd, Nat.zero_add]; first | with_reducible rfl | rfl
          case hmonoZ1 => exact fun q' i v u u' he hik hwt hdd hv => VFm.mono he hik hv
          case hTmZ1 => exact fun q j' u u' he hkj hwt hv => TFm.mono he hkj hv
          case hTZ1 => exact fun j' => by unfold TFm; split <;> first | exact kf | trivial
          case hCZ1 => exact ⟨kg, hbr.drew, OldOwn.of hall.out⟩
          case stepZ1 =>
            refine AllOps.cons (fun x_ u hC hT hp K hK => ?_) ?_
            · clear hp hT
              go_simp
              refine hK _ _ _ hC (Below.refl _ _) (by exact rfl) ?_
              first | (simp only [Act.put, List.setIfInBounds_toArray, List.set_cons_succ, List.set_cons_zero]; done) | simp [Act.put]
            refine AllOps.cons (fun x_ u hC hT hp K hK => ?_) ?_
            · clear hp hT
              go_simp
              refine hK _ _ _ hC (Below.refl _ _) (by exact rfl) ?_
              first | (simp only [Act.put, List.setIfInBounds_toArray, List.set_cons_succ, List.set_cons_zero]; done) | simp [Act.put]
            refine AllOps.cons (fun x_ u hC hT hp K hK => ?_) ?_
            · clear hp hT
              go_simp
              refine hK _ _ _ hC (Below.refl _ _) (by exact rfl) ?_
              first | (simp only [Act.put, List.setIfInBounds_toArray, List.set_cons_succ, List.set_cons_zero]; done) | simp [Act.put]
            refine AllOps.cons (fun x_ u hC hT hp K hK => ?_) ?_
            · simp [KnownTill, Region.binds, VFm] at hp
              clear hT
              go_simp
              refine hK _ _ _ hC (Below.refl _ _) (by exact rfl) ?_
              first | (simp only [Act.put, List.setIfInBounds_toArray, List.set_cons_succ, List.set_cons_zero, hp]; done) | simp [Act.put, hp]
            refine AllOps.cons (fun x_ u hC hT hp K hK => ?_) ?_
            · simp [KnownTill, Region.binds, VFm] at hp
              clear hT
              go_simp
              refine hK _ _ _ hC (Below.refl _ _) (by exact rfl) ?_
              first | (simp only [Act.put, List.setIfInBounds_toArray, List.set_cons_succ, List.set_cons_zero, hp]; done) | simp [Act.put, hp]
            refine AllOps.cons (fun x_ u hC hT hp K hK => ?_) ?_
            · simp [KnownTill, Region.binds, VFm] at hp
              clear hT
              have cc := (hC.1.cell 0).trans HP.out.1.c0
              go_simp
              refine hK _ _ _ hC (Below.refl _ _) (by exact rfl) ?_
              first | (simp only [Act.put, List.setIfInBounds_toArray, List.set_cons_succ, List.set_cons_zero, hp]; done) | simp [Act.put, hp]
            refine AllOps.cons (fun x_ u hC hT hp K hK => ?_) ?_
            · clear hp hT
              go_simp
              refine hK _ _ _ hC (Below.refl _ _) (by exact rfl) ?_
              first | (simp only [Act.put, List.setIfInBounds_toArray, List.set_cons_succ, List.set_cons_zero]; done) | simp [Act.put]
            refine AllOps.cons (fun x_ u hC hT hp K hK => ?_) ?_
            · simp [KnownTill, Region.binds, VFm] at hp
              clear hT
              go_simp
              refine hK _ _ _ hC (Below.refl _ _) (by exact rfl) ?_
              first | (simp only [Act.put, List.setIfInBounds_toArray, List.set_cons_succ, List.set_cons_zero, hp]; done) | simp [Act.put, hp]
            refine AllOps.cons (fun x_ u hC hT hp K hK => ?_) ?_
            · simp [KnownTill, Region.binds, VFm] at hp
              clear hT
              go_simp
              refine hK _ _ _ hC (Below.refl _ _) (by exact rfl) ?_
              first | (simp only [Act.put, List.setIfInBounds_toArray, List.set_cons_succ, List.set_cons_zero, hp]; done) | simp [Act.put, hp]
            refine AllOps.cons (fun x_ u hC hT hp K hK => ?_) ?_
            · simp [KnownTill, Region.binds, VFm] at hp
              clear hT
              have cc := (hC.1.cell 67).trans HP.out.1.c67
              go_simp
              refine hK _ _ _ hC (Below.refl _ _) (by exact rfl) ?_
              first | (simp only [Act.put, List.setIfInBounds_toArray, List.set_cons_succ, List.set_cons_zero, hp]; done) | simp [Act.put, hp]
            refine AllOps.cons (fun x_ u hC hT hp K hK => ?_) ?_
            · clear hp hT
              go_simp
              refine hK _ _ _ hC (Below.refl _ _) (by exact rfl) ?_
              first | (simp only [Act.put, List.setIfInBounds_toArray, List.set_cons_succ, List.set_cons_zero]; done) | simp [Act.put]
            refine AllOps.cons (fun x_ u hC hT hp K hK => ?_) ?_
            · simp [KnownTill, Region.binds, VFm] at hp
              clear hT
              go_simp
              refine hK _ _ _ hC (Below.refl _ _) (by exact rfl) ?_
              first | (simp only [Act.put, List.setIfInBounds_toArray, List.set_cons_succ, List.set_cons_zero, hp]; done) | simp [Act.put, hp]
            refine AllOps.cons (fun x_ u hC hT hp K hK => ?_) ?_
            · clear hp hT
              go_simp
              refine hK _ _ _ hC (Below.refl _ _) (by exact rfl) ?_
              first | (simp only [Act.put, List.setIfInBounds_toArray, List.set_cons_succ, List.set_cons_zero]; done) | simp [Act.put]
            refine AllOps.cons (fun x_ u hC hT hp K hK => ?_) ?_
            · simp [KnownTill, Region.binds, VFm] at hp
              clear hT
              go_simp
              refine hK _ _ _ hC (Below.refl _ _) (by exact rfl) ?_
              first | (simp only [Act.put, List.setIfInBounds_toArray, List.set_cons_succ, List.set_cons_zero, hp]; done) | simp [Act.put, hp]
            refine AllOps.cons (fun x_ u hC hT hp K hK => ?_) ?_
            · simp [KnownTill, Region.binds, VFm] at hp
              clear hT
              go_simp
              refine hK _ _ _ hC (Below.refl _ _) (by exact rfl) ?_
              first | (simp only [Act.put, List.setIfInBounds_toArray, List.set_cons_succ, List.set_cons_zero, hp]; done) | simp [Act.put, hp]
            refine AllOps.cons (fun x_ u hC hT hp K hK => ?_) ?_
            · simp [KnownTill, Region.binds, VFm] at hp
              clear hT
              have cc := (hC.1.cell 68).trans HP.out.1.c68
              go_simp
              refine hK _ _ _ hC (Below.refl _ _) (by exact rfl) ?_
              first | (simp only [Act.put, List.setIfInBounds_toArray, List.set_cons_succ, List.set_cons_zero, hp]; done) | simp [Act.put, hp]
            refine AllOps.cons (fun x_ u hC hT hp K hK => ?_) ?_
            · clear hp hT
              go_simp
              refine hK _ _ _ hC (Below.refl _ _) (by exact rfl) ?_
              first | (simp only [Act.put, List.setIfInBounds_toArray, List.set_cons_succ, List.set_cons_zero]; done) | simp [Act.put]
            refine AllOps.cons (fun x_ u hC hT hp K hK => ?_) ?_
            · clear hp hT
              go_simp
              refine hK _ _ _ hC (Below.refl _ _) (by exact rfl) ?_
              first | (simp only [Act.put, List.setIfInBounds_toArray, List.set_cons_succ, List.set_cons_zero]; done) | simp [Act.put]
            refine AllOps.cons (fun x_ u hC hT hp K hK => ?_) ?_
            · simp [KnownTill, Region.binds, VFm] at hp
              clear hT
              go_simp
              refine hK _ _ _ hC (Below.refl _ _) (by exact rfl) ?_
              first | (simp only [Act.put, List.setIfInBounds_toArray, List.set_cons_succ, List.set_cons_zero, hp]; done) | simp [Act.put, hp]
            refine AllOps.cons (fun x_ u hC hT hp K hK => ?_) ?_
            · simp [KnownTill, Region.binds, VFm] at hp
              clear hT
              go_simp
              refine hK _ _ _ hC (Below.refl _ _) (by exact rfl) ?_
              first | (simp only [Act.put, List.setIfInBounds_toArray, List.set_cons_succ, List.set_cons_zero, hp]; done) | simp [Act.put, hp]
            refine AllOps.cons (fun x_ u hC hT hp K hK => ?_) ?_
            · simp [KnownTill, Region.binds, VFm] at hp
              clear hT
              go_simp
              refine hK _ _ _ hC (Below.refl _ _) (by exact rfl) ?_
              first | (simp only [Act.put, List.setIfInBounds_toArray, List.set_cons_succ, List.set_cons_zero, hp]; done) | simp [Act.put, hp]
            refine AllOps.cons (fun x_ u hC hT hp K hK => ?_) ?_
            · simp [KnownTill, Region.binds, VFm] at hp
              clear hT
              have cc := (hC.1.cell (2 + i0)).trans hqi
              go_simp
              refine hK _ _ _ hC (Below.refl _ _) (by exact rfl) ?_
              first | (simp only [Act.put, List.setIfInBounds_toArray, List.set_cons_succ, List.set_cons_zero, hp]; done) | simp [Act.put, hp]
            refine AllOps.cons (fun x_ u hC hT hp K hK => ?_) ?_
            · simp [KnownTill, Region.binds, VFm] at hp
              clear hT
              have h21 : x_ 21 = .slice Ai n ci := by first | exact hp | exact hp.1
              go_simp
              refine (Hcl.out u hC.2.1).mono ?_
              rintro e wA ⟨A6, c6, rfl, own6, hbA⟩
              refine hK _ _ _ ⟨hC.1.below hbA hC.1.lt, bt hC.2.1 hbA, hC.2.2.below hbA⟩ hbA ⟨A6, c6, rfl, own6.base_le hC.2.1.size⟩ ?_
              simp [Act.put, hp, h21]
            refine AllOps.cons (fun x_ u hC hT hp K hK => ?_) ?_
            · simp [KnownTill, Region.binds, VFm] at hp
              clear hT
              obtain ⟨A6, c6, h22, own6⟩ : IsOwnN u w.heap.size (x_ 22) d n := by first | exact hp.2.2.2 | exact hp.2.2 | exact hp.1 | exact hp.2.1 | exact hp.2.2.1 | exact hp
              simp only [h22]
              go_simp
              refine hK _ _ _ hC (Below.refl _ _) ⟨A6, c6, rfl, own6⟩ ?_
              simp [Act.put, hp, h22]
            refine AllOps.cons (fun x_ u hC hT hp K hK => ?_) ?_
            · simp [KnownTill, Region.binds, VFm] at hp
              clear hT
              go_simp
              refine hK _ _ _ hC (Below.refl _ _) (by exact rfl) ?_
              first | (simp only [Act.put, List.setIfInBounds_toArray, List.set_cons_succ, List.set_cons_zero, hp]; done) | simp [Act.put, hp]
            refine AllOps.cons (fun x_ u hC hT hp K hK => ?_) ?_
            · simp [KnownTill, Region.binds, VFm] at hp
              obtain ⟨A6, c6, h23, own6⟩ : BldHeld u S f i0 x n w.heap.size d (x_ 23) := by first | exact hp.1 | exact hp.2.1 | exact hp.2 | exact hp.2.2
              have h24 : x_ 24 = .pointer (some ⟨fb, i0 * 4, none⟩) := by first | exact hp.1 | exact hp.2 | exact hp.2.1
              have kb : Blk u fb 33 cs2 := hT
              have hsz := Hcs.out
              have k1 := kb.set_ (i0 * 4) (.int .u32 S)
              have k2 := k1.set_ (i0 * 4 + 1) (.int .i64 ((f : Int) + (i0 : Int)))
              have k3 := k2.set_ (i0 * 4 + 2) (.int .i64 x)
              have k4 := k3.set_ (i0 * 4 + 3) (.slice A6 n c6)
              obtain ⟨z0, hz0⟩ : ∃ z, cs2[i0 * 4]? = some z := ⟨_, Array.getElem?_eq_getElem (by omega)⟩
              obtain ⟨z1, hz1⟩ : ∃ z, (cs2.setIfInBounds (i0 * 4) (.int .u32 S))[i0 * 4 + 1]? = some z := ⟨_, Array.getElem?_eq_getElem (by simp; omega)⟩
              obtain ⟨z2, hz2⟩ : ∃ z, ((cs2.setIfInBounds (i0 * 4) (.int .u32 S)).setIfInBounds (i0 * 4 + 1) (.int .i64 ((f : Int) + (i0 : Int))))[i0 * 4 + 2]? = some z := ⟨_, Array.getElem?_eq_getElem (by simp; omega)⟩
              obtain ⟨z3, hz3⟩ : ∃ z, (((cs2.setIfInBounds (i0 * 4) (.int .u32 S)).setIfInBounds (i0 * 4 + 1) (.int .i64 ((f : Int) + (i0 : Int)))).setIfInBounds (i0 * 4 + 2) (.int .i64 x))[i0 * 4 + 3]? = some z := ⟨_, Array.getElem?_eq_getElem (by simp; omega)⟩
              have y0 := (kb.cell _).trans hz0
              have y1 := (k1.cell _).trans hz1
              have y2 := (k2.cell _).trans hz2
              have y3 := (k3.cell _).trans hz3
              have g0 := kb.frozen (i0 * 4)
              have g1 := k1.frozen (i0 * 4 + 1)
              have g2 := k2.frozen (i0 * 4 + 2)
              have g3 := k3.frozen (i0 * 4 + 3)
              have s1 := grown_set u ⟨fb, i0 * 4, none⟩ (.int .u32 S)
              have s2 := grown_set (u.setCell ⟨fb, i0 * 4, none⟩ (.int .u32 S)) ⟨fb, i0 * 4 + 1, none⟩ (.int .i64 ((f : Int) + (i0 : Int)))
              have s3 := grown_set ((u.setCell ⟨fb, i0 * 4, none⟩ (.int .u32 S)).setCell ⟨fb, i0 * 4 + 1, none⟩ (.int .i64 ((f : Int) + (i0 : Int)))) ⟨fb, i0 * 4 + 2, none⟩ (.int .i64 x)
              have s4 := grown_set (((u.setCell ⟨fb, i0 * 4, none⟩ (.int .u32 S)).setCell ⟨fb, i0 * 4 + 1, none⟩ (.int .i64 ((f : Int) + (i0 : Int)))).setCell ⟨fb, i0 * 4 + 2, none⟩ (.int .i64 x)) ⟨fb, i0 * 4 + 3, none⟩ (.slice A6 n c6)
              have hgr := grownBy_trans (grownBy_trans (grownBy_trans s1 s2) s3) s4
              have own7 := own6.kept hgr (.inr (fun e => own6.ne_blk kb frame_ne e.symm))
              have kg7 := hC.1.kept hgr (fun e => hgfb (by injection e))
              have hb7 := hC.2.1.grown hgr hC.2.1.size (fun k e => by cases e; exact Hfb.out)
              have ho7 := hC.2.2.kept hgr kb
              have HH := Lib.hid (And.intro kb (And.intro hgr (And.intro kg7 (And.intro hb7 (And.intro k4 (And.intro own7 ho7))))))
              have Hsz4 := Lib.hid hsz
              clear kb k1 k2 k3 k4 s1 s2 s3 s4 hgr own6 own7 kg7 hb7 ho7 hz0 hz1 hz2 hz3 hsz hT
              simp only [h23]
              go_simp
              refine hK undef _ _ ⟨HH.out.2.2.1, HH.out.2.2.2.1, HH.out.2.2.2.2.2.2⟩ ⟨HH.out.2.1, _, HH.out.1⟩ ⟨A6, c6, _, HH.out.2.2.2.2.1, by simp, fr_set0 Hsz4.out hi0, fr_set1 Hsz4.out hi0, fr_set2 Hsz4.out hi0, fr_set3 Hsz4.out hi0, fun j hj => fr_far j hj, HH.out.2.2.2.2.2.1⟩ ?_
              simp [Act.put, hp, h23, h24]
            exact AllOps.nil
          case finZ1 =>
            intro x_ u9 hC hV
            obtain ⟨A7, c7, cs3, kf3, z0, z1, z2, z3, z4, z5, own7⟩ : FrHeld u9 fb i0 S f x n w.heap.size d cs2 := hV 25 (by decide) rfl
            obtain ⟨kg9, hb9, ho9⟩ := hC
            have hnew : Hid (cs3.size = m * 4) := Lib.hid (z0.trans Hcs.out)
            have hcells : Hid (∀ j, (hj : j < q.length) → j < i0 + 1 → FrC u9 w.heap.size S f x cs3 j (q[j]'hj)) := Lib.hid (fun j hj hji => by
              by_cases e : j = i0
              · subst e
                exact ⟨z1, z2, z3, A7, c7, by rw [z4, Hd.out.1, Hd.out.2], by rw [← Hd.out.2]; exact own7⟩
              · obtain ⟨p0, p1, p2, A8, c8, p3, p4⟩ := hall.out j hj (by omega)
                exact ⟨(z5 _ (by omega)).trans p0, (z5 _ (by omega)).trans p1, (z5 _ (by omega)).trans p2, A8, c8, (z5 _ (by omega)).trans p3, ho9 j hj (by omega) A8 c8 p3⟩)
            clear hV own7 ho9 z0 z1 z2 z3 z4 z5 hall Hcl kg kf
            go_wp2
            go_roundw
            case rel => exact ⟨i0 + 1, cs3, by omega, by go_num, kf3, hnew, hcells, kg9, hb9⟩
            case measure => simp [intOf]; omega
        · obtain rfl : i0 = m := by omega
          have hiI : ¬ (i0 : Int) < (i0 : Int) := by omega
          have hfin := Lib.hid (frs_of (W := W) HQ.out (HP.out.2 ▸ hmc.out) Hfb.out kf hall.out)
          clear hall kf
          go_wp2_with fail
          go_ret
          exact ⟨_, rfl, hfin.out, hbr⟩
  · obtain rfl : m = W := by rw [hmc.out]; omega
    have hgI : (m : Int) ≤ (k : Int) := by omega
    go_enter Try.func17, Try.ntmps17
    go_wp2_with fail
    refine Hm.out.mono ?_
    rintro e w1 ⟨rfl, rfl⟩
    go_wp2_with fail
    refine wp_region_invT (F := ?FM2) (V := VMf g m k m w.heap.size) (dead := fun _ => none) (T := fun _ _ => True) (C := fun u => Blk u g 51 cs ∧ Below w.heap.size w u) (E := fun _ u u' => Below u.heap.size u u') (by kernel_rfl) (by kernel_rfl) (by kernel_rfl) (fun x_ => ?hFM2) ?hmonoM2 ?hTmM2 ?hTM2 ?hCM2 ?stepM2 ?finM2
    case hFM2 => simp only [mkA, Act.put, List.setIfInBounds_toArray, List.set_cons_succ, List.set_cons_zero, Nat.reduceAdd, Nat.zero_add]; first | with_reducible rfl | rfl
    case hmonoM2 => exact fun q' i v u u' he hik hwt hdd hv => VMf.mono he hv
    case hTmM2 => exact fun _ _ _ _ _ _ _ _ => trivial
    case hTM2 => exact fun j => trivial
    case hCM2 => exact ⟨hb0, (Below.refl _ _).drew⟩
    case stepM2 =>
      refine AllOps.cons (fun x_ u hC hT hp K hK => ?_) ?_
      · clear hp hT
        go_simp
        refine hK _ _ _ hC (Below.refl _ _) (by exact rfl) ?_
        first | (simp only [Act.put, List.setIfInBounds_toArray, List.set_cons_succ, List.set_cons_zero]; done) | simp [Act.put]
      refine AllOps.cons (fun x_ u hC hT hp K hK => ?_) ?_
      · simp [KnownTill, Region.binds, VMf] at hp
        clear hT
        go_simp
        refine hK _ _ _ hC (Below.refl _ _) (by exact rfl) ?_
        first | (simp only [Act.put, List.setIfInBounds_toArray, List.set_cons_succ, List.set_cons_zero, hp]; done) | simp [Act.put, hp]
      refine AllOps.cons (fun x_ u hC hT hp K hK => ?_) ?_
      · simp [KnownTill, Region.binds, VMf] at hp
        clear hT
        go_simp
        refine hK _ _ _ hC (Below.refl _ _) (by exact rfl) ?_
        first | (simp only [Act.put, List.setIfInBounds_toArray, List.set_cons_succ, List.set_cons_zero, hp]; done) | simp [Act.put, hp]
      refine AllOps.cons (fun x_ u hC hT hp K hK => ?_) ?_
      · simp [KnownTill, Region.binds, VMf] at hp
        clear hT
        have cc := (hC.1.cell 1).trans HP.out.1.c1
        go_simp
        refine hK _ _ _ hC (Below.refl _ _) (by exact rfl) ?_
        first | (simp only [Act.put, List.setIfInBounds_toArray, List.set_cons_succ, List.set_cons_zero, hp]; done) | simp [Act.put, hp]
      refine AllOps.cons (fun x_ u hC hT hp K hK => ?_) ?_
      · clear hp hT
        go_simp
        refine hK _ _ _ hC (Below.refl _ _) (by exact rfl) ?_
        first | (simp only [Act.put, List.setIfInBounds_toArray, List.set_cons_succ, List.set_cons_zero]; done) | simp [Act.put]
      refine AllOps.cons (fun x_ u hC hT hp K hK => ?_) ?_
      · simp [KnownTill, Region.binds, VMf] at hp
        clear hT
        go_simp
        refine hK _ _ _ hC (Below.refl _ _) (by exact rfl) ?_
        first | (simp only [Act.put, List.setIfInBounds_toArray, List.set_cons_succ, List.set_cons_zero, hp]; done) | simp [Act.put, hp]
      refine AllOps.cons (fun x_ u hC hT hp K hK => ?_) ?_
      · simp [KnownTill, Region.binds, VMf] at hp
        clear hT
        go_simp
        refine hK _ _ _ hC (Below.refl _ _) (by exact rfl) ?_
        first | (simp only [Act.put, List.setIfInBounds_toArray, List.set_cons_succ, List.set_cons_zero, hp]; done) | simp [Act.put, hp]
      refine AllOps.cons (fun x_ u hC hT hp K hK => ?_) ?_
      · simp [KnownTill, Region.binds, VMf] at hp
        clear hT
        have cc := (hC.1.cell 66).trans hcnt.out
        go_simp
        refine hK _ _ _ hC (Below.refl _ _) (by exact rfl) ?_
        first | (simp only [Act.put, List.setIfInBounds_toArray, List.set_cons_succ, List.set_cons_zero, hp]; done) | simp [Act.put, hp]
      refine AllOps.cons (fun x_ u hC hT hp K hK => ?_) ?_
      · simp [KnownTill, Region.binds, VMf] at hp
        clear hT
        go_simp
        refine hK (.int .i64 (m : Nat)) _ _ hC (Below.refl _ _) rfl ?_
        first | (simp only [Act.put, List.setIfInBounds_toArray, List.set_cons_succ, List.set_cons_zero, hp]; done) | (simp [Act.put, hp]; done) | (simp [Act.put, hp]; omega)
      refine AllOps.cons (fun x_ u hC hT hp K hK => ?_) ?_
      · simp [KnownTill, Region.binds, VMf] at hp
        clear hT
        have e8 : x_ 8 = .int .i64 m := by first | exact hp | exact hp.1
        obtain ⟨w', cs2, hrun, p1, p2, p3⟩ := make_frames u m (by omega)
        refine step_make_run rfl (.tmp 31) (.tmp 31) 41 rfl (.int .i64 m) (.int .i64 m) _ w' (by simp [Act.eval, e8]) (by simp [Act.eval, e8]) hrun ?_
        refine hK _ _ _ ⟨hC.1.below p3 hC.1.lt, bt hC.2 p3⟩ p3 ⟨_, cs2, rfl, hC.2.size, p1, p2⟩ ?_
        simp [Act.put, e8]
      refine AllOps.cons (fun x_ u hC hT hp K hK => ?_) ?_
      · simp [KnownTill, Region.binds, VMf] at hp
        clear hT
        obtain ⟨fb, cs2, e9, p0, p1, p2⟩ : MfHeld u m w.heap.size (x_ 9) := by first | exact hp | exact hp.1
        simp only [e9]
        go_simp
        refine hK _ _ _ hC (Below.refl _ _) ⟨fb, cs2, rfl, p0, p1, p2⟩ ?_
        simp [Act.put, hp, e9]
      exact AllOps.nil
    case finM2 =>
      intro x_ u5 hC hV
      obtain ⟨fb, cs2, e10, p0, p1, p2⟩ : MfHeld u5 m w.heap.size (x_ 10) := hV 10 (by decide) rfl
      have k5 := hC.1
      have b5 := hC.2
      rw [e10]
      clear hV e10 hC hb0
      have hgfb : g ≠ fb := fun e => p1.ne k5 frame_ne2 e.symm
      have Hfb := Lib.hid p0
      go_wp2_with fail
      go_loopw [35] (fun i wr => ∃ (i0 : Nat) (cs2 : Array Value), i0 ≤ m ∧ i = .int .i64 i0 ∧ Blk wr fb 33 cs2 ∧ Hid (cs2.size = m * 4) ∧ Hid (∀ j, (hj : j < q.length) → j < i0 → FrC wr w.heap.size S f x cs2 j (q[j]'hj)) ∧ Blk wr g 51 cs ∧ Below w.heap.size w wr) (fun i _ => m - (intOf i).toNat)
      case atStart => exact ⟨0, cs2, Nat.zero_le _, rfl, p1, p2, Lib.hid (fun j hj h => by omega), k5, b5⟩
      case round =>
        clear p1 p2 k5 b5
        obtain ⟨i0, cs2, him, rfl, kf, Hcs, hall, kg, hbr⟩ := hrel
        by_cases hi0 : i0 < m
        · have hiI : (i0 : Int) < (m : Int) := by omega
          have hi64 : (i0 : Int) < 64 := by omega
          have hiq : i0 < q.length := by rw [← HP.out.2]; omega
          obtain ⟨Ai, ci, hqi, hdi⟩ := HP.out.1.at_ i0 hiq
          have hdl := HP.out.1.qs _ (List.getElem_mem hiq)
          obtain ⟨d, hd⟩ : ∃ d, d = q[i0]'hiq := ⟨_, rfl⟩
          rw [← hd] at hqi hdi hdl
          obtain ⟨n, hn⟩ : ∃ n, n = d.length := ⟨_, rfl⟩
          rw [← hn] at hqi
          have Hd := Lib.hid (And.intro hn hd)
          have Hcl := Lib.hid (fun u (hu : Below w.heap.size w u) => clone_all Ai d n ci u (Lib.hid hn) (Lib.hid (by omega)) ((hdi.below hu).bs))
          have hwf : IntKind.i64.wrap ((f : Int) + (i0 : Int)) = (f : Int) + (i0 : Int) := IntWalk.i64_in _ (by have := HP.out.1.fq; omega)
          clear hd hn hdi hdl
          go_wp2_with fail
          refine wp_region_invT (F := ?FZ2) (V := VFm g fb m i0 S f x n w.heap.size Ai ci d cs2) (dead := fun _ => none) (T := TFm g fb cs2) (C := fun u => Blk u g 51 cs ∧ Below w.heap.size w u ∧ OldOwn u w.heap.size q cs2 i0) (E := EFm g fb) (by kernel_rfl) (by kernel_rfl) (by kernel_rfl) (fun x_ => ?hFZ2) ?hmonoZ2 ?hTmZ2 ?hTZ2 ?hCZ2 ?stepZ2 ?finZ2
          case hFZ2 => simp only [mkA, Act.put, List.setIfInBounds_toArray, List.set_cons_succ, List.set_cons_zero, Nat.reduceAdd, Nat.zero_add]; first | with_reducible rfl | rfl
          case hmonoZ2 => exact fun q' i v u u' he hik hwt hdd hv => VFm.mono he hik hv
          case hTmZ2 => exact fun q j' u u' he hkj hwt hv => TFm.mono he hkj hv
          case hTZ2 => exact fun j' => by unfold TFm; split <;> first | exact kf | trivial
          case hCZ2 => exact ⟨kg, hbr.drew, OldOwn.of hall.out⟩
          case stepZ2 =>
            refine AllOps.cons (fun x_ u hC hT hp K hK => ?_) ?_
            · clear hp hT
              go_simp
              refine hK _ _ _ hC (Below.refl _ _) (by exact rfl) ?_
              first | (simp only [Act.put, List.setIfInBounds_toArray, List.set_cons_succ, List.set_cons_zero]; done) | simp [Act.put]
            refine AllOps.cons (fun x_ u hC hT hp K hK => ?_) ?_
            · clear hp hT
              go_simp
              refine hK _ _ _ hC (Below.refl _ _) (by exact rfl) ?_
              first | (simp only [Act.put, List.setIfInBounds_toArray, List.set_cons_succ, List.set_cons_zero]; done) | simp [Act.put]
            refine AllOps.cons (fun x_ u hC hT hp K hK => ?_) ?_
            · clear hp hT
              go_simp
              refine hK _ _ _ hC (Below.refl _ _) (by exact rfl) ?_
              first | (simp only [Act.put, List.setIfInBounds_toArray, List.set_cons_succ, List.set_cons_zero]; done) | simp [Act.put]
            refine AllOps.cons (fun x_ u hC hT hp K hK => ?_) ?_
            · simp [KnownTill, Region.binds, VFm] at hp
              clear hT
              go_simp
              refine hK _ _ _ hC (Below.refl _ _) (by exact rfl) ?_
              first | (simp only [Act.put, List.setIfInBounds_toArray, List.set_cons_succ, List.set_cons_zero, hp]; done) | simp [Act.put, hp]
            refine AllOps.cons (fun x_ u hC hT hp K hK => ?_) ?_
            · simp [KnownTill, Region.binds, VFm] at hp
              clear hT
              go_simp
              refine hK _ _ _ hC (Below.refl _ _) (by exact rfl) ?_
              first | (simp only [Act.put, List.setIfInBounds_toArray, List.set_cons_succ, List.set_cons_zero, hp]; done) | simp [Act.put, hp]
            refine AllOps.cons (fun x_ u hC hT hp K hK => ?_) ?_
            · simp [KnownTill, Region.binds, VFm] at hp
              clear hT
              have cc := (hC.1.cell 0).trans HP.out.1.c0
              go_simp
              refine hK _ _ _ hC (Below.refl _ _) (by exact rfl) ?_
              first | (simp only [Act.put, List.setIfInBounds_toArray, List.set_cons_succ, List.set_cons_zero, hp]; done) | simp [Act.put, hp]
            refine AllOps.cons (fun x_ u hC hT hp K hK => ?_) ?_
            · clear hp hT
              go_simp
              refine hK _ _ _ hC (Below.refl _ _) (by exact rfl) ?_
              first | (simp only [Act.put, List.setIfInBounds_toArray, List.set_cons_succ, List.set_cons_zero]; done) | simp [Act.put]
            refine AllOps.cons (fun x_ u hC hT hp K hK => ?_) ?_
            · simp [KnownTill, Region.binds, VFm] at hp
              clear hT
              go_simp
              refine hK _ _ _ hC (Below.refl _ _) (by exact rfl) ?_
              first | (simp only [Act.put, List.setIfInBounds_toArray, List.set_cons_succ, List.set_cons_zero, hp]; done) | simp [Act.put, hp]
            refine AllOps.cons (fun x_ u hC hT hp K hK => ?_) ?_
            · simp [KnownTill, Region.binds, VFm] at hp
              clear hT
              go_simp
              refine hK _ _ _ hC (Below.refl _ _) (by exact rfl) ?_
              first | (simp only [Act.put, List.setIfInBounds_toArray, List.set_cons_succ, List.set_cons_zero, hp]; done) | simp [Act.put, hp]
            refine AllOps.cons (fun x_ u hC hT hp K hK => ?_) ?_
            · simp [KnownTill, Region.binds, VFm] at hp
              clear hT
              have cc := (hC.1.cell 67).trans HP.out.1.c67
              go_simp
              refine hK _ _ _ hC (Below.refl _ _) (by exact rfl) ?_
              first | (simp only [Act.put, List.setIfInBounds_toArray, List.set_cons_succ, List.set_cons_zero, hp]; done) | simp [Act.put, hp]
            refine AllOps.cons (fun x_ u hC hT hp K hK => ?_) ?_
            · clear hp hT
              go_simp
              refine hK _ _ _ hC (Below.refl _ _) (by exact rfl) ?_
              first | (simp only [Act.put, List.setIfInBounds_toArray, List.set_cons_succ, List.set_cons_zero]; done) | simp [Act.put]
            refine AllOps.cons (fun x_ u hC hT hp K hK => ?_) ?_
            · simp [KnownTill, Region.binds, VFm] at hp
              clear hT
              go_simp
              refine hK _ _ _ hC (Below.refl _ _) (by exact rfl) ?_
              first | (simp only [Act.put, List.setIfInBounds_toArray, List.set_cons_succ, List.set_cons_zero, hp]; done) | simp [Act.put, hp]
            refine AllOps.cons (fun x_ u hC hT hp K hK => ?_) ?_
            · clear hp hT
              go_simp
              refine hK _ _ _ hC (Below.refl _ _) (by exact rfl) ?_
              first | (simp only [Act.put, List.setIfInBounds_toArray, List.set_cons_succ, List.set_cons_zero]; done) | simp [Act.put]
            refine AllOps.cons (fun x_ u hC hT hp K hK => ?_) ?_
            · simp [KnownTill, Region.binds, VFm] at hp
              clear hT
              go_simp
              refine hK _ _ _ hC (Below.refl _ _) (by exact rfl) ?_
              first | (simp only [Act.put, List.setIfInBounds_toArray, List.set_cons_succ, List.set_cons_zero, hp]; done) | simp [Act.put, hp]
            refine AllOps.cons (fun x_ u hC hT hp K hK => ?_) ?_
            · simp [KnownTill, Region.binds, VFm] at hp
              clear hT
              go_simp
              refine hK _ _ _ hC (Below.refl _ _) (by exact rfl) ?_
              first | (simp only [Act.put, List.setIfInBounds_toArray, List.set_cons_succ, List.set_cons_zero, hp]; done) | simp [Act.put, hp]
            refine AllOps.cons (fun x_ u hC hT hp K hK => ?_) ?_
            · simp [KnownTill, Region.binds, VFm] at hp
              clear hT
              have cc := (hC.1.cell 68).trans HP.out.1.c68
              go_simp
              refine hK _ _ _ hC (Below.refl _ _) (by exact rfl) ?_
              first | (simp only [Act.put, List.setIfInBounds_toArray, List.set_cons_succ, List.set_cons_zero, hp]; done) | simp [Act.put, hp]
            refine AllOps.cons (fun x_ u hC hT hp K hK => ?_) ?_
            · clear hp hT
              go_simp
              refine hK _ _ _ hC (Below.refl _ _) (by exact rfl) ?_
              first | (simp only [Act.put, List.setIfInBounds_toArray, List.set_cons_succ, List.set_cons_zero]; done) | simp [Act.put]
            refine AllOps.cons (fun x_ u hC hT hp K hK => ?_) ?_
            · clear hp hT
              go_simp
              refine hK _ _ _ hC (Below.refl _ _) (by exact rfl) ?_
              first | (simp only [Act.put, List.setIfInBounds_toArray, List.set_cons_succ, List.set_cons_zero]; done) | simp [Act.put]
            refine AllOps.cons (fun x_ u hC hT hp K hK => ?_) ?_
            · simp [KnownTill, Region.binds, VFm] at hp
              clear hT
              go_simp
              refine hK _ _ _ hC (Below.refl _ _) (by exact rfl) ?_
              first | (simp only [Act.put, List.setIfInBounds_toArray, List.set_cons_succ, List.set_cons_zero, hp]; done) | simp [Act.put, hp]
            refine AllOps.cons (fun x_ u hC hT hp K hK => ?_) ?_
            · simp [KnownTill, Region.binds, VFm] at hp
              clear hT
              go_simp
              refine hK _ _ _ hC (Below.refl _ _) (by exact rfl) ?_
              first | (simp only [Act.put, List.setIfInBounds_toArray, List.set_cons_succ, List.set_cons_zero, hp]; done) | simp [Act.put, hp]
            refine AllOps.cons (fun x_ u hC hT hp K hK => ?_) ?_
            · simp [KnownTill, Region.binds, VFm] at hp
              clear hT
              go_simp
              refine hK _ _ _ hC (Below.refl _ _) (by exact rfl) ?_
              first | (simp only [Act.put, List.setIfInBounds_toArray, List.set_cons_succ, List.set_cons_zero, hp]; done) | simp [Act.put, hp]
            refine AllOps.cons (fun x_ u hC hT hp K hK => ?_) ?_
            · simp [KnownTill, Region.binds, VFm] at hp
              clear hT
              have cc := (hC.1.cell (2 + i0)).trans hqi
              go_simp
              refine hK _ _ _ hC (Below.refl _ _) (by exact rfl) ?_
              first | (simp only [Act.put, List.setIfInBounds_toArray, List.set_cons_succ, List.set_cons_zero, hp]; done) | simp [Act.put, hp]
            refine AllOps.cons (fun x_ u hC hT hp K hK => ?_) ?_
            · simp [KnownTill, Region.binds, VFm] at hp
              clear hT
              have h21 : x_ 21 = .slice Ai n ci := by first | exact hp | exact hp.1
              go_simp
              refine (Hcl.out u hC.2.1).mono ?_
              rintro e wA ⟨A6, c6, rfl, own6, hbA⟩
              refine hK _ _ _ ⟨hC.1.below hbA hC.1.lt, bt hC.2.1 hbA, hC.2.2.below hbA⟩ hbA ⟨A6, c6, rfl, own6.base_le hC.2.1.size⟩ ?_
              simp [Act.put, hp, h21]
            refine AllOps.cons (fun x_ u hC hT hp K hK => ?_) ?_
            · simp [KnownTill, Region.binds, VFm] at hp
              clear hT
              obtain ⟨A6, c6, h22, own6⟩ : IsOwnN u w.heap.size (x_ 22) d n := by first | exact hp.2.2.2 | exact hp.2.2 | exact hp.1 | exact hp.2.1 | exact hp.2.2.1 | exact hp
              simp only [h22]
              go_simp
              refine hK _ _ _ hC (Below.refl _ _) ⟨A6, c6, rfl, own6⟩ ?_
              simp [Act.put, hp, h22]
            refine AllOps.cons (fun x_ u hC hT hp K hK => ?_) ?_
            · simp [KnownTill, Region.binds, VFm] at hp
              clear hT
              go_simp
              refine hK _ _ _ hC (Below.refl _ _) (by exact rfl) ?_
              first | (simp only [Act.put, List.setIfInBounds_toArray, List.set_cons_succ, List.set_cons_zero, hp]; done) | simp [Act.put, hp]
            refine AllOps.cons (fun x_ u hC hT hp K hK => ?_) ?_
            · simp [KnownTill, Region.binds, VFm] at hp
              obtain ⟨A6, c6, h23, own6⟩ : BldHeld u S f i0 x n w.heap.size d (x_ 23) := by first | exact hp.1 | exact hp.2.1 | exact hp.2 | exact hp.2.2
              have h24 : x_ 24 = .pointer (some ⟨fb, i0 * 4, none⟩) := by first | exact hp.1 | exact hp.2 | exact hp.2.1
              have kb : Blk u fb 33 cs2 := hT
              have hsz := Hcs.out
              have k1 := kb.set_ (i0 * 4) (.int .u32 S)
              have k2 := k1.set_ (i0 * 4 + 1) (.int .i64 ((f : Int) + (i0 : Int)))
              have k3 := k2.set_ (i0 * 4 + 2) (.int .i64 x)
              have k4 := k3.set_ (i0 * 4 + 3) (.slice A6 n c6)
              obtain ⟨z0, hz0⟩ : ∃ z, cs2[i0 * 4]? = some z := ⟨_, Array.getElem?_eq_getElem (by omega)⟩
              obtain ⟨z1, hz1⟩ : ∃ z, (cs2.setIfInBounds (i0 * 4) (.int .u32 S))[i0 * 4 + 1]? = some z := ⟨_, Array.getElem?_eq_getElem (by simp; omega)⟩
              obtain ⟨z2, hz2⟩ : ∃ z, ((cs2.setIfInBounds (i0 * 4) (.int .u32 S)).setIfInBounds (i0 * 4 + 1) (.int .i64 ((f : Int) + (i0 : Int))))[i0 * 4 + 2]? = some z := ⟨_, Array.getElem?_eq_getElem (by simp; omega)⟩
              obtain ⟨z3, hz3⟩ : ∃ z, (((cs2.setIfInBounds (i0 * 4) (.int .u32 S)).setIfInBounds (i0 * 4 + 1) (.int .i64 ((f : Int) + (i0 : Int)))).setIfInBounds (i0 * 4 + 2) (.int .i64 x))[i0 * 4 + 3]? = some z := ⟨_, Array.getElem?_eq_getElem (by simp; omega)⟩
              have y0 := (kb.cell _).trans hz0
              have y1 := (k1.cell _).trans hz1
              have y2 := (k2.cell _).trans hz2
              have y3 := (k3.cell _).trans hz3
              have g0 := kb.frozen (i0 * 4)
              have g1 := k1.frozen (i0 * 4 + 1)
              have g2 := k2.frozen (i0 * 4 + 2)
              have g3 := k3.frozen (i0 * 4 + 3)
              have s1 := grown_set u ⟨fb, i0 * 4, none⟩ (.int .u32 S)
              have s2 := grown_set (u.setCell ⟨fb, i0 * 4, none⟩ (.int .u32 S)) ⟨fb, i0 * 4 + 1, none⟩ (.int .i64 ((f : Int) + (i0 : Int)))
              have s3 := grown_set ((u.setCell ⟨fb, i0 * 4, none⟩ (.int .u32 S)).setCell ⟨fb, i0 * 4 + 1, none⟩ (.int .i64 ((f : Int) + (i0 : Int)))) ⟨fb, i0 * 4 + 2, none⟩ (.int .i64 x)
              have s4 := grown_set (((u.setCell ⟨fb, i0 * 4, none⟩ (.int .u32 S)).setCell ⟨fb, i0 * 4 + 1, none⟩ (.int .i64 ((f : Int) + (i0 : Int)))).setCell ⟨fb, i0 * 4 + 2, none⟩ (.int .i64 x)) ⟨fb, i0 * 4 + 3, none⟩ (.slice A6 n c6)
              have hgr := grownBy_trans (grownBy_trans (grownBy_trans s1 s2) s3) s4
              have own7 := own6.kept hgr (.inr (fun e => own6.ne_blk kb frame_ne e.symm))
              have kg7 := hC.1.kept hgr (fun e => hgfb (by injection e))
              have hb7 := hC.2.1.grown hgr hC.2.1.size (fun k e => by cases e; exact Hfb.out)
              have ho7 := hC.2.2.kept hgr kb
              have HH := Lib.hid (And.intro kb (And.intro hgr (And.intro kg7 (And.intro hb7 (And.intro k4 (And.intro own7 ho7))))))
              have Hsz4 := Lib.hid hsz
              clear kb k1 k2 k3 k4 s1 s2 s3 s4 hgr own6 own7 kg7 hb7 ho7 hz0 hz1 hz2 hz3 hsz hT
              simp only [h23]
              go_simp
              refine hK undef _ _ ⟨HH.out.2.2.1, HH.out.2.2.2.1, HH.out.2.2.2.2.2.2⟩ ⟨HH.out.2.1, _, HH.out.1⟩ ⟨A6, c6, _, HH.out.2.2.2.2.1, by simp, fr_set0 Hsz4.out hi0, fr_set1 Hsz4.out hi0, fr_set2 Hsz4.out hi0, fr_set3 Hsz4.out hi0, fun j hj => fr_far j hj, HH.out.2.2.2.2.2.1⟩ ?_
              simp [Act.put, hp, h23, h24]
            exact AllOps.nil
          case finZ2 =>
            intro x_ u9 hC hV
            obtain ⟨A7, c7, cs3, kf3, z0, z1, z2, z3, z4, z5, own7⟩ : FrHeld u9 fb i0 S f x n w.heap.size d cs2 := hV 25 (by decide) rfl
            obtain ⟨kg9, hb9, ho9⟩ := hC
            have hnew : Hid (cs3.size = m * 4) := Lib.hid (z0.trans Hcs.out)
            have hcells : Hid (∀ j, (hj : j < q.length) → j < i0 + 1 → FrC u9 w.heap.size S f x cs3 j (q[j]'hj)) := Lib.hid (fun j hj hji => by
              by_cases e : j = i0
              · subst e
                exact ⟨z1, z2, z3, A7, c7, by rw [z4, Hd.out.1, Hd.out.2], by rw [← Hd.out.2]; exact own7⟩
              · obtain ⟨p0, p1, p2, A8, c8, p3, p4⟩ := hall.out j hj (by omega)
                exact ⟨(z5 _ (by omega)).trans p0, (z5 _ (by omega)).trans p1, (z5 _ (by omega)).trans p2, A8, c8, (z5 _ (by omega)).trans p3, ho9 j hj (by omega) A8 c8 p3⟩)
            clear hV own7 ho9 z0 z1 z2 z3 z4 z5 hall Hcl kg kf
            go_wp2
            go_roundw
            case rel => exact ⟨i0 + 1, cs3, by omega, by go_num, kf3, hnew, hcells, kg9, hb9⟩
            case measure => simp [intOf]; omega
        · obtain rfl : i0 = m := by omega
          have hiI : ¬ (i0 : Int) < (i0 : Int) := by omega
          have hfin := Lib.hid (frs_of (W := i0) HQ.out (HP.out.2 ▸ hmc.out) Hfb.out kf hall.out)
          clear hall kf
          go_wp2_with fail
          go_ret
          exact ⟨_, rfl, hfin.out, hbr⟩
end Go.Proofs.Ytkhnhidckiopnaa
