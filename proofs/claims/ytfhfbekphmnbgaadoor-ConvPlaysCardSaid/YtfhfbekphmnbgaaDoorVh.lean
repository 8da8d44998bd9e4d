/- Layer 10: how two sides may meet. -/
import Derived.Test.YtfhfbekphmnbgaaDoorVc
import Derived.Test.YtfhfbekphmnbgaaDoorInvT
import Derived.ChangeKeysEq
import Derived.Deep.MidRow
namespace Go.Proofs.YtfhfbekphmnbgaaDoor
open Go.RowKit
set_option linter.unusedVariables false
set_option linter.unusedSimpArgs false

theorem below_drew (w : World) : Below w.heap.size w w.drew := bdr w
def tab : List (Int × Bool × Int × Bool × Int) := [(1, false, 2, false, 0), (1, true, 3, false, 1), (1, true, 4, false, 1), (1, true, 5, false, 1), (10, false, 2, false, 2), (11, false, 2, false, 2), (1, true, 6, false, 2), (10, true, 7, false, 2), (11, true, 8, false, 2), (12, false, 12, false, 0)]
def mL : List Value := tab.flatMap fun m => [.int .i64 m.1, .bool m.2.1, .int .i64 m.2.2.1, .bool m.2.2.2.1, .int .i64 m.2.2.2.2]
/-- The table lies where it lay. -/
def Meets (w : World) : Prop := 0 < w.heap.size ∧ ∀ k v, mL[k]? = some v → w.cell? ⟨0, k, none⟩ = some v
theorem Meets.below {w w' : World} {B : Nat} (h : Meets w) (hB : 0 < B) (hb : Below B w w') : Meets w' := ⟨Nat.lt_of_lt_of_le h.1 hb.size, fun k v hk => (hb.cell (p := ⟨0, k, none⟩) hB).trans (h.2 k v hk)⟩
theorem Meets.bt {w w' : World} (h : Meets w) (hb : Below w.heap.size w w') : Meets w' := h.below h.1 hb
theorem wpList_load_tab {w : World} {ops : Array Oper} {rest : List Oper} {o : Oper} {a : Act} {Q : Exit → Act → World → Prop} (hgd : o.guard = none) (hop : o.op = .load 64 (.global 0)) (h : Meets w)
    (k : wpList Tryd.prog ops Q rest (a.put o.dst (.agg mL.toArray)) w) : wpList Tryd.prog ops Q (o :: rest) a w :=
  wpList_load_mid hgd 64 (.global 0) hop 0 0 rfl mL (.array 10 63) (fun j v hj => by rw [Nat.zero_add]; exact h.2 j v hj) Tryd.underlying64 rfl (by kernel_rfl) k
theorem idx_tab (q : Nat) (ma : Int) (mx : Bool) (mb : Int) (my : Bool) (mn : Int) (hm : tab[q]? = some (ma, mx, mb, my, mn)) (w : World) : (Instr.index 64 (.agg mL.toArray) (.int .i64 (q : Int))).run Tryd.prog w = .ok (.agg #[.int .i64 ma, .bool mx, .int .i64 mb, .bool my, .int .i64 mn]) w := by
  have hq : q < 10 := (List.getElem?_eq_some_iff.1 hm).1
  have hc : q = 0 ∨ q = 1 ∨ q = 2 ∨ q = 3 ∨ q = 4 ∨ q = 5 ∨ q = 6 ∨ q = 7 ∨ q = 8 ∨ q = 9 := by omega
  rcases hc with rfl | rfl | rfl | rfl | rfl | rfl | rfl | rfl | rfl | rfl
  all_goals
    simp only [tab, List.getElem?_cons_zero, List.getElem?_cons_succ, Option.some.injEq, Prod.mk.injEq] at hm
    obtain ⟨rfl, rfl, rfl, rfl, rfl⟩ := hm
    first | (with_unfolding_all rfl) | (show _ = _; kernel_rfl)
theorem wpList_index_tab {w : World} {ops : Array Oper} {rest : List Oper} {o : Oper} {a : Act} {Q : Exit → Act → World → Prop} (hgd : o.guard = none) (x i : Operand) (hop : o.op = .index 64 x i) (q : Nat) (ma : Int) (mx : Bool) (mb : Int) (my : Bool) (mn : Int) (hm : tab[q]? = some (ma, mx, mb, my, mn))
    (hx : a.eval x = .agg mL.toArray) (hi : a.eval i = .int .i64 (q : Int)) (k : wpList Tryd.prog ops Q rest (a.put o.dst (.agg #[.int .i64 ma, .bool mx, .int .i64 mb, .bool my, .int .i64 mn])) w) : wpList Tryd.prog ops Q (o :: rest) a w :=
  wpList_plain hgd fun K hK' => by
    unfold Oper.wp execOp
    simp only [hop, hx, hi, Sem.run_bind, Sem.run_pure, Result.andThen_ok, idx_tab q ma mx mb my mn hm w]
    exact hK' _ _ k
theorem eq24 (a : Int) (x : Bool) (b : Int) (y : Bool) (a' : Int) (x' : Bool) (b' : Int) (y' : Bool) (w : World) : (binOp .eql 24 (.agg #[.int .i64 a, .bool x, .int .i64 b, .bool y]) (.agg #[.int .i64 a', .bool x', .int .i64 b', .bool y'])).run Tryd.prog w = .ok (.bool (a == a' && (x == x' && (b == b' && y == y')))) w := by
  obtain ⟨i, hi⟩ : ∃ i, Tryd.prog.info? 23 = some i := Option.isSome_iff_exists.1 (by kernel_rfl)
  rw [run_eql_struct, run_equalIn_array w 9999 _ _ Tryd.underlying24 hi]
  have hc : Tryd.prog.cellsOf 23 = 2 := by kernel_rfl
  rw [hc]
  cases h1 : a == a' <;> cases h2 : x == x' <;> cases h3 : b == b' <;> cases h4 : y == y' <;> simp [Op.eqItems, List.range, List.range.loop, go_sem, h1, h2, h3, h4]
def VMt (s : Nat) (F G : Int) (o1 o2 : Nat) (a : Int) (x : Bool) (b : Int) (y : Bool) (i : Nat) (v : Value) (w : World) : Prop :=
  match i with
  | 0 => v = .int .i64 F
  | 1 => v = .pointer (some ⟨s, 1, none⟩)
  | 2 => v = .pointer (some ⟨s, o1, none⟩)
  | 3 => v = .agg #[.int .i64 a, .bool x]
  | 4 => v = .int .i64 F
  | 5 => v = .int .i64 G
  | 6 => v = .pointer (some ⟨s, 1, none⟩)
  | 7 => v = .pointer (some ⟨s, o2, none⟩)
  | 8 => v = .agg #[.int .i64 b, .bool y]
  | 9 => v = .agg #[.int .i64 a, .bool x, .int .i64 b, .bool y]
  | 10 => v = .pointer (some ⟨s + 1, 0, none⟩) ∧ ∃ z0 z1 z2 z3, Blk w (s + 1) 24 #[z0, z1, z2, z3]
  | 11 => Blk w (s + 1) 24 #[.int .i64 a, .bool x, .int .i64 b, .bool y]
  | _ => True
theorem Blk.set4 {w : World} {g : Nat} {t : TypeId} {x' y' z' u' x y z u : Value} (h : Blk w g t #[x', y', z', u']) : Blk ((((w.setCell ⟨g, 0, none⟩ x).setCell ⟨g, 1, none⟩ y).setCell ⟨g, 2, none⟩ z).setCell ⟨g, 3, none⟩ u) g t #[x, y, z, u] := by
  simpa using (((h.set_ 0 x).set_ 1 y).set_ 2 z).set_ 3 u
theorem below_set4 {B : Nat} {a w : World} (h : Below B a w) {g : Nat} (hg : B ≤ g) (x y z u : Value) : Below B a ((((w.setCell ⟨g, 0, none⟩ x).setCell ⟨g, 1, none⟩ y).setCell ⟨g, 2, none⟩ z).setCell ⟨g, 3, none⟩ u) :=
  (((h.setCell hg _).setCell hg _).setCell hg _).setCell hg _
theorem ltf {a : Bool} (h : a = false) (h2 : a = true) : False := by rw [h] at h2; cases h2
def EMt (s k : Nat) (u u' : World) : Prop := match k with
  | 10 => True
  | 11 => ∃ x y z t, u' = (((u.setCell ⟨s + 1, 0, none⟩ x).setCell ⟨s + 1, 1, none⟩ y).setCell ⟨s + 1, 2, none⟩ z).setCell ⟨s + 1, 3, none⟩ t
  | _ => u' = u
def TMt (s j : Nat) (u : World) : Prop := match j with
  | 10 => u.heap.size = s + 1
  | _ => True
theorem VMt.mono {s : Nat} {F G : Int} {o1 o2 : Nat} {a : Int} {x : Bool} {b : Int} {y : Bool} {k i : Nat} {v : Value} {u u' : World} (he : EMt s k u u') (hik : i ≠ k) (h8 : i = 11 ∧ k = 10 → False) (hv : VMt s F G o1 o2 a x b y i v u) : VMt s F G o1 o2 a x b y i v u' := by
  unfold EMt at he
  split at he
  · unfold VMt at hv ⊢
    split at hv <;> first | with_reducible exact hv | exact absurd rfl hik | exact absurd ⟨rfl, rfl⟩ h8
  · obtain ⟨x, y, z, t, rfl⟩ := he
    unfold VMt at hv ⊢
    split at hv <;> first | with_reducible exact hv | exact absurd rfl hik | exact ⟨hv.1, let ⟨a, b, d, e, h⟩ := hv.2; ⟨x, y, z, t, h.set4⟩⟩
  · rw [he]; exact hv
theorem TMt.mono {s s' : Nat} {k j : Nat} {u u' : World} (he : EMt s' k u u') (hkj : k ≠ j) (hv : TMt s j u) : TMt s j u' := by
  unfold EMt at he
  split at he
  · unfold TMt at hv ⊢
    split at hv <;> first | exact absurd rfl hkj | trivial
  · obtain ⟨x, y, z, t, rfl⟩ := he
    unfold TMt at hv ⊢
    split at hv
    · simpa using hv
    · trivial
  · rw [he]; exact hv
theorem TMt.of {s : Nat} {u : World} (h : u.heap.size = s + 1) (j : Nat) : TMt s j u := by
  unfold TMt; split
  · exact h
  · trivial
/-- What the first one must be, as a list of values: m's side as the table has it. -/
def hit (a : Int) (x : Bool) (b : Int) (y : Bool) (l : Int) (m : Int × Bool × Int × Bool × Int) : Bool := decide (m.2.2.2.2 ≤ l) && (a == m.1 && (x == m.2.1 && (b == m.2.2.1 && y == m.2.2.2.1)))
def meetM (c : Int × Int × Bool × Int × Bool × Int) (f : Bool) : Bool := match c with
  | (l, s0, w0, s1, w1, t) => (if f then tab.any (hit s1 w1 s0 w0 l) else tab.any (hit s0 w0 s1 w1 l)) || (l == 2 && (stM c f == baseM c f && (wtM c f == true && (stM c (!f) == 9 && wtM c (!f) == false))))

set_option maxRecDepth 100000 in
set_option maxHeartbeats 4000000 in
theorem meet_f (l s0 : Int) (w0 : Bool) (s1 : Int) (w1 : Bool) (t : Int) (w : World) (h : Meets w) : Calls Tryd.prog 23 #[cv (l, s0, w0, s1, w1, t), .int .i64 0] w fun e w' => e = .returned (.bool (meetM (l, s0, w0, s1, w1, t) false)) ∧ Below w.heap.size w w' := by
  have ho := fun w => other_any false w
  obtain ⟨R, hR⟩ : ∃ R, R = meetM (l, s0, w0, s1, w1, t) false := ⟨_, rfl⟩
  rw [← hR]
  have HR := Lib.hid hR
  clear hR
  simp only [cv, bi, Bool.not_true, Bool.not_false, if_true, if_false, Bool.false_eq_true] at *
  have k1 := Blk.new w 26 #[.int .i64 l, .int .i64 s0, .bool w0, .int .i64 s1, .bool w1, .int .i64 t]
  have hbw := ba w (.cells #[.int .i64 l, .int .i64 s0, .bool w0, .int .i64 s1, .bool w1, .int .i64 t] 26)
  have hsz : (w.alloc (.cells #[.int .i64 l, .int .i64 s0, .bool w0, .int .i64 s1, .bool w1, .int .i64 t] 26)).drew.heap.size = w.heap.size + 1 := by show (w.alloc _).heap.size = _; simp
  go_enter Tryd.func23, Tryd.ntmps23
  go_wp2_with fail
  generalize (w.alloc (.cells #[.int .i64 l, .int .i64 s0, .bool w0, .int .i64 s1, .bool w1, .int .i64 t] 26)) = w1b at hbw k1 hsz ⊢
  have hsz' : w1b.heap.size = w.heap.size + 1 := hsz
  refine wp_region_invT (F := ?FM) (V := VMt w.heap.size 0 1 1 3 s0 w0 s1 w1) (dead := fun _ => none) (T := TMt w.heap.size) (C := fun u' => Blk u' w.heap.size 26 #[.int .i64 l, .int .i64 s0, .bool w0, .int .i64 s1, .bool w1, .int .i64 t] ∧ Below w.heap.size w u' ∧ w.heap.size + 1 ≤ u'.heap.size) (E := EMt w.heap.size) (by kernel_rfl) (by kernel_rfl) (by kernel_rfl) (fun x => ?hFM) ?hmonoM ?hTmM ?hTM ?hCM ?stepM ?finM
  case hFM => simp only [mkA, Act.put, List.setIfInBounds_toArray, List.set_cons_succ, List.set_cons_zero, Nat.reduceAdd, Nat.zero_add]; first | with_reducible rfl | rfl
  case hmonoM => exact fun k i v u u' he hik hwt hdd hv => VMt.mono he hik (fun h => ltf hwt (by rw [h.1, h.2]; kernel_rfl)) hv
  case hTmM => exact fun k j u u' he hkj hwt hv => TMt.mono he hkj hv
  case hTM => exact fun j => TMt.of hsz j
  case hCM => exact ⟨k1, bt hbw (below_drew _), by show _ ≤ w1b.heap.size; omega⟩
  case stepM =>
    refine AllOps.cons (fun x u hC hT hp K hK => ?_) ?_
    · clear hp hT
      go_simp
      refine hK _ _ _ hC (by rfl) (by exact rfl) ?_
      first | (simp only [Act.put, List.setIfInBounds_toArray, List.set_cons_succ, List.set_cons_zero]; done) | simp [Act.put]
    refine AllOps.cons (fun x u hC hT hp K hK => ?_) ?_
    · clear hp hT
      go_simp
      refine hK _ _ _ hC (by rfl) (by exact rfl) ?_
      first | (simp only [Act.put, List.setIfInBounds_toArray, List.set_cons_succ, List.set_cons_zero]; done) | simp [Act.put]
    refine AllOps.cons (fun x u hC hT hp K hK => ?_) ?_
    · simp [KnownTill, Region.binds, VMt] at hp
      clear hT
      go_simp
      refine hK _ _ _ hC (by rfl) (by exact rfl) ?_
      first | (simp only [Act.put, List.setIfInBounds_toArray, List.set_cons_succ, List.set_cons_zero, hp]; done) | simp [Act.put, hp]
    refine AllOps.cons (fun x u hC hT hp K hK => ?_) ?_
    · simp [KnownTill, Region.binds, VMt] at hp
      clear hT
      have ca := hC.1.cell 1
      have cb := hC.1.cell 2
      simp at ca cb
      go_simp
      refine hK _ _ _ hC (by rfl) (by exact rfl) ?_
      first | (simp only [Act.put, List.setIfInBounds_toArray, List.set_cons_succ, List.set_cons_zero, hp]; done) | simp [Act.put, hp]
    refine AllOps.cons (fun x u hC hT hp K hK => ?_) ?_
    · clear hp hT
      go_simp
      refine hK _ _ _ hC (by rfl) (by exact rfl) ?_
      first | (simp only [Act.put, List.setIfInBounds_toArray, List.set_cons_succ, List.set_cons_zero]; done) | simp [Act.put]
    refine AllOps.cons (fun x u hC hT hp K hK => ?_) ?_
    · simp [KnownTill, Region.binds, VMt] at hp
      clear hT
      go_simp
      refine (ho u).mono ?_
      rintro e wA ⟨rfl, rfl⟩
      refine hK _ _ _ hC (by rfl) (by exact rfl) ?_
      first | (simp only [Act.put, List.setIfInBounds_toArray, List.set_cons_succ, List.set_cons_zero, hp]; done) | simp [Act.put, hp]
    refine AllOps.cons (fun x u hC hT hp K hK => ?_) ?_
    · clear hp hT
      go_simp
      refine hK _ _ _ hC (by rfl) (by exact rfl) ?_
      first | (simp only [Act.put, List.setIfInBounds_toArray, List.set_cons_succ, List.set_cons_zero]; done) | simp [Act.put]
    refine AllOps.cons (fun x u hC hT hp K hK => ?_) ?_
    · simp [KnownTill, Region.binds, VMt] at hp
      clear hT
      go_simp
      refine hK _ _ _ hC (by rfl) (by exact rfl) ?_
      first | (simp only [Act.put, List.setIfInBounds_toArray, List.set_cons_succ, List.set_cons_zero, hp]; done) | simp [Act.put, hp]
    refine AllOps.cons (fun x u hC hT hp K hK => ?_) ?_
    · simp [KnownTill, Region.binds, VMt] at hp
      clear hT
      have ca := hC.1.cell 3
      have cb := hC.1.cell 4
      simp at ca cb
      go_simp
      refine hK _ _ _ hC (by rfl) (by exact rfl) ?_
      first | (simp only [Act.put, List.setIfInBounds_toArray, List.set_cons_succ, List.set_cons_zero, hp]; done) | simp [Act.put, hp]
    refine AllOps.cons (fun x u hC hT hp K hK => ?_) ?_
    · simp [KnownTill, Region.binds, VMt] at hp
      clear hT
      go_simp
      refine hK _ _ _ hC (by rfl) (by exact rfl) ?_
      first | (simp only [Act.put, List.setIfInBounds_toArray, List.set_cons_succ, List.set_cons_zero, hp]; done) | simp [Act.put, hp]
    refine AllOps.cons (fun x u hC hT hp K hK => ?_) ?_
    · clear hp
      have hT1 : u.heap.size = w.heap.size + 1 := hT
      clear hT
      have kn := Blk.new u 24 #[.int .i64 0, .bool false, .int .i64 0, .bool false]
      rw [hT1] at kn
      have HT1 := Lib.hid hT1
      clear hT1
      go_simp
      refine hK (.pointer (some ⟨u.heap.size, 0, none⟩)) _ (u.alloc (.cells #[.int .i64 0, .bool false, .int .i64 0, .bool false] 24)) ⟨hC.1.alloc _, bt hC.2.1 (ba _ _), Nat.le_trans hC.2.2 (ba u (.cells #[.int .i64 0, .bool false, .int .i64 0, .bool false] 24)).size⟩ trivial ⟨by rw [HT1.out], _, _, _, _, kn⟩ ?_
      first | (simp only [Act.put, List.setIfInBounds_toArray, List.set_cons_succ, List.set_cons_zero]; done) | simp [Act.put]
    refine AllOps.cons (fun x u hC hT hp K hK => ?_) ?_
    · simp [KnownTill, Region.binds, VMt] at hp
      clear hT
      obtain ⟨⟨h11, x1, x2, x3, x4, k2⟩, h10, hrest⟩ := hp
      clear hrest
      have d0 := k2.cell 0
      have d1 := k2.cell 1
      have d2 := k2.cell 2
      have d3 := k2.cell 3
      have f0 := k2.frozen 0
      have f1 := k2.frozen 1
      have f2 := k2.frozen 2
      have f3 := k2.frozen 3
      simp at d0 d1 d2 d3
      have hbl := k2.set4 (x := .int .i64 s0) (y := .bool w0) (z := .int .i64 s1) (u := .bool w1)
      have hbb := below_set4 (g := w.heap.size + 1) hC.2.1 (by omega) (.int .i64 s0) (.bool w0) (.int .i64 s1) (.bool w1)
      have hCC := hC.1
      clear k2
      go_simp
      refine hK undef _ ((((u.setCell ⟨w.heap.size + 1, 0, none⟩ (.int .i64 s0)).setCell ⟨w.heap.size + 1, 1, none⟩ (.bool w0)).setCell ⟨w.heap.size + 1, 2, none⟩ (.int .i64 s1)).setCell ⟨w.heap.size + 1, 3, none⟩ (.bool w1)) ⟨(((hCC.far (by show w.heap.size ≠ w.heap.size + 1; omega) _).far (by show w.heap.size ≠ w.heap.size + 1; omega) _).far (by show w.heap.size ≠ w.heap.size + 1; omega) _).far (by show w.heap.size ≠ w.heap.size + 1; omega) _, hbb, by simpa using hC.2.2⟩ ⟨_, _, _, _, rfl⟩ hbl ?_
      simp [Act.put, h11, h10]
    exact AllOps.nil
  case finM =>
    intro x u hC hV
    have h11 : x 10 = .pointer (some ⟨w.heap.size + 1, 0, none⟩) := (hV 10 (by decide) rfl).1
    have k2 : Blk u (w.heap.size + 1) 24 #[.int .i64 s0, .bool w0, .int .i64 s1, .bool w1] := hV 11 (by decide) rfl
    rw [h11]
    obtain ⟨k0, hbu, _⟩ := hC
    clear hV h11
    have hmu := h.bt hbu
    go_wp2_with (refine wpList_load_tab rfl rfl hmu ?_)
    have kb2 := k2
    clear hbw k1 hsz hsz'
    go_loopw [20] (fun i wr => ∃ q : Nat, q ≤ 10 ∧ i = .int .i64 q ∧ Hid (∀ j m, tab[j]? = some m → j < q → hit s0 w0 s1 w1 l m = false) ∧ Below u.heap.size u wr) (fun i _ => 10 - (intOf i).toNat)
    case atStart => exact ⟨0, Nat.zero_le _, rfl, Lib.hid (fun j m _ hj => absurd hj (by omega)), Below.refl _ _⟩
    case round =>
      obtain ⟨q, hq, rfl, hbq, hbr⟩ := hrel
      have k3 := k2.below hbr k2.lt
      have k4 := k0.below hbr k0.lt
      by_cases hql : q < 10
      · have hqI : (q : Int) < 10 := by omega
        obtain ⟨⟨ma, mx, mb, my, mn⟩, hm⟩ : ∃ m, tab[q]? = some m := ⟨tab[q]'hql, List.getElem?_eq_getElem hql⟩
        have hm2 := Lib.hid hm
        have k3a := k3.alloc (.cells #[.int .i64 ma, .bool mx, .int .i64 mb, .bool my, .int .i64 mn] 63)
        have k4a := k4.alloc (.cells #[.int .i64 ma, .bool mx, .int .i64 mb, .bool my, .int .i64 mn] 63)
        have c0 := k3a.cell 0
        have c1 := k3a.cell 1
        have c2 := k3a.cell 2
        have c3 := k3a.cell 3
        have d0 := k4a.cell 0
        simp only [List.getElem?_toArray, List.getElem?_cons_zero, List.getElem?_cons_succ] at c0 c1 c2 c3 d0
        have hba := bt hbr (ba wr (.cells #[.int .i64 ma, .bool mx, .int .i64 mb, .bool my, .int .i64 mn] 63))
        have he := eq24 s0 w0 s1 w1 ma mx mb my
        have hnext : hit s0 w0 s1 w1 l (ma, mx, mb, my, mn) = false → Hid (∀ j m, tab[j]? = some m → j < q + 1 → hit s0 w0 s1 w1 l m = false) := fun hh => Lib.hid fun j m hj hjq => by
          rcases Nat.lt_or_ge j q with h1 | h1
          · exact hbq.out j m hj h1
          · obtain rfl : j = q := by omega
            rw [hm2.out] at hj
            obtain rfl := Option.some.inj hj
            exact hh
        unfold hit at hnext
        have hyes : (decide (mn ≤ l) && (s0 == ma && (w0 == mx && (s1 == mb && w1 == my)))) = true → Hid (meetM (l, s0, w0, s1, w1, t) false = true) := fun hh => Lib.hid (by
          have hin : (ma, mx, mb, my, mn) ∈ tab := List.mem_of_getElem? hm2.out
          have : tab.any (hit s0 w0 s1 w1 l) = true := List.any_eq_true.2 ⟨_, hin, hh⟩
          simp [meetM, this])
        clear hbq k3 k4 k3a k4a hm
        have hm := hm2.out
        simp only [] at hnext hyes
        generalize (s0 == ma && (w0 == mx && (s1 == mb && w1 == my))) = R4 at *
        rcases g1 : decide (mn ≤ l) with _ | _
        · rw [g1] at hnext hyes
          have hn2 := hnext (by simp)
          clear hnext hyes
          go_wp2_with (refine wpList_index_tab rfl _ _ rfl q ma mx mb my mn hm rfl rfl ?_)
          go_roundw
          case rel => exact ⟨q + 1, by omega, by go_num, hn2, hba⟩
          case measure => simp [intOf]; omega
        · rw [g1] at hnext hyes
          cases R4
          · have hn2 := hnext (by simp)
            clear hnext hyes
            go_wp2_with (refine wpList_index_tab rfl _ _ rfl q ma mx mb my mn hm rfl rfl ?_)
            go_roundw
            case rel => exact ⟨q + 1, by omega, by go_num, hn2, hba⟩
            case measure => simp [intOf]; omega
          · have hn2 := hyes (by simp)
            clear hnext hyes
            go_wp2_with (refine wpList_index_tab rfl _ _ rfl q ma mx mb my mn hm rfl rfl ?_)
            go_ret
            exact ⟨by rw [HR.out.trans hn2.out]; rfl, bt hbu hba⟩
      · obtain rfl : q = 10 := by omega
        have hnone : tab.any (hit s0 w0 s1 w1 l) = false := by
          rw [Bool.eq_false_iff]
          intro hc
          obtain ⟨m, hin, hh⟩ := List.any_eq_true.1 hc
          obtain ⟨j, hj, hjm⟩ := List.getElem_of_mem hin
          have := hbq.out j m (by rw [List.getElem?_eq_getElem hj, hjm]) hj
          rw [hh] at this
          cases this
        have hMM : Hid (meetM (l, s0, w0, s1, w1, t) false = (l == 2 && (s0 == baseM (l, s0, w0, s1, w1, t) false && (w0 == true && (s1 == 9 && w1 == false))))) := Lib.hid (by
          unfold meetM
          simp only [if_true, if_false, Bool.false_eq_true, hnone, Bool.false_or]
          rfl)
        have hb0 := fun w => base_any l s0 w0 s1 w1 t w false
        have HR := Lib.hid (HR.out.trans hMM.out)
        clear hMM hnone hbq
        generalize baseM (l, s0, w0, s1, w1, t) false = bb at *
        have he := eq24 s0 w0 s1 w1 bb true 9 false
        have hbq := bt hbu hbr
        have e0 := k4.cell 0
        have e1 := k4.cell 1
        have e2 := k4.cell 2
        have e3 := k4.cell 3
        have e4 := k4.cell 4
        have e5 := k4.cell 5
        simp only [List.getElem?_toArray, List.getElem?_cons_zero, List.getElem?_cons_succ] at e0 e1 e2 e3 e4 e5
        simp only [cv, bi, if_true, if_false, Bool.false_eq_true] at hb0
        generalize (s0 == bb && (w0 == true && (s1 == 9 && w1 == false))) = R5 at *
        go_wp2_with fail
        refine (hb0 _).mono ?_
        rintro e wB ⟨rfl, hbB⟩
        have k3 := k3.below hbB k3.lt
        have k4 := k4.below hbB k4.lt
        have hbq := bt hbq hbB
        clear e0 e1 e2 e3 e4 e5 hbB hb0
        have k3a := k3.alloc (.cells #[.int .i64 bb, .bool true, .int .i64 9, .bool false] 24)
        have k4a := k4.alloc (.cells #[.int .i64 bb, .bool true, .int .i64 9, .bool false] 24)
        have c0 := k3a.cell 0
        have c1 := k3a.cell 1
        have c2 := k3a.cell 2
        have c3 := k3a.cell 3
        have d0 := k4a.cell 0
        simp only [List.getElem?_toArray, List.getElem?_cons_zero, List.getElem?_cons_succ] at c0 c1 c2 c3 d0
        have hba := bt hbq (ba wB (.cells #[.int .i64 bb, .bool true, .int .i64 9, .bool false] 24))
        clear k3 k4 k3a k4a k0 k2 kb2 hbr hbu
        rcases g1 : (l == 2) with _ | _
        · rw [g1] at HR
          go_wp2
          go_ret
          exact ⟨by rw [HR.out]; rfl, hba⟩
        · rw [g1] at HR
          cases R5
          all_goals
            go_wp2
            go_ret
            exact ⟨by rw [HR.out]; rfl, hba⟩
set_option maxRecDepth 100000 in
set_option maxHeartbeats 4000000 in
theorem meet_t (l s0 : Int) (w0 : Bool) (s1 : Int) (w1 : Bool) (t : Int) (w : World) (h : Meets w) : Calls Tryd.prog 23 #[cv (l, s0, w0, s1, w1, t), .int .i64 1] w fun e w' => e = .returned (.bool (meetM (l, s0, w0, s1, w1, t) true)) ∧ Below w.heap.size w w' := by
  have ho := fun w => other_any true w
  obtain ⟨R, hR⟩ : ∃ R, R = meetM (l, s0, w0, s1, w1, t) true := ⟨_, rfl⟩
  rw [← hR]
  have HR := Lib.hid hR
  clear hR
  simp only [cv, bi, Bool.not_true, Bool.not_false, if_true, if_false, Bool.false_eq_true] at *
  have k1 := Blk.new w 26 #[.int .i64 l, .int .i64 s0, .bool w0, .int .i64 s1, .bool w1, .int .i64 t]
  have hbw := ba w (.cells #[.int .i64 l, .int .i64 s0, .bool w0, .int .i64 s1, .bool w1, .int .i64 t] 26)
  have hsz : (w.alloc (.cells #[.int .i64 l, .int .i64 s0, .bool w0, .int .i64 s1, .bool w1, .int .i64 t] 26)).drew.heap.size = w.heap.size + 1 := by show (w.alloc _).heap.size = _; simp
  go_enter Tryd.func23, Tryd.ntmps23
  go_wp2_with fail
  generalize (w.alloc (.cells #[.int .i64 l, .int .i64 s0, .bool w0, .int .i64 s1, .bool w1, .int .i64 t] 26)) = w1b at hbw k1 hsz ⊢
  have hsz' : w1b.heap.size = w.heap.size + 1 := hsz
  refine wp_region_invT (F := ?FM) (V := VMt w.heap.size 1 0 3 1 s1 w1 s0 w0) (dead := fun _ => none) (T := TMt w.heap.size) (C := fun u' => Blk u' w.heap.size 26 #[.int .i64 l, .int .i64 s0, .bool w0, .int .i64 s1, .bool w1, .int .i64 t] ∧ Below w.heap.size w u' ∧ w.heap.size + 1 ≤ u'.heap.size) (E := EMt w.heap.size) (by kernel_rfl) (by kernel_rfl) (by kernel_rfl) (fun x => ?hFM) ?hmonoM ?hTmM ?hTM ?hCM ?stepM ?finM
  case hFM => simp only [mkA, Act.put, List.setIfInBounds_toArray, List.set_cons_succ, List.set_cons_zero, Nat.reduceAdd, Nat.zero_add]; first | with_reducible rfl | rfl
  case hmonoM => exact fun k i v u u' he hik hwt hdd hv => VMt.mono he hik (fun h => ltf hwt (by rw [h.1, h.2]; kernel_rfl)) hv
  case hTmM => exact fun k j u u' he hkj hwt hv => TMt.mono he hkj hv
  case hTM => exact fun j => TMt.of hsz j
  case hCM => exact ⟨k1, bt hbw (below_drew _), by show _ ≤ w1b.heap.size; omega⟩
  case stepM =>
    refine AllOps.cons (fun x u hC hT hp K hK => ?_) ?_
    · clear hp hT
      go_simp
      refine hK _ _ _ hC (by rfl) (by exact rfl) ?_
      first | (simp only [Act.put, List.setIfInBounds_toArray, List.set_cons_succ, List.set_cons_zero]; done) | simp [Act.put]
    refine AllOps.cons (fun x u hC hT hp K hK => ?_) ?_
    · clear hp hT
      go_simp
      refine hK _ _ _ hC (by rfl) (by exact rfl) ?_
      first | (simp only [Act.put, List.setIfInBounds_toArray, List.set_cons_succ, List.set_cons_zero]; done) | simp [Act.put]
    refine AllOps.cons (fun x u hC hT hp K hK => ?_) ?_
    · simp [KnownTill, Region.binds, VMt] at hp
      clear hT
      go_simp
      refine hK _ _ _ hC (by rfl) (by exact rfl) ?_
      first | (simp only [Act.put, List.setIfInBounds_toArray, List.set_cons_succ, List.set_cons_zero, hp]; done) | simp [Act.put, hp]
    refine AllOps.cons (fun x u hC hT hp K hK => ?_) ?_
    · simp [KnownTill, Region.binds, VMt] at hp
      clear hT
      have ca := hC.1.cell 3
      have cb := hC.1.cell 4
      simp at ca cb
      go_simp
      refine hK _ _ _ hC (by rfl) (by exact rfl) ?_
      first | (simp only [Act.put, List.setIfInBounds_toArray, List.set_cons_succ, List.set_cons_zero, hp]; done) | simp [Act.put, hp]
    refine AllOps.cons (fun x u hC hT hp K hK => ?_) ?_
    · clear hp hT
      go_simp
      refine hK _ _ _ hC (by rfl) (by exact rfl) ?_
      first | (simp only [Act.put, List.setIfInBounds_toArray, List.set_cons_succ, List.set_cons_zero]; done) | simp [Act.put]
    refine AllOps.cons (fun x u hC hT hp K hK => ?_) ?_
    · simp [KnownTill, Region.binds, VMt] at hp
      clear hT
      go_simp
      refine (ho u).mono ?_
      rintro e wA ⟨rfl, rfl⟩
      refine hK _ _ _ hC (by rfl) (by exact rfl) ?_
      first | (simp only [Act.put, List.setIfInBounds_toArray, List.set_cons_succ, List.set_cons_zero, hp]; done) | simp [Act.put, hp]
    refine AllOps.cons (fun x u hC hT hp K hK => ?_) ?_
    · clear hp hT
      go_simp
      refine hK _ _ _ hC (by rfl) (by exact rfl) ?_
      first | (simp only [Act.put, List.setIfInBounds_toArray, List.set_cons_succ, List.set_cons_zero]; done) | simp [Act.put]
    refine AllOps.cons (fun x u hC hT hp K hK => ?_) ?_
    · simp [KnownTill, Region.binds, VMt] at hp
      clear hT
      go_simp
      refine hK _ _ _ hC (by rfl) (by exact rfl) ?_
      first | (simp only [Act.put, List.setIfInBounds_toArray, List.set_cons_succ, List.set_cons_zero, hp]; done) | simp [Act.put, hp]
    refine AllOps.cons (fun x u hC hT hp K hK => ?_) ?_
    · simp [KnownTill, Region.binds, VMt] at hp
      clear hT
      have ca := hC.1.cell 1
      have cb := hC.1.cell 2
      simp at ca cb
      go_simp
      refine hK _ _ _ hC (by rfl) (by exact rfl) ?_
      first | (simp only [Act.put, List.setIfInBounds_toArray, List.set_cons_succ, List.set_cons_zero, hp]; done) | simp [Act.put, hp]
    refine AllOps.cons (fun x u hC hT hp K hK => ?_) ?_
    · simp [KnownTill, Region.binds, VMt] at hp
      clear hT
      go_simp
      refine hK _ _ _ hC (by rfl) (by exact rfl) ?_
      first | (simp only [Act.put, List.setIfInBounds_toArray, List.set_cons_succ, List.set_cons_zero, hp]; done) | simp [Act.put, hp]
    refine AllOps.cons (fun x u hC hT hp K hK => ?_) ?_
    · clear hp
      have hT1 : u.heap.size = w.heap.size + 1 := hT
      clear hT
      have kn := Blk.new u 24 #[.int .i64 0, .bool false, .int .i64 0, .bool false]
      rw [hT1] at kn
      have HT1 := Lib.hid hT1
      clear hT1
      go_simp
      refine hK (.pointer (some ⟨u.heap.size, 0, none⟩)) _ (u.alloc (.cells #[.int .i64 0, .bool false, .int .i64 0, .bool false] 24)) ⟨hC.1.alloc _, bt hC.2.1 (ba _ _), Nat.le_trans hC.2.2 (ba u (.cells #[.int .i64 0, .bool false, .int .i64 0, .bool false] 24)).size⟩ trivial ⟨by rw [HT1.out], _, _, _, _, kn⟩ ?_
      first | (simp only [Act.put, List.setIfInBounds_toArray, List.set_cons_succ, List.set_cons_zero]; done) | simp [Act.put]
    refine AllOps.cons (fun x u hC hT hp K hK => ?_) ?_
    · simp [KnownTill, Region.binds, VMt] at hp
      clear hT
      obtain ⟨⟨h11, x1, x2, x3, x4, k2⟩, h10, hrest⟩ := hp
      clear hrest
      have d0 := k2.cell 0
      have d1 := k2.cell 1
      have d2 := k2.cell 2
      have d3 := k2.cell 3
      have f0 := k2.frozen 0
      have f1 := k2.frozen 1
      have f2 := k2.frozen 2
      have f3 := k2.frozen 3
      simp at d0 d1 d2 d3
      have hbl := k2.set4 (x := .int .i64 s1) (y := .bool w1) (z := .int .i64 s0) (u := .bool w0)
      have hbb := below_set4 (g := w.heap.size + 1) hC.2.1 (by omega) (.int .i64 s1) (.bool w1) (.int .i64 s0) (.bool w0)
      have hCC := hC.1
      clear k2
      go_simp
      refine hK undef _ ((((u.setCell ⟨w.heap.size + 1, 0, none⟩ (.int .i64 s1)).setCell ⟨w.heap.size + 1, 1, none⟩ (.bool w1)).setCell ⟨w.heap.size + 1, 2, none⟩ (.int .i64 s0)).setCell ⟨w.heap.size + 1, 3, none⟩ (.bool w0)) ⟨(((hCC.far (by show w.heap.size ≠ w.heap.size + 1; omega) _).far (by show w.heap.size ≠ w.heap.size + 1; omega) _).far (by show w.heap.size ≠ w.heap.size + 1; omega) _).far (by show w.heap.size ≠ w.heap.size + 1; omega) _, hbb, by simpa using hC.2.2⟩ ⟨_, _, _, _, rfl⟩ hbl ?_
      simp [Act.put, h11, h10]
    exact AllOps.nil
  case finM =>
    intro x u hC hV
    have h11 : x 10 = .pointer (some ⟨w.heap.size + 1, 0, none⟩) := (hV 10 (by decide) rfl).1
    have k2 : Blk u (w.heap.size + 1) 24 #[.int .i64 s1, .bool w1, .int .i64 s0, .bool w0] := hV 11 (by decide) rfl
    rw [h11]
    obtain ⟨k0, hbu, _⟩ := hC
    clear hV h11
    have hmu := h.bt hbu
    go_wp2_with (refine wpList_load_tab rfl rfl hmu ?_)
    have kb2 := k2
    clear hbw k1 hsz hsz'
    go_loopw [20] (fun i wr => ∃ q : Nat, q ≤ 10 ∧ i = .int .i64 q ∧ Hid (∀ j m, tab[j]? = some m → j < q → hit s1 w1 s0 w0 l m = false) ∧ Below u.heap.size u wr) (fun i _ => 10 - (intOf i).toNat)
    case atStart => exact ⟨0, Nat.zero_le _, rfl, Lib.hid (fun j m _ hj => absurd hj (by omega)), Below.refl _ _⟩
    case round =>
      obtain ⟨q, hq, rfl, hbq, hbr⟩ := hrel
      have k3 := k2.below hbr k2.lt
      have k4 := k0.below hbr k0.lt
      by_cases hql : q < 10
      · have hqI : (q : Int) < 10 := by omega
        obtain ⟨⟨ma, mx, mb, my, mn⟩, hm⟩ : ∃ m, tab[q]? = some m := ⟨tab[q]'hql, List.getElem?_eq_getElem hql⟩
        have hm2 := Lib.hid hm
        have k3a := k3.alloc (.cells #[.int .i64 ma, .bool mx, .int .i64 mb, .bool my, .int .i64 mn] 63)
        have k4a := k4.alloc (.cells #[.int .i64 ma, .bool mx, .int .i64 mb, .bool my, .int .i64 mn] 63)
        have c0 := k3a.cell 0
        have c1 := k3a.cell 1
        have c2 := k3a.cell 2
        have c3 := k3a.cell 3
        have d0 := k4a.cell 0
        simp only [List.getElem?_toArray, List.getElem?_cons_zero, List.getElem?_cons_succ] at c0 c1 c2 c3 d0
        have hba := bt hbr (ba wr (.cells #[.int .i64 ma, .bool mx, .int .i64 mb, .bool my, .int .i64 mn] 63))
        have he := eq24 s1 w1 s0 w0 ma mx mb my
        have hnext : hit s1 w1 s0 w0 l (ma, mx, mb, my, mn) = false → Hid (∀ j m, tab[j]? = some m → j < q + 1 → hit s1 w1 s0 w0 l m = false) := fun hh => Lib.hid fun j m hj hjq => by
          rcases Nat.lt_or_ge j q with h1 | h1
          · exact hbq.out j m hj h1
          · obtain rfl : j = q := by omega
            rw [hm2.out] at hj
            obtain rfl := Option.some.inj hj
            exact hh
        unfold hit at hnext
        have hyes : (decide (mn ≤ l) && (s1 == ma && (w1 == mx && (s0 == mb && w0 == my)))) = true → Hid (meetM (l, s0, w0, s1, w1, t) true = true) := fun hh => Lib.hid (by
          have hin : (ma, mx, mb, my, mn) ∈ tab := List.mem_of_getElem? hm2.out
          have : tab.any (hit s1 w1 s0 w0 l) = true := List.any_eq_true.2 ⟨_, hin, hh⟩
          simp [meetM, this])
        clear hbq k3 k4 k3a k4a hm
        have hm := hm2.out
        simp only [] at hnext hyes
        generalize (s1 == ma && (w1 == mx && (s0 == mb && w0 == my))) = R4 at *
        rcases g1 : decide (mn ≤ l) with _ | _
        · rw [g1] at hnext hyes
          have hn2 := hnext (by simp)
          clear hnext hyes
          go_wp2_with (refine wpList_index_tab rfl _ _ rfl q ma mx mb my mn hm rfl rfl ?_)
          go_roundw
          case rel => exact ⟨q + 1, by omega, by go_num, hn2, hba⟩
          case measure => simp [intOf]; omega
        · rw [g1] at hnext hyes
          cases R4
          · have hn2 := hnext (by simp)
            clear hnext hyes
            go_wp2_with (refine wpList_index_tab rfl _ _ rfl q ma mx mb my mn hm rfl rfl ?_)
            go_roundw
            case rel => exact ⟨q + 1, by omega, by go_num, hn2, hba⟩
            case measure => simp [intOf]; omega
          · have hn2 := hyes (by simp)
            clear hnext hyes
            go_wp2_with (refine wpList_index_tab rfl _ _ rfl q ma mx mb my mn hm rfl rfl ?_)
            go_ret
            exact ⟨by rw [HR.out.trans hn2.out]; rfl, bt hbu hba⟩
      · obtain rfl : q = 10 := by omega
        have hnone : tab.any (hit s1 w1 s0 w0 l) = false := by
          rw [Bool.eq_false_iff]
          intro hc
          obtain ⟨m, hin, hh⟩ := List.any_eq_true.1 hc
          obtain ⟨j, hj, hjm⟩ := List.getElem_of_mem hin
          have := hbq.out j m (by rw [List.getElem?_eq_getElem hj, hjm]) hj
          rw [hh] at this
          cases this
        have hMM : Hid (meetM (l, s0, w0, s1, w1, t) true = (l == 2 && (s1 == baseM (l, s0, w0, s1, w1, t) true && (w1 == true && (s0 == 9 && w0 == false))))) := Lib.hid (by
          unfold meetM
          simp only [if_true, if_false, Bool.false_eq_true, hnone, Bool.false_or]
          rfl)
        have hb0 := fun w => base_any l s0 w0 s1 w1 t w true
        have HR := Lib.hid (HR.out.trans hMM.out)
        clear hMM hnone hbq
        generalize baseM (l, s0, w0, s1, w1, t) true = bb at *
        have he := eq24 s1 w1 s0 w0 bb true 9 false
        have hbq := bt hbu hbr
        have e0 := k4.cell 0
        have e1 := k4.cell 1
        have e2 := k4.cell 2
        have e3 := k4.cell 3
        have e4 := k4.cell 4
        have e5 := k4.cell 5
        simp only [List.getElem?_toArray, List.getElem?_cons_zero, List.getElem?_cons_succ] at e0 e1 e2 e3 e4 e5
        simp only [cv, bi, if_true, if_false, Bool.false_eq_true] at hb0
        generalize (s1 == bb && (w1 == true && (s0 == 9 && w0 == false))) = R5 at *
        go_wp2_with fail
        refine (hb0 _).mono ?_
        rintro e wB ⟨rfl, hbB⟩
        have k3 := k3.below hbB k3.lt
        have k4 := k4.below hbB k4.lt
        have hbq := bt hbq hbB
        clear e0 e1 e2 e3 e4 e5 hbB hb0
        have k3a := k3.alloc (.cells #[.int .i64 bb, .bool true, .int .i64 9, .bool false] 24)
        have k4a := k4.alloc (.cells #[.int .i64 bb, .bool true, .int .i64 9, .bool false] 24)
        have c0 := k3a.cell 0
        have c1 := k3a.cell 1
        have c2 := k3a.cell 2
        have c3 := k3a.cell 3
        have d0 := k4a.cell 0
        simp only [List.getElem?_toArray, List.getElem?_cons_zero, List.getElem?_cons_succ] at c0 c1 c2 c3 d0
        have hba := bt hbq (ba wB (.cells #[.int .i64 bb, .bool true, .int .i64 9, .bool false] 24))
        clear k3 k4 k3a k4a k0 k2 kb2 hbr hbu
        rcases g1 : (l == 2) with _ | _
        · rw [g1] at HR
          go_wp2
          go_ret
          exact ⟨by rw [HR.out]; rfl, hba⟩
        · rw [g1] at HR
          cases R5
          all_goals
            go_wp2
            go_ret
            exact ⟨by rw [HR.out]; rfl, hba⟩
end Go.Proofs.YtfhfbekphmnbgaaDoor
