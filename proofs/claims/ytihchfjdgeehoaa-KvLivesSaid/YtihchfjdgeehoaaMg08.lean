/- Parts Bc Bd Be of one proof. -/
import Derived.Test.YtihchfjdgeehoaaMg07
import Derived.Deep.Upon
namespace Go.Proofs.Ytihchfjdgeehoaa
open Go.RowKit
set_option linter.unusedVariables false
set_option linter.unusedSimpArgs false

/-- A change: its kind, its key, its value. -/
structure Ch where
  k : Int
  y : Int
  v : Nat
def Ch.val (x : Ch) : Value := .agg #[.int .i64 x.k, .int .i64 x.y, .int .u64 (x.v : Nat)]
def chV : List Ch → List Value
  | [] => []
  | x :: l => .int .i64 x.k :: .int .i64 x.y :: .int .u64 (x.v : Nat) :: chV l
theorem chV_len : ∀ l : List Ch, (chV l).length = l.length * 3
  | [] => rfl
  | x :: l => by simp only [chV, List.length_cons, chV_len l]; omega
theorem chV_app : ∀ l m : List Ch, chV (l ++ m) = chV l ++ chV m
  | [], m => rfl
  | x :: l, m => by simp only [List.cons_append, chV, chV_app l m]
theorem chV_one : ∀ l : List Ch, ∀ u ∈ chV l, u.oneCell' = true
  | [], u, h => by simp [chV] at h
  | x :: l, u, h => by
    simp only [chV, List.mem_cons] at h
    rcases h with rfl | rfl | rfl | h
    · rfl
    · rfl
    · rfl
    · exact chV_one l u h
theorem chV_at : ∀ (l : List Ch) (i : Nat) (h : i < l.length), (chV l)[i * 3]? = some (.int .i64 (l[i]'h).k) ∧ (chV l)[i * 3 + 1]? = some (.int .i64 (l[i]'h).y) ∧ (chV l)[i * 3 + 2]? = some (.int .u64 ((l[i]'h).v : Nat))
  | x :: l, 0, h => ⟨rfl, rfl, rfl⟩
  | x :: l, i + 1, h => by
    have := chV_at l i (by simpa using h)
    rw [show (i + 1) * 3 = i * 3 + 3 by omega]
    simpa [chV] using this
theorem chV_set : ∀ (l : List Ch) (i : Nat) (x : Ch), (((chV l).set (i * 3) (.int .i64 x.k)).set (i * 3 + 1) (.int .i64 x.y)).set (i * 3 + 2) (.int .u64 (x.v : Nat)) = chV (l.set i x)
  | [], i, x => by simp [chV]
  | y :: l, 0, x => rfl
  | y :: l, i + 1, x => by
    have := chV_set l i x
    rw [show (i + 1) * 3 = i * 3 + 3 by omega]
    simp only [chV, List.set_cons_succ, this]
/-- Changes in memory, in a block of changes. -/
def ChAt (w : World) (B : Nat → Prop) (A : Option Addr) (l : List Ch) : Prop := 0 < l.length → ∃ b o, A = some ⟨b, o, none⟩ ∧ (B b ∧ ∃ cs fz, w.heap[b]? = some (.cells cs 47 fz)) ∧ ∀ i, (h : i < l.length) →
  w.cell? ⟨b, o + i * 3, none⟩ = some (.int .i64 (l[i]'h).k) ∧ w.cell? ⟨b, o + i * 3 + 1, none⟩ = some (.int .i64 (l[i]'h).y) ∧ w.cell? ⟨b, o + i * 3 + 2, none⟩ = some (.int .u64 ((l[i]'h).v : Nat))
theorem ChAt.same {w w' : World} {B : Nat → Prop} {A : Option Addr} {l : List Ch} (h : ChAt w B A l) (hs : ∀ (b : Nat) (cs : Array Value) (fz : Nat × Nat), w.heap[b]? = some (Obj.cells cs 47 fz) → w'.heap[b]? = w.heap[b]?) : ChAt w' B A l := fun hl => by
  obtain ⟨b, o, rfl, ⟨hB, cs, fz, hb⟩, hc⟩ := h hl
  have e := hs b cs fz hb
  have hcell : ∀ i, w'.cell? ⟨b, i, none⟩ = w.cell? ⟨b, i, none⟩ := fun i => by unfold World.cell?; rw [e]
  exact ⟨b, o, rfl, ⟨hB, cs, fz, by rw [e]; exact hb⟩, fun i hi => by rw [hcell, hcell, hcell]; exact hc i hi⟩
theorem ChAt.below {w w' : World} {B : Nat → Prop} {A : Option Addr} {l : List Ch} (h : ChAt w B A l) (hb : Below w.heap.size w w') : ChAt w' B A l :=
  h.same fun b cs fz hh => hb.block b (Array.getElem?_eq_some_iff.1 hh).1
theorem ChAt.kept {w w' : World} {B : Nat → Prop} {A : Option Addr} {l : List Ch} {g : Nat} {t : TypeId} {cs : Array Value} (h : ChAt w B A l) (hg : w.grownBy w' (some g)) (hk : Blk w g t cs) (ht : t ≠ 47) : ChAt w' B A l :=
  h.same fun b cs' fz hh => hg.block b (Array.getElem?_eq_some_iff.1 hh).1 (fun e => by
    cases e
    unfold Blk at hk
    rw [hk] at hh
    injection hh with hh
    injection hh with _ e2
    exact ht e2)
theorem ChAt.mono {w : World} {B B' : Nat → Prop} {A : Option Addr} {l : List Ch} (h : ChAt w B A l) (hB : ∀ b, B b → b < w.heap.size → B' b) : ChAt w B' A l := fun hl => by
  obtain ⟨b, o, rfl, ⟨hb, cs, fz, hh⟩, hc⟩ := h hl
  exact ⟨b, o, rfl, ⟨hB b hb (Array.getElem?_eq_some_iff.1 hh).1, cs, fz, hh⟩, hc⟩
/-- A list whose block is not the one that turns. -/
theorem ChAt.off {w w' : World} {B : Nat → Prop} {A : Option Addr} {l : List Ch} {g : Nat} (h : ChAt w B A l) (hg : w.grownBy w' (some g)) (hB : ∀ b, B b → b ≠ g) : ChAt w' B A l := fun hl => by
  obtain ⟨b, o, rfl, ⟨hb, cs, fz, hh⟩, hc⟩ := h hl
  have e := hg.block b (Array.getElem?_eq_some_iff.1 hh).1 (fun e => hB b hb (Option.some.inj e))
  have hcell : ∀ i, w'.cell? ⟨b, i, none⟩ = w.cell? ⟨b, i, none⟩ := fun i => by unfold World.cell?; rw [e]
  exact ⟨b, o, rfl, ⟨hb, cs, fz, by rw [e]; exact hh⟩, fun i hi => by rw [hcell, hcell, hcell]; exact hc i hi⟩
/-- A list of changes of one's own. -/
def OwnC (w : World) (B : Nat) (A : Option Addr) (c : Nat) (l : List Ch) : Prop := w.ownsRow B 47 3 (.slice A l.length c) l.length (chV l)
section
variable {u u' : World} {B : Nat} {A : Option Addr} {c : Nat} {l : List Ch}
theorem OwnC.nil (w : World) (B : Nat) : OwnC w B none 0 [] := World.ownsRow_nil w _ _ _
theorem OwnC.lt' (h : OwnC u B A c l) : ∀ r, blk A = some r → B ≤ r ∧ r < u.heap.size := fun r e => World.ownsRow.lt h r (by rw [ownBlock_slice]; exact e)
theorem OwnC.kept {row : Option Nat} (h : OwnC u B A c l) (hg : u.grownBy u' row) (hr : ∀ r, row = some r → r < B) : OwnC u' B A c l := by
  refine World.ownsRow.kept h hg ?_
  rcases hb : (Value.slice A l.length c).ownBlock with _ | k
  · exact .inl rfl
  · exact .inr (fun e => by have := (h.lt k hb).1; have := hr k e.symm; omega)
theorem OwnC.at_ (h : OwnC u B A c l) : ChAt u (fun b => B ≤ b) A l := fun hl => by
  rcases h.2 with ⟨h1, h2⟩ | ⟨g, cap, cur, h1, hb, hg, hn, hm, hc, ht⟩
  · omega
  · injection h1 with e1 e2 e3
    refine ⟨g, 0, e1, ⟨hb, cur, _, hg⟩, fun i hi => ?_⟩
    have hcell : ∀ j v, (chV l)[j]? = some v → u.cell? ⟨g, 0 + j, none⟩ = some v := fun j v hv => by
      rw [Nat.zero_add, cell_of_row u g j cur _ (0, 0) hg]
      rw [← ht, List.getElem?_take] at hv
      split at hv
      · simpa using hv
      · cases hv
    obtain ⟨a1, a2, a3⟩ := chV_at l i hi
    exact ⟨hcell _ _ a1, hcell _ _ a2, hcell _ _ a3⟩
theorem Try.infoCh : (Try.prog.info? 47).map (fun i => (i.zero, i.size, i.bytes)) = some (some (.agg #[.int .i64 0, .int .i64 0, .int .u64 0]), 3, 24) := by kernel_rfl
/-- Changes of another list put behind one's own. -/
theorem ch_app (h : OwnC u B A c l) (A' : Option Addr) (c' : Nat) (m : List Ch) (n n' : Nat) (hn : n = l.length) (hn' : n' = m.length) (hz : ∀ b o, A' = some ⟨b, o, none⟩ → ∀ i (hi : i < m.length), u.cell? ⟨b, o + i * 3, none⟩ = some (.int .i64 (m[i]'hi).k) ∧ u.cell? ⟨b, o + i * 3 + 1, none⟩ = some (.int .i64 (m[i]'hi).y) ∧ u.cell? ⟨b, o + i * 3 + 2, none⟩ = some (.int .u64 ((m[i]'hi).v : Nat))) (hA : 0 < m.length → ∃ b o, A' = some ⟨b, o, none⟩) (hc : n ≤ c) (hl : l.length + m.length ≤ 1000000) (hB : B ≤ u.heap.size) :
    ∃ A2 c2 u', (Builtin.append_ #[34, 34] 34 #[.slice A n c, .slice A' n' c']).run Try.prog u = .ok (.slice A2 (n + n') c2) u' ∧ OwnC u' B A2 c2 (l ++ m) ∧ u.grownBy u' (blk A) ∧ (∀ r, blk A2 = some r → blk A = some r ∨ r = u.heap.size) := by
  subst hn hn'
  obtain ⟨i0, hi, hz0, hz1, hz2⟩ := info_parts Try.infoCh
  rcases Nat.eq_zero_or_pos m.length with h0 | h0
  · have hm : m = [] := List.eq_nil_of_length_eq_zero h0
    subst hm
    refine ⟨A, c, u, ?_, by rw [List.append_nil]; exact h, ⟨rfl, rfl, rfl, Nat.le_refl _, fun _ _ _ => rfl⟩, fun r hr => .inl hr⟩
    exact run_append_nothing u 34 34 34 47 i0 Try.underlying34 hi A l.length c hc (.slice A' 0 c') ⟨.inl ⟨_, Try.underlying34⟩, fun _ => by cases A' <;> rfl, by rcases A' with _ | a; exact run_firstCells_none u i0.size 0 0 c'; exact run_firstCells_some u i0.size 0 a 0 c' [] (by simp) (by simp), by rcases A' with _ | a; exact run_firstCells_none u.drew i0.size 0 0 c'; exact run_firstCells_some u.drew i0.size 0 a 0 c' [] (by simp) (by simp), by simp, by simp⟩
  · obtain ⟨b, o, rfl⟩ := hA h0
    have hcs := hz b o rfl
    obtain ⟨v', w', hrun, hown, hgr, _, hob⟩ := run_append_own_at (P := Try.prog) u B 34 34 47 i0 _ 3 24 Try.underlying34 hi hz0 hz1 hz2 rfl (by omega) (.slice A l.length c) l.length (chV l) h ⟨b, o, none⟩ m.length c' (chV m) (chV_len m)
      (fun j v hv => by
        rw [Addr.add_lit]
        have hj : j < (chV m).length := (List.getElem?_eq_some_iff.1 hv).1
        rw [chV_len] at hj
        obtain ⟨q, r, hr, rfl⟩ : ∃ q r, r < 3 ∧ j = q * 3 + r := ⟨j / 3, j % 3, Nat.mod_lt _ (by omega), by omega⟩
        have hq : q < m.length := by omega
        obtain ⟨a1, a2, a3⟩ := chV_at m q hq
        obtain ⟨d1, d2, d3⟩ := hcs q hq
        match r, hr with
        | 0, _ => rw [Nat.add_zero] at hv ⊢; rw [a1] at hv; cases hv; exact d1
        | 1, _ => rw [a2] at hv; cases hv; exact d2
        | 2, _ => rw [a3] at hv; cases hv; exact d3)
      (chV_one m) (by simp only [maxLen]; omega) (by omega) hB
    obtain ⟨g2, c2, rfl⟩ := Joins.ownsRow_form hown (by omega)
    rw [ownBlock_slice] at hgr
    rw [ownBlock_slice, ownBlock_slice] at hob
    refine ⟨some ⟨g2, 0, none⟩, c2, w', hrun, ?_, hgr, fun r hr => by rcases hob with h | h; exact .inl (by rw [← h]; exact hr); rw [hr] at h; cases h; exact .inr rfl⟩
    unfold OwnC
    rw [List.length_append, chV_app]
    exact hown
theorem OwnC.cap (h : OwnC u B A c l) : l.length ≤ c := by
  obtain ⟨_, ⟨h1, h2⟩ | ⟨g, cap, cur, e, _, _, hle, _⟩⟩ := h
  · rw [h2]; exact Nat.zero_le _
  · cases e; exact hle
theorem OwnC.less {B' : Nat} (h : OwnC u B A c l) (hB : B' ≤ B) : OwnC u B' A c l := by
  obtain ⟨h1, h2⟩ := h
  refine ⟨h1, ?_⟩
  rcases h2 with h2 | ⟨g', cap', cur, hv, hb, hrest⟩
  · exact .inl h2
  · exact .inr ⟨g', cap', cur, hv, Nat.le_trans hB hb, hrest⟩
end
/-- Where the change of a key stands; the list's length, if nowhere. -/
def posN (l : List Ch) (y : Int) : Nat := l.findIdx (fun x => decide (x.y = y))
def posI (l : List Ch) (y : Int) : Int := if posN l y < l.length then (posN l y : Int) else -1
theorem posN_le (l : List Ch) (y : Int) : posN l y ≤ l.length := List.findIdx_le_length
end Go.Proofs.Ytihchfjdgeehoaa

namespace Go.Proofs.Ytihchfjdgeehoaa
open Go.RowKit
set_option linter.unusedVariables false
set_option linter.unusedSimpArgs false

def keyB (y : Int) : Bool := decide (0 ≤ y) && decide (y < 16)
theorem kisKey_any (y : Int) (b : Bool) (h : keyB y = b) (w : World) : Calls Try.prog 36 #[.int .i64 y] w fun e w' => e = .returned (.bool b) ∧ w = w' := by
  unfold keyB at h
  rcases h1 : decide (0 ≤ y) with _ | _
  · rw [h1] at h
    subst h
    go_enter Try.func36, Try.ntmps36
    go_wp2
    go_ret
    exact ⟨rfl, rfl⟩
  · rw [h1] at h
    rcases h2 : decide (y < 16) with _ | _
    all_goals
      rw [h2] at h
      subst h
      go_enter Try.func36, Try.ntmps36
      go_wp2
      go_ret
      exact ⟨rfl, rfl⟩
theorem place1_any (x : Ch) (p : Nat) (y : Int) (b : Bool) (hb : (x.y == y) = b) (w : World) (hp : w.cell? ⟨p, 0, none⟩ = some (.int .i64 y)) : Calls Try.prog 60 #[.agg #[.int .i64 x.k, .int .i64 x.y, .int .u64 (x.v : Nat)], .pointer (some ⟨p, 0, none⟩)] w fun e w' => e = .returned (.bool b) ∧ Below w.heap.size w w' := by
  have hlt := World.block_lt_of_cell? _ _ hp
  have hbw := ba w (.cells #[.int .i64 x.k, .int .i64 x.y, .int .u64 (x.v : Nat)] 47)
  have kb := Blk.new w 47 #[.int .i64 x.k, .int .i64 x.y, .int .u64 (x.v : Nat)]
  have c1 := kb.cell 1
  simp only [List.getElem?_toArray, List.getElem?_cons_zero, List.getElem?_cons_succ] at c1
  have cp := (hbw.cell (p := ⟨p, 0, none⟩) hlt).trans hp
  go_enter Try.func60, Try.ntmps60
  go_wp2
  go_ret
  exact ⟨rfl, hbw⟩
set_option maxHeartbeats 1000000 in
theorem index_any (A : Option Addr) (l : List Ch) (n c p : Nat) (y : Int) (hn : Hid (n = l.length)) (hm : n ≤ 1000000) (w : World) {B : Nat → Prop} (h : ChAt w B A l) (hp : w.cell? ⟨p, 0, none⟩ = some (.int .i64 y)) :
    Calls Try.prog 59 #[.slice A n c, .func (.func 60) #[] #[.pointer (some ⟨p, 0, none⟩)]] w fun e w' => e = .returned (.int .i64 (posI l y)) ∧ Below w.heap.size w w' := by
  have H := Lib.hid h
  have hlt := World.block_lt_of_cell? _ _ hp
  have HP := Lib.hid (And.intro hp hlt)
  clear h hp hlt
  go_enter Try.func59, Try.ntmps59
  go_wp2_with fail
  go_loopw [8] (fun i wr => ∃ (j : Nat), j ≤ n ∧ i = .int .i64 j ∧ Hid (∀ q, q < j → ∀ hq : q < l.length, (l[q]'hq).y ≠ y) ∧ Below w.heap.size w wr) (fun i _ => n - (intOf i).toNat)
  case atStart => exact ⟨0, Nat.zero_le _, rfl, Lib.hid (fun q hq => by omega), Below.refl _ _⟩
  case round =>
    obtain ⟨j, hj, rfl, hno, hb⟩ := hrel
    by_cases hjn : j < n
    · have hjI : (j : Int) < (n : Int) := by omega
      have hjl : j < l.length := by rw [← hn.out]; exact hjn
      obtain ⟨b, o, rfl, hbk, hcs⟩ := H.out (by omega)
      obtain ⟨q0, q1, q2⟩ := hcs j hjl
      have hbl : b < w.heap.size := by obtain ⟨_, cs, fz, hh⟩ := hbk; exact (Array.getElem?_eq_some_iff.1 hh).1
      have p0 := (hb.cell (p := ⟨b, o + j * 3, none⟩) hbl).trans q0
      have p1 := (hb.cell (p := ⟨b, o + j * 3 + 1, none⟩) hbl).trans q1
      have p2 := (hb.cell (p := ⟨b, o + j * 3 + 2, none⟩) hbl).trans q2
      have hcp := (hb.cell (p := ⟨p, 0, none⟩) HP.out.2).trans HP.out.1
      obtain ⟨x, hx⟩ : ∃ x, x = l[j]'hjl := ⟨_, rfl⟩
      rw [← hx] at p0 p1 p2
      have HX := Lib.hid hx
      have hc := fun b' (hb' : (x.y == y) = b') => place1_any x p y b' hb' wr hcp
      clear hcs q0 q1 q2 hbk hx hcp
      rcases hxy : (x.y == y) with _ | _
      · have HC := Lib.hid (hc _ hxy)
        have hno2 : Hid (∀ q, q < j + 1 → ∀ hq : q < l.length, (l[q]'hq).y ≠ y) := Lib.hid fun q hq hql => by
          by_cases e : q = j
          · subst e; rw [← HX.out]; simpa using hxy
          · exact hno.out q (by omega) hql
        clear hc
        go_wp2_with fail
        refine HC.out.mono ?_
        rintro e w2 ⟨rfl, b2⟩
        have hb2 := bt hb b2
        clear b2 p0 p1 p2
        go_wp2
        go_roundw
        case rel => exact ⟨j + 1, by omega, by go_num, hno2, hb2⟩
        case measure => simp [intOf]; omega
      · have HC := Lib.hid (hc _ hxy)
        have hpos : Hid (posI l y = (j : Int)) := Lib.hid (by
          have e : posN l y = j := by
            unfold posN
            rw [List.findIdx_eq hjl]
            refine ⟨by rw [← HX.out]; simpa using hxy, fun q hq => by simpa using hno.out q hq (by omega)⟩
          unfold posI
          rw [e, if_pos hjl])
        clear hc
        go_wp2_with fail
        refine HC.out.mono ?_
        rintro e w2 ⟨rfl, b2⟩
        have hb2 := bt hb b2
        clear b2 p0 p1 p2
        go_wp2
        go_ret
        exact ⟨by rw [hpos.out]; rfl, hb2⟩
    · obtain rfl : j = n := by omega
      have hjI : ¬ (j : Int) < (j : Int) := by omega
      have hpos : Hid (posI l y = -1) := Lib.hid (by
        have e : posN l y = l.length := by
          unfold posN
          rw [List.findIdx_eq_length]
          intro x hx
          obtain ⟨q, hq, rfl⟩ := List.mem_iff_getElem.1 hx
          simpa using hno.out q (by rw [hn.out]; exact hq) hq
        unfold posI
        rw [e, if_neg (by omega)])
      go_wp2
      go_ret
      exact ⟨by rw [hpos.out]; rfl, hb⟩
theorem kplace_any (A : Option Addr) (l : List Ch) (n c : Nat) (y : Int) (hn : Hid (n = l.length)) (hm : n ≤ 1000000) (w : World) {B : Nat → Prop} (h : ChAt w B A l) :
    Calls Try.prog 46 #[.agg #[.slice A n c], .int .i64 y] w fun e w' => e = .returned (.int .i64 (posI l y)) ∧ Below w.heap.size w w' := by
  obtain ⟨W2, hW2⟩ : ∃ W2, W2 = (w.alloc (.cells #[.slice A n c] 79)).alloc (.cells #[.int .i64 y] 3) := ⟨_, rfl⟩
  have k1 : Blk W2 w.heap.size 79 #[.slice A n c] := by rw [hW2]; exact (Blk.new _ _ _).alloc _
  have k2 : Blk W2 (w.heap.size + 1) 3 #[.int .i64 y] := by
    rw [hW2]; have := Blk.new (w.alloc (.cells #[.slice A n c] 79)) 3 #[.int .i64 y]; rwa [World.size_alloc] at this
  have b2 : Below w.heap.size w W2 := by rw [hW2]; exact bt (ba _ _) (ba _ _)
  have c0 := k1.cell 0
  simp only [List.getElem?_toArray, List.getElem?_cons_zero] at c0
  have HI := Lib.hid (index_any A l n c (w.heap.size + 1) y hn hm W2 (h.below b2) ((k2.cell 0).trans rfl))
  have HB := Lib.hid b2
  have HW := Lib.hid hW2
  rw [hW2] at c0
  clear hW2 k1 k2 b2 h
  go_enter Try.func46, Try.ntmps46
  go_wp2_with fail
  rw [← HW.out]
  refine HI.out.mono ?_
  rintro e w3 ⟨rfl, b3⟩
  have hF := bt HB.out b3
  clear b3 c0
  go_wp2
  go_ret
  exact ⟨rfl, hF⟩
theorem cclone_any (A : Option Addr) (l : List Ch) (n c : Nat) (w : World) (hn : Hid (n = l.length)) (hm : Hid (n ≤ 500000)) {B : Nat → Prop} (h : ChAt w B A l) :
    Calls Try.prog 42 #[.slice A n c] w fun e w' => ∃ A2 c2, e = .returned (.slice A2 n c2) ∧ OwnC w' w.heap.size A2 c2 l ∧ Below w.heap.size w w' := by
  cases A with
  | none =>
    have hl : l = [] := by
      cases l with
      | nil => rfl
      | cons x t => obtain ⟨b, o, e, _⟩ := h (by simp); cases e
    subst hl
    obtain rfl : n = 0 := hn.out
    have hnl : ∀ w, (binOp .eql 34 (.slice none 0 c) (.slice none 0 0)).run Try.prog w = .ok (.bool true) w := fun w => by simp [binOp, Go.run_equal_slice_nil w 34 47 none 0 c Try.underlying34]
    go_enter Try.func42, Try.ntmps42
    go_wp2
    go_ret
    exact ⟨none, 0, rfl, OwnC.nil _ _, Below.refl _ _⟩
  | some a =>
    obtain ⟨w1, hw1⟩ : ∃ w1, w1 = w.alloc (.cells #[] 47) := ⟨_, rfl⟩
    have ow : OwnC w1 w.heap.size (some ⟨w.heap.size, 0, none⟩) 0 [] := by
      rw [hw1]
      exact World.ownsRow_made w #[] 0 (Nat.le_refl _) (by simp [maxLen]) rfl
    have hbw : Below w.heap.size w w1 := by rw [hw1]; exact ba _ _
    have hat := h.below hbw
    obtain ⟨A2, c2, w2, hrun, own2, hg2, _⟩ := ch_app ow (some a) c l 0 n rfl hn.out (fun b o e i hi => by
      obtain ⟨b', o', e', _, hc⟩ := hat (by omega)
      cases e; cases e'; exact hc i hi) (fun hl => by obtain ⟨b', o', e', _⟩ := hat hl; exact ⟨b', o', e'⟩) (Nat.zero_le _) (by have := hm.out; have := hn.out; simp; omega) hbw.size
    rw [Nat.zero_add] at hrun
    rw [List.nil_append] at own2
    have hF : Below w.heap.size w w2 := hbw.grown hg2 hbw.size (fun k e => by have := (ow.lt' k e).1; exact this)
    have HO := Lib.hid (And.intro own2 hF)
    rw [hw1] at hrun
    have hnl : ∀ w, (binOp .eql 34 (.slice (some a) n c) (.slice none 0 0)).run Try.prog w = .ok (.bool false) w := fun w => by simp [binOp, Go.run_equal_slice_nil w 34 47 (some a) n c Try.underlying34]
    clear hw1 ow hbw hat own2 hg2 hF h
    go_enter Try.func42, Try.ntmps42
    go_wp2_with (at_builtin; refine wpList_append_run rfl (.tmp 5) (.tmp 6) 34 rfl _ _ _ w2 rfl rfl hrun ?_)
    go_ret
    exact ⟨A2, c2, rfl, HO.out.1, HO.out.2⟩
end Go.Proofs.Ytihchfjdgeehoaa

namespace Go.Proofs.Ytihchfjdgeehoaa
open Go.RowKit
set_option linter.unusedVariables false
set_option linter.unusedSimpArgs false

def withL (l : List Ch) (x : Ch) : List Ch := if posN l x.y < l.length then l.set (posN l x.y) x else l ++ [x]
theorem withL_len (l : List Ch) (x : Ch) : (withL l x).length ≤ l.length + 1 := by
  unfold withL; split <;> simp
theorem grown_below {B : Nat} {a w w' : World} {row : Option Nat} (h : Below B a w) (hg : w.grownBy w' row) (hB : B ≤ w.heap.size) (hr : ∀ r, row = some r → B ≤ r) : Below B a w' := h.grown hg hB hr
set_option maxRecDepth 100000 in
set_option maxHeartbeats 2000000 in
theorem with_any (A : Option Addr) (l : List Ch) (n c : Nat) (x : Ch) (hn : Hid (n = l.length)) (hm : n ≤ 400000) (w : World) {B : Nat → Prop} (h : ChAt w B A l) :
    Calls Try.prog 54 #[.agg #[.slice A n c], .agg #[.int .i64 x.k, .int .i64 x.y, .int .u64 (x.v : Nat)]] w fun e w' => (∃ A' n' c', e = .returned (.agg #[.slice A' n' c']) ∧ n' = (withL l x).length ∧ ChAt w' (fun b => w.heap.size ≤ b) A' (withL l x)) ∧ Below w.heap.size w w' := by
  obtain ⟨W3, hW3⟩ : ∃ W3, W3 = ((w.alloc (.cells #[.slice A n c] 79)).alloc (.cells #[.int .i64 x.k, .int .i64 x.y, .int .u64 (x.v : Nat)] 47)).alloc (.cells #[.slice none 0 0] 79) := ⟨_, rfl⟩
  have k1 : Blk W3 w.heap.size 79 #[.slice A n c] := by rw [hW3]; exact ((Blk.new _ _ _).alloc _).alloc _
  have k2 : Blk W3 (w.heap.size + 1) 47 #[.int .i64 x.k, .int .i64 x.y, .int .u64 (x.v : Nat)] := by
    rw [hW3]; have := (Blk.new (w.alloc (.cells #[.slice A n c] 79)) 47 #[.int .i64 x.k, .int .i64 x.y, .int .u64 (x.v : Nat)]).alloc (.cells #[.slice none 0 0] 79); rwa [World.size_alloc] at this
  have k3 : Blk W3 (w.heap.size + 2) 79 #[.slice none 0 0] := by
    rw [hW3]; have := Blk.new ((w.alloc (.cells #[.slice A n c] 79)).alloc (.cells #[.int .i64 x.k, .int .i64 x.y, .int .u64 (x.v : Nat)] 47)) 79 #[.slice none 0 0]; rwa [World.size_alloc, World.size_alloc] at this
  have b3 : Below w.heap.size w W3 := by rw [hW3]; exact bt (bt (ba _ _) (ba _ _)) (ba _ _)
  have s3 : W3.heap.size = w.heap.size + 3 := by rw [hW3]; simp
  have c0 := k1.cell 0
  simp only [List.getElem?_toArray, List.getElem?_cons_zero] at c0
  have HC := Lib.hid (cclone_any A l n c W3 hn (Lib.hid (by omega)) (h.below b3))
  have HK := Lib.hid (And.intro k1 (And.intro k2 (And.intro k3 (And.intro b3 (And.intro s3 (h.below b3))))))
  have HW := Lib.hid hW3
  rw [hW3] at c0
  clear hW3 k1 k2 k3 b3 s3 h
  go_enter Try.func54, Try.ntmps54
  go_wp2_with fail
  rw [← HW.out]
  refine HC.out.mono ?_
  rintro e w4 ⟨A2, c2, rfl, own4, b4⟩
  clear c0
  obtain ⟨k1, k2, k3, b3, s3, hat⟩ := HK.out
  have j1 := k1.below b4 k1.lt
  have j2 := k2.below b4 k2.lt
  have j3 := k3.below b4 k3.lt
  have HP := Lib.hid (kplace_any A l n c x.y hn (by omega) w4 (hat.below b4))
  have c0 := j1.cell 0
  have d1 := j2.cell 1
  simp only [List.getElem?_toArray, List.getElem?_cons_zero, List.getElem?_cons_succ] at c0 d1
  have H4 := Lib.hid (And.intro own4 (And.intro j2 (And.intro j3 (And.intro (bt b3 b4) (And.intro s3 b4.size)))))
  clear own4 b4 k1 k2 k3 b3 s3 hat j1 j2 j3
  go_wp2_with fail
  refine HP.out.mono ?_
  rintro e w5 ⟨rfl, b5⟩
  clear c0 d1
  obtain ⟨own4, j2, j3, b4, s3, s4⟩ := H4.out
  have own5 : OwnC w5 W3.heap.size A2 c2 l := own4.kept (lbelow_grown b5 none) (fun r e => by cases e)
  have i2 := j2.below b5 j2.lt
  have i3 := j3.below b5 j3.lt
  have b45 := bt b4 b5
  have hs5 := b5.size
  have d0 := i2.cell 0
  have d1 := i2.cell 1
  have d2 := i2.cell 2
  simp only [List.getElem?_toArray, List.getElem?_cons_zero, List.getElem?_cons_succ] at d0 d1 d2
  by_cases hpos : posN l x.y < l.length
  · obtain ⟨q, hq⟩ : ∃ q, q = posN l x.y := ⟨_, rfl⟩
    have hqI : posI l x.y = (q : Int) := by unfold posI; rw [if_pos hpos, hq]
    rw [hqI]
    have hqn : q < n := by rw [hn.out, hq]; exact hpos
    have hqI2 : (q : Int) < (n : Int) := by omega
    obtain ⟨g, cap, e⟩ := Joins.ownsRow_form own5 (by omega)
    cases e
    unfold OwnC at own5
    rw [← hn.out] at own5
    obtain ⟨hgB, hgl⟩ := own5.lt g rfl
    have st1 := own5.stored (q * 3) (.int .i64 x.k)
    obtain ⟨V1, hV1⟩ : ∃ V1, w5.setCell ⟨g, q * 3, none⟩ (.int .i64 x.k) = V1 := ⟨_, rfl⟩
    rw [hV1] at st1
    have st2 := st1.1.stored (q * 3 + 1) (.int .i64 x.y)
    obtain ⟨V2, hV2⟩ : ∃ V2, V1.setCell ⟨g, q * 3 + 1, none⟩ (.int .i64 x.y) = V2 := ⟨_, rfl⟩
    rw [hV2] at st2
    have st3 := st2.1.stored (q * 3 + 2) (.int .u64 (x.v : Nat))
    obtain ⟨V3, hV3⟩ : ∃ V3, V2.setCell ⟨g, q * 3 + 2, none⟩ (.int .u64 (x.v : Nat)) = V3 := ⟨_, rfl⟩
    rw [hV3] at st3
    have hlen : (chV l).length = n * 3 := by rw [chV_len, hn.out]
    obtain ⟨u1, e1⟩ : ∃ u1, w5.cell? ⟨g, q * 3, none⟩ = some u1 := by rw [own5.cellAt (q * 3) (by omega)]; exact ⟨_, List.getElem?_eq_getElem (by omega)⟩
    obtain ⟨u2, e2⟩ : ∃ u2, V1.cell? ⟨g, q * 3 + 1, none⟩ = some u2 := by rw [st1.1.cellAt (q * 3 + 1) (by omega)]; exact ⟨_, List.getElem?_eq_getElem (by rw [List.length_set]; omega)⟩
    obtain ⟨u3, e3⟩ : ∃ u3, V2.cell? ⟨g, q * 3 + 2, none⟩ = some u3 := by rw [st2.1.cellAt (q * 3 + 2) (by omega)]; exact ⟨_, List.getElem?_eq_getElem (by rw [List.length_set, List.length_set]; omega)⟩
    have f1 := own5.frozenAt (q * 3)
    have f2 := st1.1.frozenAt (q * 3 + 1)
    have f3 := st2.1.frozenAt (q * 3 + 2)
    have gr := (st1.2.trans st2.2).trans st3.2
    have ownF : OwnC V3 W3.heap.size (some ⟨g, 0, none⟩) c2 (withL l x) := by
      have hl : (withL l x).length = n := by unfold withL; rw [if_pos hpos, List.length_set, hn.out]
      unfold OwnC
      rw [hl]
      have := st3.1
      rw [chV_set] at this
      unfold withL
      rw [if_pos hpos, ← hq]
      exact this
    have hl : Hid (n = (withL l x).length) := Lib.hid (by unfold withL; rw [if_pos hpos, List.length_set, hn.out])
    have i3' := i3.kept gr (fun e => by have := Option.some.inj e; omega)
    have bF := b45.grown gr (by omega) (fun r e => by cases e; omega)
    obtain ⟨V4, hV4⟩ : ∃ V4, V3.setCell ⟨w.heap.size + 1 + 1, 0, none⟩ (.slice (some ⟨g, 0, none⟩) n c2) = V4 := ⟨_, rfl⟩
    have cr : V3.cell? ⟨w.heap.size + 1 + 1, 0, none⟩ = some (.slice none 0 0) := i3'.cell 0
    have fr : V3.frozen? ⟨w.heap.size + 1 + 1, 0, none⟩ = false := i3'.frozen 0
    have cr2 : V4.cell? ⟨w.heap.size + 1 + 1, 0, none⟩ = some (.slice (some ⟨g, 0, none⟩) n c2) := by
      rw [← hV4]
      have := (i3'.set_ 0 (.slice (some ⟨g, 0, none⟩) n c2)).cell 0
      simpa using this
    have ownG : OwnC V4 W3.heap.size (some ⟨g, 0, none⟩) c2 (withL l x) := by
      rw [← hV4]; exact ownF.kept (lgrown_set _ _ _) (fun r e => by cases e; show w.heap.size + 1 + 1 < _; omega)
    have bG : Below w.heap.size w V4 := by rw [← hV4]; exact bF.setCell (by show w.heap.size ≤ w.heap.size + 1 + 1; omega) _
    have HF := Lib.hid (And.intro ownG.at_ bG)
    clear own4 j2 j3 b4 s3 s4 own5 i2 i3 b45 hs5 st1 st2 st3 gr ownF i3' bF ownG bG hgB hgl hlen hpos hq
    go_wp2
    refine bodyPost_ret (by simp [results, Try.results54, go_sem, cr2]; try rfl) rfl ?_
    exact ⟨⟨_, n, _, rfl, hl.out, HF.out.1.mono (fun b hb _ => Nat.le_trans HK.out.2.2.2.1.size hb)⟩, HF.out.2⟩
  · have hqI : posI l x.y = -1 := by unfold posI; rw [if_neg hpos]
    rw [hqI]
    obtain ⟨W6, hW6⟩ : ∃ W6, W6 = w5.alloc (.cells #[.int .i64 x.k, .int .i64 x.y, .int .u64 (x.v : Nat)] 47) := ⟨_, rfl⟩
    have b6 : Below w5.heap.size w5 W6 := by rw [hW6]; exact ba _ _
    have kq : Blk W6 w5.heap.size 47 #[.int .i64 x.k, .int .i64 x.y, .int .u64 (x.v : Nat)] := by rw [hW6]; exact Blk.new _ _ _
    have own6 : OwnC W6 W3.heap.size A2 c2 l := own5.kept (lbelow_grown b6 none) (fun r e => by cases e)
    obtain ⟨A3, c3, w7, hrun, own7, g7, hat7⟩ := ch_app own6 (some ⟨w5.heap.size, 0, none⟩) 1 [x] n 1 hn.out rfl (fun b o e i hi => by
      cases e
      have : i = 0 := by simp at hi; omega
      subst this
      exact ⟨(kq.cell 0).trans rfl, (kq.cell 1).trans rfl, (kq.cell 2).trans rfl⟩) (fun _ => ⟨_, _, rfl⟩) (by rw [hn.out]; exact own6.cap) (by rw [← hn.out]; simp; omega) (by have := b6.size; omega)
    have hl : Hid (n + 1 = (withL l x).length) := Lib.hid (by unfold withL; rw [if_neg hpos, List.length_append, hn.out]; rfl)
    have ownF : OwnC w7 W3.heap.size A3 c3 (withL l x) := by unfold withL; rw [if_neg hpos]; exact own7
    have i3' := (i3.below b6 i3.lt).kept g7 (fun e => by have := own6.lt' _ e.symm; omega)
    have bF := (bt b45 b6).grown g7 (by have := b6.size; omega) (fun r e => by have := own6.lt' r e; omega)
    obtain ⟨V4, hV4⟩ : ∃ V4, w7.setCell ⟨w.heap.size + 1 + 1, 0, none⟩ (.slice A3 (n + 1 : Nat) c3) = V4 := ⟨_, rfl⟩
    have cr : w7.cell? ⟨w.heap.size + 1 + 1, 0, none⟩ = some (.slice none 0 0) := i3'.cell 0
    have fr : w7.frozen? ⟨w.heap.size + 1 + 1, 0, none⟩ = false := i3'.frozen 0
    have cr2 : V4.cell? ⟨w.heap.size + 1 + 1, 0, none⟩ = some (.slice A3 (n + 1 : Nat) c3) := by
      rw [← hV4]
      have := (i3'.set_ 0 (.slice A3 (n + 1 : Nat) c3)).cell 0
      simpa using this
    have ownG : OwnC V4 W3.heap.size A3 c3 (withL l x) := by
      rw [← hV4]; exact ownF.kept (lgrown_set _ _ _) (fun r e => by cases e; show w.heap.size + 1 + 1 < _; omega)
    have bG : Below w.heap.size w V4 := by rw [← hV4]; exact bF.setCell (by show w.heap.size ≤ w.heap.size + 1 + 1; omega) _
    have HF := Lib.hid (And.intro ownG.at_ bG)
    rw [hW6] at hrun
    clear own4 j2 j3 b4 s3 s4 own5 i2 i3 b45 hs5 hW6 b6 kq own6 own7 g7 hat7 ownF i3' bF ownG bG hpos
    go_wp2_with (at_builtin; refine wpList_append_run rfl (.tmp 20) (.tmp 22) 34 rfl _ _ _ w7 rfl rfl hrun ?_)
    refine bodyPost_ret (by simp [results, Try.results54, go_sem, cr2]; try rfl) rfl ?_
    exact ⟨⟨_, n + 1, _, rfl, hl.out, HF.out.1.mono (fun b hb _ => Nat.le_trans HK.out.2.2.2.1.size hb)⟩, HF.out.2⟩
end Go.Proofs.Ytihchfjdgeehoaa
