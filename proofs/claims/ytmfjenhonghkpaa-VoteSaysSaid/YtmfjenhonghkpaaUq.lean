/- Layer 16: lists of nodes of one's own. -/
import Derived.Test.YtmfjenhonghkpaaUo
namespace Go.Proofs.Ytmfjenhonghkpaa
open Go Go.RowKit
set_option linter.unusedVariables false
set_option linter.unusedSimpArgs false

structure NR where
  v : Int
  A : Option Addr
  c : Nat
  k : Fo
def valsN (l : List NR) : List Value := l.flatMap fun x => [.int .i64 x.v, .slice x.A x.k.len x.c]
def foN : List NR → Fo
  | [] => .nil
  | x :: l => .cons x.v x.k (foN l)
theorem foN_len : ∀ l : List NR, (foN l).len = l.length
  | [] => rfl
  | x :: l => by simp [foN, Fo.len, foN_len l]
theorem valsN_len : ∀ l : List NR, (valsN l).length = l.length * 2
  | [] => rfl
  | x :: l => by have := valsN_len l; simp only [valsN, List.flatMap_cons, List.length_append, List.length_cons, List.length_nil] at this ⊢; omega
theorem valsN_app (l m : List NR) : valsN (l ++ m) = valsN l ++ valsN m := by simp [valsN]
theorem valsN_one (l : List NR) : ∀ u ∈ valsN l, u.oneCell' = true := by
  intro u hu
  unfold valsN at hu
  obtain ⟨x, _, hx⟩ := List.mem_flatMap.1 hu
  simp only [List.mem_cons, List.not_mem_nil, or_false] at hx
  rcases hx with rfl | rfl <;> rfl
/-- The nodes lie in a row. -/
def RowN (w : World) (b : Nat) : Nat → List NR → Prop
  | _, [] => True
  | o, x :: l => w.cell? ⟨b, o, none⟩ = some (.int .i64 x.v) ∧ w.cell? ⟨b, o + 1, none⟩ = some (.slice x.A x.k.len x.c) ∧ RowN w b (o + 2) l
theorem rowN_cells {w : World} {b : Nat} : ∀ (l : List NR) (o : Nat), RowN w b o l → ∀ j u, (valsN l)[j]? = some u → w.cell? ⟨b, o + j, none⟩ = some u
  | [], o, _, j, u, h => by simp [valsN] at h
  | x :: l, o, hr, j, u, h => by
    obtain ⟨h1, h2, h3⟩ := hr
    have e : valsN (x :: l) = .int .i64 x.v :: .slice x.A x.k.len x.c :: valsN l := by simp [valsN]
    rw [e] at h
    match j with
    | 0 => simp at h; subst h; exact h1
    | 1 => simp at h; subst h; exact h2
    | j + 2 =>
      simp at h
      have := rowN_cells l (o + 2) h3 j u h
      rwa [show o + 2 + j = o + (j + 2) by omega] at this
theorem rowN_of {w : World} {b : Nat} : ∀ (l : List NR) (o : Nat), (∀ j u, (valsN l)[j]? = some u → w.cell? ⟨b, o + j, none⟩ = some u) → RowN w b o l
  | [], o, _ => trivial
  | x :: l, o, h => by
    have e : valsN (x :: l) = .int .i64 x.v :: .slice x.A x.k.len x.c :: valsN l := by simp [valsN]
    rw [e] at h
    exact ⟨h 0 _ rfl, h 1 _ rfl, rowN_of l (o + 2) fun j u hu => by
      have := h (j + 2) u (by simpa using hu)
      rwa [show o + (j + 2) = o + 2 + j by omega] at this⟩
/-- Each node's kids lie where they should. -/
def OkN (w : World) (B : Nat) (l : List NR) : Prop := ∀ x ∈ l, x.k.len ≤ maxLen ∧ FoAt w B x.k x.A
theorem fo_of {w : World} {B b : Nat} (hb : b < B) : ∀ (l : List NR) (o : Nat), RowN w b o l → OkN w B l → FoAt w B (foN l) (some ⟨b, o, none⟩)
  | [], _, _, _ => trivial
  | x :: l, o, ⟨h1, h2, h3⟩, h => ⟨b, o, x.A, x.c, rfl, hb, h1, h2, (h x (by simp)).1, (h x (by simp)).2, fo_of hb l (o + 2) h3 (fun y hy => h y (by simp [hy]))⟩
theorem of_fo {w : World} {B : Nat} : ∀ (k : Fo) (A : Option Addr), FoAt w B k A → ∃ l : List NR, foN l = k ∧ OkN w B l ∧ (0 < l.length → ∃ b o, A = some ⟨b, o, none⟩ ∧ b < B ∧ RowN w b o l)
  | .nil, A, _ => ⟨[], rfl, (fun x hx => by simp at hx), fun h => by simp at h⟩
  | .cons v k r, A, ⟨b, o, A', c', e, hb, h1, h2, h3, h4, h5⟩ => by
    obtain ⟨l, hl, hok, hrow⟩ := of_fo r _ h5
    refine ⟨⟨v, A', c', k⟩ :: l, by simp [foN, hl], fun x hx => ?_, fun _ => ⟨b, o, e, hb, h1, h2, ?_⟩⟩
    · rcases List.mem_cons.1 hx with rfl | hx
      · exact ⟨h3, h4⟩
      · exact hok x hx
    · cases l with
      | nil => trivial
      | cons y l =>
        obtain ⟨b', o', e', _, hr⟩ := hrow (by simp)
        cases e'
        exact hr
theorem OkN.below {w w' : World} {B : Nat} {l : List NR} (h : OkN w B l) (hb : Below B w w') : OkN w' B l := fun x hx => ⟨(h x hx).1, (h x hx).2.below hb⟩
theorem OkN.more {w : World} {B B' : Nat} {l : List NR} (h : OkN w B l) (hb : B ≤ B') : OkN w B' l := fun x hx => ⟨(h x hx).1, FoAt.more hb _ _ (h x hx).2⟩
theorem RowN.below {w w' : World} {B b : Nat} (hb : Below B w w') (hlt : b < B) : ∀ (l : List NR) (o : Nat), RowN w b o l → RowN w' b o l
  | [], _, _ => trivial
  | x :: l, o, ⟨h1, h2, h3⟩ => ⟨(hb.cell (p := ⟨b, o, none⟩) hlt).trans h1, (hb.cell (p := ⟨b, o + 1, none⟩) hlt).trans h2, RowN.below hb hlt l (o + 2) h3⟩
/-- The list of one's own. -/
def OwnN (w : World) (B : Nat) (A : Option Addr) (c : Nat) (l : List NR) : Prop := w.ownsRow B 24 2 (.slice A l.length c) l.length (valsN l)
theorem OwnN.nil (w : World) (B : Nat) : OwnN w B none 0 [] := World.ownsRow_nil w _ _ _
theorem OwnN.row {w : World} {B : Nat} {A : Option Addr} {c : Nat} {l : List NR} (h : OwnN w B A c l) (hl : 0 < l.length) : ∃ g, A = some ⟨g, 0, none⟩ ∧ g < w.heap.size ∧ RowN w g 0 l := by
  rcases h.2 with ⟨h1, h2⟩ | ⟨g, cap, cur, h1, hb, hg, hn, hm, hc, ht⟩
  · omega
  · injection h1 with e1 e2 e3
    refine ⟨g, e1, (Array.getElem?_eq_some_iff.1 hg).1, rowN_of l 0 fun j u hu => ?_⟩
    rw [Nat.zero_add, cell_of_row w g j cur _ (0, 0) hg]
    rw [← ht] at hu
    rw [List.getElem?_take] at hu
    split at hu
    · simpa using hu
    · cases hu
theorem OwnN.tree {w : World} {B : Nat} {A : Option Addr} {c : Nat} {l : List NR} (h : OwnN w B A c l) (hok : OkN w w.heap.size l) (hm : l.length ≤ maxLen) : TreeAt w A (foN l) := by
  refine ⟨by rw [foN_len]; exact hm, ?_⟩
  rcases Nat.eq_zero_or_pos l.length with h0 | h0
  · rw [List.eq_nil_of_length_eq_zero h0]; trivial
  · obtain ⟨g, rfl, hlt, hr⟩ := h.row h0
    exact fo_of hlt l 0 hr hok
theorem Try.infoNode : (Try.prog.info? 24).map (fun i => (i.zero, i.size, i.bytes)) = some (some (.agg #[.int .i64 0, .slice none 0 0]), 2, 32) := by kernel_rfl
theorem append_nodes {w : World} {B : Nat} {A : Option Addr} {c : Nat} {l : List NR} (h : OwnN w B A c l) (A' : Option Addr) (c' : Nat) (m : List NR) (n n' : Nat) (hn : n = l.length) (hn' : n' = m.length) (hr : 0 < m.length → ∃ b o, A' = some ⟨b, o, none⟩ ∧ RowN w b o m) (hlen : l.length + m.length ≤ 4000000) (hB : B ≤ w.heap.size) :
    ∃ A2 c2 w', (Builtin.append_ #[22, 22] 22 #[.slice A n c, .slice A' n' c']).run Try.prog w = .ok (.slice A2 (n + n') c2) w' ∧ OwnN w' B A2 c2 (l ++ m) ∧ Below B w w' := by
  subst hn hn'
  obtain ⟨i0, hi, hz0, hz1, hz2⟩ := info_parts Try.infoNode
  have grow : ∀ {row : Option Nat} {w' : World}, w.grownBy w' row → (∀ r, row = some r → B ≤ r) → Below B w w' := fun hg hr => (Below.refl B w).grown hg hB hr
  rcases Nat.eq_zero_or_pos m.length with h0 | h0
  · have hm : m = [] := List.eq_nil_of_length_eq_zero h0
    subst hm
    have key : ∀ (x : Option Addr), (Builtin.append_ #[22, 22] 22 #[.slice A l.length c, .slice x 0 c']).run Try.prog w = .ok (.slice A l.length c) w := by
      intro x
      rcases h.2 with ⟨h1, h2⟩ | ⟨g, cap, cur, h1, _, _, hnc, _⟩
      · simp only [Value.slice.injEq] at h1
        obtain ⟨rfl, h1, rfl⟩ := h1
        cases x <;> simp [Builtin.append_, run_underlying Try.underlying22, sizeOf, typeInfo, hi, Builtin.lenOf, Builtin.firstCells, h1, loadCells, loadCellsFrom]
      · simp only [Value.slice.injEq] at h1
        obtain ⟨rfl, h1, rfl⟩ := h1
        cases x <;> simp [Builtin.append_, run_underlying Try.underlying22, sizeOf, typeInfo, hi, Builtin.lenOf, Builtin.firstCells, hnc, storeCells, loadCells, loadCellsFrom]
    exact ⟨A, c, w, by simpa using key A', by simpa using h, Below.refl _ _⟩
  · obtain ⟨b, o, rfl, hrow⟩ := hr h0
    obtain ⟨v', w', hrun, h1, h2, _, _⟩ := run_append_own_at (P := Try.prog) w B 22 22 24 i0 _ 2 32 Try.underlying22 hi hz0 hz1 hz2 rfl (by omega) (.slice A l.length c) l.length (valsN l) h ⟨b, o, none⟩ m.length c' (valsN m) (valsN_len m)
      (fun j u hu => by rw [Addr.add_lit]; exact rowN_cells m o hrow j u hu) (valsN_one m) (by simp only [maxLen]; omega) (by omega) hB
    have hv : ∃ A2 c2, v' = .slice A2 (l.length + m.length) c2 := by
      rcases h1.2 with ⟨h, h'⟩ | ⟨g, cap, cur, h, _⟩
      · omega
      · exact ⟨_, _, h⟩
    obtain ⟨A2, c2, rfl⟩ := hv
    refine ⟨A2, c2, w', hrun, ?_, grow h2 fun r hr => (h.lt r hr).1⟩
    unfold OwnN
    rw [List.length_append, valsN_app]
    exact h1
end Go.Proofs.Ytmfjenhonghkpaa
