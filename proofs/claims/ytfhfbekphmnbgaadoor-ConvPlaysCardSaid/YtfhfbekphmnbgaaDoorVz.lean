/- Layer 10: the document's Do, row by row. -/
import Derived.Test.YtfhfbekphmnbgaaDoorVx
import Derived.Test.YtfhfbekphmnbgaaDoorVy
import Derived.Deep.QuietTactic
import Derived.BigQuiet
namespace Go.Proofs.YtfhfbekphmnbgaaDoor
open Go.RowKit
set_option linter.unusedVariables false
set_option linter.unusedSimpArgs false
theorem below_drewN (w : World) (n : Nat) : Below w.heap.size w (w.drewN n) := by
  induction n with
  | zero => exact Below.refl _ _
  | succ n ih => exact ih.drew
theorem flat_get : ∀ (L : List (Int × Int × Int × Int × Int × Bool × Int × Int)) (q : Nat) (r : Int × Int × Int × Int × Int × Bool × Int × Int), L[q]? = some r → ∀ j, j < 8 → (flat L)[q * 8 + j]? = (rw8 r)[j]? := by
  intro L
  induction L with
  | nil => intro q r h; simp at h
  | cons a L ih =>
    intro q r h j hj
    have e : flat (a :: L) = rw8 a ++ flat L := by simp [flat]
    have hl : (rw8 a).length = 8 := rfl
    cases q with
    | zero =>
      simp at h
      subst h
      rw [e, List.getElem?_append_left (by rw [hl]; omega)]
      simp
    | succ q =>
      simp at h
      rw [e, List.getElem?_append_right (by rw [hl]; omega), hl, show (q + 1) * 8 + j - 8 = q * 8 + j by omega]
      exact ih q r h j hj
theorem find_at {α : Type} (f : α → Bool) : ∀ (L : List α) (q : Nat) (r : α), L[q]? = some r → f r = true → (∀ j x, L[j]? = some x → j < q → f x = false) → L.find? f = some r := by
  intro L
  induction L with
  | nil => intro q r h; simp at h
  | cons a L ih =>
    intro q r h hf hall
    cases q with
    | zero =>
      simp at h
      subst h
      rw [List.find?_cons_of_pos hf]
    | succ q =>
      have ha := hall 0 a (by simp) (by omega)
      rw [List.find?_cons_of_neg (by rw [ha]; simp)]
      exact ih q r (by simpa using h) hf (fun j x hj hjq => hall (j + 1) x (by simpa using hj) (by omega))
theorem find_none {α : Type} (f : α → Bool) (L : List α) (h : ∀ j x, L[j]? = some x → j < L.length → f x = false) : L.find? f = none := by
  rw [List.find?_eq_none]
  intro x hx
  obtain ⟨j, hj, he⟩ := List.getElem_of_mem hx
  rw [h j x (by rw [List.getElem?_eq_getElem hj, he]) hj]
  simp
def RowsAt (w : World) (g : Nat) : Prop := g < w.heap.size ∧ ∀ k u, (flat allRows)[k]? = some u → w.cell? ⟨g, k, none⟩ = some u
theorem RowsAt.bt {w w' : World} {g : Nat} (h : RowsAt w g) (hb : Below w.heap.size w w') : RowsAt w' g := ⟨Nat.lt_of_lt_of_le h.1 hb.size, fun k u hk => (hb.cell (p := ⟨g, k, none⟩) h.1).trans (h.2 k u hk)⟩
set_option maxRecDepth 100000 in
theorem OwnR.at {w : World} {B n : Nat} {v : Value} (h : OwnR w B v n allRows) : ∃ g c, v = .slice (some ⟨g, 0, none⟩) 47 c ∧ RowsAt w g := by
  have hl47 : allRows.length = 47 := by decide +kernel
  have hn : n = 47 := h.2.1.trans hl47
  subst hn
  have h1 := h.1
  rcases h1.2 with ⟨h0, _⟩ | ⟨g, cap, cur, hv, hb, hg, hn, hm, _⟩
  · omega
  · subst hv
    refine ⟨g, cap, rfl, (Array.getElem?_eq_some_iff.1 hg).1, fun k u hk => ?_⟩
    have hl : k < (flat allRows).length := (List.getElem?_eq_some_iff.1 hk).1
    exact (World.ownsRow.cellAt h1 k hl).trans hk

def VTo (C : Value) (gr : Nat) (ii jj ri ro A1 B1 : Int) (i : Nat) (v : Value) (w : World) : Prop :=
  match i with
  | 0 => v = C
  | 1 => v = .int .i64 ii
  | 2 => v = .pointer (some ⟨gr, 4, none⟩)
  | 3 => v = .int .i64 ri
  | 4 => v = .int .i64 A1
  | 5 => v = C
  | 6 => v = .int .i64 ii
  | 7 => v = .int .i64 jj
  | 8 => v = .pointer (some ⟨gr, 6, none⟩)
  | 9 => v = .int .i64 ro
  | 10 => v = .int .i64 B1
  | 11 => v = .int .i64 A1
  | 12 => v = .int .i64 B1
  | _ => True

end Go.Proofs.YtfhfbekphmnbgaaDoor
