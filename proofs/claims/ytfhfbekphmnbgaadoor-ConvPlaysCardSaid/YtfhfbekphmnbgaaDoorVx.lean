/- Layer 10: the document's Do as a function of the rows, and that it is the program's. -/
import Derived.Test.YtfhfbekphmnbgaaDoorVw
import Derived.Test.YtfhfbekphmnbgaaDoorVv
import Derived.Test.YtfhfbekphmnbgaaDoorVm
namespace Go.Proofs.YtfhfbekphmnbgaaDoor
open Go.RowKit
set_option linter.unusedVariables false
set_option linter.unusedSimpArgs false

/-- Does a row fit? -/
def fits (l st v : Int) (r : Int × Int × Int × Int × Int × Bool × Int × Int) : Bool := r.1 == v && (r.2.1 == st && (decide (r.2.2.1 ≤ l) && decide (l ≤ r.2.2.2.1)))
/-- What a row makes. -/
def applyM (c : Int × Int × Bool × Int × Bool × Int) (it : Bool) (r : Int × Int × Int × Int × Int × Bool × Int × Int) : Int × Int × Bool × Int × Bool × Int :=
  (c.1, (if it then toM c false r.2.2.2.2.2.2.1 else toM c false r.2.2.2.2.1), (if it then false else r.2.2.2.2.2.1), (if it then toM c true r.2.2.2.2.1 else toM c true r.2.2.2.2.2.2.1), (if it then r.2.2.2.2.2.1 else false),
    (if r.2.2.2.2.2.2.2 = 1 then bi it else if r.2.2.2.2.2.2.2 = 2 then bi (!it) else c.2.2.2.2.2))
/-- What the rows from one on make. -/
def rowsDo (c : Int × Int × Bool × Int × Bool × Int) (it : Bool) (v : Int) (L : List (Int × Int × Int × Int × Int × Bool × Int × Int)) : (Int × Int × Bool × Int × Bool × Int) × Int := match L.find? (fits c.1 (stM c it) v) with
  | some r => (applyM c it r, 0)
  | none => (zeroC, 7)
def refDoM (c : Int × Int × Bool × Int × Bool × Int) (side v : Int) : (Int × Int × Bool × Int × Bool × Int) × Int :=
  if (rightM c && sdM side) = true then
    if 1 ≤ v ∧ v ≤ 13 then
      if wtM c (decide (side = 1)) = true then (zeroC, 7) else rowsDo c (decide (side = 1)) v (rows2 11)
    else (zeroC, 100)
  else (zeroC, 1)
def allRows : List (Int × Int × Int × Int × Int × Bool × Int × Int) := [(1, 1, 0, 2, 0, false, 0, 0), (2, 1, 0, 2, 2, false, 1, 0), (3, 1, 1, 2, 1, true, 3, 0), (4, 1, 1, 2, 1, true, 4, 0), (5, 1, 1, 2, 1, true, 5, 0), (6, 3, 0, 2, 2, false, 1, 0), (6, 4, 0, 2, 1, false, 2, 0), (6, 5, 0, 2, 12, false, 12, 0), (8, 1, 0, 1, 12, false, 12, 0), (10, 1, 2, 2, 0, true, 6, 0), (10, 10, 2, 2, 0, true, 7, 0), (10, 11, 2, 2, 0, true, 8, 0), (10, 6, 2, 2, 2, false, 1, 2), (10, 7, 2, 2, 1, false, 2, 1), (10, 8, 2, 2, 12, false, 12, 0), (11, 1, 2, 2, 10, false, 0, 0), (12, 1, 2, 2, 11, false, 0, 0), (13, 9, 2, 2, -1, false, -1, 0), (7, 1, 0, 2, 1, false, 2, 0), (7, 2, 0, 2, 1, false, 2, 0), (7, 3, 0, 2, 1, false, 2, 0), (7, 4, 0, 2, 1, false, 2, 0), (7, 5, 0, 2, 1, false, 2, 0), (7, 6, 0, 2, 1, false, 2, 0), (7, 7, 0, 2, 1, false, 2, 0), (7, 8, 0, 2, 1, false, 2, 0), (9, 1, 0, 2, 12, false, 12, 0), (13, 1, 2, 2, -1, true, 9, 0), (9, 2, 0, 2, 12, false, 12, 0), (13, 2, 2, 2, -1, true, 9, 0), (9, 3, 0, 2, 12, false, 12, 0), (13, 3, 2, 2, -1, true, 9, 0), (9, 4, 0, 2, 12, false, 12, 0), (13, 4, 2, 2, -1, true, 9, 0), (9, 5, 0, 2, 12, false, 12, 0), (13, 5, 2, 2, -1, true, 9, 0), (9, 6, 0, 2, 12, false, 12, 0), (13, 6, 2, 2, -1, true, 9, 0), (9, 7, 0, 2, 12, false, 12, 0), (13, 7, 2, 2, -1, true, 9, 0), (9, 8, 0, 2, 12, false, 12, 0), (13, 8, 2, 2, -1, true, 9, 0), (9, 9, 0, 2, 12, false, 12, 0), (9, 10, 0, 2, 12, false, 12, 0), (13, 10, 2, 2, -1, true, 9, 0), (9, 11, 0, 2, 12, false, 12, 0), (13, 11, 2, 2, -1, true, 9, 0)]
theorem rows_all : rows2 11 = allRows := by kernel_rfl
def QD (c : Int × Int × Bool × Int × Bool × Int) (s v : Int) : Bool := (if wtM c (s == 1) = true then (zeroC, 7) else rowsDo c (s == 1) v allRows) == (if (wtM c (s == 1) || !mayM v (stM c (s == 1)) c.1) = true then (zeroC, 7) else (actM c (s == 1) v, 0))
theorem QD_all : (allC.all fun c => !rightM c || [0, 1].all fun s => [1, 2, 3, 4, 5, 6, 7, 8, 9, 10, 11, 12, 13].all fun v => QD c s v) = true := by decide +kernel
theorem refDo_eq {l s0 : Int} {w0 : Bool} {s1 : Int} {w1 : Bool} {t side v : Int} : refDoM (l, s0, w0, s1, w1, t) side v = doM (l, s0, w0, s1, w1, t) side v := by
  unfold refDoM doM
  by_cases h : (rightM (l, s0, w0, s1, w1, t) && sdM side) = true
  · rw [if_pos h, if_pos h]
    by_cases hv : 1 ≤ v ∧ v ≤ 13
    · rw [if_pos hv, if_pos hv, rows_all]
      simp only [Bool.and_eq_true] at h
      have h1 := List.all_eq_true.1 QD_all _ (right_mem h.1)
      rw [h.1] at h1
      have h2 := List.all_eq_true.1 (by simpa using h1 : ([0, 1].all fun s => [1, 2, 3, 4, 5, 6, 7, 8, 9, 10, 11, 12, 13].all fun v => QD (l, s0, w0, s1, w1, t) s v) = true) side (by have := h.2; simp [sdM] at this; simpa using this)
      have h3 := List.all_eq_true.1 h2 v (by simp; omega)
      unfold QD at h3
      have hd : decide (side = 1) = (side == 1) := by cases hh : (side == 1) <;> simpa using hh
      rw [hd]
      exact eq_of_beq h3
    · rw [if_neg hv, if_neg hv]
  · rw [if_neg h, if_neg h]
end Go.Proofs.YtfhfbekphmnbgaaDoor
