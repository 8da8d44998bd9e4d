/- Layer 10: the right conversations are finitely many; equal conversations. -/
import Derived.Test.YtfhfbekphmnbgaaDoorVj
namespace Go.Proofs.YtfhfbekphmnbgaaDoor
open Go.RowKit
set_option linter.unusedVariables false
set_option linter.unusedSimpArgs false

def shapes : List (Int × Bool × Int × Bool) := (tab.map fun m => (m.1, m.2.1, m.2.2.1, m.2.2.2.1)) ++ [(1, true, 9, false), (2, true, 9, false)]
def allC : List (Int × Int × Bool × Int × Bool × Int) := [0, 1, 2].flatMap fun l => [0, 1].flatMap fun t => shapes.flatMap fun m => [(l, m.1, m.2.1, m.2.2.1, m.2.2.2, t), (l, m.2.2.1, m.2.2.2, m.1, m.2.1, t)]
theorem hit_shape {a : Int} {x : Bool} {b : Int} {y : Bool} {l : Int} (h : tab.any (hit a x b y l) = true) : (a, x, b, y) ∈ shapes := by
  obtain ⟨m, hm, hh⟩ := List.any_eq_true.1 h
  unfold hit at hh
  simp only [Bool.and_eq_true, beq_iff_eq] at hh
  obtain ⟨_, rfl, rfl, rfl, rfl⟩ := hh
  exact List.mem_append_left _ (List.mem_map.2 ⟨m, hm, rfl⟩)
theorem baseM_any (l s0 : Int) (w0 : Bool) (s1 : Int) (w1 : Bool) (t : Int) (f : Bool) : baseM (l, s0, w0, s1, w1, t) f = 1 ∨ baseM (l, s0, w0, s1, w1, t) f = 2 := by
  unfold baseM
  simp only []
  split
  · exact .inl rfl
  · exact .inr rfl
theorem back_shape {a : Int} {x : Bool} {b : Int} {y : Bool} {l bb : Int} (hb : bb = 1 ∨ bb = 2) (h : (l == 2 && (a == bb && (x == true && (b == 9 && y == false)))) = true) : (a, x, b, y) ∈ shapes := by
  simp only [Bool.and_eq_true, beq_iff_eq] at h
  obtain ⟨_, rfl, rfl, rfl, rfl⟩ := h
  rcases hb with rfl | rfl <;> decide
theorem right_mem {l s0 : Int} {w0 : Bool} {s1 : Int} {w1 : Bool} {t : Int} (h : rightM (l, s0, w0, s1, w1, t) = true) : (l, s0, w0, s1, w1, t) ∈ allC := by
  have hr : rightM (l, s0, w0, s1, w1, t) = (lvM l && (sdM t && (meetM (l, s0, w0, s1, w1, t) false || meetM (l, s0, w0, s1, w1, t) true))) := rfl
  rw [hr] at h
  simp only [Bool.and_eq_true, Bool.or_eq_true] at h
  obtain ⟨hl, ht, hm⟩ := h
  have hl3 : l ∈ ([0, 1, 2] : List Int) := by
    simp [lvM] at hl
    simp
    omega
  have ht2 : t ∈ ([0, 1] : List Int) := by
    simp [sdM] at ht
    simpa using ht
  have key : (s0, w0, s1, w1) ∈ shapes ∨ (s1, w1, s0, w0) ∈ shapes := by
    rcases hm with hm | hm
    · have : (tab.any (hit s0 w0 s1 w1 l) || (l == 2 && (s0 == baseM (l, s0, w0, s1, w1, t) false && (w0 == true && (s1 == 9 && w1 == false))))) = true := hm
      rcases Bool.or_eq_true_iff.1 this with h1 | h1
      · exact .inl (hit_shape h1)
      · exact .inl (back_shape (baseM_any _ _ _ _ _ _ _) h1)
    · have : (tab.any (hit s1 w1 s0 w0 l) || (l == 2 && (s1 == baseM (l, s0, w0, s1, w1, t) true && (w1 == true && (s0 == 9 && w0 == false))))) = true := hm
      rcases Bool.or_eq_true_iff.1 this with h1 | h1
      · exact .inr (hit_shape h1)
      · exact .inr (back_shape (baseM_any _ _ _ _ _ _ _) h1)
  unfold allC
  refine List.mem_flatMap.2 ⟨l, hl3, List.mem_flatMap.2 ⟨t, ht2, ?_⟩⟩
  rcases key with k | k
  · exact List.mem_flatMap.2 ⟨_, k, by simp⟩
  · exact List.mem_flatMap.2 ⟨_, k, by simp⟩
/-- What holds of each right conversation, side and verb, out of finitely many cases. -/
theorem all_cases (Q : Int × Int × Bool × Int × Bool × Int → Int → Int → Bool) (hfin : (allC.all fun c => [0, 1].all fun s => [1, 2, 3, 4, 5, 6, 7, 8, 9, 10, 11, 12, 13].all fun v => Q c s v) = true)
    {l s0 : Int} {w0 : Bool} {s1 : Int} {w1 : Bool} {t : Int} (h : rightM (l, s0, w0, s1, w1, t) = true) {s : Int} (hs : sdM s = true) {v : Int} (hv : 1 ≤ v ∧ v ≤ 13) : Q (l, s0, w0, s1, w1, t) s v = true := by
  have h1 := List.all_eq_true.1 hfin _ (right_mem h)
  have h2 := List.all_eq_true.1 h1 s (by simp [sdM] at hs; simpa using hs)
  exact List.all_eq_true.1 h2 v (by simp; omega)
theorem all_convs (Q : Int × Int × Bool × Int × Bool × Int → Int → Bool) (hfin : (allC.all fun c => [0, 1].all fun s => Q c s) = true)
    {l s0 : Int} {w0 : Bool} {s1 : Int} {w1 : Bool} {t : Int} (h : rightM (l, s0, w0, s1, w1, t) = true) {s : Int} (hs : sdM s = true) : Q (l, s0, w0, s1, w1, t) s = true := by
  have h1 := List.all_eq_true.1 hfin _ (right_mem h)
  exact List.all_eq_true.1 h1 s (by simp [sdM] at hs; simpa using hs)

theorem eq24d (d : Nat) (a : Int) (x : Bool) (b : Int) (y : Bool) (a' : Int) (x' : Bool) (b' : Int) (y' : Bool) (w : World) : (Op.equalIn (d + 1 + 1 + 1) 24 (.agg #[.int .i64 a, .bool x, .int .i64 b, .bool y]) (.agg #[.int .i64 a', .bool x', .int .i64 b', .bool y'])).run Tryd.prog w = .ok (a == a' && (x == x' && (b == b' && y == y'))) w := by
  obtain ⟨i, hi⟩ : ∃ i, Tryd.prog.info? 23 = some i := Option.isSome_iff_exists.1 (by kernel_rfl)
  rw [run_equalIn_array w _ _ _ Tryd.underlying24 hi]
  have hc : Tryd.prog.cellsOf 23 = 2 := by kernel_rfl
  rw [hc]
  cases h1 : a == a' <;> cases h2 : x == x' <;> cases h3 : b == b' <;> cases h4 : y == y' <;> simp [Op.eqItems, List.range, List.range.loop, go_sem, h1, h2, h3, h4]
def eqM (l a : Int) (x : Bool) (b : Int) (y : Bool) (t l' a' : Int) (x' : Bool) (b' : Int) (y' : Bool) (t' : Int) : Bool := l == l' && ((a == a' && (x == x' && (b == b' && y == y'))) && t == t')
theorem eqI (l a : Int) (x : Bool) (b : Int) (y : Bool) (t l' a' : Int) (x' : Bool) (b' : Int) (y' : Bool) (t' : Int) (w : World) : (Op.equalIn 10000 26 (.agg #[.int .i64 l, .int .i64 a, .bool x, .int .i64 b, .bool y, .int .i64 t]) (.agg #[.int .i64 l', .int .i64 a', .bool x', .int .i64 b', .bool y', .int .i64 t'])).run Tryd.prog w = .ok (eqM l a x b y t l' a' x' b' y' t') w := by
  rw [run_equalIn_struct w 9999 26 _ _ (by kernel_rfl) (by kernel_rfl)]
  have hA := fun w => eq24d 9996 a x b y a' x' b' y' w
  simp only [Nat.reduceAdd] at hA
  unfold eqM
  generalize (a == a' && (x == x' && (b == b' && y == y'))) = R at *
  cases h1 : l == l' <;> cases h2 : t == t' <;> cases R <;> simp [Op.eqFields, Program.fieldsOf, Tryd.underlying26, go_sem, h1, h2, hA]
theorem eqC (l a : Int) (x : Bool) (b : Int) (y : Bool) (t l' a' : Int) (x' : Bool) (b' : Int) (y' : Bool) (t' : Int) (w : World) : (binOp .eql 26 (.agg #[.int .i64 l, .int .i64 a, .bool x, .int .i64 b, .bool y, .int .i64 t]) (.agg #[.int .i64 l', .int .i64 a', .bool x', .int .i64 b', .bool y', .int .i64 t'])).run Tryd.prog w = .ok (.bool (eqM l a x b y t l' a' x' b' y' t')) w := by
  rw [run_eql_struct, eqI]
  rfl
theorem neC (l a : Int) (x : Bool) (b : Int) (y : Bool) (t l' a' : Int) (x' : Bool) (b' : Int) (y' : Bool) (t' : Int) (w : World) : (binOp .neq 26 (.agg #[.int .i64 l, .int .i64 a, .bool x, .int .i64 b, .bool y, .int .i64 t]) (.agg #[.int .i64 l', .int .i64 a', .bool x', .int .i64 b', .bool y', .int .i64 t'])).run Tryd.prog w = .ok (.bool (!eqM l a x b y t l' a' x' b' y' t')) w := by
  rw [run_neq_struct, eqI]
  rfl
end Go.Proofs.YtfhfbekphmnbgaaDoor
