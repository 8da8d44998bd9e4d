/- Layer 10: the document's rows. -/
import Derived.Test.YtfhfbekphmnbgaaDoorVs
import Derived.Maps.AppendAt
namespace Go.Proofs.YtfhfbekphmnbgaaDoor
open Go.RowKit
set_option linter.unusedVariables false
set_option linter.unusedSimpArgs false

def rw8 (r : Int × Int × Int × Int × Int × Bool × Int × Int) : List Value := [.int .i64 r.1, .int .i64 r.2.1, .int .i64 r.2.2.1, .int .i64 r.2.2.2.1, .int .i64 r.2.2.2.2.1, .bool r.2.2.2.2.2.1, .int .i64 r.2.2.2.2.2.2.1, .int .i64 r.2.2.2.2.2.2.2]
def flat (L : List (Int × Int × Int × Int × Int × Bool × Int × Int)) : List Value := L.flatMap rw8
theorem flat_length (L : List (Int × Int × Int × Int × Int × Bool × Int × Int)) : (flat L).length = 8 * L.length := by
  induction L with
  | nil => rfl
  | cons a L ih => simp only [flat, List.flatMap_cons, List.length_append, List.length_cons] at *; rw [ih]; simp [rw8]; omega
theorem flat_snoc (L : List (Int × Int × Int × Int × Int × Bool × Int × Int)) (r : Int × Int × Int × Int × Int × Bool × Int × Int) : flat (L ++ [r]) = flat L ++ rw8 r := by simp [flat]
def tabR : List (Int × Int × Int × Int × Int × Bool × Int × Int) := [(1, 1, 0, 2, 0, false, 0, 0), (2, 1, 0, 2, 2, false, 1, 0), (3, 1, 1, 2, 1, true, 3, 0), (4, 1, 1, 2, 1, true, 4, 0), (5, 1, 1, 2, 1, true, 5, 0), (6, 3, 0, 2, 2, false, 1, 0), (6, 4, 0, 2, 1, false, 2, 0), (6, 5, 0, 2, 12, false, 12, 0), (8, 1, 0, 1, 12, false, 12, 0), (10, 1, 2, 2, 0, true, 6, 0), (10, 10, 2, 2, 0, true, 7, 0), (10, 11, 2, 2, 0, true, 8, 0), (10, 6, 2, 2, 2, false, 1, 2), (10, 7, 2, 2, 1, false, 2, 1), (10, 8, 2, 2, 12, false, 12, 0), (11, 1, 2, 2, 10, false, 0, 0), (12, 1, 2, 2, 11, false, 0, 0), (13, 9, 2, 2, -1, false, -1, 0)]
def errR (s : Int) : Int × Int × Int × Int × Int × Bool × Int × Int := (7, s, 0, 2, 1, false, 2, 0)
def abR (s : Int) : Int × Int × Int × Int × Int × Bool × Int × Int := (9, s, 0, 2, 12, false, 12, 0)
def boR (s : Int) : Int × Int × Int × Int × Int × Bool × Int × Int := (13, s, 2, 2, -1, true, 9, 0)
def rows1 (q : Nat) : List (Int × Int × Int × Int × Int × Bool × Int × Int) := tabR ++ (List.range q).map fun (i : Nat) => errR ((i : Int) + 1)
def rows2 (q : Nat) : List (Int × Int × Int × Int × Int × Bool × Int × Int) := rows1 8 ++ (List.range q).flatMap fun (i : Nat) => if i = 8 then [abR ((i : Int) + 1)] else [abR ((i : Int) + 1), boR ((i : Int) + 1)]
theorem rows1_succ (q : Nat) : rows1 (q + 1) = rows1 q ++ [errR ((q : Int) + 1)] := by
  unfold rows1
  rw [List.range_succ, List.map_append, List.append_assoc]
  rfl
theorem rows2_eight (q : Nat) (h : q = 8) : rows2 (q + 1) = rows2 q ++ [abR ((q : Int) + 1)] := by
  unfold rows2
  rw [List.range_succ, List.flatMap_append, ← List.append_assoc]
  simp [h]
theorem rows2_other (q : Nat) (h : q ≠ 8) : rows2 (q + 1) = (rows2 q ++ [abR ((q : Int) + 1)]) ++ [boR ((q : Int) + 1)] := by
  unfold rows2
  rw [List.range_succ, List.flatMap_append, ← List.append_assoc]
  simp [h]
theorem rows1_length (q : Nat) : (rows1 q).length = 18 + q := by
  unfold rows1
  rw [List.length_append, List.length_map, List.length_range]
  rfl
theorem rows2_le (q : Nat) : (rows2 q).length ≤ 26 + 2 * q := by
  induction q with
  | zero => simp [rows2, rows1_length]
  | succ q ih =>
    by_cases h : q = 8
    · rw [rows2_eight q h]; simp; omega
    · rw [rows2_other q h]; simp; omega
theorem rw8_cells (w : World) (r : Int × Int × Int × Int × Int × Bool × Int × Int) (t : TypeId) : ∀ j u, (rw8 r)[j]? = some u → (w.alloc (.cells (rw8 r).toArray t)).cell? ((⟨w.heap.size, 0, none⟩ : Addr).add j) = some u := by
  intro j u hu
  rw [Addr.add_lit, World.cell?_alloc_at _ _ _ _ rfl, Nat.zero_add]
  simpa using hu
theorem rw8_one (r : Int × Int × Int × Int × Int × Bool × Int × Int) : ∀ u ∈ rw8 r, u.oneCell' = true := by
  intro u hu
  simp [rw8] at hu
  rcases hu with rfl | rfl | rfl | rfl | rfl | rfl | rfl | rfl <;> rfl
/-- The list of rows is the call's own, and holds L. -/
def OwnR (w : World) (B : Nat) (v : Value) (n : Nat) (L : List (Int × Int × Int × Int × Int × Bool × Int × Int)) : Prop := w.ownsRow B 59 8 v n (flat L) ∧ n = L.length ∧ n ≤ 48

theorem OwnR.push {w w' : World} {B : Nat} {v v' : Value} {n : Nat} {L : List (Int × Int × Int × Int × Int × Bool × Int × Int)} (h : OwnR w B v n L) (r : Int × Int × Int × Int × Int × Bool × Int × Int) (hn : n < 48) (h' : w'.ownsRow B 59 8 v' (n + 1) (flat L ++ rw8 r)) : OwnR w' B v' (n + 1) (L ++ [r]) :=
  ⟨by rw [flat_snoc]; exact h', by rw [List.length_append, ← h.2.1]; rfl, hn⟩
theorem OwnR.new (w : World) : OwnR (w.alloc (.cells (flat tabR).toArray 59)) w.heap.size (.slice (some ⟨w.heap.size, 0, none⟩) 18 18) 18 tabR :=
  ⟨⟨by rw [flat_length]; rfl, .inr ⟨w.heap.size, 18, (flat tabR).toArray, rfl, Nat.le_refl _, heap_alloc_new w _, Nat.le_refl _, by decide, by simp [flat_length]; rfl, List.take_of_length_le (by rw [flat_length]; decide)⟩⟩, rfl, by decide⟩

set_option maxRecDepth 100000 in
set_option maxHeartbeats 4000000 in
theorem rows_any (w : World) : Calls Tryd.prog 28 #[] w fun e w' => ∃ v, e = .returned v ∧ OwnR w' w.heap.size v (rows2 11).length (rows2 11) ∧ Below w.heap.size w w' := by
  obtain ⟨i0, hi⟩ : ∃ i, Tryd.prog.info? 59 = some i := Option.isSome_iff_exists.1 (by kernel_rfl)
  have hz0 : i0.zero = some (.agg #[.int .i64 0, .int .i64 0, .int .i64 0, .int .i64 0, .int .i64 0, .bool false, .int .i64 0, .int .i64 0]) := by
    have h : (Tryd.prog.info? 59).bind (·.zero) = some (.agg #[.int .i64 0, .int .i64 0, .int .i64 0, .int .i64 0, .int .i64 0, .bool false, .int .i64 0, .int .i64 0]) := by kernel_rfl
    rw [hi] at h; exact h
  have hz1 : i0.size = 8 := by
    have h : (Tryd.prog.info? 59).map (·.size) = some 8 := by kernel_rfl
    rw [hi] at h; exact Option.some.inj h
  have hz2 : i0.bytes = 64 := by
    have h : (Tryd.prog.info? 59).map (·.bytes) = some 64 := by kernel_rfl
    rw [hi] at h; exact Option.some.inj h
  have own0 := OwnR.new w
  have hb0 := ba w (.cells (flat tabR).toArray 59)
  have hfl : (flat tabR).toArray = #[.int .i64 (1), .int .i64 (1), .int .i64 (0), .int .i64 (2), .int .i64 (0), .bool false, .int .i64 (0), .int .i64 (0), .int .i64 (2), .int .i64 (1), .int .i64 (0), .int .i64 (2), .int .i64 (2), .bool false, .int .i64 (1), .int .i64 (0), .int .i64 (3), .int .i64 (1), .int .i64 (1), .int .i64 (2), .int .i64 (1), .bool true, .int .i64 (3), .int .i64 (0), .int .i64 (4), .int .i64 (1), .int .i64 (1), .int .i64 (2), .int .i64 (1), .bool true, .int .i64 (4), .int .i64 (0), .int .i64 (5), .int .i64 (1), .int .i64 (1), .int .i64 (2), .int .i64 (1), .bool true, .int .i64 (5), .int .i64 (0), .int .i64 (6), .int .i64 (3), .int .i64 (0), .int .i64 (2), .int .i64 (2), .bool false, .int .i64 (1), .int .i64 (0), .int .i64 (6), .int .i64 (4), .int .i64 (0), .int .i64 (2), .int .i64 (1), .bool false, .int .i64 (2), .int .i64 (0), .int .i64 (6), .int .i64 (5), .int .i64 (0), .int .i64 (2), .int .i64 (12), .bool false, .int .i64 (12), .int .i64 (0), .int .i64 (8), .int .i64 (1), .int .i64 (0), .int .i64 (1), .int .i64 (12), .bool false, .int .i64 (12), .int .i64 (0), .int .i64 (10), .int .i64 (1), .int .i64 (2), .int .i64 (2), .int .i64 (0), .bool true, .int .i64 (6), .int .i64 (0), .int .i64 (10), .int .i64 (10), .int .i64 (2), .int .i64 (2), .int .i64 (0), .bool true, .int .i64 (7), .int .i64 (0), .int .i64 (10), .int .i64 (11), .int .i64 (2), .int .i64 (2), .int .i64 (0), .bool true, .int .i64 (8), .int .i64 (0), .int .i64 (10), .int .i64 (6), .int .i64 (2), .int .i64 (2), .int .i64 (2), .bool false, .int .i64 (1), .int .i64 (2), .int .i64 (10), .int .i64 (7), .int .i64 (2), .int .i64 (2), .int .i64 (1), .bool false, .int .i64 (2), .int .i64 (1), .int .i64 (10), .int .i64 (8), .int .i64 (2), .int .i64 (2), .int .i64 (12), .bool false, .int .i64 (12), .int .i64 (0), .int .i64 (11), .int .i64 (1), .int .i64 (2), .int .i64 (2), .int .i64 (10), .bool false, .int .i64 (0), .int .i64 (0), .int .i64 (12), .int .i64 (1), .int .i64 (2), .int .i64 (2), .int .i64 (11), .bool false, .int .i64 (0), .int .i64 (0), .int .i64 (13), .int .i64 (9), .int .i64 (2), .int .i64 (2), .int .i64 (-1), .bool false, .int .i64 (-1), .int .i64 (0)] := rfl
  rw [hfl] at own0 hb0
  go_enter Tryd.func28, Tryd.ntmps28
  go_wp2
  clear hfl
  have own0' := own0
  rw [show tabR = rows1 0 by simp [rows1]] at own0'
  clear own0
  go_loopw [1, 2] (fun x i wr => ∃ (q n : Nat) (v : Value), v = x ∧ q ≤ 8 ∧ i = .int .i64 ((q : Int) + 1) ∧ OwnR wr w.heap.size v n (rows1 q) ∧ Below w.heap.size w wr) (fun _ i _ => 9 - (intOf i).toNat)
  case atStart => exact ⟨0, 18, _, rfl, Nat.zero_le _, rfl, own0', hb0⟩
  case round =>
    obtain ⟨q, n, v, rfl, hq, rfl, hown, hb⟩ := hrel
    clear own0' hb0
    have hnl := hown.2.1
    rw [rows1_length] at hnl
    by_cases hql : q < 8
    · have hqI : ((q : Int) + 1) ≤ 8 := by omega
      have hownA := World.ownsRow.alloc hown.1 (.cells #[.int .i64 7, .int .i64 ((q : Int) + 1), .int .i64 0, .int .i64 2, .int .i64 1, .bool false, .int .i64 2, .int .i64 0] 59)
      have hnew := rw8_cells wr (errR ((q : Int) + 1)) 59
      have hbB := bt hb (ba wr (.cells #[.int .i64 7, .int .i64 ((q : Int) + 1), .int .i64 0, .int .i64 2, .int .i64 1, .bool false, .int .i64 2, .int .i64 0] 59))
      go_wp2_with (at_builtin; (refine wpList_append_own_at _ rfl (.tmp 27) (.tmp 30) 56 rfl w.heap.size 59 i0 _ 8 64 Tryd.underlying56 hi hz0 hz1 hz2 rfl (by decide) v n (flat (rows1 q)) rfl hownA ⟨wr.heap.size, 0, none⟩ 1 1 (rw8 (errR ((q : Int) + 1))) rfl rfl hnew (rw8_one _) (by simp only [maxLen]; omega) (by omega) hbB.size ?_); intro v2 w2 hown2 hgr2 _ hbk2)
      go_roundw
      case rel => exact ⟨q + 1, n + 1, _, rfl, by omega, by first | go_num | (simp; try omega), by rw [rows1_succ]; exact OwnR.push hown _ (by omega) hown2, hbB.grown hgr2 hbB.size (fun k e => (World.ownsRow.lt hown.1 k e).1)⟩
      case measure => simp [intOf]; omega
    · have hq8 : q = 8 := by omega
      have hqI : ¬ ((q : Int) + 1 ≤ 8) := by omega
      have own1 : OwnR wr w.heap.size v n (rows2 0) := by
        have e : rows2 0 = rows1 q := by rw [hq8]; simp [rows2]
        rw [e]; exact hown
      have hb1 := hb
      clear hown hb hq hql hnl hq8
      generalize (q : Int) + 1 = zq at hqI ⊢
      go_wp2
      go_loopw [1, 3] (fun x i wr => ∃ (q n : Nat) (v : Value), v = x ∧ q ≤ 11 ∧ i = .int .i64 ((q : Int) + 1) ∧ OwnR wr w.heap.size v n (rows2 q) ∧ Below w.heap.size w wr) (fun _ i _ => 12 - (intOf i).toNat)
      case atStart => exact ⟨0, n, _, rfl, Nat.zero_le _, rfl, own1, hb1⟩
      case round =>
        obtain ⟨q, m, v0, rfl, hq, rfl, hown, hb⟩ := hrel
        clear own1 hb1
        have hnl := hown.2.1
        have hle := rows2_le q
        by_cases hql : q < 11
        · have hqI : ((q : Int) + 1) ≤ 11 := by omega
          have hm : m ≤ 46 := by rw [hnl]; omega
          have hownA := World.ownsRow.alloc hown.1 (.cells #[.int .i64 9, .int .i64 ((q : Int) + 1), .int .i64 0, .int .i64 2, .int .i64 12, .bool false, .int .i64 12, .int .i64 0] 59)
          have hnew := rw8_cells wr (abR ((q : Int) + 1)) 59
          have hbB := bt hb (ba wr (.cells #[.int .i64 9, .int .i64 ((q : Int) + 1), .int .i64 0, .int .i64 2, .int .i64 12, .bool false, .int .i64 12, .int .i64 0] 59))
          by_cases h8 : q = 8
          · have g8 : ((q : Int) + 1 != 9) = false := by subst h8; rfl
            have hrs := rows2_eight q h8
            clear h8
            go_wp2_with (at_builtin; refine wpList_append_own_at _ rfl (.tmp 36) (.tmp 39) 56 rfl w.heap.size 59 i0 _ 8 64 Tryd.underlying56 hi hz0 hz1 hz2 rfl (by decide) v0 m (flat (rows2 q)) rfl hownA ⟨wr.heap.size, 0, none⟩ 1 1 (rw8 (abR ((q : Int) + 1))) rfl rfl hnew (rw8_one _) (by simp only [maxLen]; omega) (by omega) hbB.size ?_; intro v2 w2 hown2 hgr2 _ hbk2)
            go_roundw
            case rel => first | exact ⟨q + 1, m + 1, _, rfl, by omega, by first | go_num | (simp; try omega), by rw [hrs]; exact OwnR.push hown _ (by omega) hown2, hbB.grown hgr2 hbB.size (fun k e => (World.ownsRow.lt hown.1 k e).1)⟩ | exact ⟨_, q + 1, m + 1, _, rfl, by omega, by first | go_num | (simp; try omega), by rw [hrs]; exact OwnR.push hown _ (by omega) hown2, hbB.grown hgr2 hbB.size (fun k e => (World.ownsRow.lt hown.1 k e).1)⟩ | exact ⟨_, _, q + 1, m + 1, _, rfl, by omega, by first | go_num | (simp; try omega), by rw [hrs]; exact OwnR.push hown _ (by omega) hown2, hbB.grown hgr2 hbB.size (fun k e => (World.ownsRow.lt hown.1 k e).1)⟩ | exact ⟨_, _, _, q + 1, m + 1, _, rfl, by omega, by first | go_num | (simp; try omega), by rw [hrs]; exact OwnR.push hown _ (by omega) hown2, hbB.grown hgr2 hbB.size (fun k e => (World.ownsRow.lt hown.1 k e).1)⟩ | (trace_state; sorry)
            case measure => simp [intOf]; omega
          · have g8 : ((q : Int) + 1 != 9) = true := by simp; omega
            have hrs := rows2_other q h8
            clear h8
            go_wp2_with (first
              | (at_builtin; refine wpList_append_own_at _ rfl (.tmp 36) (.tmp 39) 56 rfl w.heap.size 59 i0 _ 8 64 Tryd.underlying56 hi hz0 hz1 hz2 rfl (by decide) v0 m (flat (rows2 q)) rfl hownA ⟨wr.heap.size, 0, none⟩ 1 1 (rw8 (abR ((q : Int) + 1))) rfl rfl hnew (rw8_one _) (by simp only [maxLen]; omega) (by omega) hbB.size ?_; intro v2 w2 hown2 hgr2 _ hbk2; have hlt2 := fun k e => (World.ownsRow.lt hown.1 k e).1; have hb2 := hbB.grown hgr2 hbB.size hlt2; have hownB := World.ownsRow.alloc hown2 (.cells #[.int .i64 13, .int .i64 ((q : Int) + 1), .int .i64 2, .int .i64 2, .int .i64 (-1), .bool true, .int .i64 9, .int .i64 0] 59); have hnewB := rw8_cells w2 (boR ((q : Int) + 1)) 59; have hbC := bt hb2 (ba w2 (.cells #[.int .i64 13, .int .i64 ((q : Int) + 1), .int .i64 2, .int .i64 2, .int .i64 (-1), .bool true, .int .i64 9, .int .i64 0] 59)))
              | (at_builtin; refine wpList_append_own_at _ rfl (.tmp 43) (.tmp 46) 56 rfl w.heap.size 59 i0 _ 8 64 Tryd.underlying56 hi hz0 hz1 hz2 rfl (by decide) _ (m + 1) (flat (rows2 q) ++ rw8 (abR ((q : Int) + 1))) rfl hownB ⟨w2.heap.size, 0, none⟩ 1 1 (rw8 (boR ((q : Int) + 1))) rfl rfl hnewB (rw8_one _) (by simp only [maxLen]; omega) (by omega) hbC.size ?_; intro v3 w3 hown3 hgr3 _ hbk3))
            go_roundw
            case rel => first | exact ⟨q + 1, m + 1 + 1, _, rfl, by omega, by first | go_num | (simp; try omega), by rw [hrs]; exact OwnR.push (OwnR.push hown _ (by omega) hown2) _ (by omega) (by rw [flat_snoc]; exact hown3), hbC.grown hgr3 hbC.size (fun k e => (World.ownsRow.lt hown2 k e).1)⟩ | exact ⟨_, q + 1, m + 1 + 1, _, rfl, by omega, by first | go_num | (simp; try omega), by rw [hrs]; exact OwnR.push (OwnR.push hown _ (by omega) hown2) _ (by omega) (by rw [flat_snoc]; exact hown3), hbC.grown hgr3 hbC.size (fun k e => (World.ownsRow.lt hown2 k e).1)⟩ | exact ⟨_, _, q + 1, m + 1 + 1, _, rfl, by omega, by first | go_num | (simp; try omega), by rw [hrs]; exact OwnR.push (OwnR.push hown _ (by omega) hown2) _ (by omega) (by rw [flat_snoc]; exact hown3), hbC.grown hgr3 hbC.size (fun k e => (World.ownsRow.lt hown2 k e).1)⟩ | exact ⟨_, _, _, q + 1, m + 1 + 1, _, rfl, by omega, by first | go_num | (simp; try omega), by rw [hrs]; exact OwnR.push (OwnR.push hown _ (by omega) hown2) _ (by omega) (by rw [flat_snoc]; exact hown3), hbC.grown hgr3 hbC.size (fun k e => (World.ownsRow.lt hown2 k e).1)⟩ | (trace_state; sorry)
            case measure => simp [intOf]; omega
        · obtain rfl : q = 11 := by omega
          have hmm : m = (rows2 11).length := hnl
          subst hmm
          clear hnl hle hq hql
          go_wp2
          go_ret
          exact ⟨_, rfl, hown, hb⟩
end Go.Proofs.YtfhfbekphmnbgaaDoor
