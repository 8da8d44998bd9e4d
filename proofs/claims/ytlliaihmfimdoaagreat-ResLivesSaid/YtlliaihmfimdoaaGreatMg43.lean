/- Parts So of one proof. -/
import Derived.Test.YtlliaihmfimdoaaGreatMg41
namespace Go.Proofs.YtlliaihmfimdoaaGreat.Re
open Go.RowKit Go.Maps Go.Deep Go.Proofs.YtlliaihmfimdoaaGreat
set_option linter.unusedVariables false
set_option linter.unusedSimpArgs false
set_option maxRecDepth 100000 in
set_option maxHeartbeats 2000000 in
theorem call_other (g : Nat) (cs : Array Value) (S : RS) (N : Nat) (k n y : Int) (v : Nat) (A : Option Addr) (q c : Nat) (w : World) (h : ResAt w g cs S N) (hk : k < 0 ∨ 8 < k) :
  Calls Tryz.prog 12 #[.pointer (some ⟨g, 0, none⟩), .agg #[.int .i64 k, .int .i64 n, .int .i64 y, .int .u64 (v : Nat), .slice A q c]] w (CallO w g N ((0, false, [], 0), S)) := by
 have e0 : (k == 0) = false := beq_eq_false_iff_ne.2 (by omega)
 have e1 : (k == 1) = false := beq_eq_false_iff_ne.2 (by omega)
 have e2 : (k == 2) = false := beq_eq_false_iff_ne.2 (by omega)
 have e3 : (k == 3) = false := beq_eq_false_iff_ne.2 (by omega)
 have e4 : (k == 4) = false := beq_eq_false_iff_ne.2 (by omega)
 have e5 : (k == 5) = false := beq_eq_false_iff_ne.2 (by omega)
 have e6 : (k == 6) = false := beq_eq_false_iff_ne.2 (by omega)
 have e7 : (k == 7) = false := beq_eq_false_iff_ne.2 (by omega)
 have e8 : (k == 8) = false := beq_eq_false_iff_ne.2 (by omega)
 obtain ⟨w3, hw3, b3, k4, k5⟩ := TS.laid w #[.int .i64 k, .int .i64 n, .int .i64 y, .int .u64 (v : Nat), .slice A q c]
 have hO : ResO w3 g S (N + 4) w3 := ResO.same ((h.below b3).more (by omega)) (Below.refl _ _)
 have T0 := TS.mk' h.lt b3 k4 k5 hO (Nat.le_refl _)
 have d : ∀ i, w3.cell? ⟨w.heap.size, i, none⟩ = (#[.int .i64 k, .int .i64 n, .int .i64 y, .int .u64 (v : Nat), .slice A q c] : Array Value)[i]? := by
  intro i
  have h1 := Blk.new w 42 #[.int .i64 k, .int .i64 n, .int .i64 y, .int .u64 (v : Nat), .slice A q c]
  rw [hw3]
  exact (((h1.below (ba _ (.cells #[.int .u64 0, .bool false, .slice none 0 0, .int .i64 0] 47)) h1.lt).below (ba _ (.cells #[.int .u64 0, .bool false, .slice none 0 0, .int .i64 0] 47)) (h1.below (ba _ (.cells #[.int .u64 0, .bool false, .slice none 0 0, .int .i64 0] 47)) h1.lt).lt)).cell i
 have r0 := T0.k4.cell 0
 have r1 := T0.k4.cell 1
 have r2 := T0.k4.cell 2
 have r3 := T0.k4.cell 3
 have d0 := d 0
 simp only [List.getElem?_toArray, List.getElem?_cons_zero, List.getElem?_cons_succ] at r0 r1 r2 r3 d0
 have HX := Lib.hid (show ResO w g S (N + 4) w3 from ⟨T0.ra, T0.gr⟩)
 have HQ : Hid (∀ e w', CallO w g N ((0, false, [], 0), S) e w' ↔ ∃ A q c, e = .returned (.agg #[.int .u64 (0 : Nat), .bool false, .slice A q c, .int .i64 0]) ∧ q = 0 ∧ OwnC w' w.heap.size A c [] ∧ ResO w g S (N + 4) w') := Lib.hid fun _ _ => Iff.rfl
 rw [hw3] at r0 r1 r2 r3 d0 HX
 clear h hw3 b3 k4 k5 hO T0 d hk
 go_enter Tryz.func12, Tryz.ntmps12
 go_wp2
 refine bodyPost_ret (by simp [results, Tryz.results12, go_sem, r0, r1, r2, r3]; try rfl) rfl ?_
 exact (HQ.out _ _).2 ⟨none, 0, 0, rfl, rfl, OwnC.nil _ _, HX.out⟩
theorem kprep_len {w : World} {g N : Nat} {tt : TypeId} {cs : Array Value} {S : KS} (h : KvAt w g tt cs S N) (n : Int) : (prepM S n).1.1.length ≤ N := by
 unfold prepM
 split
 ·exact Nat.zero_le _
 ·split
  ·exact Nat.zero_le _
  ·split
   ·exact Nat.zero_le _
   ·show (curW S n).1.length ≤ N
    unfold curW
    rcases hW : S.W n with _ | ⟨l, p⟩
    ·exact Nat.zero_le _
    ·exact (h.le n l p hW).1
theorem qprep_len {w : World} {g of N : Nat} {tt : TypeId} {cs : Array Value} {S : Qu.QS} (h : Qu.QAt w g of tt cs S N) (n : Int) : (Qu.prepM S n).1.1.length ≤ N := by
 unfold Qu.prepM
 split
 ·exact Nat.zero_le _
 ·split
  ·exact Nat.zero_le _
  ·exact h.cur_len n
theorem call_any (g : Nat) (cs : Array Value) (S : RS) (N : Nat) (o : OpV) (w : World) (h : ResAt w g cs S N) (hN : N < 190000) (hok : Qu.QOk S.Q) (hn : i64ok o.n) (hy : i64ok o.y) (hcap : o.l.length ≤ o.c ∧ o.c ≤ 9223372036854775807) (hl : o.k = 8 → o.l.length ≤ N + 1) (hL : o.k = 8 → ∀ u, w.grownBy u (some g) → InL u o.A o.l) (hBK : ∀ b, w.heap.size ≤ b → S.K.B b) (hBQ : ∀ b, w.heap.size ≤ b → S.Q.B b) :
  Calls Tryz.prog 12 #[.pointer (some ⟨g, 0, none⟩), o.val] w (CallO w g N (callR S o)) := by
 obtain ⟨k, n, y, v, A, l, c⟩ := o
 dsimp only at hn hy hcap hl hL
 show Calls Tryz.prog _ #[.pointer (some ⟨g, 0, none⟩), .agg #[.int .i64 k, .int .i64 n, .int .i64 y, .int .u64 (v : Nat), .slice A l.length c]] w _
 unfold callR
 dsimp only
 by_cases e0 : k = 0
 ·subst e0
  rw [if_pos rfl]
  exact call_get g cs S N n y v A l.length c w h hN hn hy
 by_cases e1 : k = 1
 ·subst e1
  rw [if_neg (by decide), if_pos rfl]
  exact call_put g cs S N n y v A l.length c w h hN hn hy hBK
 by_cases e2 : k = 2
 ·subst e2
  rw [if_neg (by decide), if_neg (by decide), if_pos rfl]
  exact call_del g cs S N n y v A l.length c w h hN hn hy hBK
 by_cases e3 : k = 3
 ·subst e3
  rw [if_neg (by decide), if_neg (by decide), if_neg (by decide), if_pos rfl]
  exact call_push g cs S N n y v A l.length c w h hN hn hBQ
 by_cases e4 : k = 4
 ·subst e4
  rw [if_neg (by decide), if_neg (by decide), if_neg (by decide), if_neg (by decide), if_pos rfl]
  exact call_pop g cs S N n y v A l.length c w h hN hn hBQ
 by_cases e5 : k = 5
 ·subst e5
  rw [if_neg (by decide), if_neg (by decide), if_neg (by decide), if_neg (by decide), if_neg (by decide), if_pos rfl]
  exact call_prep g cs S N n y v A l.length c w h hN hn ⟨Nat.le_trans (kprep_len h.kv n) (by omega), Nat.le_trans (qprep_len h.qu n) (by omega)⟩
 by_cases e6 : k = 6
 ·subst e6
  rw [if_neg (by decide), if_neg (by decide), if_neg (by decide), if_neg (by decide), if_neg (by decide), if_neg (by decide), if_pos rfl]
  exact call_commit g cs S N n y v A l.length c w h hN hn hok
 by_cases e7 : k = 7
 ·subst e7
  rw [if_neg (by decide), if_neg (by decide), if_neg (by decide), if_neg (by decide), if_neg (by decide), if_neg (by decide), if_neg (by decide), if_pos rfl]
  exact call_back g cs S N n y v A l.length c w h hN hn
 by_cases e8 : k = 8
 ·subst e8
  rw [if_neg (by decide), if_neg (by decide), if_neg (by decide), if_neg (by decide), if_neg (by decide), if_neg (by decide), if_neg (by decide), if_neg (by decide), if_pos rfl]
  exact call_restore g cs S N n y v A l.length c w h hN hn l (Lib.hid rfl) (hl rfl) hcap (hL rfl) hBK hBQ
 rw [if_neg e0, if_neg e1, if_neg e2, if_neg e3, if_neg e4, if_neg e5, if_neg e6, if_neg e7, if_neg e8]
 exact call_other g cs S N k n y v A l.length c w h (by omega)
end Go.Proofs.YtlliaihmfimdoaaGreat.Re

