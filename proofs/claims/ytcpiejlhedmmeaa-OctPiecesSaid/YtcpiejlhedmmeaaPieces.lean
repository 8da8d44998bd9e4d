/- The laws on sums: of two texts one behind the other; of a text that is turned in one byte. -/
import Derived.Test.YtcpiejlhedmmeaaAlive
namespace Go.Proofs.Ytcpiejlhedmmeaa
open Go.RowKit
set_option linter.unusedVariables false

/-! ### Plain facts on sums -/
theorem fold_step (A C L d e q : Nat) (x : Nat) (hL : L = (A + 65520) % 65521) (hA : A < 65521) (hC : C < 65521) (hd : d < 65521) (he : e < 65521)
    (a c : Nat) (ha : a = (A + d + 65520) % 65521) (hc : c = (C + e + q) % 65521) :
    (a + x) % 65521 = (A + (d + x) % 65521 + 65520) % 65521 ∧ (c + (a + x) % 65521) % 65521 = (C + (e + (d + x) % 65521) % 65521 + (q + L)) % 65521 := by
  have h1 : (a + x) % 65521 = (A + (d + x) % 65521 + 65520) % 65521 := by omega
  refine ⟨h1, ?_⟩
  rw [h1]
  generalize (d + x) % 65521 = d2 at *
  omega

theorem sumP_from (s : Nat × Nat) (hs : s.1 < 65521 ∧ s.2 < 65521) (l : List UInt8) :
    l.foldl sumStep s = ((s.1 + (sumP l).1 + 65520) % 65521, (s.2 + (sumP l).2 + l.length * ((s.1 + 65520) % 65521)) % 65521) := by
  induction l using snoc_ind with
  | h0 => simp [sumP]; ext <;> simp <;> omega
  | h1 l x ih =>
    have hp := sumP_lt l
    obtain ⟨e1, e2⟩ := fold_step s.1 s.2 ((s.1 + 65520) % 65521) (sumP l).1 (sumP l).2 (l.length * ((s.1 + 65520) % 65521)) x.toNat rfl hs.1 hs.2 hp.1 hp.2 _ _ rfl rfl
    rw [List.foldl_append, ih, sumP_snoc, List.length_append]
    simp only [List.foldl_cons, List.foldl_nil, sumStep, List.length_cons, List.length_nil, Nat.zero_add, Nat.add_mul, Nat.one_mul]
    rw [← e1, ← e2]

theorem sumR_half (l : List UInt8) : sumR l % 65536 = (sumP l).1 ∧ sumR l / 65536 = (sumP l).2 := by
  have := sumP_lt l
  unfold sumR
  omega

theorem mul_mod_l (n L : Nat) : ∀ k, (k + n * L) % 65521 = (k + n % 65521 * L) % 65521 := by
  intro k
  rw [Nat.add_mod, Nat.mul_mod, Nat.add_mod k (n % 65521 * L), Nat.mul_mod (n % 65521) L, Nat.mod_mod]

theorem sum_both (a b : List UInt8) : sumR (a ++ b) = bothR (sumR a) (sumR b) (b.length : Int) := by
  have h : sumP (a ++ b) = _ := (List.foldl_append (f := sumStep) (b := (1, 0)) (l := a) (l' := b)).trans (sumP_from (sumP a) (sumP_lt a) b)
  unfold bothR
  rw [(sumR_half a).1, (sumR_half a).2, (sumR_half b).1, (sumR_half b).2, Int.toNat_natCast]
  conv => lhs; unfold sumR
  rw [h, mul_mod_l]

def total (l : List UInt8) : Nat := l.foldl (fun v x => v + x.toNat) 0
theorem total_snoc (l : List UInt8) (x : UInt8) : total (l ++ [x]) = total l + x.toNat := by simp [total]
theorem sumP_total (l : List UInt8) : (sumP l).1 = (1 + total l) % 65521 := by
  induction l using snoc_ind with
  | h0 => simp [sumP, total]
  | h1 l x ih => rw [sumP_snoc, total_snoc]; unfold sumStep; dsimp only; rw [ih]; omega
theorem total_cons (l : List UInt8) (x : UInt8) : total (x :: l) = x.toNat + total l := by
  induction l using snoc_ind with
  | h0 => simp [total]
  | h1 l y ih => rw [← List.cons_append, total_snoc, total_snoc, ih]; omega
theorem total_set (l : List UInt8) (j : Nat) (hj : j < l.length) (y : UInt8) : total (l.set j y) + (l[j]'hj).toNat = total l + y.toNat := by
  induction l generalizing j with
  | nil => simp at hj
  | cons x l ih =>
    cases j with
    | zero => simp [total_cons]; omega
    | succ j => simp only [List.set_cons_succ, total_cons, List.getElem_cons_succ]; have := ih j (by simpa using hj); omega
theorem sum_turned (l : List UInt8) (j : Nat) (hj : j < l.length) (y : UInt8) (hy : y ≠ l[j]'hj) : sumR l ≠ sumR (l.set j y) := by
  intro h
  have h1 := (sumR_half l).1
  have h2 := (sumR_half (l.set j y)).1
  rw [← h, h1, sumP_total, sumP_total] at h2
  have h3 := total_set l j hj y
  have h4 := y.toNat_lt
  have h5 := (l[j]'hj).toNat_lt
  have h6 : y.toNat ≠ (l[j]'hj).toNat := fun e => hy (UInt8.toNat_inj.1 e)
  omega

/-! ### The walks -/
theorem Try.infoU8p : (Try.prog.info? 5).map (fun i => (i.zero, i.size, i.bytes)) = some (some (.int .u8 0), 1, 1) := by kernel_rfl

set_option maxHeartbeats 1000000 in
theorem octPieces_short (A : Option Addr) (l : List UInt8) (c : Nat) (A' : Option Addr) (m : List UInt8) (c' : Nat) (w : World) (hb : Bs w w.heap.size A l) (hb' : Bs w w.heap.size A' m)
    (hl : l.length ≤ 3000) (hm : m.length ≤ 3000) :
    Calls Try.prog 10 #[.slice A l.length c, .slice A' m.length c'] w fun e w' => e = .returned (.bool true) ∧ Below w.heap.size w w' := by
  obtain ⟨i0, hi, hz0, hz1, hz2⟩ := info_parts Try.infoU8p
  have Hb := Lib.hid (sum_both l m)
  go_enter Try.func10, Try.ntmps10
  go_wp2_with (first
    | (at_builtin; refine wpList_append_nil _ rfl (.tmp 15) (.tmp 16) 23 rfl w.heap.size 5 i0 _ Try.underlying23 hi hz0 hz1 hz2 rfl rfl w.heap.size A c l l.length rfl rfl hb (by omega) (Nat.le_refl _) ?_; intro A1 c1 w1 ho1 hb1)
    | (at_builtin; refine wpList_append_bs _ rfl (.tmp 18) (.tmp 19) 23 rfl w.heap.size 5 i0 _ Try.underlying23 hi hz0 hz1 hz2 rfl A1 c1 l l.length rfl rfl ho1 w.heap.size A' c' m m.length rfl rfl (hb'.below hb1) (by omega) hb1.size ?_; intro A2 c2 w2 ho2 hg2 _))
  have hb2 : Below w.heap.size w w2 := hb1.trans (ho1.grown hg2 hb1.size)
  refine (alive_any _).mono ?_
  rintro e w3 ⟨rfl, hb3⟩
  go_wp2_with fail
  rw [show l.length + m.length = (l ++ m).length from by simp]
  refine (sum_any A2 (l ++ m) c2 _ (by simp; omega) (ho2.bs.bt hb3)).mono ?_
  rintro e w4 ⟨rfl, rfl⟩
  go_wp2_with fail
  refine (sum_any A l c _ (by omega) (hb.bt (bt hb2 hb3))).mono ?_
  rintro e w4 ⟨rfl, rfl⟩
  go_wp2_with fail
  refine (sum_any A' m c' _ (by omega) (hb'.bt (bt hb2 hb3))).mono ?_
  rintro e w4 ⟨rfl, rfl⟩
  go_wp2_with fail
  refine (both_any (sumR l) (sumR m) (m.length : Int) _ (sumR_lt l) (sumR_lt m) (by omega) (by omega)).mono ?_
  rintro e w4 ⟨rfl, rfl⟩
  rw [← Hb.out]
  go_wp2
  go_ret
  exact ⟨rfl, bt hb2 hb3⟩

theorem octPieces_walk (A : Option Addr) (l : List UInt8) (c : Nat) (A' : Option Addr) (m : List UInt8) (c' : Nat) (w : World) (hb : Bs w w.heap.size A l) (hl : l.length ≤ maxLen) (hb' : Bs w w.heap.size A' m) (hm : m.length ≤ maxLen) :
    Calls Try.prog 10 #[.slice A l.length c, .slice A' m.length c'] w fun e w' => e = .returned (.bool true) ∧ Below w.heap.size w w' := by
  unfold maxLen at hl hm
  by_cases h1 : l.length ≤ 3000
  · by_cases h2 : m.length ≤ 3000
    · exact octPieces_short A l c A' m c' w hb hb' h1 h2
    · go_enter Try.func10, Try.ntmps10
      go_wp2_with fail
      refine (alive_any _).mono ?_
      rintro e w3 ⟨rfl, hb3⟩
      go_wp2
      go_ret
      exact ⟨rfl, hb3⟩
  · go_enter Try.func10, Try.ntmps10
    go_wp2_with fail
    refine (alive_any _).mono ?_
    rintro e w3 ⟨rfl, hb3⟩
    go_wp2
    go_ret
    exact ⟨rfl, hb3⟩
end Go.Proofs.Ytcpiejlhedmmeaa
