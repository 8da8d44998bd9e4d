/- Layer 12: fixed calls; the law on nobody's table. -/
import Derived.Test.YtaeofacaljeckaaKi
import Derived.Test.YtaeofacaljeckaaOpenK
namespace Go.Proofs.Ytaeofacaljeckaa
open Go.RowKit Go.Maps
set_option linter.unusedVariables false
set_option linter.unusedSimpArgs false

theorem tlen_any (g : Nat) (L : List LRow) (w : World) (h : Tab w g L) : Calls Try.prog 19 #[.pointer (some ⟨g, 0, none⟩)] w fun e w' => e = .returned (.int .i64 L.length) ∧ w = w' := by
  obtain ⟨m, hg, hsrc⟩ := h.src
  have c0 := hg.cell 0
  simp only [List.getElem?_toArray, List.getElem?_cons_zero] at c0
  have hl := hsrc.len_run
  obtain ⟨n, hn⟩ : ∃ n, n = L.length := ⟨_, rfl⟩
  rw [← hn] at hl ⊢
  clear hn
  go_enter Try.func19, Try.ntmps19
  go_wp2
  go_ret
  exact ⟨rfl, rfl⟩
theorem held_nil (o : Int) (w : World) : Calls Try.prog 17 #[.pointer none, .int .i64 o] w fun e w' => e = .returned (.slice none 0 0) ∧ w = w' := by
  go_enter Try.func17, Try.ntmps17
  go_wp2
  go_ret
  exact ⟨rfl, rfl⟩
theorem tnew_any (w : World) : Calls Try.prog 9 #[] w fun e w' => e = .returned (.pointer (some ⟨w.heap.size, 0, none⟩)) ∧ Tab w' w.heap.size [] ∧ Below w.heap.size w w' := by
  refine (new_any w).mono ?_
  rintro e w' ⟨rfl, h1, h2⟩
  exact ⟨rfl, ⟨by simp, .inl ⟨h1, rfl⟩⟩, h2⟩
theorem take_is (g : Nat) (L L' : List LRow) (o k r : Int) (a : Bool) (w : World) (h : Tab w g L) (hk : i64ok k) (ho : i64ok o) (ht : takeL L o k a = (r, L')) :
    Calls Try.prog 10 #[.pointer (some ⟨g, 0, none⟩), .int .i64 o, .int .i64 k, .bool a] w fun e w' => e = .returned (.int .i64 r) ∧ Tab w' g L' ∧ w.grownBy w' (some g) := by
  have := take_any g L o k a w h hk ho
  rw [ht] at this
  exact this
theorem drop_is (g : Nat) (L L' : List LRow) (o : Int) (n : Int) (w : World) (h : Tab w g L) (ho : i64ok o) (hd : dropL L o = L') (hn : (L.length : Int) - (L'.length : Int) = n) :
    Calls Try.prog 12 #[.pointer (some ⟨g, 0, none⟩), .int .i64 o] w fun e w' => e = .returned (.tuple #[.int .i64 n, .int .i64 0]) ∧ Tab w' g L' ∧ w.grownBy w' (some g) := by
  have := drop_any g L o w h ho
  unfold DropO at this
  rw [hd, hn] at this
  exact this
theorem small_ok (x : Int) (h : 0 ≤ x ∧ x ≤ 1000) : i64ok x := by unfold i64ok; omega

set_option maxHeartbeats 1000000 in
theorem alive_any (w : World) : Calls Try.prog 20 #[] w fun e w' => e = .returned (.bool true) ∧ Below w.heap.size w w' := by
  go_enter Try.func20, Try.ntmps20
  go_wp2_with fail
  refine (tnew_any w).mono ?_
  rintro e w1 ⟨rfl, t1, b1⟩
  go_wp2_with fail
  refine (take_is _ _ [(5, 1, false)] 1 5 0 false w1 t1 (small_ok _ (by omega)) (small_ok _ (by omega)) (by decide)).mono ?_
  rintro e w2 ⟨rfl, t2, g2⟩
  have b2 := b1.grown g2 b1.size (fun k e => by cases e; exact Nat.le_refl _)
  clear t1 b1 g2
  go_wp2_with fail
  refine (take_is _ _ [(5, 1, false), (5, 2, false)] 2 5 0 false w2 t2 (small_ok _ (by omega)) (small_ok _ (by omega)) (by decide)).mono ?_
  rintro e w3 ⟨rfl, t3, g3⟩
  have b3 := b2.grown g3 b2.size (fun k e => by cases e; exact Nat.le_refl _)
  clear t2 b2 g3
  go_wp2_with fail
  refine (take_is _ _ [(5, 1, false), (5, 2, false)] 2 5 120 true w3 t3 (small_ok _ (by omega)) (small_ok _ (by omega)) (by decide)).mono ?_
  rintro e w4 ⟨rfl, t4, g4⟩
  have b4 := b3.grown g4 b3.size (fun k e => by cases e; exact Nat.le_refl _)
  clear t3 b3 g4
  go_wp2_with fail
  refine (drop_is _ _ [(5, 2, false)] 1 1 w4 t4 (small_ok _ (by omega)) (by decide) (by decide)).mono ?_
  rintro e w5 ⟨rfl, t5, g5⟩
  have b5 := b4.grown g5 b4.size (fun k e => by cases e; exact Nat.le_refl _)
  clear t4 b4 g5
  go_wp2_with fail
  refine (take_is _ _ [(5, 2, true)] 2 5 0 true w5 t5 (small_ok _ (by omega)) (small_ok _ (by omega)) (by decide)).mono ?_
  rintro e w6 ⟨rfl, t6, g6⟩
  have b6 := b5.grown g6 b5.size (fun k e => by cases e; exact Nat.le_refl _)
  clear t5 b5 g6
  go_wp2_with fail
  refine (tlen_any _ _ w6 t6).mono ?_
  rintro e w7 ⟨rfl, rfl⟩
  simp only [List.length_cons, List.length_nil]
  go_wp2
  go_ret
  exact ⟨rfl, b6⟩

set_option maxHeartbeats 1000000 in
theorem lockNobody_walk (o k : Int) (a : Bool) (w : World) (ho1 : -9223372036854775808 ≤ o) (ho2 : o ≤ 9223372036854775807) (hk1 : -9223372036854775808 ≤ k) (hk2 : k ≤ 9223372036854775807) :
    Calls Try.prog 4 #[.int .i64 o, .int .i64 k, .bool a] w fun e w' => e = .returned (.bool true) ∧ Below w.heap.size w w' := by
  have ho : i64ok o := ⟨ho1, ho2⟩
  have hk : i64ok k := ⟨hk1, hk2⟩
  have t0 : Tab (w.alloc (.cells #[.map none] 46)) w.heap.size [] := ⟨by simp, .inl ⟨Blk.new _ _ _, rfl⟩⟩
  have b0 := ba w (.cells #[.map none] 46)
  have htk : takeL [] o k a = (0, [(k, o, a)]) := by unfold takeL putL clashL heldL aloneL; simp
  go_enter Try.func4, Try.ntmps4
  go_wp2_with fail
  refine (drop_nil o _).mono ?_
  rintro e w1 ⟨rfl, rfl⟩
  go_wp2_with fail
  refine (drop_is _ _ [] o 0 _ t0 ho rfl (by simp)).mono ?_
  rintro e w2 ⟨rfl, t2, g2⟩
  have b2 := b0.grown g2 b0.size (fun k e => by cases e; exact Nat.le_refl _)
  clear t0 b0 g2
  go_wp2_with fail
  refine (holds_nil o k _).mono ?_
  rintro e w3 ⟨rfl, rfl⟩
  go_wp2_with fail
  refine (alive_any w2).mono ?_
  rintro e w4 ⟨rfl, hb4⟩
  have t4 := t2.below hb4
  have b4 := bt b2 hb4
  clear t2 b2 hb4
  go_wp2_with fail
  refine (take_nil o k a _).mono ?_
  rintro e w5 ⟨rfl, rfl⟩
  go_wp2_with fail
  refine (held_nil o _).mono ?_
  rintro e w5 ⟨rfl, rfl⟩
  go_wp2_with fail
  refine (len_nil _).mono ?_
  rintro e w5 ⟨rfl, rfl⟩
  go_wp2_with fail
  refine (take_is _ _ [(k, o, a)] o k 0 a w4 t4 hk ho htk).mono ?_
  rintro e w5 ⟨rfl, t5, g5⟩
  have b5 := b4.grown g5 b4.size (fun k e => by cases e; exact Nat.le_refl _)
  go_wp2_with fail
  refine (tlen_any _ _ w5 t5).mono ?_
  rintro e w6 ⟨rfl, rfl⟩
  simp only [List.length_cons, List.length_nil]
  go_wp2
  go_ret
  exact ⟨rfl, b5⟩
end Go.Proofs.Ytaeofacaljeckaa
