/- The law on a text that is turned in one byte. -/
import Derived.Test.YtcpiejlhedmmeaaPieces
import Derived.Test.YtcpiejlhedmmeaaCopy
namespace Go.Proofs.Ytcpiejlhedmmeaa
open Go.RowKit
set_option linter.unusedVariables false

theorem xor_u8 (x y : UInt8) : bits .xor .u8 (x.toNat : Int) (y.toNat : Int) = ((x ^^^ y).toNat : Int) := by
  rw [u8_xor_nat _ _ x.toNat_lt y.toNat_lt, UInt8.toNat_xor]
theorem xor_ne (x y : UInt8) (hy : y ≠ 0) : x ^^^ y ≠ x := by
  intro h
  apply hy
  have h2 : x ^^^ (x ^^^ y) = x ^^^ x := by rw [h]
  rw [← UInt8.xor_assoc, UInt8.xor_self, UInt8.zero_xor] at h2
  exact h2

set_option maxHeartbeats 1000000 in
theorem octTurned_in (A : Option Addr) (l : List UInt8) (c : Nat) (j : Nat) (y : UInt8) (w : World) (hb : Bs w w.heap.size A l) (hl : l.length ≤ 5000) (hj : j < l.length) (hy : y ≠ 0) :
    Calls Try.prog 11 #[.slice A l.length c, .int .i64 j, .int .u8 (y.toNat : Int)] w fun e w' => e = .returned (.bool true) ∧ Below w.heap.size w w' := by
  have hy0 : ((y.toNat : Int) == 0) = false := by
    rw [beq_eq_false_iff_ne]
    intro e
    exact hy (UInt8.toNat_inj.1 (by simpa using e))
  have hyl := y.toNat_lt
  go_enter Try.func11, Try.ntmps11
  go_wp2_with fail
  refine (copy_any A l c _ (by omega) hb).mono ?_
  rintro e w1 ⟨A1, c1, rfl, ho1, hb1⟩
  obtain ⟨g, rfl, hg1, hg2, hg3, hg4⟩ := ho1.form (by omega)
  have hc := ho1.cell j hj
  have hf := ho1.frozen j
  obtain ⟨x, hx⟩ : ∃ x, x = l[j] := ⟨_, rfl⟩
  rw [← hx] at hc
  have Hx := Lib.hid hx
  clear hx
  have hxl := x.toNat_lt
  clear hy0
  go_wp2_with fail
  have hst := (ho1.stored j (x ^^^ y)).1
  rw [← xor_u8] at hst
  have hbs : Below w.heap.size w (w1.setCell ⟨g, j, none⟩ (.int .u8 (bits .xor .u8 (x.toNat : Int) (y.toNat : Int)))) := hb1.setCell hg1 _
  refine (alive_any _).mono ?_
  rintro e w3 ⟨rfl, hb3⟩
  go_wp2_with fail
  refine (sum_any A l c _ (by omega) (hb.bt (bt hbs hb3))).mono ?_
  rintro e w4 ⟨rfl, rfl⟩
  go_wp2_with fail
  rw [show l.length = (l.set j (x ^^^ y)).length by simp]
  refine (sum_any _ (l.set j (x ^^^ y)) c1 _ (by simp; omega) (hst.bs.bt hb3)).mono ?_
  rintro e w4 ⟨rfl, rfl⟩
  have hne : ((sumR l : Int) != (sumR (l.set j (x ^^^ y)) : Int)) = true := by
    rw [bne_iff_ne]
    have := sum_turned l j hj (x ^^^ y) (by rw [← Hx.out]; exact xor_ne x y hy)
    omega
  go_wp2
  go_ret
  exact ⟨rfl, bt hbs hb3⟩

theorem octTurned_walk (A : Option Addr) (l : List UInt8) (c : Nat) (at_ : Int) (y : UInt8) (w : World) (hb : Bs w w.heap.size A l) (hl : l.length ≤ maxLen) (h1 : -9223372036854775808 ≤ at_) (h2 : at_ ≤ 9223372036854775807) :
    Calls Try.prog 11 #[.slice A l.length c, .int .i64 at_, .int .u8 (y.toNat : Int)] w fun e w' => e = .returned (.bool true) ∧ Below w.heap.size w w' := by
  unfold maxLen at hl
  have hyl := y.toNat_lt
  by_cases h : l.length ≤ 5000 ∧ 0 ≤ at_ ∧ at_ < l.length ∧ y ≠ 0
  · obtain ⟨h3, h4, h5, h6⟩ := h
    obtain ⟨j, rfl⟩ := Int.eq_ofNat_of_zero_le h4
    exact octTurned_in A l c j y w hb h3 (by omega) h6
  · have h0 : y = 0 ↔ ((y.toNat : Int) == 0) = true := by
      rw [beq_iff_eq]
      constructor
      · rintro rfl; rfl
      · intro e; exact UInt8.toNat_inj.1 (by simpa using e)
    have hcases : 5000 < l.length ∨ (l.length ≤ 5000 ∧ at_ < 0) ∨ (l.length ≤ 5000 ∧ 0 ≤ at_ ∧ (l.length : Int) ≤ at_) ∨ (l.length ≤ 5000 ∧ 0 ≤ at_ ∧ at_ < l.length ∧ ((y.toNat : Int) == 0) = true) := by
      rw [← h0]
      by_cases e : y = 0
      · have e' : (y = 0) = True := eq_true e
        rw [e']
        simp only [and_true]
        clear h e e'
        omega
      · have e' : (y = 0) = False := eq_false e
        rw [e']
        have h' : ¬ (l.length ≤ 5000 ∧ 0 ≤ at_ ∧ at_ < l.length) := fun ⟨x1, x2, x3⟩ => h ⟨x1, x2, x3, e⟩
        simp only [and_false, or_false]
        clear h e e'
        omega
    clear h0 h
    rcases hcases with h | ⟨h, h'⟩ | ⟨h, h', h''⟩ | ⟨h, h', h'', h3⟩
    all_goals
      go_enter Try.func11, Try.ntmps11
      go_wp2_with fail
      refine (alive_any _).mono ?_
      rintro e w3 ⟨rfl, hb3⟩
      go_wp2
      go_ret
      exact ⟨rfl, hb3⟩
end Go.Proofs.Ytcpiejlhedmmeaa
