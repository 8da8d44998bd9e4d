/- Layer 11: Get. -/
import Derived.Test.YtgbcjimfpoeicaaRc
namespace Go.Proofs.Ytgbcjimfpoeicaa
open Go.RowKit
set_option linter.unusedVariables false
set_option linter.unusedSimpArgs false

def lackE (en : Bool) : Int := if en then 110 else 140
theorem lack_any {w : World} {g left : Nat} {l : List UInt8} {en : Bool} (h : StrAt w g left l en) : Calls Try.prog 24 #[.pointer (some ⟨g, 0, none⟩)] w fun e w' => e = .returned (.int .i64 (lackE en)) ∧ w = w' := by
  obtain ⟨A, n, c, hb, hn, hk, hc⟩ := h.at_
  have c2 := hb.cell 2
  simp only [List.getElem?_toArray, List.getElem?_cons_zero, List.getElem?_cons_succ] at c2
  cases en
  · go_enter Try.func24, Try.ntmps24
    go_wp2
    go_ret
    exact ⟨rfl, rfl⟩
  · go_enter Try.func24, Try.ntmps24
    go_wp2
    go_ret
    exact ⟨rfl, rfl⟩
theorem begins_any (w : World) (g left : Nat) (c0 : w.cell? ⟨g, 0, none⟩ = some (.int .i64 left)) : Calls Try.prog 22 #[.pointer (some ⟨g, 0, none⟩)] w fun e w' => e = .returned (.bool (decide (left = 0))) ∧ w = w' := by
  rcases Nat.eq_zero_or_pos left with rfl | h
  · go_enter Try.func22, Try.ntmps22
    go_wp2
    go_ret
    exact ⟨rfl, rfl⟩
  · have hne : ((left : Int) == 0) = false := by simp; omega
    have e : decide (left = 0) = false := by simp; omega
    rw [e]
    go_enter Try.func22, Try.ntmps22
    go_wp2
    go_ret
    exact ⟨rfl, rfl⟩

/-- Is there no length to be had? What length: of the bytes at a record's beginning. -/
def lenM (l : List UInt8) (en : Bool) : Nat × Int :=
  if en = true ∧ l = [] then (0, 4)
  else if l.length < 2 then (0, lackE en)
  else if (l.getD 0 0).toNat * 256 + (l.getD 1 0).toNat < 2 ∨ 32767 < (l.getD 0 0).toNat * 256 + (l.getD 1 0).toNat then (0, 40)
  else ((l.getD 0 0).toNat * 256 + (l.getD 1 0).toNat, 0)

theorem or8_i64 (v x : Nat) (hv : v < 256) (hx : x < 256) : bits .or .i64 ((v : Int) * 256) (x : Int) = ((256 * v + x : Nat) : Int) := by
  have : ((v : Int) * 256) = ((2 ^ 8 * v : Nat) : Int) := by omega
  rw [this]
  have e : (2 ^ 8 * v) ||| x = 256 * v + x := by rw [← Nat.two_pow_add_eq_or_of_lt hx]
  show IntKind.i64.wrap ((BitVec.ofInt 64 ((2 ^ 8 * v : Nat) : Int) ||| BitVec.ofInt 64 (x : Int)).toNat : Int) = _
  rw [BitVec.toNat_or, ofInt_u64 _ (by omega), ofInt_u64 _ (by omega), e]
  exact IntWalk.i64_in _ (by omega)
set_option maxHeartbeats 1000000 in
theorem length_any {w : World} {g left : Nat} {l : List UInt8} {en : Bool} (h : StrAt w g left l en) : Calls Try.prog 23 #[.pointer (some ⟨g, 0, none⟩)] w fun e w' => ∃ n z, w' = w.drewN n ∧ z = lenM l en ∧ e = .returned (.tuple #[.int .i64 z.1, .int .i64 z.2]) := by
  have hlen := h.hlen
  have hlk := lack_any h
  obtain ⟨A, n, c, hb, hn, hk, hc⟩ := h.at_
  have c1 := hb.cell 1
  have c2 := hb.cell 2
  simp only [List.getElem?_toArray, List.getElem?_cons_zero, List.getElem?_cons_succ] at c1 c2
  rcases l with _ | ⟨x, _ | ⟨y, l⟩⟩
  · obtain rfl : n = 0 := hn
    cases en
    · go_enter Try.func23, Try.ntmps23
      go_wp2_with fail
      refine hlk.mono ?_
      rintro e w' ⟨rfl, rfl⟩
      go_wp2
      go_ret2
      exact ⟨0, _, rfl, rfl, rfl⟩
    · go_enter Try.func23, Try.ntmps23
      go_wp2
      go_ret2
      exact ⟨0, _, rfl, rfl, rfl⟩
  · obtain rfl : n = 1 := hn
    have e : lenM [x] en = (0, lackE en) := by simp [lenM]
    cases en
    · go_enter Try.func23, Try.ntmps23
      go_wp2_with fail
      refine hlk.mono ?_
      rintro e w' ⟨rfl, rfl⟩
      go_wp2
      go_ret2
      exact ⟨0, _, rfl, e.symm, rfl⟩
    · go_enter Try.func23, Try.ntmps23
      go_wp2_with fail
      refine hlk.mono ?_
      rintro e w' ⟨rfl, rfl⟩
      go_wp2
      go_ret2
      exact ⟨0, _, rfl, e.symm, rfl⟩
  · obtain ⟨b, o, rfl, hbl, hkk, hcs⟩ := hk (by simp)
    have d0 := hcs 0 (by simp)
    have d1 := hcs 1 (by simp)
    simp only [Nat.add_zero, List.getElem_cons_zero, List.getElem_cons_succ] at d0 d1
    have hx := x.toNat_lt
    have hy := y.toNat_lt
    have hor := or8_i64 _ _ hx hy
    obtain ⟨z, hz⟩ : ∃ z, z = 256 * x.toNat + y.toNat := ⟨_, rfl⟩
    rw [← hz] at hor
    have e : lenM (x :: y :: l) en = if z < 2 ∨ 32767 < z then (0, 40) else (z, 0) := by
      rw [hz]
      have e1 : x.toNat * 256 + y.toNat = 256 * x.toNat + y.toNat := by omega
      have e3 : ¬ ((x :: y :: l).length < 2) := by simp
      unfold lenM
      rw [if_neg (by simp), if_neg e3]
      simp [e1]
    obtain ⟨q, rfl⟩ : ∃ q, n = q + 2 := ⟨l.length, by rw [hn]; simp⟩
    have e0 : decide (((q + 2 : Nat) : Int) = 0) = false := by simp; omega
    have e00 : (((q + 2 : Nat) : Int) == 0) = false := by simp; omega
    have e2 : decide (((q + 2 : Nat) : Int) < 2) = false := by simp; omega
    have f0 : decide ((0 : Int) < ((q + 2 : Nat) : Int)) = true := by simp; omega
    have f1 : decide ((1 : Int) < ((q + 2 : Nat) : Int)) = true := by simp; omega
    clear hcs hk hc h hlen hn
    have hzb : Hid (z < 65536) := Lib.hid (by omega)
    clear hz hkk hbl
    by_cases h1 : (z : Int) < 2
    · have hh : z < 2 ∨ 32767 < z := by omega
      rw [if_pos hh] at e
      clear hh
      cases en
      · go_enter Try.func23, Try.ntmps23
        go_wp2
        go_quiet (fail)
        go_wp2
        go_ret2
        exact ⟨_, _, rfl, e.symm, rfl⟩
      · go_enter Try.func23, Try.ntmps23
        go_wp2
        go_quiet (fail)
        go_wp2
        go_ret2
        exact ⟨_, _, rfl, e.symm, rfl⟩
    · by_cases h2 : (32767 : Int) < (z : Int)
      · have hh : z < 2 ∨ 32767 < z := by omega
        rw [if_pos hh] at e
        clear hh
        cases en
        · go_enter Try.func23, Try.ntmps23
          go_wp2
          go_quiet (fail)
          go_wp2
          go_ret2
          exact ⟨_, _, rfl, e.symm, rfl⟩
        · go_enter Try.func23, Try.ntmps23
          go_wp2
          go_quiet (fail)
          go_wp2
          go_ret2
          exact ⟨_, _, rfl, e.symm, rfl⟩
      · have hh : ¬ (z < 2 ∨ 32767 < z) := by omega
        rw [if_neg hh] at e
        clear hh
        cases en
        · go_enter Try.func23, Try.ntmps23
          go_wp2
          go_quiet (fail)
          go_wp2
          go_ret2
          exact ⟨_, _, rfl, e.symm, rfl⟩
        · go_enter Try.func23, Try.ntmps23
          go_wp2
          go_quiet (fail)
          go_wp2
          go_ret2
          exact ⟨_, _, rfl, e.symm, rfl⟩
end Go.Proofs.Ytgbcjimfpoeicaa
