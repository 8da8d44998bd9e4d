/- Layer 4: a variable is written, or may not be; the fixed calls of the laws. -/
import Derived.Test.YtoahmifmoekjoaaGd
import Derived.Lib.SlBytesConst
namespace Go.Proofs.Ytoahmifmoekjoaa
open Go.RowKit
set_option linter.unusedVariables false
set_option linter.unusedSimpArgs false

/-- What Write answers. -/
def writeR (id : Int) (data : List UInt8) (seg : Int) : List UInt8 × Int :=
  if seg < 1 ∨ 2048 < seg then ([], 1) else if id < 0 ∨ 65535 < id ∨ 2048 < data.length then ([], 40) else if seg * 64 < data.length then ([], 5)
  else (segsL (putL id.toNat 2) (piecesL seg.toNat data.length data), 0)

set_option maxHeartbeats 1000000 in
theorem gwrite_any (id : Int) (A : Option Addr) (data : List UInt8) (c : Nat) (seg : Int) (w : World) (hle : data.length ≤ c) (hc : c ≤ 9223372036854775807) (hs1 : -9223372036854775808 ≤ seg) (hs2 : seg ≤ 9223372036854775807) (hbs : Bs w w.heap.size A data) (R : List UInt8 × Int) (hR : Hid (R = writeR id data seg)) :
    Calls Try.prog 11 #[.agg #[.int .i64 id, .slice A data.length c], .int .i64 seg] w (OutB w R) := by
  by_cases h1 : seg < 1 ∨ 2048 < seg
  · have hR' : R = ([], 1) := by rw [hR.out]; exact if_pos h1
    subst hR'
    clear hR
    rcases h1 with h1 | h1
    all_goals
      go_enter Try.func11, Try.ntmps11
      go_wp2
      go_ret2
      exact ⟨none, 0, rfl, Own.nil, ba _ _⟩
  · obtain ⟨s, rfl⟩ := Int.eq_ofNat_of_zero_le (show 0 ≤ seg by omega)
    by_cases h2 : id < 0 ∨ 65535 < id ∨ 2048 < data.length
    · have hR' : R = ([], 40) := by rw [hR.out]; unfold writeR; rw [if_neg h1, if_pos h2]
      subst hR'
      clear hR
      have hsa : (1 : Int) ≤ s := by omega
      have hsb : (s : Int) ≤ 2048 := by omega
      clear h1 hs1 hs2
      by_cases g1 : id < 0
      · clear h2
        go_enter Try.func11, Try.ntmps11
        go_wp2
        go_ret2
        exact ⟨none, 0, rfl, Own.nil, ba _ _⟩
      · by_cases g2 : 65535 < id
        · clear h2
          go_enter Try.func11, Try.ntmps11
          go_wp2
          go_ret2
          exact ⟨none, 0, rfl, Own.nil, ba _ _⟩
        · have g3 : 2048 < data.length := by omega
          clear h2
          go_enter Try.func11, Try.ntmps11
          go_wp2
          go_ret2
          exact ⟨none, 0, rfl, Own.nil, ba _ _⟩
    · obtain ⟨i, rfl⟩ := Int.eq_ofNat_of_zero_le (show 0 ≤ id by omega)
      by_cases h3 : (s : Int) * 64 < data.length
      · have hR' : R = ([], 5) := by rw [hR.out]; unfold writeR; rw [if_neg h1, if_neg h2, if_pos h3]
        subst hR'
        clear hR
        have hsa : (1 : Int) ≤ s := by omega
        have hsb : (s : Int) ≤ 2048 := by omega
        have hia : (i : Int) ≤ 65535 := by omega
        have hdl : data.length ≤ 2048 := by omega
        clear h1 hs1 hs2 h2
        go_enter Try.func11, Try.ntmps11
        go_wp2
        go_ret2
        exact ⟨none, 0, rfl, Own.nil, ba _ _⟩
      · have hR' : R = (segsL (putL i 2) (piecesL s data.length data), 0) := by rw [hR.out]; unfold writeR; rw [if_neg h1, if_neg h2, if_neg h3]; rfl
        subst hR'
        exact write_ok i A data c s w (by omega) (by omega) (by omega) (by omega) (by omega) hle hc hbs _ (Lib.hid rfl)

theorem write_123 (A : Option Addr) (c : Nat) (w : World) (hle : 3 ≤ c) (hc : c ≤ 9223372036854775807) (hbs : Bs w w.heap.size A [1, 2, 3]) :
    Calls Try.prog 11 #[.agg #[.int .i64 5, .slice A 3 c], .int .i64 2] w (OutB w ([128, 6, 0, 5, 1, 2, 0, 3, 3], 0)) :=
  gwrite_any 5 A [1, 2, 3] c 2 w hle hc (by omega) (by omega) hbs _ (Lib.hid (by decide))
theorem write_nil (w : World) : Calls Try.prog 11 #[.agg #[.int .i64 0, .slice none 0 0], .int .i64 0] w (OutB w ([], 1)) :=
  gwrite_any 0 none [] 0 0 w (by simp) (by omega) (by omega) (by omega) Bs.nil _ (Lib.hid (by decide))
theorem next_nil (w : World) : Calls Try.prog 15 #[.slice none 0 0] w (NextOut w (0, [], 0, 11)) := by
  have h := next_any none [] 0 w (by simp) (by omega) Bs.nil
  rw [show nextR [] = (0, [], 0, 11) by decide] at h
  exact h

set_option maxHeartbeats 1000000 in
theorem alive_any (w : World) : Calls Try.prog 9 #[] w fun e w' => e = .returned (.bool true) ∧ Below w.heap.size w w' := by
  go_enter Try.func9, Try.ntmps9
  go_wp2_with fail
  refine (write_123 _ _ _ (by omega) (by omega) (Bs.lit' (by simp) rfl)).mono ?_
  rintro e w1 ⟨A1, c1, rfl, ho1, hb1⟩
  go_wp2_with fail
  refine (write_nil _).mono ?_
  rintro e w2 ⟨A2, c2, rfl, ho2, hb2⟩
  go_wp2_with fail
  refine (next_nil _).mono ?_
  rintro e w3 ⟨A3, c3, rfl, hn3, hb3, _⟩
  have kc := fun (w : World) (C : Array Value) (n c : Nat) => Lib.run_convert_bytes_const (P := Try.prog) w 22 5 C n c Try.underlying22 Try.underlying5
  have ho1' := ((ho1.below hb2 (Nat.le_refl _)).below hb3 (Nat.le_refl _)).alloc (.cells #[.int .i64 0, .slice A3 0 c3] 24)
  have hcv := conv_bytes (c := c1) Try.underlying22 Try.underlying5 Try.underlying9 ho1'.bs
  simp only [List.length_cons, List.length_nil] at hcv
  go_wp2
  go_ret
  exact ⟨rfl, bt (ba _ _) (bt hb1 (bt hb2 (bt hb3 (ba _ _))))⟩
end Go.Proofs.Ytoahmifmoekjoaa
