/- Layer 3: equal lists; the laws' fixed calls. -/
import Derived.Test.YthaamnkihnbgaaaZd
namespace Go.Proofs.Ythaamnkihnbgaaa
open Go.RowKit
set_option linter.unusedVariables false
set_option linter.unusedSimpArgs false

set_option maxHeartbeats 1000000 in
theorem same_yes (A1 A2 : Option Addr) (vs : List (Int × List UInt8)) (c1 c2 : Nat) (w : World) (hm : vs.length ≤ 9223372036854775807) (hl : ∀ x ∈ vs, x.2.length ≤ 9223372036854775807) (h1 : RecsIn w w.heap.size A1 vs) (h2 : RecsIn w w.heap.size A2 vs) :
    Calls Try.prog 17 #[.slice A1 vs.length c1, .slice A2 vs.length c2] w fun e w' => e = .returned (.bool true) ∧ ∃ n, w' = w.drewN n := by
  go_enter Try.func17, Try.ntmps17
  go_wp2
  go_loopw [5] (fun i wr => ∃ k : Nat, k ≤ vs.length ∧ i = .int .i64 k ∧ ∃ n, wr = w.drewN n) (fun i _ => vs.length - (intOf i).toNat)
  case atStart => exact ⟨0, Nat.zero_le _, rfl, 0, rfl⟩
  case round =>
    obtain ⟨k, hk, rfl, n, rfl⟩ := hrel
    by_cases hlt : k < vs.length
    · obtain ⟨b1, o1, rfl, hb1, hc1⟩ := h1 (by omega)
      obtain ⟨b2, o2, rfl, hb2, hc2⟩ := h2 (by omega)
      obtain ⟨x1, P1, p1, y1, z1⟩ := hc1 k hlt
      obtain ⟨x2, P2, p2, y2, z2⟩ := hc2 k hlt
      clear hc1 hc2
      have hvl := hl _ (List.getElem_mem hlt)
      obtain ⟨v, hv⟩ : ∃ v, v = vs[k] := ⟨_, rfl⟩
      rw [← hv] at x1 y1 z1 x2 y2 z2 hvl
      clear hv
      obtain ⟨W, hW⟩ : ∃ W, W = w.drewN n := ⟨_, rfl⟩
      have X1 : W.cell? ⟨b1, o1 + k * 2, none⟩ = some (.int .i64 v.1) := by rw [hW]; exact x1
      have Y1 : W.cell? ⟨b1, o1 + k * 2 + 1, none⟩ = some (.slice P1 v.2.length p1) := by rw [hW]; exact y1
      have X2 : W.cell? ⟨b2, o2 + k * 2, none⟩ = some (.int .i64 v.1) := by rw [hW]; exact x2
      have Y2 : W.cell? ⟨b2, o2 + k * 2 + 1, none⟩ = some (.slice P2 v.2.length p2) := by rw [hW]; exact y2
      have Z1 : Bs W w.heap.size P1 v.2 := by rw [hW]; exact z1
      have Z2 : Bs W w.heap.size P2 v.2 := by rw [hW]; exact z2
      have cv1 : ∀ m, (convert 22 9 (.slice P1 v.2.length p1)).run Try.prog (W.drewN m) = .ok (.string ⟨v.2.toArray⟩) (W.drewN m) := fun m => conv_bytes Try.underlying22 Try.underlying5 Try.underlying9 (Z1.drewN m) p1
      have cv2 : ∀ m, (convert 22 9 (.slice P2 v.2.length p2)).run Try.prog (W.drewN m) = .ok (.string ⟨v.2.toArray⟩) (W.drewN m) := fun m => conv_bytes Try.underlying22 Try.underlying5 Try.underlying9 (Z2.drewN m) p2
      have HW := Lib.hid hW
      rw [← hW]
      clear hW x1 y1 x2 y2 z1 z2
      have hki : (k : Int) < (vs.length : Int) := by omega
      go_wp2
      go_quiet (fail)
      go_wp2
      go_roundw
      case rel => exact ⟨k + 1, by omega, by go_num, n + nq, by rw [HW.out]; simp [World.drewN, Nat.add_assoc]⟩
      case measure => simp [intOf]; omega
    · go_wp2
      go_ret
      exact ⟨rfl, n, rfl⟩


def LongO (w : World) (n : Nat) (e : Ending) (w' : World) : Prop := (∃ b, e = .returned (.bool b) ∧ (b = false → n ≤ 3000)) ∧ Below w.heap.size w w'
theorem long_yes {w w' : World} {n : Nat} (hb : Below w.heap.size w w') : LongO w n (.returned (.bool true)) w' := ⟨⟨_, rfl, fun e => by cases e⟩, hb⟩
theorem long_no {w w' : World} {n : Nat} (hn : n ≤ 3000) (hb : Below w.heap.size w w') : LongO w n (.returned (.bool false)) w' := ⟨⟨_, rfl, fun _ => hn⟩, hb⟩
set_option maxHeartbeats 400000 in
theorem long_any (k : Int) (A : Option Addr) (n c : Nat) (w : World) :
    Calls Try.prog 24 #[.agg #[.int .i64 k, .slice A n c]] w (LongO w n) := by
  by_cases h1 : (200 : Int) < n
  · by_cases h2 : (n : Int) ≤ 1024
    · go_enter Try.func24, Try.ntmps24
      go_wp2
      go_ret
      exact long_yes (ba _ _)
    · by_cases h3 : (3000 : Int) < n
      · go_enter Try.func24, Try.ntmps24
        go_wp2
        go_ret
        exact long_yes (ba _ _)
      · go_enter Try.func24, Try.ntmps24
        go_wp2
        go_ret
        exact long_no (by omega) (ba _ _)
  · have h3 : ¬ (3000 : Int) < n := by omega
    go_enter Try.func24, Try.ntmps24
    go_wp2
    go_ret
    exact long_no (by omega) (ba _ _)

def rec7 : List UInt8 := recL 7 [1, 2]
theorem rec7_len : rec7.length = 9 := by decide
theorem rec7_2 : rec7[2]'(by rw [rec7_len]; omega) = 7 := by decide
theorem rec7_read : readR rec7 = ([((7 : Int), [1, 2])], 9) := by decide
theorem write_12 (A : Option Addr) (c : Nat) (w : World) (h : Bs w w.heap.size A [1, 2]) : Calls Try.prog 12 #[.agg #[.int .i64 7, .slice A 2 c]] w fun e w' =>
    ∃ g c', e = .returned (.tuple #[.slice (some ⟨g, 0, none⟩) 9 c', .int .i64 0]) ∧ w'.cell? ⟨g, 2, none⟩ = some (.int .u8 7) ∧ Bs w' w'.heap.size (some ⟨g, 0, none⟩) rec7 ∧ 9 ≤ c' ∧ c' ≤ maxLen ∧ Below w.heap.size w w' := by
  refine (write_any 7 A [1, 2] 2 c w rfl (by unfold maxLen; omega) h).mono ?_
  rintro e w' ⟨A2, c2, rfl, ho, hb⟩
  have e1 : writeR 7 [1, 2] = (rec7, 0) := rfl
  rw [e1] at ho ⊢
  dsimp only at ho ⊢
  obtain ⟨g, rfl, _, _, h1, h2⟩ := ho.form (by rw [rec7_len]; omega)
  have hc := ho.cell 2 (by rw [rec7_len]; omega)
  rw [rec7_2] at hc
  rw [rec7_len] at h1 ⊢
  exact ⟨g, c2, rfl, hc, ho.bs, h1, h2, hb⟩
theorem write_0 (w : World) : Calls Try.prog 12 #[.agg #[.int .i64 0, .slice none 0 0]] w fun e w' =>
    ∃ A c', e = .returned (.tuple #[.slice A 0 c', .int .i64 30]) ∧ Below w.heap.size w w' := by
  refine (write_any 0 none [] 0 0 w rfl (by unfold maxLen; omega) Bs.nil).mono ?_
  rintro e w' ⟨A2, c2, rfl, ho, hb⟩
  exact ⟨A2, c2, rfl, hb⟩
theorem read_7 (A : Option Addr) (c : Nat) (w : World) (h : Bs w w.heap.size A rec7) (h1 : 9 ≤ c) (h2 : c ≤ maxLen) : Calls Try.prog 15 #[.slice A 9 c] w fun e w' =>
    ∃ A2 c2, e = .returned (.tuple #[.slice A2 1 c2, .int .i64 9]) ∧ Below w.heap.size w w' := by
  refine (read_any A rec7 9 c w (Lib.hid rec7_len.symm) (Lib.hid h1) (Lib.hid (by unfold maxLen at h2; omega)) (Lib.hid (by omega)) h).mono ?_
  rintro e w' ⟨A2, c2, rfl, hr, hb, _⟩
  rw [rec7_read]
  exact ⟨A2, c2, rfl, hb⟩

set_option maxHeartbeats 1000000 in
theorem alive_any (w : World) : Calls Try.prog 11 #[] w fun e w' => e = .returned (.bool true) ∧ Below w.heap.size w w' := by
  go_enter Try.func11, Try.ntmps11
  go_wp2_with fail
  refine (write_12 _ _ _ (Bs.lit' rfl rfl)).mono ?_
  rintro e w1 ⟨g, c1, rfl, hc1, hbs1, h91, hm1, hb1⟩
  have hb1 := bt (ba _ _) hb1
  go_wp2_with fail
  refine (write_0 _).mono ?_
  rintro e w2 ⟨A2, c2, rfl, hb2⟩
  have hbs2 := hbs1.bt hb2
  have hc2 := (hb2.cell (p := ⟨g, 2, none⟩) (World.block_lt_of_cell? _ _ hc1)).trans hc1
  have hbb2 := bt hb1 hb2
  clear hb1 hb2 hc1 hbs1
  go_wp2_with fail
  refine (open_no none _ (.inl rfl)).mono ?_
  rintro e w3 ⟨rfl, hb3⟩
  have hbs3 := hbs2.bt hb3
  have hc3 := (hb3.cell (p := ⟨g, 2, none⟩) (World.block_lt_of_cell? _ _ hc2)).trans hc2
  have hbb3 := bt hbb2 hb3
  clear hb3 hbb2 hc2 hbs2
  go_wp2_with fail
  refine (read_7 _ _ _ hbs3 h91 hm1).mono ?_
  rintro e w4 ⟨A4, c4, rfl, hb4⟩
  have hc4 := (hb4.cell (p := ⟨g, 2, none⟩) (World.block_lt_of_cell? _ _ hc3)).trans hc3
  have hbb4 := bt hbb3 hb4
  clear hb4 hbb3 hc3 hbs3
  go_wp2
  go_ret
  exact ⟨rfl, hbb4⟩
end Go.Proofs.Ythaamnkihnbgaaa
