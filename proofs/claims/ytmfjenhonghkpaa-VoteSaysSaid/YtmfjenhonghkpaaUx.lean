/- Layer 16: the document's votes and Says3. -/
import Derived.Test.YtmfjenhonghkpaaUw
namespace Go.Proofs.Ytmfjenhonghkpaa
open Go Go.RowKit
set_option linter.unusedVariables false
set_option linter.unusedSimpArgs false

theorem count_pos (l : List Int) : (0 < l.countP (fun v => v == 1)) ↔ l.any (fun v => v == 1) = true := by
  rw [List.countP_pos_iff, List.any_eq_true]
set_option maxHeartbeats 1000000 in
theorem refsays3_any (A : Option Addr) (zs : List Int) (n c : Nat) (hn : Hid (n = zs.length)) (hm : n ≤ 1000000) (w : World) (h : NumsAt w A zs) : Calls Try.prog 22 #[.slice A n c] w fun e w' => e = .returned (.int .i64 (says3L zs)) ∧ w = w' := by
  have HH := Lib.hid h
  clear h
  go_enter Try.func22, Try.ntmps22
  go_wp2_with fail
  go_loopw [3, 4] (fun s i wr => ∃ (i0 q : Nat), i0 ≤ n ∧ q ≤ i0 ∧ i = .int .i64 i0 ∧ s = .int .i64 q ∧ Hid (q = (zs.take i0).countP (fun v => v == 1)) ∧ Hid ((zs.take i0).all (fun v => v == 1 || v == 2) = true) ∧ wr = w) (fun s i _ => n - (intOf i).toNat)
  case atStart => exact ⟨0, 0, Nat.zero_le _, Nat.le_refl _, rfl, rfl, Lib.hid (by simp), Lib.hid (by simp), rfl⟩
  case round =>
    obtain ⟨i0, q, him, hqi, rfl, rfl, hsv, hall, rfl⟩ := hrel
    by_cases hi0 : i0 < n
    · have hiI : (i0 : Int) < (n : Int) := by omega
      have hiz : i0 < zs.length := by rw [← hn.out]; exact hi0
      obtain ⟨b, o, rfl, hcell⟩ := HH.out (by omega)
      have cc := hcell i0 hiz
      have htk := take_snoc zs i0 hiz
      obtain ⟨z, hz⟩ : ∃ z, z = zs[i0]'hiz := ⟨_, rfl⟩
      rw [← hz] at cc htk
      have HT := Lib.hid htk
      have HZ := Lib.hid (show z ∈ zs by rw [hz]; exact List.getElem_mem hiz)
      clear hcell htk hz hiz
      rcases h1 : (z == 1) with _ | _
      · have n1 : (z != 1) = true := by simp [bne, h1]
        rcases h2 : (z == 2) with _ | _
        · have n2 : (z != 2) = true := by simp [bne, h2]
          have hna : Hid (says3L zs = 3) := Lib.hid (by
            have hna : zs.all (fun v => v == 1 || v == 2) = false := by
              rw [List.all_eq_false]
              exact ⟨z, HZ.out, by simp [h1, h2]⟩
            unfold says3L
            rw [hna]
            rfl)
          go_wp2
          go_ret
          exact ⟨by rw [hna.out]; rfl, rfl⟩
        · have n2 : (z != 2) = false := by simp [bne, h2]
          have hs2 : Hid (q = (zs.take (i0 + 1)).countP (fun v => v == 1)) := Lib.hid (by rw [HT.out, List.countP_append, ← hsv.out]; simp [h1])
          have ha2 : Hid ((zs.take (i0 + 1)).all (fun v => v == 1 || v == 2) = true) := Lib.hid (by rw [HT.out, List.all_append, hall.out]; simp [h2])
          go_wp2
          go_roundw
          case rel => exact ⟨i0 + 1, q, by omega, by omega, by go_num, rfl, hs2, ha2, trivial⟩
          case measure => simp [intOf]; omega
      · have n1 : (z != 1) = false := by simp [bne, h1]
        have hs2 : Hid (q + 1 = (zs.take (i0 + 1)).countP (fun v => v == 1)) := Lib.hid (by rw [HT.out, List.countP_append, ← hsv.out]; simp [h1])
        have ha2 : Hid ((zs.take (i0 + 1)).all (fun v => v == 1 || v == 2) = true) := Lib.hid (by rw [HT.out, List.all_append, hall.out]; simp [h1])
        go_wp2
        go_roundw
        case rel => exact ⟨i0 + 1, q + 1, by omega, by omega, by go_num, by go_num, hs2, ha2, trivial⟩
        case measure => simp [intOf]; omega
    · obtain rfl : i0 = n := by omega
      have hiI : ¬ (i0 : Int) < (i0 : Int) := by omega
      have hl : zs.take i0 = zs := List.take_of_length_le (by rw [← hn.out]; exact Nat.le_refl _)
      have h1 := hall.out
      have h2 := hsv.out
      rw [hl] at h1 h2
      have h3 := count_pos zs
      rw [← h2] at h3
      by_cases hq0 : 0 < q
      · have hqI : (0 : Int) < (q : Int) := by omega
        have hF : Hid (says3L zs = 1) := Lib.hid (by unfold says3L; rw [h1, h3.1 hq0]; rfl)
        clear hl h1 h2 h3
        go_wp2
        go_ret
        exact ⟨by rw [hF.out]; rfl, rfl⟩
      · have hqI : ¬ (0 : Int) < (q : Int) := by omega
        have hF : Hid (says3L zs = 2) := Lib.hid (by
          have h4 : zs.any (fun v => v == 1) = false := by rcases h5 : zs.any (fun v => v == 1) with _ | _; rfl; exact absurd (h3.2 h5) hq0
          unfold says3L; rw [h1, h4]; rfl)
        clear hl h1 h2 h3
        go_wp2
        go_ret
        exact ⟨by rw [hF.out]; rfl, rfl⟩
end Go.Proofs.Ytmfjenhonghkpaa
