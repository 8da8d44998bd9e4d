/- Layer 2: the laws' call on a tape that is nil, or that no call made. -/
import Derived.Test.YtpkplgnpbddcjaaCall
namespace Go.Proofs.Ytpkplgnpbddcjaa
open Go.RowKit
set_option linter.unusedVariables false

theorem NotMade.below {w w' : World} {v : Option Addr} (h : NotMade w v) (hb : Below w.heap.size w w') : NotMade w' v := by
  rcases h with rfl | ⟨p, rfl, h⟩
  · exact .inl rfl
  · exact .inr ⟨p, rfl, (hb.cell (p := ⟨p, 0, none⟩) (World.block_lt_of_cell? _ _ h)).trans h⟩

set_option maxHeartbeats 4000000 in
theorem call_no (k n : Int) (A : Option Addr) (b : List UInt8) (c : Nat) (v : Option Addr) (w : World) (h : NotMade w v) (hbs : Bs w w.heap.size A b)
    (hb : b.length ≤ 140737488355328) (hk : 0 ≤ k ∧ k ≤ 4) :
    Calls Try.prog 7 #[.pointer v, .agg #[.int .i64 k, .int .i64 n, .slice A b.length c]] w fun e w' => e = .returned (.int .i64 6) ∧ Below w.heap.size w w' := by
  have hcase : k = 0 ∨ k = 1 ∨ k = 2 ∨ k = 3 ∨ k = 4 := by omega
  have hW : NotMade (w.alloc (.cells #[.int .i64 k, .int .i64 n, .slice A b.length c] 32)) v := h.below (ba _ _)
  have hbx := Blk.new w 32 #[.int .i64 k, .int .i64 n, .slice A b.length c]
  rcases hcase with rfl | rfl | rfl | rfl | rfl
  all_goals
    go_enter Try.func7, Try.ntmps7
    go_wp2_with fail
    refine (copy_any A b c _ hb (hbs.bt (ba _ _))).mono ?_
    rintro e w1 ⟨A2, c2, rfl, ho, hb1⟩
    have hb1' := hbx.below hb1 (by simp)
    have y0 := hb1'.cell 0
    have y1 := hb1'.cell 1
    simp only [List.getElem?_toArray, List.getElem?_cons_zero, List.getElem?_cons_succ] at y0 y1
    have hT := hW.below hb1
    have hbb : Below w.heap.size w w1 := bt (ba w _) hb1
    go_wp2_with fail
  · refine (noAppend v A2 b.length c2 w1 hT).mono ?_
    rintro e w2 ⟨rfl, rfl⟩
    have hsz : (w.alloc (.cells #[.int .i64 0, .int .i64 0, .slice A b.length c] 32)).heap.size = w.heap.size + 1 := by simp
    have ho' : Own w1 w.heap.size 5 A2 c2 b := ho.base_le (by simp)
    clear y0 y1 hT ho hb1 hb1' hW hbx
    go_wp2_with fail
    go_loopw [7] (fun i wr => ∃ j : Nat, j ≤ b.length ∧ i = .int .i64 j ∧ (∃ L, L.length = b.length ∧ Own wr w.heap.size 5 A2 c2 L) ∧ Below w.heap.size w wr) (fun i _ => b.length - (intOf i).toNat)
    case atStart => exact ⟨0, Nat.zero_le _, rfl, ⟨b, rfl, ho'⟩, hbb⟩
    case round =>
      obtain ⟨j, hj, rfl, ⟨L, hL, hO⟩, hB⟩ := hrel
      by_cases hjl : j < b.length
      · obtain ⟨g, rfl, hg, _⟩ := hO.form (by omega)
        have hcell := hO.cell j (by omega)
        have hfr := hO.frozen j
        have hx := xor255 (L[j]'(by omega))
        obtain ⟨x, hxe⟩ : ∃ x, x = L[j]'(by omega) := ⟨_, rfl⟩
        rw [← hxe] at hcell hx
        have HL := Lib.hid hL
        clear hxe hL
        go_wp2
        go_roundw
        case rel =>
          obtain ⟨L', hL', hO'⟩ := own_set_any hO j _ hx
          exact ⟨j + 1, by omega, by go_num, ⟨L', by rw [hL', HL.out], hO'⟩, hB.setCell hg _⟩
        case measure => simp [intOf]; omega
      · go_wp2
        go_ret
        exact ⟨rfl, hB⟩
  · refine (noForce v w1 hT).mono ?_
    rintro e w2 ⟨rfl, rfl⟩
    have hsz : (w.alloc (.cells #[.int .i64 0, .int .i64 0, .slice A b.length c] 32)).heap.size = w.heap.size + 1 := by simp
    have ho' : Own w1 w.heap.size 5 A2 c2 b := ho.base_le (by simp)
    clear y0 y1 hT ho hb1 hb1' hW hbx
    go_wp2_with fail
    go_loopw [7] (fun i wr => ∃ j : Nat, j ≤ b.length ∧ i = .int .i64 j ∧ (∃ L, L.length = b.length ∧ Own wr w.heap.size 5 A2 c2 L) ∧ Below w.heap.size w wr) (fun i _ => b.length - (intOf i).toNat)
    case atStart => exact ⟨0, Nat.zero_le _, rfl, ⟨b, rfl, ho'⟩, hbb⟩
    case round =>
      obtain ⟨j, hj, rfl, ⟨L, hL, hO⟩, hB⟩ := hrel
      by_cases hjl : j < b.length
      · obtain ⟨g, rfl, hg, _⟩ := hO.form (by omega)
        have hcell := hO.cell j (by omega)
        have hfr := hO.frozen j
        have hx := xor255 (L[j]'(by omega))
        obtain ⟨x, hxe⟩ : ∃ x, x = L[j]'(by omega) := ⟨_, rfl⟩
        rw [← hxe] at hcell hx
        have HL := Lib.hid hL
        clear hxe hL
        go_wp2
        go_roundw
        case rel =>
          obtain ⟨L', hL', hO'⟩ := own_set_any hO j _ hx
          exact ⟨j + 1, by omega, by go_num, ⟨L', by rw [hL', HL.out], hO'⟩, hB.setCell hg _⟩
        case measure => simp [intOf]; omega
      · go_wp2
        go_ret
        exact ⟨rfl, hB⟩
  · refine (noCrash v n w1 hT).mono ?_
    rintro e w2 ⟨rfl, rfl⟩
    have hsz : (w.alloc (.cells #[.int .i64 0, .int .i64 0, .slice A b.length c] 32)).heap.size = w.heap.size + 1 := by simp
    have ho' : Own w1 w.heap.size 5 A2 c2 b := ho.base_le (by simp)
    clear y0 y1 hT ho hb1 hb1' hW hbx
    go_wp2_with fail
    go_loopw [7] (fun i wr => ∃ j : Nat, j ≤ b.length ∧ i = .int .i64 j ∧ (∃ L, L.length = b.length ∧ Own wr w.heap.size 5 A2 c2 L) ∧ Below w.heap.size w wr) (fun i _ => b.length - (intOf i).toNat)
    case atStart => exact ⟨0, Nat.zero_le _, rfl, ⟨b, rfl, ho'⟩, hbb⟩
    case round =>
      obtain ⟨j, hj, rfl, ⟨L, hL, hO⟩, hB⟩ := hrel
      by_cases hjl : j < b.length
      · obtain ⟨g, rfl, hg, _⟩ := hO.form (by omega)
        have hcell := hO.cell j (by omega)
        have hfr := hO.frozen j
        have hx := xor255 (L[j]'(by omega))
        obtain ⟨x, hxe⟩ : ∃ x, x = L[j]'(by omega) := ⟨_, rfl⟩
        rw [← hxe] at hcell hx
        have HL := Lib.hid hL
        clear hxe hL
        go_wp2
        go_roundw
        case rel =>
          obtain ⟨L', hL', hO'⟩ := own_set_any hO j _ hx
          exact ⟨j + 1, by omega, by go_num, ⟨L', by rw [hL', HL.out], hO'⟩, hB.setCell hg _⟩
        case measure => simp [intOf]; omega
      · go_wp2
        go_ret
        exact ⟨rfl, hB⟩
  · refine (noCut v n w1 hT).mono ?_
    rintro e w2 ⟨rfl, rfl⟩
    have hsz : (w.alloc (.cells #[.int .i64 0, .int .i64 0, .slice A b.length c] 32)).heap.size = w.heap.size + 1 := by simp
    have ho' : Own w1 w.heap.size 5 A2 c2 b := ho.base_le (by simp)
    clear y0 y1 hT ho hb1 hb1' hW hbx
    go_wp2_with fail
    go_loopw [7] (fun i wr => ∃ j : Nat, j ≤ b.length ∧ i = .int .i64 j ∧ (∃ L, L.length = b.length ∧ Own wr w.heap.size 5 A2 c2 L) ∧ Below w.heap.size w wr) (fun i _ => b.length - (intOf i).toNat)
    case atStart => exact ⟨0, Nat.zero_le _, rfl, ⟨b, rfl, ho'⟩, hbb⟩
    case round =>
      obtain ⟨j, hj, rfl, ⟨L, hL, hO⟩, hB⟩ := hrel
      by_cases hjl : j < b.length
      · obtain ⟨g, rfl, hg, _⟩ := hO.form (by omega)
        have hcell := hO.cell j (by omega)
        have hfr := hO.frozen j
        have hx := xor255 (L[j]'(by omega))
        obtain ⟨x, hxe⟩ : ∃ x, x = L[j]'(by omega) := ⟨_, rfl⟩
        rw [← hxe] at hcell hx
        have HL := Lib.hid hL
        clear hxe hL
        go_wp2
        go_roundw
        case rel =>
          obtain ⟨L', hL', hO'⟩ := own_set_any hO j _ hx
          exact ⟨j + 1, by omega, by go_num, ⟨L', by rw [hL', HL.out], hO'⟩, hB.setCell hg _⟩
        case measure => simp [intOf]; omega
      · go_wp2
        go_ret
        exact ⟨rfl, hB⟩
  · refine (noSwap v A2 b.length c2 w1 hT).mono ?_
    rintro e w2 ⟨rfl, rfl⟩
    have hsz : (w.alloc (.cells #[.int .i64 0, .int .i64 0, .slice A b.length c] 32)).heap.size = w.heap.size + 1 := by simp
    have ho' : Own w1 w.heap.size 5 A2 c2 b := ho.base_le (by simp)
    clear y0 y1 hT ho hb1 hb1' hW hbx
    go_wp2_with fail
    go_loopw [7] (fun i wr => ∃ j : Nat, j ≤ b.length ∧ i = .int .i64 j ∧ (∃ L, L.length = b.length ∧ Own wr w.heap.size 5 A2 c2 L) ∧ Below w.heap.size w wr) (fun i _ => b.length - (intOf i).toNat)
    case atStart => exact ⟨0, Nat.zero_le _, rfl, ⟨b, rfl, ho'⟩, hbb⟩
    case round =>
      obtain ⟨j, hj, rfl, ⟨L, hL, hO⟩, hB⟩ := hrel
      by_cases hjl : j < b.length
      · obtain ⟨g, rfl, hg, _⟩ := hO.form (by omega)
        have hcell := hO.cell j (by omega)
        have hfr := hO.frozen j
        have hx := xor255 (L[j]'(by omega))
        obtain ⟨x, hxe⟩ : ∃ x, x = L[j]'(by omega) := ⟨_, rfl⟩
        rw [← hxe] at hcell hx
        have HL := Lib.hid hL
        clear hxe hL
        go_wp2
        go_roundw
        case rel =>
          obtain ⟨L', hL', hO'⟩ := own_set_any hO j _ hx
          exact ⟨j + 1, by omega, by go_num, ⟨L', by rw [hL', HL.out], hO'⟩, hB.setCell hg _⟩
        case measure => simp [intOf]; omega
      · go_wp2
        go_ret
        exact ⟨rfl, hB⟩
end Go.Proofs.Ytpkplgnpbddcjaa
