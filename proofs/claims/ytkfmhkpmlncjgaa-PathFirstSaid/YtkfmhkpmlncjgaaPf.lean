/- Layer 8: packets come as they were sent, in order. -/
import Derived.Test.YtkfmhkpmlncjgaaPd
import Derived.Test.YtkfmhkpmlncjgaaPe
namespace Go.Proofs.Ytkfmhkpmlncjgaa
open Go.RowKit
set_option linter.unusedVariables false
set_option linter.unusedSimpArgs false
def VPf (A6 : Option Addr) (J6 c6 : Nat) (l : List UInt8) (b o n c k : Nat) (Ai : Option Addr) (ci : Nat) (i : Nat) (v : Value) (w : World) : Prop :=
  match i with
  | 0 => v = .int .i64 0
  | 1 => v = .bool false
  | 2 => v = .bool false
  | 3 => v = .slice A6 J6 c6
  | 4 => v = .string ⟨l.toArray⟩
  | 5 => v = .slice (some ⟨b, o, none⟩) n c
  | 6 => v = .int .i64 k
  | 7 => v = .pointer (some ⟨b, o + k, none⟩)
  | 8 => v = .slice Ai l.length ci
  | 9 => v = .string ⟨l.toArray⟩
  | 10 => v = .bool false
  | 11 => v = .bool false
  | _ => True
theorem VPf.mono {A6 : Option Addr} {J6 c6 : Nat} {l : List UInt8} {b o n c k : Nat} {Ai : Option Addr} {ci : Nat} {i : Nat} {v : Value} {u u' : World} (hv : VPf A6 J6 c6 l b o n c k Ai ci i v u) : VPf A6 J6 c6 l b o n c k Ai ci i v u' := by
  unfold VPf at hv ⊢; split at hv <;> exact hv

set_option maxRecDepth 100000 in
set_option maxHeartbeats 4000000 in
theorem first_big (A : Option Addr) (n c : Nat) (w : World) (hb : (200 : Int) < (n : Int)) : Calls Try.prog 7 #[.slice A n c] w fun e w' => e = .returned (.bool true) ∧ Below w.heap.size w w' := by
  go_enter Try.func7, Try.ntmps7
  go_wp2_with fail
  refine (new_any _).mono ?_
  intro e w1 hnew
  obtain ⟨cs, rfl, P1, hb1⟩ := PathAt.new hnew
  clear hnew P1
  go_wp2_with fail
  refine (alive_any _).mono ?_
  rintro e w2 ⟨rfl, hb2⟩
  go_wp2
  go_ret
  exact ⟨rfl, bt hb1 hb2⟩
set_option maxRecDepth 100000 in
set_option maxHeartbeats 4000000 in
theorem first_all (A : Option Addr) (ls : List (List UInt8)) (n c : Nat) (hn : Hid (n = ls.length)) (w : World) (hls : ListAt w w.heap.size A ls) (hb : ¬ (200 : Int) < (n : Int)) : Calls Try.prog 7 #[.slice A n c] w fun e w' => e = .returned (.bool true) ∧ Below w.heap.size w w' := by
  have HLS := Lib.hid hls
  have hn200 : Hid (n ≤ 200) := Lib.hid (by omega)
  clear hls
  go_enter Try.func7, Try.ntmps7
  go_wp2_with fail
  refine (new_any _).mono ?_
  intro e w1 hnew
  obtain ⟨cs, rfl, P1, hb1⟩ := PathAt.new hnew
  clear hnew
  go_wp2
  go_loopw [4] (fun i wr => ∃ k : Nat, k ≤ n ∧ i = .int .i64 k ∧ (∃ cs, PathAt wr w.heap.size (ls.take k) cs) ∧ Below w.heap.size w wr) (fun i _ => n - (intOf i).toNat)
  case atStart => exact ⟨0, Nat.zero_le _, rfl, ⟨cs, by simpa using P1⟩, hb1⟩
  case round =>
    obtain ⟨k, hk, rfl, ⟨cs1, P⟩, hbr⟩ := hrel
    clear P1 hb1
    by_cases hlt : k < n
    · have hkl : k < ls.length := by rw [← hn.out]; exact hlt
      obtain ⟨b, o, rfl, hblt, hcs⟩ := (HLS.out.bt hbr) (by omega)
      obtain ⟨Ai, ci, hcl, hbs⟩ := hcs k hkl
      obtain ⟨l, hl⟩ : ∃ l, l = ls[k] := ⟨_, rfl⟩
      rw [← hl] at hcl hbs
      have Hl := Lib.hid hl
      have hkI : (k : Int) < (n : Int) := by omega
      clear hl hcs
      by_cases h512 : (512 : Int) < (l.length : Int)
      · clear P
        go_wp2_with fail
        refine (alive_any _).mono ?_
        rintro e w2 ⟨rfl, hb2⟩
        go_wp2
        go_ret
        exact ⟨rfl, bt hbr hb2⟩
      · have hs := send_ok P (by rw [List.length_take]; have := hn200.out; omega) Ai l l.length ci (Lib.hid rfl) (decide_eq_false h512) hbs
        have htk : ls.take k ++ [l] = ls.take (k + 1) := by rw [Hl.out]; exact (take_snoc ls k hkl).symm
        rw [htk] at hs
        clear P htk hbs
        go_wp2_with fail
        refine hs.mono ?_
        clear hs
        rintro e w2 ⟨rfl, hP2, hg2⟩
        have hb2 := hbr.trans (below_of hg2 (Nat.le_refl _) hbr.size)
        clear hg2
        go_wp2
        go_roundw
        case rel => exact ⟨k + 1, by omega, by have := hn200.out; go_num, hP2, hb2⟩
        case measure => have := hn200.out; simp [intOf]; omega
    · obtain rfl : k = n := by omega
      have P0 : PathAt wr w.heap.size ls cs1 := by have := P; rwa [hn.out, List.take_length] at this
      clear P hlt hk
      go_wp2
      go_loopw [5] (fun i wr2 => ∃ q : Nat, q ≤ k ∧ i = .int .i64 q ∧ (∃ cs, PathAt wr2 w.heap.size (ls.drop q) cs) ∧ Below w.heap.size w wr2) (fun i _ => k - (intOf i).toNat)
      case atStart => exact ⟨0, Nat.zero_le _, rfl, ⟨cs1, by simpa using P0⟩, hbr⟩
      case round =>
        obtain ⟨q, hk, rfl, ⟨cs2, P⟩, hbw1⟩ := hrel
        clear P0 hbr cs1
        by_cases hlt : q < k
        · have hkl : q < ls.length := by rw [← hn.out]; exact hlt
          obtain ⟨b, o, rfl, hblt, hcs⟩ := (HLS.out.bt hbw1) (by omega)
          obtain ⟨Ai, ci, hcl, hbs⟩ := hcs q hkl
          have hd0 : (ls.drop q)[0]'(by rw [List.length_drop]; omega) = ls[q] := by rw [List.getElem_drop]; simp
          have hdrop : (ls.drop q).eraseIdx 0 = ls.drop (q + 1) := by rw [List.eraseIdx_zero, List.tail_drop]
          have ht : Calls Try.prog 13 #[.pointer (some ⟨w.heap.size, 0, none⟩), .int .i64 0] wr (TakeO wr w.heap.size ls[q] ((ls.drop q).eraseIdx 0)) := by
            rw [← hd0]
            by_cases hlast : (ls.drop q).length = 0 + 1
            · exact take_last P 0 (by rw [List.length_drop]; omega) hlast
            · exact take_mid P 0 (by rw [List.length_drop]; omega) (by rw [List.length_drop] at *; omega)
          obtain ⟨l, hl⟩ : ∃ l, l = ls[q] := ⟨_, rfl⟩
          rw [← hl] at hcl hbs ht
          have Hl : Hid (l = ls[q]'hkl) := Lib.hid hl
          have hkI : (q : Int) < (k : Int) := by omega
          clear hl hcs P hd0
          go_wp2_with fail
          refine ht.mono ?_
          clear ht
          rintro e w2 ⟨A6, c6, J6, rfl, hJ6, own6, hP2, hg2⟩
          have hbw2 := hbw1.trans (below_of hg2 (Nat.le_refl _) hbw1.size)
          have hblt2 : b < w2.heap.size := Nat.lt_of_lt_of_le hblt hg2.size
          obtain ⟨b', o', eA, hbl0, hcs0⟩ := (HLS.out.bt hbw2) (by rw [← hn.out]; omega)
          cases eA
          obtain ⟨Aj, cj, hcl2, hbs2⟩ := hcs0 q (by rw [← hn.out]; exact hlt)
          have hlk : ls[q]'(by rw [← hn.out]; exact hlt) = l := Hl.out.symm
          rw [hlk] at hcl2 hbs2
          clear hcs0 hg2 hcl hbs
          go_wp2_with fail
          refine wp_region_invT (F := ?FF) (V := VPf A6 J6 c6 l b o k c q Aj cj) (dead := fun _ => none) (T := fun _ _ => True) (C := fun u' => Below w2.heap.size w2 u') (E := fun _ u u' => u' = u) (by kernel_rfl) (by kernel_rfl) (by kernel_rfl) (fun x => ?hFF) ?hmonoF ?hTmF ?hTF ?hCF ?stepF ?finF
          case hFF => simp only [mkA, Act.put, List.setIfInBounds_toArray, List.set_cons_succ, List.set_cons_zero, Nat.reduceAdd, Nat.zero_add]; first | with_reducible rfl | rfl
          case hmonoF => exact fun q2 j v u u' he hik hwt hdd hv => VPf.mono hv
          case hTmF => exact fun _ _ _ _ _ _ _ _ => trivial
          case hTF => exact fun j => trivial
          case hCF => exact below_drew _
          case stepF =>
            refine AllOps.cons (fun x u hC hT hp K hK => ?_) ?_
            · clear hp hT
              go_simp
              refine hK _ _ _ hC (by rfl) (by exact rfl) ?_
              first | (simp only [Act.put, List.setIfInBounds_toArray, List.set_cons_succ, List.set_cons_zero]; done) | simp [Act.put]
            refine AllOps.cons (fun x u hC hT hp K hK => ?_) ?_
            · simp [KnownTill, Region.binds, VPf] at hp
              clear hT
              go_simp
              refine hK _ _ _ hC (by rfl) (by exact rfl) ?_
              first | (simp only [Act.put, List.setIfInBounds_toArray, List.set_cons_succ, List.set_cons_zero, hp]; done) | simp [Act.put, hp]
            refine AllOps.cons (fun x u hC hT hp K hK => ?_) ?_
            · simp [KnownTill, Region.binds, VPf] at hp
              clear hT
              go_simp
              refine hK _ _ _ hC (by rfl) (by exact rfl) ?_
              first | (simp only [Act.put, List.setIfInBounds_toArray, List.set_cons_succ, List.set_cons_zero, hp]; done) | simp [Act.put, hp]
            refine AllOps.cons (fun x u hC hT hp K hK => ?_) ?_
            · simp [KnownTill, Region.binds, VPf] at hp
              clear hT
              go_simp
              refine hK _ _ _ hC (by rfl) (by exact rfl) ?_
              first | (simp only [Act.put, List.setIfInBounds_toArray, List.set_cons_succ, List.set_cons_zero, hp]; done) | simp [Act.put, hp]
            refine AllOps.cons (fun x u hC hT hp K hK => ?_) ?_
            · simp [KnownTill, Region.binds, VPf] at hp
              clear hT
              have cv := conv_n A6 l J6 c6 hJ6 u _ (own6.below hC (Nat.le_refl _)).bs
              go_simp
              refine hK _ _ _ hC (by rfl) (by exact rfl) ?_
              first | (simp only [Act.put, List.setIfInBounds_toArray, List.set_cons_succ, List.set_cons_zero, hp]; done) | simp [Act.put, hp]
            refine AllOps.cons (fun x u hC hT hp K hK => ?_) ?_
            · simp [KnownTill, Region.binds, VPf] at hp
              clear hT
              go_simp
              refine hK _ _ _ hC (by rfl) (by exact rfl) ?_
              first | (simp only [Act.put, List.setIfInBounds_toArray, List.set_cons_succ, List.set_cons_zero, hp]; done) | simp [Act.put, hp]
            refine AllOps.cons (fun x u hC hT hp K hK => ?_) ?_
            · simp [KnownTill, Region.binds, VPf] at hp
              clear hT
              go_simp
              refine hK _ _ _ hC (by rfl) (by exact rfl) ?_
              first | (simp only [Act.put, List.setIfInBounds_toArray, List.set_cons_succ, List.set_cons_zero, hp]; done) | simp [Act.put, hp]
            refine AllOps.cons (fun x u hC hT hp K hK => ?_) ?_
            · simp [KnownTill, Region.binds, VPf] at hp
              clear hT
              have hpp := hp
              go_simp
              refine hK _ _ _ hC (by rfl) (by exact rfl) ?_
              first | (simp only [Act.put, List.setIfInBounds_toArray, List.set_cons_succ, List.set_cons_zero, hpp]; done) | simp [Act.put, hpp]
            refine AllOps.cons (fun x u hC hT hp K hK => ?_) ?_
            · simp [KnownTill, Region.binds, VPf] at hp
              clear hT
              have cl : u.cell? ⟨b, o + q, none⟩ = some (.slice Aj l.length cj) := (hC.cell (p := ⟨b, o + q, none⟩) hblt2).trans hcl2
              go_simp
              refine hK _ _ _ hC (by rfl) (by exact rfl) ?_
              first | (simp only [Act.put, List.setIfInBounds_toArray, List.set_cons_succ, List.set_cons_zero, hp]; done) | simp [Act.put, hp]
            refine AllOps.cons (fun x u hC hT hp K hK => ?_) ?_
            · simp [KnownTill, Region.binds, VPf] at hp
              clear hT
              have cv := conv_n Aj l l.length cj (Lib.hid rfl) u _ (hbs2.bt hC)
              go_simp
              refine hK _ _ _ hC (by rfl) (by exact rfl) ?_
              first | (simp only [Act.put, List.setIfInBounds_toArray, List.set_cons_succ, List.set_cons_zero, hp]; done) | simp [Act.put, hp]
            refine AllOps.cons (fun x u hC hT hp K hK => ?_) ?_
            · simp [KnownTill, Region.binds, VPf] at hp
              clear hT
              go_simp
              refine hK _ _ _ hC (by rfl) (by exact rfl) ?_
              first | (simp only [Act.put, List.setIfInBounds_toArray, List.set_cons_succ, List.set_cons_zero, hp]; done) | simp [Act.put, hp]
            refine AllOps.cons (fun x u hC hT hp K hK => ?_) ?_
            · simp [KnownTill, Region.binds, VPf] at hp
              clear hT
              go_simp
              refine hK _ _ _ hC (by rfl) (by exact rfl) ?_
              first | (simp only [Act.put, List.setIfInBounds_toArray, List.set_cons_succ, List.set_cons_zero, hp]; done) | simp [Act.put, hp]
            exact AllOps.nil
          case finF =>
            intro x u hC hV
            have hz : x 11 = .bool false := hV 11 (by decide) rfl
            rw [hz]
            clear hV hz
            obtain ⟨cs', P3⟩ := hP2
            have P4 := P3.bt hC
            have hb4 := bt hbw2 hC
            clear hC P3
            go_wp2
            go_roundw
            case rel => exact ⟨q + 1, by omega, by go_num, ⟨cs', hdrop ▸ P4⟩, hb4⟩
            case measure => simp [intOf]; omega
        · obtain rfl : q = k := by omega
          have P0 : PathAt wr w.heap.size [] cs2 := by have := P; rwa [hn.out, List.drop_length] at this
          have ht := take_none P0 0 (by simp)
          clear P P0 hlt hk
          go_wp2_with fail
          refine ht.mono ?_
          clear ht
          rintro e w2 ⟨rfl, rfl⟩
          go_wp2_with fail
          refine (alive_any _).mono ?_
          rintro e w3 ⟨rfl, hb3⟩
          go_wp2
          go_ret
          exact ⟨rfl, bt hbw1 hb3⟩

theorem pathFirst_walk (A : Option Addr) (ls : List (List UInt8)) (c : Nat) (w : World) (h1 : ls.length ≤ maxLen) (hls : ListAt w w.heap.size A ls) : Calls Try.prog 7 #[.slice A ls.length c] w fun e w' => e = .returned (.bool true) ∧ Below w.heap.size w w' := by
  by_cases hb : (200 : Int) < (ls.length : Int)
  · exact first_big A _ c w hb
  · exact first_all A ls _ c (Lib.hid rfl) w hls hb
end Go.Proofs.Ytkfmhkpmlncjgaa
