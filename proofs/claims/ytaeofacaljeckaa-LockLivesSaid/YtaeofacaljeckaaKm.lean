/- Layer 12: the law that no two clash. -/
import Derived.Test.YtaeofacaljeckaaKl
namespace Go.Proofs.Ytaeofacaljeckaa
open Go.RowKit Go.Maps
set_option linter.unusedVariables false
set_option linter.unusedSimpArgs false

def VHo (g b1 o1 n1 c1 ii b2 o2 n2 c2 k : Nat) (ow ky : Int) (hd al : Bool) (i : Nat) (v : Value) (w : World) : Prop :=
  match i with
  | 0 => v = .pointer (some ⟨g, 0, none⟩)
  | 1 => v = .slice (some ⟨b1, o1, none⟩) n1 c1
  | 2 => v = .int .i64 ii
  | 3 => v = .pointer (some ⟨b1, o1 + ii, none⟩)
  | 4 => v = .int .i64 ow
  | 5 => v = .slice (some ⟨b2, o2, none⟩) n2 c2
  | 6 => v = .int .i64 k
  | 7 => v = .pointer (some ⟨b2, o2 + k, none⟩)
  | 8 => v = .int .i64 ky
  | 9 => v = .tuple #[.bool hd, .bool al]
  | 10 => v = .tuple #[.bool hd, .bool al]
  | 11 => v = .bool hd
  | 12 => v = .bool al
  | 13 => v = .bool hd
  | 14 => v = .bool al
  | _ => True

theorem VHo.mono {g b1 o1 n1 c1 i b2 o2 n2 c2 k : Nat} {ow ky : Int} {hd al : Bool} {j : Nat} {v : Value} {u u' : World} (h : VHo g b1 o1 n1 c1 i b2 o2 n2 c2 k ow ky hd al j v u) : VHo g b1 o1 n1 c1 i b2 o2 n2 c2 k ow ky hd al j v u' := by
  unfold VHo at h ⊢
  split at h <;> exact h
theorem clash_never {L : List LRow} (h : NoClash L) {a b k : Int} (hab : a ≠ b) (h1 : heldL L k a = true) (h2 : aloneL L k a = true) : heldL L k b = false := by
  cases hb : heldL L k b with
  | false => rfl
  | true =>
    obtain ⟨x, hx, x1, x2, x3⟩ := alone_iff.1 h2
    obtain ⟨y, hy, y1, y2⟩ := held_iff.1 hb
    have := h x hx y hy (x1.trans y1.symm) (by rw [x2, y2]; exact hab)
    rw [x3] at this; exact this

set_option maxRecDepth 100000 in
set_option maxHeartbeats 4000000 in
theorem lockClash_walk (A : Option Addr) (ops : List OpV) (c : Nat) (A1 : Option Addr) (os : List Int) (c1 : Nat) (A2 : Option Addr) (ks : List Int) (c2 : Nat) (w : World) (h : OpsAt w A ops) (hA1 : IsAt w A1 os) (hl1 : os.length ≤ maxLen) (hA2 : IsAt w A2 ks) (hl2 : ks.length ≤ maxLen) :
    Calls Try.prog 5 #[.slice A ops.length c, .slice A1 os.length c1, .slice A2 ks.length c2] w fun e w' => e = .returned (.bool true) ∧ Below w.heap.size w w' := by
  have hplay := played_any A ops c w h
  have hnc := noClash_play ops
  generalize playL ops = L at hplay hnc
  generalize ops.length = n at hplay ⊢
  have Hplay := Lib.hid hplay
  have HNC := Lib.hid hnc
  clear hplay hnc h
  obtain ⟨n1, hn1⟩ : ∃ n1, n1 = os.length := ⟨_, rfl⟩
  obtain ⟨n2, hn2⟩ : ∃ n2, n2 = ks.length := ⟨_, rfl⟩
  rw [← hn1] at hl1 ⊢
  rw [← hn2] at hl2 ⊢
  have HA1 := Lib.hid hA1
  have HA2 := Lib.hid hA2
  have HN1 := Lib.hid hn1
  have HN2 := Lib.hid hn2
  unfold maxLen at hl1 hl2
  clear hA1 hA2 hn1 hn2
  go_enter Try.func5, Try.ntmps5
  go_wp2_with fail
  refine Hplay.out.mono ?_
  clear Hplay
  rintro e w1 ⟨rfl, t1, b1⟩
  go_wp2_with fail
  go_loopw [8] (fun i wr => ∃ j : Nat, j ≤ n1 ∧ j ≤ 8 ∧ i = .int .i64 j ∧ Tab wr w.heap.size L ∧ Below w.heap.size w wr) (fun i _ => 8 - (intOf i).toNat)
  case atStart => exact ⟨0, Nat.zero_le _, by omega, rfl, t1, b1⟩
  case round =>
    clear t1 b1
    obtain ⟨i, hi, hi8, rfl, t1, b1⟩ := hrel
    by_cases hin : i < n1 ∧ i < 8
    · have hiI : (i : Int) < (n1 : Int) := by omega
      have hi8I : (i : Int) < 8 := by omega
      obtain ⟨b1_, o1, rfl, hlt1, hc1⟩ := HA1.out.2 (by rw [← HN1.out]; omega)
      have Hc1 := Lib.hid hc1
      clear hc1
      go_wp2_with fail
      go_loopw [9] (fun i wr => ∃ j : Nat, j ≤ n1 ∧ j ≤ 8 ∧ i = .int .i64 j ∧ Tab wr w.heap.size L ∧ Below w.heap.size w wr) (fun i _ => 8 - (intOf i).toNat)
      case atStart => exact ⟨0, Nat.zero_le _, by omega, rfl, t1, b1⟩
      case round =>
        clear t1 b1
        obtain ⟨k, hk, hk8, rfl, t1, b1⟩ := hrel
        by_cases hkn : k < n1 ∧ k < 8
        · have hkI : (k : Int) < (n1 : Int) := by omega
          have hk8I : (k : Int) < 8 := by omega
          go_wp2_with fail
          go_loopw [10] (fun i wr => ∃ j : Nat, j ≤ n2 ∧ j ≤ 8 ∧ i = .int .i64 j ∧ Tab wr w.heap.size L ∧ Below w.heap.size w wr) (fun i _ => 8 - (intOf i).toNat)
          case atStart => exact ⟨0, Nat.zero_le _, by omega, rfl, t1, b1⟩
          case round =>
            clear t1 b1
            obtain ⟨m, hm, hm8, rfl, t1, b1⟩ := hrel
            by_cases hmn : m < n2 ∧ m < 8
            · have hmI : (m : Int) < (n2 : Int) := by omega
              have hm8I : (m : Int) < 8 := by omega
              obtain ⟨b2_, o2, rfl, hlt2, hc2⟩ := HA2.out.2 (by rw [← HN2.out]; omega)
              have qm := hc2 m (by rw [← HN2.out]; omega)
              have qi := Hc1.out i (by rw [← HN1.out]; omega)
              have qk := Hc1.out k (by rw [← HN1.out]; omega)
              have zi := HA1.out.1 (os[i]'(by rw [← HN1.out]; omega)) (List.getElem_mem _)
              have zk := HA1.out.1 (os[k]'(by rw [← HN1.out]; omega)) (List.getElem_mem _)
              have zm := HA2.out.1 (ks[m]'(by rw [← HN2.out]; omega)) (List.getElem_mem _)
              obtain ⟨oi, hoi⟩ : ∃ oi, oi = os[i]'(by rw [← HN1.out]; omega) := ⟨_, rfl⟩
              obtain ⟨ok, hok⟩ : ∃ ok, ok = os[k]'(by rw [← HN1.out]; omega) := ⟨_, rfl⟩
              obtain ⟨km, hkm⟩ : ∃ km, km = ks[m]'(by rw [← HN2.out]; omega) := ⟨_, rfl⟩
              rw [← hoi] at qi zi
              rw [← hok] at qk zk
              rw [← hkm] at qm zm
              have Qi := Lib.hid qi
              have Qk := Lib.hid qk
              have Qm := Lib.hid qm
              have hn := fun (hab : oi ≠ ok) => clash_never HNC.out (k := km) hab
              have Hhi := Lib.hid (fun w' (t : Tab w' w.heap.size L) => holds_any _ _ oi km w' t zm zi)
              have Hhk := Lib.hid (fun w' (t : Tab w' w.heap.size L) => holds_any _ _ ok km w' t zm zk)
              generalize heldL L km oi = hd1 at hn Hhi
              generalize aloneL L km oi = al1 at hn Hhi
              generalize heldL L km ok = hd2 at hn Hhk
              generalize aloneL L km ok = al2 at hn Hhk
              have Hn := Lib.hid hn
              clear hoi hok hkm hc2 qi qk qm zi zk zm hn
              go_wp2_with fail
              refine wp_region_invT (F := ?FJ) (V := VHo w.heap.size b1_ o1 n1 c1 i b2_ o2 n2 c2 m oi km hd1 al1) (dead := fun _ => none) (T := fun _ _ => True) (C := fun u => Below wr.heap.size wr u) (E := fun _ u u' => Below u.heap.size u u') (by kernel_rfl) (by kernel_rfl) (by kernel_rfl) (fun x => ?hFJ) ?hmonoJ ?hTmJ ?hTJ ?hCJ ?stepJ ?finJ
              case hFJ => simp only [mkA, Act.put, List.setIfInBounds_toArray, List.set_cons_succ, List.set_cons_zero, Nat.reduceAdd, Nat.zero_add]; first | with_reducible rfl | rfl
              case hmonoJ => exact fun q' i v u u' he hik hwt hdd hv => VHo.mono hv
              case hTmJ => exact fun _ _ _ _ _ _ _ _ => trivial
              case hTJ => exact fun j => trivial
              case hCJ => exact (Below.refl _ _).drew
              case stepJ =>
                refine AllOps.cons (fun x u hC hT hp K hK => ?_) ?_
                · clear hp hT
                  go_simp
                  refine hK _ _ _ hC (Below.refl _ _) (by exact rfl) ?_
                  first | (simp only [Act.put, List.setIfInBounds_toArray, List.set_cons_succ, List.set_cons_zero]; done) | simp [Act.put]
                refine AllOps.cons (fun x u hC hT hp K hK => ?_) ?_
                · clear hp hT
                  go_simp
                  refine hK _ _ _ hC (Below.refl _ _) (by exact rfl) ?_
                  first | (simp only [Act.put, List.setIfInBounds_toArray, List.set_cons_succ, List.set_cons_zero]; done) | simp [Act.put]
                refine AllOps.cons (fun x u hC hT hp K hK => ?_) ?_
                · clear hp hT
                  go_simp
                  refine hK _ _ _ hC (Below.refl _ _) (by exact rfl) ?_
                  first | (simp only [Act.put, List.setIfInBounds_toArray, List.set_cons_succ, List.set_cons_zero]; done) | simp [Act.put]
                refine AllOps.cons (fun x u hC hT hp K hK => ?_) ?_
                · simp [KnownTill, Region.binds, VHo] at hp
                  clear hT
                  go_simp
                  refine hK _ _ _ hC (Below.refl _ _) (by exact rfl) ?_
                  first | (simp only [Act.put, List.setIfInBounds_toArray, List.set_cons_succ, List.set_cons_zero, hp]; done) | simp [Act.put, hp]
                refine AllOps.cons (fun x u hC hT hp K hK => ?_) ?_
                · simp [KnownTill, Region.binds, VHo] at hp
                  clear hT
                  have qq := (hC.cell (p := ⟨b1_, o1 + i, none⟩) (Nat.lt_of_lt_of_le hlt1 b1.size)).trans ((b1.cell (p := ⟨b1_, o1 + i, none⟩) hlt1).trans Qi.out)
                  go_simp
                  refine hK _ _ _ hC (Below.refl _ _) (by exact rfl) ?_
                  first | (simp only [Act.put, List.setIfInBounds_toArray, List.set_cons_succ, List.set_cons_zero, hp]; done) | simp [Act.put, hp]
                refine AllOps.cons (fun x u hC hT hp K hK => ?_) ?_
                · clear hp hT
                  go_simp
                  refine hK _ _ _ hC (Below.refl _ _) (by exact rfl) ?_
                  first | (simp only [Act.put, List.setIfInBounds_toArray, List.set_cons_succ, List.set_cons_zero]; done) | simp [Act.put]
                refine AllOps.cons (fun x u hC hT hp K hK => ?_) ?_
                · clear hp hT
                  go_simp
                  refine hK _ _ _ hC (Below.refl _ _) (by exact rfl) ?_
                  first | (simp only [Act.put, List.setIfInBounds_toArray, List.set_cons_succ, List.set_cons_zero]; done) | simp [Act.put]
                refine AllOps.cons (fun x u hC hT hp K hK => ?_) ?_
                · simp [KnownTill, Region.binds, VHo] at hp
                  clear hT
                  go_simp
                  refine hK _ _ _ hC (Below.refl _ _) (by exact rfl) ?_
                  first | (simp only [Act.put, List.setIfInBounds_toArray, List.set_cons_succ, List.set_cons_zero, hp]; done) | simp [Act.put, hp]
                refine AllOps.cons (fun x u hC hT hp K hK => ?_) ?_
                · simp [KnownTill, Region.binds, VHo] at hp
                  clear hT
                  have qq := (hC.cell (p := ⟨b2_, o2 + m, none⟩) (Nat.lt_of_lt_of_le hlt2 b1.size)).trans ((b1.cell (p := ⟨b2_, o2 + m, none⟩) hlt2).trans Qm.out)
                  go_simp
                  refine hK _ _ _ hC (Below.refl _ _) (by exact rfl) ?_
                  first | (simp only [Act.put, List.setIfInBounds_toArray, List.set_cons_succ, List.set_cons_zero, hp]; done) | simp [Act.put, hp]
                refine AllOps.cons (fun x u hC hT hp K hK => ?_) ?_
                · simp [KnownTill, Region.binds, VHo] at hp
                  clear hT
                  go_simp
                  refine (Hhi.out u (t1.below hC)).mono ?_
                  rintro e wA ⟨rfl, hbA⟩
                  refine hK _ _ _ (bt hC hbA) hbA (by exact rfl) ?_
                  first | (simp only [Act.put, List.setIfInBounds_toArray, List.set_cons_succ, List.set_cons_zero, hp]; done) | simp [Act.put, hp]
                refine AllOps.cons (fun x u hC hT hp K hK => ?_) ?_
                · simp [KnownTill, Region.binds, VHo] at hp
                  clear hT
                  go_simp
                  refine hK _ _ _ hC (Below.refl _ _) (by exact rfl) ?_
                  first | (simp only [Act.put, List.setIfInBounds_toArray, List.set_cons_succ, List.set_cons_zero, hp]; done) | simp [Act.put, hp]
                refine AllOps.cons (fun x u hC hT hp K hK => ?_) ?_
                · simp [KnownTill, Region.binds, VHo] at hp
                  clear hT
                  go_simp
                  refine hK _ _ _ hC (Below.refl _ _) (by exact rfl) ?_
                  first | (simp only [Act.put, List.setIfInBounds_toArray, List.set_cons_succ, List.set_cons_zero, hp]; done) | simp [Act.put, hp]
                refine AllOps.cons (fun x u hC hT hp K hK => ?_) ?_
                · simp [KnownTill, Region.binds, VHo] at hp
                  clear hT
                  go_simp
                  refine hK _ _ _ hC (Below.refl _ _) (by exact rfl) ?_
                  first | (simp only [Act.put, List.setIfInBounds_toArray, List.set_cons_succ, List.set_cons_zero, hp]; done) | simp [Act.put, hp]
                refine AllOps.cons (fun x u hC hT hp K hK => ?_) ?_
                · simp [KnownTill, Region.binds, VHo] at hp
                  clear hT
                  go_simp
                  refine hK _ _ _ hC (Below.refl _ _) (by exact rfl) ?_
                  first | (simp only [Act.put, List.setIfInBounds_toArray, List.set_cons_succ, List.set_cons_zero, hp]; done) | simp [Act.put, hp]
                refine AllOps.cons (fun x u hC hT hp K hK => ?_) ?_
                · simp [KnownTill, Region.binds, VHo] at hp
                  clear hT
                  go_simp
                  refine hK _ _ _ hC (Below.refl _ _) (by exact rfl) ?_
                  first | (simp only [Act.put, List.setIfInBounds_toArray, List.set_cons_succ, List.set_cons_zero, hp]; done) | simp [Act.put, hp]
                exact AllOps.nil
              case finJ =>
                intro x uJ hC hV
                have tJ := t1.below hC
                have bJ : Below w.heap.size w uJ := bt b1 hC
                have e13 : x 13 = .bool hd1 := hV 13 (by decide) rfl
                have e14 : x 14 = .bool al1 := hV 14 (by decide) rfl
                rw [e13, e14]
                clear e13 e14
                clear hV
                go_wp2_with fail
                refine wp_region_invT (F := ?FK) (V := VHo w.heap.size b1_ o1 n1 c1 k b2_ o2 n2 c2 m ok km hd2 al2) (dead := fun _ => none) (T := fun _ _ => True) (C := fun u => Below uJ.heap.size uJ u) (E := fun _ u u' => Below u.heap.size u u') (by kernel_rfl) (by kernel_rfl) (by kernel_rfl) (fun x => ?hFK) ?hmonoK ?hTmK ?hTK ?hCK ?stepK ?finK
                case hFK => simp only [mkA, Act.put, List.setIfInBounds_toArray, List.set_cons_succ, List.set_cons_zero, Nat.reduceAdd, Nat.zero_add]; first | with_reducible rfl | rfl
                case hmonoK => exact fun q' i v u u' he hik hwt hdd hv => VHo.mono hv
                case hTmK => exact fun _ _ _ _ _ _ _ _ => trivial
                case hTK => exact fun j => trivial
                case hCK => exact (Below.refl _ _).drew
                case stepK =>
                  refine AllOps.cons (fun x u hC hT hp K hK => ?_) ?_
                  · clear hp hT
                    go_simp
                    refine hK _ _ _ hC (Below.refl _ _) (by exact rfl) ?_
                    first | (simp only [Act.put, List.setIfInBounds_toArray, List.set_cons_succ, List.set_cons_zero]; done) | simp [Act.put]
                  refine AllOps.cons (fun x u hC hT hp K hK => ?_) ?_
                  · clear hp hT
                    go_simp
                    refine hK _ _ _ hC (Below.refl _ _) (by exact rfl) ?_
                    first | (simp only [Act.put, List.setIfInBounds_toArray, List.set_cons_succ, List.set_cons_zero]; done) | simp [Act.put]
                  refine AllOps.cons (fun x u hC hT hp K hK => ?_) ?_
                  · clear hp hT
                    go_simp
                    refine hK _ _ _ hC (Below.refl _ _) (by exact rfl) ?_
                    first | (simp only [Act.put, List.setIfInBounds_toArray, List.set_cons_succ, List.set_cons_zero]; done) | simp [Act.put]
                  refine AllOps.cons (fun x u hC hT hp K hK => ?_) ?_
                  · simp [KnownTill, Region.binds, VHo] at hp
                    clear hT
                    go_simp
                    refine hK _ _ _ hC (Below.refl _ _) (by exact rfl) ?_
                    first | (simp only [Act.put, List.setIfInBounds_toArray, List.set_cons_succ, List.set_cons_zero, hp]; done) | simp [Act.put, hp]
                  refine AllOps.cons (fun x u hC hT hp K hK => ?_) ?_
                  · simp [KnownTill, Region.binds, VHo] at hp
                    clear hT
                    have qq := (hC.cell (p := ⟨b1_, o1 + k, none⟩) (Nat.lt_of_lt_of_le hlt1 bJ.size)).trans ((bJ.cell (p := ⟨b1_, o1 + k, none⟩) hlt1).trans Qk.out)
                    go_simp
                    refine hK _ _ _ hC (Below.refl _ _) (by exact rfl) ?_
                    first | (simp only [Act.put, List.setIfInBounds_toArray, List.set_cons_succ, List.set_cons_zero, hp]; done) | simp [Act.put, hp]
                  refine AllOps.cons (fun x u hC hT hp K hK => ?_) ?_
                  · clear hp hT
                    go_simp
                    refine hK _ _ _ hC (Below.refl _ _) (by exact rfl) ?_
                    first | (simp only [Act.put, List.setIfInBounds_toArray, List.set_cons_succ, List.set_cons_zero]; done) | simp [Act.put]
                  refine AllOps.cons (fun x u hC hT hp K hK => ?_) ?_
                  · clear hp hT
                    go_simp
                    refine hK _ _ _ hC (Below.refl _ _) (by exact rfl) ?_
                    first | (simp only [Act.put, List.setIfInBounds_toArray, List.set_cons_succ, List.set_cons_zero]; done) | simp [Act.put]
                  refine AllOps.cons (fun x u hC hT hp K hK => ?_) ?_
                  · simp [KnownTill, Region.binds, VHo] at hp
                    clear hT
                    go_simp
                    refine hK _ _ _ hC (Below.refl _ _) (by exact rfl) ?_
                    first | (simp only [Act.put, List.setIfInBounds_toArray, List.set_cons_succ, List.set_cons_zero, hp]; done) | simp [Act.put, hp]
                  refine AllOps.cons (fun x u hC hT hp K hK => ?_) ?_
                  · simp [KnownTill, Region.binds, VHo] at hp
                    clear hT
                    have qq := (hC.cell (p := ⟨b2_, o2 + m, none⟩) (Nat.lt_of_lt_of_le hlt2 bJ.size)).trans ((bJ.cell (p := ⟨b2_, o2 + m, none⟩) hlt2).trans Qm.out)
                    go_simp
                    refine hK _ _ _ hC (Below.refl _ _) (by exact rfl) ?_
                    first | (simp only [Act.put, List.setIfInBounds_toArray, List.set_cons_succ, List.set_cons_zero, hp]; done) | simp [Act.put, hp]
                  refine AllOps.cons (fun x u hC hT hp K hK => ?_) ?_
                  · simp [KnownTill, Region.binds, VHo] at hp
                    clear hT
                    go_simp
                    refine (Hhk.out u (tJ.below hC)).mono ?_
                    rintro e wA ⟨rfl, hbA⟩
                    refine hK _ _ _ (bt hC hbA) hbA (by exact rfl) ?_
                    first | (simp only [Act.put, List.setIfInBounds_toArray, List.set_cons_succ, List.set_cons_zero, hp]; done) | simp [Act.put, hp]
                  refine AllOps.cons (fun x u hC hT hp K hK => ?_) ?_
                  · simp [KnownTill, Region.binds, VHo] at hp
                    clear hT
                    go_simp
                    refine hK _ _ _ hC (Below.refl _ _) (by exact rfl) ?_
                    first | (simp only [Act.put, List.setIfInBounds_toArray, List.set_cons_succ, List.set_cons_zero, hp]; done) | simp [Act.put, hp]
                  refine AllOps.cons (fun x u hC hT hp K hK => ?_) ?_
                  · simp [KnownTill, Region.binds, VHo] at hp
                    clear hT
                    go_simp
                    refine hK _ _ _ hC (Below.refl _ _) (by exact rfl) ?_
                    first | (simp only [Act.put, List.setIfInBounds_toArray, List.set_cons_succ, List.set_cons_zero, hp]; done) | simp [Act.put, hp]
                  refine AllOps.cons (fun x u hC hT hp K hK => ?_) ?_
                  · simp [KnownTill, Region.binds, VHo] at hp
                    clear hT
                    go_simp
                    refine hK _ _ _ hC (Below.refl _ _) (by exact rfl) ?_
                    first | (simp only [Act.put, List.setIfInBounds_toArray, List.set_cons_succ, List.set_cons_zero, hp]; done) | simp [Act.put, hp]
                  refine AllOps.cons (fun x u hC hT hp K hK => ?_) ?_
                  · simp [KnownTill, Region.binds, VHo] at hp
                    clear hT
                    go_simp
                    refine hK _ _ _ hC (Below.refl _ _) (by exact rfl) ?_
                    first | (simp only [Act.put, List.setIfInBounds_toArray, List.set_cons_succ, List.set_cons_zero, hp]; done) | simp [Act.put, hp]
                  refine AllOps.cons (fun x u hC hT hp K hK => ?_) ?_
                  · simp [KnownTill, Region.binds, VHo] at hp
                    clear hT
                    go_simp
                    refine hK _ _ _ hC (Below.refl _ _) (by exact rfl) ?_
                    first | (simp only [Act.put, List.setIfInBounds_toArray, List.set_cons_succ, List.set_cons_zero, hp]; done) | simp [Act.put, hp]
                  exact AllOps.nil
                case finK =>
                  intro x u hC hV
                  have tK := tJ.below hC
                  have bK : Below w.heap.size w u := bt bJ hC
                  have e13 : x 13 = .bool hd2 := hV 13 (by decide) rfl
                  have e14 : x 14 = .bool al2 := hV 14 (by decide) rfl
                  rw [e13, e14]
                  clear e13 e14
                  clear hV hC
                  have q1 : ∀ m', (u.drewN m').cell? ⟨b1_, o1 + i, none⟩ = _ := fun m' => ((bK.cell (p := ⟨b1_, o1 + i, none⟩) hlt1).trans Qi.out)
                  have q2 : ∀ m', (u.drewN m').cell? ⟨b1_, o1 + k, none⟩ = _ := fun m' => ((bK.cell (p := ⟨b1_, o1 + k, none⟩) hlt1).trans Qk.out)
                  clear tJ bJ t1 b1 Qm Hhi Hhk HA1 HA2 HN1 HN2 HNC
                  by_cases hab : oi = ok
                  · subst hab
                    go_wp2_with fail
                    go_quiet (fail)
                    have bL : Below w.heap.size w (u.drewN nq) := ⟨bK.os, bK.tape, bK.output, bK.size, bK.block⟩
                    have tL : Tab (u.drewN nq) w.heap.size L := tK
                    go_wp2
                    go_roundw
                    case rel => exact ⟨m + 1, by omega, by omega, by go_num, tL, bL⟩
                    case measure => simp [intOf]; omega
                  · have hab2 : (oi != ok) = true := by simp [hab]
                    rcases hd1 with _ | _
                    · go_wp2_with fail
                      go_quiet (fail)
                      have bL : Below w.heap.size w (u.drewN nq) := ⟨bK.os, bK.tape, bK.output, bK.size, bK.block⟩
                      have tL : Tab (u.drewN nq) w.heap.size L := tK
                      go_wp2
                      go_roundw
                      case rel => exact ⟨m + 1, by omega, by omega, by go_num, tL, bL⟩
                      case measure => simp [intOf]; omega
                    · rcases al1 with _ | _
                      · go_wp2_with fail
                        go_quiet (fail)
                        have bL : Below w.heap.size w (u.drewN nq) := ⟨bK.os, bK.tape, bK.output, bK.size, bK.block⟩
                        have tL : Tab (u.drewN nq) w.heap.size L := tK
                        go_wp2
                        go_roundw
                        case rel => exact ⟨m + 1, by omega, by omega, by go_num, tL, bL⟩
                        case measure => simp [intOf]; omega
                      · obtain rfl : hd2 = false := Hn.out hab rfl rfl
                        go_wp2_with fail
                        go_quiet (fail)
                        have bL : Below w.heap.size w (u.drewN nq) := ⟨bK.os, bK.tape, bK.output, bK.size, bK.block⟩
                        have tL : Tab (u.drewN nq) w.heap.size L := tK
                        go_wp2
                        go_roundw
                        case rel => exact ⟨m + 1, by omega, by omega, by go_num, tL, bL⟩
                        case measure => simp [intOf]; omega
            · have hmI : (decide ((m : Int) < (n2 : Int)) && decide ((m : Int) < 8)) = false := by
                rw [Bool.and_eq_false_iff, decide_eq_false_iff_not, decide_eq_false_iff_not]; omega
              by_cases hmI2 : (m : Int) < (n2 : Int)
              · have hm8I : ¬ (m : Int) < 8 := by omega
                go_wp2
                go_roundw
                case rel => exact ⟨k + 1, by omega, by omega, by go_num, t1, b1⟩
                case measure => simp [intOf]; omega
              · go_wp2
                go_roundw
                case rel => exact ⟨k + 1, by omega, by omega, by go_num, t1, b1⟩
                case measure => simp [intOf]; omega
        · by_cases hkI2 : (k : Int) < (n1 : Int)
          · have hk8I : ¬ (k : Int) < 8 := by omega
            go_wp2
            go_roundw
            case rel => exact ⟨i + 1, by omega, by omega, by go_num, t1, b1⟩
            case measure => simp [intOf]; omega
          · go_wp2
            go_roundw
            case rel => exact ⟨i + 1, by omega, by omega, by go_num, t1, b1⟩
            case measure => simp [intOf]; omega
    · by_cases hiI2 : (i : Int) < (n1 : Int)
      · have hi8I : ¬ (i : Int) < 8 := by omega
        go_wp2_with fail
        refine (alive_any _).mono ?_
        rintro e w3 ⟨rfl, hb3⟩
        have b3 := bt b1 hb3
        go_wp2
        go_ret
        exact ⟨rfl, b3⟩
      · go_wp2_with fail
        refine (alive_any _).mono ?_
        rintro e w3 ⟨rfl, hb3⟩
        have b3 := bt b1 hb3
        go_wp2
        go_ret
        exact ⟨rfl, b3⟩
end Go.Proofs.Ytaeofacaljeckaa
