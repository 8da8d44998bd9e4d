/- Layer 8: as many are on their way as were sent and doubled, less those that were taken. -/
import Derived.Test.YtkfmhkpmlncjgaaPj
namespace Go.Proofs.Ytkfmhkpmlncjgaa
open Go.RowKit
set_option linter.unusedVariables false
set_option linter.unusedSimpArgs false

def VTt (E I t : Int) (y : UInt8) (B g : Nat) (NEW END : World → Prop) (i : Nat) (v : Value) (w : World) : Prop :=
  match i with
  | 0 => v = .pointer (some ⟨g, 0, none⟩)
  | 1 => v = .pointer (some ⟨B, 1, none⟩)
  | 2 => v = .int .i64 I
  | 3 => v = .pointer (some ⟨B, 2, none⟩)
  | 4 => v = .int .i64 t
  | 5 => v = .pointer (some ⟨B, 4, none⟩)
  | 6 => v = .int .u8 (y.toNat : Int)
  | 7 => v = .int .i64 E ∧ NEW w
  | 8 => v = .pointer (some ⟨g, 0, none⟩)
  | 9 => v = .pointer (some ⟨B, 1, none⟩)
  | 10 => v = .int .i64 I
  | 11 => v = .pointer (some ⟨B, 2, none⟩)
  | 12 => v = .int .i64 t
  | 13 => v = .pointer (some ⟨B, 4, none⟩)
  | 14 => v = .int .u8 (y.toNat : Int)
  | 15 => v = .int .i64 E ∧ END w
  | 16 => v = .int .i64 E
  | 17 => v = .int .i64 E
  | _ => True
def ETt (ST1 END NEW : World → Prop) (k : Nat) (u u' : World) : Prop := match k with
  | 7 => ST1 u' ∧ NEW u'
  | 15 => END u' ∧ NEW u'
  | _ => u' = u
def TTt (OLD ST1 : World → Prop) (j : Nat) (u : World) : Prop := match j with
  | 7 => OLD u
  | 15 => OLD u ∨ ST1 u
  | _ => True
theorem VTt.mono {E I t : Int} {y : UInt8} {B g : Nat} {NEW END : World → Prop} {ST1 : World → Prop} {k j : Nat} {v : Value} {u u' : World} (he : ETt ST1 END NEW k u u') (hjk : j ≠ k) (h : j = 15 ∧ k = 7 → False) (hv : VTt E I t y B g NEW END j v u) : VTt E I t y B g NEW END j v u' := by
  unfold VTt at hv ⊢
  split at hv
  case h_8 =>
    refine ⟨hv.1, ?_⟩
    unfold ETt at he
    split at he
    · exact he.2
    · exact he.2
    · rw [he]; exact hv.2
  case h_16 =>
    refine ⟨hv.1, ?_⟩
    unfold ETt at he
    split at he
    · exact (h ⟨rfl, rfl⟩).elim
    · exact he.1
    · rw [he]; exact hv.2
  all_goals exact hv
theorem TTt.mono {OLD ST1 END NEW : World → Prop} {k j : Nat} {u u' : World} (he : ETt ST1 END NEW k u u') (hkj : k ≠ j) (h : j = 7 ∧ k = 15 → False) (hv : TTt OLD ST1 j u) : TTt OLD ST1 j u' := by
  unfold TTt at hv ⊢
  split at hv
  · unfold ETt at he
    split at he
    · exact (hkj rfl).elim
    · exact (h ⟨rfl, rfl⟩).elim
    · rw [he]; exact hv
  · unfold ETt at he
    split at he
    · exact .inr he.1
    · exact (hkj rfl).elim
    · rw [he]; exact hv
  · trivial

def VCm (c9 c12 : Nat) (l : List UInt8) (b9 o9 b12 o12 n k : Nat) (Ai : Option Addr) (ci : Nat) (Aj : Option Addr) (cj : Nat) (i : Nat) (v : Value) (w : World) : Prop :=
  match i with
  | 0 => v = .slice (some ⟨b9, o9, none⟩) n c9
  | 1 => v = .int .i64 k
  | 2 => v = .pointer (some ⟨b9, o9 + k, none⟩)
  | 3 => v = .slice Ai l.length ci
  | 4 => v = .string ⟨l.toArray⟩
  | 5 => v = .slice (some ⟨b12, o12, none⟩) n c12
  | 6 => v = .int .i64 k
  | 7 => v = .pointer (some ⟨b12, o12 + k, none⟩)
  | 8 => v = .slice Aj l.length cj
  | 9 => v = .string ⟨l.toArray⟩
  | 10 => v = .bool false
  | _ => True
theorem VCm.mono {c9 c12 : Nat} {l : List UInt8} {b9 o9 b12 o12 n k : Nat} {Ai : Option Addr} {ci : Nat} {Aj : Option Addr} {cj : Nat} {i : Nat} {v : Value} {u u' : World} (hv : VCm c9 c12 l b9 o9 b12 o12 n k Ai ci Aj cj i v u) : VCm c9 c12 l b9 o9 b12 o12 n k Ai ci Aj cj i v u' := by
  unfold VCm at hv ⊢; split at hv <;> exact hv

set_option maxRecDepth 100000 in
set_option maxHeartbeats 8000000 in
theorem counts_all (A : Option Addr) (ops : List OpV) (n c : Nat) (hn : Hid (n = ops.length)) (w : World) (hls : OpsAt w A ops) : Calls Try.prog 6 #[.slice A n c] w fun e w' => e = .returned (.bool true) ∧ Below w.heap.size w w' := by
  have HLS := Lib.hid hls
  have hmax : n ≤ maxLen := by rw [hn.out]; exact hls.1
  unfold maxLen at hmax
  clear hls
  go_enter Try.func6, Try.ntmps6
  go_wp2_with fail
  refine (new_any _).mono ?_
  intro e w1 hnew
  obtain ⟨cs, rfl, P1, hb1⟩ := PathAt.new hnew
  clear hnew
  go_wp2
  go_loopw [4, 5] (fun s i wr => ∃ (k : Nat) (ls : List (List UInt8)) (cs : Array Value) (m : Nat), k ≤ n ∧ k ≤ 300 ∧ i = .int .i64 k ∧ s = .int .i64 m ∧ Hid (m = ls.length) ∧ PathAt wr w.heap.size ls cs ∧ Below w.heap.size w wr) (fun s i _ => n - (intOf i).toNat)
  case atStart => exact ⟨0, [], cs, 0, Nat.zero_le _, by omega, rfl, rfl, Lib.hid rfl, P1, hb1⟩
  case round =>
    obtain ⟨k, ls, cs1, m, hk, hk1, rfl, rfl, HM, P, hbr⟩ := hrel
    clear P1 hb1
    have hm256 : (m : Int) ≤ 256 := by have := P.len; rw [HM.out]; omega
    by_cases hlt : k < n
    · by_cases hlt2 : k < 300
      · have hkl : k < ops.length := by rw [← hn.out]; exact hlt
        have hok0 := HLS.out.2.1 _ (List.getElem_mem hkl)
        obtain ⟨b, o, rfl, hblt, hcs⟩ := (HLS.out.below hbr).2.2 (by omega)
        obtain ⟨q0, q1, q2, q3, q4⟩ := hcs k hkl
        obtain ⟨op, hop⟩ : ∃ op, op = ops[k] := ⟨_, rfl⟩
        rw [← hop] at q0 q1 q2 q3 q4 hok0
        obtain ⟨K, I, t, Ab, bs, cb, y⟩ := op
        have hbs0 := hok0.bs
        simp only at q0 q1 q2 q3 q4 hbs0
        have hkI : (k : Int) < (n : Int) := by omega
        have hkI2 : (k : Int) < 300 := by omega
        have hba := ba wr (.cells #[.int .i64 K, .int .i64 I, .int .i64 t, .slice Ab bs.length cb, .int .u8 (y.toNat : Int)] 31)
        have P2 := P.bt hba
        have hb2 := bt hbr hba
        have hbs2 := hbs0.bt hb2
        have kb := Blk.new wr 31 #[.int .i64 K, .int .i64 I, .int .i64 t, .slice Ab bs.length cb, .int .u8 (y.toNat : Int)]
        have hwr : w.heap.size < wr.heap.size := P.blk.lt
        have hBg : some wr.heap.size ≠ some w.heap.size := fun e => by injection e with e; omega
        clear hop hcs hok0 P hbr hba hbs0
        by_cases hbig : (1000 : Int) < (bs.length : Int)
        · clear P2 kb
          go_wp2_with fail
          refine (alive_any _).mono ?_
          rintro e w3 ⟨rfl, hb3⟩
          go_wp2
          go_ret
          exact ⟨rfl, bt hb2 hb3⟩
        · rcases h0 : (K == 0) with _ | _
          · rcases h1 : (K == 1) with _ | _
            · rcases h2 : (K == 2) with _ | _
              · rcases h3 : (K == 3) with _ | _
                · rcases h4 : (K == 4) with _ | _
                  · clear kb
                    have hall := all_any P2
                    go_wp2_with fail
                    refine hall.mono ?_
                    clear hall
                    rintro e wz ⟨Az, cz, nz, rfl, hnz, hLz, hbz⟩
                    obtain rfl : nz = m := by rw [hnz.out]; exact HM.out.symm
                    have Pz := P2.bt hbz
                    have hbwz := bt hb2 hbz
                    have HMz := hnz
                    clear hLz hbz P2 hb2 hnz
                    go_wp2
                    go_roundw
                    case rel => exact ⟨k + 1, _, _, _, by omega, by omega, by go_num, rfl, HMz, Pz, hbwz⟩
                    case measure => simp [intOf]; omega
                  · have hd := clear_any P2
                    clear P2 kb
                    go_wp2_with fail
                    refine hd.mono ?_
                    clear hd
                    rintro e w3 ⟨rfl, ⟨cs3, P3⟩, hg3⟩
                    have hb3 := hb2.trans (below_of hg3 (Nat.le_refl _) hb2.size)
                    clear hg3 hb2
                    have hall := all_any P3
                    go_wp2_with fail
                    refine hall.mono ?_
                    clear hall
                    rintro e wz ⟨Az, cz, nz, rfl, hnz, hLz, hbz⟩
                    obtain rfl : nz = 0 := by rw [hnz.out]; rfl
                    have Pz := P3.bt hbz
                    have hbwz := bt hb3 hbz
                    have HMz := hnz
                    clear hLz hbz P3 hb3 hnz
                    go_wp2
                    go_roundw
                    case rel => exact ⟨k + 1, _, _, _, by omega, by omega, by go_num, rfl, HMz, Pz, hbwz⟩
                    case measure => simp [intOf]; omega
                · have hall := all_at P2
                  go_wp2_with fail
                  refine hall.mono ?_
                  clear hall
                  rintro e wa ⟨A9, c9, n9, rfl, hn9, hK9, hba⟩
                  have Pa := P2.bt hba
                  have hbwa := bt hb2 hba
                  have kba := kb.below hba kb.lt
                  obtain ⟨E, OLD, ST1, END, NEW, hold, h7, h15, hsel, hend⟩ := turns_any Pa I t y
                  clear Pa P2 kb hb2 hba hbs2 q0 q1 q2 q3 q4
                  go_wp2_with fail
                  refine wp_region_invU (F := ?FR) (V := VTt E I t y wr.heap.size w.heap.size NEW END) (dead := fun _ => none) (T := TTt OLD ST1) (C := fun u' => wa.grownBy u' (some w.heap.size)) (E := ETt ST1 END NEW) (by kernel_rfl) (by kernel_rfl) (by kernel_rfl) (fun x => ?hFR) ?hmonoR ?hTmR ?hTR ?hCR ?stepR ?finR
                  case hFR => simp only [mkA, Act.put, List.setIfInBounds_toArray, List.set_cons_succ, List.set_cons_zero, Nat.reduceAdd, Nat.zero_add]; first | with_reducible rfl | rfl
                  case hmonoR => exact fun q j v u u' he hik hwt hdd hv => VTt.mono he hik (fun h => ltf hwt (by rw [h.1, h.2]; kernel_rfl)) hv
                  case hTmR => exact fun q j u u' he hkj hwt hv => TTt.mono he hkj (fun h => ltf hwt (by rw [h.1, h.2]; kernel_rfl)) hv
                  case hTR => intro j; unfold TTt; split; exact hold; exact .inl hold; trivial
                  case hCR => exact grown_of (below_drew _) _
                  case stepR =>
                    refine AllOps.cons (fun x u hC hT hp K hK => ?_) ?_
                    · clear hp hT
                      go_simp
                      refine hK _ _ _ hC (by rfl) (by exact rfl) ?_
                      first | (simp only [Act.put, List.setIfInBounds_toArray, List.set_cons_succ, List.set_cons_zero]; done) | simp [Act.put]
                    refine AllOps.cons (fun x u hC hT hp K hK => ?_) ?_
                    · clear hp hT
                      go_simp
                      refine hK _ _ _ hC (by rfl) (by exact rfl) ?_
                      first | (simp only [Act.put, List.setIfInBounds_toArray, List.set_cons_succ, List.set_cons_zero]; done) | simp [Act.put]
                    refine AllOps.cons (fun x u hC hT hp K hK => ?_) ?_
                    · simp [KnownTill, Region.binds, VTt] at hp
                      clear hT
                      have cl : u.cell? ⟨wr.heap.size, 1, none⟩ = some (.int .i64 I) := (kba.kept hC hBg).cell 1
                      go_simp
                      refine hK _ _ _ hC (by rfl) (by exact rfl) ?_
                      first | (simp only [Act.put, List.setIfInBounds_toArray, List.set_cons_succ, List.set_cons_zero, hp]; done) | simp [Act.put, hp]
                    refine AllOps.cons (fun x u hC hT hp K hK => ?_) ?_
                    · clear hp hT
                      go_simp
                      refine hK _ _ _ hC (by rfl) (by exact rfl) ?_
                      first | (simp only [Act.put, List.setIfInBounds_toArray, List.set_cons_succ, List.set_cons_zero]; done) | simp [Act.put]
                    refine AllOps.cons (fun x u hC hT hp K hK => ?_) ?_
                    · simp [KnownTill, Region.binds, VTt] at hp
                      clear hT
                      have cl : u.cell? ⟨wr.heap.size, 2, none⟩ = some (.int .i64 t) := (kba.kept hC hBg).cell 2
                      go_simp
                      refine hK _ _ _ hC (by rfl) (by exact rfl) ?_
                      first | (simp only [Act.put, List.setIfInBounds_toArray, List.set_cons_succ, List.set_cons_zero, hp]; done) | simp [Act.put, hp]
                    refine AllOps.cons (fun x u hC hT hp K hK => ?_) ?_
                    · clear hp hT
                      go_simp
                      refine hK _ _ _ hC (by rfl) (by exact rfl) ?_
                      first | (simp only [Act.put, List.setIfInBounds_toArray, List.set_cons_succ, List.set_cons_zero]; done) | simp [Act.put]
                    refine AllOps.cons (fun x u hC hT hp K hK => ?_) ?_
                    · simp [KnownTill, Region.binds, VTt] at hp
                      clear hT
                      have cl : u.cell? ⟨wr.heap.size, 4, none⟩ = some (.int .u8 (y.toNat : Int)) := (kba.kept hC hBg).cell 4
                      go_simp
                      refine hK _ _ _ hC (by rfl) (by exact rfl) ?_
                      first | (simp only [Act.put, List.setIfInBounds_toArray, List.set_cons_succ, List.set_cons_zero, hp]; done) | simp [Act.put, hp]
                    refine AllOps.cons (fun x u hC hT hp K hK => ?_) ?_
                    · simp [KnownTill, Region.binds, VTt] at hp
                      go_simp
                      refine (h7 u hC hT).mono ?_
                      rintro e wA ⟨rfl, hS, hN, hg⟩
                      refine hK _ _ _ (grownBy_trans hC hg) ⟨hS, hN⟩ (by exact ⟨rfl, hN⟩) ?_
                      first | (simp only [Act.put, List.setIfInBounds_toArray, List.set_cons_succ, List.set_cons_zero, hp]; done) | simp [Act.put, hp]
                    refine AllOps.cons (fun x u hC hT hp K hK => ?_) ?_
                    · clear hp hT
                      go_simp
                      refine hK _ _ _ hC (by rfl) (by exact rfl) ?_
                      first | (simp only [Act.put, List.setIfInBounds_toArray, List.set_cons_succ, List.set_cons_zero]; done) | simp [Act.put]
                    refine AllOps.cons (fun x u hC hT hp K hK => ?_) ?_
                    · clear hp hT
                      go_simp
                      refine hK _ _ _ hC (by rfl) (by exact rfl) ?_
                      first | (simp only [Act.put, List.setIfInBounds_toArray, List.set_cons_succ, List.set_cons_zero]; done) | simp [Act.put]
                    refine AllOps.cons (fun x u hC hT hp K hK => ?_) ?_
                    · simp [KnownTill, Region.binds, VTt] at hp
                      clear hT
                      have cl : u.cell? ⟨wr.heap.size, 1, none⟩ = some (.int .i64 I) := (kba.kept hC hBg).cell 1
                      go_simp
                      refine hK _ _ _ hC (by rfl) (by exact rfl) ?_
                      first | (simp only [Act.put, List.setIfInBounds_toArray, List.set_cons_succ, List.set_cons_zero, hp]; done) | simp [Act.put, hp]
                    refine AllOps.cons (fun x u hC hT hp K hK => ?_) ?_
                    · clear hp hT
                      go_simp
                      refine hK _ _ _ hC (by rfl) (by exact rfl) ?_
                      first | (simp only [Act.put, List.setIfInBounds_toArray, List.set_cons_succ, List.set_cons_zero]; done) | simp [Act.put]
                    refine AllOps.cons (fun x u hC hT hp K hK => ?_) ?_
                    · simp [KnownTill, Region.binds, VTt] at hp
                      clear hT
                      have cl : u.cell? ⟨wr.heap.size, 2, none⟩ = some (.int .i64 t) := (kba.kept hC hBg).cell 2
                      go_simp
                      refine hK _ _ _ hC (by rfl) (by exact rfl) ?_
                      first | (simp only [Act.put, List.setIfInBounds_toArray, List.set_cons_succ, List.set_cons_zero, hp]; done) | simp [Act.put, hp]
                    refine AllOps.cons (fun x u hC hT hp K hK => ?_) ?_
                    · clear hp hT
                      go_simp
                      refine hK _ _ _ hC (by rfl) (by exact rfl) ?_
                      first | (simp only [Act.put, List.setIfInBounds_toArray, List.set_cons_succ, List.set_cons_zero]; done) | simp [Act.put]
                    refine AllOps.cons (fun x u hC hT hp K hK => ?_) ?_
                    · simp [KnownTill, Region.binds, VTt] at hp
                      clear hT
                      have cl : u.cell? ⟨wr.heap.size, 4, none⟩ = some (.int .u8 (y.toNat : Int)) := (kba.kept hC hBg).cell 4
                      go_simp
                      refine hK _ _ _ hC (by rfl) (by exact rfl) ?_
                      first | (simp only [Act.put, List.setIfInBounds_toArray, List.set_cons_succ, List.set_cons_zero, hp]; done) | simp [Act.put, hp]
                    refine AllOps.cons (fun x u hC hT hp K hK => ?_) ?_
                    · simp [KnownTill, Region.binds, VTt] at hp
                      have hN7 : NEW u := by first | exact hp.2.1 | exact hp.1.2 | simp_all
                      go_simp
                      refine (h15 u hC (hsel u hT hN7)).mono ?_
                      rintro e wA ⟨rfl, hS, hN, hg⟩
                      refine hK _ _ _ (grownBy_trans hC hg) ⟨hS, hN⟩ (by exact ⟨rfl, hS⟩) ?_
                      first | (simp only [Act.put, List.setIfInBounds_toArray, List.set_cons_succ, List.set_cons_zero, hp]; done) | simp [Act.put, hp]
                    refine AllOps.cons (fun x u hC hT hp K hK => ?_) ?_
                    · simp [KnownTill, Region.binds, VTt] at hp
                      clear hT
                      go_simp
                      refine hK _ _ _ hC (by rfl) (by exact rfl) ?_
                      first | (simp only [Act.put, List.setIfInBounds_toArray, List.set_cons_succ, List.set_cons_zero, hp]; done) | simp [Act.put, hp]
                    refine AllOps.cons (fun x u hC hT hp K hK => ?_) ?_
                    · simp [KnownTill, Region.binds, VTt] at hp
                      clear hT
                      go_simp
                      refine hK _ _ _ hC (by rfl) (by exact rfl) ?_
                      first | (simp only [Act.put, List.setIfInBounds_toArray, List.set_cons_succ, List.set_cons_zero, hp]; done) | simp [Act.put, hp]
                    exact AllOps.nil
                  case finR =>
                    intro x u hC hV
                    have h16 : x 16 = .int .i64 E := hV 16 (by decide) rfl
                    have h17 : x 17 = .int .i64 E := hV 17 (by decide) rfl
                    obtain ⟨cs5, P5⟩ := hend u (hV 15 (by decide) rfl).2
                    rw [h16, h17]
                    have hK5 := hK9.grown hC
                    have hb5 := hbwa.trans (below_of hC (Nat.le_refl _) hbwa.size)
                    have hall2 := all_any P5
                    clear hV h16 h17 hC hold h7 h15 hsel hend hK9 hbwa kba
                    go_wp2_with fail
                    refine hall2.mono ?_
                    clear hall2
                    rintro e wb ⟨A12, c12, n12, rfl, hn12, hL12, hb6⟩
                    obtain rfl : n12 = n9 := by rw [hn12.out, hn9.out]
                    have hEE : (E != E) = false := by simp
                    have P6 := P5.bt hb6
                    have hbw6 := bt hb5 hb6
                    have HL9 := Lib.hid (hK5.list.bt hb6)
                    have HL12 := Lib.hid hL12
                    have hn9m : (n12 : Int) ≤ 256 := by have := P6.len; rw [hn12.out]; omega
                    clear hK5 hL12 hb6 hb5 P5
                    go_wp2
                    go_loopw [13] (fun i wq => ∃ q : Nat, q ≤ n12 ∧ i = .int .i64 q ∧ Below wb.heap.size wb wq) (fun i _ => n12 - (intOf i).toNat)
                    case atStart => exact ⟨0, Nat.zero_le _, rfl, Below.refl _ _⟩
                    case round =>
                      obtain ⟨q, hq, rfl, hbq⟩ := hrel
                      by_cases hql : q < n12
                      · have hqk : q < ls.length := by rw [← hn12.out]; exact hql
                        obtain ⟨b9, o9, rfl, hb9, hc9⟩ := (HL9.out.bt hbq) (by omega)
                        obtain ⟨b12, o12, rfl, hb12, hc12⟩ := (HL12.out.bt hbq) (by omega)
                        obtain ⟨Ai, ci, hcl9, hbs9⟩ := hc9 q hqk
                        obtain ⟨Aj, cj, hcl12, hbs12⟩ := hc12 q hqk
                        obtain ⟨l, hl⟩ : ∃ l, l = ls[q] := ⟨_, rfl⟩
                        rw [← hl] at hcl9 hbs9 hcl12 hbs12
                        have hqI : (q : Int) < (n12 : Int) := by omega
                        clear hl hc9 hc12
                        go_wp2_with fail
                        refine wp_region_invT (F := ?FS) (V := VCm c9 c12 l b9 o9 b12 o12 n12 q Ai ci Aj cj) (dead := fun _ => none) (T := fun _ _ => True) (C := fun u' => Below wr.heap.size wr u') (E := fun _ u u' => u' = u) (by kernel_rfl) (by kernel_rfl) (by kernel_rfl) (fun x => ?hFS) ?hmonoS ?hTmS ?hTS ?hCS ?stepS ?finS
                        case hFS => simp only [mkA, Act.put, List.setIfInBounds_toArray, List.set_cons_succ, List.set_cons_zero, Nat.reduceAdd, Nat.zero_add]; first | with_reducible rfl | rfl
                        case hmonoS => exact fun q2 j v u u' he hik hwt hdd hv => VCm.mono hv
                        case hTmS => exact fun _ _ _ _ _ _ _ _ => trivial
                        case hTS => exact fun j => trivial
                        case hCS => exact below_drew _
                        case stepS =>
                          refine AllOps.cons (fun x u hC hT hp K hK => ?_) ?_
                          · clear hp hT
                            go_simp
                            refine hK _ _ _ hC (by rfl) (by exact rfl) ?_
                            first | (simp only [Act.put, List.setIfInBounds_toArray, List.set_cons_succ, List.set_cons_zero]; done) | simp [Act.put]
                          refine AllOps.cons (fun x u hC hT hp K hK => ?_) ?_
                          · clear hp hT
                            go_simp
                            refine hK _ _ _ hC (by rfl) (by exact rfl) ?_
                            first | (simp only [Act.put, List.setIfInBounds_toArray, List.set_cons_succ, List.set_cons_zero]; done) | simp [Act.put]
                          refine AllOps.cons (fun x u hC hT hp K hK => ?_) ?_
                          · simp [KnownTill, Region.binds, VCm] at hp
                            clear hT
                            have hpp := hp
                            go_simp
                            refine hK _ _ _ hC (by rfl) (by exact rfl) ?_
                            first | (simp only [Act.put, List.setIfInBounds_toArray, List.set_cons_succ, List.set_cons_zero, hpp]; done) | simp [Act.put, hpp]
                          refine AllOps.cons (fun x u hC hT hp K hK => ?_) ?_
                          · simp [KnownTill, Region.binds, VCm] at hp
                            clear hT
                            have cl : u.cell? ⟨b9, o9 + q, none⟩ = some (.slice Ai l.length ci) := (hC.cell (p := ⟨b9, o9 + q, none⟩) hb9).trans hcl9
                            go_simp
                            refine hK _ _ _ hC (by rfl) (by exact rfl) ?_
                            first | (simp only [Act.put, List.setIfInBounds_toArray, List.set_cons_succ, List.set_cons_zero, hp]; done) | simp [Act.put, hp]
                          refine AllOps.cons (fun x u hC hT hp K hK => ?_) ?_
                          · simp [KnownTill, Region.binds, VCm] at hp
                            clear hT
                            have cv := conv_n Ai l l.length ci (Lib.hid rfl) u _ (hbs9.bt hC)
                            go_simp
                            refine hK _ _ _ hC (by rfl) (by exact rfl) ?_
                            first | (simp only [Act.put, List.setIfInBounds_toArray, List.set_cons_succ, List.set_cons_zero, hp]; done) | simp [Act.put, hp]
                          refine AllOps.cons (fun x u hC hT hp K hK => ?_) ?_
                          · clear hp hT
                            go_simp
                            refine hK _ _ _ hC (by rfl) (by exact rfl) ?_
                            first | (simp only [Act.put, List.setIfInBounds_toArray, List.set_cons_succ, List.set_cons_zero]; done) | simp [Act.put]
                          refine AllOps.cons (fun x u hC hT hp K hK => ?_) ?_
                          · clear hp hT
                            go_simp
                            refine hK _ _ _ hC (by rfl) (by exact rfl) ?_
                            first | (simp only [Act.put, List.setIfInBounds_toArray, List.set_cons_succ, List.set_cons_zero]; done) | simp [Act.put]
                          refine AllOps.cons (fun x u hC hT hp K hK => ?_) ?_
                          · simp [KnownTill, Region.binds, VCm] at hp
                            clear hT
                            have hpp := hp
                            go_simp
                            refine hK _ _ _ hC (by rfl) (by exact rfl) ?_
                            first | (simp only [Act.put, List.setIfInBounds_toArray, List.set_cons_succ, List.set_cons_zero, hpp]; done) | simp [Act.put, hpp]
                          refine AllOps.cons (fun x u hC hT hp K hK => ?_) ?_
                          · simp [KnownTill, Region.binds, VCm] at hp
                            clear hT
                            have cl : u.cell? ⟨b12, o12 + q, none⟩ = some (.slice Aj l.length cj) := (hC.cell (p := ⟨b12, o12 + q, none⟩) hb12).trans hcl12
                            go_simp
                            refine hK _ _ _ hC (by rfl) (by exact rfl) ?_
                            first | (simp only [Act.put, List.setIfInBounds_toArray, List.set_cons_succ, List.set_cons_zero, hp]; done) | simp [Act.put, hp]
                          refine AllOps.cons (fun x u hC hT hp K hK => ?_) ?_
                          · simp [KnownTill, Region.binds, VCm] at hp
                            clear hT
                            have cv := conv_n Aj l l.length cj (Lib.hid rfl) u _ (hbs12.bt hC)
                            go_simp
                            refine hK _ _ _ hC (by rfl) (by exact rfl) ?_
                            first | (simp only [Act.put, List.setIfInBounds_toArray, List.set_cons_succ, List.set_cons_zero, hp]; done) | simp [Act.put, hp]
                          refine AllOps.cons (fun x u hC hT hp K hK => ?_) ?_
                          · simp [KnownTill, Region.binds, VCm] at hp
                            clear hT
                            go_simp
                            refine hK _ _ _ hC (by rfl) (by exact rfl) ?_
                            first | (simp only [Act.put, List.setIfInBounds_toArray, List.set_cons_succ, List.set_cons_zero, hp]; done) | simp [Act.put, hp]
                          exact AllOps.nil
                        case finS =>
                          intro x u hC hV
                          have hz : x 10 = .bool false := hV 10 (by decide) rfl
                          rw [hz]
                          clear hV hz
                          have hb4 := bt hbq hC
                          clear hC
                          go_wp2
                          go_roundw
                          case rel => exact ⟨q + 1, by omega, by go_num, hb4⟩
                          case measure => simp [intOf]; omega
                      · obtain rfl : q = n12 := by omega
                        have P7 := P6.bt hbq
                        have hb7 := bt hbw6 hbq
                        clear P6 hbq hbw6 hql
                        have hall := all_any P7
                        go_wp2_with fail
                        refine hall.mono ?_
                        clear hall
                        rintro e wz ⟨Az, cz, nz, rfl, hnz, hLz, hbz⟩
                        obtain rfl : nz = m := by rw [hnz.out]; exact HM.out.symm
                        have Pz := P7.bt hbz
                        have hbwz := bt hb7 hbz
                        have HMz := hnz
                        clear hLz hbz P7 hb7 hnz
                        go_wp2
                        go_roundw
                        case rel => exact ⟨k + 1, _, _, _, by omega, by omega, by go_num, rfl, HMz, Pz, hbwz⟩
                        case measure => simp [intOf]; omega
              · by_cases hI : 0 ≤ I ∧ I < ls.length
                · obtain ⟨j, rfl⟩ := Int.eq_ofNat_of_zero_le hI.1
                  have hj : j < ls.length := by omega
                  by_cases hf : ls.length = 256
                  · have hd := double_full P2 hf j hj
                    clear hI
                    go_wp2_with fail
                    refine hd.mono ?_
                    clear hd
                    rintro e w3 ⟨rfl, rfl⟩
                    have hall := all_any P2
                    go_wp2_with fail
                    refine hall.mono ?_
                    clear hall
                    rintro e wz ⟨Az, cz, nz, rfl, hnz, hLz, hbz⟩
                    obtain rfl : nz = m := by rw [hnz.out]; exact HM.out.symm
                    have Pz := P2.bt hbz
                    have hbwz := bt hb2 hbz
                    have HMz := hnz
                    clear hLz hbz P2 hb2 hnz
                    go_wp2
                    go_roundw
                    case rel => exact ⟨k + 1, _, _, _, by omega, by omega, by go_num, rfl, HMz, Pz, hbwz⟩
                    case measure => simp [intOf]; omega
                  · have hd := double_ok P2 (by have := P2.len; omega) j hj
                    have hm2 : (m : Int) + 1 ≤ 256 := by have := P2.len; rw [HM.out]; omega
                    clear hI P2
                    go_wp2_with fail
                    refine hd.mono ?_
                    clear hd
                    rintro e w3 ⟨rfl, ⟨cs3, P3⟩, hg3⟩
                    have hb3 := hb2.trans (below_of hg3 (Nat.le_refl _) hb2.size)
                    clear hg3 kb hb2
                    have hall := all_any P3
                    go_wp2_with fail
                    refine hall.mono ?_
                    clear hall
                    rintro e wz ⟨Az, cz, nz, rfl, hnz, hLz, hbz⟩
                    obtain rfl : nz = (m+1) := by rw [hnz.out, List.length_append, ← HM.out]; rfl
                    have Pz := P3.bt hbz
                    have hbwz := bt hb3 hbz
                    have HMz := hnz
                    clear hLz hbz P3 hb3 hnz
                    go_wp2
                    go_roundw
                    case rel => exact ⟨k + 1, _, _, _, by omega, by omega, by go_num, rfl, HMz, Pz, hbwz⟩
                    case measure => simp [intOf]; omega
                · have hd := double_none P2 I hI
                  clear hI
                  go_wp2_with fail
                  refine hd.mono ?_
                  clear hd
                  rintro e w3 ⟨rfl, rfl⟩
                  have hall := all_any P2
                  go_wp2_with fail
                  refine hall.mono ?_
                  clear hall
                  rintro e wz ⟨Az, cz, nz, rfl, hnz, hLz, hbz⟩
                  obtain rfl : nz = m := by rw [hnz.out]; exact HM.out.symm
                  have Pz := P2.bt hbz
                  have hbwz := bt hb2 hbz
                  have HMz := hnz
                  clear hLz hbz P2 hb2 hnz
                  go_wp2
                  go_roundw
                  case rel => exact ⟨k + 1, _, _, _, by omega, by omega, by go_num, rfl, HMz, Pz, hbwz⟩
                  case measure => simp [intOf]; omega
            · by_cases hI : 0 ≤ I ∧ I < ls.length
              · obtain ⟨j, rfl⟩ := Int.eq_ofNat_of_zero_le hI.1
                have hj : j < ls.length := by omega
                have ht : Calls Try.prog 13 #[.pointer (some ⟨w.heap.size, 0, none⟩), .int .i64 j] (wr.alloc (.cells #[.int .i64 K, .int .i64 (j : Nat), .int .i64 t, .slice Ab bs.length cb, .int .u8 (y.toNat : Int)] 31)) (TakeO (wr.alloc (.cells #[.int .i64 K, .int .i64 (j : Nat), .int .i64 t, .slice Ab bs.length cb, .int .u8 (y.toNat : Int)] 31)) w.heap.size ls[j] (ls.eraseIdx j)) := by
                  by_cases hlast : ls.length = j + 1
                  · exact take_last P2 j hj hlast
                  · exact take_mid P2 j hj (by omega)
                obtain ⟨m0, rfl⟩ : ∃ m0, m = m0 + 1 := ⟨m - 1, by have := HM.out; omega⟩
                have hm2 : (m0 : Int) ≤ 256 := by omega
                clear hI P2
                go_wp2_with fail
                refine ht.mono ?_
                clear ht
                rintro e w3 ⟨A6, c6, J6, rfl, hJ6, own6, ⟨cs3, P3⟩, hg3⟩
                have hb3 := hb2.trans (below_of hg3 (Nat.le_refl _) hb2.size)
                clear hg3 kb hb2 own6
                have hall := all_any P3
                go_wp2_with fail
                refine hall.mono ?_
                clear hall
                rintro e wz ⟨Az, cz, nz, rfl, hnz, hLz, hbz⟩
                obtain rfl : nz = m0 := by rw [hnz.out, List.length_eraseIdx_of_lt hj, ← HM.out]; rfl
                have Pz := P3.bt hbz
                have hbwz := bt hb3 hbz
                have HMz := hnz
                clear hLz hbz P3 hb3 hnz
                go_wp2
                go_roundw
                case rel => exact ⟨k + 1, _, _, _, by omega, by omega, by go_num, rfl, HMz, Pz, hbwz⟩
                case measure => simp [intOf]; omega
              · have hd := take_none P2 I hI
                clear hI
                go_wp2_with fail
                refine hd.mono ?_
                clear hd
                rintro e w3 ⟨rfl, rfl⟩
                have hall := all_any P2
                go_wp2_with fail
                refine hall.mono ?_
                clear hall
                rintro e wz ⟨Az, cz, nz, rfl, hnz, hLz, hbz⟩
                obtain rfl : nz = m := by rw [hnz.out]; exact HM.out.symm
                have Pz := P2.bt hbz
                have hbwz := bt hb2 hbz
                have HMz := hnz
                clear hLz hbz P2 hb2 hnz
                go_wp2
                go_roundw
                case rel => exact ⟨k + 1, _, _, _, by omega, by omega, by go_num, rfl, HMz, Pz, hbwz⟩
                case measure => simp [intOf]; omega
          · by_cases hlong : (512 : Int) < (bs.length : Int)
            · have hd := send_long w.heap.size Ab bs.length cb (wr.alloc (.cells #[.int .i64 K, .int .i64 I, .int .i64 t, .slice Ab bs.length cb, .int .u8 (y.toNat : Int)] 31)) (decide_eq_true hlong)
              go_wp2_with fail
              refine hd.mono ?_
              clear hd
              rintro e w3 ⟨rfl, rfl⟩
              have hall := all_any P2
              go_wp2_with fail
              refine hall.mono ?_
              clear hall
              rintro e wz ⟨Az, cz, nz, rfl, hnz, hLz, hbz⟩
              obtain rfl : nz = m := by rw [hnz.out]; exact HM.out.symm
              have Pz := P2.bt hbz
              have hbwz := bt hb2 hbz
              have HMz := hnz
              clear hLz hbz P2 hb2 hnz
              go_wp2
              go_roundw
              case rel => exact ⟨k + 1, _, _, _, by omega, by omega, by go_num, rfl, HMz, Pz, hbwz⟩
              case measure => simp [intOf]; omega
            · by_cases hf : ls.length = 256
              · have hd := send_full P2 hf Ab bs.length cb (decide_eq_false hlong)
                go_wp2_with fail
                refine hd.mono ?_
                clear hd
                rintro e w3 ⟨rfl, rfl⟩
                have hall := all_any P2
                go_wp2_with fail
                refine hall.mono ?_
                clear hall
                rintro e wz ⟨Az, cz, nz, rfl, hnz, hLz, hbz⟩
                obtain rfl : nz = m := by rw [hnz.out]; exact HM.out.symm
                have Pz := P2.bt hbz
                have hbwz := bt hb2 hbz
                have HMz := hnz
                clear hLz hbz P2 hb2 hnz
                go_wp2
                go_roundw
                case rel => exact ⟨k + 1, _, _, _, by omega, by omega, by go_num, rfl, HMz, Pz, hbwz⟩
                case measure => simp [intOf]; omega
              · have hd := send_ok P2 (by have := P2.len; omega) Ab bs bs.length cb (Lib.hid rfl) (decide_eq_false hlong) hbs2
                have hm2 : (m : Int) + 1 ≤ 256 := by have := P2.len; rw [HM.out]; omega
                clear P2
                go_wp2_with fail
                refine hd.mono ?_
                clear hd
                rintro e w3 ⟨rfl, ⟨cs3, P3⟩, hg3⟩
                have hb3 := hb2.trans (below_of hg3 (Nat.le_refl _) hb2.size)
                clear hg3 kb hb2 hbs2
                have hall := all_any P3
                go_wp2_with fail
                refine hall.mono ?_
                clear hall
                rintro e wz ⟨Az, cz, nz, rfl, hnz, hLz, hbz⟩
                obtain rfl : nz = (m+1) := by rw [hnz.out, List.length_append, ← HM.out]; rfl
                have Pz := P3.bt hbz
                have hbwz := bt hb3 hbz
                have HMz := hnz
                clear hLz hbz P3 hb3 hnz
                go_wp2
                go_roundw
                case rel => exact ⟨k + 1, _, _, _, by omega, by omega, by go_num, rfl, HMz, Pz, hbwz⟩
                case measure => simp [intOf]; omega
      · obtain rfl : k = 300 := by omega
        clear P
        go_wp2_with fail
        refine (alive_any _).mono ?_
        rintro e w4 ⟨rfl, hb4⟩
        go_wp2
        go_ret
        exact ⟨rfl, bt hbr hb4⟩
    · obtain rfl : k = n := by omega
      clear P
      go_wp2_with fail
      refine (alive_any _).mono ?_
      rintro e w4 ⟨rfl, hb4⟩
      go_wp2
      go_ret
      exact ⟨rfl, bt hbr hb4⟩
theorem pathCounts_walk (A : Option Addr) (ops : List OpV) (c : Nat) (w : World) (hls : OpsAt w A ops) : Calls Try.prog 6 #[.slice A ops.length c] w fun e w' => e = .returned (.bool true) ∧ Below w.heap.size w w' := counts_all A ops _ c (Lib.hid rfl) w hls
end Go.Proofs.Ytkfmhkpmlncjgaa
