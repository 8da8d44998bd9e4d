/- Layer 1: equal lists of texts. -/
import Derived.Test.YtjeajglnoedkaaaJa
import Derived.Test.YtjeajglnoedkaaaInvT
namespace Go.Proofs.Ytjeajglnoedkaaa
open Go.RowKit
set_option linter.unusedVariables false
set_option linter.unusedSimpArgs false

theorem below_drew (w : World) : Below w.heap.size w w.drew := ⟨rfl, rfl, rfl, Nat.le_refl _, fun _ _ => rfl⟩
theorem conv_n (A : Option Addr) (l : List UInt8) (n c : Nat) (hn : Hid (n = l.length)) (w : World) (B : Nat) (h : Bs w B A l) : (convert 23 9 (.slice A n c)).run Try.prog w = .ok (.string ⟨l.toArray⟩) w := by
  rw [hn.out]; exact conv_bytes Try.underlying23 Try.underlying5 Try.underlying9 h _

def VCm (c9 c12 : Nat) (l : List UInt8) (b9 o9 b12 o12 n k : Nat) (Ai : Option Addr) (ci : Nat) (Aj : Option Addr) (cj : Nat) (i : Nat) (v : Value) (w : World) : Prop :=
  match i with
  | 0 => v = .slice (some ⟨b9, o9, none⟩) n c9
  | 1 => v = .int .i64 k
  | 2 => v = .pointer (some ⟨b9, o9 + k, none⟩)
  | 3 => v = .slice Ai l.length ci
  | 4 => v = .string ⟨l.toArray⟩
  | 5 => v = .slice (some ⟨b12, o12, none⟩) n c12
  | 6 => v = .int .i64 k
  | 7 => v = .pointer (some ⟨b12, o12 + k, none⟩)
  | 8 => v = .slice Aj l.length cj
  | 9 => v = .string ⟨l.toArray⟩
  | 10 => v = .bool false
  | _ => True
theorem VCm.mono {c9 c12 : Nat} {l : List UInt8} {b9 o9 b12 o12 n k : Nat} {Ai : Option Addr} {ci : Nat} {Aj : Option Addr} {cj : Nat} {i : Nat} {v : Value} {u u' : World} (hv : VCm c9 c12 l b9 o9 b12 o12 n k Ai ci Aj cj i v u) : VCm c9 c12 l b9 o9 b12 o12 n k Ai ci Aj cj i v u' := by
  unfold VCm at hv ⊢; split at hv <;> exact hv

set_option maxRecDepth 100000 in
set_option maxHeartbeats 4000000 in
theorem same_eq (A9 A12 : Option Addr) (ls : List (List UInt8)) (n9 c9 c12 : Nat) (hn : Hid (n9 = ls.length)) (w : World) (h9 : ListAt w w.heap.size A9 ls) (h12 : ListAt w w.heap.size A12 ls) (hm : n9 ≤ 1000000) : Calls Try.prog 22 #[.slice A9 n9 c9, .slice A12 n9 c12] w fun e w' => e = .returned (.bool true) ∧ Below w.heap.size w w' := by
  have HL9 := Lib.hid h9
  have HL12 := Lib.hid h12
  clear h9 h12
  go_enter Try.func22, Try.ntmps22
  go_wp2
  go_loopw [5] (fun i wr => ∃ q : Nat, q ≤ n9 ∧ i = .int .i64 q ∧ Below w.heap.size w wr) (fun i _ => n9 - (intOf i).toNat)
  case atStart => exact ⟨0, Nat.zero_le _, rfl, Below.refl _ _⟩
  case round =>
    obtain ⟨q, hq, rfl, hbq⟩ := hrel
    by_cases hql : q < n9
    · have hqk : q < ls.length := by rw [← hn.out]; exact hql
      obtain ⟨b9, o9, rfl, hb9, hc9⟩ := (HL9.out.bt hbq) (by omega)
      obtain ⟨b12, o12, rfl, hb12, hc12⟩ := (HL12.out.bt hbq) (by omega)
      obtain ⟨Ai, ci, hcl9, hbs9⟩ := hc9 q hqk
      obtain ⟨Aj, cj, hcl12, hbs12⟩ := hc12 q hqk
      obtain ⟨l, hl⟩ : ∃ l, l = ls[q] := ⟨_, rfl⟩
      rw [← hl] at hcl9 hbs9 hcl12 hbs12
      have hqI : (q : Int) < (n9 : Int) := by omega
      clear hl hc9 hc12
      go_wp2_with fail
      refine wp_region_invT (F := ?FS) (V := VCm c9 c12 l b9 o9 b12 o12 n9 q Ai ci Aj cj) (dead := fun _ => none) (T := fun _ _ => True) (C := fun u' => Below wr.heap.size wr u') (E := fun _ u u' => u' = u) (by kernel_rfl) (by kernel_rfl) (by kernel_rfl) (fun x => ?hFS) ?hmonoS ?hTmS ?hTS ?hCS ?stepS ?finS
      case hFS => simp only [mkA, Act.put, List.setIfInBounds_toArray, List.set_cons_succ, List.set_cons_zero, Nat.reduceAdd, Nat.zero_add]; first | with_reducible rfl | rfl
      case hmonoS => exact fun q2 j v u u' he hik hwt hdd hv => VCm.mono hv
      case hTmS => exact fun _ _ _ _ _ _ _ _ => trivial
      case hTS => exact fun j => trivial
      case hCS => exact below_drew _
      case stepS =>
        refine AllOps.cons (fun x u hC hT hp K hK => ?_) ?_
        · clear hp hT
          go_simp
          refine hK _ _ _ hC (by rfl) (by exact rfl) ?_
          first | (simp only [Act.put, List.setIfInBounds_toArray, List.set_cons_succ, List.set_cons_zero]; done) | simp [Act.put]
        refine AllOps.cons (fun x u hC hT hp K hK => ?_) ?_
        · clear hp hT
          go_simp
          refine hK _ _ _ hC (by rfl) (by exact rfl) ?_
          first | (simp only [Act.put, List.setIfInBounds_toArray, List.set_cons_succ, List.set_cons_zero]; done) | simp [Act.put]
        refine AllOps.cons (fun x u hC hT hp K hK => ?_) ?_
        · simp [KnownTill, Region.binds, VCm] at hp
          clear hT
          have hpp := hp
          go_simp
          refine hK _ _ _ hC (by rfl) (by exact rfl) ?_
          first | (simp only [Act.put, List.setIfInBounds_toArray, List.set_cons_succ, List.set_cons_zero, hpp]; done) | simp [Act.put, hpp]
        refine AllOps.cons (fun x u hC hT hp K hK => ?_) ?_
        · simp [KnownTill, Region.binds, VCm] at hp
          clear hT
          have cl : u.cell? ⟨b9, o9 + q, none⟩ = some (.slice Ai l.length ci) := (hC.cell (p := ⟨b9, o9 + q, none⟩) hb9).trans hcl9
          go_simp
          refine hK _ _ _ hC (by rfl) (by exact rfl) ?_
          first | (simp only [Act.put, List.setIfInBounds_toArray, List.set_cons_succ, List.set_cons_zero, hp]; done) | simp [Act.put, hp]
        refine AllOps.cons (fun x u hC hT hp K hK => ?_) ?_
        · simp [KnownTill, Region.binds, VCm] at hp
          clear hT
          have cv := conv_n Ai l l.length ci (Lib.hid rfl) u _ (hbs9.bt hC)
          go_simp
          refine hK _ _ _ hC (by rfl) (by exact rfl) ?_
          first | (simp only [Act.put, List.setIfInBounds_toArray, List.set_cons_succ, List.set_cons_zero, hp]; done) | simp [Act.put, hp]
        refine AllOps.cons (fun x u hC hT hp K hK => ?_) ?_
        · clear hp hT
          go_simp
          refine hK _ _ _ hC (by rfl) (by exact rfl) ?_
          first | (simp only [Act.put, List.setIfInBounds_toArray, List.set_cons_succ, List.set_cons_zero]; done) | simp [Act.put]
        refine AllOps.cons (fun x u hC hT hp K hK => ?_) ?_
        · clear hp hT
          go_simp
          refine hK _ _ _ hC (by rfl) (by exact rfl) ?_
          first | (simp only [Act.put, List.setIfInBounds_toArray, List.set_cons_succ, List.set_cons_zero]; done) | simp [Act.put]
        refine AllOps.cons (fun x u hC hT hp K hK => ?_) ?_
        · simp [KnownTill, Region.binds, VCm] at hp
          clear hT
          have hpp := hp
          go_simp
          refine hK _ _ _ hC (by rfl) (by exact rfl) ?_
          first | (simp only [Act.put, List.setIfInBounds_toArray, List.set_cons_succ, List.set_cons_zero, hpp]; done) | simp [Act.put, hpp]
        refine AllOps.cons (fun x u hC hT hp K hK => ?_) ?_
        · simp [KnownTill, Region.binds, VCm] at hp
          clear hT
          have cl : u.cell? ⟨b12, o12 + q, none⟩ = some (.slice Aj l.length cj) := (hC.cell (p := ⟨b12, o12 + q, none⟩) hb12).trans hcl12
          go_simp
          refine hK _ _ _ hC (by rfl) (by exact rfl) ?_
          first | (simp only [Act.put, List.setIfInBounds_toArray, List.set_cons_succ, List.set_cons_zero, hp]; done) | simp [Act.put, hp]
        refine AllOps.cons (fun x u hC hT hp K hK => ?_) ?_
        · simp [KnownTill, Region.binds, VCm] at hp
          clear hT
          have cv := conv_n Aj l l.length cj (Lib.hid rfl) u _ (hbs12.bt hC)
          go_simp
          refine hK _ _ _ hC (by rfl) (by exact rfl) ?_
          first | (simp only [Act.put, List.setIfInBounds_toArray, List.set_cons_succ, List.set_cons_zero, hp]; done) | simp [Act.put, hp]
        refine AllOps.cons (fun x u hC hT hp K hK => ?_) ?_
        · simp [KnownTill, Region.binds, VCm] at hp
          clear hT
          go_simp
          refine hK _ _ _ hC (by rfl) (by exact rfl) ?_
          first | (simp only [Act.put, List.setIfInBounds_toArray, List.set_cons_succ, List.set_cons_zero, hp]; done) | simp [Act.put, hp]
        exact AllOps.nil
      case finS =>
        intro x u hC hV
        have hz : x 10 = .bool false := hV 10 (by decide) rfl
        rw [hz]
        clear hV hz
        have hb4 := bt hbq hC
        clear hC
        go_wp2
        go_roundw
        case rel => exact ⟨q + 1, by omega, by go_num, hb4⟩
        case measure => simp [intOf]; omega
    · obtain rfl : q = n9 := by omega
      go_wp2
      go_ret
      exact ⟨rfl, hbq⟩
end Go.Proofs.Ytjeajglnoedkaaa
