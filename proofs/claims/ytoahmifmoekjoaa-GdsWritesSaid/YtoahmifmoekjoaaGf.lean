/- Layer 4: lists of variables in memory; the document's Same and One. -/
import Derived.Test.YtoahmifmoekjoaaGe
namespace Go.Proofs.Ytoahmifmoekjoaa
open Go.RowKit
set_option linter.unusedVariables false
set_option linter.unusedSimpArgs false

/-- The slice (A, n) holds the variables vs, in blocks below B. -/
def VarsAt (w : World) (B : Nat) (A : Option Addr) (vs : List (Int × List UInt8)) : Prop :=
  0 < vs.length → ∃ b o, A = some ⟨b, o, none⟩ ∧ b < B ∧ ∀ i, (h : i < vs.length) → ∃ Ai ci, w.cell? ⟨b, o + i * 2, none⟩ = some (.int .i64 (vs[i]'h).1) ∧ w.cell? ⟨b, o + i * 2 + 1, none⟩ = some (.slice Ai (vs[i]'h).2.length ci) ∧ Bs w B Ai (vs[i]'h).2
theorem VarsAt.nil {w : World} {B : Nat} {A : Option Addr} : VarsAt w B A [] := fun h => absurd h (by simp)
theorem VarsAt.keep {w w' : World} {B : Nat} {A : Option Addr} {vs : List (Int × List UInt8)} (h : VarsAt w B A vs) (hk : ∀ p : Addr, p.block < B → w'.cell? p = w.cell? p) : VarsAt w' B A vs := fun hn => by
  obtain ⟨b, o, e, hb, hc⟩ := h hn
  refine ⟨b, o, e, hb, fun i hi => ?_⟩
  obtain ⟨Ai, ci, h1, h2, h3⟩ := hc i hi
  exact ⟨Ai, ci, (hk _ hb).trans h1, (hk _ hb).trans h2, h3.keep hk⟩
theorem VarsAt.more {w : World} {B B' : Nat} {A : Option Addr} {vs : List (Int × List UInt8)} (h : VarsAt w B A vs) (hB : B ≤ B') : VarsAt w B' A vs := fun hn => by
  obtain ⟨b, o, e, hb, hc⟩ := h hn
  refine ⟨b, o, e, by omega, fun i hi => ?_⟩
  obtain ⟨Ai, ci, h1, h2, h3⟩ := hc i hi
  exact ⟨Ai, ci, h1, h2, h3.more hB⟩
theorem VarsAt.bt {w w' : World} {A : Option Addr} {vs : List (Int × List UInt8)} (h : VarsAt w w.heap.size A vs) (hb : Below w.heap.size w w') : VarsAt w' w'.heap.size A vs := (h.keep fun _ hp => hb.cell hp).more hb.size

set_option maxHeartbeats 1000000 in
theorem same_yes (A1 A2 : Option Addr) (vs : List (Int × List UInt8)) (c1 c2 : Nat) (w : World) (hm : vs.length ≤ 9223372036854775807) (hl : ∀ x ∈ vs, x.2.length ≤ 9223372036854775807) (h1 : VarsAt w w.heap.size A1 vs) (h2 : VarsAt w w.heap.size A2 vs) :
    Calls Try.prog 13 #[.slice A1 vs.length c1, .slice A2 vs.length c2] w fun e w' => e = .returned (.bool true) ∧ ∃ n, w' = w.drewN n := by
  go_enter Try.func13, Try.ntmps13
  go_wp2
  go_loopw [5] (fun i wr => ∃ k : Nat, k ≤ vs.length ∧ i = .int .i64 k ∧ ∃ n, wr = w.drewN n) (fun i _ => vs.length - (intOf i).toNat)
  case atStart => exact ⟨0, Nat.zero_le _, rfl, 0, rfl⟩
  case round =>
    obtain ⟨k, hk, rfl, n, rfl⟩ := hrel
    by_cases hlt : k < vs.length
    · obtain ⟨b1, o1, rfl, hb1, hc1⟩ := h1 (by omega)
      obtain ⟨b2, o2, rfl, hb2, hc2⟩ := h2 (by omega)
      obtain ⟨P1, p1, x1, y1, z1⟩ := hc1 k hlt
      obtain ⟨P2, p2, x2, y2, z2⟩ := hc2 k hlt
      clear hc1 hc2
      have hvl := hl _ (List.getElem_mem hlt)
      obtain ⟨v, hv⟩ : ∃ v, v = vs[k] := ⟨_, rfl⟩
      rw [← hv] at x1 y1 z1 x2 y2 z2 hvl
      clear hv
      obtain ⟨W, hW⟩ : ∃ W, W = w.drewN n := ⟨_, rfl⟩
      have X1 : W.cell? ⟨b1, o1 + k * 2, none⟩ = some (.int .i64 v.1) := by rw [hW]; exact x1
      have Y1 : W.cell? ⟨b1, o1 + k * 2 + 1, none⟩ = some (.slice P1 v.2.length p1) := by rw [hW]; exact y1
      have X2 : W.cell? ⟨b2, o2 + k * 2, none⟩ = some (.int .i64 v.1) := by rw [hW]; exact x2
      have Y2 : W.cell? ⟨b2, o2 + k * 2 + 1, none⟩ = some (.slice P2 v.2.length p2) := by rw [hW]; exact y2
      have Z1 : Bs W w.heap.size P1 v.2 := by rw [hW]; exact z1
      have Z2 : Bs W w.heap.size P2 v.2 := by rw [hW]; exact z2
      have cv1 : ∀ m, (convert 22 9 (.slice P1 v.2.length p1)).run Try.prog (W.drewN m) = .ok (.string ⟨v.2.toArray⟩) (W.drewN m) := fun m => conv_bytes Try.underlying22 Try.underlying5 Try.underlying9 (Z1.drewN m) p1
      have cv2 : ∀ m, (convert 22 9 (.slice P2 v.2.length p2)).run Try.prog (W.drewN m) = .ok (.string ⟨v.2.toArray⟩) (W.drewN m) := fun m => conv_bytes Try.underlying22 Try.underlying5 Try.underlying9 (Z2.drewN m) p2
      have HW := Lib.hid hW
      rw [← hW]
      clear hW x1 y1 x2 y2 z1 z2
      have hki : (k : Int) < (vs.length : Int) := by omega
      go_wp2
      go_quiet (fail)
      go_wp2
      go_roundw
      case rel => exact ⟨k + 1, by omega, by go_num, n + nq, by rw [HW.out]; simp [World.drewN, Nat.add_assoc]⟩
      case measure => simp [intOf]; omega
    · go_wp2
      go_ret
      exact ⟨rfl, n, rfl⟩

theorem Try.infoVar : (Try.prog.info? 24).map (fun i => (i.zero, i.size, i.bytes)) = some (some (.agg #[.int .i64 0, .slice none 0 0]), 2, 32) := by kernel_rfl

theorem cell_drew (W : World) (a : Addr) : W.drew.cell? a = W.cell? a := rfl
/-- One: a list of the one variable, in new memory; its bytes lie where they lay. -/
def OneOut (w : World) (id : Int) (A : Option Addr) (n c : Nat) (e : Ending) (w' : World) : Prop :=
  ∃ g c', e = .returned (.slice (some ⟨g, 0, none⟩) 1 c') ∧ w'.cell? ⟨g, 0, none⟩ = some (.int .i64 id) ∧ w'.cell? ⟨g, 1, none⟩ = some (.slice A n c) ∧ g < w'.heap.size ∧ Below w.heap.size w w'
theorem OneOut.vars {w w' : World} {id : Int} {A : Option Addr} {l : List UInt8} {c : Nat} {e : Ending} (h : OneOut w id A l.length c e w') (hb : Bs w w.heap.size A l) : ∃ A1 c1, e = .returned (.slice A1 1 c1) ∧ VarsAt w' w'.heap.size A1 [(id, l)] ∧ Below w.heap.size w w' := by
  obtain ⟨g, c', rfl, h1, h2, h3, h4⟩ := h
  refine ⟨_, _, rfl, fun _ => ⟨g, 0, rfl, h3, fun i hi => ?_⟩, h4⟩
  have : i = 0 := by simp at hi; omega
  subst this
  exact ⟨A, c, h1, h2, hb.bt h4⟩

set_option maxHeartbeats 1000000 in
theorem one_any (id : Int) (A : Option Addr) (n c : Nat) (w : World) : Calls Try.prog 14 #[.agg #[.int .i64 id, .slice A n c]] w (OneOut w id A n c) := by
  obtain ⟨i0, hi, hz0, hz1, hz2⟩ := info_parts Try.infoVar
  go_enter Try.func14, Try.ntmps14
  go_wp2_with fail
  go_ret
  refine ⟨w.heap.size + 1 + 1, _, rfl, ?_, ?_, by simp, (bt (bt (ba _ _) (ba _ _)) (ba _ _)).drew⟩
  · rw [cell_drew, World.cell?_alloc_at _ _ _ _ (by simp)]
    rw [Array.getElem?_append_left (by simp)]; rfl
  · rw [cell_drew, World.cell?_alloc_at _ _ _ _ (by simp)]
    rw [Array.getElem?_append_left (by simp)]; rfl
end Go.Proofs.Ytoahmifmoekjoaa
