/- Layer 3: a law's list, read. -/
import Derived.Test.YtflibdiafhkpoaaZh
import Derived.Test.YtflibdiafhkpoaaCopy
namespace Go.Proofs.Ytflibdiafhkpoaa
open Go.RowKit
set_option linter.unusedVariables false
set_option linter.unusedSimpArgs false

theorem Own.cap {w : World} {base : Nat} {e : TypeId} {A : Option Addr} {c : Nat} {l : List UInt8} (h : Own w base e A c l) : l.length ≤ c ∧ c ≤ 9223372036854775807 := by
  rcases h.2 with ⟨h1, h2⟩ | ⟨g, cap, cur, h1, hb, hg, hn, hm, _⟩
  · simp only [Value.slice.injEq] at h1
    obtain ⟨_, h3, rfl⟩ := h1
    omega
  · simp only [Value.slice.injEq] at h1
    obtain ⟨_, _, rfl⟩ := h1
    unfold maxLen at hm
    omega
theorem bs_takeA {w : World} {B : Nat} {A : Option Addr} {l : List UInt8} (h : Bs w B A l) (m : Nat) : Bs w B A (l.take m) := fun hp => by
  rw [List.length_take] at hp
  obtain ⟨b, o, e, h1, h2⟩ := h (by omega)
  refine ⟨b, o, e, h1, fun i hi => ?_⟩
  rw [List.length_take] at hi
  rw [List.getElem_take]
  exact h2 i (by omega)
def consV (vs : List RecV) : List (Int × List UInt8) := vs.map fun v => (v.id, v.l)
theorem consV_len (vs : List RecV) : (consV vs).length = vs.length := List.length_map _
theorem consV_get (vs : List RecV) (i : Nat) (h : i < vs.length) : (consV vs)[i]'(by rw [consV_len]; exact h) = ((vs[i]'h).id, (vs[i]'h).l) := by unfold consV; rw [List.getElem_map]
theorem RecVsAt.in_ {w : World} {A : Option Addr} {vs : List RecV} (h : RecVsAt w A vs) : RecsIn w w.heap.size A (consV vs) := fun hn => by
  rw [consV_len] at hn
  obtain ⟨b, o, e, h1, h2⟩ := h.2.2 hn
  refine ⟨b, o, e, h1, fun i hi => ?_⟩
  rw [consV_len] at hi
  rw [consV_get vs i hi]
  obtain ⟨h3, h4⟩ := h2 i hi
  exact ⟨h3, _, _, h4, (h.2.1 _ (List.getElem_mem hi)).bs⟩
theorem same_n (A1 A2 : Option Addr) (vs : List (Int × List UInt8)) (n1 n2 c1 c2 : Nat) (hn1 : Hid (n1 = vs.length)) (hn2 : Hid (n2 = vs.length)) (w : World) (hm : vs.length ≤ 9223372036854775807) (hl : ∀ x ∈ vs, x.2.length ≤ 9223372036854775807) (h1 : RecsIn w w.heap.size A1 vs) (h2 : RecsIn w w.heap.size A2 vs) :
    Calls Try.prog 17 #[.slice A1 n1 c1, .slice A2 n2 c2] w fun e w' => e = .returned (.bool true) ∧ Below w.heap.size w w' := by
  rw [hn1.out, hn2.out]
  refine (same_yes A1 A2 vs c1 c2 w hm hl h1 h2).mono ?_
  rintro e w' ⟨rfl, n, rfl⟩
  exact ⟨rfl, bl_drewN w n⟩

end Go.Proofs.Ytflibdiafhkpoaa
