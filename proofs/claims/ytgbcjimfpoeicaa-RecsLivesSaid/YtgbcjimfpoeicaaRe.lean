/- Layer 11: part, Get. -/
import Derived.Test.YtgbcjimfpoeicaaRd
import Derived.Test.YtgbcjimfpoeicaaInvT
namespace Go.Proofs.Ytgbcjimfpoeicaa
open Go.RowKit
set_option linter.unusedVariables false
set_option linter.unusedSimpArgs false

theorem kb_take {w : World} {A : Option Addr} {l : List UInt8} (h : KB w A l) (m : Nat) : Bs w w.heap.size A (l.take m) := fun hn => by
  rw [List.length_take] at hn
  obtain ⟨b, o, e, hb, _, hc⟩ := h (by omega)
  refine ⟨b, o, e, hb, fun i hi => ?_⟩
  rw [List.length_take] at hi
  rw [List.getElem_take]
  exact hc i (by omega)
theorem kb_drop {w : World} {b o : Nat} {l : List UInt8} (h : KB w (some ⟨b, o, none⟩) l) (m : Nat) : KB w (some ⟨b, o + m, none⟩) (l.drop m) := fun hn => by
  rw [List.length_drop] at hn
  obtain ⟨b', o', e, hb, hk, hc⟩ := h (by omega)
  simp only [Option.some.injEq, Addr.mk.injEq] at e
  obtain ⟨rfl, rfl, _⟩ := e
  refine ⟨b, o + m, rfl, hb, hk, fun i hi => ?_⟩
  rw [List.length_drop] at hi
  rw [List.getElem_drop, Nat.add_assoc]
  exact hc (m + i) (by omega)

def SlD (b o k m : Nat) (l : List UInt8) (v : Value) : Prop := ∃ A2 c2, v = .slice A2 m c2 ∧ (0 < (l.drop k).length → A2 = some ⟨b, o + k, none⟩) ∧ m ≤ c2 ∧ c2 ≤ 9223372036854775807 ∧ blk A2 = some b
def SlO (w : World) (s k : Nat) (l : List UInt8) (v : Value) : Prop := ∃ A1 c1, v = .slice A1 k c1 ∧ Own w s 5 A1 c1 (l.take k)
theorem SlO.bt {w w' : World} {s k : Nat} {l : List UInt8} {v : Value} (h : SlO w s k l v) (hb : Below w.heap.size w w') : SlO w' s k l v := by
  obtain ⟨A, c, h1, h2⟩ := h; exact ⟨A, c, h1, h2.below hb (Nat.le_refl _)⟩
def VRe (s b o n c k m : Nat) (l : List UInt8) (i : Nat) (v : Value) (w : World) : Prop :=
  match i with
  | 0 => v = .slice (some ⟨b, o, none⟩) n c
  | 1 => v = .int .i64 k
  | 2 => v = .slice (some ⟨b, o, none⟩) k c
  | 3 => SlO w s k l v
  | 4 => v = .slice (some ⟨b, o, none⟩) n c
  | 5 => v = .int .i64 k
  | 6 => SlD b o k m l v
  | 7 => SlO w s k l v
  | 8 => SlD b o k m l v
  | _ => True
theorem VRe.mono {s b o n c k m i : Nat} {l : List UInt8} {v : Value} {u u' : World} (hb : Below u.heap.size u u') (h : VRe s b o n c k m l i v u) : VRe s b o n c k m l i v u' := by
  unfold VRe at h ⊢
  split at h <;> first | with_reducible exact h | exact SlO.bt h hb
set_option maxHeartbeats 2000000 in
theorem part_any {w : World} {b o : Nat} {l : List UInt8} (h : KB w (some ⟨b, o, none⟩) l) (n c k : Nat) (hn : Hid (n = l.length)) (hm : Hid (l.length ≤ 65536)) (h1 : 1 ≤ k) (h2 : k ≤ n) (h3 : n ≤ c) (h4 : c ≤ 9223372036854775807) :
    Calls Try.prog 25 #[.slice (some ⟨b, o, none⟩) n c, .int .i64 k] w fun e w' => ∃ A1 c1 A2 c2, e = .returned (.tuple #[.slice A1 k c1, .slice A2 (n - k) c2]) ∧ Own w' w.heap.size 5 A1 c1 (l.take k) ∧ KB w' A2 (l.drop k) ∧ n - k ≤ c2 ∧ c2 ≤ 9223372036854775807 ∧ Below w.heap.size w w' ∧ blk A2 = some b := by
  have hcl := fun (cc : Nat) (u : World) (hu : Below w.heap.size w u) => sclone_any (some ⟨b, o, none⟩) (l.take k) k cc u (Lib.hid (by rw [List.length_take, ← hn.out]; omega)) (Lib.hid (by rw [List.length_take]; have := hm.out; omega)) (((kb_take h k).below hu).more hu.size)
  have Hcl := Lib.hid hcl
  have H := Lib.hid h
  clear hcl h
  have h5 : k ≤ c := by omega
  have i1 : (k : Int) ≤ (c : Int) := by omega
  have i2 : (k : Int) ≤ (n : Int) := by omega
  have i3 : (n : Int) ≤ (c : Int) := by omega
  have hlk : Hid (l.length - k = n - k) := Lib.hid (by rw [← hn.out])
  obtain ⟨m, hm0⟩ : ∃ m, m = n - k := ⟨_, rfl⟩
  go_enter Try.func25, Try.ntmps25
  go_wp2_with fail
  refine wp_region_invT (F := ?FA) (V := VRe w.heap.size b o n c k m l) (dead := fun _ => none) (T := fun _ _ => True) (C := fun u => Below w.heap.size w u) (E := fun _ u u' => Below u.heap.size u u') (by kernel_rfl) (by kernel_rfl) (by kernel_rfl) (fun x => ?hFA) ?hmonoA ?hTmA ?hTA ?hCA ?stepA ?finA
  case hFA => simp only [mkA, Act.put, List.setIfInBounds_toArray, List.set_cons_succ, List.set_cons_zero, Nat.reduceAdd, Nat.zero_add]; first | with_reducible rfl | rfl
  case hmonoA => exact fun q i v u u' he hik hwt hdd hv => VRe.mono he hv
  case hTmA => exact fun _ _ _ _ _ _ _ _ => trivial
  case hTA => exact fun j => trivial
  case hCA => exact (Below.refl _ _).drew
  case stepA =>
    refine AllOps.cons (fun x u hC hT hp K hK => ?_) ?_
    · clear hp hT
      go_simp
      refine hK _ _ _ hC (Below.refl _ _) (by exact rfl) ?_
      first | (simp only [Act.put, List.setIfInBounds_toArray, List.set_cons_succ, List.set_cons_zero]; done) | simp [Act.put]
    refine AllOps.cons (fun x u hC hT hp K hK => ?_) ?_
    · clear hp hT
      go_simp
      refine hK _ _ _ hC (Below.refl _ _) (by exact rfl) ?_
      first | (simp only [Act.put, List.setIfInBounds_toArray, List.set_cons_succ, List.set_cons_zero]; done) | simp [Act.put]
    refine AllOps.cons (fun x u hC hT hp K hK => ?_) ?_
    · simp [KnownTill, Region.binds, VRe] at hp
      clear hT
      go_simp
      refine hK _ _ _ hC (Below.refl _ _) (by exact rfl) ?_
      first | (simp only [Act.put, List.setIfInBounds_toArray, List.set_cons_succ, List.set_cons_zero, hp]; done) | simp [Act.put, hp]
    refine AllOps.cons (fun x u hC hT hp K hK => ?_) ?_
    · simp [KnownTill, Region.binds, VRe] at hp
      clear hT
      go_simp
      refine (Hcl.out _ _ hC).mono ?_
      rintro e wA ⟨A1, c1, rfl, own1, hbA⟩
      refine hK _ _ _ (Go.Proofs.Ytgbcjimfpoeicaa.bt hC hbA) hbA (by exact ⟨A1, c1, rfl, own1.base_le hC.size⟩) ?_
      first | (simp only [Act.put, List.setIfInBounds_toArray, List.set_cons_succ, List.set_cons_zero, hp]; done) | simp [Act.put, hp]
    refine AllOps.cons (fun x u hC hT hp K hK => ?_) ?_
    · clear hp hT
      go_simp
      refine hK _ _ _ hC (Below.refl _ _) (by exact rfl) ?_
      first | (simp only [Act.put, List.setIfInBounds_toArray, List.set_cons_succ, List.set_cons_zero]; done) | simp [Act.put]
    refine AllOps.cons (fun x u hC hT hp K hK => ?_) ?_
    · clear hp hT
      go_simp
      refine hK _ _ _ hC (Below.refl _ _) (by exact rfl) ?_
      first | (simp only [Act.put, List.setIfInBounds_toArray, List.set_cons_succ, List.set_cons_zero]; done) | simp [Act.put]
    refine AllOps.cons (fun x u hC hT hp K hK => ?_) ?_
    · simp [KnownTill, Region.binds, VRe] at hp
      clear hT
      go_simp
      refine hK (.slice (if c = k then some ⟨b, o, none⟩ else some ⟨b, o + k, none⟩) (n - k) (c - k)) _ _ hC (Below.refl _ _) ⟨_, c - k, by rw [hm0], fun hpos => if_neg (by rw [List.length_drop, hlk.out] at hpos; omega), by omega, by omega, by split <;> rfl⟩ ?_
      first | (simp only [Act.put, List.setIfInBounds_toArray, List.set_cons_succ, List.set_cons_zero, hp]; done) | simp [Act.put, hp]
    refine AllOps.cons (fun x u hC hT hp K hK => ?_) ?_
    · simp [KnownTill, Region.binds, VRe] at hp
      clear hT
      obtain ⟨⟨A1, c1, h7, own7⟩, hp⟩ := hp
      go_simp
      refine hK _ _ _ hC (Below.refl _ _) (by exact ⟨A1, c1, rfl, own7⟩) ?_
      first | (simp only [Act.put, List.setIfInBounds_toArray, List.set_cons_succ, List.set_cons_zero, hp, h7]; done) | simp [Act.put, hp, h7]
    refine AllOps.cons (fun x u hC hT hp K hK => ?_) ?_
    · simp [KnownTill, Region.binds, VRe] at hp
      clear hT
      have hd6 : SlD b o k m l (x 6) := by first | exact hp.1 | exact hp.2.1 | exact hp.2.2.1 | exact hp.2.2.2.1 | exact hp.2.2.2.2.1 | exact hp.2.2.2.2.2.1 | exact hp.2.2.2.2.2.2.1 | exact hp.2.2.2.2.2.2.2.1 | exact hp.2.2.2.2.2.2.2.2 | exact hp.2 | exact hp.2.2 | exact hp.2.2.2 | exact hp.2.2.2.2 | exact hp.2.2.2.2.2 | exact hp.2.2.2.2.2.2 | exact hp.2.2.2.2.2.2.2 | exact hp.2.2.2.2.2.2.2.2
      obtain ⟨A1, c1, h7, own7⟩ := hd6
      go_simp
      refine hK _ _ _ hC (Below.refl _ _) (by exact ⟨A1, c1, rfl, own7⟩) ?_
      first | (simp only [Act.put, List.setIfInBounds_toArray, List.set_cons_succ, List.set_cons_zero, hp, h7, hm0]; done) | simp [Act.put, hp, h7, hm0]
    exact AllOps.nil
  case finA =>
    intro x u hC hV
    obtain ⟨A1, c1, e7, own7⟩ : SlO u w.heap.size k l (x 7) := hV 7 (by decide) rfl
    obtain ⟨A2, c2, e8, hA2, q1, q2, hbk⟩ : SlD b o k m l (x 8) := hV 8 (by decide) rfl
    clear hV Hcl
    rw [e7, e8]
    go_wp2
    go_ret2
    refine ⟨A1, c1, A2, c2, by rw [hm0]; rfl, own7, ?_, by omega, q2, hC, hbk⟩
    intro hpos
    have hA := hA2 hpos
    subst hA
    exact (kb_drop H.out k).below hC hpos
end Go.Proofs.Ytgbcjimfpoeicaa
