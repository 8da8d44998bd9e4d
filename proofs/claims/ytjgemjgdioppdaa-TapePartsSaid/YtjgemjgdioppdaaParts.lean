/- The law on bytes that are put behind the others piece by piece. -/
import Derived.Test.YtjgemjgdioppdaaTwice
import Derived.Test.YtjgemjgdioppdaaInv
namespace Go.Proofs.Ytjgemjgdioppdaa
open Go.RowKit
set_option linter.unusedVariables false
set_option linter.unusedSimpArgs false

def VP (p q : Nat) (L : List UInt8) (f : Nat) (i : Nat) (v : Value) (w : World) : Prop :=
  match i with
  | 2 => v = .int .i64 0
  | 6 => v = .int .i64 0
  | 10 => v = .pointer (some ⟨p, 0, none⟩)
  | 11 => ∃ g, v = .slice (some ⟨g, 0, none⟩) L.length L.length ∧ Raw w g 5 L
  | 12 => v = .string ⟨L.toArray⟩
  | 13 => v = .pointer (some ⟨q, 0, none⟩)
  | 14 => ∃ g, v = .slice (some ⟨g, 0, none⟩) L.length L.length ∧ Raw w g 5 L
  | 15 => v = .string ⟨L.toArray⟩
  | 19 => v = .pointer (some ⟨p, 0, none⟩)
  | 20 => v = .int .i64 f
  | 21 => v = .pointer (some ⟨q, 0, none⟩)
  | 22 => v = .int .i64 f
  | _ => v = .bool true

set_option maxHeartbeats 4000000 in
theorem tapeParts_walk (room : Int) (A : Option Addr) (ops : List OpV) (c : Nat) (Aa : Option Addr) (a : List UInt8) (ca : Nat) (Ab : Option Addr) (b : List UInt8) (cb : Nat) (w : World) (r1 : -9223372036854775808 ≤ room) (r2 : room ≤ 9223372036854775807) (h : OpsAt w A ops)
    (ha : Bs w w.heap.size Aa a) (hal : a.length ≤ maxLen) (hb : Bs w w.heap.size Ab b) (hbl : b.length ≤ maxLen) :
    Calls Try.prog 8 #[.int .i64 room, .slice A ops.length c, .slice Aa a.length ca, .slice Ab b.length cb] w fun e w' => e = .returned (.bool true) ∧ Below w.heap.size w w' := by
  unfold maxLen at hal hbl
  go_enter Try.func8, Try.ntmps8
  go_wp2_with fail
  refine (played_any room A ops c _ h).mono ?_
  intro e1 w1 hp1
  cases e1 with
  | panicked _ => obtain ⟨_, ⟨_, h⟩ | ⟨_, _, _, _, h, _⟩⟩ := hp1 <;> cases h
  | outgrown => obtain ⟨_, ⟨_, h⟩ | ⟨_, _, _, _, h, _⟩⟩ := hp1 <;> cases h
  | returned v1 =>
  go_wp2_with fail
  refine (played_any room A ops c _ (h.below hp1.1)).mono ?_
  intro e2 w2 hp2
  obtain ⟨hb2, ⟨h1, rfl⟩ | ⟨p, q, l, f, h1, rfl, hp, hq, hne, hTp, hTq⟩⟩ := play_two hp1 hp2
  · cases h1
    clear hp1 hp2
    go_wp2_with fail
    refine (alive_any _).mono ?_
    rintro e wz ⟨rfl, hbz⟩
    go_wp2
    go_ret
    exact ⟨rfl, bt hb2 hbz⟩
  · cases h1
    clear hp1 hp2
    generalize room.toNat = n at hTp hTq
    by_cases hla : 1000 < a.length
    · skip
      go_wp2_with fail
      refine (alive_any _).mono ?_
      rintro e wz ⟨rfl, hbz⟩
      go_wp2
      go_ret
      exact ⟨rfl, bt hb2 hbz⟩
    by_cases hlb : 1000 < b.length
    · skip
      go_wp2_with fail
      refine (alive_any _).mono ?_
      rintro e wz ⟨rfl, hbz⟩
      go_wp2
      go_ret
      exact ⟨rfl, bt hb2 hbz⟩
    obtain ⟨i0, hi, hz0, hz1, hz2⟩ := info_parts Try.infoU8c
    have hba := ha.bt hb2
    have hbb := hb.bt hb2
    have hn2 := hTp.r2
    have hl1 := hTp.l1
    go_wp2_with (first
      | (at_builtin; refine wpList_append_nil _ rfl (.tmp 38) (.tmp 39) 30 rfl w2.heap.size 5 i0 _ Try.underlying30 hi hz0 hz1 hz2 rfl rfl w2.heap.size Aa ca a a.length rfl rfl hba (by omega) (Nat.le_refl _) ?_; intro A1 c1 w3 ho1 hb3)
      | (at_builtin; refine wpList_append_bs _ rfl (.tmp 41) (.tmp 42) 30 rfl w2.heap.size 5 i0 _ Try.underlying30 hi hz0 hz1 hz2 rfl A1 c1 a a.length rfl rfl ho1 w3.heap.size Ab cb b b.length rfl rfl (hbb.bt hb3) (by omega) hb3.size ?_; intro A2 c2 w4 ho2 hg4 _)
      | fail)
    have hB4 : Below w2.heap.size w2 w4 := RowKit.Below.trans hb3 (ho1.grown hg4 hb3.size)
    have hb4 := bt hb2 hB4
    have hp4 := hTp.below hB4
    have hq4 := hTq.below hB4
    have hall := ho2.bs
    clear hg4 hB4 ho1 hb3 ho2 hba hbb hTp hTq hb2 hz0 hz1 hz2 hi
    have hc := tapeAppend p n l f A2 (a ++ b) c2 w4 hp4 hall (by simp; omega)
    rw [List.length_append] at hc
    by_cases hfull : n < l.length + (a.length + b.length)
    · rw [if_pos hfull] at hc
      go_wp2_with fail
      refine hc.mono ?_
      clear hc
      rintro e w5 h5
      have hb5 := h5.below hb4 hp
      obtain ⟨rfl, hp5, hg5, _⟩ := h5
      have hq5 := hq4.other hg5 (fun _ => trivial) (Ne.symm hne) hp4.blk
      clear hg5 hq4 hp4 hb4 hp5 hall
      have hc := tapeAppend q n l f Aa a ca w5 hq5 (ha.bt hb5) (by omega)
      by_cases hfa : n < l.length + a.length
      · rw [if_pos hfa] at hc
        go_wp2_with fail
        refine hc.mono ?_
        clear hc
        rintro e w6 h6
        have hb6 := h6.below hb5 hq
        obtain ⟨rfl, hq6', _⟩ := h6
        have hq6 : TapeAt w6 q n l f := hq6'
        clear hq5 hb5 hq6'
        have hc := tapeAppend q n l f Ab b cb w6 hq6 (hb.bt hb6) (by omega)
        generalize (if n < l.length + b.length then ((5 : Int), l, f) else (0, l ++ b, f)) = R at hc
        go_wp2_with fail
        refine hc.mono ?_
        clear hc
        rintro e w7 h7
        have hb7 := h7.below hb6 hq
        obtain ⟨rfl, _⟩ := h7
        go_wp2_with fail
        refine (alive_any _).mono ?_
        rintro e wz ⟨rfl, hbz⟩
        go_wp2
        go_ret
        exact ⟨rfl, bt hb7 hbz⟩
      · rw [if_neg hfa] at hc
        go_wp2_with fail
        refine hc.mono ?_
        clear hc
        rintro e w6 h6
        have hb6 := h6.below hb5 hq
        obtain ⟨rfl, hq6', _⟩ := h6
        have hq6 : TapeAt w6 q n (l ++ a) f := hq6'
        clear hq5 hb5 hq6'
        have hc := tapeAppend q n (l ++ a) f Ab b cb w6 hq6 (hb.bt hb6) (by omega)
        rw [if_pos (by simp; omega)] at hc
        go_wp2_with fail
        refine hc.mono ?_
        clear hc
        rintro e w7 h7
        have hb7 := h7.below hb6 hq
        obtain ⟨rfl, _⟩ := h7
        go_wp2_with fail
        refine (alive_any _).mono ?_
        rintro e wz ⟨rfl, hbz⟩
        go_wp2
        go_ret
        exact ⟨rfl, bt hb7 hbz⟩
    · rw [if_neg hfull] at hc
      go_wp2_with fail
      refine hc.mono ?_
      clear hc
      rintro e w5 h5
      have hb5 := h5.below hb4 hp
      obtain ⟨rfl, hp5', hg5, _⟩ := h5
      have hp5 : TapeAt w5 p n (l ++ (a ++ b)) f := hp5'
      have hq5 := hq4.other hg5 (fun _ => trivial) (Ne.symm hne) hp4.blk
      clear hg5 hq4 hp4 hb4 hp5' hall
      have hc := tapeAppend q n l f Aa a ca w5 hq5 (ha.bt hb5) (by omega)
      rw [if_neg (by omega)] at hc
      go_wp2_with fail
      refine hc.mono ?_
      clear hc
      rintro e w6 h6
      have hb6 := h6.below hb5 hq
      obtain ⟨rfl, hq6', hg6, _⟩ := h6
      have hq6 : TapeAt w6 q n (l ++ a) f := hq6'
      have hp6 := hp5.other hg6 (fun _ => trivial) hne hq5.blk
      clear hg6 hp5 hb5 hq6' hq5
      have hc := tapeAppend q n (l ++ a) f Ab b cb w6 hq6 (hb.bt hb6) (by omega)
      rw [if_neg (by simp; omega)] at hc
      go_wp2_with fail
      refine hc.mono ?_
      clear hc
      rintro e w7 h7
      have hb7 := h7.below hb6 hq
      obtain ⟨rfl, hQ', hg7, _⟩ := h7
      have hQ : TapeAt w7 q n (l ++ a ++ b) f := hQ'
      have hP := hp6.other hg7 (fun _ => trivial) hne hq6.blk
      rw [List.append_assoc] at hQ
      clear hg7 hp6 hq6 hb6 hQ'
      generalize l ++ (a ++ b) = L at hP hQ
      go_wp2_with fail
      refine wp_region_inv (F := ?F) (V := VP p q L f) (C := fun u => Below w7.heap.size w7 u) (E := fun u u' => Below u.heap.size u u') (by kernel_rfl) (by kernel_rfl) (by kernel_rfl) (fun x => ?hF) ?hmono ?hC ?step ?fin
      case hF => simp only [mkA, Act.put, List.setIfInBounds_toArray, List.set_cons_succ, List.set_cons_zero, Nat.reduceAdd, Nat.zero_add]; with_reducible rfl
      case hmono =>
        intro i v u u' he hv
        unfold VP at hv ⊢
        split at hv <;> first | exact hv | (obtain ⟨g, e, hr⟩ := hv; exact ⟨g, e, hr.bt he⟩) | (obtain ⟨A, c, e, hr⟩ := hv; exact ⟨A, c, e, hr.bt he⟩)
      case hC => exact gr_drew _
      case step =>
        refine AllOps.cons (fun x u hC hp K hK => ?_) ?_
        · clear hp
          go_simp
          refine (alive_any _).mono ?_
          rintro e wA ⟨rfl, hbA⟩
          refine hK _ _ _ (bt hC hbA) hbA rfl ?_
          simp only [Act.put, List.setIfInBounds_toArray, List.set_cons_succ, List.set_cons_zero]
        refine AllOps.cons (fun x u hC hp K hK => ?_) ?_
        · simp [Known, Region.binds, VP] at hp
          go_simp
          refine hK _ _ _ hC (Below.refl _ _) (by exact rfl) ?_
          simp only [Act.put, List.setIfInBounds_toArray, List.set_cons_succ, List.set_cons_zero, hp]
        refine AllOps.cons (fun x u hC hp K hK => ?_) ?_
        · simp [Known, Region.binds, VP] at hp
          go_simp
          refine hK _ _ _ hC (Below.refl _ _) (by exact rfl) ?_
          simp only [Act.put, List.setIfInBounds_toArray, List.set_cons_succ, List.set_cons_zero, hp]
        refine AllOps.cons (fun x u hC hp K hK => ?_) ?_
        · simp [Known, Region.binds, VP] at hp
          go_simp
          refine hK _ _ _ hC (Below.refl _ _) (by exact rfl) ?_
          simp only [Act.put, List.setIfInBounds_toArray, List.set_cons_succ, List.set_cons_zero, hp]
        refine AllOps.cons (fun x u hC hp K hK => ?_) ?_
        · simp [Known, Region.binds, VP] at hp
          go_simp
          refine hK _ _ _ hC (Below.refl _ _) (by exact rfl) ?_
          simp only [Act.put, List.setIfInBounds_toArray, List.set_cons_succ, List.set_cons_zero, hp]
        refine AllOps.cons (fun x u hC hp K hK => ?_) ?_
        · simp [Known, Region.binds, VP] at hp
          go_simp
          refine hK _ _ _ hC (Below.refl _ _) (by exact rfl) ?_
          simp only [Act.put, List.setIfInBounds_toArray, List.set_cons_succ, List.set_cons_zero, hp]
        refine AllOps.cons (fun x u hC hp K hK => ?_) ?_
        · simp [Known, Region.binds, VP] at hp
          go_simp
          refine hK _ _ _ hC (Below.refl _ _) (by exact rfl) ?_
          simp only [Act.put, List.setIfInBounds_toArray, List.set_cons_succ, List.set_cons_zero, hp]
        refine AllOps.cons (fun x u hC hp K hK => ?_) ?_
        · simp [Known, Region.binds, VP] at hp
          go_simp
          refine hK _ _ _ hC (Below.refl _ _) (by exact rfl) ?_
          simp only [Act.put, List.setIfInBounds_toArray, List.set_cons_succ, List.set_cons_zero, hp]
        refine AllOps.cons (fun x u hC hp K hK => ?_) ?_
        · simp [Known, Region.binds, VP] at hp
          go_simp
          refine hK _ _ _ hC (Below.refl _ _) (by exact rfl) ?_
          simp only [Act.put, List.setIfInBounds_toArray, List.set_cons_succ, List.set_cons_zero, hp]
        refine AllOps.cons (fun x u hC hp K hK => ?_) ?_
        · simp [Known, Region.binds, VP] at hp
          go_simp
          refine hK _ _ _ hC (Below.refl _ _) (by exact rfl) ?_
          simp only [Act.put, List.setIfInBounds_toArray, List.set_cons_succ, List.set_cons_zero, hp]
        refine AllOps.cons (fun x u hC hp K hK => ?_) ?_
        · simp [Known, Region.binds, VP] at hp
          go_simp
          refine hK _ _ _ hC (Below.refl _ _) (by exact rfl) ?_
          simp only [Act.put, List.setIfInBounds_toArray, List.set_cons_succ, List.set_cons_zero, hp]
        refine AllOps.cons (fun x u hC hp K hK => ?_) ?_
        · simp [Known, Region.binds, VP] at hp
          go_simp
          refine (tapeBytes _ _ _ _ _ (hP.below hC)).mono ?_
          rintro e wA ⟨rfl, hrA, hbA⟩
          refine hK _ _ _ (bt hC hbA) hbA ⟨_, rfl, hrA⟩ ?_
          simp only [Act.put, List.setIfInBounds_toArray, List.set_cons_succ, List.set_cons_zero, hp]
        refine AllOps.cons (fun x u hC hp K hK => ?_) ?_
        · simp [Known, Region.binds, VP] at hp
          obtain ⟨⟨g, hx, hr⟩, hp⟩ := hp
          have cv := raw_cv hr
          go_simp
          refine hK _ _ _ hC (Below.refl _ _) (by exact rfl) ?_
          simp only [Act.put, List.setIfInBounds_toArray, List.set_cons_succ, List.set_cons_zero, hp, hx]
        refine AllOps.cons (fun x u hC hp K hK => ?_) ?_
        · simp [Known, Region.binds, VP] at hp
          go_simp
          refine hK _ _ _ hC (Below.refl _ _) (by exact rfl) ?_
          simp only [Act.put, List.setIfInBounds_toArray, List.set_cons_succ, List.set_cons_zero, hp]
        refine AllOps.cons (fun x u hC hp K hK => ?_) ?_
        · simp [Known, Region.binds, VP] at hp
          go_simp
          refine (tapeBytes _ _ _ _ _ (hQ.below hC)).mono ?_
          rintro e wA ⟨rfl, hrA, hbA⟩
          refine hK _ _ _ (bt hC hbA) hbA ⟨_, rfl, hrA⟩ ?_
          simp only [Act.put, List.setIfInBounds_toArray, List.set_cons_succ, List.set_cons_zero, hp]
        refine AllOps.cons (fun x u hC hp K hK => ?_) ?_
        · simp [Known, Region.binds, VP] at hp
          obtain ⟨⟨g, hx, hr⟩, hp⟩ := hp
          have cv := raw_cv hr
          go_simp
          refine hK _ _ _ hC (Below.refl _ _) (by exact rfl) ?_
          simp only [Act.put, List.setIfInBounds_toArray, List.set_cons_succ, List.set_cons_zero, hp, hx]
        refine AllOps.cons (fun x u hC hp K hK => ?_) ?_
        · simp [Known, Region.binds, VP] at hp
          go_simp
          refine hK _ _ _ hC (Below.refl _ _) (by exact rfl) ?_
          simp only [Act.put, List.setIfInBounds_toArray, List.set_cons_succ, List.set_cons_zero, hp]
        refine AllOps.cons (fun x u hC hp K hK => ?_) ?_
        · simp [Known, Region.binds, VP] at hp
          go_simp
          refine hK _ _ _ hC (Below.refl _ _) (by exact rfl) ?_
          simp only [Act.put, List.setIfInBounds_toArray, List.set_cons_succ, List.set_cons_zero, hp]
        refine AllOps.cons (fun x u hC hp K hK => ?_) ?_
        · simp [Known, Region.binds, VP] at hp
          go_simp
          refine hK _ _ _ hC (Below.refl _ _) (by exact rfl) ?_
          simp only [Act.put, List.setIfInBounds_toArray, List.set_cons_succ, List.set_cons_zero, hp]
        refine AllOps.cons (fun x u hC hp K hK => ?_) ?_
        · simp [Known, Region.binds, VP] at hp
          go_simp
          refine hK _ _ _ hC (Below.refl _ _) (by exact rfl) ?_
          simp only [Act.put, List.setIfInBounds_toArray, List.set_cons_succ, List.set_cons_zero, hp]
        refine AllOps.cons (fun x u hC hp K hK => ?_) ?_
        · simp [Known, Region.binds, VP] at hp
          go_simp
          refine (tapeForced _ _ _ _ _ (hP.below hC)).mono ?_
          rintro e wA ⟨rfl, rfl⟩
          refine hK _ _ _ hC (Below.refl _ _) (by exact rfl) ?_
          simp only [Act.put, List.setIfInBounds_toArray, List.set_cons_succ, List.set_cons_zero, hp]
        refine AllOps.cons (fun x u hC hp K hK => ?_) ?_
        · simp [Known, Region.binds, VP] at hp
          go_simp
          refine hK _ _ _ hC (Below.refl _ _) (by exact rfl) ?_
          simp only [Act.put, List.setIfInBounds_toArray, List.set_cons_succ, List.set_cons_zero, hp]
        refine AllOps.cons (fun x u hC hp K hK => ?_) ?_
        · simp [Known, Region.binds, VP] at hp
          go_simp
          refine (tapeForced _ _ _ _ _ (hQ.below hC)).mono ?_
          rintro e wA ⟨rfl, rfl⟩
          refine hK _ _ _ hC (Below.refl _ _) (by exact rfl) ?_
          simp only [Act.put, List.setIfInBounds_toArray, List.set_cons_succ, List.set_cons_zero, hp]
        refine AllOps.cons (fun x u hC hp K hK => ?_) ?_
        · simp [Known, Region.binds, VP] at hp
          go_simp
          refine hK _ _ _ hC (Below.refl _ _) (by exact rfl) ?_
          simp only [Act.put, List.setIfInBounds_toArray, List.set_cons_succ, List.set_cons_zero, hp]
        refine AllOps.cons (fun x u hC hp K hK => ?_) ?_
        · simp [Known, Region.binds, VP] at hp
          go_simp
          refine hK _ _ _ hC (Below.refl _ _) (by exact rfl) ?_
          simp only [Act.put, List.setIfInBounds_toArray, List.set_cons_succ, List.set_cons_zero, hp]
        refine AllOps.cons (fun x u hC hp K hK => ?_) ?_
        · simp [Known, Region.binds, VP] at hp
          go_simp
          refine hK _ _ _ hC (Below.refl _ _) (by exact rfl) ?_
          simp only [Act.put, List.setIfInBounds_toArray, List.set_cons_succ, List.set_cons_zero, hp]
        exact AllOps.nil
      case fin =>
        intro x u hC hV
        have hz : x 25 = .bool true := allV_at hV 25 (by decide)
        rw [hz]
        clear hV hz
        go_wp2
        go_ret
        exact ⟨rfl, bt hb7 hC⟩
end Go.Proofs.Ytjgemjgdioppdaa
