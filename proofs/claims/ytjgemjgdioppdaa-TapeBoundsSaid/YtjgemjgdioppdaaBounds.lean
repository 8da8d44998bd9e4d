/- The law on a tape's bounds. -/
import Derived.Test.YtjgemjgdioppdaaTwice
import Derived.Test.YtjgemjgdioppdaaInv
namespace Go.Proofs.Ytjgemjgdioppdaa
open Go.RowKit
set_option linter.unusedVariables false
set_option linter.unusedSimpArgs false

theorem bs_cv {w : World} {A : Option Addr} {l : List UInt8} {c : Nat} (h : Bs w w.heap.size A l) :
    (convert 30 9 (.slice A l.length c)).run Try.prog w = .ok (.string ⟨l.toArray⟩) w :=
  conv_bytes Try.underlying30 Try.underlying5 Try.underlying9 h c
theorem drop_cv {w : World} {g n k : Nat} {l b : List UInt8} (hn : n = (l ++ b).length) (hk : k = l.length) (h : Raw w g 5 (l ++ b)) :
    (convert 30 9 (.slice (some ⟨g, k, none⟩) b.length (n - k))).run Try.prog w = .ok (.string ⟨b.toArray⟩) w := by
  subst hn hk
  refine bs_cv (fun hb => ⟨g, l.length, rfl, h.lt, fun i hi => ?_⟩)
  rw [h.cell (l.length + i) (by simp; omega)]
  simp

def V9 (A' : Option Addr) (b : List UInt8) (c' : Nat) (p n : Nat) (l : List UInt8) (g : Nat) (i : Nat) (v : Value) (w : World) : Prop :=
  match i with
  | 2 => v = .int .i64 5
  | 6 => v = .pointer (some ⟨p, 0, none⟩)
  | 7 => ∃ g, v = .slice (some ⟨g, 0, none⟩) l.length l.length ∧ Raw w g 5 l
  | 8 => v = .string ⟨l.toArray⟩
  | 9 => v = .slice (some ⟨g, 0, none⟩) l.length l.length
  | 10 => v = .string ⟨l.toArray⟩
  | 14 => v = .slice A' b.length c'
  | 15 => v = .int .i64 b.length
  | 16 => v = .int .i64 n
  | 17 => v = .slice (some ⟨g, 0, none⟩) l.length l.length
  | 18 => v = .int .i64 l.length
  | 19 => v = .int .i64 ((n : Int) - (l.length : Int))
  | _ => v = .bool true

def V10 (A' : Option Addr) (b : List UInt8) (c' : Nat) (p n : Nat) (l : List UInt8) (g : Nat) (i : Nat) (v : Value) (w : World) : Prop :=
  match i with
  | 2 => v = .pointer (some ⟨p, 0, none⟩)
  | 3 => v = .int .i64 ((l.length : Int) + b.length)
  | 4 => v = .slice (some ⟨g, 0, none⟩) l.length l.length
  | 5 => v = .int .i64 l.length
  | 6 => v = .slice A' b.length c'
  | 7 => v = .int .i64 b.length
  | 8 => v = .int .i64 ((l.length : Int) + b.length)
  | 12 => v = .pointer (some ⟨p, 0, none⟩)
  | 13 => ∃ g, v = .slice (some ⟨g, 0, none⟩) (l.length + b.length) (l.length + b.length) ∧ Raw w g 5 (l ++ b)
  | 14 => v = .slice (some ⟨g, 0, none⟩) l.length l.length
  | 15 => v = .int .i64 l.length
  | 16 => ∃ A c, v = .slice A b.length c ∧ Bs w w.heap.size A b
  | 17 => v = .string ⟨b.toArray⟩
  | 18 => v = .slice A' b.length c'
  | 19 => v = .string ⟨b.toArray⟩
  | _ => v = .bool true

set_option maxHeartbeats 3000000 in
theorem tapeBounds_walk (room : Int) (A : Option Addr) (ops : List OpV) (c : Nat) (A' : Option Addr) (b : List UInt8) (c' : Nat) (w : World) (r1 : -9223372036854775808 ≤ room) (r2 : room ≤ 9223372036854775807) (h : OpsAt w A ops)
    (hb : Bs w w.heap.size A' b) (hbl : b.length ≤ maxLen) :
    Calls Try.prog 7 #[.int .i64 room, .slice A ops.length c, .slice A' b.length c'] w fun e w' => e = .returned (.bool true) ∧ Below w.heap.size w w' := by
  unfold maxLen at hbl
  go_enter Try.func7, Try.ntmps7
  go_wp2_with fail
  refine (played_any room A ops c _ h).mono ?_
  rintro e w1 ⟨hb1, ⟨hR, rfl⟩ | ⟨p, l, f, hR, rfl, hp, hT1⟩⟩
  · clear hR
    go_wp2_with fail
    refine (alive_any _).mono ?_
    rintro e w2 ⟨rfl, hb2⟩
    go_wp2
    go_ret
    exact ⟨rfl, bt hb1 hb2⟩
  · clear hR
    by_cases hlen : 1000 < b.length
    · go_wp2_with fail
      refine (alive_any _).mono ?_
      rintro e w2 ⟨rfl, hb2⟩
      go_wp2
      go_ret
      exact ⟨rfl, bt hb1 hb2⟩
    · have hf1 := hT1.f1
      have hl1 := hT1.l1
      have hr1 := hT1.r1
      have hr2 := hT1.r2
      obtain ⟨n, rfl⟩ : ∃ n : Nat, room = n := ⟨room.toNat, by omega⟩
      rw [Int.toNat_natCast] at *
      go_wp2_with fail
      refine (tapeBytes _ _ _ _ _ hT1).mono ?_
      rintro e w2 ⟨rfl, hraw2, hb2⟩
      have hT2 := hT1.below hb2
      go_wp2_with fail
      refine (tapeForced _ _ _ _ _ hT2).mono ?_
      rintro e w' ⟨rfl, rfl⟩
      go_wp2_with fail
      refine (tapeLen _ _ _ _ _ hT2).mono ?_
      rintro e w' ⟨rfl, rfl⟩
      go_wp2_with fail
      refine (tapeLen _ _ _ _ _ hT2).mono ?_
      rintro e w' ⟨rfl, rfl⟩
      go_wp2_with fail
      refine (tapeRoom _ _ _ _ _ hT2).mono ?_
      rintro e w' ⟨rfl, rfl⟩
      go_wp2_with fail
      refine (tapeRoom _ _ _ _ _ hT2).mono ?_
      rintro e w' ⟨rfl, rfl⟩
      have hbs2 := hb.bt (bt hb1 hb2)
      have hc := tapeAppend _ _ _ _ A' b c' _ hT2 hbs2 (by omega)
      by_cases hfull : n < l.length + b.length
      · rw [if_pos hfull] at hc
        go_wp2_with fail
        refine hc.mono ?_
        clear hc
        rintro e w3 h3
        have hb3 := h3.below (bt hb1 hb2) hp
        obtain ⟨rfl, hT3', hg3, _⟩ := h3
        have hT3 : TapeAt w3 p n l f := hT3'
        clear hT3'
        obtain ⟨_, hblk2⟩ := hT2.blk
        have hraw3 := hraw2.grown hg3 hblk2 (by decide)
        have hbs3 := hb.bt hb3
        have ew : IntKind.i64.wrap ((n : Int) - (l.length : Int)) = (n : Int) - (l.length : Int) := IntWalk.i64_in _ (by omega)
        have dd : decide ((n : Int) - (l.length : Int) < (b.length : Int)) = true := by simp; omega
        clear hblk2 hg3 hraw2 hT2 hb2 hT1 hbs2
        go_wp2_with fail
        refine wp_region_inv (F := ?F) (V := V9 A' b c' p n l w1.heap.size) (C := fun u => Below w3.heap.size w3 u) (E := fun u u' => Below u.heap.size u u') (by kernel_rfl) (by kernel_rfl) (by kernel_rfl) (fun x => ?hF) ?hmono ?hC ?step ?fin
        case hF => simp only [mkA, Act.put, List.setIfInBounds_toArray, List.set_cons_succ, List.set_cons_zero, Nat.reduceAdd, Nat.zero_add]; with_reducible rfl
        case hmono =>
          intro i v u u' he hv
          unfold V9 at hv ⊢
          split at hv <;> first | exact hv | (obtain ⟨g, e, hr⟩ := hv; exact ⟨g, e, hr.bt he⟩)
        case hC => exact gr_drew w3
        case step =>
          refine AllOps.cons (fun x u hC hp K hK => ?_) ?_
          · go_simp
            refine (alive_any _).mono ?_
            rintro e wA ⟨rfl, hbA⟩
            exact hK _ _ _ (bt hC hbA) hbA rfl rfl
          refine AllOps.cons (fun x u hC hp K hK => ?_) ?_
          · simp [Known, Region.binds, V9] at hp
            go_simp
            refine hK _ _ _ hC (Below.refl _ _) (by exact rfl) ?_
            simp only [Act.put, List.setIfInBounds_toArray, List.set_cons_succ, List.set_cons_zero, hp]
          refine AllOps.cons (fun x u hC hp K hK => ?_) ?_
          · simp [Known, Region.binds, V9] at hp
            go_simp
            refine hK _ _ _ hC (Below.refl _ _) (by exact rfl) ?_
            simp only [Act.put, List.setIfInBounds_toArray, List.set_cons_succ, List.set_cons_zero, hp]
          refine AllOps.cons (fun x u hC hp K hK => ?_) ?_
          · simp [Known, Region.binds, V9] at hp
            go_simp
            refine hK _ _ _ hC (Below.refl _ _) (by exact rfl) ?_
            simp only [Act.put, List.setIfInBounds_toArray, List.set_cons_succ, List.set_cons_zero, hp]
          refine AllOps.cons (fun x u hC hp K hK => ?_) ?_
          · simp [Known, Region.binds, V9] at hp
            go_simp
            refine hK _ _ _ hC (Below.refl _ _) (by exact rfl) ?_
            simp only [Act.put, List.setIfInBounds_toArray, List.set_cons_succ, List.set_cons_zero, hp]
          refine AllOps.cons (fun x u hC hp K hK => ?_) ?_
          · simp [Known, Region.binds, V9] at hp
            go_simp
            refine hK _ _ _ hC (Below.refl _ _) (by exact rfl) ?_
            simp only [Act.put, List.setIfInBounds_toArray, List.set_cons_succ, List.set_cons_zero, hp]
          refine AllOps.cons (fun x u hC hp K hK => ?_) ?_
          · simp [Known, Region.binds, V9] at hp
            go_simp
            refine hK _ _ _ hC (Below.refl _ _) (by exact rfl) ?_
            simp only [Act.put, List.setIfInBounds_toArray, List.set_cons_succ, List.set_cons_zero, hp]
          refine AllOps.cons (fun x u hC hp K hK => ?_) ?_
          · simp [Known, Region.binds, V9] at hp
            go_simp
            refine (tapeBytes _ _ _ _ _ (hT3.below hC)).mono ?_
            rintro e wA ⟨rfl, hrA, hbA⟩
            refine hK _ _ _ (bt hC hbA) hbA ⟨_, rfl, hrA⟩ ?_
            simp only [Act.put, List.setIfInBounds_toArray, List.set_cons_succ, List.set_cons_zero, hp]
          refine AllOps.cons (fun x u hC hp K hK => ?_) ?_
          · simp [Known, Region.binds, V9] at hp
            obtain ⟨⟨g, hx, hr⟩, hp⟩ := hp
            have cv := raw_cv hr
            go_simp
            refine hK _ _ _ hC (Below.refl _ _) (by exact rfl) ?_
            simp only [Act.put, List.setIfInBounds_toArray, List.set_cons_succ, List.set_cons_zero, hp, hx]
          refine AllOps.cons (fun x u hC hp K hK => ?_) ?_
          · simp [Known, Region.binds, V9] at hp
            go_simp
            refine hK _ _ _ hC (Below.refl _ _) (by exact rfl) ?_
            simp only [Act.put, List.setIfInBounds_toArray, List.set_cons_succ, List.set_cons_zero, hp]
          refine AllOps.cons (fun x u hC hp K hK => ?_) ?_
          · simp [Known, Region.binds, V9] at hp
            have cv := raw_cv (hraw3.bt hC)
            go_simp
            refine hK _ _ _ hC (Below.refl _ _) (by exact rfl) ?_
            simp only [Act.put, List.setIfInBounds_toArray, List.set_cons_succ, List.set_cons_zero, hp]
          refine AllOps.cons (fun x u hC hp K hK => ?_) ?_
          · simp [Known, Region.binds, V9] at hp
            go_simp
            refine hK _ _ _ hC (Below.refl _ _) (by exact rfl) ?_
            simp only [Act.put, List.setIfInBounds_toArray, List.set_cons_succ, List.set_cons_zero, hp]
          refine AllOps.cons (fun x u hC hp K hK => ?_) ?_
          · simp [Known, Region.binds, V9] at hp
            go_simp
            refine hK _ _ _ hC (Below.refl _ _) (by exact rfl) ?_
            simp only [Act.put, List.setIfInBounds_toArray, List.set_cons_succ, List.set_cons_zero, hp]
          refine AllOps.cons (fun x u hC hp K hK => ?_) ?_
          · simp [Known, Region.binds, V9] at hp
            go_simp
            refine hK _ _ _ hC (Below.refl _ _) (by exact rfl) ?_
            simp only [Act.put, List.setIfInBounds_toArray, List.set_cons_succ, List.set_cons_zero, hp]
          refine AllOps.cons (fun x u hC hp K hK => ?_) ?_
          · simp [Known, Region.binds, V9] at hp
            go_simp
            refine hK _ _ _ hC (Below.refl _ _) (by exact rfl) ?_
            simp only [Act.put, List.setIfInBounds_toArray, List.set_cons_succ, List.set_cons_zero, hp]
          refine AllOps.cons (fun x u hC hp K hK => ?_) ?_
          · simp [Known, Region.binds, V9] at hp
            go_simp
            refine hK _ _ _ hC (Below.refl _ _) (by exact rfl) ?_
            simp only [Act.put, List.setIfInBounds_toArray, List.set_cons_succ, List.set_cons_zero, hp]
          refine AllOps.cons (fun x u hC hp K hK => ?_) ?_
          · simp [Known, Region.binds, V9] at hp
            go_simp
            refine hK _ _ _ hC (Below.refl _ _) (by exact rfl) ?_
            simp only [Act.put, List.setIfInBounds_toArray, List.set_cons_succ, List.set_cons_zero, hp]
          refine AllOps.cons (fun x u hC hp K hK => ?_) ?_
          · simp [Known, Region.binds, V9] at hp
            go_simp
            refine hK _ _ _ hC (Below.refl _ _) (by exact rfl) ?_
            simp only [Act.put, List.setIfInBounds_toArray, List.set_cons_succ, List.set_cons_zero, hp]
          refine AllOps.cons (fun x u hC hp K hK => ?_) ?_
          · simp [Known, Region.binds, V9] at hp
            go_simp
            refine hK _ _ _ hC (Below.refl _ _) (by exact rfl) ?_
            simp only [Act.put, List.setIfInBounds_toArray, List.set_cons_succ, List.set_cons_zero, hp]
          refine AllOps.cons (fun x u hC hp K hK => ?_) ?_
          · simp [Known, Region.binds, V9] at hp
            go_simp
            refine hK _ _ _ hC (Below.refl _ _) (by exact rfl) ?_
            simp only [Act.put, List.setIfInBounds_toArray, List.set_cons_succ, List.set_cons_zero, hp]
          refine AllOps.cons (fun x u hC hp K hK => ?_) ?_
          · simp [Known, Region.binds, V9] at hp
            go_simp
            refine hK _ _ _ hC (Below.refl _ _) (by exact rfl) ?_
            simp only [Act.put, List.setIfInBounds_toArray, List.set_cons_succ, List.set_cons_zero, hp]
          refine AllOps.cons (fun x u hC hp K hK => ?_) ?_
          · simp [Known, Region.binds, V9] at hp
            go_simp
            refine hK _ _ _ hC (Below.refl _ _) (by exact rfl) ?_
            simp only [Act.put, List.setIfInBounds_toArray, List.set_cons_succ, List.set_cons_zero, hp, dd]
          refine AllOps.cons (fun x u hC hp K hK => ?_) ?_
          · simp [Known, Region.binds, V9] at hp
            go_simp
            refine hK _ _ _ hC (Below.refl _ _) (by exact rfl) ?_
            simp only [Act.put, List.setIfInBounds_toArray, List.set_cons_succ, List.set_cons_zero, hp]
          exact AllOps.nil
        case fin =>
          intro x u hC hV
          have h22 : x 22 = .bool true := allV_at hV 22 (by decide)
          rw [h22]
          clear hV h22
          go_wp2
          go_ret
          exact ⟨rfl, bt hb3 hC⟩
      · rw [if_neg hfull] at hc
        go_wp2_with fail
        refine hc.mono ?_
        clear hc
        rintro e w3 h3
        have hb3 := h3.below (bt hb1 hb2) hp
        obtain ⟨rfl, hT3', hg3, _⟩ := h3
        have hT3 : TapeAt w3 p n (l ++ b) f := hT3'
        clear hT3'
        have hbs3 := hb.bt hb3
        have ew : IntKind.i64.wrap ((l.length : Int) + (b.length : Int)) = (l.length : Int) + (b.length : Int) := IntWalk.i64_in _ (by omega)
        clear hg3 hraw2 hT2 hb2 hT1 hbs2
        go_wp2_with fail
        refine wp_region_inv (F := ?F2) (V := V10 A' b c' p n l w1.heap.size) (C := fun u => Below w3.heap.size w3 u) (E := fun u u' => Below u.heap.size u u') (by kernel_rfl) (by kernel_rfl) (by kernel_rfl) (fun x => ?hF2) ?hmono2 ?hC2 ?step2 ?fin2
        case hF2 => simp only [mkA, Act.put, List.setIfInBounds_toArray, List.set_cons_succ, List.set_cons_zero, Nat.reduceAdd, Nat.zero_add]; with_reducible rfl
        case hmono2 =>
          intro i v u u' he hv
          unfold V10 at hv ⊢
          split at hv <;> first | exact hv | (obtain ⟨g, e, hr⟩ := hv; exact ⟨g, e, hr.bt he⟩) | (obtain ⟨A, c, e, hr⟩ := hv; exact ⟨A, c, e, hr.bt he⟩)
        case hC2 => exact gr_drew w3
        case step2 =>
          refine AllOps.cons (fun x u hC hp K hK => ?_) ?_
          · go_simp
            refine (alive_any _).mono ?_
            rintro e wA ⟨rfl, hbA⟩
            exact hK _ _ _ (bt hC hbA) hbA rfl rfl
          refine AllOps.cons (fun x u hC hp K hK => ?_) ?_
          · simp [Known, Region.binds, V10] at hp
            go_simp
            refine hK _ _ _ hC (Below.refl _ _) (by exact rfl) ?_
            simp only [Act.put, List.setIfInBounds_toArray, List.set_cons_succ, List.set_cons_zero, hp]
          refine AllOps.cons (fun x u hC hp K hK => ?_) ?_
          · simp [Known, Region.binds, V10] at hp
            go_simp
            refine hK _ _ _ hC (Below.refl _ _) (by exact rfl) ?_
            simp only [Act.put, List.setIfInBounds_toArray, List.set_cons_succ, List.set_cons_zero, hp]
          refine AllOps.cons (fun x u hC hp K hK => ?_) ?_
          · simp [Known, Region.binds, V10] at hp
            go_simp
            have hc := tapeLen _ _ _ _ _ (hT3.below hC)
            rw [List.length_append, Int.natCast_add] at hc
            refine hc.mono ?_
            rintro e wA ⟨rfl, rfl⟩
            refine hK _ _ _ hC (Below.refl _ _) (by exact rfl) ?_
            simp only [Act.put, List.setIfInBounds_toArray, List.set_cons_succ, List.set_cons_zero, hp, List.length_append, Int.natCast_add]
          refine AllOps.cons (fun x u hC hp K hK => ?_) ?_
          · simp [Known, Region.binds, V10] at hp
            go_simp
            refine hK _ _ _ hC (Below.refl _ _) (by exact rfl) ?_
            simp only [Act.put, List.setIfInBounds_toArray, List.set_cons_succ, List.set_cons_zero, hp]
          refine AllOps.cons (fun x u hC hp K hK => ?_) ?_
          · simp [Known, Region.binds, V10] at hp
            go_simp
            refine hK _ _ _ hC (Below.refl _ _) (by exact rfl) ?_
            simp only [Act.put, List.setIfInBounds_toArray, List.set_cons_succ, List.set_cons_zero, hp]
          refine AllOps.cons (fun x u hC hp K hK => ?_) ?_
          · simp [Known, Region.binds, V10] at hp
            go_simp
            refine hK _ _ _ hC (Below.refl _ _) (by exact rfl) ?_
            simp only [Act.put, List.setIfInBounds_toArray, List.set_cons_succ, List.set_cons_zero, hp]
          refine AllOps.cons (fun x u hC hp K hK => ?_) ?_
          · simp [Known, Region.binds, V10] at hp
            go_simp
            refine hK _ _ _ hC (Below.refl _ _) (by exact rfl) ?_
            simp only [Act.put, List.setIfInBounds_toArray, List.set_cons_succ, List.set_cons_zero, hp]
          refine AllOps.cons (fun x u hC hp K hK => ?_) ?_
          · simp [Known, Region.binds, V10] at hp
            go_simp
            refine hK _ _ _ hC (Below.refl _ _) (by exact rfl) ?_
            simp only [Act.put, List.setIfInBounds_toArray, List.set_cons_succ, List.set_cons_zero, hp, ew]
          refine AllOps.cons (fun x u hC hp K hK => ?_) ?_
          · simp [Known, Region.binds, V10] at hp
            go_simp
            refine hK _ _ _ hC (Below.refl _ _) (by exact rfl) ?_
            simp only [Act.put, List.setIfInBounds_toArray, List.set_cons_succ, List.set_cons_zero, hp]
          refine AllOps.cons (fun x u hC hp K hK => ?_) ?_
          · simp [Known, Region.binds, V10] at hp
            go_simp
            refine hK _ _ _ hC (Below.refl _ _) (by exact rfl) ?_
            simp only [Act.put, List.setIfInBounds_toArray, List.set_cons_succ, List.set_cons_zero, hp]
          refine AllOps.cons (fun x u hC hp K hK => ?_) ?_
          · simp [Known, Region.binds, V10] at hp
            go_simp
            refine hK _ _ _ hC (Below.refl _ _) (by exact rfl) ?_
            simp only [Act.put, List.setIfInBounds_toArray, List.set_cons_succ, List.set_cons_zero, hp]
          refine AllOps.cons (fun x u hC hp K hK => ?_) ?_
          · simp [Known, Region.binds, V10] at hp
            go_simp
            refine hK _ _ _ hC (Below.refl _ _) (by exact rfl) ?_
            simp only [Act.put, List.setIfInBounds_toArray, List.set_cons_succ, List.set_cons_zero, hp]
          refine AllOps.cons (fun x u hC hp K hK => ?_) ?_
          · simp [Known, Region.binds, V10] at hp
            go_simp
            have hc := tapeBytes _ _ _ _ _ (hT3.below hC)
            rw [List.length_append] at hc
            refine hc.mono ?_
            rintro e wA ⟨rfl, hrA, hbA⟩
            refine hK _ _ _ (bt hC hbA) hbA ⟨_, rfl, hrA⟩ ?_
            simp only [Act.put, List.setIfInBounds_toArray, List.set_cons_succ, List.set_cons_zero, hp, List.length_append]
          refine AllOps.cons (fun x u hC hp K hK => ?_) ?_
          · simp [Known, Region.binds, V10] at hp
            go_simp
            refine hK _ _ _ hC (Below.refl _ _) (by exact rfl) ?_
            simp only [Act.put, List.setIfInBounds_toArray, List.set_cons_succ, List.set_cons_zero, hp]
          refine AllOps.cons (fun x u hC hp K hK => ?_) ?_
          · simp [Known, Region.binds, V10] at hp
            go_simp
            refine hK _ _ _ hC (Below.refl _ _) (by exact rfl) ?_
            simp only [Act.put, List.setIfInBounds_toArray, List.set_cons_succ, List.set_cons_zero, hp]
          refine AllOps.cons (fun x u hC hp K hK => ?_) ?_
          · simp [Known, Region.binds, V10] at hp
            obtain ⟨⟨g, hx, hr⟩, hp⟩ := hp
            have hle : (l.length : Int) ≤ (l.length : Int) + (b.length : Int) := by omega
            by_cases hb0 : b.length = 0
            · have hbn : b = [] := List.eq_nil_of_length_eq_zero hb0
              have Hbn := Lib.hid hbn
              clear hbn
              go_simp
              refine hK (.slice (some ⟨g, 0, none⟩) b.length 0) _ _ hC (Below.refl _ _) ⟨_, _, rfl, by rw [Hbn.out]; exact Bs.nil⟩ ?_
              simp [Act.put, hp, hx, hb0]
            · go_simp
              refine hK (.slice (some ⟨g, l.length, none⟩) b.length b.length) _ _ hC (Below.refl _ _) ⟨_, _, rfl, ?_⟩ ?_
              · exact fun _ => ⟨g, l.length, rfl, hr.lt, fun i hi => by rw [hr.cell (l.length + i) (by simp; omega)]; simp⟩
              · simp [Act.put, hp, hx, hb0]
          refine AllOps.cons (fun x u hC hp K hK => ?_) ?_
          · simp [Known, Region.binds, V10] at hp
            obtain ⟨⟨A3, ⟨c3, hx⟩, hr⟩, hp⟩ := hp
            have cv := conv_bytes (c := c3) Try.underlying30 Try.underlying5 Try.underlying9 hr
            go_simp
            refine hK _ _ _ hC (Below.refl _ _) (by exact rfl) ?_
            simp only [Act.put, List.setIfInBounds_toArray, List.set_cons_succ, List.set_cons_zero, hp, hx]
          refine AllOps.cons (fun x u hC hp K hK => ?_) ?_
          · simp [Known, Region.binds, V10] at hp
            go_simp
            refine hK _ _ _ hC (Below.refl _ _) (by exact rfl) ?_
            simp only [Act.put, List.setIfInBounds_toArray, List.set_cons_succ, List.set_cons_zero, hp]
          refine AllOps.cons (fun x u hC hp K hK => ?_) ?_
          · simp [Known, Region.binds, V10] at hp
            have cv := conv_bytes (c := c') Try.underlying30 Try.underlying5 Try.underlying9 (hbs3.bt hC)
            go_simp
            refine hK _ _ _ hC (Below.refl _ _) (by exact rfl) ?_
            simp only [Act.put, List.setIfInBounds_toArray, List.set_cons_succ, List.set_cons_zero, hp]
          refine AllOps.cons (fun x u hC hp K hK => ?_) ?_
          · simp [Known, Region.binds, V10] at hp
            go_simp
            refine hK _ _ _ hC (Below.refl _ _) (by exact rfl) ?_
            simp only [Act.put, List.setIfInBounds_toArray, List.set_cons_succ, List.set_cons_zero, hp]
          refine AllOps.cons (fun x u hC hp K hK => ?_) ?_
          · simp [Known, Region.binds, V10] at hp
            go_simp
            refine hK _ _ _ hC (Below.refl _ _) (by exact rfl) ?_
            simp only [Act.put, List.setIfInBounds_toArray, List.set_cons_succ, List.set_cons_zero, hp]
          refine AllOps.cons (fun x u hC hp K hK => ?_) ?_
          · simp [Known, Region.binds, V10] at hp
            go_simp
            refine hK _ _ _ hC (Below.refl _ _) (by exact rfl) ?_
            simp only [Act.put, List.setIfInBounds_toArray, List.set_cons_succ, List.set_cons_zero, hp]
          exact AllOps.nil
        case fin2 =>
          intro x u hC hV
          have h22 : x 22 = .bool true := allV_at hV 22 (by decide)
          rw [h22]
          clear hV h22
          go_wp2
          go_ret
          exact ⟨rfl, bt hb3 hC⟩
end Go.Proofs.Ytjgemjgdioppdaa
