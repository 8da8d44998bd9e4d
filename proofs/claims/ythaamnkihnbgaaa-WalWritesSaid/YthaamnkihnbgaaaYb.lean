/- Layer 3: the document's Read. -/
import Derived.Test.YthaamnkihnbgaaaYa
import Derived.Test.YthaamnkihnbgaaaYm
import Derived.Test.YthaamnkihnbgaaaZc
import Derived.Test.YthaamnkihnbgaaaCopy
import Derived.Test.YthaamnkihnbgaaaInvX
import Derived.Lib.AppendZeros
namespace Go.Proofs.Ythaamnkihnbgaaa
open Go.RowKit
set_option linter.unusedVariables false
set_option linter.unusedSimpArgs false

theorem num_two (x y : UInt8) : num [x, y] = 256 * x.toNat + y.toNat := by simp [num]
theorem num_one (x : UInt8) : num [x] = x.toNat := by simp [num]
/-- A new record that the slot p points to. -/
def NewRec (w : World) (B : Nat) (K : Int) (M : Nat) (l : List UInt8) (p : Value) : Prop :=
  ∃ q Ac cc, p = .pointer (some ⟨q, 0, none⟩) ∧ B ≤ q ∧ Blk w q 24 #[.int .i64 K, .slice Ac M cc] ∧ FrB w B Ac l
def SlAt (w : World) (B M : Nat) (l : List UInt8) (v : Value) : Prop := ∃ Ac cc, v = .slice Ac M cc ∧ FrB w B Ac l
def RcAt (w : World) (B : Nat) (K : Int) (M : Nat) (l : List UInt8) (v : Value) : Prop := ∃ Ac cc, v = .agg #[.int .i64 K, .slice Ac M cc] ∧ FrB w B Ac l
def NwAt (w : World) (B : Nat) (v : Value) : Prop := ∃ g, v = .pointer (some ⟨g, 0, none⟩) ∧ B ≤ g ∧ Blk w g 24 #[.int .i64 0, .slice none 0 0]
def VRd (A : Option Addr) (N c q M K : Nat) (S : Value) (b o : Nat) (B : Nat) (l : List UInt8) (i : Nat) (v p : Value) (w : World) : Prop :=
  match i with
  | 0 => v = .slice A N c
  | 1 => v = .int .i64 q
  | 2 => v = .int .i64 ((q : Int) + 2)
  | 3 => v = .pointer (some ⟨b, o + (q + 2), none⟩)
  | 4 => v = .int .u8 K
  | 5 => v = .int .i64 K
  | 6 => v = .slice A N c
  | 7 => v = .int .i64 q
  | 8 => v = .int .i64 ((q : Int) + 3)
  | 9 => v = .int .i64 q
  | 10 => v = .int .i64 ((q : Int) + 3)
  | 11 => v = .int .i64 M
  | 12 => v = .int .i64 ((q : Int) + 3 + M)
  | 13 => v = S
  | 14 => SlAt w B M l v
  | 15 => RcAt w B K M l v
  | 16 => NwAt w B v
  | 17 => NewRec w B K M l p
  | _ => True
def ERd (k : Nat) (u u' : World) : Prop := match k with
  | 17 => ∀ B A l, FrB u B A l → FrB u' B A l
  | _ => Below u.heap.size u u'
theorem VRd.mono {A : Option Addr} {N c q M K : Nat} {S : Value} {b o B : Nat} {l : List UInt8} {i k : Nat} {v p : Value} {u u' : World} (he : ERd k u u') (hik : i ≠ k) (hd : i = 16 ∧ k = 17 → False) (h : VRd A N c q M K S b o B l i v p u) : VRd A N c q M K S b o B l i v p u' := by
  unfold ERd at he
  split at he
  · unfold VRd at h ⊢
    split at h
    all_goals first
      | with_reducible exact h
      | exact absurd rfl hik
      | exact (hd ⟨rfl, rfl⟩).elim
      | (obtain ⟨Ac, cc, e, h⟩ := h; exact ⟨Ac, cc, e, he _ _ _ h⟩)
  · unfold VRd at h ⊢
    split at h
    all_goals first
      | with_reducible exact h
      | (obtain ⟨Ac, cc, e, h⟩ := h; exact ⟨Ac, cc, e, h.below he⟩)
      | (obtain ⟨g, e, h1, h2⟩ := h; exact ⟨g, e, h1, h2.below he h2.lt⟩)
      | (obtain ⟨g, Ac, cc, e, h1, h2, h3⟩ := h; exact ⟨g, Ac, cc, e, h1, h2.below he h2.lt, h3.below he⟩)

set_option maxRecDepth 100000 in
set_option maxHeartbeats 8000000 in
theorem refread_any (A : Option Addr) (data : List UInt8) (N c : Nat) (w : World) (hN : Hid (N = data.length)) (hcap : Hid (N ≤ c)) (hc2 : Hid (c ≤ 9223372036854775807)) (hm : Hid (N ≤ 1000000)) (hbs : Bs w w.heap.size A data) :
    Calls Try.prog 16 #[.slice A N c] w (ReadO w (readR data)) := by
  have HBS := Lib.hid hbs
  clear hbs
  obtain ⟨R, hR⟩ : ∃ R, R = readR data := ⟨_, rfl⟩
  rw [← hR]
  have HR : Hid (R = readL N data) := Lib.hid (by rw [hR, hN.out]; rfl)
  clear hR
  go_enter Try.func16, Try.ntmps16
  go_wp2
  go_loopw [4, 5] (fun a b wr => ∃ (q k : Nat) (rs : List (Int × List UInt8)) (A4 : Option Addr) (c4 : Nat), q ≤ N ∧ Hid (N ≤ q + k) ∧ Hid (rs.length ≤ q) ∧ Hid (R = (rs ++ (readL k (data.drop q)).1, q + (readL k (data.drop q)).2)) ∧ a = .slice A4 rs.length c4 ∧ b = .int .i64 q ∧ RecsAt wr w.heap.size A4 c4 rs ∧ Below w.heap.size w wr)
    (fun _ b _ => N - (intOf b).toNat)
  case atStart => exact ⟨0, N, [], none, 0, Nat.zero_le _, Lib.hid (by omega), Lib.hid (by simp), Lib.hid (by rw [HR.out]; simp), rfl, rfl, RecsAt.nil _ _, Below.refl _ _⟩
  case round =>
    obtain ⟨q, k, rs, A4, c4, hq, hk, hrl, hRk, rfl, rfl, hrs, hbw⟩ := hrel
    have ret0 : frontR (data.drop q) = none → R = (rs, q) := fun hf => by rw [hRk.out, readL_none hf]; simp
    have w7 : IntKind.i64.wrap ((q : Int) + 7) = (q : Int) + 7 := IntWalk.i64_in _ (by have := hm.out; omega)
    have Ret0 := Lib.hid ret0
    clear ret0
    by_cases h7 : q + 7 ≤ N
    · have h7I : (q : Int) + 7 ≤ (N : Int) := by omega
      obtain ⟨b, o, rfl, hblt, hcs⟩ := HBS.out (by rw [← hN.out]; omega)
      have hg : ∀ i, (hi : i < (data.drop q).length) → wr.cell? ⟨b, o + (q + i), none⟩ = some (.int .u8 (((data.drop q)[i]'hi).toNat : Int)) := fun i hi => by
        rw [List.getElem_drop]
        exact (hbw.cell (p := ⟨b, o + (q + i), none⟩) hblt).trans (hcs _ _)
      have hsub := bs_sub (HBS.out.bt hbw) (q + 3)
      have hL : (data.drop q).length = N - q := by rw [List.length_drop, hN.out]
      obtain ⟨r, hr⟩ : ∃ r, r = data.drop q := ⟨_, rfl⟩
      have hdd : (data.drop (q + 3)) = r.drop 3 := by rw [hr, List.drop_drop]
      rw [hdd] at hsub
      have Hdd : Hid (∀ m, data.drop (q + m) = r.drop m) := Lib.hid (fun m => by rw [hr, List.drop_drop])
      rw [← hr] at hg hL hRk Ret0
      have hblr : b < wr.heap.size := Nat.lt_of_lt_of_le hblt hbw.size
      clear hr hdd hcs
      rcases r with _ | ⟨x, _ | ⟨y, _ | ⟨z, t⟩⟩⟩
      · simp at hL; omega
      · simp at hL; omega
      · simp at hL; omega
      have h0 := hg 0 (by simp)
      have h1 := hg 1 (by simp)
      have h2 := hg 2 (by simp)
      simp only [List.getElem_cons_zero, List.getElem_cons_succ, Nat.add_zero] at h0 h1 h2
      obtain ⟨M, hM⟩ : ∃ M, M = num ((x :: y :: z :: t).take 2) := ⟨_, rfl⟩
      have hM2 : M = 256 * x.toNat + y.toNat := by rw [hM]; exact num_two x y
      have hx := x.toNat_lt
      have hy := y.toNat_lt
      have hz := z.toNat_lt
      have hMl : Hid (M < 65536) := Lib.hid (by omega)
      have hMI : 256 * (x.toNat : Int) + (y.toNat : Int) = (M : Int) := by omega
      have wx : IntKind.i64.wrap (x.toNat : Int) = (x.toNat : Int) := IntWalk.i64_in _ (by omega)
      have wy : IntKind.i64.wrap (y.toNat : Int) = (y.toNat : Int) := IntWalk.i64_in _ (by omega)
      have wm : IntKind.i64.wrap (256 * (x.toNat : Int)) = 256 * (x.toNat : Int) := IntWalk.i64_in _ (by omega)
      have ws : IntKind.i64.wrap (256 * (x.toNat : Int) + (y.toNat : Int)) = 256 * (x.toNat : Int) + (y.toNat : Int) := IntWalk.i64_in _ (by omega)
      have w1 : IntKind.i64.wrap ((q : Int) + 1) = (q : Int) + 1 := IntWalk.i64_in _ (by have := hm.out; omega)
      have e4 : (0 : Int) ≤ (q : Int) + 1 := by omega
      have e5 : (q : Int) + 1 < (N : Int) := by omega
      have e6 : (q : Int) < (N : Int) := by omega
      have HM := Lib.hid (And.intro hM hL)
      have HMI := Lib.hid hMI
      have Hg := Lib.hid hg
      have Hsub := Lib.hid hsub
      have H7 := Lib.hid h7
      clear hM hM2 hL hq hg hsub hMI h7 hx hy
      go_wp2
      go_quiet (fail)
      rw [HMI.out]
      have hrsq := hrs.below (bl_drewN wr nq)
      have hbwq : Below w.heap.size w (wr.drewN nq) := bt hbw (bl_drewN wr nq)
      have hk2 : (wr.drewN nq).cell? ⟨b, o + (q + 2), none⟩ = some (.int .u8 (z.toNat : Int)) := h2
      have hsubq : ∀ m, Bs (wr.drewN nq) wr.heap.size (some ⟨b, o + (q + 3), none⟩) (((x :: y :: z :: t).drop 3).take m) := fun m => (Hsub.out m).bt (bl_drewN wr nq)
      obtain ⟨wq, hwq⟩ : ∃ wq, wq = wr.drewN nq := ⟨_, rfl⟩
      rw [← hwq] at hrsq hbwq hk2 hsubq ⊢
      have hwz : wr.heap.size = wq.heap.size := by rw [hwq]; rfl
      rw [hwz] at hsubq hblr
      have HsubQ := Lib.hid hsubq
      clear hwq hrs hbw h0 h1 h2 Hg Hsub wx wy wm ws e4 e5 w1 hwz hsubq
      have wM : IntKind.i64.wrap ((q : Int) + 7 + (M : Int)) = (q : Int) + 7 + (M : Int) := IntWalk.i64_in _ (by have := hm.out; have := hMl.out; omega)
      by_cases hlong : q + 7 + M ≤ N
      · have hlI : ¬ ((N : Int) < (q : Int) + 7 + (M : Int)) := by omega
        have Hlong := Lib.hid hlong
        clear hlong
        have w2 : IntKind.i64.wrap ((q : Int) + 2) = (q : Int) + 2 := IntWalk.i64_in _ (by have := hm.out; omega)
        have w3 : IntKind.i64.wrap ((q : Int) + 3) = (q : Int) + 3 := IntWalk.i64_in _ (by have := hm.out; omega)
        have wM3 : IntKind.i64.wrap ((q : Int) + 3 + (M : Int)) = (q : Int) + 3 + (M : Int) := IntWalk.i64_in _ (by have := hm.out; have := hMl.out; omega)
        have wz : IntKind.i64.wrap (z.toNat : Int) = (z.toNat : Int) := IntWalk.i64_in _ (by omega)
        go_wp2_with fail
        obtain ⟨L, hLd⟩ : ∃ L, L = bodyOf (x :: y :: z :: t) := ⟨_, rfl⟩
        have hLl : L.length = M := by rw [hLd, HM.out.1]; exact bodyOf_len (by rw [← HM.out.1, HM.out.2]; have := Hlong.out; omega)
        have hsubL := HsubQ.out M
        rw [show ((x :: y :: z :: t).drop 3).take M = L from by rw [hLd, HM.out.1]; rfl] at hsubL
        have HsubL := Lib.hid hsubL
        have hcp := fun (u : World) (h : Bs u u.heap.size (some ⟨b, o + (q + 3), none⟩) L) => copy_any (some ⟨b, o + (q + 3), none⟩) L (c - (q + 3)) u (by rw [hLl]; have := hMl.out; omega) h
        rw [hLl] at hcp
        have gsl : (0 : Int) ≤ (q : Int) + 3 ∧ (q : Int) + 3 ≤ (q : Int) + 3 + (M : Int) ∧ (q : Int) + 3 + (M : Int) ≤ (c : Int) ∧ ¬ (c = q + 3) ∧ ¬ ((c : Int) = (q : Int) + 3) ∧ (q : Int) + 2 < (N : Int) := by have := Hlong.out; have := hcap.out; omega
        have gq2 := gsl.2.2.2.2.2
        have gq0 : (0 : Int) ≤ (q : Int) + 2 := by omega
        have HLd := Lib.hid hLd
        have HLl := Lib.hid hLl
        clear hLd hLl hsubL
        refine wp_region_invX (F := ?FR) (V := VRd (some ⟨b, o, none⟩) N c q M z.toNat (.slice (some ⟨b, o + (q + 3), none⟩) M (c - (q + 3))) b o wq.heap.size L) (par := fun i => if i = 17 then 16 else i) (dead := fun i => if i = 16 then some 17 else none) (T := fun _ _ => True) (C := fun u => Below wq.heap.size wq u) (E := ERd) (by kernel_rfl) (by kernel_rfl) (by kernel_rfl) (fun x => ?hFR) (fun i _ => by by_cases h : i = 17; (subst h; exact .inr (by kernel_rfl)); exact .inl (if_neg h)) ?hmonoR ?hTmR ?hTR ?hCR ?stepR ?finR
        case hFR => simp only [mkA, Act.put, List.setIfInBounds_toArray, List.set_cons_succ, List.set_cons_zero, Nat.reduceAdd, Nat.zero_add]; first | with_reducible rfl | rfl
        case hmonoR => exact fun q' i v p u u' he hik hwt hdd hv => VRd.mono he hik (fun hh => hdd (by rw [hh.1, hh.2]; rfl)) hv
        case hTmR => exact fun _ _ _ _ _ _ _ _ => trivial
        case hTR => exact fun j => trivial
        case hCR => exact (Below.refl _ _).drew
        case stepR =>
          refine AllOps.cons (fun x u hC hT hp K hK => ?_) ?_
          · clear hp hT
            go_simp
            refine hK _ _ _ hC (Below.refl _ _) (by exact rfl) ?_
            first | (simp only [Act.put, List.setIfInBounds_toArray, List.set_cons_succ, List.set_cons_zero]; done) | simp [Act.put]
          refine AllOps.cons (fun x u hC hT hp K hK => ?_) ?_
          · clear hp hT
            go_simp
            refine hK _ _ _ hC (Below.refl _ _) (by exact rfl) ?_
            first | (simp only [Act.put, List.setIfInBounds_toArray, List.set_cons_succ, List.set_cons_zero]; done) | simp [Act.put]
          refine AllOps.cons (fun x u hC hT hp K hK => ?_) ?_
          · simp [KnownTill, Region.binds, VRd] at hp
            clear hT
            go_simp
            refine hK _ _ _ hC (Below.refl _ _) (by exact rfl) ?_
            first | (simp only [Act.put, List.setIfInBounds_toArray, List.set_cons_succ, List.set_cons_zero, hp]; done) | simp [Act.put, hp]
          refine AllOps.cons (fun x u hC hT hp K hK => ?_) ?_
          · simp [KnownTill, Region.binds, VRd] at hp
            clear hT
            go_simp
            refine hK _ _ _ hC (Below.refl _ _) (by exact rfl) ?_
            first | (simp only [Act.put, List.setIfInBounds_toArray, List.set_cons_succ, List.set_cons_zero, hp]; done) | simp [Act.put, hp]
          refine AllOps.cons (fun x u hC hT hp K hK => ?_) ?_
          · simp [KnownTill, Region.binds, VRd] at hp
            clear hT
            have cq := (hC.cell (p := ⟨b, o + (q + 2), none⟩) hblr).trans hk2
            go_simp
            refine hK _ _ _ hC (Below.refl _ _) (by exact rfl) ?_
            first | (simp only [Act.put, List.setIfInBounds_toArray, List.set_cons_succ, List.set_cons_zero, hp]; done) | simp [Act.put, hp]
          refine AllOps.cons (fun x u hC hT hp K hK => ?_) ?_
          · simp [KnownTill, Region.binds, VRd] at hp
            clear hT
            go_simp
            refine hK _ _ _ hC (Below.refl _ _) (by exact rfl) ?_
            first | (simp only [Act.put, List.setIfInBounds_toArray, List.set_cons_succ, List.set_cons_zero, hp]; done) | simp [Act.put, hp]
          refine AllOps.cons (fun x u hC hT hp K hK => ?_) ?_
          · clear hp hT
            go_simp
            refine hK _ _ _ hC (Below.refl _ _) (by exact rfl) ?_
            first | (simp only [Act.put, List.setIfInBounds_toArray, List.set_cons_succ, List.set_cons_zero]; done) | simp [Act.put]
          refine AllOps.cons (fun x u hC hT hp K hK => ?_) ?_
          · clear hp hT
            go_simp
            refine hK _ _ _ hC (Below.refl _ _) (by exact rfl) ?_
            first | (simp only [Act.put, List.setIfInBounds_toArray, List.set_cons_succ, List.set_cons_zero]; done) | simp [Act.put]
          refine AllOps.cons (fun x u hC hT hp K hK => ?_) ?_
          · simp [KnownTill, Region.binds, VRd] at hp
            clear hT
            go_simp
            refine hK _ _ _ hC (Below.refl _ _) (by exact rfl) ?_
            first | (simp only [Act.put, List.setIfInBounds_toArray, List.set_cons_succ, List.set_cons_zero, hp]; done) | simp [Act.put, hp]
          refine AllOps.cons (fun x u hC hT hp K hK => ?_) ?_
          · clear hp hT
            go_simp
            refine hK _ _ _ hC (Below.refl _ _) (by exact rfl) ?_
            first | (simp only [Act.put, List.setIfInBounds_toArray, List.set_cons_succ, List.set_cons_zero]; done) | simp [Act.put]
          refine AllOps.cons (fun x u hC hT hp K hK => ?_) ?_
          · simp [KnownTill, Region.binds, VRd] at hp
            clear hT
            go_simp
            refine hK _ _ _ hC (Below.refl _ _) (by exact rfl) ?_
            first | (simp only [Act.put, List.setIfInBounds_toArray, List.set_cons_succ, List.set_cons_zero, hp]; done) | simp [Act.put, hp]
          refine AllOps.cons (fun x u hC hT hp K hK => ?_) ?_
          · clear hp hT
            go_simp
            refine hK _ _ _ hC (Below.refl _ _) (by exact rfl) ?_
            first | (simp only [Act.put, List.setIfInBounds_toArray, List.set_cons_succ, List.set_cons_zero]; done) | simp [Act.put]
          refine AllOps.cons (fun x u hC hT hp K hK => ?_) ?_
          · simp [KnownTill, Region.binds, VRd] at hp
            clear hT
            go_simp
            refine hK _ _ _ hC (Below.refl _ _) (by exact rfl) ?_
            first | (simp only [Act.put, List.setIfInBounds_toArray, List.set_cons_succ, List.set_cons_zero, hp]; done) | simp [Act.put, hp]
          refine AllOps.cons (fun x u hC hT hp K hK => ?_) ?_
          · simp [KnownTill, Region.binds, VRd] at hp
            clear hT
            have t1 : ((q : Int) + 3).toNat = q + 3 := by omega
            have t2 : ((q : Int) + 3 + (M : Int)).toNat = q + 3 + M := by omega
            have g1 := gsl.1
            have g2 := gsl.2.1
            have g3 := gsl.2.2.1
            have g4 := gsl.2.2.2.1
            have g5 := gsl.2.2.2.2.1
            have g6 := gsl.2.2.2.2.2
            go_simp
            refine hK _ _ _ hC (Below.refl _ _) (by exact rfl) ?_
            first | (simp only [Act.put, List.setIfInBounds_toArray, List.set_cons_succ, List.set_cons_zero, hp, t1, t2, g4, Nat.add_sub_cancel_left]; done) | simp [Act.put, hp, t1, t2, g4, Nat.add_sub_cancel_left]
          refine AllOps.cons (fun x u hC hT hp K hK => ?_) ?_
          · simp [KnownTill, Region.binds, VRd] at hp
            clear hT
            go_simp
            refine (hcp u (HsubL.out.bt hC)).mono ?_
            rintro e wA ⟨A9, c9, rfl, own9, hb9⟩
            refine hK _ _ _ (Go.Proofs.Ythaamnkihnbgaaa.bt hC hb9) hb9 (by exact ⟨A9, c9, rfl, own9.fr hC.size⟩) ?_
            first | (simp only [Act.put, List.setIfInBounds_toArray, List.set_cons_succ, List.set_cons_zero, hp]; done) | simp [Act.put, hp]
          refine AllOps.cons (fun x u hC hT hp K hK => ?_) ?_
          · simp [KnownTill, Region.binds, VRd] at hp
            clear hT
            obtain ⟨h5, Ac, cc, h14, hfr⟩ := hp
            go_simp
            refine hK (.agg #[.int .i64 z.toNat, .slice Ac M cc]) _ _ hC (Below.refl _ _) ⟨Ac, cc, rfl, hfr⟩ ?_
            simp [Act.put, h5, h14]
          refine AllOps.cons (fun x u hC hT hp K hK => ?_) ?_
          · clear hp hT
            go_simp
            refine hK _ _ _ (Go.Proofs.Ythaamnkihnbgaaa.bt hC (ba u (.cells #[.int .i64 0, .slice none 0 0] 24))) (ba u (.cells #[.int .i64 0, .slice none 0 0] 24)) ⟨u.heap.size, rfl, hC.size, Blk.new u _ _⟩ ?_
            first | (simp only [Act.put, List.setIfInBounds_toArray, List.set_cons_succ, List.set_cons_zero]; done) | simp [Act.put]
          refine AllOps.cons (fun x u hC hT hp K hK => ?_) ?_
          · simp [KnownTill, Region.binds, VRd] at hp
            clear hT
            have h16 : NwAt u wq.heap.size (x 16) := by first | exact hp.1 | exact hp.2.1 | exact hp.2.2.1
            have h15 : RcAt u wq.heap.size z.toNat M L (x 15) := by first | exact hp.1 | exact hp.2.1 | exact hp.2 | exact hp.2.2.1
            clear hp
            obtain ⟨g, h16, hgB, kz⟩ := h16
            obtain ⟨Ac, cc, h15, hfr⟩ := h15
            have s0 := kz.cell 0
            have f0 := kz.frozen 0
            have kz1 := kz.set_ 0 (.int .i64 z.toNat)
            have s1 := kz1.cell 1
            have f1 := kz1.frozen 1
            have kz2 := kz1.set_ 1 (.slice Ac M cc)
            simp only [List.getElem?_toArray, List.getElem?_cons_zero, List.getElem?_cons_succ, List.setIfInBounds_toArray, List.set_cons_zero, List.set_cons_succ] at s0 s1 kz1 kz2
            have frA : ∀ B A l, FrB u B A l → FrB ((u.setCell ⟨g, 0, none⟩ (.int .i64 z.toNat)).setCell ⟨g, 1, none⟩ (.slice Ac M cc)) B A l := fun B A l h => (h.kept (gset u g 0 (.int .i64 z.toNat)) (fun r e => by cases e; exact .inr (fun cs fz e => by unfold Blk at kz; rw [kz] at e; cases e))).kept (gset _ g 1 (.slice Ac M cc)) (fun r e => by cases e; exact .inr (fun cs fz e => by unfold Blk at kz1; rw [kz1] at e; cases e))
            have fr2 := frA _ _ _ hfr
            have hbb := (hC.setCell (p := ⟨g, 0, none⟩) hgB (.int .i64 z.toNat)).setCell (p := ⟨g, 1, none⟩) hgB (.slice Ac M cc)
            have KF := Lib.hid kz2
            have FR := Lib.hid fr2
            have FA := Lib.hid frA
            have HBB := Lib.hid hbb
            clear kz kz1 kz2 hfr frA fr2 hbb
            go_simp
            refine hK undef _ _ HBB.out FA.out ⟨g, Ac, cc, h16, hgB, KF.out, FR.out⟩ ?_
            simp [Act.put, h15, h16]
          exact AllOps.nil
        case finR =>
          intro x_ W7 hC hV
          obtain ⟨gr, Ac, cc, e16, hgr, kr, hfr⟩ : NewRec W7 wq.heap.size z.toNat M L (x_ 16) := hV 17 (by decide) rfl
          rw [e16]
          clear hV e16
          have hb7 : Below w.heap.size w W7 := bt hbwq hC
          have hrs7 := hrsq.below hC
          have c70 := kr.cell 0
          have c71 := kr.cell 1
          simp only [List.getElem?_toArray, List.getElem?_cons_zero, List.getElem?_cons_succ] at c70 c71
          have hsub7 := fun m => bs_sub (HBS.out.bt hb7) q m
          simp only [show data.drop q = x :: y :: z :: t from by have := Hdd.out 0; simpa using this] at hsub7
          obtain ⟨X, hX⟩ : ∃ X, X = (x :: y :: z :: t).take (7 + M) := ⟨_, rfl⟩
          have hsubX := hsub7 (7 + M)
          rw [← hX] at hsubX
          have hXl : X.length = 7 + M := by rw [hX, List.length_take, HM.out.2]; have := Hlong.out; omega
          obtain ⟨Wl, We, hWe⟩ : ∃ Wl We, writeR z.toNat L = (Wl, We) := ⟨_, _, rfl⟩
          have hw := refwrite_any z.toNat Ac L M cc W7 HLl.out.symm (by have := hMl.out; unfold maxLen; omega) hfr.bs
          rw [hWe] at hw
          have hkz : kindOf (x :: y :: z :: t) = z.toNat := num_one z
          have h7M : 7 + num ((x :: y :: z :: t).take 2) ≤ (x :: y :: z :: t).length := by rw [← HM.out.1, HM.out.2]; have := Hlong.out; omega
          have hno : ¬ (We = 0 ∧ Wl = X) → frontR (x :: y :: z :: t) = none := fun h => frontR_not h7M (by rw [hkz, ← HLd.out, hWe, ← HM.out.1, ← hX]; exact h)
          have hyes : We = 0 → Wl = X → frontR (x :: y :: z :: t) = some (z.toNat, L, 7 + M) := fun h1 h2 => by
            have := frontR_yes h7M (by rw [hkz, ← HLd.out, hWe]; exact h1) (by rw [hkz, ← HLd.out, hWe, ← HM.out.1, ← hX]; exact h2)
            rw [this, hkz, ← HLd.out, ← HM.out.1]
          have HNO := Lib.hid hno
          have HYES := Lib.hid hyes
          have HXl := Lib.hid hXl
          have Hgr := Lib.hid hgr
          clear hX hkz h7M hno hyes hWe hsub7 hXl hcp gsl gq2 gq0 w2 w3 wM3 wz hk2 hblr hgr
          go_wp2_with fail
          refine hw.mono ?_
          rintro e W8 ⟨Aw, cw, rfl, ownw, hb8⟩
          clear hw
          have kr8 := kr.below hb8 kr.lt
          have hfr8 := (hfr.base hbwq.size).below hb8
          have hrs8 := hrs7.below hb8
          have hb80 := bt hb7 hb8
          have hX8 := hsubX.bt hb8
          clear kr hfr hrs7 hb7 c70 c71 hsubX
          dsimp only at ownw
          have cv1 : ∀ m, (convert 22 9 (.slice Aw Wl.length cw)).run Try.prog (W8.drewN m) = .ok (.string ⟨Wl.toArray⟩) (W8.drewN m) := fun m => conv_bytes Try.underlying22 Try.underlying5 Try.underlying9 (ownw.bs.drewN m) cw
          have cv2 : ∀ m, (convert 22 9 (.slice (some ⟨b, o + q, none⟩) (7 + M) (c - q))).run Try.prog (W8.drewN m) = .ok (.string ⟨X.toArray⟩) (W8.drewN m) := fun m => by
            rw [← HXl.out]
            exact conv_bytes Try.underlying22 Try.underlying5 Try.underlying9 (hX8.drewN m) (c - q)
          have t1 : ((q : Int) + 7 + (M : Int)).toNat = q + 7 + M := by omega
          have t2 : q + 7 + M - q = 7 + M := by omega
          have gc1 : (q : Int) + 7 + (M : Int) ≤ (c : Int) := by have := hcap.out; omega
          have gc2 : (q : Int) ≤ (q : Int) + 7 + (M : Int) := by omega
          have gc3 : ¬ (c = q) := by have := hcap.out; have := H7.out; omega
          have Hc2 := Lib.hid gc3
          by_cases hE : We = 0
          · by_cases hWX : Wl = X
            · have hfs := HYES.out hE hWX
              subst hE hWX
              go_wp2_with fail
              go_quiet (fail)
              have hrs9 := hrs8.below (bl_drewN W8 nq)
              have hb9 := bt hb80 (bl_drewN W8 nq)
              have kr9 := kr8.below (bl_drewN W8 nq) kr8.lt
              have hfr9 := hfr8.below (bl_drewN W8 nq)
              clear hrs8 hb80 kr8 hfr8 hX8 ownw cv1 cv2
              obtain ⟨W9, hW9⟩ : ∃ W9, W9 = W8.drewN nq := ⟨_, rfl⟩
              rw [← hW9] at hrs9 hb9 kr9 hfr9 ⊢
              clear hW9
              have c90 := kr9.cell 0
              have c91 := kr9.cell 1
              simp only [List.getElem?_toArray, List.getElem?_cons_zero, List.getElem?_cons_succ] at c90 c91
              obtain ⟨Wa, hWa⟩ : ∃ Wa, Wa = W9.alloc (.cells #[.int .i64 z.toNat, .slice Ac M cc] 24) := ⟨_, rfl⟩
              have n0 : Wa.cell? ⟨W9.heap.size, 0, none⟩ = some (.int .i64 z.toNat) := by rw [hWa]; exact (Blk.new _ _ _).cell 0
              have n1 : Wa.cell? ⟨W9.heap.size, 1, none⟩ = some (.slice Ac M cc) := by rw [hWa]; exact (Blk.new _ _ _).cell 1
              have hba : Below W9.heap.size W9 Wa := by rw [hWa]; exact ba _ _
              obtain ⟨A8, c8, wx, hrun8, hr8, row, hg8, hrow8⟩ := recs_more (hrs9.below hba) rs.length rfl (by have := hrl.out; have := hm.out; have := H7.out; omega) z.toNat Ac M cc W9.heap.size L HLl.out.symm (hfr9.below hba) (Nat.le_trans hb9.size hba.size) n0 n1
              have hbx : Below w.heap.size w wx := (bt hb9 hba).grown hg8 (bt hb9 hba).size (fun r e => (hrow8 r e).1)
              rw [hWa] at hrun8
              obtain ⟨k', rfl⟩ : ∃ k', k = k' + 1 := ⟨k - 1, by have := hk.out; have := H7.out; omega⟩
              have hRk2 : R = ((rs ++ [((z.toNat : Int), L)]) ++ (readL k' ((x :: y :: z :: t).drop (7 + M))).1, q + (7 + M) + (readL k' ((x :: y :: z :: t).drop (7 + M))).2) := by
                rw [hRk.out, readL_some hfs]; simp only [List.append_assoc, List.singleton_append, Nat.add_assoc]
              rw [← Hdd.out] at hRk2
              have HRk2 := Lib.hid hRk2
              have Hfs := Lib.hid hfs
              have HR8 := Lib.hid hr8
              clear hRk hRk2 hfs n0 n1 hba hWa hg8 hrow8 kr9 hfr9 hrs9 hr8 Ret0
              go_wp2_with (at_builtin; refine Lib.wpList_append_run _ rfl (.tmp 75) (.tmp 77) 30 30 rfl _ _ rfl rfl _ _ hrun8 ?_)
              go_roundw
              case rel => exact ⟨q + (7 + M), k', rs ++ [((z.toNat : Int), L)], A8, c8, by have := Hlong.out; omega, Lib.hid (by have := hk.out; omega), Lib.hid (by have := hrl.out; rw [List.length_append, List.length_singleton]; omega), HRk2, by rw [List.length_append, List.length_singleton], by go_num, HR8.out, hbx⟩
              case measure => simp [intOf]; have := Hlong.out; omega
            · have hR0 := Ret0.out (HNO.out (fun h => hWX h.2))
              have hse : (Wl == X) = false := beq_eq_false_iff_ne.2 hWX
              subst hE
              clear Ret0 hRk
              subst hR0
              go_wp2_with fail
              go_quiet (fail)
              have hrs9 := hrs8.below (bl_drewN W8 nq)
              have hb9 := bt hb80 (bl_drewN W8 nq)
              clear hrs8 hb80 kr8 hfr8 hX8 ownw cv1 cv2
              go_wp2
              go_ret2
              exact ⟨A4, c4, rfl, hrs9.list, hb9, hrs9.cap⟩
          · have hR0 := Ret0.out (HNO.out (fun h => hE h.1))
            have hEb : (We != 0) = true := bne_iff_ne.2 hE
            clear Ret0 hRk
            subst hR0
            go_wp2_with fail
            go_quiet (fail)
            have hrs9 := hrs8.below (bl_drewN W8 nq)
            have hb9 := bt hb80 (bl_drewN W8 nq)
            clear hrs8 hb80 kr8 hfr8 hX8 ownw cv1 cv2
            go_wp2
            go_ret2
            exact ⟨A4, c4, rfl, hrs9.list, hb9, hrs9.cap⟩
      · have hlI : (N : Int) < (q : Int) + 7 + (M : Int) := by omega
        have hR0 := Ret0.out (frontR_short (by rw [← HM.out.1, HM.out.2]; omega))
        clear Ret0 hRk
        subst hR0
        go_wp2
        go_ret2
        exact ⟨A4, c4, rfl, hrsq.list, hbwq, hrsq.cap⟩
    · have h7I : ¬ (q : Int) + 7 ≤ (N : Int) := by omega
      have hR0 := Ret0.out (by unfold frontR; rw [if_pos (by rw [List.length_drop, ← hN.out]; omega)])
      go_wp2
      go_ret2
      exact ⟨A4, c4, rfl, hrs.list, hbw, hrs.cap⟩
end Go.Proofs.Ythaamnkihnbgaaa

