/- Layer 12: a table behind calls. -/
import Derived.Test.YtaeofacaljeckaaKj
import Derived.Test.YtaeofacaljeckaaInvX
namespace Go.Proofs.Ytaeofacaljeckaa
open Go.RowKit Go.Maps
set_option linter.unusedVariables false
set_option linter.unusedSimpArgs false

theorem ltf {a : Bool} (h : a = false) (h2 : a = true) : False := by rw [h] at h2; cases h2
def stepL (L : List LRow) (op : OpV) : List LRow := if op.k = 0 then (takeL L op.o op.y op.a).2 else dropL L op.o
def playL (ops : List OpV) : List LRow := (ops.take 100).foldl stepL []
theorem stepL_snoc (ops : List OpV) (j : Nat) (h : j < ops.length) : (ops.take (j + 1)).foldl stepL [] = stepL ((ops.take j).foldl stepL []) ops[j] := by
  rw [take_snoc ops j h, List.foldl_append]; rfl

def VPl (g b o j n c : Nat) (ow ky : Int) (al : Bool) (r : Int) (L' : List LRow) (w0 : World) (i : Nat) (v : Value) (w : World) : Prop :=
  match i with
  | 0 => v = .pointer (some ⟨g, 0, none⟩)
  | 1 => v = .slice (some ⟨b, o, none⟩) n c
  | 2 => v = .int .i64 j
  | 3 => v = .pointer (some ⟨b, o + j * 4, none⟩)
  | 4 => v = .pointer (some ⟨b, o + j * 4 + 1, none⟩)
  | 5 => v = .int .i64 ow
  | 6 => v = .slice (some ⟨b, o, none⟩) n c
  | 7 => v = .int .i64 j
  | 8 => v = .pointer (some ⟨b, o + j * 4, none⟩)
  | 9 => v = .pointer (some ⟨b, o + j * 4 + 2, none⟩)
  | 10 => v = .int .i64 ky
  | 11 => v = .slice (some ⟨b, o, none⟩) n c
  | 12 => v = .int .i64 j
  | 13 => v = .pointer (some ⟨b, o + j * 4, none⟩)
  | 14 => v = .pointer (some ⟨b, o + j * 4 + 3, none⟩)
  | 15 => v = .bool al
  | 16 => v = .int .i64 r ∧ Tab w g L' ∧ w0.grownBy w (some g)
  | _ => True

def EPl (k : Nat) (u u' : World) : Prop := match k with
  | 16 => True
  | _ => u' = u
def TPl (w0 : World) (j : Nat) (u : World) : Prop := match j with
  | 5 => u = w0
  | 10 => u = w0
  | 15 => u = w0
  | 16 => u = w0
  | _ => True
theorem VPl.mono {g b o j n c : Nat} {ow ky : Int} {al : Bool} {r : Int} {L' : List LRow} {w0 : World} {k i : Nat} {v : Value} {u u' : World} (he : EPl k u u') (hik : i ≠ k) (h : VPl g b o j n c ow ky al r L' w0 i v u) : VPl g b o j n c ow ky al r L' w0 i v u' := by
  unfold EPl at he
  split at he
  · unfold VPl at h ⊢
    split at h <;> first | with_reducible exact h | exact absurd rfl hik
  · rw [he]; exact h
theorem TPl.mono {w0 : World} {k j : Nat} {u u' : World} (he : EPl k u u') (hkj : k ≠ j) (h : (j = 5 ∨ j = 10 ∨ j = 15) ∧ k = 16 → False) (hv : TPl w0 j u) : TPl w0 j u' := by
  unfold EPl at he
  split at he
  · unfold TPl at hv ⊢
    split at hv
    · exact (h ⟨.inl rfl, rfl⟩).elim
    · exact (h ⟨.inr (.inl rfl), rfl⟩).elim
    · exact (h ⟨.inr (.inr rfl), rfl⟩).elim
    · exact absurd rfl hkj
    · trivial
  · rw [he]; exact hv


set_option maxRecDepth 100000 in
set_option maxHeartbeats 4000000 in
theorem played_any (A : Option Addr) (ops : List OpV) (c : Nat) (w : World) (h : OpsAt w A ops) :
    Calls Try.prog 21 #[.slice A ops.length c] w fun e w' => e = .returned (.pointer (some ⟨w.heap.size, 0, none⟩)) ∧ Tab w' w.heap.size (playL ops) ∧ Below w.heap.size w w' := by
  have hlen := h.1
  unfold maxLen at hlen
  go_enter Try.func21, Try.ntmps21
  go_wp2_with fail
  refine (tnew_any w).mono ?_
  rintro e w1 ⟨rfl, hT1, hb1⟩
  go_wp2_with fail
  go_loopw [4] (fun i wr => ∃ (j : Nat) (L : List LRow), j ≤ ops.length ∧ j ≤ 100 ∧ i = .int .i64 j ∧ Hid ((ops.take j).foldl stepL [] = L) ∧ Tab wr w.heap.size L ∧ Below w.heap.size w wr) (fun i _ => 100 - (intOf i).toNat)
  case atStart => exact ⟨0, [], Nat.zero_le _, by omega, rfl, rfl, hT1, hb1⟩
  case round =>
    clear hT1 hb1
    obtain ⟨j, L, hj, hj1, rfl, hr, hT, hb⟩ := hrel
    have HD : j = ops.length ∨ j = 100 → Hid (playL ops = L) := fun hh => by
      have : ops.take 100 = ops.take j := by
        rcases hh with h1 | h1
        · rw [List.take_of_length_le (by omega), List.take_of_length_le (by omega)]
        · rw [h1]
      unfold playL; rw [this]; exact hr
    have HDD := Lib.hid HD
    clear HD
    have hbg := hb
    by_cases hjl : j < ops.length
    · by_cases hj3 : j < 100
      · obtain ⟨b, o, rfl, hlt, hcs⟩ := (h.below hbg).2.2 (by omega)
        obtain ⟨q0, q1, q2, q3⟩ := hcs j hjl
        have hok := h.2.1 _ (List.getElem_mem hjl)
        have hnx := stepL_snoc ops j hjl
        rw [hr.out] at hnx
        obtain ⟨op, hop⟩ : ∃ op, op = ops[j] := ⟨_, rfl⟩
        rw [← hop] at q0 q1 q2 q3 hok hnx
        have Hnx := Lib.hid hnx
        obtain ⟨n, hn⟩ : ∃ n, n = ops.length := ⟨_, rfl⟩
        rw [← hn] at hjl ⊢
        have Hn := Lib.hid hn
        clear hop hcs hnx hn hr
        have hjI : (j : Int) < (n : Int) := by omega
        have hj3I : (j : Int) < 100 := by omega
        obtain ⟨ok, oo, oy, oa⟩ := op
        simp only at q0 q1 q2 q3 Hnx
        by_cases hk0 : ok = 0
        · subst hk0
          obtain ⟨r, hr⟩ : ∃ r, r = takeL L oo oy oa := ⟨_, rfl⟩
          obtain ⟨rz, rL⟩ := r
          have htk := take_is w.heap.size L rL oo oy rz oa wr.drew hT ⟨hok.y1, hok.y2⟩ ⟨hok.o1, hok.o2⟩ hr.symm
          have Hr := Lib.hid hr
          have Htk := Lib.hid htk
          clear hr htk hok hT
          go_wp2_with fail
          refine wp_region_invT (F := ?FP) (V := VPl w.heap.size b o j n c oo oy oa rz rL wr.drew) (dead := fun _ => none) (T := TPl wr.drew) (C := fun u => True) (E := EPl) (by kernel_rfl) (by kernel_rfl) (by kernel_rfl) (fun x => ?hFP) ?hmonoP ?hTmP ?hTP ?hCP ?stepP ?finP
          case hFP => simp only [mkA, Act.put, List.setIfInBounds_toArray, List.set_cons_succ, List.set_cons_zero, Nat.reduceAdd, Nat.zero_add]; first | with_reducible rfl | rfl
          case hmonoP => exact fun q' i v u u' he hik hwt hdd hv => VPl.mono he hik hv
          case hTmP => exact fun q j u u' he hkj hwt hv => TPl.mono he hkj (fun h => by obtain ⟨h1 | h1 | h1, h2⟩ := h <;> exact ltf hwt (by rw [h1, h2]; kernel_rfl)) hv
          case hTP => exact fun j => by unfold TPl; split <;> first | rfl | trivial
          case hCP => trivial
          case stepP =>
            refine AllOps.cons (fun x u hC hT hp K hK => ?_) ?_
            · clear hp hT
              go_simp
              refine hK _ _ _ hC rfl (by exact rfl) ?_
              first | (simp only [Act.put, List.setIfInBounds_toArray, List.set_cons_succ, List.set_cons_zero]; done) | simp [Act.put]
            refine AllOps.cons (fun x u hC hT hp K hK => ?_) ?_
            · clear hp hT
              go_simp
              refine hK _ _ _ hC rfl (by exact rfl) ?_
              first | (simp only [Act.put, List.setIfInBounds_toArray, List.set_cons_succ, List.set_cons_zero]; done) | simp [Act.put]
            refine AllOps.cons (fun x u hC hT hp K hK => ?_) ?_
            · clear hp hT
              go_simp
              refine hK _ _ _ hC rfl (by exact rfl) ?_
              first | (simp only [Act.put, List.setIfInBounds_toArray, List.set_cons_succ, List.set_cons_zero]; done) | simp [Act.put]
            refine AllOps.cons (fun x u hC hT hp K hK => ?_) ?_
            · simp [KnownTill, Region.binds, VPl] at hp
              clear hT
              go_simp
              refine hK _ _ _ hC rfl (by exact rfl) ?_
              first | (simp only [Act.put, List.setIfInBounds_toArray, List.set_cons_succ, List.set_cons_zero, hp]; done) | simp [Act.put, hp]
            refine AllOps.cons (fun x u hC hT hp K hK => ?_) ?_
            · simp [KnownTill, Region.binds, VPl] at hp
              clear hT
              go_simp
              refine hK _ _ _ hC rfl (by exact rfl) ?_
              first | (simp only [Act.put, List.setIfInBounds_toArray, List.set_cons_succ, List.set_cons_zero, hp]; done) | simp [Act.put, hp]
            refine AllOps.cons (fun x u hC hT hp K hK => ?_) ?_
            · simp [KnownTill, Region.binds, VPl] at hp
              obtain rfl : u = wr.drew := hT
              have qq := q1
              go_simp
              refine hK _ _ _ hC rfl (by exact rfl) ?_
              first | (simp only [Act.put, List.setIfInBounds_toArray, List.set_cons_succ, List.set_cons_zero, hp]; done) | simp [Act.put, hp]
            refine AllOps.cons (fun x u hC hT hp K hK => ?_) ?_
            · clear hp hT
              go_simp
              refine hK _ _ _ hC rfl (by exact rfl) ?_
              first | (simp only [Act.put, List.setIfInBounds_toArray, List.set_cons_succ, List.set_cons_zero]; done) | simp [Act.put]
            refine AllOps.cons (fun x u hC hT hp K hK => ?_) ?_
            · clear hp hT
              go_simp
              refine hK _ _ _ hC rfl (by exact rfl) ?_
              first | (simp only [Act.put, List.setIfInBounds_toArray, List.set_cons_succ, List.set_cons_zero]; done) | simp [Act.put]
            refine AllOps.cons (fun x u hC hT hp K hK => ?_) ?_
            · simp [KnownTill, Region.binds, VPl] at hp
              clear hT
              go_simp
              refine hK _ _ _ hC rfl (by exact rfl) ?_
              first | (simp only [Act.put, List.setIfInBounds_toArray, List.set_cons_succ, List.set_cons_zero, hp]; done) | simp [Act.put, hp]
            refine AllOps.cons (fun x u hC hT hp K hK => ?_) ?_
            · simp [KnownTill, Region.binds, VPl] at hp
              clear hT
              go_simp
              refine hK _ _ _ hC rfl (by exact rfl) ?_
              first | (simp only [Act.put, List.setIfInBounds_toArray, List.set_cons_succ, List.set_cons_zero, hp]; done) | simp [Act.put, hp]
            refine AllOps.cons (fun x u hC hT hp K hK => ?_) ?_
            · simp [KnownTill, Region.binds, VPl] at hp
              obtain rfl : u = wr.drew := hT
              have qq := q2
              go_simp
              refine hK _ _ _ hC rfl (by exact rfl) ?_
              first | (simp only [Act.put, List.setIfInBounds_toArray, List.set_cons_succ, List.set_cons_zero, hp]; done) | simp [Act.put, hp]
            refine AllOps.cons (fun x u hC hT hp K hK => ?_) ?_
            · clear hp hT
              go_simp
              refine hK _ _ _ hC rfl (by exact rfl) ?_
              first | (simp only [Act.put, List.setIfInBounds_toArray, List.set_cons_succ, List.set_cons_zero]; done) | simp [Act.put]
            refine AllOps.cons (fun x u hC hT hp K hK => ?_) ?_
            · clear hp hT
              go_simp
              refine hK _ _ _ hC rfl (by exact rfl) ?_
              first | (simp only [Act.put, List.setIfInBounds_toArray, List.set_cons_succ, List.set_cons_zero]; done) | simp [Act.put]
            refine AllOps.cons (fun x u hC hT hp K hK => ?_) ?_
            · simp [KnownTill, Region.binds, VPl] at hp
              clear hT
              go_simp
              refine hK _ _ _ hC rfl (by exact rfl) ?_
              first | (simp only [Act.put, List.setIfInBounds_toArray, List.set_cons_succ, List.set_cons_zero, hp]; done) | simp [Act.put, hp]
            refine AllOps.cons (fun x u hC hT hp K hK => ?_) ?_
            · simp [KnownTill, Region.binds, VPl] at hp
              clear hT
              go_simp
              refine hK _ _ _ hC rfl (by exact rfl) ?_
              first | (simp only [Act.put, List.setIfInBounds_toArray, List.set_cons_succ, List.set_cons_zero, hp]; done) | simp [Act.put, hp]
            refine AllOps.cons (fun x u hC hT hp K hK => ?_) ?_
            · simp [KnownTill, Region.binds, VPl] at hp
              obtain rfl : u = wr.drew := hT
              have qq := q3
              go_simp
              refine hK _ _ _ hC rfl (by exact rfl) ?_
              first | (simp only [Act.put, List.setIfInBounds_toArray, List.set_cons_succ, List.set_cons_zero, hp]; done) | simp [Act.put, hp]
            refine AllOps.cons (fun x u hC hT hp K hK => ?_) ?_
            · simp [KnownTill, Region.binds, VPl] at hp
              obtain rfl : u = wr.drew := hT
              go_simp
              refine Htk.out.mono ?_
              rintro e uA ⟨rfl, p1, p2⟩
              refine hK _ _ _ trivial trivial ⟨rfl, p1, p2⟩ ?_
              first | (simp only [Act.put, List.setIfInBounds_toArray, List.set_cons_succ, List.set_cons_zero, hp]; done) | simp [Act.put, hp]
            exact AllOps.nil
          case finP =>
            intro x u hC hV
            obtain ⟨e16, hT2, hg2⟩ : x 16 = .int .i64 rz ∧ Tab u w.heap.size rL ∧ wr.drew.grownBy u (some w.heap.size) := hV 16 (by decide) rfl
            have hb2 : Below w.heap.size w u := (hb.drew : Below w.heap.size w wr.drew).grown hg2 (hb.size) (fun k hk => by cases hk; exact Nat.le_refl _)
            have Hs : Hid ((ops.take (j + 1)).foldl stepL [] = rL) := Lib.hid (by rw [Hnx.out]; unfold stepL; rw [if_pos rfl]; show (takeL L oo oy oa).2 = rL; rw [← Hr.out])
            clear Htk Hnx hg2 hb hbg q0 q1 q2 q3 hV Hr e16
            go_wp2
            go_roundw
            case rel => exact ⟨j + 1, _, by omega, by omega, by go_num, Hs, hT2, hb2⟩
            case measure => simp [intOf]; omega
        · have hdr := drop_is w.heap.size L _ oo _ wr hT ⟨hok.o1, hok.o2⟩ rfl rfl
          have Hdr := Lib.hid hdr
          clear hdr hok hT
          go_wp2_with fail
          refine Hdr.out.mono ?_
          rintro e w2 ⟨rfl, hT2, hg2⟩
          have hb2 : Below w.heap.size w w2 := hb.grown hg2 hb.size (fun k hk => by cases hk; exact Nat.le_refl _)
          have Hs : Hid ((ops.take (j + 1)).foldl stepL [] = dropL L oo) := Lib.hid (by rw [Hnx.out]; unfold stepL; rw [if_neg (by exact hk0)])
          clear Hdr Hnx hg2 hb hbg q0 q1 q2 q3
          go_wp2
          go_roundw
          case rel => exact ⟨j + 1, _, by omega, by omega, by go_num, Hs, hT2, hb2⟩
          case measure => simp [intOf]; omega
      · have hj3I : ¬ (j : Int) < 100 := by omega
        have hjI : (j : Int) < (ops.length : Int) := by omega
        have HE := HDD.out (.inr (by omega))
        clear HDD hr
        go_wp2
        go_ret
        exact ⟨rfl, HE.out ▸ hT, hb⟩
    · have hjI : ¬ (j : Int) < (ops.length : Int) := by omega
      have HE := HDD.out (.inl (by omega))
      clear HDD hr
      go_wp2
      go_ret
      exact ⟨rfl, HE.out ▸ hT, hb⟩
end Go.Proofs.Ytaeofacaljeckaa
