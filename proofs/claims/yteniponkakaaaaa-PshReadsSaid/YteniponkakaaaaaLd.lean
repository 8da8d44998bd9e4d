/- A name out of bytes: both programs' Read. -/
import Derived.Test.YteniponkakaaaaaLc
namespace Go.Proofs.Yteniponkakaaaaa
open Go.RowKit
set_option linter.unusedVariables false
set_option linter.unusedSimpArgs false

theorem num_lt_take4 (l : List UInt8) (h4 : l.length = 4) (k : Nat) (hk : k < l.length) : num (l.take k) < 16777216 := by
  have h1 := num_lt (l.take k)
  have h2 : (l.take k).length ≤ 3 := by simp; omega
  have h3 : 256 ^ (l.take k).length ≤ 256 ^ 3 := Nat.pow_le_pow_right (by omega) h2
  have : (256 : Nat) ^ 3 = 16777216 := by decide
  omega
theorem num_lt4 (l : List UInt8) (h4 : l.length = 4) : num l < 4294967296 := by
  have h1 := num_lt l
  rw [h4] at h1
  have : (256 : Nat) ^ 4 = 4294967296 := by decide
  omega
theorem shl8_or32 (v x : Nat) (hv : v < 16777216) (hx : x < 256) : bits .or .u32 ((v : Int) * 256) (x : Int) = ((256 * v + x : Nat) : Int) := by
  have : ((v : Int) * 256) = ((2 ^ 8 * v : Nat) : Int) := by omega
  rw [this, u32_or_nat _ _ (by omega) (by omega), ← Nat.two_pow_add_eq_or_of_lt hx]

set_option maxHeartbeats 400000 in
theorem lnumber_any (A : Option Addr) (l : List UInt8) (n c : Nat) (w : World) (h4 : l.length = 4) (hn : n = 4) (h : Bs w w.heap.size A l) :
    Calls Try.prog 46 #[.slice A n c] w fun e w' => e = .returned (.int .u32 (num l)) ∧ w' = w := by
  subst hn
  obtain ⟨b, o, rfl, hb, hc⟩ := h (by omega)
  have H4 := Lib.hid h4
  have hm := num_lt_take4 l h4
  have hf : num l = num (l.take 4) := by rw [List.take_of_length_le (by omega)]
  have Hm := Lib.hid hm
  have Hc := Lib.hid hc
  rw [hf]
  clear h4 hm hc hf
  go_enter Try.func46, Try.ntmps46
  go_wp2
  go_loop [3, 8] (fun v i => ∃ k : Nat, k ≤ 4 ∧ i = .int .i64 k ∧ v = .int .u32 (num (l.take k))) (fun _ i => 4 - (intOf i).toNat)
  case atStart => exact ⟨0, Nat.zero_le _, rfl, by simp [num]⟩
  case round =>
    obtain ⟨k, hk, rfl, rfl⟩ := hrel
    by_cases hlt : k < 4
    · have hlt' : k < l.length := by rw [H4.out]; exact hlt
      have hck := Hc.out k hlt'
      have hx := (l[k]).toNat_lt
      have hv := Hm.out k hlt'
      go_wp2
      go_round
      case rel => exact ⟨k + 1, by omega, by go_num, by rw [take_snoc l k hlt', num_snoc, shl8_or32 _ _ hv hx]⟩
      case measure => simp [intOf]; omega
    · obtain rfl : k = 4 := by omega
      go_wp2
      go_ret
      exact ⟨rfl, rfl⟩

/-- What Read answers. -/
def rdL (l : List UInt8) : (Int × Nat × Nat) × Int :=
  if l.length < 9 then ((0, 0, 0), 11) else if 9 < l.length then ((0, 0, 0), 2) else
    if okL ((l.headD 0).toNat : Int) (num (l.drop 5)) = true then ((((l.headD 0).toNat : Int), num ((l.drop 1).take 4), num (l.drop 5)), 0) else ((0, 0, 0), 50)
theorem Bs.part {w : World} {B b o : Nat} {l : List UInt8} (h : Bs w B (some ⟨b, o, none⟩) l) (i n : Nat) (hi : i < l.length) : Bs w B (some ⟨b, o + i, none⟩) ((l.drop i).take n) := fun hn => by
  obtain ⟨b', o', e, hb, hc⟩ := h (by omega)
  cases e
  refine ⟨b, o + i, rfl, hb, fun j hj => ?_⟩
  rw [List.length_take, List.length_drop] at hj
  have := hc (i + j) (by omega)
  rw [Nat.add_assoc, this]
  simp [List.getElem_take, List.getElem_drop]

def HasLw (w : World) (g : Nat) : Prop := ∃ x y z, Blk w g 24 #[x, y, z]
def VLr (s B o c xb a q : Nat) (i : Nat) (v : Value) (w : World) : Prop :=
  match i with
  | 0 => v = .slice (some ⟨B, o, none⟩) 9 c
  | 1 => v = .pointer (some ⟨B, o, none⟩)
  | 2 => v = .int .u8 xb
  | 3 => v = .int .i64 xb
  | 4 => v = .slice (some ⟨B, o, none⟩) 9 c
  | 5 => v = .slice (some ⟨B, o + 1, none⟩) 4 (c - 1)
  | 6 => v = .int .u32 a
  | 7 => v = .slice (some ⟨B, o, none⟩) 9 c
  | 8 => v = .slice (some ⟨B, o + 5, none⟩) 4 (c - 5)
  | 9 => v = .int .u32 q
  | 10 => v = .agg #[.int .i64 xb, .int .u32 a, .int .u32 q]
  | 11 => v = .pointer (some ⟨s + 1, 0, none⟩) ∧ HasLw w (s + 1)
  | 12 => Blk w (s + 1) 24 #[.int .i64 xb, .int .u32 a, .int .u32 q]
  | _ => True
def ELr (s k : Nat) (u u' : World) : Prop := match k with
  | 11 => True
  | 12 => ∃ x y z, u' = ((u.setCell ⟨s + 1, 0, none⟩ x).setCell ⟨s + 1, 1, none⟩ y).setCell ⟨s + 1, 2, none⟩ z
  | _ => u' = u
def TLr (s j : Nat) (u : World) : Prop := match j with
  | 11 => u.heap.size = s + 1
  | _ => True
theorem VLr.mono {s B o c xb a q : Nat} {k i : Nat} {v : Value} {u u' : World} (he : ELr s k u u') (hik : i ≠ k) (h8 : i = 12 ∧ k = 11 → False) (hv : VLr s B o c xb a q i v u) : VLr s B o c xb a q i v u' := by
  unfold ELr at he
  split at he
  · unfold VLr at hv ⊢
    split at hv <;> first | exact hv | exact absurd rfl hik | exact absurd ⟨rfl, rfl⟩ h8
  · obtain ⟨x, y, z, rfl⟩ := he
    unfold VLr at hv ⊢
    split at hv <;> first | exact hv | exact absurd rfl hik | exact ⟨hv.1, let ⟨a, b, d, h⟩ := hv.2; ⟨x, y, z, h.set3⟩⟩
  · rw [he]; exact hv
theorem TLr.mono {s s' : Nat} {k j : Nat} {u u' : World} (he : ELr s' k u u') (hkj : k ≠ j) (hv : TLr s j u) : TLr s j u' := by
  unfold ELr at he
  split at he
  · unfold TLr at hv ⊢
    split at hv <;> first | exact absurd rfl hkj | trivial
  · obtain ⟨x, y, z, rfl⟩ := he
    unfold TLr at hv ⊢
    split at hv
    · simpa using hv
    · trivial
  · rw [he]; exact hv
theorem TLr.of {s : Nat} {u : World} (h : u.heap.size = s + 1) (j : Nat) : TLr s j u := by
  unfold TLr; split
  · exact h
  · trivial

set_option maxHeartbeats 1000000 in
theorem read_any (A : Option Addr) (l : List UInt8) (c : Nat) (w : World) (hlc : l.length ≤ c) (hcm : c ≤ 9223372036854775807) (h : Bs w w.heap.size A l) :
    Calls Try.prog 39 #[.slice A l.length c] w fun e w' => e = lvE (rdL l) ∧ Below w.heap.size w w' := by
  by_cases h1 : l.length < 9
  · rw [show rdL l = ((0, 0, 0), 11) from if_pos h1]
    go_enter Try.func39, Try.ntmps39
    go_wp2
    go_returns
    exact ⟨rfl, ba _ _⟩
  · by_cases h2 : 9 < l.length
    · rw [show rdL l = ((0, 0, 0), 2) by unfold rdL; rw [if_neg h1, if_pos h2]]
      go_enter Try.func39, Try.ntmps39
      go_wp2
      go_returns
      exact ⟨rfl, ba _ _⟩
    · have h9 : l.length = 9 := by omega
      have hR : rdL l = (if okL ((l.headD 0).toNat : Int) (num (l.drop 5)) = true then ((((l.headD 0).toNat : Int), num ((l.drop 1).take 4), num (l.drop 5)), 0) else ((0, 0, 0), 50)) := by
        unfold rdL; rw [if_neg h1, if_neg h2]
      obtain ⟨B, o, rfl, hB, hc⟩ := h (by omega)
      have hs1 := h.part 1 4 (by omega)
      have hs5 : Bs w w.heap.size (some ⟨B, o + 5, none⟩) (l.drop 5) := by
        have := h.part 5 4 (by omega)
        rwa [List.take_of_length_le (by rw [List.length_drop]; omega)] at this
      have hx0 := hc 0 (by omega)
      have hx : l[0] = l.headD 0 := by cases l with | nil => simp at h9 | cons a t => rfl
      rw [hx] at hx0
      have hxl := (l.headD 0).toNat_lt
      obtain ⟨xb, hxb⟩ : ∃ x, x = (l.headD 0).toNat := ⟨_, rfl⟩
      obtain ⟨L1, hL1⟩ : ∃ L, L = (l.drop 1).take 4 := ⟨_, rfl⟩
      obtain ⟨L5, hL5⟩ : ∃ L, L = l.drop 5 := ⟨_, rfl⟩
      have g1 : L1.length = 4 := by rw [hL1]; simp; omega
      have g5 : L5.length = 4 := by rw [hL5]; simp; omega
      have n1 := num_lt4 L1 g1
      have n5 := num_lt4 L5 g5
      rw [← hL1] at hs1
      rw [← hL5] at hs5
      rw [← hxb, ← hL1, ← hL5] at hR
      rw [← hxb] at hx0 hxl
      obtain ⟨R, hRe⟩ : ∃ R, R = rdL l := ⟨_, rfl⟩
      have HR := Lib.hid (hRe.trans hR)
      rw [← hRe]
      clear hRe
      have q1 := fun (w' : World) (hb : Below w.heap.size w w') => lnumber_any (some ⟨B, o + 1, none⟩) L1 4 (c - 1) w' g1 rfl ((hs1.below hb).more hb.size)
      have q5 := fun (w' : World) (hb : Below w.heap.size w w') => lnumber_any (some ⟨B, o + 5, none⟩) L5 4 (c - 5) w' g5 rfl ((hs5.below hb).more hb.size)
      clear hx hxb hL1 hL5 hR hc h g1 g5
      have h9c : 9 ≤ c := by omega
      have H9 := Lib.hid h9
      rw [h9]
      clear h1 h2 h9 hlc
      have Hq1 := Lib.hid q1
      have Hq5 := Lib.hid q5
      clear q1 q5
      have i1 : ¬ (c = 5) := by omega
      have i2 : (5 : Int) ≤ (c : Int) := by omega
      have i3 : (9 : Int) ≤ (c : Int) := by omega
      have hbw := (ba w (.cells #[.int .i64 0, .int .u32 0, .int .u32 0] 24))
      have k1 := Blk.new w 24 #[.int .i64 0, .int .u32 0, .int .u32 0]
      go_enter Try.func39, Try.ntmps39
      go_wp2_with fail
      have hsz : (w.alloc (.cells #[.int .i64 0, .int .u32 0, .int .u32 0] 24)).drew.heap.size = w.heap.size + 1 := by show (w.alloc _).heap.size = _; simp
      generalize (w.alloc (.cells #[.int .i64 0, .int .u32 0, .int .u32 0] 24)) = w1 at hbw k1 hsz ⊢
      have hsz' : w1.heap.size = w.heap.size + 1 := hsz
      refine wp_region_invT (F := ?FR) (V := VLr w.heap.size B o c xb (num L1) (num L5)) (dead := fun _ => none) (T := TLr w.heap.size) (C := fun u => Blk u w.heap.size 24 #[.int .i64 0, .int .u32 0, .int .u32 0] ∧ Below w.heap.size w u ∧ w.heap.size + 1 ≤ u.heap.size) (E := ELr w.heap.size) (by kernel_rfl) (by kernel_rfl) (by kernel_rfl) (fun x => ?hFR) ?hmonoR ?hTmR ?hTR ?hCR ?stepR ?finR
      case hFR => simp only [mkA, Act.put, List.setIfInBounds_toArray, List.set_cons_succ, List.set_cons_zero, Nat.reduceAdd, Nat.zero_add]; first | with_reducible rfl | rfl
      case hmonoR => exact fun k i v u u' he hik hwt hdd hv => VLr.mono he hik (fun h => ltf hwt (by rw [h.1, h.2]; kernel_rfl)) hv
      case hTmR => exact fun k j u u' he hkj hwt hv => TLr.mono he hkj hv
      case hTR => exact fun j => TLr.of hsz j
      case hCR => exact ⟨k1, bt hbw (below_drew _), by show _ ≤ w1.heap.size; omega⟩
      case stepR =>
        refine AllOps.cons (fun x u hC hT hp K hK => ?_) ?_
        · clear hp hT
          go_simp
          refine hK _ _ _ hC (by rfl) (by exact rfl) ?_
          first | (simp only [Act.put, List.setIfInBounds_toArray, List.set_cons_succ, List.set_cons_zero]; done) | simp [Act.put]
        refine AllOps.cons (fun x u hC hT hp K hK => ?_) ?_
        · simp [KnownTill, Region.binds, VLr] at hp
          clear hT
          go_simp
          refine hK _ _ _ hC (by rfl) (by exact rfl) ?_
          first | (simp only [Act.put, List.setIfInBounds_toArray, List.set_cons_succ, List.set_cons_zero, hp]; done) | simp [Act.put, hp]
        refine AllOps.cons (fun x u hC hT hp K hK => ?_) ?_
        · simp [KnownTill, Region.binds, VLr] at hp
          clear hT
          have c0 : u.cell? ⟨B, o, none⟩ = some (.int .u8 (xb : Int)) := by rw [hC.2.1.cell (p := ⟨B, o, none⟩) hB]; exact hx0
          go_simp
          refine hK _ _ _ hC (by rfl) (by exact rfl) ?_
          first | (simp only [Act.put, List.setIfInBounds_toArray, List.set_cons_succ, List.set_cons_zero, hp]; done) | simp [Act.put, hp]
        refine AllOps.cons (fun x u hC hT hp K hK => ?_) ?_
        · simp [KnownTill, Region.binds, VLr] at hp
          clear hT
          have hwm : IntKind.i64.wrap (xb : Int) = (xb : Int) := IntWalk.i64_in _ (by omega)
          go_simp
          refine hK _ _ _ hC (by rfl) (by exact rfl) ?_
          first | (simp only [Act.put, List.setIfInBounds_toArray, List.set_cons_succ, List.set_cons_zero, hp]; done) | simp [Act.put, hp]
        refine AllOps.cons (fun x u hC hT hp K hK => ?_) ?_
        · clear hp hT
          go_simp
          refine hK _ _ _ hC (by rfl) (by exact rfl) ?_
          first | (simp only [Act.put, List.setIfInBounds_toArray, List.set_cons_succ, List.set_cons_zero]; done) | simp [Act.put]
        refine AllOps.cons (fun x u hC hT hp K hK => ?_) ?_
        · simp [KnownTill, Region.binds, VLr] at hp
          clear hT
          have i6 : ¬ (c = 1) := by omega
          go_simp
          refine hK _ _ _ hC (by rfl) (by exact rfl) ?_
          first | (simp only [Act.put, List.setIfInBounds_toArray, List.set_cons_succ, List.set_cons_zero, hp]; done) | simp [Act.put, hp]
        refine AllOps.cons (fun x u hC hT hp K hK => ?_) ?_
        · simp [KnownTill, Region.binds, VLr] at hp
          clear hT
          go_simp
          refine (Hq1.out u hC.2.1).mono ?_
          rintro e wA ⟨rfl, rfl⟩
          refine hK _ _ _ hC (by rfl) (by exact rfl) ?_
          first | (simp only [Act.put, List.setIfInBounds_toArray, List.set_cons_succ, List.set_cons_zero, hp]; done) | simp [Act.put, hp]
        refine AllOps.cons (fun x u hC hT hp K hK => ?_) ?_
        · clear hp hT
          go_simp
          refine hK _ _ _ hC (by rfl) (by exact rfl) ?_
          first | (simp only [Act.put, List.setIfInBounds_toArray, List.set_cons_succ, List.set_cons_zero]; done) | simp [Act.put]
        refine AllOps.cons (fun x u hC hT hp K hK => ?_) ?_
        · simp [KnownTill, Region.binds, VLr] at hp
          clear hT
          go_simp
          refine hK _ _ _ hC (by rfl) (by exact rfl) ?_
          first | (simp only [Act.put, List.setIfInBounds_toArray, List.set_cons_succ, List.set_cons_zero, hp]; done) | simp [Act.put, hp]
        refine AllOps.cons (fun x u hC hT hp K hK => ?_) ?_
        · simp [KnownTill, Region.binds, VLr] at hp
          clear hT
          go_simp
          refine (Hq5.out u hC.2.1).mono ?_
          rintro e wA ⟨rfl, rfl⟩
          refine hK _ _ _ hC (by rfl) (by exact rfl) ?_
          first | (simp only [Act.put, List.setIfInBounds_toArray, List.set_cons_succ, List.set_cons_zero, hp]; done) | simp [Act.put, hp]
        refine AllOps.cons (fun x u hC hT hp K hK => ?_) ?_
        · simp [KnownTill, Region.binds, VLr] at hp
          clear hT
          go_simp
          refine hK _ _ _ hC (by rfl) (by exact rfl) ?_
          first | (simp only [Act.put, List.setIfInBounds_toArray, List.set_cons_succ, List.set_cons_zero, hp]; done) | simp [Act.put, hp]
        refine AllOps.cons (fun x u hC hT hp K hK => ?_) ?_
        · clear hp
          have hT1 : u.heap.size = w.heap.size + 1 := hT
          clear hT
          have kn := Blk.new u 24 #[.int .i64 0, .int .u32 0, .int .u32 0]
          rw [hT1] at kn
          have HT1 := Lib.hid hT1
          clear hT1
          go_simp
          refine hK (.pointer (some ⟨u.heap.size, 0, none⟩)) _ (u.alloc (.cells #[.int .i64 0, .int .u32 0, .int .u32 0] 24)) ⟨hC.1.alloc _, bt hC.2.1 (ba _ _), Nat.le_trans hC.2.2 (ba u (.cells #[.int .i64 0, .int .u32 0, .int .u32 0] 24)).size⟩ trivial ⟨by rw [HT1.out], _, _, _, kn⟩ ?_
          first | (simp only [Act.put, List.setIfInBounds_toArray, List.set_cons_succ, List.set_cons_zero]; done) | simp [Act.put]
        refine AllOps.cons (fun x u hC hT hp K hK => ?_) ?_
        · simp [KnownTill, Region.binds, VLr] at hp
          clear hT
          obtain ⟨⟨h11, x1, x2, x3, k2⟩, h10, hrest⟩ := hp
          clear hrest
          have d0 := k2.cell 0
          have d1 := k2.cell 1
          have d2 := k2.cell 2
          have f0 := k2.frozen 0
          have f1 := k2.frozen 1
          have f2 := k2.frozen 2
          simp at d0 d1 d2
          have hbl := k2.set3 (x := .int .i64 xb) (y := .int .u32 (num L1)) (z := .int .u32 (num L5))
          have hbb := below_set3 (g := w.heap.size + 1) hC.2.1 (by omega) (.int .i64 xb) (.int .u32 (num L1)) (.int .u32 (num L5))
          have hCC := hC.1
          clear k2
          go_simp
          refine hK undef _ (((u.setCell ⟨w.heap.size + 1, 0, none⟩ (.int .i64 xb)).setCell ⟨w.heap.size + 1, 1, none⟩ (.int .u32 (num L1))).setCell ⟨w.heap.size + 1, 2, none⟩ (.int .u32 (num L5))) ⟨((hCC.far (by show w.heap.size ≠ w.heap.size + 1; omega) _).far (by show w.heap.size ≠ w.heap.size + 1; omega) _).far (by show w.heap.size ≠ w.heap.size + 1; omega) _, hbb, by simpa using hC.2.2⟩ ⟨_, _, _, rfl⟩ hbl ?_
          simp [Act.put, h11, h10]
        exact AllOps.nil
      case finR =>
        intro x u hC hV
        have h11 : x 11 = .pointer (some ⟨w.heap.size + 1, 0, none⟩) := (hV 11 (by decide) rfl).1
        have k2 : Blk u (w.heap.size + 1) 24 #[.int .i64 xb, .int .u32 (num L1), .int .u32 (num L5)] := hV 12 (by decide) rfl
        rw [h11]
        obtain ⟨k0, hbu, _⟩ := hC
        clear hV h11 hs1 hs5 hx0
        have c0 := k2.cell 0
        have c1 := k2.cell 1
        have c2 := k2.cell 2
        simp at c0 c1 c2
        have hr := fun w => right_any xb (num L1) (num L5) w
        unfold lv at hr
        generalize num L1 = a at *
        generalize num L5 = q at *
        rcases hk : okL xb q with _ | _
        · rw [hk] at hr
          have HR2 : Hid (R = _) := Lib.hid (HR.out.trans (if_neg (by rw [hk]; exact Bool.false_ne_true)))
          clear hk HR
          go_wp2_with fail
          refine (hr _).mono ?_
          rintro e w2 ⟨rfl, hb2⟩
          have k3 := k2.below hb2 k2.lt
          have k4 := k0.below hb2 k0.lt
          have hbw2 := bt hbu hb2
          clear c0 c1 c2
          have c0 := k3.cell 0
          have c1 := k3.cell 1
          have c2 := k3.cell 2
          have d0 := k4.cell 0
          have d1 := k4.cell 1
          have d2 := k4.cell 2
          have f0 := k4.frozen 0
          have f1 := k4.frozen 1
          have f2 := k4.frozen 2
          simp at c0 c1 c2 d0 d1 d2
          have e0 := k4.set3_0 (x := .int .i64 0)
          have e1 := k4.set3_1 (x := .int .i64 0) (y := .int .u32 0)
          have e2 := k4.set3_2 (x := .int .i64 0) (y := .int .u32 0) (z := .int .u32 0)
          have hbf := below_set3 hbw2 (g := w.heap.size) (by omega) (.int .i64 0) (.int .u32 0) (.int .u32 0)
          clear k0 k1 k2 k3 k4 hbw hb2 hbu hbw2
          go_wp2
          refine bodyPost_ret (by simp [results, Try.results39, go_sem, e0, e1, e2]; try rfl) rfl ?_
          exact ⟨by rw [HR2.out]; rfl, hbf⟩
        · rw [hk] at hr
          have HR2 : Hid (R = _) := Lib.hid (HR.out.trans (if_pos hk))
          clear hk HR
          go_wp2_with fail
          refine (hr _).mono ?_
          rintro e w2 ⟨rfl, hb2⟩
          have k3 := k2.below hb2 k2.lt
          have k4 := k0.below hb2 k0.lt
          have hbw2 := bt hbu hb2
          clear c0 c1 c2
          have c0 := k3.cell 0
          have c1 := k3.cell 1
          have c2 := k3.cell 2
          have d0 := k4.cell 0
          have d1 := k4.cell 1
          have d2 := k4.cell 2
          have f0 := k4.frozen 0
          have f1 := k4.frozen 1
          have f2 := k4.frozen 2
          simp at c0 c1 c2 d0 d1 d2
          have e0 := k4.set3_0 (x := .int .i64 (xb : Nat))
          have e1 := k4.set3_1 (x := .int .i64 (xb : Nat)) (y := .int .u32 (a : Nat))
          have e2 := k4.set3_2 (x := .int .i64 (xb : Nat)) (y := .int .u32 (a : Nat)) (z := .int .u32 (q : Nat))
          have hbf := below_set3 hbw2 (g := w.heap.size) (by omega) (.int .i64 (xb : Nat)) (.int .u32 (a : Nat)) (.int .u32 (q : Nat))
          clear k0 k1 k2 k3 k4 hbw hb2 hbu hbw2
          go_wp2
          refine bodyPost_ret (by simp [results, Try.results39, go_sem, e0, e1, e2]; try rfl) rfl ?_
          exact ⟨by rw [HR2.out]; rfl, hbf⟩
theorem refget4 (A : Option Addr) (l : List UInt8) (n c : Nat) (w : World) (h4 : l.length = 4) (hn : n = 4) (h : Bs w w.heap.size A l) :
    Calls Try.prog 42 #[.slice A n c] w fun e w' => e = .returned (.tuple #[.int .u64 (num l), .int .i64 0]) ∧ w = w' := by
  subst hn
  have := refget_any A l c w (by omega) h
  rw [show getR l = (num l, 0) from if_pos (by omega), h4] at this
  exact this

set_option maxHeartbeats 1000000 in
theorem refread_any (A : Option Addr) (l : List UInt8) (c : Nat) (w : World) (hlc : l.length ≤ c) (hcm : c ≤ 9223372036854775807) (h : Bs w w.heap.size A l) :
    Calls Try.prog 41 #[.slice A l.length c] w fun e w' => e = lvE (rdL l) ∧ Below w.heap.size w w' := by
  by_cases h1 : l.length < 9
  · rw [show rdL l = ((0, 0, 0), 11) from if_pos h1]
    go_enter Try.func41, Try.ntmps41
    go_wp2
    go_returns
    exact ⟨rfl, ba _ _⟩
  · by_cases h2 : 9 < l.length
    · rw [show rdL l = ((0, 0, 0), 2) by unfold rdL; rw [if_neg h1, if_pos h2]]
      go_enter Try.func41, Try.ntmps41
      go_wp2
      go_returns
      exact ⟨rfl, ba _ _⟩
    · have h9 : l.length = 9 := by omega
      have hR : rdL l = (if okL ((l.headD 0).toNat : Int) (num (l.drop 5)) = true then ((((l.headD 0).toNat : Int), num ((l.drop 1).take 4), num (l.drop 5)), 0) else ((0, 0, 0), 50)) := by
        unfold rdL; rw [if_neg h1, if_neg h2]
      obtain ⟨B, o, rfl, hB, hc⟩ := h (by omega)
      have hs1 := h.part 1 4 (by omega)
      have hs5 : Bs w w.heap.size (some ⟨B, o + 5, none⟩) (l.drop 5) := by
        have := h.part 5 4 (by omega)
        rwa [List.take_of_length_le (by rw [List.length_drop]; omega)] at this
      have hx0 := hc 0 (by omega)
      have hx : l[0] = l.headD 0 := by cases l with | nil => simp at h9 | cons a t => rfl
      rw [hx] at hx0
      have hxl := (l.headD 0).toNat_lt
      obtain ⟨xb, hxb⟩ : ∃ x, x = (l.headD 0).toNat := ⟨_, rfl⟩
      obtain ⟨L1, hL1⟩ : ∃ L, L = (l.drop 1).take 4 := ⟨_, rfl⟩
      obtain ⟨L5, hL5⟩ : ∃ L, L = l.drop 5 := ⟨_, rfl⟩
      have g1 : L1.length = 4 := by rw [hL1]; simp; omega
      have g5 : L5.length = 4 := by rw [hL5]; simp; omega
      have n1 := num_lt4 L1 g1
      have n5 := num_lt4 L5 g5
      rw [← hL1] at hs1
      rw [← hL5] at hs5
      rw [← hxb, ← hL1, ← hL5] at hR
      rw [← hxb] at hx0 hxl
      obtain ⟨R, hRe⟩ : ∃ R, R = rdL l := ⟨_, rfl⟩
      have HR := Lib.hid (hRe.trans hR)
      rw [← hRe]
      clear hRe
      have q1 := fun (w' : World) (hb : Below w.heap.size w w') => refget4 (some ⟨B, o + 1, none⟩) L1 4 (c - 1) w' g1 rfl ((hs1.below hb).more hb.size)
      have q5 := fun (w' : World) (hb : Below w.heap.size w w') => refget4 (some ⟨B, o + 5, none⟩) L5 4 (c - 5) w' g5 rfl ((hs5.below hb).more hb.size)
      clear hx hxb hL1 hL5 hR hc h g1 g5
      have h9c : 9 ≤ c := by omega
      have H9 := Lib.hid h9
      rw [h9]
      clear h1 h2 h9 hlc
      have Hq1 := Lib.hid q1
      have Hq5 := Lib.hid q5
      clear q1 q5
      have i1 : ¬ (c = 5) := by omega
      have i6 : ¬ (c = 1) := by omega
      have i2 : (5 : Int) ≤ (c : Int) := by omega
      have i3 : (9 : Int) ≤ (c : Int) := by omega
      have hbw := (ba w (.cells #[.int .i64 0, .int .u32 0, .int .u32 0] 24))
      have k1 := Blk.new w 24 #[.int .i64 0, .int .u32 0, .int .u32 0]
      have hr := fun w => refright_any xb (num L1) (num L5) w
      unfold lv at hr
      generalize num L1 = a at *
      generalize num L5 = q at *
      rcases hk : okL xb q with _ | _
      · rw [hk] at hr
        have HR2 : Hid (R = _) := Lib.hid (HR.out.trans (if_neg (by rw [hk]; exact Bool.false_ne_true)))
        clear hk HR
        go_enter Try.func41, Try.ntmps41
        go_wp2_with fail
        refine (Hq1.out _ hbw).mono ?_
        rintro e w2 ⟨rfl, rfl⟩
        go_wp2_with fail
        refine (Hq5.out _ hbw).mono ?_
        rintro e w2 ⟨rfl, rfl⟩
        have hsz' : (w.alloc (.cells #[.int .i64 0, .int .u32 0, .int .u32 0] 24)).heap.size = w.heap.size + 1 := by simp
        obtain ⟨w1, hw1⟩ : ∃ x, x = w.alloc (.cells #[.int .i64 0, .int .u32 0, .int .u32 0] 24) := ⟨_, rfl⟩
        rw [← hw1] at hbw k1 hsz' ⊢
        clear hw1
        have hx1 : w1.cell? ⟨B, o, none⟩ = some (.int .u8 (xb : Int)) := by rw [hbw.cell (p := ⟨B, o, none⟩) hB]; exact hx0
        have u1 : IntKind.i64.wrap (xb : Int) = (xb : Int) := IntWalk.i64_in _ (by omega)
        go_wp2_with fail
        refine (hr _).mono ?_
        rintro e w2 ⟨rfl, hb2⟩
        have k4 := (k1.alloc (.cells #[.int .i64 xb, .int .u32 a, .int .u32 q] 24)).below hb2 (by show _ < (w1.alloc _).heap.size; simp; omega)
        have k3 := (Blk.new w1 24 #[.int .i64 xb, .int .u32 a, .int .u32 q]).below hb2 (by simp)
        rw [hsz'] at k3
        have hbw2 := bt hbw (bt (ba _ _) hb2)
        have c0 := k3.cell 0
        have c1 := k3.cell 1
        have c2 := k3.cell 2
        have d0 := k4.cell 0
        have d1 := k4.cell 1
        have d2 := k4.cell 2
        have f0 := k4.frozen 0
        have f1 := k4.frozen 1
        have f2 := k4.frozen 2
        simp at c0 c1 c2 d0 d1 d2
        have e0 := k4.set3_0 (x := .int .i64 0)
        have e1 := k4.set3_1 (x := .int .i64 0) (y := .int .u32 0)
        have e2 := k4.set3_2 (x := .int .i64 0) (y := .int .u32 0) (z := .int .u32 0)
        have hbf := below_set3 hbw2 (g := w.heap.size) (by omega) (.int .i64 0) (.int .u32 0) (.int .u32 0)
        have Hsz := Lib.hid hsz'
        skip
        clear k1 k3 k4 hbw hb2 hbw2
        go_wp2
        refine bodyPost_ret (by simp [results, Try.results41, go_sem, e0, e1, e2]; try rfl) rfl ?_
        exact ⟨by rw [HR2.out]; rfl, hbf⟩
      · rw [hk] at hr
        have HR2 : Hid (R = _) := Lib.hid (HR.out.trans (if_pos hk))
        clear hk HR
        go_enter Try.func41, Try.ntmps41
        go_wp2_with fail
        refine (Hq1.out _ hbw).mono ?_
        rintro e w2 ⟨rfl, rfl⟩
        go_wp2_with fail
        refine (Hq5.out _ hbw).mono ?_
        rintro e w2 ⟨rfl, rfl⟩
        have hsz' : (w.alloc (.cells #[.int .i64 0, .int .u32 0, .int .u32 0] 24)).heap.size = w.heap.size + 1 := by simp
        obtain ⟨w1, hw1⟩ : ∃ x, x = w.alloc (.cells #[.int .i64 0, .int .u32 0, .int .u32 0] 24) := ⟨_, rfl⟩
        rw [← hw1] at hbw k1 hsz' ⊢
        clear hw1
        have hx1 : w1.cell? ⟨B, o, none⟩ = some (.int .u8 (xb : Int)) := by rw [hbw.cell (p := ⟨B, o, none⟩) hB]; exact hx0
        have u1 : IntKind.i64.wrap (xb : Int) = (xb : Int) := IntWalk.i64_in _ (by omega)
        go_wp2_with fail
        refine (hr _).mono ?_
        rintro e w2 ⟨rfl, hb2⟩
        have k4 := (k1.alloc (.cells #[.int .i64 xb, .int .u32 a, .int .u32 q] 24)).below hb2 (by show _ < (w1.alloc _).heap.size; simp; omega)
        have k3 := (Blk.new w1 24 #[.int .i64 xb, .int .u32 a, .int .u32 q]).below hb2 (by simp)
        rw [hsz'] at k3
        have hbw2 := bt hbw (bt (ba _ _) hb2)
        have c0 := k3.cell 0
        have c1 := k3.cell 1
        have c2 := k3.cell 2
        have d0 := k4.cell 0
        have d1 := k4.cell 1
        have d2 := k4.cell 2
        have f0 := k4.frozen 0
        have f1 := k4.frozen 1
        have f2 := k4.frozen 2
        simp at c0 c1 c2 d0 d1 d2
        have e0 := k4.set3_0 (x := .int .i64 (xb : Nat))
        have e1 := k4.set3_1 (x := .int .i64 (xb : Nat)) (y := .int .u32 (a : Nat))
        have e2 := k4.set3_2 (x := .int .i64 (xb : Nat)) (y := .int .u32 (a : Nat)) (z := .int .u32 (q : Nat))
        have hbf := below_set3 hbw2 (g := w.heap.size) (by omega) (.int .i64 (xb : Nat)) (.int .u32 (a : Nat)) (.int .u32 (q : Nat))
        have Hsz := Lib.hid hsz'
        skip
        clear k1 k3 k4 hbw hb2 hbw2
        go_wp2
        refine bodyPost_ret (by simp [results, Try.results41, go_sem, e0, e1, e2]; try rfl) rfl ?_
        exact ⟨by rw [HR2.out]; rfl, hbf⟩
end Go.Proofs.Yteniponkakaaaaa
