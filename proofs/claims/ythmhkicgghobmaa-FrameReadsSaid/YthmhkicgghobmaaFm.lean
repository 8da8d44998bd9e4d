/- Layer 7: the document's Read. -/
import Derived.Test.YthmhkicgghobmaaFj
import Derived.Test.YthmhkicgghobmaaGetR
namespace Go.Proofs.Ythmhkicgghobmaa
open Go.RowKit
set_option linter.unusedVariables false
set_option linter.unusedSimpArgs false

theorem two_at (b : List UInt8) (i : Nat) (h : i + 1 < b.length) : (b.drop i).take 2 = [b[i], b[i + 1]] := by
  rw [List.drop_eq_getElem_cons (by omega), List.drop_eq_getElem_cons (by omega)]
  rfl
theorem num_two (x y : UInt8) : num [x, y] = 256 * x.toNat + y.toNat := by simp [num]
theorem refget_n (A : Option Addr) (l : List UInt8) (n c : Nat) (w : World) (hn : Hid (n = l.length)) (h1 : Hid (1 ≤ l.length ∧ l.length ≤ 8)) (h : Bs w w.heap.size A l) : Calls Try.prog 25 #[.slice A n c] w fun e w' => e = .returned (.tuple #[.int .u64 (num l), .int .i64 0]) ∧ w = w' := by
  have hg := refget_any A l c w (by have := h1.out; omega) h
  rw [show getR l = (num l, 0) from if_pos h1.out, ← hn.out] at hg
  exact hg
theorem ltf {a : Bool} (h : a = false) (h2 : a = true) : False := by rw [h] at h2; cases h2
theorem HasFr.bt {u u' : World} {g : Nat} (h : HasFr u g) (he : Below u.heap.size u u') : HasFr u' g := by obtain ⟨x, y, z, t, h⟩ := h; exact ⟨x, y, z, t, h.below he h.lt⟩

theorem rread_few (A : Option Addr) (n c : Nat) (w : World) (h14 : decide ((n : Int) < 14) = true) : Calls Try.prog 15 #[.slice A n c] w (RdO w 0 0 0 [] 11) := by
  have kb := Blk.new w 25 #[.int .u32 0, .int .i64 0, .int .i64 0, .slice none 0 0]
  have hbw := ba w (.cells #[.int .u32 0, .int .i64 0, .int .i64 0, .slice none 0 0] 25)
  have c0 := (kb).cell 0
  have c1 := (kb).cell 1
  have c2 := (kb).cell 2
  have c3 := (kb).cell 3
  simp only [List.getElem?_toArray, List.getElem?_cons_zero, List.getElem?_cons_succ] at c0 c1 c2 c3
  clear kb
  go_enter Try.func15, Try.ntmps15
  go_wp2
  refine bodyPost_ret (by simp [results, Try.results15, go_sem, c0, c1, c2, c3]; try rfl) rfl ?_
  exact ⟨none, 0, 0, rfl, Lib.hid rfl, Own.nil, hbw⟩

def VRa (B o n c p r K : Nat) (i : Nat) (v : Value) (w : World) : Prop :=
  match i with
  | 0 => v = .slice (some ⟨B, o, none⟩) n c
  | 1 => v = .pointer (some ⟨B, o + 8, none⟩)
  | 2 => v = .int .u8 p
  | 3 => v = .int .i64 p
  | 4 => v = .int .i64 ((256 : Int) * p)
  | 5 => v = .slice (some ⟨B, o, none⟩) n c
  | 6 => v = .pointer (some ⟨B, o + 9, none⟩)
  | 7 => v = .int .u8 r
  | 8 => v = .int .i64 r
  | 9 => v = .int .i64 K
  | 10 => v = .int .i64 K
  | _ => True
theorem VRa.mono {B o n c p r K : Nat} {i : Nat} {v : Value} {u u' : World} (hv : VRa B o n c p r K i v u) : VRa B o n c p r K i v u' := by
  unfold VRa at hv ⊢; split at hv <;> exact hv

def VRb (s B o n c p r p2 r2 S Q Z : Nat) (i : Nat) (v : Value) (w : World) : Prop :=
  match i with
  | 0 => v = .int .u64 S
  | 1 => v = .int .u32 S
  | 2 => v = .slice (some ⟨B, o, none⟩) n c
  | 3 => v = .pointer (some ⟨B, o + 4, none⟩)
  | 4 => v = .int .u8 p
  | 5 => v = .int .i64 p
  | 6 => v = .int .i64 ((256 : Int) * p)
  | 7 => v = .slice (some ⟨B, o, none⟩) n c
  | 8 => v = .pointer (some ⟨B, o + 5, none⟩)
  | 9 => v = .int .u8 r
  | 10 => v = .int .i64 r
  | 11 => v = .int .i64 Q
  | 12 => v = .slice (some ⟨B, o, none⟩) n c
  | 13 => v = .pointer (some ⟨B, o + 6, none⟩)
  | 14 => v = .int .u8 p2
  | 15 => v = .int .i64 p2
  | 16 => v = .int .i64 ((256 : Int) * p2)
  | 17 => v = .slice (some ⟨B, o, none⟩) n c
  | 18 => v = .pointer (some ⟨B, o + 7, none⟩)
  | 19 => v = .int .u8 r2
  | 20 => v = .int .i64 r2
  | 21 => v = .int .i64 Z
  | 22 => v = .agg #[.int .u32 S, .int .i64 Q, .int .i64 Z, .slice none 0 0]
  | 23 => v = .pointer (some ⟨s, 0, none⟩) ∧ HasFr w s
  | 24 => Blk w s 25 #[.int .u32 S, .int .i64 Q, .int .i64 Z, .slice none 0 0]
  | _ => True
def ERb (s k : Nat) (u u' : World) : Prop := match k with
  | 23 => ∃ ob, u' = u.alloc ob
  | 24 => HasFr u s ∧ ∃ x y z t, u' = set4 u s x y z t
  | _ => u' = u
def TRb (s j : Nat) (u : World) : Prop := match j with
  | 23 => u.heap.size = s
  | _ => True
theorem set4_size (u : World) (g : Nat) (x y z t : Value) : (set4 u g x y z t).heap.size = u.heap.size := by simp [set4]
theorem VRb.mono {s B o n c p r p2 r2 S Q Z : Nat} {k i : Nat} {v : Value} {u u' : World} (he : ERb s k u u') (hik : i ≠ k) (hv : VRb s B o n c p r p2 r2 S Q Z i v u) : VRb s B o n c p r p2 r2 S Q Z i v u' := by
  unfold ERb at he
  split at he
  · obtain ⟨ob, rfl⟩ := he
    unfold VRb at hv ⊢
    split at hv <;> first | with_reducible exact hv | exact absurd rfl hik | exact hv.alloc ob
  · obtain ⟨hf, x, y, z, t, rfl⟩ := he
    unfold VRb at hv ⊢
    split at hv <;> first | with_reducible exact hv | exact absurd rfl hik | exact ⟨hv.1, let ⟨_, _, _, _, h⟩ := hv.2; ⟨x, y, z, t, h.set4 x y z t⟩⟩
  · rw [he]; exact hv
theorem TRb.mono {s : Nat} {k j : Nat} {u u' : World} (he : ERb s k u u') (hkj : k ≠ j) (hv : TRb s j u) : TRb s j u' := by
  unfold ERb at he
  split at he
  · unfold TRb at hv ⊢
    split at hv <;> first | exact absurd rfl hkj | trivial
  · obtain ⟨hf, x, y, z, t, rfl⟩ := he
    unfold TRb at hv ⊢
    split at hv
    · rw [set4_size]; exact hv
    · trivial
  · rw [he]; exact hv
theorem TRb.of {s : Nat} {u : World} (h : u.heap.size = s) (j : Nat) : TRb s j u := by
  unfold TRb; split
  · exact h
  · trivial

def VRc (s B o n c M K S Q Z : Nat) (D : List UInt8) (i : Nat) (v : Value) (w : World) : Prop :=
  match i with
  | 0 => v = .pointer (some ⟨s, 3, none⟩)
  | 1 => v = .slice none 0 0
  | 2 => v = .slice (some ⟨B, o, none⟩) n c
  | 3 => v = .int .i64 K
  | 4 => v = .int .i64 M
  | 5 => v = .slice (some ⟨B, o + 10, none⟩) K (c - 10)
  | 6 => IsOwnN w s v D K
  | 7 => v = .pointer (some ⟨s, 3, none⟩)
  | 8 => HoldsF w s s S Q Z D K
  | _ => True
def ERc (s k : Nat) (u u' : World) : Prop := match k with
  | 6 => Below u.heap.size u u'
  | 8 => HasFr u s ∧ ∃ t, u' = u.setCell ⟨s, 3, none⟩ t
  | _ => u' = u
def TRc (s S Q Z j : Nat) (u : World) : Prop := match j with
  | 1 => Blk u s 25 #[.int .u32 S, .int .i64 Q, .int .i64 Z, .slice none 0 0]
  | _ => True
theorem IsOwnN.s1 {w : World} {s g : Nat} {v : Value} {D : List UInt8} {N : Nat} (h : IsOwnN w s v D N) (hf : HasFr w g) (t : Value) : IsOwnN (w.setCell ⟨g, 3, none⟩ t) s v D N := by
  obtain ⟨A, c, e, h⟩ := h
  obtain ⟨_, _, _, _, hb⟩ := hf
  exact ⟨A, c, e, h.far (p := ⟨g, 3, none⟩) (h.ne_blk hb frm_ne) t⟩
theorem VRc.mono {s B o n c M K S Q Z : Nat} {D : List UInt8} {k i : Nat} {v : Value} {u u' : World} (he : ERc s k u u') (hik : i ≠ k) (hv : VRc s B o n c M K S Q Z D i v u) : VRc s B o n c M K S Q Z D i v u' := by
  unfold ERc at he
  split at he
  · unfold VRc at hv ⊢
    split at hv <;> first | with_reducible exact hv | exact absurd rfl hik | exact IsOwnN.bt hv he | exact HoldsF.bt hv he
  · obtain ⟨hf, t, rfl⟩ := he
    unfold VRc at hv ⊢
    split at hv <;> first | with_reducible exact hv | exact absurd rfl hik | exact IsOwnN.s1 hv hf t
  · rw [he]; exact hv
theorem TRc.mono {s S Q Z : Nat} {k j : Nat} {u u' : World} (he : ERc s k u u') (h8 : j = 1 ∧ k = 8 → False) (hv : TRc s S Q Z j u) : TRc s S Q Z j u' := by
  unfold ERc at he
  split at he
  · unfold TRc at hv ⊢
    split at hv
    · exact hv.below he hv.lt
    · trivial
  · unfold TRc at hv ⊢
    split at hv
    · exact absurd ⟨rfl, rfl⟩ h8
    · trivial
  · rw [he]; exact hv
theorem TRc.of {s S Q Z : Nat} {u : World} (h : Blk u s 25 #[.int .u32 S, .int .i64 Q, .int .i64 Z, .slice none 0 0]) (j : Nat) : TRc s S Q Z j u := by
  unfold TRc; split
  · exact h
  · trivial

set_option maxHeartbeats 2000000 in
theorem rread_2 (B o c n K M M4 : Nat) (b : List UInt8) (w : World) (hn : Hid (n = b.length)) (hc : Hid (n ≤ c)) (hcm : Hid (c ≤ 9223372036854775807)) (h14 : Hid (14 ≤ n)) (hs : Bs w w.heap.size (some ⟨B, o, none⟩) b) (hK : Hid (num ((b.drop 8).take 2) = K)) (hM : Hid (M = 10 + K)) (hM4 : Hid (M4 = M + 4)) (l1 : n < M4) : Calls Try.prog 15 #[.slice (some ⟨B, o, none⟩) n c] w (RdO w 0 0 0 [] 11) := by
  have hlen : 14 ≤ b.length := by rw [← hn.out]; exact h14.out
  have hKb : Hid (K < 65536) := Lib.hid (by rw [← hK.out]; exact num2_lt _ (by rw [List.length_take]; omega))
  obtain ⟨B', o', eA, hB, hcell⟩ := hs (by omega)
  cases eA
  have cellAt : ∀ i, (hi : i < b.length) → ∀ u, Below w.heap.size w u → u.cell? ⟨B, o + i, none⟩ = some (.int .u8 ((b[i]'hi).toNat : Int)) := fun i hi u hu => (hu.cell (p := ⟨B, o + i, none⟩) hB).trans (hcell i hi)
  obtain ⟨p, hp8⟩ : ∃ p, p = b[8].toNat := ⟨_, rfl⟩
  obtain ⟨r, hr9⟩ : ∃ r, r = b[9].toNat := ⟨_, rfl⟩
  have a8 := cellAt 8 (by omega)
  have a9 := cellAt 9 (by omega)
  have eK : K = 256 * p + r := by rw [← hK.out, two_at b 8 (by omega), num_two, hp8, hr9]
  have p8 : p < 256 := by rw [hp8]; exact UInt8.toNat_lt _
  have r9 : r < 256 := by rw [hr9]; exact UInt8.toNat_lt _
  rw [← hp8] at a8
  rw [← hr9] at a9
  have wr1 : IntKind.i64.wrap (p : Int) = (p : Int) := IntWalk.i64_in _ (by omega)
  have wr2 : IntKind.i64.wrap (r : Int) = (r : Int) := IntWalk.i64_in _ (by omega)
  have wr3 : IntKind.i64.wrap ((256 : Int) * p) = (256 : Int) * p := IntWalk.i64_in _ (by omega)
  have wr4 : IntKind.i64.wrap ((256 : Int) * p + r) = (K : Int) := by rw [IntWalk.i64_in _ (by omega)]; omega
  have i8 : (8 : Int) < (n : Int) := by have := h14.out; omega
  have i9 : (9 : Int) < (n : Int) := by have := h14.out; omega
  have j8 : 8 < n := by omega
  have j9 : 9 < n := by omega
  have i14 : decide ((n : Int) < 14) = false := decide_eq_false (by have := h14.out; omega)
  have e3 : IntKind.i64.wrap (14 + (K : Int)) = (M4 : Int) := by rw [IntWalk.i64_in _ (by have := hKb.out; omega), hM4.out, hM.out]; omega
  have e4 : IntKind.i64.wrap (10 + (K : Int)) = (M : Int) := by rw [IntWalk.i64_in _ (by have := hKb.out; omega), hM.out]; omega
  have kr := Blk.new w 25 #[.int .u32 0, .int .i64 0, .int .i64 0, .slice none 0 0]
  have hbw := ba w (.cells #[.int .u32 0, .int .i64 0, .int .i64 0, .slice none 0 0] 25)
  have A8 := Lib.hid a8
  have A9 := Lib.hid a9
  have CellAt := Lib.hid cellAt
  have HB := Lib.hid hB
  clear hp8 hr9 eK p8 r9 hlen hcell a8 a9 cellAt hB
  go_enter Try.func15, Try.ntmps15
  go_wp2_with fail
  generalize (w.alloc (.cells #[.int .u32 0, .int .i64 0, .int .i64 0, .slice none 0 0] 25)) = w1 at hbw kr ⊢
  refine wp_region_invT (F := ?FA) (V := VRa B o n c p r K) (dead := fun _ => none) (T := fun _ _ => True) (C := fun u' => Below w1.heap.size w1 u') (E := fun _ u u' => u' = u) (by kernel_rfl) (by kernel_rfl) (by kernel_rfl) (fun x => ?hFA) ?hmonoA ?hTmA ?hTA ?hCA ?stepA ?finA
  case hFA => simp only [mkA, Act.put, List.setIfInBounds_toArray, List.set_cons_succ, List.set_cons_zero, Nat.reduceAdd, Nat.zero_add]; first | with_reducible rfl | rfl
  case hmonoA => exact fun k i v u u' he hik hwt hdd hv => VRa.mono hv
  case hTmA => exact fun _ _ _ _ _ _ _ _ => trivial
  case hTA => exact fun j => trivial
  case hCA => exact below_drew _
  case stepA =>
    refine AllOps.cons (fun x u hC hT hp KK hKK => ?_) ?_
    · clear hp hT
      go_simp
      refine hKK _ _ _ hC (by rfl) (by exact rfl) ?_
      first | (simp only [Act.put, List.setIfInBounds_toArray, List.set_cons_succ, List.set_cons_zero]; done) | simp [Act.put]
    refine AllOps.cons (fun x u hC hT hp KK hKK => ?_) ?_
    · simp [KnownTill, Region.binds, VRa] at hp
      clear hT
      go_simp
      refine hKK _ _ _ hC (by rfl) (by exact rfl) ?_
      first | (simp only [Act.put, List.setIfInBounds_toArray, List.set_cons_succ, List.set_cons_zero, hp]; done) | simp [Act.put, hp]
    refine AllOps.cons (fun x u hC hT hp KK hKK => ?_) ?_
    · simp [KnownTill, Region.binds, VRa] at hp
      clear hT
      have cc := A8.out u (bt hbw hC)
      go_simp
      refine hKK _ _ _ hC (by rfl) (by exact rfl) ?_
      first | (simp only [Act.put, List.setIfInBounds_toArray, List.set_cons_succ, List.set_cons_zero, hp]; done) | simp [Act.put, hp]
    refine AllOps.cons (fun x u hC hT hp KK hKK => ?_) ?_
    · simp [KnownTill, Region.binds, VRa] at hp
      clear hT
      go_simp
      refine hKK _ _ _ hC (by rfl) (by exact rfl) ?_
      first | (simp only [Act.put, List.setIfInBounds_toArray, List.set_cons_succ, List.set_cons_zero, hp]; done) | simp [Act.put, hp]
    refine AllOps.cons (fun x u hC hT hp KK hKK => ?_) ?_
    · simp [KnownTill, Region.binds, VRa] at hp
      clear hT
      go_simp
      refine hKK _ _ _ hC (by rfl) (by exact rfl) ?_
      first | (simp only [Act.put, List.setIfInBounds_toArray, List.set_cons_succ, List.set_cons_zero, hp]; done) | simp [Act.put, hp]
    refine AllOps.cons (fun x u hC hT hp KK hKK => ?_) ?_
    · clear hp hT
      go_simp
      refine hKK _ _ _ hC (by rfl) (by exact rfl) ?_
      first | (simp only [Act.put, List.setIfInBounds_toArray, List.set_cons_succ, List.set_cons_zero]; done) | simp [Act.put]
    refine AllOps.cons (fun x u hC hT hp KK hKK => ?_) ?_
    · simp [KnownTill, Region.binds, VRa] at hp
      clear hT
      go_simp
      refine hKK _ _ _ hC (by rfl) (by exact rfl) ?_
      first | (simp only [Act.put, List.setIfInBounds_toArray, List.set_cons_succ, List.set_cons_zero, hp]; done) | simp [Act.put, hp]
    refine AllOps.cons (fun x u hC hT hp KK hKK => ?_) ?_
    · simp [KnownTill, Region.binds, VRa] at hp
      clear hT
      have cc := A9.out u (bt hbw hC)
      go_simp
      refine hKK _ _ _ hC (by rfl) (by exact rfl) ?_
      first | (simp only [Act.put, List.setIfInBounds_toArray, List.set_cons_succ, List.set_cons_zero, hp]; done) | simp [Act.put, hp]
    refine AllOps.cons (fun x u hC hT hp KK hKK => ?_) ?_
    · simp [KnownTill, Region.binds, VRa] at hp
      clear hT
      go_simp
      refine hKK _ _ _ hC (by rfl) (by exact rfl) ?_
      first | (simp only [Act.put, List.setIfInBounds_toArray, List.set_cons_succ, List.set_cons_zero, hp]; done) | simp [Act.put, hp]
    refine AllOps.cons (fun x u hC hT hp KK hKK => ?_) ?_
    · simp [KnownTill, Region.binds, VRa] at hp
      clear hT
      go_simp
      refine hKK _ _ _ hC (by rfl) (by exact rfl) ?_
      first | (simp only [Act.put, List.setIfInBounds_toArray, List.set_cons_succ, List.set_cons_zero, hp]; done) | simp [Act.put, hp]
    refine AllOps.cons (fun x u hC hT hp KK hKK => ?_) ?_
    · simp [KnownTill, Region.binds, VRa] at hp
      clear hT
      go_simp
      refine hKK _ _ _ hC (by rfl) (by exact rfl) ?_
      first | (simp only [Act.put, List.setIfInBounds_toArray, List.set_cons_succ, List.set_cons_zero, hp]; done) | simp [Act.put, hp]
    exact AllOps.nil
  case finA =>
    intro x u hC hV
    have hz : x 10 = .int .i64 K := hV 10 (by decide) rfl
    rw [hz]
    clear hV hz
    have kr2 := kr.below hC kr.lt
    have hbu := bt hbw hC
    clear kr hC i8 i9 j8 j9 wr1 wr2 wr3 wr4
    have c0 := (kr2).cell 0
    have c1 := (kr2).cell 1
    have c2 := (kr2).cell 2
    have c3 := (kr2).cell 3
    simp only [List.getElem?_toArray, List.getElem?_cons_zero, List.getElem?_cons_succ] at c0 c1 c2 c3
    have f0 := (kr2).frozen 0
    have f1 := (kr2).frozen 1
    have f2 := (kr2).frozen 2
    have f3 := (kr2).frozen 3
    have st0 := kr2.set_ 0 (.int .u32 0)
    have ste0 := st0.cell 0
    have sth0 := hbu.setCell (p := ⟨w.heap.size, 0, none⟩) (by first | (show _ ≤ _; omega) | simp) (.int .u32 0)
    have st1 := st0.set_ 1 (.int .i64 0)
    have ste1 := st1.cell 1
    have sth1 := sth0.setCell (p := ⟨w.heap.size, 1, none⟩) (by first | (show _ ≤ _; omega) | simp) (.int .i64 0)
    have st2 := st1.set_ 2 (.int .i64 0)
    have ste2 := st2.cell 2
    have sth2 := sth1.setCell (p := ⟨w.heap.size, 2, none⟩) (by first | (show _ ≤ _; omega) | simp) (.int .i64 0)
    have st3 := st2.set_ 3 (.slice none 0 0)
    have ste3 := st3.cell 3
    have sth3 := sth2.setCell (p := ⟨w.heap.size, 3, none⟩) (by first | (show _ ≤ _; omega) | simp) (.slice none 0 0)
    simp at ste0 ste1 ste2 ste3
    clear st0 st1 st2 st3
    go_wp2
    refine bodyPost_ret (by simp [results, Try.results15, go_sem, ste0, ste1, ste2, ste3]; try rfl) rfl ?_
    exact ⟨none, 0, 0, rfl, Lib.hid rfl, Own.nil, sth3⟩

set_option maxHeartbeats 2000000 in
theorem rread_3 (B o c n K M M4 : Nat) (b : List UInt8) (w : World) (hn : Hid (n = b.length)) (hc : Hid (n ≤ c)) (hcm : Hid (c ≤ 9223372036854775807)) (h14 : Hid (14 ≤ n)) (hs : Bs w w.heap.size (some ⟨B, o, none⟩) b) (hK : Hid (num ((b.drop 8).take 2) = K)) (hM : Hid (M = 10 + K)) (hM4 : Hid (M4 = M + 4)) (l1 : ¬ n < M4) (l2 : M4 < n) : Calls Try.prog 15 #[.slice (some ⟨B, o, none⟩) n c] w (RdO w 0 0 0 [] 2) := by
  have hlen : 14 ≤ b.length := by rw [← hn.out]; exact h14.out
  have hKb : Hid (K < 65536) := Lib.hid (by rw [← hK.out]; exact num2_lt _ (by rw [List.length_take]; omega))
  obtain ⟨B', o', eA, hB, hcell⟩ := hs (by omega)
  cases eA
  have cellAt : ∀ i, (hi : i < b.length) → ∀ u, Below w.heap.size w u → u.cell? ⟨B, o + i, none⟩ = some (.int .u8 ((b[i]'hi).toNat : Int)) := fun i hi u hu => (hu.cell (p := ⟨B, o + i, none⟩) hB).trans (hcell i hi)
  obtain ⟨p, hp8⟩ : ∃ p, p = b[8].toNat := ⟨_, rfl⟩
  obtain ⟨r, hr9⟩ : ∃ r, r = b[9].toNat := ⟨_, rfl⟩
  have a8 := cellAt 8 (by omega)
  have a9 := cellAt 9 (by omega)
  have eK : K = 256 * p + r := by rw [← hK.out, two_at b 8 (by omega), num_two, hp8, hr9]
  have p8 : p < 256 := by rw [hp8]; exact UInt8.toNat_lt _
  have r9 : r < 256 := by rw [hr9]; exact UInt8.toNat_lt _
  rw [← hp8] at a8
  rw [← hr9] at a9
  have wr1 : IntKind.i64.wrap (p : Int) = (p : Int) := IntWalk.i64_in _ (by omega)
  have wr2 : IntKind.i64.wrap (r : Int) = (r : Int) := IntWalk.i64_in _ (by omega)
  have wr3 : IntKind.i64.wrap ((256 : Int) * p) = (256 : Int) * p := IntWalk.i64_in _ (by omega)
  have wr4 : IntKind.i64.wrap ((256 : Int) * p + r) = (K : Int) := by rw [IntWalk.i64_in _ (by omega)]; omega
  have i8 : (8 : Int) < (n : Int) := by have := h14.out; omega
  have i9 : (9 : Int) < (n : Int) := by have := h14.out; omega
  have j8 : 8 < n := by omega
  have j9 : 9 < n := by omega
  have i14 : decide ((n : Int) < 14) = false := decide_eq_false (by have := h14.out; omega)
  have e3 : IntKind.i64.wrap (14 + (K : Int)) = (M4 : Int) := by rw [IntWalk.i64_in _ (by have := hKb.out; omega), hM4.out, hM.out]; omega
  have e4 : IntKind.i64.wrap (10 + (K : Int)) = (M : Int) := by rw [IntWalk.i64_in _ (by have := hKb.out; omega), hM.out]; omega
  have kr := Blk.new w 25 #[.int .u32 0, .int .i64 0, .int .i64 0, .slice none 0 0]
  have hbw := ba w (.cells #[.int .u32 0, .int .i64 0, .int .i64 0, .slice none 0 0] 25)
  have A8 := Lib.hid a8
  have A9 := Lib.hid a9
  have CellAt := Lib.hid cellAt
  have HB := Lib.hid hB
  clear hp8 hr9 eK p8 r9 hlen hcell a8 a9 cellAt hB
  go_enter Try.func15, Try.ntmps15
  go_wp2_with fail
  generalize (w.alloc (.cells #[.int .u32 0, .int .i64 0, .int .i64 0, .slice none 0 0] 25)) = w1 at hbw kr ⊢
  refine wp_region_invT (F := ?FA) (V := VRa B o n c p r K) (dead := fun _ => none) (T := fun _ _ => True) (C := fun u' => Below w1.heap.size w1 u') (E := fun _ u u' => u' = u) (by kernel_rfl) (by kernel_rfl) (by kernel_rfl) (fun x => ?hFA) ?hmonoA ?hTmA ?hTA ?hCA ?stepA ?finA
  case hFA => simp only [mkA, Act.put, List.setIfInBounds_toArray, List.set_cons_succ, List.set_cons_zero, Nat.reduceAdd, Nat.zero_add]; first | with_reducible rfl | rfl
  case hmonoA => exact fun k i v u u' he hik hwt hdd hv => VRa.mono hv
  case hTmA => exact fun _ _ _ _ _ _ _ _ => trivial
  case hTA => exact fun j => trivial
  case hCA => exact below_drew _
  case stepA =>
    refine AllOps.cons (fun x u hC hT hp KK hKK => ?_) ?_
    · clear hp hT
      go_simp
      refine hKK _ _ _ hC (by rfl) (by exact rfl) ?_
      first | (simp only [Act.put, List.setIfInBounds_toArray, List.set_cons_succ, List.set_cons_zero]; done) | simp [Act.put]
    refine AllOps.cons (fun x u hC hT hp KK hKK => ?_) ?_
    · simp [KnownTill, Region.binds, VRa] at hp
      clear hT
      go_simp
      refine hKK _ _ _ hC (by rfl) (by exact rfl) ?_
      first | (simp only [Act.put, List.setIfInBounds_toArray, List.set_cons_succ, List.set_cons_zero, hp]; done) | simp [Act.put, hp]
    refine AllOps.cons (fun x u hC hT hp KK hKK => ?_) ?_
    · simp [KnownTill, Region.binds, VRa] at hp
      clear hT
      have cc := A8.out u (bt hbw hC)
      go_simp
      refine hKK _ _ _ hC (by rfl) (by exact rfl) ?_
      first | (simp only [Act.put, List.setIfInBounds_toArray, List.set_cons_succ, List.set_cons_zero, hp]; done) | simp [Act.put, hp]
    refine AllOps.cons (fun x u hC hT hp KK hKK => ?_) ?_
    · simp [KnownTill, Region.binds, VRa] at hp
      clear hT
      go_simp
      refine hKK _ _ _ hC (by rfl) (by exact rfl) ?_
      first | (simp only [Act.put, List.setIfInBounds_toArray, List.set_cons_succ, List.set_cons_zero, hp]; done) | simp [Act.put, hp]
    refine AllOps.cons (fun x u hC hT hp KK hKK => ?_) ?_
    · simp [KnownTill, Region.binds, VRa] at hp
      clear hT
      go_simp
      refine hKK _ _ _ hC (by rfl) (by exact rfl) ?_
      first | (simp only [Act.put, List.setIfInBounds_toArray, List.set_cons_succ, List.set_cons_zero, hp]; done) | simp [Act.put, hp]
    refine AllOps.cons (fun x u hC hT hp KK hKK => ?_) ?_
    · clear hp hT
      go_simp
      refine hKK _ _ _ hC (by rfl) (by exact rfl) ?_
      first | (simp only [Act.put, List.setIfInBounds_toArray, List.set_cons_succ, List.set_cons_zero]; done) | simp [Act.put]
    refine AllOps.cons (fun x u hC hT hp KK hKK => ?_) ?_
    · simp [KnownTill, Region.binds, VRa] at hp
      clear hT
      go_simp
      refine hKK _ _ _ hC (by rfl) (by exact rfl) ?_
      first | (simp only [Act.put, List.setIfInBounds_toArray, List.set_cons_succ, List.set_cons_zero, hp]; done) | simp [Act.put, hp]
    refine AllOps.cons (fun x u hC hT hp KK hKK => ?_) ?_
    · simp [KnownTill, Region.binds, VRa] at hp
      clear hT
      have cc := A9.out u (bt hbw hC)
      go_simp
      refine hKK _ _ _ hC (by rfl) (by exact rfl) ?_
      first | (simp only [Act.put, List.setIfInBounds_toArray, List.set_cons_succ, List.set_cons_zero, hp]; done) | simp [Act.put, hp]
    refine AllOps.cons (fun x u hC hT hp KK hKK => ?_) ?_
    · simp [KnownTill, Region.binds, VRa] at hp
      clear hT
      go_simp
      refine hKK _ _ _ hC (by rfl) (by exact rfl) ?_
      first | (simp only [Act.put, List.setIfInBounds_toArray, List.set_cons_succ, List.set_cons_zero, hp]; done) | simp [Act.put, hp]
    refine AllOps.cons (fun x u hC hT hp KK hKK => ?_) ?_
    · simp [KnownTill, Region.binds, VRa] at hp
      clear hT
      go_simp
      refine hKK _ _ _ hC (by rfl) (by exact rfl) ?_
      first | (simp only [Act.put, List.setIfInBounds_toArray, List.set_cons_succ, List.set_cons_zero, hp]; done) | simp [Act.put, hp]
    refine AllOps.cons (fun x u hC hT hp KK hKK => ?_) ?_
    · simp [KnownTill, Region.binds, VRa] at hp
      clear hT
      go_simp
      refine hKK _ _ _ hC (by rfl) (by exact rfl) ?_
      first | (simp only [Act.put, List.setIfInBounds_toArray, List.set_cons_succ, List.set_cons_zero, hp]; done) | simp [Act.put, hp]
    exact AllOps.nil
  case finA =>
    intro x u hC hV
    have hz : x 10 = .int .i64 K := hV 10 (by decide) rfl
    rw [hz]
    clear hV hz
    have kr2 := kr.below hC kr.lt
    have hbu := bt hbw hC
    clear kr hC i8 i9 j8 j9 wr1 wr2 wr3 wr4
    have c0 := (kr2).cell 0
    have c1 := (kr2).cell 1
    have c2 := (kr2).cell 2
    have c3 := (kr2).cell 3
    simp only [List.getElem?_toArray, List.getElem?_cons_zero, List.getElem?_cons_succ] at c0 c1 c2 c3
    have f0 := (kr2).frozen 0
    have f1 := (kr2).frozen 1
    have f2 := (kr2).frozen 2
    have f3 := (kr2).frozen 3
    have st0 := kr2.set_ 0 (.int .u32 0)
    have ste0 := st0.cell 0
    have sth0 := hbu.setCell (p := ⟨w.heap.size, 0, none⟩) (by first | (show _ ≤ _; omega) | simp) (.int .u32 0)
    have st1 := st0.set_ 1 (.int .i64 0)
    have ste1 := st1.cell 1
    have sth1 := sth0.setCell (p := ⟨w.heap.size, 1, none⟩) (by first | (show _ ≤ _; omega) | simp) (.int .i64 0)
    have st2 := st1.set_ 2 (.int .i64 0)
    have ste2 := st2.cell 2
    have sth2 := sth1.setCell (p := ⟨w.heap.size, 2, none⟩) (by first | (show _ ≤ _; omega) | simp) (.int .i64 0)
    have st3 := st2.set_ 3 (.slice none 0 0)
    have ste3 := st3.cell 3
    have sth3 := sth2.setCell (p := ⟨w.heap.size, 3, none⟩) (by first | (show _ ≤ _; omega) | simp) (.slice none 0 0)
    simp at ste0 ste1 ste2 ste3
    clear st0 st1 st2 st3
    go_wp2
    refine bodyPost_ret (by simp [results, Try.results15, go_sem, ste0, ste1, ste2, ste3]; try rfl) rfl ?_
    exact ⟨none, 0, 0, rfl, Lib.hid rfl, Own.nil, sth3⟩

set_option maxHeartbeats 2000000 in
theorem rread_4 (B o c n K M : Nat) (b : List UInt8) (w : World) (hn : Hid (n = b.length)) (hc : Hid (n ≤ c)) (hcm : Hid (c ≤ 9223372036854775807)) (h14 : Hid (14 ≤ n)) (hs : Bs w w.heap.size (some ⟨B, o, none⟩) b) (hK : Hid (num ((b.drop 8).take 2) = K)) (hM : Hid (M = 10 + K)) (hM4 : Hid (n = M + 4)) (Z1 Z2 : Nat) (hZ1 : Hid (num (b.drop M) = Z1)) (hZ2 : Hid (sumR (b.take M) = Z2)) (hbb : ((Z1 : Int) != (Z2 : Int)) = true) : Calls Try.prog 15 #[.slice (some ⟨B, o, none⟩) n c] w (RdO w 0 0 0 [] 31) := by
  have hlen : 14 ≤ b.length := by rw [← hn.out]; exact h14.out
  have hKb : Hid (K < 65536) := Lib.hid (by rw [← hK.out]; exact num2_lt _ (by rw [List.length_take]; omega))
  obtain ⟨B', o', eA, hB, hcell⟩ := hs (by omega)
  cases eA
  have cellAt : ∀ i, (hi : i < b.length) → ∀ u, Below w.heap.size w u → u.cell? ⟨B, o + i, none⟩ = some (.int .u8 ((b[i]'hi).toNat : Int)) := fun i hi u hu => (hu.cell (p := ⟨B, o + i, none⟩) hB).trans (hcell i hi)
  obtain ⟨p, hp8⟩ : ∃ p, p = b[8].toNat := ⟨_, rfl⟩
  obtain ⟨r, hr9⟩ : ∃ r, r = b[9].toNat := ⟨_, rfl⟩
  have a8 := cellAt 8 (by omega)
  have a9 := cellAt 9 (by omega)
  have eK : K = 256 * p + r := by rw [← hK.out, two_at b 8 (by omega), num_two, hp8, hr9]
  have p8 : p < 256 := by rw [hp8]; exact UInt8.toNat_lt _
  have r9 : r < 256 := by rw [hr9]; exact UInt8.toNat_lt _
  rw [← hp8] at a8
  rw [← hr9] at a9
  have wr1 : IntKind.i64.wrap (p : Int) = (p : Int) := IntWalk.i64_in _ (by omega)
  have wr2 : IntKind.i64.wrap (r : Int) = (r : Int) := IntWalk.i64_in _ (by omega)
  have wr3 : IntKind.i64.wrap ((256 : Int) * p) = (256 : Int) * p := IntWalk.i64_in _ (by omega)
  have wr4 : IntKind.i64.wrap ((256 : Int) * p + r) = (K : Int) := by rw [IntWalk.i64_in _ (by omega)]; omega
  have i8 : (8 : Int) < (n : Int) := by have := h14.out; omega
  have i9 : (9 : Int) < (n : Int) := by have := h14.out; omega
  have j8 : 8 < n := by omega
  have j9 : 9 < n := by omega
  have i14 : decide ((n : Int) < 14) = false := decide_eq_false (by have := h14.out; omega)
  have e3 : IntKind.i64.wrap (14 + (K : Int)) = (n : Int) := by rw [IntWalk.i64_in _ (by have := hKb.out; omega), hM4.out, hM.out]; omega
  have e4 : IntKind.i64.wrap (10 + (K : Int)) = (M : Int) := by rw [IntWalk.i64_in _ (by have := hKb.out; omega), hM.out]; omega
  have kr := Blk.new w 25 #[.int .u32 0, .int .i64 0, .int .i64 0, .slice none 0 0]
  have hbw := ba w (.cells #[.int .u32 0, .int .i64 0, .int .i64 0, .slice none 0 0] 25)
  have A8 := Lib.hid a8
  have A9 := Lib.hid a9
  have CellAt := Lib.hid cellAt
  have HB := Lib.hid hB
  clear hp8 hr9 eK p8 r9 hlen hcell a8 a9 cellAt hB
  go_enter Try.func15, Try.ntmps15
  go_wp2_with fail
  generalize (w.alloc (.cells #[.int .u32 0, .int .i64 0, .int .i64 0, .slice none 0 0] 25)) = w1 at hbw kr ⊢
  refine wp_region_invT (F := ?FA) (V := VRa B o n c p r K) (dead := fun _ => none) (T := fun _ _ => True) (C := fun u' => Below w1.heap.size w1 u') (E := fun _ u u' => u' = u) (by kernel_rfl) (by kernel_rfl) (by kernel_rfl) (fun x => ?hFA) ?hmonoA ?hTmA ?hTA ?hCA ?stepA ?finA
  case hFA => simp only [mkA, Act.put, List.setIfInBounds_toArray, List.set_cons_succ, List.set_cons_zero, Nat.reduceAdd, Nat.zero_add]; first | with_reducible rfl | rfl
  case hmonoA => exact fun k i v u u' he hik hwt hdd hv => VRa.mono hv
  case hTmA => exact fun _ _ _ _ _ _ _ _ => trivial
  case hTA => exact fun j => trivial
  case hCA => exact below_drew _
  case stepA =>
    refine AllOps.cons (fun x u hC hT hp KK hKK => ?_) ?_
    · clear hp hT
      go_simp
      refine hKK _ _ _ hC (by rfl) (by exact rfl) ?_
      first | (simp only [Act.put, List.setIfInBounds_toArray, List.set_cons_succ, List.set_cons_zero]; done) | simp [Act.put]
    refine AllOps.cons (fun x u hC hT hp KK hKK => ?_) ?_
    · simp [KnownTill, Region.binds, VRa] at hp
      clear hT
      go_simp
      refine hKK _ _ _ hC (by rfl) (by exact rfl) ?_
      first | (simp only [Act.put, List.setIfInBounds_toArray, List.set_cons_succ, List.set_cons_zero, hp]; done) | simp [Act.put, hp]
    refine AllOps.cons (fun x u hC hT hp KK hKK => ?_) ?_
    · simp [KnownTill, Region.binds, VRa] at hp
      clear hT
      have cc := A8.out u (bt hbw hC)
      go_simp
      refine hKK _ _ _ hC (by rfl) (by exact rfl) ?_
      first | (simp only [Act.put, List.setIfInBounds_toArray, List.set_cons_succ, List.set_cons_zero, hp]; done) | simp [Act.put, hp]
    refine AllOps.cons (fun x u hC hT hp KK hKK => ?_) ?_
    · simp [KnownTill, Region.binds, VRa] at hp
      clear hT
      go_simp
      refine hKK _ _ _ hC (by rfl) (by exact rfl) ?_
      first | (simp only [Act.put, List.setIfInBounds_toArray, List.set_cons_succ, List.set_cons_zero, hp]; done) | simp [Act.put, hp]
    refine AllOps.cons (fun x u hC hT hp KK hKK => ?_) ?_
    · simp [KnownTill, Region.binds, VRa] at hp
      clear hT
      go_simp
      refine hKK _ _ _ hC (by rfl) (by exact rfl) ?_
      first | (simp only [Act.put, List.setIfInBounds_toArray, List.set_cons_succ, List.set_cons_zero, hp]; done) | simp [Act.put, hp]
    refine AllOps.cons (fun x u hC hT hp KK hKK => ?_) ?_
    · clear hp hT
      go_simp
      refine hKK _ _ _ hC (by rfl) (by exact rfl) ?_
      first | (simp only [Act.put, List.setIfInBounds_toArray, List.set_cons_succ, List.set_cons_zero]; done) | simp [Act.put]
    refine AllOps.cons (fun x u hC hT hp KK hKK => ?_) ?_
    · simp [KnownTill, Region.binds, VRa] at hp
      clear hT
      go_simp
      refine hKK _ _ _ hC (by rfl) (by exact rfl) ?_
      first | (simp only [Act.put, List.setIfInBounds_toArray, List.set_cons_succ, List.set_cons_zero, hp]; done) | simp [Act.put, hp]
    refine AllOps.cons (fun x u hC hT hp KK hKK => ?_) ?_
    · simp [KnownTill, Region.binds, VRa] at hp
      clear hT
      have cc := A9.out u (bt hbw hC)
      go_simp
      refine hKK _ _ _ hC (by rfl) (by exact rfl) ?_
      first | (simp only [Act.put, List.setIfInBounds_toArray, List.set_cons_succ, List.set_cons_zero, hp]; done) | simp [Act.put, hp]
    refine AllOps.cons (fun x u hC hT hp KK hKK => ?_) ?_
    · simp [KnownTill, Region.binds, VRa] at hp
      clear hT
      go_simp
      refine hKK _ _ _ hC (by rfl) (by exact rfl) ?_
      first | (simp only [Act.put, List.setIfInBounds_toArray, List.set_cons_succ, List.set_cons_zero, hp]; done) | simp [Act.put, hp]
    refine AllOps.cons (fun x u hC hT hp KK hKK => ?_) ?_
    · simp [KnownTill, Region.binds, VRa] at hp
      clear hT
      go_simp
      refine hKK _ _ _ hC (by rfl) (by exact rfl) ?_
      first | (simp only [Act.put, List.setIfInBounds_toArray, List.set_cons_succ, List.set_cons_zero, hp]; done) | simp [Act.put, hp]
    refine AllOps.cons (fun x u hC hT hp KK hKK => ?_) ?_
    · simp [KnownTill, Region.binds, VRa] at hp
      clear hT
      go_simp
      refine hKK _ _ _ hC (by rfl) (by exact rfl) ?_
      first | (simp only [Act.put, List.setIfInBounds_toArray, List.set_cons_succ, List.set_cons_zero, hp]; done) | simp [Act.put, hp]
    exact AllOps.nil
  case finA =>
    intro x u hC hV
    have hz : x 10 = .int .i64 K := hV 10 (by decide) rfl
    rw [hz]
    clear hV hz
    have kr2 := kr.below hC kr.lt
    have hbu := bt hbw hC
    clear kr hC i8 i9 j8 j9 wr1 wr2 wr3 wr4
    have hMn : Hid (M ≤ b.length) := Lib.hid (by have := hM4.out; have := hn.out; omega)
    have hMb : Hid (M ≤ 70000) := Lib.hid (by have := hKb.out; have := hM.out; omega)
    have qz : ∀ (u : World), Below w.heap.size w u → Calls Try.prog 25 #[.slice (some ⟨B, o + M, none⟩) 4 (c - M)] u fun e w' => e = .returned (.tuple #[.int .u64 Z1, .int .i64 0]) ∧ u = w' := by
      intro u hu
      have h8 := hs.part M 4 (by have := hM4.out; have := hn.out; omega)
      rw [List.take_of_length_le (by rw [List.length_drop]; have := hM4.out; have := hn.out; omega)] at h8
      have := refget_n (some ⟨B, o + M, none⟩) (b.drop M) 4 (c - M) u (Lib.hid (by have := hM4.out; have := hn.out; rw [List.length_drop]; omega)) (Lib.hid (by have := hM4.out; have := hn.out; rw [List.length_drop]; omega)) ((h8.below hu).more hu.size)
      rw [hZ1.out] at this
      exact this
    have hbf : Bs w w.heap.size (some ⟨B, o, none⟩) (b.take M) := by
      have := hs.part 0 M (by have := h14.out; have := hn.out; omega)
      rwa [List.drop_zero, Nat.add_zero] at this
    have hfl : Hid (M = (b.take M).length) := Lib.hid (by rw [List.length_take]; have := hMn.out; omega)
    have qs : ∀ (u : World), Below w.heap.size w u → Calls Try.prog 22 #[.slice (some ⟨B, o, none⟩) M c] u fun e w' => e = .returned (.int .u32 Z2) ∧ u = w' := by
      intro u hu
      have := refsum_n (some ⟨B, o, none⟩) (b.take M) c M hfl u (by rw [← hfl.out]; have := hMb.out; omega) ((hbf.below hu).more hu.size)
      rw [hZ2.out] at this
      exact this
    have hz2 : Z2 < 4294967296 := by rw [← hZ2.out]; exact sumR_lt _
    have e5 : IntKind.u64.wrap (Z2 : Int) = (Z2 : Int) := IntWalk.u64_in _ (by omega)
    have i1 : (M : Int) ≤ (n : Int) := by have := hM4.out; omega
    have i2 : (M : Int) ≤ (c : Int) := by have := hM4.out; have := hc.out; omega
    have n2 : ¬ (c = M) := by have := hM4.out; have := hc.out; omega
    have n0 : ¬ (c = 0) := by have := h14.out; have := hc.out; omega
    have eN : n - M = 4 := by have := hM4.out; omega
    clear hz2
    go_wp2_with fail
    refine (qz _ hbu).mono ?_
    rintro e w3 ⟨rfl, rfl⟩
    go_wp2_with fail
    refine (qs _ hbu).mono ?_
    rintro e w3 ⟨rfl, rfl⟩
    clear qz qs
    have c0 := (kr2).cell 0
    have c1 := (kr2).cell 1
    have c2 := (kr2).cell 2
    have c3 := (kr2).cell 3
    simp only [List.getElem?_toArray, List.getElem?_cons_zero, List.getElem?_cons_succ] at c0 c1 c2 c3
    have f0 := (kr2).frozen 0
    have f1 := (kr2).frozen 1
    have f2 := (kr2).frozen 2
    have f3 := (kr2).frozen 3
    have st0 := kr2.set_ 0 (.int .u32 0)
    have ste0 := st0.cell 0
    have sth0 := hbu.setCell (p := ⟨w.heap.size, 0, none⟩) (by first | (show _ ≤ _; omega) | simp) (.int .u32 0)
    have st1 := st0.set_ 1 (.int .i64 0)
    have ste1 := st1.cell 1
    have sth1 := sth0.setCell (p := ⟨w.heap.size, 1, none⟩) (by first | (show _ ≤ _; omega) | simp) (.int .i64 0)
    have st2 := st1.set_ 2 (.int .i64 0)
    have ste2 := st2.cell 2
    have sth2 := sth1.setCell (p := ⟨w.heap.size, 2, none⟩) (by first | (show _ ≤ _; omega) | simp) (.int .i64 0)
    have st3 := st2.set_ 3 (.slice none 0 0)
    have ste3 := st3.cell 3
    have sth3 := sth2.setCell (p := ⟨w.heap.size, 3, none⟩) (by first | (show _ ≤ _; omega) | simp) (.slice none 0 0)
    simp at ste0 ste1 ste2 ste3
    clear st0 st1 st2 st3
    go_wp2
    refine bodyPost_ret (by simp [results, Try.results15, go_sem, ste0, ste1, ste2, ste3]; try rfl) rfl ?_
    exact ⟨none, 0, 0, rfl, Lib.hid rfl, Own.nil, sth3⟩

set_option maxHeartbeats 2000000 in
theorem rread_5 (B o c n K M : Nat) (b : List UInt8) (w : World) (hn : Hid (n = b.length)) (hc : Hid (n ≤ c)) (hcm : Hid (c ≤ 9223372036854775807)) (h14 : Hid (14 ≤ n)) (hs : Bs w w.heap.size (some ⟨B, o, none⟩) b) (hK : Hid (num ((b.drop 8).take 2) = K)) (hM : Hid (M = 10 + K)) (hM4 : Hid (n = M + 4)) (Z1 Z2 : Nat) (hZ1 : Hid (num (b.drop M) = Z1)) (hZ2 : Hid (sumR (b.take M) = Z2)) (hbb : ((Z1 : Int) != (Z2 : Int)) = false) (S Q Z : Nat) (D : List UInt8) (hS : Hid (num ((b.take M).take 4) = S)) (hQ : Hid (num (((b.take M).drop 4).take 2) = Q)) (hZ : Hid (num (((b.take M).drop 6).take 2) = Z)) (hD : Hid ((b.take M).drop 10 = D)) (hmy : Hid (mayF S Q Z K = false)) : Calls Try.prog 15 #[.slice (some ⟨B, o, none⟩) n c] w (RdO w 0 0 0 [] 70) := by
  have hlen : 14 ≤ b.length := by rw [← hn.out]; exact h14.out
  have hKb : Hid (K < 65536) := Lib.hid (by rw [← hK.out]; exact num2_lt _ (by rw [List.length_take]; omega))
  obtain ⟨B', o', eA, hB, hcell⟩ := hs (by omega)
  cases eA
  have cellAt : ∀ i, (hi : i < b.length) → ∀ u, Below w.heap.size w u → u.cell? ⟨B, o + i, none⟩ = some (.int .u8 ((b[i]'hi).toNat : Int)) := fun i hi u hu => (hu.cell (p := ⟨B, o + i, none⟩) hB).trans (hcell i hi)
  obtain ⟨p, hp8⟩ : ∃ p, p = b[8].toNat := ⟨_, rfl⟩
  obtain ⟨r, hr9⟩ : ∃ r, r = b[9].toNat := ⟨_, rfl⟩
  have a8 := cellAt 8 (by omega)
  have a9 := cellAt 9 (by omega)
  have eK : K = 256 * p + r := by rw [← hK.out, two_at b 8 (by omega), num_two, hp8, hr9]
  have p8 : p < 256 := by rw [hp8]; exact UInt8.toNat_lt _
  have r9 : r < 256 := by rw [hr9]; exact UInt8.toNat_lt _
  rw [← hp8] at a8
  rw [← hr9] at a9
  have wr1 : IntKind.i64.wrap (p : Int) = (p : Int) := IntWalk.i64_in _ (by omega)
  have wr2 : IntKind.i64.wrap (r : Int) = (r : Int) := IntWalk.i64_in _ (by omega)
  have wr3 : IntKind.i64.wrap ((256 : Int) * p) = (256 : Int) * p := IntWalk.i64_in _ (by omega)
  have wr4 : IntKind.i64.wrap ((256 : Int) * p + r) = (K : Int) := by rw [IntWalk.i64_in _ (by omega)]; omega
  have i8 : (8 : Int) < (n : Int) := by have := h14.out; omega
  have i9 : (9 : Int) < (n : Int) := by have := h14.out; omega
  have j8 : 8 < n := by omega
  have j9 : 9 < n := by omega
  have i14 : decide ((n : Int) < 14) = false := decide_eq_false (by have := h14.out; omega)
  have e3 : IntKind.i64.wrap (14 + (K : Int)) = (n : Int) := by rw [IntWalk.i64_in _ (by have := hKb.out; omega), hM4.out, hM.out]; omega
  have e4 : IntKind.i64.wrap (10 + (K : Int)) = (M : Int) := by rw [IntWalk.i64_in _ (by have := hKb.out; omega), hM.out]; omega
  have kr := Blk.new w 25 #[.int .u32 0, .int .i64 0, .int .i64 0, .slice none 0 0]
  have hbw := ba w (.cells #[.int .u32 0, .int .i64 0, .int .i64 0, .slice none 0 0] 25)
  have A8 := Lib.hid a8
  have A9 := Lib.hid a9
  have CellAt := Lib.hid cellAt
  have HB := Lib.hid hB
  clear hp8 hr9 eK p8 r9 hlen hcell a8 a9 cellAt hB
  go_enter Try.func15, Try.ntmps15
  go_wp2_with fail
  generalize (w.alloc (.cells #[.int .u32 0, .int .i64 0, .int .i64 0, .slice none 0 0] 25)) = w1 at hbw kr ⊢
  refine wp_region_invT (F := ?FA) (V := VRa B o n c p r K) (dead := fun _ => none) (T := fun _ _ => True) (C := fun u' => Below w1.heap.size w1 u') (E := fun _ u u' => u' = u) (by kernel_rfl) (by kernel_rfl) (by kernel_rfl) (fun x => ?hFA) ?hmonoA ?hTmA ?hTA ?hCA ?stepA ?finA
  case hFA => simp only [mkA, Act.put, List.setIfInBounds_toArray, List.set_cons_succ, List.set_cons_zero, Nat.reduceAdd, Nat.zero_add]; first | with_reducible rfl | rfl
  case hmonoA => exact fun k i v u u' he hik hwt hdd hv => VRa.mono hv
  case hTmA => exact fun _ _ _ _ _ _ _ _ => trivial
  case hTA => exact fun j => trivial
  case hCA => exact below_drew _
  case stepA =>
    refine AllOps.cons (fun x u hC hT hp KK hKK => ?_) ?_
    · clear hp hT
      go_simp
      refine hKK _ _ _ hC (by rfl) (by exact rfl) ?_
      first | (simp only [Act.put, List.setIfInBounds_toArray, List.set_cons_succ, List.set_cons_zero]; done) | simp [Act.put]
    refine AllOps.cons (fun x u hC hT hp KK hKK => ?_) ?_
    · simp [KnownTill, Region.binds, VRa] at hp
      clear hT
      go_simp
      refine hKK _ _ _ hC (by rfl) (by exact rfl) ?_
      first | (simp only [Act.put, List.setIfInBounds_toArray, List.set_cons_succ, List.set_cons_zero, hp]; done) | simp [Act.put, hp]
    refine AllOps.cons (fun x u hC hT hp KK hKK => ?_) ?_
    · simp [KnownTill, Region.binds, VRa] at hp
      clear hT
      have cc := A8.out u (bt hbw hC)
      go_simp
      refine hKK _ _ _ hC (by rfl) (by exact rfl) ?_
      first | (simp only [Act.put, List.setIfInBounds_toArray, List.set_cons_succ, List.set_cons_zero, hp]; done) | simp [Act.put, hp]
    refine AllOps.cons (fun x u hC hT hp KK hKK => ?_) ?_
    · simp [KnownTill, Region.binds, VRa] at hp
      clear hT
      go_simp
      refine hKK _ _ _ hC (by rfl) (by exact rfl) ?_
      first | (simp only [Act.put, List.setIfInBounds_toArray, List.set_cons_succ, List.set_cons_zero, hp]; done) | simp [Act.put, hp]
    refine AllOps.cons (fun x u hC hT hp KK hKK => ?_) ?_
    · simp [KnownTill, Region.binds, VRa] at hp
      clear hT
      go_simp
      refine hKK _ _ _ hC (by rfl) (by exact rfl) ?_
      first | (simp only [Act.put, List.setIfInBounds_toArray, List.set_cons_succ, List.set_cons_zero, hp]; done) | simp [Act.put, hp]
    refine AllOps.cons (fun x u hC hT hp KK hKK => ?_) ?_
    · clear hp hT
      go_simp
      refine hKK _ _ _ hC (by rfl) (by exact rfl) ?_
      first | (simp only [Act.put, List.setIfInBounds_toArray, List.set_cons_succ, List.set_cons_zero]; done) | simp [Act.put]
    refine AllOps.cons (fun x u hC hT hp KK hKK => ?_) ?_
    · simp [KnownTill, Region.binds, VRa] at hp
      clear hT
      go_simp
      refine hKK _ _ _ hC (by rfl) (by exact rfl) ?_
      first | (simp only [Act.put, List.setIfInBounds_toArray, List.set_cons_succ, List.set_cons_zero, hp]; done) | simp [Act.put, hp]
    refine AllOps.cons (fun x u hC hT hp KK hKK => ?_) ?_
    · simp [KnownTill, Region.binds, VRa] at hp
      clear hT
      have cc := A9.out u (bt hbw hC)
      go_simp
      refine hKK _ _ _ hC (by rfl) (by exact rfl) ?_
      first | (simp only [Act.put, List.setIfInBounds_toArray, List.set_cons_succ, List.set_cons_zero, hp]; done) | simp [Act.put, hp]
    refine AllOps.cons (fun x u hC hT hp KK hKK => ?_) ?_
    · simp [KnownTill, Region.binds, VRa] at hp
      clear hT
      go_simp
      refine hKK _ _ _ hC (by rfl) (by exact rfl) ?_
      first | (simp only [Act.put, List.setIfInBounds_toArray, List.set_cons_succ, List.set_cons_zero, hp]; done) | simp [Act.put, hp]
    refine AllOps.cons (fun x u hC hT hp KK hKK => ?_) ?_
    · simp [KnownTill, Region.binds, VRa] at hp
      clear hT
      go_simp
      refine hKK _ _ _ hC (by rfl) (by exact rfl) ?_
      first | (simp only [Act.put, List.setIfInBounds_toArray, List.set_cons_succ, List.set_cons_zero, hp]; done) | simp [Act.put, hp]
    refine AllOps.cons (fun x u hC hT hp KK hKK => ?_) ?_
    · simp [KnownTill, Region.binds, VRa] at hp
      clear hT
      go_simp
      refine hKK _ _ _ hC (by rfl) (by exact rfl) ?_
      first | (simp only [Act.put, List.setIfInBounds_toArray, List.set_cons_succ, List.set_cons_zero, hp]; done) | simp [Act.put, hp]
    exact AllOps.nil
  case finA =>
    intro x u hC hV
    have hz : x 10 = .int .i64 K := hV 10 (by decide) rfl
    rw [hz]
    clear hV hz
    have kr2 := kr.below hC kr.lt
    have hbu := bt hbw hC
    clear kr hC i8 i9 j8 j9 wr1 wr2 wr3 wr4
    have hMn : Hid (M ≤ b.length) := Lib.hid (by have := hM4.out; have := hn.out; omega)
    have hMb : Hid (M ≤ 70000) := Lib.hid (by have := hKb.out; have := hM.out; omega)
    have qz : ∀ (u : World), Below w.heap.size w u → Calls Try.prog 25 #[.slice (some ⟨B, o + M, none⟩) 4 (c - M)] u fun e w' => e = .returned (.tuple #[.int .u64 Z1, .int .i64 0]) ∧ u = w' := by
      intro u hu
      have h8 := hs.part M 4 (by have := hM4.out; have := hn.out; omega)
      rw [List.take_of_length_le (by rw [List.length_drop]; have := hM4.out; have := hn.out; omega)] at h8
      have := refget_n (some ⟨B, o + M, none⟩) (b.drop M) 4 (c - M) u (Lib.hid (by have := hM4.out; have := hn.out; rw [List.length_drop]; omega)) (Lib.hid (by have := hM4.out; have := hn.out; rw [List.length_drop]; omega)) ((h8.below hu).more hu.size)
      rw [hZ1.out] at this
      exact this
    have hbf : Bs w w.heap.size (some ⟨B, o, none⟩) (b.take M) := by
      have := hs.part 0 M (by have := h14.out; have := hn.out; omega)
      rwa [List.drop_zero, Nat.add_zero] at this
    have hfl : Hid (M = (b.take M).length) := Lib.hid (by rw [List.length_take]; have := hMn.out; omega)
    have qs : ∀ (u : World), Below w.heap.size w u → Calls Try.prog 22 #[.slice (some ⟨B, o, none⟩) M c] u fun e w' => e = .returned (.int .u32 Z2) ∧ u = w' := by
      intro u hu
      have := refsum_n (some ⟨B, o, none⟩) (b.take M) c M hfl u (by rw [← hfl.out]; have := hMb.out; omega) ((hbf.below hu).more hu.size)
      rw [hZ2.out] at this
      exact this
    have hz2 : Z2 < 4294967296 := by rw [← hZ2.out]; exact sumR_lt _
    have e5 : IntKind.u64.wrap (Z2 : Int) = (Z2 : Int) := IntWalk.u64_in _ (by omega)
    have i1 : (M : Int) ≤ (n : Int) := by have := hM4.out; omega
    have i2 : (M : Int) ≤ (c : Int) := by have := hM4.out; have := hc.out; omega
    have n2 : ¬ (c = M) := by have := hM4.out; have := hc.out; omega
    have n0 : ¬ (c = 0) := by have := h14.out; have := hc.out; omega
    have eN : n - M = 4 := by have := hM4.out; omega
    clear hz2
    go_wp2_with fail
    refine (qz _ hbu).mono ?_
    rintro e w3 ⟨rfl, rfl⟩
    go_wp2_with fail
    refine (qs _ hbu).mono ?_
    rintro e w3 ⟨rfl, rfl⟩
    clear qz qs
    have q4 : Calls Try.prog 25 #[.slice (some ⟨B, o, none⟩) 4 c] u fun e w' => e = .returned (.tuple #[.int .u64 S, .int .i64 0]) ∧ u = w' := by
      have h4 := bs_take (hbf.bt hbu) 4
      have := refget_n (some ⟨B, o, none⟩) ((b.take M).take 4) 4 c u (Lib.hid (by rw [List.length_take, ← hfl.out]; have := hM.out; omega)) (Lib.hid (by rw [List.length_take]; have := hfl.out; have := hM.out; omega)) h4
      rw [hS.out] at this
      exact this
    have m4 : S < 4294967296 := by rw [← hS.out]; exact num4_lt _ (by rw [List.length_take]; omega)
    have eS : IntKind.u32.wrap (S : Int) = (S : Int) := IntWalk.u32_in _ (by omega)
    have hbl : 14 ≤ b.length := by have := h14.out; have := hn.out; omega
    have ee4 : ((b.take M).drop 4).take 2 = (b.drop 4).take 2 := by
      rw [List.drop_take, List.take_take, Nat.min_eq_left (by have := hM.out; omega)]
    have ee6 : ((b.take M).drop 6).take 2 = (b.drop 6).take 2 := by
      rw [List.drop_take, List.take_take, Nat.min_eq_left (by have := hM.out; omega)]
    obtain ⟨y4, hy4⟩ : ∃ p, p = b[4].toNat := ⟨_, rfl⟩
    obtain ⟨y5, hy5⟩ : ∃ p, p = b[5].toNat := ⟨_, rfl⟩
    obtain ⟨y6, hy6⟩ : ∃ p, p = b[6].toNat := ⟨_, rfl⟩
    obtain ⟨y7, hy7⟩ : ∃ p, p = b[7].toNat := ⟨_, rfl⟩
    have g4 := CellAt.out 4 (by omega)
    have g5 := CellAt.out 5 (by omega)
    have g6 := CellAt.out 6 (by omega)
    have g7 := CellAt.out 7 (by omega)
    rw [← hy4] at g4
    rw [← hy5] at g5
    rw [← hy6] at g6
    rw [← hy7] at g7
    have eQ : Q = 256 * y4 + y5 := by rw [← hQ.out, ee4, two_at b 4 (by omega), num_two, hy4, hy5]
    have eZ : Z = 256 * y6 + y7 := by rw [← hZ.out, ee6, two_at b 6 (by omega), num_two, hy6, hy7]
    have t4 : y4 < 256 := by rw [hy4]; exact UInt8.toNat_lt _
    have t5 : y5 < 256 := by rw [hy5]; exact UInt8.toNat_lt _
    have t6 : y6 < 256 := by rw [hy6]; exact UInt8.toNat_lt _
    have t7 : y7 < 256 := by rw [hy7]; exact UInt8.toNat_lt _
    have u4 : IntKind.i64.wrap (y4 : Int) = (y4 : Int) := IntWalk.i64_in _ (by omega)
    have u5 : IntKind.i64.wrap (y5 : Int) = (y5 : Int) := IntWalk.i64_in _ (by omega)
    have u6 : IntKind.i64.wrap (y6 : Int) = (y6 : Int) := IntWalk.i64_in _ (by omega)
    have u7 : IntKind.i64.wrap (y7 : Int) = (y7 : Int) := IntWalk.i64_in _ (by omega)
    have v4 : IntKind.i64.wrap ((256 : Int) * y4) = (256 : Int) * y4 := IntWalk.i64_in _ (by omega)
    have v6 : IntKind.i64.wrap ((256 : Int) * y6) = (256 : Int) * y6 := IntWalk.i64_in _ (by omega)
    have x4 : IntKind.i64.wrap ((256 : Int) * y4 + y5) = (Q : Int) := by rw [IntWalk.i64_in _ (by omega)]; omega
    have x6 : IntKind.i64.wrap ((256 : Int) * y6 + y7) = (Z : Int) := by rw [IntWalk.i64_in _ (by omega)]; omega
    have i4 : (4 : Int) ≤ (c : Int) := by have := h14.out; have := hc.out; omega
    have k4 : (4 : Int) < (n : Int) := by have := h14.out; omega
    have k5 : (5 : Int) < (n : Int) := by have := h14.out; omega
    have k6 : (6 : Int) < (n : Int) := by have := h14.out; omega
    have k7 : (7 : Int) < (n : Int) := by have := h14.out; omega
    have l4 : 4 < n := by omega
    have l5 : 5 < n := by omega
    have l6 : 6 < n := by omega
    have l7 : 7 < n := by omega
    have G4 := Lib.hid g4
    have G5 := Lib.hid g5
    have G6 := Lib.hid g6
    have G7 := Lib.hid g7
    clear hy4 hy5 hy6 hy7 g4 g5 g6 g7 eQ eZ t4 t5 t6 t7 m4 hbl ee4 ee6
    go_wp2_with fail
    refine q4.mono ?_
    rintro e w3 ⟨rfl, rfl⟩
    clear q4 hbb
    go_wp2_with fail
    refine wp_region_invT (F := ?FB) (V := VRb u.heap.size B o n c y4 y5 y6 y7 S Q Z) (dead := fun _ => none) (T := TRb u.heap.size) (C := fun u' => HasFr u' w.heap.size ∧ Blk u' w.heap.size 25 #[.int .u32 0, .int .i64 0, .int .i64 0, .slice none 0 0] ∧ Below u.heap.size u u' ∧ u.heap.size ≤ u'.heap.size) (E := ERb u.heap.size) (by kernel_rfl) (by kernel_rfl) (by kernel_rfl) (fun x => ?hFB) ?hmonoB ?hTmB ?hTB ?hCB ?stepB ?finB
    case hFB => simp only [mkA, Act.put, List.setIfInBounds_toArray, List.set_cons_succ, List.set_cons_zero, Nat.reduceAdd, Nat.zero_add]; first | with_reducible rfl | rfl
    case hmonoB => exact fun k i v _ _ he hik hwt hdd hv => VRb.mono he hik hv
    case hTmB => exact fun k j _ _ he hkj hwt hv => TRb.mono he hkj hv
    case hTB => exact fun j => TRb.of rfl j
    case hCB => exact ⟨⟨_, _, _, _, kr2⟩, kr2, below_drew _, Nat.le_refl _⟩
    case stepB =>
      refine AllOps.cons (fun x u2 hC hT hp KK hKK => ?_) ?_
      · clear hp hT
        go_simp
        refine hKK _ _ _ hC (by rfl) (by exact rfl) ?_
        first | (simp only [Act.put, List.setIfInBounds_toArray, List.set_cons_succ, List.set_cons_zero]; done) | simp [Act.put]
      refine AllOps.cons (fun x u2 hC hT hp KK hKK => ?_) ?_
      · simp [KnownTill, Region.binds, VRb] at hp
        clear hT
        go_simp
        refine hKK _ _ _ hC (by rfl) (by exact rfl) ?_
        first | (simp only [Act.put, List.setIfInBounds_toArray, List.set_cons_succ, List.set_cons_zero, hp]; done) | simp [Act.put, hp]
      refine AllOps.cons (fun x u2 hC hT hp KK hKK => ?_) ?_
      · clear hp hT
        go_simp
        refine hKK _ _ _ hC (by rfl) (by exact rfl) ?_
        first | (simp only [Act.put, List.setIfInBounds_toArray, List.set_cons_succ, List.set_cons_zero]; done) | simp [Act.put]
      refine AllOps.cons (fun x u2 hC hT hp KK hKK => ?_) ?_
      · simp [KnownTill, Region.binds, VRb] at hp
        clear hT
        go_simp
        refine hKK _ _ _ hC (by rfl) (by exact rfl) ?_
        first | (simp only [Act.put, List.setIfInBounds_toArray, List.set_cons_succ, List.set_cons_zero, hp]; done) | simp [Act.put, hp]
      refine AllOps.cons (fun x u2 hC hT hp KK hKK => ?_) ?_
      · simp [KnownTill, Region.binds, VRb] at hp
        clear hT
        have cc := G4.out u2 (bt hbu hC.2.2.1)
        go_simp
        refine hKK _ _ _ hC (by rfl) (by exact rfl) ?_
        first | (simp only [Act.put, List.setIfInBounds_toArray, List.set_cons_succ, List.set_cons_zero, hp]; done) | simp [Act.put, hp]
      refine AllOps.cons (fun x u2 hC hT hp KK hKK => ?_) ?_
      · simp [KnownTill, Region.binds, VRb] at hp
        clear hT
        go_simp
        refine hKK _ _ _ hC (by rfl) (by exact rfl) ?_
        first | (simp only [Act.put, List.setIfInBounds_toArray, List.set_cons_succ, List.set_cons_zero, hp]; done) | simp [Act.put, hp]
      refine AllOps.cons (fun x u2 hC hT hp KK hKK => ?_) ?_
      · simp [KnownTill, Region.binds, VRb] at hp
        clear hT
        go_simp
        refine hKK _ _ _ hC (by rfl) (by exact rfl) ?_
        first | (simp only [Act.put, List.setIfInBounds_toArray, List.set_cons_succ, List.set_cons_zero, hp]; done) | simp [Act.put, hp]
      refine AllOps.cons (fun x u2 hC hT hp KK hKK => ?_) ?_
      · clear hp hT
        go_simp
        refine hKK _ _ _ hC (by rfl) (by exact rfl) ?_
        first | (simp only [Act.put, List.setIfInBounds_toArray, List.set_cons_succ, List.set_cons_zero]; done) | simp [Act.put]
      refine AllOps.cons (fun x u2 hC hT hp KK hKK => ?_) ?_
      · simp [KnownTill, Region.binds, VRb] at hp
        clear hT
        go_simp
        refine hKK _ _ _ hC (by rfl) (by exact rfl) ?_
        first | (simp only [Act.put, List.setIfInBounds_toArray, List.set_cons_succ, List.set_cons_zero, hp]; done) | simp [Act.put, hp]
      refine AllOps.cons (fun x u2 hC hT hp KK hKK => ?_) ?_
      · simp [KnownTill, Region.binds, VRb] at hp
        clear hT
        have cc := G5.out u2 (bt hbu hC.2.2.1)
        go_simp
        refine hKK _ _ _ hC (by rfl) (by exact rfl) ?_
        first | (simp only [Act.put, List.setIfInBounds_toArray, List.set_cons_succ, List.set_cons_zero, hp]; done) | simp [Act.put, hp]
      refine AllOps.cons (fun x u2 hC hT hp KK hKK => ?_) ?_
      · simp [KnownTill, Region.binds, VRb] at hp
        clear hT
        go_simp
        refine hKK _ _ _ hC (by rfl) (by exact rfl) ?_
        first | (simp only [Act.put, List.setIfInBounds_toArray, List.set_cons_succ, List.set_cons_zero, hp]; done) | simp [Act.put, hp]
      refine AllOps.cons (fun x u2 hC hT hp KK hKK => ?_) ?_
      · simp [KnownTill, Region.binds, VRb] at hp
        clear hT
        go_simp
        refine hKK _ _ _ hC (by rfl) (by exact rfl) ?_
        first | (simp only [Act.put, List.setIfInBounds_toArray, List.set_cons_succ, List.set_cons_zero, hp]; done) | simp [Act.put, hp]
      refine AllOps.cons (fun x u2 hC hT hp KK hKK => ?_) ?_
      · clear hp hT
        go_simp
        refine hKK _ _ _ hC (by rfl) (by exact rfl) ?_
        first | (simp only [Act.put, List.setIfInBounds_toArray, List.set_cons_succ, List.set_cons_zero]; done) | simp [Act.put]
      refine AllOps.cons (fun x u2 hC hT hp KK hKK => ?_) ?_
      · simp [KnownTill, Region.binds, VRb] at hp
        clear hT
        go_simp
        refine hKK _ _ _ hC (by rfl) (by exact rfl) ?_
        first | (simp only [Act.put, List.setIfInBounds_toArray, List.set_cons_succ, List.set_cons_zero, hp]; done) | simp [Act.put, hp]
      refine AllOps.cons (fun x u2 hC hT hp KK hKK => ?_) ?_
      · simp [KnownTill, Region.binds, VRb] at hp
        clear hT
        have cc := G6.out u2 (bt hbu hC.2.2.1)
        go_simp
        refine hKK _ _ _ hC (by rfl) (by exact rfl) ?_
        first | (simp only [Act.put, List.setIfInBounds_toArray, List.set_cons_succ, List.set_cons_zero, hp]; done) | simp [Act.put, hp]
      refine AllOps.cons (fun x u2 hC hT hp KK hKK => ?_) ?_
      · simp [KnownTill, Region.binds, VRb] at hp
        clear hT
        go_simp
        refine hKK _ _ _ hC (by rfl) (by exact rfl) ?_
        first | (simp only [Act.put, List.setIfInBounds_toArray, List.set_cons_succ, List.set_cons_zero, hp]; done) | simp [Act.put, hp]
      refine AllOps.cons (fun x u2 hC hT hp KK hKK => ?_) ?_
      · simp [KnownTill, Region.binds, VRb] at hp
        clear hT
        go_simp
        refine hKK _ _ _ hC (by rfl) (by exact rfl) ?_
        first | (simp only [Act.put, List.setIfInBounds_toArray, List.set_cons_succ, List.set_cons_zero, hp]; done) | simp [Act.put, hp]
      refine AllOps.cons (fun x u2 hC hT hp KK hKK => ?_) ?_
      · clear hp hT
        go_simp
        refine hKK _ _ _ hC (by rfl) (by exact rfl) ?_
        first | (simp only [Act.put, List.setIfInBounds_toArray, List.set_cons_succ, List.set_cons_zero]; done) | simp [Act.put]
      refine AllOps.cons (fun x u2 hC hT hp KK hKK => ?_) ?_
      · simp [KnownTill, Region.binds, VRb] at hp
        clear hT
        go_simp
        refine hKK _ _ _ hC (by rfl) (by exact rfl) ?_
        first | (simp only [Act.put, List.setIfInBounds_toArray, List.set_cons_succ, List.set_cons_zero, hp]; done) | simp [Act.put, hp]
      refine AllOps.cons (fun x u2 hC hT hp KK hKK => ?_) ?_
      · simp [KnownTill, Region.binds, VRb] at hp
        clear hT
        have cc := G7.out u2 (bt hbu hC.2.2.1)
        go_simp
        refine hKK _ _ _ hC (by rfl) (by exact rfl) ?_
        first | (simp only [Act.put, List.setIfInBounds_toArray, List.set_cons_succ, List.set_cons_zero, hp]; done) | simp [Act.put, hp]
      refine AllOps.cons (fun x u2 hC hT hp KK hKK => ?_) ?_
      · simp [KnownTill, Region.binds, VRb] at hp
        clear hT
        go_simp
        refine hKK _ _ _ hC (by rfl) (by exact rfl) ?_
        first | (simp only [Act.put, List.setIfInBounds_toArray, List.set_cons_succ, List.set_cons_zero, hp]; done) | simp [Act.put, hp]
      refine AllOps.cons (fun x u2 hC hT hp KK hKK => ?_) ?_
      · simp [KnownTill, Region.binds, VRb] at hp
        clear hT
        go_simp
        refine hKK _ _ _ hC (by rfl) (by exact rfl) ?_
        first | (simp only [Act.put, List.setIfInBounds_toArray, List.set_cons_succ, List.set_cons_zero, hp]; done) | simp [Act.put, hp]
      refine AllOps.cons (fun x u2 hC hT hp KK hKK => ?_) ?_
      · simp [KnownTill, Region.binds, VRb] at hp
        clear hT
        obtain ⟨h1, h11, h21⟩ : x 1 = .int .u32 S ∧ x 11 = .int .i64 Q ∧ x 21 = .int .i64 Z := by simp_all
        clear hp
        go_simp
        refine hKK _ _ _ hC (by rfl) (by exact rfl) ?_
        first | (simp only [Act.put, List.setIfInBounds_toArray, List.set_cons_succ, List.set_cons_zero, h1, h11, h21]; done) | simp [Act.put, h1, h11, h21]
      refine AllOps.cons (fun x u2 hC hT hp KK hKK => ?_) ?_
      · clear hp
        have hT1 : u2.heap.size = u.heap.size := hT
        clear hT
        have kn := Blk.new u2 25 #[.int .u32 0, .int .i64 0, .int .i64 0, .slice none 0 0]
        rw [hT1] at kn
        have HT1 := Lib.hid hT1
        clear hT1
        go_simp
        refine hKK (.pointer (some ⟨u2.heap.size, 0, none⟩)) _ (u2.alloc (.cells #[.int .u32 0, .int .i64 0, .int .i64 0, .slice none 0 0] 25)) ⟨let ⟨_, _, _, _, h⟩ := hC.1; ⟨_, _, _, _, h.alloc _⟩, hC.2.1.alloc _, bt hC.2.2.1 (ba _ _), Nat.le_trans hC.2.2.2 (ba u2 (.cells #[.int .u32 0, .int .i64 0, .int .i64 0, .slice none 0 0] 25)).size⟩ ⟨_, rfl⟩ ⟨by rw [HT1.out], _, _, _, _, kn⟩ ?_
        first | (simp only [Act.put, List.setIfInBounds_toArray, List.set_cons_succ, List.set_cons_zero]; done) | simp [Act.put]
      refine AllOps.cons (fun x u2 hC hT hp KK hKK => ?_) ?_
      · simp [KnownTill, Region.binds, VRb] at hp
        clear hT
        obtain ⟨h22, h23, x1, x2, x3, x4', k2⟩ : x 22 = .agg #[.int .u32 S, .int .i64 Q, .int .i64 Z, .slice none 0 0] ∧ x 23 = .pointer (some ⟨u.heap.size, 0, none⟩) ∧ HasFr u2 u.heap.size := by first | exact ⟨hp.1, hp.2.1, hp.2.2.1⟩ | exact ⟨hp.1, hp.2.1, hp.2.2⟩ | exact ⟨hp.2, hp.1.1, hp.1.2⟩ | exact ⟨hp.2.1, hp.1.1, hp.1.2⟩ | simp_all
        clear hp
        have d0 := k2.cell 0
        have d1 := k2.cell 1
        have d2 := k2.cell 2
        have d3 := k2.cell 3
        have f0 := k2.frozen 0
        have f1 := k2.frozen 1
        have f2 := k2.frozen 2
        have f3 := k2.frozen 3
        simp at d0 d1 d2 d3
        have k3 := k2.set4 (.int .u32 S) (.int .i64 Q) (.int .i64 Z) (.slice none 0 0)
        have hbb := below_set4 hC.2.2.1 (Nat.le_refl u.heap.size) (.int .u32 S) (.int .i64 Q) (.int .i64 Z) (.slice none 0 0)
        have hlt := kr2.lt
        have hne : w.heap.size ≠ u.heap.size := by omega
        have kk := (((hC.2.1.far (p := ⟨u.heap.size, 0, none⟩) hne (.int .u32 S)).far (p := ⟨u.heap.size, 1, none⟩) hne (.int .i64 Q)).far (p := ⟨u.heap.size, 2, none⟩) hne (.int .i64 Z)).far (p := ⟨u.heap.size, 3, none⟩) hne (.slice none 0 0)
        have K2 := Lib.hid k2
        have hsz := hC.2.2.2
        clear k2 hC hlt hne
        go_simp
        refine hKK undef _ (set4 u2 u.heap.size (.int .u32 S) (.int .i64 Q) (.int .i64 Z) (.slice none 0 0)) ⟨⟨_, _, _, _, kk⟩, kk, hbb, by rw [set4_size]; exact hsz⟩ ⟨⟨_, _, _, _, K2.out⟩, _, _, _, _, rfl⟩ k3 ?_
        simp [Act.put, h22, h23]
      exact AllOps.nil
    case finB =>
      intro x u3 hC hV
      have h23 : x 23 = .pointer (some ⟨u.heap.size, 0, none⟩) := (hV 23 (by decide) rfl).1
      have k9 : Blk u3 u.heap.size 25 #[.int .u32 S, .int .i64 Q, .int .i64 Z, .slice none 0 0] := hV 24 (by decide) rfl
      rw [h23]
      clear hV h23
      obtain ⟨_, kr3, hb3, hsz3⟩ := hC
      have hbu3 := bt hbu hb3
      have i10 : (10 : Int) ≤ (M : Int) := by have := hM.out; omega
      have n10 : ¬ (c = 10) := by have := h14.out; have := hc.out; omega
      have eMK : M - 10 = K := by have := hM.out; omega
      have hb10 : Bs w w.heap.size (some ⟨B, o + 10, none⟩) D := by
        have h9 := hs.part 10 K (by have := h14.out; have := hn.out; omega)
        rwa [show (b.drop 10).take K = D by rw [← hD.out, List.drop_take]; congr 1; have := hM.out; omega] at h9
      have hDK : Hid (K = D.length) := Lib.hid (by rw [← hD.out, List.length_drop, ← hfl.out, hM.out]; omega)
      obtain ⟨i0, hi, hz0, hz1, hz2⟩ := info_parts Try.infoU8
      have hbl : Hid (D.length ≤ 140737488355328) := Lib.hid (by rw [← hDK.out]; have := hKb.out; omega)
      have hwu : w.heap.size ≠ u.heap.size := by have := kr2.lt; omega
      clear kr2 k4 k5 k6 k7 l4 l5 l6 l7 u4 u5 u6 u7 v4 v6 x4 x6 eS i4 e5
      go_wp2_with fail
      refine wp_region_invT (F := ?FC) (V := VRc u.heap.size B o n c M K S Q Z D) (dead := fun _ => none) (T := TRc u.heap.size S Q Z) (C := fun u' => HasFr u' u.heap.size ∧ Blk u' w.heap.size 25 #[.int .u32 0, .int .i64 0, .int .i64 0, .slice none 0 0] ∧ Below u.heap.size u u' ∧ u3.heap.size ≤ u'.heap.size ∧ (∃ tt, Blk u' u.heap.size 25 #[.int .u32 S, .int .i64 Q, .int .i64 Z, tt])) (E := ERc u.heap.size) (by kernel_rfl) (by kernel_rfl) (by kernel_rfl) (fun x => ?hFC) ?hmonoC ?hTmC ?hTC ?hCC ?stepC ?finC
      case hFC => simp only [mkA, Act.put, List.setIfInBounds_toArray, List.set_cons_succ, List.set_cons_zero, Nat.reduceAdd, Nat.zero_add]; first | with_reducible rfl | rfl
      case hmonoC => exact fun k i v _ _ he hik hwt hdd hv => VRc.mono he hik hv
      case hTmC => exact fun k j _ _ he hkj hwt hv => TRc.mono he (fun h => ltf hwt (by rw [h.1, h.2]; kernel_rfl)) hv
      case hTC => exact fun j => TRc.of k9 j
      case hCC => exact ⟨⟨_, _, _, _, k9⟩, kr3, bt hb3 (below_drew _), Nat.le_refl _, _, k9⟩
      case stepC =>
        refine AllOps.cons (fun x u2 hC hT hp KK hKK => ?_) ?_
        · clear hp hT
          go_simp
          refine hKK _ _ _ hC (by rfl) (by exact rfl) ?_
          first | (simp only [Act.put, List.setIfInBounds_toArray, List.set_cons_succ, List.set_cons_zero]; done) | simp [Act.put]
        refine AllOps.cons (fun x u2 hC hT hp KK hKK => ?_) ?_
        · simp [KnownTill, Region.binds, VRc] at hp
          have k8 : Blk u2 u.heap.size 25 #[.int .u32 S, .int .i64 Q, .int .i64 Z, .slice none 0 0] := hT
          have d3 := k8.cell 3
          simp only [List.getElem?_toArray, List.getElem?_cons_zero, List.getElem?_cons_succ] at d3
          clear k8 hT
          go_simp
          refine hKK _ _ _ hC (by rfl) (by exact rfl) ?_
          first | (simp only [Act.put, List.setIfInBounds_toArray, List.set_cons_succ, List.set_cons_zero, hp]; done) | simp [Act.put, hp]
        refine AllOps.cons (fun x u2 hC hT hp KK hKK => ?_) ?_
        · clear hp hT
          go_simp
          refine hKK _ _ _ hC (by rfl) (by exact rfl) ?_
          first | (simp only [Act.put, List.setIfInBounds_toArray, List.set_cons_succ, List.set_cons_zero]; done) | simp [Act.put]
        refine AllOps.cons (fun x u2 hC hT hp KK hKK => ?_) ?_
        · clear hp hT
          go_simp
          refine hKK _ _ _ hC (by rfl) (by exact rfl) ?_
          first | (simp only [Act.put, List.setIfInBounds_toArray, List.set_cons_succ, List.set_cons_zero]; done) | simp [Act.put]
        refine AllOps.cons (fun x u2 hC hT hp KK hKK => ?_) ?_
        · simp [KnownTill, Region.binds, VRc] at hp
          clear hT
          go_simp
          refine hKK _ _ _ hC (by rfl) (by exact rfl) ?_
          first | (simp only [Act.put, List.setIfInBounds_toArray, List.set_cons_succ, List.set_cons_zero, hp]; done) | simp [Act.put, hp]
        refine AllOps.cons (fun x u2 hC hT hp KK hKK => ?_) ?_
        · simp [KnownTill, Region.binds, VRc] at hp
          clear hT
          obtain ⟨h2, h4⟩ : x 2 = .slice (some ⟨B, o, none⟩) n c ∧ x 4 = .int .i64 M := by simp_all
          clear hp
          go_simp
          refine hKK _ _ _ hC (by rfl) (by exact rfl) ?_
          first | (simp only [Act.put, List.setIfInBounds_toArray, List.set_cons_succ, List.set_cons_zero, h2, h4]; done) | simp [Act.put, h2, h4]
        refine AllOps.cons (fun x u2 hC hT hp KK hKK => ?_) ?_
        · simp [KnownTill, Region.binds, VRc] at hp
          clear hT
          obtain ⟨h1, h5⟩ : x 1 = .slice none 0 0 ∧ x 5 = .slice (some ⟨B, o + 10, none⟩) K (c - 10) := by simp_all
          clear hp
          refine step_append_bs _ rfl _ _ 23 rfl u2.heap.size 5 i0 _ Try.underlying23 hi hz0 hz1 hz2 rfl none 0 [] 0 (by simp [mkA, Act.eval, h1]) rfl Own.nil _ (some ⟨B, o + 10, none⟩) (c - 10) D K (by simp [mkA, Act.eval, h5]) hDK.out (hb10.bt (bt hbu hC.2.2.1)) (by have := hbl.out; simpa using this) (Nat.le_refl _) ?_
          intro A6 c6 u6 own6 hg6 hr6
          rw [List.nil_append] at own6
          have hb6 := below_none hg6
          refine hKK (.slice A6 (0 + K) c6) _ _ ⟨hC.1.bt hb6, hC.2.1.below hb6 hC.2.1.lt, bt hC.2.2.1 hb6, Nat.le_trans hC.2.2.2.1 hb6.size, let ⟨tt, h⟩ := hC.2.2.2.2; ⟨tt, h.below hb6 h.lt⟩⟩ hb6 ⟨A6, c6, by rw [Nat.zero_add], own6.base_le hC.2.2.1.size⟩ rfl
        refine AllOps.cons (fun x u2 hC hT hp KK hKK => ?_) ?_
        · clear hp hT
          go_simp
          refine hKK _ _ _ hC (by rfl) (by exact rfl) ?_
          first | (simp only [Act.put, List.setIfInBounds_toArray, List.set_cons_succ, List.set_cons_zero]; done) | simp [Act.put]
        refine AllOps.cons (fun x u2 hC hT hp KK hKK => ?_) ?_
        · simp [KnownTill, Region.binds, VRc] at hp
          clear hT
          obtain ⟨h7, A6, c6, h6, own6⟩ : x 7 = .pointer (some ⟨u.heap.size, 3, none⟩) ∧ IsOwnN u2 u.heap.size (x 6) D K := by first | exact ⟨hp.1, hp.2⟩ | exact ⟨hp.2, hp.1⟩ | exact ⟨hp.1, hp.2.1⟩ | exact ⟨hp.2.1, hp.1⟩
          clear hp
          obtain ⟨_, kz, hbz, hsz, tt, kt⟩ := hC
          have d3 := kt.cell 3
          simp only [List.getElem?_toArray, List.getElem?_cons_zero, List.getElem?_cons_succ] at d3
          have f3 := kt.frozen 3
          have k3 := kt.set_ 3 (.slice A6 K c6)
          simp at k3
          have own7 := own6.far (p := ⟨u.heap.size, 3, none⟩) (own6.ne_blk kt frm_ne) (.slice A6 K c6)
          have kz2 := kz.far (p := ⟨u.heap.size, 3, none⟩) hwu (.slice A6 K c6)
          have hbz2 := hbz.setCell (p := ⟨u.heap.size, 3, none⟩) (Nat.le_refl _) (.slice A6 K c6)
          have KT := Lib.hid kt
          clear kt own6
          go_simp
          refine hKK undef _ (u2.setCell ⟨u.heap.size, 3, none⟩ (.slice A6 K c6)) ⟨⟨_, _, _, _, k3⟩, kz2, hbz2, by simpa using hsz, _, k3⟩ ⟨⟨_, _, _, _, KT.out⟩, _, rfl⟩ ⟨A6, c6, k3, own7⟩ ?_
          simp [Act.put, h6, h7]
        exact AllOps.nil
      case finC =>
        intro x u4 hC hV
        obtain ⟨A4, c4, kf, own5⟩ : HoldsF u4 u.heap.size u.heap.size S Q Z D K := hV 8 (by decide) rfl
        clear hV
        obtain ⟨_, kr4, hb4, _, _⟩ := hC
        have hb5 := bt hbu hb4
        have hm := refMay_any S Q Z A4 K c4 u4
        rw [hmy.out] at hm
        have x0 := (kf).cell 0
        have x1 := (kf).cell 1
        have x2 := (kf).cell 2
        have x3 := (kf).cell 3
        simp only [List.getElem?_toArray, List.getElem?_cons_zero, List.getElem?_cons_succ] at x0 x1 x2 x3
        clear hb3 hbu3 kr3 k9 hs hbf
        go_wp2_with fail
        refine hm.mono ?_
        clear hm
        rintro e w6 ⟨rfl, hb6⟩
        have kr6 := kr4.below hb6 kr4.lt
        have kf6 := kf.below hb6 kf.lt
        have hb7 := bt hb5 hb6
        have own6 := (own5.below hb6 (Nat.le_refl _)).base_le hbu.size
        clear x0 x1 x2 x3
        have c0 := (kr6).cell 0
        have c1 := (kr6).cell 1
        have c2 := (kr6).cell 2
        have c3 := (kr6).cell 3
        simp only [List.getElem?_toArray, List.getElem?_cons_zero, List.getElem?_cons_succ] at c0 c1 c2 c3
        have f0 := (kr6).frozen 0
        have f1 := (kr6).frozen 1
        have f2 := (kr6).frozen 2
        have f3 := (kr6).frozen 3
        have st0 := kr6.set_ 0 (.int .u32 0)
        have ste0 := st0.cell 0
        have sth0 := hb7.setCell (p := ⟨w.heap.size, 0, none⟩) (by first | (show _ ≤ _; omega) | simp) (.int .u32 0)
        have st1 := st0.set_ 1 (.int .i64 0)
        have ste1 := st1.cell 1
        have sth1 := sth0.setCell (p := ⟨w.heap.size, 1, none⟩) (by first | (show _ ≤ _; omega) | simp) (.int .i64 0)
        have st2 := st1.set_ 2 (.int .i64 0)
        have ste2 := st2.cell 2
        have sth2 := sth1.setCell (p := ⟨w.heap.size, 2, none⟩) (by first | (show _ ≤ _; omega) | simp) (.int .i64 0)
        have st3 := st2.set_ 3 (.slice none 0 0)
        have ste3 := st3.cell 3
        have sth3 := sth2.setCell (p := ⟨w.heap.size, 3, none⟩) (by first | (show _ ≤ _; omega) | simp) (.slice none 0 0)
        simp at ste0 ste1 ste2 ste3
        clear st0 st1 st2 st3
        clear kr6 kf6 kr4 kf hb5 hb6 hb4
        go_wp2
        refine bodyPost_ret (by simp [results, Try.results15, go_sem, ste0, ste1, ste2, ste3]; try rfl) rfl ?_
        exact ⟨none, 0, 0, rfl, Lib.hid rfl, Own.nil, sth3⟩

set_option maxHeartbeats 2000000 in
theorem rread_6 (B o c n K M : Nat) (b : List UInt8) (w : World) (hn : Hid (n = b.length)) (hc : Hid (n ≤ c)) (hcm : Hid (c ≤ 9223372036854775807)) (h14 : Hid (14 ≤ n)) (hs : Bs w w.heap.size (some ⟨B, o, none⟩) b) (hK : Hid (num ((b.drop 8).take 2) = K)) (hM : Hid (M = 10 + K)) (hM4 : Hid (n = M + 4)) (Z1 Z2 : Nat) (hZ1 : Hid (num (b.drop M) = Z1)) (hZ2 : Hid (sumR (b.take M) = Z2)) (hbb : ((Z1 : Int) != (Z2 : Int)) = false) (S Q Z : Nat) (D : List UInt8) (hS : Hid (num ((b.take M).take 4) = S)) (hQ : Hid (num (((b.take M).drop 4).take 2) = Q)) (hZ : Hid (num (((b.take M).drop 6).take 2) = Z)) (hD : Hid ((b.take M).drop 10 = D)) (hmy : Hid (mayF S Q Z K = true)) : Calls Try.prog 15 #[.slice (some ⟨B, o, none⟩) n c] w (RdO w S Q Z D 0) := by
  have hlen : 14 ≤ b.length := by rw [← hn.out]; exact h14.out
  have hKb : Hid (K < 65536) := Lib.hid (by rw [← hK.out]; exact num2_lt _ (by rw [List.length_take]; omega))
  obtain ⟨B', o', eA, hB, hcell⟩ := hs (by omega)
  cases eA
  have cellAt : ∀ i, (hi : i < b.length) → ∀ u, Below w.heap.size w u → u.cell? ⟨B, o + i, none⟩ = some (.int .u8 ((b[i]'hi).toNat : Int)) := fun i hi u hu => (hu.cell (p := ⟨B, o + i, none⟩) hB).trans (hcell i hi)
  obtain ⟨p, hp8⟩ : ∃ p, p = b[8].toNat := ⟨_, rfl⟩
  obtain ⟨r, hr9⟩ : ∃ r, r = b[9].toNat := ⟨_, rfl⟩
  have a8 := cellAt 8 (by omega)
  have a9 := cellAt 9 (by omega)
  have eK : K = 256 * p + r := by rw [← hK.out, two_at b 8 (by omega), num_two, hp8, hr9]
  have p8 : p < 256 := by rw [hp8]; exact UInt8.toNat_lt _
  have r9 : r < 256 := by rw [hr9]; exact UInt8.toNat_lt _
  rw [← hp8] at a8
  rw [← hr9] at a9
  have wr1 : IntKind.i64.wrap (p : Int) = (p : Int) := IntWalk.i64_in _ (by omega)
  have wr2 : IntKind.i64.wrap (r : Int) = (r : Int) := IntWalk.i64_in _ (by omega)
  have wr3 : IntKind.i64.wrap ((256 : Int) * p) = (256 : Int) * p := IntWalk.i64_in _ (by omega)
  have wr4 : IntKind.i64.wrap ((256 : Int) * p + r) = (K : Int) := by rw [IntWalk.i64_in _ (by omega)]; omega
  have i8 : (8 : Int) < (n : Int) := by have := h14.out; omega
  have i9 : (9 : Int) < (n : Int) := by have := h14.out; omega
  have j8 : 8 < n := by omega
  have j9 : 9 < n := by omega
  have i14 : decide ((n : Int) < 14) = false := decide_eq_false (by have := h14.out; omega)
  have e3 : IntKind.i64.wrap (14 + (K : Int)) = (n : Int) := by rw [IntWalk.i64_in _ (by have := hKb.out; omega), hM4.out, hM.out]; omega
  have e4 : IntKind.i64.wrap (10 + (K : Int)) = (M : Int) := by rw [IntWalk.i64_in _ (by have := hKb.out; omega), hM.out]; omega
  have kr := Blk.new w 25 #[.int .u32 0, .int .i64 0, .int .i64 0, .slice none 0 0]
  have hbw := ba w (.cells #[.int .u32 0, .int .i64 0, .int .i64 0, .slice none 0 0] 25)
  have A8 := Lib.hid a8
  have A9 := Lib.hid a9
  have CellAt := Lib.hid cellAt
  have HB := Lib.hid hB
  clear hp8 hr9 eK p8 r9 hlen hcell a8 a9 cellAt hB
  go_enter Try.func15, Try.ntmps15
  go_wp2_with fail
  generalize (w.alloc (.cells #[.int .u32 0, .int .i64 0, .int .i64 0, .slice none 0 0] 25)) = w1 at hbw kr ⊢
  refine wp_region_invT (F := ?FA) (V := VRa B o n c p r K) (dead := fun _ => none) (T := fun _ _ => True) (C := fun u' => Below w1.heap.size w1 u') (E := fun _ u u' => u' = u) (by kernel_rfl) (by kernel_rfl) (by kernel_rfl) (fun x => ?hFA) ?hmonoA ?hTmA ?hTA ?hCA ?stepA ?finA
  case hFA => simp only [mkA, Act.put, List.setIfInBounds_toArray, List.set_cons_succ, List.set_cons_zero, Nat.reduceAdd, Nat.zero_add]; first | with_reducible rfl | rfl
  case hmonoA => exact fun k i v u u' he hik hwt hdd hv => VRa.mono hv
  case hTmA => exact fun _ _ _ _ _ _ _ _ => trivial
  case hTA => exact fun j => trivial
  case hCA => exact below_drew _
  case stepA =>
    refine AllOps.cons (fun x u hC hT hp KK hKK => ?_) ?_
    · clear hp hT
      go_simp
      refine hKK _ _ _ hC (by rfl) (by exact rfl) ?_
      first | (simp only [Act.put, List.setIfInBounds_toArray, List.set_cons_succ, List.set_cons_zero]; done) | simp [Act.put]
    refine AllOps.cons (fun x u hC hT hp KK hKK => ?_) ?_
    · simp [KnownTill, Region.binds, VRa] at hp
      clear hT
      go_simp
      refine hKK _ _ _ hC (by rfl) (by exact rfl) ?_
      first | (simp only [Act.put, List.setIfInBounds_toArray, List.set_cons_succ, List.set_cons_zero, hp]; done) | simp [Act.put, hp]
    refine AllOps.cons (fun x u hC hT hp KK hKK => ?_) ?_
    · simp [KnownTill, Region.binds, VRa] at hp
      clear hT
      have cc := A8.out u (bt hbw hC)
      go_simp
      refine hKK _ _ _ hC (by rfl) (by exact rfl) ?_
      first | (simp only [Act.put, List.setIfInBounds_toArray, List.set_cons_succ, List.set_cons_zero, hp]; done) | simp [Act.put, hp]
    refine AllOps.cons (fun x u hC hT hp KK hKK => ?_) ?_
    · simp [KnownTill, Region.binds, VRa] at hp
      clear hT
      go_simp
      refine hKK _ _ _ hC (by rfl) (by exact rfl) ?_
      first | (simp only [Act.put, List.setIfInBounds_toArray, List.set_cons_succ, List.set_cons_zero, hp]; done) | simp [Act.put, hp]
    refine AllOps.cons (fun x u hC hT hp KK hKK => ?_) ?_
    · simp [KnownTill, Region.binds, VRa] at hp
      clear hT
      go_simp
      refine hKK _ _ _ hC (by rfl) (by exact rfl) ?_
      first | (simp only [Act.put, List.setIfInBounds_toArray, List.set_cons_succ, List.set_cons_zero, hp]; done) | simp [Act.put, hp]
    refine AllOps.cons (fun x u hC hT hp KK hKK => ?_) ?_
    · clear hp hT
      go_simp
      refine hKK _ _ _ hC (by rfl) (by exact rfl) ?_
      first | (simp only [Act.put, List.setIfInBounds_toArray, List.set_cons_succ, List.set_cons_zero]; done) | simp [Act.put]
    refine AllOps.cons (fun x u hC hT hp KK hKK => ?_) ?_
    · simp [KnownTill, Region.binds, VRa] at hp
      clear hT
      go_simp
      refine hKK _ _ _ hC (by rfl) (by exact rfl) ?_
      first | (simp only [Act.put, List.setIfInBounds_toArray, List.set_cons_succ, List.set_cons_zero, hp]; done) | simp [Act.put, hp]
    refine AllOps.cons (fun x u hC hT hp KK hKK => ?_) ?_
    · simp [KnownTill, Region.binds, VRa] at hp
      clear hT
      have cc := A9.out u (bt hbw hC)
      go_simp
      refine hKK _ _ _ hC (by rfl) (by exact rfl) ?_
      first | (simp only [Act.put, List.setIfInBounds_toArray, List.set_cons_succ, List.set_cons_zero, hp]; done) | simp [Act.put, hp]
    refine AllOps.cons (fun x u hC hT hp KK hKK => ?_) ?_
    · simp [KnownTill, Region.binds, VRa] at hp
      clear hT
      go_simp
      refine hKK _ _ _ hC (by rfl) (by exact rfl) ?_
      first | (simp only [Act.put, List.setIfInBounds_toArray, List.set_cons_succ, List.set_cons_zero, hp]; done) | simp [Act.put, hp]
    refine AllOps.cons (fun x u hC hT hp KK hKK => ?_) ?_
    · simp [KnownTill, Region.binds, VRa] at hp
      clear hT
      go_simp
      refine hKK _ _ _ hC (by rfl) (by exact rfl) ?_
      first | (simp only [Act.put, List.setIfInBounds_toArray, List.set_cons_succ, List.set_cons_zero, hp]; done) | simp [Act.put, hp]
    refine AllOps.cons (fun x u hC hT hp KK hKK => ?_) ?_
    · simp [KnownTill, Region.binds, VRa] at hp
      clear hT
      go_simp
      refine hKK _ _ _ hC (by rfl) (by exact rfl) ?_
      first | (simp only [Act.put, List.setIfInBounds_toArray, List.set_cons_succ, List.set_cons_zero, hp]; done) | simp [Act.put, hp]
    exact AllOps.nil
  case finA =>
    intro x u hC hV
    have hz : x 10 = .int .i64 K := hV 10 (by decide) rfl
    rw [hz]
    clear hV hz
    have kr2 := kr.below hC kr.lt
    have hbu := bt hbw hC
    clear kr hC i8 i9 j8 j9 wr1 wr2 wr3 wr4
    have hMn : Hid (M ≤ b.length) := Lib.hid (by have := hM4.out; have := hn.out; omega)
    have hMb : Hid (M ≤ 70000) := Lib.hid (by have := hKb.out; have := hM.out; omega)
    have qz : ∀ (u : World), Below w.heap.size w u → Calls Try.prog 25 #[.slice (some ⟨B, o + M, none⟩) 4 (c - M)] u fun e w' => e = .returned (.tuple #[.int .u64 Z1, .int .i64 0]) ∧ u = w' := by
      intro u hu
      have h8 := hs.part M 4 (by have := hM4.out; have := hn.out; omega)
      rw [List.take_of_length_le (by rw [List.length_drop]; have := hM4.out; have := hn.out; omega)] at h8
      have := refget_n (some ⟨B, o + M, none⟩) (b.drop M) 4 (c - M) u (Lib.hid (by have := hM4.out; have := hn.out; rw [List.length_drop]; omega)) (Lib.hid (by have := hM4.out; have := hn.out; rw [List.length_drop]; omega)) ((h8.below hu).more hu.size)
      rw [hZ1.out] at this
      exact this
    have hbf : Bs w w.heap.size (some ⟨B, o, none⟩) (b.take M) := by
      have := hs.part 0 M (by have := h14.out; have := hn.out; omega)
      rwa [List.drop_zero, Nat.add_zero] at this
    have hfl : Hid (M = (b.take M).length) := Lib.hid (by rw [List.length_take]; have := hMn.out; omega)
    have qs : ∀ (u : World), Below w.heap.size w u → Calls Try.prog 22 #[.slice (some ⟨B, o, none⟩) M c] u fun e w' => e = .returned (.int .u32 Z2) ∧ u = w' := by
      intro u hu
      have := refsum_n (some ⟨B, o, none⟩) (b.take M) c M hfl u (by rw [← hfl.out]; have := hMb.out; omega) ((hbf.below hu).more hu.size)
      rw [hZ2.out] at this
      exact this
    have hz2 : Z2 < 4294967296 := by rw [← hZ2.out]; exact sumR_lt _
    have e5 : IntKind.u64.wrap (Z2 : Int) = (Z2 : Int) := IntWalk.u64_in _ (by omega)
    have i1 : (M : Int) ≤ (n : Int) := by have := hM4.out; omega
    have i2 : (M : Int) ≤ (c : Int) := by have := hM4.out; have := hc.out; omega
    have n2 : ¬ (c = M) := by have := hM4.out; have := hc.out; omega
    have n0 : ¬ (c = 0) := by have := h14.out; have := hc.out; omega
    have eN : n - M = 4 := by have := hM4.out; omega
    clear hz2
    go_wp2_with fail
    refine (qz _ hbu).mono ?_
    rintro e w3 ⟨rfl, rfl⟩
    go_wp2_with fail
    refine (qs _ hbu).mono ?_
    rintro e w3 ⟨rfl, rfl⟩
    clear qz qs
    have q4 : Calls Try.prog 25 #[.slice (some ⟨B, o, none⟩) 4 c] u fun e w' => e = .returned (.tuple #[.int .u64 S, .int .i64 0]) ∧ u = w' := by
      have h4 := bs_take (hbf.bt hbu) 4
      have := refget_n (some ⟨B, o, none⟩) ((b.take M).take 4) 4 c u (Lib.hid (by rw [List.length_take, ← hfl.out]; have := hM.out; omega)) (Lib.hid (by rw [List.length_take]; have := hfl.out; have := hM.out; omega)) h4
      rw [hS.out] at this
      exact this
    have m4 : S < 4294967296 := by rw [← hS.out]; exact num4_lt _ (by rw [List.length_take]; omega)
    have eS : IntKind.u32.wrap (S : Int) = (S : Int) := IntWalk.u32_in _ (by omega)
    have hbl : 14 ≤ b.length := by have := h14.out; have := hn.out; omega
    have ee4 : ((b.take M).drop 4).take 2 = (b.drop 4).take 2 := by
      rw [List.drop_take, List.take_take, Nat.min_eq_left (by have := hM.out; omega)]
    have ee6 : ((b.take M).drop 6).take 2 = (b.drop 6).take 2 := by
      rw [List.drop_take, List.take_take, Nat.min_eq_left (by have := hM.out; omega)]
    obtain ⟨y4, hy4⟩ : ∃ p, p = b[4].toNat := ⟨_, rfl⟩
    obtain ⟨y5, hy5⟩ : ∃ p, p = b[5].toNat := ⟨_, rfl⟩
    obtain ⟨y6, hy6⟩ : ∃ p, p = b[6].toNat := ⟨_, rfl⟩
    obtain ⟨y7, hy7⟩ : ∃ p, p = b[7].toNat := ⟨_, rfl⟩
    have g4 := CellAt.out 4 (by omega)
    have g5 := CellAt.out 5 (by omega)
    have g6 := CellAt.out 6 (by omega)
    have g7 := CellAt.out 7 (by omega)
    rw [← hy4] at g4
    rw [← hy5] at g5
    rw [← hy6] at g6
    rw [← hy7] at g7
    have eQ : Q = 256 * y4 + y5 := by rw [← hQ.out, ee4, two_at b 4 (by omega), num_two, hy4, hy5]
    have eZ : Z = 256 * y6 + y7 := by rw [← hZ.out, ee6, two_at b 6 (by omega), num_two, hy6, hy7]
    have t4 : y4 < 256 := by rw [hy4]; exact UInt8.toNat_lt _
    have t5 : y5 < 256 := by rw [hy5]; exact UInt8.toNat_lt _
    have t6 : y6 < 256 := by rw [hy6]; exact UInt8.toNat_lt _
    have t7 : y7 < 256 := by rw [hy7]; exact UInt8.toNat_lt _
    have u4 : IntKind.i64.wrap (y4 : Int) = (y4 : Int) := IntWalk.i64_in _ (by omega)
    have u5 : IntKind.i64.wrap (y5 : Int) = (y5 : Int) := IntWalk.i64_in _ (by omega)
    have u6 : IntKind.i64.wrap (y6 : Int) = (y6 : Int) := IntWalk.i64_in _ (by omega)
    have u7 : IntKind.i64.wrap (y7 : Int) = (y7 : Int) := IntWalk.i64_in _ (by omega)
    have v4 : IntKind.i64.wrap ((256 : Int) * y4) = (256 : Int) * y4 := IntWalk.i64_in _ (by omega)
    have v6 : IntKind.i64.wrap ((256 : Int) * y6) = (256 : Int) * y6 := IntWalk.i64_in _ (by omega)
    have x4 : IntKind.i64.wrap ((256 : Int) * y4 + y5) = (Q : Int) := by rw [IntWalk.i64_in _ (by omega)]; omega
    have x6 : IntKind.i64.wrap ((256 : Int) * y6 + y7) = (Z : Int) := by rw [IntWalk.i64_in _ (by omega)]; omega
    have i4 : (4 : Int) ≤ (c : Int) := by have := h14.out; have := hc.out; omega
    have k4 : (4 : Int) < (n : Int) := by have := h14.out; omega
    have k5 : (5 : Int) < (n : Int) := by have := h14.out; omega
    have k6 : (6 : Int) < (n : Int) := by have := h14.out; omega
    have k7 : (7 : Int) < (n : Int) := by have := h14.out; omega
    have l4 : 4 < n := by omega
    have l5 : 5 < n := by omega
    have l6 : 6 < n := by omega
    have l7 : 7 < n := by omega
    have G4 := Lib.hid g4
    have G5 := Lib.hid g5
    have G6 := Lib.hid g6
    have G7 := Lib.hid g7
    clear hy4 hy5 hy6 hy7 g4 g5 g6 g7 eQ eZ t4 t5 t6 t7 m4 hbl ee4 ee6
    go_wp2_with fail
    refine q4.mono ?_
    rintro e w3 ⟨rfl, rfl⟩
    clear q4 hbb
    go_wp2_with fail
    refine wp_region_invT (F := ?FB) (V := VRb u.heap.size B o n c y4 y5 y6 y7 S Q Z) (dead := fun _ => none) (T := TRb u.heap.size) (C := fun u' => HasFr u' w.heap.size ∧ Blk u' w.heap.size 25 #[.int .u32 0, .int .i64 0, .int .i64 0, .slice none 0 0] ∧ Below u.heap.size u u' ∧ u.heap.size ≤ u'.heap.size) (E := ERb u.heap.size) (by kernel_rfl) (by kernel_rfl) (by kernel_rfl) (fun x => ?hFB) ?hmonoB ?hTmB ?hTB ?hCB ?stepB ?finB
    case hFB => simp only [mkA, Act.put, List.setIfInBounds_toArray, List.set_cons_succ, List.set_cons_zero, Nat.reduceAdd, Nat.zero_add]; first | with_reducible rfl | rfl
    case hmonoB => exact fun k i v _ _ he hik hwt hdd hv => VRb.mono he hik hv
    case hTmB => exact fun k j _ _ he hkj hwt hv => TRb.mono he hkj hv
    case hTB => exact fun j => TRb.of rfl j
    case hCB => exact ⟨⟨_, _, _, _, kr2⟩, kr2, below_drew _, Nat.le_refl _⟩
    case stepB =>
      refine AllOps.cons (fun x u2 hC hT hp KK hKK => ?_) ?_
      · clear hp hT
        go_simp
        refine hKK _ _ _ hC (by rfl) (by exact rfl) ?_
        first | (simp only [Act.put, List.setIfInBounds_toArray, List.set_cons_succ, List.set_cons_zero]; done) | simp [Act.put]
      refine AllOps.cons (fun x u2 hC hT hp KK hKK => ?_) ?_
      · simp [KnownTill, Region.binds, VRb] at hp
        clear hT
        go_simp
        refine hKK _ _ _ hC (by rfl) (by exact rfl) ?_
        first | (simp only [Act.put, List.setIfInBounds_toArray, List.set_cons_succ, List.set_cons_zero, hp]; done) | simp [Act.put, hp]
      refine AllOps.cons (fun x u2 hC hT hp KK hKK => ?_) ?_
      · clear hp hT
        go_simp
        refine hKK _ _ _ hC (by rfl) (by exact rfl) ?_
        first | (simp only [Act.put, List.setIfInBounds_toArray, List.set_cons_succ, List.set_cons_zero]; done) | simp [Act.put]
      refine AllOps.cons (fun x u2 hC hT hp KK hKK => ?_) ?_
      · simp [KnownTill, Region.binds, VRb] at hp
        clear hT
        go_simp
        refine hKK _ _ _ hC (by rfl) (by exact rfl) ?_
        first | (simp only [Act.put, List.setIfInBounds_toArray, List.set_cons_succ, List.set_cons_zero, hp]; done) | simp [Act.put, hp]
      refine AllOps.cons (fun x u2 hC hT hp KK hKK => ?_) ?_
      · simp [KnownTill, Region.binds, VRb] at hp
        clear hT
        have cc := G4.out u2 (bt hbu hC.2.2.1)
        go_simp
        refine hKK _ _ _ hC (by rfl) (by exact rfl) ?_
        first | (simp only [Act.put, List.setIfInBounds_toArray, List.set_cons_succ, List.set_cons_zero, hp]; done) | simp [Act.put, hp]
      refine AllOps.cons (fun x u2 hC hT hp KK hKK => ?_) ?_
      · simp [KnownTill, Region.binds, VRb] at hp
        clear hT
        go_simp
        refine hKK _ _ _ hC (by rfl) (by exact rfl) ?_
        first | (simp only [Act.put, List.setIfInBounds_toArray, List.set_cons_succ, List.set_cons_zero, hp]; done) | simp [Act.put, hp]
      refine AllOps.cons (fun x u2 hC hT hp KK hKK => ?_) ?_
      · simp [KnownTill, Region.binds, VRb] at hp
        clear hT
        go_simp
        refine hKK _ _ _ hC (by rfl) (by exact rfl) ?_
        first | (simp only [Act.put, List.setIfInBounds_toArray, List.set_cons_succ, List.set_cons_zero, hp]; done) | simp [Act.put, hp]
      refine AllOps.cons (fun x u2 hC hT hp KK hKK => ?_) ?_
      · clear hp hT
        go_simp
        refine hKK _ _ _ hC (by rfl) (by exact rfl) ?_
        first | (simp only [Act.put, List.setIfInBounds_toArray, List.set_cons_succ, List.set_cons_zero]; done) | simp [Act.put]
      refine AllOps.cons (fun x u2 hC hT hp KK hKK => ?_) ?_
      · simp [KnownTill, Region.binds, VRb] at hp
        clear hT
        go_simp
        refine hKK _ _ _ hC (by rfl) (by exact rfl) ?_
        first | (simp only [Act.put, List.setIfInBounds_toArray, List.set_cons_succ, List.set_cons_zero, hp]; done) | simp [Act.put, hp]
      refine AllOps.cons (fun x u2 hC hT hp KK hKK => ?_) ?_
      · simp [KnownTill, Region.binds, VRb] at hp
        clear hT
        have cc := G5.out u2 (bt hbu hC.2.2.1)
        go_simp
        refine hKK _ _ _ hC (by rfl) (by exact rfl) ?_
        first | (simp only [Act.put, List.setIfInBounds_toArray, List.set_cons_succ, List.set_cons_zero, hp]; done) | simp [Act.put, hp]
      refine AllOps.cons (fun x u2 hC hT hp KK hKK => ?_) ?_
      · simp [KnownTill, Region.binds, VRb] at hp
        clear hT
        go_simp
        refine hKK _ _ _ hC (by rfl) (by exact rfl) ?_
        first | (simp only [Act.put, List.setIfInBounds_toArray, List.set_cons_succ, List.set_cons_zero, hp]; done) | simp [Act.put, hp]
      refine AllOps.cons (fun x u2 hC hT hp KK hKK => ?_) ?_
      · simp [KnownTill, Region.binds, VRb] at hp
        clear hT
        go_simp
        refine hKK _ _ _ hC (by rfl) (by exact rfl) ?_
        first | (simp only [Act.put, List.setIfInBounds_toArray, List.set_cons_succ, List.set_cons_zero, hp]; done) | simp [Act.put, hp]
      refine AllOps.cons (fun x u2 hC hT hp KK hKK => ?_) ?_
      · clear hp hT
        go_simp
        refine hKK _ _ _ hC (by rfl) (by exact rfl) ?_
        first | (simp only [Act.put, List.setIfInBounds_toArray, List.set_cons_succ, List.set_cons_zero]; done) | simp [Act.put]
      refine AllOps.cons (fun x u2 hC hT hp KK hKK => ?_) ?_
      · simp [KnownTill, Region.binds, VRb] at hp
        clear hT
        go_simp
        refine hKK _ _ _ hC (by rfl) (by exact rfl) ?_
        first | (simp only [Act.put, List.setIfInBounds_toArray, List.set_cons_succ, List.set_cons_zero, hp]; done) | simp [Act.put, hp]
      refine AllOps.cons (fun x u2 hC hT hp KK hKK => ?_) ?_
      · simp [KnownTill, Region.binds, VRb] at hp
        clear hT
        have cc := G6.out u2 (bt hbu hC.2.2.1)
        go_simp
        refine hKK _ _ _ hC (by rfl) (by exact rfl) ?_
        first | (simp only [Act.put, List.setIfInBounds_toArray, List.set_cons_succ, List.set_cons_zero, hp]; done) | simp [Act.put, hp]
      refine AllOps.cons (fun x u2 hC hT hp KK hKK => ?_) ?_
      · simp [KnownTill, Region.binds, VRb] at hp
        clear hT
        go_simp
        refine hKK _ _ _ hC (by rfl) (by exact rfl) ?_
        first | (simp only [Act.put, List.setIfInBounds_toArray, List.set_cons_succ, List.set_cons_zero, hp]; done) | simp [Act.put, hp]
      refine AllOps.cons (fun x u2 hC hT hp KK hKK => ?_) ?_
      · simp [KnownTill, Region.binds, VRb] at hp
        clear hT
        go_simp
        refine hKK _ _ _ hC (by rfl) (by exact rfl) ?_
        first | (simp only [Act.put, List.setIfInBounds_toArray, List.set_cons_succ, List.set_cons_zero, hp]; done) | simp [Act.put, hp]
      refine AllOps.cons (fun x u2 hC hT hp KK hKK => ?_) ?_
      · clear hp hT
        go_simp
        refine hKK _ _ _ hC (by rfl) (by exact rfl) ?_
        first | (simp only [Act.put, List.setIfInBounds_toArray, List.set_cons_succ, List.set_cons_zero]; done) | simp [Act.put]
      refine AllOps.cons (fun x u2 hC hT hp KK hKK => ?_) ?_
      · simp [KnownTill, Region.binds, VRb] at hp
        clear hT
        go_simp
        refine hKK _ _ _ hC (by rfl) (by exact rfl) ?_
        first | (simp only [Act.put, List.setIfInBounds_toArray, List.set_cons_succ, List.set_cons_zero, hp]; done) | simp [Act.put, hp]
      refine AllOps.cons (fun x u2 hC hT hp KK hKK => ?_) ?_
      · simp [KnownTill, Region.binds, VRb] at hp
        clear hT
        have cc := G7.out u2 (bt hbu hC.2.2.1)
        go_simp
        refine hKK _ _ _ hC (by rfl) (by exact rfl) ?_
        first | (simp only [Act.put, List.setIfInBounds_toArray, List.set_cons_succ, List.set_cons_zero, hp]; done) | simp [Act.put, hp]
      refine AllOps.cons (fun x u2 hC hT hp KK hKK => ?_) ?_
      · simp [KnownTill, Region.binds, VRb] at hp
        clear hT
        go_simp
        refine hKK _ _ _ hC (by rfl) (by exact rfl) ?_
        first | (simp only [Act.put, List.setIfInBounds_toArray, List.set_cons_succ, List.set_cons_zero, hp]; done) | simp [Act.put, hp]
      refine AllOps.cons (fun x u2 hC hT hp KK hKK => ?_) ?_
      · simp [KnownTill, Region.binds, VRb] at hp
        clear hT
        go_simp
        refine hKK _ _ _ hC (by rfl) (by exact rfl) ?_
        first | (simp only [Act.put, List.setIfInBounds_toArray, List.set_cons_succ, List.set_cons_zero, hp]; done) | simp [Act.put, hp]
      refine AllOps.cons (fun x u2 hC hT hp KK hKK => ?_) ?_
      · simp [KnownTill, Region.binds, VRb] at hp
        clear hT
        obtain ⟨h1, h11, h21⟩ : x 1 = .int .u32 S ∧ x 11 = .int .i64 Q ∧ x 21 = .int .i64 Z := by simp_all
        clear hp
        go_simp
        refine hKK _ _ _ hC (by rfl) (by exact rfl) ?_
        first | (simp only [Act.put, List.setIfInBounds_toArray, List.set_cons_succ, List.set_cons_zero, h1, h11, h21]; done) | simp [Act.put, h1, h11, h21]
      refine AllOps.cons (fun x u2 hC hT hp KK hKK => ?_) ?_
      · clear hp
        have hT1 : u2.heap.size = u.heap.size := hT
        clear hT
        have kn := Blk.new u2 25 #[.int .u32 0, .int .i64 0, .int .i64 0, .slice none 0 0]
        rw [hT1] at kn
        have HT1 := Lib.hid hT1
        clear hT1
        go_simp
        refine hKK (.pointer (some ⟨u2.heap.size, 0, none⟩)) _ (u2.alloc (.cells #[.int .u32 0, .int .i64 0, .int .i64 0, .slice none 0 0] 25)) ⟨let ⟨_, _, _, _, h⟩ := hC.1; ⟨_, _, _, _, h.alloc _⟩, hC.2.1.alloc _, bt hC.2.2.1 (ba _ _), Nat.le_trans hC.2.2.2 (ba u2 (.cells #[.int .u32 0, .int .i64 0, .int .i64 0, .slice none 0 0] 25)).size⟩ ⟨_, rfl⟩ ⟨by rw [HT1.out], _, _, _, _, kn⟩ ?_
        first | (simp only [Act.put, List.setIfInBounds_toArray, List.set_cons_succ, List.set_cons_zero]; done) | simp [Act.put]
      refine AllOps.cons (fun x u2 hC hT hp KK hKK => ?_) ?_
      · simp [KnownTill, Region.binds, VRb] at hp
        clear hT
        obtain ⟨h22, h23, x1, x2, x3, x4', k2⟩ : x 22 = .agg #[.int .u32 S, .int .i64 Q, .int .i64 Z, .slice none 0 0] ∧ x 23 = .pointer (some ⟨u.heap.size, 0, none⟩) ∧ HasFr u2 u.heap.size := by first | exact ⟨hp.1, hp.2.1, hp.2.2.1⟩ | exact ⟨hp.1, hp.2.1, hp.2.2⟩ | exact ⟨hp.2, hp.1.1, hp.1.2⟩ | exact ⟨hp.2.1, hp.1.1, hp.1.2⟩ | simp_all
        clear hp
        have d0 := k2.cell 0
        have d1 := k2.cell 1
        have d2 := k2.cell 2
        have d3 := k2.cell 3
        have f0 := k2.frozen 0
        have f1 := k2.frozen 1
        have f2 := k2.frozen 2
        have f3 := k2.frozen 3
        simp at d0 d1 d2 d3
        have k3 := k2.set4 (.int .u32 S) (.int .i64 Q) (.int .i64 Z) (.slice none 0 0)
        have hbb := below_set4 hC.2.2.1 (Nat.le_refl u.heap.size) (.int .u32 S) (.int .i64 Q) (.int .i64 Z) (.slice none 0 0)
        have hlt := kr2.lt
        have hne : w.heap.size ≠ u.heap.size := by omega
        have kk := (((hC.2.1.far (p := ⟨u.heap.size, 0, none⟩) hne (.int .u32 S)).far (p := ⟨u.heap.size, 1, none⟩) hne (.int .i64 Q)).far (p := ⟨u.heap.size, 2, none⟩) hne (.int .i64 Z)).far (p := ⟨u.heap.size, 3, none⟩) hne (.slice none 0 0)
        have K2 := Lib.hid k2
        have hsz := hC.2.2.2
        clear k2 hC hlt hne
        go_simp
        refine hKK undef _ (set4 u2 u.heap.size (.int .u32 S) (.int .i64 Q) (.int .i64 Z) (.slice none 0 0)) ⟨⟨_, _, _, _, kk⟩, kk, hbb, by rw [set4_size]; exact hsz⟩ ⟨⟨_, _, _, _, K2.out⟩, _, _, _, _, rfl⟩ k3 ?_
        simp [Act.put, h22, h23]
      exact AllOps.nil
    case finB =>
      intro x u3 hC hV
      have h23 : x 23 = .pointer (some ⟨u.heap.size, 0, none⟩) := (hV 23 (by decide) rfl).1
      have k9 : Blk u3 u.heap.size 25 #[.int .u32 S, .int .i64 Q, .int .i64 Z, .slice none 0 0] := hV 24 (by decide) rfl
      rw [h23]
      clear hV h23
      obtain ⟨_, kr3, hb3, hsz3⟩ := hC
      have hbu3 := bt hbu hb3
      have i10 : (10 : Int) ≤ (M : Int) := by have := hM.out; omega
      have n10 : ¬ (c = 10) := by have := h14.out; have := hc.out; omega
      have eMK : M - 10 = K := by have := hM.out; omega
      have hb10 : Bs w w.heap.size (some ⟨B, o + 10, none⟩) D := by
        have h9 := hs.part 10 K (by have := h14.out; have := hn.out; omega)
        rwa [show (b.drop 10).take K = D by rw [← hD.out, List.drop_take]; congr 1; have := hM.out; omega] at h9
      have hDK : Hid (K = D.length) := Lib.hid (by rw [← hD.out, List.length_drop, ← hfl.out, hM.out]; omega)
      obtain ⟨i0, hi, hz0, hz1, hz2⟩ := info_parts Try.infoU8
      have hbl : Hid (D.length ≤ 140737488355328) := Lib.hid (by rw [← hDK.out]; have := hKb.out; omega)
      have hwu : w.heap.size ≠ u.heap.size := by have := kr2.lt; omega
      clear kr2 k4 k5 k6 k7 l4 l5 l6 l7 u4 u5 u6 u7 v4 v6 x4 x6 eS i4 e5
      go_wp2_with fail
      refine wp_region_invT (F := ?FC) (V := VRc u.heap.size B o n c M K S Q Z D) (dead := fun _ => none) (T := TRc u.heap.size S Q Z) (C := fun u' => HasFr u' u.heap.size ∧ Blk u' w.heap.size 25 #[.int .u32 0, .int .i64 0, .int .i64 0, .slice none 0 0] ∧ Below u.heap.size u u' ∧ u3.heap.size ≤ u'.heap.size ∧ (∃ tt, Blk u' u.heap.size 25 #[.int .u32 S, .int .i64 Q, .int .i64 Z, tt])) (E := ERc u.heap.size) (by kernel_rfl) (by kernel_rfl) (by kernel_rfl) (fun x => ?hFC) ?hmonoC ?hTmC ?hTC ?hCC ?stepC ?finC
      case hFC => simp only [mkA, Act.put, List.setIfInBounds_toArray, List.set_cons_succ, List.set_cons_zero, Nat.reduceAdd, Nat.zero_add]; first | with_reducible rfl | rfl
      case hmonoC => exact fun k i v _ _ he hik hwt hdd hv => VRc.mono he hik hv
      case hTmC => exact fun k j _ _ he hkj hwt hv => TRc.mono he (fun h => ltf hwt (by rw [h.1, h.2]; kernel_rfl)) hv
      case hTC => exact fun j => TRc.of k9 j
      case hCC => exact ⟨⟨_, _, _, _, k9⟩, kr3, bt hb3 (below_drew _), Nat.le_refl _, _, k9⟩
      case stepC =>
        refine AllOps.cons (fun x u2 hC hT hp KK hKK => ?_) ?_
        · clear hp hT
          go_simp
          refine hKK _ _ _ hC (by rfl) (by exact rfl) ?_
          first | (simp only [Act.put, List.setIfInBounds_toArray, List.set_cons_succ, List.set_cons_zero]; done) | simp [Act.put]
        refine AllOps.cons (fun x u2 hC hT hp KK hKK => ?_) ?_
        · simp [KnownTill, Region.binds, VRc] at hp
          have k8 : Blk u2 u.heap.size 25 #[.int .u32 S, .int .i64 Q, .int .i64 Z, .slice none 0 0] := hT
          have d3 := k8.cell 3
          simp only [List.getElem?_toArray, List.getElem?_cons_zero, List.getElem?_cons_succ] at d3
          clear k8 hT
          go_simp
          refine hKK _ _ _ hC (by rfl) (by exact rfl) ?_
          first | (simp only [Act.put, List.setIfInBounds_toArray, List.set_cons_succ, List.set_cons_zero, hp]; done) | simp [Act.put, hp]
        refine AllOps.cons (fun x u2 hC hT hp KK hKK => ?_) ?_
        · clear hp hT
          go_simp
          refine hKK _ _ _ hC (by rfl) (by exact rfl) ?_
          first | (simp only [Act.put, List.setIfInBounds_toArray, List.set_cons_succ, List.set_cons_zero]; done) | simp [Act.put]
        refine AllOps.cons (fun x u2 hC hT hp KK hKK => ?_) ?_
        · clear hp hT
          go_simp
          refine hKK _ _ _ hC (by rfl) (by exact rfl) ?_
          first | (simp only [Act.put, List.setIfInBounds_toArray, List.set_cons_succ, List.set_cons_zero]; done) | simp [Act.put]
        refine AllOps.cons (fun x u2 hC hT hp KK hKK => ?_) ?_
        · simp [KnownTill, Region.binds, VRc] at hp
          clear hT
          go_simp
          refine hKK _ _ _ hC (by rfl) (by exact rfl) ?_
          first | (simp only [Act.put, List.setIfInBounds_toArray, List.set_cons_succ, List.set_cons_zero, hp]; done) | simp [Act.put, hp]
        refine AllOps.cons (fun x u2 hC hT hp KK hKK => ?_) ?_
        · simp [KnownTill, Region.binds, VRc] at hp
          clear hT
          obtain ⟨h2, h4⟩ : x 2 = .slice (some ⟨B, o, none⟩) n c ∧ x 4 = .int .i64 M := by simp_all
          clear hp
          go_simp
          refine hKK _ _ _ hC (by rfl) (by exact rfl) ?_
          first | (simp only [Act.put, List.setIfInBounds_toArray, List.set_cons_succ, List.set_cons_zero, h2, h4]; done) | simp [Act.put, h2, h4]
        refine AllOps.cons (fun x u2 hC hT hp KK hKK => ?_) ?_
        · simp [KnownTill, Region.binds, VRc] at hp
          clear hT
          obtain ⟨h1, h5⟩ : x 1 = .slice none 0 0 ∧ x 5 = .slice (some ⟨B, o + 10, none⟩) K (c - 10) := by simp_all
          clear hp
          refine step_append_bs _ rfl _ _ 23 rfl u2.heap.size 5 i0 _ Try.underlying23 hi hz0 hz1 hz2 rfl none 0 [] 0 (by simp [mkA, Act.eval, h1]) rfl Own.nil _ (some ⟨B, o + 10, none⟩) (c - 10) D K (by simp [mkA, Act.eval, h5]) hDK.out (hb10.bt (bt hbu hC.2.2.1)) (by have := hbl.out; simpa using this) (Nat.le_refl _) ?_
          intro A6 c6 u6 own6 hg6 hr6
          rw [List.nil_append] at own6
          have hb6 := below_none hg6
          refine hKK (.slice A6 (0 + K) c6) _ _ ⟨hC.1.bt hb6, hC.2.1.below hb6 hC.2.1.lt, bt hC.2.2.1 hb6, Nat.le_trans hC.2.2.2.1 hb6.size, let ⟨tt, h⟩ := hC.2.2.2.2; ⟨tt, h.below hb6 h.lt⟩⟩ hb6 ⟨A6, c6, by rw [Nat.zero_add], own6.base_le hC.2.2.1.size⟩ rfl
        refine AllOps.cons (fun x u2 hC hT hp KK hKK => ?_) ?_
        · clear hp hT
          go_simp
          refine hKK _ _ _ hC (by rfl) (by exact rfl) ?_
          first | (simp only [Act.put, List.setIfInBounds_toArray, List.set_cons_succ, List.set_cons_zero]; done) | simp [Act.put]
        refine AllOps.cons (fun x u2 hC hT hp KK hKK => ?_) ?_
        · simp [KnownTill, Region.binds, VRc] at hp
          clear hT
          obtain ⟨h7, A6, c6, h6, own6⟩ : x 7 = .pointer (some ⟨u.heap.size, 3, none⟩) ∧ IsOwnN u2 u.heap.size (x 6) D K := by first | exact ⟨hp.1, hp.2⟩ | exact ⟨hp.2, hp.1⟩ | exact ⟨hp.1, hp.2.1⟩ | exact ⟨hp.2.1, hp.1⟩
          clear hp
          obtain ⟨_, kz, hbz, hsz, tt, kt⟩ := hC
          have d3 := kt.cell 3
          simp only [List.getElem?_toArray, List.getElem?_cons_zero, List.getElem?_cons_succ] at d3
          have f3 := kt.frozen 3
          have k3 := kt.set_ 3 (.slice A6 K c6)
          simp at k3
          have own7 := own6.far (p := ⟨u.heap.size, 3, none⟩) (own6.ne_blk kt frm_ne) (.slice A6 K c6)
          have kz2 := kz.far (p := ⟨u.heap.size, 3, none⟩) hwu (.slice A6 K c6)
          have hbz2 := hbz.setCell (p := ⟨u.heap.size, 3, none⟩) (Nat.le_refl _) (.slice A6 K c6)
          have KT := Lib.hid kt
          clear kt own6
          go_simp
          refine hKK undef _ (u2.setCell ⟨u.heap.size, 3, none⟩ (.slice A6 K c6)) ⟨⟨_, _, _, _, k3⟩, kz2, hbz2, by simpa using hsz, _, k3⟩ ⟨⟨_, _, _, _, KT.out⟩, _, rfl⟩ ⟨A6, c6, k3, own7⟩ ?_
          simp [Act.put, h6, h7]
        exact AllOps.nil
      case finC =>
        intro x u4 hC hV
        obtain ⟨A4, c4, kf, own5⟩ : HoldsF u4 u.heap.size u.heap.size S Q Z D K := hV 8 (by decide) rfl
        clear hV
        obtain ⟨_, kr4, hb4, _, _⟩ := hC
        have hb5 := bt hbu hb4
        have hm := refMay_any S Q Z A4 K c4 u4
        rw [hmy.out] at hm
        have x0 := (kf).cell 0
        have x1 := (kf).cell 1
        have x2 := (kf).cell 2
        have x3 := (kf).cell 3
        simp only [List.getElem?_toArray, List.getElem?_cons_zero, List.getElem?_cons_succ] at x0 x1 x2 x3
        clear hb3 hbu3 kr3 k9 hs hbf
        go_wp2_with fail
        refine hm.mono ?_
        clear hm
        rintro e w6 ⟨rfl, hb6⟩
        have kr6 := kr4.below hb6 kr4.lt
        have kf6 := kf.below hb6 kf.lt
        have hb7 := bt hb5 hb6
        have own6 := (own5.below hb6 (Nat.le_refl _)).base_le hbu.size
        clear x0 x1 x2 x3
        have y0 := (kf6).cell 0
        have y1 := (kf6).cell 1
        have y2 := (kf6).cell 2
        have y3 := (kf6).cell 3
        simp only [List.getElem?_toArray, List.getElem?_cons_zero, List.getElem?_cons_succ] at y0 y1 y2 y3
        have c0 := (kr6).cell 0
        have c1 := (kr6).cell 1
        have c2 := (kr6).cell 2
        have c3 := (kr6).cell 3
        simp only [List.getElem?_toArray, List.getElem?_cons_zero, List.getElem?_cons_succ] at c0 c1 c2 c3
        have f0 := (kr6).frozen 0
        have f1 := (kr6).frozen 1
        have f2 := (kr6).frozen 2
        have f3 := (kr6).frozen 3
        have st0 := kr6.set_ 0 (.int .u32 S)
        have ste0 := st0.cell 0
        have sth0 := hb7.setCell (p := ⟨w.heap.size, 0, none⟩) (by first | (show _ ≤ _; omega) | simp) (.int .u32 S)
        have st1 := st0.set_ 1 (.int .i64 Q)
        have ste1 := st1.cell 1
        have sth1 := sth0.setCell (p := ⟨w.heap.size, 1, none⟩) (by first | (show _ ≤ _; omega) | simp) (.int .i64 Q)
        have st2 := st1.set_ 2 (.int .i64 Z)
        have ste2 := st2.cell 2
        have sth2 := sth1.setCell (p := ⟨w.heap.size, 2, none⟩) (by first | (show _ ≤ _; omega) | simp) (.int .i64 Z)
        have st3 := st2.set_ 3 (.slice A4 K c4)
        have ste3 := st3.cell 3
        have sth3 := sth2.setCell (p := ⟨w.heap.size, 3, none⟩) (by first | (show _ ≤ _; omega) | simp) (.slice A4 K c4)
        simp at ste0 ste1 ste2 ste3
        clear st0 st1 st2 st3
        have own7 := own6.set4 ⟨_, _, _, _, kr6⟩ (.int .u32 S) (.int .i64 Q) (.int .i64 Z) (.slice A4 K c4)
        clear kr6 kf6 kr4 kf hb5 hb6 hb4
        go_wp2
        refine bodyPost_ret (by simp [results, Try.results15, go_sem, ste0, ste1, ste2, ste3]; try rfl) rfl ?_
        exact ⟨A4, c4, K, rfl, hDK, own7, sth3⟩

end Go.Proofs.Ythmhkicgghobmaa
