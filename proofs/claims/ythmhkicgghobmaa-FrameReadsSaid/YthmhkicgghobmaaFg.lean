/- Layer 7: what a front says. -/
import Derived.Test.YthmhkicgghobmaaFf
import Derived.Test.YthmhkicgghobmaaGetP
import Derived.Laws.Cover3
namespace Go.Proofs.Ythmhkicgghobmaa
open Go.RowKit
set_option linter.unusedVariables false
set_option linter.unusedSimpArgs false

theorem Bs.part {w : World} {B b o : Nat} {l : List UInt8} (h : Bs w B (some ⟨b, o, none⟩) l) (i n : Nat) (hi : i < l.length) : Bs w B (some ⟨b, o + i, none⟩) ((l.drop i).take n) := fun hn => by
  obtain ⟨b', o', e, hb, hc⟩ := h (by omega)
  cases e
  refine ⟨b, o + i, rfl, hb, fun j hj => ?_⟩
  rw [List.length_take, List.length_drop] at hj
  have := hc (i + j) (by omega)
  rw [Nat.add_assoc, this]
  simp [List.getElem_take, List.getElem_drop]
theorem fnumber_n (A : Option Addr) (l : List UInt8) (n c : Nat) (w : World) (hn : Hid (n = l.length)) (h1 : Hid (1 ≤ l.length ∧ l.length ≤ 8)) (h : Bs w w.heap.size A l) : Calls Try.prog 23 #[.slice A n c] w fun e w' => e = .returned (.int .u64 (num l)) ∧ w = w' := by
  have hg := get_any A l c w (by have := h1.out; omega) h
  rw [show getR l = (num l, 0) from if_pos h1.out, ← hn.out] at hg
  clear h
  go_enter Try.func23, Try.ntmps23
  go_wp2_with fail
  refine hg.mono ?_
  rintro e w1 ⟨rfl, rfl⟩
  go_wp2
  go_ret
  exact ⟨rfl, rfl⟩
theorem clone_n (b o : Nat) (l : List UInt8) (n c : Nat) (w : World) (hn : Hid (n = l.length)) (hm : Hid (l.length ≤ 140737488355328)) (h : Bs w w.heap.size (some ⟨b, o, none⟩) l) : Calls Try.prog 29 #[.slice (some ⟨b, o, none⟩) n c] w fun e w' => ∃ A2 c2, e = .returned (.slice A2 n c2) ∧ Own w' w.heap.size 5 A2 c2 l ∧ Below w.heap.size w w' := by
  obtain ⟨i0, hi, hz0, hz1, hz2⟩ := info_parts Try.infoU8
  have ow : Own (w.alloc (.cells #[] 5)) w.heap.size 5 (some ⟨w.heap.size, 0, none⟩) 0 [] := by
    have hr : Raw (w.alloc (.cells #[] 5)) w.heap.size 5 [] := heap_alloc_new w _
    exact hr.own (Nat.le_refl _) (by simp [maxLen])
  have hbw := ba w (.cells #[] 5)
  have hb2 := h.bt hbw
  have hs := hbw.size
  have hnl : ∀ w, (binOp .eql 23 (.slice (some ⟨b, o, none⟩) n c) (.slice none 0 0)).run Try.prog w = .ok (.bool false) w := fun w => by simp [binOp, Go.run_equal_slice_nil w 23 5 (some ⟨b, o, none⟩) n c Try.underlying23]
  go_enter Try.func29, Try.ntmps29
  go_wp2_with (at_builtin; refine wpList_append_bs _ rfl _ _ 23 rfl w.heap.size 5 i0 _ Try.underlying23 hi hz0 hz1 hz2 rfl (some ⟨w.heap.size, 0, none⟩) 0 [] 0 rfl rfl ow _ (some ⟨b, o, none⟩) c l n rfl hn.out hb2 (by have := hm.out; simpa using this) hs ?_; intro A4 cA4 w4 own4 hg4 _)
  go_ret
  rw [List.nil_append] at own4
  exact ⟨A4, cA4, rfl, own4, hbw.grown hg4 hs (fun k e => (ow.lt _ e).1)⟩

def HasFr (w : World) (g : Nat) : Prop := ∃ x y z t, Blk w g 25 #[x, y, z, t]
def set4 (u : World) (g : Nat) (x y z t : Value) : World := (((u.setCell ⟨g, 0, none⟩ x).setCell ⟨g, 1, none⟩ y).setCell ⟨g, 2, none⟩ z).setCell ⟨g, 3, none⟩ t
theorem Blk.set4 {u : World} {g : Nat} {ty : TypeId} {x' y' z' t' : Value} (h : Blk u g ty #[x', y', z', t']) (x y z t : Value) : Blk (set4 u g x y z t) g ty #[x, y, z, t] := by
  unfold Go.Proofs.Ythmhkicgghobmaa.set4
  simpa using (((h.set_ 0 x).set_ 1 y).set_ 2 z).set_ 3 t
theorem Own.set4 {u : World} {g base c : Nat} {A : Option Addr} {l : List UInt8} (h : Own u base 5 A c l) (hb : HasFr u g) (x y z t : Value) : Own (set4 u g x y z t) base 5 A c l := by
  obtain ⟨_, _, _, _, hb⟩ := hb
  have hne := h.ne_blk hb frm_ne
  exact (((h.far (p := ⟨g, 0, none⟩) hne x).far (p := ⟨g, 1, none⟩) hne y).far (p := ⟨g, 2, none⟩) hne z).far (p := ⟨g, 3, none⟩) hne t
theorem below_set4 {B : Nat} {a u : World} {g : Nat} (h : Below B a u) (hg : B ≤ g) (x y z t : Value) : Below B a (set4 u g x y z t) :=
  (((h.setCell hg _).setCell hg _).setCell hg _).setCell hg _
def IsOwnN (w : World) (s : Nat) (v : Value) (D : List UInt8) (N : Nat) : Prop := ∃ A c, v = .slice A N c ∧ Own w s 5 A c D
def IsFrm (w : World) (s : Nat) (v : Value) (S Q Z : Nat) (D : List UInt8) (N : Nat) : Prop := ∃ A c, v = .agg #[.int .u32 S, .int .i64 Q, .int .i64 Z, .slice A N c] ∧ Own w s 5 A c D
def HoldsF (w : World) (s g : Nat) (S Q Z : Nat) (D : List UInt8) (N : Nat) : Prop := ∃ A c, Blk w g 25 #[.int .u32 S, .int .i64 Q, .int .i64 Z, .slice A N c] ∧ Own w s 5 A c D
def EFs (g k : Nat) (u u' : World) : Prop := match k with
  | 14 => Below u.heap.size u u'
  | 16 => HasFr u g ∧ ∃ x y z t, u' = set4 u g x y z t
  | _ => u' = u

def VFs (s g B o od M N S Q Z : Nat) (D : List UInt8) (i : Nat) (v : Value) (w : World) : Prop :=
  match i with
  | 0 => v = .slice (some ⟨B, o, none⟩) M M
  | 1 => v = .slice (some ⟨B, o, none⟩) 4 M
  | 2 => v = .int .u64 S
  | 3 => v = .int .u32 S
  | 4 => v = .slice (some ⟨B, o, none⟩) M M
  | 5 => v = .slice (some ⟨B, o + 4, none⟩) 2 (M - 4)
  | 6 => v = .int .u64 Q
  | 7 => v = .int .i64 Q
  | 8 => v = .slice (some ⟨B, o, none⟩) M M
  | 9 => v = .slice (some ⟨B, o + 6, none⟩) 2 (M - 6)
  | 10 => v = .int .u64 Z
  | 11 => v = .int .i64 Z
  | 12 => v = .slice (some ⟨B, o, none⟩) M M
  | 13 => v = .slice (some ⟨B, od, none⟩) N N
  | 14 => IsOwnN w s v D N
  | 15 => IsFrm w s v S Q Z D N
  | 16 => HoldsF w s g S Q Z D N
  | _ => True

theorem IsOwnN.bt {w w' : World} {s : Nat} {v : Value} {D : List UInt8} {N : Nat} (h : IsOwnN w s v D N) (he : Below w.heap.size w w') : IsOwnN w' s v D N := by obtain ⟨A, c, e, h⟩ := h; exact ⟨A, c, e, h.below he (Nat.le_refl _)⟩
theorem IsFrm.bt {w w' : World} {s : Nat} {v : Value} {S Q Z : Nat} {D : List UInt8} {N : Nat} (h : IsFrm w s v S Q Z D N) (he : Below w.heap.size w w') : IsFrm w' s v S Q Z D N := by obtain ⟨A, c, e, h⟩ := h; exact ⟨A, c, e, h.below he (Nat.le_refl _)⟩
theorem HoldsF.bt {w w' : World} {s g : Nat} {S Q Z : Nat} {D : List UInt8} {N : Nat} (h : HoldsF w s g S Q Z D N) (he : Below w.heap.size w w') : HoldsF w' s g S Q Z D N := by obtain ⟨A, c, e, h⟩ := h; exact ⟨A, c, e.below he e.lt, h.below he (Nat.le_refl _)⟩
theorem IsOwnN.st {w : World} {s g : Nat} {v : Value} {D : List UInt8} {N : Nat} (h : IsOwnN w s v D N) (hf : HasFr w g) (x y z t : Value) : IsOwnN (set4 w g x y z t) s v D N := by obtain ⟨A, c, e, h⟩ := h; exact ⟨A, c, e, h.set4 hf x y z t⟩
theorem IsFrm.st {w : World} {s g : Nat} {v : Value} {S Q Z : Nat} {D : List UInt8} {N : Nat} (h : IsFrm w s v S Q Z D N) (hf : HasFr w g) (x y z t : Value) : IsFrm (set4 w g x y z t) s v S Q Z D N := by obtain ⟨A, c, e, h⟩ := h; exact ⟨A, c, e, h.set4 hf x y z t⟩
theorem VFs.mono {s g B o od M N S Q Z : Nat} {D : List UInt8} {k i : Nat} {v : Value} {u u' : World} (he : EFs g k u u') (hik : i ≠ k) (hv : VFs s g B o od M N S Q Z D i v u) : VFs s g B o od M N S Q Z D i v u' := by
  unfold EFs at he
  split at he
  · unfold VFs at hv ⊢
    split at hv <;> first | with_reducible exact hv | exact absurd rfl hik | exact IsOwnN.bt hv he | exact IsFrm.bt hv he | exact HoldsF.bt hv he
  · obtain ⟨hf, x, y, z, t, rfl⟩ := he
    unfold VFs at hv ⊢
    split at hv <;> first | with_reducible exact hv | exact absurd rfl hik | exact IsOwnN.st hv hf x y z t | exact IsFrm.st hv hf x y z t
  · rw [he]; exact hv

set_option maxHeartbeats 2000000 in
theorem said_data (B o M N S Q Z : Nat) (l D : List UInt8) (w : World) (hM : Hid (M = l.length)) (hN : Hid (N = D.length)) (hMN : Hid (M = 10 + N)) (hMb : Hid (M ≤ 70000)) (hN0 : ¬ (N = 0)) (hS : Hid (num (l.take 4) = S)) (hQ : Hid (num ((l.drop 4).take 2) = Q)) (hZ : Hid (num ((l.drop 6).take 2) = Z)) (hD : Hid (l.drop 10 = D)) (hb : Bs w w.heap.size (some ⟨B, o, none⟩) l) : Calls Try.prog 24 #[.slice (some ⟨B, o, none⟩) M M] w fun e w' => ∃ A c, e = .returned (.agg #[.int .u32 S, .int .i64 Q, .int .i64 Z, .slice A N c]) ∧ Own w' w.heap.size 5 A c D ∧ Below w.heap.size w w' := by
  have hlen : 10 ≤ l.length := by rw [← hM.out]; have := hMN.out; omega
  have b4 : Bs w w.heap.size (some ⟨B, o, none⟩) (l.take 4) := by
    have := hb.part 0 4 (by omega)
    rwa [List.drop_zero, Nat.add_zero] at this
  have b2 := hb.part 4 2 (by omega)
  have b6 := hb.part 6 2 (by omega)
  have b10 : Bs w w.heap.size (some ⟨B, o + 10, none⟩) D := by
    have := hb.part 10 N (by rw [← hM.out, hMN.out]; omega)
    rwa [hD.out, List.take_of_length_le (by rw [hN.out]; exact Nat.le_refl _)] at this
  have m4 : num (l.take 4) < 4294967296 := by
    have := num_lt (l.take 4)
    rw [List.length_take, Nat.min_eq_left (by omega)] at this
    simpa using this
  have m2 : num ((l.drop 4).take 2) < 65536 := by
    have := num_lt ((l.drop 4).take 2)
    rw [List.length_take, List.length_drop, Nat.min_eq_left (by omega)] at this
    simpa using this
  have m6 : num ((l.drop 6).take 2) < 65536 := by
    have := num_lt ((l.drop 6).take 2)
    rw [List.length_take, List.length_drop, Nat.min_eq_left (by omega)] at this
    simpa using this
  have q4 := fun (u : World) (hu : Below w.heap.size w u) => fnumber_n (some ⟨B, o, none⟩) (l.take 4) 4 M u (Lib.hid (by rw [List.length_take]; omega)) (Lib.hid (by rw [List.length_take]; omega)) ((b4.below hu).more hu.size)
  have q2 := fun (u : World) (hu : Below w.heap.size w u) => fnumber_n (some ⟨B, o + 4, none⟩) ((l.drop 4).take 2) 2 (M - 4) u (Lib.hid (by rw [List.length_take, List.length_drop]; omega)) (Lib.hid (by rw [List.length_take, List.length_drop]; omega)) ((b2.below hu).more hu.size)
  have q6 := fun (u : World) (hu : Below w.heap.size w u) => fnumber_n (some ⟨B, o + 6, none⟩) ((l.drop 6).take 2) 2 (M - 6) u (Lib.hid (by rw [List.length_take, List.length_drop]; omega)) (Lib.hid (by rw [List.length_take, List.length_drop]; omega)) ((b6.below hu).more hu.size)
  have q10 := fun (u : World) (hu : Below w.heap.size w u) => clone_n B (o + 10) D N N u hN (Lib.hid (by rw [← hN.out]; have := hMb.out; have := hMN.out; omega)) ((b10.below hu).more hu.size)
  rw [hS.out] at q4 m4
  rw [hQ.out] at q2 m2
  rw [hZ.out] at q6 m6
  have e4 : IntKind.u32.wrap (S : Int) = (S : Int) := IntWalk.u32_in _ (by omega)
  have e2 : IntKind.i64.wrap (Q : Int) = (Q : Int) := IntWalk.i64_in _ (by omega)
  have e6 : IntKind.i64.wrap (Z : Int) = (Z : Int) := IntWalk.i64_in _ (by omega)
  have i10 : (10 : Int) ≤ (M : Int) := by have := hMN.out; omega
  have i8 : (8 : Int) ≤ (M : Int) := by omega
  have i6 : (6 : Int) ≤ (M : Int) := by omega
  have i4 : (4 : Int) ≤ (M : Int) := by omega
  have n0 : ¬ (M = 0) := by omega
  have n4 : ¬ (M = 4) := by omega
  have n6 : ¬ (M = 6) := by omega
  have n10 : ¬ (M = 10) := by have := hMN.out; omega
  have eMN : M - 10 = N := by have := hMN.out; omega
  have Q4 := Lib.hid q4
  have Q2 := Lib.hid q2
  have Q6 := Lib.hid q6
  have Q10 := Lib.hid q10
  clear q4 q2 q6 q10 m4 m2 m6 b4 b2 b6 b10 hlen
  have hbw0 := ba w (.cells #[.int .u32 0, .int .i64 0, .int .i64 0, .slice none 0 0] 25)
  have k0 := Blk.new w 25 #[.int .u32 0, .int .i64 0, .int .i64 0, .slice none 0 0]
  go_enter Try.func24, Try.ntmps24
  go_wp2_with fail
  generalize (w.alloc (.cells #[.int .u32 0, .int .i64 0, .int .i64 0, .slice none 0 0] 25)) = w1 at hbw0 k0 ⊢
  refine wp_region_invT (F := ?FS) (V := VFs w.heap.size w.heap.size B o (o + 10) M N S Q Z D) (dead := fun _ => none) (T := fun _ _ => True) (C := fun u' => HasFr u' w.heap.size ∧ Below w.heap.size w u') (E := EFs w.heap.size) (by kernel_rfl) (by kernel_rfl) (by kernel_rfl) (fun x => ?hFS) ?hmonoS ?hTmS ?hTS ?hCS ?stepS ?finS
  case hFS => simp only [mkA, Act.put, List.setIfInBounds_toArray, List.set_cons_succ, List.set_cons_zero, Nat.reduceAdd, Nat.zero_add]; first | with_reducible rfl | rfl
  case hmonoS => exact fun k i v u u' he hik hwt hdd hv => VFs.mono he hik hv
  case hTmS => exact fun _ _ _ _ _ _ _ _ => trivial
  case hTS => exact fun j => trivial
  case hCS => exact ⟨⟨_, _, _, _, k0⟩, bt hbw0 (below_drew _)⟩
  case stepS =>
    refine AllOps.cons (fun x u hC hT hp K hK => ?_) ?_
    · clear hp hT
      go_simp
      refine hK _ _ _ hC (by rfl) (by exact rfl) ?_
      first | (simp only [Act.put, List.setIfInBounds_toArray, List.set_cons_succ, List.set_cons_zero]; done) | simp [Act.put]
    refine AllOps.cons (fun x u hC hT hp K hK => ?_) ?_
    · simp [KnownTill, Region.binds, VFs] at hp
      clear hT
      go_simp
      refine hK _ _ _ hC (by rfl) (by exact rfl) ?_
      first | (simp only [Act.put, List.setIfInBounds_toArray, List.set_cons_succ, List.set_cons_zero, hp]; done) | simp [Act.put, hp]
    refine AllOps.cons (fun x u hC hT hp K hK => ?_) ?_
    · simp [KnownTill, Region.binds, VFs] at hp
      clear hT
      go_simp
      refine (Q4.out u hC.2).mono ?_
      rintro e wA ⟨rfl, rfl⟩
      refine hK _ _ _ hC (by rfl) (by exact rfl) ?_
      first | (simp only [Act.put, List.setIfInBounds_toArray, List.set_cons_succ, List.set_cons_zero, hp]; done) | simp [Act.put, hp]
    refine AllOps.cons (fun x u hC hT hp K hK => ?_) ?_
    · simp [KnownTill, Region.binds, VFs] at hp
      clear hT
      go_simp
      refine hK _ _ _ hC (by rfl) (by exact rfl) ?_
      first | (simp only [Act.put, List.setIfInBounds_toArray, List.set_cons_succ, List.set_cons_zero, hp]; done) | simp [Act.put, hp]
    refine AllOps.cons (fun x u hC hT hp K hK => ?_) ?_
    · clear hp hT
      go_simp
      refine hK _ _ _ hC (by rfl) (by exact rfl) ?_
      first | (simp only [Act.put, List.setIfInBounds_toArray, List.set_cons_succ, List.set_cons_zero]; done) | simp [Act.put]
    refine AllOps.cons (fun x u hC hT hp K hK => ?_) ?_
    · simp [KnownTill, Region.binds, VFs] at hp
      clear hT
      go_simp
      refine hK _ _ _ hC (by rfl) (by exact rfl) ?_
      first | (simp only [Act.put, List.setIfInBounds_toArray, List.set_cons_succ, List.set_cons_zero, hp]; done) | simp [Act.put, hp]
    refine AllOps.cons (fun x u hC hT hp K hK => ?_) ?_
    · simp [KnownTill, Region.binds, VFs] at hp
      clear hT
      go_simp
      refine (Q2.out u hC.2).mono ?_
      rintro e wA ⟨rfl, rfl⟩
      refine hK _ _ _ hC (by rfl) (by exact rfl) ?_
      first | (simp only [Act.put, List.setIfInBounds_toArray, List.set_cons_succ, List.set_cons_zero, hp]; done) | simp [Act.put, hp]
    refine AllOps.cons (fun x u hC hT hp K hK => ?_) ?_
    · simp [KnownTill, Region.binds, VFs] at hp
      clear hT
      go_simp
      refine hK _ _ _ hC (by rfl) (by exact rfl) ?_
      first | (simp only [Act.put, List.setIfInBounds_toArray, List.set_cons_succ, List.set_cons_zero, hp]; done) | simp [Act.put, hp]
    refine AllOps.cons (fun x u hC hT hp K hK => ?_) ?_
    · clear hp hT
      go_simp
      refine hK _ _ _ hC (by rfl) (by exact rfl) ?_
      first | (simp only [Act.put, List.setIfInBounds_toArray, List.set_cons_succ, List.set_cons_zero]; done) | simp [Act.put]
    refine AllOps.cons (fun x u hC hT hp K hK => ?_) ?_
    · simp [KnownTill, Region.binds, VFs] at hp
      clear hT
      go_simp
      refine hK _ _ _ hC (by rfl) (by exact rfl) ?_
      first | (simp only [Act.put, List.setIfInBounds_toArray, List.set_cons_succ, List.set_cons_zero, hp]; done) | simp [Act.put, hp]
    refine AllOps.cons (fun x u hC hT hp K hK => ?_) ?_
    · simp [KnownTill, Region.binds, VFs] at hp
      clear hT
      go_simp
      refine (Q6.out u hC.2).mono ?_
      rintro e wA ⟨rfl, rfl⟩
      refine hK _ _ _ hC (by rfl) (by exact rfl) ?_
      first | (simp only [Act.put, List.setIfInBounds_toArray, List.set_cons_succ, List.set_cons_zero, hp]; done) | simp [Act.put, hp]
    refine AllOps.cons (fun x u hC hT hp K hK => ?_) ?_
    · simp [KnownTill, Region.binds, VFs] at hp
      clear hT
      go_simp
      refine hK _ _ _ hC (by rfl) (by exact rfl) ?_
      first | (simp only [Act.put, List.setIfInBounds_toArray, List.set_cons_succ, List.set_cons_zero, hp]; done) | simp [Act.put, hp]
    refine AllOps.cons (fun x u hC hT hp K hK => ?_) ?_
    · clear hp hT
      go_simp
      refine hK _ _ _ hC (by rfl) (by exact rfl) ?_
      first | (simp only [Act.put, List.setIfInBounds_toArray, List.set_cons_succ, List.set_cons_zero]; done) | simp [Act.put]
    refine AllOps.cons (fun x u hC hT hp K hK => ?_) ?_
    · simp [KnownTill, Region.binds, VFs] at hp
      clear hT
      go_simp
      refine hK _ _ _ hC (by rfl) (by exact rfl) ?_
      first | (simp only [Act.put, List.setIfInBounds_toArray, List.set_cons_succ, List.set_cons_zero, hp]; done) | simp [Act.put, hp]
    refine AllOps.cons (fun x u hC hT hp K hK => ?_) ?_
    · simp [KnownTill, Region.binds, VFs] at hp
      clear hT
      go_simp
      refine (Q10.out u hC.2).mono ?_
      rintro e wA ⟨A14, c14, rfl, own14, hbA⟩
      refine hK _ _ _ ⟨let ⟨x, y, z, t, h⟩ := hC.1; ⟨x, y, z, t, h.below hbA h.lt⟩, bt hC.2 hbA⟩ hbA (by exact ⟨A14, c14, rfl, own14.base_le hC.2.size⟩) ?_
      first | (simp only [Act.put, List.setIfInBounds_toArray, List.set_cons_succ, List.set_cons_zero, hp]; done) | simp [Act.put, hp]
    refine AllOps.cons (fun x u hC hT hp K hK => ?_) ?_
    · simp [KnownTill, Region.binds, VFs] at hp
      clear hT
      obtain ⟨h3, h7, h11, A14, c14, h14, own14⟩ : x 3 = .int .u32 S ∧ x 7 = .int .i64 Q ∧ x 11 = .int .i64 Z ∧ IsOwnN u w.heap.size (x 14) D N := by
        try unfold IsOwnN at *
        try unfold IsOwnN at hp
        simp_all
      clear hp
      go_simp
      refine hK _ _ _ hC (by rfl) (by exact ⟨A14, c14, rfl, own14⟩) ?_
      first | (simp only [Act.put, List.setIfInBounds_toArray, List.set_cons_succ, List.set_cons_zero, h3, h7, h11, h14]; done) | simp [Act.put, h3, h7, h11, h14]
    refine AllOps.cons (fun x u hC hT hp K hK => ?_) ?_
    · simp [KnownTill, Region.binds, VFs] at hp
      clear hT
      obtain ⟨A15, c15, h15, own15⟩ : IsFrm u w.heap.size (x 15) S Q Z D N := by first | exact hp | exact hp.1 | exact hp.2
      clear hp
      obtain ⟨⟨x1, x2, x3, x4, k2⟩, hbu⟩ := hC
      have d0 := k2.cell 0
      have d1 := k2.cell 1
      have d2 := k2.cell 2
      have d3 := k2.cell 3
      have f0 := k2.frozen 0
      have f1 := k2.frozen 1
      have f2 := k2.frozen 2
      have f3 := k2.frozen 3
      simp at d0 d1 d2 d3
      have k3 := k2.set4 (.int .u32 S) (.int .i64 Q) (.int .i64 Z) (.slice A15 N c15)
      have own16 := own15.set4 ⟨_, _, _, _, k2⟩ (.int .u32 S) (.int .i64 Q) (.int .i64 Z) (.slice A15 N c15)
      have hbb := below_set4 hbu (Nat.le_refl w.heap.size) (.int .u32 S) (.int .i64 Q) (.int .i64 Z) (.slice A15 N c15)
      have K2 := Lib.hid k2
      clear k2
      go_simp
      refine hK undef _ (set4 u w.heap.size (.int .u32 S) (.int .i64 Q) (.int .i64 Z) (.slice A15 N c15)) ⟨⟨_, _, _, _, k3⟩, hbb⟩ ⟨⟨_, _, _, _, K2.out⟩, _, _, _, _, rfl⟩ ⟨A15, c15, k3, own16⟩ ?_
      simp [Act.put, h15]
    exact AllOps.nil
  case finS =>
    intro x u hC hV
    obtain ⟨A, c, k3, own3⟩ : HoldsF u w.heap.size w.heap.size S Q Z D N := hV 16 (by decide) rfl
    clear hV
    have c0 := k3.cell 0
    have c1 := k3.cell 1
    have c2 := k3.cell 2
    have c3 := k3.cell 3
    simp at c0 c1 c2 c3
    have hbu := hC.2
    clear k3 hC
    go_wp2
    refine bodyPost_ret (by simp [results, Try.results24, go_sem, c0, c1, c2, c3]; try rfl) rfl ?_
    exact ⟨A, c, rfl, own3, hbu⟩

set_option maxHeartbeats 2000000 in
theorem said_none (B o S Q Z : Nat) (l D : List UInt8) (w : World) (hM : Hid (10 = l.length)) (hN : Hid (0 = D.length)) (hS : Hid (num (l.take 4) = S)) (hQ : Hid (num ((l.drop 4).take 2) = Q)) (hZ : Hid (num ((l.drop 6).take 2) = Z)) (hD : Hid (l.drop 10 = D)) (hb : Bs w w.heap.size (some ⟨B, o, none⟩) l) : Calls Try.prog 24 #[.slice (some ⟨B, o, none⟩) 10 10] w fun e w' => ∃ A c, e = .returned (.agg #[.int .u32 S, .int .i64 Q, .int .i64 Z, .slice A 0 c]) ∧ Own w' w.heap.size 5 A c D ∧ Below w.heap.size w w' := by
  have hlen : 10 ≤ l.length := by rw [← hM.out]; omega
  have b4 : Bs w w.heap.size (some ⟨B, o, none⟩) (l.take 4) := by
    have := hb.part 0 4 (by omega)
    rwa [List.drop_zero, Nat.add_zero] at this
  have b2 := hb.part 4 2 (by omega)
  have b6 := hb.part 6 2 (by omega)
  have b10 : Bs w w.heap.size (some ⟨B, o, none⟩) D := fun h => absurd h (by rw [← hN.out]; omega)
  have m4 : num (l.take 4) < 4294967296 := by
    have := num_lt (l.take 4)
    rw [List.length_take, Nat.min_eq_left (by omega)] at this
    simpa using this
  have m2 : num ((l.drop 4).take 2) < 65536 := by
    have := num_lt ((l.drop 4).take 2)
    rw [List.length_take, List.length_drop, Nat.min_eq_left (by omega)] at this
    simpa using this
  have m6 : num ((l.drop 6).take 2) < 65536 := by
    have := num_lt ((l.drop 6).take 2)
    rw [List.length_take, List.length_drop, Nat.min_eq_left (by omega)] at this
    simpa using this
  have q4 := fun (u : World) (hu : Below w.heap.size w u) => fnumber_n (some ⟨B, o, none⟩) (l.take 4) 4 10 u (Lib.hid (by rw [List.length_take]; omega)) (Lib.hid (by rw [List.length_take]; omega)) ((b4.below hu).more hu.size)
  have q2 := fun (u : World) (hu : Below w.heap.size w u) => fnumber_n (some ⟨B, o + 4, none⟩) ((l.drop 4).take 2) 2 (10 - 4) u (Lib.hid (by rw [List.length_take, List.length_drop]; omega)) (Lib.hid (by rw [List.length_take, List.length_drop]; omega)) ((b2.below hu).more hu.size)
  have q6 := fun (u : World) (hu : Below w.heap.size w u) => fnumber_n (some ⟨B, o + 6, none⟩) ((l.drop 6).take 2) 2 (10 - 6) u (Lib.hid (by rw [List.length_take, List.length_drop]; omega)) (Lib.hid (by rw [List.length_take, List.length_drop]; omega)) ((b6.below hu).more hu.size)
  have q10 := fun (u : World) (hu : Below w.heap.size w u) => clone_n B o D 0 0 u hN (Lib.hid (by rw [← hN.out]; omega)) ((b10.below hu).more hu.size)
  rw [hS.out] at q4 m4
  rw [hQ.out] at q2 m2
  rw [hZ.out] at q6 m6
  have e4 : IntKind.u32.wrap (S : Int) = (S : Int) := IntWalk.u32_in _ (by omega)
  have e2 : IntKind.i64.wrap (Q : Int) = (Q : Int) := IntWalk.i64_in _ (by omega)
  have e6 : IntKind.i64.wrap (Z : Int) = (Z : Int) := IntWalk.i64_in _ (by omega)
  have Q4 := Lib.hid q4
  have Q2 := Lib.hid q2
  have Q6 := Lib.hid q6
  have Q10 := Lib.hid q10
  clear q4 q2 q6 q10 m4 m2 m6 b4 b2 b6 b10 hlen
  have hbw0 := ba w (.cells #[.int .u32 0, .int .i64 0, .int .i64 0, .slice none 0 0] 25)
  have k0 := Blk.new w 25 #[.int .u32 0, .int .i64 0, .int .i64 0, .slice none 0 0]
  go_enter Try.func24, Try.ntmps24
  go_wp2_with fail
  generalize (w.alloc (.cells #[.int .u32 0, .int .i64 0, .int .i64 0, .slice none 0 0] 25)) = w1 at hbw0 k0 ⊢
  refine wp_region_invT (F := ?FS) (V := VFs w.heap.size w.heap.size B o o 10 0 S Q Z D) (dead := fun _ => none) (T := fun _ _ => True) (C := fun u' => HasFr u' w.heap.size ∧ Below w.heap.size w u') (E := EFs w.heap.size) (by kernel_rfl) (by kernel_rfl) (by kernel_rfl) (fun x => ?hFS) ?hmonoS ?hTmS ?hTS ?hCS ?stepS ?finS
  case hFS => simp only [mkA, Act.put, List.setIfInBounds_toArray, List.set_cons_succ, List.set_cons_zero, Nat.reduceAdd, Nat.zero_add]; first | with_reducible rfl | rfl
  case hmonoS => exact fun k i v u u' he hik hwt hdd hv => VFs.mono he hik hv
  case hTmS => exact fun _ _ _ _ _ _ _ _ => trivial
  case hTS => exact fun j => trivial
  case hCS => exact ⟨⟨_, _, _, _, k0⟩, bt hbw0 (below_drew _)⟩
  case stepS =>
    refine AllOps.cons (fun x u hC hT hp K hK => ?_) ?_
    · clear hp hT
      go_simp
      refine hK _ _ _ hC (by rfl) (by exact rfl) ?_
      first | (simp only [Act.put, List.setIfInBounds_toArray, List.set_cons_succ, List.set_cons_zero]; done) | simp [Act.put]
    refine AllOps.cons (fun x u hC hT hp K hK => ?_) ?_
    · simp [KnownTill, Region.binds, VFs] at hp
      clear hT
      go_simp
      refine hK _ _ _ hC (by rfl) (by exact rfl) ?_
      first | (simp only [Act.put, List.setIfInBounds_toArray, List.set_cons_succ, List.set_cons_zero, hp]; done) | simp [Act.put, hp]
    refine AllOps.cons (fun x u hC hT hp K hK => ?_) ?_
    · simp [KnownTill, Region.binds, VFs] at hp
      clear hT
      go_simp
      refine (Q4.out u hC.2).mono ?_
      rintro e wA ⟨rfl, rfl⟩
      refine hK _ _ _ hC (by rfl) (by exact rfl) ?_
      first | (simp only [Act.put, List.setIfInBounds_toArray, List.set_cons_succ, List.set_cons_zero, hp]; done) | simp [Act.put, hp]
    refine AllOps.cons (fun x u hC hT hp K hK => ?_) ?_
    · simp [KnownTill, Region.binds, VFs] at hp
      clear hT
      go_simp
      refine hK _ _ _ hC (by rfl) (by exact rfl) ?_
      first | (simp only [Act.put, List.setIfInBounds_toArray, List.set_cons_succ, List.set_cons_zero, hp]; done) | simp [Act.put, hp]
    refine AllOps.cons (fun x u hC hT hp K hK => ?_) ?_
    · clear hp hT
      go_simp
      refine hK _ _ _ hC (by rfl) (by exact rfl) ?_
      first | (simp only [Act.put, List.setIfInBounds_toArray, List.set_cons_succ, List.set_cons_zero]; done) | simp [Act.put]
    refine AllOps.cons (fun x u hC hT hp K hK => ?_) ?_
    · simp [KnownTill, Region.binds, VFs] at hp
      clear hT
      go_simp
      refine hK _ _ _ hC (by rfl) (by exact rfl) ?_
      first | (simp only [Act.put, List.setIfInBounds_toArray, List.set_cons_succ, List.set_cons_zero, hp]; done) | simp [Act.put, hp]
    refine AllOps.cons (fun x u hC hT hp K hK => ?_) ?_
    · simp [KnownTill, Region.binds, VFs] at hp
      clear hT
      go_simp
      refine (Q2.out u hC.2).mono ?_
      rintro e wA ⟨rfl, rfl⟩
      refine hK _ _ _ hC (by rfl) (by exact rfl) ?_
      first | (simp only [Act.put, List.setIfInBounds_toArray, List.set_cons_succ, List.set_cons_zero, hp]; done) | simp [Act.put, hp]
    refine AllOps.cons (fun x u hC hT hp K hK => ?_) ?_
    · simp [KnownTill, Region.binds, VFs] at hp
      clear hT
      go_simp
      refine hK _ _ _ hC (by rfl) (by exact rfl) ?_
      first | (simp only [Act.put, List.setIfInBounds_toArray, List.set_cons_succ, List.set_cons_zero, hp]; done) | simp [Act.put, hp]
    refine AllOps.cons (fun x u hC hT hp K hK => ?_) ?_
    · clear hp hT
      go_simp
      refine hK _ _ _ hC (by rfl) (by exact rfl) ?_
      first | (simp only [Act.put, List.setIfInBounds_toArray, List.set_cons_succ, List.set_cons_zero]; done) | simp [Act.put]
    refine AllOps.cons (fun x u hC hT hp K hK => ?_) ?_
    · simp [KnownTill, Region.binds, VFs] at hp
      clear hT
      go_simp
      refine hK _ _ _ hC (by rfl) (by exact rfl) ?_
      first | (simp only [Act.put, List.setIfInBounds_toArray, List.set_cons_succ, List.set_cons_zero, hp]; done) | simp [Act.put, hp]
    refine AllOps.cons (fun x u hC hT hp K hK => ?_) ?_
    · simp [KnownTill, Region.binds, VFs] at hp
      clear hT
      go_simp
      refine (Q6.out u hC.2).mono ?_
      rintro e wA ⟨rfl, rfl⟩
      refine hK _ _ _ hC (by rfl) (by exact rfl) ?_
      first | (simp only [Act.put, List.setIfInBounds_toArray, List.set_cons_succ, List.set_cons_zero, hp]; done) | simp [Act.put, hp]
    refine AllOps.cons (fun x u hC hT hp K hK => ?_) ?_
    · simp [KnownTill, Region.binds, VFs] at hp
      clear hT
      go_simp
      refine hK _ _ _ hC (by rfl) (by exact rfl) ?_
      first | (simp only [Act.put, List.setIfInBounds_toArray, List.set_cons_succ, List.set_cons_zero, hp]; done) | simp [Act.put, hp]
    refine AllOps.cons (fun x u hC hT hp K hK => ?_) ?_
    · clear hp hT
      go_simp
      refine hK _ _ _ hC (by rfl) (by exact rfl) ?_
      first | (simp only [Act.put, List.setIfInBounds_toArray, List.set_cons_succ, List.set_cons_zero]; done) | simp [Act.put]
    refine AllOps.cons (fun x u hC hT hp K hK => ?_) ?_
    · simp [KnownTill, Region.binds, VFs] at hp
      clear hT
      go_simp
      refine hK _ _ _ hC (by rfl) (by exact rfl) ?_
      first | (simp only [Act.put, List.setIfInBounds_toArray, List.set_cons_succ, List.set_cons_zero, hp]; done) | simp [Act.put, hp]
    refine AllOps.cons (fun x u hC hT hp K hK => ?_) ?_
    · simp [KnownTill, Region.binds, VFs] at hp
      clear hT
      go_simp
      refine (Q10.out u hC.2).mono ?_
      rintro e wA ⟨A14, c14, rfl, own14, hbA⟩
      refine hK _ _ _ ⟨let ⟨x, y, z, t, h⟩ := hC.1; ⟨x, y, z, t, h.below hbA h.lt⟩, bt hC.2 hbA⟩ hbA (by exact ⟨A14, c14, rfl, own14.base_le hC.2.size⟩) ?_
      first | (simp only [Act.put, List.setIfInBounds_toArray, List.set_cons_succ, List.set_cons_zero, hp]; done) | simp [Act.put, hp]
    refine AllOps.cons (fun x u hC hT hp K hK => ?_) ?_
    · simp [KnownTill, Region.binds, VFs] at hp
      clear hT
      obtain ⟨h3, h7, h11, A14, c14, h14, own14⟩ : x 3 = .int .u32 S ∧ x 7 = .int .i64 Q ∧ x 11 = .int .i64 Z ∧ IsOwnN u w.heap.size (x 14) D 0 := by
        try unfold IsOwnN at *
        try unfold IsOwnN at hp
        simp_all
      clear hp
      go_simp
      refine hK _ _ _ hC (by rfl) (by exact ⟨A14, c14, rfl, own14⟩) ?_
      first | (simp only [Act.put, List.setIfInBounds_toArray, List.set_cons_succ, List.set_cons_zero, h3, h7, h11, h14]; done) | simp [Act.put, h3, h7, h11, h14]
    refine AllOps.cons (fun x u hC hT hp K hK => ?_) ?_
    · simp [KnownTill, Region.binds, VFs] at hp
      clear hT
      obtain ⟨A15, c15, h15, own15⟩ : IsFrm u w.heap.size (x 15) S Q Z D 0 := by first | exact hp | exact hp.1 | exact hp.2
      clear hp
      obtain ⟨⟨x1, x2, x3, x4, k2⟩, hbu⟩ := hC
      have d0 := k2.cell 0
      have d1 := k2.cell 1
      have d2 := k2.cell 2
      have d3 := k2.cell 3
      have f0 := k2.frozen 0
      have f1 := k2.frozen 1
      have f2 := k2.frozen 2
      have f3 := k2.frozen 3
      simp at d0 d1 d2 d3
      have k3 := k2.set4 (.int .u32 S) (.int .i64 Q) (.int .i64 Z) (.slice A15 0 c15)
      have own16 := own15.set4 ⟨_, _, _, _, k2⟩ (.int .u32 S) (.int .i64 Q) (.int .i64 Z) (.slice A15 0 c15)
      have hbb := below_set4 hbu (Nat.le_refl w.heap.size) (.int .u32 S) (.int .i64 Q) (.int .i64 Z) (.slice A15 0 c15)
      have K2 := Lib.hid k2
      clear k2
      go_simp
      refine hK undef _ (set4 u w.heap.size (.int .u32 S) (.int .i64 Q) (.int .i64 Z) (.slice A15 0 c15)) ⟨⟨_, _, _, _, k3⟩, hbb⟩ ⟨⟨_, _, _, _, K2.out⟩, _, _, _, _, rfl⟩ ⟨A15, c15, k3, own16⟩ ?_
      simp [Act.put, h15]
    exact AllOps.nil
  case finS =>
    intro x u hC hV
    obtain ⟨A, c, k3, own3⟩ : HoldsF u w.heap.size w.heap.size S Q Z D 0 := hV 16 (by decide) rfl
    clear hV
    have c0 := k3.cell 0
    have c1 := k3.cell 1
    have c2 := k3.cell 2
    have c3 := k3.cell 3
    simp at c0 c1 c2 c3
    have hbu := hC.2
    clear k3 hC
    go_wp2
    refine bodyPost_ret (by simp [results, Try.results24, go_sem, c0, c1, c2, c3]; try rfl) rfl ?_
    exact ⟨A, c, rfl, own3, hbu⟩

end Go.Proofs.Ythmhkicgghobmaa
