/- Layer 7: the program's Read. -/
import Derived.Test.YthmhkicgghobmaaFg
namespace Go.Proofs.Ythmhkicgghobmaa
open Go.RowKit
set_option linter.unusedVariables false
set_option linter.unusedSimpArgs false

theorem said_any (B o M N S Q Z : Nat) (l D : List UInt8) (w : World) (hM : Hid (M = l.length)) (hN : Hid (N = D.length)) (hMN : Hid (M = 10 + N)) (hMb : Hid (M ≤ 70000)) (hS : Hid (num (l.take 4) = S)) (hQ : Hid (num ((l.drop 4).take 2) = Q)) (hZ : Hid (num ((l.drop 6).take 2) = Z)) (hD : Hid (l.drop 10 = D)) (hb : Bs w w.heap.size (some ⟨B, o, none⟩) l) : Calls Try.prog 24 #[.slice (some ⟨B, o, none⟩) M M] w fun e w' => ∃ A c, e = .returned (.agg #[.int .u32 S, .int .i64 Q, .int .i64 Z, .slice A N c]) ∧ Own w' w.heap.size 5 A c D ∧ Below w.heap.size w w' := by
  by_cases h0 : N = 0
  · subst h0
    obtain rfl : M = 10 := hMN.out
    exact said_none B o S Q Z l D w hM hN hS hQ hZ hD hb
  · exact said_data B o M N S Q Z l D w hM hN hMN hMb h0 hS hQ hZ hD hb
/-- What Read hands out. -/
def RdO (w : World) (S Q Z : Nat) (D : List UInt8) (E : Int) (e : Ending) (w' : World) : Prop := ∃ A c N, e = .returned (.tuple #[.agg #[.int .u32 S, .int .i64 Q, .int .i64 Z, .slice A N c], .int .i64 E]) ∧ Hid (N = D.length) ∧ Own w' w.heap.size 5 A c D ∧ Below w.heap.size w w'

theorem fread_few (A : Option Addr) (n c : Nat) (w : World) (h14 : decide ((n : Int) < 14) = true) : Calls Try.prog 14 #[.slice A n c] w (RdO w 0 0 0 [] 11) := by
  have kb := Blk.new w 25 #[.int .u32 0, .int .i64 0, .int .i64 0, .slice none 0 0]
  have hbw := ba w (.cells #[.int .u32 0, .int .i64 0, .int .i64 0, .slice none 0 0] 25)
  have c0 := (kb).cell 0
  have c1 := (kb).cell 1
  have c2 := (kb).cell 2
  have c3 := (kb).cell 3
  simp only [List.getElem?_toArray, List.getElem?_cons_zero, List.getElem?_cons_succ] at c0 c1 c2 c3
  clear kb
  go_enter Try.func14, Try.ntmps14
  go_wp2
  refine bodyPost_ret (by simp [results, Try.results14, go_sem, c0, c1, c2, c3]; try rfl) rfl ?_
  exact ⟨none, 0, 0, rfl, Lib.hid rfl, Own.nil, hbw⟩

def VFr (B o n c M Z1 Z2 : Nat) (bb : Bool) (i : Nat) (v : Value) (w : World) : Prop :=
  match i with
  | 0 => v = .slice (some ⟨B, o, none⟩) n c
  | 1 => v = .int .i64 M
  | 2 => v = .slice (some ⟨B, o + M, none⟩) 4 (c - M)
  | 3 => v = .int .u64 Z1
  | 4 => v = .slice (some ⟨B, o, none⟩) n c
  | 5 => v = .int .i64 M
  | 6 => v = .slice (some ⟨B, o, none⟩) M c
  | 7 => v = .int .u32 Z2
  | 8 => v = .int .u64 Z2
  | 9 => v = .bool bb
  | 10 => v = .bool bb
  | _ => True

theorem VFr.mono {B o n c M Z1 Z2 : Nat} {bb : Bool} {i : Nat} {v : Value} {u u' : World} (hv : VFr B o n c M Z1 Z2 bb i v u) : VFr B o n c M Z1 Z2 bb i v u' := by
  unfold VFr at hv ⊢; split at hv <;> exact hv

set_option maxHeartbeats 2000000 in
theorem fread_2 (B o c n K M M4 : Nat) (b : List UInt8) (w : World) (hn : Hid (n = b.length)) (hc : Hid (n ≤ c)) (hcm : Hid (c ≤ 9223372036854775807)) (h14 : Hid (14 ≤ n)) (hs : Bs w w.heap.size (some ⟨B, o, none⟩) b) (hK : Hid (num ((b.drop 8).take 2) = K)) (hM : Hid (M = 10 + K)) (hM4 : Hid (M4 = M + 4)) (l1 : n < M4) : Calls Try.prog 14 #[.slice (some ⟨B, o, none⟩) n c] w (RdO w 0 0 0 [] 11) := by
  have hKb : Hid (K < 65536) := Lib.hid (by
    have := num_lt ((b.drop 8).take 2)
    have := h14.out
    have := hn.out
    rw [List.length_take, List.length_drop, Nat.min_eq_left (by omega)] at *
    rw [← hK.out]; simpa using ‹num _ < _›)
  have q8 : ∀ (u : World), Below w.heap.size w u → Calls Try.prog 23 #[.slice (some ⟨B, o + 8, none⟩) 2 (c - 8)] u fun e w' => e = .returned (.int .u64 K) ∧ u = w' := by
    intro u hu
    have h8 := hs.part 8 2 (by have := h14.out; have := hn.out; omega)
    have := fnumber_n (some ⟨B, o + 8, none⟩) ((b.drop 8).take 2) 2 (c - 8) u (Lib.hid (by have := h14.out; have := hn.out; rw [List.length_take, List.length_drop]; omega)) (Lib.hid (by have := h14.out; have := hn.out; rw [List.length_take, List.length_drop]; omega)) ((h8.below hu).more hu.size)
    rw [hK.out] at this
    exact this
  have i14 : decide ((n : Int) < 14) = false := decide_eq_false (by have := h14.out; omega)
  have i8 : (8 : Int) ≤ (c : Int) := by have := h14.out; have := hc.out; omega
  have i10 : (10 : Int) ≤ (c : Int) := by have := h14.out; have := hc.out; omega
  have n8 : ¬ (c = 8) := by omega
  have e1 : IntKind.i64.wrap (K : Int) = (K : Int) := IntWalk.i64_in _ (by have := hKb.out; omega)
  have e2 : IntKind.i64.wrap (10 + (K : Int)) = (M : Int) := by rw [IntWalk.i64_in _ (by have := hKb.out; omega), hM.out]; omega
  have e3 : IntKind.i64.wrap ((M : Int) + 4) = (M4 : Int) := by rw [IntWalk.i64_in _ (by have := hKb.out; have := hM.out; omega), hM4.out]; omega
  have kr := Blk.new w 25 #[.int .u32 0, .int .i64 0, .int .i64 0, .slice none 0 0]
  have hbw := ba w (.cells #[.int .u32 0, .int .i64 0, .int .i64 0, .slice none 0 0] 25)
  have c0 := (kr).cell 0
  have c1 := (kr).cell 1
  have c2 := (kr).cell 2
  have c3 := (kr).cell 3
  simp only [List.getElem?_toArray, List.getElem?_cons_zero, List.getElem?_cons_succ] at c0 c1 c2 c3
  clear kr
  go_enter Try.func14, Try.ntmps14
  go_wp2_with fail
  refine (q8 _ hbw).mono ?_
  rintro e w1 ⟨rfl, rfl⟩
  go_wp2
  refine bodyPost_ret (by simp [results, Try.results14, go_sem, c0, c1, c2, c3]; try rfl) rfl ?_
  exact ⟨none, 0, 0, rfl, Lib.hid rfl, Own.nil, hbw⟩

set_option maxHeartbeats 2000000 in
theorem fread_3 (B o c n K M M4 : Nat) (b : List UInt8) (w : World) (hn : Hid (n = b.length)) (hc : Hid (n ≤ c)) (hcm : Hid (c ≤ 9223372036854775807)) (h14 : Hid (14 ≤ n)) (hs : Bs w w.heap.size (some ⟨B, o, none⟩) b) (hK : Hid (num ((b.drop 8).take 2) = K)) (hM : Hid (M = 10 + K)) (hM4 : Hid (M4 = M + 4)) (l1 : ¬ n < M4) (l2 : M4 < n) : Calls Try.prog 14 #[.slice (some ⟨B, o, none⟩) n c] w (RdO w 0 0 0 [] 2) := by
  have hKb : Hid (K < 65536) := Lib.hid (by
    have := num_lt ((b.drop 8).take 2)
    have := h14.out
    have := hn.out
    rw [List.length_take, List.length_drop, Nat.min_eq_left (by omega)] at *
    rw [← hK.out]; simpa using ‹num _ < _›)
  have q8 : ∀ (u : World), Below w.heap.size w u → Calls Try.prog 23 #[.slice (some ⟨B, o + 8, none⟩) 2 (c - 8)] u fun e w' => e = .returned (.int .u64 K) ∧ u = w' := by
    intro u hu
    have h8 := hs.part 8 2 (by have := h14.out; have := hn.out; omega)
    have := fnumber_n (some ⟨B, o + 8, none⟩) ((b.drop 8).take 2) 2 (c - 8) u (Lib.hid (by have := h14.out; have := hn.out; rw [List.length_take, List.length_drop]; omega)) (Lib.hid (by have := h14.out; have := hn.out; rw [List.length_take, List.length_drop]; omega)) ((h8.below hu).more hu.size)
    rw [hK.out] at this
    exact this
  have i14 : decide ((n : Int) < 14) = false := decide_eq_false (by have := h14.out; omega)
  have i8 : (8 : Int) ≤ (c : Int) := by have := h14.out; have := hc.out; omega
  have i10 : (10 : Int) ≤ (c : Int) := by have := h14.out; have := hc.out; omega
  have n8 : ¬ (c = 8) := by omega
  have e1 : IntKind.i64.wrap (K : Int) = (K : Int) := IntWalk.i64_in _ (by have := hKb.out; omega)
  have e2 : IntKind.i64.wrap (10 + (K : Int)) = (M : Int) := by rw [IntWalk.i64_in _ (by have := hKb.out; omega), hM.out]; omega
  have e3 : IntKind.i64.wrap ((M : Int) + 4) = (M4 : Int) := by rw [IntWalk.i64_in _ (by have := hKb.out; have := hM.out; omega), hM4.out]; omega
  have kr := Blk.new w 25 #[.int .u32 0, .int .i64 0, .int .i64 0, .slice none 0 0]
  have hbw := ba w (.cells #[.int .u32 0, .int .i64 0, .int .i64 0, .slice none 0 0] 25)
  have c0 := (kr).cell 0
  have c1 := (kr).cell 1
  have c2 := (kr).cell 2
  have c3 := (kr).cell 3
  simp only [List.getElem?_toArray, List.getElem?_cons_zero, List.getElem?_cons_succ] at c0 c1 c2 c3
  clear kr
  go_enter Try.func14, Try.ntmps14
  go_wp2_with fail
  refine (q8 _ hbw).mono ?_
  rintro e w1 ⟨rfl, rfl⟩
  go_wp2
  refine bodyPost_ret (by simp [results, Try.results14, go_sem, c0, c1, c2, c3]; try rfl) rfl ?_
  exact ⟨none, 0, 0, rfl, Lib.hid rfl, Own.nil, hbw⟩

set_option maxHeartbeats 2000000 in
theorem fread_4 (B o c n K M : Nat) (b : List UInt8) (w : World) (hn : Hid (n = b.length)) (hc : Hid (n ≤ c)) (hcm : Hid (c ≤ 9223372036854775807)) (h14 : Hid (14 ≤ n)) (hs : Bs w w.heap.size (some ⟨B, o, none⟩) b) (hK : Hid (num ((b.drop 8).take 2) = K)) (hM : Hid (M = 10 + K)) (hM4 : Hid (n = M + 4)) (Z1 Z2 : Nat) (hZ1 : Hid (num (b.drop M) = Z1)) (hZ2 : Hid (sumR (b.take M) = Z2)) (hbb : ((Z1 : Int) != (Z2 : Int)) = true) : Calls Try.prog 14 #[.slice (some ⟨B, o, none⟩) n c] w (RdO w 0 0 0 [] 31) := by
  have hKb : Hid (K < 65536) := Lib.hid (by
    have := num_lt ((b.drop 8).take 2)
    have := h14.out
    have := hn.out
    rw [List.length_take, List.length_drop, Nat.min_eq_left (by omega)] at *
    rw [← hK.out]; simpa using ‹num _ < _›)
  have q8 : ∀ (u : World), Below w.heap.size w u → Calls Try.prog 23 #[.slice (some ⟨B, o + 8, none⟩) 2 (c - 8)] u fun e w' => e = .returned (.int .u64 K) ∧ u = w' := by
    intro u hu
    have h8 := hs.part 8 2 (by have := h14.out; have := hn.out; omega)
    have := fnumber_n (some ⟨B, o + 8, none⟩) ((b.drop 8).take 2) 2 (c - 8) u (Lib.hid (by have := h14.out; have := hn.out; rw [List.length_take, List.length_drop]; omega)) (Lib.hid (by have := h14.out; have := hn.out; rw [List.length_take, List.length_drop]; omega)) ((h8.below hu).more hu.size)
    rw [hK.out] at this
    exact this
  have i14 : decide ((n : Int) < 14) = false := decide_eq_false (by have := h14.out; omega)
  have i8 : (8 : Int) ≤ (c : Int) := by have := h14.out; have := hc.out; omega
  have i10 : (10 : Int) ≤ (c : Int) := by have := h14.out; have := hc.out; omega
  have n8 : ¬ (c = 8) := by omega
  have e1 : IntKind.i64.wrap (K : Int) = (K : Int) := IntWalk.i64_in _ (by have := hKb.out; omega)
  have e2 : IntKind.i64.wrap (10 + (K : Int)) = (M : Int) := by rw [IntWalk.i64_in _ (by have := hKb.out; omega), hM.out]; omega
  have e3 : IntKind.i64.wrap ((M : Int) + 4) = (n : Int) := by rw [IntWalk.i64_in _ (by have := hKb.out; have := hM.out; omega), hM4.out]; omega
  have kr := Blk.new w 25 #[.int .u32 0, .int .i64 0, .int .i64 0, .slice none 0 0]
  have hbw := ba w (.cells #[.int .u32 0, .int .i64 0, .int .i64 0, .slice none 0 0] 25)
  have hMn : Hid (M ≤ b.length) := Lib.hid (by have := hM4.out; have := hn.out; omega)
  have hMb : Hid (M ≤ 70000) := Lib.hid (by have := hKb.out; have := hM.out; omega)
  have qz : ∀ (u : World), Below w.heap.size w u → Calls Try.prog 23 #[.slice (some ⟨B, o + M, none⟩) 4 (c - M)] u fun e w' => e = .returned (.int .u64 Z1) ∧ u = w' := by
    intro u hu
    have h8 := hs.part M 4 (by have := hM4.out; have := hn.out; omega)
    rw [List.take_of_length_le (by rw [List.length_drop]; have := hM4.out; have := hn.out; omega)] at h8
    have := fnumber_n (some ⟨B, o + M, none⟩) (b.drop M) 4 (c - M) u (Lib.hid (by have := hM4.out; have := hn.out; rw [List.length_drop]; omega)) (Lib.hid (by have := hM4.out; have := hn.out; rw [List.length_drop]; omega)) ((h8.below hu).more hu.size)
    rw [hZ1.out] at this
    exact this
  have hbf : Bs w w.heap.size (some ⟨B, o, none⟩) (b.take M) := by
    have := hs.part 0 M (by have := h14.out; have := hn.out; omega)
    rwa [List.drop_zero, Nat.add_zero] at this
  have hfl : Hid (M = (b.take M).length) := Lib.hid (by rw [List.length_take]; have := hMn.out; omega)
  have qs : ∀ (u : World), Below w.heap.size w u → Calls Try.prog 18 #[.slice (some ⟨B, o, none⟩) M c] u fun e w' => e = .returned (.int .u32 Z2) ∧ u = w' := by
    intro u hu
    have := sum_n (some ⟨B, o, none⟩) (b.take M) c M hfl u (by rw [← hfl.out]; have := hMb.out; omega) ((hbf.below hu).more hu.size)
    rw [hZ2.out] at this
    exact this
  have hz2 : Z2 < 4294967296 := by rw [← hZ2.out]; exact sumR_lt _
  have e5 : IntKind.u64.wrap (Z2 : Int) = (Z2 : Int) := IntWalk.u64_in _ (by omega)
  have i1 : (M : Int) ≤ (n : Int) := by have := hM4.out; omega
  have i2 : (M : Int) ≤ (c : Int) := by have := hM4.out; have := hc.out; omega
  have n2 : ¬ (c = M) := by have := hM4.out; have := hc.out; omega
  have n0 : ¬ (c = 0) := by have := h14.out; have := hc.out; omega
  have nm0 : ¬ (M = 0) := by have := hM.out; omega
  have eN : n - M = 4 := by have := hM4.out; omega
  have Qz := Lib.hid qz
  have Qs := Lib.hid qs
  clear qz qs hbf hz2 hs
  go_enter Try.func14, Try.ntmps14
  go_wp2_with fail
  refine (q8 _ hbw).mono ?_
  rintro e w1 ⟨rfl, rfl⟩
  clear q8
  go_wp2_with fail
  generalize (w.alloc (.cells #[.int .u32 0, .int .i64 0, .int .i64 0, .slice none 0 0] 25)) = w1 at hbw kr ⊢
  refine wp_region_invT (F := ?FR) (V := VFr B o n c M Z1 Z2 true) (dead := fun _ => none) (T := fun _ _ => True) (C := fun u' => Below w1.heap.size w1 u') (E := fun _ u u' => u' = u) (by kernel_rfl) (by kernel_rfl) (by kernel_rfl) (fun x => ?hFR) ?hmonoR ?hTmR ?hTR ?hCR ?stepR ?finR
  case hFR => simp only [mkA, Act.put, List.setIfInBounds_toArray, List.set_cons_succ, List.set_cons_zero, Nat.reduceAdd, Nat.zero_add]; first | with_reducible rfl | rfl
  case hmonoR => exact fun k i v u u' he hik hwt hdd hv => VFr.mono hv
  case hTmR => exact fun _ _ _ _ _ _ _ _ => trivial
  case hTR => exact fun j => trivial
  case hCR => exact below_drew _
  case stepR =>
    refine AllOps.cons (fun x u hC hT hp K hK => ?_) ?_
    · clear hp hT
      go_simp
      refine hK _ _ _ hC (by rfl) (by exact rfl) ?_
      first | (simp only [Act.put, List.setIfInBounds_toArray, List.set_cons_succ, List.set_cons_zero]; done) | simp [Act.put]
    refine AllOps.cons (fun x u hC hT hp K hK => ?_) ?_
    · clear hp hT
      go_simp
      refine hK _ _ _ hC (by rfl) (by exact rfl) ?_
      first | (simp only [Act.put, List.setIfInBounds_toArray, List.set_cons_succ, List.set_cons_zero]; done) | simp [Act.put]
    refine AllOps.cons (fun x u hC hT hp K hK => ?_) ?_
    · simp [KnownTill, Region.binds, VFr] at hp
      clear hT
      go_simp
      refine hK _ _ _ hC (by rfl) (by exact rfl) ?_
      first | (simp only [Act.put, List.setIfInBounds_toArray, List.set_cons_succ, List.set_cons_zero, hp]; done) | simp [Act.put, hp]
    refine AllOps.cons (fun x u hC hT hp K hK => ?_) ?_
    · simp [KnownTill, Region.binds, VFr] at hp
      clear hT
      go_simp
      refine (Qz.out u (bt hbw hC)).mono ?_
      rintro e wA ⟨rfl, rfl⟩
      refine hK _ _ _ hC (by rfl) (by exact rfl) ?_
      first | (simp only [Act.put, List.setIfInBounds_toArray, List.set_cons_succ, List.set_cons_zero, hp]; done) | simp [Act.put, hp]
    refine AllOps.cons (fun x u hC hT hp K hK => ?_) ?_
    · clear hp hT
      go_simp
      refine hK _ _ _ hC (by rfl) (by exact rfl) ?_
      first | (simp only [Act.put, List.setIfInBounds_toArray, List.set_cons_succ, List.set_cons_zero]; done) | simp [Act.put]
    refine AllOps.cons (fun x u hC hT hp K hK => ?_) ?_
    · clear hp hT
      go_simp
      refine hK _ _ _ hC (by rfl) (by exact rfl) ?_
      first | (simp only [Act.put, List.setIfInBounds_toArray, List.set_cons_succ, List.set_cons_zero]; done) | simp [Act.put]
    refine AllOps.cons (fun x u hC hT hp K hK => ?_) ?_
    · simp [KnownTill, Region.binds, VFr] at hp
      clear hT
      go_simp
      refine hK _ _ _ hC (by rfl) (by exact rfl) ?_
      first | (simp only [Act.put, List.setIfInBounds_toArray, List.set_cons_succ, List.set_cons_zero, hp]; done) | simp [Act.put, hp]
    refine AllOps.cons (fun x u hC hT hp K hK => ?_) ?_
    · simp [KnownTill, Region.binds, VFr] at hp
      clear hT
      go_simp
      refine (Qs.out u (bt hbw hC)).mono ?_
      rintro e wA ⟨rfl, rfl⟩
      refine hK _ _ _ hC (by rfl) (by exact rfl) ?_
      first | (simp only [Act.put, List.setIfInBounds_toArray, List.set_cons_succ, List.set_cons_zero, hp]; done) | simp [Act.put, hp]
    refine AllOps.cons (fun x u hC hT hp K hK => ?_) ?_
    · simp [KnownTill, Region.binds, VFr] at hp
      clear hT
      go_simp
      refine hK _ _ _ hC (by rfl) (by exact rfl) ?_
      first | (simp only [Act.put, List.setIfInBounds_toArray, List.set_cons_succ, List.set_cons_zero, hp]; done) | simp [Act.put, hp]
    refine AllOps.cons (fun x u hC hT hp K hK => ?_) ?_
    · simp [KnownTill, Region.binds, VFr] at hp
      clear hT
      go_simp
      refine hK _ _ _ hC (by rfl) (by exact rfl) ?_
      first | (simp only [Act.put, List.setIfInBounds_toArray, List.set_cons_succ, List.set_cons_zero, hp]; done) | simp [Act.put, hp]
    refine AllOps.cons (fun x u hC hT hp K hK => ?_) ?_
    · simp [KnownTill, Region.binds, VFr] at hp
      clear hT
      go_simp
      refine hK _ _ _ hC (by rfl) (by exact rfl) ?_
      first | (simp only [Act.put, List.setIfInBounds_toArray, List.set_cons_succ, List.set_cons_zero, hp]; done) | simp [Act.put, hp]
    exact AllOps.nil
  case finR =>
    intro x u hC hV
    have hz : x 10 = .bool true := hV 10 (by decide) rfl
    rw [hz]
    clear hV hz
    have kr2 := kr.below hC kr.lt
    have hbu := bt hbw hC
    clear kr hC hbb
    have c0 := (kr2).cell 0
    have c1 := (kr2).cell 1
    have c2 := (kr2).cell 2
    have c3 := (kr2).cell 3
    simp only [List.getElem?_toArray, List.getElem?_cons_zero, List.getElem?_cons_succ] at c0 c1 c2 c3
    have f0 := (kr2).frozen 0
    have f1 := (kr2).frozen 1
    have f2 := (kr2).frozen 2
    have f3 := (kr2).frozen 3
    have st0 := kr2.set_ 0 (.int .u32 0)
    have ste0 := st0.cell 0
    have sth0 := hbu.setCell (p := ⟨w.heap.size, 0, none⟩) (by first | (show _ ≤ _; omega) | simp) (.int .u32 0)
    have st1 := st0.set_ 1 (.int .i64 0)
    have ste1 := st1.cell 1
    have sth1 := sth0.setCell (p := ⟨w.heap.size, 1, none⟩) (by first | (show _ ≤ _; omega) | simp) (.int .i64 0)
    have st2 := st1.set_ 2 (.int .i64 0)
    have ste2 := st2.cell 2
    have sth2 := sth1.setCell (p := ⟨w.heap.size, 2, none⟩) (by first | (show _ ≤ _; omega) | simp) (.int .i64 0)
    have st3 := st2.set_ 3 (.slice none 0 0)
    have ste3 := st3.cell 3
    have sth3 := sth2.setCell (p := ⟨w.heap.size, 3, none⟩) (by first | (show _ ≤ _; omega) | simp) (.slice none 0 0)
    simp at ste0 ste1 ste2 ste3
    clear st0 st1 st2 st3
    go_wp2
    refine bodyPost_ret (by simp [results, Try.results14, go_sem, ste0, ste1, ste2, ste3]; try rfl) rfl ?_
    exact ⟨none, 0, 0, rfl, Lib.hid rfl, Own.nil, sth3⟩

set_option maxHeartbeats 2000000 in
theorem fread_5 (B o c n K M : Nat) (b : List UInt8) (w : World) (hn : Hid (n = b.length)) (hc : Hid (n ≤ c)) (hcm : Hid (c ≤ 9223372036854775807)) (h14 : Hid (14 ≤ n)) (hs : Bs w w.heap.size (some ⟨B, o, none⟩) b) (hK : Hid (num ((b.drop 8).take 2) = K)) (hM : Hid (M = 10 + K)) (hM4 : Hid (n = M + 4)) (Z1 Z2 : Nat) (hZ1 : Hid (num (b.drop M) = Z1)) (hZ2 : Hid (sumR (b.take M) = Z2)) (hbb : ((Z1 : Int) != (Z2 : Int)) = false) (S Q Z : Nat) (D : List UInt8) (hS : Hid (num ((b.take M).take 4) = S)) (hQ : Hid (num (((b.take M).drop 4).take 2) = Q)) (hZ : Hid (num (((b.take M).drop 6).take 2) = Z)) (hD : Hid ((b.take M).drop 10 = D)) (hmy : Hid (mayF S Q Z K = false)) : Calls Try.prog 14 #[.slice (some ⟨B, o, none⟩) n c] w (RdO w 0 0 0 [] 70) := by
  have hKb : Hid (K < 65536) := Lib.hid (by
    have := num_lt ((b.drop 8).take 2)
    have := h14.out
    have := hn.out
    rw [List.length_take, List.length_drop, Nat.min_eq_left (by omega)] at *
    rw [← hK.out]; simpa using ‹num _ < _›)
  have q8 : ∀ (u : World), Below w.heap.size w u → Calls Try.prog 23 #[.slice (some ⟨B, o + 8, none⟩) 2 (c - 8)] u fun e w' => e = .returned (.int .u64 K) ∧ u = w' := by
    intro u hu
    have h8 := hs.part 8 2 (by have := h14.out; have := hn.out; omega)
    have := fnumber_n (some ⟨B, o + 8, none⟩) ((b.drop 8).take 2) 2 (c - 8) u (Lib.hid (by have := h14.out; have := hn.out; rw [List.length_take, List.length_drop]; omega)) (Lib.hid (by have := h14.out; have := hn.out; rw [List.length_take, List.length_drop]; omega)) ((h8.below hu).more hu.size)
    rw [hK.out] at this
    exact this
  have i14 : decide ((n : Int) < 14) = false := decide_eq_false (by have := h14.out; omega)
  have i8 : (8 : Int) ≤ (c : Int) := by have := h14.out; have := hc.out; omega
  have i10 : (10 : Int) ≤ (c : Int) := by have := h14.out; have := hc.out; omega
  have n8 : ¬ (c = 8) := by omega
  have e1 : IntKind.i64.wrap (K : Int) = (K : Int) := IntWalk.i64_in _ (by have := hKb.out; omega)
  have e2 : IntKind.i64.wrap (10 + (K : Int)) = (M : Int) := by rw [IntWalk.i64_in _ (by have := hKb.out; omega), hM.out]; omega
  have e3 : IntKind.i64.wrap ((M : Int) + 4) = (n : Int) := by rw [IntWalk.i64_in _ (by have := hKb.out; have := hM.out; omega), hM4.out]; omega
  have kr := Blk.new w 25 #[.int .u32 0, .int .i64 0, .int .i64 0, .slice none 0 0]
  have hbw := ba w (.cells #[.int .u32 0, .int .i64 0, .int .i64 0, .slice none 0 0] 25)
  have hMn : Hid (M ≤ b.length) := Lib.hid (by have := hM4.out; have := hn.out; omega)
  have hMb : Hid (M ≤ 70000) := Lib.hid (by have := hKb.out; have := hM.out; omega)
  have qz : ∀ (u : World), Below w.heap.size w u → Calls Try.prog 23 #[.slice (some ⟨B, o + M, none⟩) 4 (c - M)] u fun e w' => e = .returned (.int .u64 Z1) ∧ u = w' := by
    intro u hu
    have h8 := hs.part M 4 (by have := hM4.out; have := hn.out; omega)
    rw [List.take_of_length_le (by rw [List.length_drop]; have := hM4.out; have := hn.out; omega)] at h8
    have := fnumber_n (some ⟨B, o + M, none⟩) (b.drop M) 4 (c - M) u (Lib.hid (by have := hM4.out; have := hn.out; rw [List.length_drop]; omega)) (Lib.hid (by have := hM4.out; have := hn.out; rw [List.length_drop]; omega)) ((h8.below hu).more hu.size)
    rw [hZ1.out] at this
    exact this
  have hbf : Bs w w.heap.size (some ⟨B, o, none⟩) (b.take M) := by
    have := hs.part 0 M (by have := h14.out; have := hn.out; omega)
    rwa [List.drop_zero, Nat.add_zero] at this
  have hfl : Hid (M = (b.take M).length) := Lib.hid (by rw [List.length_take]; have := hMn.out; omega)
  have qs : ∀ (u : World), Below w.heap.size w u → Calls Try.prog 18 #[.slice (some ⟨B, o, none⟩) M c] u fun e w' => e = .returned (.int .u32 Z2) ∧ u = w' := by
    intro u hu
    have := sum_n (some ⟨B, o, none⟩) (b.take M) c M hfl u (by rw [← hfl.out]; have := hMb.out; omega) ((hbf.below hu).more hu.size)
    rw [hZ2.out] at this
    exact this
  have hz2 : Z2 < 4294967296 := by rw [← hZ2.out]; exact sumR_lt _
  have e5 : IntKind.u64.wrap (Z2 : Int) = (Z2 : Int) := IntWalk.u64_in _ (by omega)
  have i1 : (M : Int) ≤ (n : Int) := by have := hM4.out; omega
  have i2 : (M : Int) ≤ (c : Int) := by have := hM4.out; have := hc.out; omega
  have n2 : ¬ (c = M) := by have := hM4.out; have := hc.out; omega
  have n0 : ¬ (c = 0) := by have := h14.out; have := hc.out; omega
  have nm0 : ¬ (M = 0) := by have := hM.out; omega
  have eN : n - M = 4 := by have := hM4.out; omega
  have hN : Hid (K = D.length) := Lib.hid (by rw [← hD.out, List.length_drop, ← hfl.out, hM.out]; omega)
  have qd := fun (u : World) (hu : Below w.heap.size w u) => said_any B o M K S Q Z (b.take M) D u hfl hN hM hMb hS hQ hZ hD ((hbf.below hu).more hu.size)
  have hm := fun A c w => mayBe_any S Q Z A K c w
  rw [hmy.out] at hm
  have Qd := Lib.hid qd
  have Hm := Lib.hid hm
  clear qd hm
  have Qz := Lib.hid qz
  have Qs := Lib.hid qs
  clear qz qs hbf hz2 hs
  go_enter Try.func14, Try.ntmps14
  go_wp2_with fail
  refine (q8 _ hbw).mono ?_
  rintro e w1 ⟨rfl, rfl⟩
  clear q8
  go_wp2_with fail
  generalize (w.alloc (.cells #[.int .u32 0, .int .i64 0, .int .i64 0, .slice none 0 0] 25)) = w1 at hbw kr ⊢
  refine wp_region_invT (F := ?FR) (V := VFr B o n c M Z1 Z2 false) (dead := fun _ => none) (T := fun _ _ => True) (C := fun u' => Below w1.heap.size w1 u') (E := fun _ u u' => u' = u) (by kernel_rfl) (by kernel_rfl) (by kernel_rfl) (fun x => ?hFR) ?hmonoR ?hTmR ?hTR ?hCR ?stepR ?finR
  case hFR => simp only [mkA, Act.put, List.setIfInBounds_toArray, List.set_cons_succ, List.set_cons_zero, Nat.reduceAdd, Nat.zero_add]; first | with_reducible rfl | rfl
  case hmonoR => exact fun k i v u u' he hik hwt hdd hv => VFr.mono hv
  case hTmR => exact fun _ _ _ _ _ _ _ _ => trivial
  case hTR => exact fun j => trivial
  case hCR => exact below_drew _
  case stepR =>
    refine AllOps.cons (fun x u hC hT hp K hK => ?_) ?_
    · clear hp hT
      go_simp
      refine hK _ _ _ hC (by rfl) (by exact rfl) ?_
      first | (simp only [Act.put, List.setIfInBounds_toArray, List.set_cons_succ, List.set_cons_zero]; done) | simp [Act.put]
    refine AllOps.cons (fun x u hC hT hp K hK => ?_) ?_
    · clear hp hT
      go_simp
      refine hK _ _ _ hC (by rfl) (by exact rfl) ?_
      first | (simp only [Act.put, List.setIfInBounds_toArray, List.set_cons_succ, List.set_cons_zero]; done) | simp [Act.put]
    refine AllOps.cons (fun x u hC hT hp K hK => ?_) ?_
    · simp [KnownTill, Region.binds, VFr] at hp
      clear hT
      go_simp
      refine hK _ _ _ hC (by rfl) (by exact rfl) ?_
      first | (simp only [Act.put, List.setIfInBounds_toArray, List.set_cons_succ, List.set_cons_zero, hp]; done) | simp [Act.put, hp]
    refine AllOps.cons (fun x u hC hT hp K hK => ?_) ?_
    · simp [KnownTill, Region.binds, VFr] at hp
      clear hT
      go_simp
      refine (Qz.out u (bt hbw hC)).mono ?_
      rintro e wA ⟨rfl, rfl⟩
      refine hK _ _ _ hC (by rfl) (by exact rfl) ?_
      first | (simp only [Act.put, List.setIfInBounds_toArray, List.set_cons_succ, List.set_cons_zero, hp]; done) | simp [Act.put, hp]
    refine AllOps.cons (fun x u hC hT hp K hK => ?_) ?_
    · clear hp hT
      go_simp
      refine hK _ _ _ hC (by rfl) (by exact rfl) ?_
      first | (simp only [Act.put, List.setIfInBounds_toArray, List.set_cons_succ, List.set_cons_zero]; done) | simp [Act.put]
    refine AllOps.cons (fun x u hC hT hp K hK => ?_) ?_
    · clear hp hT
      go_simp
      refine hK _ _ _ hC (by rfl) (by exact rfl) ?_
      first | (simp only [Act.put, List.setIfInBounds_toArray, List.set_cons_succ, List.set_cons_zero]; done) | simp [Act.put]
    refine AllOps.cons (fun x u hC hT hp K hK => ?_) ?_
    · simp [KnownTill, Region.binds, VFr] at hp
      clear hT
      go_simp
      refine hK _ _ _ hC (by rfl) (by exact rfl) ?_
      first | (simp only [Act.put, List.setIfInBounds_toArray, List.set_cons_succ, List.set_cons_zero, hp]; done) | simp [Act.put, hp]
    refine AllOps.cons (fun x u hC hT hp K hK => ?_) ?_
    · simp [KnownTill, Region.binds, VFr] at hp
      clear hT
      go_simp
      refine (Qs.out u (bt hbw hC)).mono ?_
      rintro e wA ⟨rfl, rfl⟩
      refine hK _ _ _ hC (by rfl) (by exact rfl) ?_
      first | (simp only [Act.put, List.setIfInBounds_toArray, List.set_cons_succ, List.set_cons_zero, hp]; done) | simp [Act.put, hp]
    refine AllOps.cons (fun x u hC hT hp K hK => ?_) ?_
    · simp [KnownTill, Region.binds, VFr] at hp
      clear hT
      go_simp
      refine hK _ _ _ hC (by rfl) (by exact rfl) ?_
      first | (simp only [Act.put, List.setIfInBounds_toArray, List.set_cons_succ, List.set_cons_zero, hp]; done) | simp [Act.put, hp]
    refine AllOps.cons (fun x u hC hT hp K hK => ?_) ?_
    · simp [KnownTill, Region.binds, VFr] at hp
      clear hT
      go_simp
      refine hK _ _ _ hC (by rfl) (by exact rfl) ?_
      first | (simp only [Act.put, List.setIfInBounds_toArray, List.set_cons_succ, List.set_cons_zero, hp]; done) | simp [Act.put, hp]
    refine AllOps.cons (fun x u hC hT hp K hK => ?_) ?_
    · simp [KnownTill, Region.binds, VFr] at hp
      clear hT
      go_simp
      refine hK _ _ _ hC (by rfl) (by exact rfl) ?_
      first | (simp only [Act.put, List.setIfInBounds_toArray, List.set_cons_succ, List.set_cons_zero, hp]; done) | simp [Act.put, hp]
    exact AllOps.nil
  case finR =>
    intro x u hC hV
    have hz : x 10 = .bool false := hV 10 (by decide) rfl
    rw [hz]
    clear hV hz
    have kr2 := kr.below hC kr.lt
    have hbu := bt hbw hC
    clear kr hC hbb
    go_wp2_with fail
    refine (Qd.out _ hbu).mono ?_
    rintro e w2 ⟨A4, c4, rfl, own4, hb4⟩
    have kr3 := (kr2.below hb4 kr2.lt).alloc (.cells #[.int .u32 S, .int .i64 Q, .int .i64 Z, .slice A4 K c4] 25)
    have kf := Blk.new w2 25 #[.int .u32 S, .int .i64 Q, .int .i64 Z, .slice A4 K c4]
    have hb3 := bt (bt hbu hb4) (ba w2 (.cells #[.int .u32 S, .int .i64 Q, .int .i64 Z, .slice A4 K c4] 25))
    have own5 := (own4.alloc (.cells #[.int .u32 S, .int .i64 Q, .int .i64 Z, .slice A4 K c4] 25)).base_le hbu.size
    have c0 := (kf).cell 0
    have c1 := (kf).cell 1
    have c2 := (kf).cell 2
    have c3 := (kf).cell 3
    simp only [List.getElem?_toArray, List.getElem?_cons_zero, List.getElem?_cons_succ] at c0 c1 c2 c3
    clear kr2 hb4 own4
    go_wp2_with fail
    refine (Hm.out A4 c4 _).mono ?_
    rintro e w3 ⟨rfl, hb6⟩
    have kr4 := kr3.below hb6 kr3.lt
    have kf4 := kf.below hb6 (by simp)
    have hb4 := bt hb3 hb6
    have own6 := own5.below hb6 (Nat.le_refl _)
    clear c0 c1 c2 c3
    have c0 := (kr4).cell 0
    have c1 := (kr4).cell 1
    have c2 := (kr4).cell 2
    have c3 := (kr4).cell 3
    simp only [List.getElem?_toArray, List.getElem?_cons_zero, List.getElem?_cons_succ] at c0 c1 c2 c3
    have f0 := (kr4).frozen 0
    have f1 := (kr4).frozen 1
    have f2 := (kr4).frozen 2
    have f3 := (kr4).frozen 3
    have st0 := kr4.set_ 0 (.int .u32 0)
    have ste0 := st0.cell 0
    have sth0 := hb4.setCell (p := ⟨w.heap.size, 0, none⟩) (by first | (show _ ≤ _; omega) | simp) (.int .u32 0)
    have st1 := st0.set_ 1 (.int .i64 0)
    have ste1 := st1.cell 1
    have sth1 := sth0.setCell (p := ⟨w.heap.size, 1, none⟩) (by first | (show _ ≤ _; omega) | simp) (.int .i64 0)
    have st2 := st1.set_ 2 (.int .i64 0)
    have ste2 := st2.cell 2
    have sth2 := sth1.setCell (p := ⟨w.heap.size, 2, none⟩) (by first | (show _ ≤ _; omega) | simp) (.int .i64 0)
    have st3 := st2.set_ 3 (.slice none 0 0)
    have ste3 := st3.cell 3
    have sth3 := sth2.setCell (p := ⟨w.heap.size, 3, none⟩) (by first | (show _ ≤ _; omega) | simp) (.slice none 0 0)
    simp at ste0 ste1 ste2 ste3
    clear st0 st1 st2 st3
    clear kr3 kr4 kf kf4 hb3 hb6 hbu
    go_wp2
    refine bodyPost_ret (by simp [results, Try.results14, go_sem, ste0, ste1, ste2, ste3]; try rfl) rfl ?_
    exact ⟨none, 0, 0, rfl, Lib.hid rfl, Own.nil, sth3⟩

set_option maxHeartbeats 2000000 in
theorem fread_6 (B o c n K M : Nat) (b : List UInt8) (w : World) (hn : Hid (n = b.length)) (hc : Hid (n ≤ c)) (hcm : Hid (c ≤ 9223372036854775807)) (h14 : Hid (14 ≤ n)) (hs : Bs w w.heap.size (some ⟨B, o, none⟩) b) (hK : Hid (num ((b.drop 8).take 2) = K)) (hM : Hid (M = 10 + K)) (hM4 : Hid (n = M + 4)) (Z1 Z2 : Nat) (hZ1 : Hid (num (b.drop M) = Z1)) (hZ2 : Hid (sumR (b.take M) = Z2)) (hbb : ((Z1 : Int) != (Z2 : Int)) = false) (S Q Z : Nat) (D : List UInt8) (hS : Hid (num ((b.take M).take 4) = S)) (hQ : Hid (num (((b.take M).drop 4).take 2) = Q)) (hZ : Hid (num (((b.take M).drop 6).take 2) = Z)) (hD : Hid ((b.take M).drop 10 = D)) (hmy : Hid (mayF S Q Z K = true)) : Calls Try.prog 14 #[.slice (some ⟨B, o, none⟩) n c] w (RdO w S Q Z D 0) := by
  have hKb : Hid (K < 65536) := Lib.hid (by
    have := num_lt ((b.drop 8).take 2)
    have := h14.out
    have := hn.out
    rw [List.length_take, List.length_drop, Nat.min_eq_left (by omega)] at *
    rw [← hK.out]; simpa using ‹num _ < _›)
  have q8 : ∀ (u : World), Below w.heap.size w u → Calls Try.prog 23 #[.slice (some ⟨B, o + 8, none⟩) 2 (c - 8)] u fun e w' => e = .returned (.int .u64 K) ∧ u = w' := by
    intro u hu
    have h8 := hs.part 8 2 (by have := h14.out; have := hn.out; omega)
    have := fnumber_n (some ⟨B, o + 8, none⟩) ((b.drop 8).take 2) 2 (c - 8) u (Lib.hid (by have := h14.out; have := hn.out; rw [List.length_take, List.length_drop]; omega)) (Lib.hid (by have := h14.out; have := hn.out; rw [List.length_take, List.length_drop]; omega)) ((h8.below hu).more hu.size)
    rw [hK.out] at this
    exact this
  have i14 : decide ((n : Int) < 14) = false := decide_eq_false (by have := h14.out; omega)
  have i8 : (8 : Int) ≤ (c : Int) := by have := h14.out; have := hc.out; omega
  have i10 : (10 : Int) ≤ (c : Int) := by have := h14.out; have := hc.out; omega
  have n8 : ¬ (c = 8) := by omega
  have e1 : IntKind.i64.wrap (K : Int) = (K : Int) := IntWalk.i64_in _ (by have := hKb.out; omega)
  have e2 : IntKind.i64.wrap (10 + (K : Int)) = (M : Int) := by rw [IntWalk.i64_in _ (by have := hKb.out; omega), hM.out]; omega
  have e3 : IntKind.i64.wrap ((M : Int) + 4) = (n : Int) := by rw [IntWalk.i64_in _ (by have := hKb.out; have := hM.out; omega), hM4.out]; omega
  have kr := Blk.new w 25 #[.int .u32 0, .int .i64 0, .int .i64 0, .slice none 0 0]
  have hbw := ba w (.cells #[.int .u32 0, .int .i64 0, .int .i64 0, .slice none 0 0] 25)
  have hMn : Hid (M ≤ b.length) := Lib.hid (by have := hM4.out; have := hn.out; omega)
  have hMb : Hid (M ≤ 70000) := Lib.hid (by have := hKb.out; have := hM.out; omega)
  have qz : ∀ (u : World), Below w.heap.size w u → Calls Try.prog 23 #[.slice (some ⟨B, o + M, none⟩) 4 (c - M)] u fun e w' => e = .returned (.int .u64 Z1) ∧ u = w' := by
    intro u hu
    have h8 := hs.part M 4 (by have := hM4.out; have := hn.out; omega)
    rw [List.take_of_length_le (by rw [List.length_drop]; have := hM4.out; have := hn.out; omega)] at h8
    have := fnumber_n (some ⟨B, o + M, none⟩) (b.drop M) 4 (c - M) u (Lib.hid (by have := hM4.out; have := hn.out; rw [List.length_drop]; omega)) (Lib.hid (by have := hM4.out; have := hn.out; rw [List.length_drop]; omega)) ((h8.below hu).more hu.size)
    rw [hZ1.out] at this
    exact this
  have hbf : Bs w w.heap.size (some ⟨B, o, none⟩) (b.take M) := by
    have := hs.part 0 M (by have := h14.out; have := hn.out; omega)
    rwa [List.drop_zero, Nat.add_zero] at this
  have hfl : Hid (M = (b.take M).length) := Lib.hid (by rw [List.length_take]; have := hMn.out; omega)
  have qs : ∀ (u : World), Below w.heap.size w u → Calls Try.prog 18 #[.slice (some ⟨B, o, none⟩) M c] u fun e w' => e = .returned (.int .u32 Z2) ∧ u = w' := by
    intro u hu
    have := sum_n (some ⟨B, o, none⟩) (b.take M) c M hfl u (by rw [← hfl.out]; have := hMb.out; omega) ((hbf.below hu).more hu.size)
    rw [hZ2.out] at this
    exact this
  have hz2 : Z2 < 4294967296 := by rw [← hZ2.out]; exact sumR_lt _
  have e5 : IntKind.u64.wrap (Z2 : Int) = (Z2 : Int) := IntWalk.u64_in _ (by omega)
  have i1 : (M : Int) ≤ (n : Int) := by have := hM4.out; omega
  have i2 : (M : Int) ≤ (c : Int) := by have := hM4.out; have := hc.out; omega
  have n2 : ¬ (c = M) := by have := hM4.out; have := hc.out; omega
  have n0 : ¬ (c = 0) := by have := h14.out; have := hc.out; omega
  have nm0 : ¬ (M = 0) := by have := hM.out; omega
  have eN : n - M = 4 := by have := hM4.out; omega
  have hN : Hid (K = D.length) := Lib.hid (by rw [← hD.out, List.length_drop, ← hfl.out, hM.out]; omega)
  have qd := fun (u : World) (hu : Below w.heap.size w u) => said_any B o M K S Q Z (b.take M) D u hfl hN hM hMb hS hQ hZ hD ((hbf.below hu).more hu.size)
  have hm := fun A c w => mayBe_any S Q Z A K c w
  rw [hmy.out] at hm
  have Qd := Lib.hid qd
  have Hm := Lib.hid hm
  clear qd hm
  have Qz := Lib.hid qz
  have Qs := Lib.hid qs
  clear qz qs hbf hz2 hs
  go_enter Try.func14, Try.ntmps14
  go_wp2_with fail
  refine (q8 _ hbw).mono ?_
  rintro e w1 ⟨rfl, rfl⟩
  clear q8
  go_wp2_with fail
  generalize (w.alloc (.cells #[.int .u32 0, .int .i64 0, .int .i64 0, .slice none 0 0] 25)) = w1 at hbw kr ⊢
  refine wp_region_invT (F := ?FR) (V := VFr B o n c M Z1 Z2 false) (dead := fun _ => none) (T := fun _ _ => True) (C := fun u' => Below w1.heap.size w1 u') (E := fun _ u u' => u' = u) (by kernel_rfl) (by kernel_rfl) (by kernel_rfl) (fun x => ?hFR) ?hmonoR ?hTmR ?hTR ?hCR ?stepR ?finR
  case hFR => simp only [mkA, Act.put, List.setIfInBounds_toArray, List.set_cons_succ, List.set_cons_zero, Nat.reduceAdd, Nat.zero_add]; first | with_reducible rfl | rfl
  case hmonoR => exact fun k i v u u' he hik hwt hdd hv => VFr.mono hv
  case hTmR => exact fun _ _ _ _ _ _ _ _ => trivial
  case hTR => exact fun j => trivial
  case hCR => exact below_drew _
  case stepR =>
    refine AllOps.cons (fun x u hC hT hp K hK => ?_) ?_
    · clear hp hT
      go_simp
      refine hK _ _ _ hC (by rfl) (by exact rfl) ?_
      first | (simp only [Act.put, List.setIfInBounds_toArray, List.set_cons_succ, List.set_cons_zero]; done) | simp [Act.put]
    refine AllOps.cons (fun x u hC hT hp K hK => ?_) ?_
    · clear hp hT
      go_simp
      refine hK _ _ _ hC (by rfl) (by exact rfl) ?_
      first | (simp only [Act.put, List.setIfInBounds_toArray, List.set_cons_succ, List.set_cons_zero]; done) | simp [Act.put]
    refine AllOps.cons (fun x u hC hT hp K hK => ?_) ?_
    · simp [KnownTill, Region.binds, VFr] at hp
      clear hT
      go_simp
      refine hK _ _ _ hC (by rfl) (by exact rfl) ?_
      first | (simp only [Act.put, List.setIfInBounds_toArray, List.set_cons_succ, List.set_cons_zero, hp]; done) | simp [Act.put, hp]
    refine AllOps.cons (fun x u hC hT hp K hK => ?_) ?_
    · simp [KnownTill, Region.binds, VFr] at hp
      clear hT
      go_simp
      refine (Qz.out u (bt hbw hC)).mono ?_
      rintro e wA ⟨rfl, rfl⟩
      refine hK _ _ _ hC (by rfl) (by exact rfl) ?_
      first | (simp only [Act.put, List.setIfInBounds_toArray, List.set_cons_succ, List.set_cons_zero, hp]; done) | simp [Act.put, hp]
    refine AllOps.cons (fun x u hC hT hp K hK => ?_) ?_
    · clear hp hT
      go_simp
      refine hK _ _ _ hC (by rfl) (by exact rfl) ?_
      first | (simp only [Act.put, List.setIfInBounds_toArray, List.set_cons_succ, List.set_cons_zero]; done) | simp [Act.put]
    refine AllOps.cons (fun x u hC hT hp K hK => ?_) ?_
    · clear hp hT
      go_simp
      refine hK _ _ _ hC (by rfl) (by exact rfl) ?_
      first | (simp only [Act.put, List.setIfInBounds_toArray, List.set_cons_succ, List.set_cons_zero]; done) | simp [Act.put]
    refine AllOps.cons (fun x u hC hT hp K hK => ?_) ?_
    · simp [KnownTill, Region.binds, VFr] at hp
      clear hT
      go_simp
      refine hK _ _ _ hC (by rfl) (by exact rfl) ?_
      first | (simp only [Act.put, List.setIfInBounds_toArray, List.set_cons_succ, List.set_cons_zero, hp]; done) | simp [Act.put, hp]
    refine AllOps.cons (fun x u hC hT hp K hK => ?_) ?_
    · simp [KnownTill, Region.binds, VFr] at hp
      clear hT
      go_simp
      refine (Qs.out u (bt hbw hC)).mono ?_
      rintro e wA ⟨rfl, rfl⟩
      refine hK _ _ _ hC (by rfl) (by exact rfl) ?_
      first | (simp only [Act.put, List.setIfInBounds_toArray, List.set_cons_succ, List.set_cons_zero, hp]; done) | simp [Act.put, hp]
    refine AllOps.cons (fun x u hC hT hp K hK => ?_) ?_
    · simp [KnownTill, Region.binds, VFr] at hp
      clear hT
      go_simp
      refine hK _ _ _ hC (by rfl) (by exact rfl) ?_
      first | (simp only [Act.put, List.setIfInBounds_toArray, List.set_cons_succ, List.set_cons_zero, hp]; done) | simp [Act.put, hp]
    refine AllOps.cons (fun x u hC hT hp K hK => ?_) ?_
    · simp [KnownTill, Region.binds, VFr] at hp
      clear hT
      go_simp
      refine hK _ _ _ hC (by rfl) (by exact rfl) ?_
      first | (simp only [Act.put, List.setIfInBounds_toArray, List.set_cons_succ, List.set_cons_zero, hp]; done) | simp [Act.put, hp]
    refine AllOps.cons (fun x u hC hT hp K hK => ?_) ?_
    · simp [KnownTill, Region.binds, VFr] at hp
      clear hT
      go_simp
      refine hK _ _ _ hC (by rfl) (by exact rfl) ?_
      first | (simp only [Act.put, List.setIfInBounds_toArray, List.set_cons_succ, List.set_cons_zero, hp]; done) | simp [Act.put, hp]
    exact AllOps.nil
  case finR =>
    intro x u hC hV
    have hz : x 10 = .bool false := hV 10 (by decide) rfl
    rw [hz]
    clear hV hz
    have kr2 := kr.below hC kr.lt
    have hbu := bt hbw hC
    clear kr hC hbb
    go_wp2_with fail
    refine (Qd.out _ hbu).mono ?_
    rintro e w2 ⟨A4, c4, rfl, own4, hb4⟩
    have kr3 := (kr2.below hb4 kr2.lt).alloc (.cells #[.int .u32 S, .int .i64 Q, .int .i64 Z, .slice A4 K c4] 25)
    have kf := Blk.new w2 25 #[.int .u32 S, .int .i64 Q, .int .i64 Z, .slice A4 K c4]
    have hb3 := bt (bt hbu hb4) (ba w2 (.cells #[.int .u32 S, .int .i64 Q, .int .i64 Z, .slice A4 K c4] 25))
    have own5 := (own4.alloc (.cells #[.int .u32 S, .int .i64 Q, .int .i64 Z, .slice A4 K c4] 25)).base_le hbu.size
    have c0 := (kf).cell 0
    have c1 := (kf).cell 1
    have c2 := (kf).cell 2
    have c3 := (kf).cell 3
    simp only [List.getElem?_toArray, List.getElem?_cons_zero, List.getElem?_cons_succ] at c0 c1 c2 c3
    clear kr2 hb4 own4
    go_wp2_with fail
    refine (Hm.out A4 c4 _).mono ?_
    rintro e w3 ⟨rfl, hb6⟩
    have kr4 := kr3.below hb6 kr3.lt
    have kf4 := kf.below hb6 (by simp)
    have hb4 := bt hb3 hb6
    have own6 := own5.below hb6 (Nat.le_refl _)
    clear c0 c1 c2 c3
    have y0 := (kf4).cell 0
    have y1 := (kf4).cell 1
    have y2 := (kf4).cell 2
    have y3 := (kf4).cell 3
    simp only [List.getElem?_toArray, List.getElem?_cons_zero, List.getElem?_cons_succ] at y0 y1 y2 y3
    have c0 := (kr4).cell 0
    have c1 := (kr4).cell 1
    have c2 := (kr4).cell 2
    have c3 := (kr4).cell 3
    simp only [List.getElem?_toArray, List.getElem?_cons_zero, List.getElem?_cons_succ] at c0 c1 c2 c3
    have f0 := (kr4).frozen 0
    have f1 := (kr4).frozen 1
    have f2 := (kr4).frozen 2
    have f3 := (kr4).frozen 3
    have st0 := kr4.set_ 0 (.int .u32 S)
    have ste0 := st0.cell 0
    have sth0 := hb4.setCell (p := ⟨w.heap.size, 0, none⟩) (by first | (show _ ≤ _; omega) | simp) (.int .u32 S)
    have st1 := st0.set_ 1 (.int .i64 Q)
    have ste1 := st1.cell 1
    have sth1 := sth0.setCell (p := ⟨w.heap.size, 1, none⟩) (by first | (show _ ≤ _; omega) | simp) (.int .i64 Q)
    have st2 := st1.set_ 2 (.int .i64 Z)
    have ste2 := st2.cell 2
    have sth2 := sth1.setCell (p := ⟨w.heap.size, 2, none⟩) (by first | (show _ ≤ _; omega) | simp) (.int .i64 Z)
    have st3 := st2.set_ 3 (.slice A4 K c4)
    have ste3 := st3.cell 3
    have sth3 := sth2.setCell (p := ⟨w.heap.size, 3, none⟩) (by first | (show _ ≤ _; omega) | simp) (.slice A4 K c4)
    simp at ste0 ste1 ste2 ste3
    clear st0 st1 st2 st3
    have own7 := own6.set4 ⟨_, _, _, _, kr4⟩ (.int .u32 S) (.int .i64 Q) (.int .i64 Z) (.slice A4 K c4)
    clear kr3 kr4 kf kf4 hb3 hb6 hbu
    go_wp2
    refine bodyPost_ret (by simp [results, Try.results14, go_sem, ste0, ste1, ste2, ste3]; try rfl) rfl ?_
    exact ⟨A4, c4, K, rfl, hN, own7, sth3⟩

end Go.Proofs.Ythmhkicgghobmaa
