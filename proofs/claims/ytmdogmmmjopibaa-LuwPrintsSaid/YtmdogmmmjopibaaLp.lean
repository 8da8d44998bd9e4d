/- A name's text: the document's Digits and Print. -/
import Derived.Test.YtmdogmmmjopibaaLo
import Derived.Laws.Concat
namespace Go.Proofs.Ytmdogmmmjopibaa
open Go.RowKit
set_option linter.unusedVariables false
set_option linter.unusedSimpArgs false

def strB (l : List UInt8) : ByteArray := ⟨l.toArray⟩
theorem strB_app (l m : List UInt8) : strB l ++ strB m = strB (l ++ m) := by
  apply WideShapes.bytes_inj
  simp [strB, ByteArray.data_append]
theorem strB_size (l : List UInt8) : (strB l).size = l.length := by simp [strB, ByteArray.size]
theorem add_strB (l m : List UInt8) (h : l.length + m.length ≤ 1000000) (w : World) : (Op.stringOp .add (strB l) (strB m)).run Try.prog w = .ok (.string (strB (l ++ m))) w := by
  rw [← strB_app]
  exact run_string_add_sum w _ _ (by rw [strB_size, strB_size]; omega)
theorem conv_one (x : UInt8) (n : Int) (h : n = (x.toNat : Int)) (w : World) : (convert 25 9 (.slice (some ⟨w.heap.size, 0, none⟩) 1 1)).run Try.prog (w.alloc (.cells #[.int .u8 n] 5)) = .ok (.string (strB [x])) (w.alloc (.cells #[.int .u8 n] 5)) :=
  conv_bytes (l := [x]) Try.underlying25 Try.underlying5 Try.underlying9 ((raw_new w x n h).bs (by omega : w.heap.size < w.heap.size + 1)) 1
def DigS (w : World) (n : Nat) (e : Ending) (w' : World) : Prop := e = .returned (.string (strB (dig n))) ∧ Below w.heap.size w w'
theorem dig_len20 (n : Nat) (h : n < 18446744073709551616) : (dig n).length ≤ 20 := dig_len 20 n (by omega) (by
  have : (10 : Nat) ^ 20 = 100000000000000000000 := by decide
  omega)
def VDg (s n d m : Nat) (x : UInt8) (D0 D : List UInt8) (i : Nat) (v : Value) (w : World) : Prop :=
  match i with
  | 0 => v = .int .u64 n
  | 1 => v = .int .u64 d
  | 2 => v = .string (strB D0)
  | 3 => v = .int .u64 n
  | 4 => v = .int .u64 m
  | 5 => v = .int .u64 ((48 : Int) + m)
  | 6 => v = .int .u8 ((48 : Int) + m)
  | 7 => IsRaw w s v [x] 1
  | 8 => v = .string (strB [x])
  | 9 => v = .string (strB D)
  | 10 => v = .string (strB D)
  | _ => True
theorem VDg.mono {s n d m i : Nat} {x : UInt8} {D0 D : List UInt8} {v : Value} {u u' : World} (he : Below u.heap.size u u') (hv : VDg s n d m x D0 D i v u) : VDg s n d m x D0 D i v u' := by
  unfold VDg at hv ⊢
  split at hv <;> first | exact hv | exact IsRaw.bt hv he

set_option maxHeartbeats 1000000 in
theorem digits_ref (n : Nat) : ∀ (w : World), n < 18446744073709551616 → Calls Try.prog 31 #[.int .u64 n] w (DigS w n) := by
  induction n using Nat.strongRecOn with
  | _ n ih =>
    intro w hn
    unfold DigS
    by_cases h10 : n < 10
    · obtain ⟨xB, hx⟩ : ∃ xB, xB = UInt8.ofNat (48 + n) := ⟨_, rfl⟩
      have hcv := conv_one xB ((48 : Int) + n) (by rw [hx, toNat48 n h10]; omega) w
      rw [dig_lt n h10, ← hx]
      clear ih hx
      go_enter Try.func31, Try.ntmps31
      go_wp2
      go_ret
      exact ⟨rfl, ba _ _⟩
    · obtain ⟨d, hd⟩ : ∃ d, d = n / 10 := ⟨_, rfl⟩
      obtain ⟨m, hm⟩ : ∃ m, m = n % 10 := ⟨_, rfl⟩
      obtain ⟨xB, hx⟩ : ∃ xB, xB = UInt8.ofNat (48 + m) := ⟨_, rfl⟩
      obtain ⟨D, hD⟩ : ∃ D, D = dig n := ⟨_, rfl⟩
      obtain ⟨D0, hD0⟩ : ∃ D, D = dig d := ⟨_, rfl⟩
      have hm10 : m < 10 := by omega
      have hrec := fun w => ih d (by omega) w (by omega)
      unfold DigS at hrec
      rw [← hD0] at hrec
      have hDD : D = D0 ++ [xB] := by rw [hD, hD0, hx, hm, hd]; exact dig_ge n (by omega)
      have hl : D0.length ≤ 20 := by rw [hD0]; exact dig_len20 d (by omega)
      have hadd := fun w => add_strB D0 [xB] (by simp; omega) w
      rw [← hDD] at hadd
      rw [← hD]
      have hxn : (48 : Int) + (m : Int) = (xB.toNat : Int) := by rw [hx, toNat48 m hm10]; omega
      have Hx := Lib.hid hxn
      have e1 : (n : Int).tdiv 10 = (d : Int) := by rw [Int.tdiv_eq_ediv_of_nonneg (by omega)]; omega
      have e2 : (n : Int).tmod 10 = (m : Int) := by rw [Int.tmod_eq_emod_of_nonneg (by omega)]; omega
      have e3 : (n : Int) / 10 = (d : Int) := by omega
      have e4 : (n : Int) % 10 = (m : Int) := by omega
      have ew : IntKind.u64.wrap ((48 : Int) + (m : Int)) = (48 : Int) + (m : Int) := IntWalk.u64_in _ (by omega)
      have ew2 : IntKind.u8.wrap ((48 : Int) + (m : Int)) = (48 : Int) + (m : Int) := IntWalk.u8_in _ (by omega)
      have ew5 : IntKind.u64.wrap (d : Int) = (d : Int) := IntWalk.u64_in _ (by omega)
      have ew6 : IntKind.u64.wrap (m : Int) = (m : Int) := IntWalk.u64_in _ (by omega)
      clear ih hd hm hx hD hD0 hDD hxn
      go_enter Try.func31, Try.ntmps31
      go_wp2_with fail
      refine wp_region_invT (F := ?FD) (V := VDg w.heap.size n d m xB D0 D) (dead := fun _ => none) (T := fun _ _ => True) (C := fun u => Below w.heap.size w u) (E := fun _ u u' => Below u.heap.size u u') (by kernel_rfl) (by kernel_rfl) (by kernel_rfl) (fun x => ?hFD) ?hmonoD ?hTmD ?hTD ?hCD ?stepD ?finD
      case hFD => simp only [mkA, Act.put, List.setIfInBounds_toArray, List.set_cons_succ, List.set_cons_zero, Nat.reduceAdd, Nat.zero_add]; first | with_reducible rfl | rfl
      case hmonoD => exact fun k i v u u' he hik hwt hdd hv => VDg.mono he hv
      case hTmD => exact fun _ _ _ _ _ _ _ _ => trivial
      case hTD => exact fun j => trivial
      case hCD => exact below_drew _
      case stepD =>
        refine AllOps.cons (fun x u hC hT hp K hK => ?_) ?_
        · clear hp hT
          go_simp
          refine hK _ _ _ hC (Below.refl _ _) (by exact rfl) ?_
          first | (simp only [Act.put, List.setIfInBounds_toArray, List.set_cons_succ, List.set_cons_zero]; done) | simp [Act.put]
        refine AllOps.cons (fun x u hC hT hp K hK => ?_) ?_
        · simp [KnownTill, Region.binds, VDg] at hp
          clear hT
          go_simp
          refine hK _ _ _ hC (Below.refl _ _) (by exact rfl) ?_
          first | (simp only [Act.put, List.setIfInBounds_toArray, List.set_cons_succ, List.set_cons_zero, hp]; done) | simp [Act.put, hp]
        refine AllOps.cons (fun x u hC hT hp K hK => ?_) ?_
        · simp [KnownTill, Region.binds, VDg] at hp
          clear hT
          go_simp
          refine (hrec _).mono ?_
          rintro e wA ⟨rfl, hbA⟩
          refine hK _ _ _ (bt hC hbA) hbA (by exact rfl) ?_
          first | (simp only [Act.put, List.setIfInBounds_toArray, List.set_cons_succ, List.set_cons_zero, hp]; done) | simp [Act.put, hp]
        refine AllOps.cons (fun x u hC hT hp K hK => ?_) ?_
        · clear hp hT
          go_simp
          refine hK _ _ _ hC (Below.refl _ _) (by exact rfl) ?_
          first | (simp only [Act.put, List.setIfInBounds_toArray, List.set_cons_succ, List.set_cons_zero]; done) | simp [Act.put]
        refine AllOps.cons (fun x u hC hT hp K hK => ?_) ?_
        · simp [KnownTill, Region.binds, VDg] at hp
          clear hT
          go_simp
          refine hK _ _ _ hC (Below.refl _ _) (by exact rfl) ?_
          first | (simp only [Act.put, List.setIfInBounds_toArray, List.set_cons_succ, List.set_cons_zero, hp]; done) | simp [Act.put, hp]
        refine AllOps.cons (fun x u hC hT hp K hK => ?_) ?_
        · simp [KnownTill, Region.binds, VDg] at hp
          clear hT
          go_simp
          refine hK _ _ _ hC (Below.refl _ _) (by exact rfl) ?_
          first | (simp only [Act.put, List.setIfInBounds_toArray, List.set_cons_succ, List.set_cons_zero, hp]; done) | simp [Act.put, hp]
        refine AllOps.cons (fun x u hC hT hp K hK => ?_) ?_
        · simp [KnownTill, Region.binds, VDg] at hp
          clear hT
          go_simp
          refine hK _ _ _ hC (Below.refl _ _) (by exact rfl) ?_
          first | (simp only [Act.put, List.setIfInBounds_toArray, List.set_cons_succ, List.set_cons_zero, hp]; done) | simp [Act.put, hp]
        refine AllOps.cons (fun x u hC hT hp K hK => ?_) ?_
        · simp [KnownTill, Region.binds, VDg] at hp
          clear hT
          go_simp
          refine hK (.slice (some ⟨u.heap.size, 0, none⟩) 1 1) _ (u.alloc (.cells #[.int .u8 ((48 : Int) + m)] 5)) (bt hC (ba _ _)) (ba _ _) ⟨_, rfl, hC.size, raw_new _ _ _ Hx.out⟩ ?_
          first | (simp only [Act.put, List.setIfInBounds_toArray, List.set_cons_succ, List.set_cons_zero, hp]; done) | simp [Act.put, hp]
        refine AllOps.cons (fun x u hC hT hp K hK => ?_) ?_
        · simp [KnownTill, Region.binds, VDg] at hp
          clear hT
          have hp0 := hp
          obtain ⟨g, h7, hg, hr⟩ := hp0
          have cv : (convert 25 9 (.slice (some ⟨g, 0, none⟩) 1 1)).run Try.prog u = .ok (.string (strB [xB])) u := conv_bytes (l := [xB]) Try.underlying25 Try.underlying5 Try.underlying9 (hr.bs hr.lt) 1
          go_simp
          refine hK _ _ _ hC (Below.refl _ _) (by exact rfl) ?_
          first | (simp only [Act.put, List.setIfInBounds_toArray, List.set_cons_succ, List.set_cons_zero, hp, h7]; done) | simp [Act.put, hp, h7]
        refine AllOps.cons (fun x u hC hT hp K hK => ?_) ?_
        · simp [KnownTill, Region.binds, VDg] at hp
          clear hT
          go_simp
          refine hK _ _ _ hC (Below.refl _ _) (by exact rfl) ?_
          first | (simp only [Act.put, List.setIfInBounds_toArray, List.set_cons_succ, List.set_cons_zero, hp]; done) | simp [Act.put, hp]
        refine AllOps.cons (fun x u hC hT hp K hK => ?_) ?_
        · simp [KnownTill, Region.binds, VDg] at hp
          clear hT
          go_simp
          refine hK _ _ _ hC (Below.refl _ _) (by exact rfl) ?_
          first | (simp only [Act.put, List.setIfInBounds_toArray, List.set_cons_succ, List.set_cons_zero, hp]; done) | simp [Act.put, hp]
        exact AllOps.nil
      case finD =>
        intro x u hC hV
        have hz : x 10 = .string (strB D) := hV 10 (by decide) rfl
        rw [hz]
        clear hV hz
        go_wp2
        go_ret
        exact ⟨rfl, hC⟩
def VPr (s m a q : Nat) (x : UInt8) (Da Dq X1 X2 X3 : List UInt8) (i : Nat) (v : Value) (w : World) : Prop :=
  match i with
  | 0 => v = .pointer (some ⟨s, 0, none⟩)
  | 1 => v = .int .i64 m
  | 2 => v = .int .i64 ((97 : Int) + m)
  | 3 => v = .int .u8 ((97 : Int) + m)
  | 4 => IsRaw w s v [x] 1
  | 5 => v = .string (strB [x])
  | 6 => v = .pointer (some ⟨s, 1, none⟩)
  | 7 => v = .int .u32 a
  | 8 => v = .int .u64 a
  | 9 => v = .string (strB Da)
  | 10 => v = .string (strB X1)
  | 11 => v = .string (strB X2)
  | 12 => v = .pointer (some ⟨s, 2, none⟩)
  | 13 => v = .int .u32 q
  | 14 => v = .int .u64 q
  | 15 => v = .string (strB Dq)
  | 16 => v = .string (strB X3)
  | 17 => v = .string (strB X3)
  | _ => True
theorem VPr.mono {s m a q i : Nat} {x : UInt8} {Da Dq X1 X2 X3 : List UInt8} {v : Value} {u u' : World} (he : Below u.heap.size u u') (hv : VPr s m a q x Da Dq X1 X2 X3 i v u) : VPr s m a q x Da Dq X1 X2 X3 i v u' := by
  unfold VPr at hv ⊢
  split at hv <;> first | exact hv | exact IsRaw.bt hv he

set_option maxHeartbeats 1000000 in
theorem refprint_any (u : Int) (a q : Nat) (w : World) (ha : a < 4294967296) (hq : q < 4294967296) :
    Calls Try.prog 19 #[lv u a q] w fun e w' => e = .returned (.string (strB (printL u a q))) ∧ Below w.heap.size w w' := by
  have hr := fun w => refright_any u a q w
  unfold lv at hr ⊢
  rcases hk : okL u q with _ | _
  · rw [hk] at hr
    rw [show printL u a q = [] by unfold printL; rw [hk]; rfl]
    clear hk
    go_enter Try.func19, Try.ntmps19
    go_wp2_with fail
    refine (hr _).mono ?_
    rintro e w1 ⟨rfl, hb1⟩
    go_wp2
    go_ret
    exact ⟨rfl, bt (ba _ _) hb1⟩
  · rw [hk] at hr
    rw [show printL u a q = prL u a q by unfold printL; rw [if_pos hk]]
    obtain ⟨hu1, hu2, hq0⟩ := (okL_iff u q).1 hk
    obtain ⟨m, rfl⟩ := Int.eq_ofNat_of_zero_le hu1
    have hm6 : m < 6 := by omega
    clear hk hu1 hu2
    obtain ⟨xB, hx⟩ : ∃ xB, xB = UInt8.ofNat (97 + (m : Int)).toNat := ⟨_, rfl⟩
    have hxn : (97 : Int) + (m : Int) = (xB.toNat : Int) := by rw [hx]; exact prL_byte m hm6
    have hpr : prL (m : Int) a q = [xB] ++ dig a ++ [46] ++ dig q := by unfold prL; rw [hx]; simp
    have la := dig_len10 a ha
    have lq := dig_len10 q hq
    have hda := fun w => digits_ref a w (by omega)
    have hdq := fun w => digits_ref q w (by omega)
    unfold DigS at hda hdq
    rw [hpr]
    generalize dig a = Da at *
    generalize dig q = Dq at *
    have ad1 := fun w => add_strB [xB] Da (by simp; omega) w
    have ad2 : ∀ w, (Op.stringOp .add (strB ([xB] ++ Da)) ⟨#[46]⟩).run Try.prog w = .ok (.string (strB ([xB] ++ Da ++ [46]))) w := fun w => add_strB ([xB] ++ Da) [46] (by simp; omega) w
    have ad3 := fun w => add_strB ([xB] ++ Da ++ [46]) Dq (by simp; omega) w
    have ew : IntKind.i64.wrap ((97 : Int) + (m : Int)) = (97 : Int) + (m : Int) := IntWalk.i64_in _ (by omega)
    have ew2 : IntKind.u8.wrap ((97 : Int) + (m : Int)) = (97 : Int) + (m : Int) := IntWalk.u8_in _ (by omega)
    have ew3 : IntKind.u64.wrap (a : Int) = (a : Int) := IntWalk.u64_in _ (by omega)
    have ew4 : IntKind.u64.wrap (q : Int) = (q : Int) := IntWalk.u64_in _ (by omega)
    have Hx := Lib.hid hxn
    generalize hX1 : [xB] ++ Da = X1 at *
    generalize hX2 : X1 ++ [46] = X2 at *
    generalize hX3 : X2 ++ Dq = X3 at *
    clear hx hxn hpr hX1 hX2 hX3
    go_enter Try.func19, Try.ntmps19
    go_wp2_with fail
    refine (hr _).mono ?_
    rintro e w1 ⟨rfl, hb1⟩
    have k0 : Blk w1 w.heap.size 24 #[.int .i64 (m : Nat), .int .u32 a, .int .u32 q] := (Blk.new w 24 #[.int .i64 (m : Nat), .int .u32 a, .int .u32 q]).below hb1 (by simp)
    have hbw := bt (ba w _) hb1
    go_wp2_with fail
    refine wp_region_invT (F := ?FP) (V := VPr w.heap.size m a q xB Da Dq X1 X2 X3) (dead := fun _ => none) (T := fun _ _ => True) (C := fun u => Below w1.heap.size w1 u) (E := fun _ u u' => Below u.heap.size u u') (by kernel_rfl) (by kernel_rfl) (by kernel_rfl) (fun x => ?hFP) ?hmonoP ?hTmP ?hTP ?hCP ?stepP ?finP
    case hFP => simp only [mkA, Act.put, List.setIfInBounds_toArray, List.set_cons_succ, List.set_cons_zero, Nat.reduceAdd, Nat.zero_add]; first | with_reducible rfl | rfl
    case hmonoP => exact fun k i v u u' he hik hwt hdd hv => VPr.mono he hv
    case hTmP => exact fun _ _ _ _ _ _ _ _ => trivial
    case hTP => exact fun j => trivial
    case hCP => exact below_drew _
    case stepP =>
      refine AllOps.cons (fun x u hC hT hp K hK => ?_) ?_
      · clear hp hT
        go_simp
        refine hK _ _ _ hC (Below.refl _ _) (by exact rfl) ?_
        first | (simp only [Act.put, List.setIfInBounds_toArray, List.set_cons_succ, List.set_cons_zero]; done) | simp [Act.put]
      refine AllOps.cons (fun x u hC hT hp K hK => ?_) ?_
      · simp [KnownTill, Region.binds, VPr] at hp
        clear hT
        have c0 := (k0.below hC k0.lt).cell 0
        have c1 := (k0.below hC k0.lt).cell 1
        have c2 := (k0.below hC k0.lt).cell 2
        simp only [List.getElem?_toArray, List.getElem?_cons_zero, List.getElem?_cons_succ] at c0 c1 c2
        go_simp
        refine hK _ _ _ hC (Below.refl _ _) (by exact rfl) ?_
        first | (simp only [Act.put, List.setIfInBounds_toArray, List.set_cons_succ, List.set_cons_zero, hp]; done) | simp [Act.put, hp]
      refine AllOps.cons (fun x u hC hT hp K hK => ?_) ?_
      · simp [KnownTill, Region.binds, VPr] at hp
        clear hT
        go_simp
        refine hK _ _ _ hC (Below.refl _ _) (by exact rfl) ?_
        first | (simp only [Act.put, List.setIfInBounds_toArray, List.set_cons_succ, List.set_cons_zero, hp]; done) | simp [Act.put, hp]
      refine AllOps.cons (fun x u hC hT hp K hK => ?_) ?_
      · simp [KnownTill, Region.binds, VPr] at hp
        clear hT
        go_simp
        refine hK _ _ _ hC (Below.refl _ _) (by exact rfl) ?_
        first | (simp only [Act.put, List.setIfInBounds_toArray, List.set_cons_succ, List.set_cons_zero, hp]; done) | simp [Act.put, hp]
      refine AllOps.cons (fun x u hC hT hp K hK => ?_) ?_
      · simp [KnownTill, Region.binds, VPr] at hp
        clear hT
        go_simp
        refine hK (.slice (some ⟨u.heap.size, 0, none⟩) 1 1) _ (u.alloc (.cells #[.int .u8 ((97 : Int) + m)] 5)) (bt hC (ba _ _)) (ba _ _) ⟨_, rfl, Nat.le_trans hbw.size hC.size, raw_new _ _ _ Hx.out⟩ ?_
        first | (simp only [Act.put, List.setIfInBounds_toArray, List.set_cons_succ, List.set_cons_zero, hp]; done) | simp [Act.put, hp]
      refine AllOps.cons (fun x u hC hT hp K hK => ?_) ?_
      · simp [KnownTill, Region.binds, VPr] at hp
        clear hT
        have hp0 := hp
        obtain ⟨g, h7, hg, hr7⟩ := hp0
        have cv : (convert 25 9 (.slice (some ⟨g, 0, none⟩) 1 1)).run Try.prog u = .ok (.string (strB [xB])) u := conv_bytes (l := [xB]) Try.underlying25 Try.underlying5 Try.underlying9 (hr7.bs hr7.lt) 1
        go_simp
        refine hK _ _ _ hC (Below.refl _ _) (by exact rfl) ?_
        first | (simp only [Act.put, List.setIfInBounds_toArray, List.set_cons_succ, List.set_cons_zero, hp, h7]; done) | simp [Act.put, hp, h7]
      refine AllOps.cons (fun x u hC hT hp K hK => ?_) ?_
      · clear hp hT
        go_simp
        refine hK _ _ _ hC (Below.refl _ _) (by exact rfl) ?_
        first | (simp only [Act.put, List.setIfInBounds_toArray, List.set_cons_succ, List.set_cons_zero]; done) | simp [Act.put]
      refine AllOps.cons (fun x u hC hT hp K hK => ?_) ?_
      · simp [KnownTill, Region.binds, VPr] at hp
        clear hT
        have c0 := (k0.below hC k0.lt).cell 0
        have c1 := (k0.below hC k0.lt).cell 1
        have c2 := (k0.below hC k0.lt).cell 2
        simp only [List.getElem?_toArray, List.getElem?_cons_zero, List.getElem?_cons_succ] at c0 c1 c2
        go_simp
        refine hK _ _ _ hC (Below.refl _ _) (by exact rfl) ?_
        first | (simp only [Act.put, List.setIfInBounds_toArray, List.set_cons_succ, List.set_cons_zero, hp]; done) | simp [Act.put, hp]
      refine AllOps.cons (fun x u hC hT hp K hK => ?_) ?_
      · simp [KnownTill, Region.binds, VPr] at hp
        clear hT
        go_simp
        refine hK _ _ _ hC (Below.refl _ _) (by exact rfl) ?_
        first | (simp only [Act.put, List.setIfInBounds_toArray, List.set_cons_succ, List.set_cons_zero, hp]; done) | simp [Act.put, hp]
      refine AllOps.cons (fun x u hC hT hp K hK => ?_) ?_
      · simp [KnownTill, Region.binds, VPr] at hp
        clear hT
        go_simp
        refine (hda _).mono ?_
        rintro e wA ⟨rfl, hbA⟩
        refine hK _ _ _ (bt hC hbA) hbA (by exact rfl) ?_
        first | (simp only [Act.put, List.setIfInBounds_toArray, List.set_cons_succ, List.set_cons_zero, hp]; done) | simp [Act.put, hp]
      refine AllOps.cons (fun x u hC hT hp K hK => ?_) ?_
      · simp [KnownTill, Region.binds, VPr] at hp
        clear hT
        go_simp
        refine hK _ _ _ hC (Below.refl _ _) (by exact rfl) ?_
        first | (simp only [Act.put, List.setIfInBounds_toArray, List.set_cons_succ, List.set_cons_zero, hp]; done) | simp [Act.put, hp]
      refine AllOps.cons (fun x u hC hT hp K hK => ?_) ?_
      · simp [KnownTill, Region.binds, VPr] at hp
        clear hT
        go_simp
        refine hK _ _ _ hC (Below.refl _ _) (by exact rfl) ?_
        first | (simp only [Act.put, List.setIfInBounds_toArray, List.set_cons_succ, List.set_cons_zero, hp]; done) | simp [Act.put, hp]
      refine AllOps.cons (fun x u hC hT hp K hK => ?_) ?_
      · clear hp hT
        go_simp
        refine hK _ _ _ hC (Below.refl _ _) (by exact rfl) ?_
        first | (simp only [Act.put, List.setIfInBounds_toArray, List.set_cons_succ, List.set_cons_zero]; done) | simp [Act.put]
      refine AllOps.cons (fun x u hC hT hp K hK => ?_) ?_
      · simp [KnownTill, Region.binds, VPr] at hp
        clear hT
        have c0 := (k0.below hC k0.lt).cell 0
        have c1 := (k0.below hC k0.lt).cell 1
        have c2 := (k0.below hC k0.lt).cell 2
        simp only [List.getElem?_toArray, List.getElem?_cons_zero, List.getElem?_cons_succ] at c0 c1 c2
        go_simp
        refine hK _ _ _ hC (Below.refl _ _) (by exact rfl) ?_
        first | (simp only [Act.put, List.setIfInBounds_toArray, List.set_cons_succ, List.set_cons_zero, hp]; done) | simp [Act.put, hp]
      refine AllOps.cons (fun x u hC hT hp K hK => ?_) ?_
      · simp [KnownTill, Region.binds, VPr] at hp
        clear hT
        go_simp
        refine hK _ _ _ hC (Below.refl _ _) (by exact rfl) ?_
        first | (simp only [Act.put, List.setIfInBounds_toArray, List.set_cons_succ, List.set_cons_zero, hp]; done) | simp [Act.put, hp]
      refine AllOps.cons (fun x u hC hT hp K hK => ?_) ?_
      · simp [KnownTill, Region.binds, VPr] at hp
        clear hT
        go_simp
        refine (hdq _).mono ?_
        rintro e wA ⟨rfl, hbA⟩
        refine hK _ _ _ (bt hC hbA) hbA (by exact rfl) ?_
        first | (simp only [Act.put, List.setIfInBounds_toArray, List.set_cons_succ, List.set_cons_zero, hp]; done) | simp [Act.put, hp]
      refine AllOps.cons (fun x u hC hT hp K hK => ?_) ?_
      · simp [KnownTill, Region.binds, VPr] at hp
        clear hT
        go_simp
        refine hK _ _ _ hC (Below.refl _ _) (by exact rfl) ?_
        first | (simp only [Act.put, List.setIfInBounds_toArray, List.set_cons_succ, List.set_cons_zero, hp]; done) | simp [Act.put, hp]
      refine AllOps.cons (fun x u hC hT hp K hK => ?_) ?_
      · simp [KnownTill, Region.binds, VPr] at hp
        clear hT
        go_simp
        refine hK _ _ _ hC (Below.refl _ _) (by exact rfl) ?_
        first | (simp only [Act.put, List.setIfInBounds_toArray, List.set_cons_succ, List.set_cons_zero, hp]; done) | simp [Act.put, hp]
      exact AllOps.nil
    case finP =>
      intro x u hC hV
      have hz : x 17 = .string (strB X3) := hV 17 (by decide) rfl
      rw [hz]
      clear hV hz
      go_wp2
      go_ret
      exact ⟨rfl, bt hbw hC⟩
end Go.Proofs.Ytmdogmmmjopibaa
