/- Layer 11: the document's Get. -/
import Derived.Test.YtgbcjimfpoeicaaRn1
namespace Go.Proofs.Ytgbcjimfpoeicaa
open Go.RowKit
set_option linter.unusedVariables false
set_option linter.unusedSimpArgs false

/-- What the document's Get answers, and leaves. -/
def RGetO (w : World) (bx : Nat) (A : Option Addr) (n c At : Nat) (en : Bool) (r : (List UInt8 × Bool × Int) × Nat × List UInt8) (e : Ending) (w' : World) : Prop :=
  ∃ A2 n2 c2, e = .returned (.tuple #[.slice A2 n2 c2, .bool r.1.2.1, .int .i64 r.1.2.2]) ∧ Hid (n2 = r.1.1.length) ∧ Own w' w.heap.size 5 A2 c2 r.1.1 ∧ RefAt w' bx A n c (At + r.1.1.length) (At + r.1.1.length + r.2.1) en ∧ w.grownBy w' (some bx)
theorem RGetO.err {w w' : World} {bx : Nat} {A : Option Addr} {n c At left : Nat} {en : Bool} {L : List UInt8} {r : (List UInt8 × Bool × Int) × Nat × List UInt8} {z : Int} (h : RefAt w' bx A n c At (At + left) en) (hg : w.grownBy w' (some bx)) (hr : r = (([], false, z), left, L)) : RGetO w bx A n c At en r (.returned (.tuple #[.slice none 0 0, .bool false, .int .i64 z])) w' := by
  subst hr
  exact ⟨none, 0, 0, rfl, Lib.hid rfl, Own.nil, h, hg⟩
theorem RefAt.below {w w' : World} {bx : Nat} {A : Option Addr} {n c At To : Nat} {en : Bool} (h : RefAt w bx A n c At To en) (hb : Below w.heap.size w w') : RefAt w' bx A n c At To en := Blk.below h hb (Blk.lt h)
theorem drop_two {l : List UInt8} {n At : Nat} (hl : n = l.length) (h : At + 2 ≤ n) : ∃ (bx y : UInt8) (t : List UInt8), l.drop At = bx :: y :: t ∧ l[At]? = some bx ∧ l[At + 1]? = some y := by
  have h1 : At < l.length := by omega
  have h2 : At + 1 < l.length := by omega
  exact ⟨l[At], l[At + 1], l.drop (At + 1 + 1), by rw [List.drop_eq_getElem_cons h1, List.drop_eq_getElem_cons h2], by simp [h1], by simp [h2]⟩
theorem ncopy (A : Option Addr) (l : List UInt8) (n c : Nat) (w : World) (hn : Hid (n = l.length)) (hm : Hid (l.length ≤ 140737488355328)) (h : Bs w w.heap.size A l) :
    Calls Try.prog 10 #[.slice A n c] w fun e w' => ∃ A2 c2, e = .returned (.slice A2 n c2) ∧ Own w' w.heap.size 5 A2 c2 l ∧ Below w.heap.size w w' := by
  rw [hn.out]; exact copy_any A l c w hm.out h
/-- The cut that is copied. -/
def SlC (b At k : Nat) (v : Value) : Prop := ∃ A2 c2, v = .slice A2 k c2 ∧ (0 < k → A2 = some ⟨b, At, none⟩)
def SlN (w : World) (s k : Nat) (l : List UInt8) (v : Value) : Prop := ∃ A1 c1, v = .slice A1 k c1 ∧ Own w s 5 A1 c1 l
theorem SlN.bt {w w' : World} {s k : Nat} {l : List UInt8} {v : Value} (h : SlN w s k l v) (hb : Below w.heap.size w w') : SlN w' s k l v := by
  obtain ⟨A, c, h1, h2⟩ := h; exact ⟨A, c, h1, h2.below hb (Nat.le_refl _)⟩
def VRg (s bx b n c At k Ak cc : Nat) (l : List UInt8) (i : Nat) (v : Value) (w : World) : Prop :=
  match i with
  | 0 => v = .pointer (some ⟨bx, 0, none⟩)
  | 1 => v = .pointer (some ⟨bx, 0, none⟩)
  | 2 => v = .pointer (some ⟨bx, 0, none⟩)
  | 3 => v = .slice (some ⟨b, 0, none⟩) n c
  | 4 => v = .pointer (some ⟨bx, 0, none⟩)
  | 5 => v = .pointer (some ⟨bx, 0, none⟩)
  | 6 => v = .pointer (some ⟨bx, 1, none⟩)
  | 7 => v = .int .i64 At
  | 8 => v = .pointer (some ⟨bx, 0, none⟩)
  | 9 => v = .pointer (some ⟨bx, 0, none⟩)
  | 10 => v = .pointer (some ⟨bx, 1, none⟩)
  | 11 => v = .int .i64 At
  | 12 => v = .int .i64 k
  | 13 => v = .int .i64 Ak
  | 14 => v = .slice (some ⟨b, At, none⟩) k cc
  | 15 => SlN w s k l v
  | 16 => SlN w s k l v
  | _ => True
theorem VRg.mono {s bx b n c At k Ak cc i : Nat} {l : List UInt8} {v : Value} {u u' : World} (hb : Below u.heap.size u u') (h : VRg s bx b n c At k Ak cc l i v u) : VRg s bx b n c At k Ak cc l i v u' := by
  unfold VRg at h ⊢
  split at h <;> first | with_reducible exact h | exact SlN.bt h hb
set_option maxRecDepth 100000 in
set_option maxHeartbeats 2000000 in
theorem rget_arg {w : World} {bx : Nat} {A : Option Addr} {n c At left : Nat} {en : Bool} {l : List UInt8} (h : RefAt w bx A n c At (At + left) en) (hl : Hid (n = l.length)) (hown : Own w 0 5 A c l) (hA : At ≤ n) (hn : n ≤ 100000000) (m : Int) (hm : m < 1) : Calls Try.prog 14 #[.pointer (some ⟨bx, 0, none⟩), .int .i64 m] w (RGetO w bx A n c At en (getM left (l.drop At) en m)) := by
  have e : getM left (l.drop At) en m = (([], false, 1), left, l.drop At) := if_pos hm
  generalize getM left (l.drop At) en m = r at *
  have E := Lib.hid e
  have H := Lib.hid h
  clear e h
  go_enter Try.func14, Try.ntmps14
  go_wp2
  go_ret3
  exact RGetO.err H.out (grown_refl _ _) E.out
set_option maxRecDepth 100000 in
set_option maxHeartbeats 2000000 in
theorem rget_none {w : World} {bx : Nat} {A : Option Addr} {n c At : Nat} {en : Bool} {l : List UInt8} (h : RefAt w bx A n c At (At + 0) en) (hl : Hid (n = l.length)) (hown : Own w 0 5 A c l) (hA : At ≤ n) (hn : n ≤ 100000000) (m : Int) (hm : 1 ≤ m) (hx : n = At) (hen : en = true) : Calls Try.prog 14 #[.pointer (some ⟨bx, 0, none⟩), .int .i64 m] w (RGetO w bx A n c At en (getM 0 (l.drop At) en m)) := by
  have hd0 : l.drop At = [] := List.drop_of_length_le (by rw [← hl.out]; omega)
  subst hen
  have e : getM 0 (l.drop At) true m = (([], false, 4), 0, l.drop At) := by unfold getM; rw [if_neg (by omega), if_pos rfl, hd0]; rfl
  generalize getM 0 (l.drop At) true m = r at *
  have hm1 : ¬ m < 1 := by omega
  obtain ⟨hd, hhd0⟩ : ∃ hd, hd = n - At := ⟨_, rfl⟩
  obtain rfl : hd = 0 := by omega
  have hh := refheld h hA (by omega) 0 hhd0
  have H := Lib.hid h
  have E := Lib.hid e
  obtain ⟨c0, c1, c2, c3⟩ := h.cells
  rw [Nat.add_zero] at c2
  clear h e hx hm hhd0 hown hd0
  go_enter Try.func14, Try.ntmps14
  go_wp2_with fail
  refine hh.mono ?_
  rintro e w1 ⟨d1, rfl, rfl⟩
  go_wp2
  go_ret3
  exact RGetO.err H.out (grown_of (bl_drewN w d1) _) E.out
set_option maxRecDepth 100000 in
set_option maxHeartbeats 2000000 in
theorem rget_few0 {w : World} {bx : Nat} {A : Option Addr} {n c At : Nat} {en : Bool} {l : List UInt8} (h : RefAt w bx A n c At (At + 0) en) (hl : Hid (n = l.length)) (hown : Own w 0 5 A c l) (hA : At ≤ n) (hn : n ≤ 100000000) (m : Int) (hm : 1 ≤ m) (hx : n < At + 2) (hen : en = false ∨ At < n) : Calls Try.prog 14 #[.pointer (some ⟨bx, 0, none⟩), .int .i64 m] w (RGetO w bx A n c At en (getM 0 (l.drop At) en m)) := by
  have hdl : (l.drop At).length < 2 := by rw [List.length_drop, ← hl.out]; omega
  have e : getM 0 (l.drop At) en m = (([], false, lackE en), 0, l.drop At) := by
    unfold getM lenM
    rw [if_neg (by omega), if_pos rfl]
    have hq : ¬ (en = true ∧ l.drop At = []) := by
      rintro ⟨h1, h2⟩
      rcases hen with h3 | h3
      · rw [h1] at h3; cases h3
      · have := congrArg List.length h2; rw [List.length_drop, ← hl.out] at this; simp at this; omega
    rw [if_neg hq, if_pos hdl, if_neg (by cases en <;> simp [lackE])]
  generalize getM 0 (l.drop At) en m = r at *
  have hm1 : ¬ m < 1 := by omega
  obtain ⟨hd, hhd0⟩ : ∃ hd, hd = n - At := ⟨_, rfl⟩
  have hfw := fun (u : World) (hu : RefAt u bx A n c At (At + 0) en) => reffew hu
  have hh := fun (u : World) (hu : RefAt u bx A n c At (At + 0) en) => refheld hu hA (by omega) hd hhd0
  have H := Lib.hid h
  have E := Lib.hid e
  have HH := Lib.hid hh
  have HF := Lib.hid hfw
  obtain ⟨c0, c1, c2, c3⟩ := h.cells
  rw [Nat.add_zero] at c2
  have k1 : Hid (hd = 0 ∧ en = false ∨ hd = 1) := Lib.hid (by rcases hen with h3 | h3; (by_cases h4 : hd = 0; exact .inl ⟨h4, h3⟩; exact .inr (by omega)); exact .inr (by omega))
  clear h e hx hm hhd0 hown hdl hh hfw hen
  rcases k1.out with ⟨rfl, rfl⟩ | rfl
  · clear k1
    go_enter Try.func14, Try.ntmps14
    go_wp2_with fail
    refine (HH.out _ H.out).mono ?_
    rintro e w1 ⟨d1, rfl, rfl⟩
    go_wp2_with fail
    refine (HH.out (w.drewN d1) H.out).mono ?_
    rintro e w2 ⟨d2, rfl, rfl⟩
    go_wp2_with fail
    refine (HF.out (w.drewN (d1 + d2)) H.out).mono ?_
    rintro e w3 ⟨rfl, rfl⟩
    go_wp2
    go_ret3
    exact RGetO.err H.out (grown_of (bl_drewN w (d1 + d2)) _) E.out
  · clear k1
    go_enter Try.func14, Try.ntmps14
    go_wp2_with fail
    refine (HH.out _ H.out).mono ?_
    rintro e w1 ⟨d1, rfl, rfl⟩
    go_wp2_with fail
    refine (HH.out (w.drewN d1) H.out).mono ?_
    rintro e w2 ⟨d2, rfl, rfl⟩
    go_wp2_with fail
    refine (HF.out (w.drewN (d1 + d2)) H.out).mono ?_
    rintro e w3 ⟨rfl, rfl⟩
    go_wp2
    go_ret3
    exact RGetO.err H.out (grown_of (bl_drewN w (d1 + d2)) _) E.out
set_option maxRecDepth 100000 in
set_option maxHeartbeats 2000000 in
theorem rget_bad {w : World} {bx : Nat} {A : Option Addr} {n c At : Nat} {en : Bool} {l : List UInt8} (h : RefAt w bx A n c At (At + 0) en) (hl : Hid (n = l.length)) (hown : Own w 0 5 A c l) (hA : At ≤ n) (hn : n ≤ 100000000) (m : Int) (hm : 1 ≤ m) (hx : At + 2 ≤ n) (hb : (lenM (l.drop At) en).2 ≠ 0) : Calls Try.prog 14 #[.pointer (some ⟨bx, 0, none⟩), .int .i64 m] w (RGetO w bx A n c At en (getM 0 (l.drop At) en m)) := by
  have hLl : (l.drop At).length = n - At := by rw [List.length_drop, ← hl.out]
  obtain ⟨hd, hhd0⟩ : ∃ hd, hd = n - At := ⟨_, rfl⟩
  have hh := fun (u : World) (hu : RefAt u bx A n c At (At + 0) en) => refheld hu hA (by omega) hd hhd0
  have hm1 : ¬ m < 1 := by omega
  obtain ⟨b, rfl, _, _, _, _⟩ := hown.form (by rw [← hl.out]; omega)
  obtain ⟨c0, c1, c2, c3⟩ := h.cells
  rw [Nat.add_zero] at c2
  obtain ⟨xb, yb, t, hdt, hx0, hy0⟩ := drop_two hl.out hx
  have hxb := xb.toNat_lt
  have hyb := yb.toNat_lt
  obtain ⟨z, hz⟩ : ∃ z, z = 256 * xb.toNat + yb.toNat := ⟨_, rfl⟩
  have hq : lenM (l.drop At) en = (0, 40) ∧ (z < 2 ∨ 32767 < z) := by
    rw [hdt] at hb ⊢
    unfold lenM at hb ⊢
    rw [if_neg (by simp), if_neg (by simp)] at hb ⊢
    simp only [List.getD_cons_zero, List.getD_cons_succ] at hb ⊢
    rw [show xb.toNat * 256 + yb.toNat = z by omega] at hb ⊢
    split at hb
    · rename_i h1
      exact ⟨if_pos h1, h1⟩
    · simp at hb
  have e : getM 0 (l.drop At) en m = (([], false, 40), 0, l.drop At) := by unfold getM; rw [if_neg (by omega), if_pos rfl, hq.1]; rfl
  generalize getM 0 (l.drop At) en m = r at *
  have hq2 := hq.2
  have a0 : w.cell? ⟨b, At, none⟩ = some (.int .u8 (xb.toNat : Int)) := by
    have := hown.bs.at_ At (by rw [← hl.out]; omega)
    obtain ⟨b', o', e', _, h3⟩ := this
    simp only [Option.some.injEq, Addr.mk.injEq] at e'
    obtain ⟨rfl, rfl, _⟩ := e'
    have h4 := h3 At (by rw [← hl.out]; omega)
    rw [Nat.zero_add] at h4
    rw [h4]
    rw [List.getElem?_eq_getElem (by rw [← hl.out]; omega)] at hx0
    injection hx0 with hx0
    rw [hx0]
  have a1 : w.cell? ⟨b, At + 1, none⟩ = some (.int .u8 (yb.toNat : Int)) := by
    have := hown.bs.at_ At (by rw [← hl.out]; omega)
    obtain ⟨b', o', e', _, h3⟩ := this
    simp only [Option.some.injEq, Addr.mk.injEq] at e'
    obtain ⟨rfl, rfl, _⟩ := e'
    have h4 := h3 (At + 1) (by rw [← hl.out]; omega)
    rw [Nat.zero_add] at h4
    rw [h4]
    rw [List.getElem?_eq_getElem (by rw [← hl.out]; omega)] at hy0
    injection hy0 with hy0
    rw [hy0]
  have eA1 : IntKind.i64.wrap ((At : Int) + 1) = ((At + 1 : Nat) : Int) := by rw [IntWalk.i64_in _ (by omega)]; omega
  have eX : IntKind.i64.wrap (256 * (xb.toNat : Int)) = 256 * (xb.toNat : Int) := IntWalk.i64_in _ (by omega)
  have eZ : IntKind.i64.wrap (256 * (xb.toNat : Int) + (yb.toNat : Int)) = (z : Int) := by rw [IntWalk.i64_in _ (by omega)]; omega
  have iA : (At : Int) < (n : Int) := by omega
  have iA1 : (At : Int) + 1 < (n : Int) := by omega
  have nA : At < n := by omega
  have nA1 : At + 1 < n := by omega
  have hd2 : ¬ (hd : Int) < 2 := by omega
  have hd0 : ((hd : Int) == 0) = false := by simp; omega
  have H := Lib.hid h
  have E := Lib.hid e
  have HH := Lib.hid hh
  clear h e hh hhd0 hown hLl hq hdt hx0 hy0 hx hm hb hn hA
  have hz2 : (z : Int) < 2 ∨ (¬ (z : Int) < 2 ∧ (32767 : Int) < (z : Int)) := by omega
  clear hq2 hz
  rcases hz2 with hz2 | ⟨hz2, hz3⟩
  · skip
    go_enter Try.func14, Try.ntmps14
    go_wp2_with fail
    refine (HH.out _ H.out).mono ?_
    rintro e w1 ⟨d1, rfl, rfl⟩
    go_wp2_with fail
    refine (HH.out (w.drewN d1) H.out).mono ?_
    rintro e w2 ⟨d2, rfl, rfl⟩
    go_wp2_with fail
    go_quiet (fail)
    go_wp2
    go_ret3
    exact RGetO.err H.out (grown_of (bl_drewN w _) _) E.out
  · skip
    go_enter Try.func14, Try.ntmps14
    go_wp2_with fail
    refine (HH.out _ H.out).mono ?_
    rintro e w1 ⟨d1, rfl, rfl⟩
    go_wp2_with fail
    refine (HH.out (w.drewN d1) H.out).mono ?_
    rintro e w2 ⟨d2, rfl, rfl⟩
    go_wp2_with fail
    go_quiet (fail)
    go_wp2
    go_ret3
    exact RGetO.err H.out (grown_of (bl_drewN w _) _) E.out
set_option maxRecDepth 100000 in
set_option maxHeartbeats 2000000 in
theorem rget_zero_fewA {w : World} {bx : Nat} {A : Option Addr} {n c At : Nat} {en : Bool} {l : List UInt8} (h : RefAt w bx A n c At (At + 0) en) (hl : Hid (n = l.length)) (hown : Own w 0 5 A c l) (hA : At ≤ n) (hn : n ≤ 100000000) (m : Int) (hx : At + 2 ≤ n) (z : Nat) (hlen : lenM (l.drop At) en = (z, 0)) (hz1 : 2 ≤ z) (hz2 : z ≤ 32767) (hm : (z : Int) ≤ m) (hf : n < At + z) : Calls Try.prog 14 #[.pointer (some ⟨bx, 0, none⟩), .int .i64 m] w (RGetO w bx A n c At en (getM 0 (l.drop At) en m)) := by
  have hLl : (l.drop At).length = n - At := by rw [List.length_drop, ← hl.out]
  have e : getM 0 (l.drop At) en m = takeM z (l.drop At) en (m).toNat 0 := by unfold getM; rw [if_neg (by omega), if_pos rfl, hlen, if_pos rfl]
  have hmin : min (m).toNat z = z := by omega
  unfold takeM at e
  rw [hmin] at e
  rw [if_pos (by rw [hLl]; omega)] at e
  generalize getM 0 (l.drop At) en m = r at *
  have hm1 : ¬ m < 1 := by omega
  have hm1d : decide (m < 1) = false := by simp; omega
  obtain ⟨hd, hhd0⟩ : ∃ hd, hd = n - At := ⟨_, rfl⟩
  have hh := fun (u : World) (hu : RefAt u bx A n c At (At + 0) en) => refheld hu hA (by omega) hd hhd0
  have hfw := fun (u : World) (hu : RefAt u bx A n c At (At + 0) en) => reffew hu
  have hcap := Own.cap hown
  rw [← hl.out] at hcap
  simp only [maxLen] at hcap
  obtain ⟨b, rfl, _, _, _, _⟩ := hown.form (by rw [← hl.out]; omega)
  obtain ⟨c0, c1, c2, c3⟩ := h.cells
  rw [Nat.add_zero] at c2
  obtain ⟨xb, yb, t, hdt, hx0, hy0⟩ := drop_two hl.out hx
  have hxb := xb.toNat_lt
  have hyb := yb.toNat_lt
  have hzz : 256 * xb.toNat + yb.toNat = z := by
    rw [hdt] at hlen
    unfold lenM at hlen
    rw [if_neg (by simp), if_neg (by simp)] at hlen
    simp only [List.getD_cons_zero, List.getD_cons_succ] at hlen
    split at hlen
    · simp at hlen
    · simp at hlen; omega
  have a0 : w.cell? ⟨b, At, none⟩ = some (.int .u8 (xb.toNat : Int)) := by
    have := hown.bs.at_ At (by rw [← hl.out]; omega)
    obtain ⟨b', o', e', _, h3⟩ := this
    simp only [Option.some.injEq, Addr.mk.injEq] at e'
    obtain ⟨rfl, rfl, _⟩ := e'
    have h4 := h3 At (by rw [← hl.out]; omega)
    rw [Nat.zero_add] at h4
    rw [h4]
    rw [List.getElem?_eq_getElem (by rw [← hl.out]; omega)] at hx0
    injection hx0 with hx0
    rw [hx0]
  have a1 : w.cell? ⟨b, At + 1, none⟩ = some (.int .u8 (yb.toNat : Int)) := by
    have := hown.bs.at_ At (by rw [← hl.out]; omega)
    obtain ⟨b', o', e', _, h3⟩ := this
    simp only [Option.some.injEq, Addr.mk.injEq] at e'
    obtain ⟨rfl, rfl, _⟩ := e'
    have h4 := h3 (At + 1) (by rw [← hl.out]; omega)
    rw [Nat.zero_add] at h4
    rw [h4]
    rw [List.getElem?_eq_getElem (by rw [← hl.out]; omega)] at hy0
    injection hy0 with hy0
    rw [hy0]
  have eA1 : IntKind.i64.wrap ((At : Int) + 1) = ((At + 1 : Nat) : Int) := by rw [IntWalk.i64_in _ (by omega)]; omega
  have eX : IntKind.i64.wrap (256 * (xb.toNat : Int)) = 256 * (xb.toNat : Int) := IntWalk.i64_in _ (by omega)
  have eZ : IntKind.i64.wrap (256 * (xb.toNat : Int) + (yb.toNat : Int)) = (z : Int) := by rw [IntWalk.i64_in _ (by omega)]; omega
  have iA : (At : Int) < (n : Int) := by omega
  have iA1 : (At : Int) + 1 < (n : Int) := by omega
  have nA : At < n := by omega
  have nA1 : At + 1 < n := by omega
  have hd2 : ¬ (hd : Int) < 2 := by omega
  have hd0 : ((hd : Int) == 0) = false := by simp; omega
  have z2 : ¬ (z : Int) < 2 := by omega
  have z3 : ¬ (32767 : Int) < (z : Int) := by omega
  have eT : IntKind.i64.wrap ((At : Int) + (z : Int)) = ((At + z : Nat) : Int) := by rw [IntWalk.i64_in _ (by omega)]; omega
  have eN : IntKind.i64.wrap (((At + z : Nat) : Int) - (At : Int)) = (z : Int) := by rw [IntWalk.i64_in _ (by omega)]; omega
  obtain ⟨T, hT⟩ : ∃ T, T = At + z := ⟨_, rfl⟩
  rw [← hT] at eT eN
  have eM : ¬ m < (z : Int) := by omega
  have eF : decide ((hd : Int) < (z : Int)) = true := by simp; omega
  have eF2 : hd < z := by omega
  have H := Lib.hid h
  have E := Lib.hid e
  have HH := Lib.hid hh
  have HF := Lib.hid hfw
  clear h e hh hfw hhd0 hown hLl hcap hmin hT hf hm hn hA hlen hdt hx0 hy0 hzz hx hz1 hz2
  go_enter Try.func14, Try.ntmps14
  go_wp2_with fail
  refine (HH.out _ H.out).mono ?_
  rintro e w1 ⟨d1, rfl, rfl⟩
  go_wp2_with fail
  refine (HH.out (w.drewN d1) H.out).mono ?_
  rintro e w2 ⟨d2, rfl, rfl⟩
  go_wp2_with fail
  go_quiet (fail)
  go_wp2_with fail
  refine (HH.out (w.drewN _) H.out).mono ?_
  rintro e w4 ⟨d4, rfl, rfl⟩
  go_wp2_with fail
  refine (HF.out (w.drewN _) H.out).mono ?_
  rintro e w5 ⟨rfl, rfl⟩
  go_wp2
  go_ret3
  exact RGetO.err H.out (grown_of (bl_drewN w _) _) E.out
set_option maxRecDepth 100000 in
set_option maxHeartbeats 2000000 in
theorem rget_zero_fewB {w : World} {bx : Nat} {A : Option Addr} {n c At : Nat} {en : Bool} {l : List UInt8} (h : RefAt w bx A n c At (At + 0) en) (hl : Hid (n = l.length)) (hown : Own w 0 5 A c l) (hA : At ≤ n) (hn : n ≤ 100000000) (m : Int) (hx : At + 2 ≤ n) (z : Nat) (hlen : lenM (l.drop At) en = (z, 0)) (hz1 : 2 ≤ z) (hz2 : z ≤ 32767) (k : Nat) (hk : m = k) (hk1 : 1 ≤ k) (hm : k < z) (hf : n < At + k) : Calls Try.prog 14 #[.pointer (some ⟨bx, 0, none⟩), .int .i64 m] w (RGetO w bx A n c At en (getM 0 (l.drop At) en m)) := by
  subst hk
  have hLl : (l.drop At).length = n - At := by rw [List.length_drop, ← hl.out]
  have e : getM 0 (l.drop At) en (k : Int) = takeM z (l.drop At) en ((k : Int)).toNat 0 := by unfold getM; rw [if_neg (by omega), if_pos rfl, hlen, if_pos rfl]
  have hmin : min ((k : Int)).toNat z = k := by omega
  unfold takeM at e
  rw [hmin] at e
  rw [if_pos (by rw [hLl]; omega)] at e
  generalize getM 0 (l.drop At) en (k : Int) = r at *
  have hm1 : ¬ (k : Int) < 1 := by omega
  have hm1d : decide ((k : Int) < 1) = false := by simp; omega
  obtain ⟨hd, hhd0⟩ : ∃ hd, hd = n - At := ⟨_, rfl⟩
  have hh := fun (u : World) (hu : RefAt u bx A n c At (At + 0) en) => refheld hu hA (by omega) hd hhd0
  have hfw := fun (u : World) (hu : RefAt u bx A n c At (At + 0) en) => reffew hu
  have hcap := Own.cap hown
  rw [← hl.out] at hcap
  simp only [maxLen] at hcap
  obtain ⟨b, rfl, _, _, _, _⟩ := hown.form (by rw [← hl.out]; omega)
  obtain ⟨c0, c1, c2, c3⟩ := h.cells
  rw [Nat.add_zero] at c2
  obtain ⟨xb, yb, t, hdt, hx0, hy0⟩ := drop_two hl.out hx
  have hxb := xb.toNat_lt
  have hyb := yb.toNat_lt
  have hzz : 256 * xb.toNat + yb.toNat = z := by
    rw [hdt] at hlen
    unfold lenM at hlen
    rw [if_neg (by simp), if_neg (by simp)] at hlen
    simp only [List.getD_cons_zero, List.getD_cons_succ] at hlen
    split at hlen
    · simp at hlen
    · simp at hlen; omega
  have a0 : w.cell? ⟨b, At, none⟩ = some (.int .u8 (xb.toNat : Int)) := by
    have := hown.bs.at_ At (by rw [← hl.out]; omega)
    obtain ⟨b', o', e', _, h3⟩ := this
    simp only [Option.some.injEq, Addr.mk.injEq] at e'
    obtain ⟨rfl, rfl, _⟩ := e'
    have h4 := h3 At (by rw [← hl.out]; omega)
    rw [Nat.zero_add] at h4
    rw [h4]
    rw [List.getElem?_eq_getElem (by rw [← hl.out]; omega)] at hx0
    injection hx0 with hx0
    rw [hx0]
  have a1 : w.cell? ⟨b, At + 1, none⟩ = some (.int .u8 (yb.toNat : Int)) := by
    have := hown.bs.at_ At (by rw [← hl.out]; omega)
    obtain ⟨b', o', e', _, h3⟩ := this
    simp only [Option.some.injEq, Addr.mk.injEq] at e'
    obtain ⟨rfl, rfl, _⟩ := e'
    have h4 := h3 (At + 1) (by rw [← hl.out]; omega)
    rw [Nat.zero_add] at h4
    rw [h4]
    rw [List.getElem?_eq_getElem (by rw [← hl.out]; omega)] at hy0
    injection hy0 with hy0
    rw [hy0]
  have eA1 : IntKind.i64.wrap ((At : Int) + 1) = ((At + 1 : Nat) : Int) := by rw [IntWalk.i64_in _ (by omega)]; omega
  have eX : IntKind.i64.wrap (256 * (xb.toNat : Int)) = 256 * (xb.toNat : Int) := IntWalk.i64_in _ (by omega)
  have eZ : IntKind.i64.wrap (256 * (xb.toNat : Int) + (yb.toNat : Int)) = (z : Int) := by rw [IntWalk.i64_in _ (by omega)]; omega
  have iA : (At : Int) < (n : Int) := by omega
  have iA1 : (At : Int) + 1 < (n : Int) := by omega
  have nA : At < n := by omega
  have nA1 : At + 1 < n := by omega
  have hd2 : ¬ (hd : Int) < 2 := by omega
  have hd0 : ((hd : Int) == 0) = false := by simp; omega
  have z2 : ¬ (z : Int) < 2 := by omega
  have z3 : ¬ (32767 : Int) < (z : Int) := by omega
  have eT : IntKind.i64.wrap ((At : Int) + (z : Int)) = ((At + z : Nat) : Int) := by rw [IntWalk.i64_in _ (by omega)]; omega
  have eN : IntKind.i64.wrap (((At + z : Nat) : Int) - (At : Int)) = (z : Int) := by rw [IntWalk.i64_in _ (by omega)]; omega
  obtain ⟨T, hT⟩ : ∃ T, T = At + z := ⟨_, rfl⟩
  rw [← hT] at eT eN
  have eM : (k : Int) < (z : Int) := by omega
  have eM2 : k < z := by omega
  have eF : decide ((hd : Int) < (k : Int)) = true := by simp; omega
  have eF2 : hd < k := by omega
  have H := Lib.hid h
  have E := Lib.hid e
  have HH := Lib.hid hh
  have HF := Lib.hid hfw
  clear h e hh hfw hhd0 hown hLl hcap hmin hT hf hm hn hA hlen hdt hx0 hy0 hzz hx hz1 hz2 hk1
  go_enter Try.func14, Try.ntmps14
  go_wp2_with fail
  refine (HH.out _ H.out).mono ?_
  rintro e w1 ⟨d1, rfl, rfl⟩
  go_wp2_with fail
  refine (HH.out (w.drewN d1) H.out).mono ?_
  rintro e w2 ⟨d2, rfl, rfl⟩
  go_wp2_with fail
  go_quiet (fail)
  go_wp2_with fail
  refine (HH.out (w.drewN _) H.out).mono ?_
  rintro e w4 ⟨d4, rfl, rfl⟩
  go_wp2_with fail
  refine (HF.out (w.drewN _) H.out).mono ?_
  rintro e w5 ⟨rfl, rfl⟩
  go_wp2
  go_ret3
  exact RGetO.err H.out (grown_of (bl_drewN w _) _) E.out
set_option maxRecDepth 100000 in
set_option maxHeartbeats 2000000 in
theorem rget_zero_okA {w : World} {bx : Nat} {A : Option Addr} {n c At : Nat} {en : Bool} {l : List UInt8} (h : RefAt w bx A n c At (At + 0) en) (hl : Hid (n = l.length)) (hown : Own w 0 5 A c l) (hA : At ≤ n) (hn : n ≤ 100000000) (m : Int) (hx : At + 2 ≤ n) (z : Nat) (hlen : lenM (l.drop At) en = (z, 0)) (hz1 : 2 ≤ z) (hz2 : z ≤ 32767) (hm : (z : Int) ≤ m) (hf : At + z ≤ n) : Calls Try.prog 14 #[.pointer (some ⟨bx, 0, none⟩), .int .i64 m] w (RGetO w bx A n c At en (getM 0 (l.drop At) en m)) := by
  have hLl : (l.drop At).length = n - At := by rw [List.length_drop, ← hl.out]
  have e : getM 0 (l.drop At) en m = takeM z (l.drop At) en (m).toNat 0 := by unfold getM; rw [if_neg (by omega), if_pos rfl, hlen, if_pos rfl]
  have hmin : min (m).toNat z = z := by omega
  unfold takeM at e
  rw [hmin] at e
  rw [if_neg (by rw [hLl]; omega)] at e
  generalize getM 0 (l.drop At) en m = r at *
  have hm1 : ¬ m < 1 := by omega
  have hm1d : decide (m < 1) = false := by simp; omega
  obtain ⟨hd, hhd0⟩ : ∃ hd, hd = n - At := ⟨_, rfl⟩
  have hh := fun (u : World) (hu : RefAt u bx A n c At (At + 0) en) => refheld hu hA (by omega) hd hhd0
  have hfw := fun (u : World) (hu : RefAt u bx A n c At (At + 0) en) => reffew hu
  have hcap := Own.cap hown
  rw [← hl.out] at hcap
  simp only [maxLen] at hcap
  obtain ⟨b, rfl, _, _, _, _⟩ := hown.form (by rw [← hl.out]; omega)
  obtain ⟨c0, c1, c2, c3⟩ := h.cells
  rw [Nat.add_zero] at c2
  obtain ⟨xb, yb, t, hdt, hx0, hy0⟩ := drop_two hl.out hx
  have hxb := xb.toNat_lt
  have hyb := yb.toNat_lt
  have hzz : 256 * xb.toNat + yb.toNat = z := by
    rw [hdt] at hlen
    unfold lenM at hlen
    rw [if_neg (by simp), if_neg (by simp)] at hlen
    simp only [List.getD_cons_zero, List.getD_cons_succ] at hlen
    split at hlen
    · simp at hlen
    · simp at hlen; omega
  have a0 : w.cell? ⟨b, At, none⟩ = some (.int .u8 (xb.toNat : Int)) := by
    have := hown.bs.at_ At (by rw [← hl.out]; omega)
    obtain ⟨b', o', e', _, h3⟩ := this
    simp only [Option.some.injEq, Addr.mk.injEq] at e'
    obtain ⟨rfl, rfl, _⟩ := e'
    have h4 := h3 At (by rw [← hl.out]; omega)
    rw [Nat.zero_add] at h4
    rw [h4]
    rw [List.getElem?_eq_getElem (by rw [← hl.out]; omega)] at hx0
    injection hx0 with hx0
    rw [hx0]
  have a1 : w.cell? ⟨b, At + 1, none⟩ = some (.int .u8 (yb.toNat : Int)) := by
    have := hown.bs.at_ At (by rw [← hl.out]; omega)
    obtain ⟨b', o', e', _, h3⟩ := this
    simp only [Option.some.injEq, Addr.mk.injEq] at e'
    obtain ⟨rfl, rfl, _⟩ := e'
    have h4 := h3 (At + 1) (by rw [← hl.out]; omega)
    rw [Nat.zero_add] at h4
    rw [h4]
    rw [List.getElem?_eq_getElem (by rw [← hl.out]; omega)] at hy0
    injection hy0 with hy0
    rw [hy0]
  have eA1 : IntKind.i64.wrap ((At : Int) + 1) = ((At + 1 : Nat) : Int) := by rw [IntWalk.i64_in _ (by omega)]; omega
  have eX : IntKind.i64.wrap (256 * (xb.toNat : Int)) = 256 * (xb.toNat : Int) := IntWalk.i64_in _ (by omega)
  have eZ : IntKind.i64.wrap (256 * (xb.toNat : Int) + (yb.toNat : Int)) = (z : Int) := by rw [IntWalk.i64_in _ (by omega)]; omega
  have iA : (At : Int) < (n : Int) := by omega
  have iA1 : (At : Int) + 1 < (n : Int) := by omega
  have nA : At < n := by omega
  have nA1 : At + 1 < n := by omega
  have hd2 : ¬ (hd : Int) < 2 := by omega
  have hd0 : ((hd : Int) == 0) = false := by simp; omega
  have z2 : ¬ (z : Int) < 2 := by omega
  have z3 : ¬ (32767 : Int) < (z : Int) := by omega
  have eT : IntKind.i64.wrap ((At : Int) + (z : Int)) = ((At + z : Nat) : Int) := by rw [IntWalk.i64_in _ (by omega)]; omega
  have eN : IntKind.i64.wrap (((At + z : Nat) : Int) - (At : Int)) = (z : Int) := by rw [IntWalk.i64_in _ (by omega)]; omega
  obtain ⟨T, hT⟩ : ∃ T, T = At + z := ⟨_, rfl⟩
  rw [← hT] at eT eN
  have eM : ¬ m < (z : Int) := by omega
  have eF : decide ((hd : Int) < (z : Int)) = false := by simp; omega
  have eF2 : ¬ hd < z := by omega
  have j1 : (At : Int) ≤ (T : Int) := by omega
  have j2 : (T : Int) ≤ (c : Int) := by omega
  have j3 : At ≤ T := by omega
  have j4 : T ≤ c := by omega
  have j5 : T - At = z := by omega
  have j6 : At < c := by omega
  have j7 : ¬ c = At := by omega
  have hcp := fun (cc : Nat) (u : World) (hu : Below w.heap.size w u) => ncopy (some ⟨b, At, none⟩) ((l.drop At).take z) z cc u (Lib.hid (by rw [List.length_take, hLl]; omega)) (Lib.hid (by rw [List.length_take, hLl]; omega)) (((bs_take' (bs_drop' (A2 := some ⟨b, At, none⟩) hown.bs At (fun _ b' o' e' => by simp only [Option.some.injEq, Addr.mk.injEq] at e'; obtain ⟨rfl, rfl, _⟩ := e'; simp)) z).below hu).more hu.size)
  have HCP := Lib.hid hcp
  have hbA : Hid (b ≠ bx) := Lib.hid (fun e => by have := Own.ne_blk' hown h ref_ne; exact this (by simp [blk, e]))
  have HQ := Lib.hid (show T = At + z ∧ T = At + z ∧ z ≤ z from ⟨by omega, by omega, by omega⟩)
  have hLK := Lib.hid (show ((l.drop At).take z).length = z by rw [List.length_take, hLl]; omega)
  have H := Lib.hid h
  have E := Lib.hid e
  have HH := Lib.hid hh
  have HF := Lib.hid hfw
  clear h e hh hfw hhd0 hown hLl hcap hmin hT hf hm hn hA hlen hdt hx0 hy0 hzz hx hz1 hz2 hcp
  go_enter Try.func14, Try.ntmps14
  go_wp2_with fail
  refine (HH.out _ H.out).mono ?_
  rintro e w1 ⟨d1, rfl, rfl⟩
  go_wp2_with fail
  refine (HH.out (w.drewN d1) H.out).mono ?_
  rintro e w2 ⟨d2, rfl, rfl⟩
  go_wp2_with fail
  go_quiet (fail)
  go_wp2_with fail
  refine (HH.out (w.drewN _) H.out).mono ?_
  rintro e w4 ⟨d4, rfl, rfl⟩
  go_wp2_with fail
  refine wp_region_invT (F := ?FA) (V := VRg w.heap.size bx b n c At z T (c - At) ((l.drop At).take z)) (dead := fun _ => none) (T := fun _ _ => True) (C := fun u => Below w.heap.size w u) (E := fun _ u u' => Below u.heap.size u u') (by kernel_rfl) (by kernel_rfl) (by kernel_rfl) (fun x => ?hFA) ?hmonoA ?hTmA ?hTA ?hCA ?stepA ?finA
  case hFA => simp only [mkA, Act.put, List.setIfInBounds_toArray, List.set_cons_succ, List.set_cons_zero, Nat.reduceAdd, Nat.zero_add]; first | with_reducible rfl | rfl
  case hmonoA => exact fun q i v u u' he hik hwt hdd hv => VRg.mono he hv
  case hTmA => exact fun _ _ _ _ _ _ _ _ => trivial
  case hTA => exact fun j => trivial
  case hCA => exact (bl_drewN w _).drew
  case stepA =>
    refine AllOps.cons (fun x u hC hT hp K hK => ?_) ?_
    · clear hp hT
      go_simp
      refine hK _ _ _ hC (Below.refl _ _) (by exact rfl) ?_
      first | (simp only [Act.put, List.setIfInBounds_toArray, List.set_cons_succ, List.set_cons_zero]; done) | simp [Act.put]
    refine AllOps.cons (fun x u hC hT hp K hK => ?_) ?_
    · simp [KnownTill, Region.binds, VRg] at hp
      clear hT
      go_simp
      refine hK _ _ _ hC (Below.refl _ _) (by exact rfl) ?_
      first | (simp only [Act.put, List.setIfInBounds_toArray, List.set_cons_succ, List.set_cons_zero, hp]; done) | simp [Act.put, hp]
    refine AllOps.cons (fun x u hC hT hp K hK => ?_) ?_
    · simp [KnownTill, Region.binds, VRg] at hp
      clear hT
      go_simp
      refine hK _ _ _ hC (Below.refl _ _) (by exact rfl) ?_
      first | (simp only [Act.put, List.setIfInBounds_toArray, List.set_cons_succ, List.set_cons_zero, hp]; done) | simp [Act.put, hp]
    refine AllOps.cons (fun x u hC hT hp K hK => ?_) ?_
    · simp [KnownTill, Region.binds, VRg] at hp
      clear hT
      obtain ⟨g0, g1, g2, g3⟩ := (RefAt.below H.out hC).cells
      go_simp
      refine hK _ _ _ hC (Below.refl _ _) (by exact rfl) ?_
      first | (simp only [Act.put, List.setIfInBounds_toArray, List.set_cons_succ, List.set_cons_zero, hp]; done) | simp [Act.put, hp]
    refine AllOps.cons (fun x u hC hT hp K hK => ?_) ?_
    · clear hp hT
      go_simp
      refine hK _ _ _ hC (Below.refl _ _) (by exact rfl) ?_
      first | (simp only [Act.put, List.setIfInBounds_toArray, List.set_cons_succ, List.set_cons_zero]; done) | simp [Act.put]
    refine AllOps.cons (fun x u hC hT hp K hK => ?_) ?_
    · simp [KnownTill, Region.binds, VRg] at hp
      clear hT
      go_simp
      refine hK _ _ _ hC (Below.refl _ _) (by exact rfl) ?_
      first | (simp only [Act.put, List.setIfInBounds_toArray, List.set_cons_succ, List.set_cons_zero, hp]; done) | simp [Act.put, hp]
    refine AllOps.cons (fun x u hC hT hp K hK => ?_) ?_
    · simp [KnownTill, Region.binds, VRg] at hp
      clear hT
      go_simp
      refine hK _ _ _ hC (Below.refl _ _) (by exact rfl) ?_
      first | (simp only [Act.put, List.setIfInBounds_toArray, List.set_cons_succ, List.set_cons_zero, hp]; done) | simp [Act.put, hp]
    refine AllOps.cons (fun x u hC hT hp K hK => ?_) ?_
    · simp [KnownTill, Region.binds, VRg] at hp
      clear hT
      obtain ⟨g0, g1, g2, g3⟩ := (RefAt.below H.out hC).cells
      go_simp
      refine hK _ _ _ hC (Below.refl _ _) (by exact rfl) ?_
      first | (simp only [Act.put, List.setIfInBounds_toArray, List.set_cons_succ, List.set_cons_zero, hp]; done) | simp [Act.put, hp]
    refine AllOps.cons (fun x u hC hT hp K hK => ?_) ?_
    · clear hp hT
      go_simp
      refine hK _ _ _ hC (Below.refl _ _) (by exact rfl) ?_
      first | (simp only [Act.put, List.setIfInBounds_toArray, List.set_cons_succ, List.set_cons_zero]; done) | simp [Act.put]
    refine AllOps.cons (fun x u hC hT hp K hK => ?_) ?_
    · simp [KnownTill, Region.binds, VRg] at hp
      clear hT
      go_simp
      refine hK _ _ _ hC (Below.refl _ _) (by exact rfl) ?_
      first | (simp only [Act.put, List.setIfInBounds_toArray, List.set_cons_succ, List.set_cons_zero, hp]; done) | simp [Act.put, hp]
    refine AllOps.cons (fun x u hC hT hp K hK => ?_) ?_
    · simp [KnownTill, Region.binds, VRg] at hp
      clear hT
      go_simp
      refine hK _ _ _ hC (Below.refl _ _) (by exact rfl) ?_
      first | (simp only [Act.put, List.setIfInBounds_toArray, List.set_cons_succ, List.set_cons_zero, hp]; done) | simp [Act.put, hp]
    refine AllOps.cons (fun x u hC hT hp K hK => ?_) ?_
    · simp [KnownTill, Region.binds, VRg] at hp
      clear hT
      obtain ⟨g0, g1, g2, g3⟩ := (RefAt.below H.out hC).cells
      go_simp
      refine hK _ _ _ hC (Below.refl _ _) (by exact rfl) ?_
      first | (simp only [Act.put, List.setIfInBounds_toArray, List.set_cons_succ, List.set_cons_zero, hp]; done) | simp [Act.put, hp]
    refine AllOps.cons (fun x u hC hT hp K hK => ?_) ?_
    · clear hp hT
      go_simp
      refine hK _ _ _ hC (Below.refl _ _) (by exact rfl) ?_
      first | (simp only [Act.put, List.setIfInBounds_toArray, List.set_cons_succ, List.set_cons_zero]; done) | simp [Act.put]
    refine AllOps.cons (fun x u hC hT hp K hK => ?_) ?_
    · simp [KnownTill, Region.binds, VRg] at hp
      clear hT
      go_simp
      refine hK _ _ _ hC (Below.refl _ _) (by exact rfl) ?_
      first | (simp only [Act.put, List.setIfInBounds_toArray, List.set_cons_succ, List.set_cons_zero, hp]; done) | simp [Act.put, hp]
    refine AllOps.cons (fun x u hC hT hp K hK => ?_) ?_
    · simp [KnownTill, Region.binds, VRg] at hp
      clear hT
      go_simp
      refine hK _ _ _ hC (Below.refl _ _) (by exact rfl) ?_
      first | (simp only [Act.put, List.setIfInBounds_toArray, List.set_cons_succ, List.set_cons_zero, hp]; done) | simp [Act.put, hp]
    refine AllOps.cons (fun x u hC hT hp K hK => ?_) ?_
    · simp [KnownTill, Region.binds, VRg] at hp
      clear hT
      go_simp
      refine (HCP.out _ _ hC).mono ?_
      rintro e wA ⟨A1, c1, rfl, own1, hbA⟩
      refine hK _ _ _ (Go.Proofs.Ytgbcjimfpoeicaa.bt hC hbA) hbA (by exact ⟨A1, c1, rfl, own1.base_le hC.size⟩) ?_
      first | (simp only [Act.put, List.setIfInBounds_toArray, List.set_cons_succ, List.set_cons_zero, hp]; done) | simp [Act.put, hp]
    refine AllOps.cons (fun x u hC hT hp K hK => ?_) ?_
    · simp [KnownTill, Region.binds, VRg] at hp
      clear hT
      obtain ⟨A1, c1_, h7, own7⟩ : SlN u w.heap.size z ((l.drop At).take z) (x 15) := by first | exact hp | exact hp.1
      go_simp
      refine hK _ _ _ hC (Below.refl _ _) (by exact ⟨A1, c1_, rfl, own7⟩) ?_
      first | (simp only [Act.put, List.setIfInBounds_toArray, List.set_cons_succ, List.set_cons_zero, hp, h7]; done) | simp [Act.put, hp, h7]
    exact AllOps.nil
  case finA =>
    intro x u hC hV
    obtain ⟨A1, c1_, e16, own1⟩ : SlN u w.heap.size z ((l.drop At).take z) (x 16) := hV 16 (by decide) rfl
    clear hV HCP
    rw [e16]
    clear e16
    have hu := RefAt.below H.out hC
    obtain ⟨g0, g1, g2, g3⟩ := hu.cells
    have f1 := Blk.frozen hu 1
    have hb5 := Blk.set_ hu 1 (.int .i64 (T : Int))
    simp only [List.setIfInBounds_toArray, List.set_cons_succ, List.set_cons_zero] at hb5
    have h5c := Blk.cell hb5 2
    simp only [List.getElem?_toArray, List.getElem?_cons_zero, List.getElem?_cons_succ] at h5c
    have f2 := Blk.frozen hb5 2
    have hb6 := Blk.set_ hb5 2 (.int .i64 (T : Int))
    simp only [List.setIfInBounds_toArray, List.set_cons_succ, List.set_cons_zero] at hb6
    have h6c := Blk.cell hb6 1
    simp only [List.getElem?_toArray, List.getElem?_cons_zero, List.getElem?_cons_succ] at h6c
    have n1 : blk A1 ≠ some bx := fun e => own1.ne_blk' hu ref_ne e.symm
    have own2 := own1.kept (grown_set u ⟨bx, 1, none⟩ (.int .i64 (T : Int))) (.inr n1)
    have own3 := own2.kept (grown_set (u.setCell ⟨bx, 1, none⟩ (.int .i64 (T : Int))) ⟨bx, 2, none⟩ (.int .i64 (T : Int))) (.inr n1)
    have hg3 := grownBy_trans (grown_of hC (some bx)) (grownBy_trans (grown_set u ⟨bx, 1, none⟩ (.int .i64 (T : Int))) (grown_set (u.setCell ⟨bx, 1, none⟩ (.int .i64 (T : Int))) ⟨bx, 2, none⟩ (.int .i64 (T : Int))))
    have HB6 := Lib.hid hb6
    have HO3 := Lib.hid own3
    have HG3 := Lib.hid hg3
    clear hu hb5 hb6 own1 own2 own3 hg3 hC n1 g0 g3
    go_wp2
    go_quiet (fail)
    go_wp2
    go_ret3
    obtain ⟨q1, q2, q3⟩ := HQ.out
    have hEE : r = (((l.drop At).take z, true, 0), 0, (l.drop At).drop z) := by rw [E.out]; simp
    subst hEE
    refine ⟨A1, z, c1_, rfl, Lib.hid (by simp only; rw [hLK.out]), HO3.out.drewN _, ?_, grown_drewN HG3.out _⟩
    simp only [hLK.out]
    rw [show At + z = T by omega, show T + 0 = T by omega]
    exact HB6.out
set_option maxRecDepth 100000 in
set_option maxHeartbeats 2000000 in
theorem rget_zero_okB {w : World} {bx : Nat} {A : Option Addr} {n c At : Nat} {en : Bool} {l : List UInt8} (h : RefAt w bx A n c At (At + 0) en) (hl : Hid (n = l.length)) (hown : Own w 0 5 A c l) (hA : At ≤ n) (hn : n ≤ 100000000) (m : Int) (hx : At + 2 ≤ n) (z : Nat) (hlen : lenM (l.drop At) en = (z, 0)) (hz1 : 2 ≤ z) (hz2 : z ≤ 32767) (k : Nat) (hk : m = k) (hk1 : 1 ≤ k) (hm : k < z) (hf : At + k ≤ n) : Calls Try.prog 14 #[.pointer (some ⟨bx, 0, none⟩), .int .i64 m] w (RGetO w bx A n c At en (getM 0 (l.drop At) en m)) := by
  subst hk
  have hLl : (l.drop At).length = n - At := by rw [List.length_drop, ← hl.out]
  have e : getM 0 (l.drop At) en (k : Int) = takeM z (l.drop At) en ((k : Int)).toNat 0 := by unfold getM; rw [if_neg (by omega), if_pos rfl, hlen, if_pos rfl]
  have hmin : min ((k : Int)).toNat z = k := by omega
  unfold takeM at e
  rw [hmin] at e
  rw [if_neg (by rw [hLl]; omega)] at e
  generalize getM 0 (l.drop At) en (k : Int) = r at *
  have hm1 : ¬ (k : Int) < 1 := by omega
  have hm1d : decide ((k : Int) < 1) = false := by simp; omega
  obtain ⟨hd, hhd0⟩ : ∃ hd, hd = n - At := ⟨_, rfl⟩
  have hh := fun (u : World) (hu : RefAt u bx A n c At (At + 0) en) => refheld hu hA (by omega) hd hhd0
  have hfw := fun (u : World) (hu : RefAt u bx A n c At (At + 0) en) => reffew hu
  have hcap := Own.cap hown
  rw [← hl.out] at hcap
  simp only [maxLen] at hcap
  obtain ⟨b, rfl, _, _, _, _⟩ := hown.form (by rw [← hl.out]; omega)
  obtain ⟨c0, c1, c2, c3⟩ := h.cells
  rw [Nat.add_zero] at c2
  obtain ⟨xb, yb, t, hdt, hx0, hy0⟩ := drop_two hl.out hx
  have hxb := xb.toNat_lt
  have hyb := yb.toNat_lt
  have hzz : 256 * xb.toNat + yb.toNat = z := by
    rw [hdt] at hlen
    unfold lenM at hlen
    rw [if_neg (by simp), if_neg (by simp)] at hlen
    simp only [List.getD_cons_zero, List.getD_cons_succ] at hlen
    split at hlen
    · simp at hlen
    · simp at hlen; omega
  have a0 : w.cell? ⟨b, At, none⟩ = some (.int .u8 (xb.toNat : Int)) := by
    have := hown.bs.at_ At (by rw [← hl.out]; omega)
    obtain ⟨b', o', e', _, h3⟩ := this
    simp only [Option.some.injEq, Addr.mk.injEq] at e'
    obtain ⟨rfl, rfl, _⟩ := e'
    have h4 := h3 At (by rw [← hl.out]; omega)
    rw [Nat.zero_add] at h4
    rw [h4]
    rw [List.getElem?_eq_getElem (by rw [← hl.out]; omega)] at hx0
    injection hx0 with hx0
    rw [hx0]
  have a1 : w.cell? ⟨b, At + 1, none⟩ = some (.int .u8 (yb.toNat : Int)) := by
    have := hown.bs.at_ At (by rw [← hl.out]; omega)
    obtain ⟨b', o', e', _, h3⟩ := this
    simp only [Option.some.injEq, Addr.mk.injEq] at e'
    obtain ⟨rfl, rfl, _⟩ := e'
    have h4 := h3 (At + 1) (by rw [← hl.out]; omega)
    rw [Nat.zero_add] at h4
    rw [h4]
    rw [List.getElem?_eq_getElem (by rw [← hl.out]; omega)] at hy0
    injection hy0 with hy0
    rw [hy0]
  have eA1 : IntKind.i64.wrap ((At : Int) + 1) = ((At + 1 : Nat) : Int) := by rw [IntWalk.i64_in _ (by omega)]; omega
  have eX : IntKind.i64.wrap (256 * (xb.toNat : Int)) = 256 * (xb.toNat : Int) := IntWalk.i64_in _ (by omega)
  have eZ : IntKind.i64.wrap (256 * (xb.toNat : Int) + (yb.toNat : Int)) = (z : Int) := by rw [IntWalk.i64_in _ (by omega)]; omega
  have iA : (At : Int) < (n : Int) := by omega
  have iA1 : (At : Int) + 1 < (n : Int) := by omega
  have nA : At < n := by omega
  have nA1 : At + 1 < n := by omega
  have hd2 : ¬ (hd : Int) < 2 := by omega
  have hd0 : ((hd : Int) == 0) = false := by simp; omega
  have z2 : ¬ (z : Int) < 2 := by omega
  have z3 : ¬ (32767 : Int) < (z : Int) := by omega
  have eT : IntKind.i64.wrap ((At : Int) + (z : Int)) = ((At + z : Nat) : Int) := by rw [IntWalk.i64_in _ (by omega)]; omega
  have eN : IntKind.i64.wrap (((At + z : Nat) : Int) - (At : Int)) = (z : Int) := by rw [IntWalk.i64_in _ (by omega)]; omega
  obtain ⟨T, hT⟩ : ∃ T, T = At + z := ⟨_, rfl⟩
  rw [← hT] at eT eN
  have eM : (k : Int) < (z : Int) := by omega
  have eM2 : k < z := by omega
  have eF : decide ((hd : Int) < (k : Int)) = false := by simp; omega
  have eF2 : ¬ hd < k := by omega
  have eB : ((At : Int) + (k : Int) == (T : Int)) = false := by simp; omega
  have eB' : (((At + k : Nat) : Int) == (T : Int)) = false := by simp; omega
  obtain ⟨Ak, hAk⟩ : ∃ Ak, Ak = At + k := ⟨_, rfl⟩
  have eA : IntKind.i64.wrap ((At : Int) + (k : Int)) = (Ak : Int) := by rw [IntWalk.i64_in _ (by omega)]; omega
  have eB3 : ((Ak : Int) == (T : Int)) = false := by simp; omega
  have j1 : (At : Int) ≤ (Ak : Int) := by omega
  have j2 : (Ak : Int) ≤ (c : Int) := by omega
  have j3 : At ≤ Ak := by omega
  have j4 : Ak ≤ c := by omega
  have j5 : Ak - At = k := by omega
  have j6 : At < c := by omega
  have j7 : ¬ c = At := by omega
  have hcp := fun (cc : Nat) (u : World) (hu : Below w.heap.size w u) => ncopy (some ⟨b, At, none⟩) ((l.drop At).take k) k cc u (Lib.hid (by rw [List.length_take, hLl]; omega)) (Lib.hid (by rw [List.length_take, hLl]; omega)) (((bs_take' (bs_drop' (A2 := some ⟨b, At, none⟩) hown.bs At (fun _ b' o' e' => by simp only [Option.some.injEq, Addr.mk.injEq] at e'; obtain ⟨rfl, rfl, _⟩ := e'; simp)) k).below hu).more hu.size)
  have HCP := Lib.hid hcp
  have hbA : Hid (b ≠ bx) := Lib.hid (fun e => by have := Own.ne_blk' hown h ref_ne; exact this (by simp [blk, e]))
  have HQ := Lib.hid (show Ak = At + k ∧ T = At + z ∧ k ≤ z from ⟨by omega, by omega, by omega⟩)
  have hLK := Lib.hid (show ((l.drop At).take k).length = k by rw [List.length_take, hLl]; omega)
  have H := Lib.hid h
  have E := Lib.hid e
  have HH := Lib.hid hh
  have HF := Lib.hid hfw
  clear h e hh hfw hhd0 hown hLl hcap hmin hT hf hm hn hA hlen hdt hx0 hy0 hzz hx hz1 hz2 hcp hAk hk1
  go_enter Try.func14, Try.ntmps14
  go_wp2_with fail
  refine (HH.out _ H.out).mono ?_
  rintro e w1 ⟨d1, rfl, rfl⟩
  go_wp2_with fail
  refine (HH.out (w.drewN d1) H.out).mono ?_
  rintro e w2 ⟨d2, rfl, rfl⟩
  go_wp2_with fail
  go_quiet (fail)
  go_wp2_with fail
  refine (HH.out (w.drewN _) H.out).mono ?_
  rintro e w4 ⟨d4, rfl, rfl⟩
  go_wp2_with fail
  refine wp_region_invT (F := ?FA) (V := VRg w.heap.size bx b n c At k Ak (c - At) ((l.drop At).take k)) (dead := fun _ => none) (T := fun _ _ => True) (C := fun u => Below w.heap.size w u) (E := fun _ u u' => Below u.heap.size u u') (by kernel_rfl) (by kernel_rfl) (by kernel_rfl) (fun x => ?hFA) ?hmonoA ?hTmA ?hTA ?hCA ?stepA ?finA
  case hFA => simp only [mkA, Act.put, List.setIfInBounds_toArray, List.set_cons_succ, List.set_cons_zero, Nat.reduceAdd, Nat.zero_add]; first | with_reducible rfl | rfl
  case hmonoA => exact fun q i v u u' he hik hwt hdd hv => VRg.mono he hv
  case hTmA => exact fun _ _ _ _ _ _ _ _ => trivial
  case hTA => exact fun j => trivial
  case hCA => exact (bl_drewN w _).drew
  case stepA =>
    refine AllOps.cons (fun x u hC hT hp K hK => ?_) ?_
    · clear hp hT
      go_simp
      refine hK _ _ _ hC (Below.refl _ _) (by exact rfl) ?_
      first | (simp only [Act.put, List.setIfInBounds_toArray, List.set_cons_succ, List.set_cons_zero]; done) | simp [Act.put]
    refine AllOps.cons (fun x u hC hT hp K hK => ?_) ?_
    · simp [KnownTill, Region.binds, VRg] at hp
      clear hT
      go_simp
      refine hK _ _ _ hC (Below.refl _ _) (by exact rfl) ?_
      first | (simp only [Act.put, List.setIfInBounds_toArray, List.set_cons_succ, List.set_cons_zero, hp]; done) | simp [Act.put, hp]
    refine AllOps.cons (fun x u hC hT hp K hK => ?_) ?_
    · simp [KnownTill, Region.binds, VRg] at hp
      clear hT
      go_simp
      refine hK _ _ _ hC (Below.refl _ _) (by exact rfl) ?_
      first | (simp only [Act.put, List.setIfInBounds_toArray, List.set_cons_succ, List.set_cons_zero, hp]; done) | simp [Act.put, hp]
    refine AllOps.cons (fun x u hC hT hp K hK => ?_) ?_
    · simp [KnownTill, Region.binds, VRg] at hp
      clear hT
      obtain ⟨g0, g1, g2, g3⟩ := (RefAt.below H.out hC).cells
      go_simp
      refine hK _ _ _ hC (Below.refl _ _) (by exact rfl) ?_
      first | (simp only [Act.put, List.setIfInBounds_toArray, List.set_cons_succ, List.set_cons_zero, hp]; done) | simp [Act.put, hp]
    refine AllOps.cons (fun x u hC hT hp K hK => ?_) ?_
    · clear hp hT
      go_simp
      refine hK _ _ _ hC (Below.refl _ _) (by exact rfl) ?_
      first | (simp only [Act.put, List.setIfInBounds_toArray, List.set_cons_succ, List.set_cons_zero]; done) | simp [Act.put]
    refine AllOps.cons (fun x u hC hT hp K hK => ?_) ?_
    · simp [KnownTill, Region.binds, VRg] at hp
      clear hT
      go_simp
      refine hK _ _ _ hC (Below.refl _ _) (by exact rfl) ?_
      first | (simp only [Act.put, List.setIfInBounds_toArray, List.set_cons_succ, List.set_cons_zero, hp]; done) | simp [Act.put, hp]
    refine AllOps.cons (fun x u hC hT hp K hK => ?_) ?_
    · simp [KnownTill, Region.binds, VRg] at hp
      clear hT
      go_simp
      refine hK _ _ _ hC (Below.refl _ _) (by exact rfl) ?_
      first | (simp only [Act.put, List.setIfInBounds_toArray, List.set_cons_succ, List.set_cons_zero, hp]; done) | simp [Act.put, hp]
    refine AllOps.cons (fun x u hC hT hp K hK => ?_) ?_
    · simp [KnownTill, Region.binds, VRg] at hp
      clear hT
      obtain ⟨g0, g1, g2, g3⟩ := (RefAt.below H.out hC).cells
      go_simp
      refine hK _ _ _ hC (Below.refl _ _) (by exact rfl) ?_
      first | (simp only [Act.put, List.setIfInBounds_toArray, List.set_cons_succ, List.set_cons_zero, hp]; done) | simp [Act.put, hp]
    refine AllOps.cons (fun x u hC hT hp K hK => ?_) ?_
    · clear hp hT
      go_simp
      refine hK _ _ _ hC (Below.refl _ _) (by exact rfl) ?_
      first | (simp only [Act.put, List.setIfInBounds_toArray, List.set_cons_succ, List.set_cons_zero]; done) | simp [Act.put]
    refine AllOps.cons (fun x u hC hT hp K hK => ?_) ?_
    · simp [KnownTill, Region.binds, VRg] at hp
      clear hT
      go_simp
      refine hK _ _ _ hC (Below.refl _ _) (by exact rfl) ?_
      first | (simp only [Act.put, List.setIfInBounds_toArray, List.set_cons_succ, List.set_cons_zero, hp]; done) | simp [Act.put, hp]
    refine AllOps.cons (fun x u hC hT hp K hK => ?_) ?_
    · simp [KnownTill, Region.binds, VRg] at hp
      clear hT
      go_simp
      refine hK _ _ _ hC (Below.refl _ _) (by exact rfl) ?_
      first | (simp only [Act.put, List.setIfInBounds_toArray, List.set_cons_succ, List.set_cons_zero, hp]; done) | simp [Act.put, hp]
    refine AllOps.cons (fun x u hC hT hp K hK => ?_) ?_
    · simp [KnownTill, Region.binds, VRg] at hp
      clear hT
      obtain ⟨g0, g1, g2, g3⟩ := (RefAt.below H.out hC).cells
      go_simp
      refine hK _ _ _ hC (Below.refl _ _) (by exact rfl) ?_
      first | (simp only [Act.put, List.setIfInBounds_toArray, List.set_cons_succ, List.set_cons_zero, hp]; done) | simp [Act.put, hp]
    refine AllOps.cons (fun x u hC hT hp K hK => ?_) ?_
    · clear hp hT
      go_simp
      refine hK _ _ _ hC (Below.refl _ _) (by exact rfl) ?_
      first | (simp only [Act.put, List.setIfInBounds_toArray, List.set_cons_succ, List.set_cons_zero]; done) | simp [Act.put]
    refine AllOps.cons (fun x u hC hT hp K hK => ?_) ?_
    · simp [KnownTill, Region.binds, VRg] at hp
      clear hT
      go_simp
      refine hK _ _ _ hC (Below.refl _ _) (by exact rfl) ?_
      first | (simp only [Act.put, List.setIfInBounds_toArray, List.set_cons_succ, List.set_cons_zero, hp]; done) | simp [Act.put, hp]
    refine AllOps.cons (fun x u hC hT hp K hK => ?_) ?_
    · simp [KnownTill, Region.binds, VRg] at hp
      clear hT
      go_simp
      refine hK _ _ _ hC (Below.refl _ _) (by exact rfl) ?_
      first | (simp only [Act.put, List.setIfInBounds_toArray, List.set_cons_succ, List.set_cons_zero, hp]; done) | simp [Act.put, hp]
    refine AllOps.cons (fun x u hC hT hp K hK => ?_) ?_
    · simp [KnownTill, Region.binds, VRg] at hp
      clear hT
      go_simp
      refine (HCP.out _ _ hC).mono ?_
      rintro e wA ⟨A1, c1, rfl, own1, hbA⟩
      refine hK _ _ _ (Go.Proofs.Ytgbcjimfpoeicaa.bt hC hbA) hbA (by exact ⟨A1, c1, rfl, own1.base_le hC.size⟩) ?_
      first | (simp only [Act.put, List.setIfInBounds_toArray, List.set_cons_succ, List.set_cons_zero, hp]; done) | simp [Act.put, hp]
    refine AllOps.cons (fun x u hC hT hp K hK => ?_) ?_
    · simp [KnownTill, Region.binds, VRg] at hp
      clear hT
      obtain ⟨A1, c1_, h7, own7⟩ : SlN u w.heap.size k ((l.drop At).take k) (x 15) := by first | exact hp | exact hp.1
      go_simp
      refine hK _ _ _ hC (Below.refl _ _) (by exact ⟨A1, c1_, rfl, own7⟩) ?_
      first | (simp only [Act.put, List.setIfInBounds_toArray, List.set_cons_succ, List.set_cons_zero, hp, h7]; done) | simp [Act.put, hp, h7]
    exact AllOps.nil
  case finA =>
    intro x u hC hV
    obtain ⟨A1, c1_, e16, own1⟩ : SlN u w.heap.size k ((l.drop At).take k) (x 16) := hV 16 (by decide) rfl
    clear hV HCP
    rw [e16]
    clear e16
    have hu := RefAt.below H.out hC
    obtain ⟨g0, g1, g2, g3⟩ := hu.cells
    have f1 := Blk.frozen hu 1
    have hb5 := Blk.set_ hu 1 (.int .i64 (Ak : Int))
    simp only [List.setIfInBounds_toArray, List.set_cons_succ, List.set_cons_zero] at hb5
    have h5c := Blk.cell hb5 2
    simp only [List.getElem?_toArray, List.getElem?_cons_zero, List.getElem?_cons_succ] at h5c
    have f2 := Blk.frozen hb5 2
    have hb6 := Blk.set_ hb5 2 (.int .i64 (T : Int))
    simp only [List.setIfInBounds_toArray, List.set_cons_succ, List.set_cons_zero] at hb6
    have h6c := Blk.cell hb6 1
    simp only [List.getElem?_toArray, List.getElem?_cons_zero, List.getElem?_cons_succ] at h6c
    have n1 : blk A1 ≠ some bx := fun e => own1.ne_blk' hu ref_ne e.symm
    have own2 := own1.kept (grown_set u ⟨bx, 1, none⟩ (.int .i64 (Ak : Int))) (.inr n1)
    have own3 := own2.kept (grown_set (u.setCell ⟨bx, 1, none⟩ (.int .i64 (Ak : Int))) ⟨bx, 2, none⟩ (.int .i64 (T : Int))) (.inr n1)
    have hg3 := grownBy_trans (grown_of hC (some bx)) (grownBy_trans (grown_set u ⟨bx, 1, none⟩ (.int .i64 (Ak : Int))) (grown_set (u.setCell ⟨bx, 1, none⟩ (.int .i64 (Ak : Int))) ⟨bx, 2, none⟩ (.int .i64 (T : Int))))
    have HB6 := Lib.hid hb6
    have HO3 := Lib.hid own3
    have HG3 := Lib.hid hg3
    clear hu hb5 hb6 own1 own2 own3 hg3 hC n1 g0 g3
    go_wp2
    go_quiet (fail)
    go_wp2
    go_ret3
    obtain ⟨q1, q2, q3⟩ := HQ.out
    have hEE : r = (((l.drop At).take k, false, 0), z - k, (l.drop At).drop k) := by rw [E.out]; rw [show decide (z - k = 0) = false from (by simp; omega)]
    subst hEE
    refine ⟨A1, k, c1_, rfl, Lib.hid (by simp only; rw [hLK.out]), HO3.out.drewN _, ?_, grown_drewN HG3.out _⟩
    simp only [hLK.out]
    rw [show At + k = Ak by omega, show Ak + (z - k) = T by omega]
    exact HB6.out
set_option maxRecDepth 100000 in
set_option maxHeartbeats 2000000 in
theorem rget_in_fewA {w : World} {bx : Nat} {A : Option Addr} {n c At left : Nat} {en : Bool} {l : List UInt8} (h : RefAt w bx A n c At (At + left) en) (hl : Hid (n = l.length)) (hown : Own w 0 5 A c l) (hA : At ≤ n) (hn : n ≤ 100000000) (m : Int) (hz1 : 1 ≤ left) (hz2 : left ≤ 32767) (hm : (left : Int) ≤ m) (hf : n < At + left) : Calls Try.prog 14 #[.pointer (some ⟨bx, 0, none⟩), .int .i64 m] w (RGetO w bx A n c At en (getM left (l.drop At) en m)) := by
  have hLl : (l.drop At).length = n - At := by rw [List.length_drop, ← hl.out]
  have e : getM left (l.drop At) en m = takeM left (l.drop At) en (m).toNat left := by unfold getM; rw [if_neg (by omega), if_neg (by omega)]
  have hmin : min (m).toNat left = left := by omega
  unfold takeM at e
  rw [hmin] at e
  rw [if_pos (by rw [hLl]; omega)] at e
  generalize getM left (l.drop At) en m = r at *
  have hm1 : ¬ m < 1 := by omega
  have hm1d : decide (m < 1) = false := by simp; omega
  obtain ⟨hd, hhd0⟩ : ∃ hd, hd = n - At := ⟨_, rfl⟩
  have hh := fun (u : World) (hu : RefAt u bx A n c At (At + left) en) => refheld hu hA (by omega) hd hhd0
  have hfw := fun (u : World) (hu : RefAt u bx A n c At (At + left) en) => reffew hu
  have hcap := Own.cap hown
  rw [← hl.out] at hcap
  simp only [maxLen] at hcap
  have hdn : hd = hd := rfl
  obtain ⟨c0, c1, c2, c3⟩ := h.cells
  obtain ⟨T, hT⟩ : ∃ T, T = At + left := ⟨_, rfl⟩
  have HT := Lib.hid hT
  rw [← hT] at c2 h hh hfw
  have hTA : ¬ (T : Int) ≤ (At : Int) := by omega
  have hTA2 : ¬ T ≤ At := by omega
  have eN : IntKind.i64.wrap ((T : Int) - (At : Int)) = (left : Int) := by rw [IntWalk.i64_in _ (by omega)]; omega
  have eM : ¬ m < (left : Int) := by omega
  have eF : decide ((hd : Int) < (left : Int)) = true := by simp; omega
  have eF2 : hd < left := by omega
  have H := Lib.hid h
  have E := Lib.hid e
  have HH := Lib.hid hh
  have HF := Lib.hid hfw
  clear h e hh hfw hhd0 hown hLl hcap hmin hT hf hm hn hA hz1 hz2
  go_enter Try.func14, Try.ntmps14
  go_wp2_with fail
  refine (HH.out _ H.out).mono ?_
  rintro e w1 ⟨d1, rfl, rfl⟩
  go_wp2_with fail
  refine (HF.out (w.drewN d1) H.out).mono ?_
  rintro e w3 ⟨rfl, rfl⟩
  go_wp2
  go_ret3
  obtain rfl := HT.out
  exact RGetO.err H.out (grown_of (bl_drewN w d1) _) E.out
set_option maxRecDepth 100000 in
set_option maxHeartbeats 2000000 in
theorem rget_in_fewB {w : World} {bx : Nat} {A : Option Addr} {n c At left : Nat} {en : Bool} {l : List UInt8} (h : RefAt w bx A n c At (At + left) en) (hl : Hid (n = l.length)) (hown : Own w 0 5 A c l) (hA : At ≤ n) (hn : n ≤ 100000000) (m : Int) (hz1 : 1 ≤ left) (hz2 : left ≤ 32767) (k : Nat) (hk : m = k) (hk1 : 1 ≤ k) (hm : k < left) (hf : n < At + k) : Calls Try.prog 14 #[.pointer (some ⟨bx, 0, none⟩), .int .i64 m] w (RGetO w bx A n c At en (getM left (l.drop At) en m)) := by
  subst hk
  have hLl : (l.drop At).length = n - At := by rw [List.length_drop, ← hl.out]
  have e : getM left (l.drop At) en (k : Int) = takeM left (l.drop At) en ((k : Int)).toNat left := by unfold getM; rw [if_neg (by omega), if_neg (by omega)]
  have hmin : min ((k : Int)).toNat left = k := by omega
  unfold takeM at e
  rw [hmin] at e
  rw [if_pos (by rw [hLl]; omega)] at e
  generalize getM left (l.drop At) en (k : Int) = r at *
  have hm1 : ¬ (k : Int) < 1 := by omega
  have hm1d : decide ((k : Int) < 1) = false := by simp; omega
  obtain ⟨hd, hhd0⟩ : ∃ hd, hd = n - At := ⟨_, rfl⟩
  have hh := fun (u : World) (hu : RefAt u bx A n c At (At + left) en) => refheld hu hA (by omega) hd hhd0
  have hfw := fun (u : World) (hu : RefAt u bx A n c At (At + left) en) => reffew hu
  have hcap := Own.cap hown
  rw [← hl.out] at hcap
  simp only [maxLen] at hcap
  have hdn : hd = hd := rfl
  obtain ⟨c0, c1, c2, c3⟩ := h.cells
  obtain ⟨T, hT⟩ : ∃ T, T = At + left := ⟨_, rfl⟩
  have HT := Lib.hid hT
  rw [← hT] at c2 h hh hfw
  have hTA : ¬ (T : Int) ≤ (At : Int) := by omega
  have hTA2 : ¬ T ≤ At := by omega
  have eN : IntKind.i64.wrap ((T : Int) - (At : Int)) = (left : Int) := by rw [IntWalk.i64_in _ (by omega)]; omega
  have eM : (k : Int) < (left : Int) := by omega
  have eM2 : k < left := by omega
  have eF : decide ((hd : Int) < (k : Int)) = true := by simp; omega
  have eF2 : hd < k := by omega
  have H := Lib.hid h
  have E := Lib.hid e
  have HH := Lib.hid hh
  have HF := Lib.hid hfw
  clear h e hh hfw hhd0 hown hLl hcap hmin hT hf hm hn hA hz1 hz2 hk1
  go_enter Try.func14, Try.ntmps14
  go_wp2_with fail
  refine (HH.out _ H.out).mono ?_
  rintro e w1 ⟨d1, rfl, rfl⟩
  go_wp2_with fail
  refine (HF.out (w.drewN d1) H.out).mono ?_
  rintro e w3 ⟨rfl, rfl⟩
  go_wp2
  go_ret3
  obtain rfl := HT.out
  exact RGetO.err H.out (grown_of (bl_drewN w d1) _) E.out
set_option maxRecDepth 100000 in
set_option maxHeartbeats 2000000 in
theorem rget_in_okA {w : World} {bx : Nat} {A : Option Addr} {n c At left : Nat} {en : Bool} {l : List UInt8} (h : RefAt w bx A n c At (At + left) en) (hl : Hid (n = l.length)) (hown : Own w 0 5 A c l) (hA : At ≤ n) (hn : n ≤ 100000000) (m : Int) (hz1 : 1 ≤ left) (hz2 : left ≤ 32767) (hm : (left : Int) ≤ m) (hf : At + left ≤ n) : Calls Try.prog 14 #[.pointer (some ⟨bx, 0, none⟩), .int .i64 m] w (RGetO w bx A n c At en (getM left (l.drop At) en m)) := by
  have hLl : (l.drop At).length = n - At := by rw [List.length_drop, ← hl.out]
  have e : getM left (l.drop At) en m = takeM left (l.drop At) en (m).toNat left := by unfold getM; rw [if_neg (by omega), if_neg (by omega)]
  have hmin : min (m).toNat left = left := by omega
  unfold takeM at e
  rw [hmin] at e
  rw [if_neg (by rw [hLl]; omega)] at e
  generalize getM left (l.drop At) en m = r at *
  have hm1 : ¬ m < 1 := by omega
  have hm1d : decide (m < 1) = false := by simp; omega
  obtain ⟨hd, hhd0⟩ : ∃ hd, hd = n - At := ⟨_, rfl⟩
  have hh := fun (u : World) (hu : RefAt u bx A n c At (At + left) en) => refheld hu hA (by omega) hd hhd0
  have hfw := fun (u : World) (hu : RefAt u bx A n c At (At + left) en) => reffew hu
  have hcap := Own.cap hown
  rw [← hl.out] at hcap
  simp only [maxLen] at hcap
  obtain ⟨b, rfl, _, _, _, _⟩ := hown.form (by rw [← hl.out]; omega)
  obtain ⟨c0, c1, c2, c3⟩ := h.cells
  obtain ⟨T, hT⟩ : ∃ T, T = At + left := ⟨_, rfl⟩
  have HT := Lib.hid hT
  rw [← hT] at c2 h hh hfw
  have hTA : ¬ (T : Int) ≤ (At : Int) := by omega
  have hTA2 : ¬ T ≤ At := by omega
  have eN : IntKind.i64.wrap ((T : Int) - (At : Int)) = (left : Int) := by rw [IntWalk.i64_in _ (by omega)]; omega
  have eM : ¬ m < (left : Int) := by omega
  have eF : decide ((hd : Int) < (left : Int)) = false := by simp; omega
  have eF2 : ¬ hd < left := by omega
  have eA : IntKind.i64.wrap ((At : Int) + (left : Int)) = (T : Int) := by rw [IntWalk.i64_in _ (by omega)]; omega
  have j1 : (At : Int) ≤ (T : Int) := by omega
  have j2 : (T : Int) ≤ (c : Int) := by omega
  have j3 : At ≤ T := by omega
  have j4 : T ≤ c := by omega
  have j5 : T - At = left := by omega
  have j6 : At < c := by omega
  have j7 : ¬ c = At := by omega
  have hcp := fun (cc : Nat) (u : World) (hu : Below w.heap.size w u) => ncopy (some ⟨b, At, none⟩) ((l.drop At).take left) left cc u (Lib.hid (by rw [List.length_take, hLl]; omega)) (Lib.hid (by rw [List.length_take, hLl]; omega)) (((bs_take' (bs_drop' (A2 := some ⟨b, At, none⟩) hown.bs At (fun _ b' o' e' => by simp only [Option.some.injEq, Addr.mk.injEq] at e'; obtain ⟨rfl, rfl, _⟩ := e'; simp)) left).below hu).more hu.size)
  have HCP := Lib.hid hcp
  have hbA : Hid (b ≠ bx) := Lib.hid (fun e => by have := Own.ne_blk' hown h ref_ne; exact this (by simp [blk, e]))
  have HQ := Lib.hid (show T = At + left ∧ T = At + left ∧ left ≤ left from ⟨by omega, by omega, by omega⟩)
  have hLK := Lib.hid (show ((l.drop At).take left).length = left by rw [List.length_take, hLl]; omega)
  have H := Lib.hid h
  have E := Lib.hid e
  have HH := Lib.hid hh
  have HF := Lib.hid hfw
  clear h e hh hfw hhd0 hown hLl hcap hmin hT hf hm hn hA hz1 hz2 hcp
  go_enter Try.func14, Try.ntmps14
  go_wp2_with fail
  refine (HH.out _ H.out).mono ?_
  rintro e w1 ⟨d1, rfl, rfl⟩
  go_wp2_with fail
  refine wp_region_invT (F := ?FA) (V := VRg w.heap.size bx b n c At left T (c - At) ((l.drop At).take left)) (dead := fun _ => none) (T := fun _ _ => True) (C := fun u => Below w.heap.size w u) (E := fun _ u u' => Below u.heap.size u u') (by kernel_rfl) (by kernel_rfl) (by kernel_rfl) (fun x => ?hFA) ?hmonoA ?hTmA ?hTA ?hCA ?stepA ?finA
  case hFA => simp only [mkA, Act.put, List.setIfInBounds_toArray, List.set_cons_succ, List.set_cons_zero, Nat.reduceAdd, Nat.zero_add]; first | with_reducible rfl | rfl
  case hmonoA => exact fun q i v u u' he hik hwt hdd hv => VRg.mono he hv
  case hTmA => exact fun _ _ _ _ _ _ _ _ => trivial
  case hTA => exact fun j => trivial
  case hCA => exact (bl_drewN w _).drew
  case stepA =>
    refine AllOps.cons (fun x u hC hT hp K hK => ?_) ?_
    · clear hp hT
      go_simp
      refine hK _ _ _ hC (Below.refl _ _) (by exact rfl) ?_
      first | (simp only [Act.put, List.setIfInBounds_toArray, List.set_cons_succ, List.set_cons_zero]; done) | simp [Act.put]
    refine AllOps.cons (fun x u hC hT hp K hK => ?_) ?_
    · simp [KnownTill, Region.binds, VRg] at hp
      clear hT
      go_simp
      refine hK _ _ _ hC (Below.refl _ _) (by exact rfl) ?_
      first | (simp only [Act.put, List.setIfInBounds_toArray, List.set_cons_succ, List.set_cons_zero, hp]; done) | simp [Act.put, hp]
    refine AllOps.cons (fun x u hC hT hp K hK => ?_) ?_
    · simp [KnownTill, Region.binds, VRg] at hp
      clear hT
      go_simp
      refine hK _ _ _ hC (Below.refl _ _) (by exact rfl) ?_
      first | (simp only [Act.put, List.setIfInBounds_toArray, List.set_cons_succ, List.set_cons_zero, hp]; done) | simp [Act.put, hp]
    refine AllOps.cons (fun x u hC hT hp K hK => ?_) ?_
    · simp [KnownTill, Region.binds, VRg] at hp
      clear hT
      obtain ⟨g0, g1, g2, g3⟩ := (RefAt.below H.out hC).cells
      go_simp
      refine hK _ _ _ hC (Below.refl _ _) (by exact rfl) ?_
      first | (simp only [Act.put, List.setIfInBounds_toArray, List.set_cons_succ, List.set_cons_zero, hp]; done) | simp [Act.put, hp]
    refine AllOps.cons (fun x u hC hT hp K hK => ?_) ?_
    · clear hp hT
      go_simp
      refine hK _ _ _ hC (Below.refl _ _) (by exact rfl) ?_
      first | (simp only [Act.put, List.setIfInBounds_toArray, List.set_cons_succ, List.set_cons_zero]; done) | simp [Act.put]
    refine AllOps.cons (fun x u hC hT hp K hK => ?_) ?_
    · simp [KnownTill, Region.binds, VRg] at hp
      clear hT
      go_simp
      refine hK _ _ _ hC (Below.refl _ _) (by exact rfl) ?_
      first | (simp only [Act.put, List.setIfInBounds_toArray, List.set_cons_succ, List.set_cons_zero, hp]; done) | simp [Act.put, hp]
    refine AllOps.cons (fun x u hC hT hp K hK => ?_) ?_
    · simp [KnownTill, Region.binds, VRg] at hp
      clear hT
      go_simp
      refine hK _ _ _ hC (Below.refl _ _) (by exact rfl) ?_
      first | (simp only [Act.put, List.setIfInBounds_toArray, List.set_cons_succ, List.set_cons_zero, hp]; done) | simp [Act.put, hp]
    refine AllOps.cons (fun x u hC hT hp K hK => ?_) ?_
    · simp [KnownTill, Region.binds, VRg] at hp
      clear hT
      obtain ⟨g0, g1, g2, g3⟩ := (RefAt.below H.out hC).cells
      go_simp
      refine hK _ _ _ hC (Below.refl _ _) (by exact rfl) ?_
      first | (simp only [Act.put, List.setIfInBounds_toArray, List.set_cons_succ, List.set_cons_zero, hp]; done) | simp [Act.put, hp]
    refine AllOps.cons (fun x u hC hT hp K hK => ?_) ?_
    · clear hp hT
      go_simp
      refine hK _ _ _ hC (Below.refl _ _) (by exact rfl) ?_
      first | (simp only [Act.put, List.setIfInBounds_toArray, List.set_cons_succ, List.set_cons_zero]; done) | simp [Act.put]
    refine AllOps.cons (fun x u hC hT hp K hK => ?_) ?_
    · simp [KnownTill, Region.binds, VRg] at hp
      clear hT
      go_simp
      refine hK _ _ _ hC (Below.refl _ _) (by exact rfl) ?_
      first | (simp only [Act.put, List.setIfInBounds_toArray, List.set_cons_succ, List.set_cons_zero, hp]; done) | simp [Act.put, hp]
    refine AllOps.cons (fun x u hC hT hp K hK => ?_) ?_
    · simp [KnownTill, Region.binds, VRg] at hp
      clear hT
      go_simp
      refine hK _ _ _ hC (Below.refl _ _) (by exact rfl) ?_
      first | (simp only [Act.put, List.setIfInBounds_toArray, List.set_cons_succ, List.set_cons_zero, hp]; done) | simp [Act.put, hp]
    refine AllOps.cons (fun x u hC hT hp K hK => ?_) ?_
    · simp [KnownTill, Region.binds, VRg] at hp
      clear hT
      obtain ⟨g0, g1, g2, g3⟩ := (RefAt.below H.out hC).cells
      go_simp
      refine hK _ _ _ hC (Below.refl _ _) (by exact rfl) ?_
      first | (simp only [Act.put, List.setIfInBounds_toArray, List.set_cons_succ, List.set_cons_zero, hp]; done) | simp [Act.put, hp]
    refine AllOps.cons (fun x u hC hT hp K hK => ?_) ?_
    · clear hp hT
      go_simp
      refine hK _ _ _ hC (Below.refl _ _) (by exact rfl) ?_
      first | (simp only [Act.put, List.setIfInBounds_toArray, List.set_cons_succ, List.set_cons_zero]; done) | simp [Act.put]
    refine AllOps.cons (fun x u hC hT hp K hK => ?_) ?_
    · simp [KnownTill, Region.binds, VRg] at hp
      clear hT
      go_simp
      refine hK _ _ _ hC (Below.refl _ _) (by exact rfl) ?_
      first | (simp only [Act.put, List.setIfInBounds_toArray, List.set_cons_succ, List.set_cons_zero, hp]; done) | simp [Act.put, hp]
    refine AllOps.cons (fun x u hC hT hp K hK => ?_) ?_
    · simp [KnownTill, Region.binds, VRg] at hp
      clear hT
      go_simp
      refine hK _ _ _ hC (Below.refl _ _) (by exact rfl) ?_
      first | (simp only [Act.put, List.setIfInBounds_toArray, List.set_cons_succ, List.set_cons_zero, hp]; done) | simp [Act.put, hp]
    refine AllOps.cons (fun x u hC hT hp K hK => ?_) ?_
    · simp [KnownTill, Region.binds, VRg] at hp
      clear hT
      go_simp
      refine (HCP.out _ _ hC).mono ?_
      rintro e wA ⟨A1, c1, rfl, own1, hbA⟩
      refine hK _ _ _ (Go.Proofs.Ytgbcjimfpoeicaa.bt hC hbA) hbA (by exact ⟨A1, c1, rfl, own1.base_le hC.size⟩) ?_
      first | (simp only [Act.put, List.setIfInBounds_toArray, List.set_cons_succ, List.set_cons_zero, hp]; done) | simp [Act.put, hp]
    refine AllOps.cons (fun x u hC hT hp K hK => ?_) ?_
    · simp [KnownTill, Region.binds, VRg] at hp
      clear hT
      obtain ⟨A1, c1_, h7, own7⟩ : SlN u w.heap.size left ((l.drop At).take left) (x 15) := by first | exact hp | exact hp.1
      go_simp
      refine hK _ _ _ hC (Below.refl _ _) (by exact ⟨A1, c1_, rfl, own7⟩) ?_
      first | (simp only [Act.put, List.setIfInBounds_toArray, List.set_cons_succ, List.set_cons_zero, hp, h7]; done) | simp [Act.put, hp, h7]
    exact AllOps.nil
  case finA =>
    intro x u hC hV
    obtain ⟨A1, c1_, e16, own1⟩ : SlN u w.heap.size left ((l.drop At).take left) (x 16) := hV 16 (by decide) rfl
    clear hV HCP
    rw [e16]
    clear e16
    have hu := RefAt.below H.out hC
    obtain ⟨g0, g1, g2, g3⟩ := hu.cells
    have f1 := Blk.frozen hu 1
    have hb5 := Blk.set_ hu 1 (.int .i64 (T : Int))
    simp only [List.setIfInBounds_toArray, List.set_cons_succ, List.set_cons_zero] at hb5
    have h5c := Blk.cell hb5 2
    simp only [List.getElem?_toArray, List.getElem?_cons_zero, List.getElem?_cons_succ] at h5c
    have f2 := Blk.frozen hb5 2
    have hb6 := Blk.set_ hb5 2 (.int .i64 (T : Int))
    simp only [List.setIfInBounds_toArray, List.set_cons_succ, List.set_cons_zero] at hb6
    have h6c := Blk.cell hb6 1
    simp only [List.getElem?_toArray, List.getElem?_cons_zero, List.getElem?_cons_succ] at h6c
    have n1 : blk A1 ≠ some bx := fun e => own1.ne_blk' hu ref_ne e.symm
    have own2 := own1.kept (grown_set u ⟨bx, 1, none⟩ (.int .i64 (T : Int))) (.inr n1)
    have own3 := own2.kept (grown_set (u.setCell ⟨bx, 1, none⟩ (.int .i64 (T : Int))) ⟨bx, 2, none⟩ (.int .i64 (T : Int))) (.inr n1)
    have hg3 := grownBy_trans (grown_of hC (some bx)) (grownBy_trans (grown_set u ⟨bx, 1, none⟩ (.int .i64 (T : Int))) (grown_set (u.setCell ⟨bx, 1, none⟩ (.int .i64 (T : Int))) ⟨bx, 2, none⟩ (.int .i64 (T : Int))))
    have HB6 := Lib.hid hb6
    have HO3 := Lib.hid own3
    have HG3 := Lib.hid hg3
    clear hu hb5 hb6 own1 own2 own3 hg3 hC n1 g0 g3
    go_wp2
    go_quiet (fail)
    go_wp2
    go_ret3
    obtain ⟨q1, q2, q3⟩ := HQ.out
    have hEE : r = (((l.drop At).take left, true, 0), 0, (l.drop At).drop left) := by rw [E.out]; simp
    subst hEE
    refine ⟨A1, left, c1_, rfl, Lib.hid (by simp only; rw [hLK.out]), HO3.out.drewN _, ?_, grown_drewN HG3.out _⟩
    simp only [hLK.out]
    rw [show At + left = T by omega, show T + 0 = T by omega]
    exact HB6.out
set_option maxRecDepth 100000 in
set_option maxHeartbeats 2000000 in
theorem rget_in_okB {w : World} {bx : Nat} {A : Option Addr} {n c At left : Nat} {en : Bool} {l : List UInt8} (h : RefAt w bx A n c At (At + left) en) (hl : Hid (n = l.length)) (hown : Own w 0 5 A c l) (hA : At ≤ n) (hn : n ≤ 100000000) (m : Int) (hz1 : 1 ≤ left) (hz2 : left ≤ 32767) (k : Nat) (hk : m = k) (hk1 : 1 ≤ k) (hm : k < left) (hf : At + k ≤ n) : Calls Try.prog 14 #[.pointer (some ⟨bx, 0, none⟩), .int .i64 m] w (RGetO w bx A n c At en (getM left (l.drop At) en m)) := by
  subst hk
  have hLl : (l.drop At).length = n - At := by rw [List.length_drop, ← hl.out]
  have e : getM left (l.drop At) en (k : Int) = takeM left (l.drop At) en ((k : Int)).toNat left := by unfold getM; rw [if_neg (by omega), if_neg (by omega)]
  have hmin : min ((k : Int)).toNat left = k := by omega
  unfold takeM at e
  rw [hmin] at e
  rw [if_neg (by rw [hLl]; omega)] at e
  generalize getM left (l.drop At) en (k : Int) = r at *
  have hm1 : ¬ (k : Int) < 1 := by omega
  have hm1d : decide ((k : Int) < 1) = false := by simp; omega
  obtain ⟨hd, hhd0⟩ : ∃ hd, hd = n - At := ⟨_, rfl⟩
  have hh := fun (u : World) (hu : RefAt u bx A n c At (At + left) en) => refheld hu hA (by omega) hd hhd0
  have hfw := fun (u : World) (hu : RefAt u bx A n c At (At + left) en) => reffew hu
  have hcap := Own.cap hown
  rw [← hl.out] at hcap
  simp only [maxLen] at hcap
  obtain ⟨b, rfl, _, _, _, _⟩ := hown.form (by rw [← hl.out]; omega)
  obtain ⟨c0, c1, c2, c3⟩ := h.cells
  obtain ⟨T, hT⟩ : ∃ T, T = At + left := ⟨_, rfl⟩
  have HT := Lib.hid hT
  rw [← hT] at c2 h hh hfw
  have hTA : ¬ (T : Int) ≤ (At : Int) := by omega
  have hTA2 : ¬ T ≤ At := by omega
  have eN : IntKind.i64.wrap ((T : Int) - (At : Int)) = (left : Int) := by rw [IntWalk.i64_in _ (by omega)]; omega
  have eM : (k : Int) < (left : Int) := by omega
  have eM2 : k < left := by omega
  have eF : decide ((hd : Int) < (k : Int)) = false := by simp; omega
  have eF2 : ¬ hd < k := by omega
  have eB : ((At : Int) + (k : Int) == (T : Int)) = false := by simp; omega
  have eB' : (((At + k : Nat) : Int) == (T : Int)) = false := by simp; omega
  obtain ⟨Ak, hAk⟩ : ∃ Ak, Ak = At + k := ⟨_, rfl⟩
  have eA : IntKind.i64.wrap ((At : Int) + (k : Int)) = (Ak : Int) := by rw [IntWalk.i64_in _ (by omega)]; omega
  have eB3 : ((Ak : Int) == (T : Int)) = false := by simp; omega
  have j1 : (At : Int) ≤ (Ak : Int) := by omega
  have j2 : (Ak : Int) ≤ (c : Int) := by omega
  have j3 : At ≤ Ak := by omega
  have j4 : Ak ≤ c := by omega
  have j5 : Ak - At = k := by omega
  have j6 : At < c := by omega
  have j7 : ¬ c = At := by omega
  have hcp := fun (cc : Nat) (u : World) (hu : Below w.heap.size w u) => ncopy (some ⟨b, At, none⟩) ((l.drop At).take k) k cc u (Lib.hid (by rw [List.length_take, hLl]; omega)) (Lib.hid (by rw [List.length_take, hLl]; omega)) (((bs_take' (bs_drop' (A2 := some ⟨b, At, none⟩) hown.bs At (fun _ b' o' e' => by simp only [Option.some.injEq, Addr.mk.injEq] at e'; obtain ⟨rfl, rfl, _⟩ := e'; simp)) k).below hu).more hu.size)
  have HCP := Lib.hid hcp
  have hbA : Hid (b ≠ bx) := Lib.hid (fun e => by have := Own.ne_blk' hown h ref_ne; exact this (by simp [blk, e]))
  have HQ := Lib.hid (show Ak = At + k ∧ T = At + left ∧ k ≤ left from ⟨by omega, by omega, by omega⟩)
  have hLK := Lib.hid (show ((l.drop At).take k).length = k by rw [List.length_take, hLl]; omega)
  have H := Lib.hid h
  have E := Lib.hid e
  have HH := Lib.hid hh
  have HF := Lib.hid hfw
  clear h e hh hfw hhd0 hown hLl hcap hmin hT hf hm hn hA hz1 hz2 hcp hAk hk1
  go_enter Try.func14, Try.ntmps14
  go_wp2_with fail
  refine (HH.out _ H.out).mono ?_
  rintro e w1 ⟨d1, rfl, rfl⟩
  go_wp2_with fail
  refine wp_region_invT (F := ?FA) (V := VRg w.heap.size bx b n c At k Ak (c - At) ((l.drop At).take k)) (dead := fun _ => none) (T := fun _ _ => True) (C := fun u => Below w.heap.size w u) (E := fun _ u u' => Below u.heap.size u u') (by kernel_rfl) (by kernel_rfl) (by kernel_rfl) (fun x => ?hFA) ?hmonoA ?hTmA ?hTA ?hCA ?stepA ?finA
  case hFA => simp only [mkA, Act.put, List.setIfInBounds_toArray, List.set_cons_succ, List.set_cons_zero, Nat.reduceAdd, Nat.zero_add]; first | with_reducible rfl | rfl
  case hmonoA => exact fun q i v u u' he hik hwt hdd hv => VRg.mono he hv
  case hTmA => exact fun _ _ _ _ _ _ _ _ => trivial
  case hTA => exact fun j => trivial
  case hCA => exact (bl_drewN w _).drew
  case stepA =>
    refine AllOps.cons (fun x u hC hT hp K hK => ?_) ?_
    · clear hp hT
      go_simp
      refine hK _ _ _ hC (Below.refl _ _) (by exact rfl) ?_
      first | (simp only [Act.put, List.setIfInBounds_toArray, List.set_cons_succ, List.set_cons_zero]; done) | simp [Act.put]
    refine AllOps.cons (fun x u hC hT hp K hK => ?_) ?_
    · simp [KnownTill, Region.binds, VRg] at hp
      clear hT
      go_simp
      refine hK _ _ _ hC (Below.refl _ _) (by exact rfl) ?_
      first | (simp only [Act.put, List.setIfInBounds_toArray, List.set_cons_succ, List.set_cons_zero, hp]; done) | simp [Act.put, hp]
    refine AllOps.cons (fun x u hC hT hp K hK => ?_) ?_
    · simp [KnownTill, Region.binds, VRg] at hp
      clear hT
      go_simp
      refine hK _ _ _ hC (Below.refl _ _) (by exact rfl) ?_
      first | (simp only [Act.put, List.setIfInBounds_toArray, List.set_cons_succ, List.set_cons_zero, hp]; done) | simp [Act.put, hp]
    refine AllOps.cons (fun x u hC hT hp K hK => ?_) ?_
    · simp [KnownTill, Region.binds, VRg] at hp
      clear hT
      obtain ⟨g0, g1, g2, g3⟩ := (RefAt.below H.out hC).cells
      go_simp
      refine hK _ _ _ hC (Below.refl _ _) (by exact rfl) ?_
      first | (simp only [Act.put, List.setIfInBounds_toArray, List.set_cons_succ, List.set_cons_zero, hp]; done) | simp [Act.put, hp]
    refine AllOps.cons (fun x u hC hT hp K hK => ?_) ?_
    · clear hp hT
      go_simp
      refine hK _ _ _ hC (Below.refl _ _) (by exact rfl) ?_
      first | (simp only [Act.put, List.setIfInBounds_toArray, List.set_cons_succ, List.set_cons_zero]; done) | simp [Act.put]
    refine AllOps.cons (fun x u hC hT hp K hK => ?_) ?_
    · simp [KnownTill, Region.binds, VRg] at hp
      clear hT
      go_simp
      refine hK _ _ _ hC (Below.refl _ _) (by exact rfl) ?_
      first | (simp only [Act.put, List.setIfInBounds_toArray, List.set_cons_succ, List.set_cons_zero, hp]; done) | simp [Act.put, hp]
    refine AllOps.cons (fun x u hC hT hp K hK => ?_) ?_
    · simp [KnownTill, Region.binds, VRg] at hp
      clear hT
      go_simp
      refine hK _ _ _ hC (Below.refl _ _) (by exact rfl) ?_
      first | (simp only [Act.put, List.setIfInBounds_toArray, List.set_cons_succ, List.set_cons_zero, hp]; done) | simp [Act.put, hp]
    refine AllOps.cons (fun x u hC hT hp K hK => ?_) ?_
    · simp [KnownTill, Region.binds, VRg] at hp
      clear hT
      obtain ⟨g0, g1, g2, g3⟩ := (RefAt.below H.out hC).cells
      go_simp
      refine hK _ _ _ hC (Below.refl _ _) (by exact rfl) ?_
      first | (simp only [Act.put, List.setIfInBounds_toArray, List.set_cons_succ, List.set_cons_zero, hp]; done) | simp [Act.put, hp]
    refine AllOps.cons (fun x u hC hT hp K hK => ?_) ?_
    · clear hp hT
      go_simp
      refine hK _ _ _ hC (Below.refl _ _) (by exact rfl) ?_
      first | (simp only [Act.put, List.setIfInBounds_toArray, List.set_cons_succ, List.set_cons_zero]; done) | simp [Act.put]
    refine AllOps.cons (fun x u hC hT hp K hK => ?_) ?_
    · simp [KnownTill, Region.binds, VRg] at hp
      clear hT
      go_simp
      refine hK _ _ _ hC (Below.refl _ _) (by exact rfl) ?_
      first | (simp only [Act.put, List.setIfInBounds_toArray, List.set_cons_succ, List.set_cons_zero, hp]; done) | simp [Act.put, hp]
    refine AllOps.cons (fun x u hC hT hp K hK => ?_) ?_
    · simp [KnownTill, Region.binds, VRg] at hp
      clear hT
      go_simp
      refine hK _ _ _ hC (Below.refl _ _) (by exact rfl) ?_
      first | (simp only [Act.put, List.setIfInBounds_toArray, List.set_cons_succ, List.set_cons_zero, hp]; done) | simp [Act.put, hp]
    refine AllOps.cons (fun x u hC hT hp K hK => ?_) ?_
    · simp [KnownTill, Region.binds, VRg] at hp
      clear hT
      obtain ⟨g0, g1, g2, g3⟩ := (RefAt.below H.out hC).cells
      go_simp
      refine hK _ _ _ hC (Below.refl _ _) (by exact rfl) ?_
      first | (simp only [Act.put, List.setIfInBounds_toArray, List.set_cons_succ, List.set_cons_zero, hp]; done) | simp [Act.put, hp]
    refine AllOps.cons (fun x u hC hT hp K hK => ?_) ?_
    · clear hp hT
      go_simp
      refine hK _ _ _ hC (Below.refl _ _) (by exact rfl) ?_
      first | (simp only [Act.put, List.setIfInBounds_toArray, List.set_cons_succ, List.set_cons_zero]; done) | simp [Act.put]
    refine AllOps.cons (fun x u hC hT hp K hK => ?_) ?_
    · simp [KnownTill, Region.binds, VRg] at hp
      clear hT
      go_simp
      refine hK _ _ _ hC (Below.refl _ _) (by exact rfl) ?_
      first | (simp only [Act.put, List.setIfInBounds_toArray, List.set_cons_succ, List.set_cons_zero, hp]; done) | simp [Act.put, hp]
    refine AllOps.cons (fun x u hC hT hp K hK => ?_) ?_
    · simp [KnownTill, Region.binds, VRg] at hp
      clear hT
      go_simp
      refine hK _ _ _ hC (Below.refl _ _) (by exact rfl) ?_
      first | (simp only [Act.put, List.setIfInBounds_toArray, List.set_cons_succ, List.set_cons_zero, hp]; done) | simp [Act.put, hp]
    refine AllOps.cons (fun x u hC hT hp K hK => ?_) ?_
    · simp [KnownTill, Region.binds, VRg] at hp
      clear hT
      go_simp
      refine (HCP.out _ _ hC).mono ?_
      rintro e wA ⟨A1, c1, rfl, own1, hbA⟩
      refine hK _ _ _ (Go.Proofs.Ytgbcjimfpoeicaa.bt hC hbA) hbA (by exact ⟨A1, c1, rfl, own1.base_le hC.size⟩) ?_
      first | (simp only [Act.put, List.setIfInBounds_toArray, List.set_cons_succ, List.set_cons_zero, hp]; done) | simp [Act.put, hp]
    refine AllOps.cons (fun x u hC hT hp K hK => ?_) ?_
    · simp [KnownTill, Region.binds, VRg] at hp
      clear hT
      obtain ⟨A1, c1_, h7, own7⟩ : SlN u w.heap.size k ((l.drop At).take k) (x 15) := by first | exact hp | exact hp.1
      go_simp
      refine hK _ _ _ hC (Below.refl _ _) (by exact ⟨A1, c1_, rfl, own7⟩) ?_
      first | (simp only [Act.put, List.setIfInBounds_toArray, List.set_cons_succ, List.set_cons_zero, hp, h7]; done) | simp [Act.put, hp, h7]
    exact AllOps.nil
  case finA =>
    intro x u hC hV
    obtain ⟨A1, c1_, e16, own1⟩ : SlN u w.heap.size k ((l.drop At).take k) (x 16) := hV 16 (by decide) rfl
    clear hV HCP
    rw [e16]
    clear e16
    have hu := RefAt.below H.out hC
    obtain ⟨g0, g1, g2, g3⟩ := hu.cells
    have f1 := Blk.frozen hu 1
    have hb5 := Blk.set_ hu 1 (.int .i64 (Ak : Int))
    simp only [List.setIfInBounds_toArray, List.set_cons_succ, List.set_cons_zero] at hb5
    have h5c := Blk.cell hb5 2
    simp only [List.getElem?_toArray, List.getElem?_cons_zero, List.getElem?_cons_succ] at h5c
    have f2 := Blk.frozen hb5 2
    have hb6 := Blk.set_ hb5 2 (.int .i64 (T : Int))
    simp only [List.setIfInBounds_toArray, List.set_cons_succ, List.set_cons_zero] at hb6
    have h6c := Blk.cell hb6 1
    simp only [List.getElem?_toArray, List.getElem?_cons_zero, List.getElem?_cons_succ] at h6c
    have n1 : blk A1 ≠ some bx := fun e => own1.ne_blk' hu ref_ne e.symm
    have own2 := own1.kept (grown_set u ⟨bx, 1, none⟩ (.int .i64 (Ak : Int))) (.inr n1)
    have own3 := own2.kept (grown_set (u.setCell ⟨bx, 1, none⟩ (.int .i64 (Ak : Int))) ⟨bx, 2, none⟩ (.int .i64 (T : Int))) (.inr n1)
    have hg3 := grownBy_trans (grown_of hC (some bx)) (grownBy_trans (grown_set u ⟨bx, 1, none⟩ (.int .i64 (Ak : Int))) (grown_set (u.setCell ⟨bx, 1, none⟩ (.int .i64 (Ak : Int))) ⟨bx, 2, none⟩ (.int .i64 (T : Int))))
    have HB6 := Lib.hid hb6
    have HO3 := Lib.hid own3
    have HG3 := Lib.hid hg3
    clear hu hb5 hb6 own1 own2 own3 hg3 hC n1 g0 g3
    go_wp2
    go_quiet (fail)
    go_wp2
    go_ret3
    obtain ⟨q1, q2, q3⟩ := HQ.out
    have hEE : r = (((l.drop At).take k, false, 0), left - k, (l.drop At).drop k) := by rw [E.out]; rw [show decide (left - k = 0) = false from (by simp; omega)]
    subst hEE
    refine ⟨A1, k, c1_, rfl, Lib.hid (by simp only; rw [hLK.out]), HO3.out.drewN _, ?_, grown_drewN HG3.out _⟩
    simp only [hLK.out]
    rw [show At + k = Ak by omega, show Ak + (left - k) = T by omega]
    exact HB6.out
theorem lenM_none {L : List UInt8} (h : L = []) : lenM L true = (0, 4) := by subst h; rfl
theorem rget_any {w : World} {bx : Nat} {A : Option Addr} {n c At left : Nat} {en : Bool} {l : List UInt8} (h : RefAt w bx A n c At (At + left) en) (hl : Hid (n = l.length)) (hown : Own w 0 5 A c l) (hA : At ≤ n) (hn : n ≤ 100000000) (hleft : left ≤ 32767) (m : Int) : Calls Try.prog 14 #[.pointer (some ⟨bx, 0, none⟩), .int .i64 m] w (RGetO w bx A n c At en (getM left (l.drop At) en m)) := by
  by_cases hm : m < 1
  · exact rget_arg h hl hown hA hn m hm
  · rcases Nat.eq_zero_or_pos left with rfl | hp
    · by_cases h2 : At + 2 ≤ n
      · have hLl : (l.drop At).length = n - At := by rw [List.length_drop, ← hl.out]
        by_cases hz : (lenM (l.drop At) en).2 = 0
        · obtain ⟨q1, q2, q3⟩ := lenM_ok hz
          have hlen : lenM (l.drop At) en = ((lenM (l.drop At) en).1, 0) := Prod.ext rfl hz
          generalize (lenM (l.drop At) en).1 = z at *
          by_cases ha : (z : Int) ≤ m
          · by_cases hf : n < At + z
            · exact rget_zero_fewA h hl hown hA hn m h2 z hlen q1 q2 ha hf
            · exact rget_zero_okA h hl hown hA hn m h2 z hlen q1 q2 ha (by omega)
          · obtain ⟨k, hk⟩ : ∃ k : Nat, m = k := ⟨m.toNat, by omega⟩
            by_cases hf : n < At + k
            · exact rget_zero_fewB h hl hown hA hn m h2 z hlen q1 q2 k hk (by omega) (by omega) hf
            · exact rget_zero_okB h hl hown hA hn m h2 z hlen q1 q2 k hk (by omega) (by omega) (by omega)
        · exact rget_bad h hl hown hA hn m (by omega) h2 hz
      · by_cases he : en = true ∧ n = At
        · exact rget_none h hl hown hA hn m (by omega) he.2 he.1
        · exact rget_few0 h hl hown hA hn m (by omega) (by omega) (by cases en; exact .inl rfl; exact .inr (by simp at he; omega))
    · by_cases ha : (left : Int) ≤ m
      · by_cases hf : n < At + left
        · exact rget_in_fewA h hl hown hA hn m hp hleft ha hf
        · exact rget_in_okA h hl hown hA hn m hp hleft ha (by omega)
      · obtain ⟨k, hk⟩ : ∃ k : Nat, m = k := ⟨m.toNat, by omega⟩
        by_cases hf : n < At + k
        · exact rget_in_fewB h hl hown hA hn m hp hleft k hk (by omega) (by omega) hf
        · exact rget_in_okB h hl hown hA hn m hp hleft k hk (by omega) (by omega) (by omega)
end Go.Proofs.Ytgbcjimfpoeicaa
