/- Layer 11: Get by cases. -/
import Derived.Test.YtgbcjimfpoeicaaRe
namespace Go.Proofs.Ytgbcjimfpoeicaa
open Go.RowKit
set_option linter.unusedVariables false
set_option linter.unusedSimpArgs false

theorem bl_drewN (w : World) (n : Nat) : Below w.heap.size w (w.drewN n) := ⟨rfl, rfl, rfl, Nat.le_refl _, fun _ _ => rfl⟩
def takeM (lf : Nat) (l : List UInt8) (en : Bool) (m left : Nat) : (List UInt8 × Bool × Int) × Nat × List UInt8 :=
  if l.length < min m lf then (([], false, lackE en), left, l) else ((l.take (min m lf), decide (lf - min m lf = 0), 0), lf - min m lf, l.drop (min m lf))
def getM (left : Nat) (l : List UInt8) (en : Bool) (most : Int) : (List UInt8 × Bool × Int) × Nat × List UInt8 :=
  if most < 1 then (([], false, 1), left, l)
  else if left = 0 then (if (lenM l en).2 = 0 then takeM (lenM l en).1 l en most.toNat left else (([], false, (lenM l en).2), left, l))
  else takeM left l en most.toNat left
theorem lenM_ok {l : List UInt8} {en : Bool} (h : (lenM l en).2 = 0) : 2 ≤ (lenM l en).1 ∧ (lenM l en).1 ≤ 32767 ∧ 2 ≤ l.length := by
  unfold lenM at h ⊢
  split at h
  · simp at h
  · split at h
    · cases en <;> simp [lackE] at h
    · split at h
      · simp at h
      · rename_i h1 h2 h3
        rw [if_neg h1, if_neg h2, if_neg h3]
        simp only
        omega

theorem Own.ne_blk' {w : World} {base : Nat} {e t : TypeId} {A : Option Addr} {c g : Nat} {l : List UInt8} {cs : Array Value} (h : Own w base e A c l) (hb : Blk w g t cs) (hne : t ≠ e) : some g ≠ blk A := by
  rcases h.2 with ⟨h1, h2⟩ | ⟨g', cap, cur, h1, _, hg, _⟩
  · simp only [Value.slice.injEq] at h1
    obtain ⟨rfl, _, _⟩ := h1
    simp [blk]
  · simp only [Value.slice.injEq] at h1
    obtain ⟨rfl, _, _⟩ := h1
    intro e'
    simp [blk] at e'
    subst e'
    unfold Blk at hb
    rw [hb] at hg
    injection hg with hg
    injection hg with _ ht
    exact hne ht
/-- What Get answers, and leaves. -/
def GetO (w : World) (g : Nat) (en : Bool) (r : (List UInt8 × Bool × Int) × Nat × List UInt8) (e : Ending) (w' : World) : Prop :=
  ∃ A n c, e = .returned (.tuple #[.slice A n c, .bool r.1.2.1, .int .i64 r.1.2.2]) ∧ Hid (n = r.1.1.length) ∧ Own w' w.heap.size 5 A c r.1.1 ∧ StrAt w' g r.2.1 r.2.2 en ∧ w.grownBy w' (some g)
def GetX (w : World) (g : Nat) (en : Bool) (r : (List UInt8 × Bool × Int) × Nat × List UInt8) (e : Ending) (w' : World) : Prop := GetO w g en r e w' ∧ ∀ x, BytesNot w g x → BytesNot w' g x
theorem GetO.err {w w' : World} {g left : Nat} {l : List UInt8} {en : Bool} {r : (List UInt8 × Bool × Int) × Nat × List UInt8} {z : Int} (h : StrAt w' g left l en) (hg : w.grownBy w' (some g)) (hr : r = (([], false, z), left, l)) : GetO w g en r (.returned (.tuple #[.slice none 0 0, .bool false, .int .i64 z])) w' := by
  subst hr
  exact ⟨none, 0, 0, rfl, Lib.hid rfl, Own.nil, h, hg⟩

theorem get_nil (most : Int) (w : World) : Calls Try.prog 13 #[.pointer none, .int .i64 most] w fun e w' => e = .returned (.tuple #[.slice none 0 0, .bool false, .int .i64 6]) ∧ w = w' := by
  go_enter Try.func13, Try.ntmps13
  go_wp2
  go_ret3
  exact ⟨rfl, rfl⟩
theorem get_arg {w : World} {g left : Nat} {l : List UInt8} {en : Bool} (h : StrAt w g left l en) (most : Int) (hm : most < 1) : Calls Try.prog 13 #[.pointer (some ⟨g, 0, none⟩), .int .i64 most] w (GetX w g en (getM left l en most)) := by
  have e := show getM left l en most = (([], false, 1), left, l) from if_pos hm
  generalize getM left l en most = r at *
  go_enter Try.func13, Try.ntmps13
  go_wp2
  go_ret3
  exact ⟨GetO.err h (grown_refl _ _) e, fun _ hx => hx⟩
set_option maxHeartbeats 1000000 in
theorem get_nolen {w : World} {g : Nat} {l : List UInt8} {en : Bool} (h : StrAt w g 0 l en) (m : Nat) (hm : 1 ≤ m) (hz : (lenM l en).2 ≠ 0) : Calls Try.prog 13 #[.pointer (some ⟨g, 0, none⟩), .int .i64 m] w (GetX w g en (getM 0 l en m)) := by
  have e : getM 0 l en m = (([], false, (lenM l en).2), 0, l) := by unfold getM; rw [if_neg (by omega), if_pos rfl, if_neg hz]
  generalize getM 0 l en m = r at *
  have hlg := length_any h
  have hbg := fun u c0 => begins_any u g 0 c0
  have hle := h.hleft
  have hlen := h.hlen
  have hlk := lack_any h
  obtain ⟨A, n, c, hb, hn, hk, hc⟩ := h.at_
  have c0 := hb.cell 0
  have c1 := hb.cell 1
  simp only [List.getElem?_toArray, List.getElem?_cons_zero, List.getElem?_cons_succ] at c0 c1
  have hm1 : ¬ ((m : Int) < 1) := by omega
  obtain ⟨z, hzz⟩ : ∃ z, z = lenM l en := ⟨_, rfl⟩
  rw [← hzz] at hz e
  have hz1 : (z.2 != 0) = true := bne_iff_ne.2 hz
  go_enter Try.func13, Try.ntmps13
  go_wp2_with fail
  refine (hbg _ c0).mono ?_
  rintro e1 w1 ⟨rfl, rfl⟩
  go_wp2_with fail
  refine hlg.mono ?_
  rintro e2 w2 ⟨d, z', rfl, hz', rfl⟩
  obtain rfl : z' = z := hz'.trans hzz.symm
  clear hz'
  have H := Lib.hid h
  have E := Lib.hid e
  clear h e hzz hlk hlg hbg hk hb hc hn
  go_wp2
  go_ret3
  exact ⟨GetO.err (H.out.below (bl_drewN _ _)) (grown_drewN (grown_refl _ _) _) E.out, fun _ hx => bn_below (bl_drewN _ _) H.out.lt hx⟩
set_option maxHeartbeats 2000000 in
theorem get_zero_fewA {w : World} {g : Nat} {l : List UInt8} {en : Bool} (h : StrAt w g 0 l en) (m : Nat) (hm : 1 ≤ m) (hm2 : m ≤ 9223372036854775807) (hz : (lenM l en).2 = 0) (hf : l.length < min m (lenM l en).1) (hlm : (lenM l en).1 < m) : Calls Try.prog 13 #[.pointer (some ⟨g, 0, none⟩), .int .i64 m] w (GetX w g en (getM 0 l en m)) := by
  have e : getM 0 l en m = takeM (lenM l en).1 l en m 0 := by unfold getM; rw [if_neg (by omega), if_pos rfl, if_pos hz, Int.toNat_natCast]
  have hlg := length_any h
  have hlok := lenM_ok hz
  unfold takeM at e
  rw [if_pos hf] at e
  generalize getM 0 l en m = r at *
  have hbg := fun u c0 => begins_any u g 0 c0
  have hle := h.hleft
  have hlen := h.hlen
  have hlk := lack_any h
  obtain ⟨A, n, c, hb, hn, hk, hc⟩ := h.at_
  have c0 := hb.cell 0
  have c1 := hb.cell 1
  simp only [List.getElem?_toArray, List.getElem?_cons_zero, List.getElem?_cons_succ] at c0 c1
  have hm1 : ¬ ((m : Int) < 1) := by omega
  obtain ⟨z, hzz⟩ : ∃ z, z = lenM l en := ⟨_, rfl⟩
  rw [← hzz] at hz hlok hf hlm
  try rw [← hzz] at e
  obtain ⟨lf, z2⟩ := z
  simp only at hz hlok hf hlm
  try simp only at e
  subst hz
  have hkk : min m lf = lf := by omega
  rw [hkk] at hf
  try rw [hkk] at e
  have hfd : decide ((n : Int) < (lf : Int)) = true := by simp; omega
  have hfn : n < lf := by omega
  have H := Lib.hid h
  have E := Lib.hid e
  have HB := Lib.hid hb
  have HK := Lib.hid hk
  have HLK := Lib.hid hlk
  have HLG := Lib.hid hlg
  have HZ := Lib.hid hzz
  clear hlen hle hc h e hlk hf hb hk hkk hn hlg hlok hzz
  go_enter Try.func13, Try.ntmps13
  go_wp2_with fail
  refine (hbg _ c0).mono ?_
  rintro e1 w1 ⟨rfl, rfl⟩
  go_wp2_with fail
  refine HLG.out.mono ?_
  rintro e2 w2 ⟨d, z', rfl, hz', rfl⟩
  obtain rfl := hz'.trans HZ.out.symm
  clear hz' hbg HZ
  have hbd := bl_drewN w d
  generalize hwd : w.drewN d = u at *
  have h2 := H.out.below hbd
  have hb2 := HB.out.below hbd HB.out.lt
  have hk2 := HK.out.below hbd
  have hg2 : w.grownBy u (some g) := grown_of hbd _
  have hs2 := hbd.size
  have HBN : ∀ x, BytesNot w g x → BytesNot u g x := fun _ hx => bn_below hbd H.out.lt hx
  have d0 := hb2.cell 0
  have d1 := hb2.cell 1
  simp only [List.getElem?_toArray, List.getElem?_cons_zero, List.getElem?_cons_succ] at d0 d1
  clear hwd c0 c1 hbd
  go_wp2_with fail
  have HLK2 := lack_any h2
  refine HLK2.mono ?_
  rintro e3 w3 ⟨rfl, rfl⟩
  clear HLK2
  go_wp2
  go_ret3
  exact ⟨GetO.err h2 hg2 E.out, HBN⟩
set_option maxHeartbeats 2000000 in
theorem get_zero_okA {w : World} {g : Nat} {l : List UInt8} {en : Bool} (h : StrAt w g 0 l en) (m : Nat) (hm : 1 ≤ m) (hm2 : m ≤ 9223372036854775807) (hz : (lenM l en).2 = 0) (hf : min m (lenM l en).1 ≤ l.length) (hlm : (lenM l en).1 < m) : Calls Try.prog 13 #[.pointer (some ⟨g, 0, none⟩), .int .i64 m] w (GetX w g en (getM 0 l en m)) := by
  have e : getM 0 l en m = takeM (lenM l en).1 l en m 0 := by unfold getM; rw [if_neg (by omega), if_pos rfl, if_pos hz, Int.toNat_natCast]
  have hlg := length_any h
  have hlok := lenM_ok hz
  unfold takeM at e
  rw [if_neg (by omega)] at e
  generalize getM 0 l en m = r at *
  have hbg := fun u c0 => begins_any u g 0 c0
  have hle := h.hleft
  have hlen := h.hlen
  have hlk := lack_any h
  obtain ⟨A, n, c, hb, hn, hk, hc⟩ := h.at_
  have c0 := hb.cell 0
  have c1 := hb.cell 1
  simp only [List.getElem?_toArray, List.getElem?_cons_zero, List.getElem?_cons_succ] at c0 c1
  have hm1 : ¬ ((m : Int) < 1) := by omega
  obtain ⟨z, hzz⟩ : ∃ z, z = lenM l en := ⟨_, rfl⟩
  rw [← hzz] at hz hlok hf hlm
  try rw [← hzz] at e
  obtain ⟨lf, z2⟩ := z
  simp only at hz hlok hf hlm
  try simp only at e
  subst hz
  have hkk : min m lf = lf := by omega
  rw [hkk] at hf
  try rw [hkk] at e
  have hfd : decide ((n : Int) < (lf : Int)) = false := by simp; omega
  have hfn : ¬ n < lf := by omega
  have hk1 : 1 ≤ lf := by omega
  obtain ⟨b, o, rfl, _⟩ := hk (by omega)
  have hpt := fun (u : World) (hu : KB u (some ⟨b, o, none⟩) l) => part_any hu n c lf (Lib.hid hn) (Lib.hid (by omega)) hk1 (by omega) hc.1 hc.2
  have Hpt := Lib.hid hpt
  have Q1 : Hid (1 ≤ lf ∧ lf ≤ lf ∧ lf ≤ 32767 ∧ lf ≤ l.length ∧ n = l.length ∧ l.length ≤ 65536) := Lib.hid ⟨by omega, by omega, by omega, by omega, hn, hlen⟩
  have H := Lib.hid h
  have E := Lib.hid e
  have HB := Lib.hid hb
  have HK := Lib.hid hk
  have HLK := Lib.hid hlk
  have HLG := Lib.hid hlg
  have HZ := Lib.hid hzz
  clear hlen hle hc h e hlk hf hb hk hkk hn hlg hlok hzz hpt
  go_enter Try.func13, Try.ntmps13
  go_wp2_with fail
  refine (hbg _ c0).mono ?_
  rintro e1 w1 ⟨rfl, rfl⟩
  go_wp2_with fail
  refine HLG.out.mono ?_
  rintro e2 w2 ⟨d, z', rfl, hz', rfl⟩
  obtain rfl := hz'.trans HZ.out.symm
  clear hz' hbg HZ
  have hbd := bl_drewN w d
  generalize hwd : w.drewN d = u at *
  have h2 := H.out.below hbd
  have hb2 := HB.out.below hbd HB.out.lt
  have hk2 := HK.out.below hbd
  have hg2 : w.grownBy u (some g) := grown_of hbd _
  have hs2 := hbd.size
  have HBN : ∀ x, BytesNot w g x → BytesNot u g x := fun _ hx => bn_below hbd H.out.lt hx
  have d0 := hb2.cell 0
  have d1 := hb2.cell 1
  simp only [List.getElem?_toArray, List.getElem?_cons_zero, List.getElem?_cons_succ] at d0 d1
  clear hwd c0 c1 hbd
  go_wp2_with fail
  refine (Hpt.out _ hk2).mono ?_
  rintro e3 w3 ⟨A1, c1', A2, c2', rfl, own3, kb3, hl3, hc3, hb3, hbk3⟩
  have hgl := hb2.lt
  have hb4 := hb2.below hb3 hgl
  have z0 := hb4.frozen 0
  have z1 := hb4.frozen 1
  have x0 := hb4.cell 0
  have x1 := hb4.cell 1
  simp only [List.getElem?_toArray, List.getElem?_cons_zero, List.getElem?_cons_succ] at x0 x1
  have hb5 := hb4.set_ 1 (.slice A2 (n - lf) c2')
  have hg5 := grownBy_trans hg2 (grownBy_trans (grown_of hb3 _) (grown_set w3 ⟨g, 1, none⟩ (.slice A2 (n - lf) c2')))
  have y0 := hb5.cell 0
  have zy := hb5.frozen 0
  simp only [List.setIfInBounds_toArray, List.set_cons_succ, List.set_cons_zero, List.getElem?_toArray, List.getElem?_cons_zero, List.getElem?_cons_succ] at y0 hb5
  have hb6 := hb5.set_ 0 (.int .i64 (0 : Int))
  have hg6 := grownBy_trans hg5 (grown_set _ ⟨g, 0, none⟩ (.int .i64 (0 : Int)))
  have n4 : blk A1 ≠ some g := fun e => own3.ne_blk' hb4 stream_ne e.symm
  have own5 := own3.kept (grown_set w3 ⟨g, 1, none⟩ (.slice A2 (n - lf) c2')) (.inr n4)
  have own6 := own5.kept (grown_set (w3.setCell ⟨g, 1, none⟩ (.slice A2 (n - lf) c2')) ⟨g, 0, none⟩ (.int .i64 (0 : Int))) (.inr n4)
  have kb5 := kb3.kept (grown_set w3 ⟨g, 1, none⟩ (.slice A2 (n - lf) c2')) hb4 stream_ne
  have kb6 := kb5.kept (grown_set (w3.setCell ⟨g, 1, none⟩ (.slice A2 (n - lf) c2')) ⟨g, 0, none⟩ (.int .i64 (0 : Int))) hb5 stream_ne
  simp only [List.setIfInBounds_toArray, List.set_cons_succ, List.set_cons_zero] at hb6
  have y6 := hb6.cell 0
  simp only [List.getElem?_toArray, List.getElem?_cons_zero] at y6
  have HB6 := Lib.hid hb6
  have HG6 := Lib.hid hg6
  have HO6 := Lib.hid own6
  have HK6 := Lib.hid kb6
  clear hb6 hg6 own6 kb6 own5 kb5 hb5 hg5 hb4 kb3 own3 hb3 hk2 hb2 h2 hg2
  go_wp2_with fail
  refine (begins_any _ g 0 y6).mono ?_
  rintro e4 w4 ⟨rfl, rfl⟩
  go_wp2
  go_ret3
  have q := Q1.out
  have hEE : r = ((l.take lf, true, 0), 0, l.drop lf) := by rw [E.out]; simp
  subst hEE
  refine ⟨⟨A1, lf, c1', rfl, Lib.hid (by first | (simp; done) | (simp; omega)), HO6.out.base_le hs2, ⟨by first | (simp; done) | (simp; omega), by first | (simp; done) | (simp; omega), A2, n - lf, c2', HB6.out, by first | (simp; done) | (simp; omega), HK6.out, hl3, hc3⟩, HG6.out⟩, fun x hx => bn_new HB6.out (fun h0 => ?_)⟩
  rw [hbk3]
  exact hx _ _ _ _ _ HB.out (by omega)
set_option maxHeartbeats 2000000 in
theorem get_zero_fewB {w : World} {g : Nat} {l : List UInt8} {en : Bool} (h : StrAt w g 0 l en) (m : Nat) (hm : 1 ≤ m) (hm2 : m ≤ 9223372036854775807) (hz : (lenM l en).2 = 0) (hf : l.length < min m (lenM l en).1) (hlm : ¬ (lenM l en).1 < m) : Calls Try.prog 13 #[.pointer (some ⟨g, 0, none⟩), .int .i64 m] w (GetX w g en (getM 0 l en m)) := by
  have e : getM 0 l en m = takeM (lenM l en).1 l en m 0 := by unfold getM; rw [if_neg (by omega), if_pos rfl, if_pos hz, Int.toNat_natCast]
  have hlg := length_any h
  have hlok := lenM_ok hz
  unfold takeM at e
  rw [if_pos hf] at e
  generalize getM 0 l en m = r at *
  have hbg := fun u c0 => begins_any u g 0 c0
  have hle := h.hleft
  have hlen := h.hlen
  have hlk := lack_any h
  obtain ⟨A, n, c, hb, hn, hk, hc⟩ := h.at_
  have c0 := hb.cell 0
  have c1 := hb.cell 1
  simp only [List.getElem?_toArray, List.getElem?_cons_zero, List.getElem?_cons_succ] at c0 c1
  have hm1 : ¬ ((m : Int) < 1) := by omega
  obtain ⟨z, hzz⟩ : ∃ z, z = lenM l en := ⟨_, rfl⟩
  rw [← hzz] at hz hlok hf hlm
  try rw [← hzz] at e
  obtain ⟨lf, z2⟩ := z
  simp only at hz hlok hf hlm
  try simp only at e
  subst hz
  have hkk : min m lf = m := by omega
  rw [hkk] at hf
  try rw [hkk] at e
  have hfd : decide ((n : Int) < (m : Int)) = true := by simp; omega
  have hfn : n < m := by omega
  have H := Lib.hid h
  have E := Lib.hid e
  have HB := Lib.hid hb
  have HK := Lib.hid hk
  have HLK := Lib.hid hlk
  have HLG := Lib.hid hlg
  have HZ := Lib.hid hzz
  clear hlen hle hc h e hlk hf hb hk hkk hn hlg hlok hzz
  go_enter Try.func13, Try.ntmps13
  go_wp2_with fail
  refine (hbg _ c0).mono ?_
  rintro e1 w1 ⟨rfl, rfl⟩
  go_wp2_with fail
  refine HLG.out.mono ?_
  rintro e2 w2 ⟨d, z', rfl, hz', rfl⟩
  obtain rfl := hz'.trans HZ.out.symm
  clear hz' hbg HZ
  have hbd := bl_drewN w d
  generalize hwd : w.drewN d = u at *
  have h2 := H.out.below hbd
  have hb2 := HB.out.below hbd HB.out.lt
  have hk2 := HK.out.below hbd
  have hg2 : w.grownBy u (some g) := grown_of hbd _
  have hs2 := hbd.size
  have HBN : ∀ x, BytesNot w g x → BytesNot u g x := fun _ hx => bn_below hbd H.out.lt hx
  have d0 := hb2.cell 0
  have d1 := hb2.cell 1
  simp only [List.getElem?_toArray, List.getElem?_cons_zero, List.getElem?_cons_succ] at d0 d1
  clear hwd c0 c1 hbd
  go_wp2_with fail
  have HLK2 := lack_any h2
  refine HLK2.mono ?_
  rintro e3 w3 ⟨rfl, rfl⟩
  clear HLK2
  go_wp2
  go_ret3
  exact ⟨GetO.err h2 hg2 E.out, HBN⟩
set_option maxHeartbeats 2000000 in
theorem get_zero_okB {w : World} {g : Nat} {l : List UInt8} {en : Bool} (h : StrAt w g 0 l en) (m : Nat) (hm : 1 ≤ m) (hm2 : m ≤ 9223372036854775807) (hz : (lenM l en).2 = 0) (hf : min m (lenM l en).1 ≤ l.length) (hlm : ¬ (lenM l en).1 < m) : Calls Try.prog 13 #[.pointer (some ⟨g, 0, none⟩), .int .i64 m] w (GetX w g en (getM 0 l en m)) := by
  have e : getM 0 l en m = takeM (lenM l en).1 l en m 0 := by unfold getM; rw [if_neg (by omega), if_pos rfl, if_pos hz, Int.toNat_natCast]
  have hlg := length_any h
  have hlok := lenM_ok hz
  unfold takeM at e
  rw [if_neg (by omega)] at e
  generalize getM 0 l en m = r at *
  have hbg := fun u c0 => begins_any u g 0 c0
  have hle := h.hleft
  have hlen := h.hlen
  have hlk := lack_any h
  obtain ⟨A, n, c, hb, hn, hk, hc⟩ := h.at_
  have c0 := hb.cell 0
  have c1 := hb.cell 1
  simp only [List.getElem?_toArray, List.getElem?_cons_zero, List.getElem?_cons_succ] at c0 c1
  have hm1 : ¬ ((m : Int) < 1) := by omega
  obtain ⟨z, hzz⟩ : ∃ z, z = lenM l en := ⟨_, rfl⟩
  rw [← hzz] at hz hlok hf hlm
  try rw [← hzz] at e
  obtain ⟨lf, z2⟩ := z
  simp only at hz hlok hf hlm
  try simp only at e
  subst hz
  have hkk : min m lf = m := by omega
  rw [hkk] at hf
  try rw [hkk] at e
  have hfd : decide ((n : Int) < (m : Int)) = false := by simp; omega
  have hfn : ¬ n < m := by omega
  have hk1 : 1 ≤ m := by omega
  obtain ⟨b, o, rfl, _⟩ := hk (by omega)
  obtain ⟨D, hD⟩ : ∃ D, D = lf - m := ⟨_, rfl⟩
  have ew : IntKind.i64.wrap ((lf : Int) - (m : Int)) = (D : Int) := by rw [IntWalk.i64_in _ (by omega)]; omega
  rw [← hD] at e
  have HD := Lib.hid hD
  clear hD
  have hpt := fun (u : World) (hu : KB u (some ⟨b, o, none⟩) l) => part_any hu n c m (Lib.hid hn) (Lib.hid (by omega)) hk1 (by omega) hc.1 hc.2
  have Hpt := Lib.hid hpt
  have Q1 : Hid (1 ≤ m ∧ m ≤ lf ∧ lf ≤ 32767 ∧ m ≤ l.length ∧ n = l.length ∧ l.length ≤ 65536) := Lib.hid ⟨by omega, by omega, by omega, by omega, hn, hlen⟩
  have H := Lib.hid h
  have E := Lib.hid e
  have HB := Lib.hid hb
  have HK := Lib.hid hk
  have HLK := Lib.hid hlk
  have HLG := Lib.hid hlg
  have HZ := Lib.hid hzz
  clear hlen hle hc h e hlk hf hb hk hkk hn hlg hlok hzz hpt
  go_enter Try.func13, Try.ntmps13
  go_wp2_with fail
  refine (hbg _ c0).mono ?_
  rintro e1 w1 ⟨rfl, rfl⟩
  go_wp2_with fail
  refine HLG.out.mono ?_
  rintro e2 w2 ⟨d, z', rfl, hz', rfl⟩
  obtain rfl := hz'.trans HZ.out.symm
  clear hz' hbg HZ
  have hbd := bl_drewN w d
  generalize hwd : w.drewN d = u at *
  have h2 := H.out.below hbd
  have hb2 := HB.out.below hbd HB.out.lt
  have hk2 := HK.out.below hbd
  have hg2 : w.grownBy u (some g) := grown_of hbd _
  have hs2 := hbd.size
  have HBN : ∀ x, BytesNot w g x → BytesNot u g x := fun _ hx => bn_below hbd H.out.lt hx
  have d0 := hb2.cell 0
  have d1 := hb2.cell 1
  simp only [List.getElem?_toArray, List.getElem?_cons_zero, List.getElem?_cons_succ] at d0 d1
  clear hwd c0 c1 hbd
  go_wp2_with fail
  refine (Hpt.out _ hk2).mono ?_
  rintro e3 w3 ⟨A1, c1', A2, c2', rfl, own3, kb3, hl3, hc3, hb3, hbk3⟩
  have hgl := hb2.lt
  have hb4 := hb2.below hb3 hgl
  have z0 := hb4.frozen 0
  have z1 := hb4.frozen 1
  have x0 := hb4.cell 0
  have x1 := hb4.cell 1
  simp only [List.getElem?_toArray, List.getElem?_cons_zero, List.getElem?_cons_succ] at x0 x1
  have hb5 := hb4.set_ 1 (.slice A2 (n - m) c2')
  have hg5 := grownBy_trans hg2 (grownBy_trans (grown_of hb3 _) (grown_set w3 ⟨g, 1, none⟩ (.slice A2 (n - m) c2')))
  have y0 := hb5.cell 0
  have zy := hb5.frozen 0
  simp only [List.setIfInBounds_toArray, List.set_cons_succ, List.set_cons_zero, List.getElem?_toArray, List.getElem?_cons_zero, List.getElem?_cons_succ] at y0 hb5
  have hb6 := hb5.set_ 0 (.int .i64 (D : Int))
  have hg6 := grownBy_trans hg5 (grown_set _ ⟨g, 0, none⟩ (.int .i64 (D : Int)))
  have n4 : blk A1 ≠ some g := fun e => own3.ne_blk' hb4 stream_ne e.symm
  have own5 := own3.kept (grown_set w3 ⟨g, 1, none⟩ (.slice A2 (n - m) c2')) (.inr n4)
  have own6 := own5.kept (grown_set (w3.setCell ⟨g, 1, none⟩ (.slice A2 (n - m) c2')) ⟨g, 0, none⟩ (.int .i64 (D : Int))) (.inr n4)
  have kb5 := kb3.kept (grown_set w3 ⟨g, 1, none⟩ (.slice A2 (n - m) c2')) hb4 stream_ne
  have kb6 := kb5.kept (grown_set (w3.setCell ⟨g, 1, none⟩ (.slice A2 (n - m) c2')) ⟨g, 0, none⟩ (.int .i64 (D : Int))) hb5 stream_ne
  simp only [List.setIfInBounds_toArray, List.set_cons_succ, List.set_cons_zero] at hb6
  have y6 := hb6.cell 0
  simp only [List.getElem?_toArray, List.getElem?_cons_zero] at y6
  have HB6 := Lib.hid hb6
  have HG6 := Lib.hid hg6
  have HO6 := Lib.hid own6
  have HK6 := Lib.hid kb6
  clear hb6 hg6 own6 kb6 own5 kb5 hb5 hg5 hb4 kb3 own3 hb3 hk2 hb2 h2 hg2
  go_wp2_with fail
  refine (begins_any _ g D y6).mono ?_
  rintro e4 w4 ⟨rfl, rfl⟩
  go_wp2
  go_ret3
  have q := Q1.out
  have hD := HD.out
  obtain rfl := E.out
  refine ⟨⟨A1, m, c1', rfl, Lib.hid (by first | (simp; done) | (simp; omega)), HO6.out.base_le hs2, ⟨by first | (simp; done) | (simp; omega), by first | (simp; done) | (simp; omega), A2, n - m, c2', HB6.out, by first | (simp; done) | (simp; omega), HK6.out, hl3, hc3⟩, HG6.out⟩, fun x hx => bn_new HB6.out (fun h0 => ?_)⟩
  rw [hbk3]
  exact hx _ _ _ _ _ HB.out (by omega)
set_option maxHeartbeats 2000000 in
theorem get_in_fewA {w : World} {g left : Nat} {l : List UInt8} {en : Bool} (h : StrAt w g left l en) (m : Nat) (hm : 1 ≤ m) (hm2 : m ≤ 9223372036854775807) (hz : 1 ≤ left) (hf : l.length < min m left) (hlm : left < m) : Calls Try.prog 13 #[.pointer (some ⟨g, 0, none⟩), .int .i64 m] w (GetX w g en (getM left l en m)) := by
  have e : getM left l en m = takeM left l en m left := by unfold getM; rw [if_neg (by omega), if_neg (by omega), Int.toNat_natCast]
  unfold takeM at e
  rw [if_pos hf] at e
  generalize getM left l en m = r at *
  have hbg := fun u c0 => begins_any u g left c0
  have hle := h.hleft
  have hlen := h.hlen
  have hlk := lack_any h
  obtain ⟨A, n, c, hb, hn, hk, hc⟩ := h.at_
  have c0 := hb.cell 0
  have c1 := hb.cell 1
  simp only [List.getElem?_toArray, List.getElem?_cons_zero, List.getElem?_cons_succ] at c0 c1
  have hm1 : ¬ ((m : Int) < 1) := by omega
  obtain ⟨lf, hlf⟩ : ∃ lf, lf = left := ⟨_, rfl⟩
  subst hlf
  have hl0 : ¬ lf = 0 := by omega
  have hld : decide (lf = 0) = false := by simp; omega
  simp only [hld] at hbg
  have hkk : min m lf = lf := by omega
  rw [hkk] at hf
  try rw [hkk] at e
  have hfd : decide ((n : Int) < (lf : Int)) = true := by simp; omega
  have hfn : n < lf := by omega
  have H := Lib.hid h
  have E := Lib.hid e
  have HB := Lib.hid hb
  have HK := Lib.hid hk
  have HLK := Lib.hid hlk
  clear hlen hle hc h e hlk hf hb hk hkk hn
  go_enter Try.func13, Try.ntmps13
  go_wp2_with fail
  refine (hbg _ c0).mono ?_
  rintro e1 w1 ⟨rfl, rfl⟩
  go_wp2_with fail
  obtain ⟨u, hu⟩ : ∃ u, u = w := ⟨_, rfl⟩
  have h2 := H.out
  have hb2 := HB.out
  have hk2 := HK.out
  have hg2 : w.grownBy w (some g) := grown_refl _ _
  have hs2 : w.heap.size ≤ w.heap.size := Nat.le_refl _
  have HBN : ∀ x, BytesNot w g x → BytesNot w g x := fun _ hx => hx
  clear hbg hu
  have HLK2 := lack_any h2
  refine HLK2.mono ?_
  rintro e3 w3 ⟨rfl, rfl⟩
  clear HLK2
  go_wp2
  go_ret3
  exact ⟨GetO.err h2 hg2 E.out, HBN⟩
set_option maxHeartbeats 2000000 in
theorem get_in_okA {w : World} {g left : Nat} {l : List UInt8} {en : Bool} (h : StrAt w g left l en) (m : Nat) (hm : 1 ≤ m) (hm2 : m ≤ 9223372036854775807) (hz : 1 ≤ left) (hf : min m left ≤ l.length) (hlm : left < m) : Calls Try.prog 13 #[.pointer (some ⟨g, 0, none⟩), .int .i64 m] w (GetX w g en (getM left l en m)) := by
  have e : getM left l en m = takeM left l en m left := by unfold getM; rw [if_neg (by omega), if_neg (by omega), Int.toNat_natCast]
  unfold takeM at e
  rw [if_neg (by omega)] at e
  generalize getM left l en m = r at *
  have hbg := fun u c0 => begins_any u g left c0
  have hle := h.hleft
  have hlen := h.hlen
  have hlk := lack_any h
  obtain ⟨A, n, c, hb, hn, hk, hc⟩ := h.at_
  have c0 := hb.cell 0
  have c1 := hb.cell 1
  simp only [List.getElem?_toArray, List.getElem?_cons_zero, List.getElem?_cons_succ] at c0 c1
  have hm1 : ¬ ((m : Int) < 1) := by omega
  obtain ⟨lf, hlf⟩ : ∃ lf, lf = left := ⟨_, rfl⟩
  subst hlf
  have hl0 : ¬ lf = 0 := by omega
  have hld : decide (lf = 0) = false := by simp; omega
  simp only [hld] at hbg
  have hkk : min m lf = lf := by omega
  rw [hkk] at hf
  try rw [hkk] at e
  have hfd : decide ((n : Int) < (lf : Int)) = false := by simp; omega
  have hfn : ¬ n < lf := by omega
  have hk1 : 1 ≤ lf := by omega
  obtain ⟨b, o, rfl, _⟩ := hk (by omega)
  have hpt := fun (u : World) (hu : KB u (some ⟨b, o, none⟩) l) => part_any hu n c lf (Lib.hid hn) (Lib.hid (by omega)) hk1 (by omega) hc.1 hc.2
  have Hpt := Lib.hid hpt
  have Q1 : Hid (1 ≤ lf ∧ lf ≤ lf ∧ lf ≤ 32767 ∧ lf ≤ l.length ∧ n = l.length ∧ l.length ≤ 65536) := Lib.hid ⟨by omega, by omega, by omega, by omega, hn, hlen⟩
  have H := Lib.hid h
  have E := Lib.hid e
  have HB := Lib.hid hb
  have HK := Lib.hid hk
  have HLK := Lib.hid hlk
  clear hlen hle hc h e hlk hf hb hk hkk hn hpt
  go_enter Try.func13, Try.ntmps13
  go_wp2_with fail
  refine (hbg _ c0).mono ?_
  rintro e1 w1 ⟨rfl, rfl⟩
  go_wp2_with fail
  obtain ⟨u, hu⟩ : ∃ u, u = w := ⟨_, rfl⟩
  have h2 := H.out
  have hb2 := HB.out
  have hk2 := HK.out
  have hg2 : w.grownBy w (some g) := grown_refl _ _
  have hs2 : w.heap.size ≤ w.heap.size := Nat.le_refl _
  have HBN : ∀ x, BytesNot w g x → BytesNot w g x := fun _ hx => hx
  clear hbg hu
  refine (Hpt.out _ hk2).mono ?_
  rintro e3 w3 ⟨A1, c1', A2, c2', rfl, own3, kb3, hl3, hc3, hb3, hbk3⟩
  have hgl := hb2.lt
  have hb4 := hb2.below hb3 hgl
  have z0 := hb4.frozen 0
  have z1 := hb4.frozen 1
  have x0 := hb4.cell 0
  have x1 := hb4.cell 1
  simp only [List.getElem?_toArray, List.getElem?_cons_zero, List.getElem?_cons_succ] at x0 x1
  have hb5 := hb4.set_ 1 (.slice A2 (n - lf) c2')
  have hg5 := grownBy_trans hg2 (grownBy_trans (grown_of hb3 _) (grown_set w3 ⟨g, 1, none⟩ (.slice A2 (n - lf) c2')))
  have y0 := hb5.cell 0
  have zy := hb5.frozen 0
  simp only [List.setIfInBounds_toArray, List.set_cons_succ, List.set_cons_zero, List.getElem?_toArray, List.getElem?_cons_zero, List.getElem?_cons_succ] at y0 hb5
  have hb6 := hb5.set_ 0 (.int .i64 (0 : Int))
  have hg6 := grownBy_trans hg5 (grown_set _ ⟨g, 0, none⟩ (.int .i64 (0 : Int)))
  have n4 : blk A1 ≠ some g := fun e => own3.ne_blk' hb4 stream_ne e.symm
  have own5 := own3.kept (grown_set w3 ⟨g, 1, none⟩ (.slice A2 (n - lf) c2')) (.inr n4)
  have own6 := own5.kept (grown_set (w3.setCell ⟨g, 1, none⟩ (.slice A2 (n - lf) c2')) ⟨g, 0, none⟩ (.int .i64 (0 : Int))) (.inr n4)
  have kb5 := kb3.kept (grown_set w3 ⟨g, 1, none⟩ (.slice A2 (n - lf) c2')) hb4 stream_ne
  have kb6 := kb5.kept (grown_set (w3.setCell ⟨g, 1, none⟩ (.slice A2 (n - lf) c2')) ⟨g, 0, none⟩ (.int .i64 (0 : Int))) hb5 stream_ne
  simp only [List.setIfInBounds_toArray, List.set_cons_succ, List.set_cons_zero] at hb6
  have y6 := hb6.cell 0
  simp only [List.getElem?_toArray, List.getElem?_cons_zero] at y6
  have HB6 := Lib.hid hb6
  have HG6 := Lib.hid hg6
  have HO6 := Lib.hid own6
  have HK6 := Lib.hid kb6
  clear hb6 hg6 own6 kb6 own5 kb5 hb5 hg5 hb4 kb3 own3 hb3 hk2 hb2 h2 hg2
  go_wp2_with fail
  refine (begins_any _ g 0 y6).mono ?_
  rintro e4 w4 ⟨rfl, rfl⟩
  go_wp2
  go_ret3
  have q := Q1.out
  have hEE : r = ((l.take lf, true, 0), 0, l.drop lf) := by rw [E.out]; simp
  subst hEE
  refine ⟨⟨A1, lf, c1', rfl, Lib.hid (by first | (simp; done) | (simp; omega)), HO6.out.base_le hs2, ⟨by first | (simp; done) | (simp; omega), by first | (simp; done) | (simp; omega), A2, n - lf, c2', HB6.out, by first | (simp; done) | (simp; omega), HK6.out, hl3, hc3⟩, HG6.out⟩, fun x hx => bn_new HB6.out (fun h0 => ?_)⟩
  rw [hbk3]
  exact hx _ _ _ _ _ HB.out (by omega)
set_option maxHeartbeats 2000000 in
theorem get_in_fewB {w : World} {g left : Nat} {l : List UInt8} {en : Bool} (h : StrAt w g left l en) (m : Nat) (hm : 1 ≤ m) (hm2 : m ≤ 9223372036854775807) (hz : 1 ≤ left) (hf : l.length < min m left) (hlm : ¬ left < m) : Calls Try.prog 13 #[.pointer (some ⟨g, 0, none⟩), .int .i64 m] w (GetX w g en (getM left l en m)) := by
  have e : getM left l en m = takeM left l en m left := by unfold getM; rw [if_neg (by omega), if_neg (by omega), Int.toNat_natCast]
  unfold takeM at e
  rw [if_pos hf] at e
  generalize getM left l en m = r at *
  have hbg := fun u c0 => begins_any u g left c0
  have hle := h.hleft
  have hlen := h.hlen
  have hlk := lack_any h
  obtain ⟨A, n, c, hb, hn, hk, hc⟩ := h.at_
  have c0 := hb.cell 0
  have c1 := hb.cell 1
  simp only [List.getElem?_toArray, List.getElem?_cons_zero, List.getElem?_cons_succ] at c0 c1
  have hm1 : ¬ ((m : Int) < 1) := by omega
  obtain ⟨lf, hlf⟩ : ∃ lf, lf = left := ⟨_, rfl⟩
  subst hlf
  have hl0 : ¬ lf = 0 := by omega
  have hld : decide (lf = 0) = false := by simp; omega
  simp only [hld] at hbg
  have hkk : min m lf = m := by omega
  rw [hkk] at hf
  try rw [hkk] at e
  have hfd : decide ((n : Int) < (m : Int)) = true := by simp; omega
  have hfn : n < m := by omega
  have H := Lib.hid h
  have E := Lib.hid e
  have HB := Lib.hid hb
  have HK := Lib.hid hk
  have HLK := Lib.hid hlk
  clear hlen hle hc h e hlk hf hb hk hkk hn
  go_enter Try.func13, Try.ntmps13
  go_wp2_with fail
  refine (hbg _ c0).mono ?_
  rintro e1 w1 ⟨rfl, rfl⟩
  go_wp2_with fail
  obtain ⟨u, hu⟩ : ∃ u, u = w := ⟨_, rfl⟩
  have h2 := H.out
  have hb2 := HB.out
  have hk2 := HK.out
  have hg2 : w.grownBy w (some g) := grown_refl _ _
  have hs2 : w.heap.size ≤ w.heap.size := Nat.le_refl _
  have HBN : ∀ x, BytesNot w g x → BytesNot w g x := fun _ hx => hx
  clear hbg hu
  have HLK2 := lack_any h2
  refine HLK2.mono ?_
  rintro e3 w3 ⟨rfl, rfl⟩
  clear HLK2
  go_wp2
  go_ret3
  exact ⟨GetO.err h2 hg2 E.out, HBN⟩
set_option maxHeartbeats 2000000 in
theorem get_in_okB {w : World} {g left : Nat} {l : List UInt8} {en : Bool} (h : StrAt w g left l en) (m : Nat) (hm : 1 ≤ m) (hm2 : m ≤ 9223372036854775807) (hz : 1 ≤ left) (hf : min m left ≤ l.length) (hlm : ¬ left < m) : Calls Try.prog 13 #[.pointer (some ⟨g, 0, none⟩), .int .i64 m] w (GetX w g en (getM left l en m)) := by
  have e : getM left l en m = takeM left l en m left := by unfold getM; rw [if_neg (by omega), if_neg (by omega), Int.toNat_natCast]
  unfold takeM at e
  rw [if_neg (by omega)] at e
  generalize getM left l en m = r at *
  have hbg := fun u c0 => begins_any u g left c0
  have hle := h.hleft
  have hlen := h.hlen
  have hlk := lack_any h
  obtain ⟨A, n, c, hb, hn, hk, hc⟩ := h.at_
  have c0 := hb.cell 0
  have c1 := hb.cell 1
  simp only [List.getElem?_toArray, List.getElem?_cons_zero, List.getElem?_cons_succ] at c0 c1
  have hm1 : ¬ ((m : Int) < 1) := by omega
  obtain ⟨lf, hlf⟩ : ∃ lf, lf = left := ⟨_, rfl⟩
  subst hlf
  have hl0 : ¬ lf = 0 := by omega
  have hld : decide (lf = 0) = false := by simp; omega
  simp only [hld] at hbg
  have hkk : min m lf = m := by omega
  rw [hkk] at hf
  try rw [hkk] at e
  have hfd : decide ((n : Int) < (m : Int)) = false := by simp; omega
  have hfn : ¬ n < m := by omega
  have hk1 : 1 ≤ m := by omega
  obtain ⟨b, o, rfl, _⟩ := hk (by omega)
  obtain ⟨D, hD⟩ : ∃ D, D = lf - m := ⟨_, rfl⟩
  have ew : IntKind.i64.wrap ((lf : Int) - (m : Int)) = (D : Int) := by rw [IntWalk.i64_in _ (by omega)]; omega
  rw [← hD] at e
  have HD := Lib.hid hD
  clear hD
  have hpt := fun (u : World) (hu : KB u (some ⟨b, o, none⟩) l) => part_any hu n c m (Lib.hid hn) (Lib.hid (by omega)) hk1 (by omega) hc.1 hc.2
  have Hpt := Lib.hid hpt
  have Q1 : Hid (1 ≤ m ∧ m ≤ lf ∧ lf ≤ 32767 ∧ m ≤ l.length ∧ n = l.length ∧ l.length ≤ 65536) := Lib.hid ⟨by omega, by omega, by omega, by omega, hn, hlen⟩
  have H := Lib.hid h
  have E := Lib.hid e
  have HB := Lib.hid hb
  have HK := Lib.hid hk
  have HLK := Lib.hid hlk
  clear hlen hle hc h e hlk hf hb hk hkk hn hpt
  go_enter Try.func13, Try.ntmps13
  go_wp2_with fail
  refine (hbg _ c0).mono ?_
  rintro e1 w1 ⟨rfl, rfl⟩
  go_wp2_with fail
  obtain ⟨u, hu⟩ : ∃ u, u = w := ⟨_, rfl⟩
  have h2 := H.out
  have hb2 := HB.out
  have hk2 := HK.out
  have hg2 : w.grownBy w (some g) := grown_refl _ _
  have hs2 : w.heap.size ≤ w.heap.size := Nat.le_refl _
  have HBN : ∀ x, BytesNot w g x → BytesNot w g x := fun _ hx => hx
  clear hbg hu
  refine (Hpt.out _ hk2).mono ?_
  rintro e3 w3 ⟨A1, c1', A2, c2', rfl, own3, kb3, hl3, hc3, hb3, hbk3⟩
  have hgl := hb2.lt
  have hb4 := hb2.below hb3 hgl
  have z0 := hb4.frozen 0
  have z1 := hb4.frozen 1
  have x0 := hb4.cell 0
  have x1 := hb4.cell 1
  simp only [List.getElem?_toArray, List.getElem?_cons_zero, List.getElem?_cons_succ] at x0 x1
  have hb5 := hb4.set_ 1 (.slice A2 (n - m) c2')
  have hg5 := grownBy_trans hg2 (grownBy_trans (grown_of hb3 _) (grown_set w3 ⟨g, 1, none⟩ (.slice A2 (n - m) c2')))
  have y0 := hb5.cell 0
  have zy := hb5.frozen 0
  simp only [List.setIfInBounds_toArray, List.set_cons_succ, List.set_cons_zero, List.getElem?_toArray, List.getElem?_cons_zero, List.getElem?_cons_succ] at y0 hb5
  have hb6 := hb5.set_ 0 (.int .i64 (D : Int))
  have hg6 := grownBy_trans hg5 (grown_set _ ⟨g, 0, none⟩ (.int .i64 (D : Int)))
  have n4 : blk A1 ≠ some g := fun e => own3.ne_blk' hb4 stream_ne e.symm
  have own5 := own3.kept (grown_set w3 ⟨g, 1, none⟩ (.slice A2 (n - m) c2')) (.inr n4)
  have own6 := own5.kept (grown_set (w3.setCell ⟨g, 1, none⟩ (.slice A2 (n - m) c2')) ⟨g, 0, none⟩ (.int .i64 (D : Int))) (.inr n4)
  have kb5 := kb3.kept (grown_set w3 ⟨g, 1, none⟩ (.slice A2 (n - m) c2')) hb4 stream_ne
  have kb6 := kb5.kept (grown_set (w3.setCell ⟨g, 1, none⟩ (.slice A2 (n - m) c2')) ⟨g, 0, none⟩ (.int .i64 (D : Int))) hb5 stream_ne
  simp only [List.setIfInBounds_toArray, List.set_cons_succ, List.set_cons_zero] at hb6
  have y6 := hb6.cell 0
  simp only [List.getElem?_toArray, List.getElem?_cons_zero] at y6
  have HB6 := Lib.hid hb6
  have HG6 := Lib.hid hg6
  have HO6 := Lib.hid own6
  have HK6 := Lib.hid kb6
  clear hb6 hg6 own6 kb6 own5 kb5 hb5 hg5 hb4 kb3 own3 hb3 hk2 hb2 h2 hg2
  go_wp2_with fail
  refine (begins_any _ g D y6).mono ?_
  rintro e4 w4 ⟨rfl, rfl⟩
  go_wp2
  go_ret3
  have q := Q1.out
  have hD := HD.out
  obtain rfl := E.out
  refine ⟨⟨A1, m, c1', rfl, Lib.hid (by first | (simp; done) | (simp; omega)), HO6.out.base_le hs2, ⟨by first | (simp; done) | (simp; omega), by first | (simp; done) | (simp; omega), A2, n - m, c2', HB6.out, by first | (simp; done) | (simp; omega), HK6.out, hl3, hc3⟩, HG6.out⟩, fun x hx => bn_new HB6.out (fun h0 => ?_)⟩
  rw [hbk3]
  exact hx _ _ _ _ _ HB.out (by omega)
theorem get_anyX {w : World} {g left : Nat} {l : List UInt8} {en : Bool} (h : StrAt w g left l en) (most : Int) (hmx : most ≤ 9223372036854775807) : Calls Try.prog 13 #[.pointer (some ⟨g, 0, none⟩), .int .i64 most] w (GetX w g en (getM left l en most)) := by
  by_cases hm : most < 1
  · exact get_arg h most hm
  · obtain ⟨m, rfl⟩ : ∃ m : Nat, most = m := ⟨most.toNat, by omega⟩
    rcases Nat.eq_zero_or_pos left with rfl | hl
    · by_cases hz : (lenM l en).2 = 0
      · by_cases hf : l.length < min m (lenM l en).1
        · by_cases ha : (lenM l en).1 < m
          · exact get_zero_fewA h m (by omega) (by omega) hz hf ha
          · exact get_zero_fewB h m (by omega) (by omega) hz hf ha
        · by_cases ha : (lenM l en).1 < m
          · exact get_zero_okA h m (by omega) (by omega) hz (by omega) ha
          · exact get_zero_okB h m (by omega) (by omega) hz (by omega) ha
      · exact get_nolen h m (by omega) hz
    · by_cases hf : l.length < min m left
      · by_cases ha : left < m
        · exact get_in_fewA h m (by omega) (by omega) hl hf ha
        · exact get_in_fewB h m (by omega) (by omega) hl hf ha
      · by_cases ha : left < m
        · exact get_in_okA h m (by omega) (by omega) hl (by omega) ha
        · exact get_in_okB h m (by omega) (by omega) hl (by omega) ha
theorem get_any {w : World} {g left : Nat} {l : List UInt8} {en : Bool} (h : StrAt w g left l en) (most : Int) (hmx : most ≤ 9223372036854775807) : Calls Try.prog 13 #[.pointer (some ⟨g, 0, none⟩), .int .i64 most] w (GetO w g en (getM left l en most)) :=
  (get_anyX h most hmx).mono fun e w' h => h.1
end Go.Proofs.Ytgbcjimfpoeicaa
