/- Layer 2: the laws' call: one of the calls on a tape; the bytes handed in are turned behind it. -/
import Derived.Test.YtpkplgnpbddcjaaTapeApp
import Derived.Test.YtpkplgnpbddcjaaNomade
namespace Go.Proofs.Ytpkplgnpbddcjaa
open Go.RowKit
set_option linter.unusedVariables false

section
variable {w w' : World} {p room : Nat} {l : List UInt8} {f : Nat}
theorem TapeAt.lt (h : TapeAt w p room l f) : p < w.heap.size := by obtain ⟨_, _, h, _⟩ := h.at_; exact h.lt
theorem TapeAt.far (h : TapeAt w p room l f) {g i : Nat} (hg : g ≠ p) (hB : BytesNot w p g) (v : Value) : TapeAt (w.setCell ⟨g, i, none⟩ v) p room l f := by
  obtain ⟨A, c, h1, h2, h3⟩ := h.at_
  refine ⟨h.r1, h.r2, h.f1, h.l1, A, c, h1.far (p := ⟨g, i, none⟩) (Ne.symm hg) v, fun hn => ?_, h3⟩
  obtain ⟨g', L, rfl, hr, hl⟩ := h2 hn
  refine ⟨g', L, rfl, hr.far (p := ⟨g, i, none⟩) (fun e => ?_) v, hl⟩
  exact hB _ _ _ _ _ h1 hn (by simp [blk, e])
theorem BytesNot.far {g g' i : Nat} (h : BytesNot w p g') (hg : g ≠ p) (v : Value) : BytesNot (w.setCell ⟨g, i, none⟩ v) p g' := by
  intro r A n c f' hb hn
  unfold Blk at hb
  rw [Below.heap_setCell _ _ _ _ (Ne.symm hg)] at hb
  exact h r A n c f' hb hn
theorem BytesNot.below {g : Nat} (h : BytesNot w p g) (hb : Below w.heap.size w w') (hp : p < w.heap.size) : BytesNot w' p g := by
  intro r A n c f' hk hn
  unfold Blk at hk
  rw [hb.block p hp] at hk
  exact h r A n c f' hk hn
theorem TapeAt.bytesNew (h : TapeAt w p room l f) {g : Nat} (hg : w.heap.size ≤ g) : BytesNot w p g := by
  obtain ⟨A, c, h1, h2, h3⟩ := h.at_
  refine bn_new h1 (fun hn e => ?_)
  obtain ⟨g', L, rfl, hr, hl⟩ := h2 hn
  simp only [blk, Option.map_some, Option.some.injEq] at e
  have := hr.lt
  omega
theorem TapeAt.bs {w : World} (h : TapeAt w p room l f) : True := trivial
end

/-- What the laws' call makes of a tape. -/
def CallOut (w : World) (p room : Nat) (r : Int × List UInt8 × Nat) (e : Ending) (w' : World) : Prop := TapeOut w p room r e w'

theorem own_set_any {w : World} {base : Nat} {e : TypeId} {g c : Nat} {l : List UInt8} (h : Own w base e (some ⟨g, 0, none⟩) c l) (j : Nat) (n : Int) (hn : 0 ≤ n ∧ n < 256) :
    ∃ L, L.length = l.length ∧ Own (w.setCell ⟨g, j, none⟩ (.int .u8 n)) base e (some ⟨g, 0, none⟩) c L := by
  refine ⟨l.set j (UInt8.ofNat n.toNat), by simp, ?_⟩
  have := (h.stored j (UInt8.ofNat n.toNat)).1
  have e1 : ((UInt8.ofNat n.toNat).toNat : Int) = n := by simp only [UInt8.toNat_ofNat']; omega
  rw [e1] at this
  exact this

theorem xor255 (x : UInt8) : 0 ≤ bits .xor .u8 (x.toNat : Int) 255 ∧ bits .xor .u8 (x.toNat : Int) 255 < 256 := by
  have h := u8_xor_nat x.toNat 255 x.toNat_lt (by omega)
  rw [show (255 : Int) = ((255 : Nat) : Int) from rfl, h]
  have : x.toNat ^^^ 255 < 2 ^ 8 := Nat.xor_lt_two_pow x.toNat_lt (by omega)
  omega

/-- What is known behind the tape's own call, the copy of the bytes being the call's own. -/
structure Mid (w : World) (p room : Nat) (R : Int × List UInt8 × Nat) (B : Nat) (A2 : Option Addr) (c2 : Nat) (m : Nat) (w2 : World) : Prop where
  tape : TapeAt w2 p room R.2.1 R.2.2
  grown : w.grownBy w2 (some p)
  bytes : ∀ g, g < w.heap.size → BytesNot w p g → BytesNot w2 p g
  own : ∃ L, L.length = m ∧ Own w2 B 5 A2 c2 L
  not_ : ∀ g, blk A2 = some g → BytesNot w2 p g

theorem mid_of {w w1 w2 : World} {o : Obj} {p room : Nat} {R : Int × List UInt8 × Nat} {A2 : Option Addr} {c2 : Nat} {b : List UInt8} {l : List UInt8} {f : Nat} (h : TapeAt w p room l f) (ho : Own w1 (w.alloc o).heap.size 5 A2 c2 b)
    (hb1 : Below (w.alloc o).heap.size (w.alloc o) w1) (hT2 : TapeAt w2 p room R.2.1 R.2.2) (hg2 : w1.grownBy w2 (some p)) (hN2 : ∀ g, g < w1.heap.size → BytesNot w1 p g → BytesNot w2 p g) :
    Mid w p room R (w.heap.size + 1) A2 c2 b.length w2 := by
  have hlt := h.lt
  have hbb : Below w.heap.size w w1 := bt (ba w o) hb1
  have hsz : (w.alloc o).heap.size = w.heap.size + 1 := by simp
  rw [hsz] at ho
  refine ⟨hT2, gtrans (gbelow hbb _) hg2, fun g hg hn => hN2 g (by have := hbb.size; omega) (hn.below hbb hlt), ⟨b, rfl, ho.kept hg2 ?_⟩, fun g hg => ?_⟩
  · refine .inr (fun e => ?_)
    have := (ho.lt p e).1
    omega
  · have := ho.lt g hg
    exact hN2 g this.2 ((h.bytesNew (by omega)).below hbb hlt)

theorem Mid.set_ {w w2 : World} {p room : Nat} {R : Int × List UInt8 × Nat} {g c2 m j : Nat} (h : Mid w p room R (w.heap.size + 1) (some ⟨g, 0, none⟩) c2 m w2) (hlt : p < w.heap.size) (hj : j < m) (n : Int) (hn : 0 ≤ n ∧ n < 256) :
    Mid w p room R (w.heap.size + 1) (some ⟨g, 0, none⟩) c2 m (w2.setCell ⟨g, j, none⟩ (.int .u8 n)) := by
  obtain ⟨L, hL, ho⟩ := h.own
  have hg := (ho.lt g rfl).1
  have hne : g ≠ p := by omega
  obtain ⟨L', hL', ho'⟩ := own_set_any ho j n hn
  refine ⟨h.tape.far hne (h.not_ g rfl) _, ⟨h.grown.os, h.grown.tape, h.grown.output, by simpa [World.setCell] using h.grown.size, fun k hk hk' => ?_⟩, fun g' hg' hn' => (h.bytes g' hg' hn').far hne _, ⟨L', by omega, ho'⟩, fun g' hg' => (h.not_ g' hg').far hne _⟩
  rw [Below.heap_setCell _ _ _ _ (by show k ≠ g; omega)]
  exact h.grown.block k hk hk'

theorem tapeCut (p room : Nat) (l : List UInt8) (f : Nat) (n : Int) (w : World) (h : TapeAt w p room l f) (hn1 : -9223372036854775808 ≤ n) (hn2 : n ≤ 9223372036854775807) :
    Calls Try.prog 18 #[.pointer (some ⟨p, 0, none⟩), .int .i64 n] w (TapeOut w p room (if n < 0 ∨ (l.length : Int) < n then (1, l, f) else (0, l.take n.toNat, min f n.toNat))) := by
  by_cases hb : n < 0 ∨ (l.length : Int) < n
  · rw [if_pos hb]
    exact tapeCut_bad p room l f n w h hb
  · rw [if_neg hb]
    obtain ⟨m, rfl⟩ := Int.eq_ofNat_of_zero_le (show 0 ≤ n by omega)
    rw [Int.toNat_natCast]
    exact tapeCut_ok p room l f m w h (by omega)

set_option maxHeartbeats 4000000 in
theorem call_tape (k n : Int) (A : Option Addr) (b : List UInt8) (c : Nat) (p room : Nat) (l : List UInt8) (f : Nat) (w : World) (h : TapeAt w p room l f) (hbs : Bs w w.heap.size A b)
    (hb : b.length ≤ 140737488355328) (hn1 : -9223372036854775808 ≤ n) (hn2 : n ≤ 9223372036854775807) :
    Calls Try.prog 7 #[.pointer (some ⟨p, 0, none⟩), .agg #[.int .i64 k, .int .i64 n, .slice A b.length c]] w (CallOut w p room (tapeStep room k n b l f)) := by
  have hcase : k = 0 ∨ k = 1 ∨ k = 2 ∨ k = 3 ∨ k = 4 ∨ (((k : Int) == 0) = false ∧ ((k : Int) == 1) = false ∧ ((k : Int) == 2) = false ∧ ((k : Int) == 3) = false ∧ ((k : Int) == 4) = false) := by
    simp only [beq_eq_false_iff_ne]; omega
  have hlt := h.lt
  have hW : TapeAt (w.alloc (.cells #[.int .i64 k, .int .i64 n, .slice A b.length c] 32)) p room l f := h.below (ba _ _)
  have hbx := Blk.new w 32 #[.int .i64 k, .int .i64 n, .slice A b.length c]
  obtain ⟨R, hR⟩ : ∃ R, R = tapeStep room k n b l f := ⟨_, rfl⟩
  rw [← hR]
  have HR := Lib.hid hR
  clear hR
  rcases hcase with rfl | rfl | rfl | rfl | rfl | ⟨k0, k1, k2, k3, k4⟩
  all_goals
    go_enter Try.func7, Try.ntmps7
    go_wp2_with fail
    refine (copy_any A b c _ hb (hbs.bt (ba _ _))).mono ?_
    rintro e w1 ⟨A2, c2, rfl, ho, hb1⟩
    have hb1' := hbx.below hb1 (by simp)
    have y0 := hb1'.cell 0
    have y1 := hb1'.cell 1
    simp only [List.getElem?_toArray, List.getElem?_cons_zero, List.getElem?_cons_succ] at y0 y1
    have hT := hW.below hb1
    go_wp2_with fail
  · have hc := tapeAppend p room l f A2 b c2 w1 hT ho.bs (by omega)
    rw [show (if room < l.length + b.length then ((5 : Int), l, f) else (0, l ++ b, f)) = R from HR.out.symm] at hc
    refine hc.mono ?_
    clear hc
    rintro e w2 ⟨rfl, hT2, hg2, hN2⟩
    have hmid := mid_of h ho hb1 hT2 hg2 hN2
    clear y0 y1 hT ho hb1 hb1' hT2 hg2 hN2 hW hbx HR
    go_wp2_with fail
    go_loopw [7] (fun i wr => ∃ j : Nat, j ≤ b.length ∧ i = .int .i64 j ∧ Mid w p room R (w.heap.size + 1) A2 c2 b.length wr) (fun i _ => b.length - (intOf i).toNat)
    case atStart => exact ⟨0, Nat.zero_le _, rfl, hmid⟩
    case round =>
      obtain ⟨j, hj, rfl, hm⟩ := hrel
      by_cases hjl : j < b.length
      · obtain ⟨L, hL, hO⟩ := hm.own
        obtain ⟨g, rfl, _⟩ := hO.form (by omega)
        have hcell := hO.cell j (by omega)
        have hfr := hO.frozen j
        have hx := xor255 (L[j]'(by omega))
        obtain ⟨x, hxe⟩ : ∃ x, x = L[j]'(by omega) := ⟨_, rfl⟩
        rw [← hxe] at hcell hx
        clear hxe hO
        go_wp2
        go_roundw
        case rel => exact ⟨j + 1, by omega, by go_num, hm.set_ hlt hjl _ hx⟩
        case measure => simp [intOf]; omega
      · go_wp2
        go_ret
        exact ⟨rfl, hm.tape, hm.grown, hm.bytes⟩
  · have hc := tapeForce p room l f w1 hT
    rw [show ((0 : Int), l, l.length) = R from HR.out.symm] at hc
    refine hc.mono ?_
    clear hc
    rintro e w2 ⟨rfl, hT2, hg2, hN2⟩
    have hmid := mid_of h ho hb1 hT2 hg2 hN2
    clear y0 y1 hT ho hb1 hb1' hT2 hg2 hN2 hW hbx HR
    go_wp2_with fail
    go_loopw [7] (fun i wr => ∃ j : Nat, j ≤ b.length ∧ i = .int .i64 j ∧ Mid w p room R (w.heap.size + 1) A2 c2 b.length wr) (fun i _ => b.length - (intOf i).toNat)
    case atStart => exact ⟨0, Nat.zero_le _, rfl, hmid⟩
    case round =>
      obtain ⟨j, hj, rfl, hm⟩ := hrel
      by_cases hjl : j < b.length
      · obtain ⟨L, hL, hO⟩ := hm.own
        obtain ⟨g, rfl, _⟩ := hO.form (by omega)
        have hcell := hO.cell j (by omega)
        have hfr := hO.frozen j
        have hx := xor255 (L[j]'(by omega))
        obtain ⟨x, hxe⟩ : ∃ x, x = L[j]'(by omega) := ⟨_, rfl⟩
        rw [← hxe] at hcell hx
        clear hxe hO
        go_wp2
        go_roundw
        case rel => exact ⟨j + 1, by omega, by go_num, hm.set_ hlt hjl _ hx⟩
        case measure => simp [intOf]; omega
      · go_wp2
        go_ret
        exact ⟨rfl, hm.tape, hm.grown, hm.bytes⟩
  · have hc := tapeCrash p room l f n w1 hT hn1 hn2
    rw [show ((0 : Int), l.take (f + min n.toNat (l.length - f)), f + min n.toNat (l.length - f)) = R from HR.out.symm] at hc
    refine hc.mono ?_
    clear hc
    rintro e w2 ⟨rfl, hT2, hg2, hN2⟩
    have hmid := mid_of h ho hb1 hT2 hg2 hN2
    clear y0 y1 hT ho hb1 hb1' hT2 hg2 hN2 hW hbx HR
    go_wp2_with fail
    go_loopw [7] (fun i wr => ∃ j : Nat, j ≤ b.length ∧ i = .int .i64 j ∧ Mid w p room R (w.heap.size + 1) A2 c2 b.length wr) (fun i _ => b.length - (intOf i).toNat)
    case atStart => exact ⟨0, Nat.zero_le _, rfl, hmid⟩
    case round =>
      obtain ⟨j, hj, rfl, hm⟩ := hrel
      by_cases hjl : j < b.length
      · obtain ⟨L, hL, hO⟩ := hm.own
        obtain ⟨g, rfl, _⟩ := hO.form (by omega)
        have hcell := hO.cell j (by omega)
        have hfr := hO.frozen j
        have hx := xor255 (L[j]'(by omega))
        obtain ⟨x, hxe⟩ : ∃ x, x = L[j]'(by omega) := ⟨_, rfl⟩
        rw [← hxe] at hcell hx
        clear hxe hO
        go_wp2
        go_roundw
        case rel => exact ⟨j + 1, by omega, by go_num, hm.set_ hlt hjl _ hx⟩
        case measure => simp [intOf]; omega
      · go_wp2
        go_ret
        exact ⟨rfl, hm.tape, hm.grown, hm.bytes⟩
  · have hc := tapeCut p room l f n w1 hT hn1 hn2
    rw [show (if n < 0 ∨ (l.length : Int) < n then ((1 : Int), l, f) else (0, l.take n.toNat, min f n.toNat)) = R from HR.out.symm] at hc
    refine hc.mono ?_
    clear hc
    rintro e w2 ⟨rfl, hT2, hg2, hN2⟩
    have hmid := mid_of h ho hb1 hT2 hg2 hN2
    clear y0 y1 hT ho hb1 hb1' hT2 hg2 hN2 hW hbx HR
    go_wp2_with fail
    go_loopw [7] (fun i wr => ∃ j : Nat, j ≤ b.length ∧ i = .int .i64 j ∧ Mid w p room R (w.heap.size + 1) A2 c2 b.length wr) (fun i _ => b.length - (intOf i).toNat)
    case atStart => exact ⟨0, Nat.zero_le _, rfl, hmid⟩
    case round =>
      obtain ⟨j, hj, rfl, hm⟩ := hrel
      by_cases hjl : j < b.length
      · obtain ⟨L, hL, hO⟩ := hm.own
        obtain ⟨g, rfl, _⟩ := hO.form (by omega)
        have hcell := hO.cell j (by omega)
        have hfr := hO.frozen j
        have hx := xor255 (L[j]'(by omega))
        obtain ⟨x, hxe⟩ : ∃ x, x = L[j]'(by omega) := ⟨_, rfl⟩
        rw [← hxe] at hcell hx
        clear hxe hO
        go_wp2
        go_roundw
        case rel => exact ⟨j + 1, by omega, by go_num, hm.set_ hlt hjl _ hx⟩
        case measure => simp [intOf]; omega
      · go_wp2
        go_ret
        exact ⟨rfl, hm.tape, hm.grown, hm.bytes⟩
  · have hc := tapeSwap p room l f A2 b c2 w1 hT ho.bs (by omega)
    rw [show (if room < b.length then ((5 : Int), l, f) else (0, b, b.length)) = R from HR.out.symm] at hc
    refine hc.mono ?_
    clear hc
    rintro e w2 ⟨rfl, hT2, hg2, hN2⟩
    have hmid := mid_of h ho hb1 hT2 hg2 hN2
    clear y0 y1 hT ho hb1 hb1' hT2 hg2 hN2 hW hbx HR
    go_wp2_with fail
    go_loopw [7] (fun i wr => ∃ j : Nat, j ≤ b.length ∧ i = .int .i64 j ∧ Mid w p room R (w.heap.size + 1) A2 c2 b.length wr) (fun i _ => b.length - (intOf i).toNat)
    case atStart => exact ⟨0, Nat.zero_le _, rfl, hmid⟩
    case round =>
      obtain ⟨j, hj, rfl, hm⟩ := hrel
      by_cases hjl : j < b.length
      · obtain ⟨L, hL, hO⟩ := hm.own
        obtain ⟨g, rfl, _⟩ := hO.form (by omega)
        have hcell := hO.cell j (by omega)
        have hfr := hO.frozen j
        have hx := xor255 (L[j]'(by omega))
        obtain ⟨x, hxe⟩ : ∃ x, x = L[j]'(by omega) := ⟨_, rfl⟩
        rw [← hxe] at hcell hx
        clear hxe hO
        go_wp2
        go_roundw
        case rel => exact ⟨j + 1, by omega, by go_num, hm.set_ hlt hjl _ hx⟩
        case measure => simp [intOf]; omega
      · go_wp2
        go_ret
        exact ⟨rfl, hm.tape, hm.grown, hm.bytes⟩
  · have hR' : R = (0, l, f) := by
      rw [HR.out]
      unfold tapeStep
      simp only [beq_eq_false_iff_ne] at k0 k1 k2 k3 k4
      rw [if_neg k0, if_neg k1, if_neg k2, if_neg k3, if_neg k4]
    have hT2 : TapeAt w1 p room R.2.1 R.2.2 := by rw [hR']; exact hT
    have hmid := mid_of h ho hb1 hT2 (World.grownBy.refl _ _) (fun _ _ hg => hg)
    have hR1 : R.1 = 0 := by rw [hR']
    have HR1 := Lib.hid hR1
    clear hR1 hR' hT2
    clear y0 y1 hT ho hb1 hb1' hW hbx HR
    go_wp2_with fail
    go_loopw [7] (fun i wr => ∃ j : Nat, j ≤ b.length ∧ i = .int .i64 j ∧ Mid w p room R (w.heap.size + 1) A2 c2 b.length wr) (fun i _ => b.length - (intOf i).toNat)
    case atStart => exact ⟨0, Nat.zero_le _, rfl, hmid⟩
    case round =>
      obtain ⟨j, hj, rfl, hm⟩ := hrel
      by_cases hjl : j < b.length
      · obtain ⟨L, hL, hO⟩ := hm.own
        obtain ⟨g, rfl, _⟩ := hO.form (by omega)
        have hcell := hO.cell j (by omega)
        have hfr := hO.frozen j
        have hx := xor255 (L[j]'(by omega))
        obtain ⟨x, hxe⟩ : ∃ x, x = L[j]'(by omega) := ⟨_, rfl⟩
        rw [← hxe] at hcell hx
        clear hxe hO
        go_wp2
        go_roundw
        case rel => exact ⟨j + 1, by omega, by go_num, hm.set_ hlt hjl _ hx⟩
        case measure => simp [intOf]; omega
      · go_wp2
        go_ret
        exact ⟨by rw [HR1.out]; rfl, hm.tape, hm.grown, hm.bytes⟩
end Go.Proofs.Ytpkplgnpbddcjaa
