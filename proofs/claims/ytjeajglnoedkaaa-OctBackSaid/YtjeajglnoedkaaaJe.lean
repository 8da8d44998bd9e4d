/- Layer 1: the part at a place. -/
import Derived.Test.YtjeajglnoedkaaaJa
import Derived.Deep.QuietTactic
import Derived.BigQuiet
namespace Go.Proofs.Ytjeajglnoedkaaa
open Go.RowKit
set_option linter.unusedVariables false
set_option linter.unusedSimpArgs false

def num2 (x y : UInt8) : Nat := 256 * x.toNat + y.toNat
theorem num2_lt (x y : UInt8) : num2 x y < 65536 := by have := x.toNat_lt; have := y.toNat_lt; unfold num2; omega
theorem or8_i64 (v x : Nat) (hv : v < 256) (hx : x < 256) : bits .or .i64 ((v : Int) * 256) (x : Int) = ((256 * v + x : Nat) : Int) := by
  have : ((v : Int) * 256) = ((2 ^ 8 * v : Nat) : Int) := by omega
  rw [this]
  have e : (2 ^ 8 * v) ||| x = 256 * v + x := by rw [← Nat.two_pow_add_eq_or_of_lt hx]
  show IntKind.i64.wrap ((BitVec.ofInt 64 ((2 ^ 8 * v : Nat) : Int) ||| BitVec.ofInt 64 (x : Int)).toNat : Int) = _
  have o1 : ∀ n : Nat, n < 2 ^ 64 → (BitVec.ofInt 64 (n : Int)).toNat = n := fun n hn => by rw [BitVec.ofInt_natCast, BitVec.toNat_ofNat, Nat.mod_eq_of_lt hn]
  rw [BitVec.toNat_or, o1 _ (by omega), o1 _ (by omega), e]
  exact IntWalk.i64_in _ (by omega)
theorem gr_drew (w : World) : Below w.heap.size w w.drew := ⟨rfl, rfl, rfl, Nat.le_refl _, fun _ _ => rfl⟩
theorem bl_drewN (w : World) (n : Nat) : Below w.heap.size w (w.drewN n) := ⟨rfl, rfl, rfl, Nat.le_refl _, fun _ _ => rfl⟩

/-- The part at the front of r: its bytes, and whether it is whole. -/
def pieceR (r : List UInt8) : List UInt8 × Bool :=
  match r with
  | x :: y :: t => if t.length < num2 x y then ([], false) else (t.take (num2 x y), true)
  | _ => ([], false)
theorem pieceR_cons (x y : UInt8) (t : List UInt8) : pieceR (x :: y :: t) = if t.length < num2 x y then ([], false) else (t.take (num2 x y), true) := rfl

/-- What the part's bytes are, wherever the whole is. -/
def SubOf (b o : Nat) (l : List UInt8) (A' : Option Addr) (m : List UInt8) : Prop := ∀ w0 B, Bs w0 B (some ⟨b, o, none⟩) l → Bs w0 B A' m
def PieceO (w : World) (b o : Nat) (l : List UInt8) (at_ : Nat) (s : List UInt8 × Bool) (e : Ending) (w' : World) : Prop :=
  ∃ A' c', e = .returned (.agg #[.int .i64 at_, .slice A' s.1.length c', .bool s.2]) ∧ SubOf b o l A' s.1 ∧ Below w.heap.size w w'

set_option maxRecDepth 100000 in
set_option maxHeartbeats 1000000 in
theorem pieceAt_any (b o : Nat) (l : List UInt8) (n c at_ : Nat) (w : World) (hn : n = l.length) (hat : at_ < n) (hc : n ≤ c) (hm : n ≤ 100000000) (hc2 : c ≤ 9223372036854775807) (h : Bs w w.heap.size (some ⟨b, o, none⟩) l) :
    Calls Try.prog 42 #[.slice (some ⟨b, o, none⟩) n c, .int .i64 at_] w (PieceO w b o l at_ (pieceR (l.drop at_))) := by
  have hcell : ∀ i, (hi : i < l.length) → w.cell? ⟨b, o + i, none⟩ = some (.int .u8 ((l[i]'hi).toNat : Int)) := by
    obtain ⟨b', o', e, _, h2⟩ := h (by omega)
    cases e
    exact h2
  have hblt : b < w.heap.size := by
    obtain ⟨b', o', e, h1, _⟩ := h (by omega)
    cases e
    exact h1
  obtain ⟨c1, rfl⟩ : ∃ c1, c = at_ + c1 := ⟨c - at_, by omega⟩
  have hL : (l.drop at_).length = n - at_ := by rw [List.length_drop, hn]
  have hg : ∀ i, (hi : i < (l.drop at_).length) → w.cell? ⟨b, o + at_ + i, none⟩ = some (.int .u8 (((l.drop at_)[i]'hi).toNat : Int)) := fun i hi => by
    rw [List.getElem_drop, Nat.add_assoc]
    exact hcell _ _
  generalize hr : l.drop at_ = r at hL hg ⊢
  have Hr := Lib.hid hr
  clear hr
  clear hcell h
  rcases r with _ | ⟨x, _ | ⟨y, t⟩⟩
  · simp at hL; omega
  · obtain rfl : n = at_ + 1 := by simp at hL; omega
    obtain ⟨c2, rfl⟩ : ∃ c2, c1 = c2 + 1 := ⟨c1 - 1, by omega⟩
    have e0 : ¬ (at_ + (c2 + 1) = at_) := by omega
    clear hL hn hg
    go_enter Try.func42, Try.ntmps42
    go_wp2
    exact bodyPost_ret (v := .agg #[.int .i64 at_, .slice none 0 0, .bool false]) (by simp [results, Try.results42, go_sem]; try rfl) rfl ⟨none, 0, rfl, fun _ _ _ => Bs.nil, ba _ _⟩
  · obtain rfl : n = at_ + (t.length + 2) := by simp at hL; omega
    obtain ⟨c2, rfl⟩ : ∃ c2, c1 = c2 + 2 := ⟨c1 - 2, by omega⟩
    have h0 := hg 0 (by simp)
    have h1 := hg 1 (by simp)
    simp only [List.getElem_cons_zero, List.getElem_cons_succ, Nat.add_zero] at h0 h1
    have e0 : ¬ (at_ + (c2 + 2) = at_) := by omega
    have hx := x.toNat_lt
    have hy := y.toNat_lt
    have HG := Lib.hid hg
    obtain ⟨z0, hz0⟩ : ∃ z0 : Array Value, z0 = #[.int .i64 0, .slice none 0 0, .bool false] := ⟨_, rfl⟩
    have hbW := ba w (.cells z0 60)
    have g0 := (hbW.cell (p := ⟨b, o + at_, none⟩) hblt).trans h0
    have g1 := (hbW.cell (p := ⟨b, o + at_ + 1, none⟩) hblt).trans h1
    rw [hz0] at g0 g1
    have d0 : decide ((0 : Int) < ((t.length + 2 : Nat) : Int)) = true := by simp; omega
    have d1 : decide ((1 : Int) < ((t.length + 2 : Nat) : Int)) = true := by simp; omega
    have d2 : ¬ ((t.length + 2 : Nat) : Int) < 2 := by omega
    have hfit : t.length ≤ c2 := by omega
    have hc3 : c2 + 2 ≤ 9223372036854775807 := by omega
    have hor := or8_i64 _ _ hx hy
    have hxy : ((256 * x.toNat + y.toNat : Nat) : Int) = ((num2 x y : Nat) : Int) := rfl
    rw [hxy] at hor
    obtain ⟨N, hN⟩ : ∃ N, N = num2 x y := ⟨_, rfl⟩
    have hNl := num2_lt x y
    rw [← hN] at hor hNl
    rw [pieceR_cons, ← hN]
    have Hor := Lib.hid hor
    have Hfit := Lib.hid hfit
    have Hc3 := Lib.hid hc3
    have HNl := Lib.hid hNl
    clear hL hn hat hm hc2 hc h0 h1 hg hz0 hbW hor hxy hN hfit hc3 hNl
    by_cases hsh : t.length < N
    · have hshI : (t.length : Int) < (N : Int) := by omega
      rw [if_pos hsh]
      clear hsh
      go_enter Try.func42, Try.ntmps42
      go_wp2
      go_quiet (fail)
      rw [Hor.out]
      clear hx hy g0 g1 d0 d1
      go_wp2
      all_goals exact bodyPost_ret (v := .agg #[.int .i64 at_, .slice none 0 0, .bool false]) (by simp [results, Try.results42, go_sem]; try rfl) rfl ⟨none, 0, rfl, fun _ _ _ => Bs.nil, ((((ba _ _).trans ((bl_drewN _ _).mono (by simp))).setCell (Nat.le_refl _) _).setCell (Nat.le_refl _) _).setCell (Nat.le_refl _) _⟩
    · have hshI : (N : Int) ≤ (t.length : Int) := by omega
      have hlen : (t.take N).length = N := by rw [List.length_take]; omega
      rw [if_neg hsh]
      have Hsh := Lib.hid hsh
      have Hlen := Lib.hid hlen
      clear hsh hlen
      have hNc : N ≤ c2 := by have := Hfit.out; omega
      by_cases hz : c2 = 0
      · subst hz
        go_enter Try.func42, Try.ntmps42
        go_wp2
        go_quiet (fail)
        rw [Hor.out]
        clear hx hy g0 g1 d0 d1
        go_wp2
        have hN0 : N = 0 := by omega
        subst hN0
        exact bodyPost_ret (v := .agg #[.int .i64 at_, .slice (some ⟨b, o + at_, none⟩) 0 0, .bool true]) (by simp [results, Try.results42, go_sem]; try rfl) rfl ⟨_, _, rfl, fun _ _ _ => Bs.nil, ((((ba _ _).trans ((bl_drewN _ _).mono (by simp))).setCell (Nat.le_refl _) _).setCell (Nat.le_refl _) _).setCell (Nat.le_refl _) _⟩
      · go_enter Try.func42, Try.ntmps42
        go_wp2
        go_quiet (fail)
        rw [Hor.out]
        clear hx hy g0 g1 d0 d1
        go_wp2
        refine bodyPost_ret (v := .agg #[.int .i64 at_, .slice (some ⟨b, o + at_ + 2, none⟩) N c2, .bool true]) (by simp [results, Try.results42, go_sem]; try rfl) rfl ⟨some ⟨b, o + at_ + 2, none⟩, c2, by simp only [Hlen.out], fun w0 B h0 hp => ?_, ((((ba _ _).trans ((bl_drewN _ _).mono (by simp))).setCell (Nat.le_refl _) _).setCell (Nat.le_refl _) _).setCell (Nat.le_refl _) _⟩
        have hlr : (l.drop at_).length = t.length + 2 := by rw [Hr.out]; rfl
        rw [List.length_drop] at hlr
        obtain ⟨b', o', e, h1, h2⟩ := h0 (by omega)
        cases e
        refine ⟨b, o + at_ + 2, rfl, h1, fun i hi => ?_⟩
        have hit : i < t.length := by simp only [List.length_take] at hi; omega
        have h3 := h2 (at_ + (i + 2)) (by omega)
        rw [show o + at_ + 2 + i = o + (at_ + (i + 2)) by omega, h3]
        have h4 : l[at_ + (i + 2)]'(by omega) = (l.drop at_)[i + 2]'(by rw [List.length_drop]; omega) := by rw [List.getElem_drop]
        have h5 : (l.drop at_)[i + 2]'(by rw [List.length_drop]; omega) = t[i] := by simp only [Hr.out]; rfl
        rw [h4, h5, List.getElem_take]
end Go.Proofs.Ytjeajglnoedkaaa
