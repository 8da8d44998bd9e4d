/- Parts Bj Bk Bl of one proof. -/
import Derived.Test.YtlliaihmfimdoaaMg11
namespace Go.Proofs.Ytlliaihmfimdoaa
open Go.RowKit Go.Maps
set_option linter.unusedVariables false
set_option linter.unusedSimpArgs false

def setV (V : Nat → Nat × Bool) (x : Ch) : Nat → Nat × Bool := fun k => if k = x.y.toNat then (x.v, x.k == 1) else V k
/-- A value has turned. -/
theorem KvAt.valued {w : World} {g N : Nat} {tt : TypeId} {cs : Array Value} {S : KS} (h : KvAt w g tt cs S N) (k : Nat) (hk : k < 16) (x : Ch) (hx : x.y = (k : Int)) :
    ∃ cs', KvAt ((w.setCell ⟨g, k * 2, none⟩ (.int .u64 (x.v : Nat))).setCell ⟨g, k * 2 + 1, none⟩ (.bool (x.k == 1))) g tt cs' { S with V := setV S.V x } N ∧ Keep cs cs' := by
  obtain ⟨h1, h2, h3, ⟨mw, G, h4, h5, h6⟩, ⟨h7, m2, h8, h9⟩, h10⟩ := h
  have ge := (lgrown_set w ⟨g, k * 2, none⟩ (.int .u64 (x.v : Nat))).trans (lgrown_set (w.setCell ⟨g, k * 2, none⟩ (.int .u64 (x.v : Nat))) ⟨g, k * 2 + 1, none⟩ (.bool (x.k == 1)))
  have hkx : x.y.toNat = k := by rw [hx]; simp
  refine ⟨_, ⟨(h1.set_ (k * 2) _).set_ (k * 2 + 1) _, h2, fun j hj => ?_, ⟨mw, G, ?_, h5.kept ge h1, h6.same fun A l hc => hc.kept ge h1 h2⟩, ⟨h7, m2, ?_, h9.kept ge h1⟩, h10⟩, (Keep.set _ _ (by omega) _).trans (Keep.set _ _ (by omega) _)⟩
  · have hv := h3 j hj
    show _ = some (Value.int .u64 ((setV S.V x j).1 : Nat)) ∧ _ = some (Value.bool (setV S.V x j).2)
    unfold setV
    rw [hkx]
    have h0 := h3 k hk
    have hs1 : 2 * k < cs.size := (Array.getElem?_eq_some_iff.1 h0.1).1
    have hs2 : 2 * k + 1 < cs.size := (Array.getElem?_eq_some_iff.1 h0.2).1
    by_cases e : j = k
    · subst e
      rw [if_pos rfl]
      constructor
      · rw [Array.getElem?_setIfInBounds_ne (by omega), Nat.mul_comm, Array.getElem?_setIfInBounds_self_of_lt (by omega)]
      · rw [Nat.mul_comm j 2, Array.getElem?_setIfInBounds_self_of_lt (by simp; omega)]
    · rw [if_neg e]
      constructor
      · rw [Array.getElem?_setIfInBounds_ne (by omega), Array.getElem?_setIfInBounds_ne (by omega)]; exact hv.1
      · rw [Array.getElem?_setIfInBounds_ne (by omega), Array.getElem?_setIfInBounds_ne (by omega)]; exact hv.2
  · rw [Array.getElem?_setIfInBounds_ne (by omega), Array.getElem?_setIfInBounds_ne (by omega)]; exact h4
  · rw [Array.getElem?_setIfInBounds_ne (by omega), Array.getElem?_setIfInBounds_ne (by omega)]; exact h8
def VCm (g tb k v : Nat) (kd : Int) (th : Bool) (i : Nat) (v_ : Value) : Prop :=
  match i with
  | 0 => v_ = .pointer (some ⟨g, 0, none⟩)
  | 1 => v_ = .pointer (some ⟨tb, 1, none⟩)
  | 2 => v_ = .int .i64 (k : Nat)
  | 3 => v_ = .pointer (some ⟨tb, 2, none⟩)
  | 4 => v_ = .int .u64 (v : Nat)
  | 5 => v_ = .pointer (some ⟨tb, 0, none⟩)
  | 6 => v_ = .int .i64 kd
  | 7 => v_ = .bool th
  | 8 => v_ = .agg #[.int .u64 (v : Nat), .bool th]
  | 9 => v_ = .pointer (some ⟨g, 0, none⟩)
  | 10 => v_ = .pointer (some ⟨g, 0, none⟩)
  | 11 => v_ = .pointer (some ⟨g, k * 2, none⟩)
  | _ => True
structure CCm (wA : World) (g tb k v : Nat) (kd y : Int) (th : Bool) (ls : Nat → Bool) (x : Nat → Value) (u : World) : Prop where
  b : Blk u tb 39 #[.int .i64 kd, .int .i64 y, .int .u64 (v : Nat)]
  n : ls 12 = false → u = wA.drew
  s : ls 12 = true → u = (wA.drew.setCell ⟨g, k * 2, none⟩ (.int .u64 (v : Nat))).setCell ⟨g, k * 2 + 1, none⟩ (.bool th)
theorem CCm.pure {wA : World} {g tb k v : Nat} {kd y : Int} {th : Bool} {ls : Nat → Bool} {x : Nat → Value} {u : World} {i : Nat} {z : Value} (hi : i ≠ 12) (h : CCm wA g tb k v kd y th ls x u) : CCm wA g tb k v kd y th (updB ls i) (upd x i z) u := by
  obtain ⟨h1, h2, h3⟩ := h
  exact ⟨h1, by rw [updB_other hi.symm]; exact h2, by rw [updB_other hi.symm]; exact h3⟩
def commitM (S : KS) (n : Int) : Int × KS := if n < 1 then (1, S) else (0, dropM { S with V := (curW S n).1.foldl setV S.V } n)
end Go.Proofs.Ytlliaihmfimdoaa

namespace Go.Proofs.Ytlliaihmfimdoaa
open Go.RowKit Go.Maps
set_option linter.unusedVariables false
set_option linter.unusedSimpArgs false

def hasL (L : List LRow) (o : Int) : Bool := L.any fun x => decide (x.2.1 = o)
theorem HeldKs.pos {L : List LRow} {o : Int} {ys : List Int} (h : HeldKs L o ys) : (0 < ys.length) ↔ hasL L o = true := by
  unfold hasL
  rw [List.any_eq_true]
  constructor
  · intro hp
    obtain ⟨y, hy⟩ := List.exists_mem_of_length_pos hp
    obtain ⟨x, hx, _, h2⟩ := held_iff.1 ((h.mem y).1 hy)
    exact ⟨x, hx, by simpa using h2⟩
  · rintro ⟨x, hx, h2⟩
    exact List.length_pos_of_mem ((h.mem x.1).2 (held_iff.2 ⟨x, hx, rfl, by simpa using h2⟩))
def busyB (S : KS) (n : Int) : Bool := (S.W n).isSome || hasL S.L n
/-! ### may changes be a work's? -/
def updS (M : Nat → Bool) (k : Nat) : Nat → Bool := fun j => if j = k then true else M j
def kindB (x : Ch) : Bool := (x.k == 1) || (x.k == 2 && x.v == 0)
def areB : (Nat → Bool) → List Ch → Bool
  | _, [] => true
  | s, x :: l => kindB x && (keyB x.y && (!s x.y.toNat && areB (updS s x.y.toNat) l))
end Go.Proofs.Ytlliaihmfimdoaa

namespace Go.Proofs.Ytlliaihmfimdoaa
open Go.RowKit Go.Maps
set_option linter.unusedVariables false
set_option linter.unusedSimpArgs false

/-- The locks of all changes are taken, or none. -/
def takeAll (L : List LRow) (n : Int) : List Ch → Int × List LRow
  | [] => (0, L)
  | x :: r => if (takeL L n x.y true).1 = 0 then takeAll (takeL L n x.y true).2 n r else ((takeL L n x.y true).1, dropL (takeL L n x.y true).2 n)
theorem areB_keys : ∀ (l : List Ch) (s : Nat → Bool), areB s l = true → ∀ x ∈ l, keyB x.y = true
  | [], _, _, x, hx => by cases hx
  | y :: l, s, h, x, hx => by
    simp only [areB, Bool.and_eq_true] at h
    rcases List.mem_cons.1 hx with rfl | hx
    · exact h.2.1
    · exact areB_keys l _ h.2.2.2 x hx
theorem keyB_ok {y : Int} (h : keyB y = true) : i64ok y := by
  obtain ⟨k, hk, rfl⟩ := keyB_nat h; unfold i64ok; omega
def restW (S : KS) (n : Int) (l : List Ch) : Int → Option (List Ch × Bool) := if l = [] then S.W else updW S.W n (some (l, true))
def restoreM (S : KS) (n : Int) (l : List Ch) : Int × KS :=
  if n < 1 then (1, S) else if areB (fun _ => false) l = false then (1, S) else if busyB S n = true then (7, S)
  else if (takeAll S.L n l).1 = 0 then (0, { S with L := (takeAll S.L n l).2, W := restW S n l })
  else ((takeAll S.L n l).1, { S with L := (takeAll S.L n l).2 })
theorem takeAll_len : ∀ (l : List Ch) (L : List LRow) (n : Int), L.length ≤ 64 → (takeAll L n l).2.length ≤ 64
  | [], L, n, h => h
  | x :: r, L, n, h => by
    simp only [takeAll]
    have h2 := takeL_len h n x.y true
    split
    · exact takeAll_len r _ n h2
    · exact Nat.le_trans (dropL_len _ _) h2
def VRs (g tb : Nat) (n y er : Int) (i : Nat) (v_ : Value) : Prop :=
  match i with
  | 0 => v_ = .pointer (some ⟨g, 0, none⟩)
  | 1 => v_ = .pointer (some ⟨g, 0, none⟩)
  | 2 => v_ = .pointer (some ⟨g, 33, none⟩)
  | 3 => v_ = .int .i64 n
  | 4 => v_ = .pointer (some ⟨tb, 1, none⟩)
  | 5 => v_ = .int .i64 y
  | 6 => v_ = .int .i64 er
  | 7 => v_ = .int .i64 er
  | _ => True
structure CRs (wA : World) (g tb : Nat) (kd y : Int) (v : Nat) (P : World → Prop) (ls : Nat → Bool) (x : Nat → Value) (u : World) : Prop where
  b : Blk u tb 39 #[.int .i64 kd, .int .i64 y, .int .u64 (v : Nat)]
  n : ls 6 = false → u = wA.drew
  s : ls 6 = true → P u
theorem CRs.pure {wA : World} {g tb : Nat} {kd y : Int} {v : Nat} {P : World → Prop} {ls : Nat → Bool} {x : Nat → Value} {u : World} {i : Nat} {z : Value} (hi : i ≠ 6) (h : CRs wA g tb kd y v P ls x u) : CRs wA g tb kd y v P (updB ls i) (upd x i z) u := by
  obtain ⟨h1, h2, h3⟩ := h
  exact ⟨h1, by rw [updB_other hi.symm]; exact h2, by rw [updB_other hi.symm]; exact h3⟩
end Go.Proofs.Ytlliaihmfimdoaa
