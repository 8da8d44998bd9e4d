/- Layer 9: an end of a session in memory; New. -/
import Derived.Test.YtkhnhidckiopnaaBlk
import Derived.Test.YtkhnhidckiopnaaProg
import Derived.Test.YtkhnhidckiopnaaInvT
import Derived.Laws.Cover3
import Derived.Lib.OwnKind
namespace Go.Proofs.Ytkhnhidckiopnaa
open Go.RowKit
set_option linter.unusedVariables false
set_option linter.unusedSimpArgs false

theorem Try.infoU8 : (Try.prog.info? 5).map (fun i => (i.zero, i.size, i.bytes)) = some (some (.int .u8 0), 1, 1) := by kernel_rfl
theorem below_drew (w : World) : Below w.heap.size w w.drew := (Below.refl _ _).drew
theorem ltf {a : Bool} (h : a = false) (h2 : a = true) : False := by rw [h] at h2; cases h2
/-- Bytes that lie in a block other than g. -/
def DAt (w : World) (g : Option Nat) (A : Option Addr) (d : List UInt8) : Prop :=
  0 < d.length → ∃ b o, A = some ⟨b, o, none⟩ ∧ some b ≠ g ∧ b < w.heap.size ∧ (∃ cs fz, w.heap[b]? = some (.cells cs 5 fz)) ∧ ∀ i, (h : i < d.length) → w.cell? ⟨b, o + i, none⟩ = some (.int .u8 ((d[i]'h).toNat : Int))
theorem DAt.bs {w : World} {g : Option Nat} {A : Option Addr} {d : List UInt8} (h : DAt w g A d) : Bs w w.heap.size A d := fun hn => by
  obtain ⟨b, o, e, _, h2, _, h3⟩ := h hn; exact ⟨b, o, e, h2, h3⟩
theorem cell_grown {w w' : World} {row : Option Nat} (hg : w.grownBy w' row) {p : Addr} (hp : p.block < w.heap.size) (hr : some p.block ≠ row) : w'.cell? p = w.cell? p := by
  unfold World.cell?
  rw [hg.block p.block hp hr]
theorem DAt.grown {w w' : World} {g g' : Option Nat} {A : Option Addr} {d : List UInt8} (h : DAt w g A d) (hg : w.grownBy w' g) (hg' : g' = g ∨ g' = some w.heap.size) : DAt w' g' A d := fun hn => by
  obtain ⟨b, o, e, h1, h2, ⟨cq, fq, hq⟩, h3⟩ := h hn
  refine ⟨b, o, e, ?_, Nat.lt_of_lt_of_le h2 hg.size, ⟨cq, fq, (hg.block b h2 h1).trans hq⟩, fun i hi => (cell_grown hg h2 h1).trans (h3 i hi)⟩
  rcases hg' with rfl | rfl
  · exact h1
  · intro e; cases e; omega
theorem DAt.below {w w' : World} {g : Option Nat} {A : Option Addr} {d : List UInt8} (h : DAt w g A d) (hb : Below w.heap.size w w') : DAt w' g A d := fun hn => by
  obtain ⟨b, o, e, h1, h2, ⟨cq, fq, hq⟩, h3⟩ := h hn
  exact ⟨b, o, e, h1, Nat.lt_of_lt_of_le h2 hb.size, ⟨cq, fq, (hb.block b h2).trans hq⟩, fun i hi => (hb.cell (p := ⟨b, o + i, none⟩) h2).trans (h3 i hi)⟩


theorem grownBy_trans {w w1 w2 : World} {r : Option Nat} (h : w.grownBy w1 r) (k : w1.grownBy w2 r) : w.grownBy w2 r :=
  ⟨k.os.trans h.os, k.tape.trans h.tape, k.output.trans h.output, Nat.le_trans h.size k.size, fun i hi hne => (k.block i (Nat.lt_of_lt_of_le hi h.size) hne).trans (h.block i hi hne)⟩
theorem grown_of {w w' : World} (hb : Below w.heap.size w w') (r : Option Nat) : w.grownBy w' r := ⟨hb.os, hb.tape, hb.output, hb.size, fun i hi _ => hb.block i hi⟩
theorem below_of {w w' : World} {g B : Nat} (h : w.grownBy w' (some g)) (hB : B ≤ g) (hs : B ≤ w.heap.size) : Below B w w' := ⟨h.os, h.tape, h.output, h.size, fun i hi => h.block i (by omega) (fun e => by injection e with e; omega)⟩
theorem grown_set (w : World) (p : Addr) (u : Value) : w.grownBy (w.setCell p u) (some p.block) := by
  have h := (Below.refl 0 w).setCell (p := p) (Nat.zero_le _) u
  exact ⟨h.os, h.tape, h.output, h.size, fun k _ hne => Below.heap_setCell w p u k (fun e => hne (by rw [e]))⟩
theorem DAt.of_own {w : World} {base g c : Nat} {A : Option Addr} {l : List UInt8} (h : Own w base 5 A c l) (hg : g < base) : DAt w (some g) A l := fun hn => by
  obtain ⟨b, e, h1, h2, _⟩ := h.form hn
  subst e
  refine ⟨b, 0, rfl, fun e => by injection e with e; omega, h2, Lib.ownsRow_kind h b rfl, fun i hi => ?_⟩
  rw [Nat.zero_add]
  exact h.cell i hi

theorem Own.ne_blk {w : World} {base : Nat} {e t : TypeId} {A : Option Addr} {c g : Nat} {l : List UInt8} {cs : Array Value} (h : Own w base e A c l) (hb : Blk w g t cs) (hne : t ≠ e) : some g ≠ blk A := by
  rcases h.2 with ⟨h1, h2⟩ | ⟨g', cap, cur, h1, _, hg, _⟩
  · simp only [Value.slice.injEq] at h1
    obtain ⟨rfl, _, _⟩ := h1
    simp [blk]
  · simp only [Value.slice.injEq] at h1
    obtain ⟨rfl, _, _⟩ := h1
    intro e'
    simp [blk] at e'
    subst e'
    unfold Blk at hb
    rw [hb] at hg
    injection hg with hg
    injection hg with _ ht
    exact hne ht
theorem clone_all (A : Option Addr) (l : List UInt8) (n c : Nat) (w : World) (hn : Hid (n = l.length)) (hm : Hid (l.length ≤ 140737488355328)) (h : Bs w w.heap.size A l) : Calls Try.prog 29 #[.slice A n c] w fun e w' => ∃ A2 c2, e = .returned (.slice A2 n c2) ∧ Own w' w.heap.size 5 A2 c2 l ∧ Below w.heap.size w w' := by
  cases A with
  | none =>
    have hl : l = [] := by
      cases l with
      | nil => rfl
      | cons x t => obtain ⟨b, o, e, _⟩ := h (by simp); cases e
    subst hl
    obtain rfl : n = 0 := hn.out
    have hnl : ∀ w, (binOp .eql 31 (.slice none 0 c) (.slice none 0 0)).run Try.prog w = .ok (.bool true) w := fun w => by simp [binOp, Go.run_equal_slice_nil w 31 5 none 0 c Try.underlying31]
    go_enter Try.func29, Try.ntmps29
    go_wp2
    go_ret
    exact ⟨none, 0, rfl, Own.nil, Below.refl _ _⟩
  | some a =>
    obtain ⟨i0, hi, hz0, hz1, hz2⟩ := info_parts Try.infoU8
    have ow : Own (w.alloc (.cells #[] 5)) w.heap.size 5 (some ⟨w.heap.size, 0, none⟩) 0 [] := by
      have hr : Raw (w.alloc (.cells #[] 5)) w.heap.size 5 [] := heap_alloc_new w _
      exact hr.own (Nat.le_refl _) (by simp [maxLen])
    have hbw := ba w (.cells #[] 5)
    have hb2 := h.bt hbw
    have hs := hbw.size
    have hnl : ∀ w, (binOp .eql 31 (.slice (some a) n c) (.slice none 0 0)).run Try.prog w = .ok (.bool false) w := fun w => by simp [binOp, Go.run_equal_slice_nil w 31 5 (some a) n c Try.underlying31]
    go_enter Try.func29, Try.ntmps29
    go_wp2_with (at_builtin; refine wpList_append_bs _ rfl _ _ 31 rfl w.heap.size 5 i0 _ Try.underlying31 hi hz0 hz1 hz2 rfl (some ⟨w.heap.size, 0, none⟩) 0 [] 0 rfl rfl ow _ (some a) c l n rfl hn.out hb2 (by have := hm.out; simpa using this) hs ?_; intro A4 cA4 w4 own4 hg4 _)
    go_ret
    rw [List.nil_append] at own4
    exact ⟨A4, cA4, rfl, own4, hbw.grown hg4 hs (fun k e => (ow.lt _ e).1)⟩


theorem infoEnd : (Try.prog.info? 51).map (fun i => i.zero) = some (some (.agg ((#[.int .u32 0, .int .i64 0] ++ Array.replicate 64 (.slice none 0 0)) ++ #[.int .i64 0, .int .i64 0, .int .i64 0]))) := by kernel_rfl
end Go.Proofs.Ytkhnhidckiopnaa
