/- Layer 12: does another owner clash? -/
import Derived.Test.YtnpoicgincndkaaIe
namespace Go.Proofs.Ytnpoicgincndkaa
open Go.RowKit Go.Maps
set_option linter.unusedVariables false
set_option linter.unusedSimpArgs false

def clash1 (k o : Int) (a : Bool) (x : LRow) : Bool := decide (x.1 = k) && !decide (x.2.1 = o) && (a || x.2.2)
theorem clashL_any (L : List LRow) (k o : Int) (a : Bool) : clashL L k o a = L.any (clash1 k o a) := rfl
/-- The entry that has come is a member. -/
theorem came_mem {H : Type} {w w' : World} {b r n : Nat} {D : DataW H} {L : List LRow} {left : Lit → Bool} {cnt cnt' : Nat} {e : KE} (h : Came w w' b r n D left cnt cnt' e) (hR : Reads D L) (hl : left (litP e.k e.o) = true → Maps.has D (litP e.k e.o) = true) : (e.k, e.o, e.c) ∈ L := by
  obtain ⟨x, hx, h1, h2⟩ := mem_of_has hR h.k h.o (hl h.lf)
  have h3 := hR.at_ x hx .nil
  have h4 := h.at_ .nil
  unfold keyR at h3
  rw [h1, h2, h4] at h3
  simp at h3
  have : x = (e.k, e.o, e.c) := by rw [← h1, ← h2, h3]
  rw [← this]; exact hx
/-- All that have come are tame. -/
def Gone (L : List LRow) (left : Lit → Bool) (p : LRow → Bool) : Prop := ∀ x ∈ L, left (keyR x) = false → p x = false
theorem Gone.step {H : Type} {w w' : World} {b r n : Nat} {D : DataW H} {L : List LRow} {left : Lit → Bool} {cnt cnt' : Nat} {e : KE} {p : LRow → Bool} (h : Gone L left p) (hc : Came w w' b r n D left cnt cnt' e) (hR : Reads D L) (hm : (e.k, e.o, e.c) ∈ L) (hp : p (e.k, e.o, e.c) = false) :
    Gone L (fun z => left z && !z.sameKey (litP e.k e.o)) p := fun x hx hl => by
  dsimp only at hl
  rcases hs : (keyR x).sameKey (litP e.k e.o) with _ | _
  · rw [hs] at hl; simp at hl; exact h x hx hl
  · have hok := hR.ok.ok x hx
    have := litP_inj hok.1 hok.2 hc.k hc.o (Go.Proofs.Ytnpoicgincndkaa.same_eq hs)
    have h2 := at_same hR.ok hx hm this.1 this.2
    rw [h2]; exact hp

set_option maxRecDepth 100000 in
set_option maxHeartbeats 1000000 in
theorem clashes_any (g of : Nat) (tt : TypeId) (cs : Array Value) (L : List LRow) (k o : Int) (a : Bool) (w : World) (h : TabO w g of tt cs L) :
    Calls Try.prog 57 #[.pointer (some ⟨g, of, none⟩), .agg #[.int .i64 k, .int .i64 o], .bool a] w fun e w' => e = .returned (.bool (clashL L k o a)) ∧ Below w.heap.size w w' := by
  have hglt := h.lt
  have hb1 := ba w (.cells #[.int .i64 k, .int .i64 o] 99)
  have k1 := Blk.new w 99 #[.int .i64 k, .int .i64 o]
  obtain ⟨m, hg, hcs, hsrc⟩ := h.src
  have hg1 := hg.below hb1 hglt
  have hs1 := hsrc.below hb1
  have c0 := (hg1.cell of).trans hcs
  clear hg hsrc h hcs
  rcases hs1 with ⟨rfl, rfl⟩ | ⟨b, D, rfl, hown, hR⟩
  · have hrg := run_range_nilMap (P := Try.prog) (w.alloc (.cells #[.int .i64 k, .int .i64 o] 99)) 55 99 105 Try.underlying55
    have hnx : ∀ ty, (Instr.next (.pointer (some ⟨(w.alloc (.cells #[.int .i64 k, .int .i64 o] 99)).heap.size, 0, none⟩)) false ty).run Try.prog ((w.alloc (.cells #[.int .i64 k, .int .i64 o] 99)).alloc (.mapIter none 0 #[] 0)) = _ := fun ty => run_next_nilMap _ ty 0 0 #[]
    have e1 : (w.alloc (.cells #[.int .i64 k, .int .i64 o] 99)).heap.size = w.heap.size + 1 := by simp
    rw [e1] at hrg hnx
    go_enter Try.func57, Try.ntmps57
    go_wp2
    refine wp_loop_rounds 1 ?_
    rw [rounds_succ]
    go_wp2
    go_ret
    exact ⟨rfl, bt (ba _ _) (ba _ _)⟩
  · go_enter Try.func57, Try.ntmps57
    go_wp2_with (first
      | (at_range; refine wpList_range_own _ rfl _ 55 rfl 99 105 lawP Try.underlying55 _ b L.length _ rfl hown ?_; intro w0 hrg0 hg0 hs0)
      | go_in)
    go_frame
    rw [World.size_alloc] at hrg0 hs0 ⊢
    have hB0 : Below w.heap.size w w0 := bt hb1 (lgrown_below hg0)
    have k0 := k1.kept hg0 (by simp)
    have hk0 : w.heap.size < w0.heap.size := k0.lt
    clear hb1 k1 hg1 c0
    go_loopw [] (fun wr => ∃ (left : Lit → Bool) (cnt : Nat), wr.ranges Try.prog 99 holdElem b (w.heap.size + 1) L.length D left cnt ∧ (∀ kl, left kl = true → Maps.has D kl = true) ∧ Gone L left (clash1 k o a) ∧ w0.grownBy wr (some (w.heap.size + 1)))
      (fun wr => wr.rangeLeft b (w.heap.size + 1))
    case atStart =>
      refine ⟨_, _, hrg0, fun _ h => h, fun x hx hl => ?_, ⟨rfl, rfl, rfl, Nat.le_refl _, fun _ _ _ => rfl⟩⟩
      rw [hR.has] at hl
      exact absurd (show anyK L (keyR x) = true from List.any_eq_true.2 ⟨x, hx, key_same _ _⟩) (by rw [hl]; simp)
    case round =>
      obtain ⟨left, cnt, hrg, hlf, hgone, hgr⟩ := hrel
      have kr := k0.kept hgr (by simp)
      have hBr : Below w.heap.size w wr := ⟨hgr.os.trans hB0.os, hgr.tape.trans hB0.tape, hgr.output.trans hB0.output, Nat.le_trans hB0.size hgr.size, fun i hi => (hgr.block i (Nat.lt_of_lt_of_le hi hB0.size) (fun e => by have := Option.some.inj e; omega)).trans (hB0.block i hi)⟩
      go_wp2_with (first
        | (at_next; refine wpList_next_lock _ rfl _ rfl b (w.heap.size + 1) L.length _ _ _ rfl hrg ?_ ?_)
        | go_in)
      · intro hc0 hl0
        go_wp2
        go_ret
        have : clashL L k o a = false := by rw [clashL_any, List.any_eq_false]; intro x hx; rw [hgone x hx (hl0 _)]; simp
        rw [this]
        exact ⟨rfl, hBr⟩
      · intro e w1 cnt1 hc hen
        have hm := came_mem hc hR (hlf _)
        obtain ⟨w2, hw2⟩ : ∃ w2, w2 = (w1.alloc (.cells #[.int .i64 e.k, .int .i64 e.o] 99)).alloc (.cells #[.bool e.c] 105) := ⟨_, rfl⟩
        have hb2 : Below w1.heap.size w1 w2 := by rw [hw2]; exact bt (ba _ _) (ba _ _)
        have hrg2 := hc.rg.kept (lbelow_grown hb2 none) (by simp) (by simp)
        have kr1 := kr.kept hc.gr (fun e => by have := Option.some.inj e; omega)
        have kr2 := kr1.below hb2 kr1.lt
        have e0 := kr2.cell 0
        have e1 := kr2.cell 1
        simp only [List.getElem?_toArray, List.getElem?_cons_zero, List.getElem?_cons_succ] at e0 e1
        have hgr2 : w0.grownBy w2 (some (w.heap.size + 1)) := (hgr.andThen hc.gr (fun j h => by cases h; exact .inr rfl)).andThen (lbelow_grown hb2 none) (fun j h => by cases h)
        have hBw2 : Below w.heap.size w w2 := ⟨hgr2.os.trans hB0.os, hgr2.tape.trans hB0.tape, hgr2.output.trans hB0.output, Nat.le_trans hB0.size hgr2.size, fun i hi => (hgr2.block i (Nat.lt_of_lt_of_le hi hB0.size) (fun e => by have := Option.some.inj e; omega)).trans (hB0.block i hi)⟩
        have hyes : clash1 k o a (e.k, e.o, e.c) = true → clashL L k o a = true := fun h => List.any_eq_true.2 ⟨_, hm, h⟩
        have hno := fun h => hgone.step hc hR hm h
        obtain ⟨ek, eo, ec⟩ := e
        simp only at hw2 hrg2 hen hyes hno hm ⊢
        rw [hw2] at e0 e1 hrg2 hgr2 hBw2
        have hlf2 : ∀ kl, (fun z => left z && !z.sameKey (litP ek eo)) kl = true → Maps.has D kl = true := fun kl h => hlf kl (by simp at h; exact h.1)
        have hlt2 := hc.lt
        have Hrel := Lib.hid (And.intro hrg2 (And.intro hlf2 (And.intro hno (And.intro hgr2 (And.intro hBw2 hyes)))))
        have Hms : Hid (cnt1 < wr.rangeLeft b (w.heap.size + 1)) := Lib.hid (by rw [hrg.left_eq]; exact hlt2)
        clear hw2 hrg2 hno hyes hgr2 hBw2 hb2 hrg hgone hgr kr hBr hm kr1 kr2 hlf hlf2 hlt2
        have hcase : (ek ≠ k) ∨ (ek = k ∧ eo = o) ∨ (ek = k ∧ eo ≠ o) := by omega
        rcases hcase with h1 | ⟨rfl, rfl⟩ | ⟨rfl, h1⟩
        · go_wp2
          go_roundw
          case rel => exact ⟨_, cnt1, Hrel.out.1, Hrel.out.2.1, Hrel.out.2.2.1 (by simp [clash1, h1]), Hrel.out.2.2.2.1⟩
          case measure => rw [Hrel.out.1.left_eq]; exact Hms.out
        · go_wp2
          go_roundw
          case rel => exact ⟨_, cnt1, Hrel.out.1, Hrel.out.2.1, Hrel.out.2.2.1 (by simp [clash1]), Hrel.out.2.2.2.1⟩
          case measure => rw [Hrel.out.1.left_eq]; exact Hms.out
        · rcases a with _ | _
          · rcases ec with _ | _
            · go_wp2
              go_roundw
              case rel => exact ⟨_, cnt1, Hrel.out.1, Hrel.out.2.1, Hrel.out.2.2.1 (by simp [clash1]), Hrel.out.2.2.2.1⟩
              case measure => rw [Hrel.out.1.left_eq]; exact Hms.out
            · go_wp2
              go_ret
              rw [Hrel.out.2.2.2.2.2 (by simp [clash1, h1])]
              exact ⟨rfl, Hrel.out.2.2.2.2.1⟩
          · go_wp2
            go_ret
            rw [Hrel.out.2.2.2.2.2 (by simp [clash1, h1])]
            exact ⟨rfl, Hrel.out.2.2.2.2.1⟩
end Go.Proofs.Ytnpoicgincndkaa
