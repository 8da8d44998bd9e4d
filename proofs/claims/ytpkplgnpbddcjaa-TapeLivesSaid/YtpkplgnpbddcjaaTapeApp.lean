/- Layer 2: the calls of a tape that write bytes. -/
import Derived.Test.YtpkplgnpbddcjaaTapeOps
namespace Go.Proofs.Ytpkplgnpbddcjaa
open Go.RowKit
set_option linter.unusedVariables false

set_option maxHeartbeats 1000000 in
theorem tapeAppend (p room : Nat) (l : List UInt8) (f : Nat) (A0 : Option Addr) (b : List UInt8) (c0' : Nat) (w : World) (h : TapeAt w p room l f) (hbs : Bs w w.heap.size A0 b) (hbl : b.length ≤ 9223372036854775807) :
    Calls Try.prog 14 #[.pointer (some ⟨p, 0, none⟩), .slice A0 b.length c0'] w (TapeOut w p room (if room < l.length + b.length then (5, l, f) else (0, l ++ b, f))) := by
  have h1 := h.r1
  obtain ⟨A, c, hb, hh, hc, hc'⟩ := h.at_
  have c0 := hb.cell 0
  have c1 := hb.cell 1
  have c2 := hb.cell 2
  simp only [List.getElem?_toArray, List.getElem?_cons_zero, List.getElem?_cons_succ] at c0 c1 c2
  have z1 := hb.frozen 1
  have z2 := hb.frozen 2
  have hr2 := h.r2
  have hl1 := h.l1
  have hf1 := h.f1
  have e1 : IntKind.i64.wrap ((room : Int) - (l.length : Int)) = (room : Int) - (l.length : Int) := IntWalk.i64_in _ (by omega)
  by_cases hfit : room < l.length + b.length
  · rw [if_pos hfit]
    have hd : decide ((room : Int) - (l.length : Int) < (b.length : Int)) = true := by simp; omega
    go_enter Try.func14, Try.ntmps14
    go_wp2_with fail
    refine (made_yes p room _ h1 c0).mono ?_
    rintro e w' ⟨rfl, rfl⟩
    go_wp2_with fail
    go_quiet (fail)
    go_wp2
    go_ret
    exact ⟨rfl, ⟨h1, hr2, hf1, hl1, A, c, hb, hh, hc, hc'⟩, gdrewN (gbelow (Below.refl _ _) _) _, fun _ _ hg => hg⟩
  · rw [if_neg hfit]
    have hd : decide ((room : Int) - (l.length : Int) < (b.length : Int)) = false := by simp; omega
    go_enter Try.func14, Try.ntmps14
    go_wp2_with fail
    refine (made_yes p room _ h1 c0).mono ?_
    rintro e w' ⟨rfl, rfl⟩
    go_wp2_with fail
    go_quiet (fail)
    clear e1 hd
    go_wp2_with fail
    refine (lay_any A A0 l b c c0' (w.drewN nq) hh.bs hbs (by omega)).mono ?_
    rintro e w1 ⟨rfl, hr1, hb1⟩
    have hlt := hb.lt
    have hbk : Blk w1 p _ _ := Blk.below (w := w.drewN nq) hb hb1 hlt
    have hg : w.grownBy w1 (some p) := gtrans (gdrewN (gbelow (Below.refl _ _) _) nq) (gbelow hb1 _)
    have y0 := hbk.cell 0
    have y1 := hbk.cell 1
    simp only [List.getElem?_toArray, List.getElem?_cons_zero, List.getElem?_cons_succ] at y0 y1
    have x1 := hbk.frozen 1
    go_wp2
    go_ret
    refine ⟨rfl, ⟨h1, hr2, ?_, ?_, some ⟨w.heap.size, 0, none⟩, (l ++ b).length, ?_, Held.kept (Held.raw hr1) (gset w1 p 1 _) (fun g hg => by cases hg; exact ⟨_, _, hbk, by decide⟩), Nat.le_refl _, ?_⟩, gtrans hg (gset _ _ _ _), fun g hg' _ => bn_new (hbk.set_ 1 _) (fun _ => by simp [blk]; omega)⟩
    · simp; omega
    · simp; omega
    · simp only [List.length_append]
      exact hbk.set_ 1 _
    · simp; omega

set_option maxHeartbeats 1000000 in
theorem tapeSwap (p room : Nat) (l : List UInt8) (f : Nat) (A0 : Option Addr) (b : List UInt8) (c0' : Nat) (w : World) (h : TapeAt w p room l f) (hbs : Bs w w.heap.size A0 b) (hbl : b.length ≤ 9223372036854775807) :
    Calls Try.prog 19 #[.pointer (some ⟨p, 0, none⟩), .slice A0 b.length c0'] w (TapeOut w p room (if room < b.length then (5, l, f) else (0, b, b.length))) := by
  have h1 := h.r1
  obtain ⟨A, c, hb, hh, hc, hc'⟩ := h.at_
  have c0 := hb.cell 0
  have c1 := hb.cell 1
  have c2 := hb.cell 2
  simp only [List.getElem?_toArray, List.getElem?_cons_zero, List.getElem?_cons_succ] at c0 c1 c2
  have z1 := hb.frozen 1
  have z2 := hb.frozen 2
  have hr2 := h.r2
  have hl1 := h.l1
  have hf1 := h.f1
  by_cases hfit : room < b.length
  · rw [if_pos hfit]
    go_enter Try.func19, Try.ntmps19
    go_wp2_with fail
    refine (made_yes p room _ h1 c0).mono ?_
    rintro e w' ⟨rfl, rfl⟩
    go_wp2
    go_ret
    exact ⟨rfl, h, gbelow (Below.refl _ _) _, fun _ _ hg => hg⟩
  · rw [if_neg hfit]
    go_enter Try.func19, Try.ntmps19
    go_wp2_with fail
    refine (made_yes p room _ h1 c0).mono ?_
    rintro e w' ⟨rfl, rfl⟩
    go_wp2_with fail
    refine (lay_any none A0 [] b 0 c0' _ Bs.nil hbs (by simp; omega)).mono ?_
    rintro e w1 ⟨rfl, hr1, hb1⟩
    have hlt := hb.lt
    have hbk : Blk w1 p _ _ := hb.below hb1 hlt
    have y0 := hbk.cell 0
    have y1 := hbk.cell 1
    have y2 := hbk.cell 2
    simp only [List.getElem?_toArray, List.getElem?_cons_zero, List.getElem?_cons_succ] at y0 y1 y2
    have x1 := hbk.frozen 1
    have x2 := hbk.frozen 2
    simp only [List.nil_append] at hr1 ⊢
    go_wp2
    go_ret
    refine ⟨rfl, ⟨h1, hr2, Nat.le_refl _, ?_, some ⟨w.heap.size, 0, none⟩, b.length, ?_, Held.kept (Held.kept (Held.raw hr1) (gset w1 p 1 _) (fun g hg => by cases hg; exact ⟨_, _, hbk, by decide⟩)) (gset _ p 2 _) (fun g hg => by cases hg; exact ⟨_, _, hbk.set_ 1 _, by decide⟩), Nat.le_refl _, ?_⟩, gtrans (gbelow hb1 _) (gtrans (gset _ _ _ _) (gset _ _ _ _)), fun g hg' _ => bn_new ((hbk.set_ 1 _).set_ 2 _) (fun _ => by simp [blk]; omega)⟩
    · show b.length ≤ room; omega
    · exact (hbk.set_ 1 _).set_ 2 _
    · show b.length ≤ _; omega

set_option maxHeartbeats 1000000 in
theorem tapeCut_bad (p room : Nat) (l : List UInt8) (f : Nat) (n : Int) (w : World) (h : TapeAt w p room l f) (hn : n < 0 ∨ (l.length : Int) < n) :
    Calls Try.prog 18 #[.pointer (some ⟨p, 0, none⟩), .int .i64 n] w (TapeOut w p room (1, l, f)) := by
  have h1 := h.r1
  obtain ⟨A, c, hb, hh, hc, hc'⟩ := h.at_
  have c0 := hb.cell 0
  have c1 := hb.cell 1
  have c2 := hb.cell 2
  simp only [List.getElem?_toArray, List.getElem?_cons_zero, List.getElem?_cons_succ] at c0 c1 c2
  have z1 := hb.frozen 1
  have z2 := hb.frozen 2
  have hr2 := h.r2
  have hl1 := h.l1
  have hf1 := h.f1
  by_cases hn0 : n < 0
  all_goals
    go_enter Try.func18, Try.ntmps18
    go_wp2_with fail
    refine (made_yes p room _ h1 c0).mono ?_
    rintro e w' ⟨rfl, rfl⟩
    go_wp2
    go_ret
    exact ⟨rfl, h, gbelow (Below.refl _ _) _, fun _ _ hg => hg⟩

set_option maxHeartbeats 1000000 in
theorem tapeCut_ok (p room : Nat) (l : List UInt8) (f n : Nat) (w : World) (h : TapeAt w p room l f) (hn : n ≤ l.length) :
    Calls Try.prog 18 #[.pointer (some ⟨p, 0, none⟩), .int .i64 n] w (TapeOut w p room (0, l.take n, min f n)) := by
  have h1 := h.r1
  obtain ⟨A, c, hb, hh, hc, hc'⟩ := h.at_
  have c0 := hb.cell 0
  have c1 := hb.cell 1
  have c2 := hb.cell 2
  simp only [List.getElem?_toArray, List.getElem?_cons_zero, List.getElem?_cons_succ] at c0 c1 c2
  have z1 := hb.frozen 1
  have z2 := hb.frozen 2
  have hr2 := h.r2
  have hl1 := h.l1
  have hf1 := h.f1
  go_enter Try.func18, Try.ntmps18
  go_wp2_with fail
  refine (made_yes p room _ h1 c0).mono ?_
  rintro e w' ⟨rfl, rfl⟩
  go_wp2_with fail
  refine (tapeShorten p room l f n _ h hn).mono ?_
  rintro e w1 ⟨rfl, A1, k1, hbk, hh1, hk1, hk2, hg1, hN⟩
  have y2 := hbk.cell 2
  simp only [List.getElem?_toArray, List.getElem?_cons_zero, List.getElem?_cons_succ] at y2
  have x2 := hbk.frozen 2
  have hlen : (l.take n).length = n := by simp; omega
  have hfin : ∀ m : Nat, m = min f n → TapeOut w p room (0, l.take n, min f n) (.returned (.int .i64 0)) (w1.setCell ⟨p, 2, none⟩ (.int .i64 m)) := by
    intro m hm
    subst hm
    refine ⟨rfl, ⟨h1, hr2, ?_, ?_, A1, k1, hbk.set_ 2 _, hh1.kept (gset w1 p 2 _) (fun g hg => by cases hg; exact ⟨_, _, hbk, by decide⟩), hk1, hk2⟩, gtrans hg1 (gset _ _ _ _), fun g _ hg => bn_new (hbk.set_ 2 _) (hN g hg _ _ _ _ _ hbk)⟩
    · show min f n ≤ (l.take n).length; omega
    · show (l.take n).length ≤ room; omega
  have Hfin := Lib.hid hfin
  clear hfin hlen
  by_cases hfn : n < f
  · go_wp2
    go_ret
    exact Hfin.out n (by omega)
  · go_wp2
    go_ret
    exact Hfin.out f (by omega)

theorem tapeShorten' (p room : Nat) (l : List UInt8) (f n : Nat) (x : Int) (w : World) (h : TapeAt w p room l f) (hn : n ≤ l.length) (hx : x = (n : Int)) :
    Calls Try.prog 27 #[.pointer (some ⟨p, 0, none⟩), .int .i64 x] w fun e w' => e = .returned (.tuple #[]) ∧ ∃ A c, Blk w' p 42 #[.int .i64 room, .slice A n c, .int .i64 f] ∧ Held w' 5 A (l.take n) ∧ n ≤ c ∧ c ≤ 9223372036854775807 ∧ w.grownBy w' (some p) ∧ ∀ g, BytesNot w p g → BytesNot w' p g := by
  subst hx
  have hlen : (l.take n).length = n := by simp; omega
  have := tapeShorten p room l f n w h hn
  rw [hlen] at this
  exact this

set_option maxHeartbeats 1000000 in
theorem tapeCrash_to (p room : Nat) (l : List UInt8) (f m : Nat) (n : Int) (w : World) (h : TapeAt w p room l f) (hn1 : -9223372036854775808 ≤ n) (hn2 : n ≤ 9223372036854775807)
    (hm : (n < 0 ∧ m = f) ∨ (0 ≤ n ∧ n ≤ (l.length : Int) - f ∧ (m : Int) = f + n) ∨ (0 ≤ n ∧ (l.length : Int) - f < n ∧ m = l.length)) :
    Calls Try.prog 16 #[.pointer (some ⟨p, 0, none⟩), .int .i64 n] w (TapeOut w p room (0, l.take m, m)) := by
  have h1 := h.r1
  obtain ⟨A, c, hb, hh, hc, hc'⟩ := h.at_
  have c0 := hb.cell 0
  have c1 := hb.cell 1
  have c2 := hb.cell 2
  simp only [List.getElem?_toArray, List.getElem?_cons_zero, List.getElem?_cons_succ] at c0 c1 c2
  have z1 := hb.frozen 1
  have z2 := hb.frozen 2
  have hr2 := h.r2
  have hl1 := h.l1
  have hf1 := h.f1
  have e1 : IntKind.i64.wrap ((l.length : Int) - (f : Int)) = (l.length : Int) - (f : Int) := IntWalk.i64_in _ (by omega)
  have Hm := Lib.hid hm
  rcases hm with ⟨g1, g2⟩ | ⟨g1, g2, g3⟩ | ⟨g1, g2, g3⟩
  all_goals
    go_enter Try.func16, Try.ntmps16
    go_wp2_with fail
    refine (made_yes p room _ h1 c0).mono ?_
    rintro e w' ⟨rfl, rfl⟩
    go_wp2_with fail
    go_quiet (fail)
    clear e1
    go_wp2_with fail
    refine (tapeShorten' p room l f m _ (w.drewN nq) ⟨h1, hr2, hf1, hl1, A, c, hb, hh, hc, hc'⟩ (by omega) (by omega)).mono ?_
    rintro e w1 ⟨rfl, A1, k1, hbk, hh1, hk1, hk2, hg1, hN⟩
    have hmm := Hm.out
    have hlen : (l.take m).length = m := by simp; omega
    have y1 := hbk.cell 1
    have y2 := hbk.cell 2
    simp only [List.getElem?_toArray, List.getElem?_cons_zero, List.getElem?_cons_succ] at y1 y2
    have x2 := hbk.frozen 2
    have hfin : ∀ x : Int, x = (m : Int) → TapeOut w p room (0, l.take m, m) (.returned (.int .i64 0)) (w1.setCell ⟨p, 2, none⟩ (.int .i64 x)) := by
      rintro x rfl
      refine ⟨rfl, ⟨h1, hr2, ?_, ?_, A1, k1, ?_, hh1.kept (gset w1 p 2 _) (fun g hg => by cases hg; exact ⟨_, _, hbk, by decide⟩), ?_, hk2⟩, gtrans (gtrans (gdrewN (gbelow (Below.refl _ _) _) nq) hg1) (gset _ _ _ _), fun g _ hg => bn_new (hbk.set_ 2 _) (hN g hg _ _ _ _ _ hbk)⟩
      · show m ≤ (l.take m).length; omega
      · show (l.take m).length ≤ room; omega
      · simp only [hlen]; exact hbk.set_ 2 _
      · show (l.take m).length ≤ k1; omega
    have Hfin := Lib.hid hfin
    clear hfin hlen hmm
    go_wp2
    go_ret
    exact Hfin.out _ (by omega)

theorem tapeCrash (p room : Nat) (l : List UInt8) (f : Nat) (n : Int) (w : World) (h : TapeAt w p room l f) (hn1 : -9223372036854775808 ≤ n) (hn2 : n ≤ 9223372036854775807) :
    Calls Try.prog 16 #[.pointer (some ⟨p, 0, none⟩), .int .i64 n] w (TapeOut w p room (0, l.take (f + min n.toNat (l.length - f)), f + min n.toNat (l.length - f))) :=
  tapeCrash_to p room l f _ n w h hn1 hn2 (by have := h.f1; omega)
end Go.Proofs.Ytpkplgnpbddcjaa
