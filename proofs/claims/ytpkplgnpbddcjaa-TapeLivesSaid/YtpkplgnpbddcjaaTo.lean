/- Layer 2: the document's tape: what is put behind, cut, laid in the place of all; its calls. -/
import Derived.Test.YtpkplgnpbddcjaaTn
import Derived.Test.YtpkplgnpbddcjaaOpenT
namespace Go.Proofs.Ytpkplgnpbddcjaa
open Go.RowKit
set_option linter.unusedVariables false
set_option linter.unusedSimpArgs false

theorem bdrewN (w : World) (n : Nat) : Below w.heap.size w (w.drewN n) := ⟨rfl, rfl, rfl, Nat.le_refl _, fun _ _ => rfl⟩
set_option maxHeartbeats 1000000 in
theorem rappend {w : World} {B x room : Nat} {O N : List UInt8} {An : Option Addr} (h : RT w B x room O N An) (hl : O.length + N.length ≤ room) (hr : room ≤ 1000000) (hB : B ≤ w.heap.size) (Ab : Option Addr) (b : List UInt8) (bn cb : Nat) (hbn : bn = b.length) (hb1 : bn ≤ 140737488355328) (hbs : Bs w w.heap.size Ab b) :
    Calls Try.prog 20 #[.pointer (some ⟨x, 0, none⟩), .slice Ab bn cb] w (RO w B x room (if room < O.length + N.length + b.length then (5, O, N) else (0, O, N ++ b)) An) := by
  have HH := Lib.hid h
  obtain ⟨i0, hi, hz0, hz1, hz2⟩ := info_parts Try.infoU8c
  obtain ⟨Ao, no, co, nn, cn, e1, e2, h3, h4, h5, h6⟩ := h
  have c0 := h3.cell 0
  have c1 := h3.cell 1
  have c2 := h3.cell 2
  simp only [List.getElem?_toArray, List.getElem?_cons_zero, List.getElem?_cons_succ] at c0 c1 c2
  have C0 := fun k : Nat => (show (w.drewN k).cell? _ = _ from c0)
  have C1 := fun k : Nat => (show (w.drewN k).cell? _ = _ from c1)
  have C2 := fun k : Nat => (show (w.drewN k).cell? _ = _ from c2)
  have hno : no + nn ≤ room := by rw [e1.out, e2.out]; exact hl
  have hw1 : IntKind.i64.wrap ((no : Int) + (nn : Int)) = (no : Int) + (nn : Int) := IntWalk.i64_in _ (by omega)
  have hw2 : IntKind.i64.wrap ((no : Int) + (nn : Int) + (bn : Int)) = (no : Int) + (nn : Int) + (bn : Int) := IntWalk.i64_in _ (by omega)
  rw [← hbn, ← e1.out, ← e2.out]
  have HB := Lib.hid (And.intro hbn hbs)
  have Hx := Lib.hid (And.intro h3 (And.intro h4 (And.intro h5 h6)))
  clear h3 h4 h5 h6 hbn hbs hl c0 c1 c2
  by_cases hf : room < no + nn + bn
  · rw [if_pos hf]
    have hfI : (room : Int) < (no : Int) + (nn : Int) + (bn : Int) := by omega
    have hfD : decide ((no : Int) + (nn : Int) + (bn : Int) > (room : Int)) = true := decide_eq_true hfI
    go_enter Try.func20, Try.ntmps20
    go_wp2_with fail
    go_quiet (fail)
    have Hfin := Lib.hid (show RO w B x room (5, O, N) An (.returned (.int .i64 5)) (w.drewN nq) from ⟨rfl, An, HH.out.below (bdrewN w nq), Mod.below _ _ (bdrewN w nq), .inl rfl⟩)
    clear C0 C1 C2
    go_wp2
    go_ret
    exact Hfin.out
  · rw [if_neg hf]
    have hfI : ¬ (room : Int) < (no : Int) + (nn : Int) + (bn : Int) := by omega
    have hfD : decide ((no : Int) + (nn : Int) + (bn : Int) > (room : Int)) = false := decide_eq_false hfI
    have hfE : decide ((room : Int) < (no : Int) + (nn : Int) + (bn : Int)) = false := decide_eq_false hfI
    go_enter Try.func20, Try.ntmps20
    go_wp2_with fail
    go_quiet (fail)
    have hbd := bdrewN w nq
    have k0 : Blk (w.drewN nq) x 39 #[.int .i64 room, .slice Ao no co, .slice An nn cn] := Hx.out.1
    have ownO : Own (w.drewN nq) B 5 Ao co O := Hx.out.2.1
    have ownN : Own (w.drewN nq) B 5 An cn N := Hx.out.2.2.1
    have hbs : Bs (w.drewN nq) (w.drewN nq).heap.size Ab b := HB.out.2
    have hsz : B ≤ (w.drewN nq).heap.size := hB
    have c2 := C2 nq
    generalize w.drewN nq = w1 at *
    clear C0 C1 C2
    go_wp2_with (at_builtin; refine wpList_append_bs _ rfl (.tmp 28) (.tmp 29) 30 rfl B 5 i0 _ Try.underlying30 hi hz0 hz1 hz2 rfl An cn N nn rfl e2.out ownN _ Ab cb b bn rfl HB.out.1 hbs (by have := e2.out; have := HB.out.1; omega) hsz ?_
                 intro A4 c4 w4 own4 hg4 hwh
                 have hrow : ∀ k, blk An = some k → B ≤ k ∧ k < w1.heap.size := ownN.lt
                 have k4 := k0.kept hg4 (fun e => own_ne ownN k0 (by decide) e.symm)
                 have d4 := k4.cell 2
                 have f4 := k4.frozen 2
                 have k5 := k4.set_ 2 (.slice A4 (nn + bn) c4)
                 simp only [List.getElem?_toArray, List.getElem?_cons_zero, List.getElem?_cons_succ, List.setIfInBounds_toArray, List.set_cons_zero, List.set_cons_succ] at d4 k5
                 have ownO4 := ownO.kept hg4 (by
                   rcases hb : blk An with _ | r
                   · rcases hb2 : blk Ao with _ | r2
                     · exact .inl rfl
                     · exact .inr (by simp)
                   · exact .inr (Hx.out.2.2.2 r hb))
                 have s1 := gset w4 x 2 (.slice A4 (nn + bn) c4)
                 have ownO5 := ownO4.kept s1 (.inr (own_ne ownO4 k4 (by decide)))
                 have own5 := own4.kept s1 (.inr (own_ne own4 k4 (by decide)))
                 have Hfin := Lib.hid (show RO w B x room (0, O, N ++ b) An (.returned (.int .i64 0)) (w4.setCell ⟨x, 2, none⟩ (.slice A4 (nn + bn) c4)) from
                   ⟨rfl, A4, ⟨Ao, no, co, nn + bn, c4, e1, Lib.hid (by rw [List.length_append, ← e2.out, ← HB.out.1]), k5, ownO5, own5, fun r e e' => by
                     rcases hwh with e2 | e2
                     · exact Hx.out.2.2.2 r (e2 ▸ e) e'
                     · rw [e2] at e; cases e; have := (ownO.lt _ e').2; omega⟩,
                    ⟨s1.os.trans (hg4.os.trans hbd.os), s1.tape.trans (hg4.tape.trans hbd.tape), s1.output.trans (hg4.output.trans hbd.output), Nat.le_trans hbd.size (Nat.le_trans hg4.size s1.size), fun k hk hkx hkr => ((s1.block k (Nat.lt_of_lt_of_le (Nat.lt_of_lt_of_le hk hbd.size) hg4.size) (fun e => hkx (by injection e))).trans (hg4.block k (Nat.lt_of_lt_of_le hk hbd.size) hkr)).trans (hbd.block k hk)⟩,
                    by rcases hwh with e2 | e2
                       · exact .inl e2
                       · exact .inr (fun r e => by rw [e2] at e; cases e; exact hbd.size)⟩)
                 clear k0 k4 k5 s1 ownO ownN ownO4 ownO5 own4 own5 hg4 hbd hwh hbs hrow)
    go_ret
    exact Hfin.out

set_option maxHeartbeats 1000000 in
theorem rswap {w : World} {B x room : Nat} {O N : List UInt8} {An : Option Addr} (h : RT w B x room O N An) (hB : B ≤ w.heap.size) (Ab : Option Addr) (b : List UInt8) (bn cb : Nat) (hbn : bn = b.length) (hb1 : bn ≤ 140737488355328) (hbs : Bs w w.heap.size Ab b) :
    Calls Try.prog 24 #[.pointer (some ⟨x, 0, none⟩), .slice Ab bn cb] w (RO w B x room (if room < b.length then (5, O, N) else (0, b, [])) An) := by
  have HH := Lib.hid h
  obtain ⟨Ao, no, co, nn, cn, e1, e2, h3, h4, h5, h6⟩ := h
  have c0 := h3.cell 0
  simp only [List.getElem?_toArray, List.getElem?_cons_zero, List.getElem?_cons_succ] at c0
  have hcp := copy_n Ab b bn cb w hbn hb1 hbs
  rw [← hbn]
  have HB := Lib.hid hbn
  have Hx := Lib.hid h3
  have Hcp := Lib.hid hcp
  clear h3 h4 h5 h6 hbn hbs hcp
  by_cases hf : room < bn
  · rw [if_pos hf]
    have hfI : (room : Int) < (bn : Int) := by omega
    go_enter Try.func24, Try.ntmps24
    go_wp2
    go_ret
    exact ⟨rfl, An, HH.out, Mod.below _ _ (Below.refl _ _), .inl rfl⟩
  · rw [if_neg hf]
    have hfI : ¬ (room : Int) < (bn : Int) := by omega
    go_enter Try.func24, Try.ntmps24
    go_wp2_with fail
    refine Hcp.out.mono ?_
    clear Hcp
    rintro e w1 ⟨A2, c3, rfl, own1, hb1⟩
    have k1 := Hx.out.below hb1 Hx.out.lt
    have d1 := k1.cell 1
    have f1 := k1.frozen 1
    have k2 := k1.set_ 1 (.slice A2 bn c3)
    simp only [List.getElem?_toArray, List.getElem?_cons_zero, List.getElem?_cons_succ, List.setIfInBounds_toArray, List.set_cons_zero, List.set_cons_succ] at d1 k2
    have k3 := k2.set_ 2 (.slice none 0 0)
    have d2 := k2.cell 2
    have f2 := k2.frozen 2
    simp only [List.getElem?_toArray, List.getElem?_cons_zero, List.getElem?_cons_succ, List.setIfInBounds_toArray, List.set_cons_zero, List.set_cons_succ] at k3 d2
    have s1 := gset w1 x 1 (.slice A2 bn c3)
    have s2 := gset (w1.setCell ⟨x, 1, none⟩ (.slice A2 bn c3)) x 2 (.slice none 0 0)
    have hg := gtrans (gtrans (gbelow hb1 (some x)) s1) s2
    have own3 := (own1.kept s1 (.inr (own_ne own1 k1 (by decide)))).kept s2 (.inr (own_ne (own1.kept s1 (.inr (own_ne own1 k1 (by decide)))) k2 (by decide)))
    have Hfin : Hid (RO w B x room (0, b, []) An (.returned (.int .i64 0)) ((w1.setCell ⟨x, 1, none⟩ (.slice A2 bn c3)).setCell ⟨x, 2, none⟩ (.slice none 0 0))) :=
      Lib.hid ⟨rfl, none, ⟨A2, bn, c3, 0, 0, Lib.hid HB.out, rfl, k3, Own.base_le own3 (by have := (hb1).size; omega), Own.nil, fun r e => by cases e⟩, Mod.of _ hg, .inr (fun r e => by cases e)⟩
    clear k1 k2 k3 s1 s2 hg own3
    clear own1 hb1
    go_wp2
    go_ret
    exact Hfin.out

theorem take_app (O N : List UInt8) (n : Nat) (h : n ≤ O.length) : (O ++ N).take n = O.take n := by
  rw [List.take_append_of_le_length h]
theorem drop_app (O N : List UInt8) (k : Nat) : ((O ++ N).drop O.length).take k = N.take k := by
  rw [List.drop_left]
def cutR (O N : List UInt8) (k : Int) : Int × List UInt8 × List UInt8 :=
  if k < 0 ∨ ((O.length + N.length : Nat) : Int) < k then (1, O, N) else if k.toNat ≤ O.length then (0, O.take k.toNat, []) else (0, O, N.take (k.toNat - O.length))
set_option maxRecDepth 100000 in
set_option maxHeartbeats 1000000 in
theorem rcut {w : World} {B x room : Nat} {O N : List UInt8} {An : Option Addr} (h : RT w B x room O N An) (hl : O.length + N.length ≤ 1000000) (hB : B ≤ w.heap.size) (k : Int) (h1 : -9223372036854775808 ≤ k) (h2 : k ≤ 9223372036854775807) :
    Calls Try.prog 23 #[.pointer (some ⟨x, 0, none⟩), .int .i64 k] w (RO w B x room (cutR O N k) An) := by
  have HH := Lib.hid h
  obtain ⟨tl, htl⟩ : ∃ tl, tl = O.length + N.length := ⟨_, rfl⟩
  have hby := rbytes h hl tl htl
  obtain ⟨Ao, no, co, nn, cn, e1, e2, h3, h4, h5, h6⟩ := h
  have htn : tl = no + nn := by rw [htl, e1.out, e2.out]
  unfold cutR
  rw [← htl, ← e1.out]
  have Hx := Lib.hid (And.intro h3 (And.intro h4 htl))
  have Hby := Lib.hid hby
  rw [← htl] at hl
  clear h3 h4 h5 h6 hby htl
  by_cases hbad : k < 0 ∨ (tl : Int) < k
  · rw [if_pos hbad]
    have Hfin := fun (u : World) (hb : Below w.heap.size w u) => (show RO w B x room (1, O, N) An (.returned (.int .i64 1)) u from ⟨rfl, An, HH.out.below hb, Mod.below _ _ hb, .inl rfl⟩)
    have HF := Lib.hid Hfin
    clear Hfin
    by_cases hk0 : k < 0
    · have hk0b : decide (k < 0) = true := decide_eq_true hk0
      go_enter Try.func23, Try.ntmps23
      go_wp2_with fail
      refine Hby.out.mono ?_
      rintro e w1 ⟨A2, c3, rfl, own1, hb1⟩
      go_wp2
      go_ret
      exact HF.out _ hb1
    · have hk1 : (tl : Int) < k := hbad.resolve_left hk0
      have hk1b : decide (k > (tl : Int)) = true := decide_eq_true hk1
      have hk0b : decide (k < 0) = false := decide_eq_false hk0
      go_enter Try.func23, Try.ntmps23
      go_wp2_with fail
      refine Hby.out.mono ?_
      rintro e w1 ⟨A2, c3, rfl, own1, hb1⟩
      go_wp2
      go_ret
      exact HF.out _ hb1
  · rw [if_neg hbad]
    obtain ⟨n, rfl⟩ := Int.eq_ofNat_of_zero_le (show 0 ≤ k by omega)
    rw [Int.toNat_natCast]
    have hk0 : ¬ (n : Int) < 0 := by omega
    have hk0b : decide ((n : Int) < 0) = false := decide_eq_false hk0
    have hk1 : ¬ (tl : Int) < (n : Int) := by omega
    have hk1b : decide ((n : Int) > (tl : Int)) = false := decide_eq_false hk1
    have hn0 : (0 : Int) ≤ (n : Int) := by omega
    clear hbad
    by_cases hno : n ≤ no
    · rw [if_pos hno]
      have hnoI : (n : Int) ≤ (no : Int) := by omega
      go_enter Try.func23, Try.ntmps23
      go_wp2_with fail
      refine Hby.out.mono ?_
      clear Hby
      rintro e w1 ⟨A2, c3, rfl, own1, hb1⟩
      have hOl : (O ++ N).length = tl := by rw [List.length_append]; exact Hx.out.2.2.symm
      have hncap : (n : Int) ≤ (c3 : Int) := by
        rcases Nat.eq_zero_or_pos tl with h0 | h0
        · omega
        · obtain ⟨_, _, _, _, h7, _⟩ := own1.form (by omega); omega
      have c1' := (Hx.out.1.below hb1 Hx.out.1.lt).cell 1
      simp only [List.getElem?_toArray, List.getElem?_cons_zero, List.getElem?_cons_succ] at c1'
      have Hcp := Lib.hid (copy_n A2 ((O ++ N).take n) n c3 w1 (by rw [List.length_take]; omega) (by omega) (own1.bs.first n))
      clear own1
      go_wp2_with fail
      refine Hcp.out.mono ?_
      clear Hcp
      rintro e w2 ⟨A5, c5, rfl, own2, hb2⟩
      have hb12 := hb1.trans (hb2.mono hb1.size)
      have k1 := Hx.out.1.below hb12 Hx.out.1.lt
      have hTk : Hid (n = (O.take n).length) := Lib.hid (by rw [List.length_take]; have := e1.out; omega)
      rw [take_app O N n (by have := e1.out; omega)] at own2
      have own2 := Own.base_le own2 hb1.size
      have d1 := k1.cell 1
      have f1 := k1.frozen 1
      have k2 := k1.set_ 1 (.slice A5 n c5)
      simp only [List.getElem?_toArray, List.getElem?_cons_zero, List.getElem?_cons_succ, List.setIfInBounds_toArray, List.set_cons_zero, List.set_cons_succ] at d1 k2
      have k3 := k2.set_ 2 (.slice none 0 0)
      have d2 := k2.cell 2
      have f2 := k2.frozen 2
      simp only [List.getElem?_toArray, List.getElem?_cons_zero, List.getElem?_cons_succ, List.setIfInBounds_toArray, List.set_cons_zero, List.set_cons_succ] at k3 d2
      have s1 := gset w2 x 1 (.slice A5 n c5)
      have s2 := gset (w2.setCell ⟨x, 1, none⟩ (.slice A5 n c5)) x 2 (.slice none 0 0)
      have hg := gtrans (gtrans (gbelow hb12 (some x)) s1) s2
      have own3 := (own2.kept s1 (.inr (own_ne own2 k1 (by decide)))).kept s2 (.inr (own_ne (own2.kept s1 (.inr (own_ne own2 k1 (by decide)))) k2 (by decide)))
      have Hfin : Hid (RO w B x room (0, O.take n, []) An (.returned (.int .i64 0)) ((w2.setCell ⟨x, 1, none⟩ (.slice A5 n c5)).setCell ⟨x, 2, none⟩ (.slice none 0 0))) :=
        Lib.hid ⟨rfl, none, ⟨A5, n, c5, 0, 0, Lib.hid hTk.out, rfl, k3, Own.base_le own3 (by have := (hb12).size; omega), Own.nil, fun r e => by cases e⟩, Mod.of _ hg, .inr (fun r e => by cases e)⟩
      clear k1 k2 k3 s1 s2 hg own3
      clear own2 hb12 hb1 hb2 c1'
      go_wp2
      go_ret
      exact Hfin.out
    · rw [if_neg hno]
      have hnoI : ¬ (n : Int) ≤ (no : Int) := by omega
      have hnoI2 : (no : Int) ≤ (n : Int) := by omega
      have hno0 : (0 : Int) ≤ (no : Int) := by omega
      go_enter Try.func23, Try.ntmps23
      go_wp2_with fail
      refine Hby.out.mono ?_
      clear Hby
      rintro e w1 ⟨A2, c3, rfl, own1, hb1⟩
      have hOl : (O ++ N).length = tl := by rw [List.length_append]; exact Hx.out.2.2.symm
      obtain ⟨g, rfl, _, _, h7, h8⟩ := own1.form (by omega)
      have hncap : (n : Int) ≤ (c3 : Int) := by omega
      have c1' := (Hx.out.1.below hb1 Hx.out.1.lt).cell 1
      simp only [List.getElem?_toArray, List.getElem?_cons_zero, List.getElem?_cons_succ] at c1'
      obtain ⟨d, hd⟩ : ∃ d, d = n - no := ⟨_, rfl⟩
      rw [← hd]
      have hnd : n = no + d := by omega
      clear hd
      have Hcp := Lib.hid (fun c9 => copy_n (some ⟨g, no, none⟩) (N.take d) d c9 w1 (by rw [List.length_take]; have := e2.out; omega) (by omega) (by
        have := own1.bs.cut no d
        rw [e1.out, drop_app] at this
        rw [← e1.out] at this
        exact this))
      clear own1
      subst hnd
      go_wp2_with fail
      refine (Hcp.out _).mono ?_
      clear Hcp
      rintro e w2 ⟨A5, c5, rfl, own2, hb2⟩
      have hb12 := hb1.trans (hb2.mono hb1.size)
      have k1 := Hx.out.1.below hb12 Hx.out.1.lt
      have d2 := k1.cell 2
      have f2 := k1.frozen 2
      have k2 := k1.set_ 2 (.slice A5 d c5)
      simp only [List.getElem?_toArray, List.getElem?_cons_zero, List.getElem?_cons_succ, List.setIfInBounds_toArray, List.set_cons_zero, List.set_cons_succ] at d2 k2
      have s1 := gset w2 x 2 (.slice A5 d c5)
      have ownO2 := Hx.out.2.1.below hb12 (Nat.le_refl _)
      have hg := gtrans (gbelow hb12 (some x)) s1
      have ownO3 := ownO2.kept s1 (.inr (own_ne ownO2 k1 (by decide)))
      have own3 := own2.kept s1 (.inr (own_ne own2 k1 (by decide)))
      have Hfin : Hid (RO w B x room (0, O, N.take d) An (.returned (.int .i64 0)) (w2.setCell ⟨x, 2, none⟩ (.slice A5 d c5))) :=
        Lib.hid ⟨rfl, A5, ⟨Ao, no, co, d, c5, e1, Lib.hid (by rw [List.length_take]; have := e2.out; omega), k2, ownO3, Own.base_le own3 (by have := hb1.size; omega), fun r e e' => by have := (own2.lt r e).1; have := (Hx.out.2.1.lt r e').2; have := hb1.size; omega⟩, Mod.of _ hg, .inr (fun r e => by have := (own2.lt r e).1; have := hb1.size; omega)⟩
      clear k1 k2 s1 hg ownO2 ownO3 own3 own2 hb12 hb1 hb2 c1'
      go_wp2
      go_ret
      rw [show no + d - no = d by omega]
      exact Hfin.out
end Go.Proofs.Ytpkplgnpbddcjaa
