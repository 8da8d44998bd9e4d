/- Layer 14: the front item. -/
import Derived.Test.YtfcafahgmnnlnaaQ10
import Derived.Deep.QuietTactic
import Derived.BigQuiet
namespace Go.Proofs.Ytfcafahgmnnlnaa.Qu
open Go.RowKit Go.Shelf Go.Maps
attribute [local go_sem] Oper.semAt_some
set_option linter.unusedVariables false
set_option linter.unusedSimpArgs false

def frontR (L : List IT) (n : Int) : Nat × Int := match (ixs L).find? (fun x => decide (x.2.t ≠ n)) with
  | none => (0, 140)
  | some x => if x.2.t = 0 then (x.1, 0) else (0, 120)
theorem ixs_get (L : List IT) (i : Nat) (h : i < L.length) : ∃ hh : i < (ixs L).length, (ixs L)[i]'hh = (i, L[i]'h) := by
  have := ixsF_at L 0 i h
  rw [Nat.zero_add] at this
  obtain ⟨hh, e⟩ := List.getElem?_eq_some_iff.1 this
  exact ⟨hh, e⟩
theorem front_at {L : List IT} {n : Int} {i : Nat} (h : i < L.length) (hall : ∀ x ∈ (ixs L).take i, x.2.t = n) (hne : (L[i]'h).t ≠ n) : frontR L n = if (L[i]'h).t = 0 then (i, 0) else (0, 120) := by
  obtain ⟨hh, e⟩ := ixs_get L i h
  have : (ixs L).find? (fun x => decide (x.2.t ≠ n)) = some (i, L[i]'h) := by
    rw [List.find?_eq_some_iff_getElem]
    refine ⟨by simpa using hne, i, hh, e, fun j hj => ?_⟩
    have := hall ((ixs L)[j]'(by omega)) (by
      rw [List.mem_take_iff_getElem]
      exact ⟨j, by omega, rfl⟩)
    simpa using this
  unfold frontR
  rw [this]
theorem front_none {L : List IT} {n : Int} (hall : ∀ x ∈ ixs L, x.2.t = n) : frontR L n = (0, 140) := by
  have : (ixs L).find? (fun x => decide (x.2.t ≠ n)) = none := by
    rw [List.find?_eq_none]
    intro x hx
    simpa using hall x hx
  unfold frontR
  rw [this]
/-- Under way in front. -/
structure FI (w : World) (n : Int) (k e : Int) (W : World) : Prop where
  be : Below w.heap.size w W
  sz : w.heap.size + 3 ≤ W.heap.size
  kn : Blk W w.heap.size 3 #[.int .i64 n]
  kp : Blk W (w.heap.size + 1) 3 #[.int .i64 k]
  ke : Blk W (w.heap.size + 2) 37 #[.int .i64 e]
theorem FI.bel {w W W' : World} {n k e : Int} (h : FI w n k e W) (hb : Below W.heap.size W W') : FI w n k e W' :=
  ⟨bt h.be hb, Nat.le_trans h.sz hb.size, h.kn.below hb h.kn.lt, h.kp.below hb h.kp.lt, h.ke.below hb h.ke.lt⟩
theorem blk_put {W : World} {b l : Nat} {t : TypeId} {cs : Array Value} {o o' : Obj} (h : Blk W b t cs) (ho : W.heap[l]? = some o) (hc : o.isCells = false) : Blk (W.putObj l o') b t cs :=
  (World.putObj_heap_other (fun e => by subst e; unfold Blk at h; rw [h] at ho; cases ho; cases hc)).trans h
theorem FI.put {w W : World} {n k e : Int} {l : Nat} {o o' : Obj} (h : FI w n k e W) (hl : w.heap.size ≤ l) (ho : W.heap[l]? = some o) (hc : o.isCells = false) : FI w n k e (W.putObj l o') :=
  ⟨h.be.grown (grownBy_putObj' W l o') h.be.size (fun r e => by cases e; exact hl), by rw [World.putObj_size]; exact h.sz, blk_put h.kn ho hc, blk_put h.kp ho hc, blk_put h.ke ho hc⟩
set_option maxRecDepth 100000 in
set_option maxHeartbeats 4000000 in
theorem front_any (g of : Nat) (tt : TypeId) (cs : Array Value) (S : QS) (N : Nat) (n : Int) (w : World) (h : QAt w g of tt cs S N) :
    Calls Try.prog 43 #[.pointer (some ⟨g, of, none⟩), .int .i64 n] w fun e w' => e = .returned (.tuple #[.int .i64 ((frontR S.I n).1 : Nat), .int .i64 (frontR S.I n).2]) ∧ Below w.heap.size w w' := by
  obtain ⟨A0, n0, c0, i1, i2, i3, i4, i5⟩ := h.it
  have hn16 : n0 ≤ 48 := by have := h.iv.room; omega
  have HC0 := Lib.hid (fun u (hb : Below w.heap.size w u) => ((h.below hb).bk.cell of).trans i1)
  have HI := Lib.hid (fun u (hb : Below w.heap.size w u) => i5.below hb)
  have HL := Lib.hid i2
  obtain ⟨L, hL⟩ : ∃ L, L = S.I := ⟨_, rfl⟩
  rw [← hL] at HI HL ⊢
  clear h i1 i2 i5 hL
  refine (callsIn_wide (n := 9)).1 ?_
  refine callsIn_of_wp_marks Try.func43 rfl trivial ?_ rfl
  simp only [Try.ntmps43, List.size_toArray, List.length_cons, List.length_nil, Nat.reduceAdd, Nat.reduceSub, Array.replicate_succ, Array.replicate_zero, List.push_toArray, List.append_toArray, List.nil_append, List.cons_append]
  gi_wp2_with fail
  refine wpIn_scope_straight ?_
  gi_wp2_with fail
  refine wpIn_label ?_
  gi_wp2_with fail
  obtain ⟨w5, hw5⟩ : ∃ w5, w5 = ((w.alloc (.cells #[.int .i64 n] 3)).alloc (.cells #[.int .i64 0] 3)).alloc (.cells #[.int .i64 140] 37) := ⟨_, rfl⟩
  have h5 : FI w n 0 140 w5 := by
    have s1 : (w.alloc (.cells #[.int .i64 n] 3)).heap.size = w.heap.size + 1 := by simp
    have s2 : ((w.alloc (.cells #[.int .i64 n] 3)).alloc (.cells #[.int .i64 0] 3)).heap.size = w.heap.size + 2 := by simp
    have k0 : Blk (w.alloc (.cells #[.int .i64 n] 3)) w.heap.size 3 #[.int .i64 n] := Blk.new _ _ _
    have k1 : Blk ((w.alloc (.cells #[.int .i64 n] 3)).alloc (.cells #[.int .i64 0] 3)) (w.heap.size + 1) 3 #[.int .i64 0] := by rw [← s1]; exact Blk.new _ _ _
    have k2 : Blk w5 (w.heap.size + 2) 37 #[.int .i64 140] := by rw [hw5, ← s2]; exact Blk.new _ _ _
    rw [hw5] at k2 ⊢
    exact ⟨bt (bt (ba _ _) (ba _ _)) (ba _ _), by simp, (k0.alloc _).alloc _, k1.alloc _, k2⟩
  have hs5 : w.heap.size ≤ w5.heap.size := h5.be.size
  have e5 : ((w.alloc (.cells #[.int .i64 n] 3)).alloc (.cells #[.int .i64 0] 3)).alloc (.cells #[.int .i64 140] 37) = w5 := hw5.symm
  rw [e5]
  clear hw5 e5
  refine wpIn_rangeFunc_leaveM (F := Fence.wide) rfl (by omega) (gf := 38) (rb := #[.pointer (some ⟨g, of, none⟩)]) (lb := #[]) rfl trivial (enters_of Try.func38 (by kernel_rfl) rfl)
    (encs := encI) (fun _ => rfl) (fun _ _ => True) (fun pre W => FI w n 0 140 W ∧ ∀ x ∈ pre, x.2.t = n)
    (fun cd xs W => cd = .exit 0 ∧ ∃ pre x, xs = pre ++ [x] ∧ (∀ y ∈ pre, y.2.t = n) ∧ x.2.t ≠ n ∧ ((x.2.t = 0 ∧ FI w n (x.1 : Nat) 0 W) ∨ (x.2.t ≠ 0 ∧ FI w n 0 120 W)))
    (fun pre x _ => True) (fun xs => xs = ixs L) (fun xs => ∃ i, i < L.length ∧ xs = (ixs L).take (i + 1)) 49
    (fun _ _ => trivial) (fun _ _ _ _ _ _ _ => trivial)
    (fun s W l o o' hi hl ho hc => ⟨hi.1.put (Nat.le_trans hs5 hl) ho hc, hi.2⟩)
    (fun cd s W l o o' hi hl ho hc => by
      obtain ⟨h1, pre, x, h2, h3, h4, h5⟩ := hi
      exact ⟨h1, pre, x, h2, h3, h4, h5.imp (fun h => ⟨h.1, h.2.put (Nat.le_trans hs5 hl) ho hc⟩) (fun h => ⟨h.1, h.2.put (Nat.le_trans hs5 hl) ho hc⟩)⟩)
    (fun o o' => ⟨(h5.bel (ba _ _)).bel (ba _ _), fun x hx => nomatch hx⟩)
    ?iter (fun pre x a' W => ∃ t9, Blk W t9 71 #[.int .i64 x.2.n, .int .u64 (x.2.v : Nat), .int .i64 x.2.t] ∧ a' = { tmps := #[.pointer (some ⟨g, of, none⟩), .int .i64 n, undef, .pointer (some ⟨w.heap.size, 0, none⟩), .int .i64 0, .int .i64 0, .pointer (some ⟨w.heap.size + 1, 0, none⟩), .pointer (some ⟨w.heap.size + 2, 0, none⟩), .int .i64 x.1, .pointer (some ⟨t9, 0, none⟩), .pointer (some ⟨g, of, none⟩), .func (.func 38) #[.pointer (some ⟨g, of, none⟩)] #[], .int .i64 x.1, .agg #[.int .i64 x.2.n, .int .u64 (x.2.v : Nat), .int .i64 x.2.t], undef, undef, undef, undef, undef, undef, undef, undef, undef, undef], defers := [] })
    (fun pre x a' W l o o' h hl ho hc => by
      obtain ⟨t9, h1, h3⟩ := h
      exact ⟨t9, blk_put h1 ho hc, h3⟩) ?assign ?body ?done ?stop
  case iter =>
    intro l W1 Z Y hZK hb1 hI1 hz1 hYY
    refine (each_in 8 (by omega) l g of A0 L n0 c0 HL (by omega) (fun i W => (FI w n 0 140 W ∧ ∀ x ∈ (ixs L).take i, x.2.t = n) ∧ Z W ∧ i ≤ L.length) (fun i W => Y ((ixs L).take (i + 1)) W)
      (fun s Wa Wb hb hh => ⟨⟨hh.1.1.bel hb, hh.1.2⟩, hZK _ _ (keepsOthers_below hb) hh.2.1, hh.2.2⟩) (fun s Wa hh => HI.out Wa hh.1.1.be) ?_ W1 (HC0.out W1 hI1.1.be) ⟨hI1, hz1, Nat.zero_le _⟩).mono ?_
    · intro i hi Wa hh
      have := hYY ((ixs L).take i) (i, L[i]'hi) Wa hh.1 hh.2.1 trivial (by rw [ixs_tlen L i (by omega)]; have := HL.out; omega)
      rw [← ixs_take L i hi] at this
      refine YieldAt.mono this fun e W' hr => ?_
      rcases hr with ⟨h1, h2, h3, _⟩ | hr
      · exact .inl ⟨h1, h2, h3, by omega⟩
      · exact .inr hr
    · rintro e W' ⟨hv, (⟨h1, h2, _⟩ | ⟨i, hi, hy⟩)⟩
      · exact ⟨hv, .inl ⟨ixs L, rfl, by rw [List.take_of_length_le (by unfold ixs; rw [ixsF_len]; exact Nat.le_refl _)] at h1; exact h1, h2⟩⟩
      · exact ⟨hv, .inr ⟨_, ⟨i, hi, rfl⟩, hy⟩⟩
  case assign =>
    rintro l pre x W K hi _ hK
    obtain ⟨xi, xn, xv, xt⟩ := x
    simp [encI, IT.val]
    gi_wp2_with fail
    exact hK _ _ (KeepsOthers.alloc _ _) trivial ⟨hi.1.bel (ba _ _), hi.2⟩ ⟨_, Blk.new _ _ _, rfl⟩
  case body =>
    rintro l pre x a' W hl _ hi ⟨t9, h1, rfl⟩ hlen
    obtain ⟨xi, xn, xv, xt⟩ := x
    dsimp only at h1
    have d0 := hi.1.kn.cell 0
    have d2 := h1.cell 2
    have p1 := hi.1.kp.cell 0
    have p2 := hi.1.ke.cell 0
    have f1 := hi.1.kp.frozen 0
    have f2 := hi.1.ke.frozen 0
    simp only [List.getElem?_toArray, List.getElem?_cons_zero, List.getElem?_cons_succ] at d0 d2 p1 p2
    have HF := Lib.hid hi
    clear h1
    by_cases hx : xt = n
    · subst hx
      have HN : Hid (∀ y ∈ pre ++ [(xi, (⟨xn, xv, xt⟩ : IT))], y.2.t = xt) := Lib.hid (fun y hy => by
        rcases List.mem_append.1 hy with hy | hy
        · exact hi.2 y hy
        · obtain rfl := List.mem_singleton.1 hy; rfl)
      clear hi
      gi_wp2_with fail
      exact ⟨KeepsOthers.refl _, trivial, HF.out.1, HN.out⟩
    · have hxb : (xt == n) = false := by simp [hx]
      by_cases h0 : xt = 0
      · subst h0
        have hF2 : Hid (FI w n (xi : Nat) 0 ((W.setCell ⟨w.heap.size + 1, 0, none⟩ (.int .i64 (xi : Nat))).setCell ⟨w.heap.size + 2, 0, none⟩ (.int .i64 0)) ∧ KeepsOthers W ((W.setCell ⟨w.heap.size + 1, 0, none⟩ (.int .i64 (xi : Nat))).setCell ⟨w.heap.size + 2, 0, none⟩ (.int .i64 0))) := Lib.hid (by
          have k1 : Blk (W.setCell ⟨w.heap.size + 1, 0, none⟩ (.int .i64 (xi : Nat))) (w.heap.size + 1) 3 #[.int .i64 (xi : Nat)] := by simpa using hi.1.kp.set_ 0 (.int .i64 (xi : Nat))
          have k2 := hi.1.ke.kept (lgrown_set W ⟨w.heap.size + 1, 0, none⟩ (.int .i64 (xi : Nat))) (fun e => by injection e with e; dsimp only at e; omega)
          have k3 : Blk ((W.setCell ⟨w.heap.size + 1, 0, none⟩ (.int .i64 (xi : Nat))).setCell ⟨w.heap.size + 2, 0, none⟩ (.int .i64 0)) (w.heap.size + 2) 37 #[.int .i64 0] := by simpa using k2.set_ 0 (.int .i64 0)
          have g2 := lgrown_set (W.setCell ⟨w.heap.size + 1, 0, none⟩ (.int .i64 (xi : Nat))) ⟨w.heap.size + 2, 0, none⟩ (.int .i64 0)
          refine ⟨⟨(hi.1.be.setCell (p := ⟨w.heap.size + 1, 0, none⟩) (by dsimp only; omega) _).setCell (p := ⟨w.heap.size + 2, 0, none⟩) (by dsimp only; omega) _, by rw [World.size_setCell, World.size_setCell]; exact hi.1.sz, (hi.1.kn.kept (lgrown_set W ⟨w.heap.size + 1, 0, none⟩ (.int .i64 (xi : Nat))) (fun e => by injection e with e; dsimp only at e; omega)).kept g2 (fun e => by injection e with e; dsimp only at e; omega), k1.kept g2 (fun e => by injection e with e; dsimp only at e; omega), k3⟩, (KeepsOthers.setCell _ _ _).trans (KeepsOthers.setCell _ _ _)⟩)
        have hpre := Lib.hid hi.2
        have q2 : (W.setCell ⟨w.heap.size + 1, 0, none⟩ (.int .i64 (xi : Nat))).frozen? ⟨w.heap.size + 2, 0, none⟩ = false := (hi.1.ke.kept (lgrown_set W ⟨w.heap.size + 1, 0, none⟩ (.int .i64 (xi : Nat))) (fun e => by injection e with e; dsimp only at e; omega)).frozen 0
        have q3 := (hi.1.ke.kept (lgrown_set W ⟨w.heap.size + 1, 0, none⟩ (.int .i64 (xi : Nat))) (fun e => by injection e with e; dsimp only at e; omega)).cell 0
        simp only [List.getElem?_toArray, List.getElem?_cons_zero] at q3
        clear hi
        gi_wp2_with fail
        exact ⟨hF2.out.2, rfl, pre, _, rfl, hpre.out, hx, .inl ⟨rfl, hF2.out.1⟩⟩
      · have h0b : (xt == 0) = false := by simp [h0]
        have hF2 : Hid (FI w n 0 120 (W.setCell ⟨w.heap.size + 2, 0, none⟩ (.int .i64 120)) ∧ KeepsOthers W (W.setCell ⟨w.heap.size + 2, 0, none⟩ (.int .i64 120))) := Lib.hid (by
          have g2 := lgrown_set W ⟨w.heap.size + 2, 0, none⟩ (.int .i64 120)
          have k3 : Blk (W.setCell ⟨w.heap.size + 2, 0, none⟩ (.int .i64 120)) (w.heap.size + 2) 37 #[.int .i64 120] := by simpa using hi.1.ke.set_ 0 (.int .i64 120)
          exact ⟨⟨hi.1.be.setCell (p := ⟨w.heap.size + 2, 0, none⟩) (by dsimp only; omega) _, by rw [World.size_setCell]; exact hi.1.sz, hi.1.kn.kept g2 (fun e => by injection e with e; dsimp only at e; omega), hi.1.kp.kept g2 (fun e => by injection e with e; dsimp only at e; omega), k3⟩, KeepsOthers.setCell _ _ _⟩)
        have hpre := Lib.hid hi.2
        clear hi
        gi_wp2_with fail
        exact ⟨hF2.out.2, rfl, pre, _, rfl, hpre.out, hx, .inr ⟨h0, hF2.out.1⟩⟩
  case done =>
    rintro D xs W hD rfl hi hDd
    have hfr : Hid (frontR L n = (0, 140)) := Lib.hid (front_none hi.2)
    have p1 := fun m : Nat => (show (W.drewN m).cell? ⟨w.heap.size + 1, 0, none⟩ = some (.int .i64 0) from hi.1.kp.cell 0)
    have p2 := fun m : Nat => (show (W.drewN m).cell? ⟨w.heap.size + 2, 0, none⟩ = some (.int .i64 140) from hi.1.ke.cell 0)
    have hb := Lib.hid hi.1.be
    clear hi
    gi_wp2_with fail
    refine (wpIn_wide).2 ?_
    go_quiet (fail)
    gi_wp2_with fail
    refine leaves_marks [D] (W.drewN nq) ((MarksAt.nil (W.drewN nq) w.heap.size).cons (by omega) hDd (fun E hE => by cases hE)) ⟨_, results_tmp2 rfl _ _ _, ?_⟩
    have hlo : ∀ E ∈ [D], w.heap.size ≤ E := fun E hE => by rw [List.mem_singleton.1 hE]; omega
    refine ⟨by rw [hfr.out]; rfl, (bt hb.out ⟨rfl, rfl, rfl, Nat.le_refl _, fun _ _ => rfl⟩ : Below w.heap.size w (W.drewN nq)).trans (taken_below hlo)⟩
  case stop =>
    rintro D cd xs W hD ⟨i, hi, rfl⟩ ⟨rfl, pre, x, hxs, hpre, hxn, hFI⟩ hDd
    rw [ixs_take L i hi] at hxs
    obtain ⟨rfl, hx⟩ := List.append_inj' hxs rfl
    obtain rfl : (i, L[i]'hi) = x := by simpa using hx
    dsimp only at hxn hFI
    have hfr := front_at hi hpre hxn
    obtain ⟨k, er, hke, hF⟩ : ∃ (k : Nat) (er : Int), frontR L n = (k, er) ∧ FI w n (k : Nat) er W := by
      rcases hFI with ⟨h0, hF⟩ | ⟨h0, hF⟩
      · rw [if_pos h0] at hfr; exact ⟨i, 0, hfr, hF⟩
      · rw [if_neg h0] at hfr; exact ⟨0, 120, hfr, hF⟩
    have Hfr := Lib.hid hke
    have p1 := fun m : Nat => (show (W.drewN m).cell? ⟨w.heap.size + 1, 0, none⟩ = some (.int .i64 (k : Nat)) from hF.kp.cell 0)
    have p2 := fun m : Nat => (show (W.drewN m).cell? ⟨w.heap.size + 2, 0, none⟩ = some (.int .i64 er) from hF.ke.cell 0)
    have hb := Lib.hid hF.be
    clear hF hFI hfr hxn hpre hxs hx hke
    refine wpIn_exit ?_
    gi_wp2_with fail
    refine (wpIn_wide).2 ?_
    go_quiet (fail)
    gi_wp2_with fail
    refine leaves_marks [D] (W.drewN nq) ((MarksAt.nil (W.drewN nq) w.heap.size).cons (by omega) hDd (fun E hE => by cases hE)) ⟨_, results_tmp2 rfl _ _ _, ?_⟩
    have hlo : ∀ E ∈ [D], w.heap.size ≤ E := fun E hE => by rw [List.mem_singleton.1 hE]; omega
    refine ⟨by rw [Hfr.out]; rfl, (bt hb.out ⟨rfl, rfl, rfl, Nat.le_refl _, fun _ _ => rfl⟩ : Below w.heap.size w (W.drewN nq)).trans (taken_below hlo)⟩
end Go.Proofs.Ytfcafahgmnnlnaa.Qu
