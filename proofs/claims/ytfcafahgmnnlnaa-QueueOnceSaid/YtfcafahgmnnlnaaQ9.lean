/- Layer 14: Values, walked. -/
import Derived.Test.YtfcafahgmnnlnaaQ8
namespace Go.Proofs.Ytfcafahgmnnlnaa.Qu
open Go.RowKit Go.Shelf Go.Maps
attribute [local go_sem] Oper.semAt_some
set_option linter.unusedVariables false
set_option linter.unusedSimpArgs false

theorem values_nil (w : World) : Calls Try.prog 17 #[.pointer none] w fun e w' => e = .returned (.slice none 0 0) ∧ w = w' := by
  go_enter Try.func17, Try.ntmps17
  go_wp2
  go_ret
  exact ⟨rfl, rfl⟩
set_option maxRecDepth 100000 in
set_option maxHeartbeats 4000000 in
theorem values_any (g of : Nat) (tt : TypeId) (cs : Array Value) (S : QS) (N : Nat) (w : World) (h : QAt w g of tt cs S N) :
    Calls Try.prog 17 #[.pointer (some ⟨g, of, none⟩)] w fun e w' => ∃ A c, e = .returned (.slice A S.I.length c) ∧ OwnU w' w.heap.size A c (S.I.map IT.v) ∧ Below w.heap.size w w' := by
  obtain ⟨A0, n0, c0, i1, i2, i3, i4, i5⟩ := h.it
  have hn16 : n0 ≤ 48 := by have := h.iv.room; omega
  have HC0 := Lib.hid (fun u (hb : Below w.heap.size w u) => ((h.below hb).bk.cell of).trans i1)
  have HI := Lib.hid (fun u (hb : Below w.heap.size w u) => i5.below hb)
  have HL := Lib.hid i2
  obtain ⟨L, hL⟩ : ∃ L, L = S.I := ⟨_, rfl⟩
  rw [← hL] at HI HL ⊢
  clear h i1 i2 i5 hL
  refine (callsIn_wide (n := 9)).1 ?_
  refine callsIn_of_wp_marks Try.func17 rfl trivial ?_ rfl
  simp only [Try.ntmps17, List.size_toArray, List.length_cons, List.length_nil, Nat.reduceAdd, Nat.reduceSub, Array.replicate_succ, Array.replicate_zero, List.push_toArray, List.append_toArray, List.nil_append, List.cons_append]
  gi_wp2_with fail
  obtain ⟨w5, hw5⟩ : ∃ w5, w5 = w.alloc (.cells #[.slice none 0 0] 33) := ⟨_, rfl⟩
  have h5 : VI w [] w5 := ⟨by rw [hw5]; exact ba _ _, by rw [hw5]; simp, none, 0, by rw [hw5]; exact Blk.new _ _ _, OwnU.nil _ _⟩
  have hs5 : w.heap.size ≤ w5.heap.size := h5.be.size
  rw [← hw5]
  have HW5 := Lib.hid hw5
  clear hw5
  refine wpIn_rangeFunc_leaveM (F := Fence.wide) rfl (by omega) (gf := 38) (rb := #[.pointer (some ⟨g, of, none⟩)]) (lb := #[]) rfl trivial (enters_of Try.func38 (by kernel_rfl) rfl)
    (encs := encI) (fun _ => rfl) (fun _ _ => True) (VI w) (fun _ _ _ => False) (fun pre x _ => True) (fun xs => xs = ixs L) (fun _ => True) 49
    (fun _ _ => trivial) (fun _ _ _ _ _ _ _ => trivial)
    (fun s W l o o' hi hl ho hc => hi.put (Nat.le_trans hs5 hl) ho hc) (fun _ _ _ _ _ _ hi _ _ _ => hi)
    (fun o o' => (h5.bel (ba _ _)).bel (ba _ _))
    ?iter (fun pre x a' W => ∃ t5, Blk W t5 71 #[.int .i64 x.2.n, .int .u64 (x.2.v : Nat), .int .i64 x.2.t] ∧ t5 ≠ w.heap.size ∧ a' = { tmps := #[.pointer (some ⟨g, of, none⟩), undef, .slice none 0 0, .pointer (some ⟨w.heap.size, 0, none⟩), undef, .pointer (some ⟨t5, 0, none⟩), .pointer (some ⟨g, of, none⟩), .bool false, .pointer (some ⟨g, of, none⟩), .func (.func 38) #[.pointer (some ⟨g, of, none⟩)] #[], .int .i64 x.1, .agg #[.int .i64 x.2.n, .int .u64 (x.2.v : Nat), .int .i64 x.2.t], undef, undef, undef, undef, undef, undef], defers := [] })
    (fun pre x a' W l o o' h hl ho hc => by
      obtain ⟨t5, h1, h2, h3⟩ := h
      exact ⟨t5, (World.putObj_heap_other (fun e => by subst e; unfold Blk at h1; rw [h1] at ho; cases ho; cases hc)).trans h1, h2, h3⟩) ?assign ?body ?done ?stop
  case iter =>
    intro l W1 Z Y hZK hb1 hI1 hz1 hYY
    refine (each_in 8 (by omega) l g of A0 L n0 c0 HL (by omega) (fun i W => VI w ((ixs L).take i) W ∧ Z W ∧ i ≤ L.length) (fun i W => Y ((ixs L).take (i + 1)) W)
      (fun s Wa Wb hb hh => ⟨hh.1.bel hb, hZK _ _ (keepsOthers_below hb) hh.2.1, hh.2.2⟩) (fun s Wa hh => HI.out Wa hh.1.be) ?_ W1 (HC0.out W1 hI1.be) ⟨hI1, hz1, Nat.zero_le _⟩).mono ?_
    · intro i hi Wa hh
      have := hYY ((ixs L).take i) (i, L[i]'hi) Wa hh.1 hh.2.1 trivial (by rw [ixs_tlen L i (by omega)]; have := HL.out; omega)
      rw [← ixs_take L i hi] at this
      refine YieldAt.mono this fun e W' hr => ?_
      rcases hr with ⟨h1, h2, h3, _⟩ | hr
      · exact .inl ⟨h1, h2, h3, by omega⟩
      · exact .inr hr
    · rintro e W' ⟨hv, (⟨h1, h2, _⟩ | ⟨i, hi, hy⟩)⟩
      · exact ⟨hv, .inl ⟨ixs L, rfl, by rw [List.take_of_length_le (by unfold ixs; rw [ixsF_len]; exact Nat.le_refl _)] at h1; exact h1, h2⟩⟩
      · exact ⟨hv, .inr ⟨_, trivial, hy⟩⟩
  case assign =>
    rintro l pre x W K hi _ hK
    obtain ⟨xi, xn, xv, xt⟩ := x
    simp [encI, IT.val]
    gi_wp2_with fail
    refine hK _ _ (KeepsOthers.alloc _ _) trivial (hi.bel (ba _ _)) ⟨_, Blk.new _ _ _, by have := hi.sz; omega, rfl⟩
  case body =>
    rintro l pre x a' W hl _ hi ⟨t5, h1, h2, rfl⟩ hlen
    obtain ⟨xi, xn, xv, xt⟩ := x
    dsimp only at h1
    obtain ⟨A2, c2, k2, own2⟩ := hi.ls
    obtain ⟨Wb, hWb⟩ : ∃ Wb, Wb = W.alloc (.cells #[.int .u64 (xv : Nat)] 31) := ⟨_, rfl⟩
    have bb : Below W.heap.size W Wb := by rw [hWb]; exact ba _ _
    have kb : Blk Wb W.heap.size 31 #[.int .u64 (xv : Nat)] := by rw [hWb]; exact Blk.new _ _ _
    have ownb := own2.grown (lbelow_grown bb none) (fun r e => by cases e)
    obtain ⟨pl, hpl⟩ : ∃ pl, pl = pre.length := ⟨_, rfl⟩
    rw [← hpl] at k2
    obtain ⟨A3, c3, w8, hrun, own3, g8⟩ := u_more ownb pl (by rw [List.length_map, hpl]) (by omega) xv W.heap.size (by have := bb.size; have := hi.sz; omega) kb
    have kv8 := (k2.below bb k2.lt).kept g8 (fun e => by have := (ownb.lt' _ e.symm).1; have : w.heap.size + 1 ≤ w.heap.size := this; omega)
    have e0 := k2.cell 0
    have e1 := h1.cell 1
    have e8 := kv8.cell 0
    have f8 := kv8.frozen 0
    simp only [List.getElem?_toArray, List.getElem?_cons_zero, List.getElem?_cons_succ] at e0 e1 e8
    have hfin : Hid (VI w (pre ++ [(xi, ⟨xn, xv, xt⟩)]) (w8.setCell ⟨w.heap.size, 0, none⟩ (.slice A3 (pl + 1) c3)) ∧ KeepsOthers W (w8.setCell ⟨w.heap.size, 0, none⟩ (.slice A3 (pl + 1) c3))) := Lib.hid (by
      have hb8 : Below w.heap.size w w8 := (bt hi.be bb).grown g8 (Nat.le_trans hi.be.size bb.size) (fun r e => by have := (ownb.lt' r e).1; omega)
      refine ⟨⟨hb8.setCell (p := ⟨w.heap.size, 0, none⟩) (Nat.le_refl _) _, ?_, A3, c3, ?_, ?_⟩, ?_⟩
      · have := hi.sz; have := bb.size; have := g8.size; rw [World.size_setCell]; omega
      · have := kv8.set_ 0 (.slice A3 (pl + 1) c3)
        rw [List.length_append, ← hpl]
        simpa using this
      · rw [List.map_append]
        exact own3.grown (lgrown_set w8 ⟨w.heap.size, 0, none⟩ (.slice A3 (pl + 1) c3)) (fun r e e2 => by cases e; have h9 := (own3.lt' _ e2).1; dsimp only at h9; omega)
      · refine ((keepsOthers_below bb).trans (KeepsOthers.of_grownBy g8 fun j ob hj hob => ?_)).trans (KeepsOthers.setCell _ _ _)
        rcases ownb.2 with ⟨q1, q2⟩ | ⟨gg, cap, cur, q1, _, q3, _⟩
        · injection q1 with q1 _ _; rw [q1] at hj; cases hj
        · injection q1 with q1 _ _; rw [q1] at hj; injection hj with hj; have hj : gg = j := hj; subst hj; rw [q3] at hob; cases hob; rfl)
    rw [hWb] at hrun
    clear hpl bb kb ownb own2 own3 g8 kv8 hi k2 h1 hWb
    gi_wp2_with (gi_at_builtin; refine wpListIn_append_run (fun _ => trivial) rfl (.tmp 12) (.tmp 15) 33 rfl _ _ _ w8 rfl rfl hrun ?_)
    exact ⟨hfin.out.2, trivial, hfin.out.1⟩
  case done =>
    rintro D xs W hD rfl hi hDd
    obtain ⟨A2, c2, k2, own2⟩ := hi.ls
    have e0 := k2.cell 0
    simp only [List.getElem?_toArray, List.getElem?_cons_zero] at e0
    have hll : (ixs L).length = L.length := ixsF_len L 0
    have hmm : (ixs L).map (fun x => x.2.v) = L.map IT.v := by
      conv => rhs; rw [← ixsF_snd L 0]
      rw [List.map_map]; rfl
    rw [hll] at e0
    rw [hmm] at own2
    gi_wp2_with fail
    refine leaves_marks [D] W ((MarksAt.nil W w.heap.size).cons (by omega) hDd (fun E hE => by cases hE)) ⟨_, results_tmp rfl _ _ _, ?_⟩
    have hlo : ∀ E ∈ [D], w.heap.size ≤ E := fun E hE => by rw [List.mem_singleton.1 hE]; omega
    refine ⟨A2, c2, rfl, ?_, hi.be.trans (taken_below hlo)⟩
    exact ownsRow_putObj (own2.less (by omega)) _ hDd rfl
  case stop =>
    rintro D cd xs W hD _ hf
    exact hf.elim
end Go.Proofs.Ytfcafahgmnnlnaa.Qu
