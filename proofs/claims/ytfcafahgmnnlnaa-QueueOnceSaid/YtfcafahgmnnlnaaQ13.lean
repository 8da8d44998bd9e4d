/- Layer 14: a work is backed out, walked. -/
import Derived.Test.YtfcafahgmnnlnaaQ12
namespace Go.Proofs.Ytfcafahgmnnlnaa.Qu
open Go.RowKit Go.Shelf Go.Maps
attribute [local go_sem] Oper.semAt_some
set_option linter.unusedVariables false
set_option linter.unusedSimpArgs false

theorem backout_nil (n : Int) (w : World) : Calls Try.prog 23 #[.pointer none, .int .i64 n] w fun e w' => e = .returned (.int .i64 6) ∧ Below w.heap.size w w' := by
  have b1 : Below w.heap.size w ((w.alloc (.cells #[.pointer none] 23)).alloc (.cells #[.int .i64 n] 3)) := bt (ba _ _) (ba _ _)
  have HB := Lib.hid b1
  clear b1
  go_enter Try.func23, Try.ntmps23
  go_wp2_with fail
  refine (names_nil n _).mono ?_
  rintro e w1 ⟨rfl, rfl⟩
  go_wp2
  go_ret
  exact ⟨rfl, HB.out⟩
def backM (S : QS) (n : Int) : Int × QS := if n < 1 then (1, S) else (0, { S with I := S.I.map (freeI n), ws := othersQ S.ws n })
set_option maxRecDepth 100000 in
set_option maxHeartbeats 4000000 in
theorem backout_any (g of : Nat) (tt : TypeId) (cs : Array Value) (S : QS) (N : Nat) (n : Int) (w : World) (h : QAt w g of tt cs S N) (hn : i64ok n) :
    Calls Try.prog 23 #[.pointer (some ⟨g, of, none⟩), .int .i64 n] w fun e w' => e = .returned (.int .i64 (backM S n).1) ∧ QO w g of tt cs (backM S n).2 N w' := by
  obtain ⟨w5, hw5⟩ : ∃ w5, w5 = (w.alloc (.cells #[.pointer (some ⟨g, of, none⟩)] 23)).alloc (.cells #[.int .i64 n] 3) := ⟨_, rfl⟩
  have s1 : (w.alloc (.cells #[.pointer (some ⟨g, of, none⟩)] 23)).heap.size = w.heap.size + 1 := by simp
  have b5 : Below w.heap.size w w5 := by rw [hw5]; exact bt (ba _ _) (ba _ _)
  have k5a : Blk w5 w.heap.size 23 #[.pointer (some ⟨g, of, none⟩)] := by rw [hw5]; exact (Blk.new _ _ _).alloc _
  have k5b : Blk w5 (w.heap.size + 1) 3 #[.int .i64 n] := by rw [hw5, ← s1]; exact Blk.new _ _ _
  have hsz5 : w5.heap.size = w.heap.size + 2 := by rw [hw5]; simp
  have HN := Lib.hid (names_any g of n w5)
  by_cases h1 : n < 1
  · have hM : backM S n = (1, S) := if_pos h1
    rw [hM]
    have HF := Lib.hid (QO.same h b5)
    have hE : namesE n = 1 := if_pos h1
    rw [hE] at HN
    have e0 := k5a.cell 0
    have e1 := k5b.cell 0
    simp only [List.getElem?_toArray, List.getElem?_cons_zero] at e0 e1
    rw [hw5] at e0 e1
    have HW := Lib.hid hw5
    clear h hM hE b5 k5a k5b hsz5 hw5 s1
    go_enter Try.func23, Try.ntmps23
    go_wp2_with fail
    rw [← HW.out]
    refine HN.out.mono ?_
    rintro e w1 ⟨rfl, rfl⟩
    go_wp2
    go_ret
    exact ⟨rfl, HF.out⟩
  have hM : backM S n = (0, { S with I := S.I.map (freeI n), ws := othersQ S.ws n }) := if_neg h1
  rw [hM]
  have hE : namesE n = 0 := if_neg h1
  rw [hE] at HN
  obtain ⟨A0, n0, c0, i1, i2, i3, i4, i5⟩ := h.it
  have hn16 : n0 ≤ 48 := by have := h.iv.room; omega
  have HL := Lib.hid i2
  have hmap := h.mapLt
  have hgl := h.lt
  have HI := Lib.hid (fun u (hg : w.grownBy u (some g)) => i5.kept hg h.bk h.ty.2)
  have h5 : BO w w5 g of tt cs S N n 0 := ⟨⟨.slice A0 n0 c0, by rw [set_self i1]; exact h.below b5⟩, lbelow_grown b5 _, by omega, k5a, k5b⟩
  have hs5 : w.heap.size ≤ w5.heap.size := by omega
  have e0 := k5a.cell 0
  have e1 := k5b.cell 0
  have cg : w5.cell? ⟨g, of, none⟩ = some (.slice A0 n0 c0) := ((h.bk.below b5 hgl).cell of).trans i1
  simp only [List.getElem?_toArray, List.getElem?_cons_zero] at e0 e1
  have e0w := e0
  have e1w := e1
  have H := Lib.hid (And.intro h hn)
  have HW := Lib.hid hw5
  rw [hw5] at e0 e1
  clear h hM hE i1 i2 i5 b5 k5a k5b s1 hw5
  refine (callsIn_wide (n := 9)).1 ?_
  refine callsIn_of_wp_marks Try.func23 rfl trivial ?_ rfl
  simp only [Try.ntmps23, List.size_toArray, List.length_cons, List.length_nil, Nat.reduceAdd, Nat.reduceSub, Array.replicate_succ, Array.replicate_zero, List.push_toArray, List.append_toArray, List.nil_append, List.cons_append]
  gi_wp2_with fail
  rw [← HW.out]
  refine ⟨trivial, ((callsIn_wide).2 HN.out).mono ?_⟩
  rintro e w1 ⟨rfl, rfl⟩
  gi_wp2_with fail
  refine wpIn_rangeFunc_leaveM (F := Fence.wide) rfl (by omega) (gf := 38) (rb := #[.pointer (some ⟨g, of, none⟩)]) (lb := #[]) rfl trivial (enters_of Try.func38 (by kernel_rfl) rfl)
    (encs := encI) (fun _ => rfl) (fun _ _ => True) (fun pre W => BO w W g of tt cs S N n pre.length)
    (fun _ _ _ => False) (fun pre x W => ∃ hh : pre.length < S.I.length, x = (pre.length, S.I[pre.length]'hh)) (fun xs => xs.length = S.I.length) (fun _ => True) 49
    (fun _ _ => trivial) (fun _ _ _ _ _ _ _ => trivial)
    (fun s W l o o' hi hl ho hc => hi.put hmap (Nat.le_trans hs5 hl) ho hc) (fun _ _ _ _ _ _ hi _ _ _ => hi)
    (fun o o' => (h5.bel (ba _ _)).bel (ba _ _))
    ?iter (fun pre x a' W => (∃ hh : pre.length < S.I.length, x = (pre.length, S.I[pre.length]'hh)) ∧ ∃ t7, Blk W t7 71 #[.int .i64 x.2.n, .int .u64 (x.2.v : Nat), .int .i64 x.2.t] ∧ a' = { tmps := #[.pointer (some ⟨g, of, none⟩), .int .i64 n, .pointer (some ⟨w.heap.size, 0, none⟩), .pointer (some ⟨w.heap.size + 1, 0, none⟩), .int .i64 0, .int .i64 0, .int .i64 x.1, .pointer (some ⟨t7, 0, none⟩), .pointer (some ⟨g, of, none⟩), .int .i64 n, .int .i64 0, .int .i64 0, .bool false, undef, .pointer (some ⟨g, of, none⟩), .func (.func 38) #[.pointer (some ⟨g, of, none⟩)] #[], .int .i64 x.1, .agg #[.int .i64 x.2.n, .int .u64 (x.2.v : Nat), .int .i64 x.2.t], undef, undef, undef, undef, undef, undef, undef, undef, undef, undef], defers := [] })
    (fun pre x a' W l o o' h hl ho hc => by
      obtain ⟨hx, t7, h1, h3⟩ := h
      exact ⟨hx, t7, blk_put h1 ho hc, h3⟩) ?assign ?body ?done ?stop
  case iter =>
    intro l W1 Z Y hZK hb1 hI1 hz1 hYY
    refine (each_in 8 (by omega) l g of A0 S.I n0 c0 HL (by omega) (fun i W => BO w W g of tt cs S N n i ∧ Z W ∧ i ≤ S.I.length) (fun i W => Y ((ixs S.I).take (i + 1)) W)
      (fun s Wa Wb hb hh => ⟨hh.1.bel hb, hZK _ _ (keepsOthers_below hb) hh.2.1, hh.2.2⟩) (fun s Wa hh => HI.out Wa hh.1.gr) ?_ W1 ((hb1.cell (p := ⟨g, of, none⟩) (by dsimp only; omega)).trans cg) ⟨hI1, hz1, Nat.zero_le _⟩).mono ?_
    · intro i hi Wa hh
      have hpl := ixs_tlen S.I i (by omega)
      have := hYY ((ixs S.I).take i) (i, S.I[i]'hi) Wa (by rw [hpl]; exact hh.1) hh.2.1 ⟨by rw [hpl]; exact hi, by simp only [hpl]⟩ (by rw [hpl]; have := HL.out; omega)
      rw [← ixs_take S.I i hi, ixs_tlen S.I (i + 1) (by omega)] at this
      refine YieldAt.mono this fun e W' hr => ?_
      rcases hr with ⟨h1, h2, h3, _⟩ | hr
      · exact .inl ⟨h1, h2, h3, by omega⟩
      · exact .inr hr
    · rintro e W' ⟨hv, (⟨h1, h2, _⟩ | ⟨i, hi, hy⟩)⟩
      · exact ⟨hv, .inl ⟨ixs S.I, by unfold ixs; exact ixsF_len _ _, by rw [show (ixs S.I).length = S.I.length from ixsF_len _ _]; exact h1, h2⟩⟩
      · exact ⟨hv, .inr ⟨_, trivial, hy⟩⟩
  case assign =>
    rintro l pre x W K hi hx hK
    obtain ⟨xi, xn, xv, xt⟩ := x
    simp [encI, IT.val]
    gi_wp2_with fail
    exact hK _ _ (KeepsOthers.alloc _ _) trivial (hi.bel (ba _ _)) ⟨hx, _, Blk.new _ _ _, rfl⟩
  case body =>
    rintro l pre x a' W hl _ hi ⟨⟨hh, hx⟩, t7, h1, rfl⟩ hlen
    have hstep := backI_step S.I n pre.length hh
    have hpl : (pre ++ [x]).length = pre.length + 1 := by simp
    obtain ⟨pl, hpe⟩ : ∃ pl, pl = pre.length := ⟨_, rfl⟩
    obtain ⟨y, hy⟩ : ∃ y, y = S.I[pre.length]'hh := ⟨_, rfl⟩
    rw [← hy] at hx hstep
    rw [← hpe] at hi hx hstep hpl hh
    subst hx
    obtain ⟨xn, xv, xt⟩ := y
    dsimp only at h1 hstep
    have q0 := hi.kq.cell 0
    have q1 := hi.kn.cell 0
    have q2 := h1.cell 2
    simp only [List.getElem?_toArray, List.getElem?_cons_zero, List.getElem?_cons_succ] at q0 q1 q2
    by_cases hxn : xt = n
    · subst hxn
      rw [if_pos rfl] at hstep
      obtain ⟨v, hq⟩ := hi.qo
      have hcall := give_ex g of tt _ _ N pl 0 W hq (by dsimp only; rw [backI_len]; exact hh)
      dsimp only at hcall
      rw [← hstep] at hcall
      have HC := Lib.hid hcall
      have HB := Lib.hid (And.intro hi (And.intro hpl (And.intro hq.bk hgl)))
      clear hcall hi hstep hy hpe hq h1 hpl
      gi_wp2_with fail
      refine ⟨trivial, ((callsIn_wide).2 HC.out |>.inRound l).mono ?_⟩
      rintro e W3 ⟨rfl, ⟨v', hq3⟩, hg3⟩
      have hres : Hid (KeepsOthers W W3 ∧ BO w W3 g of tt cs S N xt (pre ++ [(pl, (⟨xn, xv, xt⟩ : IT))]).length) := Lib.hid (by
        obtain ⟨hi, hpl, hbk, _⟩ := HB.out
        rw [hpl]
        refine ⟨KeepsOthers.of_grownBy hg3 (fun j ob hj hob => ?_), ⟨v', ?_⟩, hi.gr.trans hg3, Nat.le_trans hi.sz hg3.size, hi.kq.kept hg3 (fun e => by injection e; omega), hi.kn.kept hg3 (fun e => by injection e; omega)⟩
        · cases hj
          unfold Blk at hbk
          rw [hbk] at hob
          cases hob
          rfl
        · have e : (cs.setIfInBounds of v).setIfInBounds of v' = cs.setIfInBounds of v' := by simp
          rwa [e] at hq3)
      clear hq3 hg3 q0 q1 q2
      gi_wp2_with fail
      exact ⟨hres.out.1, trivial, hres.out.2⟩
    · rw [if_neg hxn] at hstep
      have hb : (xt == n) = false := by simp [hxn]
      have hres : Hid (BO w W g of tt cs S N n (pre ++ [(pl, (⟨xn, xv, xt⟩ : IT))]).length) := Lib.hid (by
        rw [hpl]
        obtain ⟨v, hq⟩ := hi.qo
        exact ⟨⟨v, by rw [hstep]; exact hq⟩, hi.gr, hi.sz, hi.kq, hi.kn⟩)
      clear hi hstep hy hpe h1 hpl
      gi_wp2_with fail
      exact ⟨KeepsOthers.refl _, trivial, hres.out⟩
  case done =>
    rintro D xs W hD hxl hi hDd
    rw [hxl] at hi
    obtain ⟨v, hq⟩ := hi.qo
    rw [backI_all] at hq
    have q0 := hi.kq.cell 0
    have q1 := hi.kn.cell 0
    simp only [List.getElem?_toArray, List.getElem?_cons_zero] at q0 q1
    have HD := Lib.hid (drop_any g of tt _ _ N n W hq H.out.2)
    have HB := Lib.hid (And.intro hi.gr (And.intro hDd hi.sz))
    have hDw : w.heap.size ≤ D := by omega
    clear hi hq
    gi_wp2_with fail
    refine ⟨trivial, ((callsIn_wide).2 HD.out).mono ?_⟩
    rintro e W3 ⟨rfl, ⟨⟨cs', hq3, hkp⟩, hg3⟩⟩
    have HF := Lib.hid (And.intro hq3 (And.intro hkp hg3))
    have hDd3 : W3.heap[D]? = some (.deferred (some [])) := (hg3.block D (Array.getElem?_eq_some_iff.1 HB.out.2.1).1 (fun e => by injection e; omega)).trans HB.out.2.1
    clear hq3 hkp hg3 q0 q1
    gi_wp2_with fail
    refine leaves_marks [D] W3 ((MarksAt.nil W3 w.heap.size).cons hDw hDd3 (fun E hE => by cases hE)) ⟨_, results_tmp rfl _ _ _, ?_⟩
    refine ⟨rfl, ⟨cs', HF.out.1.marked hDd3 _, (Keep3.set cs of (.inl rfl) v).trans HF.out.2.1⟩, (HB.out.1.trans HF.out.2.2).andThen (grownBy_putObj' W3 D _) (fun j e => by cases e; exact .inl hDw)⟩
  case stop =>
    rintro D cd xs W hD _ hf
    exact hf.elim
end Go.Proofs.Ytfcafahgmnnlnaa.Qu
