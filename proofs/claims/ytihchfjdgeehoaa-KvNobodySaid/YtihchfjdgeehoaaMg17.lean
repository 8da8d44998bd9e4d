/- Parts Iz Bv Bt of one proof. -/
import Derived.Test.YtihchfjdgeehoaaMg16
import Derived.Test.YtihchfjdgeehoaaMg15
namespace Go.Proofs.Ytihchfjdgeehoaa
open Go.RowKit Go.Maps Go.Joins Go.Deep
set_option linter.unusedVariables false
set_option linter.unusedSimpArgs false

theorem own_same {u u' : World} {B k n c m : Nat} {t : TypeId} {A : Option Addr} {vs : List Value} (h : u.ownsRow B t k (.slice A n c) m vs) (hs : ∀ r, r < u.heap.size → (∃ cs fz, u.heap[r]? = some (.cells cs t fz)) → blk A = some r → u'.heap[r]? = u.heap[r]?) : u'.ownsRow B t k (.slice A n c) m vs := by
  obtain ⟨h1, h2⟩ := h
  refine ⟨h1, ?_⟩
  rcases h2 with h2 | ⟨g, cap, cur, hv, hb, hg, hrest⟩
  · exact .inl h2
  · refine .inr ⟨g, cap, cur, hv, hb, ?_, hrest⟩
    injection hv with e1 _ _
    rw [hs g (Array.getElem?_eq_some_iff.1 hg).1 ⟨_, _, hg⟩ (by rw [e1]; rfl)]
    exact hg
theorem q_same {ws : List WI} (hd : ws.Pairwise fun a b => a.q ≠ b.q ∧ ∀ r, blk a.A = some r → blk b.A ≠ some r) {a b : WI} (ha : a ∈ ws) (hb : b ∈ ws) (e : a.q = b.q) : a = b := by
  obtain ⟨i, hi, rfl⟩ := List.mem_iff_getElem.1 ha
  obtain ⟨j, hj, rfl⟩ := List.mem_iff_getElem.1 hb
  rcases Nat.lt_trichotomy i j with h | h | h
  · exact absurd e (List.pairwise_iff_getElem.1 hd i j hi hj h).1
  · subst h; rfl
  · exact absurd e.symm (List.pairwise_iff_getElem.1 hd j i hj hi h).1
theorem A_apart {ws : List WI} (hd : ws.Pairwise fun a b => a.q ≠ b.q ∧ ∀ r, blk a.A = some r → blk b.A ≠ some r) {a b : WI} (ha : a ∈ ws) (hb : b ∈ ws) (e : a.q ≠ b.q) (r : Nat) (h1 : blk a.A = some r) : blk b.A ≠ some r := by
  obtain ⟨i, hi, rfl⟩ := List.mem_iff_getElem.1 ha
  obtain ⟨j, hj, rfl⟩ := List.mem_iff_getElem.1 hb
  rcases Nat.lt_trichotomy i j with h | h | h
  · exact (List.pairwise_iff_getElem.1 hd i j hi hj h).2 r h1
  · subst h; exact absurd rfl e
  · intro h2
    exact (List.pairwise_iff_getElem.1 hd j i hj hi h).2 r h2 h1
def turnW (ws : List WI) (z : WI) : List WI := ws.map fun y => if y.q = z.q then z else y
/-- A work turns. -/
theorem RAt.upd {w w' : World} {B x : Nat} {P : List (Int × Nat)} {ws : List WI} {L : List LRow} (h : RAt w B x P ws L) {z z' : WI} (hz : z ∈ ws) (hq : z'.q = z.q)
    (hs : w.heap.size ≤ w'.heap.size) (hg : ∀ k, k < w.heap.size → k ≠ z.q → blk z.A ≠ some k → w'.heap[k]? = w.heap[k]?)
    (hb : Blk w' z.q 86 #[.int .i64 z'.n, .slice z'.A z'.l.length z'.c, .bool z'.p]) (ho : OwnC w' B z'.A z'.c z'.l) (hA : ∀ r, blk z'.A = some r → blk z.A = some r ∨ w.heap.size ≤ r) (hl : z'.l.length ≤ 100) : RAt w' B x P (turnW ws z') L := by
  obtain ⟨AP, nP, cP, AW, nW, cW, AL, nL, cL, hk, hnP, hnW, hnL, hpr, hpt, hll⟩ := h.ex
  obtain ⟨z1, z2, z3⟩ := h.wk z hz
  have zA : ∀ r, blk z.A = some r → ∃ cs fz, w.heap[r]? = some (.cells cs 47 fz) := fun r e => by
    rcases z3.2 with ⟨h1, h2⟩ | ⟨g, cap, cur, hv, hb, hg, hrest⟩
    · injection h1 with e1 _ _; rw [e1] at e; cases e
    · injection hv with e1 _ _
      rw [e1] at e
      injection e with e
      have e : g = r := e
      subst e
      exact ⟨_, _, hg⟩
  have keep : ∀ {k : Nat} {cs : Array Value} {t : TypeId} {fz : Nat × Nat}, w.heap[k]? = some (.cells cs t fz) → t ≠ 86 → t ≠ 47 → w'.heap[k]? = w.heap[k]? := fun {k cs t fz} e h1 h2 => by
    refine hg k (Array.getElem?_eq_some_iff.1 e).1 (fun e2 => ?_) (fun e2 => ?_)
    · subst e2
      unfold Blk at z2
      rw [z2] at e
      injection e with e
      injection e with _ e _
      exact h1 e.symm
    · obtain ⟨cs2, fz2, e3⟩ := zA k e2
      rw [e3] at e
      injection e with e
      injection e with _ e _
      exact h2 e.symm
  refine ⟨⟨AP, nP, cP, AW, nW, cW, AL, nL, cL, ?_, hnP, by unfold turnW; rw [List.length_map]; exact hnW, hnL, ?_, ?_, ?_⟩, ?_, ?_, h.sm.1, by unfold turnW; rw [List.length_map]; exact h.sm.2.1, h.sm.2.2.1, ?_⟩
  · unfold Blk at hk ⊢
    rw [keep hk (by decide) (by decide)]
    exact hk
  · exact own_same hpr fun r _ ⟨cs, fz, e⟩ _ => keep e (by decide) (by decide)
  · have e : (turnW ws z').map WI.q = ws.map WI.q := by
      unfold turnW
      rw [List.map_map]
      refine List.map_congr_left fun y _ => ?_
      show (if y.q = z'.q then z' else y).q = y.q
      split
      · rename_i e; exact e.symm
      · rfl
    rw [e]
    exact own_same hpt fun r _ ⟨cs, fz, e⟩ _ => keep e (by decide) (by decide)
  · refine ⟨hll.nil, fun hn => ?_⟩
    obtain ⟨b, cs, e, hbB, hkb, hc⟩ := hll.at_ hn
    refine ⟨b, cs, e, hbB, ?_, hc⟩
    unfold Blk at hkb ⊢
    rw [keep hkb (by decide) (by decide)]
    exact hkb
  · intro y hy
    obtain ⟨y0, hy0, rfl⟩ := List.mem_map.1 hy
    by_cases e : y0.q = z'.q
    · rw [if_pos e]
      rw [hq]
      exact ⟨z1, hb, ho⟩
    · rw [if_neg e]
      obtain ⟨y1, y2, y3⟩ := h.wk y0 hy0
      have hne : y0.q ≠ z.q := fun e2 => e (e2.trans hq.symm)
      refine ⟨y1, ?_, own_same y3 fun r hr ⟨cs, fz, e2⟩ e3 => hg r hr (fun e4 => ?_) (fun e4 => A_apart h.ds hz hy0 (fun e => hne e.symm) r e4 e3)⟩
      · unfold Blk at y2 ⊢
        rw [hg y0.q (Array.getElem?_eq_some_iff.1 y2).1 hne (fun e4 => by
          obtain ⟨cs2, fz2, e5⟩ := zA _ e4
          rw [e5] at y2
          injection y2 with y2
          injection y2 with _ y2 _
          exact absurd y2 (by decide))]
        exact y2
      · subst e4
        unfold Blk at z2
        rw [z2] at e2
        injection e2 with e2
        injection e2 with _ e2 _
        exact absurd e2 (by decide)
  · unfold turnW
    rw [List.pairwise_map]
    refine List.Pairwise.imp_of_mem ?_ h.ds
    intro a b ha hb' hab
    have hlt : ∀ y ∈ ws, ∀ r, blk y.A = some r → r < w.heap.size := fun y hy r e => ((h.wk y hy).2.2.lt' r e).2
    by_cases ea : a.q = z'.q
    · have haz : a = z := q_same h.ds ha hz (ea.trans hq)
      have eb : b.q ≠ z'.q := fun e => hab.1 (ea.trans e.symm)
      rw [if_pos ea, if_neg eb]
      refine ⟨fun e => eb e.symm, fun r hr hr2 => ?_⟩
      rcases hA r hr with h1 | h1
      · exact hab.2 r (by rw [haz]; exact h1) hr2
      · have := hlt b hb' r hr2; omega
    · by_cases eb : b.q = z'.q
      · have hbz : b = z := q_same h.ds hb' hz (eb.trans hq)
        rw [if_neg ea, if_pos eb]
        refine ⟨ea, fun r hr hr2 => ?_⟩
        rcases hA r hr2 with h1 | h1
        · exact hab.2 r hr (by rw [hbz]; exact h1)
        · have := hlt a ha r hr; omega
      · rw [if_neg ea, if_neg eb]
        exact hab
  · intro y hy
    obtain ⟨y0, hy0, rfl⟩ := List.mem_map.1 hy
    split
    · exact hl
    · exact h.sm.2.2.2 y0 hy0
def prepR (ws : List WI) (L : List LRow) (n : Int) : (List Ch × Int) × List WI × List LRow :=
  if n < 1 then (([], 1), ws, L) else match findW ws n with
    | some z => if z.p = true then (([], 7), ws, L) else if z.l.length = 0 then (([], 0), othersW ws n, dropL L n) else ((z.l, 0), turnW ws { z with p := true }, L)
    | none => (([], 0), othersW ws n, dropL L n)
def RPrepO (w : World) (B x : Nat) (P : List (Int × Nat)) (R : (List Ch × Int) × List WI × List LRow) (e : Ending) (w' : World) : Prop :=
  ∃ A q c, e = .returned (.tuple #[.slice A q c, .int .i64 R.1.2]) ∧ q = R.1.1.length ∧ OwnC w' w.heap.size A c R.1.1 ∧ RAt w' B x P R.2.1 R.2.2 ∧ RG B w w' x (fun _ => False)
set_option maxRecDepth 100000 in
set_option maxHeartbeats 4000000 in
theorem rprep_any (B x : Nat) (P : List (Int × Nat)) (ws : List WI) (L : List LRow) (n : Int) (w : World) (h : RAt w B x P ws L) (hB : B ≤ w.heap.size) :
    Calls Try.prog 31 #[.pointer (some ⟨x, 0, none⟩), .int .i64 n] w (RPrepO w B x P (prepR ws L n)) := by
  have HD := Lib.hid (rsdrop_any B x P ws L n w h hB)
  have HF := Lib.hid (find_any B x P ws L n w h)
  have hnil : ∀ (er : Int), prepR ws L n = (([], er), ws, L) → RPrepO w B x P (prepR ws L n) (.returned (.tuple #[.slice none 0 0, .int .i64 er])) w := fun er e => ⟨none, 0, 0, by rw [e], by rw [e]; rfl, by rw [e]; exact OwnC.nil _ _, by rw [e]; exact h, RG.of (lbelow_grown (Below.refl _ _) _)⟩
  have hdrop : prepR ws L n = (([], 0), othersW ws n, dropL L n) → ∀ w', RAt w' B x P (othersW ws n) (dropL L n) → w.grownBy w' (some x) → RPrepO w B x P (prepR ws L n) (.returned (.tuple #[.slice none 0 0, .int .i64 0])) w' := fun e w' h1 h2 => ⟨none, 0, 0, by rw [e], by rw [e]; rfl, by rw [e]; exact OwnC.nil _ _, by rw [e]; exact h1, RG.of h2⟩
  have HN := Lib.hid (And.intro hnil hdrop)
  clear hnil hdrop
  rcases a1 : decide (n < 1) with _ | _
  · have p1 : ¬ n < 1 := of_decide_eq_false a1
    rcases hf : findW ws n with _ | z
    · have hM : prepR ws L n = (([], 0), othersW ws n, dropL L n) := by unfold prepR; rw [if_neg p1, hf]
      have HM := Lib.hid hM
      rw [hf] at HF
      clear h hM hf
      go_enter Try.func31, Try.ntmps31
      go_wp2_with fail
      refine HF.out.mono ?_
      rintro e w1 ⟨rfl, rfl⟩
      dsimp only [Option.map_none]
      go_wp2_with fail
      refine HD.out.mono ?_
      rintro e w2 ⟨rfl, hr, hg⟩
      have HX := Lib.hid (HN.out.2 HM.out w2 hr hg)
      clear hr hg
      go_wp2
      go_returns
      exact HX.out
    · have hzm : z ∈ ws := List.mem_of_find?_eq_some hf
      have hz := h.wk z hzm
      have hlen := h.sm.2.2.2 z hzm
      rw [hf] at HF
      have hM0 : prepR ws L n = if z.p = true then (([], 7), ws, L) else if z.l.length = 0 then (([], 0), othersW ws n, dropL L n) else ((z.l, 0), turnW ws { z with p := true }, L) := by unfold prepR; rw [if_neg p1, hf]
      have hupd := fun (w' : World) (hs) (hg) (hb) => h.upd (w' := w') hzm (z' := { z with p := true }) rfl hs hg hb
      obtain ⟨zq, zn, zA, zc, zl, zp⟩ := z
      dsimp only at hz hM0 hlen hupd
      obtain ⟨nl, hnl⟩ : ∃ nl, nl = zl.length := ⟨_, rfl⟩
      rw [← hnl] at hz hM0 hlen hupd
      have z1 : w.cell? ⟨zq, 1, none⟩ = some (.slice zA nl zc) := hz.2.1.cell 1
      have z2 : w.cell? ⟨zq, 2, none⟩ = some (.bool zp) := hz.2.1.cell 2
      rcases zp with _ | _
      · rw [if_neg (by simp)] at hM0
        by_cases h0 : nl = 0
        · rw [if_pos h0] at hM0
          have HM := Lib.hid hM0
          subst h0
          clear h hM0 hf hz hzm hupd hnl
          go_enter Try.func31, Try.ntmps31
          go_wp2_with fail
          refine HF.out.mono ?_
          rintro e w1 ⟨rfl, rfl⟩
          dsimp only [Option.map_some]
          go_wp2_with fail
          refine HD.out.mono ?_
          rintro e w2 ⟨rfl, hr, hg⟩
          have HX := Lib.hid (HN.out.2 HM.out w2 hr hg)
          clear hr hg z1 z2
          go_wp2
          go_returns
          exact HX.out
        · rw [if_neg h0] at hM0
          have hne : ((nl : Int) == 0) = false := by simp; omega
          have f2 := hz.2.1.frozen 2
          have ks := hz.2.1.set_ 2 (.bool true)
          have gs := lgrown_set w ⟨zq, 2, none⟩ (.bool true)
          obtain ⟨w1, hw1⟩ : ∃ w1, w1 = w.setCell ⟨zq, 2, none⟩ (.bool true) := ⟨_, rfl⟩
          have hk1 : Blk w1 zq 86 #[.int .i64 zn, .slice zA nl zc, .bool true] := by rw [hw1]; exact ks
          have gs1 : w.grownBy w1 (some zq) := by rw [hw1]; exact gs
          have ho1 : OwnC w1 B zA zc zl := own_kept hz.2.2 hz.2.1 (by decide) gs1
          have hR1 := hupd w1 gs1.size (fun k hk hne _ => gs1.block k hk (fun e => hne (by injection e))) hk1 ho1 (fun r e => .inl e) (by omega)
          have hcs := ho1.at_
          obtain ⟨A2, c2, w2, hrun, own2, g2, hat2⟩ := ch_app (OwnC.nil w1 w1.heap.size) zA zc zl 0 nl rfl hnl (fun b o e i hi => by
            obtain ⟨b', o', e', _, hc⟩ := hcs (by omega)
            rw [e] at e'
            cases e'
            exact hc i hi) (fun hp => by obtain ⟨b', o', e', _⟩ := hcs hp; exact ⟨b', o', e'⟩) (Nat.le_refl _) (by simp; omega) (Nat.le_refl _)
          rw [Nat.zero_add] at hrun
          rw [List.nil_append] at own2
          have b2 : Below w1.heap.size w1 w2 := ⟨g2.os, g2.tape, g2.output, g2.size, fun k hk => g2.block k hk (by simp [blk])⟩
          have hrg : RG B w w1 x (fun _ => False) := ⟨gs1.os, gs1.tape, gs1.output, gs1.size, fun k hb hk hx => gs1.block k hk (fun e2 => by injection e2 with e2; have := hz.1; omega), fun k hk hx => by
            by_cases e : k = zq
            · subst e; exact .inr (.inr (.inl ⟨_, _, hz.2.1⟩))
            · exact .inl (gs1.block k hk (fun e2 => e (by injection e2)))⟩
          have HX : Hid (RPrepO w B x P (prepR ws L n) (.returned (.tuple #[.slice A2 nl c2, .int .i64 0])) w2) := Lib.hid ⟨A2, nl, c2, by rw [hM0], by rw [hM0]; exact hnl, by rw [hM0]; exact own_less own2 gs1.size, by rw [hM0]; exact hR1.below b2, hrg.bel b2⟩
          have d1 : w1.cell? ⟨zq, 1, none⟩ = some (.slice zA nl zc) := hk1.cell 1
          have HW1 := Lib.hid hw1
          rw [hw1] at hrun d1
          clear h hM0 hf hz hzm hupd hnl ks gs hk1 gs1 ho1 hR1 hcs own2 g2 hat2 b2 hrg hw1
          go_enter Try.func31, Try.ntmps31
          go_wp2_with fail
          refine HF.out.mono ?_
          rintro e w3 ⟨rfl, rfl⟩
          dsimp only [Option.map_some]
          go_wp2_with (at_builtin; refine wpList_append_run rfl (.tmp 37) (.tmp 41) 34 rfl _ _ _ w2 rfl rfl hrun ?_)
          go_returns
          exact HX.out
      · rw [if_pos rfl] at hM0
        have HX := Lib.hid (HN.out.1 7 hM0)
        clear h hM0 hf hz hzm hupd hnl
        go_enter Try.func31, Try.ntmps31
        go_wp2_with fail
        refine HF.out.mono ?_
        rintro e w1 ⟨rfl, rfl⟩
        dsimp only [Option.map_some]
        go_wp2
        go_returns
        exact HX.out
  · have p1 : n < 1 := of_decide_eq_true a1
    have HX := Lib.hid (HN.out.1 1 (by unfold prepR; rw [if_pos p1]))
    clear h
    go_enter Try.func31, Try.ntmps31
    go_wp2
    go_returns
    exact HX.out
end Go.Proofs.Ytihchfjdgeehoaa

namespace Go.Proofs.Ytihchfjdgeehoaa
open Go.RowKit Go.Maps Go.Joins Go.Deep
set_option linter.unusedVariables false
set_option linter.unusedSimpArgs false

theorem Try.infoPr : (Try.prog.info? 88).map (fun i => (i.zero, i.size, i.bytes)) = some (some (.agg #[.int .i64 0, .int .u64 0]), 2, 16) := by kernel_rfl
theorem pr_more {u : World} {B c : Nat} {A : Option Addr} {P : List (Int × Nat)} (h : OwnPr u B A c P) (n : Nat) (hn : n = P.length) (hl : n ≤ 1000) (k : Int) (v : Nat) (q : Nat) (hBu : B ≤ u.heap.size)
    (hq : Blk u q 88 #[.int .i64 k, .int .u64 (v : Nat)]) :
    ∃ A2 c2 u', (Builtin.append_ #[26, 26] 26 #[.slice A n c, .slice (some ⟨q, 0, none⟩) 1 1]).run Try.prog u = .ok (.slice A2 (n + 1) c2) u' ∧
      OwnPr u' B A2 c2 (P ++ [(k, v)]) ∧ u.grownBy u' (blk A) := by
  subst hn
  obtain ⟨i0, hi, hz0, hz1, hz2⟩ := info_parts Try.infoPr
  have hlen : ∀ P : List (Int × Nat), (prV P).length = P.length * 2 := fun P => by
    induction P with
    | nil => rfl
    | cons o P ih => unfold prV at ih ⊢; rw [List.flatMap_cons, List.length_append, ih]; simp; omega
  obtain ⟨v', w', hrun, hown, hgr, _, _⟩ := run_append_own_at (P := Try.prog) u B 26 26 88 i0 _ 2 16 Try.underlying26 hi hz0 hz1 hz2 rfl (by omega) (.slice A P.length c) P.length (prV P) h ⟨q, 0, none⟩ 1 1 [.int .i64 k, .int .u64 (v : Nat)] rfl
    (fun j v hv => by
      have := hq.cell j
      have e : (⟨q, 0, none⟩ : Addr).add j = ⟨q, j, none⟩ := by
        simp [Addr.add]
        try omega
      rw [e, this]
      rw [List.getElem?_toArray]; exact hv)
    (fun v hv => by simp at hv; rcases hv with rfl | rfl <;> rfl) (by simp only [maxLen]; omega) (by omega) hBu
  obtain ⟨g2, c2, rfl⟩ := Joins.ownsRow_form hown (by omega)
  rw [ownBlock_slice] at hgr
  refine ⟨some ⟨g2, 0, none⟩, c2, w', hrun, ?_, hgr⟩
  unfold OwnPr
  rw [List.length_append, show prV (P ++ [(k, v)]) = prV P ++ [.int .i64 k, .int .u64 (v : Nat)] by unfold prV; simp]
  exact hown
/-- Other pairs. -/
theorem RAt.rpr {w : World} {B B' x : Nat} {P P' : List (Int × Nat)} {ws : List WI} {L : List LRow} (h : RAt w B x P ws L) {A : Option Addr} {c n : Nat} (hn : n = P'.length) (ho : OwnPr w B' A c P') (hB : B ≤ B') (hl : P'.length ≤ 100) : RAt (w.setCell ⟨x, 0, none⟩ (.slice A n c)) B x P' ws L := by
  obtain ⟨AP, nP, cP, AW, nW, cW, AL, nL, cL, hk, hnP, hnW, hnL, hpr, hpt, hll⟩ := h.ex
  have hgs := lgrown_set w ⟨x, 0, none⟩ (.slice A n c)
  have ks := hk.set_ 0 (.slice A n c)
  exact ⟨⟨A, n, c, AW, nW, cW, AL, nL, cL, ks, hn, hnW, hnL, own_kept (own_less ho hB) hk (by decide) hgs, own_kept hpt hk (by decide) hgs, hll.kept hgs fun r e => by cases e; exact .inr ⟨_, _, by decide, hk⟩⟩, wk_kept h.wk hk hgs, h.ds, hl, h.sm.2⟩
def othersP (P : List (Int × Nat)) (y : Int) : List (Int × Nat) := P.filter fun x => decide (x.1 ≠ y)
def setPr (P : List (Int × Nat)) (c : Ch) : List (Int × Nat) := if c.k = 1 then othersP P c.y ++ [(c.y, c.v)] else othersP P c.y
theorem othersP_snoc {P : List (Int × Nat)} {n : Int} {j : Nat} (hj : j < P.length) : othersP (P.take (j + 1)) n = if (P[j]'hj).1 = n then othersP (P.take j) n else othersP (P.take j) n ++ [P[j]'hj] := by
  unfold othersP
  rw [List.take_add_one, List.getElem?_eq_getElem hj, List.filter_append]
  split
  · rename_i h; simp [h]
  · rename_i h; simp [h]
set_option maxRecDepth 100000 in
set_option maxHeartbeats 4000000 in
theorem rset_any (B x : Nat) (P : List (Int × Nat)) (ws : List WI) (L : List LRow) (ch : Ch) (w : World) (h : RAt w B x P ws L) (hB : B ≤ w.heap.size) (hP : P.length < 100) :
    Calls Try.prog 49 #[.pointer (some ⟨x, 0, none⟩), .agg #[.int .i64 ch.k, .int .i64 ch.y, .int .u64 (ch.v : Nat)]] w fun e w' => e = .returned (.tuple #[]) ∧ RAt w' B x (setPr P ch) ws L ∧ w.grownBy w' (some x) := by
  obtain ⟨ck, cy, cv⟩ := ch
  dsimp only
  obtain ⟨w1, hw1⟩ : ∃ w1, w1 = w.alloc (.cells #[.int .i64 ck, .int .i64 cy, .int .u64 (cv : Nat)] 47) := ⟨_, rfl⟩
  have b1 : Below w.heap.size w w1 := by rw [hw1]; exact ba _ _
  have k1 : Blk w1 w.heap.size 47 #[.int .i64 ck, .int .i64 cy, .int .u64 (cv : Nat)] := by rw [hw1]; exact Blk.new _ _ _
  obtain ⟨gc, hgc⟩ : ∃ gc, gc = w.heap.size := ⟨_, rfl⟩
  rw [← hgc] at k1
  have hR1 := h.below b1
  obtain ⟨AP, nP, cP, AW, nW, cW, AL, nL, cL, hk, hnP, _, _, hpr, _, _⟩ := hR1.ex
  have H1 := Lib.hid (And.intro hR1 (And.intro b1 (And.intro (Nat.le_trans hB b1.size) (And.intro k1 (And.intro hk hpr)))))
  have HN := Lib.hid hnP
  have hn1 : nP < 100 := by rw [hnP]; exact hP
  have HW1 := Lib.hid hw1
  have Hgc := Lib.hid hgc
  clear h hR1 hk hpr hnP b1 k1 hP hB hw1
  go_enter Try.func49, Try.ntmps49
  go_wp2_with fail
  rw [← HW1.out, ← hgc]
  clear hgc
  go_loopw [4, 5] (fun v i wr => ∃ (j n2 c2 : Nat) (A2 : Option Addr), v = .slice A2 n2 c2 ∧ j ≤ nP ∧ n2 ≤ j ∧ i = .int .i64 j ∧ Hid (n2 = (othersP (P.take j) cy).length ∧ OwnPr wr w1.heap.size A2 c2 (othersP (P.take j) cy) ∧ Below w1.heap.size w1 wr)) (fun _ i _ => nP - (intOf i).toNat)
  case atStart => exact ⟨0, 0, 0, none, rfl, Nat.zero_le _, Nat.le_refl _, rfl, Lib.hid ⟨rfl, World.ownsRow_nil _ _ _ _, Below.refl _ _⟩⟩
  case round =>
    obtain ⟨j, n2, c2, A2, rfl, hj, hn2j, rfl, HR⟩ := hrel
    by_cases hjn : j < nP
    · have hjI : (j : Int) < (nP : Int) := by omega
      have hjL : j < P.length := by rw [← HN.out]; exact hjn
      obtain ⟨hn2, hown, hb⟩ := HR.out
      have hkr := H1.out.2.2.2.2.1.below hb H1.out.2.2.2.2.1.lt
      have hkc := H1.out.2.2.2.1.below hb H1.out.2.2.2.1.lt
      have c0 : wr.cell? ⟨x, 0, none⟩ = some (.slice AP nP cP) := hkr.cell 0
      have hpt := H1.out.2.2.2.2.2
      unfold OwnPr at hpt
      obtain ⟨b, rfl, _, hbl, _, hc⟩ := row_cells hpt (by omega)
      have q0 := (hb.cell (p := ⟨b, j * 2, none⟩) hbl).trans (hc (j * 2) _ (prV_at P j hjL).1)
      have q1 := (hb.cell (p := ⟨b, j * 2 + 1, none⟩) hbl).trans (hc (j * 2 + 1) _ (prV_at P j hjL).2)
      have hsn := othersP_snoc (n := cy) hjL
      generalize P[j]'hjL = y at q0 q1 hsn
      obtain ⟨yk, yv⟩ := y
      dsimp only at q0 q1 hsn
      have d0 := fun m : Nat => cell_drew c0 m
      have d1 := fun m : Nat => cell_drew q0 m
      have d2 := fun m : Nat => (show (wr.drewN m).cell? ⟨gc, 1, none⟩ = some (.int .i64 cy) from hkc.cell 1)
      have hdr : ∀ m : Nat, Below wr.heap.size wr (wr.drewN m) := fun m => ⟨rfl, rfl, rfl, Nat.le_refl _, fun _ _ => rfl⟩
      by_cases h1 : yk = cy
      · rw [if_pos h1] at hsn
        have HX : Hid (∀ m : Nat, n2 = (othersP (P.take (j + 1)) cy).length ∧ OwnPr (wr.drewN m) w1.heap.size A2 c2 (othersP (P.take (j + 1)) cy) ∧ Below w1.heap.size w1 (wr.drewN m)) := Lib.hid (fun m => by rw [hsn]; exact ⟨hn2, own_same hown (fun r _ _ _ => rfl), bt hb (hdr m)⟩)
        have e1 : (yk != cy) = false := by simp [h1]
        clear hpt hc hkr hkc hown hb hbl hsn HR hjL hn2 hdr q0 q1
        go_wp2_with fail
        go_quiet (fail)
        have HX2 := Lib.hid (HX.out nq)
        clear d0 d1 d2 HX c0
        go_wp2
        go_roundw
        case rel => exact ⟨j + 1, n2, c2, A2, rfl, by omega, by omega, by go_num, HX2⟩
        case measure => simp [intOf]; omega
      · rw [if_neg h1] at hsn
        have e1 : (yk != cy) = true := by simp [h1]
        have HY := Lib.hid (And.intro hn2 (And.intro hown hb))
        have HS := Lib.hid hsn
        clear hpt hc hkr hkc hown hb hbl hsn HR hjL hn2 hdr q0
        go_wp2_with fail
        go_quiet (fail)
        obtain ⟨wd, hwd⟩ : ∃ wd, wd = wr.drewN nq := ⟨_, rfl⟩
        obtain ⟨hn2, hown, hb⟩ : n2 = (othersP (P.take j) cy).length ∧ OwnPr wd w1.heap.size A2 c2 (othersP (P.take j) cy) ∧ Below w1.heap.size w1 wd := by rw [hwd]; exact ⟨HY.out.1, own_same HY.out.2.1 (fun r _ _ _ => rfl), bt HY.out.2.2 ⟨rfl, rfl, rfl, Nat.le_refl _, fun _ _ => rfl⟩⟩
        have g0 : wd.cell? ⟨x, 0, none⟩ = some (.slice (some ⟨b, 0, none⟩) nP cP) := by rw [hwd]; exact d0 nq
        have g1 : wd.cell? ⟨b, j * 2, none⟩ = some (.int .i64 yk) := by rw [hwd]; exact d1 nq
        have g2 : wd.cell? ⟨b, j * 2 + 1, none⟩ = some (.int .u64 (yv : Nat)) := by rw [hwd]; exact q1
        rw [← hwd]
        clear d0 d1 d2 q1 hwd c0
        have hb3 := ba wd (.cells #[.int .i64 yk, .int .u64 (yv : Nat)] 88)
        have own3 : OwnPr (wd.alloc (.cells #[.int .i64 yk, .int .u64 (yv : Nat)] 88)) w1.heap.size A2 c2 (othersP (P.take j) cy) := World.ownsRow.kept hown (lbelow_grown hb3 none) (by rcases (Value.slice A2 (othersP (P.take j) cy).length c2).ownBlock with _ | k; exact .inl rfl; exact .inr (fun e => by cases e))
        obtain ⟨A5, c5, w5, hrun, hE5, hg5⟩ := pr_more own3 n2 hn2 (by omega) yk yv wd.heap.size (by have := hb.size; have := hb3.size; omega) (Blk.new wd _ _)
        have hB5 := (bt hb hb3).grown hg5 (by have := hb.size; have := hb3.size; omega) (fun r e => (World.ownsRow.lt own3 r (by rw [ownBlock_slice]; exact e)).1)
        have HX : Hid (n2 + 1 = (othersP (P.take (j + 1)) cy).length ∧ OwnPr w5 w1.heap.size A5 c5 (othersP (P.take (j + 1)) cy) ∧ Below w1.heap.size w1 w5) := Lib.hid (by rw [HS.out, List.length_append, ← hn2]; exact ⟨rfl, hE5, hB5⟩)
        clear hown hb hn2 hb3 own3 hE5 hg5 hB5
        go_wp2_with (at_builtin; refine wpList_append_run rfl (.tmp 26) (.tmp 34) 26 rfl _ _ _ w5 rfl rfl hrun ?_)
        go_roundw
        case rel => exact ⟨j + 1, n2 + 1, c5, A5, rfl, by omega, by omega, by go_num, HX⟩
        case measure => simp [intOf]; omega
    · have hjI : ¬ (j : Int) < (nP : Int) := by omega
      have hjj : P.take j = P := List.take_of_length_le (by have := HN.out; omega)
      obtain ⟨hn2, hown, hb⟩ := HR.out
      rw [hjj] at hn2 hown
      have hkr := H1.out.2.2.2.2.1.below hb H1.out.2.2.2.2.1.lt
      have hkc := H1.out.2.2.2.1.below hb H1.out.2.2.2.1.lt
      have c0 : wr.cell? ⟨x, 0, none⟩ = some (.slice AP nP cP) := hkr.cell 0
      have f0 := hkr.frozen 0
      have d0 : wr.cell? ⟨gc, 0, none⟩ = some (.int .i64 ck) := hkc.cell 0
      have d1 : wr.cell? ⟨gc, 1, none⟩ = some (.int .i64 cy) := hkc.cell 1
      have d2 : wr.cell? ⟨gc, 2, none⟩ = some (.int .u64 (cv : Nat)) := hkc.cell 2
      have hol : (othersP P cy).length ≤ P.length := List.length_filter_le _ _
      have hbw := bt H1.out.2.1 hb
      by_cases hk1 : ck = 1
      · subst hk1
        have hset : setPr P ⟨1, cy, cv⟩ = othersP P cy ++ [(cy, cv)] := if_pos rfl
        have hb3 := ba wr (.cells #[.int .i64 cy, .int .u64 (cv : Nat)] 88)
        have own3 : OwnPr (wr.alloc (.cells #[.int .i64 cy, .int .u64 (cv : Nat)] 88)) w1.heap.size A2 c2 (othersP P cy) := World.ownsRow.kept hown (lbelow_grown hb3 none) (by rcases (Value.slice A2 (othersP P cy).length c2).ownBlock with _ | k; exact .inl rfl; exact .inr (fun e => by cases e))
        obtain ⟨A5, c5, w5, hrun, hE5, hg5⟩ := pr_more own3 n2 hn2 (by omega) cy cv wr.heap.size (by have := hb.size; have := hb3.size; omega) (Blk.new wr _ _)
        have hB5 := (bt hb hb3).grown hg5 (by have := hb.size; have := hb3.size; omega) (fun r e => (World.ownsRow.lt own3 r (by rw [ownBlock_slice]; exact e)).1)
        have hkr5 := H1.out.2.2.2.2.1.below hB5 H1.out.2.2.2.2.1.lt
        have g0 := hkr5.frozen 0
        have g1 : w5.cell? ⟨x, 0, none⟩ = some (.slice AP nP cP) := hkr5.cell 0
        have HX : Hid (RAt (w5.setCell ⟨x, 0, none⟩ (.slice A5 (n2 + 1) c5)) B x (setPr P ⟨1, cy, cv⟩) ws L ∧ w.grownBy (w5.setCell ⟨x, 0, none⟩ (.slice A5 (n2 + 1) c5)) (some x)) := Lib.hid (by
          rw [hset]
          exact ⟨(H1.out.1.below hB5).rpr (by rw [List.length_append, ← hn2]; rfl) hE5 H1.out.2.2.1 (by rw [List.length_append]; have := HN.out; simp; omega), (lbelow_grown (bt H1.out.2.1 hB5) (some x)).trans (lgrown_set w5 ⟨x, 0, none⟩ _)⟩)
        clear hn2 hown hb hkr hkc HR hjj hol hbw hset hb3 own3 hE5 hg5 hB5 hkr5
        go_wp2_with (at_builtin; refine wpList_append_run rfl (.tmp 39) (.tmp 45) 26 rfl _ _ _ w5 rfl rfl hrun ?_)
        go_end0
        exact ⟨rfl, HX.out⟩
      · have e1 : (ck == 1) = false := by simp [hk1]
        have HX : Hid (RAt (wr.setCell ⟨x, 0, none⟩ (.slice A2 n2 c2)) B x (setPr P ⟨ck, cy, cv⟩) ws L ∧ w.grownBy (wr.setCell ⟨x, 0, none⟩ (.slice A2 n2 c2)) (some x)) := Lib.hid (by
          rw [show setPr P ⟨ck, cy, cv⟩ = othersP P cy from if_neg hk1]
          exact ⟨(H1.out.1.below hb).rpr hn2 hown H1.out.2.2.1 (by have := HN.out; omega), (lbelow_grown hbw (some x)).trans (lgrown_set wr ⟨x, 0, none⟩ _)⟩)
        clear hn2 hown hb hkr hkc HR hjj hol hbw
        go_wp2
        go_end0
        exact ⟨rfl, HX.out⟩
end Go.Proofs.Ytihchfjdgeehoaa

namespace Go.Proofs.Ytihchfjdgeehoaa
open Go.RowKit Go.Maps
set_option linter.unusedVariables false
set_option linter.unusedSimpArgs false

def rowL (n : Int) (l : List Ch) : List LRow := l.map fun x => (x.y, n, true)
theorem rowL_app (n : Int) (l r : List Ch) : rowL n (l ++ r) = rowL n l ++ rowL n r := List.map_append
theorem take_row {n y : Int} {l : List Ch} (hd : ∀ z ∈ l, z.y ≠ y) (hl : l.length < 64) : takeL (rowL n l) n y true = (0, rowL n l ++ [(y, n, true)]) := by
  have hc : clashL (rowL n l) y n true = false := by
    unfold clashL
    rw [List.any_eq_false]
    intro x hx
    obtain ⟨z, hz, rfl⟩ := List.mem_map.1 hx
    simp
  have hh : heldL (rowL n l) y n = false := by
    unfold heldL
    rw [List.any_eq_false]
    intro x hx
    obtain ⟨z, hz, rfl⟩ := List.mem_map.1 hx
    unfold atB
    have := hd z hz
    simp [this]
  unfold takeL
  rw [hc, if_neg (by simp), if_neg (by unfold rowL; rw [List.length_map]; omega)]
  unfold putL
  rw [hh, if_neg (by simp), Bool.or_true]
theorem take_all_row {n : Int} : ∀ (l l0 : List Ch), (∀ z ∈ l0, ∀ x ∈ l, z.y ≠ x.y) → l.Pairwise (fun a b => a.y ≠ b.y) → l0.length + l.length ≤ 64 → takeAll (rowL n l0) n l = (0, rowL n (l0 ++ l))
  | [], l0, _, _, _ => by rw [List.append_nil]; rfl
  | x :: l, l0, h1, h2, h3 => by
    have hp := List.pairwise_cons.1 h2
    have ht := take_row (n := n) (y := x.y) (l := l0) (fun z hz => h1 z hz x (List.mem_cons_self ..)) (by simp only [List.length_cons] at h3; omega)
    have e : rowL n l0 ++ [(x.y, n, true)] = rowL n (l0 ++ [x]) := by rw [rowL_app]; rfl
    rw [e] at ht
    unfold takeAll
    rw [ht, if_pos rfl]
    dsimp only
    rw [take_all_row l (l0 ++ [x]) ?_ hp.2 (by simp only [List.length_cons, List.length_append] at h3 ⊢; simp; omega), List.append_assoc]
    · rfl
    · intro z hz y hy
      rcases List.mem_append.1 hz with hz | hz
      · exact h1 z hz y (List.mem_cons_of_mem _ hy)
      · obtain rfl := List.mem_singleton.1 hz
        exact hp.1 y hy
theorem drop_row (n : Int) (l : List Ch) : dropL (rowL n l) n = [] := by
  unfold dropL
  rw [List.filter_eq_nil_iff]
  intro x hx
  obtain ⟨z, hz, rfl⟩ := List.mem_map.1 hx
  simp
theorem are_of_right : ∀ (l : List Ch) (s : Nat → Bool), RightL l → (∀ x ∈ l, s x.y.toNat = false) → areB s l = true
  | [], s, _, _ => rfl
  | x :: l, s, h, hs => by
    have hp := List.pairwise_cons.1 h.2
    have hx := h.1 x (List.mem_cons_self ..)
    unfold areB
    rw [hx.1, hx.2, hs x (List.mem_cons_self ..), are_of_right l _ ⟨fun z hz => h.1 z (List.mem_cons_of_mem _ hz), hp.2⟩ (fun z hz => ?_)]
    · rfl
    · unfold updS
      have h1 := key_bd (h.1 z (List.mem_cons_of_mem _ hz)).2
      have h2 := key_bd hx.2
      have h3 := hp.1 z hz
      rw [if_neg (by omega)]
      exact hs z (List.mem_cons_of_mem _ hz)
theorem RightL.len {l : List Ch} (h : RightL l) : l.length ≤ 16 := by
  have hn : (l.map fun x => x.y.toNat).Nodup := by
    unfold List.Nodup
    rw [List.pairwise_map]
    exact (List.pairwise_iff_getElem.2 fun i j hi hj hij => by
      have h1 := key_bd (h.1 _ (List.getElem_mem hi)).2
      have h2 := key_bd (h.1 _ (List.getElem_mem hj)).2
      have h3 := List.pairwise_iff_getElem.1 h.2 i j hi hj hij
      omega)
  have := nodup_le _ (List.range 16) hn (fun x hx => by
    obtain ⟨z, hz, rfl⟩ := List.mem_map.1 hx
    have h1 := key_bd (h.1 z hz).2
    exact List.mem_range.2 (by omega))
  simpa using this
/-! ### a store that is built anew -/
def zeroV : Nat → Nat × Bool := fun _ => (0, false)
def Tl (l : List Ch) : KS := ⟨anyB, zeroV, fun j => if j = 1 then (if l.isEmpty then none else some (l, false)) else none, rowL 1 l⟩
def T0 (V : Nat → Nat × Bool) : KS := ⟨anyB, V, fun _ => none, []⟩
theorem Tl_cur (l : List Ch) : curW (Tl l) 1 = (l, false) := by
  unfold curW Tl
  rcases l with _ | ⟨x, l⟩ <;> rfl
theorem with_new {l : List Ch} {x : Ch} (hd : ∀ z ∈ l, z.y ≠ x.y) : withL l x = l ++ [x] := by
  unfold withL
  rw [if_neg]
  intro hlt
  have := List.findIdx_getElem (p := fun z : Ch => decide (z.y = x.y)) (xs := l) (w := hlt)
  exact hd _ (List.getElem_mem hlt) (by unfold posN; simpa using this)
theorem change_Tl {l : List Ch} {x : Ch} (hk : keyB x.y = true) (hd : ∀ z ∈ l, z.y ≠ x.y) (hl : l.length < 64) : changeM (Tl l) 1 x = (0, Tl (l ++ [x])) := by
  have ho : openM (Tl l) 1 x.y true = (0, { Tl l with L := rowL 1 (l ++ [x]) }) := by
    unfold openM
    rw [if_neg (by rw [hk]; simp), Tl_cur, if_neg (by simp)]
    show ((takeL (rowL 1 l) 1 x.y true).1, { Tl l with L := (takeL (rowL 1 l) 1 x.y true).2 }) = _
    rw [take_row hd hl, rowL_app]
    rfl
  unfold changeM
  rw [ho, if_pos rfl, Tl_cur, with_new hd]
  have hW : updW (Tl l).W 1 (some (l ++ [x], false)) = (Tl (l ++ [x])).W := by
    funext j
    unfold updW Tl
    dsimp only
    split
    · rw [if_neg (by simp)]
    · rfl
  unfold Tl at hW ⊢
  dsimp only at hW ⊢
  rw [hW]
theorem commit_Tl (l : List Ch) : commitM (Tl l) 1 = (0, T0 (l.foldl setV zeroV)) := by
  unfold commitM
  rw [if_neg (by omega), Tl_cur]
  have hW : updW (Tl l).W 1 none = fun _ => none := by
    funext j
    unfold updW Tl
    dsimp only
    split
    · rfl
    · rfl
  unfold dropM T0
  dsimp only
  rw [hW]
  show (0, KS.mk anyB (l.foldl setV zeroV) (fun _ => none) (dropL (rowL 1 l) 1)) = _
  rw [drop_row]
def listV (V : Nat → Nat × Bool) (j : Nat) : List Ch := ((List.range j).filter fun k => (V k).2).map fun (k : Nat) => ⟨1, (k : Int), (V k).1⟩
theorem listV_yes {V : Nat → Nat × Bool} {j : Nat} (h : (V j).2 = true) : listV V (j + 1) = listV V j ++ [⟨1, (j : Int), (V j).1⟩] := by
  unfold listV
  rw [List.range_succ, List.filter_append, List.filter_cons_of_pos (by simpa using h), List.map_append]
  rfl
theorem listV_no {V : Nat → Nat × Bool} {j : Nat} (h : (V j).2 = false) : listV V (j + 1) = listV V j := by
  unfold listV
  rw [List.range_succ, List.filter_append, List.filter_cons_of_neg (by simp [h])]
  simp
theorem listV_mem {V : Nat → Nat × Bool} {j : Nat} {z : Ch} (h : z ∈ listV V j) : z.y < (j : Int) := by
  unfold listV at h
  obtain ⟨k, hk, rfl⟩ := List.mem_map.1 h
  have := List.mem_range.1 (List.mem_filter.1 hk).1
  show (k : Int) < _
  omega
theorem listV_len (V : Nat → Nat × Bool) (j : Nat) : (listV V j).length ≤ j := by
  unfold listV
  rw [List.length_map]
  exact Nat.le_trans (List.length_filter_le _ _) (by rw [List.length_range]; exact Nat.le_refl _)
theorem change_listV {V : Nat → Nat × Bool} {j : Nat} (hj : j < 16) (h : (V j).2 = true) : changeM (Tl (listV V j)) 1 ⟨1, (j : Int), (V j).1⟩ = (0, Tl (listV V (j + 1))) := by
  rw [listV_yes h]
  refine change_Tl ?_ (fun z hz => ?_) ?_
  · unfold keyB; simp; omega
  · have := listV_mem hz
    show z.y ≠ (j : Int)
    omega
  · have := listV_len V j; omega
theorem fold_listV (V : Nat → Nat × Bool) : ∀ (j k : Nat), ((listV V j).foldl setV zeroV) k = if k < j ∧ (V k).2 = true then ((V k).1, true) else (0, false)
  | 0, k => by rw [if_neg (by omega)]; rfl
  | j + 1, k => by
    rcases h : (V j).2 with _ | _
    · rw [listV_no h, fold_listV V j k]
      by_cases hk : k < j ∧ (V k).2 = true
      · rw [if_pos hk, if_pos ⟨by omega, hk.2⟩]
      · rw [if_neg hk, if_neg]
        rintro ⟨h1, h2⟩
        have : k = j := Decidable.byContradiction fun e => hk ⟨by omega, h2⟩
        rw [this, h] at h2
        cases h2
    · rw [listV_yes h, List.foldl_append, List.foldl_cons, List.foldl_nil]
      show (if k = ((j : Int)).toNat then ((V j).1, (1 : Int) == 1) else ((listV V j).foldl setV zeroV) k) = _
      rw [Int.toNat_natCast]
      by_cases e : k = j
      · subst e
        rw [if_pos rfl, if_pos ⟨by omega, h⟩]
        rfl
      · rw [if_neg e, fold_listV V j k]
        by_cases hk : k < j ∧ (V k).2 = true
        · rw [if_pos hk, if_pos ⟨by omega, hk.2⟩]
        · rw [if_neg hk, if_neg]
          rintro ⟨h1, h2⟩
          exact hk ⟨by omega, h2⟩
/-! ### a value that is not there is nought -/
def InvZ (V : Nat → Nat × Bool) : Prop := ∀ k, (V k).2 = false → (V k).1 = 0
theorem InvZ.fold : ∀ (l : List Ch) (V : Nat → Nat × Bool), (∀ x ∈ l, kindB x = true) → InvZ V → InvZ (l.foldl setV V)
  | [], V, _, h => h
  | x :: l, V, hk, h => by
    refine InvZ.fold l _ (fun z hz => hk z (List.mem_cons_of_mem _ hz)) fun k hf => ?_
    have hx := hk x (List.mem_cons_self ..)
    unfold setV at hf ⊢
    split at hf
    · rename_i e
      rw [if_pos e]
      dsimp only at hf ⊢
      unfold kindB at hx
      rw [hf] at hx
      simp at hx
      exact hx.2
    · rename_i e
      rw [if_neg e]
      exact h k hf
theorem InvZ.step {S : KS} (h : InvZ S.V) (hR : InvR S) (o : OpV) : InvZ (stepK S o).V := by
  unfold stepK
  split
  · show InvZ (callM S o).2.V
    have hch : ∀ x : Ch, (changeM S o.n x).2.V = S.V := fun x => by
      unfold changeM; split <;> exact openM_V S o.n x.y true
    unfold callM
    split
    · show InvZ (getM S o.n o.y).2.V
      unfold getM
      split
      · split <;> (rw [show (openM S o.n o.y false).2.V = S.V from openM_V _ _ _ _]; exact h)
      · rw [show (openM S o.n o.y false).2.V = S.V from openM_V _ _ _ _]; exact h
    · split
      · show InvZ (changeM S o.n _).2.V
        rw [hch]; exact h
      · split
        · show InvZ (changeM S o.n _).2.V
          rw [hch]; exact h
        · split
          · show InvZ (prepM S o.n).2.V
            unfold prepM
            split
            · exact h
            · split
              · exact h
              · split <;> exact h
          · split
            · show InvZ (commitM S o.n).2.V
              unfold commitM
              split
              · exact h
              · exact InvZ.fold _ _ (fun x hx => ((hR.cur o.n).1 x hx).1) h
            · split
              · show InvZ (backoutM S o.n).2.V
                rw [backout_V]; exact h
              · split
                · show InvZ (restoreM S o.n o.l).2.V
                  unfold restoreM
                  split
                  · exact h
                  · split
                    · exact h
                    · split
                      · exact h
                      · split <;> exact h
                · exact h
  · exact h
theorem InvZ.play (ops : List OpV) : InvZ (playK ops).V := by
  unfold playK
  generalize ops.take 60 = l
  have : ∀ (l : List OpV) (S : KS), InvR S → InvZ S.V → InvZ (l.foldl stepK S).V := by
    intro l
    induction l with
    | nil => intro S _ h; exact h
    | cons o l ih => intro S hR h; exact ih _ (hR.step o) (h.step hR o)
  exact this l _ (fun n l p e => by cases e) (fun k _ => rfl)
theorem same_listV {V : Nat → Nat × Bool} (h : InvZ V) : ∀ k, k < 16 → V k = ((listV V 16).foldl setV zeroV) k := by
  intro k hk
  rw [fold_listV]
  rcases hv : (V k).2 with _ | _
  · rw [if_neg (by simp)]
    exact Prod.ext (h k hv) hv
  · rw [if_pos ⟨hk, rfl⟩]
    exact Prod.ext rfl hv
theorem fold_same : ∀ (l : List Ch) (V V' : Nat → Nat × Bool), (∀ k, k < 16 → V k = V' k) → ∀ k, k < 16 → (l.foldl setV V) k = (l.foldl setV V') k
  | [], _, _, h => h
  | x :: l, V, V', h => fold_same l _ _ fun k hk => by
    unfold setV
    split
    · rfl
    · exact h k hk
/-! ### what more a work does -/
def MoreI (V : Nat → Nat × Bool) (n : Int) (S : KS) : Prop := S.V = V ∧ S.B = anyB ∧ InvR S ∧ (curW S n).2 = false
theorem MoreI.step {V : Nat → Nat × Bool} {n : Int} {S : KS} (h : MoreI V n S) (o : OpV) (hn : o.n = n) (h0 : 0 ≤ o.k) (h2 : o.k ≤ 2) : MoreI V n { (callM S o).2 with B := anyB } := by
  obtain ⟨a, b, c, d⟩ := h
  refine ⟨(callM_V S o h0 (by omega)).trans a, rfl, ?_, ?_⟩
  · refine InvR.same (S := (callM S o).2) ?_ rfl
    unfold callM
    split
    · show InvR (getM S o.n o.y).2
      unfold getM
      split
      · split <;> exact c.same (openM_W _ _ _ _).1
      · exact c.same (openM_W _ _ _ _).1
    · split
      · exact c.change _ _ rfl
      · rw [if_pos (by omega)]
        exact c.change _ _ rfl
  · show (curW { (callM S o).2 with B := anyB } n).2 = false
    have hW : (callM S o).2.W = S.W ∨ ∃ l, (callM S o).2.W = updW S.W n (some (l, false)) := by
      have hch : ∀ x : Ch, (changeM S o.n x).2.W = S.W ∨ ∃ l, (changeM S o.n x).2.W = updW S.W n (some (l, false)) := fun x => by
        unfold changeM
        split
        · exact .inr ⟨withL (curW S o.n).1 x, by rw [hn]⟩
        · exact .inl (openM_W S o.n x.y true).1
      unfold callM
      split
      · refine .inl ?_
        show (getM S o.n o.y).2.W = S.W
        unfold getM
        split
        · split <;> exact (openM_W _ _ _ _).1
        · exact (openM_W _ _ _ _).1
      · split
        · exact hch _
        · rw [if_pos (by omega)]
          exact hch _
    unfold curW at d ⊢
    show (((callM S o).2.W n).getD ([], false)).2 = false
    rcases hW with e | ⟨l, e⟩
    · rw [e]; exact d
    · rw [e]; unfold updW; rw [if_pos rfl]; rfl
theorem MoreI.start {S : KS} (hB : S.B = anyB) (hR : InvR S) {n : Int} (h : busyB S n = false) : MoreI S.V n S := by
  refine ⟨rfl, hB, hR, ?_⟩
  unfold busyB at h
  unfold curW
  rcases hw : S.W n with _ | z
  · rfl
  · rw [hw] at h; cases h
theorem MoreI.prep {V : Nat → Nat × Bool} {n : Int} {S : KS} (h : MoreI V n S) (hn : 1 ≤ n) : ∃ l S2, prepM S n = ((l, 0), S2) ∧ RightL l ∧ (commitM S2 n).2.V = l.foldl setV V ∧ S2.B = anyB := by
  obtain ⟨a, b, c, d⟩ := h
  have hc := c.cur n
  unfold prepM
  rw [if_neg (by omega), if_neg (by rw [d]; simp)]
  rcases hs : (S.W n).isSome with _ | _
  · rw [if_pos rfl]
    have hw : S.W n = none := by simpa using hs
    refine ⟨[], _, rfl, RightL.nil, ?_, b⟩
    unfold commitM curW
    rw [if_neg (by omega)]
    show ((S.W n).getD ([], false)).1.foldl setV S.V = _
    rw [hw, a]
    rfl
  · rw [if_neg (by simp)]
    refine ⟨_, _, rfl, hc, ?_, b⟩
    unfold commitM
    rw [if_neg (by omega)]
    show (((updW S.W n (some ((curW S n).1, true))) n).getD ([], false)).1.foldl setV S.V = _
    unfold updW
    rw [if_pos rfl, a]
    rfl
theorem rest_T {V : Nat → Nat × Bool} {n : Int} {l : List Ch} (hn : 1 ≤ n) (h : RightL l) : ∃ T1, restoreM (T0 V) n l = (0, T1) ∧ busyB T1 n = decide (0 < l.length) ∧ (commitM T1 n).2.V = l.foldl setV V ∧ T1.B = anyB ∧ busyB (commitM T1 n).2 n = false := by
  have hb : busyB (T0 V) n = false := rfl
  have ha := are_of_right l (fun _ => false) h (fun _ _ => rfl)
  have ht : takeAll (T0 V).L n l = (0, rowL n l) := take_all_row (n := n) l [] (fun z hz => by cases hz) h.2 (by have := h.len; simp; omega)
  unfold restoreM
  rw [if_neg (by omega), ha, if_neg (by simp), hb, if_neg (by simp), ht, if_pos rfl]
  refine ⟨_, rfl, ?_, ?_, rfl, ?_⟩
  · unfold busyB restW
    rcases l with _ | ⟨x, l⟩
    · rfl
    · rw [if_neg (by simp)]
      dsimp only
      unfold updW
      rw [if_pos rfl]
      simp
  · unfold commitM
    rw [if_neg (by omega)]
    show ((restW (T0 V) n l n).getD ([], false)).1.foldl setV V = _
    unfold restW
    rcases l with _ | ⟨x, l⟩
    · rfl
    · rw [if_neg (by simp)]
      unfold updW
      rw [if_pos rfl]
      rfl
  · unfold commitM
    rw [if_neg (by omega)]
    exact busy_drop _ _
end Go.Proofs.Ytihchfjdgeehoaa
