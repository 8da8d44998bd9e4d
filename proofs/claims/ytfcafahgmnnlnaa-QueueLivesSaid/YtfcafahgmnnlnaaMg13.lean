/- Parts R11 InvT R12 R13 of one proof. -/
import Derived.Test.YtfcafahgmnnlnaaMg12
import Derived.Test.YtfcafahgmnnlnaaMg06
namespace Go.Proofs.Ytfcafahgmnnlnaa.Qu
open Go.RowKit Go.Maps Go.Joins Go.Deep
set_option linter.unusedVariables false
set_option linter.unusedSimpArgs false

theorem Try.infoPr : (Try.prog.info? 73).map (fun i => (i.zero, i.size, i.bytes)) = some (some (.agg #[.int .i64 0, .int .u64 0]), 2, 16) := by kernel_rfl
theorem pr_more {u : World} {B c : Nat} {A : Option Addr} {P : List (Int × Nat)} (h : OwnPr u B A c P) (n : Nat) (hn : n = P.length) (hl : n ≤ 1000) (k : Int) (v : Nat) (q : Nat) (hBu : B ≤ u.heap.size)
    (hq : Blk u q 73 #[.int .i64 k, .int .u64 (v : Nat)]) :
    ∃ A2 c2 u', (Builtin.append_ #[26, 26] 26 #[.slice A n c, .slice (some ⟨q, 0, none⟩) 1 1]).run Try.prog u = .ok (.slice A2 (n + 1) c2) u' ∧
      OwnPr u' B A2 c2 (P ++ [(k, v)]) ∧ u.grownBy u' (blk A) := by
  subst hn
  obtain ⟨i0, hi, hz0, hz1, hz2⟩ := info_parts Try.infoPr
  have hlen : ∀ P : List (Int × Nat), (prV P).length = P.length * 2 := fun P => by
    induction P with
    | nil => rfl
    | cons o P ih => unfold prV at ih ⊢; rw [List.flatMap_cons, List.length_append, ih]; simp; omega
  obtain ⟨v', w', hrun, hown, hgr, _, _⟩ := run_append_own_at (P := Try.prog) u B 26 26 73 i0 _ 2 16 Try.underlying26 hi hz0 hz1 hz2 rfl (by omega) (.slice A P.length c) P.length (prV P) h ⟨q, 0, none⟩ 1 1 [.int .i64 k, .int .u64 (v : Nat)] rfl
    (fun j v hv => by
      have := hq.cell j
      have e : (⟨q, 0, none⟩ : Addr).add j = ⟨q, j, none⟩ := by
        simp [Addr.add]
        try omega
      rw [e, this]
      rw [List.getElem?_toArray]; exact hv)
    (fun v hv => by simp at hv; rcases hv with rfl | rfl <;> rfl) (by simp only [maxLen]; omega) (by omega) hBu
  obtain ⟨g2, c2, rfl⟩ := Joins.ownsRow_form hown (by omega)
  rw [ownBlock_slice] at hgr
  refine ⟨some ⟨g2, 0, none⟩, c2, w', hrun, ?_, hgr⟩
  unfold OwnPr
  rw [List.length_append, show prV (P ++ [(k, v)]) = prV P ++ [.int .i64 k, .int .u64 (v : Nat)] by unfold prV; simp]
  exact hown
/-- Other items. -/
theorem RQ.rpr {w : World} {B B' x : Nat} {P P' : List (Int × Nat)} {ws : List WI} {gv : Int} (h : RQ w B x P ws gv) {A : Option Addr} {c n : Nat} (hn : n = P'.length) (ho : OwnPr w B' A c P') (hB : B ≤ B') (hl : P'.length ≤ 48) : RQ (w.setCell ⟨x, 0, none⟩ (.slice A n c)) B x P' ws gv := by
  obtain ⟨AP, nP, cP, AW, nW, cW, hk, hnP, hnW, hpr, hpt⟩ := h.ex
  have hgs := lgrown_set w ⟨x, 0, none⟩ (.slice A n c)
  have ks := hk.set_ 0 (.slice A n c)
  exact ⟨⟨A, n, c, AW, nW, cW, ks, hn, hnW, own_kept (own_less ho hB) hk (by decide) hgs, own_kept hpt hk (by decide) hgs⟩, wk_kept h.wk hk hgs, h.ds, hl, h.sm.2⟩
/-- Another last number. -/
theorem RQ.rgv {w : World} {B x : Nat} {P : List (Int × Nat)} {ws : List WI} {gv : Int} (h : RQ w B x P ws gv) (g' : Int) : RQ (w.setCell ⟨x, 2, none⟩ (.int .i64 g')) B x P ws g' := by
  obtain ⟨AP, nP, cP, AW, nW, cW, hk, hnP, hnW, hpr, hpt⟩ := h.ex
  have hgs := lgrown_set w ⟨x, 2, none⟩ (.int .i64 g')
  have ks := hk.set_ 2 (.int .i64 g')
  exact ⟨⟨AP, nP, cP, AW, nW, cW, ks, hnP, hnW, own_kept hpr hk (by decide) hgs, own_kept hpt hk (by decide) hgs⟩, wk_kept h.wk hk hgs, h.ds, h.sm⟩
theorem grown_new {w u u' : World} {g row : Option Nat} (h : w.grownBy u g) (k : u.grownBy u' row) (hr : ∀ r, row = some r → w.heap.size ≤ r) : w.grownBy u' g :=
  ⟨k.os.trans h.os, k.tape.trans h.tape, k.output.trans h.output, Nat.le_trans h.size k.size, fun r hl hx => (k.block r (Nat.lt_of_lt_of_le hl h.size) (fun e => by have := hr r e.symm; omega)).trans (h.block r hl hx)⟩
/-- Only the queue's own block has turned, and there the last number alone. -/
theorem RQ.row {w w' : World} {B x : Nat} {P : List (Int × Nat)} {ws : List WI} {gv : Int} (h : RQ w B x P ws gv) (hg : w.grownBy w' (some x)) {g' : Int} {v0 v1 : Value} (hb : Blk w' x 29 #[v0, v1, .int .i64 g']) (h0 : w.cell? ⟨x, 0, none⟩ = some v0) (h1 : w.cell? ⟨x, 1, none⟩ = some v1) : RQ w' B x P ws g' := by
  obtain ⟨AP, nP, cP, AW, nW, cW, hk, hnP, hnW, hpr, hpt⟩ := h.ex
  have e0 := (hk.cell 0).symm.trans h0
  have e1 := (hk.cell 1).symm.trans h1
  simp only [List.getElem?_toArray, List.getElem?_cons_zero, List.getElem?_cons_succ] at e0 e1
  injection e0 with e0
  injection e1 with e1
  subst e0 e1
  exact ⟨⟨AP, nP, cP, AW, nW, cW, hb, hnP, hnW, own_kept hpr hk (by decide) hg, own_kept hpt hk (by decide) hg⟩, wk_kept h.wk hk hg, h.ds, h.sm⟩
def keptR (ws : List WI) (n : Int) (P : List (Int × Nat)) : List (Int × Nat) := P.filter fun y => decide (takR ws y.1 ≠ n)
theorem keptR_snoc {ws : List WI} {n : Int} {P : List (Int × Nat)} {j : Nat} (hj : j < P.length) : keptR ws n (P.take (j + 1)) = if takR ws (P[j]'hj).1 = n then keptR ws n (P.take j) else keptR ws n (P.take j) ++ [P[j]'hj] := by
  unfold keptR
  rw [List.take_add_one, List.getElem?_eq_getElem hj, List.filter_append]
  split
  · rename_i h; simp [h]
  · rename_i h; simp [h]
theorem keptR_le (ws : List WI) (n : Int) (P : List (Int × Nat)) : (keptR ws n P).length ≤ P.length := List.length_filter_le _ _
def prI (l : List IT) : List (Int × Nat) := l.map fun x => (x.n, x.v)
def newsR (g : Int) (l : List Ch) : List (Int × Nat) := prI (newsQ g l)
theorem newsR_len (g : Int) (l : List Ch) : (newsR g l).length = putsL l := by unfold newsR prI; rw [List.length_map, newsQ_len]
theorem newsR_step (g : Int) (l : List Ch) (j : Nat) (h : j < l.length) : newsR g (l.take (j + 1)) = if (l[j]'h).k = 3 then newsR g (l.take j) ++ [(g + (putsL (l.take j) : Nat) + 1, (l[j]'h).v)] else newsR g (l.take j) := by
  have e2 : l.take (j + 1) = l.take j ++ [l[j]'h] := by rw [List.take_add_one, List.getElem?_eq_getElem h]; rfl
  unfold newsR
  rw [e2, newsQ_snoc]
  split
  · unfold prI; rw [List.map_append]; rfl
  · rfl
theorem putsL_take_le (l : List Ch) (j : Nat) : putsL (l.take j) ≤ putsL l := by
  unfold putsL
  exact ((List.take_sublist j l).filter _).length_le
def commitR (P : List (Int × Nat)) (ws : List WI) (gv n : Int) : Int × List (Int × Nat) × List WI × Int :=
  if n < 1 then (1, P, ws, gv) else match findW ws n with
    | none => (0, P, ws, gv)
    | some z => (0, keptR ws n P ++ newsR gv z.l, othersW ws n, gv + (putsL z.l : Nat))
theorem OwnPr.grown {u u' : World} {B : Nat} {A : Option Addr} {c : Nat} {P : List (Int × Nat)} {row : Option Nat} (h : OwnPr u B A c P) (hg : u.grownBy u' row) (hr : ∀ r, row = some r → blk A ≠ some r) : OwnPr u' B A c P := by
  refine World.ownsRow.kept h hg ?_
  rcases hb : (Value.slice A P.length c).ownBlock with _ | r
  · exact .inl rfl
  · refine .inr (fun e => ?_)
    rw [ownBlock_slice] at hb
    exact hr r e.symm hb
theorem OwnPr.lt' {u : World} {B : Nat} {A : Option Addr} {c : Nat} {P : List (Int × Nat)} (h : OwnPr u B A c P) : ∀ r, blk A = some r → B ≤ r ∧ r < u.heap.size := fun r e => World.ownsRow.lt h r (by rw [ownBlock_slice]; exact e)
set_option maxRecDepth 100000 in
set_option maxHeartbeats 1000000 in
theorem rcommit_any (B x : Nat) (P : List (Int × Nat)) (ws : List WI) (gv n : Int) (w : World) (h : RQ w B x P ws gv) (hB : B ≤ w.heap.size) (hg : 0 ≤ gv) (hp : ∀ z, findW ws n = some z → P.length + putsL z.l ≤ 48 ∧ gv + (putsL z.l : Nat) ≤ 4611686018427387904) :
    Calls Try.prog 34 #[.pointer (some ⟨x, 0, none⟩), .int .i64 n] w fun e w' => e = .returned (.int .i64 (commitR P ws gv n).1) ∧ RQ w' B x (commitR P ws gv n).2.1 (commitR P ws gv n).2.2.1 (commitR P ws gv n).2.2.2 ∧ w.grownBy w' (some x) := by
  have HF := Lib.hid (rfind_any B x P ws gv n w h)
  have H := Lib.hid h
  rcases a1 : decide (n < 1) with _ | _
  · have p1 : ¬ n < 1 := of_decide_eq_false a1
    rcases hf : findW ws n with _ | z
    · have hM : commitR P ws gv n = (0, P, ws, gv) := by unfold commitR; rw [if_neg p1, hf]
      rw [hM]
      rw [hf] at HF
      clear h hM hf hp
      go_enter Try.func34, Try.ntmps34
      go_wp2_with fail
      refine HF.out.mono ?_
      rintro e w1 ⟨rfl, rfl⟩
      dsimp only [Option.map_none]
      go_wp2
      go_ret
      exact ⟨rfl, H.out, lbelow_grown (Below.refl _ _) _⟩
    · obtain ⟨hp1, hp2⟩ := hp z hf
      obtain ⟨hzm, hzn⟩ := findW_mem hf
      have hM : commitR P ws gv n = (0, keptR ws n P ++ newsR gv z.l, othersW ws n, gv + (putsL z.l : Nat)) := by unfold commitR; rw [if_neg p1, hf]
      rw [hM]
      obtain ⟨zq, zn, zA, zc, zl, zp⟩ := z
      dsimp only at hp1 hp2 ⊢
      rw [hf] at HF
      have hzl := h.sm.2.2 _ hzm
      dsimp only at hzl
      obtain ⟨nl, hnl⟩ : ∃ nl, nl = zl.length := ⟨_, rfl⟩
      have hnl3 : nl ≤ 300 := by omega
      obtain ⟨nP, hnP⟩ : ∃ nP, nP = P.length := ⟨_, rfl⟩
      have hP1 : nP ≤ 48 := by rw [hnP]; exact h.sm.1
      have HW := Lib.hid (fun (u : World) (g : Int) (hu : RQ u B x P ws g) => hu.wk _ hzm)
      have HN := Lib.hid (And.intro hnP hnl)
      have HB := Lib.hid (And.intro hB (And.intro hp1 (And.intro hp2 hg)))
      have hxl : x < w.heap.size := by obtain ⟨_, _, _, _, _, _, hk, _⟩ := h.ex; exact hk.lt
      have Hx := Lib.hid hxl
      obtain ⟨v0, v1, hv0, hv1, hkx⟩ : ∃ v0 v1, w.cell? ⟨x, 0, none⟩ = some v0 ∧ w.cell? ⟨x, 1, none⟩ = some v1 ∧ Blk w x 29 #[v0, v1, .int .i64 gv] := by
        obtain ⟨AP, nP, cP, AW, nW, cW, hk, _⟩ := h.ex
        exact ⟨_, _, hk.cell 0, hk.cell 1, hk⟩
      have HV := Lib.hid (And.intro hv0 (And.intro hv1 hkx))
      have HI : Hid (∃ K, K = keptR ws n (P.take 0) ∧ 0 = K.length ∧ OwnPr w w.heap.size none 0 K ∧ Below w.heap.size w w) := Lib.hid ⟨[], rfl, rfl, World.ownsRow_nil _ _ _ _, Below.refl _ _⟩
      clear h hM hf hp hzm hnl hnP hB hg hp1 hp2 hzl hxl hv0 hv1 hkx
      go_enter Try.func34, Try.ntmps34
      go_wp2_with fail
      refine HF.out.mono ?_
      rintro e w1 ⟨rfl, rfl⟩
      dsimp only [Option.map_some]
      go_wp2_with fail
      go_loopw [6, 7] (fun v iv wr => ∃ (j n2 c2 : Nat) (A2 : Option Addr), v = .slice A2 n2 c2 ∧ j ≤ nP ∧ n2 ≤ j ∧ iv = .int .i64 j ∧ Hid (∃ K, K = keptR ws n (P.take j) ∧ n2 = K.length ∧ OwnPr wr w.heap.size A2 c2 K ∧ Below w.heap.size w wr)) (fun _ iv _ => nP - (intOf iv).toNat)
      case atStart => exact ⟨0, 0, 0, none, rfl, Nat.zero_le _, Nat.le_refl _, rfl, HI⟩
      case round =>
        clear HI
        obtain ⟨j, n2, c2, A2, rfl, hj, hn2j, rfl, HR⟩ := hrel
        obtain ⟨K, hK, hn2, hown, hb⟩ := HR.out
        have hr := H.out.below hb
        by_cases hjn : j < nP
        · have hjI : (j : Int) < (nP : Int) := by omega
          have hjL : j < P.length := by rw [← HN.out.1]; exact hjn
          obtain ⟨b, cP, r0, r1, r2, hbl⟩ := hr.item j hjL
          rw [← HN.out.1] at r0
          have hst := keptR_snoc (ws := ws) (n := n) hjL
          rw [← hK] at hst
          generalize P[j]'hjL = y at r1 r2 hst
          obtain ⟨yn, yv⟩ := y
          dsimp only at r1 r2 hst
          have HTk := Lib.hid (rtaker_any B x P ws gv yn wr hr)
          obtain ⟨t, ht⟩ : ∃ t, t = takR ws yn := ⟨_, rfl⟩
          rw [← ht] at HTk hst
          have HS := Lib.hid hst
          have HRR := Lib.hid (And.intro hn2 (And.intro hown hb))
          have HC := Lib.hid (And.intro (World.block_lt_of_cell? _ _ r0) hbl)
          clear hr hjL hst ht hK hn2 hown hb hbl HR
          go_wp2_with fail
          refine HTk.out.mono ?_
          rintro e w3 ⟨rfl, b3⟩
          have hb3 := bt HRR.out.2.2 b3
          have own3 : OwnPr w3 w.heap.size A2 c2 K := HRR.out.2.1.grown (lbelow_grown b3 none) (fun r e => by cases e)
          by_cases h1 : t = n
          · have HN2 : Hid (∃ K, K = keptR ws n (P.take (j + 1)) ∧ n2 = K.length ∧ OwnPr w3 w.heap.size A2 c2 K ∧ Below w.heap.size w w3) := Lib.hid ⟨K, by rw [HS.out, if_pos h1], HRR.out.1, own3, hb3⟩
            subst h1
            clear b3 hb3 own3 r0 r1 r2
            go_wp2
            go_roundw
            case rel => exact ⟨j + 1, n2, c2, A2, rfl, by omega, by omega, by go_num, HN2⟩
            case measure => simp [intOf]; omega
          · have h1b : (t != n) = true := by simpa using h1
            have e0 := (b3.cell (p := ⟨x, 0, none⟩) HC.out.1).trans r0
            have e1 := (b3.cell (p := ⟨b, j * 2, none⟩) HC.out.2).trans r1
            have e2 := (b3.cell (p := ⟨b, j * 2 + 1, none⟩) HC.out.2).trans r2
            have hb4 := ba w3 (.cells #[.int .i64 yn, .int .u64 (yv : Nat)] 73)
            have own4 := own3.grown (lbelow_grown hb4 none) (fun r e => by cases e)
            obtain ⟨A5, c5, w5, hrun, own5, hg5⟩ := pr_more own4 n2 HRR.out.1 (by omega) yn yv w3.heap.size (by have := hb3.size; have := hb4.size; omega) (Blk.new w3 _ _)
            have hB5 := (bt hb3 hb4).grown hg5 (by have := hb3.size; have := hb4.size; omega) (fun r e => (own4.lt' r e).1)
            have HX : Hid (∃ K, K = keptR ws n (P.take (j + 1)) ∧ n2 + 1 = K.length ∧ OwnPr w5 w.heap.size A5 c5 K ∧ Below w.heap.size w w5) := Lib.hid ⟨_, by rw [HS.out, if_neg h1], by rw [List.length_append, ← HRR.out.1]; rfl, own5, hB5⟩
            clear b3 hb3 own3 r0 r1 r2 hb4 own4 own5 hg5 hB5
            go_wp2_with (at_builtin; refine wpList_append_run rfl (.tmp 37) (.tmp 45) 26 rfl _ _ _ w5 rfl rfl hrun ?_)
            go_roundw
            case rel => exact ⟨j + 1, n2 + 1, c5, A5, rfl, by omega, by omega, by go_num, HX⟩
            case measure => simp [intOf]; omega
        · have hjI : ¬ (j : Int) < (nP : Int) := by omega
          obtain ⟨AP, cP, c0⟩ := hr.ilen
          rw [← HN.out.1] at c0
          have hjj : P.take j = P := List.take_of_length_le (by rw [← HN.out.1]; omega)
          rw [hjj] at hK
          obtain ⟨k0, hk0⟩ : ∃ k0, k0 = K.length := ⟨_, rfl⟩
          have hk48 : k0 ≤ 48 := by rw [hk0, hK]; exact Nat.le_trans (keptR_le ws n P) (by rw [← HN.out.1]; exact hP1)
          have HI2 : Hid (∃ M, M = K ++ newsR gv (zl.take 0) ∧ n2 = M.length ∧ OwnPr wr w.heap.size A2 c2 M ∧ Blk wr x 29 #[v0, v1, .int .i64 (gv + (putsL (zl.take 0) : Nat))] ∧ w.grownBy wr (some x)) := Lib.hid ⟨K, by unfold newsR prI; simp [newsQ], hn2, hown, by simpa [putsL] using HV.out.2.2.below hb HV.out.2.2.lt, lbelow_grown hb _⟩
          have HK := Lib.hid (And.intro hK hk0)
          have hn2k : n2 ≤ k0 + 0 := by omega
          clear hr hjj hK hown hb hk0 HR hn2
          go_wp2_with fail
          go_loopw [6, 8] (fun v iv wr => ∃ (j n2 c2 : Nat) (A2 : Option Addr), v = .slice A2 n2 c2 ∧ j ≤ nl ∧ n2 ≤ k0 + j ∧ iv = .int .i64 j ∧ Hid (∃ M, M = K ++ newsR gv (zl.take j) ∧ n2 = M.length ∧ OwnPr wr w.heap.size A2 c2 M ∧ Blk wr x 29 #[v0, v1, .int .i64 (gv + (putsL (zl.take j) : Nat))] ∧ w.grownBy wr (some x))) (fun _ iv _ => nl - (intOf iv).toNat)
          case atStart => exact ⟨0, n2, c2, A2, rfl, Nat.zero_le _, hn2k, rfl, HI2⟩
          case round =>
            clear HI2 hj hn2j hjn hjI c0 hn2k
            obtain ⟨j, n2, c2, A2, rfl, hj, hn2j, rfl, HR⟩ := hrel
            obtain ⟨M, hM, hn2, hown, hkb, hgr⟩ := HR.out
            have hr := H.out.row hgr hkb HV.out.1 HV.out.2.1
            obtain ⟨hz1, hz2, hz3⟩ := HW.out wr _ hr
            have z1 := hz2.cell 1
            simp only [List.getElem?_toArray, List.getElem?_cons_zero, List.getElem?_cons_succ] at z1
            rw [← HN.out.2] at z1
            by_cases hjn : j < nl
            · have hjI : (j : Int) < (nl : Int) := by omega
              have hjL : j < zl.length := by rw [← HN.out.2]; exact hjn
              obtain ⟨b, o, hA, _, hcs⟩ := hz3.at_.inl (by omega)
              obtain ⟨r0, r1, r2⟩ := hcs j hjL
              have hst := newsR_step gv zl j hjL
              have hpt := putsL_step zl j hjL
              have hple := putsL_take_le zl (j + 1)
              obtain ⟨c, hc⟩ : ∃ c, c = zl[j]'hjL := ⟨_, rfl⟩
              rw [← hc] at r0 r1 r2 hst hpt
              obtain ⟨ck, cy, cv⟩ := c
              dsimp only at r0 r1 r2 hst hpt
              rw [hA] at z1
              by_cases h3 : ck = 3
              · rw [if_pos h3] at hst hpt
                obtain ⟨gj, hgj⟩ : ∃ gj : Int, gj = gv + (putsL (zl.take j) : Nat) := ⟨_, rfl⟩
                obtain ⟨gk, hgk⟩ : ∃ gk : Int, gk = gj + 1 := ⟨_, rfl⟩
                have hB3 := HB.out
                have swr : IntKind.i64.wrap (gj + 1) = gk := by rw [hgk]; exact IntWalk.i64_in _ (by omega)
                rw [← hgj] at hkb
                have c2' := hkb.cell 2
                have f2' := hkb.frozen 2
                simp only [List.getElem?_toArray, List.getElem?_cons_zero, List.getElem?_cons_succ] at c2'
                obtain ⟨w4, hw4⟩ : ∃ w4, w4 = wr.setCell ⟨x, 2, none⟩ (.int .i64 gk) := ⟨_, rfl⟩
                have g4 : wr.grownBy w4 (some x) := by rw [hw4]; exact lgrown_set _ _ _
                have k4 : Blk w4 x 29 #[v0, v1, .int .i64 gk] := by rw [hw4]; exact hkb.set_ 2 _
                have hg4 := hgr.trans g4
                have hr4 := H.out.row hg4 k4 HV.out.1 HV.out.2.1
                have own4 : OwnPr w4 w.heap.size A2 c2 M := hown.grown g4 (fun r e e2 => by cases e; have := (hown.lt' _ e2).1; have := Hx.out; omega)
                obtain ⟨hz1', hz2', hz3'⟩ := HW.out w4 _ hr4
                obtain ⟨b', o', hA', _, hcs'⟩ := hz3'.at_.inl (by omega)
                rw [hA] at hA'
                obtain ⟨rfl, rfl⟩ : b = b' ∧ o = o' := by cases hA'; exact ⟨rfl, rfl⟩
                have s2 := (hcs' j hjL).2.2
                rw [← hc] at s2
                dsimp only at s2
                have s1 := hz2'.cell 1
                simp only [List.getElem?_toArray, List.getElem?_cons_zero, List.getElem?_cons_succ] at s1
                rw [← HN.out.2, hA] at s1
                have s0 := k4.cell 2
                simp only [List.getElem?_toArray, List.getElem?_cons_zero, List.getElem?_cons_succ] at s0
                obtain ⟨W, hW⟩ : ∃ W, W = w4.drew := ⟨_, rfl⟩
                have bW : Below w4.heap.size w4 W := by rw [hW]; exact ⟨rfl, rfl, rfl, Nat.le_refl _, fun _ _ => rfl⟩
                have b5 := ba W (.cells #[.int .i64 gk, .int .u64 (cv : Nat)] 73)
                have b45 := bt bW b5
                have own5 := own4.grown (lbelow_grown b45 none) (fun r e => by cases e)
                have hsz : w.heap.size ≤ (W.alloc (.cells #[.int .i64 gk, .int .u64 (cv : Nat)] 73)).heap.size := by have := hg4.size; have := b45.size; omega
                obtain ⟨A6, c6, w6, hrun, own6, g6⟩ := pr_more own5 n2 hn2 (by omega) gk cv W.heap.size hsz (Blk.new W _ _)
                have hg6 : w.grownBy w6 (some x) := grown_new (hg4.trans (lbelow_grown b45 _)) g6 (fun r e => (own5.lt' r e).1)
                have hk6 : Blk w6 x 29 #[v0, v1, .int .i64 gk] := (k4.below b45 k4.lt).kept g6 (fun e => by have := (own5.lt' x e.symm).1; have := Hx.out; omega)
                have HX : Hid (∃ M, M = K ++ newsR gv (zl.take (j + 1)) ∧ n2 + 1 = M.length ∧ OwnPr w6 w.heap.size A6 c6 M ∧ Blk w6 x 29 #[v0, v1, .int .i64 (gv + (putsL (zl.take (j + 1)) : Nat))] ∧ w.grownBy w6 (some x)) := Lib.hid ⟨_, by rw [hst, ← List.append_assoc, ← hM, ← hgj, ← hgk], by rw [List.length_append, ← hn2]; rfl, own6, by rw [hpt, Int.natCast_add, ← Int.add_assoc, ← hgj]; rw [hgk] at hk6; exact hk6, hg6⟩
                rw [hW] at hrun
                have HW4 := Lib.hid hw4
                clear hr hz1 hz2 hz3 hst hpt hple hcs hcs' hjL hc hA hA' hM hn2 hown hkb hgr HR hgj hgk hB3 g4 k4 hg4 hr4 own4 hz1' hz2' hz3' hW bW b5 b45 own5 hsz own6 g6 hg6 hk6 hw4
                go_wp2_with fail
                rw [← HW4.out]
                clear c2' f2' z1 r0 r1 r2
                go_region_law (refine step_append_run rfl (.tmp 73) (.tmp 87) 26 rfl _ _ _ w6 rfl rfl hrun ?_)
                all_goals
                  go_wp2
                  go_roundw
                  case rel => exact ⟨j + 1, n2 + 1, c6, A6, rfl, by omega, by omega, by go_num, HX⟩
                  case measure => simp [intOf]; omega
              · rw [if_neg h3] at hst
                rw [if_neg h3, Nat.add_zero] at hpt
                have h3b : (ck == 3) = false := by simpa using h3
                have HX : Hid (∃ M, M = K ++ newsR gv (zl.take (j + 1)) ∧ n2 = M.length ∧ OwnPr wr w.heap.size A2 c2 M ∧ Blk wr x 29 #[v0, v1, .int .i64 (gv + (putsL (zl.take (j + 1)) : Nat))] ∧ w.grownBy wr (some x)) := Lib.hid ⟨M, by rw [hst]; exact hM, hn2, hown, by rw [hpt]; exact hkb, hgr⟩
                clear hr hz1 hz2 hz3 hst hpt hple hcs hjL hc hA hM hn2 hown hkb hgr HR
                go_wp2
                go_roundw
                case rel => exact ⟨j + 1, n2, c2, A2, rfl, by omega, by omega, by go_num, HX⟩
                case measure => simp [intOf]; omega
            · have hjI : ¬ (j : Int) < (nl : Int) := by omega
              have hjj : zl.take j = zl := List.take_of_length_le (by rw [← HN.out.2]; omega)
              rw [hjj] at hM hkb hr
              have c0 := hkb.cell 0
              have f0 := hkb.frozen 0
              simp only [List.getElem?_toArray, List.getElem?_cons_zero, List.getElem?_cons_succ] at c0
              obtain ⟨w5, hw5⟩ : ∃ w5, w5 = wr.setCell ⟨x, 0, none⟩ (.slice A2 n2 c2) := ⟨_, rfl⟩
              have hg5 : wr.grownBy w5 (some x) := by rw [hw5]; exact lgrown_set _ _ _
              have hML : M.length ≤ 48 := by
                have h1 := keptR_le ws n P
                have h2 := HB.out.2.1
                rw [hM, List.length_append, newsR_len, HK.out.1]; omega
              have hr5 : RQ w5 B x M ws (gv + (putsL zl : Nat)) := by rw [hw5]; exact hr.rpr hn2 hown HB.out.1 hML
              have HD := Lib.hid (rqdrop_any B x M ws _ n w5 hr5 (Nat.le_trans HB.out.1 (Nat.le_trans hgr.size hg5.size)))
              have HM : Hid (M = keptR ws n P ++ newsR gv zl) := Lib.hid (by rw [hM, HK.out.1])
              have HG := Lib.hid (hgr.trans hg5)
              have HW5 := Lib.hid hw5
              clear hr hz1 hz2 hz3 hjj hM hn2 hown hkb hgr HR hg5 hML hr5 hw5
              go_wp2_with fail
              rw [← HW5.out]
              refine HD.out.mono ?_
              rintro e w6 ⟨rfl, hq, hg⟩
              have HX := Lib.hid (And.intro hq (HG.out.trans hg))
              clear hq hg c0 f0 z1
              go_wp2
              go_ret
              exact ⟨rfl, by rw [← HM.out]; exact HX.out.1, HX.out.2⟩
  · have p1 : n < 1 := of_decide_eq_true a1
    have hM : commitR P ws gv n = (1, P, ws, gv) := if_pos p1
    rw [hM]
    clear h hM HF hp
    go_enter Try.func34, Try.ntmps34
    go_wp2
    go_ret
    exact ⟨rfl, H.out, lbelow_grown (Below.refl _ _) _⟩
end Go.Proofs.Ytfcafahgmnnlnaa.Qu

namespace Go.Proofs.Ytfcafahgmnnlnaa
open Go Go.RowKit
set_option linter.unusedVariables false

/-- Operation i waits for operation k, or for one that waits for it. -/
def waits (l : List Oper) (i k : Nat) : Bool := match l[i]? with
  | some o => o.after.any fun e => Region.binds .any e && (e.on == k || (match l[e.on]? with | some o2 => o2.after.any fun e2 => Region.binds .any e2 && e2.on == k | none => false))
  | none => false
theorem waits_spec {l : List Oper} {ls : Array Bool} {i k : Nat} {o : Oper} (ho : l[i]? = some o) (h : waits l i k = true)
    (hall : ∀ e ∈ o.after, Region.binds .any e = true → ls.getD e.on false = true)
    (hcl : ∀ i o, l[i]? = some o → ls.getD i false = true → ∀ e ∈ o.after, Region.binds .any e = true → ls.getD e.on false = true) : ls.getD k false = true := by
  unfold waits at h
  rw [ho] at h
  obtain ⟨j, hj, h2⟩ := Array.any_eq_true.1 h
  simp only [Bool.and_eq_true, Bool.or_eq_true, beq_iff_eq] at h2
  have h1 := hall _ (Array.getElem_mem hj) h2.1
  rcases h2.2 with h3 | h3
  · rw [← h3]; exact h1
  · cases ho2 : l[o.after[j].on]? with
    | none => rw [ho2] at h3; cases h3
    | some o2 =>
      rw [ho2] at h3
      obtain ⟨j2, hj2, h4⟩ := Array.any_eq_true.1 h3
      simp only [Bool.and_eq_true, beq_iff_eq] at h4
      rw [← h4.2]
      exact hcl _ _ ho2 h1 _ (Array.getElem_mem hj2) h4.1

section
variable {P : Program} {Q : Exit → Act → World → Prop}

/-- **A region by what its operations yield.** C: the worlds between them; E k: how operation k turns one into the next; V i: what operation i has put: it holds on, or till operation 'dead i' has come up. -/
theorem wp_region_invT {id : Nat} {l : List Oper} {a : Act} {w : World} {F : (Nat → Value) → Act} (V : Nat → Value → World → Prop) (dead : Nat → Option Nat) (T : Nat → World → Prop) (C : World → Prop) (E : Nat → World → World → Prop)
    (hm : P.follows .mixedOrders = true) (hd : dstsApart l = true) (hx : lexOk l.toArray = true) (hF : ∀ x, mkA l 0 x a = F x)
    (hmono : ∀ k i v w w', E k w w' → i ≠ k → waits l i k = false → dead i ≠ some k → V i v w → V i v w') (hTm : ∀ k j w w', E k w w' → k ≠ j → waits l k j = false → T j w → T j w') (hT : ∀ j, T j w.drew) (hC : C w.drew)
    (step : AllOps (fun i o => ∀ x w, C w → T i w → KnownTill V dead i x w o.after.toList → ∀ K : Act → World → Prop, (∀ v a' w', C w' → E i w w' → V i v w' → a' = (F x).put o.dst v → K a' w') → if Region.wanted o (yielded l.toArray (F x).tmps) = true then Oper.wp P o (F x) w K Q else K ((F x).put o.dst undef) w) 0 l)
    (fin : ∀ x w', C w' → (∀ i, i < l.length → dead i = none → V i (x i) w') → Q .normal (F x) w') : (Code.region id l.toArray true).wp P Q a w := by
  refine wp_region_any hm ?_
  have h0 : a = F fun i => (((l[i]?).bind (·.dst)).map fun t => a.tmps.getD t undef).getD undef := by
    rw [← hF, mkA_own]
    intro i o ho
    rw [Nat.zero_add, ho]
    rfl
  refine wpAny_inv (fun ls b u => ((C u ∧ ∀ j, j < l.length → ls.getD j true = false → T j u) ∧ ∀ i o, l[i]? = some o → ls.getD i false = true → ∀ e ∈ o.after, Region.binds .any e = true → ls.getD e.on false = true) ∧ ∃ x, b = F x ∧ ∀ i, i < l.length → ls.getD i false = true → (∀ j, dead i = some j → ls.getD j true = false) → V i (x i) u) ?_ ?_ _ _ _ _ (by simp) ?_ ⟨⟨⟨hC, fun j _ _ => hT j⟩, fun i o _ hi => ?_⟩, _, h0, fun i _ hi => ?_⟩
  · rintro ls b u i hs ⟨⟨⟨hc, hT1⟩, hcl⟩, x, rfl, hv⟩ hi
    obtain ⟨hl, o, ho, hall⟩ := mem_ready.1 hi
    refine wpOp_want ho ?_
    have ho' : l[i]? = some o := by simpa using ho
    have hon : ∀ j, ls.getD j false = true → j < l.length := fun j hj => by
      rcases Nat.lt_or_ge j ls.size with h' | h'
      · simpa [hs] using h'
      · rw [Array.getD_eq_getD_getElem?, Array.getElem?_eq_none h'] at hj; simp at hj
    have hst := allOps_at _ _ _ _ step ho'
    rw [Nat.zero_add] at hst
    refine hst x u hc (hT1 i (List.getElem?_eq_some_iff.1 ho').1 hl) (knownTill_of _ fun e he hb hdd => hv _ (hon e.on (hall e (by simpa using he) hb)) (hall e (by simpa using he) hb) fun j hj => ?_) _ ?_
    · rcases hdd with h | h
      · rw [h] at hj; cases hj
      · rw [h] at hj; cases hj; exact hl
    rintro v _ u' hc' he hvi rfl
    have hput : (F x).put o.dst v = F (upd x i v) := by
      rw [← hF, ← hF]
      have := mkA_upd (v := v) l 0 i x a hd ho'
      rw [Nat.zero_add] at this
      exact this.symm
    refine ⟨⟨⟨hc', fun j hjl hju => ?_⟩, fun j oj hoj hj e he hb => ?_⟩, upd x i v, hput, fun j hjl hj hjd => ?_⟩
    · have hsz : i < ls.size := by
        rcases Nat.lt_or_ge i ls.size with h' | h'
        · exact h'
        · rw [Array.getD_eq_getD_getElem?, Array.getElem?_eq_none h'] at hl; simp at hl
      have hij : i ≠ j := fun e => by
        subst e
        rw [Array.getD_eq_getD_getElem?, Array.getElem?_setIfInBounds_self_of_lt hsz] at hju
        simp at hju
      rw [getD_set_ne true hij] at hju
      refine hTm _ _ _ _ he hij ?_ (hT1 j hjl hju)
      cases hnd : waits l i j with
      | false => rfl
      | true =>
        exfalso
        have h1 := waits_spec (ls := ls) ho' hnd (fun e he hb => hall e (by simpa using he) hb) hcl
        rw [Array.getD_eq_getD_getElem?] at h1 hju
        cases hls : ls[j]? with
        | none => rw [hls] at h1; simp at h1
        | some b => rw [hls] at h1 hju; simp at h1 hju; rw [h1] at hju; cases hju
    · by_cases hji : j = i
      · subst hji
        rw [ho'] at hoj; cases hoj
        exact getD_set_true (hall e he hb)
      · rw [getD_set_ne false (Ne.symm hji)] at hj
        exact getD_set_true (hcl j oj hoj hj e he hb)
    by_cases hji : j = i
    · subst hji; simpa [upd] using hvi
    · have e1 : upd x i v j = x j := if_neg hji
      have hne : dead j ≠ some i := fun e => by
        have h1 := hjd i e
        have hsz : i < ls.size := by
          rcases Nat.lt_or_ge i ls.size with h' | h'
          · exact h'
          · rw [Array.getD_eq_getD_getElem?, Array.getElem?_eq_none h'] at hl; simp at hl
        rw [Array.getD_eq_getD_getElem?, Array.getElem?_setIfInBounds_self_of_lt hsz] at h1
        simp at h1
      rw [e1]
      refine hmono _ _ _ _ _ he hji ?_ hne (hv j hjl ?_ fun q hq => ?_)
      · cases hnd : waits l j i with
        | false => rfl
        | true =>
          exfalso
          obtain ⟨oj, hoj⟩ : ∃ oj, l[j]? = some oj := ⟨_, List.getElem?_eq_getElem hjl⟩
          rw [getD_set_ne false (Ne.symm hji)] at hj
          have h1 := waits_spec (ls := ls) hoj hnd (fun e he hb => hcl j oj hoj hj e he hb) hcl
          rw [Array.getD_eq_getD_getElem?] at h1 hl
          cases hls : ls[i]? with
          | none => rw [hls] at h1; simp at h1
          | some b => rw [hls] at h1 hl; simp at h1 hl; rw [h1] at hl; cases hl
      · rw [getD_set_ne false (Ne.symm hji)] at hj
        exact hj
      · have h1 := hjd q hq
        have hqi : i ≠ q := fun e => hne (e ▸ hq)
        rw [getD_set_ne true hqi] at h1
        exact h1
  · rintro ls b u hs ⟨⟨⟨hc, _⟩, _⟩, x, rfl, hv⟩ hr
    refine fin x u hc fun i hi hdi => ?_
    have hi' : i < l.toArray.size := by simpa using hi
    have h1 := ready_all hs hx hr i hi'
    refine hv i hi ?_ (fun j hj => by rw [hdi] at hj; cases hj)
    rw [Array.getD_eq_getD_getElem?, Array.getElem?_eq_getElem (show i < ls.size by omega)] at h1 ⊢
    simpa using h1
  · unfold unlisted
    rw [Array.toList_replicate]
    exact Nat.le_trans List.countP_le_length (by simp)
  · rw [Array.getD_eq_getD_getElem?, Array.getElem?_replicate] at hi
    split at hi <;> simp at hi
  · rw [Array.getD_eq_getD_getElem?, Array.getElem?_replicate] at hi
    split at hi <;> simp at hi
end
end Go.Proofs.Ytfcafahgmnnlnaa

namespace Go.Proofs.Ytfcafahgmnnlnaa.Qu
open Go.RowKit Go.Maps Go.Joins Go.Deep
set_option linter.unusedVariables false
set_option linter.unusedSimpArgs false

def rightL (ws : List WI) : List (Int × Nat) → List Ch → Bool
  | _, [] => true
  | P, c :: l => if c.k = 3 then (c.y == 0) && rightL ws P l else if c.k = 4 then (match P with
    | [] => false
    | y :: r => (y.1 == c.y) && ((y.2 == c.v) && ((takR ws c.y == 0) && rightL ws r l))) else false
def rightR (P : List (Int × Nat)) (ws : List WI) (gv : Int) (l : List Ch) : Bool := rightL ws P l && (decide (putsL l = 0) || decide ((putsL l : Int) ≤ roomR P ws gv))
theorem rightL_step (ws : List WI) (P : List (Int × Nat)) (l : List Ch) (k i : Nat) (hi : i < l.length) : rightL ws (P.drop k) (l.drop i) = if (l[i]'hi).k = 3 then ((l[i]'hi).y == 0) && rightL ws (P.drop k) (l.drop (i + 1)) else if (l[i]'hi).k = 4 then (if hk : k < P.length then ((P[k]'hk).1 == (l[i]'hi).y) && (((P[k]'hk).2 == (l[i]'hi).v) && ((takR ws (l[i]'hi).y == 0) && rightL ws (P.drop (k + 1)) (l.drop (i + 1)))) else false) else false := by
  rw [List.drop_eq_getElem_cons hi]
  by_cases hk : k < P.length
  · rw [List.drop_eq_getElem_cons hk, dif_pos hk]; rfl
  · rw [List.drop_eq_nil_of_le (by omega : P.length ≤ k), dif_neg hk]; rfl
def VRtA (xq nP cP k : Nat) (AP : Option Addr) (i : Nat) (v : Value) (w : World) : Prop :=
  match i with
  | 0 => v = .int .i64 k
  | 1 => v = .pointer (some ⟨xq, 0, none⟩)
  | 2 => v = .pointer (some ⟨xq, 0, none⟩)
  | 3 => v = .pointer (some ⟨xq, 0, none⟩)
  | 4 => v = .slice AP nP cP
  | 5 => v = .int .i64 nP
  | 6 => v = .bool true
  | 7 => v = .bool true
  | 8 => v = undef
  | 9 => v = undef
  | 10 => v = undef
  | 11 => v = undef
  | 12 => v = undef
  | 13 => v = undef
  | 14 => v = undef
  | 15 => v = undef
  | 16 => v = undef
  | 17 => v = undef
  | 18 => v = undef
  | 19 => v = .bool true
  | 20 => v = .bool true
  | 21 => v = undef
  | 22 => v = undef
  | 23 => v = undef
  | 24 => v = undef
  | 25 => v = undef
  | 26 => v = undef
  | 27 => v = undef
  | 28 => v = undef
  | 29 => v = undef
  | 30 => v = undef
  | 31 => v = undef
  | 32 => v = .bool true
  | 33 => v = .bool true
  | 34 => v = undef
  | 35 => v = undef
  | 36 => v = undef
  | 37 => v = undef
  | 38 => v = undef
  | 39 => v = .bool true
  | _ => True
theorem VRtA.mono {xq nP cP k : Nat} {AP : Option Addr} {q i : Nat} {v : Value} {u u' : World} (he : Below u.heap.size u u') (h : VRtA xq nP cP k AP i v u) : VRtA xq nP cP k AP i v u' := by
  unfold VRtA at h ⊢
  split at h <;> exact h
def VRtB (xq bc k nP cP b : Nat) (AP : Option Addr) (yn cy : Int) (yv cv : Nat) (tk : Int) (i : Nat) (v : Value) (w : World) : Prop :=
  match i with
  | 0 => v = .int .i64 k
  | 1 => v = .pointer (some ⟨xq, 0, none⟩)
  | 2 => v = .pointer (some ⟨xq, 0, none⟩)
  | 3 => v = .pointer (some ⟨xq, 0, none⟩)
  | 4 => v = .slice (some ⟨b, 0, none⟩) nP cP
  | 5 => v = .int .i64 nP
  | 6 => v = .bool false
  | 7 => v = .bool false
  | 8 => v = .pointer (some ⟨xq, 0, none⟩)
  | 9 => v = .pointer (some ⟨xq, 0, none⟩)
  | 10 => v = .pointer (some ⟨xq, 0, none⟩)
  | 11 => v = .slice (some ⟨b, 0, none⟩) nP cP
  | 12 => v = .int .i64 k
  | 13 => v = .pointer (some ⟨b, 0 + k * 2, none⟩)
  | 14 => v = .pointer (some ⟨b, 0 + k * 2, none⟩)
  | 15 => v = .int .i64 yn
  | 16 => v = .pointer (some ⟨bc, 1, none⟩)
  | 17 => v = .int .i64 cy
  | 18 => v = .bool true
  | 19 => v = .bool true
  | 20 => v = .bool true
  | 21 => v = undef
  | 22 => v = undef
  | 23 => v = undef
  | 24 => v = undef
  | 25 => v = undef
  | 26 => v = undef
  | 27 => v = undef
  | 28 => v = undef
  | 29 => v = undef
  | 30 => v = undef
  | 31 => v = undef
  | 32 => v = .bool true
  | 33 => v = .bool true
  | 34 => v = undef
  | 35 => v = undef
  | 36 => v = undef
  | 37 => v = undef
  | 38 => v = undef
  | 39 => v = .bool true
  | _ => True
theorem VRtB.mono {xq bc k nP cP b : Nat} {AP : Option Addr} {yn cy : Int} {yv cv : Nat} {tk : Int} {q i : Nat} {v : Value} {u u' : World} (he : Below u.heap.size u u') (h : VRtB xq bc k nP cP b AP yn cy yv cv tk i v u) : VRtB xq bc k nP cP b AP yn cy yv cv tk i v u' := by
  unfold VRtB at h ⊢
  split at h <;> exact h
def VRtC (xq bc k nP cP b : Nat) (AP : Option Addr) (yn cy : Int) (yv cv : Nat) (tk : Int) (i : Nat) (v : Value) (w : World) : Prop :=
  match i with
  | 0 => v = .int .i64 k
  | 1 => v = .pointer (some ⟨xq, 0, none⟩)
  | 2 => v = .pointer (some ⟨xq, 0, none⟩)
  | 3 => v = .pointer (some ⟨xq, 0, none⟩)
  | 4 => v = .slice (some ⟨b, 0, none⟩) nP cP
  | 5 => v = .int .i64 nP
  | 6 => v = .bool false
  | 7 => v = .bool false
  | 8 => v = .pointer (some ⟨xq, 0, none⟩)
  | 9 => v = .pointer (some ⟨xq, 0, none⟩)
  | 10 => v = .pointer (some ⟨xq, 0, none⟩)
  | 11 => v = .slice (some ⟨b, 0, none⟩) nP cP
  | 12 => v = .int .i64 k
  | 13 => v = .pointer (some ⟨b, 0 + k * 2, none⟩)
  | 14 => v = .pointer (some ⟨b, 0 + k * 2, none⟩)
  | 15 => v = .int .i64 yn
  | 16 => v = .pointer (some ⟨bc, 1, none⟩)
  | 17 => v = .int .i64 cy
  | 18 => v = .bool false
  | 19 => v = .bool false
  | 20 => v = .bool false
  | 21 => v = .pointer (some ⟨xq, 0, none⟩)
  | 22 => v = .pointer (some ⟨xq, 0, none⟩)
  | 23 => v = .pointer (some ⟨xq, 0, none⟩)
  | 24 => v = .slice (some ⟨b, 0, none⟩) nP cP
  | 25 => v = .int .i64 k
  | 26 => v = .pointer (some ⟨b, 0 + k * 2, none⟩)
  | 27 => v = .pointer (some ⟨b, 0 + k * 2 + 1, none⟩)
  | 28 => v = .int .u64 (yv : Nat)
  | 29 => v = .pointer (some ⟨bc, 2, none⟩)
  | 30 => v = .int .u64 (cv : Nat)
  | 31 => v = .bool true
  | 32 => v = .bool true
  | 33 => v = .bool true
  | 34 => v = undef
  | 35 => v = undef
  | 36 => v = undef
  | 37 => v = undef
  | 38 => v = undef
  | 39 => v = .bool true
  | _ => True
theorem VRtC.mono {xq bc k nP cP b : Nat} {AP : Option Addr} {yn cy : Int} {yv cv : Nat} {tk : Int} {q i : Nat} {v : Value} {u u' : World} (he : Below u.heap.size u u') (h : VRtC xq bc k nP cP b AP yn cy yv cv tk i v u) : VRtC xq bc k nP cP b AP yn cy yv cv tk i v u' := by
  unfold VRtC at h ⊢
  split at h <;> exact h
def VRtD (xq bc k nP cP b : Nat) (AP : Option Addr) (yn cy : Int) (yv cv : Nat) (tk : Int) (i : Nat) (v : Value) (w : World) : Prop :=
  match i with
  | 0 => v = .int .i64 k
  | 1 => v = .pointer (some ⟨xq, 0, none⟩)
  | 2 => v = .pointer (some ⟨xq, 0, none⟩)
  | 3 => v = .pointer (some ⟨xq, 0, none⟩)
  | 4 => v = .slice (some ⟨b, 0, none⟩) nP cP
  | 5 => v = .int .i64 nP
  | 6 => v = .bool false
  | 7 => v = .bool false
  | 8 => v = .pointer (some ⟨xq, 0, none⟩)
  | 9 => v = .pointer (some ⟨xq, 0, none⟩)
  | 10 => v = .pointer (some ⟨xq, 0, none⟩)
  | 11 => v = .slice (some ⟨b, 0, none⟩) nP cP
  | 12 => v = .int .i64 k
  | 13 => v = .pointer (some ⟨b, 0 + k * 2, none⟩)
  | 14 => v = .pointer (some ⟨b, 0 + k * 2, none⟩)
  | 15 => v = .int .i64 yn
  | 16 => v = .pointer (some ⟨bc, 1, none⟩)
  | 17 => v = .int .i64 cy
  | 18 => v = .bool false
  | 19 => v = .bool false
  | 20 => v = .bool false
  | 21 => v = .pointer (some ⟨xq, 0, none⟩)
  | 22 => v = .pointer (some ⟨xq, 0, none⟩)
  | 23 => v = .pointer (some ⟨xq, 0, none⟩)
  | 24 => v = .slice (some ⟨b, 0, none⟩) nP cP
  | 25 => v = .int .i64 k
  | 26 => v = .pointer (some ⟨b, 0 + k * 2, none⟩)
  | 27 => v = .pointer (some ⟨b, 0 + k * 2 + 1, none⟩)
  | 28 => v = .int .u64 (yv : Nat)
  | 29 => v = .pointer (some ⟨bc, 2, none⟩)
  | 30 => v = .int .u64 (cv : Nat)
  | 31 => v = .bool false
  | 32 => v = .bool false
  | 33 => v = .bool false
  | 34 => v = .pointer (some ⟨xq, 0, none⟩)
  | 35 => v = .pointer (some ⟨bc, 1, none⟩)
  | 36 => v = .int .i64 cy
  | 37 => v = .int .i64 tk
  | 38 => v = .bool true
  | 39 => v = .bool true
  | _ => True
theorem VRtD.mono {xq bc k nP cP b : Nat} {AP : Option Addr} {yn cy : Int} {yv cv : Nat} {tk : Int} {q i : Nat} {v : Value} {u u' : World} (he : Below u.heap.size u u') (h : VRtD xq bc k nP cP b AP yn cy yv cv tk i v u) : VRtD xq bc k nP cP b AP yn cy yv cv tk i v u' := by
  unfold VRtD at h ⊢
  split at h <;> exact h
def VRtE (xq bc k nP cP b : Nat) (AP : Option Addr) (yn cy : Int) (yv cv : Nat) (tk : Int) (i : Nat) (v : Value) (w : World) : Prop :=
  match i with
  | 0 => v = .int .i64 k
  | 1 => v = .pointer (some ⟨xq, 0, none⟩)
  | 2 => v = .pointer (some ⟨xq, 0, none⟩)
  | 3 => v = .pointer (some ⟨xq, 0, none⟩)
  | 4 => v = .slice (some ⟨b, 0, none⟩) nP cP
  | 5 => v = .int .i64 nP
  | 6 => v = .bool false
  | 7 => v = .bool false
  | 8 => v = .pointer (some ⟨xq, 0, none⟩)
  | 9 => v = .pointer (some ⟨xq, 0, none⟩)
  | 10 => v = .pointer (some ⟨xq, 0, none⟩)
  | 11 => v = .slice (some ⟨b, 0, none⟩) nP cP
  | 12 => v = .int .i64 k
  | 13 => v = .pointer (some ⟨b, 0 + k * 2, none⟩)
  | 14 => v = .pointer (some ⟨b, 0 + k * 2, none⟩)
  | 15 => v = .int .i64 yn
  | 16 => v = .pointer (some ⟨bc, 1, none⟩)
  | 17 => v = .int .i64 cy
  | 18 => v = .bool false
  | 19 => v = .bool false
  | 20 => v = .bool false
  | 21 => v = .pointer (some ⟨xq, 0, none⟩)
  | 22 => v = .pointer (some ⟨xq, 0, none⟩)
  | 23 => v = .pointer (some ⟨xq, 0, none⟩)
  | 24 => v = .slice (some ⟨b, 0, none⟩) nP cP
  | 25 => v = .int .i64 k
  | 26 => v = .pointer (some ⟨b, 0 + k * 2, none⟩)
  | 27 => v = .pointer (some ⟨b, 0 + k * 2 + 1, none⟩)
  | 28 => v = .int .u64 (yv : Nat)
  | 29 => v = .pointer (some ⟨bc, 2, none⟩)
  | 30 => v = .int .u64 (cv : Nat)
  | 31 => v = .bool false
  | 32 => v = .bool false
  | 33 => v = .bool false
  | 34 => v = .pointer (some ⟨xq, 0, none⟩)
  | 35 => v = .pointer (some ⟨bc, 1, none⟩)
  | 36 => v = .int .i64 cy
  | 37 => v = .int .i64 tk
  | 38 => v = .bool false
  | 39 => v = .bool false
  | _ => True
theorem VRtE.mono {xq bc k nP cP b : Nat} {AP : Option Addr} {yn cy : Int} {yv cv : Nat} {tk : Int} {q i : Nat} {v : Value} {u u' : World} (he : Below u.heap.size u u') (h : VRtE xq bc k nP cP b AP yn cy yv cv tk i v u) : VRtE xq bc k nP cP b AP yn cy yv cv tk i v u' := by
  unfold VRtE at h ⊢
  split at h <;> exact h

set_option maxRecDepth 100000 in
set_option maxHeartbeats 2000000 in
theorem rright_any (B xq : Nat) (P : List (Int × Nat)) (ws : List WI) (gv : Int) (A : Option Addr) (l : List Ch) (n c : Nat) (w : World) (h : RQ w B xq P ws gv) (hg : 0 ≤ gv ∧ gv ≤ 4611686018427387904) (hn : Hid (n = l.length)) (hm : n ≤ 1000000) (hL : InL w A l) :
    Calls Try.prog 55 #[.pointer (some ⟨xq, 0, none⟩), .slice A n c] w fun e w' => e = .returned (.bool (rightR P ws gv l)) ∧ Below w.heap.size w w' := by
  obtain ⟨nP, hnP⟩ : ∃ nP, nP = P.length := ⟨_, rfl⟩
  have hP1 : nP ≤ 48 := by rw [hnP]; exact h.sm.1
  have HN := Lib.hid hnP
  have H := Lib.hid (And.intro h (And.intro hg hL))
  obtain ⟨R, hR⟩ : ∃ R, R = rightR P ws gv l := ⟨_, rfl⟩
  rw [← hR]
  have HR0 := Lib.hid hR
  have HI : Hid (rightL ws (P.drop 0) (l.drop 0) = rightL ws P l ∧ Below w.heap.size w w) := Lib.hid ⟨rfl, Below.refl _ _⟩
  clear h hg hnP hL hR
  go_enter Try.func55, Try.ntmps55
  go_wp2_with fail
  go_loopw [5, 6] (fun kv iv wr => ∃ (k i : Nat), i ≤ n ∧ k ≤ nP ∧ kv = .int .i64 k ∧ iv = .int .i64 i ∧ Hid (rightL ws (P.drop k) (l.drop i) = rightL ws P l ∧ Below w.heap.size w wr)) (fun _ iv _ => n - (intOf iv).toNat)
  case atStart => exact ⟨0, 0, Nat.zero_le _, Nat.zero_le _, rfl, rfl, HI⟩
  case round =>
    clear HI
    obtain ⟨k, i, hi, hkP, rfl, rfl, HR⟩ := hrel
    have hr := H.out.1.below HR.out.2
    by_cases hin : i < n
    · have hiI : (i : Int) < (n : Int) := by omega
      have hil : i < l.length := by rw [← hn.out]; exact hin
      obtain ⟨bl, o, hA, _, hcs⟩ := (H.out.2.2.below HR.out.2) (by omega)
      obtain ⟨q0, q1, q2⟩ := hcs i hil
      have hst := rightL_step ws P l k i hil
      rw [HR.out.1] at hst
      obtain ⟨c', hc⟩ : ∃ c', c' = l[i]'hil := ⟨_, rfl⟩
      rw [← hc] at q0 q1 q2 hst
      obtain ⟨ck, cy, cv⟩ := c'
      dsimp only at q0 q1 q2 hst
      obtain ⟨w2, hw2⟩ : ∃ w2, w2 = wr.alloc (.cells #[.int .i64 ck, .int .i64 cy, .int .u64 (cv : Nat)] 49) := ⟨_, rfl⟩
      have b2 : Below wr.heap.size wr w2 := by rw [hw2]; exact ba _ _
      obtain ⟨bc, hbc⟩ : ∃ bc, bc = wr.heap.size := ⟨_, rfl⟩
      have k2 : Blk w2 bc 49 #[.int .i64 ck, .int .i64 cy, .int .u64 (cv : Nat)] := by rw [hw2, hbc]; exact Blk.new _ _ _
      have HB2 := Lib.hid (bt HR.out.2 b2)
      have HF : Hid (rightL ws P l = false → R = false) := Lib.hid (fun e => by rw [HR0.out]; unfold rightR; rw [e]; rfl)
      have HW2 := Lib.hid hw2
      have Hbc := Lib.hid hbc
      subst hA
      by_cases h3 : ck = 3
      · rw [if_pos h3] at hst
        subst h3
        by_cases hy : cy = 0
        · subst hy
          have HN2 : Hid (rightL ws (P.drop k) (l.drop (i + 1)) = rightL ws P l ∧ Below w.heap.size w w2) := Lib.hid ⟨by rw [hst]; simp, HB2.out⟩
          clear hr hil hcs hst hc hw2 b2 hbc k2 HR
          go_wp2
          rw [← HW2.out]
          go_roundw
          case rel => exact ⟨k, i + 1, by omega, by omega, rfl, by go_num, HN2⟩
          case measure => simp [intOf]; omega
        · have hyb : (cy != 0) = true := by simpa using hy
          have HX : Hid (R = false) := Lib.hid (HF.out (by rw [hst]; simp [hy]))
          clear hr hil hcs hst hc hw2 b2 hbc k2 HR
          go_wp2
          rw [← HW2.out]
          go_ret
          exact ⟨by rw [HX.out]; rfl, HB2.out⟩
      · rw [if_neg h3] at hst
        have h3b : (ck != 3) = true := by simpa using h3
        have h3c : (ck == 3) = false := by simpa using h3
        by_cases h4 : ck = 4
        · rw [if_pos h4] at hst
          subst h4
          have HTk := Lib.hid (fun u (hu : Below w2.heap.size w2 u) => rtaker_any B xq P ws gv cy u (hr.below (bt b2 hu)))
          obtain ⟨tk, htk⟩ : ∃ tk, tk = takR ws cy := ⟨_, rfl⟩
          rw [← htk] at HTk hst
          have d1 := k2.cell 1
          have d2 := k2.cell 2
          simp only [List.getElem?_toArray, List.getElem?_cons_zero, List.getElem?_cons_succ] at d1 d2
          obtain ⟨AP, cP, r0⟩ := (hr.below b2).ilen
          rw [← HN.out] at r0
          have hxl := World.block_lt_of_cell? _ _ r0
          have hbl := k2.lt
          have HY := Lib.hid (And.intro hst (hr.below b2))
          clear h3b h3c h3 hr hil hcs hst hc hw2 b2 hbc k2 HR
          go_wp2_with fail
          rw [← HW2.out, ← Hbc.out]
          clear q0 q1 q2
          have hst := HY.out.1
          by_cases hk : k < nP
          · have hkL : k < P.length := by rw [← HN.out]; exact hk
            rw [dif_pos hkL] at hst
            have hkI : decide ((nP : Int) ≤ (k : Int)) = false := decide_eq_false (by omega)
            have hkN : decide (nP ≤ k) = false := decide_eq_false (by omega)
            obtain ⟨b, cP', r0', r1, r2, hbb⟩ := HY.out.2.item k hkL
            rw [← HN.out] at r0'
            obtain ⟨rfl, rfl⟩ : AP = some ⟨b, 0, none⟩ ∧ cP = cP' := by rw [r0] at r0'; cases r0'; exact ⟨rfl, rfl⟩
            obtain ⟨y, hy⟩ : ∃ y, y = P[k]'hkL := ⟨_, rfl⟩
            rw [← hy] at r1 r2 hst
            obtain ⟨yn, yv⟩ := y
            dsimp only at r1 r2 hst
            have HZ := Lib.hid (And.intro hxl (And.intro hbb hbl))
            have Hz0 := Lib.hid r0
            have Hz1 := Lib.hid r1
            have Hz2 := Lib.hid r2
            have Hz3 := Lib.hid d1
            have Hz4 := Lib.hid d2
            have HS := Lib.hid hst
            clear HY r0 r0' r1 r2 d1 d2 hxl hbl hbb hkL hy htk hst
            by_cases e1 : yn = cy
            · by_cases e2 : yv = cv
              · by_cases e3 : tk = 0
                · have HN2 : Hid (rightL ws (P.drop (k + 1)) (l.drop (i + 1)) = rightL ws P l) := Lib.hid (by rw [HS.out]; simp [e1, e2, e3])
                  have e1b : (yn != cy) = false := by simpa using e1
                  have e2b : ((yv : Int) != (cv : Int)) = false := by simp [e2]
                  have e3b : (tk != 0) = false := by simpa using e3
                  clear e1 e2 e3
                  refine wp_region_invT (F := ?FE) (V := VRtE xq bc k nP cP b (some ⟨b, 0, none⟩) yn cy yv cv tk) (dead := fun _ => none) (T := fun _ _ => True) (C := fun u => Below w2.heap.size w2 u) (E := fun _ u u' => Below u.heap.size u u') (by kernel_rfl) (by kernel_rfl) (by kernel_rfl) (fun x => ?hFE) ?hmonoE ?hTmE ?hTE ?hCE ?stepE ?finE
                  case hFE => simp only [mkA, Act.put, List.setIfInBounds_toArray, List.set_cons_succ, List.set_cons_zero, Nat.reduceAdd, Nat.zero_add]; first | with_reducible rfl | rfl
                  case hmonoE => exact fun q' i v u u' he hik hwt hdd hv => VRtE.mono (q := q') he hv
                  case hTmE => exact fun _ _ _ _ _ _ _ _ => trivial
                  case hTE => exact fun j => trivial
                  case hCE => exact (Below.refl _ _).drew
                  case stepE =>
                    refine AllOps.cons (fun x u hC hT hp K hK => ?_) ?_
                    · clear hp hT
                      go_simp
                      refine hK _ _ _ hC (Below.refl _ _) (by exact rfl) ?_
                      first | (simp only [Act.put, List.setIfInBounds_toArray, List.set_cons_succ, List.set_cons_zero]; done) | simp [Act.put]
                    refine AllOps.cons (fun x u hC hT hp K hK => ?_) ?_
                    · clear hp hT
                      go_simp
                      refine hK _ _ _ hC (Below.refl _ _) (by exact rfl) ?_
                      first | (simp only [Act.put, List.setIfInBounds_toArray, List.set_cons_succ, List.set_cons_zero]; done) | simp [Act.put]
                    refine AllOps.cons (fun x u hC hT hp K hK => ?_) ?_
                    · simp [KnownTill, Region.binds, VRtE] at hp
                      clear hT
                      go_simp
                      refine hK _ _ _ hC (Below.refl _ _) (by exact rfl) ?_
                      first | (simp only [Act.put, List.setIfInBounds_toArray, List.set_cons_succ, List.set_cons_zero, hp]; done) | simp [Act.put, hp]
                    refine AllOps.cons (fun x u hC hT hp K hK => ?_) ?_
                    · simp [KnownTill, Region.binds, VRtE] at hp
                      clear hT
                      go_simp
                      refine hK _ _ _ hC (Below.refl _ _) (by exact rfl) ?_
                      first | (simp only [Act.put, List.setIfInBounds_toArray, List.set_cons_succ, List.set_cons_zero, hp]; done) | simp [Act.put, hp]
                    refine AllOps.cons (fun x u hC hT hp K hK => ?_) ?_
                    · simp [KnownTill, Region.binds, VRtE] at hp
                      clear hT
                      have qq := (show Below w2.heap.size w2 u from hC).cell (p := ⟨xq, 0, none⟩) HZ.out.1
                      rw [Hz0.out] at qq
                      go_simp
                      refine hK _ _ _ hC (Below.refl _ _) (by exact rfl) ?_
                      first | (simp only [Act.put, List.setIfInBounds_toArray, List.set_cons_succ, List.set_cons_zero, hp]; done) | simp [Act.put, hp]
                    refine AllOps.cons (fun x u hC hT hp K hK => ?_) ?_
                    · simp [KnownTill, Region.binds, VRtE] at hp
                      clear hT
                      go_simp
                      refine hK _ _ _ hC (Below.refl _ _) (by exact rfl) ?_
                      first | (simp only [Act.put, List.setIfInBounds_toArray, List.set_cons_succ, List.set_cons_zero, hp]; done) | simp [Act.put, hp]
                    refine AllOps.cons (fun x u hC hT hp K hK => ?_) ?_
                    · simp [KnownTill, Region.binds, VRtE] at hp
                      clear hT
                      go_simp
                      refine hK _ _ _ hC (Below.refl _ _) (by exact (by first | exact rfl | simp)) ?_
                      first | (simp only [Act.put, List.setIfInBounds_toArray, List.set_cons_succ, List.set_cons_zero, hp]; done) | simp [Act.put, hp]
                    refine AllOps.cons (fun x u hC hT hp K hK => ?_) ?_
                    · simp [KnownTill, Region.binds, VRtE] at hp
                      clear hT
                      go_simp
                      refine hK _ _ _ hC (Below.refl _ _) (by exact rfl) ?_
                      first | (simp only [Act.put, List.setIfInBounds_toArray, List.set_cons_succ, List.set_cons_zero, hp]; done) | simp [Act.put, hp]
                    refine AllOps.cons (fun x u hC hT hp K hK => ?_) ?_
                    · simp [KnownTill, Region.binds, VRtE] at hp
                      clear hT
                      go_simp
                      refine hK _ _ _ hC (Below.refl _ _) (by exact rfl) ?_
                      first | (simp only [Act.put, List.setIfInBounds_toArray, List.set_cons_succ, List.set_cons_zero, hp]; done) | simp [Act.put, hp]
                    refine AllOps.cons (fun x u hC hT hp K hK => ?_) ?_
                    · simp [KnownTill, Region.binds, VRtE] at hp
                      clear hT
                      go_simp
                      refine hK _ _ _ hC (Below.refl _ _) (by exact rfl) ?_
                      first | (simp only [Act.put, List.setIfInBounds_toArray, List.set_cons_succ, List.set_cons_zero, hp]; done) | simp [Act.put, hp]
                    refine AllOps.cons (fun x u hC hT hp K hK => ?_) ?_
                    · simp [KnownTill, Region.binds, VRtE] at hp
                      clear hT
                      go_simp
                      refine hK _ _ _ hC (Below.refl _ _) (by exact rfl) ?_
                      first | (simp only [Act.put, List.setIfInBounds_toArray, List.set_cons_succ, List.set_cons_zero, hp]; done) | simp [Act.put, hp]
                    refine AllOps.cons (fun x u hC hT hp K hK => ?_) ?_
                    · simp [KnownTill, Region.binds, VRtE] at hp
                      clear hT
                      have qq := (show Below w2.heap.size w2 u from hC).cell (p := ⟨xq, 0, none⟩) HZ.out.1
                      rw [Hz0.out] at qq
                      go_simp
                      refine hK _ _ _ hC (Below.refl _ _) (by exact rfl) ?_
                      first | (simp only [Act.put, List.setIfInBounds_toArray, List.set_cons_succ, List.set_cons_zero, hp]; done) | simp [Act.put, hp]
                    refine AllOps.cons (fun x u hC hT hp K hK => ?_) ?_
                    · simp [KnownTill, Region.binds, VRtE] at hp
                      clear hT
                      go_simp
                      refine hK _ _ _ hC (Below.refl _ _) (by exact rfl) ?_
                      first | (simp only [Act.put, List.setIfInBounds_toArray, List.set_cons_succ, List.set_cons_zero, hp]; done) | simp [Act.put, hp]
                    refine AllOps.cons (fun x u hC hT hp K hK => ?_) ?_
                    · simp [KnownTill, Region.binds, VRtE] at hp
                      clear hT
                      go_simp
                      refine hK _ _ _ hC (Below.refl _ _) (by exact rfl) ?_
                      first | (simp only [Act.put, List.setIfInBounds_toArray, List.set_cons_succ, List.set_cons_zero, hp]; done) | simp [Act.put, hp]
                    refine AllOps.cons (fun x u hC hT hp K hK => ?_) ?_
                    · simp [KnownTill, Region.binds, VRtE] at hp
                      clear hT
                      go_simp
                      refine hK _ _ _ hC (Below.refl _ _) (by exact rfl) ?_
                      first | (simp only [Act.put, List.setIfInBounds_toArray, List.set_cons_succ, List.set_cons_zero, hp]; done) | simp [Act.put, hp]
                    refine AllOps.cons (fun x u hC hT hp K hK => ?_) ?_
                    · simp [KnownTill, Region.binds, VRtE] at hp
                      clear hT
                      have qq := (show Below w2.heap.size w2 u from hC).cell (p := ⟨b, k * 2, none⟩) HZ.out.2.1
                      rw [Hz1.out] at qq
                      go_simp
                      refine hK _ _ _ hC (Below.refl _ _) (by exact rfl) ?_
                      first | (simp only [Act.put, List.setIfInBounds_toArray, List.set_cons_succ, List.set_cons_zero, hp]; done) | simp [Act.put, hp]
                    refine AllOps.cons (fun x u hC hT hp K hK => ?_) ?_
                    · simp [KnownTill, Region.binds, VRtE] at hp
                      clear hT
                      go_simp
                      refine hK _ _ _ hC (Below.refl _ _) (by exact rfl) ?_
                      first | (simp only [Act.put, List.setIfInBounds_toArray, List.set_cons_succ, List.set_cons_zero, hp]; done) | simp [Act.put, hp]
                    refine AllOps.cons (fun x u hC hT hp K hK => ?_) ?_
                    · simp [KnownTill, Region.binds, VRtE] at hp
                      clear hT
                      have qq := (show Below w2.heap.size w2 u from hC).cell (p := ⟨bc, 1, none⟩) HZ.out.2.2
                      rw [Hz3.out] at qq
                      go_simp
                      refine hK _ _ _ hC (Below.refl _ _) (by exact rfl) ?_
                      first | (simp only [Act.put, List.setIfInBounds_toArray, List.set_cons_succ, List.set_cons_zero, hp]; done) | simp [Act.put, hp]
                    refine AllOps.cons (fun x u hC hT hp K hK => ?_) ?_
                    · simp [KnownTill, Region.binds, VRtE] at hp
                      clear hT
                      go_simp
                      refine hK _ _ _ hC (Below.refl _ _) (by exact (by first | exact rfl | simp)) ?_
                      first | (simp only [Act.put, List.setIfInBounds_toArray, List.set_cons_succ, List.set_cons_zero, hp]; done) | simp [Act.put, hp]
                    refine AllOps.cons (fun x u hC hT hp K hK => ?_) ?_
                    · simp [KnownTill, Region.binds, VRtE] at hp
                      clear hT
                      go_simp
                      refine hK _ _ _ hC (Below.refl _ _) (by exact (by first | exact rfl | simp)) ?_
                      first | (simp only [Act.put, List.setIfInBounds_toArray, List.set_cons_succ, List.set_cons_zero, hp]; done) | simp [Act.put, hp]
                    refine AllOps.cons (fun x u hC hT hp K hK => ?_) ?_
                    · simp [KnownTill, Region.binds, VRtE] at hp
                      clear hT
                      go_simp
                      refine hK _ _ _ hC (Below.refl _ _) (by exact rfl) ?_
                      first | (simp only [Act.put, List.setIfInBounds_toArray, List.set_cons_succ, List.set_cons_zero, hp]; done) | simp [Act.put, hp]
                    refine AllOps.cons (fun x u hC hT hp K hK => ?_) ?_
                    · simp [KnownTill, Region.binds, VRtE] at hp
                      clear hT
                      go_simp
                      refine hK _ _ _ hC (Below.refl _ _) (by exact rfl) ?_
                      first | (simp only [Act.put, List.setIfInBounds_toArray, List.set_cons_succ, List.set_cons_zero, hp]; done) | simp [Act.put, hp]
                    refine AllOps.cons (fun x u hC hT hp K hK => ?_) ?_
                    · simp [KnownTill, Region.binds, VRtE] at hp
                      clear hT
                      go_simp
                      refine hK _ _ _ hC (Below.refl _ _) (by exact rfl) ?_
                      first | (simp only [Act.put, List.setIfInBounds_toArray, List.set_cons_succ, List.set_cons_zero, hp]; done) | simp [Act.put, hp]
                    refine AllOps.cons (fun x u hC hT hp K hK => ?_) ?_
                    · simp [KnownTill, Region.binds, VRtE] at hp
                      clear hT
                      go_simp
                      refine hK _ _ _ hC (Below.refl _ _) (by exact rfl) ?_
                      first | (simp only [Act.put, List.setIfInBounds_toArray, List.set_cons_succ, List.set_cons_zero, hp]; done) | simp [Act.put, hp]
                    refine AllOps.cons (fun x u hC hT hp K hK => ?_) ?_
                    · simp [KnownTill, Region.binds, VRtE] at hp
                      clear hT
                      have qq := (show Below w2.heap.size w2 u from hC).cell (p := ⟨xq, 0, none⟩) HZ.out.1
                      rw [Hz0.out] at qq
                      go_simp
                      refine hK _ _ _ hC (Below.refl _ _) (by exact rfl) ?_
                      first | (simp only [Act.put, List.setIfInBounds_toArray, List.set_cons_succ, List.set_cons_zero, hp]; done) | simp [Act.put, hp]
                    refine AllOps.cons (fun x u hC hT hp K hK => ?_) ?_
                    · simp [KnownTill, Region.binds, VRtE] at hp
                      clear hT
                      go_simp
                      refine hK _ _ _ hC (Below.refl _ _) (by exact rfl) ?_
                      first | (simp only [Act.put, List.setIfInBounds_toArray, List.set_cons_succ, List.set_cons_zero, hp]; done) | simp [Act.put, hp]
                    refine AllOps.cons (fun x u hC hT hp K hK => ?_) ?_
                    · simp [KnownTill, Region.binds, VRtE] at hp
                      clear hT
                      go_simp
                      refine hK _ _ _ hC (Below.refl _ _) (by exact rfl) ?_
                      first | (simp only [Act.put, List.setIfInBounds_toArray, List.set_cons_succ, List.set_cons_zero, hp]; done) | simp [Act.put, hp]
                    refine AllOps.cons (fun x u hC hT hp K hK => ?_) ?_
                    · simp [KnownTill, Region.binds, VRtE] at hp
                      clear hT
                      go_simp
                      refine hK _ _ _ hC (Below.refl _ _) (by exact rfl) ?_
                      first | (simp only [Act.put, List.setIfInBounds_toArray, List.set_cons_succ, List.set_cons_zero, hp]; done) | simp [Act.put, hp]
                    refine AllOps.cons (fun x u hC hT hp K hK => ?_) ?_
                    · simp [KnownTill, Region.binds, VRtE] at hp
                      clear hT
                      have qq := (show Below w2.heap.size w2 u from hC).cell (p := ⟨b, k * 2 + 1, none⟩) HZ.out.2.1
                      rw [Hz2.out] at qq
                      go_simp
                      refine hK _ _ _ hC (Below.refl _ _) (by exact rfl) ?_
                      first | (simp only [Act.put, List.setIfInBounds_toArray, List.set_cons_succ, List.set_cons_zero, hp]; done) | simp [Act.put, hp]
                    refine AllOps.cons (fun x u hC hT hp K hK => ?_) ?_
                    · simp [KnownTill, Region.binds, VRtE] at hp
                      clear hT
                      go_simp
                      refine hK _ _ _ hC (Below.refl _ _) (by exact rfl) ?_
                      first | (simp only [Act.put, List.setIfInBounds_toArray, List.set_cons_succ, List.set_cons_zero, hp]; done) | simp [Act.put, hp]
                    refine AllOps.cons (fun x u hC hT hp K hK => ?_) ?_
                    · simp [KnownTill, Region.binds, VRtE] at hp
                      clear hT
                      have qq := (show Below w2.heap.size w2 u from hC).cell (p := ⟨bc, 2, none⟩) HZ.out.2.2
                      rw [Hz4.out] at qq
                      go_simp
                      refine hK _ _ _ hC (Below.refl _ _) (by exact rfl) ?_
                      first | (simp only [Act.put, List.setIfInBounds_toArray, List.set_cons_succ, List.set_cons_zero, hp]; done) | simp [Act.put, hp]
                    refine AllOps.cons (fun x u hC hT hp K hK => ?_) ?_
                    · simp [KnownTill, Region.binds, VRtE] at hp
                      clear hT
                      go_simp
                      refine hK _ _ _ hC (Below.refl _ _) (by exact (by first | exact rfl | simp)) ?_
                      first | (simp only [Act.put, List.setIfInBounds_toArray, List.set_cons_succ, List.set_cons_zero, hp]; done) | simp [Act.put, hp]
                    refine AllOps.cons (fun x u hC hT hp K hK => ?_) ?_
                    · simp [KnownTill, Region.binds, VRtE] at hp
                      clear hT
                      go_simp
                      refine hK _ _ _ hC (Below.refl _ _) (by exact (by first | exact rfl | simp)) ?_
                      first | (simp only [Act.put, List.setIfInBounds_toArray, List.set_cons_succ, List.set_cons_zero, hp]; done) | simp [Act.put, hp]
                    refine AllOps.cons (fun x u hC hT hp K hK => ?_) ?_
                    · simp [KnownTill, Region.binds, VRtE] at hp
                      clear hT
                      go_simp
                      refine hK _ _ _ hC (Below.refl _ _) (by exact rfl) ?_
                      first | (simp only [Act.put, List.setIfInBounds_toArray, List.set_cons_succ, List.set_cons_zero, hp]; done) | simp [Act.put, hp]
                    refine AllOps.cons (fun x u hC hT hp K hK => ?_) ?_
                    · simp [KnownTill, Region.binds, VRtE] at hp
                      clear hT
                      go_simp
                      refine hK _ _ _ hC (Below.refl _ _) (by exact rfl) ?_
                      first | (simp only [Act.put, List.setIfInBounds_toArray, List.set_cons_succ, List.set_cons_zero, hp]; done) | simp [Act.put, hp]
                    refine AllOps.cons (fun x u hC hT hp K hK => ?_) ?_
                    · simp [KnownTill, Region.binds, VRtE] at hp
                      clear hT
                      go_simp
                      refine hK _ _ _ hC (Below.refl _ _) (by exact rfl) ?_
                      first | (simp only [Act.put, List.setIfInBounds_toArray, List.set_cons_succ, List.set_cons_zero, hp]; done) | simp [Act.put, hp]
                    refine AllOps.cons (fun x u hC hT hp K hK => ?_) ?_
                    · simp [KnownTill, Region.binds, VRtE] at hp
                      clear hT
                      have qq := (show Below w2.heap.size w2 u from hC).cell (p := ⟨bc, 1, none⟩) HZ.out.2.2
                      rw [Hz3.out] at qq
                      go_simp
                      refine hK _ _ _ hC (Below.refl _ _) (by exact rfl) ?_
                      first | (simp only [Act.put, List.setIfInBounds_toArray, List.set_cons_succ, List.set_cons_zero, hp]; done) | simp [Act.put, hp]
                    refine AllOps.cons (fun x u hC hT hp K hK => ?_) ?_
                    · simp [KnownTill, Region.binds, VRtE] at hp
                      clear hT
                      go_simp
                      refine (HTk.out u hC).mono ?_
                      rintro e wA ⟨rfl, hbA⟩
                      refine hK _ _ _ (bt hC hbA) hbA (by exact rfl) ?_
                      first | (simp only [Act.put, List.setIfInBounds_toArray, List.set_cons_succ, List.set_cons_zero, hp]; done) | simp [Act.put, hp]
                    refine AllOps.cons (fun x u hC hT hp K hK => ?_) ?_
                    · simp [KnownTill, Region.binds, VRtE] at hp
                      clear hT
                      go_simp
                      refine hK _ _ _ hC (Below.refl _ _) (by exact (by first | exact rfl | simp)) ?_
                      first | (simp only [Act.put, List.setIfInBounds_toArray, List.set_cons_succ, List.set_cons_zero, hp]; done) | simp [Act.put, hp]
                    refine AllOps.cons (fun x u hC hT hp K hK => ?_) ?_
                    · simp [KnownTill, Region.binds, VRtE] at hp
                      clear hT
                      go_simp
                      refine hK _ _ _ hC (Below.refl _ _) (by exact (by first | exact rfl | simp)) ?_
                      first | (simp only [Act.put, List.setIfInBounds_toArray, List.set_cons_succ, List.set_cons_zero, hp]; done) | simp [Act.put, hp]
                    exact AllOps.nil
                  case finE =>
                    intro x u hC hV
                    have e78 : x 39 = .bool false := hV 39 (by decide) rfl
                    rw [e78]
                    clear e78
                    clear hV
                    have HBu := Lib.hid (And.intro HN2.out (bt HB2.out (show Below w2.heap.size w2 u from hC)))
                    clear hC
                    go_wp2
                    go_roundw
                    case rel => exact ⟨k + 1, i + 1, by omega, by omega, by go_num, by go_num, HBu⟩
                    case measure => simp [intOf]; omega
                · have HX : Hid (R = false) := Lib.hid (HF.out (by rw [HS.out]; simp [e3]))
                  have e1b : (yn != cy) = false := by simpa using e1
                  have e2b : ((yv : Int) != (cv : Int)) = false := by simp [e2]
                  have e3b : (tk != 0) = true := by simpa using e3
                  clear e1 e2
                  refine wp_region_invT (F := ?FD) (V := VRtD xq bc k nP cP b (some ⟨b, 0, none⟩) yn cy yv cv tk) (dead := fun _ => none) (T := fun _ _ => True) (C := fun u => Below w2.heap.size w2 u) (E := fun _ u u' => Below u.heap.size u u') (by kernel_rfl) (by kernel_rfl) (by kernel_rfl) (fun x => ?hFD) ?hmonoD ?hTmD ?hTD ?hCD ?stepD ?finD
                  case hFD => simp only [mkA, Act.put, List.setIfInBounds_toArray, List.set_cons_succ, List.set_cons_zero, Nat.reduceAdd, Nat.zero_add]; first | with_reducible rfl | rfl
                  case hmonoD => exact fun q' i v u u' he hik hwt hdd hv => VRtD.mono (q := q') he hv
                  case hTmD => exact fun _ _ _ _ _ _ _ _ => trivial
                  case hTD => exact fun j => trivial
                  case hCD => exact (Below.refl _ _).drew
                  case stepD =>
                    refine AllOps.cons (fun x u hC hT hp K hK => ?_) ?_
                    · clear hp hT
                      go_simp
                      refine hK _ _ _ hC (Below.refl _ _) (by exact rfl) ?_
                      first | (simp only [Act.put, List.setIfInBounds_toArray, List.set_cons_succ, List.set_cons_zero]; done) | simp [Act.put]
                    refine AllOps.cons (fun x u hC hT hp K hK => ?_) ?_
                    · clear hp hT
                      go_simp
                      refine hK _ _ _ hC (Below.refl _ _) (by exact rfl) ?_
                      first | (simp only [Act.put, List.setIfInBounds_toArray, List.set_cons_succ, List.set_cons_zero]; done) | simp [Act.put]
                    refine AllOps.cons (fun x u hC hT hp K hK => ?_) ?_
                    · simp [KnownTill, Region.binds, VRtD] at hp
                      clear hT
                      go_simp
                      refine hK _ _ _ hC (Below.refl _ _) (by exact rfl) ?_
                      first | (simp only [Act.put, List.setIfInBounds_toArray, List.set_cons_succ, List.set_cons_zero, hp]; done) | simp [Act.put, hp]
                    refine AllOps.cons (fun x u hC hT hp K hK => ?_) ?_
                    · simp [KnownTill, Region.binds, VRtD] at hp
                      clear hT
                      go_simp
                      refine hK _ _ _ hC (Below.refl _ _) (by exact rfl) ?_
                      first | (simp only [Act.put, List.setIfInBounds_toArray, List.set_cons_succ, List.set_cons_zero, hp]; done) | simp [Act.put, hp]
                    refine AllOps.cons (fun x u hC hT hp K hK => ?_) ?_
                    · simp [KnownTill, Region.binds, VRtD] at hp
                      clear hT
                      have qq := (show Below w2.heap.size w2 u from hC).cell (p := ⟨xq, 0, none⟩) HZ.out.1
                      rw [Hz0.out] at qq
                      go_simp
                      refine hK _ _ _ hC (Below.refl _ _) (by exact rfl) ?_
                      first | (simp only [Act.put, List.setIfInBounds_toArray, List.set_cons_succ, List.set_cons_zero, hp]; done) | simp [Act.put, hp]
                    refine AllOps.cons (fun x u hC hT hp K hK => ?_) ?_
                    · simp [KnownTill, Region.binds, VRtD] at hp
                      clear hT
                      go_simp
                      refine hK _ _ _ hC (Below.refl _ _) (by exact rfl) ?_
                      first | (simp only [Act.put, List.setIfInBounds_toArray, List.set_cons_succ, List.set_cons_zero, hp]; done) | simp [Act.put, hp]
                    refine AllOps.cons (fun x u hC hT hp K hK => ?_) ?_
                    · simp [KnownTill, Region.binds, VRtD] at hp
                      clear hT
                      go_simp
                      refine hK _ _ _ hC (Below.refl _ _) (by exact (by first | exact rfl | simp)) ?_
                      first | (simp only [Act.put, List.setIfInBounds_toArray, List.set_cons_succ, List.set_cons_zero, hp]; done) | simp [Act.put, hp]
                    refine AllOps.cons (fun x u hC hT hp K hK => ?_) ?_
                    · simp [KnownTill, Region.binds, VRtD] at hp
                      clear hT
                      go_simp
                      refine hK _ _ _ hC (Below.refl _ _) (by exact rfl) ?_
                      first | (simp only [Act.put, List.setIfInBounds_toArray, List.set_cons_succ, List.set_cons_zero, hp]; done) | simp [Act.put, hp]
                    refine AllOps.cons (fun x u hC hT hp K hK => ?_) ?_
                    · simp [KnownTill, Region.binds, VRtD] at hp
                      clear hT
                      go_simp
                      refine hK _ _ _ hC (Below.refl _ _) (by exact rfl) ?_
                      first | (simp only [Act.put, List.setIfInBounds_toArray, List.set_cons_succ, List.set_cons_zero, hp]; done) | simp [Act.put, hp]
                    refine AllOps.cons (fun x u hC hT hp K hK => ?_) ?_
                    · simp [KnownTill, Region.binds, VRtD] at hp
                      clear hT
                      go_simp
                      refine hK _ _ _ hC (Below.refl _ _) (by exact rfl) ?_
                      first | (simp only [Act.put, List.setIfInBounds_toArray, List.set_cons_succ, List.set_cons_zero, hp]; done) | simp [Act.put, hp]
                    refine AllOps.cons (fun x u hC hT hp K hK => ?_) ?_
                    · simp [KnownTill, Region.binds, VRtD] at hp
                      clear hT
                      go_simp
                      refine hK _ _ _ hC (Below.refl _ _) (by exact rfl) ?_
                      first | (simp only [Act.put, List.setIfInBounds_toArray, List.set_cons_succ, List.set_cons_zero, hp]; done) | simp [Act.put, hp]
                    refine AllOps.cons (fun x u hC hT hp K hK => ?_) ?_
                    · simp [KnownTill, Region.binds, VRtD] at hp
                      clear hT
                      have qq := (show Below w2.heap.size w2 u from hC).cell (p := ⟨xq, 0, none⟩) HZ.out.1
                      rw [Hz0.out] at qq
                      go_simp
                      refine hK _ _ _ hC (Below.refl _ _) (by exact rfl) ?_
                      first | (simp only [Act.put, List.setIfInBounds_toArray, List.set_cons_succ, List.set_cons_zero, hp]; done) | simp [Act.put, hp]
                    refine AllOps.cons (fun x u hC hT hp K hK => ?_) ?_
                    · simp [KnownTill, Region.binds, VRtD] at hp
                      clear hT
                      go_simp
                      refine hK _ _ _ hC (Below.refl _ _) (by exact rfl) ?_
                      first | (simp only [Act.put, List.setIfInBounds_toArray, List.set_cons_succ, List.set_cons_zero, hp]; done) | simp [Act.put, hp]
                    refine AllOps.cons (fun x u hC hT hp K hK => ?_) ?_
                    · simp [KnownTill, Region.binds, VRtD] at hp
                      clear hT
                      go_simp
                      refine hK _ _ _ hC (Below.refl _ _) (by exact rfl) ?_
                      first | (simp only [Act.put, List.setIfInBounds_toArray, List.set_cons_succ, List.set_cons_zero, hp]; done) | simp [Act.put, hp]
                    refine AllOps.cons (fun x u hC hT hp K hK => ?_) ?_
                    · simp [KnownTill, Region.binds, VRtD] at hp
                      clear hT
                      go_simp
                      refine hK _ _ _ hC (Below.refl _ _) (by exact rfl) ?_
                      first | (simp only [Act.put, List.setIfInBounds_toArray, List.set_cons_succ, List.set_cons_zero, hp]; done) | simp [Act.put, hp]
                    refine AllOps.cons (fun x u hC hT hp K hK => ?_) ?_
                    · simp [KnownTill, Region.binds, VRtD] at hp
                      clear hT
                      have qq := (show Below w2.heap.size w2 u from hC).cell (p := ⟨b, k * 2, none⟩) HZ.out.2.1
                      rw [Hz1.out] at qq
                      go_simp
                      refine hK _ _ _ hC (Below.refl _ _) (by exact rfl) ?_
                      first | (simp only [Act.put, List.setIfInBounds_toArray, List.set_cons_succ, List.set_cons_zero, hp]; done) | simp [Act.put, hp]
                    refine AllOps.cons (fun x u hC hT hp K hK => ?_) ?_
                    · simp [KnownTill, Region.binds, VRtD] at hp
                      clear hT
                      go_simp
                      refine hK _ _ _ hC (Below.refl _ _) (by exact rfl) ?_
                      first | (simp only [Act.put, List.setIfInBounds_toArray, List.set_cons_succ, List.set_cons_zero, hp]; done) | simp [Act.put, hp]
                    refine AllOps.cons (fun x u hC hT hp K hK => ?_) ?_
                    · simp [KnownTill, Region.binds, VRtD] at hp
                      clear hT
                      have qq := (show Below w2.heap.size w2 u from hC).cell (p := ⟨bc, 1, none⟩) HZ.out.2.2
                      rw [Hz3.out] at qq
                      go_simp
                      refine hK _ _ _ hC (Below.refl _ _) (by exact rfl) ?_
                      first | (simp only [Act.put, List.setIfInBounds_toArray, List.set_cons_succ, List.set_cons_zero, hp]; done) | simp [Act.put, hp]
                    refine AllOps.cons (fun x u hC hT hp K hK => ?_) ?_
                    · simp [KnownTill, Region.binds, VRtD] at hp
                      clear hT
                      go_simp
                      refine hK _ _ _ hC (Below.refl _ _) (by exact (by first | exact rfl | simp)) ?_
                      first | (simp only [Act.put, List.setIfInBounds_toArray, List.set_cons_succ, List.set_cons_zero, hp]; done) | simp [Act.put, hp]
                    refine AllOps.cons (fun x u hC hT hp K hK => ?_) ?_
                    · simp [KnownTill, Region.binds, VRtD] at hp
                      clear hT
                      go_simp
                      refine hK _ _ _ hC (Below.refl _ _) (by exact (by first | exact rfl | simp)) ?_
                      first | (simp only [Act.put, List.setIfInBounds_toArray, List.set_cons_succ, List.set_cons_zero, hp]; done) | simp [Act.put, hp]
                    refine AllOps.cons (fun x u hC hT hp K hK => ?_) ?_
                    · simp [KnownTill, Region.binds, VRtD] at hp
                      clear hT
                      go_simp
                      refine hK _ _ _ hC (Below.refl _ _) (by exact rfl) ?_
                      first | (simp only [Act.put, List.setIfInBounds_toArray, List.set_cons_succ, List.set_cons_zero, hp]; done) | simp [Act.put, hp]
                    refine AllOps.cons (fun x u hC hT hp K hK => ?_) ?_
                    · simp [KnownTill, Region.binds, VRtD] at hp
                      clear hT
                      go_simp
                      refine hK _ _ _ hC (Below.refl _ _) (by exact rfl) ?_
                      first | (simp only [Act.put, List.setIfInBounds_toArray, List.set_cons_succ, List.set_cons_zero, hp]; done) | simp [Act.put, hp]
                    refine AllOps.cons (fun x u hC hT hp K hK => ?_) ?_
                    · simp [KnownTill, Region.binds, VRtD] at hp
                      clear hT
                      go_simp
                      refine hK _ _ _ hC (Below.refl _ _) (by exact rfl) ?_
                      first | (simp only [Act.put, List.setIfInBounds_toArray, List.set_cons_succ, List.set_cons_zero, hp]; done) | simp [Act.put, hp]
                    refine AllOps.cons (fun x u hC hT hp K hK => ?_) ?_
                    · simp [KnownTill, Region.binds, VRtD] at hp
                      clear hT
                      go_simp
                      refine hK _ _ _ hC (Below.refl _ _) (by exact rfl) ?_
                      first | (simp only [Act.put, List.setIfInBounds_toArray, List.set_cons_succ, List.set_cons_zero, hp]; done) | simp [Act.put, hp]
                    refine AllOps.cons (fun x u hC hT hp K hK => ?_) ?_
                    · simp [KnownTill, Region.binds, VRtD] at hp
                      clear hT
                      have qq := (show Below w2.heap.size w2 u from hC).cell (p := ⟨xq, 0, none⟩) HZ.out.1
                      rw [Hz0.out] at qq
                      go_simp
                      refine hK _ _ _ hC (Below.refl _ _) (by exact rfl) ?_
                      first | (simp only [Act.put, List.setIfInBounds_toArray, List.set_cons_succ, List.set_cons_zero, hp]; done) | simp [Act.put, hp]
                    refine AllOps.cons (fun x u hC hT hp K hK => ?_) ?_
                    · simp [KnownTill, Region.binds, VRtD] at hp
                      clear hT
                      go_simp
                      refine hK _ _ _ hC (Below.refl _ _) (by exact rfl) ?_
                      first | (simp only [Act.put, List.setIfInBounds_toArray, List.set_cons_succ, List.set_cons_zero, hp]; done) | simp [Act.put, hp]
                    refine AllOps.cons (fun x u hC hT hp K hK => ?_) ?_
                    · simp [KnownTill, Region.binds, VRtD] at hp
                      clear hT
                      go_simp
                      refine hK _ _ _ hC (Below.refl _ _) (by exact rfl) ?_
                      first | (simp only [Act.put, List.setIfInBounds_toArray, List.set_cons_succ, List.set_cons_zero, hp]; done) | simp [Act.put, hp]
                    refine AllOps.cons (fun x u hC hT hp K hK => ?_) ?_
                    · simp [KnownTill, Region.binds, VRtD] at hp
                      clear hT
                      go_simp
                      refine hK _ _ _ hC (Below.refl _ _) (by exact rfl) ?_
                      first | (simp only [Act.put, List.setIfInBounds_toArray, List.set_cons_succ, List.set_cons_zero, hp]; done) | simp [Act.put, hp]
                    refine AllOps.cons (fun x u hC hT hp K hK => ?_) ?_
                    · simp [KnownTill, Region.binds, VRtD] at hp
                      clear hT
                      have qq := (show Below w2.heap.size w2 u from hC).cell (p := ⟨b, k * 2 + 1, none⟩) HZ.out.2.1
                      rw [Hz2.out] at qq
                      go_simp
                      refine hK _ _ _ hC (Below.refl _ _) (by exact rfl) ?_
                      first | (simp only [Act.put, List.setIfInBounds_toArray, List.set_cons_succ, List.set_cons_zero, hp]; done) | simp [Act.put, hp]
                    refine AllOps.cons (fun x u hC hT hp K hK => ?_) ?_
                    · simp [KnownTill, Region.binds, VRtD] at hp
                      clear hT
                      go_simp
                      refine hK _ _ _ hC (Below.refl _ _) (by exact rfl) ?_
                      first | (simp only [Act.put, List.setIfInBounds_toArray, List.set_cons_succ, List.set_cons_zero, hp]; done) | simp [Act.put, hp]
                    refine AllOps.cons (fun x u hC hT hp K hK => ?_) ?_
                    · simp [KnownTill, Region.binds, VRtD] at hp
                      clear hT
                      have qq := (show Below w2.heap.size w2 u from hC).cell (p := ⟨bc, 2, none⟩) HZ.out.2.2
                      rw [Hz4.out] at qq
                      go_simp
                      refine hK _ _ _ hC (Below.refl _ _) (by exact rfl) ?_
                      first | (simp only [Act.put, List.setIfInBounds_toArray, List.set_cons_succ, List.set_cons_zero, hp]; done) | simp [Act.put, hp]
                    refine AllOps.cons (fun x u hC hT hp K hK => ?_) ?_
                    · simp [KnownTill, Region.binds, VRtD] at hp
                      clear hT
                      go_simp
                      refine hK _ _ _ hC (Below.refl _ _) (by exact (by first | exact rfl | simp)) ?_
                      first | (simp only [Act.put, List.setIfInBounds_toArray, List.set_cons_succ, List.set_cons_zero, hp]; done) | simp [Act.put, hp]
                    refine AllOps.cons (fun x u hC hT hp K hK => ?_) ?_
                    · simp [KnownTill, Region.binds, VRtD] at hp
                      clear hT
                      go_simp
                      refine hK _ _ _ hC (Below.refl _ _) (by exact (by first | exact rfl | simp)) ?_
                      first | (simp only [Act.put, List.setIfInBounds_toArray, List.set_cons_succ, List.set_cons_zero, hp]; done) | simp [Act.put, hp]
                    refine AllOps.cons (fun x u hC hT hp K hK => ?_) ?_
                    · simp [KnownTill, Region.binds, VRtD] at hp
                      clear hT
                      go_simp
                      refine hK _ _ _ hC (Below.refl _ _) (by exact rfl) ?_
                      first | (simp only [Act.put, List.setIfInBounds_toArray, List.set_cons_succ, List.set_cons_zero, hp]; done) | simp [Act.put, hp]
                    refine AllOps.cons (fun x u hC hT hp K hK => ?_) ?_
                    · simp [KnownTill, Region.binds, VRtD] at hp
                      clear hT
                      go_simp
                      refine hK _ _ _ hC (Below.refl _ _) (by exact rfl) ?_
                      first | (simp only [Act.put, List.setIfInBounds_toArray, List.set_cons_succ, List.set_cons_zero, hp]; done) | simp [Act.put, hp]
                    refine AllOps.cons (fun x u hC hT hp K hK => ?_) ?_
                    · simp [KnownTill, Region.binds, VRtD] at hp
                      clear hT
                      go_simp
                      refine hK _ _ _ hC (Below.refl _ _) (by exact rfl) ?_
                      first | (simp only [Act.put, List.setIfInBounds_toArray, List.set_cons_succ, List.set_cons_zero, hp]; done) | simp [Act.put, hp]
                    refine AllOps.cons (fun x u hC hT hp K hK => ?_) ?_
                    · simp [KnownTill, Region.binds, VRtD] at hp
                      clear hT
                      have qq := (show Below w2.heap.size w2 u from hC).cell (p := ⟨bc, 1, none⟩) HZ.out.2.2
                      rw [Hz3.out] at qq
                      go_simp
                      refine hK _ _ _ hC (Below.refl _ _) (by exact rfl) ?_
                      first | (simp only [Act.put, List.setIfInBounds_toArray, List.set_cons_succ, List.set_cons_zero, hp]; done) | simp [Act.put, hp]
                    refine AllOps.cons (fun x u hC hT hp K hK => ?_) ?_
                    · simp [KnownTill, Region.binds, VRtD] at hp
                      clear hT
                      go_simp
                      refine (HTk.out u hC).mono ?_
                      rintro e wA ⟨rfl, hbA⟩
                      refine hK _ _ _ (bt hC hbA) hbA (by exact rfl) ?_
                      first | (simp only [Act.put, List.setIfInBounds_toArray, List.set_cons_succ, List.set_cons_zero, hp]; done) | simp [Act.put, hp]
                    refine AllOps.cons (fun x u hC hT hp K hK => ?_) ?_
                    · simp [KnownTill, Region.binds, VRtD] at hp
                      clear hT
                      go_simp
                      refine hK _ _ _ hC (Below.refl _ _) (by exact (by first | exact rfl | simp)) ?_
                      first | (simp only [Act.put, List.setIfInBounds_toArray, List.set_cons_succ, List.set_cons_zero, hp]; done) | simp [Act.put, hp]
                    refine AllOps.cons (fun x u hC hT hp K hK => ?_) ?_
                    · simp [KnownTill, Region.binds, VRtD] at hp
                      clear hT
                      go_simp
                      refine hK _ _ _ hC (Below.refl _ _) (by exact (by first | exact rfl | simp)) ?_
                      first | (simp only [Act.put, List.setIfInBounds_toArray, List.set_cons_succ, List.set_cons_zero, hp]; done) | simp [Act.put, hp]
                    exact AllOps.nil
                  case finD =>
                    intro x u hC hV
                    have e78 : x 39 = .bool true := hV 39 (by decide) rfl
                    rw [e78]
                    clear e78
                    clear hV
                    have HBu := Lib.hid (bt HB2.out (show Below w2.heap.size w2 u from hC))
                    clear hC
                    go_wp2
                    go_ret
                    exact ⟨by rw [HX.out]; rfl, HBu.out⟩
              · have HX : Hid (R = false) := Lib.hid (HF.out (by rw [HS.out]; simp [e2]))
                have e1b : (yn != cy) = false := by simpa using e1
                have e2b : ((yv : Int) != (cv : Int)) = true := by simp; omega
                clear e1
                refine wp_region_invT (F := ?FC) (V := VRtC xq bc k nP cP b (some ⟨b, 0, none⟩) yn cy yv cv tk) (dead := fun _ => none) (T := fun _ _ => True) (C := fun u => Below w2.heap.size w2 u) (E := fun _ u u' => Below u.heap.size u u') (by kernel_rfl) (by kernel_rfl) (by kernel_rfl) (fun x => ?hFC) ?hmonoC ?hTmC ?hTC ?hCC ?stepC ?finC
                case hFC => simp only [mkA, Act.put, List.setIfInBounds_toArray, List.set_cons_succ, List.set_cons_zero, Nat.reduceAdd, Nat.zero_add]; first | with_reducible rfl | rfl
                case hmonoC => exact fun q' i v u u' he hik hwt hdd hv => VRtC.mono (q := q') he hv
                case hTmC => exact fun _ _ _ _ _ _ _ _ => trivial
                case hTC => exact fun j => trivial
                case hCC => exact (Below.refl _ _).drew
                case stepC =>
                  refine AllOps.cons (fun x u hC hT hp K hK => ?_) ?_
                  · clear hp hT
                    go_simp
                    refine hK _ _ _ hC (Below.refl _ _) (by exact rfl) ?_
                    first | (simp only [Act.put, List.setIfInBounds_toArray, List.set_cons_succ, List.set_cons_zero]; done) | simp [Act.put]
                  refine AllOps.cons (fun x u hC hT hp K hK => ?_) ?_
                  · clear hp hT
                    go_simp
                    refine hK _ _ _ hC (Below.refl _ _) (by exact rfl) ?_
                    first | (simp only [Act.put, List.setIfInBounds_toArray, List.set_cons_succ, List.set_cons_zero]; done) | simp [Act.put]
                  refine AllOps.cons (fun x u hC hT hp K hK => ?_) ?_
                  · simp [KnownTill, Region.binds, VRtC] at hp
                    clear hT
                    go_simp
                    refine hK _ _ _ hC (Below.refl _ _) (by exact rfl) ?_
                    first | (simp only [Act.put, List.setIfInBounds_toArray, List.set_cons_succ, List.set_cons_zero, hp]; done) | simp [Act.put, hp]
                  refine AllOps.cons (fun x u hC hT hp K hK => ?_) ?_
                  · simp [KnownTill, Region.binds, VRtC] at hp
                    clear hT
                    go_simp
                    refine hK _ _ _ hC (Below.refl _ _) (by exact rfl) ?_
                    first | (simp only [Act.put, List.setIfInBounds_toArray, List.set_cons_succ, List.set_cons_zero, hp]; done) | simp [Act.put, hp]
                  refine AllOps.cons (fun x u hC hT hp K hK => ?_) ?_
                  · simp [KnownTill, Region.binds, VRtC] at hp
                    clear hT
                    have qq := (show Below w2.heap.size w2 u from hC).cell (p := ⟨xq, 0, none⟩) HZ.out.1
                    rw [Hz0.out] at qq
                    go_simp
                    refine hK _ _ _ hC (Below.refl _ _) (by exact rfl) ?_
                    first | (simp only [Act.put, List.setIfInBounds_toArray, List.set_cons_succ, List.set_cons_zero, hp]; done) | simp [Act.put, hp]
                  refine AllOps.cons (fun x u hC hT hp K hK => ?_) ?_
                  · simp [KnownTill, Region.binds, VRtC] at hp
                    clear hT
                    go_simp
                    refine hK _ _ _ hC (Below.refl _ _) (by exact rfl) ?_
                    first | (simp only [Act.put, List.setIfInBounds_toArray, List.set_cons_succ, List.set_cons_zero, hp]; done) | simp [Act.put, hp]
                  refine AllOps.cons (fun x u hC hT hp K hK => ?_) ?_
                  · simp [KnownTill, Region.binds, VRtC] at hp
                    clear hT
                    go_simp
                    refine hK _ _ _ hC (Below.refl _ _) (by exact (by first | exact rfl | simp)) ?_
                    first | (simp only [Act.put, List.setIfInBounds_toArray, List.set_cons_succ, List.set_cons_zero, hp]; done) | simp [Act.put, hp]
                  refine AllOps.cons (fun x u hC hT hp K hK => ?_) ?_
                  · simp [KnownTill, Region.binds, VRtC] at hp
                    clear hT
                    go_simp
                    refine hK _ _ _ hC (Below.refl _ _) (by exact rfl) ?_
                    first | (simp only [Act.put, List.setIfInBounds_toArray, List.set_cons_succ, List.set_cons_zero, hp]; done) | simp [Act.put, hp]
                  refine AllOps.cons (fun x u hC hT hp K hK => ?_) ?_
                  · simp [KnownTill, Region.binds, VRtC] at hp
                    clear hT
                    go_simp
                    refine hK _ _ _ hC (Below.refl _ _) (by exact rfl) ?_
                    first | (simp only [Act.put, List.setIfInBounds_toArray, List.set_cons_succ, List.set_cons_zero, hp]; done) | simp [Act.put, hp]
                  refine AllOps.cons (fun x u hC hT hp K hK => ?_) ?_
                  · simp [KnownTill, Region.binds, VRtC] at hp
                    clear hT
                    go_simp
                    refine hK _ _ _ hC (Below.refl _ _) (by exact rfl) ?_
                    first | (simp only [Act.put, List.setIfInBounds_toArray, List.set_cons_succ, List.set_cons_zero, hp]; done) | simp [Act.put, hp]
                  refine AllOps.cons (fun x u hC hT hp K hK => ?_) ?_
                  · simp [KnownTill, Region.binds, VRtC] at hp
                    clear hT
                    go_simp
                    refine hK _ _ _ hC (Below.refl _ _) (by exact rfl) ?_
                    first | (simp only [Act.put, List.setIfInBounds_toArray, List.set_cons_succ, List.set_cons_zero, hp]; done) | simp [Act.put, hp]
                  refine AllOps.cons (fun x u hC hT hp K hK => ?_) ?_
                  · simp [KnownTill, Region.binds, VRtC] at hp
                    clear hT
                    have qq := (show Below w2.heap.size w2 u from hC).cell (p := ⟨xq, 0, none⟩) HZ.out.1
                    rw [Hz0.out] at qq
                    go_simp
                    refine hK _ _ _ hC (Below.refl _ _) (by exact rfl) ?_
                    first | (simp only [Act.put, List.setIfInBounds_toArray, List.set_cons_succ, List.set_cons_zero, hp]; done) | simp [Act.put, hp]
                  refine AllOps.cons (fun x u hC hT hp K hK => ?_) ?_
                  · simp [KnownTill, Region.binds, VRtC] at hp
                    clear hT
                    go_simp
                    refine hK _ _ _ hC (Below.refl _ _) (by exact rfl) ?_
                    first | (simp only [Act.put, List.setIfInBounds_toArray, List.set_cons_succ, List.set_cons_zero, hp]; done) | simp [Act.put, hp]
                  refine AllOps.cons (fun x u hC hT hp K hK => ?_) ?_
                  · simp [KnownTill, Region.binds, VRtC] at hp
                    clear hT
                    go_simp
                    refine hK _ _ _ hC (Below.refl _ _) (by exact rfl) ?_
                    first | (simp only [Act.put, List.setIfInBounds_toArray, List.set_cons_succ, List.set_cons_zero, hp]; done) | simp [Act.put, hp]
                  refine AllOps.cons (fun x u hC hT hp K hK => ?_) ?_
                  · simp [KnownTill, Region.binds, VRtC] at hp
                    clear hT
                    go_simp
                    refine hK _ _ _ hC (Below.refl _ _) (by exact rfl) ?_
                    first | (simp only [Act.put, List.setIfInBounds_toArray, List.set_cons_succ, List.set_cons_zero, hp]; done) | simp [Act.put, hp]
                  refine AllOps.cons (fun x u hC hT hp K hK => ?_) ?_
                  · simp [KnownTill, Region.binds, VRtC] at hp
                    clear hT
                    have qq := (show Below w2.heap.size w2 u from hC).cell (p := ⟨b, k * 2, none⟩) HZ.out.2.1
                    rw [Hz1.out] at qq
                    go_simp
                    refine hK _ _ _ hC (Below.refl _ _) (by exact rfl) ?_
                    first | (simp only [Act.put, List.setIfInBounds_toArray, List.set_cons_succ, List.set_cons_zero, hp]; done) | simp [Act.put, hp]
                  refine AllOps.cons (fun x u hC hT hp K hK => ?_) ?_
                  · simp [KnownTill, Region.binds, VRtC] at hp
                    clear hT
                    go_simp
                    refine hK _ _ _ hC (Below.refl _ _) (by exact rfl) ?_
                    first | (simp only [Act.put, List.setIfInBounds_toArray, List.set_cons_succ, List.set_cons_zero, hp]; done) | simp [Act.put, hp]
                  refine AllOps.cons (fun x u hC hT hp K hK => ?_) ?_
                  · simp [KnownTill, Region.binds, VRtC] at hp
                    clear hT
                    have qq := (show Below w2.heap.size w2 u from hC).cell (p := ⟨bc, 1, none⟩) HZ.out.2.2
                    rw [Hz3.out] at qq
                    go_simp
                    refine hK _ _ _ hC (Below.refl _ _) (by exact rfl) ?_
                    first | (simp only [Act.put, List.setIfInBounds_toArray, List.set_cons_succ, List.set_cons_zero, hp]; done) | simp [Act.put, hp]
                  refine AllOps.cons (fun x u hC hT hp K hK => ?_) ?_
                  · simp [KnownTill, Region.binds, VRtC] at hp
                    clear hT
                    go_simp
                    refine hK _ _ _ hC (Below.refl _ _) (by exact (by first | exact rfl | simp)) ?_
                    first | (simp only [Act.put, List.setIfInBounds_toArray, List.set_cons_succ, List.set_cons_zero, hp]; done) | simp [Act.put, hp]
                  refine AllOps.cons (fun x u hC hT hp K hK => ?_) ?_
                  · simp [KnownTill, Region.binds, VRtC] at hp
                    clear hT
                    go_simp
                    refine hK _ _ _ hC (Below.refl _ _) (by exact (by first | exact rfl | simp)) ?_
                    first | (simp only [Act.put, List.setIfInBounds_toArray, List.set_cons_succ, List.set_cons_zero, hp]; done) | simp [Act.put, hp]
                  refine AllOps.cons (fun x u hC hT hp K hK => ?_) ?_
                  · simp [KnownTill, Region.binds, VRtC] at hp
                    clear hT
                    go_simp
                    refine hK _ _ _ hC (Below.refl _ _) (by exact rfl) ?_
                    first | (simp only [Act.put, List.setIfInBounds_toArray, List.set_cons_succ, List.set_cons_zero, hp]; done) | simp [Act.put, hp]
                  refine AllOps.cons (fun x u hC hT hp K hK => ?_) ?_
                  · simp [KnownTill, Region.binds, VRtC] at hp
                    clear hT
                    go_simp
                    refine hK _ _ _ hC (Below.refl _ _) (by exact rfl) ?_
                    first | (simp only [Act.put, List.setIfInBounds_toArray, List.set_cons_succ, List.set_cons_zero, hp]; done) | simp [Act.put, hp]
                  refine AllOps.cons (fun x u hC hT hp K hK => ?_) ?_
                  · simp [KnownTill, Region.binds, VRtC] at hp
                    clear hT
                    go_simp
                    refine hK _ _ _ hC (Below.refl _ _) (by exact rfl) ?_
                    first | (simp only [Act.put, List.setIfInBounds_toArray, List.set_cons_succ, List.set_cons_zero, hp]; done) | simp [Act.put, hp]
                  refine AllOps.cons (fun x u hC hT hp K hK => ?_) ?_
                  · simp [KnownTill, Region.binds, VRtC] at hp
                    clear hT
                    go_simp
                    refine hK _ _ _ hC (Below.refl _ _) (by exact rfl) ?_
                    first | (simp only [Act.put, List.setIfInBounds_toArray, List.set_cons_succ, List.set_cons_zero, hp]; done) | simp [Act.put, hp]
                  refine AllOps.cons (fun x u hC hT hp K hK => ?_) ?_
                  · simp [KnownTill, Region.binds, VRtC] at hp
                    clear hT
                    have qq := (show Below w2.heap.size w2 u from hC).cell (p := ⟨xq, 0, none⟩) HZ.out.1
                    rw [Hz0.out] at qq
                    go_simp
                    refine hK _ _ _ hC (Below.refl _ _) (by exact rfl) ?_
                    first | (simp only [Act.put, List.setIfInBounds_toArray, List.set_cons_succ, List.set_cons_zero, hp]; done) | simp [Act.put, hp]
                  refine AllOps.cons (fun x u hC hT hp K hK => ?_) ?_
                  · simp [KnownTill, Region.binds, VRtC] at hp
                    clear hT
                    go_simp
                    refine hK _ _ _ hC (Below.refl _ _) (by exact rfl) ?_
                    first | (simp only [Act.put, List.setIfInBounds_toArray, List.set_cons_succ, List.set_cons_zero, hp]; done) | simp [Act.put, hp]
                  refine AllOps.cons (fun x u hC hT hp K hK => ?_) ?_
                  · simp [KnownTill, Region.binds, VRtC] at hp
                    clear hT
                    go_simp
                    refine hK _ _ _ hC (Below.refl _ _) (by exact rfl) ?_
                    first | (simp only [Act.put, List.setIfInBounds_toArray, List.set_cons_succ, List.set_cons_zero, hp]; done) | simp [Act.put, hp]
                  refine AllOps.cons (fun x u hC hT hp K hK => ?_) ?_
                  · simp [KnownTill, Region.binds, VRtC] at hp
                    clear hT
                    go_simp
                    refine hK _ _ _ hC (Below.refl _ _) (by exact rfl) ?_
                    first | (simp only [Act.put, List.setIfInBounds_toArray, List.set_cons_succ, List.set_cons_zero, hp]; done) | simp [Act.put, hp]
                  refine AllOps.cons (fun x u hC hT hp K hK => ?_) ?_
                  · simp [KnownTill, Region.binds, VRtC] at hp
                    clear hT
                    have qq := (show Below w2.heap.size w2 u from hC).cell (p := ⟨b, k * 2 + 1, none⟩) HZ.out.2.1
                    rw [Hz2.out] at qq
                    go_simp
                    refine hK _ _ _ hC (Below.refl _ _) (by exact rfl) ?_
                    first | (simp only [Act.put, List.setIfInBounds_toArray, List.set_cons_succ, List.set_cons_zero, hp]; done) | simp [Act.put, hp]
                  refine AllOps.cons (fun x u hC hT hp K hK => ?_) ?_
                  · simp [KnownTill, Region.binds, VRtC] at hp
                    clear hT
                    go_simp
                    refine hK _ _ _ hC (Below.refl _ _) (by exact rfl) ?_
                    first | (simp only [Act.put, List.setIfInBounds_toArray, List.set_cons_succ, List.set_cons_zero, hp]; done) | simp [Act.put, hp]
                  refine AllOps.cons (fun x u hC hT hp K hK => ?_) ?_
                  · simp [KnownTill, Region.binds, VRtC] at hp
                    clear hT
                    have qq := (show Below w2.heap.size w2 u from hC).cell (p := ⟨bc, 2, none⟩) HZ.out.2.2
                    rw [Hz4.out] at qq
                    go_simp
                    refine hK _ _ _ hC (Below.refl _ _) (by exact rfl) ?_
                    first | (simp only [Act.put, List.setIfInBounds_toArray, List.set_cons_succ, List.set_cons_zero, hp]; done) | simp [Act.put, hp]
                  refine AllOps.cons (fun x u hC hT hp K hK => ?_) ?_
                  · simp [KnownTill, Region.binds, VRtC] at hp
                    clear hT
                    go_simp
                    refine hK _ _ _ hC (Below.refl _ _) (by exact (by first | exact rfl | simp)) ?_
                    first | (simp only [Act.put, List.setIfInBounds_toArray, List.set_cons_succ, List.set_cons_zero, hp]; done) | simp [Act.put, hp]
                  refine AllOps.cons (fun x u hC hT hp K hK => ?_) ?_
                  · simp [KnownTill, Region.binds, VRtC] at hp
                    clear hT
                    go_simp
                    refine hK _ _ _ hC (Below.refl _ _) (by exact (by first | exact rfl | simp)) ?_
                    first | (simp only [Act.put, List.setIfInBounds_toArray, List.set_cons_succ, List.set_cons_zero, hp]; done) | simp [Act.put, hp]
                  refine AllOps.cons (fun x u hC hT hp K hK => ?_) ?_
                  · simp [KnownTill, Region.binds, VRtC] at hp
                    clear hT
                    go_simp
                    refine hK _ _ _ hC (Below.refl _ _) (by exact rfl) ?_
                    first | (simp only [Act.put, List.setIfInBounds_toArray, List.set_cons_succ, List.set_cons_zero, hp]; done) | simp [Act.put, hp]
                  refine AllOps.cons (fun x u hC hT hp K hK => ?_) ?_
                  · simp [KnownTill, Region.binds, VRtC] at hp
                    clear hT
                    go_simp
                    refine hK undef _ _ hC (Below.refl _ _) (by exact rfl) ?_
                    first | (simp only [Act.put, List.setIfInBounds_toArray, List.set_cons_succ, List.set_cons_zero, hp]; done) | simp [Act.put, hp]
                  refine AllOps.cons (fun x u hC hT hp K hK => ?_) ?_
                  · simp [KnownTill, Region.binds, VRtC] at hp
                    clear hT
                    go_simp
                    refine hK undef _ _ hC (Below.refl _ _) (by exact rfl) ?_
                    first | (simp only [Act.put, List.setIfInBounds_toArray, List.set_cons_succ, List.set_cons_zero, hp]; done) | simp [Act.put, hp]
                  refine AllOps.cons (fun x u hC hT hp K hK => ?_) ?_
                  · simp [KnownTill, Region.binds, VRtC] at hp
                    clear hT
                    go_simp
                    refine hK undef _ _ hC (Below.refl _ _) (by exact rfl) ?_
                    first | (simp only [Act.put, List.setIfInBounds_toArray, List.set_cons_succ, List.set_cons_zero, hp]; done) | simp [Act.put, hp]
                  refine AllOps.cons (fun x u hC hT hp K hK => ?_) ?_
                  · simp [KnownTill, Region.binds, VRtC] at hp
                    clear hT
                    go_simp
                    refine hK undef _ _ hC (Below.refl _ _) (by exact rfl) ?_
                    first | (simp only [Act.put, List.setIfInBounds_toArray, List.set_cons_succ, List.set_cons_zero, hp]; done) | simp [Act.put, hp]
                  refine AllOps.cons (fun x u hC hT hp K hK => ?_) ?_
                  · simp [KnownTill, Region.binds, VRtC] at hp
                    clear hT
                    go_simp
                    refine hK undef _ _ hC (Below.refl _ _) (by exact rfl) ?_
                    first | (simp only [Act.put, List.setIfInBounds_toArray, List.set_cons_succ, List.set_cons_zero, hp]; done) | simp [Act.put, hp]
                  refine AllOps.cons (fun x u hC hT hp K hK => ?_) ?_
                  · simp [KnownTill, Region.binds, VRtC] at hp
                    clear hT
                    go_simp
                    refine hK _ _ _ hC (Below.refl _ _) (by exact (by first | exact rfl | simp)) ?_
                    first | (simp only [Act.put, List.setIfInBounds_toArray, List.set_cons_succ, List.set_cons_zero, hp]; done) | simp [Act.put, hp]
                  exact AllOps.nil
                case finC =>
                  intro x u hC hV
                  have e78 : x 39 = .bool true := hV 39 (by decide) rfl
                  rw [e78]
                  clear e78
                  clear hV
                  have HBu := Lib.hid (bt HB2.out (show Below w2.heap.size w2 u from hC))
                  clear hC
                  go_wp2
                  go_ret
                  exact ⟨by rw [HX.out]; rfl, HBu.out⟩
            · have HX : Hid (R = false) := Lib.hid (HF.out (by rw [HS.out]; simp [e1]))
              have e1b : (yn != cy) = true := by simpa using e1
              refine wp_region_invT (F := ?FB) (V := VRtB xq bc k nP cP b (some ⟨b, 0, none⟩) yn cy yv cv tk) (dead := fun _ => none) (T := fun _ _ => True) (C := fun u => Below w2.heap.size w2 u) (E := fun _ u u' => Below u.heap.size u u') (by kernel_rfl) (by kernel_rfl) (by kernel_rfl) (fun x => ?hFB) ?hmonoB ?hTmB ?hTB ?hCB ?stepB ?finB
              case hFB => simp only [mkA, Act.put, List.setIfInBounds_toArray, List.set_cons_succ, List.set_cons_zero, Nat.reduceAdd, Nat.zero_add]; first | with_reducible rfl | rfl
              case hmonoB => exact fun q' i v u u' he hik hwt hdd hv => VRtB.mono (q := q') he hv
              case hTmB => exact fun _ _ _ _ _ _ _ _ => trivial
              case hTB => exact fun j => trivial
              case hCB => exact (Below.refl _ _).drew
              case stepB =>
                refine AllOps.cons (fun x u hC hT hp K hK => ?_) ?_
                · clear hp hT
                  go_simp
                  refine hK _ _ _ hC (Below.refl _ _) (by exact rfl) ?_
                  first | (simp only [Act.put, List.setIfInBounds_toArray, List.set_cons_succ, List.set_cons_zero]; done) | simp [Act.put]
                refine AllOps.cons (fun x u hC hT hp K hK => ?_) ?_
                · clear hp hT
                  go_simp
                  refine hK _ _ _ hC (Below.refl _ _) (by exact rfl) ?_
                  first | (simp only [Act.put, List.setIfInBounds_toArray, List.set_cons_succ, List.set_cons_zero]; done) | simp [Act.put]
                refine AllOps.cons (fun x u hC hT hp K hK => ?_) ?_
                · simp [KnownTill, Region.binds, VRtB] at hp
                  clear hT
                  go_simp
                  refine hK _ _ _ hC (Below.refl _ _) (by exact rfl) ?_
                  first | (simp only [Act.put, List.setIfInBounds_toArray, List.set_cons_succ, List.set_cons_zero, hp]; done) | simp [Act.put, hp]
                refine AllOps.cons (fun x u hC hT hp K hK => ?_) ?_
                · simp [KnownTill, Region.binds, VRtB] at hp
                  clear hT
                  go_simp
                  refine hK _ _ _ hC (Below.refl _ _) (by exact rfl) ?_
                  first | (simp only [Act.put, List.setIfInBounds_toArray, List.set_cons_succ, List.set_cons_zero, hp]; done) | simp [Act.put, hp]
                refine AllOps.cons (fun x u hC hT hp K hK => ?_) ?_
                · simp [KnownTill, Region.binds, VRtB] at hp
                  clear hT
                  have qq := (show Below w2.heap.size w2 u from hC).cell (p := ⟨xq, 0, none⟩) HZ.out.1
                  rw [Hz0.out] at qq
                  go_simp
                  refine hK _ _ _ hC (Below.refl _ _) (by exact rfl) ?_
                  first | (simp only [Act.put, List.setIfInBounds_toArray, List.set_cons_succ, List.set_cons_zero, hp]; done) | simp [Act.put, hp]
                refine AllOps.cons (fun x u hC hT hp K hK => ?_) ?_
                · simp [KnownTill, Region.binds, VRtB] at hp
                  clear hT
                  go_simp
                  refine hK _ _ _ hC (Below.refl _ _) (by exact rfl) ?_
                  first | (simp only [Act.put, List.setIfInBounds_toArray, List.set_cons_succ, List.set_cons_zero, hp]; done) | simp [Act.put, hp]
                refine AllOps.cons (fun x u hC hT hp K hK => ?_) ?_
                · simp [KnownTill, Region.binds, VRtB] at hp
                  clear hT
                  go_simp
                  refine hK _ _ _ hC (Below.refl _ _) (by exact (by first | exact rfl | simp)) ?_
                  first | (simp only [Act.put, List.setIfInBounds_toArray, List.set_cons_succ, List.set_cons_zero, hp]; done) | simp [Act.put, hp]
                refine AllOps.cons (fun x u hC hT hp K hK => ?_) ?_
                · simp [KnownTill, Region.binds, VRtB] at hp
                  clear hT
                  go_simp
                  refine hK _ _ _ hC (Below.refl _ _) (by exact rfl) ?_
                  first | (simp only [Act.put, List.setIfInBounds_toArray, List.set_cons_succ, List.set_cons_zero, hp]; done) | simp [Act.put, hp]
                refine AllOps.cons (fun x u hC hT hp K hK => ?_) ?_
                · simp [KnownTill, Region.binds, VRtB] at hp
                  clear hT
                  go_simp
                  refine hK _ _ _ hC (Below.refl _ _) (by exact rfl) ?_
                  first | (simp only [Act.put, List.setIfInBounds_toArray, List.set_cons_succ, List.set_cons_zero, hp]; done) | simp [Act.put, hp]
                refine AllOps.cons (fun x u hC hT hp K hK => ?_) ?_
                · simp [KnownTill, Region.binds, VRtB] at hp
                  clear hT
                  go_simp
                  refine hK _ _ _ hC (Below.refl _ _) (by exact rfl) ?_
                  first | (simp only [Act.put, List.setIfInBounds_toArray, List.set_cons_succ, List.set_cons_zero, hp]; done) | simp [Act.put, hp]
                refine AllOps.cons (fun x u hC hT hp K hK => ?_) ?_
                · simp [KnownTill, Region.binds, VRtB] at hp
                  clear hT
                  go_simp
                  refine hK _ _ _ hC (Below.refl _ _) (by exact rfl) ?_
                  first | (simp only [Act.put, List.setIfInBounds_toArray, List.set_cons_succ, List.set_cons_zero, hp]; done) | simp [Act.put, hp]
                refine AllOps.cons (fun x u hC hT hp K hK => ?_) ?_
                · simp [KnownTill, Region.binds, VRtB] at hp
                  clear hT
                  have qq := (show Below w2.heap.size w2 u from hC).cell (p := ⟨xq, 0, none⟩) HZ.out.1
                  rw [Hz0.out] at qq
                  go_simp
                  refine hK _ _ _ hC (Below.refl _ _) (by exact rfl) ?_
                  first | (simp only [Act.put, List.setIfInBounds_toArray, List.set_cons_succ, List.set_cons_zero, hp]; done) | simp [Act.put, hp]
                refine AllOps.cons (fun x u hC hT hp K hK => ?_) ?_
                · simp [KnownTill, Region.binds, VRtB] at hp
                  clear hT
                  go_simp
                  refine hK _ _ _ hC (Below.refl _ _) (by exact rfl) ?_
                  first | (simp only [Act.put, List.setIfInBounds_toArray, List.set_cons_succ, List.set_cons_zero, hp]; done) | simp [Act.put, hp]
                refine AllOps.cons (fun x u hC hT hp K hK => ?_) ?_
                · simp [KnownTill, Region.binds, VRtB] at hp
                  clear hT
                  go_simp
                  refine hK _ _ _ hC (Below.refl _ _) (by exact rfl) ?_
                  first | (simp only [Act.put, List.setIfInBounds_toArray, List.set_cons_succ, List.set_cons_zero, hp]; done) | simp [Act.put, hp]
                refine AllOps.cons (fun x u hC hT hp K hK => ?_) ?_
                · simp [KnownTill, Region.binds, VRtB] at hp
                  clear hT
                  go_simp
                  refine hK _ _ _ hC (Below.refl _ _) (by exact rfl) ?_
                  first | (simp only [Act.put, List.setIfInBounds_toArray, List.set_cons_succ, List.set_cons_zero, hp]; done) | simp [Act.put, hp]
                refine AllOps.cons (fun x u hC hT hp K hK => ?_) ?_
                · simp [KnownTill, Region.binds, VRtB] at hp
                  clear hT
                  have qq := (show Below w2.heap.size w2 u from hC).cell (p := ⟨b, k * 2, none⟩) HZ.out.2.1
                  rw [Hz1.out] at qq
                  go_simp
                  refine hK _ _ _ hC (Below.refl _ _) (by exact rfl) ?_
                  first | (simp only [Act.put, List.setIfInBounds_toArray, List.set_cons_succ, List.set_cons_zero, hp]; done) | simp [Act.put, hp]
                refine AllOps.cons (fun x u hC hT hp K hK => ?_) ?_
                · simp [KnownTill, Region.binds, VRtB] at hp
                  clear hT
                  go_simp
                  refine hK _ _ _ hC (Below.refl _ _) (by exact rfl) ?_
                  first | (simp only [Act.put, List.setIfInBounds_toArray, List.set_cons_succ, List.set_cons_zero, hp]; done) | simp [Act.put, hp]
                refine AllOps.cons (fun x u hC hT hp K hK => ?_) ?_
                · simp [KnownTill, Region.binds, VRtB] at hp
                  clear hT
                  have qq := (show Below w2.heap.size w2 u from hC).cell (p := ⟨bc, 1, none⟩) HZ.out.2.2
                  rw [Hz3.out] at qq
                  go_simp
                  refine hK _ _ _ hC (Below.refl _ _) (by exact rfl) ?_
                  first | (simp only [Act.put, List.setIfInBounds_toArray, List.set_cons_succ, List.set_cons_zero, hp]; done) | simp [Act.put, hp]
                refine AllOps.cons (fun x u hC hT hp K hK => ?_) ?_
                · simp [KnownTill, Region.binds, VRtB] at hp
                  clear hT
                  go_simp
                  refine hK _ _ _ hC (Below.refl _ _) (by exact (by first | exact rfl | simp)) ?_
                  first | (simp only [Act.put, List.setIfInBounds_toArray, List.set_cons_succ, List.set_cons_zero, hp]; done) | simp [Act.put, hp]
                refine AllOps.cons (fun x u hC hT hp K hK => ?_) ?_
                · simp [KnownTill, Region.binds, VRtB] at hp
                  clear hT
                  go_simp
                  refine hK _ _ _ hC (Below.refl _ _) (by exact (by first | exact rfl | simp)) ?_
                  first | (simp only [Act.put, List.setIfInBounds_toArray, List.set_cons_succ, List.set_cons_zero, hp]; done) | simp [Act.put, hp]
                refine AllOps.cons (fun x u hC hT hp K hK => ?_) ?_
                · simp [KnownTill, Region.binds, VRtB] at hp
                  clear hT
                  go_simp
                  refine hK _ _ _ hC (Below.refl _ _) (by exact rfl) ?_
                  first | (simp only [Act.put, List.setIfInBounds_toArray, List.set_cons_succ, List.set_cons_zero, hp]; done) | simp [Act.put, hp]
                refine AllOps.cons (fun x u hC hT hp K hK => ?_) ?_
                · simp [KnownTill, Region.binds, VRtB] at hp
                  clear hT
                  go_simp
                  refine hK undef _ _ hC (Below.refl _ _) (by exact rfl) ?_
                  first | (simp only [Act.put, List.setIfInBounds_toArray, List.set_cons_succ, List.set_cons_zero, hp]; done) | simp [Act.put, hp]
                refine AllOps.cons (fun x u hC hT hp K hK => ?_) ?_
                · simp [KnownTill, Region.binds, VRtB] at hp
                  clear hT
                  go_simp
                  refine hK undef _ _ hC (Below.refl _ _) (by exact rfl) ?_
                  first | (simp only [Act.put, List.setIfInBounds_toArray, List.set_cons_succ, List.set_cons_zero, hp]; done) | simp [Act.put, hp]
                refine AllOps.cons (fun x u hC hT hp K hK => ?_) ?_
                · simp [KnownTill, Region.binds, VRtB] at hp
                  clear hT
                  go_simp
                  refine hK undef _ _ hC (Below.refl _ _) (by exact rfl) ?_
                  first | (simp only [Act.put, List.setIfInBounds_toArray, List.set_cons_succ, List.set_cons_zero, hp]; done) | simp [Act.put, hp]
                refine AllOps.cons (fun x u hC hT hp K hK => ?_) ?_
                · simp [KnownTill, Region.binds, VRtB] at hp
                  clear hT
                  go_simp
                  refine hK undef _ _ hC (Below.refl _ _) (by exact rfl) ?_
                  first | (simp only [Act.put, List.setIfInBounds_toArray, List.set_cons_succ, List.set_cons_zero, hp]; done) | simp [Act.put, hp]
                refine AllOps.cons (fun x u hC hT hp K hK => ?_) ?_
                · simp [KnownTill, Region.binds, VRtB] at hp
                  clear hT
                  go_simp
                  refine hK undef _ _ hC (Below.refl _ _) (by exact rfl) ?_
                  first | (simp only [Act.put, List.setIfInBounds_toArray, List.set_cons_succ, List.set_cons_zero, hp]; done) | simp [Act.put, hp]
                refine AllOps.cons (fun x u hC hT hp K hK => ?_) ?_
                · simp [KnownTill, Region.binds, VRtB] at hp
                  clear hT
                  go_simp
                  refine hK undef _ _ hC (Below.refl _ _) (by exact rfl) ?_
                  first | (simp only [Act.put, List.setIfInBounds_toArray, List.set_cons_succ, List.set_cons_zero, hp]; done) | simp [Act.put, hp]
                refine AllOps.cons (fun x u hC hT hp K hK => ?_) ?_
                · simp [KnownTill, Region.binds, VRtB] at hp
                  clear hT
                  go_simp
                  refine hK undef _ _ hC (Below.refl _ _) (by exact rfl) ?_
                  first | (simp only [Act.put, List.setIfInBounds_toArray, List.set_cons_succ, List.set_cons_zero, hp]; done) | simp [Act.put, hp]
                refine AllOps.cons (fun x u hC hT hp K hK => ?_) ?_
                · simp [KnownTill, Region.binds, VRtB] at hp
                  clear hT
                  go_simp
                  refine hK undef _ _ hC (Below.refl _ _) (by exact rfl) ?_
                  first | (simp only [Act.put, List.setIfInBounds_toArray, List.set_cons_succ, List.set_cons_zero, hp]; done) | simp [Act.put, hp]
                refine AllOps.cons (fun x u hC hT hp K hK => ?_) ?_
                · simp [KnownTill, Region.binds, VRtB] at hp
                  clear hT
                  go_simp
                  refine hK undef _ _ hC (Below.refl _ _) (by exact rfl) ?_
                  first | (simp only [Act.put, List.setIfInBounds_toArray, List.set_cons_succ, List.set_cons_zero, hp]; done) | simp [Act.put, hp]
                refine AllOps.cons (fun x u hC hT hp K hK => ?_) ?_
                · simp [KnownTill, Region.binds, VRtB] at hp
                  clear hT
                  go_simp
                  refine hK undef _ _ hC (Below.refl _ _) (by exact rfl) ?_
                  first | (simp only [Act.put, List.setIfInBounds_toArray, List.set_cons_succ, List.set_cons_zero, hp]; done) | simp [Act.put, hp]
                refine AllOps.cons (fun x u hC hT hp K hK => ?_) ?_
                · simp [KnownTill, Region.binds, VRtB] at hp
                  clear hT
                  go_simp
                  refine hK undef _ _ hC (Below.refl _ _) (by exact rfl) ?_
                  first | (simp only [Act.put, List.setIfInBounds_toArray, List.set_cons_succ, List.set_cons_zero, hp]; done) | simp [Act.put, hp]
                refine AllOps.cons (fun x u hC hT hp K hK => ?_) ?_
                · simp [KnownTill, Region.binds, VRtB] at hp
                  clear hT
                  go_simp
                  refine hK _ _ _ hC (Below.refl _ _) (by exact (by first | exact rfl | simp)) ?_
                  first | (simp only [Act.put, List.setIfInBounds_toArray, List.set_cons_succ, List.set_cons_zero, hp]; done) | simp [Act.put, hp]
                refine AllOps.cons (fun x u hC hT hp K hK => ?_) ?_
                · simp [KnownTill, Region.binds, VRtB] at hp
                  clear hT
                  go_simp
                  refine hK _ _ _ hC (Below.refl _ _) (by exact rfl) ?_
                  first | (simp only [Act.put, List.setIfInBounds_toArray, List.set_cons_succ, List.set_cons_zero, hp]; done) | simp [Act.put, hp]
                refine AllOps.cons (fun x u hC hT hp K hK => ?_) ?_
                · simp [KnownTill, Region.binds, VRtB] at hp
                  clear hT
                  go_simp
                  refine hK undef _ _ hC (Below.refl _ _) (by exact rfl) ?_
                  first | (simp only [Act.put, List.setIfInBounds_toArray, List.set_cons_succ, List.set_cons_zero, hp]; done) | simp [Act.put, hp]
                refine AllOps.cons (fun x u hC hT hp K hK => ?_) ?_
                · simp [KnownTill, Region.binds, VRtB] at hp
                  clear hT
                  go_simp
                  refine hK undef _ _ hC (Below.refl _ _) (by exact rfl) ?_
                  first | (simp only [Act.put, List.setIfInBounds_toArray, List.set_cons_succ, List.set_cons_zero, hp]; done) | simp [Act.put, hp]
                refine AllOps.cons (fun x u hC hT hp K hK => ?_) ?_
                · simp [KnownTill, Region.binds, VRtB] at hp
                  clear hT
                  go_simp
                  refine hK undef _ _ hC (Below.refl _ _) (by exact rfl) ?_
                  first | (simp only [Act.put, List.setIfInBounds_toArray, List.set_cons_succ, List.set_cons_zero, hp]; done) | simp [Act.put, hp]
                refine AllOps.cons (fun x u hC hT hp K hK => ?_) ?_
                · simp [KnownTill, Region.binds, VRtB] at hp
                  clear hT
                  go_simp
                  refine hK undef _ _ hC (Below.refl _ _) (by exact rfl) ?_
                  first | (simp only [Act.put, List.setIfInBounds_toArray, List.set_cons_succ, List.set_cons_zero, hp]; done) | simp [Act.put, hp]
                refine AllOps.cons (fun x u hC hT hp K hK => ?_) ?_
                · simp [KnownTill, Region.binds, VRtB] at hp
                  clear hT
                  go_simp
                  refine hK undef _ _ hC (Below.refl _ _) (by exact rfl) ?_
                  first | (simp only [Act.put, List.setIfInBounds_toArray, List.set_cons_succ, List.set_cons_zero, hp]; done) | simp [Act.put, hp]
                refine AllOps.cons (fun x u hC hT hp K hK => ?_) ?_
                · simp [KnownTill, Region.binds, VRtB] at hp
                  clear hT
                  go_simp
                  refine hK _ _ _ hC (Below.refl _ _) (by exact (by first | exact rfl | simp)) ?_
                  first | (simp only [Act.put, List.setIfInBounds_toArray, List.set_cons_succ, List.set_cons_zero, hp]; done) | simp [Act.put, hp]
                exact AllOps.nil
              case finB =>
                intro x u hC hV
                have e78 : x 39 = .bool true := hV 39 (by decide) rfl
                rw [e78]
                clear e78
                clear hV
                have HBu := Lib.hid (bt HB2.out (show Below w2.heap.size w2 u from hC))
                clear hC
                go_wp2
                go_ret
                exact ⟨by rw [HX.out]; rfl, HBu.out⟩
          · have hkI : decide ((nP : Int) ≤ (k : Int)) = true := decide_eq_true (by omega)
            have hkN : decide (nP ≤ k) = true := decide_eq_true (by omega)
            rw [dif_neg (by rw [← HN.out]; exact hk)] at hst
            have HX : Hid (R = false) := Lib.hid (HF.out hst)
            have HZ := Lib.hid (And.intro hxl hbl)
            have Hz0 := Lib.hid r0
            clear HY r0 d1 d2 hxl hbl htk hst
            refine wp_region_invT (F := ?FA) (V := VRtA xq nP cP k AP) (dead := fun _ => none) (T := fun _ _ => True) (C := fun u => Below w2.heap.size w2 u) (E := fun _ u u' => Below u.heap.size u u') (by kernel_rfl) (by kernel_rfl) (by kernel_rfl) (fun x => ?hFA) ?hmonoA ?hTmA ?hTA ?hCA ?stepA ?finA
            case hFA => simp only [mkA, Act.put, List.setIfInBounds_toArray, List.set_cons_succ, List.set_cons_zero, Nat.reduceAdd, Nat.zero_add]; first | with_reducible rfl | rfl
            case hmonoA => exact fun q' i v u u' he hik hwt hdd hv => VRtA.mono (q := q') he hv
            case hTmA => exact fun _ _ _ _ _ _ _ _ => trivial
            case hTA => exact fun j => trivial
            case hCA => exact (Below.refl _ _).drew
            case stepA =>
              refine AllOps.cons (fun x u hC hT hp K hK => ?_) ?_
              · clear hp hT
                go_simp
                refine hK _ _ _ hC (Below.refl _ _) (by exact rfl) ?_
                first | (simp only [Act.put, List.setIfInBounds_toArray, List.set_cons_succ, List.set_cons_zero]; done) | simp [Act.put]
              refine AllOps.cons (fun x u hC hT hp K hK => ?_) ?_
              · clear hp hT
                go_simp
                refine hK _ _ _ hC (Below.refl _ _) (by exact rfl) ?_
                first | (simp only [Act.put, List.setIfInBounds_toArray, List.set_cons_succ, List.set_cons_zero]; done) | simp [Act.put]
              refine AllOps.cons (fun x u hC hT hp K hK => ?_) ?_
              · simp [KnownTill, Region.binds, VRtA] at hp
                clear hT
                go_simp
                refine hK _ _ _ hC (Below.refl _ _) (by exact rfl) ?_
                first | (simp only [Act.put, List.setIfInBounds_toArray, List.set_cons_succ, List.set_cons_zero, hp]; done) | simp [Act.put, hp]
              refine AllOps.cons (fun x u hC hT hp K hK => ?_) ?_
              · simp [KnownTill, Region.binds, VRtA] at hp
                clear hT
                go_simp
                refine hK _ _ _ hC (Below.refl _ _) (by exact rfl) ?_
                first | (simp only [Act.put, List.setIfInBounds_toArray, List.set_cons_succ, List.set_cons_zero, hp]; done) | simp [Act.put, hp]
              refine AllOps.cons (fun x u hC hT hp K hK => ?_) ?_
              · simp [KnownTill, Region.binds, VRtA] at hp
                clear hT
                have qq := (show Below w2.heap.size w2 u from hC).cell (p := ⟨xq, 0, none⟩) HZ.out.1
                rw [Hz0.out] at qq
                go_simp
                refine hK _ _ _ hC (Below.refl _ _) (by exact rfl) ?_
                first | (simp only [Act.put, List.setIfInBounds_toArray, List.set_cons_succ, List.set_cons_zero, hp]; done) | simp [Act.put, hp]
              refine AllOps.cons (fun x u hC hT hp K hK => ?_) ?_
              · simp [KnownTill, Region.binds, VRtA] at hp
                clear hT
                go_simp
                refine hK _ _ _ hC (Below.refl _ _) (by exact rfl) ?_
                first | (simp only [Act.put, List.setIfInBounds_toArray, List.set_cons_succ, List.set_cons_zero, hp]; done) | simp [Act.put, hp]
              refine AllOps.cons (fun x u hC hT hp K hK => ?_) ?_
              · simp [KnownTill, Region.binds, VRtA] at hp
                clear hT
                go_simp
                refine hK _ _ _ hC (Below.refl _ _) (by exact (by first | exact rfl | simp)) ?_
                first | (simp only [Act.put, List.setIfInBounds_toArray, List.set_cons_succ, List.set_cons_zero, hp]; done) | simp [Act.put, hp]
              refine AllOps.cons (fun x u hC hT hp K hK => ?_) ?_
              · simp [KnownTill, Region.binds, VRtA] at hp
                clear hT
                go_simp
                refine hK _ _ _ hC (Below.refl _ _) (by exact rfl) ?_
                first | (simp only [Act.put, List.setIfInBounds_toArray, List.set_cons_succ, List.set_cons_zero, hp]; done) | simp [Act.put, hp]
              refine AllOps.cons (fun x u hC hT hp K hK => ?_) ?_
              · simp [KnownTill, Region.binds, VRtA] at hp
                clear hT
                go_simp
                refine hK undef _ _ hC (Below.refl _ _) (by exact rfl) ?_
                first | (simp only [Act.put, List.setIfInBounds_toArray, List.set_cons_succ, List.set_cons_zero, hp]; done) | simp [Act.put, hp]
              refine AllOps.cons (fun x u hC hT hp K hK => ?_) ?_
              · simp [KnownTill, Region.binds, VRtA] at hp
                clear hT
                go_simp
                refine hK undef _ _ hC (Below.refl _ _) (by exact rfl) ?_
                first | (simp only [Act.put, List.setIfInBounds_toArray, List.set_cons_succ, List.set_cons_zero, hp]; done) | simp [Act.put, hp]
              refine AllOps.cons (fun x u hC hT hp K hK => ?_) ?_
              · simp [KnownTill, Region.binds, VRtA] at hp
                clear hT
                go_simp
                refine hK undef _ _ hC (Below.refl _ _) (by exact rfl) ?_
                first | (simp only [Act.put, List.setIfInBounds_toArray, List.set_cons_succ, List.set_cons_zero, hp]; done) | simp [Act.put, hp]
              refine AllOps.cons (fun x u hC hT hp K hK => ?_) ?_
              · simp [KnownTill, Region.binds, VRtA] at hp
                clear hT
                go_simp
                refine hK undef _ _ hC (Below.refl _ _) (by exact rfl) ?_
                first | (simp only [Act.put, List.setIfInBounds_toArray, List.set_cons_succ, List.set_cons_zero, hp]; done) | simp [Act.put, hp]
              refine AllOps.cons (fun x u hC hT hp K hK => ?_) ?_
              · simp [KnownTill, Region.binds, VRtA] at hp
                clear hT
                go_simp
                refine hK undef _ _ hC (Below.refl _ _) (by exact rfl) ?_
                first | (simp only [Act.put, List.setIfInBounds_toArray, List.set_cons_succ, List.set_cons_zero, hp]; done) | simp [Act.put, hp]
              refine AllOps.cons (fun x u hC hT hp K hK => ?_) ?_
              · simp [KnownTill, Region.binds, VRtA] at hp
                clear hT
                go_simp
                refine hK undef _ _ hC (Below.refl _ _) (by exact rfl) ?_
                first | (simp only [Act.put, List.setIfInBounds_toArray, List.set_cons_succ, List.set_cons_zero, hp]; done) | simp [Act.put, hp]
              refine AllOps.cons (fun x u hC hT hp K hK => ?_) ?_
              · simp [KnownTill, Region.binds, VRtA] at hp
                clear hT
                go_simp
                refine hK undef _ _ hC (Below.refl _ _) (by exact rfl) ?_
                first | (simp only [Act.put, List.setIfInBounds_toArray, List.set_cons_succ, List.set_cons_zero, hp]; done) | simp [Act.put, hp]
              refine AllOps.cons (fun x u hC hT hp K hK => ?_) ?_
              · simp [KnownTill, Region.binds, VRtA] at hp
                clear hT
                go_simp
                refine hK undef _ _ hC (Below.refl _ _) (by exact rfl) ?_
                first | (simp only [Act.put, List.setIfInBounds_toArray, List.set_cons_succ, List.set_cons_zero, hp]; done) | simp [Act.put, hp]
              refine AllOps.cons (fun x u hC hT hp K hK => ?_) ?_
              · simp [KnownTill, Region.binds, VRtA] at hp
                clear hT
                go_simp
                refine hK undef _ _ hC (Below.refl _ _) (by exact rfl) ?_
                first | (simp only [Act.put, List.setIfInBounds_toArray, List.set_cons_succ, List.set_cons_zero, hp]; done) | simp [Act.put, hp]
              refine AllOps.cons (fun x u hC hT hp K hK => ?_) ?_
              · simp [KnownTill, Region.binds, VRtA] at hp
                clear hT
                go_simp
                refine hK undef _ _ hC (Below.refl _ _) (by exact rfl) ?_
                first | (simp only [Act.put, List.setIfInBounds_toArray, List.set_cons_succ, List.set_cons_zero, hp]; done) | simp [Act.put, hp]
              refine AllOps.cons (fun x u hC hT hp K hK => ?_) ?_
              · simp [KnownTill, Region.binds, VRtA] at hp
                clear hT
                go_simp
                refine hK undef _ _ hC (Below.refl _ _) (by exact rfl) ?_
                first | (simp only [Act.put, List.setIfInBounds_toArray, List.set_cons_succ, List.set_cons_zero, hp]; done) | simp [Act.put, hp]
              refine AllOps.cons (fun x u hC hT hp K hK => ?_) ?_
              · simp [KnownTill, Region.binds, VRtA] at hp
                clear hT
                go_simp
                refine hK _ _ _ hC (Below.refl _ _) (by exact (by first | exact rfl | simp)) ?_
                first | (simp only [Act.put, List.setIfInBounds_toArray, List.set_cons_succ, List.set_cons_zero, hp]; done) | simp [Act.put, hp]
              refine AllOps.cons (fun x u hC hT hp K hK => ?_) ?_
              · simp [KnownTill, Region.binds, VRtA] at hp
                clear hT
                go_simp
                refine hK _ _ _ hC (Below.refl _ _) (by exact rfl) ?_
                first | (simp only [Act.put, List.setIfInBounds_toArray, List.set_cons_succ, List.set_cons_zero, hp]; done) | simp [Act.put, hp]
              refine AllOps.cons (fun x u hC hT hp K hK => ?_) ?_
              · simp [KnownTill, Region.binds, VRtA] at hp
                clear hT
                go_simp
                refine hK undef _ _ hC (Below.refl _ _) (by exact rfl) ?_
                first | (simp only [Act.put, List.setIfInBounds_toArray, List.set_cons_succ, List.set_cons_zero, hp]; done) | simp [Act.put, hp]
              refine AllOps.cons (fun x u hC hT hp K hK => ?_) ?_
              · simp [KnownTill, Region.binds, VRtA] at hp
                clear hT
                go_simp
                refine hK undef _ _ hC (Below.refl _ _) (by exact rfl) ?_
                first | (simp only [Act.put, List.setIfInBounds_toArray, List.set_cons_succ, List.set_cons_zero, hp]; done) | simp [Act.put, hp]
              refine AllOps.cons (fun x u hC hT hp K hK => ?_) ?_
              · simp [KnownTill, Region.binds, VRtA] at hp
                clear hT
                go_simp
                refine hK undef _ _ hC (Below.refl _ _) (by exact rfl) ?_
                first | (simp only [Act.put, List.setIfInBounds_toArray, List.set_cons_succ, List.set_cons_zero, hp]; done) | simp [Act.put, hp]
              refine AllOps.cons (fun x u hC hT hp K hK => ?_) ?_
              · simp [KnownTill, Region.binds, VRtA] at hp
                clear hT
                go_simp
                refine hK undef _ _ hC (Below.refl _ _) (by exact rfl) ?_
                first | (simp only [Act.put, List.setIfInBounds_toArray, List.set_cons_succ, List.set_cons_zero, hp]; done) | simp [Act.put, hp]
              refine AllOps.cons (fun x u hC hT hp K hK => ?_) ?_
              · simp [KnownTill, Region.binds, VRtA] at hp
                clear hT
                go_simp
                refine hK undef _ _ hC (Below.refl _ _) (by exact rfl) ?_
                first | (simp only [Act.put, List.setIfInBounds_toArray, List.set_cons_succ, List.set_cons_zero, hp]; done) | simp [Act.put, hp]
              refine AllOps.cons (fun x u hC hT hp K hK => ?_) ?_
              · simp [KnownTill, Region.binds, VRtA] at hp
                clear hT
                go_simp
                refine hK undef _ _ hC (Below.refl _ _) (by exact rfl) ?_
                first | (simp only [Act.put, List.setIfInBounds_toArray, List.set_cons_succ, List.set_cons_zero, hp]; done) | simp [Act.put, hp]
              refine AllOps.cons (fun x u hC hT hp K hK => ?_) ?_
              · simp [KnownTill, Region.binds, VRtA] at hp
                clear hT
                go_simp
                refine hK undef _ _ hC (Below.refl _ _) (by exact rfl) ?_
                first | (simp only [Act.put, List.setIfInBounds_toArray, List.set_cons_succ, List.set_cons_zero, hp]; done) | simp [Act.put, hp]
              refine AllOps.cons (fun x u hC hT hp K hK => ?_) ?_
              · simp [KnownTill, Region.binds, VRtA] at hp
                clear hT
                go_simp
                refine hK undef _ _ hC (Below.refl _ _) (by exact rfl) ?_
                first | (simp only [Act.put, List.setIfInBounds_toArray, List.set_cons_succ, List.set_cons_zero, hp]; done) | simp [Act.put, hp]
              refine AllOps.cons (fun x u hC hT hp K hK => ?_) ?_
              · simp [KnownTill, Region.binds, VRtA] at hp
                clear hT
                go_simp
                refine hK undef _ _ hC (Below.refl _ _) (by exact rfl) ?_
                first | (simp only [Act.put, List.setIfInBounds_toArray, List.set_cons_succ, List.set_cons_zero, hp]; done) | simp [Act.put, hp]
              refine AllOps.cons (fun x u hC hT hp K hK => ?_) ?_
              · simp [KnownTill, Region.binds, VRtA] at hp
                clear hT
                go_simp
                refine hK undef _ _ hC (Below.refl _ _) (by exact rfl) ?_
                first | (simp only [Act.put, List.setIfInBounds_toArray, List.set_cons_succ, List.set_cons_zero, hp]; done) | simp [Act.put, hp]
              refine AllOps.cons (fun x u hC hT hp K hK => ?_) ?_
              · simp [KnownTill, Region.binds, VRtA] at hp
                clear hT
                go_simp
                refine hK undef _ _ hC (Below.refl _ _) (by exact rfl) ?_
                first | (simp only [Act.put, List.setIfInBounds_toArray, List.set_cons_succ, List.set_cons_zero, hp]; done) | simp [Act.put, hp]
              refine AllOps.cons (fun x u hC hT hp K hK => ?_) ?_
              · simp [KnownTill, Region.binds, VRtA] at hp
                clear hT
                go_simp
                refine hK _ _ _ hC (Below.refl _ _) (by exact (by first | exact rfl | simp)) ?_
                first | (simp only [Act.put, List.setIfInBounds_toArray, List.set_cons_succ, List.set_cons_zero, hp]; done) | simp [Act.put, hp]
              refine AllOps.cons (fun x u hC hT hp K hK => ?_) ?_
              · simp [KnownTill, Region.binds, VRtA] at hp
                clear hT
                go_simp
                refine hK _ _ _ hC (Below.refl _ _) (by exact rfl) ?_
                first | (simp only [Act.put, List.setIfInBounds_toArray, List.set_cons_succ, List.set_cons_zero, hp]; done) | simp [Act.put, hp]
              refine AllOps.cons (fun x u hC hT hp K hK => ?_) ?_
              · simp [KnownTill, Region.binds, VRtA] at hp
                clear hT
                go_simp
                refine hK undef _ _ hC (Below.refl _ _) (by exact rfl) ?_
                first | (simp only [Act.put, List.setIfInBounds_toArray, List.set_cons_succ, List.set_cons_zero, hp]; done) | simp [Act.put, hp]
              refine AllOps.cons (fun x u hC hT hp K hK => ?_) ?_
              · simp [KnownTill, Region.binds, VRtA] at hp
                clear hT
                go_simp
                refine hK undef _ _ hC (Below.refl _ _) (by exact rfl) ?_
                first | (simp only [Act.put, List.setIfInBounds_toArray, List.set_cons_succ, List.set_cons_zero, hp]; done) | simp [Act.put, hp]
              refine AllOps.cons (fun x u hC hT hp K hK => ?_) ?_
              · simp [KnownTill, Region.binds, VRtA] at hp
                clear hT
                go_simp
                refine hK undef _ _ hC (Below.refl _ _) (by exact rfl) ?_
                first | (simp only [Act.put, List.setIfInBounds_toArray, List.set_cons_succ, List.set_cons_zero, hp]; done) | simp [Act.put, hp]
              refine AllOps.cons (fun x u hC hT hp K hK => ?_) ?_
              · simp [KnownTill, Region.binds, VRtA] at hp
                clear hT
                go_simp
                refine hK undef _ _ hC (Below.refl _ _) (by exact rfl) ?_
                first | (simp only [Act.put, List.setIfInBounds_toArray, List.set_cons_succ, List.set_cons_zero, hp]; done) | simp [Act.put, hp]
              refine AllOps.cons (fun x u hC hT hp K hK => ?_) ?_
              · simp [KnownTill, Region.binds, VRtA] at hp
                clear hT
                go_simp
                refine hK undef _ _ hC (Below.refl _ _) (by exact rfl) ?_
                first | (simp only [Act.put, List.setIfInBounds_toArray, List.set_cons_succ, List.set_cons_zero, hp]; done) | simp [Act.put, hp]
              refine AllOps.cons (fun x u hC hT hp K hK => ?_) ?_
              · simp [KnownTill, Region.binds, VRtA] at hp
                clear hT
                go_simp
                refine hK _ _ _ hC (Below.refl _ _) (by exact (by first | exact rfl | simp)) ?_
                first | (simp only [Act.put, List.setIfInBounds_toArray, List.set_cons_succ, List.set_cons_zero, hp]; done) | simp [Act.put, hp]
              exact AllOps.nil
            case finA =>
              intro x u hC hV
              have e78 : x 39 = .bool true := hV 39 (by decide) rfl
              rw [e78]
              clear e78
              clear hV
              have HBu := Lib.hid (bt HB2.out (show Below w2.heap.size w2 u from hC))
              clear hC
              go_wp2
              go_ret
              exact ⟨by rw [HX.out]; rfl, HBu.out⟩
        · have h4b : (ck != 4) = true := by simpa using h4
          have h4c : (ck == 4) = false := by simpa using h4
          rw [if_neg h4] at hst
          have HX : Hid (R = false) := Lib.hid (HF.out hst)
          clear hr hil hcs hst hc hw2 b2 hbc k2 HR
          go_wp2
          rw [← HW2.out]
          go_ret
          exact ⟨by rw [HX.out]; rfl, HB2.out⟩
    · obtain rfl : i = n := by omega
      have hiI : ¬ (i : Int) < (i : Int) := by omega
      have hT : rightL ws P l = true := by
        rw [← HR.out.1, show l.drop i = [] from List.drop_eq_nil_of_le (by rw [← hn.out]; exact Nat.le_refl _)]
        cases P.drop k <;> rfl
      have HPu := Lib.hid (fun u (hu : Below wr.heap.size wr u) => refputs_any A l i c u hn (by omega) (H.out.2.2.below (bt HR.out.2 hu)))
      have HRo := Lib.hid (fun u (hu : Below wr.heap.size wr u) => rroom_any B xq P ws gv u (hr.below hu) H.out.2.1)
      have hple := putsL_le l
      obtain ⟨pz, hpz⟩ : ∃ pz, pz = putsL l := ⟨_, rfl⟩
      rw [← hpz] at HPu hple
      obtain ⟨rm, hrm⟩ : ∃ rm, rm = roomR P ws gv := ⟨_, rfl⟩
      rw [← hrm] at HRo
      have HR2 : Hid (R = (decide (pz = 0) || decide ((pz : Int) ≤ rm))) := Lib.hid (by rw [HR0.out]; unfold rightR; rw [hT, ← hpz, ← hrm]; rfl)
      have HB := Lib.hid HR.out.2
      clear hr hT hpz hrm HR
      go_wp2_with fail
      refine (HPu.out wr (Below.refl _ _)).mono ?_
      rintro e w3 ⟨rfl, b3⟩
      have HB3 := Lib.hid b3
      clear b3
      by_cases h0 : pz = 0
      · subst h0
        have HX : Hid (R = true ∧ Below w.heap.size w w3) := Lib.hid ⟨by rw [HR2.out]; rfl, bt HB.out HB3.out⟩
        go_wp2
        go_ret
        exact ⟨by rw [HX.out.1]; rfl, HX.out.2⟩
      · have h0b : ((pz : Int) == 0) = false := by simpa using h0
        go_wp2_with fail
        refine (HPu.out w3 HB3.out).mono ?_
        rintro e w4 ⟨rfl, b4⟩
        have HB4 := Lib.hid (bt HB3.out b4)
        clear b4
        go_wp2_with fail
        refine (HRo.out w4 HB4.out).mono ?_
        rintro e w5 ⟨rfl, b5⟩
        have HX : Hid (R = decide ((pz : Int) ≤ rm) ∧ Below w.heap.size w w5) := Lib.hid ⟨by rw [HR2.out]; simp [h0], bt HB.out (bt HB4.out b5)⟩
        clear b5
        go_wp2
        go_ret
        exact ⟨by rw [HX.out.1]; rfl, HX.out.2⟩
end Go.Proofs.Ytfcafahgmnnlnaa.Qu

namespace Go.Proofs.Ytfcafahgmnnlnaa.Qu
open Go.RowKit Go.Maps Go.Joins Go.Deep
set_option linter.unusedVariables false
set_option linter.unusedSimpArgs false

/-- A work that lies is put behind the others. -/
theorem RQ.addAt {w : World} {B x : Nat} {P : List (Int × Nat)} {ws : List WI} {gv : Int} (h : RQ w B x P ws gv) (z : WI) (hk' : Blk w z.q 78 #[.int .i64 z.n, .slice z.A z.l.length z.c, .bool z.p]) (hBq : B ≤ z.q) (hown : OwnC w B z.A z.c z.l) (hq : ∀ y ∈ ws, y.q ≠ z.q) (hA : ∀ y ∈ ws, ∀ r, blk y.A = some r → blk z.A ≠ some r) (hzl : z.l.length ≤ 300) (hl : ws.length < 100) :
    ∃ AW nW cW A3 c3 w3, w.cell? ⟨x, 1, none⟩ = some (.slice AW nW cW) ∧ nW ≤ 100 ∧
      (Builtin.append_ #[27, 27] 27 #[.slice AW nW cW, .slice (some ⟨w.heap.size, 0, none⟩) 1 1]).run Try.prog (w.alloc (.cells #[.pointer (some ⟨z.q, 0, none⟩)] 46)) = .ok (.slice A3 (nW + 1) c3) w3 ∧
      w3.cell? ⟨x, 1, none⟩ = some (.slice AW nW cW) ∧ w3.frozen? ⟨x, 1, none⟩ = false ∧
      RQ (w3.setCell ⟨x, 1, none⟩ (.slice A3 (nW + 1) c3)) B x P (ws ++ [z]) gv ∧ RG B w (w3.setCell ⟨x, 1, none⟩ (.slice A3 (nW + 1) c3)) x (fun _ => False) := by
  obtain ⟨AP, nP, cP, AW, nW, cW, hk, hnP, hnW, hpr, hpt⟩ := h.ex
  obtain ⟨w2, hw2⟩ : ∃ w2, w2 = w.alloc (.cells #[.pointer (some ⟨z.q, 0, none⟩)] 46) := ⟨_, rfl⟩
  have b12 : Below w.heap.size w w2 := by rw [hw2]; exact ba _ _
  have kp : Blk w2 w.heap.size 46 #[.pointer (some ⟨z.q, 0, none⟩)] := by rw [hw2]; exact Blk.new _ _ _
  rw [← hw2]
  have h2 := h.below b12
  obtain ⟨hwk, hds, hsm⟩ := And.intro h2.wk (And.intro h2.ds h2.sm)
  have hk2 := hk.below b12 hk.lt
  have hg12 := lbelow_grown b12 (some x)
  have hpt2 : OwnPt w2 B AW cW (ws.map WI.q) := own_kept hpt hk (by decide) hg12
  have hpr2 : OwnPr w2 B AP cP P := own_kept hpr hk (by decide) hg12
  have kn2 := hk'.below b12 hk'.lt
  have ow2 : OwnC w2 B z.A z.c z.l := own_kept hown hk (by decide) hg12
  have hs2 := b12.size
  have hkn := hk'.lt
  obtain ⟨A3, c3, w3, hrun, own3, hg3⟩ := pt_more hpt2 nW (by rw [List.length_map]; exact hnW) (by omega) z.q w.heap.size (by omega) (kp.cell 0)
  have hxne : blk AW ≠ some x := own_ne hpt2 hk2 (by decide)
  have hk3 : Blk w3 x 29 #[.slice AP nP cP, .slice AW nW cW, .int .i64 gv] := hk2.kept hg3 (fun e => hxne e.symm)
  have hgs := lgrown_set w3 ⟨x, 1, none⟩ (.slice A3 (nW + 1) c3)
  have hnb : ∀ {t : TypeId} {g : Nat} {cs : Array Value}, Blk w2 g t cs → 46 ≠ t → some g ≠ blk AW := fun hb ht e => own_ne hpt2 hb ht e.symm
  have hpb : ∀ r, blk AW = some r → ∃ cs fz, w2.heap[r]? = some (.cells cs 46 fz) := fun r e => by
    rcases hpt2.2 with ⟨h1, h2⟩ | ⟨g', cap', cur', h1, hbb', hg', _⟩
    · injection h1 with e1 _ _
      rw [e1] at e
      cases e
    · injection h1 with e1 _ _
      rw [e1] at e
      injection e with e
      have e : g' = r := e
      subst e
      exact ⟨_, _, hg'⟩
  have hok : ∀ {k n c m : Nat} {t : TypeId} {A : Option Addr} {vs : List Value}, w2.ownsRow B t k (.slice A n c) m vs → t ≠ 46 → w3.ownsRow B t k (.slice A n c) m vs := fun {k n c m t A vs} ho ht =>
    own_same ho fun r hr ⟨cs, fz, e⟩ _ => hg3.block r hr (fun e2 => by
      obtain ⟨cs2, fz2, e3⟩ := hpb r e2.symm
      rw [e3] at e
      injection e with e
      injection e with _ e _
      exact ht e.symm)
  refine ⟨AW, nW, cW, A3, c3, w3, hk.cell 1, by omega, hrun, hk3.cell 1, hk3.frozen 1, ?_, ?_⟩
  · have hwk3 : ∀ y ∈ ws ++ [z], B ≤ y.q ∧ Blk w3 y.q 78 #[.int .i64 y.n, .slice y.A y.l.length y.c, .bool y.p] ∧ OwnC w3 B y.A y.c y.l := fun y hy => by
      rcases List.mem_append.1 hy with hy | hy
      · obtain ⟨g1, g2, g3⟩ := hwk y hy
        exact ⟨g1, g2.kept hg3 (hnb g2 (by decide)), hok g3 (by decide)⟩
      · obtain rfl := List.mem_singleton.1 hy
        exact ⟨hBq, kn2.kept hg3 (hnb kn2 (by decide)), hok ow2 (by decide)⟩
    have own3' : OwnPt w3 B A3 c3 ((ws ++ [z]).map WI.q) := by rw [List.map_append]; exact own3
    have ks := hk3.set_ 1 (.slice A3 (nW + 1) c3)
    refine ⟨⟨AP, nP, cP, A3, nW + 1, c3, ks, hnP, by rw [List.length_append, hnW]; rfl, own_kept (hok hpr2 (by decide)) hk3 (by decide) hgs, ?_⟩, wk_kept hwk3 hk3 hgs, ?_, hsm.1, ?_, ?_⟩
    · have := own3'
      unfold OwnPt at this ⊢
      exact own_kept this hk3 (by decide) hgs
    · rw [List.pairwise_append]
      refine ⟨hds, List.pairwise_singleton _ _, fun a ha b hb => ?_⟩
      obtain rfl := List.mem_singleton.1 hb
      exact ⟨hq a ha, hA a ha⟩
    · rw [List.length_append]; simp; omega
    · intro y hy
      rcases List.mem_append.1 hy with hy | hy
      · exact hsm.2.2 y hy
      · obtain rfl := List.mem_singleton.1 hy
        exact hzl
  · have r12 : RG B w w2 x (fun _ => False) := RG.of hg12
    refine (r12.trans (⟨hg3.os, hg3.tape, hg3.output, hg3.size, fun k hb hk' hx => hg3.block k hk' (fun e => by have := (World.ownsRow.lt hpt2 k (by rw [ownBlock_slice]; exact e.symm)).1; omega), fun k hk' hx => ?_⟩ : RG B w2 w3 x (fun _ => False)) (fun _ _ h => h)).trans (RG.of hgs) (fun _ _ h => h)
    by_cases e : blk AW = some k
    · exact .inr (.inl (hpb k e))
    · exact .inl (hg3.block k hk' (fun e' => e e'.symm))
def restR (P : List (Int × Nat)) (ws : List WI) (gv n : Int) (l : List Ch) : Int := if n < 1 then 1 else if rightR P ws gv l = false then 1 else if (findW ws n).isSome then 7 else 0
/-- What Restore leaves. -/
def RRestO (w : World) (B x : Nat) (P : List (Int × Nat)) (ws : List WI) (gv n : Int) (l : List Ch) (e : Ending) (w' : World) : Prop :=
  e = .returned (.int .i64 (restR P ws gv n l)) ∧ RG B w w' x (fun _ => False) ∧
    (((restR P ws gv n l ≠ 0 ∨ l = []) ∧ RQ w' B x P ws gv) ∨
     (restR P ws gv n l = 0 ∧ l ≠ [] ∧ ∃ q A c, w.heap.size ≤ q ∧ RQ w' B x P (ws ++ [⟨q, n, A, c, l, true⟩]) gv ∧ ∀ r, blk A = some r → w.heap.size ≤ r))
set_option maxRecDepth 100000 in
set_option maxHeartbeats 1000000 in
theorem rrest_any (B x : Nat) (P : List (Int × Nat)) (ws : List WI) (gv n : Int) (A : Option Addr) (l : List Ch) (q c : Nat) (w : World) (h : RQ w B x P ws gv) (hg : 0 ≤ gv ∧ gv ≤ 4611686018427387904) (hB : B ≤ w.heap.size) (hl : ws.length < 100) (hq : Hid (q = l.length)) (hqm : q ≤ 300) (hc : InL w A l) :
    Calls Try.prog 36 #[.pointer (some ⟨x, 0, none⟩), .int .i64 n, .slice A q c] w (RRestO w B x P ws gv n l) := by
  have HR := Lib.hid (rright_any B x P ws gv A l q c w h hg hq (by omega) hc)
  have H := Lib.hid (And.intro h (And.intro hB (And.intro hl hc)))
  rcases a1 : decide (n < 1) with _ | _
  · have p1 : ¬ n < 1 := of_decide_eq_false a1
    rcases ha : rightR P ws gv l with _ | _
    · rw [ha] at HR
      have HX : Hid (∀ w', Below w.heap.size w w' → RRestO w B x P ws gv n l (.returned (.int .i64 1)) w') := Lib.hid (fun w' hb => by
        have e : restR P ws gv n l = 1 := by unfold restR; rw [if_neg p1, if_pos ha]
        exact ⟨by rw [e], RG.of (lbelow_grown hb _), .inl ⟨.inl (by rw [e]; decide), h.below hb⟩⟩)
      clear h ha hc hg hB hl
      go_enter Try.func36, Try.ntmps36
      go_wp2_with fail
      refine HR.out.mono ?_
      rintro e w1 ⟨rfl, b1⟩
      have HY := Lib.hid (HX.out w1 b1)
      clear b1
      go_wp2
      go_ret
      exact HY.out
    · rw [ha] at HR
      have HF := fun (w' : World) (hb : Below w.heap.size w w') => rfind_any B x P ws gv n w' (h.below hb)
      rcases hf : findW ws n with _ | z
      · rw [hf] at HF
        have HFF := Lib.hid HF
        have hE : restR P ws gv n l = 0 := by unfold restR; rw [if_neg p1, if_neg (by rw [ha]; simp), hf]; rfl
        have HE := Lib.hid hE
        clear h ha hc hg hB hl HF hf hE
        go_enter Try.func36, Try.ntmps36
        go_wp2_with fail
        refine HR.out.mono ?_
        rintro e wr ⟨rfl, b1⟩
        have HF1 := Lib.hid (HFF.out wr b1)
        have HB1 := Lib.hid b1
        clear b1 HR HFF
        go_wp2_with fail
        refine HF1.out.mono ?_
        rintro e w2 ⟨rfl, rfl⟩
        dsimp only [Option.map_none]
        clear HF1
        by_cases hq0 : q = 0
        · have HX : Hid (RRestO w B x P ws gv n l (.returned (.int .i64 0)) wr) := Lib.hid ⟨by rw [HE.out], RG.of (lbelow_grown HB1.out _), .inl ⟨.inr (List.eq_nil_of_length_eq_zero (by rw [← hq.out]; exact hq0)), H.out.1.below HB1.out⟩⟩
          have hqI : ¬ (0 : Int) < (q : Int) := by omega
          subst hq0
          go_wp2
          go_ret
          exact HX.out
        · have hqI : (0 : Int) < (q : Int) := by omega
          have hqn : (q : Int) ≤ 300 := by omega
          have hln : l ≠ [] := fun e => hq0 (by rw [hq.out, e]; rfl)
          have hRr := H.out.1.below HB1.out
          have hcr := H.out.2.2.2.below HB1.out
          have hBr := Nat.le_trans H.out.2.1 HB1.out.size
          obtain ⟨q1, hq1⟩ : ∃ q1, q1 = wr.heap.size := ⟨_, rfl⟩
          obtain ⟨w1, hw1⟩ : ∃ w1, w1 = wr.alloc (.cells #[.int .i64 n, .slice none 0 0, .bool true] 78) := ⟨_, rfl⟩
          have b1 : Below wr.heap.size wr w1 := by rw [hw1]; exact ba _ _
          have k1 : Blk w1 q1 78 #[.int .i64 n, .slice none 0 0, .bool true] := by rw [hw1, hq1]; exact Blk.new _ _ _
          have hcs := hcr.below b1
          obtain ⟨A2, c2, w2, hrun, own2, g2, hat2⟩ := ch_app (OwnC.nil w1 w1.heap.size) A c l 0 q rfl hq.out (fun b o e i hi => by
            obtain ⟨b', o', e', _, hc⟩ := hcs (by omega)
            rw [e] at e'
            cases e'
            exact hc i hi) (fun hp => by obtain ⟨b', o', e', _⟩ := hcs hp; exact ⟨b', o', e'⟩) (Nat.le_refl _) (by simp; have := hq.out; omega) (Nat.le_refl _)
          rw [Nat.zero_add] at hrun
          rw [List.nil_append] at own2
          have b2 : Below w1.heap.size w1 w2 := ⟨g2.os, g2.tape, g2.output, g2.size, fun k hk => g2.block k hk (by simp [blk])⟩
          have k2 := k1.below b2 k1.lt
          have d2 : w2.cell? ⟨q1, 1, none⟩ = some (.slice none 0 0) := k2.cell 1
          have f2 := k2.frozen 1
          have d1 : w1.cell? ⟨q1, 1, none⟩ = some (.slice none 0 0) := k1.cell 1
          have ks := k2.set_ 1 (.slice A2 q c2)
          have gs := lgrown_set w2 ⟨q1, 1, none⟩ (.slice A2 q c2)
          have hsz1 := b1.size
          have hsz2 := b2.size
          have hq1s := k1.lt
          obtain ⟨w3, hw3⟩ : ∃ w3, w3 = w2.setCell ⟨q1, 1, none⟩ (.slice A2 q c2) := ⟨_, rfl⟩
          rw [← hw3] at gs ks
          have b3 : Below wr.heap.size wr w3 := by rw [hw3]; exact (bt b1 b2).setCell (p := ⟨q1, 1, none⟩) (by rw [hq1]; exact Nat.le_refl _) _
          have hR3 := hRr.below b3
          have own3 : OwnC w3 B A2 c2 l := own_less (own_kept own2 k2 (by decide) gs) (Nat.le_trans hBr hsz1)
          have hqk : w3.heap.size = w2.heap.size := by rw [hw3]; simp
          obtain ⟨AW', nW', cW', A5, c5, w5, p1', hnW', hrun5, p5, f5, hR5, hrg5⟩ := hR3.addAt ⟨q1, n, A2, c2, l, true⟩ (by dsimp only; rw [← hq.out]; exact ks) (by dsimp only; rw [hq1]; exact hBr) own3 (fun y hy e => by have := (hRr.wk y hy).2.1.lt; have e : y.q = q1 := e; omega) (fun y hy r e1 e2 => by
            have h1 := ((hRr.wk y hy).2.2.lt' r e1).2
            have h2 := (own2.lt' r e2).1
            omega) (by dsimp only; rw [← hq.out]; exact hqm) H.out.2.2.1
          rw [hqk] at hrun5
          have HX : Hid (RRestO w B x P ws gv n l (.returned (.int .i64 0)) (w5.setCell ⟨x, 1, none⟩ (.slice A5 (nW' + 1) c5))) := Lib.hid ⟨by rw [HE.out], (RG.of (lbelow_grown (bt HB1.out b3) _)).trans hrg5 (fun _ _ h => h), .inr ⟨HE.out, hln, q1, A2, c2, by rw [hq1]; exact HB1.out.size, hR5, fun r e => Nat.le_trans HB1.out.size (Nat.le_trans hsz1 (own2.lt' r e).1)⟩⟩
          rw [hw3] at hrun5 p1'
          rw [hw1] at hrun d1
          rw [hq1] at d1 d2 f2 hrun5 p1'
          clear hRr hcr hBr hw1 b1 k1 hcs own2 g2 hat2 b2 k2 ks gs hsz1 hsz2 hq1s hw3 b3 hR3 own3 hqk hR5 hrg5 hln
          go_wp2_with (first
            | (at_builtin; refine wpList_append_run rfl (.tmp 30) (.tmp 31) 32 rfl _ _ _ w2 rfl rfl hrun ?_)
            | (at_builtin; refine wpList_append_run rfl (.tmp 39) (.tmp 41) 27 rfl _ _ _ w5 rfl rfl hrun5 ?_))
          go_ret
          exact HX.out
      · rw [hf] at HF
        have HFF := Lib.hid HF
        have hzs : (findW ws n).isSome = true := by rw [hf]; rfl
        have HX : Hid (∀ w', Below w.heap.size w w' → RRestO w B x P ws gv n l (.returned (.int .i64 7)) w') := Lib.hid (fun w' hb => by
          have e : restR P ws gv n l = 7 := by unfold restR; rw [if_neg p1, if_neg (by rw [ha]; simp), if_pos hzs]
          exact ⟨by rw [e], RG.of (lbelow_grown hb _), .inl ⟨.inl (by rw [e]; decide), h.below hb⟩⟩)
        clear h ha hc hg hB hl HF hf hzs
        go_enter Try.func36, Try.ntmps36
        go_wp2_with fail
        refine HR.out.mono ?_
        rintro e w1 ⟨rfl, b1⟩
        have HF1 := Lib.hid (HFF.out w1 b1)
        have HY := Lib.hid (HX.out w1 b1)
        clear b1 HFF HX
        go_wp2_with fail
        refine HF1.out.mono ?_
        rintro e w2 ⟨rfl, rfl⟩
        dsimp only [Option.map_some]
        go_wp2
        go_ret
        exact HY.out
  · have p1 : n < 1 := of_decide_eq_true a1
    have HX : Hid (RRestO w B x P ws gv n l (.returned (.int .i64 1)) w) := Lib.hid (by
      have e : restR P ws gv n l = 1 := by unfold restR; rw [if_pos p1]
      exact ⟨by rw [e], RG.of (lbelow_grown (Below.refl _ _) _), .inl ⟨.inl (by rw [e]; decide), h⟩⟩)
    clear h hc hg hB hl HR
    go_enter Try.func36, Try.ntmps36
    go_wp2
    go_ret
    exact HX.out
end Go.Proofs.Ytfcafahgmnnlnaa.Qu
