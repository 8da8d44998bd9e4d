/- Parts R7 R8 R9 R10 of one proof. -/
import Derived.Test.YtfcafahgmnnlnaaMg11
namespace Go.Proofs.Ytfcafahgmnnlnaa.Qu
open Go.RowKit Go.Maps Go.Joins Go.Deep
set_option linter.unusedVariables false
set_option linter.unusedSimpArgs false

theorem NoteO.from {w w2 w' : World} {B x : Nat} {P : List (Int × Nat)} {ws : List WI} {gv n : Int} {c : Ch} (hb : Below w.heap.size w w2) (h : NoteO w2 B x P ws gv n c w') : NoteO w B x P ws gv n c w' := by
  obtain ⟨ws2, z, A5, c5, h1, h2, h3⟩ := h
  exact ⟨ws2, z, A5, c5, h1, h2, (RG.of (lbelow_grown hb (some x)) : RG B w w2 x (fun r => ∃ y ∈ ws, blk y.A = some r)).trans h3.1 (fun _ _ e => e), fun r e => (h3.2 r e).imp id (Nat.le_trans hb.size)⟩
/-- What Put leaves. -/
def RPutO (w : World) (B x : Nat) (P : List (Int × Nat)) (ws : List WI) (gv n : Int) (v : Nat) (e : Ending) (w' : World) : Prop :=
  (mayR ws n ≠ 0 ∧ e = .returned (.int .i64 (mayR ws n)) ∧ Below w.heap.size w w') ∨ (mayR ws n = 0 ∧ roomR P ws gv < 1 ∧ e = .returned (.int .i64 5) ∧ Below w.heap.size w w') ∨ (mayR ws n = 0 ∧ ¬ roomR P ws gv < 1 ∧ e = .returned (.int .i64 0) ∧ NoteO w B x P ws gv n ⟨3, 0, v⟩ w')
set_option maxRecDepth 100000 in
set_option maxHeartbeats 1000000 in
theorem rput_any (B x : Nat) (P : List (Int × Nat)) (ws : List WI) (gv n : Int) (v : Nat) (w : World) (h : RQ w B x P ws gv) (hg : 0 ≤ gv ∧ gv ≤ 4611686018427387904) (hB : B ≤ w.heap.size) (hl : ws.length < 100) (hls : ∀ y ∈ ws, y.l.length < 300) :
    Calls Try.prog 31 #[.pointer (some ⟨x, 0, none⟩), .int .i64 n, .int .u64 (v : Nat)] w (RPutO w B x P ws gv n v) := by
  have HMy := Lib.hid (rmay_any B x P ws gv n w h)
  have HRm := Lib.hid (rroom_any B x P ws gv w h hg)
  have HNt := Lib.hid (fun u (hb : Below w.heap.size w u) => rnote_any B x P ws gv n 3 0 v u (h.below hb) (Nat.le_trans hB hb.size) hl hls)
  have HP : Hid (∀ e w', RPutO w B x P ws gv n v e w' ↔ (mayR ws n ≠ 0 ∧ e = .returned (.int .i64 (mayR ws n)) ∧ Below w.heap.size w w') ∨ (mayR ws n = 0 ∧ roomR P ws gv < 1 ∧ e = .returned (.int .i64 5) ∧ Below w.heap.size w w') ∨ (mayR ws n = 0 ∧ ¬ roomR P ws gv < 1 ∧ e = .returned (.int .i64 0) ∧ NoteO w B x P ws gv n ⟨3, 0, v⟩ w')) := Lib.hid fun _ _ => Iff.rfl
  obtain ⟨my, hmy⟩ : ∃ my, my = mayR ws n := ⟨_, rfl⟩
  obtain ⟨rm, hrm⟩ : ∃ rm, rm = roomR P ws gv := ⟨_, rfl⟩
  rw [← hmy] at HMy HP
  rw [← hrm] at HRm HP
  clear h hg hB hl hls hmy hrm
  by_cases h0 : my = 0
  · subst h0
    by_cases hr : rm < 1
    · have hr0 : rm ≤ 0 := by omega
      go_enter Try.func31, Try.ntmps31
      go_wp2_with fail
      refine HMy.out.mono ?_
      rintro e w1 ⟨rfl, rfl⟩
      go_wp2_with fail
      refine HRm.out.mono ?_
      rintro e w2 ⟨rfl, b2⟩
      have HF := Lib.hid ((HP.out _ w2).2 (.inr (.inl ⟨trivial, hr, rfl, b2⟩)))
      clear b2
      go_wp2
      go_ret
      exact HF.out
    · have hr0 : ¬ rm ≤ 0 := by omega
      go_enter Try.func31, Try.ntmps31
      go_wp2_with fail
      refine HMy.out.mono ?_
      rintro e w1 ⟨rfl, rfl⟩
      go_wp2_with fail
      refine HRm.out.mono ?_
      rintro e w2 ⟨rfl, b2⟩
      have HN2 := Lib.hid (HNt.out w2 b2)
      have HB2 := Lib.hid b2
      clear b2
      go_wp2_with fail
      refine HN2.out.mono ?_
      rintro e w3 ⟨rfl, hn⟩
      have HF := Lib.hid ((HP.out _ w3).2 (.inr (.inr ⟨trivial, hr, rfl, hn.from HB2.out⟩)))
      clear hn
      go_wp2
      go_ret
      exact HF.out
  · have hb : (my != 0) = true := by simp [h0]
    have HF := Lib.hid ((HP.out _ w).2 (.inl ⟨h0, rfl, Below.refl _ _⟩))
    go_enter Try.func31, Try.ntmps31
    go_wp2_with fail
    refine HMy.out.mono ?_
    rintro e w1 ⟨rfl, rfl⟩
    go_wp2
    go_ret
    exact HF.out
end Go.Proofs.Ytfcafahgmnnlnaa.Qu

namespace Go.Proofs.Ytfcafahgmnnlnaa.Qu
open Go.RowKit Go.Maps Go.Joins Go.Deep
set_option linter.unusedVariables false
set_option linter.unusedSimpArgs false

/-- What is read on the way to an item. -/
theorem RQ.item {u : World} {B x : Nat} {P : List (Int × Nat)} {ws : List WI} {gv : Int} (h : RQ u B x P ws gv) (i : Nat) (hi : i < P.length) : ∃ b cP, u.cell? ⟨x, 0, none⟩ = some (.slice (some ⟨b, 0, none⟩) P.length cP) ∧ u.cell? ⟨b, i * 2, none⟩ = some (.int .i64 (P[i]'hi).1) ∧ u.cell? ⟨b, i * 2 + 1, none⟩ = some (.int .u64 ((P[i]'hi).2 : Nat)) ∧ b < u.heap.size := by
  obtain ⟨AP, nP, cP, AW, nW, cW, hk, h1, h2, h3, h4⟩ := h.ex
  have c0 := hk.cell 0
  simp only [List.getElem?_toArray, List.getElem?_cons_zero, List.getElem?_cons_succ] at c0
  unfold OwnPr at h3
  obtain ⟨b, rfl, _, hb, _, hc⟩ := row_cells h3 (by omega)
  rw [h1] at c0
  obtain ⟨a1, a2⟩ := prV_at P i hi
  exact ⟨b, cP, c0, hc _ _ a1, hc _ _ a2, hb⟩
theorem RQ.ilen {u : World} {B x : Nat} {P : List (Int × Nat)} {ws : List WI} {gv : Int} (h : RQ u B x P ws gv) : ∃ AP cP, u.cell? ⟨x, 0, none⟩ = some (.slice AP P.length cP) := by
  obtain ⟨AP, nP, cP, AW, nW, cW, hk, h1, h2, h3, h4⟩ := h.ex
  have c0 := hk.cell 0
  simp only [List.getElem?_toArray, List.getElem?_cons_zero, List.getElem?_cons_succ] at c0
  rw [h1] at c0
  exact ⟨AP, cP, c0⟩
set_option maxRecDepth 100000 in
set_option maxHeartbeats 1000000 in
theorem rvalues_any (B x : Nat) (P : List (Int × Nat)) (ws : List WI) (gv : Int) (w : World) (h : RQ w B x P ws gv) :
    Calls Try.prog 18 #[.pointer (some ⟨x, 0, none⟩)] w fun e w' => ∃ A c, e = .returned (.slice A P.length c) ∧ OwnU w' w.heap.size A c (P.map (·.2)) ∧ Below w.heap.size w w' := by
  obtain ⟨nP, hnP⟩ : ∃ nP, nP = P.length := ⟨_, rfl⟩
  have hP1 : nP ≤ 48 := by rw [hnP]; exact h.sm.1
  have HN := Lib.hid hnP
  have H := Lib.hid h
  rw [← hnP]
  clear h hnP
  go_enter Try.func18, Try.ntmps18
  go_wp2_with fail
  go_loopw [3, 4] (fun v iv wr => ∃ (i n2 c2 : Nat) (A2 : Option Addr), v = .slice A2 n2 c2 ∧ n2 = i ∧ i ≤ nP ∧ iv = .int .i64 i ∧ Hid (∃ K, K = (P.take i).map (·.2) ∧ n2 = K.length ∧ OwnU wr w.heap.size A2 c2 K ∧ Below w.heap.size w wr)) (fun _ iv _ => nP - (intOf iv).toNat)
  case atStart => exact ⟨0, 0, 0, none, rfl, rfl, Nat.zero_le _, rfl, Lib.hid ⟨[], rfl, rfl, OwnU.nil _ _, Below.refl _ _⟩⟩
  case round =>
    obtain ⟨i, n2, c2, A2, rfl, rfl, hi, rfl, HR⟩ := hrel
    obtain ⟨K, hK, hn2, hown, hb⟩ := HR.out
    have hr := H.out.below hb
    by_cases hin : n2 < nP
    · have hiI : (n2 : Int) < (nP : Int) := by omega
      have hil : n2 < P.length := by rw [← HN.out]; exact hin
      obtain ⟨b, cP, r0, _, r2, _⟩ := hr.item n2 hil
      rw [← HN.out] at r0
      have hst : (P.take (n2 + 1)).map (·.2) = K ++ [(P[n2]'hil).2] := by rw [List.take_add_one, List.getElem?_eq_getElem hil, List.map_append, ← hK]; rfl
      generalize (P[n2]'hil).2 = v at r2 hst
      have hb3 := ba wr (.cells #[.int .u64 (v : Nat)] 31)
      have own3 := hown.grown (lbelow_grown hb3 none) (fun r e => by cases e)
      obtain ⟨A5, c5, w5, hrun, own5, hg5⟩ := u_more own3 n2 hn2 (by omega) v wr.heap.size (by have := hb.size; have := hb3.size; omega) (Blk.new wr _ _)
      have hB5 := (bt hb hb3).grown hg5 (by have := hb.size; have := hb3.size; omega) (fun r e => (own3.lt' r e).1)
      have HX : Hid (∃ K, K = (P.take (n2 + 1)).map (·.2) ∧ n2 + 1 = K.length ∧ OwnU w5 w.heap.size A5 c5 K ∧ Below w.heap.size w w5) := Lib.hid ⟨_, hst.symm, by rw [List.length_append, ← hn2]; rfl, own5, hB5⟩
      clear hr hst hb3 own3 own5 hg5 hB5 hown hb hn2 hK HR
      go_wp2_with (first
        | (at_builtin; refine wpList_append_run rfl (.tmp 14) (.tmp 23) 33 rfl _ _ _ w5 rfl rfl hrun ?_)
        | go_in)
      go_roundw
      case rel => exact ⟨n2 + 1, n2 + 1, c5, A5, rfl, rfl, by omega, by go_num, HX⟩
      case measure => simp [intOf]; omega
    · obtain rfl : n2 = nP := by omega
      have hiI : ¬ (n2 : Int) < (n2 : Int) := by omega
      obtain ⟨AP, cP, c0⟩ := hr.ilen
      rw [← HN.out] at c0
      have HF : Hid (OwnU wr w.heap.size A2 c2 (P.map (·.2)) ∧ Below w.heap.size w wr) := Lib.hid ⟨by rw [hK, List.take_of_length_le (by rw [← HN.out]; exact Nat.le_refl _)] at hown; exact hown, hb⟩
      clear hr hown hb hn2 hK HR
      go_wp2
      go_ret
      exact ⟨A2, c2, rfl, HF.out.1, HF.out.2⟩
end Go.Proofs.Ytfcafahgmnnlnaa.Qu

namespace Go.Proofs.Ytfcafahgmnnlnaa.Qu
open Go.RowKit Go.Maps Go.Joins Go.Deep
set_option linter.unusedVariables false
set_option linter.unusedSimpArgs false

def prepR (ws : List WI) (n : Int) : (List Ch × Int) × List WI :=
  if mayR ws n ≠ 0 then (([], mayR ws n), ws) else match findW ws n with
    | some z => ((z.l, 0), turnW ws ⟨z.q, z.n, z.A, z.c, z.l, true⟩)
    | none => (([], 0), ws)
def RPrepO (w : World) (B x : Nat) (P : List (Int × Nat)) (ws : List WI) (gv n : Int) (e : Ending) (w' : World) : Prop :=
  ∃ A q c, e = .returned (.tuple #[.slice A q c, .int .i64 (prepR ws n).1.2]) ∧ q = (prepR ws n).1.1.length ∧ OwnC w' w.heap.size A c (prepR ws n).1.1 ∧ RQ w' B x P (prepR ws n).2 gv ∧ RG B w w' x (fun _ => False)
set_option maxRecDepth 100000 in
set_option maxHeartbeats 1000000 in
theorem rprep_any (B x : Nat) (P : List (Int × Nat)) (ws : List WI) (gv n : Int) (w : World) (h : RQ w B x P ws gv) :
    Calls Try.prog 33 #[.pointer (some ⟨x, 0, none⟩), .int .i64 n] w (RPrepO w B x P ws gv n) := by
  have HMy := Lib.hid (rmay_any B x P ws gv n w h)
  have HFi := Lib.hid (rfind_any B x P ws gv n w h)
  obtain ⟨my, hmy⟩ : ∃ my, my = mayR ws n := ⟨_, rfl⟩
  rw [← hmy] at HMy
  by_cases h0 : my = 0
  · subst h0
    rcases hf : findW ws n with _ | z
    · have hM : prepR ws n = (([], 0), ws) := by unfold prepR; rw [if_neg (by rw [← hmy]; simp), hf]
      have HF : Hid (RPrepO w B x P ws gv n (.returned (.tuple #[.slice none 0 0, .int .i64 0])) w) := Lib.hid ⟨none, 0, 0, by rw [hM], by rw [hM]; rfl, by rw [hM]; exact OwnC.nil _ _, by rw [hM]; exact h, RG.of (lbelow_grown (Below.refl _ _) _)⟩
      rw [hf] at HFi
      clear h hmy hM hf
      go_enter Try.func33, Try.ntmps33
      go_wp2_with fail
      refine HMy.out.mono ?_
      rintro e w1 ⟨rfl, rfl⟩
      go_wp2_with fail
      refine HFi.out.mono ?_
      rintro e w2 ⟨rfl, rfl⟩
      dsimp only [Option.map_none]
      go_wp2
      go_ret2
      exact HF.out
    · obtain ⟨zq, zn, zA, zc, zl, zp⟩ := z
      have hM : prepR ws n = ((zl, 0), turnW ws ⟨zq, zn, zA, zc, zl, true⟩) := by unfold prepR; rw [if_neg (by rw [← hmy]; simp), hf]
      rw [hf] at HFi
      obtain ⟨hzm, _⟩ := findW_mem hf
      obtain ⟨y1, y2, y3⟩ := h.wk _ hzm
      dsimp only at y1 y2 y3
      have hl3 := h.sm.2.2 _ hzm
      dsimp only at hl3
      obtain ⟨nl, hnl⟩ : ∃ nl, nl = zl.length := ⟨_, rfl⟩
      obtain ⟨w1, hw1⟩ : ∃ w1, w1 = w.setCell ⟨zq, 2, none⟩ (.bool true) := ⟨_, rfl⟩
      have g1 : w.grownBy w1 (some zq) := by rw [hw1]; exact lgrown_set _ _ _
      have k1 : Blk w1 zq 78 #[.int .i64 zn, .slice zA zl.length zc, .bool true] := by rw [hw1]; simpa using y2.set_ 2 (.bool true)
      have own1 : OwnC w1 B zA zc zl := own_kept y3 y2 (by decide) g1
      obtain ⟨A2, c2, w2, hrun, own2, g2, hat2⟩ := ch_app (OwnC.nil w1 w1.heap.size) zA zc zl 0 nl rfl hnl (fun b o e i hi => by
        obtain ⟨b', o', e', _, hc⟩ := own1.at_.inl (by omega)
        cases e; cases e'; exact hc i hi) (fun hp => by obtain ⟨b', o', e', _⟩ := own1.at_.inl hp; exact ⟨b', o', e'⟩) (Nat.le_refl _) (by simp; omega) (Nat.le_refl _)
      rw [Nat.zero_add] at hrun
      rw [List.nil_append] at own2
      have b2 : Below w1.heap.size w1 w2 := ⟨g2.os, g2.tape, g2.output, g2.size, fun k hk => g2.block k hk (by simp [blk])⟩
      have k2 := k1.below b2 k1.lt
      have hsame : ∀ k, k < w.heap.size → k ≠ zq → blk zA ≠ some k → w2.heap[k]? = w.heap[k]? := fun k hk hz _ => by
        rw [b2.block k (Nat.lt_of_lt_of_le hk g1.size)]
        exact g1.block k hk (fun e => hz (by injection e))
      have hs := Nat.le_trans g1.size b2.size
      have hR := h.upd (w' := w2) hzm (z' := ⟨zq, zn, zA, zc, zl, true⟩) rfl hs hsame k2 (own1.kept (lbelow_grown b2 none) (fun r e => by cases e)) (fun r e => .inl e) hl3
      have hrg : RG B w w2 x (fun _ => False) := ⟨b2.os.trans g1.os, b2.tape.trans g1.tape, b2.output.trans g1.output, hs, fun k hb hk _ => by
        rw [b2.block k (Nat.lt_of_lt_of_le hk g1.size)]
        exact g1.block k hk (fun e => by have := Option.some.inj e; omega), fun k hk _ => by
        by_cases e : k = zq
        · subst e; exact .inr (.inr (.inl ⟨_, _, y2⟩))
        · refine .inl ?_
          rw [b2.block k (Nat.lt_of_lt_of_le hk g1.size)]
          exact g1.block k hk (fun e2 => e (by injection e2))⟩
      have HF : Hid (RPrepO w B x P ws gv n (.returned (.tuple #[.slice A2 nl c2, .int .i64 0])) w2) := Lib.hid ⟨A2, nl, c2, by rw [hM], by rw [hM]; exact hnl, by rw [hM]; exact own2.less g1.size, by rw [hM]; exact hR, hrg⟩
      have c2' := y2.cell 2
      have f2 := y2.frozen 2
      have d1 := k1.cell 1
      simp only [List.getElem?_toArray, List.getElem?_cons_zero, List.getElem?_cons_succ] at c2' d1
      rw [← hnl] at d1
      rw [hw1] at d1 hrun
      clear h hmy hM hf hzm y1 y2 y3 hl3 hnl hw1 g1 k1 own1 own2 g2 hat2 b2 k2 hsame hs hR hrg
      go_enter Try.func33, Try.ntmps33
      go_wp2_with fail
      refine HMy.out.mono ?_
      rintro e w1 ⟨rfl, rfl⟩
      go_wp2_with fail
      refine HFi.out.mono ?_
      rintro e w2 ⟨rfl, rfl⟩
      dsimp only [Option.map_some]
      go_wp2_with (at_builtin; refine wpList_append_run rfl (.tmp 23) (.tmp 27) 32 rfl _ _ _ _ rfl rfl hrun ?_)
      go_ret2
      exact HF.out
  · have hM : prepR ws n = (([], my), ws) := by unfold prepR; rw [if_pos (by rw [← hmy]; exact h0), hmy]
    have hb : (my != 0) = true := by simp [h0]
    have HF : Hid (RPrepO w B x P ws gv n (.returned (.tuple #[.slice none 0 0, .int .i64 my])) w) := Lib.hid ⟨none, 0, 0, by rw [hM], by rw [hM]; rfl, by rw [hM]; exact OwnC.nil _ _, by rw [hM]; exact h, RG.of (lbelow_grown (Below.refl _ _) _)⟩
    clear h hmy hM
    go_enter Try.func33, Try.ntmps33
    go_wp2_with fail
    refine HMy.out.mono ?_
    rintro e w1 ⟨rfl, rfl⟩
    go_wp2
    go_ret2
    exact HF.out
end Go.Proofs.Ytfcafahgmnnlnaa.Qu

namespace Go.Proofs.Ytfcafahgmnnlnaa.Qu
open Go.RowKit Go.Maps Go.Joins Go.Deep
set_option linter.unusedVariables false
set_option linter.unusedSimpArgs false

theorem RG.item {B0 : Nat} {w w' : World} {x k : Nat} {T : Nat → Prop} {cs : Array Value} (h : RG B0 w w' x T) (hk : Blk w k 73 cs) (hx : k ≠ x) : Blk w' k 73 cs := by
  unfold Blk at hk ⊢
  rcases h.block k (Array.getElem?_eq_some_iff.1 hk).1 hx with e | ⟨cs2, fz, e⟩ | ⟨cs2, fz, e⟩ | ⟨⟨cs2, fz, e⟩, _⟩
  · rw [e]; exact hk
  all_goals
    rw [e] at hk; injection hk with hk; injection hk with _ hk _; exact absurd hk (by decide)
/-- The first item that the work has not taken. -/
def nextR (ws : List WI) (n : Int) : List (Int × Nat) → Option (Int × Nat)
  | [] => none
  | y :: r => if takR ws y.1 = n then nextR ws n r else some y
theorem nextR_drop (ws : List WI) (n : Int) (P : List (Int × Nat)) (i : Nat) (h : i < P.length) : nextR ws n (P.drop i) = if takR ws (P[i]'h).1 = n then nextR ws n (P.drop (i + 1)) else some (P[i]'h) := by
  rw [List.drop_eq_getElem_cons h]; rfl
/-- What Take leaves. -/
def RTakeO (w : World) (B x : Nat) (P : List (Int × Nat)) (ws : List WI) (gv n : Int) (e : Ending) (w' : World) : Prop :=
  (mayR ws n ≠ 0 ∧ e = .returned (.tuple #[.int .u64 0, .int .i64 (mayR ws n)]) ∧ Below w.heap.size w w') ∨
  (mayR ws n = 0 ∧ nextR ws n P = none ∧ e = .returned (.tuple #[.int .u64 0, .int .i64 140]) ∧ Below w.heap.size w w') ∨
  (mayR ws n = 0 ∧ ∃ y, nextR ws n P = some y ∧ ((takR ws y.1 ≠ 0 ∧ e = .returned (.tuple #[.int .u64 0, .int .i64 120]) ∧ Below w.heap.size w w') ∨
    (takR ws y.1 = 0 ∧ e = .returned (.tuple #[.int .u64 (y.2 : Nat), .int .i64 0]) ∧ NoteO w B x P ws gv n ⟨4, y.1, y.2⟩ w')))
set_option maxRecDepth 100000 in
set_option maxHeartbeats 1000000 in
theorem rtake_any (B x : Nat) (P : List (Int × Nat)) (ws : List WI) (gv n : Int) (w : World) (h : RQ w B x P ws gv) (hB : B ≤ w.heap.size) (hl : ws.length < 100) (hls : ∀ y ∈ ws, y.l.length < 300) :
    Calls Try.prog 32 #[.pointer (some ⟨x, 0, none⟩), .int .i64 n] w (RTakeO w B x P ws gv n) := by
  have HMy := Lib.hid (rmay_any B x P ws gv n w h)
  have H := Lib.hid h
  have HNt := Lib.hid (fun (y : Int × Nat) u (hb : Below w.heap.size w u) => rnote_any B x P ws gv n 4 y.1 y.2 u (h.below hb) (Nat.le_trans hB hb.size) hl hls)
  obtain ⟨nP, hnP⟩ : ∃ nP, nP = P.length := ⟨_, rfl⟩
  have hP1 : nP ≤ 48 := by rw [hnP]; exact h.sm.1
  have HN := Lib.hid hnP
  obtain ⟨my, hmy⟩ : ∃ my, my = mayR ws n := ⟨_, rfl⟩
  rw [← hmy] at HMy
  by_cases h0 : my = 0
  · subst h0
    have HA : Hid (∀ w', nextR ws n P = none → Below w.heap.size w w' → RTakeO w B x P ws gv n (.returned (.tuple #[.int .u64 0, .int .i64 140])) w') := Lib.hid fun w' a b => .inr (.inl ⟨hmy.symm, a, rfl, b⟩)
    have HBk : Hid (∀ w' y, nextR ws n P = some y → takR ws y.1 ≠ 0 → Below w.heap.size w w' → RTakeO w B x P ws gv n (.returned (.tuple #[.int .u64 0, .int .i64 120])) w') := Lib.hid fun w' y a c b => .inr (.inr ⟨hmy.symm, y, a, .inl ⟨c, rfl, b⟩⟩)
    have HCk : Hid (∀ w' y, nextR ws n P = some y → takR ws y.1 = 0 → NoteO w B x P ws gv n ⟨4, y.1, y.2⟩ w' → RTakeO w B x P ws gv n (.returned (.tuple #[.int .u64 (y.2 : Nat), .int .i64 0])) w') := Lib.hid fun w' y a c b => .inr (.inr ⟨hmy.symm, y, a, .inr ⟨c, rfl, b⟩⟩)
    have HI : Hid (nextR ws n (P.drop 0) = nextR ws n P ∧ Below w.heap.size w w) := Lib.hid ⟨rfl, Below.refl _ _⟩
    clear h hB hl hls hnP hmy
    go_enter Try.func32, Try.ntmps32
    go_wp2_with fail
    refine HMy.out.mono ?_
    rintro e w1 ⟨rfl, rfl⟩
    go_wp2_with fail
    go_loopw [7] (fun iv wr => ∃ (i : Nat), i ≤ nP ∧ iv = .int .i64 i ∧ Hid (nextR ws n (P.drop i) = nextR ws n P ∧ Below w.heap.size w wr)) (fun iv _ => nP - (intOf iv).toNat)
    case atStart => exact ⟨0, Nat.zero_le _, rfl, HI⟩
    case round =>
      clear HI
      obtain ⟨i, hi, rfl, HR⟩ := hrel
      have hr := H.out.below HR.out.2
      by_cases hin : i < nP
      · have hiI : (i : Int) < (nP : Int) := by omega
        have hil : i < P.length := by rw [← HN.out]; exact hin
        obtain ⟨b, cP, r0, r1, r2, hbl⟩ := hr.item i hil
        rw [← HN.out] at r0
        have hst := nextR_drop ws n P i hil
        rw [HR.out.1] at hst
        obtain ⟨y, hy⟩ : ∃ y, y = P[i]'hil := ⟨_, rfl⟩
        rw [← hy] at r1 r2 hst
        obtain ⟨yn, yv⟩ := y
        dsimp only at r1 r2 hst
        obtain ⟨w2, hw2⟩ : ∃ w2, w2 = wr.alloc (.cells #[.int .i64 yn, .int .u64 (yv : Nat)] 73) := ⟨_, rfl⟩
        have b2 : Below wr.heap.size wr w2 := by rw [hw2]; exact ba _ _
        have k2 : Blk w2 wr.heap.size 73 #[.int .i64 yn, .int .u64 (yv : Nat)] := by rw [hw2]; exact Blk.new _ _ _
        have HTk := Lib.hid (rtaker_any B x P ws gv yn w2 (hr.below b2))
        have HW2 := Lib.hid hw2
        have H2 := Lib.hid (And.intro (bt HR.out.2 b2) k2)
        obtain ⟨t, ht⟩ : ∃ t, t = takR ws yn := ⟨_, rfl⟩
        rw [← ht] at HTk hst
        have Ht := Lib.hid ht
        have HS := Lib.hid hst
        have Hsz := Lib.hid HR.out.2.size
        clear hr hil hy hst hw2 b2 k2 ht HR
        go_wp2_with fail
        rw [← HW2.out]
        refine HTk.out.mono ?_
        rintro e w3 ⟨rfl, b3⟩
        have k3 := H2.out.2.below b3 H2.out.2.lt
        have d0 := k3.cell 0
        have d1 := k3.cell 1
        simp only [List.getElem?_toArray, List.getElem?_cons_zero, List.getElem?_cons_succ] at d0 d1
        have HB3 := Lib.hid (bt H2.out.1 b3)
        have HK3 := Lib.hid k3
        have Hxp : Hid (wr.heap.size ≠ x) := Lib.hid (by obtain ⟨_, _, _, _, _, _, hk, _⟩ := H.out.ex; have := hk.lt; have := Hsz.out; omega)
        clear b3 k3 r0 r1 r2
        by_cases h1 : t = n
        · have HN2 : Hid (nextR ws n (P.drop (i + 1)) = nextR ws n P ∧ Below w.heap.size w w3) := Lib.hid ⟨by rw [HS.out, if_pos h1], HB3.out⟩
          subst h1
          clear d0 d1
          go_wp2
          go_roundw
          case rel => exact ⟨i + 1, by omega, by go_num, HN2⟩
          case measure => simp [intOf]; omega
        · have h1b : (t == n) = false := by simpa using h1
          have HS2 : Hid (nextR ws n P = some (yn, yv)) := Lib.hid (by rw [HS.out, if_neg h1])
          by_cases h2 : t = 0
          · subst h2
            have HN3 := Lib.hid (HNt.out (yn, yv) w3 HB3.out)
            go_wp2_with fail
            refine HN3.out.mono ?_
            rintro e w4 ⟨rfl, hn⟩
            obtain ⟨_, _, _, _, _, _, hrg, _⟩ := id hn
            have k4 := hrg.item HK3.out Hxp.out
            have d1' := k4.cell 1
            simp only [List.getElem?_toArray, List.getElem?_cons_zero, List.getElem?_cons_succ] at d1'
            have HF := Lib.hid (HCk.out w4 (yn, yv) HS2.out Ht.out.symm (hn.from HB3.out))
            clear hn hrg k4 d0 d1
            go_wp2
            go_ret2
            exact HF.out
          · have h2b : (t != 0) = true := by simpa using h2
            have HF := Lib.hid (HBk.out w3 (yn, yv) HS2.out (by rw [← Ht.out]; exact h2) HB3.out)
            clear d0 d1
            go_wp2
            go_ret2
            exact HF.out
      · have hiI : ¬ (i : Int) < (nP : Int) := by omega
        obtain ⟨AP, cP, c0⟩ := hr.ilen
        rw [← HN.out] at c0
        have HF := Lib.hid (HA.out wr (by rw [← HR.out.1, List.drop_eq_nil_of_le (by rw [← HN.out]; omega)]; rfl) HR.out.2)
        clear hr HR
        go_wp2
        go_ret2
        exact HF.out
  · have hb : (my != 0) = true := by simp [h0]
    have HF : Hid (RTakeO w B x P ws gv n (.returned (.tuple #[.int .u64 0, .int .i64 my])) w) := Lib.hid (.inl ⟨by rw [← hmy]; exact h0, by rw [← hmy], Below.refl _ _⟩)
    clear h hB hl hls hnP hmy
    go_enter Try.func32, Try.ntmps32
    go_wp2_with fail
    refine HMy.out.mono ?_
    rintro e w1 ⟨rfl, rfl⟩
    go_wp2
    go_ret2
    exact HF.out
end Go.Proofs.Ytfcafahgmnnlnaa.Qu
