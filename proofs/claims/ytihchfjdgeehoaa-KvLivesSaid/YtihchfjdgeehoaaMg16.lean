/- Parts Iw Ix Iy of one proof. -/
import Derived.Test.YtihchfjdgeehoaaMg15
namespace Go.Proofs.Ytihchfjdgeehoaa
open Go.RowKit Go.Maps Go.Joins Go.Deep
set_option linter.unusedVariables false
set_option linter.unusedSimpArgs false

def touchM (ws : List WI) (L : List LRow) (n y : Int) (al : Bool) (q : Nat) : Int × List WI × List LRow :=
  if n < 1 ∨ keyB y = false then (1, ws, L)
  else match findW ws n with
    | some x => if x.p = true then (7, ws, L) else ((takeL L n y al).1, ws, (takeL L n y al).2)
    | none => ((takeL L n y al).1, if (takeL L n y al).1 = 0 then ws ++ [⟨q, n, none, 0, [], false⟩] else ws, (takeL L n y al).2)
def TouchO (w : World) (B x : Nat) (P : List (Int × Nat)) (ws : List WI) (L : List LRow) (n y : Int) (al : Bool) (e : Ending) (w' : World) : Prop :=
  ∃ q, w.heap.size ≤ q ∧ e = .returned (.int .i64 (touchM ws L n y al q).1) ∧ RAt w' B x P (touchM ws L n y al q).2.1 (touchM ws L n y al q).2.2 ∧ RG B w w' x (fun _ => False)
set_option maxRecDepth 100000 in
set_option maxHeartbeats 4000000 in
theorem touch_any (B x : Nat) (P : List (Int × Nat)) (ws : List WI) (L : List LRow) (n y : Int) (al : Bool) (w : World) (h : RAt w B x P ws L) (hB : B ≤ w.heap.size) (hl : ws.length < 100) (hok : LOk L) (hnc : NoClash L) :
    Calls Try.prog 47 #[.pointer (some ⟨x, 0, none⟩), .int .i64 n, .int .i64 y, .bool al] w (TouchO w B x P ws L n y al) := by
  have HF := Lib.hid (find_any B x P ws L n w h)
  by_cases hbad : n < 1 ∨ keyB y = false
  · have hM : ∀ q, touchM ws L n y al q = (1, ws, L) := fun q => if_pos hbad
    have HX : Hid (∃ q, w.heap.size ≤ q ∧ Ending.returned (.int .i64 1) = .returned (.int .i64 (touchM ws L n y al q).1) ∧ RAt w B x P (touchM ws L n y al q).2.1 (touchM ws L n y al q).2.2 ∧ RG B w w x (fun _ => False)) := Lib.hid ⟨w.heap.size, Nat.le_refl _, by rw [hM], by rw [hM]; exact h, RG.of (lbelow_grown (Below.refl _ _) _)⟩
    have hb3 : n < 1 ∨ y < 0 ∨ 15 < y := by
      rcases hbad with h | h
      · exact .inl h
      · refine .inr ?_
        unfold keyB at h
        simp at h
        omega
    clear h hok hnc hM hbad HF
    go_enter Try.func47, Try.ntmps47
    rcases a1 : decide (n < 1) with _ | _
    · have p1 : ¬ n < 1 := of_decide_eq_false a1
      rcases a2 : decide (y < 0) with _ | _
      · have p2 : ¬ y < 0 := of_decide_eq_false a2
        have p3 : 15 < y := by omega
        have a3 : decide (15 < y) = true := decide_eq_true p3
        go_wp2
        go_ret
        exact HX.out
      · have p2 : y < 0 := of_decide_eq_true a2
        go_wp2
        go_ret
        exact HX.out
    · have p1 : n < 1 := of_decide_eq_true a1
      go_wp2
      go_ret
      exact HX.out
  · have hn1 : ¬ n < 1 := fun e => hbad (.inl e)
    have hk := key_bd (show keyB y = true by cases hk : keyB y with | true => rfl | false => exact absurd (.inr hk) hbad)
    have a1 : decide (n < 1) = false := decide_eq_false hn1
    have a2 : decide (y < 0) = false := decide_eq_false (by omega)
    have a3 : decide (15 < y) = false := decide_eq_false (by omega)
    have p2 : ¬ y < 0 := by omega
    have p3 : ¬ 15 < y := by omega
    obtain ⟨cs, hro, hback⟩ := h.rof
    have hTk := rtake_any B x 2 32 cs (by decide) L n y al w hro h.sm.2.2.1 hB hok hnc
    have h64 := takeL_len h.sm.2.2.1 n y al
    obtain ⟨T, hT⟩ : ∃ T, T = takeL L n y al := ⟨_, rfl⟩
    rw [← hT] at hTk h64
    obtain ⟨er, L'⟩ := T
    have HT := Lib.hid hTk
    have HBk := Lib.hid (And.intro hback (And.intro h64 (And.intro hB hl)))
    rcases hf : findW ws n with _ | z
    · have hM : ∀ q, touchM ws L n y al q = (er, if er = 0 then ws ++ [⟨q, n, none, 0, [], false⟩] else ws, L') := fun q => by unfold touchM; rw [if_neg hbad, hf]; dsimp only; rw [← hT]
      have HM := Lib.hid hM
      rw [hf] at HF
      clear h hok hnc hbad hM hro hback hTk h64 hT hf hB hl hk
      go_enter Try.func47, Try.ntmps47
      go_wp2_with fail
      refine HF.out.mono ?_
      rintro e w1 ⟨rfl, rfl⟩
      dsimp only [Option.map_none]
      go_wp2_with fail
      refine HT.out.mono ?_
      rintro e w2 ⟨rfl, ⟨v, hv⟩, hg2⟩
      have hR2 := HBk.out.1 w2 v L' hv HBk.out.2.1 hg2
      rcases he : (er == 0) with _ | _
      · have hne : er ≠ 0 := by simpa using he
        have HX : Hid (TouchO w B x P ws L n y al (.returned (.int .i64 er)) w2) := Lib.hid ⟨w.heap.size, Nat.le_refl _, by rw [HM.out], by rw [HM.out, if_neg hne]; exact hR2, RG.of hg2⟩
        clear hv hg2 hR2
        go_wp2
        go_ret
        exact HX.out
      · obtain rfl : er = 0 := by simpa using he
        have hs2 := hg2.size
        obtain ⟨AW, nW, cW, A3, c3, w3, hx2, hnW, hrun, hx3, hR3, hrg⟩ := hR2.add (Nat.le_trans HBk.out.2.2.1 hs2) n HBk.out.2.2.2
        have c1 := hx2.cell 1
        have f1 := hx3.frozen 1
        have d1 := hx3.cell 1
        simp only [List.getElem?_toArray, List.getElem?_cons_zero, List.getElem?_cons_succ] at c1 d1
        have HX : Hid (TouchO w B x P ws L n y al (.returned (.int .i64 0)) (w3.setCell ⟨x, 1, none⟩ (.slice A3 (nW + 1) c3))) := Lib.hid ⟨w2.heap.size, hs2, by rw [HM.out], by rw [HM.out, if_pos rfl]; exact hR3, (RG.of hg2).trans hrg (fun _ _ h => h)⟩
        clear hv hg2 hR2 hx2 hx3 hR3 hrg hs2
        go_wp2_with (at_builtin; refine wpList_append_run rfl (.tmp 49) (.tmp 53) 27 rfl _ _ _ w3 rfl rfl hrun ?_)
        go_ret
        exact HX.out
    · obtain ⟨zq, zn, zA, zc, zl, zp⟩ := z
      have hz := h.wk _ (List.mem_of_find?_eq_some hf)
      have z2 := hz.2.1.cell 2
      simp only [List.getElem?_toArray, List.getElem?_cons_zero, List.getElem?_cons_succ] at z2
      have HH := Lib.hid h
      rw [hf] at HF
      rcases zp with _ | _
      · have hM : ∀ q, touchM ws L n y al q = (er, ws, L') := fun q => by unfold touchM; rw [if_neg hbad, hf]; dsimp only; rw [if_neg (by simp), ← hT]
        have HM := Lib.hid hM
        clear h hok hnc hbad hM hro hback hTk h64 hT hf hB hl hk hz
        go_enter Try.func47, Try.ntmps47
        go_wp2_with fail
        refine HF.out.mono ?_
        rintro e w1 ⟨rfl, rfl⟩
        dsimp only [Option.map_some]
        go_wp2_with fail
        refine HT.out.mono ?_
        rintro e w2 ⟨rfl, ⟨v, hv⟩, hg2⟩
        have hR2 := HBk.out.1 w2 v L' hv HBk.out.2.1 hg2
        have HX : Hid (TouchO w B x P ws L n y al (.returned (.int .i64 er)) w2) := Lib.hid ⟨w.heap.size, Nat.le_refl _, by rw [HM.out], by rw [HM.out]; exact hR2, RG.of hg2⟩
        clear hv hg2 hR2 z2
        rcases he : (er == 0) with _ | _
        · go_wp2
          go_ret
          exact HX.out
        · go_wp2
          go_ret
          exact HX.out
      · have hM : ∀ q, touchM ws L n y al q = (7, ws, L) := fun q => by unfold touchM; rw [if_neg hbad, hf]; dsimp only; rw [if_pos rfl]
        have HX : Hid (TouchO w B x P ws L n y al (.returned (.int .i64 7)) w) := Lib.hid ⟨w.heap.size, Nat.le_refl _, by rw [hM], by rw [hM]; exact h, RG.of (lbelow_grown (Below.refl _ _) _)⟩
        clear h hok hnc hbad hM hro hback hTk h64 hT hf hB hl hk hz
        go_enter Try.func47, Try.ntmps47
        go_wp2_with fail
        refine HF.out.mono ?_
        rintro e w1 ⟨rfl, rfl⟩
        dsimp only [Option.map_some]
        go_wp2
        go_ret
        exact HX.out
end Go.Proofs.Ytihchfjdgeehoaa

namespace Go.Proofs.Ytihchfjdgeehoaa
open Go.RowKit Go.Maps Go.Joins Go.Deep
set_option linter.unusedVariables false
set_option linter.unusedSimpArgs false

theorem own_less {u : World} {B B' k n c m : Nat} {t : TypeId} {A : Option Addr} {vs : List Value} (h : u.ownsRow B' t k (.slice A n c) m vs) (hB : B ≤ B') : u.ownsRow B t k (.slice A n c) m vs := by
  obtain ⟨h1, h2⟩ := h
  refine ⟨h1, ?_⟩
  rcases h2 with h2 | ⟨g', cap', cur, hv, hb, hrest⟩
  · exact .inl h2
  · exact .inr ⟨g', cap', cur, hv, Nat.le_trans hB hb, hrest⟩
/-- Other works. -/
theorem RAt.rws {w : World} {B B' x : Nat} {P : List (Int × Nat)} {ws ws' : List WI} {L : List LRow} (h : RAt w B x P ws L) {A : Option Addr} {c n : Nat} (hn : n = ws'.length) (ho : OwnPt w B' A c (ws'.map WI.q)) (hB : B ≤ B') (hs : ws'.Sublist ws) : RAt (w.setCell ⟨x, 1, none⟩ (.slice A n c)) B x P ws' L := by
  obtain ⟨AP, nP, cP, AW, nW, cW, AL, nL, cL, hk, hnP, hnW, hnL, hpr, hpt, hl⟩ := h.ex
  have hgs := lgrown_set w ⟨x, 1, none⟩ (.slice A n c)
  have ks := hk.set_ 1 (.slice A n c)
  have hwk := wk_kept h.wk hk hgs
  refine ⟨⟨AP, nP, cP, A, n, c, AL, nL, cL, ks, hnP, hn, hnL, own_kept hpr hk (by decide) hgs, own_kept (own_less ho hB) hk (by decide) hgs, hl.kept hgs fun r e => by cases e; exact .inr ⟨_, _, by decide, hk⟩⟩, fun y hy => hwk y (hs.subset hy), h.ds.sublist hs, h.sm.1, Nat.le_trans hs.length_le h.sm.2.1, h.sm.2.2.1, fun y hy => h.sm.2.2.2 y (hs.subset hy)⟩
def othersW (ws : List WI) (n : Int) : List WI := ws.filter fun y => decide (y.n ≠ n)
theorem othersW_snoc {ws : List WI} {n : Int} {j : Nat} (hj : j < ws.length) : othersW (ws.take (j + 1)) n = if (ws[j]'hj).n = n then othersW (ws.take j) n else othersW (ws.take j) n ++ [ws[j]'hj] := by
  unfold othersW
  rw [List.take_add_one, List.getElem?_eq_getElem hj, List.filter_append]
  split
  · rename_i h; simp [h]
  · rename_i h; simp [h]
set_option maxRecDepth 100000 in
set_option maxHeartbeats 4000000 in
theorem rsdrop_any (B x : Nat) (P : List (Int × Nat)) (ws : List WI) (L : List LRow) (n : Int) (w : World) (h : RAt w B x P ws L) (hB : B ≤ w.heap.size) :
    Calls Try.prog 48 #[.pointer (some ⟨x, 0, none⟩), .int .i64 n] w fun e w' => e = .returned (.tuple #[]) ∧ RAt w' B x P (othersW ws n) (dropL L n) ∧ w.grownBy w' (some x) := by
  obtain ⟨cs, hro, hback⟩ := h.rof
  have h64 : (dropL L n).length ≤ 64 := Nat.le_trans (dropL_len L n) h.sm.2.2.1
  have hDr := rdrop_any B x 2 32 cs (by decide) L n w hro (by have := h.sm.2.2.1; omega) hB
  have HD := Lib.hid hDr
  have HBk := Lib.hid (And.intro hback (And.intro h64 hB))
  clear h hro hback h64 hDr
  go_enter Try.func48, Try.ntmps48
  go_wp2_with fail
  refine HD.out.mono ?_
  rintro e w1 ⟨rfl, ⟨v, hv⟩, hg1⟩
  have hR1 := HBk.out.1 w1 v _ hv HBk.out.2.1 hg1
  have H1 := Lib.hid (And.intro hR1 (And.intro hg1 (Nat.le_trans HBk.out.2.2 hg1.size)))
  obtain ⟨AP, nP, cP, AW, nW, cW, AL, nL, cL, hk, _, hnW, _, _, hpt, _⟩ := hR1.ex
  have HK := Lib.hid (And.intro hk hpt)
  have HN := Lib.hid hnW
  have hn1 : nW ≤ 100 := by rw [hnW]; exact hR1.sm.2.1
  clear hv hg1 hR1 hk hnW hpt HD HBk
  go_wp2_with fail
  go_loopw [4, 5] (fun v i wr => ∃ (j n2 c2 : Nat) (A2 : Option Addr), v = .slice A2 n2 c2 ∧ j ≤ nW ∧ n2 ≤ j ∧ i = .int .i64 j ∧ Hid (n2 = (othersW (ws.take j) n).length ∧ OwnPt wr w1.heap.size A2 c2 ((othersW (ws.take j) n).map WI.q) ∧ Below w1.heap.size w1 wr)) (fun _ i _ => nW - (intOf i).toNat)
  case atStart => exact ⟨0, 0, 0, none, rfl, Nat.zero_le _, Nat.le_refl _, rfl, Lib.hid ⟨rfl, World.ownsRow_nil _ _ _ _, Below.refl _ _⟩⟩
  case round =>
    obtain ⟨j, n2, c2, A2, rfl, hj, hn2j, rfl, HR⟩ := hrel
    by_cases hjn : j < nW
    · have hjI : (j : Int) < (nW : Int) := by omega
      have hjL : j < ws.length := by rw [← HN.out]; exact hjn
      obtain ⟨hn2, hown, hb⟩ := HR.out
      have hkr := HK.out.1.below hb HK.out.1.lt
      have c1 := hkr.cell 1
      simp only [List.getElem?_toArray, List.getElem?_cons_zero, List.getElem?_cons_succ] at c1
      have hpt := HK.out.2
      unfold OwnPt at hpt
      rw [List.length_map] at hpt
      obtain ⟨b, rfl, _, hbl, _, hc⟩ := row_cells hpt (by omega)
      have q0 := (hb.cell (p := ⟨b, j, none⟩) hbl).trans (hc j (.pointer (some ⟨(ws[j]'hjL).q, 0, none⟩)) (by unfold ptV; simp [hjL]))
      have hwj := (H1.out.1.wk _ (List.getElem_mem hjL)).2.1
      have q1 := (hwj.below hb hwj.lt).cell 0
      simp only [List.getElem?_toArray, List.getElem?_cons_zero, List.getElem?_cons_succ] at q1
      have hsn := othersW_snoc (n := n) hjL
      generalize ws[j]'hjL = y at q0 q1 hsn
      obtain ⟨yq, yn, yA, yc, yl, yp⟩ := y
      dsimp only at q0 q1 hsn
      by_cases h1 : yn = n
      · rw [if_pos h1] at hsn
        have HX : Hid (n2 = (othersW (ws.take (j + 1)) n).length ∧ OwnPt wr w1.heap.size A2 c2 ((othersW (ws.take (j + 1)) n).map WI.q) ∧ Below w1.heap.size w1 wr) := Lib.hid (by rw [hsn]; exact HR.out)
        subst h1
        clear hpt hc hwj hkr hown hb hbl hsn HR hjL hn2
        go_wp2
        go_roundw
        case rel => exact ⟨j + 1, n2, c2, A2, rfl, by omega, by omega, by go_num, HX⟩
        case measure => simp [intOf]; omega
      · rw [if_neg h1] at hsn
        have e1 : (yn != n) = true := by simp [h1]
        have hb3 := ba wr (.cells #[.pointer (some ⟨yq, 0, none⟩)] 44)
        have own3 : OwnPt (wr.alloc (.cells #[.pointer (some ⟨yq, 0, none⟩)] 44)) w1.heap.size A2 c2 ((othersW (ws.take j) n).map WI.q) := World.ownsRow.kept hown (lbelow_grown hb3 none) (by rcases (Value.slice A2 ((othersW (ws.take j) n).map WI.q).length c2).ownBlock with _ | k; exact .inl rfl; exact .inr (fun e => by cases e))
        obtain ⟨A5, c5, w5, hrun, hE5, hg5⟩ := pt_more own3 n2 (by rw [List.length_map]; exact hn2) (by omega) yq wr.heap.size (by have := hb.size; have := hb3.size; omega) ((Blk.new wr 44 #[.pointer (some ⟨yq, 0, none⟩)]).cell 0)
        have hB5 := (bt hb hb3).grown hg5 (by have := hb.size; have := hb3.size; omega) (fun r e => (World.ownsRow.lt own3 r (by rw [ownBlock_slice]; exact e)).1)
        have HX : Hid (n2 + 1 = (othersW (ws.take (j + 1)) n).length ∧ OwnPt w5 w1.heap.size A5 c5 ((othersW (ws.take (j + 1)) n).map WI.q) ∧ Below w1.heap.size w1 w5) := Lib.hid (by rw [hsn, List.length_append, List.map_append, ← hn2]; exact ⟨rfl, hE5, hB5⟩)
        clear hpt hc hwj hkr hown hb hbl hsn HR hjL hn2 hb3 own3 hE5 hg5 hB5
        go_wp2_with (at_builtin; refine wpList_append_run rfl (.tmp 32) (.tmp 40) 27 rfl _ _ _ w5 rfl rfl hrun ?_)
        go_roundw
        case rel => exact ⟨j + 1, n2 + 1, c5, A5, rfl, by omega, by omega, by go_num, HX⟩
        case measure => simp [intOf]; omega
    · have hjI : ¬ (j : Int) < (nW : Int) := by omega
      have hjj : ws.take j = ws := List.take_of_length_le (by have := HN.out; omega)
      obtain ⟨hn2, hown, hb⟩ := HR.out
      rw [hjj] at hn2 hown
      have hkr := HK.out.1.below hb HK.out.1.lt
      have c1 := hkr.cell 1
      have f1 := hkr.frozen 1
      simp only [List.getElem?_toArray, List.getElem?_cons_zero, List.getElem?_cons_succ] at c1
      have HX : Hid (RAt (wr.setCell ⟨x, 1, none⟩ (.slice A2 n2 c2)) B x P (othersW ws n) (dropL L n) ∧ w.grownBy (wr.setCell ⟨x, 1, none⟩ (.slice A2 n2 c2)) (some x)) := Lib.hid ⟨(H1.out.1.below hb).rws hn2 hown H1.out.2.2 List.filter_sublist, (H1.out.2.1.trans (lbelow_grown hb (some x))).trans (lgrown_set wr ⟨x, 1, none⟩ (.slice A2 n2 c2))⟩
      clear hn2 hown hb hkr HR hjj
      go_wp2
      go_end0
      exact ⟨rfl, HX.out⟩
def backR (ws : List WI) (L : List LRow) (n : Int) : Int × List WI × List LRow := if n < 1 then (1, ws, L) else (0, othersW ws n, dropL L n)
set_option maxRecDepth 100000 in
set_option maxHeartbeats 1000000 in
theorem rback_any (B x : Nat) (P : List (Int × Nat)) (ws : List WI) (L : List LRow) (n : Int) (w : World) (h : RAt w B x P ws L) (hB : B ≤ w.heap.size) :
    Calls Try.prog 33 #[.pointer (some ⟨x, 0, none⟩), .int .i64 n] w fun e w' => e = .returned (.int .i64 (backR ws L n).1) ∧ RAt w' B x P (backR ws L n).2.1 (backR ws L n).2.2 ∧ w.grownBy w' (some x) := by
  have HD := Lib.hid (rsdrop_any B x P ws L n w h hB)
  have H := Lib.hid h
  unfold backR
  rcases a1 : decide (n < 1) with _ | _
  · have p1 : ¬ n < 1 := of_decide_eq_false a1
    rw [if_neg p1]
    clear h
    go_enter Try.func33, Try.ntmps33
    go_wp2_with fail
    refine HD.out.mono ?_
    rintro e w1 ⟨rfl, hr⟩
    have HX := Lib.hid hr
    clear hr
    go_wp2
    go_ret
    exact ⟨rfl, HX.out⟩
  · have p1 : n < 1 := of_decide_eq_true a1
    rw [if_pos p1]
    clear h
    go_enter Try.func33, Try.ntmps33
    go_wp2
    go_ret
    exact ⟨rfl, H.out, lbelow_grown (Below.refl _ _) _⟩
end Go.Proofs.Ytihchfjdgeehoaa

namespace Go.Proofs.Ytihchfjdgeehoaa
open Go.RowKit Go.Maps Go.Joins Go.Deep
set_option linter.unusedVariables false
set_option linter.unusedSimpArgs false

theorem touch_found {ws : List WI} {L : List LRow} {n y : Int} {al : Bool} {q : Nat} (h : (touchM ws L n y al q).1 = 0) : ∃ z, findW (touchM ws L n y al q).2.1 n = some z ∧ z ∈ (touchM ws L n y al q).2.1 ∧ z.n = n ∧ z.p = false := by
  have key : ∀ ws' : List WI, ∀ z, findW ws' n = some z → z ∈ ws' ∧ z.n = n := fun ws' z hz => ⟨List.mem_of_find?_eq_some hz, by have := List.find?_some hz; simpa using this⟩
  unfold touchM at h ⊢
  split at h
  · cases h
  · rename_i hb
    rw [if_neg hb]
    split at h
    · rename_i z hz
      split at h
      · cases h
      · rename_i hp
        rw [if_neg hp]
        exact ⟨z, hz, (key ws z hz).1, (key ws z hz).2, by simpa using hp⟩
    · rename_i hz
      dsimp only at h ⊢
      rw [if_pos h]
      have hf : findW (ws ++ [⟨q, n, none, 0, [], false⟩]) n = some ⟨q, n, none, 0, [], false⟩ := by
        unfold findW at hz ⊢
        rw [List.find?_append, hz]
        simp
      exact ⟨_, hf, (key _ _ hf).1, rfl, rfl⟩
def chgOf (l : List Ch) (y : Int) : Option Ch := l.find? fun c => decide (c.y = y)
theorem chgOf_at {l : List Ch} {y : Int} {j : Nat} (hj : j < l.length) (hno : ∀ i, (h : i < l.length) → i < j → (l[i]'h).y ≠ y) (h : (l[j]'hj).y = y) : chgOf l y = some (l[j]'hj) := by
  unfold chgOf
  rw [List.find?_eq_some_iff_getElem]
  exact ⟨by simpa using h, j, hj, rfl, fun i hi => by simpa using hno i (by omega) hi⟩
theorem chgOf_none {l : List Ch} {y : Int} (hno : ∀ i, (h : i < l.length) → (l[i]'h).y ≠ y) : chgOf l y = none := by
  unfold chgOf
  rw [List.find?_eq_none]
  intro y hy
  obtain ⟨i, hi, rfl⟩ := List.mem_iff_getElem.1 hy
  simpa using hno i hi
def getZ (P : List (Int × Nat)) (l : List Ch) (y : Int) : Nat × Bool := match chgOf l y with | some c => (c.v, c.k == 1) | none => valP P y
def getR (P : List (Int × Nat)) (T : Int × List WI × List LRow) (n y : Int) : Nat × Bool × Int :=
  if T.1 = 0 then (match findW T.2.1 n with | some z => ((getZ P z.l y).1, (getZ P z.l y).2, 0) | none => (0, false, 0)) else (0, false, T.1)
def GetO (w : World) (B x : Nat) (P : List (Int × Nat)) (ws : List WI) (L : List LRow) (n y : Int) (e : Ending) (w' : World) : Prop :=
  ∃ q, w.heap.size ≤ q ∧ e = .returned (.tuple #[.int .u64 ((getR P (touchM ws L n y false q) n y).1 : Nat), .bool (getR P (touchM ws L n y false q) n y).2.1, .int .i64 (getR P (touchM ws L n y false q) n y).2.2]) ∧ RAt w' B x P (touchM ws L n y false q).2.1 (touchM ws L n y false q).2.2 ∧ RG B w w' x (fun _ => False)
theorem RG.bel {B0 : Nat} {a b c : World} {x : Nat} {S : Nat → Prop} (h : RG B0 a b x S) (k : Below b.heap.size b c) : RG B0 a c x S := h.trans (RG.of (lbelow_grown k (some x))) (fun _ _ h => h) (S' := S)
set_option maxRecDepth 100000 in
set_option maxHeartbeats 4000000 in
theorem rget_any (B x : Nat) (P : List (Int × Nat)) (ws : List WI) (L : List LRow) (n y : Int) (w : World) (h : RAt w B x P ws L) (hB : B ≤ w.heap.size) (hl : ws.length < 100) (hok : LOk L) (hnc : NoClash L) :
    Calls Try.prog 29 #[.pointer (some ⟨x, 0, none⟩), .int .i64 n, .int .i64 y] w (GetO w B x P ws L n y) := by
  have HT := Lib.hid (touch_any B x P ws L n y false w h hB hl hok hnc)
  clear h hl hok hnc
  go_enter Try.func29, Try.ntmps29
  go_wp2_with fail
  refine HT.out.mono ?_
  rintro e w1 ⟨q, hq, rfl, hR, hG⟩
  have hfound := touch_found (ws := ws) (L := L) (n := n) (y := y) (al := false) (q := q)
  have hfin : ∀ (w2 : World) (v : Nat) (t : Bool) (er : Int), getR P (touchM ws L n y false q) n y = (v, t, er) → Below w1.heap.size w1 w2 → GetO w B x P ws L n y (.returned (.tuple #[.int .u64 (v : Nat), .bool t, .int .i64 er])) w2 := fun w2 v t er e hb => ⟨q, hq, by rw [e], hR.below hb, hG.bel hb⟩
  obtain ⟨T, hTd⟩ : ∃ T, T = touchM ws L n y false q := ⟨_, rfl⟩
  rw [← hTd] at hR hfound hfin ⊢
  obtain ⟨er, ws', L'⟩ := T
  dsimp only at hR hfound hfin ⊢
  rcases he : (er != 0) with _ | _
  · obtain rfl : er = 0 := by simpa using he
    obtain ⟨z, hfz, hzm, hzn, hzp⟩ := hfound rfl
    have hgz : getR P (0, ws', L') n y = ((getZ P z.l y).1, (getZ P z.l y).2, 0) := by unfold getR; rw [if_pos rfl]; dsimp only; rw [hfz]
    have HF := Lib.hid (find_any B x P ws' L' n w1 hR)
    rw [hfz] at HF
    have hz := hR.wk _ hzm
    have hsm := hR.sm.2.2.2 _ hzm
    have HV := fun (u : World) (hu : Below w1.heap.size w1 u) => rvalue_any B x P ws' L' y u (hR.below hu)
    have HVV := Lib.hid HV
    obtain ⟨zq, zn, zA, zc, zl, zp⟩ := z
    dsimp only at hgz hz hsm
    obtain ⟨nl, hnl⟩ : ∃ nl, nl = zl.length := ⟨_, rfl⟩
    rw [← hnl] at hz hsm
    have z1 := fun m : Nat => (show (w1.drewN m).cell? ⟨zq, 1, none⟩ = some (.slice zA nl zc) from hz.2.1.cell 1)
    have z10 : w1.cell? ⟨zq, 1, none⟩ = some (.slice zA nl zc) := hz.2.1.cell 1
    have hown := hz.2.2
    have hq6 : (nl : Int) ≤ 100 := by omega
    have HN := Lib.hid (And.intro hnl hown)
    have HG := Lib.hid (And.intro hfin hgz)
    clear hR hG hTd hfound hfz hzm hzn hzp hz hnl hown HV hfin hgz HT
    go_wp2_with fail
    refine HF.out.mono ?_
    rintro e w2 ⟨rfl, rfl⟩
    dsimp only [Option.map_some]
    go_wp2_with fail
    go_loopw [11] (fun i wr => ∃ j : Nat, j ≤ nl ∧ i = .int .i64 j ∧ Hid (∀ i, (h : i < zl.length) → i < j → (zl[i]'h).y ≠ y) ∧ w1 = wr) (fun i _ => nl - (intOf i).toNat)
    case atStart => exact ⟨0, Nat.zero_le _, rfl, Lib.hid (fun i h h2 => by omega), rfl⟩
    case round =>
      obtain ⟨j, hj, rfl, hno, rfl⟩ := hrel
      by_cases hjn : j < nl
      · have hjI : (j : Int) < (nl : Int) := by omega
        have hjL : j < zl.length := by rw [← HN.out.1]; exact hjn
        obtain ⟨b, o, rfl, _, hcs⟩ := HN.out.2.at_ (by omega)
        obtain ⟨r0, r1, r2⟩ := hcs j hjL
        have hyes : Hid ((zl[j]'hjL).y = y → chgOf zl y = some (zl[j]'hjL)) := Lib.hid (fun e => chgOf_at hjL hno.out e)
        have hstep : Hid (¬ (zl[j]'hjL).y = y → ∀ i, (h : i < zl.length) → i < j + 1 → (zl[i]'h).y ≠ y) := Lib.hid (fun h1 i hi hij => by
          by_cases e : i = j
          · subst e; exact h1
          · exact hno.out i hi (by omega))
        generalize zl[j]'hjL = z at r0 r1 r2 hyes hstep
        obtain ⟨ck, cy, cv⟩ := z
        dsimp only at r0 r1 r2 hyes hstep
        clear hcs hno hjL
        by_cases h1 : cy = y
        · have HP : Hid (getR P (0, ws', L') n y = (cv, ck == 1, 0)) := Lib.hid (by rw [HG.out.2]; unfold getZ; rw [hyes.out h1])
          subst h1
          have s0 := fun m : Nat => cell_drew r0 m
          have s2 := fun m : Nat => cell_drew r2 m
          clear hyes hstep
          go_wp2_with fail
          go_quiet (fail)
          have hdr : Below w1.heap.size w1 (w1.drewN nq) := ⟨rfl, rfl, rfl, Nat.le_refl _, fun _ _ => rfl⟩
          have HX := Lib.hid (HG.out.1 (w1.drewN nq) cv (ck == 1) 0 HP.out hdr)
          clear s0 s2 z1 z10 r0 r1 r2 hdr
          go_wp2
          go_returns
          exact HX.out
        · have hno2 : Hid (∀ i, (h : i < zl.length) → i < j + 1 → (zl[i]'h).y ≠ y) := Lib.hid (hstep.out h1)
          have e1 : (cy == y) = false := by simp [h1]
          clear hyes hstep r0 r2
          go_wp2
          go_roundw
          case rel => exact ⟨j + 1, by omega, by go_num, hno2, by first | rfl | trivial⟩
          case measure => simp [intOf]; omega
      · have hjI : ¬ (j : Int) < (nl : Int) := by omega
        have HP : Hid (getR P (0, ws', L') n y = ((valP P y).1, (valP P y).2, 0)) := Lib.hid (by
          rw [HG.out.2]; unfold getZ; rw [chgOf_none fun i hi => hno.out i hi (by have := HN.out.1; omega)])
        have HV1 := Lib.hid (HVV.out w1 (Below.refl _ _))
        clear hno HVV
        go_wp2_with fail
        refine HV1.out.mono ?_
        rintro e w3 ⟨rfl, rfl⟩
        have HX := Lib.hid (HG.out.1 w1 _ _ 0 HP.out (Below.refl _ _))
        clear z1 z10
        go_wp2
        go_returns
        exact HX.out
  · have hne : er ≠ 0 := by simpa using he
    have HX : Hid (GetO w B x P ws L n y (.returned (.tuple #[.int .u64 (0 : Nat), .bool false, .int .i64 er])) w1) := Lib.hid (hfin w1 0 false er (by unfold getR; rw [if_neg hne]) (Below.refl _ _))
    clear hR hG hTd hfound hfin HT
    go_wp2
    go_returns
    exact HX.out
end Go.Proofs.Ytihchfjdgeehoaa
