/- Layer 14: Restore. -/
import Derived.Test.YtfcafahgmnnlnaaQ18
namespace Go.Proofs.Ytfcafahgmnnlnaa.Qu
open Go.RowKit Go.Maps Go.Deep
set_option linter.unusedVariables false
set_option linter.unusedSimpArgs false

def givenI (L : List IT) (n : Int) (k : Nat) : List IT := (L.take k).map (fun x => { x with t := n }) ++ L.drop k
theorem givenI_len (L : List IT) (n : Int) (i : Nat) : (givenI L n i).length = L.length := by
  unfold givenI; rw [List.length_append, List.length_map, List.length_take, List.length_drop]; omega
theorem givenI_step (L : List IT) (n : Int) (i : Nat) (h : i < L.length) : giveI (givenI L n i) i n = givenI L n (i + 1) := by
  have e1 : L.drop i = L[i]'h :: L.drop (i + 1) := List.drop_eq_getElem_cons h
  have e2 : L.take (i + 1) = L.take i ++ [L[i]'h] := by rw [List.take_add_one, List.getElem?_eq_getElem h]; rfl
  have hl : ((L.take i).map (fun x : IT => { x with t := n })).length = i := by rw [List.length_map, List.length_take]; omega
  have e3 : givenI L n i = (L.take i).map (fun x => { x with t := n }) ++ L[i]'h :: L.drop (i + 1) := by unfold givenI; rw [e1]
  have e4 : givenI L n (i + 1) = (L.take i).map (fun x => { x with t := n }) ++ { (L[i]'h) with t := n } :: L.drop (i + 1) := by unfold givenI; rw [e2, List.map_append, List.append_assoc]; rfl
  rw [e3, e4]
  have := giveI_app ((L.take i).map (fun x : IT => { x with t := n })) (L[i]'h) (L.drop (i + 1)) n
  rw [hl] at this
  exact this
theorem givenI_zero (L : List IT) (n : Int) : givenI L n 0 = L := by unfold givenI; simp
theorem fits_len : ∀ (l : List Ch) (L : List IT), fitsQ L l = true → l.length ≤ L.length + putsL l
  | [], L, _ => by simp
  | x :: r, L, h => by
    have h3 : putsL (x :: r) = (if x.k = 3 then 1 else 0) + putsL r := by
      unfold putsL; rw [List.filter_cons]
      by_cases e : x.k = 3
      · simp [e]; omega
      · simp [e]
    unfold fitsQ at h
    by_cases e : x.k = 3
    · rw [if_pos e] at h h3
      have := fits_len r L (by rw [Bool.and_eq_true] at h; exact h.2)
      rw [h3]; simp; omega
    · rw [if_neg e] at h h3
      by_cases e4 : x.k = 4
      · rw [if_pos e4] at h
        cases L with
        | nil => cases h
        | cons i L' =>
          have := fits_len r L' (by simp only [Bool.and_eq_true] at h; exact h.2)
          rw [h3]; simp; omega
      · rw [if_neg e4] at h; cases h
def restM (S : QS) (n : Int) (l : List Ch) : Int × QS :=
  if n < 1 then (1, S) else if fitsQ S.I l = false then (1, S) else if roomQ S < (putsL l : Nat) then (1, S) else if (lookQ S.ws n).isSome = true then (7, S) else if l = [] then (0, S)
  else (0, { S with I := givenI S.I n (l.length - putsL l), ws := layQ S.ws n l true })
theorem lay_new {ws : List WQ} {n : Int} {l : List Ch} {p : Bool} (hd : ws.Pairwise fun a b => a.n ≠ b.n) (h : (lookQ ws n).isSome = false) : putsW (layQ ws n l p) = putsW ws + putsL l := by
  have := putsW_lay ws n l p hd
  have h0 : putsL (curQ ws n).1 = 0 := by
    unfold curQ
    rcases hl : lookQ ws n with _ | x
    · rfl
    · rw [hl] at h; cases h
  omega
theorem rest_nil (n : Int) (A : Option Addr) (q c : Nat) (w : World) : Calls Try.prog 29 #[.pointer none, .int .i64 n, .slice A q c] w fun e w' => e = .returned (.int .i64 6) ∧ w = w' := by
  go_enter Try.func29, Try.ntmps29
  go_wp2_with fail
  refine (names_nil n w).mono ?_
  rintro e w1 ⟨rfl, rfl⟩
  go_wp2
  go_ret
  exact ⟨rfl, rfl⟩
set_option maxRecDepth 100000 in
set_option maxHeartbeats 4000000 in
theorem rest_any (g of : Nat) (tt : TypeId) (cs : Array Value) (S : QS) (N : Nat) (n : Int) (A : Option Addr) (l : List Ch) (q c : Nat) (w : World) (h : QAt w g of tt cs S N) (hN : N < 300000) (hn : i64ok n) (hq : Hid (q = l.length)) (hqN : q ≤ N + 1) (hL : ∀ u, w.grownBy u (some g) → InL u A l) (hB : ∀ b, w.heap.size ≤ b → S.B b) :
    Calls Try.prog 29 #[.pointer (some ⟨g, of, none⟩), .int .i64 n, .slice A q c] w fun e w' => e = .returned (.int .i64 (restM S n l).1) ∧ QO w g of tt cs (restM S n l).2 (N + 1) w' := by
  have HN := Lib.hid (names_any g of n w)
  have HF := Lib.hid (fun u (hb : Below w.heap.size w u) => QO.same (h.more (Nat.le_succ N)) hb)
  by_cases h1 : n < 1
  · have hM : restM S n l = (1, S) := if_pos h1
    rw [hM]
    have hE : namesE n = 1 := if_pos h1
    rw [hE] at HN
    clear h hM hE hL hB
    go_enter Try.func29, Try.ntmps29
    go_wp2_with fail
    refine HN.out.mono ?_
    rintro e w1 ⟨rfl, rfl⟩
    have HF2 := Lib.hid (HF.out w (Below.refl _ _))
    go_wp2
    go_ret
    exact ⟨rfl, HF2.out⟩
  have hE : namesE n = 0 := if_neg h1
  rw [hE] at HN
  have HFi := Lib.hid (fits_any g of tt cs S N A l q c w h hq (by omega) (hL w (lbelow_grown (Below.refl _ _) _)))
  rcases hft : fitsQ S.I l with _ | _
  · have hM : restM S n l = (1, S) := by unfold restM; rw [if_neg h1, if_pos hft]
    rw [hM]
    rw [hft] at HFi
    clear h hM hE hL hB hft
    go_enter Try.func29, Try.ntmps29
    go_wp2_with fail
    refine HN.out.mono ?_
    rintro e w1 ⟨rfl, rfl⟩
    go_wp2_with fail
    refine HFi.out.mono ?_
    rintro e w2 ⟨rfl, b2⟩
    have HF2 := Lib.hid (HF.out w2 b2)
    clear b2
    go_wp2
    go_ret
    exact ⟨rfl, HF2.out⟩
  rw [hft] at HFi
  have HPu := Lib.hid (fun u (hb : Below w.heap.size w u) => puts_any A l q c u hq (by omega) (hL u (lbelow_grown hb _)))
  have HRo := Lib.hid (fun u (hb : Below w.heap.size w u) => room_any g of tt cs S N u (h.below hb) (by omega))
  obtain ⟨pz, hpz⟩ : ∃ pz, pz = putsL l := ⟨_, rfl⟩
  obtain ⟨rr, hrr⟩ : ∃ rr, rr = roomQ S := ⟨_, rfl⟩
  rw [← hpz] at HPu
  rw [← hrr] at HRo
  by_cases hro : rr < (pz : Int)
  · have hM : restM S n l = (1, S) := by unfold restM; rw [if_neg h1, if_neg (by rw [hft]; simp), if_pos (by rw [← hrr, ← hpz]; exact hro)]
    rw [hM]
    clear h hM hE hL hB hft hpz hrr
    go_enter Try.func29, Try.ntmps29
    go_wp2_with fail
    refine HN.out.mono ?_
    rintro e w1 ⟨rfl, rfl⟩
    go_wp2_with fail
    refine HFi.out.mono ?_
    rintro e w2 ⟨rfl, b2⟩
    have HP2 := Lib.hid (HPu.out w2 b2)
    have HB2 := Lib.hid b2
    clear b2
    go_wp2_with fail
    refine HP2.out.mono ?_
    rintro e w3 ⟨rfl, b3⟩
    have HR3 := Lib.hid (HRo.out w3 (bt HB2.out b3))
    have HB3 := Lib.hid (bt HB2.out b3)
    clear b3
    go_wp2_with fail
    refine HR3.out.mono ?_
    rintro e w4 ⟨rfl, b4⟩
    have HF2 := Lib.hid (HF.out w4 (bt HB3.out b4))
    clear b4
    go_wp2
    go_ret
    exact ⟨rfl, HF2.out⟩
  have HBu := Lib.hid (fun u (hb : Below w.heap.size w u) => busy_any g of tt cs S N n u (h.below hb) hn)
  rcases hbz : (lookQ S.ws n).isSome with _ | _
  · rw [hbz] at HBu
    by_cases hl0 : l = []
    · have hM : restM S n l = (0, S) := by unfold restM; rw [if_neg h1, if_neg (by rw [hft]; simp), if_neg (by rw [← hrr, ← hpz]; exact hro), if_neg (by rw [hbz]; simp), if_pos hl0]
      rw [hM]
      obtain rfl : q = 0 := by rw [hq.out, hl0]; rfl
      clear h hM hE hL hB hft hpz hrr
      go_enter Try.func29, Try.ntmps29
      go_wp2_with fail
      refine HN.out.mono ?_
      rintro e w1 ⟨rfl, rfl⟩
      go_wp2_with fail
      refine HFi.out.mono ?_
      rintro e w2 ⟨rfl, b2⟩
      have HP2 := Lib.hid (HPu.out w2 b2)
      have HB2 := Lib.hid b2
      clear b2
      go_wp2_with fail
      refine HP2.out.mono ?_
      rintro e w3 ⟨rfl, b3⟩
      have HR3 := Lib.hid (HRo.out w3 (bt HB2.out b3))
      have HB3 := Lib.hid (bt HB2.out b3)
      clear b3
      go_wp2_with fail
      refine HR3.out.mono ?_
      rintro e w4 ⟨rfl, b4⟩
      have HBu4 := Lib.hid (HBu.out w4 (bt HB3.out b4))
      have HB4 := Lib.hid (bt HB3.out b4)
      clear b4
      go_wp2_with fail
      refine HBu4.out.mono ?_
      rintro e w5 ⟨rfl, b5⟩
      have HF2 := Lib.hid (HF.out w5 (bt HB4.out b5))
      clear b5
      go_wp2
      go_ret
      exact ⟨rfl, HF2.out⟩
    · have hM : restM S n l = (0, { S with I := givenI S.I n (l.length - putsL l), ws := layQ S.ws n l true }) := by unfold restM; rw [if_neg h1, if_neg (by rw [hft]; simp), if_neg (by rw [← hrr, ← hpz]; exact hro), if_neg (by rw [hbz]; simp), if_neg hl0]
      rw [hM]
      have hfl := fits_len l S.I hft
      have hpl := putsL_le l
      have hq0 : (q : Int) ≠ 0 := by rw [hq.out]; intro e; exact hl0 (List.eq_nil_of_length_eq_zero (by omega))
      have hq0b : ((q : Int) == 0) = false := by simpa using hq0
      obtain ⟨mt, hmt⟩ : ∃ mt, mt = l.length - putsL l := ⟨_, rfl⟩
      have hmtq : mt ≤ q := by have := hq.out; omega
      have hww : IntKind.i64.wrap ((q : Int) - (pz : Int)) = (mt : Int) := by have hqq := hq.out; rw [IntWalk.i64_in _ (by omega)]; omega
      have hinv : QInv { S with I := givenI S.I n mt, ws := layQ S.ws n l true } := by
        have h2 := lay_new (l := l) (p := true) h.nd hbz
        have h3 := h.iv.g0
        unfold roomQ at hrr
        exact ⟨by dsimp only; rw [givenI_len]; omega, h3, by dsimp only; omega⟩
      have H := Lib.hid (And.intro h (And.intro hn (And.intro hL (And.intro hB (And.intro hinv (And.intro (show mt ≤ S.I.length by omega) hqN))))))
      rw [← hmt]
      clear h hM hE hL hB hft hpz hrr hinv hfl hpl hmt
      go_enter Try.func29, Try.ntmps29
      go_wp2_with fail
      refine HN.out.mono ?_
      rintro e w1 ⟨rfl, rfl⟩
      go_wp2_with fail
      refine HFi.out.mono ?_
      rintro e w2 ⟨rfl, b2⟩
      have HP2 := Lib.hid (HPu.out w2 b2)
      have HB2 := Lib.hid b2
      clear b2
      go_wp2_with fail
      refine HP2.out.mono ?_
      rintro e w3 ⟨rfl, b3⟩
      have HR3 := Lib.hid (HRo.out w3 (bt HB2.out b3))
      have HB3 := Lib.hid (bt HB2.out b3)
      clear b3
      go_wp2_with fail
      refine HR3.out.mono ?_
      rintro e w4 ⟨rfl, b4⟩
      have HBu4 := Lib.hid (HBu.out w4 (bt HB3.out b4))
      have HB4 := Lib.hid (bt HB3.out b4)
      clear b4
      go_wp2_with fail
      refine HBu4.out.mono ?_
      rintro e w5 ⟨rfl, b5⟩
      have HP5 := Lib.hid (HPu.out w5 (bt HB4.out b5))
      have HB5 := Lib.hid (bt HB4.out b5)
      clear b5
      go_wp2_with fail
      refine HP5.out.mono ?_
      rintro e w6 ⟨rfl, b6⟩
      have HI0 : Hid (QO w g of tt cs { S with I := givenI S.I n 0 } N w6) := Lib.hid (by rw [givenI_zero]; exact QO.same H.out.1 (bt HB5.out b6))
      clear b6
      go_wp2_with fail
      go_loopw [40] (fun i wr => ∃ (i0 : Nat), i0 ≤ mt ∧ i = .int .i64 i0 ∧ Hid (QO w g of tt cs { S with I := givenI S.I n i0 } N wr)) (fun i _ => mt - (intOf i).toNat)
      case atStart => exact ⟨0, Nat.zero_le _, rfl, HI0⟩
      case round =>
        clear HI0
        obtain ⟨i0, hi0, rfl, HR⟩ := hrel
        by_cases him : i0 < mt
        · have hiI : (i0 : Int) < (mt : Int) := by omega
          obtain ⟨⟨cs', hq', hkp⟩, hg⟩ := HR.out
          have hcall := give_any g of tt cs' _ N i0 n wr hq' (by dsimp only; rw [givenI_len]; have := H.out.2.2.2.2.2.1; omega)
          dsimp only at hcall
          rw [givenI_step S.I n i0 (by have := H.out.2.2.2.2.2.1; omega)] at hcall
          have HC := Lib.hid hcall
          have HK := Lib.hid (And.intro hkp hg)
          clear hcall hq' hkp hg HR
          go_wp2_with fail
          refine HC.out.mono ?_
          rintro e w7 ⟨rfl, hq7⟩
          have HN2 : Hid (QO w g of tt cs { S with I := givenI S.I n (i0 + 1) } N w7) := Lib.hid (QO.from HK.out.1 HK.out.2 hq7)
          clear hq7
          go_wp2
          go_roundw
          case rel => exact ⟨i0 + 1, by omega, by go_num, HN2⟩
          case measure => simp [intOf]; omega
        · obtain rfl : i0 = mt := by omega
          have hiI : ¬ (i0 : Int) < (i0 : Int) := by omega
          obtain ⟨⟨cs', hq', hkp⟩, hg⟩ := HR.out
          have HCl := Lib.hid (cclone_in A l q c wr hq (Lib.hid (by have := H.out.2.2.2.2.2.2; omega)) (H.out.2.2.1 wr hg))
          have HK := Lib.hid (And.intro hq' (And.intro hkp hg))
          clear hq' hkp hg HR
          go_wp2_with fail
          refine HCl.out.mono ?_
          rintro e w7 ⟨A7, c7, rfl, own7, b7⟩
          have hc7 : ChAt w7 S.B A7 l := own7.at_.mono fun b hb _ => H.out.2.2.2.1 b (by have := HK.out.2.2.size; have hb : wr.heap.size ≤ b := hb; omega)
          have HLay := Lib.hid (lay_any g of tt cs' { S with I := givenI S.I n i0 } N n A7 l q c7 true w7 (HK.out.1.below b7) (by omega) H.out.2.1 hq.out (by have := hq.out; have := H.out.2.2.2.2.2.2; omega) hc7 H.out.2.2.2.2.1)
          have HB7 := Lib.hid b7
          clear own7 b7 hc7
          go_wp2_with fail
          refine HLay.out.mono ?_
          rintro e w8 ⟨rfl, hq8⟩
          have HFin := Lib.hid (QO.from HK.out.2.1 (HK.out.2.2.trans (lbelow_grown HB7.out _)) hq8)
          clear hq8
          go_wp2
          go_ret
          exact ⟨rfl, HFin.out⟩
  · have hM : restM S n l = (7, S) := by unfold restM; rw [if_neg h1, if_neg (by rw [hft]; simp), if_neg (by rw [← hrr, ← hpz]; exact hro), if_pos hbz]
    rw [hM]
    rw [hbz] at HBu
    clear h hM hE hL hB hft hpz hrr
    go_enter Try.func29, Try.ntmps29
    go_wp2_with fail
    refine HN.out.mono ?_
    rintro e w1 ⟨rfl, rfl⟩
    go_wp2_with fail
    refine HFi.out.mono ?_
    rintro e w2 ⟨rfl, b2⟩
    have HP2 := Lib.hid (HPu.out w2 b2)
    have HB2 := Lib.hid b2
    clear b2
    go_wp2_with fail
    refine HP2.out.mono ?_
    rintro e w3 ⟨rfl, b3⟩
    have HR3 := Lib.hid (HRo.out w3 (bt HB2.out b3))
    have HB3 := Lib.hid (bt HB2.out b3)
    clear b3
    go_wp2_with fail
    refine HR3.out.mono ?_
    rintro e w4 ⟨rfl, b4⟩
    have HBu4 := Lib.hid (HBu.out w4 (bt HB3.out b4))
    have HB4 := Lib.hid (bt HB3.out b4)
    clear b4
    go_wp2_with fail
    refine HBu4.out.mono ?_
    rintro e w5 ⟨rfl, b5⟩
    have HF2 := Lib.hid (HF.out w5 (bt HB4.out b5))
    clear b5
    go_wp2
    go_ret
    exact ⟨rfl, HF2.out⟩
end Go.Proofs.Ytfcafahgmnnlnaa.Qu
