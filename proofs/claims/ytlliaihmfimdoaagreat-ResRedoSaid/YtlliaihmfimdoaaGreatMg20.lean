/- Parts Q18 Q19 Q20 Q21 of one proof. -/
import Derived.Test.YtlliaihmfimdoaaGreatMg19
namespace Go.Proofs.YtlliaihmfimdoaaGreat.Qu
open Go.RowKit Go.Maps Go.Deep
set_option linter.unusedVariables false
set_option linter.unusedSimpArgs false

theorem QAt.cur_len {w : World} {g of N : Nat} {tt : TypeId} {cs : Array Value} {S : QS} (h : QAt w g of tt cs S N) (n : Int) : (curQ S.ws n).1.length ≤ N := by
  unfold curQ lookQ
  rcases hf : findQ S.ws n with _ | y
  · exact Nat.zero_le _
  · exact (h.le y (findQ_mem hf).1).1
theorem lay_same (ws : List WQ) (n : Int) (p : Bool) (hd : ws.Pairwise fun a b => a.n ≠ b.n) : putsW (layQ ws n (curQ ws n).1 p) = putsW ws := by
  have := putsW_lay ws n (curQ ws n).1 p hd
  omega
theorem QInv.ws {S : QS} {ws' : List WQ} (h : QInv S) (hp : putsW ws' = putsW S.ws) : QInv { S with ws := ws' } := ⟨by dsimp only; rw [hp]; exact h.room, h.g0, by dsimp only; rw [hp]; exact h.last⟩
theorem QOk.ws' {S : QS} {ws' : List WQ} (h : QOk S) (hp : putsW ws' = putsW S.ws) : QOk { S with ws := ws' } := ⟨by dsimp only; rw [hp]; exact h.room, h.g0, by dsimp only; rw [hp]; exact h.last⟩
def prepM (S : QS) (n : Int) : (List Ch × Int) × QS :=
  if openE S n ≠ 0 then (([], openE S n), S) else if (lookQ S.ws n).isSome = false then (([], 0), S) else (((curQ S.ws n).1, 0), { S with ws := layQ S.ws n (curQ S.ws n).1 true })
theorem prep_nil (n : Int) (w : World) : Calls Tryz.prog 63 #[.pointer none, .int .i64 n] w fun e w' => e = .returned (.tuple #[.slice none 0 0, .int .i64 6]) ∧ w = w' := by
  go_enter Tryz.func63, Tryz.ntmps63
  go_wp2_with fail
  refine (open_nil n w).mono ?_
  rintro e w1 ⟨rfl, rfl⟩
  go_wp2
  go_ret2
  exact ⟨rfl, rfl⟩
set_option maxRecDepth 100000 in
set_option maxHeartbeats 2000000 in
theorem prep_any (g of : Nat) (tt : TypeId) (cs : Array Value) (S : QS) (N : Nat) (n : Int) (w : World) (h : QAt w g of tt cs S N) (hN : N < 300000) (hn : i64ok n) :
    Calls Tryz.prog 63 #[.pointer (some ⟨g, of, none⟩), .int .i64 n] w fun e w' => (∃ A q c, e = .returned (.tuple #[.slice A q c, .int .i64 (prepM S n).1.2]) ∧ q = (prepM S n).1.1.length ∧ OwnC w' w.heap.size A c (prepM S n).1.1) ∧ QO w g of tt cs (prepM S n).2 (N + 1) w' := by
  have HO := Lib.hid (open_any g of tt cs S N n w h hn)
  obtain ⟨er, her⟩ : ∃ er, er = openE S n := ⟨_, rfl⟩
  rw [← her] at HO
  by_cases h0 : er = 0
  · subst h0
    obtain ⟨m, A, q, c, h32, hq, hc, _, r2⟩ := h.look hn
    have c32 := (h.bk.cell (of + 2)).trans h32
    have hlen := h.cur_len n
    obtain ⟨p, hp⟩ : ∃ p, p = (curQ S.ws n).2 := ⟨_, rfl⟩
    rw [← hp] at r2
    obtain ⟨w3, hw3⟩ : ∃ w3, w3 = w.alloc (.cells #[.slice A q c, .bool p] 143) := ⟨_, rfl⟩
    have b3 : Below w.heap.size w w3 := by rw [hw3]; exact ba _ _
    have kw : Blk w3 w.heap.size 143 #[.slice A q c, .bool p] := by rw [hw3]; exact Blk.new _ _ _
    have d1 := kw.cell 1
    have f1 := kw.frozen 1
    simp only [List.getElem?_toArray, List.getElem?_cons_zero, List.getElem?_cons_succ] at d1
    have HW3 := Lib.hid hw3
    rcases hs : (lookQ S.ws n).isSome with _ | _
    · have hM : prepM S n = (([], 0), S) := by unfold prepM; rw [if_neg (by rw [← her]; simp), if_pos hs]
      rw [hM]
      rw [hs] at r2
      have HF := Lib.hid (QO.same (h.more (Nat.le_succ N)) b3)
      rw [hw3] at d1 f1
      clear h hM her hq hc h32 hlen hp hw3 b3 kw hs
      go_enter Tryz.func63, Tryz.ntmps63
      go_wp2_with fail
      refine HO.out.mono ?_
      rintro e w1 ⟨rfl, rfl⟩
      go_wp2
      rw [← HW3.out]
      go_ret2
      exact ⟨⟨none, 0, 0, rfl, rfl, OwnC.nil _ _⟩, HF.out⟩
    · have hM : prepM S n = (((curQ S.ws n).1, 0), { S with ws := layQ S.ws n (curQ S.ws n).1 true }) := by unfold prepM; rw [if_neg (by rw [← her]; simp), if_neg (by rw [hs]; simp)]
      rw [hM]
      rw [hs] at r2
      obtain ⟨l, hl⟩ : ∃ l, l = (curQ S.ws n).1 := ⟨_, rfl⟩
      have hinv : QInv { S with ws := layQ S.ws n l true } := by rw [hl]; exact h.iv.ws (lay_same S.ws n true h.nd)
      rw [← hl] at hq hc hlen ⊢
      obtain ⟨w4, hw4⟩ : ∃ w4, w4 = w.alloc (.cells #[.slice A q c, .bool true] 143) := ⟨_, rfl⟩
      have b4 : Below w.heap.size w w4 := by rw [hw4]; exact ba _ _
      have kw4 : Blk w4 w.heap.size 143 #[.slice A q c, .bool true] := by rw [hw4]; exact Blk.new _ _ _
      have hgl := h.lt
      have HL := Lib.hid (lay_any g of tt cs S N n A l q c true w4 (h.below b4) (by omega) hn hq (by omega) (hc.below b4) hinv)
      have p0 := kw4.cell 0
      have p1 := kw4.cell 1
      simp only [List.getElem?_toArray, List.getElem?_cons_zero, List.getElem?_cons_succ] at p0 p1
      have H4 := Lib.hid (And.intro kw4 (And.intro b4 (And.intro (hc.below b4) (And.intro (h.below b4).bk (And.intro h.ty.1 (And.intro hgl (And.intro hq hlen)))))))
      have HW4 := Lib.hid hw4
      rw [hw3] at d1 f1
      rw [hw4] at p0 p1
      clear h hM her hq hc h32 hlen hp hw3 b3 kw hs hl hinv hw4 b4 kw4 hgl
      go_enter Tryz.func63, Tryz.ntmps63
      go_wp2_with fail
      refine HO.out.mono ?_
      rintro e w1 ⟨rfl, rfl⟩
      go_wp2_with fail
      rw [← HW4.out]
      refine HL.out.mono ?_
      rintro e w5 ⟨rfl, ⟨⟨cs5, hk5, hkp5⟩, hg5⟩⟩
      obtain ⟨kw4, b4, hc4, hbk, hty, hgl, hq, hlen⟩ := H4.out
      have kw5 := kw4.kept hg5 (fun e => by have := Option.some.inj e; omega)
      have HCl := Lib.hid (cclone_any A l q c w5 (Lib.hid hq) (Lib.hid (by omega)) (hc4.kept hg5 hbk hty))
      have p0' := kw5.cell 0
      simp only [List.getElem?_toArray, List.getElem?_cons_zero, List.getElem?_cons_succ] at p0'
      have H5 := Lib.hid (And.intro hk5 (And.intro hkp5 (And.intro ((lbelow_grown b4 (some g)).trans hg5) hq)))
      clear d1 f1 p0 p1 kw4 b4 hc4 hbk hty hk5 hkp5 hg5 kw5 hgl hq hlen
      go_wp2_with fail
      refine HCl.out.mono ?_
      rintro e w6 ⟨A6, c6, rfl, own6, b6⟩
      have HF := Lib.hid (And.intro own6 (And.intro (H5.out.1.below b6) (H5.out.2.2.1.trans (lbelow_grown b6 (some g)))))
      clear own6 b6 p0'
      go_wp2
      go_ret2
      exact ⟨⟨A6, q, c6, rfl, H5.out.2.2.2, HF.out.1.less H5.out.2.2.1.size⟩, ⟨cs5, HF.out.2.1, H5.out.2.1⟩, HF.out.2.2⟩
  · have hM : prepM S n = (([], er), S) := by unfold prepM; rw [if_pos (by rw [← her]; exact h0), her]
    rw [hM]
    have HF := Lib.hid (QO.same (h.more (Nat.le_succ N)) (Below.refl _ _))
    have hb : (er != 0) = true := by simp [h0]
    clear h hM her
    go_enter Tryz.func63, Tryz.ntmps63
    go_wp2_with fail
    refine HO.out.mono ?_
    rintro e w1 ⟨rfl, rfl⟩
    go_wp2
    go_ret2
    exact ⟨⟨none, 0, 0, rfl, rfl, OwnC.nil _ _⟩, HF.out⟩
end Go.Proofs.YtlliaihmfimdoaaGreat.Qu

namespace Go.Proofs.YtlliaihmfimdoaaGreat.Qu
open Go.RowKit Go.Maps Go.Deep
set_option linter.unusedVariables false
set_option linter.unusedSimpArgs false

def givenI (L : List IT) (n : Int) (k : Nat) : List IT := (L.take k).map (fun x => { x with t := n }) ++ L.drop k
theorem givenI_len (L : List IT) (n : Int) (i : Nat) : (givenI L n i).length = L.length := by
  unfold givenI; rw [List.length_append, List.length_map, List.length_take, List.length_drop]; omega
theorem givenI_step (L : List IT) (n : Int) (i : Nat) (h : i < L.length) : giveI (givenI L n i) i n = givenI L n (i + 1) := by
  have e1 : L.drop i = L[i]'h :: L.drop (i + 1) := List.drop_eq_getElem_cons h
  have e2 : L.take (i + 1) = L.take i ++ [L[i]'h] := by rw [List.take_add_one, List.getElem?_eq_getElem h]; rfl
  have hl : ((L.take i).map (fun x : IT => { x with t := n })).length = i := by rw [List.length_map, List.length_take]; omega
  have e3 : givenI L n i = (L.take i).map (fun x => { x with t := n }) ++ L[i]'h :: L.drop (i + 1) := by unfold givenI; rw [e1]
  have e4 : givenI L n (i + 1) = (L.take i).map (fun x => { x with t := n }) ++ { (L[i]'h) with t := n } :: L.drop (i + 1) := by unfold givenI; rw [e2, List.map_append, List.append_assoc]; rfl
  rw [e3, e4]
  have := giveI_app ((L.take i).map (fun x : IT => { x with t := n })) (L[i]'h) (L.drop (i + 1)) n
  rw [hl] at this
  exact this
theorem givenI_zero (L : List IT) (n : Int) : givenI L n 0 = L := by unfold givenI; simp
theorem fits_len : ∀ (l : List Ch) (L : List IT), fitsQ L l = true → l.length ≤ L.length + putsL l
  | [], L, _ => by simp
  | x :: r, L, h => by
    have h3 : putsL (x :: r) = (if x.k = 3 then 1 else 0) + putsL r := by
      unfold putsL; rw [List.filter_cons]
      by_cases e : x.k = 3
      · simp [e]; omega
      · simp [e]
    unfold fitsQ at h
    by_cases e : x.k = 3
    · rw [if_pos e] at h h3
      have := fits_len r L (by rw [Bool.and_eq_true] at h; exact h.2)
      rw [h3]; simp; omega
    · rw [if_neg e] at h h3
      by_cases e4 : x.k = 4
      · rw [if_pos e4] at h
        cases L with
        | nil => cases h
        | cons i L' =>
          have := fits_len r L' (by simp only [Bool.and_eq_true] at h; exact h.2)
          rw [h3]; simp; omega
      · rw [if_neg e4] at h; cases h
def restM (S : QS) (n : Int) (l : List Ch) : Int × QS :=
  if n < 1 then (1, S) else if fitsQ S.I l = false then (1, S) else if roomQ S < (putsL l : Nat) then (1, S) else if (lookQ S.ws n).isSome = true then (7, S) else if l = [] then (0, S)
  else (0, { S with I := givenI S.I n (l.length - putsL l), ws := layQ S.ws n l true })
theorem lay_new {ws : List WQ} {n : Int} {l : List Ch} {p : Bool} (hd : ws.Pairwise fun a b => a.n ≠ b.n) (h : (lookQ ws n).isSome = false) : putsW (layQ ws n l p) = putsW ws + putsL l := by
  have := putsW_lay ws n l p hd
  have h0 : putsL (curQ ws n).1 = 0 := by
    unfold curQ
    rcases hl : lookQ ws n with _ | x
    · rfl
    · rw [hl] at h; cases h
  omega
theorem rest_nil (n : Int) (A : Option Addr) (q c : Nat) (w : World) : Calls Tryz.prog 73 #[.pointer none, .int .i64 n, .slice A q c] w fun e w' => e = .returned (.int .i64 6) ∧ w = w' := by
  go_enter Tryz.func73, Tryz.ntmps73
  go_wp2_with fail
  refine (names_nil n w).mono ?_
  rintro e w1 ⟨rfl, rfl⟩
  go_wp2
  go_ret
  exact ⟨rfl, rfl⟩
set_option maxRecDepth 100000 in
set_option maxHeartbeats 4000000 in
theorem rest_any (g of : Nat) (tt : TypeId) (cs : Array Value) (S : QS) (N : Nat) (n : Int) (A : Option Addr) (l : List Ch) (q c : Nat) (w : World) (h : QAt w g of tt cs S N) (hN : N < 300000) (hn : i64ok n) (hq : Hid (q = l.length)) (hqN : q ≤ N + 1) (hL : ∀ u, w.grownBy u (some g) → InL u A l) (hB : ∀ b, w.heap.size ≤ b → S.B b) :
    Calls Tryz.prog 73 #[.pointer (some ⟨g, of, none⟩), .int .i64 n, .slice A q c] w fun e w' => e = .returned (.int .i64 (restM S n l).1) ∧ QO w g of tt cs (restM S n l).2 (N + 1) w' := by
  have HN := Lib.hid (names_any g of n w)
  have HF := Lib.hid (fun u (hb : Below w.heap.size w u) => QO.same (h.more (Nat.le_succ N)) hb)
  by_cases h1 : n < 1
  · have hM : restM S n l = (1, S) := if_pos h1
    rw [hM]
    have hE : namesE n = 1 := if_pos h1
    rw [hE] at HN
    clear h hM hE hL hB
    go_enter Tryz.func73, Tryz.ntmps73
    go_wp2_with fail
    refine HN.out.mono ?_
    rintro e w1 ⟨rfl, rfl⟩
    have HF2 := Lib.hid (HF.out w (Below.refl _ _))
    go_wp2
    go_ret
    exact ⟨rfl, HF2.out⟩
  have hE : namesE n = 0 := if_neg h1
  rw [hE] at HN
  have HFi := Lib.hid (fits_any g of tt cs S N A l q c w h hq (by omega) (hL w (lbelow_grown (Below.refl _ _) _)))
  rcases hft : fitsQ S.I l with _ | _
  · have hM : restM S n l = (1, S) := by unfold restM; rw [if_neg h1, if_pos hft]
    rw [hM]
    rw [hft] at HFi
    clear h hM hE hL hB hft
    go_enter Tryz.func73, Tryz.ntmps73
    go_wp2_with fail
    refine HN.out.mono ?_
    rintro e w1 ⟨rfl, rfl⟩
    go_wp2_with fail
    refine HFi.out.mono ?_
    rintro e w2 ⟨rfl, b2⟩
    have HF2 := Lib.hid (HF.out w2 b2)
    clear b2
    go_wp2
    go_ret
    exact ⟨rfl, HF2.out⟩
  rw [hft] at HFi
  have HPu := Lib.hid (fun u (hb : Below w.heap.size w u) => puts_any A l q c u hq (by omega) (hL u (lbelow_grown hb _)))
  have HRo := Lib.hid (fun u (hb : Below w.heap.size w u) => room_any g of tt cs S N u (h.below hb) (by omega))
  obtain ⟨pz, hpz⟩ : ∃ pz, pz = putsL l := ⟨_, rfl⟩
  obtain ⟨rr, hrr⟩ : ∃ rr, rr = roomQ S := ⟨_, rfl⟩
  rw [← hpz] at HPu
  rw [← hrr] at HRo
  by_cases hro : rr < (pz : Int)
  · have hM : restM S n l = (1, S) := by unfold restM; rw [if_neg h1, if_neg (by rw [hft]; simp), if_pos (by rw [← hrr, ← hpz]; exact hro)]
    rw [hM]
    clear h hM hE hL hB hft hpz hrr
    go_enter Tryz.func73, Tryz.ntmps73
    go_wp2_with fail
    refine HN.out.mono ?_
    rintro e w1 ⟨rfl, rfl⟩
    go_wp2_with fail
    refine HFi.out.mono ?_
    rintro e w2 ⟨rfl, b2⟩
    have HP2 := Lib.hid (HPu.out w2 b2)
    have HB2 := Lib.hid b2
    clear b2
    go_wp2_with fail
    refine HP2.out.mono ?_
    rintro e w3 ⟨rfl, b3⟩
    have HR3 := Lib.hid (HRo.out w3 (bt HB2.out b3))
    have HB3 := Lib.hid (bt HB2.out b3)
    clear b3
    go_wp2_with fail
    refine HR3.out.mono ?_
    rintro e w4 ⟨rfl, b4⟩
    have HF2 := Lib.hid (HF.out w4 (bt HB3.out b4))
    clear b4
    go_wp2
    go_ret
    exact ⟨rfl, HF2.out⟩
  have HBu := Lib.hid (fun u (hb : Below w.heap.size w u) => busy_any g of tt cs S N n u (h.below hb) hn)
  rcases hbz : (lookQ S.ws n).isSome with _ | _
  · rw [hbz] at HBu
    by_cases hl0 : l = []
    · have hM : restM S n l = (0, S) := by unfold restM; rw [if_neg h1, if_neg (by rw [hft]; simp), if_neg (by rw [← hrr, ← hpz]; exact hro), if_neg (by rw [hbz]; simp), if_pos hl0]
      rw [hM]
      obtain rfl : q = 0 := by rw [hq.out, hl0]; rfl
      clear h hM hE hL hB hft hpz hrr
      go_enter Tryz.func73, Tryz.ntmps73
      go_wp2_with fail
      refine HN.out.mono ?_
      rintro e w1 ⟨rfl, rfl⟩
      go_wp2_with fail
      refine HFi.out.mono ?_
      rintro e w2 ⟨rfl, b2⟩
      have HP2 := Lib.hid (HPu.out w2 b2)
      have HB2 := Lib.hid b2
      clear b2
      go_wp2_with fail
      refine HP2.out.mono ?_
      rintro e w3 ⟨rfl, b3⟩
      have HR3 := Lib.hid (HRo.out w3 (bt HB2.out b3))
      have HB3 := Lib.hid (bt HB2.out b3)
      clear b3
      go_wp2_with fail
      refine HR3.out.mono ?_
      rintro e w4 ⟨rfl, b4⟩
      have HBu4 := Lib.hid (HBu.out w4 (bt HB3.out b4))
      have HB4 := Lib.hid (bt HB3.out b4)
      clear b4
      go_wp2_with fail
      refine HBu4.out.mono ?_
      rintro e w5 ⟨rfl, b5⟩
      have HF2 := Lib.hid (HF.out w5 (bt HB4.out b5))
      clear b5
      go_wp2
      go_ret
      exact ⟨rfl, HF2.out⟩
    · have hM : restM S n l = (0, { S with I := givenI S.I n (l.length - putsL l), ws := layQ S.ws n l true }) := by unfold restM; rw [if_neg h1, if_neg (by rw [hft]; simp), if_neg (by rw [← hrr, ← hpz]; exact hro), if_neg (by rw [hbz]; simp), if_neg hl0]
      rw [hM]
      have hfl := fits_len l S.I hft
      have hpl := putsL_le l
      have hq0 : (q : Int) ≠ 0 := by rw [hq.out]; intro e; exact hl0 (List.eq_nil_of_length_eq_zero (by omega))
      have hq0b : ((q : Int) == 0) = false := by simpa using hq0
      obtain ⟨mt, hmt⟩ : ∃ mt, mt = l.length - putsL l := ⟨_, rfl⟩
      have hmtq : mt ≤ q := by have := hq.out; omega
      have hww : IntKind.i64.wrap ((q : Int) - (pz : Int)) = (mt : Int) := by have hqq := hq.out; rw [IntWalk.i64_in _ (by omega)]; omega
      have hinv : QInv { S with I := givenI S.I n mt, ws := layQ S.ws n l true } := by
        have h2 := lay_new (l := l) (p := true) h.nd hbz
        have h3 := h.iv.g0
        unfold roomQ at hrr
        exact ⟨by dsimp only; rw [givenI_len]; omega, h3, by dsimp only; omega⟩
      have H := Lib.hid (And.intro h (And.intro hn (And.intro hL (And.intro hB (And.intro hinv (And.intro (show mt ≤ S.I.length by omega) hqN))))))
      rw [← hmt]
      clear h hM hE hL hB hft hpz hrr hinv hfl hpl hmt
      go_enter Tryz.func73, Tryz.ntmps73
      go_wp2_with fail
      refine HN.out.mono ?_
      rintro e w1 ⟨rfl, rfl⟩
      go_wp2_with fail
      refine HFi.out.mono ?_
      rintro e w2 ⟨rfl, b2⟩
      have HP2 := Lib.hid (HPu.out w2 b2)
      have HB2 := Lib.hid b2
      clear b2
      go_wp2_with fail
      refine HP2.out.mono ?_
      rintro e w3 ⟨rfl, b3⟩
      have HR3 := Lib.hid (HRo.out w3 (bt HB2.out b3))
      have HB3 := Lib.hid (bt HB2.out b3)
      clear b3
      go_wp2_with fail
      refine HR3.out.mono ?_
      rintro e w4 ⟨rfl, b4⟩
      have HBu4 := Lib.hid (HBu.out w4 (bt HB3.out b4))
      have HB4 := Lib.hid (bt HB3.out b4)
      clear b4
      go_wp2_with fail
      refine HBu4.out.mono ?_
      rintro e w5 ⟨rfl, b5⟩
      have HP5 := Lib.hid (HPu.out w5 (bt HB4.out b5))
      have HB5 := Lib.hid (bt HB4.out b5)
      clear b5
      go_wp2_with fail
      refine HP5.out.mono ?_
      rintro e w6 ⟨rfl, b6⟩
      have HI0 : Hid (QO w g of tt cs { S with I := givenI S.I n 0 } N w6) := Lib.hid (by rw [givenI_zero]; exact QO.same H.out.1 (bt HB5.out b6))
      clear b6
      go_wp2_with fail
      go_loopw [40] (fun i wr => ∃ (i0 : Nat), i0 ≤ mt ∧ i = .int .i64 i0 ∧ Hid (QO w g of tt cs { S with I := givenI S.I n i0 } N wr)) (fun i _ => mt - (intOf i).toNat)
      case atStart => exact ⟨0, Nat.zero_le _, rfl, HI0⟩
      case round =>
        clear HI0
        obtain ⟨i0, hi0, rfl, HR⟩ := hrel
        by_cases him : i0 < mt
        · have hiI : (i0 : Int) < (mt : Int) := by omega
          obtain ⟨⟨cs', hq', hkp⟩, hg⟩ := HR.out
          have hcall := give_any g of tt cs' _ N i0 n wr hq' (by dsimp only; rw [givenI_len]; have := H.out.2.2.2.2.2.1; omega)
          dsimp only at hcall
          rw [givenI_step S.I n i0 (by have := H.out.2.2.2.2.2.1; omega)] at hcall
          have HC := Lib.hid hcall
          have HK := Lib.hid (And.intro hkp hg)
          clear hcall hq' hkp hg HR
          go_wp2_with fail
          refine HC.out.mono ?_
          rintro e w7 ⟨rfl, hq7⟩
          have HN2 : Hid (QO w g of tt cs { S with I := givenI S.I n (i0 + 1) } N w7) := Lib.hid (QO.from HK.out.1 HK.out.2 hq7)
          clear hq7
          go_wp2
          go_roundw
          case rel => exact ⟨i0 + 1, by omega, by go_num, HN2⟩
          case measure => simp [intOf]; omega
        · obtain rfl : i0 = mt := by omega
          have hiI : ¬ (i0 : Int) < (i0 : Int) := by omega
          obtain ⟨⟨cs', hq', hkp⟩, hg⟩ := HR.out
          have HCl := Lib.hid (cclone_in A l q c wr hq (Lib.hid (by have := H.out.2.2.2.2.2.2; omega)) (H.out.2.2.1 wr hg))
          have HK := Lib.hid (And.intro hq' (And.intro hkp hg))
          clear hq' hkp hg HR
          go_wp2_with fail
          refine HCl.out.mono ?_
          rintro e w7 ⟨A7, c7, rfl, own7, b7⟩
          have hc7 : ChAt w7 S.B A7 l := own7.at_.mono fun b hb _ => H.out.2.2.2.1 b (by have := HK.out.2.2.size; have hb : wr.heap.size ≤ b := hb; omega)
          have HLay := Lib.hid (lay_any g of tt cs' { S with I := givenI S.I n i0 } N n A7 l q c7 true w7 (HK.out.1.below b7) (by omega) H.out.2.1 hq.out (by have := hq.out; have := H.out.2.2.2.2.2.2; omega) hc7 H.out.2.2.2.2.1)
          have HB7 := Lib.hid b7
          clear own7 b7 hc7
          go_wp2_with fail
          refine HLay.out.mono ?_
          rintro e w8 ⟨rfl, hq8⟩
          have HFin := Lib.hid (QO.from HK.out.2.1 (HK.out.2.2.trans (lbelow_grown HB7.out _)) hq8)
          clear hq8
          go_wp2
          go_ret
          exact ⟨rfl, HFin.out⟩
  · have hM : restM S n l = (7, S) := by unfold restM; rw [if_neg h1, if_neg (by rw [hft]; simp), if_neg (by rw [← hrr, ← hpz]; exact hro), if_pos hbz]
    rw [hM]
    rw [hbz] at HBu
    clear h hM hE hL hB hft hpz hrr
    go_enter Tryz.func73, Tryz.ntmps73
    go_wp2_with fail
    refine HN.out.mono ?_
    rintro e w1 ⟨rfl, rfl⟩
    go_wp2_with fail
    refine HFi.out.mono ?_
    rintro e w2 ⟨rfl, b2⟩
    have HP2 := Lib.hid (HPu.out w2 b2)
    have HB2 := Lib.hid b2
    clear b2
    go_wp2_with fail
    refine HP2.out.mono ?_
    rintro e w3 ⟨rfl, b3⟩
    have HR3 := Lib.hid (HRo.out w3 (bt HB2.out b3))
    have HB3 := Lib.hid (bt HB2.out b3)
    clear b3
    go_wp2_with fail
    refine HR3.out.mono ?_
    rintro e w4 ⟨rfl, b4⟩
    have HBu4 := Lib.hid (HBu.out w4 (bt HB3.out b4))
    have HB4 := Lib.hid (bt HB3.out b4)
    clear b4
    go_wp2_with fail
    refine HBu4.out.mono ?_
    rintro e w5 ⟨rfl, b5⟩
    have HF2 := Lib.hid (HF.out w5 (bt HB4.out b5))
    clear b5
    go_wp2
    go_ret
    exact ⟨rfl, HF2.out⟩
end Go.Proofs.YtlliaihmfimdoaaGreat.Qu

namespace Go.Proofs.YtlliaihmfimdoaaGreat.Qu
open Go.RowKit Go.Maps Go.Deep
open Go.WideElems (Fit rg rd_key rg_of)
set_option linter.unusedVariables false
set_option linter.unusedSimpArgs false

/-- How long a map of works is: nothing just where nothing is read. -/
theorem FSrc.len_ex {f : Value → Bool} {w : World} {m : Option Nat} {n : Nat} {G : Int → Option Value} (h : FSrc f w m n G) (t e : TypeId) (ht : Tryz.prog.underlying t = some (.map 3 e)) : ∃ q : Nat, q ≤ n ∧ (∀ ty, (Builtin.len_ #[t] ty #[.map m]).run Tryz.prog w = .ok (.int .i64 q) w) ∧ (q = 0 ↔ ∀ k, i64ok k → G k = none) := by
  rcases h with ⟨rfl, rfl⟩ | ⟨b, D, rfl, h2, h3⟩
  · exact ⟨0, Nat.zero_le _, fun ty => Maps.len_nil ht ty, by simp⟩
  · refine ⟨Maps.size D, h2.size_le, fun ty => h2.len ht ty, ?_⟩
    obtain ⟨es, clock, hb, F, hs, rfl⟩ := h2
    constructor
    · intro h0 k hk
      have hh := h3.has k hk
      rw [size_eq] at h0
      rw [List.eq_nil_of_length_eq_zero h0] at hh
      rcases hG : G k with _ | u
      · rfl
      · rw [hG] at hh; cases hh
    · intro hn
      rw [size_eq]
      apply Classical.byContradiction
      intro h0
      obtain ⟨p, hp⟩ := List.exists_mem_of_length_pos (Nat.pos_of_ne_zero h0)
      obtain ⟨x, hx, e1⟩ := List.mem_map.1 (mem_sorted.1 hp)
      obtain ⟨y, hy⟩ := F.reads x hx
      have hk := rd_key hy
      rw [← rg_of hy, e1] at hk
      obtain ⟨k, _, hok, e2⟩ := keyOf_i_inv hk
      have hh := h3.has k hok
      rw [hn k hok, has_eq] at hh
      have : List.any (List.foldr DataW.insert [] (es.toList.map (rg Tryz.prog 3 (asIf f)))) (fun p => p.1.sameKey (litI k)) = true := List.any_eq_true.2 ⟨p, hp, by rw [e2]; exact WideAt.sameKey_self (show WideAt.IsKeyLit (litI k) from trivial)⟩
      rw [this] at hh
      cases hh
theorem WRel.none_iff {w : World} {B : Nat → Prop} {G : Int → Option Value} {ws : List WQ} (h : WRel w B G (lookQ ws)) (hok : ∀ y ∈ ws, i64ok y.n) : (∀ k, i64ok k → G k = none) ↔ ws = [] := by
  constructor
  · intro hn
    cases ws with
    | nil => rfl
    | cons y r =>
      have e : lookQ (y :: r) y.n = some (y.l, y.p) := by unfold lookQ; rw [findQ_cons, if_pos rfl]; rfl
      obtain ⟨A, n, c, h1, _⟩ := (h y.n).2 _ _ e
      rw [hn y.n (hok y (List.mem_cons_self ..))] at h1
      cases h1
  · rintro rfl k _
    exact (h k).1 rfl
/-- Values that came in. -/
def UAt (w : World) (A : Option Addr) (zs : List Nat) : Prop := 0 < zs.length → ∃ b o, A = some ⟨b, o, none⟩ ∧ b < w.heap.size ∧ ∀ i, (h : i < zs.length) → w.cell? ⟨b, o + i, none⟩ = some (.int .u64 ((zs[i]'h : Nat) : Int))
theorem UAt.below {w w' : World} {A : Option Addr} {zs : List Nat} (h : UAt w A zs) (hb : Below w.heap.size w w') : UAt w' A zs := fun hl => by
  obtain ⟨b, o, e, hlt, hc⟩ := h hl
  exact ⟨b, o, e, Nat.lt_of_lt_of_le hlt hb.size, fun i hi => by
    have := hc i hi
    unfold World.cell? at this ⊢
    rw [hb.block b hlt]; exact this⟩
theorem OwnU.at_ {w : World} {B : Nat} {A : Option Addr} {c : Nat} {l : List Nat} (h : OwnU w B A c l) : UAt w A l := fun hl => by
  rcases h.2 with ⟨h1, h2⟩ | ⟨g, cap, cur, h1, hb, hg, hn, hm, hc, ht⟩
  · omega
  · injection h1 with e1 e2 e3
    refine ⟨g, 0, e1, (Array.getElem?_eq_some_iff.1 hg).1, fun i hi => ?_⟩
    have hv : (uV l)[i]? = some (.int .u64 ((l[i]'hi : Nat) : Int)) := by unfold uV; rw [List.getElem?_map, List.getElem?_eq_getElem hi]; rfl
    rw [Nat.zero_add, cell_of_row w g i cur _ (0, 0) hg]
    rw [← ht, List.getElem?_take] at hv
    split at hv
    · simpa using hv
    · cases hv
/-- The items that are laid. -/
def loadF : Int → List Nat → List IT
  | _, [] => []
  | k, v :: r => ⟨k, v, 0⟩ :: loadF (k + 1) r
theorem loadF_len : ∀ (l : List Nat) (k : Int), (loadF k l).length = l.length
  | [], _ => rfl
  | v :: r, k => by simp [loadF, loadF_len r]
theorem loadF_snoc : ∀ (l : List Nat) (k : Int) (v : Nat), loadF k (l ++ [v]) = loadF k l ++ [⟨k + (l.length : Nat), v, 0⟩]
  | [], k, v => by simp [loadF]
  | x :: r, k, v => by
    simp only [List.cons_append, loadF, loadF_snoc r, List.length_cons]
    congr 4
    push_cast
    omega
theorem take_one (L : List Nat) (i : Nat) (h : i < L.length) : L.take (i + 1) = L.take i ++ [L[i]'h] := by
  rw [List.take_add_one, List.getElem?_eq_getElem h]; rfl
def loadM (S : QS) (vals : List Nat) (next : Int) : Int × QS :=
  if S.I ≠ [] ∨ S.ws ≠ [] then (7, S) else if 16 < vals.length ∨ next ≤ vals.length ∨ 4611686018427387904 < next then (1, S)
  else (0, { S with I := loadF (next - vals.length) vals, g := next - 1 })
theorem load_nil (A : Option Addr) (n c : Nat) (next : Int) (w : World) : Calls Tryz.prog 54 #[.pointer none, .slice A n c, .int .i64 next] w fun e w' => e = .returned (.int .i64 6) ∧ w = w' := by
  go_enter Tryz.func54, Tryz.ntmps54
  go_wp2
  go_ret
  exact ⟨rfl, rfl⟩
set_option maxRecDepth 100000 in
set_option maxHeartbeats 4000000 in
theorem load_any (g of : Nat) (tt : TypeId) (cs : Array Value) (S : QS) (N : Nat) (A : Option Addr) (zs : List Nat) (n c : Nat) (next : Int) (w : World) (h : QAt w g of tt cs S N) (hn : Hid (n = zs.length)) (hz : UAt w A zs) :
    Calls Tryz.prog 54 #[.pointer (some ⟨g, of, none⟩), .slice A n c, .int .i64 next] w fun e w' => e = .returned (.int .i64 (loadM S zs next).1) ∧ QO w g of tt cs (loadM S zs next).2 N w' := by
  obtain ⟨A0, n0, cp0, a1, a2, a3, a4, a5⟩ := h.it
  obtain ⟨m, G, h4, h5, h6⟩ := h.wk
  obtain ⟨q, hq, hlen, hq0⟩ := FSrc.len_ex h5 97 143 Tryz.underlying97
  have hq1 : q = 0 ↔ S.ws = [] := hq0.trans (h6.none_iff fun y hy => (h.le y hy).2)
  have hI : n0 = 0 ↔ S.I = [] := by rw [a2]; exact List.length_eq_zero_iff
  have d0 := (h.bk.cell of).trans a1
  have d2 := (h.bk.cell (of + 2)).trans h4
  have hgl := h.lt
  have d1 := (h.bk.cell (of + 1)).trans h.la
  have f0 := h.bk.frozen of
  have f1 := h.bk.frozen (of + 1)
  have H := Lib.hid (And.intro h (And.intro hz (And.intro a1 (And.intro h.la hgl))))
  have HS := Lib.hid (QO.same h (Below.refl _ _))
  clear h5 h6 hq0 a1 a2 a3 a4 a5 h4 hq h hz
  by_cases hi : n0 = 0
  · by_cases hw : q = 0
    · have hI0 := hI.1 hi
      have hW0 := hq1.1 hw
      subst hi hw
      by_cases hb : 16 < n ∨ next ≤ (n : Int) ∨ 4611686018427387904 < next
      · have hM : loadM S zs next = (1, S) := by unfold loadM; rw [if_neg (by simp [hI0, hW0]), if_pos (by rw [← hn.out]; exact hb)]
        rw [hM]
        clear hM hI hq1 hI0 hW0
        by_cases hb1 : 16 < n
        · have b1 : (16 : Int) < (n : Int) := by omega
          clear hb
          go_enter Tryz.func54, Tryz.ntmps54
          go_wp2
          go_ret
          exact ⟨rfl, HS.out⟩
        · have b1 : ¬ (16 : Int) < (n : Int) := by omega
          by_cases hb2 : next ≤ (n : Int)
          · clear hb hb1
            go_enter Tryz.func54, Tryz.ntmps54
            go_wp2
            go_ret
            exact ⟨rfl, HS.out⟩
          · have hb3 : 4611686018427387904 < next := by omega
            clear hb hb1
            go_enter Tryz.func54, Tryz.ntmps54
            go_wp2
            go_ret
            exact ⟨rfl, HS.out⟩
      · have hM : loadM S zs next = (0, { S with I := loadF (next - zs.length) zs, g := next - 1 }) := by unfold loadM; rw [if_neg (by simp [hI0, hW0]), if_neg (by rw [← hn.out]; exact hb)]
        rw [hM]
        have b1 : ¬ (16 : Int) < (n : Int) := by omega
        have b2 : ¬ next ≤ (n : Int) := by omega
        have b3 : ¬ 4611686018427387904 < next := by omega
        obtain ⟨k0, hk0⟩ : ∃ k0, k0 = next - (n : Int) := ⟨_, rfl⟩
        have hwr : IntKind.i64.wrap (next - (n : Int)) = k0 := by rw [hk0]; exact IntWalk.i64_in _ (by omega)
        have hwr1 : IntKind.i64.wrap (next - 1) = next - 1 := IntWalk.i64_in _ (by omega)
        have hiv : QInv { S with I := loadF k0 zs, g := next - 1 } := by
          refine ⟨?_, ?_, ?_⟩
          · dsimp only; rw [loadF_len, hW0, ← hn.out]; show n + 0 ≤ 48; omega
          · dsimp only; omega
          · dsimp only; rw [hW0]; show next - 1 + 1 + ((0 : Nat) : Int) ≤ 4611686018427387952; omega
        rw [← hn.out, ← hk0]
        have HK := Lib.hid (And.intro hk0 (And.intro hiv (And.intro b1 (And.intro b2 b3))))
        have Hb1 : n ≤ 16 := by omega
        clear hM hI hq1 hI0 hW0 hb hk0 hiv HS d1 f0 f1
        go_enter Tryz.func54, Tryz.ntmps54
        go_wp2_with fail
        go_loopw [7, 44] (fun v i wr => ∃ (j n2 c2 : Nat) (A2 : Option Addr) (K : List IT), v = .slice A2 n2 c2 ∧ Hid (n2 = K.length) ∧ n2 = j ∧ j ≤ n ∧ i = .int .i64 j ∧ OwnI wr w.heap.size A2 c2 K ∧ Hid (K = loadF k0 (zs.take j)) ∧ Below w.heap.size w wr) (fun _ i _ => n - (intOf i).toNat)
        case atStart => exact ⟨0, 0, 0, none, [], rfl, rfl, rfl, Nat.zero_le _, rfl, OwnI.nil _ _, rfl, Below.refl _ _⟩
        case round =>
          obtain ⟨j, n2, c2, A2, K, rfl, hn2, rfl, hj, rfl, hown, hK, hbw⟩ := hrel
          by_cases hjn : n2 < n
          · have hjI : (n2 : Int) < (n : Int) := by omega
            have hjz : n2 < zs.length := by rw [← hn.out]; exact hjn
            obtain ⟨b, o, rfl, hbl, hc⟩ := H.out.2.1.below hbw (by omega)
            have q0 := hc n2 hjz
            have hstep : K ++ [⟨k0 + (n2 : Int), zs[n2]'hjz, 0⟩] = loadF k0 (zs.take (n2 + 1)) := by
              rw [take_one zs n2 hjz, loadF_snoc, hK.out, List.length_take, Nat.min_eq_left (by omega)]
            generalize zs[n2]'hjz = zv at q0 hstep
            obtain ⟨kz, hkz⟩ : ∃ kz, kz = k0 + (n2 : Int) := ⟨_, rfl⟩
            have hwr2 : IntKind.i64.wrap (k0 + (n2 : Int)) = kz := by rw [hkz]; exact IntWalk.i64_in _ (by have := HK.out.1; have := HK.out.2.2; omega)
            rw [← hkz] at hstep
            have hb3 := ba wr (.cells #[.int .i64 kz, .int .u64 (zv : Nat), .int .i64 0] 152)
            have hown3 := hown.kept (lbelow_grown hb3 none) (fun r e => by cases e)
            obtain ⟨A5, c5, w5, hrun, hE5, hg5⟩ := it_one hown3 ⟨kz, zv, 0⟩ wr.heap.size n2 (Blk.new wr _ _) hn2.out (by omega) (by have := hbw.size; have := hb3.size; omega)
            have hB5 := (bt hbw hb3).grown hg5 (by have := hbw.size; have := hb3.size; omega) (fun r e => (hown3.lt' r e).1)
            have HE5 := Lib.hid (And.intro hE5 (And.intro hB5 (And.intro hstep (show n2 + 1 = (K ++ [(⟨kz, zv, 0⟩ : IT)]).length by rw [List.length_append, ← hn2.out]; rfl))))
            clear hstep hE5 hB5 hown3 hb3 hg5 hc hK hbl hkz hn2 hown hbw
            go_wp2_with (first
              | (at_builtin; refine wpList_append_run rfl (.tmp 49) (.tmp 58) 96 rfl _ _ _ w5 rfl rfl hrun ?_)
              | go_in)
            go_roundw
            case rel => exact ⟨n2 + 1, n2 + 1, c5, A5, _, rfl, Lib.hid HE5.out.2.2.2, rfl, by omega, by go_num, HE5.out.1, Lib.hid HE5.out.2.2.1, HE5.out.2.1⟩
            case measure => simp [intOf]; omega
          · obtain rfl : n2 = n := by omega
            have hjI : ¬ (n2 : Int) < (n2 : Int) := by omega
            have hKK : K = loadF k0 zs := by rw [hK.out, List.take_of_length_le (by have := hn.out; omega)]
            subst hKK
            have h1 := H.out.1.below hbw
            obtain ⟨A1, m1, cp1, x1, x2, x3, x4, x5⟩ := h1.it
            obtain ⟨mm, G1, y4, y5, y6⟩ := h1.wk
            obtain ⟨w3, hw3⟩ : ∃ w3, w3 = wr.setCell ⟨g, of, none⟩ (.slice A2 n2 c2) := ⟨_, rfl⟩
            have g3 : wr.grownBy w3 (some g) := by rw [hw3]; exact lgrown_set _ _ _
            have k3 : Blk w3 g tt (cs.setIfInBounds of (.slice A2 n2 c2)) := by rw [hw3]; exact h1.bk.set_ of _
            obtain ⟨w4, hw4⟩ : ∃ w4, w4 = w3.setCell ⟨g, of + 1, none⟩ (.int .i64 (next - 1)) := ⟨_, rfl⟩
            have g4 : w3.grownBy w4 (some g) := by rw [hw4]; exact lgrown_set _ _ _
            have k4 : Blk w4 g tt ((cs.setIfInBounds of (.slice A2 n2 c2)).setIfInBounds (of + 1) (.int .i64 (next - 1))) := by rw [hw4]; exact k3.set_ (of + 1) _
            have g34 := g3.trans g4
            have e2 : ((cs.setIfInBounds of (.slice A2 n2 c2)).setIfInBounds (of + 1) (.int .i64 (next - 1)))[of + 2]? = cs[of + 2]? := by
              rw [Array.getElem?_setIfInBounds_ne (by omega), Array.getElem?_setIfInBounds_ne (by omega)]
            have e0 : ((cs.setIfInBounds of (.slice A2 n2 c2)).setIfInBounds (of + 1) (.int .i64 (next - 1)))[of]? = some (.slice A2 n2 c2) := by
              rw [Array.getElem?_setIfInBounds_ne (by omega)]; exact set_at H.out.2.2.1
            have e1 : ((cs.setIfInBounds of (.slice A2 n2 c2)).setIfInBounds (of + 1) (.int .i64 (next - 1)))[of + 1]? = some (.int .i64 (next - 1)) := set_at ((Array.getElem?_setIfInBounds_ne (by omega)).trans H.out.2.2.2.1)
            have hfin : QAt w4 g of tt ((cs.setIfInBounds of (.slice A2 n2 c2)).setIfInBounds (of + 1) (.int .i64 (next - 1))) { S with I := loadF k0 zs, g := next - 1 } N := by
              refine ⟨k4, h1.ty, ⟨A2, n2, c2, e0, hn2.out, by rw [hn2.out]; exact hown.cap, ?_, ?_⟩, e1, ⟨mm, G1, e2.trans y4, y5.kept g34 h1.bk, y6.same fun A l hc => hc.kept g34 h1.bk h1.ty.1⟩, h1.nd, h1.le, HK.out.2.1⟩
              · have := hown.capB; omega
              · exact (hown.at_.mono fun _ _ _ => trivial).kept g34 h1.bk h1.ty.2
            have c30 := (h1.bk.cell of).trans x1
            have f30 := h1.bk.frozen of
            have c31 := (k3.cell (of + 1)).trans ((Array.getElem?_setIfInBounds_ne (by omega)).trans h1.la)
            have f31 := k3.frozen (of + 1)
            have HF : Hid (QO w g of tt cs { S with I := loadF k0 zs, g := next - 1 } N w4) := Lib.hid ⟨⟨_, hfin, (Keep3.set cs of (by omega) _).trans (Keep3.set _ (of + 1) (by omega) _)⟩, (lbelow_grown hbw (some g)).trans g34⟩
            rw [hw3] at c31 f31
            have HW : Hid (w4 = (wr.setCell ⟨g, of, none⟩ (.slice A2 n2 c2)).setCell ⟨g, of + 1, none⟩ (.int .i64 (next - 1))) := Lib.hid (by rw [hw4, hw3])
            clear hfin k3 k4 g3 g4 g34 e0 e1 e2 x1 x2 x3 x4 x5 y4 y5 y6 h1 hw3 hw4 hown hK hn2 hbw
            go_wp2
            rw [← HW.out]
            go_ret
            exact ⟨rfl, HF.out⟩
    · have hM : loadM S zs next = (7, S) := if_pos (.inr fun e => hw (hq1.2 e))
      rw [hM]
      subst hi
      have hqp : (0 : Int) < (q : Int) := by omega
      clear hM hI hq1 hw
      go_enter Tryz.func54, Tryz.ntmps54
      go_wp2
      go_ret
      exact ⟨rfl, HS.out⟩
  · have hM : loadM S zs next = (7, S) := if_pos (.inl fun e => hi (hI.2 e))
    rw [hM]
    have hip : (0 : Int) < (n0 : Int) := by omega
    clear hM hI hq1 hi
    go_enter Tryz.func54, Tryz.ntmps54
    go_wp2
    go_ret
    exact ⟨rfl, HS.out⟩
end Go.Proofs.YtlliaihmfimdoaaGreat.Qu

namespace Go.Proofs.YtlliaihmfimdoaaGreat.Qu
open Go.RowKit Go.Maps Go.Deep
set_option linter.unusedVariables false
set_option linter.unusedSimpArgs false

section
variable {S : QS}
theorem QOk.less {S' : QS} (h : QOk S) (h1 : S'.I.length + putsW S'.ws ≤ S.I.length + putsW S.ws) (h2 : S'.g + (putsW S'.ws : Int) ≤ S.g + (putsW S.ws : Int)) (h3 : 0 ≤ S'.g) : QOk S' := ⟨by have := h.room; omega, h3, by have := h.last; omega⟩
theorem QOk.put (h : QOk S) (hd : S.ws.Pairwise fun a b => a.n ≠ b.n) (n : Int) (v : Nat) : QOk (putM S n v).2 := by
  unfold putM
  split
  · exact h
  · split
    · exact h
    · rename_i hr; exact h.add hd n ⟨3, 0, v⟩ (fun _ => hr)
theorem QOk.take (h : QOk S) (hd : S.ws.Pairwise fun a b => a.n ≠ b.n) (n : Int) : QOk (takeM S n).2 := by
  unfold takeM
  split
  · exact h
  · split
    · exact h
    · split
      · rename_i x _
        have := h.add hd n ⟨4, x.n, x.v⟩ (fun e => by cases e)
        exact this.less (by dsimp only; rw [giveI_len]; exact Nat.le_refl _) (Int.le_refl _) this.g0
      · exact h
theorem QOk.prep (h : QOk S) (hd : S.ws.Pairwise fun a b => a.n ≠ b.n) (n : Int) : QOk (prepM S n).2 := by
  unfold prepM
  split
  · exact h
  · split
    · exact h
    · exact h.ws' (lay_same S.ws n true hd)
theorem keptI_le (L : List IT) (n : Int) : (keptI L n).length ≤ L.length := List.length_filter_le _ _
theorem QOk.commit (h : QOk S) (hd : S.ws.Pairwise fun a b => a.n ≠ b.n) (n : Int) : QOk (commitM S n).2 := by
  unfold commitM
  split
  · exact h
  · have h1 := putsW_others S.ws n hd
    have h2 := keptI_le S.I n
    exact h.less (by dsimp only; rw [List.length_append, newsQ_len]; omega) (by dsimp only; omega) (by have := h.g0; dsimp only; omega)
theorem QOk.back (h : QOk S) (hd : S.ws.Pairwise fun a b => a.n ≠ b.n) (n : Int) : QOk (backM S n).2 := by
  unfold backM
  split
  · exact h
  · have h1 := putsW_others S.ws n hd
    exact h.less (by dsimp only; rw [List.length_map]; omega) (by dsimp only; omega) h.g0
theorem QOk.rest (h : QOk S) (hd : S.ws.Pairwise fun a b => a.n ≠ b.n) (n : Int) (l : List Ch) : QOk (restM S n l).2 := by
  unfold restM
  split
  · exact h
  · split
    · exact h
    · split
      · exact h
      · rename_i hr
        split
        · exact h
        · rename_i hb
          split
          · exact h
          · have h1 := lay_new (l := l) (p := true) hd (by simpa using hb)
            unfold roomQ at hr
            refine ⟨?_, h.g0, ?_⟩
            · dsimp only; rw [givenI_len]; omega
            · dsimp only; omega
theorem QOk.load (h : QOk S) (vals : List Nat) (next : Int) : QOk (loadM S vals next).2 := by
  unfold loadM
  split
  · exact h
  · rename_i hi
    split
    · exact h
    · rename_i hb
      have hw : S.ws = [] := Classical.byContradiction fun e => hi (.inr e)
      have h0 : putsW S.ws = 0 := by rw [hw]; rfl
      refine ⟨?_, ?_, ?_⟩
      · dsimp only; rw [loadF_len]; omega
      · dsimp only; omega
      · dsimp only; omega
end
theorem prepM_B (S : QS) (B : Nat → Prop) (n : Int) : prepM { S with B := B } n = ((prepM S n).1, { (prepM S n).2 with B := B }) := by
  have e : openE { S with B := B } n = openE S n := rfl
  unfold prepM
  rw [e]
  dsimp only
  split
  · rfl
  · split <;> rfl
theorem putM_B (S : QS) (n : Int) (v : Nat) : (putM S n v).2.B = S.B := by unfold putM; split; rfl; split <;> rfl
theorem takeM_B (S : QS) (n : Int) : (takeM S n).2.B = S.B := by unfold takeM; split; rfl; split; rfl; split <;> rfl
theorem prepM_B' (S : QS) (n : Int) : (prepM S n).2.B = S.B := by unfold prepM; split; rfl; split <;> rfl
theorem commitM_B (S : QS) (n : Int) : (commitM S n).2.B = S.B := by unfold commitM; split <;> rfl
theorem backM_B (S : QS) (n : Int) : (backM S n).2.B = S.B := by unfold backM; split <;> rfl
theorem restM_B (S : QS) (n : Int) (l : List Ch) : (restM S n l).2.B = S.B := by unfold restM; split; rfl; split; rfl; split; rfl; split; rfl; split <;> rfl
theorem loadM_B (S : QS) (l : List Nat) (n : Int) : (loadM S l n).2.B = S.B := by unfold loadM; split; rfl; split <;> rfl
/-- An Op of the laws. -/
structure OpV where
  k : Int
  n : Int
  x : Int
  v : Nat
  A : Option Addr
  l : List Ch
  c : Nat
  VA : Option Addr
  vs : List Nat
  vc : Nat
def OpV.val (o : OpV) : Value := .agg #[.int .i64 o.k, .int .i64 o.n, .int .i64 o.x, .int .u64 (o.v : Nat), .slice o.A o.l.length o.c, .slice o.VA o.vs.length o.vc]
def callM (S : QS) (o : OpV) : (Nat × List Ch × Int) × QS :=
  if o.k = 0 then ((0, [], (putM S o.n o.v).1), (putM S o.n o.v).2)
  else if o.k = 1 then (((takeM S o.n).1.1, [], (takeM S o.n).1.2), (takeM S o.n).2)
  else if o.k = 2 then ((0, (prepM S o.n).1.1, (prepM S o.n).1.2), (prepM S o.n).2)
  else if o.k = 3 then ((0, [], (commitM S o.n).1), (commitM S o.n).2)
  else if o.k = 4 then ((0, [], (backM S o.n).1), (backM S o.n).2)
  else if o.k = 5 then ((0, [], (restM S o.n o.l).1), (restM S o.n o.l).2)
  else if o.k = 6 then ((0, [], (loadM S o.vs o.x).1), (loadM S o.vs o.x).2)
  else ((0, [], 0), S)
theorem callM_B (S : QS) (o : OpV) : (callM S o).2.B = S.B := by
  unfold callM
  split; exact putM_B _ _ _
  split; exact takeM_B _ _
  split; exact prepM_B' _ _
  split; exact commitM_B _ _
  split; exact backM_B _ _
  split; exact restM_B _ _ _
  split; exact loadM_B _ _ _
  rfl
theorem QOk.call {S : QS} (h : QOk S) (hd : S.ws.Pairwise fun a b => a.n ≠ b.n) (o : OpV) : QOk (callM S o).2 := by
  unfold callM
  split; exact h.put hd _ _
  split; exact h.take hd _
  split; exact h.prep hd _
  split; exact h.commit hd _
  split; exact h.back hd _
  split; exact h.rest hd _ _
  split; exact h.load _ _
  exact h
/-- What comes of a call, and the queue behind it: its lists lie where they may, and not in what is handed out. -/
def CallO (w : World) (g of : Nat) (tt : TypeId) (cs : Array Value) (N : Nat) (B : Nat → Prop) (r : (Nat × List Ch × Int) × QS) (e : Ending) (w' : World) : Prop :=
  ∃ A q c, e = .returned (.tuple #[.int .u64 (r.1.1 : Nat), .slice A q c, .int .i64 r.1.2.2]) ∧ q = r.1.2.1.length ∧ OwnC w' w.heap.size A c r.1.2.1 ∧ QO w g of tt cs { r.2 with B := fun b => B b ∧ blk A ≠ some b } (N + 1) w'
theorem CallO.mk0 {a w : World} {g of : Nat} {tt : TypeId} {cs cs1 : Array Value} {N N' : Nat} {S : QS} {v : Nat} {er : Int} {w' : World} (hk : Keep3 of cs cs1) (hg : a.grownBy w (some g)) (h : QO w g of tt cs1 S N' w') (hN : N' ≤ N + 1) : CallO a g of tt cs N S.B ((v, [], er), S) (.returned (.tuple #[.int .u64 (v : Nat), .slice none 0 0, .int .i64 er])) w' := by
  refine ⟨none, 0, 0, rfl, rfl, OwnC.nil _ _, ?_⟩
  obtain ⟨⟨cs', h1, h2⟩, h3⟩ := QO.from hk hg h
  exact ⟨⟨cs', (h1.more hN).rebase fun b hb _ => ⟨hb, by simp [blk]⟩, h2⟩, h3⟩
end Go.Proofs.YtlliaihmfimdoaaGreat.Qu
