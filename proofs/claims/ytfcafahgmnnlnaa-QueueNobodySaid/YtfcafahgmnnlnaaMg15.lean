/- Parts Q24 Q25 Q26 Q27 of one proof. -/
import Derived.Test.YtfcafahgmnnlnaaMg14
namespace Go.Proofs.Ytfcafahgmnnlnaa.Qu
open Go.RowKit Go.Maps Go.Deep
set_option linter.unusedVariables false
set_option linter.unusedSimpArgs false

theorem ixsF_app : ∀ (a b : List IT) (k : Nat), ixsF k (a ++ b) = ixsF k a ++ ixsF (k + a.length) b
  | [], b, k => by simp [ixsF]
  | x :: a, b, k => by
    simp only [List.cons_append, ixsF, ixsF_app a b (k + 1), List.length_cons]
    rw [show k + 1 + a.length = k + (a.length + 1) by omega]
theorem ixsF_mem : ∀ (a : List IT) (k : Nat) (x : Nat × IT), x ∈ ixsF k a → x.2 ∈ a
  | [], k, x, h => by cases h
  | y :: a, k, x, h => by
    rcases List.mem_cons.1 h with rfl | h
    · exact List.mem_cons_self ..
    · exact List.mem_cons_of_mem _ (ixsF_mem a _ x h)
theorem front_app (a b : List IT) (n : Int) (ha : ∀ x ∈ a, x.t = n) : frontR (a ++ b) n = match (ixsF a.length b).find? (fun x => decide (x.2.t ≠ n)) with
    | none => (0, 140)
    | some x => if x.2.t = 0 then (x.1, 0) else (0, 120) := by
  unfold frontR ixs
  rw [ixsF_app, List.find?_append, Nat.zero_add]
  have e : (ixsF 0 a).find? (fun x => decide (x.2.t ≠ n)) = none := by
    rw [List.find?_eq_none]
    intro x hx
    simp [ha _ (ixsF_mem a 0 x hx)]
  rw [e]
  rfl
theorem front_att (a : List IT) (x : IT) (b : List IT) (n : Int) (ha : ∀ x ∈ a, x.t = n) (hx : x.t ≠ n) : frontR (a ++ x :: b) n = if x.t = 0 then (a.length, 0) else (0, 120) := by
  rw [front_app a _ n ha]
  unfold ixsF
  rw [List.find?_cons_of_pos (by simpa using hx)]
theorem front_end (a : List IT) (n : Int) (ha : ∀ x ∈ a, x.t = n) : frontR a n = (0, 140) := by
  have := front_app a [] n ha
  rw [List.append_nil] at this
  rw [this]; rfl
theorem loadF_t : ∀ (l : List Nat) (k : Int) (x : IT), x ∈ loadF k l → x.t = 0
  | [], k, x, h => by cases h
  | v :: r, k, x, h => by
    rcases List.mem_cons.1 h with rfl | h
    · rfl
    · exact loadF_t r _ x h
theorem loadF_v : ∀ (l : List Nat) (k : Int), (loadF k l).map IT.v = l
  | [], k => rfl
  | v :: r, k => by simp [loadF, loadF_v r]
theorem givenI_v (L : List IT) (n : Int) (j : Nat) : (givenI L n j).map IT.v = L.map IT.v := by
  unfold givenI
  rw [List.map_append, List.map_map]
  have : (IT.v ∘ fun x : IT => ({ x with t := n } : IT)) = IT.v := rfl
  rw [this, ← List.map_append, List.take_append_drop]
def orderS (L : List IT) (g : Int) (j : Nat) : QS := ⟨anyB, givenI L 1 j, g, if j = 0 then [] else [⟨1, (L.take j).map (fun x => (⟨4, x.n, x.v⟩ : Ch)), false⟩]⟩
theorem order_cur (L : List IT) (g : Int) (j : Nat) : curQ (orderS L g j).ws 1 = ((L.take j).map (fun x => (⟨4, x.n, x.v⟩ : Ch)), false) := by
  unfold orderS
  dsimp only
  split
  · rename_i e; subst e; rfl
  · rfl
theorem order_open (L : List IT) (g : Int) (j : Nat) : openE (orderS L g j) 1 = 0 := by
  unfold openE
  rw [if_neg (by omega), order_cur]; rfl
theorem given_left (L : List IT) (j : Nat) : ∀ x ∈ (L.take j).map (fun x => ({ x with t := 1 } : IT)), x.t = 1 := by
  intro x hx
  obtain ⟨y, _, rfl⟩ := List.mem_map.1 hx
  rfl
theorem order_take (L : List IT) (g : Int) (j : Nat) (h : j < L.length) (ht : ∀ x ∈ L, x.t = 0) : takeM (orderS L g j) 1 = (((L[j]'h).v, 0), orderS L g (j + 1)) := by
  have hl : ((L.take j).map (fun x => ({ x with t := 1 } : IT))).length = j := by rw [List.length_map, List.length_take]; omega
  have e1 : L.drop j = L[j]'h :: L.drop (j + 1) := List.drop_eq_getElem_cons h
  have hI : (orderS L g j).I = (L.take j).map (fun x => ({ x with t := 1 } : IT)) ++ L[j]'h :: L.drop (j + 1) := by unfold orderS givenI; dsimp only; rw [e1]
  have h0 : (L[j]'h).t = 0 := ht _ (List.getElem_mem h)
  have hf : frontR (orderS L g j).I 1 = (j, 0) := by
    rw [hI, front_att _ _ _ 1 (given_left L j) (by rw [h0]; decide), if_pos h0, hl]
  have hat : (orderS L g j).I[j]? = some (L[j]'h) := by
    rw [hI, List.getElem?_append_right (by rw [hl]; exact Nat.le_refl _), hl, Nat.sub_self]; rfl
  unfold takeM
  rw [if_neg (by rw [order_open]; simp), hf]
  dsimp only
  rw [if_neg (by simp), hat]
  dsimp only
  congr 1
  have hI2 : giveI (orderS L g j).I j 1 = givenI L 1 (j + 1) := givenI_step L 1 j h
  have hw : addQ (orderS L g j).ws 1 ⟨4, (L[j]'h).n, (L[j]'h).v⟩ = [⟨1, (L.take (j + 1)).map (fun x => (⟨4, x.n, x.v⟩ : Ch)), false⟩] := by
    unfold addQ
    rw [order_cur]
    have e2 : L.take (j + 1) = L.take j ++ [L[j]'h] := by rw [List.take_add_one, List.getElem?_eq_getElem h]; rfl
    rw [e2, List.map_append]
    unfold orderS
    dsimp only
    split
    · rfl
    · rfl
  rw [hI2, hw]
  rfl
theorem order_empty (L : List IT) (g : Int) : takeM (orderS L g L.length) 1 = ((0, 140), orderS L g L.length) := by
  have hI : (orderS L g L.length).I = (L.take L.length).map (fun x => ({ x with t := 1 } : IT)) := by unfold orderS givenI; simp
  have hf : frontR (orderS L g L.length).I 1 = (0, 140) := by rw [hI]; exact front_end _ _ (given_left L _)
  unfold takeM
  rw [if_neg (by rw [order_open]; simp), hf, if_pos (by simp)]
theorem news_takes : ∀ (l : List IT) (g : Int), newsQ g (l.map (fun x => (⟨4, x.n, x.v⟩ : Ch))) = [] ∧ putsL (l.map (fun x => (⟨4, x.n, x.v⟩ : Ch))) = 0
  | [], g => ⟨rfl, rfl⟩
  | x :: r, g => ⟨by
      have := (news_takes r g).1
      rw [List.map_cons]; unfold newsQ; rw [if_neg (fun e => by cases e)]; exact this, by
      have := (news_takes r g).2
      unfold putsL at this ⊢
      rw [List.map_cons, List.filter_cons]; simp⟩
theorem order_commit (L : List IT) (g : Int) : (commitM (orderS L g L.length) 1).2.I = [] ∧ (commitM (orderS L g L.length) 1).2.g = g := by
  have hI : (orderS L g L.length).I = (L.take L.length).map (fun x => ({ x with t := 1 } : IT)) := by unfold orderS givenI; simp
  have hk : keptI (orderS L g L.length).I 1 = [] := by
    rw [hI]; unfold keptI
    rw [List.filter_eq_nil_iff]
    intro x hx
    simp [given_left L _ x hx]
  unfold commitM
  rw [if_neg (by omega), order_cur, hk, (news_takes _ _).1, (news_takes _ 0).2]
  exact ⟨rfl, by show g + ((0 : Nat) : Int) = g; omega⟩
set_option maxRecDepth 100000 in
set_option maxHeartbeats 4000000 in
theorem queueOrder_walk (A : Option Addr) (zs : List Nat) (c : Nat) (next : Int) (w : World) (hz : UAts w A zs) (hx1 : -9223372036854775808 ≤ next) (hx2 : next ≤ 9223372036854775807) :
    Calls Try.prog 7 #[.slice A zs.length c, .int .i64 next] w fun e w' => e = .returned (.bool true) ∧ Below w.heap.size w w' := by
  obtain ⟨n, hn⟩ : ∃ n, n = zs.length := ⟨_, rfl⟩
  rw [← hn]
  have HN := Lib.hid hn
  have HZ := Lib.hid hz.2
  have hnl : n ≤ 9223372036854775807 := by have := hz.1; rw [hn]; unfold maxLen at this; omega
  obtain ⟨g, hg⟩ : ∃ g, g = w.heap.size := ⟨_, rfl⟩
  have HG := Lib.hid hg
  clear hn hz
  go_enter Try.func7, Try.ntmps7
  go_wp2_with fail
  refine (new_any anyB w).mono ?_
  rintro e w1 ⟨rfl, ⟨cs, hk⟩, b1⟩
  rw [← hg] at hk ⊢
  have hl := load_any g 0 _ cs (QS.zero anyB) 0 A zs n c next w1 hk HN (HZ.out.below b1)
  by_cases hb : 16 < n ∨ next ≤ (n : Int) ∨ 4611686018427387904 < next
  · have hM : loadM (QS.zero anyB) zs next = (1, QS.zero anyB) := by unfold loadM; rw [if_neg (by simp [QS.zero]), if_pos (by rw [← HN.out]; exact hb)]
    rw [hM] at hl
    have HL := Lib.hid hl
    have HB := Lib.hid b1
    clear hl hM hk b1 hg hb
    go_wp2_with fail
    refine HL.out.mono ?_
    rintro e w2 ⟨rfl, ⟨_, hg2⟩⟩
    have HB2 := Lib.hid (HB.out.grown hg2 HB.out.size (fun r e => by cases e; have := HG.out; omega))
    clear hg2
    go_wp2_with fail
    refine (alive_any w2).mono ?_
    rintro e w3 ⟨rfl, b3⟩
    have HB3 := Lib.hid (bt HB2.out b3)
    clear b3
    go_wp2
    go_ret
    exact ⟨rfl, HB3.out⟩
  · obtain ⟨L, hL⟩ : ∃ L, L = loadF (next - zs.length) zs := ⟨_, rfl⟩
    have hM : loadM (QS.zero anyB) zs next = (0, orderS L (next - 1) 0) := by
      unfold loadM; rw [if_neg (by simp [QS.zero]), if_neg (by rw [← HN.out]; exact hb)]
      rw [← hL]
      unfold orderS
      rw [givenI_zero]; rfl
    have hok := (QOk.zero anyB).load zs next
    rw [hM] at hl hok
    have hn16 : n ≤ 16 := by omega
    have HL := Lib.hid hl
    have HB := Lib.hid b1
    have HX : Hid (L.length = n ∧ (∀ x ∈ L, x.t = 0) ∧ L.map IT.v = zs ∧ QOk (orderS L (next - 1) 0)) := Lib.hid ⟨by rw [hL, loadF_len, HN.out], fun x hx => loadF_t _ _ x (by rw [← hL]; exact hx), by rw [hL, loadF_v], hok⟩
    clear hl hM hk b1 hg hb hL hok
    go_wp2_with fail
    refine HL.out.mono ?_
    rintro e w2 ⟨rfl, ⟨⟨cs2, hk2, _⟩, hg2⟩⟩
    have HB2 := HB.out.grown hg2 HB.out.size (fun r e => by cases e; have := HG.out; omega)
    have HI : Hid ((∃ cs, QAt w2 g 0 54 cs (orderS L (next - 1) 0) (0 + 0)) ∧ QOk (orderS L (next - 1) 0) ∧ Below w.heap.size w w2) := Lib.hid ⟨⟨cs2, hk2⟩, HX.out.2.2.2, HB2⟩
    clear hk2 hg2 HB2
    go_wp2_with fail
    go_loopw [6] (fun i wr => ∃ (j : Nat), j ≤ n ∧ i = .int .i64 j ∧ Hid ((∃ cs, QAt wr g 0 54 cs (orderS L (next - 1) j) (0 + j)) ∧ QOk (orderS L (next - 1) j) ∧ Below w.heap.size w wr)) (fun i _ => n - (intOf i).toNat)
    case atStart => exact ⟨0, Nat.zero_le _, rfl, HI⟩
    case round =>
      clear HI
      obtain ⟨j, hj, rfl, HR⟩ := hrel
      by_cases hjn : j < n
      · have hjI : (j : Int) < (n : Int) := by omega
        obtain ⟨⟨cs', hk⟩, hok, hb⟩ := HR.out
        have hjL : j < L.length := by rw [HX.out.1]; exact hjn
        have hjz : j < zs.length := by rw [← HN.out]; exact hjn
        have hr := take_any g 0 _ cs' _ (0 + j) 1 wr hk (by omega) (small_ok _ (by omega) (by omega)) (fun b _ => trivial)
        have hok2 := hok.take hk.nd 1
        have hv : (L[j]'hjL).v = zs[j]'hjz := by
          have e : (L.map IT.v)[j]? = zs[j]? := by rw [HX.out.2.2.1]
          rw [List.getElem?_map, List.getElem?_eq_getElem hjL, List.getElem?_eq_getElem hjz] at e
          simpa using e
        rw [order_take L (next - 1) j hjL HX.out.2.1] at hr hok2
        rw [hv] at hr
        obtain ⟨v, hv2⟩ : ∃ v, v = zs[j]'hjz := ⟨_, rfl⟩
        dsimp only at hr hok2
        rw [← hv2] at hr
        have HC := Lib.hid hr
        have HB1 := Lib.hid (And.intro hb hok2)
        have HV := Lib.hid (And.intro hjz (show ∀ h : j < zs.length, v = zs[j]'h from fun h => hv2))
        clear hr hk hok hb hv hv2 hok2 hjL hjz
        go_wp2_with fail
        refine HC.out.mono ?_
        rintro e w3 ⟨rfl, ⟨⟨cs3, hk3, _⟩, hg3⟩⟩
        have hb3 := HB1.out.1.grown hg3 HB1.out.1.size (fun r e => by cases e; have := HG.out; omega)
        obtain ⟨b, o, rfl, hbl, hcs⟩ := HZ.out.below hb3 (by have := HV.out.1; omega)
        have q0 := hcs j HV.out.1
        rw [← HV.out.2 HV.out.1] at q0
        have HNx : Hid ((∃ cs, QAt w3 g 0 54 cs (orderS L (next - 1) (j + 1)) (0 + (j + 1))) ∧ QOk (orderS L (next - 1) (j + 1)) ∧ Below w.heap.size w w3) := Lib.hid ⟨⟨cs3, hk3⟩, HB1.out.2, hb3⟩
        have hvv : ((v : Int) != (v : Int)) = false := by simp
        clear hk3 hg3 hb3 hcs hbl
        go_wp2
        go_roundw
        case rel => exact ⟨j + 1, by omega, by go_num, HNx⟩
        case measure => simp [intOf]; omega
      · obtain rfl : j = n := by omega
        have hjI : ¬ (j : Int) < (j : Int) := by omega
        obtain ⟨⟨cs', hk⟩, hok, hb⟩ := HR.out
        have hr := take_any g 0 _ cs' _ (0 + j) 1 wr hk (by omega) (small_ok _ (by omega) (by omega)) (fun b _ => trivial)
        have e1 := order_empty L (next - 1)
        rw [HX.out.1] at e1
        rw [e1] at hr
        dsimp only at hr
        have HC := Lib.hid hr
        have HB1 := Lib.hid (And.intro hb hok)
        clear hr hk hok hb e1 HR
        go_wp2_with fail
        refine HC.out.mono ?_
        rintro e w3 ⟨rfl, ⟨⟨cs3, hk3, _⟩, hg3⟩⟩
        have hb3 := HB1.out.1.grown hg3 HB1.out.1.size (fun r e => by cases e; have := HG.out; omega)
        have hvl := values_any g 0 _ cs3 _ _ w3 hk3
        have e2 : (orderS L (next - 1) j).I.map IT.v = zs := by unfold orderS; dsimp only; rw [givenI_v]; exact HX.out.2.2.1
        have e3 : (orderS L (next - 1) j).I.length = j := by unfold orderS; dsimp only; rw [givenI_len]; exact HX.out.1
        rw [e2, e3] at hvl
        have HVl := Lib.hid hvl
        have HB3 := Lib.hid (And.intro hk3 hb3)
        clear hvl hk3 hg3 hb3 e2 e3
        go_wp2_with fail
        refine HVl.out.mono ?_
        rintro e w4 ⟨A4, c4, rfl, own4, b4⟩
        have hb4 := bt HB3.out.2 b4
        have hs := same_any A4 A zs zs j j c4 c w4 HN HN hnl own4.at_ (HZ.out.below hb4)
        rw [decide_eq_true rfl] at hs
        have HS := Lib.hid hs
        have HB4 := Lib.hid (And.intro (HB3.out.1.below b4) hb4)
        clear hs own4 b4 hb4
        go_wp2_with fail
        refine HS.out.mono ?_
        rintro e w5 ⟨rfl, b5⟩
        have hb5 := bt HB4.out.2 b5
        have hcm := commit_any g 0 _ cs3 _ _ 1 w5 (HB4.out.1.below b5) HB1.out.2 (by omega) (small_ok _ (by omega) (by omega))
        have hcI := order_commit L (next - 1)
        rw [HX.out.1] at hcI
        generalize commitM (orderS L (next - 1) j) 1 = R at hcm hcI
        obtain ⟨re, rS⟩ := R
        dsimp only at hcm hcI
        have HCm := Lib.hid hcm
        have HB5 := Lib.hid (And.intro hb5 hcI)
        clear hcm hb5 b5 hcI
        go_wp2_with fail
        refine HCm.out.mono ?_
        rintro e w6 ⟨rfl, ⟨⟨cs6, hk6, _⟩, hg6⟩⟩
        have hb6 := HB5.out.1.grown hg6 HB5.out.1.size (fun r e => by cases e; have := HG.out; omega)
        have HB6 := Lib.hid (And.intro hk6 hb6)
        clear hk6 hg6 hb6
        go_wp2_with fail
        refine (alive_any w6).mono ?_
        rintro e w7 ⟨rfl, b7⟩
        have hb7 := bt HB6.out.2 b7
        have hv7 := values_any g 0 _ cs6 rS _ w7 (HB6.out.1.below b7)
        rw [HB5.out.2.1] at hv7
        have HV7 := Lib.hid hv7
        have HB7 := Lib.hid (And.intro (HB6.out.1.below b7) hb7)
        clear hv7 b7 hb7
        go_wp2_with fail
        refine HV7.out.mono ?_
        rintro e w8 ⟨A8, c8, rfl, own8, b8⟩
        have hb8 := bt HB7.out.2 b8
        have hn8 := next_any g 0 _ cs6 rS _ w8 (HB7.out.1.below b8)
        rw [HB5.out.2.2, show next - 1 + 1 = next by omega] at hn8
        have HN8 := Lib.hid hn8
        have HB8 := Lib.hid hb8
        clear hn8 b8 hb8 own8
        go_wp2_with fail
        refine HN8.out.mono ?_
        rintro e w9 ⟨rfl, rfl⟩
        go_wp2
        go_ret
        exact ⟨by simp, HB8.out⟩
end Go.Proofs.Ytfcafahgmnnlnaa.Qu

namespace Go.Proofs.Ytfcafahgmnnlnaa.Qu
open Go.RowKit Go.Maps
set_option linter.unusedVariables false
set_option linter.unusedSimpArgs false

theorem curQ_lay (ws : List WQ) (n : Int) (l : List Ch) (p : Bool) (m : Int) : curQ (layQ ws n l p) m = if m = n then (l, p) else curQ ws m := by
  unfold curQ; rw [lookQ_lay]; split <;> rfl
theorem curQ_others (ws : List WQ) (n m : Int) : curQ (othersQ ws n) m = if m = n then ([], false) else curQ ws m := by
  unfold curQ; rw [lookQ_others]; split <;> rfl
def chOf (x : IT) : Ch := ⟨4, x.n, x.v⟩
def tkL (l : List Ch) : List Ch := l.filter fun x => decide (x.k = 4)
def byI (L : List IT) (n : Int) : List IT := L.filter fun x => decide (x.t = n)
theorem byI_app (a b : List IT) (n : Int) : byI (a ++ b) n = byI a n ++ byI b n := List.filter_append ..
theorem byI_all {a : List IT} {n : Int} (h : ∀ x ∈ a, x.t = n) : byI a n = a := List.filter_eq_self.2 fun x hx => by simpa using h x hx
theorem byI_none {a : List IT} {n : Int} (h : ∀ x ∈ a, x.t ≠ n) : byI a n = [] := List.filter_eq_nil_iff.2 fun x hx => by simpa using h x hx
theorem tkL_app (a b : List Ch) : tkL (a ++ b) = tkL a ++ tkL b := List.filter_append ..
def kdOk (l : List Ch) : Prop := ∀ x ∈ l, (x.k = 3 ∧ x.y = 0) ∨ x.k = 4
/-- Who takes, and what stands in the works' changes. -/
structure QR (S : QS) : Prop where
  pre : ∃ P F n, S.I = P ++ F ∧ (∀ x ∈ F, x.t = 0) ∧ (∀ x ∈ P, x.t = n) ∧ 1 ≤ n
  tk : ∀ n, 1 ≤ n → tkL (curQ S.ws n).1 = (byI S.I n).map chOf
  kd : ∀ n, kdOk (curQ S.ws n).1
theorem QR.zero (B : Nat → Prop) : QR (QS.zero B) := ⟨⟨[], [], 1, rfl, by simp, by simp, by omega⟩, fun n _ => rfl, fun n x hx => by simp [QS.zero, curQ, lookQ, findQ] at hx⟩
theorem QR.rebase {S : QS} {B : Nat → Prop} (h : QR S) : QR { S with B := B } := ⟨h.pre, h.tk, h.kd⟩
section
variable {S : QS}
theorem QR.put (h : QR S) (n : Int) (v : Nat) : QR (putM S n v).2 := by
  unfold putM
  split
  · exact h
  · split
    · exact h
    · refine ⟨h.pre, fun m hm => ?_, fun m => ?_⟩
      · dsimp only; unfold addQ; rw [curQ_lay]
        split
        · rename_i e; subst e
          dsimp only
          rw [tkL_app, h.tk m hm]
          simp [tkL]
        · exact h.tk m hm
      · dsimp only; unfold addQ; rw [curQ_lay]
        split
        · intro x hx
          rcases List.mem_append.1 hx with hx | hx
          · exact h.kd n x hx
          · obtain rfl := List.mem_singleton.1 hx; exact .inl ⟨rfl, rfl⟩
        · exact h.kd m
theorem QR.take (h : QR S) (n : Int) : QR (takeM S n).2 := by
  unfold takeM
  split
  · exact h
  · rename_i ho
    split
    · exact h
    · rename_i hf
      have hf0 : (frontR S.I n).2 = 0 := by simpa using hf
      obtain ⟨hi, h0, hne, hbef⟩ := front_ok hf0
      have hn1 : 1 ≤ n := by
        have := openE_cases S n
        rcases this with ⟨e, _⟩ | ⟨e, _⟩ | ⟨e, h1, _⟩
        · rw [e] at ho; simp at ho
        · rw [e] at ho; simp at ho
        · exact h1
      rw [List.getElem?_eq_getElem hi]
      dsimp only
      obtain ⟨i, hie⟩ : ∃ i, i = (frontR S.I n).1 := ⟨_, rfl⟩
      obtain ⟨x, hx⟩ : ∃ x, x = S.I[(frontR S.I n).1]'hi := ⟨_, rfl⟩
      rw [← hx] at h0 ⊢
      have hi2 : i < S.I.length := by rw [hie]; exact hi
      have hx2 : x = S.I[i]'hi2 := by rw [hx]; congr 1; exact hie.symm
      rw [← hie] at hbef ⊢
      have ea : S.I = S.I.take i ++ x :: S.I.drop (i + 1) := by
        rw [hx2, ← List.drop_eq_getElem_cons hi2, List.take_append_drop]
      have hla : (S.I.take i).length = i := by rw [List.length_take]; omega
      obtain ⟨P, F, n', hPF, hF, hP, hn'⟩ := h.pre
      have hPi : P.length ≤ i := by
        apply Classical.byContradiction
        intro hc
        have hlt : i < P.length := by omega
        have : x ∈ P := by
          rw [hx2]
          have : S.I[i]'hi2 = P[i]'hlt := by simp only [hPF]; exact List.getElem_append_left hlt
          rw [this]; exact List.getElem_mem hlt
        have := hP x this
        omega
      have hb : ∀ y ∈ S.I.drop (i + 1), y.t = 0 := by
        intro y hy
        rw [hPF, List.drop_append, List.drop_eq_nil_of_le (show P.length ≤ i + 1 by omega), List.nil_append] at hy
        exact hF y (List.mem_of_mem_drop hy)
      have haa : ∀ y ∈ S.I.take i, y.t = n := by
        intro y hy
        obtain ⟨j, hj, rfl⟩ := List.mem_iff_getElem.1 hy
        rw [List.getElem_take]
        exact hbef j (by rw [List.length_take] at hj; omega) (by rw [List.length_take] at hj; omega)
      have hg : giveI S.I i n = S.I.take i ++ { x with t := n } :: S.I.drop (i + 1) := by
        have := giveI_app (S.I.take i) x (S.I.drop (i + 1)) n
        rw [hla, ← ea] at this
        exact this
      generalize S.I.take i = a at ea hla haa hg
      generalize S.I.drop (i + 1) = b at ea hb hg
      have hx' : byI (x :: b) n = [] := byI_none fun y hy => by
        rcases List.mem_cons.1 hy with rfl | hy
        · omega
        · have := hb y hy; omega
      have hbn : ∀ m, 1 ≤ m → byI b m = [] := fun m hm => byI_none fun y hy => by have := hb y hy; omega
      refine ⟨⟨a ++ [{ x with t := n }], b, n, by dsimp only; rw [hg]; simp, hb, fun y hy => ?_, hn1⟩, fun m hm => ?_, fun m => ?_⟩
      · rcases List.mem_append.1 hy with hy | hy
        · exact haa y hy
        · obtain rfl := List.mem_singleton.1 hy; rfl
      · dsimp only; unfold addQ; rw [curQ_lay, hg]
        split
        · rename_i e; subst e
          dsimp only
          rw [tkL_app, h.tk m hm, ea, byI_app, byI_app, byI_all haa, hx', List.append_nil]
          have : byI ({ x with t := m } :: b) m = [{ x with t := m }] := by
            have := byI_app [{ x with t := m }] b m
            rw [List.singleton_append] at this
            rw [this, hbn m hm, byI_all (by simp)]; rfl
          rw [this, List.map_append]
          rfl
        · rename_i e
          rw [h.tk m hm, ea, byI_app, byI_app]
          congr 2
          have h1 : byI (x :: b) m = [] := byI_none fun y hy => by
            rcases List.mem_cons.1 hy with rfl | hy
            · omega
            · have := hb y hy; omega
          have h2 : byI ({ x with t := n } :: b) m = [] := byI_none fun y hy => by
            rcases List.mem_cons.1 hy with rfl | hy
            · exact fun e2 => e e2.symm
            · have := hb y hy; omega
          rw [h1, h2]
      · dsimp only; unfold addQ; rw [curQ_lay]
        split
        · intro y hy
          rcases List.mem_append.1 hy with hy | hy
          · exact h.kd n y hy
          · obtain rfl := List.mem_singleton.1 hy; exact .inr rfl
        · exact h.kd m
theorem QR.prep (h : QR S) (n : Int) : QR (prepM S n).2 := by
  unfold prepM
  split
  · exact h
  · split
    · exact h
    · have e : ∀ m, (curQ (layQ S.ws n (curQ S.ws n).1 true) m).1 = (curQ S.ws m).1 := fun m => by
        rw [curQ_lay]; split
        · rename_i e; subst e; rfl
        · rfl
      exact ⟨h.pre, fun m hm => by dsimp only; rw [e]; exact h.tk m hm, fun m => by dsimp only; rw [e]; exact h.kd m⟩
theorem newsQ_t : ∀ (l : List Ch) (g : Int) (x : IT), x ∈ newsQ g l → x.t = 0
  | [], g, x, h => by cases h
  | y :: r, g, x, h => by
    unfold newsQ at h
    split at h
    · rcases List.mem_cons.1 h with rfl | h
      · rfl
      · exact newsQ_t r _ x h
    · exact newsQ_t r _ x h
theorem QR.commit (h : QR S) (n : Int) : QR (commitM S n).2 := by
  unfold commitM
  split
  · exact h
  · obtain ⟨P, F, n', hPF, hF, hP, hn'⟩ := h.pre
    refine ⟨⟨keptI P n, keptI F n ++ newsQ S.g (curQ S.ws n).1, n', ?_, fun x hx => ?_, fun x hx => hP x (List.mem_filter.1 hx).1, hn'⟩, fun m hm => ?_, fun m => ?_⟩
    · dsimp only; rw [hPF]; unfold keptI; rw [List.filter_append, List.append_assoc]
    · rcases List.mem_append.1 hx with hx | hx
      · exact hF x (List.mem_filter.1 hx).1
      · exact newsQ_t _ _ x hx
    · dsimp only
      rw [curQ_others, byI_app, byI_none (a := newsQ _ _) (fun x hx => by have := newsQ_t _ _ x hx; omega), List.append_nil]
      split
      · rename_i e; subst e
        rw [byI_none (fun x hx => by have := (List.mem_filter.1 hx).2; simpa using this)]; rfl
      · rename_i e
        rw [h.tk m hm]
        congr 1
        unfold byI keptI
        rw [List.filter_filter]
        refine List.filter_congr fun x _ => ?_
        by_cases e2 : x.t = m
        · have : ¬ x.t = n := fun e3 => e (e2.symm.trans e3)
          simp [e2, this]
          exact e
        · simp [e2]
    · dsimp only
      rw [curQ_others]
      split
      · intro x hx; cases hx
      · exact h.kd m
theorem QR.back (h : QR S) (n : Int) : QR (backM S n).2 := by
  unfold backM
  split
  · exact h
  · rename_i hn1
    obtain ⟨P, F, n', hPF, hF, hP, hn'⟩ := h.pre
    have hFm : ∀ x ∈ F.map (freeI n), x.t = 0 := fun x hx => by
      obtain ⟨y, hy, rfl⟩ := List.mem_map.1 hx
      unfold freeI; split
      · rfl
      · exact hF y hy
    refine ⟨?_, fun m hm => ?_, fun m => ?_⟩
    · dsimp only
      rw [hPF, List.map_append]
      by_cases e : n' = n
      · refine ⟨[], P.map (freeI n) ++ F.map (freeI n), 1, rfl, fun x hx => ?_, by simp, by omega⟩
        rcases List.mem_append.1 hx with hx | hx
        · obtain ⟨y, hy, rfl⟩ := List.mem_map.1 hx
          unfold freeI; rw [if_pos ((hP y hy).trans e)]
        · exact hFm x hx
      · refine ⟨P.map (freeI n), F.map (freeI n), n', rfl, hFm, fun x hx => ?_, hn'⟩
        obtain ⟨y, hy, rfl⟩ := List.mem_map.1 hx
        have := hP y hy
        unfold freeI; rw [if_neg (by rw [this]; exact e)]; exact this
    · dsimp only
      rw [curQ_others]
      split
      · rename_i e; subst e
        rw [byI_none (fun x hx => ?_)]; rfl
        obtain ⟨y, hy, rfl⟩ := List.mem_map.1 hx
        unfold freeI; split
        · show (0 : Int) ≠ _; omega
        · assumption
      · rename_i e
        rw [h.tk m hm]
        congr 1
        unfold byI
        generalize S.I = L
        induction L with
        | nil => rfl
        | cons x r ih =>
          rw [List.map_cons, List.filter_cons, List.filter_cons, ih]
          unfold freeI
          by_cases e2 : x.t = n
          · have e3 : ¬ x.t = m := fun e4 => e (e4.symm.trans e2)
            have e5 : ¬ (0 : Int) = m := by omega
            rw [if_pos e2]
            simp [e3, e5]
          · rw [if_neg e2]
    · dsimp only
      rw [curQ_others]
      split
      · intro x hx; cases hx
      · exact h.kd m
theorem fits_spec : ∀ (l : List Ch) (L : List IT), fitsQ L l = true → tkL l = (L.take (l.length - putsL l)).map chOf ∧ (∀ x ∈ L.take (l.length - putsL l), x.t = 0) ∧ kdOk l
  | [], L, _ => ⟨by simp [tkL], by simp, fun x hx => by cases hx⟩
  | x :: r, L, h => by
    have h3 : putsL (x :: r) = (if x.k = 3 then 1 else 0) + putsL r := by
      unfold putsL; rw [List.filter_cons]
      by_cases e : x.k = 3
      · simp [e]; omega
      · simp [e]
    have hle := putsL_le r
    unfold fitsQ at h
    by_cases e : x.k = 3
    · rw [if_pos e] at h h3
      rw [Bool.and_eq_true] at h
      obtain ⟨i1, i2, i3⟩ := fits_spec r L h.2
      have hlen : (x :: r).length - putsL (x :: r) = r.length - putsL r := by rw [h3, List.length_cons]; omega
      rw [hlen]
      refine ⟨?_, i2, fun y hy => ?_⟩
      · rw [← i1]; unfold tkL; rw [List.filter_cons, if_neg (by simp [e])]
      · rcases List.mem_cons.1 hy with rfl | hy
        · exact .inl ⟨e, by simpa using h.1⟩
        · exact i3 y hy
    · rw [if_neg e] at h h3
      by_cases e4 : x.k = 4
      · rw [if_pos e4] at h
        cases L with
        | nil => cases h
        | cons i L' =>
          simp only [Bool.and_eq_true] at h
          obtain ⟨i1, i2, i3⟩ := fits_spec r L' h.2
          have hlen : (x :: r).length - putsL (x :: r) = r.length - putsL r + 1 := by rw [h3, List.length_cons]; omega
          have he := h.1
          unfold eqIT at he
          simp only [Bool.and_eq_true, beq_iff_eq, decide_eq_true_eq] at he
          rw [hlen, List.take_succ_cons]
          refine ⟨?_, fun y hy => ?_, fun y hy => ?_⟩
          · rw [List.map_cons, ← i1]; unfold tkL; rw [List.filter_cons, if_pos (by simp [e4])]
            congr 1
            unfold chOf
            obtain ⟨xk, xy, xv⟩ := x
            dsimp only at e4 he
            simp_all
          · rcases List.mem_cons.1 hy with rfl | hy
            · simp_all
            · exact i2 y hy
          · rcases List.mem_cons.1 hy with rfl | hy
            · exact .inr e4
            · exact i3 y hy
      · rw [if_neg e4] at h; cases h
theorem QR.rest (h : QR S) (n : Int) (l : List Ch) : QR (restM S n l).2 := by
  unfold restM
  split
  · exact h
  · rename_i hn1
    split
    · exact h
    · rename_i hft
      split
      · exact h
      · split
        · exact h
        · rename_i hb
          split
          · exact h
          · obtain ⟨s1, s2, s3⟩ := fits_spec l S.I (by simpa using hft)
            generalize l.length - putsL l = k at s1 s2
            have hc0 : (curQ S.ws n).1 = [] := by
              unfold curQ
              rcases hl : lookQ S.ws n with _ | z
              · rfl
              · rw [hl] at hb; simp at hb
            have hk3 : ∀ m, kdOk (curQ (layQ S.ws n l true) m).1 := fun m => by
              rw [curQ_lay]; split
              · exact s3
              · exact h.kd m
            rcases Nat.eq_zero_or_pos k with rfl | hk
            · have e0 : givenI S.I n 0 = S.I := givenI_zero _ _
              refine ⟨by dsimp only; rw [e0]; exact h.pre, fun m hm => ?_, hk3⟩
              dsimp only
              rw [e0, curQ_lay]
              split
              · rename_i e; subst e
                have := h.tk m hm
                rw [hc0] at this
                rw [← this, s1]
                simp [tkL]
              · exact h.tk m hm
            · obtain ⟨P, F, n', hPF, hF, hP, hn'⟩ := h.pre
              have hI0 : ∀ x ∈ S.I, x.t = 0 := by
                intro x hx
                rw [hPF] at hx
                rcases List.mem_append.1 hx with hx | hx
                · exfalso
                  cases P with
                  | nil => cases hx
                  | cons p P' =>
                    have hp := hP p (List.mem_cons_self ..)
                    have : p.t = 0 := s2 p (by
                      rw [hPF, List.cons_append]
                      cases k with
                      | zero => omega
                      | succ k => rw [List.take_succ_cons]; exact List.mem_cons_self ..)
                    omega
                · exact hF x hx
              have hg : givenI S.I n k = (S.I.take k).map (fun x => { x with t := n }) ++ S.I.drop k := rfl
              have hd0 : ∀ x ∈ S.I.drop k, x.t = 0 := fun x hx => hI0 x (List.mem_of_mem_drop hx)
              have hmn : ∀ x ∈ (S.I.take k).map (fun x : IT => ({ x with t := n } : IT)), x.t = n := fun x hx => by
                obtain ⟨y, _, rfl⟩ := List.mem_map.1 hx; rfl
              refine ⟨⟨_, _, n, by dsimp only; rw [hg], hd0, hmn, by omega⟩, fun m hm => ?_, hk3⟩
              dsimp only
              rw [hg, curQ_lay, byI_app, byI_none (a := S.I.drop k) (fun x hx => by have := hd0 x hx; omega), List.append_nil]
              split
              · rename_i e; subst e
                rw [byI_all hmn, List.map_map, s1]
                rfl
              · rename_i e
                rw [h.tk m hm, byI_none (fun x hx => by have := hI0 x hx; omega), byI_none (fun x hx => by have := hmn x hx; omega)]
theorem QR.load (h : QR S) (vals : List Nat) (next : Int) : QR (loadM S vals next).2 := by
  unfold loadM
  split
  · exact h
  · rename_i hi
    split
    · exact h
    · have hw : S.ws = [] := Classical.byContradiction fun e => hi (.inr e)
      have ht := loadF_t vals (next - vals.length)
      refine ⟨⟨[], loadF (next - vals.length) vals, 1, rfl, ht, by simp, by omega⟩, fun m hm => ?_, fun m => ?_⟩
      · dsimp only
        rw [byI_none (fun x hx => by have := ht x hx; omega), hw]; rfl
      · dsimp only
        rw [hw]; intro x hx; cases hx
theorem QR.call (h : QR S) (o : OpV) : QR (callM S o).2 := by
  unfold callM
  split; exact h.put _ _
  split; exact h.take _
  split; exact h.prep _
  split; exact h.commit _
  split; exact h.back _
  split; exact h.rest _ _
  split; exact h.load _ _
  exact h
end
theorem QR.play (ops : List OpV) : QR (playQ ops) := by
  unfold playQ
  generalize ops.take 60 = l
  suffices ∀ S, QR S → QR (l.foldl stepQ S) from this _ (QR.zero _)
  induction l with
  | nil => exact fun S h => h
  | cons o r ih =>
    intro S h
    refine ih _ ?_
    unfold stepQ
    split
    · exact h
    · exact (h.call o).rebase
end Go.Proofs.Ytfcafahgmnnlnaa.Qu

namespace Go.Proofs.Ytfcafahgmnnlnaa.Qu
open Go.RowKit Go.Maps Go.Deep
set_option linter.unusedVariables false
set_option linter.unusedSimpArgs false

def putV (l : List Ch) : List Nat := (l.filter fun x => decide (x.k = 3)).map Ch.v
theorem newsQ_v : ∀ (l : List Ch) (g : Int), (newsQ g l).map IT.v = putV l
  | [], g => rfl
  | x :: r, g => by
    unfold newsQ putV
    rw [List.filter_cons]
    by_cases e : x.k = 3
    · rw [if_pos e, if_pos (by simpa using e), List.map_cons, List.map_cons, newsQ_v r]; rfl
    · rw [if_neg e, if_neg (by simpa using e), newsQ_v r]; rfl
theorem putV_len (l : List Ch) : (putV l).length = putsL l := by unfold putV putsL; rw [List.length_map]
theorem putV_at (l : List Ch) (i : Nat) (h : i < l.length) (hk : (l[i]'h).k = 3) : (putV l)[putsL (l.take i)]? = some (l[i]'h).v := by
  have e : l = l.take i ++ l[i]'h :: l.drop (i + 1) := by rw [← List.drop_eq_getElem_cons h, List.take_append_drop]
  have e2 : putV l = putV (l.take i) ++ (l[i]'h).v :: putV (l.drop (i + 1)) := by
    conv => lhs; rw [e]
    unfold putV
    rw [List.filter_append, List.map_append, List.filter_cons, if_pos (by simpa using hk), List.map_cons]
  rw [e2, List.getElem?_append_right (by rw [putV_len]; exact Nat.le_refl _), putV_len, Nat.sub_self]; rfl
theorem tk_len : ∀ (l : List Ch), kdOk l → (tkL l).length + putsL l = l.length
  | [], _ => rfl
  | x :: r, h => by
    have ih := tk_len r fun y hy => h y (List.mem_cons_of_mem _ hy)
    unfold tkL putsL at ih ⊢
    rw [List.filter_cons, List.filter_cons, List.length_cons]
    rcases h x (List.mem_cons_self ..) with ⟨e, _⟩ | e
    · rw [if_neg (by simp [e]), if_pos (by simp [e]), List.length_cons]; omega
    · rw [if_pos (by simp [e]), if_neg (by simp [e]), List.length_cons]; omega
theorem kept_len (L : List IT) (n : Int) : (keptI L n).length + (byI L n).length = L.length := by
  unfold keptI byI
  induction L with
  | nil => rfl
  | cons x r ih =>
    rw [List.filter_cons, List.filter_cons, List.length_cons]
    by_cases e : x.t = n
    · rw [if_neg (by simp [e]), if_pos (by simp [e]), List.length_cons]; omega
    · rw [if_pos (by simp [e]), if_neg (by simp [e]), List.length_cons]; omega
/-- What prepare hands out is what stands there; the items stay. -/
theorem prep_facts {S : QS} {n : Int} (h : openE S n = 0) : (prepM S n).1 = ((curQ S.ws n).1, 0) ∧ (curQ (prepM S n).2.ws n).1 = (curQ S.ws n).1 ∧ (prepM S n).2.I = S.I ∧ (prepM S n).2.g = S.g ∧ (∀ m, m ≠ n → curQ (prepM S n).2.ws m = curQ S.ws m) := by
  unfold prepM
  rw [if_neg (by rw [h]; simp)]
  split
  · rename_i hb
    have hc0 : (curQ S.ws n).1 = [] := by
      unfold curQ
      rcases hl : lookQ S.ws n with _ | z
      · rfl
      · rw [hl] at hb; simp at hb
    rw [hc0]
    exact ⟨rfl, rfl, rfl, rfl, fun _ _ => rfl⟩
  · exact ⟨rfl, by dsimp only; rw [curQ_lay, if_pos rfl], rfl, rfl, fun m hm => by dsimp only; rw [curQ_lay, if_neg hm]⟩
/-- How a commit's values lie. -/
theorem commit_facts {S : QS} {n : Int} (hn : 1 ≤ n) (h : QR S) : ∃ kl, (commitM S n).1 = 0 ∧ (commitM S n).2.I.length = kl + putsL (curQ S.ws n).1 ∧ kl + ((curQ S.ws n).1.length - putsL (curQ S.ws n).1) = S.I.length ∧
    ∀ i (hi : i < (curQ S.ws n).1.length), ((curQ S.ws n).1[i]'hi).k ≠ 4 → ((commitM S n).2.I.map IT.v)[kl + putsL ((curQ S.ws n).1.take i)]? = some ((curQ S.ws n).1[i]'hi).v := by
  have hI : (commitM S n).2.I = keptI S.I n ++ newsQ S.g (curQ S.ws n).1 := by unfold commitM; rw [if_neg (by omega)]
  have h1 : (commitM S n).1 = 0 := by unfold commitM; rw [if_neg (by omega)]
  have ht := h.tk n hn
  have hk := h.kd n
  have hl := tk_len _ hk
  have hkl := kept_len S.I n
  rw [ht, List.length_map] at hl
  refine ⟨(keptI S.I n).length, h1, by rw [hI, List.length_append, newsQ_len], by omega, fun i hi h4 => ?_⟩
  have h3 : ((curQ S.ws n).1[i]'hi).k = 3 := by
    rcases hk _ (List.getElem_mem hi) with ⟨e, _⟩ | e
    · exact e
    · exact absurd e h4
  rw [hI, List.map_append, newsQ_v, List.getElem?_append_right (by rw [List.length_map]; omega), List.length_map, Nat.add_sub_cancel_left]
  exact putV_at _ i hi h3
set_option maxRecDepth 100000 in
set_option maxHeartbeats 1000000 in
theorem queueKeeps_walk (A : Option Addr) (ops : List OpV) (c : Nat) (work : Int) (w : World) (ho : OpsAt w A ops) (hx1 : -9223372036854775808 ≤ work) (hx2 : work ≤ 9223372036854775807) :
    Calls Try.prog 6 #[.slice A ops.length c, .int .i64 work] w fun e w' => e = .returned (.bool true) ∧ Below w.heap.size w w' := by
  obtain ⟨n, hn⟩ : ∃ n, n = ops.length := ⟨_, rfl⟩
  have HP := Lib.hid (played_any A ops n c w (Lib.hid hn) ho)
  rw [← hn]
  have hwo : i64ok work := ⟨hx1, hx2⟩
  have HQ := Lib.hid (QR.play ops)
  generalize playQ ops = S at HP HQ
  clear hn ho
  go_enter Try.func6, Try.ntmps6
  go_wp2_with fail
  refine HP.out.mono ?_
  rintro e w1 ⟨⟨g, cs, rfl, hk, hok, hSB, hgl⟩, b1⟩
  clear HP
  by_cases h1 : work < 1
  · have HB := Lib.hid b1
    clear hk hok hSB b1 hgl
    go_wp2_with fail
    refine (alive_any w1).mono ?_
    rintro e w3 ⟨rfl, b3⟩
    have HB3 := Lib.hid (bt HB.out b3)
    clear b3
    go_wp2
    go_ret
    exact ⟨rfl, HB3.out⟩
  · have hpr := prep_any g 0 _ cs S 200 work w1 hk (by omega) hwo
    rcases openE_cases S work with ⟨_, hc⟩ | ⟨he7, _⟩ | ⟨he0, _⟩
    · exact absurd hc h1
    · have hM : prepM S work = (([], 7), S) := by unfold prepM; rw [if_pos (by rw [he7]; simp), he7]
      rw [hM] at hpr
      dsimp only at hpr
      have HC := Lib.hid hpr
      have HB := Lib.hid (And.intro b1 hgl)
      clear hpr hM hk hok hSB b1 hgl he7
      go_wp2_with fail
      refine HC.out.mono ?_
      rintro e w2 ⟨⟨A2, q2, c2, rfl, _, _⟩, ⟨_, hg2⟩⟩
      have HB2 := Lib.hid (HB.out.1.grown hg2 HB.out.1.size (fun r e => by cases e; exact HB.out.2))
      clear hg2
      go_wp2_with fail
      refine (alive_any w2).mono ?_
      rintro e w3 ⟨rfl, b3⟩
      have HB3 := Lib.hid (bt HB2.out b3)
      clear b3
      go_wp2
      go_ret
      exact ⟨rfl, HB3.out⟩
    · obtain ⟨p1, p2, p3, p4, _⟩ := prep_facts he0
      have hok1 := hok.prep hk.nd work
      have hqr1 := HQ.out.prep work
      obtain ⟨S1, hS1⟩ : ∃ S1, S1 = (prepM S work).2 := ⟨_, rfl⟩
      rw [p1, ← hS1] at hpr
      rw [← hS1] at p2 p3 p4 hok1 hqr1
      rw [← p2] at hpr
      dsimp only at hpr
      obtain ⟨kl, f1, f2, f3, f4⟩ := commit_facts (by omega : 1 ≤ work) hqr1
      obtain ⟨l, hl⟩ : ∃ l, l = (curQ S1.ws work).1 := ⟨_, rfl⟩
      rw [← hl] at hpr f2 f3 f4
      have hll : l.length ≤ 200 := by rw [hl, p2]; exact hk.cur_len work
      have HC := Lib.hid hpr
      have HB := Lib.hid (And.intro b1 (And.intro hgl (And.intro hk.lt hok1)))
      have hkd : kdOk l := by rw [hl]; exact hqr1.kd work
      have hpl := putsL_le l
      obtain ⟨il, hil⟩ : ∃ il, il = S1.I.length := ⟨_, rfl⟩
      have hil48 : S1.I.length ≤ 16 := by have := hok1.room; omega
      rw [← hil] at f3 hil48
      have HF := Lib.hid (And.intro f1 (And.intro f2 (And.intro f4 hil)))
      clear hpr p1 p2 p3 p4 hk hok hSB b1 hgl hok1 hqr1 hS1 f1 f2 f4 hl he0 hil
      go_wp2_with fail
      refine HC.out.mono ?_
      rintro e w2 ⟨⟨A2, q2, c2, rfl, hq2, own2⟩, ⟨⟨cs2, hk2, _⟩, hg2⟩⟩
      have hb2 := HB.out.1.grown hg2 HB.out.1.size (fun r e => by cases e; exact HB.out.2.1)
      have hv := values_any g 0 _ cs2 S1 _ w2 hk2
      rw [← HF.out.2.2.2] at hv
      have HV := Lib.hid hv
      have H2 := Lib.hid (And.intro own2 (And.intro hk2 (And.intro hb2 hq2)))
      clear hv own2 hk2 hg2 hb2 hq2
      go_wp2_with fail
      refine HV.out.mono ?_
      rintro e w3 ⟨A3, c3, rfl, _, b3⟩
      have hb3 := bt H2.out.2.2.1 b3
      have hcm := commit_any g 0 _ cs2 S1 _ work w3 (H2.out.2.1.below b3) HB.out.2.2.2 (by omega) hwo
      have e1 := HF.out.1
      generalize commitM S1 work = R at hcm HF e1
      obtain ⟨re, rS⟩ := R
      dsimp only at hcm HF e1
      subst e1
      have HCm := Lib.hid hcm
      have H3 := Lib.hid (And.intro (H2.out.1.kept (lbelow_grown b3 none) (fun r e => by cases e)) hb3)
      clear hcm hb3 b3
      go_wp2_with fail
      refine HCm.out.mono ?_
      rintro e w4 ⟨rfl, ⟨⟨cs4, hk4, _⟩, hg4⟩⟩
      have hb4 := H3.out.2.grown hg4 H3.out.2.size (fun r e => by cases e; exact HB.out.2.1)
      have own4 := H3.out.1.kept hg4 (fun r e => by cases e; exact HB.out.2.2.1)
      have hv := values_any g 0 _ cs4 rS _ w4 hk4
      obtain ⟨nl, hnl⟩ : ∃ nl, nl = rS.I.length := ⟨_, rfl⟩
      rw [← hnl] at hv
      have HV4 := Lib.hid hv
      have H4 := Lib.hid (And.intro own4 (And.intro hb4 hnl))
      clear hv own4 hk4 hg4 hb4 hnl
      go_wp2_with fail
      refine HV4.out.mono ?_
      rintro e w5 ⟨A5, c5, rfl, own5, b5⟩
      have hb5 := bt H4.out.2.1 b5
      have hin5 : InL w5 A2 l := (H4.out.1.kept (lbelow_grown b5 none) (fun r e => by cases e)).at_.inl
      have HPu := Lib.hid (fun u (hb : Below w5.heap.size w5 u) => refputs_any A2 l q2 c2 u (Lib.hid H2.out.2.2.2) (by have := H2.out.2.2.2; omega) (hin5.below hb))
      have H5 := Lib.hid (And.intro hin5 (And.intro own5.at_ hb5))
      have hnl2 : nl = kl + putsL l := H4.out.2.2.trans HF.out.2.1
      obtain ⟨pz, hpz⟩ : ∃ pz, pz = putsL l := ⟨_, rfl⟩
      rw [← hpz] at HPu hnl2 f3 hpl
      have HPz := Lib.hid hpz
      have HNum := Lib.hid (And.intro hnl2 (And.intro f3 (And.intro hpl (And.intro hll (And.intro hil48 H2.out.2.2.2)))))
      clear hin5 own5 hb5 b5 hpz hnl2 f3 hpl hll hil48
      have hw5 := Below.refl w5.heap.size w5
      have HP5 := Lib.hid (HPu.out w5 hw5)
      clear hw5
      go_wp2_with fail
      refine HP5.out.mono ?_
      rintro e w6 ⟨rfl, b6⟩
      have hsub : IntKind.i64.wrap ((nl : Int) - (pz : Int)) = (kl : Int) := by have := HNum.out; rw [IntWalk.i64_in _ (by omega)]; omega
      have HI : Hid (0 = putsL (l.take 0) ∧ Below w5.heap.size w5 w6) := Lib.hid ⟨rfl, b6⟩
      clear b6
      have hq200 : q2 ≤ 200 := by have := HNum.out; omega
      go_wp2_with fail
      have HQ200 := Lib.hid hq200
      go_loopw [10, 11, 12] (fun tv kv iv wr => ∃ (i p : Nat), i ≤ q2 ∧ p ≤ i ∧ tv = .int .i64 ((i - p : Nat) : Nat) ∧ kv = .int .i64 ((kl + p : Nat) : Nat) ∧ iv = .int .i64 i ∧ Hid (p = putsL (l.take i) ∧ Below w5.heap.size w5 wr)) (fun _ _ iv _ => q2 - (intOf iv).toNat)
      case atStart => exact ⟨0, 0, Nat.zero_le _, Nat.le_refl _, rfl, rfl, rfl, HI⟩
      case round =>
        clear HI
        obtain ⟨i, p, hi, hpi, rfl, rfl, rfl, HR⟩ := hrel
        by_cases hiq : i < q2
        · have hiI : (i : Int) < (q2 : Int) := by omega
          have hil2 : i < l.length := by have := HNum.out; omega
          obtain ⟨b, o, rfl, hbk, hcs⟩ := H5.out.1.below HR.out.2 (by omega)
          have q0 := (hcs i hil2).1
          have qv := (hcs i hil2).2.2
          have hst := putsL_step l i hil2
          have hnow := HF.out.2.2.1 i hil2
          have hkk := hkd _ (List.getElem_mem hil2)
          generalize l[i]'hil2 = x at q0 qv hst hnow hkk
          obtain ⟨xk, xy, xv⟩ := x
          dsimp only at q0 qv hst hnow hkk
          by_cases h4 : xk = 4
          · subst h4
            rw [if_neg (by decide)] at hst
            have HN : Hid (p = putsL (l.take (i + 1)) ∧ Below w5.heap.size w5 wr) := Lib.hid ⟨by rw [hst, HR.out.1]; rfl, HR.out.2⟩
            clear hst HR hcs hbk hil2 hnow hkk qv
            go_wp2
            go_roundw
            case rel => exact ⟨i + 1, p, by omega, by omega, by go_num, rfl, by go_num, HN⟩
            case measure => simp [intOf]; omega
          · have h3 : xk = 3 := by
              rcases hkk with ⟨e, _⟩ | e
              · exact e
              · exact absurd e h4
            subst h3
            rw [if_pos rfl] at hst
            have hpl2 : putsL (l.take (i + 1)) ≤ putsL l := by
              have := putsW_app
              have e : putsL l = putsL (l.take (i + 1)) + putsL (l.drop (i + 1)) := by
                conv => lhs; rw [← List.take_append_drop (i + 1) l]
                unfold putsL
                rw [List.filter_append, List.length_append]
              omega
            have hpp : p < pz := by rw [HPz.out]; rw [hst, ← HR.out.1] at hpl2; omega
            have hnw := hnow (by decide)
            rw [← HR.out.1] at hnw
            obtain ⟨kk, hkk2⟩ : ∃ kk, kk = kl + p := ⟨_, rfl⟩
            rw [← hkk2] at hnw
            have hkn : kk < (rS.I.map IT.v).length := by rw [List.length_map, HF.out.2.1, ← HPz.out]; omega
            obtain ⟨b5, o5, rfl, hbk5, hcs5⟩ := H5.out.2.1.below HR.out.2 (by omega)
            have n0 := hcs5 kk hkn
            have hnv : (rS.I.map IT.v)[kk]'hkn = xv := by
              rw [List.getElem?_eq_getElem hkn] at hnw
              exact Option.some.inj hnw
            rw [hnv] at n0
            have e0 := fun m : Nat => cell_drew' qv m
            have e1 := fun m : Nat => cell_drew' n0 m
            have hvv : ((xv : Int) != (xv : Int)) = false := by simp
            have hk0 : decide ((kk : Int) < 0) = false := decide_eq_false (by omega)
            have hkl2 : decide ((nl : Int) ≤ (kk : Int)) = false := decide_eq_false (by have := HNum.out; omega)
            have hkl3 : decide (nl ≤ kk) = false := decide_eq_false (by have := HNum.out; omega)
            have hkl4 : decide (kk < nl) = true := decide_eq_true (by have := HNum.out; omega)
            have hkl5 : decide ((kk : Int) < (nl : Int)) = true := decide_eq_true (by have := HNum.out; omega)
            have hkI : (kk : Int) < (nl : Int) := by have := HNum.out; omega
            have HX : Hid (∀ m : Nat, p + 1 = putsL (l.take (i + 1)) ∧ Below w5.heap.size w5 (wr.drewN m)) := Lib.hid fun m => ⟨by rw [hst, ← HR.out.1], bt HR.out.2 ⟨rfl, rfl, rfl, Nat.le_refl _, fun _ _ => rfl⟩⟩
            have Hk2 := Lib.hid hkk2
            have HKb : Hid (kk < 1000) := Lib.hid (by have := HNum.out; omega)
            rw [← hkk2]
            clear hst HR hcs hcs5 hbk hbk5 hil2 hnow hkk hnw hpl2 hkk2 hnv hkn qv n0 h4
            go_wp2_with fail
            go_quiet (fail)
            have HX2 := Lib.hid (HX.out nq)
            clear e0 e1 HX
            go_wp2
            go_roundw
            case rel => exact ⟨i + 1, p + 1, by omega, by omega, by rw [show i + 1 - (p + 1) = i - p by omega], by rw [show ((kl + (p + 1) : Nat) : Int) = (kk : Int) + 1 by have := Hk2.out; omega]; refine congrArg (Value.int .i64) ?_; have := HKb.out; unfold wrap64; omega, by go_num, HX2⟩
            case measure => simp [intOf]; omega
        · obtain rfl : i = q2 := by omega
          have hiI : ¬ (i : Int) < (i : Int) := by omega
          have hp2 : p = pz := by rw [HR.out.1, HPz.out, List.take_of_length_le (by have := HNum.out; omega)]
          subst hp2
          have HB5 := Lib.hid HR.out.2
          clear HR
          go_wp2_with fail
          refine (alive_any wr).mono ?_
          rintro e w7 ⟨rfl, b7⟩
          have HP7 := Lib.hid (HPu.out w7 (bt HB5.out b7))
          have HB7 := Lib.hid (bt HB5.out b7)
          clear b7
          have hs1 : IntKind.i64.wrap ((il : Int) - ((i - p : Nat) : Int)) = ((il - (i - p) : Nat) : Int) := by have := HNum.out; rw [IntWalk.i64_in _ (by omega)]; omega
          have hs2 : IntKind.i64.wrap (((il - (i - p) : Nat) : Int) + (p : Int)) = (nl : Int) := by have := HNum.out; rw [IntWalk.i64_in _ (by omega)]; omega
          have hs3 : ((kl + p : Nat) : Int) = (nl : Int) := by have := HNum.out; omega
          go_wp2_with fail
          refine HP7.out.mono ?_
          rintro e w8 ⟨rfl, b8⟩
          have HB8 := Lib.hid (bt H5.out.2.2 (bt HB7.out b8))
          clear b8
          go_wp2
          go_ret
          exact ⟨by simp; have := HNum.out; omega, HB8.out⟩
end Go.Proofs.Ytfcafahgmnnlnaa.Qu

namespace Go.Proofs.Ytfcafahgmnnlnaa.Qu
open Go.RowKit Go.Maps Go.Deep
set_option linter.unusedVariables false
set_option linter.unusedSimpArgs false

/-- Backed out, S is S0. -/
structure BR (S0 S : QS) (n : Int) : Prop where
  it : S.I.map (freeI n) = S0.I
  g : S.g = S0.g
  ws : othersQ S.ws n = S0.ws
  B : S.B = anyB
  ok : QOk S
theorem BR.start {S : QS} {n : Int} (h : QR S) (hn : 1 ≤ n) (hB : S.B = anyB) (hok : QOk S) (hb : (lookQ S.ws n).isSome = false) : BR S S n := by
  have hf : findQ S.ws n = none := by
    unfold lookQ at hb
    rcases hh : findQ S.ws n with _ | z
    · rfl
    · rw [hh] at hb; cases hb
  have hc : (curQ S.ws n).1 = [] := by unfold curQ lookQ; rw [hf]; rfl
  have ht := h.tk n hn
  rw [hc] at ht
  have hby : byI S.I n = [] := List.map_eq_nil_iff.1 ht.symm
  refine ⟨?_, rfl, ?_, hB, hok⟩
  · conv => rhs; rw [← List.map_id S.I]
    refine List.map_congr_left fun x hx => ?_
    have : ¬ x.t = n := fun e => by
      have := List.filter_eq_nil_iff.1 hby x hx
      exact this (by simpa using e)
    unfold freeI; rw [if_neg this]; rfl
  · unfold othersQ
    rw [List.filter_eq_self]
    intro y hy
    simpa using findQ_none.1 hf y hy
theorem BR.step {S0 S : QS} {o : OpV} (h : BR S0 S o.n) (hd : S.ws.Pairwise fun a b => a.n ≠ b.n) (h0 : 0 ≤ o.k) (h2 : o.k ≤ 2) : BR S0 { (callM S o).2 with B := anyB } o.n := by
  have hok : QOk { (callM S o).2 with B := anyB } := (h.ok.call hd o).rebase
  rcases (show o.k = 0 ∨ o.k = 1 ∨ o.k = 2 by omega) with e | e | e
  · have hc : (callM S o).2 = (putM S o.n o.v).2 := by unfold callM; rw [if_pos e]
    rw [hc] at hok ⊢
    unfold putM at hok ⊢
    split
    · exact ⟨h.it, h.g, h.ws, rfl, h.ok.rebase⟩
    · split
      · exact ⟨h.it, h.g, h.ws, rfl, h.ok.rebase⟩
      · rename_i h1 h2
        rw [if_neg h1, if_neg h2] at hok
        exact ⟨h.it, h.g, by dsimp only; unfold addQ; rw [othersQ_lay]; exact h.ws, rfl, hok⟩
  · have hc : (callM S o).2 = (takeM S o.n).2 := by unfold callM; rw [if_neg (by omega), if_pos e]
    rw [hc] at hok ⊢
    unfold takeM at hok ⊢
    split
    · exact ⟨h.it, h.g, h.ws, rfl, h.ok.rebase⟩
    · rename_i h1
      split
      · exact ⟨h.it, h.g, h.ws, rfl, h.ok.rebase⟩
      · rename_i hf
        obtain ⟨hi, ht0, _, _⟩ := front_ok (by simpa using hf : (frontR S.I o.n).2 = 0)
        rw [if_neg h1, if_neg hf, List.getElem?_eq_getElem hi] at hok
        rw [List.getElem?_eq_getElem hi]
        dsimp only at hok ⊢
        refine ⟨?_, h.g, by dsimp only; unfold addQ; rw [othersQ_lay]; exact h.ws, rfl, hok⟩
        dsimp only
        rw [← h.it]
        generalize (frontR S.I o.n).1 = i at hi ht0
        have ea : S.I = S.I.take i ++ S.I[i]'hi :: S.I.drop (i + 1) := by
          rw [← List.drop_eq_getElem_cons hi, List.take_append_drop]
        have hla : (S.I.take i).length = i := by rw [List.length_take]; omega
        generalize S.I[i]'hi = x at ea ht0
        have hg := giveI_app (S.I.take i) x (S.I.drop (i + 1)) o.n
        rw [hla, ← ea] at hg
        rw [hg]
        conv => rhs; rw [ea]
        rw [List.map_append, List.map_append, List.map_cons, List.map_cons]
        congr 2
        obtain ⟨xn, xv, xt⟩ := x
        dsimp only at ht0
        subst ht0
        unfold freeI
        dsimp only
        rw [if_pos rfl]
        split <;> rfl
  · have hc : (callM S o).2 = (prepM S o.n).2 := by unfold callM; rw [if_neg (by omega), if_neg (by omega), if_pos e]
    rw [hc] at hok ⊢
    unfold prepM at hok ⊢
    split
    · exact ⟨h.it, h.g, h.ws, rfl, h.ok.rebase⟩
    · split
      · exact ⟨h.it, h.g, h.ws, rfl, h.ok.rebase⟩
      · rename_i h1 h2
        rw [if_neg h1, if_neg h2] at hok
        exact ⟨h.it, h.g, by dsimp only; rw [othersQ_lay]; exact h.ws, rfl, hok⟩
theorem BR.back {S0 S : QS} {n : Int} (h : BR S0 S n) (hn : 1 ≤ n) (hB : S0.B = anyB) : backM S n = (0, S0) := by
  unfold backM
  rw [if_neg (by omega)]
  obtain ⟨B, I, g, ws⟩ := S
  obtain ⟨B0, I0, g0, ws0⟩ := S0
  obtain ⟨h1, h2, h3, h4, _⟩ := h
  dsimp only at h1 h2 h3 h4 hB ⊢
  rw [h1, h2, h3, h4, hB]
theorem BR.vals {S0 S : QS} {n : Int} (h : BR S0 S n) : S.I.map IT.v = S0.I.map IT.v := by
  rw [← h.it, List.map_map]
  refine List.map_congr_left fun x _ => ?_
  simp only [Function.comp]
  unfold freeI
  split <;> rfl
theorem BR.len {S0 S : QS} {n : Int} (h : BR S0 S n) : S.I.length = S0.I.length := by rw [← h.it, List.length_map]
/-- Two queues. -/
def TwoQ (w u : World) (g g2 : Nat) (S0 : QS) (n : Int) (N : Nat) : Prop := ∃ S, BR S0 S n ∧ (∃ cs, QAt u g 0 54 cs S N) ∧ (∃ cs, QAt u g2 0 54 cs S0 201) ∧ Below w.heap.size w u
theorem TwoQ.below {w u u' : World} {g g2 : Nat} {S0 : QS} {n : Int} {N : Nat} (h : TwoQ w u g g2 S0 n N) (hb : Below u.heap.size u u') : TwoQ w u' g g2 S0 n N := by
  obtain ⟨S, h1, ⟨cs, h2⟩, ⟨cs2, h3⟩, h4⟩ := h
  exact ⟨S, h1, ⟨cs, h2.below hb⟩, ⟨cs2, h3.below hb⟩, bt h4 hb⟩
set_option maxRecDepth 100000 in
set_option maxHeartbeats 1000000 in
theorem queueBack_walk (A : Option Addr) (ops : List OpV) (c : Nat) (A2 : Option Addr) (more : List OpV) (c2 : Nat) (work : Int) (w : World) (ho : OpsAt w A ops) (hm : OpsAt w A2 more) (hx1 : -9223372036854775808 ≤ work) (hx2 : work ≤ 9223372036854775807) :
    Calls Try.prog 5 #[.slice A ops.length c, .slice A2 more.length c2, .int .i64 work] w fun e w' => e = .returned (.bool true) ∧ Below w.heap.size w w' := by
  obtain ⟨n, hn⟩ : ∃ n, n = ops.length := ⟨_, rfl⟩
  obtain ⟨m, hmn⟩ : ∃ m, m = more.length := ⟨_, rfl⟩
  have HP := Lib.hid (fun u (hb : Below w.heap.size w u) => played_any A ops n c u (Lib.hid hn) (ho.below hb))
  have HM := Lib.hid hm
  have HMn := Lib.hid hmn
  have hml : m ≤ 9223372036854775807 := by have := hm.1; rw [hmn]; unfold maxLen at this; omega
  rw [← hn, ← hmn]
  have hwo : i64ok work := ⟨hx1, hx2⟩
  have HQ := Lib.hid (QR.play ops)
  generalize playQ ops = S at HP HQ
  have HP1 := Lib.hid (HP.out w (Below.refl _ _))
  clear hn ho hm hmn
  go_enter Try.func5, Try.ntmps5
  go_wp2_with fail
  refine HP1.out.mono ?_
  rintro e w1 ⟨⟨g, cs, rfl, hk, hok, hSB, hgl⟩, b1⟩
  have HP2 := Lib.hid (HP.out w1 b1)
  have H1 := Lib.hid (And.intro hk (And.intro hok (And.intro hSB (And.intro hgl b1))))
  clear HP HP1 hk hok hSB hgl b1
  go_wp2_with fail
  refine HP2.out.mono ?_
  rintro e w2 ⟨⟨g2, cs2, rfl, hk2, _, _, hgl2⟩, b2⟩
  clear HP2
  by_cases h1 : work < 1
  · have HB := Lib.hid (bt H1.out.2.2.2.2 b2)
    clear hk2 b2 hgl2
    go_wp2_with fail
    refine (alive_any w2).mono ?_
    rintro e w3 ⟨rfl, b3⟩
    have HB3 := Lib.hid (bt HB.out b3)
    clear b3
    go_wp2
    go_ret
    exact ⟨rfl, HB3.out⟩
  have hw1 : 1 ≤ work := by omega
  have hbu := busy_any g 0 _ cs S 200 work w2 (H1.out.1.below b2) hwo
  rcases hbz : (lookQ S.ws work).isSome with _ | _
  · rw [hbz] at hbu
    have HBu := Lib.hid hbu
    have hst : BR S S work := BR.start HQ.out hw1 H1.out.2.2.1 H1.out.2.1 hbz
    have H2 := Lib.hid (show TwoQ w w2 g g2 S work (200 + 0) ∧ (lookQ S.ws work).isSome = false ∧ S.B = anyB ∧ w.heap.size ≤ g ∧ w.heap.size ≤ g2 ∧ g ≠ g2 from ⟨⟨S, hst, ⟨cs, H1.out.1.below b2⟩, ⟨cs2, hk2.more (by omega)⟩, bt H1.out.2.2.2.2 b2⟩, hbz, H1.out.2.2.1, H1.out.2.2.2.1, by have := H1.out.2.2.2.2.size; omega, by have := H1.out.1.lt; omega⟩)
    clear hk2 b2 hgl2 hbu hst hbz H1
    go_wp2_with fail
    refine HBu.out.mono ?_
    rintro e w3 ⟨rfl, b3⟩
    have HI : Hid (TwoQ w w3 g g2 S work (200 + 0)) := Lib.hid (H2.out.1.below b3)
    clear b3 HBu
    go_wp2_with fail
    go_loopw [9] (fun iv wr => ∃ (i : Nat), i ≤ m ∧ i ≤ 30 ∧ iv = .int .i64 i ∧ Hid (TwoQ w wr g g2 S work (200 + i))) (fun iv _ => m - (intOf iv).toNat)
    case atStart => exact ⟨0, Nat.zero_le _, by omega, rfl, HI⟩
    case round =>
      clear HI
      obtain ⟨i, hi, hi30, rfl, HR⟩ := hrel
      have HEnd : Hid (TwoQ w wr g g2 S work 300) := Lib.hid (by
        obtain ⟨Sx, h1, ⟨csx, h2⟩, h3, h4⟩ := HR.out
        exact ⟨Sx, h1, ⟨csx, h2.more (by omega)⟩, h3, h4⟩)
      by_cases hgo : i < m ∧ i < 30
      · obtain ⟨him, hi3⟩ := hgo
        have himI : (i : Int) < (m : Int) := by omega
        have hi3I : (i : Int) < 30 := by omega
        have hio : i < more.length := by rw [← HMn.out]; exact him
        obtain ⟨Sx, hbr, ⟨csx, hqx⟩, ⟨csy, hqy⟩, hb⟩ := HR.out
        obtain ⟨b, o, rfl, hlt, hcs⟩ := HM.out.2.2 (by omega)
        obtain ⟨q0, q1, q2, q3, q4, q5⟩ := hcs i hio
        generalize more[i]'hio = op at q0 q1 q2 q3 q4 q5
        obtain ⟨ok, on, ox, ov, oA, ol, oc, oVA, ovs, ovc⟩ := op
        dsimp only at q0 q1 q2 q3 q4 q5
        have p0 := (hb.cell (p := ⟨b, o + i * 6, none⟩) hlt).trans q0
        have p1 := (hb.cell (p := ⟨b, o + i * 6 + 1, none⟩) hlt).trans q1
        have p2 := (hb.cell (p := ⟨b, o + i * 6 + 2, none⟩) hlt).trans q2
        have p3 := (hb.cell (p := ⟨b, o + i * 6 + 3, none⟩) hlt).trans q3
        have p4 := (hb.cell (p := ⟨b, o + i * 6 + 4, none⟩) hlt).trans q4
        have p5 := (hb.cell (p := ⟨b, o + i * 6 + 5, none⟩) hlt).trans q5
        by_cases hk02 : 0 ≤ ok ∧ ok ≤ 2
        · obtain ⟨hk0, hk2⟩ := hk02
          have hb3 := ba wr (.cells #[.int .i64 ok, .int .i64 work, .int .i64 ox, .int .u64 (ov : Nat), .slice oA ol.length oc, .slice oVA ovs.length ovc] 35)
          have hcall := call_any g _ csx Sx (200 + i) ⟨ok, work, ox, ov, oA, ol, oc, oVA, ovs, ovc⟩ _ (hqx.below hb3) hbr.ok (by omega) hwo (fun e => by dsimp only at e; omega) (fun e => by dsimp only at e; omega) (fun e => by dsimp only at e; omega) (fun b _ => by rw [hbr.B]; trivial)
          unfold OpV.val at hcall
          dsimp only at hcall
          have hstep := hbr.step (o := ⟨ok, work, ox, ov, oA, ol, oc, oVA, ovs, ovc⟩) hqx.nd hk0 hk2
          obtain ⟨lq, hlq⟩ : ∃ lq, lq = ol.length := ⟨_, rfl⟩
          obtain ⟨vq, hvq⟩ : ∃ vq, vq = ovs.length := ⟨_, rfl⟩
          rw [← hlq, ← hvq] at hcall
          rw [← hlq] at p4 hb3
          rw [← hvq] at p5 hb3
          have HC := Lib.hid hcall
          have HX := Lib.hid (And.intro hstep (And.intro (hqx.below hb3) (And.intro (hqy.below hb3) (bt hb hb3))))
          clear hcall hstep hb3 hbr hqx hqy hb q0 q1 q2 q3 q4 q5 hcs hio hlq hvq HEnd HR
          go_wp2_with fail
          refine HC.out.mono ?_
          rintro e w5 ⟨A5, q5, c5, rfl, _, _, ⟨⟨cs5, hq5, _⟩, hg5⟩⟩
          have HN : Hid (TwoQ w w5 g g2 S work (200 + (i + 1))) := Lib.hid ⟨_, HX.out.1, ⟨cs5, hq5.rebase fun _ _ _ => trivial⟩, ⟨csy, HX.out.2.2.1.far hg5 (fun e => H2.out.2.2.2.2.2 e.symm) HX.out.2.1.bk (by decide) (by decide)⟩, HX.out.2.2.2.grown hg5 HX.out.2.2.2.size (fun r e => by cases e; exact H2.out.2.2.2.1)⟩
          clear hq5 hg5 HC HX
          go_wp2
          go_roundw
          case rel => exact ⟨i + 1, by omega, by omega, by go_num, HN⟩
          case measure => simp [intOf]; omega
        · obtain ⟨lq, hlq⟩ : ∃ lq, lq = ol.length := ⟨_, rfl⟩
          obtain ⟨vq, hvq⟩ : ∃ vq, vq = ovs.length := ⟨_, rfl⟩
          rw [← hlq] at p4
          rw [← hvq] at p5
          have hb3 := ba wr (.cells #[.int .i64 ok, .int .i64 on, .int .i64 ox, .int .u64 (ov : Nat), .slice oA lq oc, .slice oVA vq ovc] 35)
          have HN : Hid (TwoQ w (wr.alloc (.cells #[.int .i64 ok, .int .i64 on, .int .i64 ox, .int .u64 (ov : Nat), .slice oA lq oc, .slice oVA vq ovc] 35)) g g2 S work (200 + (i + 1))) := Lib.hid (by
            obtain ⟨Sx, h1, ⟨csx, h2⟩, h3, h4⟩ := HR.out.below hb3
            exact ⟨Sx, h1, ⟨csx, h2.more (by omega)⟩, h3, h4⟩)
          clear hb3 hbr hqx hqy hb q0 q1 q2 q3 q4 q5 hcs hio hlq hvq HEnd HR
          by_cases hk0 : 0 ≤ ok
          · have hk2 : ¬ ok ≤ 2 := fun e => hk02 ⟨hk0, e⟩
            clear hk02
            go_wp2
            go_roundw
            case rel => exact ⟨i + 1, by omega, by omega, by go_num, HN⟩
            case measure => simp [intOf]; omega
          · clear hk02
            go_wp2
            go_roundw
            case rel => exact ⟨i + 1, by omega, by omega, by go_num, HN⟩
            case measure => simp [intOf]; omega
      · have hcond : (¬ (i : Int) < (m : Int)) ∨ ((i : Int) < (m : Int) ∧ ¬ (i : Int) < 30) := by omega
        obtain ⟨Sx, hbr, ⟨csx, hqx⟩, ⟨csy, hqy⟩, hb⟩ := HEnd.out
        have hvq := values_any g 0 _ csx Sx _ wr hqx
        rw [hbr.vals, hbr.len] at hvq
        have HV1 := Lib.hid hvq
        have HV2 := Lib.hid (fun u (hu : Below wr.heap.size wr u) => values_any g2 0 _ csy S _ u (hqy.below hu))
        have HBk := Lib.hid (fun u (hu : Below wr.heap.size wr u) => backout_any g 0 _ csx Sx _ work u (hqx.below hu) hwo)
        rw [hbr.back hw1 H2.out.2.2.1] at HBk
        have HX := Lib.hid (And.intro hqx (And.intro hqy hb))
        obtain ⟨il, hil⟩ : ∃ il, il = S.I.length := ⟨_, rfl⟩
        have hil16 : il ≤ 16 := by have := hbr.ok.room; have := hbr.len; omega
        obtain ⟨V, hV⟩ : ∃ V, V = S.I.map IT.v := ⟨_, rfl⟩
        have hVl : Hid (il = V.length) := Lib.hid (by rw [hV, List.length_map, hil])
        rw [← hil, ← hV] at HV1 HV2
        have HilV := Lib.hid (And.intro hil hV)
        clear hvq hbr hqx hqy hb HEnd HR hgo hil hV hi hi30
        suffices hs : ∀ (P : Prop), P → P by
          rcases hcond with hc1 | ⟨hc1, hc2⟩
          all_goals
            go_wp2_with fail
            refine HV1.out.mono ?_
            rintro e w4 ⟨A4, c4, rfl, own4, b4⟩
            have HV2b := Lib.hid (HV2.out w4 b4)
            have H4 := Lib.hid (And.intro own4.at_ b4)
            clear own4 b4
            go_wp2_with fail
            refine HV2b.out.mono ?_
            rintro e w5 ⟨A5, c5, rfl, own5, b5⟩
            have hsm := same_any A4 A5 V V il il c4 c5 w5 hVl hVl (by omega) (H4.out.1.below b5) own5.at_
            rw [decide_eq_true rfl] at hsm
            have HS := Lib.hid hsm
            have H5 := Lib.hid (bt H4.out.2 b5)
            clear own5 b5 hsm
            go_wp2_with fail
            refine HS.out.mono ?_
            rintro e w6 ⟨rfl, b6⟩
            have HB6 := Lib.hid (HBk.out w6 (bt H5.out b6))
            have H6 := Lib.hid (bt H5.out b6)
            clear b6
            go_wp2_with fail
            refine HB6.out.mono ?_
            rintro e w7 ⟨rfl, ⟨⟨cs7, hq7, _⟩, hg7⟩⟩
            have hqy7 := (HX.out.2.1.below H6.out).far hg7 (fun e => H2.out.2.2.2.2.2 e.symm) (HX.out.1.below H6.out).bk (by decide) (by decide)
            have hb7 := (bt HX.out.2.2 H6.out).grown hg7 (bt HX.out.2.2 H6.out).size (fun r e => by cases e; exact H2.out.2.2.2.1)
            have hbu := busy_any g 0 _ cs7 S _ work w7 hq7 hwo
            rw [H2.out.2.1] at hbu
            have HBu := Lib.hid hbu
            have H7 := Lib.hid (And.intro hq7 (And.intro hqy7 hb7))
            clear hq7 hqy7 hb7 hg7 hbu
            go_wp2_with fail
            refine HBu.out.mono ?_
            rintro e w8 ⟨rfl, b8⟩
            have htk := take_any g 0 _ cs7 S _ work w8 (H7.out.1.below b8) (by omega) hwo (fun b _ => by rw [H2.out.2.2.1]; trivial)
            have htk2 := fun cs5 N u (h : QAt u g2 0 54 cs5 S N) (hN : N < 300000) => take_any g2 0 _ cs5 S N work u h hN hwo (fun b _ => by rw [H2.out.2.2.1]; trivial)
            generalize takeM S work = R at htk htk2
            obtain ⟨⟨rv, re⟩, rS⟩ := R
            dsimp only at htk htk2
            have HT := Lib.hid htk
            have HT2 := Lib.hid htk2
            have H8 := Lib.hid (And.intro (H7.out.1.below b8) (And.intro (H7.out.2.1.below b8) (bt H7.out.2.2 b8)))
            clear htk htk2 b8
            go_wp2_with fail
            refine HT.out.mono ?_
            rintro e w9 ⟨rfl, ⟨⟨cs9, hq9, _⟩, hg9⟩⟩
            have hqy9 := H8.out.2.1.far hg9 (fun e => H2.out.2.2.2.2.2 e.symm) H8.out.1.bk (by decide) (by decide)
            have hb9 := H8.out.2.2.grown hg9 H8.out.2.2.size (fun r e => by cases e; exact H2.out.2.2.2.1)
            have HT9 := Lib.hid (HT2.out _ _ w9 hqy9 (by omega))
            have H9 := Lib.hid (And.intro hq9 (And.intro hqy9 hb9))
            clear hq9 hqy9 hb9 hg9
            go_wp2_with fail
            refine HT9.out.mono ?_
            rintro e wa ⟨rfl, ⟨⟨csa, hqa, _⟩, hga⟩⟩
            have hq10 := H9.out.1.far hga H2.out.2.2.2.2.2 H9.out.2.1.bk (by decide) (by decide)
            have hb10 := H9.out.2.2.grown hga H9.out.2.2.size (fun r e => by cases e; exact H2.out.2.2.2.2.1)
            have H10 := Lib.hid (And.intro hq10 (And.intro hqa hb10))
            clear hq10 hqa hb10 hga
            have hrv : ((rv : Int) == (rv : Int)) = true := by simp
            go_wp2_with fail
            refine (alive_any wa).mono ?_
            rintro e wb ⟨rfl, bb⟩
            have hv11 := values_any g 0 _ cs9 rS _ wb (H10.out.1.below bb)
            obtain ⟨jl, hjl⟩ : ∃ jl, jl = rS.I.length := ⟨_, rfl⟩
            have hjl48 : jl ≤ 48 := by have := H10.out.1.iv.room; omega
            have HW2 := Lib.hid (fun u (hu : Below wb.heap.size wb u) => values_any g2 0 _ csa rS _ u ((H10.out.2.1.below bb).below hu))
            rw [← hjl] at hv11 HW2
            have HV11 := Lib.hid hv11
            have H11 := Lib.hid (And.intro (H10.out.1.below bb) (And.intro (H10.out.2.1.below bb) (bt H10.out.2.2 bb)))
            have Hjl := Lib.hid hjl
            clear hv11 bb hjl
            go_wp2_with fail
            refine HV11.out.mono ?_
            rintro e wc ⟨Ac, cc, rfl, ownc, bc⟩
            have HW2b := Lib.hid (HW2.out wc bc)
            have H12 := Lib.hid (And.intro ownc.at_ bc)
            clear ownc bc
            go_wp2_with fail
            refine HW2b.out.mono ?_
            rintro e wd ⟨Ad, cd, rfl, ownd, bd⟩
            have hsm := same_any Ac Ad (rS.I.map IT.v) (rS.I.map IT.v) jl jl cc cd wd (Lib.hid (by rw [List.length_map]; exact Hjl.out)) (Lib.hid (by rw [List.length_map]; exact Hjl.out)) (by omega) (H12.out.1.below bd) ownd.at_
            rw [decide_eq_true rfl] at hsm
            have HSm := Lib.hid hsm
            have H13 := Lib.hid (bt H12.out.2 bd)
            clear ownd bd hsm
            go_wp2_with fail
            refine HSm.out.mono ?_
            rintro e we ⟨rfl, be⟩
            have H14 := Lib.hid (bt H13.out be)
            have HN1 := Lib.hid (next_any g 0 _ cs9 rS _ we (H11.out.1.below H14.out))
            clear be
            go_wp2_with fail
            refine HN1.out.mono ?_
            rintro e wf ⟨rfl, rfl⟩
            have HN2 := Lib.hid (next_any g2 0 _ csa rS _ we (H11.out.2.1.below H14.out))
            go_wp2_with fail
            refine HN2.out.mono ?_
            rintro e wg ⟨rfl, rfl⟩
            have HF := Lib.hid (bt H11.out.2.2 H14.out)
            go_wp2
            go_ret
            exact ⟨by simp, HF.out⟩
        exact fun P h => h
  · rw [hbz] at hbu
    have HBu := Lib.hid hbu
    have HB := Lib.hid (bt H1.out.2.2.2.2 b2)
    clear hk2 b2 hgl2 hbu
    go_wp2_with fail
    refine HBu.out.mono ?_
    rintro e w3 ⟨rfl, b3⟩
    have HB3 := Lib.hid (bt HB.out b3)
    clear b3
    go_wp2_with fail
    refine (alive_any w3).mono ?_
    rintro e w4 ⟨rfl, b4⟩
    have HB4 := Lib.hid (bt HB3.out b4)
    clear b4
    go_wp2
    go_ret
    exact ⟨rfl, HB4.out⟩
end Go.Proofs.Ytfcafahgmnnlnaa.Qu
