/- Layer 14: QueueOrder. -/
import Derived.Test.YtfcafahgmnnlnaaQ23
import Derived.Test.YtfcafahgmnnlnaaOpenQ
namespace Go.Proofs.Ytfcafahgmnnlnaa.Qu
open Go.RowKit Go.Maps Go.Deep
set_option linter.unusedVariables false
set_option linter.unusedSimpArgs false

theorem ixsF_app : ∀ (a b : List IT) (k : Nat), ixsF k (a ++ b) = ixsF k a ++ ixsF (k + a.length) b
  | [], b, k => by simp [ixsF]
  | x :: a, b, k => by
    simp only [List.cons_append, ixsF, ixsF_app a b (k + 1), List.length_cons]
    rw [show k + 1 + a.length = k + (a.length + 1) by omega]
theorem ixsF_mem : ∀ (a : List IT) (k : Nat) (x : Nat × IT), x ∈ ixsF k a → x.2 ∈ a
  | [], k, x, h => by cases h
  | y :: a, k, x, h => by
    rcases List.mem_cons.1 h with rfl | h
    · exact List.mem_cons_self ..
    · exact List.mem_cons_of_mem _ (ixsF_mem a _ x h)
theorem front_app (a b : List IT) (n : Int) (ha : ∀ x ∈ a, x.t = n) : frontR (a ++ b) n = match (ixsF a.length b).find? (fun x => decide (x.2.t ≠ n)) with
    | none => (0, 140)
    | some x => if x.2.t = 0 then (x.1, 0) else (0, 120) := by
  unfold frontR ixs
  rw [ixsF_app, List.find?_append, Nat.zero_add]
  have e : (ixsF 0 a).find? (fun x => decide (x.2.t ≠ n)) = none := by
    rw [List.find?_eq_none]
    intro x hx
    simp [ha _ (ixsF_mem a 0 x hx)]
  rw [e]
  rfl
theorem front_att (a : List IT) (x : IT) (b : List IT) (n : Int) (ha : ∀ x ∈ a, x.t = n) (hx : x.t ≠ n) : frontR (a ++ x :: b) n = if x.t = 0 then (a.length, 0) else (0, 120) := by
  rw [front_app a _ n ha]
  unfold ixsF
  rw [List.find?_cons_of_pos (by simpa using hx)]
theorem front_end (a : List IT) (n : Int) (ha : ∀ x ∈ a, x.t = n) : frontR a n = (0, 140) := by
  have := front_app a [] n ha
  rw [List.append_nil] at this
  rw [this]; rfl
theorem loadF_t : ∀ (l : List Nat) (k : Int) (x : IT), x ∈ loadF k l → x.t = 0
  | [], k, x, h => by cases h
  | v :: r, k, x, h => by
    rcases List.mem_cons.1 h with rfl | h
    · rfl
    · exact loadF_t r _ x h
theorem loadF_v : ∀ (l : List Nat) (k : Int), (loadF k l).map IT.v = l
  | [], k => rfl
  | v :: r, k => by simp [loadF, loadF_v r]
theorem givenI_v (L : List IT) (n : Int) (j : Nat) : (givenI L n j).map IT.v = L.map IT.v := by
  unfold givenI
  rw [List.map_append, List.map_map]
  have : (IT.v ∘ fun x : IT => ({ x with t := n } : IT)) = IT.v := rfl
  rw [this, ← List.map_append, List.take_append_drop]
def orderS (L : List IT) (g : Int) (j : Nat) : QS := ⟨anyB, givenI L 1 j, g, if j = 0 then [] else [⟨1, (L.take j).map (fun x => (⟨4, x.n, x.v⟩ : Ch)), false⟩]⟩
theorem order_cur (L : List IT) (g : Int) (j : Nat) : curQ (orderS L g j).ws 1 = ((L.take j).map (fun x => (⟨4, x.n, x.v⟩ : Ch)), false) := by
  unfold orderS
  dsimp only
  split
  · rename_i e; subst e; rfl
  · rfl
theorem order_open (L : List IT) (g : Int) (j : Nat) : openE (orderS L g j) 1 = 0 := by
  unfold openE
  rw [if_neg (by omega), order_cur]; rfl
theorem given_left (L : List IT) (j : Nat) : ∀ x ∈ (L.take j).map (fun x => ({ x with t := 1 } : IT)), x.t = 1 := by
  intro x hx
  obtain ⟨y, _, rfl⟩ := List.mem_map.1 hx
  rfl
theorem order_take (L : List IT) (g : Int) (j : Nat) (h : j < L.length) (ht : ∀ x ∈ L, x.t = 0) : takeM (orderS L g j) 1 = (((L[j]'h).v, 0), orderS L g (j + 1)) := by
  have hl : ((L.take j).map (fun x => ({ x with t := 1 } : IT))).length = j := by rw [List.length_map, List.length_take]; omega
  have e1 : L.drop j = L[j]'h :: L.drop (j + 1) := List.drop_eq_getElem_cons h
  have hI : (orderS L g j).I = (L.take j).map (fun x => ({ x with t := 1 } : IT)) ++ L[j]'h :: L.drop (j + 1) := by unfold orderS givenI; dsimp only; rw [e1]
  have h0 : (L[j]'h).t = 0 := ht _ (List.getElem_mem h)
  have hf : frontR (orderS L g j).I 1 = (j, 0) := by
    rw [hI, front_att _ _ _ 1 (given_left L j) (by rw [h0]; decide), if_pos h0, hl]
  have hat : (orderS L g j).I[j]? = some (L[j]'h) := by
    rw [hI, List.getElem?_append_right (by rw [hl]; exact Nat.le_refl _), hl, Nat.sub_self]; rfl
  unfold takeM
  rw [if_neg (by rw [order_open]; simp), hf]
  dsimp only
  rw [if_neg (by simp), hat]
  dsimp only
  congr 1
  have hI2 : giveI (orderS L g j).I j 1 = givenI L 1 (j + 1) := givenI_step L 1 j h
  have hw : addQ (orderS L g j).ws 1 ⟨4, (L[j]'h).n, (L[j]'h).v⟩ = [⟨1, (L.take (j + 1)).map (fun x => (⟨4, x.n, x.v⟩ : Ch)), false⟩] := by
    unfold addQ
    rw [order_cur]
    have e2 : L.take (j + 1) = L.take j ++ [L[j]'h] := by rw [List.take_add_one, List.getElem?_eq_getElem h]; rfl
    rw [e2, List.map_append]
    unfold orderS
    dsimp only
    split
    · rfl
    · rfl
  rw [hI2, hw]
  rfl
theorem order_empty (L : List IT) (g : Int) : takeM (orderS L g L.length) 1 = ((0, 140), orderS L g L.length) := by
  have hI : (orderS L g L.length).I = (L.take L.length).map (fun x => ({ x with t := 1 } : IT)) := by unfold orderS givenI; simp
  have hf : frontR (orderS L g L.length).I 1 = (0, 140) := by rw [hI]; exact front_end _ _ (given_left L _)
  unfold takeM
  rw [if_neg (by rw [order_open]; simp), hf, if_pos (by simp)]
theorem news_takes : ∀ (l : List IT) (g : Int), newsQ g (l.map (fun x => (⟨4, x.n, x.v⟩ : Ch))) = [] ∧ putsL (l.map (fun x => (⟨4, x.n, x.v⟩ : Ch))) = 0
  | [], g => ⟨rfl, rfl⟩
  | x :: r, g => ⟨by
      have := (news_takes r g).1
      rw [List.map_cons]; unfold newsQ; rw [if_neg (fun e => by cases e)]; exact this, by
      have := (news_takes r g).2
      unfold putsL at this ⊢
      rw [List.map_cons, List.filter_cons]; simp⟩
theorem order_commit (L : List IT) (g : Int) : (commitM (orderS L g L.length) 1).2.I = [] ∧ (commitM (orderS L g L.length) 1).2.g = g := by
  have hI : (orderS L g L.length).I = (L.take L.length).map (fun x => ({ x with t := 1 } : IT)) := by unfold orderS givenI; simp
  have hk : keptI (orderS L g L.length).I 1 = [] := by
    rw [hI]; unfold keptI
    rw [List.filter_eq_nil_iff]
    intro x hx
    simp [given_left L _ x hx]
  unfold commitM
  rw [if_neg (by omega), order_cur, hk, (news_takes _ _).1, (news_takes _ 0).2]
  exact ⟨rfl, by show g + ((0 : Nat) : Int) = g; omega⟩
set_option maxRecDepth 100000 in
set_option maxHeartbeats 4000000 in
theorem queueOrder_walk (A : Option Addr) (zs : List Nat) (c : Nat) (next : Int) (w : World) (hz : UAts w A zs) (hx1 : -9223372036854775808 ≤ next) (hx2 : next ≤ 9223372036854775807) :
    Calls Try.prog 7 #[.slice A zs.length c, .int .i64 next] w fun e w' => e = .returned (.bool true) ∧ Below w.heap.size w w' := by
  obtain ⟨n, hn⟩ : ∃ n, n = zs.length := ⟨_, rfl⟩
  rw [← hn]
  have HN := Lib.hid hn
  have HZ := Lib.hid hz.2
  have hnl : n ≤ 9223372036854775807 := by have := hz.1; rw [hn]; unfold maxLen at this; omega
  obtain ⟨g, hg⟩ : ∃ g, g = w.heap.size := ⟨_, rfl⟩
  have HG := Lib.hid hg
  clear hn hz
  go_enter Try.func7, Try.ntmps7
  go_wp2_with fail
  refine (new_any anyB w).mono ?_
  rintro e w1 ⟨rfl, ⟨cs, hk⟩, b1⟩
  rw [← hg] at hk ⊢
  have hl := load_any g 0 _ cs (QS.zero anyB) 0 A zs n c next w1 hk HN (HZ.out.below b1)
  by_cases hb : 16 < n ∨ next ≤ (n : Int) ∨ 4611686018427387904 < next
  · have hM : loadM (QS.zero anyB) zs next = (1, QS.zero anyB) := by unfold loadM; rw [if_neg (by simp [QS.zero]), if_pos (by rw [← HN.out]; exact hb)]
    rw [hM] at hl
    have HL := Lib.hid hl
    have HB := Lib.hid b1
    clear hl hM hk b1 hg hb
    go_wp2_with fail
    refine HL.out.mono ?_
    rintro e w2 ⟨rfl, ⟨_, hg2⟩⟩
    have HB2 := Lib.hid (HB.out.grown hg2 HB.out.size (fun r e => by cases e; have := HG.out; omega))
    clear hg2
    go_wp2_with fail
    refine (alive_any w2).mono ?_
    rintro e w3 ⟨rfl, b3⟩
    have HB3 := Lib.hid (bt HB2.out b3)
    clear b3
    go_wp2
    go_ret
    exact ⟨rfl, HB3.out⟩
  · obtain ⟨L, hL⟩ : ∃ L, L = loadF (next - zs.length) zs := ⟨_, rfl⟩
    have hM : loadM (QS.zero anyB) zs next = (0, orderS L (next - 1) 0) := by
      unfold loadM; rw [if_neg (by simp [QS.zero]), if_neg (by rw [← HN.out]; exact hb)]
      rw [← hL]
      unfold orderS
      rw [givenI_zero]; rfl
    have hok := (QOk.zero anyB).load zs next
    rw [hM] at hl hok
    have hn16 : n ≤ 16 := by omega
    have HL := Lib.hid hl
    have HB := Lib.hid b1
    have HX : Hid (L.length = n ∧ (∀ x ∈ L, x.t = 0) ∧ L.map IT.v = zs ∧ QOk (orderS L (next - 1) 0)) := Lib.hid ⟨by rw [hL, loadF_len, HN.out], fun x hx => loadF_t _ _ x (by rw [← hL]; exact hx), by rw [hL, loadF_v], hok⟩
    clear hl hM hk b1 hg hb hL hok
    go_wp2_with fail
    refine HL.out.mono ?_
    rintro e w2 ⟨rfl, ⟨⟨cs2, hk2, _⟩, hg2⟩⟩
    have HB2 := HB.out.grown hg2 HB.out.size (fun r e => by cases e; have := HG.out; omega)
    have HI : Hid ((∃ cs, QAt w2 g 0 54 cs (orderS L (next - 1) 0) (0 + 0)) ∧ QOk (orderS L (next - 1) 0) ∧ Below w.heap.size w w2) := Lib.hid ⟨⟨cs2, hk2⟩, HX.out.2.2.2, HB2⟩
    clear hk2 hg2 HB2
    go_wp2_with fail
    go_loopw [6] (fun i wr => ∃ (j : Nat), j ≤ n ∧ i = .int .i64 j ∧ Hid ((∃ cs, QAt wr g 0 54 cs (orderS L (next - 1) j) (0 + j)) ∧ QOk (orderS L (next - 1) j) ∧ Below w.heap.size w wr)) (fun i _ => n - (intOf i).toNat)
    case atStart => exact ⟨0, Nat.zero_le _, rfl, HI⟩
    case round =>
      clear HI
      obtain ⟨j, hj, rfl, HR⟩ := hrel
      by_cases hjn : j < n
      · have hjI : (j : Int) < (n : Int) := by omega
        obtain ⟨⟨cs', hk⟩, hok, hb⟩ := HR.out
        have hjL : j < L.length := by rw [HX.out.1]; exact hjn
        have hjz : j < zs.length := by rw [← HN.out]; exact hjn
        have hr := take_any g 0 _ cs' _ (0 + j) 1 wr hk (by omega) (small_ok _ (by omega) (by omega)) (fun b _ => trivial)
        have hok2 := hok.take hk.nd 1
        have hv : (L[j]'hjL).v = zs[j]'hjz := by
          have e : (L.map IT.v)[j]? = zs[j]? := by rw [HX.out.2.2.1]
          rw [List.getElem?_map, List.getElem?_eq_getElem hjL, List.getElem?_eq_getElem hjz] at e
          simpa using e
        rw [order_take L (next - 1) j hjL HX.out.2.1] at hr hok2
        rw [hv] at hr
        obtain ⟨v, hv2⟩ : ∃ v, v = zs[j]'hjz := ⟨_, rfl⟩
        dsimp only at hr hok2
        rw [← hv2] at hr
        have HC := Lib.hid hr
        have HB1 := Lib.hid (And.intro hb hok2)
        have HV := Lib.hid (And.intro hjz (show ∀ h : j < zs.length, v = zs[j]'h from fun h => hv2))
        clear hr hk hok hb hv hv2 hok2 hjL hjz
        go_wp2_with fail
        refine HC.out.mono ?_
        rintro e w3 ⟨rfl, ⟨⟨cs3, hk3, _⟩, hg3⟩⟩
        have hb3 := HB1.out.1.grown hg3 HB1.out.1.size (fun r e => by cases e; have := HG.out; omega)
        obtain ⟨b, o, rfl, hbl, hcs⟩ := HZ.out.below hb3 (by have := HV.out.1; omega)
        have q0 := hcs j HV.out.1
        rw [← HV.out.2 HV.out.1] at q0
        have HNx : Hid ((∃ cs, QAt w3 g 0 54 cs (orderS L (next - 1) (j + 1)) (0 + (j + 1))) ∧ QOk (orderS L (next - 1) (j + 1)) ∧ Below w.heap.size w w3) := Lib.hid ⟨⟨cs3, hk3⟩, HB1.out.2, hb3⟩
        have hvv : ((v : Int) != (v : Int)) = false := by simp
        clear hk3 hg3 hb3 hcs hbl
        go_wp2
        go_roundw
        case rel => exact ⟨j + 1, by omega, by go_num, HNx⟩
        case measure => simp [intOf]; omega
      · obtain rfl : j = n := by omega
        have hjI : ¬ (j : Int) < (j : Int) := by omega
        obtain ⟨⟨cs', hk⟩, hok, hb⟩ := HR.out
        have hr := take_any g 0 _ cs' _ (0 + j) 1 wr hk (by omega) (small_ok _ (by omega) (by omega)) (fun b _ => trivial)
        have e1 := order_empty L (next - 1)
        rw [HX.out.1] at e1
        rw [e1] at hr
        dsimp only at hr
        have HC := Lib.hid hr
        have HB1 := Lib.hid (And.intro hb hok)
        clear hr hk hok hb e1 HR
        go_wp2_with fail
        refine HC.out.mono ?_
        rintro e w3 ⟨rfl, ⟨⟨cs3, hk3, _⟩, hg3⟩⟩
        have hb3 := HB1.out.1.grown hg3 HB1.out.1.size (fun r e => by cases e; have := HG.out; omega)
        have hvl := values_any g 0 _ cs3 _ _ w3 hk3
        have e2 : (orderS L (next - 1) j).I.map IT.v = zs := by unfold orderS; dsimp only; rw [givenI_v]; exact HX.out.2.2.1
        have e3 : (orderS L (next - 1) j).I.length = j := by unfold orderS; dsimp only; rw [givenI_len]; exact HX.out.1
        rw [e2, e3] at hvl
        have HVl := Lib.hid hvl
        have HB3 := Lib.hid (And.intro hk3 hb3)
        clear hvl hk3 hg3 hb3 e2 e3
        go_wp2_with fail
        refine HVl.out.mono ?_
        rintro e w4 ⟨A4, c4, rfl, own4, b4⟩
        have hb4 := bt HB3.out.2 b4
        have hs := same_any A4 A zs zs j j c4 c w4 HN HN hnl own4.at_ (HZ.out.below hb4)
        rw [decide_eq_true rfl] at hs
        have HS := Lib.hid hs
        have HB4 := Lib.hid (And.intro (HB3.out.1.below b4) hb4)
        clear hs own4 b4 hb4
        go_wp2_with fail
        refine HS.out.mono ?_
        rintro e w5 ⟨rfl, b5⟩
        have hb5 := bt HB4.out.2 b5
        have hcm := commit_any g 0 _ cs3 _ _ 1 w5 (HB4.out.1.below b5) HB1.out.2 (by omega) (small_ok _ (by omega) (by omega))
        have hcI := order_commit L (next - 1)
        rw [HX.out.1] at hcI
        generalize commitM (orderS L (next - 1) j) 1 = R at hcm hcI
        obtain ⟨re, rS⟩ := R
        dsimp only at hcm hcI
        have HCm := Lib.hid hcm
        have HB5 := Lib.hid (And.intro hb5 hcI)
        clear hcm hb5 b5 hcI
        go_wp2_with fail
        refine HCm.out.mono ?_
        rintro e w6 ⟨rfl, ⟨⟨cs6, hk6, _⟩, hg6⟩⟩
        have hb6 := HB5.out.1.grown hg6 HB5.out.1.size (fun r e => by cases e; have := HG.out; omega)
        have HB6 := Lib.hid (And.intro hk6 hb6)
        clear hk6 hg6 hb6
        go_wp2_with fail
        refine (alive_any w6).mono ?_
        rintro e w7 ⟨rfl, b7⟩
        have hb7 := bt HB6.out.2 b7
        have hv7 := values_any g 0 _ cs6 rS _ w7 (HB6.out.1.below b7)
        rw [HB5.out.2.1] at hv7
        have HV7 := Lib.hid hv7
        have HB7 := Lib.hid (And.intro (HB6.out.1.below b7) hb7)
        clear hv7 b7 hb7
        go_wp2_with fail
        refine HV7.out.mono ?_
        rintro e w8 ⟨A8, c8, rfl, own8, b8⟩
        have hb8 := bt HB7.out.2 b8
        have hn8 := next_any g 0 _ cs6 rS _ w8 (HB7.out.1.below b8)
        rw [HB5.out.2.2, show next - 1 + 1 = next by omega] at hn8
        have HN8 := Lib.hid hn8
        have HB8 := Lib.hid hb8
        clear hn8 b8 hb8 own8
        go_wp2_with fail
        refine HN8.out.mono ?_
        rintro e w9 ⟨rfl, rfl⟩
        go_wp2
        go_ret
        exact ⟨by simp, HB8.out⟩
end Go.Proofs.Ytfcafahgmnnlnaa.Qu
