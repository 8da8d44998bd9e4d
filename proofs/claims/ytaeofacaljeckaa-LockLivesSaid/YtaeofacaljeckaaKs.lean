/- Layer 12: the document's table: does it clash, what is held, what is dropped. -/
import Derived.Test.YtaeofacaljeckaaKr
namespace Go.Proofs.Ytaeofacaljeckaa
open Go.RowKit Go.Maps
set_option linter.unusedVariables false
set_option linter.unusedSimpArgs false

def clash2 (x y : LRow) : Bool := decide (x.1 = y.1) && !decide (x.2.1 = y.2.1) && x.2.2
def clashR (L : List LRow) : Bool := L.any fun x => L.any fun y => clash2 x y
theorem clash2_iff {x y : LRow} : clash2 x y = true ↔ x.1 = y.1 ∧ x.2.1 ≠ y.2.1 ∧ x.2.2 = true := by
  unfold clash2; simp [and_assoc]
theorem clashR_iff {L : List LRow} : clashR L = true ↔ ¬ NoClash L := by
  unfold clashR
  rw [List.any_eq_true]
  constructor
  · rintro ⟨x, hx, h⟩ hn
    obtain ⟨y, hy, h⟩ := List.any_eq_true.1 h
    obtain ⟨h1, h2, h3⟩ := clash2_iff.1 h
    have := hn x hx y hy h1 h2
    rw [h3] at this; cases this
  · intro hn
    apply Classical.byContradiction
    intro hno
    refine hn fun x hx y hy h1 h2 => ?_
    cases ha : x.2.2 with
    | false => rfl
    | true => exact absurd ⟨x, hx, List.any_eq_true.2 ⟨y, hy, clash2_iff.2 ⟨h1, h2, ha⟩⟩⟩ hno
theorem clashR_no {L : List LRow} (h : ∀ x ∈ L, ∀ y ∈ L, clash2 x y = false) : clashR L = false := by
  unfold clashR
  rw [List.any_eq_false]
  intro x hx
  rw [Bool.not_eq_true, List.any_eq_false]
  intro y hy
  rw [h x hx y hy]; simp
theorem clash_same {L : List LRow} (h : NoClash L) (k o : Int) (a : Bool) : clashR (putL L k o (aloneL L k o || a)) = clashL L k o a := by
  cases hc : clashL L k o a with
  | false =>
    have := h.put hc
    cases hr : clashR (putL L k o (aloneL L k o || a)) with
    | false => rfl
    | true => exact absurd this (clashR_iff.1 hr)
  | true =>
    unfold clashL at hc
    obtain ⟨x, hx, hb⟩ := List.any_eq_true.1 hc
    simp only [Bool.and_eq_true, Bool.not_eq_true', decide_eq_true_eq, decide_eq_false_iff_not, Bool.or_eq_true] at hb
    rw [clashR_iff]
    intro hn
    have hx' : x ∈ putL L k o (aloneL L k o || a) := put_old hx (fun e => hb.1.2 e.2)
    rcases hb.2 with ha | ha
    · subst ha
      have := hn _ (put_new L k o _) x hx' hb.1.1.symm (fun e => hb.1.2 e.symm)
      simp at this
    · have := hn x hx' _ (put_new L k o _) hb.1.1 hb.1.2
      rw [ha] at this; cases this

set_option maxRecDepth 100000 in
set_option maxHeartbeats 2000000 in
theorem clashR_any (B x : Nat) (L : List LRow) (w : World) (h : RTab w B x L) (hl : L.length ≤ 100) :
    Calls Try.prog 25 #[.pointer (some ⟨x, 0, none⟩)] w fun e w' => e = .returned (.bool (clashR L)) ∧ Below w.heap.size w w' := by
  have hxl : x < w.heap.size := by obtain ⟨A, n, c, _, hk, _⟩ := h; exact hk.lt
  have H := Lib.hid h
  obtain ⟨n, hN⟩ : ∃ n, n = L.length := ⟨_, rfl⟩
  have HN := Lib.hid hN
  rw [← hN] at hl
  clear h hN
  go_enter Try.func25, Try.ntmps25
  go_wp2_with fail
  go_loopw [3] (fun i wr => ∃ j : Nat, j ≤ n ∧ i = .int .i64 j ∧ Hid (∀ i, (h : i < L.length) → i < j → ∀ y ∈ L, clash2 (L[i]'h) y = false) ∧ Below w.heap.size w wr) (fun i _ => n - (intOf i).toNat)
  case atStart => exact ⟨0, Nat.zero_le _, rfl, Lib.hid (fun i h h2 => by omega), Below.refl _ _⟩
  case round =>
    obtain ⟨j, hj, rfl, hno, hb⟩ := hrel
    obtain ⟨A, n1, c, hn, hk, hR⟩ := H.out.below hb
    have c0 := hk.cell 0
    simp only [List.getElem?_toArray, List.getElem?_cons_zero] at c0
    obtain rfl : n1 = n := hn.out.trans HN.out.symm
    clear hn hk hR
    by_cases hjn : j < n1
    · have hjI : (j : Int) < (n1 : Int) := by omega
      go_wp2_with fail
      go_loopw [4] (fun i wr => ∃ m : Nat, m ≤ n1 ∧ i = .int .i64 m ∧ Hid (∀ i, (h : i < L.length) → i < m → clash2 (L[j]'(by rw [← HN.out]; exact hjn)) (L[i]'h) = false) ∧ Below w.heap.size w wr) (fun i _ => n1 - (intOf i).toNat)
      case atStart => exact ⟨0, Nat.zero_le _, rfl, Lib.hid (fun i h h2 => by omega), hb⟩
      case round =>
        clear c0 hb
        obtain ⟨m, hm, rfl, hno2, hb⟩ := hrel
        obtain ⟨A', n', c', hn', hk, hR⟩ := H.out.below hb
        obtain rfl : n' = n1 := hn'.out.trans HN.out.symm
        by_cases hmn : m < n'
        · have hmI : (m : Int) < (n' : Int) := by omega
          have hjL : j < L.length := by rw [← HN.out]; exact hjn
          have hmL : m < L.length := by rw [← HN.out]; exact hmn
          obtain ⟨b, cs, rfl, _, hkb, hc⟩ := hR.at_ (by intro e; rw [e] at hjL; simp at hjL)
          obtain ⟨p0, p1, p2⟩ := hc j hjL
          obtain ⟨q0, q1, q2⟩ := hc m hmL
          rw [← hkb.cell] at p0 p1 p2 q0 q1 q2
          have c0 := hk.cell 0
          simp only [List.getElem?_toArray, List.getElem?_cons_zero] at c0
          have hyes : Hid (clash2 (L[j]'hjL) (L[m]'hmL) = true → clashR L = true) := Lib.hid (fun h1 => List.any_eq_true.2 ⟨_, List.getElem_mem hjL, List.any_eq_true.2 ⟨_, List.getElem_mem hmL, h1⟩⟩)
          have hstep : Hid (clash2 (L[j]'hjL) (L[m]'hmL) = false → ∀ i, (h : i < L.length) → i < m + 1 → clash2 (L[j]'hjL) (L[i]'h) = false) := Lib.hid (fun h1 i hi hij => by
            by_cases e : i = m
            · subst e; exact h1
            · exact hno2.out i hi (by omega))
          obtain ⟨z, hz⟩ : ∃ z, z = L[j]'hjL := ⟨_, rfl⟩
          obtain ⟨y, hy⟩ : ∃ y, y = L[m]'hmL := ⟨_, rfl⟩
          rw [← hz] at p0 p1 p2
          rw [← hy] at q0 q1 q2
          rw [← hz, ← hy] at hyes
          have HZ := Lib.hid (And.intro hz.symm hy.symm)
          clear hz hy
          obtain ⟨zk, zo, za⟩ := z
          obtain ⟨yk, yo, ya⟩ := y
          simp only at p0 p1 p2 q0 q1 q2 hyes
          have P0 := fun k : Nat => (show (wr.drewN k).cell? _ = _ from p0)
          have P1 := fun k : Nat => (show (wr.drewN k).cell? _ = _ from p1)
          have P2 := fun k : Nat => (show (wr.drewN k).cell? _ = _ from p2)
          have Q0 := fun k : Nat => (show (wr.drewN k).cell? _ = _ from q0)
          have Q1 := fun k : Nat => (show (wr.drewN k).cell? _ = _ from q1)
          have C0 := fun k : Nat => (show (wr.drewN k).cell? _ = _ from c0)
          have hbd : ∀ k, Below w.heap.size w (wr.drewN k) := fun k => ⟨hb.os, hb.tape, hb.output, hb.size, hb.block⟩
          clear hc hkb hk hR p0 p1 p2 q0 q1 q2
          by_cases h1 : zk = yk
          · subst h1
            by_cases h2 : zo = yo
            · subst h2
              have hs2 := Lib.hid (hstep.out (by rw [HZ.out.1, HZ.out.2]; simp [clash2]))
              clear hyes hstep HZ hno2
              go_wp2_with fail
              go_quiet (fail)
              have hb2 := hbd nq
              clear P0 P1 P2 Q0 Q1 C0 hbd
              go_wp2
              go_roundw
              case rel => exact ⟨m + 1, by omega, by go_num, hs2, hb2⟩
              case measure => simp [intOf]; omega
            · have e2 : (zo != yo) = true := by simp [h2]
              rcases za with _ | _
              · have hs2 := Lib.hid (hstep.out (by rw [HZ.out.1, HZ.out.2]; simp [clash2]))
                clear hyes hstep HZ hno2
                go_wp2_with fail
                go_quiet (fail)
                have hb2 := hbd nq
                clear P0 P1 P2 Q0 Q1 C0 hbd
                go_wp2
                go_roundw
                case rel => exact ⟨m + 1, by omega, by go_num, hs2, hb2⟩
                case measure => simp [intOf]; omega
              · have hY := hyes.out (clash2_iff.2 ⟨rfl, h2, rfl⟩)
                have HY := Lib.hid hY
                clear hyes hY hstep HZ hno2
                go_wp2_with fail
                go_quiet (fail)
                have hb2 := hbd nq
                clear P0 P1 P2 Q0 Q1 C0 hbd
                go_wp2
                go_ret
                exact ⟨by rw [HY.out]; rfl, hb2⟩
          · have e1 : (zk == yk) = false := by simp [h1]
            have hs2 := Lib.hid (hstep.out (by rw [HZ.out.1, HZ.out.2]; simp [clash2, h1]))
            clear hyes hstep HZ hno2
            go_wp2_with fail
            go_quiet (fail)
            have hb2 := hbd nq
            clear P0 P1 P2 Q0 Q1 C0 hbd
            go_wp2
            go_roundw
            case rel => exact ⟨m + 1, by omega, by go_num, hs2, hb2⟩
            case measure => simp [intOf]; omega
        · have hmI : ¬ (m : Int) < (n' : Int) := by omega
          have c0 := hk.cell 0
          simp only [List.getElem?_toArray, List.getElem?_cons_zero] at c0
          have hall : Hid (∀ i, (h : i < L.length) → i < j + 1 → ∀ y ∈ L, clash2 (L[i]'h) y = false) := Lib.hid (fun i hi hij y hy => by
            by_cases e : i = j
            · subst e
              obtain ⟨q, hq, rfl⟩ := List.mem_iff_getElem.1 hy
              exact hno2.out q hq (by have := HN.out; omega)
            · exact hno.out i hi (by omega) y hy)
          clear hno2 hk hR
          go_wp2
          go_roundw
          case rel => exact ⟨j + 1, by omega, by go_num, hall, hb⟩
          case measure => simp [intOf]; omega
    · have hjI : ¬ (j : Int) < (n1 : Int) := by omega
      have HR : Hid (clashR L = false) := Lib.hid (clashR_no fun x hx y hy => by
        obtain ⟨i, hi, rfl⟩ := List.mem_iff_getElem.1 hx
        exact hno.out i hi (by have := HN.out; omega) y hy)
      clear hno
      go_wp2
      go_ret
      exact ⟨by rw [HR.out]; rfl, hb⟩


theorem idx_same {L : List LRow} (h : LOk L) {i j : Nat} (hi : i < L.length) (hj : j < L.length) (h1 : (L[i]'hi).1 = (L[j]'hj).1) (h2 : (L[i]'hi).2.1 = (L[j]'hj).2.1) : i = j := by
  have hp := List.pairwise_iff_getElem.1 h.dis
  rcases Nat.lt_trichotomy i j with h3 | h3 | h3
  · exact absurd ⟨h1, h2⟩ (hp i j hi hj h3)
  · exact h3
  · exact absurd ⟨h1.symm, h2.symm⟩ (hp j i hj hi h3)
theorem alone_at {L : List LRow} (h : LOk L) {k o : Int} {i : Nat} (hi : i < L.length) (h1 : (L[i]'hi).1 = k) (h2 : (L[i]'hi).2.1 = o) : heldL L k o = true ∧ aloneL L k o = (L[i]'hi).2.2 := by
  refine ⟨held_iff.2 ⟨_, List.getElem_mem hi, h1, h2⟩, ?_⟩
  cases ha : (L[i]'hi).2.2 with
  | true => exact alone_iff.2 ⟨_, List.getElem_mem hi, h1, h2, ha⟩
  | false =>
    cases hal : aloneL L k o with
    | false => rfl
    | true =>
      obtain ⟨x, hx, x1, x2, x3⟩ := alone_iff.1 hal
      have := at_same h hx (List.getElem_mem hi) (x1.trans h1.symm) (x2.trans h2.symm)
      rw [this, ha] at x3; cases x3
theorem alone_no {L : List LRow} {k o : Int} (h : heldL L k o = false) : aloneL L k o = false := by
  cases hal : aloneL L k o with
  | false => rfl
  | true =>
    obtain ⟨x, hx, x1, x2, _⟩ := alone_iff.1 hal
    rw [held_iff.2 ⟨x, hx, x1, x2⟩] at h; cases h

set_option maxRecDepth 100000 in
set_option maxHeartbeats 1000000 in
theorem rholds_any (B x : Nat) (L : List LRow) (ow k : Int) (w : World) (h : RTab w B x L) (hl : L.length ≤ 100) (hok : LOk L) :
    Calls Try.prog 15 #[.pointer (some ⟨x, 0, none⟩), .int .i64 ow, .int .i64 k] w fun e w' => e = .returned (.tuple #[.bool (heldL L k ow), .bool (aloneL L k ow)]) ∧ Below w.heap.size w w' := by
  have hpl := place_any B x L ow k w h hl
  obtain ⟨hd, hhd⟩ : ∃ hd, hd = heldL L k ow := ⟨_, rfl⟩
  obtain ⟨al, hal⟩ : ∃ al, al = aloneL L k ow := ⟨_, rfl⟩
  rw [← hhd, ← hal]
  have Hhd := Lib.hid (And.intro hhd hal)
  clear hhd hal
  go_enter Try.func15, Try.ntmps15
  go_wp2_with fail
  refine hpl.mono ?_
  clear hpl
  rintro e w1 ⟨p, rfl, hp, rfl⟩
  have hbd : ∀ k, Below w.heap.size w (w.drewN k) := fun k => ⟨rfl, rfl, rfl, Nat.le_refl _, fun _ _ => rfl⟩
  rcases hp with ⟨rfl, hh⟩ | ⟨i, hi, rfl, h1, h2⟩
  · obtain rfl : hd = false := Hhd.out.1.trans hh
    obtain rfl : al = false := Hhd.out.2.trans (alone_no hh)
    clear h hh Hhd
    go_wp2_with fail
    go_quiet (fail)
    have hb2 := hbd nq
    clear hbd
    go_wp2
    go_ret2
    exact ⟨rfl, hb2⟩
  · obtain ⟨g1, g2⟩ := alone_at hok hi h1 h2
    obtain ⟨A, n, c, hn, hk, hR⟩ := h
    obtain ⟨b, cs, rfl, _, hkb, hc⟩ := hR.at_ (by intro e; rw [e] at hi; simp at hi)
    obtain ⟨q0, q1, q2⟩ := hc i hi
    rw [← hkb.cell] at q2
    have c0 := hk.cell 0
    simp only [List.getElem?_toArray, List.getElem?_cons_zero] at c0
    have hin : (i : Int) < (n : Int) := by have := hn.out; omega
    rw [← g2, ← Hhd.out.2] at q2
    obtain rfl : hd = true := Hhd.out.1.trans g1
    have Q2 := fun k : Nat => (show (w.drewN k).cell? _ = _ from q2)
    have C0 := fun k : Nat => (show (w.drewN k).cell? _ = _ from c0)
    have hi0 : decide ((i : Int) ≥ 0) = true := by simp
    have hi1 : (0 : Int) ≤ (i : Int) := by omega
    clear hc hkb hk hR q0 q1 q2 c0 hn g1 g2 h1 h2 Hhd
    go_wp2_with fail
    go_quiet (fail)
    have hb2 := hbd nq
    clear hbd Q2 C0
    go_wp2
    go_ret2
    exact ⟨rfl, hb2⟩

set_option maxRecDepth 100000 in
set_option maxHeartbeats 1000000 in
theorem rdrop_any (B x : Nat) (L : List LRow) (ow : Int) (w : World) (h : RTab w B x L) (hl : L.length ≤ 100) (hB : B ≤ w.heap.size) :
    Calls Try.prog 13 #[.pointer (some ⟨x, 0, none⟩), .int .i64 ow] w fun e w' => e = .returned (.int .i64 ((L.length : Int) - ((dropL L ow).length : Int))) ∧ RTab w' B x (dropL L ow) ∧ w.grownBy w' (some x) := by
  have hxl : x < w.heap.size := by obtain ⟨A, n, c, _, hk, _⟩ := h; exact hk.lt
  have H := Lib.hid h
  obtain ⟨n, hn⟩ : ∃ n, n = L.length := ⟨_, rfl⟩
  have HN := Lib.hid hn
  rw [← hn] at hl ⊢
  clear h hn
  go_enter Try.func13, Try.ntmps13
  go_wp2_with fail
  go_loopw [5, 6] (fun v i wr => ∃ (j n2 c2 : Nat) (A2 : Option Addr) (K : List LRow), v = .slice A2 n2 c2 ∧ Hid (n2 = K.length) ∧ n2 ≤ j ∧ j ≤ n ∧ i = .int .i64 j ∧ OwnL wr w.heap.size A2 c2 K ∧ (K = [] → A2 = none ∧ c2 = 0) ∧ Hid (K = dropL (L.take j) ow) ∧ Below w.heap.size w wr) (fun _ i _ => n - (intOf i).toNat)
  case atStart => exact ⟨0, 0, 0, none, [], rfl, rfl, Nat.le_refl _, Nat.zero_le _, rfl, World.ownsRow_nil _ _ _ _, fun _ => ⟨rfl, rfl⟩, rfl, Below.refl _ _⟩
  case round =>
    obtain ⟨j, n2, c2, A2, K, rfl, hn2, hnj, hj, rfl, hown, hz, hK, hb⟩ := hrel
    obtain ⟨A, n', c, hn', hk, hR⟩ := H.out.below hb
    obtain rfl : n' = n := hn'.out.trans HN.out.symm
    have c0 := hk.cell 0
    simp only [List.getElem?_toArray, List.getElem?_cons_zero] at c0
    by_cases hjn : j < n'
    · have hjI : (j : Int) < (n' : Int) := by omega
      have hjL : j < L.length := by rw [← HN.out]; exact hjn
      obtain ⟨b, cs, rfl, _, hkb, hc⟩ := hR.at_ (by intro e; rw [e] at hjL; simp at hjL)
      obtain ⟨q0, q1, q2⟩ := hc j hjL
      rw [← hkb.cell] at q0 q1 q2
      have hstep : dropL (L.take (j + 1)) ow = dropL (L.take j) ow ++ (if (L[j]'hjL).2.1 = ow then [] else [L[j]'hjL]) := by
        rw [take_snoc L j hjL]
        unfold dropL
        rw [List.filter_append]
        congr 1
        by_cases e : (L[j]'hjL).2.1 = ow <;> simp [e]
      rw [← hK.out] at hstep
      generalize L[j]'hjL = z at q0 q1 q2 hstep
      obtain ⟨zk, zo, za⟩ := z
      simp only at q0 q1 q2 hstep
      clear hc hkb hk hR hK hjL
      by_cases h1 : zo = ow
      · rw [if_pos h1, List.append_nil] at hstep
        have HS := Lib.hid hstep.symm
        clear hstep
        subst h1
        go_wp2
        go_roundw
        case rel => exact ⟨j + 1, n2, c2, A2, K, rfl, hn2, by omega, by omega, by go_num, hown, hz, HS, hb⟩
        case measure => simp [intOf]; omega
      · rw [if_neg h1] at hstep
        have HS := Lib.hid hstep.symm
        have e1 : (zo != ow) = true := by simp [h1]
        have hb3 := ba wr (.cells #[.int .i64 zk, .int .i64 zo, .bool za] 61)
        have hown3 := hown.kept (lbelow_grown hb3 none) (fun r e => by cases e)
        obtain ⟨A5, c5, w5, hrun, hE5, hg5⟩ := rows_more hown3 n2 hn2.out (by omega) (zk, zo, za) wr.heap.size (by have := hb.size; have := hb3.size; omega) (Blk.new wr _ _)
        have hB5 := (bt hb hb3).grown hg5 (by have := hb.size; have := hb3.size; omega) (fun r e => (World.ownsRow.lt hown3 r (by rw [ownBlock_slice]; exact e)).1)
        have Hn5 : Hid (n2 + 1 = (K ++ [(zk, zo, za)]).length) := Lib.hid (by rw [List.length_append, ← hn2.out]; rfl)
        have HE5 := Lib.hid (And.intro hE5 hB5)
        clear hstep hE5 hB5 hown3 hb3 hg5
        go_wp2_with (first
          | (at_builtin; refine wpList_append_run rfl (.tmp 27) (.tmp 35) 26 rfl _ _ _ w5 rfl rfl hrun ?_)
          | go_in)
        go_roundw
        case rel => exact ⟨j + 1, n2 + 1, c5, A5, _, rfl, Hn5, by omega, by omega, by go_num, HE5.out.1, fun e => by simp at e, HS, HE5.out.2⟩
        case measure => simp [intOf]; omega
    · have hjI : ¬ (j : Int) < (n' : Int) := by omega
      have hKK : K = dropL L ow := by rw [hK.out, List.take_of_length_le (by have := HN.out; omega)]
      subst hKK
      have hset := lgrown_set wr ⟨x, 0, none⟩ (.slice A2 n2 c2)
      have hR2 := (hown.rows hz).kept hset (fun r e => by cases e; exact .inl hxl)
      have hk2 := hk.set_ 0 (.slice A2 n2 c2)
      simp only [List.setIfInBounds_toArray, List.set_cons_zero] at hk2
      have hG := (lbelow_grown hb (some x)).andThen hset (fun r e => by cases e; exact .inr rfl)
      have f0 := hk.frozen 0
      have Hfin := Lib.hid (And.intro (show RTab (wr.setCell ⟨x, 0, none⟩ (.slice A2 n2 c2)) B x (dropL L ow) from ⟨A2, n2, c2, hn2, hk2, hR2.base hB⟩) hG)
      have HW : IntKind.i64.wrap ((n' : Int) - (n2 : Int)) = (n' : Int) - (n2 : Int) := IntWalk.i64_in _ (by omega)
      have Hn2 : Hid ((n2 : Int) = ((dropL L ow).length : Int)) := Lib.hid (by rw [hn2.out])
      clear hR2 hk2 hG hset hown hz hR hk hn' hK hn2
      go_wp2
      go_ret
      exact ⟨by rw [← Hn2.out]; rfl, Hfin.out⟩
end Go.Proofs.Ytaeofacaljeckaa
