/- Layer 12: what the document's table says is held. -/
import Derived.Test.YtaeofacaljeckaaKt
namespace Go.Proofs.Ytaeofacaljeckaa
open Go.RowKit Go.Maps
set_option linter.unusedVariables false
set_option linter.unusedSimpArgs false

def Above (es : List Int) (k : Int) : Prop := ∀ e ∈ es, e < k
def Cand (L : List LRow) (o : Int) (es : List Int) (x : LRow) : Prop := x.2.1 = o ∧ Above es x.1
def MinAt (L : List LRow) (o : Int) (es : List Int) (m : Nat) (p : Int) : Prop :=
  (p = -1 ∧ ∀ i, (h : i < L.length) → i < m → ¬ Cand L o es (L[i]'h)) ∨
  ∃ i, ∃ h : i < L.length, p = (i : Int) ∧ Cand L o es (L[i]'h) ∧ ∀ i', (h' : i' < L.length) → i' < m → Cand L o es (L[i']'h') → (L[i]'h).1 ≤ (L[i']'h').1
structure HInv (L : List LRow) (o : Int) (es : List Int) : Prop where
  up : es.Pairwise (· < ·)
  mem : ∀ k ∈ es, heldL L k o = true
  all : ∀ k, heldL L k o = true → ¬ Above es k → k ∈ es
theorem MinAt.skip {L : List LRow} {o : Int} {es : List Int} {m : Nat} {p : Int} (h : MinAt L o es m p) (hm : m < L.length) (hno : ¬ Cand L o es (L[m]'hm)) : MinAt L o es (m + 1) p := by
  rcases h with ⟨rfl, h⟩ | ⟨i, hi, rfl, h1, h2⟩
  · refine .inl ⟨rfl, fun i hi him => ?_⟩
    by_cases e : i = m
    · subst e; exact hno
    · exact h i hi (by omega)
  · refine .inr ⟨i, hi, rfl, h1, fun i' hi' him hc => ?_⟩
    by_cases e : i' = m
    · subst e; exact absurd hc hno
    · exact h2 i' hi' (by omega) hc
theorem MinAt.stay {L : List LRow} {o : Int} {es : List Int} {m i : Nat} (h : MinAt L o es m (i : Int)) (hm : m < L.length) (hi : i < L.length) (hle : ¬ (L[m]'hm).1 < (L[i]'hi).1) : MinAt L o es (m + 1) (i : Int) := by
  rcases h with ⟨e, h⟩ | ⟨i2, hi2, e, h1, h2⟩
  · omega
  · obtain rfl : i = i2 := by omega
    refine .inr ⟨i, hi, rfl, h1, fun i' hi' him hc => ?_⟩
    by_cases e : i' = m
    · subst e; omega
    · exact h2 i' hi' (by omega) hc
theorem MinAt.take {L : List LRow} {o : Int} {es : List Int} {m : Nat} {p : Int} (h : MinAt L o es m p) (hm : m < L.length) (hc : Cand L o es (L[m]'hm)) (hlt : p = -1 ∨ ∃ i, ∃ hi : i < L.length, p = (i : Int) ∧ (L[m]'hm).1 < (L[i]'hi).1) : MinAt L o es (m + 1) (m : Int) := by
  refine .inr ⟨m, hm, rfl, hc, fun i' hi' him hc' => ?_⟩
  by_cases e : i' = m
  · subst e; exact Int.le_refl _
  · rcases h with ⟨e1, h⟩ | ⟨i2, hi2, e1, h1, h2⟩
    · exact absurd hc' (h i' hi' (by omega))
    · rcases hlt with e2 | ⟨i, hi, e2, h3⟩
      · omega
      · obtain rfl : i = i2 := by omega
        have := h2 i' hi' (by omega) hc'
        omega
theorem HInv.nil (L : List LRow) (o : Int) : HInv L o [] := ⟨List.Pairwise.nil, fun k h => (by cases h), fun k _ h => absurd (fun e he => (by cases he)) h⟩
theorem HInv.more {L : List LRow} {o : Int} {es : List Int} (h : HInv L o es) {i : Nat} (hi : i < L.length) (hM : MinAt L o es L.length (i : Int)) : HInv L o (es ++ [(L[i]'hi).1]) := by
  rcases hM with ⟨e, _⟩ | ⟨i2, hi2, e, h1, h2⟩
  · omega
  · obtain rfl : i = i2 := by omega
    refine ⟨List.pairwise_append.2 ⟨h.up, List.pairwise_singleton _ _, fun a ha b hb => by rw [List.mem_singleton] at hb; subst hb; exact h1.2 a ha⟩, fun k hk => ?_, fun k hk hn => ?_⟩
    · rcases List.mem_append.1 hk with hk | hk
      · exact h.mem k hk
      · rw [List.mem_singleton] at hk; subst hk
        exact held_iff.2 ⟨_, List.getElem_mem hi, rfl, h1.1⟩
    · by_cases ha : Above es k
      · have hle : ¬ (L[i]'hi).1 < k := fun hlt => hn fun e he => by
          rcases List.mem_append.1 he with he | he
          · exact ha e he
          · rw [List.mem_singleton] at he; subst he; exact hlt
        obtain ⟨x, hx, x1, x2⟩ := held_iff.1 hk
        obtain ⟨i', hi', rfl⟩ := List.mem_iff_getElem.1 hx
        have := h2 i' hi' (by omega) ⟨x2, by rw [x1]; exact ha⟩
        have : k = (L[i]'hi).1 := by omega
        rw [this]; simp
      · exact List.mem_append.2 (.inl (h.all k hk ha))
theorem HInv.done {L : List LRow} {o : Int} {es : List Int} (h : HInv L o es) (hM : MinAt L o es L.length (-1)) : HeldKs L o es := by
  rcases hM with ⟨_, hno⟩ | ⟨i, hi, e, _⟩
  · refine ⟨h.up, fun k => ⟨h.mem k, fun hk => h.all k hk fun ha => ?_⟩⟩
    obtain ⟨x, hx, x1, x2⟩ := held_iff.1 hk
    obtain ⟨i', hi', rfl⟩ := List.mem_iff_getElem.1 hx
    exact hno i' hi' hi' ⟨x2, by rw [x1]; exact ha⟩
  · omega
theorem HInv.full {L : List LRow} {o : Int} {es : List Int} (h : HInv L o es) (hl : es.length = L.length) : HeldKs L o es := by
  refine ⟨h.up, fun k => ⟨h.mem k, fun hk => ?_⟩⟩
  apply Classical.byContradiction
  intro hn
  have := nodup_le (k :: es) (L.map (·.1)) (List.nodup_cons.2 ⟨hn, h.up.imp (fun hab => by omega)⟩) (fun q hq => by
    have hq' : heldL L q o = true := by
      rcases List.mem_cons.1 hq with rfl | hq
      · exact hk
      · exact h.mem q hq
    obtain ⟨x, hx, x1, _⟩ := held_iff.1 hq'
    exact List.mem_map.2 ⟨x, hx, x1⟩)
  simp at this
  omega
theorem above_last {es : List Int} (h : es.Pairwise (· < ·)) {l : Nat} (hl : l + 1 = es.length) (k : Int) : Above es k ↔ (es[l]'(by omega)) < k := by
  constructor
  · intro ha; exact ha _ (List.getElem_mem _)
  · intro hk e he
    obtain ⟨i, hi, rfl⟩ := List.mem_iff_getElem.1 he
    by_cases hil : i = l
    · subst hil; exact hk
    · have := List.pairwise_iff_getElem.1 h i l hi (by omega) (by omega)
      omega
theorem EndsAt.cell_ {u : World} {B : Nat} {A : Option Addr} {c : Nat} {es : List Int} (h : EndsAt u B A c es) (i : Nat) (hi : i < es.length) : ∃ g, A = some ⟨g, 0, none⟩ ∧ g < u.heap.size ∧ u.cell? ⟨g, i, none⟩ = some (.int .i64 (es[i]'hi)) := by
  obtain ⟨g, cap, e⟩ := Joins.ownsRow_form h (by omega)
  cases e
  refine ⟨g, rfl, (h.lt' g rfl).2, ?_⟩
  rw [World.ownsRow.cellAt h i (by omega), List.getElem?_map, List.getElem?_eq_getElem hi]
  rfl

set_option maxRecDepth 100000 in
set_option maxHeartbeats 8000000 in
theorem rheld_any (B x : Nat) (L : List LRow) (ow : Int) (w : World) (h : RTab w B x L) (hl : L.length ≤ 64) :
    Calls Try.prog 18 #[.pointer (some ⟨x, 0, none⟩), .int .i64 ow] w (HeldO w L ow) := by
  have hxl : x < w.heap.size := by obtain ⟨A, n, c, _, hk, _⟩ := h; exact hk.lt
  have H := Lib.hid h
  obtain ⟨n, hn⟩ : ∃ n, n = L.length := ⟨_, rfl⟩
  have HN := Lib.hid hn
  rw [← hn] at hl
  clear h hn
  go_enter Try.func18, Try.ntmps18
  go_wp2_with fail
  go_loopw [5, 6] (fun v i wr => ∃ (j n2 c2 : Nat) (A2 : Option Addr) (es : List Int), v = .slice A2 n2 c2 ∧ Hid (n2 = es.length) ∧ n2 ≤ j ∧ j ≤ n ∧ i = .int .i64 j ∧ EndsAt wr w.heap.size A2 c2 es ∧ Hid (HInv L ow es) ∧ Hid (n2 = j ∨ HeldKs L ow es) ∧ Below w.heap.size w wr) (fun _ i _ => n - (intOf i).toNat)
  case atStart => exact ⟨0, 0, 0, none, [], rfl, rfl, Nat.le_refl _, Nat.zero_le _, rfl, EndsAt.nil _ _, Lib.hid (HInv.nil _ _), Lib.hid (.inl rfl), Below.refl _ _⟩
  case round =>
    obtain ⟨j, n2, c2, A2, es, rfl, hn2, hnj, hj, rfl, hE, hI, hcase, hb⟩ := hrel
    obtain ⟨A, n1, c, hn1, hk, hR⟩ := H.out.below hb
    obtain rfl : n1 = n := hn1.out.trans HN.out.symm
    have c0 := hk.cell 0
    simp only [List.getElem?_toArray, List.getElem?_cons_zero] at c0
    by_cases hjn : j < n1
    · have hjI : (j : Int) < (n1 : Int) := by omega
      clear hk hR hn1
      go_wp2_with fail
      go_loopw [7, 8] (fun p i wr => ∃ (m : Nat) (pz : Int), p = .int .i64 pz ∧ m ≤ n1 ∧ i = .int .i64 m ∧ Hid (MinAt L ow es m pz) ∧ EndsAt wr w.heap.size A2 c2 es ∧ Below w.heap.size w wr) (fun _ i _ => n1 - (intOf i).toNat)
      case atStart => exact ⟨0, -1, rfl, Nat.zero_le _, rfl, Lib.hid (.inl ⟨rfl, fun i _ h => by omega⟩), hE, hb⟩
      case round =>
        clear c0 hb hE
        obtain ⟨m, pz, rfl, hm, rfl, hM, hE, hb⟩ := hrel
        obtain ⟨A', n', c', hn', hk, hR⟩ := H.out.below hb
        obtain rfl : n' = n1 := hn'.out.trans HN.out.symm
        have c0 := hk.cell 0
        simp only [List.getElem?_toArray, List.getElem?_cons_zero] at c0
        by_cases hmn : m < n'
        · have hmI : (m : Int) < (n' : Int) := by omega
          have hmL : m < L.length := by rw [← HN.out]; exact hmn
          obtain ⟨b, cs, rfl, _, hkb, hc⟩ := hR.at_ (by intro e; rw [e] at hmL; simp at hmL)
          obtain ⟨q0, q1, q2⟩ := hc m hmL
          rw [← hkb.cell] at q0 q1 q2
          obtain ⟨z, hz⟩ : ∃ z, z = L[m]'hmL := ⟨_, rfl⟩
          rw [← hz] at q0 q1 q2
          have hskip : Hid (¬ Cand L ow es z → MinAt L ow es (m + 1) pz) := Lib.hid (fun hno => hM.out.skip hmL (hz ▸ hno))
          have htake : Hid (Cand L ow es z → (pz = -1 ∨ ∃ i, ∃ hi : i < L.length, pz = (i : Int) ∧ z.1 < (L[i]'hi).1) → MinAt L ow es (m + 1) (m : Int)) := Lib.hid (fun hcd hlt => hM.out.take hmL (hz ▸ hcd) (hz ▸ hlt))
          have hstay : Hid (∀ i, (hi : i < L.length) → pz = (i : Int) → ¬ z.1 < (L[i]'hi).1 → MinAt L ow es (m + 1) (i : Int)) := Lib.hid (fun i hi e hno => MinAt.stay (e ▸ hM.out) hmL hi (hz ▸ hno))
          obtain ⟨zk, zo, za⟩ := z
          simp only at q0 q1 q2 htake hstay
          have hcI : Hid (∀ i, (h : i < L.length) → wr.cell? ⟨b, i * 3, none⟩ = some (.int .i64 (L[i]'h).1)) := Lib.hid (fun i hi => (hkb.cell _).trans (hc i hi).1)
          have hbl := hkb.lt
          clear hc hkb hR hn' hz
          go_wp2_with fail
          have hb3 := ba wr (.cells #[.int .i64 zk, .int .i64 zo, .bool za] 61)
          have kx := Blk.new wr 61 #[.int .i64 zk, .int .i64 zo, .bool za]
          obtain ⟨bx, hbx⟩ : ∃ bx, bx = wr.heap.size := ⟨_, rfl⟩
          rw [← hbx] at kx ⊢
          generalize hw2 : wr.alloc (.cells #[.int .i64 zk, .int .i64 zo, .bool za] 61) = w2 at *
          clear hw2 hbx
          have hB2 : Below w.heap.size w w2 := bt hb hb3
          have hE2 := hE.kept (lbelow_grown hb3 none) (fun r e => by cases e)
          have x0 := kx.cell 0
          have x1 := kx.cell 1
          simp only [List.getElem?_toArray, List.getElem?_cons_zero, List.getElem?_cons_succ] at x0 x1
          have X0 := fun k : Nat => (show (w2.drewN k).cell? _ = _ from x0)
          have X1 := fun k : Nat => (show (w2.drewN k).cell? _ = _ from x1)
          have C0 := fun k : Nat => (show (w2.drewN k).cell? _ = _ from (hk.below hb3 hk.lt).cell 0)
          simp only [List.getElem?_toArray, List.getElem?_cons_zero] at C0
          have HC := Lib.hid (fun i (hi : i < L.length) (k : Nat) => (show (w2.drewN k).cell? ⟨b, i * 3, none⟩ = _ from (hb3.cell (p := ⟨b, i * 3, none⟩) hbl).trans (hcI.out i hi)))
          have hbd : ∀ k, Below w.heap.size w (w2.drewN k) := fun k => ⟨hB2.os, hB2.tape, hB2.output, hB2.size, hB2.block⟩
          have HEd := Lib.hid (fun k => hE2.kept (u' := w2.drewN k) ⟨rfl, rfl, rfl, Nat.le_refl _, fun _ _ _ => rfl⟩ (row := none) (fun r e => by cases e))
          clear q0 q1 q2 c0 hb hE hk hb3 kx hB2 x0 x1 hcI
          by_cases h1 : zo = ow
          · subst h1
            rcases Nat.eq_zero_or_pos n2 with h0 | hpos
            · subst h0
              have hce : es = [] := List.eq_nil_of_length_eq_zero hn2.out.symm
              have hcand : Hid (Cand L zo es (zk, zo, za)) := Lib.hid ⟨rfl, by rw [hce]; intro e he; cases he⟩
              clear hce
              have hMM := hM.out
              rcases hMM with ⟨rfl, hno⟩ | ⟨i, hi, rfl, hcd, hmin⟩
              · have hS := Lib.hid (htake.out hcand.out (.inl rfl))
                clear hno
                go_wp2_with fail
                go_quiet (fail)
                have hb2 := hbd nq
                have hE3 := HEd.out nq
                clear hbd HEd X0 X1 C0 HC htake hstay hskip hM
                go_wp2
                go_roundw
                case rel => exact ⟨m + 1, _, rfl, by omega, by go_num, hS, hE3, hb2⟩
                case measure => simp [intOf]; omega
              · have P0 := HC.out i hi
                have hi0 : ¬ (i : Int) < 0 := by omega
                have hi1 : decide ((i : Int) < 0) = false := decide_eq_false hi0
                have hin : (i : Int) < (n' : Int) := by have := HN.out; omega
                have hT := Lib.hid (fun hlt => htake.out hcand.out (.inr ⟨i, hi, rfl, hlt⟩))
                have hY := Lib.hid (hstay.out i hi rfl)
                generalize (L[i]'hi).1 = pk at P0 hT hY
                clear hcd hmin
                by_cases hlt : zk < pk
                · have hlt2 : decide (zk < pk) = true := decide_eq_true hlt
                  have hS := Lib.hid (hT.out hlt)
                  go_wp2_with fail
                  go_quiet (fail)
                  have hb2 := hbd nq
                  have hE3 := HEd.out nq
                  clear hbd HEd X0 X1 C0 HC htake hstay hskip hM P0
                  go_wp2
                  go_roundw
                  case rel => exact ⟨m + 1, _, rfl, by omega, by go_num, hS, hE3, hb2⟩
                  case measure => simp [intOf]; omega
                · have hlt2 : decide (zk < pk) = false := decide_eq_false hlt
                  have hS := Lib.hid (hY.out (by omega))
                  go_wp2_with fail
                  go_quiet (fail)
                  have hb2 := hbd nq
                  have hE3 := HEd.out nq
                  clear hbd HEd X0 X1 C0 HC htake hstay hskip hM P0
                  go_wp2
                  go_roundw
                  case rel => exact ⟨m + 1, _, rfl, by omega, by go_num, hS, hE3, hb2⟩
                  case measure => simp [intOf]; omega
            · obtain ⟨l, hl1⟩ : ∃ l, l + 1 = n2 := ⟨n2 - 1, by omega⟩
              have hle : l + 1 = es.length := by rw [hl1]; exact hn2.out
              obtain ⟨g, rfl, hgl, hcl⟩ := hE2.cell_ l (by omega)
              have hab := above_last hI.out.up hle zk
              obtain ⟨le, hle2⟩ : ∃ le, le = es[l]'(by omega) := ⟨_, rfl⟩
              rw [← hle2] at hcl hab
              have GL := fun k : Nat => (show (w2.drewN k).cell? _ = _ from hcl)
              have hw1 : IntKind.i64.wrap ((n2 : Int) - 1) = (l : Int) := by rw [IntWalk.i64_in _ (by omega)]; omega
              have hln : (l : Int) < (n2 : Int) := by omega
              have hl0 : (0 : Int) ≤ (l : Int) := by omega
              have hn20 : ((n2 : Int) == 0) = false := by simp; omega
              have hn21 : ¬ (n2 : Int) = 0 := by omega
              have Hab := Lib.hid hab
              clear hle2 hab hcl hle hl1 hE2
              by_cases hgt : le < zk
              · have hgt2 : decide (zk > le) = true := decide_eq_true hgt
                have hcand : Hid (Cand L zo es (zk, zo, za)) := Lib.hid ⟨rfl, Hab.out.2 hgt⟩
                have hMM := hM.out
                rcases hMM with ⟨rfl, hno⟩ | ⟨i, hi, rfl, hcd, hmin⟩
                · have hS := Lib.hid (htake.out hcand.out (.inl rfl))
                  clear hno
                  go_wp2_with fail
                  go_quiet (fail)
                  have hb2 := hbd nq
                  have hE3 := HEd.out nq
                  clear hbd HEd X0 X1 C0 HC htake hstay hskip hM GL
                  go_wp2
                  go_roundw
                  case rel => exact ⟨m + 1, _, rfl, by omega, by go_num, hS, hE3, hb2⟩
                  case measure => simp [intOf]; omega
                · have P0 := HC.out i hi
                  have hi0 : ¬ (i : Int) < 0 := by omega
                  have hi1 : decide ((i : Int) < 0) = false := decide_eq_false hi0
                  have hin : (i : Int) < (n' : Int) := by have := HN.out; omega
                  have hT := Lib.hid (fun hlt => htake.out hcand.out (.inr ⟨i, hi, rfl, hlt⟩))
                  have hY := Lib.hid (hstay.out i hi rfl)
                  generalize (L[i]'hi).1 = pk at P0 hT hY
                  clear hcd hmin
                  by_cases hlt : zk < pk
                  · have hlt2 : decide (zk < pk) = true := decide_eq_true hlt
                    have hS := Lib.hid (hT.out hlt)
                    go_wp2_with fail
                    go_quiet (fail)
                    have hb2 := hbd nq
                    have hE3 := HEd.out nq
                    clear hbd HEd X0 X1 C0 HC htake hstay hskip hM GL P0
                    go_wp2
                    go_roundw
                    case rel => exact ⟨m + 1, _, rfl, by omega, by go_num, hS, hE3, hb2⟩
                    case measure => simp [intOf]; omega
                  · have hlt2 : decide (zk < pk) = false := decide_eq_false hlt
                    have hS := Lib.hid (hY.out (by omega))
                    go_wp2_with fail
                    go_quiet (fail)
                    have hb2 := hbd nq
                    have hE3 := HEd.out nq
                    clear hbd HEd X0 X1 C0 HC htake hstay hskip hM GL P0
                    go_wp2
                    go_roundw
                    case rel => exact ⟨m + 1, _, rfl, by omega, by go_num, hS, hE3, hb2⟩
                    case measure => simp [intOf]; omega
              · have hgt2 : decide (zk > le) = false := decide_eq_false hgt
                have hgt3 : decide (le < zk) = false := decide_eq_false hgt
                have hS := Lib.hid (hskip.out (fun hcd => hgt (Hab.out.1 hcd.2)))
                go_wp2_with fail
                go_quiet (fail)
                have hb2 := hbd nq
                have hE3 := HEd.out nq
                clear hbd HEd X0 X1 C0 HC htake hstay hskip hM GL
                go_wp2
                go_roundw
                case rel => exact ⟨m + 1, _, rfl, by omega, by go_num, hS, hE3, hb2⟩
                case measure => simp [intOf]; omega
          · have e1 : (zo == ow) = false := by simp [h1]
            have hS := Lib.hid (hskip.out (fun hcd => h1 hcd.1))
            go_wp2_with fail
            go_quiet (fail)
            have hb2 := hbd nq
            have hE3 := HEd.out nq
            clear hbd HEd X0 X1 C0 HC htake hstay hskip hM
            go_wp2
            go_roundw
            case rel => exact ⟨m + 1, _, rfl, by omega, by go_num, hS, hE3, hb2⟩
            case measure => simp [intOf]; omega
        · have hmI : ¬ (m : Int) < (n' : Int) := by omega
          have hmm : m = L.length := by have := HN.out; omega
          rw [hmm] at hM
          have hMM := hM.out
          rcases hMM with ⟨rfl, hno⟩ | ⟨i, hi, rfl, hcd, hmin⟩
          · have hD := Lib.hid (hI.out.done hM.out)
            clear hno hM hk hR hn' hmm
            go_wp2
            go_roundw
            case rel => exact ⟨j + 1, n2, c2, A2, es, rfl, hn2, by omega, by omega, by go_num, hE, hI, Lib.hid (.inr hD.out), hb⟩
            case measure => simp [intOf]; omega
          · have hI2 := Lib.hid (hI.out.more hi hM.out)
            have hnew : Hid (n2 = j) := Lib.hid (by
              rcases hcase.out with e | hD
              · exact e
              · have hin := (hD.mem _).2 (held_iff.2 ⟨_, List.getElem_mem hi, rfl, hcd.1⟩)
                have := hcd.2 _ hin
                omega)
            obtain ⟨b, cs, rfl, _, hkb, hc⟩ := hR.at_ (by intro e; rw [e] at hi; simp at hi)
            have q0 := (hkb.cell (i * 3)).trans (hc i hi).1
            generalize (L[i]'hi).1 = pk at q0 hI2
            have hi0 : (i : Int) ≥ 0 := by omega
            have hi1 : decide ((i : Int) ≥ 0) = true := by simp
            have hin : (i : Int) < (n' : Int) := by have := HN.out; omega
            have hb3 := ba wr (.cells #[.int .i64 pk] 3)
            have hE3 := hE.kept (lbelow_grown hb3 none) (fun r e => by cases e)
            obtain ⟨A5, c5, w5, hrun, hE5, hg5⟩ := ends_more hE3 n2 hn2.out (by omega) pk wr.heap.size (by have := hb.size; have := hb3.size; omega) ((Blk.new wr 3 #[.int .i64 pk]).cell 0)
            have hB5 := (bt hb hb3).grown hg5 (by have := hb.size; have := hb3.size; omega) (fun r e => (hE3.lt' r e).1)
            have Hn5 : Hid (n2 + 1 = (es ++ [pk]).length) := Lib.hid (by rw [List.length_append, ← hn2.out]; rfl)
            have HE5 := Lib.hid (And.intro hE5 hB5)
            clear hE5 hB5 hE3 hb3 hg5 hmin hcd hM hk hR hn' hmm hc hkb
            go_wp2_with (at_builtin; refine wpList_append_run rfl (.tmp 75) (.tmp 84) 39 rfl _ _ _ w5 rfl rfl hrun ?_)
            go_roundw
            case rel => exact ⟨j + 1, n2 + 1, c5, A5, _, rfl, Hn5, by omega, by omega, by go_num, HE5.out.1, hI2, Lib.hid (.inl (by rw [hnew.out])), HE5.out.2⟩
            case measure => simp [intOf]; omega
    · have hjI : ¬ (j : Int) < (n1 : Int) := by omega
      have hD : HeldKs L ow es := by
        rcases hcase.out with e | hD
        · exact hI.out.full (by have := hn2.out; have := HN.out; omega)
        · exact hD
      have HD := Lib.hid hD
      clear hk hR hn1 hD
      go_wp2
      go_ret
      exact ⟨A2, c2, es, by rw [← hn2.out]; rfl, hE, HD.out, hb⟩
end Go.Proofs.Ytaeofacaljeckaa
