/- Layer 13: is a work there? May changes be a work's? A work is restored. -/
import Derived.Test.YtnpoicgincndkaaBj
namespace Go.Proofs.Ytnpoicgincndkaa
open Go.RowKit Go.Maps
set_option linter.unusedVariables false
set_option linter.unusedSimpArgs false

def hasL (L : List LRow) (o : Int) : Bool := L.any fun x => decide (x.2.1 = o)
theorem HeldKs.pos {L : List LRow} {o : Int} {ys : List Int} (h : HeldKs L o ys) : (0 < ys.length) ↔ hasL L o = true := by
  unfold hasL
  rw [List.any_eq_true]
  constructor
  · intro hp
    obtain ⟨y, hy⟩ := List.exists_mem_of_length_pos hp
    obtain ⟨x, hx, _, h2⟩ := held_iff.1 ((h.mem y).1 hy)
    exact ⟨x, hx, by simpa using h2⟩
  · rintro ⟨x, hx, h2⟩
    exact List.length_pos_of_mem ((h.mem x.1).2 (held_iff.2 ⟨x, hx, rfl, by simpa using h2⟩))
def busyB (S : KS) (n : Int) : Bool := (S.W n).isSome || hasL S.L n
theorem busy_nil (n : Int) (w : World) : Calls Try.prog 15 #[.pointer none, .int .i64 n] w fun e w' => e = .returned (.bool false) ∧ w = w' := by
  go_enter Try.func15, Try.ntmps15
  go_wp2
  go_ret
  exact ⟨rfl, rfl⟩
set_option maxRecDepth 100000 in
set_option maxHeartbeats 2000000 in
theorem busy_any (g : Nat) (tt : TypeId) (cs : Array Value) (S : KS) (N : Nat) (n : Int) (w : World) (h : KvAt w g tt cs S N) (hn : i64ok n) :
    Calls Try.prog 15 #[.pointer (some ⟨g, 0, none⟩), .int .i64 n] w fun e w' => e = .returned (.bool (busyB S n)) ∧ Below w.heap.size w w' := by
  obtain ⟨m, A, q, c, h32, hq, hc, _, r2⟩ := h.look hn
  have c32 := (h.bk.cell 32).trans h32
  generalize (curW S n).2 = pr at r2
  obtain ⟨w3, hw3⟩ : ∃ w3, w3 = w.alloc (.cells #[.slice A q c, .bool pr] 81) := ⟨_, rfl⟩
  have b3 : Below w.heap.size w w3 := by rw [hw3]; exact ba _ _
  have HH := Lib.hid (held_any g 33 tt cs S.L n w3 (h.below b3).tab)
  have HB := Lib.hid b3
  have HW3 := Lib.hid hw3
  rcases hs : (S.W n).isSome with _ | _
  · have hM : busyB S n = hasL S.L n := by unfold busyB; rw [hs]; rfl
    rw [hM]
    rw [hs] at r2
    clear h hq hc h32 hs hM hw3 b3
    go_enter Try.func15, Try.ntmps15
    go_wp2_with fail
    rw [← HW3.out]
    refine HH.out.mono ?_
    rintro e w4 ⟨A4, c4, ys, rfl, _, hks, b4⟩
    have hp := hks.pos
    have HF := Lib.hid (bt HB.out b4)
    obtain ⟨yl, hyl⟩ : ∃ yl, yl = ys.length := ⟨_, rfl⟩
    rw [← hyl] at hp ⊢
    rcases hb : hasL S.L n with _ | _
    · rw [hb] at hp
      have hI : ¬ (0 : Int) < (yl : Int) := by
        intro h; have := hp.1 (by omega); cases this
      have hD := Lib.hid (show decide (0 < yl) = false by simp; omega)
      have HBB := Lib.hid hb
      clear hp hks b4 c32 r2 hb hyl
      go_wp2
      go_ret
      exact ⟨by rw [HBB.out]; show Ending.returned (.bool (decide (0 < yl))) = _; rw [hD.out], HF.out⟩
    · have hI : (0 : Int) < (yl : Int) := by have := hp.2 hb; omega
      have hD := Lib.hid (show decide (0 < yl) = true by simp; omega)
      have HBB := Lib.hid hb
      clear hp hks b4 c32 r2 hb hyl
      go_wp2
      go_ret
      exact ⟨by rw [HBB.out]; show Ending.returned (.bool (decide (0 < yl))) = _; rw [hD.out], HF.out⟩
  · have hM : busyB S n = true := by unfold busyB; rw [hs]; rfl
    rw [hM]
    rw [hs] at r2
    clear h hq hc h32 hs hM hw3 b3
    go_enter Try.func15, Try.ntmps15
    go_wp2
    rw [← HW3.out]
    go_ret
    exact ⟨rfl, HB.out⟩

/-! ### may changes be a work's? -/
/-- A row of bools, whole. -/
def ArrB (w : World) (g : Nat) (M : Nat → Bool) : Prop := ∃ cs : Array Value, Blk w g 107 cs ∧ cs.size = 16 ∧ ∀ i, i < 16 → cs[i]? = some (.bool (M i))
theorem ArrB.cell {w : World} {g : Nat} {M : Nat → Bool} (h : ArrB w g M) (i : Nat) (hi : i < 16) : w.cell? ⟨g, i, none⟩ = some (.bool (M i)) := by
  obtain ⟨cs, h1, h2, h3⟩ := h
  rw [h1.cell, h3 i hi]
theorem ArrB.frozen {w : World} {g : Nat} {M : Nat → Bool} (h : ArrB w g M) (i : Nat) : w.frozen? ⟨g, i, none⟩ = false := by
  obtain ⟨cs, h1, h2, h3⟩ := h; exact h1.frozen i
theorem ArrB.below {w w' : World} {g : Nat} {M : Nat → Bool} (h : ArrB w g M) (hb : Below w.heap.size w w') : ArrB w' g M := by
  obtain ⟨cs, h1, h2, h3⟩ := h; exact ⟨cs, h1.below hb h1.lt, h2, h3⟩
def updS (M : Nat → Bool) (k : Nat) : Nat → Bool := fun j => if j = k then true else M j
theorem ArrB.set_ {w : World} {g : Nat} {M : Nat → Bool} (h : ArrB w g M) (i : Nat) (hi : i < 16) : ArrB (w.setCell ⟨g, i, none⟩ (.bool true)) g (updS M i) := by
  obtain ⟨cs, h1, h2, h3⟩ := h
  refine ⟨_, h1.set_ i _, by simp [h2], fun j hj => ?_⟩
  unfold updS
  by_cases hji : j = i
  · subst hji; rw [if_pos rfl, Array.getElem?_setIfInBounds_self_of_lt (by omega)]
  · rw [if_neg hji, Array.getElem?_setIfInBounds_ne (fun e => hji e.symm), h3 j hj]
theorem ArrB.lt {w : World} {g : Nat} {M : Nat → Bool} (h : ArrB w g M) : g < w.heap.size := h.choose_spec.1.lt
def kindB (x : Ch) : Bool := (x.k == 1) || (x.k == 2 && x.v == 0)
def areB : (Nat → Bool) → List Ch → Bool
  | _, [] => true
  | s, x :: l => kindB x && (keyB x.y && (!s x.y.toNat && areB (updS s x.y.toNat) l))
set_option maxRecDepth 100000 in
set_option maxHeartbeats 4000000 in
theorem are_any (A : Option Addr) (l : List Ch) (n c : Nat) (w : World) (hn : Hid (n = l.length)) (hm : n ≤ 1000000) {B : Nat → Prop} (h : ChAt w B A l) :
    Calls Try.prog 43 #[.slice A n c] w fun e w' => e = .returned (.bool (areB (fun _ => false) l)) ∧ Below w.heap.size w w' := by
  obtain ⟨w1, hw1⟩ : ∃ w1, w1 = w.alloc (.cells #[.bool false, .bool false, .bool false, .bool false, .bool false, .bool false, .bool false, .bool false, .bool false, .bool false, .bool false, .bool false, .bool false, .bool false, .bool false, .bool false] 107) := ⟨_, rfl⟩
  have b1 : Below w.heap.size w w1 := by rw [hw1]; exact ba _ _
  obtain ⟨gs, hgs⟩ : ∃ gs, gs = w.heap.size := ⟨_, rfl⟩
  have a1 : ArrB w1 gs (fun _ => false) := by
    rw [hw1, hgs]
    exact ⟨_, Blk.new _ _ _, rfl, fun i hi => match i, hi with | 0, _ => rfl | 1, _ => rfl | 2, _ => rfl | 3, _ => rfl | 4, _ => rfl | 5, _ => rfl | 6, _ => rfl | 7, _ => rfl | 8, _ => rfl | 9, _ => rfl | 10, _ => rfl | 11, _ => rfl | 12, _ => rfl | 13, _ => rfl | 14, _ => rfl | 15, _ => rfl | _ + 16, hi => absurd hi (by omega)⟩
  have H1 := Lib.hid (And.intro a1 (And.intro b1 (h.below b1)))
  have HW1 := Lib.hid hw1
  clear a1 b1 h hw1
  go_enter Try.func43, Try.ntmps43
  go_wp2_with fail
  rw [← HW1.out]
  rw [← hgs]
  have Hgs := Lib.hid hgs
  clear hgs HW1
  go_loopw [8] (fun i wr => ∃ (i0 : Nat) (M : Nat → Bool), i0 ≤ n ∧ i = .int .i64 i0 ∧ Hid (areB (fun _ => false) l = areB M (l.drop i0) ∧ ArrB wr gs M ∧ Below w.heap.size w wr ∧ ChAt wr B A l)) (fun i _ => n - (intOf i).toNat)
  case atStart => exact ⟨0, _, Nat.zero_le _, rfl, Lib.hid ⟨rfl, H1.out⟩⟩
  case round =>
    obtain ⟨i0, M, hi, rfl, HR⟩ := hrel
    by_cases hin : i0 < n
    · have hiI : (i0 : Int) < (n : Int) := by omega
      obtain ⟨hE, hM, hb, hc⟩ := HR.out
      have hil : i0 < l.length := by rw [← hn.out]; exact hin
      obtain ⟨b, o, rfl, hbk, hcs⟩ := hc (by omega)
      obtain ⟨q0, q1, q2⟩ := hcs i0 hil
      rw [List.drop_eq_getElem_cons hil] at hE
      obtain ⟨x, hx⟩ : ∃ x, x = l[i0]'hil := ⟨_, rfl⟩
      rw [← hx] at q0 q1 q2 hE
      obtain ⟨kd, y, v⟩ := x
      dsimp only at q0 q1 q2
      obtain ⟨wA, hwA⟩ : ∃ wA, wA = wr.alloc (.cells #[.int .i64 kd, .int .i64 y, .int .u64 (v : Nat)] 47) := ⟨_, rfl⟩
      have bA : Below wr.heap.size wr wA := by rw [hwA]; exact ba _ _
      have kA : Blk wA wr.heap.size 47 #[.int .i64 kd, .int .i64 y, .int .u64 (v : Nat)] := by rw [hwA]; exact Blk.new _ _ _
      have e0 := kA.cell 0
      have e1 := kA.cell 1
      have e2 := kA.cell 2
      simp only [List.getElem?_toArray, List.getElem?_cons_zero, List.getElem?_cons_succ] at e0 e1 e2
      have mA := hM.below bA
      have HA := Lib.hid (And.intro hE (And.intro mA (And.intro (bt hb bA) (hc.below bA))))
      have HWA := Lib.hid hwA
      have hgsl := mA.lt
      rw [hwA] at e0 e1 e2
      have hno : kindB ⟨kd, y, v⟩ = false → areB (fun _ => false) l = false := fun h => by rw [hE]; simp only [areB, h, Bool.false_and]
      have Hno := Lib.hid hno
      clear hE hM hb hc hbk hcs hx hil HR hwA bA kA mA hno
      have fin : Hid (Below w.heap.size w wA) := Lib.hid HA.out.2.2.1
      rcases k1 : (kd == 1) with _ | _
      · have k1n : (kd != 1) = true := by simp [bne, k1]
        rcases k2 : (kd == 2) with _ | _
        · have k2n : (kd != 2) = true := by simp [bne, k2]
          have hF : Hid (areB (fun _ => false) l = false) := Lib.hid (Hno.out (by unfold kindB; simp only [k1, k2]; rfl))
          go_wp2
          rw [← HWA.out]
          go_ret
          exact ⟨by rw [hF.out]; rfl, fin.out⟩
        · have k2n : (kd != 2) = false := by simp [bne, k2]
          rcases v0 : ((v : Int) != 0) with _ | _
          · have hk : Hid (kindB ⟨kd, y, v⟩ = true) := Lib.hid (by
              have : v = 0 := by simpa using v0
              unfold kindB; simp only [k1, k2, this]; rfl)
            rcases ky : keyB y with _ | _
            · have hF : Hid (areB (fun _ => false) l = false) := Lib.hid (by rw [HA.out.1]; simp only [areB, ky, Bool.false_and, Bool.and_false])
              go_wp2_with fail
              rw [← HWA.out]
              refine (kisKey_any y false ky wA).mono ?_
              rintro e u ⟨rfl, rfl⟩
              go_wp2
              go_ret
              exact ⟨by rw [hF.out]; rfl, fin.out⟩
            · obtain ⟨k, hk16, rfl⟩ := keyB_nat ky
              have hkI : (k : Int) < 16 := by omega
              have cM := HA.out.2.1.cell k hk16
              have fM := HA.out.2.1.frozen k
              rw [HWA.out] at cM fM
              rcases hs : M k with _ | _
              · rw [hs] at cM
                have hE2 : Hid (areB (fun _ => false) l = areB (updS M k) (l.drop (i0 + 1))) := Lib.hid (by
                  rw [HA.out.1]
                  simp only [areB, hk.out, ky, Int.toNat_natCast, hs, Bool.true_and, Bool.not_false])
                have HX : Hid (areB (fun _ => false) l = areB (updS M k) (l.drop (i0 + 1)) ∧ ArrB (wA.setCell ⟨gs, k, none⟩ (.bool true)) gs (updS M k) ∧ Below w.heap.size w (wA.setCell ⟨gs, k, none⟩ (.bool true)) ∧ ChAt (wA.setCell ⟨gs, k, none⟩ (.bool true)) B (some ⟨b, o, none⟩) l) := Lib.hid ⟨hE2.out, HA.out.2.1.set_ k hk16, HA.out.2.2.1.setCell (by have := Hgs.out; dsimp only; omega) _, HA.out.2.2.2.kept (lgrown_set _ ⟨gs, k, none⟩ _) HA.out.2.1.choose_spec.1 (of_decide_eq_true (by kernel_rfl))⟩
                rw [HWA.out] at HX
                go_wp2_with fail
                refine (kisKey_any (k : Int) true ky _).mono ?_
                rintro e u ⟨rfl, rfl⟩
                go_wp2
                go_roundw
                case rel => exact ⟨i0 + 1, _, by omega, by go_num, HX⟩
                case measure => simp [intOf]; omega
              · rw [hs] at cM
                have hF : Hid (areB (fun _ => false) l = false) := Lib.hid (by rw [HA.out.1]; simp only [areB, Int.toNat_natCast, hs, Bool.not_true, Bool.false_and, Bool.and_false])
                go_wp2_with fail
                refine (kisKey_any (k : Int) true ky _).mono ?_
                rintro e u ⟨rfl, rfl⟩
                go_wp2
                rw [← HWA.out]
                go_ret
                exact ⟨by rw [hF.out]; rfl, fin.out⟩
          · have hF : Hid (areB (fun _ => false) l = false) := Lib.hid (Hno.out (by
              have : (v == 0) = false := by simpa using v0
              unfold kindB; simp only [k1, k2, this]; rfl))
            go_wp2
            rw [← HWA.out]
            go_ret
            exact ⟨by rw [hF.out]; rfl, fin.out⟩
      · have k1n : (kd != 1) = false := by simp [bne, k1]
        have k2 : (kd == 2) = false := by
          have : kd = 1 := by simpa using k1
          subst this; rfl
        have hk : Hid (kindB ⟨kd, y, v⟩ = true) := Lib.hid (by unfold kindB; simp only [k1]; rfl)
        rcases ky : keyB y with _ | _
        · have hF : Hid (areB (fun _ => false) l = false) := Lib.hid (by rw [HA.out.1]; simp only [areB, ky, Bool.false_and, Bool.and_false])
          go_wp2_with fail
          rw [← HWA.out]
          refine (kisKey_any y false ky wA).mono ?_
          rintro e u ⟨rfl, rfl⟩
          go_wp2
          go_ret
          exact ⟨by rw [hF.out]; rfl, fin.out⟩
        · obtain ⟨k, hk16, rfl⟩ := keyB_nat ky
          have hkI : (k : Int) < 16 := by omega
          have cM := HA.out.2.1.cell k hk16
          have fM := HA.out.2.1.frozen k
          rw [HWA.out] at cM fM
          rcases hs : M k with _ | _
          · rw [hs] at cM
            have hE2 : Hid (areB (fun _ => false) l = areB (updS M k) (l.drop (i0 + 1))) := Lib.hid (by
              rw [HA.out.1]
              simp only [areB, hk.out, ky, Int.toNat_natCast, hs, Bool.true_and, Bool.not_false])
            have HX : Hid (areB (fun _ => false) l = areB (updS M k) (l.drop (i0 + 1)) ∧ ArrB (wA.setCell ⟨gs, k, none⟩ (.bool true)) gs (updS M k) ∧ Below w.heap.size w (wA.setCell ⟨gs, k, none⟩ (.bool true)) ∧ ChAt (wA.setCell ⟨gs, k, none⟩ (.bool true)) B (some ⟨b, o, none⟩) l) := Lib.hid ⟨hE2.out, HA.out.2.1.set_ k hk16, HA.out.2.2.1.setCell (by have := Hgs.out; dsimp only; omega) _, HA.out.2.2.2.kept (lgrown_set _ ⟨gs, k, none⟩ _) HA.out.2.1.choose_spec.1 (of_decide_eq_true (by kernel_rfl))⟩
            rw [HWA.out] at HX
            go_wp2_with fail
            refine (kisKey_any (k : Int) true ky _).mono ?_
            rintro e u ⟨rfl, rfl⟩
            go_wp2
            go_roundw
            case rel => exact ⟨i0 + 1, _, by omega, by go_num, HX⟩
            case measure => simp [intOf]; omega
          · rw [hs] at cM
            have hF : Hid (areB (fun _ => false) l = false) := Lib.hid (by rw [HA.out.1]; simp only [areB, Int.toNat_natCast, hs, Bool.not_true, Bool.false_and, Bool.and_false])
            go_wp2_with fail
            refine (kisKey_any (k : Int) true ky _).mono ?_
            rintro e u ⟨rfl, rfl⟩
            go_wp2
            rw [← HWA.out]
            go_ret
            exact ⟨by rw [hF.out]; rfl, fin.out⟩
    · obtain rfl : i0 = n := by omega
      have hiI : ¬ (i0 : Int) < (i0 : Int) := by omega
      have hT : Hid (areB (fun _ => false) l = true) := Lib.hid (by
        rw [HR.out.1, List.drop_of_length_le (by rw [hn.out]; exact Nat.le_refl _)]; rfl)
      have hF := Lib.hid HR.out.2.2.1
      clear HR
      go_wp2
      go_ret
      exact ⟨by rw [hT.out]; rfl, hF.out⟩
end Go.Proofs.Ytnpoicgincndkaa
