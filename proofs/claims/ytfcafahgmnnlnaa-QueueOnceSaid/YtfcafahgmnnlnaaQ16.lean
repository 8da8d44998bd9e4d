/- Layer 14: do changes fit the queue? -/
import Derived.Test.YtfcafahgmnnlnaaQ15
namespace Go.Proofs.Ytfcafahgmnnlnaa.Qu
open Go.RowKit Go.Maps Go.Deep
set_option linter.unusedVariables false
set_option linter.unusedSimpArgs false

def eqIT (a1 : Int) (a2 : Nat) (a3 b1 : Int) (b2 : Nat) (b3 : Int) : Bool := (a1 == b1) && ((a2 == b2) && (a3 == b3))
theorem neI (a1 : Int) (a2 : Nat) (a3 b1 : Int) (b2 : Nat) (b3 : Int) (w : World) : (binOp .neq 71 (.agg #[.int .i64 a1, .int .u64 (a2 : Nat), .int .i64 a3]) (.agg #[.int .i64 b1, .int .u64 (b2 : Nat), .int .i64 b3])).run Try.prog w = .ok (.bool (!eqIT a1 a2 a3 b1 b2 b3)) w := by
  rw [run_neq_struct, run_equalIn_struct w 9999 71 _ _ (by kernel_rfl) (by kernel_rfl)]
  unfold eqIT
  have hc : ((a2 : Int) == (b2 : Int)) = (a2 == b2) := by
    rw [Bool.eq_iff_iff, beq_iff_eq, beq_iff_eq]; omega
  rw [← hc]
  by_cases h1 : a1 = b1
  · by_cases h2 : (a2 : Int) = b2
    · by_cases h3 : a3 = b3
      · simp [Op.eqFields, Program.fieldsOf, Try.underlying71, go_sem, h1, h2, h3]
      · simp [Op.eqFields, Program.fieldsOf, Try.underlying71, go_sem, h1, h2, h3]
    · simp [Op.eqFields, Program.fieldsOf, Try.underlying71, go_sem, h1, h2]
  · simp [Op.eqFields, Program.fieldsOf, Try.underlying71, go_sem, h1]
theorem cell_drew' {w : World} {a : Addr} {v : Value} (h : w.cell? a = v) (m : Nat) : (w.drewN m).cell? a = v := h
def fitsQ : List IT → List Ch → Bool
  | _, [] => true
  | L, x :: r => if x.k = 3 then (x.y == 0) && fitsQ L r else if x.k = 4 then (match L with
    | [] => false
    | i :: L' => eqIT i.n i.v i.t x.y x.v 0 && fitsQ L' r) else false
/-- A list without its first. -/
theorem ItAt.tail {u : World} {x : IT} {L : List IT} {b o : Nat} (h : ItAt u anyB (some ⟨b, o, none⟩) (x :: L)) : ItAt u anyB (some ⟨b, o + 3, none⟩) L := fun hl => by
  obtain ⟨b', o', e, hb, hc⟩ := h (by simp)
  cases e
  refine ⟨b, o + 3, rfl, hb, fun i hi => ?_⟩
  have := hc (i + 1) (by simpa using hi)
  rw [show o + (i + 1) * 3 = o + 3 + i * 3 by omega] at this
  exact this
set_option maxRecDepth 100000 in
set_option maxHeartbeats 4000000 in
theorem fits_any (g of : Nat) (tt : TypeId) (cs : Array Value) (S : QS) (N : Nat) (A : Option Addr) (l : List Ch) (n c : Nat) (w : World) (h : QAt w g of tt cs S N) (hn : Hid (n = l.length)) (hm : n ≤ 1000000) (hL : InL w A l) :
    Calls Try.prog 47 #[.pointer (some ⟨g, of, none⟩), .slice A n c] w fun e w' => e = .returned (.bool (fitsQ S.I l)) ∧ Below w.heap.size w w' := by
  obtain ⟨A0, n0, c0, i1, i2, i3, i4, i5⟩ := h.it
  have hn48 : n0 ≤ 48 := by have := h.iv.room; omega
  have cg := (h.bk.cell of).trans i1
  obtain ⟨R, hR⟩ : ∃ R, R = fitsQ S.I l := ⟨_, rfl⟩
  rw [← hR]
  have HI : Hid (∃ L : List IT, R = fitsQ L (l.drop 0) ∧ n0 = L.length ∧ ItAt w anyB A0 L ∧ Below w.heap.size w w) := Lib.hid ⟨S.I, hR, i2, i5, Below.refl _ _⟩
  have HL := Lib.hid hL
  clear h i1 i2 i5 hR hL
  go_enter Try.func47, Try.ntmps47
  go_wp2_with fail
  go_loopw [14, 5] (fun i lf wr => ∃ (i0 nk ck : Nat) (Ak : Option Addr), i0 ≤ n ∧ i = .int .i64 i0 ∧ lf = .slice Ak nk ck ∧ nk ≤ ck ∧ ck ≤ 9223372036854775807 ∧ nk ≤ 48 ∧ Hid (∃ L : List IT, R = fitsQ L (l.drop i0) ∧ nk = L.length ∧ ItAt wr anyB Ak L ∧ Below w.heap.size w wr)) (fun i _ _ => n - (intOf i).toNat)
  case atStart => exact ⟨0, n0, c0, A0, Nat.zero_le _, rfl, rfl, i3, i4, hn48, HI⟩
  case round =>
    clear HI cg
    obtain ⟨i0, nk, ck, Ak, hi0, rfl, rfl, hnk, hck, hnk48, HR⟩ := hrel
    by_cases hiq : i0 < n
    · have hiI : (i0 : Int) < (n : Int) := by omega
      obtain ⟨L, hRL, hkl, hat, hb⟩ := HR.out
      have hil : i0 < l.length := by rw [← hn.out]; exact hiq
      obtain ⟨b, o, rfl, _, hcs⟩ := (HL.out.below hb) (by omega)
      obtain ⟨q0, q1, q2⟩ := hcs i0 hil
      rw [List.drop_eq_getElem_cons hil] at hRL
      obtain ⟨x, hx⟩ : ∃ x, x = l[i0]'hil := ⟨_, rfl⟩
      rw [← hx] at q0 q1 q2 hRL
      obtain ⟨kd, y, v⟩ := x
      dsimp only at q0 q1 q2
      obtain ⟨wA, hwA⟩ : ∃ wA, wA = wr.alloc (.cells #[.int .i64 kd, .int .i64 y, .int .u64 (v : Nat)] 49) := ⟨_, rfl⟩
      have bA : Below wr.heap.size wr wA := by rw [hwA]; exact ba _ _
      have kA : Blk wA wr.heap.size 49 #[.int .i64 kd, .int .i64 y, .int .u64 (v : Nat)] := by rw [hwA]; exact Blk.new _ _ _
      have a0 := kA.cell 0
      have a1 := kA.cell 1
      have a2 := kA.cell 2
      simp only [List.getElem?_toArray, List.getElem?_cons_zero, List.getElem?_cons_succ] at a0 a1 a2
      have hbA := bt hb bA
      have hatA := hat.below bA
      have HWA := Lib.hid hwA
      rw [hwA] at a0 a1 a2
      by_cases hk3 : kd = 3
      · subst hk3
        have hR3 : R = ((y == 0) && fitsQ L (l.drop (i0 + 1))) := by rw [hRL]; rfl
        by_cases hy : y = 0
        · subst hy
          have HN2 : Hid (∃ L : List IT, R = fitsQ L (l.drop (i0 + 1)) ∧ nk = L.length ∧ ItAt wA anyB Ak L ∧ Below w.heap.size w wA) := Lib.hid ⟨L, by rw [hR3]; simp, hkl, hatA, hbA⟩
          clear hcs hx hRL hR3 hkl hat hb hbA hatA hwA bA kA HR
          go_wp2
          rw [← HWA.out]
          go_roundw
          case rel => exact ⟨i0 + 1, nk, ck, Ak, by omega, by go_num, rfl, hnk, hck, hnk48, HN2⟩
          case measure => simp [intOf]; omega
        · have hyb : (y != 0) = true := by simp [hy]
          have HF : Hid (R = false ∧ Below w.heap.size w wA) := Lib.hid ⟨by rw [hR3]; simp [hy], hbA⟩
          clear hcs hx hRL hR3 hkl hat hb hbA hatA hwA bA kA HR
          go_wp2
          rw [← HWA.out]
          go_ret
          exact ⟨by rw [HF.out.1]; rfl, HF.out.2⟩
      · have hk3b : (kd == 3) = false := by simp [hk3]
        by_cases hk4 : kd = 4
        · subst hk4
          cases L with
          | nil =>
            have HF : Hid (R = false ∧ ∀ nq, Below w.heap.size w (wA.drewN nq)) := Lib.hid ⟨by rw [hRL]; rfl, fun nq => bt hbA ⟨rfl, rfl, rfl, Nat.le_refl _, fun _ _ => rfl⟩⟩
            obtain rfl : nk = 0 := hkl
            clear hcs hx hRL hat hb hbA hatA bA kA HR
            go_wp2_with fail
            rw [← HWA.out]
            clear hwA a0 a1 a2
            go_quiet (fail)
            go_wp2
            go_ret
            exact ⟨by rw [HF.out.1]; rfl, HF.out.2 _⟩
          | cons it L' =>
            obtain ⟨b2, o2, rfl, hbk2, hcs2⟩ := hatA (by simp)
            obtain ⟨p0, p1, p2⟩ := hcs2 0 (by simp)
            obtain ⟨xn, xv, xt⟩ := it
            simp only [Nat.zero_mul, Nat.add_zero, List.getElem_cons_zero] at p0 p1 p2
            have hnk1 : (nk : Int) ≠ 0 := by rw [hkl]; simp; omega
            have hnkb : ((nk : Int) == 0) = false := by simpa using hnk1
            have hnk0 : decide (0 < (nk : Int)) = true := by simp; rw [hkl]; simp
            have hR4 : R = (eqIT xn xv xt y v 0 && fitsQ L' (l.drop (i0 + 1))) := by rw [hRL]; rfl
            have hne := neI xn xv xt y v 0
            have t0 := fun m : Nat => cell_drew' p0 m
            have t1 := fun m : Nat => cell_drew' p1 m
            have t2 := fun m : Nat => cell_drew' p2 m
            have s1 := fun m : Nat => (show (wA.drewN m).cell? ⟨wr.heap.size, 1, none⟩ = some (.int .i64 y) from kA.cell 1)
            have s2 := fun m : Nat => (show (wA.drewN m).cell? ⟨wr.heap.size, 2, none⟩ = some (.int .u64 (v : Nat)) from kA.cell 2)
            have htl : ItAt wA anyB (some ⟨b2, o2 + 3, none⟩) L' := hatA.tail
            obtain ⟨ck1, rfl⟩ : ∃ ck1, ck = ck1 + 1 := ⟨ck - 1, by rw [hkl] at hnk; simp at hnk; omega⟩
            have hsl1 : (1 : Int) ≤ (nk : Int) := by omega
            have hsl2 : (nk : Int) ≤ ((ck1 + 1 : Nat) : Int) := by omega
            have HN2 : Hid (∀ nq, eqIT xn xv xt y v 0 = true → ∃ L : List IT, R = fitsQ L (l.drop (i0 + 1)) ∧ nk - 1 = L.length ∧ ItAt (wA.drewN nq) anyB (if ck1 = 0 then some ⟨b2, o2, none⟩ else some ⟨b2, o2 + 3, none⟩) L ∧ Below w.heap.size w (wA.drewN nq)) := Lib.hid (fun nq he => ⟨L', by rw [hR4, he]; simp, by rw [hkl]; simp, by
              by_cases e : ck1 = 0
              · intro hl; rw [hkl] at hnk; simp at hnk; omega
              · rw [if_neg e]; exact htl.below ⟨rfl, rfl, rfl, Nat.le_refl _, fun _ _ => rfl⟩, bt hbA ⟨rfl, rfl, rfl, Nat.le_refl _, fun _ _ => rfl⟩⟩)
            have HF : Hid (∀ nq, (eqIT xn xv xt y v 0 = false → R = false) ∧ Below w.heap.size w (wA.drewN nq)) := Lib.hid (fun nq => ⟨fun he => by rw [hR4, he]; rfl, bt hbA ⟨rfl, rfl, rfl, Nat.le_refl _, fun _ _ => rfl⟩⟩)
            generalize eqIT xn xv xt y v 0 = ez at hne HN2 HF
            clear hcs hx hRL hat hb hbA hatA hwA bA kA HR hkl hcs2 hbk2 p0 p1 p2 hR4 htl
            rcases ez with _ | _
            · go_wp2_with fail
              rw [← HWA.out]
              clear a0 a1 a2
              go_quiet (fail)
              have HF2 := Lib.hid (And.intro ((HF.out nq).1 (by first | exact rfl | trivial)) (HF.out nq).2)
              clear t0 t1 t2 s1 s2
              go_wp2
              go_ret
              exact ⟨by rw [HF2.out.1]; rfl, HF2.out.2⟩
            · go_wp2_with fail
              rw [← HWA.out]
              clear a0 a1 a2
              go_quiet (fail)
              have HN3 := Lib.hid (HN2.out nq (by first | exact rfl | trivial))
              clear t0 t1 t2 s1 s2 HN2
              go_wp2
              exact ⟨⟨i0 + 1, nk - 1, ck1, _, by omega, by go_num, rfl, by omega, by omega, by omega, HN3⟩, by simp [intOf]; omega⟩
        · have hk4b : (kd == 4) = false := by simp [hk4]
          have HF : Hid (R = false ∧ Below w.heap.size w wA) := Lib.hid ⟨by rw [hRL]; unfold fitsQ; rw [if_neg hk3, if_neg hk4], hbA⟩
          clear hcs hx hRL hkl hat hb hbA hatA hwA bA kA HR
          go_wp2
          rw [← HWA.out]
          go_ret
          exact ⟨by rw [HF.out.1]; rfl, HF.out.2⟩
    · obtain rfl : i0 = n := by omega
      have hiI : ¬ (i0 : Int) < (i0 : Int) := by omega
      have HF : Hid (R = true ∧ Below w.heap.size w wr) := Lib.hid (by
        obtain ⟨L, hRL, _, _, hb⟩ := HR.out
        rw [List.drop_of_length_le (by rw [← hn.out]; exact Nat.le_refl _)] at hRL
        exact ⟨by rw [hRL]; unfold fitsQ; rfl, hb⟩)
      clear HR
      go_wp2
      go_ret
      exact ⟨by rw [HF.out.1]; rfl, HF.out.2⟩
end Go.Proofs.Ytfcafahgmnnlnaa.Qu
