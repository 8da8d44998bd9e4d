/- Layer 16: the document's Count. -/
import Derived.Test.YtmfjenhonghkpaaUy
namespace Go.Proofs.Ytmfjenhonghkpaa
open Go Go.RowKit
set_option linter.unusedVariables false
set_option linter.unusedSimpArgs false

/-- What the document counts, going on from nodes and a depth found. -/
def cntM : Nat → Nat → Nat → Fo → Nat × Nat
  | _, n, d, .nil => (n, d)
  | most, n, d, .cons _ k r => if n ≤ most then cntM most (n + (cntM (most - n) 1 1 k).1) (if d ≤ (cntM (most - n) 1 1 k).2 then (cntM (most - n) 1 1 k).2 + 1 else d) r else (n, d)
theorem cntM_bd : ∀ (f : Fo) (most n d : Nat), 1 ≤ d → d ≤ n → n ≤ most + 1 → 1 ≤ (cntM most n d f).2 ∧ (cntM most n d f).2 ≤ (cntM most n d f).1 ∧ (cntM most n d f).1 ≤ most + 1
  | .nil, most, n, d, h1, h2, h3 => ⟨h1, h2, h3⟩
  | .cons v k r, most, n, d, h1, h2, h3 => by
    simp only [cntM]
    by_cases h : n ≤ most
    · rw [if_pos h]
      have hk := cntM_bd k (most - n) 1 1 (by omega) (by omega) (by omega)
      refine cntM_bd r most _ _ ?_ ?_ ?_
      · split <;> omega
      · split <;> omega
      · omega
    · rw [if_neg h]; exact ⟨h1, h2, h3⟩

def RcOk (k : Fo) : Prop := ∀ (v : Int) (A : Option Addr) (m c most : Nat) (hm : Hid (m = k.len)) (w : World) (ht : TreeAt w A k) (hbd : most ≤ 1000000), Calls Try.prog 31 #[.agg #[.int .i64 v, .slice A m c], .int .i64 most] w fun e w' => e = .returned (.tuple #[.int .i64 ((cntM most 1 1 k).1 : Nat), .int .i64 ((cntM most 1 1 k).2 : Nat)]) ∧ Below w.heap.size w w'
def AllRc : Fo → Prop
  | .nil => True
  | .cons _ k r => RcOk k ∧ AllRc r
set_option maxRecDepth 100000 in
set_option maxHeartbeats 2000000 in
theorem rcount_tree (k : Fo) (hall : AllRc k) : RcOk k := by
  intro v A m c most hm w ht hbd
  obtain ⟨b0, o0, hA0⟩ : ∃ b0 o0, Hid (0 < k.len → A = some ⟨b0, o0, none⟩) := by
    have h := ht.fo
    cases k with
    | nil => exact ⟨0, 0, Lib.hid (fun h => by simp [Fo.len] at h)⟩
    | cons v0 k0 r0 =>
      obtain ⟨b, o, _, _, e, _⟩ := h
      exact ⟨b, o, Lib.hid (fun _ => e)⟩
  obtain ⟨W1, hW1⟩ : ∃ W1, W1 = w.alloc (.cells #[.int .i64 v, .slice A m c] 28) := ⟨_, rfl⟩
  have k1 : Blk W1 w.heap.size 28 #[.int .i64 v, .slice A m c] := by rw [hW1]; exact Blk.new _ _ _
  have b1 : Below w.heap.size w W1 := by rw [hW1]; exact ba _ _
  have HW1 := Lib.hid hW1
  have HK := Lib.hid (And.intro k1 (And.intro b1 (And.intro ht.len (And.intro hall (ht.fo.below b1)))))
  have Hbd := Lib.hid hbd
  clear hW1 k1 b1 ht hall hbd
  go_enter Try.func31, Try.ntmps31
  go_wp2_with fail
  rw [← HW1.out]
  go_loopw [6, 7, 8] (fun s d i wr => ∃ (i0 q e0 : Nat) (r : Fo), i0 + r.len = m ∧ i = .int .i64 i0 ∧ s = .int .i64 q ∧ d = .int .i64 e0 ∧ Hid (Blk wr w.heap.size 28 #[.int .i64 v, .slice A m c] ∧ Below w.heap.size w wr ∧ FoAt wr w.heap.size r (some ⟨b0, o0 + i0 * 2, none⟩) ∧ AllRc r ∧ 1 ≤ e0 ∧ e0 ≤ q ∧ q ≤ most + 1 ∧ cntM most q e0 r = cntM most 1 1 k)) (fun s d i _ => m - (intOf i).toNat)
  case atStart =>
    refine ⟨0, 1, 1, k, by rw [hm.out]; omega, rfl, rfl, rfl, Lib.hid ⟨HK.out.1, HK.out.2.1, ?_, HK.out.2.2.2.1, by omega, by omega, by omega, rfl⟩⟩
    have h := HK.out.2.2.2.2
    cases k with
    | nil => trivial
    | cons v0 k0 r0 => rw [hA0.out (by simp [Fo.len])] at h; simpa using h
  case round =>
    obtain ⟨i0, q, e0, r, hir, rfl, rfl, rfl, HR⟩ := hrel
    have c1 := HR.out.1.cell 1
    simp only [List.getElem?_toArray, List.getElem?_cons_zero, List.getElem?_cons_succ] at c1
    cases r with
    | nil =>
      simp only [Fo.len, Nat.add_zero] at hir
      subst hir
      have hiI : ¬ (i0 : Int) < (i0 : Int) := by omega
      go_wp2
      go_returns
      have hE := HR.out.2.2.2.2.2.2.2
      simp only [cntM] at hE
      exact ⟨by rw [← hE]; rfl, HR.out.2.1⟩
    | cons v2 k2 r2 =>
      obtain ⟨_, _, hfr, har, he1, heq, hqm, hE⟩ := HR.out
      obtain ⟨b, o, A2, c2, hAe, hbB, q0, q1, hk2m, hf2, hfr2⟩ := hfr
      obtain ⟨rfl, rfl⟩ : b0 = b ∧ o0 + i0 * 2 = o := by cases hAe; exact ⟨rfl, rfl⟩
      obtain rfl : A = some ⟨b0, o0, none⟩ := hA0.out (by rw [← hm.out]; simp only [Fo.len] at hir; omega)
      obtain ⟨m2, hm2⟩ : ∃ m2, m2 = k2.len := ⟨_, rfl⟩
      rw [← hm2] at q1
      have hmm : m ≤ 9223372036854775807 := by rw [hm.out]; have := HK.out.2.2.1; unfold maxLen at this; omega
      have him : i0 < m := by simp only [Fo.len] at hir; omega
      have hiI : (i0 : Int) < (m : Int) := by omega
      have hmI : ((i0 : Int) + 1) ≤ 9223372036854775807 := by omega
      rcases Nat.lt_or_ge most q with hq | hq
      · have hqI : ¬ (q : Int) ≤ (most : Int) := by omega
        have HE := Lib.hid hE
        clear hAe hbB q0 q1 hk2m hf2 hfr2 har hm2 hE
        go_wp2
        go_returns
        have hE := HE.out
        simp only [cntM] at hE
        rw [if_neg (by omega)] at hE
        exact ⟨by rw [← hE]; rfl, HR.out.2.1⟩
      have hqI : (q : Int) ≤ (most : Int) := by omega
      obtain ⟨p, hp⟩ : ∃ p, most = q + p := ⟨most - q, by omega⟩
      have hsub : IntKind.i64.wrap ((most : Int) - (q : Int)) = (p : Int) := by rw [IntWalk.i64_in _ (by have := Hbd.out; omega)]; omega
      have hcall := har.1 v2 A2 m2 c2 p (Lib.hid hm2) wr ⟨hk2m, FoAt.more (by have := HR.out.2.1.size; omega) _ _ hf2⟩ (by have := Hbd.out; omega)
      have hbk := cntM_bd k2 p 1 1 (by omega) (by omega) (by omega)
      simp only [cntM] at hE
      rw [if_pos hq, show most - q = p by omega] at hE
      obtain ⟨qq, dd, hqd⟩ : ∃ qq dd, cntM p 1 1 k2 = (qq, dd) := ⟨_, _, rfl⟩
      rw [hqd] at hcall hbk hE
      dsimp only at hcall hbk hE
      have hmx : most ≤ 1000000 := Hbd.out
      obtain ⟨z, hz⟩ : ∃ z, z = q + qq := ⟨_, rfl⟩
      have hadd : IntKind.i64.wrap ((q : Int) + (qq : Int)) = (z : Int) := by rw [IntWalk.i64_in _ (by omega)]; omega
      rw [← hz] at hE
      have HZ := Lib.hid hz
      clear hz
      have HC := Lib.hid hcall
      have hir2 : i0 + 1 + r2.len = m := by simp only [Fo.len] at hir; omega
      have HS := Lib.hid (And.intro har.2 (And.intro hfr2 (And.intro hir2 (And.intro hE (And.intro hbk (And.intro he1 (And.intro heq (And.intro hqm hp))))))))
      clear hcall hAe hbB hf2 hfr2 har hk2m hm2 hir hir2 hE hbk hqd he1 heq hqm hp hmm hmx
      go_wp2_with fail
      refine HC.out.mono ?_
      rintro e w2 ⟨rfl, bw⟩
      have hb2 := HR.out.2.1.trans (bw.mono HR.out.2.1.size)
      have kb2 := HR.out.1.below bw HR.out.1.lt
      have hfr3 := HS.out.2.1.below (bw.mono HR.out.2.1.size)
      have hi2 : o0 + (i0 + 1) * 2 = o0 + i0 * 2 + 2 := by omega
      have HX := Lib.hid (And.intro kb2 (And.intro hb2 hfr3))
      clear bw hb2 kb2 hfr3
      obtain ⟨hE, hbk, he1, heq, hqm, hp⟩ := HS.out.2.2.2
      rcases Nat.lt_or_ge dd e0 with hde | hde
      · have hdI : decide (e0 ≤ dd) = false := by simp; omega
        rw [if_neg (by omega)] at hE
        have HE := Lib.hid (And.intro hE (And.intro hbk (And.intro he1 (And.intro heq (And.intro hqm hp)))))
        clear hE hbk he1 heq hqm hp hde hq
        go_wp2
        go_roundw
        case rel => exact ⟨i0 + 1, z, e0, r2, HS.out.2.2.1, by go_num, rfl, rfl, Lib.hid ⟨HX.out.1, HX.out.2.1, by rw [hi2]; exact HX.out.2.2, HS.out.1, HE.out.2.2.1, by have := HZ.out; have := HE.out.2.2.2.1; omega, by have := HZ.out; have := HE.out.2.1; have := HE.out.2.2.2.2.2; omega, HE.out.1⟩⟩
        case measure => simp [intOf]; omega
      · have hdI : decide (e0 ≤ dd) = true := by simp; omega
        obtain ⟨x, hx⟩ : ∃ x, x = dd + 1 := ⟨_, rfl⟩
        have hadd2 : IntKind.i64.wrap ((dd : Int) + 1) = (x : Int) := by rw [IntWalk.i64_in _ (by have := Hbd.out; omega)]; omega
        rw [if_pos (by omega), ← hx] at hE
        have HE := Lib.hid (And.intro hx <| And.intro hE (And.intro hbk (And.intro he1 (And.intro heq (And.intro hqm hp)))))
        clear hE hbk he1 heq hqm hp hde hq hx
        go_wp2
        go_roundw
        case rel => exact ⟨i0 + 1, z, x, r2, HS.out.2.2.1, by go_num, rfl, rfl, Lib.hid ⟨HX.out.1, HX.out.2.1, by rw [hi2]; exact HX.out.2.2, HS.out.1, by have := HE.out.1; omega, by have := HZ.out; have := HE.out.1; have := HE.out.2.2.1; have := HE.out.2.2.2.1; have := HE.out.2.2.2.2.1; omega, by have := HZ.out; have := HE.out.2.2.1; have := HE.out.2.2.2.2.2.2; omega, HE.out.2.1⟩⟩
        case measure => simp [intOf]; omega
theorem rcount_all : ∀ k : Fo, AllRc k
  | .nil => trivial
  | .cons v k r => ⟨rcount_tree k (rcount_all k), rcount_all r⟩
theorem rcount_any (k : Fo) : RcOk k := rcount_tree k (rcount_all k)
end Go.Proofs.Ytmfjenhonghkpaa
