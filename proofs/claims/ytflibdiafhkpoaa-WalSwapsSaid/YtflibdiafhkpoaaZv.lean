/- Layer 3: a record is added to a log; a log's records. -/
import Derived.Test.YtflibdiafhkpoaaZk
import Derived.Test.YtflibdiafhkpoaaTapeApp
namespace Go.Proofs.Ytflibdiafhkpoaa
open Go.RowKit
set_option linter.unusedVariables false
set_option linter.unusedSimpArgs false

/-- What adding makes of a tape. -/
def addR (room : Nat) (l : List UInt8) (f : Nat) (k : Int) (d : List UInt8) (force : Bool) : Int × List UInt8 × Nat :=
  if (writeR k d).2 ≠ 0 then ((writeR k d).2, l, f) else if room < l.length + (writeR k d).1.length then (5, l, f) else (0, l ++ (writeR k d).1, bif force then (l ++ (writeR k d).1).length else f)
/-- The log at q keeps its records on the tape at p. -/
def LogAt (w : World) (q p : Nat) : Prop := w.cell? ⟨q, 0, none⟩ = some (.pointer (some ⟨p, 0, none⟩))
theorem LogAt.ne {w : World} {q p room f : Nat} {l : List UInt8} (h : LogAt w q p) (hT : TapeAt w p room l f) : q ≠ p := fun e => by
  subst e
  obtain ⟨A, c, hb, _⟩ := hT.at_
  have := hb.cell 0
  unfold LogAt at h
  rw [h] at this
  simp at this
theorem LogAt.below {w w' : World} {q p : Nat} (h : LogAt w q p) (hb : Below w.heap.size w w') : LogAt w' q p := (hb.cell (p := ⟨q, 0, none⟩) (World.block_lt_of_cell? _ _ h)).trans h
theorem LogAt.grown {w w' : World} {q p : Nat} (h : LogAt w q p) (hg : w.grownBy w' (some p)) (hne : q ≠ p) : LogAt w' q p := by
  have hlt : q < w.heap.size := World.block_lt_of_cell? _ _ h
  unfold LogAt World.cell? at h ⊢
  rw [hg.block q hlt (fun e => hne (by cases e; rfl))]
  exact h

set_option maxHeartbeats 1000000 in
theorem add_any (q p room : Nat) (l : List UInt8) (f : Nat) (k : Int) (A : Option Addr) (d : List UInt8) (n c : Nat) (force : Bool) (w : World) (hq : LogAt w q p) (hT : TapeAt w p room l f) (hn : n = d.length) (hm : n ≤ maxLen) (hbs : Bs w w.heap.size A d) :
    Calls Try.prog 26 #[.pointer (some ⟨q, 0, none⟩), .agg #[.int .i64 k, .slice A n c], .bool force] w (TapeOut w p room (addR room l f k d force)) := by
  have hb0 := ba w (.cells #[.int .i64 k, .slice A n c] 24)
  have hW := write_any k A d n c (w.alloc (.cells #[.int .i64 k, .slice A n c] 24)) hn hm (hbs.bt hb0)
  have hT0 := hT.below hb0
  have hq0 := hq.below hb0
  have hp := hT.lt'
  obtain ⟨R, hR⟩ : ∃ R, R = addR room l f k d force := ⟨_, rfl⟩
  rw [← hR]
  have HR := Lib.hid hR
  have HW := Lib.hid hW
  clear hR hW hn hm hbs
  go_enter Try.func26, Try.ntmps26
  go_wp2_with fail
  refine (logMade_yes q p _ hq0).mono ?_
  rintro e w' ⟨rfl, rfl⟩
  go_wp2_with fail
  refine HW.out.mono ?_
  rintro e w1 ⟨Ab, cb, rfl, hob, hb1⟩
  have hbb := bt hb0 hb1
  have hT1 := hT0.below hb1
  have hq1 := hq0.below hb1
  have hln := hbb.size
  by_cases h0 : (writeR k d).2 = 0
  · rw [h0]
    obtain ⟨S, hS⟩ : ∃ S, S = (writeR k d).1 := ⟨_, rfl⟩
    rw [← hS] at hob ⊢
    have hlen := hob.len
    have hap := tapeAppend p room l f Ab S cb w1 hT1 hob.bs (by unfold maxLen at hlen; omega)
    have HS := Lib.hid hS
    have hc1 : w1.cell? ⟨q, 0, none⟩ = some (.pointer (some ⟨p, 0, none⟩)) := hq1
    by_cases hroom : room < l.length + S.length
    · rw [if_pos hroom] at hap
      have HRR : Hid (R = (5, l, f)) := Lib.hid (by rw [HR.out]; unfold addR; rw [if_neg (by rw [h0]; simp), if_pos (by rw [← HS.out]; exact hroom)])
      clear hS h0 hroom hob
      go_wp2_with fail
      refine hap.mono ?_
      rintro e w2 ⟨rfl, hT2, hg2, hn2⟩
      go_wp2
      go_ret
      rw [HRR.out]
      exact ⟨rfl, hT2, gtrans (gbelow hbb _) hg2, fun g hg hn => hn2 g (by omega) (bytesNot_below hn hbb hp)⟩
    · rw [if_neg hroom] at hap
      cases force
      · have HRR : Hid (R = (0, l ++ S, f)) := Lib.hid (by rw [HR.out]; unfold addR; rw [if_neg (by rw [h0]; simp), if_neg (by rw [← HS.out]; exact hroom), ← HS.out]; rfl)
        clear hS h0 hroom hob
        go_wp2_with fail
        refine hap.mono ?_
        rintro e w2 ⟨rfl, hT2, hg2, hn2⟩
        go_wp2
        go_ret
        rw [HRR.out]
        exact ⟨rfl, hT2, gtrans (gbelow hbb _) hg2, fun g hg hn => hn2 g (by omega) (bytesNot_below hn hbb hp)⟩
      · have HRR : Hid (R = (0, l ++ S, (l ++ S).length)) := Lib.hid (by rw [HR.out]; unfold addR; rw [if_neg (by rw [h0]; simp), if_neg (by rw [← HS.out]; exact hroom), ← HS.out]; rfl)
        clear hS h0 hroom hob
        have hne := hq1.ne hT1
        go_wp2_with fail
        refine hap.mono ?_
        rintro e w2 ⟨rfl, hT2, hg2, hn2⟩
        have hc2 : w2.cell? ⟨q, 0, none⟩ = some (.pointer (some ⟨p, 0, none⟩)) := hq1.grown hg2 hne
        go_wp2_with fail
        refine (tapeForce p room _ _ _ hT2).mono ?_
        rintro e w3 ⟨rfl, hT3, hg3, hn3⟩
        have hs2 := hg2.size
        go_wp2
        go_ret
        rw [HRR.out]
        exact ⟨rfl, hT3, gtrans (gbelow hbb _) (gtrans hg2 hg3), fun g hg hn => hn3 g (by omega) (hn2 g (by omega) (bytesNot_below hn hbb hp))⟩
  · obtain ⟨e0, he0⟩ : ∃ e0, e0 = (writeR k d).2 := ⟨_, rfl⟩
    have HRR : Hid (R = (e0, l, f)) := Lib.hid (by rw [HR.out]; unfold addR; rw [if_pos h0, ← he0])
    rw [← he0] at h0 ⊢
    have hne : (e0 != 0) = true := bne_iff_ne.2 h0
    clear he0 h0
    go_wp2
    go_ret
    rw [HRR.out]
    exact ⟨rfl, hT1, gbelow hbb _, fun g hg hn => bytesNot_below hn hbb hp⟩

set_option maxHeartbeats 400000 in
theorem records_any (q p room : Nat) (l : List UInt8) (f : Nat) (w : World) (hq : LogAt w q p) (hT : TapeAt w p room l f) :
    Calls Try.prog 32 #[.pointer (some ⟨q, 0, none⟩)] w fun e w' => ∃ A c, e = .returned (.slice A (readR l).1.length c) ∧ RecsFrom w' w.heap.size A (readR l).1 ∧ Below w.heap.size w w' ∧ (readR l).1.length ≤ c := by
  have hr2 := hT.r2
  have hl1 := hT.l1
  have hc : w.cell? ⟨q, 0, none⟩ = some (.pointer (some ⟨p, 0, none⟩)) := hq
  go_enter Try.func32, Try.ntmps32
  go_wp2_with fail
  refine (logMade_yes q p _ hq).mono ?_
  rintro e w' ⟨rfl, rfl⟩
  go_wp2_with fail
  refine (tapeBytes p room l f _ hT).mono ?_
  rintro e w1 ⟨rfl, hr, hb1⟩
  go_wp2_with fail
  refine (read_any _ l l.length l.length w1 (Lib.hid rfl) (Lib.hid (by omega)) (Lib.hid (by omega)) (Lib.hid (by omega)) (hr.bs hr.lt)).mono ?_
  rintro e w2 ⟨A, c, rfl, hR, hb2, hcap⟩
  go_wp2
  go_ret
  exact ⟨A, c, rfl, hR.base hb1.size, bt hb1 hb2, hcap⟩
end Go.Proofs.Ytflibdiafhkpoaa
