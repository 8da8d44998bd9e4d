/- Layer 3: a log's calls. -/
import Derived.Test.YthaamnkihnbgaaaZc
import Derived.Test.YthaamnkihnbgaaaTapeApp
import Derived.Test.YthaamnkihnbgaaaNomade
namespace Go.Proofs.Ythaamnkihnbgaaa
open Go.RowKit
set_option linter.unusedVariables false
set_option linter.unusedSimpArgs false

/-- The pointer is nil, or leads to a log that no call made. -/
def LogNo (w : World) (v : Option Addr) : Prop := v = none ∨ ∃ p, v = some ⟨p, 0, none⟩ ∧ w.cell? ⟨p, 0, none⟩ = some (.pointer none)
theorem NotMade.below {w w' : World} {v : Option Addr} (h : NotMade w v) (hb : Below w.heap.size w w') : NotMade w' v := by
  rcases h with h | ⟨p, rfl, h⟩
  · exact .inl h
  · exact .inr ⟨p, rfl, (hb.cell (p := ⟨p, 0, none⟩) (World.block_lt_of_cell? _ _ h)).trans h⟩
theorem LogNo.below {w w' : World} {v : Option Addr} (h : LogNo w v) (hb : Below w.heap.size w w') : LogNo w' v := by
  rcases h with h | ⟨p, rfl, h⟩
  · exact .inl h
  · exact .inr ⟨p, rfl, (hb.cell (p := ⟨p, 0, none⟩) (World.block_lt_of_cell? _ _ h)).trans h⟩

set_option maxHeartbeats 400000 in
theorem logMade_no (v : Option Addr) (w : World) (h : LogNo w v) :
    Calls Try.prog 49 #[.pointer v] w fun e w' => e = .returned (.bool false) ∧ w = w' := by
  rcases h with rfl | ⟨p, rfl, h⟩
  · go_enter Try.func49, Try.ntmps49
    go_wp2
    go_ret
    exact ⟨rfl, rfl⟩
  · go_enter Try.func49, Try.ntmps49
    go_wp2
    go_ret
    exact ⟨rfl, rfl⟩
set_option maxHeartbeats 400000 in
theorem logMade_yes (q p : Nat) (w : World) (h : w.cell? ⟨q, 0, none⟩ = some (.pointer (some ⟨p, 0, none⟩))) :
    Calls Try.prog 49 #[.pointer (some ⟨q, 0, none⟩)] w fun e w' => e = .returned (.bool true) ∧ w = w' := by
  go_enter Try.func49, Try.ntmps49
  go_wp2
  go_ret
  exact ⟨rfl, rfl⟩

set_option maxHeartbeats 400000 in
theorem add_no (v : Option Addr) (k : Int) (A : Option Addr) (n c : Nat) (f : Bool) (w : World) (h : LogNo w v) :
    Calls Try.prog 26 #[.pointer v, .agg #[.int .i64 k, .slice A n c], .bool f] w fun e w' => e = .returned (.int .i64 6) ∧ Below w.heap.size w w' := by
  go_enter Try.func26, Try.ntmps26
  go_wp2_with fail
  refine (logMade_no v _ (h.below (ba _ _))).mono ?_
  rintro e w' ⟨rfl, rfl⟩
  go_wp2
  go_ret
  exact ⟨rfl, ba _ _⟩
set_option maxHeartbeats 400000 in
theorem swap_no (v : Option Addr) (A : Option Addr) (n c : Nat) (w : World) (h : LogNo w v) :
    Calls Try.prog 28 #[.pointer v, .slice A n c] w fun e w' => e = .returned (.int .i64 6) ∧ w = w' := by
  go_enter Try.func28, Try.ntmps28
  go_wp2_with fail
  refine (logMade_no v _ h).mono ?_
  rintro e w' ⟨rfl, rfl⟩
  go_wp2
  go_ret
  exact ⟨rfl, rfl⟩
set_option maxHeartbeats 400000 in
theorem records_no (v : Option Addr) (w : World) (h : LogNo w v) :
    Calls Try.prog 32 #[.pointer v] w fun e w' => e = .returned (.slice none 0 0) ∧ w = w' := by
  go_enter Try.func32, Try.ntmps32
  go_wp2_with fail
  refine (logMade_no v _ h).mono ?_
  rintro e w' ⟨rfl, rfl⟩
  go_wp2
  go_ret
  exact ⟨rfl, rfl⟩
set_option maxHeartbeats 400000 in
theorem room_no (v : Option Addr) (w : World) (h : LogNo w v) :
    Calls Try.prog 36 #[.pointer v] w fun e w' => e = .returned (.int .i64 0) ∧ w = w' := by
  go_enter Try.func36, Try.ntmps36
  go_wp2_with fail
  refine (logMade_no v _ h).mono ?_
  rintro e w' ⟨rfl, rfl⟩
  go_wp2
  go_ret
  exact ⟨rfl, rfl⟩

set_option maxHeartbeats 400000 in
theorem open_no (v : Option Addr) (w : World) (h : NotMade w v) :
    Calls Try.prog 22 #[.pointer v] w fun e w' => e = .returned (.tuple #[.pointer none, .slice none 0 0, .int .i64 6]) ∧ Below w.heap.size w w' := by
  go_enter Try.func22, Try.ntmps22
  go_wp2_with fail
  refine (noBytes v _ h).mono ?_
  rintro e w' ⟨rfl, rfl⟩
  go_wp2_with fail
  refine (read_any none [] 0 0 w (Lib.hid rfl) (Lib.hid (by omega)) (Lib.hid (by omega)) (Lib.hid (by omega)) Bs.nil).mono ?_
  rintro e w' ⟨A, c, rfl, hr, hb, _⟩
  have h1 := h.below hb
  go_wp2_with fail
  refine (noCut v _ _ h1).mono ?_
  rintro e w' ⟨rfl, rfl⟩
  go_wp2
  go_ret3
  exact ⟨rfl, hb⟩

/-- What opening makes. -/
def OpenO (w : World) (p room : Nat) (r : List (Int × List UInt8)) (l : List UInt8) (e : Ending) (w' : World) : Prop :=
  ∃ q A c, e = .returned (.tuple #[.pointer (some ⟨q, 0, none⟩), .slice A r.length c, .int .i64 0]) ∧ TapeAt w' p room l l.length ∧ RecsFrom w' w.heap.size A r ∧ w.grownBy w' (some p) ∧
    (∀ g, g < w.heap.size → BytesNot w p g → BytesNot w' p g) ∧ w.heap.size ≤ q ∧ w'.cell? ⟨q, 0, none⟩ = some (.pointer (some ⟨p, 0, none⟩))
theorem readL_le : ∀ (k : Nat) (b : List UInt8), (readL k b).2 ≤ b.length := by
  intro k
  induction k with
  | zero => intro b; exact Nat.zero_le _
  | succ k ih =>
    intro b
    rcases hf : frontR b with _ | ⟨i, d, n⟩
    · rw [readL_none hf]; exact Nat.zero_le _
    · rw [readL_some hf]
      have h1 := frontR_len hf
      have h2 := ih (b.drop n)
      rw [List.length_drop] at h2
      show n + _ ≤ _
      omega
theorem TapeAt.lt' {w : World} {p room f : Nat} {l : List UInt8} (h : TapeAt w p room l f) : p < w.heap.size := by obtain ⟨_, _, h, _⟩ := h.at_; exact h.lt
theorem bytesNot_below {w w' : World} {p g : Nat} (h : BytesNot w p g) (hb : Below w.heap.size w w') (hp : p < w.heap.size) : BytesNot w' p g := by
  intro r A n c f' hk hn
  unfold Blk at hk
  rw [hb.block p hp] at hk
  exact h r A n c f' hk hn

set_option maxHeartbeats 1000000 in
theorem open_any (p room : Nat) (l : List UInt8) (f : Nat) (w : World) (h : TapeAt w p room l f) :
    Calls Try.prog 22 #[.pointer (some ⟨p, 0, none⟩)] w (OpenO w p room (readR l).1 (l.take (readR l).2)) := by
  have hplt := h.lt'
  have hle : (readR l).2 ≤ l.length := readL_le _ _
  have hr2 := h.r2
  have hl1 := h.l1
  go_enter Try.func22, Try.ntmps22
  go_wp2_with fail
  refine (tapeBytes p room l f _ h).mono ?_
  rintro e w1 ⟨rfl, hr, hb1⟩
  have hT1 := h.below hb1
  go_wp2_with fail
  refine (read_any _ l l.length l.length w1 (Lib.hid rfl) (Lib.hid (by omega)) (Lib.hid (by omega)) (Lib.hid (by omega)) (hr.bs hr.lt)).mono ?_
  rintro e w2 ⟨A, c, rfl, hR, hb2, _⟩
  have hT2 := hT1.below hb2
  go_wp2_with fail
  refine (tapeCut_ok p room l f (readR l).2 _ hT2 hle).mono ?_
  rintro e w3 ⟨rfl, hT3, hg3, hn3⟩
  go_wp2_with fail
  refine (tapeForce p room _ _ _ hT3).mono ?_
  rintro e w4 ⟨rfl, hT4, hg4, hn4⟩
  have hbb := bt hb1 hb2
  have hs1 := hb1.size
  have hR4 := ((hR.base hs1).kept hg3 (fun r e => by cases e; exact hplt)).kept hg4 (fun r e => by cases e; exact hplt)
  go_wp2
  go_ret3
  have hb5 := ba w4 (.cells #[.pointer (some ⟨p, 0, none⟩)] 65)
  have hs2 := hb2.size
  have hs3 := hg3.size
  have hs4 := hg4.size
  refine ⟨w4.heap.size, A, c, rfl, hT4.below hb5, hR4.kept (gbelow hb5 none) (fun r e => by cases e), gtrans (gbelow hbb _) (gtrans hg3 (gtrans hg4 (gbelow hb5 _))), fun g hg hn => ?_, by omega, (Blk.new w4 _ _).cell 0⟩
  exact bytesNot_below (hn4 g (by omega) (hn3 g (by omega) (bytesNot_below hn hbb hplt))) hb5 hT4.lt'
end Go.Proofs.Ythaamnkihnbgaaa
