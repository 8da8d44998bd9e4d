/- Layer 2: a tape behind calls. -/
import Derived.Test.YtjgemjgdioppdaaTAlive
import Derived.Test.YtjgemjgdioppdaaOpenT
namespace Go.Proofs.Ytjgemjgdioppdaa
open Go.RowKit
set_option linter.unusedVariables false

def playGo (room : Nat) : Nat → List OpV → List UInt8 → Nat → Option (List UInt8 × Nat)
  | 0, _, l, f => some (l, f)
  | _ + 1, [], l, f => some (l, f)
  | n + 1, o :: os, l, f => if 500 < o.b.length then none else playGo room n os (tapeStep room o.k o.n o.b l f).2.1 (tapeStep room o.k o.n o.b l f).2.2
/-- The bytes of the tape that is played, and how many are forced; none: there is no tape. -/
def playM (room : Int) (ops : List OpV) : Option (List UInt8 × Nat) := if 1 ≤ room ∧ room ≤ 65536 then playGo room.toNat 30 ops [] 0 else none

/-- Behind played: no tape; or a tape in new memory. -/
def PlayOut (room : Int) (r : Option (List UInt8 × Nat)) (w : World) (e : Ending) (w' : World) : Prop :=
  Below w.heap.size w w' ∧ ((r = none ∧ e = .returned (.pointer none)) ∨ ∃ p l f, r = some (l, f) ∧ e = .returned (.pointer (some ⟨p, 0, none⟩)) ∧ w.heap.size ≤ p ∧ TapeAt w' p room.toNat l f)

theorem drop_cons_get {α : Type} (l : List α) (j : Nat) (h : j < l.length) : l.drop j = l[j] :: l.drop (j + 1) := (List.drop_eq_getElem_cons h)

theorem new_ok' (room : Int) (n : Nat) (hr : room = n) (w : World) (h1 : 1 ≤ n) (h2 : n ≤ 65536) :
    Calls Try.prog 9 #[.int .i64 room] w fun e w' => e = .returned (.tuple #[.pointer (some ⟨w.heap.size, 0, none⟩), .int .i64 0]) ∧ TapeAt w' w.heap.size n [] 0 ∧ Below w.heap.size w w' := by
  subst hr; exact new_ok n w h1 h2

set_option maxHeartbeats 2000000 in
theorem played_ok (room : Nat) (A : Option Addr) (ops : List OpV) (c : Nat) (w : World) (h : OpsAt w A ops) (h1 : 1 ≤ room) (h2 : room ≤ 65536) (R : Option (List UInt8 × Nat)) (hR : Hid (R = playGo room 30 ops [] 0)) :
    Calls Try.prog 19 #[.int .i64 room, .slice A ops.length c] w (PlayOut room R w) := by
  have hlen := h.1
  unfold maxLen at hlen
  go_enter Try.func19, Try.ntmps19
  go_wp2_with fail
  refine (new_ok room _ h1 h2).mono ?_
  rintro e w1 ⟨rfl, hT1, hb1⟩
  go_wp2_with fail
  go_loopw [7] (fun i wr => ∃ (j : Nat) (l : List UInt8) (f : Nat), j ≤ ops.length ∧ j ≤ 30 ∧ i = .int .i64 j ∧ Hid (R = playGo room (30 - j) (ops.drop j) l f) ∧ TapeAt wr w.heap.size room l f ∧ Below w.heap.size w wr) (fun i _ => 30 - (intOf i).toNat)
  case atStart => exact ⟨0, [], 0, Nat.zero_le _, by omega, rfl, by simpa using hR, hT1, hb1⟩
  case round =>
    obtain ⟨j, l, f, hj, hj30, rfl, hr, hT, hb⟩ := hrel
    by_cases hjl : j < ops.length
    · by_cases hj3 : j < 30
      · obtain ⟨b, o, rfl, hlt, hcs⟩ := (h.below hb).2.2 (by omega)
        obtain ⟨q0, q1, q2⟩ := hcs j hjl
        obtain ⟨op, hop⟩ : ∃ op, op = ops[j] := ⟨_, rfl⟩
        rw [← hop] at q0 q1 q2
        have hok : OpOk wr op := by rw [hop]; exact (h.below hb).2.1 _ (List.getElem_mem _)
        have Hop := Lib.hid hop
        have hol := hok.len
        unfold maxLen at hol
        clear hop hcs
        by_cases hbl : op.b.length ≤ 500
        · go_wp2_with fail
          refine (call_tape op.k op.n op.A op.b op.c _ room l f _ hT hok.bs (by omega) hok.n1 hok.n2).mono ?_
          rintro e w2 ⟨rfl, hT2, hg2, hN2⟩
          have hb2 : Below w.heap.size w w2 := hb.grown hg2 hb.size (fun k hk => by cases hk; exact Nat.le_refl _)
          have hr2 : R = playGo room (30 - (j + 1)) (ops.drop (j + 1)) (tapeStep room op.k op.n op.b l f).2.1 (tapeStep room op.k op.n op.b l f).2.2 := by
            rw [hr.out, show 30 - j = (30 - (j + 1)) + 1 by omega, drop_cons_get ops j hjl, ← Hop.out, playGo, if_neg (by omega)]
          have Hr2 := Lib.hid hr2
          clear hr2 hr hN2 hg2 q0 q1 q2 hok hT
          go_wp2
          go_roundw
          case rel => exact ⟨j + 1, _, _, by omega, by omega, by go_num, Hr2, hT2, hb2⟩
          case measure => simp [intOf]; omega
        · have hr2 : R = none := by
            rw [hr.out, show 30 - j = (30 - (j + 1)) + 1 by omega, drop_cons_get ops j hjl, ← Hop.out, playGo, if_pos (by omega)]
          have Hr2 := Lib.hid hr2
          clear hr2 hr hok hT
          go_wp2
          go_ret
          exact ⟨hb, .inl ⟨Hr2.out, rfl⟩⟩
      · have hr2 : R = some (l, f) := by
          rw [hr.out, show 30 - j = 0 by omega, playGo]
        have Hr2 := Lib.hid hr2
        clear hr2 hr
        go_wp2
        go_ret
        exact ⟨hb, .inr ⟨_, l, f, Hr2.out, rfl, Nat.le_refl _, hT⟩⟩
    · have hr2 : R = some (l, f) := by
        rw [hr.out, show ops.drop j = [] from List.drop_of_length_le (by omega)]
        cases (30 - j) <;> rfl
      have Hr2 := Lib.hid hr2
      clear hr2 hr
      go_wp2
      go_ret
      exact ⟨hb, .inr ⟨_, l, f, Hr2.out, rfl, Nat.le_refl _, hT⟩⟩

set_option maxHeartbeats 1000000 in
theorem played_any (room : Int) (A : Option Addr) (ops : List OpV) (c : Nat) (w : World) (h : OpsAt w A ops) :
    Calls Try.prog 19 #[.int .i64 room, .slice A ops.length c] w (PlayOut room (playM room ops) w) := by
  by_cases hr : 1 ≤ room ∧ room ≤ 65536
  · obtain ⟨n, rfl⟩ := Int.eq_ofNat_of_zero_le (show 0 ≤ room by omega)
    exact played_ok n A ops c w h (by omega) (by omega) _ (Lib.hid (by unfold playM; rw [if_pos hr, Int.toNat_natCast]))
  · rw [show playM room ops = none from if_neg hr]
    have hb := new_bad room w (by omega)
    have Hb := Lib.hid hb
    clear hb hr
    go_enter Try.func19, Try.ntmps19
    go_wp2_with fail
    refine Hb.out.mono ?_
    rintro e w' ⟨rfl, rfl⟩
    go_wp2
    go_ret
    exact ⟨Below.refl _ _, .inl ⟨rfl, rfl⟩⟩
end Go.Proofs.Ytjgemjgdioppdaa
