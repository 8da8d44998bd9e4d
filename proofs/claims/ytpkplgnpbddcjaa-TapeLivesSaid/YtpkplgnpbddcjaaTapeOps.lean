/- Layer 2: the calls of a tape. -/
import Derived.Test.YtpkplgnpbddcjaaTape
namespace Go.Proofs.Ytpkplgnpbddcjaa
open Go.RowKit
set_option linter.unusedVariables false

/-- What a call answers, and leaves: 0 Append, 1 Force, 2 Crash, 3 Cut, 4 Swap. -/
def tapeStep (room : Nat) (k n : Int) (b : List UInt8) (l : List UInt8) (f : Nat) : Int × List UInt8 × Nat :=
  if k = 0 then (if room < l.length + b.length then (5, l, f) else (0, l ++ b, f))
  else if k = 1 then (0, l, l.length)
  else if k = 2 then (0, l.take (f + min n.toNat (l.length - f)), f + min n.toNat (l.length - f))
  else if k = 3 then (if n < 0 ∨ (l.length : Int) < n then (1, l, f) else (0, l.take n.toNat, min f n.toNat))
  else if k = 4 then (if room < b.length then (5, l, f) else (0, b, b.length))
  else (0, l, f)

/-- The tape's bytes, if there are any, do not lie in block g. -/
def BytesNot (w : World) (p g : Nat) : Prop := ∀ (r : Value) (A : Option Addr) (n c : Nat) (f : Value), Blk w p 42 #[r, .slice A n c, f] → 0 < n → blk A ≠ some g
theorem bn_new {w : World} {p g : Nat} {r f : Value} {A : Option Addr} {n c : Nat} (h : Blk w p 42 #[r, .slice A n c, f]) (hn : 0 < n → blk A ≠ some g) : BytesNot w p g := by
  intro r' A' n' c' f' h' hn'
  unfold Blk at h h'
  rw [h] at h'
  simp at h'
  obtain ⟨_, ⟨rfl, rfl, _⟩, _⟩ := h'
  exact hn hn'
/-- Behind a call of a tape: what it answers; the tape; of what was there only its own block has turned; its bytes lie where they lay, or in new memory. -/
def TapeOut (w : World) (p room : Nat) (r : Int × List UInt8 × Nat) (e : Ending) (w' : World) : Prop :=
  e = .returned (.int .i64 r.1) ∧ TapeAt w' p room r.2.1 r.2.2 ∧ w.grownBy w' (some p) ∧ ∀ g, g < w.heap.size → BytesNot w p g → BytesNot w' p g

theorem gset (w : World) (p i : Nat) (v : Value) : w.grownBy (w.setCell ⟨p, i, none⟩ v) (some p) :=
  ⟨rfl, rfl, rfl, by simp [World.setCell], fun k _ hk => Below.heap_setCell w _ v k (fun e => hk (by simp [e]))⟩
theorem gtrans {a b c : World} {row : Option Nat} (h : a.grownBy b row) (k : b.grownBy c row) : a.grownBy c row :=
  ⟨k.os.trans h.os, k.tape.trans h.tape, k.output.trans h.output, Nat.le_trans h.size k.size, fun i hi hn => (k.block i (Nat.lt_of_lt_of_le hi h.size) hn).trans (h.block i hi hn)⟩
theorem gbelow {a b : World} (h : Below a.heap.size a b) (row : Option Nat) : a.grownBy b row := ⟨h.os, h.tape, h.output, h.size, fun i hi _ => h.block i hi⟩
theorem gdrew {a b : World} {row : Option Nat} (h : a.grownBy b row) : a.grownBy b.drew row := ⟨h.os, h.tape, h.output, h.size, h.block⟩
theorem gdrewN {a b : World} {row : Option Nat} (h : a.grownBy b row) (n : Nat) : a.grownBy (b.drewN n) row := ⟨h.os, h.tape, h.output, h.size, h.block⟩

set_option maxHeartbeats 400000 in
theorem new_bad (room : Int) (w : World) (h : room < 1 ∨ 65536 < room) :
    Calls Try.prog 4 #[.int .i64 room] w fun e w' => e = .returned (.tuple #[.pointer none, .int .i64 1]) ∧ w = w' := by
  rcases h with h | h
  all_goals
    go_enter Try.func4, Try.ntmps4
    go_wp2
    go_ret2
    exact ⟨rfl, rfl⟩

set_option maxHeartbeats 400000 in
theorem new_ok (room : Nat) (w : World) (h1 : 1 ≤ room) (h2 : room ≤ 65536) :
    Calls Try.prog 4 #[.int .i64 room] w fun e w' => e = .returned (.tuple #[.pointer (some ⟨w.heap.size, 0, none⟩), .int .i64 0]) ∧ TapeAt w' w.heap.size room [] 0 ∧ Below w.heap.size w w' := by
  go_enter Try.func4, Try.ntmps4
  go_wp2
  go_ret2
  exact ⟨rfl, ⟨h1, h2, by simp, by simp, none, 0, Blk.new w _ _, Held.nil, by simp, by simp⟩, ba _ _⟩

set_option maxHeartbeats 400000 in
theorem tapeLen (p room : Nat) (l : List UInt8) (f : Nat) (w : World) (h : TapeAt w p room l f) : Calls Try.prog 11 #[.pointer (some ⟨p, 0, none⟩)] w fun e w' => e = .returned (.int .i64 l.length) ∧ w = w' := by
  have h1 := h.r1
  obtain ⟨A, c, hb, hh, hc⟩ := h.at_
  have c0 := hb.cell 0
  have c1 := hb.cell 1
  have c2 := hb.cell 2
  simp only [List.getElem?_toArray, List.getElem?_cons_zero, List.getElem?_cons_succ] at c0 c1 c2
  go_enter Try.func11, Try.ntmps11
  go_wp2_with fail
  refine (made_yes p room _ h1 c0).mono ?_
  rintro e w' ⟨rfl, rfl⟩
  go_wp2
  go_ret
  exact ⟨rfl, rfl⟩

set_option maxHeartbeats 400000 in
theorem tapeForced (p room : Nat) (l : List UInt8) (f : Nat) (w : World) (h : TapeAt w p room l f) : Calls Try.prog 12 #[.pointer (some ⟨p, 0, none⟩)] w fun e w' => e = .returned (.int .i64 f) ∧ w = w' := by
  have h1 := h.r1
  obtain ⟨A, c, hb, hh, hc⟩ := h.at_
  have c0 := hb.cell 0
  have c1 := hb.cell 1
  have c2 := hb.cell 2
  simp only [List.getElem?_toArray, List.getElem?_cons_zero, List.getElem?_cons_succ] at c0 c1 c2
  go_enter Try.func12, Try.ntmps12
  go_wp2_with fail
  refine (made_yes p room _ h1 c0).mono ?_
  rintro e w' ⟨rfl, rfl⟩
  go_wp2
  go_ret
  exact ⟨rfl, rfl⟩

set_option maxHeartbeats 400000 in
theorem tapeRoom (p room : Nat) (l : List UInt8) (f : Nat) (w : World) (h : TapeAt w p room l f) : Calls Try.prog 13 #[.pointer (some ⟨p, 0, none⟩)] w fun e w' => e = .returned (.int .i64 room) ∧ w = w' := by
  have h1 := h.r1
  obtain ⟨A, c, hb, hh, hc⟩ := h.at_
  have c0 := hb.cell 0
  have c1 := hb.cell 1
  have c2 := hb.cell 2
  simp only [List.getElem?_toArray, List.getElem?_cons_zero, List.getElem?_cons_succ] at c0 c1 c2
  go_enter Try.func13, Try.ntmps13
  go_wp2_with fail
  refine (made_yes p room _ h1 c0).mono ?_
  rintro e w' ⟨rfl, rfl⟩
  go_wp2
  go_ret
  exact ⟨rfl, rfl⟩

set_option maxHeartbeats 400000 in
theorem tapeBytes (p room : Nat) (l : List UInt8) (f : Nat) (w : World) (h : TapeAt w p room l f) : Calls Try.prog 9 #[.pointer (some ⟨p, 0, none⟩)] w fun e w' =>
    e = .returned (.slice (some ⟨w.heap.size, 0, none⟩) l.length l.length) ∧ Raw w' w.heap.size 5 l ∧ Below w.heap.size w w' := by
  have h1 := h.r1
  obtain ⟨A, c, hb, hh, hc, hc'⟩ := h.at_
  have c0 := hb.cell 0
  have c1 := hb.cell 1
  have c2 := hb.cell 2
  simp only [List.getElem?_toArray, List.getElem?_cons_zero, List.getElem?_cons_succ] at c0 c1 c2
  have z1 := hb.frozen 1
  have z2 := hb.frozen 2
  have hr2 := h.r2
  have hl1 := h.l1
  have hf1 := h.f1
  go_enter Try.func9, Try.ntmps9
  go_wp2_with fail
  refine (made_yes p room _ h1 c0).mono ?_
  rintro e w' ⟨rfl, rfl⟩
  go_wp2_with fail
  refine (lay_any none A [] l 0 c _ Bs.nil hh.bs (by simp; omega)).mono ?_
  rintro e w' ⟨rfl, hr, hb'⟩
  go_wp2
  go_ret
  exact ⟨rfl, hr, hb'⟩

set_option maxHeartbeats 400000 in
theorem tapeForce (p room : Nat) (l : List UInt8) (f : Nat) (w : World) (h : TapeAt w p room l f) : Calls Try.prog 15 #[.pointer (some ⟨p, 0, none⟩)] w (TapeOut w p room (0, l, l.length)) := by
  have h1 := h.r1
  obtain ⟨A, c, hb, hh, hc, hc'⟩ := h.at_
  have c0 := hb.cell 0
  have c1 := hb.cell 1
  have c2 := hb.cell 2
  simp only [List.getElem?_toArray, List.getElem?_cons_zero, List.getElem?_cons_succ] at c0 c1 c2
  have z1 := hb.frozen 1
  have z2 := hb.frozen 2
  have hr2 := h.r2
  have hl1 := h.l1
  have hf1 := h.f1
  go_enter Try.func15, Try.ntmps15
  go_wp2_with fail
  refine (made_yes p room _ h1 c0).mono ?_
  rintro e w' ⟨rfl, rfl⟩
  go_wp2
  go_ret
  exact ⟨rfl, ⟨h1, hr2, Nat.le_refl _, hl1, A, c, hb.set_ 2 _, hh.kept (gset w p 2 _) (fun g hg => by cases hg; exact ⟨_, _, hb, by decide⟩), hc, hc'⟩, gset _ _ _ _, fun g _ hg => bn_new (hb.set_ 2 _) (hg _ _ _ _ _ hb)⟩

set_option maxHeartbeats 400000 in
theorem tapeShorten (p room : Nat) (l : List UInt8) (f n : Nat) (w : World) (h : TapeAt w p room l f) (hn : n ≤ l.length) :
    Calls Try.prog 27 #[.pointer (some ⟨p, 0, none⟩), .int .i64 n] w fun e w' => e = .returned (.tuple #[]) ∧ ∃ A c, Blk w' p 42 #[.int .i64 room, .slice A (l.take n).length c, .int .i64 f] ∧ Held w' 5 A (l.take n) ∧ (l.take n).length ≤ c ∧ c ≤ 9223372036854775807 ∧ w.grownBy w' (some p) ∧ ∀ g, BytesNot w p g → BytesNot w' p g := by
  have h1 := h.r1
  obtain ⟨A, c, hb, hh, hc, hc'⟩ := h.at_
  have c0 := hb.cell 0
  have c1 := hb.cell 1
  have c2 := hb.cell 2
  simp only [List.getElem?_toArray, List.getElem?_cons_zero, List.getElem?_cons_succ] at c0 c1 c2
  have z1 := hb.frozen 1
  have z2 := hb.frozen 2
  have hr2 := h.r2
  have hl1 := h.l1
  have hf1 := h.f1
  go_enter Try.func27, Try.ntmps27
  go_wp2
  go_end0
  have hlen : (l.take n).length = n := by simp; omega
  refine ⟨rfl, A, n, ?_, (hh.take n).kept (gset w p 1 _) (fun g hg => by cases hg; exact ⟨_, _, hb, by decide⟩), by omega, by omega, gset _ _ _ _, fun g hg => bn_new (hb.set_ 1 _) (fun h0 => hg _ _ _ _ _ hb (by omega))⟩
  rw [hlen]
  exact hb.set_ 1 _
end Go.Proofs.Ytpkplgnpbddcjaa
