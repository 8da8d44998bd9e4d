/- Layer 2: a tape in memory, and what its calls do. -/
import Derived.Test.YtpkplgnpbddcjaaLay
import Derived.Test.YtpkplgnpbddcjaaBlk
import Derived.Test.YtpkplgnpbddcjaaCopy
import Derived.Deep.QuietTactic
import Derived.BigQuiet
namespace Go.Proofs.Ytpkplgnpbddcjaa
open Go.RowKit
set_option linter.unusedVariables false

/-- The bytes l lie at the head of a block of bytes. -/
def Held (w : World) (e : TypeId) (A : Option Addr) (l : List UInt8) : Prop := 0 < l.length → ∃ g L, A = some ⟨g, 0, none⟩ ∧ Raw w g e L ∧ l = L.take l.length
section
variable {w w' : World} {e : TypeId} {A : Option Addr} {l : List UInt8}
theorem Held.nil : Held w e A [] := fun h => absurd h (by simp)
theorem Held.bs (h : Held w e A l) : Bs w w.heap.size A l := fun hn => by
  obtain ⟨g, L, rfl, hr, hl⟩ := h hn
  have hlen : l.length ≤ L.length := by rw [hl]; simp; omega
  refine ⟨g, 0, rfl, hr.lt, fun i hi => ?_⟩
  rw [Nat.zero_add, hr.cell i (by omega)]
  have : L[i]'(by omega) = l[i] := by
    have h2 : l[i]? = (L.take l.length)[i]? := by rw [← hl]
    rw [List.getElem?_take, if_pos hi, List.getElem?_eq_getElem hi, List.getElem?_eq_getElem (by omega)] at h2
    exact (Option.some.inj h2).symm
  rw [this]
theorem Held.kept {row : Option Nat} (h : Held w e A l) (hb : w.grownBy w' row) (hg : ∀ g, row = some g → ∃ t cs, Blk w g t cs ∧ t ≠ e) : Held w' e A l := fun hn => by
  obtain ⟨g, L, rfl, hr, hl⟩ := h hn
  refine ⟨g, L, rfl, hr.kept hb (fun he => ?_), hl⟩
  obtain ⟨t, cs, h1, h2⟩ := hg g he.symm
  exact h1.ne_raw hr h2 rfl
theorem Held.below (h : Held w e A l) (hb : Below w.heap.size w w') : Held w' e A l := fun hn => by
  obtain ⟨g, L, rfl, hr, hl⟩ := h hn
  exact ⟨g, L, rfl, hr.below hb hr.lt, hl⟩
theorem Held.take (h : Held w e A l) (n : Nat) : Held w e A (l.take n) := fun hn => by
  rw [List.length_take] at hn
  obtain ⟨g, L, rfl, hr, hl⟩ := h (by omega)
  refine ⟨g, L, rfl, hr, ?_⟩
  rw [List.length_take]
  conv => lhs; rw [hl]
  rw [List.take_take]
theorem Held.raw {g : Nat} (h : Raw w g e l) : Held w e (some ⟨g, 0, none⟩) l := fun _ => ⟨g, l, rfl, h, by simp⟩
end

/-- A tape: its room, its bytes, how many are forced. -/
structure TapeAt (w : World) (p room : Nat) (l : List UInt8) (f : Nat) : Prop where
  r1 : 1 ≤ room
  r2 : room ≤ 65536
  f1 : f ≤ l.length
  l1 : l.length ≤ room
  at_ : ∃ A c, Blk w p 42 #[.int .i64 room, .slice A l.length c, .int .i64 f] ∧ Held w 5 A l ∧ l.length ≤ c ∧ c ≤ 9223372036854775807

section
variable {w w' : World} {p room : Nat} {l : List UInt8} {f : Nat}
theorem TapeAt.below (h : TapeAt w p room l f) (hb : Below w.heap.size w w') : TapeAt w' p room l f := by
  obtain ⟨A, c, h1, h2, h3⟩ := h.at_
  exact ⟨h.r1, h.r2, h.f1, h.l1, A, c, h1.below hb h1.lt, h2.below hb, h3⟩
end

/-- The pointer is nil, or leads to a tape that no call made. -/
def NotMade (w : World) (v : Option Addr) : Prop := v = none ∨ ∃ p, v = some ⟨p, 0, none⟩ ∧ w.cell? ⟨p, 0, none⟩ = some (.int .i64 0)

set_option maxHeartbeats 400000 in
theorem made_yes (p room : Nat) (w : World) (hr : 1 ≤ room) (h : w.cell? ⟨p, 0, none⟩ = some (.int .i64 room)) :
    Calls Try.prog 25 #[.pointer (some ⟨p, 0, none⟩)] w fun e w' => e = .returned (.bool true) ∧ w = w' := by
  have hd : decide (0 < room) = true := by simp; omega
  go_enter Try.func25, Try.ntmps25
  go_wp2
  go_ret
  exact ⟨rfl, rfl⟩

set_option maxHeartbeats 400000 in
theorem made_no (v : Option Addr) (w : World) (h : NotMade w v) :
    Calls Try.prog 25 #[.pointer v] w fun e w' => e = .returned (.bool false) ∧ w = w' := by
  rcases h with rfl | ⟨p, rfl, h⟩
  · go_enter Try.func25, Try.ntmps25
    go_wp2
    go_ret
    exact ⟨rfl, rfl⟩
  · go_enter Try.func25, Try.ntmps25
    go_wp2
    go_ret
    exact ⟨rfl, rfl⟩
end Go.Proofs.Ytpkplgnpbddcjaa
