/- Layer 12: what is known of lists of locks. -/
import Derived.Test.YtnpoicgincndkaaIi
namespace Go.Proofs.Ytnpoicgincndkaa
open Go.RowKit Go.Maps
set_option linter.unusedVariables false
set_option linter.unusedSimpArgs false

theorem held_iff {L : List LRow} {k o : Int} : heldL L k o = true ↔ ∃ x ∈ L, x.1 = k ∧ x.2.1 = o := by
  unfold heldL; rw [List.any_eq_true]; exact ⟨fun ⟨x, h, e⟩ => ⟨x, h, atB_iff.1 e⟩, fun ⟨x, h, e⟩ => ⟨x, h, atB_iff.2 e⟩⟩
theorem alone_iff {L : List LRow} {k o : Int} : aloneL L k o = true ↔ ∃ x ∈ L, x.1 = k ∧ x.2.1 = o ∧ x.2.2 = true := by
  unfold aloneL; rw [List.any_eq_true]
  constructor
  · rintro ⟨x, h, e⟩
    rw [Bool.and_eq_true, atB_iff] at e
    exact ⟨x, h, e.1.1, e.1.2, e.2⟩
  · rintro ⟨x, h, e1, e2, e3⟩
    exact ⟨x, h, by rw [Bool.and_eq_true, atB_iff]; exact ⟨⟨e1, e2⟩, e3⟩⟩
theorem clash_no {L : List LRow} {k o : Int} {a : Bool} (h : clashL L k o a = false) {x : LRow} (hx : x ∈ L) (h1 : x.1 = k) (h2 : x.2.1 ≠ o) : a = false ∧ x.2.2 = false := by
  unfold clashL at h
  have := (List.any_eq_false.1 h) x hx
  simpa [h1, h2] using this
theorem clash_yes {L : List LRow} {k o : Int} {a : Bool} {x : LRow} (hx : x ∈ L) (h1 : x.1 = k) (h2 : x.2.1 ≠ o) (h3 : x.2.2 = true) : clashL L k o a = true := by
  unfold clashL
  exact List.any_eq_true.2 ⟨x, hx, by simp [h1, h2, h3]⟩
theorem put_mem {L : List LRow} {k o : Int} {a : Bool} {x : LRow} (h : x ∈ putL L k o a) : x = (k, o, a) ∨ (x ∈ L ∧ ¬ (x.1 = k ∧ x.2.1 = o)) := by
  unfold putL at h
  split at h
  · obtain ⟨y, hy, rfl⟩ := List.mem_map.1 h
    by_cases hb : atB k o y = true
    · rw [if_pos hb]; exact .inl rfl
    · rw [if_neg hb]; exact .inr ⟨hy, fun e => hb (atB_iff.2 e)⟩
  · rename_i hn
    rcases List.mem_append.1 h with h1 | h1
    · exact .inr ⟨h1, fun e => hn (held_iff.2 ⟨x, h1, e⟩)⟩
    · exact .inl (List.mem_singleton.1 h1)
theorem put_new (L : List LRow) (k o : Int) (a : Bool) : (k, o, a) ∈ putL L k o a := by
  unfold putL
  split
  · rename_i h
    obtain ⟨x, hx, e⟩ := held_iff.1 h
    exact List.mem_map.2 ⟨x, hx, by rw [if_pos (atB_iff.2 e)]⟩
  · simp
theorem put_old {L : List LRow} {k o : Int} {a : Bool} {x : LRow} (hx : x ∈ L) (hn : ¬ (x.1 = k ∧ x.2.1 = o)) : x ∈ putL L k o a := by
  unfold putL
  split
  · exact List.mem_map.2 ⟨x, hx, by rw [if_neg (fun e => hn (atB_iff.1 e))]⟩
  · exact List.mem_append.2 (.inl hx)
theorem take_cases (L : List LRow) (o k : Int) (a : Bool) : (clashL L k o a = true ∧ takeL L o k a = (120, L)) ∨ (clashL L k o a = false ∧ heldL L k o = false ∧ L.length = 64 ∧ takeL L o k a = (5, L)) ∨
    (clashL L k o a = false ∧ takeL L o k a = (0, putL L k o (aloneL L k o || a))) := by
  unfold takeL
  split
  · rename_i h; exact .inl ⟨h, rfl⟩
  · rename_i h
    have h := Bool.eq_false_iff.2 h
    split
    · rename_i h2; exact .inr (.inl ⟨h, h2.1, h2.2, rfl⟩)
    · exact .inr (.inr ⟨h, rfl⟩)
theorem take_ok {L L' : List LRow} {o k r : Int} {a : Bool} (h : takeL L o k a = (r, L')) (hr : r = 0) : clashL L k o a = false ∧ L' = putL L k o (aloneL L k o || a) := by
  rcases take_cases L o k a with ⟨_, e⟩ | ⟨_, _, _, e⟩ | ⟨hc, e⟩
  · rw [e] at h; cases h; cases hr
  · rw [e] at h; cases h; cases hr
  · rw [e] at h; cases h; exact ⟨hc, rfl⟩
theorem take_not {L L' : List LRow} {o k r : Int} {a : Bool} (h : takeL L o k a = (r, L')) (hr : r ≠ 0) : L' = L ∧ (r = 120 ∨ r = 5 ∧ L.length = 64) := by
  rcases take_cases L o k a with ⟨_, e⟩ | ⟨_, _, hl, e⟩ | ⟨hc, e⟩
  · rw [e] at h; cases h; exact ⟨rfl, .inl rfl⟩
  · rw [e] at h; cases h; exact ⟨rfl, .inr ⟨rfl, hl⟩⟩
  · rw [e] at h; cases h; exact absurd rfl hr
/-- No two clash. -/
def NoClash (L : List LRow) : Prop := ∀ x ∈ L, ∀ y ∈ L, x.1 = y.1 → x.2.1 ≠ y.2.1 → x.2.2 = false
theorem NoClash.put {L : List LRow} (h : NoClash L) {k o : Int} {a : Bool} (hc : clashL L k o a = false) : NoClash (putL L k o (aloneL L k o || a)) := by
  intro x hx y hy e1 e2
  rcases put_mem hx with rfl | ⟨hx1, hx2⟩
  · rcases put_mem hy with rfl | ⟨hy1, hy2⟩
    · exact absurd rfl e2
    · have hn := clash_no hc hy1 e1.symm (fun e => e2 e.symm)
      show (aloneL L k o || a) = false
      rw [hn.1, Bool.or_false]
      cases hal : aloneL L k o with
      | false => rfl
      | true =>
        obtain ⟨z, hz, z1, z2, z3⟩ := alone_iff.1 hal
        have := h z hz y hy1 (z1.trans e1) (by rw [z2]; exact e2)
        rw [z3] at this; exact this
  · rcases put_mem hy with rfl | ⟨hy1, hy2⟩
    · exact (clash_no hc hx1 e1 e2).2
    · exact h x hx1 y hy1 e1 e2
theorem NoClash.take {L : List LRow} (h : NoClash L) (o k : Int) (a : Bool) : NoClash (takeL L o k a).2 := by
  rcases take_cases L o k a with ⟨_, e⟩ | ⟨_, _, _, e⟩ | ⟨hc, e⟩
  · rw [e]; exact h
  · rw [e]; exact h
  · rw [e]; exact h.put hc
theorem NoClash.drop {L : List LRow} (h : NoClash L) (o : Int) : NoClash (dropL L o) :=
  fun x hx y hy => h x (List.mem_filter.1 hx).1 y (List.mem_filter.1 hy).1
theorem put_same {M : List LRow} {k o : Int} {b : Bool} (hh : heldL M k o = true) (h : ∀ x ∈ M, atB k o x = true → x = (k, o, b)) : putL M k o b = M := by
  unfold putL
  rw [if_pos hh]
  have : ∀ x ∈ M, (if atB k o x then (k, o, b) else x) = x := by
    intro x hx
    split
    · rename_i hb; exact (h x hx hb).symm
    · rfl
  rw [List.map_congr_left this, List.map_id']

end Go.Proofs.Ytnpoicgincndkaa
