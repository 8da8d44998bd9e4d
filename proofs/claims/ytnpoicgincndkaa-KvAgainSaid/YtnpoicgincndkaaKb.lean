/- Layer 12: a table's keys. -/
import Derived.Test.YtnpoicgincndkaaKa
namespace Go.Proofs.Ytnpoicgincndkaa
open Go.RowKit Go.Maps
set_option linter.unusedVariables false
set_option linter.unusedSimpArgs false

def i64ok (x : Int) : Prop := -9223372036854775808 ≤ x ∧ x ≤ 9223372036854775807
theorem wf_of_ok {x : Int} (h : i64ok x) : (Lit.int .i64 x).wf = true := by
  unfold i64ok at h
  simpa [Lit.wf, IntKind.min, IntKind.max, IntKind.signed, IntKind.bits] using h
theorem ok_of_wf {x : Int} (h : (Lit.int .i64 x).wf = true) : i64ok x := by
  unfold i64ok
  simpa [Lit.wf, IntKind.min, IntKind.max, IntKind.signed, IntKind.bits] using h

theorem keyTypeP : Try.prog.keyType 99 = true := by kernel_rfl
theorem cellsP : Try.prog.cellsOf 99 = 2 := by kernel_rfl
theorem cellsI : Try.prog.cellsOf 3 = 1 := by kernel_rfl
theorem sizeP : ∃ m, Try.prog.types.size = m + 1 := ⟨Try.prog.types.size - 1, by have : 1 < Try.prog.types.size := of_decide_eq_true (by kernel_rfl); omega⟩
theorem lits_int (d : Nat) (k : Int) (h : i64ok k) : Try.prog.keyLits (d + 1) 3 [.int .i64 k] = some [.int .i64 k] := by
  simp [Program.keyLits, Try.underlying3, wf_of_ok h]
theorem lits_pair (d : Nat) (k o : Int) (hk : i64ok k) (ho : i64ok o) : Try.prog.keyLits (d + 2) 99 [.int .i64 k, .int .i64 o] = some [.int .i64 k, .int .i64 o] := by
  have h1 := lits_int d k hk
  have h2 := lits_int d o ho
  simp [Program.keyLits, Try.underlying99, cellsP, cellsI, Try.underlying3, wf_of_ok hk, wf_of_ok ho]
def litP (k o : Int) : Lit := .string (keyBytes [.int .i64 k, .int .i64 o])
theorem keyOf_pv (k o : Int) (hk : i64ok k) (ho : i64ok o) : keyOf Try.prog 99 (pv k o) = some (litP k o) := by
  obtain ⟨m, hm⟩ := sizeP
  have h := lits_pair m k o hk ho
  simp [keyOf, Try.underlying99, keyTypeP, pv, Value.formed, cellsP, hm, Value.cells, h, litP]
theorem litP_inj {k o k' o' : Int} (hk : i64ok k) (ho : i64ok o) (hk' : i64ok k') (ho' : i64ok o') (h : litP k o = litP k' o') : k = k' ∧ o = o' := by
  have := lawP.inj (keyOf_pv k o hk ho) (h ▸ keyOf_pv k' o' hk' ho')
  simp [pv] at this
  exact this
theorem isKey (k o : Int) : WideAt.IsKeyLit (litP k o) := trivial
theorem sameKey_litP {k o k' o' : Int} (hk : i64ok k) (ho : i64ok o) (hk' : i64ok k') (ho' : i64ok o') : (litP k o).sameKey (litP k' o') = decide (k = k' ∧ o = o') := by
  by_cases h : k = k' ∧ o = o'
  · obtain ⟨rfl, rfl⟩ := h
    simp [litP, Lit.sameKey]
  · rw [decide_eq_false h]
    exact sameKey_ne (fun e => h (litP_inj hk ho hk' ho' e))
theorem lits_int_inv {d : Nat} {c : Value} {ls : List Lit} (h : Try.prog.keyLits (d + 1) 3 [c] = some ls) : ∃ k, c = .int .i64 k ∧ i64ok k ∧ ls = [.int .i64 k] := by
  cases c <;> simp [Program.keyLits, Try.underlying3] at h
  obtain ⟨⟨rfl, hw⟩, rfl⟩ := h
  exact ⟨_, rfl, ok_of_wf hw, rfl⟩
theorem lits_place (d : Nat) (c0 c1 : Value) : Try.prog.keyLits (d + 1) 99 [c0, c1] = ((Try.prog.keyLits d 3 [c0]).bind fun a => (Try.prog.keyLits d 3 [c1]).bind fun b => some (a ++ b)) := by
  simp [Program.keyLits, Try.underlying99, cellsP, cellsI]
  rcases Try.prog.keyLits d 3 [c0] with _ | a <;> rcases Try.prog.keyLits d 3 [c1] with _ | b <;> simp
theorem formed_inv {v : Value} (h : v.formed Try.prog 99 = true) : ∃ c0 c1, v = .agg #[c0, c1] := by
  cases v <;> simp [Value.formed, Try.underlying99, cellsP] at h
  rename_i cs
  obtain ⟨cs⟩ := cs
  match cs, h with
  | [c0, c1], _ => exact ⟨c0, c1, rfl⟩
theorem keyOf_inv {v : Value} {l : Lit} (h : keyOf Try.prog 99 v = some l) : ∃ x : Int × Int, v = pv x.1 x.2 ∧ i64ok x.1 ∧ i64ok x.2 ∧ l = litP x.1 x.2 := by
  obtain ⟨m, hm⟩ : ∃ m, Try.prog.types.size = m + 1 := sizeP
  have h0 := h
  simp only [keyOf, Try.underlying99, keyTypeP, Bool.true_and] at h
  split at h
  · rename_i hf
    obtain ⟨c0, c1, rfl⟩ := formed_inv hf
    rw [Option.map_eq_some_iff] at h
    obtain ⟨ls, hl, _⟩ := h
    rw [hm] at hl
    have hl2 : Try.prog.keyLits (m + 1 + 1) 99 [c0, c1] = some ls := hl
    rw [lits_place] at hl2
    rcases h1 : Try.prog.keyLits (m + 1) 3 [c0] with _ | l1
    · simp [h1] at hl2
    · rcases h2 : Try.prog.keyLits (m + 1) 3 [c1] with _ | l2
      · simp [h1, h2] at hl2
      · obtain ⟨k, rfl, hk, _⟩ := lits_int_inv h1
        obtain ⟨o, rfl, ho, _⟩ := lits_int_inv h2
        have := keyOf_pv k o hk ho
        unfold pv at this
        rw [h0] at this
        exact ⟨(k, o), rfl, hk, ho, Option.some.inj this⟩
  · cases h
theorem holdElem_inv {H : Type} {v : Value} {y : DataW H × List MemPlace} (h : holdElem v = some y) : ∃ c, v = .agg #[.bool c] ∧ y = (.lit (.bool c), []) := by
  cases v <;> simp only [holdElem] at h
  all_goals try cases h
  rename_i cs
  obtain ⟨cs⟩ := cs
  rcases cs with _ | ⟨c0, _ | ⟨c1, t⟩⟩
  · cases h
  · cases c0 <;> cases h
    exact ⟨_, rfl, rfl⟩
  · cases c0 <;> cases h
end Go.Proofs.Ytnpoicgincndkaa
