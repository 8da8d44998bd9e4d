/- Layer 12: a table's map: its keys, its elements; New, Len. -/
import Derived.Test.YtaeofacaljeckaaBlk
import Derived.Test.YtaeofacaljeckaaProg
import Derived.DeepKeys4
import Derived.Maps.OwnSet
import Derived.Maps.RangeWalk
import Derived.Maps.Ext
namespace Go.Proofs.Ytaeofacaljeckaa
open Go.RowKit Go.Maps
set_option linter.unusedVariables false
set_option linter.unusedSimpArgs false

theorem Try.laidOutK : laidOutB Try.prog = true := by kernel_rfl
theorem Try.rowP : (53 : TypeId) < Try.prog.types.size := of_decide_eq_true (by kernel_rfl)
theorem Try.wideP : (match Try.prog.underlying 53 with | some (.array _ _) | some (.struct _) => true | _ => false) = true := by rw [Try.underlying53]
/-- The keys' law. -/
theorem lawP : Keyed Try.prog 53 := Keyed.of_law (deep_law_laid Try.laidOutK (m := 2) (by omega) Try.rowP (by kernel_rfl) Try.wideP)
/-- How an element reads: a struct of one bool. -/
def holdElem {H : Type} (v : Value) : Option (DataW H × List MemPlace) := match v with
  | .agg cs => (match cs.toList with | [.bool a] => some (.lit (.bool a), []) | _ => none)
  | _ => none
theorem holdElem_mk {H : Type} (a : Bool) : holdElem (H := H) (.agg #[.bool a]) = some (.lit (.bool a), []) := rfl
/-- A key, and an owner, as a value. -/
def pv (k o : Int) : Value := .agg #[.int .i64 k, .int .i64 o]
theorem new_any (w : World) : Calls Try.prog 9 #[] w fun e w' => e = .returned (.pointer (some ⟨w.heap.size, 0, none⟩)) ∧ Blk w' w.heap.size 46 #[.map none] ∧ Below w.heap.size w w' := by
  go_enter Try.func9, Try.ntmps9
  go_wp2
  go_ret
  exact ⟨rfl, Blk.new w _ _, ba _ _⟩
theorem len_nil (w : World) : Calls Try.prog 19 #[.pointer none] w fun e w' => e = .returned (.int .i64 0) ∧ w = w' := by
  go_enter Try.func19, Try.ntmps19
  go_wp2
  go_ret
  exact ⟨rfl, rfl⟩
/-- A table in block g: its map lies in block b and reads as D. -/
def TabAt {H : Type} (w : World) (g b n : Nat) (D : DataW H) : Prop := Blk w g 46 #[.map (some b)] ∧ w.ownsMap Try.prog 53 holdElem b n D
theorem len_empty (w : World) (g : Nat) (h : Blk w g 46 #[.map none]) : Calls Try.prog 19 #[.pointer (some ⟨g, 0, none⟩)] w fun e w' => e = .returned (.int .i64 0) ∧ w = w' := by
  have c0 := h.cell 0
  simp only [List.getElem?_toArray, List.getElem?_cons_zero] at c0
  have hl := fun (u : World) ty => Maps.len_nil (P := Try.prog) (w := u) Try.underlying44 ty
  go_enter Try.func19, Try.ntmps19
  go_wp2
  go_ret
  exact ⟨rfl, rfl⟩
theorem len_any {H : Type} (w : World) (g b n : Nat) (D : DataW H) (h : TabAt w g b n D) : Calls Try.prog 19 #[.pointer (some ⟨g, 0, none⟩)] w fun e w' => e = .returned (.int .i64 (Maps.size D)) ∧ w = w' := by
  have c0 := h.1.cell 0
  simp only [List.getElem?_toArray, List.getElem?_cons_zero] at c0
  have hown := h.2
  go_enter Try.func19, Try.ntmps19
  go_wp2_with (at_len; refine wpList_len_own _ rfl _ _ rfl 53 55 Try.underlying44 holdElem b n D rfl hown ?_)
  go_ret
  exact ⟨rfl, rfl⟩
end Go.Proofs.Ytaeofacaljeckaa
