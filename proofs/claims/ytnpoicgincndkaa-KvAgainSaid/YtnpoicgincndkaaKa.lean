/- Layer 12: a table's map: its keys, its elements; New, Len. -/
import Derived.Test.YtnpoicgincndkaaBlk
import Derived.Test.YtnpoicgincndkaaProg
import Derived.DeepKeys4
import Derived.Maps.OwnSet
import Derived.Maps.RangeWalk
import Derived.Maps.Ext
namespace Go.Proofs.Ytnpoicgincndkaa
open Go.RowKit Go.Maps
set_option linter.unusedVariables false
set_option linter.unusedSimpArgs false

theorem Try.laidOutK : laidOutB Try.prog = true := by kernel_rfl
theorem Try.rowP : (99 : TypeId) < Try.prog.types.size := of_decide_eq_true (by kernel_rfl)
theorem Try.wideP : (match Try.prog.underlying 99 with | some (.array _ _) | some (.struct _) => true | _ => false) = true := by rw [Try.underlying99]
set_option maxRecDepth 1000000 in
/-- The keys' law. -/
theorem lawP : Keyed Try.prog 99 := Keyed.of_law (deep_law_laid Try.laidOutK (m := 2) (by omega) Try.rowP (by kernel_rfl) Try.wideP)
/-- How an element reads: a struct of one bool. -/
def holdElem {H : Type} (v : Value) : Option (DataW H × List MemPlace) := match v with
  | .agg cs => (match cs.toList with | [.bool a] => some (.lit (.bool a), []) | _ => none)
  | _ => none
theorem holdElem_mk {H : Type} (a : Bool) : holdElem (H := H) (.agg #[.bool a]) = some (.lit (.bool a), []) := rfl
/-- A key, and an owner, as a value. -/
def pv (k o : Int) : Value := .agg #[.int .i64 k, .int .i64 o]
/-- A table in block g: its map lies in block b and reads as D. -/
def TabAt {H : Type} (w : World) (g b n : Nat) (D : DataW H) : Prop := Blk w g 57 #[.map (some b)] ∧ w.ownsMap Try.prog 99 holdElem b n D
end Go.Proofs.Ytnpoicgincndkaa
