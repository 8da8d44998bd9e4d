/- Layer 12: what an owner holds; an owner's locks are dropped. -/
import Derived.Test.YtaeofacaljeckaaKg
import Derived.Shelf.SlMaps.Clone
import Derived.Deep.QuietTactic
import Derived.BigQuiet
namespace Go.Proofs.Ytaeofacaljeckaa
open Go.RowKit Go.Maps
set_option linter.unusedVariables false
set_option linter.unusedSimpArgs false

theorem holds_nil (o k : Int) (w : World) : Calls Try.prog 14 #[.pointer none, .int .i64 o, .int .i64 k] w fun e w' => e = .returned (.tuple #[.bool false, .bool false]) ∧ w = w' := by
  go_enter Try.func14, Try.ntmps14
  go_wp2
  go_ret2
  exact ⟨rfl, rfl⟩
set_option maxHeartbeats 1000000 in
theorem holds_any (g : Nat) (L : List LRow) (o k : Int) (w : World) (h : Tab w g L) (hk : i64ok k) (ho : i64ok o) :
    Calls Try.prog 14 #[.pointer (some ⟨g, 0, none⟩), .int .i64 o, .int .i64 k] w fun e w' => e = .returned (.tuple #[.bool (heldL L k o), .bool (aloneL L k o)]) ∧ Below w.heap.size w w' := by
  obtain ⟨m, hg, hsrc⟩ := h.src
  have hlk := hsrc.look_run hk ho
  have c0 := hg.cell 0
  simp only [List.getElem?_toArray, List.getElem?_cons_zero] at c0
  obtain ⟨al, hal⟩ : ∃ al, al = aloneL L k o := ⟨_, rfl⟩
  obtain ⟨hd, hhd⟩ : ∃ hd, hd = heldL L k o := ⟨_, rfl⟩
  rw [← hal, ← hhd] at hlk ⊢
  clear hal hhd hsrc hg h
  go_enter Try.func14, Try.ntmps14
  go_wp2
  go_quiet (fail)
  have hb : Below w.heap.size w ((w.alloc (.cells #[.bool al] 55)).drewN nq) := bt (ba _ _) ⟨rfl, rfl, rfl, Nat.le_refl _, fun _ _ => rfl⟩
  go_wp2
  go_ret2
  exact ⟨rfl, hb⟩
theorem drop_nil (o : Int) (w : World) : Calls Try.prog 12 #[.pointer none, .int .i64 o] w fun e w' => e = .returned (.tuple #[.int .i64 0, .int .i64 6]) ∧ w = w' := by
  go_enter Try.func12, Try.ntmps12
  go_wp2
  go_ret2
  exact ⟨rfl, rfl⟩

theorem clone_nil (w : World) : Calls Try.prog 26 #[.map none] w fun e w' => e = .returned (.map none) ∧ w = w' := by
  have hq := fun w => run_eql_map_nil_sl (P := Try.prog) w 44 _ _ none Try.underlying44
  go_enter Try.func26, Try.ntmps26
  go_wp2
  go_ret
  exact ⟨rfl, rfl⟩
theorem clone_map (b : Nat) (es : Array MapEntry) (clock : Nat) (w : World) (hb : w.heap[b]? = some (.map es clock)) : Calls Try.prog 26 #[.map (some b)] w fun e w' => e = .returned (.map (some w.heap.size)) ∧ w' = w.alloc (.map es clock) := by
  have hq := fun w => run_eql_map_nil_sl (P := Try.prog) w 44 _ _ (some b) Try.underlying44
  go_enter Try.func26, Try.ntmps26
  go_wp2
  rw [run_callFunc_extern Try.func29 (by kernel_rfl) (by kernel_rfl) (by kernel_rfl) (e := Extern.MapsClone.clone) (by kernel_rfl), run_maps_clone_sl w 44 hb]
  simp only [Result.andThen]
  rw [Oper.upon_value]
  go_wp2
  rw [run_typeAssert_map_sl _ 44 _ _ _ _ Try.underlying44]
  simp only [Result.andThen]
  rw [Oper.upon_value]
  go_wp2
  go_ret
  exact ⟨rfl, rfl⟩
theorem clone_own (b n : Nat) (D : DataW Unit) (w : World) (h : w.ownsMap Try.prog 53 holdElem b n D) : Calls Try.prog 26 #[.map (some b)] w fun e w' => e = .returned (.map (some w.heap.size)) ∧ w'.ownsMap Try.prog 53 holdElem w.heap.size n D ∧ Below w.heap.size w w' := by
  obtain ⟨es, clock, hb, F, hs, hD⟩ := h
  refine (clone_map b es clock w hb).mono ?_
  rintro e w' ⟨rfl, rfl⟩
  exact ⟨rfl, ⟨es, clock, (MapKept.heap_alloc w _).1, F, hs, hD⟩, ba _ _⟩
end Go.Proofs.Ytaeofacaljeckaa
