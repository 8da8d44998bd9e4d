/- Layer 11: slices.Grow of nil, slices.Concat of two, slices.Clone. -/
import Derived.Test.YtgbcjimfpoeicaaBlk
import Derived.Test.YtgbcjimfpoeicaaProg
import Derived.Laws.Cover3
import Derived.Lib.AppendZeros
namespace Go.Proofs.Ytgbcjimfpoeicaa
open Go.RowKit
set_option linter.unusedVariables false
set_option linter.unusedSimpArgs false

theorem Try.infoU8r : (Try.prog.info? 5).map (fun i => (i.zero, i.size, i.bytes)) = some (some (.int .u8 0), 1, 1) := by kernel_rfl

theorem grow_zero (w : World) : Calls Try.prog 28 #[.slice none 0 0, .int .i64 0] w fun e w' => e = .returned (.slice none 0 0) ∧ w = w' := by
  go_enter Try.func28, Try.ntmps28
  go_wp2
  go_ret
  exact ⟨rfl, rfl⟩

theorem own_empty (w : World) (e : TypeId) (cs : Array Value) (c : Nat) (hs : cs.size = c) (hc : c ≤ maxLen) : Own (w.alloc (.cells cs e)) w.heap.size e (some ⟨w.heap.size, 0, none⟩) c [] :=
  ⟨by simp [bv], .inr ⟨w.heap.size, c, cs, rfl, Nat.le_refl _, heap_alloc_new w _, Nat.zero_le _, hc, by simp [hs], by simp [bv]⟩⟩

theorem zc_size (n m : Nat) : (Builtin.zeroCells (Value.int .u8 0).cells n ++ Builtin.zeroCells (Value.int .u8 0).cells m).size = n + m := by
  simp [Builtin.zeroCells, Value.cells]

theorem grow_pos (n : Nat) (w : World) (h0 : 0 < n) (hm : n ≤ 140737488355328) : Calls Try.prog 28 #[.slice none 0 0, .int .i64 n] w fun e w' => ∃ A c, e = .returned (.slice A 0 c) ∧ Own w' w.heap.size 5 A c [] ∧ Below w.heap.size w w' := by
  obtain ⟨i0, hi, hz0, hz1, hz2⟩ := info_parts Try.infoU8r
  have e1 : IntKind.i64.wrap (n : Int) = (n : Int) := IntWalk.i64_in _ (by omega)
  have hap := fun ty => Lib.run_append_nil_zeros (P := Try.prog) w 26 3 ty 5 i0 (.int .u8 0) .i64 .i64 Try.underlying26 Try.underlying3 hi hz0 n h0 (by omega) (by omega) (by rw [hz2]; omega)
  have hge := grownCap_ge w n 0 5
  have hle := grownCap_le_maxLen w n 0 5 (by simp only [maxLen]; omega)
  have how := own_empty w.drew 5 (Builtin.zeroCells (Value.int .u8 0).cells n ++ Builtin.zeroCells (Value.int .u8 0).cells (grownCap w n 0 5 - n)) (grownCap w n 0 5) (by rw [zc_size]; omega) hle
  have hb : Below w.heap.size w (w.drew.alloc (.cells (Builtin.zeroCells (Value.int .u8 0).cells n ++ Builtin.zeroCells (Value.int .u8 0).cells (grownCap w n 0 5 - n)) 5)) := (Below.refl _ _).drew.alloc (Nat.le_refl _) _
  generalize hwv : w.drew.alloc (.cells (Builtin.zeroCells (Value.int .u8 0).cells n ++ Builtin.zeroCells (Value.int .u8 0).cells (grownCap w n 0 5 - n)) 5) = w2 at *
  generalize grownCap w n 0 5 = C at *
  have how' : Own w2 w.heap.size 5 (some ⟨w.heap.size, 0, none⟩) C [] := how
  clear hwv how
  have hC : (C : Int) ≤ 9223372036854775807 := by simp only [maxLen] at hle; omega
  go_enter Try.func28, Try.ntmps28
  go_wp2_with (at_builtin; refine Lib.wpList_append_run _ rfl (.tmp 20) (.tmp 21) 26 3 rfl _ _ rfl rfl _ _ (hap _) ?_)
  go_ret
  exact ⟨_, _, rfl, how', hb⟩

theorem grow_any (n : Nat) (w : World) (hm : n ≤ 140737488355328) : Calls Try.prog 28 #[.slice none 0 0, .int .i64 n] w fun e w' => ∃ A c, e = .returned (.slice A 0 c) ∧ Own w' w.heap.size 5 A c [] ∧ Below w.heap.size w w' := by
  rcases Nat.eq_zero_or_pos n with rfl | h
  · refine (grow_zero w).mono ?_
    rintro e w' ⟨rfl, rfl⟩
    exact ⟨none, 0, rfl, Own.nil, Below.refl _ _⟩
  · exact grow_pos n w h hm
end Go.Proofs.Ytgbcjimfpoeicaa
