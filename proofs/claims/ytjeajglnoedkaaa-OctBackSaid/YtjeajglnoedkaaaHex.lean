/- Digits: both programs' Hex. -/
import Derived.Test.YtjeajglnoedkaaaBase
import Derived.Test.YtjeajglnoedkaaaProg
import Derived.StillTailTactics
import Derived.Deep.QuietTactic
import Derived.BigQuiet
namespace Go.Proofs.Ytjeajglnoedkaaa
open Go.RowKit
set_option linter.unusedVariables false

theorem Try.infoU8h : (Try.prog.info? 5).map (fun i => (i.zero, i.size, i.bytes)) = some (some (.int .u8 0), 1, 1) := by kernel_rfl

/-- A digit. -/
def dig (n : Nat) : UInt8 := UInt8.ofNat (if n < 10 then 48 + n else 87 + n)
def hexL (l : List UInt8) : List UInt8 := l.flatMap fun x => [dig (x.toNat / 16), dig (x.toNat % 16)]
theorem hexL_snoc (l : List UInt8) (x : UInt8) : hexL (l ++ [x]) = hexL l ++ [dig (x.toNat / 16), dig (x.toNat % 16)] := by simp [hexL]
theorem hexL_length (l : List UInt8) : (hexL l).length = 2 * l.length := by
  induction l with
  | nil => rfl
  | cons x l ih => simp [hexL] at ih ⊢; omega

theorem index_digit (n : Nat) (hn : n < 16) (w : World) :
    (Instr.index 9 (.string ⟨#[48, 49, 50, 51, 52, 53, 54, 55, 56, 57, 97, 98, 99, 100, 101, 102]⟩) (.int .u8 (n : Int))).run Try.prog w = .ok (.int .u8 ((dig n).toNat : Int)) w := by
  rw [run_index_string _ _ _ _ _ Try.underlying9]
  rw [dif_pos (by constructor <;> simp [ByteArray.size] <;> omega)]
  match n, hn with
  | 0, _ | 1, _ | 2, _ | 3, _ | 4, _ | 5, _ | 6, _ | 7, _ | 8, _ | 9, _ | 10, _ | 11, _ | 12, _ | 13, _ | 14, _ | 15, _ => rfl
  | n + 16, h => exact absurd h (by omega)
theorem index_digit' (n : Nat) (hn : n < 16) (w : World) :
    (Instr.index 9 (.string ⟨#[48, 49, 50, 51, 52, 53, 54, 55, 56, 57, 97, 98, 99, 100, 101, 102]⟩) (.int .i64 (n : Int))).run Try.prog w = .ok (.int .u8 ((dig n).toNat : Int)) w := by
  rw [run_index_string _ _ _ _ _ Try.underlying9]
  rw [dif_pos (by constructor <;> simp [ByteArray.size] <;> omega)]
  match n, hn with
  | 0, _ | 1, _ | 2, _ | 3, _ | 4, _ | 5, _ | 6, _ | 7, _ | 8, _ | 9, _ | 10, _ | 11, _ | 12, _ | 13, _ | 14, _ | 15, _ => rfl
  | n + 16, h => exact absurd h (by omega)
theorem index_hi (x : UInt8) (w : World) :
    (Instr.index 9 (.string ⟨#[48, 49, 50, 51, 52, 53, 54, 55, 56, 57, 97, 98, 99, 100, 101, 102]⟩) (.int .u8 ((x.toNat : Int) / 16))).run Try.prog w = .ok (.int .u8 ((dig (x.toNat / 16)).toNat : Int)) w := by
  have := x.toNat_lt
  exact index_digit (x.toNat / 16) (by omega) w
theorem index_lo (x : UInt8) (w : World) :
    (Instr.index 9 (.string ⟨#[48, 49, 50, 51, 52, 53, 54, 55, 56, 57, 97, 98, 99, 100, 101, 102]⟩) (.int .u8 (bits .and .u8 (x.toNat : Int) 15))).run Try.prog w = .ok (.int .u8 ((dig (x.toNat % 16)).toNat : Int)) w := by
  have := x.toNat_lt
  have e : bits .and .u8 (x.toNat : Int) 15 = (x.toNat : Int) % 16 := u8_and15 _ (by omega) (by omega)
  rw [e]
  exact index_digit (x.toNat % 16) (by omega) w

set_option maxHeartbeats 1000000 in
theorem hex_any (A : Option Addr) (l : List UInt8) (c : Nat) (w : World) (hm : l.length ≤ 70368744177664) (h : Bs w w.heap.size A l) :
    Calls Try.prog 29 #[.slice A l.length c] w fun e w' => e = .returned (.string ⟨(hexL l).toArray⟩) ∧ Below w.heap.size w w' := by
  obtain ⟨i0, hi, hz0, hz1, hz2⟩ := info_parts Try.infoU8h
  go_enter Try.func29, Try.ntmps29
  go_wp2_with (at_make; refine wpList_make_own _ rfl _ _ 23 rfl w.heap.size 5 i0 _ 1 Try.underlying23 hi hz0 hz1 .i64 .i64 _ (2 * l.length) rfl rfl (by omega) (by rw [hz2]; omega) (by simp only [maxLen]; omega) (Nat.le_refl _) ?_; intro w1 hown hgr)
  have hbel := below_none hgr
  have ho1 : Own w1 w.heap.size 5 (some ⟨w.heap.size, 0, none⟩) (2 * l.length) [] := hown
  go_loopw [3, 12] (fun b i wr => ∃ k : Nat, k ≤ l.length ∧ i = .int .i64 k ∧ (∃ A2 c2, b = .slice A2 ((2 * k : Nat)) c2 ∧ Own wr w.heap.size 5 A2 c2 (hexL (l.take k))) ∧ Below w.heap.size w wr)
    (fun _ i _ => l.length - (intOf i).toNat)
  case atStart => exact ⟨0, Nat.zero_le _, rfl, ⟨_, _, rfl, ho1⟩, hbel⟩
  case round =>
    obtain ⟨k, hk, rfl, ⟨A2, c2, rfl, ho⟩, hb⟩ := hrel
    by_cases hlt : k < l.length
    · obtain ⟨bb, oo, rfl, hbb, hcc⟩ := (h.below hb) (by omega)
      have hck := hcc k hlt
      obtain ⟨x, hx⟩ : ∃ x, x = l[k] := ⟨_, rfl⟩
      rw [← hx] at hck
      have Hx := Lib.hid hx
      clear hcc hx
      have hxl : (x.toNat : Int) < 256 := by have := x.toNat_lt; omega
      have hx0 : (0 : Int) ≤ (x.toNat : Int) := by omega
      have i1 := index_hi x
      have i2 := index_lo x
      go_wp2_with fail
      go_region_law (refine step_append_bs _ rfl _ _ 23 rfl w.heap.size 5 i0 _ Try.underlying23 hi hz0 hz1 hz2 rfl A2 c2 (hexL (l.take k)) (2 * k) rfl (by rw [hexL_length, List.length_take]; omega) (ho.drew.alloc _) _ _ _ [dig (x.toNat / 16), dig (x.toNat % 16)] 2 rfl rfl (Bs.two rfl rfl) (by rw [hexL_length, List.length_take]; simp; omega) (by have := hb.size; simp; omega) ?_; intro A3 c3 w3 ho3 hg3 _)
      all_goals
        go_wp2
        go_roundw
        case rel =>
          refine ⟨k + 1, by omega, by go_num, ⟨A3, c3, rfl, ?_⟩, (hb.drew.alloc hb.size _).grown hg3 (by have := hb.size; simp; omega) (fun k hk => (ho.lt k hk).1)⟩
          rw [take_snoc l k hlt, hexL_snoc, ← Hx.out]
          exact ho3
        case measure => simp [intOf]; omega
    · obtain rfl : k = l.length := by omega
      rw [List.take_length] at ho
      have hcv : (convert 23 9 (.slice A2 (2 * l.length) c2)).run Try.prog wr = .ok (.string ⟨(hexL l).toArray⟩) wr := by
        rw [← hexL_length]; exact conv_bytes Try.underlying23 Try.underlying5 Try.underlying9 ho.bs _
      go_wp2
      go_ret
      exact ⟨rfl, hb⟩

theorem index_hi' (x : UInt8) (w : World) :
    (Instr.index 9 (.string ⟨#[48, 49, 50, 51, 52, 53, 54, 55, 56, 57, 97, 98, 99, 100, 101, 102]⟩) (.int .i64 ((x.toNat : Int) / 16))).run Try.prog w = .ok (.int .u8 ((dig (x.toNat / 16)).toNat : Int)) w := by
  have := x.toNat_lt
  exact index_digit' (x.toNat / 16) (by omega) w
theorem index_lo' (x : UInt8) (w : World) :
    (Instr.index 9 (.string ⟨#[48, 49, 50, 51, 52, 53, 54, 55, 56, 57, 97, 98, 99, 100, 101, 102]⟩) (.int .i64 ((x.toNat : Int) % 16))).run Try.prog w = .ok (.int .u8 ((dig (x.toNat % 16)).toNat : Int)) w := by
  have := x.toNat_lt
  exact index_digit' (x.toNat % 16) (by omega) w

set_option maxHeartbeats 1000000 in
theorem refhex_any (A : Option Addr) (l : List UInt8) (c : Nat) (w : World) (hm : l.length ≤ 70368744177664) (h : Bs w w.heap.size A l) :
    Calls Try.prog 30 #[.slice A l.length c] w fun e w' => e = .returned (.string ⟨(hexL l).toArray⟩) ∧ Below w.heap.size w w' := by
  obtain ⟨i0, hi, hz0, hz1, hz2⟩ := info_parts Try.infoU8h
  go_enter Try.func30, Try.ntmps30
  go_wp2
  go_loopw [4, 5] (fun b i wr => ∃ k : Nat, k ≤ l.length ∧ i = .int .i64 k ∧ (∃ A2 c2, b = .slice A2 ((2 * k : Nat)) c2 ∧ Own wr w.heap.size 5 A2 c2 (hexL (l.take k))) ∧ Below w.heap.size w wr)
    (fun _ i _ => l.length - (intOf i).toNat)
  case atStart => exact ⟨0, Nat.zero_le _, rfl, ⟨none, 0, rfl, Own.nil⟩, Below.refl _ _⟩
  case round =>
    obtain ⟨k, hk, rfl, ⟨A2, c2, rfl, ho⟩, hb⟩ := hrel
    by_cases hlt : k < l.length
    · obtain ⟨bb, oo, rfl, hbb, hcc⟩ := (h.below hb) (by omega)
      have hck := hcc k hlt
      obtain ⟨x, hx⟩ : ∃ x, x = l[k] := ⟨_, rfl⟩
      rw [← hx] at hck
      have Hx := Lib.hid hx
      clear hcc hx
      have hxl : (x.toNat : Int) < 256 := by have := x.toNat_lt; omega
      have hx0 : (0 : Int) ≤ (x.toNat : Int) := by omega
      have i1 := index_hi' x
      have i2 := index_lo' x
      have e1 : IntKind.i64.wrap (x.toNat : Int) = (x.toNat : Int) := IntWalk.i64_in _ (by omega)
      have e2 : IntKind.i64.wrap ((x.toNat : Int) / 16) = (x.toNat : Int) / 16 := IntWalk.i64_in _ (by omega)
      have e3 : (x.toNat : Int).tmod 16 = (x.toNat : Int) % 16 := IntWalk.rem_in _ _ (by omega)
      go_wp2_with fail
      go_region_law (refine step_append_bs _ rfl _ _ 23 rfl w.heap.size 5 i0 _ Try.underlying23 hi hz0 hz1 hz2 rfl A2 c2 (hexL (l.take k)) (2 * k) rfl (by rw [hexL_length, List.length_take]; omega) (ho.drew.alloc _) _ _ _ [dig (x.toNat / 16), dig (x.toNat % 16)] 2 rfl rfl (Bs.two rfl rfl) (by rw [hexL_length, List.length_take]; simp; omega) (by have := hb.size; simp; omega) ?_; intro A3 c3 w3 ho3 hg3 _)
      all_goals
        clear e1 e2 e3
        go_wp2
        go_roundw
        case rel =>
          refine ⟨k + 1, by omega, by go_num, ⟨A3, c3, rfl, ?_⟩, (hb.drew.alloc hb.size _).grown hg3 (by have := hb.size; simp; omega) (fun k hk => (ho.lt k hk).1)⟩
          rw [take_snoc l k hlt, hexL_snoc, ← Hx.out]
          exact ho3
        case measure => simp [intOf]; omega
    · obtain rfl : k = l.length := by omega
      rw [List.take_length] at ho
      have hcv : (convert 23 9 (.slice A2 (2 * l.length) c2)).run Try.prog wr = .ok (.string ⟨(hexL l).toArray⟩) wr := by
        rw [← hexL_length]; exact conv_bytes Try.underlying23 Try.underlying5 Try.underlying9 ho.bs _
      go_wp2
      go_ret
      exact ⟨rfl, hb⟩
end Go.Proofs.Ytjeajglnoedkaaa
