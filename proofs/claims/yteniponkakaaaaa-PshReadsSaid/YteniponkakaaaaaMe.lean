/- Layer 6: names of kinds; the fixed calls of the laws. -/
import Derived.Test.YteniponkakaaaaaMd
import Derived.Lib.SlBytesConst
namespace Go.Proofs.Yteniponkakaaaaa
open Go.RowKit
set_option linter.unusedVariables false
set_option linter.unusedSimpArgs false

def nameB (k : Int) : ByteArray := if k = 1 then ⟨#[97, 116, 116, 97, 99, 104]⟩ else if k = 2 then ⟨#[112, 114, 101, 112, 97, 114, 101]⟩ else if k = 3 then ⟨#[121, 101, 115]⟩ else if k = 4 then ⟨#[114, 101, 97, 100, 111, 110, 108, 121]⟩ else if k = 5 then ⟨#[110, 111]⟩ else if k = 6 then ⟨#[97, 115, 107]⟩ else if k = 7 then ⟨#[99, 111, 109, 109, 105, 116]⟩ else if k = 8 then ⟨#[98, 97, 99, 107, 111, 117, 116]⟩ else if k = 9 then ⟨#[102, 111, 114, 103, 101, 116]⟩ else if k = 10 then ⟨#[100, 111, 110, 101]⟩ else if k = 11 then ⟨#[113, 117, 101, 114, 121]⟩ else if k = 12 then ⟨#[110, 97, 109, 101, 115]⟩ else if k = 13 then ⟨#[114, 101, 102, 117, 115, 101]⟩ else ⟨#[]⟩
theorem nameB_no (k : Int) (h : k < 1 ∨ 13 < k) : nameB k = ⟨#[]⟩ := by
  unfold nameB
  repeat rw [if_neg (by omega)]

set_option maxHeartbeats 2000000 in
set_option maxRecDepth 100000 in
theorem name_any (k : Int) (w : World) (b1 : -9223372036854775808 ≤ k) (b2 : k ≤ 9223372036854775807) : Calls Try.prog 13 #[.int .i64 k] w fun e w' => e = .returned (.string (nameB k)) ∧ Below w.heap.size w w' := by
  rcases kinds k with h | h | rfl | rfl | rfl | rfl | rfl | rfl | rfl | rfl | rfl | rfl | rfl | rfl | rfl
  · rw [nameB_no k (.inl h)]
    go_enter Try.func13, Try.ntmps13
    go_wp2
    go_ret
    exact ⟨rfl, by first | exact Below.refl _ _ | exact ba _ _⟩
  · rw [nameB_no k (.inr h)]
    go_enter Try.func13, Try.ntmps13
    go_wp2
    go_ret
    exact ⟨rfl, by first | exact Below.refl _ _ | exact ba _ _⟩
  all_goals
    go_enter Try.func13, Try.ntmps13
    go_wp2
    go_ret
    exact ⟨by first | rfl | simp [nameB], by first | exact Below.refl _ _ | exact ba _ _⟩
set_option maxHeartbeats 2000000 in
set_option maxRecDepth 100000 in
theorem refname_any (k : Int) (w : World) (b1 : -9223372036854775808 ≤ k) (b2 : k ≤ 9223372036854775807) : Calls Try.prog 14 #[.int .i64 k] w fun e w' => e = .returned (.string (nameB k)) ∧ Below w.heap.size w w' := by
  rcases kinds k with h | h | rfl | rfl | rfl | rfl | rfl | rfl | rfl | rfl | rfl | rfl | rfl | rfl | rfl
  · rw [nameB_no k (.inl h)]
    have Hne : Hid (∀ c : Int, 1 ≤ c → c ≤ 13 → (k == c) = false) := Lib.hid (fun c h1 h2 => beq_eq_false_iff_ne.2 (by omega))
    have n1 := Hne.out 1 (by omega) (by omega)
    have n2 := Hne.out 2 (by omega) (by omega)
    have n3 := Hne.out 3 (by omega) (by omega)
    have n4 := Hne.out 4 (by omega) (by omega)
    have n5 := Hne.out 5 (by omega) (by omega)
    have n6 := Hne.out 6 (by omega) (by omega)
    have n7 := Hne.out 7 (by omega) (by omega)
    have n8 := Hne.out 8 (by omega) (by omega)
    have n9 := Hne.out 9 (by omega) (by omega)
    have n10 := Hne.out 10 (by omega) (by omega)
    have n11 := Hne.out 11 (by omega) (by omega)
    have n12 := Hne.out 12 (by omega) (by omega)
    have n13 := Hne.out 13 (by omega) (by omega)
    clear h
    go_enter Try.func14, Try.ntmps14
    go_wp2
    go_ret
    exact ⟨rfl, by first | exact Below.refl _ _ | exact ba _ _⟩
  · rw [nameB_no k (.inr h)]
    have Hne : Hid (∀ c : Int, 1 ≤ c → c ≤ 13 → (k == c) = false) := Lib.hid (fun c h1 h2 => beq_eq_false_iff_ne.2 (by omega))
    have n1 := Hne.out 1 (by omega) (by omega)
    have n2 := Hne.out 2 (by omega) (by omega)
    have n3 := Hne.out 3 (by omega) (by omega)
    have n4 := Hne.out 4 (by omega) (by omega)
    have n5 := Hne.out 5 (by omega) (by omega)
    have n6 := Hne.out 6 (by omega) (by omega)
    have n7 := Hne.out 7 (by omega) (by omega)
    have n8 := Hne.out 8 (by omega) (by omega)
    have n9 := Hne.out 9 (by omega) (by omega)
    have n10 := Hne.out 10 (by omega) (by omega)
    have n11 := Hne.out 11 (by omega) (by omega)
    have n12 := Hne.out 12 (by omega) (by omega)
    have n13 := Hne.out 13 (by omega) (by omega)
    clear h
    go_enter Try.func14, Try.ntmps14
    go_wp2
    go_ret
    exact ⟨rfl, by first | exact Below.refl _ _ | exact ba _ _⟩
  all_goals
    go_enter Try.func14, Try.ntmps14
    go_wp2
    go_ret
    exact ⟨by first | rfl | simp [nameB], by first | exact Below.refl _ _ | exact ba _ _⟩

set_option maxHeartbeats 1000000 in
theorem message_none (id : Int) (A : Option Addr) (n c : Nat) (w : World) (h0 : 0 ≤ id) (h1 : id ≤ 65535) (h : id - 4864 < 1 ∨ 13 < id - 4864) : Calls Try.prog 27 #[.agg #[.int .i64 id, .slice A n c]] w fun e w' => e = .returned (.agg #[.int .i64 (id - 4864), .int .i64 0, .int .u32 0, .int .u32 0, .bool false, .int .u32 0, .int .u32 0]) ∧ Below w.heap.size w w' := by
  have hf := fun w => fieldsOf_any (id - 4864) w
  rw [f_low _ h] at hf
  unfold fv at hf
  have ew : IntKind.i64.wrap (id - 4864) = id - 4864 := IntWalk.i64_in _ (by omega)
  clear h
  have kr := ((Blk.new (w.alloc (.cells #[.int .i64 id, .slice A n c] 45)) 26 #[.int .i64 0, .int .i64 0, .int .u32 0, .int .u32 0, .bool false, .int .u32 0, .int .u32 0])).alloc (.cells #[.int .i64 (id - 4864), .int .i64 0, .int .u32 0, .int .u32 0, .bool false, .int .u32 0, .int .u32 0] 26)
  have km := Blk.new ((w.alloc (.cells #[.int .i64 id, .slice A n c] 45)).alloc (.cells #[.int .i64 0, .int .i64 0, .int .u32 0, .int .u32 0, .bool false, .int .u32 0, .int .u32 0] 26)) 26 #[.int .i64 (id - 4864), .int .i64 0, .int .u32 0, .int .u32 0, .bool false, .int .u32 0, .int .u32 0]
  have hz : ∀ (w : World) (o : Obj), (w.alloc o).heap.size = w.heap.size + 1 := fun w o => by simp
  rw [hz] at kr
  rw [hz, hz] at km
  have hbw := bt (ba2 w (.cells #[.int .i64 id, .slice A n c] 45) (.cells #[.int .i64 0, .int .i64 0, .int .u32 0, .int .u32 0, .bool false, .int .u32 0, .int .u32 0] 26)) (ba _ (.cells #[.int .i64 (id - 4864), .int .i64 0, .int .u32 0, .int .u32 0, .bool false, .int .u32 0, .int .u32 0] 26))
  clear hz
  go_enter Try.func27, Try.ntmps27
  go_wp2_with fail
  refine (hf _).mono ?_
  rintro e w1 ⟨rfl, hb1⟩
  have km1 := (km.below hb1 km.lt).alloc (.cells #[.bool false, .bool false, .bool false, .bool false] 50)
  have kr1 := (kr.below hb1 kr.lt).alloc (.cells #[.bool false, .bool false, .bool false, .bool false] 50)
  have hbf := bt hbw (bt hb1 (ba w1 (.cells #[.bool false, .bool false, .bool false, .bool false] 50)))
  clear km kr hbw hb1
  generalize hid : id - 4864 = kk at *
  clear ew hf
  have c0 := (km1).cell 0
  have c1 := (km1).cell 1
  have c2 := (km1).cell 2
  have c3 := (km1).cell 3
  have c4 := (km1).cell 4
  have c5 := (km1).cell 5
  have c6 := (km1).cell 6
  simp only [List.getElem?_toArray, List.getElem?_cons_zero, List.getElem?_cons_succ] at c0 c1 c2 c3 c4 c5 c6
  have d0 := (kr1).cell 0
  have d1 := (kr1).cell 1
  have d2 := (kr1).cell 2
  have d3 := (kr1).cell 3
  have d4 := (kr1).cell 4
  have d5 := (kr1).cell 5
  have d6 := (kr1).cell 6
  simp only [List.getElem?_toArray, List.getElem?_cons_zero, List.getElem?_cons_succ] at d0 d1 d2 d3 d4 d5 d6
  have f0 := (kr1).frozen 0
  have f1 := (kr1).frozen 1
  have f2 := (kr1).frozen 2
  have f3 := (kr1).frozen 3
  have f4 := (kr1).frozen 4
  have f5 := (kr1).frozen 5
  have f6 := (kr1).frozen 6
  have st0 := kr1.set_ 0 (.int .i64 kk)
  have ee0 := st0.cell 0
  have hs0 := hbf.setCell (p := ⟨w.heap.size + 1, 0, none⟩) (by first | (show _ ≤ _; omega) | simp) (.int .i64 kk)
  have st1 := st0.set_ 1 (.int .i64 0)
  have ee1 := st1.cell 1
  have hs1 := hs0.setCell (p := ⟨w.heap.size + 1, 1, none⟩) (by first | (show _ ≤ _; omega) | simp) (.int .i64 0)
  have st2 := st1.set_ 2 (.int .u32 0)
  have ee2 := st2.cell 2
  have hs2 := hs1.setCell (p := ⟨w.heap.size + 1, 2, none⟩) (by first | (show _ ≤ _; omega) | simp) (.int .u32 0)
  have st3 := st2.set_ 3 (.int .u32 0)
  have ee3 := st3.cell 3
  have hs3 := hs2.setCell (p := ⟨w.heap.size + 1, 3, none⟩) (by first | (show _ ≤ _; omega) | simp) (.int .u32 0)
  have st4 := st3.set_ 4 (.bool false)
  have ee4 := st4.cell 4
  have hs4 := hs3.setCell (p := ⟨w.heap.size + 1, 4, none⟩) (by first | (show _ ≤ _; omega) | simp) (.bool false)
  have st5 := st4.set_ 5 (.int .u32 0)
  have ee5 := st5.cell 5
  have hs5 := hs4.setCell (p := ⟨w.heap.size + 1, 5, none⟩) (by first | (show _ ≤ _; omega) | simp) (.int .u32 0)
  have st6 := st5.set_ 6 (.int .u32 0)
  have ee6 := st6.cell 6
  have hs6 := hs5.setCell (p := ⟨w.heap.size + 1, 6, none⟩) (by first | (show _ ≤ _; omega) | simp) (.int .u32 0)
  simp at ee0 ee1 ee2 ee3 ee4 ee5 ee6
  clear st0 st1 st2 st3 st4 st5 st6
  clear km1 kr1
  go_wp2
  refine bodyPost_ret (by simp [results, Try.results27, go_sem, ee0, ee1, ee2, ee3, ee4, ee5, ee6]; try rfl) rfl ?_
  exact ⟨by first | rfl | rw [hid] | (subst hid; rfl), hs6⟩
end Go.Proofs.Yteniponkakaaaaa
