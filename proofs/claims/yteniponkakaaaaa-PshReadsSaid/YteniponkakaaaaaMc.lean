/- What stands in a message's variable: the program's data. -/
import Derived.Test.YteniponkakaaaaaMb
import Derived.Test.YteniponkakaaaaaPutP
namespace Go.Proofs.Yteniponkakaaaaa
open Go.RowKit
set_option linter.unusedVariables false
set_option linter.unusedSimpArgs false

def dataM (m : MsgV) : List UInt8 := if m.k ≤ 11 then UInt8.ofNat m.u.toNat :: (putL m.a 4 ++ putL m.q 4) ++ [if m.mx then 1 else 0] else if m.k = 12 then putL m.mi 4 ++ putL m.yo 4 else []
theorem dataM_len (m : MsgV) : (dataM m).length ≤ 10 := by unfold dataM; split <;> (try split) <;> simp [putL_length]
theorem own_cap {w : World} {base : Nat} {e : TypeId} {A : Option Addr} {c : Nat} {l : List UInt8} (h : Own w base e A c l) : l.length ≤ c ∧ c ≤ 9223372036854775807 := by
  rcases h.2 with ⟨h1, h2⟩ | ⟨g, cap, cur, h1, _, _, hn, hm, _⟩
  · simp only [Value.slice.injEq] at h1
    obtain ⟨_, h3, rfl⟩ := h1
    omega
  · simp only [Value.slice.injEq] at h1
    obtain ⟨_, _, rfl⟩ := h1
    unfold maxLen at hm
    omega
theorem flag_any (b : Bool) (w : World) : Calls Try.prog 34 #[.bool b] w fun e w' => e = .returned (.int .u8 (((if b then 1 else 0 : UInt8)).toNat : Int)) ∧ w' = w := by
  cases b
  all_goals
    go_enter Try.func34, Try.ntmps34
    go_wp2
    go_ret
    exact ⟨rfl, rfl⟩
theorem put_four (q : Nat) (w : World) (h : q < 4294967296) : Calls Try.prog 45 #[.int .u64 q, .int .i64 4] w (PutOut w (putL q 4) 4) := by
  have := put_any q 4 w (by omega)
  rw [putR_four q h] at this
  exact this.mono fun e w' ⟨A, c, h1, h2, h3⟩ => ⟨A, c, by rw [h1]; simp only [putL_length], h2, h3⟩
def FourO (w : World) (n : Nat) (e : Ending) (w' : World) : Prop := ∃ A c, e = .returned (.slice A 4 c) ∧ Own w' w.heap.size 5 A c (putL n 4) ∧ Below w.heap.size w w'
theorem pfour_any (n : Nat) (w : World) (h : n < 4294967296) : Calls Try.prog 35 #[.int .u32 n] w (FourO w n) := by
  have hp := fun w => put_four n w h
  have ew : IntKind.u64.wrap (n : Int) = (n : Int) := IntWalk.u64_in _ (by omega)
  go_enter Try.func35, Try.ntmps35
  go_wp2_with fail
  refine (hp _).mono ?_
  rintro e w1 ⟨A, c, rfl, own, hb⟩
  go_wp2
  go_ret
  exact ⟨A, c, rfl, own, hb⟩
def DataOut (w : World) (L : List UInt8) (e : Ending) (w' : World) : Prop := ∃ A c, e = .returned (.slice A L.length c) ∧ Own w' w.heap.size 5 A c L ∧ Below w.heap.size w w'

set_option maxHeartbeats 1000000 in
theorem data_refuse (k u : Int) (a q : Nat) (mx : Bool) (mi yo : Nat) (w : World) (h : k = 13) : Calls Try.prog 19 #[.agg #[.int .i64 k, .int .i64 u, .int .u32 a, .int .u32 q, .bool mx, .int .u32 mi, .int .u32 yo]] w (DataOut w []) := by
  have hf := fun w => fieldsOf_any k w
  have e9 : fv (fKn k) (fLu k) (fMi k) (fNa k) = fv true false false false := by subst h; rfl
  rw [e9] at hf
  unfold fv at hf
  clear h e9
  have kb0 := Blk.new w 26 #[.int .i64 k, .int .i64 u, .int .u32 a, .int .u32 q, .bool mx, .int .u32 mi, .int .u32 yo]
  have hbw0 := ba w (.cells #[.int .i64 k, .int .i64 u, .int .u32 a, .int .u32 q, .bool mx, .int .u32 mi, .int .u32 yo] 26)
  obtain ⟨i0, hi, hz0, hz1, hz2⟩ := info_parts Try.infoU8
  go_enter Try.func19, Try.ntmps19
  go_wp2_with fail
  refine (hf _).mono ?_
  rintro e w1 ⟨rfl, hb1⟩
  have kb2 := (kb0.below hb1 kb0.lt).alloc (.cells #[.bool true, .bool false, .bool false, .bool false] 50)
  have kf := Blk.new w1 50 #[.bool true, .bool false, .bool false, .bool false]
  have hbw2 := bt hbw0 (bt hb1 (ba w1 (.cells #[.bool true, .bool false, .bool false, .bool false] 50)))
  clear kb0 hbw0 hb1
  have c0 := (kb2).cell 0
  have c1 := (kb2).cell 1
  have c2 := (kb2).cell 2
  have c3 := (kb2).cell 3
  have c4 := (kb2).cell 4
  have c5 := (kb2).cell 5
  have c6 := (kb2).cell 6
  simp only [List.getElem?_toArray, List.getElem?_cons_zero, List.getElem?_cons_succ] at c0 c1 c2 c3 c4 c5 c6
  go_wp2
  go_ret
  exact ⟨none, 0, rfl, Own.nil, hbw2⟩

set_option maxHeartbeats 1000000 in
theorem data_names (k u : Int) (a q : Nat) (mx : Bool) (mi yo : Nat) (w : World) (h : k = 12) (hmi : mi < 4294967296) (hyo : yo < 4294967296) : Calls Try.prog 19 #[.agg #[.int .i64 k, .int .i64 u, .int .u32 a, .int .u32 q, .bool mx, .int .u32 mi, .int .u32 yo]] w (DataOut w (putL mi 4 ++ putL yo 4)) := by
  have hf := fun w => fieldsOf_any k w
  have e9 : fv (fKn k) (fLu k) (fMi k) (fNa k) = fv true false false true := by subst h; rfl
  rw [e9] at hf
  unfold fv at hf
  have h4a := fun w => pfour_any mi w hmi
  have h4b := fun w => pfour_any yo w hyo
  clear h e9
  have kb0 := Blk.new w 26 #[.int .i64 k, .int .i64 u, .int .u32 a, .int .u32 q, .bool mx, .int .u32 mi, .int .u32 yo]
  have hbw0 := ba w (.cells #[.int .i64 k, .int .i64 u, .int .u32 a, .int .u32 q, .bool mx, .int .u32 mi, .int .u32 yo] 26)
  obtain ⟨i0, hi, hz0, hz1, hz2⟩ := info_parts Try.infoU8
  go_enter Try.func19, Try.ntmps19
  go_wp2_with fail
  refine (hf _).mono ?_
  rintro e w1 ⟨rfl, hb1⟩
  have kb2 := (kb0.below hb1 kb0.lt).alloc (.cells #[.bool true, .bool false, .bool false, .bool true] 50)
  have kf := Blk.new w1 50 #[.bool true, .bool false, .bool false, .bool true]
  have hbw2 := bt hbw0 (bt hb1 (ba w1 (.cells #[.bool true, .bool false, .bool false, .bool true] 50)))
  clear kb0 hbw0 hb1
  have c0 := (kb2).cell 0
  have c1 := (kb2).cell 1
  have c2 := (kb2).cell 2
  have c3 := (kb2).cell 3
  have c4 := (kb2).cell 4
  have c5 := (kb2).cell 5
  have c6 := (kb2).cell 6
  simp only [List.getElem?_toArray, List.getElem?_cons_zero, List.getElem?_cons_succ] at c0 c1 c2 c3 c4 c5 c6
  have d0 := (kf).cell 0
  have d1 := (kf).cell 1
  have d2 := (kf).cell 2
  have d3 := (kf).cell 3
  simp only [List.getElem?_toArray, List.getElem?_cons_zero, List.getElem?_cons_succ] at d0 d1 d2 d3
  go_wp2_with fail
  refine (h4a _).mono ?_
  rintro e w2 ⟨A2, cA2, rfl, own2, hb2⟩
  have kb3 := kb2.below hb2 kb2.lt
  have hbw3 := bt hbw2 hb2
  have HL : Hid (4 = (putL mi 4).length) := Lib.hid (by simp [putL_length])
  have HM : Hid (4 = (putL yo 4).length) := Lib.hid (by simp [putL_length])
  clear c0 c1 c2 c3 c4 c5 c6 d0 d1 d2 d3
  have hs3 := hbw3.size
  go_wp2_with (at_builtin; refine wpList_append_bs _ rfl _ _ 27 rfl w.heap.size 5 i0 _ Try.underlying27 hi hz0 hz1 hz2 rfl none 0 [] 0 rfl rfl Own.nil _ A2 cA2 (putL mi 4) 4 rfl HL.out own2.bs (by simp [putL_length]) hs3 ?_; intro A3 cA3 w3 own3 hg3 _; have hb3 := below_none hg3; have kb4 := kb3.below hb3 kb3.lt; have c0 := kb4.cell 0; have c1 := kb4.cell 1; have c2 := kb4.cell 2; have c3 := kb4.cell 3; have c4 := kb4.cell 4; have c5 := kb4.cell 5; have c6 := kb4.cell 6; simp only [List.getElem?_toArray, List.getElem?_cons_zero, List.getElem?_cons_succ] at c0 c1 c2 c3 c4 c5 c6)
  refine (h4b _).mono ?_
  rintro e w4 ⟨A4, cA4, rfl, own4, hb4⟩
  have own3' := own3.below hb4 (Nat.le_refl _)
  have hbw4 := bt hbw3 (bt hb3 hb4)
  clear c0 c1 c2 c3 c4 c5 c6
  have hs4 := hbw4.size
  rw [List.nil_append] at own3'
  go_wp2_with (at_builtin; refine wpList_append_bs _ rfl _ _ 27 rfl w.heap.size 5 i0 _ Try.underlying27 hi hz0 hz1 hz2 rfl A3 cA3 (putL mi 4) 4 rfl HL.out own3' _ A4 cA4 (putL yo 4) 4 rfl HM.out own4.bs (by simp [putL_length]) hs4 ?_; intro A5 cA5 w5 own5 hg5 _)
  go_ret
  exact ⟨A5, cA5, by simp [putL_length], own5, hbw4.grown hg5 hs4 (fun k e => (own3'.lt _ e).1)⟩

set_option maxHeartbeats 1000000 in
theorem data_luw (k u : Int) (a q : Nat) (mx : Bool) (mi yo : Nat) (w : World) (h1 : 1 ≤ k) (h2 : k ≤ 11) (hok : okL u q = true) (ha : a < 4294967296) (hq : q < 4294967296) : Calls Try.prog 19 #[.agg #[.int .i64 k, .int .i64 u, .int .u32 a, .int .u32 q, .bool mx, .int .u32 mi, .int .u32 yo]] w (DataOut w (UInt8.ofNat u.toNat :: (putL a 4 ++ putL q 4) ++ [if mx then 1 else 0])) := by
  have hf := fun w => fieldsOf_any k w
  have hwr := fun w => write_any u a q w ha hq
  rw [show wrL u a q = (UInt8.ofNat u.toNat :: (putL a 4 ++ putL q 4), 0) by unfold wrL; rw [if_pos hok]] at hwr
  unfold OutB lv at hwr
  have hlen := wrL_len u.toNat a q
  simp only [hlen] at hwr
  have hfl := fun w => flag_any mx w
  generalize hL : UInt8.ofNat u.toNat :: (putL a 4 ++ putL q 4) = L at *
  generalize hX : (if mx then 1 else 0 : UInt8) = X at *
  have HLn : Hid (9 = L.length) := Lib.hid hlen.symm
  clear hlen hL hX hok
  obtain ⟨mxf, hmxf⟩ : ∃ b, fv (fKn k) (fLu k) (fMi k) (fNa k) = fv true true b false := ⟨fMi k, by unfold fKn fLu fNa; rw [decide_eq_true h1, decide_eq_true h2, decide_eq_true (by omega : k ≤ 13), decide_eq_false (by omega : ¬ k = 12)]; rfl⟩
  rw [hmxf] at hf
  unfold fv at hf
  clear hmxf h1 h2
  have kb0 := Blk.new w 26 #[.int .i64 k, .int .i64 u, .int .u32 a, .int .u32 q, .bool mx, .int .u32 mi, .int .u32 yo]
  have hbw0 := ba w (.cells #[.int .i64 k, .int .i64 u, .int .u32 a, .int .u32 q, .bool mx, .int .u32 mi, .int .u32 yo] 26)
  obtain ⟨i0, hi, hz0, hz1, hz2⟩ := info_parts Try.infoU8
  go_enter Try.func19, Try.ntmps19
  go_wp2_with fail
  refine (hf _).mono ?_
  rintro e w1 ⟨rfl, hb1⟩
  have kb2 := (kb0.below hb1 kb0.lt).alloc (.cells #[.bool true, .bool true, .bool mxf, .bool false] 50)
  have kf := Blk.new w1 50 #[.bool true, .bool true, .bool mxf, .bool false]
  have hbw2 := bt hbw0 (bt hb1 (ba w1 (.cells #[.bool true, .bool true, .bool mxf, .bool false] 50)))
  clear kb0 hbw0 hb1
  have c0 := (kb2).cell 0
  have c1 := (kb2).cell 1
  have c2 := (kb2).cell 2
  have c3 := (kb2).cell 3
  have c4 := (kb2).cell 4
  have c5 := (kb2).cell 5
  have c6 := (kb2).cell 6
  simp only [List.getElem?_toArray, List.getElem?_cons_zero, List.getElem?_cons_succ] at c0 c1 c2 c3 c4 c5 c6
  have d0 := (kf).cell 0
  have d1 := (kf).cell 1
  have d2 := (kf).cell 2
  have d3 := (kf).cell 3
  simp only [List.getElem?_toArray, List.getElem?_cons_zero, List.getElem?_cons_succ] at d0 d1 d2 d3
  go_wp2_with fail
  refine (hwr _).mono ?_
  rintro e w2 ⟨A2, cA2, rfl, own2, hb2⟩
  have kb3 := kb2.below hb2 kb2.lt
  have kf3 := kf.below hb2 kf.lt
  have hbw3 := bt hbw2 hb2
  clear c0 c1 c2 c3 c4 c5 c6 d0 d1 d2 d3
  have hs3 : w1.heap.size + 1 ≤ w2.heap.size := by have := hb2.size; simp at this; omega
  have hw01 : w.heap.size ≤ w1.heap.size + 1 := by have := hbw2.size; simp at this; omega
  go_wp2_with (at_builtin; refine wpList_append_bs _ rfl _ _ 27 rfl (w1.heap.size + 1) 5 i0 _ Try.underlying27 hi hz0 hz1 hz2 rfl none 0 [] 0 rfl rfl Own.nil _ A2 cA2 L 9 rfl HLn.out own2.bs (by rw [← HLn.out]; simp) hs3 ?_; intro A3 cA3 w3 own3 hg3 _; have hb3 := below_none hg3; have kb4 := kb3.below hb3 kb3.lt; have c0 := kb4.cell 0; have c1 := kb4.cell 1; have c2 := kb4.cell 2; have c3 := kb4.cell 3; have c4 := kb4.cell 4; have c5 := kb4.cell 5; have c6 := kb4.cell 6; simp only [List.getElem?_toArray, List.getElem?_cons_zero, List.getElem?_cons_succ] at c0 c1 c2 c3 c4 c5 c6)
  refine (hfl _).mono ?_
  rintro e w4 ⟨rfl, rfl⟩
  clear c0 c1 c2 c3 c4 c5 c6
  rw [List.nil_append] at own3
  have hbw4 := bt hbw3 hb3
  have hs4 : w1.heap.size + 1 ≤ w4.heap.size := Nat.le_trans hs3 hb3.size
  have kf5 := kf3.below hb3 kf3.lt
  have own3' := own3.alloc (.cells #[.int .u8 (X.toNat : Int)] 5)
  have hbw5 := bt hbw4 (ba w4 (.cells #[.int .u8 (X.toNat : Int)] 5))
  have hs5 : w1.heap.size + 1 ≤ (w4.alloc (.cells #[.int .u8 (X.toNat : Int)] 5)).heap.size := by simp; omega
  have kf6 := kf5.alloc (.cells #[.int .u8 (X.toNat : Int)] 5)
  have bsx := (raw_new w4 X _ rfl).bs (by omega : w4.heap.size < w4.heap.size + 1)
  go_wp2_with (at_builtin; refine wpList_append_bs _ rfl _ _ 27 rfl (w1.heap.size + 1) 5 i0 _ Try.underlying27 hi hz0 hz1 hz2 rfl A3 cA3 L 9 rfl HLn.out own3' _ _ _ [X] 1 rfl rfl bsx (by rw [← HLn.out]; simp) hs5 ?_; intro A5 cA5 w5 own5 hg5 _; have kf7 := kf6.kept hg5 (fun e => by have := (own3'.lt _ e.symm).1; omega); have d0 := kf7.cell 0; have d1 := kf7.cell 1; have d2 := kf7.cell 2; have d3 := kf7.cell 3; simp only [List.getElem?_toArray, List.getElem?_cons_zero, List.getElem?_cons_succ] at d0 d1 d2 d3)
  go_ret
  exact ⟨A5, cA5, by rw [List.length_append, ← HLn.out]; rfl, own5.base_le hw01, hbw5.grown hg5 hbw5.size (fun k e => by have := (own3'.lt _ e).1; omega)⟩
end Go.Proofs.Yteniponkakaaaaa
