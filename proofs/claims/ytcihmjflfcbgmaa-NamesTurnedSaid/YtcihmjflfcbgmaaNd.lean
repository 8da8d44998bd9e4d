/- Layer 17: the laws on two sides. -/
import Derived.Test.YtcihmjflfcbgmaaNc
import Derived.Test.YtcihmjflfcbgmaaOpenN
import Derived.ChangeKeysEq
namespace Go.Proofs.Ytcihmjflfcbgmaa
open Go.RowKit
set_option linter.unusedVariables false
set_option linter.unusedSimpArgs false

theorem check_cases (m s t k : Int) (wk : Bool) : (∃ x, (m == 0 || t == 0) = true ∧ checkM m s t k wk = (x, 1) ∧ x = 0) ∨ (∃ x, (m == 0 || t == 0) = false ∧ checkM m s t k wk = (x, 0) ∧ 1 ≤ x ∧ x ≤ 5) := by
  unfold checkM
  rcases h : (m == 0 || t == 0) with _ | _
  · right
    rw [if_neg (by simp)]
    split
    · exact ⟨_, rfl, rfl, by omega, by omega⟩
    · split
      · exact ⟨_, rfl, rfl, by omega, by omega⟩
      · split
        · exact ⟨_, rfl, rfl, by omega, by omega⟩
        · split <;> exact ⟨_, rfl, rfl, by omega, by omega⟩
  · left
    rw [if_pos rfl]
    exact ⟨_, rfl, rfl, rfl⟩
theorem bad_of (x : Int) (h1 : 1 ≤ x) (h2 : x ≤ 5) (b : Bool) (h : decide (x < 3) = b) : badB x = !b := by
  subst h
  unfold badB
  by_cases h : x < 3
  · simp [h]; omega
  · simp [h]; omega
/-- What both sides find. -/
theorem both_cases (m s : Int) (k : Bool) (m2 s2 : Int) (k2 : Bool) : (checkM m s m2 s2 k = (0, 1) ∧ checkM m2 s2 m s k2 = (0, 1)) ∨
    (∃ x y, checkM m s m2 s2 k = (x, 0) ∧ checkM m2 s2 m s k2 = (y, 0) ∧ ((decide (x < 3) = false ∧ badB x = true) ∨ (decide (x < 3) = true ∧ badB x = false ∧ decide (y < 3) = false ∧ badB y = true) ∨ (decide (x < 3) = true ∧ badB x = false ∧ decide (y < 3) = true ∧ badB y = false))) := by
  rcases check_cases m s m2 s2 k with ⟨x, h0, h1, rfl⟩ | ⟨x, h0, h1, h3, h4⟩ <;> rcases check_cases m2 s2 m s k2 with ⟨y, g0, g1, rfl⟩ | ⟨y, g0, g1, g3, g4⟩
  · exact .inl ⟨h1, g1⟩
  · rw [Bool.or_comm] at g0; rw [g0] at h0; cases h0
  · rw [Bool.or_comm] at g0; rw [g0] at h0; cases h0
  · refine .inr ⟨x, y, h1, g1, ?_⟩
    have hx := bad_of x h3 h4 _ rfl
    have hy := bad_of y g3 g4 _ rfl
    rcases h5 : decide (x < 3) with _ | _
    · exact .inl ⟨rfl, by rw [hx, h5]; rfl⟩
    · rcases h6 : decide (y < 3) with _ | _
      · exact .inr (.inl ⟨rfl, by rw [hx, h5]; rfl, rfl, by rw [hy, h6]; rfl⟩)
      · exact .inr (.inr ⟨rfl, by rw [hx, h5]; rfl, rfl, by rw [hy, h6]; rfl⟩)

theorem eq2 (x y x' y' : Int) (b : Bool) (h : (x == x' && y == y') = b) (w : World) : (Op.equalIn 10000 32 (.agg #[.int .i64 x, .int .i64 y]) (.agg #[.int .i64 x', .int .i64 y'])).run Try.prog w = .ok b w := by
  obtain ⟨i, hi⟩ : ∃ i, Try.prog.info? 3 = some i := Option.isSome_iff_exists.1 (by kernel_rfl)
  rw [run_equalIn_array w 9999 _ _ Try.underlying32 hi]
  have hc : Try.prog.cellsOf 3 = 1 := by kernel_rfl
  rw [hc]
  subst h
  cases h1 : x == x' <;> cases h2 : y == y' <;> simp [Op.eqItems, List.range, List.range.loop, go_sem, h1, h2]
theorem eq2r (x y : Int) (w : World) : (Op.equalIn 10000 32 (.agg #[.int .i64 x, .int .i64 y]) (.agg #[.int .i64 x, .int .i64 y])).run Try.prog w = .ok true w := eq2 x y x y true (by simp) w
theorem eqSr (m s : Int) (k : Bool) (w : World) : (Op.equalIn 10000 31 (.agg #[.int .u32 m, .int .u32 s, .bool k]) (.agg #[.int .u32 m, .int .u32 s, .bool k])).run Try.prog w = .ok true w := by
  rw [run_equalIn_struct w 9999 31 _ _ (by kernel_rfl) (by kernel_rfl)]
  simp [Op.eqFields, Program.fieldsOf, Try.underlying31, go_sem]

set_option maxHeartbeats 1000000 in
theorem namesBoth_no (m s : Int) (k : Bool) (m2 s2 : Int) (k2 : Bool) (hc : checkM m s m2 s2 k = (0, 1)) (hd : checkM m2 s2 m s k2 = (0, 1)) (w : World) : Calls Try.prog 4 #[.agg #[.int .u32 m, .int .u32 s, .bool k], .agg #[.int .u32 m2, .int .u32 s2, .bool k2]] w fun e w' => e = .returned (.bool true) ∧ Below w.heap.size w w' := by
  have hbw := Below.refl w.heap.size w
  have ka := Blk.new w 31 #[.int .u32 m, .int .u32 s, .bool k]
  try simp only [World.size_alloc] at ka
  have hbw := bt hbw (ba w (.cells #[.int .u32 m, .int .u32 s, .bool k] 31))
  have ka := ka.alloc (.cells #[.int .u32 m2, .int .u32 s2, .bool k2] 31)
  have kb := Blk.new (w.alloc (.cells #[.int .u32 m, .int .u32 s, .bool k] 31)) 31 #[.int .u32 m2, .int .u32 s2, .bool k2]
  try simp only [World.size_alloc] at kb
  have hbw := bt hbw (ba (w.alloc (.cells #[.int .u32 m, .int .u32 s, .bool k] 31)) (.cells #[.int .u32 m2, .int .u32 s2, .bool k2] 31))
  go_enter Try.func4, Try.ntmps4
  have ca0 := ka.cell 0
  have ca1 := ka.cell 1
  have ca2 := ka.cell 2
  simp only [List.getElem?_toArray, List.getElem?_cons_zero, List.getElem?_cons_succ] at ca0 ca1 ca2
  have cb0 := kb.cell 0
  have cb1 := kb.cell 1
  have cb2 := kb.cell 2
  simp only [List.getElem?_toArray, List.getElem?_cons_zero, List.getElem?_cons_succ] at cb0 cb1 cb2
  go_wp2_with fail
  refine (both_no m s k m2 s2 k2 0 hc _).mono ?_
  rintro e v1 ⟨rfl, hb⟩
  have ka := ka.below hb ka.lt
  have kb := kb.below hb kb.lt
  have za := Lib.hid ka.lt
  have zb := Lib.hid kb.lt
  have hbw := bt hbw hb
  clear hb
  clear ca0 ca1 ca2 cb0 cb1 cb2
  have ka := ka.alloc (.cells #[.int .i64 0, .int .i64 0] 32)
  have kb := kb.alloc (.cells #[.int .i64 0, .int .i64 0] 32)
  have kr := Blk.new v1 32 #[.int .i64 0, .int .i64 0]
  try simp only [World.size_alloc] at kr
  have hbw := bt hbw (ba v1 (.cells #[.int .i64 0, .int .i64 0] 32))
  have ca0 := ka.cell 0
  have ca1 := ka.cell 1
  have ca2 := ka.cell 2
  simp only [List.getElem?_toArray, List.getElem?_cons_zero, List.getElem?_cons_succ] at ca0 ca1 ca2
  have cb0 := kb.cell 0
  have cb1 := kb.cell 1
  have cb2 := kb.cell 2
  simp only [List.getElem?_toArray, List.getElem?_cons_zero, List.getElem?_cons_succ] at cb0 cb1 cb2
  have cr0 := kr.cell 0
  have cr1 := kr.cell 1
  simp only [List.getElem?_toArray, List.getElem?_cons_zero, List.getElem?_cons_succ] at cr0 cr1
  go_wp2_with fail
  refine (refcheck_any m s m2 s2 k 0 1 hc _).mono ?_
  rintro e v8 ⟨rfl, rfl⟩
  go_wp2_with fail
  refine (refcheck_any m2 s2 m s k2 0 1 hd _).mono ?_
  rintro e v8 ⟨rfl, rfl⟩
  clear ca0 ca1 ca2 cb0 cb1 cb2 cr0 cr1
  have ca0 := ka.cell 0
  have ca1 := ka.cell 1
  have ca2 := ka.cell 2
  simp only [List.getElem?_toArray, List.getElem?_cons_zero, List.getElem?_cons_succ] at ca0 ca1 ca2
  have cb0 := kb.cell 0
  have cb1 := kb.cell 1
  have cb2 := kb.cell 2
  simp only [List.getElem?_toArray, List.getElem?_cons_zero, List.getElem?_cons_succ] at cb0 cb1 cb2
  have cr0 := kr.cell 0
  have cr1 := kr.cell 1
  simp only [List.getElem?_toArray, List.getElem?_cons_zero, List.getElem?_cons_succ] at cr0 cr1
  go_wp2_with fail
  refine (after_no m s k m2 s2 k2 0 hc _).mono ?_
  rintro e v2 ⟨rfl, hb⟩
  have ka := ka.below hb ka.lt
  have kb := kb.below hb kb.lt
  have kr := kr.below hb kr.lt
  have za := Lib.hid ka.lt
  have zb := Lib.hid kb.lt
  have zr := Lib.hid kr.lt
  have hbw := bt hbw hb
  clear hb
  clear ca0 ca1 ca2 cb0 cb1 cb2 cr0 cr1
  have ca0 := ka.cell 0
  have ca1 := ka.cell 1
  have ca2 := ka.cell 2
  simp only [List.getElem?_toArray, List.getElem?_cons_zero, List.getElem?_cons_succ] at ca0 ca1 ca2
  have cb0 := kb.cell 0
  have cb1 := kb.cell 1
  have cb2 := kb.cell 2
  simp only [List.getElem?_toArray, List.getElem?_cons_zero, List.getElem?_cons_succ] at cb0 cb1 cb2
  have cr0 := kr.cell 0
  have cr1 := kr.cell 1
  simp only [List.getElem?_toArray, List.getElem?_cons_zero, List.getElem?_cons_succ] at cr0 cr1
  have kk := (Blk.new v2 31 #[.int .u32 0, .int .u32 0, .bool false]).alloc (.cells #[.int .u32 0, .int .u32 0, .bool false] 31)
  have yp0 := kk.cell 0
  have fp0 := kk.frozen 0
  clear kk
  have kk := (Blk.new v2 31 #[.int .u32 m, .int .u32 0, .bool false]).alloc (.cells #[.int .u32 0, .int .u32 0, .bool false] 31)
  have yp1 := kk.cell 1
  have fp1 := kk.frozen 1
  clear kk
  have kk := (Blk.new v2 31 #[.int .u32 m, .int .u32 s, .bool false]).alloc (.cells #[.int .u32 0, .int .u32 0, .bool false] 31)
  have yp2 := kk.cell 2
  have fp2 := kk.frozen 2
  clear kk
  have kk := Blk.new (v2.alloc (.cells #[.int .u32 m, .int .u32 s, .bool k] 31)) 31 #[.int .u32 0, .int .u32 0, .bool false]
  simp only [World.size_alloc] at kk
  have yq0 := kk.cell 0
  have fq0 := kk.frozen 0
  clear kk
  have kk := Blk.new (v2.alloc (.cells #[.int .u32 m, .int .u32 s, .bool k] 31)) 31 #[.int .u32 m2, .int .u32 0, .bool false]
  simp only [World.size_alloc] at kk
  have yq1 := kk.cell 1
  have fq1 := kk.frozen 1
  clear kk
  have kk := Blk.new (v2.alloc (.cells #[.int .u32 m, .int .u32 s, .bool k] 31)) 31 #[.int .u32 m2, .int .u32 s2, .bool false]
  simp only [World.size_alloc] at kk
  have yq2 := kk.cell 2
  have fq2 := kk.frozen 2
  clear kk
  simp only [List.getElem?_toArray, List.getElem?_cons_zero, List.getElem?_cons_succ] at yp0 yp1 yp2 yq0 yq1 yq2
  have ka := ka.alloc (.cells #[.int .u32 m, .int .u32 s, .bool k] 31)
  have kb := kb.alloc (.cells #[.int .u32 m, .int .u32 s, .bool k] 31)
  have kr := kr.alloc (.cells #[.int .u32 m, .int .u32 s, .bool k] 31)
  have kp := Blk.new v2 31 #[.int .u32 m, .int .u32 s, .bool k]
  try simp only [World.size_alloc] at kp
  have hbw := bt hbw (ba v2 (.cells #[.int .u32 m, .int .u32 s, .bool k] 31))
  have ka := ka.alloc (.cells #[.int .u32 m2, .int .u32 s2, .bool k2] 31)
  have kb := kb.alloc (.cells #[.int .u32 m2, .int .u32 s2, .bool k2] 31)
  have kr := kr.alloc (.cells #[.int .u32 m2, .int .u32 s2, .bool k2] 31)
  have kp := kp.alloc (.cells #[.int .u32 m2, .int .u32 s2, .bool k2] 31)
  have kq := Blk.new (v2.alloc (.cells #[.int .u32 m, .int .u32 s, .bool k] 31)) 31 #[.int .u32 m2, .int .u32 s2, .bool k2]
  try simp only [World.size_alloc] at kq
  have hbw := bt hbw (ba (v2.alloc (.cells #[.int .u32 m, .int .u32 s, .bool k] 31)) (.cells #[.int .u32 m2, .int .u32 s2, .bool k2] 31))
  have hA2 := eq2r
  have hSi := eqSr
  clear ca0 ca1 ca2 cb0 cb1 cb2 cr0 cr1
  have ca0 := ka.cell 0
  have ca1 := ka.cell 1
  have ca2 := ka.cell 2
  simp only [List.getElem?_toArray, List.getElem?_cons_zero, List.getElem?_cons_succ] at ca0 ca1 ca2
  have cb0 := kb.cell 0
  have cb1 := kb.cell 1
  have cb2 := kb.cell 2
  simp only [List.getElem?_toArray, List.getElem?_cons_zero, List.getElem?_cons_succ] at cb0 cb1 cb2
  have cr0 := kr.cell 0
  have cr1 := kr.cell 1
  simp only [List.getElem?_toArray, List.getElem?_cons_zero, List.getElem?_cons_succ] at cr0 cr1
  have cp0 := kp.cell 0
  have cp1 := kp.cell 1
  have cp2 := kp.cell 2
  simp only [List.getElem?_toArray, List.getElem?_cons_zero, List.getElem?_cons_succ] at cp0 cp1 cp2
  have cq0 := kq.cell 0
  have cq1 := kq.cell 1
  have cq2 := kq.cell 2
  simp only [List.getElem?_toArray, List.getElem?_cons_zero, List.getElem?_cons_succ] at cq0 cq1 cq2
  go_wp2_with fail
  refine (alive_any _).mono ?_
  rintro e v3 ⟨rfl, hb⟩
  have ka := ka.below hb ka.lt
  have kb := kb.below hb kb.lt
  have kr := kr.below hb kr.lt
  have kp := kp.below hb kp.lt
  have kq := kq.below hb kq.lt
  have za := Lib.hid ka.lt
  have zb := Lib.hid kb.lt
  have zr := Lib.hid kr.lt
  have zp := Lib.hid kp.lt
  have zq := Lib.hid kq.lt
  have hbw := bt hbw hb
  clear hb
  clear yp0 fp0 yp1 fp1 yp2 fp2 yq0 fq0 yq1 fq1 yq2 fq2 ca0 ca1 ca2 cb0 cb1 cb2 cr0 cr1 cp0 cp1 cp2 cq0 cq1 cq2
  have ca0 := ka.cell 0
  have ca1 := ka.cell 1
  have ca2 := ka.cell 2
  simp only [List.getElem?_toArray, List.getElem?_cons_zero, List.getElem?_cons_succ] at ca0 ca1 ca2
  have cb0 := kb.cell 0
  have cb1 := kb.cell 1
  have cb2 := kb.cell 2
  simp only [List.getElem?_toArray, List.getElem?_cons_zero, List.getElem?_cons_succ] at cb0 cb1 cb2
  have cr0 := kr.cell 0
  have cr1 := kr.cell 1
  simp only [List.getElem?_toArray, List.getElem?_cons_zero, List.getElem?_cons_succ] at cr0 cr1
  have cp0 := kp.cell 0
  have cp1 := kp.cell 1
  have cp2 := kp.cell 2
  simp only [List.getElem?_toArray, List.getElem?_cons_zero, List.getElem?_cons_succ] at cp0 cp1 cp2
  have cq0 := kq.cell 0
  have cq1 := kq.cell 1
  have cq2 := kq.cell 2
  simp only [List.getElem?_toArray, List.getElem?_cons_zero, List.getElem?_cons_succ] at cq0 cq1 cq2
  go_wp2
  go_ret
  exact ⟨rfl, hbw⟩

set_option maxHeartbeats 1000000 in
theorem namesBoth_bad1 (m s : Int) (k : Bool) (m2 s2 : Int) (k2 : Bool) (x y : Int) (hc : checkM m s m2 s2 k = (x, 0)) (hd : checkM m2 s2 m s k2 = (y, 0)) (hx3 : decide (x < 3) = false) (hx : badB x = true) (w : World) : Calls Try.prog 4 #[.agg #[.int .u32 m, .int .u32 s, .bool k], .agg #[.int .u32 m2, .int .u32 s2, .bool k2]] w fun e w' => e = .returned (.bool true) ∧ Below w.heap.size w w' := by
  have hbw := Below.refl w.heap.size w
  have ka := Blk.new w 31 #[.int .u32 m, .int .u32 s, .bool k]
  try simp only [World.size_alloc] at ka
  have hbw := bt hbw (ba w (.cells #[.int .u32 m, .int .u32 s, .bool k] 31))
  have ka := ka.alloc (.cells #[.int .u32 m2, .int .u32 s2, .bool k2] 31)
  have kb := Blk.new (w.alloc (.cells #[.int .u32 m, .int .u32 s, .bool k] 31)) 31 #[.int .u32 m2, .int .u32 s2, .bool k2]
  try simp only [World.size_alloc] at kb
  have hbw := bt hbw (ba (w.alloc (.cells #[.int .u32 m, .int .u32 s, .bool k] 31)) (.cells #[.int .u32 m2, .int .u32 s2, .bool k2] 31))
  go_enter Try.func4, Try.ntmps4
  have ca0 := ka.cell 0
  have ca1 := ka.cell 1
  have ca2 := ka.cell 2
  simp only [List.getElem?_toArray, List.getElem?_cons_zero, List.getElem?_cons_succ] at ca0 ca1 ca2
  have cb0 := kb.cell 0
  have cb1 := kb.cell 1
  have cb2 := kb.cell 2
  simp only [List.getElem?_toArray, List.getElem?_cons_zero, List.getElem?_cons_succ] at cb0 cb1 cb2
  go_wp2_with fail
  refine (both_ok m s k m2 s2 k2 x y hc hd _).mono ?_
  rintro e v1 ⟨rfl, hb⟩
  have ka := ka.below hb ka.lt
  have kb := kb.below hb kb.lt
  have za := Lib.hid ka.lt
  have zb := Lib.hid kb.lt
  have hbw := bt hbw hb
  clear hb
  clear ca0 ca1 ca2 cb0 cb1 cb2
  have ka := ka.alloc (.cells #[.int .i64 x, .int .i64 y] 32)
  have kb := kb.alloc (.cells #[.int .i64 x, .int .i64 y] 32)
  have kr := Blk.new v1 32 #[.int .i64 x, .int .i64 y]
  try simp only [World.size_alloc] at kr
  have hbw := bt hbw (ba v1 (.cells #[.int .i64 x, .int .i64 y] 32))
  have ca0 := ka.cell 0
  have ca1 := ka.cell 1
  have ca2 := ka.cell 2
  simp only [List.getElem?_toArray, List.getElem?_cons_zero, List.getElem?_cons_succ] at ca0 ca1 ca2
  have cb0 := kb.cell 0
  have cb1 := kb.cell 1
  have cb2 := kb.cell 2
  simp only [List.getElem?_toArray, List.getElem?_cons_zero, List.getElem?_cons_succ] at cb0 cb1 cb2
  have cr0 := kr.cell 0
  have cr1 := kr.cell 1
  simp only [List.getElem?_toArray, List.getElem?_cons_zero, List.getElem?_cons_succ] at cr0 cr1
  go_wp2_with fail
  refine (refcheck_any m s m2 s2 k x 0 hc _).mono ?_
  rintro e v8 ⟨rfl, rfl⟩
  go_wp2_with fail
  refine (refcheck_any m2 s2 m s k2 y 0 hd _).mono ?_
  rintro e v8 ⟨rfl, rfl⟩
  clear ca0 ca1 ca2 cb0 cb1 cb2 cr0 cr1
  have ca0 := ka.cell 0
  have ca1 := ka.cell 1
  have ca2 := ka.cell 2
  simp only [List.getElem?_toArray, List.getElem?_cons_zero, List.getElem?_cons_succ] at ca0 ca1 ca2
  have cb0 := kb.cell 0
  have cb1 := kb.cell 1
  have cb2 := kb.cell 2
  simp only [List.getElem?_toArray, List.getElem?_cons_zero, List.getElem?_cons_succ] at cb0 cb1 cb2
  have cr0 := kr.cell 0
  have cr1 := kr.cell 1
  simp only [List.getElem?_toArray, List.getElem?_cons_zero, List.getElem?_cons_succ] at cr0 cr1
  go_wp2_with fail
  refine (after_bad1 m s k m2 s2 k2 x y hc hd hx _).mono ?_
  rintro e v2 ⟨rfl, hb⟩
  have ka := ka.below hb ka.lt
  have kb := kb.below hb kb.lt
  have kr := kr.below hb kr.lt
  have za := Lib.hid ka.lt
  have zb := Lib.hid kb.lt
  have zr := Lib.hid kr.lt
  have hbw := bt hbw hb
  clear hb
  clear ca0 ca1 ca2 cb0 cb1 cb2 cr0 cr1
  have ca0 := ka.cell 0
  have ca1 := ka.cell 1
  have ca2 := ka.cell 2
  simp only [List.getElem?_toArray, List.getElem?_cons_zero, List.getElem?_cons_succ] at ca0 ca1 ca2
  have cb0 := kb.cell 0
  have cb1 := kb.cell 1
  have cb2 := kb.cell 2
  simp only [List.getElem?_toArray, List.getElem?_cons_zero, List.getElem?_cons_succ] at cb0 cb1 cb2
  have cr0 := kr.cell 0
  have cr1 := kr.cell 1
  simp only [List.getElem?_toArray, List.getElem?_cons_zero, List.getElem?_cons_succ] at cr0 cr1
  have kk := (Blk.new v2 31 #[.int .u32 0, .int .u32 0, .bool false]).alloc (.cells #[.int .u32 0, .int .u32 0, .bool false] 31)
  have yp0 := kk.cell 0
  have fp0 := kk.frozen 0
  clear kk
  have kk := (Blk.new v2 31 #[.int .u32 m, .int .u32 0, .bool false]).alloc (.cells #[.int .u32 0, .int .u32 0, .bool false] 31)
  have yp1 := kk.cell 1
  have fp1 := kk.frozen 1
  clear kk
  have kk := (Blk.new v2 31 #[.int .u32 m, .int .u32 s, .bool false]).alloc (.cells #[.int .u32 0, .int .u32 0, .bool false] 31)
  have yp2 := kk.cell 2
  have fp2 := kk.frozen 2
  clear kk
  have kk := Blk.new (v2.alloc (.cells #[.int .u32 m, .int .u32 s, .bool k] 31)) 31 #[.int .u32 0, .int .u32 0, .bool false]
  simp only [World.size_alloc] at kk
  have yq0 := kk.cell 0
  have fq0 := kk.frozen 0
  clear kk
  have kk := Blk.new (v2.alloc (.cells #[.int .u32 m, .int .u32 s, .bool k] 31)) 31 #[.int .u32 m2, .int .u32 0, .bool false]
  simp only [World.size_alloc] at kk
  have yq1 := kk.cell 1
  have fq1 := kk.frozen 1
  clear kk
  have kk := Blk.new (v2.alloc (.cells #[.int .u32 m, .int .u32 s, .bool k] 31)) 31 #[.int .u32 m2, .int .u32 s2, .bool false]
  simp only [World.size_alloc] at kk
  have yq2 := kk.cell 2
  have fq2 := kk.frozen 2
  clear kk
  simp only [List.getElem?_toArray, List.getElem?_cons_zero, List.getElem?_cons_succ] at yp0 yp1 yp2 yq0 yq1 yq2
  have ka := ka.alloc (.cells #[.int .u32 m, .int .u32 s, .bool k] 31)
  have kb := kb.alloc (.cells #[.int .u32 m, .int .u32 s, .bool k] 31)
  have kr := kr.alloc (.cells #[.int .u32 m, .int .u32 s, .bool k] 31)
  have kp := Blk.new v2 31 #[.int .u32 m, .int .u32 s, .bool k]
  try simp only [World.size_alloc] at kp
  have hbw := bt hbw (ba v2 (.cells #[.int .u32 m, .int .u32 s, .bool k] 31))
  have ka := ka.alloc (.cells #[.int .u32 m2, .int .u32 s2, .bool k2] 31)
  have kb := kb.alloc (.cells #[.int .u32 m2, .int .u32 s2, .bool k2] 31)
  have kr := kr.alloc (.cells #[.int .u32 m2, .int .u32 s2, .bool k2] 31)
  have kp := kp.alloc (.cells #[.int .u32 m2, .int .u32 s2, .bool k2] 31)
  have kq := Blk.new (v2.alloc (.cells #[.int .u32 m, .int .u32 s, .bool k] 31)) 31 #[.int .u32 m2, .int .u32 s2, .bool k2]
  try simp only [World.size_alloc] at kq
  have hbw := bt hbw (ba (v2.alloc (.cells #[.int .u32 m, .int .u32 s, .bool k] 31)) (.cells #[.int .u32 m2, .int .u32 s2, .bool k2] 31))
  have hA2 := eq2r
  have hSi := eqSr
  clear ca0 ca1 ca2 cb0 cb1 cb2 cr0 cr1
  have ca0 := ka.cell 0
  have ca1 := ka.cell 1
  have ca2 := ka.cell 2
  simp only [List.getElem?_toArray, List.getElem?_cons_zero, List.getElem?_cons_succ] at ca0 ca1 ca2
  have cb0 := kb.cell 0
  have cb1 := kb.cell 1
  have cb2 := kb.cell 2
  simp only [List.getElem?_toArray, List.getElem?_cons_zero, List.getElem?_cons_succ] at cb0 cb1 cb2
  have cr0 := kr.cell 0
  have cr1 := kr.cell 1
  simp only [List.getElem?_toArray, List.getElem?_cons_zero, List.getElem?_cons_succ] at cr0 cr1
  have cp0 := kp.cell 0
  have cp1 := kp.cell 1
  have cp2 := kp.cell 2
  simp only [List.getElem?_toArray, List.getElem?_cons_zero, List.getElem?_cons_succ] at cp0 cp1 cp2
  have cq0 := kq.cell 0
  have cq1 := kq.cell 1
  have cq2 := kq.cell 2
  simp only [List.getElem?_toArray, List.getElem?_cons_zero, List.getElem?_cons_succ] at cq0 cq1 cq2
  go_wp2_with fail
  refine (alive_any _).mono ?_
  rintro e v3 ⟨rfl, hb⟩
  have ka := ka.below hb ka.lt
  have kb := kb.below hb kb.lt
  have kr := kr.below hb kr.lt
  have kp := kp.below hb kp.lt
  have kq := kq.below hb kq.lt
  have za := Lib.hid ka.lt
  have zb := Lib.hid kb.lt
  have zr := Lib.hid kr.lt
  have zp := Lib.hid kp.lt
  have zq := Lib.hid kq.lt
  have hbw := bt hbw hb
  clear hb
  clear yp0 fp0 yp1 fp1 yp2 fp2 yq0 fq0 yq1 fq1 yq2 fq2 ca0 ca1 ca2 cb0 cb1 cb2 cr0 cr1 cp0 cp1 cp2 cq0 cq1 cq2
  have ca0 := ka.cell 0
  have ca1 := ka.cell 1
  have ca2 := ka.cell 2
  simp only [List.getElem?_toArray, List.getElem?_cons_zero, List.getElem?_cons_succ] at ca0 ca1 ca2
  have cb0 := kb.cell 0
  have cb1 := kb.cell 1
  have cb2 := kb.cell 2
  simp only [List.getElem?_toArray, List.getElem?_cons_zero, List.getElem?_cons_succ] at cb0 cb1 cb2
  have cr0 := kr.cell 0
  have cr1 := kr.cell 1
  simp only [List.getElem?_toArray, List.getElem?_cons_zero, List.getElem?_cons_succ] at cr0 cr1
  have cp0 := kp.cell 0
  have cp1 := kp.cell 1
  have cp2 := kp.cell 2
  simp only [List.getElem?_toArray, List.getElem?_cons_zero, List.getElem?_cons_succ] at cp0 cp1 cp2
  have cq0 := kq.cell 0
  have cq1 := kq.cell 1
  have cq2 := kq.cell 2
  simp only [List.getElem?_toArray, List.getElem?_cons_zero, List.getElem?_cons_succ] at cq0 cq1 cq2
  go_wp2
  go_ret
  exact ⟨rfl, hbw⟩

set_option maxHeartbeats 1000000 in
theorem namesBoth_bad2 (m s : Int) (k : Bool) (m2 s2 : Int) (k2 : Bool) (x y : Int) (hc : checkM m s m2 s2 k = (x, 0)) (hd : checkM m2 s2 m s k2 = (y, 0)) (hx3 : decide (x < 3) = true) (hx : badB x = false) (hy3 : decide (y < 3) = false) (hy : badB y = true) (w : World) : Calls Try.prog 4 #[.agg #[.int .u32 m, .int .u32 s, .bool k], .agg #[.int .u32 m2, .int .u32 s2, .bool k2]] w fun e w' => e = .returned (.bool true) ∧ Below w.heap.size w w' := by
  have hbw := Below.refl w.heap.size w
  have ka := Blk.new w 31 #[.int .u32 m, .int .u32 s, .bool k]
  try simp only [World.size_alloc] at ka
  have hbw := bt hbw (ba w (.cells #[.int .u32 m, .int .u32 s, .bool k] 31))
  have ka := ka.alloc (.cells #[.int .u32 m2, .int .u32 s2, .bool k2] 31)
  have kb := Blk.new (w.alloc (.cells #[.int .u32 m, .int .u32 s, .bool k] 31)) 31 #[.int .u32 m2, .int .u32 s2, .bool k2]
  try simp only [World.size_alloc] at kb
  have hbw := bt hbw (ba (w.alloc (.cells #[.int .u32 m, .int .u32 s, .bool k] 31)) (.cells #[.int .u32 m2, .int .u32 s2, .bool k2] 31))
  go_enter Try.func4, Try.ntmps4
  have ca0 := ka.cell 0
  have ca1 := ka.cell 1
  have ca2 := ka.cell 2
  simp only [List.getElem?_toArray, List.getElem?_cons_zero, List.getElem?_cons_succ] at ca0 ca1 ca2
  have cb0 := kb.cell 0
  have cb1 := kb.cell 1
  have cb2 := kb.cell 2
  simp only [List.getElem?_toArray, List.getElem?_cons_zero, List.getElem?_cons_succ] at cb0 cb1 cb2
  go_wp2_with fail
  refine (both_ok m s k m2 s2 k2 x y hc hd _).mono ?_
  rintro e v1 ⟨rfl, hb⟩
  have ka := ka.below hb ka.lt
  have kb := kb.below hb kb.lt
  have za := Lib.hid ka.lt
  have zb := Lib.hid kb.lt
  have hbw := bt hbw hb
  clear hb
  clear ca0 ca1 ca2 cb0 cb1 cb2
  have ka := ka.alloc (.cells #[.int .i64 x, .int .i64 y] 32)
  have kb := kb.alloc (.cells #[.int .i64 x, .int .i64 y] 32)
  have kr := Blk.new v1 32 #[.int .i64 x, .int .i64 y]
  try simp only [World.size_alloc] at kr
  have hbw := bt hbw (ba v1 (.cells #[.int .i64 x, .int .i64 y] 32))
  have ca0 := ka.cell 0
  have ca1 := ka.cell 1
  have ca2 := ka.cell 2
  simp only [List.getElem?_toArray, List.getElem?_cons_zero, List.getElem?_cons_succ] at ca0 ca1 ca2
  have cb0 := kb.cell 0
  have cb1 := kb.cell 1
  have cb2 := kb.cell 2
  simp only [List.getElem?_toArray, List.getElem?_cons_zero, List.getElem?_cons_succ] at cb0 cb1 cb2
  have cr0 := kr.cell 0
  have cr1 := kr.cell 1
  simp only [List.getElem?_toArray, List.getElem?_cons_zero, List.getElem?_cons_succ] at cr0 cr1
  go_wp2_with fail
  refine (refcheck_any m s m2 s2 k x 0 hc _).mono ?_
  rintro e v8 ⟨rfl, rfl⟩
  go_wp2_with fail
  refine (refcheck_any m2 s2 m s k2 y 0 hd _).mono ?_
  rintro e v8 ⟨rfl, rfl⟩
  clear ca0 ca1 ca2 cb0 cb1 cb2 cr0 cr1
  have ca0 := ka.cell 0
  have ca1 := ka.cell 1
  have ca2 := ka.cell 2
  simp only [List.getElem?_toArray, List.getElem?_cons_zero, List.getElem?_cons_succ] at ca0 ca1 ca2
  have cb0 := kb.cell 0
  have cb1 := kb.cell 1
  have cb2 := kb.cell 2
  simp only [List.getElem?_toArray, List.getElem?_cons_zero, List.getElem?_cons_succ] at cb0 cb1 cb2
  have cr0 := kr.cell 0
  have cr1 := kr.cell 1
  simp only [List.getElem?_toArray, List.getElem?_cons_zero, List.getElem?_cons_succ] at cr0 cr1
  go_wp2_with fail
  refine (after_bad2 m s k m2 s2 k2 x y hc hd hx hy _).mono ?_
  rintro e v2 ⟨rfl, hb⟩
  have ka := ka.below hb ka.lt
  have kb := kb.below hb kb.lt
  have kr := kr.below hb kr.lt
  have za := Lib.hid ka.lt
  have zb := Lib.hid kb.lt
  have zr := Lib.hid kr.lt
  have hbw := bt hbw hb
  clear hb
  clear ca0 ca1 ca2 cb0 cb1 cb2 cr0 cr1
  have ca0 := ka.cell 0
  have ca1 := ka.cell 1
  have ca2 := ka.cell 2
  simp only [List.getElem?_toArray, List.getElem?_cons_zero, List.getElem?_cons_succ] at ca0 ca1 ca2
  have cb0 := kb.cell 0
  have cb1 := kb.cell 1
  have cb2 := kb.cell 2
  simp only [List.getElem?_toArray, List.getElem?_cons_zero, List.getElem?_cons_succ] at cb0 cb1 cb2
  have cr0 := kr.cell 0
  have cr1 := kr.cell 1
  simp only [List.getElem?_toArray, List.getElem?_cons_zero, List.getElem?_cons_succ] at cr0 cr1
  have kk := (Blk.new v2 31 #[.int .u32 0, .int .u32 0, .bool false]).alloc (.cells #[.int .u32 0, .int .u32 0, .bool false] 31)
  have yp0 := kk.cell 0
  have fp0 := kk.frozen 0
  clear kk
  have kk := (Blk.new v2 31 #[.int .u32 m, .int .u32 0, .bool false]).alloc (.cells #[.int .u32 0, .int .u32 0, .bool false] 31)
  have yp1 := kk.cell 1
  have fp1 := kk.frozen 1
  clear kk
  have kk := (Blk.new v2 31 #[.int .u32 m, .int .u32 s, .bool false]).alloc (.cells #[.int .u32 0, .int .u32 0, .bool false] 31)
  have yp2 := kk.cell 2
  have fp2 := kk.frozen 2
  clear kk
  have kk := Blk.new (v2.alloc (.cells #[.int .u32 m, .int .u32 s, .bool k] 31)) 31 #[.int .u32 0, .int .u32 0, .bool false]
  simp only [World.size_alloc] at kk
  have yq0 := kk.cell 0
  have fq0 := kk.frozen 0
  clear kk
  have kk := Blk.new (v2.alloc (.cells #[.int .u32 m, .int .u32 s, .bool k] 31)) 31 #[.int .u32 m2, .int .u32 0, .bool false]
  simp only [World.size_alloc] at kk
  have yq1 := kk.cell 1
  have fq1 := kk.frozen 1
  clear kk
  have kk := Blk.new (v2.alloc (.cells #[.int .u32 m, .int .u32 s, .bool k] 31)) 31 #[.int .u32 m2, .int .u32 s2, .bool false]
  simp only [World.size_alloc] at kk
  have yq2 := kk.cell 2
  have fq2 := kk.frozen 2
  clear kk
  simp only [List.getElem?_toArray, List.getElem?_cons_zero, List.getElem?_cons_succ] at yp0 yp1 yp2 yq0 yq1 yq2
  have ka := ka.alloc (.cells #[.int .u32 m, .int .u32 s, .bool k] 31)
  have kb := kb.alloc (.cells #[.int .u32 m, .int .u32 s, .bool k] 31)
  have kr := kr.alloc (.cells #[.int .u32 m, .int .u32 s, .bool k] 31)
  have kp := Blk.new v2 31 #[.int .u32 m, .int .u32 s, .bool k]
  try simp only [World.size_alloc] at kp
  have hbw := bt hbw (ba v2 (.cells #[.int .u32 m, .int .u32 s, .bool k] 31))
  have ka := ka.alloc (.cells #[.int .u32 m2, .int .u32 s2, .bool k2] 31)
  have kb := kb.alloc (.cells #[.int .u32 m2, .int .u32 s2, .bool k2] 31)
  have kr := kr.alloc (.cells #[.int .u32 m2, .int .u32 s2, .bool k2] 31)
  have kp := kp.alloc (.cells #[.int .u32 m2, .int .u32 s2, .bool k2] 31)
  have kq := Blk.new (v2.alloc (.cells #[.int .u32 m, .int .u32 s, .bool k] 31)) 31 #[.int .u32 m2, .int .u32 s2, .bool k2]
  try simp only [World.size_alloc] at kq
  have hbw := bt hbw (ba (v2.alloc (.cells #[.int .u32 m, .int .u32 s, .bool k] 31)) (.cells #[.int .u32 m2, .int .u32 s2, .bool k2] 31))
  have hA2 := eq2r
  have hSi := eqSr
  clear ca0 ca1 ca2 cb0 cb1 cb2 cr0 cr1
  have ca0 := ka.cell 0
  have ca1 := ka.cell 1
  have ca2 := ka.cell 2
  simp only [List.getElem?_toArray, List.getElem?_cons_zero, List.getElem?_cons_succ] at ca0 ca1 ca2
  have cb0 := kb.cell 0
  have cb1 := kb.cell 1
  have cb2 := kb.cell 2
  simp only [List.getElem?_toArray, List.getElem?_cons_zero, List.getElem?_cons_succ] at cb0 cb1 cb2
  have cr0 := kr.cell 0
  have cr1 := kr.cell 1
  simp only [List.getElem?_toArray, List.getElem?_cons_zero, List.getElem?_cons_succ] at cr0 cr1
  have cp0 := kp.cell 0
  have cp1 := kp.cell 1
  have cp2 := kp.cell 2
  simp only [List.getElem?_toArray, List.getElem?_cons_zero, List.getElem?_cons_succ] at cp0 cp1 cp2
  have cq0 := kq.cell 0
  have cq1 := kq.cell 1
  have cq2 := kq.cell 2
  simp only [List.getElem?_toArray, List.getElem?_cons_zero, List.getElem?_cons_succ] at cq0 cq1 cq2
  go_wp2_with fail
  refine (alive_any _).mono ?_
  rintro e v3 ⟨rfl, hb⟩
  have ka := ka.below hb ka.lt
  have kb := kb.below hb kb.lt
  have kr := kr.below hb kr.lt
  have kp := kp.below hb kp.lt
  have kq := kq.below hb kq.lt
  have za := Lib.hid ka.lt
  have zb := Lib.hid kb.lt
  have zr := Lib.hid kr.lt
  have zp := Lib.hid kp.lt
  have zq := Lib.hid kq.lt
  have hbw := bt hbw hb
  clear hb
  clear yp0 fp0 yp1 fp1 yp2 fp2 yq0 fq0 yq1 fq1 yq2 fq2 ca0 ca1 ca2 cb0 cb1 cb2 cr0 cr1 cp0 cp1 cp2 cq0 cq1 cq2
  have ca0 := ka.cell 0
  have ca1 := ka.cell 1
  have ca2 := ka.cell 2
  simp only [List.getElem?_toArray, List.getElem?_cons_zero, List.getElem?_cons_succ] at ca0 ca1 ca2
  have cb0 := kb.cell 0
  have cb1 := kb.cell 1
  have cb2 := kb.cell 2
  simp only [List.getElem?_toArray, List.getElem?_cons_zero, List.getElem?_cons_succ] at cb0 cb1 cb2
  have cr0 := kr.cell 0
  have cr1 := kr.cell 1
  simp only [List.getElem?_toArray, List.getElem?_cons_zero, List.getElem?_cons_succ] at cr0 cr1
  have cp0 := kp.cell 0
  have cp1 := kp.cell 1
  have cp2 := kp.cell 2
  simp only [List.getElem?_toArray, List.getElem?_cons_zero, List.getElem?_cons_succ] at cp0 cp1 cp2
  have cq0 := kq.cell 0
  have cq1 := kq.cell 1
  have cq2 := kq.cell 2
  simp only [List.getElem?_toArray, List.getElem?_cons_zero, List.getElem?_cons_succ] at cq0 cq1 cq2
  go_wp2
  go_ret
  exact ⟨rfl, hbw⟩

set_option maxHeartbeats 1000000 in
theorem namesBoth_ok (m s : Int) (k : Bool) (m2 s2 : Int) (k2 : Bool) (x y : Int) (hc : checkM m s m2 s2 k = (x, 0)) (hd : checkM m2 s2 m s k2 = (y, 0)) (hx3 : decide (x < 3) = true) (hx : badB x = false) (hy3 : decide (y < 3) = true) (hy : badB y = false) (w : World) : Calls Try.prog 4 #[.agg #[.int .u32 m, .int .u32 s, .bool k], .agg #[.int .u32 m2, .int .u32 s2, .bool k2]] w fun e w' => e = .returned (.bool true) ∧ Below w.heap.size w w' := by
  have hbw := Below.refl w.heap.size w
  have ka := Blk.new w 31 #[.int .u32 m, .int .u32 s, .bool k]
  try simp only [World.size_alloc] at ka
  have hbw := bt hbw (ba w (.cells #[.int .u32 m, .int .u32 s, .bool k] 31))
  have ka := ka.alloc (.cells #[.int .u32 m2, .int .u32 s2, .bool k2] 31)
  have kb := Blk.new (w.alloc (.cells #[.int .u32 m, .int .u32 s, .bool k] 31)) 31 #[.int .u32 m2, .int .u32 s2, .bool k2]
  try simp only [World.size_alloc] at kb
  have hbw := bt hbw (ba (w.alloc (.cells #[.int .u32 m, .int .u32 s, .bool k] 31)) (.cells #[.int .u32 m2, .int .u32 s2, .bool k2] 31))
  go_enter Try.func4, Try.ntmps4
  have ca0 := ka.cell 0
  have ca1 := ka.cell 1
  have ca2 := ka.cell 2
  simp only [List.getElem?_toArray, List.getElem?_cons_zero, List.getElem?_cons_succ] at ca0 ca1 ca2
  have cb0 := kb.cell 0
  have cb1 := kb.cell 1
  have cb2 := kb.cell 2
  simp only [List.getElem?_toArray, List.getElem?_cons_zero, List.getElem?_cons_succ] at cb0 cb1 cb2
  go_wp2_with fail
  refine (both_ok m s k m2 s2 k2 x y hc hd _).mono ?_
  rintro e v1 ⟨rfl, hb⟩
  have ka := ka.below hb ka.lt
  have kb := kb.below hb kb.lt
  have za := Lib.hid ka.lt
  have zb := Lib.hid kb.lt
  have hbw := bt hbw hb
  clear hb
  clear ca0 ca1 ca2 cb0 cb1 cb2
  have ka := ka.alloc (.cells #[.int .i64 x, .int .i64 y] 32)
  have kb := kb.alloc (.cells #[.int .i64 x, .int .i64 y] 32)
  have kr := Blk.new v1 32 #[.int .i64 x, .int .i64 y]
  try simp only [World.size_alloc] at kr
  have hbw := bt hbw (ba v1 (.cells #[.int .i64 x, .int .i64 y] 32))
  have ca0 := ka.cell 0
  have ca1 := ka.cell 1
  have ca2 := ka.cell 2
  simp only [List.getElem?_toArray, List.getElem?_cons_zero, List.getElem?_cons_succ] at ca0 ca1 ca2
  have cb0 := kb.cell 0
  have cb1 := kb.cell 1
  have cb2 := kb.cell 2
  simp only [List.getElem?_toArray, List.getElem?_cons_zero, List.getElem?_cons_succ] at cb0 cb1 cb2
  have cr0 := kr.cell 0
  have cr1 := kr.cell 1
  simp only [List.getElem?_toArray, List.getElem?_cons_zero, List.getElem?_cons_succ] at cr0 cr1
  go_wp2_with fail
  refine (refcheck_any m s m2 s2 k x 0 hc _).mono ?_
  rintro e v8 ⟨rfl, rfl⟩
  go_wp2_with fail
  refine (refcheck_any m2 s2 m s k2 y 0 hd _).mono ?_
  rintro e v8 ⟨rfl, rfl⟩
  clear ca0 ca1 ca2 cb0 cb1 cb2 cr0 cr1
  have ca0 := ka.cell 0
  have ca1 := ka.cell 1
  have ca2 := ka.cell 2
  simp only [List.getElem?_toArray, List.getElem?_cons_zero, List.getElem?_cons_succ] at ca0 ca1 ca2
  have cb0 := kb.cell 0
  have cb1 := kb.cell 1
  have cb2 := kb.cell 2
  simp only [List.getElem?_toArray, List.getElem?_cons_zero, List.getElem?_cons_succ] at cb0 cb1 cb2
  have cr0 := kr.cell 0
  have cr1 := kr.cell 1
  simp only [List.getElem?_toArray, List.getElem?_cons_zero, List.getElem?_cons_succ] at cr0 cr1
  go_wp2_with fail
  refine (after_ok m s k m2 s2 k2 x y hc hd hx hy _).mono ?_
  rintro e v2 ⟨rfl, hb⟩
  have ka := ka.below hb ka.lt
  have kb := kb.below hb kb.lt
  have kr := kr.below hb kr.lt
  have za := Lib.hid ka.lt
  have zb := Lib.hid kb.lt
  have zr := Lib.hid kr.lt
  have hbw := bt hbw hb
  clear hb
  clear ca0 ca1 ca2 cb0 cb1 cb2 cr0 cr1
  have ca0 := ka.cell 0
  have ca1 := ka.cell 1
  have ca2 := ka.cell 2
  simp only [List.getElem?_toArray, List.getElem?_cons_zero, List.getElem?_cons_succ] at ca0 ca1 ca2
  have cb0 := kb.cell 0
  have cb1 := kb.cell 1
  have cb2 := kb.cell 2
  simp only [List.getElem?_toArray, List.getElem?_cons_zero, List.getElem?_cons_succ] at cb0 cb1 cb2
  have cr0 := kr.cell 0
  have cr1 := kr.cell 1
  simp only [List.getElem?_toArray, List.getElem?_cons_zero, List.getElem?_cons_succ] at cr0 cr1
  have kk := (Blk.new v2 31 #[.int .u32 0, .int .u32 0, .bool false]).alloc (.cells #[.int .u32 0, .int .u32 0, .bool false] 31)
  have yp0 := kk.cell 0
  have fp0 := kk.frozen 0
  clear kk
  have kk := (Blk.new v2 31 #[.int .u32 m, .int .u32 0, .bool false]).alloc (.cells #[.int .u32 0, .int .u32 0, .bool false] 31)
  have yp1 := kk.cell 1
  have fp1 := kk.frozen 1
  clear kk
  have kk := (Blk.new v2 31 #[.int .u32 m, .int .u32 m2, .bool false]).alloc (.cells #[.int .u32 0, .int .u32 0, .bool false] 31)
  have yp2 := kk.cell 2
  have fp2 := kk.frozen 2
  clear kk
  have kk := Blk.new (v2.alloc (.cells #[.int .u32 m, .int .u32 m2, .bool k] 31)) 31 #[.int .u32 0, .int .u32 0, .bool false]
  simp only [World.size_alloc] at kk
  have yq0 := kk.cell 0
  have fq0 := kk.frozen 0
  clear kk
  have kk := Blk.new (v2.alloc (.cells #[.int .u32 m, .int .u32 m2, .bool k] 31)) 31 #[.int .u32 m2, .int .u32 0, .bool false]
  simp only [World.size_alloc] at kk
  have yq1 := kk.cell 1
  have fq1 := kk.frozen 1
  clear kk
  have kk := Blk.new (v2.alloc (.cells #[.int .u32 m, .int .u32 m2, .bool k] 31)) 31 #[.int .u32 m2, .int .u32 m, .bool false]
  simp only [World.size_alloc] at kk
  have yq2 := kk.cell 2
  have fq2 := kk.frozen 2
  clear kk
  simp only [List.getElem?_toArray, List.getElem?_cons_zero, List.getElem?_cons_succ] at yp0 yp1 yp2 yq0 yq1 yq2
  have ka := ka.alloc (.cells #[.int .u32 m, .int .u32 m2, .bool k] 31)
  have kb := kb.alloc (.cells #[.int .u32 m, .int .u32 m2, .bool k] 31)
  have kr := kr.alloc (.cells #[.int .u32 m, .int .u32 m2, .bool k] 31)
  have kp := Blk.new v2 31 #[.int .u32 m, .int .u32 m2, .bool k]
  try simp only [World.size_alloc] at kp
  have hbw := bt hbw (ba v2 (.cells #[.int .u32 m, .int .u32 m2, .bool k] 31))
  have ka := ka.alloc (.cells #[.int .u32 m2, .int .u32 m, .bool k2] 31)
  have kb := kb.alloc (.cells #[.int .u32 m2, .int .u32 m, .bool k2] 31)
  have kr := kr.alloc (.cells #[.int .u32 m2, .int .u32 m, .bool k2] 31)
  have kp := kp.alloc (.cells #[.int .u32 m2, .int .u32 m, .bool k2] 31)
  have kq := Blk.new (v2.alloc (.cells #[.int .u32 m, .int .u32 m2, .bool k] 31)) 31 #[.int .u32 m2, .int .u32 m, .bool k2]
  try simp only [World.size_alloc] at kq
  have hbw := bt hbw (ba (v2.alloc (.cells #[.int .u32 m, .int .u32 m2, .bool k] 31)) (.cells #[.int .u32 m2, .int .u32 m, .bool k2] 31))
  have hA2 := eq2r
  have hSi := eqSr
  clear ca0 ca1 ca2 cb0 cb1 cb2 cr0 cr1
  have ca0 := ka.cell 0
  have ca1 := ka.cell 1
  have ca2 := ka.cell 2
  simp only [List.getElem?_toArray, List.getElem?_cons_zero, List.getElem?_cons_succ] at ca0 ca1 ca2
  have cb0 := kb.cell 0
  have cb1 := kb.cell 1
  have cb2 := kb.cell 2
  simp only [List.getElem?_toArray, List.getElem?_cons_zero, List.getElem?_cons_succ] at cb0 cb1 cb2
  have cr0 := kr.cell 0
  have cr1 := kr.cell 1
  simp only [List.getElem?_toArray, List.getElem?_cons_zero, List.getElem?_cons_succ] at cr0 cr1
  have cp0 := kp.cell 0
  have cp1 := kp.cell 1
  have cp2 := kp.cell 2
  simp only [List.getElem?_toArray, List.getElem?_cons_zero, List.getElem?_cons_succ] at cp0 cp1 cp2
  have cq0 := kq.cell 0
  have cq1 := kq.cell 1
  have cq2 := kq.cell 2
  simp only [List.getElem?_toArray, List.getElem?_cons_zero, List.getElem?_cons_succ] at cq0 cq1 cq2
  go_wp2_with fail
  refine (alive_any _).mono ?_
  rintro e v3 ⟨rfl, hb⟩
  have ka := ka.below hb ka.lt
  have kb := kb.below hb kb.lt
  have kr := kr.below hb kr.lt
  have kp := kp.below hb kp.lt
  have kq := kq.below hb kq.lt
  have za := Lib.hid ka.lt
  have zb := Lib.hid kb.lt
  have zr := Lib.hid kr.lt
  have zp := Lib.hid kp.lt
  have zq := Lib.hid kq.lt
  have hbw := bt hbw hb
  clear hb
  clear yp0 fp0 yp1 fp1 yp2 fp2 yq0 fq0 yq1 fq1 yq2 fq2 ca0 ca1 ca2 cb0 cb1 cb2 cr0 cr1 cp0 cp1 cp2 cq0 cq1 cq2
  have ca0 := ka.cell 0
  have ca1 := ka.cell 1
  have ca2 := ka.cell 2
  simp only [List.getElem?_toArray, List.getElem?_cons_zero, List.getElem?_cons_succ] at ca0 ca1 ca2
  have cb0 := kb.cell 0
  have cb1 := kb.cell 1
  have cb2 := kb.cell 2
  simp only [List.getElem?_toArray, List.getElem?_cons_zero, List.getElem?_cons_succ] at cb0 cb1 cb2
  have cr0 := kr.cell 0
  have cr1 := kr.cell 1
  simp only [List.getElem?_toArray, List.getElem?_cons_zero, List.getElem?_cons_succ] at cr0 cr1
  have cp0 := kp.cell 0
  have cp1 := kp.cell 1
  have cp2 := kp.cell 2
  simp only [List.getElem?_toArray, List.getElem?_cons_zero, List.getElem?_cons_succ] at cp0 cp1 cp2
  have cq0 := kq.cell 0
  have cq1 := kq.cell 1
  have cq2 := kq.cell 2
  simp only [List.getElem?_toArray, List.getElem?_cons_zero, List.getElem?_cons_succ] at cq0 cq1 cq2
  go_wp2
  go_ret
  exact ⟨rfl, hbw⟩

theorem namesBoth_walk (a b : SideV) (w : World) (h1 h2 : True) : Calls Try.prog 4 #[a.val, b.val] w fun e w' => e = .returned (.bool true) ∧ Below w.heap.size w w' := by
  obtain ⟨m, s, k⟩ := a
  obtain ⟨m2, s2, k2⟩ := b
  show Calls Try.prog _ #[.agg #[.int .u32 m, .int .u32 s, .bool k], .agg #[.int .u32 m2, .int .u32 s2, .bool k2]] w _
  rcases both_cases m s k m2 s2 k2 with ⟨h, h'⟩ | ⟨x, y, h, h', ⟨p1, p2⟩ | ⟨p1, p2, p3, p4⟩ | ⟨p1, p2, p3, p4⟩⟩
  · exact namesBoth_no _ _ _ _ _ _ h h' w
  · exact namesBoth_bad1 _ _ _ _ _ _ x y h h' p1 p2 w
  · exact namesBoth_bad2 _ _ _ _ _ _ x y h h' p1 p2 p3 p4 w
  · exact namesBoth_ok _ _ _ _ _ _ x y h h' p1 p2 p3 p4 w
end Go.Proofs.Ytcihmjflfcbgmaa
