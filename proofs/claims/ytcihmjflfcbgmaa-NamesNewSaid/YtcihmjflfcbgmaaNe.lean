/- Layer 17: the laws turned, next, cold and new. -/
import Derived.Test.YtcihmjflfcbgmaaNd
namespace Go.Proofs.Ytcihmjflfcbgmaa
open Go.RowKit
set_option linter.unusedVariables false
set_option linter.unusedSimpArgs false

theorem after_bad (m s : Int) (k : Bool) (m2 s2 : Int) (k2 : Bool) (x y : Int) (h : checkM m s m2 s2 k = (x, 0)) (h2 : checkM m2 s2 m s k2 = (y, 0)) (hb : (badB x || badB y) = true) (w : World) : Calls Try.prog 16 #[.agg #[.int .u32 m, .int .u32 s, .bool k], .agg #[.int .u32 m2, .int .u32 s2, .bool k2]] w fun o w' => o = .returned (.tuple #[.agg #[.int .u32 m, .int .u32 s, .bool k], .agg #[.int .u32 m2, .int .u32 s2, .bool k2], .bool false]) ∧ Below w.heap.size w w' := by
  rcases hx : badB x with _ | _
  · exact after_bad2 m s k m2 s2 k2 x y h h2 hx (by simpa [hx] using hb) w
  · exact after_bad1 m s k m2 s2 k2 x y h h2 hx w
theorem bothb_cases (m s : Int) (k : Bool) (m2 s2 : Int) (k2 : Bool) : (checkM m s m2 s2 k = (0, 1) ∧ checkM m2 s2 m s k2 = (0, 1)) ∨
    (∃ x y, checkM m s m2 s2 k = (x, 0) ∧ checkM m2 s2 m s k2 = (y, 0) ∧ (badB x || badB y) = true ∧ (badB y || badB x) = true) ∨ (∃ x y, checkM m s m2 s2 k = (x, 0) ∧ checkM m2 s2 m s k2 = (y, 0) ∧ badB x = false ∧ badB y = false) := by
  rcases both_cases m s k m2 s2 k2 with h | ⟨x, y, h, h', ⟨_, p⟩ | ⟨_, _, _, p⟩ | ⟨_, p, _, q⟩⟩
  · exact .inl h
  · exact .inr (.inl ⟨x, y, h, h', by simp [p], by simp [p]⟩)
  · exact .inr (.inl ⟨x, y, h, h', by simp [p], by simp [p]⟩)
  · exact .inr (.inr ⟨x, y, h, h', p, q⟩)
theorem check_fine (m s t k : Int) (wk wj : Bool) (x : Int) (h : checkM m s t k wk = (x, 0)) : checkM m t t m wj = (1, 0) ∧ checkM t m m t wj = (1, 0) := by
  have h0 : (m == 0 || t == 0) = false := by
    rcases h1 : (m == 0 || t == 0) with _ | _
    · rfl
    · unfold checkM at h
      rw [h1, if_pos rfl] at h
      cases h
  have hm : (m == 0) = false := by rcases h2 : (m == 0) with _ | _; rfl; rw [h2] at h0; cases h0
  have ht : (t == 0) = false := by rw [hm] at h0; simpa using h0
  have hm' : m ≠ 0 := by simpa using hm
  have ht' : t ≠ 0 := by simpa using ht
  constructor <;> simp [checkM, oldB, hm, ht, hm', ht']

set_option maxHeartbeats 2000000 in
theorem namesTurned_no (m s : Int) (k : Bool) (m2 s2 : Int) (k2 : Bool) (hc : checkM m s m2 s2 k = (0, 1)) (hd : checkM m2 s2 m s k2 = (0, 1)) (w : World) : Calls Try.prog 8 #[.agg #[.int .u32 m, .int .u32 s, .bool k], .agg #[.int .u32 m2, .int .u32 s2, .bool k2]] w fun e w' => e = .returned (.bool true) ∧ Below w.heap.size w w' := by
  have hbw := Below.refl w.heap.size w
  have ka := Blk.new w 31 #[.int .u32 m, .int .u32 s, .bool k]
  try simp only [World.size_alloc] at ka
  have hbw := bt hbw (ba w (.cells #[.int .u32 m, .int .u32 s, .bool k] 31))
  have ka := ka.alloc (.cells #[.int .u32 m2, .int .u32 s2, .bool k2] 31)
  have kb := Blk.new (w.alloc (.cells #[.int .u32 m, .int .u32 s, .bool k] 31)) 31 #[.int .u32 m2, .int .u32 s2, .bool k2]
  try simp only [World.size_alloc] at kb
  have hbw := bt hbw (ba (w.alloc (.cells #[.int .u32 m, .int .u32 s, .bool k] 31)) (.cells #[.int .u32 m2, .int .u32 s2, .bool k2] 31))
  go_enter Try.func8, Try.ntmps8
  have ca0 := ka.cell 0
  have ca1 := ka.cell 1
  have ca2 := ka.cell 2
  simp only [List.getElem?_toArray, List.getElem?_cons_zero, List.getElem?_cons_succ] at ca0 ca1 ca2
  have cb0 := kb.cell 0
  have cb1 := kb.cell 1
  have cb2 := kb.cell 2
  simp only [List.getElem?_toArray, List.getElem?_cons_zero, List.getElem?_cons_succ] at cb0 cb1 cb2
  go_wp2_with fail
  refine (both_no m s k m2 s2 k2 0 hc _).mono ?_
  rintro e v1 ⟨rfl, hb⟩
  have ka := ka.below hb ka.lt
  have kb := kb.below hb kb.lt
  have za := Lib.hid ka.lt
  have zb := Lib.hid kb.lt
  have hbw := bt hbw hb
  clear hb
  clear ca0 ca1 ca2 cb0 cb1 cb2
  have ka := ka.alloc (.cells #[.int .i64 0, .int .i64 0] 32)
  have kb := kb.alloc (.cells #[.int .i64 0, .int .i64 0] 32)
  have kr := Blk.new v1 32 #[.int .i64 0, .int .i64 0]
  try simp only [World.size_alloc] at kr
  have hbw := bt hbw (ba v1 (.cells #[.int .i64 0, .int .i64 0] 32))
  have ca0 := ka.cell 0
  have ca1 := ka.cell 1
  have ca2 := ka.cell 2
  simp only [List.getElem?_toArray, List.getElem?_cons_zero, List.getElem?_cons_succ] at ca0 ca1 ca2
  have cb0 := kb.cell 0
  have cb1 := kb.cell 1
  have cb2 := kb.cell 2
  simp only [List.getElem?_toArray, List.getElem?_cons_zero, List.getElem?_cons_succ] at cb0 cb1 cb2
  have cr0 := kr.cell 0
  have cr1 := kr.cell 1
  simp only [List.getElem?_toArray, List.getElem?_cons_zero, List.getElem?_cons_succ] at cr0 cr1
  go_wp2_with fail
  refine (both_no m2 s2 k2 m s k 0 hd _).mono ?_
  rintro e v2 ⟨rfl, hb⟩
  have ka := ka.below hb ka.lt
  have kb := kb.below hb kb.lt
  have kr := kr.below hb kr.lt
  have za := Lib.hid ka.lt
  have zb := Lib.hid kb.lt
  have zr := Lib.hid kr.lt
  have hbw := bt hbw hb
  clear hb
  clear ca0 ca1 ca2 cb0 cb1 cb2 cr0 cr1
  have ka := ka.alloc (.cells #[.int .i64 0, .int .i64 0] 32)
  have kb := kb.alloc (.cells #[.int .i64 0, .int .i64 0] 32)
  have kr := kr.alloc (.cells #[.int .i64 0, .int .i64 0] 32)
  have kt := Blk.new v2 32 #[.int .i64 0, .int .i64 0]
  try simp only [World.size_alloc] at kt
  have hbw := bt hbw (ba v2 (.cells #[.int .i64 0, .int .i64 0] 32))
  have ca0 := ka.cell 0
  have ca1 := ka.cell 1
  have ca2 := ka.cell 2
  simp only [List.getElem?_toArray, List.getElem?_cons_zero, List.getElem?_cons_succ] at ca0 ca1 ca2
  have cb0 := kb.cell 0
  have cb1 := kb.cell 1
  have cb2 := kb.cell 2
  simp only [List.getElem?_toArray, List.getElem?_cons_zero, List.getElem?_cons_succ] at cb0 cb1 cb2
  have cr0 := kr.cell 0
  have cr1 := kr.cell 1
  simp only [List.getElem?_toArray, List.getElem?_cons_zero, List.getElem?_cons_succ] at cr0 cr1
  have ct0 := kt.cell 0
  have ct1 := kt.cell 1
  simp only [List.getElem?_toArray, List.getElem?_cons_zero, List.getElem?_cons_succ] at ct0 ct1
  go_wp2_with fail
  refine (after_no m s k m2 s2 k2 0 hc _).mono ?_
  rintro e v3 ⟨rfl, hb⟩
  have ka := ka.below hb ka.lt
  have kb := kb.below hb kb.lt
  have kr := kr.below hb kr.lt
  have kt := kt.below hb kt.lt
  have za := Lib.hid ka.lt
  have zb := Lib.hid kb.lt
  have zr := Lib.hid kr.lt
  have zt := Lib.hid kt.lt
  have hbw := bt hbw hb
  clear hb
  clear ca0 ca1 ca2 cb0 cb1 cb2 cr0 cr1 ct0 ct1
  have ca0 := ka.cell 0
  have ca1 := ka.cell 1
  have ca2 := ka.cell 2
  simp only [List.getElem?_toArray, List.getElem?_cons_zero, List.getElem?_cons_succ] at ca0 ca1 ca2
  have cb0 := kb.cell 0
  have cb1 := kb.cell 1
  have cb2 := kb.cell 2
  simp only [List.getElem?_toArray, List.getElem?_cons_zero, List.getElem?_cons_succ] at cb0 cb1 cb2
  have cr0 := kr.cell 0
  have cr1 := kr.cell 1
  simp only [List.getElem?_toArray, List.getElem?_cons_zero, List.getElem?_cons_succ] at cr0 cr1
  have ct0 := kt.cell 0
  have ct1 := kt.cell 1
  simp only [List.getElem?_toArray, List.getElem?_cons_zero, List.getElem?_cons_succ] at ct0 ct1
  have kk := (Blk.new v3 31 #[.int .u32 0, .int .u32 0, .bool false]).alloc (.cells #[.int .u32 0, .int .u32 0, .bool false] 31)
  have yp0 := kk.cell 0
  have fp0 := kk.frozen 0
  clear kk
  have kk := (Blk.new v3 31 #[.int .u32 m, .int .u32 0, .bool false]).alloc (.cells #[.int .u32 0, .int .u32 0, .bool false] 31)
  have yp1 := kk.cell 1
  have fp1 := kk.frozen 1
  clear kk
  have kk := (Blk.new v3 31 #[.int .u32 m, .int .u32 s, .bool false]).alloc (.cells #[.int .u32 0, .int .u32 0, .bool false] 31)
  have yp2 := kk.cell 2
  have fp2 := kk.frozen 2
  clear kk
  have kk := Blk.new (v3.alloc (.cells #[.int .u32 m, .int .u32 s, .bool k] 31)) 31 #[.int .u32 0, .int .u32 0, .bool false]
  simp only [World.size_alloc] at kk
  have yq0 := kk.cell 0
  have fq0 := kk.frozen 0
  clear kk
  have kk := Blk.new (v3.alloc (.cells #[.int .u32 m, .int .u32 s, .bool k] 31)) 31 #[.int .u32 m2, .int .u32 0, .bool false]
  simp only [World.size_alloc] at kk
  have yq1 := kk.cell 1
  have fq1 := kk.frozen 1
  clear kk
  have kk := Blk.new (v3.alloc (.cells #[.int .u32 m, .int .u32 s, .bool k] 31)) 31 #[.int .u32 m2, .int .u32 s2, .bool false]
  simp only [World.size_alloc] at kk
  have yq2 := kk.cell 2
  have fq2 := kk.frozen 2
  clear kk
  simp only [List.getElem?_toArray, List.getElem?_cons_zero, List.getElem?_cons_succ] at yp0 yp1 yp2 yq0 yq1 yq2
  have ka := ka.alloc (.cells #[.int .u32 m, .int .u32 s, .bool k] 31)
  have kb := kb.alloc (.cells #[.int .u32 m, .int .u32 s, .bool k] 31)
  have kr := kr.alloc (.cells #[.int .u32 m, .int .u32 s, .bool k] 31)
  have kt := kt.alloc (.cells #[.int .u32 m, .int .u32 s, .bool k] 31)
  have kp := Blk.new v3 31 #[.int .u32 m, .int .u32 s, .bool k]
  try simp only [World.size_alloc] at kp
  have hbw := bt hbw (ba v3 (.cells #[.int .u32 m, .int .u32 s, .bool k] 31))
  have ka := ka.alloc (.cells #[.int .u32 m2, .int .u32 s2, .bool k2] 31)
  have kb := kb.alloc (.cells #[.int .u32 m2, .int .u32 s2, .bool k2] 31)
  have kr := kr.alloc (.cells #[.int .u32 m2, .int .u32 s2, .bool k2] 31)
  have kt := kt.alloc (.cells #[.int .u32 m2, .int .u32 s2, .bool k2] 31)
  have kp := kp.alloc (.cells #[.int .u32 m2, .int .u32 s2, .bool k2] 31)
  have kq := Blk.new (v3.alloc (.cells #[.int .u32 m, .int .u32 s, .bool k] 31)) 31 #[.int .u32 m2, .int .u32 s2, .bool k2]
  try simp only [World.size_alloc] at kq
  have hbw := bt hbw (ba (v3.alloc (.cells #[.int .u32 m, .int .u32 s, .bool k] 31)) (.cells #[.int .u32 m2, .int .u32 s2, .bool k2] 31))
  clear ca0 ca1 ca2 cb0 cb1 cb2 cr0 cr1 ct0 ct1
  have ca0 := ka.cell 0
  have ca1 := ka.cell 1
  have ca2 := ka.cell 2
  simp only [List.getElem?_toArray, List.getElem?_cons_zero, List.getElem?_cons_succ] at ca0 ca1 ca2
  have cb0 := kb.cell 0
  have cb1 := kb.cell 1
  have cb2 := kb.cell 2
  simp only [List.getElem?_toArray, List.getElem?_cons_zero, List.getElem?_cons_succ] at cb0 cb1 cb2
  have cr0 := kr.cell 0
  have cr1 := kr.cell 1
  simp only [List.getElem?_toArray, List.getElem?_cons_zero, List.getElem?_cons_succ] at cr0 cr1
  have ct0 := kt.cell 0
  have ct1 := kt.cell 1
  simp only [List.getElem?_toArray, List.getElem?_cons_zero, List.getElem?_cons_succ] at ct0 ct1
  have cp0 := kp.cell 0
  have cp1 := kp.cell 1
  have cp2 := kp.cell 2
  simp only [List.getElem?_toArray, List.getElem?_cons_zero, List.getElem?_cons_succ] at cp0 cp1 cp2
  have cq0 := kq.cell 0
  have cq1 := kq.cell 1
  have cq2 := kq.cell 2
  simp only [List.getElem?_toArray, List.getElem?_cons_zero, List.getElem?_cons_succ] at cq0 cq1 cq2
  go_wp2_with fail
  refine (after_no m2 s2 k2 m s k 0 hd _).mono ?_
  rintro e v4 ⟨rfl, hb⟩
  have ka := ka.below hb ka.lt
  have kb := kb.below hb kb.lt
  have kr := kr.below hb kr.lt
  have kt := kt.below hb kt.lt
  have kp := kp.below hb kp.lt
  have kq := kq.below hb kq.lt
  have za := Lib.hid ka.lt
  have zb := Lib.hid kb.lt
  have zr := Lib.hid kr.lt
  have zt := Lib.hid kt.lt
  have zp := Lib.hid kp.lt
  have zq := Lib.hid kq.lt
  have hbw := bt hbw hb
  clear hb
  clear yp0 fp0 yp1 fp1 yp2 fp2 yq0 fq0 yq1 fq1 yq2 fq2 ca0 ca1 ca2 cb0 cb1 cb2 cr0 cr1 ct0 ct1 cp0 cp1 cp2 cq0 cq1 cq2
  clear ka
  clear kb
  have cr0 := kr.cell 0
  have cr1 := kr.cell 1
  simp only [List.getElem?_toArray, List.getElem?_cons_zero, List.getElem?_cons_succ] at cr0 cr1
  have ct0 := kt.cell 0
  have ct1 := kt.cell 1
  simp only [List.getElem?_toArray, List.getElem?_cons_zero, List.getElem?_cons_succ] at ct0 ct1
  have cp0 := kp.cell 0
  have cp1 := kp.cell 1
  have cp2 := kp.cell 2
  simp only [List.getElem?_toArray, List.getElem?_cons_zero, List.getElem?_cons_succ] at cp0 cp1 cp2
  have cq0 := kq.cell 0
  have cq1 := kq.cell 1
  have cq2 := kq.cell 2
  simp only [List.getElem?_toArray, List.getElem?_cons_zero, List.getElem?_cons_succ] at cq0 cq1 cq2
  have kk := (Blk.new v4 31 #[.int .u32 0, .int .u32 0, .bool false]).alloc (.cells #[.int .u32 0, .int .u32 0, .bool false] 31)
  have yP0 := kk.cell 0
  have fP0 := kk.frozen 0
  clear kk
  have kk := (Blk.new v4 31 #[.int .u32 m2, .int .u32 0, .bool false]).alloc (.cells #[.int .u32 0, .int .u32 0, .bool false] 31)
  have yP1 := kk.cell 1
  have fP1 := kk.frozen 1
  clear kk
  have kk := (Blk.new v4 31 #[.int .u32 m2, .int .u32 s2, .bool false]).alloc (.cells #[.int .u32 0, .int .u32 0, .bool false] 31)
  have yP2 := kk.cell 2
  have fP2 := kk.frozen 2
  clear kk
  have kk := Blk.new (v4.alloc (.cells #[.int .u32 m2, .int .u32 s2, .bool k2] 31)) 31 #[.int .u32 0, .int .u32 0, .bool false]
  simp only [World.size_alloc] at kk
  have yQ0 := kk.cell 0
  have fQ0 := kk.frozen 0
  clear kk
  have kk := Blk.new (v4.alloc (.cells #[.int .u32 m2, .int .u32 s2, .bool k2] 31)) 31 #[.int .u32 m, .int .u32 0, .bool false]
  simp only [World.size_alloc] at kk
  have yQ1 := kk.cell 1
  have fQ1 := kk.frozen 1
  clear kk
  have kk := Blk.new (v4.alloc (.cells #[.int .u32 m2, .int .u32 s2, .bool k2] 31)) 31 #[.int .u32 m, .int .u32 s, .bool false]
  simp only [World.size_alloc] at kk
  have yQ2 := kk.cell 2
  have fQ2 := kk.frozen 2
  clear kk
  simp only [List.getElem?_toArray, List.getElem?_cons_zero, List.getElem?_cons_succ] at yP0 yP1 yP2 yQ0 yQ1 yQ2
  have kr := kr.alloc (.cells #[.int .u32 m2, .int .u32 s2, .bool k2] 31)
  have kt := kt.alloc (.cells #[.int .u32 m2, .int .u32 s2, .bool k2] 31)
  have kp := kp.alloc (.cells #[.int .u32 m2, .int .u32 s2, .bool k2] 31)
  have kq := kq.alloc (.cells #[.int .u32 m2, .int .u32 s2, .bool k2] 31)
  have kP := Blk.new v4 31 #[.int .u32 m2, .int .u32 s2, .bool k2]
  try simp only [World.size_alloc] at kP
  have hbw := bt hbw (ba v4 (.cells #[.int .u32 m2, .int .u32 s2, .bool k2] 31))
  have kr := kr.alloc (.cells #[.int .u32 m, .int .u32 s, .bool k] 31)
  have kt := kt.alloc (.cells #[.int .u32 m, .int .u32 s, .bool k] 31)
  have kp := kp.alloc (.cells #[.int .u32 m, .int .u32 s, .bool k] 31)
  have kq := kq.alloc (.cells #[.int .u32 m, .int .u32 s, .bool k] 31)
  have kP := kP.alloc (.cells #[.int .u32 m, .int .u32 s, .bool k] 31)
  have kQ := Blk.new (v4.alloc (.cells #[.int .u32 m2, .int .u32 s2, .bool k2] 31)) 31 #[.int .u32 m, .int .u32 s, .bool k]
  try simp only [World.size_alloc] at kQ
  have hbw := bt hbw (ba (v4.alloc (.cells #[.int .u32 m2, .int .u32 s2, .bool k2] 31)) (.cells #[.int .u32 m, .int .u32 s, .bool k] 31))
  have hA2 := eq2r
  have hSi := eqSr
  clear cr0 cr1 ct0 ct1 cp0 cp1 cp2 cq0 cq1 cq2
  have cr0 := kr.cell 0
  have cr1 := kr.cell 1
  simp only [List.getElem?_toArray, List.getElem?_cons_zero, List.getElem?_cons_succ] at cr0 cr1
  have ct0 := kt.cell 0
  have ct1 := kt.cell 1
  simp only [List.getElem?_toArray, List.getElem?_cons_zero, List.getElem?_cons_succ] at ct0 ct1
  have cp0 := kp.cell 0
  have cp1 := kp.cell 1
  have cp2 := kp.cell 2
  simp only [List.getElem?_toArray, List.getElem?_cons_zero, List.getElem?_cons_succ] at cp0 cp1 cp2
  have cq0 := kq.cell 0
  have cq1 := kq.cell 1
  have cq2 := kq.cell 2
  simp only [List.getElem?_toArray, List.getElem?_cons_zero, List.getElem?_cons_succ] at cq0 cq1 cq2
  have cP0 := kP.cell 0
  have cP1 := kP.cell 1
  have cP2 := kP.cell 2
  simp only [List.getElem?_toArray, List.getElem?_cons_zero, List.getElem?_cons_succ] at cP0 cP1 cP2
  have cQ0 := kQ.cell 0
  have cQ1 := kQ.cell 1
  have cQ2 := kQ.cell 2
  simp only [List.getElem?_toArray, List.getElem?_cons_zero, List.getElem?_cons_succ] at cQ0 cQ1 cQ2
  go_wp2_with fail
  refine (alive_any _).mono ?_
  rintro e v5 ⟨rfl, hb⟩
  have kr := kr.below hb kr.lt
  have kt := kt.below hb kt.lt
  have kp := kp.below hb kp.lt
  have kq := kq.below hb kq.lt
  have kP := kP.below hb kP.lt
  have kQ := kQ.below hb kQ.lt
  have zr := Lib.hid kr.lt
  have zt := Lib.hid kt.lt
  have zp := Lib.hid kp.lt
  have zq := Lib.hid kq.lt
  have zP := Lib.hid kP.lt
  have zQ := Lib.hid kQ.lt
  have hbw := bt hbw hb
  clear hb
  clear yP0 fP0 yP1 fP1 yP2 fP2 yQ0 fQ0 yQ1 fQ1 yQ2 fQ2 cr0 cr1 ct0 ct1 cp0 cp1 cp2 cq0 cq1 cq2 cP0 cP1 cP2 cQ0 cQ1 cQ2
  have cr0 := kr.cell 0
  have cr1 := kr.cell 1
  simp only [List.getElem?_toArray, List.getElem?_cons_zero, List.getElem?_cons_succ] at cr0 cr1
  have ct0 := kt.cell 0
  have ct1 := kt.cell 1
  simp only [List.getElem?_toArray, List.getElem?_cons_zero, List.getElem?_cons_succ] at ct0 ct1
  have cp0 := kp.cell 0
  have cp1 := kp.cell 1
  have cp2 := kp.cell 2
  simp only [List.getElem?_toArray, List.getElem?_cons_zero, List.getElem?_cons_succ] at cp0 cp1 cp2
  have cq0 := kq.cell 0
  have cq1 := kq.cell 1
  have cq2 := kq.cell 2
  simp only [List.getElem?_toArray, List.getElem?_cons_zero, List.getElem?_cons_succ] at cq0 cq1 cq2
  have cP0 := kP.cell 0
  have cP1 := kP.cell 1
  have cP2 := kP.cell 2
  simp only [List.getElem?_toArray, List.getElem?_cons_zero, List.getElem?_cons_succ] at cP0 cP1 cP2
  have cQ0 := kQ.cell 0
  have cQ1 := kQ.cell 1
  have cQ2 := kQ.cell 2
  simp only [List.getElem?_toArray, List.getElem?_cons_zero, List.getElem?_cons_succ] at cQ0 cQ1 cQ2
  go_wp2
  go_ret
  exact ⟨rfl, hbw⟩

set_option maxHeartbeats 2000000 in
theorem namesTurned_bad (m s : Int) (k : Bool) (m2 s2 : Int) (k2 : Bool) (x y : Int) (hc : checkM m s m2 s2 k = (x, 0)) (hd : checkM m2 s2 m s k2 = (y, 0)) (hb : (badB x || badB y) = true) (hb' : (badB y || badB x) = true) (w : World) : Calls Try.prog 8 #[.agg #[.int .u32 m, .int .u32 s, .bool k], .agg #[.int .u32 m2, .int .u32 s2, .bool k2]] w fun e w' => e = .returned (.bool true) ∧ Below w.heap.size w w' := by
  have hbw := Below.refl w.heap.size w
  have ka := Blk.new w 31 #[.int .u32 m, .int .u32 s, .bool k]
  try simp only [World.size_alloc] at ka
  have hbw := bt hbw (ba w (.cells #[.int .u32 m, .int .u32 s, .bool k] 31))
  have ka := ka.alloc (.cells #[.int .u32 m2, .int .u32 s2, .bool k2] 31)
  have kb := Blk.new (w.alloc (.cells #[.int .u32 m, .int .u32 s, .bool k] 31)) 31 #[.int .u32 m2, .int .u32 s2, .bool k2]
  try simp only [World.size_alloc] at kb
  have hbw := bt hbw (ba (w.alloc (.cells #[.int .u32 m, .int .u32 s, .bool k] 31)) (.cells #[.int .u32 m2, .int .u32 s2, .bool k2] 31))
  go_enter Try.func8, Try.ntmps8
  have ca0 := ka.cell 0
  have ca1 := ka.cell 1
  have ca2 := ka.cell 2
  simp only [List.getElem?_toArray, List.getElem?_cons_zero, List.getElem?_cons_succ] at ca0 ca1 ca2
  have cb0 := kb.cell 0
  have cb1 := kb.cell 1
  have cb2 := kb.cell 2
  simp only [List.getElem?_toArray, List.getElem?_cons_zero, List.getElem?_cons_succ] at cb0 cb1 cb2
  go_wp2_with fail
  refine (both_ok m s k m2 s2 k2 x y hc hd _).mono ?_
  rintro e v1 ⟨rfl, hb⟩
  have ka := ka.below hb ka.lt
  have kb := kb.below hb kb.lt
  have za := Lib.hid ka.lt
  have zb := Lib.hid kb.lt
  have hbw := bt hbw hb
  clear hb
  clear ca0 ca1 ca2 cb0 cb1 cb2
  have ka := ka.alloc (.cells #[.int .i64 x, .int .i64 y] 32)
  have kb := kb.alloc (.cells #[.int .i64 x, .int .i64 y] 32)
  have kr := Blk.new v1 32 #[.int .i64 x, .int .i64 y]
  try simp only [World.size_alloc] at kr
  have hbw := bt hbw (ba v1 (.cells #[.int .i64 x, .int .i64 y] 32))
  have ca0 := ka.cell 0
  have ca1 := ka.cell 1
  have ca2 := ka.cell 2
  simp only [List.getElem?_toArray, List.getElem?_cons_zero, List.getElem?_cons_succ] at ca0 ca1 ca2
  have cb0 := kb.cell 0
  have cb1 := kb.cell 1
  have cb2 := kb.cell 2
  simp only [List.getElem?_toArray, List.getElem?_cons_zero, List.getElem?_cons_succ] at cb0 cb1 cb2
  have cr0 := kr.cell 0
  have cr1 := kr.cell 1
  simp only [List.getElem?_toArray, List.getElem?_cons_zero, List.getElem?_cons_succ] at cr0 cr1
  go_wp2_with fail
  refine (both_ok m2 s2 k2 m s k y x hd hc _).mono ?_
  rintro e v2 ⟨rfl, hb⟩
  have ka := ka.below hb ka.lt
  have kb := kb.below hb kb.lt
  have kr := kr.below hb kr.lt
  have za := Lib.hid ka.lt
  have zb := Lib.hid kb.lt
  have zr := Lib.hid kr.lt
  have hbw := bt hbw hb
  clear hb
  clear ca0 ca1 ca2 cb0 cb1 cb2 cr0 cr1
  have ka := ka.alloc (.cells #[.int .i64 y, .int .i64 x] 32)
  have kb := kb.alloc (.cells #[.int .i64 y, .int .i64 x] 32)
  have kr := kr.alloc (.cells #[.int .i64 y, .int .i64 x] 32)
  have kt := Blk.new v2 32 #[.int .i64 y, .int .i64 x]
  try simp only [World.size_alloc] at kt
  have hbw := bt hbw (ba v2 (.cells #[.int .i64 y, .int .i64 x] 32))
  have ca0 := ka.cell 0
  have ca1 := ka.cell 1
  have ca2 := ka.cell 2
  simp only [List.getElem?_toArray, List.getElem?_cons_zero, List.getElem?_cons_succ] at ca0 ca1 ca2
  have cb0 := kb.cell 0
  have cb1 := kb.cell 1
  have cb2 := kb.cell 2
  simp only [List.getElem?_toArray, List.getElem?_cons_zero, List.getElem?_cons_succ] at cb0 cb1 cb2
  have cr0 := kr.cell 0
  have cr1 := kr.cell 1
  simp only [List.getElem?_toArray, List.getElem?_cons_zero, List.getElem?_cons_succ] at cr0 cr1
  have ct0 := kt.cell 0
  have ct1 := kt.cell 1
  simp only [List.getElem?_toArray, List.getElem?_cons_zero, List.getElem?_cons_succ] at ct0 ct1
  go_wp2_with fail
  refine (after_bad m s k m2 s2 k2 x y hc hd hb _).mono ?_
  rintro e v3 ⟨rfl, hb⟩
  have ka := ka.below hb ka.lt
  have kb := kb.below hb kb.lt
  have kr := kr.below hb kr.lt
  have kt := kt.below hb kt.lt
  have za := Lib.hid ka.lt
  have zb := Lib.hid kb.lt
  have zr := Lib.hid kr.lt
  have zt := Lib.hid kt.lt
  have hbw := bt hbw hb
  clear hb
  clear ca0 ca1 ca2 cb0 cb1 cb2 cr0 cr1 ct0 ct1
  have ca0 := ka.cell 0
  have ca1 := ka.cell 1
  have ca2 := ka.cell 2
  simp only [List.getElem?_toArray, List.getElem?_cons_zero, List.getElem?_cons_succ] at ca0 ca1 ca2
  have cb0 := kb.cell 0
  have cb1 := kb.cell 1
  have cb2 := kb.cell 2
  simp only [List.getElem?_toArray, List.getElem?_cons_zero, List.getElem?_cons_succ] at cb0 cb1 cb2
  have cr0 := kr.cell 0
  have cr1 := kr.cell 1
  simp only [List.getElem?_toArray, List.getElem?_cons_zero, List.getElem?_cons_succ] at cr0 cr1
  have ct0 := kt.cell 0
  have ct1 := kt.cell 1
  simp only [List.getElem?_toArray, List.getElem?_cons_zero, List.getElem?_cons_succ] at ct0 ct1
  have kk := (Blk.new v3 31 #[.int .u32 0, .int .u32 0, .bool false]).alloc (.cells #[.int .u32 0, .int .u32 0, .bool false] 31)
  have yp0 := kk.cell 0
  have fp0 := kk.frozen 0
  clear kk
  have kk := (Blk.new v3 31 #[.int .u32 m, .int .u32 0, .bool false]).alloc (.cells #[.int .u32 0, .int .u32 0, .bool false] 31)
  have yp1 := kk.cell 1
  have fp1 := kk.frozen 1
  clear kk
  have kk := (Blk.new v3 31 #[.int .u32 m, .int .u32 s, .bool false]).alloc (.cells #[.int .u32 0, .int .u32 0, .bool false] 31)
  have yp2 := kk.cell 2
  have fp2 := kk.frozen 2
  clear kk
  have kk := Blk.new (v3.alloc (.cells #[.int .u32 m, .int .u32 s, .bool k] 31)) 31 #[.int .u32 0, .int .u32 0, .bool false]
  simp only [World.size_alloc] at kk
  have yq0 := kk.cell 0
  have fq0 := kk.frozen 0
  clear kk
  have kk := Blk.new (v3.alloc (.cells #[.int .u32 m, .int .u32 s, .bool k] 31)) 31 #[.int .u32 m2, .int .u32 0, .bool false]
  simp only [World.size_alloc] at kk
  have yq1 := kk.cell 1
  have fq1 := kk.frozen 1
  clear kk
  have kk := Blk.new (v3.alloc (.cells #[.int .u32 m, .int .u32 s, .bool k] 31)) 31 #[.int .u32 m2, .int .u32 s2, .bool false]
  simp only [World.size_alloc] at kk
  have yq2 := kk.cell 2
  have fq2 := kk.frozen 2
  clear kk
  simp only [List.getElem?_toArray, List.getElem?_cons_zero, List.getElem?_cons_succ] at yp0 yp1 yp2 yq0 yq1 yq2
  have ka := ka.alloc (.cells #[.int .u32 m, .int .u32 s, .bool k] 31)
  have kb := kb.alloc (.cells #[.int .u32 m, .int .u32 s, .bool k] 31)
  have kr := kr.alloc (.cells #[.int .u32 m, .int .u32 s, .bool k] 31)
  have kt := kt.alloc (.cells #[.int .u32 m, .int .u32 s, .bool k] 31)
  have kp := Blk.new v3 31 #[.int .u32 m, .int .u32 s, .bool k]
  try simp only [World.size_alloc] at kp
  have hbw := bt hbw (ba v3 (.cells #[.int .u32 m, .int .u32 s, .bool k] 31))
  have ka := ka.alloc (.cells #[.int .u32 m2, .int .u32 s2, .bool k2] 31)
  have kb := kb.alloc (.cells #[.int .u32 m2, .int .u32 s2, .bool k2] 31)
  have kr := kr.alloc (.cells #[.int .u32 m2, .int .u32 s2, .bool k2] 31)
  have kt := kt.alloc (.cells #[.int .u32 m2, .int .u32 s2, .bool k2] 31)
  have kp := kp.alloc (.cells #[.int .u32 m2, .int .u32 s2, .bool k2] 31)
  have kq := Blk.new (v3.alloc (.cells #[.int .u32 m, .int .u32 s, .bool k] 31)) 31 #[.int .u32 m2, .int .u32 s2, .bool k2]
  try simp only [World.size_alloc] at kq
  have hbw := bt hbw (ba (v3.alloc (.cells #[.int .u32 m, .int .u32 s, .bool k] 31)) (.cells #[.int .u32 m2, .int .u32 s2, .bool k2] 31))
  clear ca0 ca1 ca2 cb0 cb1 cb2 cr0 cr1 ct0 ct1
  have ca0 := ka.cell 0
  have ca1 := ka.cell 1
  have ca2 := ka.cell 2
  simp only [List.getElem?_toArray, List.getElem?_cons_zero, List.getElem?_cons_succ] at ca0 ca1 ca2
  have cb0 := kb.cell 0
  have cb1 := kb.cell 1
  have cb2 := kb.cell 2
  simp only [List.getElem?_toArray, List.getElem?_cons_zero, List.getElem?_cons_succ] at cb0 cb1 cb2
  have cr0 := kr.cell 0
  have cr1 := kr.cell 1
  simp only [List.getElem?_toArray, List.getElem?_cons_zero, List.getElem?_cons_succ] at cr0 cr1
  have ct0 := kt.cell 0
  have ct1 := kt.cell 1
  simp only [List.getElem?_toArray, List.getElem?_cons_zero, List.getElem?_cons_succ] at ct0 ct1
  have cp0 := kp.cell 0
  have cp1 := kp.cell 1
  have cp2 := kp.cell 2
  simp only [List.getElem?_toArray, List.getElem?_cons_zero, List.getElem?_cons_succ] at cp0 cp1 cp2
  have cq0 := kq.cell 0
  have cq1 := kq.cell 1
  have cq2 := kq.cell 2
  simp only [List.getElem?_toArray, List.getElem?_cons_zero, List.getElem?_cons_succ] at cq0 cq1 cq2
  go_wp2_with fail
  refine (after_bad m2 s2 k2 m s k y x hd hc hb' _).mono ?_
  rintro e v4 ⟨rfl, hb⟩
  have ka := ka.below hb ka.lt
  have kb := kb.below hb kb.lt
  have kr := kr.below hb kr.lt
  have kt := kt.below hb kt.lt
  have kp := kp.below hb kp.lt
  have kq := kq.below hb kq.lt
  have za := Lib.hid ka.lt
  have zb := Lib.hid kb.lt
  have zr := Lib.hid kr.lt
  have zt := Lib.hid kt.lt
  have zp := Lib.hid kp.lt
  have zq := Lib.hid kq.lt
  have hbw := bt hbw hb
  clear hb
  clear yp0 fp0 yp1 fp1 yp2 fp2 yq0 fq0 yq1 fq1 yq2 fq2 ca0 ca1 ca2 cb0 cb1 cb2 cr0 cr1 ct0 ct1 cp0 cp1 cp2 cq0 cq1 cq2
  clear ka
  clear kb
  have cr0 := kr.cell 0
  have cr1 := kr.cell 1
  simp only [List.getElem?_toArray, List.getElem?_cons_zero, List.getElem?_cons_succ] at cr0 cr1
  have ct0 := kt.cell 0
  have ct1 := kt.cell 1
  simp only [List.getElem?_toArray, List.getElem?_cons_zero, List.getElem?_cons_succ] at ct0 ct1
  have cp0 := kp.cell 0
  have cp1 := kp.cell 1
  have cp2 := kp.cell 2
  simp only [List.getElem?_toArray, List.getElem?_cons_zero, List.getElem?_cons_succ] at cp0 cp1 cp2
  have cq0 := kq.cell 0
  have cq1 := kq.cell 1
  have cq2 := kq.cell 2
  simp only [List.getElem?_toArray, List.getElem?_cons_zero, List.getElem?_cons_succ] at cq0 cq1 cq2
  have kk := (Blk.new v4 31 #[.int .u32 0, .int .u32 0, .bool false]).alloc (.cells #[.int .u32 0, .int .u32 0, .bool false] 31)
  have yP0 := kk.cell 0
  have fP0 := kk.frozen 0
  clear kk
  have kk := (Blk.new v4 31 #[.int .u32 m2, .int .u32 0, .bool false]).alloc (.cells #[.int .u32 0, .int .u32 0, .bool false] 31)
  have yP1 := kk.cell 1
  have fP1 := kk.frozen 1
  clear kk
  have kk := (Blk.new v4 31 #[.int .u32 m2, .int .u32 s2, .bool false]).alloc (.cells #[.int .u32 0, .int .u32 0, .bool false] 31)
  have yP2 := kk.cell 2
  have fP2 := kk.frozen 2
  clear kk
  have kk := Blk.new (v4.alloc (.cells #[.int .u32 m2, .int .u32 s2, .bool k2] 31)) 31 #[.int .u32 0, .int .u32 0, .bool false]
  simp only [World.size_alloc] at kk
  have yQ0 := kk.cell 0
  have fQ0 := kk.frozen 0
  clear kk
  have kk := Blk.new (v4.alloc (.cells #[.int .u32 m2, .int .u32 s2, .bool k2] 31)) 31 #[.int .u32 m, .int .u32 0, .bool false]
  simp only [World.size_alloc] at kk
  have yQ1 := kk.cell 1
  have fQ1 := kk.frozen 1
  clear kk
  have kk := Blk.new (v4.alloc (.cells #[.int .u32 m2, .int .u32 s2, .bool k2] 31)) 31 #[.int .u32 m, .int .u32 s, .bool false]
  simp only [World.size_alloc] at kk
  have yQ2 := kk.cell 2
  have fQ2 := kk.frozen 2
  clear kk
  simp only [List.getElem?_toArray, List.getElem?_cons_zero, List.getElem?_cons_succ] at yP0 yP1 yP2 yQ0 yQ1 yQ2
  have kr := kr.alloc (.cells #[.int .u32 m2, .int .u32 s2, .bool k2] 31)
  have kt := kt.alloc (.cells #[.int .u32 m2, .int .u32 s2, .bool k2] 31)
  have kp := kp.alloc (.cells #[.int .u32 m2, .int .u32 s2, .bool k2] 31)
  have kq := kq.alloc (.cells #[.int .u32 m2, .int .u32 s2, .bool k2] 31)
  have kP := Blk.new v4 31 #[.int .u32 m2, .int .u32 s2, .bool k2]
  try simp only [World.size_alloc] at kP
  have hbw := bt hbw (ba v4 (.cells #[.int .u32 m2, .int .u32 s2, .bool k2] 31))
  have kr := kr.alloc (.cells #[.int .u32 m, .int .u32 s, .bool k] 31)
  have kt := kt.alloc (.cells #[.int .u32 m, .int .u32 s, .bool k] 31)
  have kp := kp.alloc (.cells #[.int .u32 m, .int .u32 s, .bool k] 31)
  have kq := kq.alloc (.cells #[.int .u32 m, .int .u32 s, .bool k] 31)
  have kP := kP.alloc (.cells #[.int .u32 m, .int .u32 s, .bool k] 31)
  have kQ := Blk.new (v4.alloc (.cells #[.int .u32 m2, .int .u32 s2, .bool k2] 31)) 31 #[.int .u32 m, .int .u32 s, .bool k]
  try simp only [World.size_alloc] at kQ
  have hbw := bt hbw (ba (v4.alloc (.cells #[.int .u32 m2, .int .u32 s2, .bool k2] 31)) (.cells #[.int .u32 m, .int .u32 s, .bool k] 31))
  have hA2 := eq2r
  have hSi := eqSr
  clear cr0 cr1 ct0 ct1 cp0 cp1 cp2 cq0 cq1 cq2
  have cr0 := kr.cell 0
  have cr1 := kr.cell 1
  simp only [List.getElem?_toArray, List.getElem?_cons_zero, List.getElem?_cons_succ] at cr0 cr1
  have ct0 := kt.cell 0
  have ct1 := kt.cell 1
  simp only [List.getElem?_toArray, List.getElem?_cons_zero, List.getElem?_cons_succ] at ct0 ct1
  have cp0 := kp.cell 0
  have cp1 := kp.cell 1
  have cp2 := kp.cell 2
  simp only [List.getElem?_toArray, List.getElem?_cons_zero, List.getElem?_cons_succ] at cp0 cp1 cp2
  have cq0 := kq.cell 0
  have cq1 := kq.cell 1
  have cq2 := kq.cell 2
  simp only [List.getElem?_toArray, List.getElem?_cons_zero, List.getElem?_cons_succ] at cq0 cq1 cq2
  have cP0 := kP.cell 0
  have cP1 := kP.cell 1
  have cP2 := kP.cell 2
  simp only [List.getElem?_toArray, List.getElem?_cons_zero, List.getElem?_cons_succ] at cP0 cP1 cP2
  have cQ0 := kQ.cell 0
  have cQ1 := kQ.cell 1
  have cQ2 := kQ.cell 2
  simp only [List.getElem?_toArray, List.getElem?_cons_zero, List.getElem?_cons_succ] at cQ0 cQ1 cQ2
  go_wp2_with fail
  refine (alive_any _).mono ?_
  rintro e v5 ⟨rfl, hb⟩
  have kr := kr.below hb kr.lt
  have kt := kt.below hb kt.lt
  have kp := kp.below hb kp.lt
  have kq := kq.below hb kq.lt
  have kP := kP.below hb kP.lt
  have kQ := kQ.below hb kQ.lt
  have zr := Lib.hid kr.lt
  have zt := Lib.hid kt.lt
  have zp := Lib.hid kp.lt
  have zq := Lib.hid kq.lt
  have zP := Lib.hid kP.lt
  have zQ := Lib.hid kQ.lt
  have hbw := bt hbw hb
  clear hb
  clear yP0 fP0 yP1 fP1 yP2 fP2 yQ0 fQ0 yQ1 fQ1 yQ2 fQ2 cr0 cr1 ct0 ct1 cp0 cp1 cp2 cq0 cq1 cq2 cP0 cP1 cP2 cQ0 cQ1 cQ2
  have cr0 := kr.cell 0
  have cr1 := kr.cell 1
  simp only [List.getElem?_toArray, List.getElem?_cons_zero, List.getElem?_cons_succ] at cr0 cr1
  have ct0 := kt.cell 0
  have ct1 := kt.cell 1
  simp only [List.getElem?_toArray, List.getElem?_cons_zero, List.getElem?_cons_succ] at ct0 ct1
  have cp0 := kp.cell 0
  have cp1 := kp.cell 1
  have cp2 := kp.cell 2
  simp only [List.getElem?_toArray, List.getElem?_cons_zero, List.getElem?_cons_succ] at cp0 cp1 cp2
  have cq0 := kq.cell 0
  have cq1 := kq.cell 1
  have cq2 := kq.cell 2
  simp only [List.getElem?_toArray, List.getElem?_cons_zero, List.getElem?_cons_succ] at cq0 cq1 cq2
  have cP0 := kP.cell 0
  have cP1 := kP.cell 1
  have cP2 := kP.cell 2
  simp only [List.getElem?_toArray, List.getElem?_cons_zero, List.getElem?_cons_succ] at cP0 cP1 cP2
  have cQ0 := kQ.cell 0
  have cQ1 := kQ.cell 1
  have cQ2 := kQ.cell 2
  simp only [List.getElem?_toArray, List.getElem?_cons_zero, List.getElem?_cons_succ] at cQ0 cQ1 cQ2
  go_wp2
  go_ret
  exact ⟨rfl, hbw⟩

set_option maxHeartbeats 2000000 in
theorem namesTurned_ok (m s : Int) (k : Bool) (m2 s2 : Int) (k2 : Bool) (x y : Int) (hc : checkM m s m2 s2 k = (x, 0)) (hd : checkM m2 s2 m s k2 = (y, 0)) (hx : badB x = false) (hy : badB y = false) (w : World) : Calls Try.prog 8 #[.agg #[.int .u32 m, .int .u32 s, .bool k], .agg #[.int .u32 m2, .int .u32 s2, .bool k2]] w fun e w' => e = .returned (.bool true) ∧ Below w.heap.size w w' := by
  have hbw := Below.refl w.heap.size w
  have ka := Blk.new w 31 #[.int .u32 m, .int .u32 s, .bool k]
  try simp only [World.size_alloc] at ka
  have hbw := bt hbw (ba w (.cells #[.int .u32 m, .int .u32 s, .bool k] 31))
  have ka := ka.alloc (.cells #[.int .u32 m2, .int .u32 s2, .bool k2] 31)
  have kb := Blk.new (w.alloc (.cells #[.int .u32 m, .int .u32 s, .bool k] 31)) 31 #[.int .u32 m2, .int .u32 s2, .bool k2]
  try simp only [World.size_alloc] at kb
  have hbw := bt hbw (ba (w.alloc (.cells #[.int .u32 m, .int .u32 s, .bool k] 31)) (.cells #[.int .u32 m2, .int .u32 s2, .bool k2] 31))
  go_enter Try.func8, Try.ntmps8
  have ca0 := ka.cell 0
  have ca1 := ka.cell 1
  have ca2 := ka.cell 2
  simp only [List.getElem?_toArray, List.getElem?_cons_zero, List.getElem?_cons_succ] at ca0 ca1 ca2
  have cb0 := kb.cell 0
  have cb1 := kb.cell 1
  have cb2 := kb.cell 2
  simp only [List.getElem?_toArray, List.getElem?_cons_zero, List.getElem?_cons_succ] at cb0 cb1 cb2
  go_wp2_with fail
  refine (both_ok m s k m2 s2 k2 x y hc hd _).mono ?_
  rintro e v1 ⟨rfl, hb⟩
  have ka := ka.below hb ka.lt
  have kb := kb.below hb kb.lt
  have za := Lib.hid ka.lt
  have zb := Lib.hid kb.lt
  have hbw := bt hbw hb
  clear hb
  clear ca0 ca1 ca2 cb0 cb1 cb2
  have ka := ka.alloc (.cells #[.int .i64 x, .int .i64 y] 32)
  have kb := kb.alloc (.cells #[.int .i64 x, .int .i64 y] 32)
  have kr := Blk.new v1 32 #[.int .i64 x, .int .i64 y]
  try simp only [World.size_alloc] at kr
  have hbw := bt hbw (ba v1 (.cells #[.int .i64 x, .int .i64 y] 32))
  have ca0 := ka.cell 0
  have ca1 := ka.cell 1
  have ca2 := ka.cell 2
  simp only [List.getElem?_toArray, List.getElem?_cons_zero, List.getElem?_cons_succ] at ca0 ca1 ca2
  have cb0 := kb.cell 0
  have cb1 := kb.cell 1
  have cb2 := kb.cell 2
  simp only [List.getElem?_toArray, List.getElem?_cons_zero, List.getElem?_cons_succ] at cb0 cb1 cb2
  have cr0 := kr.cell 0
  have cr1 := kr.cell 1
  simp only [List.getElem?_toArray, List.getElem?_cons_zero, List.getElem?_cons_succ] at cr0 cr1
  go_wp2_with fail
  refine (both_ok m2 s2 k2 m s k y x hd hc _).mono ?_
  rintro e v2 ⟨rfl, hb⟩
  have ka := ka.below hb ka.lt
  have kb := kb.below hb kb.lt
  have kr := kr.below hb kr.lt
  have za := Lib.hid ka.lt
  have zb := Lib.hid kb.lt
  have zr := Lib.hid kr.lt
  have hbw := bt hbw hb
  clear hb
  clear ca0 ca1 ca2 cb0 cb1 cb2 cr0 cr1
  have ka := ka.alloc (.cells #[.int .i64 y, .int .i64 x] 32)
  have kb := kb.alloc (.cells #[.int .i64 y, .int .i64 x] 32)
  have kr := kr.alloc (.cells #[.int .i64 y, .int .i64 x] 32)
  have kt := Blk.new v2 32 #[.int .i64 y, .int .i64 x]
  try simp only [World.size_alloc] at kt
  have hbw := bt hbw (ba v2 (.cells #[.int .i64 y, .int .i64 x] 32))
  have ca0 := ka.cell 0
  have ca1 := ka.cell 1
  have ca2 := ka.cell 2
  simp only [List.getElem?_toArray, List.getElem?_cons_zero, List.getElem?_cons_succ] at ca0 ca1 ca2
  have cb0 := kb.cell 0
  have cb1 := kb.cell 1
  have cb2 := kb.cell 2
  simp only [List.getElem?_toArray, List.getElem?_cons_zero, List.getElem?_cons_succ] at cb0 cb1 cb2
  have cr0 := kr.cell 0
  have cr1 := kr.cell 1
  simp only [List.getElem?_toArray, List.getElem?_cons_zero, List.getElem?_cons_succ] at cr0 cr1
  have ct0 := kt.cell 0
  have ct1 := kt.cell 1
  simp only [List.getElem?_toArray, List.getElem?_cons_zero, List.getElem?_cons_succ] at ct0 ct1
  go_wp2_with fail
  refine (after_ok m s k m2 s2 k2 x y hc hd hx hy _).mono ?_
  rintro e v3 ⟨rfl, hb⟩
  have ka := ka.below hb ka.lt
  have kb := kb.below hb kb.lt
  have kr := kr.below hb kr.lt
  have kt := kt.below hb kt.lt
  have za := Lib.hid ka.lt
  have zb := Lib.hid kb.lt
  have zr := Lib.hid kr.lt
  have zt := Lib.hid kt.lt
  have hbw := bt hbw hb
  clear hb
  clear ca0 ca1 ca2 cb0 cb1 cb2 cr0 cr1 ct0 ct1
  have ca0 := ka.cell 0
  have ca1 := ka.cell 1
  have ca2 := ka.cell 2
  simp only [List.getElem?_toArray, List.getElem?_cons_zero, List.getElem?_cons_succ] at ca0 ca1 ca2
  have cb0 := kb.cell 0
  have cb1 := kb.cell 1
  have cb2 := kb.cell 2
  simp only [List.getElem?_toArray, List.getElem?_cons_zero, List.getElem?_cons_succ] at cb0 cb1 cb2
  have cr0 := kr.cell 0
  have cr1 := kr.cell 1
  simp only [List.getElem?_toArray, List.getElem?_cons_zero, List.getElem?_cons_succ] at cr0 cr1
  have ct0 := kt.cell 0
  have ct1 := kt.cell 1
  simp only [List.getElem?_toArray, List.getElem?_cons_zero, List.getElem?_cons_succ] at ct0 ct1
  have kk := (Blk.new v3 31 #[.int .u32 0, .int .u32 0, .bool false]).alloc (.cells #[.int .u32 0, .int .u32 0, .bool false] 31)
  have yp0 := kk.cell 0
  have fp0 := kk.frozen 0
  clear kk
  have kk := (Blk.new v3 31 #[.int .u32 m, .int .u32 0, .bool false]).alloc (.cells #[.int .u32 0, .int .u32 0, .bool false] 31)
  have yp1 := kk.cell 1
  have fp1 := kk.frozen 1
  clear kk
  have kk := (Blk.new v3 31 #[.int .u32 m, .int .u32 m2, .bool false]).alloc (.cells #[.int .u32 0, .int .u32 0, .bool false] 31)
  have yp2 := kk.cell 2
  have fp2 := kk.frozen 2
  clear kk
  have kk := Blk.new (v3.alloc (.cells #[.int .u32 m, .int .u32 m2, .bool k] 31)) 31 #[.int .u32 0, .int .u32 0, .bool false]
  simp only [World.size_alloc] at kk
  have yq0 := kk.cell 0
  have fq0 := kk.frozen 0
  clear kk
  have kk := Blk.new (v3.alloc (.cells #[.int .u32 m, .int .u32 m2, .bool k] 31)) 31 #[.int .u32 m2, .int .u32 0, .bool false]
  simp only [World.size_alloc] at kk
  have yq1 := kk.cell 1
  have fq1 := kk.frozen 1
  clear kk
  have kk := Blk.new (v3.alloc (.cells #[.int .u32 m, .int .u32 m2, .bool k] 31)) 31 #[.int .u32 m2, .int .u32 m, .bool false]
  simp only [World.size_alloc] at kk
  have yq2 := kk.cell 2
  have fq2 := kk.frozen 2
  clear kk
  simp only [List.getElem?_toArray, List.getElem?_cons_zero, List.getElem?_cons_succ] at yp0 yp1 yp2 yq0 yq1 yq2
  have ka := ka.alloc (.cells #[.int .u32 m, .int .u32 m2, .bool k] 31)
  have kb := kb.alloc (.cells #[.int .u32 m, .int .u32 m2, .bool k] 31)
  have kr := kr.alloc (.cells #[.int .u32 m, .int .u32 m2, .bool k] 31)
  have kt := kt.alloc (.cells #[.int .u32 m, .int .u32 m2, .bool k] 31)
  have kp := Blk.new v3 31 #[.int .u32 m, .int .u32 m2, .bool k]
  try simp only [World.size_alloc] at kp
  have hbw := bt hbw (ba v3 (.cells #[.int .u32 m, .int .u32 m2, .bool k] 31))
  have ka := ka.alloc (.cells #[.int .u32 m2, .int .u32 m, .bool k2] 31)
  have kb := kb.alloc (.cells #[.int .u32 m2, .int .u32 m, .bool k2] 31)
  have kr := kr.alloc (.cells #[.int .u32 m2, .int .u32 m, .bool k2] 31)
  have kt := kt.alloc (.cells #[.int .u32 m2, .int .u32 m, .bool k2] 31)
  have kp := kp.alloc (.cells #[.int .u32 m2, .int .u32 m, .bool k2] 31)
  have kq := Blk.new (v3.alloc (.cells #[.int .u32 m, .int .u32 m2, .bool k] 31)) 31 #[.int .u32 m2, .int .u32 m, .bool k2]
  try simp only [World.size_alloc] at kq
  have hbw := bt hbw (ba (v3.alloc (.cells #[.int .u32 m, .int .u32 m2, .bool k] 31)) (.cells #[.int .u32 m2, .int .u32 m, .bool k2] 31))
  clear ca0 ca1 ca2 cb0 cb1 cb2 cr0 cr1 ct0 ct1
  have ca0 := ka.cell 0
  have ca1 := ka.cell 1
  have ca2 := ka.cell 2
  simp only [List.getElem?_toArray, List.getElem?_cons_zero, List.getElem?_cons_succ] at ca0 ca1 ca2
  have cb0 := kb.cell 0
  have cb1 := kb.cell 1
  have cb2 := kb.cell 2
  simp only [List.getElem?_toArray, List.getElem?_cons_zero, List.getElem?_cons_succ] at cb0 cb1 cb2
  have cr0 := kr.cell 0
  have cr1 := kr.cell 1
  simp only [List.getElem?_toArray, List.getElem?_cons_zero, List.getElem?_cons_succ] at cr0 cr1
  have ct0 := kt.cell 0
  have ct1 := kt.cell 1
  simp only [List.getElem?_toArray, List.getElem?_cons_zero, List.getElem?_cons_succ] at ct0 ct1
  have cp0 := kp.cell 0
  have cp1 := kp.cell 1
  have cp2 := kp.cell 2
  simp only [List.getElem?_toArray, List.getElem?_cons_zero, List.getElem?_cons_succ] at cp0 cp1 cp2
  have cq0 := kq.cell 0
  have cq1 := kq.cell 1
  have cq2 := kq.cell 2
  simp only [List.getElem?_toArray, List.getElem?_cons_zero, List.getElem?_cons_succ] at cq0 cq1 cq2
  go_wp2_with fail
  refine (after_ok m2 s2 k2 m s k y x hd hc hy hx _).mono ?_
  rintro e v4 ⟨rfl, hb⟩
  have ka := ka.below hb ka.lt
  have kb := kb.below hb kb.lt
  have kr := kr.below hb kr.lt
  have kt := kt.below hb kt.lt
  have kp := kp.below hb kp.lt
  have kq := kq.below hb kq.lt
  have za := Lib.hid ka.lt
  have zb := Lib.hid kb.lt
  have zr := Lib.hid kr.lt
  have zt := Lib.hid kt.lt
  have zp := Lib.hid kp.lt
  have zq := Lib.hid kq.lt
  have hbw := bt hbw hb
  clear hb
  clear yp0 fp0 yp1 fp1 yp2 fp2 yq0 fq0 yq1 fq1 yq2 fq2 ca0 ca1 ca2 cb0 cb1 cb2 cr0 cr1 ct0 ct1 cp0 cp1 cp2 cq0 cq1 cq2
  clear ka
  clear kb
  have cr0 := kr.cell 0
  have cr1 := kr.cell 1
  simp only [List.getElem?_toArray, List.getElem?_cons_zero, List.getElem?_cons_succ] at cr0 cr1
  have ct0 := kt.cell 0
  have ct1 := kt.cell 1
  simp only [List.getElem?_toArray, List.getElem?_cons_zero, List.getElem?_cons_succ] at ct0 ct1
  have cp0 := kp.cell 0
  have cp1 := kp.cell 1
  have cp2 := kp.cell 2
  simp only [List.getElem?_toArray, List.getElem?_cons_zero, List.getElem?_cons_succ] at cp0 cp1 cp2
  have cq0 := kq.cell 0
  have cq1 := kq.cell 1
  have cq2 := kq.cell 2
  simp only [List.getElem?_toArray, List.getElem?_cons_zero, List.getElem?_cons_succ] at cq0 cq1 cq2
  have kk := (Blk.new v4 31 #[.int .u32 0, .int .u32 0, .bool false]).alloc (.cells #[.int .u32 0, .int .u32 0, .bool false] 31)
  have yP0 := kk.cell 0
  have fP0 := kk.frozen 0
  clear kk
  have kk := (Blk.new v4 31 #[.int .u32 m2, .int .u32 0, .bool false]).alloc (.cells #[.int .u32 0, .int .u32 0, .bool false] 31)
  have yP1 := kk.cell 1
  have fP1 := kk.frozen 1
  clear kk
  have kk := (Blk.new v4 31 #[.int .u32 m2, .int .u32 m, .bool false]).alloc (.cells #[.int .u32 0, .int .u32 0, .bool false] 31)
  have yP2 := kk.cell 2
  have fP2 := kk.frozen 2
  clear kk
  have kk := Blk.new (v4.alloc (.cells #[.int .u32 m2, .int .u32 m, .bool k2] 31)) 31 #[.int .u32 0, .int .u32 0, .bool false]
  simp only [World.size_alloc] at kk
  have yQ0 := kk.cell 0
  have fQ0 := kk.frozen 0
  clear kk
  have kk := Blk.new (v4.alloc (.cells #[.int .u32 m2, .int .u32 m, .bool k2] 31)) 31 #[.int .u32 m, .int .u32 0, .bool false]
  simp only [World.size_alloc] at kk
  have yQ1 := kk.cell 1
  have fQ1 := kk.frozen 1
  clear kk
  have kk := Blk.new (v4.alloc (.cells #[.int .u32 m2, .int .u32 m, .bool k2] 31)) 31 #[.int .u32 m, .int .u32 m2, .bool false]
  simp only [World.size_alloc] at kk
  have yQ2 := kk.cell 2
  have fQ2 := kk.frozen 2
  clear kk
  simp only [List.getElem?_toArray, List.getElem?_cons_zero, List.getElem?_cons_succ] at yP0 yP1 yP2 yQ0 yQ1 yQ2
  have kr := kr.alloc (.cells #[.int .u32 m2, .int .u32 m, .bool k2] 31)
  have kt := kt.alloc (.cells #[.int .u32 m2, .int .u32 m, .bool k2] 31)
  have kp := kp.alloc (.cells #[.int .u32 m2, .int .u32 m, .bool k2] 31)
  have kq := kq.alloc (.cells #[.int .u32 m2, .int .u32 m, .bool k2] 31)
  have kP := Blk.new v4 31 #[.int .u32 m2, .int .u32 m, .bool k2]
  try simp only [World.size_alloc] at kP
  have hbw := bt hbw (ba v4 (.cells #[.int .u32 m2, .int .u32 m, .bool k2] 31))
  have kr := kr.alloc (.cells #[.int .u32 m, .int .u32 m2, .bool k] 31)
  have kt := kt.alloc (.cells #[.int .u32 m, .int .u32 m2, .bool k] 31)
  have kp := kp.alloc (.cells #[.int .u32 m, .int .u32 m2, .bool k] 31)
  have kq := kq.alloc (.cells #[.int .u32 m, .int .u32 m2, .bool k] 31)
  have kP := kP.alloc (.cells #[.int .u32 m, .int .u32 m2, .bool k] 31)
  have kQ := Blk.new (v4.alloc (.cells #[.int .u32 m2, .int .u32 m, .bool k2] 31)) 31 #[.int .u32 m, .int .u32 m2, .bool k]
  try simp only [World.size_alloc] at kQ
  have hbw := bt hbw (ba (v4.alloc (.cells #[.int .u32 m2, .int .u32 m, .bool k2] 31)) (.cells #[.int .u32 m, .int .u32 m2, .bool k] 31))
  have hA2 := eq2r
  have hSi := eqSr
  clear cr0 cr1 ct0 ct1 cp0 cp1 cp2 cq0 cq1 cq2
  have cr0 := kr.cell 0
  have cr1 := kr.cell 1
  simp only [List.getElem?_toArray, List.getElem?_cons_zero, List.getElem?_cons_succ] at cr0 cr1
  have ct0 := kt.cell 0
  have ct1 := kt.cell 1
  simp only [List.getElem?_toArray, List.getElem?_cons_zero, List.getElem?_cons_succ] at ct0 ct1
  have cp0 := kp.cell 0
  have cp1 := kp.cell 1
  have cp2 := kp.cell 2
  simp only [List.getElem?_toArray, List.getElem?_cons_zero, List.getElem?_cons_succ] at cp0 cp1 cp2
  have cq0 := kq.cell 0
  have cq1 := kq.cell 1
  have cq2 := kq.cell 2
  simp only [List.getElem?_toArray, List.getElem?_cons_zero, List.getElem?_cons_succ] at cq0 cq1 cq2
  have cP0 := kP.cell 0
  have cP1 := kP.cell 1
  have cP2 := kP.cell 2
  simp only [List.getElem?_toArray, List.getElem?_cons_zero, List.getElem?_cons_succ] at cP0 cP1 cP2
  have cQ0 := kQ.cell 0
  have cQ1 := kQ.cell 1
  have cQ2 := kQ.cell 2
  simp only [List.getElem?_toArray, List.getElem?_cons_zero, List.getElem?_cons_succ] at cQ0 cQ1 cQ2
  go_wp2_with fail
  refine (alive_any _).mono ?_
  rintro e v5 ⟨rfl, hb⟩
  have kr := kr.below hb kr.lt
  have kt := kt.below hb kt.lt
  have kp := kp.below hb kp.lt
  have kq := kq.below hb kq.lt
  have kP := kP.below hb kP.lt
  have kQ := kQ.below hb kQ.lt
  have zr := Lib.hid kr.lt
  have zt := Lib.hid kt.lt
  have zp := Lib.hid kp.lt
  have zq := Lib.hid kq.lt
  have zP := Lib.hid kP.lt
  have zQ := Lib.hid kQ.lt
  have hbw := bt hbw hb
  clear hb
  clear yP0 fP0 yP1 fP1 yP2 fP2 yQ0 fQ0 yQ1 fQ1 yQ2 fQ2 cr0 cr1 ct0 ct1 cp0 cp1 cp2 cq0 cq1 cq2 cP0 cP1 cP2 cQ0 cQ1 cQ2
  have cr0 := kr.cell 0
  have cr1 := kr.cell 1
  simp only [List.getElem?_toArray, List.getElem?_cons_zero, List.getElem?_cons_succ] at cr0 cr1
  have ct0 := kt.cell 0
  have ct1 := kt.cell 1
  simp only [List.getElem?_toArray, List.getElem?_cons_zero, List.getElem?_cons_succ] at ct0 ct1
  have cp0 := kp.cell 0
  have cp1 := kp.cell 1
  have cp2 := kp.cell 2
  simp only [List.getElem?_toArray, List.getElem?_cons_zero, List.getElem?_cons_succ] at cp0 cp1 cp2
  have cq0 := kq.cell 0
  have cq1 := kq.cell 1
  have cq2 := kq.cell 2
  simp only [List.getElem?_toArray, List.getElem?_cons_zero, List.getElem?_cons_succ] at cq0 cq1 cq2
  have cP0 := kP.cell 0
  have cP1 := kP.cell 1
  have cP2 := kP.cell 2
  simp only [List.getElem?_toArray, List.getElem?_cons_zero, List.getElem?_cons_succ] at cP0 cP1 cP2
  have cQ0 := kQ.cell 0
  have cQ1 := kQ.cell 1
  have cQ2 := kQ.cell 2
  simp only [List.getElem?_toArray, List.getElem?_cons_zero, List.getElem?_cons_succ] at cQ0 cQ1 cQ2
  go_wp2
  go_ret
  exact ⟨rfl, hbw⟩

theorem namesTurned_walk (a b : SideV) (w : World) (h1 h2 : True) : Calls Try.prog 8 #[a.val, b.val] w fun e w' => e = .returned (.bool true) ∧ Below w.heap.size w w' := by
  obtain ⟨m, s, k⟩ := a
  obtain ⟨m2, s2, k2⟩ := b
  show Calls Try.prog _ #[.agg #[.int .u32 m, .int .u32 s, .bool k], .agg #[.int .u32 m2, .int .u32 s2, .bool k2]] w _
  rcases bothb_cases m s k m2 s2 k2 with ⟨h, h'⟩ | ⟨x, y, h, h', p, q⟩ | ⟨x, y, h, h', p, q⟩
  · exact namesTurned_no _ _ _ _ _ _ h h' w
  · exact namesTurned_bad _ _ _ _ _ _ x y h h' p q w
  · exact namesTurned_ok _ _ _ _ _ _ x y h h' p q w

set_option maxHeartbeats 2000000 in
theorem namesNext_no (m s : Int) (k : Bool) (m2 s2 : Int) (k2 : Bool) (wk mo : Bool) (hc : checkM m s m2 s2 k = (0, 1)) (hd : checkM m2 s2 m s k2 = (0, 1)) (w : World) : Calls Try.prog 6 #[.agg #[.int .u32 m, .int .u32 s, .bool k], .agg #[.int .u32 m2, .int .u32 s2, .bool k2], .bool wk, .bool mo] w fun e w' => e = .returned (.bool true) ∧ Below w.heap.size w w' := by
  have hbw := Below.refl w.heap.size w
  have ka := Blk.new w 31 #[.int .u32 m, .int .u32 s, .bool k]
  try simp only [World.size_alloc] at ka
  have hbw := bt hbw (ba w (.cells #[.int .u32 m, .int .u32 s, .bool k] 31))
  have ka := ka.alloc (.cells #[.int .u32 m2, .int .u32 s2, .bool k2] 31)
  have kb := Blk.new (w.alloc (.cells #[.int .u32 m, .int .u32 s, .bool k] 31)) 31 #[.int .u32 m2, .int .u32 s2, .bool k2]
  try simp only [World.size_alloc] at kb
  have hbw := bt hbw (ba (w.alloc (.cells #[.int .u32 m, .int .u32 s, .bool k] 31)) (.cells #[.int .u32 m2, .int .u32 s2, .bool k2] 31))
  go_enter Try.func6, Try.ntmps6
  have ca0 := ka.cell 0
  have ca1 := ka.cell 1
  have ca2 := ka.cell 2
  simp only [List.getElem?_toArray, List.getElem?_cons_zero, List.getElem?_cons_succ] at ca0 ca1 ca2
  have cb0 := kb.cell 0
  have cb1 := kb.cell 1
  have cb2 := kb.cell 2
  simp only [List.getElem?_toArray, List.getElem?_cons_zero, List.getElem?_cons_succ] at cb0 cb1 cb2
  go_wp2_with fail
  refine (after_no m s k m2 s2 k2 0 hc _).mono ?_
  rintro e v1 ⟨rfl, hb⟩
  have ka := ka.below hb ka.lt
  have kb := kb.below hb kb.lt
  have za := Lib.hid ka.lt
  have zb := Lib.hid kb.lt
  have hbw := bt hbw hb
  clear hb
  clear ca0 ca1 ca2 cb0 cb1 cb2
  clear ka
  clear kb
  have hbv := hbw
  have kk := (Blk.new v1 31 #[.int .u32 0, .int .u32 0, .bool false]).alloc (.cells #[.int .u32 0, .int .u32 0, .bool false] 31)
  have yp0 := kk.cell 0
  have fp0 := kk.frozen 0
  clear kk
  have kk := (Blk.new v1 31 #[.int .u32 m, .int .u32 0, .bool false]).alloc (.cells #[.int .u32 0, .int .u32 0, .bool false] 31)
  have yp1 := kk.cell 1
  have fp1 := kk.frozen 1
  clear kk
  have kk := (Blk.new v1 31 #[.int .u32 m, .int .u32 s, .bool false]).alloc (.cells #[.int .u32 0, .int .u32 0, .bool false] 31)
  have yp2 := kk.cell 2
  have fp2 := kk.frozen 2
  clear kk
  have kk := Blk.new (v1.alloc (.cells #[.int .u32 m, .int .u32 s, .bool k] 31)) 31 #[.int .u32 0, .int .u32 0, .bool false]
  simp only [World.size_alloc] at kk
  have yq0 := kk.cell 0
  have fq0 := kk.frozen 0
  clear kk
  have kk := Blk.new (v1.alloc (.cells #[.int .u32 m, .int .u32 s, .bool k] 31)) 31 #[.int .u32 m2, .int .u32 0, .bool false]
  simp only [World.size_alloc] at kk
  have yq1 := kk.cell 1
  have fq1 := kk.frozen 1
  clear kk
  have kk := Blk.new (v1.alloc (.cells #[.int .u32 m, .int .u32 s, .bool k] 31)) 31 #[.int .u32 m2, .int .u32 s2, .bool false]
  simp only [World.size_alloc] at kk
  have yq2 := kk.cell 2
  have fq2 := kk.frozen 2
  clear kk
  simp only [List.getElem?_toArray, List.getElem?_cons_zero, List.getElem?_cons_succ] at yp0 yp1 yp2 yq0 yq1 yq2
  have kp := Blk.new v1 31 #[.int .u32 m, .int .u32 s, .bool k]
  try simp only [World.size_alloc] at kp
  have hbw := bt hbw (ba v1 (.cells #[.int .u32 m, .int .u32 s, .bool k] 31))
  have kp := kp.alloc (.cells #[.int .u32 m2, .int .u32 s2, .bool k2] 31)
  have kq := Blk.new (v1.alloc (.cells #[.int .u32 m, .int .u32 s, .bool k] 31)) 31 #[.int .u32 m2, .int .u32 s2, .bool k2]
  try simp only [World.size_alloc] at kq
  have hbw := bt hbw (ba (v1.alloc (.cells #[.int .u32 m, .int .u32 s, .bool k] 31)) (.cells #[.int .u32 m2, .int .u32 s2, .bool k2] 31))
  have cp0 := kp.cell 0
  have cp1 := kp.cell 1
  have cp2 := kp.cell 2
  simp only [List.getElem?_toArray, List.getElem?_cons_zero, List.getElem?_cons_succ] at cp0 cp1 cp2
  have cq0 := kq.cell 0
  have cq1 := kq.cell 1
  have cq2 := kq.cell 2
  simp only [List.getElem?_toArray, List.getElem?_cons_zero, List.getElem?_cons_succ] at cq0 cq1 cq2
  go_wp2_with fail
  refine (alive_any _).mono ?_
  rintro e v2 ⟨rfl, hb⟩
  have kp := kp.below hb kp.lt
  have kq := kq.below hb kq.lt
  have zp := Lib.hid kp.lt
  have zq := Lib.hid kq.lt
  have hbw := bt hbw hb
  clear hb
  clear yp0 fp0 yp1 fp1 yp2 fp2 yq0 fq0 yq1 fq1 yq2 fq2 cp0 cp1 cp2 cq0 cq1 cq2
  have cp0 := kp.cell 0
  have cp1 := kp.cell 1
  have cp2 := kp.cell 2
  simp only [List.getElem?_toArray, List.getElem?_cons_zero, List.getElem?_cons_succ] at cp0 cp1 cp2
  have cq0 := kq.cell 0
  have cq1 := kq.cell 1
  have cq2 := kq.cell 2
  simp only [List.getElem?_toArray, List.getElem?_cons_zero, List.getElem?_cons_succ] at cq0 cq1 cq2
  go_wp2
  go_ret
  exact ⟨rfl, hbw⟩

set_option maxHeartbeats 2000000 in
theorem namesNext_bad (m s : Int) (k : Bool) (m2 s2 : Int) (k2 : Bool) (wk mo : Bool) (x y : Int) (hc : checkM m s m2 s2 k = (x, 0)) (hd : checkM m2 s2 m s k2 = (y, 0)) (hb : (badB x || badB y) = true) (hb' : (badB y || badB x) = true) (w : World) : Calls Try.prog 6 #[.agg #[.int .u32 m, .int .u32 s, .bool k], .agg #[.int .u32 m2, .int .u32 s2, .bool k2], .bool wk, .bool mo] w fun e w' => e = .returned (.bool true) ∧ Below w.heap.size w w' := by
  have hbw := Below.refl w.heap.size w
  have ka := Blk.new w 31 #[.int .u32 m, .int .u32 s, .bool k]
  try simp only [World.size_alloc] at ka
  have hbw := bt hbw (ba w (.cells #[.int .u32 m, .int .u32 s, .bool k] 31))
  have ka := ka.alloc (.cells #[.int .u32 m2, .int .u32 s2, .bool k2] 31)
  have kb := Blk.new (w.alloc (.cells #[.int .u32 m, .int .u32 s, .bool k] 31)) 31 #[.int .u32 m2, .int .u32 s2, .bool k2]
  try simp only [World.size_alloc] at kb
  have hbw := bt hbw (ba (w.alloc (.cells #[.int .u32 m, .int .u32 s, .bool k] 31)) (.cells #[.int .u32 m2, .int .u32 s2, .bool k2] 31))
  go_enter Try.func6, Try.ntmps6
  have ca0 := ka.cell 0
  have ca1 := ka.cell 1
  have ca2 := ka.cell 2
  simp only [List.getElem?_toArray, List.getElem?_cons_zero, List.getElem?_cons_succ] at ca0 ca1 ca2
  have cb0 := kb.cell 0
  have cb1 := kb.cell 1
  have cb2 := kb.cell 2
  simp only [List.getElem?_toArray, List.getElem?_cons_zero, List.getElem?_cons_succ] at cb0 cb1 cb2
  go_wp2_with fail
  refine (after_bad m s k m2 s2 k2 x y hc hd hb _).mono ?_
  rintro e v1 ⟨rfl, hb⟩
  have ka := ka.below hb ka.lt
  have kb := kb.below hb kb.lt
  have za := Lib.hid ka.lt
  have zb := Lib.hid kb.lt
  have hbw := bt hbw hb
  clear hb
  clear ca0 ca1 ca2 cb0 cb1 cb2
  clear ka
  clear kb
  have hbv := hbw
  have kk := (Blk.new v1 31 #[.int .u32 0, .int .u32 0, .bool false]).alloc (.cells #[.int .u32 0, .int .u32 0, .bool false] 31)
  have yp0 := kk.cell 0
  have fp0 := kk.frozen 0
  clear kk
  have kk := (Blk.new v1 31 #[.int .u32 m, .int .u32 0, .bool false]).alloc (.cells #[.int .u32 0, .int .u32 0, .bool false] 31)
  have yp1 := kk.cell 1
  have fp1 := kk.frozen 1
  clear kk
  have kk := (Blk.new v1 31 #[.int .u32 m, .int .u32 s, .bool false]).alloc (.cells #[.int .u32 0, .int .u32 0, .bool false] 31)
  have yp2 := kk.cell 2
  have fp2 := kk.frozen 2
  clear kk
  have kk := Blk.new (v1.alloc (.cells #[.int .u32 m, .int .u32 s, .bool k] 31)) 31 #[.int .u32 0, .int .u32 0, .bool false]
  simp only [World.size_alloc] at kk
  have yq0 := kk.cell 0
  have fq0 := kk.frozen 0
  clear kk
  have kk := Blk.new (v1.alloc (.cells #[.int .u32 m, .int .u32 s, .bool k] 31)) 31 #[.int .u32 m2, .int .u32 0, .bool false]
  simp only [World.size_alloc] at kk
  have yq1 := kk.cell 1
  have fq1 := kk.frozen 1
  clear kk
  have kk := Blk.new (v1.alloc (.cells #[.int .u32 m, .int .u32 s, .bool k] 31)) 31 #[.int .u32 m2, .int .u32 s2, .bool false]
  simp only [World.size_alloc] at kk
  have yq2 := kk.cell 2
  have fq2 := kk.frozen 2
  clear kk
  simp only [List.getElem?_toArray, List.getElem?_cons_zero, List.getElem?_cons_succ] at yp0 yp1 yp2 yq0 yq1 yq2
  have kp := Blk.new v1 31 #[.int .u32 m, .int .u32 s, .bool k]
  try simp only [World.size_alloc] at kp
  have hbw := bt hbw (ba v1 (.cells #[.int .u32 m, .int .u32 s, .bool k] 31))
  have kp := kp.alloc (.cells #[.int .u32 m2, .int .u32 s2, .bool k2] 31)
  have kq := Blk.new (v1.alloc (.cells #[.int .u32 m, .int .u32 s, .bool k] 31)) 31 #[.int .u32 m2, .int .u32 s2, .bool k2]
  try simp only [World.size_alloc] at kq
  have hbw := bt hbw (ba (v1.alloc (.cells #[.int .u32 m, .int .u32 s, .bool k] 31)) (.cells #[.int .u32 m2, .int .u32 s2, .bool k2] 31))
  have cp0 := kp.cell 0
  have cp1 := kp.cell 1
  have cp2 := kp.cell 2
  simp only [List.getElem?_toArray, List.getElem?_cons_zero, List.getElem?_cons_succ] at cp0 cp1 cp2
  have cq0 := kq.cell 0
  have cq1 := kq.cell 1
  have cq2 := kq.cell 2
  simp only [List.getElem?_toArray, List.getElem?_cons_zero, List.getElem?_cons_succ] at cq0 cq1 cq2
  go_wp2_with fail
  refine (alive_any _).mono ?_
  rintro e v2 ⟨rfl, hb⟩
  have kp := kp.below hb kp.lt
  have kq := kq.below hb kq.lt
  have zp := Lib.hid kp.lt
  have zq := Lib.hid kq.lt
  have hbw := bt hbw hb
  clear hb
  clear yp0 fp0 yp1 fp1 yp2 fp2 yq0 fq0 yq1 fq1 yq2 fq2 cp0 cp1 cp2 cq0 cq1 cq2
  have cp0 := kp.cell 0
  have cp1 := kp.cell 1
  have cp2 := kp.cell 2
  simp only [List.getElem?_toArray, List.getElem?_cons_zero, List.getElem?_cons_succ] at cp0 cp1 cp2
  have cq0 := kq.cell 0
  have cq1 := kq.cell 1
  have cq2 := kq.cell 2
  simp only [List.getElem?_toArray, List.getElem?_cons_zero, List.getElem?_cons_succ] at cq0 cq1 cq2
  go_wp2
  go_ret
  exact ⟨rfl, hbw⟩

set_option maxHeartbeats 2000000 in
theorem namesNext_ok (m s : Int) (k : Bool) (m2 s2 : Int) (k2 : Bool) (wk mo : Bool) (x y : Int) (hc : checkM m s m2 s2 k = (x, 0)) (hd : checkM m2 s2 m s k2 = (y, 0)) (hx : badB x = false) (hy : badB y = false) (w : World) : Calls Try.prog 6 #[.agg #[.int .u32 m, .int .u32 s, .bool k], .agg #[.int .u32 m2, .int .u32 s2, .bool k2], .bool wk, .bool mo] w fun e w' => e = .returned (.bool true) ∧ Below w.heap.size w w' := by
  have hf := (check_fine m s m2 s2 k wk x hc).1
  have hg := (check_fine m s m2 s2 k mo x hc).2
  have hbw := Below.refl w.heap.size w
  have ka := Blk.new w 31 #[.int .u32 m, .int .u32 s, .bool k]
  try simp only [World.size_alloc] at ka
  have hbw := bt hbw (ba w (.cells #[.int .u32 m, .int .u32 s, .bool k] 31))
  have ka := ka.alloc (.cells #[.int .u32 m2, .int .u32 s2, .bool k2] 31)
  have kb := Blk.new (w.alloc (.cells #[.int .u32 m, .int .u32 s, .bool k] 31)) 31 #[.int .u32 m2, .int .u32 s2, .bool k2]
  try simp only [World.size_alloc] at kb
  have hbw := bt hbw (ba (w.alloc (.cells #[.int .u32 m, .int .u32 s, .bool k] 31)) (.cells #[.int .u32 m2, .int .u32 s2, .bool k2] 31))
  go_enter Try.func6, Try.ntmps6
  have ca0 := ka.cell 0
  have ca1 := ka.cell 1
  have ca2 := ka.cell 2
  simp only [List.getElem?_toArray, List.getElem?_cons_zero, List.getElem?_cons_succ] at ca0 ca1 ca2
  have cb0 := kb.cell 0
  have cb1 := kb.cell 1
  have cb2 := kb.cell 2
  simp only [List.getElem?_toArray, List.getElem?_cons_zero, List.getElem?_cons_succ] at cb0 cb1 cb2
  go_wp2_with fail
  refine (after_ok m s k m2 s2 k2 x y hc hd hx hy _).mono ?_
  rintro e v1 ⟨rfl, hb⟩
  have ka := ka.below hb ka.lt
  have kb := kb.below hb kb.lt
  have za := Lib.hid ka.lt
  have zb := Lib.hid kb.lt
  have hbw := bt hbw hb
  clear hb
  clear ca0 ca1 ca2 cb0 cb1 cb2
  clear ka
  clear kb
  have hbv := hbw
  have kk := (Blk.new v1 31 #[.int .u32 0, .int .u32 0, .bool false]).alloc (.cells #[.int .u32 0, .int .u32 0, .bool false] 31)
  have yp0 := kk.cell 0
  have fp0 := kk.frozen 0
  clear kk
  have kk := (Blk.new v1 31 #[.int .u32 m, .int .u32 0, .bool false]).alloc (.cells #[.int .u32 0, .int .u32 0, .bool false] 31)
  have yp1 := kk.cell 1
  have fp1 := kk.frozen 1
  clear kk
  have kk := (Blk.new v1 31 #[.int .u32 m, .int .u32 m2, .bool false]).alloc (.cells #[.int .u32 0, .int .u32 0, .bool false] 31)
  have yp2 := kk.cell 2
  have fp2 := kk.frozen 2
  clear kk
  have kk := Blk.new (v1.alloc (.cells #[.int .u32 m, .int .u32 m2, .bool k] 31)) 31 #[.int .u32 0, .int .u32 0, .bool false]
  simp only [World.size_alloc] at kk
  have yq0 := kk.cell 0
  have fq0 := kk.frozen 0
  clear kk
  have kk := Blk.new (v1.alloc (.cells #[.int .u32 m, .int .u32 m2, .bool k] 31)) 31 #[.int .u32 m2, .int .u32 0, .bool false]
  simp only [World.size_alloc] at kk
  have yq1 := kk.cell 1
  have fq1 := kk.frozen 1
  clear kk
  have kk := Blk.new (v1.alloc (.cells #[.int .u32 m, .int .u32 m2, .bool k] 31)) 31 #[.int .u32 m2, .int .u32 m, .bool false]
  simp only [World.size_alloc] at kk
  have yq2 := kk.cell 2
  have fq2 := kk.frozen 2
  clear kk
  simp only [List.getElem?_toArray, List.getElem?_cons_zero, List.getElem?_cons_succ] at yp0 yp1 yp2 yq0 yq1 yq2
  have kp := Blk.new v1 31 #[.int .u32 m, .int .u32 m2, .bool k]
  try simp only [World.size_alloc] at kp
  have hbw := bt hbw (ba v1 (.cells #[.int .u32 m, .int .u32 m2, .bool k] 31))
  have kp := kp.alloc (.cells #[.int .u32 m2, .int .u32 m, .bool k2] 31)
  have kq := Blk.new (v1.alloc (.cells #[.int .u32 m, .int .u32 m2, .bool k] 31)) 31 #[.int .u32 m2, .int .u32 m, .bool k2]
  try simp only [World.size_alloc] at kq
  have hbw := bt hbw (ba (v1.alloc (.cells #[.int .u32 m, .int .u32 m2, .bool k] 31)) (.cells #[.int .u32 m2, .int .u32 m, .bool k2] 31))
  have cp0 := kp.cell 0
  have cp1 := kp.cell 1
  have cp2 := kp.cell 2
  simp only [List.getElem?_toArray, List.getElem?_cons_zero, List.getElem?_cons_succ] at cp0 cp1 cp2
  have cq0 := kq.cell 0
  have cq1 := kq.cell 1
  have cq2 := kq.cell 2
  simp only [List.getElem?_toArray, List.getElem?_cons_zero, List.getElem?_cons_succ] at cq0 cq1 cq2
  have gp := kp.frozen 2
  have kk := Blk.new (v1.alloc (.cells #[.int .u32 m, .int .u32 m2, .bool wk] 31)) 31 #[.int .u32 m2, .int .u32 m, .bool k2]
  simp only [World.size_alloc] at kk
  have gq := kk.frozen 2
  have gc := kk.cell 2
  clear kk
  simp only [List.getElem?_toArray, List.getElem?_cons_zero, List.getElem?_cons_succ] at gc
  clear kp kq hbw
  have hbw := hbv
  have kp := Blk.new v1 31 #[.int .u32 m, .int .u32 m2, .bool wk]
  try simp only [World.size_alloc] at kp
  have hbw := bt hbw (ba v1 (.cells #[.int .u32 m, .int .u32 m2, .bool wk] 31))
  have kp := kp.alloc (.cells #[.int .u32 m2, .int .u32 m, .bool mo] 31)
  have kq := Blk.new (v1.alloc (.cells #[.int .u32 m, .int .u32 m2, .bool wk] 31)) 31 #[.int .u32 m2, .int .u32 m, .bool mo]
  try simp only [World.size_alloc] at kq
  have hbw := bt hbw (ba (v1.alloc (.cells #[.int .u32 m, .int .u32 m2, .bool wk] 31)) (.cells #[.int .u32 m2, .int .u32 m, .bool mo] 31))
  have d0 := kp.cell 0
  have d1 := kp.cell 1
  have d2 := kp.cell 2
  have d3 := kq.cell 0
  have d4 := kq.cell 1
  have d5 := kq.cell 2
  simp only [List.getElem?_toArray, List.getElem?_cons_zero, List.getElem?_cons_succ] at d0 d1 d2 d3 d4 d5
  go_wp2_with fail
  refine (both_ok m m2 wk m2 m mo 1 1 hf hg _).mono ?_
  rintro e v2 ⟨rfl, hb⟩
  clear d0 d1 d2 d3 d4 d5 gp gq gc yp0 fp0 yp1 fp1 yp2 fp2 yq0 fq0 yq1 fq1 yq2 fq2 cp0 cp1 cp2 cq0 cq1 cq2
  have kp := kp.below hb kp.lt
  have kq := kq.below hb kq.lt
  have hbw := bt hbw hb
  clear hb
  have kp := kp.alloc (.cells #[.int .i64 1, .int .i64 1] 32)
  have kq := kq.alloc (.cells #[.int .i64 1, .int .i64 1] 32)
  have kr := Blk.new v2 32 #[.int .i64 1, .int .i64 1]
  try simp only [World.size_alloc] at kr
  have hbw := bt hbw (ba v2 (.cells #[.int .i64 1, .int .i64 1] 32))
  have cp0 := kp.cell 0
  have cp1 := kp.cell 1
  have cp2 := kp.cell 2
  simp only [List.getElem?_toArray, List.getElem?_cons_zero, List.getElem?_cons_succ] at cp0 cp1 cp2
  have cq0 := kq.cell 0
  have cq1 := kq.cell 1
  have cq2 := kq.cell 2
  simp only [List.getElem?_toArray, List.getElem?_cons_zero, List.getElem?_cons_succ] at cq0 cq1 cq2
  have cr0 := kr.cell 0
  have cr1 := kr.cell 1
  simp only [List.getElem?_toArray, List.getElem?_cons_zero, List.getElem?_cons_succ] at cr0 cr1
  go_wp2_with fail
  refine (after_ok m m2 wk m2 m mo 1 1 hf hg (by decide) (by decide) _).mono ?_
  rintro e v3 ⟨rfl, hb⟩
  have kp := kp.below hb kp.lt
  have kq := kq.below hb kq.lt
  have kr := kr.below hb kr.lt
  have zp := Lib.hid kp.lt
  have zq := Lib.hid kq.lt
  have zr := Lib.hid kr.lt
  have hbw := bt hbw hb
  clear hb
  clear cp0 cp1 cp2 cq0 cq1 cq2 cr0 cr1
  have cp0 := kp.cell 0
  have cp1 := kp.cell 1
  have cp2 := kp.cell 2
  simp only [List.getElem?_toArray, List.getElem?_cons_zero, List.getElem?_cons_succ] at cp0 cp1 cp2
  have cq0 := kq.cell 0
  have cq1 := kq.cell 1
  have cq2 := kq.cell 2
  simp only [List.getElem?_toArray, List.getElem?_cons_zero, List.getElem?_cons_succ] at cq0 cq1 cq2
  have cr0 := kr.cell 0
  have cr1 := kr.cell 1
  simp only [List.getElem?_toArray, List.getElem?_cons_zero, List.getElem?_cons_succ] at cr0 cr1
  have kk := (Blk.new v3 31 #[.int .u32 0, .int .u32 0, .bool false]).alloc (.cells #[.int .u32 0, .int .u32 0, .bool false] 31)
  have yP0 := kk.cell 0
  have fP0 := kk.frozen 0
  clear kk
  have kk := (Blk.new v3 31 #[.int .u32 m, .int .u32 0, .bool false]).alloc (.cells #[.int .u32 0, .int .u32 0, .bool false] 31)
  have yP1 := kk.cell 1
  have fP1 := kk.frozen 1
  clear kk
  have kk := (Blk.new v3 31 #[.int .u32 m, .int .u32 m2, .bool false]).alloc (.cells #[.int .u32 0, .int .u32 0, .bool false] 31)
  have yP2 := kk.cell 2
  have fP2 := kk.frozen 2
  clear kk
  have kk := Blk.new (v3.alloc (.cells #[.int .u32 m, .int .u32 m2, .bool wk] 31)) 31 #[.int .u32 0, .int .u32 0, .bool false]
  simp only [World.size_alloc] at kk
  have yQ0 := kk.cell 0
  have fQ0 := kk.frozen 0
  clear kk
  have kk := Blk.new (v3.alloc (.cells #[.int .u32 m, .int .u32 m2, .bool wk] 31)) 31 #[.int .u32 m2, .int .u32 0, .bool false]
  simp only [World.size_alloc] at kk
  have yQ1 := kk.cell 1
  have fQ1 := kk.frozen 1
  clear kk
  have kk := Blk.new (v3.alloc (.cells #[.int .u32 m, .int .u32 m2, .bool wk] 31)) 31 #[.int .u32 m2, .int .u32 m, .bool false]
  simp only [World.size_alloc] at kk
  have yQ2 := kk.cell 2
  have fQ2 := kk.frozen 2
  clear kk
  simp only [List.getElem?_toArray, List.getElem?_cons_zero, List.getElem?_cons_succ] at yP0 yP1 yP2 yQ0 yQ1 yQ2
  have kp := kp.alloc (.cells #[.int .u32 m, .int .u32 m2, .bool wk] 31)
  have kq := kq.alloc (.cells #[.int .u32 m, .int .u32 m2, .bool wk] 31)
  have kr := kr.alloc (.cells #[.int .u32 m, .int .u32 m2, .bool wk] 31)
  have kP := Blk.new v3 31 #[.int .u32 m, .int .u32 m2, .bool wk]
  try simp only [World.size_alloc] at kP
  have hbw := bt hbw (ba v3 (.cells #[.int .u32 m, .int .u32 m2, .bool wk] 31))
  have kp := kp.alloc (.cells #[.int .u32 m2, .int .u32 m, .bool mo] 31)
  have kq := kq.alloc (.cells #[.int .u32 m2, .int .u32 m, .bool mo] 31)
  have kr := kr.alloc (.cells #[.int .u32 m2, .int .u32 m, .bool mo] 31)
  have kP := kP.alloc (.cells #[.int .u32 m2, .int .u32 m, .bool mo] 31)
  have kQ := Blk.new (v3.alloc (.cells #[.int .u32 m, .int .u32 m2, .bool wk] 31)) 31 #[.int .u32 m2, .int .u32 m, .bool mo]
  try simp only [World.size_alloc] at kQ
  have hbw := bt hbw (ba (v3.alloc (.cells #[.int .u32 m, .int .u32 m2, .bool wk] 31)) (.cells #[.int .u32 m2, .int .u32 m, .bool mo] 31))
  have hA2 := eq2r
  have hSi := eqSr
  clear cp0 cp1 cp2 cq0 cq1 cq2 cr0 cr1
  have cp0 := kp.cell 0
  have cp1 := kp.cell 1
  have cp2 := kp.cell 2
  simp only [List.getElem?_toArray, List.getElem?_cons_zero, List.getElem?_cons_succ] at cp0 cp1 cp2
  have cq0 := kq.cell 0
  have cq1 := kq.cell 1
  have cq2 := kq.cell 2
  simp only [List.getElem?_toArray, List.getElem?_cons_zero, List.getElem?_cons_succ] at cq0 cq1 cq2
  have cr0 := kr.cell 0
  have cr1 := kr.cell 1
  simp only [List.getElem?_toArray, List.getElem?_cons_zero, List.getElem?_cons_succ] at cr0 cr1
  have cP0 := kP.cell 0
  have cP1 := kP.cell 1
  have cP2 := kP.cell 2
  simp only [List.getElem?_toArray, List.getElem?_cons_zero, List.getElem?_cons_succ] at cP0 cP1 cP2
  have cQ0 := kQ.cell 0
  have cQ1 := kQ.cell 1
  have cQ2 := kQ.cell 2
  simp only [List.getElem?_toArray, List.getElem?_cons_zero, List.getElem?_cons_succ] at cQ0 cQ1 cQ2
  go_wp2_with fail
  refine (alive_any _).mono ?_
  rintro e v4 ⟨rfl, hb⟩
  have kp := kp.below hb kp.lt
  have kq := kq.below hb kq.lt
  have kr := kr.below hb kr.lt
  have kP := kP.below hb kP.lt
  have kQ := kQ.below hb kQ.lt
  have zp := Lib.hid kp.lt
  have zq := Lib.hid kq.lt
  have zr := Lib.hid kr.lt
  have zP := Lib.hid kP.lt
  have zQ := Lib.hid kQ.lt
  have hbw := bt hbw hb
  clear hb
  clear yP0 fP0 yP1 fP1 yP2 fP2 yQ0 fQ0 yQ1 fQ1 yQ2 fQ2 cp0 cp1 cp2 cq0 cq1 cq2 cr0 cr1 cP0 cP1 cP2 cQ0 cQ1 cQ2
  have cp0 := kp.cell 0
  have cp1 := kp.cell 1
  have cp2 := kp.cell 2
  simp only [List.getElem?_toArray, List.getElem?_cons_zero, List.getElem?_cons_succ] at cp0 cp1 cp2
  have cq0 := kq.cell 0
  have cq1 := kq.cell 1
  have cq2 := kq.cell 2
  simp only [List.getElem?_toArray, List.getElem?_cons_zero, List.getElem?_cons_succ] at cq0 cq1 cq2
  have cr0 := kr.cell 0
  have cr1 := kr.cell 1
  simp only [List.getElem?_toArray, List.getElem?_cons_zero, List.getElem?_cons_succ] at cr0 cr1
  have cP0 := kP.cell 0
  have cP1 := kP.cell 1
  have cP2 := kP.cell 2
  simp only [List.getElem?_toArray, List.getElem?_cons_zero, List.getElem?_cons_succ] at cP0 cP1 cP2
  have cQ0 := kQ.cell 0
  have cQ1 := kQ.cell 1
  have cQ2 := kQ.cell 2
  simp only [List.getElem?_toArray, List.getElem?_cons_zero, List.getElem?_cons_succ] at cQ0 cQ1 cQ2
  go_wp2
  go_ret
  exact ⟨rfl, hbw⟩

theorem namesNext_walk (a b : SideV) (wk mo : Bool) (w : World) (h1 h2 : True) : Calls Try.prog 6 #[a.val, b.val, .bool wk, .bool mo] w fun e w' => e = .returned (.bool true) ∧ Below w.heap.size w w' := by
  obtain ⟨m, s, k⟩ := a
  obtain ⟨m2, s2, k2⟩ := b
  show Calls Try.prog _ #[.agg #[.int .u32 m, .int .u32 s, .bool k], .agg #[.int .u32 m2, .int .u32 s2, .bool k2], .bool wk, .bool mo] w _
  rcases bothb_cases m s k m2 s2 k2 with ⟨h, h'⟩ | ⟨x, y, h, h', p, q⟩ | ⟨x, y, h, h', p, q⟩
  · exact namesNext_no _ _ _ _ _ _ _ _ h h' w
  · exact namesNext_bad _ _ _ _ _ _ _ _ x y h h' p q w
  · exact namesNext_ok _ _ _ _ _ _ _ _ x y h h' p q w
end Go.Proofs.Ytcihmjflfcbgmaa
