/- Layer 17: the laws cold and new. -/
import Derived.Test.YtcihmjflfcbgmaaNe
namespace Go.Proofs.Ytcihmjflfcbgmaa
open Go.RowKit
set_option linter.unusedVariables false
set_option linter.unusedSimpArgs false

set_option maxHeartbeats 1000000 in
theorem cold0 (m t f : Int) (k : Bool) (h1 : (m == 0) = true) (w : World) : Calls Try.prog 5 #[.int .u32 m, .int .u32 t, .int .u32 f, .bool k] w fun e w' => e = .returned (.bool true) ∧ Below w.heap.size w w' := by
  have hbw := Below.refl w.heap.size w
  go_enter Try.func5, Try.ntmps5
  go_wp2_with fail
  refine (alive_any _).mono ?_
  rintro e v1 ⟨rfl, hb⟩
  have hbw := bt hbw hb
  clear hb
  go_wp2
  go_ret
  exact ⟨rfl, hbw⟩

set_option maxHeartbeats 1000000 in
theorem cold1 (m t f : Int) (k : Bool) (h1 : (m == 0) = false) (h2 : (t == 0) = true) (w : World) : Calls Try.prog 5 #[.int .u32 m, .int .u32 t, .int .u32 f, .bool k] w fun e w' => e = .returned (.bool true) ∧ Below w.heap.size w w' := by
  have hbw := Below.refl w.heap.size w
  go_enter Try.func5, Try.ntmps5
  go_wp2_with fail
  refine (alive_any _).mono ?_
  rintro e v1 ⟨rfl, hb⟩
  have hbw := bt hbw hb
  clear hb
  go_wp2
  go_ret
  exact ⟨rfl, hbw⟩

set_option maxHeartbeats 1000000 in
theorem cold2 (m t f : Int) (k : Bool) (h1 : (m == 0) = false) (h2 : (t == 0) = false) (h3 : (f == 0) = true) (w : World) : Calls Try.prog 5 #[.int .u32 m, .int .u32 t, .int .u32 f, .bool k] w fun e w' => e = .returned (.bool true) ∧ Below w.heap.size w w' := by
  have hbw := Below.refl w.heap.size w
  go_enter Try.func5, Try.ntmps5
  go_wp2_with fail
  refine (alive_any _).mono ?_
  rintro e v1 ⟨rfl, hb⟩
  have hbw := bt hbw hb
  clear hb
  go_wp2
  go_ret
  exact ⟨rfl, hbw⟩

set_option maxHeartbeats 1000000 in
theorem cold3 (m t f : Int) (k : Bool) (h1 : (m == 0) = false) (h2 : (t == 0) = false) (h3 : (f == 0) = false) (h4 : (f == t) = true) (w : World) : Calls Try.prog 5 #[.int .u32 m, .int .u32 t, .int .u32 f, .bool k] w fun e w' => e = .returned (.bool true) ∧ Below w.heap.size w w' := by
  have hbw := Below.refl w.heap.size w
  go_enter Try.func5, Try.ntmps5
  go_wp2_with fail
  refine (alive_any _).mono ?_
  rintro e v1 ⟨rfl, hb⟩
  have hbw := bt hbw hb
  clear hb
  go_wp2
  go_ret
  exact ⟨rfl, hbw⟩

set_option maxHeartbeats 1000000 in
theorem cold4 (m t f : Int) (k : Bool) (h1 : (m == 0) = false) (h2 : (t == 0) = false) (h3 : (f == 0) = false) (h4 : (f == t) = false) (w : World) : Calls Try.prog 5 #[.int .u32 m, .int .u32 t, .int .u32 f, .bool k] w fun e w' => e = .returned (.bool true) ∧ Below w.heap.size w w' := by
  have hbw := Below.refl w.heap.size w
  have m0 : m ≠ 0 := by simpa using h1
  have t0 : t ≠ 0 := by simpa using h2
  have f0 : f ≠ 0 := by simpa using h3
  have ft : f ≠ t := by simpa using h4
  have tf : t ≠ f := fun e => ft e.symm
  have hc : checkM m t f 0 k = (3, 0) := by simp [checkM, oldB, m0, t0, f0, tf]
  have hd : checkM f 0 m t false = (4, 0) := by simp [checkM, oldB, m0, t0, f0, tf]
  clear m0 t0 f0 ft tf
  go_enter Try.func5, Try.ntmps5
  go_wp2_with fail
  refine (both_ok m t k f 0 false 3 4 hc hd _).mono ?_
  rintro e v1 ⟨rfl, hb⟩
  have hbw := bt hbw hb
  clear hb
  have kr := Blk.new v1 32 #[.int .i64 3, .int .i64 4]
  try simp only [World.size_alloc] at kr
  have hbw := bt hbw (ba v1 (.cells #[.int .i64 3, .int .i64 4] 32))
  have cr0 := kr.cell 0
  have cr1 := kr.cell 1
  simp only [List.getElem?_toArray, List.getElem?_cons_zero, List.getElem?_cons_succ] at cr0 cr1
  go_wp2_with fail
  refine (after_bad m t k f 0 false 3 4 hc hd (by decide) _).mono ?_
  rintro e v2 ⟨rfl, hb⟩
  have kr := kr.below hb kr.lt
  have zr := Lib.hid kr.lt
  have hbw := bt hbw hb
  clear hb
  clear cr0 cr1
  have cr0 := kr.cell 0
  have cr1 := kr.cell 1
  simp only [List.getElem?_toArray, List.getElem?_cons_zero, List.getElem?_cons_succ] at cr0 cr1
  have kk := (Blk.new v2 31 #[.int .u32 0, .int .u32 0, .bool false]).alloc (.cells #[.int .u32 0, .int .u32 0, .bool false] 31)
  have yp0 := kk.cell 0
  have fp0 := kk.frozen 0
  clear kk
  have kk := (Blk.new v2 31 #[.int .u32 m, .int .u32 0, .bool false]).alloc (.cells #[.int .u32 0, .int .u32 0, .bool false] 31)
  have yp1 := kk.cell 1
  have fp1 := kk.frozen 1
  clear kk
  have kk := (Blk.new v2 31 #[.int .u32 m, .int .u32 t, .bool false]).alloc (.cells #[.int .u32 0, .int .u32 0, .bool false] 31)
  have yp2 := kk.cell 2
  have fp2 := kk.frozen 2
  clear kk
  have kk := Blk.new (v2.alloc (.cells #[.int .u32 m, .int .u32 t, .bool k] 31)) 31 #[.int .u32 0, .int .u32 0, .bool false]
  simp only [World.size_alloc] at kk
  have yq0 := kk.cell 0
  have fq0 := kk.frozen 0
  clear kk
  have kk := Blk.new (v2.alloc (.cells #[.int .u32 m, .int .u32 t, .bool k] 31)) 31 #[.int .u32 f, .int .u32 0, .bool false]
  simp only [World.size_alloc] at kk
  have yq1 := kk.cell 1
  have fq1 := kk.frozen 1
  clear kk
  have kk := Blk.new (v2.alloc (.cells #[.int .u32 m, .int .u32 t, .bool k] 31)) 31 #[.int .u32 f, .int .u32 0, .bool false]
  simp only [World.size_alloc] at kk
  have yq2 := kk.cell 2
  have fq2 := kk.frozen 2
  clear kk
  simp only [List.getElem?_toArray, List.getElem?_cons_zero, List.getElem?_cons_succ] at yp0 yp1 yp2 yq0 yq1 yq2
  have kr := kr.alloc (.cells #[.int .u32 m, .int .u32 t, .bool k] 31)
  have kp := Blk.new v2 31 #[.int .u32 m, .int .u32 t, .bool k]
  try simp only [World.size_alloc] at kp
  have hbw := bt hbw (ba v2 (.cells #[.int .u32 m, .int .u32 t, .bool k] 31))
  have kr := kr.alloc (.cells #[.int .u32 f, .int .u32 0, .bool false] 31)
  have kp := kp.alloc (.cells #[.int .u32 f, .int .u32 0, .bool false] 31)
  have kq := Blk.new (v2.alloc (.cells #[.int .u32 m, .int .u32 t, .bool k] 31)) 31 #[.int .u32 f, .int .u32 0, .bool false]
  try simp only [World.size_alloc] at kq
  have hbw := bt hbw (ba (v2.alloc (.cells #[.int .u32 m, .int .u32 t, .bool k] 31)) (.cells #[.int .u32 f, .int .u32 0, .bool false] 31))
  clear cr0 cr1
  have cr0 := kr.cell 0
  have cr1 := kr.cell 1
  simp only [List.getElem?_toArray, List.getElem?_cons_zero, List.getElem?_cons_succ] at cr0 cr1
  have cp0 := kp.cell 0
  have cp1 := kp.cell 1
  have cp2 := kp.cell 2
  simp only [List.getElem?_toArray, List.getElem?_cons_zero, List.getElem?_cons_succ] at cp0 cp1 cp2
  have cq0 := kq.cell 0
  have cq1 := kq.cell 1
  have cq2 := kq.cell 2
  simp only [List.getElem?_toArray, List.getElem?_cons_zero, List.getElem?_cons_succ] at cq0 cq1 cq2
  go_wp2_with fail
  refine (alive_any _).mono ?_
  rintro e v3 ⟨rfl, hb⟩
  have kr := kr.below hb kr.lt
  have kp := kp.below hb kp.lt
  have kq := kq.below hb kq.lt
  have zr := Lib.hid kr.lt
  have zp := Lib.hid kp.lt
  have zq := Lib.hid kq.lt
  have hbw := bt hbw hb
  clear hb
  clear yp0 fp0 yp1 fp1 yp2 fp2 yq0 fq0 yq1 fq1 yq2 fq2 cr0 cr1 cp0 cp1 cp2 cq0 cq1 cq2
  have cr0 := kr.cell 0
  have cr1 := kr.cell 1
  simp only [List.getElem?_toArray, List.getElem?_cons_zero, List.getElem?_cons_succ] at cr0 cr1
  have cp0 := kp.cell 0
  have cp1 := kp.cell 1
  have cp2 := kp.cell 2
  simp only [List.getElem?_toArray, List.getElem?_cons_zero, List.getElem?_cons_succ] at cp0 cp1 cp2
  have cq0 := kq.cell 0
  have cq1 := kq.cell 1
  have cq2 := kq.cell 2
  simp only [List.getElem?_toArray, List.getElem?_cons_zero, List.getElem?_cons_succ] at cq0 cq1 cq2
  go_wp2
  go_ret
  exact ⟨rfl, hbw⟩

theorem namesCold_walk (m t f : Nat) (k : Bool) (w : World) (b1 : m < 4294967296) (b2 : t < 4294967296) (b3 : f < 4294967296) : Calls Try.prog 5 #[.int .u32 m, .int .u32 t, .int .u32 f, .bool k] w fun e w' => e = .returned (.bool true) ∧ Below w.heap.size w w' := by
  rcases h1 : ((m : Int) == 0) with _ | _
  · rcases h2 : ((t : Int) == 0) with _ | _
    · rcases h3 : ((f : Int) == 0) with _ | _
      · rcases h4 : ((f : Int) == (t : Int)) with _ | _
        · exact cold4 _ _ _ k h1 h2 h3 h4 w
        · exact cold3 _ _ _ k h1 h2 h3 h4 w
      · exact cold2 _ _ _ k h1 h2 h3 w
    · exact cold1 _ _ _ k h1 h2 w
  · exact cold0 _ _ _ k h1 w

set_option maxHeartbeats 1000000 in
theorem new0 (m t : Int) (k : Bool) (h1 : (m == 0) = true) (w : World) : Calls Try.prog 7 #[.int .u32 m, .int .u32 t, .bool k] w fun e w' => e = .returned (.bool true) ∧ Below w.heap.size w w' := by
  have hbw := Below.refl w.heap.size w
  go_enter Try.func7, Try.ntmps7
  go_wp2_with fail
  refine (alive_any _).mono ?_
  rintro e v1 ⟨rfl, hb⟩
  have hbw := bt hbw hb
  clear hb
  go_wp2
  go_ret
  exact ⟨rfl, hbw⟩

set_option maxHeartbeats 1000000 in
theorem new1 (m t : Int) (k : Bool) (h1 : (m == 0) = false) (h2 : (t == 0) = true) (w : World) : Calls Try.prog 7 #[.int .u32 m, .int .u32 t, .bool k] w fun e w' => e = .returned (.bool true) ∧ Below w.heap.size w w' := by
  have hbw := Below.refl w.heap.size w
  go_enter Try.func7, Try.ntmps7
  go_wp2_with fail
  refine (alive_any _).mono ?_
  rintro e v1 ⟨rfl, hb⟩
  have hbw := bt hbw hb
  clear hb
  go_wp2
  go_ret
  exact ⟨rfl, hbw⟩

set_option maxHeartbeats 1000000 in
theorem new2false (m t : Int) (h1 : (m == 0) = false) (h2 : (t == 0) = false) (w : World) : Calls Try.prog 7 #[.int .u32 m, .int .u32 t, .bool false] w fun e w' => e = .returned (.bool true) ∧ Below w.heap.size w w' := by
  have hbw := Below.refl w.heap.size w
  have m0 : m ≠ 0 := by simpa using h1
  have t0 : t ≠ 0 := by simpa using h2
  have hc : checkM m 0 t 0 false = (2, 0) := by simp [checkM, oldB, m0, t0]
  have hd : checkM t 0 m 0 false = (2, 0) := by simp [checkM, oldB, m0, t0]
  clear m0 t0
  go_enter Try.func7, Try.ntmps7
  go_wp2_with fail
  refine (both_ok m 0 false t 0 false 2 2 hc hd _).mono ?_
  rintro e v1 ⟨rfl, hb⟩
  have hbw := bt hbw hb
  clear hb
  have kr := Blk.new v1 32 #[.int .i64 2, .int .i64 2]
  try simp only [World.size_alloc] at kr
  have hbw := bt hbw (ba v1 (.cells #[.int .i64 2, .int .i64 2] 32))
  have cr0 := kr.cell 0
  have cr1 := kr.cell 1
  simp only [List.getElem?_toArray, List.getElem?_cons_zero, List.getElem?_cons_succ] at cr0 cr1
  go_wp2_with fail
  refine (alive_any _).mono ?_
  rintro e v2 ⟨rfl, hb⟩
  have kr := kr.below hb kr.lt
  have zr := Lib.hid kr.lt
  have hbw := bt hbw hb
  clear hb
  clear cr0 cr1
  have cr0 := kr.cell 0
  have cr1 := kr.cell 1
  simp only [List.getElem?_toArray, List.getElem?_cons_zero, List.getElem?_cons_succ] at cr0 cr1
  go_wp2
  go_ret
  exact ⟨rfl, hbw⟩

set_option maxHeartbeats 1000000 in
theorem new2true (m t : Int) (h1 : (m == 0) = false) (h2 : (t == 0) = false) (w : World) : Calls Try.prog 7 #[.int .u32 m, .int .u32 t, .bool true] w fun e w' => e = .returned (.bool true) ∧ Below w.heap.size w w' := by
  have hbw := Below.refl w.heap.size w
  have m0 : m ≠ 0 := by simpa using h1
  have t0 : t ≠ 0 := by simpa using h2
  have hc : checkM m 0 t 0 true = (5, 0) := by simp [checkM, oldB, m0, t0]
  have hd : checkM t 0 m 0 false = (2, 0) := by simp [checkM, oldB, m0, t0]
  clear m0 t0
  go_enter Try.func7, Try.ntmps7
  go_wp2_with fail
  refine (both_ok m 0 true t 0 false 5 2 hc hd _).mono ?_
  rintro e v1 ⟨rfl, hb⟩
  have hbw := bt hbw hb
  clear hb
  have kr := Blk.new v1 32 #[.int .i64 5, .int .i64 2]
  try simp only [World.size_alloc] at kr
  have hbw := bt hbw (ba v1 (.cells #[.int .i64 5, .int .i64 2] 32))
  have cr0 := kr.cell 0
  have cr1 := kr.cell 1
  simp only [List.getElem?_toArray, List.getElem?_cons_zero, List.getElem?_cons_succ] at cr0 cr1
  go_wp2_with fail
  refine (alive_any _).mono ?_
  rintro e v2 ⟨rfl, hb⟩
  have kr := kr.below hb kr.lt
  have zr := Lib.hid kr.lt
  have hbw := bt hbw hb
  clear hb
  clear cr0 cr1
  have cr0 := kr.cell 0
  have cr1 := kr.cell 1
  simp only [List.getElem?_toArray, List.getElem?_cons_zero, List.getElem?_cons_succ] at cr0 cr1
  go_wp2
  go_ret
  exact ⟨rfl, hbw⟩

theorem namesNew_walk (m t : Nat) (k : Bool) (w : World) (b1 : m < 4294967296) (b2 : t < 4294967296) : Calls Try.prog 7 #[.int .u32 m, .int .u32 t, .bool k] w fun e w' => e = .returned (.bool true) ∧ Below w.heap.size w w' := by
  rcases h1 : ((m : Int) == 0) with _ | _
  · rcases h2 : ((t : Int) == 0) with _ | _
    · cases k
      · exact new2false _ _ h1 h2 w
      · exact new2true _ _ h1 h2 w
    · exact new1 _ _ k h1 h2 w
  · exact new0 _ _ k h1 w
end Go.Proofs.Ytcihmjflfcbgmaa
