/- Layer 17: both sides, and what is known behind it. -/
import Derived.Test.YtepcafkgpkbimaaNt
import Derived.Test.YtepcafkgpkbimaaInvT
namespace Go.Proofs.Ytepcafkgpkbimaa
open Go.RowKit
set_option linter.unusedVariables false
set_option linter.unusedSimpArgs false

set_option maxHeartbeats 1000000 in
theorem finds_any (m s : Int) (k : Bool) (m2 s2 : Int) (k2 : Bool) (x e : Int) (h : checkM m s m2 s2 k = (x, e)) (w : World) : Calls Try.prog 24 #[.agg #[.int .u32 m, .int .u32 s, .bool k], .agg #[.int .u32 m2, .int .u32 s2, .bool k2]] w fun o w' => o = .returned (.tuple #[.int .i64 x, .int .i64 e]) ∧ Below w.heap.size w w' := by
  have hbw := Below.refl w.heap.size w
  have ka := Blk.new w 45 #[.int .u32 m, .int .u32 s, .bool k]
  try simp only [World.size_alloc] at ka
  have hbw := bt hbw (ba w (.cells #[.int .u32 m, .int .u32 s, .bool k] 45))
  have ka := ka.alloc (.cells #[.int .u32 m2, .int .u32 s2, .bool k2] 45)
  have kb := Blk.new (w.alloc (.cells #[.int .u32 m, .int .u32 s, .bool k] 45)) 45 #[.int .u32 m2, .int .u32 s2, .bool k2]
  try simp only [World.size_alloc] at kb
  have hbw := bt hbw (ba (w.alloc (.cells #[.int .u32 m, .int .u32 s, .bool k] 45)) (.cells #[.int .u32 m2, .int .u32 s2, .bool k2] 45))
  go_enter Try.func24, Try.ntmps24
  have ca0 := ka.cell 0
  have ca1 := ka.cell 1
  have ca2 := ka.cell 2
  simp only [List.getElem?_toArray, List.getElem?_cons_zero, List.getElem?_cons_succ] at ca0 ca1 ca2
  have cb0 := kb.cell 0
  have cb1 := kb.cell 1
  have cb2 := kb.cell 2
  simp only [List.getElem?_toArray, List.getElem?_cons_zero, List.getElem?_cons_succ] at cb0 cb1 cb2
  go_wp2_with fail
  refine (check_any m s m2 s2 k x e h _).mono ?_
  rintro e v1 ⟨rfl, rfl⟩
  go_wp2
  go_returns
  exact ⟨rfl, hbw⟩

set_option maxHeartbeats 1000000 in
theorem both_no (m s : Int) (k : Bool) (m2 s2 : Int) (k2 : Bool) (x : Int) (h : checkM m s m2 s2 k = (x, 1)) (w : World) : Calls Try.prog 18 #[.agg #[.int .u32 m, .int .u32 s, .bool k], .agg #[.int .u32 m2, .int .u32 s2, .bool k2]] w fun o w' => o = .returned (.tuple #[.agg #[.int .i64 0, .int .i64 0], .int .i64 1]) ∧ Below w.heap.size w w' := by
  have hbw := Below.refl w.heap.size w
  have ka := Blk.new w 45 #[.int .u32 m, .int .u32 s, .bool k]
  try simp only [World.size_alloc] at ka
  have hbw := bt hbw (ba w (.cells #[.int .u32 m, .int .u32 s, .bool k] 45))
  have ka := ka.alloc (.cells #[.int .u32 m2, .int .u32 s2, .bool k2] 45)
  have kb := Blk.new (w.alloc (.cells #[.int .u32 m, .int .u32 s, .bool k] 45)) 45 #[.int .u32 m2, .int .u32 s2, .bool k2]
  try simp only [World.size_alloc] at kb
  have hbw := bt hbw (ba (w.alloc (.cells #[.int .u32 m, .int .u32 s, .bool k] 45)) (.cells #[.int .u32 m2, .int .u32 s2, .bool k2] 45))
  have ka := ka.alloc (.cells #[.int .i64 0, .int .i64 0] 56)
  have kb := kb.alloc (.cells #[.int .i64 0, .int .i64 0] 56)
  have kr := Blk.new ((w.alloc (.cells #[.int .u32 m, .int .u32 s, .bool k] 45)).alloc (.cells #[.int .u32 m2, .int .u32 s2, .bool k2] 45)) 56 #[.int .i64 0, .int .i64 0]
  try simp only [World.size_alloc] at kr
  have hbw := bt hbw (ba ((w.alloc (.cells #[.int .u32 m, .int .u32 s, .bool k] 45)).alloc (.cells #[.int .u32 m2, .int .u32 s2, .bool k2] 45)) (.cells #[.int .i64 0, .int .i64 0] 56))
  go_enter Try.func18, Try.ntmps18
  have ca0 := ka.cell 0
  have ca1 := ka.cell 1
  have ca2 := ka.cell 2
  simp only [List.getElem?_toArray, List.getElem?_cons_zero, List.getElem?_cons_succ] at ca0 ca1 ca2
  have cb0 := kb.cell 0
  have cb1 := kb.cell 1
  have cb2 := kb.cell 2
  simp only [List.getElem?_toArray, List.getElem?_cons_zero, List.getElem?_cons_succ] at cb0 cb1 cb2
  go_wp2_with fail
  refine (finds_any m s k m2 s2 k2 x 1 h _).mono ?_
  rintro e v1 ⟨rfl, hb⟩
  have ka := ka.below hb ka.lt
  have kb := kb.below hb kb.lt
  have kr := kr.below hb kr.lt
  have za := Lib.hid ka.lt
  have zb := Lib.hid kb.lt
  have zr := Lib.hid kr.lt
  have hbw := bt hbw hb
  clear hb
  clear ca0 ca1 ca2 cb0 cb1 cb2
  have cr0 := kr.cell 0
  have cr1 := kr.cell 1
  simp only [List.getElem?_toArray, List.getElem?_cons_zero, List.getElem?_cons_succ] at cr0 cr1
  have fr0 := kr.frozen 0
  have fr1 := kr.frozen 1
  have str0 := kr.set_ 0 (.int .i64 0)
  have er0 := str0.cell 0
  have hsr0 := hbw.setCell (p := ⟨w.heap.size + 1 + 1, 0, none⟩) (by dsimp only; omega) (.int .i64 0)
  have str1 := str0.set_ 1 (.int .i64 0)
  have er1 := str1.cell 1
  have hsr1 := hsr0.setCell (p := ⟨w.heap.size + 1 + 1, 1, none⟩) (by dsimp only; omega) (.int .i64 0)
  simp at er0 er1
  go_wp2
  refine bodyPost_ret (by simp [results, Try.results18, go_sem, cr0, cr1, fr0, fr1, er0, er1]; try rfl) rfl ?_
  exact ⟨rfl, hsr1⟩

set_option maxHeartbeats 1000000 in
theorem both_ok (m s : Int) (k : Bool) (m2 s2 : Int) (k2 : Bool) (x y : Int) (h : checkM m s m2 s2 k = (x, 0)) (h2 : checkM m2 s2 m s k2 = (y, 0)) (w : World) : Calls Try.prog 18 #[.agg #[.int .u32 m, .int .u32 s, .bool k], .agg #[.int .u32 m2, .int .u32 s2, .bool k2]] w fun o w' => o = .returned (.tuple #[.agg #[.int .i64 x, .int .i64 y], .int .i64 0]) ∧ Below w.heap.size w w' := by
  have hbw := Below.refl w.heap.size w
  have ka := Blk.new w 45 #[.int .u32 m, .int .u32 s, .bool k]
  try simp only [World.size_alloc] at ka
  have hbw := bt hbw (ba w (.cells #[.int .u32 m, .int .u32 s, .bool k] 45))
  have ka := ka.alloc (.cells #[.int .u32 m2, .int .u32 s2, .bool k2] 45)
  have kb := Blk.new (w.alloc (.cells #[.int .u32 m, .int .u32 s, .bool k] 45)) 45 #[.int .u32 m2, .int .u32 s2, .bool k2]
  try simp only [World.size_alloc] at kb
  have hbw := bt hbw (ba (w.alloc (.cells #[.int .u32 m, .int .u32 s, .bool k] 45)) (.cells #[.int .u32 m2, .int .u32 s2, .bool k2] 45))
  have ka := ka.alloc (.cells #[.int .i64 0, .int .i64 0] 56)
  have kb := kb.alloc (.cells #[.int .i64 0, .int .i64 0] 56)
  have kr := Blk.new ((w.alloc (.cells #[.int .u32 m, .int .u32 s, .bool k] 45)).alloc (.cells #[.int .u32 m2, .int .u32 s2, .bool k2] 45)) 56 #[.int .i64 0, .int .i64 0]
  try simp only [World.size_alloc] at kr
  have hbw := bt hbw (ba ((w.alloc (.cells #[.int .u32 m, .int .u32 s, .bool k] 45)).alloc (.cells #[.int .u32 m2, .int .u32 s2, .bool k2] 45)) (.cells #[.int .i64 0, .int .i64 0] 56))
  go_enter Try.func18, Try.ntmps18
  have ca0 := ka.cell 0
  have ca1 := ka.cell 1
  have ca2 := ka.cell 2
  simp only [List.getElem?_toArray, List.getElem?_cons_zero, List.getElem?_cons_succ] at ca0 ca1 ca2
  have cb0 := kb.cell 0
  have cb1 := kb.cell 1
  have cb2 := kb.cell 2
  simp only [List.getElem?_toArray, List.getElem?_cons_zero, List.getElem?_cons_succ] at cb0 cb1 cb2
  go_wp2_with fail
  refine (finds_any m s k m2 s2 k2 x 0 h _).mono ?_
  rintro e v1 ⟨rfl, hb⟩
  have ka := ka.below hb ka.lt
  have kb := kb.below hb kb.lt
  have kr := kr.below hb kr.lt
  have za := Lib.hid ka.lt
  have zb := Lib.hid kb.lt
  have zr := Lib.hid kr.lt
  have hbw := bt hbw hb
  clear hb
  clear ca0 ca1 ca2 cb0 cb1 cb2
  have ca0 := ka.cell 0
  have ca1 := ka.cell 1
  have ca2 := ka.cell 2
  simp only [List.getElem?_toArray, List.getElem?_cons_zero, List.getElem?_cons_succ] at ca0 ca1 ca2
  have cb0 := kb.cell 0
  have cb1 := kb.cell 1
  have cb2 := kb.cell 2
  simp only [List.getElem?_toArray, List.getElem?_cons_zero, List.getElem?_cons_succ] at cb0 cb1 cb2
  go_wp2_with fail
  refine (finds_any m2 s2 k2 m s k y 0 h2 _).mono ?_
  rintro e v2 ⟨rfl, hb⟩
  have ka := ka.below hb ka.lt
  have kb := kb.below hb kb.lt
  have kr := kr.below hb kr.lt
  have za := Lib.hid ka.lt
  have zb := Lib.hid kb.lt
  have zr := Lib.hid kr.lt
  have hbw := bt hbw hb
  clear hb
  clear ca0 ca1 ca2 cb0 cb1 cb2
  have cr0 := kr.cell 0
  have cr1 := kr.cell 1
  simp only [List.getElem?_toArray, List.getElem?_cons_zero, List.getElem?_cons_succ] at cr0 cr1
  have fr0 := kr.frozen 0
  have fr1 := kr.frozen 1
  have str0 := kr.set_ 0 (.int .i64 x)
  have er0 := str0.cell 0
  have hsr0 := hbw.setCell (p := ⟨w.heap.size + 1 + 1, 0, none⟩) (by dsimp only; omega) (.int .i64 x)
  have str1 := str0.set_ 1 (.int .i64 y)
  have er1 := str1.cell 1
  have hsr1 := hsr0.setCell (p := ⟨w.heap.size + 1 + 1, 1, none⟩) (by dsimp only; omega) (.int .i64 y)
  simp at er0 er1
  go_wp2
  refine bodyPost_ret (by simp [results, Try.results18, go_sem, cr0, cr1, fr0, fr1, er0, er1]; try rfl) rfl ?_
  exact ⟨rfl, hsr1⟩

def VRet (p q : Nat) (a b : Array Value) (ok : Bool) (i : Nat) (v : Value) (w : World) : Prop :=
  match i with
  | 0 => v = .agg a
  | 1 => v = .agg b
  | 2 => Blk w p 45 a
  | 3 => Blk w q 45 b
  | 4 => v = .bool ok
  | _ => True

def ERet (p q k : Nat) (u u' : World) : Prop := (k ≠ 2 → ∀ cs, Blk u p 45 cs → Blk u' p 45 cs) ∧ (k ≠ 3 → ∀ cs, Blk u q 45 cs → Blk u' q 45 cs)
theorem ERet.rfl' (p q k : Nat) (u : World) : ERet p q k u u := ⟨fun _ _ h => h, fun _ _ h => h⟩
theorem VRet.mono {p q : Nat} {a b : Array Value} {ok : Bool} {k i : Nat} {v : Value} {u u' : World} (he : ERet p q k u u') (hik : i ≠ k) (h : VRet p q a b ok i v u) : VRet p q a b ok i v u' := by
  unfold VRet at h ⊢
  split at h
  · exact h
  · exact h
  · exact he.1 (fun e => hik e.symm) _ h
  · exact he.2 (fun e => hik e.symm) _ h
  · exact h
  · trivial

set_option maxHeartbeats 1000000 in
theorem after_no (m s : Int) (k : Bool) (m2 s2 : Int) (k2 : Bool) (x : Int) (h : checkM m s m2 s2 k = (x, 1)) (w : World) : Calls Try.prog 10 #[.agg #[.int .u32 m, .int .u32 s, .bool k], .agg #[.int .u32 m2, .int .u32 s2, .bool k2]] w fun o w' => o = .returned (.tuple #[.agg #[.int .u32 m, .int .u32 s, .bool k], .agg #[.int .u32 m2, .int .u32 s2, .bool k2], .bool false]) ∧ Below w.heap.size w w' := by
  have hbw := Below.refl w.heap.size w
  have ka := Blk.new w 45 #[.int .u32 m, .int .u32 s, .bool k]
  try simp only [World.size_alloc] at ka
  have hbw := bt hbw (ba w (.cells #[.int .u32 m, .int .u32 s, .bool k] 45))
  have ka := ka.alloc (.cells #[.int .u32 m2, .int .u32 s2, .bool k2] 45)
  have kb := Blk.new (w.alloc (.cells #[.int .u32 m, .int .u32 s, .bool k] 45)) 45 #[.int .u32 m2, .int .u32 s2, .bool k2]
  try simp only [World.size_alloc] at kb
  have hbw := bt hbw (ba (w.alloc (.cells #[.int .u32 m, .int .u32 s, .bool k] 45)) (.cells #[.int .u32 m2, .int .u32 s2, .bool k2] 45))
  have ka := ka.alloc (.cells #[.int .u32 0, .int .u32 0, .bool false] 45)
  have kb := kb.alloc (.cells #[.int .u32 0, .int .u32 0, .bool false] 45)
  have kp := Blk.new ((w.alloc (.cells #[.int .u32 m, .int .u32 s, .bool k] 45)).alloc (.cells #[.int .u32 m2, .int .u32 s2, .bool k2] 45)) 45 #[.int .u32 0, .int .u32 0, .bool false]
  try simp only [World.size_alloc] at kp
  have hbw := bt hbw (ba ((w.alloc (.cells #[.int .u32 m, .int .u32 s, .bool k] 45)).alloc (.cells #[.int .u32 m2, .int .u32 s2, .bool k2] 45)) (.cells #[.int .u32 0, .int .u32 0, .bool false] 45))
  have ka := ka.alloc (.cells #[.int .u32 0, .int .u32 0, .bool false] 45)
  have kb := kb.alloc (.cells #[.int .u32 0, .int .u32 0, .bool false] 45)
  have kp := kp.alloc (.cells #[.int .u32 0, .int .u32 0, .bool false] 45)
  have kq := Blk.new (((w.alloc (.cells #[.int .u32 m, .int .u32 s, .bool k] 45)).alloc (.cells #[.int .u32 m2, .int .u32 s2, .bool k2] 45)).alloc (.cells #[.int .u32 0, .int .u32 0, .bool false] 45)) 45 #[.int .u32 0, .int .u32 0, .bool false]
  try simp only [World.size_alloc] at kq
  have hbw := bt hbw (ba (((w.alloc (.cells #[.int .u32 m, .int .u32 s, .bool k] 45)).alloc (.cells #[.int .u32 m2, .int .u32 s2, .bool k2] 45)).alloc (.cells #[.int .u32 0, .int .u32 0, .bool false] 45)) (.cells #[.int .u32 0, .int .u32 0, .bool false] 45))
  go_enter Try.func10, Try.ntmps10
  have ca0 := ka.cell 0
  have ca1 := ka.cell 1
  have ca2 := ka.cell 2
  simp only [List.getElem?_toArray, List.getElem?_cons_zero, List.getElem?_cons_succ] at ca0 ca1 ca2
  have cb0 := kb.cell 0
  have cb1 := kb.cell 1
  have cb2 := kb.cell 2
  simp only [List.getElem?_toArray, List.getElem?_cons_zero, List.getElem?_cons_succ] at cb0 cb1 cb2
  go_wp2_with fail
  refine (both_no m s k m2 s2 k2 x h _).mono ?_
  rintro e v1 ⟨rfl, hb⟩
  have ka := ka.below hb ka.lt
  have kb := kb.below hb kb.lt
  have kp := kp.below hb kp.lt
  have kq := kq.below hb kq.lt
  have za := Lib.hid ka.lt
  have zb := Lib.hid kb.lt
  have zp := Lib.hid kp.lt
  have zq := Lib.hid kq.lt
  have hbw := bt hbw hb
  clear hb
  clear ca0 ca1 ca2 cb0 cb1 cb2
  have ka := ka.alloc (.cells #[.int .i64 0, .int .i64 0] 56)
  have kb := kb.alloc (.cells #[.int .i64 0, .int .i64 0] 56)
  have kp := kp.alloc (.cells #[.int .i64 0, .int .i64 0] 56)
  have kq := kq.alloc (.cells #[.int .i64 0, .int .i64 0] 56)
  have kr := Blk.new v1 56 #[.int .i64 0, .int .i64 0]
  try simp only [World.size_alloc] at kr
  have hbw := bt hbw (ba v1 (.cells #[.int .i64 0, .int .i64 0] 56))
  have ca0 := ka.cell 0
  have ca1 := ka.cell 1
  have ca2 := ka.cell 2
  simp only [List.getElem?_toArray, List.getElem?_cons_zero, List.getElem?_cons_succ] at ca0 ca1 ca2
  have cb0 := kb.cell 0
  have cb1 := kb.cell 1
  have cb2 := kb.cell 2
  simp only [List.getElem?_toArray, List.getElem?_cons_zero, List.getElem?_cons_succ] at cb0 cb1 cb2
  have cp0 := kp.cell 0
  have cp1 := kp.cell 1
  have cp2 := kp.cell 2
  simp only [List.getElem?_toArray, List.getElem?_cons_zero, List.getElem?_cons_succ] at cp0 cp1 cp2
  have cq0 := kq.cell 0
  have cq1 := kq.cell 1
  have cq2 := kq.cell 2
  simp only [List.getElem?_toArray, List.getElem?_cons_zero, List.getElem?_cons_succ] at cq0 cq1 cq2
  have cr0 := kr.cell 0
  have cr1 := kr.cell 1
  simp only [List.getElem?_toArray, List.getElem?_cons_zero, List.getElem?_cons_succ] at cr0 cr1
  go_wp2_with fail
  refine wp_region_invT (F := ?FA) (V := VRet (w.heap.size + 1 + 1) (w.heap.size + 1 + 1 + 1) #[.int .u32 m, .int .u32 s, .bool k] #[.int .u32 m2, .int .u32 s2, .bool k2] false) (dead := fun _ => none) (T := fun _ _ => True) (C := fun u => ((Blk u (w.heap.size) 45 #[.int .u32 m, .int .u32 s, .bool k] ∧ Blk u (w.heap.size + 1) 45 #[.int .u32 m2, .int .u32 s2, .bool k2]) ∧ ((∃ x0 x1 x2, Blk u (w.heap.size + 1 + 1) 45 #[x0, x1, x2]) ∧ (∃ x0 x1 x2, Blk u (w.heap.size + 1 + 1 + 1) 45 #[x0, x1, x2])) ∧ Below w.heap.size w u)) (E := ERet (w.heap.size + 1 + 1) (w.heap.size + 1 + 1 + 1)) (by kernel_rfl) (by kernel_rfl) (by kernel_rfl) (fun x => ?hFA) ?hmonoA ?hTmA ?hTA ?hCA ?stepA ?finA
  case hFA => simp only [mkA, Act.put, List.setIfInBounds_toArray, List.set_cons_succ, List.set_cons_zero, Nat.reduceAdd, Nat.zero_add]; first | with_reducible rfl | rfl
  case hmonoA => exact fun k i v u u' he hik hwt hdd hv => VRet.mono he hik hv
  case hTmA => exact fun _ _ _ _ _ _ _ _ => trivial
  case hTA => exact fun j => trivial
  case hCA => exact ⟨⟨ka, kb⟩, ⟨⟨_, _, _, kp⟩, ⟨_, _, _, kq⟩⟩, hbw.drew⟩
  case stepA =>
    refine AllOps.cons (fun x u hC hT hp K hK => ?_) ?_
    · clear hp hT
      have ca0 := (hC.1.1).cell 0
      have ca1 := (hC.1.1).cell 1
      have ca2 := (hC.1.1).cell 2
      simp only [List.getElem?_toArray, List.getElem?_cons_zero, List.getElem?_cons_succ] at ca0 ca1 ca2
      go_simp
      refine hK _ _ _ hC (ERet.rfl' _ _ _ _) (by exact rfl) ?_
      first | (simp only [Act.put, List.setIfInBounds_toArray, List.set_cons_succ, List.set_cons_zero]; done) | simp [Act.put]
    refine AllOps.cons (fun x u hC hT hp K hK => ?_) ?_
    · clear hp hT
      have ca0 := (hC.1.2).cell 0
      have ca1 := (hC.1.2).cell 1
      have ca2 := (hC.1.2).cell 2
      simp only [List.getElem?_toArray, List.getElem?_cons_zero, List.getElem?_cons_succ] at ca0 ca1 ca2
      go_simp
      refine hK _ _ _ hC (ERet.rfl' _ _ _ _) (by exact rfl) ?_
      first | (simp only [Act.put, List.setIfInBounds_toArray, List.set_cons_succ, List.set_cons_zero]; done) | simp [Act.put]
    refine AllOps.cons (fun x u hC hT hp K hK => ?_) ?_
    · simp [KnownTill, Region.binds, VRet] at hp
      clear hT
      obtain ⟨y0, y1, y2, kw⟩ := hC.2.1.1
      obtain ⟨z0, z1, z2, ko⟩ := hC.2.1.2
      have cw0 := (kw).cell 0
      have cw1 := (kw).cell 1
      have cw2 := (kw).cell 2
      simp only [List.getElem?_toArray, List.getElem?_cons_zero, List.getElem?_cons_succ] at cw0 cw1 cw2
      have fw0 := kw.frozen 0
      have fw1 := kw.frozen 1
      have fw2 := kw.frozen 2
      have sx0 := kw.set_ 0 (.int .u32 m)
      have ew0 := sx0.cell 0
      have sx1 := sx0.set_ 1 (.int .u32 s)
      have ew1 := sx1.cell 1
      have sx2 := sx1.set_ 2 (.bool k)
      have ew2 := sx2.cell 2
      simp at ew0 ew1 ew2
      have t2 := sx2
      simp at t2
      have na := (((hC.1.1.far (p := ⟨w.heap.size + 1 + 1, 0, none⟩) (by dsimp only; omega) (.int .u32 m)).far (p := ⟨w.heap.size + 1 + 1, 1, none⟩) (by dsimp only; omega) (.int .u32 s)).far (p := ⟨w.heap.size + 1 + 1, 2, none⟩) (by dsimp only; omega) (.bool k))
      have nb := (((hC.1.2.far (p := ⟨w.heap.size + 1 + 1, 0, none⟩) (by dsimp only; omega) (.int .u32 m)).far (p := ⟨w.heap.size + 1 + 1, 1, none⟩) (by dsimp only; omega) (.int .u32 s)).far (p := ⟨w.heap.size + 1 + 1, 2, none⟩) (by dsimp only; omega) (.bool k))
      have no := (((ko.far (p := ⟨w.heap.size + 1 + 1, 0, none⟩) (by dsimp only; omega) (.int .u32 m)).far (p := ⟨w.heap.size + 1 + 1, 1, none⟩) (by dsimp only; omega) (.int .u32 s)).far (p := ⟨w.heap.size + 1 + 1, 2, none⟩) (by dsimp only; omega) (.bool k))
      have nbel := (((hC.2.2.setCell (p := ⟨w.heap.size + 1 + 1, 0, none⟩) (by dsimp only; omega) (.int .u32 m)).setCell (p := ⟨w.heap.size + 1 + 1, 1, none⟩) (by dsimp only; omega) (.int .u32 s)).setCell (p := ⟨w.heap.size + 1 + 1, 2, none⟩) (by dsimp only; omega) (.bool k))
      have hfar : ∀ cs, Blk u (w.heap.size + 1 + 1 + 1) 45 cs → Blk _ (w.heap.size + 1 + 1 + 1) 45 cs := fun cs h => (((h.far (p := ⟨w.heap.size + 1 + 1, 0, none⟩) (by dsimp only; omega) (.int .u32 m)).far (p := ⟨w.heap.size + 1 + 1, 1, none⟩) (by dsimp only; omega) (.int .u32 s)).far (p := ⟨w.heap.size + 1 + 1, 2, none⟩) (by dsimp only; omega) (.bool k))
      clear sx0 sx1 sx2 hC
      go_simp
      refine hK undef _ _ ⟨⟨na, nb⟩, ⟨⟨_, _, _, t2⟩, ⟨_, _, _, no⟩⟩, nbel⟩ ⟨fun hk => absurd rfl hk, fun _ cs h => hfar cs h⟩ t2 ?_
      first | (simp only [Act.put, List.setIfInBounds_toArray, List.set_cons_succ, List.set_cons_zero, hp]; done) | simp [Act.put, hp]
    refine AllOps.cons (fun x u hC hT hp K hK => ?_) ?_
    · simp [KnownTill, Region.binds, VRet] at hp
      clear hT
      obtain ⟨y0, y1, y2, kw⟩ := hC.2.1.2
      obtain ⟨z0, z1, z2, ko⟩ := hC.2.1.1
      have cw0 := (kw).cell 0
      have cw1 := (kw).cell 1
      have cw2 := (kw).cell 2
      simp only [List.getElem?_toArray, List.getElem?_cons_zero, List.getElem?_cons_succ] at cw0 cw1 cw2
      have fw0 := kw.frozen 0
      have fw1 := kw.frozen 1
      have fw2 := kw.frozen 2
      have sx0 := kw.set_ 0 (.int .u32 m2)
      have ew0 := sx0.cell 0
      have sx1 := sx0.set_ 1 (.int .u32 s2)
      have ew1 := sx1.cell 1
      have sx2 := sx1.set_ 2 (.bool k2)
      have ew2 := sx2.cell 2
      simp at ew0 ew1 ew2
      have t2 := sx2
      simp at t2
      have na := (((hC.1.1.far (p := ⟨w.heap.size + 1 + 1 + 1, 0, none⟩) (by dsimp only; omega) (.int .u32 m2)).far (p := ⟨w.heap.size + 1 + 1 + 1, 1, none⟩) (by dsimp only; omega) (.int .u32 s2)).far (p := ⟨w.heap.size + 1 + 1 + 1, 2, none⟩) (by dsimp only; omega) (.bool k2))
      have nb := (((hC.1.2.far (p := ⟨w.heap.size + 1 + 1 + 1, 0, none⟩) (by dsimp only; omega) (.int .u32 m2)).far (p := ⟨w.heap.size + 1 + 1 + 1, 1, none⟩) (by dsimp only; omega) (.int .u32 s2)).far (p := ⟨w.heap.size + 1 + 1 + 1, 2, none⟩) (by dsimp only; omega) (.bool k2))
      have no := (((ko.far (p := ⟨w.heap.size + 1 + 1 + 1, 0, none⟩) (by dsimp only; omega) (.int .u32 m2)).far (p := ⟨w.heap.size + 1 + 1 + 1, 1, none⟩) (by dsimp only; omega) (.int .u32 s2)).far (p := ⟨w.heap.size + 1 + 1 + 1, 2, none⟩) (by dsimp only; omega) (.bool k2))
      have nbel := (((hC.2.2.setCell (p := ⟨w.heap.size + 1 + 1 + 1, 0, none⟩) (by dsimp only; omega) (.int .u32 m2)).setCell (p := ⟨w.heap.size + 1 + 1 + 1, 1, none⟩) (by dsimp only; omega) (.int .u32 s2)).setCell (p := ⟨w.heap.size + 1 + 1 + 1, 2, none⟩) (by dsimp only; omega) (.bool k2))
      have hfar : ∀ cs, Blk u (w.heap.size + 1 + 1) 45 cs → Blk _ (w.heap.size + 1 + 1) 45 cs := fun cs h => (((h.far (p := ⟨w.heap.size + 1 + 1 + 1, 0, none⟩) (by dsimp only; omega) (.int .u32 m2)).far (p := ⟨w.heap.size + 1 + 1 + 1, 1, none⟩) (by dsimp only; omega) (.int .u32 s2)).far (p := ⟨w.heap.size + 1 + 1 + 1, 2, none⟩) (by dsimp only; omega) (.bool k2))
      clear sx0 sx1 sx2 hC
      go_simp
      refine hK undef _ _ ⟨⟨na, nb⟩, ⟨⟨_, _, _, no⟩, ⟨_, _, _, t2⟩⟩, nbel⟩ ⟨fun _ cs h => hfar cs h, fun hk => absurd rfl hk⟩ t2 ?_
      first | (simp only [Act.put, List.setIfInBounds_toArray, List.set_cons_succ, List.set_cons_zero, hp]; done) | simp [Act.put, hp]
    refine AllOps.cons (fun x u hC hT hp K hK => ?_) ?_
    · clear hp hT
      go_simp
      refine hK _ _ _ hC (ERet.rfl' _ _ _ _) (by exact rfl) ?_
      first | (simp only [Act.put, List.setIfInBounds_toArray, List.set_cons_succ, List.set_cons_zero]; done) | simp [Act.put]
    exact AllOps.nil
  case finA =>
    intro x u hC hV
    have kp : Blk u (w.heap.size + 1 + 1) 45 #[.int .u32 m, .int .u32 s, .bool k] := hV 2 (by decide) rfl
    have kq : Blk u (w.heap.size + 1 + 1 + 1) 45 #[.int .u32 m2, .int .u32 s2, .bool k2] := hV 3 (by decide) rfl
    have hbw := hC.2.2
    have e4 : x 4 = .bool false := hV 4 (by decide) rfl
    rw [e4]
    clear e4 hV hC
    have cp0 := (kp).cell 0
    have cp1 := (kp).cell 1
    have cp2 := (kp).cell 2
    simp only [List.getElem?_toArray, List.getElem?_cons_zero, List.getElem?_cons_succ] at cp0 cp1 cp2
    have cq0 := (kq).cell 0
    have cq1 := (kq).cell 1
    have cq2 := (kq).cell 2
    simp only [List.getElem?_toArray, List.getElem?_cons_zero, List.getElem?_cons_succ] at cq0 cq1 cq2
    go_wp2
    refine bodyPost_ret (by simp [results, Try.results10, go_sem, cp0, cp1, cp2, cq0, cq1, cq2]; try rfl) rfl ?_
    exact ⟨rfl, hbw⟩

set_option maxHeartbeats 1000000 in
theorem after_bad1 (m s : Int) (k : Bool) (m2 s2 : Int) (k2 : Bool) (x y : Int) (h : checkM m s m2 s2 k = (x, 0)) (h2 : checkM m2 s2 m s k2 = (y, 0)) (hx : badB x = true) (w : World) : Calls Try.prog 10 #[.agg #[.int .u32 m, .int .u32 s, .bool k], .agg #[.int .u32 m2, .int .u32 s2, .bool k2]] w fun o w' => o = .returned (.tuple #[.agg #[.int .u32 m, .int .u32 s, .bool k], .agg #[.int .u32 m2, .int .u32 s2, .bool k2], .bool false]) ∧ Below w.heap.size w w' := by
  have hbw := Below.refl w.heap.size w
  have ka := Blk.new w 45 #[.int .u32 m, .int .u32 s, .bool k]
  try simp only [World.size_alloc] at ka
  have hbw := bt hbw (ba w (.cells #[.int .u32 m, .int .u32 s, .bool k] 45))
  have ka := ka.alloc (.cells #[.int .u32 m2, .int .u32 s2, .bool k2] 45)
  have kb := Blk.new (w.alloc (.cells #[.int .u32 m, .int .u32 s, .bool k] 45)) 45 #[.int .u32 m2, .int .u32 s2, .bool k2]
  try simp only [World.size_alloc] at kb
  have hbw := bt hbw (ba (w.alloc (.cells #[.int .u32 m, .int .u32 s, .bool k] 45)) (.cells #[.int .u32 m2, .int .u32 s2, .bool k2] 45))
  have ka := ka.alloc (.cells #[.int .u32 0, .int .u32 0, .bool false] 45)
  have kb := kb.alloc (.cells #[.int .u32 0, .int .u32 0, .bool false] 45)
  have kp := Blk.new ((w.alloc (.cells #[.int .u32 m, .int .u32 s, .bool k] 45)).alloc (.cells #[.int .u32 m2, .int .u32 s2, .bool k2] 45)) 45 #[.int .u32 0, .int .u32 0, .bool false]
  try simp only [World.size_alloc] at kp
  have hbw := bt hbw (ba ((w.alloc (.cells #[.int .u32 m, .int .u32 s, .bool k] 45)).alloc (.cells #[.int .u32 m2, .int .u32 s2, .bool k2] 45)) (.cells #[.int .u32 0, .int .u32 0, .bool false] 45))
  have ka := ka.alloc (.cells #[.int .u32 0, .int .u32 0, .bool false] 45)
  have kb := kb.alloc (.cells #[.int .u32 0, .int .u32 0, .bool false] 45)
  have kp := kp.alloc (.cells #[.int .u32 0, .int .u32 0, .bool false] 45)
  have kq := Blk.new (((w.alloc (.cells #[.int .u32 m, .int .u32 s, .bool k] 45)).alloc (.cells #[.int .u32 m2, .int .u32 s2, .bool k2] 45)).alloc (.cells #[.int .u32 0, .int .u32 0, .bool false] 45)) 45 #[.int .u32 0, .int .u32 0, .bool false]
  try simp only [World.size_alloc] at kq
  have hbw := bt hbw (ba (((w.alloc (.cells #[.int .u32 m, .int .u32 s, .bool k] 45)).alloc (.cells #[.int .u32 m2, .int .u32 s2, .bool k2] 45)).alloc (.cells #[.int .u32 0, .int .u32 0, .bool false] 45)) (.cells #[.int .u32 0, .int .u32 0, .bool false] 45))
  go_enter Try.func10, Try.ntmps10
  have ca0 := ka.cell 0
  have ca1 := ka.cell 1
  have ca2 := ka.cell 2
  simp only [List.getElem?_toArray, List.getElem?_cons_zero, List.getElem?_cons_succ] at ca0 ca1 ca2
  have cb0 := kb.cell 0
  have cb1 := kb.cell 1
  have cb2 := kb.cell 2
  simp only [List.getElem?_toArray, List.getElem?_cons_zero, List.getElem?_cons_succ] at cb0 cb1 cb2
  go_wp2_with fail
  refine (both_ok m s k m2 s2 k2 x y h h2 _).mono ?_
  rintro e v1 ⟨rfl, hb⟩
  have ka := ka.below hb ka.lt
  have kb := kb.below hb kb.lt
  have kp := kp.below hb kp.lt
  have kq := kq.below hb kq.lt
  have za := Lib.hid ka.lt
  have zb := Lib.hid kb.lt
  have zp := Lib.hid kp.lt
  have zq := Lib.hid kq.lt
  have hbw := bt hbw hb
  clear hb
  clear ca0 ca1 ca2 cb0 cb1 cb2
  have ka := ka.alloc (.cells #[.int .i64 x, .int .i64 y] 56)
  have kb := kb.alloc (.cells #[.int .i64 x, .int .i64 y] 56)
  have kp := kp.alloc (.cells #[.int .i64 x, .int .i64 y] 56)
  have kq := kq.alloc (.cells #[.int .i64 x, .int .i64 y] 56)
  have kr := Blk.new v1 56 #[.int .i64 x, .int .i64 y]
  try simp only [World.size_alloc] at kr
  have hbw := bt hbw (ba v1 (.cells #[.int .i64 x, .int .i64 y] 56))
  have ca0 := ka.cell 0
  have ca1 := ka.cell 1
  have ca2 := ka.cell 2
  simp only [List.getElem?_toArray, List.getElem?_cons_zero, List.getElem?_cons_succ] at ca0 ca1 ca2
  have cb0 := kb.cell 0
  have cb1 := kb.cell 1
  have cb2 := kb.cell 2
  simp only [List.getElem?_toArray, List.getElem?_cons_zero, List.getElem?_cons_succ] at cb0 cb1 cb2
  have cp0 := kp.cell 0
  have cp1 := kp.cell 1
  have cp2 := kp.cell 2
  simp only [List.getElem?_toArray, List.getElem?_cons_zero, List.getElem?_cons_succ] at cp0 cp1 cp2
  have cq0 := kq.cell 0
  have cq1 := kq.cell 1
  have cq2 := kq.cell 2
  simp only [List.getElem?_toArray, List.getElem?_cons_zero, List.getElem?_cons_succ] at cq0 cq1 cq2
  have cr0 := kr.cell 0
  have cr1 := kr.cell 1
  simp only [List.getElem?_toArray, List.getElem?_cons_zero, List.getElem?_cons_succ] at cr0 cr1
  go_wp2_with fail
  refine (bad_any x _ hx _).mono ?_
  rintro e v2 ⟨rfl, rfl⟩
  go_wp2_with fail
  refine wp_region_invT (F := ?FA) (V := VRet (w.heap.size + 1 + 1) (w.heap.size + 1 + 1 + 1) #[.int .u32 m, .int .u32 s, .bool k] #[.int .u32 m2, .int .u32 s2, .bool k2] false) (dead := fun _ => none) (T := fun _ _ => True) (C := fun u => ((Blk u (w.heap.size) 45 #[.int .u32 m, .int .u32 s, .bool k] ∧ Blk u (w.heap.size + 1) 45 #[.int .u32 m2, .int .u32 s2, .bool k2]) ∧ ((∃ x0 x1 x2, Blk u (w.heap.size + 1 + 1) 45 #[x0, x1, x2]) ∧ (∃ x0 x1 x2, Blk u (w.heap.size + 1 + 1 + 1) 45 #[x0, x1, x2])) ∧ Below w.heap.size w u)) (E := ERet (w.heap.size + 1 + 1) (w.heap.size + 1 + 1 + 1)) (by kernel_rfl) (by kernel_rfl) (by kernel_rfl) (fun x => ?hFA) ?hmonoA ?hTmA ?hTA ?hCA ?stepA ?finA
  case hFA => simp only [mkA, Act.put, List.setIfInBounds_toArray, List.set_cons_succ, List.set_cons_zero, Nat.reduceAdd, Nat.zero_add]; first | with_reducible rfl | rfl
  case hmonoA => exact fun k i v u u' he hik hwt hdd hv => VRet.mono he hik hv
  case hTmA => exact fun _ _ _ _ _ _ _ _ => trivial
  case hTA => exact fun j => trivial
  case hCA => exact ⟨⟨ka, kb⟩, ⟨⟨_, _, _, kp⟩, ⟨_, _, _, kq⟩⟩, hbw.drew⟩
  case stepA =>
    refine AllOps.cons (fun x u hC hT hp K hK => ?_) ?_
    · clear hp hT
      have ca0 := (hC.1.1).cell 0
      have ca1 := (hC.1.1).cell 1
      have ca2 := (hC.1.1).cell 2
      simp only [List.getElem?_toArray, List.getElem?_cons_zero, List.getElem?_cons_succ] at ca0 ca1 ca2
      go_simp
      refine hK _ _ _ hC (ERet.rfl' _ _ _ _) (by exact rfl) ?_
      first | (simp only [Act.put, List.setIfInBounds_toArray, List.set_cons_succ, List.set_cons_zero]; done) | simp [Act.put]
    refine AllOps.cons (fun x u hC hT hp K hK => ?_) ?_
    · clear hp hT
      have ca0 := (hC.1.2).cell 0
      have ca1 := (hC.1.2).cell 1
      have ca2 := (hC.1.2).cell 2
      simp only [List.getElem?_toArray, List.getElem?_cons_zero, List.getElem?_cons_succ] at ca0 ca1 ca2
      go_simp
      refine hK _ _ _ hC (ERet.rfl' _ _ _ _) (by exact rfl) ?_
      first | (simp only [Act.put, List.setIfInBounds_toArray, List.set_cons_succ, List.set_cons_zero]; done) | simp [Act.put]
    refine AllOps.cons (fun x u hC hT hp K hK => ?_) ?_
    · simp [KnownTill, Region.binds, VRet] at hp
      clear hT
      obtain ⟨y0, y1, y2, kw⟩ := hC.2.1.1
      obtain ⟨z0, z1, z2, ko⟩ := hC.2.1.2
      have cw0 := (kw).cell 0
      have cw1 := (kw).cell 1
      have cw2 := (kw).cell 2
      simp only [List.getElem?_toArray, List.getElem?_cons_zero, List.getElem?_cons_succ] at cw0 cw1 cw2
      have fw0 := kw.frozen 0
      have fw1 := kw.frozen 1
      have fw2 := kw.frozen 2
      have sx0 := kw.set_ 0 (.int .u32 m)
      have ew0 := sx0.cell 0
      have sx1 := sx0.set_ 1 (.int .u32 s)
      have ew1 := sx1.cell 1
      have sx2 := sx1.set_ 2 (.bool k)
      have ew2 := sx2.cell 2
      simp at ew0 ew1 ew2
      have t2 := sx2
      simp at t2
      have na := (((hC.1.1.far (p := ⟨w.heap.size + 1 + 1, 0, none⟩) (by dsimp only; omega) (.int .u32 m)).far (p := ⟨w.heap.size + 1 + 1, 1, none⟩) (by dsimp only; omega) (.int .u32 s)).far (p := ⟨w.heap.size + 1 + 1, 2, none⟩) (by dsimp only; omega) (.bool k))
      have nb := (((hC.1.2.far (p := ⟨w.heap.size + 1 + 1, 0, none⟩) (by dsimp only; omega) (.int .u32 m)).far (p := ⟨w.heap.size + 1 + 1, 1, none⟩) (by dsimp only; omega) (.int .u32 s)).far (p := ⟨w.heap.size + 1 + 1, 2, none⟩) (by dsimp only; omega) (.bool k))
      have no := (((ko.far (p := ⟨w.heap.size + 1 + 1, 0, none⟩) (by dsimp only; omega) (.int .u32 m)).far (p := ⟨w.heap.size + 1 + 1, 1, none⟩) (by dsimp only; omega) (.int .u32 s)).far (p := ⟨w.heap.size + 1 + 1, 2, none⟩) (by dsimp only; omega) (.bool k))
      have nbel := (((hC.2.2.setCell (p := ⟨w.heap.size + 1 + 1, 0, none⟩) (by dsimp only; omega) (.int .u32 m)).setCell (p := ⟨w.heap.size + 1 + 1, 1, none⟩) (by dsimp only; omega) (.int .u32 s)).setCell (p := ⟨w.heap.size + 1 + 1, 2, none⟩) (by dsimp only; omega) (.bool k))
      have hfar : ∀ cs, Blk u (w.heap.size + 1 + 1 + 1) 45 cs → Blk _ (w.heap.size + 1 + 1 + 1) 45 cs := fun cs h => (((h.far (p := ⟨w.heap.size + 1 + 1, 0, none⟩) (by dsimp only; omega) (.int .u32 m)).far (p := ⟨w.heap.size + 1 + 1, 1, none⟩) (by dsimp only; omega) (.int .u32 s)).far (p := ⟨w.heap.size + 1 + 1, 2, none⟩) (by dsimp only; omega) (.bool k))
      clear sx0 sx1 sx2 hC
      go_simp
      refine hK undef _ _ ⟨⟨na, nb⟩, ⟨⟨_, _, _, t2⟩, ⟨_, _, _, no⟩⟩, nbel⟩ ⟨fun hk => absurd rfl hk, fun _ cs h => hfar cs h⟩ t2 ?_
      first | (simp only [Act.put, List.setIfInBounds_toArray, List.set_cons_succ, List.set_cons_zero, hp]; done) | simp [Act.put, hp]
    refine AllOps.cons (fun x u hC hT hp K hK => ?_) ?_
    · simp [KnownTill, Region.binds, VRet] at hp
      clear hT
      obtain ⟨y0, y1, y2, kw⟩ := hC.2.1.2
      obtain ⟨z0, z1, z2, ko⟩ := hC.2.1.1
      have cw0 := (kw).cell 0
      have cw1 := (kw).cell 1
      have cw2 := (kw).cell 2
      simp only [List.getElem?_toArray, List.getElem?_cons_zero, List.getElem?_cons_succ] at cw0 cw1 cw2
      have fw0 := kw.frozen 0
      have fw1 := kw.frozen 1
      have fw2 := kw.frozen 2
      have sx0 := kw.set_ 0 (.int .u32 m2)
      have ew0 := sx0.cell 0
      have sx1 := sx0.set_ 1 (.int .u32 s2)
      have ew1 := sx1.cell 1
      have sx2 := sx1.set_ 2 (.bool k2)
      have ew2 := sx2.cell 2
      simp at ew0 ew1 ew2
      have t2 := sx2
      simp at t2
      have na := (((hC.1.1.far (p := ⟨w.heap.size + 1 + 1 + 1, 0, none⟩) (by dsimp only; omega) (.int .u32 m2)).far (p := ⟨w.heap.size + 1 + 1 + 1, 1, none⟩) (by dsimp only; omega) (.int .u32 s2)).far (p := ⟨w.heap.size + 1 + 1 + 1, 2, none⟩) (by dsimp only; omega) (.bool k2))
      have nb := (((hC.1.2.far (p := ⟨w.heap.size + 1 + 1 + 1, 0, none⟩) (by dsimp only; omega) (.int .u32 m2)).far (p := ⟨w.heap.size + 1 + 1 + 1, 1, none⟩) (by dsimp only; omega) (.int .u32 s2)).far (p := ⟨w.heap.size + 1 + 1 + 1, 2, none⟩) (by dsimp only; omega) (.bool k2))
      have no := (((ko.far (p := ⟨w.heap.size + 1 + 1 + 1, 0, none⟩) (by dsimp only; omega) (.int .u32 m2)).far (p := ⟨w.heap.size + 1 + 1 + 1, 1, none⟩) (by dsimp only; omega) (.int .u32 s2)).far (p := ⟨w.heap.size + 1 + 1 + 1, 2, none⟩) (by dsimp only; omega) (.bool k2))
      have nbel := (((hC.2.2.setCell (p := ⟨w.heap.size + 1 + 1 + 1, 0, none⟩) (by dsimp only; omega) (.int .u32 m2)).setCell (p := ⟨w.heap.size + 1 + 1 + 1, 1, none⟩) (by dsimp only; omega) (.int .u32 s2)).setCell (p := ⟨w.heap.size + 1 + 1 + 1, 2, none⟩) (by dsimp only; omega) (.bool k2))
      have hfar : ∀ cs, Blk u (w.heap.size + 1 + 1) 45 cs → Blk _ (w.heap.size + 1 + 1) 45 cs := fun cs h => (((h.far (p := ⟨w.heap.size + 1 + 1 + 1, 0, none⟩) (by dsimp only; omega) (.int .u32 m2)).far (p := ⟨w.heap.size + 1 + 1 + 1, 1, none⟩) (by dsimp only; omega) (.int .u32 s2)).far (p := ⟨w.heap.size + 1 + 1 + 1, 2, none⟩) (by dsimp only; omega) (.bool k2))
      clear sx0 sx1 sx2 hC
      go_simp
      refine hK undef _ _ ⟨⟨na, nb⟩, ⟨⟨_, _, _, no⟩, ⟨_, _, _, t2⟩⟩, nbel⟩ ⟨fun _ cs h => hfar cs h, fun hk => absurd rfl hk⟩ t2 ?_
      first | (simp only [Act.put, List.setIfInBounds_toArray, List.set_cons_succ, List.set_cons_zero, hp]; done) | simp [Act.put, hp]
    refine AllOps.cons (fun x u hC hT hp K hK => ?_) ?_
    · clear hp hT
      go_simp
      refine hK _ _ _ hC (ERet.rfl' _ _ _ _) (by exact rfl) ?_
      first | (simp only [Act.put, List.setIfInBounds_toArray, List.set_cons_succ, List.set_cons_zero]; done) | simp [Act.put]
    exact AllOps.nil
  case finA =>
    intro x u hC hV
    have kp : Blk u (w.heap.size + 1 + 1) 45 #[.int .u32 m, .int .u32 s, .bool k] := hV 2 (by decide) rfl
    have kq : Blk u (w.heap.size + 1 + 1 + 1) 45 #[.int .u32 m2, .int .u32 s2, .bool k2] := hV 3 (by decide) rfl
    have hbw := hC.2.2
    have e4 : x 4 = .bool false := hV 4 (by decide) rfl
    rw [e4]
    clear e4 hV hC
    have cp0 := (kp).cell 0
    have cp1 := (kp).cell 1
    have cp2 := (kp).cell 2
    simp only [List.getElem?_toArray, List.getElem?_cons_zero, List.getElem?_cons_succ] at cp0 cp1 cp2
    have cq0 := (kq).cell 0
    have cq1 := (kq).cell 1
    have cq2 := (kq).cell 2
    simp only [List.getElem?_toArray, List.getElem?_cons_zero, List.getElem?_cons_succ] at cq0 cq1 cq2
    go_wp2
    refine bodyPost_ret (by simp [results, Try.results10, go_sem, cp0, cp1, cp2, cq0, cq1, cq2]; try rfl) rfl ?_
    exact ⟨rfl, hbw⟩

set_option maxHeartbeats 1000000 in
theorem after_bad2 (m s : Int) (k : Bool) (m2 s2 : Int) (k2 : Bool) (x y : Int) (h : checkM m s m2 s2 k = (x, 0)) (h2 : checkM m2 s2 m s k2 = (y, 0)) (hx : badB x = false) (hy : badB y = true) (w : World) : Calls Try.prog 10 #[.agg #[.int .u32 m, .int .u32 s, .bool k], .agg #[.int .u32 m2, .int .u32 s2, .bool k2]] w fun o w' => o = .returned (.tuple #[.agg #[.int .u32 m, .int .u32 s, .bool k], .agg #[.int .u32 m2, .int .u32 s2, .bool k2], .bool false]) ∧ Below w.heap.size w w' := by
  have hbw := Below.refl w.heap.size w
  have ka := Blk.new w 45 #[.int .u32 m, .int .u32 s, .bool k]
  try simp only [World.size_alloc] at ka
  have hbw := bt hbw (ba w (.cells #[.int .u32 m, .int .u32 s, .bool k] 45))
  have ka := ka.alloc (.cells #[.int .u32 m2, .int .u32 s2, .bool k2] 45)
  have kb := Blk.new (w.alloc (.cells #[.int .u32 m, .int .u32 s, .bool k] 45)) 45 #[.int .u32 m2, .int .u32 s2, .bool k2]
  try simp only [World.size_alloc] at kb
  have hbw := bt hbw (ba (w.alloc (.cells #[.int .u32 m, .int .u32 s, .bool k] 45)) (.cells #[.int .u32 m2, .int .u32 s2, .bool k2] 45))
  have ka := ka.alloc (.cells #[.int .u32 0, .int .u32 0, .bool false] 45)
  have kb := kb.alloc (.cells #[.int .u32 0, .int .u32 0, .bool false] 45)
  have kp := Blk.new ((w.alloc (.cells #[.int .u32 m, .int .u32 s, .bool k] 45)).alloc (.cells #[.int .u32 m2, .int .u32 s2, .bool k2] 45)) 45 #[.int .u32 0, .int .u32 0, .bool false]
  try simp only [World.size_alloc] at kp
  have hbw := bt hbw (ba ((w.alloc (.cells #[.int .u32 m, .int .u32 s, .bool k] 45)).alloc (.cells #[.int .u32 m2, .int .u32 s2, .bool k2] 45)) (.cells #[.int .u32 0, .int .u32 0, .bool false] 45))
  have ka := ka.alloc (.cells #[.int .u32 0, .int .u32 0, .bool false] 45)
  have kb := kb.alloc (.cells #[.int .u32 0, .int .u32 0, .bool false] 45)
  have kp := kp.alloc (.cells #[.int .u32 0, .int .u32 0, .bool false] 45)
  have kq := Blk.new (((w.alloc (.cells #[.int .u32 m, .int .u32 s, .bool k] 45)).alloc (.cells #[.int .u32 m2, .int .u32 s2, .bool k2] 45)).alloc (.cells #[.int .u32 0, .int .u32 0, .bool false] 45)) 45 #[.int .u32 0, .int .u32 0, .bool false]
  try simp only [World.size_alloc] at kq
  have hbw := bt hbw (ba (((w.alloc (.cells #[.int .u32 m, .int .u32 s, .bool k] 45)).alloc (.cells #[.int .u32 m2, .int .u32 s2, .bool k2] 45)).alloc (.cells #[.int .u32 0, .int .u32 0, .bool false] 45)) (.cells #[.int .u32 0, .int .u32 0, .bool false] 45))
  go_enter Try.func10, Try.ntmps10
  have ca0 := ka.cell 0
  have ca1 := ka.cell 1
  have ca2 := ka.cell 2
  simp only [List.getElem?_toArray, List.getElem?_cons_zero, List.getElem?_cons_succ] at ca0 ca1 ca2
  have cb0 := kb.cell 0
  have cb1 := kb.cell 1
  have cb2 := kb.cell 2
  simp only [List.getElem?_toArray, List.getElem?_cons_zero, List.getElem?_cons_succ] at cb0 cb1 cb2
  go_wp2_with fail
  refine (both_ok m s k m2 s2 k2 x y h h2 _).mono ?_
  rintro e v1 ⟨rfl, hb⟩
  have ka := ka.below hb ka.lt
  have kb := kb.below hb kb.lt
  have kp := kp.below hb kp.lt
  have kq := kq.below hb kq.lt
  have za := Lib.hid ka.lt
  have zb := Lib.hid kb.lt
  have zp := Lib.hid kp.lt
  have zq := Lib.hid kq.lt
  have hbw := bt hbw hb
  clear hb
  clear ca0 ca1 ca2 cb0 cb1 cb2
  have ka := ka.alloc (.cells #[.int .i64 x, .int .i64 y] 56)
  have kb := kb.alloc (.cells #[.int .i64 x, .int .i64 y] 56)
  have kp := kp.alloc (.cells #[.int .i64 x, .int .i64 y] 56)
  have kq := kq.alloc (.cells #[.int .i64 x, .int .i64 y] 56)
  have kr := Blk.new v1 56 #[.int .i64 x, .int .i64 y]
  try simp only [World.size_alloc] at kr
  have hbw := bt hbw (ba v1 (.cells #[.int .i64 x, .int .i64 y] 56))
  have ca0 := ka.cell 0
  have ca1 := ka.cell 1
  have ca2 := ka.cell 2
  simp only [List.getElem?_toArray, List.getElem?_cons_zero, List.getElem?_cons_succ] at ca0 ca1 ca2
  have cb0 := kb.cell 0
  have cb1 := kb.cell 1
  have cb2 := kb.cell 2
  simp only [List.getElem?_toArray, List.getElem?_cons_zero, List.getElem?_cons_succ] at cb0 cb1 cb2
  have cp0 := kp.cell 0
  have cp1 := kp.cell 1
  have cp2 := kp.cell 2
  simp only [List.getElem?_toArray, List.getElem?_cons_zero, List.getElem?_cons_succ] at cp0 cp1 cp2
  have cq0 := kq.cell 0
  have cq1 := kq.cell 1
  have cq2 := kq.cell 2
  simp only [List.getElem?_toArray, List.getElem?_cons_zero, List.getElem?_cons_succ] at cq0 cq1 cq2
  have cr0 := kr.cell 0
  have cr1 := kr.cell 1
  simp only [List.getElem?_toArray, List.getElem?_cons_zero, List.getElem?_cons_succ] at cr0 cr1
  go_wp2_with fail
  refine (bad_any x _ hx _).mono ?_
  rintro e v2 ⟨rfl, rfl⟩
  go_wp2_with fail
  refine (bad_any y _ hy _).mono ?_
  rintro e v2 ⟨rfl, rfl⟩
  go_wp2_with fail
  refine wp_region_invT (F := ?FA) (V := VRet (w.heap.size + 1 + 1) (w.heap.size + 1 + 1 + 1) #[.int .u32 m, .int .u32 s, .bool k] #[.int .u32 m2, .int .u32 s2, .bool k2] false) (dead := fun _ => none) (T := fun _ _ => True) (C := fun u => ((Blk u (w.heap.size) 45 #[.int .u32 m, .int .u32 s, .bool k] ∧ Blk u (w.heap.size + 1) 45 #[.int .u32 m2, .int .u32 s2, .bool k2]) ∧ ((∃ x0 x1 x2, Blk u (w.heap.size + 1 + 1) 45 #[x0, x1, x2]) ∧ (∃ x0 x1 x2, Blk u (w.heap.size + 1 + 1 + 1) 45 #[x0, x1, x2])) ∧ Below w.heap.size w u)) (E := ERet (w.heap.size + 1 + 1) (w.heap.size + 1 + 1 + 1)) (by kernel_rfl) (by kernel_rfl) (by kernel_rfl) (fun x => ?hFA) ?hmonoA ?hTmA ?hTA ?hCA ?stepA ?finA
  case hFA => simp only [mkA, Act.put, List.setIfInBounds_toArray, List.set_cons_succ, List.set_cons_zero, Nat.reduceAdd, Nat.zero_add]; first | with_reducible rfl | rfl
  case hmonoA => exact fun k i v u u' he hik hwt hdd hv => VRet.mono he hik hv
  case hTmA => exact fun _ _ _ _ _ _ _ _ => trivial
  case hTA => exact fun j => trivial
  case hCA => exact ⟨⟨ka, kb⟩, ⟨⟨_, _, _, kp⟩, ⟨_, _, _, kq⟩⟩, hbw.drew⟩
  case stepA =>
    refine AllOps.cons (fun x u hC hT hp K hK => ?_) ?_
    · clear hp hT
      have ca0 := (hC.1.1).cell 0
      have ca1 := (hC.1.1).cell 1
      have ca2 := (hC.1.1).cell 2
      simp only [List.getElem?_toArray, List.getElem?_cons_zero, List.getElem?_cons_succ] at ca0 ca1 ca2
      go_simp
      refine hK _ _ _ hC (ERet.rfl' _ _ _ _) (by exact rfl) ?_
      first | (simp only [Act.put, List.setIfInBounds_toArray, List.set_cons_succ, List.set_cons_zero]; done) | simp [Act.put]
    refine AllOps.cons (fun x u hC hT hp K hK => ?_) ?_
    · clear hp hT
      have ca0 := (hC.1.2).cell 0
      have ca1 := (hC.1.2).cell 1
      have ca2 := (hC.1.2).cell 2
      simp only [List.getElem?_toArray, List.getElem?_cons_zero, List.getElem?_cons_succ] at ca0 ca1 ca2
      go_simp
      refine hK _ _ _ hC (ERet.rfl' _ _ _ _) (by exact rfl) ?_
      first | (simp only [Act.put, List.setIfInBounds_toArray, List.set_cons_succ, List.set_cons_zero]; done) | simp [Act.put]
    refine AllOps.cons (fun x u hC hT hp K hK => ?_) ?_
    · simp [KnownTill, Region.binds, VRet] at hp
      clear hT
      obtain ⟨y0, y1, y2, kw⟩ := hC.2.1.1
      obtain ⟨z0, z1, z2, ko⟩ := hC.2.1.2
      have cw0 := (kw).cell 0
      have cw1 := (kw).cell 1
      have cw2 := (kw).cell 2
      simp only [List.getElem?_toArray, List.getElem?_cons_zero, List.getElem?_cons_succ] at cw0 cw1 cw2
      have fw0 := kw.frozen 0
      have fw1 := kw.frozen 1
      have fw2 := kw.frozen 2
      have sx0 := kw.set_ 0 (.int .u32 m)
      have ew0 := sx0.cell 0
      have sx1 := sx0.set_ 1 (.int .u32 s)
      have ew1 := sx1.cell 1
      have sx2 := sx1.set_ 2 (.bool k)
      have ew2 := sx2.cell 2
      simp at ew0 ew1 ew2
      have t2 := sx2
      simp at t2
      have na := (((hC.1.1.far (p := ⟨w.heap.size + 1 + 1, 0, none⟩) (by dsimp only; omega) (.int .u32 m)).far (p := ⟨w.heap.size + 1 + 1, 1, none⟩) (by dsimp only; omega) (.int .u32 s)).far (p := ⟨w.heap.size + 1 + 1, 2, none⟩) (by dsimp only; omega) (.bool k))
      have nb := (((hC.1.2.far (p := ⟨w.heap.size + 1 + 1, 0, none⟩) (by dsimp only; omega) (.int .u32 m)).far (p := ⟨w.heap.size + 1 + 1, 1, none⟩) (by dsimp only; omega) (.int .u32 s)).far (p := ⟨w.heap.size + 1 + 1, 2, none⟩) (by dsimp only; omega) (.bool k))
      have no := (((ko.far (p := ⟨w.heap.size + 1 + 1, 0, none⟩) (by dsimp only; omega) (.int .u32 m)).far (p := ⟨w.heap.size + 1 + 1, 1, none⟩) (by dsimp only; omega) (.int .u32 s)).far (p := ⟨w.heap.size + 1 + 1, 2, none⟩) (by dsimp only; omega) (.bool k))
      have nbel := (((hC.2.2.setCell (p := ⟨w.heap.size + 1 + 1, 0, none⟩) (by dsimp only; omega) (.int .u32 m)).setCell (p := ⟨w.heap.size + 1 + 1, 1, none⟩) (by dsimp only; omega) (.int .u32 s)).setCell (p := ⟨w.heap.size + 1 + 1, 2, none⟩) (by dsimp only; omega) (.bool k))
      have hfar : ∀ cs, Blk u (w.heap.size + 1 + 1 + 1) 45 cs → Blk _ (w.heap.size + 1 + 1 + 1) 45 cs := fun cs h => (((h.far (p := ⟨w.heap.size + 1 + 1, 0, none⟩) (by dsimp only; omega) (.int .u32 m)).far (p := ⟨w.heap.size + 1 + 1, 1, none⟩) (by dsimp only; omega) (.int .u32 s)).far (p := ⟨w.heap.size + 1 + 1, 2, none⟩) (by dsimp only; omega) (.bool k))
      clear sx0 sx1 sx2 hC
      go_simp
      refine hK undef _ _ ⟨⟨na, nb⟩, ⟨⟨_, _, _, t2⟩, ⟨_, _, _, no⟩⟩, nbel⟩ ⟨fun hk => absurd rfl hk, fun _ cs h => hfar cs h⟩ t2 ?_
      first | (simp only [Act.put, List.setIfInBounds_toArray, List.set_cons_succ, List.set_cons_zero, hp]; done) | simp [Act.put, hp]
    refine AllOps.cons (fun x u hC hT hp K hK => ?_) ?_
    · simp [KnownTill, Region.binds, VRet] at hp
      clear hT
      obtain ⟨y0, y1, y2, kw⟩ := hC.2.1.2
      obtain ⟨z0, z1, z2, ko⟩ := hC.2.1.1
      have cw0 := (kw).cell 0
      have cw1 := (kw).cell 1
      have cw2 := (kw).cell 2
      simp only [List.getElem?_toArray, List.getElem?_cons_zero, List.getElem?_cons_succ] at cw0 cw1 cw2
      have fw0 := kw.frozen 0
      have fw1 := kw.frozen 1
      have fw2 := kw.frozen 2
      have sx0 := kw.set_ 0 (.int .u32 m2)
      have ew0 := sx0.cell 0
      have sx1 := sx0.set_ 1 (.int .u32 s2)
      have ew1 := sx1.cell 1
      have sx2 := sx1.set_ 2 (.bool k2)
      have ew2 := sx2.cell 2
      simp at ew0 ew1 ew2
      have t2 := sx2
      simp at t2
      have na := (((hC.1.1.far (p := ⟨w.heap.size + 1 + 1 + 1, 0, none⟩) (by dsimp only; omega) (.int .u32 m2)).far (p := ⟨w.heap.size + 1 + 1 + 1, 1, none⟩) (by dsimp only; omega) (.int .u32 s2)).far (p := ⟨w.heap.size + 1 + 1 + 1, 2, none⟩) (by dsimp only; omega) (.bool k2))
      have nb := (((hC.1.2.far (p := ⟨w.heap.size + 1 + 1 + 1, 0, none⟩) (by dsimp only; omega) (.int .u32 m2)).far (p := ⟨w.heap.size + 1 + 1 + 1, 1, none⟩) (by dsimp only; omega) (.int .u32 s2)).far (p := ⟨w.heap.size + 1 + 1 + 1, 2, none⟩) (by dsimp only; omega) (.bool k2))
      have no := (((ko.far (p := ⟨w.heap.size + 1 + 1 + 1, 0, none⟩) (by dsimp only; omega) (.int .u32 m2)).far (p := ⟨w.heap.size + 1 + 1 + 1, 1, none⟩) (by dsimp only; omega) (.int .u32 s2)).far (p := ⟨w.heap.size + 1 + 1 + 1, 2, none⟩) (by dsimp only; omega) (.bool k2))
      have nbel := (((hC.2.2.setCell (p := ⟨w.heap.size + 1 + 1 + 1, 0, none⟩) (by dsimp only; omega) (.int .u32 m2)).setCell (p := ⟨w.heap.size + 1 + 1 + 1, 1, none⟩) (by dsimp only; omega) (.int .u32 s2)).setCell (p := ⟨w.heap.size + 1 + 1 + 1, 2, none⟩) (by dsimp only; omega) (.bool k2))
      have hfar : ∀ cs, Blk u (w.heap.size + 1 + 1) 45 cs → Blk _ (w.heap.size + 1 + 1) 45 cs := fun cs h => (((h.far (p := ⟨w.heap.size + 1 + 1 + 1, 0, none⟩) (by dsimp only; omega) (.int .u32 m2)).far (p := ⟨w.heap.size + 1 + 1 + 1, 1, none⟩) (by dsimp only; omega) (.int .u32 s2)).far (p := ⟨w.heap.size + 1 + 1 + 1, 2, none⟩) (by dsimp only; omega) (.bool k2))
      clear sx0 sx1 sx2 hC
      go_simp
      refine hK undef _ _ ⟨⟨na, nb⟩, ⟨⟨_, _, _, no⟩, ⟨_, _, _, t2⟩⟩, nbel⟩ ⟨fun _ cs h => hfar cs h, fun hk => absurd rfl hk⟩ t2 ?_
      first | (simp only [Act.put, List.setIfInBounds_toArray, List.set_cons_succ, List.set_cons_zero, hp]; done) | simp [Act.put, hp]
    refine AllOps.cons (fun x u hC hT hp K hK => ?_) ?_
    · clear hp hT
      go_simp
      refine hK _ _ _ hC (ERet.rfl' _ _ _ _) (by exact rfl) ?_
      first | (simp only [Act.put, List.setIfInBounds_toArray, List.set_cons_succ, List.set_cons_zero]; done) | simp [Act.put]
    exact AllOps.nil
  case finA =>
    intro x u hC hV
    have kp : Blk u (w.heap.size + 1 + 1) 45 #[.int .u32 m, .int .u32 s, .bool k] := hV 2 (by decide) rfl
    have kq : Blk u (w.heap.size + 1 + 1 + 1) 45 #[.int .u32 m2, .int .u32 s2, .bool k2] := hV 3 (by decide) rfl
    have hbw := hC.2.2
    have e4 : x 4 = .bool false := hV 4 (by decide) rfl
    rw [e4]
    clear e4 hV hC
    have cp0 := (kp).cell 0
    have cp1 := (kp).cell 1
    have cp2 := (kp).cell 2
    simp only [List.getElem?_toArray, List.getElem?_cons_zero, List.getElem?_cons_succ] at cp0 cp1 cp2
    have cq0 := (kq).cell 0
    have cq1 := (kq).cell 1
    have cq2 := (kq).cell 2
    simp only [List.getElem?_toArray, List.getElem?_cons_zero, List.getElem?_cons_succ] at cq0 cq1 cq2
    go_wp2
    refine bodyPost_ret (by simp [results, Try.results10, go_sem, cp0, cp1, cp2, cq0, cq1, cq2]; try rfl) rfl ?_
    exact ⟨rfl, hbw⟩

set_option maxHeartbeats 1000000 in
theorem after_ok (m s : Int) (k : Bool) (m2 s2 : Int) (k2 : Bool) (x y : Int) (h : checkM m s m2 s2 k = (x, 0)) (h2 : checkM m2 s2 m s k2 = (y, 0)) (hx : badB x = false) (hy : badB y = false) (w : World) : Calls Try.prog 10 #[.agg #[.int .u32 m, .int .u32 s, .bool k], .agg #[.int .u32 m2, .int .u32 s2, .bool k2]] w fun o w' => o = .returned (.tuple #[.agg #[.int .u32 m, .int .u32 m2, .bool k], .agg #[.int .u32 m2, .int .u32 m, .bool k2], .bool true]) ∧ Below w.heap.size w w' := by
  have hbw := Below.refl w.heap.size w
  have ka := Blk.new w 45 #[.int .u32 m, .int .u32 s, .bool k]
  try simp only [World.size_alloc] at ka
  have hbw := bt hbw (ba w (.cells #[.int .u32 m, .int .u32 s, .bool k] 45))
  have ka := ka.alloc (.cells #[.int .u32 m2, .int .u32 s2, .bool k2] 45)
  have kb := Blk.new (w.alloc (.cells #[.int .u32 m, .int .u32 s, .bool k] 45)) 45 #[.int .u32 m2, .int .u32 s2, .bool k2]
  try simp only [World.size_alloc] at kb
  have hbw := bt hbw (ba (w.alloc (.cells #[.int .u32 m, .int .u32 s, .bool k] 45)) (.cells #[.int .u32 m2, .int .u32 s2, .bool k2] 45))
  have ka := ka.alloc (.cells #[.int .u32 0, .int .u32 0, .bool false] 45)
  have kb := kb.alloc (.cells #[.int .u32 0, .int .u32 0, .bool false] 45)
  have kp := Blk.new ((w.alloc (.cells #[.int .u32 m, .int .u32 s, .bool k] 45)).alloc (.cells #[.int .u32 m2, .int .u32 s2, .bool k2] 45)) 45 #[.int .u32 0, .int .u32 0, .bool false]
  try simp only [World.size_alloc] at kp
  have hbw := bt hbw (ba ((w.alloc (.cells #[.int .u32 m, .int .u32 s, .bool k] 45)).alloc (.cells #[.int .u32 m2, .int .u32 s2, .bool k2] 45)) (.cells #[.int .u32 0, .int .u32 0, .bool false] 45))
  have ka := ka.alloc (.cells #[.int .u32 0, .int .u32 0, .bool false] 45)
  have kb := kb.alloc (.cells #[.int .u32 0, .int .u32 0, .bool false] 45)
  have kp := kp.alloc (.cells #[.int .u32 0, .int .u32 0, .bool false] 45)
  have kq := Blk.new (((w.alloc (.cells #[.int .u32 m, .int .u32 s, .bool k] 45)).alloc (.cells #[.int .u32 m2, .int .u32 s2, .bool k2] 45)).alloc (.cells #[.int .u32 0, .int .u32 0, .bool false] 45)) 45 #[.int .u32 0, .int .u32 0, .bool false]
  try simp only [World.size_alloc] at kq
  have hbw := bt hbw (ba (((w.alloc (.cells #[.int .u32 m, .int .u32 s, .bool k] 45)).alloc (.cells #[.int .u32 m2, .int .u32 s2, .bool k2] 45)).alloc (.cells #[.int .u32 0, .int .u32 0, .bool false] 45)) (.cells #[.int .u32 0, .int .u32 0, .bool false] 45))
  go_enter Try.func10, Try.ntmps10
  have ca0 := ka.cell 0
  have ca1 := ka.cell 1
  have ca2 := ka.cell 2
  simp only [List.getElem?_toArray, List.getElem?_cons_zero, List.getElem?_cons_succ] at ca0 ca1 ca2
  have cb0 := kb.cell 0
  have cb1 := kb.cell 1
  have cb2 := kb.cell 2
  simp only [List.getElem?_toArray, List.getElem?_cons_zero, List.getElem?_cons_succ] at cb0 cb1 cb2
  go_wp2_with fail
  refine (both_ok m s k m2 s2 k2 x y h h2 _).mono ?_
  rintro e v1 ⟨rfl, hb⟩
  have ka := ka.below hb ka.lt
  have kb := kb.below hb kb.lt
  have kp := kp.below hb kp.lt
  have kq := kq.below hb kq.lt
  have za := Lib.hid ka.lt
  have zb := Lib.hid kb.lt
  have zp := Lib.hid kp.lt
  have zq := Lib.hid kq.lt
  have hbw := bt hbw hb
  clear hb
  clear ca0 ca1 ca2 cb0 cb1 cb2
  have ka := ka.alloc (.cells #[.int .i64 x, .int .i64 y] 56)
  have kb := kb.alloc (.cells #[.int .i64 x, .int .i64 y] 56)
  have kp := kp.alloc (.cells #[.int .i64 x, .int .i64 y] 56)
  have kq := kq.alloc (.cells #[.int .i64 x, .int .i64 y] 56)
  have kr := Blk.new v1 56 #[.int .i64 x, .int .i64 y]
  try simp only [World.size_alloc] at kr
  have hbw := bt hbw (ba v1 (.cells #[.int .i64 x, .int .i64 y] 56))
  have ca0 := ka.cell 0
  have ca1 := ka.cell 1
  have ca2 := ka.cell 2
  simp only [List.getElem?_toArray, List.getElem?_cons_zero, List.getElem?_cons_succ] at ca0 ca1 ca2
  have cb0 := kb.cell 0
  have cb1 := kb.cell 1
  have cb2 := kb.cell 2
  simp only [List.getElem?_toArray, List.getElem?_cons_zero, List.getElem?_cons_succ] at cb0 cb1 cb2
  have cp0 := kp.cell 0
  have cp1 := kp.cell 1
  have cp2 := kp.cell 2
  simp only [List.getElem?_toArray, List.getElem?_cons_zero, List.getElem?_cons_succ] at cp0 cp1 cp2
  have cq0 := kq.cell 0
  have cq1 := kq.cell 1
  have cq2 := kq.cell 2
  simp only [List.getElem?_toArray, List.getElem?_cons_zero, List.getElem?_cons_succ] at cq0 cq1 cq2
  have cr0 := kr.cell 0
  have cr1 := kr.cell 1
  simp only [List.getElem?_toArray, List.getElem?_cons_zero, List.getElem?_cons_succ] at cr0 cr1
  go_wp2_with fail
  refine (bad_any x _ hx _).mono ?_
  rintro e v2 ⟨rfl, rfl⟩
  go_wp2_with fail
  refine (bad_any y _ hy _).mono ?_
  rintro e v2 ⟨rfl, rfl⟩
  have g0 := (ka.set_ 1 (.int .u32 m2)).far (p := ⟨w.heap.size + 1, 1, none⟩) (by dsimp only; omega) (.int .u32 m)
  have g1 := (kb.far (p := ⟨w.heap.size, 1, none⟩) (by dsimp only; omega) (.int .u32 m2)).set_ 1 (.int .u32 m)
  have g2 := (kp.far (p := ⟨w.heap.size, 1, none⟩) (by dsimp only; omega) (.int .u32 m2)).far (p := ⟨w.heap.size + 1, 1, none⟩) (by dsimp only; omega) (.int .u32 m)
  have g3 := (kq.far (p := ⟨w.heap.size, 1, none⟩) (by dsimp only; omega) (.int .u32 m2)).far (p := ⟨w.heap.size + 1, 1, none⟩) (by dsimp only; omega) (.int .u32 m)
  have fa1 := ka.frozen 1
  have fb1 := (kb.far (p := ⟨w.heap.size, 1, none⟩) (by dsimp only; omega) (.int .u32 m2)).frozen 1
  have cb1' := (kb.far (p := ⟨w.heap.size, 1, none⟩) (by dsimp only; omega) (.int .u32 m2)).cell 1
  simp at cb1' g0 g1
  have hbw := (hbw.setCell (p := ⟨w.heap.size, 1, none⟩) (by dsimp only; omega) (.int .u32 m2)).setCell (p := ⟨w.heap.size + 1, 1, none⟩) (by dsimp only; omega) (.int .u32 m)
  clear ka kb kp kq kr
  have ka := g0
  have kb := g1
  have kp := g2
  have kq := g3
  clear g0 g1 g2 g3
  go_wp2_with fail
  refine wp_region_invT (F := ?FA) (V := VRet (w.heap.size + 1 + 1) (w.heap.size + 1 + 1 + 1) #[.int .u32 m, .int .u32 m2, .bool k] #[.int .u32 m2, .int .u32 m, .bool k2] true) (dead := fun _ => none) (T := fun _ _ => True) (C := fun u => ((Blk u (w.heap.size) 45 #[.int .u32 m, .int .u32 m2, .bool k] ∧ Blk u (w.heap.size + 1) 45 #[.int .u32 m2, .int .u32 m, .bool k2]) ∧ ((∃ x0 x1 x2, Blk u (w.heap.size + 1 + 1) 45 #[x0, x1, x2]) ∧ (∃ x0 x1 x2, Blk u (w.heap.size + 1 + 1 + 1) 45 #[x0, x1, x2])) ∧ Below w.heap.size w u)) (E := ERet (w.heap.size + 1 + 1) (w.heap.size + 1 + 1 + 1)) (by kernel_rfl) (by kernel_rfl) (by kernel_rfl) (fun x => ?hFA) ?hmonoA ?hTmA ?hTA ?hCA ?stepA ?finA
  case hFA => simp only [mkA, Act.put, List.setIfInBounds_toArray, List.set_cons_succ, List.set_cons_zero, Nat.reduceAdd, Nat.zero_add]; first | with_reducible rfl | rfl
  case hmonoA => exact fun k i v u u' he hik hwt hdd hv => VRet.mono he hik hv
  case hTmA => exact fun _ _ _ _ _ _ _ _ => trivial
  case hTA => exact fun j => trivial
  case hCA => exact ⟨⟨ka, kb⟩, ⟨⟨_, _, _, kp⟩, ⟨_, _, _, kq⟩⟩, hbw.drew⟩
  case stepA =>
    refine AllOps.cons (fun x u hC hT hp K hK => ?_) ?_
    · clear hp hT
      have ca0 := (hC.1.1).cell 0
      have ca1 := (hC.1.1).cell 1
      have ca2 := (hC.1.1).cell 2
      simp only [List.getElem?_toArray, List.getElem?_cons_zero, List.getElem?_cons_succ] at ca0 ca1 ca2
      go_simp
      refine hK _ _ _ hC (ERet.rfl' _ _ _ _) (by exact rfl) ?_
      first | (simp only [Act.put, List.setIfInBounds_toArray, List.set_cons_succ, List.set_cons_zero]; done) | simp [Act.put]
    refine AllOps.cons (fun x u hC hT hp K hK => ?_) ?_
    · clear hp hT
      have ca0 := (hC.1.2).cell 0
      have ca1 := (hC.1.2).cell 1
      have ca2 := (hC.1.2).cell 2
      simp only [List.getElem?_toArray, List.getElem?_cons_zero, List.getElem?_cons_succ] at ca0 ca1 ca2
      go_simp
      refine hK _ _ _ hC (ERet.rfl' _ _ _ _) (by exact rfl) ?_
      first | (simp only [Act.put, List.setIfInBounds_toArray, List.set_cons_succ, List.set_cons_zero]; done) | simp [Act.put]
    refine AllOps.cons (fun x u hC hT hp K hK => ?_) ?_
    · simp [KnownTill, Region.binds, VRet] at hp
      clear hT
      obtain ⟨y0, y1, y2, kw⟩ := hC.2.1.1
      obtain ⟨z0, z1, z2, ko⟩ := hC.2.1.2
      have cw0 := (kw).cell 0
      have cw1 := (kw).cell 1
      have cw2 := (kw).cell 2
      simp only [List.getElem?_toArray, List.getElem?_cons_zero, List.getElem?_cons_succ] at cw0 cw1 cw2
      have fw0 := kw.frozen 0
      have fw1 := kw.frozen 1
      have fw2 := kw.frozen 2
      have sx0 := kw.set_ 0 (.int .u32 m)
      have ew0 := sx0.cell 0
      have sx1 := sx0.set_ 1 (.int .u32 m2)
      have ew1 := sx1.cell 1
      have sx2 := sx1.set_ 2 (.bool k)
      have ew2 := sx2.cell 2
      simp at ew0 ew1 ew2
      have t2 := sx2
      simp at t2
      have na := (((hC.1.1.far (p := ⟨w.heap.size + 1 + 1, 0, none⟩) (by dsimp only; omega) (.int .u32 m)).far (p := ⟨w.heap.size + 1 + 1, 1, none⟩) (by dsimp only; omega) (.int .u32 m2)).far (p := ⟨w.heap.size + 1 + 1, 2, none⟩) (by dsimp only; omega) (.bool k))
      have nb := (((hC.1.2.far (p := ⟨w.heap.size + 1 + 1, 0, none⟩) (by dsimp only; omega) (.int .u32 m)).far (p := ⟨w.heap.size + 1 + 1, 1, none⟩) (by dsimp only; omega) (.int .u32 m2)).far (p := ⟨w.heap.size + 1 + 1, 2, none⟩) (by dsimp only; omega) (.bool k))
      have no := (((ko.far (p := ⟨w.heap.size + 1 + 1, 0, none⟩) (by dsimp only; omega) (.int .u32 m)).far (p := ⟨w.heap.size + 1 + 1, 1, none⟩) (by dsimp only; omega) (.int .u32 m2)).far (p := ⟨w.heap.size + 1 + 1, 2, none⟩) (by dsimp only; omega) (.bool k))
      have nbel := (((hC.2.2.setCell (p := ⟨w.heap.size + 1 + 1, 0, none⟩) (by dsimp only; omega) (.int .u32 m)).setCell (p := ⟨w.heap.size + 1 + 1, 1, none⟩) (by dsimp only; omega) (.int .u32 m2)).setCell (p := ⟨w.heap.size + 1 + 1, 2, none⟩) (by dsimp only; omega) (.bool k))
      have hfar : ∀ cs, Blk u (w.heap.size + 1 + 1 + 1) 45 cs → Blk _ (w.heap.size + 1 + 1 + 1) 45 cs := fun cs h => (((h.far (p := ⟨w.heap.size + 1 + 1, 0, none⟩) (by dsimp only; omega) (.int .u32 m)).far (p := ⟨w.heap.size + 1 + 1, 1, none⟩) (by dsimp only; omega) (.int .u32 m2)).far (p := ⟨w.heap.size + 1 + 1, 2, none⟩) (by dsimp only; omega) (.bool k))
      clear sx0 sx1 sx2 hC
      go_simp
      refine hK undef _ _ ⟨⟨na, nb⟩, ⟨⟨_, _, _, t2⟩, ⟨_, _, _, no⟩⟩, nbel⟩ ⟨fun hk => absurd rfl hk, fun _ cs h => hfar cs h⟩ t2 ?_
      first | (simp only [Act.put, List.setIfInBounds_toArray, List.set_cons_succ, List.set_cons_zero, hp]; done) | simp [Act.put, hp]
    refine AllOps.cons (fun x u hC hT hp K hK => ?_) ?_
    · simp [KnownTill, Region.binds, VRet] at hp
      clear hT
      obtain ⟨y0, y1, y2, kw⟩ := hC.2.1.2
      obtain ⟨z0, z1, z2, ko⟩ := hC.2.1.1
      have cw0 := (kw).cell 0
      have cw1 := (kw).cell 1
      have cw2 := (kw).cell 2
      simp only [List.getElem?_toArray, List.getElem?_cons_zero, List.getElem?_cons_succ] at cw0 cw1 cw2
      have fw0 := kw.frozen 0
      have fw1 := kw.frozen 1
      have fw2 := kw.frozen 2
      have sx0 := kw.set_ 0 (.int .u32 m2)
      have ew0 := sx0.cell 0
      have sx1 := sx0.set_ 1 (.int .u32 m)
      have ew1 := sx1.cell 1
      have sx2 := sx1.set_ 2 (.bool k2)
      have ew2 := sx2.cell 2
      simp at ew0 ew1 ew2
      have t2 := sx2
      simp at t2
      have na := (((hC.1.1.far (p := ⟨w.heap.size + 1 + 1 + 1, 0, none⟩) (by dsimp only; omega) (.int .u32 m2)).far (p := ⟨w.heap.size + 1 + 1 + 1, 1, none⟩) (by dsimp only; omega) (.int .u32 m)).far (p := ⟨w.heap.size + 1 + 1 + 1, 2, none⟩) (by dsimp only; omega) (.bool k2))
      have nb := (((hC.1.2.far (p := ⟨w.heap.size + 1 + 1 + 1, 0, none⟩) (by dsimp only; omega) (.int .u32 m2)).far (p := ⟨w.heap.size + 1 + 1 + 1, 1, none⟩) (by dsimp only; omega) (.int .u32 m)).far (p := ⟨w.heap.size + 1 + 1 + 1, 2, none⟩) (by dsimp only; omega) (.bool k2))
      have no := (((ko.far (p := ⟨w.heap.size + 1 + 1 + 1, 0, none⟩) (by dsimp only; omega) (.int .u32 m2)).far (p := ⟨w.heap.size + 1 + 1 + 1, 1, none⟩) (by dsimp only; omega) (.int .u32 m)).far (p := ⟨w.heap.size + 1 + 1 + 1, 2, none⟩) (by dsimp only; omega) (.bool k2))
      have nbel := (((hC.2.2.setCell (p := ⟨w.heap.size + 1 + 1 + 1, 0, none⟩) (by dsimp only; omega) (.int .u32 m2)).setCell (p := ⟨w.heap.size + 1 + 1 + 1, 1, none⟩) (by dsimp only; omega) (.int .u32 m)).setCell (p := ⟨w.heap.size + 1 + 1 + 1, 2, none⟩) (by dsimp only; omega) (.bool k2))
      have hfar : ∀ cs, Blk u (w.heap.size + 1 + 1) 45 cs → Blk _ (w.heap.size + 1 + 1) 45 cs := fun cs h => (((h.far (p := ⟨w.heap.size + 1 + 1 + 1, 0, none⟩) (by dsimp only; omega) (.int .u32 m2)).far (p := ⟨w.heap.size + 1 + 1 + 1, 1, none⟩) (by dsimp only; omega) (.int .u32 m)).far (p := ⟨w.heap.size + 1 + 1 + 1, 2, none⟩) (by dsimp only; omega) (.bool k2))
      clear sx0 sx1 sx2 hC
      go_simp
      refine hK undef _ _ ⟨⟨na, nb⟩, ⟨⟨_, _, _, no⟩, ⟨_, _, _, t2⟩⟩, nbel⟩ ⟨fun _ cs h => hfar cs h, fun hk => absurd rfl hk⟩ t2 ?_
      first | (simp only [Act.put, List.setIfInBounds_toArray, List.set_cons_succ, List.set_cons_zero, hp]; done) | simp [Act.put, hp]
    refine AllOps.cons (fun x u hC hT hp K hK => ?_) ?_
    · clear hp hT
      go_simp
      refine hK _ _ _ hC (ERet.rfl' _ _ _ _) (by exact rfl) ?_
      first | (simp only [Act.put, List.setIfInBounds_toArray, List.set_cons_succ, List.set_cons_zero]; done) | simp [Act.put]
    exact AllOps.nil
  case finA =>
    intro x u hC hV
    have kp : Blk u (w.heap.size + 1 + 1) 45 #[.int .u32 m, .int .u32 m2, .bool k] := hV 2 (by decide) rfl
    have kq : Blk u (w.heap.size + 1 + 1 + 1) 45 #[.int .u32 m2, .int .u32 m, .bool k2] := hV 3 (by decide) rfl
    have hbw := hC.2.2
    have e4 : x 4 = .bool true := hV 4 (by decide) rfl
    rw [e4]
    clear e4 hV hC
    have cp0 := (kp).cell 0
    have cp1 := (kp).cell 1
    have cp2 := (kp).cell 2
    simp only [List.getElem?_toArray, List.getElem?_cons_zero, List.getElem?_cons_succ] at cp0 cp1 cp2
    have cq0 := (kq).cell 0
    have cq1 := (kq).cell 1
    have cq2 := (kq).cell 2
    simp only [List.getElem?_toArray, List.getElem?_cons_zero, List.getElem?_cons_succ] at cq0 cq1 cq2
    go_wp2
    refine bodyPost_ret (by simp [results, Try.results10, go_sem, cp0, cp1, cp2, cq0, cq1, cq2]; try rfl) rfl ?_
    exact ⟨rfl, hbw⟩
end Go.Proofs.Ytepcafkgpkbimaa
