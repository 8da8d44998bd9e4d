/- The law on logs that are none. -/
import Derived.Test.YtflibdiafhkpoaaZe
import Derived.Test.YtflibdiafhkpoaaOpenW
namespace Go.Proofs.Ytflibdiafhkpoaa
open Go.RowKit
set_option linter.unusedVariables false

set_option maxHeartbeats 2000000 in
theorem nobody_in (k : Int) (A : Option Addr) (n c : Nat) (f : Bool) (w : World) :
    Calls Try.prog 5 #[.agg #[.int .i64 k, .slice A n c], .bool f] w fun e w' => e = .returned (.bool true) ∧ Below w.heap.size w w' := by
  have hbx := Blk.new w 24 #[.int .i64 k, .slice A n c]
  go_enter Try.func5, Try.ntmps5
  go_wp2_with fail
  refine (long_any k A n c _).mono ?_
  rintro e w1 ⟨⟨b, rfl, _⟩, hb1⟩
  have y := hbx.below hb1 (by simp)
  have hbb1 := bt (ba _ _) hb1
  cases b
  · go_wp2_with fail
    have z0 : NotMade ((w1.alloc (.cells #[.pointer none] 65)).alloc (.cells #[.int .i64 0, .slice none 0 0, .int .i64 0] 67)) (some ⟨w1.heap.size + 1, 0, none⟩) := .inr ⟨_, rfl, by simp⟩
    have l0 : LogNo ((w1.alloc (.cells #[.pointer none] 65)).alloc (.cells #[.int .i64 0, .slice none 0 0, .int .i64 0] 67)) (some ⟨w1.heap.size, 0, none⟩) := .inr ⟨_, rfl, ((Blk.new _ _ _).alloc _).cell 0⟩
    have y' := (y.alloc (.cells #[.pointer none] 65)).alloc (.cells #[.int .i64 0, .slice none 0 0, .int .i64 0] 67)
    have hbb2 := bt (bt hbb1 (ba _ (.cells #[.pointer none] 65))) (ba _ (.cells #[.int .i64 0, .slice none 0 0, .int .i64 0] 67))
    refine (open_no _ _ z0).mono ?_
    rintro e w2 ⟨rfl, hb2⟩
    have l2 := l0.below hb2
    have y2 := y'.below hb2 y'.lt
    have hbb3 := bt hbb2 hb2
    clear z0 l0 y y' hbb1 hbb2 hb1 hb2 hbx
    go_wp2_with fail
    refine (alive_any _).mono ?_
    rintro e w3 ⟨rfl, hb3⟩
    have l3 := l2.below hb3
    have y3 := y2.below hb3 y2.lt
    have hbb4 := bt hbb3 hb3
    have q0 := y3.cell 0
    have q1 := y3.cell 1
    simp only [List.getElem?_toArray, List.getElem?_cons_zero, List.getElem?_cons_succ] at q0 q1
    clear l2 y2 hbb3 hb3
    go_wp2_with fail
    refine (add_no none k A n c f _ (.inl rfl)).mono ?_
    rintro e w4 ⟨rfl, hb4⟩
    have l4 := l3.below hb4
    have y4 := y3.below hb4 y3.lt
    have hbb5 := bt hbb4 hb4
    clear l3 y3 hbb4 hb4 q0 q1
    have q0 := y4.cell 0
    have q1 := y4.cell 1
    simp only [List.getElem?_toArray, List.getElem?_cons_zero, List.getElem?_cons_succ] at q0 q1
    go_wp2_with fail
    refine (add_no _ k A n c f _ l4).mono ?_
    rintro e w5 ⟨rfl, hb5⟩
    have l5 := l4.below hb5
    have hbb6 := bt hbb5 hb5
    clear l4 y4 hbb5 hb5 q0 q1
    go_wp2_with fail
    refine (swap_no none none 0 0 _ (.inl rfl)).mono ?_
    rintro e w6 ⟨rfl, rfl⟩
    go_wp2_with fail
    refine (swap_no _ none 0 0 _ l5).mono ?_
    rintro e w6 ⟨rfl, rfl⟩
    go_wp2_with fail
    refine (records_no none _ (.inl rfl)).mono ?_
    rintro e w6 ⟨rfl, rfl⟩
    go_wp2_with fail
    refine (records_no _ _ l5).mono ?_
    rintro e w6 ⟨rfl, rfl⟩
    go_wp2_with fail
    refine (room_no none _ (.inl rfl)).mono ?_
    rintro e w6 ⟨rfl, rfl⟩
    go_wp2_with fail
    refine (room_no _ _ l5).mono ?_
    rintro e w6 ⟨rfl, rfl⟩
    go_wp2
    go_ret
    exact ⟨rfl, hbb6⟩
  · go_wp2_with fail
    refine (alive_any _).mono ?_
    rintro e w2 ⟨rfl, hb2⟩
    go_wp2
    go_ret
    exact ⟨rfl, bt hbb1 hb2⟩

theorem walNobody_walk (o : RecV) (f : Bool) (w : World) (h : RecOk w o) :
    Calls Try.prog 5 #[o.val, .bool f] w fun e w' => e = .returned (.bool true) ∧ Below w.heap.size w w' := nobody_in o.id o.A o.l.length o.c f w
end Go.Proofs.Ytflibdiafhkpoaa
