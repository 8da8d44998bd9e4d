/- Layer 7: the walk of FrameWrites. -/
import Derived.Test.YthmhkicgghobmaaFd
import Derived.Test.YthmhkicgghobmaaCopy
import Derived.Test.YthmhkicgghobmaaOpenF
namespace Go.Proofs.Ythmhkicgghobmaa
open Go.RowKit
set_option linter.unusedVariables false
set_option linter.unusedSimpArgs false

theorem fwrite_wr (s : Nat) (q a : Int) (A : Option Addr) (l L : List UInt8) (E : Int) (n c : Nat) (hn : Hid (n = l.length)) (w : World) (hs : s < 4294967296) (hbs : Bs w w.heap.size A l) (hR : Hid (writeF s q a l = (L, E))) : Calls Try.prog 11 #[.agg #[.int .u32 s, .int .i64 q, .int .i64 a, .slice A n c]] w (WrO w L E) :=
  (fwrite_any s q a A l n c hn w hs hbs).mono fun e w' h => wrO_of hR.out h
theorem rwrite_wr (s : Nat) (q a : Int) (A : Option Addr) (l L : List UInt8) (E : Int) (n c : Nat) (hn : Hid (n = l.length)) (w : World) (hs : s < 4294967296) (hbs : Bs w w.heap.size A l) (hR : Hid (writeF s q a l = (L, E))) : Calls Try.prog 12 #[.agg #[.int .u32 s, .int .i64 q, .int .i64 a, .slice A n c]] w (WrO w L E) :=
  (rwrite_any s q a A l n c hn w hs hbs).mono fun e w' h => wrO_of hR.out h
theorem copy_n (A : Option Addr) (l : List UInt8) (n c : Nat) (hn : Hid (n = l.length)) (w : World) (hm : n ≤ 140737488355328) (h : Bs w w.heap.size A l) :
    Calls Try.prog 10 #[.slice A n c] w fun e w' => ∃ A2 c2, e = .returned (.slice A2 n c2) ∧ Own w' w.heap.size 5 A2 c2 l ∧ Below w.heap.size w w' := by
  have hm' : l.length ≤ 140737488355328 := by rw [← hn.out]; exact hm
  rw [hn.out]; exact copy_any A l c w hm' h

theorem grown_set (w : World) (p : Addr) (u : Value) : w.grownBy (w.setCell p u) (some p.block) := by
  have h := (Below.refl 0 w).setCell (p := p) (Nat.zero_le _) u
  exact ⟨h.os, h.tape, h.output, h.size, fun k _ hne => Below.heap_setCell w p u k (fun e => hne (by rw [e]))⟩
theorem Own.far {w : World} {base : Nat} {e : TypeId} {A : Option Addr} {c : Nat} {l : List UInt8} (h : Own w base e A c l) {p : Addr} (hp : some p.block ≠ blk A) (u : Value) : Own (w.setCell p u) base e A c l :=
  h.kept (grown_set w p u) (.inr (fun e => hp e.symm))
theorem frm_ne : (25 : TypeId) ≠ 5 := by decide

set_option maxHeartbeats 1000000 in
theorem frameWrites_big (s : Nat) (q a : Int) (A : Option Addr) (n c : Nat) (w : World) (hb : decide (2000 < (n : Int)) = true) : Calls Try.prog 3 #[.agg #[.int .u32 s, .int .i64 q, .int .i64 a, .slice A n c]] w fun e w' => e = .returned (.bool true) ∧ Below w.heap.size w w' := by
  have kb0 := Blk.new w 25 #[.int .u32 s, .int .i64 q, .int .i64 a, .slice A n c]
  have hbw0 := ba w (.cells #[.int .u32 s, .int .i64 q, .int .i64 a, .slice A n c] 25)
  have c0 := (kb0).cell 0
  have c1 := (kb0).cell 1
  have c2 := (kb0).cell 2
  have c3 := (kb0).cell 3
  simp only [List.getElem?_toArray, List.getElem?_cons_zero, List.getElem?_cons_succ] at c0 c1 c2 c3
  go_enter Try.func3, Try.ntmps3
  go_wp2_with fail
  refine (alive_any _).mono ?_
  rintro e w1 ⟨rfl, hb1⟩
  go_wp2
  go_ret
  exact ⟨rfl, bt hbw0 hb1⟩

set_option maxHeartbeats 2000000 in
theorem frameWrites_all (s : Nat) (q a : Int) (A : Option Addr) (l L : List UInt8) (E : Int) (n c : Nat) (hn : Hid (n = l.length)) (w : World) (hb : decide (2000 < (n : Int)) = false) (hs : s < 4294967296) (hbs : Bs w w.heap.size A l) (hR : Hid (writeF s q a l = (L, E))) : Calls Try.prog 3 #[.agg #[.int .u32 s, .int .i64 q, .int .i64 a, .slice A n c]] w fun e w' => e = .returned (.bool true) ∧ Below w.heap.size w w' := by
  have hle : Hid (n ≤ 2000) := Lib.hid (by simp at hb; omega)
  have Hs := Lib.hid hs
  clear hs
  have kb0 := (Blk.new w 25 #[.int .u32 s, .int .i64 q, .int .i64 a, .slice A n c]).alloc (.cells #[.int .u32 s, .int .i64 q, .int .i64 a, .slice A n c] 25)
  have ko0 := Blk.new (w.alloc (.cells #[.int .u32 s, .int .i64 q, .int .i64 a, .slice A n c] 25)) 25 #[.int .u32 s, .int .i64 q, .int .i64 a, .slice A n c]
  simp only [World.size_alloc] at ko0
  have hbw0 := bt (ba w (.cells #[.int .u32 s, .int .i64 q, .int .i64 a, .slice A n c] 25)) (ba (w.alloc (.cells #[.int .u32 s, .int .i64 q, .int .i64 a, .slice A n c] 25)) (.cells #[.int .u32 s, .int .i64 q, .int .i64 a, .slice A n c] 25))
  have i0 := (Blk.new w 25 #[.int .u32 s, .int .i64 q, .int .i64 a, .slice A n c])
  have y0 := (i0).cell 0
  have y1 := (i0).cell 1
  have y2 := (i0).cell 2
  have y3 := (i0).cell 3
  simp only [List.getElem?_toArray, List.getElem?_cons_zero, List.getElem?_cons_succ] at y0 y1 y2 y3
  have x0 := (kb0).cell 0
  have x1 := (kb0).cell 1
  have x2 := (kb0).cell 2
  have x3 := (kb0).cell 3
  simp only [List.getElem?_toArray, List.getElem?_cons_zero, List.getElem?_cons_succ] at x0 x1 x2 x3
  clear i0
  go_enter Try.func3, Try.ntmps3
  go_wp2_with fail
  refine (copy_n A l n c hn _ (by have := hle.out; omega) (hbs.bt hbw0)).mono ?_
  rintro e w1 ⟨A2, c2, rfl, own2, hb1⟩
  have kb1 := kb0.below hb1 kb0.lt
  have ko1 := ko0.below hb1 ko0.lt
  have hbw1 := bt hbw0 hb1
  clear x0 x1 x2 x3
  clear y0 y1 y2 y3
  have x0 := (ko1).cell 0
  have x1 := (ko1).cell 1
  have x2 := (ko1).cell 2
  have x3 := (ko1).cell 3
  simp only [List.getElem?_toArray, List.getElem?_cons_zero, List.getElem?_cons_succ] at x0 x1 x2 x3
  have ff := ko1.frozen 3
  have ko2 := ko1.set_ 3 (.slice A2 n c2)
  have kb2 := kb1.far (p := ⟨w.heap.size + 1, 3, none⟩) (by simp) (.slice A2 n c2)
  have own3 := (own2.base_le hbw0.size).far (p := ⟨w.heap.size + 1, 3, none⟩) (own2.ne_blk ko1 frm_ne) (.slice A2 n c2)
  have hbw2 := hbw1.setCell (p := ⟨w.heap.size + 1, 3, none⟩) (by simp) (.slice A2 n c2)
  simp at ko2
  have z0 := (ko2).cell 0
  have z1 := (ko2).cell 1
  have z2 := (ko2).cell 2
  have z3 := (ko2).cell 3
  simp only [List.getElem?_toArray, List.getElem?_cons_zero, List.getElem?_cons_succ] at z0 z1 z2 z3
  have y0 := (kb2).cell 0
  have y1 := (kb2).cell 1
  have y2 := (kb2).cell 2
  have y3 := (kb2).cell 3
  simp only [List.getElem?_toArray, List.getElem?_cons_zero, List.getElem?_cons_succ] at y0 y1 y2 y3
  have hw0 := fun w h => fwrite_wr s q a A2 l L E n c2 hn w Hs.out h hR
  have hr0 := fun w h => rwrite_wr s q a A l L E n c hn w Hs.out h hR
  have Hw0 := Lib.hid hw0
  have Hr0 := Lib.hid hr0
  clear hw0 hr0
  go_wp2_with fail
  refine (Hw0.out _ own3.bs).mono ?_
  rintro e w3 ⟨A3, c3, J3, rfl, hJ3, own4, hb3⟩
  have ko3 := ko2.below hb3 ko2.lt
  have kb3 := kb2.below hb3 kb2.lt
  have hbw3 := bt hbw2 hb3
  have own3' := own3.below hb3 (Nat.le_refl _)
  clear x0 x1 x2 x3
  clear y0 y1 y2 y3
  clear z0 z1 z2 z3
  have y0 := (kb3).cell 0
  have y1 := (kb3).cell 1
  have y2 := (kb3).cell 2
  have y3 := (kb3).cell 3
  simp only [List.getElem?_toArray, List.getElem?_cons_zero, List.getElem?_cons_succ] at y0 y1 y2 y3
  clear ff
  go_wp2_with fail
  refine (Hr0.out _ (hbs.bt hbw3)).mono ?_
  rintro e w4 ⟨A4, c4, J4, rfl, hJ4, own5, hb4⟩
  have ko4 := ko3.below hb4 ko3.lt
  have kb4 := kb3.below hb4 kb3.lt
  have hbw4 := bt hbw3 hb4
  have own3'' := own3'.below hb4 (Nat.le_refl _)
  have own4' := own4.below hb4 (Nat.le_refl _)
  clear y0 y1 y2 y3
  go_wp2_with fail
  refine (alive_any _).mono ?_
  rintro e w5 ⟨rfl, hb5⟩
  have ko5 := ko4.below hb5 ko4.lt
  have kb5 := kb4.below hb5 kb4.lt
  have hbw5 := bt hbw4 hb5
  have own3f := own3''.below hb5 (Nat.le_refl _)
  have own4f := own4'.below hb5 (Nat.le_refl _)
  have own5f := own5.below hb5 (Nat.le_refl _)
  have cv1 := conv_n A3 L J3 c3 hJ3 _ _ own4f.bs
  have cv2 := conv_n A4 L J4 c4 hJ4 _ _ own5f.bs
  have hsm := same_any s q a A2 l n c2 hn s q a A l n c hn w5 own3f.bs (hbs.bt hbw5)
  rw [show sameF s q a l s q a l = true by simp [sameF]] at hsm
  have z0 := (ko5).cell 0
  have z1 := (ko5).cell 1
  have z2 := (ko5).cell 2
  have z3 := (ko5).cell 3
  simp only [List.getElem?_toArray, List.getElem?_cons_zero, List.getElem?_cons_succ] at z0 z1 z2 z3
  have y0 := (kb5).cell 0
  have y1 := (kb5).cell 1
  have y2 := (kb5).cell 2
  have y3 := (kb5).cell 3
  simp only [List.getElem?_toArray, List.getElem?_cons_zero, List.getElem?_cons_succ] at y0 y1 y2 y3
  clear kb0 kb1 kb2 kb3 kb4 kb5 ko0 ko1 ko2 ko3 ko4 ko5 own2 own3 own3' own3'' own3f own4 own4' own4f own5 own5f hbw0 hbw1 hbw2 hbw3 hbw4 hb1 hb3 hb4 hb5
  go_wp2_with fail
  refine hsm.mono ?_
  rintro e w6 ⟨rfl, hb6⟩
  go_wp2
  go_ret
  exact ⟨rfl, bt hbw5 hb6⟩

theorem frameWrites_walk (o : FrmV) (w : World) (ho : FrmOk w o) : Calls Try.prog 3 #[o.val] w fun e w' => e = .returned (.bool true) ∧ Below w.heap.size w w' := by
  obtain ⟨s, q, a, A, l, c⟩ := o
  obtain ⟨s1, q1, q2, a1, a2, bs, len, cap⟩ := ho
  simp only at s1 bs
  unfold FrmV.val
  rcases hb : decide (2000 < (l.length : Int)) with _ | _
  · exact frameWrites_all s q a A l _ _ _ c (Lib.hid rfl) w hb s1 bs (Lib.hid rfl)
  · exact frameWrites_big s q a A _ c w hb
end Go.Proofs.Ythmhkicgghobmaa
