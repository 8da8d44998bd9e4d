/- Layer 7: the document's Write. -/
import Derived.Test.YthmhkicgghobmaaFb
import Derived.Test.YthmhkicgghobmaaPutR
namespace Go.Proofs.Ythmhkicgghobmaa
open Go.RowKit
set_option linter.unusedVariables false
set_option linter.unusedSimpArgs false

/-- Bytes and an error, told apart from their length. -/
def WrO (w : World) (L : List UInt8) (E : Int) (e : Ending) (w' : World) : Prop := ∃ A c J, e = .returned (.tuple #[.slice A J c, .int .i64 E]) ∧ Hid (J = L.length) ∧ Own w' w.heap.size 5 A c L ∧ Below w.heap.size w w'
theorem wrO_of {w : World} {R : List UInt8 × Int} {L : List UInt8} {E : Int} (h : R = (L, E)) {e : Ending} {w' : World} (hw : OutB w R e w') : WrO w L E e w' := by
  obtain ⟨A, c, h1, h2, h3⟩ := hw
  subst h
  exact ⟨A, c, _, h1, Lib.hid rfl, h2, h3⟩
theorem refput_pair (v m : Nat) (w : World) (h1 : 1 ≤ m) (h8 : m ≤ 8) (h : v < 18446744073709551616 ∧ v / 256 ^ m = 0) : Calls Try.prog 21 #[.int .u64 v, .int .i64 m] w (PairO w (putL v m) m) := by
  have e : putR v m = (putL v m, 0) := by unfold putR; rw [if_pos (by omega), Int.toNat_natCast, if_pos h.2]
  refine (refput_any v m w h.1).mono fun e' w' ⟨A, c, g1, g2, g3⟩ => ⟨A, c, ?_, ?_, g3⟩
  · rw [g1, e]; simp only [putL_length]
  · rw [e] at g2; exact g2
theorem frontF_eq (s q a : Nat) (l : List UInt8) : putL s 4 ++ putL q 2 ++ putL a 2 ++ putL l.length 2 ++ l = frontF s q a l := by
  unfold frontF putAll; simp
theorem ne_rows {A B : Option Addr} {x y : Nat} (h1 : ∀ k, blk A = some k → k < x ∨ y ≤ k) (h2 : ∀ k, blk B = some k → x ≤ k ∧ k < y) : blk B = none ∨ blk B ≠ blk A := by
  cases hB : blk B with
  | none => exact .inl rfl
  | some k =>
    refine .inr fun e => ?_
    have g1 := h1 k e.symm
    have g2 := h2 k hB
    omega

theorem row_next {A A5 : Option Addr} {x y S : Nat} (h : ∀ k, blk A = some k → k < x ∨ y ≤ k) (hr : blk A5 = blk A ∨ blk A5 = some S) (hS : y ≤ S) : ∀ k, blk A5 = some k → k < x ∨ y ≤ k := by
  intro k hk
  rcases hr with hr | hr
  · exact h k (hr ▸ hk)
  · rw [hr] at hk; injection hk with hk; omega

set_option maxHeartbeats 2000000 in
theorem rfront_any (s q a : Nat) (A : Option Addr) (l : List UInt8) (n c : Nat) (hn : Hid (n = l.length)) (w : World) (hq : q ≤ 65535) (ha : a ≤ 65535) (hl : n ≤ 256) (hs : s < 4294967296) (hbs : Bs w w.heap.size A l) : Calls Try.prog 20 #[.agg #[.int .u32 s, .int .i64 q, .int .i64 a, .slice A n c]] w (PutO w.heap.size w (frontF s q a l)) := by
  obtain ⟨i0, hi, hz0, hz1, hz2⟩ := info_parts Try.infoU8
  have hp0 := fun w => refput_pair s 4 w (by omega) (by omega) (fit4 hs)
  have hp1 := fun w => refput_pair q 2 w (by omega) (by omega) (fit2 hq)
  have hp2 := fun w => refput_pair a 2 w (by omega) (by omega) (fit2 ha)
  have hp3 := fun w => refput_pair n 2 w (by omega) (by omega) (fit2 (by omega))
  have e1 : IntKind.u64.wrap (s : Int) = (s : Int) := IntWalk.u64_in _ (by omega)
  have e2 : IntKind.u64.wrap (q : Int) = (q : Int) := IntWalk.u64_in _ (by omega)
  have e3 : IntKind.u64.wrap (a : Int) = (a : Int) := IntWalk.u64_in _ (by omega)
  have e4 : IntKind.u64.wrap (n : Int) = (n : Int) := IntWalk.u64_in _ (by omega)
  have hF : Hid (putL s 4 ++ putL q 2 ++ putL a 2 ++ putL n 2 ++ l = frontF s q a l) := Lib.hid (by rw [hn.out]; exact frontF_eq s q a l)
  have l0 : Hid (4 = (putL s 4).length) := Lib.hid (putL_length _ _).symm
  have l1 : Hid (2 = (putL q 2).length) := Lib.hid (putL_length _ _).symm
  have l2 : Hid (2 = (putL a 2).length) := Lib.hid (putL_length _ _).symm
  have l3 : Hid (2 = (putL n 2).length) := Lib.hid (putL_length _ _).symm
  have hlb : Hid (l.length ≤ 256) := Lib.hid (by rw [← hn.out]; exact hl)
  generalize frontF s q a l = F at *
  generalize putL s 4 = P0 at *
  generalize putL q 2 = P1 at *
  generalize putL a 2 = P2 at *
  generalize putL n 2 = P3 at *
  clear hs hq ha hl
  have m1 : Hid (P0.length + P1.length ≤ 140737488355328) := Lib.hid (by rw [← l0.out, ← l1.out]; omega)
  have m2 : Hid ((P0 ++ P1).length + P2.length ≤ 140737488355328) := Lib.hid (by rw [List.length_append, ← l0.out, ← l1.out, ← l2.out]; omega)
  have m3 : Hid ((P0 ++ P1 ++ P2).length + P3.length ≤ 140737488355328) := Lib.hid (by rw [List.length_append, List.length_append, ← l0.out, ← l1.out, ← l2.out, ← l3.out]; omega)
  have m4 : Hid ((P0 ++ P1 ++ P2 ++ P3).length + l.length ≤ 140737488355328) := Lib.hid (by rw [List.length_append, List.length_append, List.length_append, ← l0.out, ← l1.out, ← l2.out, ← l3.out]; have := hlb.out; omega)
  have t1 : Hid (4 + 2 = (P0 ++ P1).length) := Lib.hid (by rw [List.length_append, ← l0.out, ← l1.out])
  have t2 : Hid (4 + 2 + 2 = (P0 ++ P1 ++ P2).length) := Lib.hid (by rw [List.length_append, List.length_append, ← l0.out, ← l1.out, ← l2.out])
  have t3 : Hid (4 + 2 + 2 + 2 = (P0 ++ P1 ++ P2 ++ P3).length) := Lib.hid (by rw [List.length_append, List.length_append, List.length_append, ← l0.out, ← l1.out, ← l2.out, ← l3.out])
  have t4 : Hid (4 + 2 + 2 + 2 + n = F.length) := Lib.hid (by rw [← hF.out, List.length_append, ← t3.out, ← hn.out])
  have kb0 := Blk.new w 25 #[.int .u32 s, .int .i64 q, .int .i64 a, .slice A n c]
  have hbw0 := ba w (.cells #[.int .u32 s, .int .i64 q, .int .i64 a, .slice A n c] 25)
  have c0 := (kb0).cell 0
  have c1 := (kb0).cell 1
  have c2 := (kb0).cell 2
  have c3 := (kb0).cell 3
  simp only [List.getElem?_toArray, List.getElem?_cons_zero, List.getElem?_cons_succ] at c0 c1 c2 c3
  go_enter Try.func20, Try.ntmps20
  go_wp2_with fail
  refine (hp0 _).mono ?_
  rintro e w1 ⟨A1, cA1, rfl, own1, hb1⟩
  have kb1 := kb0.below hb1 kb0.lt
  have hbw1 := bt hbw0 hb1
  clear c0 c1 c2 c3
  have c0 := (kb1).cell 0
  have c1 := (kb1).cell 1
  have c2 := (kb1).cell 2
  have c3 := (kb1).cell 3
  simp only [List.getElem?_toArray, List.getElem?_cons_zero, List.getElem?_cons_succ] at c0 c1 c2 c3
  go_wp2_with fail
  refine (hp1 _).mono ?_
  rintro e w2 ⟨A2, cA2, rfl, own2, hb2⟩
  have kb2 := kb1.below hb2 kb1.lt
  have hbw2 := bt hbw1 hb2
  clear c0 c1 c2 c3
  have c0 := (kb2).cell 0
  have c1 := (kb2).cell 1
  have c2 := (kb2).cell 2
  have c3 := (kb2).cell 3
  simp only [List.getElem?_toArray, List.getElem?_cons_zero, List.getElem?_cons_succ] at c0 c1 c2 c3
  go_wp2_with fail
  refine (hp2 _).mono ?_
  rintro e w3 ⟨A3, cA3, rfl, own3, hb3⟩
  have kb3 := kb2.below hb3 kb2.lt
  have hbw3 := bt hbw2 hb3
  clear c0 c1 c2 c3
  have c0 := (kb3).cell 0
  have c1 := (kb3).cell 1
  have c2 := (kb3).cell 2
  have c3 := (kb3).cell 3
  simp only [List.getElem?_toArray, List.getElem?_cons_zero, List.getElem?_cons_succ] at c0 c1 c2 c3
  go_wp2_with fail
  refine (hp3 _).mono ?_
  rintro e w4 ⟨A4, cA4, rfl, own4, hb4⟩
  have kb4 := kb3.below hb4 kb3.lt
  have hbw4 := bt hbw3 hb4
  clear c0 c1 c2 c3
  have q1 := own1.lt
  have q2 := own2.lt
  have q3 := own3.lt
  have q4 := own4.lt
  have z1 := hb1.size
  have z2 := hb2.size
  have z3 := hb3.size
  have z4 := hb4.size
  have own1' := (((own1.base_le hbw0.size).below hb2 (Nat.le_refl _)).below hb3 (Nat.le_refl _)).below hb4 (Nat.le_refl _)
  have own2' := (own2.below hb3 (Nat.le_refl _)).below hb4 (Nat.le_refl _)
  have own3' := own3.below hb4 (Nat.le_refl _)
  have X1 : ∀ k, blk A1 = some k → k < w1.heap.size ∨ w4.heap.size ≤ k := fun k e => .inl (q1 k e).2
  have Y3 : ∀ k, blk A3 = some k → w1.heap.size ≤ k ∧ k < w4.heap.size := fun k e => by have := q3 k e; omega
  have Y4 : ∀ k, blk A4 = some k → w1.heap.size ≤ k ∧ k < w4.heap.size := fun k e => by have := q4 k e; omega
  have hs4 : w.heap.size ≤ w4.heap.size := hbw4.size
  have hw0 := Nat.le_refl w.heap.size
  have hfu : (25 : TypeId) ≠ 5 := by decide
  have HX1 := Lib.hid X1
  have HY3 := Lib.hid Y3
  have HY4 := Lib.hid Y4
  clear q1 q2 q3 q4 z1 z2 z3 z4 X1 Y3 Y4
  go_wp2_with (first
    | (at_builtin; refine wpList_append_bs _ rfl _ _ 23 rfl w.heap.size 5 i0 _ Try.underlying23 hi hz0 hz1 hz2 rfl A1 cA1 P0 4 rfl l0.out own1' _ A2 cA2 P1 2 rfl l1.out own2'.bs m1.out hs4 ?_; intro A5 cA5 w5 own5 hg5 hr5; have HX5 := Lib.hid (row_next HX1.out hr5 (Nat.le_refl _)); have own3b := own3'.kept hg5 (ne_rows HX1.out HY3.out); have own4b := own4.kept hg5 (ne_rows HX1.out HY4.out); have kb5 := kb4.kept hg5 (own1'.ne_blk kb4 hfu); have hbw5 := hbw4.grown hg5 hbw4.size (fun k e => Nat.le_trans hw0 (own1'.lt _ e).1); have hs5 : w.heap.size ≤ w5.heap.size := Nat.le_trans hs4 hg5.size; have hS5 : w4.heap.size ≤ w5.heap.size := hg5.size)
    | (at_builtin; refine wpList_append_bs _ rfl _ _ 23 rfl w.heap.size 5 i0 _ Try.underlying23 hi hz0 hz1 hz2 rfl A5 cA5 (P0 ++ P1) 6 rfl t1.out own5 _ A3 cA3 P2 2 rfl l2.out own3b.bs m2.out hs5 ?_; intro A6 cA6 w6 own6 hg6 hr6; have HX6 := Lib.hid (row_next HX5.out hr6 hS5); have own4c := own4b.kept hg6 (ne_rows HX5.out HY4.out); have kb6 := kb5.kept hg6 (own5.ne_blk kb5 hfu); have hbw6 := hbw5.grown hg6 hbw5.size (fun k e => Nat.le_trans hw0 (own5.lt _ e).1); have hs6 : w.heap.size ≤ w6.heap.size := Nat.le_trans hs5 hg6.size)
    | (at_builtin; refine wpList_append_bs _ rfl _ _ 23 rfl w.heap.size 5 i0 _ Try.underlying23 hi hz0 hz1 hz2 rfl A6 cA6 (P0 ++ P1 ++ P2) 8 rfl t2.out own6 _ A4 cA4 P3 2 rfl l3.out own4c.bs m3.out hs6 ?_; intro A7 cA7 w7 own7 hg7 hr7; have kb7 := kb6.kept hg7 (own6.ne_blk kb6 hfu); have hbw7 := hbw6.grown hg7 hbw6.size (fun k e => Nat.le_trans hw0 (own6.lt _ e).1); have hs7 : w.heap.size ≤ w7.heap.size := Nat.le_trans hs6 hg7.size; have hbs7 := hbs.bt hbw7; have c3 := kb7.cell 3; simp only [List.getElem?_toArray, List.getElem?_cons_zero, List.getElem?_cons_succ] at c3)
    | (at_builtin; refine wpList_append_bs _ rfl _ _ 23 rfl w.heap.size 5 i0 _ Try.underlying23 hi hz0 hz1 hz2 rfl A7 cA7 (P0 ++ P1 ++ P2 ++ P3) 10 rfl t3.out own7 _ A c l n rfl hn.out hbs7 m4.out hs7 ?_; intro A8 cA8 w8 own8 hg8 hr8; have hbw8 := hbw7.grown hg8 hbw7.size (fun k e => Nat.le_trans hw0 (own7.lt _ e).1)))
  go_ret
  rw [hF.out] at own8
  exact ⟨A8, cA8, _, rfl, t4, own8.base_le hw0, hbw8⟩

theorem rwrite_no (s : Nat) (q a : Int) (A : Option Addr) (n c : Nat) (w : World) (h : mayF s q a n = false) : Calls Try.prog 12 #[.agg #[.int .u32 s, .int .i64 q, .int .i64 a, .slice A n c]] w (OutB w ([], 70)) := by
  have hm := fun w => refMay_any s q a A n c w
  rw [h] at hm
  clear h
  have kb0 := Blk.new w 25 #[.int .u32 s, .int .i64 q, .int .i64 a, .slice A n c]
  have hbw0 := ba w (.cells #[.int .u32 s, .int .i64 q, .int .i64 a, .slice A n c] 25)
  have c0 := (kb0).cell 0
  have c1 := (kb0).cell 1
  have c2 := (kb0).cell 2
  have c3 := (kb0).cell 3
  simp only [List.getElem?_toArray, List.getElem?_cons_zero, List.getElem?_cons_succ] at c0 c1 c2 c3
  go_enter Try.func12, Try.ntmps12
  go_wp2_with fail
  refine (hm _).mono ?_
  rintro e w1 ⟨rfl, hb1⟩
  go_wp2
  go_ret2
  exact ⟨none, 0, rfl, Own.nil, bt hbw0 hb1⟩

set_option maxHeartbeats 1000000 in
theorem rwrite_ok (s q a : Nat) (A : Option Addr) (l : List UInt8) (n c : Nat) (hn : Hid (n = l.length)) (w : World) (h : mayF s q a n = true) (hs : s < 4294967296) (hbs : Bs w w.heap.size A l) : Calls Try.prog 12 #[.agg #[.int .u32 s, .int .i64 q, .int .i64 a, .slice A n c]] w (OutB w (bytesF s q a l, 0)) := by
  obtain ⟨i0, hi, hz0, hz1, hz2⟩ := info_parts Try.infoU8
  have hm := fun w => refMay_any s q a A n c w
  rw [h] at hm
  obtain ⟨_, b2, b3, b4⟩ := (mayF_iff _ _ _ _).1 h
  have hf := fun w (hb : Bs w w.heap.size A l) => rfront_any s q a A l n c hn w (by omega) (by omega) b4 hs hb
  have hFl : Hid ((frontF s q a l).length ≤ 266) := Lib.hid (by rw [frontF_len, ← hn.out]; omega)
  have hL5 : Hid (frontF s q a l ++ putL (sumR (frontF s q a l)) 4 = bytesF s q a l) := Lib.hid (by unfold bytesF putAll; simp)
  have hp := fun w => refput_pair (sumR (frontF s q a l)) 4 w (by omega) (by omega) (fit4 (sumR_lt _))
  have hsl := sumR_lt (frontF s q a l)
  have e5 : IntKind.u64.wrap ((sumR (frontF s q a l) : Nat) : Int) = ((sumR (frontF s q a l) : Nat) : Int) := IntWalk.u64_in _ (by omega)
  generalize frontF s q a l = F at *
  generalize bytesF s q a l = B at *
  have l4 : Hid (4 = (putL (sumR F) 4).length) := Lib.hid (putL_length _ _).symm
  generalize hP : putL (sumR F) 4 = P4 at *
  have HP := Lib.hid hP
  have HF := Lib.hid hf
  clear h b2 b3 b4 hsl hs hP hf
  have kb0 := Blk.new w 25 #[.int .u32 s, .int .i64 q, .int .i64 a, .slice A n c]
  have hbw0 := ba w (.cells #[.int .u32 s, .int .i64 q, .int .i64 a, .slice A n c] 25)
  have c0 := (kb0).cell 0
  have c1 := (kb0).cell 1
  have c2 := (kb0).cell 2
  have c3 := (kb0).cell 3
  simp only [List.getElem?_toArray, List.getElem?_cons_zero, List.getElem?_cons_succ] at c0 c1 c2 c3
  go_enter Try.func12, Try.ntmps12
  go_wp2_with fail
  refine (hm _).mono ?_
  rintro e w1 ⟨rfl, hb1⟩
  have kb1 := kb0.below hb1 kb0.lt
  have hbw1 := bt hbw0 hb1
  clear c0 c1 c2 c3
  have c0 := (kb1).cell 0
  have c1 := (kb1).cell 1
  have c2 := (kb1).cell 2
  have c3 := (kb1).cell 3
  simp only [List.getElem?_toArray, List.getElem?_cons_zero, List.getElem?_cons_succ] at c0 c1 c2 c3
  clear kb0 hbw0 hb1
  go_wp2_with fail
  refine (HF.out _ (hbs.bt hbw1)).mono ?_
  rintro e w2 ⟨A2, cA2, J2, rfl, hJ2, own2, hb2⟩
  have hbw2 := bt hbw1 hb2
  clear c0 c1 c2 c3
  go_wp2_with fail
  refine (refsum_n A2 F cA2 _ hJ2 _ (by have := hFl.out; omega) own2.bs).mono ?_
  rintro e w3 ⟨rfl, rfl⟩
  go_wp2_with fail
  refine (hp _).mono ?_
  rintro e w4 ⟨A4, cA4, rfl, own4, hb4⟩
  have hbw4 := bt hbw2 hb4
  have own2' := own2.below hb4 (Nat.le_refl _)
  have hs4 : w1.heap.size ≤ w4.heap.size := Nat.le_trans hb2.size hb4.size
  go_wp2_with (at_builtin; refine wpList_append_bs _ rfl _ _ 23 rfl w1.heap.size 5 i0 _ Try.underlying23 hi hz0 hz1 hz2 rfl A2 cA2 F J2 rfl hJ2.out own2' _ A4 cA4 P4 4 rfl l4.out own4.bs (by have := hFl.out; rw [← l4.out]; omega) hs4 ?_; intro A5 cA5 w5 own5 hg5 _)
  go_ret2
  have hJ5 : J2 + 4 = B.length := by rw [← hL5.out, List.length_append, ← hJ2.out, ← l4.out]
  rw [hL5.out] at own5
  exact ⟨A5, cA5, by rw [hJ5]; rfl, own5.base_le hbw1.size, hbw4.grown hg5 hbw4.size (fun k e => Nat.le_trans hbw1.size (own2'.lt _ e).1)⟩

theorem rwrite_any (s : Nat) (q a : Int) (A : Option Addr) (l : List UInt8) (n c : Nat) (hn : Hid (n = l.length)) (w : World) (hs : s < 4294967296) (hbs : Bs w w.heap.size A l) : Calls Try.prog 12 #[.agg #[.int .u32 s, .int .i64 q, .int .i64 a, .slice A n c]] w (OutB w (writeF s q a l)) := by
  unfold writeF
  rw [← hn.out]
  rcases h : mayF s q a n with _ | _
  · rw [if_neg (by simp)]
    exact rwrite_no s q a A n c w h
  · rw [if_pos rfl]
    obtain ⟨_, b2, b3, b4⟩ := (mayF_iff _ _ _ _).1 h
    obtain ⟨q, rfl⟩ := Int.eq_ofNat_of_zero_le b2.1
    obtain ⟨a, rfl⟩ := Int.eq_ofNat_of_zero_le b3.1
    exact rwrite_ok s q a A l n c hn w h hs hbs
end Go.Proofs.Ythmhkicgghobmaa
