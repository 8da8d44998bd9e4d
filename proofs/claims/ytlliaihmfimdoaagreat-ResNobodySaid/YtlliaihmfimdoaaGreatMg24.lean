/- Parts Se Sf Bo Bp of one proof. -/
import Derived.Test.YtlliaihmfimdoaaGreatMg23
import Derived.Test.YtlliaihmfimdoaaGreatMg22
namespace Go.Proofs.YtlliaihmfimdoaaGreat.Re
open Go.RowKit Go.Maps Go.Deep Go.Proofs.YtlliaihmfimdoaaGreat
set_option linter.unusedVariables false
set_option linter.unusedSimpArgs false

set_option maxRecDepth 100000 in
set_option maxHeartbeats 1000000 in
theorem samech_any (A A' : Option Addr) (l : List Ch) (n c c' : Nat) (w : World) (hn : Hid (n = l.length)) (hm : n ≤ 1000000) {B B' : Nat → Prop} (h : ChAt w B A l) (h' : ChAt w B' A' l) :
    Calls Tryz.prog 24 #[.slice A n c, .slice A' n c'] w fun e w' => e = .returned (.bool true) ∧ Below w.heap.size w w' := by
  have HI : Hid (Below w.heap.size w w ∧ ChAt w B A l ∧ ChAt w B' A' l) := Lib.hid ⟨Below.refl _ _, h, h'⟩
  clear h h'
  have hnn : ((n : Int) != (n : Int)) = false := by simp
  go_enter Tryz.func24, Tryz.ntmps24
  go_wp2_with fail
  go_loopw [5] (fun i wr => ∃ (i0 : Nat), i0 ≤ n ∧ i = .int .i64 i0 ∧ Hid (Below w.heap.size w wr ∧ ChAt wr B A l ∧ ChAt wr B' A' l)) (fun i _ => n - (intOf i).toNat)
  case atStart => exact ⟨0, Nat.zero_le _, rfl, HI⟩
  case round =>
    clear HI
    obtain ⟨j, hj, rfl, HW⟩ := hrel
    by_cases hjn : j < n
    · have hjI : (j : Int) < (n : Int) := by omega
      obtain ⟨hb, hc, hc'⟩ := HW.out
      have hjl : j < l.length := by rw [← hn.out]; exact hjn
      obtain ⟨b, o, rfl, hbk, hcs⟩ := hc (by omega)
      obtain ⟨b', o', rfl, hbk', hcs'⟩ := hc' (by omega)
      obtain ⟨q0, q1, q2⟩ := hcs j hjl
      obtain ⟨p0, p1, p2⟩ := hcs' j hjl
      generalize l[j]'hjl = x at q0 q1 q2 p0 p1 p2
      obtain ⟨xk, xy, xv⟩ := x
      dsimp only at q0 q1 q2 p0 p1 p2
      have e0 := fun m : Nat => Qu.cell_drew' q0 m
      have e1 := fun m : Nat => Qu.cell_drew' q1 m
      have e2 := fun m : Nat => Qu.cell_drew' q2 m
      have d0 := fun m : Nat => Qu.cell_drew' p0 m
      have d1 := fun m : Nat => Qu.cell_drew' p1 m
      have d2 := fun m : Nat => Qu.cell_drew' p2 m
      have hdr : ∀ m : Nat, Below wr.heap.size wr (wr.drewN m) := fun m => ⟨rfl, rfl, rfl, Nat.le_refl _, fun _ _ => rfl⟩
      have HX : Hid (∀ m : Nat, Below w.heap.size w (wr.drewN m) ∧ ChAt (wr.drewN m) B (some ⟨b, o, none⟩) l ∧ ChAt (wr.drewN m) B' (some ⟨b', o', none⟩) l) := Lib.hid fun m => ⟨bt hb (hdr m), hc.below (hdr m), hc'.below (hdr m)⟩
      clear hb hc hc' hbk hbk' hcs hcs' hjl q0 q1 q2 p0 p1 p2 HW hdr
      go_wp2_with fail
      go_quiet (fail)
      have HX2 := Lib.hid (HX.out nq)
      clear e0 e1 e2 d0 d1 d2 HX
      go_wp2
      go_roundw
      case rel => exact ⟨j + 1, by omega, by go_num, HX2⟩
      case measure => simp [intOf]; omega
    · have hjI : ¬ (j : Int) < (n : Int) := by omega
      have hF := Lib.hid HW.out.1
      clear HW
      go_wp2
      go_ret
      exact ⟨rfl, hF.out⟩
theorem get_nil (n y : Int) (w : World) : Calls Tryz.prog 32 #[.pointer none, .int .i64 n, .int .i64 y] w fun e w' => e = .returned (.tuple #[.int .u64 0, .bool false, .int .i64 6]) ∧ w = w' := by
  go_enter Tryz.func32, Tryz.ntmps32
  go_wp2_with fail
  refine (resopen_nil n w).mono ?_
  rintro e w1 ⟨rfl, rfl⟩
  go_wp2
  go_returns
  exact ⟨rfl, rfl⟩
theorem put_nil (n y : Int) (v : Nat) (w : World) : Calls Tryz.prog 29 #[.pointer none, .int .i64 n, .int .i64 y, .int .u64 (v : Nat)] w fun e w' => e = .returned (.int .i64 6) ∧ w = w' := by
  go_enter Tryz.func29, Tryz.ntmps29
  go_wp2_with fail
  refine (resopen_nil n w).mono ?_
  rintro e w1 ⟨rfl, rfl⟩
  go_wp2
  go_returns
  exact ⟨rfl, rfl⟩
theorem del_nil (n y : Int) (w : World) : Calls Tryz.prog 33 #[.pointer none, .int .i64 n, .int .i64 y] w fun e w' => e = .returned (.int .i64 6) ∧ w = w' := by
  go_enter Tryz.func33, Tryz.ntmps33
  go_wp2_with fail
  refine (resopen_nil n w).mono ?_
  rintro e w1 ⟨rfl, rfl⟩
  go_wp2
  go_returns
  exact ⟨rfl, rfl⟩
theorem push_nil (n : Int) (v : Nat) (w : World) : Calls Tryz.prog 30 #[.pointer none, .int .i64 n, .int .u64 (v : Nat)] w fun e w' => e = .returned (.int .i64 6) ∧ w = w' := by
  go_enter Tryz.func30, Tryz.ntmps30
  go_wp2_with fail
  refine (resopen_nil n w).mono ?_
  rintro e w1 ⟨rfl, rfl⟩
  go_wp2
  go_returns
  exact ⟨rfl, rfl⟩
theorem pop_nil (n : Int) (w : World) : Calls Tryz.prog 34 #[.pointer none, .int .i64 n] w fun e w' => e = .returned (.tuple #[.int .u64 0, .int .i64 6]) ∧ w = w' := by
  go_enter Tryz.func34, Tryz.ntmps34
  go_wp2_with fail
  refine (resopen_nil n w).mono ?_
  rintro e w1 ⟨rfl, rfl⟩
  go_wp2
  go_returns
  exact ⟨rfl, rfl⟩
theorem prep_nil (n : Int) (w : World) : Calls Tryz.prog 26 #[.pointer none, .int .i64 n] w fun e w' => e = .returned (.tuple #[.slice none 0 0, .int .i64 6]) ∧ w = w' := by
  go_enter Tryz.func26, Tryz.ntmps26
  go_wp2_with fail
  refine (resopen_nil n w).mono ?_
  rintro e w1 ⟨rfl, rfl⟩
  go_wp2
  go_returns
  exact ⟨rfl, rfl⟩
theorem commit_nil (n : Int) (w : World) : Calls Tryz.prog 27 #[.pointer none, .int .i64 n] w fun e w' => e = .returned (.int .i64 6) ∧ w = w' := by
  go_enter Tryz.func27, Tryz.ntmps27
  go_wp2_with fail
  refine (resnames_nil n w).mono ?_
  rintro e w1 ⟨rfl, rfl⟩
  go_wp2
  go_returns
  exact ⟨rfl, rfl⟩
theorem backout_nil (n : Int) (w : World) : Calls Tryz.prog 31 #[.pointer none, .int .i64 n] w fun e w' => e = .returned (.int .i64 6) ∧ w = w' := by
  go_enter Tryz.func31, Tryz.ntmps31
  go_wp2_with fail
  refine (resnames_nil n w).mono ?_
  rintro e w1 ⟨rfl, rfl⟩
  go_wp2
  go_returns
  exact ⟨rfl, rfl⟩
theorem restore_nil (n : Int) (A : Option Addr) (q c : Nat) (w : World) : Calls Tryz.prog 28 #[.pointer none, .int .i64 n, .slice A q c] w fun e w' => e = .returned (.int .i64 6) ∧ w = w' := by
  go_enter Tryz.func28, Tryz.ntmps28
  go_wp2_with fail
  refine (resnames_nil n w).mono ?_
  rintro e w1 ⟨rfl, rfl⟩
  go_wp2
  go_returns
  exact ⟨rfl, rfl⟩
set_option maxRecDepth 100000 in
set_option maxHeartbeats 1000000 in
theorem call_nil (k n y : Int) (v : Nat) (A : Option Addr) (q c : Nat) (w : World) (hk0 : 0 ≤ k) (hk8 : k ≤ 8) :
    Calls Tryz.prog 12 #[.pointer none, .agg #[.int .i64 k, .int .i64 n, .int .i64 y, .int .u64 (v : Nat), .slice A q c]] w fun e w' => e = .returned (.agg #[.int .u64 0, .bool false, .slice none 0 0, .int .i64 6]) ∧ Below w.heap.size w w' := by
  obtain ⟨w1, hw1⟩ : ∃ w1, w1 = w.alloc (.cells #[.int .i64 k, .int .i64 n, .int .i64 y, .int .u64 (v : Nat), .slice A q c] 42) := ⟨_, rfl⟩
  have b1 : Below w.heap.size w w1 := by rw [hw1]; exact ba _ _
  obtain ⟨g0, hg0⟩ : ∃ g0, g0 = w.heap.size := ⟨_, rfl⟩
  have k1 : Blk w1 g0 42 #[.int .i64 k, .int .i64 n, .int .i64 y, .int .u64 (v : Nat), .slice A q c] := by rw [hw1, hg0]; exact Blk.new _ _ _
  obtain ⟨w2, hw2⟩ : ∃ w2, w2 = w1.alloc (.cells #[.int .u64 0, .bool false, .slice none 0 0, .int .i64 0] 47) := ⟨_, rfl⟩
  have b2 : Below w1.heap.size w1 w2 := by rw [hw2]; exact ba _ _
  obtain ⟨w3, hw3⟩ : ∃ w3, w3 = w2.alloc (.cells #[.int .u64 0, .bool false, .slice none 0 0, .int .i64 0] 47) := ⟨_, rfl⟩
  have b3 : Below w2.heap.size w2 w3 := by rw [hw3]; exact ba _ _
  have k3 := (k1.below b2 k1.lt).below b3 (k1.below b2 k1.lt).lt
  have d0 := k3.cell 0
  have d1 := k3.cell 1
  have d2 := k3.cell 2
  have d3 := k3.cell 3
  have d4 := k3.cell 4
  simp only [List.getElem?_toArray, List.getElem?_cons_zero, List.getElem?_cons_succ] at d0 d1 d2 d3 d4
  have HB := Lib.hid b1
  rw [hw3, hw2, hw1, hg0] at d0 d1 d2 d3 d4
  clear k1 b2 b3 k3 hw3 hw2 hg0 b1
  have HB2 : Hid (∀ (cs cs' : Array Value), Below w.heap.size w ((w1.alloc (.cells cs 47)).alloc (.cells cs' 47))) := Lib.hid fun cs cs' => bt (bt HB.out (ba _ _)) (ba _ _)
  rw [hw1] at HB2
  have kr : Blk ((w1.alloc (.cells #[.int .u64 0, .bool false, .slice none 0 0, .int .i64 6] 47)).alloc (.cells #[.int .u64 0, .bool false, .slice none 0 0, .int .i64 6] 47)) w1.heap.size 47 #[.int .u64 0, .bool false, .slice none 0 0, .int .i64 6] := (Blk.new w1 _ _).below (ba _ _) (Blk.new w1 _ _).lt
  have r0 := kr.cell 0
  have r1 := kr.cell 1
  have r2 := kr.cell 2
  have r3 := kr.cell 3
  simp only [List.getElem?_toArray, List.getElem?_cons_zero, List.getElem?_cons_succ] at r0 r1 r2 r3
  rw [hw1] at r0 r1 r2 r3
  simp only [World.size_alloc] at r0 r1 r2 r3
  clear hw1 HB kr
  rcases e0 : (k == 0) with _ | _
  · skip
    rcases e1 : (k == 1) with _ | _
    · skip
      rcases e2 : (k == 2) with _ | _
      · skip
        rcases e3 : (k == 3) with _ | _
        · skip
          rcases e4 : (k == 4) with _ | _
          · skip
            rcases e5 : (k == 5) with _ | _
            · skip
              rcases e6 : (k == 6) with _ | _
              · skip
                rcases e7 : (k == 7) with _ | _
                · skip
                  rcases e8 : (k == 8) with _ | _
                  · skip
                    have n0 : k ≠ 0 := by simpa using e0
                    have n1 : k ≠ 1 := by simpa using e1
                    have n2 : k ≠ 2 := by simpa using e2
                    have n3 : k ≠ 3 := by simpa using e3
                    have n4 : k ≠ 4 := by simpa using e4
                    have n5 : k ≠ 5 := by simpa using e5
                    have n6 : k ≠ 6 := by simpa using e6
                    have n7 : k ≠ 7 := by simpa using e7
                    have n8 : k ≠ 8 := by simpa using e8
                    omega
                  · obtain rfl : k = 8 := by simpa using e8
                    go_enter Tryz.func12, Tryz.ntmps12
                    go_wp2_with fail
                    refine (restore_nil n A q c _).mono ?_
                    rintro e w4 ⟨rfl, rfl⟩
                    go_wp2
                    refine bodyPost_ret (by simp [results, Tryz.results12, go_sem, r0, r1, r2, r3]; try rfl) rfl ?_
                    exact ⟨rfl, HB2.out _ _⟩
                · obtain rfl : k = 7 := by simpa using e7
                  go_enter Tryz.func12, Tryz.ntmps12
                  go_wp2_with fail
                  refine (backout_nil n _).mono ?_
                  rintro e w4 ⟨rfl, rfl⟩
                  go_wp2
                  refine bodyPost_ret (by simp [results, Tryz.results12, go_sem, r0, r1, r2, r3]; try rfl) rfl ?_
                  exact ⟨rfl, HB2.out _ _⟩
              · obtain rfl : k = 6 := by simpa using e6
                go_enter Tryz.func12, Tryz.ntmps12
                go_wp2_with fail
                refine (commit_nil n _).mono ?_
                rintro e w4 ⟨rfl, rfl⟩
                go_wp2
                refine bodyPost_ret (by simp [results, Tryz.results12, go_sem, r0, r1, r2, r3]; try rfl) rfl ?_
                exact ⟨rfl, HB2.out _ _⟩
            · obtain rfl : k = 5 := by simpa using e5
              go_enter Tryz.func12, Tryz.ntmps12
              go_wp2_with fail
              refine (prep_nil n _).mono ?_
              rintro e w4 ⟨rfl, rfl⟩
              go_wp2
              refine bodyPost_ret (by simp [results, Tryz.results12, go_sem, r0, r1, r2, r3]; try rfl) rfl ?_
              exact ⟨rfl, HB2.out _ _⟩
          · obtain rfl : k = 4 := by simpa using e4
            go_enter Tryz.func12, Tryz.ntmps12
            go_wp2_with fail
            refine (pop_nil n _).mono ?_
            rintro e w4 ⟨rfl, rfl⟩
            go_wp2
            refine bodyPost_ret (by simp [results, Tryz.results12, go_sem, r0, r1, r2, r3]; try rfl) rfl ?_
            exact ⟨rfl, HB2.out _ _⟩
        · obtain rfl : k = 3 := by simpa using e3
          go_enter Tryz.func12, Tryz.ntmps12
          go_wp2_with fail
          refine (push_nil n v _).mono ?_
          rintro e w4 ⟨rfl, rfl⟩
          go_wp2
          refine bodyPost_ret (by simp [results, Tryz.results12, go_sem, r0, r1, r2, r3]; try rfl) rfl ?_
          exact ⟨rfl, HB2.out _ _⟩
      · obtain rfl : k = 2 := by simpa using e2
        go_enter Tryz.func12, Tryz.ntmps12
        go_wp2_with fail
        refine (del_nil n y _).mono ?_
        rintro e w4 ⟨rfl, rfl⟩
        go_wp2
        refine bodyPost_ret (by simp [results, Tryz.results12, go_sem, r0, r1, r2, r3]; try rfl) rfl ?_
        exact ⟨rfl, HB2.out _ _⟩
    · obtain rfl : k = 1 := by simpa using e1
      go_enter Tryz.func12, Tryz.ntmps12
      go_wp2_with fail
      refine (put_nil n y v _).mono ?_
      rintro e w4 ⟨rfl, rfl⟩
      go_wp2
      refine bodyPost_ret (by simp [results, Tryz.results12, go_sem, r0, r1, r2, r3]; try rfl) rfl ?_
      exact ⟨rfl, HB2.out _ _⟩
  · obtain rfl : k = 0 := by simpa using e0
    go_enter Tryz.func12, Tryz.ntmps12
    go_wp2_with fail
    refine (get_nil n y _).mono ?_
    rintro e w4 ⟨rfl, rfl⟩
    go_wp2
    refine bodyPost_ret (by simp [results, Tryz.results12, go_sem, r0, r1, r2, r3]; try rfl) rfl ?_
    exact ⟨rfl, HB2.out _ _⟩
end Go.Proofs.YtlliaihmfimdoaaGreat.Re

namespace Go.Proofs.YtlliaihmfimdoaaGreat.Re
open Go.RowKit Go.Maps Go.Deep Go.Proofs.YtlliaihmfimdoaaGreat
set_option linter.unusedVariables false
set_option linter.unusedSimpArgs false

theorem same_nil (w : World) : Calls Tryz.prog 11 #[.agg #[.int .u64 0, .bool false, .slice none 0 0, .int .i64 6], .agg #[.int .u64 0, .bool false, .slice none 0 0, .int .i64 6]] w fun e w' => e = .returned (.bool true) ∧ Below w.heap.size w w' := by
  obtain ⟨w2, hw2⟩ : ∃ w2, w2 = (w.alloc (.cells #[.int .u64 0, .bool false, .slice none 0 0, .int .i64 6] 47)).alloc (.cells #[.int .u64 0, .bool false, .slice none 0 0, .int .i64 6] 47) := ⟨_, rfl⟩
  have b2 : Below w.heap.size w w2 := by rw [hw2]; exact bt (ba _ _) (ba _ _)
  have ka : Blk w2 w.heap.size 47 #[.int .u64 0, .bool false, .slice none 0 0, .int .i64 6] := by rw [hw2]; exact (Blk.new w _ _).below (ba _ _) (Blk.new w _ _).lt
  have kb : Blk w2 (w.heap.size + 1) 47 #[.int .u64 0, .bool false, .slice none 0 0, .int .i64 6] := by
    have := Blk.new (w.alloc (.cells #[.int .u64 0, .bool false, .slice none 0 0, .int .i64 6] 47)) 47 #[.int .u64 0, .bool false, .slice none 0 0, .int .i64 6]
    rw [World.size_alloc] at this
    rw [hw2]; exact this
  have HS := Lib.hid (samech_any none none [] 0 0 0 w2 (Lib.hid rfl) (by omega) (B := anyB) (B' := anyB) (fun h => by simp at h) (fun h => by simp at h))
  have HK := Lib.hid (And.intro ka (And.intro kb b2))
  have HW := Lib.hid hw2
  clear ka kb b2 hw2
  go_enter Tryz.func11, Tryz.ntmps11
  go_wp2_with fail
  rw [← HW.out]
  refine HS.out.mono ?_
  rintro e w3 ⟨rfl, b3⟩
  obtain ⟨ka, kb, b2⟩ := HK.out
  have x3 := (ka.below b3 ka.lt).cell 3
  have y3 := (kb.below b3 kb.lt).cell 3
  simp only [List.getElem?_toArray, List.getElem?_cons_zero, List.getElem?_cons_succ] at x3 y3
  have HX := Lib.hid (bt b2 b3)
  clear ka kb b2 b3
  go_wp2
  go_ret
  exact ⟨rfl, HX.out⟩
theorem busy_nil (n : Int) (w : World) : Calls Tryz.prog 14 #[.pointer none, .int .i64 n] w fun e w' => e = .returned (.bool false) ∧ w = w' := by
  go_enter Tryz.func14, Tryz.ntmps14
  go_wp2
  go_ret
  exact ⟨rfl, rfl⟩
set_option maxRecDepth 100000 in
theorem image_nil (w : World) : Calls Tryz.prog 18 #[.pointer none] w fun e w' => e = .returned (.agg #[.slice none 0 0, .slice none 0 0, .int .i64 0]) ∧ Below w.heap.size w w' := by
  have k1 := Blk.new w 58 #[.slice none 0 0, .slice none 0 0, .int .i64 0]
  have r0 := k1.cell 0
  have r1 := k1.cell 1
  have r2 := k1.cell 2
  simp only [List.getElem?_toArray, List.getElem?_cons_zero, List.getElem?_cons_succ] at r0 r1 r2
  have HB := Lib.hid (ba w (.cells #[.slice none 0 0, .slice none 0 0, .int .i64 0] 58))
  clear k1
  go_enter Tryz.func18, Tryz.ntmps18
  go_wp2
  refine bodyPost_ret (by simp [results, Tryz.results18, go_sem, r0, r1, r2]; try rfl) rfl ?_
  exact ⟨rfl, HB.out⟩
set_option maxRecDepth 100000 in
set_option maxHeartbeats 1000000 in
theorem as_zero (w : World) : Calls Tryz.prog 17 #[.agg #[.slice none 0 0, .slice none 0 0, .int .i64 0]] w fun e w' => e = .returned (.agg #[.slice none 0 0, .slice none 0 0, .int .i64 0]) ∧ Below w.heap.size w w' := by
  have b3 : Below w.heap.size w (((w.alloc (.cells #[.slice none 0 0, .slice none 0 0, .int .i64 0] 58)).alloc (.cells #[.slice none 0 0, .slice none 0 0, .int .i64 0] 54)).alloc (.cells #[.slice none 0 0, .slice none 0 0, .int .i64 0] 54)) := bt (bt (ba _ _) (ba _ _)) (ba _ _)
  have ka : Blk (((w.alloc (.cells #[.slice none 0 0, .slice none 0 0, .int .i64 0] 58)).alloc (.cells #[.slice none 0 0, .slice none 0 0, .int .i64 0] 54)).alloc (.cells #[.slice none 0 0, .slice none 0 0, .int .i64 0] 54)) w.heap.size 58 #[.slice none 0 0, .slice none 0 0, .int .i64 0] := by
    have h1 := (Blk.new w 58 #[.slice none 0 0, .slice none 0 0, .int .i64 0])
    have h2 := h1.below (ba _ (.cells #[.slice none 0 0, .slice none 0 0, .int .i64 0] 54)) h1.lt
    exact h2.below (ba _ _) h2.lt
  have kb : Blk (((w.alloc (.cells #[.slice none 0 0, .slice none 0 0, .int .i64 0] 58)).alloc (.cells #[.slice none 0 0, .slice none 0 0, .int .i64 0] 54)).alloc (.cells #[.slice none 0 0, .slice none 0 0, .int .i64 0] 54)) (w.heap.size + 1) 54 #[.slice none 0 0, .slice none 0 0, .int .i64 0] := by
    have h1 := Blk.new (w.alloc (.cells #[.slice none 0 0, .slice none 0 0, .int .i64 0] 58)) 54 #[.slice none 0 0, .slice none 0 0, .int .i64 0]
    have h2 := h1.below (ba _ (.cells #[.slice none 0 0, .slice none 0 0, .int .i64 0] 54)) h1.lt
    rw [World.size_alloc] at h2
    exact h2
  have r0 := kb.cell 0
  have r1 := kb.cell 1
  have r2 := kb.cell 2
  have a0 := ka.cell 0
  simp only [List.getElem?_toArray, List.getElem?_cons_zero, List.getElem?_cons_succ] at r0 r1 r2 a0
  have HK := Lib.hid b3
  clear ka kb b3
  go_enter Tryz.func17, Tryz.ntmps17
  go_wp2_with fail
  go_loopw [4] (fun iv wr => iv = .int .i64 (0 : Nat) ∧ wr = ((w.alloc (.cells #[.slice none 0 0, .slice none 0 0, .int .i64 0] 58)).alloc (.cells #[.slice none 0 0, .slice none 0 0, .int .i64 0] 54)).alloc (.cells #[.slice none 0 0, .slice none 0 0, .int .i64 0] 54)) (fun _ _ => 0)
  case atStart => exact ⟨rfl, rfl⟩
  case round =>
    obtain ⟨rfl, rfl⟩ := hrel
    go_wp2
    refine bodyPost_ret (by simp [results, Tryz.results17, go_sem, r0, r1, r2]; try rfl) rfl ?_
    exact ⟨rfl, HK.out⟩
set_option maxRecDepth 100000 in
set_option maxHeartbeats 1000000 in
theorem refsame_zero (w : World) : Calls Tryz.prog 16 #[.agg #[.slice none 0 0, .slice none 0 0, .int .i64 0], .agg #[.slice none 0 0, .slice none 0 0, .int .i64 0]] w fun e w' => e = .returned (.bool true) ∧ Below w.heap.size w w' := by
  obtain ⟨w2, hw2⟩ : ∃ w2, w2 = (w.alloc (.cells #[.slice none 0 0, .slice none 0 0, .int .i64 0] 54)).alloc (.cells #[.slice none 0 0, .slice none 0 0, .int .i64 0] 54) := ⟨_, rfl⟩
  have b2 : Below w.heap.size w w2 := by rw [hw2]; exact bt (ba _ _) (ba _ _)
  have ka : Blk w2 w.heap.size 54 #[.slice none 0 0, .slice none 0 0, .int .i64 0] := by rw [hw2]; exact (Blk.new w _ _).below (ba _ _) (Blk.new w _ _).lt
  have kb : Blk w2 (w.heap.size + 1) 54 #[.slice none 0 0, .slice none 0 0, .int .i64 0] := by
    have := Blk.new (w.alloc (.cells #[.slice none 0 0, .slice none 0 0, .int .i64 0] 54)) 54 #[.slice none 0 0, .slice none 0 0, .int .i64 0]
    rw [World.size_alloc] at this
    rw [hw2]; exact this
  have HS := Qu.same_any none none [] [] 0 0 0 0 w2 (Lib.hid rfl) (Lib.hid rfl) (by omega) (fun h => by simp at h) (fun h => by simp at h)
  rw [show decide (([] : List Nat) = []) = true from rfl] at HS
  have HS := Lib.hid HS
  have HK := Lib.hid (And.intro ka (And.intro kb b2))
  have HW := Lib.hid hw2
  have x0 := ka.cell 0
  have x1 := ka.cell 1
  have y0 := kb.cell 0
  have y1 := kb.cell 1
  simp only [List.getElem?_toArray, List.getElem?_cons_zero, List.getElem?_cons_succ] at x0 x1 y0 y1
  rw [hw2] at x0 x1 y0 y1
  clear ka kb b2 hw2
  go_enter Tryz.func16, Tryz.ntmps16
  go_wp2_with fail
  rw [← HW.out]
  refine HS.out.mono ?_
  rintro e w3 ⟨rfl, b3⟩
  obtain ⟨ka, kb, b2⟩ := HK.out
  have ka3 := ka.below b3 ka.lt
  have kb3 := kb.below b3 kb.lt
  have u0 := ka3.cell 0
  have u2 := ka3.cell 2
  have v2 := kb3.cell 2
  simp only [List.getElem?_toArray, List.getElem?_cons_zero, List.getElem?_cons_succ] at u0 u2 v2
  have HX := Lib.hid (bt b2 b3)
  clear ka kb ka3 kb3 b2 b3 x0 x1 y0 y1
  go_wp2_with fail
  go_loopw [5] (fun iv wr => iv = .int .i64 (0 : Nat) ∧ w3 = wr) (fun _ _ => 0)
  case atStart => exact ⟨rfl, rfl⟩
  case round =>
    obtain ⟨rfl, rfl⟩ := hrel
    go_wp2
    go_ret
    exact ⟨rfl, HX.out⟩
end Go.Proofs.YtlliaihmfimdoaaGreat.Re

namespace Go.Proofs.YtlliaihmfimdoaaGreat
open Go.RowKit Go.Maps
set_option linter.unusedVariables false
set_option linter.unusedSimpArgs false

/-! ### one work's calls on a store that is its own -/
def rowO (n y : Int) : Option Bool → List LRow
  | none => []
  | some b => [(y, n, b)]
def lastS (n y : Int) (c : Option Ch) (p : Bool) (a : Option Bool) : KS := ⟨anyB, fun _ => (0, false), fun j => if j = n then c.map (fun x => ([x], p)) else none, rowO n y a⟩
theorem take_last (n y : Int) (a : Option Bool) (al : Bool) : takeL (rowO n y a) n y al = (0, rowO n y (some ((a.getD false) || al))) := by
  rcases a with _ | b
  · simp [takeL, clashL, rowO, heldL, putL, aloneL]
  · simp [takeL, clashL, rowO, heldL, putL, aloneL, atB]
theorem open_last {n y : Int} (hn : 1 ≤ n) (hy : keyB y = true) (c : Option Ch) (a : Option Bool) (al : Bool) : openM (lastS n y c false a) n y al = (0, lastS n y c false (some ((a.getD false) || al))) := by
  unfold openM
  rw [if_neg (by simp [hy]; omega), if_neg (by unfold curW lastS; rcases c with _ | x <;> simp)]
  have := take_last n y a al
  show ((takeL (rowO n y a) n y al).1, { lastS n y c false a with L := (takeL (rowO n y a) n y al).2 }) = _
  rw [this]; rfl
theorem cur_last (n y : Int) (c : Option Ch) (p : Bool) (a : Option Bool) : curW (lastS n y c p a) n = ((c.map (fun x => ([x], p))).getD ([], false)) := by unfold curW lastS; simp
theorem upd_last (n y : Int) (c : Option Ch) (p : Bool) (a : Option Bool) (x : Ch) (q : Bool) : updW (lastS n y c p a).W n (some ([x], q)) = (lastS n y (some x) q a).W := by
  funext j; unfold updW lastS; dsimp only; split <;> rfl
theorem change_last {n y : Int} (hn : 1 ≤ n) (hy : keyB y = true) (c : Option Ch) (hc : ∀ x, c = some x → x.y = y) (a : Option Bool) (x : Ch) (hx : x.y = y) : changeM (lastS n y c false a) n x = (0, lastS n y (some x) false (some true)) := by
  have ho := open_last hn hy c a true
  rw [← hx] at ho ⊢
  unfold changeM
  rw [ho]
  simp only [if_true, Bool.or_true]
  have hw : withL (curW (lastS n x.y c false a) n).1 x = [x] := by
    rw [cur_last]
    rcases c with _ | x0
    · rfl
    · have := hc x0 rfl
      simp [withL, posN, this, hx]
  rw [hw]
  congr 1
  show (⟨anyB, _, updW (lastS n x.y c false a).W n (some ([x], false)), _⟩ : KS) = _
  rw [upd_last]; rfl
theorem get_last {n y : Int} (hn : 1 ≤ n) (hy : keyB y = true) (c : Option Ch) (hc : ∀ x, c = some x → x.y = y) (a : Option Bool) : getM (lastS n y c false a) n y = (((c.map (·.v)).getD 0, (c.map (fun x => x.k == 1)).getD false, 0), lastS n y c false (some (a.getD false))) := by
  have ho := open_last hn hy c a false
  unfold getM
  rw [ho]
  simp only [if_true, Bool.or_false]
  rw [cur_last]
  rcases c with _ | x0
  · simp [posN, valM, lastS, hy]
  · have := hc x0 rfl
    simp [posN, this]
theorem prep_last {n y : Int} (hn : 1 ≤ n) (x : Ch) (a : Option Bool) : prepM (lastS n y (some x) false a) n = (([x], 0), lastS n y (some x) true a) := by
  unfold prepM
  rw [if_neg (by omega), cur_last, if_neg (by simp), if_neg (by simp [lastS])]
  congr 1
  show (⟨anyB, _, updW (lastS n y (some x) false a).W n (some ([x], true)), _⟩ : KS) = _
  rw [upd_last]; rfl
theorem prep_last0 {n y : Int} (hn : 1 ≤ n) (a : Option Bool) : (prepM (lastS n y none false a) n).1 = ([], 0) ∧ (prepM (lastS n y none false a) n).2.V = fun _ => (0, false) := by
  unfold prepM
  rw [if_neg (by omega), cur_last, if_neg (by simp), if_pos (by simp [lastS])]
  exact ⟨rfl, rfl⟩
theorem commit_val {S : KS} {n : Int} (hn : 1 ≤ n) : (commitM S n).2.V = (curW S n).1.foldl setV S.V := by
  unfold commitM; rw [if_neg (by omega)]; rfl
theorem bad_open {S : KS} {n y : Int} (h : n < 1 ∨ keyB y = false) (al : Bool) : openM S n y al = (1, S) := if_pos h
theorem bad_change {S : KS} {n : Int} {x : Ch} (h : n < 1 ∨ keyB x.y = false) : changeM S n x = (1, S) := by
  unfold changeM; rw [bad_open h]; rfl
theorem bad_get {S : KS} {n y : Int} (h : n < 1 ∨ keyB y = false) : getM S n y = ((0, false, 1), S) := by
  unfold getM; rw [bad_open h]; rfl

/-! ### two works at one key -/
theorem openM_refused {S : KS} {n y : Int} {al : Bool} (h : (openM S n y al).1 ≠ 0) : (openM S n y al).2 = S := by
  unfold openM at h ⊢
  split
  · rfl
  · split
    · rfl
    · rename_i h1 h2
      rw [if_neg h1, if_neg h2] at h
      have := take_not (L := S.L) (L' := (takeL S.L n y al).2) (o := n) (k := y) (a := al) (r := (takeL S.L n y al).1) rfl h
      show ({ S with L := (takeL S.L n y al).2 } : KS) = S
      rw [this.1]
theorem changeM_refused {S : KS} {n : Int} {x : Ch} (h : (openM S n x.y true).1 ≠ 0) : changeM S n x = ((openM S n x.y true).1, S) := by
  unfold changeM; rw [if_neg h]
  have := openM_refused h
  exact Prod.ext rfl this
theorem getM_refused {S : KS} {n y : Int} (h : (openM S n y false).1 ≠ 0) : getM S n y = ((0, false, (openM S n y false).1), S) := by
  unfold getM; rw [if_neg h, openM_refused h]
theorem openM_clash {S : KS} {n y : Int} {al : Bool} {x : LRow} (hx : x ∈ S.L) (h1 : x.1 = y) (h2 : x.2.1 ≠ n) (h3 : x.2.2 = true) : (openM S n y al).1 ≠ 0 := by
  unfold openM
  split
  · simp
  · split
    · simp
    · have hc : clashL S.L n y al = false ∨ True := .inr trivial
      have hcl : clashL S.L y n al = true := clash_yes hx h1 h2 h3
      unfold takeL
      rw [if_pos hcl]
      simp
theorem withL_pos (l : List Ch) (x : Ch) : (withL l x)[posN (withL l x) x.y]? = some x := by
  unfold withL
  split
  · rename_i hlt
    have e : posN (l.set (posN l x.y) x) x.y = posN l x.y := by
      have hl2 : posN l x.y < (l.set (posN l x.y) x).length := by rw [List.length_set]; exact hlt
      show List.findIdx _ _ = _
      rw [List.findIdx_eq hl2]
      refine ⟨by simp, fun j hj => ?_⟩
      have hne : posN l x.y ≠ j := by omega
      rw [List.getElem_set_ne hne]
      have := List.not_of_lt_findIdx (show j < List.findIdx (fun z => decide (z.y = x.y)) l from hj)
      simpa using this
    rw [e, List.getElem?_set_self hlt]
  · rename_i hge
    have e : posN (l ++ [x]) x.y = l.length := by
      have hle := posN_le l x.y
      have heq : List.findIdx (fun z : Ch => decide (z.y = x.y)) l = l.length := by unfold posN at hle hge; omega
      unfold posN
      rw [List.findIdx_append, heq]
      simp
    rw [e]; simp
theorem alone_facts {S S1 : KS} {n y : Int} {v : Nat} (h : changeM S n ⟨1, y, v⟩ = (0, S1)) : (y, n, true) ∈ S1.L ∧ (∃ S2, getM S1 n y = ((v, true, 0), S2)) ∧ S1.B = S.B := by
  have hB := changeM_B S n ⟨1, y, v⟩
  rw [h] at hB
  unfold changeM at h
  split at h
  · rename_i h0
    injection h with _ h2
    have hok := openM_ok h0
    have hL : S1.L = putL S.L y n true ∧ clashL S.L y n true = false := by
      rw [← h2]
      show (openM S n y true).2.L = _ ∧ _
      unfold openM at h0 ⊢
      have e1 : ¬ (n < 1 ∨ keyB y = false) := by
        rintro (h | h)
        · have := hok.2.1; omega
        · have := hok.2.2; rw [h] at this; cases this
      have e2 : ¬ ((curW S n).2 = true) := by rw [hok.1]; simp
      rw [if_neg e1, if_neg e2] at h0 ⊢
      have := take_ok (L := S.L) (L' := (takeL S.L n y true).2) (o := n) (k := y) (a := true) (r := (takeL S.L n y true).1) rfl h0
      refine ⟨?_, this.1⟩
      show (takeL S.L n y true).2 = _
      rw [this.2, Bool.or_true]
    have hW : S1.W = updW S.W n (some (withL (curW S n).1 ⟨1, y, v⟩, false)) := by rw [← h2]
    refine ⟨by rw [hL.1]; exact put_new _ _ _ _, ?_, hB⟩
    have hcur : curW S1 n = (withL (curW S n).1 ⟨1, y, v⟩, false) := by show (S1.W n).getD _ = _; rw [hW]; simp [updW]
    have hcl : clashL S1.L y n false = false := by
      unfold clashL
      rw [List.any_eq_false]
      intro x hx hc
      rw [hL.1] at hx
      rcases put_mem hx with rfl | ⟨hx, hne⟩
      · simp at hc
      · simp only [Bool.and_eq_true, decide_eq_true_eq, Bool.not_eq_true', decide_eq_false_iff_not] at hc
        have := clash_no hL.2 hx hc.1.1 hc.1.2
        simp at this
    have hheld : heldL S1.L y n = true := by rw [hL.1]; exact held_iff.2 ⟨_, put_new _ _ _ _, rfl, rfl⟩
    have ho : (openM S1 n y false).1 = 0 := by
      unfold openM
      rw [if_neg (by rintro (h | h); have := hok.2.1; omega; have := hok.2.2; rw [h] at this; cases this), if_neg (by rw [hcur]; simp)]
      show (takeL S1.L n y false).1 = 0
      unfold takeL
      rw [hcl, if_neg (by simp), if_neg (by simp [hheld])]
    refine ⟨(getM S1 n y).2, ?_⟩
    obtain ⟨hp1, hp2⟩ := List.getElem?_eq_some_iff.1 (withL_pos (curW S n).1 ⟨1, y, v⟩)
    dsimp only at hp1 hp2
    have hg : getM S1 n y = ((v, true, 0), (openM S1 n y false).2) := by
      unfold getM
      rw [if_pos ho]
      rw [dif_pos (by rw [hcur]; exact hp1)]
      simp only [hcur, hp2]
      rfl
    rw [hg]
  · rename_i h0
    rw [h] at h0
    exact absurd rfl h0

/-! ### what is kept -/
theorem openM_V (S : KS) (n y : Int) (al : Bool) : (openM S n y al).2.V = S.V := (openM_W S n y al).2
theorem callM_V (S : KS) (o : OpV) (h1 : 0 ≤ o.k) (h2 : o.k ≤ 3) : (callM S o).2.V = S.V := by
  unfold callM
  by_cases k0 : o.k = 0
  · rw [if_pos k0]
    show (getM S o.n o.y).2.V = S.V
    unfold getM
    split
    · split <;> exact openM_V _ _ _ _
    · exact openM_V _ _ _ _
  · rw [if_neg k0]
    have hch : ∀ x : Ch, (changeM S o.n x).2.V = S.V := fun x => by
      unfold changeM; split <;> exact openM_V S o.n x.y true
    by_cases k1 : o.k = 1
    · rw [if_pos k1]; exact hch _
    · rw [if_neg k1]
      by_cases k2 : o.k = 2
      · rw [if_pos k2]; exact hch _
      · rw [if_neg k2, if_pos (by omega)]
        show (prepM S o.n).2.V = S.V
        unfold prepM
        split
        · rfl
        · split
          · rfl
          · split <;> rfl
theorem not_hasL_drop (L : List LRow) (n : Int) : hasL (dropL L n) n = false := by
  unfold hasL dropL
  rw [List.any_eq_false]
  intro x hx
  have := (List.mem_filter.1 hx).2
  simpa using this
theorem busy_drop (S : KS) (n : Int) : busyB (dropM S n) n = false := by
  unfold busyB dropM updW
  simp [not_hasL_drop]
end Go.Proofs.YtlliaihmfimdoaaGreat

namespace Go.Proofs.YtlliaihmfimdoaaGreat
open Go.RowKit Go.Maps
set_option linter.unusedVariables false
set_option linter.unusedSimpArgs false

/-- Numbers of 64 bits that came in. -/
def U64At (w : World) (A : Option Addr) (zs : List Nat) : Prop := zs.length ≤ maxLen ∧ (0 < zs.length → ∃ b o, A = some ⟨b, o, none⟩ ∧ b < w.heap.size ∧ ∀ i, (h : i < zs.length) → w.cell? ⟨b, o + i, none⟩ = some (.int .u64 ((zs[i]'h : Nat) : Int)))
def wantV (c : Option Ch) : Nat := (c.map (·.v)).getD 0
def wantT (c : Option Ch) : Bool := (c.map (fun x => x.k == 1)).getD false
theorem get_last2 {n y : Int} (hn : 1 ≤ n) (hy : keyB y = true) (c : Option Ch) (hc : ∀ x, c = some x → x.y = y) (a : Option Bool) : getM (lastS n y c false a) n y = ((wantV c, wantT c, 0), lastS n y c false (some (a.getD false))) := get_last hn hy c hc a
theorem last_tail {n y : Int} (hn : 1 ≤ n) (hy : keyB y = true) (c : Option Ch) (hc : ∀ x, c = some x → x.y = y) (a : Option Bool) : ∃ l S', prepM (lastS n y c false a) n = ((l, 0), S') ∧ l.length ≤ 1 ∧ S'.B = anyB ∧ valM (commitM S' n).2 y = (wantV c, wantT c) := by
  rcases c with _ | x
  · have h1 := (prep_last0 (y := y) hn a).1
    refine ⟨[], (prepM (lastS n y none false a) n).2, ?_, by simp, ?_, ?_⟩
    · rw [← h1]
    · unfold prepM; rw [if_neg (by omega), cur_last, if_neg (by simp), if_pos (by simp [lastS])]; rfl
    · unfold valM
      rw [if_pos hy, commit_val hn, (prep_last0 (y := y) hn a).2]
      have : (curW (prepM (lastS n y none false a) n).2 n).1 = [] := by
        unfold prepM; rw [if_neg (by omega), cur_last, if_neg (by simp), if_pos (by simp [lastS])]
        simp [curW, lastS]
      rw [this]; rfl
  · have hx := hc x rfl
    refine ⟨[x], _, prep_last hn x a, by simp, rfl, ?_⟩
    unfold valM
    rw [if_pos hy, commit_val hn, cur_last]
    show setV (fun _ => (0, false)) x y.toNat = _
    unfold setV
    rw [if_pos (by rw [hx])]
    rfl
theorem bad_key {n y : Int} (h : n < 1 ∨ keyB y = false) : n < 1 ∨ y < 0 ∨ 16 ≤ y := by
  rcases h with h | h
  · exact .inl h
  · unfold keyB at h; simp at h; omega
end Go.Proofs.YtlliaihmfimdoaaGreat
