/- Parts Se Sf St Su of one proof. -/
import Derived.Test.YtlliaihmfimdoaaGreatMg24
import Derived.Test.YtlliaihmfimdoaaGreatMg33
namespace Go.Proofs.YtlliaihmfimdoaaGreat.Re
open Go.RowKit Go.Maps Go.Deep Go.Proofs.YtlliaihmfimdoaaGreat
set_option linter.unusedVariables false
set_option linter.unusedSimpArgs false

set_option maxRecDepth 100000 in
set_option maxHeartbeats 1000000 in
theorem samech_any (A A' : Option Addr) (l : List Ch) (n c c' : Nat) (w : World) (hn : Hid (n = l.length)) (hm : n ≤ 1000000) {B B' : Nat → Prop} (h : ChAt w B A l) (h' : ChAt w B' A' l) :
    Calls Tryz.prog 24 #[.slice A n c, .slice A' n c'] w fun e w' => e = .returned (.bool true) ∧ Below w.heap.size w w' := by
  have HI : Hid (Below w.heap.size w w ∧ ChAt w B A l ∧ ChAt w B' A' l) := Lib.hid ⟨Below.refl _ _, h, h'⟩
  clear h h'
  have hnn : ((n : Int) != (n : Int)) = false := by simp
  go_enter Tryz.func24, Tryz.ntmps24
  go_wp2_with fail
  go_loopw [5] (fun i wr => ∃ (i0 : Nat), i0 ≤ n ∧ i = .int .i64 i0 ∧ Hid (Below w.heap.size w wr ∧ ChAt wr B A l ∧ ChAt wr B' A' l)) (fun i _ => n - (intOf i).toNat)
  case atStart => exact ⟨0, Nat.zero_le _, rfl, HI⟩
  case round =>
    clear HI
    obtain ⟨j, hj, rfl, HW⟩ := hrel
    by_cases hjn : j < n
    · have hjI : (j : Int) < (n : Int) := by omega
      obtain ⟨hb, hc, hc'⟩ := HW.out
      have hjl : j < l.length := by rw [← hn.out]; exact hjn
      obtain ⟨b, o, rfl, hbk, hcs⟩ := hc (by omega)
      obtain ⟨b', o', rfl, hbk', hcs'⟩ := hc' (by omega)
      obtain ⟨q0, q1, q2⟩ := hcs j hjl
      obtain ⟨p0, p1, p2⟩ := hcs' j hjl
      generalize l[j]'hjl = x at q0 q1 q2 p0 p1 p2
      obtain ⟨xk, xy, xv⟩ := x
      dsimp only at q0 q1 q2 p0 p1 p2
      have e0 := fun m : Nat => Qu.cell_drew' q0 m
      have e1 := fun m : Nat => Qu.cell_drew' q1 m
      have e2 := fun m : Nat => Qu.cell_drew' q2 m
      have d0 := fun m : Nat => Qu.cell_drew' p0 m
      have d1 := fun m : Nat => Qu.cell_drew' p1 m
      have d2 := fun m : Nat => Qu.cell_drew' p2 m
      have hdr : ∀ m : Nat, Below wr.heap.size wr (wr.drewN m) := fun m => ⟨rfl, rfl, rfl, Nat.le_refl _, fun _ _ => rfl⟩
      have HX : Hid (∀ m : Nat, Below w.heap.size w (wr.drewN m) ∧ ChAt (wr.drewN m) B (some ⟨b, o, none⟩) l ∧ ChAt (wr.drewN m) B' (some ⟨b', o', none⟩) l) := Lib.hid fun m => ⟨bt hb (hdr m), hc.below (hdr m), hc'.below (hdr m)⟩
      clear hb hc hc' hbk hbk' hcs hcs' hjl q0 q1 q2 p0 p1 p2 HW hdr
      go_wp2_with fail
      go_quiet (fail)
      have HX2 := Lib.hid (HX.out nq)
      clear e0 e1 e2 d0 d1 d2 HX
      go_wp2
      go_roundw
      case rel => exact ⟨j + 1, by omega, by go_num, HX2⟩
      case measure => simp [intOf]; omega
    · have hjI : ¬ (j : Int) < (n : Int) := by omega
      have hF := Lib.hid HW.out.1
      clear HW
      go_wp2
      go_ret
      exact ⟨rfl, hF.out⟩
theorem get_nil (n y : Int) (w : World) : Calls Tryz.prog 32 #[.pointer none, .int .i64 n, .int .i64 y] w fun e w' => e = .returned (.tuple #[.int .u64 0, .bool false, .int .i64 6]) ∧ w = w' := by
  go_enter Tryz.func32, Tryz.ntmps32
  go_wp2_with fail
  refine (resopen_nil n w).mono ?_
  rintro e w1 ⟨rfl, rfl⟩
  go_wp2
  go_returns
  exact ⟨rfl, rfl⟩
theorem put_nil (n y : Int) (v : Nat) (w : World) : Calls Tryz.prog 29 #[.pointer none, .int .i64 n, .int .i64 y, .int .u64 (v : Nat)] w fun e w' => e = .returned (.int .i64 6) ∧ w = w' := by
  go_enter Tryz.func29, Tryz.ntmps29
  go_wp2_with fail
  refine (resopen_nil n w).mono ?_
  rintro e w1 ⟨rfl, rfl⟩
  go_wp2
  go_returns
  exact ⟨rfl, rfl⟩
theorem del_nil (n y : Int) (w : World) : Calls Tryz.prog 33 #[.pointer none, .int .i64 n, .int .i64 y] w fun e w' => e = .returned (.int .i64 6) ∧ w = w' := by
  go_enter Tryz.func33, Tryz.ntmps33
  go_wp2_with fail
  refine (resopen_nil n w).mono ?_
  rintro e w1 ⟨rfl, rfl⟩
  go_wp2
  go_returns
  exact ⟨rfl, rfl⟩
theorem push_nil (n : Int) (v : Nat) (w : World) : Calls Tryz.prog 30 #[.pointer none, .int .i64 n, .int .u64 (v : Nat)] w fun e w' => e = .returned (.int .i64 6) ∧ w = w' := by
  go_enter Tryz.func30, Tryz.ntmps30
  go_wp2_with fail
  refine (resopen_nil n w).mono ?_
  rintro e w1 ⟨rfl, rfl⟩
  go_wp2
  go_returns
  exact ⟨rfl, rfl⟩
theorem pop_nil (n : Int) (w : World) : Calls Tryz.prog 34 #[.pointer none, .int .i64 n] w fun e w' => e = .returned (.tuple #[.int .u64 0, .int .i64 6]) ∧ w = w' := by
  go_enter Tryz.func34, Tryz.ntmps34
  go_wp2_with fail
  refine (resopen_nil n w).mono ?_
  rintro e w1 ⟨rfl, rfl⟩
  go_wp2
  go_returns
  exact ⟨rfl, rfl⟩
theorem prep_nil (n : Int) (w : World) : Calls Tryz.prog 26 #[.pointer none, .int .i64 n] w fun e w' => e = .returned (.tuple #[.slice none 0 0, .int .i64 6]) ∧ w = w' := by
  go_enter Tryz.func26, Tryz.ntmps26
  go_wp2_with fail
  refine (resopen_nil n w).mono ?_
  rintro e w1 ⟨rfl, rfl⟩
  go_wp2
  go_returns
  exact ⟨rfl, rfl⟩
theorem commit_nil (n : Int) (w : World) : Calls Tryz.prog 27 #[.pointer none, .int .i64 n] w fun e w' => e = .returned (.int .i64 6) ∧ w = w' := by
  go_enter Tryz.func27, Tryz.ntmps27
  go_wp2_with fail
  refine (resnames_nil n w).mono ?_
  rintro e w1 ⟨rfl, rfl⟩
  go_wp2
  go_returns
  exact ⟨rfl, rfl⟩
theorem backout_nil (n : Int) (w : World) : Calls Tryz.prog 31 #[.pointer none, .int .i64 n] w fun e w' => e = .returned (.int .i64 6) ∧ w = w' := by
  go_enter Tryz.func31, Tryz.ntmps31
  go_wp2_with fail
  refine (resnames_nil n w).mono ?_
  rintro e w1 ⟨rfl, rfl⟩
  go_wp2
  go_returns
  exact ⟨rfl, rfl⟩
theorem restore_nil (n : Int) (A : Option Addr) (q c : Nat) (w : World) : Calls Tryz.prog 28 #[.pointer none, .int .i64 n, .slice A q c] w fun e w' => e = .returned (.int .i64 6) ∧ w = w' := by
  go_enter Tryz.func28, Tryz.ntmps28
  go_wp2_with fail
  refine (resnames_nil n w).mono ?_
  rintro e w1 ⟨rfl, rfl⟩
  go_wp2
  go_returns
  exact ⟨rfl, rfl⟩
set_option maxRecDepth 100000 in
set_option maxHeartbeats 1000000 in
theorem call_nil (k n y : Int) (v : Nat) (A : Option Addr) (q c : Nat) (w : World) (hk0 : 0 ≤ k) (hk8 : k ≤ 8) :
    Calls Tryz.prog 12 #[.pointer none, .agg #[.int .i64 k, .int .i64 n, .int .i64 y, .int .u64 (v : Nat), .slice A q c]] w fun e w' => e = .returned (.agg #[.int .u64 0, .bool false, .slice none 0 0, .int .i64 6]) ∧ Below w.heap.size w w' := by
  obtain ⟨w1, hw1⟩ : ∃ w1, w1 = w.alloc (.cells #[.int .i64 k, .int .i64 n, .int .i64 y, .int .u64 (v : Nat), .slice A q c] 42) := ⟨_, rfl⟩
  have b1 : Below w.heap.size w w1 := by rw [hw1]; exact ba _ _
  obtain ⟨g0, hg0⟩ : ∃ g0, g0 = w.heap.size := ⟨_, rfl⟩
  have k1 : Blk w1 g0 42 #[.int .i64 k, .int .i64 n, .int .i64 y, .int .u64 (v : Nat), .slice A q c] := by rw [hw1, hg0]; exact Blk.new _ _ _
  obtain ⟨w2, hw2⟩ : ∃ w2, w2 = w1.alloc (.cells #[.int .u64 0, .bool false, .slice none 0 0, .int .i64 0] 47) := ⟨_, rfl⟩
  have b2 : Below w1.heap.size w1 w2 := by rw [hw2]; exact ba _ _
  obtain ⟨w3, hw3⟩ : ∃ w3, w3 = w2.alloc (.cells #[.int .u64 0, .bool false, .slice none 0 0, .int .i64 0] 47) := ⟨_, rfl⟩
  have b3 : Below w2.heap.size w2 w3 := by rw [hw3]; exact ba _ _
  have k3 := (k1.below b2 k1.lt).below b3 (k1.below b2 k1.lt).lt
  have d0 := k3.cell 0
  have d1 := k3.cell 1
  have d2 := k3.cell 2
  have d3 := k3.cell 3
  have d4 := k3.cell 4
  simp only [List.getElem?_toArray, List.getElem?_cons_zero, List.getElem?_cons_succ] at d0 d1 d2 d3 d4
  have HB := Lib.hid b1
  rw [hw3, hw2, hw1, hg0] at d0 d1 d2 d3 d4
  clear k1 b2 b3 k3 hw3 hw2 hg0 b1
  have HB2 : Hid (∀ (cs cs' : Array Value), Below w.heap.size w ((w1.alloc (.cells cs 47)).alloc (.cells cs' 47))) := Lib.hid fun cs cs' => bt (bt HB.out (ba _ _)) (ba _ _)
  rw [hw1] at HB2
  have kr : Blk ((w1.alloc (.cells #[.int .u64 0, .bool false, .slice none 0 0, .int .i64 6] 47)).alloc (.cells #[.int .u64 0, .bool false, .slice none 0 0, .int .i64 6] 47)) w1.heap.size 47 #[.int .u64 0, .bool false, .slice none 0 0, .int .i64 6] := (Blk.new w1 _ _).below (ba _ _) (Blk.new w1 _ _).lt
  have r0 := kr.cell 0
  have r1 := kr.cell 1
  have r2 := kr.cell 2
  have r3 := kr.cell 3
  simp only [List.getElem?_toArray, List.getElem?_cons_zero, List.getElem?_cons_succ] at r0 r1 r2 r3
  rw [hw1] at r0 r1 r2 r3
  simp only [World.size_alloc] at r0 r1 r2 r3
  clear hw1 HB kr
  rcases e0 : (k == 0) with _ | _
  · skip
    rcases e1 : (k == 1) with _ | _
    · skip
      rcases e2 : (k == 2) with _ | _
      · skip
        rcases e3 : (k == 3) with _ | _
        · skip
          rcases e4 : (k == 4) with _ | _
          · skip
            rcases e5 : (k == 5) with _ | _
            · skip
              rcases e6 : (k == 6) with _ | _
              · skip
                rcases e7 : (k == 7) with _ | _
                · skip
                  rcases e8 : (k == 8) with _ | _
                  · skip
                    have n0 : k ≠ 0 := by simpa using e0
                    have n1 : k ≠ 1 := by simpa using e1
                    have n2 : k ≠ 2 := by simpa using e2
                    have n3 : k ≠ 3 := by simpa using e3
                    have n4 : k ≠ 4 := by simpa using e4
                    have n5 : k ≠ 5 := by simpa using e5
                    have n6 : k ≠ 6 := by simpa using e6
                    have n7 : k ≠ 7 := by simpa using e7
                    have n8 : k ≠ 8 := by simpa using e8
                    omega
                  · obtain rfl : k = 8 := by simpa using e8
                    go_enter Tryz.func12, Tryz.ntmps12
                    go_wp2_with fail
                    refine (restore_nil n A q c _).mono ?_
                    rintro e w4 ⟨rfl, rfl⟩
                    go_wp2
                    refine bodyPost_ret (by simp [results, Tryz.results12, go_sem, r0, r1, r2, r3]; try rfl) rfl ?_
                    exact ⟨rfl, HB2.out _ _⟩
                · obtain rfl : k = 7 := by simpa using e7
                  go_enter Tryz.func12, Tryz.ntmps12
                  go_wp2_with fail
                  refine (backout_nil n _).mono ?_
                  rintro e w4 ⟨rfl, rfl⟩
                  go_wp2
                  refine bodyPost_ret (by simp [results, Tryz.results12, go_sem, r0, r1, r2, r3]; try rfl) rfl ?_
                  exact ⟨rfl, HB2.out _ _⟩
              · obtain rfl : k = 6 := by simpa using e6
                go_enter Tryz.func12, Tryz.ntmps12
                go_wp2_with fail
                refine (commit_nil n _).mono ?_
                rintro e w4 ⟨rfl, rfl⟩
                go_wp2
                refine bodyPost_ret (by simp [results, Tryz.results12, go_sem, r0, r1, r2, r3]; try rfl) rfl ?_
                exact ⟨rfl, HB2.out _ _⟩
            · obtain rfl : k = 5 := by simpa using e5
              go_enter Tryz.func12, Tryz.ntmps12
              go_wp2_with fail
              refine (prep_nil n _).mono ?_
              rintro e w4 ⟨rfl, rfl⟩
              go_wp2
              refine bodyPost_ret (by simp [results, Tryz.results12, go_sem, r0, r1, r2, r3]; try rfl) rfl ?_
              exact ⟨rfl, HB2.out _ _⟩
          · obtain rfl : k = 4 := by simpa using e4
            go_enter Tryz.func12, Tryz.ntmps12
            go_wp2_with fail
            refine (pop_nil n _).mono ?_
            rintro e w4 ⟨rfl, rfl⟩
            go_wp2
            refine bodyPost_ret (by simp [results, Tryz.results12, go_sem, r0, r1, r2, r3]; try rfl) rfl ?_
            exact ⟨rfl, HB2.out _ _⟩
        · obtain rfl : k = 3 := by simpa using e3
          go_enter Tryz.func12, Tryz.ntmps12
          go_wp2_with fail
          refine (push_nil n v _).mono ?_
          rintro e w4 ⟨rfl, rfl⟩
          go_wp2
          refine bodyPost_ret (by simp [results, Tryz.results12, go_sem, r0, r1, r2, r3]; try rfl) rfl ?_
          exact ⟨rfl, HB2.out _ _⟩
      · obtain rfl : k = 2 := by simpa using e2
        go_enter Tryz.func12, Tryz.ntmps12
        go_wp2_with fail
        refine (del_nil n y _).mono ?_
        rintro e w4 ⟨rfl, rfl⟩
        go_wp2
        refine bodyPost_ret (by simp [results, Tryz.results12, go_sem, r0, r1, r2, r3]; try rfl) rfl ?_
        exact ⟨rfl, HB2.out _ _⟩
    · obtain rfl : k = 1 := by simpa using e1
      go_enter Tryz.func12, Tryz.ntmps12
      go_wp2_with fail
      refine (put_nil n y v _).mono ?_
      rintro e w4 ⟨rfl, rfl⟩
      go_wp2
      refine bodyPost_ret (by simp [results, Tryz.results12, go_sem, r0, r1, r2, r3]; try rfl) rfl ?_
      exact ⟨rfl, HB2.out _ _⟩
  · obtain rfl : k = 0 := by simpa using e0
    go_enter Tryz.func12, Tryz.ntmps12
    go_wp2_with fail
    refine (get_nil n y _).mono ?_
    rintro e w4 ⟨rfl, rfl⟩
    go_wp2
    refine bodyPost_ret (by simp [results, Tryz.results12, go_sem, r0, r1, r2, r3]; try rfl) rfl ?_
    exact ⟨rfl, HB2.out _ _⟩
end Go.Proofs.YtlliaihmfimdoaaGreat.Re

namespace Go.Proofs.YtlliaihmfimdoaaGreat.Re
open Go.RowKit Go.Maps Go.Deep Go.Proofs.YtlliaihmfimdoaaGreat
set_option linter.unusedVariables false
set_option linter.unusedSimpArgs false

theorem same_nil (w : World) : Calls Tryz.prog 11 #[.agg #[.int .u64 0, .bool false, .slice none 0 0, .int .i64 6], .agg #[.int .u64 0, .bool false, .slice none 0 0, .int .i64 6]] w fun e w' => e = .returned (.bool true) ∧ Below w.heap.size w w' := by
  obtain ⟨w2, hw2⟩ : ∃ w2, w2 = (w.alloc (.cells #[.int .u64 0, .bool false, .slice none 0 0, .int .i64 6] 47)).alloc (.cells #[.int .u64 0, .bool false, .slice none 0 0, .int .i64 6] 47) := ⟨_, rfl⟩
  have b2 : Below w.heap.size w w2 := by rw [hw2]; exact bt (ba _ _) (ba _ _)
  have ka : Blk w2 w.heap.size 47 #[.int .u64 0, .bool false, .slice none 0 0, .int .i64 6] := by rw [hw2]; exact (Blk.new w _ _).below (ba _ _) (Blk.new w _ _).lt
  have kb : Blk w2 (w.heap.size + 1) 47 #[.int .u64 0, .bool false, .slice none 0 0, .int .i64 6] := by
    have := Blk.new (w.alloc (.cells #[.int .u64 0, .bool false, .slice none 0 0, .int .i64 6] 47)) 47 #[.int .u64 0, .bool false, .slice none 0 0, .int .i64 6]
    rw [World.size_alloc] at this
    rw [hw2]; exact this
  have HS := Lib.hid (samech_any none none [] 0 0 0 w2 (Lib.hid rfl) (by omega) (B := anyB) (B' := anyB) (fun h => by simp at h) (fun h => by simp at h))
  have HK := Lib.hid (And.intro ka (And.intro kb b2))
  have HW := Lib.hid hw2
  clear ka kb b2 hw2
  go_enter Tryz.func11, Tryz.ntmps11
  go_wp2_with fail
  rw [← HW.out]
  refine HS.out.mono ?_
  rintro e w3 ⟨rfl, b3⟩
  obtain ⟨ka, kb, b2⟩ := HK.out
  have x3 := (ka.below b3 ka.lt).cell 3
  have y3 := (kb.below b3 kb.lt).cell 3
  simp only [List.getElem?_toArray, List.getElem?_cons_zero, List.getElem?_cons_succ] at x3 y3
  have HX := Lib.hid (bt b2 b3)
  clear ka kb b2 b3
  go_wp2
  go_ret
  exact ⟨rfl, HX.out⟩
theorem busy_nil (n : Int) (w : World) : Calls Tryz.prog 14 #[.pointer none, .int .i64 n] w fun e w' => e = .returned (.bool false) ∧ w = w' := by
  go_enter Tryz.func14, Tryz.ntmps14
  go_wp2
  go_ret
  exact ⟨rfl, rfl⟩
set_option maxRecDepth 100000 in
theorem image_nil (w : World) : Calls Tryz.prog 18 #[.pointer none] w fun e w' => e = .returned (.agg #[.slice none 0 0, .slice none 0 0, .int .i64 0]) ∧ Below w.heap.size w w' := by
  have k1 := Blk.new w 58 #[.slice none 0 0, .slice none 0 0, .int .i64 0]
  have r0 := k1.cell 0
  have r1 := k1.cell 1
  have r2 := k1.cell 2
  simp only [List.getElem?_toArray, List.getElem?_cons_zero, List.getElem?_cons_succ] at r0 r1 r2
  have HB := Lib.hid (ba w (.cells #[.slice none 0 0, .slice none 0 0, .int .i64 0] 58))
  clear k1
  go_enter Tryz.func18, Tryz.ntmps18
  go_wp2
  refine bodyPost_ret (by simp [results, Tryz.results18, go_sem, r0, r1, r2]; try rfl) rfl ?_
  exact ⟨rfl, HB.out⟩
set_option maxRecDepth 100000 in
set_option maxHeartbeats 1000000 in
theorem as_zero (w : World) : Calls Tryz.prog 17 #[.agg #[.slice none 0 0, .slice none 0 0, .int .i64 0]] w fun e w' => e = .returned (.agg #[.slice none 0 0, .slice none 0 0, .int .i64 0]) ∧ Below w.heap.size w w' := by
  have b3 : Below w.heap.size w (((w.alloc (.cells #[.slice none 0 0, .slice none 0 0, .int .i64 0] 58)).alloc (.cells #[.slice none 0 0, .slice none 0 0, .int .i64 0] 54)).alloc (.cells #[.slice none 0 0, .slice none 0 0, .int .i64 0] 54)) := bt (bt (ba _ _) (ba _ _)) (ba _ _)
  have ka : Blk (((w.alloc (.cells #[.slice none 0 0, .slice none 0 0, .int .i64 0] 58)).alloc (.cells #[.slice none 0 0, .slice none 0 0, .int .i64 0] 54)).alloc (.cells #[.slice none 0 0, .slice none 0 0, .int .i64 0] 54)) w.heap.size 58 #[.slice none 0 0, .slice none 0 0, .int .i64 0] := by
    have h1 := (Blk.new w 58 #[.slice none 0 0, .slice none 0 0, .int .i64 0])
    have h2 := h1.below (ba _ (.cells #[.slice none 0 0, .slice none 0 0, .int .i64 0] 54)) h1.lt
    exact h2.below (ba _ _) h2.lt
  have kb : Blk (((w.alloc (.cells #[.slice none 0 0, .slice none 0 0, .int .i64 0] 58)).alloc (.cells #[.slice none 0 0, .slice none 0 0, .int .i64 0] 54)).alloc (.cells #[.slice none 0 0, .slice none 0 0, .int .i64 0] 54)) (w.heap.size + 1) 54 #[.slice none 0 0, .slice none 0 0, .int .i64 0] := by
    have h1 := Blk.new (w.alloc (.cells #[.slice none 0 0, .slice none 0 0, .int .i64 0] 58)) 54 #[.slice none 0 0, .slice none 0 0, .int .i64 0]
    have h2 := h1.below (ba _ (.cells #[.slice none 0 0, .slice none 0 0, .int .i64 0] 54)) h1.lt
    rw [World.size_alloc] at h2
    exact h2
  have r0 := kb.cell 0
  have r1 := kb.cell 1
  have r2 := kb.cell 2
  have a0 := ka.cell 0
  simp only [List.getElem?_toArray, List.getElem?_cons_zero, List.getElem?_cons_succ] at r0 r1 r2 a0
  have HK := Lib.hid b3
  clear ka kb b3
  go_enter Tryz.func17, Tryz.ntmps17
  go_wp2_with fail
  go_loopw [4] (fun iv wr => iv = .int .i64 (0 : Nat) ∧ wr = ((w.alloc (.cells #[.slice none 0 0, .slice none 0 0, .int .i64 0] 58)).alloc (.cells #[.slice none 0 0, .slice none 0 0, .int .i64 0] 54)).alloc (.cells #[.slice none 0 0, .slice none 0 0, .int .i64 0] 54)) (fun _ _ => 0)
  case atStart => exact ⟨rfl, rfl⟩
  case round =>
    obtain ⟨rfl, rfl⟩ := hrel
    go_wp2
    refine bodyPost_ret (by simp [results, Tryz.results17, go_sem, r0, r1, r2]; try rfl) rfl ?_
    exact ⟨rfl, HK.out⟩
set_option maxRecDepth 100000 in
set_option maxHeartbeats 1000000 in
theorem refsame_zero (w : World) : Calls Tryz.prog 16 #[.agg #[.slice none 0 0, .slice none 0 0, .int .i64 0], .agg #[.slice none 0 0, .slice none 0 0, .int .i64 0]] w fun e w' => e = .returned (.bool true) ∧ Below w.heap.size w w' := by
  obtain ⟨w2, hw2⟩ : ∃ w2, w2 = (w.alloc (.cells #[.slice none 0 0, .slice none 0 0, .int .i64 0] 54)).alloc (.cells #[.slice none 0 0, .slice none 0 0, .int .i64 0] 54) := ⟨_, rfl⟩
  have b2 : Below w.heap.size w w2 := by rw [hw2]; exact bt (ba _ _) (ba _ _)
  have ka : Blk w2 w.heap.size 54 #[.slice none 0 0, .slice none 0 0, .int .i64 0] := by rw [hw2]; exact (Blk.new w _ _).below (ba _ _) (Blk.new w _ _).lt
  have kb : Blk w2 (w.heap.size + 1) 54 #[.slice none 0 0, .slice none 0 0, .int .i64 0] := by
    have := Blk.new (w.alloc (.cells #[.slice none 0 0, .slice none 0 0, .int .i64 0] 54)) 54 #[.slice none 0 0, .slice none 0 0, .int .i64 0]
    rw [World.size_alloc] at this
    rw [hw2]; exact this
  have HS := Qu.same_any none none [] [] 0 0 0 0 w2 (Lib.hid rfl) (Lib.hid rfl) (by omega) (fun h => by simp at h) (fun h => by simp at h)
  rw [show decide (([] : List Nat) = []) = true from rfl] at HS
  have HS := Lib.hid HS
  have HK := Lib.hid (And.intro ka (And.intro kb b2))
  have HW := Lib.hid hw2
  have x0 := ka.cell 0
  have x1 := ka.cell 1
  have y0 := kb.cell 0
  have y1 := kb.cell 1
  simp only [List.getElem?_toArray, List.getElem?_cons_zero, List.getElem?_cons_succ] at x0 x1 y0 y1
  rw [hw2] at x0 x1 y0 y1
  clear ka kb b2 hw2
  go_enter Tryz.func16, Tryz.ntmps16
  go_wp2_with fail
  rw [← HW.out]
  refine HS.out.mono ?_
  rintro e w3 ⟨rfl, b3⟩
  obtain ⟨ka, kb, b2⟩ := HK.out
  have ka3 := ka.below b3 ka.lt
  have kb3 := kb.below b3 kb.lt
  have u0 := ka3.cell 0
  have u2 := ka3.cell 2
  have v2 := kb3.cell 2
  simp only [List.getElem?_toArray, List.getElem?_cons_zero, List.getElem?_cons_succ] at u0 u2 v2
  have HX := Lib.hid (bt b2 b3)
  clear ka kb ka3 kb3 b2 b3 x0 x1 y0 y1
  go_wp2_with fail
  go_loopw [5] (fun iv wr => iv = .int .i64 (0 : Nat) ∧ w3 = wr) (fun _ _ => 0)
  case atStart => exact ⟨rfl, rfl⟩
  case round =>
    obtain ⟨rfl, rfl⟩ := hrel
    go_wp2
    go_ret
    exact ⟨rfl, HX.out⟩
end Go.Proofs.YtlliaihmfimdoaaGreat.Re

namespace Go.Proofs.YtlliaihmfimdoaaGreat.Re
open Go.RowKit Go.Maps Go.Joins Go.Deep Go.Proofs.YtlliaihmfimdoaaGreat
set_option linter.unusedVariables false
set_option linter.unusedSimpArgs false

theorem OwnPr.in_ {w : World} {B c : Nat} {A : Option Addr} {P : List (Int × Nat)} (h : OwnPr w B A c P) : InRp w A P := fun hl => by
  unfold OwnPr at h
  obtain ⟨b, e, _, hlt, _, hc⟩ := row_cells h hl
  exact ⟨b, 0, e, hlt, fun i hi => by rw [Nat.zero_add]; exact ⟨hc _ _ (prV_at P i hi).1, hc _ _ (prV_at P i hi).2⟩⟩
set_option maxRecDepth 100000 in
set_option maxHeartbeats 4000000 in
theorem refsame_any (A A' U U' : Option Addr) (q c c' m d d' : Nat) (nx : Int) (P : List (Int × Nat)) (vs : List Nat) (w : World) (hq : Hid (q = P.length)) (hm : Hid (m = vs.length)) (hq1 : q ≤ 1000) (hm1 : m ≤ 9223372036854775807) (hP : InRp w A P) (hP' : InRp w A' P) (hU : Qu.UAt w U vs) (hU' : Qu.UAt w U' vs) :
    Calls Tryz.prog 16 #[.agg #[.slice A q c, .slice U m d, .int .i64 nx], .agg #[.slice A' q c', .slice U' m d', .int .i64 nx]] w fun e w' => e = .returned (.bool true) ∧ Below w.heap.size w w' := by
  obtain ⟨w2, hw2⟩ : ∃ w2, w2 = (w.alloc (.cells #[.slice A q c, .slice U m d, .int .i64 nx] 54)).alloc (.cells #[.slice A' q c', .slice U' m d', .int .i64 nx] 54) := ⟨_, rfl⟩
  have b2 : Below w.heap.size w w2 := by rw [hw2]; exact bt (ba _ _) (ba _ _)
  obtain ⟨ga, hga⟩ : ∃ ga, ga = w.heap.size := ⟨_, rfl⟩
  obtain ⟨gb, hgb⟩ : ∃ gb, gb = w.heap.size + 1 := ⟨_, rfl⟩
  have ka : Blk w2 ga 54 #[.slice A q c, .slice U m d, .int .i64 nx] := by rw [hw2, hga]; exact (Blk.new w _ _).below (ba _ _) (Blk.new w _ _).lt
  have kb : Blk w2 gb 54 #[.slice A' q c', .slice U' m d', .int .i64 nx] := by
    have := Blk.new (w.alloc (.cells #[.slice A q c, .slice U m d, .int .i64 nx] 54)) 54 #[.slice A' q c', .slice U' m d', .int .i64 nx]
    rw [World.size_alloc, ← hgb] at this
    rw [hw2]; exact this
  have HS := Qu.same_any U U' vs vs m m d d' w2 hm hm hm1 (hU.below b2) (hU'.below b2)
  rw [decide_eq_true (rfl : vs = vs)] at HS
  have HS := Lib.hid HS
  have HK := Lib.hid (And.intro ka (And.intro kb b2))
  have H := Lib.hid (And.intro (hP.below b2) (hP'.below b2))
  have HW := Lib.hid hw2
  have HG := Lib.hid (And.intro hga hgb)
  have x0 := ka.cell 0
  have x1 := ka.cell 1
  have y0 := kb.cell 0
  have y1 := kb.cell 1
  simp only [List.getElem?_toArray, List.getElem?_cons_zero, List.getElem?_cons_succ] at x0 x1 y0 y1
  rw [hw2, hga] at x0 x1
  rw [hw2, hgb] at y0 y1
  have hqq : ((q : Int) != (q : Int)) = false := by simp
  have hxx : (nx != nx) = false := by simp
  clear ka kb b2 hw2 hga hgb hP hP' hU hU'
  go_enter Tryz.func16, Tryz.ntmps16
  go_wp2_with fail
  rw [← HW.out]
  refine HS.out.mono ?_
  rintro e w3 ⟨rfl, b3⟩
  have HK3 := Lib.hid (And.intro (HK.out.1.below b3 HK.out.1.lt) (And.intro (HK.out.2.1.below b3 HK.out.2.1.lt) (And.intro (bt HK.out.2.2 b3) (And.intro (H.out.1.below b3) (H.out.2.below b3)))))
  have u2 := HK3.out.1.cell 2
  have v2 := HK3.out.2.1.cell 2
  simp only [List.getElem?_toArray, List.getElem?_cons_zero, List.getElem?_cons_succ] at u2 v2
  rw [HG.out.1] at u2
  rw [HG.out.2] at v2
  clear b3 x0 x1 y0 y1
  go_wp2_with fail
  rw [← HG.out.2, ← HG.out.1]
  clear u2 v2
  go_loopw [5] (fun iv wr => ∃ j : Nat, j ≤ q ∧ iv = .int .i64 j ∧ Hid (Below w3.heap.size w3 wr)) (fun iv _ => q - (intOf iv).toNat)
  case atStart => exact ⟨0, Nat.zero_le _, rfl, Lib.hid (Below.refl _ _)⟩
  case round =>
    obtain ⟨j, hj, rfl, HR⟩ := hrel
    obtain ⟨ka, kb, b3, hP, hP'⟩ := HK3.out
    have s0 := (ka.below HR.out ka.lt).cell 0
    have t0 := (kb.below HR.out kb.lt).cell 0
    simp only [List.getElem?_toArray, List.getElem?_cons_zero] at s0 t0
    by_cases hjn : j < q
    · have hjI : (j : Int) < (q : Int) := by omega
      have hjL : j < P.length := by rw [← hq.out]; exact hjn
      obtain ⟨b, o, hA, _, hcs⟩ := (hP.below HR.out) (by omega)
      obtain ⟨b', o', hA', _, hcs'⟩ := (hP'.below HR.out) (by omega)
      obtain ⟨q0, q1⟩ := hcs j hjL
      obtain ⟨p0, p1⟩ := hcs' j hjL
      generalize P[j]'hjL = y at q0 q1 p0 p1
      obtain ⟨yk, yv⟩ := y
      dsimp only at q0 q1 p0 p1
      have e0 := fun m : Nat => cell_drew q0 m
      have e1 := fun m : Nat => cell_drew q1 m
      have d0 := fun m : Nat => cell_drew p0 m
      have d1 := fun m : Nat => cell_drew p1 m
      have s1 := fun m : Nat => cell_drew s0 m
      have t1 := fun m : Nat => cell_drew t0 m
      have HX : Hid (∀ m : Nat, Below w3.heap.size w3 (wr.drewN m)) := Lib.hid fun m => bt HR.out ⟨rfl, rfl, rfl, Nat.le_refl _, fun _ _ => rfl⟩
      subst hA hA'
      clear ka kb b3 hP hP' hcs hcs' hjL q0 q1 p0 p1 HR
      go_wp2_with fail
      go_quiet (fail)
      have HX2 := Lib.hid (HX.out nq)
      clear e0 e1 d0 d1 s0 t0 s1 t1 HX
      go_wp2
      go_roundw
      case rel => exact ⟨j + 1, by omega, by go_num, HX2⟩
      case measure => simp [intOf]; omega
    · have hjI : ¬ (j : Int) < (q : Int) := by omega
      have hF := Lib.hid (bt HK3.out.2.2.1 HR.out)
      clear ka kb b3 hP hP' HR t0
      go_wp2
      go_ret
      exact ⟨rfl, hF.out⟩
end Go.Proofs.YtlliaihmfimdoaaGreat.Re

namespace Go.Proofs.YtlliaihmfimdoaaGreat.Re
open Go.RowKit Go.Maps Go.Joins Go.Deep Go.Proofs.YtlliaihmfimdoaaGreat
set_option linter.unusedVariables false
set_option linter.unusedSimpArgs false

theorem put_fresh {S : KS} {n y : Int} {v : Nat} (hb : busyB S n = false) (h : (changeM S n ⟨1, y, v⟩).1 = 0) : 1 ≤ n ∧ keyB y = true ∧ ∃ L, changeM S n ⟨1, y, v⟩ = (0, { S with W := updW S.W n (some ([⟨1, y, v⟩], false)), L := L }) := by
  have hW : S.W n = none := by
    unfold busyB at hb
    simp at hb
    exact hb.1
  have hc : curW S n = ([], false) := by unfold curW; rw [hW]; rfl
  unfold changeM at h ⊢
  dsimp only at h ⊢
  by_cases h0 : (openM S n y true).1 = 0
  · rw [if_pos h0]
    unfold openM at h0 ⊢
    split at h0
    · exact absurd (show (1 : Int) = 0 from h0) (by decide)
    · rename_i h1
      have hk : keyB y = true := by
        rcases hk : keyB y with _ | _
        · exact absurd (Or.inr hk) h1
        · rfl
      refine ⟨by omega, hk, ?_⟩
      rw [if_neg h1, hc]
      exact ⟨_, rfl⟩
  · rw [if_neg h0] at h
    exact absurd h h0
theorem qput_fresh {S : Qu.QS} {n : Int} {v : Nat} (hb : (Qu.lookQ S.ws n).isSome = false) (h : (Qu.putM S n v).1 = 0) : 1 ≤ n ∧ Qu.putM S n v = (0, { S with ws := S.ws ++ [⟨n, [⟨3, 0, v⟩], false⟩] }) := by
  have hl : Qu.lookQ S.ws n = none := by simpa using hb
  have hf : Qu.findQ S.ws n = none := by unfold Qu.lookQ at hl; simpa using hl
  have hc : Qu.curQ S.ws n = ([], false) := by unfold Qu.curQ; rw [hl]; rfl
  have ha : Qu.addQ S.ws n ⟨3, 0, v⟩ = S.ws ++ [⟨n, [⟨3, 0, v⟩], false⟩] := by
    unfold Qu.addQ Qu.layQ
    rw [hc, hf]; rfl
  unfold Qu.putM at h ⊢
  by_cases h0 : Qu.openE S n = 0
  · rw [if_neg (by simp [h0])] at h ⊢
    by_cases h1 : Qu.roomQ S < 1
    · rw [if_pos h1] at h; exact absurd (show (5 : Int) = 0 from h) (by decide)
    · rw [if_neg h1, ha]
      refine ⟨?_, rfl⟩
      unfold Qu.openE at h0
      by_cases h2 : n < 1
      · rw [if_pos h2] at h0; exact absurd h0 (by decide)
      · omega
  · rw [if_pos h0] at h; exact absurd h h0
theorem prep_fresh {S : KS} {n : Int} {c : Ch} (hn : 1 ≤ n) (h : S.W n = some ([c], false)) : prepM S n = (([c], 0), { S with W := updW S.W n (some ([c], true)) }) := by
  have hc : curW S n = ([c], false) := by unfold curW; rw [h]; rfl
  unfold prepM
  rw [if_neg (by omega), hc, h]
  simp
theorem qprep_fresh {S : Qu.QS} {n : Int} {c : Ch} (hn : 1 ≤ n) (h : Qu.lookQ S.ws n = some ([c], false)) : Qu.prepM S n = (([c], 0), { S with ws := Qu.layQ S.ws n [c] true }) := by
  have hc : Qu.curQ S.ws n = ([c], false) := by unfold Qu.curQ; rw [h]; rfl
  have ho : Qu.openE S n = 0 := by unfold Qu.openE; rw [if_neg (by omega), hc]; simp
  unfold Qu.prepM
  rw [ho, hc, h]
  simp
theorem imP_eq {S S' : KS} (h : S.V = S'.V) : ∀ k, imP S k = imP S' k
  | 0 => rfl
  | k + 1 => by
    have e : valM S k = valM S' k := by unfold valM; rw [h]
    unfold imP
    rw [imP_eq h k, e]
theorem imP_mem {S : KS} {y : Int} {v : Nat} (hk : keyB y = true) (h : valM S y = (v, true)) : (y, v) ∈ imP S 16 := by
  have hy : 0 ≤ y ∧ y < 16 := by unfold keyB at hk; simp at hk; omega
  have step : ∀ k : Nat, y < k → (y, v) ∈ imP S k := by
    intro k
    induction k with
    | zero => intro h1; omega
    | succ k ih =>
      intro h1
      unfold imP
      by_cases e : y = k
      · refine List.mem_append.2 (.inr ?_)
        rw [← e, h]
        simp
      · exact List.mem_append.2 (.inl (ih (by omega)))
  exact step 16 (by omega)
end Go.Proofs.YtlliaihmfimdoaaGreat.Re
