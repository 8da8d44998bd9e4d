/- Layer 9: nobody. -/
import Derived.Test.YtejddojhockajaaEh
import Derived.Test.YtejddojhockajaaOpenF
namespace Go.Proofs.Ytejddojhockajaa
open Go.RowKit
set_option linter.unusedVariables false
set_option linter.unusedSimpArgs false

set_option maxRecDepth 100000 in
set_option maxHeartbeats 4000000 in
theorem sessNobody_walk (A : Option Addr) (l : List UInt8) (c : Nat) (o : FrmV) (w : World) (b : Bs w w.heap.size A l) (e : l.length ≤ maxLen) (ho : FrmOk w o) :
    Calls Try.prog 4 #[.slice A l.length c, o.val] w fun e w' => e = .returned (.bool true) ∧ Below w.heap.size w w' := by
  obtain ⟨s, q, a, A1, l1, c1⟩ := o
  obtain ⟨n, hn⟩ : ∃ n, n = l.length := ⟨_, rfl⟩
  obtain ⟨n1, hn1⟩ : ∃ n1, n1 = l1.length := ⟨_, rfl⟩
  unfold FrmV.val
  rw [← hn]
  show Calls Try.prog 4 #[.slice A n c, .agg #[.int .u32 s, .int .i64 q, .int .i64 a, .slice A1 l1.length c1]] w _
  rw [← hn1]
  have hbw := ba w (.cells #[.int .u32 (s : Nat), .int .i64 q, .int .i64 a, .slice A1 n1 c1] 33)
  have kbx : Blk _ _ 33 _ := Blk.new w 33 #[.int .u32 (s : Nat), .int .i64 q, .int .i64 a, .slice A1 n1 c1]
  have HB := Lib.hid (And.intro hbw kbx)
  clear hn hn1 b e ho hbw kbx
  by_cases h0 : 1000 < n
  · have h0I : (1000 : Int) < (n : Int) := by omega
    go_enter Try.func4, Try.ntmps4
    go_wp2_with fail
    refine (alive_any _).mono ?_
    rintro e w2 ⟨rfl, b2⟩
    go_wp2
    go_ret
    exact ⟨rfl, bt HB.out.1 b2⟩
  · have h0I : ¬ (1000 : Int) < (n : Int) := by omega
    by_cases h1 : 1000 < n1
    · have h1I : (1000 : Int) < (n1 : Int) := by omega
      go_enter Try.func4, Try.ntmps4
      go_wp2_with fail
      refine (alive_any _).mono ?_
      rintro e w2 ⟨rfl, b2⟩
      go_wp2
      go_ret
      exact ⟨rfl, bt HB.out.1 b2⟩
    · have h1I : ¬ (1000 : Int) < (n1 : Int) := by omega
      have hz := zero_end
      obtain ⟨z66, z67, z68, z0⟩ := zeroE_at
      obtain ⟨Z, hZ⟩ : ∃ Z, Z = zeroE := ⟨_, rfl⟩
      have hsz := zeroE_size
      rw [← hZ] at hz z0 hsz
      have hne : ¬ Z = #[] := by intro e; rw [e] at hsz; cases hsz
      clear hZ z66 z67 z68
      go_enter Try.func4, Try.ntmps4
      go_wp2_with fail
      have hb2 := ba (w.alloc (.cells #[.int .u32 (s : Nat), .int .i64 q, .int .i64 a, .slice A1 n1 c1] 33)) (.cells Z 51)
      have kz : Blk _ _ 51 _ := Blk.new (w.alloc (.cells #[.int .u32 (s : Nat), .int .i64 q, .int .i64 a, .slice A1 n1 c1] 33)) 51 Z
      have hs1 : (w.alloc (.cells #[.int .u32 (s : Nat), .int .i64 q, .int .i64 a, .slice A1 n1 c1] 33)).heap.size = w.heap.size + 1 := by simp
      have kb2 := HB.out.2.below hb2 HB.out.2.lt
      have d2 := bt HB.out.1 hb2
      have en : ENo _ (some ⟨w.heap.size + 1, 0, none⟩) := .inr ⟨_, rfl, (by rw [← hs1]; exact (kz.cell 0).trans z0)⟩
      have HD := Lib.hid (And.intro d2 (And.intro kb2 en))
      clear hb2 kz kb2 d2 en hz hsz hne z0
      refine (on_no none s q a A1 n1 c1 _ (.inl rfl)).mono ?_
      rintro e w1 ⟨rfl, b1⟩
      have kb3 := HD.out.2.1.below b1 HD.out.2.1.lt
      have en3 := HD.out.2.2.below b1
      have d3 := bt HD.out.1 b1
      have y0 := kb3.cell 0
      have y1 := kb3.cell 1
      have y2 := kb3.cell 2
      have y3 := kb3.cell 3
      simp at y0 y1 y2 y3
      have HD3 := Lib.hid (And.intro d3 (And.intro kb3 en3))
      clear kb3 en3 d3 b1 HD
      go_wp2_with fail
      refine (on_no _ s q a A1 n1 c1 _ HD3.out.2.2).mono ?_
      rintro e w2 ⟨rfl, b2⟩
      clear y0 y1 y2 y3
      go_wp2_with fail
      refine (alive_any _).mono ?_
      rintro e w3 ⟨rfl, b3⟩
      have en := (HD3.out.2.2.below b2).below b3
      have d := bt (bt HD3.out.1 b2) b3
      have HE := Lib.hid (And.intro en d)
      clear en d b2 b3 HD3
      go_wp2_with fail
      refine (put_no none A n c _ (.inl rfl)).mono ?_
      rintro e u ⟨rfl, rfl⟩
      go_wp2_with fail
      refine (put_no _ A n c _ HE.out.1).mono ?_
      rintro e u ⟨rfl, rfl⟩
      go_wp2_with fail
      refine (frames_no none _ (.inl rfl)).mono ?_
      rintro e u ⟨rfl, rfl⟩
      go_wp2_with fail
      refine (frames_no _ _ HE.out.1).mono ?_
      rintro e u ⟨rfl, rfl⟩
      go_wp2_with fail
      refine (waiting_no none _ (.inl rfl)).mono ?_
      rintro e u ⟨rfl, rfl⟩
      go_wp2_with fail
      refine (waiting_no _ _ HE.out.1).mono ?_
      rintro e u ⟨rfl, rfl⟩
      go_wp2_with fail
      refine (came_no none _ (.inl rfl)).mono ?_
      rintro e u ⟨rfl, rfl⟩
      go_wp2_with fail
      refine (came_no _ _ HE.out.1).mono ?_
      rintro e u ⟨rfl, rfl⟩
      go_wp2
      go_ret
      exact ⟨rfl, HE.out.2⟩
end Go.Proofs.Ytejddojhockajaa
