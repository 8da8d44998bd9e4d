/- Layer 7: equal frames; the fixed calls. -/
import Derived.Test.YthmhkicgghobmaaFc
namespace Go.Proofs.Ythmhkicgghobmaa
open Go.RowKit
set_option linter.unusedVariables false
set_option linter.unusedSimpArgs false

def sameF (s : Nat) (q a : Int) (l : List UInt8) (s2 : Nat) (q2 a2 : Int) (l2 : List UInt8) : Bool := decide (s = s2) && (decide (q = q2) && (decide (a = a2) && decide (l = l2)))
theorem conv_n (A : Option Addr) (l : List UInt8) (n c : Nat) (hn : Hid (n = l.length)) (w : World) (B : Nat) (h : Bs w B A l) : (convert 23 9 (.slice A n c)).run Try.prog w = .ok (.string ⟨l.toArray⟩) w := by
  rw [hn.out]; exact conv_bytes Try.underlying23 Try.underlying5 Try.underlying9 h _

set_option maxHeartbeats 1000000 in
theorem same_any (s : Nat) (q a : Int) (A : Option Addr) (l : List UInt8) (n c : Nat) (hn : Hid (n = l.length)) (s2 : Nat) (q2 a2 : Int) (A2 : Option Addr) (l2 : List UInt8) (n2 c2 : Nat) (hn2 : Hid (n2 = l2.length)) (w : World) (hbs : Bs w w.heap.size A l) (hbs2 : Bs w w.heap.size A2 l2) :
    Calls Try.prog 13 #[.agg #[.int .u32 s, .int .i64 q, .int .i64 a, .slice A n c], .agg #[.int .u32 s2, .int .i64 q2, .int .i64 a2, .slice A2 n2 c2]] w fun e w' => e = .returned (.bool (sameF s q a l s2 q2 a2 l2)) ∧ Below w.heap.size w w' := by
  have k1 := (Blk.new w 25 #[.int .u32 s, .int .i64 q, .int .i64 a, .slice A n c]).alloc (.cells #[.int .u32 s2, .int .i64 q2, .int .i64 a2, .slice A2 n2 c2] 25)
  have k2 := Blk.new (w.alloc (.cells #[.int .u32 s, .int .i64 q, .int .i64 a, .slice A n c] 25)) 25 #[.int .u32 s2, .int .i64 q2, .int .i64 a2, .slice A2 n2 c2]
  simp only [World.size_alloc] at k2
  have hbw := bt (ba w (.cells #[.int .u32 s, .int .i64 q, .int .i64 a, .slice A n c] 25)) (ba (w.alloc (.cells #[.int .u32 s, .int .i64 q, .int .i64 a, .slice A n c] 25)) (.cells #[.int .u32 s2, .int .i64 q2, .int .i64 a2, .slice A2 n2 c2] 25))
  have x0 := (k1).cell 0
  have x1 := (k1).cell 1
  have x2 := (k1).cell 2
  have x3 := (k1).cell 3
  simp only [List.getElem?_toArray, List.getElem?_cons_zero, List.getElem?_cons_succ] at x0 x1 x2 x3
  have d0 := (k2).cell 0
  have d1 := (k2).cell 1
  have d2 := (k2).cell 2
  have d3 := (k2).cell 3
  simp only [List.getElem?_toArray, List.getElem?_cons_zero, List.getElem?_cons_succ] at d0 d1 d2 d3
  have cv1 := conv_n A l n c hn _ _ (hbs.bt hbw)
  have cv2 := conv_n A2 l2 n2 c2 hn2 _ _ (hbs2.bt hbw)
  have Hbs := Lib.hid hbs
  clear hbs hbs2
  unfold sameF
  by_cases h1 : s = s2
  · subst h1
    by_cases h2 : q = q2
    · subst h2
      by_cases h3 : a = a2
      · subst h3
        by_cases h4 : l = l2
        · subst h4
          go_enter Try.func13, Try.ntmps13
          go_wp2
          go_ret
          exact ⟨by simp, hbw⟩
        · have H4 := Lib.hid h4
          clear h4
          go_enter Try.func13, Try.ntmps13
          go_wp2
          go_ret
          exact ⟨by simp [H4.out], hbw⟩
      · go_enter Try.func13, Try.ntmps13
        go_wp2
        go_ret
        exact ⟨by simp [h3], hbw⟩
    · go_enter Try.func13, Try.ntmps13
      go_wp2
      go_ret
      exact ⟨by simp [h2], hbw⟩
  · have g1 : ((s : Int) == (s2 : Int)) = false := by simp; omega
    have g2 : (s == s2) = false := by simpa using h1
    have H1 := Lib.hid h1
    go_enter Try.func13, Try.ntmps13
    go_wp2
    go_ret
    exact ⟨by simp [H1.out], hbw⟩

theorem write_alive (A : Option Addr) (c : Nat) (w : World) (h : Bs w w.heap.size A [7]) : Calls Try.prog 11 #[.agg #[.int .u32 1, .int .i64 2, .int .i64 3, .slice A 1 c]] w (WrO w [0, 0, 0, 1, 0, 2, 0, 3, 0, 1, 7, 0, 52, 0, 15] 0) :=
  (fwrite_any 1 2 3 A [7] 1 c (Lib.hid rfl) w (by omega) h).mono fun e w' hw => wrO_of (by decide) hw
theorem write_none (w : World) : Calls Try.prog 11 #[.agg #[.int .u32 0, .int .i64 0, .int .i64 0, .slice none 0 0]] w (WrO w [] 70) :=
  (fwrite_any 0 0 0 none [] 0 0 (Lib.hid rfl) w (by omega) Bs.nil).mono fun e w' hw => wrO_of (by decide) hw
theorem read_nil (w : World) : Calls Try.prog 14 #[.slice none 0 0] w fun e w' => e = .returned (.tuple #[.agg #[.int .u32 0, .int .i64 0, .int .i64 0, .slice none 0 0], .int .i64 11]) ∧ Below w.heap.size w w' := by
  have kb := Blk.new w 25 #[.int .u32 0, .int .i64 0, .int .i64 0, .slice none 0 0]
  have hbw := ba w (.cells #[.int .u32 0, .int .i64 0, .int .i64 0, .slice none 0 0] 25)
  have c0 := (kb).cell 0
  have c1 := (kb).cell 1
  have c2 := (kb).cell 2
  have c3 := (kb).cell 3
  simp only [List.getElem?_toArray, List.getElem?_cons_zero, List.getElem?_cons_succ] at c0 c1 c2 c3
  clear kb
  go_enter Try.func14, Try.ntmps14
  go_wp2
  refine bodyPost_ret (by simp [results, Try.results14, go_sem, c0, c1, c2, c3]; try rfl) rfl ?_
  exact ⟨rfl, hbw⟩

set_option maxHeartbeats 1000000 in
theorem alive_any (w : World) : Calls Try.prog 9 #[] w fun e w' => e = .returned (.bool true) ∧ Below w.heap.size w w' := by
  have hbs : Bs (w.alloc (.cells #[.int .u8 7] 5)) (w.alloc (.cells #[.int .u8 7] 5)).heap.size (some ⟨w.heap.size, 0, none⟩) [7] := Bs.lit' rfl rfl
  have hbw0 := ba w (.cells #[.int .u8 7] 5)
  go_enter Try.func9, Try.ntmps9
  go_wp2_with fail
  refine (write_alive _ _ _ hbs).mono ?_
  rintro e w1 ⟨A1, c1, J1, rfl, hJ1, own1, hb1⟩
  obtain rfl : J1 = 15 := hJ1.out
  have hbw1 := bt hbw0 hb1
  clear hb1 hbs hbw0
  go_wp2_with fail
  refine (write_none _).mono ?_
  rintro e w2 ⟨A2, c2, J2, rfl, hJ2, own2, hb2⟩
  have own1' := own1.below hb2 (Nat.le_refl _)
  have hbw2 := bt hbw1 hb2
  go_wp2_with fail
  refine (read_nil _).mono ?_
  rintro e w3 ⟨rfl, hb3⟩
  have own1'' := (own1'.below hb3 (Nat.le_refl _)).alloc (.cells #[.int .u32 0, .int .i64 0, .int .i64 0, .slice none 0 0] 25)
  have hbw3 := bt (bt hbw2 hb3) (ba w3 (.cells #[.int .u32 0, .int .i64 0, .int .i64 0, .slice none 0 0] 25))
  obtain ⟨g, rfl, _, _, _⟩ := own1''.form (by simp)
  have x3 := own1''.cell 3 (by simp)
  have x10 := own1''.cell 10 (by simp)
  simp at x3 x10
  clear own1'' own1' own1 own2 hb2 hb3 hbw1 hbw2
  go_wp2
  go_ret
  exact ⟨rfl, hbw3⟩
end Go.Proofs.Ythmhkicgghobmaa
