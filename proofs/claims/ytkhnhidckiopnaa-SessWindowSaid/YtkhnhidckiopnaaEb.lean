/- Layer 9: an end; New, made, next, Waiting, Came. -/
import Derived.Test.YtkhnhidckiopnaaEa
import Derived.Deep.QuietTactic
namespace Go.Proofs.Ytkhnhidckiopnaa
open Go.RowKit
set_option linter.unusedVariables false
set_option linter.unusedSimpArgs false

/-- An end in block g: its session, its window, its queue, the first number, the number that is expected. -/
structure EndAt (w : World) (g S W : Nat) (q : List (List UInt8)) (f x : Nat) (cs : Array Value) : Prop where
  blk : Blk w g 51 cs
  size : cs.size = 69
  c0 : cs[0]? = some (.int .u32 (S : Nat))
  c1 : cs[1]? = some (.int .i64 (W : Nat))
  c66 : cs[66]? = some (.int .i64 (q.length : Nat))
  c67 : cs[67]? = some (.int .i64 (f : Nat))
  c68 : cs[68]? = some (.int .i64 (x : Nat))
  s0 : S ≠ 0
  w1 : 1 ≤ W
  w2 : W ≤ 16
  ql : q.length ≤ 64
  qs : ∀ d ∈ q, 1 ≤ d.length ∧ d.length ≤ 256
  fq : f + q.length ≤ 65535
  xl : x ≤ 65535
  at_ : ∀ i, (h : i < q.length) → ∃ A c, cs[2 + i]? = some (.slice A (q[i]'h).length c) ∧ DAt w (some g) A (q[i]'h)
theorem EndAt.bt {w w' : World} {g S W f x : Nat} {q : List (List UInt8)} {cs : Array Value} (h : EndAt w g S W q f x cs) (hb : Below w.heap.size w w') : EndAt w' g S W q f x cs :=
  ⟨h.blk.below hb h.blk.lt, h.size, h.c0, h.c1, h.c66, h.c67, h.c68, h.s0, h.w1, h.w2, h.ql, h.qs, h.fq, h.xl, fun i hi => by obtain ⟨A, c, h1, h2⟩ := h.at_ i hi; exact ⟨A, c, h1, h2.below hb⟩⟩
def zeroE : Array Value := (#[.int .u32 0, .int .i64 0] ++ Array.replicate 64 (.slice none 0 0)) ++ #[.int .i64 0, .int .i64 0, .int .i64 0]
theorem zeroE_size : zeroE.size = 69 := by decide +kernel
set_option maxRecDepth 100000 in
theorem zero_end (w : World) : (zeroValue 51).run Try.prog w = .ok (.agg zeroE) w := by
  obtain ⟨i, hi⟩ : ∃ i, Try.prog.info? 51 = some i := by
    cases h : Try.prog.info? 51 with
    | none => have := infoEnd; rw [h] at this; cases this
    | some i => exact ⟨i, rfl⟩
  have hz : i.zero = some (.agg zeroE) := by
    have := infoEnd
    rw [hi] at this
    exact Option.some.inj this
  simp only [zeroValue, typeInfo]
  simp [hi, hz]
theorem zeroE_at : zeroE[66]? = some (.int .i64 0) ∧ zeroE[67]? = some (.int .i64 0) ∧ zeroE[68]? = some (.int .i64 0) ∧ zeroE[0]? = some (.int .u32 0) := by
  refine ⟨?_, ?_, ?_, ?_⟩ <;> rfl
set_option maxHeartbeats 1000000 in
theorem new_bad (S : Nat) (W : Int) (w : World) (h : S = 0 ∨ W < 1 ∨ 16 < W) :
    Calls Try.prog 9 #[.int .u32 S, .int .i64 W] w fun e w' => e = .returned (.tuple #[.pointer none, .int .i64 1]) ∧ w = w' := by
  rcases h with rfl | h
  · go_enter Try.func9, Try.ntmps9
    go_wp2
    go_ret2
    exact ⟨rfl, rfl⟩
  · obtain ⟨b, hb⟩ : ∃ b, b = ((S : Int) == 0) := ⟨_, rfl⟩
    rcases b with _ | _
    · have hb1 : ((S : Int) == 0) = false := hb.symm
      clear hb
      rcases h with h | h
      · go_enter Try.func9, Try.ntmps9
        go_wp2
        go_ret2
        exact ⟨rfl, rfl⟩
      · have h2 : ¬ W < 1 := by omega
        have h3 : decide (W < 1) = false := decide_eq_false h2
        go_enter Try.func9, Try.ntmps9
        go_wp2
        go_ret2
        exact ⟨rfl, rfl⟩
    · have hb1 : ((S : Int) == 0) = true := hb.symm
      clear hb
      go_enter Try.func9, Try.ntmps9
      go_wp2
      go_ret2
      exact ⟨rfl, rfl⟩
set_option maxRecDepth 100000 in
set_option maxHeartbeats 2000000 in
theorem new_ok (S W : Nat) (w : World) (h1 : S ≠ 0) (h2 : 1 ≤ W) (h3 : W ≤ 16) :
    Calls Try.prog 9 #[.int .u32 S, .int .i64 W] w fun e w' => e = .returned (.tuple #[.pointer (some ⟨w.heap.size, 0, none⟩), .int .i64 0]) ∧ (∃ cs, EndAt w' w.heap.size S W [] 0 0 cs) ∧ Below w.heap.size w w' := by
  have e1 : ((S : Int) == 0) = false := by simp; omega
  have e2 : ¬ (W : Int) < 1 := by omega
  have e3 : ¬ (16 : Int) < (W : Int) := by omega
  have hz := zero_end
  have hsz := zeroE_size
  obtain ⟨z66, z67, z68, z0⟩ := zeroE_at
  obtain ⟨Z, hZ⟩ : ∃ Z, Z = zeroE := ⟨_, rfl⟩
  rw [← hZ] at hz hsz z66 z67 z68
  have hne : ¬ Z = #[] := by intro e; rw [e] at hsz; cases hsz
  clear hZ z0
  go_enter Try.func9, Try.ntmps9
  go_wp2
  go_ret2
  refine ⟨rfl, ⟨_, Blk.new w _ _, ?_, ?_, ?_, ?_, ?_, ?_, h1, h2, h3, by simp, by simp, by simp, by simp, fun i hi => absurd hi (by simp)⟩, ba _ _⟩
  · rw [Array.size_setIfInBounds, Array.size_setIfInBounds]; exact hsz
  · rw [Array.getElem?_setIfInBounds_ne (by omega), Array.getElem?_setIfInBounds_self_of_lt (by omega)]
  · rw [Array.getElem?_setIfInBounds_self_of_lt (by rw [Array.size_setIfInBounds]; omega)]
  · rw [Array.getElem?_setIfInBounds_ne (by omega), Array.getElem?_setIfInBounds_ne (by omega), z66]; rfl
  · rw [Array.getElem?_setIfInBounds_ne (by omega), Array.getElem?_setIfInBounds_ne (by omega), z67]; rfl
  · rw [Array.getElem?_setIfInBounds_ne (by omega), Array.getElem?_setIfInBounds_ne (by omega), z68]; rfl

/-- An end that is nil, or that no call made. -/
def ENo (w : World) (v : Option Addr) : Prop := v = none ∨ ∃ p, v = some ⟨p, 0, none⟩ ∧ w.cell? ⟨p, 0, none⟩ = some (.int .u32 0)
theorem ENo.below {w w' : World} {v : Option Addr} (h : ENo w v) (hb : Below w.heap.size w w') : ENo w' v := by
  rcases h with h | ⟨p, h1, h2⟩
  · exact .inl h
  · exact .inr ⟨p, h1, (hb.cell (p := ⟨p, 0, none⟩) (World.block_lt_of_cell? _ _ h2)).trans h2⟩
theorem made_no (v : Option Addr) (w : World) (h : ENo w v) : Calls Try.prog 27 #[.pointer v] w fun e w' => e = .returned (.bool false) ∧ w = w' := by
  rcases h with rfl | ⟨p, rfl, h⟩
  all_goals
    go_enter Try.func27, Try.ntmps27
    go_wp2
    go_ret
    exact ⟨rfl, rfl⟩
theorem made_yes (g S : Nat) (w : World) (h : w.cell? ⟨g, 0, none⟩ = some (.int .u32 S)) (hS : S ≠ 0) : Calls Try.prog 27 #[.pointer (some ⟨g, 0, none⟩)] w fun e w' => e = .returned (.bool true) ∧ w = w' := by
  have e1 : ((S : Int) != 0) = true := by simp; omega
  go_enter Try.func27, Try.ntmps27
  go_wp2
  go_ret
  exact ⟨rfl, rfl⟩
theorem EndAt.made {w : World} {g S W f x : Nat} {q : List (List UInt8)} {cs : Array Value} (h : EndAt w g S W q f x cs) : Calls Try.prog 27 #[.pointer (some ⟨g, 0, none⟩)] w fun e w' => e = .returned (.bool true) ∧ w = w' :=
  made_yes g S w ((h.blk.cell 0).trans h.c0) h.s0
theorem put_no (v A : Option Addr) (n c : Nat) (w : World) (h : ENo w v) : Calls Try.prog 13 #[.pointer v, .slice A n c] w fun e w' => e = .returned (.int .i64 6) ∧ w = w' := by
  go_enter Try.func13, Try.ntmps13
  go_wp2_with fail
  refine (made_no v _ h).mono ?_
  rintro e w1 ⟨rfl, rfl⟩
  go_wp2
  go_ret
  exact ⟨rfl, rfl⟩
theorem waiting_no (v : Option Addr) (w : World) (h : ENo w v) : Calls Try.prog 20 #[.pointer v] w fun e w' => e = .returned (.int .i64 0) ∧ w = w' := by
  go_enter Try.func20, Try.ntmps20
  go_wp2_with fail
  refine (made_no v _ h).mono ?_
  rintro e w1 ⟨rfl, rfl⟩
  go_wp2
  go_ret
  exact ⟨rfl, rfl⟩
theorem came_no (v : Option Addr) (w : World) (h : ENo w v) : Calls Try.prog 21 #[.pointer v] w fun e w' => e = .returned (.int .i64 0) ∧ w = w' := by
  go_enter Try.func21, Try.ntmps21
  go_wp2_with fail
  refine (made_no v _ h).mono ?_
  rintro e w1 ⟨rfl, rfl⟩
  go_wp2
  go_ret
  exact ⟨rfl, rfl⟩
theorem frames_no (v : Option Addr) (w : World) (h : ENo w v) : Calls Try.prog 17 #[.pointer v] w fun e w' => e = .returned (.slice none 0 0) ∧ w = w' := by
  go_enter Try.func17, Try.ntmps17
  go_wp2_with fail
  refine (made_no v _ h).mono ?_
  rintro e w1 ⟨rfl, rfl⟩
  go_wp2
  go_ret
  exact ⟨rfl, rfl⟩
theorem on_no (v : Option Addr) (s : Nat) (q a : Int) (A : Option Addr) (n c : Nat) (w : World) (h : ENo w v) : Calls Try.prog 15 #[.pointer v, .agg #[.int .u32 s, .int .i64 q, .int .i64 a, .slice A n c]] w fun e w' => e = .returned (.tuple #[.slice none 0 0, .int .i64 6]) ∧ Below w.heap.size w w' := by
  have hb0 := ba w (.cells #[.int .u32 s, .int .i64 q, .int .i64 a, .slice A n c] 33)
  have hn := made_no v _ (h.below hb0)
  go_enter Try.func15, Try.ntmps15
  go_wp2_with fail
  refine hn.mono ?_
  rintro e w1 ⟨rfl, rfl⟩
  go_wp2
  go_ret2
  exact ⟨rfl, hb0⟩
theorem waiting_any {w : World} {g S W f x : Nat} {q : List (List UInt8)} {cs : Array Value} (h : EndAt w g S W q f x cs) (n : Nat) (hn : n = q.length) : Calls Try.prog 20 #[.pointer (some ⟨g, 0, none⟩)] w fun e w' => e = .returned (.int .i64 n) ∧ w = w' := by
  have c := (h.blk.cell 66).trans h.c66
  have hm := h.made
  rw [← hn] at c
  clear hn h
  go_enter Try.func20, Try.ntmps20
  go_wp2_with fail
  refine hm.mono ?_
  rintro e w1 ⟨rfl, rfl⟩
  go_wp2
  go_ret
  exact ⟨rfl, rfl⟩
theorem came_any {w : World} {g S W f x : Nat} {q : List (List UInt8)} {cs : Array Value} (h : EndAt w g S W q f x cs) : Calls Try.prog 21 #[.pointer (some ⟨g, 0, none⟩)] w fun e w' => e = .returned (.int .i64 x) ∧ w = w' := by
  have c := (h.blk.cell 68).trans h.c68
  have hm := h.made
  clear h
  go_enter Try.func21, Try.ntmps21
  go_wp2_with fail
  refine hm.mono ?_
  rintro e w1 ⟨rfl, rfl⟩
  go_wp2
  go_ret
  exact ⟨rfl, rfl⟩
set_option maxHeartbeats 1000000 in
theorem next_any {w : World} {g S W f x : Nat} {q : List (List UInt8)} {cs : Array Value} (h : EndAt w g S W q f x cs) (n : Nat) (hn : n = f + q.length) : Calls Try.prog 28 #[.pointer (some ⟨g, 0, none⟩)] w fun e w' => e = .returned (.int .i64 n) ∧ Below w.heap.size w w' := by
  have c := (h.blk.cell 66).trans h.c66
  have d := (h.blk.cell 67).trans h.c67
  have hfq := h.fq
  obtain ⟨m, hm⟩ : ∃ m, m = q.length := ⟨_, rfl⟩
  rw [← hm] at c hn hfq
  subst hn
  have C := fun k : Nat => (show (w.drewN k).cell? _ = _ from c)
  have E := fun k : Nat => (show (w.drewN k).cell? _ = _ from d)
  have hw : IntKind.i64.wrap ((f : Int) + (m : Int)) = (f : Int) + (m : Int) := IntWalk.i64_in _ (by omega)
  clear hm h c d
  go_enter Try.func28, Try.ntmps28
  go_wp2_with fail
  go_quiet (fail)
  have hb : Below w.heap.size w (w.drewN nq) := ⟨rfl, rfl, rfl, Nat.le_refl _, fun _ _ => rfl⟩
  clear C E
  go_wp2
  go_ret
  exact ⟨by simp, hb⟩
end Go.Proofs.Ytkhnhidckiopnaa
