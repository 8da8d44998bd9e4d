/- The law that a second crash changes nothing. -/
import Derived.Test.YtjgemjgdioppdaaLasts
import Derived.Deep.RegionHeld3
namespace Go.Proofs.Ytjgemjgdioppdaa
open Go.RowKit
set_option linter.unusedVariables false

theorem TapeOut.tape {w w' : World} {p room : Nat} {r : Int × List UInt8 × Nat} {e : Ending} (h : TapeOut w p room r e w') : TapeAt w' p room r.2.1 r.2.2 := h.2.1
/-- Another tape is as it was, behind a call of this one. -/
theorem TapeAt.other {w w' : World} {p q room : Nat} {l : List UInt8} {f : Nat} (h : TapeAt w q room l f) (hg : w.grownBy w' (some p)) (hp : TapeAt w p room l f → True) (hne : q ≠ p) (hT : ∃ cs, Blk w p 42 cs) : TapeAt w' q room l f := by
  obtain ⟨A, c, h1, h2, h3⟩ := h.at_
  obtain ⟨cs, hT⟩ := hT
  exact ⟨h.r1, h.r2, h.f1, h.l1, A, c, h1.kept hg (by simpa using hne), h2.kept hg (fun g e => by cases e; exact ⟨_, _, hT, by decide⟩), h3⟩
theorem TapeAt.blk {w : World} {p room : Nat} {l : List UInt8} {f : Nat} (h : TapeAt w p room l f) : ∃ cs, Blk w p 42 cs := by
  obtain ⟨A, c, h1, _⟩ := h.at_; exact ⟨_, h1⟩

theorem Raw.bt {w w' : World} {g : Nat} {e : TypeId} {l : List UInt8} (h : Raw w g e l) (hb : Below w.heap.size w w') : Raw w' g e l := h.below hb h.lt
theorem Raw.grown {w w' : World} {g p : Nat} {e : TypeId} {l : List UInt8} {cs : Array Value} {t : TypeId} (h : Raw w g e l) (hg : w.grownBy w' (some p)) (hp : Blk w p t cs) (hne : t ≠ e) : Raw w' g e l :=
  h.kept hg (fun e' => by cases e'; exact hp.ne_raw h hne rfl)
theorem raw_cv {w : World} {g : Nat} {l : List UInt8} (h : Raw w g 5 l) :
    (convert 30 9 (.slice (some ⟨g, 0, none⟩) l.length l.length)).run Try.prog w = .ok (.string ⟨l.toArray⟩) w := cv_take rfl (h.bs h.lt) _

/-- The tape is played twice. -/
theorem play_two {room : Int} {R : Option (List UInt8 × Nat)} {w w1 w2 : World} {e1 e2 : Ending} (h1 : PlayOut room R w e1 w1) (h2 : PlayOut room R w1 e2 w2) :
    Below w.heap.size w w2 ∧ ((e1 = .returned (.pointer none) ∧ e2 = .returned (.pointer none)) ∨ ∃ p q l f, e1 = .returned (.pointer (some ⟨p, 0, none⟩)) ∧ e2 = .returned (.pointer (some ⟨q, 0, none⟩)) ∧ w.heap.size ≤ p ∧ w.heap.size ≤ q ∧ p ≠ q ∧ TapeAt w2 p room.toNat l f ∧ TapeAt w2 q room.toNat l f) := by
  obtain ⟨b1, h1⟩ := h1
  obtain ⟨b2, h2⟩ := h2
  refine ⟨RowKit.Below.trans b1 (b2.mono b1.size), ?_⟩
  rcases h1 with ⟨r1, rfl⟩ | ⟨p, l, f, r1, rfl, hp, hT⟩
  · rcases h2 with ⟨_, rfl⟩ | ⟨q, l', f', r2, _⟩
    · exact .inl ⟨rfl, rfl⟩
    · rw [r1] at r2; cases r2
  · rcases h2 with ⟨r2, _⟩ | ⟨q, l', f', r2, rfl, hq, hT2⟩
    · rw [r1] at r2; cases r2
    · rw [r1] at r2
      cases r2
      have := hT.lt
      exact .inr ⟨p, q, l, f, rfl, rfl, hp, Nat.le_trans b1.size hq, by omega, hT.below b2, hT2⟩

set_option maxHeartbeats 4000000 in
theorem tapeTwice_walk (room : Int) (A : Option Addr) (ops : List OpV) (c : Nat) (keep again : Int) (w : World) (r1 : -9223372036854775808 ≤ room) (r2 : room ≤ 9223372036854775807) (h : OpsAt w A ops) (k1 : -9223372036854775808 ≤ keep) (k2 : keep ≤ 9223372036854775807)
    (g1 : -9223372036854775808 ≤ again) (g2 : again ≤ 9223372036854775807) :
    Calls Try.prog 6 #[.int .i64 room, .slice A ops.length c, .int .i64 keep, .int .i64 again] w fun e w' => e = .returned (.bool true) ∧ Below w.heap.size w w' := by
  go_enter Try.func6, Try.ntmps6
  go_wp2_with fail
  refine (played_any room A ops c _ h).mono ?_
  intro e1 w1 hp1
  cases e1 with
  | panicked _ => obtain ⟨_, ⟨_, h⟩ | ⟨_, _, _, _, h, _⟩⟩ := hp1 <;> cases h
  | outgrown => obtain ⟨_, ⟨_, h⟩ | ⟨_, _, _, _, h, _⟩⟩ := hp1 <;> cases h
  | returned v1 =>
  go_wp2_with fail
  refine (played_any room A ops c _ (h.below hp1.1)).mono ?_
  intro e2 w2 hp2
  obtain ⟨hb2, ⟨h1, rfl⟩ | ⟨p, q, l, f, h1, rfl, hp, hq, hne, hTp, hTq⟩⟩ := play_two hp1 hp2
  · cases h1
    clear hp1 hp2
    go_wp2_with fail
    refine (alive_any _).mono ?_
    rintro e w3 ⟨rfl, hb3⟩
    go_wp2
    go_ret
    exact ⟨rfl, bt hb2 hb3⟩
  · cases h1
    clear hp1 hp2
    go_wp2_with fail
    have hc := tapeCrash _ _ _ _ keep _ hTp k1 k2
    obtain ⟨m, hm⟩ : ∃ m, m = f + min keep.toNat (l.length - f) := ⟨_, rfl⟩
    have hf1 := hTp.f1
    rw [← hm] at hc
    have hm2 : m ≤ l.length := by omega
    clear hm
    have hlen : (l.take m).length = m := by simp; omega
    generalize l.take m = l1 at hc hlen
    subst hlen
    refine hc.mono ?_
    clear hc
    rintro e w3 h3
    have hb3 := h3.below hb2 hp
    obtain ⟨rfl, hT3, hg3, _⟩ := h3
    have hq3 := hTq.other hg3 (fun _ => trivial) (Ne.symm hne) hTp.blk
    go_wp2_with fail
    refine (tapeBytes _ _ _ _ _ hT3).mono ?_
    rintro e w4 ⟨rfl, hr4, hb4⟩
    have hT4 := hT3.below hb4
    have hq4 := hq3.below hb4
    have hb4' := bt hb3 hb4
    clear hb4 hb3 hT3 hq3 hg3 hTp hTq hb2
    go_wp2_with fail
    have hc := tapeCrash _ _ _ _ again _ hT4 g1 g2
    rw [show l1.length + min again.toNat (l1.length - l1.length) = l1.length by omega, List.take_length] at hc
    refine hc.mono ?_
    clear hc
    rintro e w5 h5
    have hb5 := h5.below hb4' hp
    obtain ⟨rfl, hT5, hg5, _⟩ := h5
    have hq5 := hq4.other hg5 (fun _ => trivial) (Ne.symm hne) hT4.blk
    obtain ⟨_, hblk4⟩ := hT4.blk
    have hr5 := hr4.grown hg5 hblk4 (by decide)
    clear hblk4 hT4 hq4 hr4 hb4' hg5
    go_wp2_with fail
    refine (tapeBytes _ _ _ _ _ hT5).mono ?_
    rintro e w6 ⟨rfl, hr6, hb6⟩
    have hq6 := hq5.below hb6
    have hr6' := hr5.bt hb6
    have hb6' := bt hb5 hb6
    clear hb6 hb5 hT5 hq5 hr5
    go_wp2_with fail
    refine (tapeBytes _ _ _ _ _ hq6).mono ?_
    rintro e w7 ⟨rfl, hr7, hb7⟩
    have hq7 := hq6.below hb7
    have hr7' := hr6'.bt hb7
    have hr7'' := hr6.bt hb7
    have hb7' := bt hb6' hb7
    clear hb7 hb6' hr6 hr6' hq6
    go_wp2_with fail
    refine (tapeForce _ _ _ _ _ hq7).mono ?_
    rintro e w8 h8
    have hb8 := h8.below hb7' hq
    obtain ⟨rfl, hq8, hg8, _⟩ := h8
    obtain ⟨_, hblk7⟩ := hq7.blk
    have ha8 := hr7.grown hg8 hblk7 (by decide)
    have hc8 := hr7'.grown hg8 hblk7 (by decide)
    have hd8 := hr7''.grown hg8 hblk7 (by decide)
    clear hblk7 hg8 hr7 hr7' hr7'' hq7 hb7'
    go_wp2_with fail
    have hc := tapeCrash _ _ _ _ again _ hq8 g1 g2
    rw [show l.length + min again.toNat (l.length - l.length) = l.length by omega, List.take_length] at hc
    refine hc.mono ?_
    clear hc
    rintro e w9 h9
    have hb9 := h9.below hb8 hq
    obtain ⟨rfl, hq9, hg9, _⟩ := h9
    obtain ⟨_, hblk8⟩ := hq8.blk
    have ha9 := ha8.grown hg9 hblk8 (by decide)
    have hc9 := hc8.grown hg9 hblk8 (by decide)
    have hd9 := hd8.grown hg9 hblk8 (by decide)
    clear hblk8 hg9 ha8 hc8 hd8 hq8 hb8
    go_wp2_with fail
    go_region_with (first
        | (go_at_call 11
           refine (alive_any _).mono ?_
           rintro e wA ⟨rfl, hbA'⟩
           have hbA := un_drew hbA'
           have hcA := hc9.bt hbA
           have hdA := hd9.bt hbA
           have haA := ha9.bt hbA
           have hqA := hq9.below hbA
           have hbA2 := bt hb9 hbA
           have cvc := raw_cv hcA
           have cvd := raw_cv hdA
           have cva := raw_cv haA
           clear hbA hbA')
        | (go_at_call 14
           refine (tapeBytes _ _ _ _ _ hqA).mono ?_
           rintro e wB ⟨rfl, hrB, hbB⟩
           have haB := haA.bt hbB
           have hbB2 := bt hbA2 hbB
           have cvB := raw_cv hrB
           have cvaB := raw_cv haB
           clear hbB))
    all_goals
      go_wp2
      go_ret
      exact ⟨rfl, hbB2⟩
end Go.Proofs.Ytjgemjgdioppdaa
