/- The law that what was forced lasts. -/
import Derived.Test.YtjgemjgdioppdaaPlayed
import Derived.Deep.RegionWith
namespace Go.Proofs.Ytjgemjgdioppdaa
open Go.RowKit
set_option linter.unusedVariables false

theorem un_drew {a b : World} (h : Below a.drew.heap.size a.drew b) : Below a.heap.size a b := ⟨h.os, h.tape, h.output, h.size, h.block⟩
theorem PlayOut.mono_none {room : Int} {r : Option (List UInt8 × Nat)} {w : World} {e : Ending} {w' : World} (h : PlayOut room r w e w') : Below w.heap.size w w' := h.1

theorem bs_take {w : World} {B : Nat} {A : Option Addr} {l : List UInt8} (h : Bs w B A l) (m : Nat) : Bs w B A (l.take m) := fun hn => by
  rw [List.length_take] at hn
  obtain ⟨b, o, e, hb, hc⟩ := h (by omega)
  refine ⟨b, o, e, hb, fun i hi => ?_⟩
  rw [List.length_take] at hi
  rw [List.getElem_take]
  exact hc i (by omega)
theorem raw_bs {w w' : World} {g : Nat} {e : TypeId} {l : List UInt8} (h : Raw w g e l) (hb : Below w.heap.size w w') : Bs w' w'.heap.size (some ⟨g, 0, none⟩) l := (h.bs h.lt).bt hb
theorem cv_take {w : World} {A : Option Addr} {l : List UInt8} {m : Nat} (hm : l.length = m) (h : Bs w w.heap.size A l) (c : Nat) :
    (convert 30 9 (.slice A m c)).run Try.prog w = .ok (.string ⟨l.toArray⟩) w := by
  subst hm
  exact conv_bytes Try.underlying30 Try.underlying5 Try.underlying9 h c

/-- The worlds in which nothing of what was there has turned. -/
def Gr (w : World) : Type := { W : World // Below w.heap.size w W }
instance (w : World) : Nonempty (Gr w) := ⟨⟨w, Below.refl _ _⟩⟩
theorem gr_drew (w : World) : Below w.heap.size w { w with drawn := w.drawn + 1 } := ⟨rfl, rfl, rfl, Nat.le_refl _, fun _ _ => rfl⟩
theorem quiet_alive {w : World} (x : Gr w) : Calls Try.prog 11 #[] x.1 fun e w'' => e = .returned (.bool true) ∧ ∃ y : Gr w, w'' = y.1 :=
  (alive_any x.1).mono fun _ w' ⟨he, hb⟩ => ⟨he, ⟨w', bt x.2 hb⟩, rfl⟩
theorem quiet_forced {w : World} {x : Gr w} {p room : Nat} {l : List UInt8} {f : Nat} (h : TapeAt x.1 p room l f) :
    Calls Try.prog 17 #[.pointer (some ⟨p, 0, none⟩)] x.1 fun e w'' => e = .returned (.int .i64 f) ∧ ∃ y : Gr w, w'' = y.1 :=
  (tapeForced p room l f x.1 h).mono fun _ w' ⟨he, hb⟩ => ⟨he, x, hb.symm⟩

set_option maxHeartbeats 800000 in
theorem tapeLasts_walk (room : Int) (A : Option Addr) (ops : List OpV) (c : Nat) (keep : Int) (w : World) (r1 : -9223372036854775808 ≤ room) (r2 : room ≤ 9223372036854775807) (h : OpsAt w A ops) (k1 : -9223372036854775808 ≤ keep) (k2 : keep ≤ 9223372036854775807) :
    Calls Try.prog 5 #[.int .i64 room, .slice A ops.length c, .int .i64 keep] w fun e w' => e = .returned (.bool true) ∧ Below w.heap.size w w' := by
  go_enter Try.func5, Try.ntmps5
  go_wp2_with fail
  refine (played_any room A ops c _ h).mono ?_
  rintro e w1 ⟨hb1, ⟨hR, rfl⟩ | ⟨p, l, f, hR, rfl, hp, hT1⟩⟩
  · clear hR
    go_wp2_with fail
    refine (alive_any _).mono ?_
    rintro e w2 ⟨rfl, hb2⟩
    go_wp2
    go_ret
    exact ⟨rfl, bt hb1 hb2⟩
  · clear hR
    have hf1 := hT1.f1
    have hl1 := hT1.l1
    have hr2 := hT1.r2
    go_wp2_with fail
    refine (tapeBytes _ _ _ _ _ hT1).mono ?_
    rintro e w2 ⟨rfl, hraw2, hb2⟩
    have hT2 := hT1.below hb2
    go_wp2_with fail
    refine (tapeForced _ _ _ _ _ hT2).mono ?_
    rintro e w' ⟨rfl, rfl⟩
    go_wp2_with fail
    have hc := tapeCrash _ _ _ _ keep _ hT2 k1 k2
    obtain ⟨m, hm⟩ : ∃ m, m = f + min keep.toNat (l.length - f) := ⟨_, rfl⟩
    rw [← hm] at hc
    have hm1 : f ≤ m := by omega
    have hm2 : m ≤ l.length := by omega
    clear hm
    refine hc.mono ?_
    clear hc
    rintro e w3 ⟨rfl, hT3, hg3, _⟩
    have hb3 : Below w.heap.size w w3 := (bt hb1 hb2).grown hg3 (bt hb1 hb2).size (fun k hk => by cases hk; exact hp)
    have hraw3 : Raw w3 w1.heap.size 5 l := hraw2.kept hg3 (fun e => by cases e; have := hT1.lt; omega)
    have hlen : (l.take m).length = m := by simp; omega
    go_wp2_with fail
    refine (tapeBytes _ _ _ _ _ hT3).mono ?_
    rintro e w4 ⟨rfl, hraw4, hb4⟩
    rw [hlen]
    have hT4 := hT3.below hb4
    have hraw4' := hraw3.below hb4 hraw3.lt
    have hb4' := bt hb3 hb4
    clear hraw2 hraw3 hb2 hb4 hT3 hT2 hT1 hg3
    have d1 : decide (f ≤ m) = true := by simpa using hm1
    have d2 : decide (m ≤ l.length) = true := by simpa using hm2
    go_wp2_with fail
    refine wp_region_quiet (C := fun w' => ∃ x : Gr w4, w' = x.1) (by kernel_rfl) (by kernel_rfl) ⟨⟨_, gr_drew w4⟩, rfl⟩ ?_
    have hT5 : ∀ x : Gr w4, TapeAt x.1 p room.toNat (l.take m) m := fun x => hT4.below x.2
    have cv1 : ∀ x : Gr w4, (convert 30 9 (.slice (some ⟨w3.heap.size, 0, none⟩) m m)).run Try.prog x.1 = .ok (.string ⟨(l.take m).toArray⟩) x.1 := fun x => cv_take hlen (raw_bs hraw4 x.2) m
    have cv2 : ∀ x : Gr w4, (convert 30 9 (.slice (some ⟨w1.heap.size, 0, none⟩) m l.length)).run Try.prog x.1 = .ok (.string ⟨(l.take m).toArray⟩) x.1 := fun x => cv_take hlen (bs_take (raw_bs hraw4' x.2) m) l.length
    have Hlen := Lib.hid hlen
    clear hlen
    simp only [List.toList_toArray]
    repeat (go_big_quiet_step (first
      | (go_at_call 11; exact quiet_alive _)
      | (go_at_call 17; exact quiet_forced (hT5 _))))
    refine wpQuiet_nil ?_
    rintro _ ⟨x, rfl⟩
    go_wp2
    go_ret
    exact ⟨rfl, bt hb4' x.2⟩
end Go.Proofs.Ytjgemjgdioppdaa
