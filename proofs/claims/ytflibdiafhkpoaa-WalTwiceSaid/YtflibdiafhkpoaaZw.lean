/- The law that a log opened twice is as one opened once. -/
import Derived.Test.YtflibdiafhkpoaaZe
import Derived.Test.YtflibdiafhkpoaaZp
import Derived.Test.YtflibdiafhkpoaaOpenW
import Derived.Test.YtflibdiafhkpoaaInvT
namespace Go.Proofs.Ytflibdiafhkpoaa
open Go.RowKit
set_option linter.unusedVariables false
set_option linter.unusedSimpArgs false

theorem OpenO.below {w w' w0 : World} {p room : Nat} {r : List (Int × List UInt8)} {l : List UInt8} {e : Ending} (h : OpenO w p room r l e w') (hb : Below w0.heap.size w0 w) (hp : w0.heap.size ≤ p) : Below w0.heap.size w0 w' := by
  obtain ⟨q, A, c, _, _, _, hg, _⟩ := h
  exact hb.grown hg hb.size (fun k hk => by cases hk; exact hp)
theorem TapeOut.below {w w' w0 : World} {p room : Nat} {r : Int × List UInt8 × Nat} {e : Ending} (h : TapeOut w p room r e w') (hb : Below w0.heap.size w0 w) (hp : w0.heap.size ≤ p) : Below w0.heap.size w0 w' :=
  hb.grown h.2.2.1 hb.size (fun k hk => by cases hk; exact hp)
theorem TapeAt.blk {w : World} {p room : Nat} {l : List UInt8} {f : Nat} (h : TapeAt w p room l f) : ∃ cs, Blk w p 67 cs := by
  obtain ⟨A, c, h1, _⟩ := h.at_; exact ⟨_, h1⟩
theorem Raw.bt {w w' : World} {g : Nat} {e : TypeId} {l : List UInt8} (h : Raw w g e l) (hb : Below w.heap.size w w') : Raw w' g e l := h.below hb h.lt
theorem Raw.grown {w w' : World} {g p : Nat} {e : TypeId} {l : List UInt8} {cs : Array Value} {t : TypeId} (h : Raw w g e l) (hg : w.grownBy w' (some p)) (hp : Blk w p t cs) (hne : t ≠ e) : Raw w' g e l :=
  h.kept hg (fun e' => by cases e'; exact hp.ne_raw h hne rfl)
theorem raw_cv {w : World} {g n : Nat} {l : List UInt8} (h : Raw w g 5 l) (hn : Hid (n = l.length)) :
    (convert 22 9 (.slice (some ⟨g, 0, none⟩) n n)).run Try.prog w = .ok (.string ⟨l.toArray⟩) w := by
  rw [hn.out]
  exact conv_bytes Try.underlying22 Try.underlying5 Try.underlying9 (h.bs h.lt) _
theorem un_drew {a b : World} (h : Below a.drew.heap.size a.drew b) : Below a.heap.size a b := ⟨h.os, h.tape, h.output, h.size, h.block⟩
theorem readL_few : ∀ (k : Nat) (b : List UInt8), 7 * (readL k b).1.length ≤ b.length ∧ ∀ x ∈ (readL k b).1, x.2.length ≤ 1024 := by
  intro k
  induction k with
  | zero => intro b; exact ⟨Nat.zero_le _, fun x hx => by cases hx⟩
  | succ k ih =>
    intro b
    rcases hf : frontR b with _ | ⟨i, d, n⟩
    · rw [readL_none hf]; exact ⟨Nat.zero_le _, fun x hx => by cases hx⟩
    · rw [readL_some hf]
      have h1 := frontR_len hf
      obtain ⟨h2, h3⟩ := ih (b.drop n)
      rw [List.length_drop] at h2
      refine ⟨by simp only [List.length_cons]; omega, fun x hx => ?_⟩
      rcases List.mem_cons.1 hx with rfl | hx
      · show d.length ≤ 1024; omega
      · exact h3 x hx
theorem same_n (A1 A2 : Option Addr) (vs : List (Int × List UInt8)) (n1 n2 c1 c2 : Nat) (hn1 : Hid (n1 = vs.length)) (hn2 : Hid (n2 = vs.length)) (w : World) (hm : vs.length ≤ 9223372036854775807) (hl : ∀ x ∈ vs, x.2.length ≤ 9223372036854775807) (h1 : RecsIn w w.heap.size A1 vs) (h2 : RecsIn w w.heap.size A2 vs) :
    Calls Try.prog 17 #[.slice A1 n1 c1, .slice A2 n2 c2] w fun e w' => e = .returned (.bool true) ∧ Below w.heap.size w w' := by
  rw [hn1.out, hn2.out]
  refine (same_yes A1 A2 vs c1 c2 w hm hl h1 h2).mono ?_
  rintro e w' ⟨rfl, n, rfl⟩
  exact ⟨rfl, bl_drewN w n⟩

def FreshB (l : List UInt8) (v : Value) (w : World) : Prop := ∃ g, v = .slice (some ⟨g, 0, none⟩) l.length l.length ∧ Raw w g 5 l
def VTw (p g3 : Nat) (l : List UInt8) (rn ln : Nat) (A3 : Option Addr) (c3 : Nat) (A5 : Option Addr) (c5 : Nat) (i : Nat) (v : Value) (w : World) : Prop :=
  match i with
  | 0 => v = .bool true
  | 1 => v = .bool true
  | 2 => v = .int .i64 0
  | 3 => v = .bool true
  | 4 => v = .bool true
  | 5 => v = .bool true
  | 6 => v = .int .i64 0
  | 7 => v = .bool true
  | 8 => v = .bool true
  | 9 => v = .bool true
  | 10 => v = .slice A3 rn c3
  | 11 => v = .slice A5 rn c5
  | 12 => v = .bool true
  | 13 => v = .bool true
  | 14 => v = .bool true
  | 15 => v = .pointer (some ⟨p, 0, none⟩)
  | 16 => FreshB l v w
  | 17 => v = .string ⟨l.toArray⟩
  | 18 => v = .slice (some ⟨g3, 0, none⟩) ln ln
  | 19 => v = .string ⟨l.toArray⟩
  | 20 => v = .bool true
  | 21 => v = .bool true
  | 22 => v = .bool true
  | 23 => v = .pointer (some ⟨p, 0, none⟩)
  | 24 => v = .int .i64 l.length
  | 25 => v = .pointer (some ⟨p, 0, none⟩)
  | 26 => v = .int .i64 l.length
  | 27 => v = .bool true
  | 28 => v = .bool true
  | 29 => v = .bool true
  | _ => True
theorem VTw.mono {p g3 : Nat} {l : List UInt8} {rn ln : Nat} {A3 : Option Addr} {c3 : Nat} {A5 : Option Addr} {c5 i : Nat} {v : Value} {u u' : World} (hb : Below u.heap.size u u') (h : VTw p g3 l rn ln A3 c3 A5 c5 i v u) : VTw p g3 l rn ln A3 c3 A5 c5 i v u' := by
  unfold VTw at h ⊢
  split at h <;> first | exact h | (obtain ⟨g, e, hr⟩ := h; exact ⟨g, e, hr.bt hb⟩)
set_option maxHeartbeats 8000000 in
theorem twice_in (A : Option Addr) (b : List UInt8) (n c : Nat) (w : World) (hn : Hid (n = b.length)) (hbs : Bs w w.heap.size A b) (hb : decide (3000 < (n : Int)) = false) :
    Calls Try.prog 7 #[.slice A n c] w fun e w' => e = .returned (.bool true) ∧ Below w.heap.size w w' := by
  have hle : Hid (n ≤ 3000) := Lib.hid (by simp at hb; omega)
  obtain ⟨r, m, hr⟩ : ∃ r m, readR b = (r, m) := ⟨_, _, rfl⟩
  have hfew := readL_few b.length b
  have hmle := readL_le b.length b
  rw [show readL b.length b = (r, m) from hr] at hfew hmle
  have hagain := readR_take b
  rw [hr] at hagain
  dsimp only at hfew hmle hagain
  obtain ⟨l, hl⟩ : ∃ l, l = b.take m := ⟨_, rfl⟩
  rw [← hl] at hagain
  have hll : l.take m = l := by rw [hl, List.take_take, Nat.min_self]
  have hllen : Hid (l.length ≤ 65536) := Lib.hid (by rw [hl, List.length_take]; have := hle.out; have := hn.out; omega)
  have hrn : Hid (r.length ≤ 9223372036854775807) := Lib.hid (by have := hle.out; have := hn.out; omega)
  have hrl : Hid (∀ x ∈ r, x.2.length ≤ 9223372036854775807) := Lib.hid (fun x hx => by have := hfew.2 x hx; omega)
  have p1 : ∀ (p : Nat) (w : World), TapeAt w p 65536 [] 0 → Bs w w.heap.size A b → Calls Try.prog 20 #[.pointer (some ⟨p, 0, none⟩), .slice A n c] w (TapeOut w p 65536 (0, b, 0)) := fun p w h hb => by
    have := tapeAppend p 65536 [] 0 A b c w h hb (by have := hle.out; have := hn.out; omega)
    rw [if_neg (by have := hle.out; have := hn.out; simp only [List.length_nil]; omega), ← hn.out] at this
    exact this
  have p2 : ∀ (p f : Nat) (w : World), TapeAt w p 65536 b f → Calls Try.prog 22 #[.pointer (some ⟨p, 0, none⟩)] w (OpenO w p 65536 r l) := fun p f w h => by
    have := open_any p 65536 b f w h
    rw [hr] at this
    dsimp only at this
    rw [← hl] at this
    exact this
  have p3 : ∀ (p f : Nat) (w : World), TapeAt w p 65536 l f → Calls Try.prog 22 #[.pointer (some ⟨p, 0, none⟩)] w (OpenO w p 65536 r l) := fun p f w h => by
    have := open_any p 65536 l f w h
    rw [hagain] at this
    dsimp only at this
    rw [hll] at this
    exact this
  clear hfew hmle hagain hll hl hr
  obtain ⟨rn, hrN⟩ : ∃ rn, rn = r.length := ⟨_, rfl⟩
  obtain ⟨ln, hlN⟩ : ∃ ln, ln = l.length := ⟨_, rfl⟩
  have HrN := Lib.hid hrN
  have HlN := Lib.hid hlN
  clear hrN hlN
  have P1 := Lib.hid p1
  have P2 := Lib.hid p2
  have P3 := Lib.hid p3
  have HB := Lib.hid hbs
  clear p1 p2 p3 hbs
  go_enter Try.func7, Try.ntmps7
  go_wp2_with fail
  refine (new_ok 65536 _ (by omega) (by omega)).mono ?_
  rintro e w1 ⟨rfl, hT1, hb1⟩
  go_wp2_with fail
  refine (P1.out _ _ hT1 (HB.out.bt hb1)).mono ?_
  rintro e w2 h2
  have hb2 := h2.below hb1 (Nat.le_refl _)
  obtain ⟨rfl, hT2, -⟩ := h2
  clear hT1 hb1
  go_wp2_with fail
  refine (P2.out _ _ _ hT2).mono ?_
  rintro e w3 h3
  have hb3 := h3.below hb2 (Nat.le_refl _)
  obtain ⟨q3, A3, c3, rfl, hT3, hR3, -⟩ := h3
  rw [← HrN.out]
  have hsz2 := hb2.size
  have hsz2' := hT2.lt'
  clear hT2 hb2
  go_wp2_with fail
  refine (tapeBytes _ _ _ _ _ hT3).mono ?_
  rintro e w4 ⟨rfl, hr4, hb4⟩
  rw [← HlN.out]
  have hT4 := hT3.below hb4
  have hR4 := hR3.kept (gbelow hb4 none) (fun r e => by cases e)
  have hbb4 := bt hb3 hb4
  clear hT3 hR3 hb3 hb4
  go_wp2_with fail
  refine (P3.out _ _ _ hT4).mono ?_
  rintro e w5 h5
  have hb5 := h5.below hbb4 (Nat.le_refl _)
  obtain ⟨q5, A5, c5, rfl, hT5, hR5, hg5, -⟩ := h5
  rw [← HrN.out]
  have hR45 := hR4.kept hg5 (fun r e => by cases e; omega)
  obtain ⟨_, hblk4⟩ := hT4.blk
  have hr5 := hr4.grown hg5 hblk4 (by decide)
  have hi1 := hR45.in_
  have hi2 := hR5.in_
  clear hblk4 hT4 hr4 hR4 hbb4 hg5 hR45 hR5 P1 P2 P3 HB hsz2 hsz2' hllen hle hn hb
  go_wp2_with fail
  refine wp_region_invT (F := ?FW) (V := VTw w.heap.size w3.heap.size l rn ln A3 c3 A5 c5) (dead := fun _ => none) (T := fun _ _ => True) (C := fun u => Below w5.heap.size w5 u) (E := fun _ u u' => Below u.heap.size u u') (by kernel_rfl) (by kernel_rfl) (by kernel_rfl) (fun x => ?hFW) ?hmonoW ?hTmW ?hTW ?hCW ?stepW ?finW
  case hFW => simp only [mkA, Act.put, List.setIfInBounds_toArray, List.set_cons_succ, List.set_cons_zero, Nat.reduceAdd, Nat.zero_add]; first | with_reducible rfl | rfl
  case hmonoW => exact fun k i v u u' he _ _ _ hv => VTw.mono he hv
  case hTmW => exact fun _ _ _ _ _ _ _ _ => trivial
  case hTW => exact fun j => trivial
  case hCW => exact (Below.refl _ _).drew
  case stepW =>
    refine AllOps.cons (fun x u hC hT hp K hK => ?_) ?_
    · clear hp hT
      go_simp
      refine (alive_any _).mono ?_
      rintro e wA ⟨rfl, hbA⟩
      refine hK _ _ _ (bt hC hbA) hbA (by exact rfl) ?_
      first | (simp only [Act.put, List.setIfInBounds_toArray, List.set_cons_succ, List.set_cons_zero]; done) | simp [Act.put]
    refine AllOps.cons (fun x u hC hT hp K hK => ?_) ?_
    · simp [KnownTill, Region.binds, VTw] at hp
      clear hT
      go_simp
      refine hK _ _ _ hC (Below.refl _ _) (by exact rfl) ?_
      first | (simp only [Act.put, List.setIfInBounds_toArray, List.set_cons_succ, List.set_cons_zero, hp]; done) | simp [Act.put, hp]
    refine AllOps.cons (fun x u hC hT hp K hK => ?_) ?_
    · simp [KnownTill, Region.binds, VTw] at hp
      clear hT
      go_simp
      refine hK _ _ _ hC (Below.refl _ _) (by exact rfl) ?_
      first | (simp only [Act.put, List.setIfInBounds_toArray, List.set_cons_succ, List.set_cons_zero, hp]; done) | simp [Act.put, hp]
    refine AllOps.cons (fun x u hC hT hp K hK => ?_) ?_
    · simp [KnownTill, Region.binds, VTw] at hp
      clear hT
      go_simp
      refine hK _ _ _ hC (Below.refl _ _) (by exact rfl) ?_
      first | (simp only [Act.put, List.setIfInBounds_toArray, List.set_cons_succ, List.set_cons_zero, hp]; done) | simp [Act.put, hp]
    refine AllOps.cons (fun x u hC hT hp K hK => ?_) ?_
    · simp [KnownTill, Region.binds, VTw] at hp
      clear hT
      go_simp
      refine hK _ _ _ hC (Below.refl _ _) (by exact rfl) ?_
      first | (simp only [Act.put, List.setIfInBounds_toArray, List.set_cons_succ, List.set_cons_zero, hp]; done) | simp [Act.put, hp]
    refine AllOps.cons (fun x u hC hT hp K hK => ?_) ?_
    · simp [KnownTill, Region.binds, VTw] at hp
      clear hT
      go_simp
      refine hK _ _ _ hC (Below.refl _ _) (by exact rfl) ?_
      first | (simp only [Act.put, List.setIfInBounds_toArray, List.set_cons_succ, List.set_cons_zero, hp]; done) | simp [Act.put, hp]
    refine AllOps.cons (fun x u hC hT hp K hK => ?_) ?_
    · simp [KnownTill, Region.binds, VTw] at hp
      clear hT
      go_simp
      refine hK _ _ _ hC (Below.refl _ _) (by exact rfl) ?_
      first | (simp only [Act.put, List.setIfInBounds_toArray, List.set_cons_succ, List.set_cons_zero, hp]; done) | simp [Act.put, hp]
    refine AllOps.cons (fun x u hC hT hp K hK => ?_) ?_
    · simp [KnownTill, Region.binds, VTw] at hp
      clear hT
      go_simp
      refine hK _ _ _ hC (Below.refl _ _) (by exact rfl) ?_
      first | (simp only [Act.put, List.setIfInBounds_toArray, List.set_cons_succ, List.set_cons_zero, hp]; done) | simp [Act.put, hp]
    refine AllOps.cons (fun x u hC hT hp K hK => ?_) ?_
    · simp [KnownTill, Region.binds, VTw] at hp
      clear hT
      go_simp
      refine hK _ _ _ hC (Below.refl _ _) (by exact rfl) ?_
      first | (simp only [Act.put, List.setIfInBounds_toArray, List.set_cons_succ, List.set_cons_zero, hp]; done) | simp [Act.put, hp]
    refine AllOps.cons (fun x u hC hT hp K hK => ?_) ?_
    · simp [KnownTill, Region.binds, VTw] at hp
      clear hT
      go_simp
      refine hK _ _ _ hC (Below.refl _ _) (by exact rfl) ?_
      first | (simp only [Act.put, List.setIfInBounds_toArray, List.set_cons_succ, List.set_cons_zero, hp]; done) | simp [Act.put, hp]
    refine AllOps.cons (fun x u hC hT hp K hK => ?_) ?_
    · simp [KnownTill, Region.binds, VTw] at hp
      clear hT
      go_simp
      refine hK _ _ _ hC (Below.refl _ _) (by exact rfl) ?_
      first | (simp only [Act.put, List.setIfInBounds_toArray, List.set_cons_succ, List.set_cons_zero, hp]; done) | simp [Act.put, hp]
    refine AllOps.cons (fun x u hC hT hp K hK => ?_) ?_
    · simp [KnownTill, Region.binds, VTw] at hp
      clear hT
      go_simp
      refine hK _ _ _ hC (Below.refl _ _) (by exact rfl) ?_
      first | (simp only [Act.put, List.setIfInBounds_toArray, List.set_cons_succ, List.set_cons_zero, hp]; done) | simp [Act.put, hp]
    refine AllOps.cons (fun x u hC hT hp K hK => ?_) ?_
    · simp [KnownTill, Region.binds, VTw] at hp
      clear hT
      go_simp
      refine (same_n A3 A5 r rn rn c3 c5 HrN HrN u hrn.out hrl.out (hi1.bt hC) (hi2.bt hC)).mono ?_
      rintro e wA ⟨rfl, hbB⟩
      refine hK _ _ _ (bt hC hbB) hbB (by exact rfl) ?_
      first | (simp only [Act.put, List.setIfInBounds_toArray, List.set_cons_succ, List.set_cons_zero, hp]; done) | simp [Act.put, hp]
    refine AllOps.cons (fun x u hC hT hp K hK => ?_) ?_
    · simp [KnownTill, Region.binds, VTw] at hp
      clear hT
      go_simp
      refine hK _ _ _ hC (Below.refl _ _) (by exact rfl) ?_
      first | (simp only [Act.put, List.setIfInBounds_toArray, List.set_cons_succ, List.set_cons_zero, hp]; done) | simp [Act.put, hp]
    refine AllOps.cons (fun x u hC hT hp K hK => ?_) ?_
    · simp [KnownTill, Region.binds, VTw] at hp
      clear hT
      go_simp
      refine hK _ _ _ hC (Below.refl _ _) (by exact rfl) ?_
      first | (simp only [Act.put, List.setIfInBounds_toArray, List.set_cons_succ, List.set_cons_zero, hp]; done) | simp [Act.put, hp]
    refine AllOps.cons (fun x u hC hT hp K hK => ?_) ?_
    · simp [KnownTill, Region.binds, VTw] at hp
      clear hT
      go_simp
      refine hK _ _ _ hC (Below.refl _ _) (by exact rfl) ?_
      first | (simp only [Act.put, List.setIfInBounds_toArray, List.set_cons_succ, List.set_cons_zero, hp]; done) | simp [Act.put, hp]
    refine AllOps.cons (fun x u hC hT hp K hK => ?_) ?_
    · simp [KnownTill, Region.binds, VTw] at hp
      clear hT
      go_simp
      refine (tapeBytes w.heap.size 65536 l l.length u (hT5.below hC)).mono ?_
      rintro e wA ⟨rfl, hrC, hbC⟩
      refine hK _ _ _ (bt hC hbC) hbC (by exact ⟨_, rfl, hrC⟩) ?_
      first | (simp only [Act.put, List.setIfInBounds_toArray, List.set_cons_succ, List.set_cons_zero, hp]; done) | simp [Act.put, hp]
    refine AllOps.cons (fun x u hC hT hp K hK => ?_) ?_
    · simp [KnownTill, Region.binds, VTw] at hp
      clear hT
      obtain ⟨hF, hg⟩ := hp
      obtain ⟨g, hx, hr⟩ := hF
      have cv := raw_cv hr (Lib.hid rfl)
      go_simp
      refine hK _ _ _ hC (Below.refl _ _) (by exact rfl) ?_
      simp [Act.put, hx, hg]
    refine AllOps.cons (fun x u hC hT hp K hK => ?_) ?_
    · simp [KnownTill, Region.binds, VTw] at hp
      clear hT
      go_simp
      refine hK _ _ _ hC (Below.refl _ _) (by exact rfl) ?_
      first | (simp only [Act.put, List.setIfInBounds_toArray, List.set_cons_succ, List.set_cons_zero, hp]; done) | simp [Act.put, hp]
    refine AllOps.cons (fun x u hC hT hp K hK => ?_) ?_
    · simp [KnownTill, Region.binds, VTw] at hp
      clear hT
      have cv := raw_cv (hr5.bt hC) HlN
      go_simp
      refine hK _ _ _ hC (Below.refl _ _) (by exact rfl) ?_
      simp [Act.put, hp]
    refine AllOps.cons (fun x u hC hT hp K hK => ?_) ?_
    · simp [KnownTill, Region.binds, VTw] at hp
      clear hT
      go_simp
      refine hK _ _ _ hC (Below.refl _ _) (by exact rfl) ?_
      first | (simp only [Act.put, List.setIfInBounds_toArray, List.set_cons_succ, List.set_cons_zero, hp]; done) | simp [Act.put, hp]
    refine AllOps.cons (fun x u hC hT hp K hK => ?_) ?_
    · simp [KnownTill, Region.binds, VTw] at hp
      clear hT
      go_simp
      refine hK _ _ _ hC (Below.refl _ _) (by exact rfl) ?_
      first | (simp only [Act.put, List.setIfInBounds_toArray, List.set_cons_succ, List.set_cons_zero, hp]; done) | simp [Act.put, hp]
    refine AllOps.cons (fun x u hC hT hp K hK => ?_) ?_
    · simp [KnownTill, Region.binds, VTw] at hp
      clear hT
      go_simp
      refine hK _ _ _ hC (Below.refl _ _) (by exact rfl) ?_
      first | (simp only [Act.put, List.setIfInBounds_toArray, List.set_cons_succ, List.set_cons_zero, hp]; done) | simp [Act.put, hp]
    refine AllOps.cons (fun x u hC hT hp K hK => ?_) ?_
    · simp [KnownTill, Region.binds, VTw] at hp
      clear hT
      go_simp
      refine hK _ _ _ hC (Below.refl _ _) (by exact rfl) ?_
      first | (simp only [Act.put, List.setIfInBounds_toArray, List.set_cons_succ, List.set_cons_zero, hp]; done) | simp [Act.put, hp]
    refine AllOps.cons (fun x u hC hT hp K hK => ?_) ?_
    · simp [KnownTill, Region.binds, VTw] at hp
      clear hT
      go_simp
      refine (tapeForced w.heap.size 65536 l l.length u (hT5.below hC)).mono ?_
      rintro e wA ⟨rfl, rfl⟩
      refine hK _ _ _ hC (Below.refl _ _) (by exact rfl) ?_
      first | (simp only [Act.put, List.setIfInBounds_toArray, List.set_cons_succ, List.set_cons_zero, hp]; done) | simp [Act.put, hp]
    refine AllOps.cons (fun x u hC hT hp K hK => ?_) ?_
    · simp [KnownTill, Region.binds, VTw] at hp
      clear hT
      go_simp
      refine hK _ _ _ hC (Below.refl _ _) (by exact rfl) ?_
      first | (simp only [Act.put, List.setIfInBounds_toArray, List.set_cons_succ, List.set_cons_zero, hp]; done) | simp [Act.put, hp]
    refine AllOps.cons (fun x u hC hT hp K hK => ?_) ?_
    · simp [KnownTill, Region.binds, VTw] at hp
      clear hT
      go_simp
      refine (tapeLen w.heap.size 65536 l l.length u (hT5.below hC)).mono ?_
      rintro e wA ⟨rfl, rfl⟩
      refine hK _ _ _ hC (Below.refl _ _) (by exact rfl) ?_
      first | (simp only [Act.put, List.setIfInBounds_toArray, List.set_cons_succ, List.set_cons_zero, hp]; done) | simp [Act.put, hp]
    refine AllOps.cons (fun x u hC hT hp K hK => ?_) ?_
    · simp [KnownTill, Region.binds, VTw] at hp
      clear hT
      go_simp
      refine hK _ _ _ hC (Below.refl _ _) (by exact rfl) ?_
      first | (simp only [Act.put, List.setIfInBounds_toArray, List.set_cons_succ, List.set_cons_zero, hp]; done) | simp [Act.put, hp]
    refine AllOps.cons (fun x u hC hT hp K hK => ?_) ?_
    · simp [KnownTill, Region.binds, VTw] at hp
      clear hT
      go_simp
      refine hK _ _ _ hC (Below.refl _ _) (by exact rfl) ?_
      first | (simp only [Act.put, List.setIfInBounds_toArray, List.set_cons_succ, List.set_cons_zero, hp]; done) | simp [Act.put, hp]
    refine AllOps.cons (fun x u hC hT hp K hK => ?_) ?_
    · simp [KnownTill, Region.binds, VTw] at hp
      clear hT
      go_simp
      refine hK _ _ _ hC (Below.refl _ _) (by exact rfl) ?_
      first | (simp only [Act.put, List.setIfInBounds_toArray, List.set_cons_succ, List.set_cons_zero, hp]; done) | simp [Act.put, hp]
    exact AllOps.nil
  case finW =>
    intro x u hC hV
    have h29 := hV 29 (by decide) rfl
    simp only [VTw] at h29
    clear hV
    go_wp2
    go_ret
    exact ⟨by rw [h29]; rfl, bt hb5 hC⟩

theorem walTwice_walk (A : Option Addr) (b : List UInt8) (c : Nat) (w : World) (hbs : Bs w w.heap.size A b) (h1 : b.length ≤ c) (h2 : c ≤ 9223372036854775807) :
    Calls Try.prog 7 #[.slice A b.length c] w fun e w' => e = .returned (.bool true) ∧ Below w.heap.size w w' := by
  by_cases hb : 3000 < (b.length : Int)
  · go_enter Try.func7, Try.ntmps7
    go_wp2_with fail
    refine (alive_any _).mono ?_
    rintro e w3 ⟨rfl, hb3⟩
    go_wp2
    go_ret
    exact ⟨rfl, hb3⟩
  · exact twice_in A b b.length c w (Lib.hid rfl) hbs (decide_eq_false hb)
end Go.Proofs.Ytflibdiafhkpoaa
