/- The law that each record has just its bytes, and any bytes are read as the records at their front. -/
import Derived.Test.YthaamnkihnbgaaaYb
import Derived.Test.YthaamnkihnbgaaaZe
import Derived.Test.YthaamnkihnbgaaaOpenW
namespace Go.Proofs.Ythaamnkihnbgaaa
open Go.RowKit
set_option linter.unusedVariables false
set_option linter.unusedSimpArgs false

theorem yxor_u8 (x y : UInt8) : bits .xor .u8 (x.toNat : Int) (y.toNat : Int) = ((x ^^^ y).toNat : Int) := by
  rw [u8_xor_nat _ _ x.toNat_lt y.toNat_lt, UInt8.toNat_xor]
theorem yxor_255 (x : UInt8) : bits .xor .u8 (x.toNat : Int) 255 = ((x ^^^ 255).toNat : Int) := yxor_u8 x 255
theorem Own.capY {w : World} {base : Nat} {e : TypeId} {A : Option Addr} {c : Nat} {l : List UInt8} (h : Own w base e A c l) : l.length ≤ c ∧ c ≤ 9223372036854775807 := by
  rcases h.2 with ⟨h1, h2⟩ | ⟨g, cap, cur, h1, hb, hg, hnc, hm, hsz, htk⟩
  · simp only [Value.slice.injEq] at h1; omega
  · simp only [Value.slice.injEq] at h1
    obtain ⟨_, _, rfl⟩ := h1
    unfold maxLen at hm
    simp only [Nat.mul_one] at *
    omega
theorem Own.fixY {w : World} {base : Nat} {e : TypeId} {A : Option Addr} {c : Nat} {l : List UInt8} (h : Own w base e A c l) (hp : 0 < l.length) : ∃ g, A = some ⟨g, 0, none⟩ := by
  obtain ⟨g, h1, _⟩ := h.form hp; exact ⟨g, h1⟩
theorem readL_short : ∀ (k : Nat) (b : List UInt8), (readL k b).1.length ≤ b.length ∧ ∀ x ∈ (readL k b).1, x.2.length ≤ 1024 := by
  intro k
  induction k with
  | zero => intro b; exact ⟨Nat.zero_le _, fun x hx => by cases hx⟩
  | succ k ih =>
    intro b
    rcases hf : frontR b with _ | ⟨i, d, n⟩
    · rw [readL_none hf]; exact ⟨Nat.zero_le _, fun x hx => by cases hx⟩
    · rw [readL_some hf]
      have h1 := frontR_len hf
      obtain ⟨h2, h3⟩ := ih (b.drop n)
      rw [List.length_drop] at h2
      refine ⟨by simp only [List.length_cons]; omega, fun x hx => ?_⟩
      rcases List.mem_cons.1 hx with rfl | hx
      · show d.length ≤ 1024; omega
      · exact h3 x hx

set_option maxRecDepth 100000 in
set_option maxHeartbeats 4000000 in
theorem walWrites_walk (o : RecV) (A : Option Addr) (l : List UInt8) (c : Nat) (w : World) (h : RecOk w o) (hb : Bs w w.heap.size A l) (hcap : l.length ≤ c) (hc2 : c ≤ 9223372036854775807) :
    Calls Try.prog 3 #[o.val, .slice A l.length c] w fun e w' => e = .returned (.bool true) ∧ Below w.heap.size w w' := by
  obtain ⟨id, Ar, d, cr⟩ := o
  obtain ⟨k1, k2, hbr, hlr, hcr⟩ := h
  dsimp only at k1 k2 hbr hlr hcr
  unfold RecV.val
  dsimp only
  obtain ⟨n, hn⟩ : ∃ n, n = l.length := ⟨_, rfl⟩
  obtain ⟨m, hm⟩ : ∃ m, m = d.length := ⟨_, rfl⟩
  have Hcap := Lib.hid hcap
  have Hc2 := Lib.hid hc2
  by_cases h4 : (3000 : Int) < (m : Int) ∨ (4000 : Int) < (n : Int)
  · rw [← hn, ← hm]
    clear hcap hc2 hn hm
    have hcs : (3000 : Int) < (m : Int) ∨ (¬ (3000 : Int) < (m : Int) ∧ (4000 : Int) < (n : Int)) := by omega
    clear h4
    rcases hcs with h4 | ⟨h4, h5⟩
    all_goals
      go_enter Try.func3, Try.ntmps3
      go_wp2_with fail
      refine (alive_any _).mono ?_
      rintro e w1 ⟨rfl, hb1⟩
      have hb1' := bt (ba w (.cells #[.int .i64 id, .slice Ar m cr] 24)) hb1
      go_wp2
      go_ret
      exact ⟨rfl, hb1'⟩
  · have h3 : ¬ (3000 : Int) < (m : Int) := fun h => h4 (.inl h)
    have h5 : ¬ (4000 : Int) < (n : Int) := fun h => h4 (.inr h)
    clear h4
    have p1 := fun (w' : World) (hb : Below w.heap.size w w') => write_any id Ar d m cr w' hm (by unfold maxLen; omega) (hbr.bt hb)
    have p2 := fun (w' : World) (hb : Below w.heap.size w w') => refwrite_any id Ar d m cr w' hm (by unfold maxLen; omega) (hbr.bt hb)
    obtain ⟨L, E, hLE⟩ : ∃ L E, writeR id d = (L, E) := ⟨_, _, rfl⟩
    rw [hLE] at p1 p2
    have p3 := fun (w' : World) (h : Below w.heap.size w w') => copy_any A l c w' (by omega) (hb.bt h)
    obtain ⟨R, N2, hR⟩ : ∃ R N2, readR l = (R, N2) := ⟨_, _, rfl⟩
    have hfew := readL_short l.length l
    rw [show readL l.length l = (R, N2) from hR] at hfew
    dsimp only at hfew
    have p4 := fun (A3 : Option Addr) (c3 : Nat) (w' : World) (h : Bs w' w'.heap.size A3 l) (g1 : l.length ≤ c3) (g2 : c3 ≤ 9223372036854775807) => read_any A3 l n c3 w' (Lib.hid hn) (Lib.hid (by omega)) (Lib.hid g2) (Lib.hid (by omega)) h
    have p5 := fun (w' : World) (h : Below w.heap.size w w') => refread_any A l n c w' (Lib.hid hn) (Lib.hid (by omega)) (Lib.hid hc2) (Lib.hid (by omega)) (hb.bt h)
    rw [hR] at p4 p5
    unfold OutB at p1 p2
    unfold ReadO at p4 p5
    dsimp only at p1 p2 p4 p5
    rw [← hn] at p3
    have hRl : R.length ≤ 9223372036854775807 := by omega
    have hRx : ∀ x ∈ R, x.2.length ≤ 9223372036854775807 := fun x hx => by have := hfew.2 x hx; omega
    rw [← hn, ← hm]
    have P1 := Lib.hid p1
    have P2 := Lib.hid p2
    have P3 := Lib.hid p3
    have P4 := Lib.hid p4
    have P5 := Lib.hid p5
    have HR := Lib.hid (And.intro hRl hRx)
    have HN := Lib.hid hn
    clear p1 p2 p3 p4 p5 hcap hc2 hn hm hLE hR hfew hRl hRx hbr hb hlr hcr k1 k2
    go_enter Try.func3, Try.ntmps3
    have kb := Blk.new w 24 #[.int .i64 id, .slice Ar m cr]
    have hb0 := ba w (.cells #[.int .i64 id, .slice Ar m cr] 24)
    go_wp2_with fail
    refine (P1.out _ hb0).mono ?_
    rintro e w1 ⟨A1, c1, rfl, own1, hb1⟩
    have kb1 := kb.below hb1 kb.lt
    have hb01 := bt hb0 hb1
    have d0 := kb1.cell 0
    have d1 := kb1.cell 1
    simp only [List.getElem?_toArray, List.getElem?_cons_zero, List.getElem?_cons_succ] at d0 d1
    clear kb hb0 hb1
    go_wp2_with fail
    refine (P2.out _ hb01).mono ?_
    rintro e w2 ⟨A2, c2, rfl, own2, hb2⟩
    have hb02 := bt hb01 hb2
    have own12 := own1.below hb2 (Nat.le_refl _)
    clear kb1 hb01 hb2 d0 d1 own1
    go_wp2_with fail
    refine (P3.out _ hb02).mono ?_
    rintro e w3 ⟨A3, c3, rfl, own3, hb3⟩
    have hb03 := bt hb02 hb3
    have hsz2 := hb02.size
    clear hb02
    go_wp2_with fail
    refine (P4.out A3 c3 w3 own3.bs own3.capY.1 own3.capY.2).mono ?_
    rintro e w4 ⟨A4, c4, rfl, hL4, hb4, hc4⟩
    have hb04 := bt hb03 hb4
    have hb24 := bt hb3 hb4
    have own4 := own3.below hb4 (Nat.le_refl _)
    have hlt3 : ∀ k, blk A3 = some k → w2.heap.size ≤ k ∧ k < w3.heap.size := own3.lt
    have Hlt3 := Lib.hid hlt3
    clear hb03 hb4 hb3 own3 hlt3
    go_wp2_with fail
    go_loopw [12] (fun i wr => ∃ (k : Nat) (l' : List UInt8), k ≤ n ∧ i = .int .i64 k ∧ Hid (l'.length = n) ∧ Own wr w2.heap.size 5 A3 c3 l' ∧ RecsFrom wr w3.heap.size A4 R ∧ Below w2.heap.size w2 wr ∧ Below w.heap.size w wr) (fun i _ => n - (intOf i).toNat)
    case atStart => exact ⟨0, l, Nat.zero_le _, rfl, Lib.hid HN.out.symm, own4, hL4, hb24, hb04⟩
    case round =>
      clear own4 hL4 hb24 hb04
      obtain ⟨k, l', hk, rfl, hl', own3, hL3, hb2r, hbw⟩ := hrel
      by_cases hlt : k < n
      · obtain ⟨g, rfl⟩ := own3.fixY (by rw [hl'.out]; omega)
        have hkl : k < l'.length := by rw [hl'.out]; exact hlt
        have c0 := own3.cell k hkl
        have f0 := own3.frozen k
        have st := own3.stored k (l'[k] ^^^ 255)
        have hx := l'[k].toNat_lt
        obtain ⟨x, hxd⟩ : ∃ x, x = l'[k] := ⟨_, rfl⟩
        rw [← hxd] at c0 st hx
        rw [← yxor_255] at st
        have hkI : (k : Int) < (n : Int) := by omega
        have hg1 := Hlt3.out g rfl
        have Hst := Lib.hid st
        have HgN := Lib.hid hg1
        have Hx := Lib.hid (And.intro hx hxd)
        clear st hg1 hx hxd
        go_wp2
        go_roundw
        case rel =>
          obtain ⟨hg1, hgl⟩ := HgN.out
          refine ⟨k + 1, _, by omega, by go_num, Lib.hid (by rw [List.length_set, hl'.out]), Hst.out.1, hL3.kept Hst.out.2 (fun r e => by cases e; exact hgl), hb2r.setCell hg1 _, hbw.setCell (Nat.le_trans hsz2 hg1) _⟩
        case measure => simp [intOf]; omega
      · obtain rfl : k = n := by omega
        go_wp2_with fail
        refine (P5.out _ hbw).mono ?_
        rintro e w5 ⟨A5, c5, rfl, hL5, hb5, hc5⟩
        have hi4 := hL3.in_.bt hb5
        have hi5 := hL5.in_
        have o15 := (own12.below hb2r (Nat.le_refl _)).below hb5 (Nat.le_refl _)
        have o25 := (own2.below hb2r (Nat.le_refl _)).below hb5 (Nat.le_refl _)
        have hbw5 := bt hbw hb5
        clear own3 hL3 hL5 hb5 hb2r hbw own12 own2 P1 P2 P3 P4 P5
        go_wp2_with fail
        refine (alive_any _).mono ?_
        rintro e w6 ⟨rfl, hb6⟩
        have o16 := o15.below hb6 (Nat.le_refl _)
        have o26 := o25.below hb6 (Nat.le_refl _)
        have cv1 : (convert 22 9 (.slice A1 L.length c1)).run Try.prog w6 = .ok (.string ⟨L.toArray⟩) w6 := conv_bytes Try.underlying22 Try.underlying5 Try.underlying9 o16.bs _
        have cv2 : (convert 22 9 (.slice A2 L.length c2)).run Try.prog w6 = .ok (.string ⟨L.toArray⟩) w6 := conv_bytes Try.underlying22 Try.underlying5 Try.underlying9 o26.bs _
        have hi46 := hi4.bt hb6
        have hi56 := hi5.bt hb6
        have hbw6 := bt hbw5 hb6
        clear o15 o25 o16 o26 hi4 hi5 hbw5 hb6
        obtain ⟨hRl, hRx⟩ := HR.out
        go_wp2_with fail
        refine (same_yes A4 A5 R c4 c5 w6 hRl hRx hi46 hi56).mono ?_
        rintro e w7 ⟨rfl, hb7⟩
        have hbw7 : Below w.heap.size w w7 := by obtain ⟨m, rfl⟩ := hb7; exact bt hbw6 (bl_drewN _ _)
        clear hi46 hi56 cv1 cv2
        go_wp2
        go_ret
        exact ⟨by simp, hbw7⟩
end Go.Proofs.Ythaamnkihnbgaaa
