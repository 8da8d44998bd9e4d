/- Layer 1: any bytes are split as the document says. -/
import Derived.Test.YtjeajglnoedkaaaJi
import Derived.Test.YtjeajglnoedkaaaJl
import Derived.Test.YtjeajglnoedkaaaCopy
import Derived.Test.YtjeajglnoedkaaaAlive
namespace Go.Proofs.Ytjeajglnoedkaaa
open Go.RowKit
set_option linter.unusedVariables false
set_option linter.unusedSimpArgs false

theorem xor_u8 (x y : UInt8) : bits .xor .u8 (x.toNat : Int) (y.toNat : Int) = ((x ^^^ y).toNat : Int) := by
  rw [u8_xor_nat _ _ x.toNat_lt y.toNat_lt, UInt8.toNat_xor]
theorem xor_255 (x : UInt8) : bits .xor .u8 (x.toNat : Int) 255 = ((x ^^^ 255).toNat : Int) := xor_u8 x 255
theorem runP_len (xs : List (Nat × List UInt8 × Bool)) : ∀ acc : List (List UInt8), acc.length ≤ 1000 → (runP xs acc).1.length ≤ 1000 := by
  induction xs with
  | nil => intro acc h; exact h
  | cons x t ih =>
    intro acc h
    rw [runP_cons]
    split
    · simp
    · split
      · simp
      · exact ih _ (by simp; omega)
theorem splitR_len (l : List UInt8) : (splitR l).1.length ≤ 1000 := runP_len _ _ (by simp)
theorem Own.fix {w : World} {base : Nat} {e : TypeId} {A : Option Addr} {c : Nat} {l : List UInt8} (h : Own w base e A c l) (hp : 0 < l.length) : ∃ g, A = some ⟨g, 0, none⟩ := by
  obtain ⟨g, h1, _⟩ := h.form hp; exact ⟨g, h1⟩

set_option maxRecDepth 100000 in
set_option maxHeartbeats 4000000 in
theorem octSplits_walk (A : Option Addr) (l : List UInt8) (c : Nat) (w : World) (hb : Bs w w.heap.size A l) (hcap : l.length ≤ c) (hc2 : c ≤ 9223372036854775807) :
    Calls Try.prog 5 #[.slice A l.length c] w fun e w' => e = .returned (.bool true) ∧ Below w.heap.size w w' := by
  obtain ⟨n, hn⟩ : ∃ n, n = l.length := ⟨_, rfl⟩
  have Hcap := Lib.hid hcap
  have Hc2 := Lib.hid hc2
  by_cases h4 : (4000 : Int) < (n : Int)
  · rw [← hn]
    clear hcap hc2 hn
    go_enter Try.func5, Try.ntmps5
    go_wp2_with fail
    refine (alive_any _).mono ?_
    rintro e w1 ⟨rfl, hb1⟩
    go_wp2
    go_ret
    exact ⟨rfl, hb1⟩
  · have hcopy := copy_any A l c w (by omega) hb
    rw [← hn] at hcopy ⊢
    have HN := Lib.hid hn
    have HB := Lib.hid hb
    clear hcap hc2 hn hb
    go_enter Try.func5, Try.ntmps5
    go_wp2_with fail
    refine hcopy.mono ?_
    rintro e w1 ⟨A1, c1, rfl, own1, hb1⟩
    clear hcopy
    obtain ⟨R, hR⟩ : ∃ R, R = splitR l := ⟨_, rfl⟩
    have hsp := split_any A1 l n c1 w1 HN (by have := own1.cap.1; rw [HN.out]; exact this) (Lib.hid own1.cap.2) (Lib.hid (by omega)) own1.bs
    rw [← hR] at hsp
    have hrs := fun (w' : World) (h : Below w.heap.size w w') => refsplit_any A l n c w' HN (by rw [HN.out]; exact Hcap) Hc2 (Lib.hid (by omega)) (HB.out.bt h)
    rw [← hR] at hrs
    have hpl : R.1.length ≤ 1000 := by rw [hR]; exact splitR_len l
    obtain ⟨ps, fa, fc⟩ := R
    have HPL : Hid (ps.length ≤ 1000) := Lib.hid hpl
    clear hpl
    have Hrs := Lib.hid hrs
    have Hsp := Lib.hid hsp
    have Hown := Lib.hid own1
    clear hR hrs hsp own1
    go_wp2_with fail
    refine Hsp.out.mono ?_
    rintro e w2 ⟨A2, c2, rfl, hL2, hb2⟩
    simp only at hL2
    clear Hsp
    obtain ⟨w3, hw3⟩ : ∃ x, x = w2.alloc (.cells #[.int .i64 fa, .int .i64 fc] 36) := ⟨_, rfl⟩
    have hbl : Blk w3 w2.heap.size 36 #[.int .i64 fa, .int .i64 fc] := by rw [hw3]; exact Blk.new _ _ _
    have hb3 : Below w2.heap.size w2 w3 := by rw [hw3]; exact ba _ _
    have hL3 : ListFrom w3 w1.heap.size A2 ps := hL2.kept (row := none) ⟨hb3.os, hb3.tape, hb3.output, hb3.size, fun k hk _ => hb3.block k hk⟩ (fun r e => by cases e)
    have own3 : Own w3 w.heap.size 5 A1 c1 l := (Hown.out.below hb2 (Nat.le_refl _)).below hb3 (Nat.le_refl _)
    have hbw3 : Below w.heap.size w w3 := bt hb1 (bt hb2 hb3)
    have hw12 := hb2.size
    have hlt1 : ∀ k, blk A1 = some k → w.heap.size ≤ k ∧ k < w1.heap.size := Hown.out.lt
    have Hw12 := Lib.hid hw12
    have Hlt1 := Lib.hid hlt1
    clear hL2 hb3 hb1 hb2 Hown hw12 hlt1
    go_wp2_with fail
    rw [← hw3]
    clear hw3
    go_loopw [6] (fun i wr => ∃ (k : Nat) (l' : List UInt8), k ≤ n ∧ i = .int .i64 k ∧ Hid (l'.length = n) ∧ Own wr w.heap.size 5 A1 c1 l' ∧ ListFrom wr w1.heap.size A2 ps ∧ Blk wr w2.heap.size 36 #[.int .i64 fa, .int .i64 fc] ∧ Below w.heap.size w wr) (fun i _ => n - (intOf i).toNat)
    case atStart => exact ⟨0, l, Nat.zero_le _, rfl, Lib.hid HN.out.symm, own3, hL3, hbl, hbw3⟩
    case round =>
      clear own3 hL3 hbl hbw3
      obtain ⟨k, l', hk, rfl, hl', own3, hL3, hbl, hbw⟩ := hrel
      by_cases hlt : k < n
      · obtain ⟨g, rfl⟩ := own3.fix (by rw [hl'.out]; omega)
        have hkl : k < l'.length := by rw [hl'.out]; exact hlt
        have c0 := own3.cell k hkl
        have f0 := own3.frozen k
        have st := own3.stored k (l'[k] ^^^ 255)
        have hx := l'[k].toNat_lt
        obtain ⟨x, hxd⟩ : ∃ x, x = l'[k] := ⟨_, rfl⟩
        rw [← hxd] at c0 st hx
        rw [← xor_255] at st
        have hkI : (k : Int) < (n : Int) := by omega
        have hg1 := Hlt1.out g rfl
        have hgl := own3.lt g rfl
        have hgn : w2.heap.size ≠ g := by have := Hw12.out; omega
        have Hst := Lib.hid st
        have HgN := Lib.hid (And.intro hg1 (And.intro hgl hgn))
        have Hx := Lib.hid (And.intro hx hxd)
        clear st hg1 hgl hgn hx hxd
        go_wp2
        go_roundw
        case rel =>
          obtain ⟨hg1, hgl, hgn⟩ := HgN.out
          refine ⟨k + 1, _, by omega, by go_num, Lib.hid (by rw [List.length_set, hl'.out]), Hst.out.1, hL3.kept Hst.out.2 (fun r e => by cases e; exact hg1.2), hbl.far (p := ⟨g, k, none⟩) hgn _, hbw.setCell hg1.1 _⟩
        case measure => simp [intOf]; omega
      · obtain rfl : k = n := by omega
        go_wp2_with fail
        refine (Hrs.out _ hbw).mono ?_
        rintro e w4 ⟨A4, c4, rfl, hL4, hb4⟩
        simp only at hL4
        have hbl4 := hbl.below hb4 hbl.lt
        have hLx := hL3.at_.bt hb4
        have hLy := hL4.at_
        obtain ⟨w5, hw5⟩ : ∃ x, x = w4.alloc (.cells #[.int .i64 fa, .int .i64 fc] 36) := ⟨_, rfl⟩
        have hbl5 : Blk w5 w4.heap.size 36 #[.int .i64 fa, .int .i64 fc] := by rw [hw5]; exact Blk.new _ _ _
        have hb5 : Below w4.heap.size w4 w5 := by rw [hw5]; exact ba _ _
        have hbw5 := bt hbw (bt hb4 hb5)
        have hblx := hbl4.below hb5 hbl4.lt
        have hLx5 := hLx.bt hb5
        have hLy5 := hLy.bt hb5
        clear hbl hL3 hL4 hb4 hLx hLy hbl4 own3 hbw hb5
        go_wp2_with fail
        rw [← hw5]
        clear hw5
        refine (alive_any _).mono ?_
        rintro e w6 ⟨rfl, hb6⟩
        have hps : ps.length ≤ 1000000 := by have := HPL.out; omega
        go_wp2_with fail
        refine (same_eq A2 A4 ps ps.length c2 c4 (Lib.hid rfl) _ (hLx5.bt hb6) (hLy5.bt hb6) hps).mono ?_
        rintro e w7 ⟨rfl, hb7⟩
        have z1 := (hblx.below hb6 hblx.lt).below hb7 (Nat.lt_of_lt_of_le hblx.lt hb6.size)
        have z2 := (hbl5.below hb6 hbl5.lt).below hb7 (Nat.lt_of_lt_of_le hbl5.lt hb6.size)
        have x10 := z1.cell 0
        have x11 := z1.cell 1
        have x20 := z2.cell 0
        have x21 := z2.cell 1
        simp only [List.getElem?_toArray, List.getElem?_cons_zero, List.getElem?_cons_succ] at x10 x11 x20 x21
        go_wp2
        go_ret
        exact ⟨by simp, bt hbw5 (bt hb6 hb7)⟩
end Go.Proofs.Ytjeajglnoedkaaa
