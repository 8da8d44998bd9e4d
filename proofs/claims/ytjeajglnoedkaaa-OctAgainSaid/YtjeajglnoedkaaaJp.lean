/- Layer 1: numbers, lists and digits go there and back. -/
import Derived.Test.YtjeajglnoedkaaaJn
import Derived.Test.YtjeajglnoedkaaaJc
namespace Go.Proofs.Ytjeajglnoedkaaa
open Go.RowKit
set_option linter.unusedVariables false
set_option linter.unusedSimpArgs false

theorem conv_of {A : Option Addr} {l : List UInt8} (n c : Nat) (hn : n = l.length) {w : World} {B : Nat} (h : Bs w B A l) : (convert 23 9 (.slice A n c)).run Try.prog w = .ok (.string ⟨l.toArray⟩) w := by
  rw [hn]; exact conv_bytes Try.underlying23 Try.underlying5 Try.underlying9 h _

set_option maxRecDepth 100000 in
set_option maxHeartbeats 4000000 in
theorem octBack_walk (v : Nat) (A : Option Addr) (ls : List (List UInt8)) (c : Nat) (Ab : Option Addr) (lb : List UInt8) (cb : Nat) (w : World) (hv : v < 18446744073709551616) (hm : ls.length ≤ maxLen) (hls : ListAt w w.heap.size A ls) (hb : Bs w w.heap.size Ab lb) (hlb : lb.length ≤ maxLen) :
    Calls Try.prog 8 #[.int .u64 v, .slice A ls.length c, .slice Ab lb.length cb] w fun e w' => e = .returned (.bool true) ∧ Below w.heap.size w w' := by
  obtain ⟨n, hn0⟩ : ∃ n, n = ls.length := ⟨_, rfl⟩
  obtain ⟨nb, hnb0⟩ : ∃ nb, nb = lb.length := ⟨_, rfl⟩
  rw [← hn0] at hm ⊢
  rw [← hnb0] at hlb ⊢
  have Hn := Lib.hid hn0
  have Hnb := Lib.hid hnb0
  have HM := Lib.hid hm
  unfold maxLen at hm hlb
  have HLS := Lib.hid hls
  have HB := Lib.hid hb
  have HV := Lib.hid hv
  clear hls hb hn0 hnb0 hv
  by_cases h1 : (40 : Int) < (n : Int)
  · go_enter Try.func8, Try.ntmps8
    go_wp2_with fail
    refine (alive_any _).mono ?_
    rintro e w1 ⟨rfl, hb1⟩
    go_wp2
    go_ret
    exact ⟨rfl, hb1⟩
  by_cases h2 : (2000 : Int) < (nb : Int)
  · go_enter Try.func8, Try.ntmps8
    go_wp2_with fail
    refine (alive_any _).mono ?_
    rintro e w1 ⟨rfl, hb1⟩
    go_wp2
    go_ret
    exact ⟨rfl, hb1⟩
  have hn40 : n ≤ 40 := by omega
  have hnb2 : nb ≤ 2000 := by omega
  have Hn40 := Lib.hid hn40
  have Hnb2 := Lib.hid hnb2
  clear hm hlb hn40 hnb2
  go_enter Try.func8, Try.ntmps8
  go_wp2
  go_loopw [7] (fun i wr => ∃ k : Nat, k ≤ n ∧ i = .int .i64 k ∧ Hid (∀ p ∈ ls.take k, p.length ≤ 300) ∧ wr = w) (fun i _ => n - (intOf i).toNat)
  case atStart => exact ⟨0, Nat.zero_le _, rfl, Lib.hid (by simp), rfl⟩
  case round =>
    obtain ⟨k, hk, rfl, hall, hww⟩ := hrel
    have hww' := hww.symm
    subst hww'
    clear hww
    by_cases hlt : k < n
    · have hkl : k < ls.length := by rw [← Hn.out]; exact hlt
      obtain ⟨b, o, rfl, hblt, hcs⟩ := HLS.out (by omega)
      obtain ⟨Ai, ci, hcl, hbs⟩ := hcs k hkl
      have htk := take_snoc ls k hkl
      obtain ⟨l, hl⟩ : ∃ l, l = ls[k] := ⟨_, rfl⟩
      rw [← hl] at hcl hbs htk
      have HT := Lib.hid htk
      have hkI : (k : Int) < (n : Int) := by omega
      clear hl hcs htk
      by_cases h3 : (300 : Int) < (l.length : Int)
      · go_wp2_with fail
        refine (alive_any _).mono ?_
        rintro e w1 ⟨rfl, hb1⟩
        go_wp2
        go_ret
        exact ⟨rfl, hb1⟩
      · have h3' : l.length ≤ 300 := by omega
        have hall2 : Hid (∀ p ∈ ls.take (k + 1), p.length ≤ 300) := Lib.hid (by
          rw [HT.out]; intro p hp
          rcases List.mem_append.1 hp with h | h
          · exact hall.out p h
          · simp at h; subst h; exact h3')
        clear h3'
        go_wp2
        go_roundw
        case rel => exact ⟨k + 1, by omega, by go_num, hall2, by first | trivial | rfl⟩
        case measure => simp [intOf]; omega
    · obtain rfl : k = n := by omega
      have hsh : ∀ p ∈ ls, p.length ≤ 65535 := by
        have h := hall.out
        rw [Hn.out, List.take_length] at h
        exact fun p hp => by have := h p hp; omega
      have hj := joinR_ok (ls := ls) (by have := Hn.out; have := Hn40.out; omega) hsh
      have hspl := split_join ls (by have := Hn.out; have := Hn40.out; omega) hsh
      have hjl := joinL_short ls hsh
      have hput := put_fits v 8 w HV.out (by omega) (by omega) (by have := HV.out; omega)
      have hnum := num_putL 8 v (by have := HV.out; omega)
      obtain ⟨P8, hP8⟩ : ∃ P8, P8 = putL v 8 := ⟨_, rfl⟩
      have hp8l : P8.length = 8 := by rw [hP8, putL_length]
      rw [← hP8] at hput hnum
      have hget := fun (A1 : Option Addr) (c1 : Nat) (w' : World) (h : Bs w' w'.heap.size A1 P8) => get_any A1 P8 c1 w' (by omega) h
      have hgr : getR P8 = (v, 0) := by unfold getR; rw [if_pos (by omega), hnum]
      rw [hgr, hp8l] at hget
      have hjoin := fun (w' : World) (h : Below w.heap.size w w') => join_any A ls k c w' Hn HM.out (HLS.out.bt h)
      unfold JoinO at hjoin
      rw [hj] at hjoin
      obtain ⟨J, hJ⟩ : ∃ J, J = joinL ls := ⟨_, rfl⟩
      rw [← hJ] at hjoin hspl hjl
      have hJl : J.length ≤ 65537 * 40 := by have := Hn.out; have := Hn40.out; have := Nat.mul_le_mul_left 65537 this; omega
      have hspa := fun (A3 : Option Addr) (n3 c3 : Nat) (w' : World) (h0 : Hid (n3 = J.length)) (h : Bs w' w'.heap.size A3 J) (h1 : J.length ≤ c3) (h2 : c3 ≤ 9223372036854775807) => split_any A3 J n3 c3 w' h0 (by rw [h0.out]; exact h1) (Lib.hid h2) (Lib.hid (by have := h0.out; omega)) h
      rw [hspl] at hspa
      unfold SplitO at hspa
      simp only at hspa hjoin
      have hhex := fun (w' : World) (h : Below w.heap.size w w') => hex_any Ab lb cb w' (by have := Hnb.out; have := Hnb2.out; omega) (HB.out.bt h)
      have hun := fun (w' : World) => unhex_good ⟨(hexL lb).toArray⟩ w' (by have := Hnb.out; have := Hnb2.out; show (hexL lb).length ≤ 4000; rw [hexL_length]; omega) (hex_good lb) (by show (hexL lb).length % 2 = 0; rw [hexL_length]; omega)
      rw [out_hex] at hun
      rw [← Hnb.out] at hhex hun
      obtain ⟨hx, hhx⟩ : ∃ hx : ByteArray, hx = ⟨(hexL lb).toArray⟩ := ⟨_, rfl⟩
      rw [← hhx] at hun
      simp only [← hhx] at hhex
      unfold tuple at hun
      have Hput := Lib.hid hput
      have Hget := Lib.hid hget
      have Hjoin := Lib.hid hjoin
      have Hspa := Lib.hid hspa
      have Hhex := Lib.hid hhex
      have Hun := Lib.hid hun
      have HP8l := Lib.hid hp8l
      clear hsh hj hspl hjl hput hnum hP8 hp8l hget hgr hjoin hJ hJl hspa hhex hun hhx hall
      go_wp2_with fail
      refine Hput.out.mono ?_
      rintro e w1 ⟨A1, c1, rfl, own1, hb1⟩
      simp only at own1
      rw [HP8l.out]
      go_wp2_with fail
      refine (Hget.out A1 c1 _ own1.bs).mono ?_
      rintro e w2 ⟨rfl, hw2⟩
      have hw2' := hw2.symm
      subst hw2'
      clear hw2
      go_wp2_with fail
      refine (Hjoin.out _ hb1).mono ?_
      rintro e w3 ⟨A3, c3, rfl, hB3, hb3, hc31, hc32⟩
      have Hc3 := Lib.hid (And.intro hc31 hc32)
      clear hc31 hc32 own1
      go_wp2_with fail
      refine (Hspa.out A3 _ c3 _ (Lib.hid rfl) hB3 Hc3.out.1 Hc3.out.2).mono ?_
      rintro e w4 ⟨A4, c4, rfl, hL4, hb4⟩
      obtain ⟨w5, hw5⟩ : ∃ x, x = w4.alloc (.cells #[.int .i64 0, .int .i64 0] 36) := ⟨_, rfl⟩
      have hbl5 : Blk w5 w4.heap.size 36 #[.int .i64 0, .int .i64 0] := by rw [hw5]; exact Blk.new _ _ _
      have hb5 : Below w4.heap.size w4 w5 := by rw [hw5]; exact ba _ _
      have hLa := hL4.at_.bt hb5
      have hbw5 := bt hb1 (bt hb3 (bt hb4 hb5))
      clear hB3 hL4 hb5 hb4 hb3 hb1
      go_wp2_with fail
      rw [← hw5]
      clear hw5
      refine (Hhex.out _ hbw5).mono ?_
      rintro e w6 ⟨rfl, hb6⟩
      go_wp2_with fail
      refine (Hun.out _).mono ?_
      rintro e w7 ⟨A7, c7, rfl, hB7, hb7⟩
      have hLb := (hLa.bt hb6).bt hb7
      have hbl7 := (hbl5.below hb6 hbl5.lt).below hb7 (Nat.lt_of_lt_of_le hbl5.lt hb6.size)
      have hbw7 := bt hbw5 (bt hb6 hb7)
      clear hLa hbl5 hbw5 hb6 hb7
      obtain ⟨w8, hw8⟩ : ∃ x, x = w7.alloc (.cells #[.int .i64 0, .int .i64 0] 36) := ⟨_, rfl⟩
      have hbl8 : Blk w8 w7.heap.size 36 #[.int .i64 0, .int .i64 0] := by rw [hw8]; exact Blk.new _ _ _
      have hb8 : Below w7.heap.size w7 w8 := by rw [hw8]; exact ba _ _
      have hLc := hLb.bt hb8
      have hB8 := hB7.bt hb8
      have hbl78 := hbl7.below hb8 hbl7.lt
      have hbw8 := bt hbw7 hb8
      clear hLb hB7 hbl7 hbw7 hb8
      go_wp2_with fail
      rw [← hw8]
      clear hw8
      refine (alive_any _).mono ?_
      rintro e w9 ⟨rfl, hb9⟩
      have hbw9 := bt hbw8 hb9
      have z1 := hbl78.below hb9 hbl78.lt
      have z2 := hbl8.below hb9 hbl8.lt
      have hLd := hLc.bt hb9
      have hB9 := hB8.bt hb9
      clear hLc hB8 hbl78 hbl8 hbw8 hb9
      have hse := fun (cx : Nat) => same_eq A4 A ls k cx c Hn _ hLd (HLS.out.bt hbw9) (by have := Hn40.out; omega)
      have hnl : ls.length = k := Hn.out.symm
      rw [hnl]
      have Hse := Lib.hid hse
      clear hse hLd hnl
      have y10 := z1.cell 0
      have y11 := z1.cell 1
      simp only [List.getElem?_toArray, List.getElem?_cons_zero, List.getElem?_cons_succ] at y10 y11
      go_wp2_with fail
      refine (Hse.out _).mono ?_
      rintro e w10 ⟨rfl, hb10⟩
      have z2b := z2.below hb10 z2.lt
      have x20 := z2b.cell 0
      have x21 := z2b.cell 1
      simp only [List.getElem?_toArray, List.getElem?_cons_zero, List.getElem?_cons_succ] at x20 x21
      have cv1 := conv_of nb c7 Hnb.out (hB9.bt hb10)
      have cv2 := conv_of nb cb Hnb.out (HB.out.bt (bt hbw9 hb10))
      have Hbel := Lib.hid (bt hbw9 hb10)
      clear hbw9 hb10 hB9 z1 z2 z2b y10 y11
      go_wp2
      go_ret
      exact ⟨by simp, Hbel.out⟩
end Go.Proofs.Ytjeajglnoedkaaa
