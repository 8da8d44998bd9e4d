/- Layer 1: lists of texts, joined: the program's Join, whole. -/
import Derived.Test.YtjeajglnoedkaaaJb
namespace Go.Proofs.Ytjeajglnoedkaaa
open Go.RowKit
set_option linter.unusedVariables false
set_option linter.unusedSimpArgs false

set_option maxHeartbeats 4000000 in
theorem join_any (A : Option Addr) (ls : List (List UInt8)) (n c : Nat) (w : World) (hn : Hid (n = ls.length)) (hm : n ≤ maxLen) (hls : ListAt w w.heap.size A ls) :
    Calls Try.prog 17 #[.slice A n c] w (JoinO w ls) := by
  unfold maxLen at hm
  obtain ⟨i0, hi, hz0, hz1, hz2⟩ := info_parts Try.infoU8j
  have HLS := Lib.hid hls
  clear hls
  by_cases h1000 : (1000 : Int) < (n : Int)
  · have hR : joinR ls = ([], 2) := joinR_long (by have := hn.out; omega)
    unfold JoinO
    rw [hR]
    go_enter Try.func17, Try.ntmps17
    go_wp2
    go_ret2
    exact ⟨none, 0, rfl, Bs.nil, Below.refl _ _, by simp, by omega⟩
  · have HM := Lib.hid hm
    clear hm
    go_enter Try.func17, Try.ntmps17
    go_wp2_with fail
    refine (longer_any _).mono ?_
    rintro e w1 ⟨rfl, hc1, hb1⟩
    go_wp2_with fail
    have hb1s := hb1.size
    refine (containsf_any A ls n c _ _ hn (by omega) (HLS.out.bt hb1) hc1).mono ?_
    rintro e w2 ⟨rfl, hw2⟩
    have hw2' := hw2.symm
    subst hw2'
    clear hw2 hc1 hb1s
    have Hb1 := Lib.hid hb1
    clear hb1
    obtain ⟨R, hR⟩ : ∃ R, R = bigL ls := ⟨_, rfl⟩
    have HR := Lib.hid hR
    clear hR
    have hRb : R = true ∨ R = false := by cases R <;> simp
    rcases hRb with hRt | hRf
    · have hR : joinR ls = ([], 2) := bigL_true (by rw [← HR.out]; exact hRt)
      rw [← HR.out, hRt]
      unfold JoinO
      rw [hR]
      go_wp2
      go_ret2
      exact ⟨none, 0, by rw [hR]; rfl, by rw [hR]; exact Bs.nil, Hb1.out, by rw [hR]; simp, by omega⟩
    · have hall := bigL_false (by rw [← HR.out]; exact hRf)
      have hR : joinR ls = (joinL ls, 0) := joinR_ok (by have := hn.out; omega) hall
      rw [← HR.out, hRf]
      have HALL := Lib.hid hall
      clear HR hRf hall
      have hallk : Hid (∀ k, (joinL (ls.take k)).length ≤ 65537 * 1000) := Lib.hid (fun k => by
        have h1 := joinL_short (ls.take k) (fun p hp => HALL.out p (List.mem_of_mem_take hp))
        have h2 : (ls.take k).length ≤ 1000 := by rw [List.length_take]; have := hn.out; omega
        have h3 := Nat.mul_le_mul_left 65537 h2
        omega)
      go_wp2
      go_loopw [4, 6, 20] (fun s v i wr => ∃ (k m : Nat) (u : Value), u = v ∧ k ≤ n ∧ i = .int .i64 k ∧ s = .int .i64 m ∧ Hid (m = (joinL (ls.take k)).length) ∧ wr = w2) (fun _ _ i _ => n - (intOf i).toNat)
      case atStart => exact ⟨0, 0, _, rfl, Nat.zero_le _, rfl, rfl, Lib.hid rfl, rfl⟩
      case round =>
        obtain ⟨k, m, u, rfl, hk, rfl, rfl, hml, hww⟩ := hrel
        have hww' := hww.symm
        subst hww'
        clear hww
        by_cases hlt : k < n
        · have hkl : k < ls.length := by rw [← hn.out]; exact hlt
          obtain ⟨b, o, rfl, hblt, hcs⟩ := HLS.out.bt Hb1.out (by omega)
          obtain ⟨Ai, ci, hcl, hbs⟩ := hcs k hkl
          have hJ : (joinL (ls.take (k + 1))).length = (joinL (ls.take k)).length + (2 + ls[k].length) := by rw [take_snoc ls k hkl, joinL_snoc, List.length_append, partL_length]; omega
          have hsz := hallk.out (k + 1)
          obtain ⟨l, hl⟩ : ∃ l, l = ls[k] := ⟨_, rfl⟩
          rw [← hl] at hcl hbs hJ
          have HJ := Lib.hid hJ
          have gA : IntKind.i64.wrap (2 + (l.length : Int)) = 2 + (l.length : Int) := IntWalk.i64_in _ (by omega)
          have gB : IntKind.i64.wrap ((m : Int) + (2 + (l.length : Int))) = (m : Int) + (2 + (l.length : Int)) := IntWalk.i64_in _ (by have := hml.out; omega)
          have hkI : (k : Int) < (n : Int) := by omega
          clear hl hcs hJ hsz
          go_wp2
          go_roundw
          case rel => exact ⟨k + 1, m + (2 + l.length), _, rfl, by omega, by go_num, by first | rfl | (congr 1; push_cast; omega) | go_num, Lib.hid (by rw [HJ.out, hml.out]), by first | trivial | rfl⟩
          case measure => simp [intOf]; omega
        · obtain rfl : k = n := by omega
          have hT : ls.take k = ls := by rw [hn.out, List.take_length]
          rw [hT] at hml
          have hmsz : m ≤ 65537 * 1000 := by have := hallk.out k; rw [hT] at this; rw [hml.out]; exact this
          have hmI : ¬ (m : Int) < 0 := by omega
          go_wp2_with (at_make; refine wpList_make_own _ rfl _ _ 23 rfl w.heap.size 5 i0 _ 1 Try.underlying23 hi hz0 hz1 .i64 .i64 _ m rfl rfl (by omega) (by rw [hz2]; omega) (by simp only [maxLen]; omega) Hb1.out.size ?_; intro w3 hown hgr)
          have hown1 : Own w3 w.heap.size 5 (some ⟨w2.heap.size, 0, none⟩) m [] := hown
          have hb3 : Below w.heap.size w w3 := Hb1.out.trans ((below_none hgr).mono Hb1.out.size)
          clear hown hgr
          go_loopw [7, 9, 34] (fun s v i wr => ∃ (q : Nat) (A' : Option Addr) (c' p : Nat) (u : Value), u = v ∧ q ≤ k ∧ i = .int .i64 q ∧ s = .slice A' p c' ∧ Hid (p = (joinL (ls.take q)).length) ∧ Own wr w.heap.size 5 A' c' (joinL (ls.take q)) ∧ Below w.heap.size w wr) (fun _ _ i _ => k - (intOf i).toNat)
          case atStart => exact ⟨0, _, _, 0, _, rfl, Nat.zero_le _, rfl, rfl, Lib.hid rfl, hown1, hb3⟩
          case round =>
            clear hown1 hb3
            obtain ⟨q, A', c', p, u, rfl, hq, rfl, rfl, hpl, own1, hbr⟩ := hrel
            by_cases hlt2 : q < k
            · have hkl : q < ls.length := by rw [← hn.out]; exact hlt2
              obtain ⟨b, o, rfl, hblt, hcs⟩ := HLS.out (by omega)
              obtain ⟨Ai, ci, hcl, hbs⟩ := hcs q hkl
              have hb1 := HALL.out _ (List.getElem_mem hkl)
              have hJ : joinL (ls.take (q + 1)) = (joinL (ls.take q) ++ [UInt8.ofNat (ls[q].length / 256), UInt8.ofNat (ls[q].length % 256)]) ++ ls[q] := by rw [take_snoc ls q hkl, joinL_snoc]; simp [partL]
              have hsum := hallk.out (q + 1)
              obtain ⟨l, hl⟩ : ∃ l, l = ls[q] := ⟨_, rfl⟩
              rw [← hl] at hcl hbs hJ hb1
              rw [hJ] at hsum
              have HJ := Lib.hid hJ
              have Hsum := Lib.hid hsum
              have hqI : (q : Int) < (k : Int) := by omega
              have HCL := Lib.hid hcl
              have hbs0 := hbs
              replace hcl := (hbr.cell (p := ⟨b, o + q, none⟩) hblt).trans hcl
              clear hl hcs hJ hsum
              go_wp2_with (first
                | (at_builtin; refine wpList_append_bs _ rfl (.tmp 38) (.tmp 46) 23 rfl w.heap.size 5 i0 _ Try.underlying23 hi hz0 hz1 hz2 rfl A' c' (joinL (ls.take q)) p rfl hpl.out (own1.alloc _) _ _ _ [UInt8.ofNat (l.length / 256), UInt8.ofNat (l.length % 256)] 2 rfl rfl (Bs.two (len_hi _ hb1) (len_lo _)) (by have := Hsum.out; simp at this ⊢; omega) (by have := hbr.size; simp; omega) ?_; intro A3 c3 w3 ho3 hg3 _; have hb3 : Below w.heap.size w w3 := (hbr.alloc hbr.size _).grown hg3 (by have := hbr.size; simp; omega) (fun k hk => (own1.lt k hk).1); clear hcl; have hcl3 := (hb3.cell (p := ⟨b, o + q, none⟩) hblt).trans HCL.out)
                | (at_builtin; refine wpList_append_bs _ rfl (.tmp 48) (.tmp 49) 23 rfl w.heap.size 5 i0 _ Try.underlying23 hi hz0 hz1 hz2 rfl A3 c3 _ _ rfl (by have := hpl.out; simp; omega) ho3 _ Ai ci l l.length rfl rfl (hbs0.below hb3) (by have := Hsum.out; simp at this ⊢; omega) hb3.size ?_; intro A4 c4 w4 ho4 hg4 _))
              have hb4 := hb3.grown hg4 hb3.size (fun k hk => (ho3.lt k hk).1)
              rw [← HJ.out] at ho4
              go_roundw
              case rel => exact ⟨q + 1, A4, c4, p + 2 + l.length, _, rfl, by omega, by go_num, rfl, Lib.hid (by rw [HJ.out, hpl.out]; simp; omega), ho4, hb4⟩
              case measure => simp [intOf]; omega
            · obtain rfl : q = k := by omega
              have hT2 : ls.take q = ls := by rw [hn.out, List.take_length]
              rw [hT2] at own1 hpl
              have hme := hpl.out
              subst hme
              go_wp2
              go_ret2
              exact ⟨A', c', by rw [hR]; rfl, by rw [hR]; exact own1.bs, hbr, by rw [hR]; exact own1.cap.1, own1.cap.2⟩
end Go.Proofs.Ytjeajglnoedkaaa
