/- Layer 11: the document's Write; the law on records that are written. -/
import Derived.Test.YtgbcjimfpoeicaaRj
import Derived.Test.YtgbcjimfpoeicaaRh
import Derived.Test.YtgbcjimfpoeicaaPutR
namespace Go.Proofs.Ytgbcjimfpoeicaa
open Go.RowKit
set_option linter.unusedVariables false
set_option linter.unusedSimpArgs false

theorem refwrite_long (A : Option Addr) (n c : Nat) (w : World) (h : decide (32765 < (n : Int)) = true) : Calls Try.prog 20 #[.slice A n c] w fun e w' => e = .returned (.tuple #[.slice none 0 0, .int .i64 2]) ∧ w = w' := by
  go_enter Try.func20, Try.ntmps20
  go_wp2
  go_ret2
  exact ⟨rfl, rfl⟩
theorem putR_two (q : Nat) (h : q < 32768) : putR q 2 = ([UInt8.ofNat (q / 256), UInt8.ofNat (q % 256)], 0) := by
  unfold putR
  rw [if_pos (by omega), if_pos (by show q / 256 ^ 2 = 0; omega)]
  show ([UInt8.ofNat (q / 256 % 256), UInt8.ofNat (q % 256)], (0 : Int)) = _
  rw [show q / 256 % 256 = q / 256 by omega]

set_option maxHeartbeats 1000000 in
theorem refwrite_ok (A : Option Addr) (l : List UInt8) (n c : Nat) (w : World) (hn : Hid (n = l.length)) (h : n ≤ 32765) (hb : Bs w w.heap.size A l) : Calls Try.prog 20 #[.slice A n c] w fun e w' => ∃ A2 c2, e = .returned (.tuple #[.slice A2 (n + 2) c2, .int .i64 0]) ∧ Own w' w.heap.size 5 A2 c2 (UInt8.ofNat ((n + 2) / 256) :: UInt8.ofNat ((n + 2) % 256) :: l) ∧ Below w.heap.size w w' := by
  obtain ⟨i0, hi, hz0, hz1, hz2⟩ := info_parts Try.infoU8r
  have e1 : IntKind.i64.wrap ((n : Int) + 2) = ((n + 2 : Nat) : Int) := by rw [IntWalk.i64_in _ (by omega)]; omega
  obtain ⟨q, hq⟩ : ∃ q, q = n + 2 := ⟨_, rfl⟩
  rw [← hq] at e1 ⊢
  have e2 : IntKind.u64.wrap (q : Int) = (q : Int) := by simp [IntKind.wrap, IntKind.signed, IntKind.bits]; omega
  have d1 : decide (32765 < (n : Int)) = false := by simp; omega
  have hp := refput_any q 2 w (by omega)
  rw [putR_two q (by omega)] at hp
  have HQ := Lib.hid (show q = n + 2 ∧ q < 32768 by omega)
  clear hq h
  go_enter Try.func20, Try.ntmps20
  go_wp2_with fail
  refine hp.mono ?_
  clear hp
  rintro e w1 ⟨A1, c1, rfl, own1, hb1⟩
  have r1 := hb.bt hb1
  clear e1 e2 d1
  simp only [List.length_cons, List.length_nil, Nat.zero_add, Nat.reduceAdd]
  go_wp2_with (at_builtin; refine wpList_append_bs _ rfl (.tmp 17) (.tmp 18) 26 rfl w.heap.size 5 i0 _ Try.underlying26 hi hz0 hz1 hz2 rfl A1 c1 [UInt8.ofNat (q / 256), UInt8.ofNat (q % 256)] 2 rfl rfl own1 _ A c l n rfl hn.out r1 (by have := HQ.out; have := hn.out; simp; omega) hb1.size ?_; intro A3 c3 w3 own3 hg3 _)
  go_ret2
  exact ⟨A3, c3, by have := HQ.out.1; rw [this, Nat.add_comm 2 n]; rfl, own3, own1.grown hg3 hb1.size |> hb1.trans⟩

def hdr (n : Nat) (l : List UInt8) : List UInt8 := UInt8.ofNat ((n + 2) / 256) :: UInt8.ofNat ((n + 2) % 256) :: l

set_option maxRecDepth 100000 in
set_option maxHeartbeats 4000000 in
theorem recsWrites_walk (A : Option Addr) (l : List UInt8) (c : Nat) (k : Int) (w : World) (hb : Bs w w.heap.size A l) (hm : l.length ≤ maxLen) (k1 : -9223372036854775808 ≤ k) (k2 : k ≤ 9223372036854775807) :
    Calls Try.prog 4 #[.slice A l.length c, .int .i64 k] w fun e w' => e = .returned (.bool true) ∧ Below w.heap.size w w' := by
  unfold maxLen at hm
  obtain ⟨n, hn⟩ : ∃ n, n = l.length := ⟨_, rfl⟩
  rw [← hn] at hm ⊢
  have Hn := Lib.hid hn
  clear hn
  by_cases hbig : 40000 < (n : Int)
  · go_enter Try.func4, Try.ntmps4
    go_wp2_with fail
    refine (alive_any _).mono ?_
    rintro e wz ⟨rfl, hbz⟩
    go_wp2
    go_ret
    exact ⟨rfl, hbz⟩
  · have hbd : decide (40000 < (n : Int)) = false := by simp; omega
    have hnb : Hid (n ≤ 40000) := Lib.hid (by omega)
    clear hbig hm
    by_cases hlg : 32765 < n
    · have hw := write_long A n c w hlg (by have := hnb.out; omega)
      have hr := refwrite_long A n c w (by simp; omega)
      clear hlg
      go_enter Try.func4, Try.ntmps4
      go_wp2_with fail
      refine hw.mono ?_
      rintro e wz ⟨rfl, rfl⟩
      go_wp2_with fail
      refine hr.mono ?_
      rintro e wz ⟨rfl, rfl⟩
      clear hw hr
      have hba := ba w (.cells #[.int .i64 0, .slice none 0 0, .bool false] 45)
      have S1 : StrAt (w.alloc (.cells #[.int .i64 0, .slice none 0 0, .bool false] 45)) w.heap.size 0 [] false := ⟨by omega, by simp, none, 0, 0, Blk.new w _ _, rfl, KB.nil, by simp, by simp⟩
      have hget := get_any S1 1 (by omega)
      rw [show getM 0 [] false 1 = (([], false, 140), 0, []) by decide] at hget
      have hb1 := hb.bt hba
      go_wp2_with fail
      refine (get_nil k _).mono ?_
      rintro e wz ⟨rfl, rfl⟩
      go_wp2_with fail
      refine hget.mono ?_
      clear hget
      rintro e w2 ⟨A2, n2, c2, rfl, hn2, own2, S2, hg2⟩
      obtain rfl : n2 = 0 := hn2.out
      simp only at S2
      have hw2 := hba.trans (below_of hg2 (Nat.le_refl _) hba.size)
      have hb2 := hb.bt hw2
      skip
      obtain ⟨gg, hgg⟩ : ∃ gg, gg = w.heap.size := ⟨_, rfl⟩
      rw [← hgg] at S2
      have hge : w.heap.size ≤ gg := by rw [hgg]; exact (Nat.le_refl _)
      clear S1 own2 hg2 hba hb1 hn2
      simp only
      rw [← hgg]
      clear hgg
      go_wp2_with fail
      refine (alive_any _).mono ?_
      rintro e w3 ⟨rfl, hb3⟩
      have S3 := S2.below hb3
      have hw3 := bt hw2 hb3
      have hbs3 := hb2.bt hb3
      have cvn := conv_n none [] 0 0 (Lib.hid rfl) w3 0 Bs.nil
      have hput := put_ok S3 A l n c Hn hbs3 (by have := hnb.out; simp; omega)
      clear hb3 hw2 hb2 S2 S3 hbs3
      go_wp2_with fail
      refine (put_nil _ _).mono ?_
      rintro e wz ⟨rfl, rfl⟩
      go_wp2_with fail
      refine (end_nil _).mono ?_
      rintro e wz ⟨rfl, rfl⟩
      go_wp2_with fail
      refine (held_nil _).mono ?_
      rintro e wz ⟨rfl, rfl⟩
      go_wp2_with fail
      refine hput.mono ?_
      clear hput
      rintro e w4 ⟨rfl, S4, hg4⟩
      have hw4 := hw3.trans (below_of hg4 hge hw3.size)
      have hh := held_n S4 n (Lib.hid (by rw [Hn.out]; simp))
      clear S4 hg4 hw3
      go_wp2_with fail
      refine hh.mono ?_
      clear hh
      rintro e wz ⟨rfl, rfl⟩
      go_wp2
      go_ret
      exact ⟨by simp, hw4⟩
    · have hlg2 : n ≤ 32765 := by omega
      have hw := write_ok A l n c w Hn hlg2 hb
      have hr := fun (u : World) (hu : Bs u u.heap.size A l) => refwrite_ok A l n c u Hn hlg2 hu
      clear hlg hlg2
      go_enter Try.func4, Try.ntmps4
      go_wp2_with fail
      refine hw.mono ?_
      rintro e wp ⟨Ap, cp, rfl, ownp, hbp⟩
      have hrp := hr _ (hb.bt hbp)
      clear hw hr
      go_wp2_with fail
      refine hrp.mono ?_
      rintro e wq ⟨Aq, cq, rfl, ownq, hbq⟩
      clear hrp
      have hbqq := bt hbp hbq
      have hba0 := ba wq (.cells #[.int .i64 0, .slice none 0 0, .bool false] 45)
      have hba := bt hbqq hba0
      have hbqs := hbqq.size
      have op2 := KB.of_own ((ownp.below hbq (Nat.le_refl _)).below hba0 (Nat.le_refl _))
      have oq2 := KB.of_own (ownq.below hba0 (Nat.le_refl _))
      have B1 := Blk.new wq 45 #[.int .i64 0, .slice none 0 0, .bool false]
      have S1 : StrAt (wq.alloc (.cells #[.int .i64 0, .slice none 0 0, .bool false] 45)) wq.heap.size 0 [] false := ⟨by omega, by simp, none, 0, 0, Blk.new wq _ _, rfl, KB.nil, by simp, by simp⟩
      have hget := get_any S1 1 (by omega)
      rw [show getM 0 [] false 1 = (([], false, 140), 0, []) by decide] at hget
      have hb1 := hb.bt hba
      have hlen2 : Hid (n + 2 = (hdr n l).length) := Lib.hid (by rw [Hn.out]; simp [hdr])
      change KB _ _ (hdr n l) at op2 oq2
      generalize hdr n l = HD at *
      clear ownp ownq hbp hbq hba0 hbqq
      go_wp2_with fail
      refine (get_nil k _).mono ?_
      rintro e wz ⟨rfl, rfl⟩
      go_wp2_with fail
      refine hget.mono ?_
      clear hget
      rintro e w2 ⟨A2, n2, c2, rfl, hn2, own2, S2, hg2⟩
      obtain rfl : n2 = 0 := hn2.out
      simp only at S2
      have hw2 := hba.trans (below_of hg2 hbqs hba.size)
      have hb2 := hb.bt hw2
      have op3 := (op2.kept hg2 B1 stream_ne).bs
      have oq3 := (oq2.kept hg2 B1 stream_ne).bs
      clear op2 oq2
      obtain ⟨gg, hgg⟩ : ∃ gg, gg = wq.heap.size := ⟨_, rfl⟩
      rw [← hgg] at S2
      have hge : w.heap.size ≤ gg := by rw [hgg]; exact hbqs
      clear S1 own2 hg2 hba hb1 hn2
      simp only
      rw [← hgg]
      clear hgg
      go_wp2_with fail
      refine (alive_any _).mono ?_
      rintro e w3 ⟨rfl, hb3⟩
      have S3 := S2.below hb3
      have hw3 := bt hw2 hb3
      have hbs3 := hb2.bt hb3
      have cvp := conv_n Ap HD (n + 2) cp hlen2 w3 _ (op3.bt hb3)
      have cvq := conv_n Aq HD (n + 2) cq hlen2 w3 _ (oq3.bt hb3)
      clear op3 oq3
      have hput := put_ok S3 A l n c Hn hbs3 (by have := hnb.out; simp; omega)
      clear hb3 hw2 hb2 S2 S3 hbs3
      go_wp2_with fail
      refine (put_nil _ _).mono ?_
      rintro e wz ⟨rfl, rfl⟩
      go_wp2_with fail
      refine (end_nil _).mono ?_
      rintro e wz ⟨rfl, rfl⟩
      go_wp2_with fail
      refine (held_nil _).mono ?_
      rintro e wz ⟨rfl, rfl⟩
      go_wp2_with fail
      refine hput.mono ?_
      clear hput
      rintro e w4 ⟨rfl, S4, hg4⟩
      have hw4 := hw3.trans (below_of hg4 hge hw3.size)
      have hh := held_n S4 n (Lib.hid (by rw [Hn.out]; simp))
      clear S4 hg4 hw3
      go_wp2_with fail
      refine hh.mono ?_
      clear hh
      rintro e wz ⟨rfl, rfl⟩
      go_wp2
      go_ret
      exact ⟨by simp, hw4⟩
end Go.Proofs.Ytgbcjimfpoeicaa
