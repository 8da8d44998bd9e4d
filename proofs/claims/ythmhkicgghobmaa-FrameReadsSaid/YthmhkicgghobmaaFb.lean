/- Layer 7: put, and the program's Write. -/
import Derived.Test.YthmhkicgghobmaaFa
import Derived.Test.YthmhkicgghobmaaPutP
import Derived.Test.YthmhkicgghobmaaSumS
namespace Go.Proofs.Ythmhkicgghobmaa
open Go.RowKit
set_option linter.unusedVariables false
set_option linter.unusedSimpArgs false

theorem Own.ne_blk {w : World} {base : Nat} {e t : TypeId} {A : Option Addr} {c g : Nat} {l : List UInt8} {cs : Array Value} (h : Own w base e A c l) (hb : Blk w g t cs) (hne : t ≠ e) : some g ≠ blk A := by
  rcases h.2 with ⟨h1, h2⟩ | ⟨g', cap, cur, h1, _, hg, _⟩
  · simp only [Value.slice.injEq] at h1
    obtain ⟨rfl, _, _⟩ := h1
    simp [blk]
  · simp only [Value.slice.injEq] at h1
    obtain ⟨rfl, _, _⟩ := h1
    intro e'
    simp [blk] at e'
    subst e'
    unfold Blk at hb
    rw [hb] at hg
    injection hg with hg
    injection hg with _ ht
    exact hne ht
theorem getD_get (l : List Nat) (k : Nat) (h : k < l.length) : l.getD k 0 = l[k] := by simp [List.getD, h]
/-- Numbers one behind the other, each as m bytes. -/
def putAll (ns : List Nat) (m : Nat) : List UInt8 := ns.flatMap (fun v => putL v m)
theorem putAll_snoc (ns : List Nat) (v m : Nat) : putAll (ns ++ [v]) m = putAll ns m ++ putL v m := by simp [putAll]
theorem putAll_len (ns : List Nat) (m : Nat) : (putAll ns m).length = ns.length * m := by
  induction ns with
  | nil => simp [putAll]
  | cons v ns ih =>
    have : putAll (v :: ns) m = putL v m ++ putAll ns m := by simp [putAll]
    rw [this, List.length_append, putL_length, ih, List.length_cons, Nat.add_mul]
    omega
/-- New bytes behind some that are one's own. -/
def PutO (base : Nat) (w : World) (L : List UInt8) (e : Ending) (w' : World) : Prop := ∃ A c J, e = .returned (.slice A J c) ∧ Hid (J = L.length) ∧ Own w' base 5 A c L ∧ Below base w w'
def PairO (w : World) (L : List UInt8) (n : Nat) (e : Ending) (w' : World) : Prop := ∃ A c, e = .returned (.tuple #[.slice A n c, .int .i64 0]) ∧ Own w' w.heap.size 5 A c L ∧ Below w.heap.size w w'
theorem fit2 {v : Nat} (h : v ≤ 65535) : v < 18446744073709551616 ∧ v / 256 ^ 2 = 0 := by
  have : (256 : Nat) ^ 2 = 65536 := by decide
  rw [this]; omega
theorem fit4 {v : Nat} (h : v < 4294967296) : v < 18446744073709551616 ∧ v / 256 ^ 4 = 0 := by
  have : (256 : Nat) ^ 4 = 4294967296 := by decide
  rw [this]; omega
theorem put_pair (v m : Nat) (w : World) (h1 : 1 ≤ m) (h8 : m ≤ 8) (h : v < 18446744073709551616 ∧ v / 256 ^ m = 0) : Calls Try.prog 27 #[.int .u64 v, .int .i64 m] w (PairO w (putL v m) m) := by
  refine (put_fits v m w h.1 h1 h8 h.2).mono fun e w' ⟨A, c, h1, h2, h3⟩ => ⟨A, c, ?_, h2, h3⟩
  rw [h1]; simp only [putL_length]
theorem u64_ne_u8 : (40 : TypeId) ≠ 5 := by decide

set_option maxHeartbeats 1000000 in
theorem fput_any (ns : List Nat) (m : Nat) (h1 : 1 ≤ m) (h8 : m ≤ 8) (hfit : ∀ v ∈ ns, v < 18446744073709551616 ∧ v / 256 ^ m = 0) (hns : ns.length ≤ 8)
    (base : Nat) (A : Option Addr) (l : List UInt8) (c g L cap N : Nat) (hL : Hid (L = l.length)) (hN : Hid (N = ns.length)) (w : World) (hown : Own w base 5 A c l) (hbase : base ≤ w.heap.size) (hl : l.length ≤ 70368744177664)
    (hg : Blk w g 40 (ns.map (fun v : Nat => Value.int .u64 (v : Int))).toArray) :
    Calls Try.prog 17 #[.slice A L c, .int .i64 m, .slice (some ⟨g, 0, none⟩) N cap] w (PutO base w (l ++ putAll ns m)) := by
  obtain ⟨i0, hi, hz0, hz1, hz2⟩ := info_parts Try.infoU8
  have hlen : ∀ k, k < ns.length → (l ++ putAll (ns.take k) m).length + (putL (ns.getD k 0) m).length ≤ 140737488355328 := by
    intro k hk
    rw [List.length_append, putAll_len, putL_length, List.length_take]
    have := Nat.mul_le_mul (show min k ns.length ≤ 8 by omega) h8
    omega
  have hp : ∀ k, k < ns.length → ∀ w, Calls Try.prog 27 #[.int .u64 (ns.getD k 0 : Nat), .int .i64 m] w (PairO w (putL (ns.getD k 0) m) m) := by
    intro k hk w
    refine put_pair _ m w h1 h8 (hfit _ ?_)
    rw [getD_get _ _ hk]
    exact List.getElem_mem hk
  have hcs : ∀ k, k < ns.length → ((ns.map (fun v : Nat => Value.int .u64 (v : Int))).toArray)[k]? = some (.int .u64 (ns.getD k 0 : Nat)) := by
    intro k hk
    simp [hk]
  have hsn : ∀ k, k < ns.length → l ++ putAll (ns.take k) m ++ putL (ns.getD k 0) m = l ++ putAll (ns.take (k + 1)) m := by
    intro k hk
    rw [take_snoc ns k hk, putAll_snoc, List.append_assoc, getD_get _ _ hk]
  have hfin : l ++ putAll (ns.take N) m = l ++ putAll ns m := by rw [List.take_of_length_le (by rw [hN.out]; omega)]
  have Hfin := Lib.hid hfin
  have Hlen := Lib.hid hlen
  have Hp := Lib.hid hp
  have Hcs := Lib.hid hcs
  have Hsn := Lib.hid hsn
  have hNb : N ≤ 8 := by rw [hN.out]; exact hns
  have HM : ∀ k, Hid (m = (putL (ns.getD k 0) m).length) := fun k => Lib.hid (putL_length _ _).symm
  clear hfit hlen hp hcs hsn hfin hns
  generalize hLL : l ++ putAll ns m = LL at *
  have HLL := Lib.hid hLL
  clear hLL
  generalize hcsA : (ns.map (fun v : Nat => Value.int .u64 (v : Int))).toArray = CS at *
  have HcsA := Lib.hid hcsA
  clear hcsA
  go_enter Try.func17, Try.ntmps17
  go_wp2
  go_loopw [0, 13] (fun b i wr => ∃ (k J : Nat) (A2 : Option Addr) (c2 : Nat), k ≤ N ∧ i = .int .i64 k ∧ b = .slice A2 J c2 ∧ Hid (J = (l ++ putAll (ns.take k) m).length) ∧ Own wr base 5 A2 c2 (l ++ putAll (ns.take k) m) ∧ Below base w wr ∧ Blk wr g 40 CS)
    (fun _ i _ => N - (intOf i).toNat)
  case atStart => exact ⟨0, L, A, c, Nat.zero_le _, rfl, rfl, Lib.hid (by rw [hL.out]; simp [putAll]), by simpa [putAll] using hown, Below.refl _ _, hg⟩
  case round =>
    obtain ⟨k, J, A2, c2, hk, rfl, rfl, hJ, ho, hb, hgk⟩ := hrel
    by_cases hlt : k < N
    · have hkn : Hid (k < ns.length) := Lib.hid (by rw [← hN.out]; exact hlt)
      have hck := hgk.cell k
      rw [Hcs.out k hkn.out] at hck
      go_wp2_with fail
      refine (Hp.out k hkn.out _).mono ?_
      rintro e w1 ⟨A3, c3, rfl, own3, hb3⟩
      have own2 := ho.below hb3 (Nat.le_refl _)
      have hg2 := hgk.below hb3 hgk.lt
      have hs2 : base ≤ w1.heap.size := Nat.le_trans hbase (Nat.le_trans hb.size hb3.size)
      have hsz := hb.size
      clear hck
      go_wp2_with (at_builtin; refine wpList_append_bs _ rfl _ _ 23 rfl base 5 i0 _ Try.underlying23 hi hz0 hz1 hz2 rfl A2 c2 (l ++ putAll (ns.take k) m) J rfl hJ.out own2 _ A3 c3 (putL (ns.getD k 0) m) m rfl (HM k).out own3.bs (Hlen.out k hkn.out) hs2 ?_; intro A4 c4 w4 own4 hg4 _)
      go_roundw
      case rel =>
        rw [Hsn.out k hkn.out] at own4
        refine ⟨k + 1, J + m, A4, c4, by omega, by go_num, rfl, Lib.hid ?_, own4, ?_, hg2.kept hg4 (own2.ne_blk hg2 u64_ne_u8)⟩
        · rw [← Hsn.out k hkn.out, List.length_append, ← hJ.out, ← (HM k).out]
        · exact (hb.trans (hb3.mono (Nat.le_trans hbase hsz))).grown hg4 hs2 (fun k e => (own2.lt _ e).1)
      case measure => simp [intOf]; omega
    · obtain rfl : k = N := by omega
      go_wp2
      go_ret
      rw [Hfin.out] at hJ ho
      exact ⟨A2, c2, J, rfl, hJ, ho, hb⟩
theorem sum_n (A : Option Addr) (l : List UInt8) (c n : Nat) (hn : Hid (n = l.length)) (w : World) (hm : l.length ≤ 9223372036854775806) (h : Bs w w.heap.size A l) :
    Calls Try.prog 18 #[.slice A n c] w fun e w' => e = .returned (.int .u32 (sumR l)) ∧ w = w' := by
  rw [hn.out]; exact sum_any A l c w hm h
theorem refsum_n (A : Option Addr) (l : List UInt8) (c n : Nat) (hn : Hid (n = l.length)) (w : World) (hm : l.length ≤ 9223372036854775806) (h : Bs w w.heap.size A l) :
    Calls Try.prog 22 #[.slice A n c] w fun e w' => e = .returned (.int .u32 (sumR l)) ∧ w = w' := by
  rw [hn.out]; exact refsum_any A l c w hm h

/-- A frame's bytes ahead of its sum; all of them; or that it may not be. -/
def frontF (s q a : Nat) (l : List UInt8) : List UInt8 := putAll [s] 4 ++ putAll [q, a, l.length] 2 ++ l
def bytesF (s q a : Nat) (l : List UInt8) : List UInt8 := frontF s q a l ++ putAll [sumR (frontF s q a l)] 4
def writeF (s : Nat) (q a : Int) (l : List UInt8) : List UInt8 × Int := if mayF s q a l.length = true then (bytesF s q.toNat a.toNat l, 0) else ([], 70)
theorem frontF_len (s q a : Nat) (l : List UInt8) : (frontF s q a l).length = 10 + l.length := by
  unfold frontF; simp only [List.length_append, putAll_len, List.length_cons, List.length_nil]
theorem bytesF_len (s q a : Nat) (l : List UInt8) : (bytesF s q a l).length = 14 + l.length := by
  unfold bytesF; simp only [List.length_append, putAll_len, List.length_cons, List.length_nil, frontF_len]; omega

theorem fwrite_no (s : Nat) (q a : Int) (A : Option Addr) (n c : Nat) (w : World) (h : mayF s q a n = false) : Calls Try.prog 11 #[.agg #[.int .u32 s, .int .i64 q, .int .i64 a, .slice A n c]] w (OutB w ([], 70)) := by
  have hm := fun w => mayBe_any s q a A n c w
  rw [h] at hm
  clear h
  have kb0 := Blk.new w 25 #[.int .u32 s, .int .i64 q, .int .i64 a, .slice A n c]
  have hbw0 := ba w (.cells #[.int .u32 s, .int .i64 q, .int .i64 a, .slice A n c] 25)
  have c0 := (kb0).cell 0
  have c1 := (kb0).cell 1
  have c2 := (kb0).cell 2
  have c3 := (kb0).cell 3
  simp only [List.getElem?_toArray, List.getElem?_cons_zero, List.getElem?_cons_succ] at c0 c1 c2 c3
  go_enter Try.func11, Try.ntmps11
  go_wp2_with fail
  refine (hm _).mono ?_
  rintro e w1 ⟨rfl, hb1⟩
  go_wp2
  go_ret2
  exact ⟨none, 0, rfl, Own.nil, bt hbw0 hb1⟩

set_option maxHeartbeats 2000000 in
theorem fwrite_ok (s q a : Nat) (A : Option Addr) (l : List UInt8) (n c : Nat) (hn : Hid (n = l.length)) (w : World) (h : mayF s q a n = true) (hs : s < 4294967296) (hbs : Bs w w.heap.size A l) : Calls Try.prog 11 #[.agg #[.int .u32 s, .int .i64 q, .int .i64 a, .slice A n c]] w (OutB w (bytesF s q a l, 0)) := by
  obtain ⟨i0, hi, hz0, hz1, hz2⟩ := info_parts Try.infoU8
  have hm := fun w => mayBe_any s q a A n c w
  rw [h] at hm
  obtain ⟨_, b2, b3, b4⟩ := (mayF_iff _ _ _ _).1 h
  have hlb : l.length ≤ 256 := by rw [← hn.out]; exact b4
  have f1 : ∀ v ∈ [s], v < 18446744073709551616 ∧ v / 256 ^ 4 = 0 := by
    intro v hv; rw [List.mem_singleton] at hv; subst hv; exact fit4 hs
  have f2 : ∀ v ∈ [q, a, n], v < 18446744073709551616 ∧ v / 256 ^ 2 = 0 := by
    intro v hv; simp at hv; rcases hv with rfl | rfl | rfl <;> exact fit2 (by omega)
  have f3 : ∀ v ∈ [sumR (frontF s q a l)], v < 18446744073709551616 ∧ v / 256 ^ 4 = 0 := by
    intro v hv; rw [List.mem_singleton] at hv; subst hv; exact fit4 (sumR_lt _)
  have e1 : IntKind.u64.wrap (s : Int) = (s : Int) := IntWalk.u64_in _ (by omega)
  have e2 : IntKind.u64.wrap (q : Int) = (q : Int) := IntWalk.u64_in _ (by omega)
  have e3 : IntKind.u64.wrap (a : Int) = (a : Int) := IntWalk.u64_in _ (by omega)
  have e4 : IntKind.u64.wrap (n : Int) = (n : Int) := IntWalk.u64_in _ (by omega)
  have hsl := sumR_lt (frontF s q a l)
  have e5 : IntKind.u64.wrap ((sumR (frontF s q a l) : Nat) : Int) = ((sumR (frontF s q a l) : Nat) : Int) := IntWalk.u64_in _ (by omega)
  have hL3 : Hid ([] ++ putAll [s] 4 ++ putAll [q, a, n] 2 ++ l = frontF s q a l) := Lib.hid (by rw [hn.out]; rfl)
  have hL5 : Hid (frontF s q a l ++ putAll [sumR (frontF s q a l)] 4 = bytesF s q a l) := Lib.hid rfl
  have hFl : Hid ((frontF s q a l).length ≤ 266) := Lib.hid (by rw [frontF_len]; omega)
  have hl2 : Hid (([] ++ putAll [s] 4 : List UInt8).length ≤ 70368744177664) := Lib.hid (by simp [putAll_len])
  have hl3 : Hid (([] ++ putAll [s] 4 ++ putAll [q, a, n] 2 : List UInt8).length + l.length ≤ 140737488355328) := Lib.hid (by simp [putAll_len]; omega)
  generalize frontF s q a l = F at *
  generalize bytesF s q a l = B at *
  have HLB := Lib.hid hlb
  clear h b2 b3 b4 hsl hlb
  have F1 := Lib.hid f1
  have F2 := Lib.hid f2
  have F3 := Lib.hid f3
  clear f1 f2 f3 hs
  have kb0 := Blk.new w 25 #[.int .u32 s, .int .i64 q, .int .i64 a, .slice A n c]
  have hbw0 := ba w (.cells #[.int .u32 s, .int .i64 q, .int .i64 a, .slice A n c] 25)
  have c0 := (kb0).cell 0
  have c1 := (kb0).cell 1
  have c2 := (kb0).cell 2
  have c3 := (kb0).cell 3
  simp only [List.getElem?_toArray, List.getElem?_cons_zero, List.getElem?_cons_succ] at c0 c1 c2 c3
  go_enter Try.func11, Try.ntmps11
  go_wp2_with fail
  refine (hm _).mono ?_
  rintro e w1 ⟨rfl, hb1⟩
  have kb1 := kb0.below hb1 kb0.lt
  have hbw1 := bt hbw0 hb1
  clear c0 c1 c2 c3
  have c0 := (kb1).cell 0
  have c1 := (kb1).cell 1
  have c2 := (kb1).cell 2
  have c3 := (kb1).cell 3
  simp only [List.getElem?_toArray, List.getElem?_cons_zero, List.getElem?_cons_succ] at c0 c1 c2 c3
  clear kb0 hbw0 hb1
  go_wp2_with fail
  have g1 := Blk.new w1 40 #[.int .u64 s]
  refine (fput_any [s] 4 (by omega) (by omega) F1.out (by simp) w1.heap.size none [] 0 w1.heap.size 0 1 1 (Lib.hid rfl) (Lib.hid rfl) _ Own.nil (by simp) (by simp) g1).mono ?_
  rintro e w2 ⟨A2, cA2, J2, rfl, hJ2, own2, hb2⟩
  have hb2' : Below w1.heap.size w1 w2 := (ba w1 _).trans hb2
  have kb2 := kb1.below hb2' kb1.lt
  have hbw2 := bt hbw1 hb2'
  have hs2 := hb2'.size
  clear c0 c1 c2 c3
  have c0 := (kb2).cell 0
  have c1 := (kb2).cell 1
  have c2 := (kb2).cell 2
  have c3 := (kb2).cell 3
  simp only [List.getElem?_toArray, List.getElem?_cons_zero, List.getElem?_cons_succ] at c0 c1 c2 c3
  clear g1 hb2
  go_wp2_with fail
  have g2 := Blk.new w2 40 #[.int .u64 q, .int .u64 a, .int .u64 n]
  refine (fput_any [q, a, n] 2 (by omega) (by omega) F2.out (by simp) w1.heap.size A2 ([] ++ putAll [s] 4) cA2 w2.heap.size J2 3 3 hJ2 (Lib.hid rfl) _ (own2.alloc _) (by simp; omega) hl2.out g2).mono ?_
  rintro e w3 ⟨A3, cA3, J3, rfl, hJ3, own3, hb3⟩
  have hb3' : Below w1.heap.size w1 w3 := hb2'.trans (((Below.refl _ _).alloc hs2 _).trans hb3)
  have kb3 := kb1.below hb3' kb1.lt
  have hbw3 := bt hbw1 hb3'
  have hs3 := hb3'.size
  have hbs3 := hbs.bt hbw3
  clear c0 c1 c2 c3
  have c0 := (kb3).cell 0
  have c1 := (kb3).cell 1
  have c2 := (kb3).cell 2
  have c3 := (kb3).cell 3
  simp only [List.getElem?_toArray, List.getElem?_cons_zero, List.getElem?_cons_succ] at c0 c1 c2 c3
  clear g2 hb3
  go_wp2_with (at_builtin; refine wpList_append_bs _ rfl _ _ 23 rfl w1.heap.size 5 i0 _ Try.underlying23 hi hz0 hz1 hz2 rfl A3 cA3 ([] ++ putAll [s] 4 ++ putAll [q, a, n] 2) J3 rfl hJ3.out own3 _ A c l n rfl hn.out hbs3 hl3.out hs3 ?_; intro A4 cA4 w4 own4 hg4 _)
  have hJ4 : Hid (J3 + n = F.length) := Lib.hid (by rw [← hL3.out, List.length_append, ← hJ3.out, ← hn.out])
  rw [hL3.out] at own4
  have hb4 : Below w1.heap.size w1 w4 := hb3'.grown hg4 hs3 (fun k e => (own3.lt _ e).1)
  have hs4 := hb4.size
  refine (sum_n A4 F cA4 _ hJ4 _ (by have := hFl.out; omega) own4.bs).mono ?_
  rintro e w5 ⟨rfl, rfl⟩
  clear c0 c1 c2 c3
  go_wp2_with fail
  have g4 := Blk.new w4 40 #[.int .u64 (sumR F : Nat)]
  refine (fput_any [sumR F] 4 (by omega) (by omega) F3.out (by simp) w1.heap.size A4 F cA4 w4.heap.size _ 1 1 hJ4 (Lib.hid rfl) _ (own4.alloc _) (by simp; omega) (by have := hFl.out; omega) g4).mono ?_
  rintro e w6 ⟨A6, cA6, J6, rfl, hJ6, own6, hb6⟩
  have hb6' : Below w1.heap.size w1 w6 := hb4.trans (((Below.refl _ _).alloc hs4 _).trans hb6)
  have hbw6 := bt hbw1 hb6'
  rw [hL5.out] at own6 hJ6
  go_wp2
  go_ret2
  exact ⟨A6, cA6, by rw [hJ6.out]; rfl, own6.base_le hbw1.size, hbw6⟩

theorem fwrite_any (s : Nat) (q a : Int) (A : Option Addr) (l : List UInt8) (n c : Nat) (hn : Hid (n = l.length)) (w : World) (hs : s < 4294967296) (hbs : Bs w w.heap.size A l) : Calls Try.prog 11 #[.agg #[.int .u32 s, .int .i64 q, .int .i64 a, .slice A n c]] w (OutB w (writeF s q a l)) := by
  unfold writeF
  rw [← hn.out]
  rcases h : mayF s q a n with _ | _
  · rw [if_neg (by simp)]
    exact fwrite_no s q a A n c w h
  · rw [if_pos rfl]
    obtain ⟨_, b2, b3, b4⟩ := (mayF_iff _ _ _ _).1 h
    obtain ⟨q, rfl⟩ := Int.eq_ofNat_of_zero_le b2.1
    obtain ⟨a, rfl⟩ := Int.eq_ofNat_of_zero_le b3.1
    exact fwrite_ok s q a A l n c hn w h hs hbs
end Go.Proofs.Ythmhkicgghobmaa
