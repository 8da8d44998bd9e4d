/- Layer 8: as many are on their way. -/
import Derived.Test.YtkfmhkpmlncjgaaPh
import Derived.Test.YtkfmhkpmlncjgaaPi
namespace Go.Proofs.Ytkfmhkpmlncjgaa
open Go.RowKit
set_option linter.unusedVariables false
set_option linter.unusedSimpArgs false

/-- A list of texts that lie outside block g. -/
def ListK (w : World) (g : Nat) (A : Option Addr) (ls : List (List UInt8)) : Prop :=
  0 < ls.length → ∃ b o, A = some ⟨b, o, none⟩ ∧ b < w.heap.size ∧ b ≠ g ∧ ∀ i, (h : i < ls.length) → ∃ Ai ci, w.cell? ⟨b, o + i, none⟩ = some (.slice Ai (ls[i]'h).length ci) ∧ DAt w (some g) Ai (ls[i]'h)
theorem ListK.grown {w w' : World} {g : Nat} {A : Option Addr} {ls : List (List UInt8)} (h : ListK w g A ls) (hg : w.grownBy w' (some g)) : ListK w' g A ls := fun hn => by
  obtain ⟨b, o, e, h1, h2, h3⟩ := h hn
  refine ⟨b, o, e, Nat.lt_of_lt_of_le h1 hg.size, h2, fun i hi => ?_⟩
  obtain ⟨Ai, ci, h4, h5⟩ := h3 i hi
  exact ⟨Ai, ci, (cell_grown hg h1 (fun e => by injection e with e; exact h2 e)).trans h4, h5.grown hg (.inl rfl)⟩
theorem ListK.list {w : World} {g : Nat} {A : Option Addr} {ls : List (List UInt8)} (h : ListK w g A ls) : ListAt w w.heap.size A ls := fun hn => by
  obtain ⟨b, o, e, h1, h2, h3⟩ := h hn
  refine ⟨b, o, e, h1, fun i hi => ?_⟩
  obtain ⟨Ai, ci, h4, h5⟩ := h3 i hi
  exact ⟨Ai, ci, h4, h5.bs⟩
/-- Packet i's slice begins in a block from S on. -/
def NewAt (g i S : Nat) (u : World) : Prop := ∃ b c n, u.cell? ⟨g, i, none⟩ = some (.slice (some ⟨b, 0, none⟩) n c) ∧ S ≤ b
def TurnO (w : World) (g i : Nat) (ls : List (List UInt8)) (e : Ending) (w' : World) : Prop := PutO w g ls e w' ∧ NewAt g i w.heap.size w'

set_option maxRecDepth 100000 in
set_option maxHeartbeats 2000000 in
theorem all_at {w : World} {g : Nat} {ls : List (List UInt8)} {cs : Array Value} (h : PathAt w g ls cs) : Calls Try.prog 21 #[(.pointer (some ⟨g, 0, none⟩))] w (fun e w' => ∃ A c n, e = .returned (.slice A n c) ∧ Hid (n = ls.length) ∧ ListK w' g A ls ∧ Below w.heap.size w w') := by
  obtain ⟨i0, hi, hz0, hz1, hz2⟩ := info_parts Try.infoSl
  have HP := Lib.hid h
  have c256 := h.blk.cell 256
  rw [h.cnt] at c256
  have hlen := h.len
  obtain ⟨n, hnl⟩ : ∃ n, n = ls.length := ⟨_, rfl⟩
  rw [← hnl] at c256 hlen
  have HN := Lib.hid hnl
  have Hlen := Lib.hid hlen
  have hn0 : (0 : Int) ≤ (n : Int) := by omega
  clear h hnl hlen
  go_enter Try.func21, Try.ntmps21
  go_wp2_with (at_make; refine wpList_make_blk _ rfl _ _ 26 rfl 29 i0 Try.underlying26 hi hz0 hz1 hz2 .i64 .i64 _ _ n rfl rfl rfl rfl (by have := Hlen.out; omega) ?_; intro w1 k1 hb1)
  clear c256
  go_loopw [14] (fun i wr => ∃ (k : Nat) (cs2 : Array Value), k ≤ n ∧ i = .int .i64 k ∧ Blk wr w.heap.size 29 cs2 ∧ Hid (cs2.size = n) ∧ Hid (∀ j, (hl : j < ls.length) → j < k → ∃ A c, cs2[j]? = some (.slice A (ls[j]'hl).length c) ∧ DAt wr (some w.heap.size) A (ls[j]'hl)) ∧ Below w.heap.size w wr)
    (fun i _ => n - (intOf i).toNat)
  case atStart => exact ⟨0, _, Nat.zero_le _, rfl, k1, Lib.hid (by simp), Lib.hid (fun j hl hj => absurd hj (by omega)), hb1⟩
  case round =>
    obtain ⟨k, cs2, hk, rfl, kl, hsz, hcs, hbr⟩ := hrel
    clear k1 hb1
    by_cases hlt : k < n
    · have hP := HP.out.bt hbr
      have hkl : k < ls.length := by rw [← HN.out]; exact hlt
      obtain ⟨A, c, hc, hd⟩ := hP.at_ k hkl
      have ck := hP.blk.cell k
      rw [hc] at ck
      have hsm := hP.sm _ (List.getElem_mem hkl)
      have hcl := clone_all A ls[k] _ c wr (Lib.hid rfl) (Lib.hid (by omega)) hd.bs
      obtain ⟨l, hl⟩ : ∃ l, l = ls[k] := ⟨_, rfl⟩
      rw [← hl] at hcl ck
      have Hl := Lib.hid hl
      have hk256 : (k : Int) < 256 := by have := Hlen.out; omega
      have hkn : (k : Int) < (n : Int) := by omega
      have kllt := kl.lt
      have Hkl := Lib.hid hkl
      have Kllt := Lib.hid kllt
      clear hP hc hd hsm hl kllt
      go_wp2_with fail
      refine hcl.mono ?_
      clear hcl
      rintro e w4 ⟨A4, c4, rfl, own4, hb4⟩
      have kl4 := kl.below hb4 kl.lt
      obtain ⟨v0, hv0⟩ : ∃ v0, cs2[k]? = some v0 := ⟨cs2[k]'(by rw [hsz.out]; omega), Array.getElem?_eq_getElem _⟩
      have cz := kl4.cell k
      rw [hv0] at cz
      have fz := kl4.frozen k
      have kl5 := kl4.set_ k (.slice A4 l.length c4)
      have hbr5 := (bt hbr hb4).setCell (p := ⟨w.heap.size, k, none⟩) (Nat.le_refl _) (.slice A4 l.length c4)
      have hgr5 := grownBy_trans (grown_of hb4 (some w.heap.size)) (grown_set w4 ⟨w.heap.size, k, none⟩ (.slice A4 l.length c4))
      have own5 := own4.kept (grown_set w4 ⟨w.heap.size, k, none⟩ (.slice A4 l.length c4)) (.inr (fun e => by have := (own4.lt _ e).1; have := Kllt.out; simp at *; omega))
      have D5 := Lib.hid (DAt.of_own own5 Kllt.out)
      have KL5 := Lib.hid kl5
      have HB5 := Lib.hid hbr5
      have HG5 := Lib.hid hgr5
      clear kl kl4 kl5 hbr5 hgr5 own4 own5 hb4 hv0 ck hbr
      go_wp2
      go_roundw
      case rel =>
        refine ⟨k + 1, _, by omega, by go_num, KL5.out, Lib.hid (by rw [Array.size_setIfInBounds]; exact hsz.out), Lib.hid (fun j hl hj => ?_), HB5.out⟩
        by_cases hjk : k = j
        · subst hjk
          rw [Array.getElem?_setIfInBounds_self_of_lt (by rw [hsz.out]; omega)]
          rw [← Hl.out]
          exact ⟨A4, c4, rfl, D5.out⟩
        · rw [Array.getElem?_setIfInBounds_ne hjk]
          obtain ⟨A', c', h1, h2⟩ := hcs.out j hl (by omega)
          exact ⟨A', c', h1, h2.grown HG5.out (.inl rfl)⟩
      case measure => simp [intOf]; omega
    · obtain rfl : k = n := by omega
      have hgl := HP.out.blk.lt
      have kg := (HP.out.bt hbr).blk
      have hL : ListK wr g (some ⟨w.heap.size, 0, none⟩) ls := fun hn => ⟨w.heap.size, 0, rfl, kl.lt, by omega, fun i hil => by
        obtain ⟨A', c', h1, h2⟩ := hcs.out i hil (by rw [HN.out]; exact hil)
        refine ⟨A', c', ?_, fun hn2 => ?_⟩
        · rw [Nat.zero_add, kl.cell i, h1]
        · obtain ⟨b, o, q1, q2, q3, ⟨cq, fq, hq⟩, q4⟩ := h2 hn2
          refine ⟨b, o, q1, fun e => ?_, q3, ⟨cq, fq, hq⟩, q4⟩
          injection e with e
          subst e
          unfold Blk at kg
          rw [kg] at hq
          injection hq with hq
          injection hq with _ hq
          exact path_ne hq⟩
      clear hgl kg
      go_wp2
      go_ret
      exact ⟨_, _, _, rfl, HN, hL, hbr⟩
set_option maxRecDepth 100000 in
set_option maxHeartbeats 1000000 in
theorem turn_at {w : World} {g : Nat} {ls : List (List UInt8)} {cs : Array Value} (h : PathAt w g ls cs) (i j : Nat) (hi : i < ls.length) (hj : j < (ls[i]).length) (y : UInt8) : Calls Try.prog 17 #[(.pointer (some ⟨g, 0, none⟩)), .int .i64 i, .int .i64 j, .int .u8 (y.toNat : Int)] w (TurnO w g i (ls.set i ((ls[i]).set j ((ls[i])[j] ^^^ y)))) := by
  have hf := find_any h i true
  rw [show fd ls.length i = 0 from if_pos (by omega)] at hf
  obtain ⟨A, c, hc, hd⟩ := h.at_ i hi
  have ck := h.blk.cell i
  rw [hc] at ck
  have hlen := h.len
  have hsm := h.sm _ (List.getElem_mem hi)
  have hcl := clone_all A ls[i] _ c w (Lib.hid rfl) (Lib.hid (by omega)) hd.bs
  have hi2 : (i : Int) < 256 := by omega
  have hi3 : i < 256 := by omega
  obtain ⟨l, hl⟩ : ∃ l, l = ls[i] := ⟨_, rfl⟩
  have hjl : j < l.length := by rw [hl]; exact hj
  obtain ⟨x, hx⟩ : ∃ x, x = l[j] := ⟨_, rfl⟩
  have hxx : (ls[i])[j] = x := by rw [hx]; simp only [hl]
  rw [hxx]
  rw [← hl] at hcl ck hsm ⊢
  obtain ⟨n, hnl⟩ : ∃ n, n = l.length := ⟨_, rfl⟩
  rw [← hnl] at hcl ck
  have Hnl := Lib.hid hnl
  have h2 : ¬ (n : Int) ≤ (j : Int) := by omega
  have h3 : ¬ n ≤ j := by omega
  have h4 : j < n := by omega
  have h5 : (j : Int) < (n : Int) := by omega
  have Hjl := Lib.hid hjl
  have Hlen := Lib.hid hlen
  have Hsm := Lib.hid hsm
  have Hi3 := Lib.hid hi3
  have Hhi := Lib.hid hi
  have HP := Lib.hid h
  have hgl := h.blk.lt
  have Hgl := Lib.hid hgl
  have hsz : Hid (cs.size = 257) := Lib.hid h.size
  have HL := Lib.hid hl
  have HX : Hid (l[j]? = some x) := Lib.hid (by rw [hx]; exact List.getElem?_eq_getElem hjl)
  have hxl := x.toNat_lt
  have hyl := y.toNat_lt
  clear h hd hc hl hx hxx hnl hlen hsm hi3 hgl hjl
  go_enter Try.func17, Try.ntmps17
  go_wp2_with fail
  refine hf.mono ?_
  rintro e w1 ⟨rfl, rfl⟩
  go_wp2_with fail
  refine hcl.mono ?_
  rintro e w2 ⟨A2, c2, rfl, own2, hb2⟩
  obtain ⟨b2, rfl, hg1, hg2, _, _⟩ := own2.form (by have := Hjl.out; omega)
  have cj := own2.cell j Hjl.out
  have hxe : l[j]'Hjl.out = x := by have := HX.out; rw [List.getElem?_eq_getElem Hjl.out] at this; injection this
  rw [hxe] at cj
  clear hxe
  have fj := own2.frozen j
  have hst := (own2.stored j (x ^^^ y)).1
  have e255 : bits .xor .u8 (x.toNat : Int) (y.toNat : Int) = ((x ^^^ y).toNat : Int) := xor_u8 x y
  have hb3 := hb2.setCell (p := ⟨b2, j, none⟩) hg1 (.int .u8 ((x ^^^ y).toNat : Int))
  have P3 := HP.out.bt hb3
  have kb3 := P3.blk
  have ci := kb3.cell i
  obtain ⟨v0, hv0⟩ : ∃ v0, cs[i]? = some v0 := ⟨cs[i]'(by rw [hsz.out]; have := Hi3.out; omega), Array.getElem?_eq_getElem _⟩
  rw [hv0] at ci
  have fi := kb3.frozen i
  have gne : ¬ (b2 = g) := by have := Hgl.out; omega
  generalize hL2 : l.set j (x ^^^ y) = l2 at *
  have hl2 : Hid (l2.length = l.length) := Lib.hid (by rw [← hL2, List.length_set])
  clear hL2 own2 hcl hf hb2
  have kz := kb3.set_ i (.slice (some ⟨b2, 0, none⟩) n c2)
  have hgr := grownBy_trans (grown_of hb3 (some g)) (grown_set (w2.setCell ⟨b2, j, none⟩ (.int .u8 ((x ^^^ y).toNat : Int))) ⟨g, i, none⟩ (.slice (some ⟨b2, 0, none⟩) n c2))
  have ownz := hst.kept (grown_set _ ⟨g, i, none⟩ (.slice (some ⟨b2, 0, none⟩) n c2)) (.inr (fun e => by simp [blk] at e; exact gne e))
  have hgz := hgr
  have KZ := Lib.hid kz
  have OZ := Lib.hid ownz
  have HZ := Lib.hid hgr
  rw [← e255] at ci fi KZ OZ HZ
  clear e255
  have Hg1 := Lib.hid hg1
  clear kz ownz hgr hgz hb3 P3 kb3 hst hv0 hg1 hg2
  go_wp2
  go_ret
  have hlen := Hlen.out
  have hsm := Hsm.out
  have hi3 := Hi3.out
  have hgl := Hgl.out
  have hi := Hhi.out
  refine ⟨⟨rfl, ⟨_, KZ.out, ?_, ?_, ?_, ?_, ?_⟩, HZ.out⟩, b2, c2, n, ?_, Hg1.out⟩
  · rw [Array.size_setIfInBounds, hsz.out]
  · rw [Array.getElem?_setIfInBounds_ne (by omega), List.length_set]; exact HP.out.cnt
  · rw [List.length_set]; exact hlen
  · intro z hz
    rcases List.mem_or_eq_of_mem_set hz with hz | hz
    · exact HP.out.sm z hz
    · rw [hz, hl2.out]; exact hsm
  · intro k hk
    rw [List.length_set] at hk
    by_cases hik : i = k
    · subst hik
      rw [Array.getElem?_setIfInBounds_self_of_lt (by rw [hsz.out]; omega)]
      simp only [List.getElem_set_self]
      exact ⟨_, c2, by rw [hl2.out, ← Hnl.out], DAt.of_own OZ.out hgl⟩
    · rw [Array.getElem?_setIfInBounds_ne hik]
      obtain ⟨A', c', h1, h2⟩ := HP.out.at_ k hk
      rw [List.getElem_set_ne hik]
      exact ⟨A', c', h1, h2.grown HZ.out (.inl rfl)⟩
  · rw [KZ.out.cell i]; exact Array.getElem?_setIfInBounds_self_of_lt (by rw [hsz.out]; omega)


theorem turn_err {g : Nat} {ls : List (List UInt8)} (i t : Int) (y : UInt8) (hbad : ¬ ∃ (j k : Nat) (h : j < ls.length), i = j ∧ t = k ∧ k < (ls[j]'h).length) :
    ∃ E : Int, ∀ w cs, PathAt w g ls cs → Calls Try.prog 17 #[.pointer (some ⟨g, 0, none⟩), .int .i64 i, .int .i64 t, .int .u8 (y.toNat : Int)] w fun e w' => e = .returned (.int .i64 E) ∧ Below w.heap.size w w' := by
  by_cases hi : 0 ≤ i ∧ i < ls.length
  · obtain ⟨j, rfl⟩ := Int.eq_ofNat_of_zero_le hi.1
    have hj : j < ls.length := by omega
    refine ⟨1, fun w cs P => turn_arg P j t y hj (fun ht => hbad ?_)⟩
    obtain ⟨k, rfl⟩ := Int.eq_ofNat_of_zero_le ht.1
    exact ⟨j, k, hj, rfl, rfl, by omega⟩
  · refine ⟨4, fun w cs P => (turn_none P i t y hi).mono ?_⟩
    rintro e w' ⟨rfl, rfl⟩
    exact ⟨rfl, Below.refl _ _⟩
theorem set_back {ls : List (List UInt8)} {j k : Nat} (hj : j < ls.length) (hk : k < (ls[j]).length) (y : UInt8) (h2 : k < ((ls.set j ((ls[j]).set k ((ls[j])[k] ^^^ y)))[j]'(by rw [List.length_set]; exact hj)).length) :
    (ls.set j ((ls[j]).set k ((ls[j])[k] ^^^ y))).set j (((ls.set j ((ls[j]).set k ((ls[j])[k] ^^^ y)))[j]'(by rw [List.length_set]; exact hj)).set k ((((ls.set j ((ls[j]).set k ((ls[j])[k] ^^^ y)))[j]'(by rw [List.length_set]; exact hj))[k]'h2) ^^^ y)) = ls := by
  simp only [List.getElem_set_self, List.set_set]
  rw [UInt8.xor_assoc, UInt8.xor_self, UInt8.xor_zero, List.set_getElem_self, List.set_getElem_self]
/-- Two turns of a byte: what holds before, between and behind them. -/
theorem turns_any {w : World} {g : Nat} {ls : List (List UInt8)} {cs : Array Value} (P : PathAt w g ls cs) (i t : Int) (y : UInt8) :
    ∃ (E : Int) (OLD ST1 END NEW : World → Prop), OLD w.drew ∧
      (∀ u, w.grownBy u (some g) → OLD u → Calls Try.prog 17 #[.pointer (some ⟨g, 0, none⟩), .int .i64 i, .int .i64 t, .int .u8 (y.toNat : Int)] u fun e u' => e = .returned (.int .i64 E) ∧ ST1 u' ∧ NEW u' ∧ u.grownBy u' (some g)) ∧
      (∀ u, w.grownBy u (some g) → ST1 u → Calls Try.prog 17 #[.pointer (some ⟨g, 0, none⟩), .int .i64 i, .int .i64 t, .int .u8 (y.toNat : Int)] u fun e u' => e = .returned (.int .i64 E) ∧ END u' ∧ NEW u' ∧ u.grownBy u' (some g)) ∧
      (∀ u, (OLD u ∨ ST1 u) → NEW u → ST1 u) ∧ (∀ u, END u → ∃ cs, PathAt u g ls cs) := by
  have Pd : PathAt w.drew g ls cs := P.bt (below_drew w)
  by_cases hbad : ∃ (j k : Nat) (h : j < ls.length), i = j ∧ t = k ∧ k < (ls[j]'h).length
  · obtain ⟨j, k, hj, rfl, rfl, hk⟩ := hbad
    obtain ⟨l1, hl1⟩ : ∃ l1, l1 = ls.set j ((ls[j]).set k ((ls[j])[k] ^^^ y)) := ⟨_, rfl⟩
    refine ⟨0, fun u => (∃ cs, PathAt u g ls cs) ∧ ¬ NewAt g j w.heap.size u, fun u => ∃ cs, PathAt u g l1 cs, fun u => ∃ cs, PathAt u g ls cs, NewAt g j w.heap.size, ⟨⟨_, Pd⟩, ?_⟩, ?_, ?_, ?_, fun u h => h⟩
    · rintro ⟨b, c, n, hc, hb⟩
      obtain ⟨A, c', h1, h2⟩ := Pd.at_ j hj
      have h3 := Pd.blk.cell j
      rw [h1, hc] at h3
      injection h3 with h3
      injection h3 with h3 _ _
      obtain ⟨b2, o2, q1, _, q3, _⟩ := h2 (by omega)
      rw [q1] at h3
      injection h3 with h3
      injection h3 with h3 _ _
      have : w.drew.heap.size = w.heap.size := rfl
      omega
    · rintro u hg ⟨⟨cs2, P2⟩, _⟩
      refine (turn_at P2 j k hj hk y).mono ?_
      rintro e u' ⟨⟨rfl, hP, hg2⟩, b, c, n, hc, hb⟩
      exact ⟨rfl, by rw [hl1]; exact hP, ⟨b, c, n, hc, Nat.le_trans hg.size hb⟩, hg2⟩
    · rintro u hg ⟨cs2, P2⟩
      have hj1 : j < l1.length := by rw [hl1, List.length_set]; exact hj
      have hk1 : k < (l1[j]).length := by simp only [hl1, List.getElem_set_self, List.length_set]; exact hk
      refine (turn_at P2 j k hj1 hk1 y).mono ?_
      rintro e u' ⟨⟨rfl, hP, hg2⟩, b, c, n, hc, hb⟩
      subst hl1
      rw [set_back hj hk y hk1] at hP
      exact ⟨rfl, hP, ⟨b, c, n, hc, Nat.le_trans hg.size hb⟩, hg2⟩
    · rintro u (⟨_, h⟩ | h) h2
      · exact absurd h2 h
      · exact h
  · obtain ⟨E, hE⟩ := turn_err (g := g) i t y hbad
    refine ⟨E, fun u => ∃ cs, PathAt u g ls cs, fun u => ∃ cs, PathAt u g ls cs, fun u => ∃ cs, PathAt u g ls cs, fun _ => True, ⟨_, Pd⟩, ?_, ?_, fun u h _ => h.elim id id, fun u h => h⟩
    all_goals
      rintro u hg ⟨cs2, P2⟩
      refine (hE u cs2 P2).mono ?_
      rintro e u' ⟨rfl, hb⟩
      exact ⟨rfl, ⟨_, P2.bt hb⟩, trivial, grown_of hb _⟩
end Go.Proofs.Ytkfmhkpmlncjgaa
