/- Layer 8: All; the fixed calls; the law on a path that nobody made. -/
import Derived.Test.YtkfmhkpmlncjgaaPb
namespace Go.Proofs.Ytkfmhkpmlncjgaa
open Go.RowKit
set_option linter.unusedVariables false
set_option linter.unusedSimpArgs false

theorem Try.infoSl : (Try.prog.info? 29).map (fun i => (i.zero, i.size, i.bytes)) = some (some (.slice none 0 0), 1, 24) := by kernel_rfl
theorem wpList_make_blk {P : Program} (w : World) {ops : Array Oper} {rest : List Oper} {o : Oper} {a : Act} {Q : Exit → Act → World → Prop}
    (hg : o.guard = none) (l c : Operand) (t : TypeId) (hop : o.op = Op.makeSlice t l c)
    (e : TypeId) (i : TypeInfo) (h1 : P.underlying t = some (.slice e)) (h2 : P.info? e = some i) (h3 : i.zero = some (.slice none 0 0)) (h4 : i.size = 1) (h5 : i.bytes = 24)
    (kl kc : IntKind) (L C : Int) (n : Nat) (hl : a.eval l = .int kl L) (hc : a.eval c = .int kc C) (hL : L = (n : Int)) (hC : C = (n : Int)) (b2 : n ≤ 100000)
    (hK : ∀ w', Blk w' w.heap.size e (List.replicate n (.slice none 0 0)).toArray → Below w.heap.size w w' → wpList P ops Q rest (a.put o.dst (.slice (some ⟨w.heap.size, 0, none⟩) n n)) w') :
    wpList P ops Q (o :: rest) a w := by
  refine wpList_plain hg fun K hK' => ?_
  have hr := run_make (P := P) w t e i (.slice none 0 0) h1 h2 h3 kl kc n n (by omega) (by omega) (by rw [h5]; omega) (by omega)
  subst hL
  subst hC
  unfold Oper.wp
  simp only [Int.toNat_natCast] at hr
  simp [execOp, hop, hl, hc, hr, Result.andThen]
  refine hK' _ _ (hK _ ?_ ((Below.refl _ _).alloc (Nat.le_refl _) _))
  show _ = _
  rw [heap_alloc_new, h4, Nat.mul_one]
  have e1 : (madeCells (Value.slice none 0 0).cells n) = (List.replicate n (.slice none 0 0)).toArray := by
    apply Array.ext'
    rw [show (Value.slice none 0 0).cells = #[.slice none 0 0] from rfl, toList_madeCells_one]
  rw [e1]

/-- A list of texts in memory. -/
def ListAt (w : World) (B : Nat) (A : Option Addr) (ls : List (List UInt8)) : Prop :=
  0 < ls.length → ∃ b o, A = some ⟨b, o, none⟩ ∧ b < B ∧ ∀ i, (h : i < ls.length) → ∃ Ai ci, w.cell? ⟨b, o + i, none⟩ = some (.slice Ai (ls[i]'h).length ci) ∧ Bs w B Ai (ls[i]'h)
theorem ListAt.bt {w w' : World} {A : Option Addr} {ls : List (List UInt8)} (h : ListAt w w.heap.size A ls) (hb : Below w.heap.size w w') : ListAt w' w'.heap.size A ls := fun hn => by
  obtain ⟨b, o, e, h1, h2⟩ := h hn
  refine ⟨b, o, e, Nat.lt_of_lt_of_le h1 hb.size, fun i hi => ?_⟩
  obtain ⟨Ai, ci, h3, h4⟩ := h2 i hi
  exact ⟨Ai, ci, (hb.cell (p := ⟨b, o + i, none⟩) h1).trans h3, h4.bt hb⟩
def AllO (w : World) (ls : List (List UInt8)) (e : Ending) (w' : World) : Prop := ∃ A c n, e = .returned (.slice A n c) ∧ Hid (n = ls.length) ∧ ListAt w' w'.heap.size A ls ∧ Below w.heap.size w w'

set_option maxRecDepth 100000 in
set_option maxHeartbeats 2000000 in
theorem all_any {w : World} {g : Nat} {ls : List (List UInt8)} {cs : Array Value} (h : PathAt w g ls cs) : Calls Try.prog 21 #[(.pointer (some ⟨g, 0, none⟩))] w (AllO w ls) := by
  obtain ⟨i0, hi, hz0, hz1, hz2⟩ := info_parts Try.infoSl
  have HP := Lib.hid h
  have c256 := h.blk.cell 256
  rw [h.cnt] at c256
  have hlen := h.len
  obtain ⟨n, hnl⟩ : ∃ n, n = ls.length := ⟨_, rfl⟩
  rw [← hnl] at c256 hlen
  have HN := Lib.hid hnl
  have Hlen := Lib.hid hlen
  have hn0 : (0 : Int) ≤ (n : Int) := by omega
  clear h hnl hlen
  go_enter Try.func21, Try.ntmps21
  go_wp2_with (at_make; refine wpList_make_blk _ rfl _ _ 26 rfl 29 i0 Try.underlying26 hi hz0 hz1 hz2 .i64 .i64 _ _ n rfl rfl rfl rfl (by have := Hlen.out; omega) ?_; intro w1 k1 hb1)
  clear c256
  go_loopw [14] (fun i wr => ∃ (k : Nat) (cs2 : Array Value), k ≤ n ∧ i = .int .i64 k ∧ Blk wr w.heap.size 29 cs2 ∧ Hid (cs2.size = n) ∧ Hid (∀ j, (hl : j < ls.length) → j < k → ∃ A c, cs2[j]? = some (.slice A (ls[j]'hl).length c) ∧ DAt wr (some w.heap.size) A (ls[j]'hl)) ∧ Below w.heap.size w wr)
    (fun i _ => n - (intOf i).toNat)
  case atStart => exact ⟨0, _, Nat.zero_le _, rfl, k1, Lib.hid (by simp), Lib.hid (fun j hl hj => absurd hj (by omega)), hb1⟩
  case round =>
    obtain ⟨k, cs2, hk, rfl, kl, hsz, hcs, hbr⟩ := hrel
    clear k1 hb1
    by_cases hlt : k < n
    · have hP := HP.out.bt hbr
      have hkl : k < ls.length := by rw [← HN.out]; exact hlt
      obtain ⟨A, c, hc, hd⟩ := hP.at_ k hkl
      have ck := hP.blk.cell k
      rw [hc] at ck
      have hsm := hP.sm _ (List.getElem_mem hkl)
      have hcl := clone_all A ls[k] _ c wr (Lib.hid rfl) (Lib.hid (by omega)) hd.bs
      obtain ⟨l, hl⟩ : ∃ l, l = ls[k] := ⟨_, rfl⟩
      rw [← hl] at hcl ck
      have Hl := Lib.hid hl
      have hk256 : (k : Int) < 256 := by have := Hlen.out; omega
      have hkn : (k : Int) < (n : Int) := by omega
      have kllt := kl.lt
      have Hkl := Lib.hid hkl
      have Kllt := Lib.hid kllt
      clear hP hc hd hsm hl kllt
      go_wp2_with fail
      refine hcl.mono ?_
      clear hcl
      rintro e w4 ⟨A4, c4, rfl, own4, hb4⟩
      have kl4 := kl.below hb4 kl.lt
      obtain ⟨v0, hv0⟩ : ∃ v0, cs2[k]? = some v0 := ⟨cs2[k]'(by rw [hsz.out]; omega), Array.getElem?_eq_getElem _⟩
      have cz := kl4.cell k
      rw [hv0] at cz
      have fz := kl4.frozen k
      have kl5 := kl4.set_ k (.slice A4 l.length c4)
      have hbr5 := (bt hbr hb4).setCell (p := ⟨w.heap.size, k, none⟩) (Nat.le_refl _) (.slice A4 l.length c4)
      have hgr5 := grownBy_trans (grown_of hb4 (some w.heap.size)) (grown_set w4 ⟨w.heap.size, k, none⟩ (.slice A4 l.length c4))
      have own5 := own4.kept (grown_set w4 ⟨w.heap.size, k, none⟩ (.slice A4 l.length c4)) (.inr (fun e => by have := (own4.lt _ e).1; have := Kllt.out; simp at *; omega))
      have D5 := Lib.hid (DAt.of_own own5 Kllt.out)
      have KL5 := Lib.hid kl5
      have HB5 := Lib.hid hbr5
      have HG5 := Lib.hid hgr5
      clear kl kl4 kl5 hbr5 hgr5 own4 own5 hb4 hv0 ck hbr
      go_wp2
      go_roundw
      case rel =>
        refine ⟨k + 1, _, by omega, by go_num, KL5.out, Lib.hid (by rw [Array.size_setIfInBounds]; exact hsz.out), Lib.hid (fun j hl hj => ?_), HB5.out⟩
        by_cases hjk : k = j
        · subst hjk
          rw [Array.getElem?_setIfInBounds_self_of_lt (by rw [hsz.out]; omega)]
          rw [← Hl.out]
          exact ⟨A4, c4, rfl, D5.out⟩
        · rw [Array.getElem?_setIfInBounds_ne hjk]
          obtain ⟨A', c', h1, h2⟩ := hcs.out j hl (by omega)
          exact ⟨A', c', h1, h2.grown HG5.out (.inl rfl)⟩
      case measure => simp [intOf]; omega
    · obtain rfl : k = n := by omega
      have hL : ListAt wr wr.heap.size (some ⟨w.heap.size, 0, none⟩) ls := fun hn => ⟨w.heap.size, 0, rfl, kl.lt, fun i hil => by
        obtain ⟨A', c', h1, h2⟩ := hcs.out i hil (by rw [HN.out]; exact hil)
        refine ⟨A', c', ?_, h2.bs⟩
        rw [Nat.zero_add, kl.cell i, h1]⟩
      go_wp2
      go_ret
      exact ⟨_, _, _, rfl, HN, hL, hbr⟩

theorem conv_n (A : Option Addr) (l : List UInt8) (n c : Nat) (hn : Hid (n = l.length)) (w : World) (B : Nat) (h : Bs w B A l) : (convert 29 9 (.slice A n c)).run Try.prog w = .ok (.string ⟨l.toArray⟩) w := by
  rw [hn.out]; exact conv_bytes Try.underlying29 Try.underlying5 Try.underlying9 h _

set_option maxHeartbeats 2000000 in
theorem alive_any (w : World) : Calls Try.prog 9 #[] w fun e w' => e = .returned (.bool true) ∧ Below w.heap.size w w' := by
  go_enter Try.func9, Try.ntmps9
  go_wp2_with fail
  refine (new_any _).mono ?_
  intro e w1 hnew
  obtain ⟨cs, rfl, P1, hb1⟩ := PathAt.new hnew
  clear hnew
  have P2 := P1.bt (ba w1 (.cells #[.int .u8 1] 5))
  have hb2 := bt hb1 (ba w1 (.cells #[.int .u8 1] 5))
  have hbs : Bs (w1.alloc (.cells #[.int .u8 1] 5)) (w1.alloc (.cells #[.int .u8 1] 5)).heap.size (some ⟨w1.heap.size, 0, none⟩) [1] := Bs.lit' rfl rfl
  have hs := send_ok P2 (by simp) (some ⟨w1.heap.size, 0, none⟩) [1] 1 1 (Lib.hid rfl) (by decide) hbs
  clear P1 P2 hbs hb1
  go_wp2_with fail
  refine hs.mono ?_
  clear hs
  rintro e w3 ⟨rfl, ⟨cs3, P3⟩, hg3⟩
  have hb3 := hb2.trans (below_of hg3 (Nat.le_refl _) hb2.size)
  have hd := double_ok P3 (by simp) 0 (by simp)
  clear hg3 hb2 P3
  go_wp2_with fail
  refine hd.mono ?_
  clear hd
  rintro e w4 ⟨rfl, ⟨cs4, P4⟩, hg4⟩
  have hb4 := hb3.trans (below_of hg4 (Nat.le_refl _) hb3.size)
  have ht := turn_ok P4 1 0 (by simp) (by simp) 3
  clear hg4 hb3 P4
  go_wp2_with fail
  refine ht.mono ?_
  clear ht
  rintro e w5 ⟨rfl, ⟨cs5, P5⟩, hg5⟩
  have hb5 := hb4.trans (below_of hg5 (Nat.le_refl _) hb4.size)
  have P6 : PathAt w5 w.heap.size [[1], [2]] cs5 := P5
  have ha := all_any P6
  clear hg5 hb4 P5
  go_wp2_with fail
  refine ha.mono ?_
  clear ha
  rintro e w7 ⟨A7, c7, n7, rfl, hn7, hL7, hb7⟩
  obtain rfl : n7 = 2 := hn7.out
  have P7 := P6.bt hb7
  have hbf := hb5.trans (hb7.mono hb5.size)
  have htk := take_none P7 2 (by simp)
  obtain ⟨b, o, rfl, hlt, hcs⟩ := hL7 (by simp)
  obtain ⟨a0, k0, x0, y0⟩ := hcs 0 (by simp)
  obtain ⟨a1, k1, x1, y1⟩ := hcs 1 (by simp)
  have cv0 := conv_n a0 [1] 1 k0 (Lib.hid rfl) w7 _ y0
  have cv1 := conv_n a1 [2] 1 k1 (Lib.hid rfl) w7 _ y1
  simp at x0 x1
  clear P6 P7 hb5 hb7 hcs hL7 hn7 y0 y1
  go_wp2_with fail
  refine htk.mono ?_
  clear htk
  rintro e w8 ⟨rfl, rfl⟩
  go_wp2
  go_ret
  exact ⟨by simp, hbf⟩

theorem nobody_big (A : Option Addr) (n c : Nat) (i : Int) (w : World) (hb : decide (1000 < (n : Int)) = true) : Calls Try.prog 4 #[.slice A n c, .int .i64 i] w fun e w' => e = .returned (.bool true) ∧ Below w.heap.size w w' := by
  go_enter Try.func4, Try.ntmps4
  go_wp2_with fail
  refine (alive_any _).mono ?_
  rintro e w1 ⟨rfl, hb1⟩
  go_wp2
  go_ret
  exact ⟨rfl, hb1⟩
set_option maxRecDepth 100000 in
set_option maxHeartbeats 2000000 in
theorem nobody_all (A : Option Addr) (n c : Nat) (i : Int) (w : World) (hb : decide (1000 < (n : Int)) = false) : Calls Try.prog 4 #[.slice A n c, .int .i64 i] w fun e w' => e = .returned (.bool true) ∧ Below w.heap.size w w' := by
  obtain ⟨cs, z1, z2, z3, z4⟩ := zero_path
  have P1 : PathAt (w.alloc (.cells cs 46)) w.heap.size [] cs := ⟨Blk.new _ _ _, z2, z3, by simp, by simp, fun i hi => absurd hi (by simp)⟩
  have hb1 := ba w (.cells cs 46)
  have ht := take_none P1 i (by first | (simp; done) | (simp; omega))
  have Z := Lib.hid (And.intro z2 (And.intro z3 z4))
  clear z2 z3 z4
  go_enter Try.func4, Try.ntmps4
  go_wp2_with fail
  refine (take_nil i _).mono ?_
  rintro e w2 ⟨rfl, rfl⟩
  go_wp2_with fail
  refine ht.mono ?_
  clear ht
  rintro e w2 ⟨rfl, rfl⟩
  clear z1
  generalize (w.alloc (.cells cs 46)) = w1 at *
  go_wp2_with fail
  refine (alive_any _).mono ?_
  rintro e w3 ⟨rfl, hb3⟩
  have P3 := P1.bt hb3
  have hbw3 := bt hb1 hb3
  clear P1 hb1 hb3
  go_wp2_with fail
  refine (send_nil A n c _).mono ?_
  rintro e w4 ⟨rfl, rfl⟩
  go_wp2_with fail
  refine (double_nil i _).mono ?_
  rintro e w4 ⟨rfl, rfl⟩
  go_wp2_with fail
  refine (turn_nil i i 1 _).mono ?_
  rintro e w4 ⟨rfl, rfl⟩
  go_wp2_with fail
  refine (clear_nil _).mono ?_
  rintro e w4 ⟨rfl, rfl⟩
  go_wp2_with fail
  refine (all_nil _).mono ?_
  rintro e w4 ⟨rfl, rfl⟩
  go_wp2_with fail
  refine (all_any P3).mono ?_
  rintro e w5 ⟨A5, c5, n5, rfl, hn5, hL5, hb5⟩
  obtain rfl : n5 = 0 := hn5.out
  go_wp2
  go_ret
  exact ⟨rfl, bt hbw3 hb5⟩
theorem pathNobody_walk (A : Option Addr) (l : List UInt8) (c : Nat) (i : Int) (w : World) (hbs : Bs w w.heap.size A l) (h1 : l.length ≤ maxLen) (b1 : -9223372036854775808 ≤ i) (b2 : i ≤ 9223372036854775807) : Calls Try.prog 4 #[.slice A l.length c, .int .i64 i] w fun e w' => e = .returned (.bool true) ∧ Below w.heap.size w w' := by
  rcases hb : decide (1000 < (l.length : Int)) with _ | _
  · exact nobody_all A _ c i w hb
  · exact nobody_big A _ c i w hb
end Go.Proofs.Ytkfmhkpmlncjgaa
