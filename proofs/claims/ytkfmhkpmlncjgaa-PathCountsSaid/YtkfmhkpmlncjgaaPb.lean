/- Layer 8: Send, Double, Turn, Take that finds none, All. -/
import Derived.Test.YtkfmhkpmlncjgaaPa
namespace Go.Proofs.Ytkfmhkpmlncjgaa
open Go.RowKit
set_option linter.unusedVariables false
set_option linter.unusedSimpArgs false

theorem xor_u8 (x y : UInt8) : bits .xor .u8 (x.toNat : Int) (y.toNat : Int) = ((x ^^^ y).toNat : Int) := by
  rw [u8_xor_nat _ _ x.toNat_lt y.toNat_lt, UInt8.toNat_xor]
/-- The path has one more packet. -/
def PutO (w : World) (g : Nat) (ls : List (List UInt8)) (e : Ending) (w' : World) : Prop := e = .returned (.int .i64 0) ∧ (∃ cs', PathAt w' g ls cs') ∧ w.grownBy w' (some g)

theorem send_nil (A : Option Addr) (n c : Nat) (w : World) : Calls Try.prog 11 #[.pointer none, .slice A n c] w fun e w' => e = .returned (.int .i64 6) ∧ w = w' := by
  go_enter Try.func11, Try.ntmps11
  go_wp2
  go_ret
  exact ⟨rfl, rfl⟩
theorem send_long (g : Nat) (A : Option Addr) (n c : Nat) (w : World) (h : decide (512 < (n : Int)) = true) : Calls Try.prog 11 #[(.pointer (some ⟨g, 0, none⟩)), .slice A n c] w fun e w' => e = .returned (.int .i64 2) ∧ w = w' := by
  go_enter Try.func11, Try.ntmps11
  go_wp2
  go_ret
  exact ⟨rfl, rfl⟩
theorem send_full {w : World} {g : Nat} {ls : List (List UInt8)} {cs : Array Value} (h : PathAt w g ls cs) (hf : ls.length = 256) (A : Option Addr) (n c : Nat) (hs : decide (512 < (n : Int)) = false) : Calls Try.prog 11 #[(.pointer (some ⟨g, 0, none⟩)), .slice A n c] w fun e w' => e = .returned (.int .i64 5) ∧ w = w' := by
  go_enter Try.func11, Try.ntmps11
  go_wp2_with fail
  refine (put_full h hf _).mono ?_
  rintro e w1 ⟨rfl, rfl⟩
  go_wp2
  go_ret
  exact ⟨rfl, rfl⟩
theorem send_ok {w : World} {g : Nat} {ls : List (List UInt8)} {cs : Array Value} (h : PathAt w g ls cs) (hlt : ls.length < 256) (A : Option Addr) (l : List UInt8) (n c : Nat) (hn : Hid (n = l.length)) (hs : decide (512 < (n : Int)) = false) (hbs : Bs w w.heap.size A l) : Calls Try.prog 11 #[(.pointer (some ⟨g, 0, none⟩)), .slice A n c] w (PutO w g (ls ++ [l])) := by
  have hp := put_ok h hlt A l n c hn (Lib.hid (by simp at hs; rw [← hn.out]; omega)) hbs
  clear h hbs
  go_enter Try.func11, Try.ntmps11
  go_wp2_with fail
  refine hp.mono ?_
  rintro e w1 ⟨rfl, h1, h2⟩
  go_wp2
  go_ret
  exact ⟨rfl, h1, h2⟩

theorem double_nil (i : Int) (w : World) : Calls Try.prog 15 #[.pointer none, .int .i64 i] w fun e w' => e = .returned (.int .i64 6) ∧ w = w' := by
  go_enter Try.func15, Try.ntmps15
  go_wp2_with fail
  refine (find_nil i _).mono ?_
  rintro e w1 ⟨rfl, rfl⟩
  go_wp2
  go_ret
  exact ⟨rfl, rfl⟩
theorem double_none {w : World} {g : Nat} {ls : List (List UInt8)} {cs : Array Value} (h : PathAt w g ls cs) (i : Int) (hi : ¬ (0 ≤ i ∧ i < ls.length)) : Calls Try.prog 15 #[(.pointer (some ⟨g, 0, none⟩)), .int .i64 i] w fun e w' => e = .returned (.int .i64 4) ∧ w = w' := by
  have hf := find_any h i true
  rw [show fd ls.length i = 4 from if_neg hi] at hf
  go_enter Try.func15, Try.ntmps15
  go_wp2_with fail
  refine hf.mono ?_
  rintro e w1 ⟨rfl, rfl⟩
  go_wp2
  go_ret
  exact ⟨rfl, rfl⟩
theorem double_ok {w : World} {g : Nat} {ls : List (List UInt8)} {cs : Array Value} (h : PathAt w g ls cs) (hlt : ls.length < 256) (i : Nat) (hi : i < ls.length) : Calls Try.prog 15 #[(.pointer (some ⟨g, 0, none⟩)), .int .i64 i] w (PutO w g (ls ++ [ls[i]])) := by
  have hf := find_any h i true
  rw [show fd ls.length i = 0 from if_pos (by omega)] at hf
  obtain ⟨A, c, hc, hd⟩ := h.at_ i hi
  have ck := h.blk.cell i
  rw [hc] at ck
  have hsm := h.sm _ (List.getElem_mem hi)
  have hp := put_ok h hlt A ls[i] _ c (Lib.hid rfl) (Lib.hid hsm) hd.bs
  have hi2 : (i : Int) < 256 := by omega
  have hi3 : i < 256 := by omega
  generalize ls[i] = l at *
  clear h hd hc
  go_enter Try.func15, Try.ntmps15
  go_wp2_with fail
  refine hf.mono ?_
  rintro e w1 ⟨rfl, rfl⟩
  go_wp2_with fail
  refine hp.mono ?_
  rintro e w1 ⟨rfl, h1, h2⟩
  go_wp2
  go_ret
  exact ⟨rfl, h1, h2⟩

theorem turn_nil (i at_ : Int) (y : UInt8) (w : World) : Calls Try.prog 17 #[.pointer none, .int .i64 i, .int .i64 at_, .int .u8 (y.toNat : Int)] w fun e w' => e = .returned (.int .i64 6) ∧ w = w' := by
  go_enter Try.func17, Try.ntmps17
  go_wp2_with fail
  refine (find_nil i _).mono ?_
  rintro e w1 ⟨rfl, rfl⟩
  go_wp2
  go_ret
  exact ⟨rfl, rfl⟩
set_option maxRecDepth 100000 in
set_option maxHeartbeats 1000000 in
theorem turn_ok {w : World} {g : Nat} {ls : List (List UInt8)} {cs : Array Value} (h : PathAt w g ls cs) (i j : Nat) (hi : i < ls.length) (hj : j < (ls[i]).length) (y : UInt8) : Calls Try.prog 17 #[(.pointer (some ⟨g, 0, none⟩)), .int .i64 i, .int .i64 j, .int .u8 (y.toNat : Int)] w (PutO w g (ls.set i ((ls[i]).set j ((ls[i])[j] ^^^ y)))) := by
  have hf := find_any h i true
  rw [show fd ls.length i = 0 from if_pos (by omega)] at hf
  obtain ⟨A, c, hc, hd⟩ := h.at_ i hi
  have ck := h.blk.cell i
  rw [hc] at ck
  have hlen := h.len
  have hsm := h.sm _ (List.getElem_mem hi)
  have hcl := clone_all A ls[i] _ c w (Lib.hid rfl) (Lib.hid (by omega)) hd.bs
  have hi2 : (i : Int) < 256 := by omega
  have hi3 : i < 256 := by omega
  obtain ⟨l, hl⟩ : ∃ l, l = ls[i] := ⟨_, rfl⟩
  have hjl : j < l.length := by rw [hl]; exact hj
  obtain ⟨x, hx⟩ : ∃ x, x = l[j] := ⟨_, rfl⟩
  have hxx : (ls[i])[j] = x := by rw [hx]; simp only [hl]
  rw [hxx]
  rw [← hl] at hcl ck hsm ⊢
  obtain ⟨n, hnl⟩ : ∃ n, n = l.length := ⟨_, rfl⟩
  rw [← hnl] at hcl ck
  have Hnl := Lib.hid hnl
  have h2 : ¬ (n : Int) ≤ (j : Int) := by omega
  have h3 : ¬ n ≤ j := by omega
  have h4 : j < n := by omega
  have h5 : (j : Int) < (n : Int) := by omega
  have Hjl := Lib.hid hjl
  have Hlen := Lib.hid hlen
  have Hsm := Lib.hid hsm
  have Hi3 := Lib.hid hi3
  have Hhi := Lib.hid hi
  have HP := Lib.hid h
  have hgl := h.blk.lt
  have Hgl := Lib.hid hgl
  have hsz : Hid (cs.size = 257) := Lib.hid h.size
  have HL := Lib.hid hl
  have HX : Hid (l[j]? = some x) := Lib.hid (by rw [hx]; exact List.getElem?_eq_getElem hjl)
  have hxl := x.toNat_lt
  have hyl := y.toNat_lt
  clear h hd hc hl hx hxx hnl hlen hsm hi3 hgl hjl
  go_enter Try.func17, Try.ntmps17
  go_wp2_with fail
  refine hf.mono ?_
  rintro e w1 ⟨rfl, rfl⟩
  go_wp2_with fail
  refine hcl.mono ?_
  rintro e w2 ⟨A2, c2, rfl, own2, hb2⟩
  obtain ⟨b2, rfl, hg1, hg2, _, _⟩ := own2.form (by have := Hjl.out; omega)
  have cj := own2.cell j Hjl.out
  have hxe : l[j]'Hjl.out = x := by have := HX.out; rw [List.getElem?_eq_getElem Hjl.out] at this; injection this
  rw [hxe] at cj
  clear hxe
  have fj := own2.frozen j
  have hst := (own2.stored j (x ^^^ y)).1
  have e255 : bits .xor .u8 (x.toNat : Int) (y.toNat : Int) = ((x ^^^ y).toNat : Int) := xor_u8 x y
  have hb3 := hb2.setCell (p := ⟨b2, j, none⟩) hg1 (.int .u8 ((x ^^^ y).toNat : Int))
  have P3 := HP.out.bt hb3
  have kb3 := P3.blk
  have ci := kb3.cell i
  obtain ⟨v0, hv0⟩ : ∃ v0, cs[i]? = some v0 := ⟨cs[i]'(by rw [hsz.out]; have := Hi3.out; omega), Array.getElem?_eq_getElem _⟩
  rw [hv0] at ci
  have fi := kb3.frozen i
  have gne : ¬ (b2 = g) := by have := Hgl.out; omega
  generalize hL2 : l.set j (x ^^^ y) = l2 at *
  have hl2 : Hid (l2.length = l.length) := Lib.hid (by rw [← hL2, List.length_set])
  clear hL2 own2 hcl hf hb2
  have kz := kb3.set_ i (.slice (some ⟨b2, 0, none⟩) n c2)
  have hgr := grownBy_trans (grown_of hb3 (some g)) (grown_set (w2.setCell ⟨b2, j, none⟩ (.int .u8 ((x ^^^ y).toNat : Int))) ⟨g, i, none⟩ (.slice (some ⟨b2, 0, none⟩) n c2))
  have ownz := hst.kept (grown_set _ ⟨g, i, none⟩ (.slice (some ⟨b2, 0, none⟩) n c2)) (.inr (fun e => by simp [blk] at e; exact gne e))
  have hgz := hgr
  have KZ := Lib.hid kz
  have OZ := Lib.hid ownz
  have HZ := Lib.hid hgr
  rw [← e255] at ci fi KZ OZ HZ
  clear e255
  clear kz ownz hgr hgz hb3 P3 kb3 hst hv0 hg1 hg2
  go_wp2
  go_ret
  have hlen := Hlen.out
  have hsm := Hsm.out
  have hi3 := Hi3.out
  have hgl := Hgl.out
  have hi := Hhi.out
  refine ⟨rfl, ⟨_, KZ.out, ?_, ?_, ?_, ?_, ?_⟩, HZ.out⟩
  · rw [Array.size_setIfInBounds, hsz.out]
  · rw [Array.getElem?_setIfInBounds_ne (by omega), List.length_set]; exact HP.out.cnt
  · rw [List.length_set]; exact hlen
  · intro z hz
    rcases List.mem_or_eq_of_mem_set hz with hz | hz
    · exact HP.out.sm z hz
    · rw [hz, hl2.out]; exact hsm
  · intro k hk
    rw [List.length_set] at hk
    by_cases hik : i = k
    · subst hik
      rw [Array.getElem?_setIfInBounds_self_of_lt (by rw [hsz.out]; omega)]
      simp only [List.getElem_set_self]
      exact ⟨_, c2, by rw [hl2.out, ← Hnl.out], DAt.of_own OZ.out hgl⟩
    · rw [Array.getElem?_setIfInBounds_ne hik]
      obtain ⟨A', c', h1, h2⟩ := HP.out.at_ k hk
      rw [List.getElem_set_ne hik]
      exact ⟨A', c', h1, h2.grown HZ.out (.inl rfl)⟩

theorem take_nil (i : Int) (w : World) : Calls Try.prog 13 #[.pointer none, .int .i64 i] w fun e w' => e = .returned (.tuple #[.slice none 0 0, .int .i64 6]) ∧ w = w' := by
  go_enter Try.func13, Try.ntmps13
  go_wp2_with fail
  refine (find_nil i _).mono ?_
  rintro e w1 ⟨rfl, rfl⟩
  go_wp2
  go_ret2
  exact ⟨rfl, rfl⟩
theorem take_none {w : World} {g : Nat} {ls : List (List UInt8)} {cs : Array Value} (h : PathAt w g ls cs) (i : Int) (hi : ¬ (0 ≤ i ∧ i < ls.length)) : Calls Try.prog 13 #[(.pointer (some ⟨g, 0, none⟩)), .int .i64 i] w fun e w' => e = .returned (.tuple #[.slice none 0 0, .int .i64 4]) ∧ w = w' := by
  have hf := find_any h i true
  rw [show fd ls.length i = 4 from if_neg hi] at hf
  go_enter Try.func13, Try.ntmps13
  go_wp2_with fail
  refine hf.mono ?_
  rintro e w1 ⟨rfl, rfl⟩
  go_wp2
  go_ret2
  exact ⟨rfl, rfl⟩
theorem clear_nil (w : World) : Calls Try.prog 19 #[.pointer none] w fun e w' => e = .returned (.int .i64 6) ∧ w = w' := by
  go_enter Try.func19, Try.ntmps19
  go_wp2
  go_ret
  exact ⟨rfl, rfl⟩
theorem all_nil (w : World) : Calls Try.prog 21 #[.pointer none] w fun e w' => e = .returned (.slice none 0 0) ∧ w = w' := by
  go_enter Try.func21, Try.ntmps21
  go_wp2
  go_ret
  exact ⟨rfl, rfl⟩
end Go.Proofs.Ytkfmhkpmlncjgaa
