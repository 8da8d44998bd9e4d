/- Layer 6: psh.Read for any bytes. -/
import Derived.Test.YteniponkakaaaaaMr
import Derived.Test.YteniponkakaaaaaMl
namespace Go.Proofs.Yteniponkakaaaaa
open Go.RowKit
set_option linter.unusedVariables false
set_option linter.unusedSimpArgs false

set_option maxHeartbeats 1000000 in
theorem read_e (A : Option Addr) (b : List UInt8) (c n : Nat) (e0 : Int) (he : (e0 != 0) = true) (w : World) (hn : Hid (n = b.length)) (h1 : n ≤ c) (h2 : c ≤ 9223372036854775807) (hs : Bs w w.heap.size A b) (hr : Hid (nextR b = (0, [], 0, e0))) : Calls Try.prog 15 #[.slice A n c] w fun e w' => e = .returned (.tuple #[.agg #[.int .i64 0, .int .i64 0, .int .u32 0, .int .u32 0, .bool false, .int .u32 0, .int .u32 0], .int .i64 e0]) ∧ Below w.heap.size w w' := by
  have kr := Blk.new w 26 #[.int .i64 0, .int .i64 0, .int .u32 0, .int .u32 0, .bool false, .int .u32 0, .int .u32 0]
  have hbw := ba w (.cells #[.int .i64 0, .int .i64 0, .int .u32 0, .int .u32 0, .bool false, .int .u32 0, .int .u32 0] 26)
  have hb0 := hbw.size
  have hnx := next_any A b c (w.alloc (.cells #[.int .i64 0, .int .i64 0, .int .u32 0, .int .u32 0, .bool false, .int .u32 0, .int .u32 0] 26)) (by rw [← hn.out]; exact h1) h2 (hs.bt hbw)
  rw [hr.out, ← hn.out] at hnx
  clear hb0
  have Hs := Lib.hid hs
  clear hs
  go_enter Try.func15, Try.ntmps15
  go_wp2_with fail
  refine hnx.mono ?_
  clear hnx
  rintro e w1 ⟨A1, c1, rfl, hn1, hb1, hl1, hm1⟩
  have kr1 := (kr.below hb1 kr.lt).alloc (.cells #[.int .i64 0, .slice A1 0 c1] 45)
  have hbf := bt hbw (bt hb1 (ba w1 (.cells #[.int .i64 0, .slice A1 0 c1] 45)))
  clear hb1 kr hn1 hbw hl1 hm1
  have d0 := (kr1).cell 0
  have d1 := (kr1).cell 1
  have d2 := (kr1).cell 2
  have d3 := (kr1).cell 3
  have d4 := (kr1).cell 4
  have d5 := (kr1).cell 5
  have d6 := (kr1).cell 6
  simp only [List.getElem?_toArray, List.getElem?_cons_zero, List.getElem?_cons_succ] at d0 d1 d2 d3 d4 d5 d6
  have f0 := (kr1).frozen 0
  have f1 := (kr1).frozen 1
  have f2 := (kr1).frozen 2
  have f3 := (kr1).frozen 3
  have f4 := (kr1).frozen 4
  have f5 := (kr1).frozen 5
  have f6 := (kr1).frozen 6
  have st0 := kr1.set_ 0 (.int .i64 0)
  have ee0 := st0.cell 0
  have hs0 := hbf.setCell (p := ⟨w.heap.size, 0, none⟩) (by first | (show _ ≤ _; omega) | simp) (.int .i64 0)
  have st1 := st0.set_ 1 (.int .i64 0)
  have ee1 := st1.cell 1
  have hs1 := hs0.setCell (p := ⟨w.heap.size, 1, none⟩) (by first | (show _ ≤ _; omega) | simp) (.int .i64 0)
  have st2 := st1.set_ 2 (.int .u32 0)
  have ee2 := st2.cell 2
  have hs2 := hs1.setCell (p := ⟨w.heap.size, 2, none⟩) (by first | (show _ ≤ _; omega) | simp) (.int .u32 0)
  have st3 := st2.set_ 3 (.int .u32 0)
  have ee3 := st3.cell 3
  have hs3 := hs2.setCell (p := ⟨w.heap.size, 3, none⟩) (by first | (show _ ≤ _; omega) | simp) (.int .u32 0)
  have st4 := st3.set_ 4 (.bool false)
  have ee4 := st4.cell 4
  have hs4 := hs3.setCell (p := ⟨w.heap.size, 4, none⟩) (by first | (show _ ≤ _; omega) | simp) (.bool false)
  have st5 := st4.set_ 5 (.int .u32 0)
  have ee5 := st5.cell 5
  have hs5 := hs4.setCell (p := ⟨w.heap.size, 5, none⟩) (by first | (show _ ≤ _; omega) | simp) (.int .u32 0)
  have st6 := st5.set_ 6 (.int .u32 0)
  have ee6 := st6.cell 6
  have hs6 := hs5.setCell (p := ⟨w.heap.size, 6, none⟩) (by first | (show _ ≤ _; omega) | simp) (.int .u32 0)
  simp at ee0 ee1 ee2 ee3 ee4 ee5 ee6
  clear st0 st1 st2 st3 st4 st5 st6
  clear kr1
  go_wp2
  refine bodyPost_ret (by simp [results, Try.results15, go_sem, ee0, ee1, ee2, ee3, ee4, ee5, ee6]; try rfl) rfl ?_
  exact ⟨rfl, hs6⟩

theorem messageM_ok (id : Nat) (D : List UInt8) (hid : id < 65536) : MsgOk (messageM id D) := by
  unfold messageM
  split
  · rename_i h
    obtain ⟨h1, h2⟩ := h
    have hb : (rdL (D.take 9)).1.1 < 256 ∧ 0 ≤ (rdL (D.take 9)).1.1 ∧ (rdL (D.take 9)).1.2.1 < 4294967296 ∧ (rdL (D.take 9)).1.2.2 < 4294967296 := by
      have hl : (D.take 9).length = 9 := by rw [List.length_take]; omega
      have n1 := num_lt4 (((D.take 9).drop 1).take 4) (by simp; omega)
      have n2 := num_lt4 ((D.take 9).drop 5) (by rw [List.length_drop]; omega)
      have hx := ((D.take 9).headD 0).toNat_lt
      generalize D.take 9 = l at *
      unfold rdL
      rw [if_neg (by omega), if_neg (by omega)]
      split
      · exact ⟨by simp only; omega, by simp only; omega, n1, n2⟩
      · simp
    constructor <;> simp only <;> omega
  · split
    · rename_i h
      obtain ⟨h1, h2⟩ := h
      have n1 := num_lt4 (D.take 4) (by rw [List.length_take]; omega)
      have n2 := num_lt4 (D.drop 4) (by rw [List.length_drop]; omega)
      constructor <;> simp only <;> omega
    · constructor <;> simp only <;> omega

theorem writeM_next (m : MsgV) (L : List UInt8) (h : writeM m = (L, 0)) : okM m = true ∧ nextR L = ((4864 + m.k).toNat, dataM m, L.length, 0) := by
  unfold writeM at h
  rcases ho : okM m with _ | _
  · rw [ho] at h; injection h with _ h; exact absurd h (by decide)
  · rw [if_pos ho] at h
    injection h with h _
    have hk := okM_kind m ho
    have hdl := dataM_len m
    rw [← segs_one _ _ (by omega)] at h
    have := next_write (4864 + m.k).toNat 2048 (dataM m) [] (by omega) (by omega) (by omega) (by omega) (by omega)
    rw [h, List.append_nil] at this
    exact ⟨rfl, this⟩

/-- Read on what Write wrote. -/
theorem read_back (m : MsgV) (L : List UInt8) (h : writeM m = (L, 0)) (hm : MsgOk m) (A : Option Addr) (c n : Nat) (w : World) (hn : Hid (n = L.length)) (h1 : n ≤ c) (h2 : c ≤ 9223372036854775807) (hs : Bs w w.heap.size A L) : Calls Try.prog 15 #[.slice A n c] w fun e w' => e = .returned (.tuple #[m.val, .int .i64 0]) ∧ Below w.heap.size w w' := by
  obtain ⟨ho, hx⟩ := writeM_next m L h
  have hk := okM_kind m ho
  have hd := messageM_data m hm ho
  rw [← hn.out] at hx
  obtain ⟨k, uu, a, q, mx, mi, yo⟩ := m
  exact read_same A L c n _ _ k uu a q mx mi yo (Lib.hid h) w hn h1 h2 hs (Lib.hid hx) (by simp only at hk ⊢; omega) (Lib.hid hd) hm

/-- Read on any bytes. -/
theorem read_all (A : Option Addr) (b : List UInt8) (c n : Nat) (hn : Hid (n = b.length)) (h1 : n ≤ c) (h2 : c ≤ 9223372036854775807) :
    ∃ (m : MsgV) (e0 : Int), (∀ w : World, Bs w w.heap.size A b → Calls Try.prog 15 #[.slice A n c] w fun e w' => e = .returned (.tuple #[m.val, .int .i64 e0]) ∧ Below w.heap.size w w') ∧ ((e0 = 0 ∧ writeM m = (b, 0) ∧ MsgOk m) ∨ ((e0 != 0) = true ∧ m = ⟨0, 0, 0, 0, false, 0, 0⟩)) := by
  have hsome := nextR_some b
  have herr := nextR_err b
  obtain ⟨⟨id, D, sz, e0⟩, hr⟩ : ∃ r, r = nextR b := ⟨_, rfl⟩
  rw [← hr] at hsome herr
  simp only at hsome herr
  by_cases h0 : e0 = 0
  · subst h0
    obtain ⟨s1, s2, s3, s4⟩ := hsome rfl
    have hnn := hn.out
    by_cases hlt : sz < n
    · exact ⟨⟨0, 0, 0, 0, false, 0, 0⟩, 2, fun w hs => read_long A b c n id D sz hlt w hn h1 h2 hs (Lib.hid hr.symm), .inr ⟨rfl, rfl⟩⟩
    · have hsz : sz = n := by omega
      subst hsz
      have hok := messageM_ok id D s1
      have hmd : messageM id D = messageM id D := rfl
      generalize hM : messageM id D = m at hok
      rcases writeM_cases m with ⟨L, e1, _⟩ | ⟨L, e1⟩
      · by_cases hL : L = b
        · subst hL
          refine ⟨m, 0, fun w hs => ?_, .inl ⟨rfl, e1, hok⟩⟩
          obtain ⟨k, uu, a, q, mx, mi, yo⟩ := m
          exact read_same A L c _ id D k uu a q mx mi yo (Lib.hid e1) w hn h1 h2 hs (Lib.hid hr.symm) s1 (Lib.hid hM) hok
        · refine ⟨⟨0, 0, 0, 0, false, 0, 0⟩, 30, fun w hs => ?_, .inr ⟨rfl, rfl⟩⟩
          obtain ⟨k, uu, a, q, mx, mi, yo⟩ := m
          exact read_diff A b c _ id D k uu a q mx mi yo L (Lib.hid e1) (Lib.hid hL) w hn h1 h2 hs (Lib.hid hr.symm) s1 (Lib.hid hM) hok
      · refine ⟨⟨0, 0, 0, 0, false, 0, 0⟩, 30, fun w hs => ?_, .inr ⟨rfl, rfl⟩⟩
        have e2 : writeM m = ([], 30) := by
          have e3 := e1
          unfold writeM at e3
          split at e3
          · injection e3 with _ e3; exact absurd e3 (by decide)
          · rename_i hno; unfold writeM; rw [if_neg hno]
        obtain ⟨k, uu, a, q, mx, mi, yo⟩ := m
        exact read_err A b c _ id D k uu a q mx mi yo (Lib.hid e2) w hn h1 h2 hs (Lib.hid hr.symm) s1 (Lib.hid hM) hok
  · obtain ⟨e1, e2, e3⟩ := herr h0
    subst e1 e2 e3
    exact ⟨⟨0, 0, 0, 0, false, 0, 0⟩, e0, fun w hs => read_e A b c n e0 (bne_iff_ne.2 h0) w hn h1 h2 hs (Lib.hid hr.symm), .inr ⟨bne_iff_ne.2 h0, rfl⟩⟩

end Go.Proofs.Yteniponkakaaaaa
