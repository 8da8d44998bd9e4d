/- Layer 11: the document's stream. -/
import Derived.Test.YtgbcjimfpoeicaaRi
import Derived.Test.YtgbcjimfpoeicaaCopy
namespace Go.Proofs.Ytgbcjimfpoeicaa
open Go.RowKit
set_option linter.unusedVariables false
set_option linter.unusedSimpArgs false

theorem ref_ne : (28 : TypeId) ≠ 5 := by decide
theorem ref_ne2 : (28 : TypeId) ≠ 45 := by decide
/-- The document's stream in block x. -/
def RefAt (w : World) (x : Nat) (A : Option Addr) (n c At To : Nat) (en : Bool) : Prop := Blk w x 28 #[.slice A n c, .int .i64 At, .int .i64 To, .bool en]
theorem RefAt.cells {w : World} {x : Nat} {A : Option Addr} {n c At To : Nat} {en : Bool} (h : RefAt w x A n c At To en) : w.cell? ⟨x, 0, none⟩ = some (.slice A n c) ∧ w.cell? ⟨x, 1, none⟩ = some (.int .i64 At) ∧ w.cell? ⟨x, 2, none⟩ = some (.int .i64 To) ∧ w.cell? ⟨x, 3, none⟩ = some (.bool en) := by
  have c0 := Blk.cell h 0
  have c1 := Blk.cell h 1
  have c2 := Blk.cell h 2
  have c3 := Blk.cell h 3
  simp only [List.getElem?_toArray, List.getElem?_cons_zero, List.getElem?_cons_succ] at c0 c1 c2 c3
  exact ⟨c0, c1, c2, c3⟩
theorem refheld {w : World} {x : Nat} {A : Option Addr} {n c At To : Nat} {en : Bool} (h : RefAt w x A n c At To en) (hA : At ≤ n) (hn : n ≤ 1000000000) (m : Nat) (hm : m = n - At) : Calls Try.prog 18 #[.pointer (some ⟨x, 0, none⟩)] w fun e w' => ∃ d, w' = w.drewN d ∧ e = .returned (.int .i64 m) := by
  obtain ⟨c0, c1, _, _⟩ := h.cells
  have ew : IntKind.i64.wrap ((n : Int) - (At : Int)) = (m : Int) := by rw [IntWalk.i64_in _ (by omega)]; omega
  clear h hm
  go_enter Try.func18, Try.ntmps18
  go_wp2
  go_quiet (fail)
  go_wp2
  go_ret
  exact ⟨_, rfl, rfl⟩
theorem reffew {w : World} {x : Nat} {A : Option Addr} {n c At To : Nat} {en : Bool} (h : RefAt w x A n c At To en) : Calls Try.prog 26 #[.pointer (some ⟨x, 0, none⟩)] w fun e w' => e = .returned (.int .i64 (lackE en)) ∧ w = w' := by
  obtain ⟨_, _, _, c3⟩ := h.cells
  cases en
  · go_enter Try.func26, Try.ntmps26
    go_wp2
    go_ret
    exact ⟨rfl, rfl⟩
  · go_enter Try.func26, Try.ntmps26
    go_wp2
    go_ret
    exact ⟨rfl, rfl⟩
theorem refend {w : World} {x : Nat} {A : Option Addr} {n c At To : Nat} {en : Bool} (h : RefAt w x A n c At To en) : Calls Try.prog 16 #[.pointer (some ⟨x, 0, none⟩)] w fun e w' => e = .returned (.int .i64 (endE en)) ∧ RefAt w' x A n c At To true ∧ w.grownBy w' (some x) := by
  obtain ⟨_, _, _, c3⟩ := h.cells
  have z3 := Blk.frozen h 3
  cases en
  · go_enter Try.func16, Try.ntmps16
    go_wp2
    go_ret
    exact ⟨rfl, Blk.set_ h 3 _, grown_set _ _ _⟩
  · go_enter Try.func16, Try.ntmps16
    go_wp2
    go_ret
    exact ⟨rfl, h, grown_refl _ _⟩

/-- What Put answers. -/
def putE (n m : Nat) (en : Bool) : Int := if en then 110 else if 65536 < n + m then 5 else 0
/-- Two rows alone have turned. -/
def Two (w w' : World) (r : Option Nat) (x : Nat) : Prop := ∃ w1, w.grownBy w1 r ∧ (∃ cs, Blk w1 x 28 cs) ∧ w1.grownBy w' (some x)
set_option maxHeartbeats 1000000 in
theorem refput_any {w : World} {x : Nat} {A : Option Addr} {n c At To : Nat} {en : Bool} (h : RefAt w x A n c At To en) (hA : At ≤ n) (hn : n ≤ 100000000) (base : Nat) (l : List UInt8) (hl : Hid (n = l.length)) (hown : Own w base 5 A c l) (hbase : base ≤ w.heap.size)
    (A' : Option Addr) (m : List UInt8) (n' c' : Nat) (hn' : Hid (n' = m.length)) (hmx : n' ≤ 100000) (hbs : Bs w w.heap.size A' m) :
    Calls Try.prog 12 #[.pointer (some ⟨x, 0, none⟩), .slice A' n' c'] w fun e w' => e = .returned (.int .i64 (putE (n - At) n' en)) ∧ ∃ A2 n2 c2, RefAt w' x A2 n2 c2 At To en ∧ Own w' base 5 A2 c2 (if putE (n - At) n' en = 0 then l ++ m else l) ∧ n2 = (if putE (n - At) n' en = 0 then n + n' else n) ∧ Two w w' (blk A) x ∧ (blk A2 = blk A ∨ ∃ k, blk A2 = some k ∧ w.heap.size ≤ k) := by
  obtain ⟨i0, hi, hz0, hz1, hz2⟩ := info_parts Try.infoU8r
  obtain ⟨c0, c1, c2, c3⟩ := h.cells
  cases en
  · by_cases hf : 65536 < (n - At) + n'
    · have e : putE (n - At) n' false = 5 := by simp [putE, hf]
      rw [e]
      obtain ⟨hd, hhd⟩ : ∃ hd, hd = n - At := ⟨_, rfl⟩
      have hh := refheld h hA (by omega) hd hhd
      have ew : IntKind.i64.wrap ((hd : Int) + (n' : Int)) = (hd : Int) + (n' : Int) := IntWalk.i64_in _ (by omega)
      have d1 : decide (65536 < (hd : Int) + (n' : Int)) = true := by simp; omega
      have H := Lib.hid h
      have HO := Lib.hid hown
      clear hf h hown hhd
      go_enter Try.func12, Try.ntmps12
      go_wp2_with fail
      refine hh.mono ?_
      clear hh
      rintro e w1 ⟨d, rfl, rfl⟩
      go_wp2
      go_ret
      exact ⟨rfl, A, n, c, H.out, by simpa using HO.out.drewN d, by simp, ⟨w.drewN d, grown_of (bl_drewN w d) _, ⟨_, H.out⟩, grown_refl _ _⟩, .inl rfl⟩
    · have e : putE (n - At) n' false = 0 := by simp [putE, hf]
      rw [e]
      obtain ⟨hd, hhd⟩ : ∃ hd, hd = n - At := ⟨_, rfl⟩
      have hh := refheld h hA (by omega) hd hhd
      have ew : IntKind.i64.wrap ((hd : Int) + (n' : Int)) = (hd : Int) + (n' : Int) := IntWalk.i64_in _ (by omega)
      have d1 : decide (65536 < (hd : Int) + (n' : Int)) = false := by simp; omega
      have hN : Hid (n + n' ≤ 1000000000) := Lib.hid (by omega)
      have hq := bl_drewN w
      clear hf hhd
      go_enter Try.func12, Try.ntmps12
      go_wp2_with fail
      refine hh.mono ?_
      clear hh
      rintro e w1 ⟨d, rfl, rfl⟩
      have hbd := bl_drewN w d
      generalize hwd : w.drewN d = u at *
      have h2 : RefAt u x A n c At To false := Blk.below h hbd (Blk.lt h)
      have own2 := hown.below hbd (Nat.le_refl _)
      have bs2 := hbs.bt hbd
      have hb2 := Nat.le_trans hbase hbd.size
      have hne : some x ≠ blk A := own2.ne_blk' h2 ref_ne
      obtain ⟨d0, d1', d2', d3'⟩ := h2.cells
      clear hwd c0 c1 c2 c3 hown hbs
      go_wp2_with (at_builtin; refine wpList_append_bs _ rfl (.tmp 19) (.tmp 20) 26 rfl base 5 i0 _ Try.underlying26 hi hz0 hz1 hz2 rfl A c l n rfl hl.out own2 _ A' c' m n' rfl hn'.out bs2 (by have := hN.out; have := hl.out; have := hn'.out; omega) hb2 ?_; intro A3 c3 w3 own3 hg3 hbk3; have h3 : RefAt w3 x A n c At To false := Blk.kept h2 hg3 hne; have z0 := Blk.frozen h3 0; obtain ⟨e0, _, _, _⟩ := h3.cells)
      go_ret
      have hgs := grown_set w3 ⟨x, 0, none⟩ (.slice A3 (n + n') c3)
      have n3 : blk A3 ≠ some x := fun e => own3.ne_blk' h3 ref_ne e.symm
      refine ⟨rfl, A3, n + n', c3, Blk.set_ h3 0 _, by simpa using own3.kept hgs (.inr n3), by simp, ⟨w3, grownBy_trans (grown_of hbd _) hg3, ⟨_, h3⟩, hgs⟩, ?_⟩
      rcases hbk3 with e | e
      · exact .inl e
      · exact .inr ⟨_, e, hbd.size⟩
  · have e : putE (n - At) n' true = 110 := by simp [putE]
    rw [e]
    have H := Lib.hid h
    go_enter Try.func12, Try.ntmps12
    go_wp2
    go_ret
    exact ⟨rfl, A, n, c, H.out, by simpa using hown, by simp, ⟨w, grown_refl _ _, ⟨_, H.out⟩, grown_refl _ _⟩, .inl rfl⟩
end Go.Proofs.Ytgbcjimfpoeicaa
