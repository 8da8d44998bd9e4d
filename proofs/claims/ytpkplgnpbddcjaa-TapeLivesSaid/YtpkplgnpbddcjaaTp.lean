/- Layer 2: the document's answer to a call; the two tapes beside each other. -/
import Derived.Test.YtpkplgnpbddcjaaTo
import Derived.Test.YtpkplgnpbddcjaaCall
namespace Go.Proofs.Ytpkplgnpbddcjaa
open Go.RowKit
set_option linter.unusedVariables false
set_option linter.unusedSimpArgs false

def modelR (room : Nat) (k n : Int) (b O N : List UInt8) : Int × List UInt8 × List UInt8 :=
  if k = 0 then (if room < O.length + N.length + b.length then (5, O, N) else (0, O, N ++ b))
  else if k = 1 then (0, O ++ N, [])
  else if k = 2 then (0, O ++ N.take n.toNat, [])
  else if k = 3 then cutR O N n
  else if k = 4 then (if room < b.length then (5, O, N) else (0, b, []))
  else (0, O, N)
theorem model_step (room : Nat) (k n : Int) (b O N : List UInt8) (h : O.length + N.length ≤ room) :
    tapeStep room k n b (O ++ N) O.length = ((modelR room k n b O N).1, (modelR room k n b O N).2.1 ++ (modelR room k n b O N).2.2, (modelR room k n b O N).2.1.length) := by
  unfold tapeStep modelR cutR
  simp only [List.length_append]
  split
  · split <;> simp
  · split
    · simp
    · split
      · simp only [List.append_nil, List.length_append, List.length_take]
        have e1 : O.length + N.length - O.length = N.length := by omega
        rw [e1, List.take_append]
        have e2 : O.length + min n.toNat N.length - O.length = min n.toNat N.length := by omega
        rw [List.take_of_length_le (by omega), e2]
        refine Prod.ext rfl (Prod.ext ?_ (by simp))
        simp only
        congr 1
        rcases Nat.le_total n.toNat N.length with h1 | h1
        · rw [Nat.min_eq_left h1]
        · rw [Nat.min_eq_right h1, List.take_of_length_le (Nat.le_refl _), List.take_of_length_le h1]
      · split
        · by_cases hb : n < 0 ∨ ((O.length + N.length : Nat) : Int) < n
          · rw [if_pos (by simpa using hb), if_pos (by simpa using hb)]
          · rw [if_neg (by simpa using hb), if_neg (by simpa using hb)]
            by_cases h1 : n.toNat ≤ O.length
            · rw [if_pos h1, List.take_append_of_le_length h1]
              simp [Nat.min_eq_right h1, List.length_take, Nat.min_eq_left h1]
            · rw [if_neg h1, List.take_append, List.take_of_length_le (by omega)]
              simp [Nat.min_eq_left (show O.length ≤ n.toNat by omega)]
        · split
          · split <;> simp
          · simp

set_option maxHeartbeats 2000000 in
theorem model_any {w : World} {B x room : Nat} {O N : List UInt8} {An : Option Addr} (h : RT w B x room O N An) (hl : O.length + N.length ≤ room) (hr : room ≤ 65536) (hB : B ≤ w.heap.size) (k n : Int) (A : Option Addr) (b : List UInt8) (bn c : Nat) (hbn : bn = b.length) (hb1 : bn ≤ 140737488355328) (hbs : Bs w w.heap.size A b)
    (hn1 : -9223372036854775808 ≤ n) (hn2 : n ≤ 9223372036854775807) :
    Calls Try.prog 8 #[.pointer (some ⟨x, 0, none⟩), .agg #[.int .i64 k, .int .i64 n, .slice A bn c]] w (RO w B x room (modelR room k n b O N) An) := by
  have hcase : k = 0 ∨ k = 1 ∨ k = 2 ∨ k = 3 ∨ k = 4 ∨ (((k : Int) == 0) = false ∧ ((k : Int) == 1) = false ∧ ((k : Int) == 2) = false ∧ ((k : Int) == 3) = false ∧ ((k : Int) == 4) = false) := by
    simp only [beq_eq_false_iff_ne]; omega
  have hb0 := ba w (.cells #[.int .i64 k, .int .i64 n, .slice A bn c] 32)
  have h0 := h.below hb0
  have hbs0 := hbs.bt hb0
  have hB0 : B ≤ (w.alloc (.cells #[.int .i64 k, .int .i64 n, .slice A bn c] 32)).heap.size := Nat.le_trans hB hb0.size
  have HM := Lib.hid (Mod.below x (blk An) hb0)
  have Happ := Lib.hid (rappend h0 hl (by omega) hB0 A b bn c hbn hb1 hbs0)
  have Hfor := Lib.hid (rforce h0 (by omega) hB0)
  have Hcra := Lib.hid (rcrash h0 (by omega) hB0 n hn1 hn2)
  have Hcut := Lib.hid (rcut h0 (by omega) hB0 n hn1 hn2)
  have Hswp := Lib.hid (rswap h0 hB0 A b bn c hbn hb1 hbs0)
  have H0 := Lib.hid h0
  obtain ⟨R, hR⟩ : ∃ R, R = modelR room k n b O N := ⟨_, rfl⟩
  rw [← hR]
  have HR := Lib.hid hR
  clear hR h0 hbs0 hB0 hb0 h hl hbs hbn
  rcases hcase with rfl | rfl | rfl | rfl | rfl | ⟨k0, k1, k2, k3, k4⟩
  all_goals
    go_enter Try.func8, Try.ntmps8
  · have hc := Happ.out
    rw [show (if room < O.length + N.length + b.length then ((5 : Int), O, N) else (0, O, N ++ b)) = R from HR.out.symm] at hc
    clear Happ
    go_wp2_with fail
    refine hc.mono ?_
    clear hc
    rintro e w2 h2
    obtain ⟨rfl, h3⟩ := RO.trans HM.out (.inl rfl) h2
    have H3 := Lib.hid h3
    clear h2 h3
    go_wp2
    go_ret
    exact ⟨rfl, H3.out⟩
  · have hc := Hfor.out
    rw [show ((0 : Int), O ++ N, ([] : List UInt8)) = R from HR.out.symm] at hc
    clear Hfor
    go_wp2_with fail
    refine hc.mono ?_
    clear hc
    rintro e w2 h2
    obtain ⟨rfl, h3⟩ := RO.trans HM.out (.inl rfl) h2
    have H3 := Lib.hid h3
    clear h2 h3
    go_wp2
    go_ret
    exact ⟨rfl, H3.out⟩
  · have hc := Hcra.out
    rw [show ((0 : Int), O ++ N.take n.toNat, ([] : List UInt8)) = R from HR.out.symm] at hc
    clear Hcra
    go_wp2_with fail
    refine hc.mono ?_
    clear hc
    rintro e w2 h2
    obtain ⟨rfl, h3⟩ := RO.trans HM.out (.inl rfl) h2
    have H3 := Lib.hid h3
    clear h2 h3
    go_wp2
    go_ret
    exact ⟨rfl, H3.out⟩
  · have hc := Hcut.out
    rw [show cutR O N n = R from HR.out.symm] at hc
    clear Hcut
    go_wp2_with fail
    refine hc.mono ?_
    clear hc
    rintro e w2 h2
    obtain ⟨rfl, h3⟩ := RO.trans HM.out (.inl rfl) h2
    have H3 := Lib.hid h3
    clear h2 h3
    go_wp2
    go_ret
    exact ⟨rfl, H3.out⟩
  · have hc := Hswp.out
    rw [show (if room < b.length then ((5 : Int), O, N) else (0, b, [])) = R from HR.out.symm] at hc
    clear Hswp
    go_wp2_with fail
    refine hc.mono ?_
    clear hc
    rintro e w2 h2
    obtain ⟨rfl, h3⟩ := RO.trans HM.out (.inl rfl) h2
    have H3 := Lib.hid h3
    clear h2 h3
    go_wp2
    go_ret
    exact ⟨rfl, H3.out⟩
  · have hne : R = (0, O, N) := by
      rw [HR.out]; unfold modelR
      simp only [beq_eq_false_iff_ne] at k0 k1 k2 k3 k4
      rw [if_neg k0, if_neg k1, if_neg k2, if_neg k3, if_neg k4]
    have HNE := Lib.hid hne
    clear hne
    go_wp2
    go_ret
    rw [HNE.out]
    exact ⟨rfl, An, H0.out, HM.out, .inl rfl⟩

set_option maxHeartbeats 400000 in
theorem rnew_bad (room : Int) (w : World) (h : room < 1 ∨ 65536 < room) :
    Calls Try.prog 5 #[.int .i64 room] w fun e w' => e = .returned (.tuple #[.pointer none, .int .i64 1]) ∧ w = w' := by
  rcases h with h | h
  all_goals
    go_enter Try.func5, Try.ntmps5
    go_wp2
    go_ret2
    exact ⟨rfl, rfl⟩
set_option maxHeartbeats 400000 in
theorem rnew_ok (room : Nat) (B : Nat) (w : World) (h1 : 1 ≤ room) (h2 : room ≤ 65536) :
    Calls Try.prog 5 #[.int .i64 room] w fun e w' => e = .returned (.tuple #[.pointer (some ⟨w.heap.size, 0, none⟩), .int .i64 0]) ∧ RT w' B w.heap.size room [] [] none ∧ Below w.heap.size w w' := by
  go_enter Try.func5, Try.ntmps5
  go_wp2
  go_ret2
  exact ⟨rfl, ⟨none, 0, 0, 0, 0, rfl, rfl, Blk.new w _ _, Own.nil, Own.nil, fun r e => by cases e⟩, ba _ _⟩

/-- The program's tape stays, where only the document's is turned. -/
theorem TapeAt.mod {w w' : World} {p x room : Nat} {l : List UInt8} {f : Nat} {r : Option Nat} {cs : Array Value} (h : TapeAt w p room l f) (hm : Mod w w' x r) (hx : Blk w x 39 cs) (hr : ∀ k, r = some k → p ≠ k ∧ BytesNot w p k) : TapeAt w' p room l f := by
  obtain ⟨A, c, h1, h2, h3⟩ := h.at_
  refine ⟨h.r1, h.r2, h.f1, h.l1, A, c, ?_, fun hn => ?_, h3⟩
  · refine (hm.block p h1.lt (h1.ne hx (by decide)) ?_).trans h1
    rcases hrr : r with _ | k
    · simp
    · intro e; exact (hr k hrr).1 (by injection e)
  · obtain ⟨g, L, rfl, h4, h5⟩ := h2 hn
    refine ⟨g, L, rfl, (hm.block g h4.lt (fun e => (hx.ne_raw h4 (by decide)) e.symm) ?_).trans h4, h5⟩
    rcases hrr : r with _ | k
    · simp
    · intro e
      exact (hr k hrr).2 _ _ _ _ _ h1 hn (by rw [show blk (some (⟨g, 0, none⟩ : Addr)) = some g from rfl, e])
/-- .. and where its bytes lie. -/
theorem TapeAt.not {w w' : World} {p room k : Nat} {l : List UInt8} {f : Nat} (h : TapeAt w p room l f) (hb : w'.heap[p]? = w.heap[p]?) (hk : w.heap.size ≤ k ∨ BytesNot w p k) : BytesNot w' p k := by
  obtain ⟨A, c, h1, h2, h3⟩ := h.at_
  refine bn_new (r := .int .i64 room) (f := .int .i64 f) (A := A) (n := l.length) (c := c) (hb.trans h1) fun hn => ?_
  rcases hk with hk | hk
  · obtain ⟨g, L, rfl, h4, _⟩ := h2 hn
    have := h4.lt
    intro e
    have e2 : g = k := by injection e
    omega
  · exact hk _ _ _ _ _ h1 hn
theorem TapeAt.blk_ {w : World} {p room : Nat} {l : List UInt8} {f : Nat} (h : TapeAt w p room l f) : ∃ cs, Blk w p 42 cs := by obtain ⟨A, c, h1, _⟩ := h.at_; exact ⟨_, h1⟩
/-- The two tapes. -/
structure Two2 (w : World) (B p x room : Nat) (O N : List UInt8) : Prop where
  t : TapeAt w p room (O ++ N) O.length
  x : ∃ An, RT w B x room O N An ∧ ∀ k, blk An = some k → BytesNot w p k
  l : O.length + N.length ≤ room
  r : room ≤ 65536
theorem Two2.below {w w' : World} {B p x room : Nat} {O N : List UInt8} (h : Two2 w B p x room O N) (hb : Below w.heap.size w w') : Two2 w' B p x room O N := by
  obtain ⟨An, hx, hn⟩ := h.x
  obtain ⟨cs, hk⟩ := h.t.blk_
  exact ⟨h.t.below hb, ⟨An, hx.below hb, fun k e => h.t.not (hb.block p hk.lt) (.inr (hn k e))⟩, h.l, h.r⟩
/-- Between the two calls. -/
structure Mid2 (w : World) (B p x room : Nat) (O N : List UInt8) (l : List UInt8) (f : Nat) : Prop where
  t : TapeAt w p room l f
  x : ∃ An, RT w B x room O N An ∧ ∀ k, blk An = some k → BytesNot w p k
theorem Mid2.below {w w' : World} {B p x room f : Nat} {O N l : List UInt8} (h : Mid2 w B p x room O N l f) (hb : Below w.heap.size w w') : Mid2 w' B p x room O N l f := by
  obtain ⟨An, hx, hn⟩ := h.x
  obtain ⟨cs, hk⟩ := h.t.blk_
  exact ⟨h.t.below hb, ⟨An, hx.below hb, fun k e => h.t.not (hb.block p hk.lt) (.inr (hn k e))⟩⟩
theorem RT.an_lt {w : World} {B x room : Nat} {O N : List UInt8} {An : Option Addr} (h : RT w B x room O N An) : ∀ k, blk An = some k → k < w.heap.size := by
  obtain ⟨Ao, no, co, nn, cn, e1, e2, h3, h4, h5, h6⟩ := h
  exact fun k e => (h5.lt k e).2
/-- Behind the program's call. -/
theorem Two2.call {w w' : World} {B p x room : Nat} {O N : List UInt8} {R : Int × List UInt8 × Nat} {e : Ending} (h : Two2 w B p x room O N) (hc : CallOut w p room R e w') : e = .returned (.int .i64 R.1) ∧ Mid2 w' B p x room O N R.2.1 R.2.2 ∧ w.grownBy w' (some p) := by
  obtain ⟨h1, h2, h3, h4⟩ := hc
  obtain ⟨An, hx, hn⟩ := h.x
  obtain ⟨cs, hk⟩ := h.t.blk_
  exact ⟨h1, ⟨h2, An, hx.kept h3 hk (by decide) (by decide), fun k e => h4 k (hx.an_lt k e) (hn k e)⟩, h3⟩
/-- Behind the document's. -/
theorem Mid2.model {w w' : World} {B p x room : Nat} {O N l : List UInt8} {f : Nat} {r : Int} {O' N' : List UInt8} {e : Ending} {An : Option Addr} (h : TapeAt w p room l f) (hx : RT w B x room O N An) (hn : ∀ k, blk An = some k → BytesNot w p k) (hB : B ≤ w.heap.size) (hc : RO w B x room (r, O', N') An e w')
    (hl : l = O' ++ N') (hf : f = O'.length) : e = .returned (.int .i64 r) ∧ Two2 w' B p x room O' N' ∧ ∀ w0 : World, Below B w0 w → B ≤ x → Below B w0 w' := by
  obtain ⟨h1, A2, h2, h3, h4⟩ := hc
  obtain ⟨cs, hk⟩ := h.blk_
  obtain ⟨Ao, no, co, nn, cn, e1, e2, k3, k4, k5, k6⟩ := hx
  have hpk : ∀ k, blk An = some k → p ≠ k := fun k e e' => by subst e'; exact own_ne k5 hk (by decide) e
  have ht := h.mod h3 k3 (fun k e => ⟨hpk k e, hn k e⟩)
  have hpb : w'.heap[p]? = w.heap[p]? := h3.block p hk.lt (hk.ne k3 (by decide)) (by
    rcases hb : blk An with _ | k
    · simp
    · intro e; exact hpk k hb (by injection e))
  subst hl hf
  refine ⟨h1, ⟨ht, ⟨A2, h2, fun k e => h.not hpb ?_⟩, by rw [← List.length_append]; exact h.l1, h.r2⟩, fun w0 hb0 hBx => ⟨h3.os.trans hb0.os, h3.tape.trans hb0.tape, h3.output.trans hb0.output, Nat.le_trans hb0.size h3.size, fun i hi => ?_⟩⟩
  · rcases h4 with h5 | h5
    · exact .inr (hn k (h5 ▸ e))
    · exact .inl (h5 k e)
  · refine (h3.block i (by omega) (by omega) ?_).trans (hb0.block i hi)
    rcases hb : blk An with _ | k
    · simp
    · intro e; injection e with e; have := (k5.lt k hb).1; omega
end Go.Proofs.Ytpkplgnpbddcjaa
