/- Layer 2: the document's tape. -/
import Derived.Test.YtpkplgnpbddcjaaCopy
import Derived.Test.YtpkplgnpbddcjaaTapeApp
import Derived.Deep.QuietTactic
import Derived.Lib.OwnKind
namespace Go.Proofs.Ytpkplgnpbddcjaa
open Go.RowKit
set_option linter.unusedVariables false
set_option linter.unusedSimpArgs false

theorem copy_n (A : Option Addr) (l : List UInt8) (n c : Nat) (w : World) (hn : n = l.length) (hm : n ≤ 140737488355328) (h : Bs w w.heap.size A l) :
    Calls Try.prog 17 #[.slice A n c] w fun e w' => ∃ A2 c2, e = .returned (.slice A2 n c2) ∧ Own w' w.heap.size 5 A2 c2 l ∧ Below w.heap.size w w' := by
  subst hn; exact copy_any A l c w hm h
theorem own_ne {w : World} {B c g : Nat} {e t : TypeId} {A : Option Addr} {l : List UInt8} {cs : Array Value} (h : Own w B e A c l) (hb : Blk w g t cs) (hne : t ≠ e) : blk A ≠ some g := fun e' => by
  obtain ⟨cs2, fz, h2⟩ := Lib.ownsRow_kind h g (by rw [ownBlock_slice]; exact e')
  unfold Blk at hb
  rw [hb] at h2
  cases h2
  exact hne rfl
theorem blk_none {A : Option Addr} {k : Nat} (h : blk A ≠ some k) : blk A = none ∨ blk A ≠ some k := .inr h
theorem Bs.cut {w : World} {B g : Nat} {l : List UInt8} (h : Bs w B (some ⟨g, 0, none⟩) l) (k m : Nat) : Bs w B (some ⟨g, k, none⟩) ((l.drop k).take m) := fun hn => by
  rw [List.length_take, List.length_drop] at hn
  obtain ⟨b, o, e, hb, hc⟩ := h (by omega)
  cases e
  refine ⟨g, k, rfl, hb, fun i hi => ?_⟩
  rw [List.length_take, List.length_drop] at hi
  have := hc (k + i) (by omega)
  rw [Nat.zero_add] at this
  rw [this]
  simp [List.getElem_take, List.getElem_drop]
theorem Bs.first {w : World} {B : Nat} {A : Option Addr} {l : List UInt8} (h : Bs w B A l) (m : Nat) : Bs w B A (l.take m) := fun hn => by
  rw [List.length_take] at hn
  obtain ⟨b, o, e, hb, hc⟩ := h (by omega)
  refine ⟨b, o, e, hb, fun i hi => ?_⟩
  rw [List.length_take] at hi
  rw [hc i (by omega)]
  simp [List.getElem_take]
/-- The document's tape: what is forced, what is not. -/
def RT (w : World) (B x room : Nat) (O N : List UInt8) (An : Option Addr) : Prop :=
  ∃ Ao no co nn cn, Hid (no = O.length) ∧ Hid (nn = N.length) ∧ Blk w x 39 #[.int .i64 room, .slice Ao no co, .slice An nn cn] ∧ Own w B 5 Ao co O ∧ Own w B 5 An cn N ∧ ∀ r, blk An = some r → blk Ao ≠ some r
/-- What a call of it turns: its own block, and that of its bytes that are not forced. -/
structure Mod (w w' : World) (x : Nat) (r : Option Nat) : Prop where
  os : w'.os = w.os
  tape : w'.tape = w.tape
  output : w'.output = w.output
  size : w.heap.size ≤ w'.heap.size
  block : ∀ k, k < w.heap.size → k ≠ x → some k ≠ r → w'.heap[k]? = w.heap[k]?
theorem Mod.of {w w' : World} {x : Nat} (r : Option Nat) (h : w.grownBy w' (some x)) : Mod w w' x r := ⟨h.os, h.tape, h.output, h.size, fun k hk hx _ => h.block k hk (fun e => hx (by injection e))⟩
theorem Mod.below {w w' : World} (x : Nat) (r : Option Nat) (h : Below w.heap.size w w') : Mod w w' x r := Mod.of r (gbelow h (some x))
theorem Mod.trans {a b c : World} {x : Nat} {r r2 : Option Nat} (h : Mod a b x r) (k : Mod b c x r2) (hr : ∀ q, r2 = some q → r = some q ∨ a.heap.size ≤ q) : Mod a c x r :=
  ⟨k.os.trans h.os, k.tape.trans h.tape, k.output.trans h.output, Nat.le_trans h.size k.size, fun i hi hx hn => (k.block i (Nat.lt_of_lt_of_le hi h.size) hx (fun e => by rcases hr i e.symm with e2 | e2; exact hn e2.symm; omega)).trans (h.block i hi hx hn)⟩
theorem RT.lt {w : World} {B x room : Nat} {O N : List UInt8} {An : Option Addr} (h : RT w B x room O N An) : x < w.heap.size := by
  obtain ⟨Ao, no, co, nn, cn, h1, h2, h3, _⟩ := h; exact h3.lt
theorem RT.below {w w' : World} {B x room : Nat} {O N : List UInt8} {An : Option Addr} (h : RT w B x room O N An) (hb : Below w.heap.size w w') : RT w' B x room O N An := by
  obtain ⟨Ao, no, co, nn, cn, h1, h2, h3, h4, h5, h6⟩ := h
  exact ⟨Ao, no, co, nn, cn, h1, h2, h3.below hb h3.lt, h4.below hb (Nat.le_refl _), h5.below hb (Nat.le_refl _), h6⟩
theorem RT.kept {w w' : World} {B x room p : Nat} {O N : List UInt8} {An : Option Addr} {t : TypeId} {cs : Array Value} (h : RT w B x room O N An) (hg : w.grownBy w' (some p)) (hp : Blk w p t cs) (h1 : t ≠ 39) (h2 : t ≠ 5) : RT w' B x room O N An := by
  obtain ⟨Ao, no, co, nn, cn, e1, e2, h3, h4, h5, h6⟩ := h
  exact ⟨Ao, no, co, nn, cn, e1, e2, h3.kept hg (fun e => by injection e with e; exact h3.ne hp (fun e' => h1 e'.symm) e), h4.kept hg (.inr (own_ne h4 hp h2)), h5.kept hg (.inr (own_ne h5 hp h2)), h6⟩
def RO (w : World) (B x room : Nat) (R : Int × List UInt8 × List UInt8) (An : Option Addr) (e : Ending) (w' : World) : Prop :=
  e = .returned (.int .i64 R.1) ∧ ∃ An', RT w' B x room R.2.1 R.2.2 An' ∧ Mod w w' x (blk An) ∧ (blk An' = blk An ∨ ∀ r, blk An' = some r → w.heap.size ≤ r)

set_option maxHeartbeats 1000000 in
theorem rbytes {w : World} {B x room : Nat} {O N : List UInt8} {An : Option Addr} (h : RT w B x room O N An) (hl : O.length + N.length ≤ 1000000) (n : Nat) (hn : n = O.length + N.length) :
    Calls Try.prog 10 #[.pointer (some ⟨x, 0, none⟩)] w fun e w' => ∃ A c, e = .returned (.slice A n c) ∧ Own w' w.heap.size 5 A c (O ++ N) ∧ Below w.heap.size w w' := by
  obtain ⟨Ao, no, co, nn, cn, e1, e2, h3, h4, h5, h6⟩ := h
  obtain ⟨i0, hi, hz0, hz1, hz2⟩ := info_parts Try.infoU8c
  have c1 := h3.cell 1
  have c2 := h3.cell 2
  simp only [List.getElem?_toArray, List.getElem?_cons_zero, List.getElem?_cons_succ] at c1 c2
  have hcp := copy_n Ao O no co w e1.out (by have := e1.out; omega) h4.bs
  have hbs := h5.bs
  have Hx := Lib.hid (And.intro h3 (And.intro hbs (And.intro hl hn)))
  clear h3 h4 h5 h6 hbs hl hn
  go_enter Try.func10, Try.ntmps10
  go_wp2_with fail
  refine hcp.mono ?_
  clear hcp
  rintro e w1 ⟨A2, c3, rfl, own1, hb1⟩
  have c2' := (Hx.out.1.below hb1 Hx.out.1.lt).cell 2
  simp only [List.getElem?_toArray, List.getElem?_cons_zero, List.getElem?_cons_succ] at c2'
  have hbs1 := Hx.out.2.1.below hb1
  clear c1 c2
  go_wp2_with (at_builtin; refine wpList_append_bs _ rfl (.tmp 9) (.tmp 13) 30 rfl w.heap.size 5 i0 _ Try.underlying30 hi hz0 hz1 hz2 rfl A2 c3 O no rfl e1.out own1 _ An cn N nn rfl e2.out hbs1 (by have := Hx.out.2.2.1; omega) hb1.size ?_; intro A4 c4 w4 own4 hg4 _)
  go_ret
  have hnn : n = no + nn := by rw [Hx.out.2.2.2, e1.out, e2.out]
  subst hnn
  exact ⟨A4, c4, rfl, own4, hb1.grown hg4 hb1.size (fun k e => (own1.lt k e).1)⟩

set_option maxHeartbeats 1000000 in
theorem rforce {w : World} {B x room : Nat} {O N : List UInt8} {An : Option Addr} (h : RT w B x room O N An) (hl : O.length + N.length ≤ 1000000) (hB : B ≤ w.heap.size) :
    Calls Try.prog 21 #[.pointer (some ⟨x, 0, none⟩)] w (RO w B x room (0, O ++ N, []) An) := by
  have hby := rbytes h hl _ rfl
  obtain ⟨Ao, no, co, nn, cn, e1, e2, h3, h4, h5, h6⟩ := h
  have Hx := Lib.hid h3
  clear h3 h4 h5 h6
  generalize hn : O.length + N.length = n at hby hl
  have Hn := Lib.hid hn
  clear hn
  go_enter Try.func21, Try.ntmps21
  go_wp2_with fail
  refine hby.mono ?_
  clear hby
  rintro e w1 ⟨A2, c3, rfl, own1, hb1⟩
  have k1 := Hx.out.below hb1 Hx.out.lt
  have d1 := k1.cell 1
  have f1 := k1.frozen 1
  have f2 := k1.frozen 2
  have d2 := k1.cell 2
  have k2 := k1.set_ 1 (.slice A2 n c3)
  simp only [List.getElem?_toArray, List.getElem?_cons_zero, List.getElem?_cons_succ, List.setIfInBounds_toArray, List.set_cons_zero, List.set_cons_succ] at d1 d2 k2
  have k3 := k2.set_ 2 (.slice none 0 0)
  have d2' := k2.cell 2
  have f2' := k2.frozen 2
  simp only [List.getElem?_toArray, List.getElem?_cons_zero, List.getElem?_cons_succ, List.setIfInBounds_toArray, List.set_cons_zero, List.set_cons_succ] at k3 d2'
  have s1 := gset w1 x 1 (.slice A2 n c3)
  have s2 := gset (w1.setCell ⟨x, 1, none⟩ (.slice A2 n c3)) x 2 (.slice none 0 0)
  have hg := gtrans (gtrans (gbelow hb1 (some x)) s1) s2
  have own3 := (own1.kept s1 (.inr (own_ne own1 k1 (by decide)))).kept s2 (.inr (own_ne (own1.kept s1 (.inr (own_ne own1 k1 (by decide)))) k2 (by decide)))
  have Hfin : Hid (RO w B x room (0, O ++ N, []) An (.returned (.int .i64 0)) ((w1.setCell ⟨x, 1, none⟩ (.slice A2 n c3)).setCell ⟨x, 2, none⟩ (.slice none 0 0))) :=
    Lib.hid ⟨rfl, none, ⟨A2, n, c3, 0, 0, Lib.hid (by rw [List.length_append, Hn.out]), rfl, k3, Own.base_le own3 hB, Own.nil, fun r e => by cases e⟩, Mod.of _ hg, .inr (fun r e => by cases e)⟩
  clear k1 k2 k3 s1 s2 hg own3 own1 hb1
  go_wp2
  go_ret
  exact Hfin.out

theorem RO.trans {w w1 : World} {B x room : Nat} {R : Int × List UInt8 × List UInt8} {An A1 : Option Addr} (hm : Mod w w1 x (blk An)) (hA : blk A1 = blk An ∨ ∀ r, blk A1 = some r → w.heap.size ≤ r) {e : Ending} {w' : World} (h : RO w1 B x room R A1 e w') : RO w B x room R An e w' := by
  obtain ⟨h1, A2, h2, h3, h4⟩ := h
  refine ⟨h1, A2, h2, hm.trans h3 (fun q e => ?_), ?_⟩
  · rcases hA with e2 | e2
    · exact .inl (e2 ▸ e)
    · exact .inr (e2 q e)
  · rcases h4 with e2 | e2
    · rcases hA with e3 | e3
      · exact .inl (e2.trans e3)
      · exact .inr (fun r e => e3 r (e2 ▸ e))
    · exact .inr (fun r e => Nat.le_trans hm.size (e2 r e))

set_option maxHeartbeats 1000000 in
theorem rcrash {w : World} {B x room : Nat} {O N : List UInt8} {An : Option Addr} (h : RT w B x room O N An) (hl : O.length + N.length ≤ 1000000) (hB : B ≤ w.heap.size) (k : Int) (h1 : -9223372036854775808 ≤ k) (h2 : k ≤ 9223372036854775807) :
    Calls Try.prog 22 #[.pointer (some ⟨x, 0, none⟩), .int .i64 k] w (RO w B x room (0, O ++ N.take k.toNat, []) An) := by
  have HH := Lib.hid h
  obtain ⟨Ao, no, co, nn, cn, e1, e2, h3, h4, h5, h6⟩ := h
  have c2 := h3.cell 2
  simp only [List.getElem?_toArray, List.getElem?_cons_zero, List.getElem?_cons_succ] at c2
  obtain ⟨m, hm⟩ : ∃ m, m = k.toNat := ⟨_, rfl⟩
  rw [← hm]
  have hcase : (k < 0 ∧ m = 0) ∨ (¬ k < 0 ∧ k = (m : Int)) := by omega
  by_cases hmn : m < nn
  · have hcp := copy_n An (N.take m) m cn w (by rw [List.length_take]; have := e2.out; omega) (by have := e2.out; omega) (h5.bs.first m)
    have hcn : nn ≤ cn := by obtain ⟨_, _, _, _, h7, _⟩ := h5.form (by have := e2.out; omega); have := e2.out; omega
    have hmc : (m : Int) ≤ (cn : Int) := by omega
    have hmI : (m : Int) < (nn : Int) := by omega
    have hm0 : (0 : Int) ≤ (m : Int) := by omega
    have Hx := Lib.hid (And.intro h3 h4)
    have hMT : Hid (m = (N.take m).length) := Lib.hid (by rw [List.length_take]; have := e2.out; omega)
    have hTl : Hid (O.length + (N.take m).length ≤ 1000000) := Lib.hid (by rw [List.length_take]; omega)
    have Hcp := Lib.hid hcp
    clear h3 h4 h5 h6 hcp hm
    have main : ∀ kk : Int, (kk = k ∨ kk = (m : Int)) → True := fun _ _ => trivial
    rcases hcase with ⟨hk, rfl⟩ | ⟨hk, rfl⟩
    · go_enter Try.func22, Try.ntmps22
      go_wp2_with fail
      refine Hcp.out.mono ?_
      clear Hcp
      rintro e w1 ⟨A2, c3, rfl, own1, hb1⟩
      have k1 := Hx.out.1.below hb1 Hx.out.1.lt
      have d2 := k1.cell 2
      have f2 := k1.frozen 2
      have k2 := k1.set_ 2 (.slice A2 0 c3)
      simp only [List.getElem?_toArray, List.getElem?_cons_zero, List.getElem?_cons_succ, List.setIfInBounds_toArray, List.set_cons_zero, List.set_cons_succ] at d2 k2
      have s1 := gset w1 x 2 (.slice A2 0 c3)
      have o1 := (Hx.out.2.below hb1 (Nat.le_refl _))
      have o2 := o1.kept s1 (.inr (own_ne o1 k1 (by decide)))
      have n2 := own1.kept s1 (.inr (own_ne own1 k1 (by decide)))
      have RT2 : RT (w1.setCell ⟨x, 2, none⟩ (.slice A2 0 c3)) B x room O (N.take 0) A2 := ⟨Ao, no, co, 0, c3, e1, hMT, k2, o2, n2.base_le hB, fun r e e' => by have := (own1.lt r e).1; have := (Hx.out.2.lt r e').2; omega⟩
      have hg := gtrans (gbelow hb1 (some x)) s1
      have Hf := Lib.hid (rforce RT2 hTl.out (by have := hg.size; omega))
      have Hm := Lib.hid (And.intro (Mod.of (blk An) hg) (show blk A2 = blk An ∨ ∀ r, blk A2 = some r → w.heap.size ≤ r from .inr fun r e => (own1.lt r e).1))
      obtain ⟨w2, hw2⟩ : ∃ w2, w2 = w1.setCell ⟨x, 2, none⟩ (.slice A2 0 c3) := ⟨_, rfl⟩
      rw [← hw2] at Hf Hm
      have HW := Lib.hid hw2
      clear RT2 hg k1 k2 s1 o1 o2 n2 own1 hb1 hw2
      go_wp2_with fail
      rw [← HW.out]
      refine Hf.out.mono ?_
      rintro e w3 h3
      have h4 := RO.trans Hm.out.1 Hm.out.2 h3
      obtain ⟨rfl, hR⟩ := h4
      have HR := Lib.hid hR
      clear h3 hR
      go_wp2
      go_ret
      exact ⟨rfl, HR.out⟩
    · go_enter Try.func22, Try.ntmps22
      go_wp2_with fail
      refine Hcp.out.mono ?_
      clear Hcp
      rintro e w1 ⟨A2, c3, rfl, own1, hb1⟩
      have k1 := Hx.out.1.below hb1 Hx.out.1.lt
      have d2 := k1.cell 2
      have f2 := k1.frozen 2
      have k2 := k1.set_ 2 (.slice A2 m c3)
      simp only [List.getElem?_toArray, List.getElem?_cons_zero, List.getElem?_cons_succ, List.setIfInBounds_toArray, List.set_cons_zero, List.set_cons_succ] at d2 k2
      have s1 := gset w1 x 2 (.slice A2 m c3)
      have o1 := (Hx.out.2.below hb1 (Nat.le_refl _))
      have o2 := o1.kept s1 (.inr (own_ne o1 k1 (by decide)))
      have n2 := own1.kept s1 (.inr (own_ne own1 k1 (by decide)))
      have RT2 : RT (w1.setCell ⟨x, 2, none⟩ (.slice A2 m c3)) B x room O (N.take m) A2 := ⟨Ao, no, co, m, c3, e1, hMT, k2, o2, n2.base_le hB, fun r e e' => by have := (own1.lt r e).1; have := (Hx.out.2.lt r e').2; omega⟩
      have hg := gtrans (gbelow hb1 (some x)) s1
      have Hf := Lib.hid (rforce RT2 hTl.out (by have := hg.size; omega))
      have Hm := Lib.hid (And.intro (Mod.of (blk An) hg) (show blk A2 = blk An ∨ ∀ r, blk A2 = some r → w.heap.size ≤ r from .inr fun r e => (own1.lt r e).1))
      obtain ⟨w2, hw2⟩ : ∃ w2, w2 = w1.setCell ⟨x, 2, none⟩ (.slice A2 m c3) := ⟨_, rfl⟩
      rw [← hw2] at Hf Hm
      have HW := Lib.hid hw2
      clear RT2 hg k1 k2 s1 o1 o2 n2 own1 hb1 hw2
      go_wp2_with fail
      rw [← HW.out]
      refine Hf.out.mono ?_
      rintro e w3 h3
      have h4 := RO.trans Hm.out.1 Hm.out.2 h3
      obtain ⟨rfl, hR⟩ := h4
      have HR := Lib.hid hR
      clear h3 hR
      go_wp2
      go_ret
      exact ⟨rfl, HR.out⟩
  · have hNT : N.take m = N := List.take_of_length_le (by have := e2.out; omega)
    rw [hNT]
    have hf := rforce HH.out hl hB
    have Hf := Lib.hid hf
    have hmI : ¬ (m : Int) < (nn : Int) := by omega
    clear hf h3 h4 h5 h6 hm hNT
    rcases hcase with ⟨hk, rfl⟩ | ⟨hk, rfl⟩
    · have hmI0 : ¬ (0 : Int) < (nn : Int) := by omega
      go_enter Try.func22, Try.ntmps22
      go_wp2_with fail
      refine Hf.out.mono ?_
      rintro e w2 ⟨rfl, hR⟩
      have HR := Lib.hid hR
      clear hR
      go_wp2
      go_ret
      exact ⟨rfl, HR.out⟩
    · go_enter Try.func22, Try.ntmps22
      go_wp2_with fail
      refine Hf.out.mono ?_
      rintro e w2 ⟨rfl, hR⟩
      have HR := Lib.hid hR
      clear hR
      go_wp2
      go_ret
      exact ⟨rfl, HR.out⟩

end Go.Proofs.Ytpkplgnpbddcjaa
