/- Layer 11: a stream in memory; New, Put, End, Held, lack, begins. -/
import Derived.Test.YtgbcjimfpoeicaaRb
import Derived.Lib.OwnKind
import Derived.Deep.QuietTactic
import Derived.BigQuiet
namespace Go.Proofs.Ytgbcjimfpoeicaa
open Go.RowKit
set_option linter.unusedVariables false
set_option linter.unusedSimpArgs false

theorem grownBy_trans {w w1 w2 : World} {r : Option Nat} (h : w.grownBy w1 r) (k : w1.grownBy w2 r) : w.grownBy w2 r :=
  ⟨k.os.trans h.os, k.tape.trans h.tape, k.output.trans h.output, Nat.le_trans h.size k.size, fun i hi hne => (k.block i (Nat.lt_of_lt_of_le hi h.size) hne).trans (h.block i hi hne)⟩
theorem grown_of {w w' : World} (hb : Below w.heap.size w w') (r : Option Nat) : w.grownBy w' r := ⟨hb.os, hb.tape, hb.output, hb.size, fun i hi _ => hb.block i hi⟩
theorem below_of {w w' : World} {g B : Nat} (h : w.grownBy w' (some g)) (hB : B ≤ g) (hs : B ≤ w.heap.size) : Below B w w' := ⟨h.os, h.tape, h.output, h.size, fun i hi => h.block i (by omega) (fun e => by injection e with e; omega)⟩
theorem grown_set (w : World) (p : Addr) (u : Value) : w.grownBy (w.setCell p u) (some p.block) := by
  have h := (Below.refl 0 w).setCell (p := p) (Nat.zero_le _) u
  exact ⟨h.os, h.tape, h.output, h.size, fun k _ hne => Below.heap_setCell w p u k (fun e => hne (by rw [e]))⟩
theorem grown_refl (w : World) (r : Option Nat) : w.grownBy w r := grown_of (Below.refl _ _) r
theorem grown_drewN {a b : World} {row : Option Nat} (h : a.grownBy b row) (n : Nat) : a.grownBy (b.drewN n) row := ⟨h.os, h.tape, h.output, h.size, h.block⟩
theorem cell_grown {w w' : World} {row : Option Nat} (hg : w.grownBy w' row) {p : Addr} (hp : p.block < w.heap.size) (hr : some p.block ≠ row) : w'.cell? p = w.cell? p := by
  unfold World.cell?
  rw [hg.block p.block hp hr]

/-- Bytes that lie in a block of bytes. -/
def KB (w : World) (A : Option Addr) (d : List UInt8) : Prop :=
  0 < d.length → ∃ b o, A = some ⟨b, o, none⟩ ∧ b < w.heap.size ∧ (∃ cs fz, w.heap[b]? = some (.cells cs 5 fz)) ∧ ∀ i, (h : i < d.length) → w.cell? ⟨b, o + i, none⟩ = some (.int .u8 ((d[i]'h).toNat : Int))
section
variable {w w' : World} {A : Option Addr} {d : List UInt8}
theorem KB.nil : KB w A [] := fun h => absurd h (by simp)
theorem KB.bs (h : KB w A d) : Bs w w.heap.size A d := fun hn => by
  obtain ⟨b, o, e, h2, _, h3⟩ := h hn; exact ⟨b, o, e, h2, h3⟩
theorem KB.below (h : KB w A d) (hb : Below w.heap.size w w') : KB w' A d := fun hn => by
  obtain ⟨b, o, e, h2, ⟨cq, fq, hq⟩, h3⟩ := h hn
  exact ⟨b, o, e, Nat.lt_of_lt_of_le h2 hb.size, ⟨cq, fq, (hb.block b h2).trans hq⟩, fun i hi => (hb.cell (p := ⟨b, o + i, none⟩) h2).trans (h3 i hi)⟩
theorem KB.kept {g : Nat} {t : TypeId} {cs : Array Value} (h : KB w A d) (hg : w.grownBy w' (some g)) (hk : Blk w g t cs) (hne : t ≠ 5) : KB w' A d := fun hn => by
  obtain ⟨b, o, e, h2, ⟨cq, fq, hq⟩, h3⟩ := h hn
  have hbg : some b ≠ some g := by
    intro e'
    injection e' with e'
    subst e'
    unfold Blk at hk
    rw [hq] at hk
    injection hk with hk
    injection hk with _ ht
    exact hne ht.symm
  exact ⟨b, o, e, Nat.lt_of_lt_of_le h2 hg.size, ⟨cq, fq, (hg.block b h2 hbg).trans hq⟩, fun i hi => (cell_grown hg h2 hbg).trans (h3 i hi)⟩
theorem KB.of_own {base c : Nat} (h : Own w base 5 A c d) : KB w A d := fun hn => by
  obtain ⟨b, e, h1, h2, _⟩ := h.form hn
  subst e
  refine ⟨b, 0, rfl, h2, Lib.ownsRow_kind h b rfl, fun i hi => ?_⟩
  obtain ⟨b', o', e', _, h3⟩ := h.bs hn
  simp only [Option.some.injEq, Addr.mk.injEq] at e'
  obtain ⟨rfl, rfl, _⟩ := e'
  exact h3 i hi
end

theorem Own.cap {w : World} {base : Nat} {e : TypeId} {A : Option Addr} {c : Nat} {l : List UInt8} (h : Own w base e A c l) : l.length ≤ c ∧ c ≤ maxLen := by
  rcases h.2 with ⟨h1, h2⟩ | ⟨g, cap, cur, h1, _, _, hn, hm, _⟩
  · simp only [Value.slice.injEq] at h1
    obtain ⟨_, h1, rfl⟩ := h1
    exact ⟨by omega, by simp [maxLen]⟩
  · simp only [Value.slice.injEq] at h1
    obtain ⟨_, _, rfl⟩ := h1
    exact ⟨hn, hm⟩
theorem stream_ne : (45 : TypeId) ≠ 5 := by decide
/-- A stream in block g: what is left of its record, its bytes, whether it is ended. -/
structure StrAt (w : World) (g : Nat) (left : Nat) (l : List UInt8) (en : Bool) : Prop where
  hleft : left ≤ 32767
  hlen : l.length ≤ 65536
  at_ : ∃ A n c, Blk w g 45 #[.int .i64 left, .slice A n c, .bool en] ∧ n = l.length ∧ KB w A l ∧ n ≤ c ∧ c ≤ 9223372036854775807
section
variable {w w' : World} {g left : Nat} {l : List UInt8} {en : Bool}
theorem StrAt.below (h : StrAt w g left l en) (hb : Below w.heap.size w w') : StrAt w' g left l en := by
  obtain ⟨A, n, c, h1, h2, h3, h4⟩ := h.at_
  exact ⟨h.hleft, h.hlen, A, n, c, h1.below hb h1.lt, h2, h3.below hb, h4⟩
theorem StrAt.lt (h : StrAt w g left l en) : g < w.heap.size := by
  obtain ⟨A, n, c, h1, _⟩ := h.at_
  exact h1.lt
/-- What is done to another stream does nothing to it. -/
theorem StrAt.other {g2 : Nat} {cs : Array Value} (h : StrAt w g left l en) (hg : w.grownBy w' (some g2)) (hk : Blk w g2 45 cs) (hne : g ≠ g2) : StrAt w' g left l en := by
  obtain ⟨A, n, c, h1, h2, h3, h4⟩ := h.at_
  exact ⟨h.hleft, h.hlen, A, n, c, h1.kept hg (fun e => by injection e with e; exact hne e), h2, h3.kept hg hk stream_ne, h4⟩
end

/-- The stream's bytes, if there are any, do not lie in block x. -/
def BytesNot (w : World) (g x : Nat) : Prop := ∀ (r : Value) (A : Option Addr) (n c : Nat) (f : Value), Blk w g 45 #[r, .slice A n c, f] → 0 < n → blk A ≠ some x
theorem bn_new {w : World} {g x : Nat} {r f : Value} {A : Option Addr} {n c : Nat} (h : Blk w g 45 #[r, .slice A n c, f]) (hn : 0 < n → blk A ≠ some x) : BytesNot w g x := by
  intro r' A' n' c' f' h' hn'
  unfold Blk at h h'
  rw [h] at h'
  simp at h'
  obtain ⟨_, ⟨rfl, rfl, _⟩, _⟩ := h'
  exact hn hn'
theorem bn_below {w w' : World} {g x : Nat} (hb : Below w.heap.size w w') (hg : g < w.heap.size) (h : BytesNot w g x) : BytesNot w' g x := by
  intro r A n c f hk hn
  refine h r A n c f ?_ hn
  unfold Blk at hk ⊢
  rw [← hb.block g hg]; exact hk
theorem bn_grown {w w' : World} {g x : Nat} {row : Option Nat} (hb : w.grownBy w' row) (hg : g < w.heap.size) (hr : some g ≠ row) (h : BytesNot w g x) : BytesNot w' g x := by
  intro r A n c f hk hn
  refine h r A n c f ?_ hn
  unfold Blk at hk ⊢
  rw [← hb.block g hg hr]; exact hk
/-- What is done to a block that holds none of its bytes does nothing to a stream. -/
theorem StrAt.apart {w w' : World} {g left x : Nat} {l : List UInt8} {en : Bool} {row : Option Nat} (h : StrAt w g left l en) (hg : w.grownBy w' row) (hr : row = none ∨ row = some x) (hx : BytesNot w g x) (hne : g ≠ x) : StrAt w' g left l en := by
  obtain ⟨A, n, c, h1, h2, h3, h4⟩ := h.at_
  have hgr : some g ≠ row := by rcases hr with rfl | rfl <;> simp [hne]
  refine ⟨h.hleft, h.hlen, A, n, c, h1.kept hg hgr, h2, fun hn => ?_, h4⟩
  have hb := hx _ _ _ _ _ h1 (by omega)
  obtain ⟨b, o, e, h5, ⟨cq, fq, hq⟩, h6⟩ := h3 hn
  subst e
  have hbr : some b ≠ row := by
    rcases hr with rfl | rfl
    · simp
    · intro e; injection e with e; exact hb (by simp [blk, e])
  exact ⟨b, o, rfl, Nat.lt_of_lt_of_le h5 hg.size, ⟨cq, fq, (hg.block b h5 hbr).trans hq⟩, fun i hi => (cell_grown hg h5 hbr).trans (h6 i hi)⟩

theorem new_any (w : World) : Calls Try.prog 8 #[] w fun e w' => e = .returned (.pointer (some ⟨w.heap.size, 0, none⟩)) ∧ StrAt w' w.heap.size 0 [] false ∧ Below w.heap.size w w' := by
  go_enter Try.func8, Try.ntmps8
  go_wp2
  go_ret
  exact ⟨rfl, ⟨by omega, by simp, none, 0, 0, Blk.new w _ _, rfl, KB.nil, by simp, by simp⟩, ba _ _⟩

theorem held_nil (w : World) : Calls Try.prog 17 #[.pointer none] w fun e w' => e = .returned (.int .i64 0) ∧ w = w' := by
  go_enter Try.func17, Try.ntmps17
  go_wp2
  go_ret
  exact ⟨rfl, rfl⟩
theorem held_any {w : World} {g left : Nat} {l : List UInt8} {en : Bool} (h : StrAt w g left l en) : Calls Try.prog 17 #[.pointer (some ⟨g, 0, none⟩)] w fun e w' => e = .returned (.int .i64 l.length) ∧ w = w' := by
  obtain ⟨A, n, c, hb, hn, _, _⟩ := h.at_
  rw [← hn]
  have c1 := hb.cell 1
  simp only [List.getElem?_toArray, List.getElem?_cons_zero, List.getElem?_cons_succ] at c1
  clear h hn
  go_enter Try.func17, Try.ntmps17
  go_wp2
  go_ret
  exact ⟨rfl, rfl⟩
theorem end_nil (w : World) : Calls Try.prog 15 #[.pointer none] w fun e w' => e = .returned (.int .i64 6) ∧ w = w' := by
  go_enter Try.func15, Try.ntmps15
  go_wp2
  go_ret
  exact ⟨rfl, rfl⟩
def endE (en : Bool) : Int := if en then 110 else 0
theorem end_any {w : World} {g left : Nat} {l : List UInt8} {en : Bool} (h : StrAt w g left l en) : Calls Try.prog 15 #[.pointer (some ⟨g, 0, none⟩)] w fun e w' => e = .returned (.int .i64 (endE en)) ∧ StrAt w' g left l true ∧ w.grownBy w' (some g) := by
  obtain ⟨A, n, c, hb, hn, hk, hc⟩ := h.at_
  have c2 := hb.cell 2
  simp only [List.getElem?_toArray, List.getElem?_cons_zero, List.getElem?_cons_succ] at c2
  have z2 := hb.frozen 2
  cases en
  · go_enter Try.func15, Try.ntmps15
    go_wp2
    go_ret
    exact ⟨rfl, ⟨h.hleft, h.hlen, A, n, c, hb.set_ 2 _, hn, hk.kept (grown_set _ _ _) hb stream_ne, hc⟩, grown_set _ _ _⟩
  · go_enter Try.func15, Try.ntmps15
    go_wp2
    go_ret
    exact ⟨rfl, h, grown_refl _ _⟩

theorem put_nil (v : Value) (w : World) : Calls Try.prog 11 #[.pointer none, v] w fun e w' => e = .returned (.int .i64 6) ∧ w = w' := by
  go_enter Try.func11, Try.ntmps11
  go_wp2
  go_ret
  exact ⟨rfl, rfl⟩
theorem put_ended {w : World} {g left : Nat} {l : List UInt8} (h : StrAt w g left l true) (v : Value) : Calls Try.prog 11 #[.pointer (some ⟨g, 0, none⟩), v] w fun e w' => e = .returned (.int .i64 110) ∧ w = w' := by
  obtain ⟨A, n, c, hb, hn, hk, hc⟩ := h.at_
  have c2 := hb.cell 2
  simp only [List.getElem?_toArray, List.getElem?_cons_zero, List.getElem?_cons_succ] at c2
  go_enter Try.func11, Try.ntmps11
  go_wp2
  go_ret
  exact ⟨rfl, rfl⟩
theorem put_full {w : World} {g left : Nat} {l : List UInt8} (h : StrAt w g left l false) (A' : Option Addr) (n' c' : Nat) (hf : 65536 < l.length + n') : Calls Try.prog 11 #[.pointer (some ⟨g, 0, none⟩), .slice A' n' c'] w fun e w' => e = .returned (.int .i64 5) ∧ w = w' := by
  have hl := h.hlen
  obtain ⟨A, n, c, hb, hn, hk, hc⟩ := h.at_
  rw [← hn] at hl hf
  have e1 : IntKind.i64.wrap ((65536 : Int) - (n : Int)) = (65536 : Int) - (n : Int) := IntWalk.i64_in _ (by omega)
  have d1 : decide ((65536 : Int) - (n : Int) < (n' : Int)) = true := by simp; omega
  have c2 := hb.cell 2
  have c1 := hb.cell 1
  simp only [List.getElem?_toArray, List.getElem?_cons_zero, List.getElem?_cons_succ] at c1 c2
  clear hf hl hn h
  go_enter Try.func11, Try.ntmps11
  go_wp2
  go_ret
  exact ⟨rfl, rfl⟩
set_option maxHeartbeats 1000000 in
theorem put_okX {w : World} {g left : Nat} {l : List UInt8} (h : StrAt w g left l false) (A' : Option Addr) (m : List UInt8) (n' c' : Nat) (hn' : Hid (n' = m.length)) (hbs : Bs w w.heap.size A' m) (hf : l.length + n' ≤ 65536) :
    Calls Try.prog 11 #[.pointer (some ⟨g, 0, none⟩), .slice A' n' c'] w fun e w' => e = .returned (.int .i64 0) ∧ StrAt w' g left (l ++ m) false ∧ w.grownBy w' (some g) ∧ ∀ x, x < w.heap.size → BytesNot w' g x := by
  have hl := h.hlen
  have hleft := Lib.hid h.hleft
  obtain ⟨A, n, c, hb, hn, hk, hc⟩ := h.at_
  rw [← hn] at hl hf
  have Hn := Lib.hid hn
  have Hf := Lib.hid hf
  have e1 : IntKind.i64.wrap ((65536 : Int) - (n : Int)) = (65536 : Int) - (n : Int) := IntWalk.i64_in _ (by omega)
  have d1 : decide ((65536 : Int) - (n : Int) < (n' : Int)) = false := by simp; omega
  have c2 := hb.cell 2
  have c1 := hb.cell 1
  simp only [List.getElem?_toArray, List.getElem?_cons_zero, List.getElem?_cons_succ] at c1 c2
  have hba := ba w (.cells #[.slice A n c, .slice A' n' c'] 26)
  have hcc := concat2 w.heap.size A A' l m n n' c c' Hn hn' (w.alloc (.cells #[.slice A n c, .slice A' n' c'] 26)) (by simp) (by rw [World.cell?_alloc_at _ _ _ _ rfl]; rfl) (by rw [World.cell?_alloc_at _ _ _ _ rfl]; rfl) (hk.bs.bt hba) (hbs.bt hba) (Lib.hid (by rw [← hn, ← hn'.out]; omega))
  have hgl := hb.lt
  have hb2 := hb.below hba hgl
  generalize hwv : (w.alloc (.cells #[.slice A n c, .slice A' n' c'] 26)) = w2 at *
  have HK := Lib.hid hk
  have Hc := Lib.hid hc
  clear hf hl hn h hbs hk hc
  go_enter Try.func11, Try.ntmps11
  go_wp2_with fail
  refine hcc.mono ?_
  clear hcc
  rintro e w3 ⟨A3, c3, rfl, own3, hb3⟩
  have hgl2 : g < w2.heap.size := hb2.lt
  have hb4 := hb2.below hb3 hgl2
  have z1 := hb4.frozen 1
  have c13 := hb4.cell 1
  simp only [List.getElem?_toArray, List.getElem?_cons_zero, List.getElem?_cons_succ] at c13
  have k3 := KB.of_own own3
  have hf3 := Own.cap own3
  simp only [List.length_append, maxLen, ← Hn.out, ← hn'.out] at hf3
  go_wp2
  go_ret
  refine ⟨rfl, ⟨hleft.out, ?_, A3, n + n', c3, hb4.set_ 1 _, ?_, k3.kept (grown_set _ _ _) hb4 stream_ne, hf3.1, by omega⟩, grownBy_trans (grown_of (bt hba hb3) _) (grown_set _ _ _), fun x hx => bn_new (hb4.set_ 1 _) (fun h0 e => by obtain ⟨q1, q2⟩ := own3.lt x e; have := hba.size; omega)⟩
  · rw [List.length_append, ← Hn.out, ← hn'.out]; exact Hf.out
  · rw [List.length_append, ← Hn.out, ← hn'.out]
theorem put_ok {w : World} {g left : Nat} {l : List UInt8} (h : StrAt w g left l false) (A' : Option Addr) (m : List UInt8) (n' c' : Nat) (hn' : Hid (n' = m.length)) (hbs : Bs w w.heap.size A' m) (hf : l.length + n' ≤ 65536) :
    Calls Try.prog 11 #[.pointer (some ⟨g, 0, none⟩), .slice A' n' c'] w fun e w' => e = .returned (.int .i64 0) ∧ StrAt w' g left (l ++ m) false ∧ w.grownBy w' (some g) :=
  (put_okX h A' m n' c' hn' hbs hf).mono fun e w' ⟨h1, h2, h3, _⟩ => ⟨h1, h2, h3⟩
end Go.Proofs.Ytgbcjimfpoeicaa
