/- Layer 4: all variables of a text are read. -/
import Derived.Test.YtoahmifmoekjoaaGf
import Derived.Test.YtoahmifmoekjoaaGm
namespace Go.Proofs.Ytoahmifmoekjoaa
open Go.RowKit
set_option linter.unusedVariables false
set_option linter.unusedSimpArgs false

/-- From byte at_ on the text is read as these variables. -/
def ReadsAs (b : List UInt8) : Nat → List (Int × List UInt8) → Prop
  | at_, [] => at_ = b.length
  | at_, v :: vs => at_ < b.length ∧ ∃ (i n : Nat), v.1 = i ∧ nextR (b.drop at_) = (i, v.2, n, 0) ∧ ReadsAs b (at_ + n) vs

/-- Bytes that lie in a block other than g. -/
def DAt (w : World) (g : Option Nat) (A : Option Addr) (d : List UInt8) : Prop :=
  0 < d.length → ∃ b o, A = some ⟨b, o, none⟩ ∧ some b ≠ g ∧ b < w.heap.size ∧ ∀ i, (h : i < d.length) → w.cell? ⟨b, o + i, none⟩ = some (.int .u8 ((d[i]'h).toNat : Int))
theorem DAt.bs {w : World} {g : Option Nat} {A : Option Addr} {d : List UInt8} (h : DAt w g A d) : Bs w w.heap.size A d := fun hn => by
  obtain ⟨b, o, e, _, h2, h3⟩ := h hn; exact ⟨b, o, e, h2, h3⟩
theorem cell_grown {w w' : World} {row : Option Nat} (hg : w.grownBy w' row) {p : Addr} (hp : p.block < w.heap.size) (hr : some p.block ≠ row) : w'.cell? p = w.cell? p := by
  unfold World.cell?
  rw [hg.block p.block hp hr]
theorem DAt.grown {w w' : World} {g g' : Option Nat} {A : Option Addr} {d : List UInt8} (h : DAt w g A d) (hg : w.grownBy w' g) (hg' : g' = g ∨ g' = some w.heap.size) : DAt w' g' A d := fun hn => by
  obtain ⟨b, o, e, h1, h2, h3⟩ := h hn
  refine ⟨b, o, e, ?_, Nat.lt_of_lt_of_le h2 hg.size, fun i hi => (cell_grown hg h2 h1).trans (h3 i hi)⟩
  rcases hg' with rfl | rfl
  · exact h1
  · intro e; cases e; omega
theorem DAt.below {w w' : World} {g : Option Nat} {A : Option Addr} {d : List UInt8} (h : DAt w g A d) (hb : Below w.heap.size w w') : DAt w' g A d := fun hn => by
  obtain ⟨b, o, e, h1, h2, h3⟩ := h hn
  exact ⟨b, o, e, h1, Nat.lt_of_lt_of_le h2 hb.size, fun i hi => (hb.cell (p := ⟨b, o + i, none⟩) h2).trans (h3 i hi)⟩

/-- The cells of variables; their bytes lie outside block g. -/
def VCells (w : World) (g : Option Nat) : List Value → List (Int × List UInt8) → Prop
  | [], [] => True
  | a :: b :: xs, v :: vs => a = .int .i64 v.1 ∧ (∃ A c, b = .slice A v.2.length c ∧ DAt w g A v.2) ∧ VCells w g xs vs
  | _, _ => False
theorem VCells.map {w w' : World} {g g' : Option Nat} (hd : ∀ A d, DAt w g A d → DAt w' g' A d) : ∀ (xs : List Value) (vs : List (Int × List UInt8)), VCells w g xs vs → VCells w' g' xs vs
  | [], [], _ => trivial
  | [], _ :: _, h => h
  | [_], [], h => h
  | [_], _ :: _, h => h
  | _ :: _ :: _, [], h => h
  | a :: b :: xs, v :: vs, h => by
    obtain ⟨h1, ⟨A, c, h2, h3⟩, h4⟩ := h
    exact ⟨h1, ⟨A, c, h2, hd _ _ h3⟩, VCells.map hd xs vs h4⟩
theorem VCells.snoc {w : World} {g : Option Nat} {id : Int} {d : List UInt8} {A : Option Addr} {c : Nat} (hd : DAt w g A d) : ∀ (xs : List Value) (vs : List (Int × List UInt8)), VCells w g xs vs → VCells w g (xs ++ [.int .i64 id, .slice A d.length c]) (vs ++ [(id, d)])
  | [], [], _ => ⟨rfl, ⟨A, c, rfl, hd⟩, trivial⟩
  | [], _ :: _, h => h.elim
  | [_], [], h => h.elim
  | [_], _ :: _, h => h.elim
  | _ :: _ :: _, [], h => h.elim
  | a :: b :: xs, v :: vs, h => ⟨h.1, h.2.1, VCells.snoc hd xs vs h.2.2⟩
theorem VCells.at_ {w : World} {g : Option Nat} : ∀ (xs : List Value) (vs : List (Int × List UInt8)), VCells w g xs vs → ∀ i, (h : i < vs.length) → xs[i * 2]? = some (.int .i64 (vs[i]'h).1) ∧ ∃ A c, xs[i * 2 + 1]? = some (.slice A (vs[i]'h).2.length c) ∧ DAt w g A (vs[i]'h).2
  | [], [], _, i, h => absurd h (by simp)
  | [], _ :: _, h, _, _ => h.elim
  | [_], [], h, _, _ => h.elim
  | [_], _ :: _, h, _, _ => h.elim
  | _ :: _ :: _, [], h, _, _ => h.elim
  | a :: b :: xs, v :: vs, h, 0, _ => by
    obtain ⟨h1, ⟨A, c, h2, h3⟩, _⟩ := h
    subst h1 h2
    exact ⟨rfl, A, c, rfl, h3⟩
  | a :: b :: xs, v :: vs, h, i + 1, hi => by
    have := VCells.at_ xs vs h.2.2 i (by simpa using hi)
    simpa [Nat.succ_mul] using this
theorem VCells.vars {w : World} {base n : Nat} {t : TypeId} {v : Value} {xs : List Value} {vs : List (Int × List UInt8)} (hv : VCells w v.ownBlock xs vs) (ho : w.ownsRow base t 2 v n xs) (hn : n = vs.length) :
    ∃ A c, v = .slice A vs.length c ∧ VarsAt w w.heap.size A vs := by
  subst hn
  rcases ho.2 with ⟨h1, h2⟩ | ⟨g, cap, cur, h1, hb, hg, h3, h4, h5, h6⟩
  · exact ⟨none, 0, by rw [h1, h2], fun hn => absurd hn (by omega)⟩
  · refine ⟨some ⟨g, 0, none⟩, cap, h1, fun hn => ⟨g, 0, rfl, (Array.getElem?_eq_some_iff.1 hg).1, fun i hi => ?_⟩⟩
    obtain ⟨q1, A, c, q2, q3⟩ := VCells.at_ xs vs hv i hi
    have hc : ∀ j u, xs[j]? = some u → w.cell? ⟨g, 0 + j, none⟩ = some u := by
      intro j u hu
      rw [cell_of_row w g _ _ t (0, 0) hg, ← Array.getElem?_toList, Nat.zero_add]
      rw [← h6, List.getElem?_take] at hu
      split at hu
      · exact hu
      · cases hu
    exact ⟨A, c, hc _ _ q1, hc _ _ q2, q3.bs⟩

theorem Try.infoVar2 : (Try.prog.info? 24).map (fun i => (i.zero, i.size, i.bytes)) = some (some (.agg #[.int .i64 0, .slice none 0 0]), 2, 32) := by kernel_rfl

theorem setCell_self (w : World) {a : Addr} {v : Value} (h : w.cell? a = some v) : ∀ {p : Addr}, (w.setCell a v).cell? p = w.cell? p := by
  intro p
  by_cases e : p = a
  · subst e
    rw [World.cell?_setCell_same' _ _ _ (by rw [h]; rfl), h]
  · exact World.cell?_setCell_other w a p v (fun e' => e (by first | exact e' | exact e'.symm))
theorem grow_none {w w' : World} (hb : Below w.heap.size w w') : w.grownBy w' none := ⟨hb.os, hb.tape, hb.output, hb.size, fun i hi _ => hb.block i hi⟩
theorem row_below {w w' : World} {base n s : Nat} {e : TypeId} {v : Value} {xs : List Value} (h : w.ownsRow base e s v n xs) (hb : Below w.heap.size w w') : w'.ownsRow base e s v n xs :=
  World.ownsRow.kept h (grow_none hb) (by cases v.ownBlock with
    | none => exact .inl rfl
    | some g => exact .inr (by simp))
theorem next_at (A : Option Addr) (b : List UInt8) (n c : Nat) (w : World) (hn : n = b.length) (hle : n ≤ c) (hm : c ≤ 9223372036854775807) (hs : Bs w w.heap.size A b) (R : Nat × List UInt8 × Nat × Int) (hR : nextR b = R) :
    Calls Try.prog 15 #[.slice A n c] w (NextOut w R) := by
  subst hn; rw [← hR]; exact next_any A b c w hle hm hs

set_option maxHeartbeats 2000000 in
theorem read_ok (A : Option Addr) (b : List UInt8) (c : Nat) (vs : List (Int × List UInt8)) (w : World) (hle : b.length ≤ c) (hm : c ≤ 9223372036854775807) (hbl : b.length ≤ 2000000) (hvs : vs.length ≤ 1000) (hs : Bs w w.heap.size A b) (hr : ReadsAs b 0 vs) :
    Calls Try.prog 17 #[.slice A b.length c] w fun e w' => ∃ A2 c2, e = .returned (.tuple #[.slice A2 vs.length c2, .agg #[.int .i64 0, .int .i64 0]]) ∧ VarsAt w' w'.heap.size A2 vs ∧ Below w.heap.size w w' := by
  obtain ⟨i0, hi, hz0, hz1, hz2⟩ := info_parts Try.infoVar2
  go_enter Try.func17, Try.ntmps17
  go_wp2_with fail
  go_loopw [4, 5] (fun v a wr => ∃ (v1 v2 : List (Int × List UInt8)) (xs : List Value) (at_ : Nat) (q : Value), q = v ∧ Hid (vs = v1 ++ v2) ∧ a = .int .i64 at_ ∧ at_ ≤ b.length ∧ ReadsAs b at_ v2 ∧ wr.ownsRow (w.heap.size + 1) 24 2 q v1.length xs ∧ VCells wr q.ownBlock xs v1 ∧ Blk wr w.heap.size 38 #[.int .i64 0, .int .i64 0] ∧ Below w.heap.size w wr)
    (fun _ a _ => b.length - (intOf a).toNat)
  case atStart => exact ⟨[], vs, [], 0, _, rfl, Lib.hid rfl, rfl, Nat.zero_le _, hr, World.ownsRow_nil _ _ _ _, trivial, Blk.new _ _ _, ba _ _⟩
  case round =>
    obtain ⟨v1, v2, xs, at_, q, rfl, hv12, rfl, hat, hrd, hown, hvc, hF, hb⟩ := hrel
    have q0 := hF.cell 0
    have q1 := hF.cell 1
    have f0 := hF.frozen 0
    have f1 := hF.frozen 1
    simp only [List.getElem?_toArray, List.getElem?_cons_zero, List.getElem?_cons_succ] at q0 q1
    cases v2 with
    | nil =>
      have hat2 : at_ = b.length := hrd
      subst hat2
      obtain ⟨A2, c2, hv, hva⟩ := hvc.vars hown rfl
      subst hv
      have hvv : vs = v1 := by rw [hv12.out]; simp
      have Hvv := Lib.hid hvv
      clear hvv
      go_wp2
      have hfin0 := hF.set_ 0 (.int .i64 0)
      have z0' := hfin0.cell 1
      simp at z0'
      have hfin := hfin0.set_ 1 (.int .i64 0)
      have z0 := hfin.cell 0
      have z1 := hfin.cell 1
      simp at z0 z1
      refine bodyPost_ret (by simp [results, Try.results17, go_sem, z0, z1]; rfl) rfl ?_
      refine ⟨A2, c2, by rw [Hvv.out], ?_, (hb.setCell (Nat.le_refl _) _).setCell (Nat.le_refl _) _⟩
      rw [Hvv.out]
      refine (hva.keep fun p _ => ?_).more (by simp [World.setCell])
      rw [setCell_self _ (by simpa using z0' ), setCell_self _ q0]
    | cons x v2 =>
      obtain ⟨hlt, i, n, hid, hnx, hrd'⟩ := hrd
      obtain ⟨id, d⟩ := x
      simp only at hid hnx
      subst hid
      have hsm := nextR_some (b.drop at_) (by rw [hnx])
      rw [hnx] at hsm
      simp only [List.length_drop] at hsm
      have hca : ¬ c = at_ := by omega
      have hbd := hs.bt hb
      have hcall := next_at (A.map fun x => x.add at_) (b.drop at_) (b.length - at_) (c - at_) wr (by simp) (by omega) (by omega) (bs_dropM hbd at_) _ hnx
      clear hnx hr
      go_wp2_with fail
      refine hcall.mono ?_
      clear hcall
      rintro e w1 ⟨A1, c1, rfl, hn1, hb1, hl1, hm1⟩
      simp only at hn1 hl1
      have hv1l : v1.length + 1 ≤ 1000 := by have := hv12.out; rw [this] at hvs; simp at hvs; omega
      have hlt2 : ∀ k, q.ownBlock = some k → w.heap.size + 1 ≤ k ∧ k < wr.heap.size := fun k hk => World.ownsRow.lt hown k hk
      have hbA := bt hb1 (bt (ba w1 (.cells #[.int .i64 i, .slice A1 d.length c1] 24)) (ba _ (.cells #[.int .i64 i, .slice A1 d.length c1] 24)))
      have hown3 := row_below hown hbA
      have hnew : ∀ j u, [Value.int .i64 i, .slice A1 d.length c1][j]? = some u → ((w1.alloc (.cells #[.int .i64 i, .slice A1 d.length c1] 24)).alloc (.cells #[.int .i64 i, .slice A1 d.length c1] 24)).cell? ((⟨(w1.alloc (.cells #[.int .i64 i, .slice A1 d.length c1] 24)).heap.size, 0, none⟩ : Addr).add j) = some u := by
        intro j u hu
        rw [Addr.add_lit, World.cell?_alloc_at _ _ _ _ rfl, Nat.zero_add]
        simpa using hu
      rw [World.size_alloc] at hnew
      have hdn : DAt ((w1.alloc (.cells #[.int .i64 i, .slice A1 d.length c1] 24)).alloc (.cells #[.int .i64 i, .slice A1 d.length c1] 24)) q.ownBlock A1 d := by
        refine DAt.below (w := w1) (fun hn => ?_) (bt (ba _ _) (ba _ _))
        obtain ⟨bb, oo, e, h1, h2, h3⟩ := hn1 hn
        exact ⟨bb, oo, e, fun e' => by have := (hlt2 bb e'.symm).2; omega, h2, h3⟩
      have hvc3 := VCells.map (fun A d h => DAt.below h hbA) xs v1 hvc
      have hFA := hF.below hbA hF.lt
      have hbB := bt hb hbA
      have hsz1 : w.heap.size ≤ w1.heap.size := Nat.le_trans hb.size hb1.size
      clear q0 q1 f0 f1 hbd hn1 hown hvc hF
      go_wp2_with (at_builtin; refine wpList_append_own_at _ rfl (.tmp 26) (.tmp 28) 31 rfl (w.heap.size + 1) 24 i0 _ 2 32 Try.underlying31 hi hz0 hz1 hz2 rfl (by decide) q v1.length xs rfl hown3 ⟨w1.heap.size + 1, 0, none⟩ 1 1 [.int .i64 i, .slice A1 d.length c1] rfl rfl hnew (by intro u hu; simp at hu; rcases hu with rfl | rfl <;> rfl) (by simp only [maxLen]; omega) (by omega) (by simp only [World.size_alloc]; omega) ?_; intro q' w' hown4 hgr4 _ hbk4)
      have hbk5 : q'.ownBlock = q.ownBlock ∨ q'.ownBlock = some ((w1.alloc (.cells #[.int .i64 i, .slice A1 d.length c1] 24)).alloc (.cells #[.int .i64 i, .slice A1 d.length c1] 24)).heap.size := hbk4
      have hvc4 := VCells.map (fun A d h => DAt.grown h hgr4 hbk5) _ _ (VCells.snoc (id := (i : Int)) (c := c1) hdn xs v1 hvc3)
      go_roundw
      case rel =>
        refine ⟨v1 ++ [((i : Int), d)], v2, _, at_ + n, _, rfl, Lib.hid (by rw [hv12.out]; simp), by go_num, by omega, hrd', ?_, hvc4, hFA.kept hgr4 (fun e => by have := (hlt2 _ e.symm).1; omega), hbB.grown hgr4 hbB.size (fun k e => by have := (hlt2 k e).1; omega)⟩
        rw [List.length_append]; exact hown4
      case measure => simp [intOf]; omega
end Go.Proofs.Ytoahmifmoekjoaa
