/- A loop over a function whose own variables lie in cells, and whose rounds never leave: one rule for the caller. -/
import Derived.RangeFuncNested
import Derived.RangeFuncBound
import Derived.RangeFuncCalls
import Derived.RangeFuncLeaves
import Derived.Below
namespace Go.Proofs.Ytfcafahgmnnlnaa
open Go Go.RowKit
set_option linter.unusedVariables false

section
variable {F : Fence} {n : Nat} {P : Program}

/-- The way out of a round that goes on. -/
def GoesOn {α : Type} (Kp : World → World → Prop) (I : List α → World → Prop) (xs : List α) (W : World) (e : Exit) (_ : Act) (W' : World) : Prop :=
  match e with
  | .normal => KeepsOthers W W' ∧ Kp W W' ∧ I xs W'
  | _ => False

theorem wpIn_rangeFunc_cells {α : Type} {g : Operand} {ps : Array Tmp} {assign body : Code} {Q : Exit → Act → World → Prop} {a : Act} {w : World}
    (hround : F.round = none) (hdeep : 1 ≤ n) {gf : Nat} {lb : Array Value} (hgv : a.eval g = .func (.func gf) #[] lb) (hin : F.fn gf) (henter : ∀ args w, (callFunc gf args).run P w = .ok (.enter gf args) w)
    {encs : α → Array Value} (hsize : ∀ x, (encs x).size = ps.size) (Kp : World → World → Prop) (I : List α → World → Prop) (S : List α → Prop) (N : Nat)
    (kTrans : ∀ {A B C : World}, Kp A B → Kp B C → Kp A C)
    (kPut : ∀ (W : World) (l : Nat) (o o' : Obj), w.heap.size ≤ l → W.heap[l]? = some o → o.isCells = false → Kp W (W.putObj l o'))
    (iPut : ∀ (s : List α) (W : World) (l : Nat) (o o' : Obj), I s W → w.heap.size ≤ l → W.heap[l]? = some o → o.isCells = false → I s (W.putObj l o'))
    (iStart : ∀ o o' : Obj, I [] ((w.alloc o).alloc o'))
    (hiter : ∀ (l : Nat) (W1 : World) (Z : World → Prop), (∀ W p v, Z W → Z (W.setCell p v)) → Below w.heap.size w W1 → I [] W1 → Z W1 →
      (∀ pre x W, I pre W → Z W → pre.length < N → YieldAt F (n - 1 - 1) P l (encs x) W fun e W' => e = .returned (.bool true) ∧ I (pre ++ [x]) W' ∧ Z W' ∧ Kp W W') →
      CallsIn F (n - 1) P gf (#[.func (.yield l) #[] #[]] ++ lb) W1 fun e W' => (∃ v, e = .returned v) ∧ ∃ xs, S xs ∧ I xs W' ∧ Z W')
    (a₁ : α → Act)
    (hassign : ∀ (l : Nat) (x : α) (W : World) (K : Act → World → Prop), K (a₁ x) W →
      assign.wpIn (F.inRound l) (n - 1 - 1) P (Exit.then K (fun _ _ _ => False)) { tmps := (ps.zip (encs x)).foldl (fun t (p, v) => t.setIfInBounds p v) a.tmps, defers := [] } W)
    (hbody : ∀ (l : Nat) (pre : List α) (x : α) (W : World), I pre W → pre.length < N → body.wpIn (F.inRound l) (n - 1 - 1) P (GoesOn Kp I (pre ++ [x]) W) (a₁ x) W)
    (hdone : ∀ (D : Nat) (xs : List α) (W : World), w.heap.size ≤ D → S xs → I xs W → W.heap[D]? = some (.deferred (some [])) → Q .normal { a with defers := { target := .collected D, args := #[] } :: a.defers } W) :
    (Code.rangeFunc g ps assign body).wpIn F n P Q a w := by
  refine wpIn_rangeFunc fun fn hfn => ?_
  rw [hround]
  -- the record, at each of its states
  obtain ⟨st, hst⟩ : ∃ st : LoopState → Loop, st = fun s => { state := s, pending := none, fn, tmps := a.tmps, params := ps, assign, body, defers := w.heap.size } := ⟨_, rfl⟩
  have hready : (st .ready).state = .ready := by rw [hst]
  have hbusy : ({ st .ready with state := .busy } : Loop) = st .busy := by rw [hst]
  have hagain : ({ st .busy with state := .ready, pending := none } : Loop) = st .ready := by rw [hst]
  -- what the iterator must leave alone
  obtain ⟨Z, hZ⟩ : ∃ Z : LoopState → World → Prop, Z = fun s W => W.heap[w.heap.size + 1]? = some (.loop (st s)) ∧ W.heap[w.heap.size]? = some (.deferred (some [])) := ⟨_, rfl⟩
  have zKeep : ∀ s W W', KeepsOthers W W' → Z s W → Z s W' := fun s W W' hk hz => by
    rw [hZ] at hz ⊢; exact ⟨hk.same _ _ hz.1 rfl, hk.same _ _ hz.2 rfl⟩
  have zTurn : ∀ s s' W, Z s W → Z s' (W.putObj (w.heap.size + 1) (.loop (st s'))) := fun s s' W hz => by
    rw [hZ] at hz ⊢
    exact ⟨World.putObj_heap_same (Array.getElem?_eq_some_iff.1 hz.1).1, (World.putObj_heap_other (by omega)).trans hz.2⟩
  obtain ⟨W1, hW1⟩ : ∃ W1, W1 = (w.alloc (.deferred (some []))).alloc (.loop (st .ready)) := ⟨_, rfl⟩
  have hz1 : Z .ready W1 := by
    rw [hZ, hW1]
    refine ⟨?_, (Below.heap_alloc _ _ _ (by simp)).trans (World.alloc_heap_new w _)⟩
    have := World.alloc_heap_new (w.alloc (.deferred (some []))) (.loop (st .ready))
    rwa [World.size_alloc] at this
  have hb1 : Below w.heap.size w W1 := by rw [hW1]; exact ((Below.refl _ w).alloc (Nat.le_refl _) _).alloc (by simp) _
  refine ⟨w.heap.size + 1, [{ target := .collected w.heap.size, args := #[] }], W1, { target := .fn (.func gf) lb, args := #[.func (.yield (w.heap.size + 1)) #[] #[]] }, W1, gf,
    #[.func (.yield (w.heap.size + 1)) #[] #[]] ++ lb, W1, ?_, ?_, ?_, ?_, fun _ => hdeep, ?_⟩
  · rw [hW1, hst]; exact run_enterLoop_outer _ _ _ _ _
  · simp only [resolve, hgv]; simp [go_sem]
  · intro f' hf'; simp [Target.leads] at hf'; subst hf'; exact hin
  · simp [invoke, go_sem, henter]
  refine (hiter (w.heap.size + 1) W1 (Z .ready) (fun W p v hz => zKeep _ _ _ (KeepsOthers.setCell W p v) hz) hb1 (by rw [hW1]; exact iStart _ _) hz1 ?_).mono ?_
  · intro pre x W hi hz hlen
    have hz' := hz
    rw [hZ] at hz'
    have hy := run_yield (P := P) (args := encs x) hz'.1 (by rw [hst]; exact hsize x)
    have hshape : (st .ready).fn = fn ∧ (st .ready).tmps = a.tmps ∧ (st .ready).params = ps ∧ (st .ready).assign = assign ∧ (st .ready).body = body := by rw [hst]; exact ⟨rfl, rfl, rfl, rfl, rfl⟩
    obtain ⟨s1, s2, s3, s4, s5⟩ := hshape
    rw [s1, s2, s3, s4, s5] at hy
    refine ⟨fn, _, assign, body, hy, roundIn_of_wpIn hfn (hassign _ x W _ ⟨_, run_beginRound hz'.1 hready, ?_⟩)⟩
    rw [hbusy]
    have hzb := zTurn .ready .busy W hz
    refine wpIn_mono (hbody _ pre x _ (iPut _ _ _ _ _ hi (by omega) hz'.1 rfl) hlen) ?_
    intro e a3 W3 hp
    cases e with
    | normal =>
      obtain ⟨hk3, hkp3, hi3⟩ := hp
      have hz3 := zKeep _ _ _ hk3 hzb
      have hz3' := hz3
      rw [hZ] at hz3'
      have hend := run_endRound (P := P) none hz3'.1
      refine ⟨_, _, hend, rfl, ?_, ?_, ?_⟩
      · exact iPut _ _ _ _ _ hi3 (by omega) hz3'.1 rfl
      · have := zTurn .busy .ready W3 hz3
        simpa [hagain] using this
      · exact kTrans (kTrans (kPut _ _ _ _ (by omega) hz'.1 rfl) hkp3) (kPut _ _ _ _ (by omega) hz3'.1 rfl)
    | ret => exact hp.elim
    | exit _ => exact hp.elim
    | goto _ => exact hp.elim
    | panic _ => exact hp.elim
    | outgrown => exact hp.elim
  · rintro e W2 ⟨⟨v, rfl⟩, xs, hS, hi, hz⟩
    have hz' := hz
    rw [hZ] at hz'
    have hend := run_endLoop (P := P) hz'.1 (by rw [hready]; simp)
    have hpend : (st .ready).pending = none := by rw [hst]
    rw [hpend] at hend
    exact ⟨none, _, hend, hdone _ xs _ (Nat.le_refl _) hS (iPut _ _ _ _ _ hi (by omega) hz'.1 rfl) ((World.putObj_heap_other (by omega)).trans hz'.2)⟩
end
end Go.Proofs.Ytfcafahgmnnlnaa
