/- A loop over a function within whose rounds the rounds of an outer one are run: one rule for the caller. -/
import Derived.Test.YtepcafkgpkbimaaSeq
import Derived.Test.YtepcafkgpkbimaaBase2
namespace Go.Proofs.Ytepcafkgpkbimaa
open Go Go.RowKit
set_option linter.unusedVariables false

/-- The records and marks from block B on stay as they are. -/
def NK (B : Nat) (W W' : World) : Prop := ∀ (k : Nat) (o : Obj), B ≤ k → W.heap[k]? = some o → o.isCells = false → W'.heap[k]? = some o
theorem NK.rfl' {B : Nat} {W : World} : NK B W W := fun _ _ _ h _ => h
theorem NK.trans {B : Nat} {A C D : World} (h : NK B A C) (h' : NK B C D) : NK B A D := fun k o hk ho hc => h' k o hk (h k o hk ho hc) hc
theorem NK.more {B B' : Nat} {A C : World} (h : NK B A C) (hB : B ≤ B') : NK B' A C := fun k o hk ho hc => h k o (by omega) ho hc
theorem NK.put {B l : Nat} {W : World} {o' : Obj} (hl : l < B) : NK B W (W.putObj l o') := fun k o hk ho _ => (World.putObj_heap_other (by omega)).trans ho
theorem NK.of {B : Nat} {A C : World} (h : KeepsOthers A C) : NK B A C := fun k o _ ho hc => h.same k o ho hc
/-- What an iterator does between two rounds: new blocks; its own records (from B on) turn. -/
structure Step (B : Nat) (W W' : World) : Prop where
  bel : Below B W W'
  cel : ∀ (k : Nat) (o : Obj), W.heap[k]? = some o → o.isCells = true → W'.heap[k]? = some o
theorem Step.rfl' {B : Nat} {W : World} : Step B W W := ⟨Below.refl _ _, fun _ _ h _ => h⟩
theorem Step.trans {B : Nat} {A C D : World} (h : Step B A C) (h' : Step B C D) : Step B A D := ⟨h.bel.trans h'.bel, fun k o ho hc => h'.cel k o (h.cel k o ho hc) hc⟩
theorem Step.less {B B' : Nat} {A C : World} (h : Step B' A C) (hB : B ≤ B') : Step B A C := ⟨h.bel.mono hB, h.cel⟩
theorem Step.alloc {B : Nat} {W : World} (hB : B ≤ W.heap.size) (o : Obj) : Step B W (W.alloc o) := ⟨(Below.refl _ _).alloc hB o, fun k o' h _ => (Below.heap_alloc W o k (Array.getElem?_eq_some_iff.1 h).1).trans h⟩
theorem Step.put {B l : Nat} {W : World} {o o' : Obj} (hl : B ≤ l) (ho : W.heap[l]? = some o) (hc : o.isCells = false) : Step B W (W.putObj l o') :=
  ⟨⟨rfl, rfl, rfl, by rw [World.putObj_size]; exact Nat.le_refl _, fun k hk => World.putObj_heap_other (by omega)⟩, fun k o2 h2 h3 => by
    by_cases hkl : k = l
    · subst hkl; rw [ho] at h2; cases h2; rw [hc] at h3; cases h3
    · exact (World.putObj_heap_other hkl).trans h2⟩

section
variable {F : Fence} {n : Nat} {P : Program}

/-- The ways out of a round: on to the next one, or away. -/
def LeavesN {α : Type} (B : Nat) (Kp : World → World → Prop) (I : List α → World → Prop) (Ix : Code → List α → World → Prop) (xs : List α) (W : World) (e : Exit) (_ : Act) (W' : World) : Prop :=
  match e with
  | .normal => NK B W W' ∧ Kp W W' ∧ I xs W'
  | .ret => NK B W W' ∧ Ix .ret xs W'
  | .exit id => NK B W W' ∧ Ix (.exit id) xs W'
  | .goto t => NK B W W' ∧ Ix (.goto t) xs W'
  | _ => False

theorem wpIn_rangeFunc_leaveN {α : Type} {g : Operand} {ps : Array Tmp} {assign body : Code} {Q : Exit → Act → World → Prop} {a : Act} {w : World}
    (hround : F.round = none) (hdeep : F.depth.isSome = true → 1 ≤ n) {gf : Nat} {lb : Array Value} (hgv : a.eval g = .func (.func gf) #[] lb) (hin : F.fn gf) (henter : ∀ args w, (callFunc gf args).run P w = .ok (.enter gf args) w)
    {encs : α → Array Value} (hsize : ∀ x, (encs x).size = ps.size) (Kp : World → World → Prop) (I : List α → World → Prop) (Ix : Code → List α → World → Prop) (Px : α → World → Prop) (S Sp : List α → Prop) (N : Nat)
    (kTrans : ∀ {A B C : World}, Kp A B → Kp B C → Kp A C)
    (kPut : ∀ (W : World) (l : Nat) (o o' : Obj), w.heap.size ≤ l → W.heap[l]? = some o → o.isCells = false → Kp W (W.putObj l o'))
    (iStep : ∀ (s : List α) (W W' : World), I s W → Step w.heap.size W W' → I s W')
    (xStep : ∀ (c : Code) (s : List α) (W W' : World), Ix c s W → Step w.heap.size W W' → Ix c s W')
    (iStart : I [] w)
    (hiter : ∀ (l : Nat) (W1 : World) (Z : World → Prop) (Y : List α → World → Prop), (∀ W W', NK w.heap.size W W' → Z W → Z W') → (∀ W W', Z W → Step (w.heap.size + 2) W W' → Z W') → (∀ s W W', Y s W → Step (w.heap.size + 2) W W' → Y s W') → l < w.heap.size + 2 → W1.heap.size = w.heap.size + 2 → Step w.heap.size w W1 → I [] W1 → Z W1 →
      (∀ pre x W, I pre W → Z W → Px x W → pre.length < N → YieldAt F (n - 1 - 1) P l (encs x) W fun e W' =>
        (e = .returned (.bool true) ∧ I (pre ++ [x]) W' ∧ Z W' ∧ Kp W W' ∧ NK (w.heap.size + 2) W W') ∨ (e = .returned (.bool false) ∧ Y (pre ++ [x]) W' ∧ NK (w.heap.size + 2) W W')) →
      CallsIn F (n - 1) P gf (#[.func (.yield l) #[] #[]] ++ lb) W1 fun e W' => (∃ v, e = .returned v) ∧ ((∃ xs, S xs ∧ I xs W' ∧ Z W') ∨ (∃ xs, Sp xs ∧ Y xs W')))
    (Ax : α → Act → World → Prop) (axPut : ∀ (x : α) (a' : Act) (W : World) (l : Nat) (o o' : Obj), Ax x a' W → w.heap.size ≤ l → W.heap[l]? = some o → o.isCells = false → Ax x a' (W.putObj l o'))
    (hassign : ∀ (l : Nat) (pre : List α) (x : α) (W : World) (K : Act → World → Prop), I pre W → Px x W → (∀ a' W', NK w.heap.size W W' → Kp W W' → I pre W' → Ax x a' W' → K a' W') →
      assign.wpIn (F.inRound l) (n - 1 - 1) P (Exit.then K (fun _ _ _ => False)) { tmps := (ps.zip (encs x)).foldl (fun t (p, v) => t.setIfInBounds p v) a.tmps, defers := [] } W)
    (hbody : ∀ (l : Nat) (pre : List α) (x : α) (a' : Act) (W : World), w.heap.size ≤ l → (∃ r, W.heap[l]? = some (.loop r)) → I pre W → Ax x a' W → pre.length < N → body.wpIn (F.inRound l) (n - 1 - 1) P (LeavesN w.heap.size Kp I Ix (pre ++ [x]) W) a' W)
    (hdone : ∀ (D : Nat) (xs : List α) (W : World), w.heap.size ≤ D → S xs → I xs W → W.heap[D]? = some (.deferred (some [])) → Q .normal { a with defers := { target := .collected D, args := #[] } :: a.defers } W)
    (hstop : ∀ (D : Nat) (c : Code) (xs : List α) (W : World), w.heap.size ≤ D → Sp xs → Ix c xs W → W.heap[D]? = some (.deferred (some [])) → c.wpIn F n P Q { a with defers := { target := .collected D, args := #[] } :: a.defers } W) :
    (Code.rangeFunc g ps assign body).wpIn F n P Q a w := by
  refine wpIn_rangeFunc fun fn hfn => ?_
  rw [hround]
  -- the record, at each of its states
  obtain ⟨st, hst⟩ : ∃ st : LoopState → Option Code → Loop, st = fun s pe => { state := s, pending := pe, fn, tmps := a.tmps, params := ps, assign, body, defers := w.heap.size } := ⟨_, rfl⟩
  have hready : (st .ready none).state = .ready := by rw [hst]
  have hbusy : ({ st .ready none with state := .busy } : Loop) = st .busy none := by rw [hst]
  have hend0 : ∀ j, ({ st .busy none with state := if j.isNone then .ready else .done, pending := j } : Loop) = st (if j.isNone then .ready else .done) j := by intro j; rw [hst]
  -- what the iterator must leave alone
  obtain ⟨Z, hZ⟩ : ∃ Z : LoopState → Option Code → World → Prop, Z = fun s pe W => W.heap[w.heap.size + 1]? = some (.loop (st s pe)) ∧ W.heap[w.heap.size]? = some (.deferred (some [])) := ⟨_, rfl⟩
  have zKeep : ∀ s pe W W', NK w.heap.size W W' → Z s pe W → Z s pe W' := fun s pe W W' hk hz => by
    rw [hZ] at hz ⊢; exact ⟨hk _ _ (by omega) hz.1 rfl, hk _ _ (by omega) hz.2 rfl⟩
  have zStep : ∀ s pe W W', Z s pe W → Step (w.heap.size + 2) W W' → Z s pe W' := fun s pe W W' hz hs => by
    rw [hZ] at hz ⊢; exact ⟨(hs.bel.block _ (by omega)).trans hz.1, (hs.bel.block _ (by omega)).trans hz.2⟩
  have iPut : ∀ (s : List α) (W : World) (l : Nat) (o o' : Obj), I s W → w.heap.size ≤ l → W.heap[l]? = some o → o.isCells = false → I s (W.putObj l o') := fun s W l o o' hi hl ho hc => iStep _ _ _ hi (Step.put hl ho hc)
  have xPut : ∀ (c : Code) (s : List α) (W : World) (l : Nat) (o o' : Obj), Ix c s W → w.heap.size ≤ l → W.heap[l]? = some o → o.isCells = false → Ix c s (W.putObj l o') := fun c s W l o o' hi hl ho hc => xStep _ _ _ _ hi (Step.put hl ho hc)
  have zTurn : ∀ s pe s' pe' W, Z s pe W → Z s' pe' (W.putObj (w.heap.size + 1) (.loop (st s' pe'))) := fun s pe s' pe' W hz => by
    rw [hZ] at hz ⊢
    exact ⟨World.putObj_heap_same (Array.getElem?_eq_some_iff.1 hz.1).1, (World.putObj_heap_other (by omega)).trans hz.2⟩
  obtain ⟨W1, hW1⟩ : ∃ W1, W1 = (w.alloc (.deferred (some []))).alloc (.loop (st .ready none)) := ⟨_, rfl⟩
  have hz1 : Z .ready none W1 := by
    rw [hZ, hW1]
    refine ⟨?_, (Below.heap_alloc _ _ _ (by simp)).trans (World.alloc_heap_new w _)⟩
    have := World.alloc_heap_new (w.alloc (.deferred (some []))) (.loop (st .ready none))
    rwa [World.size_alloc] at this
  have hst1 : Step w.heap.size w W1 := by rw [hW1]; exact (Step.alloc (Nat.le_refl _) _).trans (Step.alloc (by simp) _)
  refine ⟨w.heap.size + 1, [{ target := .collected w.heap.size, args := #[] }], W1, { target := .fn (.func gf) lb, args := #[.func (.yield (w.heap.size + 1)) #[] #[]] }, W1, gf,
    #[.func (.yield (w.heap.size + 1)) #[] #[]] ++ lb, W1, ?_, ?_, ?_, ?_, hdeep, ?_⟩
  · rw [hW1, hst]; exact run_enterLoop_outer _ _ _ _ _
  · simp only [resolve, hgv]; simp [go_sem]
  · intro f' hf'; simp [Target.leads] at hf'; subst hf'; exact hin
  · simp [invoke, go_sem, henter]
  refine (hiter (w.heap.size + 1) W1 (Z .ready none) (fun xs W => ∃ c, Ix c xs W ∧ Z .done (some c) W) (fun W W' hk hz => zKeep _ _ _ _ hk hz) (fun W W' hz hs => zStep _ _ _ _ hz hs) (fun s W W' hy hs => by obtain ⟨c, h1, h2⟩ := hy; exact ⟨c, xStep _ _ _ _ h1 (hs.less (by omega)), zStep _ _ _ _ h2 hs⟩) (by omega) (by rw [hW1]; simp) hst1 (iStep _ _ _ iStart hst1) hz1 ?_).mono ?_
  · intro pre x W hi hz hpx hlen
    have hz' := hz
    rw [hZ] at hz'
    have hy := run_yield (P := P) (args := encs x) hz'.1 (by rw [hst]; exact hsize x)
    have hshape : (st .ready none).fn = fn ∧ (st .ready none).tmps = a.tmps ∧ (st .ready none).params = ps ∧ (st .ready none).assign = assign ∧ (st .ready none).body = body := by rw [hst]; exact ⟨rfl, rfl, rfl, rfl, rfl⟩
    obtain ⟨s1, s2, s3, s4, s5⟩ := hshape
    rw [s1, s2, s3, s4, s5] at hy
    refine ⟨fn, _, assign, body, hy, roundIn_of_wpIn hfn (hassign _ pre x W _ hi hpx ?_)⟩
    intro a' Wa hka hkpa hia hax
    have hza := zKeep _ _ _ _ hka hz
    have hza' := hza
    rw [hZ] at hza'
    refine ⟨_, run_beginRound hza'.1 hready, ?_⟩
    rw [hbusy]
    have hzb := zTurn _ _ .busy none Wa hza
    have hzb' := hzb
    rw [hZ] at hzb'
    refine wpIn_mono (hbody _ pre x a' _ (by omega) ⟨_, hzb'.1⟩ (iPut _ _ _ _ _ hia (by omega) hza'.1 rfl) (axPut _ _ _ _ _ _ hax (by omega) hza'.1 rfl) hlen) ?_
    intro e a3 W3 hp
    have fin : ∀ (jump : Option Code), NK w.heap.size (Wa.putObj (w.heap.size + 1) (.loop (st .busy none))) W3 →
        (Instr.endRound (w.heap.size + 1) jump).run P W3 = .ok (.bool jump.isNone) (W3.putObj (w.heap.size + 1) (.loop (st (if jump.isNone then .ready else .done) jump))) ∧
        W3.heap[w.heap.size + 1]? = some (.loop (st .busy none)) ∧ Z (if jump.isNone then .ready else .done) jump (W3.putObj (w.heap.size + 1) (.loop (st (if jump.isNone then .ready else .done) jump))) := fun jump hk3 => by
      have hz3 := zKeep _ _ _ _ hk3 hzb
      have hz3' := hz3
      rw [hZ] at hz3'
      have hend := run_endRound (P := P) jump hz3'.1
      rw [hend0] at hend
      exact ⟨hend, hz3'.1, zTurn _ _ _ _ W3 hz3⟩
    have hnk : ∀ {oo : Obj}, NK w.heap.size (Wa.putObj (w.heap.size + 1) (.loop (st .busy none))) W3 → NK (w.heap.size + 2) W (W3.putObj (w.heap.size + 1) oo) := fun {oo} h3 => (((hka.more (by omega)).trans (NK.put (by omega))).trans (h3.more (by omega))).trans (NK.put (by omega))
    cases e with
    | normal =>
      obtain ⟨hk3, hkp3, hi3⟩ := hp
      obtain ⟨hr, hl3, hz4⟩ := fin none hk3
      refine ⟨_, _, hr, .inl ⟨rfl, ?_, hz4, ?_, hnk hk3⟩⟩
      · exact iPut _ _ _ _ _ hi3 (by omega) hl3 rfl
      · exact kTrans hkpa (kTrans (kTrans (kPut _ _ _ _ (by omega) hza'.1 rfl) hkp3) (kPut _ _ _ _ (by omega) hl3 rfl))
    | ret =>
      obtain ⟨hk3, hi3⟩ := hp
      obtain ⟨hr, hl3, hz4⟩ := fin (some .ret) hk3
      exact ⟨_, _, hr, .inr ⟨rfl, ⟨.ret, xPut _ _ _ _ _ _ hi3 (by omega) hl3 rfl, hz4⟩, hnk hk3⟩⟩
    | exit id =>
      obtain ⟨hk3, hi3⟩ := hp
      obtain ⟨hr, hl3, hz4⟩ := fin (some (.exit id)) hk3
      exact ⟨_, _, hr, .inr ⟨rfl, ⟨.exit id, xPut _ _ _ _ _ _ hi3 (by omega) hl3 rfl, hz4⟩, hnk hk3⟩⟩
    | goto t =>
      obtain ⟨hk3, hi3⟩ := hp
      obtain ⟨hr, hl3, hz4⟩ := fin (some (.goto t)) hk3
      exact ⟨_, _, hr, .inr ⟨rfl, ⟨.goto t, xPut _ _ _ _ _ _ hi3 (by omega) hl3 rfl, hz4⟩, hnk hk3⟩⟩
    | panic _ => exact hp.elim
    | outgrown => exact hp.elim
  · rintro e W2 ⟨⟨v, rfl⟩, (⟨xs, hS, hi, hz⟩ | ⟨xs, hS, c, hi, hz⟩)⟩
    · have hz' := hz
      rw [hZ] at hz'
      have hend := run_endLoop (P := P) hz'.1 (by rw [hready]; simp)
      have hpend : (st .ready none).pending = none := by rw [hst]
      rw [hpend] at hend
      exact ⟨none, _, hend, hdone _ xs _ (Nat.le_refl _) hS (iPut _ _ _ _ _ hi (by omega) hz'.1 rfl) ((World.putObj_heap_other (by omega)).trans hz'.2)⟩
    · have hz' := hz
      rw [hZ] at hz'
      have hend := run_endLoop (P := P) hz'.1 (by rw [hst]; simp)
      have hpend : (st .done (some c)).pending = some c := by rw [hst]
      rw [hpend] at hend
      exact ⟨some c, _, hend, hstop _ c xs _ (Nat.le_refl _) hS (xPut _ _ _ _ _ _ hi (by omega) hz'.1 rfl) ((World.putObj_heap_other (by omega)).trans hz'.2)⟩
end
end Go.Proofs.Ytepcafkgpkbimaa
