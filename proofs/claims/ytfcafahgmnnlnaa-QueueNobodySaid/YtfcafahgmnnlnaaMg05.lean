/- Parts SeqM ScopeIn Marks Q7 of one proof. -/
import Derived.Test.YtfcafahgmnnlnaaMg04
import Derived.WalkMore
import Derived.Shelf.Abstract
import Derived.Shelf.RegionOpen
import Derived.WalkKit
import Derived.OwnWalkIn
import Derived.TacticsInMore
import Derived.LoopNIn
import Derived.LoopIn
namespace Go.Proofs.Ytfcafahgmnnlnaa
open Go Go.RowKit
set_option linter.unusedVariables false

section
variable {F : Fence} {n : Nat} {P : Program}

theorem wpIn_rangeFunc_leaveM {α : Type} {g : Operand} {ps : Array Tmp} {assign body : Code} {Q : Exit → Act → World → Prop} {a : Act} {w : World}
    (hround : F.round = none) (hdeep : 1 ≤ n) {gf : Nat} {rb lb : Array Value} (hgv : a.eval g = .func (.func gf) rb lb) (hin : F.fn gf) (henter : ∀ args w, (callFunc gf args).run P w = .ok (.enter gf args) w)
    {encs : α → Array Value} (hsize : ∀ x, (encs x).size = ps.size) (Kp : World → World → Prop) (I : List α → World → Prop) (Ix : Code → List α → World → Prop) (X : List α → α → World → Prop) (S Sp : List α → Prop) (N : Nat)
    (kTrans : ∀ {A B C : World}, Kp A B → Kp B C → Kp A C)
    (kPut : ∀ (W : World) (l : Nat) (o o' : Obj), w.heap.size ≤ l → W.heap[l]? = some o → o.isCells = false → Kp W (W.putObj l o'))
    (iPut : ∀ (s : List α) (W : World) (l : Nat) (o o' : Obj), I s W → w.heap.size ≤ l → W.heap[l]? = some o → o.isCells = false → I s (W.putObj l o'))
    (xPut : ∀ (c : Code) (s : List α) (W : World) (l : Nat) (o o' : Obj), Ix c s W → w.heap.size ≤ l → W.heap[l]? = some o → o.isCells = false → Ix c s (W.putObj l o'))
    (iStart : ∀ o o' : Obj, I [] ((w.alloc o).alloc o'))
    (hiter : ∀ (l : Nat) (W1 : World) (Z : World → Prop) (Y : List α → World → Prop), (∀ W W', KeepsOthers W W' → Z W → Z W') → Below w.heap.size w W1 → I [] W1 → Z W1 →
      (∀ pre x W, I pre W → Z W → X pre x W → pre.length < N → YieldAt F (n - 1 - 1) P l (encs x) W fun e W' =>
        (e = .returned (.bool true) ∧ I (pre ++ [x]) W' ∧ Z W' ∧ Kp W W') ∨ (e = .returned (.bool false) ∧ Y (pre ++ [x]) W')) →
      CallsIn F (n - 1) P gf (rb ++ #[.func (.yield l) #[] #[]] ++ lb) W1 fun e W' => (∃ v, e = .returned v) ∧ ((∃ xs, S xs ∧ I xs W' ∧ Z W') ∨ (∃ xs, Sp xs ∧ Y xs W')))
    (Ax : List α → α → Act → World → Prop) (axPut : ∀ (pre : List α) (x : α) (a' : Act) (W : World) (l : Nat) (o o' : Obj), Ax pre x a' W → w.heap.size ≤ l → W.heap[l]? = some o → o.isCells = false → Ax pre x a' (W.putObj l o'))
    (hassign : ∀ (l : Nat) (pre : List α) (x : α) (W : World) (K : Act → World → Prop), I pre W → X pre x W → (∀ a' W', KeepsOthers W W' → Kp W W' → I pre W' → Ax pre x a' W' → K a' W') →
      assign.wpIn (F.inRound l) (n - 1 - 1) P (Exit.then K (fun _ _ _ => False)) { tmps := (ps.zip (encs x)).foldl (fun t (p, v) => t.setIfInBounds p v) a.tmps, defers := [] } W)
    (hbody : ∀ (l : Nat) (pre : List α) (x : α) (a' : Act) (W : World), w.heap.size ≤ l → (∃ r, W.heap[l]? = some (.loop r)) → I pre W → Ax pre x a' W → pre.length < N → body.wpIn (F.inRound l) (n - 1 - 1) P (LeavesOn Kp I Ix (pre ++ [x]) W) a' W)
    (hdone : ∀ (D : Nat) (xs : List α) (W : World), w.heap.size ≤ D → S xs → I xs W → W.heap[D]? = some (.deferred (some [])) → Q .normal { a with defers := { target := .collected D, args := #[] } :: a.defers } W)
    (hstop : ∀ (D : Nat) (c : Code) (xs : List α) (W : World), w.heap.size ≤ D → Sp xs → Ix c xs W → W.heap[D]? = some (.deferred (some [])) → c.wpIn F n P Q { a with defers := { target := .collected D, args := #[] } :: a.defers } W) :
    (Code.rangeFunc g ps assign body).wpIn F n P Q a w := by
  refine wpIn_rangeFunc fun fn hfn => ?_
  rw [hround]
  -- the record, at each of its states
  obtain ⟨st, hst⟩ : ∃ st : LoopState → Option Code → Loop, st = fun s pe => { state := s, pending := pe, fn, tmps := a.tmps, params := ps, assign, body, defers := w.heap.size } := ⟨_, rfl⟩
  have hready : (st .ready none).state = .ready := by rw [hst]
  have hbusy : ({ st .ready none with state := .busy } : Loop) = st .busy none := by rw [hst]
  have hend0 : ∀ j, ({ st .busy none with state := if j.isNone then .ready else .done, pending := j } : Loop) = st (if j.isNone then .ready else .done) j := by intro j; rw [hst]
  -- what the iterator must leave alone
  obtain ⟨Z, hZ⟩ : ∃ Z : LoopState → Option Code → World → Prop, Z = fun s pe W => W.heap[w.heap.size + 1]? = some (.loop (st s pe)) ∧ W.heap[w.heap.size]? = some (.deferred (some [])) := ⟨_, rfl⟩
  have zKeep : ∀ s pe W W', KeepsOthers W W' → Z s pe W → Z s pe W' := fun s pe W W' hk hz => by
    rw [hZ] at hz ⊢; exact ⟨hk.same _ _ hz.1 rfl, hk.same _ _ hz.2 rfl⟩
  have zTurn : ∀ s pe s' pe' W, Z s pe W → Z s' pe' (W.putObj (w.heap.size + 1) (.loop (st s' pe'))) := fun s pe s' pe' W hz => by
    rw [hZ] at hz ⊢
    exact ⟨World.putObj_heap_same (Array.getElem?_eq_some_iff.1 hz.1).1, (World.putObj_heap_other (by omega)).trans hz.2⟩
  obtain ⟨W1, hW1⟩ : ∃ W1, W1 = (w.alloc (.deferred (some []))).alloc (.loop (st .ready none)) := ⟨_, rfl⟩
  have hz1 : Z .ready none W1 := by
    rw [hZ, hW1]
    refine ⟨?_, (Below.heap_alloc _ _ _ (by simp)).trans (World.alloc_heap_new w _)⟩
    have := World.alloc_heap_new (w.alloc (.deferred (some []))) (.loop (st .ready none))
    rwa [World.size_alloc] at this
  have hb1 : Below w.heap.size w W1 := by rw [hW1]; exact ((Below.refl _ w).alloc (Nat.le_refl _) _).alloc (by simp) _
  refine ⟨w.heap.size + 1, [{ target := .collected w.heap.size, args := #[] }], W1, { target := .fn (.func gf) lb, args := rb ++ #[.func (.yield (w.heap.size + 1)) #[] #[]] }, W1, gf,
    rb ++ #[.func (.yield (w.heap.size + 1)) #[] #[]] ++ lb, W1, ?_, ?_, ?_, ?_, fun _ => hdeep, ?_⟩
  · rw [hW1, hst]; exact run_enterLoop_outer _ _ _ _ _
  · simp only [resolve, hgv]; simp [go_sem]
  · intro f' hf'; simp [Target.leads] at hf'; subst hf'; exact hin
  · simp [invoke, go_sem, henter]
  refine (hiter (w.heap.size + 1) W1 (Z .ready none) (fun xs W => ∃ c, Ix c xs W ∧ Z .done (some c) W) (fun W W' hk hz => zKeep _ _ _ _ hk hz) hb1 (by rw [hW1]; exact iStart _ _) hz1 ?_).mono ?_
  · intro pre x W hi hz hX hlen
    have hz' := hz
    rw [hZ] at hz'
    have hy := run_yield (P := P) (args := encs x) hz'.1 (by rw [hst]; exact hsize x)
    have hshape : (st .ready none).fn = fn ∧ (st .ready none).tmps = a.tmps ∧ (st .ready none).params = ps ∧ (st .ready none).assign = assign ∧ (st .ready none).body = body := by rw [hst]; exact ⟨rfl, rfl, rfl, rfl, rfl⟩
    obtain ⟨s1, s2, s3, s4, s5⟩ := hshape
    rw [s1, s2, s3, s4, s5] at hy
    refine ⟨fn, _, assign, body, hy, roundIn_of_wpIn hfn (hassign _ pre x W _ hi hX ?_)⟩
    intro a' Wa hka hkpa hia hax
    have hza := zKeep _ _ _ _ hka hz
    have hza' := hza
    rw [hZ] at hza'
    refine ⟨_, run_beginRound hza'.1 hready, ?_⟩
    rw [hbusy]
    have hzb := zTurn _ _ .busy none Wa hza
    have hzb' := hzb
    rw [hZ] at hzb'
    refine wpIn_mono (hbody _ pre x a' _ (by omega) ⟨_, hzb'.1⟩ (iPut _ _ _ _ _ hia (by omega) hza'.1 rfl) (axPut _ _ _ _ _ _ _ hax (by omega) hza'.1 rfl) hlen) ?_
    intro e a3 W3 hp
    have fin : ∀ (jump : Option Code), KeepsOthers (Wa.putObj (w.heap.size + 1) (.loop (st .busy none))) W3 →
        (Instr.endRound (w.heap.size + 1) jump).run P W3 = .ok (.bool jump.isNone) (W3.putObj (w.heap.size + 1) (.loop (st (if jump.isNone then .ready else .done) jump))) ∧
        W3.heap[w.heap.size + 1]? = some (.loop (st .busy none)) ∧ Z (if jump.isNone then .ready else .done) jump (W3.putObj (w.heap.size + 1) (.loop (st (if jump.isNone then .ready else .done) jump))) := fun jump hk3 => by
      have hz3 := zKeep _ _ _ _ hk3 hzb
      have hz3' := hz3
      rw [hZ] at hz3'
      have hend := run_endRound (P := P) jump hz3'.1
      rw [hend0] at hend
      exact ⟨hend, hz3'.1, zTurn _ _ _ _ W3 hz3⟩
    cases e with
    | normal =>
      obtain ⟨hk3, hkp3, hi3⟩ := hp
      obtain ⟨hr, hl3, hz4⟩ := fin none hk3
      refine ⟨_, _, hr, .inl ⟨rfl, ?_, hz4, ?_⟩⟩
      · exact iPut _ _ _ _ _ hi3 (by omega) hl3 rfl
      · exact kTrans hkpa (kTrans (kTrans (kPut _ _ _ _ (by omega) hza'.1 rfl) hkp3) (kPut _ _ _ _ (by omega) hl3 rfl))
    | ret =>
      obtain ⟨hk3, hi3⟩ := hp
      obtain ⟨hr, hl3, hz4⟩ := fin (some .ret) hk3
      exact ⟨_, _, hr, .inr ⟨rfl, .ret, xPut _ _ _ _ _ _ hi3 (by omega) hl3 rfl, hz4⟩⟩
    | exit id =>
      obtain ⟨hk3, hi3⟩ := hp
      obtain ⟨hr, hl3, hz4⟩ := fin (some (.exit id)) hk3
      exact ⟨_, _, hr, .inr ⟨rfl, .exit id, xPut _ _ _ _ _ _ hi3 (by omega) hl3 rfl, hz4⟩⟩
    | goto t =>
      obtain ⟨hk3, hi3⟩ := hp
      obtain ⟨hr, hl3, hz4⟩ := fin (some (.goto t)) hk3
      exact ⟨_, _, hr, .inr ⟨rfl, .goto t, xPut _ _ _ _ _ _ hi3 (by omega) hl3 rfl, hz4⟩⟩
    | panic _ => exact hp.elim
    | outgrown => exact hp.elim
  · rintro e W2 ⟨⟨v, rfl⟩, (⟨xs, hS, hi, hz⟩ | ⟨xs, hS, c, hi, hz⟩)⟩
    · have hz' := hz
      rw [hZ] at hz'
      have hend := run_endLoop (P := P) hz'.1 (by rw [hready]; simp)
      have hpend : (st .ready none).pending = none := by rw [hst]
      rw [hpend] at hend
      exact ⟨none, _, hend, hdone _ xs _ (Nat.le_refl _) hS (iPut _ _ _ _ _ hi (by omega) hz'.1 rfl) ((World.putObj_heap_other (by omega)).trans hz'.2)⟩
    · have hz' := hz
      rw [hZ] at hz'
      have hend := run_endLoop (P := P) hz'.1 (by rw [hst]; simp)
      have hpend : (st .done (some c)).pending = some c := by rw [hst]
      rw [hpend] at hend
      exact ⟨some c, _, hend, hstop _ c xs _ (Nat.le_refl _) hS (xPut _ _ _ _ _ _ hi (by omega) hz'.1 rfl) ((World.putObj_heap_other (by omega)).trans hz'.2)⟩
end
end Go.Proofs.Ytfcafahgmnnlnaa

namespace Go.Proofs.Ytfcafahgmnnlnaa
open Go Go.RowKit
set_option linter.unusedVariables false

section
variable {F : Fence} {n : Nat} {P : Program} {b : Frame} {a : Act} {k : List Item} {cs : List Frame} {w : World} {Q : Exit → Act → World → Prop}
theorem stepR_scope {c : Code} : step P (lone (b.atR a (.code (.scope c) :: k)) cs w) = .next (lone (b.atR a (.code c :: .inScope c :: k)) cs w) :=
  step_lone_go (by simp [stepG, stepG.exec, Frame.atR])
theorem stepR_inScope {c : Code} : step P (lone (b.atR a (.inScope c :: k)) cs w) = .next (lone (b.atR a k) cs w) :=
  step_lone_go (by simp [stepG, stepG.exec, Frame.atR])
theorem wpIn_scope_straight {c : Code} (h : c.wpIn F n P (Exit.noGoto Q) a w) : (Code.scope c).wpIn F n P Q a w := by
  intro b k cs hro hb hr
  have h0 : (lone (b.atR a (.code (.scope c) :: k)) cs w).fenced P F := fenced_calm hb hr rfl
  obtain ⟨e, a₁, w₁, hq, harr⟩ := h b (.inScope c :: k) cs hro hb hr
  cases e with
  | normal => exact ⟨.normal, a₁, w₁, hq, .head h0 stepR_scope (StepsIn.trans harr (.one (fenced_calm hb hr rfl) stepR_inScope))⟩
  | exit id =>
    refine ⟨.exit id, a₁, w₁, hq, fun k' hk => .head h0 stepR_scope (harr.1 k' (by simp [exitTo, hk])), fun hs hk => ?_⟩
    obtain ⟨k₁, h1, h2⟩ := harr.2 hs (by simp [exitTo, hk])
    exact ⟨k₁, h1, .head h0 stepR_scope h2⟩
  | goto l => exact hq.elim
  | ret => exact ⟨_, a₁, w₁, hq, .of_steps (.one h0 stepR_scope) harr⟩
  | panic ch => exact ⟨_, a₁, w₁, hq, .of_steps (.one h0 stepR_scope) harr⟩
  | outgrown => exact ⟨_, a₁, w₁, hq, .of_steps (.one h0 stepR_scope) harr⟩
end
end Go.Proofs.Ytfcafahgmnnlnaa

namespace Go.Proofs.Ytfcafahgmnnlnaa
open Go Go.RowKit
set_option linter.unusedVariables false

/-- The marks among the deferred calls. -/
def mk (Ds : List Nat) : List Deferred := Ds.map fun D => { target := .collected D, args := #[] }
/-- Their blocks: each is there, and no two are one. -/
def MarksAt (W : World) (lo : Nat) (Ds : List Nat) : Prop := (∀ D ∈ Ds, lo ≤ D ∧ W.heap[D]? = some (.deferred (some []))) ∧ Ds.Nodup
/-- The world behind them. -/
def taken (W : World) (Ds : List Nat) : World := Ds.foldl (fun W D => W.putObj D (.deferred none)) W

section
variable {W W' : World} {lo : Nat} {Ds : List Nat}
theorem MarksAt.nil (W : World) (lo : Nat) : MarksAt W lo [] := ⟨fun D h => by simp at h, List.nodup_nil⟩
theorem MarksAt.keep (h : MarksAt W lo Ds) (hk : KeepsOthers W W') : MarksAt W' lo Ds := ⟨fun D hD => ⟨(h.1 D hD).1, hk.same _ _ (h.1 D hD).2 rfl⟩, h.2⟩
theorem MarksAt.cons {D : Nat} (h : MarksAt W lo Ds) (hD : lo ≤ D) (hW : W.heap[D]? = some (.deferred (some []))) (hn : ∀ E ∈ Ds, E ≠ D) : MarksAt W lo (D :: Ds) :=
  ⟨fun E hE => by
    rcases List.mem_cons.1 hE with rfl | h2
    · exact ⟨hD, hW⟩
    · exact h.1 E h2, List.nodup_cons.2 ⟨fun hm => hn D hm rfl, h.2⟩⟩
theorem taken_heap (k : Nat) : ∀ (Ds : List Nat) (W : World), k ∉ Ds → (taken W Ds).heap[k]? = W.heap[k]? := by
  intro Ds
  induction Ds with
  | nil => intro W _; rfl
  | cons D Ds ih =>
    intro W hk
    have h1 : k ≠ D := fun e => hk (by simp [e])
    have h2 : k ∉ Ds := fun e => hk (by simp [e])
    exact (ih _ h2).trans (World.putObj_heap_other h1)
theorem taken_same : ∀ (Ds : List Nat) (W : World), (taken W Ds).os = W.os ∧ (taken W Ds).tape = W.tape ∧ (taken W Ds).output = W.output ∧ (taken W Ds).heap.size = W.heap.size := by
  intro Ds
  induction Ds with
  | nil => intro W; exact ⟨rfl, rfl, rfl, rfl⟩
  | cons D Ds ih =>
    intro W
    obtain ⟨h1, h2, h3, h4⟩ := ih (W.putObj D (.deferred none))
    exact ⟨h1, h2, h3, h4.trans (by rw [World.putObj_size])⟩
theorem taken_below {B : Nat} (hB : ∀ D ∈ Ds, B ≤ D) : Below B W (taken W Ds) := by
  obtain ⟨h1, h2, h3, h4⟩ := taken_same Ds W
  exact ⟨h1, h2, h3, by omega, fun k hk => taken_heap k Ds W (fun hm => by have := hB k hm; omega)⟩
/-- Cells stay as they lie. -/
theorem taken_cells (h : MarksAt W lo Ds) {k : Nat} {o : Obj} (ho : W.heap[k]? = some o) (hc : o.isCells = true) : (taken W Ds).heap[k]? = some o :=
  (taken_heap k Ds W (fun hm => by have := (h.1 k hm).2; rw [ho] at this; cases this; cases hc)).trans ho
theorem taken_cell? (h : MarksAt W lo Ds) {p : Addr} {v : Value} (hp : W.cell? p = some v) : (taken W Ds).cell? p = some v := by
  have hc : (taken W Ds).heap[p.block]? = W.heap[p.block]? := taken_heap p.block Ds W (fun hm => by
    have h2 := (h.1 _ hm).2
    unfold World.cell? at hp
    rw [h2] at hp
    simp at hp)
  rw [← hp]
  unfold World.cell?
  rw [hc]

variable {F : Fence} {n : Nat} {P : Program} {fn : Func} {tmps : Array Value} {R : Ending → World → Prop}
theorem leaves_marks : ∀ (Ds : List Nat) (W : World), MarksAt W lo Ds → (∃ v, (results fn tmps).run P (taken W Ds) = .ok v (taken W Ds) ∧ R (.returned v) (taken W Ds)) → LeavesInM F n P fn tmps R (mk Ds) .returning W := by
  intro Ds
  induction Ds with
  | nil =>
    intro W _ h
    exact h
  | cons D Ds ih =>
    intro W h hR
    refine ⟨by simp, .inl ⟨D, _, rfl, run_takeDeferred (h.1 D (by simp)).2, ?_⟩⟩
    have hnd := List.nodup_cons.1 h.2
    refine ih _ ⟨fun E hE => ⟨(h.1 E (by simp [hE])).1, ?_⟩, hnd.2⟩ hR
    exact (World.putObj_heap_other (fun e => hnd.1 (by rw [← e]; exact hE))).trans (h.1 E (by simp [hE])).2
end
end Go.Proofs.Ytfcafahgmnnlnaa

namespace Go.Proofs.Ytfcafahgmnnlnaa.Qu
open Go.RowKit Go.Shelf Go.Maps
attribute [local go_sem] Oper.semAt_some
set_option linter.unusedVariables false
set_option linter.unusedSimpArgs false

theorem keepsOthers_below {W W' : World} (h : Below W.heap.size W W') : KeepsOthers W W' := ⟨h.size, fun k o hk _ => (h.block k (Array.getElem?_eq_some_iff.1 hk).1).trans hk⟩
def encI (x : Nat × IT) : Array Value := #[.int .i64 x.1, x.2.val]
set_option maxRecDepth 100000 in
set_option maxHeartbeats 2000000 in
theorem each_in (n : Nat) (hn : 2 ≤ n) (l g of : Nat) (A : Option Addr) (L : List IT) (nL c : Nat) (hN : Hid (nL = L.length)) (hm : nL ≤ 100)
    (J : Nat → World → Prop) (Y : Nat → World → Prop) (hJ : ∀ s W W', Below W.heap.size W W' → J s W → J s W') (hA : ∀ s W, J s W → ItAt W anyB A L)
    (hY : ∀ (i : Nat) (h : i < L.length) (W : World), J i W → YieldAt Fence.wide (n - 1) Try.prog l (encI (i, L[i]'h)) W fun e W' => (e = .returned (.bool true) ∧ J (i + 1) W') ∨ (e = .returned (.bool false) ∧ Y i W'))
    (W : World) (hq : W.cell? ⟨g, of, none⟩ = some (.slice A nL c)) (h0 : J 0 W) :
    CallsIn Fence.wide n Try.prog 38 #[.pointer (some ⟨g, of, none⟩), .func (.yield l) #[] #[]] W fun e W' => (∃ v, e = .returned v) ∧ (J L.length W' ∨ ∃ i, i < L.length ∧ Y i W') := by
  refine callsIn_of_wp Try.func38 rfl trivial ?_ rfl
  simp only [Try.ntmps38, List.size_toArray, List.length_cons, List.length_nil, Nat.reduceAdd, Nat.reduceSub, Array.replicate_succ, Array.replicate_zero, List.push_toArray, List.append_toArray, List.nil_append, List.cons_append]
  gi_wp2
  gi_loopw [11] (fun a wr => ∃ (i0 : Nat), i0 ≤ nL ∧ a = .int .i64 i0 ∧ J i0 wr) (fun a _ => nL - (intOf a).toNat)
  case atStart => exact ⟨0, Nat.zero_le _, rfl, h0⟩
  case round =>
    obtain ⟨i0, hi, rfl, hJ1⟩ := hrel
    by_cases hin : i0 < nL
    · have hiI : (i0 : Int) < (nL : Int) := by omega
      have hil : i0 < L.length := by rw [← hN.out]; exact hin
      obtain ⟨b, o, rfl, _, hcs⟩ := (hA i0 wr hJ1) (by omega)
      obtain ⟨q0, q1, q2⟩ := hcs i0 hil
      have hYi := hY i0 hil
      obtain ⟨x, hx⟩ : ∃ x, x = L[i0]'hil := ⟨_, rfl⟩
      rw [← hx] at q0 q1 q2 hYi
      obtain ⟨xn, xv, xt⟩ := x
      dsimp only at q0 q1 q2
      obtain ⟨wA, hwA⟩ : ∃ wA, wA = wr.alloc (.cells #[.int .i64 xn, .int .u64 (xv : Nat), .int .i64 xt] 71) := ⟨_, rfl⟩
      have bA : Below wr.heap.size wr wA := by rw [hwA]; exact ba _ _
      have kA : Blk wA wr.heap.size 71 #[.int .i64 xn, .int .u64 (xv : Nat), .int .i64 xt] := by rw [hwA]; exact Blk.new _ _ _
      have e0 := kA.cell 0
      have e1 := kA.cell 1
      have e2 := kA.cell 2
      simp only [List.getElem?_toArray, List.getElem?_cons_zero, List.getElem?_cons_succ] at e0 e1 e2
      obtain ⟨fn, tmps, assign, body, hy, hR⟩ := hYi wA (hJ i0 _ _ bA hJ1)
      have henc : encI (i0, (⟨xn, xv, xt⟩ : IT)) = #[.int .i64 i0, .agg #[.int .i64 xn, .int .u64 (xv : Nat), .int .i64 xt]] := rfl
      rw [henc] at hy
      rw [hwA] at e0 e1 e2 hy
      have HR := Lib.hid hR
      have HWA := Lib.hid hwA
      rw [hwA] at hR
      clear hcs hx hJ1 hwA bA kA hYi henc
      gi_wp2
      refine ⟨fun _ => by omega, hR.mono ?_⟩
      rintro e W3 (⟨rfl, hJ3⟩ | ⟨rfl, hY3⟩)
      · clear hy hR HR q0 q1 q2 e0 e1 e2
        gi_wp2
        exact ⟨⟨i0 + 1, by omega, by go_num, hJ3⟩, by simp [intOf]; omega⟩
      · clear hy hR HR q0 q1 q2 e0 e1 e2
        gi_wp2
        (try simp only [Exit.inBlock, Exit.then]); refine bodyPost_ret (results_none rfl _ _ _) rfl ?_
        exact ⟨⟨_, rfl⟩, .inr ⟨i0, hil, hY3⟩⟩
    · obtain rfl : i0 = nL := by omega
      have hiI : ¬ (i0 : Int) < (i0 : Int) := by omega
      gi_wp2
      go_end0
      exact ⟨⟨_, rfl⟩, .inl (by rw [← hN.out]; exact hJ1)⟩
end Go.Proofs.Ytfcafahgmnnlnaa.Qu
