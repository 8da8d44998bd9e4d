/- Parts Marks of one proof. -/
import Derived.Test.YtlliaihmfimdoaaMg15
namespace Go.Proofs.Ytlliaihmfimdoaa
open Go Go.RowKit
set_option linter.unusedVariables false

/-- The marks among the deferred calls. -/
def mk (Ds : List Nat) : List Deferred := Ds.map fun D => { target := .collected D, args := #[] }
/-- Their blocks: each is there, and no two are one. -/
def MarksAt (W : World) (lo : Nat) (Ds : List Nat) : Prop := (∀ D ∈ Ds, lo ≤ D ∧ W.heap[D]? = some (.deferred (some []))) ∧ Ds.Nodup
/-- The world behind them. -/
def taken (W : World) (Ds : List Nat) : World := Ds.foldl (fun W D => W.putObj D (.deferred none)) W

section
variable {W W' : World} {lo : Nat} {Ds : List Nat}
theorem MarksAt.nil (W : World) (lo : Nat) : MarksAt W lo [] := ⟨fun D h => by simp at h, List.nodup_nil⟩
theorem MarksAt.keep (h : MarksAt W lo Ds) (hk : KeepsOthers W W') : MarksAt W' lo Ds := ⟨fun D hD => ⟨(h.1 D hD).1, hk.same _ _ (h.1 D hD).2 rfl⟩, h.2⟩
theorem MarksAt.cons {D : Nat} (h : MarksAt W lo Ds) (hD : lo ≤ D) (hW : W.heap[D]? = some (.deferred (some []))) (hn : ∀ E ∈ Ds, E ≠ D) : MarksAt W lo (D :: Ds) :=
  ⟨fun E hE => by
    rcases List.mem_cons.1 hE with rfl | h2
    · exact ⟨hD, hW⟩
    · exact h.1 E h2, List.nodup_cons.2 ⟨fun hm => hn D hm rfl, h.2⟩⟩
theorem taken_heap (k : Nat) : ∀ (Ds : List Nat) (W : World), k ∉ Ds → (taken W Ds).heap[k]? = W.heap[k]? := by
  intro Ds
  induction Ds with
  | nil => intro W _; rfl
  | cons D Ds ih =>
    intro W hk
    have h1 : k ≠ D := fun e => hk (by simp [e])
    have h2 : k ∉ Ds := fun e => hk (by simp [e])
    exact (ih _ h2).trans (World.putObj_heap_other h1)
theorem taken_same : ∀ (Ds : List Nat) (W : World), (taken W Ds).os = W.os ∧ (taken W Ds).tape = W.tape ∧ (taken W Ds).output = W.output ∧ (taken W Ds).heap.size = W.heap.size := by
  intro Ds
  induction Ds with
  | nil => intro W; exact ⟨rfl, rfl, rfl, rfl⟩
  | cons D Ds ih =>
    intro W
    obtain ⟨h1, h2, h3, h4⟩ := ih (W.putObj D (.deferred none))
    exact ⟨h1, h2, h3, h4.trans (by rw [World.putObj_size])⟩
theorem taken_below {B : Nat} (hB : ∀ D ∈ Ds, B ≤ D) : Below B W (taken W Ds) := by
  obtain ⟨h1, h2, h3, h4⟩ := taken_same Ds W
  exact ⟨h1, h2, h3, by omega, fun k hk => taken_heap k Ds W (fun hm => by have := hB k hm; omega)⟩
/-- Cells stay as they lie. -/
theorem taken_cells (h : MarksAt W lo Ds) {k : Nat} {o : Obj} (ho : W.heap[k]? = some o) (hc : o.isCells = true) : (taken W Ds).heap[k]? = some o :=
  (taken_heap k Ds W (fun hm => by have := (h.1 k hm).2; rw [ho] at this; cases this; cases hc)).trans ho
theorem taken_cell? (h : MarksAt W lo Ds) {p : Addr} {v : Value} (hp : W.cell? p = some v) : (taken W Ds).cell? p = some v := by
  have hc : (taken W Ds).heap[p.block]? = W.heap[p.block]? := taken_heap p.block Ds W (fun hm => by
    have h2 := (h.1 _ hm).2
    unfold World.cell? at hp
    rw [h2] at hp
    simp at hp)
  rw [← hp]
  unfold World.cell?
  rw [hc]

variable {F : Fence} {n : Nat} {P : Program} {fn : Func} {tmps : Array Value} {R : Ending → World → Prop}
theorem leaves_marks : ∀ (Ds : List Nat) (W : World), MarksAt W lo Ds → (∃ v, (results fn tmps).run P (taken W Ds) = .ok v (taken W Ds) ∧ R (.returned v) (taken W Ds)) → LeavesInM F n P fn tmps R (mk Ds) .returning W := by
  intro Ds
  induction Ds with
  | nil =>
    intro W _ h
    exact h
  | cons D Ds ih =>
    intro W h hR
    refine ⟨by simp, .inl ⟨D, _, rfl, run_takeDeferred (h.1 D (by simp)).2, ?_⟩⟩
    have hnd := List.nodup_cons.1 h.2
    refine ih _ ⟨fun E hE => ⟨(h.1 E (by simp [hE])).1, ?_⟩, hnd.2⟩ hR
    exact (World.putObj_heap_other (fun e => hnd.1 (by rw [← e]; exact hE))).trans (h.1 E (by simp [hE])).2
end
end Go.Proofs.Ytlliaihmfimdoaa
