/- Layer 16: trees of votes as forests; the function that yields their nodes. -/
import Derived.Test.YtepcafkgpkbimaaUn
import Derived.Test.YtepcafkgpkbimaaMarks
import Derived.Test.YtepcafkgpkbimaaBlk
import Derived.Test.YtepcafkgpkbimaaProg
import Derived.Shelf.Abstract
import Derived.Shelf.RegionOpen
import Derived.WalkKit
import Derived.OwnWalkIn
import Derived.TacticsInMore
import Derived.LoopNIn
import Derived.LoopIn
namespace Go.Proofs.Ytepcafkgpkbimaa
open Go.RowKit Go.Shelf
attribute [local go_sem] Oper.semAt_some
set_option linter.unusedVariables false
set_option linter.unusedSimpArgs false

/-- Trees beside each other: the first one's vote and kids, and the others. -/
inductive Fo where
  | nil
  | cons (v : Int) (k : Fo) (r : Fo)
def Fo.len : Fo → Nat
  | .nil => 0
  | .cons _ _ r => r.len + 1
def Fo.cnt : Fo → Nat
  | .nil => 0
  | .cons _ k r => 1 + k.cnt + r.cnt
/-- The forest lies from the slice's beginning on. -/
def FoAt (w : World) (B : Nat) : Fo → Option Addr → Prop
  | .nil, _ => True
  | .cons v k r, A => ∃ (b o : Nat) (A' : Option Addr) (c' : Nat), A = some ⟨b, o, none⟩ ∧ b < B ∧ w.cell? ⟨b, o, none⟩ = some (.int .i64 v) ∧ w.cell? ⟨b, o + 1, none⟩ = some (.slice A' k.len c') ∧ k.len ≤ maxLen ∧ FoAt w B k A' ∧ FoAt w B r (some ⟨b, o + 2, none⟩)
theorem FoAt.keep {w w' : World} {B : Nat} (hk : ∀ b, b < B → ∀ o, w.heap[b]? = some o → o.isCells = true → w'.heap[b]? = some o) : ∀ {f : Fo} {A : Option Addr}, FoAt w B f A → FoAt w' B f A := by
  have hc : ∀ {p : Addr} {v : Value}, p.block < B → w.cell? p = some v → w'.cell? p = some v := by
    intro p v hp h
    have h1 := h
    unfold World.cell? at h
    rcases h2 : w.heap[p.block]? with _ | o
    · rw [h2] at h; simp at h
    · have h3 : o.isCells = true := by rw [h2] at h; cases o <;> simp at h; rfl
      rw [← h1]
      unfold World.cell?
      rw [hk _ hp o h2 h3, h2]
  intro f
  induction f with
  | nil => intro A _; trivial
  | cons v k r ih1 ih2 =>
    rintro A ⟨b, o, A', c', e, hb, h1, h2, hm, h3, h4⟩
    exact ⟨b, o, A', c', e, hb, hc hb h1, hc hb h2, hm, ih1 h3, ih2 h4⟩
theorem FoAt.below {w w' : World} {B : Nat} {f : Fo} {A : Option Addr} (h : FoAt w B f A) (hb : Below B w w') : FoAt w' B f A := h.keep fun b hl o ho _ => (hb.block b hl).trans ho
theorem FoAt.step {w w' : World} {B B' : Nat} {f : Fo} {A : Option Addr} (h : FoAt w B f A) (hs : Step B' w w') : FoAt w' B f A := h.keep fun b _ o ho hc => hs.cel b o ho hc

/-- A node as it is yielded: how deep it stands, its vote, its kids. -/
structure NV where
  d : Int
  v : Int
  A : Option Addr
  c : Nat
  k : Fo
def NV.val (x : NV) : Value := .agg #[.int .i64 x.v, .slice x.A x.k.len x.c]
def encN (x : NV) : Array Value := #[.int .i64 x.d, x.val]
/-- What is told of a node, wherever it lies. -/
structure NT where
  d : Int
  v : Int
  k : Fo
def NV.t (x : NV) : NT := ⟨x.d, x.v, x.k⟩
/-- The nodes of a forest that stands so deep, in the order in which they are yielded. -/
def nodesL (d : Int) : Fo → List NT
  | .nil => []
  | .cons v k r => ⟨d, v, k⟩ :: (nodesL (wrap64 (d + 1)) k ++ nodesL d r)

theorem nodesL_cnt : ∀ (f : Fo) (d : Int), (nodesL d f).length = f.cnt
  | .nil, d => rfl
  | .cons v k r, d => by simp only [nodesL, List.length_cons, List.length_append, nodesL_cnt k, nodesL_cnt r, Fo.cnt]; omega
/-- A node's kids are not too many. -/
def SubOk (M : Nat) (x : NV) : Prop := x.k.len ≤ maxLen ∧ x.k.cnt + 1 ≤ M
theorem nodes_in (F : Fence) (n : Nat) (hf : F.fn 20) (hround : F.round = none) (v : Int) (A : Option Addr) (m c : Nat) (d : Int) (w : World) :
    CallsIn F n Try.prog 20 #[.agg #[.int .i64 v, .slice A m c], .int .i64 d] w fun e w' => e = .returned (.func (.func 25) #[] #[.pointer (some ⟨w.heap.size + 1, 0, none⟩), .pointer (some ⟨w.heap.size, 0, none⟩)]) ∧
      w' = (w.alloc (.cells #[.int .i64 v, .slice A m c] 24)).alloc (.cells #[.int .i64 d] 3) := by
  refine callsIn_of_wp Try.func20 rfl hf ?_ hround
  simp only [Try.ntmps20, List.size_toArray, List.length_cons, List.length_nil, Nat.reduceAdd, Nat.reduceSub, Array.replicate_succ, Array.replicate_zero, List.push_toArray, List.append_toArray, List.nil_append, List.cons_append]
  gi_wp2
  go_ret
  exact ⟨rfl, rfl⟩
end Go.Proofs.Ytepcafkgpkbimaa
