/- Parts Bm Bn of one proof. -/
import Derived.Test.YtlliaihmfimdoaaMg12
namespace Go.Proofs.Ytlliaihmfimdoaa
open Go.RowKit Go.Maps
set_option linter.unusedVariables false
set_option linter.unusedSimpArgs false

theorem KvAt.rebase {w : World} {g N : Nat} {tt : TypeId} {cs : Array Value} {S : KS} {B' : Nat → Prop} (h : KvAt w g tt cs S N) (hB : ∀ b, S.B b → b < w.heap.size → B' b) : KvAt w g tt cs { S with B := B' } N := by
  obtain ⟨h1, h2, h3, ⟨m, G, h4, h5, h6⟩, h7, h10⟩ := h
  exact ⟨h1, h2, h3, ⟨m, G, h4, h5, h6.same fun A l hc => hc.mono hB⟩, h7, h10⟩
/-- A block that holds none of the store's turns. -/
theorem KvAt.off {w w' : World} {g N o : Nat} {tt t' : TypeId} {cs cs' : Array Value} {S : KS} (h : KvAt w g tt cs S N) (hg : w.grownBy w' (some o)) (hne : g ≠ o) (hk : Blk w o t' cs') (hB : ∀ b, S.B b → b ≠ o) : KvAt w' g tt cs S N := by
  obtain ⟨h1, h2, h3, ⟨m, G, h4, h5, h6⟩, ⟨h7, m2, h8, h9⟩, h10⟩ := h
  exact ⟨h1.kept hg (by simpa using hne), h2, h3, ⟨m, G, h4, h5.kept hg hk, h6.same fun A l hc => hc.off hg hB⟩, ⟨h7, m2, h8, h9.kept hg hk⟩, h10⟩
theorem prepM_B (S : KS) (B : Nat → Prop) (n : Int) : prepM { S with B := B } n = ((prepM S n).1, { (prepM S n).2 with B := B }) := by
  unfold prepM curW
  dsimp only
  split
  · rfl
  · split
    · rfl
    · split <;> rfl
theorem restoreM_B (S : KS) (B : Nat → Prop) (n : Int) (l : List Ch) : restoreM { S with B := B } n l = ((restoreM S n l).1, { (restoreM S n l).2 with B := B }) := by
  unfold restoreM busyB restW
  dsimp only
  split
  · rfl
  · split
    · rfl
    · split
      · rfl
      · split <;> rfl
/-- An Op of the laws. -/
structure OpV where
  k : Int
  n : Int
  y : Int
  v : Nat
  A : Option Addr
  l : List Ch
  c : Nat
def OpV.val (o : OpV) : Value := .agg #[.int .i64 o.k, .int .i64 o.n, .int .i64 o.y, .int .u64 (o.v : Nat), .slice o.A o.l.length o.c]
structure OpOk (o : OpV) : Prop where
  n : i64ok o.n
  y : i64ok o.y
  v : o.v < 18446744073709551616
def callM (S : KS) (o : OpV) : (Nat × Bool × List Ch × Int) × KS :=
  if o.k = 0 then (((getM S o.n o.y).1.1, (getM S o.n o.y).1.2.1, [], (getM S o.n o.y).1.2.2), (getM S o.n o.y).2)
  else if o.k = 1 then ((0, false, [], (changeM S o.n ⟨1, o.y, o.v⟩).1), (changeM S o.n ⟨1, o.y, o.v⟩).2)
  else if o.k = 2 then ((0, false, [], (changeM S o.n ⟨2, o.y, 0⟩).1), (changeM S o.n ⟨2, o.y, 0⟩).2)
  else if o.k = 3 then ((0, false, (prepM S o.n).1.1, (prepM S o.n).1.2), (prepM S o.n).2)
  else if o.k = 4 then ((0, false, [], (commitM S o.n).1), (commitM S o.n).2)
  else if o.k = 5 then ((0, false, [], (backoutM S o.n).1), (backoutM S o.n).2)
  else if o.k = 6 then ((0, false, [], (restoreM S o.n o.l).1), (restoreM S o.n o.l).2)
  else ((0, false, [], 0), S)
/-- What comes of a call, and the store behind it: its lists lie where they may, and not in what is handed out. -/
def CallO (w : World) (g : Nat) (tt : TypeId) (cs : Array Value) (N : Nat) (B : Nat → Prop) (r : (Nat × Bool × List Ch × Int) × KS) (e : Ending) (w' : World) : Prop :=
  ∃ A q c, e = .returned (.tuple #[.int .u64 (r.1.1 : Nat), .bool r.1.2.1, .slice A q c, .int .i64 r.1.2.2.2]) ∧ q = r.1.2.2.1.length ∧ OwnC w' w.heap.size A c r.1.2.2.1 ∧ KvO w g tt cs { r.2 with B := fun b => B b ∧ blk A ≠ some b } (N + 31) w'
theorem CallO.mk0 {a w : World} {g : Nat} {tt : TypeId} {cs cs1 : Array Value} {N N' : Nat} {S : KS} {v : Nat} {t : Bool} {er : Int} {w' : World} (hk : Keep cs cs1) (hg : a.grownBy w (some g)) (h : KvO w g tt cs1 S N' w') (hN : N' ≤ N + 31) : CallO a g tt cs N S.B ((v, t, [], er), S) (.returned (.tuple #[.int .u64 (v : Nat), .bool t, .slice none 0 0, .int .i64 er])) w' := by
  refine ⟨none, 0, 0, rfl, rfl, OwnC.nil _ _, ?_⟩
  obtain ⟨⟨cs', h1, h2⟩, h3⟩ := KvO.from hk hg h
  exact ⟨⟨cs', (h1.more hN).rebase fun b hb _ => ⟨hb, by simp [blk]⟩, h2⟩, h3⟩
theorem getM_B (S : KS) (n y : Int) : (getM S n y).2.B = S.B := by
  unfold getM; split
  · split <;> exact openM_B S n y false
  · exact openM_B S n y false
theorem changeM_B (S : KS) (n : Int) (x : Ch) : (changeM S n x).2.B = S.B := by
  unfold changeM; split <;> exact openM_B S n x.y true
theorem commitM_B (S : KS) (n : Int) : (commitM S n).2.B = S.B := by unfold commitM; split <;> rfl
theorem backoutM_B (S : KS) (n : Int) : (backoutM S n).2.B = S.B := by unfold backoutM; split <;> rfl
end Go.Proofs.Ytlliaihmfimdoaa

namespace Go.Proofs.Ytlliaihmfimdoaa
open Go.RowKit Go.Maps
set_option linter.unusedVariables false
set_option linter.unusedSimpArgs false

def anyB : Nat → Prop := fun _ => True
theorem aliveM : ∃ S1 S2 S3 S4 S5, changeM (KS.zero anyB) 1 ⟨1, 3, 9⟩ = (0, S1) ∧ getM S1 2 3 = ((0, false, 120), S2) ∧ commitM S2 1 = (0, S3) ∧ getM S3 2 3 = ((9, true, 0), S4) ∧ changeM S4 0 ⟨1, 3, 9⟩ = (1, S5) :=
  ⟨_, _, _, _, _, rfl, rfl, rfl, rfl, rfl⟩
theorem small_ok (x : Int) (h1 : -1000 ≤ x) (h2 : x ≤ 1000) : i64ok x := by unfold i64ok; omega
/-- Ops in memory. -/
def OpsAt (w : World) (A : Option Addr) (ops : List OpV) : Prop :=
  ops.length ≤ maxLen ∧ (∀ o ∈ ops, OpOk o ∧ o.l.length ≤ maxLen ∧ InL w o.A o.l) ∧ (0 < ops.length → ∃ b o, A = some ⟨b, o, none⟩ ∧ b < w.heap.size ∧ ∀ i, (h : i < ops.length) →
    w.cell? ⟨b, o + i * 5, none⟩ = some (.int .i64 (ops[i]'h).k) ∧ w.cell? ⟨b, o + i * 5 + 1, none⟩ = some (.int .i64 (ops[i]'h).n) ∧
    w.cell? ⟨b, o + i * 5 + 2, none⟩ = some (.int .i64 (ops[i]'h).y) ∧ w.cell? ⟨b, o + i * 5 + 3, none⟩ = some (.int .u64 ((ops[i]'h).v : Nat)) ∧ w.cell? ⟨b, o + i * 5 + 4, none⟩ = some (.slice (ops[i]'h).A (ops[i]'h).l.length (ops[i]'h).c))
theorem OpsAt.below {w w' : World} {A : Option Addr} {ops : List OpV} (h : OpsAt w A ops) (hb : Below w.heap.size w w') : OpsAt w' A ops := by
  refine ⟨h.1, fun o ho => ⟨(h.2.1 o ho).1, (h.2.1 o ho).2.1, (h.2.1 o ho).2.2.below hb⟩, fun hl => ?_⟩
  obtain ⟨b, o, rfl, hlt, hc⟩ := h.2.2 hl
  refine ⟨b, o, rfl, Nat.lt_of_lt_of_le hlt hb.size, fun i hi => ?_⟩
  obtain ⟨h1, h2, h3, h4, h5⟩ := hc i hi
  exact ⟨(hb.cell (p := ⟨b, _, none⟩) hlt).trans h1, (hb.cell (p := ⟨b, _, none⟩) hlt).trans h2, (hb.cell (p := ⟨b, _, none⟩) hlt).trans h3, (hb.cell (p := ⟨b, _, none⟩) hlt).trans h4, (hb.cell (p := ⟨b, _, none⟩) hlt).trans h5⟩
def stepK (S : KS) (o : OpV) : KS := if o.l.length ≤ 30 then { (callM S o).2 with B := anyB } else S
def playK (ops : List OpV) : KS := (ops.take 60).foldl stepK (KS.zero anyB)
theorem stepK_B {S : KS} (h : S.B = anyB) (o : OpV) : (stepK S o).B = anyB := by unfold stepK; split; rfl; exact h
def sameB (V V' : Nat → Nat × Bool) : Bool := (List.range 16).all fun k => V k == V' k
theorem sameB_iff {V V' : Nat → Nat × Bool} : sameB V V' = true ↔ ∀ k, k < 16 → V k = V' k := by
  unfold sameB; rw [List.all_eq_true]; simp
end Go.Proofs.Ytlliaihmfimdoaa
