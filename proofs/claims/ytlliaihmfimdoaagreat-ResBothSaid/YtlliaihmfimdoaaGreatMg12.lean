/- Parts Bm Bn Bo Bp of one proof. -/
import Derived.Test.YtlliaihmfimdoaaGreatMg11
namespace Go.Proofs.YtlliaihmfimdoaaGreat
open Go.RowKit Go.Maps
set_option linter.unusedVariables false
set_option linter.unusedSimpArgs false

theorem KvAt.rebase {w : World} {g N : Nat} {tt : TypeId} {cs : Array Value} {S : KS} {B' : Nat → Prop} (h : KvAt w g tt cs S N) (hB : ∀ b, S.B b → b < w.heap.size → B' b) : KvAt w g tt cs { S with B := B' } N := by
  obtain ⟨h1, h2, h3, ⟨m, G, h4, h5, h6⟩, h7, h10⟩ := h
  exact ⟨h1, h2, h3, ⟨m, G, h4, h5, h6.same fun A l hc => hc.mono hB⟩, h7, h10⟩
/-- A block that holds none of the store's turns. -/
theorem KvAt.off {w w' : World} {g N o : Nat} {tt t' : TypeId} {cs cs' : Array Value} {S : KS} (h : KvAt w g tt cs S N) (hg : w.grownBy w' (some o)) (hne : g ≠ o) (hk : Blk w o t' cs') (hB : ∀ b, S.B b → b ≠ o) : KvAt w' g tt cs S N := by
  obtain ⟨h1, h2, h3, ⟨m, G, h4, h5, h6⟩, ⟨h7, m2, h8, h9⟩, h10⟩ := h
  exact ⟨h1.kept hg (by simpa using hne), h2, h3, ⟨m, G, h4, h5.kept hg hk, h6.same fun A l hc => hc.off hg hB⟩, ⟨h7, m2, h8, h9.kept hg hk⟩, h10⟩
theorem prepM_B (S : KS) (B : Nat → Prop) (n : Int) : prepM { S with B := B } n = ((prepM S n).1, { (prepM S n).2 with B := B }) := by
  unfold prepM curW
  dsimp only
  split
  · rfl
  · split
    · rfl
    · split <;> rfl
theorem restoreM_B (S : KS) (B : Nat → Prop) (n : Int) (l : List Ch) : restoreM { S with B := B } n l = ((restoreM S n l).1, { (restoreM S n l).2 with B := B }) := by
  unfold restoreM busyB restW
  dsimp only
  split
  · rfl
  · split
    · rfl
    · split
      · rfl
      · split <;> rfl
/-- An Op of the laws. -/
structure OpV where
  k : Int
  n : Int
  y : Int
  v : Nat
  A : Option Addr
  l : List Ch
  c : Nat
def OpV.val (o : OpV) : Value := .agg #[.int .i64 o.k, .int .i64 o.n, .int .i64 o.y, .int .u64 (o.v : Nat), .slice o.A o.l.length o.c]
structure OpOk (o : OpV) : Prop where
  n : i64ok o.n
  y : i64ok o.y
  v : o.v < 18446744073709551616
def callM (S : KS) (o : OpV) : (Nat × Bool × List Ch × Int) × KS :=
  if o.k = 0 then (((getM S o.n o.y).1.1, (getM S o.n o.y).1.2.1, [], (getM S o.n o.y).1.2.2), (getM S o.n o.y).2)
  else if o.k = 1 then ((0, false, [], (changeM S o.n ⟨1, o.y, o.v⟩).1), (changeM S o.n ⟨1, o.y, o.v⟩).2)
  else if o.k = 2 then ((0, false, [], (changeM S o.n ⟨2, o.y, 0⟩).1), (changeM S o.n ⟨2, o.y, 0⟩).2)
  else if o.k = 3 then ((0, false, (prepM S o.n).1.1, (prepM S o.n).1.2), (prepM S o.n).2)
  else if o.k = 4 then ((0, false, [], (commitM S o.n).1), (commitM S o.n).2)
  else if o.k = 5 then ((0, false, [], (backoutM S o.n).1), (backoutM S o.n).2)
  else if o.k = 6 then ((0, false, [], (restoreM S o.n o.l).1), (restoreM S o.n o.l).2)
  else ((0, false, [], 0), S)
/-- What comes of a call, and the store behind it: its lists lie where they may, and not in what is handed out. -/
def CallO (w : World) (g : Nat) (tt : TypeId) (cs : Array Value) (N : Nat) (B : Nat → Prop) (r : (Nat × Bool × List Ch × Int) × KS) (e : Ending) (w' : World) : Prop :=
  ∃ A q c, e = .returned (.tuple #[.int .u64 (r.1.1 : Nat), .bool r.1.2.1, .slice A q c, .int .i64 r.1.2.2.2]) ∧ q = r.1.2.2.1.length ∧ OwnC w' w.heap.size A c r.1.2.2.1 ∧ KvO w g tt cs { r.2 with B := fun b => B b ∧ blk A ≠ some b } (N + 31) w'
theorem CallO.mk0 {a w : World} {g : Nat} {tt : TypeId} {cs cs1 : Array Value} {N N' : Nat} {S : KS} {v : Nat} {t : Bool} {er : Int} {w' : World} (hk : Keep cs cs1) (hg : a.grownBy w (some g)) (h : KvO w g tt cs1 S N' w') (hN : N' ≤ N + 31) : CallO a g tt cs N S.B ((v, t, [], er), S) (.returned (.tuple #[.int .u64 (v : Nat), .bool t, .slice none 0 0, .int .i64 er])) w' := by
  refine ⟨none, 0, 0, rfl, rfl, OwnC.nil _ _, ?_⟩
  obtain ⟨⟨cs', h1, h2⟩, h3⟩ := KvO.from hk hg h
  exact ⟨⟨cs', (h1.more hN).rebase fun b hb _ => ⟨hb, by simp [blk]⟩, h2⟩, h3⟩
theorem getM_B (S : KS) (n y : Int) : (getM S n y).2.B = S.B := by
  unfold getM; split
  · split <;> exact openM_B S n y false
  · exact openM_B S n y false
theorem changeM_B (S : KS) (n : Int) (x : Ch) : (changeM S n x).2.B = S.B := by
  unfold changeM; split <;> exact openM_B S n x.y true
theorem commitM_B (S : KS) (n : Int) : (commitM S n).2.B = S.B := by unfold commitM; split <;> rfl
theorem backoutM_B (S : KS) (n : Int) : (backoutM S n).2.B = S.B := by unfold backoutM; split <;> rfl
end Go.Proofs.YtlliaihmfimdoaaGreat

namespace Go.Proofs.YtlliaihmfimdoaaGreat
open Go.RowKit Go.Maps
set_option linter.unusedVariables false
set_option linter.unusedSimpArgs false

def anyB : Nat → Prop := fun _ => True
theorem aliveM : ∃ S1 S2 S3 S4 S5, changeM (KS.zero anyB) 1 ⟨1, 3, 9⟩ = (0, S1) ∧ getM S1 2 3 = ((0, false, 120), S2) ∧ commitM S2 1 = (0, S3) ∧ getM S3 2 3 = ((9, true, 0), S4) ∧ changeM S4 0 ⟨1, 3, 9⟩ = (1, S5) :=
  ⟨_, _, _, _, _, rfl, rfl, rfl, rfl, rfl⟩
theorem small_ok (x : Int) (h1 : -1000 ≤ x) (h2 : x ≤ 1000) : i64ok x := by unfold i64ok; omega
/-- Ops in memory. -/
def OpsAt (w : World) (A : Option Addr) (ops : List OpV) : Prop :=
  ops.length ≤ maxLen ∧ (∀ o ∈ ops, OpOk o ∧ o.l.length ≤ maxLen ∧ InL w o.A o.l) ∧ (0 < ops.length → ∃ b o, A = some ⟨b, o, none⟩ ∧ b < w.heap.size ∧ ∀ i, (h : i < ops.length) →
    w.cell? ⟨b, o + i * 5, none⟩ = some (.int .i64 (ops[i]'h).k) ∧ w.cell? ⟨b, o + i * 5 + 1, none⟩ = some (.int .i64 (ops[i]'h).n) ∧
    w.cell? ⟨b, o + i * 5 + 2, none⟩ = some (.int .i64 (ops[i]'h).y) ∧ w.cell? ⟨b, o + i * 5 + 3, none⟩ = some (.int .u64 ((ops[i]'h).v : Nat)) ∧ w.cell? ⟨b, o + i * 5 + 4, none⟩ = some (.slice (ops[i]'h).A (ops[i]'h).l.length (ops[i]'h).c))
theorem OpsAt.below {w w' : World} {A : Option Addr} {ops : List OpV} (h : OpsAt w A ops) (hb : Below w.heap.size w w') : OpsAt w' A ops := by
  refine ⟨h.1, fun o ho => ⟨(h.2.1 o ho).1, (h.2.1 o ho).2.1, (h.2.1 o ho).2.2.below hb⟩, fun hl => ?_⟩
  obtain ⟨b, o, rfl, hlt, hc⟩ := h.2.2 hl
  refine ⟨b, o, rfl, Nat.lt_of_lt_of_le hlt hb.size, fun i hi => ?_⟩
  obtain ⟨h1, h2, h3, h4, h5⟩ := hc i hi
  exact ⟨(hb.cell (p := ⟨b, _, none⟩) hlt).trans h1, (hb.cell (p := ⟨b, _, none⟩) hlt).trans h2, (hb.cell (p := ⟨b, _, none⟩) hlt).trans h3, (hb.cell (p := ⟨b, _, none⟩) hlt).trans h4, (hb.cell (p := ⟨b, _, none⟩) hlt).trans h5⟩
def stepK (S : KS) (o : OpV) : KS := if o.l.length ≤ 30 then { (callM S o).2 with B := anyB } else S
def playK (ops : List OpV) : KS := (ops.take 60).foldl stepK (KS.zero anyB)
theorem stepK_B {S : KS} (h : S.B = anyB) (o : OpV) : (stepK S o).B = anyB := by unfold stepK; split; rfl; exact h
def sameB (V V' : Nat → Nat × Bool) : Bool := (List.range 16).all fun k => V k == V' k
theorem sameB_iff {V V' : Nat → Nat × Bool} : sameB V V' = true ↔ ∀ k, k < 16 → V k = V' k := by
  unfold sameB; rw [List.all_eq_true]; simp
end Go.Proofs.YtlliaihmfimdoaaGreat

namespace Go.Proofs.YtlliaihmfimdoaaGreat
open Go.RowKit Go.Maps
set_option linter.unusedVariables false
set_option linter.unusedSimpArgs false

/-! ### one work's calls on a store that is its own -/
def rowO (n y : Int) : Option Bool → List LRow
  | none => []
  | some b => [(y, n, b)]
def lastS (n y : Int) (c : Option Ch) (p : Bool) (a : Option Bool) : KS := ⟨anyB, fun _ => (0, false), fun j => if j = n then c.map (fun x => ([x], p)) else none, rowO n y a⟩
theorem take_last (n y : Int) (a : Option Bool) (al : Bool) : takeL (rowO n y a) n y al = (0, rowO n y (some ((a.getD false) || al))) := by
  rcases a with _ | b
  · simp [takeL, clashL, rowO, heldL, putL, aloneL]
  · simp [takeL, clashL, rowO, heldL, putL, aloneL, atB]
theorem open_last {n y : Int} (hn : 1 ≤ n) (hy : keyB y = true) (c : Option Ch) (a : Option Bool) (al : Bool) : openM (lastS n y c false a) n y al = (0, lastS n y c false (some ((a.getD false) || al))) := by
  unfold openM
  rw [if_neg (by simp [hy]; omega), if_neg (by unfold curW lastS; rcases c with _ | x <;> simp)]
  have := take_last n y a al
  show ((takeL (rowO n y a) n y al).1, { lastS n y c false a with L := (takeL (rowO n y a) n y al).2 }) = _
  rw [this]; rfl
theorem cur_last (n y : Int) (c : Option Ch) (p : Bool) (a : Option Bool) : curW (lastS n y c p a) n = ((c.map (fun x => ([x], p))).getD ([], false)) := by unfold curW lastS; simp
theorem upd_last (n y : Int) (c : Option Ch) (p : Bool) (a : Option Bool) (x : Ch) (q : Bool) : updW (lastS n y c p a).W n (some ([x], q)) = (lastS n y (some x) q a).W := by
  funext j; unfold updW lastS; dsimp only; split <;> rfl
theorem change_last {n y : Int} (hn : 1 ≤ n) (hy : keyB y = true) (c : Option Ch) (hc : ∀ x, c = some x → x.y = y) (a : Option Bool) (x : Ch) (hx : x.y = y) : changeM (lastS n y c false a) n x = (0, lastS n y (some x) false (some true)) := by
  have ho := open_last hn hy c a true
  rw [← hx] at ho ⊢
  unfold changeM
  rw [ho]
  simp only [if_true, Bool.or_true]
  have hw : withL (curW (lastS n x.y c false a) n).1 x = [x] := by
    rw [cur_last]
    rcases c with _ | x0
    · rfl
    · have := hc x0 rfl
      simp [withL, posN, this, hx]
  rw [hw]
  congr 1
  show (⟨anyB, _, updW (lastS n x.y c false a).W n (some ([x], false)), _⟩ : KS) = _
  rw [upd_last]; rfl
theorem get_last {n y : Int} (hn : 1 ≤ n) (hy : keyB y = true) (c : Option Ch) (hc : ∀ x, c = some x → x.y = y) (a : Option Bool) : getM (lastS n y c false a) n y = (((c.map (·.v)).getD 0, (c.map (fun x => x.k == 1)).getD false, 0), lastS n y c false (some (a.getD false))) := by
  have ho := open_last hn hy c a false
  unfold getM
  rw [ho]
  simp only [if_true, Bool.or_false]
  rw [cur_last]
  rcases c with _ | x0
  · simp [posN, valM, lastS, hy]
  · have := hc x0 rfl
    simp [posN, this]
theorem prep_last {n y : Int} (hn : 1 ≤ n) (x : Ch) (a : Option Bool) : prepM (lastS n y (some x) false a) n = (([x], 0), lastS n y (some x) true a) := by
  unfold prepM
  rw [if_neg (by omega), cur_last, if_neg (by simp), if_neg (by simp [lastS])]
  congr 1
  show (⟨anyB, _, updW (lastS n y (some x) false a).W n (some ([x], true)), _⟩ : KS) = _
  rw [upd_last]; rfl
theorem prep_last0 {n y : Int} (hn : 1 ≤ n) (a : Option Bool) : (prepM (lastS n y none false a) n).1 = ([], 0) ∧ (prepM (lastS n y none false a) n).2.V = fun _ => (0, false) := by
  unfold prepM
  rw [if_neg (by omega), cur_last, if_neg (by simp), if_pos (by simp [lastS])]
  exact ⟨rfl, rfl⟩
theorem commit_val {S : KS} {n : Int} (hn : 1 ≤ n) : (commitM S n).2.V = (curW S n).1.foldl setV S.V := by
  unfold commitM; rw [if_neg (by omega)]; rfl
theorem bad_open {S : KS} {n y : Int} (h : n < 1 ∨ keyB y = false) (al : Bool) : openM S n y al = (1, S) := if_pos h
theorem bad_change {S : KS} {n : Int} {x : Ch} (h : n < 1 ∨ keyB x.y = false) : changeM S n x = (1, S) := by
  unfold changeM; rw [bad_open h]; rfl
theorem bad_get {S : KS} {n y : Int} (h : n < 1 ∨ keyB y = false) : getM S n y = ((0, false, 1), S) := by
  unfold getM; rw [bad_open h]; rfl

/-! ### two works at one key -/
theorem openM_refused {S : KS} {n y : Int} {al : Bool} (h : (openM S n y al).1 ≠ 0) : (openM S n y al).2 = S := by
  unfold openM at h ⊢
  split
  · rfl
  · split
    · rfl
    · rename_i h1 h2
      rw [if_neg h1, if_neg h2] at h
      have := take_not (L := S.L) (L' := (takeL S.L n y al).2) (o := n) (k := y) (a := al) (r := (takeL S.L n y al).1) rfl h
      show ({ S with L := (takeL S.L n y al).2 } : KS) = S
      rw [this.1]
theorem changeM_refused {S : KS} {n : Int} {x : Ch} (h : (openM S n x.y true).1 ≠ 0) : changeM S n x = ((openM S n x.y true).1, S) := by
  unfold changeM; rw [if_neg h]
  have := openM_refused h
  exact Prod.ext rfl this
theorem getM_refused {S : KS} {n y : Int} (h : (openM S n y false).1 ≠ 0) : getM S n y = ((0, false, (openM S n y false).1), S) := by
  unfold getM; rw [if_neg h, openM_refused h]
theorem openM_clash {S : KS} {n y : Int} {al : Bool} {x : LRow} (hx : x ∈ S.L) (h1 : x.1 = y) (h2 : x.2.1 ≠ n) (h3 : x.2.2 = true) : (openM S n y al).1 ≠ 0 := by
  unfold openM
  split
  · simp
  · split
    · simp
    · have hc : clashL S.L n y al = false ∨ True := .inr trivial
      have hcl : clashL S.L y n al = true := clash_yes hx h1 h2 h3
      unfold takeL
      rw [if_pos hcl]
      simp
theorem withL_pos (l : List Ch) (x : Ch) : (withL l x)[posN (withL l x) x.y]? = some x := by
  unfold withL
  split
  · rename_i hlt
    have e : posN (l.set (posN l x.y) x) x.y = posN l x.y := by
      have hl2 : posN l x.y < (l.set (posN l x.y) x).length := by rw [List.length_set]; exact hlt
      show List.findIdx _ _ = _
      rw [List.findIdx_eq hl2]
      refine ⟨by simp, fun j hj => ?_⟩
      have hne : posN l x.y ≠ j := by omega
      rw [List.getElem_set_ne hne]
      have := List.not_of_lt_findIdx (show j < List.findIdx (fun z => decide (z.y = x.y)) l from hj)
      simpa using this
    rw [e, List.getElem?_set_self hlt]
  · rename_i hge
    have e : posN (l ++ [x]) x.y = l.length := by
      have hle := posN_le l x.y
      have heq : List.findIdx (fun z : Ch => decide (z.y = x.y)) l = l.length := by unfold posN at hle hge; omega
      unfold posN
      rw [List.findIdx_append, heq]
      simp
    rw [e]; simp
theorem alone_facts {S S1 : KS} {n y : Int} {v : Nat} (h : changeM S n ⟨1, y, v⟩ = (0, S1)) : (y, n, true) ∈ S1.L ∧ (∃ S2, getM S1 n y = ((v, true, 0), S2)) ∧ S1.B = S.B := by
  have hB := changeM_B S n ⟨1, y, v⟩
  rw [h] at hB
  unfold changeM at h
  split at h
  · rename_i h0
    injection h with _ h2
    have hok := openM_ok h0
    have hL : S1.L = putL S.L y n true ∧ clashL S.L y n true = false := by
      rw [← h2]
      show (openM S n y true).2.L = _ ∧ _
      unfold openM at h0 ⊢
      have e1 : ¬ (n < 1 ∨ keyB y = false) := by
        rintro (h | h)
        · have := hok.2.1; omega
        · have := hok.2.2; rw [h] at this; cases this
      have e2 : ¬ ((curW S n).2 = true) := by rw [hok.1]; simp
      rw [if_neg e1, if_neg e2] at h0 ⊢
      have := take_ok (L := S.L) (L' := (takeL S.L n y true).2) (o := n) (k := y) (a := true) (r := (takeL S.L n y true).1) rfl h0
      refine ⟨?_, this.1⟩
      show (takeL S.L n y true).2 = _
      rw [this.2, Bool.or_true]
    have hW : S1.W = updW S.W n (some (withL (curW S n).1 ⟨1, y, v⟩, false)) := by rw [← h2]
    refine ⟨by rw [hL.1]; exact put_new _ _ _ _, ?_, hB⟩
    have hcur : curW S1 n = (withL (curW S n).1 ⟨1, y, v⟩, false) := by show (S1.W n).getD _ = _; rw [hW]; simp [updW]
    have hcl : clashL S1.L y n false = false := by
      unfold clashL
      rw [List.any_eq_false]
      intro x hx hc
      rw [hL.1] at hx
      rcases put_mem hx with rfl | ⟨hx, hne⟩
      · simp at hc
      · simp only [Bool.and_eq_true, decide_eq_true_eq, Bool.not_eq_true', decide_eq_false_iff_not] at hc
        have := clash_no hL.2 hx hc.1.1 hc.1.2
        simp at this
    have hheld : heldL S1.L y n = true := by rw [hL.1]; exact held_iff.2 ⟨_, put_new _ _ _ _, rfl, rfl⟩
    have ho : (openM S1 n y false).1 = 0 := by
      unfold openM
      rw [if_neg (by rintro (h | h); have := hok.2.1; omega; have := hok.2.2; rw [h] at this; cases this), if_neg (by rw [hcur]; simp)]
      show (takeL S1.L n y false).1 = 0
      unfold takeL
      rw [hcl, if_neg (by simp), if_neg (by simp [hheld])]
    refine ⟨(getM S1 n y).2, ?_⟩
    obtain ⟨hp1, hp2⟩ := List.getElem?_eq_some_iff.1 (withL_pos (curW S n).1 ⟨1, y, v⟩)
    dsimp only at hp1 hp2
    have hg : getM S1 n y = ((v, true, 0), (openM S1 n y false).2) := by
      unfold getM
      rw [if_pos ho]
      rw [dif_pos (by rw [hcur]; exact hp1)]
      simp only [hcur, hp2]
      rfl
    rw [hg]
  · rename_i h0
    rw [h] at h0
    exact absurd rfl h0

/-! ### what is kept -/
theorem openM_V (S : KS) (n y : Int) (al : Bool) : (openM S n y al).2.V = S.V := (openM_W S n y al).2
theorem callM_V (S : KS) (o : OpV) (h1 : 0 ≤ o.k) (h2 : o.k ≤ 3) : (callM S o).2.V = S.V := by
  unfold callM
  by_cases k0 : o.k = 0
  · rw [if_pos k0]
    show (getM S o.n o.y).2.V = S.V
    unfold getM
    split
    · split <;> exact openM_V _ _ _ _
    · exact openM_V _ _ _ _
  · rw [if_neg k0]
    have hch : ∀ x : Ch, (changeM S o.n x).2.V = S.V := fun x => by
      unfold changeM; split <;> exact openM_V S o.n x.y true
    by_cases k1 : o.k = 1
    · rw [if_pos k1]; exact hch _
    · rw [if_neg k1]
      by_cases k2 : o.k = 2
      · rw [if_pos k2]; exact hch _
      · rw [if_neg k2, if_pos (by omega)]
        show (prepM S o.n).2.V = S.V
        unfold prepM
        split
        · rfl
        · split
          · rfl
          · split <;> rfl
theorem not_hasL_drop (L : List LRow) (n : Int) : hasL (dropL L n) n = false := by
  unfold hasL dropL
  rw [List.any_eq_false]
  intro x hx
  have := (List.mem_filter.1 hx).2
  simpa using this
theorem busy_drop (S : KS) (n : Int) : busyB (dropM S n) n = false := by
  unfold busyB dropM updW
  simp [not_hasL_drop]
end Go.Proofs.YtlliaihmfimdoaaGreat

namespace Go.Proofs.YtlliaihmfimdoaaGreat
open Go.RowKit Go.Maps
set_option linter.unusedVariables false
set_option linter.unusedSimpArgs false

/-- Numbers of 64 bits that came in. -/
def U64At (w : World) (A : Option Addr) (zs : List Nat) : Prop := zs.length ≤ maxLen ∧ (0 < zs.length → ∃ b o, A = some ⟨b, o, none⟩ ∧ b < w.heap.size ∧ ∀ i, (h : i < zs.length) → w.cell? ⟨b, o + i, none⟩ = some (.int .u64 ((zs[i]'h : Nat) : Int)))
def wantV (c : Option Ch) : Nat := (c.map (·.v)).getD 0
def wantT (c : Option Ch) : Bool := (c.map (fun x => x.k == 1)).getD false
theorem get_last2 {n y : Int} (hn : 1 ≤ n) (hy : keyB y = true) (c : Option Ch) (hc : ∀ x, c = some x → x.y = y) (a : Option Bool) : getM (lastS n y c false a) n y = ((wantV c, wantT c, 0), lastS n y c false (some (a.getD false))) := get_last hn hy c hc a
theorem last_tail {n y : Int} (hn : 1 ≤ n) (hy : keyB y = true) (c : Option Ch) (hc : ∀ x, c = some x → x.y = y) (a : Option Bool) : ∃ l S', prepM (lastS n y c false a) n = ((l, 0), S') ∧ l.length ≤ 1 ∧ S'.B = anyB ∧ valM (commitM S' n).2 y = (wantV c, wantT c) := by
  rcases c with _ | x
  · have h1 := (prep_last0 (y := y) hn a).1
    refine ⟨[], (prepM (lastS n y none false a) n).2, ?_, by simp, ?_, ?_⟩
    · rw [← h1]
    · unfold prepM; rw [if_neg (by omega), cur_last, if_neg (by simp), if_pos (by simp [lastS])]; rfl
    · unfold valM
      rw [if_pos hy, commit_val hn, (prep_last0 (y := y) hn a).2]
      have : (curW (prepM (lastS n y none false a) n).2 n).1 = [] := by
        unfold prepM; rw [if_neg (by omega), cur_last, if_neg (by simp), if_pos (by simp [lastS])]
        simp [curW, lastS]
      rw [this]; rfl
  · have hx := hc x rfl
    refine ⟨[x], _, prep_last hn x a, by simp, rfl, ?_⟩
    unfold valM
    rw [if_pos hy, commit_val hn, cur_last]
    show setV (fun _ => (0, false)) x y.toNat = _
    unfold setV
    rw [if_pos (by rw [hx])]
    rfl
theorem bad_key {n y : Int} (h : n < 1 ∨ keyB y = false) : n < 1 ∨ y < 0 ∨ 16 ≤ y := by
  rcases h with h | h
  · exact .inl h
  · unfold keyB at h; simp at h; omega
end Go.Proofs.YtlliaihmfimdoaaGreat
