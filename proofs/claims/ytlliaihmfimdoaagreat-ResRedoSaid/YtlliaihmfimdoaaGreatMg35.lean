/- Parts Sv Q23 OpenQ Q24 of one proof. -/
import Derived.Test.YtlliaihmfimdoaaGreatMg34
import Derived.Test.YtlliaihmfimdoaaGreatMg21
import Derived.Test.YtlliaihmfimdoaaGreatMg01
import Derived.Lib.SmallJoins
import Derived.Deep.Slices
namespace Go.Proofs.YtlliaihmfimdoaaGreat.Re
open Go.RowKit Go.Maps Go.Joins Go.Deep Go.Proofs.YtlliaihmfimdoaaGreat
set_option linter.unusedVariables false
set_option linter.unusedSimpArgs false

/-- What a fresh work's Put and Push, and then its Prepare, leave. -/
structure Both (S : RS) (n y : Int) (v : Nat) (S2 S3 : RS) : Prop where
  n1 : 1 ≤ n
  ky : keyB y = true
  put : (pushR (putR S n y v).2 n v).2 = S2
  prep : prepR S2 n = (([⟨1, y, v⟩, ⟨3, 0, v⟩], 0), S3)
  v2 : S2.K.V = S.K.V ∧ S2.Q.I = S.Q.I ∧ S2.Q.g = S.Q.g
  v3 : S3.K.V = S.K.V ∧ S3.Q.I = S.Q.I ∧ S3.Q.g = S.Q.g
  k3 : curW S3.K n = ([⟨1, y, v⟩], true)
  q3 : Qu.curQ S3.Q.ws n = ([⟨3, 0, v⟩], true)
theorem openR_zero {S : RS} {n : Int} (h : openR S n = 0) : 1 ≤ n ∧ n ∉ S.pr := by
  unfold openR at h
  by_cases h1 : n < 1
  · rw [if_pos h1] at h; exact absurd h (by decide)
  · rw [if_neg h1] at h
    by_cases h2 : n ∈ S.pr
    · rw [if_pos h2] at h; exact absurd h (by decide)
    · exact ⟨by omega, h2⟩
theorem both_start {S : RS} {n y : Int} {v : Nat} (hb : busyR S n = false) (h1 : (putR S n y v).1 = 0) (h2 : (pushR (putR S n y v).2 n v).1 = 0) : ∃ S2 S3, Both S n y v S2 S3 := by
  have hbk : busyB S.K n = false := by unfold busyR at hb; simp at hb; exact hb.1
  have hbq : (Qu.lookQ S.Q.ws n).isSome = false := by unfold busyR at hb; simp at hb; simp [hb.2]
  have ho : openR S n = 0 := by
    by_cases h : openR S n = 0
    · exact h
    · unfold putR at h1; rw [if_pos h] at h1; exact absurd h1 h
  have hput : putR S n y v = ((changeM S.K n ⟨1, y, v⟩).1, { S with K := (changeM S.K n ⟨1, y, v⟩).2 }) := by unfold putR; rw [if_neg (by simp [ho])]
  rw [hput] at h1 h2
  obtain ⟨hn, hk, L, hch⟩ := put_fresh hbk h1
  have hpush : pushR { S with K := (changeM S.K n ⟨1, y, v⟩).2 } n v = ((Qu.putM S.Q n v).1, { S with K := (changeM S.K n ⟨1, y, v⟩).2, Q := (Qu.putM S.Q n v).2 }) := by
    unfold pushR
    rw [if_neg (by rw [show openR { S with K := (changeM S.K n ⟨1, y, v⟩).2 } n = openR S n from rfl, ho]; simp)]
  rw [hpush] at h2
  obtain ⟨_, hqp⟩ := qput_fresh hbq h2
  obtain ⟨K2, hK2⟩ : ∃ K2 : KS, K2 = { S.K with W := updW S.K.W n (some ([⟨1, y, v⟩], false)), L := L } := ⟨_, rfl⟩
  obtain ⟨Q2, hQ2⟩ : ∃ Q2 : Qu.QS, Q2 = { S.Q with ws := S.Q.ws ++ [⟨n, [⟨3, 0, v⟩], false⟩] } := ⟨_, rfl⟩
  rw [← hK2] at hch
  rw [← hQ2] at hqp
  have hs2 : (pushR (putR S n y v).2 n v).2 = ⟨K2, Q2, S.pr⟩ := by rw [hput]; dsimp only; rw [hpush, hch, hqp]
  have hW2 : K2.W n = some ([⟨1, y, v⟩], false) := by rw [hK2]; exact if_pos rfl
  have hL2 : Qu.lookQ Q2.ws n = some ([⟨3, 0, v⟩], false) := by
    have hl : Qu.lookQ S.Q.ws n = none := by simpa using hbq
    have hf : Qu.findQ S.Q.ws n = none := by unfold Qu.lookQ at hl; simpa using hl
    rw [hQ2]
    unfold Qu.lookQ
    rw [Qu.findQ_snoc, hf, if_pos rfl]
    rfl
  have hp1 := prep_fresh hn hW2
  have hp2 := qprep_fresh hn hL2
  obtain ⟨K3, hK3⟩ : ∃ K3 : KS, K3 = { K2 with W := updW K2.W n (some ([⟨1, y, v⟩], true)) } := ⟨_, rfl⟩
  obtain ⟨Q3, hQ3⟩ : ∃ Q3 : Qu.QS, Q3 = { Q2 with ws := Qu.layQ Q2.ws n [⟨3, 0, v⟩] true } := ⟨_, rfl⟩
  rw [← hK3] at hp1
  rw [← hQ3] at hp2
  refine ⟨⟨K2, Q2, S.pr⟩, ⟨K3, Q3, S.pr ++ [n]⟩, hn, hk, hs2, ?_, ⟨by rw [hK2], by rw [hQ2], by rw [hQ2]⟩, ⟨by rw [hK3, hK2], by rw [hQ3, hQ2], by rw [hQ3, hQ2]⟩, ?_, ?_⟩
  · unfold prepR
    rw [if_neg (by rw [show openR ⟨K2, Q2, S.pr⟩ n = openR S n from rfl, ho]; simp)]
    dsimp only
    rw [hp1, hp2]
    rfl
  · unfold curW
    rw [hK3]
    dsimp only
    rw [show updW K2.W n (some ([⟨1, y, v⟩], true)) n = some ([⟨1, y, v⟩], true) from if_pos rfl]
    rfl
  · unfold Qu.curQ
    rw [hQ3]
    dsimp only
    rw [Qu.lookQ_lay, if_pos rfl]
    rfl
theorem busy_gone (S : KS) (n : Int) : busyB (dropM S n) n = false := by
  have hh : hasL (dropL S.L n) n = false := by
    unfold hasL dropL
    rw [List.any_eq_false]
    intro x hx
    have := (List.mem_filter.1 hx).2
    simpa using this
  unfold busyB dropM updW
  simp [hh]
/-- Committed: in both. -/
theorem Both.commit {S S2 S3 : RS} {n y : Int} {v : Nat} (h : Both S n y v S2 S3) (hq : Qu.keptI S.Q.I n = S.Q.I) : (commitR S3 n).1 = 0 ∧ (y, v) ∈ imP (commitR S3 n).2.K 16 ∧ (commitR S3 n).2.Q.I = S.Q.I ++ [⟨S.Q.g + 1, v, 0⟩] ∧ busyR (commitR S3 n).2 n = false := by
  have hn : ¬ n < 1 := by have := h.n1; omega
  have hR : commitR S3 n = (0, dropS ⟨(commitM S3.K n).2, (Qu.commitM S3.Q n).2, S3.pr⟩ n) := by unfold commitR; rw [if_neg hn]
  have hK : (commitM S3.K n).2 = dropM { S3.K with V := setV S.K.V ⟨1, y, v⟩ } n := by unfold commitM; rw [if_neg hn, h.k3, h.v3.1]; rfl
  have hQ : (Qu.commitM S3.Q n).2 = { S3.Q with I := S.Q.I ++ [⟨S.Q.g + 1, v, 0⟩], g := S.Q.g + 1, ws := Qu.othersQ S3.Q.ws n } := by
    unfold Qu.commitM
    rw [if_neg hn, h.q3, h.v3.2.1, h.v3.2.2, hq]
    rfl
  rw [hR, hK, hQ]
  refine ⟨rfl, imP_mem h.ky ?_, rfl, ?_⟩
  · show valM (dropM { S3.K with V := setV S.K.V ⟨1, y, v⟩ } n) y = _
    unfold valM
    rw [if_pos h.ky]
    show setV S.K.V ⟨1, y, v⟩ y.toNat = _
    unfold setV
    rw [if_pos rfl]
    rfl
  · show (busyB (dropM _ n) n || (Qu.lookQ (Qu.othersQ S3.Q.ws n) n).isSome) = false
    rw [busy_gone, Qu.lookQ_others, if_pos rfl]
    rfl
/-- Backed out: in neither. -/
theorem Both.back {S S2 S3 : RS} {n y : Int} {v : Nat} (h : Both S n y v S2 S3) : (backR S3 n).1 = 0 ∧ (backR S3 n).2.K.V = S.K.V ∧ (backR S3 n).2.Q.I.map Qu.IT.v = S.Q.I.map Qu.IT.v ∧ (backR S3 n).2.Q.g = S.Q.g ∧ busyR (backR S3 n).2 n = false := by
  have hn : ¬ n < 1 := by have := h.n1; omega
  have hR : backR S3 n = (0, dropS ⟨(backoutM S3.K n).2, (Qu.backM S3.Q n).2, S3.pr⟩ n) := by unfold backR; rw [if_neg hn]
  have hK : (backoutM S3.K n).2 = dropM S3.K n := by unfold backoutM; rw [if_neg hn]
  have hQ : (Qu.backM S3.Q n).2 = { S3.Q with I := S.Q.I.map (Qu.freeI n), ws := Qu.othersQ S3.Q.ws n } := by
    unfold Qu.backM
    rw [if_neg hn, h.v3.2.1]
  rw [hR, hK, hQ]
  refine ⟨rfl, h.v3.1, ?_, h.v3.2.2, ?_⟩
  · show (S.Q.I.map (Qu.freeI n)).map Qu.IT.v = _
    rw [List.map_map]
    refine List.map_congr_left fun x _ => ?_
    show (Qu.freeI n x).v = x.v
    unfold Qu.freeI
    split <;> rfl
  · show (busyB (dropM _ n) n || (Qu.lookQ (Qu.othersQ S3.Q.ws n) n).isSome) = false
    rw [busy_gone, Qu.lookQ_others, if_pos rfl]
    rfl
end Go.Proofs.YtlliaihmfimdoaaGreat.Re

namespace Go.Proofs.YtlliaihmfimdoaaGreat.Qu
open Go.RowKit Go.Maps Go.Deep
set_option linter.unusedVariables false
set_option linter.unusedSimpArgs false

def OpIn (w : World) (o : OpV) : Prop := i64ok o.n ∧ (o.l.length ≤ maxLen ∧ InL w o.A o.l) ∧ o.vs.length ≤ maxLen ∧ UAt w o.VA o.vs
theorem OpIn.below {w w' : World} {o : OpV} (h : OpIn w o) (hb : Below w.heap.size w w') : OpIn w' o := ⟨h.1, ⟨h.2.1.1, h.2.1.2.below hb⟩, h.2.2.1, h.2.2.2.below hb⟩
/-- Ops in memory. -/
def OpsAt (w : World) (A : Option Addr) (ops : List OpV) : Prop :=
  ops.length ≤ maxLen ∧ (∀ o ∈ ops, OpIn w o) ∧ (0 < ops.length → ∃ b o, A = some ⟨b, o, none⟩ ∧ b < w.heap.size ∧ ∀ i, (h : i < ops.length) →
    w.cell? ⟨b, o + i * 6, none⟩ = some (.int .i64 (ops[i]'h).k) ∧ w.cell? ⟨b, o + i * 6 + 1, none⟩ = some (.int .i64 (ops[i]'h).n) ∧
    w.cell? ⟨b, o + i * 6 + 2, none⟩ = some (.int .i64 (ops[i]'h).x) ∧ w.cell? ⟨b, o + i * 6 + 3, none⟩ = some (.int .u64 ((ops[i]'h).v : Nat)) ∧ w.cell? ⟨b, o + i * 6 + 4, none⟩ = some (.slice (ops[i]'h).A (ops[i]'h).l.length (ops[i]'h).c) ∧
    w.cell? ⟨b, o + i * 6 + 5, none⟩ = some (.slice (ops[i]'h).VA (ops[i]'h).vs.length (ops[i]'h).vc))
theorem OpsAt.below {w w' : World} {A : Option Addr} {ops : List OpV} (h : OpsAt w A ops) (hb : Below w.heap.size w w') : OpsAt w' A ops := by
  refine ⟨h.1, fun o ho => (h.2.1 o ho).below hb, fun hl => ?_⟩
  obtain ⟨b, o, rfl, hlt, hc⟩ := h.2.2 hl
  refine ⟨b, o, rfl, Nat.lt_of_lt_of_le hlt hb.size, fun i hi => ?_⟩
  obtain ⟨h1, h2, h3, h4, h5, h6⟩ := hc i hi
  exact ⟨(hb.cell (p := ⟨b, _, none⟩) hlt).trans h1, (hb.cell (p := ⟨b, _, none⟩) hlt).trans h2, (hb.cell (p := ⟨b, _, none⟩) hlt).trans h3, (hb.cell (p := ⟨b, _, none⟩) hlt).trans h4, (hb.cell (p := ⟨b, _, none⟩) hlt).trans h5, (hb.cell (p := ⟨b, _, none⟩) hlt).trans h6⟩
theorem inl_offg {w wr u : World} {A : Option Addr} {l : List Ch} {g : Nat} (h : InL w A l) (hb : Below w.heap.size w wr) (hle : w.heap.size ≤ g) (hg : wr.grownBy u (some g)) : InL u A l :=
  h.below (hb.grown hg hb.size (fun r e => by cases e; exact hle))
def stepQ (S : QS) (o : OpV) : QS := if longB o = true then S else { (callM S o).2 with B := anyB }
def playQ (ops : List OpV) : QS := (ops.take 60).foldl stepQ (QS.zero anyB)
theorem stepQ_B {S : QS} (h : S.B = anyB) (o : OpV) : (stepQ S o).B = anyB := by unfold stepQ; split; exact h; rfl
theorem QOk.rebase {S : QS} {B : Nat → Prop} (h : QOk S) : QOk { S with B := B } := ⟨h.room, h.g0, h.last⟩
theorem stepQ_ok {S : QS} (h : QOk S) (hd : S.ws.Pairwise fun a b => a.n ≠ b.n) (o : OpV) : QOk (stepQ S o) := by
  unfold stepQ; split; exact h; exact (h.call hd o).rebase
end Go.Proofs.YtlliaihmfimdoaaGreat.Qu

namespace Go.Proofs.YtlliaihmfimdoaaGreat.Qu
open Go.RowKit Go.ChangeShapes Go.WideShapes Go.Joins Go.Deep Go.Maps
set_option linter.unusedVariables false

theorem add_spotB {w : World} {a : Addr} {v : Value} (h : w.cell? a = some v) : ∃ b o, a = ⟨b, o, none⟩ ∧ b < w.heap.size := by
  have hs := World.cell?_spot h
  have hl := World.block_lt_of_cell? _ _ h
  obtain ⟨b, o, s⟩ := a
  simp only at hs hl
  subst hs
  exact ⟨b, o, rfl, hl⟩
section
variable {H : Type} {enc : TypeId × Value → H} {P : Program} {W : World} {base : Nat} {spare : Nat → Bool} {held : Bool}
theorem i64_trodB {t : TypeId} {n : Nat} {v : Value} {y : DataW H × List MemPlace} (ht : P.underlying t = some (.int .i64)) (h : DataW.trod enc P W base spare held n t [v] = some y) :
    ∃ a : Int, v = .int .i64 a ∧ -9223372036854775808 ≤ a ∧ a ≤ 9223372036854775807 := by
  obtain ⟨a, e, _, hw⟩ := DataW.trod_int ht h
  simp at e
  exact ⟨a, e, i64_bd hw⟩
theorem u64_trodB {t : TypeId} {n : Nat} {v : Value} {y : DataW H × List MemPlace} (ht : P.underlying t = some (.int .u64)) (h : DataW.trod enc P W base spare held n t [v] = some y) :
    ∃ a : Nat, v = .int .u64 (a : Nat) ∧ a < 18446744073709551616 := by
  obtain ⟨a, e, _, hw⟩ := DataW.trod_int ht h
  simp at e
  obtain ⟨n, rfl, hn⟩ := u64_nat hw
  exact ⟨n, e, hn⟩
theorem u32_trodB {t : TypeId} {n : Nat} {v : Value} {y : DataW H × List MemPlace} (ht : P.underlying t = some (.int .u32)) (h : DataW.trod enc P W base spare held n t [v] = some y) :
    ∃ a : Nat, v = .int .u32 (a : Nat) ∧ a < 4294967296 := by
  obtain ⟨a, e, _, hw⟩ := DataW.trod_int ht h
  simp at e
  obtain ⟨n, rfl, hn⟩ := u32_nat hw
  exact ⟨n, e, hn⟩
theorem bool_trodB {t : TypeId} {n : Nat} {v : Value} {y : DataW H × List MemPlace} (ht : P.underlying t = some .bool) (h : DataW.trod enc P W base spare held n t [v] = some y) :
    ∃ a : Bool, v = .bool a := by
  obtain ⟨a, e, _⟩ := DataW.trod_bool ht h
  simp at e
  exact ⟨a, e⟩
end
def InLs (w : World) (A : Option Addr) (l : List Ch) : Prop := l.length ≤ maxLen ∧ InL w A l
section
variable {H : Type} {enc : TypeId × Value → H} {W : World}
set_option maxRecDepth 1000000 in
theorem ch_trod {fuel : Nat} {v : Value} {y : DataW H × List MemPlace} (hf : DataW.trod enc Tryz.prog W 0 (fun _ => true) true fuel 40 [v] = some y) :
    ∃ A ops c, v = .slice A (List.length ops) c ∧ InLs W A ops := by
  have hC : Tryz.prog.cellsOf 74 = 3 := by kernel_rfl
  rcases open_slice Tryz.underlying40 hf with ⟨hcs, _⟩ | ⟨x, len, cap, m, n, D, Pl, hcs, _, hl, hm, hmm, _, hi⟩
  · simp at hcs
    subst hcs
    exact ⟨none, [], 0, rfl, by simp [maxLen], fun h => absurd h (by simp)⟩
  · simp at hcs
    subst hcs
    simp only [if_true] at hmm
    subst hmm
    have each : ∀ i, i < m → ∃ o : Ch, W.cell? (x.add (i * 3)) = some (.int .i64 o.k) ∧ W.cell? ((x.add (i * 3)).add 1) = some (.int .i64 o.y) ∧ W.cell? ((x.add (i * 3)).add 2) = some (.int .u64 (o.v : Nat)) := by
      intro i him
      obtain ⟨cs', hc, ht⟩ := hi i him
      rw [hC] at hc
      obtain ⟨_, hcl, hat⟩ := World.cells?_some hc
      obtain ⟨xs, n', _, _, _, hxl, hf'⟩ := DataW.trod_struct Tryz.underlying74 ht
      match cs', hcl with
      | [c0, c1, c2], _ =>
        match xs, hxl with
        | [y0, y1, y2], _ =>
          have g0 := hf' 0 _ rfl
          have g1 := hf' 1 _ rfl
          have g2 := hf' 2 _ rfl
          have e_0 : Tryz.prog.cellsOf 3 = 1 := by kernel_rfl
          have e_1 : Tryz.prog.cellsOf 39 = 1 := by kernel_rfl
          simp [e_0, e_1] at g0 g1 g2
          obtain ⟨z0, rfl, b0, d0⟩ := i64_trodB Tryz.underlying3 g0
          obtain ⟨z1, rfl, b1, d1⟩ := i64_trodB Tryz.underlying3 g1
          obtain ⟨z2, rfl, b2⟩ := u64_trodB Tryz.underlying39 g2
          have a0 := hat 0 (by omega)
          have a1 := hat 1 (by omega)
          have a2 := hat 2 (by omega)
          have ez : (x.add (i * 3)).add 0 = x.add (i * 3) := by simp [Addr.add]
          rw [ez] at a0
          exact ⟨⟨z0, z1, z2⟩, a0, a1, a2⟩
    let f : Nat → Ch := fun i => if h : i < m then (each i h).choose else ⟨0, 0, 0⟩
    have hf1 : ∀ i, (h : i < m) → W.cell? (x.add (i * 3)) = some (.int .i64 (f i).k) ∧ W.cell? ((x.add (i * 3)).add 1) = some (.int .i64 (f i).y) ∧ W.cell? ((x.add (i * 3)).add 2) = some (.int .u64 ((f i).v : Nat)) := by
      intro i h
      have := (each i h).choose_spec
      simp only [f, dif_pos h]
      exact this
    refine ⟨some x, (List.range len).map f, _, by simp; rfl, by simp; omega, fun hpos => ?_⟩
    · have hpos' : 0 < len := by simpa using hpos
      have h00 := (hf1 0 (by omega)).1
      have ez : x.add (0 * 3) = x := by simp [Addr.add]
      rw [ez] at h00
      obtain ⟨b, o, rfl, hlt⟩ := add_spotB h00
      refine ⟨b, o, rfl, hlt, fun i hi' => ?_⟩
      have hi2 : i < len := by simpa using hi'
      have := (hf1 i (by omega))
      simp only [Addr.add_lit] at this
      simpa using this
end
def UAts (w : World) (A : Option Addr) (zs : List Nat) : Prop := zs.length ≤ maxLen ∧ UAt w A zs
section
variable {H : Type} {enc : TypeId × Value → H} {W : World}
set_option maxRecDepth 1000000 in
theorem u64s_trod {fuel : Nat} {v : Value} {y : DataW H × List MemPlace} (hf : DataW.trod enc Tryz.prog W 0 (fun _ => true) true fuel 52 [v] = some y) :
    ∃ A zs c, v = .slice A (List.length zs) c ∧ UAts W A zs := by
  rcases open_ints Tryz.underlying52 Tryz.underlying39 (by kernel_rfl) hf with ⟨hcs, _⟩ | ⟨x, l, c, zs, hcs, _, hl, hm, hz, _, hcell, hwz⟩
  · simp at hcs
    subst hcs
    exact ⟨none, [], 0, rfl, by simp [maxLen], fun h => absurd h (by simp)⟩
  · simp at hcs
    subst hcs
    simp at hz
    refine ⟨some x, (zs.take l).map Int.toNat, c, by simp; omega, by simp; omega, fun hn => ?_⟩
    have hn' : 0 < l := by simp at hn; omega
    have h0 := hcell 0 (by omega)
    obtain ⟨b, o, e0, hlt⟩ := add_spotB h0
    obtain ⟨xb, xo, xs⟩ := x
    simp [Addr.add] at e0
    obtain ⟨rfl, e1, e2⟩ := e0
    subst e2
    refine ⟨xb, xo, rfl, hlt, fun i hi => ?_⟩
    have hi' : i < l := by simp at hi; omega
    have hil : i < zs.length := by omega
    have hci := hcell i (by omega)
    rw [Addr.add_lit] at hci
    rw [hci]
    have hw := hwz (zs[i]'hil) (List.getElem_mem hil)
    obtain ⟨nn, hnn, _⟩ := u64_nat hw
    simp [List.getD, List.getElem?_eq_getElem hil]
    rw [hnn]; simp
set_option maxRecDepth 1000000 in
theorem open_u64s {r : Reach} {b0 : Nat} {v : Value} {d : DataW H} {p : List MemPlace} (hval : Value.okWide Tryz.prog W r b0 52 v) (h : DataW.Trod enc Tryz.prog W 0 (fun _ => true) true 52 v d p) :
    ∃ A zs c, v = .slice A (List.length zs) c ∧ UAts W A zs := by
  obtain ⟨a, len, cap, rfl⟩ := okWide_slice Tryz.underlying52 hval
  obtain ⟨fuel, hf⟩ := h
  exact u64s_trod hf
end
section
variable {H : Type} {enc : TypeId × Value → H} {W : World}
end
section
variable {H : Type} {enc : TypeId × Value → H} {W : World}
end
theorem array6 {α : Type} {cs : Array α} (h : cs.size = 6) : ∃ c0 c1 c2 c3 c4 c5, cs = #[c0, c1, c2, c3, c4, c5] := by
  obtain ⟨l⟩ := cs
  match l, h with
  | [c0, c1, c2, c3, c4, c5], _ => exact ⟨c0, c1, c2, c3, c4, c5, rfl⟩
section
variable {H : Type} {enc : TypeId × Value → H} {W : World}
end
end Go.Proofs.YtlliaihmfimdoaaGreat.Qu

namespace Go.Proofs.YtlliaihmfimdoaaGreat.Qu
open Go.RowKit Go.Maps Go.Deep
set_option linter.unusedVariables false
set_option linter.unusedSimpArgs false

theorem ixsF_app : ∀ (a b : List IT) (k : Nat), ixsF k (a ++ b) = ixsF k a ++ ixsF (k + a.length) b
  | [], b, k => by simp [ixsF]
  | x :: a, b, k => by
    simp only [List.cons_append, ixsF, ixsF_app a b (k + 1), List.length_cons]
    rw [show k + 1 + a.length = k + (a.length + 1) by omega]
theorem ixsF_mem : ∀ (a : List IT) (k : Nat) (x : Nat × IT), x ∈ ixsF k a → x.2 ∈ a
  | [], k, x, h => by cases h
  | y :: a, k, x, h => by
    rcases List.mem_cons.1 h with rfl | h
    · exact List.mem_cons_self ..
    · exact List.mem_cons_of_mem _ (ixsF_mem a _ x h)
theorem front_app (a b : List IT) (n : Int) (ha : ∀ x ∈ a, x.t = n) : frontR (a ++ b) n = match (ixsF a.length b).find? (fun x => decide (x.2.t ≠ n)) with
    | none => (0, 140)
    | some x => if x.2.t = 0 then (x.1, 0) else (0, 120) := by
  unfold frontR ixs
  rw [ixsF_app, List.find?_append, Nat.zero_add]
  have e : (ixsF 0 a).find? (fun x => decide (x.2.t ≠ n)) = none := by
    rw [List.find?_eq_none]
    intro x hx
    simp [ha _ (ixsF_mem a 0 x hx)]
  rw [e]
  rfl
theorem front_att (a : List IT) (x : IT) (b : List IT) (n : Int) (ha : ∀ x ∈ a, x.t = n) (hx : x.t ≠ n) : frontR (a ++ x :: b) n = if x.t = 0 then (a.length, 0) else (0, 120) := by
  rw [front_app a _ n ha]
  unfold ixsF
  rw [List.find?_cons_of_pos (by simpa using hx)]
theorem front_end (a : List IT) (n : Int) (ha : ∀ x ∈ a, x.t = n) : frontR a n = (0, 140) := by
  have := front_app a [] n ha
  rw [List.append_nil] at this
  rw [this]; rfl
theorem loadF_t : ∀ (l : List Nat) (k : Int) (x : IT), x ∈ loadF k l → x.t = 0
  | [], k, x, h => by cases h
  | v :: r, k, x, h => by
    rcases List.mem_cons.1 h with rfl | h
    · rfl
    · exact loadF_t r _ x h
theorem loadF_v : ∀ (l : List Nat) (k : Int), (loadF k l).map IT.v = l
  | [], k => rfl
  | v :: r, k => by simp [loadF, loadF_v r]
theorem givenI_v (L : List IT) (n : Int) (j : Nat) : (givenI L n j).map IT.v = L.map IT.v := by
  unfold givenI
  rw [List.map_append, List.map_map]
  have : (IT.v ∘ fun x : IT => ({ x with t := n } : IT)) = IT.v := rfl
  rw [this, ← List.map_append, List.take_append_drop]
def orderS (L : List IT) (g : Int) (j : Nat) : QS := ⟨anyB, givenI L 1 j, g, if j = 0 then [] else [⟨1, (L.take j).map (fun x => (⟨4, x.n, x.v⟩ : Ch)), false⟩]⟩
theorem order_cur (L : List IT) (g : Int) (j : Nat) : curQ (orderS L g j).ws 1 = ((L.take j).map (fun x => (⟨4, x.n, x.v⟩ : Ch)), false) := by
  unfold orderS
  dsimp only
  split
  · rename_i e; subst e; rfl
  · rfl
theorem order_open (L : List IT) (g : Int) (j : Nat) : openE (orderS L g j) 1 = 0 := by
  unfold openE
  rw [if_neg (by omega), order_cur]; rfl
theorem given_left (L : List IT) (j : Nat) : ∀ x ∈ (L.take j).map (fun x => ({ x with t := 1 } : IT)), x.t = 1 := by
  intro x hx
  obtain ⟨y, _, rfl⟩ := List.mem_map.1 hx
  rfl
theorem order_take (L : List IT) (g : Int) (j : Nat) (h : j < L.length) (ht : ∀ x ∈ L, x.t = 0) : takeM (orderS L g j) 1 = (((L[j]'h).v, 0), orderS L g (j + 1)) := by
  have hl : ((L.take j).map (fun x => ({ x with t := 1 } : IT))).length = j := by rw [List.length_map, List.length_take]; omega
  have e1 : L.drop j = L[j]'h :: L.drop (j + 1) := List.drop_eq_getElem_cons h
  have hI : (orderS L g j).I = (L.take j).map (fun x => ({ x with t := 1 } : IT)) ++ L[j]'h :: L.drop (j + 1) := by unfold orderS givenI; dsimp only; rw [e1]
  have h0 : (L[j]'h).t = 0 := ht _ (List.getElem_mem h)
  have hf : frontR (orderS L g j).I 1 = (j, 0) := by
    rw [hI, front_att _ _ _ 1 (given_left L j) (by rw [h0]; decide), if_pos h0, hl]
  have hat : (orderS L g j).I[j]? = some (L[j]'h) := by
    rw [hI, List.getElem?_append_right (by rw [hl]; exact Nat.le_refl _), hl, Nat.sub_self]; rfl
  unfold takeM
  rw [if_neg (by rw [order_open]; simp), hf]
  dsimp only
  rw [if_neg (by simp), hat]
  dsimp only
  congr 1
  have hI2 : giveI (orderS L g j).I j 1 = givenI L 1 (j + 1) := givenI_step L 1 j h
  have hw : addQ (orderS L g j).ws 1 ⟨4, (L[j]'h).n, (L[j]'h).v⟩ = [⟨1, (L.take (j + 1)).map (fun x => (⟨4, x.n, x.v⟩ : Ch)), false⟩] := by
    unfold addQ
    rw [order_cur]
    have e2 : L.take (j + 1) = L.take j ++ [L[j]'h] := by rw [List.take_add_one, List.getElem?_eq_getElem h]; rfl
    rw [e2, List.map_append]
    unfold orderS
    dsimp only
    split
    · rfl
    · rfl
  rw [hI2, hw]
  rfl
theorem order_empty (L : List IT) (g : Int) : takeM (orderS L g L.length) 1 = ((0, 140), orderS L g L.length) := by
  have hI : (orderS L g L.length).I = (L.take L.length).map (fun x => ({ x with t := 1 } : IT)) := by unfold orderS givenI; simp
  have hf : frontR (orderS L g L.length).I 1 = (0, 140) := by rw [hI]; exact front_end _ _ (given_left L _)
  unfold takeM
  rw [if_neg (by rw [order_open]; simp), hf, if_pos (by simp)]
theorem news_takes : ∀ (l : List IT) (g : Int), newsQ g (l.map (fun x => (⟨4, x.n, x.v⟩ : Ch))) = [] ∧ putsL (l.map (fun x => (⟨4, x.n, x.v⟩ : Ch))) = 0
  | [], g => ⟨rfl, rfl⟩
  | x :: r, g => ⟨by
      have := (news_takes r g).1
      rw [List.map_cons]; unfold newsQ; rw [if_neg (fun e => by cases e)]; exact this, by
      have := (news_takes r g).2
      unfold putsL at this ⊢
      rw [List.map_cons, List.filter_cons]; simp⟩
theorem order_commit (L : List IT) (g : Int) : (commitM (orderS L g L.length) 1).2.I = [] ∧ (commitM (orderS L g L.length) 1).2.g = g := by
  have hI : (orderS L g L.length).I = (L.take L.length).map (fun x => ({ x with t := 1 } : IT)) := by unfold orderS givenI; simp
  have hk : keptI (orderS L g L.length).I 1 = [] := by
    rw [hI]; unfold keptI
    rw [List.filter_eq_nil_iff]
    intro x hx
    simp [given_left L _ x hx]
  unfold commitM
  rw [if_neg (by omega), order_cur, hk, (news_takes _ _).1, (news_takes _ 0).2]
  exact ⟨rfl, by show g + ((0 : Nat) : Int) = g; omega⟩
end Go.Proofs.YtlliaihmfimdoaaGreat.Qu
