/- Parts Tx Bo Bp OpenB of one proof. -/
import Derived.Test.YtlliaihmfimdoaaGreatMg26
import Derived.Test.YtlliaihmfimdoaaGreatMg23
import Derived.Test.YtlliaihmfimdoaaGreatMg01
import Derived.Lib.SmallJoins
import Derived.Deep.Slices
namespace Go.Proofs.YtlliaihmfimdoaaGreat.Re
open Go.RowKit Go.Maps Go.Proofs.YtlliaihmfimdoaaGreat
set_option linter.unusedVariables false
set_option linter.unusedSimpArgs false

theorem num_putL (v n : Nat) : Oc.num (Oc.putL v n) = v % 256 ^ n := by
  induction n generalizing v with
  | zero => simp [Oc.putL, Oc.num, Nat.mod_one]
  | succ n ih =>
    rw [Oc.putL, Oc.num_snoc, ih]
    have h1 : (UInt8.ofNat (v % 256)).toNat = v % 256 := by simp
    rw [h1, Nat.pow_succ]
    have h2 := Nat.mod_mul (x := v) (a := 256) (b := 256 ^ n)
    rw [Nat.mul_comm (256 ^ n) 256, h2]
    omega
/-- A change that can be written, with its bounds. -/
def WOk (x : Ch) : Prop := badC x = false ∧ x.y ≤ 9223372036854775807 ∧ x.v < 18446744073709551616
theorem chg_rec {x : Ch} (h : WOk x) : chg (recB x) = if 4611686018427387904 < x.y then (⟨0, 0, 0⟩, 30) else (x, 0) := by
  obtain ⟨h1, h2, h3⟩ := h
  unfold badC at h1
  simp at h1
  obtain ⟨k, y, v⟩ := x
  dsimp only at h1 h2 h3 ⊢
  obtain ⟨k, rfl⟩ := Int.eq_ofNat_of_zero_le (show 0 ≤ k by omega)
  obtain ⟨y, rfl⟩ := Int.eq_ofNat_of_zero_le (show 0 ≤ y by omega)
  have p8 : (256 : Nat) ^ 8 = 18446744073709551616 := by decide
  have tk : ∀ (a b : List UInt8) (n : Nat), a.length = n → (a ++ b).take n = a ∧ (a ++ b).drop n = b := by rintro a b _ rfl; exact ⟨List.take_left, List.drop_left⟩
  have hl1 : (Oc.putL k 1).length = 1 := Oc.putL_length _ _
  have hl2 : (Oc.putL y 8).length = 8 := Oc.putL_length _ _
  have er : recB ⟨(k : Int), (y : Int), v⟩ = Oc.putL k 1 ++ (Oc.putL y 8 ++ Oc.putL v 8) := by unfold recB; rw [Int.toNat_natCast, Int.toNat_natCast]
  have e1 : (recB ⟨(k : Int), (y : Int), v⟩).take 1 = Oc.putL k 1 := by rw [er]; exact (tk _ _ 1 hl1).1
  have d1 : (recB ⟨(k : Int), (y : Int), v⟩).drop 1 = Oc.putL y 8 ++ Oc.putL v 8 := by rw [er]; exact (tk _ _ 1 hl1).2
  have e2 : ((recB ⟨(k : Int), (y : Int), v⟩).drop 1).take 8 = Oc.putL y 8 := by rw [d1]; exact (tk _ _ 8 hl2).1
  have e3 : (recB ⟨(k : Int), (y : Int), v⟩).drop 9 = Oc.putL v 8 := by
    have : (recB ⟨(k : Int), (y : Int), v⟩).drop 9 = ((recB ⟨(k : Int), (y : Int), v⟩).drop 1).drop 8 := by rw [List.drop_drop]
    rw [this, d1]; exact (tk _ _ 8 hl2).2
  have n1 : Oc.num (Oc.putL k 1) = k := by rw [num_putL, Nat.pow_one]; exact Nat.mod_eq_of_lt (by omega)
  have n2 : Oc.num (Oc.putL y 8) = y := by rw [num_putL, p8]; exact Nat.mod_eq_of_lt (by omega)
  have n3 : Oc.num (Oc.putL v 8) = v := by rw [num_putL, p8]; exact Nat.mod_eq_of_lt h3
  unfold chg
  rw [e2, e1, e3, n1, n2, n3]
  by_cases hy : 4611686018427387904 < y
  · rw [if_pos (.inr (.inr hy)), if_pos (by omega)]
  · rw [if_neg (by omega), if_neg (by omega)]
theorem bytesC_app (a b : List Ch) : bytesC (a ++ b) = bytesC a ++ bytesC b := by unfold bytesC; rw [List.flatMap_append]
theorem pcC_bytes (l : List Ch) (i : Nat) (h : i < l.length) : pcC (bytesC l) i = recB (l[i]'h) := by
  have e : l = l.take i ++ (l[i]'h :: l.drop (i + 1)) := by rw [← List.drop_eq_getElem_cons h, List.take_append_drop]
  have e2 : bytesC l = bytesC (l.take i) ++ (recB (l[i]'h) ++ bytesC (l.drop (i + 1))) := by
    conv => lhs; rw [e]
    rw [bytesC_app]
    rfl
  have hlen : (bytesC (l.take i)).length = 17 * i := by rw [bytesC_len, List.length_take]; omega
  unfold pcC
  rw [e2, ← hlen, List.drop_left]
  have h17 := recB_len (l[i]'h)
  rw [List.take_append_of_le_length (by omega), List.take_of_length_le (by omega)]
def bigY (x : Ch) : Bool := decide (4611686018427387904 < x.y)
theorem read_back {l : List Ch} (h48 : l.length ≤ 48) (h : ∀ x ∈ l, WOk x) : readC (bytesC l) = if l.any bigY = true then ([], 30) else (l, 0) := by
  have hlen := bytesC_len l
  have hm : (bytesC l).length / 17 = l.length := by omega
  have hc : ∀ i (hi : i < l.length), chg (pcC (bytesC l) i) = if 4611686018427387904 < (l[i]'hi).y then (⟨0, 0, 0⟩, 30) else (l[i]'hi, 0) := fun i hi => by
    rw [pcC_bytes l i hi]; exact chg_rec (h _ (List.getElem_mem hi))
  unfold readC
  rw [if_neg (by omega), hm, if_neg (by omega)]
  by_cases hb : l.any bigY = true
  · rw [if_pos hb, if_neg]
    intro hall
    rw [List.all_eq_true] at hall
    obtain ⟨x, hx, hxb⟩ := List.any_eq_true.1 hb
    obtain ⟨i, hi, rfl⟩ := List.mem_iff_getElem.1 hx
    have h1 := hall i (List.mem_range.2 hi)
    rw [hc i hi, if_pos (by unfold bigY at hxb; simpa using hxb)] at h1
    simp at h1
  · rw [if_neg hb]
    have hnb : ∀ i (hi : i < l.length), ¬ 4611686018427387904 < (l[i]'hi).y := fun i hi hy => hb (List.any_eq_true.2 ⟨_, List.getElem_mem hi, by unfold bigY; simpa using hy⟩)
    have hall : (List.range l.length).all (fun i => (chg (pcC (bytesC l) i)).2 == 0) = true := by
      rw [List.all_eq_true]
      intro i hi
      have hi := List.mem_range.1 hi
      rw [hc i hi, if_neg (hnb i hi)]; rfl
    rw [if_pos hall]
    congr 1
    unfold chsC
    refine List.ext_getElem (by rw [List.length_map, List.length_range]) fun i h1 h2 => ?_
    rw [List.getElem_map, List.getElem_range, hc i h2, if_neg (hnb i h2)]
theorem write_ok {l : List Ch} (h48 : l.length ≤ 48) (h : ∀ x ∈ l, badC x = false) : writeC l = (bytesC l, 0) := by
  unfold writeC
  rw [if_neg (by omega), if_neg]
  intro hb
  obtain ⟨x, hx, hxb⟩ := List.any_eq_true.1 hb
  rw [h x hx] at hxb
  cases hxb
end Go.Proofs.YtlliaihmfimdoaaGreat.Re

namespace Go.Proofs.YtlliaihmfimdoaaGreat
open Go.RowKit Go.Maps
set_option linter.unusedVariables false
set_option linter.unusedSimpArgs false

/-! ### one work's calls on a store that is its own -/
def rowO (n y : Int) : Option Bool → List LRow
  | none => []
  | some b => [(y, n, b)]
def lastS (n y : Int) (c : Option Ch) (p : Bool) (a : Option Bool) : KS := ⟨anyB, fun _ => (0, false), fun j => if j = n then c.map (fun x => ([x], p)) else none, rowO n y a⟩
theorem take_last (n y : Int) (a : Option Bool) (al : Bool) : takeL (rowO n y a) n y al = (0, rowO n y (some ((a.getD false) || al))) := by
  rcases a with _ | b
  · simp [takeL, clashL, rowO, heldL, putL, aloneL]
  · simp [takeL, clashL, rowO, heldL, putL, aloneL, atB]
theorem open_last {n y : Int} (hn : 1 ≤ n) (hy : keyB y = true) (c : Option Ch) (a : Option Bool) (al : Bool) : openM (lastS n y c false a) n y al = (0, lastS n y c false (some ((a.getD false) || al))) := by
  unfold openM
  rw [if_neg (by simp [hy]; omega), if_neg (by unfold curW lastS; rcases c with _ | x <;> simp)]
  have := take_last n y a al
  show ((takeL (rowO n y a) n y al).1, { lastS n y c false a with L := (takeL (rowO n y a) n y al).2 }) = _
  rw [this]; rfl
theorem cur_last (n y : Int) (c : Option Ch) (p : Bool) (a : Option Bool) : curW (lastS n y c p a) n = ((c.map (fun x => ([x], p))).getD ([], false)) := by unfold curW lastS; simp
theorem upd_last (n y : Int) (c : Option Ch) (p : Bool) (a : Option Bool) (x : Ch) (q : Bool) : updW (lastS n y c p a).W n (some ([x], q)) = (lastS n y (some x) q a).W := by
  funext j; unfold updW lastS; dsimp only; split <;> rfl
theorem change_last {n y : Int} (hn : 1 ≤ n) (hy : keyB y = true) (c : Option Ch) (hc : ∀ x, c = some x → x.y = y) (a : Option Bool) (x : Ch) (hx : x.y = y) : changeM (lastS n y c false a) n x = (0, lastS n y (some x) false (some true)) := by
  have ho := open_last hn hy c a true
  rw [← hx] at ho ⊢
  unfold changeM
  rw [ho]
  simp only [if_true, Bool.or_true]
  have hw : withL (curW (lastS n x.y c false a) n).1 x = [x] := by
    rw [cur_last]
    rcases c with _ | x0
    · rfl
    · have := hc x0 rfl
      simp [withL, posN, this, hx]
  rw [hw]
  congr 1
  show (⟨anyB, _, updW (lastS n x.y c false a).W n (some ([x], false)), _⟩ : KS) = _
  rw [upd_last]; rfl
theorem get_last {n y : Int} (hn : 1 ≤ n) (hy : keyB y = true) (c : Option Ch) (hc : ∀ x, c = some x → x.y = y) (a : Option Bool) : getM (lastS n y c false a) n y = (((c.map (·.v)).getD 0, (c.map (fun x => x.k == 1)).getD false, 0), lastS n y c false (some (a.getD false))) := by
  have ho := open_last hn hy c a false
  unfold getM
  rw [ho]
  simp only [if_true, Bool.or_false]
  rw [cur_last]
  rcases c with _ | x0
  · simp [posN, valM, lastS, hy]
  · have := hc x0 rfl
    simp [posN, this]
theorem prep_last {n y : Int} (hn : 1 ≤ n) (x : Ch) (a : Option Bool) : prepM (lastS n y (some x) false a) n = (([x], 0), lastS n y (some x) true a) := by
  unfold prepM
  rw [if_neg (by omega), cur_last, if_neg (by simp), if_neg (by simp [lastS])]
  congr 1
  show (⟨anyB, _, updW (lastS n y (some x) false a).W n (some ([x], true)), _⟩ : KS) = _
  rw [upd_last]; rfl
theorem prep_last0 {n y : Int} (hn : 1 ≤ n) (a : Option Bool) : (prepM (lastS n y none false a) n).1 = ([], 0) ∧ (prepM (lastS n y none false a) n).2.V = fun _ => (0, false) := by
  unfold prepM
  rw [if_neg (by omega), cur_last, if_neg (by simp), if_pos (by simp [lastS])]
  exact ⟨rfl, rfl⟩
theorem commit_val {S : KS} {n : Int} (hn : 1 ≤ n) : (commitM S n).2.V = (curW S n).1.foldl setV S.V := by
  unfold commitM; rw [if_neg (by omega)]; rfl
theorem bad_open {S : KS} {n y : Int} (h : n < 1 ∨ keyB y = false) (al : Bool) : openM S n y al = (1, S) := if_pos h
theorem bad_change {S : KS} {n : Int} {x : Ch} (h : n < 1 ∨ keyB x.y = false) : changeM S n x = (1, S) := by
  unfold changeM; rw [bad_open h]; rfl
theorem bad_get {S : KS} {n y : Int} (h : n < 1 ∨ keyB y = false) : getM S n y = ((0, false, 1), S) := by
  unfold getM; rw [bad_open h]; rfl

/-! ### two works at one key -/
theorem openM_refused {S : KS} {n y : Int} {al : Bool} (h : (openM S n y al).1 ≠ 0) : (openM S n y al).2 = S := by
  unfold openM at h ⊢
  split
  · rfl
  · split
    · rfl
    · rename_i h1 h2
      rw [if_neg h1, if_neg h2] at h
      have := take_not (L := S.L) (L' := (takeL S.L n y al).2) (o := n) (k := y) (a := al) (r := (takeL S.L n y al).1) rfl h
      show ({ S with L := (takeL S.L n y al).2 } : KS) = S
      rw [this.1]
theorem changeM_refused {S : KS} {n : Int} {x : Ch} (h : (openM S n x.y true).1 ≠ 0) : changeM S n x = ((openM S n x.y true).1, S) := by
  unfold changeM; rw [if_neg h]
  have := openM_refused h
  exact Prod.ext rfl this
theorem getM_refused {S : KS} {n y : Int} (h : (openM S n y false).1 ≠ 0) : getM S n y = ((0, false, (openM S n y false).1), S) := by
  unfold getM; rw [if_neg h, openM_refused h]
theorem openM_clash {S : KS} {n y : Int} {al : Bool} {x : LRow} (hx : x ∈ S.L) (h1 : x.1 = y) (h2 : x.2.1 ≠ n) (h3 : x.2.2 = true) : (openM S n y al).1 ≠ 0 := by
  unfold openM
  split
  · simp
  · split
    · simp
    · have hc : clashL S.L n y al = false ∨ True := .inr trivial
      have hcl : clashL S.L y n al = true := clash_yes hx h1 h2 h3
      unfold takeL
      rw [if_pos hcl]
      simp
theorem withL_pos (l : List Ch) (x : Ch) : (withL l x)[posN (withL l x) x.y]? = some x := by
  unfold withL
  split
  · rename_i hlt
    have e : posN (l.set (posN l x.y) x) x.y = posN l x.y := by
      have hl2 : posN l x.y < (l.set (posN l x.y) x).length := by rw [List.length_set]; exact hlt
      show List.findIdx _ _ = _
      rw [List.findIdx_eq hl2]
      refine ⟨by simp, fun j hj => ?_⟩
      have hne : posN l x.y ≠ j := by omega
      rw [List.getElem_set_ne hne]
      have := List.not_of_lt_findIdx (show j < List.findIdx (fun z => decide (z.y = x.y)) l from hj)
      simpa using this
    rw [e, List.getElem?_set_self hlt]
  · rename_i hge
    have e : posN (l ++ [x]) x.y = l.length := by
      have hle := posN_le l x.y
      have heq : List.findIdx (fun z : Ch => decide (z.y = x.y)) l = l.length := by unfold posN at hle hge; omega
      unfold posN
      rw [List.findIdx_append, heq]
      simp
    rw [e]; simp
theorem alone_facts {S S1 : KS} {n y : Int} {v : Nat} (h : changeM S n ⟨1, y, v⟩ = (0, S1)) : (y, n, true) ∈ S1.L ∧ (∃ S2, getM S1 n y = ((v, true, 0), S2)) ∧ S1.B = S.B := by
  have hB := changeM_B S n ⟨1, y, v⟩
  rw [h] at hB
  unfold changeM at h
  split at h
  · rename_i h0
    injection h with _ h2
    have hok := openM_ok h0
    have hL : S1.L = putL S.L y n true ∧ clashL S.L y n true = false := by
      rw [← h2]
      show (openM S n y true).2.L = _ ∧ _
      unfold openM at h0 ⊢
      have e1 : ¬ (n < 1 ∨ keyB y = false) := by
        rintro (h | h)
        · have := hok.2.1; omega
        · have := hok.2.2; rw [h] at this; cases this
      have e2 : ¬ ((curW S n).2 = true) := by rw [hok.1]; simp
      rw [if_neg e1, if_neg e2] at h0 ⊢
      have := take_ok (L := S.L) (L' := (takeL S.L n y true).2) (o := n) (k := y) (a := true) (r := (takeL S.L n y true).1) rfl h0
      refine ⟨?_, this.1⟩
      show (takeL S.L n y true).2 = _
      rw [this.2, Bool.or_true]
    have hW : S1.W = updW S.W n (some (withL (curW S n).1 ⟨1, y, v⟩, false)) := by rw [← h2]
    refine ⟨by rw [hL.1]; exact put_new _ _ _ _, ?_, hB⟩
    have hcur : curW S1 n = (withL (curW S n).1 ⟨1, y, v⟩, false) := by show (S1.W n).getD _ = _; rw [hW]; simp [updW]
    have hcl : clashL S1.L y n false = false := by
      unfold clashL
      rw [List.any_eq_false]
      intro x hx hc
      rw [hL.1] at hx
      rcases put_mem hx with rfl | ⟨hx, hne⟩
      · simp at hc
      · simp only [Bool.and_eq_true, decide_eq_true_eq, Bool.not_eq_true', decide_eq_false_iff_not] at hc
        have := clash_no hL.2 hx hc.1.1 hc.1.2
        simp at this
    have hheld : heldL S1.L y n = true := by rw [hL.1]; exact held_iff.2 ⟨_, put_new _ _ _ _, rfl, rfl⟩
    have ho : (openM S1 n y false).1 = 0 := by
      unfold openM
      rw [if_neg (by rintro (h | h); have := hok.2.1; omega; have := hok.2.2; rw [h] at this; cases this), if_neg (by rw [hcur]; simp)]
      show (takeL S1.L n y false).1 = 0
      unfold takeL
      rw [hcl, if_neg (by simp), if_neg (by simp [hheld])]
    refine ⟨(getM S1 n y).2, ?_⟩
    obtain ⟨hp1, hp2⟩ := List.getElem?_eq_some_iff.1 (withL_pos (curW S n).1 ⟨1, y, v⟩)
    dsimp only at hp1 hp2
    have hg : getM S1 n y = ((v, true, 0), (openM S1 n y false).2) := by
      unfold getM
      rw [if_pos ho]
      rw [dif_pos (by rw [hcur]; exact hp1)]
      simp only [hcur, hp2]
      rfl
    rw [hg]
  · rename_i h0
    rw [h] at h0
    exact absurd rfl h0

/-! ### what is kept -/
theorem openM_V (S : KS) (n y : Int) (al : Bool) : (openM S n y al).2.V = S.V := (openM_W S n y al).2
theorem callM_V (S : KS) (o : OpV) (h1 : 0 ≤ o.k) (h2 : o.k ≤ 3) : (callM S o).2.V = S.V := by
  unfold callM
  by_cases k0 : o.k = 0
  · rw [if_pos k0]
    show (getM S o.n o.y).2.V = S.V
    unfold getM
    split
    · split <;> exact openM_V _ _ _ _
    · exact openM_V _ _ _ _
  · rw [if_neg k0]
    have hch : ∀ x : Ch, (changeM S o.n x).2.V = S.V := fun x => by
      unfold changeM; split <;> exact openM_V S o.n x.y true
    by_cases k1 : o.k = 1
    · rw [if_pos k1]; exact hch _
    · rw [if_neg k1]
      by_cases k2 : o.k = 2
      · rw [if_pos k2]; exact hch _
      · rw [if_neg k2, if_pos (by omega)]
        show (prepM S o.n).2.V = S.V
        unfold prepM
        split
        · rfl
        · split
          · rfl
          · split <;> rfl
theorem not_hasL_drop (L : List LRow) (n : Int) : hasL (dropL L n) n = false := by
  unfold hasL dropL
  rw [List.any_eq_false]
  intro x hx
  have := (List.mem_filter.1 hx).2
  simpa using this
theorem busy_drop (S : KS) (n : Int) : busyB (dropM S n) n = false := by
  unfold busyB dropM updW
  simp [not_hasL_drop]
end Go.Proofs.YtlliaihmfimdoaaGreat

namespace Go.Proofs.YtlliaihmfimdoaaGreat
open Go.RowKit Go.Maps
set_option linter.unusedVariables false
set_option linter.unusedSimpArgs false

/-- Numbers of 64 bits that came in. -/
def U64At (w : World) (A : Option Addr) (zs : List Nat) : Prop := zs.length ≤ maxLen ∧ (0 < zs.length → ∃ b o, A = some ⟨b, o, none⟩ ∧ b < w.heap.size ∧ ∀ i, (h : i < zs.length) → w.cell? ⟨b, o + i, none⟩ = some (.int .u64 ((zs[i]'h : Nat) : Int)))
def wantV (c : Option Ch) : Nat := (c.map (·.v)).getD 0
def wantT (c : Option Ch) : Bool := (c.map (fun x => x.k == 1)).getD false
theorem get_last2 {n y : Int} (hn : 1 ≤ n) (hy : keyB y = true) (c : Option Ch) (hc : ∀ x, c = some x → x.y = y) (a : Option Bool) : getM (lastS n y c false a) n y = ((wantV c, wantT c, 0), lastS n y c false (some (a.getD false))) := get_last hn hy c hc a
theorem last_tail {n y : Int} (hn : 1 ≤ n) (hy : keyB y = true) (c : Option Ch) (hc : ∀ x, c = some x → x.y = y) (a : Option Bool) : ∃ l S', prepM (lastS n y c false a) n = ((l, 0), S') ∧ l.length ≤ 1 ∧ S'.B = anyB ∧ valM (commitM S' n).2 y = (wantV c, wantT c) := by
  rcases c with _ | x
  · have h1 := (prep_last0 (y := y) hn a).1
    refine ⟨[], (prepM (lastS n y none false a) n).2, ?_, by simp, ?_, ?_⟩
    · rw [← h1]
    · unfold prepM; rw [if_neg (by omega), cur_last, if_neg (by simp), if_pos (by simp [lastS])]; rfl
    · unfold valM
      rw [if_pos hy, commit_val hn, (prep_last0 (y := y) hn a).2]
      have : (curW (prepM (lastS n y none false a) n).2 n).1 = [] := by
        unfold prepM; rw [if_neg (by omega), cur_last, if_neg (by simp), if_pos (by simp [lastS])]
        simp [curW, lastS]
      rw [this]; rfl
  · have hx := hc x rfl
    refine ⟨[x], _, prep_last hn x a, by simp, rfl, ?_⟩
    unfold valM
    rw [if_pos hy, commit_val hn, cur_last]
    show setV (fun _ => (0, false)) x y.toNat = _
    unfold setV
    rw [if_pos (by rw [hx])]
    rfl
theorem bad_key {n y : Int} (h : n < 1 ∨ keyB y = false) : n < 1 ∨ y < 0 ∨ 16 ≤ y := by
  rcases h with h | h
  · exact .inl h
  · unfold keyB at h; simp at h; omega
end Go.Proofs.YtlliaihmfimdoaaGreat

namespace Go.Proofs.YtlliaihmfimdoaaGreat
open Go.RowKit Go.ChangeShapes Go.WideShapes Go.Joins Go.Deep
set_option linter.unusedVariables false

theorem add_spotB {w : World} {a : Addr} {v : Value} (h : w.cell? a = some v) : ∃ b o, a = ⟨b, o, none⟩ ∧ b < w.heap.size := by
  have hs := World.cell?_spot h
  have hl := World.block_lt_of_cell? _ _ h
  obtain ⟨b, o, s⟩ := a
  simp only at hs hl
  subst hs
  exact ⟨b, o, rfl, hl⟩
section
variable {H : Type} {enc : TypeId × Value → H} {P : Program} {W : World} {base : Nat} {spare : Nat → Bool} {held : Bool}
theorem i64_trodB {t : TypeId} {n : Nat} {v : Value} {y : DataW H × List MemPlace} (ht : P.underlying t = some (.int .i64)) (h : DataW.trod enc P W base spare held n t [v] = some y) :
    ∃ a : Int, v = .int .i64 a ∧ -9223372036854775808 ≤ a ∧ a ≤ 9223372036854775807 := by
  obtain ⟨a, e, _, hw⟩ := DataW.trod_int ht h
  simp at e
  exact ⟨a, e, i64_bd hw⟩
theorem u64_trodB {t : TypeId} {n : Nat} {v : Value} {y : DataW H × List MemPlace} (ht : P.underlying t = some (.int .u64)) (h : DataW.trod enc P W base spare held n t [v] = some y) :
    ∃ a : Nat, v = .int .u64 (a : Nat) ∧ a < 18446744073709551616 := by
  obtain ⟨a, e, _, hw⟩ := DataW.trod_int ht h
  simp at e
  obtain ⟨n, rfl, hn⟩ := u64_nat hw
  exact ⟨n, e, hn⟩
theorem u32_trodB {t : TypeId} {n : Nat} {v : Value} {y : DataW H × List MemPlace} (ht : P.underlying t = some (.int .u32)) (h : DataW.trod enc P W base spare held n t [v] = some y) :
    ∃ a : Nat, v = .int .u32 (a : Nat) ∧ a < 4294967296 := by
  obtain ⟨a, e, _, hw⟩ := DataW.trod_int ht h
  simp at e
  obtain ⟨n, rfl, hn⟩ := u32_nat hw
  exact ⟨n, e, hn⟩
theorem bool_trodB {t : TypeId} {n : Nat} {v : Value} {y : DataW H × List MemPlace} (ht : P.underlying t = some .bool) (h : DataW.trod enc P W base spare held n t [v] = some y) :
    ∃ a : Bool, v = .bool a := by
  obtain ⟨a, e, _⟩ := DataW.trod_bool ht h
  simp at e
  exact ⟨a, e⟩
end
def InLs (w : World) (A : Option Addr) (l : List Ch) : Prop := l.length ≤ maxLen ∧ InL w A l
section
variable {H : Type} {enc : TypeId × Value → H} {W : World}
set_option maxRecDepth 1000000 in
theorem ch_trod {fuel : Nat} {v : Value} {y : DataW H × List MemPlace} (hf : DataW.trod enc Tryz.prog W 0 (fun _ => true) true fuel 40 [v] = some y) :
    ∃ A ops c, v = .slice A (List.length ops) c ∧ InLs W A ops := by
  have hC : Tryz.prog.cellsOf 74 = 3 := by kernel_rfl
  rcases open_slice Tryz.underlying40 hf with ⟨hcs, _⟩ | ⟨x, len, cap, m, n, D, Pl, hcs, _, hl, hm, hmm, _, hi⟩
  · simp at hcs
    subst hcs
    exact ⟨none, [], 0, rfl, by simp [maxLen], fun h => absurd h (by simp)⟩
  · simp at hcs
    subst hcs
    simp only [if_true] at hmm
    subst hmm
    have each : ∀ i, i < m → ∃ o : Ch, W.cell? (x.add (i * 3)) = some (.int .i64 o.k) ∧ W.cell? ((x.add (i * 3)).add 1) = some (.int .i64 o.y) ∧ W.cell? ((x.add (i * 3)).add 2) = some (.int .u64 (o.v : Nat)) := by
      intro i him
      obtain ⟨cs', hc, ht⟩ := hi i him
      rw [hC] at hc
      obtain ⟨_, hcl, hat⟩ := World.cells?_some hc
      obtain ⟨xs, n', _, _, _, hxl, hf'⟩ := DataW.trod_struct Tryz.underlying74 ht
      match cs', hcl with
      | [c0, c1, c2], _ =>
        match xs, hxl with
        | [y0, y1, y2], _ =>
          have g0 := hf' 0 _ rfl
          have g1 := hf' 1 _ rfl
          have g2 := hf' 2 _ rfl
          have e_0 : Tryz.prog.cellsOf 3 = 1 := by kernel_rfl
          have e_1 : Tryz.prog.cellsOf 39 = 1 := by kernel_rfl
          simp [e_0, e_1] at g0 g1 g2
          obtain ⟨z0, rfl, b0, d0⟩ := i64_trodB Tryz.underlying3 g0
          obtain ⟨z1, rfl, b1, d1⟩ := i64_trodB Tryz.underlying3 g1
          obtain ⟨z2, rfl, b2⟩ := u64_trodB Tryz.underlying39 g2
          have a0 := hat 0 (by omega)
          have a1 := hat 1 (by omega)
          have a2 := hat 2 (by omega)
          have ez : (x.add (i * 3)).add 0 = x.add (i * 3) := by simp [Addr.add]
          rw [ez] at a0
          exact ⟨⟨z0, z1, z2⟩, a0, a1, a2⟩
    let f : Nat → Ch := fun i => if h : i < m then (each i h).choose else ⟨0, 0, 0⟩
    have hf1 : ∀ i, (h : i < m) → W.cell? (x.add (i * 3)) = some (.int .i64 (f i).k) ∧ W.cell? ((x.add (i * 3)).add 1) = some (.int .i64 (f i).y) ∧ W.cell? ((x.add (i * 3)).add 2) = some (.int .u64 ((f i).v : Nat)) := by
      intro i h
      have := (each i h).choose_spec
      simp only [f, dif_pos h]
      exact this
    refine ⟨some x, (List.range len).map f, _, by simp; rfl, by simp; omega, fun hpos => ?_⟩
    · have hpos' : 0 < len := by simpa using hpos
      have h00 := (hf1 0 (by omega)).1
      have ez : x.add (0 * 3) = x := by simp [Addr.add]
      rw [ez] at h00
      obtain ⟨b, o, rfl, hlt⟩ := add_spotB h00
      refine ⟨b, o, rfl, hlt, fun i hi' => ?_⟩
      have hi2 : i < len := by simpa using hi'
      have := (hf1 i (by omega))
      simp only [Addr.add_lit] at this
      simpa using this
end
def OpIn (w : World) (o : OpV) : Prop := OpOk o ∧ o.l.length ≤ maxLen ∧ InL w o.A o.l
section
variable {H : Type} {enc : TypeId × Value → H} {W : World}
end
section
variable {H : Type} {enc : TypeId × Value → H} {W : World}
end
section
variable {H : Type} {enc : TypeId × Value → H} {W : World}
set_option maxRecDepth 1000000 in
theorem open_u64s {r : Reach} {b0 : Nat} {v : Value} {d : DataW H} {p : List MemPlace} (hval : Value.okWide Tryz.prog W r b0 52 v) (h : DataW.Trod enc Tryz.prog W 0 (fun _ => true) true 52 v d p) :
    ∃ A zs c, v = .slice A (List.length zs) c ∧ U64At W A zs := by
  obtain ⟨a, len, cap, rfl⟩ := okWide_slice Tryz.underlying52 hval
  obtain ⟨fuel, hf⟩ := h
  rcases open_ints Tryz.underlying52 Tryz.underlying39 (by kernel_rfl) hf with ⟨hcs, _⟩ | ⟨x, l, c, zs, hcs, _, hl, hm, hz, _, hcell, hwz⟩
  · simp [Value.cells] at hcs
    obtain ⟨rfl, rfl, rfl⟩ := hcs
    exact ⟨none, [], 0, rfl, by simp [maxLen], fun h => absurd h (by simp)⟩
  · simp [Value.cells] at hcs
    obtain ⟨rfl, rfl, rfl⟩ := hcs
    simp at hz
    refine ⟨some x, (zs.take len).map Int.toNat, cap, by simp; omega, by simp; omega, fun hn => ?_⟩
    have hn' : 0 < len := by simp at hn; omega
    have h0 := hcell 0 (by omega)
    obtain ⟨b, o, e0, hlt⟩ := add_spotB h0
    obtain ⟨xb, xo, xs⟩ := x
    simp [Addr.add] at e0
    obtain ⟨rfl, e1, e2⟩ := e0
    subst e2
    refine ⟨xb, xo, rfl, hlt, fun i hi => ?_⟩
    have hi' : i < len := by simp at hi; omega
    have hil : i < zs.length := by omega
    have hci := hcell i (by omega)
    rw [Addr.add_lit] at hci
    rw [hci]
    have hw := hwz (zs[i]'hil) (List.getElem_mem hil)
    obtain ⟨nn, hnn, _⟩ := u64_nat hw
    simp [List.getD, List.getElem?_eq_getElem hil]
    rw [hnn]; simp
end
end Go.Proofs.YtlliaihmfimdoaaGreat
