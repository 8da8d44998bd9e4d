/- Parts Bb Ka Kb Kc of one proof. -/
import Derived.Test.YtlliaihmfimdoaaGreatMg03
import Derived.Shelf.SlMaps.Clone
import Derived.Test.YtlliaihmfimdoaaGreatProg
import Derived.DeepKeys4
import Derived.Maps.OwnSet
import Derived.Maps.RangeWalk
import Derived.Maps.Ext
namespace Go.Proofs.YtlliaihmfimdoaaGreat
open Go.RowKit Go.Maps
set_option linter.unusedVariables false
set_option linter.unusedSimpArgs false

/-- A work as it lies in the map. -/
def isWork (v : Value) : Bool := match v with
  | .agg cs => (match cs.toList with | [.slice _ _ _, .bool _] => true | _ => false)
  | _ => false
structure WkV where
  A : Option Addr
  n : Nat
  c : Nat
  p : Bool
def WkV.val (x : WkV) : Value := .agg #[.slice x.A x.n x.c, .bool x.p]
theorem isWork_val (x : WkV) : isWork x.val = true := rfl
theorem isWork_inv {v : Value} (h : isWork v = true) : ∃ x : WkV, v = x.val := by
  cases v <;> simp only [isWork] at h
  all_goals try cases h
  rename_i cs
  obtain ⟨cs⟩ := cs
  rcases cs with _ | ⟨c0, _ | ⟨c1, _ | ⟨c2, r⟩⟩⟩
  · cases h
  · cases c0 <;> cases h
  · cases c0 <;> cases c1 <;> first | (cases h; done) | exact ⟨⟨_, _, _, _⟩, rfl⟩
  · cases c0 <;> cases c1 <;> cases h
def zeroWk : WkV := ⟨none, 0, 0, false⟩
theorem invI (key : Value) (kl : Lit) (h : keyOf Tryz.prog 3 key = some kl) : ∃ x : Int, key = .int .i64 x := by
  obtain ⟨x, rfl, _⟩ := keyOf_i_inv h; exact ⟨x, rfl⟩
theorem invW (v : Value) (y : DataW Value × List MemPlace) (h : asIf isWork v = some y) : ∃ c : WkV, v = c.val := isWork_inv (asIf_inv h).1
structure CameW (w w' : World) (b r n : Nat) (D : DataW Value) (left : Lit → Bool) (cnt cnt' : Nat) (k : Int) (x : WkV) : Prop where
  ok : i64ok k
  lf : left (litI k) = true
  at_ : ∀ zd, D.atKey (litI k) zd = .held x.val
  rg : w'.ranges Tryz.prog 3 (asIf isWork) b r n D (fun z => left z && !z.sameKey (litI k)) cnt'
  lt : cnt' < cnt
  gr : w.grownBy w' (some r)
  sz : w'.heap.size = w.heap.size
set_option maxRecDepth 1000000 in
theorem wpList_next_work (w : World) {ops : Array Oper} {rest : List Oper} {o : Oper} {a : Act} {Q : Exit → Act → World → Prop} (hg : o.guard = none) (it : Operand) (hop : o.op = Op.next it false)
    (b r n : Nat) (D : DataW Value) (left : Lit → Bool) (cnt : Nat) (hit : a.eval it = .pointer (some ⟨r, 0, none⟩)) (h : w.ranges Tryz.prog 3 (asIf isWork) b r n D left cnt)
    (hDone : cnt = 0 → (∀ kl, left kl = false) → wpList Tryz.prog ops Q rest (a.put o.dst (.tuple #[.bool false])) w)
    (hMore : ∀ (k : Int) (x : WkV) (w' : World) (cnt' : Nat), CameW w w' b r n D left cnt cnt' k x → (Instr.entry (.pointer (some ⟨r, 0, none⟩))).run Tryz.prog w' = .ok (.tuple #[.int .i64 k, .agg #[.slice x.A x.n x.c, .bool x.p]]) w' →
      wpList Tryz.prog ops Q rest (a.put o.dst (.tuple #[.bool true, .int .i64 k, .agg #[.slice x.A x.n x.c, .bool x.p]])) w') :
    wpList Tryz.prog ops Q (o :: rest) a w :=
  wpList_next_ranges w hg it hop 3 lawI (asIf isWork) (fun x : Int => .int .i64 x) WkV.val invI invW b r n D left cnt hit h hDone (fun x c kl y w' cnt' hkey hlk hv hat hrg hlt hgr hsz hen => by
    obtain ⟨k, e, hk, rfl⟩ := keyOf_i_inv hkey
    cases e
    obtain ⟨_, rfl⟩ := asIf_inv hv
    exact hMore x c w' cnt' ⟨hk, hlk, hat, hrg, hlt, hgr, hsz⟩ hen)

set_option maxRecDepth 1000000 in
theorem copyW_map (b bd n : Nat) (D0 : DataW Value) (w : World) (hne : b ≠ bd) (hown : w.ownsMap Tryz.prog 3 (asIf isWork) b n D0) (hd : w.ownsMap Tryz.prog 3 (asIf isWork) bd 0 (.map [])) (hmax : Maps.size D0 ≤ 1000000) :
    Calls Tryz.prog 142 #[.map (some bd), .map (some b)] w fun e w' => e = .returned (.tuple #[]) ∧ w'.ownsMap Tryz.prog 3 (asIf isWork) bd (Maps.size D0) D0 ∧ w.grownBy w' (some bd) := by
  have hbl := hown.lt
  have hdl := hd.lt
  go_enter Tryz.func142, Tryz.ntmps142
  go_wp2_with (first
    | (at_range; refine wpList_range_own _ rfl _ 90 rfl 3 138 lawI Tryz.underlying90 _ b n _ rfl hown ?_; intro w0 hrg0 hg0 hs0)
    | go_in)
  go_frame
  go_loopw [] (fun wr => ∃ (left : Lit → Bool) (cnt : Nat) (Dout : DataW Value), wr.ranges Tryz.prog 3 (asIf isWork) b w.heap.size n D0 left cnt ∧ cnt ≤ Maps.size D0 ∧
      wr.ownsMap Tryz.prog 3 (asIf isWork) bd (Maps.size D0 - cnt) Dout ∧ Agree Dout D0 left ∧ w.grownBy wr (some bd))
    (fun wr => wr.rangeLeft b w.heap.size)
  case atStart =>
    exact ⟨_, _, .map [], hrg0, Nat.le_refl _, (hd.kept hg0 (by simp)).mono (Nat.zero_le _), agree_start D0, hg0.but _⟩
  case round =>
    obtain ⟨left, cnt, Dout, hrg, hcs, hout, hA, hnx⟩ := hrel
    go_wp2_with (first
      | (at_next; refine wpList_next_work _ rfl _ rfl b w.heap.size n _ _ _ rfl hrg ?_ ?_)
      | go_in)
    · intro hc0 hl0
      go_wp2
      go_end0
      subst hc0
      have e := agree_end hA hl0 (hout.canon lawI) (hown.canon lawI)
      subst e
      exact ⟨rfl, by simpa using hout, hnx⟩
    · intro k x w1 cnt1 hc hen
      have hout1 := hout.kept hc.gr (by simp; omega)
      obtain ⟨w2, hw2⟩ : ∃ w2, w2 = w1.alloc (.cells #[.slice x.A x.n x.c, .bool x.p] 138) := ⟨_, rfl⟩
      have hb2 : w1.grownBy w2 none := by rw [hw2]; exact World.grownBy_alloc w1 _ none
      have hout2 := hout1.kept hb2 (by simp)
      have hrg2 := hc.rg.kept hb2 (by simp) (by simp)
      have hkey := keyOf_i k hc.ok
      rw [hw2] at hout2
      go_wp2_with (first
        | (at_mapUpdate; refine wpList_mapUpdate_own _ rfl _ _ _ 90 rfl 3 138 lawI Tryz.underlying90 _ bd _ _ rfl hout2 (by simp only [maxLen]; omega) _ _ _ rfl rfl hkey _ [] (asIf_mk (isWork_val x)) ?_; intro w3 hout3 hg3; go_frame)
        | go_in)
      rw [← hw2] at hg3
      have hrg3 := hrg2.kept hg3 (fun e => by have := Option.some.inj e; omega) (fun e => by have := Option.some.inj e; omega)
      go_roundw
      case rel =>
        exact ⟨_, cnt1, _, hrg3, by have := hc.lt; omega, hout3.mono (by have := hc.lt; omega), agree_step hA hout.isMap (show WideAt.IsKeyLit (litI k) from trivial) hc.at_,
          ((hnx.andThen hc.gr (fun j hj => by cases hj; exact .inl (Nat.le_refl _))).andThen hb2 (fun j hj => by cases hj)).andThen hg3 (fun j hj => by cases hj; exact .inr rfl)⟩
      case measure => rw [hrg3.left_eq, hrg.left_eq]; exact hc.lt
set_option maxRecDepth 1000000 in
/-- A nil map: nothing is copied. -/
theorem copyW_nil (bd : Nat) (w : World) : Calls Tryz.prog 142 #[.map (some bd), .map none] w fun e w' => e = .returned (.tuple #[]) ∧ Below w.heap.size w w' := by
  have hrg := run_range_nilMap (P := Tryz.prog) w 90 3 138 Tryz.underlying90
  have hnx : ∀ ty, (Instr.next (.pointer (some ⟨w.heap.size, 0, none⟩)) false ty).run Tryz.prog (w.alloc (.mapIter none 0 #[] 0)) = _ := fun ty => run_next_nilMap w ty 0 0 #[]
  go_enter Tryz.func142, Tryz.ntmps142
  go_wp2
  refine wp_loop_rounds 1 ?_
  rw [rounds_succ]
  go_wp2
  go_end0
  exact ⟨rfl, ba _ _⟩
theorem FSrc.copied {w : World} {m : Option Nat} {n : Nat} {G : Int → Option Value} (h : FSrc isWork w m n G) (hl : n ≤ 1000000) (bd : Nat) (hd : w.ownsMap Tryz.prog 3 (asIf isWork) bd 0 (.map [])) (hne : m ≠ some bd) :
    ∃ D : DataW Value, ReadsF D G ∧ Calls Tryz.prog 142 #[.map (some bd), .map m] w fun e w' => e = .returned (.tuple #[]) ∧ w'.ownsMap Tryz.prog 3 (asIf isWork) bd n D ∧ w.grownBy w' (some bd) := by
  rcases h with ⟨rfl, rfl⟩ | ⟨b, D, rfl, h2, h3⟩
  · refine ⟨.map [], ReadsF.empty, (copyW_nil bd w).mono ?_⟩
    rintro e w' ⟨rfl, hb⟩
    exact ⟨rfl, (own_below hd hb).mono (Nat.zero_le _), lbelow_grown hb _⟩
  · have hsz := h2.size_le
    refine ⟨D, h3, (copyW_map b bd n D w (fun e => hne (by rw [e])) h2 hd (by omega)).mono ?_⟩
    rintro e w' ⟨rfl, ho, hg⟩
    exact ⟨rfl, ho.mono hsz, hg⟩

set_option maxRecDepth 1000000 in
theorem cloneW_nil (w : World) : Calls Tryz.prog 144 #[.map none] w fun e w' => e = .returned (.map none) ∧ w = w' := by
  have hq := fun w => run_eql_map_nil_sl (P := Tryz.prog) w 90 _ _ none Tryz.underlying90
  go_enter Tryz.func144, Tryz.ntmps144
  go_wp2
  go_ret
  exact ⟨rfl, rfl⟩
set_option maxRecDepth 1000000 in
theorem cloneW_map (b : Nat) (es : Array MapEntry) (clock : Nat) (w : World) (hb : w.heap[b]? = some (.map es clock)) : Calls Tryz.prog 144 #[.map (some b)] w fun e w' => e = .returned (.map (some w.heap.size)) ∧ w' = w.alloc (.map es clock) := by
  have hq := fun w => run_eql_map_nil_sl (P := Tryz.prog) w 90 _ _ (some b) Tryz.underlying90
  go_enter Tryz.func144, Tryz.ntmps144
  go_wp2
  rw [run_callFunc_extern Tryz.func157 (by kernel_rfl) (by kernel_rfl) (by kernel_rfl) (e := Extern.MapsClone.clone) (by kernel_rfl), run_maps_clone_sl w 90 hb]
  simp only [Result.andThen]
  rw [Oper.upon_value]
  go_wp2
  rw [run_typeAssert_map_sl _ 90 _ _ _ _ Tryz.underlying90]
  simp only [Result.andThen]
  rw [Oper.upon_value]
  go_wp2
  go_ret
  exact ⟨rfl, rfl⟩
theorem FSrc.cloned {w : World} {m : Option Nat} {n : Nat} {G : Int → Option Value} (h : FSrc isWork w m n G) :
    Calls Tryz.prog 144 #[.map m] w fun e w' => (∃ m', e = .returned (.map m') ∧ FSrc isWork w' m' n G ∧ (∀ b, m' = some b → w.heap.size ≤ b)) ∧ Below w.heap.size w w' := by
  rcases h with ⟨rfl, rfl⟩ | ⟨b, D, rfl, ⟨es, clock, hb, F, hs, hD⟩, h3⟩
  · refine (cloneW_nil w).mono ?_
    rintro e w' ⟨rfl, rfl⟩
    exact ⟨⟨none, rfl, .inl ⟨rfl, rfl⟩, fun b e => by cases e⟩, Below.refl _ _⟩
  · refine (cloneW_map b es clock w hb).mono ?_
    rintro e w' ⟨rfl, rfl⟩
    exact ⟨⟨_, rfl, .inr ⟨_, D, rfl, ⟨es, clock, (MapKept.heap_alloc w _).1, F, hs, hD⟩, h3⟩, fun b e => by cases e; exact Nat.le_refl _⟩, ba _ _⟩
end Go.Proofs.YtlliaihmfimdoaaGreat

namespace Go.Proofs.YtlliaihmfimdoaaGreat
open Go.RowKit Go.Maps
set_option linter.unusedVariables false
set_option linter.unusedSimpArgs false

theorem Tryz.laidOutK : laidOutB Tryz.prog = true := by kernel_rfl
theorem Tryz.rowP : (178 : TypeId) < Tryz.prog.types.size := of_decide_eq_true (by kernel_rfl)
theorem Tryz.wideP : (match Tryz.prog.underlying 178 with | some (.array _ _) | some (.struct _) => true | _ => false) = true := by rw [Tryz.underlying178]
set_option maxRecDepth 1000000 in
/-- The keys' law. -/
theorem lawP : Keyed Tryz.prog 178 := Keyed.of_law (deep_law_laid Tryz.laidOutK (m := 2) (by omega) Tryz.rowP (by kernel_rfl) Tryz.wideP)
/-- How an element reads: a struct of one bool. -/
def holdElem {H : Type} (v : Value) : Option (DataW H × List MemPlace) := match v with
  | .agg cs => (match cs.toList with | [.bool a] => some (.lit (.bool a), []) | _ => none)
  | _ => none
theorem holdElem_mk {H : Type} (a : Bool) : holdElem (H := H) (.agg #[.bool a]) = some (.lit (.bool a), []) := rfl
/-- A key, and an owner, as a value. -/
def pv (k o : Int) : Value := .agg #[.int .i64 k, .int .i64 o]
/-- A table in block g: its map lies in block b and reads as D. -/
def TabAt {H : Type} (w : World) (g b n : Nat) (D : DataW H) : Prop := Blk w g 93 #[.map (some b)] ∧ w.ownsMap Tryz.prog 178 holdElem b n D
end Go.Proofs.YtlliaihmfimdoaaGreat

namespace Go.Proofs.YtlliaihmfimdoaaGreat
open Go.RowKit Go.Maps
set_option linter.unusedVariables false
set_option linter.unusedSimpArgs false

theorem keyTypeP : Tryz.prog.keyType 178 = true := by kernel_rfl
theorem cellsP : Tryz.prog.cellsOf 178 = 2 := by kernel_rfl
theorem cellsI : Tryz.prog.cellsOf 3 = 1 := by kernel_rfl
theorem sizeP : ∃ m, Tryz.prog.types.size = m + 1 := ⟨Tryz.prog.types.size - 1, by have : 1 < Tryz.prog.types.size := of_decide_eq_true (by kernel_rfl); omega⟩
theorem lits_int (d : Nat) (k : Int) (h : i64ok k) : Tryz.prog.keyLits (d + 1) 3 [.int .i64 k] = some [.int .i64 k] := by
  simp [Program.keyLits, Tryz.underlying3, wf_of_ok h]
theorem lits_pair (d : Nat) (k o : Int) (hk : i64ok k) (ho : i64ok o) : Tryz.prog.keyLits (d + 2) 178 [.int .i64 k, .int .i64 o] = some [.int .i64 k, .int .i64 o] := by
  have h1 := lits_int d k hk
  have h2 := lits_int d o ho
  simp [Program.keyLits, Tryz.underlying178, cellsP, cellsI, Tryz.underlying3, wf_of_ok hk, wf_of_ok ho]
def litP (k o : Int) : Lit := .string (keyBytes [.int .i64 k, .int .i64 o])
theorem keyOf_pv (k o : Int) (hk : i64ok k) (ho : i64ok o) : keyOf Tryz.prog 178 (pv k o) = some (litP k o) := by
  obtain ⟨m, hm⟩ := sizeP
  have h := lits_pair m k o hk ho
  simp [keyOf, Tryz.underlying178, keyTypeP, pv, Value.formed, cellsP, hm, Value.cells, h, litP]
theorem litP_inj {k o k' o' : Int} (hk : i64ok k) (ho : i64ok o) (hk' : i64ok k') (ho' : i64ok o') (h : litP k o = litP k' o') : k = k' ∧ o = o' := by
  have := lawP.inj (keyOf_pv k o hk ho) (h ▸ keyOf_pv k' o' hk' ho')
  simp [pv] at this
  exact this
theorem isKey (k o : Int) : WideAt.IsKeyLit (litP k o) := trivial
theorem sameKey_litP {k o k' o' : Int} (hk : i64ok k) (ho : i64ok o) (hk' : i64ok k') (ho' : i64ok o') : (litP k o).sameKey (litP k' o') = decide (k = k' ∧ o = o') := by
  by_cases h : k = k' ∧ o = o'
  · obtain ⟨rfl, rfl⟩ := h
    simp [litP, Lit.sameKey]
  · rw [decide_eq_false h]
    exact sameKey_ne (fun e => h (litP_inj hk ho hk' ho' e))
theorem lits_int_inv {d : Nat} {c : Value} {ls : List Lit} (h : Tryz.prog.keyLits (d + 1) 3 [c] = some ls) : ∃ k, c = .int .i64 k ∧ i64ok k ∧ ls = [.int .i64 k] := by
  cases c <;> simp [Program.keyLits, Tryz.underlying3] at h
  obtain ⟨⟨rfl, hw⟩, rfl⟩ := h
  exact ⟨_, rfl, ok_of_wf hw, rfl⟩
theorem lits_place (d : Nat) (c0 c1 : Value) : Tryz.prog.keyLits (d + 1) 178 [c0, c1] = ((Tryz.prog.keyLits d 3 [c0]).bind fun a => (Tryz.prog.keyLits d 3 [c1]).bind fun b => some (a ++ b)) := by
  simp [Program.keyLits, Tryz.underlying178, cellsP, cellsI]
  rcases Tryz.prog.keyLits d 3 [c0] with _ | a <;> rcases Tryz.prog.keyLits d 3 [c1] with _ | b <;> simp
theorem formed_inv {v : Value} (h : v.formed Tryz.prog 178 = true) : ∃ c0 c1, v = .agg #[c0, c1] := by
  cases v <;> simp [Value.formed, Tryz.underlying178, cellsP] at h
  rename_i cs
  obtain ⟨cs⟩ := cs
  match cs, h with
  | [c0, c1], _ => exact ⟨c0, c1, rfl⟩
theorem keyOf_inv {v : Value} {l : Lit} (h : keyOf Tryz.prog 178 v = some l) : ∃ x : Int × Int, v = pv x.1 x.2 ∧ i64ok x.1 ∧ i64ok x.2 ∧ l = litP x.1 x.2 := by
  obtain ⟨m, hm⟩ : ∃ m, Tryz.prog.types.size = m + 1 := sizeP
  have h0 := h
  simp only [keyOf, Tryz.underlying178, keyTypeP, Bool.true_and] at h
  split at h
  · rename_i hf
    obtain ⟨c0, c1, rfl⟩ := formed_inv hf
    rw [Option.map_eq_some_iff] at h
    obtain ⟨ls, hl, _⟩ := h
    rw [hm] at hl
    have hl2 : Tryz.prog.keyLits (m + 1 + 1) 178 [c0, c1] = some ls := hl
    rw [lits_place] at hl2
    rcases h1 : Tryz.prog.keyLits (m + 1) 3 [c0] with _ | l1
    · simp [h1] at hl2
    · rcases h2 : Tryz.prog.keyLits (m + 1) 3 [c1] with _ | l2
      · simp [h1, h2] at hl2
      · obtain ⟨k, rfl, hk, _⟩ := lits_int_inv h1
        obtain ⟨o, rfl, ho, _⟩ := lits_int_inv h2
        have := keyOf_pv k o hk ho
        unfold pv at this
        rw [h0] at this
        exact ⟨(k, o), rfl, hk, ho, Option.some.inj this⟩
  · cases h
theorem holdElem_inv {H : Type} {v : Value} {y : DataW H × List MemPlace} (h : holdElem v = some y) : ∃ c, v = .agg #[.bool c] ∧ y = (.lit (.bool c), []) := by
  cases v <;> simp only [holdElem] at h
  all_goals try cases h
  rename_i cs
  obtain ⟨cs⟩ := cs
  rcases cs with _ | ⟨c0, _ | ⟨c1, t⟩⟩
  · cases h
  · cases c0 <;> cases h
    exact ⟨_, rfl, rfl⟩
  · cases c0 <;> cases h
end Go.Proofs.YtlliaihmfimdoaaGreat

namespace Go.Proofs.YtlliaihmfimdoaaGreat
open Go.RowKit Go.Maps
set_option linter.unusedVariables false
set_option linter.unusedSimpArgs false

/-- A key, an owner, alone. -/
abbrev LRow := Int × Int × Bool
def keyR (x : LRow) : Lit := litP x.1 x.2.1
def atB (k o : Int) (x : LRow) : Bool := decide (x.1 = k) && decide (x.2.1 = o)
structure LOk (L : List LRow) : Prop where
  ok : ∀ x ∈ L, i64ok x.1 ∧ i64ok x.2.1
  dis : L.Pairwise (fun x y => ¬ (x.1 = y.1 ∧ x.2.1 = y.2.1))
theorem LOk.nil : LOk [] := ⟨by simp, List.Pairwise.nil⟩
theorem same_eq {a b : Lit} (h : a.sameKey b = true) : a = b := by
  cases a <;> cases b <;> simp [Lit.sameKey] at h ⊢
  all_goals first | exact h | (obtain ⟨rfl, rfl⟩ := h; exact ⟨rfl, rfl⟩)
theorem key_same (k o : Int) : (litP k o).sameKey (litP k o) = true := by simp [litP, Lit.sameKey]
theorem same_at {x : LRow} (hx : i64ok x.1 ∧ i64ok x.2.1) {k o : Int} (hk : i64ok k) (ho : i64ok o) : (keyR x).sameKey (litP k o) = atB k o x := by
  unfold keyR atB
  rw [sameKey_litP hx.1 hx.2 hk ho, Bool.decide_and]
def anyK (L : List LRow) (kl : Lit) : Bool := L.any fun x => (keyR x).sameKey kl
def heldL (L : List LRow) (k o : Int) : Bool := L.any (atB k o)
def aloneL (L : List LRow) (k o : Int) : Bool := L.any fun x => atB k o x && x.2.2
theorem any_congr' {α : Type} {f g : α → Bool} : ∀ (l : List α), (∀ x ∈ l, f x = g x) → l.any f = l.any g
  | [], _ => rfl
  | a :: l, h => by rw [List.any_cons, List.any_cons, h a (by simp), any_congr' l (fun x hx => h x (by simp [hx]))]
theorem anyK_held {L : List LRow} (h : LOk L) {k o : Int} (hk : i64ok k) (ho : i64ok o) : anyK L (litP k o) = heldL L k o :=
  any_congr' L fun x hx => same_at (h.ok x hx) hk ho
/-- D reads as L. -/
structure Reads {H : Type} (D : DataW H) (L : List LRow) : Prop where
  has : ∀ kl, Maps.has D kl = anyK L kl
  at_ : ∀ x ∈ L, ∀ z, D.atKey (keyR x) z = .lit (.bool x.2.2)
  ok : LOk L
theorem Reads.empty {H : Type} : Reads (.map [] : DataW H) [] := ⟨fun kl => rfl, by simp, LOk.nil⟩
theorem atB_iff {k o : Int} {x : LRow} : atB k o x = true ↔ x.1 = k ∧ x.2.1 = o := by unfold atB; simp
theorem at_same {L : List LRow} (h : LOk L) : ∀ {x y : LRow}, x ∈ L → y ∈ L → x.1 = y.1 → x.2.1 = y.2.1 → x = y := by
  obtain ⟨h0, hd⟩ := h
  clear h0
  induction hd with
  | nil => intro x y hx; cases hx
  | cons h1 h2 ih =>
    intro x y hx hy e1 e2
    rcases List.mem_cons.1 hx with ex | hx1
    · rcases List.mem_cons.1 hy with ey | hy1
      · rw [ex, ey]
      · exact absurd (by rw [← ex]; exact ⟨e1, e2⟩) (h1 y hy1)
    · rcases List.mem_cons.1 hy with ey | hy1
      · exact absurd (by rw [← ey]; exact ⟨e1.symm, e2.symm⟩) (h1 x hx1)
      · exact ih hx1 hy1 e1 e2
/-- What is read at a key. -/
theorem Reads.look {H : Type} {D : DataW H} {L : List LRow} (h : Reads D L) {k o : Int} (hk : i64ok k) (ho : i64ok o) : D.atKey (litP k o) (.lit (.bool false)) = .lit (.bool (aloneL L k o)) := by
  rcases hh : heldL L k o with _ | _
  · have h1 := h.has (litP k o)
    rw [anyK_held h.ok hk ho, hh] at h1
    rw [atKey_of_not_has h1]
    have : aloneL L k o = false := by
      unfold aloneL; unfold heldL at hh
      rw [List.any_eq_false] at hh ⊢
      intro x hx; have := hh x hx; simp at this; simp [this]
    rw [this]
  · unfold heldL at hh
    obtain ⟨x, hx, hax⟩ := List.any_eq_true.1 hh
    have e := atB_iff.1 hax
    have h1 := h.at_ x hx (.lit (.bool false))
    unfold keyR at h1
    rw [e.1, e.2] at h1
    rw [h1]
    have : aloneL L k o = x.2.2 := by
      unfold aloneL
      rcases hb : x.2.2 with _ | _
      · rw [List.any_eq_false]
        intro y hy hc
        simp only [Bool.and_eq_true] at hc
        have e2 := atB_iff.1 hc.1
        have := at_same h.ok hx hy (e.1.trans e2.1.symm) (e.2.trans e2.2.symm)
        subst this; rw [hb] at hc; cases hc.2
      · exact List.any_eq_true.2 ⟨x, hx, by simp [hax, hb]⟩
    rw [this]

/-! ### how many -/
theorem nodup_le {α : Type} : ∀ (l l' : List α), l.Nodup → (∀ x ∈ l, x ∈ l') → l.length ≤ l'.length := by
  classical
  intro l
  induction l with
  | nil => intro l' _ _; exact Nat.zero_le _
  | cons a l ih =>
    intro l' hn hs
    have ha := hs a (by simp)
    have hn' := List.nodup_cons.1 hn
    have h1 := ih (l'.erase a) hn'.2 (fun x hx => (List.mem_erase_of_ne (fun e => hn'.1 (by rw [← e]; exact hx))).2 (hs x (by simp [hx])))
    have h2 := List.length_erase_of_mem ha
    have h3 := List.length_pos_of_mem ha
    simp only [List.length_cons]; omega
theorem keys_nodup {L : List LRow} (h : LOk L) : (L.map keyR).Nodup := by
  obtain ⟨h1, h2⟩ := h
  rw [List.Nodup, List.pairwise_map]
  refine List.Pairwise.imp_of_mem (fun {x y} hx hy hne e => hne ?_) h2
  exact litP_inj (h1 x hx).1 (h1 x hx).2 (h1 y hy).1 (h1 y hy).2 e
theorem Reads.size {H : Type} {w : World} {b n : Nat} {D : DataW H} {L : List LRow} (hown : w.ownsMap Tryz.prog 178 holdElem b n D) (h : Reads D L) : Maps.size D = L.length := by
  obtain ⟨es, rfl, hp, hkey⟩ := hown.entries lawP
  have hk := h.has
  have hself : ∀ q : Lit, WideAt.IsKeyLit q → q.sameKey q = true := fun q hq => by cases q <;> simp [WideAt.IsKeyLit, Lit.sameKey] at hq ⊢
  have hm : ∀ x ∈ L, keyR x ∈ es.map Prod.fst := fun x hx => by
    have h1 : Maps.has (.map es) (keyR x) = true := by rw [hk]; exact List.any_eq_true.2 ⟨x, hx, key_same _ _⟩
    rw [has_eq] at h1
    obtain ⟨p, hp, e⟩ := List.any_eq_true.1 h1
    exact List.mem_map.2 ⟨p, hp, same_eq e⟩
  have hm2 : ∀ p ∈ es, p.1 ∈ L.map keyR := fun p hp => by
    have h1 : Maps.has (.map es) p.1 = true := by rw [has_eq]; exact List.any_eq_true.2 ⟨p, hp, hself _ (hkey p hp)⟩
    rw [hk] at h1
    obtain ⟨x, hx, e⟩ := List.any_eq_true.1 h1
    exact List.mem_map.2 ⟨x, hx, same_eq e⟩
  have n1 : (es.map Prod.fst).Nodup := by rw [List.Nodup, List.pairwise_map]; exact hp
  have l1 := nodup_le _ _ (keys_nodup h.ok) (fun y hy => by obtain ⟨x, hx, rfl⟩ := List.mem_map.1 hy; exact hm x hx)
  have l2 := nodup_le _ _ n1 (fun y hy => by obtain ⟨p, hp, rfl⟩ := List.mem_map.1 hy; exact hm2 p hp)
  rw [List.length_map, List.length_map] at l1 l2
  rw [size_eq]; omega
/-- The bound may be the number. -/
theorem own_exact {w : World} {H : Type} {b n : Nat} {D : DataW H} {R : Value → Option (DataW H × List MemPlace)} {P : Program} {k : TypeId} (h : w.ownsMap P k R b n D) : w.ownsMap P k R b (Maps.size D) D := by
  obtain ⟨es, clock, hb, F, hs, hD⟩ := h
  refine ⟨es, clock, hb, F, ?_, hD⟩
  rw [hD, size_eq, length_sorted]; simp

/-! ### what is laid, and what is taken -/
/-- A lock at its place. -/
def putL (L : List LRow) (k o : Int) (a : Bool) : List LRow := if heldL L k o then L.map fun x => if atB k o x then (k, o, a) else x else L ++ [(k, o, a)]
theorem key_of_at {k o : Int} {x : LRow} (h : atB k o x = true) : keyR x = litP k o := by
  have := atB_iff.1 h; unfold keyR; rw [this.1, this.2]
theorem putL_ok {L : List LRow} (h : LOk L) {k o : Int} (hk : i64ok k) (ho : i64ok o) (a : Bool) : LOk (putL L k o a) := by
  unfold putL
  split
  · have hkey : ∀ x : LRow, (if atB k o x then (k, o, a) else x).1 = x.1 ∧ (if atB k o x then (k, o, a) else x).2.1 = x.2.1 := fun x => by
      split
      · rename_i h1; have := atB_iff.1 h1; exact ⟨this.1.symm, this.2.symm⟩
      · exact ⟨rfl, rfl⟩
    refine ⟨fun x hx => ?_, ?_⟩
    · obtain ⟨y, hy, rfl⟩ := List.mem_map.1 hx
      rw [(hkey y).1, (hkey y).2]; exact h.ok y hy
    · rw [List.pairwise_map]
      refine List.Pairwise.imp (fun {x y} hne => ?_) h.dis
      rw [(hkey x).1, (hkey x).2, (hkey y).1, (hkey y).2]; exact hne
  · rename_i hh
    refine ⟨fun x hx => ?_, ?_⟩
    · rcases List.mem_append.1 hx with hx | hx
      · exact h.ok x hx
      · rw [List.mem_singleton] at hx; subst hx; exact ⟨hk, ho⟩
    · rw [List.pairwise_append]
      refine ⟨h.dis, by simp, fun x hx y hy hc => hh ?_⟩
      rw [List.mem_singleton] at hy; subst hy
      exact List.any_eq_true.2 ⟨x, hx, atB_iff.2 hc⟩
theorem any_map_key {L : List LRow} {k o : Int} {a : Bool} (kl : Lit) : (L.map fun x => if atB k o x then (k, o, a) else x).any (fun x => (keyR x).sameKey kl) = L.any fun x => (keyR x).sameKey kl := by
  rw [List.any_map]
  refine any_congr' L fun x _ => ?_
  show (keyR (if atB k o x then (k, o, a) else x)).sameKey kl = _
  split
  · rename_i h; rw [key_of_at h]; rfl
  · rfl
theorem same_symm (a b : Lit) : a.sameKey b = b.sameKey a := by
  cases a <;> cases b <;> simp [Lit.sameKey, Bool.beq_comm, eq_comm]
  all_goals first | rfl | (rename_i x y; rw [Bool.eq_iff_iff]; simp [eq_comm])
theorem Reads.put {H : Type} {w : World} {b n : Nat} {D : DataW H} {L : List LRow} (hm : IsMap D) (h : Reads D L) {k o : Int} (hk : i64ok k) (ho : i64ok o) (a : Bool) : Reads (D.put (litP k o) (.lit (.bool a))) (putL L k o a) := by
  have hhas : ∀ kl, Maps.has (D.put (litP k o) (.lit (.bool a))) kl = ((litP k o).sameKey kl || anyK L kl) := fun kl => by
    rcases he : (litP k o).sameKey kl with _ | _
    · rw [has_put_other (fun e => by subst e; rw [key_same] at he; cases he), h.has]; rfl
    · have := same_eq he; subst this
      rw [has_put_same hm (isKey k o)]; rfl
  have hat : ∀ x ∈ L, atB k o x = false → ∀ z, (D.put (litP k o) (.lit (.bool a))).atKey (keyR x) z = .lit (.bool x.2.2) := fun x hx hne z => by
    rw [atKey_put_other (fun e => by
      have := litP_inj (h.ok.ok x hx).1 (h.ok.ok x hx).2 hk ho e
      rw [atB_iff.2 this] at hne; cases hne)]
    exact h.at_ x hx z
  refine ⟨fun kl => ?_, fun x hx z => ?_, putL_ok h.ok hk ho a⟩
  · rw [hhas]
    unfold putL
    split
    · rename_i hh
      unfold anyK
      rw [any_map_key]
      rcases he : (litP k o).sameKey kl with _ | _
      · rfl
      · obtain ⟨x, hx, hax⟩ := List.any_eq_true.1 hh
        have : (L.any fun x => (keyR x).sameKey kl) = true := List.any_eq_true.2 ⟨x, hx, by rw [key_of_at hax]; exact he⟩
        rw [this]; rfl
    · unfold anyK
      rw [List.any_append, Bool.or_comm]
      simp [keyR]
  · unfold putL at hx
    split at hx
    · obtain ⟨y, hy, rfl⟩ := List.mem_map.1 hx
      split
      · exact atKey_put_same hm (isKey k o) _ _
      · rename_i hne; exact hat y hy (by simpa using hne) z
    · rename_i hh
      rcases List.mem_append.1 hx with hx | hx
      · exact hat x hx (by
          rcases hb : atB k o x with _ | _
          · rfl
          · exact absurd (List.any_eq_true.2 ⟨x, hx, hb⟩) hh) z
      · rw [List.mem_singleton] at hx; subst hx
        exact atKey_put_same hm (isKey k o) _ _

/-! ### taking and dropping -/
def clashL (L : List LRow) (k o : Int) (a : Bool) : Bool := L.any fun x => decide (x.1 = k) && !decide (x.2.1 = o) && (a || x.2.2)
def takeL (L : List LRow) (o k : Int) (a : Bool) : Int × List LRow :=
  if clashL L k o a then (120, L) else if heldL L k o = false ∧ L.length = 64 then (5, L) else (0, putL L k o (aloneL L k o || a))
def dropL (L : List LRow) (o : Int) : List LRow := L.filter fun x => !decide (x.2.1 = o)
theorem putL_len (L : List LRow) (k o : Int) (a : Bool) : (putL L k o a).length = if heldL L k o then L.length else L.length + 1 := by
  unfold putL; split <;> simp
theorem dropL_ok {L : List LRow} (h : LOk L) (o : Int) : LOk (dropL L o) :=
  ⟨fun x hx => h.ok x (List.mem_filter.1 hx).1, h.dis.filter _⟩
theorem takeL_ok {L : List LRow} (h : LOk L) {k o : Int} (hk : i64ok k) (ho : i64ok o) (a : Bool) : LOk (takeL L o k a).2 := by
  unfold takeL; split
  · exact h
  · split
    · exact h
    · exact putL_ok h hk ho _
theorem takeL_len {L : List LRow} (h : L.length ≤ 64) (o k : Int) (a : Bool) : (takeL L o k a).2.length ≤ 64 := by
  unfold takeL; split
  · exact h
  · split
    · exact h
    · rename_i h1
      show (putL L k o _).length ≤ 64
      rw [putL_len]; split
      · exact h
      · rename_i h2; simp only [Bool.not_eq_true] at h2; rw [h2] at h1; simp at h1; omega
/-- Does an owner own the lock at a key? -/
def ownK (L : List LRow) (o : Int) (kl : Lit) : Bool := L.any fun x => (keyR x).sameKey kl && decide (x.2.1 = o)
/-- What has been left when some are to come. -/
structure DropAt {H : Type} (Dl D : DataW H) (L : List LRow) (o : Int) (left : Lit → Bool) : Prop where
  has : ∀ kl, Maps.has Dl kl = (Maps.has D kl && (left kl || !ownK L o kl))
  at_ : ∀ kl z, Maps.has Dl kl = true → Dl.atKey kl z = D.atKey kl z
theorem DropAt.start {H : Type} (D : DataW H) (L : List LRow) (o : Int) : DropAt D D L o (Maps.has D) :=
  ⟨fun kl => by cases Maps.has D kl <;> simp, fun kl z _ => rfl⟩
theorem ownK_at {L : List LRow} (h : LOk L) {x : LRow} (hx : x ∈ L) (o : Int) : ownK L o (keyR x) = decide (x.2.1 = o) := by
  unfold ownK
  rw [Bool.eq_iff_iff, List.any_eq_true, decide_eq_true_eq]
  refine ⟨fun ⟨y, hy, he⟩ => ?_, fun e => ⟨x, hx, by simp [e, keyR, key_same]⟩⟩
  simp only [Bool.and_eq_true, decide_eq_true_eq] at he
  have := litP_inj (h.ok y hy).1 (h.ok y hy).2 (h.ok x hx).1 (h.ok x hx).2 (same_eq he.1)
  rw [← this.2]; exact he.2
theorem mem_of_has {H : Type} {D : DataW H} {L : List LRow} (h : Reads D L) {k o : Int} (hk : i64ok k) (ho : i64ok o) (hh : Maps.has D (litP k o) = true) : ∃ x ∈ L, x.1 = k ∧ x.2.1 = o := by
  rw [h.has, anyK_held h.ok hk ho] at hh
  obtain ⟨x, hx, hax⟩ := List.any_eq_true.1 hh
  exact ⟨x, hx, atB_iff.1 hax⟩
/-- An entry has come: struck if it is the owner's. -/
theorem DropAt.stay {H : Type} {Dl D : DataW H} {L : List LRow} {o k o' : Int} {left : Lit → Bool} (h : DropAt Dl D L o left) (hR : Reads D L) (hk : i64ok k) (ho' : i64ok o') (hh : Maps.has D (litP k o') = true) (hne : o' ≠ o) : DropAt Dl D L o (fun z => left z && !z.sameKey (litP k o')) := by
  refine ⟨fun kl => ?_, h.at_⟩
  rw [h.has]
  rcases he : kl.sameKey (litP k o') with _ | _
  · simp
  · have := same_eq he; subst this
    obtain ⟨x, hx, rfl, rfl⟩ := mem_of_has hR hk ho' hh
    have h2 := ownK_at hR.ok hx o
    unfold keyR at h2
    rw [h2, decide_eq_false hne]; simp
theorem DropAt.gone {H : Type} {Dl D : DataW H} {L : List LRow} {o k : Int} {left : Lit → Bool} (h : DropAt Dl D L o left) (hR : Reads D L) (hk : i64ok k) (ho : i64ok o) (hh : Maps.has D (litP k o) = true) : DropAt (Dl.del (litP k o)) D L o (fun z => left z && !z.sameKey (litP k o)) := by
  have hd : ∀ kl, kl.sameKey (litP k o) = false → kl ≠ litP k o := fun kl he e => by subst e; rw [key_same] at he; cases he
  refine ⟨fun kl => ?_, fun kl z hz => ?_⟩
  · rcases he : kl.sameKey (litP k o) with _ | _
    · rw [has_del_other (hd kl he), h.has]; simp
    · have := same_eq he; subst this
      obtain ⟨x, hx, rfl, rfl⟩ := mem_of_has hR hk ho hh
      have h2 := ownK_at hR.ok hx x.2.1
      unfold keyR at h2
      rw [has_del_same, h2]; simp
  · rcases he : kl.sameKey (litP k o) with _ | _
    · rw [has_del_other (hd kl he)] at hz
      rw [atKey_del_other (hd kl he)]; exact h.at_ kl z hz
    · have := same_eq he; subst this
      rw [has_del_same] at hz; cases hz
theorem DropAt.done {H : Type} {Dl D : DataW H} {L : List LRow} {o : Int} {left : Lit → Bool} (h : DropAt Dl D L o left) (hR : Reads D L) (hl : ∀ kl, left kl = false) : Reads Dl (dropL L o) := by
  have hhas : ∀ kl, Maps.has Dl kl = anyK (dropL L o) kl := fun kl => by
    rw [h.has, hl, hR.has, Bool.false_or]
    unfold anyK dropL
    rw [List.any_filter]
    rcases hb : ownK L o kl with _ | _
    · rw [Bool.not_false, Bool.and_true]
      unfold ownK at hb
      rw [List.any_eq_false] at hb
      refine any_congr' L fun x hx => ?_
      have := hb x hx
      simp only [Bool.and_eq_true, decide_eq_true_eq, not_and] at this
      rcases hs : (keyR x).sameKey kl with _ | _
      · simp
      · simp [this hs]
    · rw [Bool.not_true, Bool.and_false, eq_comm, List.any_eq_false]
      obtain ⟨x, hx, hxk⟩ := List.any_eq_true.1 hb
      simp only [Bool.and_eq_true, decide_eq_true_eq] at hxk
      intro y hy hc
      simp only [Bool.and_eq_true, Bool.not_eq_true', decide_eq_false_iff_not] at hc
      have e := (same_eq hxk.1).trans (same_eq hc.2).symm
      have := litP_inj (hR.ok.ok x hx).1 (hR.ok.ok x hx).2 (hR.ok.ok y hy).1 (hR.ok.ok y hy).2 e
      exact hc.1 (by rw [← this.2]; exact hxk.2)
  refine ⟨hhas, fun x hx z => ?_, dropL_ok hR.ok o⟩
  rw [h.at_ _ _ (by rw [hhas]; exact List.any_eq_true.2 ⟨x, hx, key_same _ _⟩)]
  exact hR.at_ x (List.mem_filter.1 hx).1 z
end Go.Proofs.YtlliaihmfimdoaaGreat
