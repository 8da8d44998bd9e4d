/- Layer 12: a map is copied into another one (maps.Copy). -/
import Derived.Test.YtnpoicgincndkaaKc
namespace Go.Proofs.Ytnpoicgincndkaa
open Go.RowKit Go.Maps
set_option linter.unusedVariables false
set_option linter.unusedSimpArgs false

def mkK (x : Int × Int) : Value := .agg #[.int .i64 x.1, .int .i64 x.2]
def mkV (c : Bool) : Value := .agg #[.bool c]
theorem invK (key : Value) (kl : Lit) (h : keyOf Try.prog 99 key = some kl) : ∃ x, key = mkK x := by
  obtain ⟨x, rfl, _⟩ := keyOf_inv h; exact ⟨x, rfl⟩
theorem invV {H : Type} (v : Value) (y : DataW H × List MemPlace) (h : holdElem v = some y) : ∃ c, v = mkV c := by
  obtain ⟨c, rfl, _⟩ := holdElem_inv h; exact ⟨c, rfl⟩
theorem mkK_inv {x : Int × Int} {kl : Lit} (h : keyOf Try.prog 99 (mkK x) = some kl) : kl = litP x.1 x.2 ∧ i64ok x.1 ∧ i64ok x.2 := by
  obtain ⟨y, e, h1, h2, rfl⟩ := keyOf_inv h
  simp only [mkK, pv, Value.agg.injEq] at e
  simp at e
  obtain ⟨e1, e2⟩ := e
  rw [e1, e2]; exact ⟨rfl, h1, h2⟩

/-- An entry: a key, an owner, alone. -/
structure KE where
  k : Int
  o : Int
  c : Bool
def kv (e : KE) : Value := .agg #[.int .i64 e.k, .int .i64 e.o]
def vv (e : KE) : Value := .agg #[.bool e.c]
structure Came {H : Type} (w w' : World) (b r n : Nat) (D : DataW H) (left : Lit → Bool) (cnt cnt' : Nat) (e : KE) : Prop where
  k : i64ok e.k
  o : i64ok e.o
  lf : left (litP e.k e.o) = true
  at_ : ∀ zd, D.atKey (litP e.k e.o) zd = .lit (.bool e.c)
  rg : w'.ranges Try.prog 99 holdElem b r n D (fun z => left z && !z.sameKey (litP e.k e.o)) cnt'
  lt : cnt' < cnt
  gr : w.grownBy w' (some r)
  sz : w'.heap.size = w.heap.size
theorem wpList_next_lock {H : Type} (w : World) {ops : Array Oper} {rest : List Oper} {o : Oper} {a : Act} {Q : Exit → Act → World → Prop} (hg : o.guard = none) (it : Operand) (hop : o.op = Op.next it false)
    (b r n : Nat) (D : DataW H) (left : Lit → Bool) (cnt : Nat) (hit : a.eval it = .pointer (some ⟨r, 0, none⟩)) (h : w.ranges Try.prog 99 holdElem b r n D left cnt)
    (hDone : cnt = 0 → (∀ kl, left kl = false) → wpList Try.prog ops Q rest (a.put o.dst (.tuple #[.bool false])) w)
    (hMore : ∀ (e : KE) (w' : World) (cnt' : Nat), Came w w' b r n D left cnt cnt' e → (Instr.entry (.pointer (some ⟨r, 0, none⟩))).run Try.prog w' = .ok (.tuple #[.agg #[.int .i64 e.k, .int .i64 e.o], .agg #[.bool e.c]]) w' →
      wpList Try.prog ops Q rest (a.put o.dst (.tuple #[.bool true, .agg #[.int .i64 e.k, .int .i64 e.o], .agg #[.bool e.c]])) w') :
    wpList Try.prog ops Q (o :: rest) a w :=
  wpList_next_ranges w hg it hop 99 lawP holdElem mkK mkV invK invV b r n D left cnt hit h hDone (fun x c kl y w' cnt' hkey hlk hv hat hrg hlt hgr hsz hen => by
    obtain ⟨rfl, h1, h2⟩ := mkK_inv hkey
    obtain ⟨c', e1, rfl⟩ := holdElem_inv hv
    simp only [mkV, Value.agg.injEq] at e1
    simp at e1
    subst e1
    exact hMore ⟨x.1, x.2, c⟩ w' cnt' ⟨h1, h2, hlk, hat, hrg, hlt, hgr, hsz⟩ hen)

set_option maxRecDepth 100000 in
theorem copy_map {H : Type} (b bd n : Nat) (D0 : DataW H) (w : World) (hne : b ≠ bd) (hown : w.ownsMap Try.prog 99 holdElem b n D0) (hd : w.ownsMap (H := H) Try.prog 99 holdElem bd 0 (.map [])) (hmax : Maps.size D0 ≤ 64) :
    Calls Try.prog 66 #[.map (some bd), .map (some b)] w fun e w' => e = .returned (.tuple #[]) ∧ w'.ownsMap Try.prog 99 holdElem bd (Maps.size D0) D0 ∧ w.grownBy w' (some bd) := by
  have hbl := hown.lt
  have hdl := hd.lt
  go_enter Try.func66, Try.ntmps66
  go_wp2_with (first
    | (at_range; refine wpList_range_own _ rfl _ 55 rfl 99 105 lawP Try.underlying55 _ b n _ rfl hown ?_; intro w0 hrg0 hg0 hs0)
    | go_in)
  go_frame
  go_loopw [] (fun wr => ∃ (left : Lit → Bool) (cnt : Nat) (Dout : DataW H), wr.ranges Try.prog 99 holdElem b w.heap.size n D0 left cnt ∧ cnt ≤ Maps.size D0 ∧
      wr.ownsMap Try.prog 99 holdElem bd (Maps.size D0 - cnt) Dout ∧ Agree Dout D0 left ∧ w.grownBy wr (some bd))
    (fun wr => wr.rangeLeft b w.heap.size)
  case atStart =>
    exact ⟨_, _, .map [], hrg0, Nat.le_refl _, (hd.kept hg0 (by simp)).mono (Nat.zero_le _), agree_start D0, hg0.but _⟩
  case round =>
    obtain ⟨left, cnt, Dout, hrg, hcs, hout, hA, hnx⟩ := hrel
    go_wp2_with (first
      | (at_next; refine wpList_next_lock _ rfl _ rfl b w.heap.size n _ _ _ rfl hrg ?_ ?_)
      | go_in)
    · intro hc0 hl0
      go_wp2
      go_end0
      subst hc0
      have e := agree_end hA hl0 (hout.canon lawP) (hown.canon lawP)
      subst e
      exact ⟨rfl, by simpa using hout, hnx⟩
    · intro e w1 cnt1 hc hen
      have hout1 := hout.kept hc.gr (by simp; omega)
      obtain ⟨w2, hw2⟩ : ∃ w2, w2 = (w1.alloc (.cells #[.int .i64 e.k, .int .i64 e.o] 99)).alloc (.cells #[.bool e.c] 105) := ⟨_, rfl⟩
      have hb2 : w1.grownBy w2 none := by rw [hw2]; exact (World.grownBy_alloc w1 _ none).andThen (World.grownBy_alloc _ _ none) (fun j h => by cases h)
      have hout2 := hout1.kept hb2 (by simp)
      have hrg2 := hc.rg.kept hb2 (by simp) (by simp)
      have hkey := keyOf_pv e.k e.o hc.k hc.o
      unfold pv at hkey
      rw [hw2] at hout2
      go_wp2_with (first
        | (at_mapUpdate; refine wpList_mapUpdate_own _ rfl _ _ _ 55 rfl 99 105 lawP Try.underlying55 _ bd _ _ rfl hout2 (by simp only [maxLen]; omega) _ _ _ rfl rfl hkey _ [] (holdElem_mk e.c) ?_; intro w3 hout3 hg3; go_frame)
        | go_in)
      rw [← hw2] at hg3
      have hrg3 := hrg2.kept hg3 (fun e => by have := Option.some.inj e; omega) (fun e => by have := Option.some.inj e; omega)
      go_roundw
      case rel =>
        exact ⟨_, cnt1, _, hrg3, by have := hc.lt; omega, hout3.mono (by have := hc.lt; omega), agree_step hA hout.isMap (isKey _ _) hc.at_,
          ((hnx.andThen hc.gr (fun j hj => by cases hj; exact .inl (Nat.le_refl _))).andThen hb2 (fun j hj => by cases hj)).andThen hg3 (fun j hj => by cases hj; exact .inr rfl)⟩
      case measure => rw [hrg3.left_eq, hrg.left_eq]; exact hc.lt
/-- A nil map: nothing is copied. -/
theorem copy_nil (bd : Nat) (w : World) : Calls Try.prog 66 #[.map (some bd), .map none] w fun e w' => e = .returned (.tuple #[]) ∧ Below w.heap.size w w' := by
  have hrg := run_range_nilMap (P := Try.prog) w 55 99 105 Try.underlying55
  have hnx : ∀ ty, (Instr.next (.pointer (some ⟨w.heap.size, 0, none⟩)) false ty).run Try.prog (w.alloc (.mapIter none 0 #[] 0)) = _ := fun ty => run_next_nilMap w ty 0 0 #[]
  go_enter Try.func66, Try.ntmps66
  go_wp2
  refine wp_loop_rounds 1 ?_
  rw [rounds_succ]
  go_wp2
  go_end0
  exact ⟨rfl, ba _ _⟩
end Go.Proofs.Ytnpoicgincndkaa
