/- Parts Kd Ie If of one proof. -/
import Derived.Test.YtlliaihmfimdoaaGreatMg04
namespace Go.Proofs.YtlliaihmfimdoaaGreat
open Go.RowKit Go.Maps
set_option linter.unusedVariables false
set_option linter.unusedSimpArgs false

def mkK (x : Int × Int) : Value := .agg #[.int .i64 x.1, .int .i64 x.2]
def mkV (c : Bool) : Value := .agg #[.bool c]
theorem invK (key : Value) (kl : Lit) (h : keyOf Tryz.prog 178 key = some kl) : ∃ x, key = mkK x := by
  obtain ⟨x, rfl, _⟩ := keyOf_inv h; exact ⟨x, rfl⟩
theorem invV {H : Type} (v : Value) (y : DataW H × List MemPlace) (h : holdElem v = some y) : ∃ c, v = mkV c := by
  obtain ⟨c, rfl, _⟩ := holdElem_inv h; exact ⟨c, rfl⟩
theorem mkK_inv {x : Int × Int} {kl : Lit} (h : keyOf Tryz.prog 178 (mkK x) = some kl) : kl = litP x.1 x.2 ∧ i64ok x.1 ∧ i64ok x.2 := by
  obtain ⟨y, e, h1, h2, rfl⟩ := keyOf_inv h
  simp only [mkK, pv, Value.agg.injEq] at e
  simp at e
  obtain ⟨e1, e2⟩ := e
  rw [e1, e2]; exact ⟨rfl, h1, h2⟩

/-- An entry: a key, an owner, alone. -/
structure KE where
  k : Int
  o : Int
  c : Bool
def kv (e : KE) : Value := .agg #[.int .i64 e.k, .int .i64 e.o]
def vv (e : KE) : Value := .agg #[.bool e.c]
structure Came {H : Type} (w w' : World) (b r n : Nat) (D : DataW H) (left : Lit → Bool) (cnt cnt' : Nat) (e : KE) : Prop where
  k : i64ok e.k
  o : i64ok e.o
  lf : left (litP e.k e.o) = true
  at_ : ∀ zd, D.atKey (litP e.k e.o) zd = .lit (.bool e.c)
  rg : w'.ranges Tryz.prog 178 holdElem b r n D (fun z => left z && !z.sameKey (litP e.k e.o)) cnt'
  lt : cnt' < cnt
  gr : w.grownBy w' (some r)
  sz : w'.heap.size = w.heap.size
theorem wpList_next_lock {H : Type} (w : World) {ops : Array Oper} {rest : List Oper} {o : Oper} {a : Act} {Q : Exit → Act → World → Prop} (hg : o.guard = none) (it : Operand) (hop : o.op = Op.next it false)
    (b r n : Nat) (D : DataW H) (left : Lit → Bool) (cnt : Nat) (hit : a.eval it = .pointer (some ⟨r, 0, none⟩)) (h : w.ranges Tryz.prog 178 holdElem b r n D left cnt)
    (hDone : cnt = 0 → (∀ kl, left kl = false) → wpList Tryz.prog ops Q rest (a.put o.dst (.tuple #[.bool false])) w)
    (hMore : ∀ (e : KE) (w' : World) (cnt' : Nat), Came w w' b r n D left cnt cnt' e → (Instr.entry (.pointer (some ⟨r, 0, none⟩))).run Tryz.prog w' = .ok (.tuple #[.agg #[.int .i64 e.k, .int .i64 e.o], .agg #[.bool e.c]]) w' →
      wpList Tryz.prog ops Q rest (a.put o.dst (.tuple #[.bool true, .agg #[.int .i64 e.k, .int .i64 e.o], .agg #[.bool e.c]])) w') :
    wpList Tryz.prog ops Q (o :: rest) a w :=
  wpList_next_ranges w hg it hop 178 lawP holdElem mkK mkV invK invV b r n D left cnt hit h hDone (fun x c kl y w' cnt' hkey hlk hv hat hrg hlt hgr hsz hen => by
    obtain ⟨rfl, h1, h2⟩ := mkK_inv hkey
    obtain ⟨c', e1, rfl⟩ := holdElem_inv hv
    simp only [mkV, Value.agg.injEq] at e1
    simp at e1
    subst e1
    exact hMore ⟨x.1, x.2, c⟩ w' cnt' ⟨h1, h2, hlk, hat, hrg, hlt, hgr, hsz⟩ hen)

set_option maxRecDepth 100000 in
theorem copy_map {H : Type} (b bd n : Nat) (D0 : DataW H) (w : World) (hne : b ≠ bd) (hown : w.ownsMap Tryz.prog 178 holdElem b n D0) (hd : w.ownsMap (H := H) Tryz.prog 178 holdElem bd 0 (.map [])) (hmax : Maps.size D0 ≤ 64) :
    Calls Tryz.prog 158 #[.map (some bd), .map (some b)] w fun e w' => e = .returned (.tuple #[]) ∧ w'.ownsMap Tryz.prog 178 holdElem bd (Maps.size D0) D0 ∧ w.grownBy w' (some bd) := by
  have hbl := hown.lt
  have hdl := hd.lt
  go_enter Tryz.func158, Tryz.ntmps158
  go_wp2_with (first
    | (at_range; refine wpList_range_own _ rfl _ 91 rfl 178 185 lawP Tryz.underlying91 _ b n _ rfl hown ?_; intro w0 hrg0 hg0 hs0)
    | go_in)
  go_frame
  go_loopw [] (fun wr => ∃ (left : Lit → Bool) (cnt : Nat) (Dout : DataW H), wr.ranges Tryz.prog 178 holdElem b w.heap.size n D0 left cnt ∧ cnt ≤ Maps.size D0 ∧
      wr.ownsMap Tryz.prog 178 holdElem bd (Maps.size D0 - cnt) Dout ∧ Agree Dout D0 left ∧ w.grownBy wr (some bd))
    (fun wr => wr.rangeLeft b w.heap.size)
  case atStart =>
    exact ⟨_, _, .map [], hrg0, Nat.le_refl _, (hd.kept hg0 (by simp)).mono (Nat.zero_le _), agree_start D0, hg0.but _⟩
  case round =>
    obtain ⟨left, cnt, Dout, hrg, hcs, hout, hA, hnx⟩ := hrel
    go_wp2_with (first
      | (at_next; refine wpList_next_lock _ rfl _ rfl b w.heap.size n _ _ _ rfl hrg ?_ ?_)
      | go_in)
    · intro hc0 hl0
      go_wp2
      go_end0
      subst hc0
      have e := agree_end hA hl0 (hout.canon lawP) (hown.canon lawP)
      subst e
      exact ⟨rfl, by simpa using hout, hnx⟩
    · intro e w1 cnt1 hc hen
      have hout1 := hout.kept hc.gr (by simp; omega)
      obtain ⟨w2, hw2⟩ : ∃ w2, w2 = (w1.alloc (.cells #[.int .i64 e.k, .int .i64 e.o] 178)).alloc (.cells #[.bool e.c] 185) := ⟨_, rfl⟩
      have hb2 : w1.grownBy w2 none := by rw [hw2]; exact (World.grownBy_alloc w1 _ none).andThen (World.grownBy_alloc _ _ none) (fun j h => by cases h)
      have hout2 := hout1.kept hb2 (by simp)
      have hrg2 := hc.rg.kept hb2 (by simp) (by simp)
      have hkey := keyOf_pv e.k e.o hc.k hc.o
      unfold pv at hkey
      rw [hw2] at hout2
      go_wp2_with (first
        | (at_mapUpdate; refine wpList_mapUpdate_own _ rfl _ _ _ 91 rfl 178 185 lawP Tryz.underlying91 _ bd _ _ rfl hout2 (by simp only [maxLen]; omega) _ _ _ rfl rfl hkey _ [] (holdElem_mk e.c) ?_; intro w3 hout3 hg3; go_frame)
        | go_in)
      rw [← hw2] at hg3
      have hrg3 := hrg2.kept hg3 (fun e => by have := Option.some.inj e; omega) (fun e => by have := Option.some.inj e; omega)
      go_roundw
      case rel =>
        exact ⟨_, cnt1, _, hrg3, by have := hc.lt; omega, hout3.mono (by have := hc.lt; omega), agree_step hA hout.isMap (isKey _ _) hc.at_,
          ((hnx.andThen hc.gr (fun j hj => by cases hj; exact .inl (Nat.le_refl _))).andThen hb2 (fun j hj => by cases hj)).andThen hg3 (fun j hj => by cases hj; exact .inr rfl)⟩
      case measure => rw [hrg3.left_eq, hrg.left_eq]; exact hc.lt
/-- A nil map: nothing is copied. -/
theorem copy_nil (bd : Nat) (w : World) : Calls Tryz.prog 158 #[.map (some bd), .map none] w fun e w' => e = .returned (.tuple #[]) ∧ Below w.heap.size w w' := by
  have hrg := run_range_nilMap (P := Tryz.prog) w 91 178 185 Tryz.underlying91
  have hnx : ∀ ty, (Instr.next (.pointer (some ⟨w.heap.size, 0, none⟩)) false ty).run Tryz.prog (w.alloc (.mapIter none 0 #[] 0)) = _ := fun ty => run_next_nilMap w ty 0 0 #[]
  go_enter Tryz.func158, Tryz.ntmps158
  go_wp2
  refine wp_loop_rounds 1 ?_
  rw [rounds_succ]
  go_wp2
  go_end0
  exact ⟨rfl, ba _ _⟩
end Go.Proofs.YtlliaihmfimdoaaGreat

namespace Go.Proofs.YtlliaihmfimdoaaGreat
open Go.RowKit Go.Maps
set_option linter.unusedVariables false
set_option linter.unusedSimpArgs false

theorem run_makeMap_n (n : Int) (u : World) : (Instr.makeMap 91 (some (.int .i64 n))).run Tryz.prog u = .ok (.map (some u.heap.size)) (u.alloc (.map #[] 0)) := by
  simp [Instr.makeMap, run_underlying Tryz.underlying91, asInt, go_sem, Result.andThen]
/-- What is known of a table's map, wherever it lies. -/
def Src (w : World) (m : Option Nat) (L : List LRow) : Prop :=
  (m = none ∧ L = []) ∨ ∃ b, ∃ D : DataW Unit, m = some b ∧ w.ownsMap Tryz.prog 178 holdElem b L.length D ∧ Reads D L
theorem Src.below {w w' : World} {m : Option Nat} {L : List LRow} (h : Src w m L) (hb : Below w.heap.size w w') : Src w' m L := by
  rcases h with h | ⟨b, D, h1, h2, h3⟩
  · exact .inl h
  · exact .inr ⟨b, D, h1, own_below h2 hb, h3⟩
theorem Src.kept {w w' : World} {m : Option Nat} {L : List LRow} {g : Nat} {t : TypeId} {cs : Array Value} (h : Src w m L) (hg : w.grownBy w' (some g)) (hk : Blk w g t cs) : Src w' m L := by
  rcases h with h | ⟨b, D, h1, h2, h3⟩
  · exact .inl h
  · exact .inr ⟨b, D, h1, h2.kept hg (fun e => own_ne_blk h2 hk (Option.some.inj e)), h3⟩
theorem Src.ok {w : World} {m : Option Nat} {L : List LRow} (h : Src w m L) : LOk L := by
  rcases h with ⟨_, rfl⟩ | ⟨_, _, _, _, h⟩
  · exact LOk.nil
  · exact h.ok
/-- A table at a place of block g has the locks L. -/
def TabO (w : World) (g of : Nat) (t : TypeId) (cs : Array Value) (L : List LRow) : Prop :=
  L.length ≤ 64 ∧ ∃ m, Blk w g t cs ∧ cs[of]? = some (.map m) ∧ Src w m L
theorem TabO.lt {w : World} {g of : Nat} {t : TypeId} {cs : Array Value} {L : List LRow} (h : TabO w g of t cs L) : g < w.heap.size := by
  obtain ⟨_, m, h, _⟩ := h; exact h.lt
theorem TabO.len {w : World} {g of : Nat} {t : TypeId} {cs : Array Value} {L : List LRow} (h : TabO w g of t cs L) : L.length ≤ 64 := h.1
theorem TabO.ok {w : World} {g of : Nat} {t : TypeId} {cs : Array Value} {L : List LRow} (h : TabO w g of t cs L) : LOk L := by
  obtain ⟨_, m, _, _, h⟩ := h; exact h.ok
theorem TabO.src {w : World} {g of : Nat} {t : TypeId} {cs : Array Value} {L : List LRow} (h : TabO w g of t cs L) : ∃ m, Blk w g t cs ∧ cs[of]? = some (.map m) ∧ Src w m L := h.2
theorem TabO.of_src {w : World} {g of : Nat} {t : TypeId} {cs : Array Value} {L : List LRow} {m : Option Nat} (hl : L.length ≤ 64) (h : Blk w g t cs) (hc : cs[of]? = some (.map m)) (hs : Src w m L) : TabO w g of t cs L := ⟨hl, m, h, hc, hs⟩
theorem TabO.below {w w' : World} {g of : Nat} {t : TypeId} {cs : Array Value} {L : List LRow} (h : TabO w g of t cs L) (hb : Below w.heap.size w w') : TabO w' g of t cs L := by
  obtain ⟨h0, m, h1, h2, h3⟩ := h
  exact ⟨h0, m, h1.below hb h1.lt, h2, h3.below hb⟩
def PutO (w : World) (g of : Nat) (t : TypeId) (cs : Array Value) (L : List LRow) (e : Ending) (w' : World) : Prop := e = .returned (.tuple #[]) ∧ (∃ m, TabO w' g of t (cs.setIfInBounds of (.map m)) L) ∧ w.grownBy w' (some g)
theorem Src.len_run {w : World} {m : Option Nat} {L : List LRow} (h : Src w m L) (ty : TypeId) : (Builtin.len_ #[91] ty #[.map m]).run Tryz.prog w = .ok (.int .i64 L.length) w := by
  rcases h with ⟨rfl, rfl⟩ | ⟨b, D, rfl, h2, h3⟩
  · exact Maps.len_nil Tryz.underlying91 ty
  · rw [h2.len Tryz.underlying91 ty, Reads.size h2 h3]
theorem Src.copied {w : World} {m : Option Nat} {L : List LRow} (h : Src w m L) (hl : L.length ≤ 64) (bd : Nat) (hd : w.ownsMap (H := Unit) Tryz.prog 178 holdElem bd 0 (.map [])) (hne : m ≠ some bd) :
    ∃ D : DataW Unit, Reads D L ∧ Calls Tryz.prog 158 #[.map (some bd), .map m] w fun e w' => e = .returned (.tuple #[]) ∧ w'.ownsMap Tryz.prog 178 holdElem bd L.length D ∧ w.grownBy w' (some bd) := by
  rcases h with ⟨rfl, rfl⟩ | ⟨b, D, rfl, h2, h3⟩
  · refine ⟨.map [], Reads.empty, (copy_nil bd w).mono ?_⟩
    rintro e w' ⟨rfl, hb⟩
    exact ⟨rfl, own_below hd hb, lbelow_grown hb _⟩
  · have hs := Reads.size h2 h3
    have := copy_map b bd L.length D w (fun e => hne (by rw [e])) h2 hd (by rw [hs]; exact hl)
    rw [hs] at this
    exact ⟨D, h3, this⟩

set_option maxRecDepth 100000 in
set_option maxHeartbeats 1000000 in
theorem put_any (g of : Nat) (tt : TypeId) (cs : Array Value) (L : List LRow) (k o : Int) (a : Bool) (w : World) (h : TabO w g of tt cs L) (hk : i64ok k) (ho : i64ok o) (hl : (putL L k o a).length ≤ 64) :
    Calls Tryz.prog 148 #[.pointer (some ⟨g, of, none⟩), .agg #[.int .i64 k, .int .i64 o], .agg #[.bool a]] w (PutO w g of tt cs (putL L k o a)) := by
  have hkey := keyOf_pv k o hk ho
  unfold pv at hkey
  have hmk := run_makeMap_n
  have hglt := h.lt
  obtain ⟨m, hg, hcs, hsrc⟩ := h.src
  have hlen := h.1
  obtain ⟨n, hn⟩ : ∃ n, n = L.length := ⟨_, rfl⟩
  obtain ⟨w1, hw1⟩ : ∃ w1, w1 = (w.alloc (.cells #[.int .i64 k, .int .i64 o] 178)).alloc (.cells #[.bool a] 185) := ⟨_, rfl⟩
  have hb1 : Below w.heap.size w w1 := by rw [hw1]; exact bt (ba _ _) (ba _ _)
  have hs1 : w1.heap.size = w.heap.size + 2 := by rw [hw1]; simp
  have k1 : Blk w1 w.heap.size 178 #[.int .i64 k, .int .i64 o] := by rw [hw1]; exact (Blk.new _ _ _).alloc _
  have k2 : Blk w1 (w.heap.size + 1) 185 #[.bool a] := by
    rw [hw1]; have := Blk.new (w.alloc (.cells #[.int .i64 k, .int .i64 o] 178)) 185 #[.bool a]; rwa [World.size_alloc] at this
  have hg1 := hg.below hb1 hglt
  have hsrc1 := hsrc.below hb1
  have hln := hsrc1.len_run
  rw [← hn] at hln
  have c0 := (hg1.cell of).trans hcs
  have hb2 := ba w1 (.map #[] 0)
  have hmade := World.ownsMap_made (H := Unit) w1 Tryz.prog 178 holdElem
  have hmlt : m ≠ some w1.heap.size := fun e => by
    rcases hsrc1 with ⟨h1, _⟩ | ⟨b, D, h1, h2, _⟩
    · rw [h1] at e; cases e
    · rw [h1] at e; have := h2.lt; have := Option.some.inj e; omega
  obtain ⟨D, hR, hcp⟩ := (hsrc1.below hb2).copied hlen _ hmade hmlt
  have hg2 := hg1.below hb2 hg1.lt
  have c2 := (hg2.cell of).trans hcs
  have k12 := k1.below hb2 k1.lt
  have k22 := k2.below hb2 k2.lt
  have hbs : w1.heap.size = w.heap.size + 2 := hs1
  generalize hbm : w1.heap.size = bm at *
  have Hbm := Lib.hid hbm
  have hb12 := bt hb1 (hbm ▸ hb2)
  rw [hw1] at c0 hln hcp c2
  have HW1 := Lib.hid hw1
  have HN := Lib.hid (And.intro hn hlen)
  have Hst := Lib.hid (And.intro hR (And.intro hk (And.intro ho hl)))
  have hnb : (n : Int) ≤ 64 := by omega
  have Hcs := Lib.hid hcs
  clear hcs hw1 hg hsrc hsrc1 h hlen hmade hmlt hb1 hs1 k1 k2 hg1 hb2 hbm hn hR hk ho hl
  go_enter Tryz.func148, Tryz.ntmps148
  go_wp2_with fail
  have hbm1 : w.heap.size + 1 + 1 = bm := hbs.symm
  rw [hbm1]
  refine hcp.mono ?_
  rintro e w3 ⟨rfl, hown3, hg3⟩
  rw [← HW1.out] at hg3
  have hgm : g ≠ bm := by omega
  have g3 := hg2.kept hg3 (fun e => hgm (Option.some.inj e))
  have k13 := k12.kept hg3 (fun e => by have := Option.some.inj e; omega)
  have k23 := k22.kept hg3 (fun e => by have := Option.some.inj e; omega)
  have e0 := k13.cell 0
  have e1 := k13.cell 1
  have e2 := k23.cell 0
  simp only [List.getElem?_toArray, List.getElem?_cons_zero, List.getElem?_cons_succ] at e0 e1 e2
  have Hbs := Lib.hid hbs
  clear hcp c0 c2 hln hg2 k12 k22 hbs hbm1
  have hnl : L.length < maxLen := by have := HN.out.2; unfold maxLen; omega
  go_wp2_with (first
    | (at_mapUpdate; refine wpList_mapUpdate_own _ rfl _ _ _ 91 rfl 178 185 lawP Tryz.underlying91 _ bm _ _ rfl hown3 hnl _ _ _ rfl rfl hkey _ [] (holdElem_mk a) ?_; intro w4 hown4 hg4; go_frame; have g4 := g3.kept hg4 (fun e => hgm (Option.some.inj e)); have d0 := (g4.cell of).trans Hcs.out; have f0 := g4.frozen of)
    | go_in)
  go_wp2
  go_end0
  obtain ⟨hR, hk, ho, hl⟩ := Hst.out
  have hbs := Hbs.out
  have hR4 := Reads.put (w := w4) (b := bm) (n := 0) hown3.isMap hR hk ho a
  have hx := own_exact hown4
  rw [Reads.size hown4 hR4] at hx
  refine ⟨rfl, ⟨some bm, TabO.of_src hl (m := some bm) (g4.set_ of (.map (some bm))) (set_at Hcs.out) (.inr ⟨bm, _, rfl, hx.setCell (a := ⟨g, of, none⟩) (fun e => hgm e.symm) _, hR4⟩)⟩, ?_⟩
  · have q1 : w.grownBy w4 none := by
      refine ⟨hg4.os.trans (hg3.os.trans hb12.os), hg4.tape.trans (hg3.tape.trans hb12.tape), hg4.output.trans (hg3.output.trans hb12.output), Nat.le_trans hb12.size (Nat.le_trans hg3.size hg4.size), fun i hi _ => ?_⟩
      have hi2 := Nat.lt_of_lt_of_le hi hb12.size
      have hni : some i ≠ some bm := fun e => by have := Option.some.inj e; omega
      exact (hg4.block i (Nat.lt_of_lt_of_le hi2 hg3.size) hni).trans ((hg3.block i hi2 hni).trans (hb12.block i hi))
    exact (q1.but (some g)).andThen (lgrown_set w4 ⟨g, of, none⟩ (.map (some bm))) (fun j h => by cases h; exact .inr rfl)
end Go.Proofs.YtlliaihmfimdoaaGreat

namespace Go.Proofs.YtlliaihmfimdoaaGreat
open Go.RowKit Go.Maps
set_option linter.unusedVariables false
set_option linter.unusedSimpArgs false

def clash1 (k o : Int) (a : Bool) (x : LRow) : Bool := decide (x.1 = k) && !decide (x.2.1 = o) && (a || x.2.2)
theorem clashL_any (L : List LRow) (k o : Int) (a : Bool) : clashL L k o a = L.any (clash1 k o a) := rfl
/-- The entry that has come is a member. -/
theorem came_mem {H : Type} {w w' : World} {b r n : Nat} {D : DataW H} {L : List LRow} {left : Lit → Bool} {cnt cnt' : Nat} {e : KE} (h : Came w w' b r n D left cnt cnt' e) (hR : Reads D L) (hl : left (litP e.k e.o) = true → Maps.has D (litP e.k e.o) = true) : (e.k, e.o, e.c) ∈ L := by
  obtain ⟨x, hx, h1, h2⟩ := mem_of_has hR h.k h.o (hl h.lf)
  have h3 := hR.at_ x hx .nil
  have h4 := h.at_ .nil
  unfold keyR at h3
  rw [h1, h2, h4] at h3
  simp at h3
  have : x = (e.k, e.o, e.c) := by rw [← h1, ← h2, h3]
  rw [← this]; exact hx
/-- All that have come are tame. -/
def Gone (L : List LRow) (left : Lit → Bool) (p : LRow → Bool) : Prop := ∀ x ∈ L, left (keyR x) = false → p x = false
theorem Gone.step {H : Type} {w w' : World} {b r n : Nat} {D : DataW H} {L : List LRow} {left : Lit → Bool} {cnt cnt' : Nat} {e : KE} {p : LRow → Bool} (h : Gone L left p) (hc : Came w w' b r n D left cnt cnt' e) (hR : Reads D L) (hm : (e.k, e.o, e.c) ∈ L) (hp : p (e.k, e.o, e.c) = false) :
    Gone L (fun z => left z && !z.sameKey (litP e.k e.o)) p := fun x hx hl => by
  dsimp only at hl
  rcases hs : (keyR x).sameKey (litP e.k e.o) with _ | _
  · rw [hs] at hl; simp at hl; exact h x hx hl
  · have hok := hR.ok.ok x hx
    have := litP_inj hok.1 hok.2 hc.k hc.o (Go.Proofs.YtlliaihmfimdoaaGreat.same_eq hs)
    have h2 := at_same hR.ok hx hm this.1 this.2
    rw [h2]; exact hp

set_option maxRecDepth 100000 in
set_option maxHeartbeats 1000000 in
theorem clashes_any (g of : Nat) (tt : TypeId) (cs : Array Value) (L : List LRow) (k o : Int) (a : Bool) (w : World) (h : TabO w g of tt cs L) :
    Calls Tryz.prog 147 #[.pointer (some ⟨g, of, none⟩), .agg #[.int .i64 k, .int .i64 o], .bool a] w fun e w' => e = .returned (.bool (clashL L k o a)) ∧ Below w.heap.size w w' := by
  have hglt := h.lt
  have hb1 := ba w (.cells #[.int .i64 k, .int .i64 o] 178)
  have k1 := Blk.new w 178 #[.int .i64 k, .int .i64 o]
  obtain ⟨m, hg, hcs, hsrc⟩ := h.src
  have hg1 := hg.below hb1 hglt
  have hs1 := hsrc.below hb1
  have c0 := (hg1.cell of).trans hcs
  clear hg hsrc h hcs
  rcases hs1 with ⟨rfl, rfl⟩ | ⟨b, D, rfl, hown, hR⟩
  · have hrg := run_range_nilMap (P := Tryz.prog) (w.alloc (.cells #[.int .i64 k, .int .i64 o] 178)) 91 178 185 Tryz.underlying91
    have hnx : ∀ ty, (Instr.next (.pointer (some ⟨(w.alloc (.cells #[.int .i64 k, .int .i64 o] 178)).heap.size, 0, none⟩)) false ty).run Tryz.prog ((w.alloc (.cells #[.int .i64 k, .int .i64 o] 178)).alloc (.mapIter none 0 #[] 0)) = _ := fun ty => run_next_nilMap _ ty 0 0 #[]
    have e1 : (w.alloc (.cells #[.int .i64 k, .int .i64 o] 178)).heap.size = w.heap.size + 1 := by simp
    rw [e1] at hrg hnx
    go_enter Tryz.func147, Tryz.ntmps147
    go_wp2
    refine wp_loop_rounds 1 ?_
    rw [rounds_succ]
    go_wp2
    go_ret
    exact ⟨rfl, bt (ba _ _) (ba _ _)⟩
  · go_enter Tryz.func147, Tryz.ntmps147
    go_wp2_with (first
      | (at_range; refine wpList_range_own _ rfl _ 91 rfl 178 185 lawP Tryz.underlying91 _ b L.length _ rfl hown ?_; intro w0 hrg0 hg0 hs0)
      | go_in)
    go_frame
    rw [World.size_alloc] at hrg0 hs0 ⊢
    have hB0 : Below w.heap.size w w0 := bt hb1 (lgrown_below hg0)
    have k0 := k1.kept hg0 (by simp)
    have hk0 : w.heap.size < w0.heap.size := k0.lt
    clear hb1 k1 hg1 c0
    go_loopw [] (fun wr => ∃ (left : Lit → Bool) (cnt : Nat), wr.ranges Tryz.prog 178 holdElem b (w.heap.size + 1) L.length D left cnt ∧ (∀ kl, left kl = true → Maps.has D kl = true) ∧ Gone L left (clash1 k o a) ∧ w0.grownBy wr (some (w.heap.size + 1)))
      (fun wr => wr.rangeLeft b (w.heap.size + 1))
    case atStart =>
      refine ⟨_, _, hrg0, fun _ h => h, fun x hx hl => ?_, ⟨rfl, rfl, rfl, Nat.le_refl _, fun _ _ _ => rfl⟩⟩
      rw [hR.has] at hl
      exact absurd (show anyK L (keyR x) = true from List.any_eq_true.2 ⟨x, hx, key_same _ _⟩) (by rw [hl]; simp)
    case round =>
      obtain ⟨left, cnt, hrg, hlf, hgone, hgr⟩ := hrel
      have kr := k0.kept hgr (by simp)
      have hBr : Below w.heap.size w wr := ⟨hgr.os.trans hB0.os, hgr.tape.trans hB0.tape, hgr.output.trans hB0.output, Nat.le_trans hB0.size hgr.size, fun i hi => (hgr.block i (Nat.lt_of_lt_of_le hi hB0.size) (fun e => by have := Option.some.inj e; omega)).trans (hB0.block i hi)⟩
      go_wp2_with (first
        | (at_next; refine wpList_next_lock _ rfl _ rfl b (w.heap.size + 1) L.length _ _ _ rfl hrg ?_ ?_)
        | go_in)
      · intro hc0 hl0
        go_wp2
        go_ret
        have : clashL L k o a = false := by rw [clashL_any, List.any_eq_false]; intro x hx; rw [hgone x hx (hl0 _)]; simp
        rw [this]
        exact ⟨rfl, hBr⟩
      · intro e w1 cnt1 hc hen
        have hm := came_mem hc hR (hlf _)
        obtain ⟨w2, hw2⟩ : ∃ w2, w2 = (w1.alloc (.cells #[.int .i64 e.k, .int .i64 e.o] 178)).alloc (.cells #[.bool e.c] 185) := ⟨_, rfl⟩
        have hb2 : Below w1.heap.size w1 w2 := by rw [hw2]; exact bt (ba _ _) (ba _ _)
        have hrg2 := hc.rg.kept (lbelow_grown hb2 none) (by simp) (by simp)
        have kr1 := kr.kept hc.gr (fun e => by have := Option.some.inj e; omega)
        have kr2 := kr1.below hb2 kr1.lt
        have e0 := kr2.cell 0
        have e1 := kr2.cell 1
        simp only [List.getElem?_toArray, List.getElem?_cons_zero, List.getElem?_cons_succ] at e0 e1
        have hgr2 : w0.grownBy w2 (some (w.heap.size + 1)) := (hgr.andThen hc.gr (fun j h => by cases h; exact .inr rfl)).andThen (lbelow_grown hb2 none) (fun j h => by cases h)
        have hBw2 : Below w.heap.size w w2 := ⟨hgr2.os.trans hB0.os, hgr2.tape.trans hB0.tape, hgr2.output.trans hB0.output, Nat.le_trans hB0.size hgr2.size, fun i hi => (hgr2.block i (Nat.lt_of_lt_of_le hi hB0.size) (fun e => by have := Option.some.inj e; omega)).trans (hB0.block i hi)⟩
        have hyes : clash1 k o a (e.k, e.o, e.c) = true → clashL L k o a = true := fun h => List.any_eq_true.2 ⟨_, hm, h⟩
        have hno := fun h => hgone.step hc hR hm h
        obtain ⟨ek, eo, ec⟩ := e
        simp only at hw2 hrg2 hen hyes hno hm ⊢
        rw [hw2] at e0 e1 hrg2 hgr2 hBw2
        have hlf2 : ∀ kl, (fun z => left z && !z.sameKey (litP ek eo)) kl = true → Maps.has D kl = true := fun kl h => hlf kl (by simp at h; exact h.1)
        have hlt2 := hc.lt
        have Hrel := Lib.hid (And.intro hrg2 (And.intro hlf2 (And.intro hno (And.intro hgr2 (And.intro hBw2 hyes)))))
        have Hms : Hid (cnt1 < wr.rangeLeft b (w.heap.size + 1)) := Lib.hid (by rw [hrg.left_eq]; exact hlt2)
        clear hw2 hrg2 hno hyes hgr2 hBw2 hb2 hrg hgone hgr kr hBr hm kr1 kr2 hlf hlf2 hlt2
        have hcase : (ek ≠ k) ∨ (ek = k ∧ eo = o) ∨ (ek = k ∧ eo ≠ o) := by omega
        rcases hcase with h1 | ⟨rfl, rfl⟩ | ⟨rfl, h1⟩
        · go_wp2
          go_roundw
          case rel => exact ⟨_, cnt1, Hrel.out.1, Hrel.out.2.1, Hrel.out.2.2.1 (by simp [clash1, h1]), Hrel.out.2.2.2.1⟩
          case measure => rw [Hrel.out.1.left_eq]; exact Hms.out
        · go_wp2
          go_roundw
          case rel => exact ⟨_, cnt1, Hrel.out.1, Hrel.out.2.1, Hrel.out.2.2.1 (by simp [clash1]), Hrel.out.2.2.2.1⟩
          case measure => rw [Hrel.out.1.left_eq]; exact Hms.out
        · rcases a with _ | _
          · rcases ec with _ | _
            · go_wp2
              go_roundw
              case rel => exact ⟨_, cnt1, Hrel.out.1, Hrel.out.2.1, Hrel.out.2.2.1 (by simp [clash1]), Hrel.out.2.2.2.1⟩
              case measure => rw [Hrel.out.1.left_eq]; exact Hms.out
            · go_wp2
              go_ret
              rw [Hrel.out.2.2.2.2.2 (by simp [clash1, h1])]
              exact ⟨rfl, Hrel.out.2.2.2.2.1⟩
          · go_wp2
            go_ret
            rw [Hrel.out.2.2.2.2.2 (by simp [clash1, h1])]
            exact ⟨rfl, Hrel.out.2.2.2.2.1⟩
end Go.Proofs.YtlliaihmfimdoaaGreat
