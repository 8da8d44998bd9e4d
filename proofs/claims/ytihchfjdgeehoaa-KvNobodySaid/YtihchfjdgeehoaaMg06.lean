/- Parts Ih Ii Ba of one proof. -/
import Derived.Test.YtihchfjdgeehoaaMg05
import Derived.Shelf.SlMaps.Clone
import Derived.Deep.QuietTactic
import Derived.BigQuiet
namespace Go.Proofs.Ytihchfjdgeehoaa
open Go.RowKit Go.Maps
set_option linter.unusedVariables false
set_option linter.unusedSimpArgs false

theorem drop_nil (o : Int) (w : World) : Calls Try.prog 40 #[.pointer none, .int .i64 o] w fun e w' => e = .returned (.tuple #[.int .i64 0, .int .i64 6]) ∧ w = w' := by
  go_enter Try.func40, Try.ntmps40
  go_wp2
  go_ret2
  exact ⟨rfl, rfl⟩

set_option maxRecDepth 1000000 in
theorem clone_nil (w : World) : Calls Try.prog 55 #[.map none] w fun e w' => e = .returned (.map none) ∧ w = w' := by
  have hq := fun w => run_eql_map_nil_sl (P := Try.prog) w 55 _ _ none Try.underlying55
  go_enter Try.func55, Try.ntmps55
  go_wp2
  go_ret
  exact ⟨rfl, rfl⟩
set_option maxRecDepth 1000000 in
theorem clone_map (b : Nat) (es : Array MapEntry) (clock : Nat) (w : World) (hb : w.heap[b]? = some (.map es clock)) : Calls Try.prog 55 #[.map (some b)] w fun e w' => e = .returned (.map (some w.heap.size)) ∧ w' = w.alloc (.map es clock) := by
  have hq := fun w => run_eql_map_nil_sl (P := Try.prog) w 55 _ _ (some b) Try.underlying55
  go_enter Try.func55, Try.ntmps55
  go_wp2
  rw [run_callFunc_extern Try.func65 (by kernel_rfl) (by kernel_rfl) (by kernel_rfl) (e := Extern.MapsClone.clone) (by kernel_rfl), run_maps_clone_sl w 55 hb]
  simp only [Result.andThen]
  rw [Oper.upon_value]
  go_wp2
  rw [run_typeAssert_map_sl _ 55 _ _ _ _ Try.underlying55]
  simp only [Result.andThen]
  rw [Oper.upon_value]
  go_wp2
  go_ret
  exact ⟨rfl, rfl⟩
theorem clone_own (b n : Nat) (D : DataW Unit) (w : World) (h : w.ownsMap Try.prog 99 holdElem b n D) : Calls Try.prog 55 #[.map (some b)] w fun e w' => e = .returned (.map (some w.heap.size)) ∧ w'.ownsMap Try.prog 99 holdElem w.heap.size n D ∧ Below w.heap.size w w' := by
  obtain ⟨es, clock, hb, F, hs, hD⟩ := h
  refine (clone_map b es clock w hb).mono ?_
  rintro e w' ⟨rfl, rfl⟩
  exact ⟨rfl, ⟨es, clock, (MapKept.heap_alloc w _).1, F, hs, hD⟩, ba _ _⟩
end Go.Proofs.Ytihchfjdgeehoaa

namespace Go.Proofs.Ytihchfjdgeehoaa
open Go.RowKit Go.Maps
set_option linter.unusedVariables false
set_option linter.unusedSimpArgs false

def DropO (w : World) (g of : Nat) (tt : TypeId) (cs : Array Value) (L : List LRow) (o : Int) (e : Ending) (w' : World) : Prop := e = .returned (.tuple #[.int .i64 ((L.length : Int) - ((dropL L o).length : Int)), .int .i64 0]) ∧ (∃ m, TabO w' g of tt (cs.setIfInBounds of (.map m)) (dropL L o)) ∧ w.grownBy w' (some g)
theorem dropL_len (L : List LRow) (o : Int) : (dropL L o).length ≤ L.length := List.length_filter_le _ _
set_option maxRecDepth 100000 in
set_option maxHeartbeats 2000000 in
theorem drop_any (g of : Nat) (tt : TypeId) (cs : Array Value) (L : List LRow) (o : Int) (w : World) (h : TabO w g of tt cs L) (ho : i64ok o) :
    Calls Try.prog 40 #[.pointer (some ⟨g, of, none⟩), .int .i64 o] w (DropO w g of tt cs L o) := by
  obtain ⟨m, hg, hcs, hsrc⟩ := h.src
  have hglt := h.lt
  have hlen := h.1
  have c0 := (hg.cell of).trans hcs
  have f0 := hg.frozen of
  clear h
  rcases hsrc with ⟨rfl, rfl⟩ | ⟨b, D, rfl, hown, hR⟩
  · have hrg := run_range_nilMap (P := Try.prog) w 55 99 105 Try.underlying55
    have hnx : ∀ ty, (Instr.next (.pointer (some ⟨w.heap.size, 0, none⟩)) false ty).run Try.prog (w.alloc (.mapIter none 0 #[] 0)) = _ := fun ty => run_next_nilMap w ty 0 0 #[]
    have hln := fun (u : World) ty => Maps.len_nil (P := Try.prog) (w := u) Try.underlying55 ty
    have hg1 := hg.below (ba w (.mapIter none 0 #[] 0)) hglt
    have c1 := (hg1.cell of).trans hcs
    have f1 := hg1.frozen of
    go_enter Try.func40, Try.ntmps40
    go_wp2_with fail
    refine (clone_nil w).mono ?_
    rintro e w' ⟨rfl, rfl⟩
    go_wp2
    refine wp_loop_rounds 1 ?_
    rw [rounds_succ]
    go_wp2
    go_ret2
    refine ⟨rfl, ⟨none, TabO.of_src (by simp [dropL]) (m := none) ?_ (set_at hcs) (.inl ⟨rfl, rfl⟩)⟩, ?_⟩
    · exact (hg.set_ of (.map none)).alloc (.mapIter none 0 #[] 0)
    · exact (lgrown_set w ⟨g, of, none⟩ (.map none)).andThen (World.grownBy_alloc _ _ none) (fun j h => by cases h)
  · have hsz := Reads.size hown hR
    have HRd := Lib.hid (And.intro hR (And.intro hlen ho))
    clear hlen
    go_enter Try.func40, Try.ntmps40
    go_wp2_with fail
    refine (clone_own b L.length D w hown).mono ?_
    rintro e w1 ⟨rfl, hcl, hb1⟩
    have hown1 := own_below hown hb1
    have hg1 := hg.below hb1 hglt
    have c1 := (hg1.cell of).trans hcs
    have hbne : b ≠ w.heap.size := by have := hown.lt; omega
    have hcl1 := hcl.lt
    have hbg := own_ne_blk hown hg
    clear c0 f0 hown
    go_wp2_with (first
      | (at_range; refine wpList_range_own _ rfl _ 55 rfl 99 105 lawP Try.underlying55 _ b L.length _ rfl hown1 ?_; intro w0 hrg0 hg0 hs0)
      | go_in)
    go_frame
    obtain ⟨r, hr⟩ : ∃ r, r = w1.heap.size := ⟨_, rfl⟩
    rw [← hr] at hrg0 hs0 ⊢
    have hrB : w.heap.size < r := by omega
    have Hr := Lib.hid hr
    have hB0 : Below w.heap.size w w0 := bt hb1 (lgrown_below hg0)
    have hcl0 := hcl.kept hg0 (by simp)
    clear hown1 hg1 c1 hcl hr
    go_loopw [] (fun wr => ∃ (left : Lit → Bool) (cnt : Nat) (Dl : DataW Unit), wr.ranges Try.prog 99 holdElem b r L.length D left cnt ∧ (∀ kl, left kl = true → Maps.has D kl = true) ∧ wr.ownsMap Try.prog 99 holdElem w.heap.size L.length Dl ∧ DropAt Dl D L o left ∧ Below w.heap.size w wr)
      (fun wr => wr.rangeLeft b r)
    case atStart => exact ⟨_, _, D, hrg0, fun _ h => h, hcl0, DropAt.start D L o, hB0⟩
    case round =>
      clear hcl0 hrg0 hB0 hs0 hg0
      obtain ⟨left, cnt, Dl, hrg, hlf, hownl, hda, hbw⟩ := hrel
      go_wp2_with (first
        | (at_next; refine wpList_next_lock _ rfl _ rfl b r L.length _ _ _ rfl hrg ?_ ?_)
        | go_in)
      · intro hc0 hl0
        have hRl := hda.done HRd.out.1 hl0
        have hln1 := (Src.len_run (.inr ⟨b, D, rfl, hrg.owns, HRd.out.1⟩) : ∀ ty, _)
        have hln2 : ∀ ty, (Builtin.len_ #[55] ty #[.map (some w.heap.size)]).run Try.prog wr = .ok (.int .i64 (dropL L o).length) wr := fun ty => by rw [hownl.len Try.underlying55 ty, Reads.size hownl hRl]
        have hgr := hg.below hbw hglt
        have c1 := (hgr.cell of).trans hcs
        have f1 := hgr.frozen of
        have hx := own_exact hownl
        rw [Reads.size hownl hRl] at hx
        obtain ⟨n1, hn1⟩ : ∃ n1, n1 = L.length := ⟨_, rfl⟩
        obtain ⟨n2, hn2⟩ : ∃ n2, n2 = (dropL L o).length := ⟨_, rfl⟩
        have h12 : (n2 : Int) ≤ (n1 : Int) ∧ (n1 : Int) ≤ 64 := by have := dropL_len L o; have := HRd.out.2.1; omega
        rw [← hn1] at hln1
        rw [← hn2] at hln2
        have hw12 : IntKind.i64.wrap ((n1 : Int) - (n2 : Int)) = (n1 : Int) - (n2 : Int) := IntWalk.i64_in _ (by omega)
        have HN := Lib.hid (And.intro hn1 hn2)
        have HX := Lib.hid (And.intro hx hRl)
        have Hgr := Lib.hid hgr
        clear hn1 hn2 h12 hx hRl hgr hrg hownl hda
        go_wp2
        go_ret2
        refine ⟨by rw [← HN.out.1, ← HN.out.2]; rfl, ⟨some w.heap.size, TabO.of_src (by have := dropL_len L o; have := HRd.out.2.1; omega) (m := some w.heap.size) (Hgr.out.set_ of (.map (some w.heap.size))) (set_at hcs) (.inr ⟨w.heap.size, Dl, rfl, HX.out.1.setCell (a := ⟨g, of, none⟩) (by show w.heap.size ≠ g; omega) _, HX.out.2⟩)⟩, ?_⟩
        · exact (lbelow_grown hbw (some g)).andThen (lgrown_set _ ⟨g, of, none⟩ (.map (some w.heap.size))) (fun j h => by cases h; exact .inr rfl)
      · intro e w2 cnt1 hc hen
        have hhas := hlf _ hc.lf
        obtain ⟨w3, hw3⟩ : ∃ w3, w3 = w2.alloc (.cells #[.int .i64 e.k, .int .i64 e.o] 99) := ⟨_, rfl⟩
        have hb3 : Below w2.heap.size w2 w3 := by rw [hw3]; exact ba _ _
        have hrg3 := hc.rg.kept (lbelow_grown hb3 none) (by simp) (by simp)
        have hownl3 := own_below (hownl.kept hc.gr (fun e => by have := Option.some.inj e; omega)) hb3
        have hbw2 : Below w.heap.size w w2 := hbw.grown hc.gr hbw.size (fun k e => by cases e; omega)
        have hbw3 := bt hbw2 hb3
        have hkey := keyOf_pv e.k e.o hc.k hc.o
        unfold pv at hkey
        obtain ⟨ek, eo, ec⟩ := e
        simp only at hw3 hrg3 hen hkey hhas ⊢
        have hlf2 : ∀ kl, (fun z => left z && !z.sameKey (litP ek eo)) kl = true → Maps.has D kl = true := fun kl h => hlf kl (by simp at h; exact h.1)
        have hlt2 := hc.lt
        have hko : i64ok ek ∧ i64ok eo := ⟨hc.k, hc.o⟩
        have Hms : Hid (cnt1 < wr.rangeLeft b r) := Lib.hid (by rw [hrg.left_eq]; exact hlt2)
        have Hl := Lib.hid (And.intro hlf2 (And.intro hda (And.intro hko hhas)))
        clear hlf2 hda hko hhas hlt2 hc hrg hownl hbw hbw2 hb3 hlf
        by_cases h1 : eo = o
        · subst h1
          have Hw3 := Lib.hid hw3
          have hownl3' := hownl3
          rw [hw3] at hownl3'
          clear hw3
          go_wp2_with (first
            | (at_delete; refine wpList_delete_own _ rfl _ _ 55 99 rfl 105 lawP Try.underlying55 _ w.heap.size _ _ rfl hownl3' _ _ rfl hkey ?_; intro w4 hownl4 hturn; go_frame)
            | go_in)
          rw [← Hw3.out] at hturn
          have hgr4 := hturn.grown
          have hrg4 := hrg3.kept hgr4 (fun e => by have := Option.some.inj e; omega) (fun e => by have := Option.some.inj e; omega)
          have hbw4 : Below w.heap.size w w4 := hbw3.grown hgr4 hbw3.size (fun k e => by cases e; exact Nat.le_refl _)
          go_roundw
          case rel => exact ⟨_, cnt1, _, hrg4, Hl.out.1, hownl4, Hl.out.2.1.gone HRd.out.1 Hl.out.2.2.1.1 Hl.out.2.2.1.2 Hl.out.2.2.2, hbw4⟩
          case measure => rw [hrg4.left_eq]; exact Hms.out
        · rw [hw3] at hrg3 hownl3 hbw3
          clear hw3
          go_wp2
          go_roundw
          case rel => exact ⟨_, cnt1, _, hrg3, Hl.out.1, hownl3, Hl.out.2.1.stay HRd.out.1 Hl.out.2.2.1.1 Hl.out.2.2.1.2 Hl.out.2.2.2 h1, hbw3⟩
          case measure => rw [hrg3.left_eq]; exact Hms.out
end Go.Proofs.Ytihchfjdgeehoaa

namespace Go.Proofs.Ytihchfjdgeehoaa
open Go.RowKit Go.Maps
set_option linter.unusedVariables false
set_option linter.unusedSimpArgs false

theorem lawI : Keyed Try.prog 3 := int_keyed Try.underlying3
def litI (k : Int) : Lit := .int .i64 k
theorem keyOf_i (k : Int) (h : i64ok k) : keyOf Try.prog 3 (.int .i64 k) = some (litI k) := keyOf_int_mk Try.underlying3 (wf_of_ok h)
theorem keyOf_i_inv {v : Value} {l : Lit} (h : keyOf Try.prog 3 v = some l) : ∃ k, v = .int .i64 k ∧ i64ok k ∧ l = litI k := by
  have h2 : mapKey Try.prog 3 v = some l := by rw [← h]; simp [keyOf, Try.underlying3]
  cases v <;> simp [mapKey, Try.underlying3] at h2
  obtain ⟨⟨rfl, hw⟩, rfl⟩ := h2
  exact ⟨_, rfl, ok_of_wf hw, rfl⟩
/-- An element of a form is kept as it is. -/
def asIf (f : Value → Bool) (v : Value) : Option (DataW Value × List MemPlace) := if f v then some (.held v, []) else none
theorem asIf_mk {f : Value → Bool} {v : Value} (h : f v = true) : asIf f v = some (.held v, []) := if_pos h
theorem asIf_inv {f : Value → Bool} {v : Value} {y : DataW Value × List MemPlace} (h : asIf f v = some y) : f v = true ∧ y = (.held v, []) := by
  unfold asIf at h
  split at h
  · rename_i hf; exact ⟨hf, (Option.some.inj h).symm⟩
  · cases h
/-- D reads as the function G. -/
structure ReadsF (D : DataW Value) (G : Int → Option Value) : Prop where
  has : ∀ k, i64ok k → Maps.has D (litI k) = (G k).isSome
  at_ : ∀ k v, i64ok k → G k = some v → ∀ z, D.atKey (litI k) z = .held v
theorem ReadsF.empty : ReadsF (.map []) (fun _ => none) := ⟨fun k _ => rfl, fun k v _ h => by cases h⟩
theorem litI_inj {a b : Int} (h : litI a = litI b) : a = b := by cases h; rfl
def putG (G : Int → Option Value) (k : Int) (v : Value) : Int → Option Value := fun j => if j = k then some v else G j
def delG (G : Int → Option Value) (k : Int) : Int → Option Value := fun j => if j = k then none else G j
theorem ReadsF.put {D : DataW Value} {G : Int → Option Value} (hm : IsMap D) (h : ReadsF D G) (k : Int) (v : Value) : ReadsF (D.put (litI k) (.held v)) (putG G k v) := by
  refine ⟨fun j hj => ?_, fun j u hj hu z => ?_⟩
  · unfold putG
    by_cases e : j = k
    · subst e
      rw [if_pos rfl, has_put_same hm (show WideAt.IsKeyLit (litI j) from trivial)]; rfl
    · rw [if_neg e, has_put_other (fun h2 => e (litI_inj h2)), h.has j hj]
  · unfold putG at hu
    by_cases e : j = k
    · subst e
      rw [if_pos rfl] at hu
      cases hu
      exact atKey_put_same hm (show WideAt.IsKeyLit (litI j) from trivial) _ _
    · rw [if_neg e] at hu
      rw [atKey_put_other (fun h2 => e (litI_inj h2))]
      exact h.at_ j u hj hu z
theorem ReadsF.del {D : DataW Value} {G : Int → Option Value} (h : ReadsF D G) (k : Int) : ReadsF (D.del (litI k)) (delG G k) := by
  refine ⟨fun j hj => ?_, fun j u hj hu z => ?_⟩
  · unfold delG
    by_cases e : j = k
    · subst e; rw [if_pos rfl, has_del_same]; rfl
    · rw [if_neg e, has_del_other (fun h2 => e (litI_inj h2)), h.has j hj]
  · unfold delG at hu
    by_cases e : j = k
    · rw [if_pos e] at hu; cases hu
    · rw [if_neg e] at hu
      rw [atKey_del_other (fun h2 => e (litI_inj h2))]
      exact h.at_ j u hj hu z
/-- What is known of such a map, wherever it lies: at most n entries. -/
def FSrc (f : Value → Bool) (w : World) (m : Option Nat) (n : Nat) (G : Int → Option Value) : Prop :=
  (m = none ∧ G = fun _ => none) ∨ ∃ b, ∃ D : DataW Value, m = some b ∧ w.ownsMap Try.prog 3 (asIf f) b n D ∧ ReadsF D G
section
variable {f : Value → Bool} {w w' : World} {m : Option Nat} {n : Nat} {G : Int → Option Value}
theorem FSrc.below (h : FSrc f w m n G) (hb : Below w.heap.size w w') : FSrc f w' m n G := by
  rcases h with h | ⟨b, D, h1, h2, h3⟩
  · exact .inl h
  · exact .inr ⟨b, D, h1, own_below h2 hb, h3⟩
theorem FSrc.kept {g : Nat} {t : TypeId} {cs : Array Value} (h : FSrc f w m n G) (hg : w.grownBy w' (some g)) (hk : Blk w g t cs) : FSrc f w' m n G := by
  rcases h with h | ⟨b, D, h1, h2, h3⟩
  · exact .inl h
  · exact .inr ⟨b, D, h1, h2.kept hg (fun e => own_ne_blk h2 hk (Option.some.inj e)), h3⟩
theorem FSrc.more {n' : Nat} (h : FSrc f w m n G) (hn : n ≤ n') : FSrc f w m n' G := by
  rcases h with h | ⟨b, D, h1, h2, h3⟩
  · exact .inl h
  · exact .inr ⟨b, D, h1, h2.mono hn, h3⟩
theorem FSrc.len_run (h : FSrc f w m n G) (t : TypeId) (e : TypeId) (ht : Try.prog.underlying t = some (.map 3 e)) (ty : TypeId) : ∃ q : Nat, q ≤ n ∧ (Builtin.len_ #[t] ty #[.map m]).run Try.prog w = .ok (.int .i64 q) w := by
  rcases h with ⟨rfl, rfl⟩ | ⟨b, D, rfl, h2, h3⟩
  · exact ⟨0, Nat.zero_le _, Maps.len_nil ht ty⟩
  · exact ⟨Maps.size D, h2.size_le, h2.len ht ty⟩
theorem FSrc.look (h : FSrc f w m n G) (t e : TypeId) (ht : Try.prog.underlying t = some (.map 3 e)) {z : Value} (hfz : f z = true) (hz : (zeroValue e).run Try.prog w = .ok z w) {k : Int} (hk : i64ok k) :
    (Instr.lookup t (.map m) (.int .i64 k) false).run Try.prog w = .ok ((G k).getD z) w := by
  rcases h with ⟨rfl, rfl⟩ | ⟨b, D, rfl, h2, h3⟩
  · exact Maps.look_nil false lawI ht hz (keyOf_i k hk)
  · obtain ⟨v, ps, hrun, hv⟩ := h2.lookup lawI ht hz (asIf_mk hfz) (keyOf_i k hk)
    rw [hrun]
    have e1 : (.held v : DataW Value) = D.atKey (litI k) (.held z) := (congrArg Prod.fst (asIf_inv hv).2).symm
    rcases hG : G k with _ | u
    · have hh := h3.has k hk
      rw [hG] at hh
      rw [atKey_of_not_has hh] at e1
      cases e1; rfl
    · rw [h3.at_ k u hk hG] at e1
      cases e1; rfl
theorem FSrc.look_ok (h : FSrc f w m n G) (t e : TypeId) (ht : Try.prog.underlying t = some (.map 3 e)) {z : Value} (hfz : f z = true) (hz : (zeroValue e).run Try.prog w = .ok z w) {k : Int} (hk : i64ok k) :
    (Instr.lookup t (.map m) (.int .i64 k) true).run Try.prog w = .ok (.tuple #[(G k).getD z, .bool (G k).isSome]) w := by
  rcases h with ⟨rfl, rfl⟩ | ⟨b, D, rfl, h2, h3⟩
  · exact Maps.look_nil true lawI ht hz (keyOf_i k hk)
  · obtain ⟨v, ps, hrun, hv⟩ := h2.look_ok lawI ht hz (asIf_mk hfz) (keyOf_i k hk)
    rw [hrun, h3.has k hk]
    have e1 : (.held v : DataW Value) = D.atKey (litI k) (.held z) := (congrArg Prod.fst (asIf_inv hv).2).symm
    rcases hG : G k with _ | u
    · have hh := h3.has k hk
      rw [hG] at hh
      rw [atKey_of_not_has hh] at e1
      cases e1; rfl
    · rw [h3.at_ k u hk hG] at e1
      cases e1; rfl
end
end Go.Proofs.Ytihchfjdgeehoaa
