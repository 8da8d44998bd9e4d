/- Parts Bb Im In of one proof. -/
import Derived.Test.YtihchfjdgeehoaaMg06
import Derived.Test.YtihchfjdgeehoaaShelf
import Derived.Sort.OwnSortedInts
import Derived.Lib.SmallJoins
import Derived.Lib.OwnKind
namespace Go.Proofs.Ytihchfjdgeehoaa
open Go.RowKit Go.Maps
set_option linter.unusedVariables false
set_option linter.unusedSimpArgs false

/-- A work as it lies in the map. -/
def isWork (v : Value) : Bool := match v with
  | .agg cs => (match cs.toList with | [.slice _ _ _, .bool _] => true | _ => false)
  | _ => false
structure WkV where
  A : Option Addr
  n : Nat
  c : Nat
  p : Bool
def WkV.val (x : WkV) : Value := .agg #[.slice x.A x.n x.c, .bool x.p]
theorem isWork_val (x : WkV) : isWork x.val = true := rfl
theorem isWork_inv {v : Value} (h : isWork v = true) : ∃ x : WkV, v = x.val := by
  cases v <;> simp only [isWork] at h
  all_goals try cases h
  rename_i cs
  obtain ⟨cs⟩ := cs
  rcases cs with _ | ⟨c0, _ | ⟨c1, _ | ⟨c2, r⟩⟩⟩
  · cases h
  · cases c0 <;> cases h
  · cases c0 <;> cases c1 <;> first | (cases h; done) | exact ⟨⟨_, _, _, _⟩, rfl⟩
  · cases c0 <;> cases c1 <;> cases h
def zeroWk : WkV := ⟨none, 0, 0, false⟩
theorem invI (key : Value) (kl : Lit) (h : keyOf Try.prog 3 key = some kl) : ∃ x : Int, key = .int .i64 x := by
  obtain ⟨x, rfl, _⟩ := keyOf_i_inv h; exact ⟨x, rfl⟩
theorem invW (v : Value) (y : DataW Value × List MemPlace) (h : asIf isWork v = some y) : ∃ c : WkV, v = c.val := isWork_inv (asIf_inv h).1
structure CameW (w w' : World) (b r n : Nat) (D : DataW Value) (left : Lit → Bool) (cnt cnt' : Nat) (k : Int) (x : WkV) : Prop where
  ok : i64ok k
  lf : left (litI k) = true
  at_ : ∀ zd, D.atKey (litI k) zd = .held x.val
  rg : w'.ranges Try.prog 3 (asIf isWork) b r n D (fun z => left z && !z.sameKey (litI k)) cnt'
  lt : cnt' < cnt
  gr : w.grownBy w' (some r)
  sz : w'.heap.size = w.heap.size
set_option maxRecDepth 1000000 in
theorem wpList_next_work (w : World) {ops : Array Oper} {rest : List Oper} {o : Oper} {a : Act} {Q : Exit → Act → World → Prop} (hg : o.guard = none) (it : Operand) (hop : o.op = Op.next it false)
    (b r n : Nat) (D : DataW Value) (left : Lit → Bool) (cnt : Nat) (hit : a.eval it = .pointer (some ⟨r, 0, none⟩)) (h : w.ranges Try.prog 3 (asIf isWork) b r n D left cnt)
    (hDone : cnt = 0 → (∀ kl, left kl = false) → wpList Try.prog ops Q rest (a.put o.dst (.tuple #[.bool false])) w)
    (hMore : ∀ (k : Int) (x : WkV) (w' : World) (cnt' : Nat), CameW w w' b r n D left cnt cnt' k x → (Instr.entry (.pointer (some ⟨r, 0, none⟩))).run Try.prog w' = .ok (.tuple #[.int .i64 k, .agg #[.slice x.A x.n x.c, .bool x.p]]) w' →
      wpList Try.prog ops Q rest (a.put o.dst (.tuple #[.bool true, .int .i64 k, .agg #[.slice x.A x.n x.c, .bool x.p]])) w') :
    wpList Try.prog ops Q (o :: rest) a w :=
  wpList_next_ranges w hg it hop 3 lawI (asIf isWork) (fun x : Int => .int .i64 x) WkV.val invI invW b r n D left cnt hit h hDone (fun x c kl y w' cnt' hkey hlk hv hat hrg hlt hgr hsz hen => by
    obtain ⟨k, e, hk, rfl⟩ := keyOf_i_inv hkey
    cases e
    obtain ⟨_, rfl⟩ := asIf_inv hv
    exact hMore x c w' cnt' ⟨hk, hlk, hat, hrg, hlt, hgr, hsz⟩ hen)

set_option maxRecDepth 1000000 in
theorem copyW_map (b bd n : Nat) (D0 : DataW Value) (w : World) (hne : b ≠ bd) (hown : w.ownsMap Try.prog 3 (asIf isWork) b n D0) (hd : w.ownsMap Try.prog 3 (asIf isWork) bd 0 (.map [])) (hmax : Maps.size D0 ≤ 1000000) :
    Calls Try.prog 56 #[.map (some bd), .map (some b)] w fun e w' => e = .returned (.tuple #[]) ∧ w'.ownsMap Try.prog 3 (asIf isWork) bd (Maps.size D0) D0 ∧ w.grownBy w' (some bd) := by
  have hbl := hown.lt
  have hdl := hd.lt
  go_enter Try.func56, Try.ntmps56
  go_wp2_with (first
    | (at_range; refine wpList_range_own _ rfl _ 54 rfl 3 81 lawI Try.underlying54 _ b n _ rfl hown ?_; intro w0 hrg0 hg0 hs0)
    | go_in)
  go_frame
  go_loopw [] (fun wr => ∃ (left : Lit → Bool) (cnt : Nat) (Dout : DataW Value), wr.ranges Try.prog 3 (asIf isWork) b w.heap.size n D0 left cnt ∧ cnt ≤ Maps.size D0 ∧
      wr.ownsMap Try.prog 3 (asIf isWork) bd (Maps.size D0 - cnt) Dout ∧ Agree Dout D0 left ∧ w.grownBy wr (some bd))
    (fun wr => wr.rangeLeft b w.heap.size)
  case atStart =>
    exact ⟨_, _, .map [], hrg0, Nat.le_refl _, (hd.kept hg0 (by simp)).mono (Nat.zero_le _), agree_start D0, hg0.but _⟩
  case round =>
    obtain ⟨left, cnt, Dout, hrg, hcs, hout, hA, hnx⟩ := hrel
    go_wp2_with (first
      | (at_next; refine wpList_next_work _ rfl _ rfl b w.heap.size n _ _ _ rfl hrg ?_ ?_)
      | go_in)
    · intro hc0 hl0
      go_wp2
      go_end0
      subst hc0
      have e := agree_end hA hl0 (hout.canon lawI) (hown.canon lawI)
      subst e
      exact ⟨rfl, by simpa using hout, hnx⟩
    · intro k x w1 cnt1 hc hen
      have hout1 := hout.kept hc.gr (by simp; omega)
      obtain ⟨w2, hw2⟩ : ∃ w2, w2 = w1.alloc (.cells #[.slice x.A x.n x.c, .bool x.p] 81) := ⟨_, rfl⟩
      have hb2 : w1.grownBy w2 none := by rw [hw2]; exact World.grownBy_alloc w1 _ none
      have hout2 := hout1.kept hb2 (by simp)
      have hrg2 := hc.rg.kept hb2 (by simp) (by simp)
      have hkey := keyOf_i k hc.ok
      rw [hw2] at hout2
      go_wp2_with (first
        | (at_mapUpdate; refine wpList_mapUpdate_own _ rfl _ _ _ 54 rfl 3 81 lawI Try.underlying54 _ bd _ _ rfl hout2 (by simp only [maxLen]; omega) _ _ _ rfl rfl hkey _ [] (asIf_mk (isWork_val x)) ?_; intro w3 hout3 hg3; go_frame)
        | go_in)
      rw [← hw2] at hg3
      have hrg3 := hrg2.kept hg3 (fun e => by have := Option.some.inj e; omega) (fun e => by have := Option.some.inj e; omega)
      go_roundw
      case rel =>
        exact ⟨_, cnt1, _, hrg3, by have := hc.lt; omega, hout3.mono (by have := hc.lt; omega), agree_step hA hout.isMap (show WideAt.IsKeyLit (litI k) from trivial) hc.at_,
          ((hnx.andThen hc.gr (fun j hj => by cases hj; exact .inl (Nat.le_refl _))).andThen hb2 (fun j hj => by cases hj)).andThen hg3 (fun j hj => by cases hj; exact .inr rfl)⟩
      case measure => rw [hrg3.left_eq, hrg.left_eq]; exact hc.lt
set_option maxRecDepth 1000000 in
/-- A nil map: nothing is copied. -/
theorem copyW_nil (bd : Nat) (w : World) : Calls Try.prog 56 #[.map (some bd), .map none] w fun e w' => e = .returned (.tuple #[]) ∧ Below w.heap.size w w' := by
  have hrg := run_range_nilMap (P := Try.prog) w 54 3 81 Try.underlying54
  have hnx : ∀ ty, (Instr.next (.pointer (some ⟨w.heap.size, 0, none⟩)) false ty).run Try.prog (w.alloc (.mapIter none 0 #[] 0)) = _ := fun ty => run_next_nilMap w ty 0 0 #[]
  go_enter Try.func56, Try.ntmps56
  go_wp2
  refine wp_loop_rounds 1 ?_
  rw [rounds_succ]
  go_wp2
  go_end0
  exact ⟨rfl, ba _ _⟩
theorem FSrc.copied {w : World} {m : Option Nat} {n : Nat} {G : Int → Option Value} (h : FSrc isWork w m n G) (hl : n ≤ 1000000) (bd : Nat) (hd : w.ownsMap Try.prog 3 (asIf isWork) bd 0 (.map [])) (hne : m ≠ some bd) :
    ∃ D : DataW Value, ReadsF D G ∧ Calls Try.prog 56 #[.map (some bd), .map m] w fun e w' => e = .returned (.tuple #[]) ∧ w'.ownsMap Try.prog 3 (asIf isWork) bd n D ∧ w.grownBy w' (some bd) := by
  rcases h with ⟨rfl, rfl⟩ | ⟨b, D, rfl, h2, h3⟩
  · refine ⟨.map [], ReadsF.empty, (copyW_nil bd w).mono ?_⟩
    rintro e w' ⟨rfl, hb⟩
    exact ⟨rfl, (own_below hd hb).mono (Nat.zero_le _), lbelow_grown hb _⟩
  · have hsz := h2.size_le
    refine ⟨D, h3, (copyW_map b bd n D w (fun e => hne (by rw [e])) h2 hd (by omega)).mono ?_⟩
    rintro e w' ⟨rfl, ho, hg⟩
    exact ⟨rfl, ho.mono hsz, hg⟩

set_option maxRecDepth 1000000 in
theorem cloneW_nil (w : World) : Calls Try.prog 53 #[.map none] w fun e w' => e = .returned (.map none) ∧ w = w' := by
  have hq := fun w => run_eql_map_nil_sl (P := Try.prog) w 54 _ _ none Try.underlying54
  go_enter Try.func53, Try.ntmps53
  go_wp2
  go_ret
  exact ⟨rfl, rfl⟩
set_option maxRecDepth 1000000 in
theorem cloneW_map (b : Nat) (es : Array MapEntry) (clock : Nat) (w : World) (hb : w.heap[b]? = some (.map es clock)) : Calls Try.prog 53 #[.map (some b)] w fun e w' => e = .returned (.map (some w.heap.size)) ∧ w' = w.alloc (.map es clock) := by
  have hq := fun w => run_eql_map_nil_sl (P := Try.prog) w 54 _ _ (some b) Try.underlying54
  go_enter Try.func53, Try.ntmps53
  go_wp2
  rw [run_callFunc_extern Try.func65 (by kernel_rfl) (by kernel_rfl) (by kernel_rfl) (e := Extern.MapsClone.clone) (by kernel_rfl), run_maps_clone_sl w 54 hb]
  simp only [Result.andThen]
  rw [Oper.upon_value]
  go_wp2
  rw [run_typeAssert_map_sl _ 54 _ _ _ _ Try.underlying54]
  simp only [Result.andThen]
  rw [Oper.upon_value]
  go_wp2
  go_ret
  exact ⟨rfl, rfl⟩
theorem FSrc.cloned {w : World} {m : Option Nat} {n : Nat} {G : Int → Option Value} (h : FSrc isWork w m n G) :
    Calls Try.prog 53 #[.map m] w fun e w' => (∃ m', e = .returned (.map m') ∧ FSrc isWork w' m' n G ∧ (∀ b, m' = some b → w.heap.size ≤ b)) ∧ Below w.heap.size w w' := by
  rcases h with ⟨rfl, rfl⟩ | ⟨b, D, rfl, ⟨es, clock, hb, F, hs, hD⟩, h3⟩
  · refine (cloneW_nil w).mono ?_
    rintro e w' ⟨rfl, rfl⟩
    exact ⟨⟨none, rfl, .inl ⟨rfl, rfl⟩, fun b e => by cases e⟩, Below.refl _ _⟩
  · refine (cloneW_map b es clock w hb).mono ?_
    rintro e w' ⟨rfl, rfl⟩
    exact ⟨⟨_, rfl, .inr ⟨_, D, rfl, ⟨es, clock, (MapKept.heap_alloc w _).1, F, hs, hD⟩, h3⟩, fun b e => by cases e; exact Nat.le_refl _⟩, ba _ _⟩
end Go.Proofs.Ytihchfjdgeehoaa

namespace Go.Proofs.Ytihchfjdgeehoaa
open Go.RowKit Go.Maps
set_option linter.unusedVariables false
set_option linter.unusedSimpArgs false

theorem held_iff {L : List LRow} {k o : Int} : heldL L k o = true ↔ ∃ x ∈ L, x.1 = k ∧ x.2.1 = o := by
  unfold heldL; rw [List.any_eq_true]; exact ⟨fun ⟨x, h, e⟩ => ⟨x, h, atB_iff.1 e⟩, fun ⟨x, h, e⟩ => ⟨x, h, atB_iff.2 e⟩⟩
theorem alone_iff {L : List LRow} {k o : Int} : aloneL L k o = true ↔ ∃ x ∈ L, x.1 = k ∧ x.2.1 = o ∧ x.2.2 = true := by
  unfold aloneL; rw [List.any_eq_true]
  constructor
  · rintro ⟨x, h, e⟩
    rw [Bool.and_eq_true, atB_iff] at e
    exact ⟨x, h, e.1.1, e.1.2, e.2⟩
  · rintro ⟨x, h, e1, e2, e3⟩
    exact ⟨x, h, by rw [Bool.and_eq_true, atB_iff]; exact ⟨⟨e1, e2⟩, e3⟩⟩
theorem clash_no {L : List LRow} {k o : Int} {a : Bool} (h : clashL L k o a = false) {x : LRow} (hx : x ∈ L) (h1 : x.1 = k) (h2 : x.2.1 ≠ o) : a = false ∧ x.2.2 = false := by
  unfold clashL at h
  have := (List.any_eq_false.1 h) x hx
  simpa [h1, h2] using this
theorem clash_yes {L : List LRow} {k o : Int} {a : Bool} {x : LRow} (hx : x ∈ L) (h1 : x.1 = k) (h2 : x.2.1 ≠ o) (h3 : x.2.2 = true) : clashL L k o a = true := by
  unfold clashL
  exact List.any_eq_true.2 ⟨x, hx, by simp [h1, h2, h3]⟩
theorem put_mem {L : List LRow} {k o : Int} {a : Bool} {x : LRow} (h : x ∈ putL L k o a) : x = (k, o, a) ∨ (x ∈ L ∧ ¬ (x.1 = k ∧ x.2.1 = o)) := by
  unfold putL at h
  split at h
  · obtain ⟨y, hy, rfl⟩ := List.mem_map.1 h
    by_cases hb : atB k o y = true
    · rw [if_pos hb]; exact .inl rfl
    · rw [if_neg hb]; exact .inr ⟨hy, fun e => hb (atB_iff.2 e)⟩
  · rename_i hn
    rcases List.mem_append.1 h with h1 | h1
    · exact .inr ⟨h1, fun e => hn (held_iff.2 ⟨x, h1, e⟩)⟩
    · exact .inl (List.mem_singleton.1 h1)
theorem put_new (L : List LRow) (k o : Int) (a : Bool) : (k, o, a) ∈ putL L k o a := by
  unfold putL
  split
  · rename_i h
    obtain ⟨x, hx, e⟩ := held_iff.1 h
    exact List.mem_map.2 ⟨x, hx, by rw [if_pos (atB_iff.2 e)]⟩
  · simp
theorem put_old {L : List LRow} {k o : Int} {a : Bool} {x : LRow} (hx : x ∈ L) (hn : ¬ (x.1 = k ∧ x.2.1 = o)) : x ∈ putL L k o a := by
  unfold putL
  split
  · exact List.mem_map.2 ⟨x, hx, by rw [if_neg (fun e => hn (atB_iff.1 e))]⟩
  · exact List.mem_append.2 (.inl hx)
theorem take_cases (L : List LRow) (o k : Int) (a : Bool) : (clashL L k o a = true ∧ takeL L o k a = (120, L)) ∨ (clashL L k o a = false ∧ heldL L k o = false ∧ L.length = 64 ∧ takeL L o k a = (5, L)) ∨
    (clashL L k o a = false ∧ takeL L o k a = (0, putL L k o (aloneL L k o || a))) := by
  unfold takeL
  split
  · rename_i h; exact .inl ⟨h, rfl⟩
  · rename_i h
    have h := Bool.eq_false_iff.2 h
    split
    · rename_i h2; exact .inr (.inl ⟨h, h2.1, h2.2, rfl⟩)
    · exact .inr (.inr ⟨h, rfl⟩)
theorem take_ok {L L' : List LRow} {o k r : Int} {a : Bool} (h : takeL L o k a = (r, L')) (hr : r = 0) : clashL L k o a = false ∧ L' = putL L k o (aloneL L k o || a) := by
  rcases take_cases L o k a with ⟨_, e⟩ | ⟨_, _, _, e⟩ | ⟨hc, e⟩
  · rw [e] at h; cases h; cases hr
  · rw [e] at h; cases h; cases hr
  · rw [e] at h; cases h; exact ⟨hc, rfl⟩
theorem take_not {L L' : List LRow} {o k r : Int} {a : Bool} (h : takeL L o k a = (r, L')) (hr : r ≠ 0) : L' = L ∧ (r = 120 ∨ r = 5 ∧ L.length = 64) := by
  rcases take_cases L o k a with ⟨_, e⟩ | ⟨_, _, hl, e⟩ | ⟨hc, e⟩
  · rw [e] at h; cases h; exact ⟨rfl, .inl rfl⟩
  · rw [e] at h; cases h; exact ⟨rfl, .inr ⟨rfl, hl⟩⟩
  · rw [e] at h; cases h; exact absurd rfl hr
/-- No two clash. -/
def NoClash (L : List LRow) : Prop := ∀ x ∈ L, ∀ y ∈ L, x.1 = y.1 → x.2.1 ≠ y.2.1 → x.2.2 = false
theorem NoClash.put {L : List LRow} (h : NoClash L) {k o : Int} {a : Bool} (hc : clashL L k o a = false) : NoClash (putL L k o (aloneL L k o || a)) := by
  intro x hx y hy e1 e2
  rcases put_mem hx with rfl | ⟨hx1, hx2⟩
  · rcases put_mem hy with rfl | ⟨hy1, hy2⟩
    · exact absurd rfl e2
    · have hn := clash_no hc hy1 e1.symm (fun e => e2 e.symm)
      show (aloneL L k o || a) = false
      rw [hn.1, Bool.or_false]
      cases hal : aloneL L k o with
      | false => rfl
      | true =>
        obtain ⟨z, hz, z1, z2, z3⟩ := alone_iff.1 hal
        have := h z hz y hy1 (z1.trans e1) (by rw [z2]; exact e2)
        rw [z3] at this; exact this
  · rcases put_mem hy with rfl | ⟨hy1, hy2⟩
    · exact (clash_no hc hx1 e1 e2).2
    · exact h x hx1 y hy1 e1 e2
theorem NoClash.take {L : List LRow} (h : NoClash L) (o k : Int) (a : Bool) : NoClash (takeL L o k a).2 := by
  rcases take_cases L o k a with ⟨_, e⟩ | ⟨_, _, _, e⟩ | ⟨hc, e⟩
  · rw [e]; exact h
  · rw [e]; exact h
  · rw [e]; exact h.put hc
theorem NoClash.drop {L : List LRow} (h : NoClash L) (o : Int) : NoClash (dropL L o) :=
  fun x hx y hy => h x (List.mem_filter.1 hx).1 y (List.mem_filter.1 hy).1
theorem put_same {M : List LRow} {k o : Int} {b : Bool} (hh : heldL M k o = true) (h : ∀ x ∈ M, atB k o x = true → x = (k, o, b)) : putL M k o b = M := by
  unfold putL
  rw [if_pos hh]
  have : ∀ x ∈ M, (if atB k o x then (k, o, b) else x) = x := by
    intro x hx
    split
    · rename_i hb; exact (h x hx hb).symm
    · rfl
  rw [List.map_congr_left this, List.map_id']

end Go.Proofs.Ytihchfjdgeehoaa

namespace Go.Proofs.Ytihchfjdgeehoaa
open Go.RowKit Go.Maps Go.Sort
set_option linter.unusedVariables false
set_option linter.unusedSimpArgs false

theorem wpList_append_run {P : Program} {w : World} {ops : Array Oper} {rest : List Oper} {o : Oper} {a : Act} {Q : Exit → Act → World → Prop} (hgd : o.guard = none) (s x : Operand) (t : TypeId)
    (ho : o.op = .call { callee := .builtin .append, args := #[s, x], argTypes := #[t, t] }) (sv xv v : Value) (w' : World) (hs : a.eval s = sv) (hx : a.eval x = xv) (hrun : (Builtin.append_ #[t, t] o.type #[sv, xv]).run P w = .ok v w') (h : wpList P ops Q rest (a.put o.dst v) w') :
    wpList P ops Q (o :: rest) a w := by
  refine wpList_plain hgd fun _ hK => ?_
  unfold Oper.wp execOp
  simp only [ho, resolve, invoke, builtin, Sem.run_bind, Sem.run_pure, Result.andThen_ok, List.map_toArray, List.map_cons, List.map_nil, hs, hx, hrun]
  exact hK _ _ h
theorem Try.infoInt : (Try.prog.info? 3).map (fun i => (i.zero, i.size, i.bytes)) = some (some (.int .i64 0), 1, 8) := by kernel_rfl
/-- A list of numbers of its own. -/
def EndsAt (u : World) (B : Nat) (A : Option Addr) (c : Nat) (es : List Int) : Prop := u.ownsRow B 3 1 (.slice A es.length c) es.length (es.map (Value.int .i64))
section
variable {u u' : World} {B : Nat} {A : Option Addr} {c : Nat} {es : List Int}
theorem EndsAt.nil (u : World) (B : Nat) : EndsAt u B none 0 [] := World.ownsRow_nil u _ _ _
theorem EndsAt.lt' (h : EndsAt u B A c es) : ∀ r, blk A = some r → B ≤ r ∧ r < u.heap.size := fun r e => World.ownsRow.lt h r (by rw [ownBlock_slice]; exact e)
theorem EndsAt.kept {row : Option Nat} (h : EndsAt u B A c es) (hg : u.grownBy u' row) (hr : ∀ r, row = some r → r < B ∨ u.heap.size ≤ r) : EndsAt u' B A c es := by
  refine World.ownsRow.kept h hg ?_
  rcases hb : (Value.slice A es.length c).ownBlock with _ | k
  · exact .inl rfl
  · refine .inr (fun e => ?_)
    have h2 := World.ownsRow.lt h k hb
    rcases hr k e.symm with h3 | h3 <;> omega
theorem EndsAt.base {B' : Nat} (h : EndsAt u B A c es) (hB : B' ≤ B) : EndsAt u B' A c es := by
  unfold EndsAt at h ⊢
  obtain ⟨h1, h2⟩ := h
  refine ⟨h1, ?_⟩
  rcases h2 with h2 | ⟨g', cap', cur, hv, hb, hrest⟩
  · exact .inl h2
  · exact .inr ⟨g', cap', cur, hv, Nat.le_trans hB hb, hrest⟩
theorem ends_more (h : EndsAt u B A c es) (n : Nat) (hn : n = es.length) (hl : n ≤ 1000000) (x : Int) (q : Nat) (hBu : B ≤ u.heap.size) (hq0 : u.cell? ⟨q, 0, none⟩ = some (.int .i64 x)) :
    ∃ A2 c2 u', (Builtin.append_ #[83, 83] 83 #[.slice A n c, .slice (some ⟨q, 0, none⟩) 1 1]).run Try.prog u = .ok (.slice A2 (n + 1) c2) u' ∧
      EndsAt u' B A2 c2 (es ++ [x]) ∧ u.grownBy u' (blk A) := by
  subst hn
  obtain ⟨i0, hi, hz0, hz1, hz2⟩ := info_parts Try.infoInt
  obtain ⟨v', w', hrun, hown, hgr, _, _⟩ := run_append_own_at (P := Try.prog) u B 83 83 3 i0 _ 1 8 Try.underlying83 hi hz0 hz1 hz2 rfl (by omega) (.slice A es.length c) es.length (es.map (Value.int .i64)) h ⟨q, 0, none⟩ 1 1 [.int .i64 x] rfl
    (fun j u hu => by
      match j, hu with
      | 0, hu => cases hu; exact hq0)
    (fun u hu => by simp at hu; subst hu; rfl) (by simp only [maxLen]; omega) (by omega) hBu
  obtain ⟨g2, c2, rfl⟩ := Joins.ownsRow_form hown (by omega)
  rw [ownBlock_slice] at hgr
  refine ⟨some ⟨g2, 0, none⟩, c2, w', hrun, ?_, hgr⟩
  unfold EndsAt
  rw [List.length_append, List.map_append]
  exact hown
end

/-- The keys that have come: each once. -/
structure KsOk (L : List LRow) (o : Int) (left : Lit → Bool) (ks : List Int) : Prop where
  nd : ks.Nodup
  mem : ∀ k, k ∈ ks ↔ ∃ x ∈ L, x.1 = k ∧ x.2.1 = o ∧ left (keyR x) = false
/-- The keys that an owner holds, rising. -/
structure HeldKs (L : List LRow) (o : Int) (ys : List Int) : Prop where
  up : ys.Pairwise (· < ·)
  mem : ∀ k, k ∈ ys ↔ heldL L k o = true
theorem up_same : ∀ {a b : List Int}, a.Pairwise (· < ·) → b.Pairwise (· < ·) → (∀ k, k ∈ a ↔ k ∈ b) → a = b
  | [], [], _, _, _ => rfl
  | [], y :: b, _, _, h => absurd ((h y).2 List.mem_cons_self) (by simp)
  | x :: a, [], _, _, h => absurd ((h x).1 List.mem_cons_self) (by simp)
  | x :: a, y :: b, ha, hb, h => by
    rw [List.pairwise_cons] at ha hb
    have hxy : x = y := by
      have h1 : x = y ∨ x ∈ b := List.mem_cons.1 ((h x).1 List.mem_cons_self)
      have h2 : y = x ∨ y ∈ a := List.mem_cons.1 ((h y).2 List.mem_cons_self)
      rcases h1 with h1 | h1
      · exact h1
      · rcases h2 with h2 | h2
        · exact h2.symm
        · have := hb.1 x h1; have := ha.1 y h2; omega
    subst hxy
    rw [up_same ha.2 hb.2 fun k => ?_]
    constructor
    · intro hk
      rcases List.mem_cons.1 ((h k).1 (List.mem_cons_of_mem _ hk)) with e | e
      · subst e; exact absurd (ha.1 _ hk) (by omega)
      · exact e
    · intro hk
      rcases List.mem_cons.1 ((h k).2 (List.mem_cons_of_mem _ hk)) with e | e
      · subst e; exact absurd (hb.1 _ hk) (by omega)
      · exact e
theorem HeldKs.same {L : List LRow} {o : Int} {a b : List Int} (ha : HeldKs L o a) (hb : HeldKs L o b) : a = b :=
  up_same ha.up hb.up fun k => (ha.mem k).trans (hb.mem k).symm
theorem KsOk.done {L : List LRow} {o : Int} {left : Lit → Bool} {ks : List Int} (h : KsOk L o left ks) (hl : ∀ kl, left kl = false) : HeldKs L o (ks.mergeSort fun x y => decide (x ≤ y)) := by
  have hp := List.mergeSort_perm ks fun x y => decide (x ≤ y)
  refine ⟨?_, fun k => ?_⟩
  · have hs := List.pairwise_mergeSort (le := fun x y : Int => decide (x ≤ y)) (by intro a b c; simp; omega) (by intro a b; simp; omega) ks
    have hn : (ks.mergeSort fun x y => decide (x ≤ y)).Nodup := hp.nodup_iff.2 h.nd
    exact (hs.and hn).imp fun {a b} hab => by
      have := of_decide_eq_true hab.1
      have := hab.2
      omega
  · rw [hp.mem_iff, h.mem k, held_iff]
    constructor
    · rintro ⟨x, hx, h1, h2, _⟩; exact ⟨x, hx, h1, h2⟩
    · rintro ⟨x, hx, h1, h2⟩; exact ⟨x, hx, h1, h2, hl _⟩
theorem KsOk.start {H : Type} {D : DataW H} {L : List LRow} {o : Int} (hR : Reads D L) : KsOk L o (Maps.has D) [] := by
  refine ⟨List.nodup_nil, fun k => ⟨by simp, ?_⟩⟩
  rintro ⟨x, hx, _, _, h3⟩
  rw [hR.has] at h3
  exact absurd (show anyK L (keyR x) = true from List.any_eq_true.2 ⟨x, hx, key_same _ _⟩) (by rw [h3]; simp)
theorem left_step {L : List LRow} (hL : LOk L) {left : Lit → Bool} {k o : Int} {c : Bool} (hm : (k, o, c) ∈ L) {x : LRow} (hx : x ∈ L) : ((left (keyR x) && !(keyR x).sameKey (litP k o)) = false) ↔ (left (keyR x) = false ∨ x = (k, o, c)) := by
  have hok := hL.ok _ hm
  have hs := same_at (hL.ok x hx) (k := k) (o := o) hok.1 hok.2
  rw [hs]
  constructor
  · intro h
    rcases hl : left (keyR x) with _ | _
    · exact .inl rfl
    · rw [hl] at h
      have : atB k o x = true := by simpa using h
      have := atB_iff.1 this
      exact .inr (at_same hL hx hm this.1 this.2)
  · rintro (h | rfl)
    · rw [h]; rfl
    · have : atB k o (k, o, c) = true := atB_iff.2 ⟨rfl, rfl⟩
      rw [this]; simp
theorem KsOk.skip {L : List LRow} (hL : LOk L) {left : Lit → Bool} {k o o' : Int} {c : Bool} {ks : List Int} (h : KsOk L o left ks) (hm : (k, o', c) ∈ L) (hne : o' ≠ o) : KsOk L o (fun z => left z && !z.sameKey (litP k o')) ks := by
  refine ⟨h.nd, fun q => (h.mem q).trans ?_⟩
  constructor
  · rintro ⟨x, hx, h1, h2, h3⟩
    exact ⟨x, hx, h1, h2, (left_step hL hm hx).2 (.inl h3)⟩
  · rintro ⟨x, hx, h1, h2, h3⟩
    rcases (left_step hL hm hx).1 h3 with h4 | rfl
    · exact ⟨x, hx, h1, h2, h4⟩
    · exact absurd h2 hne
theorem KsOk.more {L : List LRow} (hL : LOk L) {left : Lit → Bool} {k o : Int} {c : Bool} {ks : List Int} (h : KsOk L o left ks) (hm : (k, o, c) ∈ L) (hl : left (litP k o) = true) : KsOk L o (fun z => left z && !z.sameKey (litP k o)) (ks ++ [k]) := by
  refine ⟨List.nodup_append.2 ⟨h.nd, by simp, fun a ha b hb e => ?_⟩, fun q => ?_⟩
  · rw [List.mem_singleton] at hb; subst hb; subst e
    obtain ⟨x, hx, h1, h2, h3⟩ := (h.mem a).1 ha
    have : keyR x = litP a o := by unfold keyR; rw [h1, h2]
    rw [this, hl] at h3; cases h3
  · rw [List.mem_append, List.mem_singleton, h.mem q]
    constructor
    · rintro (⟨x, hx, h1, h2, h3⟩ | rfl)
      · exact ⟨x, hx, h1, h2, (left_step hL hm hx).2 (.inl h3)⟩
      · exact ⟨_, hm, rfl, rfl, (left_step hL hm hm).2 (.inr rfl)⟩
    · rintro ⟨x, hx, h1, h2, h3⟩
      rcases (left_step hL hm hx).1 h3 with h4 | rfl
      · exact .inl ⟨x, hx, h1, h2, h4⟩
      · exact .inr h1.symm
theorem KsOk.len {L : List LRow} {left : Lit → Bool} {o : Int} {ks : List Int} (h : KsOk L o left ks) : ks.length ≤ L.length := by
  have := nodup_le ks (L.map (·.1)) h.nd (fun k hk => by
    obtain ⟨x, hx, h1, _⟩ := (h.mem k).1 hk
    exact List.mem_map.2 ⟨x, hx, h1⟩)
  simpa using this

def HeldO (w : World) (L : List LRow) (o : Int) (e : Ending) (w' : World) : Prop := ∃ A c ys, e = .returned (.slice A (List.length ys) c) ∧ EndsAt w' w.heap.size A c ys ∧ HeldKs L o ys ∧ Below w.heap.size w w'

set_option maxRecDepth 100000 in
set_option maxHeartbeats 2000000 in
theorem held_any (g of : Nat) (tt : TypeId) (cs : Array Value) (L : List LRow) (o : Int) (w : World) (h : TabO w g of tt cs L) :
    Calls Try.prog 35 #[.pointer (some ⟨g, of, none⟩), .int .i64 o] w (HeldO w L o) := by
  have hLok := h.ok
  have hlen := h.len
  obtain ⟨m, hg, hcs, hs1⟩ := h.src
  have c0 := (hg.cell of).trans hcs
  clear hg h hcs
  rcases hs1 with ⟨rfl, rfl⟩ | ⟨b, D, rfl, hown, hR⟩
  · have hrg := run_range_nilMap (P := Try.prog) w 55 99 105 Try.underlying55
    have hnx : ∀ ty, (Instr.next (.pointer (some ⟨w.heap.size, 0, none⟩)) false ty).run Try.prog (w.alloc (.mapIter none 0 #[] 0)) = _ := fun ty => run_next_nilMap w ty 0 0 #[]
    have hsort := Try.slices_Sort_int_none none 0 (w.alloc (.mapIter none 0 #[] 0))
    go_enter Try.func35, Try.ntmps35
    go_wp2
    refine wp_loop_rounds 1 ?_
    rw [rounds_succ]
    go_wp2_with fail
    refine hsort.mono ?_
    rintro e w' ⟨rfl, rfl⟩
    go_wp2
    go_ret
    exact ⟨none, 0, [], rfl, EndsAt.nil _ _, ⟨List.Pairwise.nil, by simp [heldL]⟩, ba _ _⟩
  · go_enter Try.func35, Try.ntmps35
    go_wp2_with (first
      | (at_range; refine wpList_range_own _ rfl _ 55 rfl 99 105 lawP Try.underlying55 _ b L.length _ rfl hown ?_; intro w0 hrg0 hg0 hs0)
      | go_in)
    go_frame
    have hB0 : Below w.heap.size w w0 := lgrown_below hg0
    have hblt := hown.lt
    clear c0 hown
    go_loopw [5] (fun v wr => ∃ (left : Lit → Bool) (cnt : Nat) (A : Option Addr) (n c : Nat) (ks : List Int), v = .slice A n c ∧ Hid (n = ks.length) ∧ wr.ranges Try.prog 99 holdElem b w.heap.size L.length D left cnt ∧ (∀ kl, left kl = true → Maps.has D kl = true) ∧ EndsAt wr (w.heap.size + 1) A c ks ∧ KsOk L o left ks ∧ Below w.heap.size w wr ∧ w.heap.size + 1 ≤ wr.heap.size)
      (fun _ wr => wr.rangeLeft b w.heap.size)
    case atStart =>
      exact ⟨_, _, none, 0, 0, [], rfl, rfl, hrg0, fun _ h => h, EndsAt.nil _ _, KsOk.start hR, hB0, by omega⟩
    case round =>
      obtain ⟨left, cnt, A, n, c, ks, rfl, hn, hrg, hlf, hE, hK, hBr, hsz⟩ := hrel
      go_wp2_with (first
        | (at_next; refine wpList_next_lock _ rfl _ rfl b w.heap.size L.length _ _ _ rfl hrg ?_ ?_)
        | go_in)
      · intro hc0 hl0
        have hkl := hK.len
        have hD := hK.done hl0
        rcases hE.2 with ⟨hnil, hk0⟩ | ⟨g, cap, cur, hv, hbase, hb, h1, h2, h3, h4⟩
        · obtain rfl : ks = [] := List.eq_nil_of_length_eq_zero hk0
          simp at hnil
          obtain ⟨rfl, rfl⟩ := hnil
          obtain rfl : n = 0 := hn.out
          have hsort := Try.slices_Sort_int_none none 0 wr
          clear hrg hK hE hn
          go_wp2_with fail
          refine hsort.mono ?_
          rintro e w' ⟨rfl, rfl⟩
          go_wp2
          go_ret
          exact ⟨none, 0, [], rfl, EndsAt.nil _ _, by simpa using hD, hBr⟩
        · cases hv
          have hH : Holds (Value.int .i64) wr g 0 ks.toArray := holds_of_blockI hb (by simpa using h4)
          have hgl : g < wr.heap.size := (Array.getElem?_eq_some_iff.1 hb).1
          have hsort := Try.slices_Sort_int g 0 c ks wr hH hgl (by omega)
          have hl2 : (ks.mergeSort fun x y => decide (x ≤ y)).length = ks.length := List.length_mergeSort ks
          rw [← hn.out] at hsort
          have Hsort := Lib.hid hsort
          clear hrg hH hK hE hsort
          go_wp2_with fail
          refine Hsort.out.mono ?_
          rintro e w' ⟨rfl, nn, os, rfl⟩
          have hgr := grownBy_sortedI (w := wr) (g := g) (n := nn) (os := os) (ks.mergeSort fun x y => decide (x ≤ y)).toArray
          have hro := ownsRow_sortedI (n := nn) (os := os) (ts := ks.mergeSort fun x y => decide (x ≤ y)) hl2 hbase hb h1 h2 h3
          obtain ⟨w9, hw9⟩ : ∃ w9, w9 = grow (putRow (Value.int .i64) (Sort.ahead wr nn) g 0 (ks.mergeSort fun x y => decide (x ≤ y)).toArray) os := ⟨_, rfl⟩
          rw [← hw9] at hgr hro ⊢
          have hB9 := hBr.grown hgr hBr.size (fun k e => by cases e; omega)
          have Hfin : Hid (HeldO w L o (.returned (.slice (some ⟨g, 0, none⟩) n c)) w9) := Lib.hid (by
            refine ⟨some ⟨g, 0, none⟩, c, _, by rw [hl2, ← hn.out], ?_, hD, hB9⟩
            refine EndsAt.base (B := w.heap.size + 1) ?_ (by omega)
            unfold EndsAt
            rw [hl2]; exact hro)
          clear hw9 hgr hro Hsort hD hb h1 h2 h3 h4 hl2 hn
          go_wp2
          go_ret
          exact Hfin.out
      · intro e w1 cnt1 hc hen
        have hm := came_mem hc hR (hlf _)
        have hk0 := hK.len
        obtain ⟨w2, hw2⟩ : ∃ w2, w2 = w1.alloc (.cells #[.int .i64 e.k, .int .i64 e.o] 99) := ⟨_, rfl⟩
        have hb2 : Below w1.heap.size w1 w2 := by rw [hw2]; exact ba _ _
        have hrg2 := hc.rg.kept (lbelow_grown hb2 none) (by simp) (by simp)
        have E1 := hE.kept hc.gr (fun r e => by cases e; omega)
        have E2 := E1.kept (lbelow_grown hb2 none) (fun r e => by cases e)
        have hB1 : Below w.heap.size w w1 := hBr.grown hc.gr hBr.size (fun k e => by cases e; exact Nat.le_refl _)
        have hB2 : Below w.heap.size w w2 := bt hB1 hb2
        have hs1 := hc.sz
        have hs2 := hb2.size
        have hlt2 := hc.lt
        obtain ⟨ek, eo, ec⟩ := e
        simp only at hw2 hrg2 hen hm ⊢
        have hlf2 : ∀ kl, (fun z => left z && !z.sameKey (litP ek eo)) kl = true → Maps.has D kl = true := fun kl h => hlf kl (by simp at h; exact h.1)
        have Hms : Hid (cnt1 < wr.rangeLeft b w.heap.size) := Lib.hid (by rw [hrg.left_eq]; exact hlt2)
        have hlk : left (litP ek eo) = true := hc.lf
        by_cases hoo : eo = o
        · subst hoo
          have hK2 := hK.more hLok hm hlk
          have hb3 := ba w2 (.cells #[.int .i64 ek] 3)
          have E3 := E2.kept (lbelow_grown hb3 none) (fun r e => by cases e)
          have hs3 := hb3.size
          obtain ⟨A5, c5, w5, hrun, hE5, hg5⟩ := ends_more E3 n hn.out (by have := hn.out; omega) ek w2.heap.size (by omega) ((Blk.new w2 3 #[.int .i64 ek]).cell 0)
          have hB5 := (bt hB2 hb3).grown hg5 (by have := hBr.size; omega) (fun r e => by have := (E3.lt' r e).1; omega)
          have hrg3 := hrg2.kept (lbelow_grown hb3 none) (by simp) (by simp)
          have hrg5 := hrg3.kept hg5 (fun e => by have := (E3.lt' _ e.symm).1; omega) (fun e => by have := (E3.lt' _ e.symm).1; omega)
          have hsz5 := hg5.size
          have Hn2 : Hid (n + 1 = (ks ++ [ek]).length) := Lib.hid (by rw [List.length_append, ← hn.out]; rfl)
          have Hrel := Lib.hid (And.intro hrg5 (And.intro hlf2 (And.intro hE5 (And.intro hK2 (And.intro hB5 (show w.heap.size + 1 ≤ w5.heap.size by omega))))))
          rw [hw2] at hrun
          simp only [World.size_alloc] at hrun
          clear hw2 hrg2 hrg3 hrg5 hlf2 hE5 hK2 hB5 hb2 hb3 E1 E2 E3 hE hK hrg hBr hB1 hB2 hm hlf hg5 hn hc hlk hk0 hs1 hs2 hs3 hlt2 hsz hsz5
          go_wp2_with (first
            | (at_builtin; refine wpList_append_run rfl (.tmp 22) (.tmp 25) 83 rfl _ _ _ w5 rfl rfl hrun ?_)
            | go_in)
          go_roundw
          case rel => exact ⟨_, cnt1, A5, n + 1, c5, ks ++ [ek], rfl, Hn2, Hrel.out.1, Hrel.out.2.1, Hrel.out.2.2.1, Hrel.out.2.2.2.1, Hrel.out.2.2.2.2.1, Hrel.out.2.2.2.2.2⟩
          case measure => rw [Hrel.out.1.left_eq]; exact Hms.out
        · have hK2 := hK.skip hLok hm hoo
          have Hrel := Lib.hid (And.intro hrg2 (And.intro hlf2 (And.intro E2 (And.intro hK2 (And.intro hB2 (show w.heap.size + 1 ≤ w2.heap.size by omega))))))
          rw [hw2] at Hrel
          clear hw2 hrg2 hlf2 E2 hK2 hB2 hb2 E1 hE hK hrg hBr hB1 hm hlf hc hlk hk0 hs1 hs2 hlt2 hsz
          go_wp2
          go_roundw
          case rel => exact ⟨_, cnt1, A, n, c, ks, rfl, hn, Hrel.out.1, Hrel.out.2.1, Hrel.out.2.2.1, Hrel.out.2.2.2.1, Hrel.out.2.2.2.2.1, Hrel.out.2.2.2.2.2⟩
          case measure => rw [Hrel.out.1.left_eq]; exact Hms.out
end Go.Proofs.Ytihchfjdgeehoaa
