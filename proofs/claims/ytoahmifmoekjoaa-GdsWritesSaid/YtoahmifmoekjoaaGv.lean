/- Layer 4: Write and its statement: each variable has just its segments. -/
import Derived.Test.YtoahmifmoekjoaaRw
import Derived.Test.YtoahmifmoekjoaaGe
import Derived.Test.YtoahmifmoekjoaaGf
import Derived.Test.YtoahmifmoekjoaaCopy
import Derived.Test.YtoahmifmoekjoaaInvT
namespace Go.Proofs.Ytoahmifmoekjoaa
open Go.RowKit
set_option linter.unusedVariables false
set_option linter.unusedSimpArgs false

theorem below_drew (w : World) : Below w.heap.size w w.drew := (Below.refl _ _).drew
theorem ltf {a : Bool} (h : a = false) (h2 : a = true) : False := by rw [h] at h2; cases h2
def PairW (w : World) (R : List UInt8 × Int) (e : Ending) (w' : World) : Prop := ∃ A c J, e = .returned (.tuple #[.slice A J c, .int .i64 R.2]) ∧ Hid (J = R.1.length) ∧ Own w' w.heap.size 5 A c R.1 ∧ Below w.heap.size w w'
theorem pairW_of {w : World} {R : List UInt8 × Int} {e : Ending} {w' : World} (h : OutB w R e w') : PairW w R e w' := by
  obtain ⟨A, c, h1, h2, h3⟩ := h
  exact ⟨A, c, _, h1, Lib.hid rfl, h2, h3⟩
set_option maxHeartbeats 1000000 in
theorem rw_seg (id : Int) (A : Option Addr) (n c : Nat) (seg : Int) (w : World) (h : seg < 1 ∨ 2048 < seg) : Calls Try.prog 12 #[.agg #[.int .i64 id, .slice A n c], .int .i64 seg] w (OutB w ([], 1)) := by
  have kb := Blk.new w 24 #[.int .i64 id, .slice A n c]
  have hbw := ba w (.cells #[.int .i64 id, .slice A n c] 24)
  have v0 := (kb).cell 0
  have v1 := (kb).cell 1
  simp only [List.getElem?_toArray, List.getElem?_cons_zero, List.getElem?_cons_succ] at v0 v1
  rcases h with h | h
  all_goals
    go_enter Try.func12, Try.ntmps12
    go_wp2
    go_ret2
    exact ⟨none, 0, rfl, Own.nil, hbw⟩
set_option maxHeartbeats 1000000 in
theorem rw_gds (id : Int) (A : Option Addr) (n c : Nat) (seg : Int) (w : World) (s1 : 1 ≤ seg) (s2 : seg ≤ 2048) (h : id < 0 ∨ 65535 < id ∨ 2048 < n) : Calls Try.prog 12 #[.agg #[.int .i64 id, .slice A n c], .int .i64 seg] w (OutB w ([], 40)) := by
  have kb := Blk.new w 24 #[.int .i64 id, .slice A n c]
  have hbw := ba w (.cells #[.int .i64 id, .slice A n c] 24)
  have v0 := (kb).cell 0
  have v1 := (kb).cell 1
  simp only [List.getElem?_toArray, List.getElem?_cons_zero, List.getElem?_cons_succ] at v0 v1
  have g1 : ¬ seg < 1 := by omega
  have g2 : ¬ 2048 < seg := by omega
  have a1 : decide (seg < 1) = false := decide_eq_false g1
  have a2 : decide (2048 < seg) = false := decide_eq_false g2
  clear s1 s2
  by_cases h1 : id < 0
  · go_enter Try.func12, Try.ntmps12
    go_wp2
    go_ret2
    exact ⟨none, 0, rfl, Own.nil, hbw⟩
  · by_cases h2 : 65535 < id
    · go_enter Try.func12, Try.ntmps12
      go_wp2
      go_ret2
      exact ⟨none, 0, rfl, Own.nil, hbw⟩
    · have h3 : 2048 < n := by omega
      have h4 : (2048 : Int) < (n : Int) := by omega
      clear h
      go_enter Try.func12, Try.ntmps12
      go_wp2
      go_ret2
      exact ⟨none, 0, rfl, Own.nil, hbw⟩
set_option maxHeartbeats 1000000 in
theorem rw_full (id : Int) (A : Option Addr) (n c seg : Nat) (w : World) (s1 : 1 ≤ seg) (s2 : seg ≤ 2048) (i1 : 0 ≤ id) (i2 : id ≤ 65535) (h3 : n ≤ 2048) (h : seg * 64 < n) : Calls Try.prog 12 #[.agg #[.int .i64 id, .slice A n c], .int .i64 seg] w (OutB w ([], 5)) := by
  have kb := Blk.new w 24 #[.int .i64 id, .slice A n c]
  have hbw := ba w (.cells #[.int .i64 id, .slice A n c] 24)
  have v0 := (kb).cell 0
  have v1 := (kb).cell 1
  simp only [List.getElem?_toArray, List.getElem?_cons_zero, List.getElem?_cons_succ] at v0 v1
  have hdiv : ((n : Int) + (seg : Int) - 1) / (seg : Int) = (((n + seg - 1) / seg : Nat) : Int) := by
    rw [show (n : Int) + (seg : Int) - 1 = ((n + seg - 1 : Nat) : Int) by omega]; simp
  obtain ⟨q, hq⟩ : ∃ q, q = (n + seg - 1) / seg := ⟨_, rfl⟩
  have hq64 : 64 < q := by
    rw [hq]
    have := (Nat.le_div_iff_mul_le (show 0 < seg by omega)).2 (show 65 * seg ≤ n + seg - 1 by omega)
    omega
  rw [← hq] at hdiv
  have b0 : (0 : Int) ≤ (n : Int) + (seg : Int) - 1 := by omega
  have q0 : ¬ (q : Int) = 0 := by omega
  have qb : ((q : Int) == 0) = false := beq_eq_false_iff_ne.2 q0
  have qn : ¬ q = 0 := by omega
  have q6 : (64 : Int) < (q : Int) := by omega
  have g1 : ¬ (seg : Int) < 1 := by omega
  have g2 : ¬ 2048 < (seg : Int) := by omega
  have g3 : ¬ id < 0 := by omega
  have g4 : ¬ 65535 < id := by omega
  have g5 : ¬ (2048 : Int) < (n : Int) := by omega
  clear hq h
  go_enter Try.func12, Try.ntmps12
  go_wp2
  go_ret2
  exact ⟨none, 0, rfl, Own.nil, hbw⟩
theorem refgwrite_any (id : Int) (A : Option Addr) (data : List UInt8) (c : Nat) (seg : Int) (w : World) (hle : data.length ≤ c) (hc : c ≤ 9223372036854775807) (hbs : Bs w w.heap.size A data) :
    Calls Try.prog 12 #[.agg #[.int .i64 id, .slice A data.length c], .int .i64 seg] w (OutB w (writeR id data seg)) := by
  unfold writeR
  by_cases h1 : seg < 1 ∨ 2048 < seg
  · rw [if_pos h1]; exact rw_seg id A _ c seg w h1
  · rw [if_neg h1]
    by_cases h2 : id < 0 ∨ 65535 < id ∨ 2048 < data.length
    · rw [if_pos h2]; exact rw_gds id A _ c seg w (by omega) (by omega) h2
    · rw [if_neg h2]
      obtain ⟨s, rfl⟩ := Int.eq_ofNat_of_zero_le (show 0 ≤ seg by omega)
      obtain ⟨i, rfl⟩ := Int.eq_ofNat_of_zero_le (show 0 ≤ id by omega)
      by_cases h3 : (s : Int) * 64 < data.length
      · rw [if_pos h3]; exact rw_full i A _ c s w (by omega) (by omega) (by omega) (by omega) (by omega) (by omega)
      · rw [if_neg h3]
        exact refwrite_ok i A data c s w (by omega) (by omega) (by omega) (by omega) (by omega) hle hc hbs _ (Lib.hid (by simp))

/-- Copy, and which block is new. -/
def IsU8 (w : World) (g : Nat) : Prop := ∃ cs : Array Value, w.heap[g]? = some (.cells cs 5 (0, 0))
def CpO (w : World) (l : List UInt8) (n : Nat) (e : Ending) (w' : World) : Prop := ∃ A2 c2, e = .returned (.slice A2 n c2) ∧ Own w' w.heap.size 5 A2 c2 l ∧ Below w.heap.size w w' ∧ (w' = w ∨ IsU8 w' w.heap.size)
theorem wpList_append_zero {P : Program} {w : World} {ops : Array Oper} {rest : List Oper} {o : Oper} {a : Act} {Q : Exit → Act → World → Prop} (hgd : o.guard = none) (s x : Operand) (t : TypeId)
    (ho : o.op = .call { callee := .builtin .append, args := #[s, x], argTypes := #[t, t] }) (A : Option Addr) (c : Nat) (hs : a.eval s = .slice none 0 0) (hx : a.eval x = .slice A 0 c)
    (key : ∀ w, (Builtin.append_ #[t, t] o.type #[.slice none 0 0, .slice A 0 c]).run P w = .ok (.slice none 0 0) w) (h : wpList P ops Q rest (a.put o.dst (.slice none 0 0)) w) : wpList P ops Q (o :: rest) a w := by
  refine wpList_plain hgd fun _ hK => ?_
  unfold Oper.wp execOp
  simp only [ho, resolve, invoke, builtin, Sem.run_bind, Sem.run_pure, Result.andThen_ok, List.map_toArray, List.map_cons, List.map_nil, hs, hx, key]
  exact hK _ _ h
set_option maxHeartbeats 400000 in
theorem copy_x (A : Option Addr) (l : List UInt8) (n c : Nat) (hn : Hid (n = l.length)) (w : World) (hm : Hid (l.length ≤ 140737488355328)) (h : Bs w w.heap.size A l) : Calls Try.prog 10 #[.slice A n c] w (CpO w l n) := by
  obtain ⟨i0, hi, hz0, hz1, hz2⟩ := info_parts Try.infoU8c
  rcases Nat.eq_zero_or_pos n with h0 | h0
  · subst h0
    obtain rfl : l = [] := List.eq_nil_of_length_eq_zero hn.out.symm
    have key : ∀ w, (Builtin.append_ #[22, 22] 22 #[.slice none 0 0, .slice A 0 c]).run Try.prog w = .ok (.slice none 0 0) w := by
      intro w
      cases A <;> simp [Builtin.append_, run_underlying Try.underlying22, sizeOf, typeInfo, hi, Builtin.lenOf, Builtin.firstCells, loadCells, loadCellsFrom]
    go_enter Try.func10, Try.ntmps10
    go_wp2_with (at_builtin; refine wpList_append_zero rfl _ _ 22 rfl A c rfl rfl key ?_)
    go_ret
    exact ⟨none, 0, rfl, Own.nil, Below.refl _ _, .inl rfl⟩
  · go_enter Try.func10, Try.ntmps10
    go_wp2_with (at_builtin; refine wpList_append_bs _ rfl _ _ 22 rfl w.heap.size 5 i0 _ Try.underlying22 hi hz0 hz1 hz2 rfl none 0 [] 0 rfl rfl Own.nil _ A c l n rfl hn.out h (by have := hm.out; simpa using this) (Nat.le_refl _) ?_; intro A1 c1 w1 own1 hg1 hr1)
    go_ret
    rw [List.nil_append] at own1
    refine ⟨A1, c1, rfl, own1, below_none hg1, .inr ?_⟩
    obtain ⟨g, hA, _, _, _⟩ := own1.form (by rw [← hn.out]; exact h0)
    rcases own1.2 with ⟨q1, q2⟩ | ⟨g', cap, cur, q1, _, q2, _⟩
    · rw [hA] at q1; simp at q1
    · rw [hA] at q1 hr1
      simp only [Value.slice.injEq, Option.some.injEq] at q1
      have hgg : g = w.heap.size := by
        rcases hr1 with hr1 | hr1
        · simp [blk] at hr1
        · simpa [blk] using hr1
      have hg' : g' = g := by have := q1.1; injection this with e; exact e.symm
      rw [hg', hgg] at q2
      exact ⟨cur, q2⟩

def HasVr (w : World) (g : Nat) : Prop := ∃ x y, Blk w g 24 #[x, y]
theorem HasVr.bt {w w' : World} {g : Nat} (h : HasVr w g) (hb : Below w.heap.size w w') : HasVr w' g := by obtain ⟨x, y, h⟩ := h; exact ⟨x, y, h.below hb h.lt⟩
theorem IsU8.lt {w : World} {g : Nat} (h : IsU8 w g) : g < w.heap.size := by obtain ⟨cs, h⟩ := h; exact (Array.getElem?_eq_some_iff.1 h).1
theorem IsU8.bt {w w' : World} {g : Nat} (h : IsU8 w g) (hb : Below w.heap.size w w') : IsU8 w' g := by
  have hl := h.lt
  obtain ⟨cs, h⟩ := h
  exact ⟨cs, (hb.block g hl).trans h⟩
theorem u8_not_var {w : World} {g : Nat} (h : IsU8 w g) (k : HasVr w g) : False := by
  obtain ⟨cs, h⟩ := h
  obtain ⟨x, y, k⟩ := k
  unfold Blk at k
  rw [k] at h
  injection h with h
  injection h with _ ht
  exact absurd ht (by decide)
def set2 (u : World) (g : Nat) (x y : Value) : World := (u.setCell ⟨g, 0, none⟩ x).setCell ⟨g, 1, none⟩ y
theorem Blk.set2 {u : World} {g : Nat} {ty : TypeId} {x' y' : Value} (h : Blk u g ty #[x', y']) (x y : Value) : Blk (set2 u g x y) g ty #[x, y] := by
  unfold Go.Proofs.Ytoahmifmoekjoaa.set2
  simpa using (h.set_ 0 x).set_ 1 y
theorem set2_size (u : World) (g : Nat) (x y : Value) : (set2 u g x y).heap.size = u.heap.size := by simp [set2]
theorem set2_other (u : World) {g k : Nat} (h : k ≠ g) (x y : Value) : (set2 u g x y).heap[k]? = u.heap[k]? := by
  unfold set2
  rw [Below.heap_setCell _ _ _ _ h, Below.heap_setCell _ _ _ _ h]
theorem below_set2 {B : Nat} {a u : World} {g : Nat} (h : Below B a u) (hg : B ≤ g) (x y : Value) : Below B a (set2 u g x y) := (h.setCell hg _).setCell hg _
theorem Own.of_blocks {w w' : World} {base c : Nat} {A : Option Addr} {l : List UInt8} (h : Own w base 5 A c l) {g : Nat} (hv : HasVr w g) (x y : Value) (hw : w' = set2 w g x y) : Own w' base 5 A c l := by
  subst hw
  obtain ⟨x', y', hv⟩ := hv
  have h1 := (below_set2 (Below.refl 0 w) (Nat.zero_le g) x y)
  refine h.kept (row := some g) ⟨h1.os, h1.tape, h1.output, h1.size, fun k _ hne => set2_other w (fun e => hne (by rw [e])) x y⟩ ?_
  rcases h.2 with ⟨q1, q2⟩ | ⟨g', cap, cur, q1, _, q2, _⟩
  · simp only [Value.slice.injEq] at q1; exact .inl (by rw [q1.1]; rfl)
  · simp only [Value.slice.injEq] at q1
    refine .inr (fun e => ?_)
    rw [q1.1] at e
    simp [blk] at e
    subst e
    unfold Blk at hv
    rw [hv] at q2
    injection q2 with q2
    injection q2 with _ ht
    exact absurd ht (by decide)
/-- Which block the new variable has. -/
def PQ (m : Nat) (u : World) (q : Nat) : Prop := HasVr u q ∧ m ≤ q ∧ (q = m ∨ (q + 1 = u.heap.size ∧ IsU8 u m))
theorem PQ.uniq {m : Nat} {u : World} {q q' : Nat} (h : PQ m u q) (h' : PQ m u q') : q = q' := by
  obtain ⟨a, _, b⟩ := h
  obtain ⟨a', _, b'⟩ := h'
  rcases b with b | ⟨b, c⟩
  · rcases b' with b' | ⟨b', c'⟩
    · omega
    · rw [b] at a; exact absurd a (fun a => u8_not_var c' a)
  · rcases b' with b' | ⟨b', c'⟩
    · rw [b'] at a'; exact absurd a' (fun a => u8_not_var c a)
    · omega
def IsCp (w : World) (s : Nat) (v : Value) (l : List UInt8) (n : Nat) : Prop := ∃ A c, v = .slice A n c ∧ Own w s 5 A c l
def IsVr (w : World) (s : Nat) (v : Value) (id : Int) (l : List UInt8) (n : Nat) : Prop := ∃ A c, v = .agg #[.int .i64 id, .slice A n c] ∧ Own w s 5 A c l
def Held (m s : Nat) (u : World) (id : Int) (l : List UInt8) (n : Nat) : Prop := ∃ q A c, PQ m u q ∧ Blk u q 24 #[.int .i64 id, .slice A n c] ∧ Own u s 5 A c l

def VGw (s : Nat) (id : Int) (A0 : Option Addr) (n c0 : Nat) (l : List UInt8) (i : Nat) (v : Value) (w : World) : Prop :=
  match i with
  | 0 => v = .pointer (some ⟨s, 0, none⟩)
  | 1 => v = .int .i64 id
  | 2 => v = .pointer (some ⟨s, 1, none⟩)
  | 3 => v = .slice A0 n c0
  | 4 => IsCp w s v l n
  | 5 => IsVr w s v id l n
  | 6 => ∃ q, v = .pointer (some ⟨q, 0, none⟩) ∧ PQ (s + 1) w q
  | 7 => Held (s + 1) s w id l n
  | _ => True
def EGw (m k : Nat) (u u' : World) : Prop := match k with
  | 4 => u' = u ∨ (Below u.heap.size u u' ∧ (u.heap.size = m ∨ HasVr u m) ∧ (u.heap.size = m → IsU8 u' m))
  | 6 => u' = u.alloc (.cells #[.int .i64 0, .slice none 0 0] 24) ∧ (u.heap.size = m ∨ IsU8 u m)
  | 7 => ∃ q x y, PQ m u q ∧ u' = set2 u q x y
  | _ => u' = u
def TGw (m j : Nat) (u : World) : Prop := match j with
  | 4 => u.heap.size = m ∨ HasVr u m
  | 6 => u.heap.size = m ∨ IsU8 u m
  | _ => True
theorem PQ.set2 {m : Nat} {u : World} {q q' : Nat} (h : PQ m u q) (h' : PQ m u q') (x y : Value) : PQ m (set2 u q' x y) q := by
  obtain rfl := h.uniq h'
  obtain ⟨⟨a, b, k⟩, h2, h3⟩ := h
  refine ⟨⟨x, y, k.set2 x y⟩, h2, ?_⟩
  rcases h3 with h3 | ⟨h3, cs, h4⟩
  · exact .inl h3
  · by_cases hqm : m = q
    · exact .inl hqm.symm
    · exact .inr ⟨by rw [set2_size]; exact h3, cs, by rw [set2_other u hqm]; exact h4⟩
theorem PQ.cp {m : Nat} {u u' : World} {q : Nat} (h : PQ m u q) (he : u' = u ∨ (Below u.heap.size u u' ∧ (u.heap.size = m ∨ HasVr u m) ∧ (u.heap.size = m → IsU8 u' m))) : PQ m u' q := by
  rcases he with rfl | ⟨hb, h1, h2⟩
  · exact h
  · obtain ⟨a, b, c⟩ := h
    refine ⟨a.bt hb, b, ?_⟩
    rcases c with c | ⟨c, d⟩
    · exact .inl c
    · rcases h1 with h1 | h1
      · have := d.lt; omega
      · exact absurd h1 (fun h => u8_not_var d h)
theorem VGw.mono {s : Nat} {id : Int} {A0 : Option Addr} {n c0 : Nat} {l : List UInt8} {k i : Nat} {v : Value} {u u' : World} (he : EGw (s + 1) k u u') (hik : i ≠ k) (h6 : i = 7 ∧ k = 6 → False) (h4 : i = 7 ∧ k = 4 → False) (hv : VGw s id A0 n c0 l i v u) : VGw s id A0 n c0 l i v u' := by
  unfold EGw at he
  split at he
  · have hb : Below u.heap.size u u' := by rcases he with rfl | h; exact Below.refl _ _; exact h.1
    unfold VGw at hv ⊢
    split at hv <;> first | with_reducible exact hv | exact absurd rfl hik | exact absurd ⟨rfl, rfl⟩ h4 | (obtain ⟨A, c, e, h⟩ := hv; exact ⟨A, c, e, h.below hb (Nat.le_refl _)⟩) | (obtain ⟨q, e, h⟩ := hv; exact ⟨q, e, h.cp he⟩)
  · obtain ⟨rfl, _⟩ := he
    unfold VGw at hv ⊢
    split at hv <;> first | with_reducible exact hv | exact absurd rfl hik | exact absurd ⟨rfl, rfl⟩ h6 | (obtain ⟨A, c, e, h⟩ := hv; exact ⟨A, c, e, h.alloc _⟩)
  · obtain ⟨q, x, y, hq, rfl⟩ := he
    unfold VGw at hv ⊢
    split at hv <;> first | with_reducible exact hv | exact absurd rfl hik | (obtain ⟨A, c, e, h⟩ := hv; exact ⟨A, c, e, h.of_blocks hq.1 x y rfl⟩) | (obtain ⟨q2, e, h⟩ := hv; exact ⟨q2, e, h.set2 hq x y⟩)
  · rw [he]; exact hv
theorem TGw.mono {m : Nat} {k j : Nat} {u u' : World} (he : EGw m k u u') (hkj : k ≠ j) (h7 : (j = 4 ∨ j = 6) ∧ k = 7 → False) (hv : TGw m j u) : TGw m j u' := by
  unfold EGw at he
  split at he
  · unfold TGw at hv ⊢
    split at hv
    · exact absurd rfl hkj
    · rcases he with rfl | ⟨hb, h1, h2⟩
      · exact hv
      · rcases hv with hv | hv
        · exact .inr (h2 hv)
        · exact .inr (hv.bt hb)
    · trivial
  · obtain ⟨rfl, _⟩ := he
    unfold TGw at hv ⊢
    split at hv
    · rcases hv with hv | ⟨x, y, hv⟩
      · subst hv; exact .inr ⟨_, _, Blk.new _ _ _⟩
      · exact .inr ⟨x, y, hv.alloc _⟩
    · exact absurd rfl hkj
    · trivial
  · unfold TGw at hv ⊢
    split at hv
    · exact absurd ⟨.inl rfl, rfl⟩ h7
    · exact absurd ⟨.inr rfl, rfl⟩ h7
    · trivial
  · rw [he]; exact hv
theorem TGw.of {m : Nat} {u : World} (h : u.heap.size = m) (j : Nat) : TGw m j u := by
  unfold TGw; split <;> first | exact .inl h | trivial

theorem gwrites_mid (id : Int) (A : Option Addr) (n c : Nat) (seg : Int) (w : World) (h1 : (400 : Int) < (n : Int)) (h2 : (n : Int) ≤ 2048) : Calls Try.prog 3 #[.agg #[.int .i64 id, .slice A n c], .int .i64 seg] w fun e w' => e = .returned (.bool true) ∧ Below w.heap.size w w' := by
  have kb := Blk.new w 24 #[.int .i64 id, .slice A n c]
  have hbw := ba w (.cells #[.int .i64 id, .slice A n c] 24)
  have v0 := (kb).cell 0
  have v1 := (kb).cell 1
  simp only [List.getElem?_toArray, List.getElem?_cons_zero, List.getElem?_cons_succ] at v0 v1
  go_enter Try.func3, Try.ntmps3
  go_wp2_with fail
  refine (alive_any _).mono ?_
  rintro e w1 ⟨rfl, hb1⟩
  go_wp2
  go_ret
  exact ⟨rfl, bt hbw hb1⟩

def IsOne (w : World) (v : Value) (id : Int) (l : List UInt8) : Prop := ∃ A1 c1, v = .slice A1 1 c1 ∧ VarsAt w w.heap.size A1 [(id, l)]
def VG6 (A6 A8 : Option Addr) (J6 J8 c6 c8 : Nat) (L : List UInt8) (E : Int) (o1 o2 : Array Value) (id : Int) (l : List UInt8) (i : Nat) (v : Value) (w : World) : Prop :=
  match i with
  | 0 => v = .bool true
  | 1 => v = .bool true
  | 2 => v = .slice A6 J6 c6
  | 3 => v = .string ⟨L.toArray⟩
  | 4 => v = .slice A8 J8 c8
  | 5 => v = .string ⟨L.toArray⟩
  | 6 => v = .bool true
  | 7 => v = .bool true
  | 8 => v = .bool true
  | 9 => v = .int .i64 E
  | 10 => v = .int .i64 E
  | 11 => v = .bool true
  | 12 => v = .bool true
  | 13 => v = .bool true
  | 14 => v = .agg o1
  | 15 => IsOne w v id l
  | 16 => v = .agg o2
  | 17 => IsOne w v id l
  | 18 => v = .bool true
  | 19 => v = .bool true
  | 20 => v = .bool true
  | _ => True
theorem VG6.mono {A6 A8 : Option Addr} {J6 J8 c6 c8 : Nat} {L : List UInt8} {E : Int} {o1 o2 : Array Value} {id : Int} {l : List UInt8} {i : Nat} {v : Value} {u u' : World} (he : Below u.heap.size u u') (hv : VG6 A6 A8 J6 J8 c6 c8 L E o1 o2 id l i v u) : VG6 A6 A8 J6 J8 c6 c8 L E o1 o2 id l i v u' := by
  unfold VG6 at hv ⊢; split at hv <;> first | with_reducible exact hv | (obtain ⟨A1, c1, e, h⟩ := hv; exact ⟨A1, c1, e, h.bt he⟩)
theorem one_n (id : Int) (A : Option Addr) (l : List UInt8) (n c : Nat) (hn : Hid (n = l.length)) (w : World) (hb : Bs w w.heap.size A l) : Calls Try.prog 14 #[.agg #[.int .i64 id, .slice A n c]] w fun e w' => (∃ v, e = .returned v ∧ IsOne w' v id l) ∧ Below w.heap.size w w' := by
  rw [hn.out]
  refine (one_any id A l.length c w).mono fun e w' h => ?_
  obtain ⟨A1, c1, e1, h2, h3⟩ := OneOut.vars h hb
  exact ⟨⟨_, e1, A1, c1, rfl, h2⟩, h3⟩
theorem below_drewN (w : World) (n : Nat) : Below w.heap.size w (w.drewN n) := by
  induction n with
  | zero => exact Below.refl _ _
  | succ n ih => exact ih.drew
theorem conv_n (A : Option Addr) (l : List UInt8) (n c : Nat) (hn : Hid (n = l.length)) (w : World) (B : Nat) (h : Bs w B A l) : (convert 22 9 (.slice A n c)).run Try.prog w = .ok (.string ⟨l.toArray⟩) w := by
  rw [hn.out]; exact conv_bytes Try.underlying22 Try.underlying5 Try.underlying9 h _

theorem ggown_cap {w : World} {base : Nat} {e : TypeId} {A : Option Addr} {c : Nat} {l : List UInt8} (h : Own w base e A c l) : l.length ≤ c ∧ c ≤ 9223372036854775807 := by
  rcases h.2 with ⟨h1, h2⟩ | ⟨g, cap, cur, h1, _, _, hn, hm, _⟩
  · simp only [Value.slice.injEq] at h1
    obtain ⟨_, h3, rfl⟩ := h1
    omega
  · simp only [Value.slice.injEq] at h1
    obtain ⟨_, _, rfl⟩ := h1
    unfold maxLen at hm
    omega

set_option maxRecDepth 100000 in
set_option maxHeartbeats 4000000 in
theorem gwrites_all (id : Int) (A : Option Addr) (l : List UInt8) (n c : Nat) (seg : Int) (hn : Hid (n = l.length)) (hle : Hid (n ≤ c)) (hcm : Hid (c ≤ 9223372036854775807)) (hg1 : Hid (-9223372036854775808 ≤ seg)) (hg2 : Hid (seg ≤ 9223372036854775807)) (hm : Hid (l.length ≤ 140737488355328)) (w : World) (hbs : Bs w w.heap.size A l) (hb : (400 : Int) < (n : Int) → ¬ (n : Int) ≤ 2048) : Calls Try.prog 3 #[.agg #[.int .i64 id, .slice A n c], .int .i64 seg] w fun e w' => e = .returned (.bool true) ∧ Below w.heap.size w w' := by
  obtain ⟨⟨L, E⟩, hR⟩ : ∃ r, r = writeR id l seg := ⟨_, rfl⟩
  have Hcp := Lib.hid (fun (u : World) (hu : Below w.heap.size w u) => copy_x A l n c hn u hm ((hbs.below hu).more hu.size))
  have Hw1 := Lib.hid (fun (A' : Option Addr) (c' : Nat) (u : World) (h1 : n ≤ c') (h2 : c' ≤ 9223372036854775807) (hu : Bs u u.heap.size A' l) => by
    have := gwrite_any id A' l c' seg u (by rw [← hn.out]; exact h1) h2 hg1.out hg2.out hu _ (Lib.hid hR)
    rw [← hn.out] at this
    exact this.mono fun e w' h => pairW_of h)
  have Hw2 := Lib.hid (fun (u : World) (hu : Bs u u.heap.size A l) => by
    have := refgwrite_any id A l c seg u (by rw [← hn.out]; exact hle.out) hcm.out hu
    rw [← hn.out, ← hR] at this
    exact this.mono fun e w' h => pairW_of h)
  have HBS := Lib.hid hbs
  clear hbs hR
  have kb := Blk.new w 24 #[.int .i64 id, .slice A n c]
  have hbw := ba w (.cells #[.int .i64 id, .slice A n c] 24)
  have v0 := (kb).cell 0
  have v1 := (kb).cell 1
  simp only [List.getElem?_toArray, List.getElem?_cons_zero, List.getElem?_cons_succ] at v0 v1
  have kb0 := kb
  have hs0 : (w.alloc (.cells #[.int .i64 id, .slice A n c] 24)).heap.size = w.heap.size + 1 := by simp
  by_cases hbig : (400 : Int) < (n : Int)
  · have hbig2 := hb hbig
    clear hb
    go_enter Try.func3, Try.ntmps3
    go_wp2_with fail
    generalize hw1e : (w.alloc (.cells #[.int .i64 id, .slice A n c] 24)) = w1 at hbw kb hs0 ⊢
    have hsz : w1.drew.heap.size = w.heap.size + 1 := hs0
    have hszz : w1.heap.size = w.heap.size + 1 := hs0
    clear hw1e v0 v1 kb0
    refine wp_region_invT (F := ?FQ) (V := VGw w.heap.size id A n c l) (dead := fun _ => none) (T := TGw (w.heap.size + 1)) (C := fun u' => Blk u' w.heap.size 24 #[.int .i64 id, .slice A n c] ∧ Below w.heap.size w u' ∧ w.heap.size + 1 ≤ u'.heap.size) (E := EGw (w.heap.size + 1)) (by kernel_rfl) (by kernel_rfl) (by kernel_rfl) (fun x => ?hFQ) ?hmonoQ ?hTmQ ?hTQ ?hCQ ?stepQ ?finQ
    case hFQ => simp only [mkA, Act.put, List.setIfInBounds_toArray, List.set_cons_succ, List.set_cons_zero, Nat.reduceAdd, Nat.zero_add]; first | with_reducible rfl | rfl
    case hmonoQ => exact fun k i v u u' he hik hwt hdd hv => VGw.mono he hik (fun h => ltf hwt (by rw [h.1, h.2]; kernel_rfl)) (fun h => ltf hwt (by rw [h.1, h.2]; kernel_rfl)) hv
    case hTmQ => exact fun k j u u' he hkj hwt hv => TGw.mono he hkj (fun h => by obtain ⟨h1 | h1, h2⟩ := h <;> exact ltf hwt (by rw [h1, h2]; kernel_rfl)) hv
    case hTQ => exact fun j => TGw.of hsz j
    case hCQ => exact ⟨kb, bt hbw (below_drew _), by show _ ≤ w1.heap.size; omega⟩
    case stepQ =>
      refine AllOps.cons (fun x u hC hT hp K hK => ?_) ?_
      · clear hp hT
        go_simp
        refine hK _ _ _ hC (by rfl) (by exact rfl) ?_
        first | (simp only [Act.put, List.setIfInBounds_toArray, List.set_cons_succ, List.set_cons_zero]; done) | simp [Act.put]
      refine AllOps.cons (fun x u hC hT hp K hK => ?_) ?_
      · simp [KnownTill, Region.binds, VGw] at hp
        clear hT
        have v0 := hC.1.cell 0
        have v1 := hC.1.cell 1
        simp only [List.getElem?_toArray, List.getElem?_cons_zero, List.getElem?_cons_succ] at v0 v1
        go_simp
        refine hK _ _ _ hC (by rfl) (by exact rfl) ?_
        first | (simp only [Act.put, List.setIfInBounds_toArray, List.set_cons_succ, List.set_cons_zero, hp]; done) | simp [Act.put, hp]
      refine AllOps.cons (fun x u hC hT hp K hK => ?_) ?_
      · clear hp hT
        go_simp
        refine hK _ _ _ hC (by rfl) (by exact rfl) ?_
        first | (simp only [Act.put, List.setIfInBounds_toArray, List.set_cons_succ, List.set_cons_zero]; done) | simp [Act.put]
      refine AllOps.cons (fun x u hC hT hp K hK => ?_) ?_
      · simp [KnownTill, Region.binds, VGw] at hp
        clear hT
        have v0 := hC.1.cell 0
        have v1 := hC.1.cell 1
        simp only [List.getElem?_toArray, List.getElem?_cons_zero, List.getElem?_cons_succ] at v0 v1
        go_simp
        refine hK _ _ _ hC (by rfl) (by exact rfl) ?_
        first | (simp only [Act.put, List.setIfInBounds_toArray, List.set_cons_succ, List.set_cons_zero, hp]; done) | simp [Act.put, hp]
      refine AllOps.cons (fun x u hC hT hp K hK => ?_) ?_
      · simp [KnownTill, Region.binds, VGw] at hp
        have h3 : x 3 = .slice A n c := by first | exact hp | exact hp.1
        clear hp
        have hT4 : u.heap.size = w.heap.size + 1 ∨ HasVr u (w.heap.size + 1) := hT
        go_simp
        refine (Hcp.out u hC.2.1).mono ?_
        rintro e wA ⟨A4, c4, rfl, own4, hbA, hor⟩
        refine hK _ _ _ ⟨hC.1.below hbA hC.1.lt, bt hC.2.1 hbA, Nat.le_trans hC.2.2 hbA.size⟩ (hor.elim (fun h => .inl h) (fun h => .inr ⟨hbA, hT4, fun e => by rw [← e]; exact h⟩)) ⟨A4, c4, rfl, own4.base_le hC.2.1.size⟩ ?_
        simp [Act.put, h3]
      refine AllOps.cons (fun x u hC hT hp K hK => ?_) ?_
      · simp [KnownTill, Region.binds, VGw] at hp
        clear hT
        obtain ⟨h1, A4, c4, h4, own4⟩ : x 1 = .int .i64 id ∧ IsCp u w.heap.size (x 4) l n := by first | exact ⟨hp.1, hp.2⟩ | exact ⟨hp.2, hp.1⟩ | exact ⟨hp.1, hp.2.1⟩ | exact ⟨hp.2.1, hp.1⟩
        clear hp
        go_simp
        refine hK _ _ _ hC (by rfl) (by exact ⟨A4, c4, rfl, own4⟩) ?_
        first | (simp only [Act.put, List.setIfInBounds_toArray, List.set_cons_succ, List.set_cons_zero, h1, h4]; done) | simp [Act.put, h1, h4]
      refine AllOps.cons (fun x u hC hT hp K hK => ?_) ?_
      · clear hp
        have hT6 : u.heap.size = w.heap.size + 1 ∨ IsU8 u (w.heap.size + 1) := hT
        clear hT
        have hge := hC.2.2
        have kn := Blk.new u 24 #[.int .i64 0, .slice none 0 0]
        have Hge := Lib.hid hge
        have HT6 := Lib.hid hT6
        clear hge hT6
        go_simp
        refine hK (.pointer (some ⟨u.heap.size, 0, none⟩)) _ (u.alloc (.cells #[.int .i64 0, .slice none 0 0] 24)) ⟨hC.1.alloc _, bt hC.2.1 (ba _ _), Nat.le_trans hC.2.2 (ba u (.cells #[.int .i64 0, .slice none 0 0] 24)).size⟩ ⟨rfl, HT6.out⟩ ⟨u.heap.size, rfl, ⟨_, _, kn⟩, Hge.out, HT6.out.elim (fun h => .inl h) (fun h => .inr ⟨by simp, h.bt (ba _ _)⟩)⟩ ?_
        first | (simp only [Act.put, List.setIfInBounds_toArray, List.set_cons_succ, List.set_cons_zero]; done) | simp [Act.put]
      refine AllOps.cons (fun x u hC hT hp K hK => ?_) ?_
      · simp [KnownTill, Region.binds, VGw] at hp
        clear hT
        obtain ⟨⟨A5, c5, h5, own5⟩, q, h6, hq⟩ : IsVr u w.heap.size (x 5) id l n ∧ ∃ q, x 6 = .pointer (some ⟨q, 0, none⟩) ∧ PQ (w.heap.size + 1) u q := by first | exact ⟨hp.1, hp.2⟩ | exact ⟨hp.2, hp.1⟩ | exact ⟨hp.2.1, hp.1⟩ | exact ⟨hp.1, hp.2.1⟩
        clear hp
        obtain ⟨⟨x', y', kq⟩, hq2, hq3⟩ := hq
        have d0 := kq.cell 0
        have d1 := kq.cell 1
        simp at d0 d1
        have f0 := kq.frozen 0
        have f1 := kq.frozen 1
        have hqq : PQ (w.heap.size + 1) u q := ⟨⟨x', y', kq⟩, hq2, hq3⟩
        have HQ := Lib.hid hqq
        have KQ := Lib.hid kq
        have hne : w.heap.size ≠ q := by omega
        have Hne := Lib.hid hne
        have Hle : Hid (w.heap.size ≤ q) := Lib.hid (by omega)
        clear hqq kq hq2 hq3 hne
        go_simp
        refine hK undef _ (set2 u q (.int .i64 id) (.slice A5 n c5)) ⟨(hC.1.far (p := ⟨q, 0, none⟩) Hne.out _).far (p := ⟨q, 1, none⟩) Hne.out _, below_set2 hC.2.1 Hle.out _ _, by rw [set2_size]; exact hC.2.2⟩ ⟨q, _, _, HQ.out, rfl⟩ ⟨q, A5, c5, HQ.out.set2 HQ.out _ _, KQ.out.set2 _ _, own5.of_blocks ⟨_, _, KQ.out⟩ _ _ rfl⟩ ?_
        simp [Act.put, h5, h6]
      exact AllOps.nil
    case finQ =>
      intro x u hC hV
      obtain ⟨q, h6, hq⟩ : ∃ q, x 6 = .pointer (some ⟨q, 0, none⟩) ∧ PQ (w.heap.size + 1) u q := hV 6 (by decide) rfl
      obtain ⟨q', A5, c5, hq', kq, own5⟩ : Held (w.heap.size + 1) w.heap.size u id l n := hV 7 (by decide) rfl
      obtain rfl := hq.uniq hq'
      rw [h6]
      clear hV h6 hq hq'
      obtain ⟨kb2, hbu, _⟩ := hC
      have x0 := (kq).cell 0
      have x1 := (kq).cell 1
      simp only [List.getElem?_toArray, List.getElem?_cons_zero, List.getElem?_cons_succ] at x0 x1
      have v0 := (kb2).cell 0
      have v1 := (kb2).cell 1
      simp only [List.getElem?_toArray, List.getElem?_cons_zero, List.getElem?_cons_succ] at v0 v1
      obtain ⟨hcap1, hcap2⟩ := ggown_cap own5
      have hz := Hw1.out A5 c5 u (by rw [hn.out]; exact hcap1) hcap2 own5.bs
      clear hcap1 hcap2
      go_wp2_with fail
      refine hz.mono ?_
      clear hz
      rintro e w3 ⟨A6, c6, J6, rfl, hJ6, own6, hb3⟩
      simp only at hJ6 own6
      have kq3 := kq.below hb3 kq.lt
      have kb3 := kb2.below hb3 kb2.lt
      have own5a := own5.below hb3 (Nat.le_refl _)
      have hbw3 := bt hbu hb3
      clear x0 x1 v0 v1
      have v0 := (kb3).cell 0
      have v1 := (kb3).cell 1
      simp only [List.getElem?_toArray, List.getElem?_cons_zero, List.getElem?_cons_succ] at v0 v1
      go_wp2_with fail
      refine (Hw2.out _ (HBS.out.bt hbw3)).mono ?_
      rintro e w4 ⟨A8, c8, J8, rfl, hJ8, own8, hb4⟩
      simp only at hJ8 own8
      have kq4 := kq3.below hb4 kq3.lt
      have kb4 := kb3.below hb4 kb3.lt
      have own5b := own5a.below hb4 (Nat.le_refl _)
      have own6b := own6.below hb4 (Nat.le_refl _)
      have hbw4 := bt hbw3 hb4
      clear v0 v1 kq kq3 kb kb2 kb3 own5 own5a own6 hb3 hb4 hbu hbw3 Hw1 Hw2 Hcp
      go_wp2_with fail
      refine wp_region_invT (F := ?FS) (V := VG6 A6 A8 J6 J8 c6 c8 L E #[.int .i64 id, .slice A5 n c5] #[.int .i64 id, .slice A n c] id l) (dead := fun _ => none) (T := fun _ _ => True) (C := fun u' => Below w4.heap.size w4 u') (E := fun _ u u' => Below u.heap.size u u') (by kernel_rfl) (by kernel_rfl) (by kernel_rfl) (fun x => ?hFS) ?hmonoS ?hTmS ?hTS ?hCS ?stepS ?finS
      case hFS => simp only [mkA, Act.put, List.setIfInBounds_toArray, List.set_cons_succ, List.set_cons_zero, Nat.reduceAdd, Nat.zero_add]; first | with_reducible rfl | rfl
      case hmonoS => exact fun k i v u u' he hik hwt hdd hv => VG6.mono he hv
      case hTmS => exact fun _ _ _ _ _ _ _ _ => trivial
      case hTS => exact fun j => trivial
      case hCS => exact below_drew _
      case stepS =>
        refine AllOps.cons (fun x u hC hT hp K hK => ?_) ?_
        · clear hp hT
          go_simp
          refine (alive_any _).mono ?_
          rintro e wA ⟨rfl, hbA⟩
          refine hK _ _ _ (bt hC hbA) hbA (by exact rfl) ?_
          first | (simp only [Act.put, List.setIfInBounds_toArray, List.set_cons_succ, List.set_cons_zero]; done) | simp [Act.put]
        refine AllOps.cons (fun x u hC hT hp K hK => ?_) ?_
        · simp [KnownTill, Region.binds, VG6] at hp
          clear hT
          go_simp
          refine hK _ _ _ hC (Below.refl _ _) (by exact rfl) ?_
          first | (simp only [Act.put, List.setIfInBounds_toArray, List.set_cons_succ, List.set_cons_zero, hp]; done) | simp [Act.put, hp]
        refine AllOps.cons (fun x u hC hT hp K hK => ?_) ?_
        · simp [KnownTill, Region.binds, VG6] at hp
          clear hT
          go_simp
          refine hK _ _ _ hC (Below.refl _ _) (by exact rfl) ?_
          first | (simp only [Act.put, List.setIfInBounds_toArray, List.set_cons_succ, List.set_cons_zero, hp]; done) | simp [Act.put, hp]
        refine AllOps.cons (fun x u hC hT hp K hK => ?_) ?_
        · simp [KnownTill, Region.binds, VG6] at hp
          clear hT
          have cv := conv_n A6 L J6 c6 hJ6 u _ (own6b.below hC (Nat.le_refl _)).bs
          go_simp
          refine hK _ _ _ hC (Below.refl _ _) (by exact rfl) ?_
          first | (simp only [Act.put, List.setIfInBounds_toArray, List.set_cons_succ, List.set_cons_zero, hp]; done) | simp [Act.put, hp]
        refine AllOps.cons (fun x u hC hT hp K hK => ?_) ?_
        · simp [KnownTill, Region.binds, VG6] at hp
          clear hT
          go_simp
          refine hK _ _ _ hC (Below.refl _ _) (by exact rfl) ?_
          first | (simp only [Act.put, List.setIfInBounds_toArray, List.set_cons_succ, List.set_cons_zero, hp]; done) | simp [Act.put, hp]
        refine AllOps.cons (fun x u hC hT hp K hK => ?_) ?_
        · simp [KnownTill, Region.binds, VG6] at hp
          clear hT
          have cv := conv_n A8 L J8 c8 hJ8 u _ (own8.below hC (Nat.le_refl _)).bs
          go_simp
          refine hK _ _ _ hC (Below.refl _ _) (by exact rfl) ?_
          first | (simp only [Act.put, List.setIfInBounds_toArray, List.set_cons_succ, List.set_cons_zero, hp]; done) | simp [Act.put, hp]
        refine AllOps.cons (fun x u hC hT hp K hK => ?_) ?_
        · simp [KnownTill, Region.binds, VG6] at hp
          clear hT
          go_simp
          refine hK _ _ _ hC (Below.refl _ _) (by exact rfl) ?_
          first | (simp only [Act.put, List.setIfInBounds_toArray, List.set_cons_succ, List.set_cons_zero, hp]; done) | simp [Act.put, hp]
        refine AllOps.cons (fun x u hC hT hp K hK => ?_) ?_
        · simp [KnownTill, Region.binds, VG6] at hp
          clear hT
          go_simp
          refine hK _ _ _ hC (Below.refl _ _) (by exact rfl) ?_
          first | (simp only [Act.put, List.setIfInBounds_toArray, List.set_cons_succ, List.set_cons_zero, hp]; done) | simp [Act.put, hp]
        refine AllOps.cons (fun x u hC hT hp K hK => ?_) ?_
        · simp [KnownTill, Region.binds, VG6] at hp
          clear hT
          go_simp
          refine hK _ _ _ hC (Below.refl _ _) (by exact rfl) ?_
          first | (simp only [Act.put, List.setIfInBounds_toArray, List.set_cons_succ, List.set_cons_zero, hp]; done) | simp [Act.put, hp]
        refine AllOps.cons (fun x u hC hT hp K hK => ?_) ?_
        · simp [KnownTill, Region.binds, VG6] at hp
          clear hT
          go_simp
          refine hK _ _ _ hC (Below.refl _ _) (by exact rfl) ?_
          first | (simp only [Act.put, List.setIfInBounds_toArray, List.set_cons_succ, List.set_cons_zero, hp]; done) | simp [Act.put, hp]
        refine AllOps.cons (fun x u hC hT hp K hK => ?_) ?_
        · simp [KnownTill, Region.binds, VG6] at hp
          clear hT
          go_simp
          refine hK _ _ _ hC (Below.refl _ _) (by exact rfl) ?_
          first | (simp only [Act.put, List.setIfInBounds_toArray, List.set_cons_succ, List.set_cons_zero, hp]; done) | simp [Act.put, hp]
        refine AllOps.cons (fun x u hC hT hp K hK => ?_) ?_
        · simp [KnownTill, Region.binds, VG6] at hp
          clear hT
          go_simp
          refine hK _ _ _ hC (Below.refl _ _) (by exact rfl) ?_
          first | (simp only [Act.put, List.setIfInBounds_toArray, List.set_cons_succ, List.set_cons_zero, hp]; done) | simp [Act.put, hp]
        refine AllOps.cons (fun x u hC hT hp K hK => ?_) ?_
        · simp [KnownTill, Region.binds, VG6] at hp
          clear hT
          go_simp
          refine hK _ _ _ hC (Below.refl _ _) (by exact rfl) ?_
          first | (simp only [Act.put, List.setIfInBounds_toArray, List.set_cons_succ, List.set_cons_zero, hp]; done) | simp [Act.put, hp]
        refine AllOps.cons (fun x u hC hT hp K hK => ?_) ?_
        · simp [KnownTill, Region.binds, VG6] at hp
          clear hT
          go_simp
          refine hK _ _ _ hC (Below.refl _ _) (by exact rfl) ?_
          first | (simp only [Act.put, List.setIfInBounds_toArray, List.set_cons_succ, List.set_cons_zero, hp]; done) | simp [Act.put, hp]
        refine AllOps.cons (fun x u hC hT hp K hK => ?_) ?_
        · simp [KnownTill, Region.binds, VG6] at hp
          clear hT
          have y0 := (kq4.below hC kq4.lt).cell 0
          have y1 := (kq4.below hC kq4.lt).cell 1
          simp only [List.getElem?_toArray, List.getElem?_cons_zero, List.getElem?_cons_succ] at y0 y1
          go_simp
          refine hK _ _ _ hC (Below.refl _ _) (by exact rfl) ?_
          first | (simp only [Act.put, List.setIfInBounds_toArray, List.set_cons_succ, List.set_cons_zero, hp]; done) | simp [Act.put, hp]
        refine AllOps.cons (fun x u hC hT hp K hK => ?_) ?_
        · simp [KnownTill, Region.binds, VG6] at hp
          clear hT
          go_simp
          refine (one_n id A5 l n c5 hn u (own5b.below hC (Nat.le_refl _)).bs).mono ?_
          rintro e wA ⟨⟨v, rfl, hone⟩, hbA⟩
          refine hK _ _ _ (bt hC hbA) hbA (by exact hone) ?_
          first | (simp only [Act.put, List.setIfInBounds_toArray, List.set_cons_succ, List.set_cons_zero, hp]; done) | simp [Act.put, hp]
        refine AllOps.cons (fun x u hC hT hp K hK => ?_) ?_
        · simp [KnownTill, Region.binds, VG6] at hp
          clear hT
          have y0 := (kb4.below hC kb4.lt).cell 0
          have y1 := (kb4.below hC kb4.lt).cell 1
          simp only [List.getElem?_toArray, List.getElem?_cons_zero, List.getElem?_cons_succ] at y0 y1
          go_simp
          refine hK _ _ _ hC (Below.refl _ _) (by exact rfl) ?_
          first | (simp only [Act.put, List.setIfInBounds_toArray, List.set_cons_succ, List.set_cons_zero, hp]; done) | simp [Act.put, hp]
        refine AllOps.cons (fun x u hC hT hp K hK => ?_) ?_
        · simp [KnownTill, Region.binds, VG6] at hp
          clear hT
          go_simp
          refine (one_n id A l n c hn u (HBS.out.bt (bt hbw4 hC))).mono ?_
          rintro e wA ⟨⟨v, rfl, hone⟩, hbA⟩
          refine hK _ _ _ (bt hC hbA) hbA (by exact hone) ?_
          first | (simp only [Act.put, List.setIfInBounds_toArray, List.set_cons_succ, List.set_cons_zero, hp]; done) | simp [Act.put, hp]
        refine AllOps.cons (fun x u hC hT hp K hK => ?_) ?_
        · simp [KnownTill, Region.binds, VG6] at hp
          clear hT
          obtain ⟨⟨A1, k1, h15, va1⟩, A2, k2, h17, va2⟩ : IsOne u (x 15) id l ∧ IsOne u (x 17) id l := by first | exact ⟨hp.1, hp.2⟩ | exact ⟨hp.2, hp.1⟩ | exact ⟨hp.1, hp.2.1⟩ | exact ⟨hp.2.1, hp.2.2⟩ | exact ⟨hp.2.1, hp.1⟩ | exact ⟨hp.2.1, hp.2.2.1⟩
          have hpp := hp
          go_simp
          refine (same_yes A1 A2 [(id, l)] k1 k2 u (by simp) (by intro z hz; rw [List.mem_singleton] at hz; subst hz; exact Nat.le_trans hm.out (by omega)) va1 va2).mono ?_
          rintro e wA ⟨rfl, nn, rfl⟩
          refine hK _ _ _ (bt hC (below_drewN _ nn)) (below_drewN _ nn) (by exact rfl) ?_
          simp [Act.put, hpp, h15, h17]
        refine AllOps.cons (fun x u hC hT hp K hK => ?_) ?_
        · simp [KnownTill, Region.binds, VG6] at hp
          clear hT
          go_simp
          refine hK _ _ _ hC (Below.refl _ _) (by exact rfl) ?_
          first | (simp only [Act.put, List.setIfInBounds_toArray, List.set_cons_succ, List.set_cons_zero, hp]; done) | simp [Act.put, hp]
        refine AllOps.cons (fun x u hC hT hp K hK => ?_) ?_
        · simp [KnownTill, Region.binds, VG6] at hp
          clear hT
          go_simp
          refine hK _ _ _ hC (Below.refl _ _) (by exact rfl) ?_
          first | (simp only [Act.put, List.setIfInBounds_toArray, List.set_cons_succ, List.set_cons_zero, hp]; done) | simp [Act.put, hp]
        exact AllOps.nil
      case finS =>
        intro x u hC hV
        have hz : x 20 = .bool true := hV 20 (by decide) rfl
        rw [hz]
        have hbf := bt hbw4 hC
        clear hV hz hC kq4 kb4
        go_wp2
        go_ret
        exact ⟨rfl, hbf⟩
  · clear hb
    go_enter Try.func3, Try.ntmps3
    go_wp2_with fail
    generalize hw1e : (w.alloc (.cells #[.int .i64 id, .slice A n c] 24)) = w1 at hbw kb hs0 ⊢
    have hsz : w1.drew.heap.size = w.heap.size + 1 := hs0
    have hszz : w1.heap.size = w.heap.size + 1 := hs0
    clear hw1e v0 v1 kb0
    refine wp_region_invT (F := ?FQQ) (V := VGw w.heap.size id A n c l) (dead := fun _ => none) (T := TGw (w.heap.size + 1)) (C := fun u' => Blk u' w.heap.size 24 #[.int .i64 id, .slice A n c] ∧ Below w.heap.size w u' ∧ w.heap.size + 1 ≤ u'.heap.size) (E := EGw (w.heap.size + 1)) (by kernel_rfl) (by kernel_rfl) (by kernel_rfl) (fun x => ?hFQQ) ?hmonoQQ ?hTmQQ ?hTQQ ?hCQQ ?stepQQ ?finQQ
    case hFQQ => simp only [mkA, Act.put, List.setIfInBounds_toArray, List.set_cons_succ, List.set_cons_zero, Nat.reduceAdd, Nat.zero_add]; first | with_reducible rfl | rfl
    case hmonoQQ => exact fun k i v u u' he hik hwt hdd hv => VGw.mono he hik (fun h => ltf hwt (by rw [h.1, h.2]; kernel_rfl)) (fun h => ltf hwt (by rw [h.1, h.2]; kernel_rfl)) hv
    case hTmQQ => exact fun k j u u' he hkj hwt hv => TGw.mono he hkj (fun h => by obtain ⟨h1 | h1, h2⟩ := h <;> exact ltf hwt (by rw [h1, h2]; kernel_rfl)) hv
    case hTQQ => exact fun j => TGw.of hsz j
    case hCQQ => exact ⟨kb, bt hbw (below_drew _), by show _ ≤ w1.heap.size; omega⟩
    case stepQQ =>
      refine AllOps.cons (fun x u hC hT hp K hK => ?_) ?_
      · clear hp hT
        go_simp
        refine hK _ _ _ hC (by rfl) (by exact rfl) ?_
        first | (simp only [Act.put, List.setIfInBounds_toArray, List.set_cons_succ, List.set_cons_zero]; done) | simp [Act.put]
      refine AllOps.cons (fun x u hC hT hp K hK => ?_) ?_
      · simp [KnownTill, Region.binds, VGw] at hp
        clear hT
        have v0 := hC.1.cell 0
        have v1 := hC.1.cell 1
        simp only [List.getElem?_toArray, List.getElem?_cons_zero, List.getElem?_cons_succ] at v0 v1
        go_simp
        refine hK _ _ _ hC (by rfl) (by exact rfl) ?_
        first | (simp only [Act.put, List.setIfInBounds_toArray, List.set_cons_succ, List.set_cons_zero, hp]; done) | simp [Act.put, hp]
      refine AllOps.cons (fun x u hC hT hp K hK => ?_) ?_
      · clear hp hT
        go_simp
        refine hK _ _ _ hC (by rfl) (by exact rfl) ?_
        first | (simp only [Act.put, List.setIfInBounds_toArray, List.set_cons_succ, List.set_cons_zero]; done) | simp [Act.put]
      refine AllOps.cons (fun x u hC hT hp K hK => ?_) ?_
      · simp [KnownTill, Region.binds, VGw] at hp
        clear hT
        have v0 := hC.1.cell 0
        have v1 := hC.1.cell 1
        simp only [List.getElem?_toArray, List.getElem?_cons_zero, List.getElem?_cons_succ] at v0 v1
        go_simp
        refine hK _ _ _ hC (by rfl) (by exact rfl) ?_
        first | (simp only [Act.put, List.setIfInBounds_toArray, List.set_cons_succ, List.set_cons_zero, hp]; done) | simp [Act.put, hp]
      refine AllOps.cons (fun x u hC hT hp K hK => ?_) ?_
      · simp [KnownTill, Region.binds, VGw] at hp
        have h3 : x 3 = .slice A n c := by first | exact hp | exact hp.1
        clear hp
        have hT4 : u.heap.size = w.heap.size + 1 ∨ HasVr u (w.heap.size + 1) := hT
        go_simp
        refine (Hcp.out u hC.2.1).mono ?_
        rintro e wA ⟨A4, c4, rfl, own4, hbA, hor⟩
        refine hK _ _ _ ⟨hC.1.below hbA hC.1.lt, bt hC.2.1 hbA, Nat.le_trans hC.2.2 hbA.size⟩ (hor.elim (fun h => .inl h) (fun h => .inr ⟨hbA, hT4, fun e => by rw [← e]; exact h⟩)) ⟨A4, c4, rfl, own4.base_le hC.2.1.size⟩ ?_
        simp [Act.put, h3]
      refine AllOps.cons (fun x u hC hT hp K hK => ?_) ?_
      · simp [KnownTill, Region.binds, VGw] at hp
        clear hT
        obtain ⟨h1, A4, c4, h4, own4⟩ : x 1 = .int .i64 id ∧ IsCp u w.heap.size (x 4) l n := by first | exact ⟨hp.1, hp.2⟩ | exact ⟨hp.2, hp.1⟩ | exact ⟨hp.1, hp.2.1⟩ | exact ⟨hp.2.1, hp.1⟩
        clear hp
        go_simp
        refine hK _ _ _ hC (by rfl) (by exact ⟨A4, c4, rfl, own4⟩) ?_
        first | (simp only [Act.put, List.setIfInBounds_toArray, List.set_cons_succ, List.set_cons_zero, h1, h4]; done) | simp [Act.put, h1, h4]
      refine AllOps.cons (fun x u hC hT hp K hK => ?_) ?_
      · clear hp
        have hT6 : u.heap.size = w.heap.size + 1 ∨ IsU8 u (w.heap.size + 1) := hT
        clear hT
        have hge := hC.2.2
        have kn := Blk.new u 24 #[.int .i64 0, .slice none 0 0]
        have Hge := Lib.hid hge
        have HT6 := Lib.hid hT6
        clear hge hT6
        go_simp
        refine hK (.pointer (some ⟨u.heap.size, 0, none⟩)) _ (u.alloc (.cells #[.int .i64 0, .slice none 0 0] 24)) ⟨hC.1.alloc _, bt hC.2.1 (ba _ _), Nat.le_trans hC.2.2 (ba u (.cells #[.int .i64 0, .slice none 0 0] 24)).size⟩ ⟨rfl, HT6.out⟩ ⟨u.heap.size, rfl, ⟨_, _, kn⟩, Hge.out, HT6.out.elim (fun h => .inl h) (fun h => .inr ⟨by simp, h.bt (ba _ _)⟩)⟩ ?_
        first | (simp only [Act.put, List.setIfInBounds_toArray, List.set_cons_succ, List.set_cons_zero]; done) | simp [Act.put]
      refine AllOps.cons (fun x u hC hT hp K hK => ?_) ?_
      · simp [KnownTill, Region.binds, VGw] at hp
        clear hT
        obtain ⟨⟨A5, c5, h5, own5⟩, q, h6, hq⟩ : IsVr u w.heap.size (x 5) id l n ∧ ∃ q, x 6 = .pointer (some ⟨q, 0, none⟩) ∧ PQ (w.heap.size + 1) u q := by first | exact ⟨hp.1, hp.2⟩ | exact ⟨hp.2, hp.1⟩ | exact ⟨hp.2.1, hp.1⟩ | exact ⟨hp.1, hp.2.1⟩
        clear hp
        obtain ⟨⟨x', y', kq⟩, hq2, hq3⟩ := hq
        have d0 := kq.cell 0
        have d1 := kq.cell 1
        simp at d0 d1
        have f0 := kq.frozen 0
        have f1 := kq.frozen 1
        have hqq : PQ (w.heap.size + 1) u q := ⟨⟨x', y', kq⟩, hq2, hq3⟩
        have HQ := Lib.hid hqq
        have KQ := Lib.hid kq
        have hne : w.heap.size ≠ q := by omega
        have Hne := Lib.hid hne
        have Hle : Hid (w.heap.size ≤ q) := Lib.hid (by omega)
        clear hqq kq hq2 hq3 hne
        go_simp
        refine hK undef _ (set2 u q (.int .i64 id) (.slice A5 n c5)) ⟨(hC.1.far (p := ⟨q, 0, none⟩) Hne.out _).far (p := ⟨q, 1, none⟩) Hne.out _, below_set2 hC.2.1 Hle.out _ _, by rw [set2_size]; exact hC.2.2⟩ ⟨q, _, _, HQ.out, rfl⟩ ⟨q, A5, c5, HQ.out.set2 HQ.out _ _, KQ.out.set2 _ _, own5.of_blocks ⟨_, _, KQ.out⟩ _ _ rfl⟩ ?_
        simp [Act.put, h5, h6]
      exact AllOps.nil
    case finQQ =>
      intro x u hC hV
      obtain ⟨q, h6, hq⟩ : ∃ q, x 6 = .pointer (some ⟨q, 0, none⟩) ∧ PQ (w.heap.size + 1) u q := hV 6 (by decide) rfl
      obtain ⟨q', A5, c5, hq', kq, own5⟩ : Held (w.heap.size + 1) w.heap.size u id l n := hV 7 (by decide) rfl
      obtain rfl := hq.uniq hq'
      rw [h6]
      clear hV h6 hq hq'
      obtain ⟨kb2, hbu, _⟩ := hC
      have x0 := (kq).cell 0
      have x1 := (kq).cell 1
      simp only [List.getElem?_toArray, List.getElem?_cons_zero, List.getElem?_cons_succ] at x0 x1
      have v0 := (kb2).cell 0
      have v1 := (kb2).cell 1
      simp only [List.getElem?_toArray, List.getElem?_cons_zero, List.getElem?_cons_succ] at v0 v1
      obtain ⟨hcap1, hcap2⟩ := ggown_cap own5
      have hz := Hw1.out A5 c5 u (by rw [hn.out]; exact hcap1) hcap2 own5.bs
      clear hcap1 hcap2
      go_wp2_with fail
      refine hz.mono ?_
      clear hz
      rintro e w3 ⟨A6, c6, J6, rfl, hJ6, own6, hb3⟩
      simp only at hJ6 own6
      have kq3 := kq.below hb3 kq.lt
      have kb3 := kb2.below hb3 kb2.lt
      have own5a := own5.below hb3 (Nat.le_refl _)
      have hbw3 := bt hbu hb3
      clear x0 x1 v0 v1
      have v0 := (kb3).cell 0
      have v1 := (kb3).cell 1
      simp only [List.getElem?_toArray, List.getElem?_cons_zero, List.getElem?_cons_succ] at v0 v1
      go_wp2_with fail
      refine (Hw2.out _ (HBS.out.bt hbw3)).mono ?_
      rintro e w4 ⟨A8, c8, J8, rfl, hJ8, own8, hb4⟩
      simp only at hJ8 own8
      have kq4 := kq3.below hb4 kq3.lt
      have kb4 := kb3.below hb4 kb3.lt
      have own5b := own5a.below hb4 (Nat.le_refl _)
      have own6b := own6.below hb4 (Nat.le_refl _)
      have hbw4 := bt hbw3 hb4
      clear v0 v1 kq kq3 kb kb2 kb3 own5 own5a own6 hb3 hb4 hbu hbw3 Hw1 Hw2 Hcp
      go_wp2_with fail
      refine wp_region_invT (F := ?FSS) (V := VG6 A6 A8 J6 J8 c6 c8 L E #[.int .i64 id, .slice A5 n c5] #[.int .i64 id, .slice A n c] id l) (dead := fun _ => none) (T := fun _ _ => True) (C := fun u' => Below w4.heap.size w4 u') (E := fun _ u u' => Below u.heap.size u u') (by kernel_rfl) (by kernel_rfl) (by kernel_rfl) (fun x => ?hFSS) ?hmonoSS ?hTmSS ?hTSS ?hCSS ?stepSS ?finSS
      case hFSS => simp only [mkA, Act.put, List.setIfInBounds_toArray, List.set_cons_succ, List.set_cons_zero, Nat.reduceAdd, Nat.zero_add]; first | with_reducible rfl | rfl
      case hmonoSS => exact fun k i v u u' he hik hwt hdd hv => VG6.mono he hv
      case hTmSS => exact fun _ _ _ _ _ _ _ _ => trivial
      case hTSS => exact fun j => trivial
      case hCSS => exact below_drew _
      case stepSS =>
        refine AllOps.cons (fun x u hC hT hp K hK => ?_) ?_
        · clear hp hT
          go_simp
          refine (alive_any _).mono ?_
          rintro e wA ⟨rfl, hbA⟩
          refine hK _ _ _ (bt hC hbA) hbA (by exact rfl) ?_
          first | (simp only [Act.put, List.setIfInBounds_toArray, List.set_cons_succ, List.set_cons_zero]; done) | simp [Act.put]
        refine AllOps.cons (fun x u hC hT hp K hK => ?_) ?_
        · simp [KnownTill, Region.binds, VG6] at hp
          clear hT
          go_simp
          refine hK _ _ _ hC (Below.refl _ _) (by exact rfl) ?_
          first | (simp only [Act.put, List.setIfInBounds_toArray, List.set_cons_succ, List.set_cons_zero, hp]; done) | simp [Act.put, hp]
        refine AllOps.cons (fun x u hC hT hp K hK => ?_) ?_
        · simp [KnownTill, Region.binds, VG6] at hp
          clear hT
          go_simp
          refine hK _ _ _ hC (Below.refl _ _) (by exact rfl) ?_
          first | (simp only [Act.put, List.setIfInBounds_toArray, List.set_cons_succ, List.set_cons_zero, hp]; done) | simp [Act.put, hp]
        refine AllOps.cons (fun x u hC hT hp K hK => ?_) ?_
        · simp [KnownTill, Region.binds, VG6] at hp
          clear hT
          have cv := conv_n A6 L J6 c6 hJ6 u _ (own6b.below hC (Nat.le_refl _)).bs
          go_simp
          refine hK _ _ _ hC (Below.refl _ _) (by exact rfl) ?_
          first | (simp only [Act.put, List.setIfInBounds_toArray, List.set_cons_succ, List.set_cons_zero, hp]; done) | simp [Act.put, hp]
        refine AllOps.cons (fun x u hC hT hp K hK => ?_) ?_
        · simp [KnownTill, Region.binds, VG6] at hp
          clear hT
          go_simp
          refine hK _ _ _ hC (Below.refl _ _) (by exact rfl) ?_
          first | (simp only [Act.put, List.setIfInBounds_toArray, List.set_cons_succ, List.set_cons_zero, hp]; done) | simp [Act.put, hp]
        refine AllOps.cons (fun x u hC hT hp K hK => ?_) ?_
        · simp [KnownTill, Region.binds, VG6] at hp
          clear hT
          have cv := conv_n A8 L J8 c8 hJ8 u _ (own8.below hC (Nat.le_refl _)).bs
          go_simp
          refine hK _ _ _ hC (Below.refl _ _) (by exact rfl) ?_
          first | (simp only [Act.put, List.setIfInBounds_toArray, List.set_cons_succ, List.set_cons_zero, hp]; done) | simp [Act.put, hp]
        refine AllOps.cons (fun x u hC hT hp K hK => ?_) ?_
        · simp [KnownTill, Region.binds, VG6] at hp
          clear hT
          go_simp
          refine hK _ _ _ hC (Below.refl _ _) (by exact rfl) ?_
          first | (simp only [Act.put, List.setIfInBounds_toArray, List.set_cons_succ, List.set_cons_zero, hp]; done) | simp [Act.put, hp]
        refine AllOps.cons (fun x u hC hT hp K hK => ?_) ?_
        · simp [KnownTill, Region.binds, VG6] at hp
          clear hT
          go_simp
          refine hK _ _ _ hC (Below.refl _ _) (by exact rfl) ?_
          first | (simp only [Act.put, List.setIfInBounds_toArray, List.set_cons_succ, List.set_cons_zero, hp]; done) | simp [Act.put, hp]
        refine AllOps.cons (fun x u hC hT hp K hK => ?_) ?_
        · simp [KnownTill, Region.binds, VG6] at hp
          clear hT
          go_simp
          refine hK _ _ _ hC (Below.refl _ _) (by exact rfl) ?_
          first | (simp only [Act.put, List.setIfInBounds_toArray, List.set_cons_succ, List.set_cons_zero, hp]; done) | simp [Act.put, hp]
        refine AllOps.cons (fun x u hC hT hp K hK => ?_) ?_
        · simp [KnownTill, Region.binds, VG6] at hp
          clear hT
          go_simp
          refine hK _ _ _ hC (Below.refl _ _) (by exact rfl) ?_
          first | (simp only [Act.put, List.setIfInBounds_toArray, List.set_cons_succ, List.set_cons_zero, hp]; done) | simp [Act.put, hp]
        refine AllOps.cons (fun x u hC hT hp K hK => ?_) ?_
        · simp [KnownTill, Region.binds, VG6] at hp
          clear hT
          go_simp
          refine hK _ _ _ hC (Below.refl _ _) (by exact rfl) ?_
          first | (simp only [Act.put, List.setIfInBounds_toArray, List.set_cons_succ, List.set_cons_zero, hp]; done) | simp [Act.put, hp]
        refine AllOps.cons (fun x u hC hT hp K hK => ?_) ?_
        · simp [KnownTill, Region.binds, VG6] at hp
          clear hT
          go_simp
          refine hK _ _ _ hC (Below.refl _ _) (by exact rfl) ?_
          first | (simp only [Act.put, List.setIfInBounds_toArray, List.set_cons_succ, List.set_cons_zero, hp]; done) | simp [Act.put, hp]
        refine AllOps.cons (fun x u hC hT hp K hK => ?_) ?_
        · simp [KnownTill, Region.binds, VG6] at hp
          clear hT
          go_simp
          refine hK _ _ _ hC (Below.refl _ _) (by exact rfl) ?_
          first | (simp only [Act.put, List.setIfInBounds_toArray, List.set_cons_succ, List.set_cons_zero, hp]; done) | simp [Act.put, hp]
        refine AllOps.cons (fun x u hC hT hp K hK => ?_) ?_
        · simp [KnownTill, Region.binds, VG6] at hp
          clear hT
          go_simp
          refine hK _ _ _ hC (Below.refl _ _) (by exact rfl) ?_
          first | (simp only [Act.put, List.setIfInBounds_toArray, List.set_cons_succ, List.set_cons_zero, hp]; done) | simp [Act.put, hp]
        refine AllOps.cons (fun x u hC hT hp K hK => ?_) ?_
        · simp [KnownTill, Region.binds, VG6] at hp
          clear hT
          have y0 := (kq4.below hC kq4.lt).cell 0
          have y1 := (kq4.below hC kq4.lt).cell 1
          simp only [List.getElem?_toArray, List.getElem?_cons_zero, List.getElem?_cons_succ] at y0 y1
          go_simp
          refine hK _ _ _ hC (Below.refl _ _) (by exact rfl) ?_
          first | (simp only [Act.put, List.setIfInBounds_toArray, List.set_cons_succ, List.set_cons_zero, hp]; done) | simp [Act.put, hp]
        refine AllOps.cons (fun x u hC hT hp K hK => ?_) ?_
        · simp [KnownTill, Region.binds, VG6] at hp
          clear hT
          go_simp
          refine (one_n id A5 l n c5 hn u (own5b.below hC (Nat.le_refl _)).bs).mono ?_
          rintro e wA ⟨⟨v, rfl, hone⟩, hbA⟩
          refine hK _ _ _ (bt hC hbA) hbA (by exact hone) ?_
          first | (simp only [Act.put, List.setIfInBounds_toArray, List.set_cons_succ, List.set_cons_zero, hp]; done) | simp [Act.put, hp]
        refine AllOps.cons (fun x u hC hT hp K hK => ?_) ?_
        · simp [KnownTill, Region.binds, VG6] at hp
          clear hT
          have y0 := (kb4.below hC kb4.lt).cell 0
          have y1 := (kb4.below hC kb4.lt).cell 1
          simp only [List.getElem?_toArray, List.getElem?_cons_zero, List.getElem?_cons_succ] at y0 y1
          go_simp
          refine hK _ _ _ hC (Below.refl _ _) (by exact rfl) ?_
          first | (simp only [Act.put, List.setIfInBounds_toArray, List.set_cons_succ, List.set_cons_zero, hp]; done) | simp [Act.put, hp]
        refine AllOps.cons (fun x u hC hT hp K hK => ?_) ?_
        · simp [KnownTill, Region.binds, VG6] at hp
          clear hT
          go_simp
          refine (one_n id A l n c hn u (HBS.out.bt (bt hbw4 hC))).mono ?_
          rintro e wA ⟨⟨v, rfl, hone⟩, hbA⟩
          refine hK _ _ _ (bt hC hbA) hbA (by exact hone) ?_
          first | (simp only [Act.put, List.setIfInBounds_toArray, List.set_cons_succ, List.set_cons_zero, hp]; done) | simp [Act.put, hp]
        refine AllOps.cons (fun x u hC hT hp K hK => ?_) ?_
        · simp [KnownTill, Region.binds, VG6] at hp
          clear hT
          obtain ⟨⟨A1, k1, h15, va1⟩, A2, k2, h17, va2⟩ : IsOne u (x 15) id l ∧ IsOne u (x 17) id l := by first | exact ⟨hp.1, hp.2⟩ | exact ⟨hp.2, hp.1⟩ | exact ⟨hp.1, hp.2.1⟩ | exact ⟨hp.2.1, hp.2.2⟩ | exact ⟨hp.2.1, hp.1⟩ | exact ⟨hp.2.1, hp.2.2.1⟩
          have hpp := hp
          go_simp
          refine (same_yes A1 A2 [(id, l)] k1 k2 u (by simp) (by intro z hz; rw [List.mem_singleton] at hz; subst hz; exact Nat.le_trans hm.out (by omega)) va1 va2).mono ?_
          rintro e wA ⟨rfl, nn, rfl⟩
          refine hK _ _ _ (bt hC (below_drewN _ nn)) (below_drewN _ nn) (by exact rfl) ?_
          simp [Act.put, hpp, h15, h17]
        refine AllOps.cons (fun x u hC hT hp K hK => ?_) ?_
        · simp [KnownTill, Region.binds, VG6] at hp
          clear hT
          go_simp
          refine hK _ _ _ hC (Below.refl _ _) (by exact rfl) ?_
          first | (simp only [Act.put, List.setIfInBounds_toArray, List.set_cons_succ, List.set_cons_zero, hp]; done) | simp [Act.put, hp]
        refine AllOps.cons (fun x u hC hT hp K hK => ?_) ?_
        · simp [KnownTill, Region.binds, VG6] at hp
          clear hT
          go_simp
          refine hK _ _ _ hC (Below.refl _ _) (by exact rfl) ?_
          first | (simp only [Act.put, List.setIfInBounds_toArray, List.set_cons_succ, List.set_cons_zero, hp]; done) | simp [Act.put, hp]
        exact AllOps.nil
      case finSS =>
        intro x u hC hV
        have hz : x 20 = .bool true := hV 20 (by decide) rfl
        rw [hz]
        have hbf := bt hbw4 hC
        clear hV hz hC kq4 kb4
        go_wp2
        go_ret
        exact ⟨rfl, hbf⟩

end Go.Proofs.Ytoahmifmoekjoaa
