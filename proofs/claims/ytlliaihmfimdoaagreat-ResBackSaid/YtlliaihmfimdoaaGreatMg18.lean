/- Parts Q10 Q11 Q12 Q13 of one proof. -/
import Derived.Test.YtlliaihmfimdoaaGreatMg17
import Derived.Deep.QuietTactic
import Derived.BigQuiet
namespace Go.Proofs.YtlliaihmfimdoaaGreat.Qu
open Go.RowKit Go.Maps
set_option linter.unusedVariables false
set_option linter.unusedSimpArgs false

def giveI (L : List IT) (i : Nat) (n : Int) : List IT := L.modify i fun x => { x with t := n }
theorem giveI_len (L : List IT) (i : Nat) (n : Int) : (giveI L i n).length = L.length := by unfold giveI; simp
theorem itV_set_t : ∀ (l : List IT) (i : Nat) (h : i < l.length) (n : Int), (itV l).set (i * 3 + 2) (.int .i64 n) = itV (giveI l i n)
  | x :: l, 0, _, n => rfl
  | x :: l, i + 1, h, n => by
    have := itV_set_t l i (by simpa using h) n
    rw [show (i + 1) * 3 + 2 = i * 3 + 2 + 3 by omega]
    unfold giveI at this ⊢
    simp only [itV, List.modify_succ_cons, List.set_cons_succ, this]
theorem OwnI.capB {u : World} {B : Nat} {A : Option Addr} {c : Nat} {l : List IT} (h : OwnI u B A c l) : l.length ≤ c ∧ c ≤ 9223372036854775807 := by
  obtain ⟨_, ⟨h1, h2⟩ | ⟨g, cap, cur, e, _, _, hle, hm, _⟩⟩ := h
  · injection h1 with _ e2 e3
    rw [h2, e3]; exact ⟨Nat.zero_le _, by omega⟩
  · cases e; unfold maxLen at hm; exact ⟨hle, by omega⟩
/-- The items have turned. -/
theorem QAt.itemed {w w' : World} {g of N : Nat} {tt : TypeId} {cs : Array Value} {S : QS} {I' : List IT} (h : QAt w g of tt cs S N) (hg : w.grownBy w' (some g)) {A : Option Addr} {n c : Nat} (hb : Blk w' g tt (cs.setIfInBounds of (.slice A n c))) (hn : n = I'.length) (hc : n ≤ c ∧ c ≤ 9223372036854775807) (hi : ItAt w' anyB A I') (hiv : QInv { S with I := I' }) : QAt w' g of tt (cs.setIfInBounds of (.slice A n c)) { S with I := I' } N := by
  obtain ⟨h1, h2, ⟨A0, n0, c0, a1, a2, a3, a4, a5⟩, h3, ⟨m, G, h4, h5, h6⟩, h7, h8, h9⟩ := h
  refine ⟨hb, h2, ⟨A, n, c, set_at a1, hn, hc.1, hc.2, hi⟩, ?_, ⟨m, G, ?_, h5.kept hg h1, h6.same fun A l hc => hc.kept hg h1 h2.1⟩, h7, h8, hiv⟩
  · rw [Array.getElem?_setIfInBounds_ne (by omega)]; exact h3
  · rw [Array.getElem?_setIfInBounds_ne (by omega)]; exact h4
set_option maxRecDepth 100000 in
set_option maxHeartbeats 2000000 in
theorem give_ex (g of : Nat) (tt : TypeId) (cs : Array Value) (S : QS) (N : Nat) (i : Nat) (n : Int) (w : World) (h : QAt w g of tt cs S N) (hi : i < S.I.length) :
    Calls Tryz.prog 121 #[.pointer (some ⟨g, of, none⟩), .int .i64 (i : Nat), .int .i64 n] w fun e w' => e = .returned (.tuple #[]) ∧ (∃ v, QAt w' g of tt (cs.setIfInBounds of v) { S with I := giveI S.I i n } N) ∧ w.grownBy w' (some g) := by
  obtain ⟨A0, n0, c0, i1, i2, i3, i4, i5⟩ := h.it
  have hn16 : n0 ≤ 48 := by have := h.iv.room; omega
  have d0 := (h.bk.cell of).trans i1
  have HC := Lib.hid (iclone_any A0 S.I n0 c0 w (Lib.hid i2) (Lib.hid (by omega)) i5)
  have hin : i < n0 := by omega
  have hiI : (i : Int) < (n0 : Int) := by omega
  have H := Lib.hid (And.intro h (And.intro i2 (And.intro i1 hi)))
  clear h i1 i2 i5
  go_enter Tryz.func121, Tryz.ntmps121
  go_wp2_with fail
  refine HC.out.mono ?_
  rintro e w1 ⟨A2, c2, rfl, own, b1⟩
  obtain ⟨ob, cap, e⟩ := Joins.ownsRow_form own (by omega)
  cases e
  unfold OwnI at own
  rw [← H.out.2.1] at own
  obtain ⟨hoB, hol⟩ := own.lt ob rfl
  have hgl := H.out.1.lt
  have c1 : ∃ v, w1.cell? ⟨ob, i * 3 + 2, none⟩ = some v := by
    obtain ⟨_, _, a3⟩ := itV_at S.I i H.out.2.2.2
    exact ⟨_, (own.cellAt (i * 3 + 2) (by omega)).trans a3⟩
  obtain ⟨u1, c1⟩ := c1
  have f1 := own.frozenAt (i * 3 + 2)
  have st := own.stored (i * 3 + 2) (.int .i64 n)
  rw [itV_set_t S.I i H.out.2.2.2 n] at st
  obtain ⟨w2, hw2⟩ : ∃ w2, w2 = w1.setCell ⟨ob, i * 3 + 2, none⟩ (.int .i64 n) := ⟨_, rfl⟩
  rw [← hw2] at st
  have hgo : g ≠ ob := by omega
  have b2 : Below w.heap.size w w2 := b1.grown st.2 b1.size (fun r e => by cases e; exact hoB)
  have k2 := H.out.1.bk.below b2 hgl
  have e1 := (k2.cell of).trans H.out.2.2.1
  have f2 := k2.frozen of
  have own2 : OwnI w2 w.heap.size (some ⟨ob, 0, none⟩) c2 (giveI S.I i n) := by unfold OwnI; rw [giveI_len, ← H.out.2.1]; exact st.1
  have hF : Hid ((∃ v, QAt (w2.setCell ⟨g, of, none⟩ (.slice (some ⟨ob, 0, none⟩) n0 c2)) g of tt (cs.setIfInBounds of v) { S with I := giveI S.I i n } N) ∧ w.grownBy (w2.setCell ⟨g, of, none⟩ (.slice (some ⟨ob, 0, none⟩) n0 c2)) (some g)) := Lib.hid (by
    have hgs := lgrown_set w2 ⟨g, of, none⟩ (.slice (some ⟨ob, 0, none⟩) n0 c2)
    have hq2 := H.out.1.below b2
    have hcap := own2.capB
    rw [giveI_len, ← H.out.2.1] at hcap
    refine ⟨⟨_, hq2.itemed (I' := giveI S.I i n) hgs (k2.set_ of _) (by rw [giveI_len]; exact H.out.2.1) hcap ((own2.at_.kept hgs k2 H.out.1.ty.2).mono fun _ _ _ => trivial) ?_⟩, (lbelow_grown b2 (some g)).trans hgs⟩
    exact ⟨by have := H.out.1.iv.room; dsimp only; rw [giveI_len]; exact this, H.out.1.iv.g0, H.out.1.iv.last⟩)
  have HW2 := Lib.hid hw2
  rw [hw2] at e1 f2
  clear own st b1 b2 k2 own2 hw2 hoB hol d0
  go_wp2
  rw [← HW2.out]
  go_end0
  exact ⟨rfl, hF.out⟩
theorem give_any (g of : Nat) (tt : TypeId) (cs : Array Value) (S : QS) (N : Nat) (i : Nat) (n : Int) (w : World) (h : QAt w g of tt cs S N) (hi : i < S.I.length) :
    Calls Tryz.prog 121 #[.pointer (some ⟨g, of, none⟩), .int .i64 (i : Nat), .int .i64 n] w fun e w' => e = .returned (.tuple #[]) ∧ QO w g of tt cs { S with I := giveI S.I i n } N w' :=
  (give_ex g of tt cs S N i n w h hi).mono fun e w' hr => ⟨hr.1, ⟨hr.2.1.elim fun v hv => ⟨_, hv, Keep3.set _ _ (.inl rfl) _⟩, hr.2.2⟩⟩
def VAd (w1 : World) (gx q c q1 : Nat) (A : Option Addr) (p : Bool) (l : List Ch) (x : Ch) (j : Nat) (z : Value) (w : World) : Prop :=
  match j with
  | 0 => z = .pointer (some ⟨w1.heap.size, 0, none⟩)
  | 1 => z = .slice A q c
  | 2 => ∃ A2 c2, z = .slice A2 q c2 ∧ OwnC w (w1.heap.size + 1) A2 c2 l
  | 3 => z = .agg #[.int .i64 x.k, .int .i64 x.y, .int .u64 (x.v : Nat)]
  | 4 => ∃ gs, z = .slice (some ⟨gs, 0, none⟩) 1 1 ∧ Blk w gs 74 #[.int .i64 x.k, .int .i64 x.y, .int .u64 (x.v : Nat)] ∧ w1.heap.size + 1 ≤ gs
  | 5 => ∃ A3 c3, z = .slice A3 q1 c3 ∧ OwnC w (w1.heap.size + 1) A3 c3 (l ++ [x])
  | 6 => z = .pointer (some ⟨w1.heap.size, 0, none⟩)
  | 7 => ∃ A3 c3, Blk w w1.heap.size 143 #[.slice A3 q1 c3, .bool p] ∧ OwnC w (w1.heap.size + 1) A3 c3 (l ++ [x])
  | _ => True
def EAd (gw k : Nat) (u u' : World) : Prop := match k with
  | 5 => Below (gw + 1) u u'
  | 7 => u.grownBy u' (some gw)
  | _ => Below u.heap.size u u'
theorem EAd.bel {gw k : Nat} {u u' : World} (h : EAd gw k u u') (h1 : k ≠ 5) (h2 : k ≠ 7) : Below u.heap.size u u' := by
  unfold EAd at h
  split at h
  · exact absurd rfl h1
  · exact absurd rfl h2
  · exact h
theorem OwnC.bel {u u' : World} {B : Nat} {A : Option Addr} {c : Nat} {l : List Ch} (h : OwnC u B A c l) (hb : Below u.heap.size u u') : OwnC u' B A c l := h.kept (lbelow_grown hb none) (fun r e => by cases e)
theorem OwnC.one {u u' : World} {B k : Nat} {A : Option Addr} {c : Nat} {l : List Ch} (h : OwnC u B A c l) (hb : u.grownBy u' (some k)) (hk : k < B) : OwnC u' B A c l := h.kept hb (fun r e => by cases e; exact hk)
theorem VAd.mono {w1 : World} {gx q c q1 : Nat} {A : Option Addr} {p : Bool} {l : List Ch} {x : Ch} {j k : Nat} {z : Value} {u u' : World} (he : EAd w1.heap.size k u u') (hjk : j ≠ k) (hd : ¬ ((j = 2 ∨ j = 4) ∧ k = 5)) (hw : ¬ (j = 7 ∧ k = 5)) (hd5 : ¬ (j = 5 ∧ k = 7)) (h : VAd w1 gx q c q1 A p l x j z u) : VAd w1 gx q c q1 A p l x j z u' := by
  unfold VAd at h ⊢
  split at h
  all_goals first | exact h | skip
  · obtain ⟨A2, c2, e, ho⟩ := h
    by_cases k5 : k = 5
    · exact absurd ⟨.inl rfl, k5⟩ hd
    by_cases k7 : k = 7
    · subst k7; exact ⟨A2, c2, e, Qu.OwnC.one ho he (by omega)⟩
    · exact ⟨A2, c2, e, Qu.OwnC.bel ho (he.bel k5 k7)⟩
  · obtain ⟨gs, e, hk, hle⟩ := h
    by_cases k5 : k = 5
    · exact absurd ⟨.inr rfl, k5⟩ hd
    by_cases k7 : k = 7
    · subst k7; exact ⟨gs, e, hk.kept he (fun e2 => by injection e2; omega), hle⟩
    · exact ⟨gs, e, hk.below (he.bel k5 k7) hk.lt, hle⟩
  · obtain ⟨A3, c3, e, ho⟩ := h
    by_cases k7 : k = 7
    · exact absurd ⟨rfl, k7⟩ hd5
    · exact ⟨A3, c3, e, Qu.OwnC.bel ho (he.bel (fun e => hjk e.symm) k7)⟩
  · obtain ⟨A3, c3, hk, ho⟩ := h
    by_cases k5 : k = 5
    · exact absurd ⟨rfl, k5⟩ hw
    · have hb := he.bel k5 (fun e => hjk e.symm)
      exact ⟨A3, c3, hk.below hb hk.lt, Qu.OwnC.bel ho hb⟩
def TAd (w1 : World) (q c : Nat) (A : Option Addr) (p : Bool) (j : Nat) (u : World) : Prop := match j with
  | 1 => Blk u w1.heap.size 143 #[.slice A q c, .bool p]
  | 7 => Blk u w1.heap.size 143 #[.slice A q c, .bool p]
  | _ => True
theorem TAd.mono {w1 : World} {q c : Nat} {A : Option Addr} {p : Bool} {j k : Nat} {u u' : World} (he : EAd w1.heap.size k u u') (hkj : k ≠ j) (h17 : ¬ (j = 1 ∧ k = 7)) (h : TAd w1 q c A p j u) : TAd w1 q c A p j u' := by
  unfold TAd at h ⊢
  have aux : k ≠ 7 → Blk u w1.heap.size 143 #[.slice A q c, .bool p] → Blk u' w1.heap.size 143 #[.slice A q c, .bool p] := fun k7 hb => by
    by_cases k5 : k = 5
    · subst k5
      have he : Below (w1.heap.size + 1) u u' := he
      exact (he.block _ (by omega)).trans hb
    · exact hb.below (he.bel k5 k7) hb.lt
  split at h
  · exact aux (fun e => h17 ⟨rfl, e⟩) h
  · exact aux hkj h
  · trivial
theorem step_append_run {P : Program} {w : World} {ops : Array Oper} {o : Oper} {a : Act} {K : Act → World → Prop} {Q : Exit → Act → World → Prop} {E : Prop} (hgd : o.guard = none) (s x : Operand) (t : TypeId)
    (ho : o.op = .call { callee := .builtin .append, args := #[s, x], argTypes := #[t, t] }) (sv xv v : Value) (w' : World) (hs : a.eval s = sv) (hx : a.eval x = xv) (hrun : (Builtin.append_ #[t, t] o.type #[sv, xv]).run P w = .ok v w') (h : K (a.put o.dst v) w') :
    if Region.wanted o (yielded ops a.tmps) = true then Oper.wp P o a w K Q else E := by
  have hw : Region.wanted o (yielded ops a.tmps) = true := by simp [Region.wanted, hgd]
  rw [if_pos hw]
  unfold Oper.wp execOp
  simp only [ho, resolve, invoke, builtin, Sem.run_bind, Sem.run_pure, Result.andThen_ok, List.map_toArray, List.map_cons, List.map_nil, hs, hx, hrun]
  exact h

def addQ (ws : List WQ) (n : Int) (x : Ch) : List WQ := layQ ws n ((curQ ws n).1 ++ [x]) (curQ ws n).2
set_option maxRecDepth 100000 in
set_option maxHeartbeats 4000000 in
theorem add_any (g of : Nat) (tt : TypeId) (cs : Array Value) (S : QS) (N : Nat) (n : Int) (x : Ch) (w : World) (h : QAt w g of tt cs S N) (hN : N < 300000) (hn : i64ok n) (hB : ∀ b, w.heap.size ≤ b → S.B b) (hiv : QInv { S with ws := addQ S.ws n x }) :
    Calls Tryz.prog 123 #[.pointer (some ⟨g, of, none⟩), .int .i64 n, .agg #[.int .i64 x.k, .int .i64 x.y, .int .u64 (x.v : Nat)]] w fun e w' => e = .returned (.tuple #[]) ∧ QO w g of tt cs { S with ws := addQ S.ws n x } (N + 1) w' := by
  obtain ⟨m, A, q, c, h32, hq, hc, r1, _⟩ := h.look hn
  have hlen : (curQ S.ws n).1.length ≤ N := by
    unfold curQ lookQ
    rcases hf : findQ S.ws n with _ | y
    · exact Nat.zero_le _
    · exact (h.le y (findQ_mem hf).1).1
  obtain ⟨w1, hw1⟩ : ∃ w1, w1 = w.alloc (.cells #[.int .i64 x.k, .int .i64 x.y, .int .u64 (x.v : Nat)] 74) := ⟨_, rfl⟩
  have b1 : Below w.heap.size w w1 := by rw [hw1]; exact ba _ _
  have k1 : Blk w1 w.heap.size 74 #[.int .i64 x.k, .int .i64 x.y, .int .u64 (x.v : Nat)] := by rw [hw1]; exact Blk.new _ _ _
  have hs1 : w1.heap.size = w.heap.size + 1 := by rw [hw1]; simp
  unfold addQ at hiv ⊢
  obtain ⟨cl, hcl⟩ : ∃ cl, cl = curQ S.ws n := ⟨_, rfl⟩
  rw [← hcl] at hq hc r1 hlen hiv ⊢
  obtain ⟨l, p⟩ := cl
  dsimp only at hq hc r1 hlen hiv ⊢
  have c32 := ((h.below b1).bk.cell (of + 2)).trans h32
  have r1' := ((h.below b1).look hn)
  have hl1 : (Instr.lookup 97 (.map m) (.int .i64 n) false).run Tryz.prog w1 = .ok (.agg #[.slice A q c, .bool p]) w1 := by
    obtain ⟨m', G, h4, h5, h6⟩ := h.wk
    have em : m' = m := by rw [h4] at h32; injection h32 with h32; injection h32
    subst em
    have z1 := h5.look 97 143 Tryz.underlying97 (z := .agg #[.slice none 0 0, .bool false]) rfl (Tryz.zeroValue143 w) hn
    have z2 := (h5.below b1).look 97 143 Tryz.underlying97 (z := .agg #[.slice none 0 0, .bool false]) rfl (Tryz.zeroValue143 w1) hn
    rw [z1] at r1
    injection r1 with r1
    rw [z2, r1]
  obtain ⟨w2, hw2⟩ : ∃ w2, w2 = w1.alloc (.cells #[.slice A q c, .bool p] 143) := ⟨_, rfl⟩
  have b2 : Below w1.heap.size w1 w2 := by rw [hw2]; exact ba _ _
  have k2 : Blk w2 w1.heap.size 143 #[.slice A q c, .bool p] := by rw [hw2]; exact Blk.new _ _ _
  have hs2 : w2.heap.size = w1.heap.size + 1 := by rw [hw2]; simp
  obtain ⟨gx, hgx⟩ : ∃ gx, gx = w.heap.size := ⟨_, rfl⟩
  rw [← hgx] at k1
  have HW1 := Lib.hid hw1
  have HW2 := Lib.hid hw2
  have Hgx := Lib.hid hgx
  have HcL := Lib.hid (hc.below b1)
  have HK1 := Lib.hid k1
  have H := Lib.hid (And.intro h (And.intro b1 (And.intro hn (And.intro hB (And.intro hiv (And.intro hlen hq))))))
  have hqN : q ≤ 300000 := by omega
  have hgl := h.lt
  have HS := Lib.hid (And.intro hs1 (And.intro hs2 hgl))
  have hgx1 : gx < w1.heap.size := by omega
  obtain ⟨q1, hq1⟩ : ∃ q1, q1 = q + 1 := ⟨_, rfl⟩
  have Hq1 := Lib.hid hq1
  rw [hw1] at c32 hl1
  clear h hw1 hw2 hgx hc b1 r1 hn hB hiv hlen k1 r1' hq h32 hs1 hs2 hgl hcl hq1
  go_enter Tryz.func123, Tryz.ntmps123
  go_wp2_with fail
  rw [← HW1.out, ← HW2.out]
  clear c32 hl1
  have es : w.heap.size + 1 = w1.heap.size := HS.out.1.symm
  rw [es, ← Hgx.out]
  refine wp_region_invU (F := ?FD) (V := VAd w1 gx q c q1 A p l x) (dead := fun j => if j = 2 ∨ j = 4 then some 5 else if j = 5 then some 7 else none) (T := TAd w1 q c A p) (C := fun u => Below w1.heap.size w1 u ∧ w1.heap.size + 1 ≤ u.heap.size) (E := EAd w1.heap.size) (by kernel_rfl) (by kernel_rfl) (by kernel_rfl) (fun x_1 => ?hFD) ?hmonoD ?hTmD ?hTD ?hCD ?stepD ?finD
  case hFD => simp only [mkA, Act.put, List.setIfInBounds_toArray, List.set_cons_succ, List.set_cons_zero, Nat.reduceAdd, Nat.zero_add]; first | with_reducible rfl | rfl
  case hmonoD => exact fun k' j z u u' he hjk hwt hdd hv => VAd.mono he hjk (fun hh => hdd (by rcases hh with ⟨rfl | rfl, rfl⟩ <;> rfl)) (fun hh => by rcases hh with ⟨rfl, rfl⟩; rw [show waitsU _ 7 5 = true by kernel_rfl] at hwt; cases hwt) (fun hh => hdd (by rcases hh with ⟨rfl, rfl⟩; rfl)) hv
  case hTmD => exact fun k' j u u' he hkj hwt hv => TAd.mono he hkj (fun hh => by rcases hh with ⟨rfl, rfl⟩; rw [show waitsU _ 7 1 = true by kernel_rfl] at hwt; cases hwt) hv
  case hTD => exact fun j => by unfold TAd; split <;> first | exact k2.below (Below.refl _ _).drew k2.lt | trivial
  case hCD => exact ⟨b2.drew, by show w1.heap.size + 1 ≤ w2.heap.size; have := HS.out.2.1; omega⟩
  case stepD =>
    refine AllOps.cons (fun x_1 u hC hT hp K hK => ?_) ?_
    · clear hp hT
      go_simp
      refine hK _ _ _ hC (Below.refl _ _) (by exact rfl) ?_
      first | (simp only [Act.put, List.setIfInBounds_toArray, List.set_cons_succ, List.set_cons_zero]; done) | simp [Act.put]
    refine AllOps.cons (fun x_1 u hC hT hp K hK => ?_) ?_
    · simp [KnownTill, Region.binds, VAd] at hp
      have cc := (show Blk u w1.heap.size 143 #[.slice A q c, .bool p] from hT).cell 0
      simp only [List.getElem?_toArray, List.getElem?_cons_zero, List.getElem?_cons_succ] at cc
      clear hT
      go_simp
      refine hK _ _ _ hC (Below.refl _ _) (by exact rfl) ?_
      first | (simp only [Act.put, List.setIfInBounds_toArray, List.set_cons_succ, List.set_cons_zero, hp]; done) | simp [Act.put, hp]
    refine AllOps.cons (fun x_1 u hC hT hp K hK => ?_) ?_
    · simp [KnownTill, Region.binds, VAd] at hp
      clear hT
      go_simp
      refine (cclone_any A l q c u (Lib.hid H.out.2.2.2.2.2.2) (Lib.hid (by omega)) (HcL.out.below (show Below w1.heap.size w1 u from hC.1))).mono ?_
      rintro e wA ⟨A2, c2, rfl, own2, bA⟩
      refine hK _ _ _ ⟨bt hC.1 bA, Nat.le_trans hC.2 bA.size⟩ bA ⟨A2, c2, rfl, own2.less hC.2⟩ ?_
      first | (simp only [Act.put, List.setIfInBounds_toArray, List.set_cons_succ, List.set_cons_zero, hp]; done) | simp [Act.put, hp]
    refine AllOps.cons (fun x_1 u hC hT hp K hK => ?_) ?_
    · clear hp hT
      have kx := HK1.out.below (show Below w1.heap.size w1 u from hC.1) HK1.out.lt
      have q0 := kx.cell 0
      have q1' := kx.cell 1
      have q2 := kx.cell 2
      simp only [List.getElem?_toArray, List.getElem?_cons_zero, List.getElem?_cons_succ] at q0 q1' q2
      go_simp
      refine hK _ _ _ hC (Below.refl _ _) (by exact rfl) ?_
      first | (simp only [Act.put, List.setIfInBounds_toArray, List.set_cons_succ, List.set_cons_zero]; done) | simp [Act.put]
    refine AllOps.cons (fun x_1 u hC hT hp K hK => ?_) ?_
    · simp [KnownTill, Region.binds, VAd] at hp
      clear hT
      have kn := Blk.new u 74 #[.int .i64 x.k, .int .i64 x.y, .int .u64 (x.v : Nat)]
      go_simp
      refine hK (.slice (some ⟨u.heap.size, 0, none⟩) 1 1) _ _ ⟨bt hC.1 (ba _ _), by have := hC.2; simp; omega⟩ (ba _ _) ⟨u.heap.size, rfl, kn, hC.2⟩ ?_
      first | (simp only [Act.put, List.setIfInBounds_toArray, List.set_cons_succ, List.set_cons_zero, hp]; done) | simp [Act.put, hp]
    refine AllOps.cons (fun x_1 u hC hT hp K hK => ?_) ?_
    · simp [KnownTill, Region.binds, VAd] at hp
      clear hT
      obtain ⟨A2, c2, h2, own2⟩ : ∃ A2 c2, x_1 2 = .slice A2 q c2 ∧ OwnC u (w1.heap.size + 1) A2 c2 l := by first | exact hp.1 | exact hp.2 | exact hp.2.1
      obtain ⟨gs, h4, hgs, hgl⟩ : ∃ gs, x_1 4 = .slice (some ⟨gs, 0, none⟩) 1 1 ∧ Blk u gs 74 #[.int .i64 x.k, .int .i64 x.y, .int .u64 (x.v : Nat)] ∧ w1.heap.size + 1 ≤ gs := by first | exact hp.2 | exact hp.2.1 | exact hp.1
      obtain ⟨A3, c3, w8, hrun, own8, g8, hat8⟩ := ch_app own2 (some ⟨gs, 0, none⟩) 1 [x] q 1 H.out.2.2.2.2.2.2 rfl (fun b o e i hi => by cases e; have hi0 : i = 0 := (by simpa using hi); subst hi0; exact ⟨hgs.cell 0, hgs.cell 1, hgs.cell 2⟩) (fun _ => ⟨_, _, rfl⟩) (by have := own2.cap; have := H.out.2.2.2.2.2.2; omega) (by have := H.out.2.2.2.2.2.2; simp; omega) hC.2
      rw [← Hq1.out] at hrun
      have b8 : Below (w1.heap.size + 1) u w8 := ⟨g8.os, g8.tape, g8.output, g8.size, fun k hk => g8.block k (by have := hC.2; omega) (fun e => by have := (own2.lt' _ e.symm).1; omega)⟩
      refine step_append_run rfl (.tmp 15) (.tmp 17) 40 rfl (.slice A2 q c2) (.slice (some ⟨gs, 0, none⟩) 1 1) _ w8 (by show x_1 2 = _; exact h2) (by show x_1 4 = _; exact h4) hrun ?_
      refine hK _ _ _ ⟨⟨g8.os.trans hC.1.os, g8.tape.trans hC.1.tape, g8.output.trans hC.1.output, Nat.le_trans hC.1.size g8.size, fun k hk => (b8.block k (by omega)).trans (hC.1.block k hk)⟩, Nat.le_trans hC.2 g8.size⟩ b8 ⟨A3, c3, rfl, own8⟩ rfl
    refine AllOps.cons (fun x_1 u hC hT hp K hK => ?_) ?_
    · clear hp hT
      go_simp
      refine hK _ _ _ hC (Below.refl _ _) (by exact rfl) ?_
      first | (simp only [Act.put, List.setIfInBounds_toArray, List.set_cons_succ, List.set_cons_zero]; done) | simp [Act.put]
    refine AllOps.cons (fun x_1 u hC hT hp K hK => ?_) ?_
    · simp [KnownTill, Region.binds, VAd] at hp
      obtain ⟨A3, c3, h5, own3⟩ : ∃ A3 c3, x_1 5 = .slice A3 q1 c3 ∧ OwnC u (w1.heap.size + 1) A3 c3 (l ++ [x]) := by first | exact hp.1 | exact hp.2 | exact hp.2.1 | exact hp.2.2.1
      have h6 : x_1 6 = .pointer (some ⟨w1.heap.size, 0, none⟩) := by first | exact hp.2 | exact hp.1 | exact hp.2.1 | exact hp.2.2 | exact hp.2.2.1
      have kw : Blk u w1.heap.size 143 #[.slice A q c, .bool p] := hT
      have cc := kw.cell 0
      have ff := kw.frozen 0
      simp only [List.getElem?_toArray, List.getElem?_cons_zero, List.getElem?_cons_succ] at cc
      have kF : Blk (u.setCell ⟨w1.heap.size, 0, none⟩ (.slice A3 q1 c3)) w1.heap.size 143 #[.slice A3 q1 c3, .bool p] := by simpa using kw.set_ 0 (.slice A3 q1 c3)
      have gF := lgrown_set u ⟨w1.heap.size, 0, none⟩ (.slice A3 q1 c3)
      have oF := Qu.OwnC.one own3 gF (by dsimp only; omega)
      clear kw hT
      go_simp
      refine hK undef _ _ ⟨hC.1.setCell (p := ⟨w1.heap.size, 0, none⟩) (Nat.le_refl _) _, by rw [World.size_setCell]; exact hC.2⟩ gF ⟨A3, c3, kF, oF⟩ ?_
      first | (simp only [Act.put, List.setIfInBounds_toArray, List.set_cons_succ, List.set_cons_zero, hp, h5, h6]; done) | simp [Act.put, hp, h5, h6]
    exact AllOps.nil
  case finD =>
    intro x_1 u hC hV
    obtain ⟨A3, c3, kF, oF⟩ := hV 7 (by decide) rfl
    have e0 := kF.cell 0
    have e1 := kF.cell 1
    simp only [List.getElem?_toArray, List.getElem?_cons_zero, List.getElem?_cons_succ] at e0 e1
    have hu : Below w1.heap.size w1 u := hC.1
    have hbu : Below w.heap.size w u := bt H.out.2.1 hu
    have hcu : ChAt u S.B A3 (l ++ [x]) := oF.at_.mono fun b hb _ => H.out.2.2.2.1 b (by have := H.out.2.1.size; have hb : w1.heap.size + 1 ≤ b := hb; omega)
    have HL := Lib.hid (lay_any g of tt cs S N n A3 (l ++ [x]) q1 c3 p u (H.out.1.below hbu) (by omega) H.out.2.2.1 (by rw [Hq1.out, H.out.2.2.2.2.2.2]; simp) (by have := H.out.2.2.2.2.2.1; simp; exact this) hcu H.out.2.2.2.2.1)
    have HB := Lib.hid hbu
    clear hV hC kF oF hu hbu hcu k2 b2
    go_wp2_with fail
    refine HL.out.mono ?_
    rintro e w9 ⟨rfl, ⟨⟨cs', hk, hkp⟩, hg⟩⟩
    have HF : Hid (QO w g of tt cs { S with ws := layQ S.ws n (l ++ [x]) p } (N + 1) w9) := Lib.hid ⟨⟨cs', hk, hkp⟩, (lbelow_grown HB.out (some g)).trans hg⟩
    clear hk hkp hg e0 e1
    go_wp2
    go_end0
    exact ⟨rfl, HF.out⟩
end Go.Proofs.YtlliaihmfimdoaaGreat.Qu

namespace Go.Proofs.YtlliaihmfimdoaaGreat.Qu
open Go.RowKit Go.Shelf Go.Maps
attribute [local go_sem] Oper.semAt_some
set_option linter.unusedVariables false
set_option linter.unusedSimpArgs false

def frontR (L : List IT) (n : Int) : Nat × Int := match (ixs L).find? (fun x => decide (x.2.t ≠ n)) with
  | none => (0, 140)
  | some x => if x.2.t = 0 then (x.1, 0) else (0, 120)
theorem ixs_get (L : List IT) (i : Nat) (h : i < L.length) : ∃ hh : i < (ixs L).length, (ixs L)[i]'hh = (i, L[i]'h) := by
  have := ixsF_at L 0 i h
  rw [Nat.zero_add] at this
  obtain ⟨hh, e⟩ := List.getElem?_eq_some_iff.1 this
  exact ⟨hh, e⟩
theorem front_at {L : List IT} {n : Int} {i : Nat} (h : i < L.length) (hall : ∀ x ∈ (ixs L).take i, x.2.t = n) (hne : (L[i]'h).t ≠ n) : frontR L n = if (L[i]'h).t = 0 then (i, 0) else (0, 120) := by
  obtain ⟨hh, e⟩ := ixs_get L i h
  have : (ixs L).find? (fun x => decide (x.2.t ≠ n)) = some (i, L[i]'h) := by
    rw [List.find?_eq_some_iff_getElem]
    refine ⟨by simpa using hne, i, hh, e, fun j hj => ?_⟩
    have := hall ((ixs L)[j]'(by omega)) (by
      rw [List.mem_take_iff_getElem]
      exact ⟨j, by omega, rfl⟩)
    simpa using this
  unfold frontR
  rw [this]
theorem front_none {L : List IT} {n : Int} (hall : ∀ x ∈ ixs L, x.2.t = n) : frontR L n = (0, 140) := by
  have : (ixs L).find? (fun x => decide (x.2.t ≠ n)) = none := by
    rw [List.find?_eq_none]
    intro x hx
    simpa using hall x hx
  unfold frontR
  rw [this]
/-- Under way in front. -/
structure FI (w : World) (n : Int) (k e : Int) (W : World) : Prop where
  be : Below w.heap.size w W
  sz : w.heap.size + 3 ≤ W.heap.size
  kn : Blk W w.heap.size 3 #[.int .i64 n]
  kp : Blk W (w.heap.size + 1) 3 #[.int .i64 k]
  ke : Blk W (w.heap.size + 2) 45 #[.int .i64 e]
theorem FI.bel {w W W' : World} {n k e : Int} (h : FI w n k e W) (hb : Below W.heap.size W W') : FI w n k e W' :=
  ⟨bt h.be hb, Nat.le_trans h.sz hb.size, h.kn.below hb h.kn.lt, h.kp.below hb h.kp.lt, h.ke.below hb h.ke.lt⟩
theorem blk_put {W : World} {b l : Nat} {t : TypeId} {cs : Array Value} {o o' : Obj} (h : Blk W b t cs) (ho : W.heap[l]? = some o) (hc : o.isCells = false) : Blk (W.putObj l o') b t cs :=
  (World.putObj_heap_other (fun e => by subst e; unfold Blk at h; rw [h] at ho; cases ho; cases hc)).trans h
theorem FI.put {w W : World} {n k e : Int} {l : Nat} {o o' : Obj} (h : FI w n k e W) (hl : w.heap.size ≤ l) (ho : W.heap[l]? = some o) (hc : o.isCells = false) : FI w n k e (W.putObj l o') :=
  ⟨h.be.grown (grownBy_putObj' W l o') h.be.size (fun r e => by cases e; exact hl), by rw [World.putObj_size]; exact h.sz, blk_put h.kn ho hc, blk_put h.kp ho hc, blk_put h.ke ho hc⟩
set_option maxRecDepth 100000 in
set_option maxHeartbeats 4000000 in
theorem front_any (g of : Nat) (tt : TypeId) (cs : Array Value) (S : QS) (N : Nat) (n : Int) (w : World) (h : QAt w g of tt cs S N) :
    Calls Tryz.prog 126 #[.pointer (some ⟨g, of, none⟩), .int .i64 n] w fun e w' => e = .returned (.tuple #[.int .i64 ((frontR S.I n).1 : Nat), .int .i64 (frontR S.I n).2]) ∧ Below w.heap.size w w' := by
  obtain ⟨A0, n0, c0, i1, i2, i3, i4, i5⟩ := h.it
  have hn16 : n0 ≤ 48 := by have := h.iv.room; omega
  have HC0 := Lib.hid (fun u (hb : Below w.heap.size w u) => ((h.below hb).bk.cell of).trans i1)
  have HI := Lib.hid (fun u (hb : Below w.heap.size w u) => i5.below hb)
  have HL := Lib.hid i2
  obtain ⟨L, hL⟩ : ∃ L, L = S.I := ⟨_, rfl⟩
  rw [← hL] at HI HL ⊢
  clear h i1 i2 i5 hL
  refine (callsIn_wide (n := 9)).1 ?_
  refine callsIn_of_wp_marks Tryz.func126 rfl trivial ?_ rfl
  simp only [Tryz.ntmps126, List.size_toArray, List.length_cons, List.length_nil, Nat.reduceAdd, Nat.reduceSub, Array.replicate_succ, Array.replicate_zero, List.push_toArray, List.append_toArray, List.nil_append, List.cons_append]
  gi_wp2_with fail
  refine wpIn_scope_straight ?_
  gi_wp2_with fail
  refine wpIn_label ?_
  gi_wp2_with fail
  obtain ⟨w5, hw5⟩ : ∃ w5, w5 = ((w.alloc (.cells #[.int .i64 n] 3)).alloc (.cells #[.int .i64 0] 3)).alloc (.cells #[.int .i64 140] 45) := ⟨_, rfl⟩
  have h5 : FI w n 0 140 w5 := by
    have s1 : (w.alloc (.cells #[.int .i64 n] 3)).heap.size = w.heap.size + 1 := by simp
    have s2 : ((w.alloc (.cells #[.int .i64 n] 3)).alloc (.cells #[.int .i64 0] 3)).heap.size = w.heap.size + 2 := by simp
    have k0 : Blk (w.alloc (.cells #[.int .i64 n] 3)) w.heap.size 3 #[.int .i64 n] := Blk.new _ _ _
    have k1 : Blk ((w.alloc (.cells #[.int .i64 n] 3)).alloc (.cells #[.int .i64 0] 3)) (w.heap.size + 1) 3 #[.int .i64 0] := by rw [← s1]; exact Blk.new _ _ _
    have k2 : Blk w5 (w.heap.size + 2) 45 #[.int .i64 140] := by rw [hw5, ← s2]; exact Blk.new _ _ _
    rw [hw5] at k2 ⊢
    exact ⟨bt (bt (ba _ _) (ba _ _)) (ba _ _), by simp, (k0.alloc _).alloc _, k1.alloc _, k2⟩
  have hs5 : w.heap.size ≤ w5.heap.size := h5.be.size
  have e5 : ((w.alloc (.cells #[.int .i64 n] 3)).alloc (.cells #[.int .i64 0] 3)).alloc (.cells #[.int .i64 140] 45) = w5 := hw5.symm
  rw [e5]
  clear hw5 e5
  refine wpIn_rangeFunc_leaveM (F := Fence.wide) rfl (by omega) (gf := 96) (rb := #[.pointer (some ⟨g, of, none⟩)]) (lb := #[]) rfl trivial (enters_of Tryz.func96 (by kernel_rfl) rfl)
    (encs := encI) (fun _ => rfl) (fun _ _ => True) (fun pre W => FI w n 0 140 W ∧ ∀ x ∈ pre, x.2.t = n)
    (fun cd xs W => cd = .exit 0 ∧ ∃ pre x, xs = pre ++ [x] ∧ (∀ y ∈ pre, y.2.t = n) ∧ x.2.t ≠ n ∧ ((x.2.t = 0 ∧ FI w n (x.1 : Nat) 0 W) ∨ (x.2.t ≠ 0 ∧ FI w n 0 120 W)))
    (fun pre x _ => True) (fun xs => xs = ixs L) (fun xs => ∃ i, i < L.length ∧ xs = (ixs L).take (i + 1)) 49
    (fun _ _ => trivial) (fun _ _ _ _ _ _ _ => trivial)
    (fun s W l o o' hi hl ho hc => ⟨hi.1.put (Nat.le_trans hs5 hl) ho hc, hi.2⟩)
    (fun cd s W l o o' hi hl ho hc => by
      obtain ⟨h1, pre, x, h2, h3, h4, h5⟩ := hi
      exact ⟨h1, pre, x, h2, h3, h4, h5.imp (fun h => ⟨h.1, h.2.put (Nat.le_trans hs5 hl) ho hc⟩) (fun h => ⟨h.1, h.2.put (Nat.le_trans hs5 hl) ho hc⟩)⟩)
    (fun o o' => ⟨(h5.bel (ba _ _)).bel (ba _ _), fun x hx => nomatch hx⟩)
    ?iter (fun pre x a' W => ∃ t9, Blk W t9 152 #[.int .i64 x.2.n, .int .u64 (x.2.v : Nat), .int .i64 x.2.t] ∧ a' = { tmps := #[.pointer (some ⟨g, of, none⟩), .int .i64 n, undef, .pointer (some ⟨w.heap.size, 0, none⟩), .int .i64 0, .int .i64 0, .pointer (some ⟨w.heap.size + 1, 0, none⟩), .pointer (some ⟨w.heap.size + 2, 0, none⟩), .int .i64 x.1, .pointer (some ⟨t9, 0, none⟩), .pointer (some ⟨g, of, none⟩), .func (.func 96) #[.pointer (some ⟨g, of, none⟩)] #[], .int .i64 x.1, .agg #[.int .i64 x.2.n, .int .u64 (x.2.v : Nat), .int .i64 x.2.t], undef, undef, undef, undef, undef, undef, undef, undef, undef, undef], defers := [] })
    (fun pre x a' W l o o' h hl ho hc => by
      obtain ⟨t9, h1, h3⟩ := h
      exact ⟨t9, blk_put h1 ho hc, h3⟩) ?assign ?body ?done ?stop
  case iter =>
    intro l W1 Z Y hZK hb1 hI1 hz1 hYY
    refine (each_in 8 (by omega) l g of A0 L n0 c0 HL (by omega) (fun i W => (FI w n 0 140 W ∧ ∀ x ∈ (ixs L).take i, x.2.t = n) ∧ Z W ∧ i ≤ L.length) (fun i W => Y ((ixs L).take (i + 1)) W)
      (fun s Wa Wb hb hh => ⟨⟨hh.1.1.bel hb, hh.1.2⟩, hZK _ _ (keepsOthers_below hb) hh.2.1, hh.2.2⟩) (fun s Wa hh => HI.out Wa hh.1.1.be) ?_ W1 (HC0.out W1 hI1.1.be) ⟨hI1, hz1, Nat.zero_le _⟩).mono ?_
    · intro i hi Wa hh
      have := hYY ((ixs L).take i) (i, L[i]'hi) Wa hh.1 hh.2.1 trivial (by rw [ixs_tlen L i (by omega)]; have := HL.out; omega)
      rw [← ixs_take L i hi] at this
      refine YieldAt.mono this fun e W' hr => ?_
      rcases hr with ⟨h1, h2, h3, _⟩ | hr
      · exact .inl ⟨h1, h2, h3, by omega⟩
      · exact .inr hr
    · rintro e W' ⟨hv, (⟨h1, h2, _⟩ | ⟨i, hi, hy⟩)⟩
      · exact ⟨hv, .inl ⟨ixs L, rfl, by rw [List.take_of_length_le (by unfold ixs; rw [ixsF_len]; exact Nat.le_refl _)] at h1; exact h1, h2⟩⟩
      · exact ⟨hv, .inr ⟨_, ⟨i, hi, rfl⟩, hy⟩⟩
  case assign =>
    rintro l pre x W K hi _ hK
    obtain ⟨xi, xn, xv, xt⟩ := x
    simp [encI, IT.val]
    gi_wp2_with fail
    exact hK _ _ (KeepsOthers.alloc _ _) trivial ⟨hi.1.bel (ba _ _), hi.2⟩ ⟨_, Blk.new _ _ _, rfl⟩
  case body =>
    rintro l pre x a' W hl _ hi ⟨t9, h1, rfl⟩ hlen
    obtain ⟨xi, xn, xv, xt⟩ := x
    dsimp only at h1
    have d0 := hi.1.kn.cell 0
    have d2 := h1.cell 2
    have p1 := hi.1.kp.cell 0
    have p2 := hi.1.ke.cell 0
    have f1 := hi.1.kp.frozen 0
    have f2 := hi.1.ke.frozen 0
    simp only [List.getElem?_toArray, List.getElem?_cons_zero, List.getElem?_cons_succ] at d0 d2 p1 p2
    have HF := Lib.hid hi
    clear h1
    by_cases hx : xt = n
    · subst hx
      have HN : Hid (∀ y ∈ pre ++ [(xi, (⟨xn, xv, xt⟩ : IT))], y.2.t = xt) := Lib.hid (fun y hy => by
        rcases List.mem_append.1 hy with hy | hy
        · exact hi.2 y hy
        · obtain rfl := List.mem_singleton.1 hy; rfl)
      clear hi
      gi_wp2_with fail
      exact ⟨KeepsOthers.refl _, trivial, HF.out.1, HN.out⟩
    · have hxb : (xt == n) = false := by simp [hx]
      by_cases h0 : xt = 0
      · subst h0
        have hF2 : Hid (FI w n (xi : Nat) 0 ((W.setCell ⟨w.heap.size + 1, 0, none⟩ (.int .i64 (xi : Nat))).setCell ⟨w.heap.size + 2, 0, none⟩ (.int .i64 0)) ∧ KeepsOthers W ((W.setCell ⟨w.heap.size + 1, 0, none⟩ (.int .i64 (xi : Nat))).setCell ⟨w.heap.size + 2, 0, none⟩ (.int .i64 0))) := Lib.hid (by
          have k1 : Blk (W.setCell ⟨w.heap.size + 1, 0, none⟩ (.int .i64 (xi : Nat))) (w.heap.size + 1) 3 #[.int .i64 (xi : Nat)] := by simpa using hi.1.kp.set_ 0 (.int .i64 (xi : Nat))
          have k2 := hi.1.ke.kept (lgrown_set W ⟨w.heap.size + 1, 0, none⟩ (.int .i64 (xi : Nat))) (fun e => by injection e with e; dsimp only at e; omega)
          have k3 : Blk ((W.setCell ⟨w.heap.size + 1, 0, none⟩ (.int .i64 (xi : Nat))).setCell ⟨w.heap.size + 2, 0, none⟩ (.int .i64 0)) (w.heap.size + 2) 45 #[.int .i64 0] := by simpa using k2.set_ 0 (.int .i64 0)
          have g2 := lgrown_set (W.setCell ⟨w.heap.size + 1, 0, none⟩ (.int .i64 (xi : Nat))) ⟨w.heap.size + 2, 0, none⟩ (.int .i64 0)
          refine ⟨⟨(hi.1.be.setCell (p := ⟨w.heap.size + 1, 0, none⟩) (by dsimp only; omega) _).setCell (p := ⟨w.heap.size + 2, 0, none⟩) (by dsimp only; omega) _, by rw [World.size_setCell, World.size_setCell]; exact hi.1.sz, (hi.1.kn.kept (lgrown_set W ⟨w.heap.size + 1, 0, none⟩ (.int .i64 (xi : Nat))) (fun e => by injection e with e; dsimp only at e; omega)).kept g2 (fun e => by injection e with e; dsimp only at e; omega), k1.kept g2 (fun e => by injection e with e; dsimp only at e; omega), k3⟩, (KeepsOthers.setCell _ _ _).trans (KeepsOthers.setCell _ _ _)⟩)
        have hpre := Lib.hid hi.2
        have q2 : (W.setCell ⟨w.heap.size + 1, 0, none⟩ (.int .i64 (xi : Nat))).frozen? ⟨w.heap.size + 2, 0, none⟩ = false := (hi.1.ke.kept (lgrown_set W ⟨w.heap.size + 1, 0, none⟩ (.int .i64 (xi : Nat))) (fun e => by injection e with e; dsimp only at e; omega)).frozen 0
        have q3 := (hi.1.ke.kept (lgrown_set W ⟨w.heap.size + 1, 0, none⟩ (.int .i64 (xi : Nat))) (fun e => by injection e with e; dsimp only at e; omega)).cell 0
        simp only [List.getElem?_toArray, List.getElem?_cons_zero] at q3
        clear hi
        gi_wp2_with fail
        exact ⟨hF2.out.2, rfl, pre, _, rfl, hpre.out, hx, .inl ⟨rfl, hF2.out.1⟩⟩
      · have h0b : (xt == 0) = false := by simp [h0]
        have hF2 : Hid (FI w n 0 120 (W.setCell ⟨w.heap.size + 2, 0, none⟩ (.int .i64 120)) ∧ KeepsOthers W (W.setCell ⟨w.heap.size + 2, 0, none⟩ (.int .i64 120))) := Lib.hid (by
          have g2 := lgrown_set W ⟨w.heap.size + 2, 0, none⟩ (.int .i64 120)
          have k3 : Blk (W.setCell ⟨w.heap.size + 2, 0, none⟩ (.int .i64 120)) (w.heap.size + 2) 45 #[.int .i64 120] := by simpa using hi.1.ke.set_ 0 (.int .i64 120)
          exact ⟨⟨hi.1.be.setCell (p := ⟨w.heap.size + 2, 0, none⟩) (by dsimp only; omega) _, by rw [World.size_setCell]; exact hi.1.sz, hi.1.kn.kept g2 (fun e => by injection e with e; dsimp only at e; omega), hi.1.kp.kept g2 (fun e => by injection e with e; dsimp only at e; omega), k3⟩, KeepsOthers.setCell _ _ _⟩)
        have hpre := Lib.hid hi.2
        clear hi
        gi_wp2_with fail
        exact ⟨hF2.out.2, rfl, pre, _, rfl, hpre.out, hx, .inr ⟨h0, hF2.out.1⟩⟩
  case done =>
    rintro D xs W hD rfl hi hDd
    have hfr : Hid (frontR L n = (0, 140)) := Lib.hid (front_none hi.2)
    have p1 := fun m : Nat => (show (W.drewN m).cell? ⟨w.heap.size + 1, 0, none⟩ = some (.int .i64 0) from hi.1.kp.cell 0)
    have p2 := fun m : Nat => (show (W.drewN m).cell? ⟨w.heap.size + 2, 0, none⟩ = some (.int .i64 140) from hi.1.ke.cell 0)
    have hb := Lib.hid hi.1.be
    clear hi
    gi_wp2_with fail
    refine (wpIn_wide).2 ?_
    go_quiet (fail)
    gi_wp2_with fail
    refine leaves_marks [D] (W.drewN nq) ((MarksAt.nil (W.drewN nq) w.heap.size).cons (by omega) hDd (fun E hE => by cases hE)) ⟨_, results_tmp2 rfl _ _ _, ?_⟩
    have hlo : ∀ E ∈ [D], w.heap.size ≤ E := fun E hE => by rw [List.mem_singleton.1 hE]; omega
    refine ⟨by rw [hfr.out]; rfl, (bt hb.out ⟨rfl, rfl, rfl, Nat.le_refl _, fun _ _ => rfl⟩ : Below w.heap.size w (W.drewN nq)).trans (taken_below hlo)⟩
  case stop =>
    rintro D cd xs W hD ⟨i, hi, rfl⟩ ⟨rfl, pre, x, hxs, hpre, hxn, hFI⟩ hDd
    rw [ixs_take L i hi] at hxs
    obtain ⟨rfl, hx⟩ := List.append_inj' hxs rfl
    obtain rfl : (i, L[i]'hi) = x := by simpa using hx
    dsimp only at hxn hFI
    have hfr := front_at hi hpre hxn
    obtain ⟨k, er, hke, hF⟩ : ∃ (k : Nat) (er : Int), frontR L n = (k, er) ∧ FI w n (k : Nat) er W := by
      rcases hFI with ⟨h0, hF⟩ | ⟨h0, hF⟩
      · rw [if_pos h0] at hfr; exact ⟨i, 0, hfr, hF⟩
      · rw [if_neg h0] at hfr; exact ⟨0, 120, hfr, hF⟩
    have Hfr := Lib.hid hke
    have p1 := fun m : Nat => (show (W.drewN m).cell? ⟨w.heap.size + 1, 0, none⟩ = some (.int .i64 (k : Nat)) from hF.kp.cell 0)
    have p2 := fun m : Nat => (show (W.drewN m).cell? ⟨w.heap.size + 2, 0, none⟩ = some (.int .i64 er) from hF.ke.cell 0)
    have hb := Lib.hid hF.be
    clear hF hFI hfr hxn hpre hxs hx hke
    refine wpIn_exit ?_
    gi_wp2_with fail
    refine (wpIn_wide).2 ?_
    go_quiet (fail)
    gi_wp2_with fail
    refine leaves_marks [D] (W.drewN nq) ((MarksAt.nil (W.drewN nq) w.heap.size).cons (by omega) hDd (fun E hE => by cases hE)) ⟨_, results_tmp2 rfl _ _ _, ?_⟩
    have hlo : ∀ E ∈ [D], w.heap.size ≤ E := fun E hE => by rw [List.mem_singleton.1 hE]; omega
    refine ⟨by rw [Hfr.out]; rfl, (bt hb.out ⟨rfl, rfl, rfl, Nat.le_refl _, fun _ _ => rfl⟩ : Below w.heap.size w (W.drewN nq)).trans (taken_below hlo)⟩
end Go.Proofs.YtlliaihmfimdoaaGreat.Qu

namespace Go.Proofs.YtlliaihmfimdoaaGreat.Qu
open Go.RowKit Go.Shelf Go.Maps
attribute [local go_sem] Oper.semAt_some
set_option linter.unusedVariables false
set_option linter.unusedSimpArgs false

theorem giveI_app : ∀ (a : List IT) (x : IT) (b : List IT) (n : Int), giveI (a ++ x :: b) a.length n = a ++ { x with t := n } :: b
  | [], _, _, _ => rfl
  | y :: a, x, b, n => by
    have := giveI_app a x b n
    unfold giveI at this ⊢
    simp only [List.cons_append, List.length_cons, List.modify_succ_cons, this]
def freeI (n : Int) (x : IT) : IT := if x.t = n then { x with t := 0 } else x
def backI (L : List IT) (n : Int) (i : Nat) : List IT := (L.take i).map (freeI n) ++ L.drop i
theorem backI_len (L : List IT) (n : Int) (i : Nat) : (backI L n i).length = L.length := by
  unfold backI; rw [List.length_append, List.length_map, List.length_take, List.length_drop]; omega
theorem backI_step (L : List IT) (n : Int) (i : Nat) (h : i < L.length) : backI L n (i + 1) = if (L[i]'h).t = n then giveI (backI L n i) i 0 else backI L n i := by
  have e1 : L.drop i = L[i]'h :: L.drop (i + 1) := List.drop_eq_getElem_cons h
  have e2 : L.take (i + 1) = L.take i ++ [L[i]'h] := by rw [List.take_add_one, List.getElem?_eq_getElem h]; rfl
  have hl : ((L.take i).map (freeI n)).length = i := by rw [List.length_map, List.length_take]; omega
  have e3 : backI L n i = (L.take i).map (freeI n) ++ L[i]'h :: L.drop (i + 1) := by unfold backI; rw [e1]
  have e4 : backI L n (i + 1) = (L.take i).map (freeI n) ++ freeI n (L[i]'h) :: L.drop (i + 1) := by unfold backI; rw [e2, List.map_append, List.append_assoc]; rfl
  rw [e3, e4]
  unfold freeI
  split
  · rename_i ht
    have := giveI_app ((L.take i).map (freeI n)) (L[i]'h) (L.drop (i + 1)) 0
    rw [hl] at this
    exact this.symm
  · rfl
theorem backI_all (L : List IT) (n : Int) : backI L n L.length = L.map (freeI n) := by unfold backI; simp
/-- Under way in Backout. -/
structure BO (w W : World) (g of : Nat) (tt : TypeId) (cs : Array Value) (S : QS) (N : Nat) (n : Int) (i : Nat) : Prop where
  qo : ∃ v, QAt W g of tt (cs.setIfInBounds of v) { S with I := backI S.I n i } N
  gr : w.grownBy W (some g)
  sz : w.heap.size + 2 ≤ W.heap.size
  kq : Blk W w.heap.size 141 #[.pointer (some ⟨g, of, none⟩)]
  kn : Blk W (w.heap.size + 1) 3 #[.int .i64 n]
theorem BO.bel {w W W' : World} {g of : Nat} {tt : TypeId} {cs : Array Value} {S : QS} {N : Nat} {n : Int} {i : Nat} (h : BO w W g of tt cs S N n i) (hb : Below W.heap.size W W') : BO w W' g of tt cs S N n i :=
  ⟨h.qo.elim fun c hq => ⟨c, hq.below hb⟩, h.gr.trans (lbelow_grown hb _), Nat.le_trans h.sz hb.size, h.kq.below hb h.kq.lt, h.kn.below hb h.kn.lt⟩
theorem QAt.put {W : World} {g of N : Nat} {tt : TypeId} {cs : Array Value} {S : QS} {l : Nat} {o o' : Obj} (h : QAt W g of tt cs S N) (ho : W.heap[l]? = some o) (hc : o.isCells = false) (hm : ∀ b, cs[of + 2]? = some (.map (some b)) → b ≠ l) : QAt (W.putObj l o') g of tt cs S N := by
  have hb : ∀ (k : Nat) (cs : Array Value) (t : TypeId) (fz : Nat × Nat), W.heap[k]? = some (.cells cs t fz) → (W.putObj l o').heap[k]? = W.heap[k]? := fun k cs t fz e => World.putObj_heap_other (fun e2 => by subst e2; rw [e] at ho; cases ho; cases hc)
  obtain ⟨h1, h2, ⟨A, n, c, a1, a2, a3, a4, a5⟩, h3, ⟨m, G, h4, h5, h6⟩, h7, h8, h9⟩ := h
  refine ⟨blk_put h1 ho hc, h2, ⟨A, n, c, a1, a2, a3, a4, a5.same fun b cs' fz e => hb b cs' _ fz e⟩, h3, ⟨m, G, h4, ?_, h6.same fun A l hc' => hc'.same fun b cs' fz e => hb b cs' _ fz e⟩, h7, h8, h9⟩
  rcases h5 with h5 | ⟨b, D, e, ⟨es, cl, hbk, hr⟩, h'⟩
  · exact .inl h5
  · subst e
    exact .inr ⟨b, D, rfl, ⟨es, cl, (World.putObj_heap_other (hm b h4)).trans hbk, hr⟩, h'⟩
/-- The works' map lies in the old world. -/
theorem QAt.mapLt {w : World} {g of N : Nat} {tt : TypeId} {cs : Array Value} {S : QS} (h : QAt w g of tt cs S N) : ∀ b, cs[of + 2]? = some (.map (some b)) → b < w.heap.size := fun b e => by
  obtain ⟨m, G, h4, h5, h6⟩ := h.wk
  rw [h4] at e
  injection e with e
  injection e with e
  subst e
  rcases h5 with ⟨h5, _⟩ | ⟨b', D, e, ho, _⟩
  · cases h5
  · cases e; exact ho.lt
theorem QAt.mapObj {w : World} {g of N : Nat} {tt : TypeId} {cs : Array Value} {S : QS} (h : QAt w g of tt cs S N) : ∀ b, cs[of + 2]? = some (.map (some b)) → ∃ es cl, w.heap[b]? = some (.map es cl) := fun b e => by
  obtain ⟨m, G, h4, h5, h6⟩ := h.wk
  rw [h4] at e
  injection e with e
  injection e with e
  subst e
  rcases h5 with ⟨h5, _⟩ | ⟨b', D, e, ⟨es, cl, hb, _⟩, _⟩
  · cases h5
  · cases e; exact ⟨es, cl, hb⟩
/-- Behind a loop over the items: its mark is taken away. -/
theorem QAt.marked {W : World} {g of N D : Nat} {tt : TypeId} {cs : Array Value} {S : QS} {x : Option (List Deferred)} (h : QAt W g of tt cs S N) (hD : W.heap[D]? = some (.deferred x)) (o' : Obj) : QAt (W.putObj D o') g of tt cs S N :=
  h.put hD rfl (fun b e e2 => by obtain ⟨es, cl, hb⟩ := h.mapObj b e; subst e2; rw [hD] at hb; cases hb)
theorem set_get {cs : Array Value} {i j : Nat} {v : Value} (h : i ≠ j) : (cs.setIfInBounds i v)[j]? = cs[j]? := Array.getElem?_setIfInBounds_ne h
theorem BO.put {w W : World} {g of : Nat} {tt : TypeId} {cs : Array Value} {S : QS} {N : Nat} {n : Int} {i l : Nat} {o o' : Obj} (h : BO w W g of tt cs S N n i) (hw : ∀ b, cs[of + 2]? = some (.map (some b)) → b < w.heap.size) (hl : w.heap.size ≤ l) (ho : W.heap[l]? = some o) (hc : o.isCells = false) : BO w (W.putObj l o') g of tt cs S N n i := by
  obtain ⟨v, hq⟩ := h.qo
  refine ⟨⟨v, hq.put ho hc (fun b e => ?_)⟩, h.gr.andThen (grownBy_putObj' W l o') (fun j e => by cases e; exact .inl hl), by rw [World.putObj_size]; exact h.sz, blk_put h.kq ho hc, blk_put h.kn ho hc⟩
  rw [set_get (by omega)] at e
  have := hw b e
  omega
end Go.Proofs.YtlliaihmfimdoaaGreat.Qu

namespace Go.Proofs.YtlliaihmfimdoaaGreat.Qu
open Go.RowKit Go.Shelf Go.Maps
attribute [local go_sem] Oper.semAt_some
set_option linter.unusedVariables false
set_option linter.unusedSimpArgs false

theorem backout_nil (n : Int) (w : World) : Calls Tryz.prog 77 #[.pointer none, .int .i64 n] w fun e w' => e = .returned (.int .i64 6) ∧ Below w.heap.size w w' := by
  have b1 : Below w.heap.size w ((w.alloc (.cells #[.pointer none] 141)).alloc (.cells #[.int .i64 n] 3)) := bt (ba _ _) (ba _ _)
  have HB := Lib.hid b1
  clear b1
  go_enter Tryz.func77, Tryz.ntmps77
  go_wp2_with fail
  refine (names_nil n _).mono ?_
  rintro e w1 ⟨rfl, rfl⟩
  go_wp2
  go_ret
  exact ⟨rfl, HB.out⟩
def backM (S : QS) (n : Int) : Int × QS := if n < 1 then (1, S) else (0, { S with I := S.I.map (freeI n), ws := othersQ S.ws n })
set_option maxRecDepth 100000 in
set_option maxHeartbeats 4000000 in
theorem backout_any (g of : Nat) (tt : TypeId) (cs : Array Value) (S : QS) (N : Nat) (n : Int) (w : World) (h : QAt w g of tt cs S N) (hn : i64ok n) :
    Calls Tryz.prog 77 #[.pointer (some ⟨g, of, none⟩), .int .i64 n] w fun e w' => e = .returned (.int .i64 (backM S n).1) ∧ QO w g of tt cs (backM S n).2 N w' := by
  obtain ⟨w5, hw5⟩ : ∃ w5, w5 = (w.alloc (.cells #[.pointer (some ⟨g, of, none⟩)] 141)).alloc (.cells #[.int .i64 n] 3) := ⟨_, rfl⟩
  have s1 : (w.alloc (.cells #[.pointer (some ⟨g, of, none⟩)] 141)).heap.size = w.heap.size + 1 := by simp
  have b5 : Below w.heap.size w w5 := by rw [hw5]; exact bt (ba _ _) (ba _ _)
  have k5a : Blk w5 w.heap.size 141 #[.pointer (some ⟨g, of, none⟩)] := by rw [hw5]; exact (Blk.new _ _ _).alloc _
  have k5b : Blk w5 (w.heap.size + 1) 3 #[.int .i64 n] := by rw [hw5, ← s1]; exact Blk.new _ _ _
  have hsz5 : w5.heap.size = w.heap.size + 2 := by rw [hw5]; simp
  have HN := Lib.hid (names_any g of n w5)
  by_cases h1 : n < 1
  · have hM : backM S n = (1, S) := if_pos h1
    rw [hM]
    have HF := Lib.hid (QO.same h b5)
    have hE : namesE n = 1 := if_pos h1
    rw [hE] at HN
    have e0 := k5a.cell 0
    have e1 := k5b.cell 0
    simp only [List.getElem?_toArray, List.getElem?_cons_zero] at e0 e1
    rw [hw5] at e0 e1
    have HW := Lib.hid hw5
    clear h hM hE b5 k5a k5b hsz5 hw5 s1
    go_enter Tryz.func77, Tryz.ntmps77
    go_wp2_with fail
    rw [← HW.out]
    refine HN.out.mono ?_
    rintro e w1 ⟨rfl, rfl⟩
    go_wp2
    go_ret
    exact ⟨rfl, HF.out⟩
  have hM : backM S n = (0, { S with I := S.I.map (freeI n), ws := othersQ S.ws n }) := if_neg h1
  rw [hM]
  have hE : namesE n = 0 := if_neg h1
  rw [hE] at HN
  obtain ⟨A0, n0, c0, i1, i2, i3, i4, i5⟩ := h.it
  have hn16 : n0 ≤ 48 := by have := h.iv.room; omega
  have HL := Lib.hid i2
  have hmap := h.mapLt
  have hgl := h.lt
  have HI := Lib.hid (fun u (hg : w.grownBy u (some g)) => i5.kept hg h.bk h.ty.2)
  have h5 : BO w w5 g of tt cs S N n 0 := ⟨⟨.slice A0 n0 c0, by rw [set_self i1]; exact h.below b5⟩, lbelow_grown b5 _, by omega, k5a, k5b⟩
  have hs5 : w.heap.size ≤ w5.heap.size := by omega
  have e0 := k5a.cell 0
  have e1 := k5b.cell 0
  have cg : w5.cell? ⟨g, of, none⟩ = some (.slice A0 n0 c0) := ((h.bk.below b5 hgl).cell of).trans i1
  simp only [List.getElem?_toArray, List.getElem?_cons_zero] at e0 e1
  have e0w := e0
  have e1w := e1
  have H := Lib.hid (And.intro h hn)
  have HW := Lib.hid hw5
  rw [hw5] at e0 e1
  clear h hM hE i1 i2 i5 b5 k5a k5b s1 hw5
  refine (callsIn_wide (n := 9)).1 ?_
  refine callsIn_of_wp_marks Tryz.func77 rfl trivial ?_ rfl
  simp only [Tryz.ntmps77, List.size_toArray, List.length_cons, List.length_nil, Nat.reduceAdd, Nat.reduceSub, Array.replicate_succ, Array.replicate_zero, List.push_toArray, List.append_toArray, List.nil_append, List.cons_append]
  gi_wp2_with fail
  rw [← HW.out]
  refine ⟨trivial, ((callsIn_wide).2 HN.out).mono ?_⟩
  rintro e w1 ⟨rfl, rfl⟩
  gi_wp2_with fail
  refine wpIn_rangeFunc_leaveM (F := Fence.wide) rfl (by omega) (gf := 96) (rb := #[.pointer (some ⟨g, of, none⟩)]) (lb := #[]) rfl trivial (enters_of Tryz.func96 (by kernel_rfl) rfl)
    (encs := encI) (fun _ => rfl) (fun _ _ => True) (fun pre W => BO w W g of tt cs S N n pre.length)
    (fun _ _ _ => False) (fun pre x W => ∃ hh : pre.length < S.I.length, x = (pre.length, S.I[pre.length]'hh)) (fun xs => xs.length = S.I.length) (fun _ => True) 49
    (fun _ _ => trivial) (fun _ _ _ _ _ _ _ => trivial)
    (fun s W l o o' hi hl ho hc => hi.put hmap (Nat.le_trans hs5 hl) ho hc) (fun _ _ _ _ _ _ hi _ _ _ => hi)
    (fun o o' => (h5.bel (ba _ _)).bel (ba _ _))
    ?iter (fun pre x a' W => (∃ hh : pre.length < S.I.length, x = (pre.length, S.I[pre.length]'hh)) ∧ ∃ t7, Blk W t7 152 #[.int .i64 x.2.n, .int .u64 (x.2.v : Nat), .int .i64 x.2.t] ∧ a' = { tmps := #[.pointer (some ⟨g, of, none⟩), .int .i64 n, .pointer (some ⟨w.heap.size, 0, none⟩), .pointer (some ⟨w.heap.size + 1, 0, none⟩), .int .i64 0, .int .i64 0, .int .i64 x.1, .pointer (some ⟨t7, 0, none⟩), .pointer (some ⟨g, of, none⟩), .int .i64 n, .int .i64 0, .int .i64 0, .bool false, undef, .pointer (some ⟨g, of, none⟩), .func (.func 96) #[.pointer (some ⟨g, of, none⟩)] #[], .int .i64 x.1, .agg #[.int .i64 x.2.n, .int .u64 (x.2.v : Nat), .int .i64 x.2.t], undef, undef, undef, undef, undef, undef, undef, undef, undef, undef], defers := [] })
    (fun pre x a' W l o o' h hl ho hc => by
      obtain ⟨hx, t7, h1, h3⟩ := h
      exact ⟨hx, t7, blk_put h1 ho hc, h3⟩) ?assign ?body ?done ?stop
  case iter =>
    intro l W1 Z Y hZK hb1 hI1 hz1 hYY
    refine (each_in 8 (by omega) l g of A0 S.I n0 c0 HL (by omega) (fun i W => BO w W g of tt cs S N n i ∧ Z W ∧ i ≤ S.I.length) (fun i W => Y ((ixs S.I).take (i + 1)) W)
      (fun s Wa Wb hb hh => ⟨hh.1.bel hb, hZK _ _ (keepsOthers_below hb) hh.2.1, hh.2.2⟩) (fun s Wa hh => HI.out Wa hh.1.gr) ?_ W1 ((hb1.cell (p := ⟨g, of, none⟩) (by dsimp only; omega)).trans cg) ⟨hI1, hz1, Nat.zero_le _⟩).mono ?_
    · intro i hi Wa hh
      have hpl := ixs_tlen S.I i (by omega)
      have := hYY ((ixs S.I).take i) (i, S.I[i]'hi) Wa (by rw [hpl]; exact hh.1) hh.2.1 ⟨by rw [hpl]; exact hi, by simp only [hpl]⟩ (by rw [hpl]; have := HL.out; omega)
      rw [← ixs_take S.I i hi, ixs_tlen S.I (i + 1) (by omega)] at this
      refine YieldAt.mono this fun e W' hr => ?_
      rcases hr with ⟨h1, h2, h3, _⟩ | hr
      · exact .inl ⟨h1, h2, h3, by omega⟩
      · exact .inr hr
    · rintro e W' ⟨hv, (⟨h1, h2, _⟩ | ⟨i, hi, hy⟩)⟩
      · exact ⟨hv, .inl ⟨ixs S.I, by unfold ixs; exact ixsF_len _ _, by rw [show (ixs S.I).length = S.I.length from ixsF_len _ _]; exact h1, h2⟩⟩
      · exact ⟨hv, .inr ⟨_, trivial, hy⟩⟩
  case assign =>
    rintro l pre x W K hi hx hK
    obtain ⟨xi, xn, xv, xt⟩ := x
    simp [encI, IT.val]
    gi_wp2_with fail
    exact hK _ _ (KeepsOthers.alloc _ _) trivial (hi.bel (ba _ _)) ⟨hx, _, Blk.new _ _ _, rfl⟩
  case body =>
    rintro l pre x a' W hl _ hi ⟨⟨hh, hx⟩, t7, h1, rfl⟩ hlen
    have hstep := backI_step S.I n pre.length hh
    have hpl : (pre ++ [x]).length = pre.length + 1 := by simp
    obtain ⟨pl, hpe⟩ : ∃ pl, pl = pre.length := ⟨_, rfl⟩
    obtain ⟨y, hy⟩ : ∃ y, y = S.I[pre.length]'hh := ⟨_, rfl⟩
    rw [← hy] at hx hstep
    rw [← hpe] at hi hx hstep hpl hh
    subst hx
    obtain ⟨xn, xv, xt⟩ := y
    dsimp only at h1 hstep
    have q0 := hi.kq.cell 0
    have q1 := hi.kn.cell 0
    have q2 := h1.cell 2
    simp only [List.getElem?_toArray, List.getElem?_cons_zero, List.getElem?_cons_succ] at q0 q1 q2
    by_cases hxn : xt = n
    · subst hxn
      rw [if_pos rfl] at hstep
      obtain ⟨v, hq⟩ := hi.qo
      have hcall := give_ex g of tt _ _ N pl 0 W hq (by dsimp only; rw [backI_len]; exact hh)
      dsimp only at hcall
      rw [← hstep] at hcall
      have HC := Lib.hid hcall
      have HB := Lib.hid (And.intro hi (And.intro hpl (And.intro hq.bk hgl)))
      clear hcall hi hstep hy hpe hq h1 hpl
      gi_wp2_with fail
      refine ⟨trivial, ((callsIn_wide).2 HC.out |>.inRound l).mono ?_⟩
      rintro e W3 ⟨rfl, ⟨v', hq3⟩, hg3⟩
      have hres : Hid (KeepsOthers W W3 ∧ BO w W3 g of tt cs S N xt (pre ++ [(pl, (⟨xn, xv, xt⟩ : IT))]).length) := Lib.hid (by
        obtain ⟨hi, hpl, hbk, _⟩ := HB.out
        rw [hpl]
        refine ⟨KeepsOthers.of_grownBy hg3 (fun j ob hj hob => ?_), ⟨v', ?_⟩, hi.gr.trans hg3, Nat.le_trans hi.sz hg3.size, hi.kq.kept hg3 (fun e => by injection e; omega), hi.kn.kept hg3 (fun e => by injection e; omega)⟩
        · cases hj
          unfold Blk at hbk
          rw [hbk] at hob
          cases hob
          rfl
        · have e : (cs.setIfInBounds of v).setIfInBounds of v' = cs.setIfInBounds of v' := by simp
          rwa [e] at hq3)
      clear hq3 hg3 q0 q1 q2
      gi_wp2_with fail
      exact ⟨hres.out.1, trivial, hres.out.2⟩
    · rw [if_neg hxn] at hstep
      have hb : (xt == n) = false := by simp [hxn]
      have hres : Hid (BO w W g of tt cs S N n (pre ++ [(pl, (⟨xn, xv, xt⟩ : IT))]).length) := Lib.hid (by
        rw [hpl]
        obtain ⟨v, hq⟩ := hi.qo
        exact ⟨⟨v, by rw [hstep]; exact hq⟩, hi.gr, hi.sz, hi.kq, hi.kn⟩)
      clear hi hstep hy hpe h1 hpl
      gi_wp2_with fail
      exact ⟨KeepsOthers.refl _, trivial, hres.out⟩
  case done =>
    rintro D xs W hD hxl hi hDd
    rw [hxl] at hi
    obtain ⟨v, hq⟩ := hi.qo
    rw [backI_all] at hq
    have q0 := hi.kq.cell 0
    have q1 := hi.kn.cell 0
    simp only [List.getElem?_toArray, List.getElem?_cons_zero] at q0 q1
    have HD := Lib.hid (drop_any g of tt _ _ N n W hq H.out.2)
    have HB := Lib.hid (And.intro hi.gr (And.intro hDd hi.sz))
    have hDw : w.heap.size ≤ D := by omega
    clear hi hq
    gi_wp2_with fail
    refine ⟨trivial, ((callsIn_wide).2 HD.out).mono ?_⟩
    rintro e W3 ⟨rfl, ⟨⟨cs', hq3, hkp⟩, hg3⟩⟩
    have HF := Lib.hid (And.intro hq3 (And.intro hkp hg3))
    have hDd3 : W3.heap[D]? = some (.deferred (some [])) := (hg3.block D (Array.getElem?_eq_some_iff.1 HB.out.2.1).1 (fun e => by injection e; omega)).trans HB.out.2.1
    clear hq3 hkp hg3 q0 q1
    gi_wp2_with fail
    refine leaves_marks [D] W3 ((MarksAt.nil W3 w.heap.size).cons hDw hDd3 (fun E hE => by cases hE)) ⟨_, results_tmp rfl _ _ _, ?_⟩
    refine ⟨rfl, ⟨cs', HF.out.1.marked hDd3 _, (Keep3.set cs of (.inl rfl) v).trans HF.out.2.1⟩, (HB.out.1.trans HF.out.2.2).andThen (grownBy_putObj' W3 D _) (fun j e => by cases e; exact .inl hDw)⟩
  case stop =>
    rintro D cd xs W hD _ hf
    exact hf.elim
end Go.Proofs.YtlliaihmfimdoaaGreat.Qu
