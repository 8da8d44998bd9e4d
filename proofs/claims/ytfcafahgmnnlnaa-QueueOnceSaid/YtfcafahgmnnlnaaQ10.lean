/- Layer 14: an item is given; a change is laid behind a work's others. -/
import Derived.Test.YtfcafahgmnnlnaaQ9
import Derived.Test.YtfcafahgmnnlnaaInvU
namespace Go.Proofs.Ytfcafahgmnnlnaa.Qu
open Go.RowKit Go.Maps
set_option linter.unusedVariables false
set_option linter.unusedSimpArgs false

def giveI (L : List IT) (i : Nat) (n : Int) : List IT := L.modify i fun x => { x with t := n }
theorem giveI_len (L : List IT) (i : Nat) (n : Int) : (giveI L i n).length = L.length := by unfold giveI; simp
theorem itV_set_t : ∀ (l : List IT) (i : Nat) (h : i < l.length) (n : Int), (itV l).set (i * 3 + 2) (.int .i64 n) = itV (giveI l i n)
  | x :: l, 0, _, n => rfl
  | x :: l, i + 1, h, n => by
    have := itV_set_t l i (by simpa using h) n
    rw [show (i + 1) * 3 + 2 = i * 3 + 2 + 3 by omega]
    unfold giveI at this ⊢
    simp only [itV, List.modify_succ_cons, List.set_cons_succ, this]
theorem OwnI.capB {u : World} {B : Nat} {A : Option Addr} {c : Nat} {l : List IT} (h : OwnI u B A c l) : l.length ≤ c ∧ c ≤ 9223372036854775807 := by
  obtain ⟨_, ⟨h1, h2⟩ | ⟨g, cap, cur, e, _, _, hle, hm, _⟩⟩ := h
  · injection h1 with _ e2 e3
    rw [h2, e3]; exact ⟨Nat.zero_le _, by omega⟩
  · cases e; unfold maxLen at hm; exact ⟨hle, by omega⟩
/-- The items have turned. -/
theorem QAt.itemed {w w' : World} {g of N : Nat} {tt : TypeId} {cs : Array Value} {S : QS} {I' : List IT} (h : QAt w g of tt cs S N) (hg : w.grownBy w' (some g)) {A : Option Addr} {n c : Nat} (hb : Blk w' g tt (cs.setIfInBounds of (.slice A n c))) (hn : n = I'.length) (hc : n ≤ c ∧ c ≤ 9223372036854775807) (hi : ItAt w' anyB A I') (hiv : QInv { S with I := I' }) : QAt w' g of tt (cs.setIfInBounds of (.slice A n c)) { S with I := I' } N := by
  obtain ⟨h1, h2, ⟨A0, n0, c0, a1, a2, a3, a4, a5⟩, h3, ⟨m, G, h4, h5, h6⟩, h7, h8, h9⟩ := h
  refine ⟨hb, h2, ⟨A, n, c, set_at a1, hn, hc.1, hc.2, hi⟩, ?_, ⟨m, G, ?_, h5.kept hg h1, h6.same fun A l hc => hc.kept hg h1 h2.1⟩, h7, h8, hiv⟩
  · rw [Array.getElem?_setIfInBounds_ne (by omega)]; exact h3
  · rw [Array.getElem?_setIfInBounds_ne (by omega)]; exact h4
set_option maxRecDepth 100000 in
set_option maxHeartbeats 2000000 in
theorem give_ex (g of : Nat) (tt : TypeId) (cs : Array Value) (S : QS) (N : Nat) (i : Nat) (n : Int) (w : World) (h : QAt w g of tt cs S N) (hi : i < S.I.length) :
    Calls Try.prog 40 #[.pointer (some ⟨g, of, none⟩), .int .i64 (i : Nat), .int .i64 n] w fun e w' => e = .returned (.tuple #[]) ∧ (∃ v, QAt w' g of tt (cs.setIfInBounds of v) { S with I := giveI S.I i n } N) ∧ w.grownBy w' (some g) := by
  obtain ⟨A0, n0, c0, i1, i2, i3, i4, i5⟩ := h.it
  have hn16 : n0 ≤ 48 := by have := h.iv.room; omega
  have d0 := (h.bk.cell of).trans i1
  have HC := Lib.hid (iclone_any A0 S.I n0 c0 w (Lib.hid i2) (Lib.hid (by omega)) i5)
  have hin : i < n0 := by omega
  have hiI : (i : Int) < (n0 : Int) := by omega
  have H := Lib.hid (And.intro h (And.intro i2 (And.intro i1 hi)))
  clear h i1 i2 i5
  go_enter Try.func40, Try.ntmps40
  go_wp2_with fail
  refine HC.out.mono ?_
  rintro e w1 ⟨A2, c2, rfl, own, b1⟩
  obtain ⟨ob, cap, e⟩ := Joins.ownsRow_form own (by omega)
  cases e
  unfold OwnI at own
  rw [← H.out.2.1] at own
  obtain ⟨hoB, hol⟩ := own.lt ob rfl
  have hgl := H.out.1.lt
  have c1 : ∃ v, w1.cell? ⟨ob, i * 3 + 2, none⟩ = some v := by
    obtain ⟨_, _, a3⟩ := itV_at S.I i H.out.2.2.2
    exact ⟨_, (own.cellAt (i * 3 + 2) (by omega)).trans a3⟩
  obtain ⟨u1, c1⟩ := c1
  have f1 := own.frozenAt (i * 3 + 2)
  have st := own.stored (i * 3 + 2) (.int .i64 n)
  rw [itV_set_t S.I i H.out.2.2.2 n] at st
  obtain ⟨w2, hw2⟩ : ∃ w2, w2 = w1.setCell ⟨ob, i * 3 + 2, none⟩ (.int .i64 n) := ⟨_, rfl⟩
  rw [← hw2] at st
  have hgo : g ≠ ob := by omega
  have b2 : Below w.heap.size w w2 := b1.grown st.2 b1.size (fun r e => by cases e; exact hoB)
  have k2 := H.out.1.bk.below b2 hgl
  have e1 := (k2.cell of).trans H.out.2.2.1
  have f2 := k2.frozen of
  have own2 : OwnI w2 w.heap.size (some ⟨ob, 0, none⟩) c2 (giveI S.I i n) := by unfold OwnI; rw [giveI_len, ← H.out.2.1]; exact st.1
  have hF : Hid ((∃ v, QAt (w2.setCell ⟨g, of, none⟩ (.slice (some ⟨ob, 0, none⟩) n0 c2)) g of tt (cs.setIfInBounds of v) { S with I := giveI S.I i n } N) ∧ w.grownBy (w2.setCell ⟨g, of, none⟩ (.slice (some ⟨ob, 0, none⟩) n0 c2)) (some g)) := Lib.hid (by
    have hgs := lgrown_set w2 ⟨g, of, none⟩ (.slice (some ⟨ob, 0, none⟩) n0 c2)
    have hq2 := H.out.1.below b2
    have hcap := own2.capB
    rw [giveI_len, ← H.out.2.1] at hcap
    refine ⟨⟨_, hq2.itemed (I' := giveI S.I i n) hgs (k2.set_ of _) (by rw [giveI_len]; exact H.out.2.1) hcap ((own2.at_.kept hgs k2 H.out.1.ty.2).mono fun _ _ _ => trivial) ?_⟩, (lbelow_grown b2 (some g)).trans hgs⟩
    exact ⟨by have := H.out.1.iv.room; dsimp only; rw [giveI_len]; exact this, H.out.1.iv.g0, H.out.1.iv.last⟩)
  have HW2 := Lib.hid hw2
  rw [hw2] at e1 f2
  clear own st b1 b2 k2 own2 hw2 hoB hol d0
  go_wp2
  rw [← HW2.out]
  go_end0
  exact ⟨rfl, hF.out⟩
theorem give_any (g of : Nat) (tt : TypeId) (cs : Array Value) (S : QS) (N : Nat) (i : Nat) (n : Int) (w : World) (h : QAt w g of tt cs S N) (hi : i < S.I.length) :
    Calls Try.prog 40 #[.pointer (some ⟨g, of, none⟩), .int .i64 (i : Nat), .int .i64 n] w fun e w' => e = .returned (.tuple #[]) ∧ QO w g of tt cs { S with I := giveI S.I i n } N w' :=
  (give_ex g of tt cs S N i n w h hi).mono fun e w' hr => ⟨hr.1, ⟨hr.2.1.elim fun v hv => ⟨_, hv, Keep3.set _ _ (.inl rfl) _⟩, hr.2.2⟩⟩
def VAd (w1 : World) (gx q c q1 : Nat) (A : Option Addr) (p : Bool) (l : List Ch) (x : Ch) (j : Nat) (z : Value) (w : World) : Prop :=
  match j with
  | 0 => z = .pointer (some ⟨w1.heap.size, 0, none⟩)
  | 1 => z = .slice A q c
  | 2 => ∃ A2 c2, z = .slice A2 q c2 ∧ OwnC w (w1.heap.size + 1) A2 c2 l
  | 3 => z = .agg #[.int .i64 x.k, .int .i64 x.y, .int .u64 (x.v : Nat)]
  | 4 => ∃ gs, z = .slice (some ⟨gs, 0, none⟩) 1 1 ∧ Blk w gs 49 #[.int .i64 x.k, .int .i64 x.y, .int .u64 (x.v : Nat)] ∧ w1.heap.size + 1 ≤ gs
  | 5 => ∃ A3 c3, z = .slice A3 q1 c3 ∧ OwnC w (w1.heap.size + 1) A3 c3 (l ++ [x])
  | 6 => z = .pointer (some ⟨w1.heap.size, 0, none⟩)
  | 7 => ∃ A3 c3, Blk w w1.heap.size 75 #[.slice A3 q1 c3, .bool p] ∧ OwnC w (w1.heap.size + 1) A3 c3 (l ++ [x])
  | _ => True
def EAd (gw k : Nat) (u u' : World) : Prop := match k with
  | 5 => Below (gw + 1) u u'
  | 7 => u.grownBy u' (some gw)
  | _ => Below u.heap.size u u'
theorem EAd.bel {gw k : Nat} {u u' : World} (h : EAd gw k u u') (h1 : k ≠ 5) (h2 : k ≠ 7) : Below u.heap.size u u' := by
  unfold EAd at h
  split at h
  · exact absurd rfl h1
  · exact absurd rfl h2
  · exact h
theorem OwnC.bel {u u' : World} {B : Nat} {A : Option Addr} {c : Nat} {l : List Ch} (h : OwnC u B A c l) (hb : Below u.heap.size u u') : OwnC u' B A c l := h.kept (lbelow_grown hb none) (fun r e => by cases e)
theorem OwnC.one {u u' : World} {B k : Nat} {A : Option Addr} {c : Nat} {l : List Ch} (h : OwnC u B A c l) (hb : u.grownBy u' (some k)) (hk : k < B) : OwnC u' B A c l := h.kept hb (fun r e => by cases e; exact hk)
theorem VAd.mono {w1 : World} {gx q c q1 : Nat} {A : Option Addr} {p : Bool} {l : List Ch} {x : Ch} {j k : Nat} {z : Value} {u u' : World} (he : EAd w1.heap.size k u u') (hjk : j ≠ k) (hd : ¬ ((j = 2 ∨ j = 4) ∧ k = 5)) (hw : ¬ (j = 7 ∧ k = 5)) (hd5 : ¬ (j = 5 ∧ k = 7)) (h : VAd w1 gx q c q1 A p l x j z u) : VAd w1 gx q c q1 A p l x j z u' := by
  unfold VAd at h ⊢
  split at h
  all_goals first | exact h | skip
  · obtain ⟨A2, c2, e, ho⟩ := h
    by_cases k5 : k = 5
    · exact absurd ⟨.inl rfl, k5⟩ hd
    by_cases k7 : k = 7
    · subst k7; exact ⟨A2, c2, e, Qu.OwnC.one ho he (by omega)⟩
    · exact ⟨A2, c2, e, Qu.OwnC.bel ho (he.bel k5 k7)⟩
  · obtain ⟨gs, e, hk, hle⟩ := h
    by_cases k5 : k = 5
    · exact absurd ⟨.inr rfl, k5⟩ hd
    by_cases k7 : k = 7
    · subst k7; exact ⟨gs, e, hk.kept he (fun e2 => by injection e2; omega), hle⟩
    · exact ⟨gs, e, hk.below (he.bel k5 k7) hk.lt, hle⟩
  · obtain ⟨A3, c3, e, ho⟩ := h
    by_cases k7 : k = 7
    · exact absurd ⟨rfl, k7⟩ hd5
    · exact ⟨A3, c3, e, Qu.OwnC.bel ho (he.bel (fun e => hjk e.symm) k7)⟩
  · obtain ⟨A3, c3, hk, ho⟩ := h
    by_cases k5 : k = 5
    · exact absurd ⟨rfl, k5⟩ hw
    · have hb := he.bel k5 (fun e => hjk e.symm)
      exact ⟨A3, c3, hk.below hb hk.lt, Qu.OwnC.bel ho hb⟩
def TAd (w1 : World) (q c : Nat) (A : Option Addr) (p : Bool) (j : Nat) (u : World) : Prop := match j with
  | 1 => Blk u w1.heap.size 75 #[.slice A q c, .bool p]
  | 7 => Blk u w1.heap.size 75 #[.slice A q c, .bool p]
  | _ => True
theorem TAd.mono {w1 : World} {q c : Nat} {A : Option Addr} {p : Bool} {j k : Nat} {u u' : World} (he : EAd w1.heap.size k u u') (hkj : k ≠ j) (h17 : ¬ (j = 1 ∧ k = 7)) (h : TAd w1 q c A p j u) : TAd w1 q c A p j u' := by
  unfold TAd at h ⊢
  have aux : k ≠ 7 → Blk u w1.heap.size 75 #[.slice A q c, .bool p] → Blk u' w1.heap.size 75 #[.slice A q c, .bool p] := fun k7 hb => by
    by_cases k5 : k = 5
    · subst k5
      have he : Below (w1.heap.size + 1) u u' := he
      exact (he.block _ (by omega)).trans hb
    · exact hb.below (he.bel k5 k7) hb.lt
  split at h
  · exact aux (fun e => h17 ⟨rfl, e⟩) h
  · exact aux hkj h
  · trivial
theorem step_append_run {P : Program} {w : World} {ops : Array Oper} {o : Oper} {a : Act} {K : Act → World → Prop} {Q : Exit → Act → World → Prop} {E : Prop} (hgd : o.guard = none) (s x : Operand) (t : TypeId)
    (ho : o.op = .call { callee := .builtin .append, args := #[s, x], argTypes := #[t, t] }) (sv xv v : Value) (w' : World) (hs : a.eval s = sv) (hx : a.eval x = xv) (hrun : (Builtin.append_ #[t, t] o.type #[sv, xv]).run P w = .ok v w') (h : K (a.put o.dst v) w') :
    if Region.wanted o (yielded ops a.tmps) = true then Oper.wp P o a w K Q else E := by
  have hw : Region.wanted o (yielded ops a.tmps) = true := by simp [Region.wanted, hgd]
  rw [if_pos hw]
  unfold Oper.wp execOp
  simp only [ho, resolve, invoke, builtin, Sem.run_bind, Sem.run_pure, Result.andThen_ok, List.map_toArray, List.map_cons, List.map_nil, hs, hx, hrun]
  exact h

def addQ (ws : List WQ) (n : Int) (x : Ch) : List WQ := layQ ws n ((curQ ws n).1 ++ [x]) (curQ ws n).2
set_option maxRecDepth 100000 in
set_option maxHeartbeats 4000000 in
theorem add_any (g of : Nat) (tt : TypeId) (cs : Array Value) (S : QS) (N : Nat) (n : Int) (x : Ch) (w : World) (h : QAt w g of tt cs S N) (hN : N < 300000) (hn : i64ok n) (hB : ∀ b, w.heap.size ≤ b → S.B b) (hiv : QInv { S with ws := addQ S.ws n x }) :
    Calls Try.prog 44 #[.pointer (some ⟨g, of, none⟩), .int .i64 n, .agg #[.int .i64 x.k, .int .i64 x.y, .int .u64 (x.v : Nat)]] w fun e w' => e = .returned (.tuple #[]) ∧ QO w g of tt cs { S with ws := addQ S.ws n x } (N + 1) w' := by
  obtain ⟨m, A, q, c, h32, hq, hc, r1, _⟩ := h.look hn
  have hlen : (curQ S.ws n).1.length ≤ N := by
    unfold curQ lookQ
    rcases hf : findQ S.ws n with _ | y
    · exact Nat.zero_le _
    · exact (h.le y (findQ_mem hf).1).1
  obtain ⟨w1, hw1⟩ : ∃ w1, w1 = w.alloc (.cells #[.int .i64 x.k, .int .i64 x.y, .int .u64 (x.v : Nat)] 49) := ⟨_, rfl⟩
  have b1 : Below w.heap.size w w1 := by rw [hw1]; exact ba _ _
  have k1 : Blk w1 w.heap.size 49 #[.int .i64 x.k, .int .i64 x.y, .int .u64 (x.v : Nat)] := by rw [hw1]; exact Blk.new _ _ _
  have hs1 : w1.heap.size = w.heap.size + 1 := by rw [hw1]; simp
  unfold addQ at hiv ⊢
  obtain ⟨cl, hcl⟩ : ∃ cl, cl = curQ S.ws n := ⟨_, rfl⟩
  rw [← hcl] at hq hc r1 hlen hiv ⊢
  obtain ⟨l, p⟩ := cl
  dsimp only at hq hc r1 hlen hiv ⊢
  have c32 := ((h.below b1).bk.cell (of + 2)).trans h32
  have r1' := ((h.below b1).look hn)
  have hl1 : (Instr.lookup 52 (.map m) (.int .i64 n) false).run Try.prog w1 = .ok (.agg #[.slice A q c, .bool p]) w1 := by
    obtain ⟨m', G, h4, h5, h6⟩ := h.wk
    have em : m' = m := by rw [h4] at h32; injection h32 with h32; injection h32
    subst em
    have z1 := h5.look 52 75 Try.underlying52 (z := .agg #[.slice none 0 0, .bool false]) rfl (Try.zeroValue75 w) hn
    have z2 := (h5.below b1).look 52 75 Try.underlying52 (z := .agg #[.slice none 0 0, .bool false]) rfl (Try.zeroValue75 w1) hn
    rw [z1] at r1
    injection r1 with r1
    rw [z2, r1]
  obtain ⟨w2, hw2⟩ : ∃ w2, w2 = w1.alloc (.cells #[.slice A q c, .bool p] 75) := ⟨_, rfl⟩
  have b2 : Below w1.heap.size w1 w2 := by rw [hw2]; exact ba _ _
  have k2 : Blk w2 w1.heap.size 75 #[.slice A q c, .bool p] := by rw [hw2]; exact Blk.new _ _ _
  have hs2 : w2.heap.size = w1.heap.size + 1 := by rw [hw2]; simp
  obtain ⟨gx, hgx⟩ : ∃ gx, gx = w.heap.size := ⟨_, rfl⟩
  rw [← hgx] at k1
  have HW1 := Lib.hid hw1
  have HW2 := Lib.hid hw2
  have Hgx := Lib.hid hgx
  have HcL := Lib.hid (hc.below b1)
  have HK1 := Lib.hid k1
  have H := Lib.hid (And.intro h (And.intro b1 (And.intro hn (And.intro hB (And.intro hiv (And.intro hlen hq))))))
  have hqN : q ≤ 300000 := by omega
  have hgl := h.lt
  have HS := Lib.hid (And.intro hs1 (And.intro hs2 hgl))
  have hgx1 : gx < w1.heap.size := by omega
  obtain ⟨q1, hq1⟩ : ∃ q1, q1 = q + 1 := ⟨_, rfl⟩
  have Hq1 := Lib.hid hq1
  rw [hw1] at c32 hl1
  clear h hw1 hw2 hgx hc b1 r1 hn hB hiv hlen k1 r1' hq h32 hs1 hs2 hgl hcl hq1
  go_enter Try.func44, Try.ntmps44
  go_wp2_with fail
  rw [← HW1.out, ← HW2.out]
  clear c32 hl1
  have es : w.heap.size + 1 = w1.heap.size := HS.out.1.symm
  rw [es, ← Hgx.out]
  refine wp_region_invU (F := ?FD) (V := VAd w1 gx q c q1 A p l x) (dead := fun j => if j = 2 ∨ j = 4 then some 5 else if j = 5 then some 7 else none) (T := TAd w1 q c A p) (C := fun u => Below w1.heap.size w1 u ∧ w1.heap.size + 1 ≤ u.heap.size) (E := EAd w1.heap.size) (by kernel_rfl) (by kernel_rfl) (by kernel_rfl) (fun x_1 => ?hFD) ?hmonoD ?hTmD ?hTD ?hCD ?stepD ?finD
  case hFD => simp only [mkA, Act.put, List.setIfInBounds_toArray, List.set_cons_succ, List.set_cons_zero, Nat.reduceAdd, Nat.zero_add]; first | with_reducible rfl | rfl
  case hmonoD => exact fun k' j z u u' he hjk hwt hdd hv => VAd.mono he hjk (fun hh => hdd (by rcases hh with ⟨rfl | rfl, rfl⟩ <;> rfl)) (fun hh => by rcases hh with ⟨rfl, rfl⟩; rw [show waitsU _ 7 5 = true by kernel_rfl] at hwt; cases hwt) (fun hh => hdd (by rcases hh with ⟨rfl, rfl⟩; rfl)) hv
  case hTmD => exact fun k' j u u' he hkj hwt hv => TAd.mono he hkj (fun hh => by rcases hh with ⟨rfl, rfl⟩; rw [show waitsU _ 7 1 = true by kernel_rfl] at hwt; cases hwt) hv
  case hTD => exact fun j => by unfold TAd; split <;> first | exact k2.below (Below.refl _ _).drew k2.lt | trivial
  case hCD => exact ⟨b2.drew, by show w1.heap.size + 1 ≤ w2.heap.size; have := HS.out.2.1; omega⟩
  case stepD =>
    refine AllOps.cons (fun x_1 u hC hT hp K hK => ?_) ?_
    · clear hp hT
      go_simp
      refine hK _ _ _ hC (Below.refl _ _) (by exact rfl) ?_
      first | (simp only [Act.put, List.setIfInBounds_toArray, List.set_cons_succ, List.set_cons_zero]; done) | simp [Act.put]
    refine AllOps.cons (fun x_1 u hC hT hp K hK => ?_) ?_
    · simp [KnownTill, Region.binds, VAd] at hp
      have cc := (show Blk u w1.heap.size 75 #[.slice A q c, .bool p] from hT).cell 0
      simp only [List.getElem?_toArray, List.getElem?_cons_zero, List.getElem?_cons_succ] at cc
      clear hT
      go_simp
      refine hK _ _ _ hC (Below.refl _ _) (by exact rfl) ?_
      first | (simp only [Act.put, List.setIfInBounds_toArray, List.set_cons_succ, List.set_cons_zero, hp]; done) | simp [Act.put, hp]
    refine AllOps.cons (fun x_1 u hC hT hp K hK => ?_) ?_
    · simp [KnownTill, Region.binds, VAd] at hp
      clear hT
      go_simp
      refine (cclone_any A l q c u (Lib.hid H.out.2.2.2.2.2.2) (Lib.hid (by omega)) (HcL.out.below (show Below w1.heap.size w1 u from hC.1))).mono ?_
      rintro e wA ⟨A2, c2, rfl, own2, bA⟩
      refine hK _ _ _ ⟨bt hC.1 bA, Nat.le_trans hC.2 bA.size⟩ bA ⟨A2, c2, rfl, own2.less hC.2⟩ ?_
      first | (simp only [Act.put, List.setIfInBounds_toArray, List.set_cons_succ, List.set_cons_zero, hp]; done) | simp [Act.put, hp]
    refine AllOps.cons (fun x_1 u hC hT hp K hK => ?_) ?_
    · clear hp hT
      have kx := HK1.out.below (show Below w1.heap.size w1 u from hC.1) HK1.out.lt
      have q0 := kx.cell 0
      have q1' := kx.cell 1
      have q2 := kx.cell 2
      simp only [List.getElem?_toArray, List.getElem?_cons_zero, List.getElem?_cons_succ] at q0 q1' q2
      go_simp
      refine hK _ _ _ hC (Below.refl _ _) (by exact rfl) ?_
      first | (simp only [Act.put, List.setIfInBounds_toArray, List.set_cons_succ, List.set_cons_zero]; done) | simp [Act.put]
    refine AllOps.cons (fun x_1 u hC hT hp K hK => ?_) ?_
    · simp [KnownTill, Region.binds, VAd] at hp
      clear hT
      have kn := Blk.new u 49 #[.int .i64 x.k, .int .i64 x.y, .int .u64 (x.v : Nat)]
      go_simp
      refine hK (.slice (some ⟨u.heap.size, 0, none⟩) 1 1) _ _ ⟨bt hC.1 (ba _ _), by have := hC.2; simp; omega⟩ (ba _ _) ⟨u.heap.size, rfl, kn, hC.2⟩ ?_
      first | (simp only [Act.put, List.setIfInBounds_toArray, List.set_cons_succ, List.set_cons_zero, hp]; done) | simp [Act.put, hp]
    refine AllOps.cons (fun x_1 u hC hT hp K hK => ?_) ?_
    · simp [KnownTill, Region.binds, VAd] at hp
      clear hT
      obtain ⟨A2, c2, h2, own2⟩ : ∃ A2 c2, x_1 2 = .slice A2 q c2 ∧ OwnC u (w1.heap.size + 1) A2 c2 l := by first | exact hp.1 | exact hp.2 | exact hp.2.1
      obtain ⟨gs, h4, hgs, hgl⟩ : ∃ gs, x_1 4 = .slice (some ⟨gs, 0, none⟩) 1 1 ∧ Blk u gs 49 #[.int .i64 x.k, .int .i64 x.y, .int .u64 (x.v : Nat)] ∧ w1.heap.size + 1 ≤ gs := by first | exact hp.2 | exact hp.2.1 | exact hp.1
      obtain ⟨A3, c3, w8, hrun, own8, g8, hat8⟩ := ch_app own2 (some ⟨gs, 0, none⟩) 1 [x] q 1 H.out.2.2.2.2.2.2 rfl (fun b o e i hi => by cases e; have hi0 : i = 0 := (by simpa using hi); subst hi0; exact ⟨hgs.cell 0, hgs.cell 1, hgs.cell 2⟩) (fun _ => ⟨_, _, rfl⟩) (by have := own2.cap; have := H.out.2.2.2.2.2.2; omega) (by have := H.out.2.2.2.2.2.2; simp; omega) hC.2
      rw [← Hq1.out] at hrun
      have b8 : Below (w1.heap.size + 1) u w8 := ⟨g8.os, g8.tape, g8.output, g8.size, fun k hk => g8.block k (by have := hC.2; omega) (fun e => by have := (own2.lt' _ e.symm).1; omega)⟩
      refine step_append_run rfl (.tmp 15) (.tmp 17) 32 rfl (.slice A2 q c2) (.slice (some ⟨gs, 0, none⟩) 1 1) _ w8 (by show x_1 2 = _; exact h2) (by show x_1 4 = _; exact h4) hrun ?_
      refine hK _ _ _ ⟨⟨g8.os.trans hC.1.os, g8.tape.trans hC.1.tape, g8.output.trans hC.1.output, Nat.le_trans hC.1.size g8.size, fun k hk => (b8.block k (by omega)).trans (hC.1.block k hk)⟩, Nat.le_trans hC.2 g8.size⟩ b8 ⟨A3, c3, rfl, own8⟩ rfl
    refine AllOps.cons (fun x_1 u hC hT hp K hK => ?_) ?_
    · clear hp hT
      go_simp
      refine hK _ _ _ hC (Below.refl _ _) (by exact rfl) ?_
      first | (simp only [Act.put, List.setIfInBounds_toArray, List.set_cons_succ, List.set_cons_zero]; done) | simp [Act.put]
    refine AllOps.cons (fun x_1 u hC hT hp K hK => ?_) ?_
    · simp [KnownTill, Region.binds, VAd] at hp
      obtain ⟨A3, c3, h5, own3⟩ : ∃ A3 c3, x_1 5 = .slice A3 q1 c3 ∧ OwnC u (w1.heap.size + 1) A3 c3 (l ++ [x]) := by first | exact hp.1 | exact hp.2 | exact hp.2.1 | exact hp.2.2.1
      have h6 : x_1 6 = .pointer (some ⟨w1.heap.size, 0, none⟩) := by first | exact hp.2 | exact hp.1 | exact hp.2.1 | exact hp.2.2 | exact hp.2.2.1
      have kw : Blk u w1.heap.size 75 #[.slice A q c, .bool p] := hT
      have cc := kw.cell 0
      have ff := kw.frozen 0
      simp only [List.getElem?_toArray, List.getElem?_cons_zero, List.getElem?_cons_succ] at cc
      have kF : Blk (u.setCell ⟨w1.heap.size, 0, none⟩ (.slice A3 q1 c3)) w1.heap.size 75 #[.slice A3 q1 c3, .bool p] := by simpa using kw.set_ 0 (.slice A3 q1 c3)
      have gF := lgrown_set u ⟨w1.heap.size, 0, none⟩ (.slice A3 q1 c3)
      have oF := Qu.OwnC.one own3 gF (by dsimp only; omega)
      clear kw hT
      go_simp
      refine hK undef _ _ ⟨hC.1.setCell (p := ⟨w1.heap.size, 0, none⟩) (Nat.le_refl _) _, by rw [World.size_setCell]; exact hC.2⟩ gF ⟨A3, c3, kF, oF⟩ ?_
      first | (simp only [Act.put, List.setIfInBounds_toArray, List.set_cons_succ, List.set_cons_zero, hp, h5, h6]; done) | simp [Act.put, hp, h5, h6]
    exact AllOps.nil
  case finD =>
    intro x_1 u hC hV
    obtain ⟨A3, c3, kF, oF⟩ := hV 7 (by decide) rfl
    have e0 := kF.cell 0
    have e1 := kF.cell 1
    simp only [List.getElem?_toArray, List.getElem?_cons_zero, List.getElem?_cons_succ] at e0 e1
    have hu : Below w1.heap.size w1 u := hC.1
    have hbu : Below w.heap.size w u := bt H.out.2.1 hu
    have hcu : ChAt u S.B A3 (l ++ [x]) := oF.at_.mono fun b hb _ => H.out.2.2.2.1 b (by have := H.out.2.1.size; have hb : w1.heap.size + 1 ≤ b := hb; omega)
    have HL := Lib.hid (lay_any g of tt cs S N n A3 (l ++ [x]) q1 c3 p u (H.out.1.below hbu) (by omega) H.out.2.2.1 (by rw [Hq1.out, H.out.2.2.2.2.2.2]; simp) (by have := H.out.2.2.2.2.2.1; simp; exact this) hcu H.out.2.2.2.2.1)
    have HB := Lib.hid hbu
    clear hV hC kF oF hu hbu hcu k2 b2
    go_wp2_with fail
    refine HL.out.mono ?_
    rintro e w9 ⟨rfl, ⟨⟨cs', hk, hkp⟩, hg⟩⟩
    have HF : Hid (QO w g of tt cs { S with ws := layQ S.ws n (l ++ [x]) p } (N + 1) w9) := Lib.hid ⟨⟨cs', hk, hkp⟩, (lbelow_grown HB.out (some g)).trans hg⟩
    clear hk hkp hg e0 e1
    go_wp2
    go_end0
    exact ⟨rfl, HF.out⟩
end Go.Proofs.Ytfcafahgmnnlnaa.Qu
