/- Parts Q10 Q11 Q12 Q13 of one proof. -/
import Derived.Test.YtlliaihmfimdoaaMg17
import Derived.Deep.QuietTactic
import Derived.BigQuiet
namespace Go.Proofs.Ytlliaihmfimdoaa.Qu
open Go.RowKit Go.Maps
set_option linter.unusedVariables false
set_option linter.unusedSimpArgs false

def giveI (L : List IT) (i : Nat) (n : Int) : List IT := L.modify i fun x => { x with t := n }
theorem giveI_len (L : List IT) (i : Nat) (n : Int) : (giveI L i n).length = L.length := by unfold giveI; simp
theorem itV_set_t : ∀ (l : List IT) (i : Nat) (h : i < l.length) (n : Int), (itV l).set (i * 3 + 2) (.int .i64 n) = itV (giveI l i n)
  | x :: l, 0, _, n => rfl
  | x :: l, i + 1, h, n => by
    have := itV_set_t l i (by simpa using h) n
    rw [show (i + 1) * 3 + 2 = i * 3 + 2 + 3 by omega]
    unfold giveI at this ⊢
    simp only [itV, List.modify_succ_cons, List.set_cons_succ, this]
theorem OwnI.capB {u : World} {B : Nat} {A : Option Addr} {c : Nat} {l : List IT} (h : OwnI u B A c l) : l.length ≤ c ∧ c ≤ 9223372036854775807 := by
  obtain ⟨_, ⟨h1, h2⟩ | ⟨g, cap, cur, e, _, _, hle, hm, _⟩⟩ := h
  · injection h1 with _ e2 e3
    rw [h2, e3]; exact ⟨Nat.zero_le _, by omega⟩
  · cases e; unfold maxLen at hm; exact ⟨hle, by omega⟩
/-- The items have turned. -/
theorem QAt.itemed {w w' : World} {g of N : Nat} {tt : TypeId} {cs : Array Value} {S : QS} {I' : List IT} (h : QAt w g of tt cs S N) (hg : w.grownBy w' (some g)) {A : Option Addr} {n c : Nat} (hb : Blk w' g tt (cs.setIfInBounds of (.slice A n c))) (hn : n = I'.length) (hc : n ≤ c ∧ c ≤ 9223372036854775807) (hi : ItAt w' anyB A I') (hiv : QInv { S with I := I' }) : QAt w' g of tt (cs.setIfInBounds of (.slice A n c)) { S with I := I' } N := by
  obtain ⟨h1, h2, ⟨A0, n0, c0, a1, a2, a3, a4, a5⟩, h3, ⟨m, G, h4, h5, h6⟩, h7, h8, h9⟩ := h
  refine ⟨hb, h2, ⟨A, n, c, set_at a1, hn, hc.1, hc.2, hi⟩, ?_, ⟨m, G, ?_, h5.kept hg h1, h6.same fun A l hc => hc.kept hg h1 h2.1⟩, h7, h8, hiv⟩
  · rw [Array.getElem?_setIfInBounds_ne (by omega)]; exact h3
  · rw [Array.getElem?_setIfInBounds_ne (by omega)]; exact h4
def VAd (w1 : World) (gx q c q1 : Nat) (A : Option Addr) (p : Bool) (l : List Ch) (x : Ch) (j : Nat) (z : Value) (w : World) : Prop :=
  match j with
  | 0 => z = .pointer (some ⟨w1.heap.size, 0, none⟩)
  | 1 => z = .slice A q c
  | 2 => ∃ A2 c2, z = .slice A2 q c2 ∧ OwnC w (w1.heap.size + 1) A2 c2 l
  | 3 => z = .agg #[.int .i64 x.k, .int .i64 x.y, .int .u64 (x.v : Nat)]
  | 4 => ∃ gs, z = .slice (some ⟨gs, 0, none⟩) 1 1 ∧ Blk w gs 39 #[.int .i64 x.k, .int .i64 x.y, .int .u64 (x.v : Nat)] ∧ w1.heap.size + 1 ≤ gs
  | 5 => ∃ A3 c3, z = .slice A3 q1 c3 ∧ OwnC w (w1.heap.size + 1) A3 c3 (l ++ [x])
  | 6 => z = .pointer (some ⟨w1.heap.size, 0, none⟩)
  | 7 => ∃ A3 c3, Blk w w1.heap.size 88 #[.slice A3 q1 c3, .bool p] ∧ OwnC w (w1.heap.size + 1) A3 c3 (l ++ [x])
  | _ => True
def EAd (gw k : Nat) (u u' : World) : Prop := match k with
  | 5 => Below (gw + 1) u u'
  | 7 => u.grownBy u' (some gw)
  | _ => Below u.heap.size u u'
theorem EAd.bel {gw k : Nat} {u u' : World} (h : EAd gw k u u') (h1 : k ≠ 5) (h2 : k ≠ 7) : Below u.heap.size u u' := by
  unfold EAd at h
  split at h
  · exact absurd rfl h1
  · exact absurd rfl h2
  · exact h
theorem OwnC.bel {u u' : World} {B : Nat} {A : Option Addr} {c : Nat} {l : List Ch} (h : OwnC u B A c l) (hb : Below u.heap.size u u') : OwnC u' B A c l := h.kept (lbelow_grown hb none) (fun r e => by cases e)
theorem OwnC.one {u u' : World} {B k : Nat} {A : Option Addr} {c : Nat} {l : List Ch} (h : OwnC u B A c l) (hb : u.grownBy u' (some k)) (hk : k < B) : OwnC u' B A c l := h.kept hb (fun r e => by cases e; exact hk)
theorem VAd.mono {w1 : World} {gx q c q1 : Nat} {A : Option Addr} {p : Bool} {l : List Ch} {x : Ch} {j k : Nat} {z : Value} {u u' : World} (he : EAd w1.heap.size k u u') (hjk : j ≠ k) (hd : ¬ ((j = 2 ∨ j = 4) ∧ k = 5)) (hw : ¬ (j = 7 ∧ k = 5)) (hd5 : ¬ (j = 5 ∧ k = 7)) (h : VAd w1 gx q c q1 A p l x j z u) : VAd w1 gx q c q1 A p l x j z u' := by
  unfold VAd at h ⊢
  split at h
  all_goals first | exact h | skip
  · obtain ⟨A2, c2, e, ho⟩ := h
    by_cases k5 : k = 5
    · exact absurd ⟨.inl rfl, k5⟩ hd
    by_cases k7 : k = 7
    · subst k7; exact ⟨A2, c2, e, Qu.OwnC.one ho he (by omega)⟩
    · exact ⟨A2, c2, e, Qu.OwnC.bel ho (he.bel k5 k7)⟩
  · obtain ⟨gs, e, hk, hle⟩ := h
    by_cases k5 : k = 5
    · exact absurd ⟨.inr rfl, k5⟩ hd
    by_cases k7 : k = 7
    · subst k7; exact ⟨gs, e, hk.kept he (fun e2 => by injection e2; omega), hle⟩
    · exact ⟨gs, e, hk.below (he.bel k5 k7) hk.lt, hle⟩
  · obtain ⟨A3, c3, e, ho⟩ := h
    by_cases k7 : k = 7
    · exact absurd ⟨rfl, k7⟩ hd5
    · exact ⟨A3, c3, e, Qu.OwnC.bel ho (he.bel (fun e => hjk e.symm) k7)⟩
  · obtain ⟨A3, c3, hk, ho⟩ := h
    by_cases k5 : k = 5
    · exact absurd ⟨rfl, k5⟩ hw
    · have hb := he.bel k5 (fun e => hjk e.symm)
      exact ⟨A3, c3, hk.below hb hk.lt, Qu.OwnC.bel ho hb⟩
def TAd (w1 : World) (q c : Nat) (A : Option Addr) (p : Bool) (j : Nat) (u : World) : Prop := match j with
  | 1 => Blk u w1.heap.size 88 #[.slice A q c, .bool p]
  | 7 => Blk u w1.heap.size 88 #[.slice A q c, .bool p]
  | _ => True
theorem TAd.mono {w1 : World} {q c : Nat} {A : Option Addr} {p : Bool} {j k : Nat} {u u' : World} (he : EAd w1.heap.size k u u') (hkj : k ≠ j) (h17 : ¬ (j = 1 ∧ k = 7)) (h : TAd w1 q c A p j u) : TAd w1 q c A p j u' := by
  unfold TAd at h ⊢
  have aux : k ≠ 7 → Blk u w1.heap.size 88 #[.slice A q c, .bool p] → Blk u' w1.heap.size 88 #[.slice A q c, .bool p] := fun k7 hb => by
    by_cases k5 : k = 5
    · subst k5
      have he : Below (w1.heap.size + 1) u u' := he
      exact (he.block _ (by omega)).trans hb
    · exact hb.below (he.bel k5 k7) hb.lt
  split at h
  · exact aux (fun e => h17 ⟨rfl, e⟩) h
  · exact aux hkj h
  · trivial
theorem step_append_run {P : Program} {w : World} {ops : Array Oper} {o : Oper} {a : Act} {K : Act → World → Prop} {Q : Exit → Act → World → Prop} {E : Prop} (hgd : o.guard = none) (s x : Operand) (t : TypeId)
    (ho : o.op = .call { callee := .builtin .append, args := #[s, x], argTypes := #[t, t] }) (sv xv v : Value) (w' : World) (hs : a.eval s = sv) (hx : a.eval x = xv) (hrun : (Builtin.append_ #[t, t] o.type #[sv, xv]).run P w = .ok v w') (h : K (a.put o.dst v) w') :
    if Region.wanted o (yielded ops a.tmps) = true then Oper.wp P o a w K Q else E := by
  have hw : Region.wanted o (yielded ops a.tmps) = true := by simp [Region.wanted, hgd]
  rw [if_pos hw]
  unfold Oper.wp execOp
  simp only [ho, resolve, invoke, builtin, Sem.run_bind, Sem.run_pure, Result.andThen_ok, List.map_toArray, List.map_cons, List.map_nil, hs, hx, hrun]
  exact h

def addQ (ws : List WQ) (n : Int) (x : Ch) : List WQ := layQ ws n ((curQ ws n).1 ++ [x]) (curQ ws n).2
set_option maxRecDepth 100000 in
set_option maxHeartbeats 4000000 in
theorem add_any (g of : Nat) (tt : TypeId) (cs : Array Value) (S : QS) (N : Nat) (n : Int) (x : Ch) (w : World) (h : QAt w g of tt cs S N) (hN : N < 300000) (hn : i64ok n) (hB : ∀ b, w.heap.size ≤ b → S.B b) (hiv : QInv { S with ws := addQ S.ws n x }) :
    Calls Try.prog 37 #[.pointer (some ⟨g, of, none⟩), .int .i64 n, .agg #[.int .i64 x.k, .int .i64 x.y, .int .u64 (x.v : Nat)]] w fun e w' => e = .returned (.tuple #[]) ∧ QO w g of tt cs { S with ws := addQ S.ws n x } (N + 1) w' := by
  obtain ⟨m, A, q, c, h32, hq, hc, r1, _⟩ := h.look hn
  have hlen : (curQ S.ws n).1.length ≤ N := by
    unfold curQ lookQ
    rcases hf : findQ S.ws n with _ | y
    · exact Nat.zero_le _
    · exact (h.le y (findQ_mem hf).1).1
  obtain ⟨w1, hw1⟩ : ∃ w1, w1 = w.alloc (.cells #[.int .i64 x.k, .int .i64 x.y, .int .u64 (x.v : Nat)] 39) := ⟨_, rfl⟩
  have b1 : Below w.heap.size w w1 := by rw [hw1]; exact ba _ _
  have k1 : Blk w1 w.heap.size 39 #[.int .i64 x.k, .int .i64 x.y, .int .u64 (x.v : Nat)] := by rw [hw1]; exact Blk.new _ _ _
  have hs1 : w1.heap.size = w.heap.size + 1 := by rw [hw1]; simp
  unfold addQ at hiv ⊢
  obtain ⟨cl, hcl⟩ : ∃ cl, cl = curQ S.ws n := ⟨_, rfl⟩
  rw [← hcl] at hq hc r1 hlen hiv ⊢
  obtain ⟨l, p⟩ := cl
  dsimp only at hq hc r1 hlen hiv ⊢
  have c32 := ((h.below b1).bk.cell (of + 2)).trans h32
  have r1' := ((h.below b1).look hn)
  have hl1 : (Instr.lookup 61 (.map m) (.int .i64 n) false).run Try.prog w1 = .ok (.agg #[.slice A q c, .bool p]) w1 := by
    obtain ⟨m', G, h4, h5, h6⟩ := h.wk
    have em : m' = m := by rw [h4] at h32; injection h32 with h32; injection h32
    subst em
    have z1 := h5.look 61 88 Try.underlying61 (z := .agg #[.slice none 0 0, .bool false]) rfl (Try.zeroValue88 w) hn
    have z2 := (h5.below b1).look 61 88 Try.underlying61 (z := .agg #[.slice none 0 0, .bool false]) rfl (Try.zeroValue88 w1) hn
    rw [z1] at r1
    injection r1 with r1
    rw [z2, r1]
  obtain ⟨w2, hw2⟩ : ∃ w2, w2 = w1.alloc (.cells #[.slice A q c, .bool p] 88) := ⟨_, rfl⟩
  have b2 : Below w1.heap.size w1 w2 := by rw [hw2]; exact ba _ _
  have k2 : Blk w2 w1.heap.size 88 #[.slice A q c, .bool p] := by rw [hw2]; exact Blk.new _ _ _
  have hs2 : w2.heap.size = w1.heap.size + 1 := by rw [hw2]; simp
  obtain ⟨gx, hgx⟩ : ∃ gx, gx = w.heap.size := ⟨_, rfl⟩
  rw [← hgx] at k1
  have HW1 := Lib.hid hw1
  have HW2 := Lib.hid hw2
  have Hgx := Lib.hid hgx
  have HcL := Lib.hid (hc.below b1)
  have HK1 := Lib.hid k1
  have H := Lib.hid (And.intro h (And.intro b1 (And.intro hn (And.intro hB (And.intro hiv (And.intro hlen hq))))))
  have hqN : q ≤ 300000 := by omega
  have hgl := h.lt
  have HS := Lib.hid (And.intro hs1 (And.intro hs2 hgl))
  have hgx1 : gx < w1.heap.size := by omega
  obtain ⟨q1, hq1⟩ : ∃ q1, q1 = q + 1 := ⟨_, rfl⟩
  have Hq1 := Lib.hid hq1
  rw [hw1] at c32 hl1
  clear h hw1 hw2 hgx hc b1 r1 hn hB hiv hlen k1 r1' hq h32 hs1 hs2 hgl hcl hq1
  go_enter Try.func37, Try.ntmps37
  go_wp2_with fail
  rw [← HW1.out, ← HW2.out]
  clear c32 hl1
  have es : w.heap.size + 1 = w1.heap.size := HS.out.1.symm
  rw [es, ← Hgx.out]
  refine wp_region_invU (F := ?FD) (V := VAd w1 gx q c q1 A p l x) (dead := fun j => if j = 2 ∨ j = 4 then some 5 else if j = 5 then some 7 else none) (T := TAd w1 q c A p) (C := fun u => Below w1.heap.size w1 u ∧ w1.heap.size + 1 ≤ u.heap.size) (E := EAd w1.heap.size) (by kernel_rfl) (by kernel_rfl) (by kernel_rfl) (fun x_1 => ?hFD) ?hmonoD ?hTmD ?hTD ?hCD ?stepD ?finD
  case hFD => simp only [mkA, Act.put, List.setIfInBounds_toArray, List.set_cons_succ, List.set_cons_zero, Nat.reduceAdd, Nat.zero_add]; first | with_reducible rfl | rfl
  case hmonoD => exact fun k' j z u u' he hjk hwt hdd hv => VAd.mono he hjk (fun hh => hdd (by rcases hh with ⟨rfl | rfl, rfl⟩ <;> rfl)) (fun hh => by rcases hh with ⟨rfl, rfl⟩; rw [show waitsU _ 7 5 = true by kernel_rfl] at hwt; cases hwt) (fun hh => hdd (by rcases hh with ⟨rfl, rfl⟩; rfl)) hv
  case hTmD => exact fun k' j u u' he hkj hwt hv => TAd.mono he hkj (fun hh => by rcases hh with ⟨rfl, rfl⟩; rw [show waitsU _ 7 1 = true by kernel_rfl] at hwt; cases hwt) hv
  case hTD => exact fun j => by unfold TAd; split <;> first | exact k2.below (Below.refl _ _).drew k2.lt | trivial
  case hCD => exact ⟨b2.drew, by show w1.heap.size + 1 ≤ w2.heap.size; have := HS.out.2.1; omega⟩
  case stepD =>
    refine AllOps.cons (fun x_1 u hC hT hp K hK => ?_) ?_
    · clear hp hT
      go_simp
      refine hK _ _ _ hC (Below.refl _ _) (by exact rfl) ?_
      first | (simp only [Act.put, List.setIfInBounds_toArray, List.set_cons_succ, List.set_cons_zero]; done) | simp [Act.put]
    refine AllOps.cons (fun x_1 u hC hT hp K hK => ?_) ?_
    · simp [KnownTill, Region.binds, VAd] at hp
      have cc := (show Blk u w1.heap.size 88 #[.slice A q c, .bool p] from hT).cell 0
      simp only [List.getElem?_toArray, List.getElem?_cons_zero, List.getElem?_cons_succ] at cc
      clear hT
      go_simp
      refine hK _ _ _ hC (Below.refl _ _) (by exact rfl) ?_
      first | (simp only [Act.put, List.setIfInBounds_toArray, List.set_cons_succ, List.set_cons_zero, hp]; done) | simp [Act.put, hp]
    refine AllOps.cons (fun x_1 u hC hT hp K hK => ?_) ?_
    · simp [KnownTill, Region.binds, VAd] at hp
      clear hT
      go_simp
      refine (cclone_any A l q c u (Lib.hid H.out.2.2.2.2.2.2) (Lib.hid (by omega)) (HcL.out.below (show Below w1.heap.size w1 u from hC.1))).mono ?_
      rintro e wA ⟨A2, c2, rfl, own2, bA⟩
      refine hK _ _ _ ⟨bt hC.1 bA, Nat.le_trans hC.2 bA.size⟩ bA ⟨A2, c2, rfl, own2.less hC.2⟩ ?_
      first | (simp only [Act.put, List.setIfInBounds_toArray, List.set_cons_succ, List.set_cons_zero, hp]; done) | simp [Act.put, hp]
    refine AllOps.cons (fun x_1 u hC hT hp K hK => ?_) ?_
    · clear hp hT
      have kx := HK1.out.below (show Below w1.heap.size w1 u from hC.1) HK1.out.lt
      have q0 := kx.cell 0
      have q1' := kx.cell 1
      have q2 := kx.cell 2
      simp only [List.getElem?_toArray, List.getElem?_cons_zero, List.getElem?_cons_succ] at q0 q1' q2
      go_simp
      refine hK _ _ _ hC (Below.refl _ _) (by exact rfl) ?_
      first | (simp only [Act.put, List.setIfInBounds_toArray, List.set_cons_succ, List.set_cons_zero]; done) | simp [Act.put]
    refine AllOps.cons (fun x_1 u hC hT hp K hK => ?_) ?_
    · simp [KnownTill, Region.binds, VAd] at hp
      clear hT
      have kn := Blk.new u 39 #[.int .i64 x.k, .int .i64 x.y, .int .u64 (x.v : Nat)]
      go_simp
      refine hK (.slice (some ⟨u.heap.size, 0, none⟩) 1 1) _ _ ⟨bt hC.1 (ba _ _), by have := hC.2; simp; omega⟩ (ba _ _) ⟨u.heap.size, rfl, kn, hC.2⟩ ?_
      first | (simp only [Act.put, List.setIfInBounds_toArray, List.set_cons_succ, List.set_cons_zero, hp]; done) | simp [Act.put, hp]
    refine AllOps.cons (fun x_1 u hC hT hp K hK => ?_) ?_
    · simp [KnownTill, Region.binds, VAd] at hp
      clear hT
      obtain ⟨A2, c2, h2, own2⟩ : ∃ A2 c2, x_1 2 = .slice A2 q c2 ∧ OwnC u (w1.heap.size + 1) A2 c2 l := by first | exact hp.1 | exact hp.2 | exact hp.2.1
      obtain ⟨gs, h4, hgs, hgl⟩ : ∃ gs, x_1 4 = .slice (some ⟨gs, 0, none⟩) 1 1 ∧ Blk u gs 39 #[.int .i64 x.k, .int .i64 x.y, .int .u64 (x.v : Nat)] ∧ w1.heap.size + 1 ≤ gs := by first | exact hp.2 | exact hp.2.1 | exact hp.1
      obtain ⟨A3, c3, w8, hrun, own8, g8, hat8⟩ := ch_app own2 (some ⟨gs, 0, none⟩) 1 [x] q 1 H.out.2.2.2.2.2.2 rfl (fun b o e i hi => by cases e; have hi0 : i = 0 := (by simpa using hi); subst hi0; exact ⟨hgs.cell 0, hgs.cell 1, hgs.cell 2⟩) (fun _ => ⟨_, _, rfl⟩) (by have := own2.cap; have := H.out.2.2.2.2.2.2; omega) (by have := H.out.2.2.2.2.2.2; simp; omega) hC.2
      rw [← Hq1.out] at hrun
      have b8 : Below (w1.heap.size + 1) u w8 := ⟨g8.os, g8.tape, g8.output, g8.size, fun k hk => g8.block k (by have := hC.2; omega) (fun e => by have := (own2.lt' _ e.symm).1; omega)⟩
      refine step_append_run rfl (.tmp 15) (.tmp 17) 22 rfl (.slice A2 q c2) (.slice (some ⟨gs, 0, none⟩) 1 1) _ w8 (by show x_1 2 = _; exact h2) (by show x_1 4 = _; exact h4) hrun ?_
      refine hK _ _ _ ⟨⟨g8.os.trans hC.1.os, g8.tape.trans hC.1.tape, g8.output.trans hC.1.output, Nat.le_trans hC.1.size g8.size, fun k hk => (b8.block k (by omega)).trans (hC.1.block k hk)⟩, Nat.le_trans hC.2 g8.size⟩ b8 ⟨A3, c3, rfl, own8⟩ rfl
    refine AllOps.cons (fun x_1 u hC hT hp K hK => ?_) ?_
    · clear hp hT
      go_simp
      refine hK _ _ _ hC (Below.refl _ _) (by exact rfl) ?_
      first | (simp only [Act.put, List.setIfInBounds_toArray, List.set_cons_succ, List.set_cons_zero]; done) | simp [Act.put]
    refine AllOps.cons (fun x_1 u hC hT hp K hK => ?_) ?_
    · simp [KnownTill, Region.binds, VAd] at hp
      obtain ⟨A3, c3, h5, own3⟩ : ∃ A3 c3, x_1 5 = .slice A3 q1 c3 ∧ OwnC u (w1.heap.size + 1) A3 c3 (l ++ [x]) := by first | exact hp.1 | exact hp.2 | exact hp.2.1 | exact hp.2.2.1
      have h6 : x_1 6 = .pointer (some ⟨w1.heap.size, 0, none⟩) := by first | exact hp.2 | exact hp.1 | exact hp.2.1 | exact hp.2.2 | exact hp.2.2.1
      have kw : Blk u w1.heap.size 88 #[.slice A q c, .bool p] := hT
      have cc := kw.cell 0
      have ff := kw.frozen 0
      simp only [List.getElem?_toArray, List.getElem?_cons_zero, List.getElem?_cons_succ] at cc
      have kF : Blk (u.setCell ⟨w1.heap.size, 0, none⟩ (.slice A3 q1 c3)) w1.heap.size 88 #[.slice A3 q1 c3, .bool p] := by simpa using kw.set_ 0 (.slice A3 q1 c3)
      have gF := lgrown_set u ⟨w1.heap.size, 0, none⟩ (.slice A3 q1 c3)
      have oF := Qu.OwnC.one own3 gF (by dsimp only; omega)
      clear kw hT
      go_simp
      refine hK undef _ _ ⟨hC.1.setCell (p := ⟨w1.heap.size, 0, none⟩) (Nat.le_refl _) _, by rw [World.size_setCell]; exact hC.2⟩ gF ⟨A3, c3, kF, oF⟩ ?_
      first | (simp only [Act.put, List.setIfInBounds_toArray, List.set_cons_succ, List.set_cons_zero, hp, h5, h6]; done) | simp [Act.put, hp, h5, h6]
    exact AllOps.nil
  case finD =>
    intro x_1 u hC hV
    obtain ⟨A3, c3, kF, oF⟩ := hV 7 (by decide) rfl
    have e0 := kF.cell 0
    have e1 := kF.cell 1
    simp only [List.getElem?_toArray, List.getElem?_cons_zero, List.getElem?_cons_succ] at e0 e1
    have hu : Below w1.heap.size w1 u := hC.1
    have hbu : Below w.heap.size w u := bt H.out.2.1 hu
    have hcu : ChAt u S.B A3 (l ++ [x]) := oF.at_.mono fun b hb _ => H.out.2.2.2.1 b (by have := H.out.2.1.size; have hb : w1.heap.size + 1 ≤ b := hb; omega)
    have HL := Lib.hid (lay_any g of tt cs S N n A3 (l ++ [x]) q1 c3 p u (H.out.1.below hbu) (by omega) H.out.2.2.1 (by rw [Hq1.out, H.out.2.2.2.2.2.2]; simp) (by have := H.out.2.2.2.2.2.1; simp; exact this) hcu H.out.2.2.2.2.1)
    have HB := Lib.hid hbu
    clear hV hC kF oF hu hbu hcu k2 b2
    go_wp2_with fail
    refine HL.out.mono ?_
    rintro e w9 ⟨rfl, ⟨⟨cs', hk, hkp⟩, hg⟩⟩
    have HF : Hid (QO w g of tt cs { S with ws := layQ S.ws n (l ++ [x]) p } (N + 1) w9) := Lib.hid ⟨⟨cs', hk, hkp⟩, (lbelow_grown HB.out (some g)).trans hg⟩
    clear hk hkp hg e0 e1
    go_wp2
    go_end0
    exact ⟨rfl, HF.out⟩
end Go.Proofs.Ytlliaihmfimdoaa.Qu

namespace Go.Proofs.Ytlliaihmfimdoaa.Qu
open Go.RowKit Go.Shelf Go.Maps
attribute [local go_sem] Oper.semAt_some
set_option linter.unusedVariables false
set_option linter.unusedSimpArgs false

def frontR (L : List IT) (n : Int) : Nat × Int := match (ixs L).find? (fun x => decide (x.2.t ≠ n)) with
  | none => (0, 140)
  | some x => if x.2.t = 0 then (x.1, 0) else (0, 120)
theorem ixs_get (L : List IT) (i : Nat) (h : i < L.length) : ∃ hh : i < (ixs L).length, (ixs L)[i]'hh = (i, L[i]'h) := by
  have := ixsF_at L 0 i h
  rw [Nat.zero_add] at this
  obtain ⟨hh, e⟩ := List.getElem?_eq_some_iff.1 this
  exact ⟨hh, e⟩
theorem front_at {L : List IT} {n : Int} {i : Nat} (h : i < L.length) (hall : ∀ x ∈ (ixs L).take i, x.2.t = n) (hne : (L[i]'h).t ≠ n) : frontR L n = if (L[i]'h).t = 0 then (i, 0) else (0, 120) := by
  obtain ⟨hh, e⟩ := ixs_get L i h
  have : (ixs L).find? (fun x => decide (x.2.t ≠ n)) = some (i, L[i]'h) := by
    rw [List.find?_eq_some_iff_getElem]
    refine ⟨by simpa using hne, i, hh, e, fun j hj => ?_⟩
    have := hall ((ixs L)[j]'(by omega)) (by
      rw [List.mem_take_iff_getElem]
      exact ⟨j, by omega, rfl⟩)
    simpa using this
  unfold frontR
  rw [this]
theorem front_none {L : List IT} {n : Int} (hall : ∀ x ∈ ixs L, x.2.t = n) : frontR L n = (0, 140) := by
  have : (ixs L).find? (fun x => decide (x.2.t ≠ n)) = none := by
    rw [List.find?_eq_none]
    intro x hx
    simpa using hall x hx
  unfold frontR
  rw [this]
/-- Under way in front. -/
structure FI (w : World) (n : Int) (k e : Int) (W : World) : Prop where
  be : Below w.heap.size w W
  sz : w.heap.size + 3 ≤ W.heap.size
  kn : Blk W w.heap.size 3 #[.int .i64 n]
  kp : Blk W (w.heap.size + 1) 3 #[.int .i64 k]
  ke : Blk W (w.heap.size + 2) 25 #[.int .i64 e]
theorem FI.bel {w W W' : World} {n k e : Int} (h : FI w n k e W) (hb : Below W.heap.size W W') : FI w n k e W' :=
  ⟨bt h.be hb, Nat.le_trans h.sz hb.size, h.kn.below hb h.kn.lt, h.kp.below hb h.kp.lt, h.ke.below hb h.ke.lt⟩
theorem blk_put {W : World} {b l : Nat} {t : TypeId} {cs : Array Value} {o o' : Obj} (h : Blk W b t cs) (ho : W.heap[l]? = some o) (hc : o.isCells = false) : Blk (W.putObj l o') b t cs :=
  (World.putObj_heap_other (fun e => by subst e; unfold Blk at h; rw [h] at ho; cases ho; cases hc)).trans h
theorem FI.put {w W : World} {n k e : Int} {l : Nat} {o o' : Obj} (h : FI w n k e W) (hl : w.heap.size ≤ l) (ho : W.heap[l]? = some o) (hc : o.isCells = false) : FI w n k e (W.putObj l o') :=
  ⟨h.be.grown (grownBy_putObj' W l o') h.be.size (fun r e => by cases e; exact hl), by rw [World.putObj_size]; exact h.sz, blk_put h.kn ho hc, blk_put h.kp ho hc, blk_put h.ke ho hc⟩
end Go.Proofs.Ytlliaihmfimdoaa.Qu

namespace Go.Proofs.Ytlliaihmfimdoaa.Qu
open Go.RowKit Go.Shelf Go.Maps
attribute [local go_sem] Oper.semAt_some
set_option linter.unusedVariables false
set_option linter.unusedSimpArgs false

theorem giveI_app : ∀ (a : List IT) (x : IT) (b : List IT) (n : Int), giveI (a ++ x :: b) a.length n = a ++ { x with t := n } :: b
  | [], _, _, _ => rfl
  | y :: a, x, b, n => by
    have := giveI_app a x b n
    unfold giveI at this ⊢
    simp only [List.cons_append, List.length_cons, List.modify_succ_cons, this]
def freeI (n : Int) (x : IT) : IT := if x.t = n then { x with t := 0 } else x
def backI (L : List IT) (n : Int) (i : Nat) : List IT := (L.take i).map (freeI n) ++ L.drop i
theorem backI_len (L : List IT) (n : Int) (i : Nat) : (backI L n i).length = L.length := by
  unfold backI; rw [List.length_append, List.length_map, List.length_take, List.length_drop]; omega
theorem backI_step (L : List IT) (n : Int) (i : Nat) (h : i < L.length) : backI L n (i + 1) = if (L[i]'h).t = n then giveI (backI L n i) i 0 else backI L n i := by
  have e1 : L.drop i = L[i]'h :: L.drop (i + 1) := List.drop_eq_getElem_cons h
  have e2 : L.take (i + 1) = L.take i ++ [L[i]'h] := by rw [List.take_add_one, List.getElem?_eq_getElem h]; rfl
  have hl : ((L.take i).map (freeI n)).length = i := by rw [List.length_map, List.length_take]; omega
  have e3 : backI L n i = (L.take i).map (freeI n) ++ L[i]'h :: L.drop (i + 1) := by unfold backI; rw [e1]
  have e4 : backI L n (i + 1) = (L.take i).map (freeI n) ++ freeI n (L[i]'h) :: L.drop (i + 1) := by unfold backI; rw [e2, List.map_append, List.append_assoc]; rfl
  rw [e3, e4]
  unfold freeI
  split
  · rename_i ht
    have := giveI_app ((L.take i).map (freeI n)) (L[i]'h) (L.drop (i + 1)) 0
    rw [hl] at this
    exact this.symm
  · rfl
theorem backI_all (L : List IT) (n : Int) : backI L n L.length = L.map (freeI n) := by unfold backI; simp
/-- Under way in Backout. -/
structure BO (w W : World) (g of : Nat) (tt : TypeId) (cs : Array Value) (S : QS) (N : Nat) (n : Int) (i : Nat) : Prop where
  qo : ∃ v, QAt W g of tt (cs.setIfInBounds of v) { S with I := backI S.I n i } N
  gr : w.grownBy W (some g)
  sz : w.heap.size + 2 ≤ W.heap.size
  kq : Blk W w.heap.size 75 #[.pointer (some ⟨g, of, none⟩)]
  kn : Blk W (w.heap.size + 1) 3 #[.int .i64 n]
theorem BO.bel {w W W' : World} {g of : Nat} {tt : TypeId} {cs : Array Value} {S : QS} {N : Nat} {n : Int} {i : Nat} (h : BO w W g of tt cs S N n i) (hb : Below W.heap.size W W') : BO w W' g of tt cs S N n i :=
  ⟨h.qo.elim fun c hq => ⟨c, hq.below hb⟩, h.gr.trans (lbelow_grown hb _), Nat.le_trans h.sz hb.size, h.kq.below hb h.kq.lt, h.kn.below hb h.kn.lt⟩
theorem QAt.put {W : World} {g of N : Nat} {tt : TypeId} {cs : Array Value} {S : QS} {l : Nat} {o o' : Obj} (h : QAt W g of tt cs S N) (ho : W.heap[l]? = some o) (hc : o.isCells = false) (hm : ∀ b, cs[of + 2]? = some (.map (some b)) → b ≠ l) : QAt (W.putObj l o') g of tt cs S N := by
  have hb : ∀ (k : Nat) (cs : Array Value) (t : TypeId) (fz : Nat × Nat), W.heap[k]? = some (.cells cs t fz) → (W.putObj l o').heap[k]? = W.heap[k]? := fun k cs t fz e => World.putObj_heap_other (fun e2 => by subst e2; rw [e] at ho; cases ho; cases hc)
  obtain ⟨h1, h2, ⟨A, n, c, a1, a2, a3, a4, a5⟩, h3, ⟨m, G, h4, h5, h6⟩, h7, h8, h9⟩ := h
  refine ⟨blk_put h1 ho hc, h2, ⟨A, n, c, a1, a2, a3, a4, a5.same fun b cs' fz e => hb b cs' _ fz e⟩, h3, ⟨m, G, h4, ?_, h6.same fun A l hc' => hc'.same fun b cs' fz e => hb b cs' _ fz e⟩, h7, h8, h9⟩
  rcases h5 with h5 | ⟨b, D, e, ⟨es, cl, hbk, hr⟩, h'⟩
  · exact .inl h5
  · subst e
    exact .inr ⟨b, D, rfl, ⟨es, cl, (World.putObj_heap_other (hm b h4)).trans hbk, hr⟩, h'⟩
/-- The works' map lies in the old world. -/
theorem QAt.mapLt {w : World} {g of N : Nat} {tt : TypeId} {cs : Array Value} {S : QS} (h : QAt w g of tt cs S N) : ∀ b, cs[of + 2]? = some (.map (some b)) → b < w.heap.size := fun b e => by
  obtain ⟨m, G, h4, h5, h6⟩ := h.wk
  rw [h4] at e
  injection e with e
  injection e with e
  subst e
  rcases h5 with ⟨h5, _⟩ | ⟨b', D, e, ho, _⟩
  · cases h5
  · cases e; exact ho.lt
theorem QAt.mapObj {w : World} {g of N : Nat} {tt : TypeId} {cs : Array Value} {S : QS} (h : QAt w g of tt cs S N) : ∀ b, cs[of + 2]? = some (.map (some b)) → ∃ es cl, w.heap[b]? = some (.map es cl) := fun b e => by
  obtain ⟨m, G, h4, h5, h6⟩ := h.wk
  rw [h4] at e
  injection e with e
  injection e with e
  subst e
  rcases h5 with ⟨h5, _⟩ | ⟨b', D, e, ⟨es, cl, hb, _⟩, _⟩
  · cases h5
  · cases e; exact ⟨es, cl, hb⟩
/-- Behind a loop over the items: its mark is taken away. -/
theorem QAt.marked {W : World} {g of N D : Nat} {tt : TypeId} {cs : Array Value} {S : QS} {x : Option (List Deferred)} (h : QAt W g of tt cs S N) (hD : W.heap[D]? = some (.deferred x)) (o' : Obj) : QAt (W.putObj D o') g of tt cs S N :=
  h.put hD rfl (fun b e e2 => by obtain ⟨es, cl, hb⟩ := h.mapObj b e; subst e2; rw [hD] at hb; cases hb)
theorem set_get {cs : Array Value} {i j : Nat} {v : Value} (h : i ≠ j) : (cs.setIfInBounds i v)[j]? = cs[j]? := Array.getElem?_setIfInBounds_ne h
theorem BO.put {w W : World} {g of : Nat} {tt : TypeId} {cs : Array Value} {S : QS} {N : Nat} {n : Int} {i l : Nat} {o o' : Obj} (h : BO w W g of tt cs S N n i) (hw : ∀ b, cs[of + 2]? = some (.map (some b)) → b < w.heap.size) (hl : w.heap.size ≤ l) (ho : W.heap[l]? = some o) (hc : o.isCells = false) : BO w (W.putObj l o') g of tt cs S N n i := by
  obtain ⟨v, hq⟩ := h.qo
  refine ⟨⟨v, hq.put ho hc (fun b e => ?_)⟩, h.gr.andThen (grownBy_putObj' W l o') (fun j e => by cases e; exact .inl hl), by rw [World.putObj_size]; exact h.sz, blk_put h.kq ho hc, blk_put h.kn ho hc⟩
  rw [set_get (by omega)] at e
  have := hw b e
  omega
end Go.Proofs.Ytlliaihmfimdoaa.Qu

namespace Go.Proofs.Ytlliaihmfimdoaa.Qu
open Go.RowKit Go.Shelf Go.Maps
attribute [local go_sem] Oper.semAt_some
set_option linter.unusedVariables false
set_option linter.unusedSimpArgs false

def backM (S : QS) (n : Int) : Int × QS := if n < 1 then (1, S) else (0, { S with I := S.I.map (freeI n), ws := othersQ S.ws n })
end Go.Proofs.Ytlliaihmfimdoaa.Qu
