/- Layer 13: the laws' calls. -/
import Derived.Test.YtnpoicgincndkaaBl
namespace Go.Proofs.Ytnpoicgincndkaa
open Go.RowKit Go.Maps
set_option linter.unusedVariables false
set_option linter.unusedSimpArgs false

theorem KvAt.rebase {w : World} {g N : Nat} {tt : TypeId} {cs : Array Value} {S : KS} {B' : Nat → Prop} (h : KvAt w g tt cs S N) (hB : ∀ b, S.B b → b < w.heap.size → B' b) : KvAt w g tt cs { S with B := B' } N := by
  obtain ⟨h1, h2, h3, ⟨m, G, h4, h5, h6⟩, h7, h10⟩ := h
  exact ⟨h1, h2, h3, ⟨m, G, h4, h5, h6.same fun A l hc => hc.mono hB⟩, h7, h10⟩
/-- A block that holds none of the store's turns. -/
theorem KvAt.off {w w' : World} {g N o : Nat} {tt t' : TypeId} {cs cs' : Array Value} {S : KS} (h : KvAt w g tt cs S N) (hg : w.grownBy w' (some o)) (hne : g ≠ o) (hk : Blk w o t' cs') (hB : ∀ b, S.B b → b ≠ o) : KvAt w' g tt cs S N := by
  obtain ⟨h1, h2, h3, ⟨m, G, h4, h5, h6⟩, ⟨h7, m2, h8, h9⟩, h10⟩ := h
  exact ⟨h1.kept hg (by simpa using hne), h2, h3, ⟨m, G, h4, h5.kept hg hk, h6.same fun A l hc => hc.off hg hB⟩, ⟨h7, m2, h8, h9.kept hg hk⟩, h10⟩
theorem prepM_B (S : KS) (B : Nat → Prop) (n : Int) : prepM { S with B := B } n = ((prepM S n).1, { (prepM S n).2 with B := B }) := by
  unfold prepM curW
  dsimp only
  split
  · rfl
  · split
    · rfl
    · split <;> rfl
theorem restoreM_B (S : KS) (B : Nat → Prop) (n : Int) (l : List Ch) : restoreM { S with B := B } n l = ((restoreM S n l).1, { (restoreM S n l).2 with B := B }) := by
  unfold restoreM busyB restW
  dsimp only
  split
  · rfl
  · split
    · rfl
    · split
      · rfl
      · split <;> rfl
/-- Changes that came in. -/
def InL (w : World) (A : Option Addr) (l : List Ch) : Prop := 0 < l.length → ∃ b o, A = some ⟨b, o, none⟩ ∧ b < w.heap.size ∧ ∀ i, (h : i < l.length) →
  w.cell? ⟨b, o + i * 3, none⟩ = some (.int .i64 (l[i]'h).k) ∧ w.cell? ⟨b, o + i * 3 + 1, none⟩ = some (.int .i64 (l[i]'h).y) ∧ w.cell? ⟨b, o + i * 3 + 2, none⟩ = some (.int .u64 ((l[i]'h).v : Nat))
theorem InL.below {w w' : World} {A : Option Addr} {l : List Ch} (h : InL w A l) (hb : Below w.heap.size w w') : InL w' A l := fun hl => by
  obtain ⟨b, o, rfl, hlt, hc⟩ := h hl
  refine ⟨b, o, rfl, Nat.lt_of_lt_of_le hlt hb.size, fun i hi => ?_⟩
  obtain ⟨h1, h2, h3⟩ := hc i hi
  exact ⟨(hb.cell (p := ⟨b, _, none⟩) hlt).trans h1, (hb.cell (p := ⟨b, _, none⟩) hlt).trans h2, (hb.cell (p := ⟨b, _, none⟩) hlt).trans h3⟩
/-- An Op of the laws. -/
structure OpV where
  k : Int
  n : Int
  y : Int
  v : Nat
  A : Option Addr
  l : List Ch
  c : Nat
def OpV.val (o : OpV) : Value := .agg #[.int .i64 o.k, .int .i64 o.n, .int .i64 o.y, .int .u64 (o.v : Nat), .slice o.A o.l.length o.c]
structure OpOk (o : OpV) : Prop where
  n : i64ok o.n
  y : i64ok o.y
  v : o.v < 18446744073709551616
def callM (S : KS) (o : OpV) : (Nat × Bool × List Ch × Int) × KS :=
  if o.k = 0 then (((getM S o.n o.y).1.1, (getM S o.n o.y).1.2.1, [], (getM S o.n o.y).1.2.2), (getM S o.n o.y).2)
  else if o.k = 1 then ((0, false, [], (changeM S o.n ⟨1, o.y, o.v⟩).1), (changeM S o.n ⟨1, o.y, o.v⟩).2)
  else if o.k = 2 then ((0, false, [], (changeM S o.n ⟨2, o.y, 0⟩).1), (changeM S o.n ⟨2, o.y, 0⟩).2)
  else if o.k = 3 then ((0, false, (prepM S o.n).1.1, (prepM S o.n).1.2), (prepM S o.n).2)
  else if o.k = 4 then ((0, false, [], (commitM S o.n).1), (commitM S o.n).2)
  else if o.k = 5 then ((0, false, [], (backoutM S o.n).1), (backoutM S o.n).2)
  else if o.k = 6 then ((0, false, [], (restoreM S o.n o.l).1), (restoreM S o.n o.l).2)
  else ((0, false, [], 0), S)
/-- What comes of a call, and the store behind it: its lists lie where they may, and not in what is handed out. -/
def CallO (w : World) (g : Nat) (tt : TypeId) (cs : Array Value) (N : Nat) (B : Nat → Prop) (r : (Nat × Bool × List Ch × Int) × KS) (e : Ending) (w' : World) : Prop :=
  ∃ A q c, e = .returned (.tuple #[.int .u64 (r.1.1 : Nat), .bool r.1.2.1, .slice A q c, .int .i64 r.1.2.2.2]) ∧ q = r.1.2.2.1.length ∧ OwnC w' w.heap.size A c r.1.2.2.1 ∧ KvO w g tt cs { r.2 with B := fun b => B b ∧ blk A ≠ some b } (N + 31) w'
theorem CallO.mk0 {a w : World} {g : Nat} {tt : TypeId} {cs cs1 : Array Value} {N N' : Nat} {S : KS} {v : Nat} {t : Bool} {er : Int} {w' : World} (hk : Keep cs cs1) (hg : a.grownBy w (some g)) (h : KvO w g tt cs1 S N' w') (hN : N' ≤ N + 31) : CallO a g tt cs N S.B ((v, t, [], er), S) (.returned (.tuple #[.int .u64 (v : Nat), .bool t, .slice none 0 0, .int .i64 er])) w' := by
  refine ⟨none, 0, 0, rfl, rfl, OwnC.nil _ _, ?_⟩
  obtain ⟨⟨cs', h1, h2⟩, h3⟩ := KvO.from hk hg h
  exact ⟨⟨cs', (h1.more hN).rebase fun b hb _ => ⟨hb, by simp [blk]⟩, h2⟩, h3⟩
theorem getM_B (S : KS) (n y : Int) : (getM S n y).2.B = S.B := by
  unfold getM; split
  · split <;> exact openM_B S n y false
  · exact openM_B S n y false
theorem changeM_B (S : KS) (n : Int) (x : Ch) : (changeM S n x).2.B = S.B := by
  unfold changeM; split <;> exact openM_B S n x.y true
theorem commitM_B (S : KS) (n : Int) : (commitM S n).2.B = S.B := by unfold commitM; split <;> rfl
theorem backoutM_B (S : KS) (n : Int) : (backoutM S n).2.B = S.B := by unfold backoutM; split <;> rfl
set_option maxRecDepth 100000 in
set_option maxHeartbeats 4000000 in
theorem call_any (g : Nat) (tt : TypeId) (cs : Array Value) (S : KS) (N : Nat) (o : OpV) (w : World) (h : KvAt w g tt cs S N) (hN : N < 200000) (ho : OpOk o) (hl : o.k = 6 → o.l.length ≤ 30) (hL : InL w o.A o.l) (hB : ∀ b, w.heap.size ≤ b → S.B b) :
    Calls Try.prog 12 #[.pointer (some ⟨g, 0, none⟩), o.val] w (CallO w g tt cs N S.B (callM S o)) := by
  obtain ⟨k, n, y, v, A, l, c⟩ := o
  obtain ⟨hn, hy, hv⟩ := ho
  dsimp only at hn hy hv hl hL
  show Calls Try.prog _ #[.pointer (some ⟨g, 0, none⟩), .agg #[.int .i64 k, .int .i64 n, .int .i64 y, .int .u64 (v : Nat), .slice A l.length c]] w _
  obtain ⟨q, hq⟩ : ∃ q, q = l.length := ⟨_, rfl⟩
  rw [← hq]
  obtain ⟨w1, hw1⟩ : ∃ w1, w1 = w.alloc (.cells #[.int .i64 k, .int .i64 n, .int .i64 y, .int .u64 (v : Nat), .slice A q c] 36) := ⟨_, rfl⟩
  have b1 : Below w.heap.size w w1 := by rw [hw1]; exact ba _ _
  have k1 : Blk w1 w.heap.size 36 #[.int .i64 k, .int .i64 n, .int .i64 y, .int .u64 (v : Nat), .slice A q c] := by rw [hw1]; exact Blk.new _ _ _
  have d0 := k1.cell 0
  have d1 := k1.cell 1
  have d2 := k1.cell 2
  have d3 := k1.cell 3
  have d4 := k1.cell 4
  simp only [List.getElem?_toArray, List.getElem?_cons_zero, List.getElem?_cons_succ] at d0 d1 d2 d3 d4
  have h1 := h.below b1
  have hB1 : ∀ b, w1.heap.size ≤ b → S.B b := fun b hb => hB b (Nat.le_trans b1.size hb)
  have Hg1 := Lib.hid (lbelow_grown b1 (some g))
  have HW := Lib.hid hw1
  rw [hw1] at d0 d1 d2 d3 d4
  rcases e0 : (k == 0) with _ | _
  · rcases e1 : (k == 1) with _ | _
    · rcases e2 : (k == 2) with _ | _
      · rcases e3 : (k == 3) with _ | _
        · rcases e4 : (k == 4) with _ | _
          · rcases e5 : (k == 5) with _ | _
            · rcases e6 : (k == 6) with _ | _
              · have hM : callM S ⟨k, n, y, v, A, l, c⟩ = ((0, false, [], 0), S) := by
                  unfold callM; dsimp only
                  rw [if_neg (by simpa using e0), if_neg (by simpa using e1), if_neg (by simpa using e2), if_neg (by simpa using e3), if_neg (by simpa using e4), if_neg (by simpa using e5), if_neg (by simpa using e6)]
                rw [hM]
                have HF := Lib.hid (CallO.mk0 (N := N) (v := 0) (t := false) (er := 0) (Keep.rfl' (cs := cs)) Hg1.out (KvO.same h1 (Below.refl _ _)) (by omega))
                clear h h1 hB hB1 hL hn hy hv hl hq hw1 b1 k1 hM
                go_enter Try.func12, Try.ntmps12
                go_wp2
                rw [← HW.out]
                go_returns
                exact HF.out
              · have hM : callM S ⟨k, n, y, v, A, l, c⟩ = ((0, false, [], (restoreM S n l).1), (restoreM S n l).2) := by
                  unfold callM; dsimp only
                  rw [if_neg (by simpa using e0), if_neg (by simpa using e1), if_neg (by simpa using e2), if_neg (by simpa using e3), if_neg (by simpa using e4), if_neg (by simpa using e5), if_pos (by simpa using e6)]
                rw [hM]
                -- the list of one's own
                replace hl := hl (by simpa using e6)
                obtain ⟨A2, c2, w2, hrun, own2, g2, hat2⟩ := ch_app (OwnC.nil w1 w1.heap.size) A c l 0 q rfl hq (fun b o e i hi => by
                  obtain ⟨b', o', e', _, hc⟩ := hL.below b1 (by omega)
                  cases e; cases e'; exact hc i hi) (fun hp => by obtain ⟨b', o', e', _⟩ := hL.below b1 hp; exact ⟨b', o', e'⟩) (Nat.le_refl _) (by simp; omega) (Nat.le_refl _)
                rw [Nat.zero_add] at hrun
                rw [List.nil_append] at own2
                have b2 : Below w1.heap.size w1 w2 := ⟨g2.os, g2.tape, g2.output, g2.size, fun k hk => g2.block k hk (by simp [blk])⟩
                have h2 : KvAt w2 g tt cs { S with B := fun b => S.B b ∧ blk A2 ≠ some b } (N + 30) := ((((h1.rebase (B' := fun b => S.B b ∧ b < w1.heap.size) (fun b hb hlt => ⟨hb, hlt⟩)).below b2).rebase (B' := fun b => S.B b ∧ blk A2 ≠ some b) (fun b hb _ => ⟨hb.1, fun e => by have := own2.lt' b e; have := hb.2; omega⟩)).more (by omega))
                have hgl1 := h1.lt
                have hws := b1.size
                have hr := restore_any g tt cs _ (N + 30) n A2 l q c2 w2 h2 (by omega) hn (Lib.hid hq) (by omega) own2.at_ (fun b hb => ⟨hB1 b (Nat.le_trans b2.size hb), fun e => by have := own2.lt' b e; omega⟩)
                rw [restoreM_B] at hr
                have HC := Lib.hid hr
                obtain ⟨R, hR⟩ : ∃ R, R = restoreM S n l := ⟨_, rfl⟩
                rw [← hR] at HC ⊢
                obtain ⟨re, rS⟩ := R
                dsimp only at HC ⊢
                have H2 := Lib.hid (And.intro own2 (And.intro (Hg1.out.trans (lbelow_grown b2 (some g))) (And.intro hgl1 (And.intro hws hq))))
                have k2 := k1.below b2 k1.lt
                have e1' := k2.cell 1
                simp only [List.getElem?_toArray, List.getElem?_cons_zero, List.getElem?_cons_succ] at e1'
                have hqm : q ≤ 9223372036854775807 := by omega
                rw [hw1] at hrun
                clear h h1 hB hB1 hL hn hy hv hl hq hw1 b1 k1 hM hR hr own2 g2 hat2 b2 h2 hgl1 hws k2
                go_enter Try.func12, Try.ntmps12
                go_wp2_with (at_builtin; refine wpList_append_run rfl (.tmp 76) (.tmp 78) 34 rfl _ _ _ w2 rfl rfl hrun ?_)
                refine HC.out.mono ?_
                rintro e w3 ⟨rfl, ⟨⟨cs', hk3, hkp⟩, hg3⟩⟩
                obtain ⟨own2, hg2, hgl1, hws, hql⟩ := H2.out
                have own3 := own2.kept hg3 (fun r e => by cases e; exact hgl1)
                have HI : Hid (l.length = q ∧ OwnC w3 w1.heap.size A2 c2 l ∧ KvAt w3 g tt cs' { rS with B := fun b => S.B b ∧ blk A2 ≠ some b } (N + 31) ∧ w.grownBy w3 (some g)) := Lib.hid ⟨hql.symm, own3, hk3, hg2.trans hg3⟩
                have HKp := Lib.hid (And.intro hkp hws)
                clear own2 hg2 hgl1 hws hql own3 hk3 hkp hg3 d0 d1 d2 d3 d4 e1' hrun
                go_wp2_with fail
                go_loopw [15] (fun i wr => ∃ (i0 : Nat) (l' : List Ch), i0 ≤ q ∧ i = .int .i64 i0 ∧ Hid (l'.length = q ∧ OwnC wr w1.heap.size A2 c2 l' ∧ KvAt wr g tt cs' { rS with B := fun b => S.B b ∧ blk A2 ≠ some b } (N + 31) ∧ w.grownBy wr (some g))) (fun i _ => q - (intOf i).toNat)
                case atStart => exact ⟨0, l, Nat.zero_le _, rfl, HI⟩
                case round =>
                  clear HI
                  obtain ⟨i0, l', hi, rfl, HR⟩ := hrel
                  by_cases hiq : i0 < q
                  · have hiI : (i0 : Int) < (q : Int) := by omega
                    obtain ⟨hlq, own, hk, hgw⟩ := HR.out
                    obtain ⟨ob, cap, e⟩ := Joins.ownsRow_form own (by omega)
                    cases e
                    unfold OwnC at own
                    rw [hlq] at own
                    obtain ⟨hoB, hol⟩ := own.lt ob rfl
                    obtain ⟨a1, a2, a3⟩ := chV_at l' i0 (by omega)
                    have c1 := (own.cellAt (i0 * 3 + 2) (by omega)).trans a3
                    have f1 := own.frozenAt (i0 * 3 + 2)
                    obtain ⟨x, hx⟩ : ∃ x, x = l'[i0]'(by omega) := ⟨_, rfl⟩
                    rw [← hx] at c1
                    obtain ⟨z, hz⟩ : ∃ z, z = (x.v + 1) % 18446744073709551616 := ⟨_, rfl⟩
                    have hwz : IntKind.u64.wrap ((x.v : Int) + 1) = (z : Int) := by rw [hz]; simp [IntKind.wrap, IntKind.bits, IntKind.signed]
                    have st := own.stored (i0 * 3 + 2) (.int .u64 (z : Nat))
                    have hset : (chV l').set (i0 * 3 + 2) (.int .u64 (z : Nat)) = chV (l'.set i0 ⟨x.k, x.y, z⟩) := by
                      rw [← chV_set]
                      congr 1
                      have e1 : (chV l').set (i0 * 3) (.int .i64 x.k) = chV l' := by
                        refine List.ext_getElem? fun j => ?_
                        by_cases hj : j = i0 * 3
                        · subst hj; rw [List.getElem?_set_self (by rw [chV_len]; omega), a1, hx]
                        · rw [List.getElem?_set_ne (fun e => hj e.symm)]
                      have e2 : (chV l').set (i0 * 3 + 1) (.int .i64 x.y) = chV l' := by
                        refine List.ext_getElem? fun j => ?_
                        by_cases hj : j = i0 * 3 + 1
                        · subst hj; rw [List.getElem?_set_self (by rw [chV_len]; omega), a2, hx]
                        · rw [List.getElem?_set_ne (fun e => hj e.symm)]
                      rw [e1, e2]
                    rw [hset] at st
                    obtain ⟨w4, hw4⟩ : ∃ w4, w.grownBy w4 none ∧ True := ⟨w, ⟨rfl, rfl, rfl, Nat.le_refl _, fun _ _ _ => rfl⟩, trivial⟩
                    clear hw4 w4
                    have hblk : ∃ cur : Array Value, Blk wr ob 47 cur := by
                      rcases own.2 with ⟨h1, _⟩ | ⟨g', cap', cur, h1, _, h2, _⟩
                      · cases h1
                      · cases h1; exact ⟨cur, h2⟩
                    obtain ⟨cur, hcur⟩ := hblk
                    have hgob : g ≠ ob := fun e => by
                      have h1 := hk.bk
                      have h2 := hk.ty
                      rw [e] at h1
                      unfold Blk at h1 hcur
                      rw [h1] at hcur
                      injection hcur with hc1
                      injection hc1 with _ hc2
                      exact h2 hc2
                    have HN : Hid ((l'.set i0 ⟨x.k, x.y, z⟩).length = q ∧ OwnC (wr.setCell ⟨ob, i0 * 3 + 2, none⟩ (.int .u64 (z : Nat))) w1.heap.size (some ⟨ob, 0, none⟩) c2 (l'.set i0 ⟨x.k, x.y, z⟩) ∧ KvAt (wr.setCell ⟨ob, i0 * 3 + 2, none⟩ (.int .u64 (z : Nat))) g tt cs' { rS with B := fun b => S.B b ∧ blk (some ⟨ob, 0, none⟩) ≠ some b } (N + 31) ∧ w.grownBy (wr.setCell ⟨ob, i0 * 3 + 2, none⟩ (.int .u64 (z : Nat))) (some g)) := Lib.hid
                      ⟨by rw [List.length_set, hlq], by unfold OwnC; rw [List.length_set, hlq]; exact st.1, hk.off st.2 hgob hcur (fun b hb e => hb.2 (by rw [e]; rfl)), hgw.andThen st.2 (fun j e => by cases e; exact .inl (Nat.le_trans HKp.out.2 hoB))⟩
                    clear hlq own hk hgw hoB hol a1 a2 a3 st hset hcur hgob hx hz HR
                    go_wp2
                    go_roundw
                    case rel => exact ⟨i0 + 1, _, by omega, by go_num, HN⟩
                    case measure => simp [intOf]; omega
                  · obtain rfl : i0 = q := by omega
                    have hiI : ¬ (i0 : Int) < (i0 : Int) := by omega
                    have HF : Hid (CallO w g tt cs N S.B ((0, false, [], re), rS) (.returned (.tuple #[.int .u64 ((0 : Nat) : Nat), .bool false, .slice none 0 0, .int .i64 re])) wr) := Lib.hid
                      ⟨none, 0, 0, rfl, rfl, OwnC.nil _ _, ⟨cs', HR.out.2.2.1.rebase fun b hb _ => ⟨hb.1, by simp [blk]⟩, HKp.out.1⟩, HR.out.2.2.2⟩
                    clear HR
                    go_wp2
                    go_returns
                    exact HF.out
            · have hM : callM S ⟨k, n, y, v, A, l, c⟩ = ((0, false, [], (backoutM S n).1), (backoutM S n).2) := by
                unfold callM; dsimp only
                rw [if_neg (by simpa using e0), if_neg (by simpa using e1), if_neg (by simpa using e2), if_neg (by simpa using e3), if_neg (by simpa using e4), if_pos (by simpa using e5)]
              rw [hM]
              have HB := Lib.hid (backoutM_B S n)
              have HC := Lib.hid (backout_any g tt cs S N n w1 h1 hn)
              obtain ⟨R, hR⟩ : ∃ R, R = backoutM S n := ⟨_, rfl⟩
              rw [← hR] at HB HC ⊢
              obtain ⟨re, rS⟩ := R
              dsimp only at HB HC ⊢
              rw [← HB.out]
              clear h h1 hB hB1 hL hn hy hv hl hq hw1 b1 k1 hM hR
              go_enter Try.func12, Try.ntmps12
              go_wp2_with fail
              rw [← HW.out]
              refine HC.out.mono ?_
              rintro e w2 ⟨rfl, hk⟩
              have HF := Lib.hid (CallO.mk0 (N := N) (v := 0) (t := false) (er := re) (Keep.rfl' (cs := cs)) Hg1.out hk (by omega))
              clear hk
              go_wp2
              go_returns
              exact HF.out
          · have hM : callM S ⟨k, n, y, v, A, l, c⟩ = ((0, false, [], (commitM S n).1), (commitM S n).2) := by
              unfold callM; dsimp only
              rw [if_neg (by simpa using e0), if_neg (by simpa using e1), if_neg (by simpa using e2), if_neg (by simpa using e3), if_pos (by simpa using e4)]
            rw [hM]
            have HB := Lib.hid (commitM_B S n)
            have HC := Lib.hid (commit_any g tt cs S N n w1 h1 (by omega) hn)
            obtain ⟨R, hR⟩ : ∃ R, R = commitM S n := ⟨_, rfl⟩
            rw [← hR] at HB HC ⊢
            obtain ⟨re, rS⟩ := R
            dsimp only at HB HC ⊢
            rw [← HB.out]
            clear h h1 hB hB1 hL hn hy hv hl hq hw1 b1 k1 hM hR
            go_enter Try.func12, Try.ntmps12
            go_wp2_with fail
            rw [← HW.out]
            refine HC.out.mono ?_
            rintro e w2 ⟨rfl, hk⟩
            have HF := Lib.hid (CallO.mk0 (N := N) (v := 0) (t := false) (er := re) (Keep.rfl' (cs := cs)) Hg1.out hk (by omega))
            clear hk
            go_wp2
            go_returns
            exact HF.out
        · have hM : callM S ⟨k, n, y, v, A, l, c⟩ = ((0, false, (prepM S n).1.1, (prepM S n).1.2), (prepM S n).2) := by
            unfold callM; dsimp only
            rw [if_neg (by simpa using e0), if_neg (by simpa using e1), if_neg (by simpa using e2), if_pos (by simpa using e3)]
          rw [hM]
          have hr := prep_any g tt cs { S with B := fun b => S.B b ∧ b < w1.heap.size } N n w1 (h1.rebase fun b hb hlt => ⟨hb, hlt⟩) (by omega) hn
          rw [prepM_B] at hr
          have HC := Lib.hid hr
          obtain ⟨R, hR⟩ : ∃ R, R = prepM S n := ⟨_, rfl⟩
          rw [← hR] at HC ⊢
          obtain ⟨⟨rl, re⟩, rS⟩ := R
          dsimp only at HC ⊢
          have hsz := b1.size
          clear h h1 hB hB1 hL hn hy hv hl hq hw1 b1 k1 hM hR hr
          go_enter Try.func12, Try.ntmps12
          go_wp2_with fail
          rw [← HW.out]
          refine HC.out.mono ?_
          rintro e w2 ⟨⟨A2, q2, c2, rfl, hq2, own2⟩, ⟨⟨cs', hk2, hkp⟩, hg2⟩⟩
          have HF : Hid (CallO w g tt cs N S.B ((0, false, rl, re), rS) (.returned (.tuple #[.int .u64 ((0 : Nat) : Nat), .bool false, .slice A2 q2 c2, .int .i64 re])) w2) := Lib.hid
            ⟨A2, q2, c2, rfl, hq2, own2.less hsz, ⟨cs', (hk2.more (by omega)).rebase fun b hb _ => ⟨hb.1, fun e => by have := own2.lt' b e; have := hb.2; omega⟩, hkp⟩, Hg1.out.trans hg2⟩
          clear hq2 own2 hk2 hkp hg2
          go_wp2
          go_returns
          exact HF.out
      · have hM : callM S ⟨k, n, y, v, A, l, c⟩ = ((0, false, [], (changeM S n ⟨2, y, 0⟩).1), (changeM S n ⟨2, y, 0⟩).2) := by
          unfold callM; dsimp only
          rw [if_neg (by simpa using e0), if_neg (by simpa using e1), if_pos (by simpa using e2)]
        rw [hM]
        have HB := Lib.hid (changeM_B S n ⟨2, y, 0⟩)
        have HC := Lib.hid (kdel_any g tt cs S N n y w1 h1 (by omega) hn hy hB1)
        obtain ⟨R, hR⟩ : ∃ R, R = changeM S n ⟨2, y, 0⟩ := ⟨_, rfl⟩
        rw [← hR] at HB HC ⊢
        obtain ⟨re, rS⟩ := R
        dsimp only at HB HC ⊢
        rw [← HB.out]
        clear h h1 hB hB1 hL hn hy hv hl hq hw1 b1 k1 hM hR
        go_enter Try.func12, Try.ntmps12
        go_wp2_with fail
        rw [← HW.out]
        refine HC.out.mono ?_
        rintro e w2 ⟨rfl, hk⟩
        have HF := Lib.hid (CallO.mk0 (N := N) (v := 0) (t := false) (er := re) (Keep.rfl' (cs := cs)) Hg1.out hk (by omega))
        clear hk
        go_wp2
        go_returns
        exact HF.out
    · have hM : callM S ⟨k, n, y, v, A, l, c⟩ = ((0, false, [], (changeM S n ⟨1, y, v⟩).1), (changeM S n ⟨1, y, v⟩).2) := by
        unfold callM; dsimp only
        rw [if_neg (by simpa using e0), if_pos (by simpa using e1)]
      rw [hM]
      have HB := Lib.hid (changeM_B S n ⟨1, y, v⟩)
      have HC := Lib.hid (kput_any g tt cs S N n y v w1 h1 (by omega) hn hy hB1)
      obtain ⟨R, hR⟩ : ∃ R, R = changeM S n ⟨1, y, v⟩ := ⟨_, rfl⟩
      rw [← hR] at HB HC ⊢
      obtain ⟨re, rS⟩ := R
      dsimp only at HB HC ⊢
      rw [← HB.out]
      clear h h1 hB hB1 hL hn hy hv hl hq hw1 b1 k1 hM hR
      go_enter Try.func12, Try.ntmps12
      go_wp2_with fail
      rw [← HW.out]
      refine HC.out.mono ?_
      rintro e w2 ⟨rfl, hk⟩
      have HF := Lib.hid (CallO.mk0 (N := N) (v := 0) (t := false) (er := re) (Keep.rfl' (cs := cs)) Hg1.out hk (by omega))
      clear hk
      go_wp2
      go_returns
      exact HF.out
  · have hM : callM S ⟨k, n, y, v, A, l, c⟩ = (((getM S n y).1.1, (getM S n y).1.2.1, [], (getM S n y).1.2.2), (getM S n y).2) := by
      unfold callM; dsimp only
      rw [if_pos (by simpa using e0)]
    rw [hM]
    have HB := Lib.hid (getM_B S n y)
    have HC := Lib.hid (get_any g tt cs S N n y w1 h1 (by omega) hn hy)
    obtain ⟨R, hR⟩ : ∃ R, R = getM S n y := ⟨_, rfl⟩
    rw [← hR] at HB HC ⊢
    obtain ⟨⟨rv, rt, re⟩, rS⟩ := R
    dsimp only at HB HC ⊢
    rw [← HB.out]
    clear h h1 hB hB1 hL hn hy hv hl hq hw1 b1 k1 hM hR
    go_enter Try.func12, Try.ntmps12
    go_wp2_with fail
    rw [← HW.out]
    refine HC.out.mono ?_
    rintro e w2 ⟨rfl, hk⟩
    have HF := Lib.hid (CallO.mk0 (N := N) (v := rv) (t := rt) (er := re) (Keep.rfl' (cs := cs)) Hg1.out hk (by omega))
    clear hk
    go_wp2
    go_returns
    exact HF.out
end Go.Proofs.Ytnpoicgincndkaa
