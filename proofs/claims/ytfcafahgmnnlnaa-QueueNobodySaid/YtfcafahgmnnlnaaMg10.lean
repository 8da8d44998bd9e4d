/- Parts Q21 Q22 R1 R2 of one proof. -/
import Derived.Test.YtfcafahgmnnlnaaMg09
import Derived.BigQuiet
namespace Go.Proofs.Ytfcafahgmnnlnaa.Qu
open Go.RowKit Go.Maps Go.Deep
set_option linter.unusedVariables false
set_option linter.unusedSimpArgs false

section
variable {S : QS}
theorem QOk.less {S' : QS} (h : QOk S) (h1 : S'.I.length + putsW S'.ws ≤ S.I.length + putsW S.ws) (h2 : S'.g + (putsW S'.ws : Int) ≤ S.g + (putsW S.ws : Int)) (h3 : 0 ≤ S'.g) : QOk S' := ⟨by have := h.room; omega, h3, by have := h.last; omega⟩
theorem QOk.put (h : QOk S) (hd : S.ws.Pairwise fun a b => a.n ≠ b.n) (n : Int) (v : Nat) : QOk (putM S n v).2 := by
  unfold putM
  split
  · exact h
  · split
    · exact h
    · rename_i hr; exact h.add hd n ⟨3, 0, v⟩ (fun _ => hr)
theorem QOk.take (h : QOk S) (hd : S.ws.Pairwise fun a b => a.n ≠ b.n) (n : Int) : QOk (takeM S n).2 := by
  unfold takeM
  split
  · exact h
  · split
    · exact h
    · split
      · rename_i x _
        have := h.add hd n ⟨4, x.n, x.v⟩ (fun e => by cases e)
        exact this.less (by dsimp only; rw [giveI_len]; exact Nat.le_refl _) (Int.le_refl _) this.g0
      · exact h
theorem QOk.prep (h : QOk S) (hd : S.ws.Pairwise fun a b => a.n ≠ b.n) (n : Int) : QOk (prepM S n).2 := by
  unfold prepM
  split
  · exact h
  · split
    · exact h
    · exact h.ws' (lay_same S.ws n true hd)
theorem keptI_le (L : List IT) (n : Int) : (keptI L n).length ≤ L.length := List.length_filter_le _ _
theorem QOk.commit (h : QOk S) (hd : S.ws.Pairwise fun a b => a.n ≠ b.n) (n : Int) : QOk (commitM S n).2 := by
  unfold commitM
  split
  · exact h
  · have h1 := putsW_others S.ws n hd
    have h2 := keptI_le S.I n
    exact h.less (by dsimp only; rw [List.length_append, newsQ_len]; omega) (by dsimp only; omega) (by have := h.g0; dsimp only; omega)
theorem QOk.back (h : QOk S) (hd : S.ws.Pairwise fun a b => a.n ≠ b.n) (n : Int) : QOk (backM S n).2 := by
  unfold backM
  split
  · exact h
  · have h1 := putsW_others S.ws n hd
    exact h.less (by dsimp only; rw [List.length_map]; omega) (by dsimp only; omega) h.g0
theorem QOk.rest (h : QOk S) (hd : S.ws.Pairwise fun a b => a.n ≠ b.n) (n : Int) (l : List Ch) : QOk (restM S n l).2 := by
  unfold restM
  split
  · exact h
  · split
    · exact h
    · split
      · exact h
      · rename_i hr
        split
        · exact h
        · rename_i hb
          split
          · exact h
          · have h1 := lay_new (l := l) (p := true) hd (by simpa using hb)
            unfold roomQ at hr
            refine ⟨?_, h.g0, ?_⟩
            · dsimp only; rw [givenI_len]; omega
            · dsimp only; omega
theorem QOk.load (h : QOk S) (vals : List Nat) (next : Int) : QOk (loadM S vals next).2 := by
  unfold loadM
  split
  · exact h
  · rename_i hi
    split
    · exact h
    · rename_i hb
      have hw : S.ws = [] := Classical.byContradiction fun e => hi (.inr e)
      have h0 : putsW S.ws = 0 := by rw [hw]; rfl
      refine ⟨?_, ?_, ?_⟩
      · dsimp only; rw [loadF_len]; omega
      · dsimp only; omega
      · dsimp only; omega
end
theorem prepM_B (S : QS) (B : Nat → Prop) (n : Int) : prepM { S with B := B } n = ((prepM S n).1, { (prepM S n).2 with B := B }) := by
  have e : openE { S with B := B } n = openE S n := rfl
  unfold prepM
  rw [e]
  dsimp only
  split
  · rfl
  · split <;> rfl
theorem putM_B (S : QS) (n : Int) (v : Nat) : (putM S n v).2.B = S.B := by unfold putM; split; rfl; split <;> rfl
theorem takeM_B (S : QS) (n : Int) : (takeM S n).2.B = S.B := by unfold takeM; split; rfl; split; rfl; split <;> rfl
theorem prepM_B' (S : QS) (n : Int) : (prepM S n).2.B = S.B := by unfold prepM; split; rfl; split <;> rfl
theorem commitM_B (S : QS) (n : Int) : (commitM S n).2.B = S.B := by unfold commitM; split <;> rfl
theorem backM_B (S : QS) (n : Int) : (backM S n).2.B = S.B := by unfold backM; split <;> rfl
theorem restM_B (S : QS) (n : Int) (l : List Ch) : (restM S n l).2.B = S.B := by unfold restM; split; rfl; split; rfl; split; rfl; split; rfl; split <;> rfl
theorem loadM_B (S : QS) (l : List Nat) (n : Int) : (loadM S l n).2.B = S.B := by unfold loadM; split; rfl; split <;> rfl
/-- An Op of the laws. -/
structure OpV where
  k : Int
  n : Int
  x : Int
  v : Nat
  A : Option Addr
  l : List Ch
  c : Nat
  VA : Option Addr
  vs : List Nat
  vc : Nat
def OpV.val (o : OpV) : Value := .agg #[.int .i64 o.k, .int .i64 o.n, .int .i64 o.x, .int .u64 (o.v : Nat), .slice o.A o.l.length o.c, .slice o.VA o.vs.length o.vc]
def callM (S : QS) (o : OpV) : (Nat × List Ch × Int) × QS :=
  if o.k = 0 then ((0, [], (putM S o.n o.v).1), (putM S o.n o.v).2)
  else if o.k = 1 then (((takeM S o.n).1.1, [], (takeM S o.n).1.2), (takeM S o.n).2)
  else if o.k = 2 then ((0, (prepM S o.n).1.1, (prepM S o.n).1.2), (prepM S o.n).2)
  else if o.k = 3 then ((0, [], (commitM S o.n).1), (commitM S o.n).2)
  else if o.k = 4 then ((0, [], (backM S o.n).1), (backM S o.n).2)
  else if o.k = 5 then ((0, [], (restM S o.n o.l).1), (restM S o.n o.l).2)
  else if o.k = 6 then ((0, [], (loadM S o.vs o.x).1), (loadM S o.vs o.x).2)
  else ((0, [], 0), S)
theorem callM_B (S : QS) (o : OpV) : (callM S o).2.B = S.B := by
  unfold callM
  split; exact putM_B _ _ _
  split; exact takeM_B _ _
  split; exact prepM_B' _ _
  split; exact commitM_B _ _
  split; exact backM_B _ _
  split; exact restM_B _ _ _
  split; exact loadM_B _ _ _
  rfl
theorem QOk.call {S : QS} (h : QOk S) (hd : S.ws.Pairwise fun a b => a.n ≠ b.n) (o : OpV) : QOk (callM S o).2 := by
  unfold callM
  split; exact h.put hd _ _
  split; exact h.take hd _
  split; exact h.prep hd _
  split; exact h.commit hd _
  split; exact h.back hd _
  split; exact h.rest hd _ _
  split; exact h.load _ _
  exact h
/-- What comes of a call, and the queue behind it: its lists lie where they may, and not in what is handed out. -/
def CallO (w : World) (g of : Nat) (tt : TypeId) (cs : Array Value) (N : Nat) (B : Nat → Prop) (r : (Nat × List Ch × Int) × QS) (e : Ending) (w' : World) : Prop :=
  ∃ A q c, e = .returned (.tuple #[.int .u64 (r.1.1 : Nat), .slice A q c, .int .i64 r.1.2.2]) ∧ q = r.1.2.1.length ∧ OwnC w' w.heap.size A c r.1.2.1 ∧ QO w g of tt cs { r.2 with B := fun b => B b ∧ blk A ≠ some b } (N + 1) w'
theorem CallO.mk0 {a w : World} {g of : Nat} {tt : TypeId} {cs cs1 : Array Value} {N N' : Nat} {S : QS} {v : Nat} {er : Int} {w' : World} (hk : Keep3 of cs cs1) (hg : a.grownBy w (some g)) (h : QO w g of tt cs1 S N' w') (hN : N' ≤ N + 1) : CallO a g of tt cs N S.B ((v, [], er), S) (.returned (.tuple #[.int .u64 (v : Nat), .slice none 0 0, .int .i64 er])) w' := by
  refine ⟨none, 0, 0, rfl, rfl, OwnC.nil _ _, ?_⟩
  obtain ⟨⟨cs', h1, h2⟩, h3⟩ := QO.from hk hg h
  exact ⟨⟨cs', (h1.more hN).rebase fun b hb _ => ⟨hb, by simp [blk]⟩, h2⟩, h3⟩
set_option maxRecDepth 100000 in
set_option maxHeartbeats 4000000 in
theorem call_any (g : Nat) (tt : TypeId) (cs : Array Value) (S : QS) (N : Nat) (o : OpV) (w : World) (h : QAt w g 0 tt cs S N) (hok : QOk S) (hN : 40 ≤ N ∧ N < 200000) (hn : i64ok o.n) (hl : o.k = 5 → o.l.length ≤ 40) (hL : o.k = 5 → ∀ u, w.grownBy u (some g) → InL u o.A o.l) (hz : o.k = 6 → UAt w o.VA o.vs) (hB : ∀ b, w.heap.size ≤ b → S.B b) :
    Calls Try.prog 13 #[.pointer (some ⟨g, 0, none⟩), o.val] w (CallO w g 0 tt cs N S.B (callM S o)) := by
  obtain ⟨k, n, x, v, A, l, c, VA, vs, vc⟩ := o
  dsimp only at hn hl hL hz
  show Calls Try.prog _ #[.pointer (some ⟨g, 0, none⟩), .agg #[.int .i64 k, .int .i64 n, .int .i64 x, .int .u64 (v : Nat), .slice A l.length c, .slice VA vs.length vc]] w _
  obtain ⟨q, hq⟩ : ∃ q, q = l.length := ⟨_, rfl⟩
  obtain ⟨vq, hvq⟩ : ∃ vq, vq = vs.length := ⟨_, rfl⟩
  rw [← hq, ← hvq]
  obtain ⟨w1, hw1⟩ : ∃ w1, w1 = w.alloc (.cells #[.int .i64 k, .int .i64 n, .int .i64 x, .int .u64 (v : Nat), .slice A q c, .slice VA vq vc] 35) := ⟨_, rfl⟩
  have b1 : Below w.heap.size w w1 := by rw [hw1]; exact ba _ _
  have k1 : Blk w1 w.heap.size 35 #[.int .i64 k, .int .i64 n, .int .i64 x, .int .u64 (v : Nat), .slice A q c, .slice VA vq vc] := by rw [hw1]; exact Blk.new _ _ _
  have d0 := k1.cell 0
  have d1 := k1.cell 1
  have d2 := k1.cell 2
  have d3 := k1.cell 3
  have d4 := k1.cell 4
  have d5 := k1.cell 5
  simp only [List.getElem?_toArray, List.getElem?_cons_zero, List.getElem?_cons_succ] at d0 d1 d2 d3 d4 d5
  have h1 := h.below b1
  have hB1 : ∀ b, w1.heap.size ≤ b → S.B b := fun b hb => hB b (Nat.le_trans b1.size hb)
  have Hg1 := Lib.hid (lbelow_grown b1 (some g))
  have HW := Lib.hid hw1
  rw [hw1] at d0 d1 d2 d3 d4 d5
  rcases e0 : (k == 0) with _ | _
  ·
    rcases e1 : (k == 1) with _ | _
    ·
      rcases e2 : (k == 2) with _ | _
      ·
        rcases e3 : (k == 3) with _ | _
        ·
          rcases e4 : (k == 4) with _ | _
          ·
            rcases e5 : (k == 5) with _ | _
            ·
              rcases e6 : (k == 6) with _ | _
              ·
                have hM : callM S ⟨k, n, x, v, A, l, c, VA, vs, vc⟩ = ((0, [], 0), S) := by
                  unfold callM; dsimp only
                  rw [if_neg (by simpa using e0), if_neg (by simpa using e1), if_neg (by simpa using e2), if_neg (by simpa using e3), if_neg (by simpa using e4), if_neg (by simpa using e5), if_neg (by simpa using e6)]
                rw [hM]
                have HF := Lib.hid (CallO.mk0 (N := N) (v := 0) (er := 0) (Keep3.rfl' (of := 0) (cs := cs)) Hg1.out (QO.same h1 (Below.refl _ _)) (by omega))
                clear h h1 hok hN hB hB1 hL hl hz hn hq hvq hw1 b1 k1 hM
                go_enter Try.func13, Try.ntmps13
                go_wp2
                rw [← HW.out]
                go_returns
                exact HF.out
              ·
                have hM : callM S ⟨k, n, x, v, A, l, c, VA, vs, vc⟩ = ((0, [], (loadM S vs x).1), (loadM S vs x).2) := by
                  unfold callM; dsimp only
                  rw [if_neg (by simpa using e0), if_neg (by simpa using e1), if_neg (by simpa using e2), if_neg (by simpa using e3), if_neg (by simpa using e4), if_neg (by simpa using e5), if_pos (by simpa using e6)]
                rw [hM]
                have HB := Lib.hid (loadM_B S vs x)
                have HC := Lib.hid (load_any g 0 tt cs S N VA vs vq vc x w1 h1 (Lib.hid hvq) ((hz (by simpa using e6)).below b1))
                obtain ⟨R, hR⟩ : ∃ R, R = loadM S vs x := ⟨_, rfl⟩
                rw [← hR] at HB HC ⊢
                obtain ⟨re, rS⟩ := R
                dsimp only at HB HC ⊢
                rw [← HB.out]
                clear h h1 hok hN hB hB1 hL hl hz hn hq hvq hw1 b1 k1 hM hR
                go_enter Try.func13, Try.ntmps13
                go_wp2_with fail
                rw [← HW.out]
                refine HC.out.mono ?_
                rintro e w2 ⟨rfl, hk⟩
                have HF := Lib.hid (CallO.mk0 (N := N) (v := 0) (er := re) (Keep3.rfl' (of := 0) (cs := cs)) Hg1.out hk (by omega))
                clear hk
                go_wp2
                go_returns
                exact HF.out
            ·
              have hM : callM S ⟨k, n, x, v, A, l, c, VA, vs, vc⟩ = ((0, [], (restM S n l).1), (restM S n l).2) := by
                unfold callM; dsimp only
                rw [if_neg (by simpa using e0), if_neg (by simpa using e1), if_neg (by simpa using e2), if_neg (by simpa using e3), if_neg (by simpa using e4), if_pos (by simpa using e5)]
              rw [hM]
              have HB := Lib.hid (restM_B S n l)
              have HC := Lib.hid (rest_any g 0 tt cs S N n A l q c w1 h1 (by omega) hn (Lib.hid hq) (by have := hl (by simpa using e5); omega) (fun u hu => hL (by simpa using e5) u (Hg1.out.trans hu)) hB1)
              obtain ⟨R, hR⟩ : ∃ R, R = restM S n l := ⟨_, rfl⟩
              rw [← hR] at HB HC ⊢
              obtain ⟨re, rS⟩ := R
              dsimp only at HB HC ⊢
              rw [← HB.out]
              clear h h1 hok hN hB hB1 hL hl hz hn hq hvq hw1 b1 k1 hM hR
              go_enter Try.func13, Try.ntmps13
              go_wp2_with fail
              rw [← HW.out]
              refine HC.out.mono ?_
              rintro e w2 ⟨rfl, hk⟩
              have HF := Lib.hid (CallO.mk0 (N := N) (v := 0) (er := re) (Keep3.rfl' (of := 0) (cs := cs)) Hg1.out hk (by omega))
              clear hk
              go_wp2
              go_returns
              exact HF.out
          ·
            have hM : callM S ⟨k, n, x, v, A, l, c, VA, vs, vc⟩ = ((0, [], (backM S n).1), (backM S n).2) := by
              unfold callM; dsimp only
              rw [if_neg (by simpa using e0), if_neg (by simpa using e1), if_neg (by simpa using e2), if_neg (by simpa using e3), if_pos (by simpa using e4)]
            rw [hM]
            have HB := Lib.hid (backM_B S n)
            have HC := Lib.hid (backout_any g 0 tt cs S N n w1 h1 hn)
            obtain ⟨R, hR⟩ : ∃ R, R = backM S n := ⟨_, rfl⟩
            rw [← hR] at HB HC ⊢
            obtain ⟨re, rS⟩ := R
            dsimp only at HB HC ⊢
            rw [← HB.out]
            clear h h1 hok hN hB hB1 hL hl hz hn hq hvq hw1 b1 k1 hM hR
            go_enter Try.func13, Try.ntmps13
            go_wp2_with fail
            rw [← HW.out]
            refine HC.out.mono ?_
            rintro e w2 ⟨rfl, hk⟩
            have HF := Lib.hid (CallO.mk0 (N := N) (v := 0) (er := re) (Keep3.rfl' (of := 0) (cs := cs)) Hg1.out hk (by omega))
            clear hk
            go_wp2
            go_returns
            exact HF.out
        ·
          have hM : callM S ⟨k, n, x, v, A, l, c, VA, vs, vc⟩ = ((0, [], (commitM S n).1), (commitM S n).2) := by
            unfold callM; dsimp only
            rw [if_neg (by simpa using e0), if_neg (by simpa using e1), if_neg (by simpa using e2), if_pos (by simpa using e3)]
          rw [hM]
          have HB := Lib.hid (commitM_B S n)
          have HC := Lib.hid (commit_any g 0 tt cs S N n w1 h1 hok (by omega) hn)
          obtain ⟨R, hR⟩ : ∃ R, R = commitM S n := ⟨_, rfl⟩
          rw [← hR] at HB HC ⊢
          obtain ⟨re, rS⟩ := R
          dsimp only at HB HC ⊢
          rw [← HB.out]
          clear h h1 hok hN hB hB1 hL hl hz hn hq hvq hw1 b1 k1 hM hR
          go_enter Try.func13, Try.ntmps13
          go_wp2_with fail
          rw [← HW.out]
          refine HC.out.mono ?_
          rintro e w2 ⟨rfl, hk⟩
          have HF := Lib.hid (CallO.mk0 (N := N) (v := 0) (er := re) (Keep3.rfl' (of := 0) (cs := cs)) Hg1.out hk (by omega))
          clear hk
          go_wp2
          go_returns
          exact HF.out
      ·
        have hM : callM S ⟨k, n, x, v, A, l, c, VA, vs, vc⟩ = ((0, (prepM S n).1.1, (prepM S n).1.2), (prepM S n).2) := by
          unfold callM; dsimp only
          rw [if_neg (by simpa using e0), if_neg (by simpa using e1), if_pos (by simpa using e2)]
        rw [hM]
        have hr := prep_any g 0 tt cs { S with B := fun b => S.B b ∧ b < w1.heap.size } N n w1 (h1.rebase fun b hb hlt => ⟨hb, hlt⟩) (by omega) hn
        rw [prepM_B] at hr
        have HC := Lib.hid hr
        obtain ⟨R, hR⟩ : ∃ R, R = prepM S n := ⟨_, rfl⟩
        rw [← hR] at HC ⊢
        obtain ⟨⟨rl, re⟩, rS⟩ := R
        dsimp only at HC ⊢
        have hsz := b1.size
        clear h h1 hok hN hB hB1 hL hl hz hn hq hvq hw1 b1 k1 hM hR hr
        go_enter Try.func13, Try.ntmps13
        go_wp2_with fail
        rw [← HW.out]
        refine HC.out.mono ?_
        rintro e w2 ⟨⟨A2, q2, c2, rfl, hq2, own2⟩, ⟨⟨cs', hk2, hkp⟩, hg2⟩⟩
        have HF : Hid (CallO w g 0 tt cs N S.B ((0, rl, re), rS) (.returned (.tuple #[.int .u64 ((0 : Nat) : Nat), .slice A2 q2 c2, .int .i64 re])) w2) := Lib.hid
          ⟨A2, q2, c2, rfl, hq2, own2.less hsz, ⟨cs', hk2.rebase fun b hb _ => ⟨hb.1, fun e => by have := own2.lt' b e; have := hb.2; omega⟩, hkp⟩, Hg1.out.trans hg2⟩
        clear hq2 own2 hk2 hkp hg2
        go_wp2
        go_returns
        exact HF.out
    ·
      have hM : callM S ⟨k, n, x, v, A, l, c, VA, vs, vc⟩ = (((takeM S n).1.1, [], (takeM S n).1.2), (takeM S n).2) := by
        unfold callM; dsimp only
        rw [if_neg (by simpa using e0), if_pos (by simpa using e1)]
      rw [hM]
      have HB := Lib.hid (takeM_B S n)
      have HC := Lib.hid (take_any g 0 tt cs S N n w1 h1 (by omega) hn hB1)
      obtain ⟨R, hR⟩ : ∃ R, R = takeM S n := ⟨_, rfl⟩
      rw [← hR] at HB HC ⊢
      obtain ⟨⟨rv, re⟩, rS⟩ := R
      dsimp only at HB HC ⊢
      rw [← HB.out]
      clear h h1 hok hN hB hB1 hL hl hz hn hq hvq hw1 b1 k1 hM hR
      go_enter Try.func13, Try.ntmps13
      go_wp2_with fail
      rw [← HW.out]
      refine HC.out.mono ?_
      rintro e w2 ⟨rfl, hk⟩
      have HF := Lib.hid (CallO.mk0 (N := N) (v := rv) (er := re) (Keep3.rfl' (of := 0) (cs := cs)) Hg1.out hk (by omega))
      clear hk
      go_wp2
      go_returns
      exact HF.out
  ·
    have hM : callM S ⟨k, n, x, v, A, l, c, VA, vs, vc⟩ = ((0, [], (putM S n v).1), (putM S n v).2) := by
      unfold callM; dsimp only
      rw [if_pos (by simpa using e0)]
    rw [hM]
    have HB := Lib.hid (putM_B S n v)
    have HC := Lib.hid (put_any g 0 tt cs S N n v w1 h1 (by omega) hn hB1)
    obtain ⟨R, hR⟩ : ∃ R, R = putM S n v := ⟨_, rfl⟩
    rw [← hR] at HB HC ⊢
    obtain ⟨re, rS⟩ := R
    dsimp only at HB HC ⊢
    rw [← HB.out]
    clear h h1 hok hN hB hB1 hL hl hz hn hq hvq hw1 b1 k1 hM hR
    go_enter Try.func13, Try.ntmps13
    go_wp2_with fail
    rw [← HW.out]
    refine HC.out.mono ?_
    rintro e w2 ⟨rfl, hk⟩
    have HF := Lib.hid (CallO.mk0 (N := N) (v := 0) (er := re) (Keep3.rfl' (of := 0) (cs := cs)) Hg1.out hk (by omega))
    clear hk
    go_wp2
    go_returns
    exact HF.out
end Go.Proofs.Ytfcafahgmnnlnaa.Qu

namespace Go.Proofs.Ytfcafahgmnnlnaa.Qu
open Go.RowKit Go.Maps Go.Deep
set_option linter.unusedVariables false
set_option linter.unusedSimpArgs false

theorem QOk.zero (B : Nat → Prop) : QOk (QS.zero B) := ⟨Nat.zero_le _, Int.le_refl _, by show (0 : Int) + 1 + ((0 : Nat) : Int) ≤ 4611686018427387904; decide⟩
theorem small_ok (x : Int) (h1 : -1000 ≤ x) (h2 : x ≤ 1000) : i64ok x := by unfold i64ok; omega
theorem aliveM : ∃ S1 S2 S3 S4 S5 S6, putM (QS.zero anyB) 1 7 = (0, S1) ∧ commitM S1 1 = (0, S2) ∧ takeM S2 2 = ((7, 0), S3) ∧ takeM S3 3 = ((0, 120), S4) ∧ backM S4 2 = (0, S5) ∧ takeM S5 3 = ((7, 0), S6) ∧ S6.g = 1 :=
  ⟨_, _, _, _, _, _, rfl, rfl, rfl, rfl, rfl, rfl, rfl⟩
set_option maxRecDepth 100000 in
set_option maxHeartbeats 2000000 in
theorem alive_any (w : World) : Calls Try.prog 12 #[] w fun e w' => e = .returned (.bool true) ∧ Below w.heap.size w w' := by
  obtain ⟨S1, S2, S3, S4, S5, S6, e1, e2, e3, e4, e5, e6, e7⟩ := aliveM
  have q1 : S1.B = anyB := by have := putM_B (QS.zero anyB) 1 7; rw [e1] at this; exact this
  have q2 : S2.B = anyB := by have := commitM_B S1 1; rw [e2] at this; exact this.trans q1
  have q3 : S3.B = anyB := by have := takeM_B S2 2; rw [e3] at this; exact this.trans q2
  have q4 : S4.B = anyB := by have := takeM_B S3 3; rw [e4] at this; exact this.trans q3
  have q5 : S5.B = anyB := by have := backM_B S4 2; rw [e5] at this; exact this.trans q4
  have k1 : QOk S1 := by have := (QOk.zero anyB).put List.Pairwise.nil 1 7; rw [e1] at this; exact this
  have E := Lib.hid (And.intro e1 (And.intro e2 (And.intro e3 (And.intro e4 (And.intro e5 (And.intro e6 e7))))))
  have EQ := Lib.hid (And.intro q1 (And.intro q2 (And.intro q3 (And.intro q4 (And.intro q5 k1)))))
  clear e1 e2 e3 e4 e5 e6 e7 q1 q2 q3 q4 q5 k1
  obtain ⟨g, hg⟩ : ∃ g, g = w.heap.size := ⟨_, rfl⟩
  have HG := Lib.hid hg
  go_enter Try.func12, Try.ntmps12
  go_wp2_with fail
  refine (new_any anyB w).mono ?_
  rintro e w1 ⟨rfl, ⟨cs, hk⟩, b1⟩
  rw [← hg] at hk ⊢
  clear hg
  have hr := put_any g 0 _ cs _ 0 1 7 w1 hk (by omega) (small_ok _ (by omega) (by omega)) (fun b _ => trivial)
  rw [E.out.1] at hr
  have HC1 := Lib.hid hr
  have HB1 := Lib.hid b1
  clear hk b1 hr
  go_wp2_with fail
  refine HC1.out.mono ?_
  rintro e w2 ⟨rfl, ⟨⟨cs2, hk2, _⟩, hg2⟩⟩
  have hB2 := HB1.out.grown hg2 HB1.out.size (fun r e => by cases e; have := HG.out; omega)
  have hr := commit_any g 0 _ cs2 S1 1 1 w2 hk2 EQ.out.2.2.2.2.2 (by omega) (small_ok _ (by omega) (by omega))
  rw [E.out.2.1] at hr
  have HC2 := Lib.hid hr
  have HB2 := Lib.hid hB2
  clear hk2 hg2 hB2 hr
  go_wp2_with fail
  refine HC2.out.mono ?_
  rintro e w3 ⟨rfl, ⟨⟨cs3, hk3, _⟩, hg3⟩⟩
  have hB3 := HB2.out.grown hg3 HB2.out.size (fun r e => by cases e; have := HG.out; omega)
  have hr := take_any g 0 _ cs3 S2 1 2 w3 hk3 (by omega) (small_ok _ (by omega) (by omega)) (fun b _ => by rw [EQ.out.2.1]; trivial)
  rw [E.out.2.2.1] at hr
  have HC3 := Lib.hid hr
  have HB3 := Lib.hid hB3
  clear hk3 hg3 hB3 hr
  go_wp2_with fail
  refine HC3.out.mono ?_
  rintro e w4 ⟨rfl, ⟨⟨cs4, hk4, _⟩, hg4⟩⟩
  have hB4 := HB3.out.grown hg4 HB3.out.size (fun r e => by cases e; have := HG.out; omega)
  have hr := take_any g 0 _ cs4 S3 2 3 w4 hk4 (by omega) (small_ok _ (by omega) (by omega)) (fun b _ => by rw [EQ.out.2.2.1]; trivial)
  rw [E.out.2.2.2.1] at hr
  have HC4 := Lib.hid hr
  have HB4 := Lib.hid hB4
  clear hk4 hg4 hB4 hr
  go_wp2_with fail
  refine HC4.out.mono ?_
  rintro e w5 ⟨rfl, ⟨⟨cs5, hk5, _⟩, hg5⟩⟩
  have hB5 := HB4.out.grown hg5 HB4.out.size (fun r e => by cases e; have := HG.out; omega)
  have hr := backout_any g 0 _ cs5 S4 3 2 w5 hk5 (small_ok _ (by omega) (by omega))
  rw [E.out.2.2.2.2.1] at hr
  have HC5 := Lib.hid hr
  have HB5 := Lib.hid hB5
  clear hk5 hg5 hB5 hr
  go_wp2_with fail
  refine HC5.out.mono ?_
  rintro e w6 ⟨rfl, ⟨⟨cs6, hk6, _⟩, hg6⟩⟩
  have hB6 := HB5.out.grown hg6 HB5.out.size (fun r e => by cases e; have := HG.out; omega)
  have hr := take_any g 0 _ cs6 S5 3 3 w6 hk6 (by omega) (small_ok _ (by omega) (by omega)) (fun b _ => by rw [EQ.out.2.2.2.2.1]; trivial)
  rw [E.out.2.2.2.2.2.1] at hr
  have HC6 := Lib.hid hr
  have HB6 := Lib.hid hB6
  clear hk6 hg6 hB6 hr
  go_wp2_with fail
  refine HC6.out.mono ?_
  rintro e w7 ⟨rfl, ⟨⟨cs7, hk7, _⟩, hg7⟩⟩
  have hB7 := HB6.out.grown hg7 HB6.out.size (fun r e => by cases e; have := HG.out; omega)
  have hr := next_any g 0 _ cs7 S6 4 w7 hk7
  rw [E.out.2.2.2.2.2.2] at hr
  have HC7 := Lib.hid hr
  have HB7 := Lib.hid hB7
  clear hk7 hg7 hB7 hr
  go_wp2_with fail
  refine HC7.out.mono ?_
  rintro e w8 ⟨rfl, rfl⟩
  go_wp2
  go_ret
  exact ⟨rfl, HB7.out⟩
set_option maxRecDepth 100000 in
set_option maxHeartbeats 2000000 in
theorem same_any (A A' : Option Addr) (zs zs' : List Nat) (n n' c c' : Nat) (w : World) (hn : Hid (n = zs.length)) (hn' : Hid (n' = zs'.length)) (hm : n ≤ 9223372036854775807) (h : UAt w A zs) (h' : UAt w A' zs') :
    Calls Try.prog 16 #[.slice A n c, .slice A' n' c'] w fun e w' => e = .returned (.bool (decide (zs = zs'))) ∧ Below w.heap.size w w' := by
  by_cases hnn : n = n'
  · subst hnn
    have HI : Hid (Below w.heap.size w w ∧ ∀ k, k < 0 → zs[k]? = zs'[k]?) := Lib.hid ⟨Below.refl _ _, fun k hk => by omega⟩
    have H := Lib.hid (And.intro h h')
    clear h h'
    have hnn : ((n : Int) != (n : Int)) = false := by simp
    obtain ⟨r, hr⟩ : ∃ r, r = decide (zs = zs') := ⟨_, rfl⟩
    rw [← hr]
    have HR := Lib.hid hr
    clear hr
    go_enter Try.func16, Try.ntmps16
    go_wp2_with fail
    go_loopw [5] (fun i wr => ∃ (i0 : Nat), i0 ≤ n ∧ i = .int .i64 i0 ∧ Hid (Below w.heap.size w wr ∧ ∀ k, k < i0 → zs[k]? = zs'[k]?)) (fun i _ => n - (intOf i).toNat)
    case atStart => exact ⟨0, Nat.zero_le _, rfl, HI⟩
    case round =>
      clear HI
      obtain ⟨j, hj, rfl, HW⟩ := hrel
      by_cases hjn : j < n
      · have hjI : (j : Int) < (n : Int) := by omega
        have hjl : j < zs.length := by rw [← hn.out]; exact hjn
        have hjl' : j < zs'.length := by rw [← hn'.out]; exact hjn
        obtain ⟨b, o, rfl, hbk, hcs⟩ := H.out.1.below HW.out.1 (by omega)
        obtain ⟨b', o', rfl, hbk', hcs'⟩ := H.out.2.below HW.out.1 (by omega)
        have q0 := hcs j hjl
        have p0 := hcs' j hjl'
        obtain ⟨x, hx⟩ : ∃ x, x = zs[j]'hjl := ⟨_, rfl⟩
        obtain ⟨y, hy⟩ : ∃ y, y = zs'[j]'hjl' := ⟨_, rfl⟩
        rw [← hx] at q0
        rw [← hy] at p0
        have e0 := fun m : Nat => cell_drew' q0 m
        have d0 := fun m : Nat => cell_drew' p0 m
        have hdr : ∀ m : Nat, Below wr.heap.size wr (wr.drewN m) := fun m => ⟨rfl, rfl, rfl, Nat.le_refl _, fun _ _ => rfl⟩
        by_cases hxy : x = y
        · subst hxy
          have hne : ((x : Int) != (x : Int)) = false := by simp
          have HX : Hid (∀ m : Nat, Below w.heap.size w (wr.drewN m) ∧ ∀ k, k < j + 1 → zs[k]? = zs'[k]?) := Lib.hid fun m => ⟨bt HW.out.1 (hdr m), fun k hk => by
            by_cases e : k = j
            · subst e; rw [List.getElem?_eq_getElem hjl, List.getElem?_eq_getElem hjl', ← hx, ← hy]
            · exact HW.out.2 k (by omega)⟩
          clear hbk hbk' hcs hcs' hjl hjl' q0 p0 HW hdr hx hy
          go_wp2_with fail
          go_quiet (fail)
          have HX2 := Lib.hid (HX.out nq)
          clear e0 d0 HX
          go_wp2
          go_roundw
          case rel => exact ⟨j + 1, by omega, by go_num, HX2⟩
          case measure => simp [intOf]; omega
        · have hne : ((x : Int) != (y : Int)) = true := by simp; omega
          have HX : Hid (r = false ∧ ∀ m : Nat, Below w.heap.size w (wr.drewN m)) := Lib.hid ⟨by
            rw [HR.out]
            refine decide_eq_false fun e => hxy ?_
            subst e
            rw [hx, hy], fun m => bt HW.out.1 (hdr m)⟩
          clear hbk hbk' hcs hcs' hjl hjl' q0 p0 HW hdr hx hy hxy
          go_wp2_with fail
          go_quiet (fail)
          have HX2 := Lib.hid (HX.out.2 nq)
          clear e0 d0
          go_wp2
          go_ret
          exact ⟨by rw [HX.out.1]; rfl, HX2.out⟩
      · have hjI : ¬ (j : Int) < (n : Int) := by omega
        have hF := Lib.hid (show r = true ∧ Below w.heap.size w wr from ⟨by
          rw [HR.out]
          refine decide_eq_true (List.ext_getElem? fun k => ?_)
          by_cases e : k < j
          · exact HW.out.2 k e
          · rw [List.getElem?_eq_none (by rw [← hn.out]; omega), List.getElem?_eq_none (by rw [← hn'.out]; omega)], HW.out.1⟩)
        clear HW
        go_wp2
        go_ret
        exact ⟨by rw [hF.out.1]; rfl, hF.out.2⟩
  · have hb : ((n : Int) != (n' : Int)) = true := by simp; omega
    have hF : Hid (decide (zs = zs') = false) := Lib.hid (decide_eq_false fun e => hnn (by rw [hn.out, hn'.out, e]))
    clear h h' hnn
    go_enter Try.func16, Try.ntmps16
    go_wp2
    go_ret
    exact ⟨by rw [hF.out]; rfl, Below.refl _ _⟩
theorem putsL_step (l : List Ch) (i : Nat) (h : i < l.length) : putsL (l.take (i + 1)) = putsL (l.take i) + (if (l[i]'h).k = 3 then 1 else 0) := by
  have e2 : l.take (i + 1) = l.take i ++ [l[i]'h] := by rw [List.take_add_one, List.getElem?_eq_getElem h]; rfl
  rw [e2, putsL_snoc]
set_option maxRecDepth 100000 in
set_option maxHeartbeats 2000000 in
theorem refputs_any (A : Option Addr) (l : List Ch) (n c : Nat) (w : World) (hn : Hid (n = l.length)) (hm : n ≤ 1000000) (h : InL w A l) :
    Calls Try.prog 27 #[.slice A n c] w fun e w' => e = .returned (.int .i64 (putsL l : Nat)) ∧ Below w.heap.size w w' := by
  obtain ⟨pz, hpz⟩ : ∃ pz, pz = putsL l := ⟨_, rfl⟩
  rw [← hpz]
  have HP := Lib.hid hpz
  clear hpz
  go_enter Try.func27, Try.ntmps27
  go_wp2_with fail
  go_loopw [3, 4] (fun v i wr => ∃ (i0 k : Nat), i0 ≤ n ∧ k ≤ i0 ∧ v = .int .i64 k ∧ i = .int .i64 i0 ∧ Hid (k = putsL (l.take i0) ∧ Below w.heap.size w wr)) (fun _ i _ => n - (intOf i).toNat)
  case atStart => exact ⟨0, 0, Nat.zero_le _, Nat.le_refl _, rfl, rfl, Lib.hid ⟨rfl, Below.refl _ _⟩⟩
  case round =>
    obtain ⟨j, k, hj, hkj, rfl, rfl, HW⟩ := hrel
    by_cases hjn : j < n
    · have hjI : (j : Int) < (n : Int) := by omega
      have hjl : j < l.length := by rw [← hn.out]; exact hjn
      obtain ⟨b, o, rfl, hbk, hcs⟩ := h.below HW.out.2 (by omega)
      have q0 := (hcs j hjl).1
      have hst := putsL_step l j hjl
      generalize l[j]'hjl = x at q0 hst
      obtain ⟨xk, xy, xv⟩ := x
      dsimp only at q0 hst
      by_cases h3 : xk = 3
      · subst h3
        rw [if_pos rfl] at hst
        have HN : Hid (k + 1 = putsL (l.take (j + 1)) ∧ Below w.heap.size w wr) := Lib.hid ⟨by rw [hst, HW.out.1], HW.out.2⟩
        clear hst HW hcs hbk hjl h
        go_wp2
        go_roundw
        case rel => exact ⟨j + 1, k + 1, by omega, by omega, by go_num, by go_num, HN⟩
        case measure => simp [intOf]; omega
      · rw [if_neg h3] at hst
        have HN : Hid (k = putsL (l.take (j + 1)) ∧ Below w.heap.size w wr) := Lib.hid ⟨by rw [hst, HW.out.1]; rfl, HW.out.2⟩
        have h3b : (xk == 3) = false := by simpa using h3
        clear hst HW hcs hbk hjl h h3
        go_wp2
        go_roundw
        case rel => exact ⟨j + 1, k, by omega, by omega, rfl, by go_num, HN⟩
        case measure => simp [intOf]; omega
    · have hjI : ¬ (j : Int) < (n : Int) := by omega
      have hF : Hid (k = pz ∧ Below w.heap.size w wr) := Lib.hid ⟨by rw [HW.out.1, HP.out, List.take_of_length_le (by rw [← hn.out]; omega)], HW.out.2⟩
      clear HW h
      go_wp2
      go_ret
      exact ⟨by rw [hF.out.1]; rfl, hF.out.2⟩
def longB (o : OpV) : Bool := decide (40 < o.l.length) || decide (40 < o.vs.length)
set_option maxRecDepth 100000 in
theorem long_any (o : OpV) (w : World) : Calls Try.prog 11 #[o.val] w fun e w' => e = .returned (.bool (longB o)) ∧ Below w.heap.size w w' := by
  obtain ⟨k, n, x, v, A, l, c, VA, vs, vc⟩ := o
  show Calls Try.prog _ #[.agg #[.int .i64 k, .int .i64 n, .int .i64 x, .int .u64 (v : Nat), .slice A l.length c, .slice VA vs.length vc]] w fun e w' => e = .returned (.bool (decide (40 < l.length) || decide (40 < vs.length))) ∧ Below w.heap.size w w'
  generalize l.length = q
  generalize vs.length = vq
  have HB := Lib.hid (ba w (.cells #[.int .i64 k, .int .i64 n, .int .i64 x, .int .u64 (v : Nat), .slice A q c, .slice VA vq vc] 35))
  by_cases h1 : 40 < q
  · have h1I : (40 : Int) < (q : Int) := by omega
    have hR : Hid ((decide (40 < q) || decide (40 < vq)) = true) := Lib.hid (by simp [h1])
    clear h1
    go_enter Try.func11, Try.ntmps11
    go_wp2
    go_ret
    exact ⟨by rw [hR.out]; rfl, HB.out⟩
  · have h1I : ¬ (40 : Int) < (q : Int) := by omega
    have hR : Hid ((decide (40 < q) || decide (40 < vq)) = decide ((40 : Int) < (vq : Int))) := Lib.hid (by rw [decide_eq_false h1, Bool.false_or]; congr 1; apply propext; omega)
    clear h1
    go_enter Try.func11, Try.ntmps11
    go_wp2
    go_ret
    exact ⟨by rw [hR.out]; rfl, HB.out⟩
end Go.Proofs.Ytfcafahgmnnlnaa.Qu

namespace Go.Proofs.Ytfcafahgmnnlnaa.Qu
open Go.RowKit Go.Maps Go.Joins Go.Deep
set_option linter.unusedVariables false
set_option linter.unusedSimpArgs false

/-- A work of the document's queue, with the places where it lies. -/
structure WI where
  q : Nat
  n : Int
  A : Option Addr
  c : Nat
  l : List Ch
  p : Bool
def ptV (qs : List Nat) : List Value := qs.map fun q => .pointer (some ⟨q, 0, none⟩)
def OwnPt (u : World) (B : Nat) (A : Option Addr) (c : Nat) (qs : List Nat) : Prop := u.ownsRow B 46 1 (.slice A qs.length c) qs.length (ptV qs)
def prV (P : List (Int × Nat)) : List Value := P.flatMap fun x => [.int .i64 x.1, .int .u64 (x.2 : Nat)]
def OwnPr (u : World) (B : Nat) (A : Option Addr) (c : Nat) (P : List (Int × Nat)) : Prop := u.ownsRow B 73 2 (.slice A P.length c) P.length (prV P)
theorem prV_at : ∀ (P : List (Int × Nat)) (i : Nat) (h : i < P.length), (prV P)[i * 2]? = some (.int .i64 (P[i]'h).1) ∧ (prV P)[i * 2 + 1]? = some (.int .u64 ((P[i]'h).2 : Nat))
  | x :: P, 0, _ => by unfold prV; simp
  | x :: P, i + 1, h => by
    have := prV_at P i (by simpa using h)
    have e : prV (x :: P) = [.int .i64 x.1, .int .u64 (x.2 : Nat)] ++ prV P := by unfold prV; rw [List.flatMap_cons]
    rw [e]
    have hs : ∀ j, ([.int .i64 x.1, .int .u64 (x.2 : Nat)] ++ prV P)[(i + 1) * 2 + j]? = (prV P)[i * 2 + j]? := by
      intro j
      rw [List.getElem?_append_right (by simp; omega)]
      congr 1
      simp
      omega
    exact ⟨(hs 0).trans this.1, (hs 1).trans this.2⟩
theorem row_cells {u : World} {B k n c : Nat} {t : TypeId} {A : Option Addr} {vs : List Value} (h : u.ownsRow B t k (.slice A n c) n vs) (hp : 0 < n) : ∃ b, A = some ⟨b, 0, none⟩ ∧ B ≤ b ∧ b < u.heap.size ∧ (∃ cs fz, u.heap[b]? = some (.cells cs t fz)) ∧ ∀ j v, vs[j]? = some v → u.cell? ⟨b, j, none⟩ = some v := by
  rcases h.2 with ⟨h1, h2⟩ | ⟨g, cap, cur, h1, hb, hg, hn, hm, hc, ht⟩
  · omega
  · injection h1 with e1 e2 e3
    refine ⟨g, e1, hb, (Array.getElem?_eq_some_iff.1 hg).1, ⟨cur, _, hg⟩, fun j v hv => ?_⟩
    have hcell : u.cell? ⟨g, j, none⟩ = cur[j]? := cell_of_row u g j cur _ (0, 0) hg
    rw [hcell]
    rw [← ht, List.getElem?_take] at hv
    split at hv
    · simpa using hv
    · cases hv
/-- The document's queue: its items, works, the last number. -/
structure RQ (u : World) (B x : Nat) (P : List (Int × Nat)) (ws : List WI) (gv : Int) : Prop where
  ex : ∃ AP nP cP AW nW cW, Blk u x 29 #[.slice AP nP cP, .slice AW nW cW, .int .i64 gv] ∧ nP = P.length ∧ nW = ws.length ∧ OwnPr u B AP cP P ∧ OwnPt u B AW cW (ws.map WI.q)
  wk : ∀ y ∈ ws, B ≤ y.q ∧ Blk u y.q 78 #[.int .i64 y.n, .slice y.A y.l.length y.c, .bool y.p] ∧ OwnC u B y.A y.c y.l
  ds : ws.Pairwise fun a b => a.q ≠ b.q ∧ ∀ r, blk a.A = some r → blk b.A ≠ some r
  sm : P.length ≤ 48 ∧ ws.length ≤ 100 ∧ ∀ y ∈ ws, y.l.length ≤ 300
def findW (ws : List WI) (n : Int) : Option WI := ws.find? fun y => decide (y.n = n)
theorem findW_at {ws : List WI} {n : Int} {j : Nat} (hj : j < ws.length) (hno : ∀ i, (h : i < ws.length) → i < j → (ws[i]'h).n ≠ n) (h : (ws[j]'hj).n = n) : findW ws n = some (ws[j]'hj) := by
  unfold findW
  rw [List.find?_eq_some_iff_getElem]
  exact ⟨by simpa using h, j, hj, rfl, fun i hi => by simpa using hno i (by omega) hi⟩
theorem findW_none {ws : List WI} {n : Int} (hno : ∀ i, (h : i < ws.length) → (ws[i]'h).n ≠ n) : findW ws n = none := by
  unfold findW
  rw [List.find?_eq_none]
  intro y hy
  obtain ⟨i, hi, rfl⟩ := List.mem_iff_getElem.1 hy
  simpa using hno i hi
set_option maxRecDepth 100000 in
set_option maxHeartbeats 2000000 in
theorem rfind_any (B x : Nat) (P : List (Int × Nat)) (ws : List WI) (gv : Int) (n : Int) (w : World) (h : RQ w B x P ws gv) :
    Calls Try.prog 21 #[.pointer (some ⟨x, 0, none⟩), .int .i64 n] w fun e w' => e = .returned (.pointer ((findW ws n).map fun y => ⟨y.q, 0, none⟩)) ∧ w = w' := by
  obtain ⟨AP, nP, cP, AW, nW, cW, hk, _, hnW, _, hpt⟩ := h.ex
  have c1 := hk.cell 1
  simp only [List.getElem?_toArray, List.getElem?_cons_zero, List.getElem?_cons_succ] at c1
  have hn1 : nW ≤ 100 := by rw [hnW]; exact h.sm.2.1
  have HN := Lib.hid hnW
  have H := Lib.hid (And.intro hpt h.wk)
  clear hk hpt h hnW
  go_enter Try.func21, Try.ntmps21
  go_wp2_with fail
  go_loopw [5] (fun i wr => ∃ j : Nat, j ≤ nW ∧ i = .int .i64 j ∧ Hid (∀ i, (h : i < ws.length) → i < j → (ws[i]'h).n ≠ n) ∧ w = wr) (fun i _ => nW - (intOf i).toNat)
  case atStart => exact ⟨0, Nat.zero_le _, rfl, Lib.hid (fun i h h2 => by omega), rfl⟩
  case round =>
    obtain ⟨j, hj, rfl, hno, rfl⟩ := hrel
    by_cases hjn : j < nW
    · have hjI : (j : Int) < (nW : Int) := by omega
      have hjL : j < ws.length := by rw [← HN.out]; exact hjn
      have hpt := H.out.1
      unfold OwnPt at hpt
      rw [List.length_map] at hpt
      obtain ⟨b, rfl, _, _, _, hc⟩ := row_cells hpt (by omega)
      have q0 := hc j (.pointer (some ⟨(ws[j]'hjL).q, 0, none⟩)) (by unfold ptV; simp [hjL])
      have q1 := (H.out.2 _ (List.getElem_mem hjL)).2.1.cell 0
      simp only [List.getElem?_toArray, List.getElem?_cons_zero, List.getElem?_cons_succ] at q1
      have hyes : Hid ((ws[j]'hjL).n = n → findW ws n = some (ws[j]'hjL)) := Lib.hid (fun e => findW_at hjL hno.out e)
      have hstep : Hid (¬ (ws[j]'hjL).n = n → ∀ i, (h : i < ws.length) → i < j + 1 → (ws[i]'h).n ≠ n) := Lib.hid (fun h1 i hi hij => by
        by_cases e : i = j
        · subst e; exact h1
        · exact hno.out i hi (by omega))
      generalize ws[j]'hjL = y at q0 q1 hyes hstep
      obtain ⟨yq, yn, yA, yc, yl, yp⟩ := y
      dsimp only at q0 q1 hyes hstep
      clear hpt hc hno hjL
      by_cases h1 : yn = n
      · have HP : Hid (findW ws n = some ⟨yq, yn, yA, yc, yl, yp⟩) := Lib.hid (hyes.out h1)
        subst h1
        clear hyes hstep
        go_wp2
        go_ret
        exact ⟨by rw [HP.out]; rfl, rfl⟩
      · have hno2 : Hid (∀ i, (h : i < ws.length) → i < j + 1 → (ws[i]'h).n ≠ n) := Lib.hid (hstep.out h1)
        have e1 : (yn == n) = false := by simp [h1]
        clear hyes hstep
        go_wp2
        go_roundw
        case rel => exact ⟨j + 1, by omega, by go_num, hno2, by first | rfl | trivial⟩
        case measure => simp [intOf]; omega
    · have hjI : ¬ (j : Int) < (nW : Int) := by omega
      have HP : Hid (findW ws n = none) := Lib.hid (findW_none fun i hi => hno.out i hi (by have := HN.out; omega))
      clear hno
      go_wp2
      go_ret
      exact ⟨by rw [HP.out]; rfl, rfl⟩
def mayR (ws : List WI) (n : Int) : Int := if n < 1 then 1 else match findW ws n with
  | some y => if y.p = true then 7 else 0
  | none => 0
theorem findW_mem {ws : List WI} {n : Int} {y : WI} (h : findW ws n = some y) : y ∈ ws ∧ y.n = n := by
  unfold findW at h
  exact ⟨List.mem_of_find?_eq_some h, by simpa using List.find?_some h⟩
set_option maxRecDepth 100000 in
set_option maxHeartbeats 1000000 in
theorem rmay_any (B x : Nat) (P : List (Int × Nat)) (ws : List WI) (gv : Int) (n : Int) (w : World) (h : RQ w B x P ws gv) :
    Calls Try.prog 50 #[.pointer (some ⟨x, 0, none⟩), .int .i64 n] w fun e w' => e = .returned (.int .i64 (mayR ws n)) ∧ w = w' := by
  have HF := Lib.hid (rfind_any B x P ws gv n w h)
  by_cases h1 : n < 1
  · have hM : mayR ws n = 1 := if_pos h1
    rw [hM]
    clear h hM
    go_enter Try.func50, Try.ntmps50
    go_wp2
    go_ret
    exact ⟨rfl, rfl⟩
  · rcases hf : findW ws n with _ | y
    · have hM : mayR ws n = 0 := by unfold mayR; rw [if_neg h1, hf]
      rw [hM]
      rw [hf] at HF
      clear h hM hf
      go_enter Try.func50, Try.ntmps50
      go_wp2_with fail
      refine HF.out.mono ?_
      rintro e w1 ⟨rfl, rfl⟩
      go_wp2
      go_ret
      exact ⟨rfl, rfl⟩
    · have hM : mayR ws n = if y.p = true then 7 else 0 := by unfold mayR; rw [if_neg h1, hf]
      rw [hM]
      rw [hf] at HF
      have hk := (h.wk y (findW_mem hf).1).2.1
      have c2 := hk.cell 2
      simp only [List.getElem?_toArray, List.getElem?_cons_zero, List.getElem?_cons_succ] at c2
      obtain ⟨yq, yn, yA, yc, yl, yp⟩ := y
      dsimp only at c2 HF
      clear h hM hf hk
      cases yp with
      | true =>
        go_enter Try.func50, Try.ntmps50
        go_wp2_with fail
        refine HF.out.mono ?_
        rintro e w1 ⟨rfl, rfl⟩
        go_wp2
        go_ret
        exact ⟨rfl, rfl⟩
      | false =>
        go_enter Try.func50, Try.ntmps50
        go_wp2_with fail
        refine HF.out.mono ?_
        rintro e w1 ⟨rfl, rfl⟩
        go_wp2
        go_ret
        exact ⟨rfl, rfl⟩
end Go.Proofs.Ytfcafahgmnnlnaa.Qu

namespace Go.Proofs.Ytfcafahgmnnlnaa.Qu
open Go.RowKit Go.Maps Go.Joins Go.Deep
set_option linter.unusedVariables false
set_option linter.unusedSimpArgs false

theorem own_below' {u u' : World} {B k n c : Nat} {t : TypeId} {A : Option Addr} {vs : List Value} (h : u.ownsRow B t k (.slice A n c) n vs) (hb : Below u.heap.size u u') : u'.ownsRow B t k (.slice A n c) n vs := by
  refine World.ownsRow.kept h (lbelow_grown hb none) ?_
  rcases hv : (Value.slice A n c).ownBlock with _ | r
  · exact .inl rfl
  · exact .inr (fun e => by cases e)
theorem RQ.below {u u' : World} {B x : Nat} {P : List (Int × Nat)} {ws : List WI} {gv : Int} (h : RQ u B x P ws gv) (hb : Below u.heap.size u u') : RQ u' B x P ws gv := by
  obtain ⟨AP, nP, cP, AW, nW, cW, hk, h1, h2, h3, h4⟩ := h.ex
  exact ⟨⟨AP, nP, cP, AW, nW, cW, hk.below hb hk.lt, h1, h2, own_below' h3 hb, own_below' h4 hb⟩, fun y hy => by
    obtain ⟨a1, a2, a3⟩ := h.wk y hy
    exact ⟨a1, a2.below hb a2.lt, a3.kept (lbelow_grown hb none) (fun r e => by cases e)⟩, h.ds, h.sm⟩
/-- What is read on the way to a work. -/
theorem RQ.at_ {u : World} {B x : Nat} {P : List (Int × Nat)} {ws : List WI} {gv : Int} (h : RQ u B x P ws gv) (i : Nat) (hi : i < ws.length) : ∃ b cW, u.cell? ⟨x, 1, none⟩ = some (.slice (some ⟨b, 0, none⟩) ws.length cW) ∧ u.cell? ⟨b, i, none⟩ = some (.pointer (some ⟨(ws[i]'hi).q, 0, none⟩)) ∧
    u.cell? ⟨(ws[i]'hi).q, 0, none⟩ = some (.int .i64 (ws[i]'hi).n) ∧ u.cell? ⟨(ws[i]'hi).q, 1, none⟩ = some (.slice (ws[i]'hi).A (ws[i]'hi).l.length (ws[i]'hi).c) ∧ InL u (ws[i]'hi).A (ws[i]'hi).l := by
  obtain ⟨AP, nP, cP, AW, nW, cW, hk, h1, h2, h3, h4⟩ := h.ex
  have c1 := hk.cell 1
  simp only [List.getElem?_toArray, List.getElem?_cons_zero, List.getElem?_cons_succ] at c1
  obtain ⟨_, a2, a3⟩ := h.wk _ (List.getElem_mem hi)
  unfold OwnPt at h4
  rw [List.length_map] at h4
  obtain ⟨b, rfl, _, _, _, hc⟩ := row_cells h4 (by omega)
  have q0 := a2.cell 0
  have q1 := a2.cell 1
  simp only [List.getElem?_toArray, List.getElem?_cons_zero, List.getElem?_cons_succ] at q0 q1
  rw [h2] at c1
  exact ⟨b, cW, c1, hc i _ (by unfold ptV; simp [hi]), q0, q1, a3.at_.inl⟩
theorem RQ.len_ {u : World} {B x : Nat} {P : List (Int × Nat)} {ws : List WI} {gv : Int} (h : RQ u B x P ws gv) : ∃ AW cW, u.cell? ⟨x, 1, none⟩ = some (.slice AW ws.length cW) := by
  obtain ⟨AP, nP, cP, AW, nW, cW, hk, h1, h2, h3, h4⟩ := h.ex
  have c1 := hk.cell 1
  simp only [List.getElem?_toArray, List.getElem?_cons_zero, List.getElem?_cons_succ] at c1
  rw [h2] at c1
  exact ⟨AW, cW, c1⟩
def putsR (ws : List WI) : Nat := (ws.map fun y => putsL y.l).sum
def roomR (P : List (Int × Nat)) (ws : List WI) (gv : Int) : Int := min (16 - (P.length : Int) - (putsR ws : Int)) (4611686018427387904 - (gv + 1) - (putsR ws : Int))
theorem putsR_step (ws : List WI) (i : Nat) (h : i < ws.length) : putsR (ws.take (i + 1)) = putsR (ws.take i) + putsL (ws[i]'h).l := by
  have e2 : ws.take (i + 1) = ws.take i ++ [ws[i]'h] := by rw [List.take_add_one, List.getElem?_eq_getElem h]; rfl
  rw [e2]; unfold putsR; rw [List.map_append, List.sum_append]; rfl
theorem putsR_le (ws : List WI) (h : ∀ y ∈ ws, y.l.length ≤ 300) : putsR ws ≤ 300 * ws.length := by
  unfold putsR
  induction ws with
  | nil => simp
  | cons y r ih =>
    have := ih fun z hz => h z (List.mem_cons_of_mem _ hz)
    have h1 := h y (List.mem_cons_self ..)
    have h2 := putsL_le y.l
    simp only [List.map_cons, List.sum_cons, List.length_cons]
    omega
set_option maxRecDepth 100000 in
set_option maxHeartbeats 1000000 in
theorem rroom_any (B x : Nat) (P : List (Int × Nat)) (ws : List WI) (gv : Int) (w : World) (h : RQ w B x P ws gv) (hg : 0 ≤ gv ∧ gv ≤ 4611686018427387904) :
    Calls Try.prog 51 #[.pointer (some ⟨x, 0, none⟩)] w fun e w' => e = .returned (.int .i64 (roomR P ws gv)) ∧ Below w.heap.size w w' := by
  obtain ⟨nW, hnW⟩ : ∃ nW, nW = ws.length := ⟨_, rfl⟩
  obtain ⟨nP, hnP⟩ : ∃ nP, nP = P.length := ⟨_, rfl⟩
  have hW1 : nW ≤ 100 := by rw [hnW]; exact h.sm.2.1
  have hP1 : nP ≤ 48 := by rw [hnP]; exact h.sm.1
  have HN := Lib.hid (And.intro hnW hnP)
  have H := Lib.hid h
  have HG := Lib.hid hg
  obtain ⟨AW, cW, c1⟩ := h.len_
  rw [← hnW] at c1
  have HI : Hid (0 = putsR (ws.take 0) ∧ Below w.heap.size w w) := Lib.hid ⟨rfl, Below.refl _ _⟩
  clear h hnW hnP c1
  go_enter Try.func51, Try.ntmps51
  go_wp2_with fail
  go_loopw [3, 4] (fun sv iv wr => ∃ (s i : Nat), i ≤ nW ∧ s ≤ 300 * i ∧ sv = .int .i64 s ∧ iv = .int .i64 i ∧ Hid (s = putsR (ws.take i) ∧ Below w.heap.size w wr)) (fun _ iv _ => nW - (intOf iv).toNat)
  case atStart => exact ⟨0, 0, Nat.zero_le _, by omega, rfl, rfl, HI⟩
  case round =>
    clear HI
    obtain ⟨s, i, hi, hs, rfl, rfl, HR⟩ := hrel
    have hr := H.out.below HR.out.2
    by_cases hin : i < nW
    · have hiI : (i : Int) < (nW : Int) := by omega
      have hil : i < ws.length := by rw [← HN.out.1]; exact hin
      obtain ⟨b, cw, r1, r2, r3, r4, r5⟩ := hr.at_ i hil
      clear r3
      have hst := putsR_step ws i hil
      have hsm := hr.sm.2.2 _ (List.getElem_mem hil)
      generalize ws[i]'hil = y at r2 r4 r5 hst hsm
      obtain ⟨yq, yn, yA, yc, yl, yp⟩ := y
      dsimp only at r2 r4 r5 hst hsm
      rw [← HN.out.1] at r1
      obtain ⟨lq, hlq⟩ : ∃ lq, lq = yl.length := ⟨_, rfl⟩
      have hpl := putsL_le yl
      have HPu := Lib.hid (refputs_any yA yl lq yc wr (Lib.hid hlq) (by omega) r5)
      rw [← hlq] at r4
      obtain ⟨pz, hpz⟩ : ∃ pz, pz = putsL yl := ⟨_, rfl⟩
      rw [← hpz] at HPu hst hpl
      have hpz3 : pz ≤ 300 := by omega
      have HN2 : Hid (s + pz = putsR (ws.take (i + 1)) ∧ Below w.heap.size w wr) := Lib.hid ⟨by rw [hst, HR.out.1], HR.out.2⟩
      clear hr hil r5 hst hsm hlq hpl hpz HR
      go_wp2_with fail
      refine HPu.out.mono ?_
      rintro e w2 ⟨rfl, b2⟩
      have HN3 : Hid (s + pz = putsR (ws.take (i + 1)) ∧ Below w.heap.size w w2) := Lib.hid ⟨HN2.out.1, bt HN2.out.2 b2⟩
      clear b2 r1 r2 r4
      go_wp2
      go_roundw
      case rel => exact ⟨s + pz, i + 1, by omega, by omega, by go_num, by go_num, HN3⟩
      case measure => simp [intOf]; omega
    · have hiI : ¬ (i : Int) < (nW : Int) := by omega
      obtain ⟨AP, nP', cP, AW', nW', cW', hk, k1, k2, _, _⟩ := hr.ex
      have c0 := hk.cell 0
      have c1 := hk.cell 1
      have c2 := hk.cell 2
      simp only [List.getElem?_toArray, List.getElem?_cons_zero, List.getElem?_cons_succ] at c0 c1 c2
      rw [k1, ← HN.out.2] at c0
      rw [k2, ← HN.out.1] at c1
      have hsp : s = putsR ws := by rw [HR.out.1, List.take_of_length_le (by rw [← HN.out.1]; omega)]
      have hg0 := HG.out
      have s1 : IntKind.i64.wrap ((16 : Int) - (nP : Int)) = 16 - (nP : Int) := IntWalk.i64_in _ (by omega)
      have s3 : IntKind.i64.wrap (gv + 1) = gv + 1 := IntWalk.i64_in _ (by omega)
      have s4 : IntKind.i64.wrap ((4611686018427387904 : Int) - (gv + 1)) = 4611686018427387904 - (gv + 1) := IntWalk.i64_in _ (by omega)
      obtain ⟨va, hva⟩ : ∃ va, va = 16 - (nP : Int) - (s : Int) := ⟨_, rfl⟩
      obtain ⟨vb, hvb⟩ : ∃ vb, vb = 4611686018427387904 - (gv + 1) - (s : Int) := ⟨_, rfl⟩
      have s2 : IntKind.i64.wrap (16 - (nP : Int) - (s : Int)) = va := by rw [hva]; exact IntWalk.i64_in _ (by omega)
      have s5 : IntKind.i64.wrap (4611686018427387904 - (gv + 1) - (s : Int)) = vb := by rw [hvb]; exact IntWalk.i64_in _ (by omega)
      have hR : roomR P ws gv = min va vb := by unfold roomR; rw [← HN.out.2, ← hsp, ← hva, ← hvb]
      have d0 := fun m : Nat => cell_drew' c0 m
      have d2 := fun m : Nat => cell_drew' c2 m
      have HX : Hid (∀ m : Nat, Below w.heap.size w (wr.drewN m)) := Lib.hid fun m => bt HR.out.2 ⟨rfl, rfl, rfl, Nat.le_refl _, fun _ _ => rfl⟩
      have HRm := Lib.hid hR
      clear hr hk k1 k2 hsp hg0 hR hva hvb HR hs hi hin
      go_wp2_with fail
      go_quiet (fail)
      have HX2 := Lib.hid (HX.out nq)
      clear d0 d2 c0 c2 HX s1 s2 s3 s4 s5 c1
      by_cases hab : vb < va
      · have hm : Hid (min va vb = vb) := Lib.hid (Int.min_eq_right (by omega))
        go_wp2
        go_ret
        exact ⟨by rw [HRm.out, hm.out]; rfl, HX2.out⟩
      · have hm : Hid (min va vb = va) := Lib.hid (Int.min_eq_left (by omega))
        go_wp2
        go_ret
        exact ⟨by rw [HRm.out, hm.out]; rfl, HX2.out⟩
end Go.Proofs.Ytfcafahgmnnlnaa.Qu
