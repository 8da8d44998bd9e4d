/- Layer 14: what holds between calls is kept; the laws' calls. -/
import Derived.Test.YtfcafahgmnnlnaaQ20
namespace Go.Proofs.Ytfcafahgmnnlnaa.Qu
open Go.RowKit Go.Maps Go.Deep
set_option linter.unusedVariables false
set_option linter.unusedSimpArgs false

section
variable {S : QS}
theorem QOk.less {S' : QS} (h : QOk S) (h1 : S'.I.length + putsW S'.ws ≤ S.I.length + putsW S.ws) (h2 : S'.g + (putsW S'.ws : Int) ≤ S.g + (putsW S.ws : Int)) (h3 : 0 ≤ S'.g) : QOk S' := ⟨by have := h.room; omega, h3, by have := h.last; omega⟩
theorem QOk.put (h : QOk S) (hd : S.ws.Pairwise fun a b => a.n ≠ b.n) (n : Int) (v : Nat) : QOk (putM S n v).2 := by
  unfold putM
  split
  · exact h
  · split
    · exact h
    · rename_i hr; exact h.add hd n ⟨3, 0, v⟩ (fun _ => hr)
theorem QOk.take (h : QOk S) (hd : S.ws.Pairwise fun a b => a.n ≠ b.n) (n : Int) : QOk (takeM S n).2 := by
  unfold takeM
  split
  · exact h
  · split
    · exact h
    · split
      · rename_i x _
        have := h.add hd n ⟨4, x.n, x.v⟩ (fun e => by cases e)
        exact this.less (by dsimp only; rw [giveI_len]; exact Nat.le_refl _) (Int.le_refl _) this.g0
      · exact h
theorem QOk.prep (h : QOk S) (hd : S.ws.Pairwise fun a b => a.n ≠ b.n) (n : Int) : QOk (prepM S n).2 := by
  unfold prepM
  split
  · exact h
  · split
    · exact h
    · exact h.ws' (lay_same S.ws n true hd)
theorem keptI_le (L : List IT) (n : Int) : (keptI L n).length ≤ L.length := List.length_filter_le _ _
theorem QOk.commit (h : QOk S) (hd : S.ws.Pairwise fun a b => a.n ≠ b.n) (n : Int) : QOk (commitM S n).2 := by
  unfold commitM
  split
  · exact h
  · have h1 := putsW_others S.ws n hd
    have h2 := keptI_le S.I n
    exact h.less (by dsimp only; rw [List.length_append, newsQ_len]; omega) (by dsimp only; omega) (by have := h.g0; dsimp only; omega)
theorem QOk.back (h : QOk S) (hd : S.ws.Pairwise fun a b => a.n ≠ b.n) (n : Int) : QOk (backM S n).2 := by
  unfold backM
  split
  · exact h
  · have h1 := putsW_others S.ws n hd
    exact h.less (by dsimp only; rw [List.length_map]; omega) (by dsimp only; omega) h.g0
theorem QOk.rest (h : QOk S) (hd : S.ws.Pairwise fun a b => a.n ≠ b.n) (n : Int) (l : List Ch) : QOk (restM S n l).2 := by
  unfold restM
  split
  · exact h
  · split
    · exact h
    · split
      · exact h
      · rename_i hr
        split
        · exact h
        · rename_i hb
          split
          · exact h
          · have h1 := lay_new (l := l) (p := true) hd (by simpa using hb)
            unfold roomQ at hr
            refine ⟨?_, h.g0, ?_⟩
            · dsimp only; rw [givenI_len]; omega
            · dsimp only; omega
theorem QOk.load (h : QOk S) (vals : List Nat) (next : Int) : QOk (loadM S vals next).2 := by
  unfold loadM
  split
  · exact h
  · rename_i hi
    split
    · exact h
    · rename_i hb
      have hw : S.ws = [] := Classical.byContradiction fun e => hi (.inr e)
      have h0 : putsW S.ws = 0 := by rw [hw]; rfl
      refine ⟨?_, ?_, ?_⟩
      · dsimp only; rw [loadF_len]; omega
      · dsimp only; omega
      · dsimp only; omega
end
theorem prepM_B (S : QS) (B : Nat → Prop) (n : Int) : prepM { S with B := B } n = ((prepM S n).1, { (prepM S n).2 with B := B }) := by
  have e : openE { S with B := B } n = openE S n := rfl
  unfold prepM
  rw [e]
  dsimp only
  split
  · rfl
  · split <;> rfl
theorem putM_B (S : QS) (n : Int) (v : Nat) : (putM S n v).2.B = S.B := by unfold putM; split; rfl; split <;> rfl
theorem takeM_B (S : QS) (n : Int) : (takeM S n).2.B = S.B := by unfold takeM; split; rfl; split; rfl; split <;> rfl
theorem prepM_B' (S : QS) (n : Int) : (prepM S n).2.B = S.B := by unfold prepM; split; rfl; split <;> rfl
theorem commitM_B (S : QS) (n : Int) : (commitM S n).2.B = S.B := by unfold commitM; split <;> rfl
theorem backM_B (S : QS) (n : Int) : (backM S n).2.B = S.B := by unfold backM; split <;> rfl
theorem restM_B (S : QS) (n : Int) (l : List Ch) : (restM S n l).2.B = S.B := by unfold restM; split; rfl; split; rfl; split; rfl; split; rfl; split <;> rfl
theorem loadM_B (S : QS) (l : List Nat) (n : Int) : (loadM S l n).2.B = S.B := by unfold loadM; split; rfl; split <;> rfl
/-- An Op of the laws. -/
structure OpV where
  k : Int
  n : Int
  x : Int
  v : Nat
  A : Option Addr
  l : List Ch
  c : Nat
  VA : Option Addr
  vs : List Nat
  vc : Nat
def OpV.val (o : OpV) : Value := .agg #[.int .i64 o.k, .int .i64 o.n, .int .i64 o.x, .int .u64 (o.v : Nat), .slice o.A o.l.length o.c, .slice o.VA o.vs.length o.vc]
def callM (S : QS) (o : OpV) : (Nat × List Ch × Int) × QS :=
  if o.k = 0 then ((0, [], (putM S o.n o.v).1), (putM S o.n o.v).2)
  else if o.k = 1 then (((takeM S o.n).1.1, [], (takeM S o.n).1.2), (takeM S o.n).2)
  else if o.k = 2 then ((0, (prepM S o.n).1.1, (prepM S o.n).1.2), (prepM S o.n).2)
  else if o.k = 3 then ((0, [], (commitM S o.n).1), (commitM S o.n).2)
  else if o.k = 4 then ((0, [], (backM S o.n).1), (backM S o.n).2)
  else if o.k = 5 then ((0, [], (restM S o.n o.l).1), (restM S o.n o.l).2)
  else if o.k = 6 then ((0, [], (loadM S o.vs o.x).1), (loadM S o.vs o.x).2)
  else ((0, [], 0), S)
theorem callM_B (S : QS) (o : OpV) : (callM S o).2.B = S.B := by
  unfold callM
  split; exact putM_B _ _ _
  split; exact takeM_B _ _
  split; exact prepM_B' _ _
  split; exact commitM_B _ _
  split; exact backM_B _ _
  split; exact restM_B _ _ _
  split; exact loadM_B _ _ _
  rfl
theorem QOk.call {S : QS} (h : QOk S) (hd : S.ws.Pairwise fun a b => a.n ≠ b.n) (o : OpV) : QOk (callM S o).2 := by
  unfold callM
  split; exact h.put hd _ _
  split; exact h.take hd _
  split; exact h.prep hd _
  split; exact h.commit hd _
  split; exact h.back hd _
  split; exact h.rest hd _ _
  split; exact h.load _ _
  exact h
/-- What comes of a call, and the queue behind it: its lists lie where they may, and not in what is handed out. -/
def CallO (w : World) (g of : Nat) (tt : TypeId) (cs : Array Value) (N : Nat) (B : Nat → Prop) (r : (Nat × List Ch × Int) × QS) (e : Ending) (w' : World) : Prop :=
  ∃ A q c, e = .returned (.tuple #[.int .u64 (r.1.1 : Nat), .slice A q c, .int .i64 r.1.2.2]) ∧ q = r.1.2.1.length ∧ OwnC w' w.heap.size A c r.1.2.1 ∧ QO w g of tt cs { r.2 with B := fun b => B b ∧ blk A ≠ some b } (N + 1) w'
theorem CallO.mk0 {a w : World} {g of : Nat} {tt : TypeId} {cs cs1 : Array Value} {N N' : Nat} {S : QS} {v : Nat} {er : Int} {w' : World} (hk : Keep3 of cs cs1) (hg : a.grownBy w (some g)) (h : QO w g of tt cs1 S N' w') (hN : N' ≤ N + 1) : CallO a g of tt cs N S.B ((v, [], er), S) (.returned (.tuple #[.int .u64 (v : Nat), .slice none 0 0, .int .i64 er])) w' := by
  refine ⟨none, 0, 0, rfl, rfl, OwnC.nil _ _, ?_⟩
  obtain ⟨⟨cs', h1, h2⟩, h3⟩ := QO.from hk hg h
  exact ⟨⟨cs', (h1.more hN).rebase fun b hb _ => ⟨hb, by simp [blk]⟩, h2⟩, h3⟩
set_option maxRecDepth 100000 in
set_option maxHeartbeats 4000000 in
theorem call_any (g : Nat) (tt : TypeId) (cs : Array Value) (S : QS) (N : Nat) (o : OpV) (w : World) (h : QAt w g 0 tt cs S N) (hok : QOk S) (hN : 40 ≤ N ∧ N < 200000) (hn : i64ok o.n) (hl : o.k = 5 → o.l.length ≤ 40) (hL : o.k = 5 → ∀ u, w.grownBy u (some g) → InL u o.A o.l) (hz : o.k = 6 → UAt w o.VA o.vs) (hB : ∀ b, w.heap.size ≤ b → S.B b) :
    Calls Try.prog 13 #[.pointer (some ⟨g, 0, none⟩), o.val] w (CallO w g 0 tt cs N S.B (callM S o)) := by
  obtain ⟨k, n, x, v, A, l, c, VA, vs, vc⟩ := o
  dsimp only at hn hl hL hz
  show Calls Try.prog _ #[.pointer (some ⟨g, 0, none⟩), .agg #[.int .i64 k, .int .i64 n, .int .i64 x, .int .u64 (v : Nat), .slice A l.length c, .slice VA vs.length vc]] w _
  obtain ⟨q, hq⟩ : ∃ q, q = l.length := ⟨_, rfl⟩
  obtain ⟨vq, hvq⟩ : ∃ vq, vq = vs.length := ⟨_, rfl⟩
  rw [← hq, ← hvq]
  obtain ⟨w1, hw1⟩ : ∃ w1, w1 = w.alloc (.cells #[.int .i64 k, .int .i64 n, .int .i64 x, .int .u64 (v : Nat), .slice A q c, .slice VA vq vc] 35) := ⟨_, rfl⟩
  have b1 : Below w.heap.size w w1 := by rw [hw1]; exact ba _ _
  have k1 : Blk w1 w.heap.size 35 #[.int .i64 k, .int .i64 n, .int .i64 x, .int .u64 (v : Nat), .slice A q c, .slice VA vq vc] := by rw [hw1]; exact Blk.new _ _ _
  have d0 := k1.cell 0
  have d1 := k1.cell 1
  have d2 := k1.cell 2
  have d3 := k1.cell 3
  have d4 := k1.cell 4
  have d5 := k1.cell 5
  simp only [List.getElem?_toArray, List.getElem?_cons_zero, List.getElem?_cons_succ] at d0 d1 d2 d3 d4 d5
  have h1 := h.below b1
  have hB1 : ∀ b, w1.heap.size ≤ b → S.B b := fun b hb => hB b (Nat.le_trans b1.size hb)
  have Hg1 := Lib.hid (lbelow_grown b1 (some g))
  have HW := Lib.hid hw1
  rw [hw1] at d0 d1 d2 d3 d4 d5
  rcases e0 : (k == 0) with _ | _
  ·
    rcases e1 : (k == 1) with _ | _
    ·
      rcases e2 : (k == 2) with _ | _
      ·
        rcases e3 : (k == 3) with _ | _
        ·
          rcases e4 : (k == 4) with _ | _
          ·
            rcases e5 : (k == 5) with _ | _
            ·
              rcases e6 : (k == 6) with _ | _
              ·
                have hM : callM S ⟨k, n, x, v, A, l, c, VA, vs, vc⟩ = ((0, [], 0), S) := by
                  unfold callM; dsimp only
                  rw [if_neg (by simpa using e0), if_neg (by simpa using e1), if_neg (by simpa using e2), if_neg (by simpa using e3), if_neg (by simpa using e4), if_neg (by simpa using e5), if_neg (by simpa using e6)]
                rw [hM]
                have HF := Lib.hid (CallO.mk0 (N := N) (v := 0) (er := 0) (Keep3.rfl' (of := 0) (cs := cs)) Hg1.out (QO.same h1 (Below.refl _ _)) (by omega))
                clear h h1 hok hN hB hB1 hL hl hz hn hq hvq hw1 b1 k1 hM
                go_enter Try.func13, Try.ntmps13
                go_wp2
                rw [← HW.out]
                go_returns
                exact HF.out
              ·
                have hM : callM S ⟨k, n, x, v, A, l, c, VA, vs, vc⟩ = ((0, [], (loadM S vs x).1), (loadM S vs x).2) := by
                  unfold callM; dsimp only
                  rw [if_neg (by simpa using e0), if_neg (by simpa using e1), if_neg (by simpa using e2), if_neg (by simpa using e3), if_neg (by simpa using e4), if_neg (by simpa using e5), if_pos (by simpa using e6)]
                rw [hM]
                have HB := Lib.hid (loadM_B S vs x)
                have HC := Lib.hid (load_any g 0 tt cs S N VA vs vq vc x w1 h1 (Lib.hid hvq) ((hz (by simpa using e6)).below b1))
                obtain ⟨R, hR⟩ : ∃ R, R = loadM S vs x := ⟨_, rfl⟩
                rw [← hR] at HB HC ⊢
                obtain ⟨re, rS⟩ := R
                dsimp only at HB HC ⊢
                rw [← HB.out]
                clear h h1 hok hN hB hB1 hL hl hz hn hq hvq hw1 b1 k1 hM hR
                go_enter Try.func13, Try.ntmps13
                go_wp2_with fail
                rw [← HW.out]
                refine HC.out.mono ?_
                rintro e w2 ⟨rfl, hk⟩
                have HF := Lib.hid (CallO.mk0 (N := N) (v := 0) (er := re) (Keep3.rfl' (of := 0) (cs := cs)) Hg1.out hk (by omega))
                clear hk
                go_wp2
                go_returns
                exact HF.out
            ·
              have hM : callM S ⟨k, n, x, v, A, l, c, VA, vs, vc⟩ = ((0, [], (restM S n l).1), (restM S n l).2) := by
                unfold callM; dsimp only
                rw [if_neg (by simpa using e0), if_neg (by simpa using e1), if_neg (by simpa using e2), if_neg (by simpa using e3), if_neg (by simpa using e4), if_pos (by simpa using e5)]
              rw [hM]
              have HB := Lib.hid (restM_B S n l)
              have HC := Lib.hid (rest_any g 0 tt cs S N n A l q c w1 h1 (by omega) hn (Lib.hid hq) (by have := hl (by simpa using e5); omega) (fun u hu => hL (by simpa using e5) u (Hg1.out.trans hu)) hB1)
              obtain ⟨R, hR⟩ : ∃ R, R = restM S n l := ⟨_, rfl⟩
              rw [← hR] at HB HC ⊢
              obtain ⟨re, rS⟩ := R
              dsimp only at HB HC ⊢
              rw [← HB.out]
              clear h h1 hok hN hB hB1 hL hl hz hn hq hvq hw1 b1 k1 hM hR
              go_enter Try.func13, Try.ntmps13
              go_wp2_with fail
              rw [← HW.out]
              refine HC.out.mono ?_
              rintro e w2 ⟨rfl, hk⟩
              have HF := Lib.hid (CallO.mk0 (N := N) (v := 0) (er := re) (Keep3.rfl' (of := 0) (cs := cs)) Hg1.out hk (by omega))
              clear hk
              go_wp2
              go_returns
              exact HF.out
          ·
            have hM : callM S ⟨k, n, x, v, A, l, c, VA, vs, vc⟩ = ((0, [], (backM S n).1), (backM S n).2) := by
              unfold callM; dsimp only
              rw [if_neg (by simpa using e0), if_neg (by simpa using e1), if_neg (by simpa using e2), if_neg (by simpa using e3), if_pos (by simpa using e4)]
            rw [hM]
            have HB := Lib.hid (backM_B S n)
            have HC := Lib.hid (backout_any g 0 tt cs S N n w1 h1 hn)
            obtain ⟨R, hR⟩ : ∃ R, R = backM S n := ⟨_, rfl⟩
            rw [← hR] at HB HC ⊢
            obtain ⟨re, rS⟩ := R
            dsimp only at HB HC ⊢
            rw [← HB.out]
            clear h h1 hok hN hB hB1 hL hl hz hn hq hvq hw1 b1 k1 hM hR
            go_enter Try.func13, Try.ntmps13
            go_wp2_with fail
            rw [← HW.out]
            refine HC.out.mono ?_
            rintro e w2 ⟨rfl, hk⟩
            have HF := Lib.hid (CallO.mk0 (N := N) (v := 0) (er := re) (Keep3.rfl' (of := 0) (cs := cs)) Hg1.out hk (by omega))
            clear hk
            go_wp2
            go_returns
            exact HF.out
        ·
          have hM : callM S ⟨k, n, x, v, A, l, c, VA, vs, vc⟩ = ((0, [], (commitM S n).1), (commitM S n).2) := by
            unfold callM; dsimp only
            rw [if_neg (by simpa using e0), if_neg (by simpa using e1), if_neg (by simpa using e2), if_pos (by simpa using e3)]
          rw [hM]
          have HB := Lib.hid (commitM_B S n)
          have HC := Lib.hid (commit_any g 0 tt cs S N n w1 h1 hok (by omega) hn)
          obtain ⟨R, hR⟩ : ∃ R, R = commitM S n := ⟨_, rfl⟩
          rw [← hR] at HB HC ⊢
          obtain ⟨re, rS⟩ := R
          dsimp only at HB HC ⊢
          rw [← HB.out]
          clear h h1 hok hN hB hB1 hL hl hz hn hq hvq hw1 b1 k1 hM hR
          go_enter Try.func13, Try.ntmps13
          go_wp2_with fail
          rw [← HW.out]
          refine HC.out.mono ?_
          rintro e w2 ⟨rfl, hk⟩
          have HF := Lib.hid (CallO.mk0 (N := N) (v := 0) (er := re) (Keep3.rfl' (of := 0) (cs := cs)) Hg1.out hk (by omega))
          clear hk
          go_wp2
          go_returns
          exact HF.out
      ·
        have hM : callM S ⟨k, n, x, v, A, l, c, VA, vs, vc⟩ = ((0, (prepM S n).1.1, (prepM S n).1.2), (prepM S n).2) := by
          unfold callM; dsimp only
          rw [if_neg (by simpa using e0), if_neg (by simpa using e1), if_pos (by simpa using e2)]
        rw [hM]
        have hr := prep_any g 0 tt cs { S with B := fun b => S.B b ∧ b < w1.heap.size } N n w1 (h1.rebase fun b hb hlt => ⟨hb, hlt⟩) (by omega) hn
        rw [prepM_B] at hr
        have HC := Lib.hid hr
        obtain ⟨R, hR⟩ : ∃ R, R = prepM S n := ⟨_, rfl⟩
        rw [← hR] at HC ⊢
        obtain ⟨⟨rl, re⟩, rS⟩ := R
        dsimp only at HC ⊢
        have hsz := b1.size
        clear h h1 hok hN hB hB1 hL hl hz hn hq hvq hw1 b1 k1 hM hR hr
        go_enter Try.func13, Try.ntmps13
        go_wp2_with fail
        rw [← HW.out]
        refine HC.out.mono ?_
        rintro e w2 ⟨⟨A2, q2, c2, rfl, hq2, own2⟩, ⟨⟨cs', hk2, hkp⟩, hg2⟩⟩
        have HF : Hid (CallO w g 0 tt cs N S.B ((0, rl, re), rS) (.returned (.tuple #[.int .u64 ((0 : Nat) : Nat), .slice A2 q2 c2, .int .i64 re])) w2) := Lib.hid
          ⟨A2, q2, c2, rfl, hq2, own2.less hsz, ⟨cs', hk2.rebase fun b hb _ => ⟨hb.1, fun e => by have := own2.lt' b e; have := hb.2; omega⟩, hkp⟩, Hg1.out.trans hg2⟩
        clear hq2 own2 hk2 hkp hg2
        go_wp2
        go_returns
        exact HF.out
    ·
      have hM : callM S ⟨k, n, x, v, A, l, c, VA, vs, vc⟩ = (((takeM S n).1.1, [], (takeM S n).1.2), (takeM S n).2) := by
        unfold callM; dsimp only
        rw [if_neg (by simpa using e0), if_pos (by simpa using e1)]
      rw [hM]
      have HB := Lib.hid (takeM_B S n)
      have HC := Lib.hid (take_any g 0 tt cs S N n w1 h1 (by omega) hn hB1)
      obtain ⟨R, hR⟩ : ∃ R, R = takeM S n := ⟨_, rfl⟩
      rw [← hR] at HB HC ⊢
      obtain ⟨⟨rv, re⟩, rS⟩ := R
      dsimp only at HB HC ⊢
      rw [← HB.out]
      clear h h1 hok hN hB hB1 hL hl hz hn hq hvq hw1 b1 k1 hM hR
      go_enter Try.func13, Try.ntmps13
      go_wp2_with fail
      rw [← HW.out]
      refine HC.out.mono ?_
      rintro e w2 ⟨rfl, hk⟩
      have HF := Lib.hid (CallO.mk0 (N := N) (v := rv) (er := re) (Keep3.rfl' (of := 0) (cs := cs)) Hg1.out hk (by omega))
      clear hk
      go_wp2
      go_returns
      exact HF.out
  ·
    have hM : callM S ⟨k, n, x, v, A, l, c, VA, vs, vc⟩ = ((0, [], (putM S n v).1), (putM S n v).2) := by
      unfold callM; dsimp only
      rw [if_pos (by simpa using e0)]
    rw [hM]
    have HB := Lib.hid (putM_B S n v)
    have HC := Lib.hid (put_any g 0 tt cs S N n v w1 h1 (by omega) hn hB1)
    obtain ⟨R, hR⟩ : ∃ R, R = putM S n v := ⟨_, rfl⟩
    rw [← hR] at HB HC ⊢
    obtain ⟨re, rS⟩ := R
    dsimp only at HB HC ⊢
    rw [← HB.out]
    clear h h1 hok hN hB hB1 hL hl hz hn hq hvq hw1 b1 k1 hM hR
    go_enter Try.func13, Try.ntmps13
    go_wp2_with fail
    rw [← HW.out]
    refine HC.out.mono ?_
    rintro e w2 ⟨rfl, hk⟩
    have HF := Lib.hid (CallO.mk0 (N := N) (v := 0) (er := re) (Keep3.rfl' (of := 0) (cs := cs)) Hg1.out hk (by omega))
    clear hk
    go_wp2
    go_returns
    exact HF.out
end Go.Proofs.Ytfcafahgmnnlnaa.Qu
