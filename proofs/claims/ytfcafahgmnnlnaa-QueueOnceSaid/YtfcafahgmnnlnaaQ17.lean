/- Layer 14: Put, Take, Prepare. -/
import Derived.Test.YtfcafahgmnnlnaaQ16
namespace Go.Proofs.Ytfcafahgmnnlnaa.Qu
open Go.RowKit Go.Maps Go.Deep
set_option linter.unusedVariables false
set_option linter.unusedSimpArgs false

theorem putsL_snoc (l : List Ch) (x : Ch) : putsL (l ++ [x]) = putsL l + (if x.k = 3 then 1 else 0) := by
  unfold putsL
  rw [List.filter_append, List.length_append]
  congr 1
  by_cases e : x.k = 3
  · simp [e]
  · simp [e]
theorem addQ_puts (ws : List WQ) (n : Int) (x : Ch) (hd : ws.Pairwise fun a b => a.n ≠ b.n) : putsW (addQ ws n x) = putsW ws + (if x.k = 3 then 1 else 0) := by
  have h := putsW_lay ws n ((curQ ws n).1 ++ [x]) (curQ ws n).2 hd
  rw [putsL_snoc] at h
  unfold addQ
  omega
theorem roomQ_one {S : QS} (h : ¬ roomQ S < 1) : S.I.length + putsW S.ws + 1 ≤ 16 ∧ S.g + 1 + (putsW S.ws : Int) + 1 ≤ 4611686018427387904 := by
  unfold roomQ at h
  omega
theorem QInv.add {S : QS} (h : QInv S) (hd : S.ws.Pairwise fun a b => a.n ≠ b.n) (n : Int) (x : Ch) (hr : x.k = 3 → ¬ roomQ S < 1) : QInv { S with ws := addQ S.ws n x } := by
  have hp := addQ_puts S.ws n x hd
  have h1 := h.room
  have h2 := h.last
  by_cases e : x.k = 3
  · obtain ⟨r1, r2⟩ := roomQ_one (hr e)
    rw [if_pos e] at hp
    exact ⟨by dsimp only; omega, h.g0, by dsimp only; omega⟩
  · rw [if_neg e] at hp
    exact ⟨by dsimp only; omega, h.g0, by dsimp only; omega⟩
theorem QOk.add {S : QS} (h : QOk S) (hd : S.ws.Pairwise fun a b => a.n ≠ b.n) (n : Int) (x : Ch) (hr : x.k = 3 → ¬ roomQ S < 1) : QOk { S with ws := addQ S.ws n x } := by
  have hp := addQ_puts S.ws n x hd
  have h1 := h.room
  have h2 := h.last
  by_cases e : x.k = 3
  · obtain ⟨r1, r2⟩ := roomQ_one (hr e)
    rw [if_pos e] at hp
    exact ⟨by dsimp only; omega, h.g0, by dsimp only; omega⟩
  · rw [if_neg e] at hp
    exact ⟨by dsimp only; omega, h.g0, by dsimp only; omega⟩
theorem openE_cases (S : QS) (n : Int) : (openE S n = 1 ∧ n < 1) ∨ (openE S n = 7 ∧ 1 ≤ n ∧ (curQ S.ws n).2 = true) ∨ (openE S n = 0 ∧ 1 ≤ n ∧ (curQ S.ws n).2 = false) := by
  unfold openE
  by_cases h : n < 1
  · exact .inl ⟨if_pos h, h⟩
  · rw [if_neg h]
    rcases hc : (curQ S.ws n).2 with _ | _
    · exact .inr (.inr ⟨by simp, by omega, rfl⟩)
    · exact .inr (.inl ⟨by simp, by omega, rfl⟩)
def putM (S : QS) (n : Int) (v : Nat) : Int × QS := if openE S n ≠ 0 then (openE S n, S) else if roomQ S < 1 then (5, S) else (0, { S with ws := addQ S.ws n ⟨3, 0, v⟩ })
theorem put_nil (n : Int) (v : Nat) (w : World) : Calls Try.prog 30 #[.pointer none, .int .i64 n, .int .u64 (v : Nat)] w fun e w' => e = .returned (.int .i64 6) ∧ w = w' := by
  go_enter Try.func30, Try.ntmps30
  go_wp2_with fail
  refine (open_nil n w).mono ?_
  rintro e w1 ⟨rfl, rfl⟩
  go_wp2
  go_ret
  exact ⟨rfl, rfl⟩
set_option maxRecDepth 100000 in
set_option maxHeartbeats 2000000 in
theorem put_any (g of : Nat) (tt : TypeId) (cs : Array Value) (S : QS) (N : Nat) (n : Int) (v : Nat) (w : World) (h : QAt w g of tt cs S N) (hN : N < 300000) (hn : i64ok n) (hB : ∀ b, w.heap.size ≤ b → S.B b) :
    Calls Try.prog 30 #[.pointer (some ⟨g, of, none⟩), .int .i64 n, .int .u64 (v : Nat)] w fun e w' => e = .returned (.int .i64 (putM S n v).1) ∧ QO w g of tt cs (putM S n v).2 (N + 1) w' := by
  have HO := Lib.hid (open_any g of tt cs S N n w h hn)
  obtain ⟨er, her⟩ : ∃ er, er = openE S n := ⟨_, rfl⟩
  rw [← her] at HO
  by_cases h0 : er = 0
  · subst h0
    have HR := Lib.hid (room_any g of tt cs S N w h (by omega))
    by_cases hr : roomQ S < 1
    · have hM : putM S n v = (5, S) := by unfold putM; rw [if_neg (by rw [← her]; simp), if_pos hr]
      rw [hM]
      have HF := Lib.hid (fun u (hb : Below w.heap.size w u) => QO.same (h.more (Nat.le_succ N)) hb)
      generalize roomQ S = rr at hr HR
      clear h hM her hB
      go_enter Try.func30, Try.ntmps30
      go_wp2_with fail
      refine HO.out.mono ?_
      rintro e w1 ⟨rfl, rfl⟩
      go_wp2_with fail
      refine HR.out.mono ?_
      rintro e w2 ⟨rfl, b2⟩
      have HF2 := Lib.hid (HF.out w2 b2)
      clear b2
      go_wp2
      go_ret
      exact ⟨rfl, HF2.out⟩
    · have hM : putM S n v = (0, { S with ws := addQ S.ws n ⟨3, 0, v⟩ }) := by unfold putM; rw [if_neg (by rw [← her]; simp), if_neg hr]
      rw [hM]
      have HA := Lib.hid (fun u (hb : Below w.heap.size w u) => add_any g of tt cs S N n ⟨3, 0, v⟩ u (h.below hb) hN hn (fun b hle => hB b (Nat.le_trans hb.size hle)) (h.iv.add h.nd n ⟨3, 0, v⟩ (fun _ => hr)))
      generalize roomQ S = rr at hr HR
      clear h hM her hB
      go_enter Try.func30, Try.ntmps30
      go_wp2_with fail
      refine HO.out.mono ?_
      rintro e w1 ⟨rfl, rfl⟩
      go_wp2_with fail
      refine HR.out.mono ?_
      rintro e w2 ⟨rfl, b2⟩
      have HA2 := Lib.hid (HA.out w2 b2)
      have HB := Lib.hid b2
      clear b2
      go_wp2_with fail
      refine HA2.out.mono ?_
      rintro e w3 ⟨rfl, hq⟩
      have HF2 := Lib.hid (QO.from Keep3.rfl' (lbelow_grown HB.out (some g)) hq)
      clear hq
      go_wp2
      go_ret
      exact ⟨rfl, HF2.out⟩
  · have hM : putM S n v = (er, S) := by unfold putM; rw [if_pos (by rw [← her]; exact h0), her]
    rw [hM]
    have HF := Lib.hid (QO.same (h.more (Nat.le_succ N)) (Below.refl _ _))
    have hb : (er != 0) = true := by simp [h0]
    clear h hM her hB
    go_enter Try.func30, Try.ntmps30
    go_wp2_with fail
    refine HO.out.mono ?_
    rintro e w1 ⟨rfl, rfl⟩
    go_wp2
    go_ret
    exact ⟨rfl, HF.out⟩
theorem front_ok {L : List IT} {n : Int} (h : (frontR L n).2 = 0) : ∃ hh : (frontR L n).1 < L.length, (L[(frontR L n).1]'hh).t = 0 ∧ (L[(frontR L n).1]'hh).t ≠ n ∧ ∀ j (hj : j < L.length), j < (frontR L n).1 → (L[j]'hj).t = n := by
  unfold frontR at h ⊢
  rcases hf : (ixs L).find? (fun x => decide (x.2.t ≠ n)) with _ | x
  · rw [hf] at h; simp at h
  · rw [hf] at h ⊢
    dsimp only at h ⊢
    by_cases h0 : x.2.t = 0
    · rw [if_pos h0] at h ⊢
      rw [List.find?_eq_some_iff_getElem] at hf
      obtain ⟨h1, i, hi, e, h2⟩ := hf
      have hil : i < L.length := by rw [show (ixs L).length = L.length from ixsF_len L 0] at hi; exact hi
      obtain ⟨hh, e2⟩ := ixs_get L i hil
      rw [e2] at e
      subst e
      dsimp only at h0 h1 ⊢
      refine ⟨hil, h0, by simpa using h1, fun j hj hji => ?_⟩
      obtain ⟨hh3, e3⟩ := ixs_get L j hj
      have := h2 j hji
      rw [e3] at this
      simpa using this
    · rw [if_neg h0] at h; simp at h
def takeM (S : QS) (n : Int) : (Nat × Int) × QS :=
  if openE S n ≠ 0 then ((0, openE S n), S)
  else if (frontR S.I n).2 ≠ 0 then ((0, (frontR S.I n).2), S)
  else match S.I[(frontR S.I n).1]? with
    | some x => ((x.v, 0), { S with I := giveI S.I (frontR S.I n).1 n, ws := addQ S.ws n ⟨4, x.n, x.v⟩ })
    | none => ((0, 0), S)
theorem take_nil (n : Int) (w : World) : Calls Try.prog 24 #[.pointer none, .int .i64 n] w fun e w' => e = .returned (.tuple #[.int .u64 0, .int .i64 6]) ∧ w = w' := by
  go_enter Try.func24, Try.ntmps24
  go_wp2_with fail
  refine (open_nil n w).mono ?_
  rintro e w1 ⟨rfl, rfl⟩
  go_wp2
  go_ret2
  exact ⟨rfl, rfl⟩
set_option maxRecDepth 100000 in
set_option maxHeartbeats 2000000 in
theorem take_any (g of : Nat) (tt : TypeId) (cs : Array Value) (S : QS) (N : Nat) (n : Int) (w : World) (h : QAt w g of tt cs S N) (hN : N < 300000) (hn : i64ok n) (hB : ∀ b, w.heap.size ≤ b → S.B b) :
    Calls Try.prog 24 #[.pointer (some ⟨g, of, none⟩), .int .i64 n] w fun e w' => e = .returned (.tuple #[.int .u64 ((takeM S n).1.1 : Nat), .int .i64 (takeM S n).1.2]) ∧ QO w g of tt cs (takeM S n).2 (N + 1) w' := by
  have HO := Lib.hid (open_any g of tt cs S N n w h hn)
  obtain ⟨er, her⟩ : ∃ er, er = openE S n := ⟨_, rfl⟩
  rw [← her] at HO
  by_cases h0 : er = 0
  · subst h0
    have HFr := Lib.hid (front_any g of tt cs S N n w h)
    by_cases hf : (frontR S.I n).2 = 0
    · obtain ⟨hi, ht0, htn, _⟩ := front_ok hf
      obtain ⟨i, hie⟩ : ∃ i, i = (frontR S.I n).1 := ⟨_, rfl⟩
      rw [hf, ← hie] at HFr
      have hM : takeM S n = (((S.I[(frontR S.I n).1]'hi).v, 0), { S with I := giveI S.I (frontR S.I n).1 n, ws := addQ S.ws n ⟨4, (S.I[(frontR S.I n).1]'hi).n, (S.I[(frontR S.I n).1]'hi).v⟩ }) := by
        unfold takeM; rw [if_neg (by rw [← her]; simp), if_neg (by rw [hf]; simp), List.getElem?_eq_getElem hi]
      rw [hM]
      obtain ⟨x, hx⟩ : ∃ x, x = S.I[(frontR S.I n).1]'hi := ⟨_, rfl⟩
      obtain ⟨A0, n0, c0, i1, i2, i3, i4, i5⟩ := h.it
      have hn48 : n0 ≤ 48 := by have := h.iv.room; omega
      rw [← hie] at hi
      have hx2 : x = S.I[i]'hi := by rw [hx]; congr 1; exact hie.symm
      rw [← hx, ← hie]
      have hin : i < n0 := by omega
      have hinI : (i : Int) < (n0 : Int) := by omega
      have HC0 := Lib.hid (fun u (hb : Below w.heap.size w u) => ((h.below hb).bk.cell of).trans i1)
      have HI := Lib.hid (fun u (hb : Below w.heap.size w u) => i5.below hb)
      have HG := Lib.hid (fun u (hb : Below w.heap.size w u) => give_any g of tt cs S N i n u (h.below hb) hi)
      have hnd := h.nd
      have H := Lib.hid (And.intro h (And.intro hx2 (And.intro hi (And.intro hB hn))))
      clear h hM hx hf hie her i1 i2 i5 ht0 htn hnd hx2
      obtain ⟨xn, xv, xt⟩ := x
      dsimp only
      go_enter Try.func24, Try.ntmps24
      go_wp2_with fail
      refine HO.out.mono ?_
      rintro e w1 ⟨rfl, rfl⟩
      go_wp2_with fail
      refine HFr.out.mono ?_
      rintro e w2 ⟨rfl, b2⟩
      have cg := HC0.out w2 b2
      obtain ⟨b, o, rfl, hbk, hcs⟩ := (HI.out w2 b2) (by have := H.out.2.2.1; omega)
      obtain ⟨q0, q1, q2⟩ := hcs i H.out.2.2.1
      rw [← H.out.2.1] at q0 q1 q2
      dsimp only at q0 q1 q2
      obtain ⟨w3, hw3⟩ : ∃ w3, w3 = w2.alloc (.cells #[.int .i64 xn, .int .u64 (xv : Nat), .int .i64 xt] 71) := ⟨_, rfl⟩
      have b3 : Below w2.heap.size w2 w3 := by rw [hw3]; exact ba _ _
      have k3 : Blk w3 w2.heap.size 71 #[.int .i64 xn, .int .u64 (xv : Nat), .int .i64 xt] := by rw [hw3]; exact Blk.new _ _ _
      have HG2 := Lib.hid (HG.out w3 (bt b2 b3))
      obtain ⟨tb, htb⟩ : ∃ tb, tb = w2.heap.size := ⟨_, rfl⟩
      rw [← htb] at k3
      have Htb := Lib.hid htb
      have hgl := H.out.1.lt
      have hgt : g ≠ tb := by rw [htb]; have := b2.size; omega
      have H3 := Lib.hid (And.intro (bt b2 b3) (And.intro k3 hgt))
      have HW3 := Lib.hid hw3
      clear b2 hbk hcs hw3 b3 k3 htb
      go_wp2_with fail
      rw [← HW3.out]
      refine HG2.out.mono ?_
      rintro e w4 ⟨rfl, ⟨⟨cs4, hq4, hkp4⟩, hg4⟩⟩
      have k4 := H3.out.2.1.kept hg4 (fun e => hgt (by injection e with e; exact e.symm))
      have e0 := k4.cell 0
      have e1 := k4.cell 1
      simp only [List.getElem?_toArray, List.getElem?_cons_zero, List.getElem?_cons_succ] at e0 e1
      have HA := Lib.hid (add_any g of tt cs4 _ N n ⟨4, xn, xv⟩ w4 hq4 hN H.out.2.2.2.2 (fun b hle => H.out.2.2.2.1 b (by have := H3.out.1.size; have := hg4.size; omega)) (hq4.iv.add hq4.nd n ⟨4, xn, xv⟩ (fun e => by cases e)))
      have H4 := Lib.hid (And.intro hkp4 (And.intro ((lbelow_grown H3.out.1 (some g)).trans hg4) k4))
      rw [Htb.out] at e0 e1
      clear hq4 hkp4 hg4 k4 cg q0 q1 q2
      go_wp2_with fail
      refine HA.out.mono ?_
      rintro e w5 ⟨rfl, ⟨⟨cs5, hq5, hkp5⟩, hg5⟩⟩
      have k5 := H4.out.2.2.kept hg5 (fun e => hgt (by injection e with e; exact e.symm))
      have e1' := k5.cell 1
      simp only [List.getElem?_toArray, List.getElem?_cons_zero, List.getElem?_cons_succ] at e1'
      rw [Htb.out] at e1'
      have HF : Hid (QO w g of tt cs { S with I := giveI S.I i n, ws := addQ S.ws n ⟨4, xn, xv⟩ } (N + 1) w5) := Lib.hid ⟨⟨cs5, hq5, H4.out.1.trans hkp5⟩, H4.out.2.1.trans hg5⟩
      clear hq5 hkp5 hg5 k5 e0 e1
      go_wp2
      go_ret2
      exact ⟨rfl, HF.out⟩
    · have hM : takeM S n = ((0, (frontR S.I n).2), S) := by unfold takeM; rw [if_neg (by rw [← her]; simp), if_pos hf]
      rw [hM]
      have HF := Lib.hid (fun u (hb : Below w.heap.size w u) => QO.same (h.more (Nat.le_succ N)) hb)
      generalize (frontR S.I n).1 = fi at HFr
      generalize (frontR S.I n).2 = fe at HFr hf ⊢
      have hfb : (fe != 0) = true := by simp [hf]
      clear h hM her hB
      go_enter Try.func24, Try.ntmps24
      go_wp2_with fail
      refine HO.out.mono ?_
      rintro e w1 ⟨rfl, rfl⟩
      go_wp2_with fail
      refine HFr.out.mono ?_
      rintro e w2 ⟨rfl, b2⟩
      have HF2 := Lib.hid (HF.out w2 b2)
      clear b2
      go_wp2
      go_ret2
      exact ⟨rfl, HF2.out⟩
  · have hM : takeM S n = ((0, er), S) := by unfold takeM; rw [if_pos (by rw [← her]; exact h0), her]
    rw [hM]
    have HF := Lib.hid (QO.same (h.more (Nat.le_succ N)) (Below.refl _ _))
    have hb : (er != 0) = true := by simp [h0]
    clear h hM her hB
    go_enter Try.func24, Try.ntmps24
    go_wp2_with fail
    refine HO.out.mono ?_
    rintro e w1 ⟨rfl, rfl⟩
    go_wp2
    go_ret2
    exact ⟨rfl, HF.out⟩
end Go.Proofs.Ytfcafahgmnnlnaa.Qu
