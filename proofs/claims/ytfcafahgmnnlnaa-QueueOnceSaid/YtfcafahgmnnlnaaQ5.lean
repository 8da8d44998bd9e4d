/- Layer 14: open; a work is laid, dropped. -/
import Derived.Test.YtfcafahgmnnlnaaQ4
namespace Go.Proofs.Ytfcafahgmnnlnaa.Qu
open Go.RowKit Go.Maps
set_option linter.unusedVariables false
set_option linter.unusedSimpArgs false

theorem fieldW1 (A : Option Addr) (q c : Nat) (p : Bool) (w : World) : (Instr.field 75 (.agg #[.slice A q c, .bool p]) 1).run Try.prog w = .ok (.bool p) w := by kernel_rfl
theorem fieldW0 (A : Option Addr) (q c : Nat) (p : Bool) (w : World) : (Instr.field 75 (.agg #[.slice A q c, .bool p]) 0).run Try.prog w = .ok (.slice A q c) w := by kernel_rfl
def openE (S : QS) (n : Int) : Int := if n < 1 then 1 else if (curQ S.ws n).2 = true then 7 else 0
theorem open_nil (n : Int) (w : World) : Calls Try.prog 42 #[.pointer none, .int .i64 n] w fun e w' => e = .returned (.int .i64 6) ∧ w = w' := by
  go_enter Try.func42, Try.ntmps42
  go_wp2_with fail
  refine (names_nil n w).mono ?_
  rintro e w1 ⟨rfl, rfl⟩
  go_wp2
  go_ret
  exact ⟨rfl, rfl⟩
set_option maxRecDepth 100000 in
theorem open_any (g of : Nat) (tt : TypeId) (cs : Array Value) (S : QS) (N : Nat) (n : Int) (w : World) (h : QAt w g of tt cs S N) (hn : i64ok n) :
    Calls Try.prog 42 #[.pointer (some ⟨g, of, none⟩), .int .i64 n] w fun e w' => e = .returned (.int .i64 (openE S n)) ∧ w = w' := by
  have HN := Lib.hid (names_any g of n w)
  unfold openE
  by_cases h1 : n < 1
  · have hE : namesE n = 1 := if_pos h1
    rw [hE] at HN
    rw [if_pos h1]
    clear h hE
    go_enter Try.func42, Try.ntmps42
    go_wp2_with fail
    refine HN.out.mono ?_
    rintro e w1 ⟨rfl, rfl⟩
    go_wp2
    go_ret
    exact ⟨rfl, rfl⟩
  · have hE : namesE n = 0 := if_neg h1
    rw [hE] at HN
    rw [if_neg h1]
    obtain ⟨m, A, q, c, h32, hq, hc, r1, _⟩ := h.look hn
    have c32 := (h.bk.cell (of + 2)).trans h32
    rcases hp : (curQ S.ws n).2 with _ | _
    all_goals
      rw [hp] at r1
      have hf1 := fieldW1 A q c
      clear h hE hq hc h32 hp
      go_enter Try.func42, Try.ntmps42
      go_wp2_with fail
      refine HN.out.mono ?_
      rintro e w1 ⟨rfl, rfl⟩
      go_wp2
      go_ret
      exact ⟨rfl, rfl⟩
/-- The works have turned. -/
theorem QAt.worked {w w' : World} {g of N : Nat} {tt : TypeId} {cs : Array Value} {S : QS} {ws' : List WQ} (h : QAt w g of tt cs S N) (hg : w.grownBy w' (some g)) {m' : Option Nat} {G' : Int → Option Value} (hb : Blk w' g tt (cs.setIfInBounds (of + 2) (.map m'))) (hs : FSrc isWork w' m' N G') (hr : WRel w' S.B G' (lookQ ws')) (hnd : ws'.Pairwise fun a b => a.n ≠ b.n) (hle : ∀ y ∈ ws', y.l.length ≤ N ∧ i64ok y.n) (hiv : QInv { S with ws := ws' }) : QAt w' g of tt (cs.setIfInBounds (of + 2) (.map m')) { S with ws := ws' } N := by
  obtain ⟨h1, h2, ⟨A, n, c, a1, a2, a3, a4, a5⟩, h3, ⟨m, G, h4, h5, h6⟩, h7, h8, h9⟩ := h
  refine ⟨hb, h2, ⟨A, n, c, ?_, a2, a3, a4, a5.kept hg h1 h2.2⟩, ?_, ⟨m', G', set_at h4, hs, hr⟩, hnd, hle, hiv⟩
  · rw [Array.getElem?_setIfInBounds_ne (by omega)]; exact a1
  · rw [Array.getElem?_setIfInBounds_ne (by omega)]; exact h3
set_option maxRecDepth 100000 in
set_option maxHeartbeats 1000000 in
theorem lay_any (g of : Nat) (tt : TypeId) (cs : Array Value) (S : QS) (N : Nat) (n : Int) (A : Option Addr) (l : List Ch) (m c : Nat) (p : Bool) (w : World) (h : QAt w g of tt cs S N) (hN : N < 900000) (hn : i64ok n) (hm : m = l.length) (hl : l.length ≤ N + 1) (hc : ChAt w S.B A l) (hiv : QInv { S with ws := layQ S.ws n l p }) :
    Calls Try.prog 45 #[.pointer (some ⟨g, of, none⟩), .int .i64 n, .agg #[.slice A m c, .bool p]] w fun e w' => e = .returned (.tuple #[]) ∧ QO w g of tt cs { S with ws := layQ S.ws n l p } (N + 1) w' := by
  have hkey := keyOf_i n hn
  have hmk : ∀ (q : Int) (u : World), (Instr.makeMap 52 (some (.int .i64 q))).run Try.prog u = .ok (.map (some u.heap.size)) (u.alloc (.map #[] 0)) := fun q u => by
    simp [Instr.makeMap, run_underlying Try.underlying52, asInt, go_sem, Result.andThen]
  obtain ⟨w1, hw1⟩ : ∃ w1, w1 = w.alloc (.cells #[.slice A m c, .bool p] 75) := ⟨_, rfl⟩
  have hb1 : Below w.heap.size w w1 := by rw [hw1]; exact ba _ _
  have hs1 : w1.heap.size = w.heap.size + 1 := by rw [hw1]; simp
  have k1 : Blk w1 w.heap.size 75 #[.slice A m c, .bool p] := by rw [hw1]; exact Blk.new _ _ _
  have h1 := h.below hb1
  obtain ⟨mw, G, h4, h5, h6⟩ := h1.wk
  obtain ⟨q, hq, hln⟩ := h5.len_run 52 75 Try.underlying52 3
  have c0 := (h1.bk.cell (of + 2)).trans h4
  have hb2 := ba w1 (.map #[] 0)
  have hmade : (w1.alloc (.map #[] 0)).ownsMap Try.prog 3 (asIf isWork) w1.heap.size 0 (.map []) := World.ownsMap_made (H := Value) w1 Try.prog 3 (asIf isWork)
  have hmlt : mw ≠ some w1.heap.size := fun e => by
    rcases h5 with ⟨e1, _⟩ | ⟨b, D, e1, e2, _⟩
    · rw [e1] at e; cases e
    · rw [e1] at e; have := e2.lt; have := Option.some.inj e; omega
  obtain ⟨D, hR, hcp⟩ := Qu.FSrc.copied (h5.below hb2) (by omega) _ hmade hmlt
  have hg2 := h1.bk.below hb2 h1.bk.lt
  have c2 := (hg2.cell (of + 2)).trans h4
  have k12 := k1.below hb2 k1.lt
  generalize hbm : w1.heap.size = bm at *
  have hb12 := bt hb1 (hbm ▸ hb2)
  have hglt := h.lt
  rw [hw1] at c0 hln hcp c2
  have HW1 := Lib.hid hw1
  have Hst := Lib.hid (And.intro hR (And.intro h (And.intro hc (And.intro hm (And.intro hl (And.intro hn (And.intro h6 (And.intro h4 hiv))))))))
  have Hb2 : Hid (Below w1.heap.size w1 (w1.alloc (.map #[] 0))) := Lib.hid (ba _ _)
  have hqb : IntKind.i64.wrap ((q : Int) + 1) = (q : Int) + 1 := by rw [IntWalk.i64_in _ (by omega)]
  clear hw1 h5 hmade hmlt hb1 k1 hb2 hR hc hm hl hn h6 h1 h4 h hq hiv
  go_enter Try.func45, Try.ntmps45
  go_wp2_with fail
  have hbm1 : w.heap.size + 1 = bm := hs1.symm
  rw [hbm1]
  refine hcp.mono ?_
  rintro e w3 ⟨rfl, hown3, hg3⟩
  rw [← HW1.out] at hg3
  have hgm : g ≠ bm := by omega
  have g3 := hg2.kept hg3 (fun e => hgm (Option.some.inj e))
  have k13 := k12.kept hg3 (fun e => by have := Option.some.inj e; omega)
  have e0 := k13.cell 0
  have e1 := k13.cell 1
  simp only [List.getElem?_toArray, List.getElem?_cons_zero, List.getElem?_cons_succ] at e0 e1
  have Hbs := Lib.hid hs1
  clear hcp c0 c2 hln hg2 k12 hs1 hbm1
  have hnl : N < maxLen := by unfold maxLen; omega
  go_wp2_with (first
    | (at_mapUpdate; refine wpList_mapUpdate_own _ rfl _ _ _ 52 rfl 3 75 lawI Try.underlying52 _ bm _ _ rfl hown3 hnl _ _ _ rfl rfl hkey _ [] (asIf_mk (isWork_val ⟨A, m, c, p⟩)) ?_; intro w4 hown4 hg4; go_frame; have g4 := g3.kept hg4 (fun e => hgm (Option.some.inj e)); have d0 := (g4.cell (of + 2)).trans Hst.out.2.2.2.2.2.2.2.1; have f0 := g4.frozen (of + 2))
    | go_in)
  go_wp2
  go_end0
  obtain ⟨hR, h, hc, hm, hl, hn, h6, h4, hiv⟩ := Hst.out
  have hbs := Hbs.out
  have hR4 := hR.put hown3.isMap n (.agg #[.slice A m c, .bool p])
  have q1 : w.grownBy w4 none := by
    refine ⟨hg4.os.trans (hg3.os.trans hb12.os), hg4.tape.trans (hg3.tape.trans hb12.tape), hg4.output.trans (hg3.output.trans hb12.output), Nat.le_trans hb12.size (Nat.le_trans hg3.size hg4.size), fun i hi _ => ?_⟩
    have hi2 := Nat.lt_of_lt_of_le hi hb12.size
    have hni : some i ≠ some bm := fun e => by have := Option.some.inj e; omega
    exact (hg4.block i (Nat.lt_of_lt_of_le hi2 hg3.size) hni).trans ((hg3.block i hi2 hni).trans (hb12.block i hi))
  have hh := h.below (lgrown_below q1)
  have hgs := lgrown_set w4 ⟨g, of + 2, none⟩ (.map (some bm))
  have q2 : Below w1.heap.size w1 w4 := by
    refine ⟨hg4.os.trans (hg3.os.trans Hb2.out.os), hg4.tape.trans (hg3.tape.trans Hb2.out.tape), hg4.output.trans (hg3.output.trans Hb2.out.output), Nat.le_trans Hb2.out.size (Nat.le_trans hg3.size hg4.size), fun i hi => ?_⟩
    have hi2 := Nat.lt_of_lt_of_le hi Hb2.out.size
    have hni : some i ≠ some bm := fun e => by have := Option.some.inj e; have := HW1.out; rw [this] at hi; simp at hi; omega
    exact (hg4.block i (Nat.lt_of_lt_of_le hi2 hg3.size) hni).trans ((hg3.block i hi2 hni).trans (Hb2.out.block i hi))
  refine ⟨rfl, ⟨cs.setIfInBounds (of + 2) (.map (some bm)), (hh.more (Nat.le_succ N)).worked hgs (g4.set_ (of + 2) _) (.inr ⟨bm, _, rfl, hown4.setCell (a := ⟨g, of + 2, none⟩) (fun e => hgm e.symm) _, hR4⟩) ?_ (layQ_nd h.nd n l p) (fun y hy => ?_) hiv, Keep3.set _ _ (by omega) _⟩, ?_⟩
  · exact ((h6.same fun A l hc => hc.below q2).put n A m c l p hm (hc.below (lgrown_below q1))).same fun A l hc => hc.kept hgs g4 h.ty.1
  · rcases layQ_mem hy with rfl | ⟨hy, _⟩
    · exact ⟨hl, hn⟩
    · have := h.le y hy; exact ⟨by omega, this.2⟩
  · exact (q1.but (some g)).andThen hgs (fun j h => by cases h; exact .inr rfl)
theorem QInv.others {S : QS} (h : QInv S) (hd : S.ws.Pairwise fun a b => a.n ≠ b.n) (n : Int) : QInv { S with ws := othersQ S.ws n } := by
  have := putsW_others S.ws n hd
  have h1 := h.room
  have h2 := h.last
  exact ⟨by dsimp only; omega, h.g0, by dsimp only; omega⟩
set_option maxRecDepth 100000 in
set_option maxHeartbeats 2000000 in
theorem drop_any (g of : Nat) (tt : TypeId) (cs : Array Value) (S : QS) (N : Nat) (n : Int) (w : World) (h : QAt w g of tt cs S N) (hn : i64ok n) :
    Calls Try.prog 41 #[.pointer (some ⟨g, of, none⟩), .int .i64 n] w fun e w' => e = .returned (.tuple #[]) ∧ QO w g of tt cs { S with ws := othersQ S.ws n } N w' := by
  have hkey := keyOf_i n hn
  obtain ⟨mw, G, h4, h5, h6⟩ := h.wk
  have c32 := (h.bk.cell (of + 2)).trans h4
  have HC := Lib.hid (Qu.FSrc.cloned h5)
  have H := Lib.hid (And.intro h (And.intro h6 (And.intro hn h4)))
  have hle : Hid ((othersQ S.ws n).Pairwise (fun a b => a.n ≠ b.n) ∧ (∀ y ∈ othersQ S.ws n, y.l.length ≤ N ∧ i64ok y.n) ∧ QInv { S with ws := othersQ S.ws n }) := Lib.hid ⟨othersQ_nd h.nd n, fun y hy => h.le y (List.mem_filter.1 hy).1, h.iv.others h.nd n⟩
  clear h h4 h5 h6 hn
  go_enter Try.func41, Try.ntmps41
  go_wp2_with fail
  refine HC.out.mono ?_
  rintro e w1 ⟨⟨m', rfl, hs1, hlt⟩, b1⟩
  obtain ⟨h, h6, hn, h4⟩ := H.out
  have h1 := h.below b1
  have hg1 := h1.bk
  have h61 := h6.same (w' := w1) fun A l hc => hc.below b1
  have hgl := h.lt
  have d0 := (hg1.cell (of + 2)).trans h4
  have f0 := hg1.frozen (of + 2)
  rcases hs1 with ⟨rfl, rfl⟩ | ⟨b, D, rfl, hown, hR⟩
  · have hdn := fun (u : World) ty => Maps.drop_nil (P := Try.prog) (w := u) lawI Try.underlying52 hkey ty
    obtain ⟨w2, hw2⟩ : ∃ w2, w2 = w1.setCell ⟨g, of + 2, none⟩ (.map none) := ⟨_, rfl⟩
    have g2 : w1.grownBy w2 (some g) := by rw [hw2]; exact lgrown_set _ _ _
    have kk2 := h1.worked (ws' := othersQ S.ws n) (m' := none) (G' := fun _ => none) g2 (by rw [hw2]; exact hg1.set_ (of + 2) _) (.inl ⟨rfl, rfl⟩) (by
      have := (h61.del n).same (w' := w2) fun A l hc => hc.kept g2 hg1 h1.ty.1
      have e : delG (fun _ => none) n = fun _ => none := by funext j; unfold delG; split <;> rfl
      rwa [e] at this) hle.out.1 hle.out.2.1 hle.out.2.2
    have HF : Hid (QO w g of tt cs { S with ws := othersQ S.ws n } N w2) := Lib.hid ⟨⟨_, kk2, Keep3.set cs (of + 2) (by omega) _⟩, (lbelow_grown b1 (some g)).trans g2⟩
    have HW := Lib.hid hw2
    clear h h6 h4 h1 hg1 h61 g2 kk2 hw2 c32
    go_wp2
    rw [← HW.out]
    go_end0
    exact ⟨rfl, HF.out⟩
  · have hbl := hlt b rfl
    have hgb : g ≠ b := by omega
    have Hlt := Lib.hid (And.intro hbl hgb)
    clear c32 d0 f0 hlt
    go_wp2_with (at_delete; refine wpList_delete_own _ rfl _ _ 52 3 rfl 75 lawI Try.underlying52 _ b _ _ rfl hown _ _ rfl hkey ?_; intro w2 hown2 hturn; go_frame; have hg2 := hturn.grown; have k2 := hg1.kept hg2 (fun e => hgb (Option.some.inj e)); have d0 := (k2.cell (of + 2)).trans h4; have f0 := k2.frozen (of + 2))
    obtain ⟨w3, hw3⟩ : ∃ w3, w3 = w2.setCell ⟨g, of + 2, none⟩ (.map (some b)) := ⟨_, rfl⟩
    have gg2 : w.grownBy w2 none := by
      refine ⟨hg2.os.trans b1.os, hg2.tape.trans b1.tape, hg2.output.trans b1.output, Nat.le_trans b1.size hg2.size, fun i hi _ => ?_⟩
      exact (hg2.block i (Nat.lt_of_lt_of_le hi b1.size) (fun e => by have := Option.some.inj e; omega)).trans (b1.block i hi)
    have hh2 := h.below (lgrown_below gg2)
    have g3 : w2.grownBy w3 (some g) := by rw [hw3]; exact lgrown_set _ _ _
    have kk3 := hh2.worked (ws' := othersQ S.ws n) (m' := some b) g3 (by rw [hw3]; exact k2.set_ (of + 2) _) (.inr ⟨b, _, rfl, hown2.kept g3 (fun e => hgb (Option.some.inj e).symm), hR.del n⟩) (by
      have := ((h6.same (w' := w2) fun A l hc => hc.below (lgrown_below gg2)).del n).same (w' := w3) fun A l hc => hc.kept g3 k2 h.ty.1
      exact this) hle.out.1 hle.out.2.1 hle.out.2.2
    have HF : Hid (QO w g of tt cs { S with ws := othersQ S.ws n } N w3) := Lib.hid ⟨⟨_, kk3, Keep3.set cs (of + 2) (by omega) _⟩, (gg2.but (some g)).trans g3⟩
    have HW := Lib.hid hw3
    clear h h6 h4 h1 hg1 h61 g3 kk3 hw3 hown2 hturn hg2 k2 gg2 hh2 hown hbl hR
    go_wp2
    rw [← HW.out]
    go_end0
    exact ⟨rfl, HF.out⟩
end Go.Proofs.Ytfcafahgmnnlnaa.Qu
