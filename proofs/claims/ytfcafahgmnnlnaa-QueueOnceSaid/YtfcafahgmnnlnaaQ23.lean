/- Layer 14: a queue behind calls. -/
import Derived.Test.YtfcafahgmnnlnaaQ22
namespace Go.Proofs.Ytfcafahgmnnlnaa.Qu
open Go.RowKit Go.Maps Go.Deep
set_option linter.unusedVariables false
set_option linter.unusedSimpArgs false

def OpIn (w : World) (o : OpV) : Prop := i64ok o.n ∧ (o.l.length ≤ maxLen ∧ InL w o.A o.l) ∧ o.vs.length ≤ maxLen ∧ UAt w o.VA o.vs
theorem OpIn.below {w w' : World} {o : OpV} (h : OpIn w o) (hb : Below w.heap.size w w') : OpIn w' o := ⟨h.1, ⟨h.2.1.1, h.2.1.2.below hb⟩, h.2.2.1, h.2.2.2.below hb⟩
/-- Ops in memory. -/
def OpsAt (w : World) (A : Option Addr) (ops : List OpV) : Prop :=
  ops.length ≤ maxLen ∧ (∀ o ∈ ops, OpIn w o) ∧ (0 < ops.length → ∃ b o, A = some ⟨b, o, none⟩ ∧ b < w.heap.size ∧ ∀ i, (h : i < ops.length) →
    w.cell? ⟨b, o + i * 6, none⟩ = some (.int .i64 (ops[i]'h).k) ∧ w.cell? ⟨b, o + i * 6 + 1, none⟩ = some (.int .i64 (ops[i]'h).n) ∧
    w.cell? ⟨b, o + i * 6 + 2, none⟩ = some (.int .i64 (ops[i]'h).x) ∧ w.cell? ⟨b, o + i * 6 + 3, none⟩ = some (.int .u64 ((ops[i]'h).v : Nat)) ∧ w.cell? ⟨b, o + i * 6 + 4, none⟩ = some (.slice (ops[i]'h).A (ops[i]'h).l.length (ops[i]'h).c) ∧
    w.cell? ⟨b, o + i * 6 + 5, none⟩ = some (.slice (ops[i]'h).VA (ops[i]'h).vs.length (ops[i]'h).vc))
theorem OpsAt.below {w w' : World} {A : Option Addr} {ops : List OpV} (h : OpsAt w A ops) (hb : Below w.heap.size w w') : OpsAt w' A ops := by
  refine ⟨h.1, fun o ho => (h.2.1 o ho).below hb, fun hl => ?_⟩
  obtain ⟨b, o, rfl, hlt, hc⟩ := h.2.2 hl
  refine ⟨b, o, rfl, Nat.lt_of_lt_of_le hlt hb.size, fun i hi => ?_⟩
  obtain ⟨h1, h2, h3, h4, h5, h6⟩ := hc i hi
  exact ⟨(hb.cell (p := ⟨b, _, none⟩) hlt).trans h1, (hb.cell (p := ⟨b, _, none⟩) hlt).trans h2, (hb.cell (p := ⟨b, _, none⟩) hlt).trans h3, (hb.cell (p := ⟨b, _, none⟩) hlt).trans h4, (hb.cell (p := ⟨b, _, none⟩) hlt).trans h5, (hb.cell (p := ⟨b, _, none⟩) hlt).trans h6⟩
theorem inl_offg {w wr u : World} {A : Option Addr} {l : List Ch} {g : Nat} (h : InL w A l) (hb : Below w.heap.size w wr) (hle : w.heap.size ≤ g) (hg : wr.grownBy u (some g)) : InL u A l :=
  h.below (hb.grown hg hb.size (fun r e => by cases e; exact hle))
def stepQ (S : QS) (o : OpV) : QS := if longB o = true then S else { (callM S o).2 with B := anyB }
def playQ (ops : List OpV) : QS := (ops.take 60).foldl stepQ (QS.zero anyB)
theorem stepQ_B {S : QS} (h : S.B = anyB) (o : OpV) : (stepQ S o).B = anyB := by unfold stepQ; split; exact h; rfl
theorem QOk.rebase {S : QS} {B : Nat → Prop} (h : QOk S) : QOk { S with B := B } := ⟨h.room, h.g0, h.last⟩
theorem stepQ_ok {S : QS} (h : QOk S) (hd : S.ws.Pairwise fun a b => a.n ≠ b.n) (o : OpV) : QOk (stepQ S o) := by
  unfold stepQ; split; exact h; exact (h.call hd o).rebase
set_option maxRecDepth 100000 in
set_option maxHeartbeats 2000000 in
theorem played_any (A : Option Addr) (ops : List OpV) (n c : Nat) (w : World) (hn : Hid (n = ops.length)) (h : OpsAt w A ops) : Calls Try.prog 22 #[.slice A n c] w fun e w' => (∃ g cs, e = .returned (.pointer (some ⟨g, 0, none⟩)) ∧ QAt w' g 0 54 cs (playQ ops) 200 ∧ QOk (playQ ops) ∧ (playQ ops).B = anyB ∧ w.heap.size ≤ g) ∧ Below w.heap.size w w' := by
  have H := Lib.hid h
  have hnl : n ≤ 9223372036854775807 := by have := h.1; rw [hn.out]; unfold maxLen at this; omega
  obtain ⟨g, hg⟩ : ∃ g, g = w.heap.size := ⟨_, rfl⟩
  have HG := Lib.hid hg
  clear h
  go_enter Try.func22, Try.ntmps22
  go_wp2_with fail
  refine (new_any anyB w).mono ?_
  rintro e w1 ⟨rfl, ⟨cs, hk⟩, b1⟩
  rw [← hg] at hk ⊢
  have H1 : Hid (∃ cs, QAt w1 g 0 54 cs (QS.zero anyB) (50 + 0) ∧ Below w.heap.size w w1) := Lib.hid ⟨cs, hk.more (by omega), b1⟩
  clear hg hk b1
  go_wp2_with fail
  go_loopw [4] (fun i wr => ∃ (j : Nat), j ≤ n ∧ j ≤ 60 ∧ i = .int .i64 j ∧ Hid ((QOk ((ops.take j).foldl stepQ (QS.zero anyB)) ∧ ((ops.take j).foldl stepQ (QS.zero anyB)).B = anyB) ∧ ∃ cs, QAt wr g 0 54 cs ((ops.take j).foldl stepQ (QS.zero anyB)) (50 + j) ∧ Below w.heap.size w wr)) (fun i _ => n - (intOf i).toNat)
  case atStart => exact ⟨0, Nat.zero_le _, by omega, rfl, Lib.hid ⟨⟨by simpa using QOk.zero anyB, rfl⟩, by simpa using H1.out⟩⟩
  case round =>
    clear H1
    obtain ⟨j, hj, hj60, rfl, HR⟩ := hrel
    have hfin : Hid (j = n ∨ j = 60 → ((∃ cs, QAt wr g 0 54 cs (playQ ops) 200) ∧ QOk (playQ ops) ∧ (playQ ops).B = anyB) ∧ w.heap.size ≤ g ∧ Below w.heap.size w wr) := Lib.hid (fun hje => by
      obtain ⟨⟨hok, hB⟩, cs', hk, hb⟩ := HR.out
      have e : ops.take j = ops.take 60 := by
        rcases hje with rfl | rfl
        · rw [hn.out, List.take_of_length_le (Nat.le_refl _), List.take_of_length_le (by rw [← hn.out]; exact hj60)]
        · rfl
      rw [e] at hk hok hB
      exact ⟨⟨⟨cs', hk.more (by omega)⟩, hok, hB⟩, by have := HG.out; omega, hb⟩)
    by_cases hjn : j < n
    · have hjI : (j : Int) < (n : Int) := by omega
      by_cases hj6 : j < 60
      · have hj6I : (j : Int) < 60 := by omega
        obtain ⟨⟨hSok, hSB⟩, cs', hk, hb⟩ := HR.out
        have hjo : j < ops.length := by rw [← hn.out]; exact hjn
        obtain ⟨b, o, rfl, hlt, hcs⟩ := H.out.2.2 (by omega)
        obtain ⟨q0, q1, q2, q3, q4, q5⟩ := hcs j hjo
        have hin := H.out.2.1 _ (List.getElem_mem hjo)
        obtain ⟨op, hop⟩ : ∃ op, op = ops[j] := ⟨_, rfl⟩
        rw [← hop] at q0 q1 q2 q3 q4 q5 hin
        have p0 := (hb.cell (p := ⟨b, o + j * 6, none⟩) hlt).trans q0
        have p1 := (hb.cell (p := ⟨b, o + j * 6 + 1, none⟩) hlt).trans q1
        have p2 := (hb.cell (p := ⟨b, o + j * 6 + 2, none⟩) hlt).trans q2
        have p3 := (hb.cell (p := ⟨b, o + j * 6 + 3, none⟩) hlt).trans q3
        have p4 := (hb.cell (p := ⟨b, o + j * 6 + 4, none⟩) hlt).trans q4
        have p5 := (hb.cell (p := ⟨b, o + j * 6 + 5, none⟩) hlt).trans q5
        have hstep : (ops.take (j + 1)).foldl stepQ (QS.zero anyB) = stepQ ((ops.take j).foldl stepQ (QS.zero anyB)) op := by
          rw [List.take_add_one, List.getElem?_eq_getElem hjo, List.foldl_append, hop]; rfl
        obtain ⟨Sj, hSj⟩ : ∃ Sj, Sj = (ops.take j).foldl stepQ (QS.zero anyB) := ⟨_, rfl⟩
        rw [← hSj] at hk hSB hSok hstep
        have HS := Lib.hid hstep
        have HC := Lib.hid (fun u (hu : Below wr.heap.size wr u) (hl : longB op = false) => call_any g _ cs' Sj (50 + j) op u (hk.below hu) hSok (by omega) hin.1 (fun _ => by unfold longB at hl; simp at hl; omega) (fun _ u2 hu2 => inl_offg hin.2.1.2 (bt hb hu) (by have := HG.out; omega) hu2) (fun _ => hin.2.2.2.below (bt hb hu)) (fun b _ => by rw [hSB]; trivial))
        have HLo := Lib.hid (fun u => long_any op u)
        have HB := Lib.hid (And.intro hk (And.intro hb (And.intro hSB hSok)))
        have HVal : Hid (op.val = .agg #[.int .i64 op.k, .int .i64 op.n, .int .i64 op.x, .int .u64 (op.v : Nat), .slice op.A op.l.length op.c, .slice op.VA op.vs.length op.vc]) := Lib.hid rfl
        obtain ⟨lb, hlb⟩ : ∃ lb, lb = longB op := ⟨_, rfl⟩
        rw [← hlb] at HLo HC
        have HLb := Lib.hid hlb
        unfold OpV.val at HC HLo
        obtain ⟨ok, on, ox, ov, oA, ol, oc, oVA, ovs, ovc⟩ := op
        dsimp only at p0 p1 p2 p3 p4 p5 HC HLo
        obtain ⟨m, hm⟩ : ∃ m, m = ol.length := ⟨_, rfl⟩
        obtain ⟨vm, hvm⟩ : ∃ vm, vm = ovs.length := ⟨_, rfl⟩
        rw [← hm] at p4
        rw [← hvm] at p5
        rw [← hm, ← hvm] at HC HLo
        clear q0 q1 q2 q3 q4 q5 hcs hop hk hb hSB hSok hSj hstep hin hjo HVal hm hvm hlb
        go_wp2_with fail
        refine (HLo.out wr).mono ?_
        rintro e w2 ⟨rfl, b2⟩
        have hb2 := bt HB.out.2.1 b2
        have r0 := (b2.cell (p := ⟨b, o + j * 6, none⟩) (Nat.lt_of_lt_of_le hlt HB.out.2.1.size)).trans p0
        have r1 := (b2.cell (p := ⟨b, o + j * 6 + 1, none⟩) (Nat.lt_of_lt_of_le hlt HB.out.2.1.size)).trans p1
        have r2 := (b2.cell (p := ⟨b, o + j * 6 + 2, none⟩) (Nat.lt_of_lt_of_le hlt HB.out.2.1.size)).trans p2
        have r3 := (b2.cell (p := ⟨b, o + j * 6 + 3, none⟩) (Nat.lt_of_lt_of_le hlt HB.out.2.1.size)).trans p3
        have r4 := (b2.cell (p := ⟨b, o + j * 6 + 4, none⟩) (Nat.lt_of_lt_of_le hlt HB.out.2.1.size)).trans p4
        have r5 := (b2.cell (p := ⟨b, o + j * 6 + 5, none⟩) (Nat.lt_of_lt_of_le hlt HB.out.2.1.size)).trans p5
        have HB2 := Lib.hid (And.intro b2 hb2)
        clear p0 p1 p2 p3 p4 p5 b2 hb2
        cases lb with
        | false =>
          go_wp2_with fail
          refine (HC.out w2 HB2.out.1 trivial).mono ?_
          rintro e w3 ⟨A2, q2, c2, rfl, _, _, ⟨⟨cs2, hk2, _⟩, hg2⟩⟩
          have hb3 := HB2.out.2.grown hg2 HB2.out.2.size (fun r e => by cases e; have := HG.out; omega)
          have HN : Hid ((QOk ((ops.take (j + 1)).foldl stepQ (QS.zero anyB)) ∧ ((ops.take (j + 1)).foldl stepQ (QS.zero anyB)).B = anyB) ∧ ∃ cs, QAt w3 g 0 54 cs ((ops.take (j + 1)).foldl stepQ (QS.zero anyB)) (50 + (j + 1)) ∧ Below w.heap.size w w3) := Lib.hid (by
            rw [HS.out]
            refine ⟨⟨stepQ_ok HB.out.2.2.2 HB.out.1.nd _, stepQ_B HB.out.2.2.1 _⟩, cs2, ?_, hb3⟩
            unfold stepQ
            rw [← HLb.out, if_neg (by simp)]
            exact (hk2.more (by omega)).rebase fun _ _ _ => trivial)
          clear hk2 hg2 hb3 r0 r1 r2 r3 r4 r5
          go_wp2
          go_roundw
          case rel => exact ⟨j + 1, by omega, by omega, by go_num, HN⟩
          case measure => simp [intOf]; omega
        | true =>
          have HN : Hid ((QOk ((ops.take (j + 1)).foldl stepQ (QS.zero anyB)) ∧ ((ops.take (j + 1)).foldl stepQ (QS.zero anyB)).B = anyB) ∧ ∃ cs, QAt w2 g 0 54 cs ((ops.take (j + 1)).foldl stepQ (QS.zero anyB)) (50 + (j + 1)) ∧ Below w.heap.size w w2) := Lib.hid (by
            rw [HS.out]
            refine ⟨⟨stepQ_ok HB.out.2.2.2 HB.out.1.nd _, stepQ_B HB.out.2.2.1 _⟩, cs', ?_, HB2.out.2⟩
            unfold stepQ
            rw [← HLb.out, if_pos rfl]
            exact (HB.out.1.below HB2.out.1).more (by omega))
          clear r0 r1 r2 r3 r4 r5
          go_wp2
          go_roundw
          case rel => exact ⟨j + 1, by omega, by omega, by go_num, HN⟩
          case measure => simp [intOf]; omega
      · have hj6I : ¬ (j : Int) < 60 := by omega
        have hf := Lib.hid (hfin.out (.inr (by omega)))
        clear HR hfin
        go_wp2
        go_ret
        obtain ⟨⟨⟨csf, hkf⟩, hok, hB⟩, hgf, hbf⟩ := hf.out
        exact ⟨⟨g, rfl, ⟨csf, hkf⟩, hok, hB, hgf⟩, hbf⟩
    · have hjI : ¬ (j : Int) < (n : Int) := by omega
      have hf := Lib.hid (hfin.out (.inl (by omega)))
      clear HR hfin
      go_wp2
      go_ret
      obtain ⟨⟨⟨csf, hkf⟩, hok, hB⟩, hgf, hbf⟩ := hf.out
      exact ⟨⟨g, rfl, ⟨csf, hkf⟩, hok, hB, hgf⟩, hbf⟩
end Go.Proofs.Ytfcafahgmnnlnaa.Qu
