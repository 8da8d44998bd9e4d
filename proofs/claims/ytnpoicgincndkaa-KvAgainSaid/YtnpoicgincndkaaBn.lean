/- Layer 13: the fixed calls; a store behind calls; the same values? -/
import Derived.Test.YtnpoicgincndkaaBm
namespace Go.Proofs.Ytnpoicgincndkaa
open Go.RowKit Go.Maps
set_option linter.unusedVariables false
set_option linter.unusedSimpArgs false

def anyB : Nat → Prop := fun _ => True
theorem aliveM : ∃ S1 S2 S3 S4 S5, changeM (KS.zero anyB) 1 ⟨1, 3, 9⟩ = (0, S1) ∧ getM S1 2 3 = ((0, false, 120), S2) ∧ commitM S2 1 = (0, S3) ∧ getM S3 2 3 = ((9, true, 0), S4) ∧ changeM S4 0 ⟨1, 3, 9⟩ = (1, S5) :=
  ⟨_, _, _, _, _, rfl, rfl, rfl, rfl, rfl⟩
theorem small_ok (x : Int) (h1 : -1000 ≤ x) (h2 : x ≤ 1000) : i64ok x := by unfold i64ok; omega
set_option maxRecDepth 100000 in
set_option maxHeartbeats 2000000 in
theorem alive_any (w : World) : Calls Try.prog 11 #[] w fun e w' => e = .returned (.bool true) ∧ Below w.heap.size w w' := by
  obtain ⟨S1, S2, S3, S4, S5, e1, e2, e3, e4, e5⟩ := aliveM
  have E := Lib.hid (And.intro e1 (And.intro e2 (And.intro e3 (And.intro e4 e5))))
  have q1 : S1.B = anyB := by have := changeM_B (KS.zero anyB) 1 ⟨1, 3, 9⟩; rw [e1] at this; exact this
  have q2 : S2.B = anyB := by have := getM_B S1 2 3; rw [e2] at this; exact this.trans q1
  have q3 : S3.B = anyB := by have := commitM_B S2 1; rw [e3] at this; exact this.trans q2
  have q4 : S4.B = anyB := by have := getM_B S3 2 3; rw [e4] at this; exact this.trans q3
  have EQ := Lib.hid (And.intro q1 (And.intro q2 (And.intro q3 q4)))
  clear e1 e2 e3 e4 e5 q1 q2 q3 q4
  obtain ⟨g, hg⟩ : ∃ g, g = w.heap.size := ⟨_, rfl⟩
  have HG := Lib.hid hg
  go_enter Try.func11, Try.ntmps11
  go_wp2_with fail
  refine (knew_any anyB w).mono ?_
  rintro e w1 ⟨rfl, ⟨cs, hk⟩, b1⟩
  rw [← hg] at hk ⊢
  clear hg
  have hr := kput_any g _ cs _ 0 1 3 9 w1 hk (by omega) (small_ok _ (by omega) (by omega)) (small_ok _ (by omega) (by omega)) (fun b _ => trivial)
  rw [E.out.1] at hr
  have HC1 := Lib.hid hr
  have HB1 := Lib.hid b1
  clear hk b1 hr
  go_wp2_with fail
  refine HC1.out.mono ?_
  rintro e w2 ⟨rfl, ⟨⟨cs2, hk2, _⟩, hg2⟩⟩
  have hB2 := HB1.out.grown hg2 HB1.out.size (fun r e => by cases e; have := HG.out; omega)
  have hr := get_any g _ cs2 S1 1 2 3 w2 hk2 (by omega) (small_ok _ (by omega) (by omega)) (small_ok _ (by omega) (by omega))
  rw [E.out.2.1] at hr
  have HC2 := Lib.hid hr
  have HB2 := Lib.hid hB2
  clear hk2 hg2 hB2 hr
  go_wp2_with fail
  refine HC2.out.mono ?_
  rintro e w3 ⟨rfl, ⟨⟨cs3, hk3, _⟩, hg3⟩⟩
  have hB3 := HB2.out.grown hg3 HB2.out.size (fun r e => by cases e; have := HG.out; omega)
  have hr := commit_any g _ cs3 S2 1 1 w3 hk3 (by omega) (small_ok _ (by omega) (by omega))
  rw [E.out.2.2.1] at hr
  have HC3 := Lib.hid hr
  have HB3 := Lib.hid hB3
  clear hk3 hg3 hB3 hr
  go_wp2_with fail
  refine HC3.out.mono ?_
  rintro e w4 ⟨rfl, ⟨⟨cs4, hk4, _⟩, hg4⟩⟩
  have hB4 := HB3.out.grown hg4 HB3.out.size (fun r e => by cases e; have := HG.out; omega)
  have hr := get_any g _ cs4 S3 1 2 3 w4 hk4 (by omega) (small_ok _ (by omega) (by omega)) (small_ok _ (by omega) (by omega))
  rw [E.out.2.2.2.1] at hr
  have HC4 := Lib.hid hr
  have HB4 := Lib.hid hB4
  clear hk4 hg4 hB4 hr
  go_wp2_with fail
  refine HC4.out.mono ?_
  rintro e w5 ⟨rfl, ⟨⟨cs5, hk5, _⟩, hg5⟩⟩
  have hB5 := HB4.out.grown hg5 HB4.out.size (fun r e => by cases e; have := HG.out; omega)
  have hr := kput_any g _ cs5 S4 1 0 3 9 w5 hk5 (by omega) (small_ok _ (by omega) (by omega)) (small_ok _ (by omega) (by omega)) (fun b _ => by rw [EQ.out.2.2.2]; trivial)
  rw [E.out.2.2.2.2] at hr
  have HC5 := Lib.hid hr
  have HB5 := Lib.hid hB5
  clear hk5 hg5 hB5 hr
  go_wp2_with fail
  refine HC5.out.mono ?_
  rintro e w6 ⟨rfl, ⟨_, hg6⟩⟩
  have hB6 := HB5.out.grown hg6 HB5.out.size (fun r e => by cases e; have := HG.out; omega)
  have HB6 := Lib.hid hB6
  clear hg6 hB6
  go_wp2
  go_ret
  exact ⟨rfl, HB6.out⟩
/-- Ops in memory. -/
def OpsAt (w : World) (A : Option Addr) (ops : List OpV) : Prop :=
  ops.length ≤ maxLen ∧ (∀ o ∈ ops, OpOk o ∧ o.l.length ≤ maxLen ∧ InL w o.A o.l) ∧ (0 < ops.length → ∃ b o, A = some ⟨b, o, none⟩ ∧ b < w.heap.size ∧ ∀ i, (h : i < ops.length) →
    w.cell? ⟨b, o + i * 5, none⟩ = some (.int .i64 (ops[i]'h).k) ∧ w.cell? ⟨b, o + i * 5 + 1, none⟩ = some (.int .i64 (ops[i]'h).n) ∧
    w.cell? ⟨b, o + i * 5 + 2, none⟩ = some (.int .i64 (ops[i]'h).y) ∧ w.cell? ⟨b, o + i * 5 + 3, none⟩ = some (.int .u64 ((ops[i]'h).v : Nat)) ∧ w.cell? ⟨b, o + i * 5 + 4, none⟩ = some (.slice (ops[i]'h).A (ops[i]'h).l.length (ops[i]'h).c))
theorem OpsAt.below {w w' : World} {A : Option Addr} {ops : List OpV} (h : OpsAt w A ops) (hb : Below w.heap.size w w') : OpsAt w' A ops := by
  refine ⟨h.1, fun o ho => ⟨(h.2.1 o ho).1, (h.2.1 o ho).2.1, (h.2.1 o ho).2.2.below hb⟩, fun hl => ?_⟩
  obtain ⟨b, o, rfl, hlt, hc⟩ := h.2.2 hl
  refine ⟨b, o, rfl, Nat.lt_of_lt_of_le hlt hb.size, fun i hi => ?_⟩
  obtain ⟨h1, h2, h3, h4, h5⟩ := hc i hi
  exact ⟨(hb.cell (p := ⟨b, _, none⟩) hlt).trans h1, (hb.cell (p := ⟨b, _, none⟩) hlt).trans h2, (hb.cell (p := ⟨b, _, none⟩) hlt).trans h3, (hb.cell (p := ⟨b, _, none⟩) hlt).trans h4, (hb.cell (p := ⟨b, _, none⟩) hlt).trans h5⟩
def stepK (S : KS) (o : OpV) : KS := if o.l.length ≤ 30 then { (callM S o).2 with B := anyB } else S
def playK (ops : List OpV) : KS := (ops.take 60).foldl stepK (KS.zero anyB)
theorem stepK_B {S : KS} (h : S.B = anyB) (o : OpV) : (stepK S o).B = anyB := by unfold stepK; split; rfl; exact h
set_option maxRecDepth 100000 in
set_option maxHeartbeats 2000000 in
theorem played_any (A : Option Addr) (ops : List OpV) (n c : Nat) (w : World) (hn : Hid (n = ops.length)) (h : OpsAt w A ops) : Calls Try.prog 19 #[.slice A n c] w fun e w' => (∃ g cs, e = .returned (.pointer (some ⟨g, 0, none⟩)) ∧ KvAt w' g 59 cs (playK ops) 2000 ∧ w.heap.size ≤ g) ∧ Below w.heap.size w w' := by
  have H := Lib.hid h
  have hnl : n ≤ 9223372036854775807 := by have := h.1; rw [hn.out]; unfold maxLen at this; omega
  obtain ⟨g, hg⟩ : ∃ g, g = w.heap.size := ⟨_, rfl⟩
  have HG := Lib.hid hg
  clear h
  go_enter Try.func19, Try.ntmps19
  go_wp2_with fail
  refine (knew_any anyB w).mono ?_
  rintro e w1 ⟨rfl, ⟨cs, hk⟩, b1⟩
  rw [← hg] at hk ⊢
  have H1 : Hid (∃ cs, KvAt w1 g 59 cs (KS.zero anyB) 0 ∧ Below w.heap.size w w1) := Lib.hid ⟨cs, hk, b1⟩
  clear hg hk b1
  go_wp2_with fail
  go_loopw [4] (fun i wr => ∃ (j : Nat), j ≤ n ∧ j ≤ 60 ∧ i = .int .i64 j ∧ Hid (((ops.take j).foldl stepK (KS.zero anyB)).B = anyB ∧ ∃ cs, KvAt wr g 59 cs ((ops.take j).foldl stepK (KS.zero anyB)) (31 * j) ∧ Below w.heap.size w wr)) (fun i _ => n - (intOf i).toNat)
  case atStart => exact ⟨0, Nat.zero_le _, by omega, rfl, Lib.hid ⟨rfl, by simpa using H1.out⟩⟩
  case round =>
    clear H1
    obtain ⟨j, hj, hj60, rfl, HR⟩ := hrel
    have hfin : Hid (j = n ∨ j = 60 → (∃ cs, KvAt wr g 59 cs (playK ops) 2000) ∧ w.heap.size ≤ g ∧ Below w.heap.size w wr) := Lib.hid (fun hje => by
      obtain ⟨_, cs', hk, hb⟩ := HR.out
      have e : ops.take j = ops.take 60 := by
        rcases hje with rfl | rfl
        · rw [hn.out, List.take_of_length_le (Nat.le_refl _), List.take_of_length_le (by rw [← hn.out]; exact hj60)]
        · rfl
      rw [e] at hk
      exact ⟨⟨cs', hk.more (by omega)⟩, by have := HG.out; omega, hb⟩)
    by_cases hjn : j < n
    · have hjI : (j : Int) < (n : Int) := by omega
      by_cases hj6 : j < 60
      · have hj6I : (j : Int) < 60 := by omega
        obtain ⟨hSB, cs', hk, hb⟩ := HR.out
        have hjo : j < ops.length := by rw [← hn.out]; exact hjn
        obtain ⟨b, o, rfl, hlt, hcs⟩ := H.out.2.2 (by omega)
        obtain ⟨q0, q1, q2, q3, q4⟩ := hcs j hjo
        obtain ⟨hok, hml, hin⟩ := H.out.2.1 _ (List.getElem_mem hjo)
        obtain ⟨op, hop⟩ : ∃ op, op = ops[j] := ⟨_, rfl⟩
        rw [← hop] at q0 q1 q2 q3 q4 hok hml hin
        have p0 := (hb.cell (p := ⟨b, o + j * 5, none⟩) hlt).trans q0
        have p1 := (hb.cell (p := ⟨b, o + j * 5 + 1, none⟩) hlt).trans q1
        have p2 := (hb.cell (p := ⟨b, o + j * 5 + 2, none⟩) hlt).trans q2
        have p3 := (hb.cell (p := ⟨b, o + j * 5 + 3, none⟩) hlt).trans q3
        have p4 := (hb.cell (p := ⟨b, o + j * 5 + 4, none⟩) hlt).trans q4
        have hstep : (ops.take (j + 1)).foldl stepK (KS.zero anyB) = stepK ((ops.take j).foldl stepK (KS.zero anyB)) op := by
          rw [List.take_add_one, List.getElem?_eq_getElem hjo, List.foldl_append, hop]; rfl
        obtain ⟨Sj, hSj⟩ : ∃ Sj, Sj = (ops.take j).foldl stepK (KS.zero anyB) := ⟨_, rfl⟩
        rw [← hSj] at hk hSB hstep
        have HS := Lib.hid hstep
        have hcall := fun hl => call_any g _ cs' Sj (31 * j) op wr hk (by omega) hok (fun _ => hl) (hin.below hb) (fun b _ => by rw [hSB]; trivial)
        obtain ⟨ok, on, oy, ov, oA, ol, oc⟩ := op
        obtain ⟨m, hm⟩ : ∃ m, m = ol.length := ⟨_, rfl⟩
        dsimp only at p0 p1 p2 p3 p4 hml
        rw [← hm] at p4 hml
        have hcall2 : m ≤ 30 → Calls Try.prog 12 #[.pointer (some ⟨g, 0, none⟩), .agg #[.int .i64 ok, .int .i64 on, .int .i64 oy, .int .u64 (ov : Nat), .slice oA m oc]] wr (CallO wr g 59 cs' (31 * j) Sj.B (callM Sj ⟨ok, on, oy, ov, oA, ol, oc⟩)) := fun hl => by
          have := hcall (by dsimp only; omega)
          unfold OpV.val at this
          dsimp only at this
          rw [← hm] at this
          exact this
        have HC := Lib.hid hcall2
        have HB := Lib.hid (And.intro hk (And.intro hb (And.intro hSB hm)))
        have hmx : (m : Int) ≤ 9223372036854775807 := by unfold maxLen at hml; omega
        clear hcall hcall2 q0 q1 q2 q3 q4 hcs hop hk hb hSB hSj hstep hm hok hin hml hjo
        by_cases hm3 : m ≤ 30
        · have hm3I : (m : Int) ≤ 30 := by omega
          go_wp2_with fail
          refine (HC.out hm3).mono ?_
          rintro e w2 ⟨A2, q2, c2, rfl, _, _, ⟨⟨cs2, hk2, _⟩, hg2⟩⟩
          have hb2 := HB.out.2.1.grown hg2 HB.out.2.1.size (fun r e => by cases e; have := HG.out; omega)
          have HN : Hid (((ops.take (j + 1)).foldl stepK (KS.zero anyB)).B = anyB ∧ ∃ cs, KvAt w2 g 59 cs ((ops.take (j + 1)).foldl stepK (KS.zero anyB)) (31 * (j + 1)) ∧ Below w.heap.size w w2) := Lib.hid (by
            rw [HS.out]
            refine ⟨stepK_B HB.out.2.2.1 _, cs2, ?_, hb2⟩
            unfold stepK
            dsimp only
            rw [← HB.out.2.2.2, if_pos hm3]
            exact (hk2.more (by omega)).rebase fun _ _ _ => trivial)
          clear hk2 hg2 hb2 p0 p1 p2 p3 p4
          go_wp2
          go_roundw
          case rel => exact ⟨j + 1, by omega, by omega, by go_num, HN⟩
          case measure => simp [intOf]; omega
        · have hm3I : ¬ (m : Int) ≤ 30 := by omega
          have HN : Hid (((ops.take (j + 1)).foldl stepK (KS.zero anyB)).B = anyB ∧ ∃ cs, KvAt wr g 59 cs ((ops.take (j + 1)).foldl stepK (KS.zero anyB)) (31 * (j + 1)) ∧ Below w.heap.size w wr) := Lib.hid (by
            rw [HS.out]
            refine ⟨stepK_B HB.out.2.2.1 _, cs', ?_, HB.out.2.1⟩
            unfold stepK
            dsimp only
            rw [← HB.out.2.2.2, if_neg hm3]
            exact HB.out.1.more (by omega))
          go_wp2
          go_roundw
          case rel => exact ⟨j + 1, by omega, by omega, by go_num, HN⟩
          case measure => simp [intOf]; omega
      · have hj6I : ¬ (j : Int) < 60 := by omega
        have hf := Lib.hid (hfin.out (.inr (by omega)))
        clear HR hfin
        go_wp2
        go_ret
        obtain ⟨⟨csf, hkf⟩, hgf, hbf⟩ := hf.out
        exact ⟨⟨g, rfl, ⟨csf, hkf⟩, hgf⟩, hbf⟩
    · have hjI : ¬ (j : Int) < (n : Int) := by omega
      have hf := Lib.hid (hfin.out (.inl (by omega)))
      clear HR hfin
      go_wp2
      go_ret
      obtain ⟨⟨csf, hkf⟩, hgf, hbf⟩ := hf.out
      exact ⟨⟨g, rfl, ⟨csf, hkf⟩, hgf⟩, hbf⟩
def sameB (V V' : Nat → Nat × Bool) : Bool := (List.range 16).all fun k => V k == V' k
theorem sameB_iff {V V' : Nat → Nat × Bool} : sameB V V' = true ↔ ∀ k, k < 16 → V k = V' k := by
  unfold sameB; rw [List.all_eq_true]; simp
set_option maxRecDepth 100000 in
set_option maxHeartbeats 2000000 in
theorem sameValues_any (g g' : Nat) (cs cs' : Array Value) (S S' : KS) (N N' : Nat) (w : World) (h : KvAt w g 59 cs S N) (h' : KvAt w g' 59 cs' S' N') : Calls Try.prog 20 #[.pointer (some ⟨g, 0, none⟩), .pointer (some ⟨g', 0, none⟩)] w fun e w' => e = .returned (.bool (sameB S.V S'.V)) ∧ Below w.heap.size w w' := by
  have H := Lib.hid (And.intro h h')
  clear h h'
  go_enter Try.func20, Try.ntmps20
  go_wp2_with fail
  go_loopw [5] (fun i wr => ∃ (j : Nat), j ≤ 16 ∧ i = .int .i64 j ∧ Hid ((∀ k, k < j → S.V k = S'.V k) ∧ Below w.heap.size w wr)) (fun i _ => 16 - (intOf i).toNat)
  case atStart => exact ⟨0, by omega, rfl, Lib.hid ⟨fun k hk => by omega, Below.refl _ _⟩⟩
  case round =>
    obtain ⟨j, hj, rfl, HR⟩ := hrel
    by_cases hj16 : j < 16
    · have hjI : (j : Int) < 16 := by omega
      have hv : valM S (j : Int) = S.V j := by unfold valM; rw [if_pos (by unfold keyB; simp; omega)]; simp
      have hv' : valM S' (j : Int) = S'.V j := by unfold valM; rw [if_pos (by unfold keyB; simp; omega)]; simp
      have r1 := value_any g _ cs S N (j : Int) wr (H.out.1.below HR.out.2)
      rw [hv] at r1
      have HV := Lib.hid r1
      have hv2 := fun (u : World) (hu : Below w.heap.size w u) => value_any g' _ cs' S' N' (j : Int) u (H.out.2.below hu)
      rw [hv'] at hv2
      have HV2 := Lib.hid hv2
      obtain ⟨a, ha⟩ : ∃ a, a = S.V j := ⟨_, rfl⟩
      obtain ⟨b, hb⟩ : ∃ b, b = S'.V j := ⟨_, rfl⟩
      rw [← ha] at HV
      rw [← hb] at HV2
      have HAB := Lib.hid (And.intro ha hb)
      obtain ⟨a1, a2⟩ := a
      obtain ⟨b1, b2⟩ := b
      dsimp only at HV HV2
      clear hv hv' r1 hv2 ha hb
      go_wp2_with fail
      refine HV.out.mono ?_
      rintro e u1 ⟨rfl, c1⟩
      have hc1 := Lib.hid (bt HR.out.2 c1)
      clear c1
      go_wp2_with fail
      refine (HV2.out u1 hc1.out).mono ?_
      rintro e u2 ⟨rfl, c2⟩
      have hc2 := Lib.hid (bt hc1.out c2)
      clear c2
      rcases f1 : ((a1 : Int) != (b1 : Int)) with _ | _
      · have e0 : (a1 : Int) = (b1 : Int) := by simpa using f1
        have e1 : a1 = b1 := by omega
        clear e0
        by_cases e2 : a2 = b2
        · subst e2
          have HN : Hid ((∀ k, k < j + 1 → S.V k = S'.V k) ∧ Below w.heap.size w u2) := Lib.hid (by
            refine ⟨fun k hk => ?_, hc2.out⟩
            by_cases e : k = j
            · subst e; rw [← HAB.out.1, ← HAB.out.2, e1]
            · exact HR.out.1 k (by omega))
          go_wp2
          go_roundw
          case rel => exact ⟨j + 1, by omega, by go_num, HN⟩
          case measure => simp [intOf]; omega
        · have hF : Hid (sameB S.V S'.V = false) := Lib.hid (by
            rcases hs : sameB S.V S'.V with _ | _
            · rfl
            · have := sameB_iff.1 hs j hj16
              rw [← HAB.out.1, ← HAB.out.2] at this
              simp at this
              exact absurd this.2 e2)
          clear HAB
          cases a2 <;> cases b2 <;> first
            | exact absurd rfl e2
            | (go_wp2
               go_ret
               exact ⟨by rw [hF.out]; rfl, hc2.out⟩)
      · have hF : Hid (sameB S.V S'.V = false) := Lib.hid (by
          rcases hs : sameB S.V S'.V with _ | _
          · rfl
          · have := sameB_iff.1 hs j hj16
            rw [← HAB.out.1, ← HAB.out.2] at this
            simp at this f1
            omega)
        go_wp2
        go_ret
        exact ⟨by rw [hF.out]; rfl, hc2.out⟩
    · obtain rfl : j = 16 := by omega
      have hjI : ¬ (((16 : Nat) : Int)) < 16 := by omega
      have hT : Hid (sameB S.V S'.V = true) := Lib.hid (sameB_iff.2 HR.out.1)
      go_wp2
      go_ret
      exact ⟨by rw [hT.out]; rfl, HR.out.2⟩
end Go.Proofs.Ytnpoicgincndkaa
