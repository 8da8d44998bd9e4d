/- Parts Bn Bo Bp of one proof. -/
import Derived.Test.YtihchfjdgeehoaaMg11
namespace Go.Proofs.Ytihchfjdgeehoaa
open Go.RowKit Go.Maps
set_option linter.unusedVariables false
set_option linter.unusedSimpArgs false

def anyB : Nat → Prop := fun _ => True
theorem aliveM : ∃ S1 S2 S3 S4 S5, changeM (KS.zero anyB) 1 ⟨1, 3, 9⟩ = (0, S1) ∧ getM S1 2 3 = ((0, false, 120), S2) ∧ commitM S2 1 = (0, S3) ∧ getM S3 2 3 = ((9, true, 0), S4) ∧ changeM S4 0 ⟨1, 3, 9⟩ = (1, S5) :=
  ⟨_, _, _, _, _, rfl, rfl, rfl, rfl, rfl⟩
theorem small_ok (x : Int) (h1 : -1000 ≤ x) (h2 : x ≤ 1000) : i64ok x := by unfold i64ok; omega
set_option maxRecDepth 100000 in
set_option maxHeartbeats 2000000 in
theorem alive_any (w : World) : Calls Try.prog 11 #[] w fun e w' => e = .returned (.bool true) ∧ Below w.heap.size w w' := by
  obtain ⟨S1, S2, S3, S4, S5, e1, e2, e3, e4, e5⟩ := aliveM
  have E := Lib.hid (And.intro e1 (And.intro e2 (And.intro e3 (And.intro e4 e5))))
  have q1 : S1.B = anyB := by have := changeM_B (KS.zero anyB) 1 ⟨1, 3, 9⟩; rw [e1] at this; exact this
  have q2 : S2.B = anyB := by have := getM_B S1 2 3; rw [e2] at this; exact this.trans q1
  have q3 : S3.B = anyB := by have := commitM_B S2 1; rw [e3] at this; exact this.trans q2
  have q4 : S4.B = anyB := by have := getM_B S3 2 3; rw [e4] at this; exact this.trans q3
  have EQ := Lib.hid (And.intro q1 (And.intro q2 (And.intro q3 q4)))
  clear e1 e2 e3 e4 e5 q1 q2 q3 q4
  obtain ⟨g, hg⟩ : ∃ g, g = w.heap.size := ⟨_, rfl⟩
  have HG := Lib.hid hg
  go_enter Try.func11, Try.ntmps11
  go_wp2_with fail
  refine (knew_any anyB w).mono ?_
  rintro e w1 ⟨rfl, ⟨cs, hk⟩, b1⟩
  rw [← hg] at hk ⊢
  clear hg
  have hr := kput_any g _ cs _ 0 1 3 9 w1 hk (by omega) (small_ok _ (by omega) (by omega)) (small_ok _ (by omega) (by omega)) (fun b _ => trivial)
  rw [E.out.1] at hr
  have HC1 := Lib.hid hr
  have HB1 := Lib.hid b1
  clear hk b1 hr
  go_wp2_with fail
  refine HC1.out.mono ?_
  rintro e w2 ⟨rfl, ⟨⟨cs2, hk2, _⟩, hg2⟩⟩
  have hB2 := HB1.out.grown hg2 HB1.out.size (fun r e => by cases e; have := HG.out; omega)
  have hr := get_any g _ cs2 S1 1 2 3 w2 hk2 (by omega) (small_ok _ (by omega) (by omega)) (small_ok _ (by omega) (by omega))
  rw [E.out.2.1] at hr
  have HC2 := Lib.hid hr
  have HB2 := Lib.hid hB2
  clear hk2 hg2 hB2 hr
  go_wp2_with fail
  refine HC2.out.mono ?_
  rintro e w3 ⟨rfl, ⟨⟨cs3, hk3, _⟩, hg3⟩⟩
  have hB3 := HB2.out.grown hg3 HB2.out.size (fun r e => by cases e; have := HG.out; omega)
  have hr := commit_any g _ cs3 S2 1 1 w3 hk3 (by omega) (small_ok _ (by omega) (by omega))
  rw [E.out.2.2.1] at hr
  have HC3 := Lib.hid hr
  have HB3 := Lib.hid hB3
  clear hk3 hg3 hB3 hr
  go_wp2_with fail
  refine HC3.out.mono ?_
  rintro e w4 ⟨rfl, ⟨⟨cs4, hk4, _⟩, hg4⟩⟩
  have hB4 := HB3.out.grown hg4 HB3.out.size (fun r e => by cases e; have := HG.out; omega)
  have hr := get_any g _ cs4 S3 1 2 3 w4 hk4 (by omega) (small_ok _ (by omega) (by omega)) (small_ok _ (by omega) (by omega))
  rw [E.out.2.2.2.1] at hr
  have HC4 := Lib.hid hr
  have HB4 := Lib.hid hB4
  clear hk4 hg4 hB4 hr
  go_wp2_with fail
  refine HC4.out.mono ?_
  rintro e w5 ⟨rfl, ⟨⟨cs5, hk5, _⟩, hg5⟩⟩
  have hB5 := HB4.out.grown hg5 HB4.out.size (fun r e => by cases e; have := HG.out; omega)
  have hr := kput_any g _ cs5 S4 1 0 3 9 w5 hk5 (by omega) (small_ok _ (by omega) (by omega)) (small_ok _ (by omega) (by omega)) (fun b _ => by rw [EQ.out.2.2.2]; trivial)
  rw [E.out.2.2.2.2] at hr
  have HC5 := Lib.hid hr
  have HB5 := Lib.hid hB5
  clear hk5 hg5 hB5 hr
  go_wp2_with fail
  refine HC5.out.mono ?_
  rintro e w6 ⟨rfl, ⟨_, hg6⟩⟩
  have hB6 := HB5.out.grown hg6 HB5.out.size (fun r e => by cases e; have := HG.out; omega)
  have HB6 := Lib.hid hB6
  clear hg6 hB6
  go_wp2
  go_ret
  exact ⟨rfl, HB6.out⟩
/-- Ops in memory. -/
def OpsAt (w : World) (A : Option Addr) (ops : List OpV) : Prop :=
  ops.length ≤ maxLen ∧ (∀ o ∈ ops, OpOk o ∧ o.l.length ≤ maxLen ∧ InL w o.A o.l) ∧ (0 < ops.length → ∃ b o, A = some ⟨b, o, none⟩ ∧ b < w.heap.size ∧ ∀ i, (h : i < ops.length) →
    w.cell? ⟨b, o + i * 5, none⟩ = some (.int .i64 (ops[i]'h).k) ∧ w.cell? ⟨b, o + i * 5 + 1, none⟩ = some (.int .i64 (ops[i]'h).n) ∧
    w.cell? ⟨b, o + i * 5 + 2, none⟩ = some (.int .i64 (ops[i]'h).y) ∧ w.cell? ⟨b, o + i * 5 + 3, none⟩ = some (.int .u64 ((ops[i]'h).v : Nat)) ∧ w.cell? ⟨b, o + i * 5 + 4, none⟩ = some (.slice (ops[i]'h).A (ops[i]'h).l.length (ops[i]'h).c))
theorem OpsAt.below {w w' : World} {A : Option Addr} {ops : List OpV} (h : OpsAt w A ops) (hb : Below w.heap.size w w') : OpsAt w' A ops := by
  refine ⟨h.1, fun o ho => ⟨(h.2.1 o ho).1, (h.2.1 o ho).2.1, (h.2.1 o ho).2.2.below hb⟩, fun hl => ?_⟩
  obtain ⟨b, o, rfl, hlt, hc⟩ := h.2.2 hl
  refine ⟨b, o, rfl, Nat.lt_of_lt_of_le hlt hb.size, fun i hi => ?_⟩
  obtain ⟨h1, h2, h3, h4, h5⟩ := hc i hi
  exact ⟨(hb.cell (p := ⟨b, _, none⟩) hlt).trans h1, (hb.cell (p := ⟨b, _, none⟩) hlt).trans h2, (hb.cell (p := ⟨b, _, none⟩) hlt).trans h3, (hb.cell (p := ⟨b, _, none⟩) hlt).trans h4, (hb.cell (p := ⟨b, _, none⟩) hlt).trans h5⟩
def stepK (S : KS) (o : OpV) : KS := if o.l.length ≤ 30 then { (callM S o).2 with B := anyB } else S
def playK (ops : List OpV) : KS := (ops.take 60).foldl stepK (KS.zero anyB)
theorem stepK_B {S : KS} (h : S.B = anyB) (o : OpV) : (stepK S o).B = anyB := by unfold stepK; split; rfl; exact h
set_option maxRecDepth 100000 in
set_option maxHeartbeats 2000000 in
theorem played_any (A : Option Addr) (ops : List OpV) (n c : Nat) (w : World) (hn : Hid (n = ops.length)) (h : OpsAt w A ops) : Calls Try.prog 19 #[.slice A n c] w fun e w' => (∃ g cs, e = .returned (.pointer (some ⟨g, 0, none⟩)) ∧ KvAt w' g 59 cs (playK ops) 2000 ∧ w.heap.size ≤ g) ∧ Below w.heap.size w w' := by
  have H := Lib.hid h
  have hnl : n ≤ 9223372036854775807 := by have := h.1; rw [hn.out]; unfold maxLen at this; omega
  obtain ⟨g, hg⟩ : ∃ g, g = w.heap.size := ⟨_, rfl⟩
  have HG := Lib.hid hg
  clear h
  go_enter Try.func19, Try.ntmps19
  go_wp2_with fail
  refine (knew_any anyB w).mono ?_
  rintro e w1 ⟨rfl, ⟨cs, hk⟩, b1⟩
  rw [← hg] at hk ⊢
  have H1 : Hid (∃ cs, KvAt w1 g 59 cs (KS.zero anyB) 0 ∧ Below w.heap.size w w1) := Lib.hid ⟨cs, hk, b1⟩
  clear hg hk b1
  go_wp2_with fail
  go_loopw [4] (fun i wr => ∃ (j : Nat), j ≤ n ∧ j ≤ 60 ∧ i = .int .i64 j ∧ Hid (((ops.take j).foldl stepK (KS.zero anyB)).B = anyB ∧ ∃ cs, KvAt wr g 59 cs ((ops.take j).foldl stepK (KS.zero anyB)) (31 * j) ∧ Below w.heap.size w wr)) (fun i _ => n - (intOf i).toNat)
  case atStart => exact ⟨0, Nat.zero_le _, by omega, rfl, Lib.hid ⟨rfl, by simpa using H1.out⟩⟩
  case round =>
    clear H1
    obtain ⟨j, hj, hj60, rfl, HR⟩ := hrel
    have hfin : Hid (j = n ∨ j = 60 → (∃ cs, KvAt wr g 59 cs (playK ops) 2000) ∧ w.heap.size ≤ g ∧ Below w.heap.size w wr) := Lib.hid (fun hje => by
      obtain ⟨_, cs', hk, hb⟩ := HR.out
      have e : ops.take j = ops.take 60 := by
        rcases hje with rfl | rfl
        · rw [hn.out, List.take_of_length_le (Nat.le_refl _), List.take_of_length_le (by rw [← hn.out]; exact hj60)]
        · rfl
      rw [e] at hk
      exact ⟨⟨cs', hk.more (by omega)⟩, by have := HG.out; omega, hb⟩)
    by_cases hjn : j < n
    · have hjI : (j : Int) < (n : Int) := by omega
      by_cases hj6 : j < 60
      · have hj6I : (j : Int) < 60 := by omega
        obtain ⟨hSB, cs', hk, hb⟩ := HR.out
        have hjo : j < ops.length := by rw [← hn.out]; exact hjn
        obtain ⟨b, o, rfl, hlt, hcs⟩ := H.out.2.2 (by omega)
        obtain ⟨q0, q1, q2, q3, q4⟩ := hcs j hjo
        obtain ⟨hok, hml, hin⟩ := H.out.2.1 _ (List.getElem_mem hjo)
        obtain ⟨op, hop⟩ : ∃ op, op = ops[j] := ⟨_, rfl⟩
        rw [← hop] at q0 q1 q2 q3 q4 hok hml hin
        have p0 := (hb.cell (p := ⟨b, o + j * 5, none⟩) hlt).trans q0
        have p1 := (hb.cell (p := ⟨b, o + j * 5 + 1, none⟩) hlt).trans q1
        have p2 := (hb.cell (p := ⟨b, o + j * 5 + 2, none⟩) hlt).trans q2
        have p3 := (hb.cell (p := ⟨b, o + j * 5 + 3, none⟩) hlt).trans q3
        have p4 := (hb.cell (p := ⟨b, o + j * 5 + 4, none⟩) hlt).trans q4
        have hstep : (ops.take (j + 1)).foldl stepK (KS.zero anyB) = stepK ((ops.take j).foldl stepK (KS.zero anyB)) op := by
          rw [List.take_add_one, List.getElem?_eq_getElem hjo, List.foldl_append, hop]; rfl
        obtain ⟨Sj, hSj⟩ : ∃ Sj, Sj = (ops.take j).foldl stepK (KS.zero anyB) := ⟨_, rfl⟩
        rw [← hSj] at hk hSB hstep
        have HS := Lib.hid hstep
        have hcall := fun hl => call_any g _ cs' Sj (31 * j) op wr hk (by omega) hok (fun _ => hl) (hin.below hb) (fun b _ => by rw [hSB]; trivial)
        obtain ⟨ok, on, oy, ov, oA, ol, oc⟩ := op
        obtain ⟨m, hm⟩ : ∃ m, m = ol.length := ⟨_, rfl⟩
        dsimp only at p0 p1 p2 p3 p4 hml
        rw [← hm] at p4 hml
        have hcall2 : m ≤ 30 → Calls Try.prog 12 #[.pointer (some ⟨g, 0, none⟩), .agg #[.int .i64 ok, .int .i64 on, .int .i64 oy, .int .u64 (ov : Nat), .slice oA m oc]] wr (CallO wr g 59 cs' (31 * j) Sj.B (callM Sj ⟨ok, on, oy, ov, oA, ol, oc⟩)) := fun hl => by
          have := hcall (by dsimp only; omega)
          unfold OpV.val at this
          dsimp only at this
          rw [← hm] at this
          exact this
        have HC := Lib.hid hcall2
        have HB := Lib.hid (And.intro hk (And.intro hb (And.intro hSB hm)))
        have hmx : (m : Int) ≤ 9223372036854775807 := by unfold maxLen at hml; omega
        clear hcall hcall2 q0 q1 q2 q3 q4 hcs hop hk hb hSB hSj hstep hm hok hin hml hjo
        by_cases hm3 : m ≤ 30
        · have hm3I : (m : Int) ≤ 30 := by omega
          go_wp2_with fail
          refine (HC.out hm3).mono ?_
          rintro e w2 ⟨A2, q2, c2, rfl, _, _, ⟨⟨cs2, hk2, _⟩, hg2⟩⟩
          have hb2 := HB.out.2.1.grown hg2 HB.out.2.1.size (fun r e => by cases e; have := HG.out; omega)
          have HN : Hid (((ops.take (j + 1)).foldl stepK (KS.zero anyB)).B = anyB ∧ ∃ cs, KvAt w2 g 59 cs ((ops.take (j + 1)).foldl stepK (KS.zero anyB)) (31 * (j + 1)) ∧ Below w.heap.size w w2) := Lib.hid (by
            rw [HS.out]
            refine ⟨stepK_B HB.out.2.2.1 _, cs2, ?_, hb2⟩
            unfold stepK
            dsimp only
            rw [← HB.out.2.2.2, if_pos hm3]
            exact (hk2.more (by omega)).rebase fun _ _ _ => trivial)
          clear hk2 hg2 hb2 p0 p1 p2 p3 p4
          go_wp2
          go_roundw
          case rel => exact ⟨j + 1, by omega, by omega, by go_num, HN⟩
          case measure => simp [intOf]; omega
        · have hm3I : ¬ (m : Int) ≤ 30 := by omega
          have HN : Hid (((ops.take (j + 1)).foldl stepK (KS.zero anyB)).B = anyB ∧ ∃ cs, KvAt wr g 59 cs ((ops.take (j + 1)).foldl stepK (KS.zero anyB)) (31 * (j + 1)) ∧ Below w.heap.size w wr) := Lib.hid (by
            rw [HS.out]
            refine ⟨stepK_B HB.out.2.2.1 _, cs', ?_, HB.out.2.1⟩
            unfold stepK
            dsimp only
            rw [← HB.out.2.2.2, if_neg hm3]
            exact HB.out.1.more (by omega))
          go_wp2
          go_roundw
          case rel => exact ⟨j + 1, by omega, by omega, by go_num, HN⟩
          case measure => simp [intOf]; omega
      · have hj6I : ¬ (j : Int) < 60 := by omega
        have hf := Lib.hid (hfin.out (.inr (by omega)))
        clear HR hfin
        go_wp2
        go_ret
        obtain ⟨⟨csf, hkf⟩, hgf, hbf⟩ := hf.out
        exact ⟨⟨g, rfl, ⟨csf, hkf⟩, hgf⟩, hbf⟩
    · have hjI : ¬ (j : Int) < (n : Int) := by omega
      have hf := Lib.hid (hfin.out (.inl (by omega)))
      clear HR hfin
      go_wp2
      go_ret
      obtain ⟨⟨csf, hkf⟩, hgf, hbf⟩ := hf.out
      exact ⟨⟨g, rfl, ⟨csf, hkf⟩, hgf⟩, hbf⟩
def sameB (V V' : Nat → Nat × Bool) : Bool := (List.range 16).all fun k => V k == V' k
theorem sameB_iff {V V' : Nat → Nat × Bool} : sameB V V' = true ↔ ∀ k, k < 16 → V k = V' k := by
  unfold sameB; rw [List.all_eq_true]; simp
set_option maxRecDepth 100000 in
set_option maxHeartbeats 2000000 in
theorem sameValues_any (g g' : Nat) (cs cs' : Array Value) (S S' : KS) (N N' : Nat) (w : World) (h : KvAt w g 59 cs S N) (h' : KvAt w g' 59 cs' S' N') : Calls Try.prog 20 #[.pointer (some ⟨g, 0, none⟩), .pointer (some ⟨g', 0, none⟩)] w fun e w' => e = .returned (.bool (sameB S.V S'.V)) ∧ Below w.heap.size w w' := by
  have H := Lib.hid (And.intro h h')
  clear h h'
  go_enter Try.func20, Try.ntmps20
  go_wp2_with fail
  go_loopw [5] (fun i wr => ∃ (j : Nat), j ≤ 16 ∧ i = .int .i64 j ∧ Hid ((∀ k, k < j → S.V k = S'.V k) ∧ Below w.heap.size w wr)) (fun i _ => 16 - (intOf i).toNat)
  case atStart => exact ⟨0, by omega, rfl, Lib.hid ⟨fun k hk => by omega, Below.refl _ _⟩⟩
  case round =>
    obtain ⟨j, hj, rfl, HR⟩ := hrel
    by_cases hj16 : j < 16
    · have hjI : (j : Int) < 16 := by omega
      have hv : valM S (j : Int) = S.V j := by unfold valM; rw [if_pos (by unfold keyB; simp; omega)]; simp
      have hv' : valM S' (j : Int) = S'.V j := by unfold valM; rw [if_pos (by unfold keyB; simp; omega)]; simp
      have r1 := value_any g _ cs S N (j : Int) wr (H.out.1.below HR.out.2)
      rw [hv] at r1
      have HV := Lib.hid r1
      have hv2 := fun (u : World) (hu : Below w.heap.size w u) => value_any g' _ cs' S' N' (j : Int) u (H.out.2.below hu)
      rw [hv'] at hv2
      have HV2 := Lib.hid hv2
      obtain ⟨a, ha⟩ : ∃ a, a = S.V j := ⟨_, rfl⟩
      obtain ⟨b, hb⟩ : ∃ b, b = S'.V j := ⟨_, rfl⟩
      rw [← ha] at HV
      rw [← hb] at HV2
      have HAB := Lib.hid (And.intro ha hb)
      obtain ⟨a1, a2⟩ := a
      obtain ⟨b1, b2⟩ := b
      dsimp only at HV HV2
      clear hv hv' r1 hv2 ha hb
      go_wp2_with fail
      refine HV.out.mono ?_
      rintro e u1 ⟨rfl, c1⟩
      have hc1 := Lib.hid (bt HR.out.2 c1)
      clear c1
      go_wp2_with fail
      refine (HV2.out u1 hc1.out).mono ?_
      rintro e u2 ⟨rfl, c2⟩
      have hc2 := Lib.hid (bt hc1.out c2)
      clear c2
      rcases f1 : ((a1 : Int) != (b1 : Int)) with _ | _
      · have e0 : (a1 : Int) = (b1 : Int) := by simpa using f1
        have e1 : a1 = b1 := by omega
        clear e0
        by_cases e2 : a2 = b2
        · subst e2
          have HN : Hid ((∀ k, k < j + 1 → S.V k = S'.V k) ∧ Below w.heap.size w u2) := Lib.hid (by
            refine ⟨fun k hk => ?_, hc2.out⟩
            by_cases e : k = j
            · subst e; rw [← HAB.out.1, ← HAB.out.2, e1]
            · exact HR.out.1 k (by omega))
          go_wp2
          go_roundw
          case rel => exact ⟨j + 1, by omega, by go_num, HN⟩
          case measure => simp [intOf]; omega
        · have hF : Hid (sameB S.V S'.V = false) := Lib.hid (by
            rcases hs : sameB S.V S'.V with _ | _
            · rfl
            · have := sameB_iff.1 hs j hj16
              rw [← HAB.out.1, ← HAB.out.2] at this
              simp at this
              exact absurd this.2 e2)
          clear HAB
          cases a2 <;> cases b2 <;> first
            | exact absurd rfl e2
            | (go_wp2
               go_ret
               exact ⟨by rw [hF.out]; rfl, hc2.out⟩)
      · have hF : Hid (sameB S.V S'.V = false) := Lib.hid (by
          rcases hs : sameB S.V S'.V with _ | _
          · rfl
          · have := sameB_iff.1 hs j hj16
            rw [← HAB.out.1, ← HAB.out.2] at this
            simp at this f1
            omega)
        go_wp2
        go_ret
        exact ⟨by rw [hF.out]; rfl, hc2.out⟩
    · obtain rfl : j = 16 := by omega
      have hjI : ¬ (((16 : Nat) : Int)) < 16 := by omega
      have hT : Hid (sameB S.V S'.V = true) := Lib.hid (sameB_iff.2 HR.out.1)
      go_wp2
      go_ret
      exact ⟨by rw [hT.out]; rfl, HR.out.2⟩
end Go.Proofs.Ytihchfjdgeehoaa

namespace Go.Proofs.Ytihchfjdgeehoaa
open Go.RowKit Go.Maps
set_option linter.unusedVariables false
set_option linter.unusedSimpArgs false

/-! ### one work's calls on a store that is its own -/
def rowO (n y : Int) : Option Bool → List LRow
  | none => []
  | some b => [(y, n, b)]
def lastS (n y : Int) (c : Option Ch) (p : Bool) (a : Option Bool) : KS := ⟨anyB, fun _ => (0, false), fun j => if j = n then c.map (fun x => ([x], p)) else none, rowO n y a⟩
theorem take_last (n y : Int) (a : Option Bool) (al : Bool) : takeL (rowO n y a) n y al = (0, rowO n y (some ((a.getD false) || al))) := by
  rcases a with _ | b
  · simp [takeL, clashL, rowO, heldL, putL, aloneL]
  · simp [takeL, clashL, rowO, heldL, putL, aloneL, atB]
theorem open_last {n y : Int} (hn : 1 ≤ n) (hy : keyB y = true) (c : Option Ch) (a : Option Bool) (al : Bool) : openM (lastS n y c false a) n y al = (0, lastS n y c false (some ((a.getD false) || al))) := by
  unfold openM
  rw [if_neg (by simp [hy]; omega), if_neg (by unfold curW lastS; rcases c with _ | x <;> simp)]
  have := take_last n y a al
  show ((takeL (rowO n y a) n y al).1, { lastS n y c false a with L := (takeL (rowO n y a) n y al).2 }) = _
  rw [this]; rfl
theorem cur_last (n y : Int) (c : Option Ch) (p : Bool) (a : Option Bool) : curW (lastS n y c p a) n = ((c.map (fun x => ([x], p))).getD ([], false)) := by unfold curW lastS; simp
theorem upd_last (n y : Int) (c : Option Ch) (p : Bool) (a : Option Bool) (x : Ch) (q : Bool) : updW (lastS n y c p a).W n (some ([x], q)) = (lastS n y (some x) q a).W := by
  funext j; unfold updW lastS; dsimp only; split <;> rfl
theorem change_last {n y : Int} (hn : 1 ≤ n) (hy : keyB y = true) (c : Option Ch) (hc : ∀ x, c = some x → x.y = y) (a : Option Bool) (x : Ch) (hx : x.y = y) : changeM (lastS n y c false a) n x = (0, lastS n y (some x) false (some true)) := by
  have ho := open_last hn hy c a true
  rw [← hx] at ho ⊢
  unfold changeM
  rw [ho]
  simp only [if_true, Bool.or_true]
  have hw : withL (curW (lastS n x.y c false a) n).1 x = [x] := by
    rw [cur_last]
    rcases c with _ | x0
    · rfl
    · have := hc x0 rfl
      simp [withL, posN, this, hx]
  rw [hw]
  congr 1
  show (⟨anyB, _, updW (lastS n x.y c false a).W n (some ([x], false)), _⟩ : KS) = _
  rw [upd_last]; rfl
theorem get_last {n y : Int} (hn : 1 ≤ n) (hy : keyB y = true) (c : Option Ch) (hc : ∀ x, c = some x → x.y = y) (a : Option Bool) : getM (lastS n y c false a) n y = (((c.map (·.v)).getD 0, (c.map (fun x => x.k == 1)).getD false, 0), lastS n y c false (some (a.getD false))) := by
  have ho := open_last hn hy c a false
  unfold getM
  rw [ho]
  simp only [if_true, Bool.or_false]
  rw [cur_last]
  rcases c with _ | x0
  · simp [posN, valM, lastS, hy]
  · have := hc x0 rfl
    simp [posN, this]
theorem prep_last {n y : Int} (hn : 1 ≤ n) (x : Ch) (a : Option Bool) : prepM (lastS n y (some x) false a) n = (([x], 0), lastS n y (some x) true a) := by
  unfold prepM
  rw [if_neg (by omega), cur_last, if_neg (by simp), if_neg (by simp [lastS])]
  congr 1
  show (⟨anyB, _, updW (lastS n y (some x) false a).W n (some ([x], true)), _⟩ : KS) = _
  rw [upd_last]; rfl
theorem prep_last0 {n y : Int} (hn : 1 ≤ n) (a : Option Bool) : (prepM (lastS n y none false a) n).1 = ([], 0) ∧ (prepM (lastS n y none false a) n).2.V = fun _ => (0, false) := by
  unfold prepM
  rw [if_neg (by omega), cur_last, if_neg (by simp), if_pos (by simp [lastS])]
  exact ⟨rfl, rfl⟩
theorem commit_val {S : KS} {n : Int} (hn : 1 ≤ n) : (commitM S n).2.V = (curW S n).1.foldl setV S.V := by
  unfold commitM; rw [if_neg (by omega)]; rfl
theorem bad_open {S : KS} {n y : Int} (h : n < 1 ∨ keyB y = false) (al : Bool) : openM S n y al = (1, S) := if_pos h
theorem bad_change {S : KS} {n : Int} {x : Ch} (h : n < 1 ∨ keyB x.y = false) : changeM S n x = (1, S) := by
  unfold changeM; rw [bad_open h]; rfl
theorem bad_get {S : KS} {n y : Int} (h : n < 1 ∨ keyB y = false) : getM S n y = ((0, false, 1), S) := by
  unfold getM; rw [bad_open h]; rfl

/-! ### two works at one key -/
theorem openM_refused {S : KS} {n y : Int} {al : Bool} (h : (openM S n y al).1 ≠ 0) : (openM S n y al).2 = S := by
  unfold openM at h ⊢
  split
  · rfl
  · split
    · rfl
    · rename_i h1 h2
      rw [if_neg h1, if_neg h2] at h
      have := take_not (L := S.L) (L' := (takeL S.L n y al).2) (o := n) (k := y) (a := al) (r := (takeL S.L n y al).1) rfl h
      show ({ S with L := (takeL S.L n y al).2 } : KS) = S
      rw [this.1]
theorem changeM_refused {S : KS} {n : Int} {x : Ch} (h : (openM S n x.y true).1 ≠ 0) : changeM S n x = ((openM S n x.y true).1, S) := by
  unfold changeM; rw [if_neg h]
  have := openM_refused h
  exact Prod.ext rfl this
theorem getM_refused {S : KS} {n y : Int} (h : (openM S n y false).1 ≠ 0) : getM S n y = ((0, false, (openM S n y false).1), S) := by
  unfold getM; rw [if_neg h, openM_refused h]
theorem openM_clash {S : KS} {n y : Int} {al : Bool} {x : LRow} (hx : x ∈ S.L) (h1 : x.1 = y) (h2 : x.2.1 ≠ n) (h3 : x.2.2 = true) : (openM S n y al).1 ≠ 0 := by
  unfold openM
  split
  · simp
  · split
    · simp
    · have hc : clashL S.L n y al = false ∨ True := .inr trivial
      have hcl : clashL S.L y n al = true := clash_yes hx h1 h2 h3
      unfold takeL
      rw [if_pos hcl]
      simp
theorem withL_pos (l : List Ch) (x : Ch) : (withL l x)[posN (withL l x) x.y]? = some x := by
  unfold withL
  split
  · rename_i hlt
    have e : posN (l.set (posN l x.y) x) x.y = posN l x.y := by
      have hl2 : posN l x.y < (l.set (posN l x.y) x).length := by rw [List.length_set]; exact hlt
      show List.findIdx _ _ = _
      rw [List.findIdx_eq hl2]
      refine ⟨by simp, fun j hj => ?_⟩
      have hne : posN l x.y ≠ j := by omega
      rw [List.getElem_set_ne hne]
      have := List.not_of_lt_findIdx (show j < List.findIdx (fun z => decide (z.y = x.y)) l from hj)
      simpa using this
    rw [e, List.getElem?_set_self hlt]
  · rename_i hge
    have e : posN (l ++ [x]) x.y = l.length := by
      have hle := posN_le l x.y
      have heq : List.findIdx (fun z : Ch => decide (z.y = x.y)) l = l.length := by unfold posN at hle hge; omega
      unfold posN
      rw [List.findIdx_append, heq]
      simp
    rw [e]; simp
theorem alone_facts {S S1 : KS} {n y : Int} {v : Nat} (h : changeM S n ⟨1, y, v⟩ = (0, S1)) : (y, n, true) ∈ S1.L ∧ (∃ S2, getM S1 n y = ((v, true, 0), S2)) ∧ S1.B = S.B := by
  have hB := changeM_B S n ⟨1, y, v⟩
  rw [h] at hB
  unfold changeM at h
  split at h
  · rename_i h0
    injection h with _ h2
    have hok := openM_ok h0
    have hL : S1.L = putL S.L y n true ∧ clashL S.L y n true = false := by
      rw [← h2]
      show (openM S n y true).2.L = _ ∧ _
      unfold openM at h0 ⊢
      have e1 : ¬ (n < 1 ∨ keyB y = false) := by
        rintro (h | h)
        · have := hok.2.1; omega
        · have := hok.2.2; rw [h] at this; cases this
      have e2 : ¬ ((curW S n).2 = true) := by rw [hok.1]; simp
      rw [if_neg e1, if_neg e2] at h0 ⊢
      have := take_ok (L := S.L) (L' := (takeL S.L n y true).2) (o := n) (k := y) (a := true) (r := (takeL S.L n y true).1) rfl h0
      refine ⟨?_, this.1⟩
      show (takeL S.L n y true).2 = _
      rw [this.2, Bool.or_true]
    have hW : S1.W = updW S.W n (some (withL (curW S n).1 ⟨1, y, v⟩, false)) := by rw [← h2]
    refine ⟨by rw [hL.1]; exact put_new _ _ _ _, ?_, hB⟩
    have hcur : curW S1 n = (withL (curW S n).1 ⟨1, y, v⟩, false) := by show (S1.W n).getD _ = _; rw [hW]; simp [updW]
    have hcl : clashL S1.L y n false = false := by
      unfold clashL
      rw [List.any_eq_false]
      intro x hx hc
      rw [hL.1] at hx
      rcases put_mem hx with rfl | ⟨hx, hne⟩
      · simp at hc
      · simp only [Bool.and_eq_true, decide_eq_true_eq, Bool.not_eq_true', decide_eq_false_iff_not] at hc
        have := clash_no hL.2 hx hc.1.1 hc.1.2
        simp at this
    have hheld : heldL S1.L y n = true := by rw [hL.1]; exact held_iff.2 ⟨_, put_new _ _ _ _, rfl, rfl⟩
    have ho : (openM S1 n y false).1 = 0 := by
      unfold openM
      rw [if_neg (by rintro (h | h); have := hok.2.1; omega; have := hok.2.2; rw [h] at this; cases this), if_neg (by rw [hcur]; simp)]
      show (takeL S1.L n y false).1 = 0
      unfold takeL
      rw [hcl, if_neg (by simp), if_neg (by simp [hheld])]
    refine ⟨(getM S1 n y).2, ?_⟩
    obtain ⟨hp1, hp2⟩ := List.getElem?_eq_some_iff.1 (withL_pos (curW S n).1 ⟨1, y, v⟩)
    dsimp only at hp1 hp2
    have hg : getM S1 n y = ((v, true, 0), (openM S1 n y false).2) := by
      unfold getM
      rw [if_pos ho]
      rw [dif_pos (by rw [hcur]; exact hp1)]
      simp only [hcur, hp2]
      rfl
    rw [hg]
  · rename_i h0
    rw [h] at h0
    exact absurd rfl h0

/-! ### what is kept -/
theorem openM_V (S : KS) (n y : Int) (al : Bool) : (openM S n y al).2.V = S.V := (openM_W S n y al).2
theorem callM_V (S : KS) (o : OpV) (h1 : 0 ≤ o.k) (h2 : o.k ≤ 3) : (callM S o).2.V = S.V := by
  unfold callM
  by_cases k0 : o.k = 0
  · rw [if_pos k0]
    show (getM S o.n o.y).2.V = S.V
    unfold getM
    split
    · split <;> exact openM_V _ _ _ _
    · exact openM_V _ _ _ _
  · rw [if_neg k0]
    have hch : ∀ x : Ch, (changeM S o.n x).2.V = S.V := fun x => by
      unfold changeM; split <;> exact openM_V S o.n x.y true
    by_cases k1 : o.k = 1
    · rw [if_pos k1]; exact hch _
    · rw [if_neg k1]
      by_cases k2 : o.k = 2
      · rw [if_pos k2]; exact hch _
      · rw [if_neg k2, if_pos (by omega)]
        show (prepM S o.n).2.V = S.V
        unfold prepM
        split
        · rfl
        · split
          · rfl
          · split <;> rfl
theorem not_hasL_drop (L : List LRow) (n : Int) : hasL (dropL L n) n = false := by
  unfold hasL dropL
  rw [List.any_eq_false]
  intro x hx
  have := (List.mem_filter.1 hx).2
  simpa using this
theorem busy_drop (S : KS) (n : Int) : busyB (dropM S n) n = false := by
  unfold busyB dropM updW
  simp [not_hasL_drop]
end Go.Proofs.Ytihchfjdgeehoaa

namespace Go.Proofs.Ytihchfjdgeehoaa
open Go.RowKit Go.Maps
set_option linter.unusedVariables false
set_option linter.unusedSimpArgs false

/-- Numbers of 64 bits that came in. -/
def U64At (w : World) (A : Option Addr) (zs : List Nat) : Prop := zs.length ≤ maxLen ∧ (0 < zs.length → ∃ b o, A = some ⟨b, o, none⟩ ∧ b < w.heap.size ∧ ∀ i, (h : i < zs.length) → w.cell? ⟨b, o + i, none⟩ = some (.int .u64 ((zs[i]'h : Nat) : Int)))
def wantV (c : Option Ch) : Nat := (c.map (·.v)).getD 0
def wantT (c : Option Ch) : Bool := (c.map (fun x => x.k == 1)).getD false
theorem get_last2 {n y : Int} (hn : 1 ≤ n) (hy : keyB y = true) (c : Option Ch) (hc : ∀ x, c = some x → x.y = y) (a : Option Bool) : getM (lastS n y c false a) n y = ((wantV c, wantT c, 0), lastS n y c false (some (a.getD false))) := get_last hn hy c hc a
theorem last_tail {n y : Int} (hn : 1 ≤ n) (hy : keyB y = true) (c : Option Ch) (hc : ∀ x, c = some x → x.y = y) (a : Option Bool) : ∃ l S', prepM (lastS n y c false a) n = ((l, 0), S') ∧ l.length ≤ 1 ∧ S'.B = anyB ∧ valM (commitM S' n).2 y = (wantV c, wantT c) := by
  rcases c with _ | x
  · have h1 := (prep_last0 (y := y) hn a).1
    refine ⟨[], (prepM (lastS n y none false a) n).2, ?_, by simp, ?_, ?_⟩
    · rw [← h1]
    · unfold prepM; rw [if_neg (by omega), cur_last, if_neg (by simp), if_pos (by simp [lastS])]; rfl
    · unfold valM
      rw [if_pos hy, commit_val hn, (prep_last0 (y := y) hn a).2]
      have : (curW (prepM (lastS n y none false a) n).2 n).1 = [] := by
        unfold prepM; rw [if_neg (by omega), cur_last, if_neg (by simp), if_pos (by simp [lastS])]
        simp [curW, lastS]
      rw [this]; rfl
  · have hx := hc x rfl
    refine ⟨[x], _, prep_last hn x a, by simp, rfl, ?_⟩
    unfold valM
    rw [if_pos hy, commit_val hn, cur_last]
    show setV (fun _ => (0, false)) x y.toNat = _
    unfold setV
    rw [if_pos (by rw [hx])]
    rfl
theorem bad_key {n y : Int} (h : n < 1 ∨ keyB y = false) : n < 1 ∨ y < 0 ∨ 16 ≤ y := by
  rcases h with h | h
  · exact .inl h
  · unfold keyB at h; simp at h; omega
set_option maxRecDepth 100000 in
set_option maxHeartbeats 8000000 in
theorem kvLast_walk (n y : Int) (A : Option Addr) (zs : List Nat) (c : Nat) (last : Bool) (w : World) (n1 : -9223372036854775808 ≤ n) (n2 : n ≤ 9223372036854775807) (y1 : -9223372036854775808 ≤ y) (y2 : y ≤ 9223372036854775807) (hz : U64At w A zs) :
    Calls Try.prog 9 #[.int .i64 n, .int .i64 y, .slice A zs.length c, .bool last] w fun e w' => e = .returned (.bool true) ∧ Below w.heap.size w w' := by
  obtain ⟨m, hm⟩ : ∃ m, m = zs.length := ⟨_, rfl⟩
  rw [← hm]
  have Hm := Lib.hid hm
  have HZ := Lib.hid hz
  have hmx : (m : Int) ≤ 9223372036854775807 := by have := hz.1; rw [← hm] at this; unfold maxLen at this; omega
  have Hn : Hid (i64ok n) := Lib.hid ⟨n1, n2⟩
  have Hy : Hid (i64ok y) := Lib.hid ⟨y1, y2⟩
  obtain ⟨g, hg⟩ : ∃ g, g = w.heap.size := ⟨_, rfl⟩
  have HG := Lib.hid hg
  clear hm hz n1 n2 y1 y2
  go_enter Try.func9, Try.ntmps9
  go_wp2_with fail
  refine (knew_any anyB w).mono ?_
  rintro e w1 ⟨rfl, ⟨cs, hk⟩, b1⟩
  rw [← hg] at hk ⊢
  have H1 : Hid (KvAt w1 g 59 cs (KS.zero anyB) 0 ∧ Below w.heap.size w w1) := Lib.hid ⟨hk, b1⟩
  clear hg hk b1
  by_cases hm1 : 100 < m
  · have hmI : (100 : Int) < (m : Int) := by omega
    go_wp2_with fail
    refine (alive_any w1).mono ?_
    rintro e w2 ⟨rfl, b2⟩
    have hF := Lib.hid (bt H1.out.2 b2)
    clear b2
    go_wp2
    go_ret
    exact ⟨rfl, hF.out⟩
  have hmI : ¬ (100 : Int) < (m : Int) := by omega
  by_cases hbad : n < 1 ∨ keyB y = false
  · have HBad := Lib.hid hbad
    have hbk := bad_key hbad
    rcases Nat.eq_zero_or_pos m with h0 | h0
    · subst h0
      have h0I : ¬ (0 : Int) < ((0 : Nat) : Int) := by omega
      go_wp2_with fail
      refine wp_loop_rounds 1 ?_
      rw [rounds_succ]
      rcases last with _ | _
      · have hr := get_any g _ cs (KS.zero anyB) 0 n y w1 H1.out.1 (by omega) Hn.out Hy.out
        rw [bad_get hbad] at hr
        have HC := Lib.hid hr
        clear hr
        go_wp2_with fail
        refine HC.out.mono ?_
        rintro e w2 ⟨rfl, ⟨_, hg2⟩⟩
        have hB2 := Lib.hid (H1.out.2.grown hg2 H1.out.2.size (fun r e => by cases e; have := HG.out; omega))
        clear hg2
        go_wp2_with fail
        refine (alive_any w2).mono ?_
        rintro e w3 ⟨rfl, b3⟩
        have hF := Lib.hid (bt hB2.out b3)
        clear b3
        go_wp2
        go_ret
        exact ⟨rfl, hF.out⟩
      · have hr := kdel_any g _ cs (KS.zero anyB) 0 n y w1 H1.out.1 (by omega) Hn.out Hy.out (fun _ _ => trivial)
        rw [bad_change hbad] at hr
        have HC := Lib.hid hr
        clear hr
        go_wp2_with fail
        refine HC.out.mono ?_
        rintro e w2 ⟨rfl, ⟨⟨cs2, hk2, _⟩, hg2⟩⟩
        have hB2 := Lib.hid (H1.out.2.grown hg2 H1.out.2.size (fun r e => by cases e; have := HG.out; omega))
        have hr := get_any g _ cs2 (KS.zero anyB) 1 n y w2 hk2 (by omega) Hn.out Hy.out
        rw [bad_get hbad] at hr
        have HC2 := Lib.hid hr
        clear hg2 hk2 hr
        go_wp2_with fail
        refine HC2.out.mono ?_
        rintro e w3 ⟨rfl, ⟨_, hg3⟩⟩
        have hB3 := Lib.hid (hB2.out.grown hg3 hB2.out.size (fun r e => by cases e; have := HG.out; omega))
        clear hg3
        go_wp2_with fail
        refine (alive_any w3).mono ?_
        rintro e w4 ⟨rfl, b4⟩
        have hF := Lib.hid (bt hB3.out b4)
        clear b4
        go_wp2
        go_ret
        exact ⟨rfl, hF.out⟩
    · have h0I : (0 : Int) < (m : Int) := by omega
      obtain ⟨b, o, rfl, hlt, hcs⟩ := HZ.out.2 (by have := Hm.out; omega)
      have q0 := hcs 0 (by have := Hm.out; omega)
      have p0 := (H1.out.2.cell (p := ⟨b, o + 0, none⟩) hlt).trans q0
      rw [Nat.add_zero] at p0
      generalize zs[0]'(by have := Hm.out; omega) = z at p0
      have hr := kput_any g _ cs (KS.zero anyB) 0 n y z w1 H1.out.1 (by omega) Hn.out Hy.out (fun _ _ => trivial)
      rw [bad_change hbad] at hr
      have HC := Lib.hid hr
      clear hr hcs q0
      go_wp2_with fail
      refine wp_loop_rounds 1 ?_
      rw [rounds_succ]
      go_wp2_with fail
      refine HC.out.mono ?_
      rintro e w2 ⟨rfl, ⟨_, hg2⟩⟩
      have hB2 := Lib.hid (H1.out.2.grown hg2 H1.out.2.size (fun r e => by cases e; have := HG.out; omega))
      clear hg2 p0
      go_wp2_with fail
      refine (alive_any w2).mono ?_
      rintro e w3 ⟨rfl, b3⟩
      have hF := Lib.hid (bt hB2.out b3)
      clear b3
      by_cases k1 : n < 1
      · go_wp2
        go_ret
        exact ⟨rfl, hF.out⟩
      · by_cases k2 : y < 0
        · have k2D : decide (y < 0) = true := decide_eq_true k2
          go_wp2
          go_ret
          exact ⟨rfl, hF.out⟩
        · have k3 : 16 ≤ y := by omega
          have k2D : decide (y < 0) = false := decide_eq_false k2
          have k3D : decide (16 ≤ y) = true := decide_eq_true k3
          go_wp2
          go_ret
          exact ⟨rfl, hF.out⟩
  have hn1 : 1 ≤ n := by omega
  have hyk : keyB y = true := by
    rcases hk : keyB y with _ | _
    · exact absurd (.inr hk) hbad
    · rfl
  have HH := Lib.hid (And.intro hn1 hyk)
  have hS0 : KS.zero anyB = lastS n y none false none := by
    unfold KS.zero lastS rowO
    congr 1
    funext j; split <;> rfl
  rw [hS0] at H1
  clear hbad hn1 hyk hS0
  go_wp2_with fail
  go_loopw [10, 11, 12] (fun x t i wr => ∃ (i0 : Nat) (cc : Option Ch) (a : Option Bool), i0 ≤ m ∧ i = .int .i64 i0 ∧ x = .int .u64 (wantV cc : Nat) ∧ t = .bool (wantT cc) ∧ Hid ((∀ x, cc = some x → x.y = y) ∧ ∃ cs, KvAt wr g 59 cs (lastS n y cc false a) i0 ∧ Below w.heap.size w wr)) (fun x t i _ => m - (intOf i).toNat)
  case atStart => exact ⟨0, none, none, Nat.zero_le _, rfl, rfl, rfl, Lib.hid ⟨(fun x h => by cases h), cs, H1.out⟩⟩
  case round =>
    clear H1
    obtain ⟨i0, cc, a, hi, rfl, rfl, rfl, HR⟩ := hrel
    by_cases him : i0 < m
    · have hiI : (i0 : Int) < (m : Int) := by omega
      obtain ⟨hcc, cs', hk, hb⟩ := HR.out
      obtain ⟨b, o, rfl, hlt, hcs⟩ := HZ.out.2 (by have := Hm.out; omega)
      have q0 := hcs i0 (by have := Hm.out; omega)
      have p0 := (hb.cell (p := ⟨b, o + i0, none⟩) hlt).trans q0
      generalize zs[i0]'(by have := Hm.out; omega) = z at p0
      have hr := kput_any g _ cs' (lastS n y cc false a) i0 n y z wr hk (by omega) Hn.out Hy.out (fun _ _ => trivial)
      rw [change_last HH.out.1 HH.out.2 cc hcc a ⟨1, y, z⟩ rfl] at hr
      have HC := Lib.hid hr
      have HB := Lib.hid (And.intro hb hlt)
      have P0 := Lib.hid p0
      clear hr hcs q0 hk hcc hb hlt
      go_wp2_with fail
      refine HC.out.mono ?_
      rintro e w2 ⟨rfl, ⟨⟨cs2, hk2, _⟩, hg2⟩⟩
      have hB2 := HB.out.1.grown hg2 HB.out.1.size (fun r e => by cases e; have := HG.out; omega)
      have p1 : w2.cell? ⟨b, o + i0, none⟩ = some (.int .u64 (z : Nat)) := by
        have h1 := P0.out
        rw [← h1]
        have hbg : some b ≠ some g := fun e => by have := Option.some.inj e; have := HG.out; have := HB.out.2; omega
        have := hg2.block b (World.block_lt_of_cell? _ _ h1) hbg
        unfold World.cell?
        rw [this]
      have HN : Hid ((∀ x, some (⟨1, y, z⟩ : Ch) = some x → x.y = y) ∧ ∃ cs, KvAt w2 g 59 cs (lastS n y (some ⟨1, y, z⟩) false (some true)) (i0 + 1) ∧ Below w.heap.size w w2) := Lib.hid ⟨fun x h => by cases h; rfl, cs2, hk2, hB2⟩
      clear hk2 hg2 hB2 p0 HR
      go_wp2
      go_roundw
      case rel => exact ⟨i0 + 1, some ⟨1, y, z⟩, some true, by omega, by go_num, rfl, rfl, HN⟩
      case measure => simp [intOf]; omega
    · obtain rfl : i0 = m := by omega
      have hiI : ¬ (i0 : Int) < (i0 : Int) := by omega
      rcases last with _ | _
      · have H3 : Hid ((∀ x, cc = some x → x.y = y) ∧ ∃ cs, KvAt wr g 59 cs (lastS n y cc false a) (i0 + 1) ∧ Below w.heap.size w wr) := Lib.hid (by
          obtain ⟨h1, cs', h2, h3⟩ := HR.out; exact ⟨h1, cs', h2.more (Nat.le_succ _), h3⟩)
        clear HR
        go_wp2_with fail
        obtain ⟨hcc, cs3, hk3, hb3⟩ := H3.out
        have hr : Calls _ _ _ _ _ := get_any g _ cs3 (lastS n y cc false a) (i0 + 1) n y wr hk3 (by omega) Hn.out Hy.out
        rw [get_last2 HH.out.1 HH.out.2 cc hcc a] at hr
        obtain ⟨ag, hag⟩ : ∃ ag, ag = some (a.getD false) := ⟨_, rfl⟩
        rw [← hag] at hr

        have HCg := Lib.hid hr
        have HBg := Lib.hid hb3
        have HCC := Lib.hid hcc
        clear hr hk3 hb3 H3 hag hcc
        refine HCg.out.mono ?_
        rintro e w4 ⟨rfl, ⟨⟨cs4, hk4, _⟩, hg4⟩⟩
        have hB4 := HBg.out.grown hg4 HBg.out.size (fun r e => by cases e; have := HG.out; omega)
        obtain ⟨l, S', hp, hl1, hSB, hval⟩ := last_tail HH.out.1 HH.out.2 cc HCC.out ag
        have hr := prep_any g _ cs4 (lastS n y cc false ag) (i0 + 1) n w4 hk4 (by omega) Hn.out
        rw [hp] at hr
        have HCp := Lib.hid hr
        have HBp := Lib.hid hB4
        have HL := Lib.hid (And.intro hl1 hval)
        clear hr hk4 hg4 hB4 hp hl1 hSB hval
        go_wp2_with fail
        refine HCp.out.mono ?_
        rintro e w5 ⟨⟨A5, q5, c5, rfl, hq5, _⟩, ⟨⟨cs5, hk5, _⟩, hg5⟩⟩
        have hB5 := HBp.out.grown hg5 HBp.out.size (fun r e => by cases e; have := HG.out; omega)
        have hr := commit_any g _ cs5 S' (i0 + 1 + 1) n w5 hk5 (by omega) Hn.out
        have hc0 : (commitM S' n).1 = 0 := by unfold commitM; rw [if_neg (by have := HH.out.1; omega)]
        rw [hc0] at hr
        have HCc := Lib.hid hr
        have HBc := Lib.hid hB5
        have hq51 : (q5 : Int) ≤ 1 := by have := HL.out.1; have : q5 = l.length := hq5; omega
        clear hr hk5 hg5 hB5 hc0 hq5
        go_wp2_with fail
        refine HCc.out.mono ?_
        rintro e w6 ⟨rfl, ⟨⟨cs6, hk6, _⟩, hg6⟩⟩
        have hB6 := HBc.out.grown hg6 HBc.out.size (fun r e => by cases e; have := HG.out; omega)
        have hr := value_any g _ cs6 (commitM S' n).2 (i0 + 1 + 1) y w6 hk6
        rw [HL.out.2] at hr

        have HCv := Lib.hid hr
        have HBv := Lib.hid hB6
        clear hr hk6 hg6 hB6
        go_wp2_with fail
        refine HCv.out.mono ?_
        rintro e w7 ⟨rfl, b7⟩
        have HB7 := Lib.hid (bt HBv.out b7)
        clear b7
        go_wp2_with fail
        refine (alive_any w7).mono ?_
        rintro e w8 ⟨rfl, b8⟩
        have hF := Lib.hid (bt HB7.out b8)
        clear b8
        go_wp2
        go_ret
        exact ⟨rfl, hF.out⟩
      · obtain ⟨hcc, cs', hk, hb⟩ := HR.out
        have hr := kdel_any g _ cs' (lastS n y cc false a) i0 n y wr hk (by omega) Hn.out Hy.out (fun _ _ => trivial)
        rw [change_last HH.out.1 HH.out.2 cc hcc a ⟨2, y, 0⟩ rfl] at hr
        have HC := Lib.hid hr
        have HB := Lib.hid hb
        clear hr hk hcc hb HR
        go_wp2_with fail
        refine HC.out.mono ?_
        rintro e w2 ⟨rfl, ⟨⟨cs2, hk2, _⟩, hg2⟩⟩
        have hB2 := HB.out.grown hg2 HB.out.size (fun r e => by cases e; have := HG.out; omega)
        obtain ⟨cd, hcd⟩ : ∃ cd : Option Ch, cd = some ⟨2, y, 0⟩ := ⟨_, rfl⟩
        obtain ⟨ad, had⟩ : ∃ ad : Option Bool, ad = some true := ⟨_, rfl⟩
        have H3 : Hid ((∀ x, cd = some x → x.y = y) ∧ ∃ cs, KvAt w2 g 59 cs (lastS n y cd false ad) (i0 + 1) ∧ Below w.heap.size w w2) := Lib.hid ⟨fun x h => by rw [hcd] at h; cases h; rfl, cs2, by rw [hcd, had]; exact hk2, hB2⟩
        have hwv : wantV cd = 0 := by rw [hcd]; rfl
        have hwt : wantT cd = false := by rw [hcd]; rfl
        have HWV := Lib.hid (And.intro hwv hwt)
        clear hk2 hg2 hB2 hcd had hwv hwt
        go_wp2_with fail
        obtain ⟨hcc, cs3, hk3, hb3⟩ := H3.out
        have hr := get_any g _ cs3 (lastS n y cd false ad) (i0 + 1) n y w2 hk3 (by omega) Hn.out Hy.out
        rw [get_last2 HH.out.1 HH.out.2 cd hcc ad] at hr
        obtain ⟨ag, hag⟩ : ∃ ag, ag = some (ad.getD false) := ⟨_, rfl⟩
        rw [← hag] at hr
        rw [HWV.out.1, HWV.out.2] at hr
        have HCg := Lib.hid hr
        have HBg := Lib.hid hb3
        have HCC := Lib.hid hcc
        clear hr hk3 hb3 H3 hag hcc
        refine HCg.out.mono ?_
        rintro e w4 ⟨rfl, ⟨⟨cs4, hk4, _⟩, hg4⟩⟩
        have hB4 := HBg.out.grown hg4 HBg.out.size (fun r e => by cases e; have := HG.out; omega)
        obtain ⟨l, S', hp, hl1, hSB, hval⟩ := last_tail HH.out.1 HH.out.2 cd HCC.out ag
        have hr := prep_any g _ cs4 (lastS n y cd false ag) (i0 + 1) n w4 hk4 (by omega) Hn.out
        rw [hp] at hr
        have HCp := Lib.hid hr
        have HBp := Lib.hid hB4
        have HL := Lib.hid (And.intro hl1 hval)
        clear hr hk4 hg4 hB4 hp hl1 hSB hval
        go_wp2_with fail
        refine HCp.out.mono ?_
        rintro e w5 ⟨⟨A5, q5, c5, rfl, hq5, _⟩, ⟨⟨cs5, hk5, _⟩, hg5⟩⟩
        have hB5 := HBp.out.grown hg5 HBp.out.size (fun r e => by cases e; have := HG.out; omega)
        have hr := commit_any g _ cs5 S' (i0 + 1 + 1) n w5 hk5 (by omega) Hn.out
        have hc0 : (commitM S' n).1 = 0 := by unfold commitM; rw [if_neg (by have := HH.out.1; omega)]
        rw [hc0] at hr
        have HCc := Lib.hid hr
        have HBc := Lib.hid hB5
        have hq51 : (q5 : Int) ≤ 1 := by have := HL.out.1; have : q5 = l.length := hq5; omega
        clear hr hk5 hg5 hB5 hc0 hq5
        go_wp2_with fail
        refine HCc.out.mono ?_
        rintro e w6 ⟨rfl, ⟨⟨cs6, hk6, _⟩, hg6⟩⟩
        have hB6 := HBc.out.grown hg6 HBc.out.size (fun r e => by cases e; have := HG.out; omega)
        have hr := value_any g _ cs6 (commitM S' n).2 (i0 + 1 + 1) y w6 hk6
        rw [HL.out.2] at hr
        rw [HWV.out.1, HWV.out.2] at hr
        have HCv := Lib.hid hr
        have HBv := Lib.hid hB6
        clear hr hk6 hg6 hB6
        go_wp2_with fail
        refine HCv.out.mono ?_
        rintro e w7 ⟨rfl, b7⟩
        have HB7 := Lib.hid (bt HBv.out b7)
        clear b7
        go_wp2_with fail
        refine (alive_any w7).mono ?_
        rintro e w8 ⟨rfl, b8⟩
        have hF := Lib.hid (bt HB7.out b8)
        clear b8
        go_wp2
        go_ret
        exact ⟨rfl, hF.out⟩
end Go.Proofs.Ytihchfjdgeehoaa
