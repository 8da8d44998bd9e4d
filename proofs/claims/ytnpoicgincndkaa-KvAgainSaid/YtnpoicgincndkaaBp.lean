/- Layer 13: KvLast, KvAlone. -/
import Derived.Test.YtnpoicgincndkaaBo
namespace Go.Proofs.Ytnpoicgincndkaa
open Go.RowKit Go.Maps
set_option linter.unusedVariables false
set_option linter.unusedSimpArgs false

/-- Numbers of 64 bits that came in. -/
def U64At (w : World) (A : Option Addr) (zs : List Nat) : Prop := zs.length ≤ maxLen ∧ (0 < zs.length → ∃ b o, A = some ⟨b, o, none⟩ ∧ b < w.heap.size ∧ ∀ i, (h : i < zs.length) → w.cell? ⟨b, o + i, none⟩ = some (.int .u64 ((zs[i]'h : Nat) : Int)))
def wantV (c : Option Ch) : Nat := (c.map (·.v)).getD 0
def wantT (c : Option Ch) : Bool := (c.map (fun x => x.k == 1)).getD false
theorem get_last2 {n y : Int} (hn : 1 ≤ n) (hy : keyB y = true) (c : Option Ch) (hc : ∀ x, c = some x → x.y = y) (a : Option Bool) : getM (lastS n y c false a) n y = ((wantV c, wantT c, 0), lastS n y c false (some (a.getD false))) := get_last hn hy c hc a
theorem last_tail {n y : Int} (hn : 1 ≤ n) (hy : keyB y = true) (c : Option Ch) (hc : ∀ x, c = some x → x.y = y) (a : Option Bool) : ∃ l S', prepM (lastS n y c false a) n = ((l, 0), S') ∧ l.length ≤ 1 ∧ S'.B = anyB ∧ valM (commitM S' n).2 y = (wantV c, wantT c) := by
  rcases c with _ | x
  · have h1 := (prep_last0 (y := y) hn a).1
    refine ⟨[], (prepM (lastS n y none false a) n).2, ?_, by simp, ?_, ?_⟩
    · rw [← h1]
    · unfold prepM; rw [if_neg (by omega), cur_last, if_neg (by simp), if_pos (by simp [lastS])]; rfl
    · unfold valM
      rw [if_pos hy, commit_val hn, (prep_last0 (y := y) hn a).2]
      have : (curW (prepM (lastS n y none false a) n).2 n).1 = [] := by
        unfold prepM; rw [if_neg (by omega), cur_last, if_neg (by simp), if_pos (by simp [lastS])]
        simp [curW, lastS]
      rw [this]; rfl
  · have hx := hc x rfl
    refine ⟨[x], _, prep_last hn x a, by simp, rfl, ?_⟩
    unfold valM
    rw [if_pos hy, commit_val hn, cur_last]
    show setV (fun _ => (0, false)) x y.toNat = _
    unfold setV
    rw [if_pos (by rw [hx])]
    rfl
theorem bad_key {n y : Int} (h : n < 1 ∨ keyB y = false) : n < 1 ∨ y < 0 ∨ 16 ≤ y := by
  rcases h with h | h
  · exact .inl h
  · unfold keyB at h; simp at h; omega
set_option maxRecDepth 100000 in
set_option maxHeartbeats 8000000 in
theorem kvLast_walk (n y : Int) (A : Option Addr) (zs : List Nat) (c : Nat) (last : Bool) (w : World) (n1 : -9223372036854775808 ≤ n) (n2 : n ≤ 9223372036854775807) (y1 : -9223372036854775808 ≤ y) (y2 : y ≤ 9223372036854775807) (hz : U64At w A zs) :
    Calls Try.prog 9 #[.int .i64 n, .int .i64 y, .slice A zs.length c, .bool last] w fun e w' => e = .returned (.bool true) ∧ Below w.heap.size w w' := by
  obtain ⟨m, hm⟩ : ∃ m, m = zs.length := ⟨_, rfl⟩
  rw [← hm]
  have Hm := Lib.hid hm
  have HZ := Lib.hid hz
  have hmx : (m : Int) ≤ 9223372036854775807 := by have := hz.1; rw [← hm] at this; unfold maxLen at this; omega
  have Hn : Hid (i64ok n) := Lib.hid ⟨n1, n2⟩
  have Hy : Hid (i64ok y) := Lib.hid ⟨y1, y2⟩
  obtain ⟨g, hg⟩ : ∃ g, g = w.heap.size := ⟨_, rfl⟩
  have HG := Lib.hid hg
  clear hm hz n1 n2 y1 y2
  go_enter Try.func9, Try.ntmps9
  go_wp2_with fail
  refine (knew_any anyB w).mono ?_
  rintro e w1 ⟨rfl, ⟨cs, hk⟩, b1⟩
  rw [← hg] at hk ⊢
  have H1 : Hid (KvAt w1 g 59 cs (KS.zero anyB) 0 ∧ Below w.heap.size w w1) := Lib.hid ⟨hk, b1⟩
  clear hg hk b1
  by_cases hm1 : 100 < m
  · have hmI : (100 : Int) < (m : Int) := by omega
    go_wp2_with fail
    refine (alive_any w1).mono ?_
    rintro e w2 ⟨rfl, b2⟩
    have hF := Lib.hid (bt H1.out.2 b2)
    clear b2
    go_wp2
    go_ret
    exact ⟨rfl, hF.out⟩
  have hmI : ¬ (100 : Int) < (m : Int) := by omega
  by_cases hbad : n < 1 ∨ keyB y = false
  · have HBad := Lib.hid hbad
    have hbk := bad_key hbad
    rcases Nat.eq_zero_or_pos m with h0 | h0
    · subst h0
      have h0I : ¬ (0 : Int) < ((0 : Nat) : Int) := by omega
      go_wp2_with fail
      refine wp_loop_rounds 1 ?_
      rw [rounds_succ]
      rcases last with _ | _
      · have hr := get_any g _ cs (KS.zero anyB) 0 n y w1 H1.out.1 (by omega) Hn.out Hy.out
        rw [bad_get hbad] at hr
        have HC := Lib.hid hr
        clear hr
        go_wp2_with fail
        refine HC.out.mono ?_
        rintro e w2 ⟨rfl, ⟨_, hg2⟩⟩
        have hB2 := Lib.hid (H1.out.2.grown hg2 H1.out.2.size (fun r e => by cases e; have := HG.out; omega))
        clear hg2
        go_wp2_with fail
        refine (alive_any w2).mono ?_
        rintro e w3 ⟨rfl, b3⟩
        have hF := Lib.hid (bt hB2.out b3)
        clear b3
        go_wp2
        go_ret
        exact ⟨rfl, hF.out⟩
      · have hr := kdel_any g _ cs (KS.zero anyB) 0 n y w1 H1.out.1 (by omega) Hn.out Hy.out (fun _ _ => trivial)
        rw [bad_change hbad] at hr
        have HC := Lib.hid hr
        clear hr
        go_wp2_with fail
        refine HC.out.mono ?_
        rintro e w2 ⟨rfl, ⟨⟨cs2, hk2, _⟩, hg2⟩⟩
        have hB2 := Lib.hid (H1.out.2.grown hg2 H1.out.2.size (fun r e => by cases e; have := HG.out; omega))
        have hr := get_any g _ cs2 (KS.zero anyB) 1 n y w2 hk2 (by omega) Hn.out Hy.out
        rw [bad_get hbad] at hr
        have HC2 := Lib.hid hr
        clear hg2 hk2 hr
        go_wp2_with fail
        refine HC2.out.mono ?_
        rintro e w3 ⟨rfl, ⟨_, hg3⟩⟩
        have hB3 := Lib.hid (hB2.out.grown hg3 hB2.out.size (fun r e => by cases e; have := HG.out; omega))
        clear hg3
        go_wp2_with fail
        refine (alive_any w3).mono ?_
        rintro e w4 ⟨rfl, b4⟩
        have hF := Lib.hid (bt hB3.out b4)
        clear b4
        go_wp2
        go_ret
        exact ⟨rfl, hF.out⟩
    · have h0I : (0 : Int) < (m : Int) := by omega
      obtain ⟨b, o, rfl, hlt, hcs⟩ := HZ.out.2 (by have := Hm.out; omega)
      have q0 := hcs 0 (by have := Hm.out; omega)
      have p0 := (H1.out.2.cell (p := ⟨b, o + 0, none⟩) hlt).trans q0
      rw [Nat.add_zero] at p0
      generalize zs[0]'(by have := Hm.out; omega) = z at p0
      have hr := kput_any g _ cs (KS.zero anyB) 0 n y z w1 H1.out.1 (by omega) Hn.out Hy.out (fun _ _ => trivial)
      rw [bad_change hbad] at hr
      have HC := Lib.hid hr
      clear hr hcs q0
      go_wp2_with fail
      refine wp_loop_rounds 1 ?_
      rw [rounds_succ]
      go_wp2_with fail
      refine HC.out.mono ?_
      rintro e w2 ⟨rfl, ⟨_, hg2⟩⟩
      have hB2 := Lib.hid (H1.out.2.grown hg2 H1.out.2.size (fun r e => by cases e; have := HG.out; omega))
      clear hg2 p0
      go_wp2_with fail
      refine (alive_any w2).mono ?_
      rintro e w3 ⟨rfl, b3⟩
      have hF := Lib.hid (bt hB2.out b3)
      clear b3
      by_cases k1 : n < 1
      · go_wp2
        go_ret
        exact ⟨rfl, hF.out⟩
      · by_cases k2 : y < 0
        · have k2D : decide (y < 0) = true := decide_eq_true k2
          go_wp2
          go_ret
          exact ⟨rfl, hF.out⟩
        · have k3 : 16 ≤ y := by omega
          have k2D : decide (y < 0) = false := decide_eq_false k2
          have k3D : decide (16 ≤ y) = true := decide_eq_true k3
          go_wp2
          go_ret
          exact ⟨rfl, hF.out⟩
  have hn1 : 1 ≤ n := by omega
  have hyk : keyB y = true := by
    rcases hk : keyB y with _ | _
    · exact absurd (.inr hk) hbad
    · rfl
  have HH := Lib.hid (And.intro hn1 hyk)
  have hS0 : KS.zero anyB = lastS n y none false none := by
    unfold KS.zero lastS rowO
    congr 1
    funext j; split <;> rfl
  rw [hS0] at H1
  clear hbad hn1 hyk hS0
  go_wp2_with fail
  go_loopw [10, 11, 12] (fun x t i wr => ∃ (i0 : Nat) (cc : Option Ch) (a : Option Bool), i0 ≤ m ∧ i = .int .i64 i0 ∧ x = .int .u64 (wantV cc : Nat) ∧ t = .bool (wantT cc) ∧ Hid ((∀ x, cc = some x → x.y = y) ∧ ∃ cs, KvAt wr g 59 cs (lastS n y cc false a) i0 ∧ Below w.heap.size w wr)) (fun x t i _ => m - (intOf i).toNat)
  case atStart => exact ⟨0, none, none, Nat.zero_le _, rfl, rfl, rfl, Lib.hid ⟨(fun x h => by cases h), cs, H1.out⟩⟩
  case round =>
    clear H1
    obtain ⟨i0, cc, a, hi, rfl, rfl, rfl, HR⟩ := hrel
    by_cases him : i0 < m
    · have hiI : (i0 : Int) < (m : Int) := by omega
      obtain ⟨hcc, cs', hk, hb⟩ := HR.out
      obtain ⟨b, o, rfl, hlt, hcs⟩ := HZ.out.2 (by have := Hm.out; omega)
      have q0 := hcs i0 (by have := Hm.out; omega)
      have p0 := (hb.cell (p := ⟨b, o + i0, none⟩) hlt).trans q0
      generalize zs[i0]'(by have := Hm.out; omega) = z at p0
      have hr := kput_any g _ cs' (lastS n y cc false a) i0 n y z wr hk (by omega) Hn.out Hy.out (fun _ _ => trivial)
      rw [change_last HH.out.1 HH.out.2 cc hcc a ⟨1, y, z⟩ rfl] at hr
      have HC := Lib.hid hr
      have HB := Lib.hid (And.intro hb hlt)
      have P0 := Lib.hid p0
      clear hr hcs q0 hk hcc hb hlt
      go_wp2_with fail
      refine HC.out.mono ?_
      rintro e w2 ⟨rfl, ⟨⟨cs2, hk2, _⟩, hg2⟩⟩
      have hB2 := HB.out.1.grown hg2 HB.out.1.size (fun r e => by cases e; have := HG.out; omega)
      have p1 : w2.cell? ⟨b, o + i0, none⟩ = some (.int .u64 (z : Nat)) := by
        have h1 := P0.out
        rw [← h1]
        have hbg : some b ≠ some g := fun e => by have := Option.some.inj e; have := HG.out; have := HB.out.2; omega
        have := hg2.block b (World.block_lt_of_cell? _ _ h1) hbg
        unfold World.cell?
        rw [this]
      have HN : Hid ((∀ x, some (⟨1, y, z⟩ : Ch) = some x → x.y = y) ∧ ∃ cs, KvAt w2 g 59 cs (lastS n y (some ⟨1, y, z⟩) false (some true)) (i0 + 1) ∧ Below w.heap.size w w2) := Lib.hid ⟨fun x h => by cases h; rfl, cs2, hk2, hB2⟩
      clear hk2 hg2 hB2 p0 HR
      go_wp2
      go_roundw
      case rel => exact ⟨i0 + 1, some ⟨1, y, z⟩, some true, by omega, by go_num, rfl, rfl, HN⟩
      case measure => simp [intOf]; omega
    · obtain rfl : i0 = m := by omega
      have hiI : ¬ (i0 : Int) < (i0 : Int) := by omega
      rcases last with _ | _
      · have H3 : Hid ((∀ x, cc = some x → x.y = y) ∧ ∃ cs, KvAt wr g 59 cs (lastS n y cc false a) (i0 + 1) ∧ Below w.heap.size w wr) := Lib.hid (by
          obtain ⟨h1, cs', h2, h3⟩ := HR.out; exact ⟨h1, cs', h2.more (Nat.le_succ _), h3⟩)
        clear HR
        go_wp2_with fail
        obtain ⟨hcc, cs3, hk3, hb3⟩ := H3.out
        have hr : Calls _ _ _ _ _ := get_any g _ cs3 (lastS n y cc false a) (i0 + 1) n y wr hk3 (by omega) Hn.out Hy.out
        rw [get_last2 HH.out.1 HH.out.2 cc hcc a] at hr
        obtain ⟨ag, hag⟩ : ∃ ag, ag = some (a.getD false) := ⟨_, rfl⟩
        rw [← hag] at hr

        have HCg := Lib.hid hr
        have HBg := Lib.hid hb3
        have HCC := Lib.hid hcc
        clear hr hk3 hb3 H3 hag hcc
        refine HCg.out.mono ?_
        rintro e w4 ⟨rfl, ⟨⟨cs4, hk4, _⟩, hg4⟩⟩
        have hB4 := HBg.out.grown hg4 HBg.out.size (fun r e => by cases e; have := HG.out; omega)
        obtain ⟨l, S', hp, hl1, hSB, hval⟩ := last_tail HH.out.1 HH.out.2 cc HCC.out ag
        have hr := prep_any g _ cs4 (lastS n y cc false ag) (i0 + 1) n w4 hk4 (by omega) Hn.out
        rw [hp] at hr
        have HCp := Lib.hid hr
        have HBp := Lib.hid hB4
        have HL := Lib.hid (And.intro hl1 hval)
        clear hr hk4 hg4 hB4 hp hl1 hSB hval
        go_wp2_with fail
        refine HCp.out.mono ?_
        rintro e w5 ⟨⟨A5, q5, c5, rfl, hq5, _⟩, ⟨⟨cs5, hk5, _⟩, hg5⟩⟩
        have hB5 := HBp.out.grown hg5 HBp.out.size (fun r e => by cases e; have := HG.out; omega)
        have hr := commit_any g _ cs5 S' (i0 + 1 + 1) n w5 hk5 (by omega) Hn.out
        have hc0 : (commitM S' n).1 = 0 := by unfold commitM; rw [if_neg (by have := HH.out.1; omega)]
        rw [hc0] at hr
        have HCc := Lib.hid hr
        have HBc := Lib.hid hB5
        have hq51 : (q5 : Int) ≤ 1 := by have := HL.out.1; have : q5 = l.length := hq5; omega
        clear hr hk5 hg5 hB5 hc0 hq5
        go_wp2_with fail
        refine HCc.out.mono ?_
        rintro e w6 ⟨rfl, ⟨⟨cs6, hk6, _⟩, hg6⟩⟩
        have hB6 := HBc.out.grown hg6 HBc.out.size (fun r e => by cases e; have := HG.out; omega)
        have hr := value_any g _ cs6 (commitM S' n).2 (i0 + 1 + 1) y w6 hk6
        rw [HL.out.2] at hr

        have HCv := Lib.hid hr
        have HBv := Lib.hid hB6
        clear hr hk6 hg6 hB6
        go_wp2_with fail
        refine HCv.out.mono ?_
        rintro e w7 ⟨rfl, b7⟩
        have HB7 := Lib.hid (bt HBv.out b7)
        clear b7
        go_wp2_with fail
        refine (alive_any w7).mono ?_
        rintro e w8 ⟨rfl, b8⟩
        have hF := Lib.hid (bt HB7.out b8)
        clear b8
        go_wp2
        go_ret
        exact ⟨rfl, hF.out⟩
      · obtain ⟨hcc, cs', hk, hb⟩ := HR.out
        have hr := kdel_any g _ cs' (lastS n y cc false a) i0 n y wr hk (by omega) Hn.out Hy.out (fun _ _ => trivial)
        rw [change_last HH.out.1 HH.out.2 cc hcc a ⟨2, y, 0⟩ rfl] at hr
        have HC := Lib.hid hr
        have HB := Lib.hid hb
        clear hr hk hcc hb HR
        go_wp2_with fail
        refine HC.out.mono ?_
        rintro e w2 ⟨rfl, ⟨⟨cs2, hk2, _⟩, hg2⟩⟩
        have hB2 := HB.out.grown hg2 HB.out.size (fun r e => by cases e; have := HG.out; omega)
        obtain ⟨cd, hcd⟩ : ∃ cd : Option Ch, cd = some ⟨2, y, 0⟩ := ⟨_, rfl⟩
        obtain ⟨ad, had⟩ : ∃ ad : Option Bool, ad = some true := ⟨_, rfl⟩
        have H3 : Hid ((∀ x, cd = some x → x.y = y) ∧ ∃ cs, KvAt w2 g 59 cs (lastS n y cd false ad) (i0 + 1) ∧ Below w.heap.size w w2) := Lib.hid ⟨fun x h => by rw [hcd] at h; cases h; rfl, cs2, by rw [hcd, had]; exact hk2, hB2⟩
        have hwv : wantV cd = 0 := by rw [hcd]; rfl
        have hwt : wantT cd = false := by rw [hcd]; rfl
        have HWV := Lib.hid (And.intro hwv hwt)
        clear hk2 hg2 hB2 hcd had hwv hwt
        go_wp2_with fail
        obtain ⟨hcc, cs3, hk3, hb3⟩ := H3.out
        have hr := get_any g _ cs3 (lastS n y cd false ad) (i0 + 1) n y w2 hk3 (by omega) Hn.out Hy.out
        rw [get_last2 HH.out.1 HH.out.2 cd hcc ad] at hr
        obtain ⟨ag, hag⟩ : ∃ ag, ag = some (ad.getD false) := ⟨_, rfl⟩
        rw [← hag] at hr
        rw [HWV.out.1, HWV.out.2] at hr
        have HCg := Lib.hid hr
        have HBg := Lib.hid hb3
        have HCC := Lib.hid hcc
        clear hr hk3 hb3 H3 hag hcc
        refine HCg.out.mono ?_
        rintro e w4 ⟨rfl, ⟨⟨cs4, hk4, _⟩, hg4⟩⟩
        have hB4 := HBg.out.grown hg4 HBg.out.size (fun r e => by cases e; have := HG.out; omega)
        obtain ⟨l, S', hp, hl1, hSB, hval⟩ := last_tail HH.out.1 HH.out.2 cd HCC.out ag
        have hr := prep_any g _ cs4 (lastS n y cd false ag) (i0 + 1) n w4 hk4 (by omega) Hn.out
        rw [hp] at hr
        have HCp := Lib.hid hr
        have HBp := Lib.hid hB4
        have HL := Lib.hid (And.intro hl1 hval)
        clear hr hk4 hg4 hB4 hp hl1 hSB hval
        go_wp2_with fail
        refine HCp.out.mono ?_
        rintro e w5 ⟨⟨A5, q5, c5, rfl, hq5, _⟩, ⟨⟨cs5, hk5, _⟩, hg5⟩⟩
        have hB5 := HBp.out.grown hg5 HBp.out.size (fun r e => by cases e; have := HG.out; omega)
        have hr := commit_any g _ cs5 S' (i0 + 1 + 1) n w5 hk5 (by omega) Hn.out
        have hc0 : (commitM S' n).1 = 0 := by unfold commitM; rw [if_neg (by have := HH.out.1; omega)]
        rw [hc0] at hr
        have HCc := Lib.hid hr
        have HBc := Lib.hid hB5
        have hq51 : (q5 : Int) ≤ 1 := by have := HL.out.1; have : q5 = l.length := hq5; omega
        clear hr hk5 hg5 hB5 hc0 hq5
        go_wp2_with fail
        refine HCc.out.mono ?_
        rintro e w6 ⟨rfl, ⟨⟨cs6, hk6, _⟩, hg6⟩⟩
        have hB6 := HBc.out.grown hg6 HBc.out.size (fun r e => by cases e; have := HG.out; omega)
        have hr := value_any g _ cs6 (commitM S' n).2 (i0 + 1 + 1) y w6 hk6
        rw [HL.out.2] at hr
        rw [HWV.out.1, HWV.out.2] at hr
        have HCv := Lib.hid hr
        have HBv := Lib.hid hB6
        clear hr hk6 hg6 hB6
        go_wp2_with fail
        refine HCv.out.mono ?_
        rintro e w7 ⟨rfl, b7⟩
        have HB7 := Lib.hid (bt HBv.out b7)
        clear b7
        go_wp2_with fail
        refine (alive_any w7).mono ?_
        rintro e w8 ⟨rfl, b8⟩
        have hF := Lib.hid (bt HB7.out b8)
        clear b8
        go_wp2
        go_ret
        exact ⟨rfl, hF.out⟩
end Go.Proofs.Ytnpoicgincndkaa
