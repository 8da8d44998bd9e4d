/- Parts Sd Sh Si Sj of one proof. -/
import Derived.Test.YtlliaihmfimdoaaGreatMg22
import Derived.Test.YtlliaihmfimdoaaGreatMg23
import Derived.Lib.SliceRun
namespace Go.Proofs.YtlliaihmfimdoaaGreat.Re
open Go.RowKit Go.Maps Go.Deep Go.Proofs.YtlliaihmfimdoaaGreat
set_option linter.unusedVariables false
set_option linter.unusedSimpArgs false

def prepR (S : RS) (n : Int) : (List Ch × Int) × RS :=
  if openR S n ≠ 0 then (([], openR S n), S)
  else (((prepM S.K n).1.1 ++ (Qu.prepM S.Q n).1.1, 0), holdR ⟨(prepM S.K n).2, (Qu.prepM S.Q n).2, S.pr⟩ n ((prepM S.K n).1.1 ++ (Qu.prepM S.Q n).1.1).length)
theorem inl_kept {w w' : World} {g : Nat} {A : Option Addr} {B c : Nat} {l : List Ch} (h : OwnC w B A c l) (hg : w.grownBy w' (some g)) (hB : g < B) : InL w' A l := (h.kept hg (fun r e => by cases e; exact hB)).at_.inl
set_option maxRecDepth 100000 in
set_option maxHeartbeats 2000000 in
theorem resprep_any (g : Nat) (cs : Array Value) (S : RS) (N : Nat) (n : Int) (w : World) (h : ResAt w g cs S N) (hN : N < 200000) (hn : i64ok n) (hl : (prepM S.K n).1.1.length ≤ 400000 ∧ (Qu.prepM S.Q n).1.1.length ≤ 400000) :
    Calls Tryz.prog 26 #[.pointer (some ⟨g, 0, none⟩), .int .i64 n] w fun e w' => (∃ A q c, e = .returned (.tuple #[.slice A q c, .int .i64 (prepR S n).1.2]) ∧ q = (prepR S n).1.1.length ∧ OwnC w' w.heap.size A c (prepR S n).1.1) ∧ ResO w g (prepR S n).2 (N + 3) w' := by
  have HO := Lib.hid (resopen_any g cs S N n w h (by omega))
  obtain ⟨er, her⟩ : ∃ er, er = openR S n := ⟨_, rfl⟩
  rw [← her] at HO
  by_cases h0 : er = 0
  · have hM : prepR S n = (((prepM S.K n).1.1 ++ (Qu.prepM S.Q n).1.1, 0), holdR ⟨(prepM S.K n).2, (Qu.prepM S.Q n).2, S.pr⟩ n ((prepM S.K n).1.1 ++ (Qu.prepM S.Q n).1.1).length) := by unfold prepR; rw [if_neg (by rw [← her, h0]; simp)]
    rw [hM]
    subst h0
    have HP := Lib.hid (prep_any g 102 cs S.K N n w h.kv (by omega) hn)
    have HQ := Lib.hid (fun cs1 (w1 : World) (S1 : RS) (h1 : ResAt w1 g cs1 S1 (N + 1)) => Qu.prep_any g 34 102 cs1 S1.Q (N + 1) n w1 h1.qu (by omega) hn)
    obtain ⟨⟨⟨l1, e1⟩, rK⟩, hR1⟩ : ∃ R, R = prepM S.K n := ⟨_, rfl⟩
    obtain ⟨⟨⟨l2, e2⟩, rQ⟩, hR2⟩ : ∃ R, R = Qu.prepM S.Q n := ⟨_, rfl⟩
    rw [← hR1] at HP hl ⊢
    rw [← hR2] at hl ⊢
    dsimp only at HP hl ⊢
    have H := Lib.hid h
    have HR2 := Lib.hid hR2
    have HL := Lib.hid hl
    have hgl := h.lt
    have Hgl := Lib.hid hgl
    have Hn := Lib.hid hn
    clear h hM hR1 hR2 her hl hn hgl
    go_enter Tryz.func26, Tryz.ntmps26
    go_wp2_with fail
    refine HO.out.mono ?_
    rintro e w1 ⟨rfl, rfl⟩
    go_wp2_with fail
    refine HP.out.mono ?_
    rintro e w1 ⟨⟨A1, q1, c1, rfl, hq1, own1⟩, hk⟩
    obtain ⟨⟨cs1, h1⟩, hg1⟩ := H.out.kturn hk (Nat.le_succ _)
    have HQ1 := Lib.hid (HQ.out cs1 w1 _ h1)
    have H1 := Lib.hid (And.intro h1 (And.intro hg1 (And.intro own1 hq1)))
    clear hk h1 hg1 own1 hq1
    dsimp only at HQ1
    rw [← HR2.out] at HQ1
    dsimp only at HQ1
    go_wp2_with fail
    refine HQ1.out.mono ?_
    rintro e w2 ⟨⟨A2, q2, c2, rfl, hq2, own2⟩, hk⟩
    obtain ⟨h1, hg1, own1, hq1⟩ := H1.out
    obtain ⟨⟨cs2, h2⟩, hg2⟩ := h1.qturn hk (Nat.le_succ _)
    dsimp only at h2
    have i1 := inl_kept own1 hg2 Hgl.out
    have i2 := own2.at_.inl
    obtain ⟨w3, hw3⟩ : ∃ w3, w3 = w2.alloc (.cells #[.slice A1 q1 c1, .slice A2 q2 c2] 40) := ⟨_, rfl⟩
    have b3 : Below w2.heap.size w2 w3 := by rw [hw3]; exact ba _ _
    have k3 : Blk w3 w2.heap.size 40 #[.slice A1 q1 c1, .slice A2 q2 c2] := by rw [hw3]; exact Blk.new _ _ _
    have HC := Lib.hid (concat2 w2.heap.size A1 A2 l1 l2 q1 q2 c1 c2 (Lib.hid hq1) (Lib.hid hq2) w3 k3.lt (k3.cell 0) (k3.cell 1) (i1.below b3) (i2.below b3) (Lib.hid (by have := HL.out; omega)))
    have HW3 := Lib.hid hw3
    have H3 := Lib.hid (And.intro (h2.below b3) (And.intro ((hg1.trans hg2).trans (lbelow_grown b3 (some g))) (And.intro hq1 hq2)))
    clear hk h1 hg1 own1 hq1 hq2 own2 h2 hg2 i1 i2 hw3 b3 k3
    go_wp2_with fail
    rw [← HW3.out]
    refine HC.out.mono ?_
    rintro e w4 ⟨A, c, rfl, own4, b4⟩
    obtain ⟨h3, hg3, hq1, hq2⟩ := H3.out
    have h4 := h3.below b4
    have hg4 := hg3.trans (lbelow_grown b4 (some g))
    have HH := Lib.hid (hold_any g cs2 ⟨rK, rQ, S.pr⟩ (N + 2) n A (q1 + q2) c w4 h4 (by omega))
    have H4 := Lib.hid (And.intro hg4 (And.intro own4 (And.intro hg3 (show q1 + q2 = (l1 ++ l2).length by rw [List.length_append, ← hq1, ← hq2]))))
    clear h3 hg3 hq1 hq2 h4 hg4 own4 b4
    go_wp2_with fail
    refine HH.out.mono ?_
    rintro e w5 ⟨rfl, hO⟩
    obtain ⟨hg4, own4, hg3, hqq⟩ := H4.out
    have hs3 := hg3.size
    have hgl := Hgl.out
    have HX : Hid ((q1 + q2 = (l1 ++ l2).length ∧ OwnC w5 w.heap.size A c (l1 ++ l2)) ∧ ResO w g (holdR ⟨rK, rQ, S.pr⟩ n (l1 ++ l2).length) (N + 3) w5) := Lib.hid ⟨⟨hqq, (own4.kept hO.2 (fun r e => by cases e; omega)).less hs3⟩, by rw [← hqq]; exact ResO.from hg4 hO⟩
    clear hO hg4 own4 hg3 hqq hs3 hgl
    go_wp2
    go_ret2
    exact ⟨⟨A, q1 + q2, c, rfl, HX.out.1⟩, HX.out.2⟩
  · have hM : prepR S n = (([], er), S) := by unfold prepR; rw [if_pos (by rw [← her]; exact h0), her]
    rw [hM]
    have hb : (er != 0) = true := by simpa using h0
    have HX := Lib.hid (ResO.same (h.more (by omega : N ≤ N + 3)) (Below.refl _ _))
    clear h hM her hn hl h0
    go_enter Tryz.func26, Tryz.ntmps26
    go_wp2_with fail
    refine HO.out.mono ?_
    rintro e w1 ⟨rfl, rfl⟩
    go_wp2
    go_ret2
    exact ⟨⟨none, 0, 0, rfl, rfl, OwnC.nil _ _⟩, HX.out⟩
set_option maxRecDepth 100000 in
theorem read_one (A : Option Addr) (c : Nat) (w : World) : Calls Tryz.prog 23 #[.slice A 1 c] w fun e w' => e = .returned (.tuple #[.slice none 0 0, .int .i64 11]) ∧ Below w.heap.size w w' := by
  have b1 := ba w (.cells #[.slice none 0 0] 40)
  have k1 := Blk.new w 40 #[.slice none 0 0]
  have b2 := ba (w.alloc (.cells #[.slice none 0 0] 40)) (.cells #[.int .i64 11] 45)
  have k2 := Blk.new (w.alloc (.cells #[.slice none 0 0] 40)) 45 #[.int .i64 11]
  have r2 := (k1.below b2 k1.lt).cell 0
  have r3 := k2.cell 0
  simp only [List.getElem?_toArray, List.getElem?_cons_zero, World.size_alloc] at r2 r3
  have HB := Lib.hid (bt b1 b2)
  clear b1 k1 b2 k2
  go_enter Tryz.func23, Tryz.ntmps23
  go_wp2
  refine bodyPost_ret (by simp [results, Tryz.results23, go_sem, r2, r3]; try rfl) rfl ?_
  exact ⟨rfl, HB.out⟩
theorem aliveR : ∃ S1 S2 S3 S4, putR (RS.zero anyB) 1 3 9 = (0, S1) ∧ pushR S1 1 7 = (0, S2) ∧ prepR S2 1 = (([⟨1, 3, 9⟩, ⟨3, 0, 7⟩], 0), S3) ∧ pushR S3 1 8 = (7, S4) ∧ ((prepM S2.K 1).1.1.length ≤ 400000 ∧ (Qu.prepM S2.Q 1).1.1.length ≤ 400000) ∧ S1.Q.B = anyB ∧ S3.Q.B = anyB :=
  ⟨_, _, _, _, rfl, rfl, rfl, rfl, ⟨by decide, by decide⟩, rfl, rfl⟩
theorem eqC (k y : Int) (v : Nat) (w : World) : (binOp .eql 74 (.agg #[.int .i64 k, .int .i64 y, .int .u64 (v : Nat)]) (.agg #[.int .i64 k, .int .i64 y, .int .u64 (v : Nat)])).run Tryz.prog w = .ok (.bool true) w := by
  rw [run_eql_struct, run_equalIn_struct w 9999 74 _ _ (by kernel_rfl) (by kernel_rfl)]
  simp [Op.eqFields, Program.fieldsOf, Tryz.underlying74, go_sem]
set_option maxRecDepth 100000 in
set_option maxHeartbeats 1000000 in
theorem alive_any (w : World) : Calls Tryz.prog 10 #[] w fun e w' => e = .returned (.bool true) ∧ Below w.heap.size w w' := by
  obtain ⟨S1, S2, S3, S4, e1, e2, e3, e4, e5, e6, e7⟩ := aliveR
  have E := Lib.hid (And.intro e1 (And.intro e2 (And.intro e3 (And.intro e4 (And.intro e5 (And.intro e6 e7))))))
  clear e1 e2 e3 e4 e5 e6 e7
  obtain ⟨g, hg⟩ : ∃ g, g = w.heap.size := ⟨_, rfl⟩
  have HG := Lib.hid hg
  have q1 := fun w => eqC 1 3 9 w
  have q2 := fun w => eqC 3 0 7 w
  go_enter Tryz.func10, Tryz.ntmps10
  go_wp2_with fail
  refine (newres_any anyB w).mono ?_
  rintro e w1 ⟨rfl, ⟨cs0, h0⟩, b0⟩
  rw [← hg] at h0 ⊢
  have HP := resput_any g cs0 (RS.zero anyB) 0 1 3 9 w1 h0 (by omega) (small_ok 1 (by omega) (by omega)) (small_ok 3 (by omega) (by omega)) (fun b _ => trivial)
  rw [E.out.1] at HP
  have HP := Lib.hid HP
  have H0 := Lib.hid (And.intro h0 b0)
  clear h0 b0 hg
  go_wp2_with fail
  refine HP.out.mono ?_
  rintro e w2 ⟨rfl, ⟨cs1, h1⟩, g1⟩
  have HP2 := respush_any g cs1 S1 (0 + 1) 1 7 w2 h1 (by omega) (small_ok 1 (by omega) (by omega)) (fun b _ => by rw [E.out.2.2.2.2.2.1]; trivial)
  rw [E.out.2.1] at HP2
  have HP2 := Lib.hid HP2
  have H1 := Lib.hid g1
  clear h1 g1 HP
  go_wp2_with fail
  refine HP2.out.mono ?_
  rintro e w3 ⟨rfl, ⟨cs2, h2⟩, g2⟩
  have HP3 := resprep_any g cs2 S2 (0 + 1 + 1) 1 w3 h2 (by omega) (small_ok 1 (by omega) (by omega)) E.out.2.2.2.2.1
  rw [E.out.2.2.1] at HP3
  have HP3 := Lib.hid HP3
  have H2 := Lib.hid (And.intro g2 h2.lt)
  clear h2 g2 HP2
  go_wp2_with fail
  refine HP3.out.mono ?_
  rintro e w4 ⟨⟨A, q, c, rfl, hq, own⟩, ⟨cs3, h3⟩, g3⟩
  obtain rfl : q = 2 := hq
  have HP4 := respush_any g cs3 S3 (0 + 1 + 1 + 3) 1 8 w4 h3 (by omega) (small_ok 1 (by omega) (by omega)) (fun b _ => by rw [E.out.2.2.2.2.2.2]; trivial)
  rw [E.out.2.2.2.1] at HP4
  have HP4 := Lib.hid HP4
  have H3 := Lib.hid (And.intro g3 own)
  clear h3 g3 own HP3
  go_wp2_with fail
  refine HP4.out.mono ?_
  rintro e w5 ⟨rfl, ⟨cs4, h4⟩, g4⟩
  have own5 := H3.out.2.kept g4 (fun r e => by cases e; exact H2.out.2)
  have hbel : Below w.heap.size w w5 := by
    have hgs : w.heap.size ≤ g := by have := HG.out; omega
    have := (((H1.out.trans H2.out.1).trans H3.out.1).trans g4)
    exact H0.out.2.grown this H0.out.2.size (fun r e => by cases e; exact hgs)
  have HBe := Lib.hid hbel
  have HOw := Lib.hid own5
  clear h4 g4 own5 hbel HP4
  go_wp2_with fail
  refine (read_one _ _ _).mono ?_
  rintro e w7 ⟨rfl, b7⟩
  have b57 := bt (ba w5 (.cells #[.int .u8 1] 5)) b7
  have own7 : OwnC w7 w3.heap.size A c [⟨1, 3, 9⟩, ⟨3, 0, 7⟩] := HOw.out.kept (lbelow_grown b57 none) (fun r e => by cases e)
  obtain ⟨b, o, rfl, _, hc⟩ := own7.at_.inl (by decide)
  obtain ⟨x0, x1, x2⟩ := hc 0 (by decide)
  obtain ⟨y0, y1, y2⟩ := hc 1 (by decide)
  simp only [List.getElem_cons_zero, List.getElem_cons_succ, Nat.zero_mul, Nat.one_mul, Nat.add_zero] at x0 x1 x2 y0 y1 y2
  have HF := Lib.hid (bt HBe.out b57)
  clear own7 hc b57 b7
  go_wp2
  go_ret
  exact ⟨rfl, HF.out⟩
end Go.Proofs.YtlliaihmfimdoaaGreat.Re

namespace Go.Proofs.YtlliaihmfimdoaaGreat.Re
open Go.RowKit Go.Maps Go.Deep Go.Proofs.YtlliaihmfimdoaaGreat
set_option linter.unusedVariables false
set_option linter.unusedSimpArgs false

def delR (S : RS) (n y : Int) : Int × RS := if openR S n ≠ 0 then (openR S n, S) else ((changeM S.K n ⟨2, y, 0⟩).1, { S with K := (changeM S.K n ⟨2, y, 0⟩).2 })
set_option maxRecDepth 100000 in
set_option maxHeartbeats 1000000 in
theorem resdel_any (g : Nat) (cs : Array Value) (S : RS) (N : Nat) (n y : Int) (w : World) (h : ResAt w g cs S N) (hN : N < 300000) (hn : i64ok n) (hy : i64ok y) (hB : ∀ b, w.heap.size ≤ b → S.K.B b) :
    Calls Tryz.prog 33 #[.pointer (some ⟨g, 0, none⟩), .int .i64 n, .int .i64 y] w fun e w' => e = .returned (.int .i64 (delR S n y).1) ∧ ResO w g (delR S n y).2 (N + 1) w' := by
  have HO := Lib.hid (resopen_any g cs S N n w h (by omega))
  have HP := Lib.hid (kdel_any g 102 cs S.K N n y w h.kv hN hn hy hB)
  have H := Lib.hid h
  obtain ⟨er, her⟩ : ∃ er, er = openR S n := ⟨_, rfl⟩
  rw [← her] at HO
  by_cases h0 : er = 0
  · have hM : delR S n y = ((changeM S.K n ⟨2, y, 0⟩).1, { S with K := (changeM S.K n ⟨2, y, 0⟩).2 }) := by unfold delR; rw [if_neg (by rw [← her, h0]; simp)]
    rw [hM]
    subst h0
    obtain ⟨⟨re, rK⟩, hR⟩ : ∃ R, R = changeM S.K n ⟨2, y, 0⟩ := ⟨_, rfl⟩
    rw [← hR] at HP ⊢
    dsimp only at HP ⊢
    clear h hB hM hR her hn hy
    go_enter Tryz.func33, Tryz.ntmps33
    go_wp2_with fail
    refine HO.out.mono ?_
    rintro e w1 ⟨rfl, rfl⟩
    go_wp2_with fail
    refine HP.out.mono ?_
    rintro e w1 ⟨rfl, hk⟩
    have HX := Lib.hid (H.out.kturn hk (Nat.le_succ _))
    clear hk
    go_wp2
    go_ret
    exact ⟨rfl, HX.out⟩
  · have hM : delR S n y = (er, S) := by unfold delR; rw [if_pos (by rw [← her]; exact h0), her]
    rw [hM]
    have hb : (er != 0) = true := by simpa using h0
    have HX := Lib.hid (ResO.same (h.more (Nat.le_succ _)) (Below.refl _ _))
    clear h hB hM her hn hy h0
    go_enter Tryz.func33, Tryz.ntmps33
    go_wp2_with fail
    refine HO.out.mono ?_
    rintro e w1 ⟨rfl, rfl⟩
    go_wp2
    go_ret
    exact ⟨rfl, HX.out⟩
def getR (S : RS) (n y : Int) : (Nat × Bool × Int) × RS := if openR S n ≠ 0 then ((0, false, openR S n), S) else ((getM S.K n y).1, { S with K := (getM S.K n y).2 })
set_option maxRecDepth 100000 in
set_option maxHeartbeats 1000000 in
theorem resget_any (g : Nat) (cs : Array Value) (S : RS) (N : Nat) (n y : Int) (w : World) (h : ResAt w g cs S N) (hN : N < 300000) (hn : i64ok n) (hy : i64ok y) :
    Calls Tryz.prog 32 #[.pointer (some ⟨g, 0, none⟩), .int .i64 n, .int .i64 y] w fun e w' => e = .returned (.tuple #[.int .u64 ((getR S n y).1.1 : Nat), .bool (getR S n y).1.2.1, .int .i64 (getR S n y).1.2.2]) ∧ ResO w g (getR S n y).2 (N + 1) w' := by
  have HO := Lib.hid (resopen_any g cs S N n w h (by omega))
  have HP := Lib.hid (get_any g 102 cs S.K N n y w h.kv hN hn hy)
  have H := Lib.hid h
  obtain ⟨er, her⟩ : ∃ er, er = openR S n := ⟨_, rfl⟩
  rw [← her] at HO
  by_cases h0 : er = 0
  · have hM : getR S n y = ((getM S.K n y).1, { S with K := (getM S.K n y).2 }) := by unfold getR; rw [if_neg (by rw [← her, h0]; simp)]
    rw [hM]
    subst h0
    obtain ⟨⟨⟨rv, rt, re⟩, rK⟩, hR⟩ : ∃ R, R = getM S.K n y := ⟨_, rfl⟩
    rw [← hR] at HP ⊢
    dsimp only at HP ⊢
    clear h hM hR her hn hy
    go_enter Tryz.func32, Tryz.ntmps32
    go_wp2_with fail
    refine HO.out.mono ?_
    rintro e w1 ⟨rfl, rfl⟩
    go_wp2_with fail
    refine HP.out.mono ?_
    rintro e w1 ⟨rfl, hk⟩
    obtain ⟨⟨cs2, hk2⟩, hg2⟩ := H.out.kturn hk (Nat.le_refl _)
    have HX : Hid (ResO w g { S with K := rK } (N + 1) w1) := Lib.hid ⟨⟨cs2, hk2.more (Nat.le_succ _)⟩, hg2⟩
    clear hk hk2 hg2
    go_wp2
    go_returns
    exact ⟨rfl, HX.out⟩
  · have hM : getR S n y = ((0, false, er), S) := by unfold getR; rw [if_pos (by rw [← her]; exact h0), her]
    rw [hM]
    have hb : (er != 0) = true := by simpa using h0
    have HX := Lib.hid (ResO.same (h.more (Nat.le_succ _)) (Below.refl _ _))
    clear h hM her hn hy h0
    go_enter Tryz.func32, Tryz.ntmps32
    go_wp2_with fail
    refine HO.out.mono ?_
    rintro e w1 ⟨rfl, rfl⟩
    go_wp2
    go_returns
    exact ⟨rfl, HX.out⟩
def popR (S : RS) (n : Int) : (Nat × Int) × RS := if openR S n ≠ 0 then ((0, openR S n), S) else ((Qu.takeM S.Q n).1, { S with Q := (Qu.takeM S.Q n).2 })
set_option maxRecDepth 100000 in
set_option maxHeartbeats 1000000 in
theorem respop_any (g : Nat) (cs : Array Value) (S : RS) (N : Nat) (n : Int) (w : World) (h : ResAt w g cs S N) (hN : N < 300000) (hn : i64ok n) (hB : ∀ b, w.heap.size ≤ b → S.Q.B b) :
    Calls Tryz.prog 34 #[.pointer (some ⟨g, 0, none⟩), .int .i64 n] w fun e w' => e = .returned (.tuple #[.int .u64 ((popR S n).1.1 : Nat), .int .i64 (popR S n).1.2]) ∧ ResO w g (popR S n).2 (N + 1) w' := by
  have HO := Lib.hid (resopen_any g cs S N n w h (by omega))
  have HP := Lib.hid (Qu.take_any g 34 102 cs S.Q N n w h.qu hN hn hB)
  have H := Lib.hid h
  obtain ⟨er, her⟩ : ∃ er, er = openR S n := ⟨_, rfl⟩
  rw [← her] at HO
  by_cases h0 : er = 0
  · have hM : popR S n = ((Qu.takeM S.Q n).1, { S with Q := (Qu.takeM S.Q n).2 }) := by unfold popR; rw [if_neg (by rw [← her, h0]; simp)]
    rw [hM]
    subst h0
    obtain ⟨⟨⟨rv, re⟩, rQ⟩, hR⟩ : ∃ R, R = Qu.takeM S.Q n := ⟨_, rfl⟩
    rw [← hR] at HP ⊢
    dsimp only at HP ⊢
    clear h hB hM hR her hn
    go_enter Tryz.func34, Tryz.ntmps34
    go_wp2_with fail
    refine HO.out.mono ?_
    rintro e w1 ⟨rfl, rfl⟩
    go_wp2_with fail
    refine HP.out.mono ?_
    rintro e w1 ⟨rfl, hk⟩
    have HX := Lib.hid (H.out.qturn hk (Nat.le_succ _))
    clear hk
    go_wp2
    go_returns
    exact ⟨rfl, HX.out⟩
  · have hM : popR S n = ((0, er), S) := by unfold popR; rw [if_pos (by rw [← her]; exact h0), her]
    rw [hM]
    have hb : (er != 0) = true := by simpa using h0
    have HX := Lib.hid (ResO.same (h.more (Nat.le_succ _)) (Below.refl _ _))
    clear h hB hM her hn h0
    go_enter Tryz.func34, Tryz.ntmps34
    go_wp2_with fail
    refine HO.out.mono ?_
    rintro e w1 ⟨rfl, rfl⟩
    go_wp2
    go_returns
    exact ⟨rfl, HX.out⟩
end Go.Proofs.YtlliaihmfimdoaaGreat.Re

namespace Go.Proofs.YtlliaihmfimdoaaGreat.Re
open Go.RowKit Go.Maps Go.Deep Go.Proofs.YtlliaihmfimdoaaGreat
set_option linter.unusedVariables false
set_option linter.unusedSimpArgs false

theorem drop1_any (z x : Int) (p : Nat) (w : World) (hp : w.cell? ⟨p, 0, none⟩ = some (.int .i64 x)) : Calls Tryz.prog 114 #[.int .i64 z, .pointer (some ⟨p, 0, none⟩)] w fun e w' => e = .returned (.bool (z == x)) ∧ w = w' := by
  go_enter Tryz.func114, Tryz.ntmps114
  go_wp2
  go_ret
  exact ⟨rfl, rfl⟩
def posZ (zs : List Int) (x : Int) : Nat := zs.findIdx fun z => decide (z = x)
def posJ (zs : List Int) (x : Int) : Int := if posZ zs x < zs.length then (posZ zs x : Nat) else -1
set_option maxRecDepth 100000 in
set_option maxHeartbeats 1000000 in
theorem zindexf_any (A : Option Addr) (zs : List Int) (n c p : Nat) (x : Int) (hn : Hid (n = zs.length)) (hm : n ≤ 1000000) (w : World) (h : IntAt w A zs) (hp : w.cell? ⟨p, 0, none⟩ = some (.int .i64 x)) :
    Calls Tryz.prog 146 #[.slice A n c, .func (.func 114) #[] #[.pointer (some ⟨p, 0, none⟩)]] w fun e w' => e = .returned (.int .i64 (posJ zs x)) ∧ w = w' := by
  have H := Lib.hid h
  have HP := Lib.hid (fun z => drop1_any z x p w hp)
  clear h hp
  go_enter Tryz.func146, Tryz.ntmps146
  go_wp2_with fail
  go_loopw [8] (fun i wr => ∃ (j : Nat), j ≤ n ∧ i = .int .i64 j ∧ Hid (∀ q, q < j → ∀ hq : q < zs.length, zs[q]'hq ≠ x) ∧ w = wr) (fun i _ => n - (intOf i).toNat)
  case atStart => exact ⟨0, Nat.zero_le _, rfl, Lib.hid (fun q hq => by omega), rfl⟩
  case round =>
    obtain ⟨j, hj, rfl, hno, rfl⟩ := hrel
    by_cases hjn : j < n
    · have hjI : (j : Int) < (n : Int) := by omega
      have hjl : j < zs.length := by rw [← hn.out]; exact hjn
      obtain ⟨b, o, rfl, _, hcs⟩ := H.out (by omega)
      have q0 := hcs j hjl
      obtain ⟨z, hz⟩ : ∃ z, z = zs[j]'hjl := ⟨_, rfl⟩
      rw [← hz] at q0
      have HX := Lib.hid (show ∃ hjl : j < zs.length, z = zs[j]'hjl from ⟨hjl, hz⟩)
      have HC := Lib.hid (HP.out z)
      clear hcs hz hjl
      rcases hxy : (z == x) with _ | _
      · rw [hxy] at HC
        have hno2 : Hid (∀ q, q < j + 1 → ∀ hq : q < zs.length, zs[q]'hq ≠ x) := Lib.hid fun q hq hql => by
          by_cases e : q = j
          · subst e
            obtain ⟨_, hz⟩ := HX.out
            rw [← hz]; simpa using hxy
          · exact hno.out q (by omega) hql
        go_wp2_with fail
        refine HC.out.mono ?_
        rintro e w2 ⟨rfl, rfl⟩
        go_wp2
        go_roundw
        case rel => exact ⟨j + 1, by omega, by go_num, hno2, by first | rfl | trivial⟩
        case measure => simp [intOf]; omega
      · rw [hxy] at HC
        have hpos : Hid (posJ zs x = (j : Int)) := Lib.hid (by
          obtain ⟨hjl, hz⟩ := HX.out
          have e : posZ zs x = j := by
            unfold posZ
            rw [List.findIdx_eq hjl]
            refine ⟨by rw [← hz]; simpa using hxy, fun q hq => by simpa using hno.out q hq (by omega)⟩
          unfold posJ
          rw [e, if_pos hjl])
        go_wp2_with fail
        refine HC.out.mono ?_
        rintro e w2 ⟨rfl, rfl⟩
        go_wp2
        go_ret
        exact ⟨by rw [hpos.out]; rfl, rfl⟩
    · obtain rfl : j = n := by omega
      have hjI : ¬ (j : Int) < (j : Int) := by omega
      have hpos : Hid (posJ zs x = -1) := Lib.hid (by
        have e : posZ zs x = zs.length := by
          unfold posZ
          rw [List.findIdx_eq_length]
          intro y hy
          obtain ⟨q, hq, rfl⟩ := List.mem_iff_getElem.1 hy
          simpa using hno.out q (by rw [hn.out]; exact hq) hq
        unfold posJ
        rw [e, if_neg (by omega)])
      go_wp2
      go_ret
      exact ⟨by rw [hpos.out]; rfl, rfl⟩
def lessZ (zs : List Int) (x : Int) : List Int := zs.filter fun z => decide (z ≠ x)
theorem lessZ_snoc (zs : List Int) (x : Int) (j : Nat) (h : j < zs.length) : lessZ (zs.take (j + 1)) x = if zs[j]'h = x then lessZ (zs.take j) x else lessZ (zs.take j) x ++ [zs[j]'h] := by
  unfold lessZ
  rw [List.take_add_one, List.getElem?_eq_getElem h, List.filter_append]
  split
  · rename_i h; simp [h]
  · rename_i h; simp [h]
theorem lessZ_all {zs : List Int} {x : Int} (h : ∀ z ∈ zs, z ≠ x) : lessZ zs x = zs := by
  unfold lessZ
  rw [List.filter_eq_self]
  intro z hz
  simpa using h z hz
/-- The state of slices.DeleteFunc's loop. -/
structure DS (w wr : World) (B : Nat) (b c n : Nat) (zs : List Int) (x : Int) (i j : Nat) (R : List Int) : Prop where
  len : R.length = n
  own : wr.ownsRow B 3 1 (.slice (some ⟨b, 0, none⟩) n c) n (zV R)
  tk : R.take i = lessZ (zs.take j) x
  dr : R.drop j = zs.drop j
  gr : w.grownBy wr (some b)
  ij : i < j
theorem DS.skip {w wr : World} {B b c n : Nat} {zs : List Int} {x : Int} {i j : Nat} {R : List Int} (h : DS w wr B b c n zs x i j R) (hj : j < zs.length) (e : zs[j]'hj = x) : DS w wr B b c n zs x i (j + 1) R :=
  ⟨h.len, h.own, by rw [lessZ_snoc zs x j hj, if_pos e]; exact h.tk, by
    have := congrArg (List.drop 1) h.dr
    rw [List.drop_drop, List.drop_drop] at this
    rw [Nat.add_comm j 1]; rw [Nat.add_comm] at this; exact this, h.gr, by have := h.ij; omega⟩
theorem DS.move {w wr : World} {B b c n : Nat} {zs : List Int} {x : Int} {i j : Nat} {R : List Int} (h : DS w wr B b c n zs x i j R) (hj : j < zs.length) (hn : n = zs.length) (hBw : B ≤ b) (e : zs[j]'hj ≠ x) : DS w (wr.setCell ⟨b, i, none⟩ (.int .i64 (zs[j]'hj))) B b c n zs x (i + 1) (j + 1) (R.set i (zs[j]'hj)) := by
  have st := h.own.stored i (.int .i64 (zs[j]'hj))
  have hij := h.ij
  have hl := h.len
  refine ⟨by rw [List.length_set]; exact h.len, ?_, ?_, ?_, h.gr.trans st.2, by omega⟩
  · have e2 : (zV R).set i (.int .i64 (zs[j]'hj)) = zV (R.set i (zs[j]'hj)) := by unfold zV; rw [List.map_set]
    rw [← e2]; exact st.1
  · rw [lessZ_snoc zs x j hj, if_neg e, ← h.tk]
    rw [List.take_add_one, List.getElem?_set_self (by omega), List.take_set_of_le (Nat.le_refl _)]
    rfl
  · have := congrArg (List.drop 1) h.dr
    rw [List.drop_drop, List.drop_drop] at this
    rw [List.drop_set_of_lt (by omega)]
    exact this
theorem lgrown_below' (w : World) (r : Option Nat) : w.grownBy w r := lbelow_grown (Below.refl _ _) r
theorem cell_kept {w w' : World} {b p i : Nat} {v : Value} (hg : w.grownBy w' (some b)) (hp : w.cell? ⟨p, i, none⟩ = some v) (hne : p ≠ b) : w'.cell? ⟨p, i, none⟩ = some v := by
  have hlt := World.block_lt_of_cell? _ _ hp
  have e := hg.block p hlt (fun e => hne (by injection e))
  unfold World.cell? at hp ⊢
  rw [e]; exact hp
theorem zV_get {R zs : List Int} {j : Nat} (h : R.drop j = zs.drop j) (hj : j < zs.length) : (zV R)[j]? = some (.int .i64 (zs[j]'hj)) := by
  have h0 := congrArg (fun l => l[0]?) h
  simp only [List.getElem?_drop, Nat.add_zero] at h0
  unfold zV
  rw [List.getElem?_map, h0, List.getElem?_eq_getElem hj]; rfl
theorem setCells_blk {g : Nat} {t : TypeId} : ∀ (vs : List Value) (o : Nat) (w : World) (cs : Array Value), Blk w g t cs → ∃ cs', Blk (w.setCells g o vs) g t cs' ∧ cs'.size = cs.size ∧ (∀ i, (i < o ∨ o + vs.length ≤ i) → cs'[i]? = cs[i]?) ∧ w.grownBy (w.setCells g o vs) (some g)
  | [], _, w, cs, h => ⟨cs, h, rfl, fun _ _ => rfl, lgrown_below' w _⟩
  | v :: r, o, w, cs, h => by
    obtain ⟨cs', h1, h2, h3, h4⟩ := setCells_blk r (o + 1) (w.setCell ⟨g, o, none⟩ v) _ (h.set_ o v)
    refine ⟨cs', h1, by rw [h2, Array.size_setIfInBounds], fun i hi => ?_, (lgrown_set w ⟨g, o, none⟩ v).trans h4⟩
    rw [h3 i (by simp at hi; omega), Array.getElem?_setIfInBounds_ne (by simp at hi; omega)]
theorem zero_z : ∀ w, (zeroValue 3).run Tryz.prog w = .ok (.int .i64 0) w := by
  obtain ⟨i0, hi, hz0, hz1, hz2⟩ := info_parts Tryz.infoZ
  intro w
  simp only [zeroValue, typeInfo]
  simp [hi, hz0]
set_option maxRecDepth 100000 in
set_option maxHeartbeats 1000000 in
theorem delete_any (B : Nat) (A : Option Addr) (zs : List Int) (n c p : Nat) (x : Int) (w : World) (hn : Hid (n = zs.length)) (hm : n ≤ 1000000) (own : OwnZ w B A c zs) (hp : w.cell? ⟨p, 0, none⟩ = some (.int .i64 x)) (hpB : p < B) :
    Calls Tryz.prog 113 #[.slice A n c, .func (.func 114) #[] #[.pointer (some ⟨p, 0, none⟩)]] w fun e w' => ∃ m, e = .returned (.slice A m c) ∧ m = (lessZ zs x).length ∧ OwnZ w' B A c (lessZ zs x) ∧ w.grownBy w' (blk A) := by
  have HF := Lib.hid (zindexf_any A zs n c p x hn hm w own.at_ hp)
  by_cases hpos : posZ zs x < zs.length
  · have hP : posJ zs x = (posZ zs x : Nat) := if_pos hpos
    rw [hP] at HF
    obtain ⟨i0, hi0⟩ : ∃ i0, i0 = posZ zs x := ⟨_, rfl⟩
    rw [← hi0] at HF hpos
    obtain ⟨b, cap, e⟩ := Joins.ownsRow_form own (by omega)
    cases e
    have hBb := (own.lt' b rfl).1
    have hcap := own.cap
    have hfx : zs[i0]'hpos = x := by
      have := List.findIdx_getElem (p := fun z : Int => decide (z = x)) (xs := zs) (w := by unfold posZ at hi0; rw [← hi0]; exact hpos)
      have h2 : zs[zs.findIdx fun z => decide (z = x)]'(by unfold posZ at hi0; rw [← hi0]; exact hpos) = x := by simpa using this
      unfold posZ at hi0
      subst hi0
      exact h2
    have hno : ∀ q (hq : q < zs.length), q < i0 → zs[q]'hq ≠ x := fun q hq hlt => by
      have := List.not_of_lt_findIdx (p := fun z : Int => decide (z = x)) (xs := zs) (i := q) (by unfold posZ at hi0; rw [← hi0]; exact hlt)
      simpa using this
    have hti : (zs.take i0).length = i0 := by rw [List.length_take]; omega
    have hI : Hid (∃ R, DS w w B b c n zs x i0 (i0 + 1) R) := Lib.hid ⟨zs, hn.out.symm, by rw [hn.out]; exact own, by
      rw [lessZ_snoc zs x i0 hpos, if_pos hfx, lessZ_all]
      intro z hz
      obtain ⟨q, hq, rfl⟩ := List.mem_iff_getElem.1 hz
      rw [List.getElem_take]
      exact hno q (by omega) (by omega), rfl, lgrown_below' _ _, by omega⟩
    have hin : i0 < n := by rw [hn.out]; exact hpos
    have hcn : n ≤ c ∧ c ≤ 9223372036854775807 := by rw [hn.out]; exact hcap
    have HP := Lib.hid (And.intro hp (And.intro hpB hBb))
    clear own hp hP hi0 hfx hno hti hpos hcap
    go_enter Tryz.func113, Tryz.ntmps113
    go_wp2_with fail
    refine HF.out.mono ?_
    rintro e w1 ⟨rfl, rfl⟩
    have hi1 : ((i0 : Int) == -1) = false := by simp
    go_wp2_with fail
    go_loopw [5, 6, 7] (fun iv jv vv wr => ∃ (i j : Nat) (v : Value), vv = v ∧ i < n ∧ j ≤ n ∧ iv = .int .i64 i ∧ jv = .int .i64 j ∧ Hid (∃ R, DS w wr B b c n zs x i j R)) (fun _ jv _ _ => n - (intOf jv).toNat)
    case atStart => exact ⟨i0, i0 + 1, _, rfl, hin, by omega, rfl, by go_num, hI⟩
    case round =>
      clear hI hi1 hin
      obtain ⟨i, j, v, rfl, hi, hj, rfl, rfl, HR⟩ := hrel
      by_cases hjn : j < n
      · have hjI : (j : Int) < (n : Int) := by omega
        obtain ⟨R, hR⟩ := HR.out
        have hjl : j < zs.length := by rw [← hn.out]; exact hjn
        have hcj := (hR.own.cellAt j (by omega)).trans (zV_get hR.dr hjl)
        have hci := hR.own.cellAt i (by omega)
        have hfi := hR.own.frozenAt i
        obtain ⟨u, hu⟩ : ∃ u, wr.cell? ⟨b, i, none⟩ = some u := by
          rw [hci]
          unfold zV
          rw [List.getElem?_map, List.getElem?_eq_getElem (by rw [hR.len]; exact hi)]
          exact ⟨_, rfl⟩
        have hpc := cell_kept hR.gr HP.out.1 (by have := HP.out.2; omega)
        have HD := Lib.hid (drop1_any (zs[j]'hjl) x p wr hpc)
        have hij := hR.ij
        by_cases e : zs[j]'hjl = x
        · have HN : Hid (∃ R, DS w wr B b c n zs x i (j + 1) R) := Lib.hid ⟨R, hR.skip hjl e⟩
          have hb : (zs[j]'hjl == x) = true := by simpa using e
          rw [hb] at HD
          generalize zs[j]'hjl = z at hcj HD
          clear hR hci hfi hu hpc e hb
          go_wp2_with fail
          refine HD.out.mono ?_
          rintro e w2 ⟨rfl, rfl⟩
          go_wp2
          go_roundw
          case rel => exact ⟨i, j + 1, _, rfl, hi, by omega, rfl, by go_num, HN⟩
          case measure => simp [intOf]; omega
        · have hmv := hR.move hjl hn.out HP.out.2.2 e
          have hb : (zs[j]'hjl == x) = false := by simpa using e
          rw [hb] at HD
          generalize zs[j]'hjl = z at hcj HD hmv
          have HN : Hid (∃ R, DS w (wr.setCell ⟨b, i, none⟩ (.int .i64 z)) B b c n zs x (i + 1) (j + 1) R) := Lib.hid ⟨_, hmv⟩
          clear hR hci hpc e hb hmv
          go_wp2_with fail
          refine HD.out.mono ?_
          rintro e w2 ⟨rfl, rfl⟩
          go_wp2
          go_roundw
          case rel => exact ⟨i + 1, j + 1, _, rfl, by omega, by omega, by go_num, by go_num, HN⟩
          case measure => simp [intOf]; omega
      · obtain rfl : j = n := by omega
        have hjI : ¬ (j : Int) < (j : Int) := by omega
        obtain ⟨R, hR⟩ := HR.out
        obtain ⟨cur, hcur⟩ : ∃ cur : Array Value, Blk wr b 3 cur ∧ cur.size = c * 1 ∧ cur.toList.take (j * 1) = zV R ∧ c ≤ maxLen := by
          rcases hR.own.2 with ⟨h1, _⟩ | ⟨g', cap', cur, h1, _, h2, _, h4, h5, h6⟩
          · cases h1
          · cases h1; exact ⟨cur, h2, h5, h6, h4⟩
        obtain ⟨kc, ksz, ktk, kmx⟩ := hcur
        obtain ⟨cs7, k7, s7, n7, g7⟩ := setCells_blk (List.replicate (j - i) (.int .i64 0)) i wr cur kc
        have hclear := fun ty => Lib.run_clear_slice (P := Tryz.prog) wr 100 3 ty (.int .i64 0) Tryz.underlying100 zero_z rfl rfl b i (j - i) (c - i) (by omega) (fun q hq => by
          rw [kc.cell (i + q), Array.getElem?_eq_getElem (by rw [ksz]; have := hcn.1; omega)]; rfl) (fun q hq => kc.frozen (i + q))
        obtain ⟨w7, hw7⟩ : ∃ w7, w7 = wr.setCells b i (List.replicate (j - i) (.int .i64 0)) := ⟨_, rfl⟩
        rw [← hw7] at hclear k7 g7
        have hless : lessZ zs x = R.take i := by rw [hR.tk, List.take_of_length_le (by rw [← hn.out]; exact Nat.le_refl _)]
        have hli : (lessZ zs x).length = i := by rw [hless, List.length_take, hR.len]; omega
        have HX : Hid (i = (lessZ zs x).length ∧ OwnZ w7 B (some ⟨b, 0, none⟩) c (lessZ zs x) ∧ w.grownBy w7 (blk (some (⟨b, 0, none⟩ : Addr)))) := Lib.hid (by
          refine ⟨hli.symm, ?_, hR.gr.trans g7⟩
          unfold OwnZ
          rw [hli]
          refine ⟨by unfold zV; rw [List.length_map, hli]; omega, .inr ⟨b, c, cs7, rfl, HP.out.2.2, k7, by have := hcn.1; omega, kmx, s7.trans ksz, ?_⟩⟩
          have e1 : cs7.toList.take (i * 1) = cur.toList.take (i * 1) := by
            refine List.ext_getElem? fun q => ?_
            rw [List.getElem?_take, List.getElem?_take]
            split
            · have := n7 q (.inl (by omega))
              simpa using this
            · rfl
          have e2 : cur.toList.take (i * 1) = (cur.toList.take (j * 1)).take (i * 1) := by rw [List.take_take]; congr 1; omega
          rw [e1, e2, ktk, hless]
          unfold zV
          rw [Nat.mul_one, List.map_take])
        have hij2 : ((j - i : Nat) : Int) ≤ 9223372036854775807 := by omega
        clear hR kc ksz ktk kmx k7 s7 n7 g7 hw7 hless hli HR
        go_wp2
        go_ret
        exact ⟨i, rfl, HX.out⟩
  · have hP : posJ zs x = -1 := if_neg hpos
    rw [hP] at HF
    have hall : lessZ zs x = zs := lessZ_all fun z hz e => hpos (by
      unfold posZ
      exact List.findIdx_lt_length_of_exists ⟨z, hz, by simpa using e⟩)
    rw [hall]
    have HX := Lib.hid (And.intro hn.out own)
    have Hgr := Lib.hid (lgrown_below' w (blk A))
    clear own hp hP hall
    go_enter Tryz.func113, Tryz.ntmps113
    go_wp2_with fail
    refine HF.out.mono ?_
    rintro e w1 ⟨rfl, rfl⟩
    go_wp2
    go_ret
    exact ⟨n, rfl, HX.out.1, HX.out.2, Hgr.out⟩
end Go.Proofs.YtlliaihmfimdoaaGreat.Re

namespace Go.Proofs.YtlliaihmfimdoaaGreat.Re
open Go.RowKit Go.Maps Go.Deep Go.Proofs.YtlliaihmfimdoaaGreat
set_option linter.unusedVariables false
set_option linter.unusedSimpArgs false

def dropS (S : RS) (n : Int) : RS := { S with pr := lessZ S.pr n }
set_option maxRecDepth 100000 in
set_option maxHeartbeats 1000000 in
theorem resdrop_any (g : Nat) (cs : Array Value) (S : RS) (N : Nat) (n : Int) (w : World) (h : ResAt w g cs S N) (hN : N < 300000) :
    Calls Tryz.prog 69 #[.pointer (some ⟨g, 0, none⟩), .int .i64 n] w fun e w' => e = .returned (.tuple #[]) ∧ ResO w g (dropS S n) N w' := by
  unfold dropS
  obtain ⟨PA, pn, pc, h1, h2, h3, h4, h5⟩ := h.pr
  have hsz : 37 < cs.size := by
    rcases Nat.lt_or_ge 37 cs.size with h | h
    · exact h
    · rw [Array.getElem?_eq_none h] at h1; cases h1
  obtain ⟨w1, hw1⟩ : ∃ w1, w1 = w.alloc (.cells #[.int .i64 n] 3) := ⟨_, rfl⟩
  have b1 : Below w.heap.size w w1 := by rw [hw1]; exact ba _ _
  obtain ⟨p, hp⟩ : ∃ p, p = w.heap.size := ⟨_, rfl⟩
  have kp : Blk w1 p 3 #[.int .i64 n] := by rw [hw1, hp]; exact Blk.new _ _ _
  have h1w := h.below b1
  have c37 := (h1w.kv.bk.cell 37).trans h1
  have hpn : pn ≤ 300000 := by have := h.ln; omega
  have HC := Lib.hid (zclone_any PA S.pr pn pc w1 (Lib.hid h2) (by omega) (h5.below b1))
  have H := Lib.hid (And.intro h (And.intro h2 (And.intro hsz (And.intro b1 (And.intro kp hp)))))
  have HW := Lib.hid hw1
  have Hp := Lib.hid hp
  rw [hw1] at c37
  clear h h1 h2 h3 h4 h5 hsz hw1 b1 hp kp h1w
  go_enter Tryz.func69, Tryz.ntmps69
  go_wp2_with fail
  rw [← HW.out, ← Hp.out]
  refine HC.out.mono ?_
  rintro e w2 ⟨A2, c2, rfl, own, b2⟩
  obtain ⟨h, h2, hsz, b1, kp, hp⟩ := H.out
  have kp2 := kp.below b2 kp.lt
  have HD := Lib.hid (delete_any w1.heap.size A2 S.pr pn c2 p n w2 (Lib.hid h2) (by omega) own (kp2.cell 0) kp.lt)
  have H2 := Lib.hid (And.intro b2 own)
  clear h h2 hsz b1 kp hp kp2 own b2
  go_wp2_with fail
  refine HD.out.mono ?_
  rintro e w3 ⟨m, rfl, hm, own3, hg3⟩
  obtain ⟨h, h2, hsz, b1, kp, hp⟩ := H.out
  obtain ⟨b2, own⟩ := H2.out
  have hs1 := b1.size
  have bel3 : Below w.heap.size w w3 := (bt b1 b2).grown hg3 (Nat.le_trans hs1 b2.size) (fun r e => Nat.le_trans hs1 (own.lt' r e).1)
  have h3 := h.below bel3
  have e37 : w3.cell? ⟨g, 37, none⟩ = some (.slice PA pn pc) := (bel3.cell (p := ⟨g, 37, none⟩) h.lt).trans (by
    have := (b1.cell (p := ⟨g, 37, none⟩) h.lt)
    rw [← HW.out] at c37
    rw [← this]; exact c37)
  have f37 := h3.kv.bk.frozen 37
  have hgs := lgrown_set w3 ⟨g, 37, none⟩ (.slice A2 m c2)
  have hcap := own3.cap
  have hlen : (lessZ S.pr n).length ≤ S.pr.length := List.length_filter_le _ _
  have hO := h3.pturn (pr' := lessZ S.pr n) (N' := N) hgs (A := A2) (n := m) (c := c2) (h3.kv.bk.set_ 37 _) hm ⟨by rw [hm]; exact hcap.1, hcap.2⟩ (own3.at_.kept hgs h3.kv.bk (by decide)) hsz ⟨Nat.le_refl _, Nat.le_trans hlen h.ln⟩
  have HX : Hid (ResO w g { S with pr := lessZ S.pr n } N (w3.setCell ⟨g, 37, none⟩ (.slice A2 m c2))) := Lib.hid (ResO.from (lbelow_grown bel3 _) hO)
  clear h h2 hsz b1 kp hp b2 own own3 hg3 bel3 h3 hgs hcap hlen hO hs1 hm c37
  go_wp2
  go_end0
  exact ⟨rfl, HX.out⟩
def commitR (S : RS) (n : Int) : Int × RS := if n < 1 then (1, S) else (0, dropS ⟨(commitM S.K n).2, (Qu.commitM S.Q n).2, S.pr⟩ n)
set_option maxRecDepth 100000 in
set_option maxHeartbeats 1000000 in
theorem rescommit_any (g : Nat) (cs : Array Value) (S : RS) (N : Nat) (n : Int) (w : World) (h : ResAt w g cs S N) (hok : Qu.QOk S.Q) (hN : N < 200000) (hn : i64ok n) :
    Calls Tryz.prog 27 #[.pointer (some ⟨g, 0, none⟩), .int .i64 n] w fun e w' => e = .returned (.int .i64 (commitR S n).1) ∧ ResO w g (commitR S n).2 (N + 2) w' := by
  have HNm := Lib.hid (resnames_any g n w)
  by_cases h1 : n < 1
  · have hM : commitR S n = (1, S) := if_pos h1
    rw [hM]
    rw [if_pos h1] at HNm
    have HX := Lib.hid (ResO.same (h.more (by omega : N ≤ N + 2)) (Below.refl _ _))
    clear h hM hn
    go_enter Tryz.func27, Tryz.ntmps27
    go_wp2_with fail
    refine HNm.out.mono ?_
    rintro e w1 ⟨rfl, rfl⟩
    go_wp2
    go_ret
    exact ⟨rfl, HX.out⟩
  · have hM : commitR S n = (0, dropS ⟨(commitM S.K n).2, (Qu.commitM S.Q n).2, S.pr⟩ n) := if_neg h1
    rw [hM]
    rw [if_neg h1] at HNm
    have HK := Lib.hid (commit_any g 102 cs S.K N n w h.kv (by omega) hn)
    have HQ := Lib.hid (fun cs1 (w1 : World) (S1 : RS) (h1 : ResAt w1 g cs1 S1 (N + 1)) (hq : S1.Q = S.Q) => Qu.commit_any g 34 102 cs1 S1.Q (N + 1) n w1 h1.qu (by rw [hq]; exact hok) (by omega) hn)
    obtain ⟨rK, hrK⟩ : ∃ rK, rK = (commitM S.K n).2 := ⟨_, rfl⟩
    obtain ⟨rQ, hrQ⟩ : ∃ rQ, rQ = (Qu.commitM S.Q n).2 := ⟨_, rfl⟩
    obtain ⟨eK, heK⟩ : ∃ eK, eK = (commitM S.K n).1 := ⟨_, rfl⟩
    obtain ⟨eQ, heQ⟩ : ∃ eQ, eQ = (Qu.commitM S.Q n).1 := ⟨_, rfl⟩
    rw [← hrK, ← heK] at HK
    rw [← hrK, ← hrQ]
    have HE := Lib.hid (And.intro hrQ heQ)
    have H := Lib.hid h
    have Hn := Lib.hid hn
    clear h hM hrK hrQ heK heQ hn
    go_enter Tryz.func27, Tryz.ntmps27
    go_wp2_with fail
    refine HNm.out.mono ?_
    rintro e w1 ⟨rfl, rfl⟩
    go_wp2_with fail
    refine HK.out.mono ?_
    rintro e w1 ⟨rfl, hk⟩
    obtain ⟨⟨cs1, k1⟩, g1⟩ := H.out.kturn hk (Nat.le_refl _)
    have HQ1 := HQ.out cs1 w1 _ (k1.more (Nat.le_succ _)) rfl
    dsimp only at HQ1
    rw [← HE.out.1, ← HE.out.2] at HQ1
    have HQ1 := Lib.hid HQ1
    have H1 := Lib.hid (And.intro (k1.more (Nat.le_succ N)) g1)
    clear hk k1 g1 HQ
    go_wp2_with fail
    refine HQ1.out.mono ?_
    rintro e w2 ⟨rfl, hk⟩
    obtain ⟨⟨cs2, k2⟩, g2⟩ := H1.out.1.qturn hk (by omega)
    have HD := Lib.hid (resdrop_any g cs2 _ _ n w2 k2 (by omega))
    have Hg := Lib.hid (H1.out.2.trans g2)
    clear hk k2 g2
    go_wp2_with fail
    refine HD.out.mono ?_
    rintro e w3 ⟨rfl, hO⟩
    obtain ⟨⟨cs3, k3⟩, g3⟩ := ResO.from Hg.out hO
    have HX : Hid (ResO w g (dropS ⟨rK, rQ, S.pr⟩ n) (N + 2) w3) := Lib.hid ⟨⟨cs3, k3.more (by omega)⟩, g3⟩
    clear hO k3 g3
    go_wp2
    go_ret
    exact ⟨rfl, HX.out⟩
def backR (S : RS) (n : Int) : Int × RS := if n < 1 then (1, S) else (0, dropS ⟨(backoutM S.K n).2, (Qu.backM S.Q n).2, S.pr⟩ n)
set_option maxRecDepth 100000 in
set_option maxHeartbeats 1000000 in
theorem resbackout_any (g : Nat) (cs : Array Value) (S : RS) (N : Nat) (n : Int) (w : World) (h : ResAt w g cs S N) (hN : N < 200000) (hn : i64ok n) :
    Calls Tryz.prog 31 #[.pointer (some ⟨g, 0, none⟩), .int .i64 n] w fun e w' => e = .returned (.int .i64 (backR S n).1) ∧ ResO w g (backR S n).2 (N + 2) w' := by
  have HNm := Lib.hid (resnames_any g n w)
  by_cases h1 : n < 1
  · have hM : backR S n = (1, S) := if_pos h1
    rw [hM]
    rw [if_pos h1] at HNm
    have HX := Lib.hid (ResO.same (h.more (by omega : N ≤ N + 2)) (Below.refl _ _))
    clear h hM hn
    go_enter Tryz.func31, Tryz.ntmps31
    go_wp2_with fail
    refine HNm.out.mono ?_
    rintro e w1 ⟨rfl, rfl⟩
    go_wp2
    go_ret
    exact ⟨rfl, HX.out⟩
  · have hM : backR S n = (0, dropS ⟨(backoutM S.K n).2, (Qu.backM S.Q n).2, S.pr⟩ n) := if_neg h1
    rw [hM]
    rw [if_neg h1] at HNm
    have HK := Lib.hid (backout_any g 102 cs S.K N n w h.kv hn)
    have HQ := Lib.hid (fun cs1 (w1 : World) (S1 : RS) (h1 : ResAt w1 g cs1 S1 (N + 1)) (hq : S1.Q = S.Q) => Qu.backout_any g 34 102 cs1 S1.Q (N + 1) n w1 h1.qu hn)
    obtain ⟨rK, hrK⟩ : ∃ rK, rK = (backoutM S.K n).2 := ⟨_, rfl⟩
    obtain ⟨rQ, hrQ⟩ : ∃ rQ, rQ = (Qu.backM S.Q n).2 := ⟨_, rfl⟩
    obtain ⟨eK, heK⟩ : ∃ eK, eK = (backoutM S.K n).1 := ⟨_, rfl⟩
    obtain ⟨eQ, heQ⟩ : ∃ eQ, eQ = (Qu.backM S.Q n).1 := ⟨_, rfl⟩
    rw [← hrK, ← heK] at HK
    rw [← hrK, ← hrQ]
    have HE := Lib.hid (And.intro hrQ heQ)
    have H := Lib.hid h
    have Hn := Lib.hid hn
    clear h hM hrK hrQ heK heQ hn
    go_enter Tryz.func31, Tryz.ntmps31
    go_wp2_with fail
    refine HNm.out.mono ?_
    rintro e w1 ⟨rfl, rfl⟩
    go_wp2_with fail
    refine HK.out.mono ?_
    rintro e w1 ⟨rfl, hk⟩
    obtain ⟨⟨cs1, k1⟩, g1⟩ := H.out.kturn hk (Nat.le_refl _)
    have HQ1 := HQ.out cs1 w1 _ (k1.more (Nat.le_succ _)) rfl
    dsimp only at HQ1
    rw [← HE.out.1, ← HE.out.2] at HQ1
    have HQ1 := Lib.hid HQ1
    have H1 := Lib.hid (And.intro (k1.more (Nat.le_succ N)) g1)
    clear hk k1 g1 HQ
    go_wp2_with fail
    refine HQ1.out.mono ?_
    rintro e w2 ⟨rfl, hk⟩
    obtain ⟨⟨cs2, k2⟩, g2⟩ := H1.out.1.qturn hk (by omega)
    have HD := Lib.hid (resdrop_any g cs2 _ _ n w2 k2 (by omega))
    have Hg := Lib.hid (H1.out.2.trans g2)
    clear hk k2 g2
    go_wp2_with fail
    refine HD.out.mono ?_
    rintro e w3 ⟨rfl, hO⟩
    obtain ⟨⟨cs3, k3⟩, g3⟩ := ResO.from Hg.out hO
    have HX : Hid (ResO w g (dropS ⟨rK, rQ, S.pr⟩ n) (N + 2) w3) := Lib.hid ⟨⟨cs3, k3.more (by omega)⟩, g3⟩
    clear hO k3 g3
    go_wp2
    go_ret
    exact ⟨rfl, HX.out⟩
end Go.Proofs.YtlliaihmfimdoaaGreat.Re
