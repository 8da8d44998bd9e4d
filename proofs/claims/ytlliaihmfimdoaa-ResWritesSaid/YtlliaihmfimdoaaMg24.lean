/- Parts Sd Sh Si Sj of one proof. -/
import Derived.Test.YtlliaihmfimdoaaMg22
import Derived.Test.YtlliaihmfimdoaaMg23
import Derived.Lib.SliceRun
namespace Go.Proofs.Ytlliaihmfimdoaa.Re
open Go.RowKit Go.Maps Go.Deep Go.Proofs.Ytlliaihmfimdoaa
set_option linter.unusedVariables false
set_option linter.unusedSimpArgs false

def prepR (S : RS) (n : Int) : (List Ch × Int) × RS :=
  if openR S n ≠ 0 then (([], openR S n), S)
  else (((prepM S.K n).1.1 ++ (Qu.prepM S.Q n).1.1, 0), holdR ⟨(prepM S.K n).2, (Qu.prepM S.Q n).2, S.pr⟩ n ((prepM S.K n).1.1 ++ (Qu.prepM S.Q n).1.1).length)
theorem inl_kept {w w' : World} {g : Nat} {A : Option Addr} {B c : Nat} {l : List Ch} (h : OwnC w B A c l) (hg : w.grownBy w' (some g)) (hB : g < B) : InL w' A l := (h.kept hg (fun r e => by cases e; exact hB)).at_.inl
set_option maxRecDepth 100000 in
set_option maxHeartbeats 2000000 in
theorem resprep_any (g : Nat) (cs : Array Value) (S : RS) (N : Nat) (n : Int) (w : World) (h : ResAt w g cs S N) (hN : N < 200000) (hn : i64ok n) (hl : (prepM S.K n).1.1.length ≤ 400000 ∧ (Qu.prepM S.Q n).1.1.length ≤ 400000) :
    Calls Try.prog 13 #[.pointer (some ⟨g, 0, none⟩), .int .i64 n] w fun e w' => (∃ A q c, e = .returned (.tuple #[.slice A q c, .int .i64 (prepR S n).1.2]) ∧ q = (prepR S n).1.1.length ∧ OwnC w' w.heap.size A c (prepR S n).1.1) ∧ ResO w g (prepR S n).2 (N + 3) w' := by
  have HO := Lib.hid (resopen_any g cs S N n w h (by omega))
  obtain ⟨er, her⟩ : ∃ er, er = openR S n := ⟨_, rfl⟩
  rw [← her] at HO
  by_cases h0 : er = 0
  · have hM : prepR S n = (((prepM S.K n).1.1 ++ (Qu.prepM S.Q n).1.1, 0), holdR ⟨(prepM S.K n).2, (Qu.prepM S.Q n).2, S.pr⟩ n ((prepM S.K n).1.1 ++ (Qu.prepM S.Q n).1.1).length) := by unfold prepR; rw [if_neg (by rw [← her, h0]; simp)]
    rw [hM]
    subst h0
    have HP := Lib.hid (prep_any g 66 cs S.K N n w h.kv (by omega) hn)
    have HQ := Lib.hid (fun cs1 (w1 : World) (S1 : RS) (h1 : ResAt w1 g cs1 S1 (N + 1)) => Qu.prep_any g 34 66 cs1 S1.Q (N + 1) n w1 h1.qu (by omega) hn)
    obtain ⟨⟨⟨l1, e1⟩, rK⟩, hR1⟩ : ∃ R, R = prepM S.K n := ⟨_, rfl⟩
    obtain ⟨⟨⟨l2, e2⟩, rQ⟩, hR2⟩ : ∃ R, R = Qu.prepM S.Q n := ⟨_, rfl⟩
    rw [← hR1] at HP hl ⊢
    rw [← hR2] at hl ⊢
    dsimp only at HP hl ⊢
    have H := Lib.hid h
    have HR2 := Lib.hid hR2
    have HL := Lib.hid hl
    have hgl := h.lt
    have Hgl := Lib.hid hgl
    have Hn := Lib.hid hn
    clear h hM hR1 hR2 her hl hn hgl
    go_enter Try.func13, Try.ntmps13
    go_wp2_with fail
    refine HO.out.mono ?_
    rintro e w1 ⟨rfl, rfl⟩
    go_wp2_with fail
    refine HP.out.mono ?_
    rintro e w1 ⟨⟨A1, q1, c1, rfl, hq1, own1⟩, hk⟩
    obtain ⟨⟨cs1, h1⟩, hg1⟩ := H.out.kturn hk (Nat.le_succ _)
    have HQ1 := Lib.hid (HQ.out cs1 w1 _ h1)
    have H1 := Lib.hid (And.intro h1 (And.intro hg1 (And.intro own1 hq1)))
    clear hk h1 hg1 own1 hq1
    dsimp only at HQ1
    rw [← HR2.out] at HQ1
    dsimp only at HQ1
    go_wp2_with fail
    refine HQ1.out.mono ?_
    rintro e w2 ⟨⟨A2, q2, c2, rfl, hq2, own2⟩, hk⟩
    obtain ⟨h1, hg1, own1, hq1⟩ := H1.out
    obtain ⟨⟨cs2, h2⟩, hg2⟩ := h1.qturn hk (Nat.le_succ _)
    dsimp only at h2
    have i1 := inl_kept own1 hg2 Hgl.out
    have i2 := own2.at_.inl
    obtain ⟨w3, hw3⟩ : ∃ w3, w3 = w2.alloc (.cells #[.slice A1 q1 c1, .slice A2 q2 c2] 22) := ⟨_, rfl⟩
    have b3 : Below w2.heap.size w2 w3 := by rw [hw3]; exact ba _ _
    have k3 : Blk w3 w2.heap.size 22 #[.slice A1 q1 c1, .slice A2 q2 c2] := by rw [hw3]; exact Blk.new _ _ _
    have HC := Lib.hid (concat2 w2.heap.size A1 A2 l1 l2 q1 q2 c1 c2 (Lib.hid hq1) (Lib.hid hq2) w3 k3.lt (k3.cell 0) (k3.cell 1) (i1.below b3) (i2.below b3) (Lib.hid (by have := HL.out; omega)))
    have HW3 := Lib.hid hw3
    have H3 := Lib.hid (And.intro (h2.below b3) (And.intro ((hg1.trans hg2).trans (lbelow_grown b3 (some g))) (And.intro hq1 hq2)))
    clear hk h1 hg1 own1 hq1 hq2 own2 h2 hg2 i1 i2 hw3 b3 k3
    go_wp2_with fail
    rw [← HW3.out]
    refine HC.out.mono ?_
    rintro e w4 ⟨A, c, rfl, own4, b4⟩
    obtain ⟨h3, hg3, hq1, hq2⟩ := H3.out
    have h4 := h3.below b4
    have hg4 := hg3.trans (lbelow_grown b4 (some g))
    have HH := Lib.hid (hold_any g cs2 ⟨rK, rQ, S.pr⟩ (N + 2) n A (q1 + q2) c w4 h4 (by omega))
    have H4 := Lib.hid (And.intro hg4 (And.intro own4 (And.intro hg3 (show q1 + q2 = (l1 ++ l2).length by rw [List.length_append, ← hq1, ← hq2]))))
    clear h3 hg3 hq1 hq2 h4 hg4 own4 b4
    go_wp2_with fail
    refine HH.out.mono ?_
    rintro e w5 ⟨rfl, hO⟩
    obtain ⟨hg4, own4, hg3, hqq⟩ := H4.out
    have hs3 := hg3.size
    have hgl := Hgl.out
    have HX : Hid ((q1 + q2 = (l1 ++ l2).length ∧ OwnC w5 w.heap.size A c (l1 ++ l2)) ∧ ResO w g (holdR ⟨rK, rQ, S.pr⟩ n (l1 ++ l2).length) (N + 3) w5) := Lib.hid ⟨⟨hqq, (own4.kept hO.2 (fun r e => by cases e; omega)).less hs3⟩, by rw [← hqq]; exact ResO.from hg4 hO⟩
    clear hO hg4 own4 hg3 hqq hs3 hgl
    go_wp2
    go_ret2
    exact ⟨⟨A, q1 + q2, c, rfl, HX.out.1⟩, HX.out.2⟩
  · have hM : prepR S n = (([], er), S) := by unfold prepR; rw [if_pos (by rw [← her]; exact h0), her]
    rw [hM]
    have hb : (er != 0) = true := by simpa using h0
    have HX := Lib.hid (ResO.same (h.more (by omega : N ≤ N + 3)) (Below.refl _ _))
    clear h hM her hn hl h0
    go_enter Try.func13, Try.ntmps13
    go_wp2_with fail
    refine HO.out.mono ?_
    rintro e w1 ⟨rfl, rfl⟩
    go_wp2
    go_ret2
    exact ⟨⟨none, 0, 0, rfl, rfl, OwnC.nil _ _⟩, HX.out⟩
set_option maxRecDepth 100000 in
theorem read_one (A : Option Addr) (c : Nat) (w : World) : Calls Try.prog 7 #[.slice A 1 c] w fun e w' => e = .returned (.tuple #[.slice none 0 0, .int .i64 11]) ∧ Below w.heap.size w w' := by
  have b1 := ba w (.cells #[.slice none 0 0] 22)
  have k1 := Blk.new w 22 #[.slice none 0 0]
  have b2 := ba (w.alloc (.cells #[.slice none 0 0] 22)) (.cells #[.int .i64 11] 25)
  have k2 := Blk.new (w.alloc (.cells #[.slice none 0 0] 22)) 25 #[.int .i64 11]
  have r2 := (k1.below b2 k1.lt).cell 0
  have r3 := k2.cell 0
  simp only [List.getElem?_toArray, List.getElem?_cons_zero, World.size_alloc] at r2 r3
  have HB := Lib.hid (bt b1 b2)
  clear b1 k1 b2 k2
  go_enter Try.func7, Try.ntmps7
  go_wp2
  refine bodyPost_ret (by simp [results, Try.results7, go_sem, r2, r3]; try rfl) rfl ?_
  exact ⟨rfl, HB.out⟩
theorem aliveR : ∃ S1 S2 S3 S4, putR (RS.zero anyB) 1 3 9 = (0, S1) ∧ pushR S1 1 7 = (0, S2) ∧ prepR S2 1 = (([⟨1, 3, 9⟩, ⟨3, 0, 7⟩], 0), S3) ∧ pushR S3 1 8 = (7, S4) ∧ ((prepM S2.K 1).1.1.length ≤ 400000 ∧ (Qu.prepM S2.Q 1).1.1.length ≤ 400000) ∧ S1.Q.B = anyB ∧ S3.Q.B = anyB :=
  ⟨_, _, _, _, rfl, rfl, rfl, rfl, ⟨by decide, by decide⟩, rfl, rfl⟩
theorem eqC (k y : Int) (v : Nat) (w : World) : (binOp .eql 39 (.agg #[.int .i64 k, .int .i64 y, .int .u64 (v : Nat)]) (.agg #[.int .i64 k, .int .i64 y, .int .u64 (v : Nat)])).run Try.prog w = .ok (.bool true) w := by
  rw [run_eql_struct, run_equalIn_struct w 9999 39 _ _ (by kernel_rfl) (by kernel_rfl)]
  simp [Op.eqFields, Program.fieldsOf, Try.underlying39, go_sem]
set_option maxRecDepth 100000 in
set_option maxHeartbeats 1000000 in
theorem alive_any (w : World) : Calls Try.prog 4 #[] w fun e w' => e = .returned (.bool true) ∧ Below w.heap.size w w' := by
  obtain ⟨S1, S2, S3, S4, e1, e2, e3, e4, e5, e6, e7⟩ := aliveR
  have E := Lib.hid (And.intro e1 (And.intro e2 (And.intro e3 (And.intro e4 (And.intro e5 (And.intro e6 e7))))))
  clear e1 e2 e3 e4 e5 e6 e7
  obtain ⟨g, hg⟩ : ∃ g, g = w.heap.size := ⟨_, rfl⟩
  have HG := Lib.hid hg
  have q1 := fun w => eqC 1 3 9 w
  have q2 := fun w => eqC 3 0 7 w
  go_enter Try.func4, Try.ntmps4
  go_wp2_with fail
  refine (newres_any anyB w).mono ?_
  rintro e w1 ⟨rfl, ⟨cs0, h0⟩, b0⟩
  rw [← hg] at h0 ⊢
  have HP := resput_any g cs0 (RS.zero anyB) 0 1 3 9 w1 h0 (by omega) (small_ok 1 (by omega) (by omega)) (small_ok 3 (by omega) (by omega)) (fun b _ => trivial)
  rw [E.out.1] at HP
  have HP := Lib.hid HP
  have H0 := Lib.hid (And.intro h0 b0)
  clear h0 b0 hg
  go_wp2_with fail
  refine HP.out.mono ?_
  rintro e w2 ⟨rfl, ⟨cs1, h1⟩, g1⟩
  have HP2 := respush_any g cs1 S1 (0 + 1) 1 7 w2 h1 (by omega) (small_ok 1 (by omega) (by omega)) (fun b _ => by rw [E.out.2.2.2.2.2.1]; trivial)
  rw [E.out.2.1] at HP2
  have HP2 := Lib.hid HP2
  have H1 := Lib.hid g1
  clear h1 g1 HP
  go_wp2_with fail
  refine HP2.out.mono ?_
  rintro e w3 ⟨rfl, ⟨cs2, h2⟩, g2⟩
  have HP3 := resprep_any g cs2 S2 (0 + 1 + 1) 1 w3 h2 (by omega) (small_ok 1 (by omega) (by omega)) E.out.2.2.2.2.1
  rw [E.out.2.2.1] at HP3
  have HP3 := Lib.hid HP3
  have H2 := Lib.hid (And.intro g2 h2.lt)
  clear h2 g2 HP2
  go_wp2_with fail
  refine HP3.out.mono ?_
  rintro e w4 ⟨⟨A, q, c, rfl, hq, own⟩, ⟨cs3, h3⟩, g3⟩
  obtain rfl : q = 2 := hq
  have HP4 := respush_any g cs3 S3 (0 + 1 + 1 + 3) 1 8 w4 h3 (by omega) (small_ok 1 (by omega) (by omega)) (fun b _ => by rw [E.out.2.2.2.2.2.2]; trivial)
  rw [E.out.2.2.2.1] at HP4
  have HP4 := Lib.hid HP4
  have H3 := Lib.hid (And.intro g3 own)
  clear h3 g3 own HP3
  go_wp2_with fail
  refine HP4.out.mono ?_
  rintro e w5 ⟨rfl, ⟨cs4, h4⟩, g4⟩
  have own5 := H3.out.2.kept g4 (fun r e => by cases e; exact H2.out.2)
  have hbel : Below w.heap.size w w5 := by
    have hgs : w.heap.size ≤ g := by have := HG.out; omega
    have := (((H1.out.trans H2.out.1).trans H3.out.1).trans g4)
    exact H0.out.2.grown this H0.out.2.size (fun r e => by cases e; exact hgs)
  have HBe := Lib.hid hbel
  have HOw := Lib.hid own5
  clear h4 g4 own5 hbel HP4
  go_wp2_with fail
  refine (read_one _ _ _).mono ?_
  rintro e w7 ⟨rfl, b7⟩
  have b57 := bt (ba w5 (.cells #[.int .u8 1] 5)) b7
  have own7 : OwnC w7 w3.heap.size A c [⟨1, 3, 9⟩, ⟨3, 0, 7⟩] := HOw.out.kept (lbelow_grown b57 none) (fun r e => by cases e)
  obtain ⟨b, o, rfl, _, hc⟩ := own7.at_.inl (by decide)
  obtain ⟨x0, x1, x2⟩ := hc 0 (by decide)
  obtain ⟨y0, y1, y2⟩ := hc 1 (by decide)
  simp only [List.getElem_cons_zero, List.getElem_cons_succ, Nat.zero_mul, Nat.one_mul, Nat.add_zero] at x0 x1 x2 y0 y1 y2
  have HF := Lib.hid (bt HBe.out b57)
  clear own7 hc b57 b7
  go_wp2
  go_ret
  exact ⟨rfl, HF.out⟩
end Go.Proofs.Ytlliaihmfimdoaa.Re

namespace Go.Proofs.Ytlliaihmfimdoaa.Re
open Go.RowKit Go.Maps Go.Deep Go.Proofs.Ytlliaihmfimdoaa
set_option linter.unusedVariables false
set_option linter.unusedSimpArgs false

def delR (S : RS) (n y : Int) : Int × RS := if openR S n ≠ 0 then (openR S n, S) else ((changeM S.K n ⟨2, y, 0⟩).1, { S with K := (changeM S.K n ⟨2, y, 0⟩).2 })
def getR (S : RS) (n y : Int) : (Nat × Bool × Int) × RS := if openR S n ≠ 0 then ((0, false, openR S n), S) else ((getM S.K n y).1, { S with K := (getM S.K n y).2 })
def popR (S : RS) (n : Int) : (Nat × Int) × RS := if openR S n ≠ 0 then ((0, openR S n), S) else ((Qu.takeM S.Q n).1, { S with Q := (Qu.takeM S.Q n).2 })
end Go.Proofs.Ytlliaihmfimdoaa.Re

namespace Go.Proofs.Ytlliaihmfimdoaa.Re
open Go.RowKit Go.Maps Go.Deep Go.Proofs.Ytlliaihmfimdoaa
set_option linter.unusedVariables false
set_option linter.unusedSimpArgs false

def posZ (zs : List Int) (x : Int) : Nat := zs.findIdx fun z => decide (z = x)
def posJ (zs : List Int) (x : Int) : Int := if posZ zs x < zs.length then (posZ zs x : Nat) else -1
def lessZ (zs : List Int) (x : Int) : List Int := zs.filter fun z => decide (z ≠ x)
theorem lessZ_snoc (zs : List Int) (x : Int) (j : Nat) (h : j < zs.length) : lessZ (zs.take (j + 1)) x = if zs[j]'h = x then lessZ (zs.take j) x else lessZ (zs.take j) x ++ [zs[j]'h] := by
  unfold lessZ
  rw [List.take_add_one, List.getElem?_eq_getElem h, List.filter_append]
  split
  · rename_i h; simp [h]
  · rename_i h; simp [h]
theorem lessZ_all {zs : List Int} {x : Int} (h : ∀ z ∈ zs, z ≠ x) : lessZ zs x = zs := by
  unfold lessZ
  rw [List.filter_eq_self]
  intro z hz
  simpa using h z hz
/-- The state of slices.DeleteFunc's loop. -/
structure DS (w wr : World) (B : Nat) (b c n : Nat) (zs : List Int) (x : Int) (i j : Nat) (R : List Int) : Prop where
  len : R.length = n
  own : wr.ownsRow B 3 1 (.slice (some ⟨b, 0, none⟩) n c) n (zV R)
  tk : R.take i = lessZ (zs.take j) x
  dr : R.drop j = zs.drop j
  gr : w.grownBy wr (some b)
  ij : i < j
theorem DS.skip {w wr : World} {B b c n : Nat} {zs : List Int} {x : Int} {i j : Nat} {R : List Int} (h : DS w wr B b c n zs x i j R) (hj : j < zs.length) (e : zs[j]'hj = x) : DS w wr B b c n zs x i (j + 1) R :=
  ⟨h.len, h.own, by rw [lessZ_snoc zs x j hj, if_pos e]; exact h.tk, by
    have := congrArg (List.drop 1) h.dr
    rw [List.drop_drop, List.drop_drop] at this
    rw [Nat.add_comm j 1]; rw [Nat.add_comm] at this; exact this, h.gr, by have := h.ij; omega⟩
theorem DS.move {w wr : World} {B b c n : Nat} {zs : List Int} {x : Int} {i j : Nat} {R : List Int} (h : DS w wr B b c n zs x i j R) (hj : j < zs.length) (hn : n = zs.length) (hBw : B ≤ b) (e : zs[j]'hj ≠ x) : DS w (wr.setCell ⟨b, i, none⟩ (.int .i64 (zs[j]'hj))) B b c n zs x (i + 1) (j + 1) (R.set i (zs[j]'hj)) := by
  have st := h.own.stored i (.int .i64 (zs[j]'hj))
  have hij := h.ij
  have hl := h.len
  refine ⟨by rw [List.length_set]; exact h.len, ?_, ?_, ?_, h.gr.trans st.2, by omega⟩
  · have e2 : (zV R).set i (.int .i64 (zs[j]'hj)) = zV (R.set i (zs[j]'hj)) := by unfold zV; rw [List.map_set]
    rw [← e2]; exact st.1
  · rw [lessZ_snoc zs x j hj, if_neg e, ← h.tk]
    rw [List.take_add_one, List.getElem?_set_self (by omega), List.take_set_of_le (Nat.le_refl _)]
    rfl
  · have := congrArg (List.drop 1) h.dr
    rw [List.drop_drop, List.drop_drop] at this
    rw [List.drop_set_of_lt (by omega)]
    exact this
theorem lgrown_below' (w : World) (r : Option Nat) : w.grownBy w r := lbelow_grown (Below.refl _ _) r
theorem cell_kept {w w' : World} {b p i : Nat} {v : Value} (hg : w.grownBy w' (some b)) (hp : w.cell? ⟨p, i, none⟩ = some v) (hne : p ≠ b) : w'.cell? ⟨p, i, none⟩ = some v := by
  have hlt := World.block_lt_of_cell? _ _ hp
  have e := hg.block p hlt (fun e => hne (by injection e))
  unfold World.cell? at hp ⊢
  rw [e]; exact hp
theorem zV_get {R zs : List Int} {j : Nat} (h : R.drop j = zs.drop j) (hj : j < zs.length) : (zV R)[j]? = some (.int .i64 (zs[j]'hj)) := by
  have h0 := congrArg (fun l => l[0]?) h
  simp only [List.getElem?_drop, Nat.add_zero] at h0
  unfold zV
  rw [List.getElem?_map, h0, List.getElem?_eq_getElem hj]; rfl
theorem setCells_blk {g : Nat} {t : TypeId} : ∀ (vs : List Value) (o : Nat) (w : World) (cs : Array Value), Blk w g t cs → ∃ cs', Blk (w.setCells g o vs) g t cs' ∧ cs'.size = cs.size ∧ (∀ i, (i < o ∨ o + vs.length ≤ i) → cs'[i]? = cs[i]?) ∧ w.grownBy (w.setCells g o vs) (some g)
  | [], _, w, cs, h => ⟨cs, h, rfl, fun _ _ => rfl, lgrown_below' w _⟩
  | v :: r, o, w, cs, h => by
    obtain ⟨cs', h1, h2, h3, h4⟩ := setCells_blk r (o + 1) (w.setCell ⟨g, o, none⟩ v) _ (h.set_ o v)
    refine ⟨cs', h1, by rw [h2, Array.size_setIfInBounds], fun i hi => ?_, (lgrown_set w ⟨g, o, none⟩ v).trans h4⟩
    rw [h3 i (by simp at hi; omega), Array.getElem?_setIfInBounds_ne (by simp at hi; omega)]
theorem zero_z : ∀ w, (zeroValue 3).run Try.prog w = .ok (.int .i64 0) w := by
  obtain ⟨i0, hi, hz0, hz1, hz2⟩ := info_parts Try.infoZ
  intro w
  simp only [zeroValue, typeInfo]
  simp [hi, hz0]
end Go.Proofs.Ytlliaihmfimdoaa.Re

namespace Go.Proofs.Ytlliaihmfimdoaa.Re
open Go.RowKit Go.Maps Go.Deep Go.Proofs.Ytlliaihmfimdoaa
set_option linter.unusedVariables false
set_option linter.unusedSimpArgs false

def dropS (S : RS) (n : Int) : RS := { S with pr := lessZ S.pr n }
def commitR (S : RS) (n : Int) : Int × RS := if n < 1 then (1, S) else (0, dropS ⟨(commitM S.K n).2, (Qu.commitM S.Q n).2, S.pr⟩ n)
def backR (S : RS) (n : Int) : Int × RS := if n < 1 then (1, S) else (0, dropS ⟨(backoutM S.K n).2, (Qu.backM S.Q n).2, S.pr⟩ n)
end Go.Proofs.Ytlliaihmfimdoaa.Re
