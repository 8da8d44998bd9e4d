/- Parts Ci Cj Ck of one proof. -/
import Derived.Test.YtihchfjdgeehoaaMg21
namespace Go.Proofs.Ytihchfjdgeehoaa
open Go.RowKit Go.Maps Go.Joins Go.Deep
set_option linter.unusedVariables false
set_option linter.unusedSimpArgs false

theorem callM_len (S : KS) (o : OpV) (h : ∀ n, (curW S n).1.length ≤ 100) : (callM S o).1.2.2.1.length ≤ 100 := by
  unfold callM
  split
  · simp
  split
  · simp
  split
  · simp
  split
  · unfold prepM
    split
    · simp
    split
    · simp
    split
    · simp
    · exact h o.n
  split
  · simp
  split
  · simp
  split
  · simp
  · simp
set_option maxRecDepth 100000 in
set_option maxHeartbeats 4000000 in
theorem kvNobody_walk (o : OpV) (w : World) (hin : OpIn w o) :
    Calls Try.prog 4 #[o.val] w fun e w' => e = .returned (.bool true) ∧ Below w.heap.size w w' := by
  obtain ⟨ho, hq0, hL⟩ := hin
  obtain ⟨ov, hov⟩ : ∃ ov, ov = o := ⟨_, rfl⟩
  obtain ⟨k, n, y, v, A, l, c⟩ := o
  dsimp only at hL hq0
  show Calls Try.prog _ #[.agg #[.int .i64 k, .int .i64 n, .int .i64 y, .int .u64 (v : Nat), .slice A l.length c]] w _
  obtain ⟨q, hq⟩ : ∃ q, q = l.length := ⟨_, rfl⟩
  rw [← hq]
  obtain ⟨w1, hw1⟩ : ∃ w1, w1 = w.alloc (.cells #[.int .i64 k, .int .i64 n, .int .i64 y, .int .u64 (v : Nat), .slice A q c] 36) := ⟨_, rfl⟩
  have b1 : Below w.heap.size w w1 := by rw [hw1]; exact ba _ _
  have k1 : Blk w1 w.heap.size 36 #[.int .i64 k, .int .i64 n, .int .i64 y, .int .u64 (v : Nat), .slice A q c] := by rw [hw1]; exact Blk.new _ _ _
  obtain ⟨gO, hgO⟩ : ∃ gO, gO = w.heap.size := ⟨_, rfl⟩
  rw [← hgO] at k1
  have hval : ov.val = .agg #[.int .i64 k, .int .i64 n, .int .i64 y, .int .u64 (v : Nat), .slice A q c] := by rw [hov, hq]; rfl
  have hov2 : ov.k = k ∧ ov.l.length = q := by rw [hov, hq]; exact ⟨rfl, rfl⟩
  rw [← hov] at ho
  have hLv : InL w ov.A ov.l := by rw [hov]; exact hL
  have HA := Lib.hid (And.intro ho (And.intro hLv (And.intro hval hov2)))
  have HB1 := Lib.hid b1
  have HK1 := Lib.hid k1
  have HW := Lib.hid hw1
  have HgO := Lib.hid hgO
  have d0 := k1.cell 0
  have d4 := k1.cell 4
  simp only [List.getElem?_toArray, List.getElem?_cons_zero, List.getElem?_cons_succ] at d0 d4
  have hqm : (q : Int) ≤ 9223372036854775807 := by have := hq0; rw [← hq] at this; unfold maxLen at this; omega
  have hgd : (∃ x : World, x = w1 ∧ (decide (30 < (q : Int)) = true ∨ decide (k < 0) = true ∨ decide (6 < k) = true)) ∨ (decide (30 < (q : Int)) = false ∧ decide (k < 0) = false ∧ decide (6 < k) = false) := by
    by_cases h1 : 30 < (q : Int)
    · exact .inl ⟨w1, rfl, .inl (decide_eq_true h1)⟩
    · by_cases h2 : k < 0
      · exact .inl ⟨w1, rfl, .inr (.inl (decide_eq_true h2))⟩
      · by_cases h3 : 6 < k
        · exact .inl ⟨w1, rfl, .inr (.inr (decide_eq_true h3))⟩
        · exact .inr ⟨decide_eq_false h1, decide_eq_false h2, decide_eq_false h3⟩
  rw [hw1, hgO] at d0 d4
  clear hov hval hov2 ho hLv b1 k1 hw1 hgO hL hq0 hq
  rcases hgd with ⟨_, _, hbad⟩ | ⟨c1, c2, c3⟩
  · go_enter Try.func4, Try.ntmps4
    rcases c1 : decide (30 < (q : Int)) with _ | _
    · rcases c2 : decide (k < 0) with _ | _
      · rcases c3 : decide (6 < k) with _ | _
        · rw [c1, c2, c3] at hbad; simp at hbad
        · clear hbad
          go_wp2_with fail
          rw [← HW.out]
          refine (alive_any w1).mono ?_
          rintro e w2 ⟨rfl, b2⟩
          have HX := Lib.hid (bt HB1.out b2)
          clear b2
          go_wp2
          go_ret
          exact ⟨rfl, HX.out⟩
      · clear hbad
        go_wp2_with fail
        rw [← HW.out]
        refine (alive_any w1).mono ?_
        rintro e w2 ⟨rfl, b2⟩
        have HX := Lib.hid (bt HB1.out b2)
        clear b2
        go_wp2
        go_ret
        exact ⟨rfl, HX.out⟩
    · clear hbad
      go_wp2_with fail
      rw [← HW.out]
      refine (alive_any w1).mono ?_
      rintro e w2 ⟨rfl, b2⟩
      have HX := Lib.hid (bt HB1.out b2)
      clear b2
      go_wp2
      go_ret
      exact ⟨rfl, HX.out⟩
  · have hk0 : 0 ≤ k := by have := of_decide_eq_false c2; omega
    have hk6 : k ≤ 6 := by have := of_decide_eq_false c3; omega
    have hq30 : q ≤ 30 := by have := of_decide_eq_false c1; omega
    have HR := Lib.hid (And.intro hk0 (And.intro hk6 hq30))
    clear hk0 hk6 hq30
    -- the store that no call made
    obtain ⟨w2, hw2⟩ : ∃ w2, w2 = w1.alloc (.cells #[.int .u64 0, .bool false, .int .u64 0, .bool false, .int .u64 0, .bool false, .int .u64 0, .bool false, .int .u64 0, .bool false, .int .u64 0, .bool false, .int .u64 0, .bool false, .int .u64 0, .bool false, .int .u64 0, .bool false, .int .u64 0, .bool false, .int .u64 0, .bool false, .int .u64 0, .bool false, .int .u64 0, .bool false, .int .u64 0, .bool false, .int .u64 0, .bool false, .int .u64 0, .bool false, .map none, .map none] 59) := ⟨_, rfl⟩
    have b2 : Below w1.heap.size w1 w2 := by rw [hw2]; exact ba _ _
    have kz := KvAt.zero (fun _ => True) w1
    rw [← hw2] at kz
    obtain ⟨g, hg⟩ : ∃ g, g = w1.heap.size := ⟨_, rfl⟩
    rw [← hg] at kz
    have k2 := HK1.out.below b2 HK1.out.lt
    have dO := fun j => k2.cell j
    have e0 := dO 0
    have e1 := dO 1
    have e2 := dO 2
    have e3 := dO 3
    have e4 := dO 4
    simp only [List.getElem?_toArray, List.getElem?_cons_zero, List.getElem?_cons_succ] at e0 e1 e2 e3 e4
    have HN := call_nil ov w2 (by rw [HA.out.2.2.2.1]; exact HR.out.1) (by rw [HA.out.2.2.2.1]; exact HR.out.2.1) (by rw [HA.out.2.2.2.2]; exact HR.out.2.2) ((HA.out.2.1.below HB1.out).below b2)
    rw [HA.out.2.2.1] at HN
    have HN := Lib.hid HN
    have HK2 := Lib.hid (And.intro kz (And.intro b2 (And.intro k2 hg)))
    have HW2 := Lib.hid hw2
    have hgx : Hid (w.heap.size + 1 = g) := Lib.hid (by rw [hg, HW.out]; simp)
    rw [hw2, HW.out, HgO.out] at e0 e1 e2 e3 e4
    clear kz b2 k2 hw2 dO
    go_enter Try.func4, Try.ntmps4
    go_wp2_with fail
    rw [← HW.out, ← HW2.out]
    refine HN.out.mono ?_
    rintro e w3 ⟨rfl, b3⟩
    obtain ⟨kz, b2, k2, _⟩ := HK2.out
    have kz3 := kz.below b3
    have k3 := k2.below b3 k2.lt
    have B3 : Below w.heap.size w w3 := bt (bt HB1.out b2) b3
    have HC := call_any g 59 _ (KS.zero fun _ => True) 0 ov w3 kz3 (by omega) HA.out.1 (fun _ => by rw [HA.out.2.2.2.2]; exact HR.out.2.2) (HA.out.2.1.below B3) (fun b hb => trivial)
    rw [HA.out.2.2.1] at HC
    have HC := Lib.hid HC
    have m0 := k3.cell 0
    have m1 := k3.cell 1
    have m2 := k3.cell 2
    have m3 := k3.cell 3
    have m4 := k3.cell 4
    simp only [List.getElem?_toArray, List.getElem?_cons_zero, List.getElem?_cons_succ] at m0 m1 m2 m3 m4
    have H3 := Lib.hid (And.intro k3 (And.intro B3 (And.intro b2 (And.intro b3 kz3))))
    rw [HgO.out] at m0 m1 m2 m3 m4
    clear kz b2 k2 kz3 k3 B3 b3 e0 e1 e2 e3 e4 d0 d4 HN
    go_wp2_with fail
    rw [hgx.out]
    refine HC.out.mono ?_
    rintro e w4 ⟨A4, q4, c4, rfl, hq4, own4, ⟨⟨cs4, kv4, _⟩, hg4⟩⟩
    obtain ⟨k3, B3, b2, b3, kz3⟩ := H3.out
    have hgO1 : gO < g := by rw [hg]; exact HK1.out.lt
    have hgw : w.heap.size ≤ g := by rw [hg]; exact HB1.out.size
    have k4 : Blk w4 gO 36 _ := k3.kept hg4 (fun e => by injection e; omega)
    have B4 : Below w.heap.size w w4 := B3.grown hg4 B3.size (fun r e => by cases e; exact hgw)
    obtain ⟨x, hx⟩ : ∃ x, x = w4.heap.size := ⟨_, rfl⟩
    obtain ⟨w5, hw5⟩ : ∃ w5, w5 = w4.alloc (.cells #[.slice none 0 0, .slice none 0 0, .slice none 0 0] 32) := ⟨_, rfl⟩
    have b5 : Below w4.heap.size w4 w5 := by rw [hw5]; exact ba _ _
    have rz := RAt.zero w4 w.heap.size
    rw [← hw5, ← hx] at rz
    have kx : Blk w5 x 32 #[.slice none 0 0, .slice none 0 0, .slice none 0 0] := by rw [hw5, hx]; exact Blk.new _ _ _
    have k5 := k4.below b5 k4.lt
    have B5 := bt B4 b5
    have hxw : w.heap.size ≤ x := by rw [hx]; exact B4.size
    have HM := model_any w.heap.size x [] [] [] ov w5 rz B5.size (by simp) LOk.nil (fun a ha => nomatch ha) (fun y hy => nomatch hy) (Rel.zero (fun _ => True)).P (fun n ch hch => by unfold listW findW at hch; simp at hch) HA.out.1 (by rw [HA.out.2.2.2.2]; have := HR.out.2.2; omega) (fun u hu => HA.out.2.1.below (B5.grown hu B5.size (fun r e => by cases e; exact hxw)))
    rw [HA.out.2.2.1] at HM
    have HM := Lib.hid HM
    have m0' := k5.cell 0
    have m1' := k5.cell 1
    have m2' := k5.cell 2
    have m3' := k5.cell 3
    have m4' := k5.cell 4
    simp only [List.getElem?_toArray, List.getElem?_cons_zero, List.getElem?_cons_succ] at m0' m1' m2' m3' m4'
    have H5 := Lib.hid (And.intro k5 (And.intro B5 (And.intro kx (And.intro (own4.at_.below b5) (And.intro hxw (And.intro hq4 hx))))))
    have HW5 := Lib.hid hw5
    rw [hw5, HgO.out] at m0' m1' m2' m3' m4'
    clear m0 m1 m2 m3 m4 k3 B3 b2 b3 kz3 hgO1 hgw k4 B4 b5 rz kx k5 B5 hxw hw5 own4 kv4 hg4 hq4 HC
    go_wp2_with fail
    rw [← HW5.out, ← H5.out.2.2.2.2.2.2]
    refine HM.out.mono ?_
    rintro e w6 hm
    obtain ⟨A6, q6, c6, P6, ws6, rfl, hq6, own6, hR6, hrel6, hlen6, hg6, hA6⟩ := mdl_step (S := KS.zero fun _ => True) (Rel.zero _) HA.out.1 hm
    obtain ⟨k5, B5, kx, at5, hxw, hq4, hx⟩ := H5.out
    have at6 := at5.rg (w' := w6) hg6 kx (fun b hb ⟨y, hy, _⟩ => nomatch hy)
    have k6 : Blk w6 gO 36 _ := hg6.blk k5 (fun e => k5.ne kx (by decide) e) (by decide) (by decide) (fun e => absurd e (by decide))
    have B6 : Below w.heap.size w w6 := ⟨hg6.os.trans B5.os, hg6.tape.trans B5.tape, hg6.output.trans B5.output, Nat.le_trans B5.size hg6.size, fun j hj => (hg6.low j hj (Nat.lt_of_lt_of_le hj B5.size) (by omega)).trans (B5.block j hj)⟩
    have p0 := k6.cell 0
    have p1 := k6.cell 1
    have p2 := k6.cell 2
    have p3 := k6.cell 3
    have p4 := k6.cell 4
    simp only [List.getElem?_toArray, List.getElem?_cons_zero, List.getElem?_cons_succ] at p0 p1 p2 p3 p4
    have HV : Hid (∀ u, Below w6.heap.size w6 u → ∃ B' B'', ChAt u B' A4 (callM (KS.zero fun _ => True) ov).1.2.2.1 ∧ ChAt u B'' A6 (callM (KS.zero fun _ => True) ov).1.2.2.1) := Lib.hid (fun u hu => ⟨_, _, at6.below hu, own6.at_.below hu⟩)
    have H6 := Lib.hid (And.intro k6 (And.intro B6 (And.intro hq4 hq6)))
    obtain ⟨⟨rv, rt, rl, re⟩, hr⟩ : ∃ R, R = (callM (KS.zero fun _ => True) ov).1 := ⟨_, rfl⟩
    rw [← hr] at HV H6 ⊢
    dsimp only at HV H6 ⊢
    have hrl : q4 ≤ 1000000 := by
      have h1 := callM_len (KS.zero fun _ => True) ov (fun n => by unfold curW KS.zero; simp)
      rw [← hr] at h1
      have := H6.out.2.2.1
      dsimp only at h1
      omega
    clear hr hR6 hrel6 hlen6 hg6 hA6 own6 hq6 k5 B5 kx at5 hxw hq4 hx at6 k6 B6 m0' m1' m2' m3' m4' hm HM HC
    rw [HgO.out] at p0 p1 p2 p3 p4
    obtain rfl : q4 = q6 := H6.out.2.2.1.trans H6.out.2.2.2.symm
    go_wp2_with fail
    refine (value_nil y w6).mono ?_
    rintro e w7 ⟨rfl, rfl⟩
    go_wp2_with fail
    refine (alive_any w6).mono ?_
    rintro e w8 ⟨rfl, b8⟩
    obtain ⟨B', B'', v1, v2⟩ := HV.out w8 b8
    have HS := Lib.hid (same_any A4 A6 rl q4 c4 c6 w8 (Lib.hid H6.out.2.2.1) hrl v1 v2)
    have k8 := H6.out.1.below b8 H6.out.1.lt
    have B8 := bt H6.out.2.1 b8
    have H8 := Lib.hid (And.intro k8 B8)
    clear v1 v2 k8 B8 b8 p0 p1 p2 p3 p4
    go_wp2_with fail
    refine HS.out.mono ?_
    rintro e w9 ⟨rfl, b9⟩
    have k9 := H8.out.1.below b9 H8.out.1.lt
    have B9 := Lib.hid (bt H8.out.2 b9)
    have p1 := k9.cell 1
    simp only [List.getElem?_toArray, List.getElem?_cons_zero, List.getElem?_cons_succ] at p1
    rw [HgO.out] at p1
    clear k9 b9
    go_wp2_with fail
    refine (busy_nil n w9).mono ?_
    rintro e w10 ⟨rfl, rfl⟩
    go_wp2
    go_ret
    exact ⟨rfl, B9.out⟩
end Go.Proofs.Ytihchfjdgeehoaa

namespace Go.Proofs.Ytihchfjdgeehoaa
open Go.RowKit Go.Maps Go.Joins Go.Deep
set_option linter.unusedVariables false
set_option linter.unusedSimpArgs false

/-- Both stores hold the same, beside each other. -/
structure LvAt (w u : World) (g x : Nat) (S : KS) (P : List (Int × Nat)) (ws : List WI) (N : Nat) : Prop where
  kv : ∃ cs, KvAt u g 59 cs S N
  rt : RAt u w.heap.size x P ws S.L
  rl : Rel S P ws
  be : Below w.heap.size w u
  gx : w.heap.size ≤ g ∧ w.heap.size ≤ x
  b1 : ∀ b, S.B b → ∀ y ∈ ws, blk y.A ≠ some b
  b2 : ∀ b, u.heap.size ≤ b → S.B b
theorem Rel.base {S : KS} {P : List (Int × Nat)} {ws : List WI} (h : Rel S P ws) (B : Nat → Prop) : Rel { S with B := B } P ws := ⟨h.V, h.P, h.ok, h.nc, h.no, h.yes, h.ll⟩
theorem LvAt.below {w u u' : World} {g x N : Nat} {S : KS} {P : List (Int × Nat)} {ws : List WI} (h : LvAt w u g x S P ws N) (hb : Below u.heap.size u u') : LvAt w u' g x S P ws N :=
  ⟨h.kv.elim fun cs hk => ⟨cs, hk.below hb⟩, h.rt.below hb, h.rl, bt h.be hb, h.gx, h.b1, fun b hle => h.b2 b (Nat.le_trans hb.size hle)⟩
theorem LvAt.more {w u : World} {g x N N' : Nat} {S : KS} {P : List (Int × Nat)} {ws : List WI} (h : LvAt w u g x S P ws N) (hN : N ≤ N') : LvAt w u g x S P ws N' :=
  ⟨h.kv.elim fun cs hk => ⟨cs, hk.more hN⟩, h.rt, h.rl, h.be, h.gx, h.b1, h.b2⟩
/-- A row of one's own turns. -/
theorem LvAt.write {w u u' : World} {g x N ob : Nat} {S : KS} {P : List (Int × Nat)} {ws : List WI} {cur : Array Value} (h : LvAt w u g x S P ws N) (hg : u.grownBy u' (some ob)) (hk : Blk u ob 47 cur) (hS : ¬ S.B ob) (hws : ∀ y ∈ ws, blk y.A ≠ some ob) (hob : w.heap.size ≤ ob) : LvAt w u' g x S P ws N := by
  refine ⟨h.kv.elim fun cs hkv => ⟨cs, hkv.off hg (fun e => hkv.bk.ne hk (by decide) e) hk (fun b hb e => hS (e ▸ hb))⟩, h.rt.other hg hk (by decide) (by decide) (by decide) (by decide) (by decide) (fun _ => hws), h.rl, h.be.grown hg h.be.size (fun r e => by cases e; exact hob), h.gx, h.b1, fun b hle => h.b2 b (Nat.le_trans hg.size hle)⟩
/-- Behind the program's call, ahead of the document's. -/
structure MidAt (w u u' : World) (g x : Nat) (S : KS) (P : List (Int × Nat)) (ws : List WI) (N : Nat) (o : OpV) (A : Option Addr) (c : Nat) : Prop where
  kv : ∃ cs, KvAt u' g 59 cs { (callM S o).2 with B := fun b => S.B b ∧ blk A ≠ some b ∧ b < u'.heap.size } (N + 31)
  rt : RAt u' w.heap.size x P ws S.L
  be : Below w.heap.size w u'
  ow : OwnC u' u.heap.size A c (callM S o).1.2.2.1
  sz : u.heap.size ≤ u'.heap.size
theorem LvAt.mid {w u u' : World} {g x N : Nat} {S : KS} {P : List (Int × Nat)} {ws : List WI} {cs : Array Value} {o : OpV} {e : Ending} (h : LvAt w u g x S P ws N) (hk : KvAt u g 59 cs S N) (hc : CallO u g 59 cs N S.B (callM S o) e u') :
    ∃ A q c, e = .returned (.tuple #[.int .u64 ((callM S o).1.1 : Nat), .bool (callM S o).1.2.1, .slice A q c, .int .i64 (callM S o).1.2.2.2]) ∧ q = (callM S o).1.2.2.1.length ∧ MidAt w u u' g x S P ws N o A c := by
  obtain ⟨A, q, c, rfl, hq, hown, ⟨⟨cs', hk', _⟩, hg⟩⟩ := hc
  exact ⟨A, q, c, rfl, hq, ⟨⟨cs', hk'.rebase fun b hb hlt => ⟨hb.1, hb.2, hlt⟩⟩, h.rt.other hg hk.bk (by decide) (by decide) (by decide) (by decide) (by decide) (fun e => absurd e (by decide)), h.be.grown hg h.be.size (fun r e => by cases e; exact h.gx.1), hown, hg.size⟩⟩
theorem MidAt.below {w u u' u2 : World} {g x N c : Nat} {S : KS} {P : List (Int × Nat)} {ws : List WI} {o : OpV} {A : Option Addr} (h : MidAt w u u' g x S P ws N o A c) (hb : Below u'.heap.size u' u2) : MidAt w u u2 g x S P ws N o A c := by
  obtain ⟨cs, hk⟩ := h.kv
  exact ⟨⟨cs, (hk.below hb).rebase fun b hbb _ => ⟨hbb.1, hbb.2.1, Nat.lt_of_lt_of_le hbb.2.2 hb.size⟩⟩, h.rt.below hb, bt h.be hb, own_same h.ow (fun r hr _ _ => hb.block r hr), Nat.le_trans h.sz hb.size⟩
theorem MidAt.fin {w u u' u2 : World} {g x N c : Nat} {S : KS} {P : List (Int × Nat)} {ws : List WI} {o : OpV} {A : Option Addr} {e : Ending} (h : MidAt w u u' g x S P ws N o A c) (h0 : LvAt w u g x S P ws N) (hs : StepO u' w.heap.size x o S ws e u2) :
    ∃ A6 q6 c6 P' ws', e = .returned (.tuple #[.int .u64 ((callM S o).1.1 : Nat), .bool (callM S o).1.2.1, .slice A6 q6 c6, .int .i64 (callM S o).1.2.2.2]) ∧ q6 = (callM S o).1.2.2.1.length ∧ OwnC u2 u'.heap.size A6 c6 (callM S o).1.2.2.1 ∧ OwnC u2 u.heap.size A c (callM S o).1.2.2.1 ∧
      LvAt w u2 g x { (callM S o).2 with B := fun b => (∀ y ∈ ws', blk y.A ≠ some b) ∧ blk A ≠ some b } P' ws' (N + 31) ∧ ws'.length ≤ ws.length + 1 ∧ ∀ y ∈ ws', ∀ r, blk A = some r → blk y.A ≠ some r := by
  obtain ⟨A6, q6, c6, P', ws', rfl, hq, hown, hR, hrel, hlen, hg, hA⟩ := hs
  obtain ⟨_, _, _, _, _, _, _, _, _, hx, _⟩ := h.rt.ex
  have hws : ∀ y ∈ ws, ∀ r, blk y.A = some r → r < u.heap.size := fun y hy r e => ((h0.rt.wk y hy).2.2.lt' r e).2
  have hAb := fun r e => h.ow.lt' r e
  have hown2 : OwnC u2 u.heap.size A c (callM S o).1.2.2.1 := by
    refine own_same h.ow fun r hr hc e => ?_
    obtain ⟨cs, fz, hc⟩ := hc
    refine hg.kind (fun e2 => ?_) hc fun cs' t fz' e2 => ?_
    · subst e2; exact own_ne h.ow hx (by decide) e
    · injection e2 with _ e2 _
      subst e2
      exact ⟨by decide, by decide, fun _ ⟨y, hy, e3⟩ => by have h1 := hws y hy r e3; have h2 := (hAb r e).1; omega⟩
  have hapart : ∀ y ∈ ws', ∀ r, blk A = some r → blk y.A ≠ some r := fun y hy r e e2 => by
    rcases hA y hy r e2 with ⟨y0, hy0, e3⟩ | h3
    · have h1 := hws y0 hy0 r e3; have h2 := (hAb r e).1; omega
    · have h2 := (hAb r e).2; omega
  obtain ⟨cs, hk⟩ := h.kv
  have hk2 := (hk.rg hg hx (fun b hb ⟨y, hy, e⟩ => h0.b1 b hb.1 y hy e)).rebase (B' := fun b => (∀ y ∈ ws', blk y.A ≠ some b) ∧ blk A ≠ some b) (fun b hb _ => ⟨fun y hy e => by
    rcases hA y hy b e with ⟨y0, hy0, e3⟩ | h3
    · exact h0.b1 b hb.1 y0 hy0 e3
    · have := hb.2.2; omega, hb.2.1⟩)
  exact ⟨A6, q6, c6, P', ws', rfl, hq, hown, hown2, ⟨⟨cs, hk2⟩, hR, hrel.base _, ⟨hg.os.trans h.be.os, hg.tape.trans h.be.tape, hg.output.trans h.be.output, Nat.le_trans h.be.size hg.size, fun j hj => (hg.low j hj (Nat.lt_of_lt_of_le hj h.be.size) (by have := h0.gx.2; omega)).trans (h.be.block j hj)⟩, h0.gx, fun b hb => hb.1, fun b hb => ⟨fun y hy e => by have := ((hR.wk y hy).2.2.lt' b e).2; omega, fun e => by have := (hown2.lt' b e).2; omega⟩⟩, hlen, hapart⟩
/-- What the document's call wants. -/
theorem LvAt.len {w u : World} {g x N : Nat} {S : KS} {P : List (Int × Nat)} {ws : List WI} (h : LvAt w u g x S P ws N) : (∀ y ∈ ws, y.l.length < 100) ∧ ∀ n, ∀ c ∈ listW ws n, keyB c.y = true :=
  ⟨fun y hy => by have := (h.rl.ll y hy).len; omega, fun n c hc => ((h.rl.cur_list n).2.1 c hc).2⟩
end Go.Proofs.Ytihchfjdgeehoaa

namespace Go.Proofs.Ytihchfjdgeehoaa
open Go.RowKit Go.Maps Go.Joins Go.Deep
set_option linter.unusedVariables false
set_option linter.unusedSimpArgs false

def VKl (g xb b o j n q c q6 c6 : Nat) (A0 : Option Addr) (cl : Nat) (A A6 : Option Addr) (rv : Nat) (rt : Bool) (er nn : Int) (bz : Bool) (pf : Value) (i : Nat) (v : Value) (w : World) : Prop :=
  match i with
  | 0 => v = .int .u64 (rv : Nat)
  | 1 => v = .int .u64 (rv : Nat)
  | 2 => v = .bool false
  | 3 => v = .bool false
  | 4 => v = .bool rt
  | 5 => v = .bool rt
  | 6 => v = .bool false
  | 7 => v = .bool false
  | 8 => v = .bool false
  | 9 => v = .slice A q c
  | 10 => v = .slice A6 q6 c6
  | 11 => v = .bool true
  | 12 => v = .bool false
  | 13 => v = .bool false
  | 14 => v = .bool false
  | 15 => v = .int .i64 er
  | 16 => v = .int .i64 er
  | 17 => v = .bool false
  | 18 => v = .bool false
  | 19 => v = .bool false
  | 20 => v = .pointer (some ⟨g, 0, none⟩)
  | 21 => v = .slice (some ⟨b, o, none⟩) n cl
  | 22 => v = .int .i64 j
  | 23 => v = .pointer (some ⟨b, o + j * 5, none⟩)
  | 24 => v = .pointer (some ⟨b, o + j * 5 + 1, none⟩)
  | 25 => v = .int .i64 nn
  | 26 => v = .bool bz
  | 27 => v = .pointer (some ⟨xb, 0, none⟩)
  | 28 => v = .slice (some ⟨b, o, none⟩) n cl
  | 29 => v = .int .i64 j
  | 30 => v = .pointer (some ⟨b, o + j * 5, none⟩)
  | 31 => v = .pointer (some ⟨b, o + j * 5 + 1, none⟩)
  | 32 => v = .int .i64 nn
  | 33 => v = pf
  | 34 => v = .bool bz
  | 35 => v = .bool false
  | 36 => v = .bool false
  | _ => True
theorem VKl.mono {g xb b o j n q c q6 c6 : Nat} {A0 : Option Addr} {cl : Nat} {A A6 : Option Addr} {rv : Nat} {rt : Bool} {er nn : Int} {bz : Bool} {pf : Value} {q i : Nat} {v : Value} {u u' : World} (he : Below u.heap.size u u') (h : VKl g xb b o j n q c q6 c6 A0 cl A A6 rv rt er nn bz pf i v u) : VKl g xb b o j n q c q6 c6 A0 cl A A6 rv rt er nn bz pf i v u' := by
  unfold VKl at h ⊢
  split at h <;> exact h

set_option maxRecDepth 100000 in
set_option maxHeartbeats 8000000 in
theorem kvLives_walk (A : Option Addr) (ops : List OpV) (c : Nat) (w : World) (h : OpsAt w A ops) :
    Calls Try.prog 3 #[.slice A ops.length c] w fun e w' => e = .returned (.bool true) ∧ Below w.heap.size w w' := by
  have hlen := h.1
  unfold maxLen at hlen
  obtain ⟨n, hn⟩ : ∃ n, n = ops.length := ⟨_, rfl⟩
  rw [← hn] at hlen ⊢
  have HN := Lib.hid hn
  have HO := Lib.hid h
  obtain ⟨A0, hA0⟩ : ∃ A0, A0 = A := ⟨_, rfl⟩
  rw [← hA0] at HO ⊢
  obtain ⟨cl, hcl⟩ : ∃ cl, cl = c := ⟨_, rfl⟩
  rw [← hcl]
  clear h hn hA0 hcl A c
  obtain ⟨g, hg⟩ : ∃ g, g = w.heap.size := ⟨_, rfl⟩
  have HG := Lib.hid hg
  go_enter Try.func3, Try.ntmps3
  go_wp2_with fail
  refine (knew_any anyB w).mono ?_
  rintro e w1 ⟨rfl, ⟨cs, hk⟩, b1⟩
  rw [← hg] at hk ⊢
  obtain ⟨xb, hx⟩ : ∃ xb, xb = w1.heap.size := ⟨_, rfl⟩
  have HX := Lib.hid hx
  obtain ⟨w2, hw2⟩ : ∃ w2, w2 = w1.alloc (.cells #[.slice none 0 0, .slice none 0 0, .slice none 0 0] 32) := ⟨_, rfl⟩
  have HW2 := Lib.hid hw2
  have H0 : Hid (∃ S P ws, ws.length ≤ 0 ∧ LvAt w w2 g xb S P ws (31 * 0)) := Lib.hid (by
    have b2 : Below w1.heap.size w1 w2 := by rw [hw2]; exact ba _ _
    have rz := RAt.zero w1 w.heap.size
    rw [← hw2, ← hx] at rz
    exact ⟨KS.zero anyB, [], [], Nat.le_refl _, ⟨⟨cs, hk.below b2⟩, rz, Rel.zero _, bt b1 b2, ⟨by rw [hg]; exact Nat.le_refl _, by rw [hx]; exact b1.size⟩, (fun b _ y hy => nomatch hy), fun b _ => trivial⟩⟩)
  clear hk b1 hx hw2 hg
  go_wp2_with fail
  rw [← HW2.out, ← HX.out]
  go_loopw [5] (fun i wr => ∃ (j : Nat), j ≤ n ∧ j ≤ 60 ∧ i = .int .i64 j ∧ Hid (∃ S P ws, ws.length ≤ j ∧ LvAt w wr g xb S P ws (31 * j))) (fun i _ => 60 - (intOf i).toNat)
  case atStart => exact ⟨0, Nat.zero_le _, by omega, rfl, H0⟩
  case round =>
    clear H0
    obtain ⟨j, hj, hj60, rfl, HR⟩ := hrel
    by_cases hjn : j < n
    · have hjI : (j : Int) < (n : Int) := by omega
      by_cases hj6 : j < 60
      · have hj6I : (j : Int) < 60 := by omega
        obtain ⟨S, P, ws, hwl, hlv⟩ := HR.out
        have hjo : j < ops.length := by rw [← HN.out]; exact hjn
        obtain ⟨b, o, rfl, hlt, hcs⟩ := HO.out.2.2 (by omega)
        obtain ⟨q0, q1, q2, q3, q4⟩ := hcs j hjo
        obtain ⟨hok, hml, hin⟩ := HO.out.2.1 _ (List.getElem_mem hjo)
        obtain ⟨op, hop⟩ : ∃ op, op = ops[j] := ⟨_, rfl⟩
        rw [← hop] at q0 q1 q2 q3 q4 hok hml hin
        have hb := hlv.be
        have p0 := (hb.cell (p := ⟨b, o + j * 5, none⟩) hlt).trans q0
        have p1 := (hb.cell (p := ⟨b, o + j * 5 + 1, none⟩) hlt).trans q1
        have p2 := (hb.cell (p := ⟨b, o + j * 5 + 2, none⟩) hlt).trans q2
        have p3 := (hb.cell (p := ⟨b, o + j * 5 + 3, none⟩) hlt).trans q3
        have p4 := (hb.cell (p := ⟨b, o + j * 5 + 4, none⟩) hlt).trans q4
        obtain ⟨csk, hkv⟩ := hlv.kv
        have hcall := fun hl => call_any g _ csk S (31 * j) op wr hkv (by omega) hok (fun _ => hl) (hin.below hb) hlv.b2
        obtain ⟨m, hm⟩ : ∃ m, m = op.l.length := ⟨_, rfl⟩
        obtain ⟨ov, hov⟩ : ∃ ov, ov = op.val := ⟨_, rfl⟩
        rw [← hov] at hcall
        have HC := Lib.hid hcall
        have HL := Lib.hid (And.intro hlv (And.intro hkv (And.intro hwl (And.intro hok (And.intro hin (And.intro hlt (And.intro hov hm)))))))
        have HQ := Lib.hid (And.intro q0 (And.intro q1 (And.intro q2 (And.intro q3 q4))))
        obtain ⟨ok, on, oy, oz, oA, ol, oc⟩ := op
        have hov2 : ov = .agg #[.int .i64 ok, .int .i64 on, .int .i64 oy, .int .u64 (oz : Nat), .slice oA m oc] := by rw [hov, hm]; rfl
        dsimp only at p0 p1 p2 p3 p4 hml
        rw [← hm] at p4 hml
        have hmx : (m : Int) ≤ 9223372036854775807 := by unfold maxLen at hml; omega
        have HV := Lib.hid hov2
        clear hcall q0 q1 q2 q3 q4 hcs hop hb hov hm hok hin hml hjo hkv hlv hwl hlt hov2
        by_cases hm3 : m ≤ 30
        · have hm3I : ¬ (30 : Int) < (m : Int) := by omega
          go_wp2_with fail
          rw [← HV.out]
          refine (HC.out (by rw [← HL.out.2.2.2.2.2.2.2]; exact hm3)).mono ?_
          rintro e w2 hc2
          obtain ⟨A, q, c, rfl, hq, hmid⟩ := HL.out.1.mid HL.out.2.1 hc2
          have hb2 := hmid.be
          have HM2 := Lib.hid (And.intro hmid hq)
          have hlt := HL.out.2.2.2.2.2.1
          obtain ⟨q0, q1, q2, q3, q4⟩ := HQ.out
          have p0' := (hb2.cell (p := ⟨b, o + j * 5, none⟩) hlt).trans q0
          have p1' := (hb2.cell (p := ⟨b, o + j * 5 + 1, none⟩) hlt).trans q1
          have p2' := (hb2.cell (p := ⟨b, o + j * 5 + 2, none⟩) hlt).trans q2
          have p3' := (hb2.cell (p := ⟨b, o + j * 5 + 3, none⟩) hlt).trans q3
          have p4' := (hb2.cell (p := ⟨b, o + j * 5 + 4, none⟩) hlt).trans q4
          have hml' := HL.out.2.2.2.2.2.2.2
          try dsimp only at p0' p1' p2' p3' p4' hml'
          rw [← hml'] at p4'
          have hmod := model_any w.heap.size xb P ws S.L ⟨ok, on, oy, oz, oA, ol, oc⟩ w2 hmid.rt hb2.size (by have := HL.out.2.2.1; omega) HL.out.1.rl.ok HL.out.1.rl.nc HL.out.1.len.1 HL.out.1.rl.P HL.out.1.len.2 HL.out.2.2.2.1 (by dsimp only; rw [← hml']; omega) (fun u hu => HL.out.2.2.2.2.1.below (hb2.grown hu hb2.size (fun r e => by cases e; exact HL.out.1.gx.2)))
          rw [← HL.out.2.2.2.2.2.2.1] at hmod
          have HD := Lib.hid hmod
          clear p0 p1 p2 p3 p4 q0 q1 q2 q3 q4 hml' hmod hmid hc2 hb2 hlt hq HC
          go_wp2_with fail
          rw [← HV.out]
          refine HD.out.mono ?_
          rintro e w3 hm3'
          obtain ⟨A6, q6, c6, P', ws', rfl, hq6, own6, ownA, hlv3, hlen3, hap⟩ := HM2.out.1.fin HL.out.1 (mdl_step HL.out.1.rl HL.out.2.2.2.1 hm3')
          have hq := HM2.out.2
          have hBsz := HM2.out.1.sz
          have hqs : q ≤ 100 := by
            have := callM_len S ⟨ok, on, oy, oz, oA, ol, oc⟩ (fun k => by rw [(HL.out.1.rl.cur_list k).1]; have := (HL.out.1.rl.cur_list k).2.len; omega)
            rw [hq]; exact this
          have hb3 := hlv3.be
          have hlt := HL.out.2.2.2.2.2.1
          have p1 := (hb3.cell (p := ⟨b, o + j * 5 + 1, none⟩) hlt).trans HQ.out.2.1
          try dsimp only at p1
          have Hp1 := Lib.hid p1
          have HBl : Hid (b < w3.heap.size) := Lib.hid (Nat.lt_of_lt_of_le hlt hb3.size)
          have hio : i64ok on := HL.out.2.2.2.1.n
          have hwl3 : ws'.length ≤ j + 1 := by have := HL.out.2.2.1; omega
          obtain ⟨BA, hBA⟩ : ∃ BA, BA = wr.heap.size := ⟨_, rfl⟩
          have hwA : w.heap.size ≤ BA := by rw [hBA]; exact HL.out.1.be.size
          rw [← hBA] at ownA
          obtain ⟨S2, hS2⟩ : ∃ S2, S2 = { (callM S ⟨ok, on, oy, oz, oA, ol, oc⟩).2 with B := fun b => (∀ y ∈ ws', blk y.A ≠ some b) ∧ blk A ≠ some b } := ⟨_, rfl⟩
          rw [← hS2] at hlv3
          have hSA : ∀ r, blk A = some r → ¬ S2.B r := fun r e hb => by rw [hS2] at hb; exact hb.2 e
          obtain ⟨⟨rv, rt, rl, re⟩, hr⟩ : ∃ R, R = (callM S ⟨ok, on, oy, oz, oA, ol, oc⟩).1 := ⟨_, rfl⟩
          rw [← hr] at hq6 own6 ownA hq ⊢
          dsimp only at hq6 own6 ownA hq ⊢
          have HS := Lib.hid (fun u (hu : Below w3.heap.size w3 u) => same_any A A6 rl q c c6 u (Lib.hid hq) (by omega) (ownA.at_.below hu) (own6.at_.below hu))
          obtain ⟨cs3, hk3⟩ := hlv3.kv
          have hbz : busyB S2 on = (findW ws' on).isSome := hlv3.rl.busy on
          have HBz0 := fun u (hu : Below w3.heap.size w3 u) => busy_any g _ cs3 S2 (31 * j + 31) on u (hk3.below hu) hio
          rw [hbz] at HBz0
          have HFd0 := fun u (hu : Below w3.heap.size w3 u) => find_any w.heap.size xb P' ws' S2.L on u (hlv3.rt.below hu)
          have HZ := Lib.hid (And.intro hlv3 (And.intro hwl3 (And.intro hq (And.intro ownA (And.intro hap (And.intro hSA hwA))))))
          have hq66 : q6 = q := hq6.trans hq.symm
          subst hq66
          clear p0' p1' p2' p3' p4' p1 hr hS2 hq6 own6 ownA hlv3 hlen3 hap hq hBsz hb3 hlt hwl3 hk3 hbz hio hm3' hSA hwA hBA HD HM2 HQ
          go_wp2_with fail
          rcases hf : findW ws' on with _ | z
          · rw [hf] at HBz0 HFd0
            have HBz := Lib.hid HBz0
            have HFd := Lib.hid HFd0
            clear HBz0 HFd0
            dsimp only [Option.isSome_none, Option.map_none] at HBz HFd
            refine wp_region_invT (F := ?FA) (V := VKl g xb b o j n q6 c q6 c6 none cl A A6 rv rt re on false ((.pointer none))) (dead := fun _ => none) (T := fun _ _ => True) (C := fun u => Below w3.heap.size w3 u) (E := fun _ u u' => Below u.heap.size u u') (by kernel_rfl) (by kernel_rfl) (by kernel_rfl) (fun x => ?hFA) ?hmonoA ?hTmA ?hTA ?hCA ?stepA ?finA
            case hFA => simp only [mkA, Act.put, List.setIfInBounds_toArray, List.set_cons_succ, List.set_cons_zero, Nat.reduceAdd, Nat.zero_add]; first | with_reducible rfl | rfl
            case hmonoA => exact fun q' i v u u' he hik hwt hdd hv => VKl.mono (q := q') he hv
            case hTmA => exact fun _ _ _ _ _ _ _ _ => trivial
            case hTA => exact fun j => trivial
            case hCA => exact (Below.refl _ _).drew
            case stepA =>
              refine AllOps.cons (fun x u hC hT hp K hK => ?_) ?_
              · clear hp hT
                go_simp
                refine hK _ _ _ hC (Below.refl _ _) (by exact rfl) ?_
                first | (simp only [Act.put, List.setIfInBounds_toArray, List.set_cons_succ, List.set_cons_zero]; done) | simp [Act.put]
              refine AllOps.cons (fun x u hC hT hp K hK => ?_) ?_
              · clear hp hT
                go_simp
                refine hK _ _ _ hC (Below.refl _ _) (by exact rfl) ?_
                first | (simp only [Act.put, List.setIfInBounds_toArray, List.set_cons_succ, List.set_cons_zero]; done) | simp [Act.put]
              refine AllOps.cons (fun x u hC hT hp K hK => ?_) ?_
              · simp [KnownTill, Region.binds, VKl] at hp
                clear hT
                go_simp
                refine hK _ _ _ hC (Below.refl _ _) (by exact (by first | exact rfl | simp)) ?_
                first | (simp only [Act.put, List.setIfInBounds_toArray, List.set_cons_succ, List.set_cons_zero, hp]; done) | simp [Act.put, hp]
              refine AllOps.cons (fun x u hC hT hp K hK => ?_) ?_
              · simp [KnownTill, Region.binds, VKl] at hp
                clear hT
                go_simp
                refine hK _ _ _ hC (Below.refl _ _) (by exact rfl) ?_
                first | (simp only [Act.put, List.setIfInBounds_toArray, List.set_cons_succ, List.set_cons_zero, hp]; done) | simp [Act.put, hp]
              refine AllOps.cons (fun x u hC hT hp K hK => ?_) ?_
              · simp [KnownTill, Region.binds, VKl] at hp
                clear hT
                go_simp
                refine hK _ _ _ hC (Below.refl _ _) (by exact rfl) ?_
                first | (simp only [Act.put, List.setIfInBounds_toArray, List.set_cons_succ, List.set_cons_zero, hp]; done) | simp [Act.put, hp]
              refine AllOps.cons (fun x u hC hT hp K hK => ?_) ?_
              · simp [KnownTill, Region.binds, VKl] at hp
                clear hT
                go_simp
                refine hK _ _ _ hC (Below.refl _ _) (by exact rfl) ?_
                first | (simp only [Act.put, List.setIfInBounds_toArray, List.set_cons_succ, List.set_cons_zero, hp]; done) | simp [Act.put, hp]
              refine AllOps.cons (fun x u hC hT hp K hK => ?_) ?_
              · simp [KnownTill, Region.binds, VKl] at hp
                clear hT
                go_simp
                refine hK _ _ _ hC (Below.refl _ _) (by exact (by first | exact rfl | simp)) ?_
                first | (simp only [Act.put, List.setIfInBounds_toArray, List.set_cons_succ, List.set_cons_zero, hp]; done) | simp [Act.put, hp]
              refine AllOps.cons (fun x u hC hT hp K hK => ?_) ?_
              · simp [KnownTill, Region.binds, VKl] at hp
                clear hT
                go_simp
                refine hK _ _ _ hC (Below.refl _ _) (by exact rfl) ?_
                first | (simp only [Act.put, List.setIfInBounds_toArray, List.set_cons_succ, List.set_cons_zero, hp]; done) | simp [Act.put, hp]
              refine AllOps.cons (fun x u hC hT hp K hK => ?_) ?_
              · simp [KnownTill, Region.binds, VKl] at hp
                clear hT
                go_simp
                refine hK _ _ _ hC (Below.refl _ _) (by exact rfl) ?_
                first | (simp only [Act.put, List.setIfInBounds_toArray, List.set_cons_succ, List.set_cons_zero, hp]; done) | simp [Act.put, hp]
              refine AllOps.cons (fun x u hC hT hp K hK => ?_) ?_
              · simp [KnownTill, Region.binds, VKl] at hp
                clear hT
                go_simp
                refine hK _ _ _ hC (Below.refl _ _) (by exact rfl) ?_
                first | (simp only [Act.put, List.setIfInBounds_toArray, List.set_cons_succ, List.set_cons_zero, hp]; done) | simp [Act.put, hp]
              refine AllOps.cons (fun x u hC hT hp K hK => ?_) ?_
              · simp [KnownTill, Region.binds, VKl] at hp
                clear hT
                go_simp
                refine hK _ _ _ hC (Below.refl _ _) (by exact rfl) ?_
                first | (simp only [Act.put, List.setIfInBounds_toArray, List.set_cons_succ, List.set_cons_zero, hp]; done) | simp [Act.put, hp]
              refine AllOps.cons (fun x u hC hT hp K hK => ?_) ?_
              · simp [KnownTill, Region.binds, VKl] at hp
                clear hT
                go_simp
                refine (HS.out u hC).mono ?_
                rintro e wA ⟨rfl, hbA⟩
                refine hK _ _ _ (bt hC hbA) hbA (by exact rfl) ?_
                first | (simp only [Act.put, List.setIfInBounds_toArray, List.set_cons_succ, List.set_cons_zero, hp]; done) | simp [Act.put, hp]
              refine AllOps.cons (fun x u hC hT hp K hK => ?_) ?_
              · simp [KnownTill, Region.binds, VKl] at hp
                clear hT
                go_simp
                refine hK _ _ _ hC (Below.refl _ _) (by exact rfl) ?_
                first | (simp only [Act.put, List.setIfInBounds_toArray, List.set_cons_succ, List.set_cons_zero, hp]; done) | simp [Act.put, hp]
              refine AllOps.cons (fun x u hC hT hp K hK => ?_) ?_
              · simp [KnownTill, Region.binds, VKl] at hp
                clear hT
                go_simp
                refine hK _ _ _ hC (Below.refl _ _) (by exact rfl) ?_
                first | (simp only [Act.put, List.setIfInBounds_toArray, List.set_cons_succ, List.set_cons_zero, hp]; done) | simp [Act.put, hp]
              refine AllOps.cons (fun x u hC hT hp K hK => ?_) ?_
              · simp [KnownTill, Region.binds, VKl] at hp
                clear hT
                go_simp
                refine hK _ _ _ hC (Below.refl _ _) (by exact rfl) ?_
                first | (simp only [Act.put, List.setIfInBounds_toArray, List.set_cons_succ, List.set_cons_zero, hp]; done) | simp [Act.put, hp]
              refine AllOps.cons (fun x u hC hT hp K hK => ?_) ?_
              · simp [KnownTill, Region.binds, VKl] at hp
                clear hT
                go_simp
                refine hK _ _ _ hC (Below.refl _ _) (by exact rfl) ?_
                first | (simp only [Act.put, List.setIfInBounds_toArray, List.set_cons_succ, List.set_cons_zero, hp]; done) | simp [Act.put, hp]
              refine AllOps.cons (fun x u hC hT hp K hK => ?_) ?_
              · simp [KnownTill, Region.binds, VKl] at hp
                clear hT
                go_simp
                refine hK _ _ _ hC (Below.refl _ _) (by exact rfl) ?_
                first | (simp only [Act.put, List.setIfInBounds_toArray, List.set_cons_succ, List.set_cons_zero, hp]; done) | simp [Act.put, hp]
              refine AllOps.cons (fun x u hC hT hp K hK => ?_) ?_
              · simp [KnownTill, Region.binds, VKl] at hp
                clear hT
                go_simp
                refine hK _ _ _ hC (Below.refl _ _) (by exact (by first | exact rfl | simp)) ?_
                first | (simp only [Act.put, List.setIfInBounds_toArray, List.set_cons_succ, List.set_cons_zero, hp]; done) | simp [Act.put, hp]
              refine AllOps.cons (fun x u hC hT hp K hK => ?_) ?_
              · simp [KnownTill, Region.binds, VKl] at hp
                clear hT
                go_simp
                refine hK _ _ _ hC (Below.refl _ _) (by exact rfl) ?_
                first | (simp only [Act.put, List.setIfInBounds_toArray, List.set_cons_succ, List.set_cons_zero, hp]; done) | simp [Act.put, hp]
              refine AllOps.cons (fun x u hC hT hp K hK => ?_) ?_
              · simp [KnownTill, Region.binds, VKl] at hp
                clear hT
                go_simp
                refine hK _ _ _ hC (Below.refl _ _) (by exact rfl) ?_
                first | (simp only [Act.put, List.setIfInBounds_toArray, List.set_cons_succ, List.set_cons_zero, hp]; done) | simp [Act.put, hp]
              refine AllOps.cons (fun x u hC hT hp K hK => ?_) ?_
              · simp [KnownTill, Region.binds, VKl] at hp
                clear hT
                go_simp
                refine hK _ _ _ hC (Below.refl _ _) (by exact rfl) ?_
                first | (simp only [Act.put, List.setIfInBounds_toArray, List.set_cons_succ, List.set_cons_zero, hp]; done) | simp [Act.put, hp]
              refine AllOps.cons (fun x u hC hT hp K hK => ?_) ?_
              · simp [KnownTill, Region.binds, VKl] at hp
                clear hT
                go_simp
                refine hK _ _ _ hC (Below.refl _ _) (by exact rfl) ?_
                first | (simp only [Act.put, List.setIfInBounds_toArray, List.set_cons_succ, List.set_cons_zero, hp]; done) | simp [Act.put, hp]
              refine AllOps.cons (fun x u hC hT hp K hK => ?_) ?_
              · simp [KnownTill, Region.binds, VKl] at hp
                clear hT
                go_simp
                refine hK _ _ _ hC (Below.refl _ _) (by exact rfl) ?_
                first | (simp only [Act.put, List.setIfInBounds_toArray, List.set_cons_succ, List.set_cons_zero, hp]; done) | simp [Act.put, hp]
              refine AllOps.cons (fun x u hC hT hp K hK => ?_) ?_
              · simp [KnownTill, Region.binds, VKl] at hp
                clear hT
                go_simp
                refine hK _ _ _ hC (Below.refl _ _) (by exact rfl) ?_
                first | (simp only [Act.put, List.setIfInBounds_toArray, List.set_cons_succ, List.set_cons_zero, hp]; done) | simp [Act.put, hp]
              refine AllOps.cons (fun x u hC hT hp K hK => ?_) ?_
              · simp [KnownTill, Region.binds, VKl] at hp
                clear hT
                go_simp
                refine hK _ _ _ hC (Below.refl _ _) (by exact rfl) ?_
                first | (simp only [Act.put, List.setIfInBounds_toArray, List.set_cons_succ, List.set_cons_zero, hp]; done) | simp [Act.put, hp]
              refine AllOps.cons (fun x u hC hT hp K hK => ?_) ?_
              · simp [KnownTill, Region.binds, VKl] at hp
                clear hT
                have qq := (show Below w3.heap.size w3 u from hC).cell (p := ⟨b, o + j * 5 + 1, none⟩) HBl.out
                rw [Hp1.out] at qq
                go_simp
                refine hK _ _ _ hC (Below.refl _ _) (by exact rfl) ?_
                first | (simp only [Act.put, List.setIfInBounds_toArray, List.set_cons_succ, List.set_cons_zero, hp]; done) | simp [Act.put, hp]
              refine AllOps.cons (fun x u hC hT hp K hK => ?_) ?_
              · simp [KnownTill, Region.binds, VKl] at hp
                clear hT
                go_simp
                refine (HBz.out u hC).mono ?_
                rintro e wA ⟨rfl, hbA⟩
                refine hK _ _ _ (bt hC hbA) hbA (by exact rfl) ?_
                first | (simp only [Act.put, List.setIfInBounds_toArray, List.set_cons_succ, List.set_cons_zero, hp]; done) | simp [Act.put, hp]
              refine AllOps.cons (fun x u hC hT hp K hK => ?_) ?_
              · simp [KnownTill, Region.binds, VKl] at hp
                clear hT
                go_simp
                refine hK _ _ _ hC (Below.refl _ _) (by exact rfl) ?_
                first | (simp only [Act.put, List.setIfInBounds_toArray, List.set_cons_succ, List.set_cons_zero, hp]; done) | simp [Act.put, hp]
              refine AllOps.cons (fun x u hC hT hp K hK => ?_) ?_
              · simp [KnownTill, Region.binds, VKl] at hp
                clear hT
                go_simp
                refine hK _ _ _ hC (Below.refl _ _) (by exact rfl) ?_
                first | (simp only [Act.put, List.setIfInBounds_toArray, List.set_cons_succ, List.set_cons_zero, hp]; done) | simp [Act.put, hp]
              refine AllOps.cons (fun x u hC hT hp K hK => ?_) ?_
              · simp [KnownTill, Region.binds, VKl] at hp
                clear hT
                go_simp
                refine hK _ _ _ hC (Below.refl _ _) (by exact rfl) ?_
                first | (simp only [Act.put, List.setIfInBounds_toArray, List.set_cons_succ, List.set_cons_zero, hp]; done) | simp [Act.put, hp]
              refine AllOps.cons (fun x u hC hT hp K hK => ?_) ?_
              · simp [KnownTill, Region.binds, VKl] at hp
                clear hT
                go_simp
                refine hK _ _ _ hC (Below.refl _ _) (by exact rfl) ?_
                first | (simp only [Act.put, List.setIfInBounds_toArray, List.set_cons_succ, List.set_cons_zero, hp]; done) | simp [Act.put, hp]
              refine AllOps.cons (fun x u hC hT hp K hK => ?_) ?_
              · simp [KnownTill, Region.binds, VKl] at hp
                clear hT
                go_simp
                refine hK _ _ _ hC (Below.refl _ _) (by exact rfl) ?_
                first | (simp only [Act.put, List.setIfInBounds_toArray, List.set_cons_succ, List.set_cons_zero, hp]; done) | simp [Act.put, hp]
              refine AllOps.cons (fun x u hC hT hp K hK => ?_) ?_
              · simp [KnownTill, Region.binds, VKl] at hp
                clear hT
                have qq := (show Below w3.heap.size w3 u from hC).cell (p := ⟨b, o + j * 5 + 1, none⟩) HBl.out
                rw [Hp1.out] at qq
                go_simp
                refine hK _ _ _ hC (Below.refl _ _) (by exact rfl) ?_
                first | (simp only [Act.put, List.setIfInBounds_toArray, List.set_cons_succ, List.set_cons_zero, hp]; done) | simp [Act.put, hp]
              refine AllOps.cons (fun x u hC hT hp K hK => ?_) ?_
              · simp [KnownTill, Region.binds, VKl] at hp
                clear hT
                go_simp
                refine (HFd.out u hC).mono ?_
                rintro e wA ⟨rfl, rfl⟩
                refine hK _ _ _ hC (Below.refl _ _) (by exact rfl) ?_
                first | (simp only [Act.put, List.setIfInBounds_toArray, List.set_cons_succ, List.set_cons_zero, hp]; done) | simp [Act.put, hp]
              refine AllOps.cons (fun x u hC hT hp K hK => ?_) ?_
              · simp [KnownTill, Region.binds, VKl] at hp
                clear hT
                go_simp
                refine hK _ _ _ hC (Below.refl _ _) (by exact (by first | exact rfl | simp)) ?_
                first | (simp only [Act.put, List.setIfInBounds_toArray, List.set_cons_succ, List.set_cons_zero, hp]; done) | simp [Act.put, hp]
              refine AllOps.cons (fun x u hC hT hp K hK => ?_) ?_
              · simp [KnownTill, Region.binds, VKl] at hp
                clear hT
                go_simp
                refine hK _ _ _ hC (Below.refl _ _) (by exact (by first | exact rfl | simp)) ?_
                first | (simp only [Act.put, List.setIfInBounds_toArray, List.set_cons_succ, List.set_cons_zero, hp]; done) | simp [Act.put, hp]
              refine AllOps.cons (fun x u hC hT hp K hK => ?_) ?_
              · simp [KnownTill, Region.binds, VKl] at hp
                clear hT
                go_simp
                refine hK _ _ _ hC (Below.refl _ _) (by exact rfl) ?_
                first | (simp only [Act.put, List.setIfInBounds_toArray, List.set_cons_succ, List.set_cons_zero, hp]; done) | simp [Act.put, hp]
              exact AllOps.nil
            case finA =>
              intro x u hC hV
              have e101 : x 36 = .bool false := hV 36 (by decide) rfl
              rw [e101]
              clear e101
              clear hV
              have HS1 : Hid (∃ P ws, ws.length ≤ j + 1 ∧ LvAt w u g xb S2 P ws (31 * (j + 1)) ∧ OwnC u BA A c rl ∧ (∀ r, blk A = some r → ¬ S2.B r ∧ ∀ y ∈ ws, blk y.A ≠ some r) ∧ w.heap.size ≤ BA) := Lib.hid ⟨P', ws', HZ.out.2.1, (HZ.out.1.below hC).more (by omega), own_same HZ.out.2.2.2.1 (fun r hr _ _ => (show Below w3.heap.size w3 u from hC).block r hr), fun r e => ⟨HZ.out.2.2.2.2.2.1 r e, fun y hy => HZ.out.2.2.2.2.1 y hy r e⟩, HZ.out.2.2.2.2.2.2⟩
              have HLq := Lib.hid HZ.out.2.2.1
              clear hC HS HBz HFd HZ Hp1 HBl HL hf HR
              go_wp2_with fail
              go_loopw [14] (fun i wr => ∃ (i0 : Nat) (l' : List Ch), i0 ≤ q6 ∧ i = .int .i64 i0 ∧ Hid (q6 = l'.length ∧ ∃ P ws, ws.length ≤ j + 1 ∧ LvAt w wr g xb S2 P ws (31 * (j + 1)) ∧ OwnC wr BA A c l' ∧ (∀ r, blk A = some r → ¬ S2.B r ∧ ∀ y ∈ ws, blk y.A ≠ some r) ∧ w.heap.size ≤ BA)) (fun i _ => q6 - (intOf i).toNat)
              case atStart => exact ⟨0, rl, Nat.zero_le _, rfl, Lib.hid ⟨HLq.out, HS1.out⟩⟩
              case round =>
                clear HS1 HLq
                obtain ⟨i0, l', hi, rfl, HI⟩ := hrel
                by_cases hiq : i0 < q6
                · have hiI : (i0 : Int) < (q6 : Int) := by omega
                  obtain ⟨hlq, P2, ws2, hwl, hlv, own, hSA, hwA⟩ := HI.out
                  have hil : i0 < l'.length := by rw [← hlq]; exact hiq
                  obtain ⟨ob, cap, e⟩ := Joins.ownsRow_form own (by omega)
                  cases e
                  unfold OwnC at own
                  rw [← hlq] at own
                  obtain ⟨hoB, hol⟩ := own.lt ob rfl
                  obtain ⟨a1, a2, a3⟩ := chV_at l' i0 hil
                  have c1 := (own.cellAt (i0 * 3 + 2) (by omega)).trans a3
                  have f1 := own.frozenAt (i0 * 3 + 2)
                  obtain ⟨xx, hxx⟩ : ∃ xx, xx = l'[i0]'hil := ⟨_, rfl⟩
                  rw [← hxx] at c1
                  have st := own.stored (i0 * 3 + 2) (.int .u64 (77 : Nat))
                  have hset : (chV l').set (i0 * 3 + 2) (.int .u64 (77 : Nat)) = chV (l'.set i0 ⟨xx.k, xx.y, 77⟩) := chV_set_v hxx
                  rw [hset] at st
                  have hblk : ∃ cur : Array Value, Blk wr ob 47 cur := by
                    rcases own.2 with ⟨h1, _⟩ | ⟨g', cap', cur, h1, _, h2, _⟩
                    · cases h1
                    · cases h1; exact ⟨cur, h2⟩
                  obtain ⟨cur, hcur⟩ := hblk
                  have HN2 : Hid (q6 = (l'.set i0 ⟨xx.k, xx.y, 77⟩).length ∧ ∃ P ws, ws.length ≤ j + 1 ∧ LvAt w (wr.setCell ⟨ob, i0 * 3 + 2, none⟩ (.int .u64 (77 : Nat))) g xb S2 P ws (31 * (j + 1)) ∧ OwnC (wr.setCell ⟨ob, i0 * 3 + 2, none⟩ (.int .u64 (77 : Nat))) BA (some ⟨ob, 0, none⟩) c (l'.set i0 ⟨xx.k, xx.y, 77⟩) ∧ (∀ r, blk (some (⟨ob, 0, none⟩ : Addr)) = some r → ¬ S2.B r ∧ ∀ y ∈ ws, blk y.A ≠ some r) ∧ w.heap.size ≤ BA) := Lib.hid
                    ⟨by rw [List.length_set]; exact hlq, P2, ws2, hwl, hlv.write st.2 hcur (hSA ob rfl).1 (hSA ob rfl).2 (Nat.le_trans hwA hoB), by unfold OwnC; rw [List.length_set, ← hlq]; exact st.1, hSA, hwA⟩
                  clear hlq hwl hlv own hSA hwA hoB hol a1 a2 a3 st hset hcur hxx HI hil
                  go_wp2
                  go_roundw
                  case rel => exact ⟨i0 + 1, _, by omega, by go_num, HN2⟩
                  case measure => simp [intOf]; omega
                · obtain rfl : i0 = q6 := by omega
                  have hiI : ¬ (i0 : Int) < (i0 : Int) := by omega
                  have HT : Hid (∃ S P ws, ws.length ≤ j + 1 ∧ LvAt w wr g xb S P ws (31 * (j + 1))) := Lib.hid (by
                    obtain ⟨_, P2, ws2, hwl, hlv, _⟩ := HI.out
                    exact ⟨S2, P2, ws2, hwl, hlv⟩)
                  clear HI
                  go_wp2_with fail
                  go_loopw [15] (fun i wr => ∃ (k : Nat), k ≤ 18 ∧ i = .int .i64 ((k : Int) - 1) ∧ Hid (∃ S P ws, ws.length ≤ j + 1 ∧ LvAt w wr g xb S P ws (31 * (j + 1)))) (fun i _ => 18 - ((intOf i) + 1).toNat)
                  case atStart => exact ⟨0, by omega, rfl, HT⟩
                  case round =>
                    clear HT
                    obtain ⟨k, hk, rfl, HV2⟩ := hrel
                    by_cases hk18 : k < 18
                    · have hkI : (k : Int) - 1 ≤ 16 := by omega
                      obtain ⟨S3, P3, ws3, hwl, hlv⟩ := HV2.out
                      obtain ⟨cs3, hk3⟩ := hlv.kv
                      have hva := value_any g _ cs3 S3 _ ((k : Int) - 1) wr hk3
                      have hvb := fun u (hu : Below wr.heap.size wr u) => rvalue_any w.heap.size xb P3 ws3 S3.L ((k : Int) - 1) u (hlv.rt.below hu)
                      rw [hlv.rl.val] at hva
                      obtain ⟨⟨vv, vt⟩, hvv⟩ : ∃ R, R = valP P3 ((k : Int) - 1) := ⟨_, rfl⟩
                      rw [← hvv] at hva hvb
                      dsimp only at hva hvb
                      have HVA := Lib.hid hva
                      have HVB := Lib.hid hvb
                      have HNX : Hid (∀ u, Below wr.heap.size wr u → ∃ S P ws, ws.length ≤ j + 1 ∧ LvAt w u g xb S P ws (31 * (j + 1))) := Lib.hid (fun u hu => ⟨S3, P3, ws3, hwl, hlv.below hu⟩)
                      clear hwl hlv hk3 hva hvb hvv HV2
                      go_wp2_with fail
                      refine HVA.out.mono ?_
                      rintro e wy ⟨rfl, by_⟩
                      have HY := Lib.hid by_
                      clear by_
                      go_wp2_with fail
                      refine (HVB.out wy HY.out).mono ?_
                      rintro e wx ⟨rfl, rfl⟩
                      have HNY := Lib.hid (HNX.out wy HY.out)
                      go_wp2
                      go_roundw
                      case rel => exact ⟨k + 1, by omega, by go_num, HNY⟩
                      case measure => simp [intOf]; omega
                    · obtain rfl : k = 18 := by omega
                      have hkI : ¬ ((18 : Nat) : Int) - 1 ≤ 16 := by decide
                      go_wp2
                      go_roundw
                      case rel => exact ⟨j + 1, by omega, by omega, by go_num, HV2⟩
                      case measure => simp [intOf]; omega
          · rw [hf] at HBz0 HFd0
            have HBz := Lib.hid HBz0
            have HFd := Lib.hid HFd0
            clear HBz0 HFd0
            dsimp only [Option.isSome_some, Option.map_some] at HBz HFd
            refine wp_region_invT (F := ?FB) (V := VKl g xb b o j n q6 c q6 c6 none cl A A6 rv rt re on true ((.pointer (some ⟨z.q, 0, none⟩)))) (dead := fun _ => none) (T := fun _ _ => True) (C := fun u => Below w3.heap.size w3 u) (E := fun _ u u' => Below u.heap.size u u') (by kernel_rfl) (by kernel_rfl) (by kernel_rfl) (fun x => ?hFB) ?hmonoB ?hTmB ?hTB ?hCB ?stepB ?finB
            case hFB => simp only [mkA, Act.put, List.setIfInBounds_toArray, List.set_cons_succ, List.set_cons_zero, Nat.reduceAdd, Nat.zero_add]; first | with_reducible rfl | rfl
            case hmonoB => exact fun q' i v u u' he hik hwt hdd hv => VKl.mono (q := q') he hv
            case hTmB => exact fun _ _ _ _ _ _ _ _ => trivial
            case hTB => exact fun j => trivial
            case hCB => exact (Below.refl _ _).drew
            case stepB =>
              refine AllOps.cons (fun x u hC hT hp K hK => ?_) ?_
              · clear hp hT
                go_simp
                refine hK _ _ _ hC (Below.refl _ _) (by exact rfl) ?_
                first | (simp only [Act.put, List.setIfInBounds_toArray, List.set_cons_succ, List.set_cons_zero]; done) | simp [Act.put]
              refine AllOps.cons (fun x u hC hT hp K hK => ?_) ?_
              · clear hp hT
                go_simp
                refine hK _ _ _ hC (Below.refl _ _) (by exact rfl) ?_
                first | (simp only [Act.put, List.setIfInBounds_toArray, List.set_cons_succ, List.set_cons_zero]; done) | simp [Act.put]
              refine AllOps.cons (fun x u hC hT hp K hK => ?_) ?_
              · simp [KnownTill, Region.binds, VKl] at hp
                clear hT
                go_simp
                refine hK _ _ _ hC (Below.refl _ _) (by exact (by first | exact rfl | simp)) ?_
                first | (simp only [Act.put, List.setIfInBounds_toArray, List.set_cons_succ, List.set_cons_zero, hp]; done) | simp [Act.put, hp]
              refine AllOps.cons (fun x u hC hT hp K hK => ?_) ?_
              · simp [KnownTill, Region.binds, VKl] at hp
                clear hT
                go_simp
                refine hK _ _ _ hC (Below.refl _ _) (by exact rfl) ?_
                first | (simp only [Act.put, List.setIfInBounds_toArray, List.set_cons_succ, List.set_cons_zero, hp]; done) | simp [Act.put, hp]
              refine AllOps.cons (fun x u hC hT hp K hK => ?_) ?_
              · simp [KnownTill, Region.binds, VKl] at hp
                clear hT
                go_simp
                refine hK _ _ _ hC (Below.refl _ _) (by exact rfl) ?_
                first | (simp only [Act.put, List.setIfInBounds_toArray, List.set_cons_succ, List.set_cons_zero, hp]; done) | simp [Act.put, hp]
              refine AllOps.cons (fun x u hC hT hp K hK => ?_) ?_
              · simp [KnownTill, Region.binds, VKl] at hp
                clear hT
                go_simp
                refine hK _ _ _ hC (Below.refl _ _) (by exact rfl) ?_
                first | (simp only [Act.put, List.setIfInBounds_toArray, List.set_cons_succ, List.set_cons_zero, hp]; done) | simp [Act.put, hp]
              refine AllOps.cons (fun x u hC hT hp K hK => ?_) ?_
              · simp [KnownTill, Region.binds, VKl] at hp
                clear hT
                go_simp
                refine hK _ _ _ hC (Below.refl _ _) (by exact (by first | exact rfl | simp)) ?_
                first | (simp only [Act.put, List.setIfInBounds_toArray, List.set_cons_succ, List.set_cons_zero, hp]; done) | simp [Act.put, hp]
              refine AllOps.cons (fun x u hC hT hp K hK => ?_) ?_
              · simp [KnownTill, Region.binds, VKl] at hp
                clear hT
                go_simp
                refine hK _ _ _ hC (Below.refl _ _) (by exact rfl) ?_
                first | (simp only [Act.put, List.setIfInBounds_toArray, List.set_cons_succ, List.set_cons_zero, hp]; done) | simp [Act.put, hp]
              refine AllOps.cons (fun x u hC hT hp K hK => ?_) ?_
              · simp [KnownTill, Region.binds, VKl] at hp
                clear hT
                go_simp
                refine hK _ _ _ hC (Below.refl _ _) (by exact rfl) ?_
                first | (simp only [Act.put, List.setIfInBounds_toArray, List.set_cons_succ, List.set_cons_zero, hp]; done) | simp [Act.put, hp]
              refine AllOps.cons (fun x u hC hT hp K hK => ?_) ?_
              · simp [KnownTill, Region.binds, VKl] at hp
                clear hT
                go_simp
                refine hK _ _ _ hC (Below.refl _ _) (by exact rfl) ?_
                first | (simp only [Act.put, List.setIfInBounds_toArray, List.set_cons_succ, List.set_cons_zero, hp]; done) | simp [Act.put, hp]
              refine AllOps.cons (fun x u hC hT hp K hK => ?_) ?_
              · simp [KnownTill, Region.binds, VKl] at hp
                clear hT
                go_simp
                refine hK _ _ _ hC (Below.refl _ _) (by exact rfl) ?_
                first | (simp only [Act.put, List.setIfInBounds_toArray, List.set_cons_succ, List.set_cons_zero, hp]; done) | simp [Act.put, hp]
              refine AllOps.cons (fun x u hC hT hp K hK => ?_) ?_
              · simp [KnownTill, Region.binds, VKl] at hp
                clear hT
                go_simp
                refine (HS.out u hC).mono ?_
                rintro e wA ⟨rfl, hbA⟩
                refine hK _ _ _ (bt hC hbA) hbA (by exact rfl) ?_
                first | (simp only [Act.put, List.setIfInBounds_toArray, List.set_cons_succ, List.set_cons_zero, hp]; done) | simp [Act.put, hp]
              refine AllOps.cons (fun x u hC hT hp K hK => ?_) ?_
              · simp [KnownTill, Region.binds, VKl] at hp
                clear hT
                go_simp
                refine hK _ _ _ hC (Below.refl _ _) (by exact rfl) ?_
                first | (simp only [Act.put, List.setIfInBounds_toArray, List.set_cons_succ, List.set_cons_zero, hp]; done) | simp [Act.put, hp]
              refine AllOps.cons (fun x u hC hT hp K hK => ?_) ?_
              · simp [KnownTill, Region.binds, VKl] at hp
                clear hT
                go_simp
                refine hK _ _ _ hC (Below.refl _ _) (by exact rfl) ?_
                first | (simp only [Act.put, List.setIfInBounds_toArray, List.set_cons_succ, List.set_cons_zero, hp]; done) | simp [Act.put, hp]
              refine AllOps.cons (fun x u hC hT hp K hK => ?_) ?_
              · simp [KnownTill, Region.binds, VKl] at hp
                clear hT
                go_simp
                refine hK _ _ _ hC (Below.refl _ _) (by exact rfl) ?_
                first | (simp only [Act.put, List.setIfInBounds_toArray, List.set_cons_succ, List.set_cons_zero, hp]; done) | simp [Act.put, hp]
              refine AllOps.cons (fun x u hC hT hp K hK => ?_) ?_
              · simp [KnownTill, Region.binds, VKl] at hp
                clear hT
                go_simp
                refine hK _ _ _ hC (Below.refl _ _) (by exact rfl) ?_
                first | (simp only [Act.put, List.setIfInBounds_toArray, List.set_cons_succ, List.set_cons_zero, hp]; done) | simp [Act.put, hp]
              refine AllOps.cons (fun x u hC hT hp K hK => ?_) ?_
              · simp [KnownTill, Region.binds, VKl] at hp
                clear hT
                go_simp
                refine hK _ _ _ hC (Below.refl _ _) (by exact rfl) ?_
                first | (simp only [Act.put, List.setIfInBounds_toArray, List.set_cons_succ, List.set_cons_zero, hp]; done) | simp [Act.put, hp]
              refine AllOps.cons (fun x u hC hT hp K hK => ?_) ?_
              · simp [KnownTill, Region.binds, VKl] at hp
                clear hT
                go_simp
                refine hK _ _ _ hC (Below.refl _ _) (by exact (by first | exact rfl | simp)) ?_
                first | (simp only [Act.put, List.setIfInBounds_toArray, List.set_cons_succ, List.set_cons_zero, hp]; done) | simp [Act.put, hp]
              refine AllOps.cons (fun x u hC hT hp K hK => ?_) ?_
              · simp [KnownTill, Region.binds, VKl] at hp
                clear hT
                go_simp
                refine hK _ _ _ hC (Below.refl _ _) (by exact rfl) ?_
                first | (simp only [Act.put, List.setIfInBounds_toArray, List.set_cons_succ, List.set_cons_zero, hp]; done) | simp [Act.put, hp]
              refine AllOps.cons (fun x u hC hT hp K hK => ?_) ?_
              · simp [KnownTill, Region.binds, VKl] at hp
                clear hT
                go_simp
                refine hK _ _ _ hC (Below.refl _ _) (by exact rfl) ?_
                first | (simp only [Act.put, List.setIfInBounds_toArray, List.set_cons_succ, List.set_cons_zero, hp]; done) | simp [Act.put, hp]
              refine AllOps.cons (fun x u hC hT hp K hK => ?_) ?_
              · simp [KnownTill, Region.binds, VKl] at hp
                clear hT
                go_simp
                refine hK _ _ _ hC (Below.refl _ _) (by exact rfl) ?_
                first | (simp only [Act.put, List.setIfInBounds_toArray, List.set_cons_succ, List.set_cons_zero, hp]; done) | simp [Act.put, hp]
              refine AllOps.cons (fun x u hC hT hp K hK => ?_) ?_
              · simp [KnownTill, Region.binds, VKl] at hp
                clear hT
                go_simp
                refine hK _ _ _ hC (Below.refl _ _) (by exact rfl) ?_
                first | (simp only [Act.put, List.setIfInBounds_toArray, List.set_cons_succ, List.set_cons_zero, hp]; done) | simp [Act.put, hp]
              refine AllOps.cons (fun x u hC hT hp K hK => ?_) ?_
              · simp [KnownTill, Region.binds, VKl] at hp
                clear hT
                go_simp
                refine hK _ _ _ hC (Below.refl _ _) (by exact rfl) ?_
                first | (simp only [Act.put, List.setIfInBounds_toArray, List.set_cons_succ, List.set_cons_zero, hp]; done) | simp [Act.put, hp]
              refine AllOps.cons (fun x u hC hT hp K hK => ?_) ?_
              · simp [KnownTill, Region.binds, VKl] at hp
                clear hT
                go_simp
                refine hK _ _ _ hC (Below.refl _ _) (by exact rfl) ?_
                first | (simp only [Act.put, List.setIfInBounds_toArray, List.set_cons_succ, List.set_cons_zero, hp]; done) | simp [Act.put, hp]
              refine AllOps.cons (fun x u hC hT hp K hK => ?_) ?_
              · simp [KnownTill, Region.binds, VKl] at hp
                clear hT
                go_simp
                refine hK _ _ _ hC (Below.refl _ _) (by exact rfl) ?_
                first | (simp only [Act.put, List.setIfInBounds_toArray, List.set_cons_succ, List.set_cons_zero, hp]; done) | simp [Act.put, hp]
              refine AllOps.cons (fun x u hC hT hp K hK => ?_) ?_
              · simp [KnownTill, Region.binds, VKl] at hp
                clear hT
                have qq := (show Below w3.heap.size w3 u from hC).cell (p := ⟨b, o + j * 5 + 1, none⟩) HBl.out
                rw [Hp1.out] at qq
                go_simp
                refine hK _ _ _ hC (Below.refl _ _) (by exact rfl) ?_
                first | (simp only [Act.put, List.setIfInBounds_toArray, List.set_cons_succ, List.set_cons_zero, hp]; done) | simp [Act.put, hp]
              refine AllOps.cons (fun x u hC hT hp K hK => ?_) ?_
              · simp [KnownTill, Region.binds, VKl] at hp
                clear hT
                go_simp
                refine (HBz.out u hC).mono ?_
                rintro e wA ⟨rfl, hbA⟩
                refine hK _ _ _ (bt hC hbA) hbA (by exact rfl) ?_
                first | (simp only [Act.put, List.setIfInBounds_toArray, List.set_cons_succ, List.set_cons_zero, hp]; done) | simp [Act.put, hp]
              refine AllOps.cons (fun x u hC hT hp K hK => ?_) ?_
              · simp [KnownTill, Region.binds, VKl] at hp
                clear hT
                go_simp
                refine hK _ _ _ hC (Below.refl _ _) (by exact rfl) ?_
                first | (simp only [Act.put, List.setIfInBounds_toArray, List.set_cons_succ, List.set_cons_zero, hp]; done) | simp [Act.put, hp]
              refine AllOps.cons (fun x u hC hT hp K hK => ?_) ?_
              · simp [KnownTill, Region.binds, VKl] at hp
                clear hT
                go_simp
                refine hK _ _ _ hC (Below.refl _ _) (by exact rfl) ?_
                first | (simp only [Act.put, List.setIfInBounds_toArray, List.set_cons_succ, List.set_cons_zero, hp]; done) | simp [Act.put, hp]
              refine AllOps.cons (fun x u hC hT hp K hK => ?_) ?_
              · simp [KnownTill, Region.binds, VKl] at hp
                clear hT
                go_simp
                refine hK _ _ _ hC (Below.refl _ _) (by exact rfl) ?_
                first | (simp only [Act.put, List.setIfInBounds_toArray, List.set_cons_succ, List.set_cons_zero, hp]; done) | simp [Act.put, hp]
              refine AllOps.cons (fun x u hC hT hp K hK => ?_) ?_
              · simp [KnownTill, Region.binds, VKl] at hp
                clear hT
                go_simp
                refine hK _ _ _ hC (Below.refl _ _) (by exact rfl) ?_
                first | (simp only [Act.put, List.setIfInBounds_toArray, List.set_cons_succ, List.set_cons_zero, hp]; done) | simp [Act.put, hp]
              refine AllOps.cons (fun x u hC hT hp K hK => ?_) ?_
              · simp [KnownTill, Region.binds, VKl] at hp
                clear hT
                go_simp
                refine hK _ _ _ hC (Below.refl _ _) (by exact rfl) ?_
                first | (simp only [Act.put, List.setIfInBounds_toArray, List.set_cons_succ, List.set_cons_zero, hp]; done) | simp [Act.put, hp]
              refine AllOps.cons (fun x u hC hT hp K hK => ?_) ?_
              · simp [KnownTill, Region.binds, VKl] at hp
                clear hT
                have qq := (show Below w3.heap.size w3 u from hC).cell (p := ⟨b, o + j * 5 + 1, none⟩) HBl.out
                rw [Hp1.out] at qq
                go_simp
                refine hK _ _ _ hC (Below.refl _ _) (by exact rfl) ?_
                first | (simp only [Act.put, List.setIfInBounds_toArray, List.set_cons_succ, List.set_cons_zero, hp]; done) | simp [Act.put, hp]
              refine AllOps.cons (fun x u hC hT hp K hK => ?_) ?_
              · simp [KnownTill, Region.binds, VKl] at hp
                clear hT
                go_simp
                refine (HFd.out u hC).mono ?_
                rintro e wA ⟨rfl, rfl⟩
                refine hK _ _ _ hC (Below.refl _ _) (by exact rfl) ?_
                first | (simp only [Act.put, List.setIfInBounds_toArray, List.set_cons_succ, List.set_cons_zero, hp]; done) | simp [Act.put, hp]
              refine AllOps.cons (fun x u hC hT hp K hK => ?_) ?_
              · simp [KnownTill, Region.binds, VKl] at hp
                clear hT
                go_simp
                refine hK _ _ _ hC (Below.refl _ _) (by exact (by first | exact rfl | simp)) ?_
                first | (simp only [Act.put, List.setIfInBounds_toArray, List.set_cons_succ, List.set_cons_zero, hp]; done) | simp [Act.put, hp]
              refine AllOps.cons (fun x u hC hT hp K hK => ?_) ?_
              · simp [KnownTill, Region.binds, VKl] at hp
                clear hT
                go_simp
                refine hK _ _ _ hC (Below.refl _ _) (by exact (by first | exact rfl | simp)) ?_
                first | (simp only [Act.put, List.setIfInBounds_toArray, List.set_cons_succ, List.set_cons_zero, hp]; done) | simp [Act.put, hp]
              refine AllOps.cons (fun x u hC hT hp K hK => ?_) ?_
              · simp [KnownTill, Region.binds, VKl] at hp
                clear hT
                go_simp
                refine hK _ _ _ hC (Below.refl _ _) (by exact rfl) ?_
                first | (simp only [Act.put, List.setIfInBounds_toArray, List.set_cons_succ, List.set_cons_zero, hp]; done) | simp [Act.put, hp]
              exact AllOps.nil
            case finB =>
              intro x u hC hV
              have e101 : x 36 = .bool false := hV 36 (by decide) rfl
              rw [e101]
              clear e101
              clear hV
              have HS1 : Hid (∃ P ws, ws.length ≤ j + 1 ∧ LvAt w u g xb S2 P ws (31 * (j + 1)) ∧ OwnC u BA A c rl ∧ (∀ r, blk A = some r → ¬ S2.B r ∧ ∀ y ∈ ws, blk y.A ≠ some r) ∧ w.heap.size ≤ BA) := Lib.hid ⟨P', ws', HZ.out.2.1, (HZ.out.1.below hC).more (by omega), own_same HZ.out.2.2.2.1 (fun r hr _ _ => (show Below w3.heap.size w3 u from hC).block r hr), fun r e => ⟨HZ.out.2.2.2.2.2.1 r e, fun y hy => HZ.out.2.2.2.2.1 y hy r e⟩, HZ.out.2.2.2.2.2.2⟩
              have HLq := Lib.hid HZ.out.2.2.1
              clear hC HS HBz HFd HZ Hp1 HBl HL hf HR
              go_wp2_with fail
              go_loopw [14] (fun i wr => ∃ (i0 : Nat) (l' : List Ch), i0 ≤ q6 ∧ i = .int .i64 i0 ∧ Hid (q6 = l'.length ∧ ∃ P ws, ws.length ≤ j + 1 ∧ LvAt w wr g xb S2 P ws (31 * (j + 1)) ∧ OwnC wr BA A c l' ∧ (∀ r, blk A = some r → ¬ S2.B r ∧ ∀ y ∈ ws, blk y.A ≠ some r) ∧ w.heap.size ≤ BA)) (fun i _ => q6 - (intOf i).toNat)
              case atStart => exact ⟨0, rl, Nat.zero_le _, rfl, Lib.hid ⟨HLq.out, HS1.out⟩⟩
              case round =>
                clear HS1 HLq
                obtain ⟨i0, l', hi, rfl, HI⟩ := hrel
                by_cases hiq : i0 < q6
                · have hiI : (i0 : Int) < (q6 : Int) := by omega
                  obtain ⟨hlq, P2, ws2, hwl, hlv, own, hSA, hwA⟩ := HI.out
                  have hil : i0 < l'.length := by rw [← hlq]; exact hiq
                  obtain ⟨ob, cap, e⟩ := Joins.ownsRow_form own (by omega)
                  cases e
                  unfold OwnC at own
                  rw [← hlq] at own
                  obtain ⟨hoB, hol⟩ := own.lt ob rfl
                  obtain ⟨a1, a2, a3⟩ := chV_at l' i0 hil
                  have c1 := (own.cellAt (i0 * 3 + 2) (by omega)).trans a3
                  have f1 := own.frozenAt (i0 * 3 + 2)
                  obtain ⟨xx, hxx⟩ : ∃ xx, xx = l'[i0]'hil := ⟨_, rfl⟩
                  rw [← hxx] at c1
                  have st := own.stored (i0 * 3 + 2) (.int .u64 (77 : Nat))
                  have hset : (chV l').set (i0 * 3 + 2) (.int .u64 (77 : Nat)) = chV (l'.set i0 ⟨xx.k, xx.y, 77⟩) := chV_set_v hxx
                  rw [hset] at st
                  have hblk : ∃ cur : Array Value, Blk wr ob 47 cur := by
                    rcases own.2 with ⟨h1, _⟩ | ⟨g', cap', cur, h1, _, h2, _⟩
                    · cases h1
                    · cases h1; exact ⟨cur, h2⟩
                  obtain ⟨cur, hcur⟩ := hblk
                  have HN2 : Hid (q6 = (l'.set i0 ⟨xx.k, xx.y, 77⟩).length ∧ ∃ P ws, ws.length ≤ j + 1 ∧ LvAt w (wr.setCell ⟨ob, i0 * 3 + 2, none⟩ (.int .u64 (77 : Nat))) g xb S2 P ws (31 * (j + 1)) ∧ OwnC (wr.setCell ⟨ob, i0 * 3 + 2, none⟩ (.int .u64 (77 : Nat))) BA (some ⟨ob, 0, none⟩) c (l'.set i0 ⟨xx.k, xx.y, 77⟩) ∧ (∀ r, blk (some (⟨ob, 0, none⟩ : Addr)) = some r → ¬ S2.B r ∧ ∀ y ∈ ws, blk y.A ≠ some r) ∧ w.heap.size ≤ BA) := Lib.hid
                    ⟨by rw [List.length_set]; exact hlq, P2, ws2, hwl, hlv.write st.2 hcur (hSA ob rfl).1 (hSA ob rfl).2 (Nat.le_trans hwA hoB), by unfold OwnC; rw [List.length_set, ← hlq]; exact st.1, hSA, hwA⟩
                  clear hlq hwl hlv own hSA hwA hoB hol a1 a2 a3 st hset hcur hxx HI hil
                  go_wp2
                  go_roundw
                  case rel => exact ⟨i0 + 1, _, by omega, by go_num, HN2⟩
                  case measure => simp [intOf]; omega
                · obtain rfl : i0 = q6 := by omega
                  have hiI : ¬ (i0 : Int) < (i0 : Int) := by omega
                  have HT : Hid (∃ S P ws, ws.length ≤ j + 1 ∧ LvAt w wr g xb S P ws (31 * (j + 1))) := Lib.hid (by
                    obtain ⟨_, P2, ws2, hwl, hlv, _⟩ := HI.out
                    exact ⟨S2, P2, ws2, hwl, hlv⟩)
                  clear HI
                  go_wp2_with fail
                  go_loopw [15] (fun i wr => ∃ (k : Nat), k ≤ 18 ∧ i = .int .i64 ((k : Int) - 1) ∧ Hid (∃ S P ws, ws.length ≤ j + 1 ∧ LvAt w wr g xb S P ws (31 * (j + 1)))) (fun i _ => 18 - ((intOf i) + 1).toNat)
                  case atStart => exact ⟨0, by omega, rfl, HT⟩
                  case round =>
                    clear HT
                    obtain ⟨k, hk, rfl, HV2⟩ := hrel
                    by_cases hk18 : k < 18
                    · have hkI : (k : Int) - 1 ≤ 16 := by omega
                      obtain ⟨S3, P3, ws3, hwl, hlv⟩ := HV2.out
                      obtain ⟨cs3, hk3⟩ := hlv.kv
                      have hva := value_any g _ cs3 S3 _ ((k : Int) - 1) wr hk3
                      have hvb := fun u (hu : Below wr.heap.size wr u) => rvalue_any w.heap.size xb P3 ws3 S3.L ((k : Int) - 1) u (hlv.rt.below hu)
                      rw [hlv.rl.val] at hva
                      obtain ⟨⟨vv, vt⟩, hvv⟩ : ∃ R, R = valP P3 ((k : Int) - 1) := ⟨_, rfl⟩
                      rw [← hvv] at hva hvb
                      dsimp only at hva hvb
                      have HVA := Lib.hid hva
                      have HVB := Lib.hid hvb
                      have HNX : Hid (∀ u, Below wr.heap.size wr u → ∃ S P ws, ws.length ≤ j + 1 ∧ LvAt w u g xb S P ws (31 * (j + 1))) := Lib.hid (fun u hu => ⟨S3, P3, ws3, hwl, hlv.below hu⟩)
                      clear hwl hlv hk3 hva hvb hvv HV2
                      go_wp2_with fail
                      refine HVA.out.mono ?_
                      rintro e wy ⟨rfl, by_⟩
                      have HY := Lib.hid by_
                      clear by_
                      go_wp2_with fail
                      refine (HVB.out wy HY.out).mono ?_
                      rintro e wx ⟨rfl, rfl⟩
                      have HNY := Lib.hid (HNX.out wy HY.out)
                      go_wp2
                      go_roundw
                      case rel => exact ⟨k + 1, by omega, by go_num, HNY⟩
                      case measure => simp [intOf]; omega
                    · obtain rfl : k = 18 := by omega
                      have hkI : ¬ ((18 : Nat) : Int) - 1 ≤ 16 := by decide
                      go_wp2
                      go_roundw
                      case rel => exact ⟨j + 1, by omega, by omega, by go_num, HV2⟩
                      case measure => simp [intOf]; omega
        · have hm3I : (30 : Int) < (m : Int) := by omega
          have hb := HR.out.elim fun S h => h.elim fun P h => h.elim fun ws h => h.2.be
          have HBe := Lib.hid hb
          clear hb HR
          go_wp2_with fail
          refine (alive_any _).mono ?_
          rintro e w5 ⟨rfl, hb5⟩
          have hB5 := Lib.hid (bt HBe.out hb5)
          clear hb5
          go_wp2
          go_ret
          exact ⟨rfl, hB5.out⟩
      · have hj6I : ¬ (j : Int) < 60 := by omega
        have hb := HR.out.elim fun S h => h.elim fun P h => h.elim fun ws h => h.2.be
        have HBe := Lib.hid hb
        clear hb HR
        go_wp2_with fail
        refine (alive_any _).mono ?_
        rintro e w5 ⟨rfl, hb5⟩
        have hB5 := Lib.hid (bt HBe.out hb5)
        clear hb5
        go_wp2
        go_ret
        exact ⟨rfl, hB5.out⟩
    · have hjI : ¬ (j : Int) < (n : Int) := by omega
      have hb := HR.out.elim fun S h => h.elim fun P h => h.elim fun ws h => h.2.be
      have HBe := Lib.hid hb
      clear hb HR
      go_wp2_with fail
      refine (alive_any _).mono ?_
      rintro e w5 ⟨rfl, hb5⟩
      have hB5 := Lib.hid (bt HBe.out hb5)
      clear hb5
      go_wp2
      go_ret
      exact ⟨rfl, hB5.out⟩
end Go.Proofs.Ytihchfjdgeehoaa
