/- Layer 16: VoteSays. -/
import Derived.Test.YtmfjenhonghkpaaHa
import Derived.Test.YtmfjenhonghkpaaInvT
import Derived.Test.YtmfjenhonghkpaaOpenU
namespace Go.Proofs.Ytmfjenhonghkpaa
open Go Go.RowKit
set_option linter.unusedVariables false
set_option linter.unusedSimpArgs false

/-- Numbers that came in. -/
def InAt (w : World) (A : Option Addr) (zs : List Int) : Prop := 0 < zs.length → ∃ b o, A = some ⟨b, o, none⟩ ∧ b < w.heap.size ∧ ∀ i, (h : i < zs.length) → w.cell? ⟨b, o + i, none⟩ = some (.int .i64 (zs[i]'h))
theorem InAt.below {w w' : World} {A : Option Addr} {zs : List Int} (h : InAt w A zs) (hb : Below w.heap.size w w') : InAt w' A zs := fun hl => by
  obtain ⟨b, o, rfl, hlt, hc⟩ := h hl
  exact ⟨b, o, rfl, Nat.lt_of_lt_of_le hlt hb.size, fun i hi => (hb.cell (p := ⟨b, _, none⟩) hlt).trans (hc i hi)⟩
theorem InAt.nums {w : World} {A : Option Addr} {zs : List Int} (h : InAt w A zs) : NumsAt w A zs := fun hl => by
  obtain ⟨b, o, e, _, hc⟩ := h hl
  exact ⟨b, o, e, hc⟩
/-- What the law looks at. -/
structure VS (w0 : World) (xb : Nat) (v : Int) (A : Option Addr) (m c : Nat) (A5 : Option Addr) (n5 c5 : Nat) (k k' : Fo) (A0 : Option Addr) (zs : List Int) (u : World) : Prop where
  kt : Blk u w0.heap.size 24 #[.int .i64 v, .slice A m c]
  kx : Blk u xb 28 #[.int .i64 v, .slice A5 n5 c5]
  t : TreeAt u A k
  x : TreeAt u A5 k'
  z : InAt u A0 zs
  b : Below w0.heap.size w0 u
theorem VS.below {w0 : World} {xb : Nat} {v : Int} {A : Option Addr} {m c : Nat} {A5 : Option Addr} {n5 c5 : Nat} {k k' : Fo} {A0 : Option Addr} {zs : List Int} {u u' : World} (h : VS w0 xb v A m c A5 n5 c5 k k' A0 zs u) (hb : Below u.heap.size u u') : VS w0 xb v A m c A5 n5 c5 k k' A0 zs u' :=
  ⟨h.kt.below hb h.kt.lt, h.kx.below hb h.kx.lt, h.t.bt hb, h.x.bt hb, h.z.below hb, bt h.b hb⟩
def Two (f : Nat) (v : Int) (k : Fo) (x y : Value) : Prop := ∀ (A : Option Addr) (m c : Nat), Hid (m = k.len) → ∀ w : World, TreeAt w A k → Calls Try.prog f #[.agg #[.int .i64 v, .slice A m c]] w fun e w' => e = .returned (.tuple #[x, y]) ∧ Below w.heap.size w w'
def Lst (f : Nat) (v : Int) (k : Fo) (L : List Int) (y : Value) : Prop := ∀ (A : Option Addr) (m c : Nat), Hid (m = k.len) → ∀ w : World, TreeAt w A k → Calls Try.prog f #[.agg #[.int .i64 v, .slice A m c]] w fun e w' => (∃ n A2 c2, e = .returned (.tuple #[.slice A2 n c2, y]) ∧ n = L.length ∧ InAt w' A2 L) ∧ Below w.heap.size w w'
theorem EndsAt.inAt {u : World} {B : Nat} {A : Option Addr} {c : Nat} {es : List Int} (h : EndsAt u B A c es) : InAt u A es := fun hl => by
  obtain ⟨b, o, e, hc⟩ := h.nums hl
  exact ⟨b, o, e, World.block_lt_of_cell? _ _ (hc 0 hl), hc⟩
theorem nil_inAt {w : World} {A : Option Addr} : InAt w A [] := fun h => by simp at h
/-- All answers, of a tree and of what is made of it. -/
theorem answers (v : Int) (k : Fo) : ∃ (S E F : Int) (C : Bool) (L : List Int), C = (S == 1 || S == 2) ∧ L.length ≤ 64 ∧
    Two 11 v k (.int .i64 S) (.int .i64 E) ∧ Two 12 v (asK k 199).1 (.int .i64 S) (.int .i64 E) ∧ Two 13 v k (.bool C) (.int .i64 E) ∧
    Lst 14 v k L (.int .i64 E) ∧ Lst 15 v (asK k 199).1 L (.int .i64 E) ∧ Two 16 v k (.int .i64 F) (.int .i64 E) ∧ Two 17 v (asK k 199).1 (.int .i64 F) (.int .i64 E) := by
  have hr' := asK_right v k
  rcases hr : rightB v k with _ | _
  · rw [hr] at hr'
    refine ⟨0, 1, 0, false, [], by decide, by simp, fun A m c hm w ht => says_no v A k m c hm w ht hr, fun A m c hm w ht => refsays_no v A _ m c hm w ht hr', fun A m c hm w ht => commits_no v A k m c hm w ht hr, fun A m c hm w ht => (told_no v A k m c hm w ht hr).mono ?_, fun A m c hm w ht => (reftold_no v A _ m c hm w ht hr').mono ?_, fun A m c hm w ht => flows_no v A k m c hm w ht hr, fun A m c hm w ht => refflows_no v A _ m c hm w ht hr'⟩
    · rintro e w' ⟨rfl, hb⟩; exact ⟨⟨0, none, 0, rfl, rfl, nil_inAt⟩, hb⟩
    · rintro e w' ⟨rfl, hb⟩; exact ⟨⟨0, none, 0, rfl, rfl, nil_inAt⟩, hb⟩
  · rw [hr] at hr'
    rw [asK_same hr]
    have hcnt := right_cnt hr
    have hC : (saysB v k != 3) = (saysB v k == 1 || saysB v k == 2) := by
      unfold saysB says3L
      split
      · split <;> rfl
      · rfl
    have hL : (tolF 1 k).length ≤ 64 := by have := tolF_len k 1; omega
    have hF : flowsM v k = 2 * k.cnt + 3 * (tolF 1 k).length := by rw [flows_count hr, ← told_count hr, told_doc hr]
    have hS := saysB_doc v k
    refine ⟨saysB v k, 0, (flowsM v k : Nat), _, tolF 1 k, rfl, hL, fun A m c hm w ht => says_ok v A k m c hm w ht hr _ rfl, fun A m c hm w ht => by rw [hS]; exact refsays_ok v A k m c hm w ht hr, fun A m c hm w ht => commits_ok v A k m c hm w ht hr _ hC, fun A m c hm w ht => (told_ok v A k m c hm w ht hr).mono ?_, fun A m c hm w ht => (reftold_ok v A k m c hm w ht hr).mono ?_, fun A m c hm w ht => flows_ok v A k m c hm w ht hr, fun A m c hm w ht => by rw [hF]; exact refflows_ok v A k m c hm w ht hr⟩
    · rintro e w' ⟨⟨A2, c2, rfl, hE⟩, hb⟩
      rw [told_doc hr] at hE ⊢
      exact ⟨⟨_, A2, c2, rfl, rfl, hE.inAt⟩, hb⟩
    · rintro e w' ⟨⟨n, A2, c2, rfl, hn, hE⟩, hb⟩
      exact ⟨⟨n, A2, c2, rfl, hn, hE.inAt⟩, hb⟩
def VVs (b2 xb m c n5 c5 nz cz : Nat) (vv qs : Int) (R : Bool) (A A5 A0 : Option Addr) (i : Nat) (v : Value) (w : World) : Prop :=
  match i with
  | 0 => v = .bool true
  | 1 => v = .bool true
  | 2 => v = .agg #[.int .i64 vv, .slice A m c]
  | 3 => v = .bool R
  | 4 => v = .agg #[.int .i64 vv, .slice A5 n5 c5]
  | 5 => v = .bool R
  | 6 => v = .bool true
  | 7 => v = .bool true
  | 8 => v = .bool true
  | 9 => v = .slice A0 nz cz
  | 10 => v = .int .i64 qs
  | 11 => v = .slice A0 nz cz
  | 12 => v = .int .i64 qs
  | 13 => v = .bool true
  | 14 => v = .bool true
  | 15 => v = .bool true
  | _ => True
theorem VVs.mono {b2 xb m c n5 c5 nz cz : Nat} {vv qs : Int} {R : Bool} {A A5 A0 : Option Addr} {q i : Nat} {v : Value} {u u' : World} (he : Below u.heap.size u u') (h : VVs b2 xb m c n5 c5 nz cz vv qs R A A5 A0 i v u) : VVs b2 xb m c n5 c5 nz cz vv qs R A A5 A0 i v u' := by
  unfold VVs at h ⊢
  split at h <;> exact h

set_option maxRecDepth 100000 in
set_option maxHeartbeats 4000000 in
theorem voteSays_walk (o : NodeV) (A0 : Option Addr) (zs : List Int) (cz : Nat) (w : World) (ho : NodeOk w o) (hz : InAt w A0 zs) (hzl : zs.length ≤ maxLen) : Calls Try.prog 3 #[o.val, .slice A0 zs.length cz] w fun e w' => e = .returned (.bool true) ∧ Below w.heap.size w w' := by
  obtain ⟨v, A, k, c⟩ := o
  obtain ⟨_, _, ht⟩ := ho
  show Calls Try.prog _ #[.agg #[.int .i64 v, .slice A k.len c], .slice A0 zs.length cz] w _
  obtain ⟨m, hm⟩ : ∃ m, m = k.len := ⟨_, rfl⟩
  rw [← hm]
  have Hm := Lib.hid hm
  have hml : m ≤ maxLen := by rw [hm]; exact ht.len
  obtain ⟨nz, hnz⟩ : ∃ nz, nz = zs.length := ⟨_, rfl⟩
  rw [← hnz]
  have Hnz := Lib.hid hnz
  clear hm hnz hzl
  obtain ⟨S, E, F, C, L, hCS, hL, hA⟩ := answers v k
  have HA := Lib.hid hA
  have HL := Lib.hid hL
  obtain ⟨W1, hW1⟩ : ∃ W1, W1 = w.alloc (.cells #[.int .i64 v, .slice A m c] 24) := ⟨_, rfl⟩
  obtain ⟨W2, hW2⟩ : ∃ W2, W2 = W1.alloc (.cells #[.int .i64 200] 3) := ⟨_, rfl⟩
  have k1 : Blk W1 w.heap.size 24 #[.int .i64 v, .slice A m c] := by rw [hW1]; exact Blk.new _ _ _
  have b1 : Below w.heap.size w W1 := by rw [hW1]; exact ba _ _
  have s1 : W1.heap.size = w.heap.size + 1 := by rw [hW1]; simp
  have k12 : Blk W2 w.heap.size 24 #[.int .i64 v, .slice A m c] := by rw [hW2]; exact k1.alloc _
  have kl2 : Blk W2 (w.heap.size + 1) 3 #[.int .i64 ((200 : Nat) : Int)] := by rw [hW2, ← s1]; exact Blk.new _ _ _
  have b2 : Below W1.heap.size W1 W2 := by rw [hW2]; exact ba _ _
  have s2 : W2.heap.size = w.heap.size + 2 := by rw [hW2]; simp [s1]
  have b02 := bt b1 b2
  have hX : FoX W2 (fun b => b < W2.heap.size ∧ b ≠ w.heap.size + 1) k A := (FoX.of (ht.fo.below b02)).more fun b hb => by omega
  have has := as_any k v A m c (w.heap.size + 1) 200 Hm W2 hml hX kl2 (by omega) (by omega)
  rw [show 200 - 1 = 199 by omega] at has
  have HAs := Lib.hid has
  have c0 := k12.cell 0
  have c1 := k12.cell 1
  simp only [List.getElem?_toArray, List.getElem?_cons_zero, List.getElem?_cons_succ] at c0 c1
  have H2 := Lib.hid (And.intro k12 (And.intro s2 (And.intro b02 (And.intro ht hz))))
  have HW := Lib.hid (show W2 = (w.alloc (.cells #[.int .i64 v, .slice A m c] 24)).alloc (.cells #[.int .i64 200] 3) by rw [hW2, hW1])
  rw [hW2, hW1] at c0 c1
  clear hA hL hW1 hW2 k1 b1 s1 k12 kl2 b2 s2 b02 hX has ht hz
  go_enter Try.func3, Try.ntmps3
  go_wp2_with fail
  rw [← HW.out]
  refine HAs.out.mono ?_
  rintro e w3 ⟨⟨A5, n5, c5, rfl, hn5, hn52, hf5⟩, kl3, g3⟩
  clear c0 c1
  -- the document's tree lies
  obtain ⟨W4, hW4⟩ : ∃ W4, W4 = w3.alloc (.cells #[.int .i64 v, .slice A5 n5 c5] 28) := ⟨_, rfl⟩
  have b4 : Below w3.heap.size w3 W4 := by rw [hW4]; exact ba _ _
  have kx4 : Blk W4 w3.heap.size 28 #[.int .i64 v, .slice A5 n5 c5] := by rw [hW4]; exact Blk.new _ _ _
  have hv4 : VS w w3.heap.size v A m c A5 n5 c5 k (asK k 199).1 A0 zs W4 := by
    obtain ⟨k12, s2, b02, ht2, hz2⟩ := H2.out
    have gs := g3.size
    have b3 : Below w.heap.size w w3 := b02.grown g3 (by omega) (fun r e => by cases e; omega)
    have bw := b3.trans (b4.mono b3.size)
    exact ⟨(k12.kept g3 (by simp)).below b4 (by omega), kx4, ht2.bt bw, TreeAt.bt ⟨by rw [← hn5]; unfold maxLen; omega, ((hf5.more (S' := fun b => b < w3.heap.size) (fun b hb => hb.2)).at_)⟩ b4, hz2.below bw, bw⟩
  obtain ⟨xb, hxb⟩ : ∃ xb, xb = w3.heap.size := ⟨_, rfl⟩
  rw [← hxb] at hv4
  have HX := Lib.hid hn5
  clear hn5 hn52 hf5 kl3 g3 kx4 b4 H2 HAs hml
  have HW4 := Lib.hid hW4
  have Hxb := Lib.hid hxb
  have hv := Lib.hid hv4
  clear hW4 hv4 hxb
  by_cases hnz : 1000 < nz
  · have hnI : (1000 : Int) < (nz : Int) := by omega
    go_wp2_with fail
    rw [← HW4.out]
    refine (alive_any _).mono ?_
    rintro e w5 ⟨rfl, b5⟩
    have hF := bt hv.out.b b5
    clear b5
    go_wp2
    go_ret
    exact ⟨rfl, hF⟩
  have hnI : ¬ (1000 : Int) < (nz : Int) := by omega
  have kk := hv.out.kt
  have c0 := kk.cell 0
  have c1 := kk.cell 1
  simp only [List.getElem?_toArray, List.getElem?_cons_zero, List.getElem?_cons_succ] at c0 c1
  rw [HW4.out] at c0 c1
  have hc := HA.out.1 A m c Hm _ hv.out.t
  have HC := Lib.hid hc
  clear kk hc
  go_wp2_with fail
  rw [← HW4.out]
  try rw [← Hxb.out]
  refine HC.out.mono ?_
  rintro e u0 ⟨rfl, bb⟩
  have hv0 := Lib.hid (hv.out.below bb)
  clear c0 c1 HC
  clear bb hv HW4
  have kk := hv0.out.kx
  have c0 := kk.cell 0
  have c1 := kk.cell 1
  simp only [List.getElem?_toArray, List.getElem?_cons_zero, List.getElem?_cons_succ] at c0 c1
  have hc := HA.out.2.1 A5 n5 c5 HX _ hv0.out.x
  have HC := Lib.hid hc
  clear kk hc
  go_wp2_with fail
  refine HC.out.mono ?_
  rintro e u1 ⟨rfl, bb⟩
  have hv1 := Lib.hid (hv0.out.below bb)
  clear c0 c1 HC
  clear bb hv0
  have kk := hv1.out.kt
  have c0 := kk.cell 0
  have c1 := kk.cell 1
  simp only [List.getElem?_toArray, List.getElem?_cons_zero, List.getElem?_cons_succ] at c0 c1
  have hc := HA.out.2.2.1 A m c Hm _ hv1.out.t
  have HC := Lib.hid hc
  clear kk hc
  go_wp2_with fail
  refine HC.out.mono ?_
  rintro e u2 ⟨rfl, bb⟩
  have hv2 := Lib.hid (hv1.out.below bb)
  clear c0 c1 HC
  clear bb hv1
  have kk := hv2.out.kt
  have c0 := kk.cell 0
  have c1 := kk.cell 1
  simp only [List.getElem?_toArray, List.getElem?_cons_zero, List.getElem?_cons_succ] at c0 c1
  have hc := HA.out.2.2.2.1 A m c Hm _ hv2.out.t
  have HC := Lib.hid hc
  clear kk hc
  go_wp2_with fail
  refine HC.out.mono ?_
  rintro e u3 ⟨⟨n3', A3', c3', rfl, hn3', hi3'⟩, bb⟩

  have HN3 := Lib.hid hn3'
  have HI3 := Lib.hid hi3'
  have hv3 := Lib.hid (hv2.out.below bb)
  clear c0 c1 HC hn3' hi3'
  clear bb hv2
  have kk := hv3.out.kx
  have c0 := kk.cell 0
  have c1 := kk.cell 1
  simp only [List.getElem?_toArray, List.getElem?_cons_zero, List.getElem?_cons_succ] at c0 c1
  have hc := HA.out.2.2.2.2.1 A5 n5 c5 HX _ hv3.out.x
  have HC := Lib.hid hc
  clear kk hc
  go_wp2_with fail
  refine HC.out.mono ?_
  rintro e u4 ⟨⟨n4', A4', c4', rfl, hn4', hi4'⟩, bb⟩
  obtain rfl : n4' = n3' := hn4'.trans HN3.out.symm
  have HN4 := Lib.hid hn4'
  have HI4 := Lib.hid hi4'
  have hv4 := Lib.hid (hv3.out.below bb)
  clear c0 c1 HC hn4' hi4'
  have HI3 := Lib.hid (HI3.out.below bb)
  clear bb hv3
  have kk := hv4.out.kt
  have c0 := kk.cell 0
  have c1 := kk.cell 1
  simp only [List.getElem?_toArray, List.getElem?_cons_zero, List.getElem?_cons_succ] at c0 c1
  have hc := HA.out.2.2.2.2.2.1 A m c Hm _ hv4.out.t
  have HC := Lib.hid hc
  clear kk hc
  go_wp2_with fail
  refine HC.out.mono ?_
  rintro e u5 ⟨rfl, bb⟩
  have hv5 := Lib.hid (hv4.out.below bb)
  clear c0 c1 HC
  have HI3 := Lib.hid (HI3.out.below bb)
  have HI4 := Lib.hid (HI4.out.below bb)
  clear bb hv4
  have kk := hv5.out.kx
  have c0 := kk.cell 0
  have c1 := kk.cell 1
  simp only [List.getElem?_toArray, List.getElem?_cons_zero, List.getElem?_cons_succ] at c0 c1
  have hc := HA.out.2.2.2.2.2.2 A5 n5 c5 HX _ hv5.out.x
  have HC := Lib.hid hc
  clear kk hc
  go_wp2_with fail
  refine HC.out.mono ?_
  rintro e u6 ⟨rfl, bb⟩
  have hv6 := Lib.hid (hv5.out.below bb)
  clear c0 c1 HC
  have HI3 := Lib.hid (HI3.out.below bb)
  have HI4 := Lib.hid (HI4.out.below bb)
  clear bb hv5
  have HI := Lib.hid (ints_same A3' A4' n4' c3' c4' L u6 HN4.out (by rw [HN4.out]; have := HL.out; omega) HI3.out.nums HI4.out.nums)
  have hq := Lib.hid HX
  have HR0 := asK_right v k
  rcases hs1 : (S == 1) with _ | _
  · rcases hs2 : (S == 2) with _ | _
    · skip
      go_wp2_with fail
      refine HI.out.mono ?_
      rintro e u7 ⟨rfl, bb⟩
      have hv7 := Lib.hid (hv6.out.below bb)
      clear bb hv6 HI HI3 HI4
      obtain ⟨R, hR⟩ : ∃ R, R = rightB v k := ⟨_, rfl⟩
      have hR' : rightB v (asK k 199).1 = R := by rw [hR]; exact HR0
      have HR1 : Hid (∀ u, Below u7.heap.size u7 u → Calls Try.prog 19 #[.agg #[.int .i64 v, .slice A m c]] u fun e w' => e = .returned (.bool R) ∧ Below u.heap.size u w') := Lib.hid fun u hu => by
        have ht := hv7.out.t.bt hu
        have := right_any v A k c u ht.len ht.fo
        rw [← Hm.out, ← hR] at this
        exact this
      have HR2 : Hid (∀ u, Below u7.heap.size u7 u → Calls Try.prog 20 #[.agg #[.int .i64 v, .slice A5 n5 c5]] u fun e w' => e = .returned (.bool R) ∧ Below u.heap.size u w') := Lib.hid fun u hu => by
        have := refright_any v A5 _ n5 c5 HX u (hv7.out.x.bt hu)
        rw [hR'] at this
        exact this
      obtain ⟨q, hqq⟩ : ∃ q, q = says3L zs := ⟨_, rfl⟩
      have HZ1 : Hid (∀ u, Below u7.heap.size u7 u → Calls Try.prog 21 #[.slice A0 nz cz] u fun e w' => e = .returned (.int .i64 q) ∧ Below u.heap.size u w') := Lib.hid fun u hu => by
        refine (says3_any A0 zs nz cz (Lib.hid Hnz.out) (by omega) u (hv7.out.z.below hu).nums).mono ?_
        rintro e w' ⟨rfl, rfl⟩
        exact ⟨by rw [hqq], Below.refl _ _⟩
      have HZ2 : Hid (∀ u, Below u7.heap.size u7 u → Calls Try.prog 22 #[.slice A0 nz cz] u fun e w' => e = .returned (.int .i64 q) ∧ Below u.heap.size u w') := Lib.hid fun u hu => by
        refine (refsays3_any A0 zs nz cz (Lib.hid Hnz.out) (by omega) u (hv7.out.z.below hu).nums).mono ?_
        rintro e w' ⟨rfl, rfl⟩
        exact ⟨by rw [hqq], Below.refl _ _⟩
      have kt := hv7.out.kt
      have kx := hv7.out.kx
      have hv0 := hv7
      clear hv7 hR hR' HR0 hqq
      go_wp2_with fail
      refine wp_region_invT (F := ?FS1) (V := VVs w.heap.size xb m c n5 c5 nz cz v q R A A5 A0) (dead := fun _ => none) (T := fun _ _ => True) (C := fun u => Below u7.heap.size u7 u) (E := fun _ u u' => Below u.heap.size u u') (by kernel_rfl) (by kernel_rfl) (by kernel_rfl) (fun x => ?hFS1) ?hmonoS1 ?hTmS1 ?hTS1 ?hCS1 ?stepS1 ?finS1
      case hFS1 => simp only [mkA, Act.put, List.setIfInBounds_toArray, List.set_cons_succ, List.set_cons_zero, Nat.reduceAdd, Nat.zero_add]; first | with_reducible rfl | rfl
      case hmonoS1 => exact fun q' i v u u' he hik hwt hdd hv => VVs.mono (q := q') he hv
      case hTmS1 => exact fun _ _ _ _ _ _ _ _ => trivial
      case hTS1 => exact fun j => trivial
      case hCS1 => exact (Below.refl _ _).drew
      case stepS1 =>
        refine AllOps.cons (fun x u hC hT hp K hK => ?_) ?_
        · clear hp hT
          go_simp
          refine (alive_any u).mono ?_
          rintro e wA ⟨rfl, hbA⟩
          refine hK _ _ _ (bt hC hbA) hbA (by exact rfl) ?_
          first | (simp only [Act.put, List.setIfInBounds_toArray, List.set_cons_succ, List.set_cons_zero]; done) | simp [Act.put]
        refine AllOps.cons (fun x u hC hT hp K hK => ?_) ?_
        · simp [KnownTill, Region.binds, VVs] at hp
          clear hT
          go_simp
          refine hK _ _ _ hC (Below.refl _ _) (by exact rfl) ?_
          first | (simp only [Act.put, List.setIfInBounds_toArray, List.set_cons_succ, List.set_cons_zero, hp]; done) | simp [Act.put, hp]
        refine AllOps.cons (fun x u hC hT hp K hK => ?_) ?_
        · simp [KnownTill, Region.binds, VVs] at hp
          clear hT
          have kq := kt.below (hC : Below _ _ u) kt.lt
          have qq0 := kq.cell 0
          have qq1 := kq.cell 1
          simp only [List.getElem?_toArray, List.getElem?_cons_zero, List.getElem?_cons_succ] at qq0 qq1
          go_simp
          refine hK _ _ _ hC (Below.refl _ _) (by exact rfl) ?_
          first | (simp only [Act.put, List.setIfInBounds_toArray, List.set_cons_succ, List.set_cons_zero, hp]; done) | simp [Act.put, hp]
        refine AllOps.cons (fun x u hC hT hp K hK => ?_) ?_
        · simp [KnownTill, Region.binds, VVs] at hp
          clear hT
          go_simp
          refine (HR1.out u hC).mono ?_
          rintro e wA ⟨rfl, hbA⟩
          refine hK _ _ _ (bt hC hbA) hbA (by exact rfl) ?_
          first | (simp only [Act.put, List.setIfInBounds_toArray, List.set_cons_succ, List.set_cons_zero, hp]; done) | simp [Act.put, hp]
        refine AllOps.cons (fun x u hC hT hp K hK => ?_) ?_
        · simp [KnownTill, Region.binds, VVs] at hp
          clear hT
          have kq := kx.below (hC : Below _ _ u) kx.lt
          have qq0 := kq.cell 0
          have qq1 := kq.cell 1
          simp only [List.getElem?_toArray, List.getElem?_cons_zero, List.getElem?_cons_succ] at qq0 qq1
          go_simp
          refine hK _ _ _ hC (Below.refl _ _) (by exact rfl) ?_
          first | (simp only [Act.put, List.setIfInBounds_toArray, List.set_cons_succ, List.set_cons_zero, hp]; done) | simp [Act.put, hp]
        refine AllOps.cons (fun x u hC hT hp K hK => ?_) ?_
        · simp [KnownTill, Region.binds, VVs] at hp
          clear hT
          go_simp
          refine (HR2.out u hC).mono ?_
          rintro e wA ⟨rfl, hbA⟩
          refine hK _ _ _ (bt hC hbA) hbA (by exact rfl) ?_
          first | (simp only [Act.put, List.setIfInBounds_toArray, List.set_cons_succ, List.set_cons_zero, hp]; done) | simp [Act.put, hp]
        refine AllOps.cons (fun x u hC hT hp K hK => ?_) ?_
        · simp [KnownTill, Region.binds, VVs] at hp
          clear hT
          go_simp
          refine hK _ _ _ hC (Below.refl _ _) (by exact (by first | exact rfl | simp)) ?_
          first | (simp only [Act.put, List.setIfInBounds_toArray, List.set_cons_succ, List.set_cons_zero, hp]; done) | simp [Act.put, hp]
        refine AllOps.cons (fun x u hC hT hp K hK => ?_) ?_
        · simp [KnownTill, Region.binds, VVs] at hp
          clear hT
          go_simp
          refine hK _ _ _ hC (Below.refl _ _) (by exact rfl) ?_
          first | (simp only [Act.put, List.setIfInBounds_toArray, List.set_cons_succ, List.set_cons_zero, hp]; done) | simp [Act.put, hp]
        refine AllOps.cons (fun x u hC hT hp K hK => ?_) ?_
        · simp [KnownTill, Region.binds, VVs] at hp
          clear hT
          go_simp
          refine hK _ _ _ hC (Below.refl _ _) (by exact rfl) ?_
          first | (simp only [Act.put, List.setIfInBounds_toArray, List.set_cons_succ, List.set_cons_zero, hp]; done) | simp [Act.put, hp]
        refine AllOps.cons (fun x u hC hT hp K hK => ?_) ?_
        · simp [KnownTill, Region.binds, VVs] at hp
          clear hT
          go_simp
          refine hK _ _ _ hC (Below.refl _ _) (by exact rfl) ?_
          first | (simp only [Act.put, List.setIfInBounds_toArray, List.set_cons_succ, List.set_cons_zero, hp]; done) | simp [Act.put, hp]
        refine AllOps.cons (fun x u hC hT hp K hK => ?_) ?_
        · simp [KnownTill, Region.binds, VVs] at hp
          clear hT
          go_simp
          refine (HZ1.out u hC).mono ?_
          rintro e wA ⟨rfl, hbA⟩
          refine hK _ _ _ (bt hC hbA) hbA (by exact rfl) ?_
          first | (simp only [Act.put, List.setIfInBounds_toArray, List.set_cons_succ, List.set_cons_zero, hp]; done) | simp [Act.put, hp]
        refine AllOps.cons (fun x u hC hT hp K hK => ?_) ?_
        · simp [KnownTill, Region.binds, VVs] at hp
          clear hT
          go_simp
          refine hK _ _ _ hC (Below.refl _ _) (by exact rfl) ?_
          first | (simp only [Act.put, List.setIfInBounds_toArray, List.set_cons_succ, List.set_cons_zero, hp]; done) | simp [Act.put, hp]
        refine AllOps.cons (fun x u hC hT hp K hK => ?_) ?_
        · simp [KnownTill, Region.binds, VVs] at hp
          clear hT
          go_simp
          refine (HZ2.out u hC).mono ?_
          rintro e wA ⟨rfl, hbA⟩
          refine hK _ _ _ (bt hC hbA) hbA (by exact rfl) ?_
          first | (simp only [Act.put, List.setIfInBounds_toArray, List.set_cons_succ, List.set_cons_zero, hp]; done) | simp [Act.put, hp]
        refine AllOps.cons (fun x u hC hT hp K hK => ?_) ?_
        · simp [KnownTill, Region.binds, VVs] at hp
          clear hT
          go_simp
          refine hK _ _ _ hC (Below.refl _ _) (by exact (by first | exact rfl | simp)) ?_
          first | (simp only [Act.put, List.setIfInBounds_toArray, List.set_cons_succ, List.set_cons_zero, hp]; done) | simp [Act.put, hp]
        refine AllOps.cons (fun x u hC hT hp K hK => ?_) ?_
        · simp [KnownTill, Region.binds, VVs] at hp
          clear hT
          go_simp
          refine hK _ _ _ hC (Below.refl _ _) (by exact rfl) ?_
          first | (simp only [Act.put, List.setIfInBounds_toArray, List.set_cons_succ, List.set_cons_zero, hp]; done) | simp [Act.put, hp]
        refine AllOps.cons (fun x u hC hT hp K hK => ?_) ?_
        · simp [KnownTill, Region.binds, VVs] at hp
          clear hT
          go_simp
          refine hK _ _ _ hC (Below.refl _ _) (by exact rfl) ?_
          first | (simp only [Act.put, List.setIfInBounds_toArray, List.set_cons_succ, List.set_cons_zero, hp]; done) | simp [Act.put, hp]
        exact AllOps.nil
      case finS1 =>
        intro x u9 hC hV
        have e4 : x 15 = .bool true := hV 15 (by decide) rfl
        rw [e4]
        clear e4
        clear hV
        have hF := bt hv0.out.b hC
        clear hC HR1 HR2 HZ1 HZ2 kt kx
        go_wp2
        go_ret
        exact ⟨rfl, hF⟩
    · skip
      go_wp2_with fail
      refine HI.out.mono ?_
      rintro e u7 ⟨rfl, bb⟩
      have hv7 := Lib.hid (hv6.out.below bb)
      clear bb hv6 HI HI3 HI4
      obtain ⟨R, hR⟩ : ∃ R, R = rightB v k := ⟨_, rfl⟩
      have hR' : rightB v (asK k 199).1 = R := by rw [hR]; exact HR0
      have HR1 : Hid (∀ u, Below u7.heap.size u7 u → Calls Try.prog 19 #[.agg #[.int .i64 v, .slice A m c]] u fun e w' => e = .returned (.bool R) ∧ Below u.heap.size u w') := Lib.hid fun u hu => by
        have ht := hv7.out.t.bt hu
        have := right_any v A k c u ht.len ht.fo
        rw [← Hm.out, ← hR] at this
        exact this
      have HR2 : Hid (∀ u, Below u7.heap.size u7 u → Calls Try.prog 20 #[.agg #[.int .i64 v, .slice A5 n5 c5]] u fun e w' => e = .returned (.bool R) ∧ Below u.heap.size u w') := Lib.hid fun u hu => by
        have := refright_any v A5 _ n5 c5 HX u (hv7.out.x.bt hu)
        rw [hR'] at this
        exact this
      obtain ⟨q, hqq⟩ : ∃ q, q = says3L zs := ⟨_, rfl⟩
      have HZ1 : Hid (∀ u, Below u7.heap.size u7 u → Calls Try.prog 21 #[.slice A0 nz cz] u fun e w' => e = .returned (.int .i64 q) ∧ Below u.heap.size u w') := Lib.hid fun u hu => by
        refine (says3_any A0 zs nz cz (Lib.hid Hnz.out) (by omega) u (hv7.out.z.below hu).nums).mono ?_
        rintro e w' ⟨rfl, rfl⟩
        exact ⟨by rw [hqq], Below.refl _ _⟩
      have HZ2 : Hid (∀ u, Below u7.heap.size u7 u → Calls Try.prog 22 #[.slice A0 nz cz] u fun e w' => e = .returned (.int .i64 q) ∧ Below u.heap.size u w') := Lib.hid fun u hu => by
        refine (refsays3_any A0 zs nz cz (Lib.hid Hnz.out) (by omega) u (hv7.out.z.below hu).nums).mono ?_
        rintro e w' ⟨rfl, rfl⟩
        exact ⟨by rw [hqq], Below.refl _ _⟩
      have kt := hv7.out.kt
      have kx := hv7.out.kx
      have hv0 := hv7
      clear hv7 hR hR' HR0 hqq
      go_wp2_with fail
      refine wp_region_invT (F := ?FS2) (V := VVs w.heap.size xb m c n5 c5 nz cz v q R A A5 A0) (dead := fun _ => none) (T := fun _ _ => True) (C := fun u => Below u7.heap.size u7 u) (E := fun _ u u' => Below u.heap.size u u') (by kernel_rfl) (by kernel_rfl) (by kernel_rfl) (fun x => ?hFS2) ?hmonoS2 ?hTmS2 ?hTS2 ?hCS2 ?stepS2 ?finS2
      case hFS2 => simp only [mkA, Act.put, List.setIfInBounds_toArray, List.set_cons_succ, List.set_cons_zero, Nat.reduceAdd, Nat.zero_add]; first | with_reducible rfl | rfl
      case hmonoS2 => exact fun q' i v u u' he hik hwt hdd hv => VVs.mono (q := q') he hv
      case hTmS2 => exact fun _ _ _ _ _ _ _ _ => trivial
      case hTS2 => exact fun j => trivial
      case hCS2 => exact (Below.refl _ _).drew
      case stepS2 =>
        refine AllOps.cons (fun x u hC hT hp K hK => ?_) ?_
        · clear hp hT
          go_simp
          refine (alive_any u).mono ?_
          rintro e wA ⟨rfl, hbA⟩
          refine hK _ _ _ (bt hC hbA) hbA (by exact rfl) ?_
          first | (simp only [Act.put, List.setIfInBounds_toArray, List.set_cons_succ, List.set_cons_zero]; done) | simp [Act.put]
        refine AllOps.cons (fun x u hC hT hp K hK => ?_) ?_
        · simp [KnownTill, Region.binds, VVs] at hp
          clear hT
          go_simp
          refine hK _ _ _ hC (Below.refl _ _) (by exact rfl) ?_
          first | (simp only [Act.put, List.setIfInBounds_toArray, List.set_cons_succ, List.set_cons_zero, hp]; done) | simp [Act.put, hp]
        refine AllOps.cons (fun x u hC hT hp K hK => ?_) ?_
        · simp [KnownTill, Region.binds, VVs] at hp
          clear hT
          have kq := kt.below (hC : Below _ _ u) kt.lt
          have qq0 := kq.cell 0
          have qq1 := kq.cell 1
          simp only [List.getElem?_toArray, List.getElem?_cons_zero, List.getElem?_cons_succ] at qq0 qq1
          go_simp
          refine hK _ _ _ hC (Below.refl _ _) (by exact rfl) ?_
          first | (simp only [Act.put, List.setIfInBounds_toArray, List.set_cons_succ, List.set_cons_zero, hp]; done) | simp [Act.put, hp]
        refine AllOps.cons (fun x u hC hT hp K hK => ?_) ?_
        · simp [KnownTill, Region.binds, VVs] at hp
          clear hT
          go_simp
          refine (HR1.out u hC).mono ?_
          rintro e wA ⟨rfl, hbA⟩
          refine hK _ _ _ (bt hC hbA) hbA (by exact rfl) ?_
          first | (simp only [Act.put, List.setIfInBounds_toArray, List.set_cons_succ, List.set_cons_zero, hp]; done) | simp [Act.put, hp]
        refine AllOps.cons (fun x u hC hT hp K hK => ?_) ?_
        · simp [KnownTill, Region.binds, VVs] at hp
          clear hT
          have kq := kx.below (hC : Below _ _ u) kx.lt
          have qq0 := kq.cell 0
          have qq1 := kq.cell 1
          simp only [List.getElem?_toArray, List.getElem?_cons_zero, List.getElem?_cons_succ] at qq0 qq1
          go_simp
          refine hK _ _ _ hC (Below.refl _ _) (by exact rfl) ?_
          first | (simp only [Act.put, List.setIfInBounds_toArray, List.set_cons_succ, List.set_cons_zero, hp]; done) | simp [Act.put, hp]
        refine AllOps.cons (fun x u hC hT hp K hK => ?_) ?_
        · simp [KnownTill, Region.binds, VVs] at hp
          clear hT
          go_simp
          refine (HR2.out u hC).mono ?_
          rintro e wA ⟨rfl, hbA⟩
          refine hK _ _ _ (bt hC hbA) hbA (by exact rfl) ?_
          first | (simp only [Act.put, List.setIfInBounds_toArray, List.set_cons_succ, List.set_cons_zero, hp]; done) | simp [Act.put, hp]
        refine AllOps.cons (fun x u hC hT hp K hK => ?_) ?_
        · simp [KnownTill, Region.binds, VVs] at hp
          clear hT
          go_simp
          refine hK _ _ _ hC (Below.refl _ _) (by exact (by first | exact rfl | simp)) ?_
          first | (simp only [Act.put, List.setIfInBounds_toArray, List.set_cons_succ, List.set_cons_zero, hp]; done) | simp [Act.put, hp]
        refine AllOps.cons (fun x u hC hT hp K hK => ?_) ?_
        · simp [KnownTill, Region.binds, VVs] at hp
          clear hT
          go_simp
          refine hK _ _ _ hC (Below.refl _ _) (by exact rfl) ?_
          first | (simp only [Act.put, List.setIfInBounds_toArray, List.set_cons_succ, List.set_cons_zero, hp]; done) | simp [Act.put, hp]
        refine AllOps.cons (fun x u hC hT hp K hK => ?_) ?_
        · simp [KnownTill, Region.binds, VVs] at hp
          clear hT
          go_simp
          refine hK _ _ _ hC (Below.refl _ _) (by exact rfl) ?_
          first | (simp only [Act.put, List.setIfInBounds_toArray, List.set_cons_succ, List.set_cons_zero, hp]; done) | simp [Act.put, hp]
        refine AllOps.cons (fun x u hC hT hp K hK => ?_) ?_
        · simp [KnownTill, Region.binds, VVs] at hp
          clear hT
          go_simp
          refine hK _ _ _ hC (Below.refl _ _) (by exact rfl) ?_
          first | (simp only [Act.put, List.setIfInBounds_toArray, List.set_cons_succ, List.set_cons_zero, hp]; done) | simp [Act.put, hp]
        refine AllOps.cons (fun x u hC hT hp K hK => ?_) ?_
        · simp [KnownTill, Region.binds, VVs] at hp
          clear hT
          go_simp
          refine (HZ1.out u hC).mono ?_
          rintro e wA ⟨rfl, hbA⟩
          refine hK _ _ _ (bt hC hbA) hbA (by exact rfl) ?_
          first | (simp only [Act.put, List.setIfInBounds_toArray, List.set_cons_succ, List.set_cons_zero, hp]; done) | simp [Act.put, hp]
        refine AllOps.cons (fun x u hC hT hp K hK => ?_) ?_
        · simp [KnownTill, Region.binds, VVs] at hp
          clear hT
          go_simp
          refine hK _ _ _ hC (Below.refl _ _) (by exact rfl) ?_
          first | (simp only [Act.put, List.setIfInBounds_toArray, List.set_cons_succ, List.set_cons_zero, hp]; done) | simp [Act.put, hp]
        refine AllOps.cons (fun x u hC hT hp K hK => ?_) ?_
        · simp [KnownTill, Region.binds, VVs] at hp
          clear hT
          go_simp
          refine (HZ2.out u hC).mono ?_
          rintro e wA ⟨rfl, hbA⟩
          refine hK _ _ _ (bt hC hbA) hbA (by exact rfl) ?_
          first | (simp only [Act.put, List.setIfInBounds_toArray, List.set_cons_succ, List.set_cons_zero, hp]; done) | simp [Act.put, hp]
        refine AllOps.cons (fun x u hC hT hp K hK => ?_) ?_
        · simp [KnownTill, Region.binds, VVs] at hp
          clear hT
          go_simp
          refine hK _ _ _ hC (Below.refl _ _) (by exact (by first | exact rfl | simp)) ?_
          first | (simp only [Act.put, List.setIfInBounds_toArray, List.set_cons_succ, List.set_cons_zero, hp]; done) | simp [Act.put, hp]
        refine AllOps.cons (fun x u hC hT hp K hK => ?_) ?_
        · simp [KnownTill, Region.binds, VVs] at hp
          clear hT
          go_simp
          refine hK _ _ _ hC (Below.refl _ _) (by exact rfl) ?_
          first | (simp only [Act.put, List.setIfInBounds_toArray, List.set_cons_succ, List.set_cons_zero, hp]; done) | simp [Act.put, hp]
        refine AllOps.cons (fun x u hC hT hp K hK => ?_) ?_
        · simp [KnownTill, Region.binds, VVs] at hp
          clear hT
          go_simp
          refine hK _ _ _ hC (Below.refl _ _) (by exact rfl) ?_
          first | (simp only [Act.put, List.setIfInBounds_toArray, List.set_cons_succ, List.set_cons_zero, hp]; done) | simp [Act.put, hp]
        exact AllOps.nil
      case finS2 =>
        intro x u9 hC hV
        have e4 : x 15 = .bool true := hV 15 (by decide) rfl
        rw [e4]
        clear e4
        clear hV
        have hF := bt hv0.out.b hC
        clear hC HR1 HR2 HZ1 HZ2 kt kx
        go_wp2
        go_ret
        exact ⟨rfl, hF⟩
  · skip
    go_wp2_with fail
    refine HI.out.mono ?_
    rintro e u7 ⟨rfl, bb⟩
    have hv7 := Lib.hid (hv6.out.below bb)
    clear bb hv6 HI HI3 HI4
    obtain ⟨R, hR⟩ : ∃ R, R = rightB v k := ⟨_, rfl⟩
    have hR' : rightB v (asK k 199).1 = R := by rw [hR]; exact HR0
    have HR1 : Hid (∀ u, Below u7.heap.size u7 u → Calls Try.prog 19 #[.agg #[.int .i64 v, .slice A m c]] u fun e w' => e = .returned (.bool R) ∧ Below u.heap.size u w') := Lib.hid fun u hu => by
      have ht := hv7.out.t.bt hu
      have := right_any v A k c u ht.len ht.fo
      rw [← Hm.out, ← hR] at this
      exact this
    have HR2 : Hid (∀ u, Below u7.heap.size u7 u → Calls Try.prog 20 #[.agg #[.int .i64 v, .slice A5 n5 c5]] u fun e w' => e = .returned (.bool R) ∧ Below u.heap.size u w') := Lib.hid fun u hu => by
      have := refright_any v A5 _ n5 c5 HX u (hv7.out.x.bt hu)
      rw [hR'] at this
      exact this
    obtain ⟨q, hqq⟩ : ∃ q, q = says3L zs := ⟨_, rfl⟩
    have HZ1 : Hid (∀ u, Below u7.heap.size u7 u → Calls Try.prog 21 #[.slice A0 nz cz] u fun e w' => e = .returned (.int .i64 q) ∧ Below u.heap.size u w') := Lib.hid fun u hu => by
      refine (says3_any A0 zs nz cz (Lib.hid Hnz.out) (by omega) u (hv7.out.z.below hu).nums).mono ?_
      rintro e w' ⟨rfl, rfl⟩
      exact ⟨by rw [hqq], Below.refl _ _⟩
    have HZ2 : Hid (∀ u, Below u7.heap.size u7 u → Calls Try.prog 22 #[.slice A0 nz cz] u fun e w' => e = .returned (.int .i64 q) ∧ Below u.heap.size u w') := Lib.hid fun u hu => by
      refine (refsays3_any A0 zs nz cz (Lib.hid Hnz.out) (by omega) u (hv7.out.z.below hu).nums).mono ?_
      rintro e w' ⟨rfl, rfl⟩
      exact ⟨by rw [hqq], Below.refl _ _⟩
    have kt := hv7.out.kt
    have kx := hv7.out.kx
    have hv0 := hv7
    clear hv7 hR hR' HR0 hqq
    go_wp2_with fail
    refine wp_region_invT (F := ?FS3) (V := VVs w.heap.size xb m c n5 c5 nz cz v q R A A5 A0) (dead := fun _ => none) (T := fun _ _ => True) (C := fun u => Below u7.heap.size u7 u) (E := fun _ u u' => Below u.heap.size u u') (by kernel_rfl) (by kernel_rfl) (by kernel_rfl) (fun x => ?hFS3) ?hmonoS3 ?hTmS3 ?hTS3 ?hCS3 ?stepS3 ?finS3
    case hFS3 => simp only [mkA, Act.put, List.setIfInBounds_toArray, List.set_cons_succ, List.set_cons_zero, Nat.reduceAdd, Nat.zero_add]; first | with_reducible rfl | rfl
    case hmonoS3 => exact fun q' i v u u' he hik hwt hdd hv => VVs.mono (q := q') he hv
    case hTmS3 => exact fun _ _ _ _ _ _ _ _ => trivial
    case hTS3 => exact fun j => trivial
    case hCS3 => exact (Below.refl _ _).drew
    case stepS3 =>
      refine AllOps.cons (fun x u hC hT hp K hK => ?_) ?_
      · clear hp hT
        go_simp
        refine (alive_any u).mono ?_
        rintro e wA ⟨rfl, hbA⟩
        refine hK _ _ _ (bt hC hbA) hbA (by exact rfl) ?_
        first | (simp only [Act.put, List.setIfInBounds_toArray, List.set_cons_succ, List.set_cons_zero]; done) | simp [Act.put]
      refine AllOps.cons (fun x u hC hT hp K hK => ?_) ?_
      · simp [KnownTill, Region.binds, VVs] at hp
        clear hT
        go_simp
        refine hK _ _ _ hC (Below.refl _ _) (by exact rfl) ?_
        first | (simp only [Act.put, List.setIfInBounds_toArray, List.set_cons_succ, List.set_cons_zero, hp]; done) | simp [Act.put, hp]
      refine AllOps.cons (fun x u hC hT hp K hK => ?_) ?_
      · simp [KnownTill, Region.binds, VVs] at hp
        clear hT
        have kq := kt.below (hC : Below _ _ u) kt.lt
        have qq0 := kq.cell 0
        have qq1 := kq.cell 1
        simp only [List.getElem?_toArray, List.getElem?_cons_zero, List.getElem?_cons_succ] at qq0 qq1
        go_simp
        refine hK _ _ _ hC (Below.refl _ _) (by exact rfl) ?_
        first | (simp only [Act.put, List.setIfInBounds_toArray, List.set_cons_succ, List.set_cons_zero, hp]; done) | simp [Act.put, hp]
      refine AllOps.cons (fun x u hC hT hp K hK => ?_) ?_
      · simp [KnownTill, Region.binds, VVs] at hp
        clear hT
        go_simp
        refine (HR1.out u hC).mono ?_
        rintro e wA ⟨rfl, hbA⟩
        refine hK _ _ _ (bt hC hbA) hbA (by exact rfl) ?_
        first | (simp only [Act.put, List.setIfInBounds_toArray, List.set_cons_succ, List.set_cons_zero, hp]; done) | simp [Act.put, hp]
      refine AllOps.cons (fun x u hC hT hp K hK => ?_) ?_
      · simp [KnownTill, Region.binds, VVs] at hp
        clear hT
        have kq := kx.below (hC : Below _ _ u) kx.lt
        have qq0 := kq.cell 0
        have qq1 := kq.cell 1
        simp only [List.getElem?_toArray, List.getElem?_cons_zero, List.getElem?_cons_succ] at qq0 qq1
        go_simp
        refine hK _ _ _ hC (Below.refl _ _) (by exact rfl) ?_
        first | (simp only [Act.put, List.setIfInBounds_toArray, List.set_cons_succ, List.set_cons_zero, hp]; done) | simp [Act.put, hp]
      refine AllOps.cons (fun x u hC hT hp K hK => ?_) ?_
      · simp [KnownTill, Region.binds, VVs] at hp
        clear hT
        go_simp
        refine (HR2.out u hC).mono ?_
        rintro e wA ⟨rfl, hbA⟩
        refine hK _ _ _ (bt hC hbA) hbA (by exact rfl) ?_
        first | (simp only [Act.put, List.setIfInBounds_toArray, List.set_cons_succ, List.set_cons_zero, hp]; done) | simp [Act.put, hp]
      refine AllOps.cons (fun x u hC hT hp K hK => ?_) ?_
      · simp [KnownTill, Region.binds, VVs] at hp
        clear hT
        go_simp
        refine hK _ _ _ hC (Below.refl _ _) (by exact (by first | exact rfl | simp)) ?_
        first | (simp only [Act.put, List.setIfInBounds_toArray, List.set_cons_succ, List.set_cons_zero, hp]; done) | simp [Act.put, hp]
      refine AllOps.cons (fun x u hC hT hp K hK => ?_) ?_
      · simp [KnownTill, Region.binds, VVs] at hp
        clear hT
        go_simp
        refine hK _ _ _ hC (Below.refl _ _) (by exact rfl) ?_
        first | (simp only [Act.put, List.setIfInBounds_toArray, List.set_cons_succ, List.set_cons_zero, hp]; done) | simp [Act.put, hp]
      refine AllOps.cons (fun x u hC hT hp K hK => ?_) ?_
      · simp [KnownTill, Region.binds, VVs] at hp
        clear hT
        go_simp
        refine hK _ _ _ hC (Below.refl _ _) (by exact rfl) ?_
        first | (simp only [Act.put, List.setIfInBounds_toArray, List.set_cons_succ, List.set_cons_zero, hp]; done) | simp [Act.put, hp]
      refine AllOps.cons (fun x u hC hT hp K hK => ?_) ?_
      · simp [KnownTill, Region.binds, VVs] at hp
        clear hT
        go_simp
        refine hK _ _ _ hC (Below.refl _ _) (by exact rfl) ?_
        first | (simp only [Act.put, List.setIfInBounds_toArray, List.set_cons_succ, List.set_cons_zero, hp]; done) | simp [Act.put, hp]
      refine AllOps.cons (fun x u hC hT hp K hK => ?_) ?_
      · simp [KnownTill, Region.binds, VVs] at hp
        clear hT
        go_simp
        refine (HZ1.out u hC).mono ?_
        rintro e wA ⟨rfl, hbA⟩
        refine hK _ _ _ (bt hC hbA) hbA (by exact rfl) ?_
        first | (simp only [Act.put, List.setIfInBounds_toArray, List.set_cons_succ, List.set_cons_zero, hp]; done) | simp [Act.put, hp]
      refine AllOps.cons (fun x u hC hT hp K hK => ?_) ?_
      · simp [KnownTill, Region.binds, VVs] at hp
        clear hT
        go_simp
        refine hK _ _ _ hC (Below.refl _ _) (by exact rfl) ?_
        first | (simp only [Act.put, List.setIfInBounds_toArray, List.set_cons_succ, List.set_cons_zero, hp]; done) | simp [Act.put, hp]
      refine AllOps.cons (fun x u hC hT hp K hK => ?_) ?_
      · simp [KnownTill, Region.binds, VVs] at hp
        clear hT
        go_simp
        refine (HZ2.out u hC).mono ?_
        rintro e wA ⟨rfl, hbA⟩
        refine hK _ _ _ (bt hC hbA) hbA (by exact rfl) ?_
        first | (simp only [Act.put, List.setIfInBounds_toArray, List.set_cons_succ, List.set_cons_zero, hp]; done) | simp [Act.put, hp]
      refine AllOps.cons (fun x u hC hT hp K hK => ?_) ?_
      · simp [KnownTill, Region.binds, VVs] at hp
        clear hT
        go_simp
        refine hK _ _ _ hC (Below.refl _ _) (by exact (by first | exact rfl | simp)) ?_
        first | (simp only [Act.put, List.setIfInBounds_toArray, List.set_cons_succ, List.set_cons_zero, hp]; done) | simp [Act.put, hp]
      refine AllOps.cons (fun x u hC hT hp K hK => ?_) ?_
      · simp [KnownTill, Region.binds, VVs] at hp
        clear hT
        go_simp
        refine hK _ _ _ hC (Below.refl _ _) (by exact rfl) ?_
        first | (simp only [Act.put, List.setIfInBounds_toArray, List.set_cons_succ, List.set_cons_zero, hp]; done) | simp [Act.put, hp]
      refine AllOps.cons (fun x u hC hT hp K hK => ?_) ?_
      · simp [KnownTill, Region.binds, VVs] at hp
        clear hT
        go_simp
        refine hK _ _ _ hC (Below.refl _ _) (by exact rfl) ?_
        first | (simp only [Act.put, List.setIfInBounds_toArray, List.set_cons_succ, List.set_cons_zero, hp]; done) | simp [Act.put, hp]
      exact AllOps.nil
    case finS3 =>
      intro x u9 hC hV
      have e4 : x 15 = .bool true := hV 15 (by decide) rfl
      rw [e4]
      clear e4
      clear hV
      have hF := bt hv0.out.b hC
      clear hC HR1 HR2 HZ1 HZ2 kt kx
      go_wp2
      go_ret
      exact ⟨rfl, hF⟩
section
open Go.ChangeShapes Go.WideShapes Go.Joins Go.Deep
variable {H : Type} {enc : TypeId × Value → H} {W : World}
theorem open_is {r : Reach} {b0 : Nat} {v : Value} {d : DataW H} {p : List MemPlace} (hval : Value.okWide Try.prog W r b0 25 v) (h : DataW.Trod enc Try.prog W 0 (fun _ => true) true 25 v d p) :
    ∃ A zs c, v = .slice A (List.length zs) c ∧ InAt W A zs ∧ zs.length ≤ maxLen := by
  obtain ⟨a, len, cap, rfl⟩ := okWide_slice Try.underlying25 hval
  obtain ⟨fuel, hf⟩ := h
  rcases open_ints Try.underlying25 Try.underlying3 (by kernel_rfl) hf with ⟨hcs, _⟩ | ⟨x, l, c, zs, hcs, _, hl, hm, hz, _, hcell, hwz⟩
  · simp [Value.cells] at hcs
    obtain ⟨rfl, rfl, rfl⟩ := hcs
    exact ⟨none, [], 0, rfl, fun h => absurd h (by simp), by simp [maxLen]⟩
  · simp [Value.cells] at hcs
    obtain ⟨rfl, rfl, rfl⟩ := hcs
    simp at hz
    refine ⟨some x, zs.take len, cap, by simp; omega, fun hn => ?_, by simp; omega⟩
    have hn' : 0 < len := by simp at hn; omega
    have h0 := hcell 0 (by omega)
    obtain ⟨b, o, e0, hlt⟩ := add_spotU h0
    obtain ⟨xb, xo, xs⟩ := x
    simp [Addr.add] at e0
    obtain ⟨rfl, e1, e2⟩ := e0
    subst e2
    refine ⟨xb, xo, rfl, hlt, fun i hi => ?_⟩
    have hi' : i < len := by simp at hi; omega
    have hci := hcell i (by omega)
    rw [Addr.add_lit] at hci
    rw [hci]
    simp [List.getD, List.getElem?_eq_getElem (show i < zs.length by omega)]
end
end Go.Proofs.Ytmfjenhonghkpaa
