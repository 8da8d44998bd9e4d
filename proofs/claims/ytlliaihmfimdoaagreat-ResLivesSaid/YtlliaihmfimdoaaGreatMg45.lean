/- Parts Sp Sq Ss Se St Su Sx of one proof. -/
import Derived.Test.YtlliaihmfimdoaaGreatMg44
import Derived.Test.YtlliaihmfimdoaaGreatMg15
import Derived.Test.YtlliaihmfimdoaaGreatMg30
import Derived.Test.YtlliaihmfimdoaaGreatMg38
namespace Go.Proofs.YtlliaihmfimdoaaGreat.Re
open Go.RowKit Go.Maps Go.Deep Go.Proofs.YtlliaihmfimdoaaGreat
set_option linter.unusedVariables false
set_option linter.unusedSimpArgs false
theorem inl_offg {w wr u : World} {A : Option Addr} {l : List Ch} {g : Nat} (h : InL w A l) (hb : Below w.heap.size w wr) (hle : w.heap.size ≤ g) (hg : wr.grownBy u (some g)) : InL u A l :=
 h.below (hb.grown hg hb.size (fun r e => by cases e; exact hle))
end Go.Proofs.YtlliaihmfimdoaaGreat.Re


namespace Go.Proofs.YtlliaihmfimdoaaGreat.Re
open Go.RowKit Go.Maps Go.Joins Go.Deep Go.Proofs.YtlliaihmfimdoaaGreat
set_option linter.unusedVariables false
set_option linter.unusedSimpArgs false
def busyR (S : RS) (n : Int) : Bool := busyB S.K n || (Qu.lookQ S.Q.ws n).isSome
theorem resbusy_any (g : Nat) (cs : Array Value) (S : RS) (N : Nat) (n : Int) (w : World) (h : ResAt w g cs S N) (hn : i64ok n) :
  Calls Tryz.prog 14 #[.pointer (some ⟨g, 0, none⟩), .int .i64 n] w fun e w' => e = .returned (.bool (busyR S n)) ∧ Below w.heap.size w w' := by
 have HK := Lib.hid (busy_any g _ cs S.K N n w h.kv hn)
 have HQ : Hid (∀ u, Below w.heap.size w u → Calls Tryz.prog 44 #[.pointer (some ⟨g, 34, none⟩), .int .i64 n] u fun e w' => e = .returned (.bool (Qu.lookQ S.Q.ws n).isSome) ∧ Below u.heap.size u w') := Lib.hid (fun u hb => Qu.busy_any g 34 _ cs S.Q N n u (h.qu.below hb) hn)
 unfold busyR
 generalize (Qu.lookQ S.Q.ws n).isSome = bq at HQ ⊢
 clear h
 rcases hk : busyB S.K n with _ | _
 ·rw [hk] at HK
  clear hk
  go_enter Tryz.func14, Tryz.ntmps14
  go_wp2_with fail
  refine HK.out.mono ?_
  rintro e w1 ⟨rfl, b1⟩
  have HB := Lib.hid b1
  have hq := Lib.hid (HQ.out w1 b1)
  clear b1
  go_wp2_with fail
  refine hq.out.mono ?_
  rintro e w2 ⟨rfl, b2⟩
  have HX := Lib.hid (bt HB.out b2)
  clear b2
  go_wp2
  go_ret
  exact ⟨by simp, HX.out⟩
 ·rw [hk] at HK
  clear hk
  go_enter Tryz.func14, Tryz.ntmps14
  go_wp2_with fail
  refine HK.out.mono ?_
  rintro e w1 ⟨rfl, b1⟩
  have HX := Lib.hid b1
  clear b1
  go_wp2
  go_ret
  exact ⟨by simp, HX.out⟩
def OwnRp (u : World) (B : Nat) (A : Option Addr) (c : Nat) (P : List (Int × Nat)) : Prop := u.ownsRow B 85 2 (.slice A P.length c) P.length (prV P)
theorem Tryz.infoRp : (Tryz.prog.info? 85).map (fun i => (i.zero, i.size, i.bytes)) = some (some (.agg #[.int .i64 0, .int .u64 0]), 2, 16) := by kernel_rfl
theorem OwnRp.grown {u u' : World} {B : Nat} {A : Option Addr} {c : Nat} {l : List (Int × Nat)} {row : Option Nat} (h : OwnRp u B A c l) (hg : u.grownBy u' row) (hr : ∀ r, row = some r → blk A ≠ some r) : OwnRp u' B A c l := by
 refine World.ownsRow.kept h hg ?_
 rcases hb : (Value.slice A l.length c).ownBlock with _ | k
 ·exact .inl rfl
 ·rw [ownBlock_slice] at hb
  exact .inr (fun e => hr k e.symm hb)
theorem rp_more {u : World} {B c : Nat} {A : Option Addr} {P : List (Int × Nat)} (h : OwnRp u B A c P) (n : Nat) (hn : n = P.length) (hl : n ≤ 1000) (k : Int) (v : Nat) (q : Nat) (hBu : B ≤ u.heap.size)
  (hq : Blk u q 85 #[.int .i64 k, .int .u64 (v : Nat)]) :
  ∃ A2 c2 u', (Builtin.append_ #[56, 56] 56 #[.slice A n c, .slice (some ⟨q, 0, none⟩) 1 1]).run Tryz.prog u = .ok (.slice A2 (n + 1) c2) u' ∧
   OwnRp u' B A2 c2 (P ++ [(k, v)]) ∧ u.grownBy u' (blk A) := by
 subst hn
 obtain ⟨i0, hi, hz0, hz1, hz2⟩ := info_parts Tryz.infoRp
 obtain ⟨v', w', hrun, hown, hgr, _, _⟩ := run_append_own_at (P := Tryz.prog) u B 56 56 85 i0 _ 2 16 Tryz.underlying56 hi hz0 hz1 hz2 rfl (by omega) (.slice A P.length c) P.length (prV P) h ⟨q, 0, none⟩ 1 1 [.int .i64 k, .int .u64 (v : Nat)] rfl
  (fun j v hv => by
   have := hq.cell j
   have e : (⟨q, 0, none⟩ : Addr).add j = ⟨q, j, none⟩ := by
    simp [Addr.add]
    try omega
   rw [e, this]
   rw [List.getElem?_toArray]; exact hv)
  (fun v hv => by simp at hv; rcases hv with rfl | rfl <;> rfl) (by simp only [maxLen]; omega) (by omega) hBu
 obtain ⟨g2, c2, rfl⟩ := Joins.ownsRow_form hown (by omega)
 rw [ownBlock_slice] at hgr
 refine ⟨some ⟨g2, 0, none⟩, c2, w', hrun, ?_, hgr⟩
 unfold OwnRp
 rw [List.length_append, show prV (P ++ [(k, v)]) = prV P ++ [.int .i64 k, .int .u64 (v : Nat)] by unfold prV; simp]
 exact hown
theorem image_end {w w1 u w2 : World} {gi c2 c3 : Nat} {A2 A3 : Option Addr} {P : List (Int × Nat)} {vs : List Nat} (b1 : Below w.heap.size w w1) (hgi : gi = w.heap.size) (hs : gi + 1 ≤ w1.heap.size) (bu : Below w1.heap.size w1 u) (b3 : Below u.heap.size u w2) (own : OwnRp u w1.heap.size A2 c2 P) (own3 : Qu.OwnU w2 u.heap.size A3 c3 vs) (v0 v1 v2 : Value) :
  OwnRp (((w2.setCell ⟨gi, 0, none⟩ v0).setCell ⟨gi, 1, none⟩ v1).setCell ⟨gi, 2, none⟩ v2) w.heap.size A2 c2 P ∧ Qu.OwnU (((w2.setCell ⟨gi, 0, none⟩ v0).setCell ⟨gi, 1, none⟩ v1).setCell ⟨gi, 2, none⟩ v2) w.heap.size A3 c3 vs ∧ Below w.heap.size w (((w2.setCell ⟨gi, 0, none⟩ v0).setCell ⟨gi, 1, none⟩ v1).setCell ⟨gi, 2, none⟩ v2) := by
 have hg : w2.grownBy (((w2.setCell ⟨gi, 0, none⟩ v0).setCell ⟨gi, 1, none⟩ v1).setCell ⟨gi, 2, none⟩ v2) (some gi) := ((lgrown_set w2 ⟨gi, 0, none⟩ v0).trans (lgrown_set _ ⟨gi, 1, none⟩ v1)).trans (lgrown_set _ ⟨gi, 2, none⟩ v2)
 have h1 := b1.size
 have h2 := bu.size
 have own2 := own.grown (lbelow_grown b3 none) (fun r e => by cases e)
 refine ⟨own_less (own2.grown hg (fun r e e2 => ?_)) h1, (own3.grown hg (fun r e e2 => ?_)).less (Nat.le_trans h1 h2), (bt (bt b1 bu) b3).grown hg (Nat.le_trans h1 (Nat.le_trans h2 b3.size)) (fun r e => by cases e; omega)⟩
 ·cases e
  have := (World.ownsRow.lt own2 gi (by rw [ownBlock_slice]; exact e2)).1
  omega
 ·cases e
  have := (own3.lt' gi e2).1
  omega
def imP (S : KS) : Nat → List (Int × Nat)
 | 0 => []
 | k + 1 => imP S k ++ if (valM S k).2 = true then [((k : Int), (valM S k).1)] else []
theorem imP_len (S : KS) : ∀ k, (imP S k).length ≤ k
 | 0 => Nat.le_refl _
 | k + 1 => by
  have := imP_len S k
  unfold imP
  rw [List.length_append]
  split
  ·simp; omega
  ·simp; omega
set_option maxRecDepth 100000 in
set_option maxHeartbeats 4000000 in
theorem resimage_any (g : Nat) (cs : Array Value) (S : RS) (N : Nat) (w : World) (h : ResAt w g cs S N) :
  Calls Tryz.prog 18 #[.pointer (some ⟨g, 0, none⟩)] w fun e w' => ∃ A q c A' q' c', e = .returned (.agg #[.slice A q c, .slice A' q' c', .int .i64 (S.Q.g + 1)]) ∧ Hid (q = (imP S.K 16).length ∧ q' = S.Q.I.length ∧ OwnRp w' w.heap.size A c (imP S.K 16) ∧ Qu.OwnU w' w.heap.size A' c' (S.Q.I.map Qu.IT.v) ∧ Below w.heap.size w w') := by
 obtain ⟨w1, hw1⟩ : ∃ w1, w1 = w.alloc (.cells #[.slice none 0 0, .slice none 0 0, .int .i64 0] 58) := ⟨_, rfl⟩
 have b1 : Below w.heap.size w w1 := by rw [hw1]; exact ba _ _
 obtain ⟨gi, hgi⟩ : ∃ gi, gi = w.heap.size := ⟨_, rfl⟩
 have k1 : Blk w1 gi 58 #[.slice none 0 0, .slice none 0 0, .int .i64 0] := by rw [hw1, hgi]; exact Blk.new _ _ _
 have hs1 : gi + 1 ≤ w1.heap.size := by rw [hw1, hgi]; simp
 have H := Lib.hid (And.intro h (And.intro b1 (And.intro k1 hs1)))
 have HG := Lib.hid hgi
 have HV : Hid (∀ (k : Nat) u, Below w1.heap.size w1 u → Calls Tryz.prog 48 #[.pointer (some ⟨g, 0, none⟩), .int .i64 k] u fun e w' => e = .returned (.tuple #[.int .u64 ((valM S.K k).1 : Nat), .bool (valM S.K k).2]) ∧ Below u.heap.size u w') := Lib.hid fun k u hb => value_any g _ cs S.K N k u ((h.kv.below b1).below hb)
 have HVals : Hid (∀ u, Below w1.heap.size w1 u → Calls Tryz.prog 49 #[.pointer (some ⟨g, 34, none⟩)] u fun e w' => ∃ A c, e = .returned (.slice A S.Q.I.length c) ∧ Qu.OwnU w' u.heap.size A c (S.Q.I.map Qu.IT.v) ∧ Below u.heap.size u w') := Lib.hid fun u hb => Qu.values_any g 34 _ cs S.Q N u ((h.qu.below b1).below hb)
 have HNx : Hid (∀ u, Below w1.heap.size w1 u → Calls Tryz.prog 50 #[.pointer (some ⟨g, 34, none⟩)] u fun e w' => e = .returned (.int .i64 (S.Q.g + 1)) ∧ u = w') := Lib.hid fun u hb => Qu.next_any g 34 _ cs S.Q N u ((h.qu.below b1).below hb)
 have HW1 := Lib.hid hw1
 have HI : Hid ((0 : Nat) = (imP S.K 0).length ∧ OwnRp w1 w1.heap.size none 0 (imP S.K 0) ∧ Below w1.heap.size w1 w1) := Lib.hid ⟨rfl, World.ownsRow_nil _ _ _ _, Below.refl _ _⟩
 clear h b1 k1 hs1 hw1
 go_enter Tryz.func18, Tryz.ntmps18
 go_wp2_with fail
 rw [← HW1.out, ← hgi]
 clear hgi
 go_loopw [3, 10] (fun pv iv wr => ∃ (j n2 c2 : Nat) (A2 : Option Addr), pv = .slice A2 n2 c2 ∧ j ≤ 16 ∧ n2 ≤ j ∧ iv = .int .i64 j ∧ Hid (n2 = (imP S.K j).length ∧ OwnRp wr w1.heap.size A2 c2 (imP S.K j) ∧ Below w1.heap.size w1 wr)) (fun _ i _ => 16 - (intOf i).toNat)
 case atStart => exact ⟨0, 0, 0, none, rfl, by omega, Nat.le_refl _, rfl, HI⟩
 case round =>
  clear HI
  obtain ⟨j, n2, c2, A2, rfl, hj, hn2j, rfl, HR⟩ := hrel
  by_cases hjn : j < 16
  ·have hjI : (j : Int) < 16 := by omega
   have hV := Lib.hid (HV.out j wr HR.out.2.2)
   obtain ⟨xv, hxv⟩ : ∃ xv, xv = valM S.K j := ⟨_, rfl⟩
   have HS : Hid (imP S.K (j + 1) = imP S.K j ++ if xv.2 = true then [((j : Int), xv.1)] else []) := Lib.hid (by rw [hxv]; rfl)
   rw [← hxv] at hV
   clear hxv
   obtain ⟨yv, yt⟩ := xv
   dsimp only at hV HS
   go_wp2_with fail
   refine hV.out.mono ?_
   rintro e w2 ⟨rfl, b2⟩
   have HR2 : Hid (n2 = (imP S.K j).length ∧ OwnRp w2 w1.heap.size A2 c2 (imP S.K j) ∧ Below w1.heap.size w1 w2) := Lib.hid ⟨HR.out.1, HR.out.2.1.grown (lbelow_grown b2 none) (fun r e => by cases e), bt HR.out.2.2 b2⟩
   clear b2 HR hV
   cases yt with
   | false =>
    have HX : Hid (n2 = (imP S.K (j + 1)).length ∧ OwnRp w2 w1.heap.size A2 c2 (imP S.K (j + 1)) ∧ Below w1.heap.size w1 w2) := Lib.hid (by rw [HS.out]; simpa using HR2.out)
    go_wp2
    go_roundw
    case rel => exact ⟨j + 1, n2, c2, A2, rfl, by omega, by omega, by go_num, HX⟩
    case measure => simp [intOf]; omega
   | true =>
    obtain ⟨hn2, hown, hb⟩ := HR2.out
    have hb3 := ba w2 (.cells #[.int .i64 j, .int .u64 (yv : Nat)] 85)
    have own3 := hown.grown (lbelow_grown hb3 none) (fun r e => by cases e)
    obtain ⟨A5, c5, w5, hrun, hE5, hg5⟩ := rp_more own3 n2 hn2 (by omega) j yv w2.heap.size (by have := hb.size; have := hb3.size; omega) (Blk.new w2 _ _)
    have hB5 := (bt hb hb3).grown hg5 (by have := hb.size; have := hb3.size; omega) (fun r e => (World.ownsRow.lt own3 r (by rw [ownBlock_slice]; exact e)).1)
    have HX : Hid (n2 + 1 = (imP S.K (j + 1)).length ∧ OwnRp w5 w1.heap.size A5 c5 (imP S.K (j + 1)) ∧ Below w1.heap.size w1 w5) := Lib.hid (by rw [HS.out, if_pos rfl, List.length_append, ← hn2]; exact ⟨rfl, hE5, hB5⟩)
    clear hown hb hn2 hb3 own3 hE5 hg5 hB5 HR2
    go_wp2_with (at_builtin; refine wpList_append_run rfl (.tmp 22) (.tmp 26) 56 rfl _ _ _ w5 rfl rfl hrun ?_)
    go_roundw
    case rel => exact ⟨j + 1, n2 + 1, c5, A5, rfl, by omega, by omega, by go_num, HX⟩
    case measure => simp [intOf]; omega
  ·have hjI : ¬ (j : Int) < 16 := by omega
   have hj16 : j = 16 := by omega
   subst hj16
   go_wp2_with fail
   go_region_with (first
    | (go_simp; go_at_call 49; refine (HVals.out _ (by first | exact HR.out.2.2 | exact HR.out.2.2.drew)).mono ?_; rintro e w2 ⟨A3, c3, rfl, own3, b3⟩; have bz := bt (by first | exact HR.out.2.2 | exact HR.out.2.2.drew) b3; have kg := H.out.2.2.1.below bz H.out.2.2.1.lt; have g0 := kg.cell 0; have g1 := kg.cell 1; have g2 := kg.cell 2; simp only [List.getElem?_toArray, List.getElem?_cons_zero, List.getElem?_cons_succ] at g0 g1 g2; have f3 := kg.frozen)
    | (go_simp; go_at_call 50; refine (HNx.out _ (by first | exact HR.out.2.2 | exact HR.out.2.2.drew | exact bz | exact bz.drew | exact bt HR.out.2.2 b3 | exact (bt HR.out.2.2 b3).drew | exact bt HR.out.2.2.drew b3 | exact (bt HR.out.2.2.drew b3).drew)).mono ?_; rintro e w3 ⟨rfl, rfl⟩))
   all_goals
    have HF := Lib.hid (image_end H.out.2.1 HG.out H.out.2.2.2 (by first | exact HR.out.2.2 | exact HR.out.2.2.drew) b3 (by first | exact HR.out.2.1 | exact own_same HR.out.2.1 (fun r _ _ => rfl)) own3 (.slice A2 n2 c2) (.slice A3 S.Q.I.length c3) (.int .i64 (S.Q.g + 1)))
    have kf := ((kg.set_ 0 (.slice A2 n2 c2)).set_ 1 (.slice A3 S.Q.I.length c3)).set_ 2 (.int .i64 (S.Q.g + 1))
    have r0 := kf.cell 0
    have r1 := kf.cell 1
    have r2 := kf.cell 2
    simp only [List.setIfInBounds_toArray, List.set_cons_succ, List.set_cons_zero, List.getElem?_toArray, List.getElem?_cons_zero, List.getElem?_cons_succ] at r0 r1 r2
    clear kf kg g0 g1 g2 f3 bz b3 own3
    go_wp2
    refine bodyPost_ret (by simp [results, Tryz.results18, go_sem, r0, r1, r2]; try rfl) rfl ?_
    exact ⟨A2, n2, c2, A3, _, c3, rfl, Lib.hid ⟨HR.out.1, rfl, HF.out⟩⟩
end Go.Proofs.YtlliaihmfimdoaaGreat.Re


namespace Go.Proofs.YtlliaihmfimdoaaGreat.Re
open Go.RowKit Go.Maps Go.Joins Go.Deep Go.Proofs.YtlliaihmfimdoaaGreat
set_option linter.unusedVariables false
set_option linter.unusedSimpArgs false
def InRp (w : World) (A : Option Addr) (P : List (Int × Nat)) : Prop := 0 < P.length → ∃ b o, A = some ⟨b, o, none⟩ ∧ b < w.heap.size ∧ ∀ i, (h : i < P.length) → w.cell? ⟨b, o + i * 2, none⟩ = some (.int .i64 (P[i]'h).1) ∧ w.cell? ⟨b, o + i * 2 + 1, none⟩ = some (.int .u64 ((P[i]'h).2 : Nat))
theorem InRp.below {w w' : World} {A : Option Addr} {P : List (Int × Nat)} (h : InRp w A P) (hb : Below w.heap.size w w') : InRp w' A P := fun hl => by
 obtain ⟨b, o, rfl, hlt, hc⟩ := h hl
 exact ⟨b, o, rfl, Nat.lt_of_lt_of_le hlt hb.size, fun i hi => ⟨(hb.cell (p := ⟨b, _, none⟩) hlt).trans (hc i hi).1, (hb.cell (p := ⟨b, _, none⟩) hlt).trans (hc i hi).2⟩⟩
theorem OwnRp.in_ {w : World} {B c : Nat} {A : Option Addr} {P : List (Int × Nat)} (h : OwnRp w B A c P) : InRp w A P := fun hl => by
 unfold OwnRp at h
 obtain ⟨b, e, _, hlt, _, hc⟩ := row_cells h hl
 exact ⟨b, 0, e, hlt, fun i hi => by rw [Nat.zero_add]; exact ⟨hc _ _ (prV_at P i hi).1, hc _ _ (prV_at P i hi).2⟩⟩
structure AsAt (w wr : World) (gm gr go B : Nat) (A A' : Option Addr) (q c q' c' : Nat) (nx : Int) (A2 : Option Addr) (c2 : Nat) (P' : List (Int × Nat)) : Prop where
 be : Below w.heap.size w wr
 km : Blk wr gm 58 #[.slice A q c, .slice A' q' c', .int .i64 nx]
 kr : Blk wr gr 54 #[.slice none 0 0, .slice none 0 0, .int .i64 0]
 ko : Blk wr go 54 #[.slice A2 P'.length c2, .slice A' q' c', .int .i64 nx]
 own : OwnPr wr B A2 c2 P'
 lt : gm < B ∧ gr < B ∧ go < B ∧ B ≤ wr.heap.size
 ne : gm ≠ go ∧ gr ≠ go ∧ w.heap.size ≤ gr ∧ w.heap.size ≤ go ∧ w.heap.size ≤ B
theorem AsAt.below {w wr u : World} {gm gr go B : Nat} {A A' : Option Addr} {q c q' c' : Nat} {nx : Int} {A2 : Option Addr} {c2 : Nat} {P' : List (Int × Nat)} (h : AsAt w wr gm gr go B A A' q c q' c' nx A2 c2 P') (hb : Below wr.heap.size wr u) : AsAt w u gm gr go B A A' q c q' c' nx A2 c2 P' :=
 ⟨bt h.be hb, h.km.below hb h.km.lt, h.kr.below hb h.kr.lt, h.ko.below hb h.ko.lt, World.ownsRow.kept h.own (lbelow_grown hb none) (by rcases (Value.slice A2 P'.length c2).ownBlock with _ | k; exact .inl rfl; exact .inr (fun e => by cases e)), ⟨h.lt.1, h.lt.2.1, h.lt.2.2.1, Nat.le_trans h.lt.2.2.2 hb.size⟩, h.ne⟩
theorem AsAt.more {w wr : World} {gm gr go B : Nat} {A A' : Option Addr} {q c q' c' : Nat} {nx : Int} {A2 : Option Addr} {c2 : Nat} {P' : List (Int × Nat)} (h : AsAt w wr gm gr go B A A' q c q' c' nx A2 c2 P') (hl : P'.length ≤ 1000) (k : Int) (v : Nat) :
  ∃ A3 c3 w3, (Builtin.append_ #[26, 26] 26 #[.slice A2 P'.length c2, .slice (some ⟨wr.heap.size, 0, none⟩) 1 1]).run Tryz.prog (wr.alloc (.cells #[.int .i64 k, .int .u64 (v : Nat)] 114)) = .ok (.slice A3 (P'.length + 1) c3) w3 ∧
   w3.cell? ⟨go, 0, none⟩ = some (.slice A2 P'.length c2) ∧ w3.frozen? ⟨go, 0, none⟩ = false ∧ AsAt w (w3.setCell ⟨go, 0, none⟩ (.slice A3 (P'.length + 1) c3)) gm gr go B A A' q c q' c' nx A3 c3 (P' ++ [(k, v)]) := by
 have h3 := h.below (ba wr (.cells #[.int .i64 k, .int .u64 (v : Nat)] 114))
 obtain ⟨A3, c3, w3, hrun, own3, g3⟩ := pr_more h3.own P'.length rfl hl k v wr.heap.size h3.lt.2.2.2 (Blk.new wr _ _)
 have hno : ∀ {r t cs}, Blk (wr.alloc (.cells #[.int .i64 k, .int .u64 (v : Nat)] 114)) r t cs → r < B → Blk w3 r t cs := fun hk hr => hk.kept g3 (fun e => by
  have := (World.ownsRow.lt h3.own _ (by rw [ownBlock_slice]; exact e.symm)).1; omega)
 have ko3 := hno h3.ko h3.lt.2.2.1
 have hgs := lgrown_set w3 ⟨go, 0, none⟩ (.slice A3 (P'.length + 1) c3)
 have hs := h.lt.2.2.2
 have hne := h.ne
 refine ⟨A3, c3, w3, hrun, ?_, ko3.frozen 0, ?_⟩
 ·have := ko3.cell 0
  simpa using this
 ·refine ⟨(h3.be.grown g3 (by have := h3.be.size; omega) (fun r e => by have := (World.ownsRow.lt h3.own r (by rw [ownBlock_slice]; exact e)).1; omega)).setCell (p := ⟨go, 0, none⟩) (by have := hne.2.2.2.1; exact this) _, (hno h3.km h3.lt.1).kept hgs (fun e => hne.1 (Option.some.inj e)), (hno h3.kr h3.lt.2.1).kept hgs (fun e => hne.2.1 (Option.some.inj e)), ?_, ?_, ⟨h.lt.1, h.lt.2.1, h.lt.2.2.1, ?_⟩, h.ne⟩
  ·have := ko3.set_ 0 (.slice A3 (P'.length + 1) c3)
   rw [List.length_append]
   simpa using this
  ·exact own_kept own3 ko3 (by decide) hgs
  ·have := g3.size; have := h3.lt.2.2.2; rw [World.size_setCell]; omega
set_option maxRecDepth 100000 in
set_option maxHeartbeats 4000000 in
theorem as_any (A A' : Option Addr) (q c q' c' : Nat) (nx : Int) (P : List (Int × Nat)) (w : World) (hq : Hid (q = P.length)) (hm : q ≤ 1000) (hP : InRp w A P) :
  Calls Tryz.prog 17 #[.agg #[.slice A q c, .slice A' q' c', .int .i64 nx]] w fun e w' => ∃ A9 c9, e = .returned (.agg #[.slice A9 q c9, .slice A' q' c', .int .i64 nx]) ∧ Hid (OwnPr w' w.heap.size A9 c9 P ∧ Below w.heap.size w w') := by
 obtain ⟨w3, hw3⟩ : ∃ w3, w3 = ((w.alloc (.cells #[.slice A q c, .slice A' q' c', .int .i64 nx] 58)).alloc (.cells #[.slice none 0 0, .slice none 0 0, .int .i64 0] 54)).alloc (.cells #[.slice none 0 0, .slice A' q' c', .int .i64 nx] 54) := ⟨_, rfl⟩
 have h3 : AsAt w w3 w.heap.size (w.heap.size + 1) (w.heap.size + 1 + 1) w3.heap.size A A' q c q' c' nx none 0 [] := by
  have k1 := Blk.new w 58 #[.slice A q c, .slice A' q' c', .int .i64 nx]
  have k2 := Blk.new (w.alloc (.cells #[.slice A q c, .slice A' q' c', .int .i64 nx] 58)) 54 #[.slice none 0 0, .slice none 0 0, .int .i64 0]
  have k3 := Blk.new ((w.alloc (.cells #[.slice A q c, .slice A' q' c', .int .i64 nx] 58)).alloc (.cells #[.slice none 0 0, .slice none 0 0, .int .i64 0] 54)) 54 #[.slice none 0 0, .slice A' q' c', .int .i64 nx]
  have k1' := (k1.below (ba _ (.cells #[.slice none 0 0, .slice none 0 0, .int .i64 0] 54)) k1.lt)
  have k1'' := k1'.below (ba _ (.cells #[.slice none 0 0, .slice A' q' c', .int .i64 nx] 54)) k1'.lt
  have k2' := k2.below (ba _ (.cells #[.slice none 0 0, .slice A' q' c', .int .i64 nx] 54)) k2.lt
  rw [World.size_alloc] at k2'
  rw [World.size_alloc, World.size_alloc] at k3
  rw [← hw3] at k1'' k2' k3
  have hs : w3.heap.size = w.heap.size + 1 + 1 + 1 := by rw [hw3]; simp
  exact ⟨by rw [hw3]; exact bt (bt (ba _ _) (ba _ _)) (ba _ _), k1'', k2', k3, World.ownsRow_nil _ _ _ _, by omega, by omega⟩
 obtain ⟨gm, hgm⟩ : ∃ gm, gm = w.heap.size := ⟨_, rfl⟩
 obtain ⟨gr, hgr⟩ : ∃ gr, gr = w.heap.size + 1 := ⟨_, rfl⟩
 obtain ⟨go, hgo⟩ : ∃ go, go = w.heap.size + 1 + 1 := ⟨_, rfl⟩
 rw [← hgo, ← hgr, ← hgm] at h3
 have H := Lib.hid hP
 have HW := Lib.hid hw3
 have HG := Lib.hid (And.intro hgm (And.intro hgr hgo))
 have HI : Hid (∃ A2 c2, AsAt w w3 gm gr go w3.heap.size A A' q c q' c' nx A2 c2 (P.take 0)) := Lib.hid ⟨none, 0, h3⟩
 obtain ⟨B, hB⟩ : ∃ B, B = w3.heap.size := ⟨_, rfl⟩
 rw [← hB] at HI
 clear h3 hP hw3 hgm hgr hgo hB
 go_enter Tryz.func17, Tryz.ntmps17
 go_wp2_with fail
 rw [← HW.out, ← HG.out.2.2, ← HG.out.2.1, ← HG.out.1]
 go_loopw [4] (fun iv wr => ∃ j : Nat, j ≤ q ∧ iv = .int .i64 j ∧ Hid (∃ A2 c2, AsAt w wr gm gr go B A A' q c q' c' nx A2 c2 (P.take j))) (fun iv _ => q - (intOf iv).toNat)
 case atStart => exact ⟨0, Nat.zero_le _, rfl, HI⟩
 case round =>
  clear HI
  obtain ⟨j, hj, rfl, HR⟩ := hrel
  obtain ⟨A2, c2, hr⟩ := HR.out
  have m0 := hr.km.cell 0
  simp only [List.getElem?_toArray, List.getElem?_cons_zero] at m0
  by_cases hjn : j < q
  ·have hjI : (j : Int) < (q : Int) := by omega
   have hjL : j < P.length := by rw [← hq.out]; exact hjn
   obtain ⟨b, o, hA, hbl, hcs⟩ := (H.out.below hr.be) (by omega)
   obtain ⟨p0, p1⟩ := hcs j hjL
   have hsn : P.take (j + 1) = P.take j ++ [P[j]'hjL] := by rw [List.take_add_one, List.getElem?_eq_getElem hjL]; rfl
   generalize P[j]'hjL = y at p0 p1 hsn
   obtain ⟨yk, yv⟩ := y
   dsimp only at p0 p1
   have hjl : (P.take j).length = j := by rw [List.length_take]; omega
   have bW : Below wr.heap.size wr wr.drew := ⟨rfl, rfl, rfl, Nat.le_refl _, fun _ _ => rfl⟩
   have hrd := hr.below bW
   obtain ⟨A3, c3, w4, hrun, e3, f3, h4⟩ := hrd.more (by omega) yk yv
   rw [hjl] at hrun e3 h4
   have e0 := hr.ko.cell 0
   have e1 := hrd.ko.cell 0
   have e2 := (hrd.below (ba _ (.cells #[.int .i64 yk, .int .u64 (yv : Nat)] 114))).ko.cell 0
   have e4 := (hr.below (ba _ (.cells #[.int .i64 yk, .int .u64 (yv : Nat)] 114))).ko.cell 0
   have m1 := hrd.km.cell 0
   simp only [List.getElem?_toArray, List.getElem?_cons_zero] at e0 e1 e2 e4 m1
   rw [hjl] at e0 e1 e2 e4
   have p2 : wr.drew.cell? ⟨b, o + j * 2, none⟩ = some (.int .i64 yk) := p0
   have p3 : wr.drew.cell? ⟨b, o + j * 2 + 1, none⟩ = some (.int .u64 ((yv : Nat) : Int)) := p1
   have HX : Hid (∃ A2 c2, AsAt w (w4.setCell ⟨go, 0, none⟩ (.slice A3 (j + 1) c3)) gm gr go B A A' q c q' c' nx A2 c2 (P.take (j + 1))) := Lib.hid ⟨A3, c3, by rw [hsn]; exact h4⟩
   subst hA
   clear hjL hcs hsn hjl bW hrd hr h4 HR
   go_wp2_with fail
   go_region_law (refine step_append_run rfl (.tmp 18) (.tmp 32) 26 rfl _ _ _ w4 rfl rfl hrun ?_)
   all_goals
    go_wp2
    go_roundw
    case rel => exact ⟨j + 1, by omega, by go_num, HX⟩
    case measure => simp [intOf]; omega
  ·have hjI : ¬ (j : Int) < (q : Int) := by omega
   have hjj : P.take j = P := List.take_of_length_le (by rw [← hq.out]; omega)
   rw [hjj] at hr
   have HF := Lib.hid hr
   have o0 := hr.ko.cell 0
   have o1 := hr.ko.cell 1
   have o2 := hr.ko.cell 2
   have g0 := hr.kr.cell 0
   have g1 := hr.kr.cell 1
   have g2 := hr.kr.cell 2
   have f3 := hr.kr.frozen
   simp only [List.getElem?_toArray, List.getElem?_cons_zero, List.getElem?_cons_succ] at o0 o1 o2 g0 g1 g2
   rw [← hq.out] at o0
   have kf := ((hr.kr.set_ 0 (.slice A2 q c2)).set_ 1 (.slice A' q' c')).set_ 2 (.int .i64 nx)
   have r0 := kf.cell 0
   have r1 := kf.cell 1
   have r2 := kf.cell 2
   simp only [List.setIfInBounds_toArray, List.set_cons_succ, List.set_cons_zero, List.getElem?_toArray, List.getElem?_cons_zero, List.getElem?_cons_succ] at r0 r1 r2
   have hg := ((lgrown_set wr ⟨gr, 0, none⟩ (.slice A2 q c2)).trans (lgrown_set _ ⟨gr, 1, none⟩ (.slice A' q' c'))).trans (lgrown_set _ ⟨gr, 2, none⟩ (.int .i64 nx))
   have HX := Lib.hid (And.intro (own_less (own_kept hr.own hr.kr (by decide) hg) hr.ne.2.2.2.2) (hr.be.grown hg hr.be.size (fun r e => by cases e; exact hr.ne.2.2.1)))
   clear hjj hr HF HR kf hg
   go_wp2
   refine bodyPost_ret (by simp [results, Tryz.results17, go_sem, r0, r1, r2]; try rfl) rfl ?_
   exact ⟨A2, c2, rfl, HX⟩
end Go.Proofs.YtlliaihmfimdoaaGreat.Re


namespace Go.Proofs.YtlliaihmfimdoaaGreat.Re
open Go.RowKit Go.Maps Go.Deep Go.Proofs.YtlliaihmfimdoaaGreat
set_option linter.unusedVariables false
set_option linter.unusedSimpArgs false
set_option maxRecDepth 100000 in
set_option maxHeartbeats 1000000 in
theorem samech_any (A A' : Option Addr) (l : List Ch) (n c c' : Nat) (w : World) (hn : Hid (n = l.length)) (hm : n ≤ 1000000) {B B' : Nat → Prop} (h : ChAt w B A l) (h' : ChAt w B' A' l) :
  Calls Tryz.prog 24 #[.slice A n c, .slice A' n c'] w fun e w' => e = .returned (.bool true) ∧ Below w.heap.size w w' := by
 have HI : Hid (Below w.heap.size w w ∧ ChAt w B A l ∧ ChAt w B' A' l) := Lib.hid ⟨Below.refl _ _, h, h'⟩
 clear h h'
 have hnn : ((n : Int) != (n : Int)) = false := by simp
 go_enter Tryz.func24, Tryz.ntmps24
 go_wp2_with fail
 go_loopw [5] (fun i wr => ∃ (i0 : Nat), i0 ≤ n ∧ i = .int .i64 i0 ∧ Hid (Below w.heap.size w wr ∧ ChAt wr B A l ∧ ChAt wr B' A' l)) (fun i _ => n - (intOf i).toNat)
 case atStart => exact ⟨0, Nat.zero_le _, rfl, HI⟩
 case round =>
  clear HI
  obtain ⟨j, hj, rfl, HW⟩ := hrel
  by_cases hjn : j < n
  ·have hjI : (j : Int) < (n : Int) := by omega
   obtain ⟨hb, hc, hc'⟩ := HW.out
   have hjl : j < l.length := by rw [← hn.out]; exact hjn
   obtain ⟨b, o, rfl, hbk, hcs⟩ := hc (by omega)
   obtain ⟨b', o', rfl, hbk', hcs'⟩ := hc' (by omega)
   obtain ⟨q0, q1, q2⟩ := hcs j hjl
   obtain ⟨p0, p1, p2⟩ := hcs' j hjl
   generalize l[j]'hjl = x at q0 q1 q2 p0 p1 p2
   obtain ⟨xk, xy, xv⟩ := x
   dsimp only at q0 q1 q2 p0 p1 p2
   have e0 := fun m : Nat => Qu.cell_drew' q0 m
   have e1 := fun m : Nat => Qu.cell_drew' q1 m
   have e2 := fun m : Nat => Qu.cell_drew' q2 m
   have d0 := fun m : Nat => Qu.cell_drew' p0 m
   have d1 := fun m : Nat => Qu.cell_drew' p1 m
   have d2 := fun m : Nat => Qu.cell_drew' p2 m
   have hdr : ∀ m : Nat, Below wr.heap.size wr (wr.drewN m) := fun m => ⟨rfl, rfl, rfl, Nat.le_refl _, fun _ _ => rfl⟩
   have HX : Hid (∀ m : Nat, Below w.heap.size w (wr.drewN m) ∧ ChAt (wr.drewN m) B (some ⟨b, o, none⟩) l ∧ ChAt (wr.drewN m) B' (some ⟨b', o', none⟩) l) := Lib.hid fun m => ⟨bt hb (hdr m), hc.below (hdr m), hc'.below (hdr m)⟩
   clear hb hc hc' hbk hbk' hcs hcs' hjl q0 q1 q2 p0 p1 p2 HW hdr
   go_wp2_with fail
   go_quiet (fail)
   have HX2 := Lib.hid (HX.out nq)
   clear e0 e1 e2 d0 d1 d2 HX
   go_wp2
   go_roundw
   case rel => exact ⟨j + 1, by omega, by go_num, HX2⟩
   case measure => simp [intOf]; omega
  ·have hjI : ¬ (j : Int) < (n : Int) := by omega
   have hF := Lib.hid HW.out.1
   clear HW
   go_wp2
   go_ret
   exact ⟨rfl, hF.out⟩
end Go.Proofs.YtlliaihmfimdoaaGreat.Re


namespace Go.Proofs.YtlliaihmfimdoaaGreat.Re
open Go.RowKit Go.Maps Go.Joins Go.Deep Go.Proofs.YtlliaihmfimdoaaGreat
set_option linter.unusedVariables false
set_option linter.unusedSimpArgs false
theorem OwnPr.in_ {w : World} {B c : Nat} {A : Option Addr} {P : List (Int × Nat)} (h : OwnPr w B A c P) : InRp w A P := fun hl => by
 unfold OwnPr at h
 obtain ⟨b, e, _, hlt, _, hc⟩ := row_cells h hl
 exact ⟨b, 0, e, hlt, fun i hi => by rw [Nat.zero_add]; exact ⟨hc _ _ (prV_at P i hi).1, hc _ _ (prV_at P i hi).2⟩⟩
set_option maxRecDepth 100000 in
set_option maxHeartbeats 4000000 in
theorem refsame_any (A A' U U' : Option Addr) (q c c' m d d' : Nat) (nx : Int) (P : List (Int × Nat)) (vs : List Nat) (w : World) (hq : Hid (q = P.length)) (hm : Hid (m = vs.length)) (hq1 : q ≤ 1000) (hm1 : m ≤ 9223372036854775807) (hP : InRp w A P) (hP' : InRp w A' P) (hU : Qu.UAt w U vs) (hU' : Qu.UAt w U' vs) :
  Calls Tryz.prog 16 #[.agg #[.slice A q c, .slice U m d, .int .i64 nx], .agg #[.slice A' q c', .slice U' m d', .int .i64 nx]] w fun e w' => e = .returned (.bool true) ∧ Below w.heap.size w w' := by
 obtain ⟨w2, hw2⟩ : ∃ w2, w2 = (w.alloc (.cells #[.slice A q c, .slice U m d, .int .i64 nx] 54)).alloc (.cells #[.slice A' q c', .slice U' m d', .int .i64 nx] 54) := ⟨_, rfl⟩
 have b2 : Below w.heap.size w w2 := by rw [hw2]; exact bt (ba _ _) (ba _ _)
 obtain ⟨ga, hga⟩ : ∃ ga, ga = w.heap.size := ⟨_, rfl⟩
 obtain ⟨gb, hgb⟩ : ∃ gb, gb = w.heap.size + 1 := ⟨_, rfl⟩
 have ka : Blk w2 ga 54 #[.slice A q c, .slice U m d, .int .i64 nx] := by rw [hw2, hga]; exact (Blk.new w _ _).below (ba _ _) (Blk.new w _ _).lt
 have kb : Blk w2 gb 54 #[.slice A' q c', .slice U' m d', .int .i64 nx] := by
  have := Blk.new (w.alloc (.cells #[.slice A q c, .slice U m d, .int .i64 nx] 54)) 54 #[.slice A' q c', .slice U' m d', .int .i64 nx]
  rw [World.size_alloc, ← hgb] at this
  rw [hw2]; exact this
 have HS := Qu.same_any U U' vs vs m m d d' w2 hm hm hm1 (hU.below b2) (hU'.below b2)
 rw [decide_eq_true (rfl : vs = vs)] at HS
 have HS := Lib.hid HS
 have HK := Lib.hid (And.intro ka (And.intro kb b2))
 have H := Lib.hid (And.intro (hP.below b2) (hP'.below b2))
 have HW := Lib.hid hw2
 have HG := Lib.hid (And.intro hga hgb)
 have x0 := ka.cell 0
 have x1 := ka.cell 1
 have y0 := kb.cell 0
 have y1 := kb.cell 1
 simp only [List.getElem?_toArray, List.getElem?_cons_zero, List.getElem?_cons_succ] at x0 x1 y0 y1
 rw [hw2, hga] at x0 x1
 rw [hw2, hgb] at y0 y1
 have hqq : ((q : Int) != (q : Int)) = false := by simp
 have hxx : (nx != nx) = false := by simp
 clear ka kb b2 hw2 hga hgb hP hP' hU hU'
 go_enter Tryz.func16, Tryz.ntmps16
 go_wp2_with fail
 rw [← HW.out]
 refine HS.out.mono ?_
 rintro e w3 ⟨rfl, b3⟩
 have HK3 := Lib.hid (And.intro (HK.out.1.below b3 HK.out.1.lt) (And.intro (HK.out.2.1.below b3 HK.out.2.1.lt) (And.intro (bt HK.out.2.2 b3) (And.intro (H.out.1.below b3) (H.out.2.below b3)))))
 have u2 := HK3.out.1.cell 2
 have v2 := HK3.out.2.1.cell 2
 simp only [List.getElem?_toArray, List.getElem?_cons_zero, List.getElem?_cons_succ] at u2 v2
 rw [HG.out.1] at u2
 rw [HG.out.2] at v2
 clear b3 x0 x1 y0 y1
 go_wp2_with fail
 rw [← HG.out.2, ← HG.out.1]
 clear u2 v2
 go_loopw [5] (fun iv wr => ∃ j : Nat, j ≤ q ∧ iv = .int .i64 j ∧ Hid (Below w3.heap.size w3 wr)) (fun iv _ => q - (intOf iv).toNat)
 case atStart => exact ⟨0, Nat.zero_le _, rfl, Lib.hid (Below.refl _ _)⟩
 case round =>
  obtain ⟨j, hj, rfl, HR⟩ := hrel
  obtain ⟨ka, kb, b3, hP, hP'⟩ := HK3.out
  have s0 := (ka.below HR.out ka.lt).cell 0
  have t0 := (kb.below HR.out kb.lt).cell 0
  simp only [List.getElem?_toArray, List.getElem?_cons_zero] at s0 t0
  by_cases hjn : j < q
  ·have hjI : (j : Int) < (q : Int) := by omega
   have hjL : j < P.length := by rw [← hq.out]; exact hjn
   obtain ⟨b, o, hA, _, hcs⟩ := (hP.below HR.out) (by omega)
   obtain ⟨b', o', hA', _, hcs'⟩ := (hP'.below HR.out) (by omega)
   obtain ⟨q0, q1⟩ := hcs j hjL
   obtain ⟨p0, p1⟩ := hcs' j hjL
   generalize P[j]'hjL = y at q0 q1 p0 p1
   obtain ⟨yk, yv⟩ := y
   dsimp only at q0 q1 p0 p1
   have e0 := fun m : Nat => cell_drew q0 m
   have e1 := fun m : Nat => cell_drew q1 m
   have d0 := fun m : Nat => cell_drew p0 m
   have d1 := fun m : Nat => cell_drew p1 m
   have s1 := fun m : Nat => cell_drew s0 m
   have t1 := fun m : Nat => cell_drew t0 m
   have HX : Hid (∀ m : Nat, Below w3.heap.size w3 (wr.drewN m)) := Lib.hid fun m => bt HR.out ⟨rfl, rfl, rfl, Nat.le_refl _, fun _ _ => rfl⟩
   subst hA hA'
   clear ka kb b3 hP hP' hcs hcs' hjL q0 q1 p0 p1 HR
   go_wp2_with fail
   go_quiet (fail)
   have HX2 := Lib.hid (HX.out nq)
   clear e0 e1 d0 d1 s0 t0 s1 t1 HX
   go_wp2
   go_roundw
   case rel => exact ⟨j + 1, by omega, by go_num, HX2⟩
   case measure => simp [intOf]; omega
  ·have hjI : ¬ (j : Int) < (q : Int) := by omega
   have hF := Lib.hid (bt HK3.out.2.2.1 HR.out)
   clear ka kb b3 hP hP' HR t0
   go_wp2
   go_ret
   exact ⟨rfl, hF.out⟩
end Go.Proofs.YtlliaihmfimdoaaGreat.Re


namespace Go.Proofs.YtlliaihmfimdoaaGreat.Re
open Go.RowKit Go.Maps Go.Joins Go.Deep Go.Proofs.YtlliaihmfimdoaaGreat
set_option linter.unusedVariables false
set_option linter.unusedSimpArgs false
theorem imP_eq {S S' : KS} (h : S.V = S'.V) : ∀ k, imP S k = imP S' k
 | 0 => rfl
 | k + 1 => by
  have e : valM S k = valM S' k := by unfold valM; rw [h]
  unfold imP
  rw [imP_eq h k, e]
end Go.Proofs.YtlliaihmfimdoaaGreat.Re


namespace Go.Proofs.YtlliaihmfimdoaaGreat.Re
open Go.RowKit Go.Maps Go.Joins Go.Deep Go.Proofs.YtlliaihmfimdoaaGreat
set_option linter.unusedVariables false
set_option linter.unusedSimpArgs false
structure ImgAt (w : World) (B : Nat) (A : Option Addr) (q c : Nat) (A' : Option Addr) (q' c' : Nat) (P : List (Int × Nat)) (vs : List Nat) : Prop where
 q : q = P.length
 q' : q' = vs.length
 p : OwnRp w B A c P
 u : Qu.OwnU w B A' c' vs
theorem ImgAt.below {w w' : World} {B q c q' c' : Nat} {A A' : Option Addr} {P : List (Int × Nat)} {vs : List Nat} (h : ImgAt w B A q c A' q' c' P vs) (hb : Below w.heap.size w w') : ImgAt w' B A q c A' q' c' P vs :=
 ⟨h.q, h.q', h.p.grown (lbelow_grown hb none) (fun r e => by cases e), h.u.grown (lbelow_grown hb none) (fun r e => by cases e)⟩
theorem ImgAt.pin {w : World} {B q c q' c' : Nat} {A A' : Option Addr} {P : List (Int × Nat)} {vs : List Nat} (h : ImgAt w B A q c A' q' c' P vs) : InRp w A P := h.p.in_
theorem ImgAt.uin {w : World} {B q c q' c' : Nat} {A A' : Option Addr} {P : List (Int × Nat)} {vs : List Nat} (h : ImgAt w B A q c A' q' c' P vs) : Qu.UAt w A' vs := h.u.at_
theorem image_img (g : Nat) (cs : Array Value) (S : RS) (N : Nat) (w : World) (h : ResAt w g cs S N) :
  Calls Tryz.prog 18 #[.pointer (some ⟨g, 0, none⟩)] w fun e w' => ∃ A q c A' q' c', e = .returned (.agg #[.slice A q c, .slice A' q' c', .int .i64 (S.Q.g + 1)]) ∧ Hid (ImgAt w' w.heap.size A q c A' q' c' (imP S.K 16) (S.Q.I.map Qu.IT.v) ∧ Below w.heap.size w w') := by
 refine (resimage_any g cs S N w h).mono ?_
 rintro e w' ⟨A, q, c, A', q', c', rfl, HX⟩
 exact ⟨A, q, c, A', q', c', rfl, Lib.hid ⟨⟨HX.out.1, by rw [List.length_map]; exact HX.out.2.1, HX.out.2.2.1, HX.out.2.2.2.1⟩, HX.out.2.2.2.2⟩⟩
structure DocAt (w : World) (A : Option Addr) (q : Nat) (A' : Option Addr) (q' : Nat) (P : List (Int × Nat)) (vs : List Nat) : Prop where
 q : q = P.length
 q' : q' = vs.length
 p : InRp w A P
 u : Qu.UAt w A' vs
theorem DocAt.below {w w' : World} {A A' : Option Addr} {q q' : Nat} {P : List (Int × Nat)} {vs : List Nat} (h : DocAt w A q A' q' P vs) (hb : Below w.heap.size w w') : DocAt w' A q A' q' P vs := ⟨h.q, h.q', h.p.below hb, h.u.below hb⟩
theorem as_img (w : World) (B : Nat) (A : Option Addr) (q c : Nat) (A' : Option Addr) (q' c' : Nat) (nx : Int) (P : List (Int × Nat)) (vs : List Nat) (h : ImgAt w B A q c A' q' c' P vs) (hm : q ≤ 1000) :
  Calls Tryz.prog 17 #[.agg #[.slice A q c, .slice A' q' c', .int .i64 nx]] w fun e w' => ∃ A9 c9, e = .returned (.agg #[.slice A9 q c9, .slice A' q' c', .int .i64 nx]) ∧ Hid (DocAt w' A9 q A' q' P vs ∧ Below w.heap.size w w') := by
 refine (as_any A A' q c q' c' nx P w (Lib.hid h.q) hm h.pin).mono ?_
 rintro e w' ⟨A9, c9, rfl, HX⟩
 exact ⟨A9, c9, rfl, Lib.hid ⟨⟨h.q, h.q', OwnPr.in_ HX.out.1, h.uin.below HX.out.2⟩, HX.out.2⟩⟩
theorem same_docs (w : World) (A : Option Addr) (q c : Nat) (U : Option Addr) (m d : Nat) (A' : Option Addr) (q' c' : Nat) (U' : Option Addr) (m' d' : Nat) (nx : Int) (P : List (Int × Nat)) (vs : List Nat) (h : DocAt w A q U m P vs) (h' : DocAt w A' q' U' m' P vs) (hm : q ≤ 1000 ∧ m ≤ 1000) :
  Calls Tryz.prog 16 #[.agg #[.slice A q c, .slice U m d, .int .i64 nx], .agg #[.slice A' q' c', .slice U' m' d', .int .i64 nx]] w fun e w' => e = .returned (.bool true) ∧ Below w.heap.size w w' := by
 have e1 : q' = q := h'.q.trans h.q.symm
 have e2 : m' = m := h'.q'.trans h.q'.symm
 subst e1 e2
 exact refsame_any A A' U U' _ c c' _ d d' nx P vs w (Lib.hid h.q) (Lib.hid h.q') hm.1 (by omega) h.p h'.p h.u h'.u
end Go.Proofs.YtlliaihmfimdoaaGreat.Re

