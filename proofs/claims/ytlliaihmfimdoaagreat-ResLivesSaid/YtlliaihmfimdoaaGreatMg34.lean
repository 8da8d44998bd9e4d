/- Parts Sm Tw of one proof. -/
import Derived.Test.YtlliaihmfimdoaaGreatMg32
import Derived.Test.YtlliaihmfimdoaaGreatMg01
import Derived.Test.YtlliaihmfimdoaaGreatProg
import Derived.Test.YtlliaihmfimdoaaGreatMg21
import Derived.Test.YtlliaihmfimdoaaGreatMg22
import Derived.Shelf.Abstract
import Derived.Shelf.RegionOpen
import Derived.WalkKit
import Derived.OwnWalkIn
import Derived.TacticsInMore
import Derived.LoopNIn
import Derived.LoopIn
import Derived.Deep.QuietTactic
import Derived.BigQuiet
import Derived.Test.YtlliaihmfimdoaaGreatMg23
namespace Go.Proofs.YtlliaihmfimdoaaGreat.Re
open Go.RowKit Go.Maps Go.Deep Go.Proofs.YtlliaihmfimdoaaGreat
set_option linter.unusedVariables false
set_option linter.unusedSimpArgs false
def restoreR (S : RS) (n : Int) (l : List Ch) : Int × RS :=
 if n < 1 then (1, S)
 else if (l.drop (endK l)).any isK = true then (3, S)
 else if (restoreM S.K n (l.take (endK l))).1 ≠ 0 then ((restoreM S.K n (l.take (endK l))).1, { S with K := (restoreM S.K n (l.take (endK l))).2 })
 else if (Qu.restM S.Q n (l.drop (endK l))).1 ≠ 0 then ((Qu.restM S.Q n (l.drop (endK l))).1, ⟨(backoutM (restoreM S.K n (l.take (endK l))).2 n).2, (Qu.restM S.Q n (l.drop (endK l))).2, S.pr⟩)
 else (0, holdR ⟨(restoreM S.K n (l.take (endK l))).2, (Qu.restM S.Q n (l.drop (endK l))).2, S.pr⟩ n l.length)
theorem inl_nil (u : World) (A : Option Addr) : InL u A [] := fun h => by simp at h
set_option maxRecDepth 100000 in
set_option maxHeartbeats 2000000 in
theorem resrestore_any (g : Nat) (cs : Array Value) (S : RS) (N : Nat) (n : Int) (A : Option Addr) (l : List Ch) (q c : Nat) (w : World) (h : ResAt w g cs S N) (hN : N < 200000) (hn : i64ok n) (hq : Hid (q = l.length)) (hqN : q ≤ N + 1) (hcap : q ≤ c ∧ c ≤ 9223372036854775807) (hL : ∀ u, w.grownBy u (some g) → InL u A l) (hBK : ∀ b, w.heap.size ≤ b → S.K.B b) (hBQ : ∀ b, w.heap.size ≤ b → S.Q.B b) :
  Calls Tryz.prog 28 #[.pointer (some ⟨g, 0, none⟩), .int .i64 n, .slice A q c] w fun e w' => e = .returned (.int .i64 (restoreR S n l).1) ∧ ResO w g (restoreR S n l).2 (N + 4) w' := by
 have HNm := Lib.hid (resnames_any g n w)
 by_cases h1 : n < 1
 ·have hM : restoreR S n l = (1, S) := if_pos h1
  rw [hM]
  rw [if_pos h1] at HNm
  have HX := Lib.hid (ResO.same (h.more (by omega : N ≤ N + 4)) (Below.refl _ _))
  clear h hM hn hL hBK hBQ
  go_enter Tryz.func28, Tryz.ntmps28
  go_wp2_with fail
  refine HNm.out.mono ?_
  rintro e w1 ⟨rfl, rfl⟩
  go_wp2
  go_ret
  exact ⟨rfl, HX.out⟩
 ·have hM : restoreR S n l = if (l.drop (endK l)).any isK = true then (3, S)
   else if (restoreM S.K n (l.take (endK l))).1 ≠ 0 then ((restoreM S.K n (l.take (endK l))).1, { S with K := (restoreM S.K n (l.take (endK l))).2 })
   else if (Qu.restM S.Q n (l.drop (endK l))).1 ≠ 0 then ((Qu.restM S.Q n (l.drop (endK l))).1, ⟨(backoutM (restoreM S.K n (l.take (endK l))).2 n).2, (Qu.restM S.Q n (l.drop (endK l))).2, S.pr⟩)
   else (0, holdR ⟨(restoreM S.K n (l.take (endK l))).2, (Qu.restM S.Q n (l.drop (endK l))).2, S.pr⟩ n l.length) := if_neg h1
  rw [hM]
  rw [if_neg h1] at HNm
  have HP := Lib.hid (parted_any A l q c hq (by omega) hcap w (hL w (lbelow_grown (Below.refl _ _) _)))
  obtain ⟨m, hm⟩ : ∃ m, m = endK l := ⟨_, rfl⟩
  have hmq : m ≤ q := by rw [hm, hq.out]; exact endK_le l
  rw [← hm] at HP ⊢
  obtain ⟨l1, hl1⟩ : ∃ l1, l1 = l.take m := ⟨_, rfl⟩
  obtain ⟨l2, hl2⟩ : ∃ l2, l2 = l.drop m := ⟨_, rfl⟩
  rw [← hl1, ← hl2]
  have hq1 : m = l1.length := by rw [hl1, List.length_take, ← hq.out]; omega
  have hq2 : q - m = l2.length := by rw [hl2, List.length_drop, ← hq.out]
  have HL : Hid (∀ u A2, w.grownBy u (some g) → (m < q → A2 = shiftA A m) → InL u A l1 ∧ InL u A2 l2) := Lib.hid fun u A2 hu hA => ⟨by rw [hl1]; exact inl_take (hL u hu) m, by
   by_cases hmlt : m < q
   ·rw [hA hmlt, hl2]; exact inl_drop (hL u hu) m
   ·have : l2 = [] := List.eq_nil_of_length_eq_zero (by omega)
    rw [this]; exact inl_nil _ _⟩
  have H := Lib.hid (And.intro h (And.intro hn (And.intro hBK (And.intro hBQ (And.intro hq1 hq2)))))
  obtain ⟨r1, hr1⟩ : ∃ r1, r1 = restoreM S.K n l1 := ⟨_, rfl⟩
  obtain ⟨r2, hr2⟩ : ∃ r2, r2 = Qu.restM S.Q n l2 := ⟨_, rfl⟩
  rw [← hr1, ← hr2]
  have HR := Lib.hid (And.intro hr1 hr2)
  obtain ⟨e1, K1⟩ := r1
  obtain ⟨e2, Q2⟩ := r2
  dsimp only
  clear h hM hn hL hBK hBQ hm hl1 hl2 hq1 hq2 hr1 hr2
  rcases hk : l2.any isK with _ | _
  ·rw [if_neg (by simp)]
   by_cases h0 : e1 = 0
   ·subst h0
    rw [if_neg (by simp)]
    by_cases h2 : e2 = 0
    ·subst h2
     rw [if_neg (by simp)]
     go_enter Tryz.func28, Tryz.ntmps28
     go_wp2_with fail
     refine HNm.out.mono ?_
     rintro e w1 ⟨rfl, rfl⟩
     go_wp2_with fail
     refine HP.out.mono ?_
     rintro e w2 ⟨⟨A2, rfl, hA2⟩, b2⟩
     have HA2 := Lib.hid hA2
     have hc2 := containsk_any A2 l2 (q - m) (c - m) (Lib.hid H.out.2.2.2.2.2) (by omega) w2 (HL.out w2 A2 (lbelow_grown b2 _) hA2).2
     rw [hk] at hc2
     have HC := Lib.hid hc2
     have HB2 := Lib.hid b2
     clear hA2 b2 hc2
     go_wp2_with fail
     refine HC.out.mono ?_
     rintro e w3 ⟨rfl, b3⟩
     have b23 := bt HB2.out b3
     have h3 := H.out.1.below b23
     have hK := restore_in g 102 cs S.K N n A l1 m c w3 h3.kv (by omega) H.out.2.1 (Lib.hid H.out.2.2.2.2.1) (by omega) (fun u hu => (HL.out u A2 ((lbelow_grown b23 (some g)).trans hu) HA2.out).1) (fun b hb => H.out.2.2.1 b (Nat.le_trans b23.size hb))
     rw [← HR.out.1] at hK
     have HK := Lib.hid hK
     have H3 := Lib.hid (And.intro h3 b23)
     clear b3 b23 h3 hK HC
     go_wp2_with fail
     refine HK.out.mono ?_
     rintro e w4 ⟨rfl, hk4⟩
     try dsimp only at hk4
     obtain ⟨⟨cs4, k4⟩, g4⟩ := H3.out.1.kturn hk4 (Nat.le_succ _)
     have g04 := (lbelow_grown H3.out.2 (some g)).trans g4
     have hQ := Qu.rest_any g 34 102 cs4 S.Q (N + 1) n A2 l2 (q - m) (c - m) w4 k4.qu (by omega) H.out.2.1 (Lib.hid H.out.2.2.2.2.2) (by omega) (fun u hu => (HL.out u A2 (g04.trans hu) HA2.out).2) (fun b hb => H.out.2.2.2.1 b (Nat.le_trans g04.size hb))
     rw [← HR.out.2] at hQ
     have HQ := Lib.hid hQ
     have H4 := Lib.hid (And.intro k4 g04)
     clear hk4 k4 g4 g04 hQ HK
     go_wp2_with fail
     refine HQ.out.mono ?_
     rintro e w5 ⟨rfl, hk5⟩
     try dsimp only at hk5
     obtain ⟨⟨cs5, k5⟩, g5⟩ := H4.out.1.qturn hk5 (Nat.le_succ _)
     have g05 := H4.out.2.trans g5
     try dsimp only at k5
     have HH := Lib.hid (hold_any g cs5 ⟨K1, Q2, S.pr⟩ (N + 2) n A q c w5 k5 (by omega))
     have H5 := Lib.hid g05
     clear hk5 k5 g5 g05 HQ
     go_wp2_with fail
     refine HH.out.mono ?_
     rintro e w6 ⟨rfl, hO⟩
     obtain ⟨⟨cs6, k6⟩, g6⟩ := ResO.from H5.out hO
     have HX : Hid (ResO w g (holdR ⟨K1, Q2, S.pr⟩ n l.length) (N + 4) w6) := Lib.hid (by rw [← hq.out]; exact ⟨⟨cs6, k6.more (by omega)⟩, g6⟩)
     clear hO k6 g6
     go_wp2
     go_ret
     exact ⟨rfl, HX.out⟩
    ·rw [if_pos h2]
     have hb : (e2 != 0) = true := by simpa using h2
     go_enter Tryz.func28, Tryz.ntmps28
     go_wp2_with fail
     refine HNm.out.mono ?_
     rintro e w1 ⟨rfl, rfl⟩
     go_wp2_with fail
     refine HP.out.mono ?_
     rintro e w2 ⟨⟨A2, rfl, hA2⟩, b2⟩
     have HA2 := Lib.hid hA2
     have hc2 := containsk_any A2 l2 (q - m) (c - m) (Lib.hid H.out.2.2.2.2.2) (by omega) w2 (HL.out w2 A2 (lbelow_grown b2 _) hA2).2
     rw [hk] at hc2
     have HC := Lib.hid hc2
     have HB2 := Lib.hid b2
     clear hA2 b2 hc2
     go_wp2_with fail
     refine HC.out.mono ?_
     rintro e w3 ⟨rfl, b3⟩
     have b23 := bt HB2.out b3
     have h3 := H.out.1.below b23
     have hK := restore_in g 102 cs S.K N n A l1 m c w3 h3.kv (by omega) H.out.2.1 (Lib.hid H.out.2.2.2.2.1) (by omega) (fun u hu => (HL.out u A2 ((lbelow_grown b23 (some g)).trans hu) HA2.out).1) (fun b hb => H.out.2.2.1 b (Nat.le_trans b23.size hb))
     rw [← HR.out.1] at hK
     have HK := Lib.hid hK
     have H3 := Lib.hid (And.intro h3 b23)
     clear b3 b23 h3 hK HC
     go_wp2_with fail
     refine HK.out.mono ?_
     rintro e w4 ⟨rfl, hk4⟩
     try dsimp only at hk4
     obtain ⟨⟨cs4, k4⟩, g4⟩ := H3.out.1.kturn hk4 (Nat.le_succ _)
     have g04 := (lbelow_grown H3.out.2 (some g)).trans g4
     have hQ := Qu.rest_any g 34 102 cs4 S.Q (N + 1) n A2 l2 (q - m) (c - m) w4 k4.qu (by omega) H.out.2.1 (Lib.hid H.out.2.2.2.2.2) (by omega) (fun u hu => (HL.out u A2 (g04.trans hu) HA2.out).2) (fun b hb => H.out.2.2.2.1 b (Nat.le_trans g04.size hb))
     rw [← HR.out.2] at hQ
     have HQ := Lib.hid hQ
     have H4 := Lib.hid (And.intro k4 g04)
     clear hk4 k4 g4 g04 hQ HK
     go_wp2_with fail
     refine HQ.out.mono ?_
     rintro e w5 ⟨rfl, hk5⟩
     try dsimp only at hk5
     obtain ⟨⟨cs5, k5⟩, g5⟩ := H4.out.1.qturn hk5 (Nat.le_succ _)
     have g05 := H4.out.2.trans g5
     try dsimp only at k5
     have HBo := Lib.hid (backout_any g 102 cs5 K1 (N + 2) n w5 k5.kv H.out.2.1)
     have H5 := Lib.hid (And.intro k5 g05)
     clear hk5 k5 g5 g05 HQ
     go_wp2_with fail
     refine HBo.out.mono ?_
     rintro e w6 ⟨rfl, hk6⟩
     obtain ⟨⟨cs6, k6⟩, g6⟩ := H5.out.1.kturn hk6 (Nat.le_refl _)
     have HX : Hid (ResO w g ⟨(backoutM K1 n).2, Q2, S.pr⟩ (N + 4) w6) := Lib.hid ⟨⟨cs6, k6.more (by omega)⟩, H5.out.2.trans g6⟩
     clear hk6 k6 g6
     go_wp2
     go_ret
     exact ⟨rfl, HX.out⟩
   ·rw [if_pos h0]
    have hb : (e1 != 0) = true := by simpa using h0
    go_enter Tryz.func28, Tryz.ntmps28
    go_wp2_with fail
    refine HNm.out.mono ?_
    rintro e w1 ⟨rfl, rfl⟩
    go_wp2_with fail
    refine HP.out.mono ?_
    rintro e w2 ⟨⟨A2, rfl, hA2⟩, b2⟩
    have HA2 := Lib.hid hA2
    have hc2 := containsk_any A2 l2 (q - m) (c - m) (Lib.hid H.out.2.2.2.2.2) (by omega) w2 (HL.out w2 A2 (lbelow_grown b2 _) hA2).2
    rw [hk] at hc2
    have HC := Lib.hid hc2
    have HB2 := Lib.hid b2
    clear hA2 b2 hc2
    go_wp2_with fail
    refine HC.out.mono ?_
    rintro e w3 ⟨rfl, b3⟩
    have b23 := bt HB2.out b3
    have h3 := H.out.1.below b23
    have hK := restore_in g 102 cs S.K N n A l1 m c w3 h3.kv (by omega) H.out.2.1 (Lib.hid H.out.2.2.2.2.1) (by omega) (fun u hu => (HL.out u A2 ((lbelow_grown b23 (some g)).trans hu) HA2.out).1) (fun b hb => H.out.2.2.1 b (Nat.le_trans b23.size hb))
    rw [← HR.out.1] at hK
    have HK := Lib.hid hK
    have H3 := Lib.hid (And.intro h3 b23)
    clear b3 b23 h3 hK HC
    go_wp2_with fail
    refine HK.out.mono ?_
    rintro e w4 ⟨rfl, hk4⟩
    try dsimp only at hk4
    obtain ⟨⟨cs4, k4⟩, g4⟩ := H3.out.1.kturn hk4 (Nat.le_succ _)
    have g04 := (lbelow_grown H3.out.2 (some g)).trans g4
    have HX : Hid (ResO w g { S with K := K1 } (N + 4) w4) := Lib.hid ⟨⟨cs4, k4.more (by omega)⟩, g04⟩
    clear hk4 k4 g4 g04 HK
    go_wp2
    go_ret
    exact ⟨rfl, HX.out⟩
  ·rw [if_pos rfl]
   go_enter Tryz.func28, Tryz.ntmps28
   go_wp2_with fail
   refine HNm.out.mono ?_
   rintro e w1 ⟨rfl, rfl⟩
   go_wp2_with fail
   refine HP.out.mono ?_
   rintro e w2 ⟨⟨A2, rfl, hA2⟩, b2⟩
   have hc2 := containsk_any A2 l2 (q - m) (c - m) (Lib.hid H.out.2.2.2.2.2) (by omega) w2 (HL.out w2 A2 (lbelow_grown b2 _) hA2).2
   rw [hk] at hc2
   have HC := Lib.hid hc2
   have HB2 := Lib.hid b2
   clear hA2 b2 hc2
   go_wp2_with fail
   refine HC.out.mono ?_
   rintro e w3 ⟨rfl, b3⟩
   have HX := Lib.hid (ResO.same (H.out.1.more (by omega : N ≤ N + 4)) (bt HB2.out b3))
   clear b3
   go_wp2
   go_ret
   exact ⟨rfl, HX.out⟩
end Go.Proofs.YtlliaihmfimdoaaGreat.Re


namespace Go.Proofs.YtlliaihmfimdoaaGreat.Re
open Go.RowKit Go.Shelf Go.Maps Go.Deep Go.Proofs.YtlliaihmfimdoaaGreat
attribute [local go_sem] Oper.semAt_some
set_option linter.unusedVariables false
set_option linter.unusedSimpArgs false
theorem ownC_grown {u u' : World} {B : Nat} {A : Option Addr} {c : Nat} {l : List Ch} {row : Option Nat} (h : OwnC u B A c l) (hg : u.grownBy u' row) (hr : ∀ r, row = some r → blk A ≠ some r) : OwnC u' B A c l := by
 refine World.ownsRow.kept h hg ?_
 rcases hb : (Value.slice A l.length c).ownBlock with _ | k
 ·exact .inl rfl
 ·rw [ownBlock_slice] at hb
  exact .inr (fun e => hr k e.symm hb)
section
variable {bs : List UInt8} {w W W' : World} {B : Nat} {xs : List Nat}
end
end Go.Proofs.YtlliaihmfimdoaaGreat.Re

