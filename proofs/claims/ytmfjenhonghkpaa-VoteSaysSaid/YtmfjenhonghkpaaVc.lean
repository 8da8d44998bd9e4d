/- Layer 16: the document's told. -/
import Derived.Test.YtmfjenhonghkpaaVb
import Derived.Deep.Upon
namespace Go.Proofs.Ytmfjenhonghkpaa
open Go Go.RowKit
set_option linter.unusedVariables false
set_option linter.unusedSimpArgs false

theorem ends_le {u : World} {B : Nat} {A : Option Addr} {c : Nat} {es : List Int} (h : EndsAt u B A c es) : es.length ≤ c := by
  obtain ⟨_, ⟨_, h2⟩ | ⟨g, cap, cur, e, _, _, hle, _⟩⟩ := h
  · omega
  · cases e; exact hle
/-- Numbers, or none, put behind numbers of one's own. -/
theorem ends_app0 {u : World} {B : Nat} {A : Option Addr} {c : Nat} {es : List Int} (h : EndsAt u B A c es) (A' : Option Addr) (c' : Nat) (zs : List Int) (n n' : Nat) (hn : n = es.length) (hn' : n' = zs.length) (hz : NumsAt u A' zs) (hl : es.length + zs.length ≤ 1000000) (hB : B ≤ u.heap.size) :
    ∃ A2 c2 u', (Builtin.append_ #[25, 25] 25 #[.slice A n c, .slice A' n' c']).run Try.prog u = .ok (.slice A2 (n + n') c2) u' ∧ EndsAt u' B A2 c2 (es ++ zs) ∧ Below B u u' := by
  cases zs with
  | cons z zs => exact ends_app h A' c' (z :: zs) n n' hn hn' (by simp) hz hl hB
  | nil =>
    subst hn hn'
    obtain ⟨i0, hi, _⟩ := info_parts Try.infoInt
    refine ⟨A, c, u, ?_, by rw [List.append_nil]; exact h, Below.refl _ _⟩
    exact run_append_nothing u 25 25 25 3 i0 Try.underlying25 hi A es.length c (ends_le h) (.slice A' 0 c') ⟨.inl ⟨_, Try.underlying25⟩, fun _ => by cases A' <;> rfl, by rcases A' with _ | a; exact run_firstCells_none u i0.size 0 0 c'; exact run_firstCells_some u i0.size 0 a 0 c' [] (by simp) (by simp), by rcases A' with _ | a; exact run_firstCells_none u.drew i0.size 0 0 c'; exact run_firstCells_some u.drew i0.size 0 a 0 c' [] (by simp) (by simp), by simp, by simp⟩

/-- The numbers that are told, from a number on. -/
def tolF : Nat → Fo → List Int
  | _, .nil => []
  | a, .cons v k r => ((if says3L (v :: votesF k) = 2 then [] else [(a : Int)]) ++ tolF (a + 1) k) ++ tolF (a + (k.cnt + 1)) r
theorem tolF_len : ∀ (f : Fo) (a : Nat), (tolF a f).length ≤ f.cnt
  | .nil, a => Nat.le_refl _
  | .cons v k r, a => by
    have h1 := tolF_len k (a + 1)
    have h2 := tolF_len r (a + (k.cnt + 1))
    simp only [tolF, List.length_append, Fo.cnt]
    split <;> simp <;> omega

def TldOk (k : Fo) : Prop := ∀ (v : Int) (A : Option Addr) (m c a : Nat) (hm : Hid (m = k.len)) (w : World) (ht : TreeAt w A k) (hbd : a + k.cnt + 1 ≤ 1000000), Calls Try.prog 28 #[.agg #[.int .i64 v, .slice A m c], .int .i64 a] w fun e w' => (∃ n A2 c2, e = .returned (.tuple #[.slice A2 n c2, .int .i64 ((a + 1 + k.cnt : Nat) : Int)]) ∧ n = (tolF (a + 1) k).length ∧ EndsAt w' w.heap.size A2 c2 (tolF (a + 1) k)) ∧ Below w.heap.size w w'
def AllTld : Fo → Prop
  | .nil => True
  | .cons _ k r => TldOk k ∧ AllTld r
set_option maxRecDepth 100000 in
set_option maxHeartbeats 2000000 in
theorem reftold_tree (k : Fo) (hall : AllTld k) : TldOk k := by
  intro v A m c a hm w ht hbd
  obtain ⟨b0, o0, hA0⟩ : ∃ b0 o0, Hid (0 < k.len → A = some ⟨b0, o0, none⟩) := by
    have h := ht.fo
    cases k with
    | nil => exact ⟨0, 0, Lib.hid (fun h => by simp [Fo.len] at h)⟩
    | cons v0 k0 r0 =>
      obtain ⟨b, o, _, _, e, _⟩ := h
      exact ⟨b, o, Lib.hid (fun _ => e)⟩
  obtain ⟨W1, hW1⟩ : ∃ W1, W1 = w.alloc (.cells #[.int .i64 v, .slice A m c] 28) := ⟨_, rfl⟩
  have k1 : Blk W1 w.heap.size 28 #[.int .i64 v, .slice A m c] := by rw [hW1]; exact Blk.new _ _ _
  have b1 : Below w.heap.size w W1 := by rw [hW1]; exact ba _ _
  have HW1 := Lib.hid hW1
  have hwa : IntKind.i64.wrap ((a : Int) + 1) = ((a + 1 : Nat) : Int) := by rw [IntWalk.i64_in _ (by omega)]; omega
  obtain ⟨a1, ha1⟩ : ∃ a1, a1 = a + 1 := ⟨_, rfl⟩
  rw [← ha1] at hwa
  have HK := Lib.hid (And.intro k1 (And.intro b1 (And.intro ht.len (And.intro hall (And.intro (ht.fo.below b1) (by omega : w.heap.size + 1 ≤ w.heap.size + 1))))))
  have Hbd := Lib.hid hbd
  have HA1 := Lib.hid ha1
  rw [← ha1]
  clear hW1 k1 b1 ht hall hbd ha1
  go_enter Try.func28, Try.ntmps28
  go_wp2_with fail
  rw [← HW1.out]
  go_loopw [1, 6, 7] (fun t s i wr => ∃ (i0 at0 q : Nat) (r : Fo) (A3 : Option Addr) (c3 : Nat) (L : List Int), i0 + r.len = m ∧ t = .int .i64 at0 ∧ i = .int .i64 i0 ∧ s = .slice A3 q c3 ∧ Hid (q = L.length ∧ EndsAt wr (w.heap.size + 1) A3 c3 L ∧ L ++ tolF at0 r = tolF a1 k ∧ Blk wr w.heap.size 28 #[.int .i64 v, .slice A m c] ∧ Below w.heap.size w wr ∧ FoAt wr w.heap.size r (some ⟨b0, o0 + i0 * 2, none⟩) ∧ AllTld r ∧ at0 + r.cnt = a1 + k.cnt)) (fun t s i _ => m - (intOf i).toNat)
  case atStart =>
    refine ⟨0, a1, 0, k, none, 0, [], by rw [hm.out]; omega, rfl, rfl, rfl, Lib.hid ⟨rfl, EndsAt.nil _ _, rfl, HK.out.1, HK.out.2.1, ?_, HK.out.2.2.2.1, rfl⟩⟩
    have h := HK.out.2.2.2.2.1
    cases k with
    | nil => trivial
    | cons v0 k0 r0 => rw [hA0.out (by simp [Fo.len])] at h; simpa using h
  case round =>
    obtain ⟨i0, at0, q, r, A3, c3, L, hir, rfl, rfl, rfl, HR⟩ := hrel
    have c1 := HR.out.2.2.2.1.cell 1
    simp only [List.getElem?_toArray, List.getElem?_cons_zero, List.getElem?_cons_succ] at c1
    cases r with
    | nil =>
      simp only [Fo.len, Nat.add_zero] at hir
      subst hir
      have hiI : ¬ (i0 : Int) < (i0 : Int) := by omega
      go_wp2
      go_returns
      have hL : L = tolF a1 k := by have := HR.out.2.2.1; simpa [tolF] using this
      have hat := HR.out.2.2.2.2.2.2.2
      simp only [Fo.cnt, Nat.add_zero] at hat
      have hI : (a1 : Int) + (k.cnt : Int) = (at0 : Int) := by omega
      exact ⟨⟨q, A3, c3, by first | (rw [hI]; rfl) | (rw [← hat]; rfl), by rw [HR.out.1, hL], by rw [← hL]; exact HR.out.2.1.less (by omega)⟩, HR.out.2.2.2.2.1⟩
    | cons v2 k2 r2 =>
      obtain ⟨hql, hEL, hLk, hBk, hBl, hfr, har, hat⟩ := HR.out
      have hfr0 := hfr
      obtain ⟨b, o, A4, c4, hAe, hbB, q0, q1, hk2m, hf2, hfr2⟩ := hfr
      obtain ⟨rfl, rfl⟩ : b0 = b ∧ o0 + i0 * 2 = o := by cases hAe; exact ⟨rfl, rfl⟩
      obtain rfl : A = some ⟨b0, o0, none⟩ := hA0.out (by rw [← hm.out]; simp only [Fo.len] at hir; omega)
      obtain ⟨m2, hm2⟩ : ∃ m2, m2 = k2.len := ⟨_, rfl⟩
      rw [← hm2] at q1
      have hmm : m ≤ 9223372036854775807 := by rw [hm.out]; have := HK.out.2.2.1; unfold maxLen at this; omega
      have him : i0 < m := by simp only [Fo.len] at hir; omega
      have hiI : (i0 : Int) < (m : Int) := by omega
      have hmI : ((i0 : Int) + 1) ≤ 9223372036854775807 := by omega
      simp only [Fo.cnt] at hat
      have hbnd : at0 + k2.cnt + 1 ≤ 1000000 := by have := Hbd.out; have := HA1.out; omega
      have HC1 := Lib.hid (votes_any k2 v2 A4 m2 c4 (Lib.hid hm2) wr ⟨hk2m, FoAt.more (by have := hBl.size; omega) _ _ hf2⟩ (by omega))
      have HM2 := Lib.hid hm2
      have HT2 := Lib.hid har.1
      have HS := Lib.hid (And.intro (show i0 + 1 + r2.len = m by simp only [Fo.len] at hir; omega) (And.intro har.2 (show at0 + 1 + k2.cnt + r2.cnt = a1 + k.cnt by omega)))
      have HQ := Lib.hid (And.intro hbB (And.intro hk2m (And.intro hf2 (And.intro hfr2 (And.intro hbnd hLk)))))
      obtain ⟨z, hz⟩ : ∃ z, z = k2.cnt + 1 := ⟨_, rfl⟩
      have hz6 : z ≤ 1000000 := by omega
      rw [← hz] at HC1
      have HZ := Lib.hid (show z = (v2 :: votesF k2).length by rw [List.length_cons, votesF_len]; exact hz)
      clear hql hEL hLk hBk hBl har hat hfr0 hAe hbB hk2m hf2 hfr2 hm2 hmm hir hz hbnd
      have Q0 := Lib.hid q0
      have Q1 := Lib.hid q1
      have C1 := Lib.hid c1
      go_wp2_with fail
      refine HC1.out.mono ?_
      rintro e w2 ⟨⟨A5, c5, rfl, own5⟩, b2⟩
      have kb2 := HR.out.2.2.2.1.below b2 HR.out.2.2.2.1.lt
      have hb2 := HR.out.2.2.2.2.1.trans (b2.mono HR.out.2.2.2.2.1.size)
      have hE2 : EndsAt w2 (w.heap.size + 1) A3 c3 L := HR.out.2.1.keptC fun r hb o ho _ => (b2.block r (HR.out.2.1.lt' r hb).2).trans ho
      have HF2 := Lib.hid (HR.out.2.2.2.2.2.1.below (b2.mono HR.out.2.2.2.2.1.size))
      have H3 := Lib.hid (refsays3_any A5 (v2 :: votesF k2) z c5 (Lib.hid HZ.out) hz6 w2 own5.nums)
      have H2 := Lib.hid (And.intro kb2 (And.intro hb2 hE2))
      clear own5 b2 kb2 hb2 hE2 q0 q1 c1
      obtain ⟨s, hs⟩ : ∃ s, s = says3L (v2 :: votesF k2) := ⟨_, rfl⟩
      rw [← hs] at H3
      have HSS := Lib.hid hs
      clear hs
      go_wp2_with fail
      refine H3.out.mono ?_
      rintro e w2' ⟨rfl, rfl⟩
      clear H3
      rcases h2 : (s == 2) with _ | _
      · have n2 : (s != 2) = true := by simp [bne, h2]
        have hne : ¬ says3L (v2 :: votesF k2) = 2 := by rw [← HSS.out]; simpa using h2
        have hLB : L.length + [(at0 : Int)].length ≤ 1000000 := by
          have h1 := congrArg List.length HQ.out.2.2.2.2.2
          have h2 := tolF_len k a1
          have := Hbd.out
          simp only [tolF] at h1
          rw [if_neg hne] at h1
          simp only [List.length_append, List.length_singleton] at h1 ⊢
          omega
        obtain ⟨W3, hW3⟩ : ∃ W3, W3 = w2.alloc (.cells #[.int .i64 at0] 3) := ⟨_, rfl⟩
        have b3 : Below w2.heap.size w2 W3 := by rw [hW3]; exact ba _ _
        have kq : Blk W3 w2.heap.size 3 #[.int .i64 at0] := by rw [hW3]; exact Blk.new _ _ _
        have hE3 : EndsAt W3 (w.heap.size + 1) A3 c3 L := H2.out.2.2.keptC fun r hb o ho _ => (b3.block r (H2.out.2.2.lt' r hb).2).trans ho
        obtain ⟨A9, c9, w4, hrun9, own9, b9⟩ := ends_app hE3 (some ⟨w2.heap.size, 0, none⟩) 1 [(at0 : Int)] q 1 HR.out.1 rfl (by simp) (fun _ => ⟨w2.heap.size, 0, rfl, fun i hi => by
          have : i = 0 := by simp at hi; omega
          subst this
          exact (kq.cell 0).trans rfl⟩) hLB (by have := H2.out.1.lt; have := b3.size; omega)
        have hlt := H2.out.1.lt
        have XB := Lib.hid (And.intro ((H2.out.1.below b3 hlt).below b9 (Nat.lt_succ_self _)) (And.intro ((H2.out.2.1.trans (b3.mono H2.out.2.1.size)).trans (b9.mono (Nat.le_succ _))) (And.intro True.intro (And.intro own9 (And.intro (show q + 1 = (L ++ [(at0 : Int)]).length by rw [List.length_append, ← HR.out.1]; rfl) (show (L ++ [(at0 : Int)]) ++ (tolF (at0 + 1) k2 ++ tolF (at0 + (k2.cnt + 1)) r2) = tolF a1 k by rw [← HQ.out.2.2.2.2.2]; simp only [tolF]; rw [if_neg hne]; simp))))))
        have HFF := Lib.hid ((HF2.out.below (b3.mono H2.out.2.1.size)).below (b9.mono (Nat.le_succ _)))
        rw [hW3] at hrun9
        clear hW3 b3 kq hE3 own9 b9 hlt hne hLB
        obtain ⟨b, o, A8, c8, hAe, hbB, q0, q1, hk2m, hf2, hfr2⟩ := HFF.out
        obtain ⟨rfl, rfl⟩ : b0 = b ∧ o0 + i0 * 2 = o := by cases hAe; exact ⟨rfl, rfl⟩
        rw [← HM2.out] at q1
        have c1 := XB.out.1.cell 1
        simp only [List.getElem?_toArray, List.getElem?_cons_zero, List.getElem?_cons_succ] at c1
        have HC2 := Lib.hid (HT2.out v2 A8 m2 c8 at0 (Lib.hid HM2.out) w4 ⟨hk2m, FoAt.more (by have := XB.out.2.1.size; omega) _ _ hf2⟩ (by have := HQ.out.2.2.2.2.1; omega))
        have HFR := Lib.hid hfr2
        clear hAe hbB hk2m hf2 hfr2
        go_wp2_with (at_builtin; refine wpList_append_run rfl (.tmp 27) (.tmp 29) 25 rfl _ _ _ w4 rfl rfl hrun9 ?_)
        clear hrun9 c1 q0 q1
        refine HC2.out.mono ?_
        rintro e w5 ⟨⟨n6, A6, c6, rfl, hn6, own6⟩, b5⟩
        have hE5 : EndsAt w5 (w.heap.size + 1) A9 c9 (L ++ [(at0 : Int)]) := XB.out.2.2.2.1.keptC fun r hb o ho _ => (b5.block r (XB.out.2.2.2.1.lt' r hb).2).trans ho
        have hws : w.heap.size + 1 ≤ w5.heap.size := by have := XB.out.1.lt; have := b5.size; omega
        have kb5 := XB.out.1.below b5 XB.out.1.lt
        have hb5 := XB.out.2.1.trans (b5.mono XB.out.2.1.size)
        have hfr5 := HFR.out.below (b5.mono XB.out.2.1.size)
        have hn0 : n6 ≤ k2.cnt := by rw [hn6]; exact tolF_len k2 _
        have hL6 := hn6
        have hq1 := XB.out.2.2.2.2.1
        have hz1 := XB.out.2.2.2.2.2
        obtain ⟨ys, hys⟩ : ∃ ys, ys = tolF (at0 + 1) k2 := ⟨_, rfl⟩
        rw [← hys] at own6 hn6 hz1
        obtain ⟨A7, c7, w7, hrun, own7, b7⟩ : ∃ A7 c7 w7, (Builtin.append_ #[25, 25] 25 #[.slice A9 (q + 1) c9, .slice A6 n6 c6]).run Try.prog w5 = .ok (.slice A7 ((q + 1) + n6) c7) w7 ∧ EndsAt w7 (w.heap.size + 1) A7 c7 ((L ++ [(at0 : Int)]) ++ ys) ∧ Below (w.heap.size + 1) w5 w7 := by
          refine ends_app0 hE5 A6 c6 ys (q + 1) n6 hq1 hn6 own6.nums ?_ hws
          have h1 := congrArg List.length hz1
          have h2 := tolF_len k a1
          have := Hbd.out
          simp only [List.length_append] at h1 ⊢
          omega
        have HX := Lib.hid (And.intro (kb5.below b7 (Nat.lt_succ_self _)) (And.intro (hb5.trans (b7.mono (Nat.le_succ _))) (And.intro (hfr5.below (b7.mono (Nat.le_succ _))) own7)))
        have HY := Lib.hid (And.intro hz1 (And.intro hn6 hq1))
        have hi2 : o0 + (i0 + 1) * 2 = o0 + i0 * 2 + 2 := by omega
        clear own6 b5 hE5 hws kb5 hb5 hfr5 hn0 hL6 hq1 hz1 hys hn6 own7 b7
        go_wp2_with (at_builtin; refine wpList_append_run rfl (.tmp 41) (.tmp 42) 25 rfl _ _ _ w7 rfl rfl hrun ?_)
        clear hrun
        go_roundw
        case rel => exact ⟨i0 + 1, at0 + 1 + k2.cnt, (q + 1) + n6, r2, A7, c7, (L ++ [(at0 : Int)]) ++ ys, HS.out.1, rfl, by go_num, rfl, Lib.hid ⟨by rw [List.length_append, HY.out.2.1, HY.out.2.2], HX.out.2.2.2, by rw [List.append_assoc, show at0 + 1 + k2.cnt = at0 + (k2.cnt + 1) by omega]; exact HY.out.1, HX.out.1, HX.out.2.1, by rw [hi2]; exact HX.out.2.2.1, HS.out.2.1, by have := HS.out.2.2; omega⟩⟩
        case measure => simp [intOf]; omega
      · have n2 : (s != 2) = false := by simp [bne, h2]
        have he : says3L (v2 :: votesF k2) = 2 := by rw [← HSS.out]; simpa using h2
        have XB := Lib.hid (And.intro H2.out.1 (And.intro H2.out.2.1 (And.intro True.intro (And.intro H2.out.2.2 (And.intro HR.out.1 (show L ++ (tolF (at0 + 1) k2 ++ tolF (at0 + (k2.cnt + 1)) r2) = tolF a1 k by rw [← HQ.out.2.2.2.2.2]; simp only [tolF]; rw [if_pos he]; simp))))))
        have HFF := HF2
        clear he
        obtain ⟨b, o, A8, c8, hAe, hbB, q0, q1, hk2m, hf2, hfr2⟩ := HFF.out
        obtain ⟨rfl, rfl⟩ : b0 = b ∧ o0 + i0 * 2 = o := by cases hAe; exact ⟨rfl, rfl⟩
        rw [← HM2.out] at q1
        have c1 := XB.out.1.cell 1
        simp only [List.getElem?_toArray, List.getElem?_cons_zero, List.getElem?_cons_succ] at c1
        have HC2 := Lib.hid (HT2.out v2 A8 m2 c8 at0 (Lib.hid HM2.out) w2 ⟨hk2m, FoAt.more (by have := XB.out.2.1.size; omega) _ _ hf2⟩ (by have := HQ.out.2.2.2.2.1; omega))
        have HFR := Lib.hid hfr2
        clear hAe hbB hk2m hf2 hfr2
        go_wp2_with fail
        refine HC2.out.mono ?_
        rintro e w5 ⟨⟨n6, A6, c6, rfl, hn6, own6⟩, b5⟩
        have hE5 : EndsAt w5 (w.heap.size + 1) A3 c3 L := XB.out.2.2.2.1.keptC fun r hb o ho _ => (b5.block r (XB.out.2.2.2.1.lt' r hb).2).trans ho
        have hws : w.heap.size + 1 ≤ w5.heap.size := by have := XB.out.1.lt; have := b5.size; omega
        have kb5 := XB.out.1.below b5 XB.out.1.lt
        have hb5 := XB.out.2.1.trans (b5.mono XB.out.2.1.size)
        have hfr5 := HFR.out.below (b5.mono XB.out.2.1.size)
        have hn0 : n6 ≤ k2.cnt := by rw [hn6]; exact tolF_len k2 _
        have hL6 := hn6
        have hq1 := XB.out.2.2.2.2.1
        have hz1 := XB.out.2.2.2.2.2
        obtain ⟨ys, hys⟩ : ∃ ys, ys = tolF (at0 + 1) k2 := ⟨_, rfl⟩
        rw [← hys] at own6 hn6 hz1
        obtain ⟨A7, c7, w7, hrun, own7, b7⟩ : ∃ A7 c7 w7, (Builtin.append_ #[25, 25] 25 #[.slice A3 q c3, .slice A6 n6 c6]).run Try.prog w5 = .ok (.slice A7 (q + n6) c7) w7 ∧ EndsAt w7 (w.heap.size + 1) A7 c7 (L ++ ys) ∧ Below (w.heap.size + 1) w5 w7 := by
          refine ends_app0 hE5 A6 c6 ys q n6 hq1 hn6 own6.nums ?_ hws
          have h1 := congrArg List.length hz1
          have h2 := tolF_len k a1
          have := Hbd.out
          simp only [List.length_append] at h1 ⊢
          omega
        have HX := Lib.hid (And.intro (kb5.below b7 (Nat.lt_succ_self _)) (And.intro (hb5.trans (b7.mono (Nat.le_succ _))) (And.intro (hfr5.below (b7.mono (Nat.le_succ _))) own7)))
        have HY := Lib.hid (And.intro hz1 (And.intro hn6 hq1))
        have hi2 : o0 + (i0 + 1) * 2 = o0 + i0 * 2 + 2 := by omega
        clear own6 b5 hE5 hws kb5 hb5 hfr5 hn0 hL6 hq1 hz1 hys hn6 own7 b7
        go_wp2_with (at_builtin; refine wpList_append_run rfl (.tmp 41) (.tmp 42) 25 rfl _ _ _ w7 rfl rfl hrun ?_)
        clear hrun
        go_roundw
        case rel => exact ⟨i0 + 1, at0 + 1 + k2.cnt, q + n6, r2, A7, c7, L ++ ys, HS.out.1, rfl, by go_num, rfl, Lib.hid ⟨by rw [List.length_append, HY.out.2.1, HY.out.2.2], HX.out.2.2.2, by rw [List.append_assoc, show at0 + 1 + k2.cnt = at0 + (k2.cnt + 1) by omega]; exact HY.out.1, HX.out.1, HX.out.2.1, by rw [hi2]; exact HX.out.2.2.1, HS.out.2.1, by have := HS.out.2.2; omega⟩⟩
        case measure => simp [intOf]; omega
theorem reftold_all : ∀ k : Fo, AllTld k
  | .nil => trivial
  | .cons v k r => ⟨reftold_tree k (reftold_all k), reftold_all r⟩
theorem reftold_any (k : Fo) : TldOk k := reftold_tree k (reftold_all k)
end Go.Proofs.Ytmfjenhonghkpaa
