/- Layer 16: the document's votes. -/
import Derived.Test.YtmfjenhonghkpaaUx
namespace Go.Proofs.Ytmfjenhonghkpaa
open Go Go.RowKit
set_option linter.unusedVariables false
set_option linter.unusedSimpArgs false

theorem votesF_len : ∀ f : Fo, (votesF f).length = f.cnt
  | .nil => rfl
  | .cons v k r => by simp only [votesF, List.length_cons, List.length_append, votesF_len k, votesF_len r, Fo.cnt]; omega
/-- Numbers put behind numbers of one's own. -/
theorem ends_app {u : World} {B : Nat} {A : Option Addr} {c : Nat} {es : List Int} (h : EndsAt u B A c es) (A' : Option Addr) (c' : Nat) (zs : List Int) (n n' : Nat) (hn : n = es.length) (hn' : n' = zs.length) (h0 : 0 < zs.length) (hz : NumsAt u A' zs) (hl : es.length + zs.length ≤ 1000000) (hB : B ≤ u.heap.size) :
    ∃ A2 c2 u', (Builtin.append_ #[25, 25] 25 #[.slice A n c, .slice A' n' c']).run Try.prog u = .ok (.slice A2 (n + n') c2) u' ∧ EndsAt u' B A2 c2 (es ++ zs) ∧ Below B u u' := by
  subst hn hn'
  obtain ⟨i0, hi, hz0, hz1, hz2⟩ := info_parts Try.infoInt
  obtain ⟨b, o, rfl, hc⟩ := hz h0
  obtain ⟨v', w', hrun, hown, hgr, _, _⟩ := run_append_own_at (P := Try.prog) u B 25 25 3 i0 _ 1 8 Try.underlying25 hi hz0 hz1 hz2 rfl (by omega) (.slice A es.length c) es.length (es.map (Value.int .i64)) h ⟨b, o, none⟩ zs.length c' (zs.map (Value.int .i64)) (by simp)
    (fun j x hx => by
      rw [List.getElem?_map] at hx
      rcases hj : zs[j]? with _ | z
      · rw [hj] at hx; cases hx
      · rw [hj] at hx
        obtain ⟨hlt, e⟩ := List.getElem?_eq_some_iff.1 hj
        rw [Addr.add_lit, hc j hlt, e]
        exact hx)
    (fun x hx => by obtain ⟨z, _, rfl⟩ := List.mem_map.1 hx; rfl) (by simp only [maxLen]; omega) (by omega) hB
  obtain ⟨g2, c2, rfl⟩ := Joins.ownsRow_form hown (by omega)
  refine ⟨some ⟨g2, 0, none⟩, c2, w', hrun, ?_, (Below.refl B u).grown hgr hB fun r e => (h.lt r e).1⟩
  unfold EndsAt
  rw [List.length_append, List.map_append]
  exact hown

def VtsOk (k : Fo) : Prop := ∀ (v : Int) (A : Option Addr) (m c : Nat) (hm : Hid (m = k.len)) (w : World) (ht : TreeAt w A k) (hbd : k.cnt + 1 ≤ 1000000), Calls Try.prog 26 #[.agg #[.int .i64 v, .slice A m c]] w fun e w' => (∃ A2 c2, e = .returned (.slice A2 (k.cnt + 1) c2) ∧ EndsAt w' w.heap.size A2 c2 (v :: votesF k)) ∧ Below w.heap.size w w'
def AllVts : Fo → Prop
  | .nil => True
  | .cons _ k r => VtsOk k ∧ AllVts r
set_option maxRecDepth 100000 in
set_option maxHeartbeats 2000000 in
theorem votes_tree (k : Fo) (hall : AllVts k) : VtsOk k := by
  intro v A m c hm w ht hbd
  obtain ⟨b0, o0, hA0⟩ : ∃ b0 o0, Hid (0 < k.len → A = some ⟨b0, o0, none⟩) := by
    have h := ht.fo
    cases k with
    | nil => exact ⟨0, 0, Lib.hid (fun h => by simp [Fo.len] at h)⟩
    | cons v0 k0 r0 =>
      obtain ⟨b, o, _, _, e, _⟩ := h
      exact ⟨b, o, Lib.hid (fun _ => e)⟩
  obtain ⟨W1, hW1⟩ : ∃ W1, W1 = w.alloc (.cells #[.int .i64 v, .slice A m c] 28) := ⟨_, rfl⟩
  have k1 : Blk W1 w.heap.size 28 #[.int .i64 v, .slice A m c] := by rw [hW1]; exact Blk.new _ _ _
  have b1 : Below w.heap.size w W1 := by rw [hW1]; exact ba _ _
  have s1 : W1.heap.size = w.heap.size + 1 := by rw [hW1]; simp
  have c0 := k1.cell 0
  simp only [List.getElem?_toArray, List.getElem?_cons_zero] at c0
  -- the first vote
  obtain ⟨W2, hW2⟩ : ∃ W2, W2 = W1.alloc (.cells #[.int .i64 v] 3) := ⟨_, rfl⟩
  have b2 : Below W1.heap.size W1 W2 := by rw [hW2]; exact ba _ _
  have kq : Blk W2 W1.heap.size 3 #[.int .i64 v] := by rw [hW2]; exact Blk.new _ _ _
  obtain ⟨A2, c2, w3, hrun, own3, b3⟩ := ends_app (EndsAt.nil W2 (w.heap.size + 1)) (some ⟨W1.heap.size, 0, none⟩) 1 [v] 0 1 rfl rfl (by simp) (fun _ => ⟨W1.heap.size, 0, rfl, fun i hi => by
    have : i = 0 := by simp at hi; omega
    subst this
    exact (kq.cell 0).trans rfl⟩) (by simp) (by have := b2.size; omega)
  rw [hW2, hW1] at hrun
  simp only [World.size_alloc, Nat.zero_add] at hrun
  have bel3 : Below w.heap.size w w3 := (b1.trans (b2.mono (by omega))).trans (b3.mono (by omega))
  have k3 : Blk w3 w.heap.size 28 #[.int .i64 v, .slice A m c] := (k1.below b2 k1.lt).below b3 (by omega)
  have HK := Lib.hid (And.intro k3 (And.intro bel3 (And.intro ht.len (And.intro hall (And.intro (ht.fo.below bel3) own3)))))
  have Hbd := Lib.hid hbd
  rw [hW1] at c0
  clear hW1 hW2 k1 b1 b2 b3 kq ht hall own3 bel3 k3 s1 hbd
  go_enter Try.func26, Try.ntmps26
  go_wp2_with (at_builtin; refine wpList_append_run rfl (.tmp 5) (.tmp 8) 25 rfl _ _ _ w3 rfl rfl hrun ?_)
  clear c0 hrun
  go_loopw [3, 4] (fun s i wr => ∃ (i0 q : Nat) (r : Fo) (A3 : Option Addr) (c3 : Nat) (L : List Int), i0 + r.len = m ∧ i = .int .i64 i0 ∧ s = .slice A3 q c3 ∧ Hid (q = L.length ∧ EndsAt wr (w.heap.size + 1) A3 c3 L ∧ L ++ votesF r = v :: votesF k ∧ Blk wr w.heap.size 28 #[.int .i64 v, .slice A m c] ∧ Below w.heap.size w wr ∧ FoAt wr w.heap.size r (some ⟨b0, o0 + i0 * 2, none⟩) ∧ AllVts r)) (fun s i _ => m - (intOf i).toNat)
  case atStart =>
    refine ⟨0, 1, k, A2, c2, [v], by rw [hm.out]; omega, rfl, rfl, Lib.hid ⟨rfl, by simpa using HK.out.2.2.2.2.2, by simp, HK.out.1, HK.out.2.1, ?_, HK.out.2.2.2.1⟩⟩
    have h := HK.out.2.2.2.2.1
    cases k with
    | nil => trivial
    | cons v0 k0 r0 => rw [hA0.out (by simp [Fo.len])] at h; simpa using h
  case round =>
    obtain ⟨i0, q, r, A3, c3, L, hir, rfl, rfl, HR⟩ := hrel
    have c1 := HR.out.2.2.2.1.cell 1
    simp only [List.getElem?_toArray, List.getElem?_cons_zero, List.getElem?_cons_succ] at c1
    cases r with
    | nil =>
      simp only [Fo.len, Nat.add_zero] at hir
      subst hir
      have hiI : ¬ (i0 : Int) < (i0 : Int) := by omega
      go_wp2
      go_ret
      have hL : L = v :: votesF k := by have := HR.out.2.2.1; simpa [votesF] using this
      exact ⟨⟨A3, c3, by rw [HR.out.1, hL, List.length_cons, votesF_len]; rfl, by rw [← hL]; exact HR.out.2.1.less (by omega)⟩, HR.out.2.2.2.2.1⟩
    | cons v2 k2 r2 =>
      obtain ⟨hql, hEL, hLk, _, _, hfr, har⟩ := HR.out
      obtain ⟨b, o, A4, c4, hAe, hbB, q0, q1, hk2m, hf2, hfr2⟩ := hfr
      obtain ⟨rfl, rfl⟩ : b0 = b ∧ o0 + i0 * 2 = o := by cases hAe; exact ⟨rfl, rfl⟩
      obtain rfl : A = some ⟨b0, o0, none⟩ := hA0.out (by rw [← hm.out]; simp only [Fo.len] at hir; omega)
      obtain ⟨m2, hm2⟩ : ∃ m2, m2 = k2.len := ⟨_, rfl⟩
      rw [← hm2] at q1
      have hmm : m ≤ 9223372036854775807 := by rw [hm.out]; have := HK.out.2.2.1; unfold maxLen at this; omega
      have him : i0 < m := by simp only [Fo.len] at hir; omega
      have hiI : (i0 : Int) < (m : Int) := by omega
      have hmI : ((i0 : Int) + 1) ≤ 9223372036854775807 := by omega
      have hlen : q + (k2.cnt + 1) ≤ 1000000 := by
        have h := congrArg List.length hLk
        have := Hbd.out
        simp only [List.length_append, List.length_cons, votesF_len, Fo.cnt] at h
        omega
      have hcall := har.1 v2 A4 m2 c4 (Lib.hid hm2) wr ⟨hk2m, FoAt.more (by have := HR.out.2.2.2.2.1.size; omega) _ _ hf2⟩ (by omega)
      have HC := Lib.hid hcall
      have hir2 : i0 + 1 + r2.len = m := by simp only [Fo.len] at hir; omega
      have HS := Lib.hid (And.intro hql (And.intro hEL (And.intro hLk (And.intro har.2 (And.intro hfr2 (And.intro hir2 hlen))))))
      clear hcall hAe hbB hf2 hfr2 har hk2m hm2 hir hir2 hmm hql hEL hLk hlen
      obtain ⟨z, hz⟩ : ∃ z, z = k2.cnt + 1 := ⟨_, rfl⟩
      rw [← hz] at HC
      have HZ := Lib.hid hz
      clear hz
      go_wp2_with fail
      refine HC.out.mono ?_
      rintro e w2 ⟨⟨A5, c5, rfl, own5⟩, bw⟩
      have hE2 : EndsAt w2 (w.heap.size + 1) A3 c3 L := HS.out.2.1.keptC fun r hb o ho _ => (bw.block r (HS.out.2.1.lt' r hb).2).trans ho
      have hws : w.heap.size + 1 ≤ w2.heap.size := by have := HR.out.2.2.2.1.lt; have := bw.size; omega
      obtain ⟨A6, c6, w', hrun, own6, b6⟩ := ends_app hE2 A5 c5 (v2 :: votesF k2) q z HS.out.1 (by rw [List.length_cons, votesF_len]; exact HZ.out) (by simp) own5.nums (by have := HS.out.2.2.2.2.2.2; have := HS.out.1; simp only [List.length_cons, votesF_len]; omega) hws
      have hb2 := (HR.out.2.2.2.2.1.trans (bw.mono HR.out.2.2.2.2.1.size)).trans (b6.mono (Nat.le_succ _))
      have kb2 := (HR.out.2.2.2.1.below bw HR.out.2.2.2.1.lt).below b6 (Nat.lt_succ_self _)
      have hfr3 := (HS.out.2.2.2.2.1.below (bw.mono HR.out.2.2.2.2.1.size)).below (b6.mono (Nat.le_succ _))
      have hi2 : o0 + (i0 + 1) * 2 = o0 + i0 * 2 + 2 := by omega
      have hLL : (L ++ (v2 :: votesF k2)) ++ votesF r2 = v :: votesF k := by rw [← HS.out.2.2.1]; simp [votesF]
      have HX := Lib.hid (And.intro kb2 (And.intro hb2 (And.intro hfr3 (And.intro own6 hLL))))
      clear own5 bw hE2 hws own6 b6 hb2 kb2 hfr3 hLL
      go_wp2_with (at_builtin; refine wpList_append_run rfl (.tmp 17) (.tmp 23) 25 rfl _ _ _ w' rfl rfl hrun ?_)
      clear hrun
      go_roundw
      case rel => exact ⟨i0 + 1, q + z, r2, A6, c6, L ++ (v2 :: votesF k2), HS.out.2.2.2.2.2.1, by go_num, rfl, Lib.hid ⟨by rw [List.length_append, List.length_cons, votesF_len, HZ.out, HS.out.1], HX.out.2.2.2.1, HX.out.2.2.2.2, HX.out.1, HX.out.2.1, by rw [hi2]; exact HX.out.2.2.1, HS.out.2.2.2.1⟩⟩
      case measure => simp [intOf]; omega
theorem votes_all : ∀ k : Fo, AllVts k
  | .nil => trivial
  | .cons v k r => ⟨votes_tree k (votes_all k), votes_all r⟩
theorem votes_any (k : Fo) : VtsOk k := votes_tree k (votes_all k)
end Go.Proofs.Ytmfjenhonghkpaa
