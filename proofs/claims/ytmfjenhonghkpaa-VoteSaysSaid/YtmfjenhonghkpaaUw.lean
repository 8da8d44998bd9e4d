/- Layer 16: VoteLess. -/
import Derived.Test.YtmfjenhonghkpaaUv
import Derived.Test.YtmfjenhonghkpaaUp
namespace Go.Proofs.Ytmfjenhonghkpaa
open Go.RowKit
set_option linter.unusedVariables false
set_option linter.unusedSimpArgs false

theorem rowN_app {w : World} {b : Nat} : ∀ (l m : List NR) (o : Nat), RowN w b o (l ++ m) → RowN w b o l ∧ RowN w b (o + l.length * 2) m
  | [], m, o, h => ⟨trivial, by simpa using h⟩
  | x :: l, m, o, ⟨h1, h2, h3⟩ => by
    have := rowN_app l m (o + 2) h3
    refine ⟨⟨h1, h2, this.1⟩, ?_⟩
    rw [List.length_cons, show o + (l.length + 1) * 2 = o + 2 + l.length * 2 by omega]
    exact this.2
def PreL (w3 : World) (v : Int) (L : List NR) (A2 : Option Addr) (i c2 : Nat) (u : World) : Prop :=
  Blk u w3.heap.size 24 #[.int .i64 v, .slice A2 i c2] ∧ OwnN u (w3.heap.size + 1) A2 c2 L ∧ Below w3.heap.size w3 u ∧ w3.heap.size + 1 ≤ u.heap.size
theorem PreL.below {w3 u u' : World} {v : Int} {L : List NR} {i c2 : Nat} {A2 : Option Addr} (h : PreL w3 v L A2 i c2 u) (hb : Below u.heap.size u u') : PreL w3 v L A2 i c2 u' :=
  ⟨h.1.below hb h.1.lt, h.2.1.grown (grown_of' hb none) (fun r e => by cases e), h.2.2.1.trans (hb.mono h.2.2.1.size), Nat.le_trans h.2.2.2 hb.size⟩
def VLa (w3 : World) (v : Int) (L1 : List NR) (A2 : Option Addr) (i2 c2 t1 n c b o j i3 : Nat) (S : Value) (e : Nat) (z : Value) (w : World) : Prop :=
  match e with
  | 0 => z = .pointer (some ⟨w3.heap.size, 1, none⟩)
  | 1 => z = .slice A2 i2 c2
  | 2 => z = .pointer (some ⟨t1, 1, none⟩)
  | 3 => z = .slice (some ⟨b, o, none⟩) n c
  | 4 => z = .int .i64 (j : Nat)
  | 5 => z = S
  | 6 => ∃ A3 c3, z = .slice A3 i3 c3 ∧ Blk w w3.heap.size 24 #[.int .i64 v, .slice A2 i2 c2] ∧ OwnN w (w3.heap.size + 1) A3 c3 L1
  | 7 => z = .pointer (some ⟨w3.heap.size, 1, none⟩)
  | 8 => ∃ A3 c3, PreL w3 v L1 A3 i3 c3 w
  | _ => True
def ELa (gu k : Nat) (u u' : World) : Prop := match k with
  | 6 => True
  | 8 => ∃ val, u' = u.setCell ⟨gu, 1, none⟩ val
  | _ => u' = u
theorem ELa.same {gu k : Nat} {u u' : World} (h : ELa gu k u u') (h2 : k ≠ 6) (h3 : k ≠ 8) : u' = u := by
  unfold ELa at h
  split at h
  · exact absurd rfl h2
  · exact absurd rfl h3
  · exact h
theorem VLa.mono {w3 : World} {v : Int} {L1 : List NR} {A2 : Option Addr} {i2 c2 t1 n c b o j i3 : Nat} {S : Value} {e k : Nat} {z : Value} {u u' : World} (he : ELa w3.heap.size k u u') (hek : e ≠ k) (h13 : e = 6 ∧ k = 8 → False) (h15 : e = 8 ∧ k = 6 → False) (h : VLa w3 v L1 A2 i2 c2 t1 n c b o j i3 S e z u) : VLa w3 v L1 A2 i2 c2 t1 n c b o j i3 S e z u' := by
  unfold VLa at h ⊢
  split at h
  all_goals first | exact h | skip
  · by_cases k15 : k = 8
    · exact (h13 ⟨rfl, k15⟩).elim
    · rw [he.same (fun e => hek e.symm) k15]; exact h
  · by_cases k13 : k = 6
    · exact (h15 ⟨rfl, k13⟩).elim
    · rw [he.same k13 (fun e => hek e.symm)]; exact h
def TLa (w3 : World) (v : Int) (L0 : List NR) (A2 : Option Addr) (i2 c2 : Nat) (e : Nat) (u : World) : Prop := match e with
  | 1 => PreL w3 v L0 A2 i2 c2 u
  | 6 => PreL w3 v L0 A2 i2 c2 u
  | _ => True
theorem TLa.mono {w3 : World} {v : Int} {L0 : List NR} {i2 c2 : Nat} {A2 : Option Addr} {e k : Nat} {u u' : World} (he : ELa w3.heap.size k u u') (hke : k ≠ e) (h1 : e = 1 ∧ (k = 6 ∨ k = 8) → False) (h13 : e = 6 ∧ k = 8 → False) (h : TLa w3 v L0 A2 i2 c2 e u) : TLa w3 v L0 A2 i2 c2 e u' := by
  unfold TLa at h ⊢
  split at h
  · by_cases k13 : k = 6
    · exact (h1 ⟨rfl, .inl k13⟩).elim
    · by_cases k15 : k = 8
      · exact (h1 ⟨rfl, .inr k15⟩).elim
      · rw [he.same k13 k15]; exact h
  · by_cases k15 : k = 8
    · exact (h13 ⟨rfl, k15⟩).elim
    · rw [he.same hke k15]; exact h
  · trivial
def VLb (w3 : World) (v : Int) (L1 : List NR) (A2 : Option Addr) (i2 c2 t1 n c b o j i3 : Nat) (S : Value) (e : Nat) (z : Value) (w : World) : Prop :=
  match e with
  | 0 => z = .pointer (some ⟨w3.heap.size, 1, none⟩)
  | 1 => z = .slice A2 i2 c2
  | 2 => z = .pointer (some ⟨t1, 1, none⟩)
  | 3 => z = .slice (some ⟨b, o, none⟩) n c
  | 4 => z = .int .i64 (j : Nat)
  | 5 => z = .int .i64 ((j + 1 : Nat) : Int)
  | 6 => z = S
  | 7 => ∃ A3 c3, z = .slice A3 i3 c3 ∧ Blk w w3.heap.size 24 #[.int .i64 v, .slice A2 i2 c2] ∧ OwnN w (w3.heap.size + 1) A3 c3 L1
  | 8 => z = .pointer (some ⟨w3.heap.size, 1, none⟩)
  | 9 => ∃ A3 c3, PreL w3 v L1 A3 i3 c3 w
  | _ => True
def ELb (gu k : Nat) (u u' : World) : Prop := match k with
  | 7 => True
  | 9 => ∃ val, u' = u.setCell ⟨gu, 1, none⟩ val
  | _ => u' = u
theorem ELb.same {gu k : Nat} {u u' : World} (h : ELb gu k u u') (h2 : k ≠ 7) (h3 : k ≠ 9) : u' = u := by
  unfold ELb at h
  split at h
  · exact absurd rfl h2
  · exact absurd rfl h3
  · exact h
theorem VLb.mono {w3 : World} {v : Int} {L1 : List NR} {A2 : Option Addr} {i2 c2 t1 n c b o j i3 : Nat} {S : Value} {e k : Nat} {z : Value} {u u' : World} (he : ELb w3.heap.size k u u') (hek : e ≠ k) (h13 : e = 7 ∧ k = 9 → False) (h15 : e = 9 ∧ k = 7 → False) (h : VLb w3 v L1 A2 i2 c2 t1 n c b o j i3 S e z u) : VLb w3 v L1 A2 i2 c2 t1 n c b o j i3 S e z u' := by
  unfold VLb at h ⊢
  split at h
  all_goals first | exact h | skip
  · by_cases k15 : k = 9
    · exact (h13 ⟨rfl, k15⟩).elim
    · rw [he.same (fun e => hek e.symm) k15]; exact h
  · by_cases k13 : k = 7
    · exact (h15 ⟨rfl, k13⟩).elim
    · rw [he.same k13 (fun e => hek e.symm)]; exact h
def TLb (w3 : World) (v : Int) (L0 : List NR) (A2 : Option Addr) (i2 c2 : Nat) (e : Nat) (u : World) : Prop := match e with
  | 1 => PreL w3 v L0 A2 i2 c2 u
  | 7 => PreL w3 v L0 A2 i2 c2 u
  | _ => True
theorem TLb.mono {w3 : World} {v : Int} {L0 : List NR} {i2 c2 : Nat} {A2 : Option Addr} {e k : Nat} {u u' : World} (he : ELb w3.heap.size k u u') (hke : k ≠ e) (h1 : e = 1 ∧ (k = 7 ∨ k = 9) → False) (h13 : e = 7 ∧ k = 9 → False) (h : TLb w3 v L0 A2 i2 c2 e u) : TLb w3 v L0 A2 i2 c2 e u' := by
  unfold TLb at h ⊢
  split at h
  · by_cases k13 : k = 7
    · exact (h1 ⟨rfl, .inl k13⟩).elim
    · by_cases k15 : k = 9
      · exact (h1 ⟨rfl, .inr k15⟩).elim
      · rw [he.same k13 k15]; exact h
  · by_cases k15 : k = 9
    · exact (h13 ⟨rfl, k15⟩).elim
    · rw [he.same hke k15]; exact h
  · trivial

theorem less_facts {v : Int} {l1 l2 : List NR} {x : NR} (h : rightB v (foN (l1 ++ x :: l2)) = true) : rightB v (foN (l1 ++ l2)) = true ∧ flowsM v (foN (l1 ++ x :: l2)) = flowsM v (foN (l1 ++ l2)) + (2 * (x.k.cnt + 1) + 3 * ((if saysB x.v x.k == 2 then 0 else 1) + toldC x.k)) ∧ (saysB x.v x.k = 2 → noF (foN (l1 ++ x :: l2)) = noF (foN (l1 ++ l2)) ∧ toldC x.k = 0) := by
  have hc : (foN (l1 ++ x :: l2)).cnt = (foN (l1 ++ l2)).cnt + (x.k.cnt + 1) := by rw [cnt_foN, cnt_foN]; simp; omega
  have ht : toldC (foN (l1 ++ x :: l2)) = toldC (foN (l1 ++ l2)) + ((if saysB x.v x.k == 2 then 0 else 1) + toldC x.k) := by rw [toldC_foN, toldC_foN]; simp; omega
  have hr := right_of (l2 := l1 ++ l2) h (fun y hy => by rcases List.mem_append.1 hy with hy | hy <;> simp [hy]) (by omega)
  refine ⟨hr, by rw [flows_count h, flows_count hr, hc, ht]; omega, fun hs => ⟨?_, toldC_two hs⟩⟩
  have h2 := says3_two hs
  rw [votesL_eq] at h2
  have h3 : (x.v :: votesF x.k).any (fun z => z == 3) = false := by rw [List.any_eq_false]; intro z hz; rw [h2 z hz]; decide
  unfold noF
  rw [votes_foN, votes_foN]
  simp only [List.flatMap_append, List.flatMap_cons, List.any_append, h3, Bool.false_or]
set_option maxRecDepth 100000 in
set_option maxHeartbeats 8000000 in
theorem voteLess_walk (o : NodeV) (kid : Int) (w : World) (ho : NodeOk w o ∧ o.k.len ≤ o.c) (t1 : -9223372036854775808 ≤ kid) (t2 : kid ≤ 9223372036854775807) : Calls Try.prog 6 #[o.val, .int .i64 kid] w fun e w' => e = .returned (.bool true) ∧ Below w.heap.size w w' := by
  obtain ⟨v, A, k, c⟩ := o
  obtain ⟨⟨_, _, ht⟩, hcap⟩ := ho
  dsimp only at hcap
  show Calls Try.prog _ #[.agg #[.int .i64 v, .slice A k.len c], .int .i64 kid] w _
  obtain ⟨m, hm⟩ : ∃ m, m = k.len := ⟨_, rfl⟩
  rw [← hm] at hcap ⊢
  have Hm := Lib.hid hm
  clear hm
  obtain ⟨W1, hW1⟩ : ∃ W1, W1 = w.alloc (.cells #[.int .i64 v, .slice A m c] 24) := ⟨_, rfl⟩
  have k1 : Blk W1 w.heap.size 24 #[.int .i64 v, .slice A m c] := by rw [hW1]; exact Blk.new _ _ _
  have b1 : Below w.heap.size w W1 := by rw [hW1]; exact ba _ _
  have ht1 := ht.bt b1
  have c0 := k1.cell 0
  have c1 := k1.cell 1
  simp only [List.getElem?_toArray, List.getElem?_cons_zero, List.getElem?_cons_succ] at c0 c1
  have HW1 := Lib.hid hW1
  have hr := right_any v A k c W1 ht1.len ht1.fo
  rw [← Hm.out] at hr
  have HR := Lib.hid hr
  have HT := Lib.hid (And.intro ht1 (And.intro k1 b1))
  rw [hW1] at c0 c1
  clear hW1 ht1 k1 b1 ht hr
  rcases hrb : rightB v k with _ | _
  · rw [hrb] at HR
    go_enter Try.func6, Try.ntmps6
    go_wp2_with fail
    rw [← HW1.out]
    refine HR.out.mono ?_
    rintro e w2 ⟨rfl, b2⟩
    clear c0 c1
    go_wp2_with fail
    refine (alive_any _).mono ?_
    rintro e w3 ⟨rfl, b3⟩
    have HF := Lib.hid (bt (bt HT.out.2.2 b2) b3)
    clear b2 b3
    go_wp2
    go_ret
    exact ⟨rfl, HF.out⟩
  rw [hrb] at HR
  have HB := Lib.hid hrb
  clear hrb
  by_cases hneg : kid < 0
  · have hnD : decide (kid < 0) = true := decide_eq_true hneg
    go_enter Try.func6, Try.ntmps6
    go_wp2_with fail
    rw [← HW1.out]
    refine HR.out.mono ?_
    rintro e w2 ⟨rfl, b2⟩
    clear c0 c1
    go_wp2_with fail
    refine (alive_any _).mono ?_
    rintro e w3 ⟨rfl, b3⟩
    have HF := Lib.hid (bt (bt HT.out.2.2 b2) b3)
    clear b2 b3
    go_wp2
    go_ret
    exact ⟨rfl, HF.out⟩
  have hnD : decide (kid < 0) = false := decide_eq_false hneg
  by_cases hbig : (m : Int) ≤ kid
  · have hbD : decide ((m : Int) ≤ kid) = true := decide_eq_true hbig
    go_enter Try.func6, Try.ntmps6
    go_wp2_with fail
    rw [← HW1.out]
    refine HR.out.mono ?_
    rintro e w2 ⟨rfl, b2⟩
    clear c0 c1
    have k2 := HT.out.2.1.below b2 HT.out.2.1.lt
    have c0 := k2.cell 0
    have c1 := k2.cell 1
    simp only [List.getElem?_toArray, List.getElem?_cons_zero, List.getElem?_cons_succ] at c0 c1
    go_wp2_with fail
    refine (alive_any _).mono ?_
    rintro e w3 ⟨rfl, b3⟩
    have HF := Lib.hid (bt (bt HT.out.2.2 b2) b3)
    clear b2 b3 k2
    go_wp2
    go_ret
    exact ⟨rfl, HF.out⟩
  obtain ⟨j, rfl⟩ : ∃ j : Nat, kid = j := ⟨kid.toNat, by omega⟩
  have hbD : decide ((m : Int) ≤ (j : Int)) = false := decide_eq_false hbig
  have hbN : decide (m ≤ j) = false := decide_eq_false (by omega)
  have hjm : j < m := by omega
  have HJM := Lib.hid hjm
  clear hneg hbig
  go_enter Try.func6, Try.ntmps6
  go_wp2_with fail
  rw [← HW1.out]
  refine HR.out.mono ?_
  rintro e w2 ⟨rfl, b2⟩
  clear c0 c1
  have k2 := HT.out.2.1.below b2 HT.out.2.1.lt
  have ht2 := HT.out.1.bt b2
  obtain ⟨l, hl, hok, hrow⟩ := of_fo k A ht2.fo
  have hll : l.length = m := by rw [← foN_len, hl, Hm.out]
  obtain ⟨b, o, rfl, hbw, hrw⟩ := hrow (by omega)
  obtain ⟨x, hx⟩ : ∃ x, x = l[j]'(by omega) := ⟨_, rfl⟩
  have hat := rowN_at l o j (by omega) hrw
  rw [← hx] at hat
  have hxm : x ∈ l := by rw [hx]; exact List.getElem_mem _
  have hsp0 : l = l.take j ++ (x :: l.drop (j + 1)) := by rw [hx, List.getElem_cons_drop, List.take_append_drop]
  obtain ⟨m2, hm2⟩ : ∃ m2, m2 = x.k.len := ⟨_, rfl⟩
  rw [← hm2] at hat
  have hrx : rightB x.v x.k = true := right_kid (by rw [hl]; exact HB.out) hxm
  obtain ⟨s, hs⟩ : ∃ s, s = saysB x.v x.k := ⟨_, rfl⟩
  have hcall := says_ok x.v x.A x.k m2 x.c (Lib.hid hm2) w2 ⟨(hok x hxm).1, (hok x hxm).2⟩ hrx s hs
  have HC := Lib.hid hcall
  have H2 := Lib.hid (And.intro k2 (And.intro b2 (And.intro ht2 (And.intro hl (And.intro hok (And.intro hll (And.intro hbw (And.intro hrw (And.intro hsp0 (And.intro hxm (And.intro hm2 (And.intro hrx (And.intro hs hat)))))))))))))
  have c0 := k2.cell 0
  have c1 := k2.cell 1
  have q0 := hat.1
  have q1 := hat.2
  simp only [List.getElem?_toArray, List.getElem?_cons_zero, List.getElem?_cons_succ] at c0 c1
  have hjI : (j : Int) < (m : Int) := by omega
  clear k2 b2 ht2 hl hok hll hrow hbw hrw hx hsp0 hat hxm hm2 hrx hs hcall
  go_wp2_with fail
  refine HC.out.mono ?_
  rintro e w3 ⟨rfl, b3⟩
  clear c0 c1 q0 q1
  have HK3 := Lib.hid (H2.out.1.below b3 H2.out.1.lt)
  have HB3 := Lib.hid b3
  have d0 := HK3.out.cell 0
  simp only [List.getElem?_toArray, List.getElem?_cons_zero] at d0
  have hP : PreL w3 v [] none 0 0 (w3.alloc (.cells #[.int .i64 v, .slice none 0 0] 24)) := ⟨Blk.new _ _ _, OwnN.nil _ _, ba _ _, by simp⟩
  have HLN := Lib.hid H2.out.2.2.2.2.2.1
  have HM64 : Hid (m ≤ 64) := Lib.hid (by
    have h1 : ∀ f : Fo, f.len ≤ f.cnt := by
      intro f
      induction f with
      | nil => exact Nat.le_refl _
      | cons v k r _ ih2 => simp only [Fo.len, Fo.cnt]; omega
    have h2 := h1 k
    have := right_cnt HB.out
    rw [← Hm.out] at h2
    omega)
  have hrl : RowN w3 b o l := RowN.below (B := w2.heap.size) b3 H2.out.2.2.2.2.2.2.1 l o H2.out.2.2.2.2.2.2.2.1
  have hsp : l = l.take j ++ (x :: l.drop (j + 1)) := H2.out.2.2.2.2.2.2.2.2.1
  have hrows := hrl
  rw [hsp] at hrows
  have hrt := rowN_app _ _ _ hrows
  have HRT := Lib.hid (And.intro hrt.1 (And.intro hrt.2.2.2 (show b < w3.heap.size by have := b3.size; have := H2.out.2.2.2.2.2.2.1; omega)))
  have hjc : (j : Int) ≤ (c : Int) := by omega
  have hcapH := Lib.hid hcap
  clear b3 hrl hsp hrows hrt
  go_wp2_with fail
  clear d0
  refine wp_region_invT (F := ?FLa) (V := VLa w3 v (l.take j) none (0) 0 w.heap.size m c b o j (j) (.slice (some ⟨b, o, none⟩) j c)) (dead := fun e => if e = 6 then some 8 else none) (T := TLa w3 v ([]) none (0) 0) (C := fun u' => (Below w3.heap.size w3 u' ∧ w3.heap.size + 1 ≤ u'.heap.size)) (E := ELa w3.heap.size) (by kernel_rfl) (by kernel_rfl) (by kernel_rfl) (fun x_1 => ?hFLa) ?hmonoLa ?hTmLa ?hTLa ?hCLa ?stepLa ?finLa
  case hFLa => simp only [mkA, Act.put, List.setIfInBounds_toArray, List.set_cons_succ, List.set_cons_zero, Nat.reduceAdd, Nat.zero_add]; first | with_reducible rfl | rfl
  case hmonoLa => exact fun k' e z u u' he hek hwt hdd hv => VLa.mono he hek (fun hh => by rcases hh with ⟨rfl, rfl⟩; exact hdd rfl) (fun hh => by rcases hh with ⟨rfl, rfl⟩; exact ltf hwt (by kernel_rfl)) hv
  case hTmLa => exact fun k' e u u' he hke hwt hv => TLa.mono he hke (fun hh => by rcases hh with ⟨rfl, rfl | rfl⟩ <;> exact ltf hwt (by kernel_rfl)) (fun hh => by rcases hh with ⟨rfl, rfl⟩; exact ltf hwt (by kernel_rfl)) hv
  case hTLa => exact fun e => by unfold TLa; split <;> first | exact hP.below ((Below.refl _ _).drew) | trivial
  case hCLa => exact ⟨hP.2.2.1.drew, hP.2.2.2⟩
  case stepLa =>
    refine AllOps.cons (fun x_1 u hC hT hp K hK => ?_) ?_
    · clear hp hT
      go_simp
      refine hK _ _ _ hC rfl (by exact rfl) ?_
      first | (simp only [Act.put, List.setIfInBounds_toArray, List.set_cons_succ, List.set_cons_zero]; done) | simp [Act.put]
    refine AllOps.cons (fun x_1 u hC hT hp K hK => ?_) ?_
    · simp [KnownTill, Region.binds, VLa] at hp
      have cc := (show PreL w3 v ([]) none (0) 0 u from hT).1.cell 1
      simp only [List.getElem?_toArray, List.getElem?_cons_zero, List.getElem?_cons_succ] at cc
      clear hT
      go_simp
      refine hK _ _ _ hC rfl (by exact rfl) ?_
      first | (simp only [Act.put, List.setIfInBounds_toArray, List.set_cons_succ, List.set_cons_zero, hp]; done) | simp [Act.put, hp]
    refine AllOps.cons (fun x_1 u hC hT hp K hK => ?_) ?_
    · clear hp hT
      go_simp
      refine hK _ _ _ hC rfl (by exact rfl) ?_
      first | (simp only [Act.put, List.setIfInBounds_toArray, List.set_cons_succ, List.set_cons_zero]; done) | simp [Act.put]
    refine AllOps.cons (fun x_1 u hC hT hp K hK => ?_) ?_
    · simp [KnownTill, Region.binds, VLa] at hp
      clear hT
      have cc := (HK3.out.below hC.1 HK3.out.lt).cell 1
      simp only [List.getElem?_toArray, List.getElem?_cons_zero, List.getElem?_cons_succ] at cc
      go_simp
      refine hK _ _ _ hC rfl (by exact rfl) ?_
      first | (simp only [Act.put, List.setIfInBounds_toArray, List.set_cons_succ, List.set_cons_zero, hp]; done) | simp [Act.put, hp]
    refine AllOps.cons (fun x_1 u hC hT hp K hK => ?_) ?_
    · clear hp hT
      go_simp
      refine hK _ _ _ hC rfl (by exact rfl) ?_
      first | (simp only [Act.put, List.setIfInBounds_toArray, List.set_cons_succ, List.set_cons_zero]; done) | simp [Act.put]
    refine AllOps.cons (fun x_1 u hC hT hp K hK => ?_) ?_
    · simp [KnownTill, Region.binds, VLa] at hp
      clear hT
      go_simp
      refine hK _ _ _ hC rfl (by exact (by first | rfl | simp)) ?_
      first | (simp only [Act.put, List.setIfInBounds_toArray, List.set_cons_succ, List.set_cons_zero, hp]; done) | simp [Act.put, hp]
    refine AllOps.cons (fun x_1 u hC hT hp K hK => ?_) ?_
    · simp [KnownTill, Region.binds, VLa] at hp
      have h1 : x_1 1 = .slice none (0) 0 := by simp [hp]
      have hS : x_1 5 = .slice (some ⟨b, o, none⟩) j c := by simp [hp]
      have hT' := (show PreL w3 v ([]) none (0) 0 u from hT)
      have hsrc := (fun (hh : 0 < (l.take j).length) => (⟨b, o, rfl, RowN.below hC.1 HRT.out.2.2 _ _ HRT.out.1⟩ : ∃ b' o', some (⟨b, o, none⟩ : Addr) = some ⟨b', o', none⟩ ∧ RowN u b' o' (l.take j)))
      obtain ⟨A3, c3, w8, hrun, own8, b8⟩ := append_nodes hT'.2.1 ((some ⟨b, o, none⟩)) (c) (l.take j) (0) (j) (by simp [HLN.out]; try omega) (by simp [HLN.out]; try omega) hsrc (by have := HM64.out; have := HLN.out; simp; omega) hT'.2.2.2
      refine step_append_run rfl (.tmp 44) (.tmp 48) 22 rfl (.slice none (0) 0) (.slice (some ⟨b, o, none⟩) j c) _ w8 (by show x_1 1 = _; exact h1) (by show x_1 5 = _; exact hS) hrun ?_
      refine hK _ _ _ ⟨hT'.2.2.1.trans (b8.mono (by omega)), Nat.le_trans hT'.2.2.2 b8.size⟩ trivial ⟨A3, c3, by congr 1 <;> (have := HJM.out; omega), hT'.1.below b8 (by omega), own8⟩ rfl
    refine AllOps.cons (fun x_1 u hC hT hp K hK => ?_) ?_
    · clear hp hT
      go_simp
      refine hK _ _ _ hC rfl (by exact rfl) ?_
      first | (simp only [Act.put, List.setIfInBounds_toArray, List.set_cons_succ, List.set_cons_zero]; done) | simp [Act.put]
    refine AllOps.cons (fun x_1 u hC hT hp K hK => ?_) ?_
    · simp [KnownTill, Region.binds, VLa] at hp
      clear hT
      have hp' := hp
      obtain ⟨h14, ⟨A3, c3, h13, k3', own3⟩, _⟩ := hp'
      have cc := k3'.cell 1
      have ff := k3'.frozen 1
      simp only [List.getElem?_toArray, List.getElem?_cons_zero, List.getElem?_cons_succ] at cc
      have kF : Blk (u.setCell ⟨w3.heap.size, 1, none⟩ (.slice A3 (j) c3)) w3.heap.size 24 #[.int .i64 v, .slice A3 (j) c3] := by simpa using k3'.set_ 1 (.slice A3 (j) c3)
      have gF := grown_setN u w3.heap.size 1 (.slice A3 (j) c3)
      have bF := hC.1.grown gF hC.1.size (fun r e => by cases e; omega)
      have sF := Nat.le_trans hC.2 gF.size
      have pF : PreL w3 v (l.take j) A3 (j) c3 (u.setCell ⟨w3.heap.size, 1, none⟩ (.slice A3 (j) c3)) := ⟨kF, own3.grown gF (fun r e => by cases e; omega), bF, sF⟩
      go_simp
      refine hK undef _ _ ⟨bF, sF⟩ ⟨_, rfl⟩ ⟨A3, c3, pF⟩ ?_
      first | (simp only [Act.put, List.setIfInBounds_toArray, List.set_cons_succ, List.set_cons_zero, hp, h13]; done) | simp [Act.put, hp, h13]
    exact AllOps.nil
  case finLa =>
    intro x9 uLa hC hV
    obtain ⟨A4La, c4La, hPP⟩ := hV 8 (by decide) rfl
    clear hV hC hP
    have hP := hPP
    clear hPP
    obtain ⟨SP, hSP⟩ : ∃ SP : Option Addr, SP = (if c = j + 1 then some ⟨b, o, none⟩ else some ⟨b, o + (j + 1) * 2, none⟩) := ⟨_, rfl⟩
    have hcj := hSP.symm
    have HSP := Lib.hid hSP
    clear hSP
    have hwj : IntKind.i64.wrap ((j : Int) + 1) = (j : Int) + 1 := IntWalk.i64_in _ (by have := HM64.out; have := HJM.out; omega)
    have hjm1 : ((j : Int) + 1) ≤ (m : Int) := by have := HJM.out; omega
    have hjm2 : j + 1 ≤ m := HJM.out
    have hmc : (m : Int) ≤ (c : Int) := by have := hcapH.out; omega
    have ku1 := hP.1.cell 1
    clear ku1
    go_wp2_with fail
    refine wp_region_invT (F := ?FLb) (V := VLb w3 v (l.take j ++ l.drop (j + 1)) A4La (j) c4La w.heap.size m c b o j (m - 1) (.slice SP (m - (j + 1)) (c - (j + 1)))) (dead := fun e => if e = 7 then some 9 else none) (T := TLb w3 v (l.take j) A4La (j) c4La) (C := fun u' => (Below w3.heap.size w3 u' ∧ w3.heap.size + 1 ≤ u'.heap.size)) (E := ELb w3.heap.size) (by kernel_rfl) (by kernel_rfl) (by kernel_rfl) (fun x_1 => ?hFLb) ?hmonoLb ?hTmLb ?hTLb ?hCLb ?stepLb ?finLb
    case hFLb => simp only [mkA, Act.put, List.setIfInBounds_toArray, List.set_cons_succ, List.set_cons_zero, Nat.reduceAdd, Nat.zero_add]; first | with_reducible rfl | rfl
    case hmonoLb => exact fun k' e z u u' he hek hwt hdd hv => VLb.mono he hek (fun hh => by rcases hh with ⟨rfl, rfl⟩; exact hdd rfl) (fun hh => by rcases hh with ⟨rfl, rfl⟩; exact ltf hwt (by kernel_rfl)) hv
    case hTmLb => exact fun k' e u u' he hke hwt hv => TLb.mono he hke (fun hh => by rcases hh with ⟨rfl, rfl | rfl⟩ <;> exact ltf hwt (by kernel_rfl)) (fun hh => by rcases hh with ⟨rfl, rfl⟩; exact ltf hwt (by kernel_rfl)) hv
    case hTLb => exact fun e => by unfold TLb; split <;> first | exact hP.below ((Below.refl _ _).drew) | trivial
    case hCLb => exact ⟨hP.2.2.1.drew, hP.2.2.2⟩
    case stepLb =>
      refine AllOps.cons (fun x_1 u hC hT hp K hK => ?_) ?_
      · clear hp hT
        go_simp
        refine hK _ _ _ hC rfl (by exact rfl) ?_
        first | (simp only [Act.put, List.setIfInBounds_toArray, List.set_cons_succ, List.set_cons_zero]; done) | simp [Act.put]
      refine AllOps.cons (fun x_1 u hC hT hp K hK => ?_) ?_
      · simp [KnownTill, Region.binds, VLb] at hp
        have cc := (show PreL w3 v (l.take j) A4La (j) c4La u from hT).1.cell 1
        simp only [List.getElem?_toArray, List.getElem?_cons_zero, List.getElem?_cons_succ] at cc
        clear hT
        go_simp
        refine hK _ _ _ hC rfl (by exact rfl) ?_
        first | (simp only [Act.put, List.setIfInBounds_toArray, List.set_cons_succ, List.set_cons_zero, hp]; done) | simp [Act.put, hp]
      refine AllOps.cons (fun x_1 u hC hT hp K hK => ?_) ?_
      · clear hp hT
        go_simp
        refine hK _ _ _ hC rfl (by exact rfl) ?_
        first | (simp only [Act.put, List.setIfInBounds_toArray, List.set_cons_succ, List.set_cons_zero]; done) | simp [Act.put]
      refine AllOps.cons (fun x_1 u hC hT hp K hK => ?_) ?_
      · simp [KnownTill, Region.binds, VLb] at hp
        clear hT
        have cc := (HK3.out.below hC.1 HK3.out.lt).cell 1
        simp only [List.getElem?_toArray, List.getElem?_cons_zero, List.getElem?_cons_succ] at cc
        go_simp
        refine hK _ _ _ hC rfl (by exact rfl) ?_
        first | (simp only [Act.put, List.setIfInBounds_toArray, List.set_cons_succ, List.set_cons_zero, hp]; done) | simp [Act.put, hp]
      refine AllOps.cons (fun x_1 u hC hT hp K hK => ?_) ?_
      · clear hp hT
        go_simp
        refine hK _ _ _ hC rfl (by exact rfl) ?_
        first | (simp only [Act.put, List.setIfInBounds_toArray, List.set_cons_succ, List.set_cons_zero]; done) | simp [Act.put]
      refine AllOps.cons (fun x_1 u hC hT hp K hK => ?_) ?_
      · simp [KnownTill, Region.binds, VLb] at hp
        clear hT
        go_simp
        refine hK _ _ _ hC rfl (by exact (by first | rfl | simp)) ?_
        first | (simp only [Act.put, List.setIfInBounds_toArray, List.set_cons_succ, List.set_cons_zero, hp, hwj]; done) | simp [Act.put, hp, hwj]
      refine AllOps.cons (fun x_1 u hC hT hp K hK => ?_) ?_
      · simp [KnownTill, Region.binds, VLb] at hp
        clear hT
        go_simp
        refine hK _ _ _ hC rfl (by exact (by first | rfl | simp)) ?_
        first | (simp only [Act.put, List.setIfInBounds_toArray, List.set_cons_succ, List.set_cons_zero, hp, hcj]; done) | simp [Act.put, hp, hcj]
      refine AllOps.cons (fun x_1 u hC hT hp K hK => ?_) ?_
      · simp [KnownTill, Region.binds, VLb] at hp
        have h1 : x_1 1 = .slice A4La (j) c4La := by simp [hp]
        have hS : x_1 6 = .slice SP (m - (j + 1)) (c - (j + 1)) := by simp [hp]
        have hT' := (show PreL w3 v (l.take j) A4La (j) c4La u from hT)
        have hsrc := (fun (hh : 0 < (l.drop (j + 1)).length) => (by have hlen := HLN.out; have hcc := hcapH.out; simp only [List.length_drop] at hh; refine ⟨b, o + (j + 1) * 2, by rw [HSP.out, if_neg (by omega)], ?_⟩; have h5 := RowN.below hC.1 HRT.out.2.2 _ _ HRT.out.2.1; rw [List.length_take, show min j l.length = j by omega, show o + j * 2 + 2 = o + (j + 1) * 2 by omega] at h5; exact h5 : ∃ b' o', SP = some ⟨b', o', none⟩ ∧ RowN u b' o' (l.drop (j + 1))))
        obtain ⟨A3, c3, w8, hrun, own8, b8⟩ := append_nodes hT'.2.1 (SP) ((c - (j + 1))) (l.drop (j + 1)) (j) (m - (j + 1)) (by simp [HLN.out]; try omega) (by simp [HLN.out]; try omega) hsrc (by have := HM64.out; have := HLN.out; simp; omega) hT'.2.2.2
        refine step_append_run rfl (.tmp 52) (.tmp 57) 22 rfl (.slice A4La (j) c4La) (.slice SP (m - (j + 1)) (c - (j + 1))) _ w8 (by show x_1 1 = _; exact h1) (by show x_1 6 = _; exact hS) hrun ?_
        refine hK _ _ _ ⟨hT'.2.2.1.trans (b8.mono (by omega)), Nat.le_trans hT'.2.2.2 b8.size⟩ trivial ⟨A3, c3, by congr 1 <;> (have := HJM.out; omega), hT'.1.below b8 (by omega), own8⟩ rfl
      refine AllOps.cons (fun x_1 u hC hT hp K hK => ?_) ?_
      · clear hp hT
        go_simp
        refine hK _ _ _ hC rfl (by exact rfl) ?_
        first | (simp only [Act.put, List.setIfInBounds_toArray, List.set_cons_succ, List.set_cons_zero]; done) | simp [Act.put]
      refine AllOps.cons (fun x_1 u hC hT hp K hK => ?_) ?_
      · simp [KnownTill, Region.binds, VLb] at hp
        clear hT
        have hp' := hp
        obtain ⟨h14, ⟨A3, c3, h13, k3', own3⟩, _⟩ := hp'
        have cc := k3'.cell 1
        have ff := k3'.frozen 1
        simp only [List.getElem?_toArray, List.getElem?_cons_zero, List.getElem?_cons_succ] at cc
        have kF : Blk (u.setCell ⟨w3.heap.size, 1, none⟩ (.slice A3 (m - 1) c3)) w3.heap.size 24 #[.int .i64 v, .slice A3 (m - 1) c3] := by simpa using k3'.set_ 1 (.slice A3 (m - 1) c3)
        have gF := grown_setN u w3.heap.size 1 (.slice A3 (m - 1) c3)
        have bF := hC.1.grown gF hC.1.size (fun r e => by cases e; omega)
        have sF := Nat.le_trans hC.2 gF.size
        have pF : PreL w3 v (l.take j ++ l.drop (j + 1)) A3 (m - 1) c3 (u.setCell ⟨w3.heap.size, 1, none⟩ (.slice A3 (m - 1) c3)) := ⟨kF, own3.grown gF (fun r e => by cases e; omega), bF, sF⟩
        go_simp
        refine hK undef _ _ ⟨bF, sF⟩ ⟨_, rfl⟩ ⟨A3, c3, pF⟩ ?_
        first | (simp only [Act.put, List.setIfInBounds_toArray, List.set_cons_succ, List.set_cons_zero, hp, h13]; done) | simp [Act.put, hp, h13]
      exact AllOps.nil
    case finLb =>
      intro x9 uLb hC hV
      obtain ⟨A4Lb, c4Lb, hPP⟩ := hV 9 (by decide) rfl
      clear hV hC hP
      clear hwj hcj hjm1 hjm2 hmc
      have hl := H2.out.2.2.2.1
      have hspl := H2.out.2.2.2.2.2.2.2.2.1
      have hkl := HB.out
      rw [← hl, hspl] at hkl
      obtain ⟨hr2, hfl, hs2⟩ := less_facts hkl
      rw [← hspl, hl] at hfl hs2
      have hok3 : OkN w3 w3.heap.size l := (H2.out.2.2.2.2.1.below HB3.out).more HB3.out.size
      have htu : TreeAt uLb A4Lb (foN (l.take j ++ l.drop (j + 1))) := by
        refine OwnN.tree (B := w3.heap.size + 1) (c := c4Lb) hPP.2.1 ?_ (by have := HLN.out; have := HM64.out; simp only [maxLen, List.length_append, List.length_take, List.length_drop]; omega)
        exact fun y hy => ((hok3.below hPP.2.2.1).more hPP.2.2.1.size) y (by rw [hspl]; rcases List.mem_append.1 hy with hy | hy <;> simp [hy])
      have htt := (H2.out.2.2.1.bt HB3.out).bt hPP.2.2.1
      have hbw : Below w3.heap.size w3 uLb := hPP.2.2.1
      have ku := hPP.1
      have kt := HK3.out.below hPP.2.2.1 HK3.out.lt
      obtain ⟨bA, hbA⟩ : ∃ bA, bA = !(v == 3 || noF k) := ⟨_, rfl⟩
      obtain ⟨bB, hbB⟩ : ∃ bB, bB = !(v == 3 || noF (foN (l.take j ++ l.drop (j + 1)))) := ⟨_, rfl⟩
      obtain ⟨F, hF⟩ : ∃ F, F = flowsM v k := ⟨_, rfl⟩
      obtain ⟨G, hG⟩ : ∃ G, G = flowsM v (foN (l.take j ++ l.drop (j + 1))) := ⟨_, rfl⟩
      rw [← hF, ← hG] at hfl
      have hF63 : F ≤ 1000 := by rw [hF]; have := flows_facts HB.out; omega
      have hmu : Hid (m - 1 = (foN (l.take j ++ l.drop (j + 1))).len) := Lib.hid (by rw [foN_len]; have := HLN.out; have := HJM.out; simp only [List.length_append, List.length_take, List.length_drop]; omega)
      have HALL := Lib.hid (And.intro hr2 (And.intro hbA (And.intro hbB (And.intro hF (And.intro hG (And.intro hfl (And.intro hs2 hF63)))))))
      clear hl hspl hkl hr2 hfl hs2 hok3 hPP hbA hbB hF hG hF63
      have ct0 := kt.cell 0
      have ct1 := kt.cell 1
      have cu0 := ku.cell 0
      have cu1 := ku.cell 1
      simp only [List.getElem?_toArray, List.getElem?_cons_zero, List.getElem?_cons_succ] at ct0 ct1 cu0 cu1
      have hcall := commits_ok v (some ⟨b, o, none⟩) k m c Hm uLb htt HB.out bA (by rw [says_no3 HB.out]; exact HALL.out.2.1.symm)
      have HC := Lib.hid hcall
      have HKK := Lib.hid (And.intro kt (And.intro ku (And.intro htt (And.intro htu hbw))))
      clear hcall kt ku htt htu hbw
      go_wp2_with fail
      refine HC.out.mono ?_
      rintro e y1 ⟨rfl, bz⟩
      have kt := HKK.out.1.below bz HKK.out.1.lt
      have ku := HKK.out.2.1.below bz HKK.out.2.1.lt
      have htt := HKK.out.2.2.1.bt bz
      have htu := HKK.out.2.2.2.1.bt bz
      have hbw := HKK.out.2.2.2.2.trans (bz.mono HKK.out.2.2.2.2.size)
      clear ct0 ct1 cu0 cu1 HC HKK bz
      have ct0 := kt.cell 0
      have ct1 := kt.cell 1
      have cu0 := ku.cell 0
      have cu1 := ku.cell 1
      simp only [List.getElem?_toArray, List.getElem?_cons_zero, List.getElem?_cons_succ] at ct0 ct1 cu0 cu1
      have hcall := commits_ok v A4Lb (foN (l.take j ++ l.drop (j + 1))) (m - 1) c4Lb hmu y1 htu HALL.out.1 bB (by rw [says_no3 HALL.out.1]; exact HALL.out.2.2.1.symm)
      have HC := Lib.hid hcall
      have HKK := Lib.hid (And.intro kt (And.intro ku (And.intro htt (And.intro htu hbw))))
      clear hcall kt ku htt htu hbw
      go_wp2_with fail
      refine HC.out.mono ?_
      rintro e y2 ⟨rfl, bz⟩
      have kt := HKK.out.1.below bz HKK.out.1.lt
      have ku := HKK.out.2.1.below bz HKK.out.2.1.lt
      have htt := HKK.out.2.2.1.bt bz
      have htu := HKK.out.2.2.2.1.bt bz
      have hbw := HKK.out.2.2.2.2.trans (bz.mono HKK.out.2.2.2.2.size)
      clear ct0 ct1 cu0 cu1 HC HKK bz
      have ct0 := kt.cell 0
      have ct1 := kt.cell 1
      have cu0 := ku.cell 0
      have cu1 := ku.cell 1
      simp only [List.getElem?_toArray, List.getElem?_cons_zero, List.getElem?_cons_succ] at ct0 ct1 cu0 cu1
      have hcall := flows_ok v (some ⟨b, o, none⟩) k m c Hm y2 htt HB.out
      rw [← HALL.out.2.2.2.1] at hcall
      have HC := Lib.hid hcall
      have HKK := Lib.hid (And.intro kt (And.intro ku (And.intro htt (And.intro htu hbw))))
      clear hcall kt ku htt htu hbw
      go_wp2_with fail
      refine HC.out.mono ?_
      rintro e y3 ⟨rfl, bz⟩
      have kt := HKK.out.1.below bz HKK.out.1.lt
      have ku := HKK.out.2.1.below bz HKK.out.2.1.lt
      have htt := HKK.out.2.2.1.bt bz
      have htu := HKK.out.2.2.2.1.bt bz
      have hbw := HKK.out.2.2.2.2.trans (bz.mono HKK.out.2.2.2.2.size)
      clear ct0 ct1 cu0 cu1 HC HKK bz
      have ct0 := kt.cell 0
      have ct1 := kt.cell 1
      have cu0 := ku.cell 0
      have cu1 := ku.cell 1
      simp only [List.getElem?_toArray, List.getElem?_cons_zero, List.getElem?_cons_succ] at ct0 ct1 cu0 cu1
      have hcall := flows_ok v A4Lb (foN (l.take j ++ l.drop (j + 1))) (m - 1) c4Lb hmu y3 htu HALL.out.1
      rw [← HALL.out.2.2.2.2.1] at hcall
      have HC := Lib.hid hcall
      have HKK := Lib.hid (And.intro kt (And.intro ku (And.intro htt (And.intro htu hbw))))
      clear hcall kt ku htt htu hbw
      go_wp2_with fail
      refine HC.out.mono ?_
      rintro e y4 ⟨rfl, bz⟩
      have kt := HKK.out.1.below bz HKK.out.1.lt
      have ku := HKK.out.2.1.below bz HKK.out.2.1.lt
      have htt := HKK.out.2.2.1.bt bz
      have htu := HKK.out.2.2.2.1.bt bz
      have hbw := HKK.out.2.2.2.2.trans (bz.mono HKK.out.2.2.2.2.size)
      clear ct0 ct1 cu0 cu1 HC HKK bz
      have hFG : decide ((F : Int) ≤ (G : Int)) = false := decide_eq_false (by have := HALL.out.2.2.2.2.2.1; omega)
      have hFGN : decide (F ≤ G) = false := decide_eq_false (by have := HALL.out.2.2.2.2.2.1; omega)
      have HKT := Lib.hid (And.intro kt hbw)
      clear kt ku htt htu hbw
      go_wp2_with fail
      refine (alive_any _).mono ?_
      rintro e y5 ⟨rfl, b5⟩
      have kt5 := HKT.out.1.below b5 HKT.out.1.lt
      have hb5 := HKT.out.2.trans (b5.mono HKT.out.2.size)
      have hbw5 := bt (bt (bt HT.out.2.2 H2.out.2.1) HB3.out) hb5
      have HBW := Lib.hid hbw5
      rcases hs3 : (s == 2) with _ | _
      · have ns3 : (s != 2) = true := by simp [bne, hs3]
        have ns4 : ¬ s = 2 := by simpa using hs3
        clear b5 kt5 hb5 hbw5
        go_wp2
        go_ret
        exact ⟨rfl, HBW.out⟩
      have ns3 : (s != 2) = false := by simp [bne, hs3]
      have hs22 : saysB x.v x.k = 2 := by have := H2.out.2.2.2.2.2.2.2.2.2.2.2.2.1; rw [← this]; simpa using hs3
      obtain ⟨hnn, htc⟩ := HALL.out.2.2.2.2.2.2.1 hs22
      have hab : bA = bB := by rw [HALL.out.2.1, HALL.out.2.2.1, hnn]
      have hFD : F = G + 2 * (x.k.cnt + 1) := by have := HALL.out.2.2.2.2.2.1; rw [htc, hs22] at this; simpa using this
      have hat := H2.out.2.2.2.2.2.2.2.2.2.2.2.2.2
      have q0 := (hb5.cell (p := ⟨b, o + j * 2, none⟩) HRT.out.2.2).trans ((HB3.out.cell (p := ⟨b, o + j * 2, none⟩) H2.out.2.2.2.2.2.2.1).trans hat.1)
      have q1 := (hb5.cell (p := ⟨b, o + j * 2 + 1, none⟩) HRT.out.2.2).trans ((HB3.out.cell (p := ⟨b, o + j * 2 + 1, none⟩) H2.out.2.2.2.2.2.2.1).trans hat.2)
      have c1 := kt5.cell 1
      simp only [List.getElem?_toArray, List.getElem?_cons_zero, List.getElem?_cons_succ] at c1
      have hxt : TreeAt y5 x.A x.k := ((TreeAt.mk (H2.out.2.2.2.2.1 x H2.out.2.2.2.2.2.2.2.2.2.1).1 (H2.out.2.2.2.2.1 x H2.out.2.2.2.2.2.2.2.2.2.1).2).bt HB3.out).bt hb5
      have hcc := count_any x.k x.v x.A m2 x.c (Lib.hid H2.out.2.2.2.2.2.2.2.2.2.2.1) y5 hxt (by have := right_cnt H2.out.2.2.2.2.2.2.2.2.2.2.2.1; omega)
      obtain ⟨Z, hZ⟩ : ∃ Z, Z = x.k.cnt + 1 := ⟨_, rfl⟩
      rw [← hZ] at hcc hFD
      have hF63 := HALL.out.2.2.2.2.2.2.2
      have wsub : IntKind.i64.wrap ((F : Int) - (G : Int)) = 2 * (Z : Int) := by rw [IntWalk.i64_in _ (by omega)]; omega
      have wmul : IntKind.i64.wrap (2 * (Z : Int)) = 2 * (Z : Int) := IntWalk.i64_in _ (by omega)
      have HCC := Lib.hid hcc
      subst hab
      clear b5 kt5 hb5 hbw5 hnn htc hFD hat hxt hcc hZ hF63 hs22
      go_wp2_with fail
      refine HCC.out.mono ?_
      rintro e y6 ⟨rfl, b6⟩
      have HG := Lib.hid (bt HBW.out b6)
      clear b6 q0 q1 c1
      go_wp2
      go_ret
      exact ⟨rfl, HG.out⟩

end Go.Proofs.Ytmfjenhonghkpaa
