/- Layer 9: Put. -/
import Derived.Test.YtkhnhidckiopnaaEb
namespace Go.Proofs.Ytkhnhidckiopnaa
open Go.RowKit
set_option linter.unusedVariables false
set_option linter.unusedSimpArgs false

def IsOwnN (w : World) (s : Nat) (v : Value) (D : List UInt8) (N : Nat) : Prop := ∃ A c, v = .slice A N c ∧ Own w s 5 A c D
theorem IsOwnN.bt {w w' : World} {s : Nat} {v : Value} {D : List UInt8} {N : Nat} (h : IsOwnN w s v D N) (he : Below w.heap.size w w') : IsOwnN w' s v D N := by obtain ⟨A, c, e, h⟩ := h; exact ⟨A, c, e, h.below he (Nat.le_refl _)⟩
theorem end_ne : (51 : TypeId) ≠ 5 := by decide
def PutHeld (w : World) (g s k : Nat) (cs : Array Value) (D : List UInt8) (N : Nat) : Prop := ∃ A c, Blk w g 51 (cs.setIfInBounds (2 + k) (.slice A N c)) ∧ Own w s 5 A c D
theorem PutHeld.bt {w w' : World} {g s k : Nat} {cs : Array Value} {D : List UInt8} {N : Nat} (h : PutHeld w g s k cs D N) (he : Below w.heap.size w w') : PutHeld w' g s k cs D N := by obtain ⟨A, c, e, h⟩ := h; exact ⟨A, c, e.below he e.lt, h.below he (Nat.le_refl _)⟩
def VPp (s g k n : Nat) (A0 : Option Addr) (c0 : Nat) (cs : Array Value) (D : List UInt8) (i : Nat) (v : Value) (w : World) : Prop :=
  match i with
  | 0 => v = .pointer (some ⟨g, 0, none⟩)
  | 1 => v = .pointer (some ⟨g, 0, none⟩)
  | 2 => v = .pointer (some ⟨g, 0, none⟩)
  | 3 => v = .pointer (some ⟨g, 66, none⟩)
  | 4 => v = .int .i64 k
  | 5 => v = .slice A0 n c0
  | 6 => IsOwnN w s v D n
  | 7 => v = .pointer (some ⟨g, 0, none⟩)
  | 8 => v = .pointer (some ⟨g, 2, none⟩)
  | 9 => v = .pointer (some ⟨g, 2 + k, none⟩)
  | 10 => PutHeld w g s k cs D n
  | _ => True
def EPp (g kk k : Nat) (u u' : World) : Prop := match k with
  | 6 => Below u.heap.size u u'
  | 10 => ∃ cs', Blk u g 51 cs' ∧ ∃ t, u' = u.setCell ⟨g, 2 + kk, none⟩ t
  | _ => u' = u
def TPp (w0 : World) (g : Nat) (cs : Array Value) (j : Nat) (u : World) : Prop := match j with
  | 6 => Below w0.heap.size w0 u
  | 4 => Blk u g 51 cs
  | 10 => Blk u g 51 cs
  | _ => True
theorem VPp.mono {s g k n : Nat} {A0 : Option Addr} {c0 : Nat} {cs : Array Value} {D : List UInt8} {q i : Nat} {v : Value} {u u' : World} (he : EPp g k q u u') (hik : i ≠ q) (hv : VPp s g k n A0 c0 cs D i v u) : VPp s g k n A0 c0 cs D i v u' := by
  unfold EPp at he
  split at he
  · unfold VPp at hv ⊢
    split at hv <;> first | with_reducible exact hv | exact absurd rfl hik | exact IsOwnN.bt hv he | exact PutHeld.bt hv he
  · obtain ⟨cs', hb, t, rfl⟩ := he
    unfold VPp at hv ⊢
    split at hv <;> first | with_reducible exact hv | exact absurd rfl hik | (obtain ⟨A, c, e, h⟩ := hv; exact ⟨A, c, e, h.kept (grown_set _ _ _) (.inr (fun e => h.ne_blk hb end_ne e.symm))⟩)
  · rw [he]; exact hv
theorem TPp.mono {w0 : World} {g kk : Nat} {cs : Array Value} {q j : Nat} {u u' : World} (he : EPp g kk q u u') (hkj : q ≠ j) (h4 : (j = 4 ∨ j = 6) ∧ q = 10 → False) (h6 : ∀ u : World, Below w0.heap.size w0 u → w0.heap.size ≤ u.heap.size) (hv : TPp w0 g cs j u) : TPp w0 g cs j u' := by
  unfold EPp at he
  split at he
  · unfold TPp at hv ⊢
    split at hv <;> first | exact Blk.below hv he (Blk.lt hv) | exact absurd rfl hkj | exact Go.Proofs.Ytkhnhidckiopnaa.bt hv he | trivial
  · unfold TPp at hv ⊢
    split at hv <;> first | exact absurd rfl hkj | exact absurd ⟨.inl rfl, rfl⟩ h4 | exact absurd ⟨.inr rfl, rfl⟩ h4 | trivial
  · rw [he]; exact hv
theorem TPp.of {w0 : World} {g : Nat} {cs : Array Value} {u : World} (h : Blk u g 51 cs) (hb : Below w0.heap.size w0 u) (j : Nat) : TPp w0 g cs j u := by
  unfold TPp; split <;> first | exact h | exact hb | trivial

/-- What Put says, where it says no. -/
def putE (q : List (List UInt8)) (f n : Nat) : Int := if n = 0 then 1 else if 256 < n then 2 else if q.length = 64 then 5 else if f + q.length = 65535 then 91 else 0
set_option maxHeartbeats 2000000 in
theorem put_bad {w : World} {g S W f x : Nat} {q : List (List UInt8)} {cs : Array Value} (h : EndAt w g S W q f x cs) (A : Option Addr) (n c : Nat) (r : Int) (hr : putE q f n = r) (h0 : r ≠ 0) :
    Calls Try.prog 13 #[.pointer (some ⟨g, 0, none⟩), .slice A n c] w fun e w' => e = .returned (.int .i64 r) ∧ Below w.heap.size w w' := by
  have hm := h.made
  have c66 := (h.blk.cell 66).trans h.c66
  obtain ⟨k, hk⟩ : ∃ k, k = q.length := ⟨_, rfl⟩
  have hnx := next_any h (f + k) (by rw [hk])
  have hql := h.ql
  unfold putE at hr
  rw [← hk] at c66 hr hql
  have Hm := Lib.hid hm
  have Hnx := Lib.hid hnx
  clear h hm hnx hk
  by_cases h1 : n = 0
  · rw [if_pos h1] at hr
    subst h1 hr
    go_enter Try.func13, Try.ntmps13
    go_wp2_with fail
    refine Hm.out.mono ?_
    rintro e w1 ⟨rfl, rfl⟩
    go_wp2
    go_ret
    exact ⟨rfl, Below.refl _ _⟩
  · rw [if_neg h1] at hr
    have e1 : ((n : Int) == 0) = false := by simp; omega
    by_cases h2 : 256 < n
    · rw [if_pos h2] at hr
      subst hr
      have e2 : (256 : Int) < (n : Int) := by omega
      clear h1 h2
      go_enter Try.func13, Try.ntmps13
      go_wp2_with fail
      refine Hm.out.mono ?_
      rintro e w1 ⟨rfl, rfl⟩
      go_wp2
      go_ret
      exact ⟨rfl, Below.refl _ _⟩
    · rw [if_neg h2] at hr
      have e2 : ¬ (256 : Int) < (n : Int) := by omega
      by_cases h3 : k = 64
      · rw [if_pos h3] at hr
        subst hr h3
        clear h1 h2
        go_enter Try.func13, Try.ntmps13
        go_wp2_with fail
        refine Hm.out.mono ?_
        rintro e w1 ⟨rfl, rfl⟩
        go_wp2
        go_ret
        exact ⟨rfl, Below.refl _ _⟩
      · rw [if_neg h3] at hr
        have e3 : ((k : Int) == 64) = false := by simp; omega
        by_cases h4 : f + k = 65535
        · rw [if_pos h4] at hr
          subst hr
          have e4 : (((f + k : Nat) : Int) == 65535) = true := by rw [h4]; rfl
          generalize f + k = m at Hnx e4
          clear h1 h2 h3 h4
          go_enter Try.func13, Try.ntmps13
          go_wp2_with fail
          refine Hm.out.mono ?_
          rintro e w1 ⟨rfl, rfl⟩
          go_wp2_with fail
          refine Hnx.out.mono ?_
          rintro e w2 ⟨rfl, hb2⟩
          go_wp2
          go_ret
          exact ⟨rfl, hb2⟩
        · rw [if_neg h4] at hr
          exact absurd hr.symm h0
set_option maxRecDepth 100000 in
set_option maxHeartbeats 4000000 in
theorem put_ok {w : World} {g S W f x : Nat} {q : List (List UInt8)} {cs : Array Value} (h : EndAt w g S W q f x cs) (A : Option Addr) (l : List UInt8) (n c : Nat) (hn : Hid (n = l.length)) (hbs : Bs w w.heap.size A l) (h0 : putE q f n = 0) :
    Calls Try.prog 13 #[.pointer (some ⟨g, 0, none⟩), .slice A n c] w fun e w' => e = .returned (.int .i64 0) ∧ (∃ cs', EndAt w' g S W (q ++ [l]) f x cs') ∧ w.grownBy w' (some g) := by
  unfold putE at h0
  by_cases h1 : n = 0
  · rw [if_pos h1] at h0; cases h0
  rw [if_neg h1] at h0
  by_cases h2 : 256 < n
  · rw [if_pos h2] at h0; cases h0
  rw [if_neg h2] at h0
  by_cases h3 : q.length = 64
  · rw [if_pos h3] at h0; cases h0
  rw [if_neg h3] at h0
  by_cases h4 : f + q.length = 65535
  · rw [if_pos h4] at h0; cases h0
  clear h0
  have HP := Lib.hid h
  have hm := h.made
  have c66 := (h.blk.cell 66).trans h.c66
  obtain ⟨k, hk⟩ : ∃ k, k = q.length := ⟨_, rfl⟩
  have hnx := next_any h (f + k) (by rw [hk])
  have hql := h.ql
  rw [← hk] at c66 hql h3 h4
  have HK := Lib.hid hk
  have hcnt : Hid (cs[66]? = some (.int .i64 (k : Nat))) := Lib.hid (by rw [HK.out]; exact h.c66)
  have hsz : Hid (cs.size = 69) := Lib.hid h.size
  have Hm := Lib.hid hm
  have Hnx := Lib.hid hnx
  have HX := Lib.hid (And.intro h hbs)
  have HL := Lib.hid (And.intro h1 (And.intro h2 h4))
  have e1 : ((n : Int) == 0) = false := by simp; omega
  have e2 : ¬ (256 : Int) < (n : Int) := by omega
  have e3 : ((k : Int) == 64) = false := by simp; omega
  have e4 : (((f + k : Nat) : Int) == 65535) = false := by simp; omega
  have hkI : (k : Int) < 64 := by omega
  have hk64 : k < 64 := by omega
  generalize hm0 : f + k = m at Hnx e4
  have HM0 := Lib.hid hm0
  clear h hm hnx hk hbs h1 h2 h3 h4 hm0
  go_enter Try.func13, Try.ntmps13
  go_wp2_with fail
  refine Hm.out.mono ?_
  rintro e w1 ⟨rfl, rfl⟩
  go_wp2_with fail
  refine Hnx.out.mono ?_
  rintro e w1 ⟨rfl, hb1⟩
  have h1 := HX.out.1.bt hb1
  have hb0 := h1.blk
  have hgl := h1.blk.lt
  have hcl := fun (u : World) (hu : Below w1.heap.size w1 u) => clone_all A l n c u hn (Lib.hid (by have := hn.out; have := HL.out; omega)) (((HX.out.2.below hb1).more hb1.size).bt hu)
  have Hcl := Lib.hid hcl
  have HB1 := Lib.hid hb1
  clear hcl h1 hb1 c66 e1 e2 e3
  go_wp2_with fail
  clear e4
  refine wp_region_invT (F := ?FP) (V := VPp w1.heap.size g k n A c cs l) (dead := fun _ => none) (T := TPp w1 g cs) (C := fun u' => w1.grownBy u' (some g)) (E := EPp g k) (by kernel_rfl) (by kernel_rfl) (by kernel_rfl) (fun x => ?hFP) ?hmonoP ?hTmP ?hTP ?hCP ?stepP ?finP
  case hFP => simp only [mkA, Act.put, List.setIfInBounds_toArray, List.set_cons_succ, List.set_cons_zero, Nat.reduceAdd, Nat.zero_add]; first | with_reducible rfl | rfl
  case hmonoP => exact fun q i v u u' he hik hwt hdd hv => VPp.mono he hik hv
  case hTmP => exact fun q j u u' he hkj hwt hv => TPp.mono he hkj (fun h => by obtain ⟨h1 | h1, h2⟩ := h <;> exact ltf hwt (by rw [h1, h2]; kernel_rfl)) (fun u hu => hu.size) hv
  case hTP => exact fun j => TPp.of (u := w1.drew) (show Blk w1.drew g _ cs from hb0) (below_drew _) j
  case hCP => exact grown_of (below_drew w1) _
  case stepP =>
    refine AllOps.cons (fun x u hC hT hp K hK => ?_) ?_
    · clear hp hT
      go_simp
      refine hK _ _ _ hC (by rfl) (by exact rfl) ?_
      first | (simp only [Act.put, List.setIfInBounds_toArray, List.set_cons_succ, List.set_cons_zero]; done) | simp [Act.put]
    refine AllOps.cons (fun x u hC hT hp K hK => ?_) ?_
    · clear hp hT
      go_simp
      refine hK _ _ _ hC (by rfl) (by exact rfl) ?_
      first | (simp only [Act.put, List.setIfInBounds_toArray, List.set_cons_succ, List.set_cons_zero]; done) | simp [Act.put]
    refine AllOps.cons (fun x u hC hT hp K hK => ?_) ?_
    · simp [KnownTill, Region.binds, VPp] at hp
      clear hT
      go_simp
      refine hK _ _ _ hC (by rfl) (by exact rfl) ?_
      first | (simp only [Act.put, List.setIfInBounds_toArray, List.set_cons_succ, List.set_cons_zero, hp]; done) | simp [Act.put, hp]
    refine AllOps.cons (fun x u hC hT hp K hK => ?_) ?_
    · simp [KnownTill, Region.binds, VPp] at hp
      clear hT
      go_simp
      refine hK _ _ _ hC (by rfl) (by exact rfl) ?_
      first | (simp only [Act.put, List.setIfInBounds_toArray, List.set_cons_succ, List.set_cons_zero, hp]; done) | simp [Act.put, hp]
    refine AllOps.cons (fun x u hC hT hp K hK => ?_) ?_
    · simp [KnownTill, Region.binds, VPp] at hp
      have kb : Blk u g 51 cs := hT
      have c256 := kb.cell 66
      rw [hcnt.out] at c256
      clear kb hT
      go_simp
      refine hK _ _ _ hC (by rfl) (by exact rfl) ?_
      first | (simp only [Act.put, List.setIfInBounds_toArray, List.set_cons_succ, List.set_cons_zero, hp]; done) | simp [Act.put, hp]
    refine AllOps.cons (fun x u hC hT hp K hK => ?_) ?_
    · clear hp hT
      go_simp
      refine hK _ _ _ hC (by rfl) (by exact rfl) ?_
      first | (simp only [Act.put, List.setIfInBounds_toArray, List.set_cons_succ, List.set_cons_zero]; done) | simp [Act.put]
    refine AllOps.cons (fun x u hC hT hp K hK => ?_) ?_
    · simp [KnownTill, Region.binds, VPp] at hp
      have h5 : x 5 = .slice A n c := by first | exact hp | exact hp.1
      clear hp
      have hbu : Below w1.heap.size w1 u := hT
      go_simp
      refine (Hcl.out u hbu).mono ?_
      rintro e wA ⟨A6, c6, rfl, own6, hbA⟩
      refine hK _ _ _ (grownBy_trans hC (grown_of hbA _)) hbA ⟨A6, c6, rfl, own6.base_le hbu.size⟩ ?_
      simp [Act.put, h5]
    refine AllOps.cons (fun x u hC hT hp K hK => ?_) ?_
    · simp [KnownTill, Region.binds, VPp] at hp
      clear hT
      go_simp
      refine hK _ _ _ hC (by rfl) (by exact rfl) ?_
      first | (simp only [Act.put, List.setIfInBounds_toArray, List.set_cons_succ, List.set_cons_zero, hp]; done) | simp [Act.put, hp]
    refine AllOps.cons (fun x u hC hT hp K hK => ?_) ?_
    · simp [KnownTill, Region.binds, VPp] at hp
      clear hT
      go_simp
      refine hK _ _ _ hC (by rfl) (by exact rfl) ?_
      first | (simp only [Act.put, List.setIfInBounds_toArray, List.set_cons_succ, List.set_cons_zero, hp]; done) | simp [Act.put, hp]
    refine AllOps.cons (fun x u hC hT hp K hK => ?_) ?_
    · simp [KnownTill, Region.binds, VPp] at hp
      clear hT
      go_simp
      refine hK _ _ _ hC (by rfl) (by exact rfl) ?_
      first | (simp only [Act.put, List.setIfInBounds_toArray, List.set_cons_succ, List.set_cons_zero, hp]; done) | simp [Act.put, hp]
    refine AllOps.cons (fun x u hC hT hp K hK => ?_) ?_
    · simp [KnownTill, Region.binds, VPp] at hp
      obtain ⟨h9, A6, c6, h6, own6⟩ : x 9 = .pointer (some ⟨g, 2 + k, none⟩) ∧ IsOwnN u w1.heap.size (x 6) l n := by first | exact ⟨hp.1, hp.2⟩ | exact ⟨hp.2, hp.1⟩ | exact ⟨hp.1, hp.2.1⟩ | exact ⟨hp.2.1, hp.1⟩ | exact ⟨hp.2.2, hp.1⟩
      clear hp
      have kb : Blk u g 51 cs := hT
      obtain ⟨v0, hv0⟩ : ∃ v0, cs[2 + k]? = some v0 := ⟨cs[2 + k]'(by rw [hsz.out]; omega), Array.getElem?_eq_getElem _⟩
      have ck := kb.cell (2 + k)
      rw [hv0] at ck
      have fk := kb.frozen (2 + k)
      have kc := kb.set_ (2 + k) (.slice A6 n c6)
      have own7 := own6.kept (grown_set u ⟨g, 2 + k, none⟩ (.slice A6 n c6)) (.inr (fun e => own6.ne_blk kb end_ne e.symm))
      have KB := Lib.hid kb
      clear kb hT hv0
      go_simp
      refine hK undef _ (u.setCell ⟨g, 2 + k, none⟩ (.slice A6 n c6)) (grownBy_trans hC (grown_set _ _ _)) ⟨cs, KB.out, _, rfl⟩ ⟨A6, c6, kc, own7⟩ ?_
      simp [Act.put, h6, h9]
    exact AllOps.nil
  case finP =>
    intro x u hC hV
    obtain ⟨A6, c6, k10, own10⟩ : PutHeld u g w1.heap.size k cs l n := hV 10 (by decide) rfl
    clear hV
    have c256 := k10.cell 66
    rw [Array.getElem?_setIfInBounds_ne (by omega), hcnt.out] at c256
    have f256 := k10.frozen 66
    have e1 : IntKind.i64.wrap ((k : Int) + 1) = (k : Int) + 1 := IntWalk.i64_in _ (by omega)
    have k11 := k10.set_ 66 (.int .i64 ((k : Int) + 1))
    have hgr := grownBy_trans hC (grown_set u ⟨g, 66, none⟩ (.int .i64 ((k : Int) + 1)))
    have own11 := own10.kept (grown_set u ⟨g, 66, none⟩ (.int .i64 ((k : Int) + 1))) (.inr (fun e => own10.ne_blk k10 end_ne e.symm))
    have K11 := Lib.hid k11
    clear hC k10 own10 k11 hb0
    go_wp2
    go_ret
    refine ⟨rfl, ⟨_, K11.out, ?_, ?_, ?_, ?_, ?_, ?_, HP.out.s0, HP.out.w1, HP.out.w2, ?_, ?_, ?_, HP.out.xl, ?_⟩, (grown_of HB1.out _).andThen hgr (fun j e => .inr e)⟩
    · rw [Array.size_setIfInBounds, Array.size_setIfInBounds, hsz.out]
    · rw [Array.getElem?_setIfInBounds_ne (by omega), Array.getElem?_setIfInBounds_ne (by omega)]; exact HP.out.c0
    · rw [Array.getElem?_setIfInBounds_ne (by omega), Array.getElem?_setIfInBounds_ne (by omega)]; exact HP.out.c1
    · rw [Array.getElem?_setIfInBounds_self_of_lt (by rw [Array.size_setIfInBounds, hsz.out]; omega), List.length_append, ← HK.out]; rfl
    · rw [Array.getElem?_setIfInBounds_ne (by omega), Array.getElem?_setIfInBounds_ne (by omega)]; exact HP.out.c67
    · rw [Array.getElem?_setIfInBounds_ne (by omega), Array.getElem?_setIfInBounds_ne (by omega)]; exact HP.out.c68
    · rw [List.length_append, ← HK.out]; simp; omega
    · intro d hd
      rcases List.mem_append.1 hd with hd | hd
      · exact HP.out.qs d hd
      · rw [List.mem_singleton.1 hd, ← hn.out]; have := HL.out; omega
    · rw [List.length_append, ← HK.out]; have := HL.out; have := HP.out.fq; have := HK.out; simp; omega
    · intro i hi
      rw [List.length_append, ← HK.out, List.length_singleton] at hi
      rw [Array.getElem?_setIfInBounds_ne (by omega)]
      by_cases hik : i < k
      · obtain ⟨A', c', h1, h2⟩ := HP.out.at_ i (by rw [← HK.out]; exact hik)
        rw [Array.getElem?_setIfInBounds_ne (by omega), List.getElem_append_left (by rw [← HK.out]; exact hik)]
        exact ⟨A', c', h1, (h2.below HB1.out).grown hgr (.inl rfl)⟩
      · obtain rfl : i = k := by omega
        rw [Array.getElem?_setIfInBounds_self_of_lt (by rw [hsz.out]; omega)]
        refine ⟨A6, c6, ?_, ?_⟩
        · rw [List.getElem_append_right (by rw [← HK.out]; omega)]
          simp [← HK.out, ← hn.out]
        · rw [List.getElem_append_right (by rw [← HK.out]; omega)]
          simp only [← HK.out, Nat.sub_self, List.getElem_cons_zero]
          exact DAt.of_own own11 hgl
end Go.Proofs.Ytkhnhidckiopnaa
