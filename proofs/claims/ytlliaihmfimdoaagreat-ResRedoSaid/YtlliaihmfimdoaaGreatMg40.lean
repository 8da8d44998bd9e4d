/- Parts Tp OpenRv of one proof. -/
import Derived.Test.YtlliaihmfimdoaaGreatMg39
import Derived.Test.YtlliaihmfimdoaaGreatMg28
import Derived.Test.YtlliaihmfimdoaaGreatMg17
namespace Go.Proofs.YtlliaihmfimdoaaGreat.Re
open Go.RowKit Go.Maps Go.Joins Go.Deep Go.Proofs.YtlliaihmfimdoaaGreat
set_option linter.unusedVariables false
set_option linter.unusedSimpArgs false

abbrev Prs := List (Int × Nat)
/-- One operation turns the resources, no other does. -/
def EB (K g k : Nat) (u u' : World) : Prop := if k = K then u.grownBy u' (some g) else Below u.heap.size u u'
theorem EB.no {K g k : Nat} {u u' : World} (hk : k ≠ K) (h : Below u.heap.size u u') : EB K g k u u' := by unfold EB; rw [if_neg hk]; exact h
theorem EB.yes {K g : Nat} {u u' : World} (h : u.grownBy u' (some g)) : EB K g K u u' := by unfold EB; rw [if_pos rfl]; exact h
theorem EB.other {K g k : Nat} {u u' : World} (h : EB K g k u u') (hk : k ≠ K) : Below u.heap.size u u' := by unfold EB at h; rw [if_neg hk] at h; exact h
/-- Backed out. -/
def PstB (P : List (Int × Nat)) (vs : List Nat) (nx : Int) (q m g wb : Nat) (A A' : Option Addr) (c c' : Nat) (S4 : RS) (u : World) : Prop := (∃ cs, ResAt u g cs S4 307) ∧ Blk u wb 58 #[.slice A q c, .slice A' m c', .int .i64 nx] ∧ IsIm P vs nx q m (.agg #[.slice A q c, .slice A' m c', .int .i64 nx]) u
theorem PstB.below {P : List (Int × Nat)} {vs : List Nat} {nx : Int} {q m g wb : Nat} {A A' : Option Addr} {c c' : Nat} {S4 : RS} {u u' : World} (h : PstB P vs nx q m g wb A A' c c' S4 u) (hb : Below u.heap.size u u') : PstB P vs nx q m g wb A A' c c' S4 u' := by
  obtain ⟨⟨cs, h1⟩, h2, h3⟩ := h
  exact ⟨⟨cs, h1.below hb⟩, h2.below hb h2.lt, h3.below hb⟩
def TBb (w8 : World) (j : Nat) (u : World) : Prop :=
  match j with
  | 2 => Below w8.heap.size w8 u
  | _ => True
theorem TBb.step {w8 : World} {g k j : Nat} {u u' : World} (h : TBb w8 j u) (he : EB 2 g k u u') (hkj : k ≠ j) : TBb w8 j u' := by
  unfold TBb at h ⊢
  split at h <;> first | exact bt h (he.other hkj) | trivial
def VBa (P : Prs) (vs : List Nat) (nx : Int) (q m g wb : Nat) (A A' : Option Addr) (c c' : Nat) (Al : Option Addr) (cl : Nat) (i : Nat) (v : Value) (w : World) : Prop :=
  match i with
  | 0 => v = .int .i64 0
  | 1 => v = .bool false
  | 2 => v = .bool false
  | 3 => v = .slice Al 2 cl
  | 4 => v = .int .i64 2
  | 5 => v = .bool false
  | 6 => v = .bool false
  | 7 => v = .bool false
  | 8 => v = .pointer (some ⟨g, 0, none⟩)
  | 9 => IsIm P vs nx q m v w
  | 10 => IsIm P vs nx q m v w
  | 11 => v = .agg #[.slice A q c, .slice A' m c', .int .i64 nx]
  | 12 => IsIm P vs nx q m v w
  | 13 => v = .bool true
  | 14 => v = .bool false
  | 15 => v = .bool false
  | _ => True
theorem VBa.mono {P : Prs} {vs : List Nat} {nx : Int} {q m g wb : Nat} {A A' : Option Addr} {c c' : Nat} {Al : Option Addr} {cl : Nat} {q i : Nat} {v : Value} {u u' : World} (he : Below u.heap.size u u') (h : VBa P vs nx q m g wb A A' c c' Al cl i v u) : VBa P vs nx q m g wb A A' c c' Al cl i v u' := by
  unfold VBa at h ⊢
  split at h <;> first | with_reducible exact h | exact IsIm.below h he
def VBb (P : Prs) (vs : List Nat) (nx : Int) (q m g wb : Nat) (A A' : Option Addr) (c c' : Nat) (n : Int) (S4 : RS) (i : Nat) (v : Value) (w : World) : Prop :=
  match i with
  | 0 => v = .pointer (some ⟨g, 0, none⟩)
  | 1 => v = .int .i64 n
  | 2 => v = .int .i64 0 ∧ PstB P vs nx q m g wb A A' c c' S4 w
  | 3 => v = .bool true ∧ PstB P vs nx q m g wb A A' c c' S4 w
  | 4 => v = .bool true ∧ PstB P vs nx q m g wb A A' c c' S4 w
  | 5 => v = .pointer (some ⟨g, 0, none⟩)
  | 6 => IsIm P vs nx q m v w
  | 7 => IsIm P vs nx q m v w
  | 8 => v = .agg #[.slice A q c, .slice A' m c', .int .i64 nx] ∧ IsIm P vs nx q m (.agg #[.slice A q c, .slice A' m c', .int .i64 nx]) w
  | 9 => IsIm P vs nx q m v w
  | 10 => v = .bool true
  | 11 => v = .bool true ∧ PstB P vs nx q m g wb A A' c c' S4 w
  | 12 => v = .bool true ∧ PstB P vs nx q m g wb A A' c c' S4 w
  | 13 => v = .pointer (some ⟨g, 0, none⟩)
  | 14 => v = .int .i64 n
  | 15 => v = .bool false
  | 16 => v = .bool true
  | 17 => v = .bool true
  | 18 => v = .bool true
  | 19 => v = .bool true
  | 20 => v = .bool true
  | 21 => v = .bool true
  | _ => True
theorem VBb.mono {P : Prs} {vs : List Nat} {nx : Int} {q m g wb : Nat} {A A' : Option Addr} {c c' : Nat} {n : Int} {S4 : RS} {q i : Nat} {v : Value} {u u' : World} (he : Below u.heap.size u u') (h : VBb P vs nx q m g wb A A' c c' n S4 i v u) : VBb P vs nx q m g wb A A' c c' n S4 i v u' := by
  unfold VBb at h ⊢
  split at h <;> first | with_reducible exact h | exact ⟨h.1, h.2.below he⟩ | exact IsIm.below h he
theorem VBb.monoK {P : Prs} {vs : List Nat} {nx : Int} {q m g wb : Nat} {A A' : Option Addr} {c c' : Nat} {n : Int} {S4 : RS} {g0 k i : Nat} {v : Value} {u u' : World} (he : EB 2 g0 k u u') (hik : i ≠ k) (hw : k = 2 → (i = 3 ∨ i = 4 ∨ i = 6 ∨ i = 7 ∨ i = 8 ∨ i = 9 ∨ i = 11 ∨ i = 12) → False) (h : VBb P vs nx q m g wb A A' c c' n S4 i v u) : VBb P vs nx q m g wb A A' c c' n S4 i v u' := by
  by_cases hk : k = 2
  · subst hk
    have hw := hw rfl
    unfold VBb at h ⊢
    split at h <;> first | with_reducible exact h | exact (hik rfl).elim | exact (hw (by decide)).elim
  · exact VBb.mono (q := 0) (he.other hk) h

set_option maxRecDepth 100000 in
set_option maxHeartbeats 8000000 in
theorem resBoth_main (A0 : Option Addr) (ops : List OpV) (c0 : Nat) (n y : Int) (v : Nat) (cm : Bool) (w : World) (h : OpsAt w A0 ops) (hcp : ∀ o ∈ ops, CapOk o) (hn : i64ok n) (hy : i64ok y) :
    Calls Tryz.prog 8 #[.slice A0 ops.length c0, .int .i64 n, .int .i64 y, .int .u64 (v : Nat), .bool cm] w fun e w' => e = .returned (.bool true) ∧ Below w.heap.size w w' := by
  have HP0 := Lib.hid (played_any A0 ops ops.length c0 w (Lib.hid rfl) h hcp)
  obtain ⟨m0, hm0⟩ : ∃ m0, m0 = ops.length := ⟨_, rfl⟩
  obtain ⟨S, hS⟩ : ∃ S, S = playR ops := ⟨_, rfl⟩
  have hR := RInv.play ops
  rw [← hS] at hR
  rw [← hm0, ← hS] at HP0
  rw [← hm0]
  have HR := Lib.hid hR
  have HI := Lib.hid (And.intro hn hy)
  clear h hcp hm0 hS hR hn hy
  go_enter Tryz.func8, Tryz.ntmps8
  go_wp2_with fail
  refine HP0.out.mono ?_
  rintro e w1 ⟨⟨g, cs1, rfl, hk1, ⟨hok1, hfr1⟩, hgw⟩, hb1⟩
  have HBz := Lib.hid (resbusy_any g cs1 S 300 n w1 hk1 HI.out.1)
  have HGw := Lib.hid hgw
  have H1 := Lib.hid (And.intro hk1 (And.intro hok1 (And.intro hfr1 hb1)))
  obtain ⟨bz, hbz⟩ : ∃ bz, bz = busyR S n := ⟨_, rfl⟩
  rw [← hbz] at HBz
  have Hbz := Lib.hid hbz
  clear hk1 hok1 hfr1 hgw hb1 hbz HP0
  rcases bz with _ | _
  · go_wp2_with fail
    refine HBz.out.mono ?_
    rintro e w2 ⟨rfl, hb2⟩
    have HPt := Lib.hid (resput_any g cs1 S 300 n y v w2 (H1.out.1.below hb2) (by omega) HI.out.1 HI.out.2 (fun b _ => by rw [H1.out.2.2.1.1]; trivial))
    obtain ⟨S1, hS1⟩ : ∃ S1, S1 = (putR S n y v).2 := ⟨_, rfl⟩
    obtain ⟨e1, he1⟩ : ∃ e1, e1 = (putR S n y v).1 := ⟨_, rfl⟩
    rw [← hS1, ← he1] at HPt
    have HB2 := Lib.hid (bt H1.out.2.2.2 hb2)
    have HE1 := Lib.hid (And.intro hS1 he1)
    clear hb2 hS1 he1 HBz
    by_cases h1 : e1 = 0
    · subst h1
      go_wp2_with fail
      refine HPt.out.mono ?_
      rintro e w3 ⟨rfl, ⟨⟨cs3, hk3⟩, hg3⟩⟩
      have hQ1 : S1.Q = S.Q := by rw [HE1.out.1]; exact (putR_B S n y v).2
      have HPu := Lib.hid (respush_any g cs3 S1 301 n v w3 hk3 (by omega) HI.out.1 (fun b _ => by rw [hQ1, H1.out.2.2.1.2]; trivial))
      obtain ⟨S2, hS2⟩ : ∃ S2, S2 = (pushR S1 n v).2 := ⟨_, rfl⟩
      obtain ⟨e2, he2⟩ : ∃ e2, e2 = (pushR S1 n v).1 := ⟨_, rfl⟩
      rw [← hS2, ← he2] at HPu
      have HB3 := Lib.hid (HB2.out.grown hg3 HB2.out.size (fun r e => by cases e; exact HGw.out))
      have hok2 : Qu.QOk S2.Q := by rw [hS2]; exact pushR_ok (by rw [hQ1]; exact H1.out.2.1) hk3.qu.nd n v
      have HE2 := Lib.hid (And.intro hS2 (And.intro he2 hok2))
      clear hg3 hS2 he2 HPt hk3 hQ1 hok2
      by_cases h2 : e2 = 0
      · subst h2
        go_wp2_with fail
        refine HPu.out.mono ?_
        rintro e w4 ⟨rfl, ⟨⟨cs4, hk4⟩, hg4⟩⟩
        have hb4 := HB3.out.grown hg4 HB3.out.size (fun r e => by cases e; exact HGw.out)
        obtain ⟨S2', S3, hBo⟩ := both_start (S := S) (n := n) (y := y) (v := v) Hbz.out.symm HE1.out.2.symm (by rw [← HE1.out.1]; exact HE2.out.2.1.symm)
        have hS2' : S2 = S2' := by rw [HE2.out.1, HE1.out.1]; exact hBo.put
        subst hS2'
        have hPr := resprep_any g cs4 S2 302 n
        have hl : (prepM S2.K n).1.1.length ≤ 400000 ∧ (Qu.prepM S2.Q n).1.1.length ≤ 400000 := ⟨by have := kprep_len hk4.kv n; omega, by have := qprep_len hk4.qu n; omega⟩
        have hok3 : Qu.QOk S3.Q := by have := prepR_ok HE2.out.2.2 hk4.qu.nd n; rw [hBo.prep] at this; exact this
        have HIm0 := Lib.hid (image_img g cs4 S2 302 w4 hk4)
        have himl := imL_of HE2.out.2.2
        obtain ⟨P, hP⟩ : ∃ P, P = imP S2.K 16 := ⟨_, rfl⟩
        obtain ⟨vs, hvs⟩ : ∃ vs, vs = S2.Q.I.map Qu.IT.v := ⟨_, rfl⟩
        obtain ⟨nx, hnx⟩ : ∃ nx, nx = S2.Q.g + 1 := ⟨_, rfl⟩
        rw [← hP, ← hvs, ← hnx] at HIm0
        rw [← hP, ← hvs] at himl
        have hgl : g < w4.heap.size := hk4.lt
        have H4 := Lib.hid (And.intro hk4 (And.intro hb4 (And.intro hBo (And.intro hl (And.intro hok3 (And.intro himl (And.intro hP (And.intro hvs (And.intro hnx hgl)))))))))
        clear hk4 hg4 hb4 hBo hPr hl hok3 himl hP hvs hnx hgl HPu
        go_wp2_with fail
        refine HIm0.out.mono ?_
        rintro e w5 ⟨A, q, c, A', m, c', rfl, HX⟩
        obtain ⟨w6, hw6⟩ : ∃ w6, w6 = w5.alloc (.cells #[.slice A q c, .slice A' m c', .int .i64 nx] 58) := ⟨_, rfl⟩
        obtain ⟨wb, hwb⟩ : ∃ wb, wb = w5.heap.size := ⟨_, rfl⟩
        have b6 : Below w5.heap.size w5 w6 := by rw [hw6]; exact ba _ _
        have k6 : Blk w6 wb 58 #[.slice A q c, .slice A' m c', .int .i64 nx] := by rw [hw6, hwb]; exact Blk.new _ _ _
        have hi6 := HX.out.1.below b6
        have b46 := bt HX.out.2 b6
        have hne : wb ≠ g := by have := H4.out.2.2.2.2.2.2.2.2.2; have := HX.out.2.size; omega
        have HPr := Lib.hid (resprep_any g cs4 S2 302 n w6 (H4.out.1.below b46) (by omega) HI.out.1 H4.out.2.2.2.1)
        rw [H4.out.2.2.1.prep] at HPr
        dsimp only at HPr
        have hL : ImL P vs q m := by
          have := H4.out.2.2.2.2.2.1
          rw [← HX.out.1.q, ← HX.out.1.q'] at this
          exact this
        have HLn := Lib.hid hL
        have H6 := Lib.hid (And.intro k6 (And.intro hi6 (And.intro (bt H4.out.2.1 b46) hne)))
        have HW6 := Lib.hid (And.intro hw6 hwb)
        clear b6 k6 hi6 b46 hne hL hw6 hwb HIm0 HX
        go_wp2_with fail
        rw [← HW6.out.1, ← HW6.out.2]
        refine HPr.out.mono ?_
        rintro e w7 ⟨⟨Al, ql, cl, rfl, hql, own7⟩, ⟨⟨cs7, hk7⟩, hg7⟩⟩
        obtain rfl : ql = 2 := hql
        have k7 := Re.Blk.off H6.out.1 hg7 H6.out.2.2.2
        have hi7 := H6.out.2.1.far hg7 H4.out.2.2.2.2.2.2.2.2.2
        have b7 := H6.out.2.2.1.grown hg7 H6.out.2.2.1.size (fun r e => by cases e; exact HGw.out)
        have p0 := k7.cell 0
        have p1 := k7.cell 1
        have p2 := k7.cell 2
        simp only [List.getElem?_toArray, List.getElem?_cons_zero, List.getElem?_cons_succ] at p0 p1 p2
        have HBl : Hid (wb < w7.heap.size ∧ w7.cell? ⟨wb, 0, none⟩ = some (.slice A q c) ∧ w7.cell? ⟨wb, 1, none⟩ = some (.slice A' m c') ∧ w7.cell? ⟨wb, 2, none⟩ = some (.int .i64 nx)) := Lib.hid ⟨k7.lt, p0, p1, p2⟩
        have hBo := H4.out.2.2.1
        have hP3 : imP S3.K 16 = P := by rw [H4.out.2.2.2.2.2.2.1]; exact imP_eq (hBo.v3.1.trans hBo.v2.1.symm) 16
        have hv3 : S3.Q.I.map Qu.IT.v = vs := by rw [H4.out.2.2.2.2.2.2.2.1, hBo.v3.2.1, hBo.v2.2.1]
        have hn3 : S3.Q.g + 1 = nx := by rw [H4.out.2.2.2.2.2.2.2.2.1, hBo.v3.2.2, hBo.v2.2.2]
        have HIm : Hid (∀ u, Below w7.heap.size w7 u → Calls Tryz.prog 18 #[.pointer (some ⟨g, 0, none⟩)] u fun e w' => ∃ v, e = .returned v ∧ IsIm P vs nx q m v w' ∧ Below u.heap.size u w') := Lib.hid fun u hu => image_is g cs7 S3 305 u (hk7.below hu) hP3 hv3 hn3 HLn
        have HWas : Hid (IsIm P vs nx q m (.agg #[.slice A q c, .slice A' m c', .int .i64 nx]) w7) := Lib.hid (hi7.is nx)
        have H7 := Lib.hid (And.intro hk7 (And.intro k7 (And.intro hi7 b7)))
        have HLn := Lib.hid HLn
        clear k7 hi7 b7 p0 p1 p2 hP3 hv3 hn3 hBo own7 hk7 hg7 HPr
        go_wp2_with fail
        refine wp_region_invT (F := ?FA) (V := VBa P vs nx q m g wb A A' c c' Al cl) (dead := fun _ => none) (T := fun _ _ => True) (C := fun u => Below w7.heap.size w7 u) (E := fun _ u u' => Below u.heap.size u u') (by kernel_rfl) (by kernel_rfl) (by kernel_rfl) (fun x => ?hFA) ?hmonoA ?hTmA ?hTA ?hCA ?stepA ?finA
        case hFA => simp only [mkA, Act.put, List.setIfInBounds_toArray, List.set_cons_succ, List.set_cons_zero, Nat.reduceAdd, Nat.zero_add]; first | with_reducible rfl | rfl
        case hmonoA => exact fun q' i v u u' he hik hwt hdd hv => VBa.mono (q := q') he hv
        case hTmA => exact fun _ _ _ _ _ _ _ _ => trivial
        case hTA => exact fun j => trivial
        case hCA => exact (Below.refl _ _).drew
        case stepA =>
          refine AllOps.cons (fun x u hC hT hp K hK => ?_) ?_
          · clear hp hT
            go_simp
            refine hK _ _ _ hC (Below.refl _ _) (by exact rfl) ?_
            first | (simp only [Act.put, List.setIfInBounds_toArray, List.set_cons_succ, List.set_cons_zero]; done) | simp [Act.put]
          refine AllOps.cons (fun x u hC hT hp K hK => ?_) ?_
          · simp [KnownTill, Region.binds, VBa] at hp
            clear hT
            go_simp
            refine hK _ _ _ hC (Below.refl _ _) (by exact (by first | exact rfl | simp)) ?_
            first | (simp only [Act.put, List.setIfInBounds_toArray, List.set_cons_succ, List.set_cons_zero, hp]; done) | simp [Act.put, hp]
          refine AllOps.cons (fun x u hC hT hp K hK => ?_) ?_
          · simp [KnownTill, Region.binds, VBa] at hp
            clear hT
            go_simp
            refine hK _ _ _ hC (Below.refl _ _) (by exact rfl) ?_
            first | (simp only [Act.put, List.setIfInBounds_toArray, List.set_cons_succ, List.set_cons_zero, hp]; done) | simp [Act.put, hp]
          refine AllOps.cons (fun x u hC hT hp K hK => ?_) ?_
          · simp [KnownTill, Region.binds, VBa] at hp
            clear hT
            go_simp
            refine hK _ _ _ hC (Below.refl _ _) (by exact rfl) ?_
            first | (simp only [Act.put, List.setIfInBounds_toArray, List.set_cons_succ, List.set_cons_zero, hp]; done) | simp [Act.put, hp]
          refine AllOps.cons (fun x u hC hT hp K hK => ?_) ?_
          · simp [KnownTill, Region.binds, VBa] at hp
            clear hT
            go_simp
            refine hK _ _ _ hC (Below.refl _ _) (by exact rfl) ?_
            first | (simp only [Act.put, List.setIfInBounds_toArray, List.set_cons_succ, List.set_cons_zero, hp]; done) | simp [Act.put, hp]
          refine AllOps.cons (fun x u hC hT hp K hK => ?_) ?_
          · simp [KnownTill, Region.binds, VBa] at hp
            clear hT
            go_simp
            refine hK _ _ _ hC (Below.refl _ _) (by exact (by first | exact rfl | simp)) ?_
            first | (simp only [Act.put, List.setIfInBounds_toArray, List.set_cons_succ, List.set_cons_zero, hp]; done) | simp [Act.put, hp]
          refine AllOps.cons (fun x u hC hT hp K hK => ?_) ?_
          · simp [KnownTill, Region.binds, VBa] at hp
            clear hT
            go_simp
            refine hK _ _ _ hC (Below.refl _ _) (by exact rfl) ?_
            first | (simp only [Act.put, List.setIfInBounds_toArray, List.set_cons_succ, List.set_cons_zero, hp]; done) | simp [Act.put, hp]
          refine AllOps.cons (fun x u hC hT hp K hK => ?_) ?_
          · simp [KnownTill, Region.binds, VBa] at hp
            clear hT
            go_simp
            refine hK _ _ _ hC (Below.refl _ _) (by exact rfl) ?_
            first | (simp only [Act.put, List.setIfInBounds_toArray, List.set_cons_succ, List.set_cons_zero, hp]; done) | simp [Act.put, hp]
          refine AllOps.cons (fun x u hC hT hp K hK => ?_) ?_
          · simp [KnownTill, Region.binds, VBa] at hp
            clear hT
            go_simp
            refine hK _ _ _ hC (Below.refl _ _) (by exact rfl) ?_
            first | (simp only [Act.put, List.setIfInBounds_toArray, List.set_cons_succ, List.set_cons_zero, hp]; done) | simp [Act.put, hp]
          refine AllOps.cons (fun x u hC hT hp K hK => ?_) ?_
          · simp [KnownTill, Region.binds, VBa] at hp
            clear hT
            go_simp
            refine (HIm.out u hC).mono ?_
            rintro e wA ⟨vA, rfl, hvA, hbA⟩
            refine hK _ _ _ (bt hC hbA) hbA hvA ?_
            first | (simp only [Act.put, List.setIfInBounds_toArray, List.set_cons_succ, List.set_cons_zero, hp]; done) | simp [Act.put, hp]
          refine AllOps.cons (fun x u hC hT hp K hK => ?_) ?_
          · simp [KnownTill, Region.binds, VBa] at hp
            clear hT
            go_simp
            have h1 : IsIm P vs nx q m (x 9) u := by first | with_reducible exact hp.1.2 | with_reducible exact hp.1 | with_reducible exact hp.2.1 | with_reducible exact hp.2 | with_reducible exact hp.2.2.1 | with_reducible exact hp | with_reducible exact hp.1.1
            refine (isim_as HLn.out h1).mono ?_
            rintro e wA ⟨vA, rfl, hvA, hbA⟩
            refine hK _ _ _ (bt hC hbA) hbA hvA ?_
            first | (simp only [Act.put, List.setIfInBounds_toArray, List.set_cons_succ, List.set_cons_zero, hp]; done) | simp [Act.put, hp]
          refine AllOps.cons (fun x u hC hT hp K hK => ?_) ?_
          · simp [KnownTill, Region.binds, VBa] at hp
            clear hT
            have q0 := ((show Below w7.heap.size w7 u from hC).cell (p := ⟨wb, 0, none⟩) HBl.out.1).trans HBl.out.2.1
            have q1 := ((show Below w7.heap.size w7 u from hC).cell (p := ⟨wb, 1, none⟩) HBl.out.1).trans HBl.out.2.2.1
            have q2 := ((show Below w7.heap.size w7 u from hC).cell (p := ⟨wb, 2, none⟩) HBl.out.1).trans HBl.out.2.2.2
            go_simp
            refine hK _ _ _ hC (Below.refl _ _) (by exact rfl) ?_
            first | (simp only [Act.put, List.setIfInBounds_toArray, List.set_cons_succ, List.set_cons_zero, hp]; done) | simp [Act.put, hp]
          refine AllOps.cons (fun x u hC hT hp K hK => ?_) ?_
          · simp [KnownTill, Region.binds, VBa] at hp
            clear hT
            go_simp
            refine (isim_as HLn.out (IsIm.below HWas.out hC)).mono ?_
            rintro e wA ⟨vA, rfl, hvA, hbA⟩
            refine hK _ _ _ (bt hC hbA) hbA hvA ?_
            first | (simp only [Act.put, List.setIfInBounds_toArray, List.set_cons_succ, List.set_cons_zero, hp]; done) | simp [Act.put, hp]
          refine AllOps.cons (fun x u hC hT hp K hK => ?_) ?_
          · simp [KnownTill, Region.binds, VBa] at hp
            clear hT
            go_simp
            have h1 : IsIm P vs nx q m (x 10) u := by first | with_reducible exact hp.1 | with_reducible exact hp.2.1 | with_reducible exact hp.2.2.1 | with_reducible exact hp.2
            have h2 : IsIm P vs nx q m (x 12) u := by first | with_reducible exact hp.2.1 | with_reducible exact hp.2 | with_reducible exact hp.2.2.1 | with_reducible exact hp.1
            refine (isim_same HLn.out h1 h2).mono ?_
            rintro e wA ⟨rfl, hbA⟩
            refine hK _ _ _ (bt hC hbA) hbA (by exact rfl) ?_
            first | (simp only [Act.put, List.setIfInBounds_toArray, List.set_cons_succ, List.set_cons_zero, hp]; done) | simp [Act.put, hp]
          refine AllOps.cons (fun x u hC hT hp K hK => ?_) ?_
          · simp [KnownTill, Region.binds, VBa] at hp
            clear hT
            go_simp
            refine hK _ _ _ hC (Below.refl _ _) (by exact rfl) ?_
            first | (simp only [Act.put, List.setIfInBounds_toArray, List.set_cons_succ, List.set_cons_zero, hp]; done) | simp [Act.put, hp]
          refine AllOps.cons (fun x u hC hT hp K hK => ?_) ?_
          · simp [KnownTill, Region.binds, VBa] at hp
            clear hT
            go_simp
            refine hK _ _ _ hC (Below.refl _ _) (by exact rfl) ?_
            first | (simp only [Act.put, List.setIfInBounds_toArray, List.set_cons_succ, List.set_cons_zero, hp]; done) | simp [Act.put, hp]
          exact AllOps.nil
        case finA =>
          intro x w8 hC hV
          have e62 : x 15 = .bool false := hV 15 (by decide) rfl
          rw [e62]
          clear e62
          clear hV
          have H8 := Lib.hid (And.intro (H7.out.1.below hC) (And.intro (H7.out.2.1.below hC H7.out.2.1.lt) (And.intro (H7.out.2.2.1.below hC) (bt H7.out.2.2.2 hC))))
          clear hC HIm HWas HBl
          rcases cm with _ | _
          · obtain ⟨S4, hS4⟩ : ∃ S4, S4 = (backR S3 n).2 := ⟨_, rfl⟩
            have hbk := H4.out.2.2.1.back
            have hBo := H4.out.2.2.1
            rw [← hS4] at hbk
            have hP4 : imP S4.K 16 = P := by rw [H4.out.2.2.2.2.2.2.1]; exact imP_eq (hbk.2.1.trans hBo.v2.1.symm) 16
            have hv4 : S4.Q.I.map Qu.IT.v = vs := by rw [H4.out.2.2.2.2.2.2.2.1, hBo.v2.2.1]; exact hbk.2.2.1
            have hn4 : S4.Q.g + 1 = nx := by rw [H4.out.2.2.2.2.2.2.2.2.1, hBo.v2.2.2, hbk.2.2.2.1]
            have HS4 := Lib.hid (And.intro hP4 (And.intro hv4 (And.intro hn4 hbk.2.2.2.2)))
            have HBk : Hid (∀ u, Below w8.heap.size w8 u → Calls Tryz.prog 31 #[.pointer (some ⟨g, 0, none⟩), .int .i64 n] u fun e w' => e = .returned (.int .i64 0) ∧ u.grownBy w' (some g) ∧ PstB P vs nx q m g wb A A' c c' S4 w') := Lib.hid fun u hu => by
              refine (resbackout_any g cs7 S3 305 n u (H8.out.1.below hu) (by omega) HI.out.1).mono ?_
              rintro e w' ⟨rfl, ⟨⟨cs', hk'⟩, hg'⟩⟩
              rw [hbk.1]
              rw [← hS4] at hk'
              exact ⟨rfl, hg', ⟨cs', hk'⟩, Re.Blk.off (H8.out.2.1.below hu H8.out.2.1.lt) hg' H6.out.2.2.2, ((H8.out.2.2.1.below hu).far hg' H4.out.2.2.2.2.2.2.2.2.2).is nx⟩
            clear hbk hBo hP4 hv4 hn4 hS4
            go_wp2_with fail
            refine wp_region_invU (F := ?FB) (V := VBb P vs nx q m g wb A A' c c' n S4) (dead := fun _ => none) (T := TBb w8) (C := fun u => Below w.heap.size w u) (E := EB 2 g) (by kernel_rfl) (by kernel_rfl) (by kernel_rfl) (fun x => ?hFB) ?hmonoB ?hTmB ?hTB ?hCB ?stepB ?finB
            case hFB => simp only [mkA, Act.put, List.setIfInBounds_toArray, List.set_cons_succ, List.set_cons_zero, Nat.reduceAdd, Nat.zero_add]; first | with_reducible rfl | rfl
            case hmonoB => exact fun k i v u u' he hik hwt hdd hv => VBb.monoK he hik (fun hk hi => by subst hk; rcases hi with rfl | rfl | rfl | rfl | rfl | rfl | rfl | rfl <;> (first | (rw [show waitsU _ _ 2 = true by kernel_rfl] at hwt; cases hwt))) hv
            case hTmB => exact fun k j u u' he hkj hwt hv => hv.step he hkj
            case hTB => exact fun j => by unfold TBb; split <;> first | exact (Below.refl _ _).drew | trivial
            case hCB => exact bt H8.out.2.2.2 (Below.refl _ _).drew
            case stepB =>
              refine AllOps.cons (fun x u hC hT hp K hK => ?_) ?_
              · clear hp hT
                go_simp
                refine hK _ _ _ hC (EB.no (by decide) (Below.refl _ _)) (by exact rfl) ?_
                first | (simp only [Act.put, List.setIfInBounds_toArray, List.set_cons_succ, List.set_cons_zero]; done) | simp [Act.put]
              refine AllOps.cons (fun x u hC hT hp K hK => ?_) ?_
              · clear hp hT
                go_simp
                refine hK _ _ _ hC (EB.no (by decide) (Below.refl _ _)) (by exact rfl) ?_
                first | (simp only [Act.put, List.setIfInBounds_toArray, List.set_cons_succ, List.set_cons_zero]; done) | simp [Act.put]
              refine AllOps.cons (fun x u hC hT hp K hK => ?_) ?_
              · simp [KnownTill, Region.binds, VBb] at hp
                go_simp
                refine (HBk.out u hT).mono ?_
                rintro e wA ⟨rfl, hgA, hpA⟩
                clear hT
                refine hK _ _ _ (hC.grown hgA hC.size (fun r e => by cases e; exact HGw.out)) (EB.yes hgA) ⟨rfl, hpA⟩ ?_
                first | (simp only [Act.put, List.setIfInBounds_toArray, List.set_cons_succ, List.set_cons_zero, hp]; done) | simp [Act.put, hp]
              refine AllOps.cons (fun x u hC hT hp K hK => ?_) ?_
              · simp [KnownTill, Region.binds, VBb] at hp
                clear hT
                have hP9 : PstB P vs nx q m g wb A A' c c' S4 u := by first | with_reducible exact hp.2 | with_reducible exact hp.1.2 | with_reducible exact hp.2.1.2 | with_reducible exact hp.2.2
                go_simp
                refine hK _ _ _ hC (EB.no (by decide) (Below.refl _ _)) ⟨by first | exact rfl | simp, hP9⟩ ?_
                first | (simp only [Act.put, List.setIfInBounds_toArray, List.set_cons_succ, List.set_cons_zero, hp]; done) | simp [Act.put, hp]
              refine AllOps.cons (fun x u hC hT hp K hK => ?_) ?_
              · simp [KnownTill, Region.binds, VBb] at hp
                clear hT
                have hP9 : PstB P vs nx q m g wb A A' c c' S4 u := by first | with_reducible exact hp.2 | with_reducible exact hp.1.2 | with_reducible exact hp.2.1.2 | with_reducible exact hp.2.2
                go_simp
                refine hK _ _ _ hC (EB.no (by decide) (Below.refl _ _)) ⟨by first | exact rfl | simp, hP9⟩ ?_
                first | (simp only [Act.put, List.setIfInBounds_toArray, List.set_cons_succ, List.set_cons_zero, hp]; done) | simp [Act.put, hp]
              refine AllOps.cons (fun x u hC hT hp K hK => ?_) ?_
              · simp [KnownTill, Region.binds, VBb] at hp
                clear hT
                go_simp
                refine hK _ _ _ hC (EB.no (by decide) (Below.refl _ _)) (by exact rfl) ?_
                first | (simp only [Act.put, List.setIfInBounds_toArray, List.set_cons_succ, List.set_cons_zero, hp]; done) | simp [Act.put, hp]
              refine AllOps.cons (fun x u hC hT hp K hK => ?_) ?_
              · simp [KnownTill, Region.binds, VBb] at hp
                clear hT
                go_simp
                obtain ⟨⟨cs9, hk9⟩, hw9, _⟩ : PstB P vs nx q m g wb A A' c c' S4 u := by first | with_reducible exact hp.2.2 | with_reducible exact hp.1.2 | with_reducible exact hp.2.1.2
                refine (image_is g cs9 S4 307 u hk9 HS4.out.1 HS4.out.2.1 HS4.out.2.2.1 HLn.out).mono ?_
                rintro e wA ⟨vA, rfl, hvA, hbA⟩
                refine hK _ _ _ (bt hC hbA) (EB.no (by decide) hbA) hvA ?_
                first | (simp only [Act.put, List.setIfInBounds_toArray, List.set_cons_succ, List.set_cons_zero, hp]; done) | simp [Act.put, hp]
              refine AllOps.cons (fun x u hC hT hp K hK => ?_) ?_
              · simp [KnownTill, Region.binds, VBb] at hp
                clear hT
                go_simp
                have h1 : IsIm P vs nx q m (x 6) u := by first | with_reducible exact hp.1.2 | with_reducible exact hp.1 | with_reducible exact hp.2.1 | with_reducible exact hp.2 | with_reducible exact hp.2.2.1 | with_reducible exact hp | with_reducible exact hp.1.1
                refine (isim_as HLn.out h1).mono ?_
                rintro e wA ⟨vA, rfl, hvA, hbA⟩
                refine hK _ _ _ (bt hC hbA) (EB.no (by decide) hbA) hvA ?_
                first | (simp only [Act.put, List.setIfInBounds_toArray, List.set_cons_succ, List.set_cons_zero, hp]; done) | simp [Act.put, hp]
              refine AllOps.cons (fun x u hC hT hp K hK => ?_) ?_
              · simp [KnownTill, Region.binds, VBb] at hp
                clear hT
                obtain ⟨⟨cs9, hk9⟩, hw9, hi9⟩ : PstB P vs nx q m g wb A A' c c' S4 u := by first | with_reducible exact hp.2 | with_reducible exact hp.1.2 | with_reducible exact hp.2.1.2 | with_reducible exact hp.2.2
                have q0 := hw9.cell 0
                have q1 := hw9.cell 1
                have q2 := hw9.cell 2
                simp only [List.getElem?_toArray, List.getElem?_cons_zero, List.getElem?_cons_succ] at q0 q1 q2
                go_simp
                refine hK _ _ _ hC (EB.no (by decide) (Below.refl _ _)) ⟨by exact rfl, hi9⟩ ?_
                first | (simp only [Act.put, List.setIfInBounds_toArray, List.set_cons_succ, List.set_cons_zero, hp]; done) | simp [Act.put, hp]
              refine AllOps.cons (fun x u hC hT hp K hK => ?_) ?_
              · simp [KnownTill, Region.binds, VBb] at hp
                clear hT
                go_simp
                have h1 : IsIm P vs nx q m (.agg #[.slice A q c, .slice A' m c', .int .i64 nx]) u := by first | with_reducible exact hp.1.2 | with_reducible exact hp.2.1.2 | with_reducible exact hp.2 | with_reducible exact hp.2.2
                refine (isim_as HLn.out h1).mono ?_
                rintro e wA ⟨vA, rfl, hvA, hbA⟩
                refine hK _ _ _ (bt hC hbA) (EB.no (by decide) hbA) hvA ?_
                first | (simp only [Act.put, List.setIfInBounds_toArray, List.set_cons_succ, List.set_cons_zero, hp]; done) | simp [Act.put, hp]
              refine AllOps.cons (fun x u hC hT hp K hK => ?_) ?_
              · simp [KnownTill, Region.binds, VBb] at hp
                clear hT
                go_simp
                have h1 : IsIm P vs nx q m (x 7) u := by first | with_reducible exact hp.1 | with_reducible exact hp.2.1 | with_reducible exact hp.2.2.1 | with_reducible exact hp.2
                have h2 : IsIm P vs nx q m (x 9) u := by first | with_reducible exact hp.2.1 | with_reducible exact hp.2 | with_reducible exact hp.2.2.1 | with_reducible exact hp.1
                refine (isim_same HLn.out h1 h2).mono ?_
                rintro e wA ⟨rfl, hbA⟩
                refine hK _ _ _ (bt hC hbA) (EB.no (by decide) hbA) (by exact rfl) ?_
                first | (simp only [Act.put, List.setIfInBounds_toArray, List.set_cons_succ, List.set_cons_zero, hp]; done) | simp [Act.put, hp]
              refine AllOps.cons (fun x u hC hT hp K hK => ?_) ?_
              · simp [KnownTill, Region.binds, VBb] at hp
                clear hT
                have hP9 : PstB P vs nx q m g wb A A' c c' S4 u := by first | with_reducible exact hp.2 | with_reducible exact hp.1.2 | with_reducible exact hp.2.1.2 | with_reducible exact hp.2.2
                go_simp
                refine hK _ _ _ hC (EB.no (by decide) (Below.refl _ _)) ⟨by first | exact rfl | simp, hP9⟩ ?_
                first | (simp only [Act.put, List.setIfInBounds_toArray, List.set_cons_succ, List.set_cons_zero, hp]; done) | simp [Act.put, hp]
              refine AllOps.cons (fun x u hC hT hp K hK => ?_) ?_
              · simp [KnownTill, Region.binds, VBb] at hp
                clear hT
                have hP9 : PstB P vs nx q m g wb A A' c c' S4 u := by first | with_reducible exact hp.2 | with_reducible exact hp.1.2 | with_reducible exact hp.2.1.2 | with_reducible exact hp.2.2
                go_simp
                refine hK _ _ _ hC (EB.no (by decide) (Below.refl _ _)) ⟨by first | exact rfl | simp, hP9⟩ ?_
                first | (simp only [Act.put, List.setIfInBounds_toArray, List.set_cons_succ, List.set_cons_zero, hp]; done) | simp [Act.put, hp]
              refine AllOps.cons (fun x u hC hT hp K hK => ?_) ?_
              · simp [KnownTill, Region.binds, VBb] at hp
                clear hT
                go_simp
                refine hK _ _ _ hC (EB.no (by decide) (Below.refl _ _)) (by exact rfl) ?_
                first | (simp only [Act.put, List.setIfInBounds_toArray, List.set_cons_succ, List.set_cons_zero, hp]; done) | simp [Act.put, hp]
              refine AllOps.cons (fun x u hC hT hp K hK => ?_) ?_
              · simp [KnownTill, Region.binds, VBb] at hp
                clear hT
                go_simp
                refine hK _ _ _ hC (EB.no (by decide) (Below.refl _ _)) (by exact rfl) ?_
                first | (simp only [Act.put, List.setIfInBounds_toArray, List.set_cons_succ, List.set_cons_zero, hp]; done) | simp [Act.put, hp]
              refine AllOps.cons (fun x u hC hT hp K hK => ?_) ?_
              · simp [KnownTill, Region.binds, VBb] at hp
                clear hT
                go_simp
                obtain ⟨⟨cs9, hk9⟩, hw9, _⟩ : PstB P vs nx q m g wb A A' c c' S4 u := by first | with_reducible exact hp.2.2.2 | with_reducible exact hp.2.2 | with_reducible exact hp.1.2 | with_reducible exact hp.2.1.2
                have hbz := resbusy_any g cs9 S4 307 n u hk9 HI.out.1
                rw [HS4.out.2.2.2] at hbz
                refine hbz.mono ?_
                rintro e wA ⟨rfl, hbA⟩
                refine hK _ _ _ (bt hC hbA) (EB.no (by decide) hbA) (by exact rfl) ?_
                first | (simp only [Act.put, List.setIfInBounds_toArray, List.set_cons_succ, List.set_cons_zero, hp]; done) | simp [Act.put, hp]
              refine AllOps.cons (fun x u hC hT hp K hK => ?_) ?_
              · simp [KnownTill, Region.binds, VBb] at hp
                clear hT
                go_simp
                refine hK _ _ _ hC (EB.no (by decide) (Below.refl _ _)) (by exact rfl) ?_
                first | (simp only [Act.put, List.setIfInBounds_toArray, List.set_cons_succ, List.set_cons_zero, hp]; done) | simp [Act.put, hp]
              refine AllOps.cons (fun x u hC hT hp K hK => ?_) ?_
              · simp [KnownTill, Region.binds, VBb] at hp
                clear hT
                go_simp
                refine hK _ _ _ hC (EB.no (by decide) (Below.refl _ _)) (by exact rfl) ?_
                first | (simp only [Act.put, List.setIfInBounds_toArray, List.set_cons_succ, List.set_cons_zero, hp]; done) | simp [Act.put, hp]
              refine AllOps.cons (fun x u hC hT hp K hK => ?_) ?_
              · simp [KnownTill, Region.binds, VBb] at hp
                clear hT
                go_simp
                refine hK _ _ _ hC (EB.no (by decide) (Below.refl _ _)) (by exact rfl) ?_
                first | (simp only [Act.put, List.setIfInBounds_toArray, List.set_cons_succ, List.set_cons_zero, hp]; done) | simp [Act.put, hp]
              refine AllOps.cons (fun x u hC hT hp K hK => ?_) ?_
              · simp [KnownTill, Region.binds, VBb] at hp
                clear hT
                go_simp
                refine (alive_any u).mono ?_
                rintro e wA ⟨rfl, hbA⟩
                refine hK _ _ _ (bt hC hbA) (EB.no (by decide) hbA) (by exact rfl) ?_
                first | (simp only [Act.put, List.setIfInBounds_toArray, List.set_cons_succ, List.set_cons_zero, hp]; done) | simp [Act.put, hp]
              refine AllOps.cons (fun x u hC hT hp K hK => ?_) ?_
              · simp [KnownTill, Region.binds, VBb] at hp
                clear hT
                go_simp
                refine hK _ _ _ hC (EB.no (by decide) (Below.refl _ _)) (by exact rfl) ?_
                first | (simp only [Act.put, List.setIfInBounds_toArray, List.set_cons_succ, List.set_cons_zero, hp]; done) | simp [Act.put, hp]
              refine AllOps.cons (fun x u hC hT hp K hK => ?_) ?_
              · simp [KnownTill, Region.binds, VBb] at hp
                clear hT
                go_simp
                refine hK _ _ _ hC (EB.no (by decide) (Below.refl _ _)) (by exact rfl) ?_
                first | (simp only [Act.put, List.setIfInBounds_toArray, List.set_cons_succ, List.set_cons_zero, hp]; done) | simp [Act.put, hp]
              exact AllOps.nil
            case finB =>
              intro x u hC hV
              have e10 : x 21 = .bool true := hV 21 (by decide) rfl
              rw [e10]
              clear e10
              clear hV
              have HF := Lib.hid (show Below w.heap.size w u from hC)
              clear hC HS4 HBk H8
              go_wp2
              go_ret
              exact ⟨rfl, HF.out⟩
          · have hn1 := H4.out.2.2.1.n1
            have hlq : (Qu.lookQ S.Q.ws n).isSome = false := by
              have := Hbz.out
              unfold busyR at this
              simp at this
              simp [this.2]
            have hcm := H4.out.2.2.1.commit (kept_fresh HR.out.qr hn1 hlq)
            have HCm := Lib.hid (rescommit_any g cs7 S3 305 n w8 H8.out.1 H4.out.2.2.2.2.1 (by omega) HI.out.1)
            rw [hcm.1] at HCm
            obtain ⟨S4, hS4⟩ : ∃ S4, S4 = (commitR S3 n).2 := ⟨_, rfl⟩
            rw [← hS4] at HCm hcm
            have HS4 := Lib.hid hcm
            clear hcm hS4 hlq hn1
            go_wp2_with fail
            refine HCm.out.mono ?_
            rintro e w9 ⟨rfl, ⟨⟨cs9, hk9⟩, hg9⟩⟩
            have k9 := Re.Blk.off H8.out.2.1 hg9 H6.out.2.2.2
            have b9 := H8.out.2.2.2.grown hg9 H8.out.2.2.2.size (fun r e => by cases e; exact HGw.out)
            have HIm0 := Lib.hid (image_img g cs9 S4 307 w9 hk9)
            obtain ⟨n4, hn4⟩ : ∃ n4, n4 = S4.Q.g + 1 := ⟨_, rfl⟩
            rw [← hn4] at HIm0
            clear hn4
            have H9 := Lib.hid (And.intro hk9 (And.intro k9 b9))
            clear hk9 hg9 k9 b9 HCm H8
            go_wp2_with fail
            refine HIm0.out.mono ?_
            rintro e w10 ⟨A2, q2, c2, A2', m2, c2', rfl, HX⟩
            obtain ⟨w11, hw11⟩ : ∃ w11, w11 = w10.alloc (.cells #[.slice A2 q2 c2, .slice A2' m2 c2', .int .i64 n4] 58) := ⟨_, rfl⟩
            obtain ⟨nb, hnb⟩ : ∃ nb, nb = w10.heap.size := ⟨_, rfl⟩
            have b11 : Below w10.heap.size w10 w11 := by rw [hw11]; exact ba _ _
            have k11 : Blk w11 nb 58 #[.slice A2 q2 c2, .slice A2' m2 c2', .int .i64 n4] := by rw [hw11, hnb]; exact Blk.new _ _ _
            have hi11 := HX.out.1.below b11
            have b911 := bt HX.out.2 b11
            have hmm : m2 = m + 1 := by
              have h1 := hi11.q'
              rw [List.length_map, HS4.out.2.2.1, List.length_append, List.length_singleton] at h1
              have h2 := HLn.out.out.2.1
              rw [H4.out.2.2.2.2.2.2.2.1, List.length_map, H4.out.2.2.1.v2.2.1] at h2
              omega
            subst hmm
            have hm1 : m ≤ 1000 := HLn.out.out.2.2.2
            have hq2 : q2 ≤ 1000 := by have := imP_len S4.K 16; have := hi11.q; omega
            obtain ⟨bi, oi, hAi, hbi, hci⟩ := hi11.uin (by rw [← hi11.q']; omega)
            have hlast := hci m (by rw [← hi11.q']; omega)
            have hval : (S4.Q.I.map Qu.IT.v)[m]'(by rw [← hi11.q']; omega) = v := by
              have h2 := HLn.out.out.2.1
              rw [H4.out.2.2.2.2.2.2.2.1, List.length_map, H4.out.2.2.1.v2.2.1] at h2
              simp only [HS4.out.2.2.1, List.map_append, List.map_cons, List.map_nil]
              rw [List.getElem_append_right (by rw [List.length_map]; omega)]
              simp
            rw [hval] at hlast
            have H11 := Lib.hid (And.intro k11 (And.intro hi11.pin (And.intro hi11.q (And.intro (H9.out.2.1.below b911 H9.out.2.1.lt) (And.intro (bt H9.out.2.2 b911) (And.intro hbi (And.intro hlast (H9.out.1.below b911))))))))
            have HW11 := Lib.hid (And.intro hw11 hnb)
            have HAi := Lib.hid hAi
            clear b11 k11 hi11 b911 hbi hci hlast hval hw11 hnb hAi HX HIm0 H9
            go_wp2_with fail
            rw [← HW11.out.1, ← HW11.out.2]
            go_loopw [16, 17] (fun tv iv wr => ∃ (i : Nat) (th : Bool), i ≤ q2 ∧ tv = .bool th ∧ iv = .int .i64 i ∧ Hid (th = true ↔ (y, v) ∈ (imP S4.K 16).take i) ∧ w11 = wr) (fun _ iv _ => q2 - (intOf iv).toNat)
            case atStart => exact ⟨0, false, Nat.zero_le _, rfl, rfl, Lib.hid (by simp), rfl⟩
            case round =>
              obtain ⟨i, th, hi, rfl, rfl, hth, rfl⟩ := hrel
              have d0 := H11.out.1.cell 0
              have d1 := H11.out.1.cell 1
              simp only [List.getElem?_toArray, List.getElem?_cons_zero, List.getElem?_cons_succ] at d0 d1
              by_cases hiq : i < q2
              · have hiI : (i : Int) < (q2 : Int) := by omega
                have hiL : i < (imP S4.K 16).length := by rw [← H11.out.2.2.1]; exact hiq
                have htk : (imP S4.K 16).take (i + 1) = (imP S4.K 16).take i ++ [(imP S4.K 16)[i]'hiL] := by rw [List.take_add_one, List.getElem?_eq_getElem hiL]; rfl
                rcases th with _ | _
                · obtain ⟨b, o, hA, _, hcs⟩ := H11.out.2.1 (by omega)
                  subst hA
                  obtain ⟨s0, s1⟩ := hcs i hiL
                  generalize hpp : (imP S4.K 16)[i]'hiL = pp at s0 s1 htk
                  obtain ⟨pk, pv⟩ := pp
                  dsimp only at s0 s1
                  have Htk := Lib.hid htk
                  clear htk hcs hpp
                  by_cases hk : pk = y
                  · subst hk
                    by_cases hv : pv = v
                    · subst hv
                      have HN : Hid (true = true ↔ (pk, pv) ∈ (imP S4.K 16).take (i + 1)) := Lib.hid (by rw [Htk.out]; simp)
                      clear hth Htk
                      go_wp2
                      go_roundw
                      case rel => exact ⟨i + 1, true, by omega, by first | rfl | simp, by go_num, HN, trivial⟩
                      case measure => simp [intOf]; omega
                    · have hvI : ¬ ((pv : Nat) : Int) = (v : Int) := by omega
                      have HN : Hid (false = true ↔ (pk, v) ∈ (imP S4.K 16).take (i + 1)) := Lib.hid (by
                        rw [Htk.out, List.mem_append, ← hth.out]
                        simp
                        omega)
                      clear hth Htk
                      go_wp2
                      go_roundw
                      case rel => exact ⟨i + 1, false, by omega, by first | rfl | simp [hv, hvI], by go_num, HN, trivial⟩
                      case measure => simp [intOf]; omega
                  · have HN : Hid (false = true ↔ (y, v) ∈ (imP S4.K 16).take (i + 1)) := Lib.hid (by
                      rw [Htk.out, List.mem_append, ← hth.out]
                      simp
                      intro e
                      exact absurd e.symm hk)
                    clear hth Htk
                    go_wp2
                    go_roundw
                    case rel => exact ⟨i + 1, false, by omega, by first | rfl | simp [hk], by go_num, HN, trivial⟩
                    case measure => simp [intOf]; omega
                · have HN : Hid (true = true ↔ (y, v) ∈ (imP S4.K 16).take (i + 1)) := Lib.hid (by
                    rw [htk, List.mem_append]
                    exact ⟨fun h => .inl (hth.out.1 h), fun _ => rfl⟩)
                  clear hth htk
                  go_wp2
                  go_roundw
                  case rel => exact ⟨i + 1, true, by omega, by first | rfl | simp, by go_num, HN, trivial⟩
                  case measure => simp [intOf]; omega
              · obtain rfl : i = q2 := by omega
                have hiI : ¬ (i : Int) < (i : Int) := by omega
                have hmem : th = true := hth.out.2 (by rw [List.take_of_length_le (by rw [← H11.out.2.2.1]; exact Nat.le_refl _)]; exact HS4.out.2.1)
                subst hmem
                clear hth
                go_wp2_with fail
                refine (alive_any w11).mono ?_
                rintro e w12 ⟨rfl, b12⟩
                have k12 := H11.out.1.below b12 H11.out.1.lt
                have d1 := k12.cell 1
                have kw := H11.out.2.2.2.1.below b12 H11.out.2.2.2.1.lt
                have f1 := kw.cell 1
                simp only [List.getElem?_toArray, List.getElem?_cons_zero, List.getElem?_cons_succ] at d1 f1
                have t1 := (b12.cell (p := ⟨bi, oi + m, none⟩) H11.out.2.2.2.2.2.1).trans H11.out.2.2.2.2.2.2.1
                have hA2 := HAi.out
                subst hA2
                have g1 : IntKind.i64.wrap ((m : Int) + 1) = (m : Int) + 1 := IntWalk.i64_in _ (by omega)
                have g2 : IntKind.i64.wrap ((m : Int) + 1 - 1) = (m : Int) := by rw [IntWalk.i64_in _ (by omega)]; omega
                have hbz := resbusy_any g cs9 S4 307 n w12 (H11.out.2.2.2.2.2.2.2.below b12) HI.out.1
                rw [HS4.out.2.2.2] at hbz
                have HBy := Lib.hid hbz
                have HB12 := Lib.hid (bt H11.out.2.2.2.2.1 b12)
                clear b12 k12 kw hbz d0
                go_wp2_with fail
                refine HBy.out.mono ?_
                rintro e w13 ⟨rfl, b13⟩
                have HF := Lib.hid (bt HB12.out b13)
                clear b13
                go_wp2
                go_ret
                exact ⟨rfl, HF.out⟩
      · go_wp2_with fail
        refine HPu.out.mono ?_
        rintro e w4 ⟨rfl, ⟨⟨cs4, hk4⟩, hg4⟩⟩
        have HBe := Lib.hid (HB3.out.grown hg4 HB3.out.size (fun r e => by cases e; exact HGw.out))
        clear hk4 hg4
        go_wp2_with fail
        refine (alive_any _).mono ?_
        rintro e wz ⟨rfl, hbz⟩
        have hBz := Lib.hid (bt HBe.out hbz)
        clear hbz
        go_wp2
        go_ret
        exact ⟨rfl, hBz.out⟩
    · go_wp2_with fail
      refine HPt.out.mono ?_
      rintro e w3 ⟨rfl, ⟨⟨cs3, hk3⟩, hg3⟩⟩
      have HBe := Lib.hid (HB2.out.grown hg3 HB2.out.size (fun r e => by cases e; exact HGw.out))
      clear hk3 hg3
      go_wp2_with fail
      refine (alive_any _).mono ?_
      rintro e wz ⟨rfl, hbz⟩
      have hBz := Lib.hid (bt HBe.out hbz)
      clear hbz
      go_wp2
      go_ret
      exact ⟨rfl, hBz.out⟩
  · go_wp2_with fail
    refine HBz.out.mono ?_
    rintro e w2 ⟨rfl, hb2⟩
    have HBe := Lib.hid (bt H1.out.2.2.2 hb2)
    clear hb2
    go_wp2_with fail
    refine (alive_any _).mono ?_
    rintro e wz ⟨rfl, hbz⟩
    have hBz := Lib.hid (bt HBe.out hbz)
    clear hbz
    go_wp2
    go_ret
    exact ⟨rfl, hBz.out⟩
end Go.Proofs.YtlliaihmfimdoaaGreat.Re

namespace Go.Proofs.YtlliaihmfimdoaaGreat.Re
open Go.RowKit Go.ChangeShapes Go.WideShapes Go.Joins Go.Deep Go.Proofs.YtlliaihmfimdoaaGreat
set_option linter.unusedVariables false
set_option linter.unusedSimpArgs false
def ChB (x : Ch) : Prop := i64ok x.k ∧ i64ok x.y ∧ x.v < 18446744073709551616
def CapV (o : OpV) : Prop := CapOk o ∧ ∀ x ∈ o.l, ChB x
section
variable {H : Type} {enc : TypeId × Value → H} {W : World}
set_option maxRecDepth 1000000 in
theorem ch_trodV {fuel : Nat} {v : Value} {y : DataW H × List MemPlace} (hf : DataW.trod enc Tryz.prog W 0 (fun _ => true) true fuel 40 [v] = some y) :
    ∃ A ops c, v = .slice A (List.length ops) c ∧ InLs W A ops ∧ ∀ x ∈ ops, ChB x := by
  have hC : Tryz.prog.cellsOf 74 = 3 := by kernel_rfl
  rcases open_slice Tryz.underlying40 hf with ⟨hcs, _⟩ | ⟨x, len, cap, m, n, D, Pl, hcs, _, hl, hm, hmm, _, hi⟩
  · simp at hcs
    subst hcs
    exact ⟨none, [], 0, rfl, ⟨by simp [maxLen], fun h => absurd h (by simp)⟩, by simp⟩
  · simp at hcs
    subst hcs
    simp only [if_true] at hmm
    subst hmm
    have each : ∀ i, i < m → ∃ o : Ch, ChB o ∧ W.cell? (x.add (i * 3)) = some (.int .i64 o.k) ∧ W.cell? ((x.add (i * 3)).add 1) = some (.int .i64 o.y) ∧ W.cell? ((x.add (i * 3)).add 2) = some (.int .u64 (o.v : Nat)) := by
      intro i him
      obtain ⟨cs', hc, ht⟩ := hi i him
      rw [hC] at hc
      obtain ⟨_, hcl, hat⟩ := World.cells?_some hc
      obtain ⟨xs, n', _, _, _, hxl, hf'⟩ := DataW.trod_struct Tryz.underlying74 ht
      match cs', hcl with
      | [c0, c1, c2], _ =>
        match xs, hxl with
        | [y0, y1, y2], _ =>
          have g0 := hf' 0 _ rfl
          have g1 := hf' 1 _ rfl
          have g2 := hf' 2 _ rfl
          have e_0 : Tryz.prog.cellsOf 3 = 1 := by kernel_rfl
          have e_1 : Tryz.prog.cellsOf 39 = 1 := by kernel_rfl
          simp [e_0, e_1] at g0 g1 g2
          obtain ⟨z0, rfl, b0, d0⟩ := i64_trodB Tryz.underlying3 g0
          obtain ⟨z1, rfl, b1, d1⟩ := i64_trodB Tryz.underlying3 g1
          obtain ⟨z2, rfl, b2⟩ := u64_trodB Tryz.underlying39 g2
          have a0 := hat 0 (by omega)
          have a1 := hat 1 (by omega)
          have a2 := hat 2 (by omega)
          have ez : (x.add (i * 3)).add 0 = x.add (i * 3) := by simp [Addr.add]
          rw [ez] at a0
          exact ⟨⟨z0, z1, z2⟩, ⟨⟨b0, d0⟩, ⟨b1, d1⟩, b2⟩, a0, a1, a2⟩
    let f : Nat → Ch := fun i => if h : i < m then (each i h).choose else ⟨0, 0, 0⟩
    have hf1 : ∀ i, (h : i < m) → ChB (f i) ∧ W.cell? (x.add (i * 3)) = some (.int .i64 (f i).k) ∧ W.cell? ((x.add (i * 3)).add 1) = some (.int .i64 (f i).y) ∧ W.cell? ((x.add (i * 3)).add 2) = some (.int .u64 ((f i).v : Nat)) := by
      intro i h
      have := (each i h).choose_spec
      simp only [f, dif_pos h]
      exact this
    refine ⟨some x, (List.range len).map f, _, by simp; rfl, ⟨by simp; omega, fun hpos => ?_⟩, fun o ho => ?_⟩
    · have hpos' : 0 < len := by simpa using hpos
      have h00 := (hf1 0 (by omega)).2.1
      have ez : x.add (0 * 3) = x := by simp [Addr.add]
      rw [ez] at h00
      obtain ⟨b, o, rfl, hlt⟩ := add_spotB h00
      refine ⟨b, o, rfl, hlt, fun i hi' => ?_⟩
      have hi2 : i < len := by simpa using hi'
      have := (hf1 i (by omega)).2
      simp only [Addr.add_lit] at this
      simpa using this
    · obtain ⟨i, hi', rfl⟩ := List.mem_map.1 ho
      exact (hf1 i (by have := List.mem_range.1 hi'; omega)).1
set_option maxRecDepth 1000000 in
theorem open_chsV {r : Reach} {b0 : Nat} {v : Value} {d : DataW H} {p : List MemPlace} (hval : Value.okWide Tryz.prog W r b0 40 v) (h : DataW.Trod enc Tryz.prog W 0 (fun _ => true) true 40 v d p) :
    ∃ A ops c, v = .slice A (List.length ops) c ∧ InLs W A ops ∧ ∀ x ∈ ops, ChB x := by
  obtain ⟨a, len, cap, rfl⟩ := okWide_slice Tryz.underlying40 hval
  obtain ⟨fuel, hf⟩ := h
  exact ch_trodV hf
end
section
variable {H : Type} {enc : TypeId × Value → H} {W : World}
set_option maxRecDepth 1000000 in
theorem ops_trodV {fuel : Nat} {v : Value} {y : DataW H × List MemPlace} (hf : DataW.trod enc Tryz.prog W 0 (fun _ => true) true fuel 22 [v] = some y) :
    ∃ A ops c, v = .slice A (List.length ops) c ∧ OpsAt W A ops ∧ ∀ o ∈ ops, CapV o := by
  have hC : Tryz.prog.cellsOf 42 = 5 := by kernel_rfl
  rcases open_slice Tryz.underlying22 hf with ⟨hcs, _⟩ | ⟨x, len, cap, m, n, D, Pl, hcs, _, hl, hm, hmm, _, hi⟩
  · simp at hcs
    subst hcs
    exact ⟨none, [], 0, rfl, ⟨by simp [maxLen], by simp, fun h => absurd h (by simp)⟩, by simp⟩
  · simp at hcs
    subst hcs
    simp only [if_true] at hmm
    subst hmm
    have each : ∀ i, i < m → ∃ o : OpV, (OpIn W o ∧ CapV o) ∧ W.cell? (x.add (i * 5)) = some (.int .i64 o.k) ∧ W.cell? ((x.add (i * 5)).add 1) = some (.int .i64 o.n) ∧ W.cell? ((x.add (i * 5)).add 2) = some (.int .i64 o.y) ∧ W.cell? ((x.add (i * 5)).add 3) = some (.int .u64 (o.v : Nat)) ∧ W.cell? ((x.add (i * 5)).add 4) = some (.slice o.A o.l.length o.c) := by
      intro i him
      obtain ⟨cs', hc, ht⟩ := hi i him
      rw [hC] at hc
      obtain ⟨_, hcl, hat⟩ := World.cells?_some hc
      obtain ⟨xs, n', _, _, _, hxl, hf'⟩ := DataW.trod_struct Tryz.underlying42 ht
      match cs', hcl with
      | [c0, c1, c2, c3, c4], _ =>
        match xs, hxl with
        | [y0, y1, y2, y3, y4], _ =>
          have g0 := hf' 0 _ rfl
          have g1 := hf' 1 _ rfl
          have g2 := hf' 2 _ rfl
          have g3 := hf' 3 _ rfl
          have g4 := hf' 4 _ rfl
          have e_0 : Tryz.prog.cellsOf 3 = 1 := by kernel_rfl
          have e_1 : Tryz.prog.cellsOf 39 = 1 := by kernel_rfl
          have e_2 : Tryz.prog.cellsOf 40 = 1 := by kernel_rfl
          simp [e_0, e_1, e_2] at g0 g1 g2 g3 g4
          obtain ⟨z0, rfl, b0, d0⟩ := i64_trodB Tryz.underlying3 g0
          obtain ⟨z1, rfl, b1, d1⟩ := i64_trodB Tryz.underlying3 g1
          obtain ⟨z2, rfl, b2, d2⟩ := i64_trodB Tryz.underlying3 g2
          obtain ⟨z3, rfl, b3⟩ := u64_trodB Tryz.underlying39 g3
          obtain ⟨A4, l4, c4', rfl, b4, v4⟩ := ch_trodV g4
          have cp := slice_cap Tryz.underlying40 g4
          have a0 := hat 0 (by omega)
          have a1 := hat 1 (by omega)
          have a2 := hat 2 (by omega)
          have a3 := hat 3 (by omega)
          have a4 := hat 4 (by omega)
          have ez : (x.add (i * 5)).add 0 = x.add (i * 5) := by simp [Addr.add]
          rw [ez] at a0
          exact ⟨⟨z0, z1, z2, z3, A4, l4, c4'⟩, ⟨⟨⟨⟨b1, d1⟩, ⟨b2, d2⟩, b3⟩, b4.1, b4.2⟩, cp, v4⟩, a0, a1, a2, a3, a4⟩
    let f : Nat → OpV := fun i => if h : i < m then (each i h).choose else ⟨0, 0, 0, 0, none, [], 0⟩
    have hf1 : ∀ i, (h : i < m) → (OpIn W (f i) ∧ CapV (f i)) ∧ W.cell? (x.add (i * 5)) = some (.int .i64 (f i).k) ∧ W.cell? ((x.add (i * 5)).add 1) = some (.int .i64 (f i).n) ∧ W.cell? ((x.add (i * 5)).add 2) = some (.int .i64 (f i).y) ∧ W.cell? ((x.add (i * 5)).add 3) = some (.int .u64 ((f i).v : Nat)) ∧ W.cell? ((x.add (i * 5)).add 4) = some (.slice (f i).A (f i).l.length (f i).c) := by
      intro i h
      have := (each i h).choose_spec
      simp only [f, dif_pos h]
      exact this
    refine ⟨some x, (List.range len).map f, _, by simp; rfl, ⟨by simp; omega, fun o ho => ?_, fun hpos => ?_⟩, fun o ho => ?_⟩
    · obtain ⟨i, hi', rfl⟩ := List.mem_map.1 ho
      exact (hf1 i (by have := List.mem_range.1 hi'; omega)).1.1
    · have hpos' : 0 < len := by simpa using hpos
      have h00 := (hf1 0 (by omega)).2.1
      have ez : x.add (0 * 5) = x := by simp [Addr.add]
      rw [ez] at h00
      obtain ⟨b, o, rfl, hlt⟩ := add_spotB h00
      refine ⟨b, o, rfl, hlt, fun i hi' => ?_⟩
      have hi2 : i < len := by simpa using hi'
      have := (hf1 i (by omega)).2
      simp only [Addr.add_lit] at this
      simpa using this
    · obtain ⟨i, hi', rfl⟩ := List.mem_map.1 ho
      exact (hf1 i (by have := List.mem_range.1 hi'; omega)).1.2
end
section
variable {H : Type} {enc : TypeId × Value → H} {W : World}
set_option maxRecDepth 1000000 in
theorem open_opsV {r : Reach} {b0 : Nat} {v : Value} {d : DataW H} {p : List MemPlace} (hval : Value.okWide Tryz.prog W r b0 22 v) (h : DataW.Trod enc Tryz.prog W 0 (fun _ => true) true 22 v d p) :
    ∃ A ops c, v = .slice A (List.length ops) c ∧ OpsAt W A ops ∧ ∀ o ∈ ops, CapV o := by
  obtain ⟨a, len, cap, rfl⟩ := okWide_slice Tryz.underlying22 hval
  obtain ⟨fuel, hf⟩ := h
  exact ops_trodV hf
end
end Go.Proofs.YtlliaihmfimdoaaGreat.Re
