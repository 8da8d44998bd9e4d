/- Parts Ty Tz T1 T2 of one proof. -/
import Derived.Test.YtlliaihmfimdoaaGreatMg27
import Derived.Test.YtlliaihmfimdoaaGreatMg40
import Derived.Test.YtlliaihmfimdoaaGreatMg38
namespace Go.Proofs.YtlliaihmfimdoaaGreat.Re
open Go.RowKit Go.Maps Go.Joins Go.Deep Go.Proofs.YtlliaihmfimdoaaGreat
set_option linter.unusedVariables false
set_option linter.unusedSimpArgs false

set_option maxRecDepth 100000 in
set_option maxHeartbeats 1000000 in
theorem samein_any (A A' : Option Addr) (l : List Ch) (n c c' : Nat) (w : World) (hn : Hid (n = l.length)) (hm : n ≤ 1000000) (h : InL w A l) (h' : InL w A' l) :
    Calls Tryz.prog 24 #[.slice A n c, .slice A' n c'] w fun e w' => e = .returned (.bool true) ∧ Below w.heap.size w w' := by
  have HI : Hid (Below w.heap.size w w ∧ InL w A l ∧ InL w A' l) := Lib.hid ⟨Below.refl _ _, h, h'⟩
  clear h h'
  have hnn : ((n : Int) != (n : Int)) = false := by simp
  go_enter Tryz.func24, Tryz.ntmps24
  go_wp2_with fail
  go_loopw [5] (fun i wr => ∃ (i0 : Nat), i0 ≤ n ∧ i = .int .i64 i0 ∧ Hid (Below w.heap.size w wr ∧ InL wr A l ∧ InL wr A' l)) (fun i _ => n - (intOf i).toNat)
  case atStart => exact ⟨0, Nat.zero_le _, rfl, HI⟩
  case round =>
    clear HI
    obtain ⟨j, hj, rfl, HW⟩ := hrel
    by_cases hjn : j < n
    · have hjI : (j : Int) < (n : Int) := by omega
      obtain ⟨hb, hc, hc'⟩ := HW.out
      have hjl : j < l.length := by rw [← hn.out]; exact hjn
      obtain ⟨b, o, rfl, hbk, hcs⟩ := hc (by omega)
      obtain ⟨b', o', rfl, hbk', hcs'⟩ := hc' (by omega)
      obtain ⟨q0, q1, q2⟩ := hcs j hjl
      obtain ⟨p0, p1, p2⟩ := hcs' j hjl
      generalize l[j]'hjl = x at q0 q1 q2 p0 p1 p2
      obtain ⟨xk, xy, xv⟩ := x
      dsimp only at q0 q1 q2 p0 p1 p2
      have e0 := fun m : Nat => Qu.cell_drew' q0 m
      have e1 := fun m : Nat => Qu.cell_drew' q1 m
      have e2 := fun m : Nat => Qu.cell_drew' q2 m
      have d0 := fun m : Nat => Qu.cell_drew' p0 m
      have d1 := fun m : Nat => Qu.cell_drew' p1 m
      have d2 := fun m : Nat => Qu.cell_drew' p2 m
      have hdr : ∀ m : Nat, Below wr.heap.size wr (wr.drewN m) := fun m => ⟨rfl, rfl, rfl, Nat.le_refl _, fun _ _ => rfl⟩
      have HX : Hid (∀ m : Nat, Below w.heap.size w (wr.drewN m) ∧ InL (wr.drewN m) (some ⟨b, o, none⟩) l ∧ InL (wr.drewN m) (some ⟨b', o', none⟩) l) := Lib.hid fun m => ⟨bt hb (hdr m), hc.below (hdr m), hc'.below (hdr m)⟩
      clear hb hc hc' hbk hbk' hcs hcs' hjl q0 q1 q2 p0 p1 p2 HW hdr
      go_wp2_with fail
      go_quiet (fail)
      have HX2 := Lib.hid (HX.out nq)
      clear e0 e1 e2 d0 d1 d2 HX
      go_wp2
      go_roundw
      case rel => exact ⟨j + 1, by omega, by go_num, HX2⟩
      case measure => simp [intOf]; omega
    · have hjI : ¬ (j : Int) < (n : Int) := by omega
      have hF := Lib.hid HW.out.1
      clear HW
      go_wp2
      go_ret
      exact ⟨rfl, hF.out⟩
theorem write_zero {l : List Ch} (h : (writeC l).2 = 0) : l.length ≤ 48 ∧ (∀ x ∈ l, badC x = false) ∧ writeC l = (bytesC l, 0) := by
  unfold writeC at h ⊢
  by_cases h1 : 48 < l.length
  · rw [if_pos h1] at h; exact absurd (show (2 : Int) = 0 from h) (by decide)
  · rw [if_neg h1] at h ⊢
    by_cases h2 : l.any badC = true
    · rw [if_pos h2] at h; exact absurd (show (30 : Int) = 0 from h) (by decide)
    · rw [if_neg h2]
      refine ⟨by omega, fun x hx => ?_, rfl⟩
      rcases hb : badC x with _ | _
      · rfl
      · exact absurd (List.any_eq_true.2 ⟨x, hx, hb⟩) h2
theorem own_caps {w : World} {B c : Nat} {t : TypeId} {A : Option Addr} {l : List UInt8} (h : Own w B t A c l) : l.length ≤ c ∧ c ≤ 9223372036854775807 := by
  rcases h.2 with ⟨h1, h2⟩ | ⟨g, cap, cur, h1, hb, hg, hn, hm, _⟩
  · injection h1 with e1 e2 e3
    omega
  · injection h1 with e1 e2 e3
    subst e3
    unfold maxLen at hm
    exact ⟨hn, hm⟩
def VBk (P : Prs) (vs : List Nat) (nx : Int) (q m g wb : Nat) (A A' : Option Addr) (c c' : Nat) (i : Nat) (v : Value) (w : World) : Prop :=
  match i with
  | 0 => v = .bool true
  | 1 => v = .bool true
  | 2 => v = .int .i64 0
  | 3 => v = .bool true
  | 4 => v = .bool true
  | 5 => v = .bool true
  | 6 => v = .pointer (some ⟨g, 0, none⟩)
  | 7 => IsIm P vs nx q m v w
  | 8 => IsIm P vs nx q m v w
  | 9 => v = .agg #[.slice A q c, .slice A' m c', .int .i64 nx]
  | 10 => IsIm P vs nx q m v w
  | 11 => v = .bool true
  | 12 => v = .bool true
  | 13 => v = .bool true
  | _ => True
theorem VBk.mono {P : Prs} {vs : List Nat} {nx : Int} {q m g wb : Nat} {A A' : Option Addr} {c c' : Nat} {q i : Nat} {v : Value} {u u' : World} (he : Below u.heap.size u u') (h : VBk P vs nx q m g wb A A' c c' i v u) : VBk P vs nx q m g wb A A' c c' i v u' := by
  unfold VBk at h ⊢
  split at h <;> first | with_reducible exact h | exact IsIm.below h he

set_option maxRecDepth 100000 in
set_option maxHeartbeats 8000000 in
theorem resBack_main (A : Option Addr) (l : List Ch) (c : Nat) (A0 : Option Addr) (ops : List OpV) (c0 : Nat) (w : World) (h : InLs w A l) (hb : ∀ x ∈ l, ChB x) (ho : OpsAt w A0 ops) (hcp : ∀ o ∈ ops, CapOk o) :
    Calls Tryz.prog 6 #[.slice A l.length c, .slice A0 ops.length c0] w fun e w' => e = .returned (.bool true) ∧ Below w.heap.size w w' := by
  have HOp := Lib.hid (And.intro ho hcp)
  have HL := Lib.hid h.2
  have HB := Lib.hid hb
  have hnl : (l.length : Int) ≤ 9223372036854775807 := by have := h.1; unfold maxLen at this; omega
  obtain ⟨n, hn⟩ : ∃ n, n = l.length := ⟨_, rfl⟩
  obtain ⟨m0, hm0⟩ : ∃ m0, m0 = ops.length := ⟨_, rfl⟩
  rw [← hn] at hnl
  rw [← hn, ← hm0]
  have HN := Lib.hid hn
  have HM0 := Lib.hid hm0
  clear h hb ho hcp hn hm0
  by_cases h200 : 200 < n
  · have h200I : (200 : Int) < (n : Int) := by omega
    have HBe := Lib.hid (Below.refl w.heap.size w)
    go_enter Tryz.func6, Tryz.ntmps6
    go_wp2_with fail
    refine (alive_any _).mono ?_
    rintro e wz ⟨rfl, hbz⟩
    have hBz := Lib.hid (bt HBe.out hbz)
    clear hbz
    go_wp2
    go_ret
    exact ⟨rfl, hBz.out⟩
  · have h200I : ¬ (200 : Int) < (n : Int) := by omega
    have HW := Lib.hid (write_any A l n c (Lib.hid HN.out) (by omega) w HL.out (fun x hx => ⟨(HB.out x hx).2.2, (HB.out x hx).2.1.2⟩))
    have hwz := write_zero (l := l)
    obtain ⟨R, hR⟩ : ∃ R, R = writeC l := ⟨_, rfl⟩
    rw [← hR] at HW hwz
    have HWz := Lib.hid hwz
    clear hR hwz
    obtain ⟨Rb, e0⟩ := R
    go_enter Tryz.func6, Tryz.ntmps6
    go_wp2_with fail
    refine HW.out.mono ?_
    rintro e w1 ⟨A2, q2, c2, rfl, HX⟩
    dsimp only at HX ⊢
    by_cases he : e0 = 0
    · subst he
      obtain ⟨h48, hnb, hRb⟩ := HWz.out rfl
      have hRb := (Prod.mk.inj hRb).1
      subst hRb
      have hcc := own_caps HX.out.2.1
      have hrb := read_back h48 (fun x hx => ⟨hnb x hx, (HB.out x hx).2.1.2, (HB.out x hx).2.2⟩)
      have hrd := read_any A2 (bytesC l) q2 c2 w1 (Lib.hid HX.out.1) (Lib.hid (by rw [HX.out.1]; exact hcc.1)) (Lib.hid hcc.2) HX.out.2.1.bs
      have HB1 := Lib.hid HX.out.2.2
      rw [hrb] at hrd
      clear hcc hrb hnb h48 HX HWz
      rcases hbig : l.any bigY with _ | _
      · rw [hbig, if_neg (by simp)] at hrd
        have HRd := Lib.hid hrd
        have HBig := Lib.hid hbig
        clear hrd hbig
        go_wp2_with fail
        refine HRd.out.mono ?_
        rintro e w2 ⟨A3, q3, c3, rfl, HX3⟩
        dsimp only at HX3 ⊢
        have hq3 : q3 = n := by rw [HX3.out.1, HN.out]
        subst hq3
        have H2 := Lib.hid (bt HB1.out HX3.out.2.2)
        clear HRd
        go_wp2_with fail
        go_loopw [9] (fun iv wr => ∃ j : Nat, j ≤ q3 ∧ iv = .int .i64 j ∧ w2 = wr) (fun iv _ => q3 - (intOf iv).toNat)
        case atStart => exact ⟨0, Nat.zero_le _, rfl, rfl⟩
        case round =>
          obtain ⟨j, hj, rfl, rfl⟩ := hrel
          by_cases hjn : j < q3
          · have hjI : (j : Int) < (q3 : Int) := by omega
            have hjl : j < l.length := by rw [← HN.out]; exact hjn
            obtain ⟨b, o, rfl, _, hcs⟩ := (HL.out.below H2.out) (by omega)
            obtain ⟨_, s1, _⟩ := hcs j hjl
            have hnb := HBig.out
            rw [List.any_eq_false] at hnb
            have hy := hnb _ (List.getElem_mem hjl)
            unfold bigY at hy
            have hyI : ¬ 4611686018427387904 < (l[j]'hjl).y := by simpa using hy
            generalize (l[j]'hjl).y = y at s1 hyI
            clear hcs hnb hy
            go_wp2
            go_roundw
            case rel => exact ⟨j + 1, by omega, by go_num, trivial⟩
            case measure => simp [intOf]; omega
          · obtain rfl : j = q3 := by omega
            have hjI : ¬ (j : Int) < (j : Int) := by omega
            have HSm := Lib.hid (samein_any A A3 l j c c3 w2 (Lib.hid HN.out) (by omega) (HL.out.below H2.out) HX3.out.2.1.at_.inl)
            go_wp2_with fail
            refine HSm.out.mono ?_
            rintro e w3 ⟨rfl, hb3⟩
            have HBf := Lib.hid (bt H2.out hb3)
            clear hb3 HSm
            have HPl := Lib.hid (played_any A0 ops m0 c0 w3 (Lib.hid HM0.out) (HOp.out.1.below HBf.out) HOp.out.2)
            obtain ⟨S, hS⟩ : ∃ S, S = playR ops := ⟨_, rfl⟩
            have hRi := RInv.play ops
            rw [← hS] at HPl hRi
            have HRi := Lib.hid hRi
            clear hS hRi
            go_wp2_with fail
            refine HPl.out.mono ?_
            rintro e w4 ⟨⟨g, cs4, rfl, hk4, ⟨hok4, hfr4⟩, hgw⟩, hb4⟩
            have HIm0 := Lib.hid (image_img g cs4 S 300 w4 hk4)
            have himl := imL_of hok4
            have hld := load_back HRi.out.qn hok4
            have hlm := lodR_im (S := S) HRi.out.z
            obtain ⟨P, hP⟩ : ∃ P, P = imP S.K 16 := ⟨_, rfl⟩
            obtain ⟨vs, hvs⟩ : ∃ vs, vs = S.Q.I.map Qu.IT.v := ⟨_, rfl⟩
            obtain ⟨nx, hnx⟩ : ∃ nx, nx = S.Q.g + 1 := ⟨_, rfl⟩
            rw [← hP, ← hvs, ← hnx] at HIm0 hld
            rw [← hP, ← hvs] at himl hlm
            have H4 := Lib.hid (And.intro (bt HBf.out hb4) (And.intro himl (And.intro hld (And.intro hlm hnx))))
            clear hk4 hok4 hfr4 hgw hb4 himl hld hlm hP hvs hnx HPl
            go_wp2_with fail
            refine HIm0.out.mono ?_
            rintro e w5 ⟨A5, q, c5, A5', m, c5', rfl, HX5⟩
            obtain ⟨w6, hw6⟩ : ∃ w6, w6 = w5.alloc (.cells #[.slice A5 q c5, .slice A5' m c5', .int .i64 nx] 58) := ⟨_, rfl⟩
            obtain ⟨wb, hwb⟩ : ∃ wb, wb = w5.heap.size := ⟨_, rfl⟩
            have b6 : Below w5.heap.size w5 w6 := by rw [hw6]; exact ba _ _
            have k6 : Blk w6 wb 58 #[.slice A5 q c5, .slice A5' m c5', .int .i64 nx] := by rw [hw6, hwb]; exact Blk.new _ _ _
            have hi6 := HX5.out.1.below b6
            have hL : ImL P vs q m := by
              have := H4.out.2.1
              rw [← hi6.q, ← hi6.q'] at this
              exact this
            have HLd := Lib.hid (resload_any A5 A5' q c5 m c5' nx P vs w6 (Lib.hid hL.1) (Lib.hid hL.2.1) ⟨hL.2.2.1, hL.2.2.2⟩ hi6.pin hi6.uin)
            have HLn := Lib.hid (Lib.hid hL)
            have p0 := k6.cell 0
            have p1 := k6.cell 1
            have p2 := k6.cell 2
            simp only [List.getElem?_toArray, List.getElem?_cons_zero, List.getElem?_cons_succ] at p0 p1 p2
            rw [hw6, hwb] at p0 p1 p2
            have H6 := Lib.hid (And.intro k6 (And.intro hi6 (bt H4.out.1 (bt HX5.out.2 b6))))
            have HW6 := Lib.hid (And.intro hw6 hwb)
            clear b6 k6 hi6 hL hw6 hwb HIm0 HX5
            go_wp2_with fail
            rw [← HW6.out.1, ← HW6.out.2]
            refine HLd.out.mono ?_
            clear p0 p1 p2
            rintro e w7 ⟨hb7, (⟨h0, _⟩ | ⟨h0, g7, cs7, rfl, hg7, hk7⟩)⟩
            · exact absurd H4.out.2.2.1.1 h0
            · rw [H4.out.2.2.1.2] at hk7
              have k7 := H6.out.1.below hb7 H6.out.1.lt
              have p0 := k7.cell 0
              have p1 := k7.cell 1
              have p2 := k7.cell 2
              simp only [List.getElem?_toArray, List.getElem?_cons_zero, List.getElem?_cons_succ] at p0 p1 p2
              have HBl : Hid (wb < w7.heap.size ∧ w7.cell? ⟨wb, 0, none⟩ = some (.slice A5 q c5) ∧ w7.cell? ⟨wb, 1, none⟩ = some (.slice A5' m c5') ∧ w7.cell? ⟨wb, 2, none⟩ = some (.int .i64 nx)) := Lib.hid ⟨k7.lt, p0, p1, p2⟩
              have hlm := H4.out.2.2.2.1
              have hn7 : (lodR S).Q.g + 1 = nx := by rw [hlm.2.2]; exact H4.out.2.2.2.2.symm
              have HIm : Hid (∀ u, Below w7.heap.size w7 u → Calls Tryz.prog 18 #[.pointer (some ⟨g7, 0, none⟩)] u fun e w' => ∃ v, e = .returned v ∧ IsIm P vs nx q m v w' ∧ Below u.heap.size u w') := Lib.hid fun u hu => image_is g7 cs7 (lodR S) 2000 u (hk7.below hu) hlm.1 hlm.2.1 hn7 HLn.out
              have HWas : Hid (IsIm P vs nx q m (.agg #[.slice A5 q c5, .slice A5' m c5', .int .i64 nx]) w7) := Lib.hid ((H6.out.2.1.below hb7).is nx)
              have H7 := Lib.hid (bt H6.out.2.2 hb7)
              clear k7 p0 p1 p2 hlm hn7 hb7 h0 hg7 hk7 HLd
              go_wp2_with fail
              refine wp_region_invT (F := ?FA) (V := VBk P vs nx q m g7 wb A5 A5' c5 c5') (dead := fun _ => none) (T := fun _ _ => True) (C := fun u => Below w7.heap.size w7 u) (E := fun _ u u' => Below u.heap.size u u') (by kernel_rfl) (by kernel_rfl) (by kernel_rfl) (fun x => ?hFA) ?hmonoA ?hTmA ?hTA ?hCA ?stepA ?finA
              case hFA => simp only [mkA, Act.put, List.setIfInBounds_toArray, List.set_cons_succ, List.set_cons_zero, Nat.reduceAdd, Nat.zero_add]; first | with_reducible rfl | rfl
              case hmonoA => exact fun q' i v u u' he hik hwt hdd hv => VBk.mono (q := q') he hv
              case hTmA => exact fun _ _ _ _ _ _ _ _ => trivial
              case hTA => exact fun j => trivial
              case hCA => exact (Below.refl _ _).drew
              case stepA =>
                refine AllOps.cons (fun x u hC hT hp K hK => ?_) ?_
                · clear hp hT
                  go_simp
                  refine (alive_any u).mono ?_
                  rintro e wA ⟨rfl, hbA⟩
                  refine hK _ _ _ (bt hC hbA) hbA (by exact rfl) ?_
                  first | (simp only [Act.put, List.setIfInBounds_toArray, List.set_cons_succ, List.set_cons_zero]; done) | simp [Act.put]
                refine AllOps.cons (fun x u hC hT hp K hK => ?_) ?_
                · simp [KnownTill, Region.binds, VBk] at hp
                  clear hT
                  go_simp
                  refine hK _ _ _ hC (Below.refl _ _) (by exact rfl) ?_
                  first | (simp only [Act.put, List.setIfInBounds_toArray, List.set_cons_succ, List.set_cons_zero, hp]; done) | simp [Act.put, hp]
                refine AllOps.cons (fun x u hC hT hp K hK => ?_) ?_
                · simp [KnownTill, Region.binds, VBk] at hp
                  clear hT
                  go_simp
                  refine hK _ _ _ hC (Below.refl _ _) (by exact rfl) ?_
                  first | (simp only [Act.put, List.setIfInBounds_toArray, List.set_cons_succ, List.set_cons_zero, hp]; done) | simp [Act.put, hp]
                refine AllOps.cons (fun x u hC hT hp K hK => ?_) ?_
                · simp [KnownTill, Region.binds, VBk] at hp
                  clear hT
                  go_simp
                  refine hK _ _ _ hC (Below.refl _ _) (by exact (by first | exact rfl | simp)) ?_
                  first | (simp only [Act.put, List.setIfInBounds_toArray, List.set_cons_succ, List.set_cons_zero, hp]; done) | simp [Act.put, hp]
                refine AllOps.cons (fun x u hC hT hp K hK => ?_) ?_
                · simp [KnownTill, Region.binds, VBk] at hp
                  clear hT
                  go_simp
                  refine hK _ _ _ hC (Below.refl _ _) (by exact rfl) ?_
                  first | (simp only [Act.put, List.setIfInBounds_toArray, List.set_cons_succ, List.set_cons_zero, hp]; done) | simp [Act.put, hp]
                refine AllOps.cons (fun x u hC hT hp K hK => ?_) ?_
                · simp [KnownTill, Region.binds, VBk] at hp
                  clear hT
                  go_simp
                  refine hK _ _ _ hC (Below.refl _ _) (by exact rfl) ?_
                  first | (simp only [Act.put, List.setIfInBounds_toArray, List.set_cons_succ, List.set_cons_zero, hp]; done) | simp [Act.put, hp]
                refine AllOps.cons (fun x u hC hT hp K hK => ?_) ?_
                · simp [KnownTill, Region.binds, VBk] at hp
                  clear hT
                  go_simp
                  refine hK _ _ _ hC (Below.refl _ _) (by exact rfl) ?_
                  first | (simp only [Act.put, List.setIfInBounds_toArray, List.set_cons_succ, List.set_cons_zero, hp]; done) | simp [Act.put, hp]
                refine AllOps.cons (fun x u hC hT hp K hK => ?_) ?_
                · simp [KnownTill, Region.binds, VBk] at hp
                  clear hT
                  go_simp
                  refine (HIm.out u hC).mono ?_
                  rintro e wA ⟨vA, rfl, hvA, hbA⟩
                  refine hK _ _ _ (bt hC hbA) hbA hvA ?_
                  first | (simp only [Act.put, List.setIfInBounds_toArray, List.set_cons_succ, List.set_cons_zero, hp]; done) | simp [Act.put, hp]
                refine AllOps.cons (fun x u hC hT hp K hK => ?_) ?_
                · simp [KnownTill, Region.binds, VBk] at hp
                  clear hT
                  go_simp
                  have h1 : IsIm P vs nx q m (x 7) u := by first | with_reducible exact hp.1.2 | with_reducible exact hp.1 | with_reducible exact hp.2.1 | with_reducible exact hp.2 | with_reducible exact hp.2.2.1 | with_reducible exact hp | with_reducible exact hp.1.1
                  refine (isim_as HLn.out h1).mono ?_
                  rintro e wA ⟨vA, rfl, hvA, hbA⟩
                  refine hK _ _ _ (bt hC hbA) hbA hvA ?_
                  first | (simp only [Act.put, List.setIfInBounds_toArray, List.set_cons_succ, List.set_cons_zero, hp]; done) | simp [Act.put, hp]
                refine AllOps.cons (fun x u hC hT hp K hK => ?_) ?_
                · simp [KnownTill, Region.binds, VBk] at hp
                  clear hT
                  have q0 := ((show Below w7.heap.size w7 u from hC).cell (p := ⟨wb, 0, none⟩) HBl.out.1).trans HBl.out.2.1
                  have q1 := ((show Below w7.heap.size w7 u from hC).cell (p := ⟨wb, 1, none⟩) HBl.out.1).trans HBl.out.2.2.1
                  have q2 := ((show Below w7.heap.size w7 u from hC).cell (p := ⟨wb, 2, none⟩) HBl.out.1).trans HBl.out.2.2.2
                  go_simp
                  refine hK _ _ _ hC (Below.refl _ _) (by exact rfl) ?_
                  first | (simp only [Act.put, List.setIfInBounds_toArray, List.set_cons_succ, List.set_cons_zero, hp]; done) | simp [Act.put, hp]
                refine AllOps.cons (fun x u hC hT hp K hK => ?_) ?_
                · simp [KnownTill, Region.binds, VBk] at hp
                  clear hT
                  go_simp
                  refine (isim_as HLn.out (IsIm.below HWas.out hC)).mono ?_
                  rintro e wA ⟨vA, rfl, hvA, hbA⟩
                  refine hK _ _ _ (bt hC hbA) hbA hvA ?_
                  first | (simp only [Act.put, List.setIfInBounds_toArray, List.set_cons_succ, List.set_cons_zero, hp]; done) | simp [Act.put, hp]
                refine AllOps.cons (fun x u hC hT hp K hK => ?_) ?_
                · simp [KnownTill, Region.binds, VBk] at hp
                  clear hT
                  go_simp
                  have h1 : IsIm P vs nx q m (x 8) u := by first | with_reducible exact hp.1 | with_reducible exact hp.2.1 | with_reducible exact hp.2.2.1 | with_reducible exact hp.2
                  have h2 : IsIm P vs nx q m (x 10) u := by first | with_reducible exact hp.2.1 | with_reducible exact hp.2 | with_reducible exact hp.2.2.1 | with_reducible exact hp.1
                  refine (isim_same HLn.out h1 h2).mono ?_
                  rintro e wA ⟨rfl, hbA⟩
                  refine hK _ _ _ (bt hC hbA) hbA (by exact rfl) ?_
                  first | (simp only [Act.put, List.setIfInBounds_toArray, List.set_cons_succ, List.set_cons_zero, hp]; done) | simp [Act.put, hp]
                refine AllOps.cons (fun x u hC hT hp K hK => ?_) ?_
                · simp [KnownTill, Region.binds, VBk] at hp
                  clear hT
                  go_simp
                  refine hK _ _ _ hC (Below.refl _ _) (by exact rfl) ?_
                  first | (simp only [Act.put, List.setIfInBounds_toArray, List.set_cons_succ, List.set_cons_zero, hp]; done) | simp [Act.put, hp]
                refine AllOps.cons (fun x u hC hT hp K hK => ?_) ?_
                · simp [KnownTill, Region.binds, VBk] at hp
                  clear hT
                  go_simp
                  refine hK _ _ _ hC (Below.refl _ _) (by exact rfl) ?_
                  first | (simp only [Act.put, List.setIfInBounds_toArray, List.set_cons_succ, List.set_cons_zero, hp]; done) | simp [Act.put, hp]
                exact AllOps.nil
              case finA =>
                intro x u hC hV
                have e4 : x 13 = .bool true := hV 13 (by decide) rfl
                rw [e4]
                clear e4
                clear hV
                have HF := Lib.hid (bt H7.out hC)
                clear hC HIm HWas HBl
                go_wp2
                go_ret
                exact ⟨rfl, HF.out⟩
      · rw [hbig, if_pos rfl] at hrd
        have HRd := Lib.hid hrd
        have HBig := Lib.hid hbig
        clear hrd hbig
        go_wp2_with fail
        refine HRd.out.mono ?_
        rintro e w2 ⟨A3, q3, c3, rfl, HX3⟩
        dsimp only at HX3 ⊢
        have H2 := Lib.hid (bt HB1.out HX3.out.2.2)
        clear HRd
        go_wp2_with fail
        go_loopw [9] (fun iv wr => ∃ j : Nat, j ≤ n ∧ iv = .int .i64 j ∧ Hid (∀ q, q < j → ∀ hq : q < l.length, bigY (l[q]'hq) = false) ∧ w2 = wr) (fun iv _ => n - (intOf iv).toNat)
        case atStart => exact ⟨0, Nat.zero_le _, rfl, Lib.hid (fun q hq => by omega), rfl⟩
        case round =>
          obtain ⟨j, hj, rfl, hno, rfl⟩ := hrel
          by_cases hjn : j < n
          · have hjI : (j : Int) < (n : Int) := by omega
            have hjl : j < l.length := by rw [← HN.out]; exact hjn
            obtain ⟨b, o, rfl, _, hcs⟩ := (HL.out.below H2.out) (by omega)
            obtain ⟨_, s1, _⟩ := hcs j hjl
            obtain ⟨y, hyq⟩ : ∃ y, y = (l[j]'hjl).y := ⟨_, rfl⟩
            rw [← hyq] at s1
            by_cases hyb : 4611686018427387904 < y
            · have HBe := Lib.hid H2.out
              clear hcs hyq
              go_wp2_with fail
              refine (alive_any _).mono ?_
              rintro e wz ⟨rfl, hbz⟩
              have hBz := Lib.hid (bt HBe.out hbz)
              clear hbz
              go_wp2
              go_ret
              exact ⟨rfl, hBz.out⟩
            · have hno2 : Hid (∀ q, q < j + 1 → ∀ hq : q < l.length, bigY (l[q]'hq) = false) := Lib.hid fun q hq hql => by
                by_cases e : q = j
                · subst e
                  unfold bigY
                  rw [← hyq]
                  simpa using hyb
                · exact hno.out q (by omega) hql
              clear hcs hyq
              go_wp2
              go_roundw
              case rel => exact ⟨j + 1, by omega, by go_num, hno2, trivial⟩
              case measure => simp [intOf]; omega
          · exfalso
            obtain ⟨x, hx, hxb⟩ := List.any_eq_true.1 HBig.out
            obtain ⟨q, hq, rfl⟩ := List.mem_iff_getElem.1 hx
            rw [hno.out q (by rw [← HN.out] at hq; omega) hq] at hxb
            cases hxb
    · have HBf := Lib.hid HX.out.2.2
      clear HX HWz
      have HPl := Lib.hid (played_any A0 ops m0 c0 w1 (Lib.hid HM0.out) (HOp.out.1.below HBf.out) HOp.out.2)
      obtain ⟨S, hS⟩ : ∃ S, S = playR ops := ⟨_, rfl⟩
      have hRi := RInv.play ops
      rw [← hS] at HPl hRi
      have HRi := Lib.hid hRi
      clear hS hRi
      go_wp2_with fail
      refine HPl.out.mono ?_
      rintro e w4 ⟨⟨g, cs4, rfl, hk4, ⟨hok4, hfr4⟩, hgw⟩, hb4⟩
      have HIm0 := Lib.hid (image_img g cs4 S 300 w4 hk4)
      have himl := imL_of hok4
      have hld := load_back HRi.out.qn hok4
      have hlm := lodR_im (S := S) HRi.out.z
      obtain ⟨P, hP⟩ : ∃ P, P = imP S.K 16 := ⟨_, rfl⟩
      obtain ⟨vs, hvs⟩ : ∃ vs, vs = S.Q.I.map Qu.IT.v := ⟨_, rfl⟩
      obtain ⟨nx, hnx⟩ : ∃ nx, nx = S.Q.g + 1 := ⟨_, rfl⟩
      rw [← hP, ← hvs, ← hnx] at HIm0 hld
      rw [← hP, ← hvs] at himl hlm
      have H4 := Lib.hid (And.intro (bt HBf.out hb4) (And.intro himl (And.intro hld (And.intro hlm hnx))))
      clear hk4 hok4 hfr4 hgw hb4 himl hld hlm hP hvs hnx HPl
      go_wp2_with fail
      refine HIm0.out.mono ?_
      rintro e w5 ⟨A5, q, c5, A5', m, c5', rfl, HX5⟩
      obtain ⟨w6, hw6⟩ : ∃ w6, w6 = w5.alloc (.cells #[.slice A5 q c5, .slice A5' m c5', .int .i64 nx] 58) := ⟨_, rfl⟩
      obtain ⟨wb, hwb⟩ : ∃ wb, wb = w5.heap.size := ⟨_, rfl⟩
      have b6 : Below w5.heap.size w5 w6 := by rw [hw6]; exact ba _ _
      have k6 : Blk w6 wb 58 #[.slice A5 q c5, .slice A5' m c5', .int .i64 nx] := by rw [hw6, hwb]; exact Blk.new _ _ _
      have hi6 := HX5.out.1.below b6
      have hL : ImL P vs q m := by
        have := H4.out.2.1
        rw [← hi6.q, ← hi6.q'] at this
        exact this
      have HLd := Lib.hid (resload_any A5 A5' q c5 m c5' nx P vs w6 (Lib.hid hL.1) (Lib.hid hL.2.1) ⟨hL.2.2.1, hL.2.2.2⟩ hi6.pin hi6.uin)
      have HLn := Lib.hid (Lib.hid hL)
      have p0 := k6.cell 0
      have p1 := k6.cell 1
      have p2 := k6.cell 2
      simp only [List.getElem?_toArray, List.getElem?_cons_zero, List.getElem?_cons_succ] at p0 p1 p2
      rw [hw6, hwb] at p0 p1 p2
      have H6 := Lib.hid (And.intro k6 (And.intro hi6 (bt H4.out.1 (bt HX5.out.2 b6))))
      have HW6 := Lib.hid (And.intro hw6 hwb)
      clear b6 k6 hi6 hL hw6 hwb HIm0 HX5
      go_wp2_with fail
      rw [← HW6.out.1, ← HW6.out.2]
      refine HLd.out.mono ?_
      clear p0 p1 p2
      rintro e w7 ⟨hb7, (⟨h0, _⟩ | ⟨h0, g7, cs7, rfl, hg7, hk7⟩)⟩
      · exact absurd H4.out.2.2.1.1 h0
      · rw [H4.out.2.2.1.2] at hk7
        have k7 := H6.out.1.below hb7 H6.out.1.lt
        have p0 := k7.cell 0
        have p1 := k7.cell 1
        have p2 := k7.cell 2
        simp only [List.getElem?_toArray, List.getElem?_cons_zero, List.getElem?_cons_succ] at p0 p1 p2
        have HBl : Hid (wb < w7.heap.size ∧ w7.cell? ⟨wb, 0, none⟩ = some (.slice A5 q c5) ∧ w7.cell? ⟨wb, 1, none⟩ = some (.slice A5' m c5') ∧ w7.cell? ⟨wb, 2, none⟩ = some (.int .i64 nx)) := Lib.hid ⟨k7.lt, p0, p1, p2⟩
        have hlm := H4.out.2.2.2.1
        have hn7 : (lodR S).Q.g + 1 = nx := by rw [hlm.2.2]; exact H4.out.2.2.2.2.symm
        have HIm : Hid (∀ u, Below w7.heap.size w7 u → Calls Tryz.prog 18 #[.pointer (some ⟨g7, 0, none⟩)] u fun e w' => ∃ v, e = .returned v ∧ IsIm P vs nx q m v w' ∧ Below u.heap.size u w') := Lib.hid fun u hu => image_is g7 cs7 (lodR S) 2000 u (hk7.below hu) hlm.1 hlm.2.1 hn7 HLn.out
        have HWas : Hid (IsIm P vs nx q m (.agg #[.slice A5 q c5, .slice A5' m c5', .int .i64 nx]) w7) := Lib.hid ((H6.out.2.1.below hb7).is nx)
        have H7 := Lib.hid (bt H6.out.2.2 hb7)
        clear k7 p0 p1 p2 hlm hn7 hb7 h0 hg7 hk7 HLd
        go_wp2_with fail
        refine wp_region_invT (F := ?FB) (V := VBk P vs nx q m g7 wb A5 A5' c5 c5') (dead := fun _ => none) (T := fun _ _ => True) (C := fun u => Below w7.heap.size w7 u) (E := fun _ u u' => Below u.heap.size u u') (by kernel_rfl) (by kernel_rfl) (by kernel_rfl) (fun x => ?hFB) ?hmonoB ?hTmB ?hTB ?hCB ?stepB ?finB
        case hFB => simp only [mkA, Act.put, List.setIfInBounds_toArray, List.set_cons_succ, List.set_cons_zero, Nat.reduceAdd, Nat.zero_add]; first | with_reducible rfl | rfl
        case hmonoB => exact fun q' i v u u' he hik hwt hdd hv => VBk.mono (q := q') he hv
        case hTmB => exact fun _ _ _ _ _ _ _ _ => trivial
        case hTB => exact fun j => trivial
        case hCB => exact (Below.refl _ _).drew
        case stepB =>
          refine AllOps.cons (fun x u hC hT hp K hK => ?_) ?_
          · clear hp hT
            go_simp
            refine (alive_any u).mono ?_
            rintro e wA ⟨rfl, hbA⟩
            refine hK _ _ _ (bt hC hbA) hbA (by exact rfl) ?_
            first | (simp only [Act.put, List.setIfInBounds_toArray, List.set_cons_succ, List.set_cons_zero]; done) | simp [Act.put]
          refine AllOps.cons (fun x u hC hT hp K hK => ?_) ?_
          · simp [KnownTill, Region.binds, VBk] at hp
            clear hT
            go_simp
            refine hK _ _ _ hC (Below.refl _ _) (by exact rfl) ?_
            first | (simp only [Act.put, List.setIfInBounds_toArray, List.set_cons_succ, List.set_cons_zero, hp]; done) | simp [Act.put, hp]
          refine AllOps.cons (fun x u hC hT hp K hK => ?_) ?_
          · simp [KnownTill, Region.binds, VBk] at hp
            clear hT
            go_simp
            refine hK _ _ _ hC (Below.refl _ _) (by exact rfl) ?_
            first | (simp only [Act.put, List.setIfInBounds_toArray, List.set_cons_succ, List.set_cons_zero, hp]; done) | simp [Act.put, hp]
          refine AllOps.cons (fun x u hC hT hp K hK => ?_) ?_
          · simp [KnownTill, Region.binds, VBk] at hp
            clear hT
            go_simp
            refine hK _ _ _ hC (Below.refl _ _) (by exact (by first | exact rfl | simp)) ?_
            first | (simp only [Act.put, List.setIfInBounds_toArray, List.set_cons_succ, List.set_cons_zero, hp]; done) | simp [Act.put, hp]
          refine AllOps.cons (fun x u hC hT hp K hK => ?_) ?_
          · simp [KnownTill, Region.binds, VBk] at hp
            clear hT
            go_simp
            refine hK _ _ _ hC (Below.refl _ _) (by exact rfl) ?_
            first | (simp only [Act.put, List.setIfInBounds_toArray, List.set_cons_succ, List.set_cons_zero, hp]; done) | simp [Act.put, hp]
          refine AllOps.cons (fun x u hC hT hp K hK => ?_) ?_
          · simp [KnownTill, Region.binds, VBk] at hp
            clear hT
            go_simp
            refine hK _ _ _ hC (Below.refl _ _) (by exact rfl) ?_
            first | (simp only [Act.put, List.setIfInBounds_toArray, List.set_cons_succ, List.set_cons_zero, hp]; done) | simp [Act.put, hp]
          refine AllOps.cons (fun x u hC hT hp K hK => ?_) ?_
          · simp [KnownTill, Region.binds, VBk] at hp
            clear hT
            go_simp
            refine hK _ _ _ hC (Below.refl _ _) (by exact rfl) ?_
            first | (simp only [Act.put, List.setIfInBounds_toArray, List.set_cons_succ, List.set_cons_zero, hp]; done) | simp [Act.put, hp]
          refine AllOps.cons (fun x u hC hT hp K hK => ?_) ?_
          · simp [KnownTill, Region.binds, VBk] at hp
            clear hT
            go_simp
            refine (HIm.out u hC).mono ?_
            rintro e wA ⟨vA, rfl, hvA, hbA⟩
            refine hK _ _ _ (bt hC hbA) hbA hvA ?_
            first | (simp only [Act.put, List.setIfInBounds_toArray, List.set_cons_succ, List.set_cons_zero, hp]; done) | simp [Act.put, hp]
          refine AllOps.cons (fun x u hC hT hp K hK => ?_) ?_
          · simp [KnownTill, Region.binds, VBk] at hp
            clear hT
            go_simp
            have h1 : IsIm P vs nx q m (x 7) u := by first | with_reducible exact hp.1.2 | with_reducible exact hp.1 | with_reducible exact hp.2.1 | with_reducible exact hp.2 | with_reducible exact hp.2.2.1 | with_reducible exact hp | with_reducible exact hp.1.1
            refine (isim_as HLn.out h1).mono ?_
            rintro e wA ⟨vA, rfl, hvA, hbA⟩
            refine hK _ _ _ (bt hC hbA) hbA hvA ?_
            first | (simp only [Act.put, List.setIfInBounds_toArray, List.set_cons_succ, List.set_cons_zero, hp]; done) | simp [Act.put, hp]
          refine AllOps.cons (fun x u hC hT hp K hK => ?_) ?_
          · simp [KnownTill, Region.binds, VBk] at hp
            clear hT
            have q0 := ((show Below w7.heap.size w7 u from hC).cell (p := ⟨wb, 0, none⟩) HBl.out.1).trans HBl.out.2.1
            have q1 := ((show Below w7.heap.size w7 u from hC).cell (p := ⟨wb, 1, none⟩) HBl.out.1).trans HBl.out.2.2.1
            have q2 := ((show Below w7.heap.size w7 u from hC).cell (p := ⟨wb, 2, none⟩) HBl.out.1).trans HBl.out.2.2.2
            go_simp
            refine hK _ _ _ hC (Below.refl _ _) (by exact rfl) ?_
            first | (simp only [Act.put, List.setIfInBounds_toArray, List.set_cons_succ, List.set_cons_zero, hp]; done) | simp [Act.put, hp]
          refine AllOps.cons (fun x u hC hT hp K hK => ?_) ?_
          · simp [KnownTill, Region.binds, VBk] at hp
            clear hT
            go_simp
            refine (isim_as HLn.out (IsIm.below HWas.out hC)).mono ?_
            rintro e wA ⟨vA, rfl, hvA, hbA⟩
            refine hK _ _ _ (bt hC hbA) hbA hvA ?_
            first | (simp only [Act.put, List.setIfInBounds_toArray, List.set_cons_succ, List.set_cons_zero, hp]; done) | simp [Act.put, hp]
          refine AllOps.cons (fun x u hC hT hp K hK => ?_) ?_
          · simp [KnownTill, Region.binds, VBk] at hp
            clear hT
            go_simp
            have h1 : IsIm P vs nx q m (x 8) u := by first | with_reducible exact hp.1 | with_reducible exact hp.2.1 | with_reducible exact hp.2.2.1 | with_reducible exact hp.2
            have h2 : IsIm P vs nx q m (x 10) u := by first | with_reducible exact hp.2.1 | with_reducible exact hp.2 | with_reducible exact hp.2.2.1 | with_reducible exact hp.1
            refine (isim_same HLn.out h1 h2).mono ?_
            rintro e wA ⟨rfl, hbA⟩
            refine hK _ _ _ (bt hC hbA) hbA (by exact rfl) ?_
            first | (simp only [Act.put, List.setIfInBounds_toArray, List.set_cons_succ, List.set_cons_zero, hp]; done) | simp [Act.put, hp]
          refine AllOps.cons (fun x u hC hT hp K hK => ?_) ?_
          · simp [KnownTill, Region.binds, VBk] at hp
            clear hT
            go_simp
            refine hK _ _ _ hC (Below.refl _ _) (by exact rfl) ?_
            first | (simp only [Act.put, List.setIfInBounds_toArray, List.set_cons_succ, List.set_cons_zero, hp]; done) | simp [Act.put, hp]
          refine AllOps.cons (fun x u hC hT hp K hK => ?_) ?_
          · simp [KnownTill, Region.binds, VBk] at hp
            clear hT
            go_simp
            refine hK _ _ _ hC (Below.refl _ _) (by exact rfl) ?_
            first | (simp only [Act.put, List.setIfInBounds_toArray, List.set_cons_succ, List.set_cons_zero, hp]; done) | simp [Act.put, hp]
          exact AllOps.nil
        case finB =>
          intro x u hC hV
          have e4 : x 13 = .bool true := hV 13 (by decide) rfl
          rw [e4]
          clear e4
          clear hV
          have HF := Lib.hid (bt H7.out hC)
          clear hC HIm HWas HBl
          go_wp2
          go_ret
          exact ⟨rfl, HF.out⟩
end Go.Proofs.YtlliaihmfimdoaaGreat.Re

namespace Go.Proofs.YtlliaihmfimdoaaGreat.Re
open Go.RowKit Go.Maps Go.Joins Go.Deep Go.Proofs.YtlliaihmfimdoaaGreat
theorem resBack_walk (A : Option Addr) (l : List Ch) (c : Nat) (A0 : Option Addr) (ops : List OpV) (c0 : Nat) (w : World) (h : InLs w A l ∧ ∀ x ∈ l, ChB x) (ho : OpsAt w A0 ops ∧ ∀ o ∈ ops, CapOk o) :
    Calls Tryz.prog 6 #[.slice A l.length c, .slice A0 ops.length c0] w fun e w' => e = .returned (.bool true) ∧ Below w.heap.size w w' :=
  resBack_main A l c A0 ops c0 w h.1 h.2 ho.1 ho.2
end Go.Proofs.YtlliaihmfimdoaaGreat.Re

namespace Go.Proofs.YtlliaihmfimdoaaGreat.Re
open Go.RowKit Go.Maps Go.Proofs.YtlliaihmfimdoaaGreat
set_option linter.unusedVariables false
set_option linter.unusedSimpArgs false

def LB (l : List Ch) : Prop := ∀ x ∈ l, x.v < 18446744073709551616
theorem LB.nil : LB [] := fun x h => by cases h
theorem LB.app {a b : List Ch} (h1 : LB a) (h2 : LB b) : LB (a ++ b) := fun x hx => by
  rcases List.mem_append.1 hx with h | h
  · exact h1 x h
  · exact h2 x h
theorem LB.one {x : Ch} (h : x.v < 18446744073709551616) : LB [x] := fun y hy => by obtain rfl := List.mem_singleton.1 hy; exact h
theorem LB.with_ {l : List Ch} (h : LB l) {x : Ch} (hx : x.v < 18446744073709551616) : LB (withL l x) := by
  unfold withL
  split
  · intro z hz
    rcases List.mem_or_eq_of_mem_set hz with hz | rfl
    · exact h z hz
    · exact hx
  · exact h.app (LB.one hx)
def VK (K : KS) : Prop := ∀ n l p, K.W n = some (l, p) → LB l
theorem VK.cur {K : KS} (h : VK K) (n : Int) : LB (curW K n).1 := by
  unfold curW
  rcases hw : K.W n with _ | ⟨l, p⟩
  · exact LB.nil
  · exact h n l p hw
theorem VK.up {K : KS} (h : VK K) {W : Int → Option (List Ch × Bool)} {n : Int} {o : Option (List Ch × Bool)} (ho : ∀ l p, o = some (l, p) → LB l) (hW : W = updW K.W n o) {V B L} : VK ⟨B, V, W, L⟩ := fun m l p e => by
  have e : W m = some (l, p) := e
  rw [hW] at e
  unfold updW at e
  split at e
  · exact ho l p e
  · exact h m l p e
theorem VK.same {K K' : KS} (h : VK K) (e : K'.W = K.W) : VK K' := fun m l p h' => h m l p (by rw [← e]; exact h')
theorem VK.change {K : KS} (h : VK K) (n : Int) (x : Ch) (hx : x.v < 18446744073709551616) : VK (changeM K n x).2 := by
  unfold changeM
  split
  · refine VK.up (K := K) h (o := some (withL (curW K n).1 x, false)) (n := n) ?_ rfl
    rintro l p e
    injection e with e
    injection e with e _
    rw [← e]
    exact (h.cur n).with_ hx
  · exact h.same (openM_W K n x.y true).1
theorem VK.drop {K : KS} (h : VK K) (n : Int) : VK (dropM K n) := VK.up (K := K) h (o := none) (n := n) (fun l p e => by cases e) rfl
theorem VK.prep {K : KS} (h : VK K) (n : Int) : VK (prepM K n).2 := by
  unfold prepM
  split
  · exact h
  · split
    · exact h
    · split
      · exact h.same rfl
      · refine VK.up (K := K) h (o := some ((curW K n).1, true)) (n := n) ?_ rfl
        rintro l p e
        injection e with e
        injection e with e _
        rw [← e]
        exact h.cur _
theorem VK.commit {K : KS} (h : VK K) (n : Int) : VK (commitM K n).2 := by
  unfold commitM
  split
  · exact h
  · exact VK.drop (h.same rfl) _
theorem VK.back {K : KS} (h : VK K) (n : Int) : VK (backoutM K n).2 := by
  unfold backoutM
  split
  · exact h
  · exact h.drop _
theorem VK.rest {K : KS} (h : VK K) (n : Int) (lk : List Ch) (hl : LB lk) : VK (restoreM K n lk).2 := by
  unfold restoreM
  split
  · exact h
  · split
    · exact h
    · split
      · exact h
      · split
        · show VK ⟨K.B, K.V, restW K n lk, (takeAll K.L n lk).2⟩
          unfold restW
          split
          · exact h
          · refine VK.up (K := K) h (o := some (lk, true)) (n := n) ?_ rfl
            rintro l p e
            injection e with e
            injection e with e _
            rw [← e]
            exact hl
        · exact h.same rfl
def VQ (Q : Qu.QS) : Prop := (∀ v ∈ Q.I.map Qu.IT.v, v < 18446744073709551616) ∧ ∀ y ∈ Q.ws, LB y.l
theorem VQ.cur {Q : Qu.QS} (h : VQ Q) (n : Int) : LB (Qu.curQ Q.ws n).1 := by
  unfold Qu.curQ Qu.lookQ
  rcases hf : Qu.findQ Q.ws n with _ | y
  · exact LB.nil
  · exact h.2 y (Qu.findQ_mem hf).1
theorem lay_lb {ws : List Qu.WQ} (h : ∀ y ∈ ws, LB y.l) (n : Int) {l : List Ch} (hl : LB l) (p : Bool) : ∀ y ∈ Qu.layQ ws n l p, LB y.l := fun y hy => by
  rcases Qu.layQ_mem hy with rfl | ⟨hy, _⟩
  · exact hl
  · exact h y hy
theorem giveI_v (L : List Qu.IT) (i : Nat) (n : Int) : (Qu.giveI L i n).map Qu.IT.v = L.map Qu.IT.v := by
  unfold Qu.giveI
  refine List.ext_getElem? fun j => ?_
  rw [List.getElem?_map, List.getElem?_map, List.getElem?_modify]
  rcases L[j]? with _ | x
  · rfl
  · by_cases e : i = j <;> simp [e]
theorem freeI_v (L : List Qu.IT) (n : Int) : (L.map (Qu.freeI n)).map Qu.IT.v = L.map Qu.IT.v := by
  rw [List.map_map]
  refine List.map_congr_left fun x _ => ?_
  show (Qu.freeI n x).v = x.v
  unfold Qu.freeI; split <;> rfl
theorem newsQ_lb : ∀ (l : List Ch) (g : Int), LB l → ∀ v ∈ (Qu.newsQ g l).map Qu.IT.v, v < 18446744073709551616
  | [], g, _, v, h => by cases h
  | x :: r, g, hl, v, h => by
    have hr : LB r := fun z hz => hl z (List.mem_cons_of_mem _ hz)
    unfold Qu.newsQ at h
    split at h
    · rw [List.map_cons] at h
      rcases List.mem_cons.1 h with rfl | h
      · exact hl x (List.mem_cons_self ..)
      · exact newsQ_lb r _ hr v h
    · exact newsQ_lb r _ hr v h
theorem VQ.put {Q : Qu.QS} (h : VQ Q) (n : Int) (v : Nat) (hv : v < 18446744073709551616) : VQ (Qu.putM Q n v).2 := by
  unfold Qu.putM
  split
  · exact h
  · split
    · exact h
    · exact ⟨h.1, lay_lb h.2 n ((h.cur n).app (LB.one hv)) _⟩
theorem VQ.take {Q : Qu.QS} (h : VQ Q) (n : Int) : VQ (Qu.takeM Q n).2 := by
  unfold Qu.takeM
  split
  · exact h
  · split
    · exact h
    · split
      · rename_i x hx
        refine ⟨by dsimp only; rw [giveI_v]; exact h.1, lay_lb h.2 n ((h.cur n).app (LB.one ?_)) _⟩
        exact h.1 x.v (List.mem_map.2 ⟨x, List.mem_of_getElem? hx, rfl⟩)
      · exact h
theorem VQ.prep {Q : Qu.QS} (h : VQ Q) (n : Int) : VQ (Qu.prepM Q n).2 := by
  unfold Qu.prepM
  split
  · exact h
  · split
    · exact h
    · exact ⟨h.1, lay_lb h.2 n (h.cur n) _⟩
theorem VQ.commit {Q : Qu.QS} (h : VQ Q) (n : Int) : VQ (Qu.commitM Q n).2 := by
  unfold Qu.commitM
  split
  · exact h
  · refine ⟨fun v hv => ?_, fun y hy => h.2 y (List.mem_filter.1 hy).1⟩
    dsimp only at hv
    rw [List.map_append] at hv
    rcases List.mem_append.1 hv with hv | hv
    · obtain ⟨x, hx, rfl⟩ := List.mem_map.1 hv
      exact h.1 x.v (List.mem_map.2 ⟨x, (List.mem_filter.1 hx).1, rfl⟩)
    · exact newsQ_lb _ _ (h.cur n) v hv
theorem VQ.back {Q : Qu.QS} (h : VQ Q) (n : Int) : VQ (Qu.backM Q n).2 := by
  unfold Qu.backM
  split
  · exact h
  · exact ⟨by dsimp only; rw [freeI_v]; exact h.1, fun y hy => h.2 y (List.mem_filter.1 hy).1⟩
theorem VQ.rest {Q : Qu.QS} (h : VQ Q) (n : Int) (l : List Ch) (hl : LB l) : VQ (Qu.restM Q n l).2 := by
  unfold Qu.restM
  split
  · exact h
  · split
    · exact h
    · split
      · exact h
      · split
        · exact h
        · split
          · exact h
          · exact ⟨by dsimp only; rw [Qu.givenI_v]; exact h.1, lay_lb h.2 n hl _⟩
/-- All values of the resources have 64 bits. -/
def VS (S : RS) : Prop := VK S.K ∧ VQ S.Q
theorem VS.prep {S : RS} (h : VS S) (n : Int) : VS (prepR S n).2 := by
  unfold prepR
  split
  · exact h
  · unfold holdR; split <;> exact ⟨h.1.prep n, h.2.prep n⟩
theorem VS.call {S : RS} (h : VS S) (o : OpV) (hv : o.v < 18446744073709551616) (hl : LB o.l) : VS (callR S o).2 := by
  have htk : ∀ k, LB (o.l.take k) := fun k x hx => hl x (List.mem_of_mem_take hx)
  have hdr : ∀ k, LB (o.l.drop k) := fun k x hx => hl x (List.mem_of_mem_drop hx)
  unfold callR
  split
  · unfold getR; split
    · exact h
    · exact ⟨h.1.same (getM_W _ _ _).1, h.2⟩
  split
  · unfold putR; split
    · exact h
    · exact ⟨h.1.change _ _ hv, h.2⟩
  split
  · unfold delR; split
    · exact h
    · exact ⟨h.1.change _ _ (show (0 : Nat) < 18446744073709551616 by decide), h.2⟩
  split
  · unfold pushR; split
    · exact h
    · exact ⟨h.1, h.2.put _ _ hv⟩
  split
  · unfold popR; split
    · exact h
    · exact ⟨h.1, h.2.take _⟩
  split
  · exact h.prep _
  split
  · unfold commitR; split
    · exact h
    · exact ⟨h.1.commit _, h.2.commit _⟩
  split
  · unfold backR; split
    · exact h
    · exact ⟨h.1.back _, h.2.back _⟩
  split
  · unfold restoreR; split
    · exact h
    · split
      · exact h
      · split
        · exact ⟨h.1.rest _ _ (htk _), h.2⟩
        · split
          · exact ⟨(h.1.rest _ _ (htk _)).back _, h.2.rest _ _ (hdr _)⟩
          · unfold holdR; split <;> exact ⟨h.1.rest _ _ (htk _), h.2.rest _ _ (hdr _)⟩
  · exact h
theorem VS.play (ops : List OpV) (hops : ∀ o ∈ ops, o.v < 18446744073709551616 ∧ LB o.l) : VS (playR ops) := by
  have : ∀ (l : List OpV) (S : RS), (∀ o ∈ l, o.v < 18446744073709551616 ∧ LB o.l) → VS S → VS (l.foldl stepR S) := by
    intro l
    induction l with
    | nil => intro S _ h; exact h
    | cons o l ih =>
      intro S ho h
      refine ih _ (fun z hz => ho z (List.mem_cons_of_mem _ hz)) ?_
      have h0 := ho o (List.mem_cons_self ..)
      unfold stepR
      split
      · have := h.call o h0.1 h0.2
        exact ⟨this.1.same rfl, this.2⟩
      · exact h
  exact this _ _ (fun o ho => hops o (List.mem_of_mem_take ho)) ⟨(fun n l p e => by cases e), (fun v hv => by cases hv), fun y hy => by cases hy⟩
end Go.Proofs.YtlliaihmfimdoaaGreat.Re

namespace Go.Proofs.YtlliaihmfimdoaaGreat.Re
open Go.RowKit Go.Maps Go.Joins Go.Deep Go.Proofs.YtlliaihmfimdoaaGreat
set_option linter.unusedVariables false
set_option linter.unusedSimpArgs false

theorem EB.at_ {K g : Nat} {u u' : World} (h : EB K g K u u') : u.grownBy u' (some g) := by unfold EB at h; rw [if_pos rfl] at h; exact h
theorem cell_offg {w u : World} {b o g : Nat} {v : Value} (h : w.cell? ⟨b, o, none⟩ = some v) (hlt : b < w.heap.size) (hg : w.grownBy u (some g)) (hne : b ≠ g) : u.cell? ⟨b, o, none⟩ = some v := by
  have hb := hg.block b hlt (fun e => hne (Option.some.inj e))
  unfold World.cell? at h ⊢
  dsimp only at h ⊢
  rw [hb]
  exact h
/-- An image's value that does not lie in the block g. -/
def IsImG (g : Nat) (P : List (Int × Nat)) (vs : List Nat) (nx : Int) (q m : Nat) (v : Value) (u : World) : Prop := ∃ A c A' c', v = .agg #[.slice A q c, .slice A' m c', .int .i64 nx] ∧ InRp u A P ∧ Qu.UAt u A' vs ∧ blk A ≠ some g ∧ blk A' ≠ some g
section
variable {g : Nat} {P : List (Int × Nat)} {vs : List Nat} {nx : Int} {q m : Nat} {v v' : Value} {u u' : World}
theorem IsImG.below (h : IsImG g P vs nx q m v u) (hb : Below u.heap.size u u') : IsImG g P vs nx q m v u' := by
  obtain ⟨A, c, A', c', h1, h2, h3, h4⟩ := h
  exact ⟨A, c, A', c', h1, h2.below hb, h3.below hb, h4⟩
theorem IsImG.is (h : IsImG g P vs nx q m v u) : IsIm P vs nx q m v u := by
  obtain ⟨A, c, A', c', h1, h2, h3, h4⟩ := h
  exact ⟨A, c, A', c', h1, h2, h3⟩
theorem IsImG.off (h : IsImG g P vs nx q m v u) (hg : u.grownBy u' (some g)) : IsImG g P vs nx q m v u' := by
  obtain ⟨A, c, A', c', h1, h2, h3, h4, h5⟩ := h
  refine ⟨A, c, A', c', h1, fun hl => ?_, fun hl => ?_, h4, h5⟩
  · obtain ⟨b, o, rfl, hlt, hc⟩ := h2 hl
    have hne : b ≠ g := fun e => h4 (by rw [← e]; rfl)
    exact ⟨b, o, rfl, Nat.lt_of_lt_of_le hlt hg.size, fun i hi => ⟨cell_offg (hc i hi).1 hlt hg hne, cell_offg (hc i hi).2 hlt hg hne⟩⟩
  · obtain ⟨b, o, rfl, hlt, hc⟩ := h3 hl
    have hne : b ≠ g := fun e => h5 (by rw [← e]; rfl)
    exact ⟨b, o, rfl, Nat.lt_of_lt_of_le hlt hg.size, fun i hi => cell_offg (hc i hi) hlt hg hne⟩
theorem ImgAt.blks {B c c' : Nat} {A A' : Option Addr} (h : ImgAt u B A q c A' m c' P vs) : (∀ r, blk A = some r → B ≤ r ∧ r < u.heap.size) ∧ (∀ r, blk A' = some r → B ≤ r ∧ r < u.heap.size) :=
  ⟨fun r e => World.ownsRow.lt h.p r (by rw [ownBlock_slice]; exact e), fun r e => h.u.lt' r e⟩
theorem ImgAt.isg {B c c' : Nat} {A A' : Option Addr} (h : ImgAt u B A q c A' m c' P vs) (nx : Int) (hg : g < B ∨ u.heap.size ≤ g) : IsImG g P vs nx q m (.agg #[.slice A q c, .slice A' m c', .int .i64 nx]) u :=
  ⟨A, c, A', c', rfl, h.pin, h.uin, fun e => by have := h.blks.1 g e; omega, fun e => by have := h.blks.2 g e; omega⟩
theorem image_isg (cs : Array Value) (S : RS) (N : Nat) (w : World) (h : ResAt w g cs S N) (hP : imP S.K 16 = P) (hv : S.Q.I.map Qu.IT.v = vs) (hn : S.Q.g + 1 = nx) (hl : Hid (ImL P vs q m)) :
    Calls Tryz.prog 18 #[.pointer (some ⟨g, 0, none⟩)] w fun e w' => ∃ v, e = .returned v ∧ IsImG g P vs nx q m v w' ∧ Below w.heap.size w w' := by
  have hgl := h.lt
  refine (image_img g cs S N w h).mono ?_
  rintro e w' ⟨A, q2, c, A', q2', c', rfl, HX⟩
  obtain ⟨h1, h2⟩ := HX.out
  have e1 : q2 = q := by rw [h1.q, hP]; exact hl.out.1.symm
  have e2 : q2' = m := by rw [h1.q', hv]; exact hl.out.2.1.symm
  subst e1 e2
  rw [hP, hv] at h1
  rw [hn]
  exact ⟨_, rfl, h1.isg nx (.inl hgl), h2⟩
theorem isimg_as (hl : Hid (ImL P vs q m)) (h : IsImG g P vs nx q m v u) (hgl : g < u.heap.size) : Calls Tryz.prog 17 #[v] u fun e w' => ∃ v', e = .returned v' ∧ IsImG g P vs nx q m v' w' ∧ Below u.heap.size u w' := by
  obtain ⟨A, c, A', c', rfl, h2, h3, h4, h5⟩ := h
  refine (as_any A A' q c m c' nx P u (Lib.hid hl.out.1) hl.out.2.2.1 h2).mono ?_
  rintro e w' ⟨A9, c9, rfl, HX⟩
  exact ⟨_, rfl, ⟨A9, c9, A', c', rfl, OwnPr.in_ HX.out.1, h3.below HX.out.2, (fun e => by have := World.ownsRow.lt HX.out.1 g (by rw [ownBlock_slice]; exact e); omega), h5⟩, HX.out.2⟩
end
theorem ownC_caps {u : World} {B c q : Nat} {A : Option Addr} {l : List Ch} (h : OwnC u B A c l) (hq : q = l.length) : q ≤ c ∧ c ≤ 9223372036854775807 := by
  subst hq
  rcases h.2 with ⟨h1, h2⟩ | ⟨g, cap, cur, h1, hb, hg, hn, hm, _⟩
  · injection h1 with e1 e2 e3
    omega
  · injection h1 with e1 e2 e3
    subst e3
    unfold maxLen at hm
    exact ⟨hn, hm⟩
/-- Committed there. -/
def PstR (g : Nat) (S : RS) (u : World) : Prop := ∃ cs, ResAt u g cs S 2006
theorem PstR.below {g : Nat} {S : RS} {u u' : World} (h : PstR g S u) (hb : Below u.heap.size u u') : PstR g S u' := by
  obtain ⟨cs, h1⟩ := h
  exact ⟨cs, h1.below hb⟩
def KpR (w w11 : World) (g wc : Nat) (A A' : Option Addr) (c c' : Nat) (P : List (Int × Nat)) (vs : List Nat) (nx : Int) (q m : Nat) (u : World) : Prop := Below w.heap.size w u ∧ w11.heap.size ≤ u.heap.size ∧ Blk u wc 58 #[.slice A q c, .slice A' m c', .int .i64 nx] ∧ IsImG g P vs nx q m (.agg #[.slice A q c, .slice A' m c', .int .i64 nx]) u
section
variable {w w11 u u' : World} {g wc : Nat} {A A' : Option Addr} {c c' : Nat} {P : List (Int × Nat)} {vs : List Nat} {nx : Int} {q m : Nat}
theorem KpR.below (h : KpR w w11 g wc A A' c c' P vs nx q m u) (hb : Below u.heap.size u u') : KpR w w11 g wc A A' c c' P vs nx q m u' :=
  ⟨bt h.1 hb, Nat.le_trans h.2.1 hb.size, h.2.2.1.below hb h.2.2.1.lt, h.2.2.2.below hb⟩
theorem KpR.off (h : KpR w w11 g wc A A' c c' P vs nx q m u) (hg : u.grownBy u' (some g)) (hw : w.heap.size ≤ g) (hne : wc ≠ g) : KpR w w11 g wc A A' c c' P vs nx q m u' :=
  ⟨h.1.grown hg h.1.size (fun r e => by cases e; exact hw), Nat.le_trans h.2.1 hg.size, Re.Blk.off h.2.2.1 hg hne, h.2.2.2.off hg⟩
end
def TBs (w8 : World) (j : Nat) (u : World) : Prop := (j = 1 ∨ j = 3 ∨ j = 10) → Below w8.heap.size w8 u
theorem TBs.step {w8 : World} {g k j : Nat} {u u' : World} (h : TBs w8 j u) (he : EB 10 g k u u') (hkj : k ≠ j) (hw : k = 10 → (j = 1 ∨ j = 3) → False) : TBs w8 j u' := fun hj => by
  by_cases hk : k = 10
  · rcases hj with hj | hj | hj
    · exact (hw hk (.inl hj)).elim
    · exact (hw hk (.inr hj)).elim
    · exact absurd (hk.trans hj.symm) hkj
  · exact bt (h hj) (he.other hk)
def VRa (P : Prs) (vs : List Nat) (nx : Int) (q m g wb : Nat) (A A' : Option Addr) (c c' : Nat) (S6 : RS) (n : Int) (i : Nat) (v : Value) (w : World) : Prop :=
  match i with
  | 0 => v = .pointer (some ⟨g, 0, none⟩)
  | 1 => IsImG g P vs nx q m v w
  | 2 => IsImG g P vs nx q m v w
  | 3 => v = .agg #[.slice A q c, .slice A' m c', .int .i64 nx] ∧ IsImG g P vs nx q m (.agg #[.slice A q c, .slice A' m c', .int .i64 nx]) w
  | 4 => IsImG g P vs nx q m v w
  | 5 => v = .bool true
  | 6 => v = .bool false
  | 7 => v = .bool false
  | 8 => v = .pointer (some ⟨g, 0, none⟩)
  | 9 => v = .int .i64 n
  | 10 => v = .int .i64 0 ∧ PstR g S6 w
  | 11 => v = .bool false
  | 12 => v = .bool false
  | _ => True
theorem VRa.mono {P : Prs} {vs : List Nat} {nx : Int} {q m g wb : Nat} {A A' : Option Addr} {c c' : Nat} {S6 : RS} {n : Int} {q i : Nat} {v : Value} {u u' : World} (he : Below u.heap.size u u') (h : VRa P vs nx q m g wb A A' c c' S6 n i v u) : VRa P vs nx q m g wb A A' c c' S6 n i v u' := by
  unfold VRa at h ⊢
  split at h <;> first | with_reducible exact h | exact h.below he | exact ⟨h.1, h.2.below he⟩
theorem VRa.monoE {P : Prs} {vs : List Nat} {nx : Int} {q m g wb : Nat} {A A' : Option Addr} {c c' : Nat} {S6 : RS} {n : Int} {k i : Nat} {v : Value} {u u' : World} (he : EB 10 g k u u') (hik : i ≠ k) (h : VRa P vs nx q m g wb A A' c c' S6 n i v u) : VRa P vs nx q m g wb A A' c c' S6 n i v u' := by
  by_cases hk : k = 10
  · subst hk
    have hg := he.at_
    unfold VRa at h ⊢
    split at h <;> first | with_reducible exact h | with_reducible exact h.off hg | with_reducible exact ⟨h.1, h.2.off hg⟩ | exact (hik rfl).elim
  · exact VRa.mono (q := 0) (he.other hk) h
def VRb (P : Prs) (vs : List Nat) (nx : Int) (q m g wb : Nat) (A A' : Option Addr) (c c' : Nat) (i : Nat) (v : Value) (w : World) : Prop :=
  match i with
  | 0 => v = .bool true
  | 1 => v = .bool true
  | 2 => v = .pointer (some ⟨g, 0, none⟩)
  | 3 => IsIm P vs nx q m v w
  | 4 => IsIm P vs nx q m v w
  | 5 => v = .agg #[.slice A q c, .slice A' m c', .int .i64 nx]
  | 6 => IsIm P vs nx q m v w
  | 7 => v = .bool true
  | 8 => v = .bool true
  | 9 => v = .bool true
  | _ => True
theorem VRb.mono {P : Prs} {vs : List Nat} {nx : Int} {q m g wb : Nat} {A A' : Option Addr} {c c' : Nat} {q i : Nat} {v : Value} {u u' : World} (he : Below u.heap.size u u') (h : VRb P vs nx q m g wb A A' c c' i v u) : VRb P vs nx q m g wb A A' c c' i v u' := by
  unfold VRb at h ⊢
  split at h <;> first | with_reducible exact h | exact IsIm.below h he

set_option maxRecDepth 100000 in
set_option maxHeartbeats 8000000 in
theorem resRedo_main (A0 : Option Addr) (ops : List OpV) (c0 : Nat) (n : Int) (w : World) (h : OpsAt w A0 ops) (hcp : ∀ o ∈ ops, CapV o) (hn : i64ok n) :
    Calls Tryz.prog 7 #[.slice A0 ops.length c0, .int .i64 n] w fun e w' => e = .returned (.bool true) ∧ Below w.heap.size w w' := by
  have HP0 := Lib.hid (played_any A0 ops ops.length c0 w (Lib.hid rfl) h (fun o ho => (hcp o ho).1))
  have hvs := VS.play ops (fun o ho => ⟨(h.2.1 o ho).1.v, fun x hx => ((hcp o ho).2 x hx).2.2⟩)
  obtain ⟨m0, hm0⟩ : ∃ m0, m0 = ops.length := ⟨_, rfl⟩
  obtain ⟨S, hS⟩ : ∃ S, S = playR ops := ⟨_, rfl⟩
  have hR := RInv.play ops
  rw [← hS] at hR hvs
  rw [← hm0, ← hS] at HP0
  rw [← hm0]
  have HR := Lib.hid hR
  have HV := Lib.hid hvs
  have HI := Lib.hid hn
  clear h hcp hm0 hS hR hn hvs
  go_enter Tryz.func7, Tryz.ntmps7
  go_wp2_with fail
  refine HP0.out.mono ?_
  rintro e w1 ⟨⟨g, cs1, rfl, hk1, ⟨hok1, hfr1⟩, hgw⟩, hb1⟩
  have HIm0 := Lib.hid (image_img g cs1 S 300 w1 hk1)
  have himl := imL_of hok1
  have hld := load_back HR.out.qn hok1
  obtain ⟨P, hP⟩ : ∃ P, P = imP S.K 16 := ⟨_, rfl⟩
  obtain ⟨vs, hvs⟩ : ∃ vs, vs = S.Q.I.map Qu.IT.v := ⟨_, rfl⟩
  obtain ⟨nx, hnx⟩ : ∃ nx, nx = S.Q.g + 1 := ⟨_, rfl⟩
  rw [← hP, ← hvs, ← hnx] at HIm0 hld
  rw [← hP, ← hvs] at himl
  have H1 := Lib.hid (And.intro hk1 (And.intro hok1 (And.intro himl (And.intro hld (And.intro hP (And.intro hvs (And.intro hnx hb1)))))))
  have HGw0 := Lib.hid hgw
  clear hk1 hok1 hfr1 hgw hb1 himl hld hP hvs hnx HP0
  go_wp2_with fail
  refine HIm0.out.mono ?_
  rintro e w2 ⟨A5, q, c5, A5', m, c5', rfl, HX⟩
  obtain ⟨w3, hw3⟩ : ∃ w3, w3 = w2.alloc (.cells #[.slice A5 q c5, .slice A5' m c5', .int .i64 nx] 58) := ⟨_, rfl⟩
  obtain ⟨wb, hwb⟩ : ∃ wb, wb = w2.heap.size := ⟨_, rfl⟩
  have b3 : Below w2.heap.size w2 w3 := by rw [hw3]; exact ba _ _
  have k3 : Blk w3 wb 58 #[.slice A5 q c5, .slice A5' m c5', .int .i64 nx] := by rw [hw3, hwb]; exact Blk.new _ _ _
  have hi3 := HX.out.1.below b3
  have b13 := bt HX.out.2 b3
  have hr3 := H1.out.1.below b13
  have hgl := H1.out.1.lt
  have hne : wb ≠ g := by have := HX.out.2.size; omega
  have HPr := Lib.hid (resprep_any g cs1 S 300 n w3 hr3 (by omega) HI.out ⟨by have := kprep_len hr3.kv n; omega, by have := qprep_len hr3.qu n; omega⟩)
  have hL : ImL P vs q m := by
    have := H1.out.2.2.1
    rw [← hi3.q, ← hi3.q'] at this
    exact this
  have HLn := Lib.hid (Lib.hid hL)
  obtain ⟨L, hLq⟩ : ∃ L, L = (prepR S n).1.1 := ⟨_, rfl⟩
  obtain ⟨e0, he0⟩ : ∃ e0, e0 = (prepR S n).1.2 := ⟨_, rfl⟩
  obtain ⟨S3, hS3⟩ : ∃ S3, S3 = (prepR S n).2 := ⟨_, rfl⟩
  rw [← hLq, ← he0, ← hS3] at HPr
  have H3 := Lib.hid (And.intro k3 (And.intro hi3 (And.intro (bt H1.out.2.2.2.2.2.2.2 b13) (And.intro hne (And.intro hLq (And.intro he0 (And.intro hS3 (And.intro (Nat.lt_of_lt_of_le hgl b13.size) (And.intro hgl hr3.qu.nd)))))))))
  have HW3 := Lib.hid (And.intro hw3 hwb)
  clear b3 k3 hi3 b13 hr3 hgl hne hL hLq he0 hS3 hw3 hwb HIm0 HX
  go_wp2_with fail
  rw [← HW3.out.1, ← HW3.out.2]
  refine HPr.out.mono ?_
  rintro e w4 ⟨⟨Al, ql, cl, rfl, hql, own4⟩, ⟨⟨cs4, hk4⟩, hg4⟩⟩
  have hb4 := H3.out.2.2.1.grown hg4 H3.out.2.2.1.size (fun r e => by cases e; exact HGw0.out)
  have H4 := Lib.hid (And.intro hb4 (And.intro hql (And.intro own4 (And.intro hk4 hg4))))
  have h07 : e0 = 0 ∨ e0 = 1 ∨ e0 = 7 := by
    rw [H3.out.2.2.2.2.2.1]
    unfold prepR openR
    by_cases h1 : n < 1
    · rw [if_pos h1, if_pos (by decide)]; exact .inr (.inl rfl)
    · rw [if_neg h1]
      by_cases h2 : n ∈ S.pr
      · rw [if_pos h2, if_pos (by decide)]; exact .inr (.inr rfl)
      · rw [if_neg h2, if_neg (by simp)]; exact .inl rfl
  clear hb4 hql own4 hk4 hg4 HPr
  rcases h07 with rfl | rfl | rfl
  · have hpc := prep_cur HR.out.p (n := n) H3.out.2.2.2.2.2.1.symm
    have hri := HR.out.prep n
    have hpi := prep_im (S := S) n
    have hok3 := prepR_ok H1.out.2.1 H3.out.2.2.2.2.2.2.2.2.2 n
    have hvs3 := HV.out.prep n
    rw [← H3.out.2.2.2.2.1, ← H3.out.2.2.2.2.2.2.1] at hpc
    rw [← H3.out.2.2.2.2.2.2.1] at hri hpi hok3 hvs3
    have hpl := prepL hri hok3 H4.out.2.2.2.1.qu.nd hpc.1
    rw [← hpc.2] at hpl
    have hLv : ∀ x ∈ L, x.v < 18446744073709551616 := by rw [hpc.2]; exact (hvs3.1.cur n).app (hvs3.2.cur n)
    obtain ⟨T1, hrd⟩ := redo hri hok3 H4.out.2.2.2.1.qu.nd hpc.1 hpc.2 (B := S) ⟨hpi.1.symm, hpi.2.1.symm, hpi.2.2.symm⟩
    have hwk : ∀ x ∈ L, WOk x := fun x hx => by
      obtain ⟨⟨a1, a2⟩, a3, a4⟩ := hpl.ok x hx
      refine ⟨?_, by omega, hLv x hx⟩
      unfold badC
      simp
      omega
    have hwr := write_ok hpl.len (fun x hx => (hwk x hx).1)
    have hrb := read_back hpl.len hwk
    have hnb : L.any bigY = false := by
      rw [List.any_eq_false]
      intro x hx
      unfold bigY
      have := (hpl.ok x hx).2.2
      simp
      omega
    rw [hnb, if_neg (by simp)] at hrb
    have hlod := lodR_im (S := S) HR.out.z
    rw [← H1.out.2.2.2.2.1, ← H1.out.2.2.2.2.2.1] at hlod
    have hPS : imP S3.K 16 = P ∧ S3.Q.I.map Qu.IT.v = vs ∧ S3.Q.g + 1 = nx := by
      rw [hpi.2.1, hpi.2.2]
      exact ⟨(imP_eq hpi.1 16).trans H1.out.2.2.2.2.1.symm, H1.out.2.2.2.2.2.1.symm, H1.out.2.2.2.2.2.2.1.symm⟩
    have HCo := Lib.hid (rescommit_any g cs4 S3 303 n w4 H4.out.2.2.2.1 hok3 (by omega) HI.out)
    rw [hrd.2.2.2.2.1] at HCo
    obtain ⟨S5, hS5⟩ : ∃ S5, S5 = (commitR S3 n).2 := ⟨_, rfl⟩
    rw [← hS5] at HCo hrd
    have hok5 : Qu.QOk S5.Q := by
      rw [hS5]
      unfold commitR
      split
      · exact hok3
      · exact hok3.commit H4.out.2.2.2.1.qu.nd n
    have HM := Lib.hid (And.intro hpl.len (And.intro hwk (And.intro hwr (And.intro hrb (And.intro hPS (And.intro hrd (And.intro hok5 hlod)))))))
    clear hpc hri hpi hok3 hvs3 hpl hLv hrd hwk hwr hrb hnb hlod hPS hok5 hS5
    go_wp2_with fail
    refine HCo.out.mono ?_
    rintro e w5 ⟨rfl, ⟨⟨cs5, hk5⟩, hg5⟩⟩
    have hb5 := H4.out.1.grown hg5 H4.out.1.size (fun r e => by cases e; exact HGw0.out)
    have k5 := Re.Blk.off (Re.Blk.off H3.out.1 H4.out.2.2.2.2 H3.out.2.2.2.1) hg5 H3.out.2.2.2.1
    have hi5 := (H3.out.2.1.far H4.out.2.2.2.2 H3.out.2.2.2.2.2.2.2.2.1).far hg5 H3.out.2.2.2.2.2.2.2.2.1
    have own5 := H4.out.2.2.1.kept hg5 (fun r e => by cases e; exact H3.out.2.2.2.2.2.2.2.1)
    have HIm5 := Lib.hid (image_img g cs5 S5 305 w5 hk5)
    have himl := imL_of HM.out.2.2.2.2.2.2.1
    obtain ⟨P5, hP5⟩ : ∃ P5, P5 = imP S5.K 16 := ⟨_, rfl⟩
    obtain ⟨vs5, hvs5⟩ : ∃ vs5, vs5 = S5.Q.I.map Qu.IT.v := ⟨_, rfl⟩
    obtain ⟨nx5, hnx5⟩ : ∃ nx5, nx5 = S5.Q.g + 1 := ⟨_, rfl⟩
    rw [← hP5, ← hvs5, ← hnx5] at HIm5
    rw [← hP5, ← hvs5] at himl
    have H5 := Lib.hid (And.intro hb5 (And.intro k5 (And.intro hi5 (And.intro own5 (And.intro himl (And.intro hP5 (And.intro hvs5 hnx5)))))))
    clear hk5 hg5 hb5 k5 hi5 own5 himl hP5 hvs5 hnx5 HCo
    go_wp2_with fail
    refine HIm5.out.mono ?_
    rintro e w6 ⟨A7, q5, c7, A7', m5, c7', rfl, HX⟩
    obtain ⟨w7, hw7⟩ : ∃ w7, w7 = w6.alloc (.cells #[.slice A7 q5 c7, .slice A7' m5 c7', .int .i64 nx5] 58) := ⟨_, rfl⟩
    obtain ⟨wc, hwc⟩ : ∃ wc, wc = w6.heap.size := ⟨_, rfl⟩
    have b7 : Below w6.heap.size w6 w7 := by rw [hw7]; exact ba _ _
    have k7c : Blk w7 wc 58 #[.slice A7 q5 c7, .slice A7' m5 c7', .int .i64 nx5] := by rw [hw7, hwc]; exact Blk.new _ _ _
    have hi7 := HX.out.1.below b7
    have b57 := bt HX.out.2 b7
    have hL5 : ImL P5 vs5 q5 m5 := by
      have := H5.out.2.2.2.2.1
      rw [← hi7.q, ← hi7.q'] at this
      exact this
    have HLm := Lib.hid (Lib.hid hL5)
    have k7 := H5.out.2.1.below b57 H5.out.2.1.lt
    have own7 := ownC_grown H5.out.2.2.2.1 (lbelow_grown b57 none) (fun r e => by cases e)
    have hwa := write_any Al L ql cl (Lib.hid H4.out.2.1) (by have := H4.out.2.1; have := HM.out.1; omega) w7 own7.at_.inl (fun x hx => ⟨(HM.out.2.1 x hx).2.2, (HM.out.2.1 x hx).2.1⟩)
    rw [HM.out.2.2.1] at hwa
    have HWr := Lib.hid hwa
    have H7 := Lib.hid (And.intro (bt H5.out.1 b57) (And.intro k7 (And.intro (H5.out.2.2.1.below b57) (And.intro k7c hi7))))
    have HW7 := Lib.hid (And.intro hw7 hwc)
    clear b7 k7c hi7 b57 hL5 k7 own7 hwa hw7 hwc HIm5 HX
    go_wp2_with fail
    rw [← HW7.out.1, ← HW7.out.2]
    refine HWr.out.mono ?_
    rintro e w8 ⟨A8, q8, c8, rfl, HX8⟩
    dsimp only at HX8 ⊢
    have hcc := own_caps HX8.out.2.1
    have hrd := read_any A8 (bytesC L) q8 c8 w8 (Lib.hid HX8.out.1) (Lib.hid (by rw [HX8.out.1]; exact hcc.1)) (Lib.hid hcc.2) HX8.out.2.1.bs
    rw [HM.out.2.2.2.1] at hrd
    have HRd := Lib.hid hrd
    clear hcc hrd HWr
    go_wp2_with fail
    refine HRd.out.mono ?_
    rintro e w9 ⟨A9, q9, c9, rfl, HX9⟩
    dsimp only at HX9 ⊢
    have b79 := bt HX8.out.2.2 HX9.out.2.2
    have k9 := H7.out.2.1.below b79 H7.out.2.1.lt
    have hi9 := H7.out.2.2.1.below b79
    have HLd := Lib.hid (resload_any A5 A5' q c5 m c5' nx P vs w9 (Lib.hid HLn.out.out.1) (Lib.hid HLn.out.out.2.1) ⟨HLn.out.out.2.2.1, HLn.out.out.2.2.2⟩ hi9.pin hi9.uin)
    have p0 := k9.cell 0
    have p1 := k9.cell 1
    have p2 := k9.cell 2
    simp only [List.getElem?_toArray, List.getElem?_cons_zero, List.getElem?_cons_succ] at p0 p1 p2
    have H9 := Lib.hid (And.intro (bt H7.out.1 b79) (And.intro k9 (And.intro hi9 (And.intro (H7.out.2.2.2.1.below b79 H7.out.2.2.2.1.lt) (And.intro (H7.out.2.2.2.2.below b79) (And.intro HX9.out.1 HX9.out.2.1))))))
    clear b79 k9 hi9 HRd HX8 HX9
    go_wp2_with fail
    refine HLd.out.mono ?_
    clear p0 p1 p2
    rintro e w10 ⟨hb10, (⟨h0, _⟩ | ⟨h0, g7, cs10, rfl, hg7, hk10⟩)⟩
    · exact absurd H1.out.2.2.2.1.1 h0
    · rw [H1.out.2.2.2.1.2] at hk10
      have hcap9 : q9 ≤ c9 ∧ c9 ≤ 9223372036854775807 := ownC_caps H9.out.2.2.2.2.2.2 H9.out.2.2.2.2.2.1
      have own10 := ownC_grown H9.out.2.2.2.2.2.2 (lbelow_grown hb10 none) (fun r e => by cases e)
      have hne9 : blk A9 ≠ some g7 := fun e => by have h9 := (H9.out.2.2.2.2.2.2.lt' _ e).2; omega
      have hre := resrestore_any g7 cs10 (lodR S) 2000 n A9 L q9 c9 w10 hk10 (by omega) HI.out (Lib.hid H9.out.2.2.2.2.2.1) (by have := H9.out.2.2.2.2.2.1; have := HM.out.1; omega) hcap9 (fun u hu => (ownC_grown own10 hu (fun r e e2 => by cases e; exact hne9 e2)).at_.inl) (fun b _ => trivial) (fun b _ => trivial)
      rw [HM.out.2.2.2.2.2.1.1] at hre
      have HRe := Lib.hid hre
      have HGw : Hid (w.heap.size ≤ g7) := Lib.hid (Nat.le_trans H9.out.1.size hg7)
      have hwg : wb ≠ g7 ∧ wc ≠ g7 := by have := H9.out.2.1.lt; have := H9.out.2.2.2.1.lt; omega
      have H10 := Lib.hid (And.intro (bt H9.out.1 hb10) (And.intro (H9.out.2.1.below hb10 H9.out.2.1.lt) (And.intro (H9.out.2.2.1.isg (g := g7) nx (.inr hg7) |>.below hb10) (And.intro (H9.out.2.2.2.1.below hb10 H9.out.2.2.2.1.lt) (And.intro (H9.out.2.2.2.2.1.isg (g := g7) nx5 (.inr hg7) |>.below hb10) hwg)))))
      clear hk10 hcap9 own10 hne9 hre hwg h0 hb10 hg7 HLd
      go_wp2_with fail
      refine HRe.out.mono ?_
      rintro e w11 ⟨rfl, ⟨⟨cs11, hk11⟩, hg11⟩⟩
      have H11 := Lib.hid (H10.out.1.grown hg11 H10.out.1.size (fun r e => by cases e; exact HGw.out))
      have k11 := Re.Blk.off H10.out.2.1 hg11 H10.out.2.2.2.2.2.1
      have k11c := Re.Blk.off H10.out.2.2.2.1 hg11 H10.out.2.2.2.2.2.2
      have p0 := k11.cell 0
      have p1 := k11.cell 1
      have p2 := k11.cell 2
      simp only [List.getElem?_toArray, List.getElem?_cons_zero, List.getElem?_cons_succ] at p0 p1 p2
      have HBl : Hid (wb < w11.heap.size ∧ w11.cell? ⟨wb, 0, none⟩ = some (.slice A5 q c5) ∧ w11.cell? ⟨wb, 1, none⟩ = some (.slice A5' m c5') ∧ w11.cell? ⟨wb, 2, none⟩ = some (.int .i64 nx)) := Lib.hid ⟨k11.lt, p0, p1, p2⟩
      obtain ⟨_, hokT, hT0, hc0, _, hT5⟩ := HM.out.2.2.2.2.2.1
      have hPS := HM.out.2.2.2.2.1
      have HIm : Hid (∀ u, Below w11.heap.size w11 u → Calls Tryz.prog 18 #[.pointer (some ⟨g7, 0, none⟩)] u fun e w' => ∃ v, e = .returned v ∧ IsImG g7 P vs nx q m v w' ∧ Below u.heap.size u w') := Lib.hid fun u hu => image_isg cs11 T1 2004 u (hk11.below hu) (hT0.1.trans hPS.1) (hT0.2.1.trans hPS.2.1) (by rw [hT0.2.2]; exact hPS.2.2) HLn.out
      have HWas : Hid (IsImG g7 P vs nx q m (.agg #[.slice A5 q c5, .slice A5' m c5', .int .i64 nx]) w11) := Lib.hid (H10.out.2.2.1.off hg11)
      obtain ⟨S6, hS6⟩ : ∃ S6, S6 = (commitR T1 n).2 := ⟨_, rfl⟩
      have HCm : Hid (∀ u, Below w11.heap.size w11 u → Calls Tryz.prog 27 #[.pointer (some ⟨g7, 0, none⟩), .int .i64 n] u fun e w' => e = .returned (.int .i64 0) ∧ u.grownBy w' (some g7) ∧ PstR g7 S6 w') := Lib.hid fun u hu => by
        refine (rescommit_any g7 cs11 T1 2004 n u (hk11.below hu) hokT (by omega) HI.out).mono ?_
        rintro e w' ⟨rfl, ⟨⟨cs', hk'⟩, hg'⟩⟩
        rw [hc0]
        rw [← hS6] at hk'
        exact ⟨rfl, hg', cs', hk'⟩
      have Hg7 : Hid (g7 < w11.heap.size) := Lib.hid hk11.lt
      rw [← hS6] at hT5
      have HT5 := Lib.hid hT5
      have HKp : Hid (KpR w w11 g7 wc A7 A7' c7 c7' P5 vs5 nx5 q5 m5 w11) := Lib.hid ⟨H11.out, Nat.le_refl _, k11c, H10.out.2.2.2.2.1.off hg11⟩
      have HNw := Lib.hid H10.out.2.2.2.2.2.2
      clear k11 k11c p0 p1 p2 hokT hT0 hc0 hT5 hPS hS6 hk11 hg11 HRe
      go_wp2_with fail
      refine wp_region_invU (F := ?FA) (V := VRa P vs nx q m g7 wb A5 A5' c5 c5' S6 n) (dead := fun _ => none) (T := TBs w11) (C := fun u => KpR w w11 g7 wc A7 A7' c7 c7' P5 vs5 nx5 q5 m5 u) (E := EB 10 g7) (by kernel_rfl) (by kernel_rfl) (by kernel_rfl) (fun x => ?hFA) ?hmonoA ?hTmA ?hTA ?hCA ?stepA ?finA
      case hFA => simp only [mkA, Act.put, List.setIfInBounds_toArray, List.set_cons_succ, List.set_cons_zero, Nat.reduceAdd, Nat.zero_add]; first | with_reducible rfl | rfl
      case hmonoA => exact fun k i v u u' he hik hwt hdd hv => VRa.monoE he hik hv
      case hTmA => exact fun k j u u' he hkj hwt hv => hv.step he hkj (fun hk hj => by subst hk; rcases hj with rfl | rfl <;> (first | (rw [show waitsU _ 10 1 = true by kernel_rfl] at hwt; cases hwt) | (rw [show waitsU _ 10 3 = true by kernel_rfl] at hwt; cases hwt)))
      case hTA => exact fun j hj => (Below.refl _ _).drew
      case hCA => exact HKp.out.below (Below.refl _ _).drew
      case stepA =>
        refine AllOps.cons (fun x u hC hT hp K hK => ?_) ?_
        · clear hp hT
          go_simp
          refine hK _ _ _ hC (EB.no (by decide) (Below.refl _ _)) (by exact rfl) ?_
          first | (simp only [Act.put, List.setIfInBounds_toArray, List.set_cons_succ, List.set_cons_zero]; done) | simp [Act.put]
        refine AllOps.cons (fun x u hC hT hp K hK => ?_) ?_
        · simp [KnownTill, Region.binds, VRa] at hp
          go_simp
          refine (HIm.out u (hT (by decide))).mono ?_
          rintro e wA ⟨vA, rfl, hvA, hbA⟩
          clear hT
          refine hK _ _ _ (hC.below hbA) (EB.no (by decide) hbA) hvA ?_
          first | (simp only [Act.put, List.setIfInBounds_toArray, List.set_cons_succ, List.set_cons_zero, hp]; done) | simp [Act.put, hp]
        refine AllOps.cons (fun x u hC hT hp K hK => ?_) ?_
        · simp [KnownTill, Region.binds, VRa] at hp
          clear hT
          go_simp
          have h1 : IsImG g7 P vs nx q m (x 1) u := by first | with_reducible exact hp.1 | with_reducible exact hp | with_reducible exact hp.2 | with_reducible exact hp.1.1
          refine (isimg_as HLn.out h1 (Nat.lt_of_lt_of_le Hg7.out hC.2.1)).mono ?_
          rintro e wA ⟨vA, rfl, hvA, hbA⟩
          refine hK _ _ _ (hC.below hbA) (EB.no (by decide) hbA) hvA ?_
          first | (simp only [Act.put, List.setIfInBounds_toArray, List.set_cons_succ, List.set_cons_zero, hp]; done) | simp [Act.put, hp]
        refine AllOps.cons (fun x u hC hT hp K hK => ?_) ?_
        · clear hp
          have hu := hT (by decide)
          have q0 := ((show Below w11.heap.size w11 u from hu).cell (p := ⟨wb, 0, none⟩) HBl.out.1).trans HBl.out.2.1
          have q1 := ((show Below w11.heap.size w11 u from hu).cell (p := ⟨wb, 1, none⟩) HBl.out.1).trans HBl.out.2.2.1
          have q2 := ((show Below w11.heap.size w11 u from hu).cell (p := ⟨wb, 2, none⟩) HBl.out.1).trans HBl.out.2.2.2
          have hi9 : IsImG g7 P vs nx q m (.agg #[.slice A5 q c5, .slice A5' m c5', .int .i64 nx]) u := HWas.out.below hu
          clear hT hu
          go_simp
          refine hK _ _ _ hC (EB.no (by decide) (Below.refl _ _)) ⟨by exact rfl, hi9⟩ ?_
          first | (simp only [Act.put, List.setIfInBounds_toArray, List.set_cons_succ, List.set_cons_zero]; done) | simp [Act.put]
        refine AllOps.cons (fun x u hC hT hp K hK => ?_) ?_
        · simp [KnownTill, Region.binds, VRa] at hp
          clear hT
          go_simp
          have h1 : IsImG g7 P vs nx q m (.agg #[.slice A5 q c5, .slice A5' m c5', .int .i64 nx]) u := by first | with_reducible exact hp.1.2 | with_reducible exact hp.2
          refine (isimg_as HLn.out h1 (Nat.lt_of_lt_of_le Hg7.out hC.2.1)).mono ?_
          rintro e wA ⟨vA, rfl, hvA, hbA⟩
          refine hK _ _ _ (hC.below hbA) (EB.no (by decide) hbA) hvA ?_
          first | (simp only [Act.put, List.setIfInBounds_toArray, List.set_cons_succ, List.set_cons_zero, hp]; done) | simp [Act.put, hp]
        refine AllOps.cons (fun x u hC hT hp K hK => ?_) ?_
        · simp [KnownTill, Region.binds, VRa] at hp
          clear hT
          go_simp
          have h1 : IsImG g7 P vs nx q m (x 2) u := by first | with_reducible exact hp.1 | with_reducible exact hp.2
          have h2 : IsImG g7 P vs nx q m (x 4) u := by first | with_reducible exact hp.2 | with_reducible exact hp.1
          refine (isim_same HLn.out h1.is h2.is).mono ?_
          rintro e wA ⟨rfl, hbA⟩
          refine hK _ _ _ (hC.below hbA) (EB.no (by decide) hbA) (by exact rfl) ?_
          first | (simp only [Act.put, List.setIfInBounds_toArray, List.set_cons_succ, List.set_cons_zero, hp]; done) | simp [Act.put, hp]
        refine AllOps.cons (fun x u hC hT hp K hK => ?_) ?_
        · simp [KnownTill, Region.binds, VRa] at hp
          clear hT
          go_simp
          refine hK _ _ _ hC (EB.no (by decide) (Below.refl _ _)) (by exact rfl) ?_
          first | (simp only [Act.put, List.setIfInBounds_toArray, List.set_cons_succ, List.set_cons_zero, hp]; done) | simp [Act.put, hp]
        refine AllOps.cons (fun x u hC hT hp K hK => ?_) ?_
        · simp [KnownTill, Region.binds, VRa] at hp
          clear hT
          go_simp
          refine hK _ _ _ hC (EB.no (by decide) (Below.refl _ _)) (by exact rfl) ?_
          first | (simp only [Act.put, List.setIfInBounds_toArray, List.set_cons_succ, List.set_cons_zero, hp]; done) | simp [Act.put, hp]
        refine AllOps.cons (fun x u hC hT hp K hK => ?_) ?_
        · simp [KnownTill, Region.binds, VRa] at hp
          clear hT
          go_simp
          refine hK _ _ _ hC (EB.no (by decide) (Below.refl _ _)) (by exact rfl) ?_
          first | (simp only [Act.put, List.setIfInBounds_toArray, List.set_cons_succ, List.set_cons_zero, hp]; done) | simp [Act.put, hp]
        refine AllOps.cons (fun x u hC hT hp K hK => ?_) ?_
        · simp [KnownTill, Region.binds, VRa] at hp
          clear hT
          go_simp
          refine hK _ _ _ hC (EB.no (by decide) (Below.refl _ _)) (by exact rfl) ?_
          first | (simp only [Act.put, List.setIfInBounds_toArray, List.set_cons_succ, List.set_cons_zero, hp]; done) | simp [Act.put, hp]
        refine AllOps.cons (fun x u hC hT hp K hK => ?_) ?_
        · simp [KnownTill, Region.binds, VRa] at hp
          go_simp
          refine (HCm.out u (hT (by decide))).mono ?_
          rintro e wA ⟨rfl, hgA, hpA⟩
          clear hT
          refine hK _ _ _ (hC.off hgA HGw.out HNw.out) (EB.yes hgA) ⟨rfl, hpA⟩ ?_
          first | (simp only [Act.put, List.setIfInBounds_toArray, List.set_cons_succ, List.set_cons_zero, hp]; done) | simp [Act.put, hp]
        refine AllOps.cons (fun x u hC hT hp K hK => ?_) ?_
        · simp [KnownTill, Region.binds, VRa] at hp
          clear hT
          go_simp
          refine hK _ _ _ hC (EB.no (by decide) (Below.refl _ _)) (by exact (by first | exact rfl | simp)) ?_
          first | (simp only [Act.put, List.setIfInBounds_toArray, List.set_cons_succ, List.set_cons_zero, hp]; done) | simp [Act.put, hp]
        refine AllOps.cons (fun x u hC hT hp K hK => ?_) ?_
        · simp [KnownTill, Region.binds, VRa] at hp
          clear hT
          go_simp
          refine hK _ _ _ hC (EB.no (by decide) (Below.refl _ _)) (by exact rfl) ?_
          first | (simp only [Act.put, List.setIfInBounds_toArray, List.set_cons_succ, List.set_cons_zero, hp]; done) | simp [Act.put, hp]
        exact AllOps.nil
      case finA =>
        intro x w12 hC hV
        have e86 : x 12 = .bool false := hV 12 (by decide) rfl
        rw [e86]
        clear e86
        have hpst : PstR g7 S6 w12 := (hV 10 (by decide) rfl).2
        clear hV
        obtain ⟨cs12, hk12⟩ := hpst
        have p0 := hC.2.2.1.cell 0
        have p1 := hC.2.2.1.cell 1
        have p2 := hC.2.2.1.cell 2
        simp only [List.getElem?_toArray, List.getElem?_cons_zero, List.getElem?_cons_succ] at p0 p1 p2
        have HBm : Hid (wc < w12.heap.size ∧ w12.cell? ⟨wc, 0, none⟩ = some (.slice A7 q5 c7) ∧ w12.cell? ⟨wc, 1, none⟩ = some (.slice A7' m5 c7') ∧ w12.cell? ⟨wc, 2, none⟩ = some (.int .i64 nx5)) := Lib.hid ⟨hC.2.2.1.lt, p0, p1, p2⟩
        have hP6 : imP S6.K 16 = P5 := by rw [HT5.out.1]; exact H5.out.2.2.2.2.2.1.symm
        have hv6 : S6.Q.I.map Qu.IT.v = vs5 := by rw [HT5.out.2.1]; exact H5.out.2.2.2.2.2.2.1.symm
        have hn6 : S6.Q.g + 1 = nx5 := by rw [HT5.out.2.2]; exact H5.out.2.2.2.2.2.2.2.symm
        have HIn : Hid (∀ u, Below w12.heap.size w12 u → Calls Tryz.prog 18 #[.pointer (some ⟨g7, 0, none⟩)] u fun e w' => ∃ v, e = .returned v ∧ IsIm P5 vs5 nx5 q5 m5 v w' ∧ Below u.heap.size u w') := Lib.hid fun u hu => image_is g7 cs12 S6 2006 u (hk12.below hu) hP6 hv6 hn6 HLm.out
        have HWat : Hid (IsIm P5 vs5 nx5 q5 m5 (.agg #[.slice A7 q5 c7, .slice A7' m5 c7', .int .i64 nx5]) w12) := Lib.hid hC.2.2.2.is
        have H12 := Lib.hid hC.1
        clear hC hk12 p0 p1 p2 hP6 hv6 hn6 HIm HWas HCm HBl HKp
        go_wp2_with fail
        refine wp_region_invT (F := ?FB) (V := VRb P5 vs5 nx5 q5 m5 g7 wc A7 A7' c7 c7') (dead := fun _ => none) (T := fun _ _ => True) (C := fun u => Below w12.heap.size w12 u) (E := fun _ u u' => Below u.heap.size u u') (by kernel_rfl) (by kernel_rfl) (by kernel_rfl) (fun x => ?hFB) ?hmonoB ?hTmB ?hTB ?hCB ?stepB ?finB
        case hFB => simp only [mkA, Act.put, List.setIfInBounds_toArray, List.set_cons_succ, List.set_cons_zero, Nat.reduceAdd, Nat.zero_add]; first | with_reducible rfl | rfl
        case hmonoB => exact fun q' i v u u' he hik hwt hdd hv => VRb.mono (q := q') he hv
        case hTmB => exact fun _ _ _ _ _ _ _ _ => trivial
        case hTB => exact fun j => trivial
        case hCB => exact (Below.refl _ _).drew
        case stepB =>
          refine AllOps.cons (fun x u hC hT hp K hK => ?_) ?_
          · clear hp hT
            go_simp
            refine (alive_any u).mono ?_
            rintro e wA ⟨rfl, hbA⟩
            refine hK _ _ _ (bt hC hbA) hbA (by exact rfl) ?_
            first | (simp only [Act.put, List.setIfInBounds_toArray, List.set_cons_succ, List.set_cons_zero]; done) | simp [Act.put]
          refine AllOps.cons (fun x u hC hT hp K hK => ?_) ?_
          · simp [KnownTill, Region.binds, VRb] at hp
            clear hT
            go_simp
            refine hK _ _ _ hC (Below.refl _ _) (by exact rfl) ?_
            first | (simp only [Act.put, List.setIfInBounds_toArray, List.set_cons_succ, List.set_cons_zero, hp]; done) | simp [Act.put, hp]
          refine AllOps.cons (fun x u hC hT hp K hK => ?_) ?_
          · simp [KnownTill, Region.binds, VRb] at hp
            clear hT
            go_simp
            refine hK _ _ _ hC (Below.refl _ _) (by exact rfl) ?_
            first | (simp only [Act.put, List.setIfInBounds_toArray, List.set_cons_succ, List.set_cons_zero, hp]; done) | simp [Act.put, hp]
          refine AllOps.cons (fun x u hC hT hp K hK => ?_) ?_
          · simp [KnownTill, Region.binds, VRb] at hp
            clear hT
            go_simp
            refine (HIn.out u hC).mono ?_
            rintro e wA ⟨vA, rfl, hvA, hbA⟩
            refine hK _ _ _ (bt hC hbA) hbA hvA ?_
            first | (simp only [Act.put, List.setIfInBounds_toArray, List.set_cons_succ, List.set_cons_zero, hp]; done) | simp [Act.put, hp]
          refine AllOps.cons (fun x u hC hT hp K hK => ?_) ?_
          · simp [KnownTill, Region.binds, VRb] at hp
            clear hT
            go_simp
            have h1 : IsIm P5 vs5 nx5 q5 m5 (x 3) u := by first | with_reducible exact hp.1 | with_reducible exact hp.2.1 | with_reducible exact hp.2 | with_reducible exact hp.2.2.1 | with_reducible exact hp
            refine (isim_as HLm.out h1).mono ?_
            rintro e wA ⟨vA, rfl, hvA, hbA⟩
            refine hK _ _ _ (bt hC hbA) hbA hvA ?_
            first | (simp only [Act.put, List.setIfInBounds_toArray, List.set_cons_succ, List.set_cons_zero, hp]; done) | simp [Act.put, hp]
          refine AllOps.cons (fun x u hC hT hp K hK => ?_) ?_
          · simp [KnownTill, Region.binds, VRb] at hp
            clear hT
            have q0 := ((show Below w12.heap.size w12 u from hC).cell (p := ⟨wc, 0, none⟩) HBm.out.1).trans HBm.out.2.1
            have q1 := ((show Below w12.heap.size w12 u from hC).cell (p := ⟨wc, 1, none⟩) HBm.out.1).trans HBm.out.2.2.1
            have q2 := ((show Below w12.heap.size w12 u from hC).cell (p := ⟨wc, 2, none⟩) HBm.out.1).trans HBm.out.2.2.2
            go_simp
            refine hK _ _ _ hC (Below.refl _ _) (by exact rfl) ?_
            first | (simp only [Act.put, List.setIfInBounds_toArray, List.set_cons_succ, List.set_cons_zero, hp]; done) | simp [Act.put, hp]
          refine AllOps.cons (fun x u hC hT hp K hK => ?_) ?_
          · simp [KnownTill, Region.binds, VRb] at hp
            clear hT
            go_simp
            refine (isim_as HLm.out (IsIm.below HWat.out hC)).mono ?_
            rintro e wA ⟨vA, rfl, hvA, hbA⟩
            refine hK _ _ _ (bt hC hbA) hbA hvA ?_
            first | (simp only [Act.put, List.setIfInBounds_toArray, List.set_cons_succ, List.set_cons_zero, hp]; done) | simp [Act.put, hp]
          refine AllOps.cons (fun x u hC hT hp K hK => ?_) ?_
          · simp [KnownTill, Region.binds, VRb] at hp
            clear hT
            go_simp
            have h1 : IsIm P5 vs5 nx5 q5 m5 (x 4) u := by first | with_reducible exact hp.1 | with_reducible exact hp.2.1 | with_reducible exact hp.2.2.1 | with_reducible exact hp.2
            have h2 : IsIm P5 vs5 nx5 q5 m5 (x 6) u := by first | with_reducible exact hp.2.1 | with_reducible exact hp.2 | with_reducible exact hp.2.2.1 | with_reducible exact hp.1
            refine (isim_same HLm.out h1 h2).mono ?_
            rintro e wA ⟨rfl, hbA⟩
            refine hK _ _ _ (bt hC hbA) hbA (by exact rfl) ?_
            first | (simp only [Act.put, List.setIfInBounds_toArray, List.set_cons_succ, List.set_cons_zero, hp]; done) | simp [Act.put, hp]
          refine AllOps.cons (fun x u hC hT hp K hK => ?_) ?_
          · simp [KnownTill, Region.binds, VRb] at hp
            clear hT
            go_simp
            refine hK _ _ _ hC (Below.refl _ _) (by exact rfl) ?_
            first | (simp only [Act.put, List.setIfInBounds_toArray, List.set_cons_succ, List.set_cons_zero, hp]; done) | simp [Act.put, hp]
          refine AllOps.cons (fun x u hC hT hp K hK => ?_) ?_
          · simp [KnownTill, Region.binds, VRb] at hp
            clear hT
            go_simp
            refine hK _ _ _ hC (Below.refl _ _) (by exact rfl) ?_
            first | (simp only [Act.put, List.setIfInBounds_toArray, List.set_cons_succ, List.set_cons_zero, hp]; done) | simp [Act.put, hp]
          exact AllOps.nil
        case finB =>
          intro x u hC hV
          have e4 : x 9 = .bool true := hV 9 (by decide) rfl
          rw [e4]
          clear e4
          clear hV
          have HF := Lib.hid (bt H12.out hC)
          clear hC HIn HWat HBm
          go_wp2
          go_ret
          exact ⟨rfl, HF.out⟩
  · have HBe := Lib.hid H4.out.1
    go_wp2_with fail
    refine (alive_any _).mono ?_
    rintro e wz ⟨rfl, hbz⟩
    have hBz := Lib.hid (bt HBe.out hbz)
    clear hbz
    go_wp2
    go_ret
    exact ⟨rfl, hBz.out⟩
  · have HBe := Lib.hid H4.out.1
    go_wp2_with fail
    refine (alive_any _).mono ?_
    rintro e wz ⟨rfl, hbz⟩
    have hBz := Lib.hid (bt HBe.out hbz)
    clear hbz
    go_wp2
    go_ret
    exact ⟨rfl, hBz.out⟩
end Go.Proofs.YtlliaihmfimdoaaGreat.Re
