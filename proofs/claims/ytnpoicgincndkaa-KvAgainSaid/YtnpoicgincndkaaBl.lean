/- Layer 13: a work is restored. -/
import Derived.Test.YtnpoicgincndkaaBk
namespace Go.Proofs.Ytnpoicgincndkaa
open Go.RowKit Go.Maps
set_option linter.unusedVariables false
set_option linter.unusedSimpArgs false

/-- The locks of all changes are taken, or none. -/
def takeAll (L : List LRow) (n : Int) : List Ch → Int × List LRow
  | [] => (0, L)
  | x :: r => if (takeL L n x.y true).1 = 0 then takeAll (takeL L n x.y true).2 n r else ((takeL L n x.y true).1, dropL (takeL L n x.y true).2 n)
theorem areB_keys : ∀ (l : List Ch) (s : Nat → Bool), areB s l = true → ∀ x ∈ l, keyB x.y = true
  | [], _, _, x, hx => by cases hx
  | y :: l, s, h, x, hx => by
    simp only [areB, Bool.and_eq_true] at h
    rcases List.mem_cons.1 hx with rfl | hx
    · exact h.2.1
    · exact areB_keys l _ h.2.2.2 x hx
theorem keyB_ok {y : Int} (h : keyB y = true) : i64ok y := by
  obtain ⟨k, hk, rfl⟩ := keyB_nat h; unfold i64ok; omega
def restW (S : KS) (n : Int) (l : List Ch) : Int → Option (List Ch × Bool) := if l = [] then S.W else updW S.W n (some (l, true))
def restoreM (S : KS) (n : Int) (l : List Ch) : Int × KS :=
  if n < 1 then (1, S) else if areB (fun _ => false) l = false then (1, S) else if busyB S n = true then (7, S)
  else if (takeAll S.L n l).1 = 0 then (0, { S with L := (takeAll S.L n l).2, W := restW S n l })
  else ((takeAll S.L n l).1, { S with L := (takeAll S.L n l).2 })
theorem takeAll_len : ∀ (l : List Ch) (L : List LRow) (n : Int), L.length ≤ 64 → (takeAll L n l).2.length ≤ 64
  | [], L, n, h => h
  | x :: r, L, n, h => by
    simp only [takeAll]
    have h2 := takeL_len h n x.y true
    split
    · exact takeAll_len r _ n h2
    · exact Nat.le_trans (dropL_len _ _) h2
def VRs (g tb : Nat) (n y er : Int) (i : Nat) (v_ : Value) : Prop :=
  match i with
  | 0 => v_ = .pointer (some ⟨g, 0, none⟩)
  | 1 => v_ = .pointer (some ⟨g, 0, none⟩)
  | 2 => v_ = .pointer (some ⟨g, 33, none⟩)
  | 3 => v_ = .int .i64 n
  | 4 => v_ = .pointer (some ⟨tb, 1, none⟩)
  | 5 => v_ = .int .i64 y
  | 6 => v_ = .int .i64 er
  | 7 => v_ = .int .i64 er
  | _ => True
structure CRs (wA : World) (g tb : Nat) (kd y : Int) (v : Nat) (P : World → Prop) (ls : Nat → Bool) (x : Nat → Value) (u : World) : Prop where
  b : Blk u tb 47 #[.int .i64 kd, .int .i64 y, .int .u64 (v : Nat)]
  n : ls 6 = false → u = wA.drew
  s : ls 6 = true → P u
theorem CRs.pure {wA : World} {g tb : Nat} {kd y : Int} {v : Nat} {P : World → Prop} {ls : Nat → Bool} {x : Nat → Value} {u : World} {i : Nat} {z : Value} (hi : i ≠ 6) (h : CRs wA g tb kd y v P ls x u) : CRs wA g tb kd y v P (updB ls i) (upd x i z) u := by
  obtain ⟨h1, h2, h3⟩ := h
  exact ⟨h1, by rw [updB_other hi.symm]; exact h2, by rw [updB_other hi.symm]; exact h3⟩
theorem restore_nil (n : Int) (A : Option Addr) (q c : Nat) (w : World) : Calls Try.prog 25 #[.pointer none, .int .i64 n, .slice A q c] w fun e w' => e = .returned (.int .i64 6) ∧ w = w' := by
  go_enter Try.func25, Try.ntmps25
  go_wp2_with fail
  refine (names_nil n w).mono ?_
  rintro e w1 ⟨rfl, rfl⟩
  go_wp2
  go_ret
  exact ⟨rfl, rfl⟩
set_option maxRecDepth 100000 in
set_option maxHeartbeats 4000000 in
theorem restore_any (g : Nat) (tt : TypeId) (cs : Array Value) (S : KS) (N : Nat) (n : Int) (A : Option Addr) (l : List Ch) (q c : Nat) (w : World) (h : KvAt w g tt cs S N) (hN : N < 300000) (hn : i64ok n) (hq : Hid (q = l.length)) (hqN : q ≤ N + 1) {B : Nat → Prop} (hc : ChAt w B A l) (hB : ∀ b, w.heap.size ≤ b → S.B b) :
    Calls Try.prog 25 #[.pointer (some ⟨g, 0, none⟩), .int .i64 n, .slice A q c] w fun e w' => e = .returned (.int .i64 (restoreM S n l).1) ∧ KvO w g tt cs (restoreM S n l).2 (N + 1) w' := by
  have HN := Lib.hid (names_any g n w)
  by_cases h1 : n < 1
  · have hM : restoreM S n l = (1, S) := if_pos h1
    rw [hM]
    have HF := Lib.hid (KvO.same (h.more (Nat.le_succ N)) (Below.refl _ _))
    have hE : namesE n = 1 := if_pos h1
    rw [hE] at HN
    clear h hM hE hc hB
    go_enter Try.func25, Try.ntmps25
    go_wp2_with fail
    refine HN.out.mono ?_
    rintro e w1 ⟨rfl, rfl⟩
    go_wp2
    go_ret
    exact ⟨rfl, HF.out⟩
  have hE : namesE n = 0 := if_neg h1
  rw [hE] at HN
  have HA := Lib.hid (are_any A l q c w hq (by omega) hc)
  have HR : restoreM S n l = if areB (fun _ => false) l = false then (1, S) else if busyB S n = true then (7, S) else if (takeAll S.L n l).1 = 0 then (0, { S with L := (takeAll S.L n l).2, W := restW S n l }) else ((takeAll S.L n l).1, { S with L := (takeAll S.L n l).2 }) := if_neg h1
  rw [HR]
  have H := Lib.hid (And.intro h (And.intro hn hc))
  have HBB := Lib.hid hB
  clear HR hE h hn hc hB
  rcases ha : areB (fun _ => false) l with _ | _
  · rw [if_pos rfl]
    rw [ha] at HA
    clear ha
    go_enter Try.func25, Try.ntmps25
    go_wp2_with fail
    refine HN.out.mono ?_
    rintro e w1 ⟨rfl, rfl⟩
    go_wp2_with fail
    refine HA.out.mono ?_
    rintro e w2 ⟨rfl, b2⟩
    have HF := Lib.hid (KvO.same (H.out.1.more (Nat.le_succ N)) b2)
    clear b2
    go_wp2
    go_ret
    exact ⟨rfl, HF.out⟩
  rw [if_neg (by simp)]
  rw [ha] at HA
  have Hkeys := Lib.hid (areB_keys l _ ha)
  clear ha
  have hbz := fun (u : World) (hb : Below w.heap.size w u) => busy_any g tt cs S N n u (H.out.1.below hb) H.out.2.1
  rcases hbs : busyB S n with _ | _
  · rw [if_neg (by simp)]
    rw [hbs] at hbz
    have HB := Lib.hid hbz
    clear hbz hbs
    obtain ⟨R, hR⟩ : ∃ R, R = takeAll S.L n l := ⟨_, rfl⟩
    rw [← hR]
    have HRR := Lib.hid hR
    obtain ⟨re, rL⟩ := R
    dsimp only
    rcases hre : (re == 0) with _ | _
    · have hre' : re ≠ 0 := by simpa using hre
      rw [if_neg hre']
      clear hR hre'
      go_enter Try.func25, Try.ntmps25
      go_wp2_with fail
      refine HN.out.mono ?_
      rintro e w1 ⟨rfl, rfl⟩
      go_wp2_with fail
      refine HA.out.mono ?_
      rintro e w2 ⟨rfl, b2⟩
      go_wp2_with fail
      refine (HB.out w2 b2).mono ?_
      rintro e w3 ⟨rfl, b3⟩
      have H3 := Lib.hid (And.intro (H.out.1.below (bt b2 b3)) (And.intro (H.out.2.2.below (bt b2 b3)) (bt b2 b3)))
      clear b2 b3 HA HB HN
      have hqm : q ≤ 9223372036854775807 := by omega
      go_wp2_with fail
      go_loopw [27] (fun i wr => ∃ (i0 : Nat) (L0 : List LRow), i0 ≤ q ∧ i = .int .i64 i0 ∧ Hid (takeAll S.L n l = takeAll L0 n (l.drop i0) ∧ (∃ cs', KvAt wr g tt cs' { S with L := L0 } N ∧ Keep cs cs') ∧ w.grownBy wr (some g) ∧ ChAt wr B A l)) (fun i _ => q - (intOf i).toNat)
      case atStart => exact ⟨0, S.L, Nat.zero_le _, rfl, Lib.hid ⟨rfl, ⟨cs, H3.out.1, Keep.rfl'⟩, lbelow_grown H3.out.2.2 _, H3.out.2.1⟩⟩
      case round =>
        clear H3
        obtain ⟨i0, L0, hi, rfl, HR⟩ := hrel
        by_cases hiq : i0 < q
        · have hiI : (i0 : Int) < (q : Int) := by omega
          obtain ⟨hE, ⟨cs', hk, hkp⟩, hg, hc⟩ := HR.out
          have hil : i0 < l.length := by rw [← hq.out]; exact hiq
          obtain ⟨b, o, rfl, hbk, hcs⟩ := hc (by omega)
          obtain ⟨q0, q1, q2⟩ := hcs i0 hil
          rw [List.drop_eq_getElem_cons hil] at hE
          obtain ⟨x, hx⟩ : ∃ x, x = l[i0]'hil := ⟨_, rfl⟩
          have hxk := Hkeys.out x (by rw [hx]; exact List.getElem_mem hil)
          rw [← hx] at q0 q1 q2 hE
          obtain ⟨kd, y, v⟩ := x
          dsimp only at q0 q1 q2 hxk
          have Hyo := Lib.hid (keyB_ok hxk)
          obtain ⟨TL, hTL⟩ : ∃ TL, TL = takeL L0 n y true := ⟨_, rfl⟩
          obtain ⟨er, her⟩ : ∃ er, er = TL.1 := ⟨_, rfl⟩
          simp only [takeAll, ← hTL, ← her] at hE
          have HTL := Lib.hid hTL
          have Her : Hid (Value.int .i64 (takeL L0 n y true).1 = Value.int .i64 er) := Lib.hid (by rw [← hTL, her])
          obtain ⟨wA, hwA⟩ : ∃ wA, wA = wr.alloc (.cells #[.int .i64 kd, .int .i64 y, .int .u64 (v : Nat)] 47) := ⟨_, rfl⟩
          have bA : Below wr.heap.size wr wA := by rw [hwA]; exact ba _ _
          have kA : Blk wA wr.heap.size 47 #[.int .i64 kd, .int .i64 y, .int .u64 (v : Nat)] := by rw [hwA]; exact Blk.new _ _ _
          have HA2 := Lib.hid (And.intro (hk.below bA) (And.intro hkp (And.intro (hg.trans (lbelow_grown bA (some g))) (And.intro (hc.below bA) (And.intro kA (And.intro hE (show g ≠ wr.heap.size by have := hk.lt; omega)))))))
          have HWA := Lib.hid hwA
          clear hk hkp hg hc hbk hcs hx hil HR hwA bA kA hE hxk hTL
          go_wp2_with fail
          rw [← HWA.out]
          clear q0 q1 q2
          obtain ⟨tb, htb⟩ : ∃ tb, tb = wr.heap.size := ⟨_, rfl⟩
          rw [← htb] at HA2 ⊢
          have HER := Lib.hid her
          clear htb HWA her
          refine wp_region_invJ (F := ?FR1) (V := (VRs g tb n y er)) (C := (CRs wA g tb kd y v (fun u => (∃ cs2, KvAt u g tt cs2 { S with L := TL.2 } N ∧ Keep cs' cs2) ∧ wA.grownBy u (some g)))) (by kernel_rfl) (by kernel_rfl) (by kernel_rfl) (fun x => ?hFR1) ?hCR1 ?stepR1 ?finR1
          case hFR1 => simp only [mkA, Act.put, List.setIfInBounds_toArray, List.set_cons_succ, List.set_cons_zero, Nat.reduceAdd, Nat.zero_add]; first | with_reducible rfl | rfl
          case hCR1 => exact fun x => ⟨HA2.out.2.2.2.2.1, fun _ => rfl, fun e => by simp at e⟩
          case stepR1 =>
            refine AllOps.cons (fun ls x u hC hl hp K hK => ?_) ?_
            · clear hp
              go_simp
              refine hK _ _ _ (CRs.pure (by decide) hC) (by exact rfl) ?_
              first | (simp only [Act.put, List.setIfInBounds_toArray, List.set_cons_succ, List.set_cons_zero]; done) | simp [Act.put]
            refine AllOps.cons (fun ls x u hC hl hp K hK => ?_) ?_
            · simp [KnownTill, Region.binds, VRs] at hp
              go_simp
              refine hK _ _ _ (CRs.pure (by decide) hC) (by exact rfl) ?_
              first | (simp only [Act.put, List.setIfInBounds_toArray, List.set_cons_succ, List.set_cons_zero, hp]; done) | simp [Act.put, hp]
            refine AllOps.cons (fun ls x u hC hl hp K hK => ?_) ?_
            · simp [KnownTill, Region.binds, VRs] at hp
              go_simp
              refine hK _ _ _ (CRs.pure (by decide) hC) (by exact rfl) ?_
              first | (simp only [Act.put, List.setIfInBounds_toArray, List.set_cons_succ, List.set_cons_zero, hp]; done) | simp [Act.put, hp]
            refine AllOps.cons (fun ls x u hC hl hp K hK => ?_) ?_
            · clear hp
              go_simp
              refine hK _ _ _ (CRs.pure (by decide) hC) (by exact rfl) ?_
              first | (simp only [Act.put, List.setIfInBounds_toArray, List.set_cons_succ, List.set_cons_zero]; done) | simp [Act.put]
            refine AllOps.cons (fun ls x u hC hl hp K hK => ?_) ?_
            · clear hp
              go_simp
              refine hK _ _ _ (CRs.pure (by decide) hC) (by exact rfl) ?_
              first | (simp only [Act.put, List.setIfInBounds_toArray, List.set_cons_succ, List.set_cons_zero]; done) | simp [Act.put]
            refine AllOps.cons (fun ls x u hC hl hp K hK => ?_) ?_
            · simp [KnownTill, Region.binds, VRs] at hp
              have cc := hC.b.cell 1
              simp only [List.getElem?_toArray, List.getElem?_cons_zero, List.getElem?_cons_succ] at cc
              go_simp
              refine hK _ _ _ (CRs.pure (by decide) hC) (by exact rfl) ?_
              first | (simp only [Act.put, List.setIfInBounds_toArray, List.set_cons_succ, List.set_cons_zero, hp]; done) | simp [Act.put, hp]
            refine AllOps.cons (fun ls x u hC hl hp K hK => ?_) ?_
            · simp [KnownTill, Region.binds, VRs] at hp
              have hu := hC.n hl
              have hku : KvAt u g tt cs' { S with L := L0 } N := by rw [hu]; exact HA2.out.1.below ⟨rfl, rfl, rfl, Nat.le_refl _, fun _ _ => rfl⟩
              have hgu : wA.grownBy u (some g) := by rw [hu]; exact ⟨rfl, rfl, rfl, Nat.le_refl _, fun _ _ _ => rfl⟩
              have HTk := Lib.hid (take_any g 33 tt cs' L0 n y true u hku.tab Hyo.out H.out.2.1)
              clear hu
              go_simp
              refine HTk.out.mono ?_
              rintro e u2 ⟨rfl, ht, hg2⟩
              have hlk := hku.locked hg2 ht
              refine hK _ _ _ ⟨hC.b.kept hg2 (fun e => HA2.out.2.2.2.2.2.2 (Option.some.inj e).symm), (fun e => by rw [updB_same] at e; cases e), (fun _ => ⟨by rw [HTL.out]; exact hlk, hgu.trans hg2⟩)⟩ (by exact Her.out) ?_
              first | (simp only [Act.put, List.setIfInBounds_toArray, List.set_cons_succ, List.set_cons_zero, hp, Her.out]; done) | simp [Act.put, hp, Her.out]
            refine AllOps.cons (fun ls x u hC hl hp K hK => ?_) ?_
            · simp [KnownTill, Region.binds, VRs] at hp
              go_simp
              refine hK _ _ _ (CRs.pure (by decide) hC) (by exact rfl) ?_
              first | (simp only [Act.put, List.setIfInBounds_toArray, List.set_cons_succ, List.set_cons_zero, hp]; done) | simp [Act.put, hp]
            exact AllOps.nil
          case finR1 =>
            intro ls x u hC hV
            have hs6 := (hV 6 (by decide)).1
            have e7 : x 7 = .int .i64 er := (hV 7 (by decide)).2
            rw [e7]
            obtain ⟨⟨cs2, hk2, hkp2⟩, hg2⟩ := hC.s hs6
            have hgw := HA2.out.2.2.1.trans hg2
            have hc2 := HA2.out.2.2.2.1.kept hg2 HA2.out.1.bk HA2.out.1.ty
            rcases her0 : (er == 0) with _ | _
            · have hne : (er != 0) = true := by simp [bne, her0]
              have hne2 : er ≠ 0 := by simpa using her0
              have hE := HA2.out.2.2.2.2.2.1
              rw [if_neg hne2, ← HRR.out] at hE
              injection hE with hE1 hE2
              have hlen2 : TL.2.length ≤ 64 := hk2.lk.1
              have HD := Lib.hid (drop_any g 33 tt cs2 TL.2 n u hk2.tab H.out.2.1)
              have HK := Lib.hid (And.intro hk2 (And.intro (HA2.out.2.1.trans hkp2) hgw))
              have Hre := Lib.hid (And.intro hE1 hE2)
              clear hC hV hk2 hkp2 hg2 hgw hc2 hs6 e7 hE1 hE2 hlen2 hne2
              go_wp2_with fail
              refine HD.out.mono ?_
              rintro e u2 ⟨rfl, ht, hg3⟩
              have HF : Hid (KvO w g tt cs { S with L := rL } (N + 1) u2) := Lib.hid (by
                obtain ⟨cs3, hk3, hkp3⟩ := (HK.out.1.more (Nat.le_succ N)).locked hg3 ht
                rw [Hre.out.2]
                exact KvO.from HK.out.2.1 HK.out.2.2 ⟨⟨cs3, hk3, hkp3⟩, hg3⟩)
              clear ht hg3
              go_wp2
              go_ret
              exact ⟨by rw [Hre.out.1]; rfl, HF.out⟩
            · have hne : (er != 0) = false := by simp [bne, her0]
              have hne2 : er = 0 := by simpa using her0
              have HN2 : Hid (takeAll S.L n l = takeAll TL.2 n (l.drop (i0 + 1)) ∧ (∃ cs', KvAt u g tt cs' { S with L := TL.2 } N ∧ Keep cs cs') ∧ w.grownBy u (some g) ∧ ChAt u B (some ⟨b, o, none⟩) l) := Lib.hid ⟨by have hE := HA2.out.2.2.2.2.2.1; rw [if_pos hne2] at hE; exact hE, ⟨cs2, hk2, HA2.out.2.1.trans hkp2⟩, hgw, hc2⟩
              clear hC hV hk2 hkp2 hg2 hgw hc2 hs6 e7 hne2
              go_wp2
              go_roundw
              case rel => exact ⟨i0 + 1, TL.2, by omega, by go_num, HN2⟩
              case measure => simp [intOf]; omega
        · obtain rfl : i0 = q := by omega
          have hiI : ¬ (i0 : Int) < (i0 : Int) := by omega
          obtain ⟨hE, ⟨cs', hk, hkp⟩, hg, hc⟩ := HR.out
          rw [List.drop_of_length_le (by rw [hq.out]; exact Nat.le_refl _)] at hE
          rw [show takeAll L0 n [] = (0, L0) from rfl, ← HRR.out] at hE
          injection hE with hE1 hE2
          subst hE1
          simp at hre
    · obtain rfl : re = 0 := by simpa using hre
      rw [if_pos rfl]
      clear hR hre
      go_enter Try.func25, Try.ntmps25
      go_wp2_with fail
      refine HN.out.mono ?_
      rintro e w1 ⟨rfl, rfl⟩
      go_wp2_with fail
      refine HA.out.mono ?_
      rintro e w2 ⟨rfl, b2⟩
      go_wp2_with fail
      refine (HB.out w2 b2).mono ?_
      rintro e w3 ⟨rfl, b3⟩
      have H3 := Lib.hid (And.intro (H.out.1.below (bt b2 b3)) (And.intro (H.out.2.2.below (bt b2 b3)) (bt b2 b3)))
      clear b2 b3 HA HB HN
      have hqm : q ≤ 9223372036854775807 := by omega
      go_wp2_with fail
      go_loopw [27] (fun i wr => ∃ (i0 : Nat) (L0 : List LRow), i0 ≤ q ∧ i = .int .i64 i0 ∧ Hid (takeAll S.L n l = takeAll L0 n (l.drop i0) ∧ (∃ cs', KvAt wr g tt cs' { S with L := L0 } N ∧ Keep cs cs') ∧ w.grownBy wr (some g) ∧ ChAt wr B A l)) (fun i _ => q - (intOf i).toNat)
      case atStart => exact ⟨0, S.L, Nat.zero_le _, rfl, Lib.hid ⟨rfl, ⟨cs, H3.out.1, Keep.rfl'⟩, lbelow_grown H3.out.2.2 _, H3.out.2.1⟩⟩
      case round =>
        clear H3
        obtain ⟨i0, L0, hi, rfl, HR⟩ := hrel
        by_cases hiq : i0 < q
        · have hiI : (i0 : Int) < (q : Int) := by omega
          obtain ⟨hE, ⟨cs', hk, hkp⟩, hg, hc⟩ := HR.out
          have hil : i0 < l.length := by rw [← hq.out]; exact hiq
          obtain ⟨b, o, rfl, hbk, hcs⟩ := hc (by omega)
          obtain ⟨q0, q1, q2⟩ := hcs i0 hil
          rw [List.drop_eq_getElem_cons hil] at hE
          obtain ⟨x, hx⟩ : ∃ x, x = l[i0]'hil := ⟨_, rfl⟩
          have hxk := Hkeys.out x (by rw [hx]; exact List.getElem_mem hil)
          rw [← hx] at q0 q1 q2 hE
          obtain ⟨kd, y, v⟩ := x
          dsimp only at q0 q1 q2 hxk
          have Hyo := Lib.hid (keyB_ok hxk)
          obtain ⟨TL, hTL⟩ : ∃ TL, TL = takeL L0 n y true := ⟨_, rfl⟩
          obtain ⟨er, her⟩ : ∃ er, er = TL.1 := ⟨_, rfl⟩
          simp only [takeAll, ← hTL, ← her] at hE
          have HTL := Lib.hid hTL
          have Her : Hid (Value.int .i64 (takeL L0 n y true).1 = Value.int .i64 er) := Lib.hid (by rw [← hTL, her])
          obtain ⟨wA, hwA⟩ : ∃ wA, wA = wr.alloc (.cells #[.int .i64 kd, .int .i64 y, .int .u64 (v : Nat)] 47) := ⟨_, rfl⟩
          have bA : Below wr.heap.size wr wA := by rw [hwA]; exact ba _ _
          have kA : Blk wA wr.heap.size 47 #[.int .i64 kd, .int .i64 y, .int .u64 (v : Nat)] := by rw [hwA]; exact Blk.new _ _ _
          have HA2 := Lib.hid (And.intro (hk.below bA) (And.intro hkp (And.intro (hg.trans (lbelow_grown bA (some g))) (And.intro (hc.below bA) (And.intro kA (And.intro hE (show g ≠ wr.heap.size by have := hk.lt; omega)))))))
          have HWA := Lib.hid hwA
          clear hk hkp hg hc hbk hcs hx hil HR hwA bA kA hE hxk hTL
          go_wp2_with fail
          rw [← HWA.out]
          clear q0 q1 q2
          obtain ⟨tb, htb⟩ : ∃ tb, tb = wr.heap.size := ⟨_, rfl⟩
          rw [← htb] at HA2 ⊢
          have HER := Lib.hid her
          clear htb HWA her
          refine wp_region_invJ (F := ?FR2) (V := (VRs g tb n y er)) (C := (CRs wA g tb kd y v (fun u => (∃ cs2, KvAt u g tt cs2 { S with L := TL.2 } N ∧ Keep cs' cs2) ∧ wA.grownBy u (some g)))) (by kernel_rfl) (by kernel_rfl) (by kernel_rfl) (fun x => ?hFR2) ?hCR2 ?stepR2 ?finR2
          case hFR2 => simp only [mkA, Act.put, List.setIfInBounds_toArray, List.set_cons_succ, List.set_cons_zero, Nat.reduceAdd, Nat.zero_add]; first | with_reducible rfl | rfl
          case hCR2 => exact fun x => ⟨HA2.out.2.2.2.2.1, fun _ => rfl, fun e => by simp at e⟩
          case stepR2 =>
            refine AllOps.cons (fun ls x u hC hl hp K hK => ?_) ?_
            · clear hp
              go_simp
              refine hK _ _ _ (CRs.pure (by decide) hC) (by exact rfl) ?_
              first | (simp only [Act.put, List.setIfInBounds_toArray, List.set_cons_succ, List.set_cons_zero]; done) | simp [Act.put]
            refine AllOps.cons (fun ls x u hC hl hp K hK => ?_) ?_
            · simp [KnownTill, Region.binds, VRs] at hp
              go_simp
              refine hK _ _ _ (CRs.pure (by decide) hC) (by exact rfl) ?_
              first | (simp only [Act.put, List.setIfInBounds_toArray, List.set_cons_succ, List.set_cons_zero, hp]; done) | simp [Act.put, hp]
            refine AllOps.cons (fun ls x u hC hl hp K hK => ?_) ?_
            · simp [KnownTill, Region.binds, VRs] at hp
              go_simp
              refine hK _ _ _ (CRs.pure (by decide) hC) (by exact rfl) ?_
              first | (simp only [Act.put, List.setIfInBounds_toArray, List.set_cons_succ, List.set_cons_zero, hp]; done) | simp [Act.put, hp]
            refine AllOps.cons (fun ls x u hC hl hp K hK => ?_) ?_
            · clear hp
              go_simp
              refine hK _ _ _ (CRs.pure (by decide) hC) (by exact rfl) ?_
              first | (simp only [Act.put, List.setIfInBounds_toArray, List.set_cons_succ, List.set_cons_zero]; done) | simp [Act.put]
            refine AllOps.cons (fun ls x u hC hl hp K hK => ?_) ?_
            · clear hp
              go_simp
              refine hK _ _ _ (CRs.pure (by decide) hC) (by exact rfl) ?_
              first | (simp only [Act.put, List.setIfInBounds_toArray, List.set_cons_succ, List.set_cons_zero]; done) | simp [Act.put]
            refine AllOps.cons (fun ls x u hC hl hp K hK => ?_) ?_
            · simp [KnownTill, Region.binds, VRs] at hp
              have cc := hC.b.cell 1
              simp only [List.getElem?_toArray, List.getElem?_cons_zero, List.getElem?_cons_succ] at cc
              go_simp
              refine hK _ _ _ (CRs.pure (by decide) hC) (by exact rfl) ?_
              first | (simp only [Act.put, List.setIfInBounds_toArray, List.set_cons_succ, List.set_cons_zero, hp]; done) | simp [Act.put, hp]
            refine AllOps.cons (fun ls x u hC hl hp K hK => ?_) ?_
            · simp [KnownTill, Region.binds, VRs] at hp
              have hu := hC.n hl
              have hku : KvAt u g tt cs' { S with L := L0 } N := by rw [hu]; exact HA2.out.1.below ⟨rfl, rfl, rfl, Nat.le_refl _, fun _ _ => rfl⟩
              have hgu : wA.grownBy u (some g) := by rw [hu]; exact ⟨rfl, rfl, rfl, Nat.le_refl _, fun _ _ _ => rfl⟩
              have HTk := Lib.hid (take_any g 33 tt cs' L0 n y true u hku.tab Hyo.out H.out.2.1)
              clear hu
              go_simp
              refine HTk.out.mono ?_
              rintro e u2 ⟨rfl, ht, hg2⟩
              have hlk := hku.locked hg2 ht
              refine hK _ _ _ ⟨hC.b.kept hg2 (fun e => HA2.out.2.2.2.2.2.2 (Option.some.inj e).symm), (fun e => by rw [updB_same] at e; cases e), (fun _ => ⟨by rw [HTL.out]; exact hlk, hgu.trans hg2⟩)⟩ (by exact Her.out) ?_
              first | (simp only [Act.put, List.setIfInBounds_toArray, List.set_cons_succ, List.set_cons_zero, hp, Her.out]; done) | simp [Act.put, hp, Her.out]
            refine AllOps.cons (fun ls x u hC hl hp K hK => ?_) ?_
            · simp [KnownTill, Region.binds, VRs] at hp
              go_simp
              refine hK _ _ _ (CRs.pure (by decide) hC) (by exact rfl) ?_
              first | (simp only [Act.put, List.setIfInBounds_toArray, List.set_cons_succ, List.set_cons_zero, hp]; done) | simp [Act.put, hp]
            exact AllOps.nil
          case finR2 =>
            intro ls x u hC hV
            have hs6 := (hV 6 (by decide)).1
            have e7 : x 7 = .int .i64 er := (hV 7 (by decide)).2
            rw [e7]
            obtain ⟨⟨cs2, hk2, hkp2⟩, hg2⟩ := hC.s hs6
            have hgw := HA2.out.2.2.1.trans hg2
            have hc2 := HA2.out.2.2.2.1.kept hg2 HA2.out.1.bk HA2.out.1.ty
            rcases her0 : (er == 0) with _ | _
            · have hne : (er != 0) = true := by simp [bne, her0]
              have hne2 : er ≠ 0 := by simpa using her0
              have hE := HA2.out.2.2.2.2.2.1
              rw [if_neg hne2, ← HRR.out] at hE
              injection hE with hE1 hE2
              exact absurd hE1.symm hne2
            · have hne : (er != 0) = false := by simp [bne, her0]
              have hne2 : er = 0 := by simpa using her0
              have HN2 : Hid (takeAll S.L n l = takeAll TL.2 n (l.drop (i0 + 1)) ∧ (∃ cs', KvAt u g tt cs' { S with L := TL.2 } N ∧ Keep cs cs') ∧ w.grownBy u (some g) ∧ ChAt u B (some ⟨b, o, none⟩) l) := Lib.hid ⟨by have hE := HA2.out.2.2.2.2.2.1; rw [if_pos hne2] at hE; exact hE, ⟨cs2, hk2, HA2.out.2.1.trans hkp2⟩, hgw, hc2⟩
              clear hC hV hk2 hkp2 hg2 hgw hc2 hs6 e7 hne2
              go_wp2
              go_roundw
              case rel => exact ⟨i0 + 1, TL.2, by omega, by go_num, HN2⟩
              case measure => simp [intOf]; omega
        · obtain rfl : i0 = q := by omega
          have hiI : ¬ (i0 : Int) < (i0 : Int) := by omega
          obtain ⟨hE, ⟨cs', hk, hkp⟩, hg, hc⟩ := HR.out
          rw [List.drop_of_length_le (by rw [hq.out]; exact Nat.le_refl _)] at hE
          rw [show takeAll L0 n [] = (0, L0) from rfl, ← HRR.out] at hE
          injection hE with _ hE2
          subst hE2
          by_cases hl0 : i0 = 0
          · subst hl0
            have hl : l = [] := List.eq_nil_of_length_eq_zero hq.out.symm
            have HF : Hid (KvO w g tt cs { S with L := rL, W := restW S n l } (N + 1) wr) := Lib.hid (by
              unfold restW; rw [if_pos hl]; exact ⟨⟨cs', hk.more (Nat.le_succ N), hkp⟩, hg⟩)
            clear hk hkp hg hc HR hl
            go_wp2
            go_ret
            exact ⟨rfl, HF.out⟩
          · have hl : l ≠ [] := fun e => hl0 (by rw [hq.out, e]; rfl)
            have hl0I : (0 : Int) < (i0 : Int) := by omega
            have HCl := Lib.hid (cclone_any A l i0 c wr (Lib.hid hq.out) (Lib.hid (by omega)) hc)
            have HK := Lib.hid (And.intro hk (And.intro hkp (And.intro hg hl)))
            clear hk hkp hg hc HR hl
            go_wp2_with fail
            refine HCl.out.mono ?_
            rintro e w4 ⟨A4, c4, rfl, own4, b4⟩
            have HL := Lib.hid (lay_any g tt cs' { S with L := rL } N n A4 l i0 c4 true w4 (HK.out.1.below b4) (by omega) H.out.2.1 hq.out (by rw [← hq.out]; exact hqN) Hkeys.out (own4.at_.mono fun b hb _ => HBB.out b (Nat.le_trans HK.out.2.2.1.size hb)))
            have HG := Lib.hid (HK.out.2.2.1.trans (lbelow_grown b4 (some g)))
            clear own4 b4
            go_wp2_with fail
            refine HL.out.mono ?_
            rintro e w5 ⟨rfl, hk5, hg5⟩
            have HF : Hid (KvO w g tt cs { S with L := rL, W := restW S n l } (N + 1) w5) := Lib.hid (by
              unfold restW; rw [if_neg HK.out.2.2.2]; exact KvO.from HK.out.2.1 HG.out ⟨hk5, hg5⟩)
            clear hk5 hg5
            go_wp2
            go_ret
            exact ⟨rfl, HF.out⟩
  · rw [if_pos rfl]
    rw [hbs] at hbz
    have HB := Lib.hid hbz
    clear hbz hbs
    go_enter Try.func25, Try.ntmps25
    go_wp2_with fail
    refine HN.out.mono ?_
    rintro e w1 ⟨rfl, rfl⟩
    go_wp2_with fail
    refine HA.out.mono ?_
    rintro e w2 ⟨rfl, b2⟩
    go_wp2_with fail
    refine (HB.out w2 b2).mono ?_
    rintro e w3 ⟨rfl, b3⟩
    have HF := Lib.hid (KvO.same (H.out.1.more (Nat.le_succ N)) (bt b2 b3))
    clear b2 b3
    go_wp2
    go_ret
    exact ⟨rfl, HF.out⟩
end Go.Proofs.Ytnpoicgincndkaa
