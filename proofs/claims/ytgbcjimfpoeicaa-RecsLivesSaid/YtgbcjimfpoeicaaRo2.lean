/- Layer 11: whatever comes, is taken, and ended, a stream tells what the document says. -/
import Derived.Test.YtgbcjimfpoeicaaRo1
namespace Go.Proofs.Ytgbcjimfpoeicaa
open Go.RowKit
set_option linter.unusedVariables false
set_option linter.unusedSimpArgs false

structure LivesAt (w wr : World) (g bx left At n c : Nat) (A : Option Addr) (All : List UInt8) (en : Bool) : Prop where
  hS : StrAt wr g left (All.drop At) en
  hX : RefAt wr bx A n c At (At + left) en
  hn : n = All.length
  hA : Own wr w.heap.size 5 A c All
  hAt : At ≤ n
  hN : ∀ b, Go.Proofs.Ytgbcjimfpoeicaa.blk A = some b → BytesNot wr g b
  hB : Below w.heap.size w wr
theorem LivesAt.below {w wr wz : World} {g bx left At n c : Nat} {A : Option Addr} {All : List UInt8} {en : Bool} (h : LivesAt w wr g bx left At n c A All en) (hb : Below wr.heap.size wr wz) : LivesAt w wz g bx left At n c A All en :=
  ⟨h.hS.below hb, RefAt.below h.hX hb, h.hn, h.hA.below hb (Nat.le_refl _), h.hAt, fun b hb' => bn_below hb h.hS.lt (h.hN b hb'), bt h.hB hb⟩
theorem drop_app {l m : List UInt8} {n : Nat} (h : n ≤ l.length) : (l ++ m).drop n = l.drop n ++ m := by
  rw [List.drop_append, Nat.sub_eq_zero_of_le h, List.drop_zero]
theorem lives_put {w wz : World} {g bx base left At n bn : Nat} {All ob : List UInt8} {en : Bool} {Ao : Option Addr} {z : Int} (hz : z = putE (n - At) bn en) (hn : n = All.length) (hAt : At ≤ n)
    (hS : SPp g left (if putE (n - At) bn en = 0 then All.drop At ++ ob else All.drop At) en Ao wz)
    (hX : RXp g bx w.heap.size (if putE (n - At) bn en = 0 then n + bn else n) At left (if putE (n - At) bn en = 0 then All ++ ob else All) en Ao wz) (hB : Below w.heap.size w wz) :
    ∃ A c n2 All2, n2 ≤ n + bn ∧ LivesAt w wz g bx left At n2 c A All2 en := by
  obtain ⟨A, c, h1, h2, h3, h4, h5⟩ := hX
  by_cases h0 : putE (n - At) bn en = 0
  · simp only [if_pos h0] at hS h1 h2 h3
    exact ⟨A, c, n + bn, All ++ ob, Nat.le_refl _, by rw [drop_app (by omega)]; exact hS.1, h1, h3, h2, by omega, h4, hB⟩
  · simp only [if_neg h0] at hS h1 h2 h3
    exact ⟨A, c, n, All, by omega, hS.1, h1, h3, h2, hAt, h4, hB⟩
set_option maxRecDepth 100000 in
set_option maxHeartbeats 8000000 in
theorem recsLives_walk (A0 : Option Addr) (ops : List OpV) (c0 : Nat) (w : World) (h : OpsAt w A0 ops) :
    Calls Try.prog 3 #[.slice A0 ops.length c0] w fun e w' => e = .returned (.bool true) ∧ Below w.heap.size w w' := by
  have hlen := h.1
  unfold maxLen at hlen
  obtain ⟨m, hm⟩ : ∃ m, m = ops.length := ⟨_, rfl⟩
  rw [← hm] at hlen ⊢
  have Hm := Lib.hid hm
  clear hm
  go_enter Try.func3, Try.ntmps3
  go_wp2_with fail
  refine (new_any _).mono ?_
  rintro e w1 ⟨rfl, S1, hb1⟩
  have hgl : w.heap.size < w1.heap.size := S1.lt
  have hba := ba w1 (.cells #[.slice none 0 0, .int .i64 0, .int .i64 0, .bool false] 28)
  have hL0 : LivesAt w (w1.alloc (.cells #[.slice none 0 0, .int .i64 0, .int .i64 0, .bool false] 28)) w.heap.size w1.heap.size 0 0 0 0 none [] false :=
    ⟨S1.below hba, Blk.new w1 _ _, rfl, Own.nil, by simp, by simp [blk], bt hb1 hba⟩
  obtain ⟨bx, hbx⟩ : ∃ bx, bx = w1.heap.size := ⟨_, rfl⟩
  rw [← hbx] at hL0 hgl
  have hgb : w.heap.size ≠ bx := by omega
  have hbx1 := hbx.symm
  clear hbx S1 hb1 hba
  go_wp2_with fail
  go_loopw [5] (fun i wr => ∃ (k left At n c : Nat) (A : Option Addr) (All : List UInt8) (en : Bool), k ≤ m ∧ k ≤ 60 ∧ i = .int .i64 k ∧ n ≤ k * 70000 ∧ Hid (LivesAt w wr w.heap.size bx left At n c A All en)) (fun i _ => 60 - (intOf i).toNat)
  case atStart => exact ⟨0, 0, 0, 0, 0, none, [], false, Nat.zero_le _, by omega, rfl, by omega, Lib.hid hL0⟩
  case round =>
    clear hL0 hbx1
    obtain ⟨k, left, At, n, c, A, All, en, hk, hk60, rfl, hnk, HL⟩ := hrel
    have hnkH := Lib.hid hnk
    clear hnk
    by_cases hkl : k < m
    · by_cases hk6 : k < 60
      · obtain ⟨b, o, rfl, hlt, hcs⟩ := (h.below HL.out.hB).2.2 (by rw [← Hm.out]; omega)
        have hkl' : k < ops.length := by rw [← Hm.out]; exact hkl
        obtain ⟨q0, q1, q2⟩ := hcs k hkl'
        obtain ⟨op, hop⟩ : ∃ op, op = ops[k] := ⟨_, rfl⟩
        rw [← hop] at q0 q1 q2
        have hok : OpOk wr op := by rw [hop]; exact (h.below HL.out.hB).2.1 _ (List.getElem_mem _)
        have hokW : OpOk w op := by rw [hop]; exact h.2.1 _ (List.getElem_mem _)
        clear hop hcs hkl'
        obtain ⟨ok, on, oA, ob, oc⟩ := op
        obtain ⟨k1, k2, n1, n2, obs, olen⟩ := hok
        have hobsW := hokW.bs
        clear hokW
        simp only at q0 q1 q2 k1 k2 n1 n2 obs olen hobsW
        unfold maxLen at olen
        obtain ⟨bn, hbn⟩ : ∃ bn, bn = ob.length := ⟨_, rfl⟩
        rw [← hbn] at q2 olen
        have Hbn := Lib.hid hbn
        clear hbn
        have hkI : (k : Int) < (m : Int) := by omega
        have hk6I : (k : Int) < 60 := by omega
        have hba := ba wr (.cells #[.int .i64 ok, .int .i64 on, .slice oA bn oc] 30)
        have B3 := Blk.new wr 30 #[.int .i64 ok, .int .i64 on, .slice oA bn oc]
        have HL3 := Lib.hid (HL.out.below hba)
        have obs3 := obs.bt hba
        have e0 := B3.cell 0
        have e1 := B3.cell 1
        have e2 := B3.cell 2
        simp only [List.getElem?_toArray, List.getElem?_cons_zero, List.getElem?_cons_succ] at e0 e1 e2
        have hgo : wr.heap.size ≠ w.heap.size := by have := HL.out.hS.lt; omega
        have hgx : wr.heap.size ≠ bx := by have := (Blk.lt HL.out.hX); omega
        clear hba obs HL
        by_cases hguard : (1000 < bn ∧ bn ≤ 65536) ∨ 70000 < bn
        · have hsplit : (decide (1000 < (bn : Int)) = true ∧ decide ((bn : Int) ≤ 65536) = true) ∨ (decide (1000 < (bn : Int)) = true ∧ decide ((bn : Int) ≤ 65536) = false ∧ decide (70000 < (bn : Int)) = true) := by simp; omega
          clear hguard
          rcases hsplit with ⟨s1, s2⟩ | ⟨s1, s2, s3⟩
          · go_wp2_with fail
            refine (alive_any _).mono ?_
            rintro e wz ⟨rfl, hbz⟩
            go_wp2
            go_ret
            exact ⟨rfl, bt HL3.out.hB hbz⟩
          · go_wp2_with fail
            refine (alive_any _).mono ?_
            rintro e wz ⟨rfl, hbz⟩
            go_wp2
            go_ret
            exact ⟨rfl, bt HL3.out.hB hbz⟩
        · have hbnk := Lib.hid (show bn ≤ 70000 by omega)
          have hsplit : (decide (1000 < (bn : Int)) = false ∧ decide (70000 < (bn : Int)) = false) ∨ (decide (1000 < (bn : Int)) = true ∧ decide ((bn : Int) ≤ 65536) = false ∧ decide (70000 < (bn : Int)) = false) := by simp; omega
          clear hguard olen
          rcases hsplit with ⟨s1, s2⟩ | ⟨s1, s2, s3⟩
          · skip
            by_cases hk0 : ok = 0
            · subst hk0
              have hcp := ncopy oA ob bn oc (wr.alloc (.cells #[.int .i64 0, .int .i64 on, .slice oA bn oc] 30)) Hbn (Lib.hid (by rw [← Hbn.out]; have := hbnk.out; omega)) obs3
              go_wp2_with fail
              refine hcp.mono ?_
              clear hcp
              rintro e w4 ⟨Ao, co, rfl, own4, hb4⟩
              have HL4 := HL3.out.below hb4
              have B4 := B3.below hb4 B3.lt
              have obs4 := obs3.bt hb4
              obtain ⟨s0, hs0⟩ : ∃ s0, s0 = (wr.alloc (.cells #[.int .i64 0, .int .i64 on, .slice oA bn oc] 30)).heap.size := ⟨_, rfl⟩
              rw [← hs0] at own4
              have hsA : ∀ b, Go.Proofs.Ytgbcjimfpoeicaa.blk A = some b → b < s0 := fun b hb => by rw [hs0]; exact (HL3.out.hA.lt b hb).2
              have hsS : ∀ y, Go.Proofs.Ytgbcjimfpoeicaa.blk Ao = some y → BytesNot w4 w.heap.size y := fun y hy => bn_below hb4 HL3.out.hS.lt (bn_far HL3.out.hS (by rw [← hs0]; exact (own4.lt y hy).1))
              have hSz : w.heap.size ≤ s0 := by rw [hs0]; exact HL3.out.hB.size
              obtain ⟨z, hz⟩ : ∃ z, z = putE (n - At) bn en := ⟨_, rfl⟩
              have Hz := Lib.hid hz
              have hdr : Below w4.heap.size w4 w4.drew := (Below.refl _ _).drew
              have HL5 := HL4.below hdr
              have hSP0 : SPp w.heap.size left (All.drop At) en Ao w4.drew := ⟨HL5.hS, fun y hy => bn_below hdr HL4.hS.lt (hsS y hy)⟩
              have hR0 : RXp w.heap.size bx w.heap.size n At left All en Ao w4.drew := ⟨A, c, HL5.hX, HL5.hA, HL5.hn, HL5.hN, fun b hb e => by have := hsA b hb; have := (own4.lt b e).1; omega⟩
              have hC0 : COp wr.heap.size s0 Ao co ob #[.int .i64 0, .int .i64 on, .slice oA bn oc] w4.drew := ⟨own4.below hdr (Nat.le_refl _), B4.below hdr B4.lt⟩
              obtain ⟨SP, hSP⟩ : ∃ SP : World → Prop, SP = SPp w.heap.size left (if putE (n - At) bn en = 0 then All.drop At ++ ob else All.drop At) en Ao := ⟨_, rfl⟩
              obtain ⟨RX, hRX⟩ : ∃ RX : World → Prop, RX = RXp w.heap.size bx w.heap.size (if putE (n - At) bn en = 0 then n + bn else n) At left (if putE (n - At) bn en = 0 then All ++ ob else All) en Ao := ⟨_, rfl⟩
              obtain ⟨S0, hS0⟩ : ∃ S0 : World → Prop, S0 = SPp w.heap.size left (All.drop At) en Ao := ⟨_, rfl⟩
              obtain ⟨R0, hRR0⟩ : ∃ R0 : World → Prop, R0 = RXp w.heap.size bx w.heap.size n At left All en Ao := ⟨_, rfl⟩
              obtain ⟨CO, hCO⟩ : ∃ CO : World → Prop, CO = COp wr.heap.size s0 Ao co ob #[.int .i64 0, .int .i64 on, .slice oA bn oc] := ⟨_, rfl⟩
              have hqn : All.length = n := HL4.hn.symm
              have hAtn := HL4.hAt
              have hw4 := HL5.hB
              have hput1 : ∀ u, S0 u → CO u → Calls Try.prog 11 #[.pointer (some ⟨w.heap.size, 0, none⟩), .slice Ao bn co] u fun e u' => e = .returned (.int .i64 z) ∧ SP u' ∧ (R0 u → R0 u') ∧ CO u' ∧ (Below w.heap.size w u → Below w.heap.size w u') := by
                intro u hs hc
                subst hS0 hCO hSP hRR0
                refine (sput_any hs.1 Ao ob bn co Hbn hc.1.bs (n - At) (by rw [List.length_drop, hqn])).mono ?_
                rintro e u' ⟨rfl, p1, p2, p3⟩
                have he : ESp w.heap.size u u' := ⟨p2, hs.1.blk, p3⟩
                refine ⟨by rw [Hz.out], ⟨p1, fun y hy => p3 y (hc.1.lt y hy).2 (hs.2 y hy)⟩, fun hr => RXp.sput hgb.symm he hr, ⟨hc.1.kept p2 (.inr (fun e => by obtain ⟨cs, hcs⟩ := hs.1.blk; exact hc.1.ne_blk' hcs stream_ne e.symm)), hc.2.kept p2 (fun e => by injection e with e; exact hgo e)⟩, fun hB => hB.trans (below_of p2 (Nat.le_refl _) hB.size)⟩
              have hput2 : ∀ u, R0 u → SP u → CO u → Below w.heap.size w u → Bs u u.heap.size oA ob → Calls Try.prog 12 #[.pointer (some ⟨bx, 0, none⟩), .slice oA bn oc] u fun e u' => e = .returned (.int .i64 z) ∧ RX u' ∧ SP u' ∧ CO u' ∧ Below w.heap.size w u' := by
                intro u hr hs hc hB hbs
                subst hCO hSP hRR0 hRX
                obtain ⟨A2, c2, r1, r2, r3, r4, r5⟩ := hr
                refine (refput_any r1 hAtn (by have := hnkH.out; omega) w.heap.size All (Lib.hid r3) r2 hB.size oA ob bn oc Hbn (by have := hbnk.out; omega) hbs).mono ?_
                rintro e u' ⟨rfl, A3, n3, c3, p1, p2, p3, p4, p5⟩
                have hkg : blk A2 ≠ some w.heap.size := fun e => by obtain ⟨cs, hcs⟩ := hs.1.blk; exact r2.ne_blk' hcs stream_ne e.symm
                obtain ⟨t1, t2⟩ := SPp.two hgb hs p4 r4 hkg
                refine ⟨by rw [Hz.out], ⟨A3, c3, by rw [← p3]; exact p1, p2, ?_, ?_, ?_⟩, t1, COp.two hc p4 r5 r2 hgx, ?_⟩
                · by_cases h0 : putE (n - At) bn en = 0
                  · simp only [if_pos h0, List.length_append, hqn, ← Hbn.out]
                  · simp only [if_neg h0, hqn]
                · intro b hb
                  rcases p5 with e | ⟨q, e, hq⟩
                  · exact t2 b (r4 b (by rw [← e]; exact hb))
                  · rw [e] at hb
                    injection hb with hb
                    subst hb
                    exact t2 _ (bn_far hs.1 hq)
                · intro b hb
                  rcases p5 with e | ⟨q, e, hq⟩
                  · exact r5 b (by rw [← e]; exact hb)
                  · rw [e] at hb
                    injection hb with hb
                    subst hb
                    intro e'
                    have := (hc.1.lt _ e').2
                    omega
                · obtain ⟨u1, v1, ⟨cs, v2⟩, v3⟩ := p4
                  have hb1 := r2.grown v1 hB.size
                  exact (hB.trans hb1).trans (below_of v3 (by omega) (Nat.le_trans hB.size hb1.size))
              have hCell : ∀ u, CO u → u.cell? ⟨wr.heap.size, 2, none⟩ = some (.slice oA bn oc) := by
                intro u hu
                subst hCO
                have := hu.2.cell 2
                simpa using this
              have hBs : ∀ u, Below w.heap.size w u → Bs u u.heap.size oA ob := fun u hu => (hobsW.below hu).more hu.size
              have hS0' : S0 w4.drew := by rw [hS0]; exact hSP0
              have hR0' : R0 w4.drew := by rw [hRR0]; exact hR0
              have hCO' : CO w4.drew := by rw [hCO]; exact hC0
              have hLast : ∀ u, SP u → RX u → Below w.heap.size w u → SPp w.heap.size left (if putE (n - At) bn en = 0 then All.drop At ++ ob else All.drop At) en Ao u ∧ RXp w.heap.size bx w.heap.size (if putE (n - At) bn en = 0 then n + bn else n) At left (if putE (n - At) bn en = 0 then All ++ ob else All) en Ao u := by
                intro u a b _
                rw [hSP] at a
                rw [hRX] at b
                exact ⟨a, b⟩
              have hSt : ∀ u u' D, SP u → RX u → Own u s0 5 Ao co D → u.grownBy u' (Go.Proofs.Ytgbcjimfpoeicaa.blk Ao) → SP u' ∧ RX u' := by
                intro u u' D a b hA hg
                rw [hSP] at a ⊢
                rw [hRX] at b ⊢
                exact ⟨SPp.own a hA hg, RXp.own b a.1 hA hg⟩
              have hOwn4 : ∀ u, CO u → Own u s0 5 Ao co ob := by
                intro u hu
                rw [hCO] at hu
                exact hu.1
              clear hSP0 hR0 hC0 own4 B4 obs4 HL4 HL5 hdr hsA hsS hS0 hRR0 hSP hRX hCO hz obs3 hs0 B3
              have HL3' := HL3
              clear HL3
              go_wp2_with fail
              generalize hoB : wr.heap.size = oB at *
              clear hoB
              refine wp_region_invT (F := ?FP0) (V := VPut Ao oA w.heap.size bx oB bn co oc z SP RX) (dead := fun _ => none) (T := TPut S0 R0) (C := fun u => Below w.heap.size w u ∧ CO u) (E := EPut SP R0) (by kernel_rfl) (by kernel_rfl) (by kernel_rfl) (fun x => ?hFP0) ?hmonoP0 ?hTmP0 ?hTP0 ?hCP0 ?stepP0 ?finP0
              case hFP0 => simp only [mkA, Act.put, List.setIfInBounds_toArray, List.set_cons_succ, List.set_cons_zero, Nat.reduceAdd, Nat.zero_add]; first | with_reducible rfl | rfl
              case hmonoP0 => exact fun q i v u u' he hik hwt hdd hv => VPut.mono he hik (fun hh => ltf hwt (by rw [hh.1, hh.2]; kernel_rfl)) hv
              case hTmP0 => exact fun q j u u' he hkj hwt hv => TPut.mono he hkj (fun hh => ltf hwt (by rw [hh.1, hh.2]; kernel_rfl)) hv
              case hTP0 => exact fun j => by unfold TPut; split <;> first | exact hS0' | exact hR0' | trivial
              case hCP0 => exact ⟨hw4, hCO'⟩
              case stepP0 =>
                refine AllOps.cons (fun x u hC hT hp K hK => ?_) ?_
                · clear hp hT
                  go_simp
                  refine hK _ _ _ hC rfl (by exact rfl) ?_
                  first | (simp only [Act.put, List.setIfInBounds_toArray, List.set_cons_succ, List.set_cons_zero]; done) | simp [Act.put]
                refine AllOps.cons (fun x u hC hT hp K hK => ?_) ?_
                · clear hp hT
                  go_simp
                  refine hK _ _ _ hC rfl (by exact rfl) ?_
                  first | (simp only [Act.put, List.setIfInBounds_toArray, List.set_cons_succ, List.set_cons_zero]; done) | simp [Act.put]
                refine AllOps.cons (fun x u hC hT hp K hK => ?_) ?_
                · simp [KnownTill, Region.binds, VPut] at hp
                  have hS_ : S0 u := hT
                  go_simp
                  refine (hput1 u hS_ hC.2).mono ?_
                  rintro e uA ⟨rfl, p1, p2, p3, p4⟩
                  refine hK _ _ _ ⟨p4 hC.1, p3⟩ p2 ⟨rfl, p1⟩ ?_
                  first | (simp only [Act.put, List.setIfInBounds_toArray, List.set_cons_succ, List.set_cons_zero, hp]; done) | simp [Act.put, hp]
                refine AllOps.cons (fun x u hC hT hp K hK => ?_) ?_
                · clear hp hT
                  go_simp
                  refine hK _ _ _ hC rfl (by exact rfl) ?_
                  first | (simp only [Act.put, List.setIfInBounds_toArray, List.set_cons_succ, List.set_cons_zero]; done) | simp [Act.put]
                refine AllOps.cons (fun x u hC hT hp K hK => ?_) ?_
                · clear hp hT
                  go_simp
                  refine hK _ _ _ hC rfl (by exact rfl) ?_
                  first | (simp only [Act.put, List.setIfInBounds_toArray, List.set_cons_succ, List.set_cons_zero]; done) | simp [Act.put]
                refine AllOps.cons (fun x u hC hT hp K hK => ?_) ?_
                · simp [KnownTill, Region.binds, VPut] at hp
                  clear hT
                  have g2 := hCell u hC.2
                  go_simp
                  refine hK _ _ _ hC rfl (by exact rfl) ?_
                  first | (simp only [Act.put, List.setIfInBounds_toArray, List.set_cons_succ, List.set_cons_zero, hp]; done) | simp [Act.put, hp]
                refine AllOps.cons (fun x u hC hT hp K hK => ?_) ?_
                · simp [KnownTill, Region.binds, VPut] at hp
                  have hR_ : R0 u := hT
                  obtain ⟨hz2, hs2⟩ : x 2 = .int .i64 z ∧ SP u := by first | exact ⟨hp.1, hp.2.1⟩ | exact ⟨hp.2.1, hp.2.2⟩ | exact hp.2.2 | exact hp.2 | exact hp.1 | (have := hp; done)
                  go_simp
                  refine (hput2 u hR_ hs2 hC.2 hC.1 (hBs u hC.1)).mono ?_
                  rintro e uA ⟨rfl, p1, p2, p3, p4⟩
                  refine hK _ _ _ ⟨p4, p3⟩ (fun _ => p2) ⟨rfl, p1⟩ ?_
                  first | (simp only [Act.put, List.setIfInBounds_toArray, List.set_cons_succ, List.set_cons_zero, hp]; done) | simp [Act.put, hp]
                refine AllOps.cons (fun x u hC hT hp K hK => ?_) ?_
                · simp [KnownTill, Region.binds, VPut] at hp
                  clear hT
                  go_simp
                  refine hK _ _ _ hC rfl (by exact rfl) ?_
                  first | (simp only [Act.put, List.setIfInBounds_toArray, List.set_cons_succ, List.set_cons_zero, hp]; done) | simp [Act.put, hp]
                exact AllOps.nil
              case finP0 =>
                intro x u hC hV
                obtain ⟨_, hs5⟩ : x 2 = .int .i64 z ∧ SP u := hV 2 (by decide) rfl
                obtain ⟨_, hr5⟩ : x 6 = .int .i64 z ∧ RX u := hV 6 (by decide) rfl
                have e7 : x 7 = .bool false := hV 7 (by decide) rfl
                have own5 := hOwn4 u hC.2
                have hB5 := hC.1
                have hLn := Hbn
                have hLb := Lib.hid (show bn ≤ 100000 by have := hbnk.out; omega)
                clear hV hC hput1 hput2 hCell hBs hOwn4 hS0' hR0' hCO'
                rw [e7]
                clear e7
                go_wp2_with fail
                go_loopw [8] (fun i wz => ∃ (q : Nat) (D : List UInt8), q ≤ bn ∧ i = .int .i64 q ∧ Hid (bn = D.length) ∧ Own wz s0 5 Ao co D ∧ SP wz ∧ RX wz ∧ Below w.heap.size w wz) (fun i _ => bn - (intOf i).toNat)
                case atStart => exact ⟨0, _, Nat.zero_le _, rfl, hLn, own5, hs5, hr5, hB5⟩
                case round =>
                  clear own5 hs5 hr5 hB5 hLn
                  obtain ⟨q, D, hq0, rfl, hD, ownD, hsD, hrD, hBD⟩ := hrel
                  by_cases hq : q < bn
                  · have hqD : q < D.length := by rw [← hD.out]; exact hq
                    obtain ⟨pb, hAo, hpb1, hpb2, _, _⟩ := ownD.form (by omega)
                    subst hAo
                    have cq := ownD.cell q hqD
                    have fq := ownD.frozen q
                    have hqI : (q : Int) < (bn : Int) := by omega
                    obtain ⟨xv, hxv⟩ : ∃ xv, xv = D[q]'hqD := ⟨_, rfl⟩
                    rw [← hxv] at cq
                    have ex := xor_255 xv
                    have hxl := xv.toNat_lt
                    obtain ⟨nv, hnv⟩ : ∃ nv : UInt8, nv = xv ^^^ 255 := ⟨_, rfl⟩
                    rw [← hnv] at ex
                    have eqq : IntKind.i64.wrap ((q : Int) + 1) = (q : Int) + 1 := IntWalk.i64_in _ (by have := hLb.out; omega)
                    have hst := ownD.stored q nv
                    have hcl := hSt _ _ _ hsD hrD ownD hst.2
                    have hBn := hBD.setCell (p := ⟨pb, q, none⟩) (Nat.le_trans hSz hpb1) (.int .u8 (nv.toNat : Int))
                    have HST := Lib.hid hst.1
                    have HCL := Lib.hid hcl
                    have HBN := Lib.hid hBn
                    have HLD := Lib.hid (show bn = (D.set q nv).length by rw [List.length_set]; exact hD.out)
                    skip
                    clear hst hcl hBn hsD hrD ownD hBD hxv hnv hpb1 hpb2 hqD
                    go_wp2
                    go_roundw
                    case rel => exact ⟨q + 1, _, by omega, by first | go_num | simp, HLD, HST.out, HCL.out.1, HCL.out.2, HBN.out⟩
                    case measure => simp [intOf]; omega
                  · have hqI : ¬ (q : Int) < (bn : Int) := by omega
                    obtain ⟨g1, g2⟩ := hLast _ hsD hrD hBD
                    obtain ⟨A2, c2, n2, All2, hn2, hLe⟩ := lives_put (base := 0) Hz.out hqn.symm hAtn g1 g2 hBD
                    have HLe := Lib.hid hLe
                    clear hLe g1 g2 hsD hrD ownD hBD hLast hSt
                    obtain ⟨hd, hhd⟩ : ∃ hd, hd = n2 - At := ⟨_, rfl⟩
                    have hh1 := held_n HLe.out.hS hd (Lib.hid (by rw [List.length_drop, ← HLe.out.hn]; exact hhd))
                    have hnb : n2 ≤ 4200000 := by have := hnkH.out; have := hbnk.out; omega
                    have hh2 := refheld HLe.out.hX HLe.out.hAt (by omega) hd hhd
                    have hN2 := Lib.hid (show n2 ≤ (k + 1) * 70000 from by have := hnkH.out; have := hbnk.out; omega)
                    clear hhd hnb hn2
                    go_wp2_with fail
                    refine hh1.mono ?_
                    clear hh1
                    rintro e wh ⟨rfl, rfl⟩
                    go_wp2_with fail
                    refine hh2.mono ?_
                    clear hh2
                    rintro e wh ⟨dh, rfl, rfl⟩
                    go_wp2
                    go_roundw
                    case rel => exact ⟨k + 1, left, At, n2, c2, A2, All2, en, by omega, by omega, by first | go_num | simp, hN2.out, Lib.hid (HLe.out.below (bl_drewN _ _))⟩
                    case measure => simp [intOf]; omega
            · by_cases hk1 : ok = 1
              · subst hk1
                have hget := get_anyX HL3.out.hS on n2
                have hdrop := @getM_drop left (All.drop At) en on
                have hlft := @getM_left left (All.drop At) en on HL3.out.hS.hleft
                obtain ⟨r, hr⟩ : ∃ r, r = getM left (All.drop At) en on := ⟨_, rfl⟩
                rw [← hr] at hget hdrop hlft
                have Hr := Lib.hid hr
                have Hdrop := Lib.hid hdrop
                clear hr hdrop hlft
                go_wp2_with fail
                refine hget.mono ?_
                clear hget
                rintro e w5 ⟨⟨A5, n5, c5, rfl, hn5, own5, S5, hg5⟩, hbn5⟩
                have hHL := HL3.out
                have hsz3 : wr.heap.size < (wr.alloc (.cells #[.int .i64 1, .int .i64 on, .slice oA bn oc] 30)).heap.size := by simp
                obtain ⟨s0, hs0⟩ : ∃ s0, s0 = (wr.alloc (.cells #[.int .i64 1, .int .i64 on, .slice oA bn oc] 30)).heap.size := ⟨_, rfl⟩
                rw [← hs0] at own5 hsz3
                have X5 : RefAt w5 bx A n c At (At + left) en := Blk.kept hHL.hX hg5 (fun e => by injection e with e; exact hgb e.symm)
                have kA : blk A ≠ some w.heap.size := fun e => by obtain ⟨cs, hcs⟩ := hHL.hS.blk; exact hHL.hA.ne_blk' hcs stream_ne e.symm
                have A5o := hHL.hA.kept hg5 (.inr kA)
                have N5 : ∀ b, Go.Proofs.Ytgbcjimfpoeicaa.blk A = some b → BytesNot w5 w.heap.size b := fun b hb => hbn5 b (hHL.hN b hb)
                have e1' := (cell_grown hg5 (p := ⟨wr.heap.size, 1, none⟩) (by rw [← hs0]; exact hsz3) (fun e => by injection e with e; exact hgo e)).trans e1
                have hB5 := hHL.hB.trans (below_of hg5 (Nat.le_refl _) hHL.hB.size)
                have hg2 := rget_any X5 (Lib.hid hHL.hn) (A5o.base_le (Nat.zero_le _)) hHL.hAt (by have := hnkH.out; omega) hHL.hS.hleft on
                rw [← Hr.out] at hg2
                have far5 : ∀ y, Go.Proofs.Ytgbcjimfpoeicaa.blk A5 = some y → BytesNot w5 w.heap.size y := fun y hy => hbn5 y (bn_far hHL.hS (by rw [← hs0]; exact (own5.lt y hy).1))
                have apA : ∀ b, Go.Proofs.Ytgbcjimfpoeicaa.blk A = some b → Go.Proofs.Ytgbcjimfpoeicaa.blk A5 ≠ some b := fun b hb e => by have h1 := (hHL.hA.lt b hb).2; have h2 := (own5.lt b e).1; rw [← hs0] at h1; omega
                have hAt1 := hHL.hAt
                have hn1 := hHL.hn
                have hSz : w.heap.size ≤ s0 := by rw [hs0]; exact hHL.hB.size
                clear hs0 hbn5 hHL e1 e0 e2 obs3 B3 q0 q1 q2
                simp only
                go_wp2_with fail
                refine hg2.mono ?_
                clear hg2
                rintro e w6 ⟨A6, n6, c6, rfl, hn6, own6, X6, hg6⟩
                have S6 := S5.otherK hg6 X5 ref_ne hgb
                have kx : blk A5 ≠ some bx := fun e => own5.ne_blk' X5 ref_ne e.symm
                have kx2 : blk A ≠ some bx := fun e => A5o.ne_blk' X5 ref_ne e.symm
                have o6 := own5.kept hg6 (.inr kx)
                have a6 := A5o.kept hg6 (.inr kx2)
                have bnn : ∀ y, BytesNot w5 w.heap.size y → BytesNot w6 w.heap.size y := fun y hy => bn_grown hg6 S5.lt (fun e => by injection e with e; exact hgb e) hy
                have hB6 := hB5.trans (below_of hg6 (by omega) hB5.size)
                have cv5 := conv_n A5 r.1.1 n5 c5 hn5 w6 _ o6.bs
                have cv6 := conv_n A6 r.1.1 n6 c6 hn6 w6 _ own6.bs
                obtain ⟨d1, d2⟩ := Hdrop.out
                have hAt2 : At + r.1.1.length ≤ n := by rw [List.length_drop] at d2; omega
                obtain ⟨SP, hSP⟩ : ∃ SP : World → Prop, SP = SPp w.heap.size r.2.1 r.2.2 en A5 := ⟨_, rfl⟩
                obtain ⟨RX, hRX⟩ : ∃ RX : World → Prop, RX = RXp w.heap.size bx w.heap.size n (At + r.1.1.length) r.2.1 All en A5 := ⟨_, rfl⟩
                have hs5 : SP w6 := by rw [hSP]; exact ⟨S6, fun y hy => bnn y (far5 y hy)⟩
                have hr5 : RX w6 := by rw [hRX]; exact ⟨A, c, X6, a6, hn1, fun b hb => bnn b (N5 b hb), apA⟩
                have hSt : ∀ u u' D, SP u → RX u → Own u s0 5 A5 c5 D → u.grownBy u' (Go.Proofs.Ytgbcjimfpoeicaa.blk A5) → SP u' ∧ RX u' := by
                  intro u u' D a b hA hg
                  rw [hSP] at a ⊢
                  rw [hRX] at b ⊢
                  exact ⟨SPp.own a hA hg, RXp.own b a.1 hA hg⟩
                have hLast : ∀ u, SP u → RX u → Below w.heap.size w u → ∃ A2 c2, LivesAt w u w.heap.size bx r.2.1 (At + r.1.1.length) n c2 A2 All en := by
                  intro u a b hB
                  rw [hSP] at a
                  rw [hRX] at b
                  obtain ⟨A2, c2, b1, b2, b3, b4, b5⟩ := b
                  refine ⟨A2, c2, ?_, b1, b3, b2, hAt2, b4, hB⟩
                  have := a.1
                  rw [d1, List.drop_drop] at this
                  exact this
                have hLn := hn5
                have hLb := Lib.hid (show n5 ≤ 100000 by have h1 := S5.hlen; have h2 := HL3.out.hS.hlen; have h3 := hn5.out; omega)
                have HA2 := Lib.hid hAt2
                clear hg6 hg5 S5 S6 X5 X6 a6 A5o own6 N5 bnn far5 apA kA kx kx2 hn6 hSP hRX d1 d2 hAt2 hAt1 hn1 hB5 e1' hsz3 HL3
                have own5 := o6
                have hB5 := hB6
                clear o6 hB6
                simp only
                go_wp2_with fail
                go_loopw [15] (fun i wz => ∃ (q : Nat) (D : List UInt8), q ≤ n5 ∧ i = .int .i64 q ∧ Hid (n5 = D.length) ∧ Own wz s0 5 A5 c5 D ∧ SP wz ∧ RX wz ∧ Below w.heap.size w wz) (fun i _ => n5 - (intOf i).toNat)
                case atStart => exact ⟨0, _, Nat.zero_le _, rfl, hLn, own5, hs5, hr5, hB5⟩
                case round =>
                  clear own5 hs5 hr5 hB5 hLn
                  obtain ⟨q, D, hq0, rfl, hD, ownD, hsD, hrD, hBD⟩ := hrel
                  by_cases hq : q < n5
                  · have hqD : q < D.length := by rw [← hD.out]; exact hq
                    obtain ⟨pb, hAo, hpb1, hpb2, _, _⟩ := ownD.form (by omega)
                    subst hAo
                    have cq := ownD.cell q hqD
                    have fq := ownD.frozen q
                    have hqI : (q : Int) < (n5 : Int) := by omega
                    obtain ⟨xv, hxv⟩ : ∃ xv, xv = D[q]'hqD := ⟨_, rfl⟩
                    rw [← hxv] at cq
                    have ex := xor_255 xv
                    have hxl := xv.toNat_lt
                    obtain ⟨nv, hnv⟩ : ∃ nv : UInt8, nv = 9 := ⟨_, rfl⟩
                    have e9 : ((nv.toNat : Nat) : Int) = 9 := by rw [hnv]; rfl
                    have eqq : IntKind.i64.wrap ((q : Int) + 1) = (q : Int) + 1 := IntWalk.i64_in _ (by have := hLb.out; omega)
                    have hst := ownD.stored q nv
                    have hcl := hSt _ _ _ hsD hrD ownD hst.2
                    have hBn := hBD.setCell (p := ⟨pb, q, none⟩) (Nat.le_trans hSz hpb1) (.int .u8 (nv.toNat : Int))
                    have HST := Lib.hid hst.1
                    have HCL := Lib.hid hcl
                    have HBN := Lib.hid hBn
                    have HLD := Lib.hid (show n5 = (D.set q nv).length by rw [List.length_set]; exact hD.out)
                    rw [e9] at HST HCL HBN
                    clear hst hcl hBn hsD hrD ownD hBD hxv hnv hpb1 hpb2 hqD
                    go_wp2
                    go_roundw
                    case rel => exact ⟨q + 1, _, by omega, by first | go_num | simp, HLD, HST.out, HCL.out.1, HCL.out.2, HBN.out⟩
                    case measure => simp [intOf]; omega
                  · have hqI : ¬ (q : Int) < (n5 : Int) := by omega
                    obtain ⟨A2, c2, hLe⟩ := hLast _ hsD hrD hBD
                    have hn2 : n ≤ n + bn := by omega
                    have HLe := Lib.hid hLe
                    clear hLe hsD hrD ownD hBD hLast hSt
                    obtain ⟨hd, hhd⟩ : ∃ hd, hd = n - (At + r.1.1.length) := ⟨_, rfl⟩
                    have hh1 := held_n HLe.out.hS hd (Lib.hid (by rw [List.length_drop, ← HLe.out.hn]; exact hhd))
                    have hnb : n ≤ 4200000 := by have := hnkH.out; have := hbnk.out; omega
                    have hh2 := refheld HLe.out.hX HLe.out.hAt (by omega) hd hhd
                    have hN2 := Lib.hid (show n ≤ (k + 1) * 70000 from Nat.le_trans hnkH.out (Nat.mul_le_mul_right _ (Nat.le_succ k)))
                    clear hhd hnb hn2
                    go_wp2_with fail
                    refine hh1.mono ?_
                    clear hh1
                    rintro e wh ⟨rfl, rfl⟩
                    go_wp2_with fail
                    refine hh2.mono ?_
                    clear hh2
                    rintro e wh ⟨dh, rfl, rfl⟩
                    go_wp2
                    go_roundw
                    case rel => exact ⟨k + 1, r.2.1, (At + r.1.1.length), n, c2, A2, All, en, by omega, by omega, by first | go_num | simp, hN2.out, Lib.hid (HLe.out.below (bl_drewN _ _))⟩
                    case measure => simp [intOf]; omega
              · by_cases hk2 : ok = 2
                · subst hk2
                  have hend := end_anyX HL3.out.hS
                  go_wp2_with fail
                  refine hend.mono ?_
                  clear hend
                  rintro e w5 ⟨rfl, S5, hg5, hbn5⟩
                  have hHL := HL3.out
                  have X5 : RefAt w5 bx A n c At (At + left) en := Blk.kept hHL.hX hg5 (fun e => by injection e with e; exact hgb e.symm)
                  have kA : blk A ≠ some w.heap.size := fun e => by obtain ⟨cs, hcs⟩ := hHL.hS.blk; exact hHL.hA.ne_blk' hcs stream_ne e.symm
                  have A5o := hHL.hA.kept hg5 (.inr kA)
                  have hB5 := hHL.hB.trans (below_of hg5 (Nat.le_refl _) hHL.hB.size)
                  obtain ⟨cs3, sb3⟩ := hHL.hS.blk
                  have N5 : ∀ b, Go.Proofs.Ytgbcjimfpoeicaa.blk A = some b → BytesNot w5 w.heap.size b := fun b hb => hbn5 b (hHL.hN b hb)
                  have hend2 := refend X5
                  go_wp2_with fail
                  refine hend2.mono ?_
                  clear hend2
                  rintro e w6 ⟨rfl, X6, hg6⟩
                  have S6 := S5.otherK hg6 X5 ref_ne hgb
                  have kx2 : blk A ≠ some bx := fun e => A5o.ne_blk' X5 ref_ne e.symm
                  have a6 := A5o.kept hg6 (.inr kx2)
                  have hLe : LivesAt w w6 w.heap.size bx left At n c A All true := ⟨S6, X6, hHL.hn, a6, hHL.hAt, fun b hb => bn_grown hg6 S5.lt (fun e => by injection e with e; exact hgb e) (N5 b hb), hB5.trans (below_of hg6 (by omega) hB5.size)⟩
                  have hn2 : n ≤ n + bn := by omega
                  have HLe := Lib.hid hLe
                  clear hLe hg6 hg5 S5 S6 X5 X6 a6 A5o N5 kA kx2 hHL hB5 HL3 e0 e1 e2 obs3 B3 q0 q1 q2 sb3 hbn5
                  obtain ⟨hd, hhd⟩ : ∃ hd, hd = n - At := ⟨_, rfl⟩
                  have hh1 := held_n HLe.out.hS hd (Lib.hid (by rw [List.length_drop, ← HLe.out.hn]; exact hhd))
                  have hnb : n ≤ 4200000 := by have := hnkH.out; have := hbnk.out; omega
                  have hh2 := refheld HLe.out.hX HLe.out.hAt (by omega) hd hhd
                  have hN2 := Lib.hid (show n ≤ (k + 1) * 70000 from Nat.le_trans hnkH.out (Nat.mul_le_mul_right _ (Nat.le_succ k)))
                  clear hhd hnb hn2
                  go_wp2_with fail
                  refine hh1.mono ?_
                  clear hh1
                  rintro e wh ⟨rfl, rfl⟩
                  go_wp2_with fail
                  refine hh2.mono ?_
                  clear hh2
                  rintro e wh ⟨dh, rfl, rfl⟩
                  go_wp2
                  go_roundw
                  case rel => exact ⟨k + 1, left, At, n, c, A, All, true, by omega, by omega, by first | go_num | simp, hN2.out, Lib.hid (HLe.out.below (bl_drewN _ _))⟩
                  case measure => simp [intOf]; omega
                · skip
                  have HLe := HL3
                  have hn2 : n ≤ n + bn := by omega
                  clear HL3 obs3 B3
                  obtain ⟨hd, hhd⟩ : ∃ hd, hd = n - At := ⟨_, rfl⟩
                  have hh1 := held_n HLe.out.hS hd (Lib.hid (by rw [List.length_drop, ← HLe.out.hn]; exact hhd))
                  have hnb : n ≤ 4200000 := by have := hnkH.out; have := hbnk.out; omega
                  have hh2 := refheld HLe.out.hX HLe.out.hAt (by omega) hd hhd
                  have hN2 := Lib.hid (show n ≤ (k + 1) * 70000 from Nat.le_trans hnkH.out (Nat.mul_le_mul_right _ (Nat.le_succ k)))
                  clear hhd hnb hn2
                  go_wp2_with fail
                  refine hh1.mono ?_
                  clear hh1
                  rintro e wh ⟨rfl, rfl⟩
                  go_wp2_with fail
                  refine hh2.mono ?_
                  clear hh2
                  rintro e wh ⟨dh, rfl, rfl⟩
                  go_wp2
                  go_roundw
                  case rel => exact ⟨k + 1, left, At, n, c, A, All, en, by omega, by omega, by first | go_num | simp, hN2.out, Lib.hid (HLe.out.below (bl_drewN _ _))⟩
                  case measure => simp [intOf]; omega
          · skip
            by_cases hk0 : ok = 0
            · subst hk0
              have hcp := ncopy oA ob bn oc (wr.alloc (.cells #[.int .i64 0, .int .i64 on, .slice oA bn oc] 30)) Hbn (Lib.hid (by rw [← Hbn.out]; have := hbnk.out; omega)) obs3
              go_wp2_with fail
              refine hcp.mono ?_
              clear hcp
              rintro e w4 ⟨Ao, co, rfl, own4, hb4⟩
              have HL4 := HL3.out.below hb4
              have B4 := B3.below hb4 B3.lt
              have obs4 := obs3.bt hb4
              obtain ⟨s0, hs0⟩ : ∃ s0, s0 = (wr.alloc (.cells #[.int .i64 0, .int .i64 on, .slice oA bn oc] 30)).heap.size := ⟨_, rfl⟩
              rw [← hs0] at own4
              have hsA : ∀ b, Go.Proofs.Ytgbcjimfpoeicaa.blk A = some b → b < s0 := fun b hb => by rw [hs0]; exact (HL3.out.hA.lt b hb).2
              have hsS : ∀ y, Go.Proofs.Ytgbcjimfpoeicaa.blk Ao = some y → BytesNot w4 w.heap.size y := fun y hy => bn_below hb4 HL3.out.hS.lt (bn_far HL3.out.hS (by rw [← hs0]; exact (own4.lt y hy).1))
              have hSz : w.heap.size ≤ s0 := by rw [hs0]; exact HL3.out.hB.size
              obtain ⟨z, hz⟩ : ∃ z, z = putE (n - At) bn en := ⟨_, rfl⟩
              have Hz := Lib.hid hz
              have hdr : Below w4.heap.size w4 w4.drew := (Below.refl _ _).drew
              have HL5 := HL4.below hdr
              have hSP0 : SPp w.heap.size left (All.drop At) en Ao w4.drew := ⟨HL5.hS, fun y hy => bn_below hdr HL4.hS.lt (hsS y hy)⟩
              have hR0 : RXp w.heap.size bx w.heap.size n At left All en Ao w4.drew := ⟨A, c, HL5.hX, HL5.hA, HL5.hn, HL5.hN, fun b hb e => by have := hsA b hb; have := (own4.lt b e).1; omega⟩
              have hC0 : COp wr.heap.size s0 Ao co ob #[.int .i64 0, .int .i64 on, .slice oA bn oc] w4.drew := ⟨own4.below hdr (Nat.le_refl _), B4.below hdr B4.lt⟩
              obtain ⟨SP, hSP⟩ : ∃ SP : World → Prop, SP = SPp w.heap.size left (if putE (n - At) bn en = 0 then All.drop At ++ ob else All.drop At) en Ao := ⟨_, rfl⟩
              obtain ⟨RX, hRX⟩ : ∃ RX : World → Prop, RX = RXp w.heap.size bx w.heap.size (if putE (n - At) bn en = 0 then n + bn else n) At left (if putE (n - At) bn en = 0 then All ++ ob else All) en Ao := ⟨_, rfl⟩
              obtain ⟨S0, hS0⟩ : ∃ S0 : World → Prop, S0 = SPp w.heap.size left (All.drop At) en Ao := ⟨_, rfl⟩
              obtain ⟨R0, hRR0⟩ : ∃ R0 : World → Prop, R0 = RXp w.heap.size bx w.heap.size n At left All en Ao := ⟨_, rfl⟩
              obtain ⟨CO, hCO⟩ : ∃ CO : World → Prop, CO = COp wr.heap.size s0 Ao co ob #[.int .i64 0, .int .i64 on, .slice oA bn oc] := ⟨_, rfl⟩
              have hqn : All.length = n := HL4.hn.symm
              have hAtn := HL4.hAt
              have hw4 := HL5.hB
              have hput1 : ∀ u, S0 u → CO u → Calls Try.prog 11 #[.pointer (some ⟨w.heap.size, 0, none⟩), .slice Ao bn co] u fun e u' => e = .returned (.int .i64 z) ∧ SP u' ∧ (R0 u → R0 u') ∧ CO u' ∧ (Below w.heap.size w u → Below w.heap.size w u') := by
                intro u hs hc
                subst hS0 hCO hSP hRR0
                refine (sput_any hs.1 Ao ob bn co Hbn hc.1.bs (n - At) (by rw [List.length_drop, hqn])).mono ?_
                rintro e u' ⟨rfl, p1, p2, p3⟩
                have he : ESp w.heap.size u u' := ⟨p2, hs.1.blk, p3⟩
                refine ⟨by rw [Hz.out], ⟨p1, fun y hy => p3 y (hc.1.lt y hy).2 (hs.2 y hy)⟩, fun hr => RXp.sput hgb.symm he hr, ⟨hc.1.kept p2 (.inr (fun e => by obtain ⟨cs, hcs⟩ := hs.1.blk; exact hc.1.ne_blk' hcs stream_ne e.symm)), hc.2.kept p2 (fun e => by injection e with e; exact hgo e)⟩, fun hB => hB.trans (below_of p2 (Nat.le_refl _) hB.size)⟩
              have hput2 : ∀ u, R0 u → SP u → CO u → Below w.heap.size w u → Bs u u.heap.size oA ob → Calls Try.prog 12 #[.pointer (some ⟨bx, 0, none⟩), .slice oA bn oc] u fun e u' => e = .returned (.int .i64 z) ∧ RX u' ∧ SP u' ∧ CO u' ∧ Below w.heap.size w u' := by
                intro u hr hs hc hB hbs
                subst hCO hSP hRR0 hRX
                obtain ⟨A2, c2, r1, r2, r3, r4, r5⟩ := hr
                refine (refput_any r1 hAtn (by have := hnkH.out; omega) w.heap.size All (Lib.hid r3) r2 hB.size oA ob bn oc Hbn (by have := hbnk.out; omega) hbs).mono ?_
                rintro e u' ⟨rfl, A3, n3, c3, p1, p2, p3, p4, p5⟩
                have hkg : blk A2 ≠ some w.heap.size := fun e => by obtain ⟨cs, hcs⟩ := hs.1.blk; exact r2.ne_blk' hcs stream_ne e.symm
                obtain ⟨t1, t2⟩ := SPp.two hgb hs p4 r4 hkg
                refine ⟨by rw [Hz.out], ⟨A3, c3, by rw [← p3]; exact p1, p2, ?_, ?_, ?_⟩, t1, COp.two hc p4 r5 r2 hgx, ?_⟩
                · by_cases h0 : putE (n - At) bn en = 0
                  · simp only [if_pos h0, List.length_append, hqn, ← Hbn.out]
                  · simp only [if_neg h0, hqn]
                · intro b hb
                  rcases p5 with e | ⟨q, e, hq⟩
                  · exact t2 b (r4 b (by rw [← e]; exact hb))
                  · rw [e] at hb
                    injection hb with hb
                    subst hb
                    exact t2 _ (bn_far hs.1 hq)
                · intro b hb
                  rcases p5 with e | ⟨q, e, hq⟩
                  · exact r5 b (by rw [← e]; exact hb)
                  · rw [e] at hb
                    injection hb with hb
                    subst hb
                    intro e'
                    have := (hc.1.lt _ e').2
                    omega
                · obtain ⟨u1, v1, ⟨cs, v2⟩, v3⟩ := p4
                  have hb1 := r2.grown v1 hB.size
                  exact (hB.trans hb1).trans (below_of v3 (by omega) (Nat.le_trans hB.size hb1.size))
              have hCell : ∀ u, CO u → u.cell? ⟨wr.heap.size, 2, none⟩ = some (.slice oA bn oc) := by
                intro u hu
                subst hCO
                have := hu.2.cell 2
                simpa using this
              have hBs : ∀ u, Below w.heap.size w u → Bs u u.heap.size oA ob := fun u hu => (hobsW.below hu).more hu.size
              have hS0' : S0 w4.drew := by rw [hS0]; exact hSP0
              have hR0' : R0 w4.drew := by rw [hRR0]; exact hR0
              have hCO' : CO w4.drew := by rw [hCO]; exact hC0
              have hLast : ∀ u, SP u → RX u → Below w.heap.size w u → SPp w.heap.size left (if putE (n - At) bn en = 0 then All.drop At ++ ob else All.drop At) en Ao u ∧ RXp w.heap.size bx w.heap.size (if putE (n - At) bn en = 0 then n + bn else n) At left (if putE (n - At) bn en = 0 then All ++ ob else All) en Ao u := by
                intro u a b _
                rw [hSP] at a
                rw [hRX] at b
                exact ⟨a, b⟩
              have hSt : ∀ u u' D, SP u → RX u → Own u s0 5 Ao co D → u.grownBy u' (Go.Proofs.Ytgbcjimfpoeicaa.blk Ao) → SP u' ∧ RX u' := by
                intro u u' D a b hA hg
                rw [hSP] at a ⊢
                rw [hRX] at b ⊢
                exact ⟨SPp.own a hA hg, RXp.own b a.1 hA hg⟩
              have hOwn4 : ∀ u, CO u → Own u s0 5 Ao co ob := by
                intro u hu
                rw [hCO] at hu
                exact hu.1
              clear hSP0 hR0 hC0 own4 B4 obs4 HL4 HL5 hdr hsA hsS hS0 hRR0 hSP hRX hCO hz obs3 hs0 B3
              have HL3' := HL3
              clear HL3
              go_wp2_with fail
              generalize hoB : wr.heap.size = oB at *
              clear hoB
              refine wp_region_invT (F := ?FP1) (V := VPut Ao oA w.heap.size bx oB bn co oc z SP RX) (dead := fun _ => none) (T := TPut S0 R0) (C := fun u => Below w.heap.size w u ∧ CO u) (E := EPut SP R0) (by kernel_rfl) (by kernel_rfl) (by kernel_rfl) (fun x => ?hFP1) ?hmonoP1 ?hTmP1 ?hTP1 ?hCP1 ?stepP1 ?finP1
              case hFP1 => simp only [mkA, Act.put, List.setIfInBounds_toArray, List.set_cons_succ, List.set_cons_zero, Nat.reduceAdd, Nat.zero_add]; first | with_reducible rfl | rfl
              case hmonoP1 => exact fun q i v u u' he hik hwt hdd hv => VPut.mono he hik (fun hh => ltf hwt (by rw [hh.1, hh.2]; kernel_rfl)) hv
              case hTmP1 => exact fun q j u u' he hkj hwt hv => TPut.mono he hkj (fun hh => ltf hwt (by rw [hh.1, hh.2]; kernel_rfl)) hv
              case hTP1 => exact fun j => by unfold TPut; split <;> first | exact hS0' | exact hR0' | trivial
              case hCP1 => exact ⟨hw4, hCO'⟩
              case stepP1 =>
                refine AllOps.cons (fun x u hC hT hp K hK => ?_) ?_
                · clear hp hT
                  go_simp
                  refine hK _ _ _ hC rfl (by exact rfl) ?_
                  first | (simp only [Act.put, List.setIfInBounds_toArray, List.set_cons_succ, List.set_cons_zero]; done) | simp [Act.put]
                refine AllOps.cons (fun x u hC hT hp K hK => ?_) ?_
                · clear hp hT
                  go_simp
                  refine hK _ _ _ hC rfl (by exact rfl) ?_
                  first | (simp only [Act.put, List.setIfInBounds_toArray, List.set_cons_succ, List.set_cons_zero]; done) | simp [Act.put]
                refine AllOps.cons (fun x u hC hT hp K hK => ?_) ?_
                · simp [KnownTill, Region.binds, VPut] at hp
                  have hS_ : S0 u := hT
                  go_simp
                  refine (hput1 u hS_ hC.2).mono ?_
                  rintro e uA ⟨rfl, p1, p2, p3, p4⟩
                  refine hK _ _ _ ⟨p4 hC.1, p3⟩ p2 ⟨rfl, p1⟩ ?_
                  first | (simp only [Act.put, List.setIfInBounds_toArray, List.set_cons_succ, List.set_cons_zero, hp]; done) | simp [Act.put, hp]
                refine AllOps.cons (fun x u hC hT hp K hK => ?_) ?_
                · clear hp hT
                  go_simp
                  refine hK _ _ _ hC rfl (by exact rfl) ?_
                  first | (simp only [Act.put, List.setIfInBounds_toArray, List.set_cons_succ, List.set_cons_zero]; done) | simp [Act.put]
                refine AllOps.cons (fun x u hC hT hp K hK => ?_) ?_
                · clear hp hT
                  go_simp
                  refine hK _ _ _ hC rfl (by exact rfl) ?_
                  first | (simp only [Act.put, List.setIfInBounds_toArray, List.set_cons_succ, List.set_cons_zero]; done) | simp [Act.put]
                refine AllOps.cons (fun x u hC hT hp K hK => ?_) ?_
                · simp [KnownTill, Region.binds, VPut] at hp
                  clear hT
                  have g2 := hCell u hC.2
                  go_simp
                  refine hK _ _ _ hC rfl (by exact rfl) ?_
                  first | (simp only [Act.put, List.setIfInBounds_toArray, List.set_cons_succ, List.set_cons_zero, hp]; done) | simp [Act.put, hp]
                refine AllOps.cons (fun x u hC hT hp K hK => ?_) ?_
                · simp [KnownTill, Region.binds, VPut] at hp
                  have hR_ : R0 u := hT
                  obtain ⟨hz2, hs2⟩ : x 2 = .int .i64 z ∧ SP u := by first | exact ⟨hp.1, hp.2.1⟩ | exact ⟨hp.2.1, hp.2.2⟩ | exact hp.2.2 | exact hp.2 | exact hp.1 | (have := hp; done)
                  go_simp
                  refine (hput2 u hR_ hs2 hC.2 hC.1 (hBs u hC.1)).mono ?_
                  rintro e uA ⟨rfl, p1, p2, p3, p4⟩
                  refine hK _ _ _ ⟨p4, p3⟩ (fun _ => p2) ⟨rfl, p1⟩ ?_
                  first | (simp only [Act.put, List.setIfInBounds_toArray, List.set_cons_succ, List.set_cons_zero, hp]; done) | simp [Act.put, hp]
                refine AllOps.cons (fun x u hC hT hp K hK => ?_) ?_
                · simp [KnownTill, Region.binds, VPut] at hp
                  clear hT
                  go_simp
                  refine hK _ _ _ hC rfl (by exact rfl) ?_
                  first | (simp only [Act.put, List.setIfInBounds_toArray, List.set_cons_succ, List.set_cons_zero, hp]; done) | simp [Act.put, hp]
                exact AllOps.nil
              case finP1 =>
                intro x u hC hV
                obtain ⟨_, hs5⟩ : x 2 = .int .i64 z ∧ SP u := hV 2 (by decide) rfl
                obtain ⟨_, hr5⟩ : x 6 = .int .i64 z ∧ RX u := hV 6 (by decide) rfl
                have e7 : x 7 = .bool false := hV 7 (by decide) rfl
                have own5 := hOwn4 u hC.2
                have hB5 := hC.1
                have hLn := Hbn
                have hLb := Lib.hid (show bn ≤ 100000 by have := hbnk.out; omega)
                clear hV hC hput1 hput2 hCell hBs hOwn4 hS0' hR0' hCO'
                rw [e7]
                clear e7
                go_wp2_with fail
                go_loopw [8] (fun i wz => ∃ (q : Nat) (D : List UInt8), q ≤ bn ∧ i = .int .i64 q ∧ Hid (bn = D.length) ∧ Own wz s0 5 Ao co D ∧ SP wz ∧ RX wz ∧ Below w.heap.size w wz) (fun i _ => bn - (intOf i).toNat)
                case atStart => exact ⟨0, _, Nat.zero_le _, rfl, hLn, own5, hs5, hr5, hB5⟩
                case round =>
                  clear own5 hs5 hr5 hB5 hLn
                  obtain ⟨q, D, hq0, rfl, hD, ownD, hsD, hrD, hBD⟩ := hrel
                  by_cases hq : q < bn
                  · have hqD : q < D.length := by rw [← hD.out]; exact hq
                    obtain ⟨pb, hAo, hpb1, hpb2, _, _⟩ := ownD.form (by omega)
                    subst hAo
                    have cq := ownD.cell q hqD
                    have fq := ownD.frozen q
                    have hqI : (q : Int) < (bn : Int) := by omega
                    obtain ⟨xv, hxv⟩ : ∃ xv, xv = D[q]'hqD := ⟨_, rfl⟩
                    rw [← hxv] at cq
                    have ex := xor_255 xv
                    have hxl := xv.toNat_lt
                    obtain ⟨nv, hnv⟩ : ∃ nv : UInt8, nv = xv ^^^ 255 := ⟨_, rfl⟩
                    rw [← hnv] at ex
                    have eqq : IntKind.i64.wrap ((q : Int) + 1) = (q : Int) + 1 := IntWalk.i64_in _ (by have := hLb.out; omega)
                    have hst := ownD.stored q nv
                    have hcl := hSt _ _ _ hsD hrD ownD hst.2
                    have hBn := hBD.setCell (p := ⟨pb, q, none⟩) (Nat.le_trans hSz hpb1) (.int .u8 (nv.toNat : Int))
                    have HST := Lib.hid hst.1
                    have HCL := Lib.hid hcl
                    have HBN := Lib.hid hBn
                    have HLD := Lib.hid (show bn = (D.set q nv).length by rw [List.length_set]; exact hD.out)
                    skip
                    clear hst hcl hBn hsD hrD ownD hBD hxv hnv hpb1 hpb2 hqD
                    go_wp2
                    go_roundw
                    case rel => exact ⟨q + 1, _, by omega, by first | go_num | simp, HLD, HST.out, HCL.out.1, HCL.out.2, HBN.out⟩
                    case measure => simp [intOf]; omega
                  · have hqI : ¬ (q : Int) < (bn : Int) := by omega
                    obtain ⟨g1, g2⟩ := hLast _ hsD hrD hBD
                    obtain ⟨A2, c2, n2, All2, hn2, hLe⟩ := lives_put (base := 0) Hz.out hqn.symm hAtn g1 g2 hBD
                    have HLe := Lib.hid hLe
                    clear hLe g1 g2 hsD hrD ownD hBD hLast hSt
                    obtain ⟨hd, hhd⟩ : ∃ hd, hd = n2 - At := ⟨_, rfl⟩
                    have hh1 := held_n HLe.out.hS hd (Lib.hid (by rw [List.length_drop, ← HLe.out.hn]; exact hhd))
                    have hnb : n2 ≤ 4200000 := by have := hnkH.out; have := hbnk.out; omega
                    have hh2 := refheld HLe.out.hX HLe.out.hAt (by omega) hd hhd
                    have hN2 := Lib.hid (show n2 ≤ (k + 1) * 70000 from by have := hnkH.out; have := hbnk.out; omega)
                    clear hhd hnb hn2
                    go_wp2_with fail
                    refine hh1.mono ?_
                    clear hh1
                    rintro e wh ⟨rfl, rfl⟩
                    go_wp2_with fail
                    refine hh2.mono ?_
                    clear hh2
                    rintro e wh ⟨dh, rfl, rfl⟩
                    go_wp2
                    go_roundw
                    case rel => exact ⟨k + 1, left, At, n2, c2, A2, All2, en, by omega, by omega, by first | go_num | simp, hN2.out, Lib.hid (HLe.out.below (bl_drewN _ _))⟩
                    case measure => simp [intOf]; omega
            · by_cases hk1 : ok = 1
              · subst hk1
                have hget := get_anyX HL3.out.hS on n2
                have hdrop := @getM_drop left (All.drop At) en on
                have hlft := @getM_left left (All.drop At) en on HL3.out.hS.hleft
                obtain ⟨r, hr⟩ : ∃ r, r = getM left (All.drop At) en on := ⟨_, rfl⟩
                rw [← hr] at hget hdrop hlft
                have Hr := Lib.hid hr
                have Hdrop := Lib.hid hdrop
                clear hr hdrop hlft
                go_wp2_with fail
                refine hget.mono ?_
                clear hget
                rintro e w5 ⟨⟨A5, n5, c5, rfl, hn5, own5, S5, hg5⟩, hbn5⟩
                have hHL := HL3.out
                have hsz3 : wr.heap.size < (wr.alloc (.cells #[.int .i64 1, .int .i64 on, .slice oA bn oc] 30)).heap.size := by simp
                obtain ⟨s0, hs0⟩ : ∃ s0, s0 = (wr.alloc (.cells #[.int .i64 1, .int .i64 on, .slice oA bn oc] 30)).heap.size := ⟨_, rfl⟩
                rw [← hs0] at own5 hsz3
                have X5 : RefAt w5 bx A n c At (At + left) en := Blk.kept hHL.hX hg5 (fun e => by injection e with e; exact hgb e.symm)
                have kA : blk A ≠ some w.heap.size := fun e => by obtain ⟨cs, hcs⟩ := hHL.hS.blk; exact hHL.hA.ne_blk' hcs stream_ne e.symm
                have A5o := hHL.hA.kept hg5 (.inr kA)
                have N5 : ∀ b, Go.Proofs.Ytgbcjimfpoeicaa.blk A = some b → BytesNot w5 w.heap.size b := fun b hb => hbn5 b (hHL.hN b hb)
                have e1' := (cell_grown hg5 (p := ⟨wr.heap.size, 1, none⟩) (by rw [← hs0]; exact hsz3) (fun e => by injection e with e; exact hgo e)).trans e1
                have hB5 := hHL.hB.trans (below_of hg5 (Nat.le_refl _) hHL.hB.size)
                have hg2 := rget_any X5 (Lib.hid hHL.hn) (A5o.base_le (Nat.zero_le _)) hHL.hAt (by have := hnkH.out; omega) hHL.hS.hleft on
                rw [← Hr.out] at hg2
                have far5 : ∀ y, Go.Proofs.Ytgbcjimfpoeicaa.blk A5 = some y → BytesNot w5 w.heap.size y := fun y hy => hbn5 y (bn_far hHL.hS (by rw [← hs0]; exact (own5.lt y hy).1))
                have apA : ∀ b, Go.Proofs.Ytgbcjimfpoeicaa.blk A = some b → Go.Proofs.Ytgbcjimfpoeicaa.blk A5 ≠ some b := fun b hb e => by have h1 := (hHL.hA.lt b hb).2; have h2 := (own5.lt b e).1; rw [← hs0] at h1; omega
                have hAt1 := hHL.hAt
                have hn1 := hHL.hn
                have hSz : w.heap.size ≤ s0 := by rw [hs0]; exact hHL.hB.size
                clear hs0 hbn5 hHL e1 e0 e2 obs3 B3 q0 q1 q2
                simp only
                go_wp2_with fail
                refine hg2.mono ?_
                clear hg2
                rintro e w6 ⟨A6, n6, c6, rfl, hn6, own6, X6, hg6⟩
                have S6 := S5.otherK hg6 X5 ref_ne hgb
                have kx : blk A5 ≠ some bx := fun e => own5.ne_blk' X5 ref_ne e.symm
                have kx2 : blk A ≠ some bx := fun e => A5o.ne_blk' X5 ref_ne e.symm
                have o6 := own5.kept hg6 (.inr kx)
                have a6 := A5o.kept hg6 (.inr kx2)
                have bnn : ∀ y, BytesNot w5 w.heap.size y → BytesNot w6 w.heap.size y := fun y hy => bn_grown hg6 S5.lt (fun e => by injection e with e; exact hgb e) hy
                have hB6 := hB5.trans (below_of hg6 (by omega) hB5.size)
                have cv5 := conv_n A5 r.1.1 n5 c5 hn5 w6 _ o6.bs
                have cv6 := conv_n A6 r.1.1 n6 c6 hn6 w6 _ own6.bs
                obtain ⟨d1, d2⟩ := Hdrop.out
                have hAt2 : At + r.1.1.length ≤ n := by rw [List.length_drop] at d2; omega
                obtain ⟨SP, hSP⟩ : ∃ SP : World → Prop, SP = SPp w.heap.size r.2.1 r.2.2 en A5 := ⟨_, rfl⟩
                obtain ⟨RX, hRX⟩ : ∃ RX : World → Prop, RX = RXp w.heap.size bx w.heap.size n (At + r.1.1.length) r.2.1 All en A5 := ⟨_, rfl⟩
                have hs5 : SP w6 := by rw [hSP]; exact ⟨S6, fun y hy => bnn y (far5 y hy)⟩
                have hr5 : RX w6 := by rw [hRX]; exact ⟨A, c, X6, a6, hn1, fun b hb => bnn b (N5 b hb), apA⟩
                have hSt : ∀ u u' D, SP u → RX u → Own u s0 5 A5 c5 D → u.grownBy u' (Go.Proofs.Ytgbcjimfpoeicaa.blk A5) → SP u' ∧ RX u' := by
                  intro u u' D a b hA hg
                  rw [hSP] at a ⊢
                  rw [hRX] at b ⊢
                  exact ⟨SPp.own a hA hg, RXp.own b a.1 hA hg⟩
                have hLast : ∀ u, SP u → RX u → Below w.heap.size w u → ∃ A2 c2, LivesAt w u w.heap.size bx r.2.1 (At + r.1.1.length) n c2 A2 All en := by
                  intro u a b hB
                  rw [hSP] at a
                  rw [hRX] at b
                  obtain ⟨A2, c2, b1, b2, b3, b4, b5⟩ := b
                  refine ⟨A2, c2, ?_, b1, b3, b2, hAt2, b4, hB⟩
                  have := a.1
                  rw [d1, List.drop_drop] at this
                  exact this
                have hLn := hn5
                have hLb := Lib.hid (show n5 ≤ 100000 by have h1 := S5.hlen; have h2 := HL3.out.hS.hlen; have h3 := hn5.out; omega)
                have HA2 := Lib.hid hAt2
                clear hg6 hg5 S5 S6 X5 X6 a6 A5o own6 N5 bnn far5 apA kA kx kx2 hn6 hSP hRX d1 d2 hAt2 hAt1 hn1 hB5 e1' hsz3 HL3
                have own5 := o6
                have hB5 := hB6
                clear o6 hB6
                simp only
                go_wp2_with fail
                go_loopw [15] (fun i wz => ∃ (q : Nat) (D : List UInt8), q ≤ n5 ∧ i = .int .i64 q ∧ Hid (n5 = D.length) ∧ Own wz s0 5 A5 c5 D ∧ SP wz ∧ RX wz ∧ Below w.heap.size w wz) (fun i _ => n5 - (intOf i).toNat)
                case atStart => exact ⟨0, _, Nat.zero_le _, rfl, hLn, own5, hs5, hr5, hB5⟩
                case round =>
                  clear own5 hs5 hr5 hB5 hLn
                  obtain ⟨q, D, hq0, rfl, hD, ownD, hsD, hrD, hBD⟩ := hrel
                  by_cases hq : q < n5
                  · have hqD : q < D.length := by rw [← hD.out]; exact hq
                    obtain ⟨pb, hAo, hpb1, hpb2, _, _⟩ := ownD.form (by omega)
                    subst hAo
                    have cq := ownD.cell q hqD
                    have fq := ownD.frozen q
                    have hqI : (q : Int) < (n5 : Int) := by omega
                    obtain ⟨xv, hxv⟩ : ∃ xv, xv = D[q]'hqD := ⟨_, rfl⟩
                    rw [← hxv] at cq
                    have ex := xor_255 xv
                    have hxl := xv.toNat_lt
                    obtain ⟨nv, hnv⟩ : ∃ nv : UInt8, nv = 9 := ⟨_, rfl⟩
                    have e9 : ((nv.toNat : Nat) : Int) = 9 := by rw [hnv]; rfl
                    have eqq : IntKind.i64.wrap ((q : Int) + 1) = (q : Int) + 1 := IntWalk.i64_in _ (by have := hLb.out; omega)
                    have hst := ownD.stored q nv
                    have hcl := hSt _ _ _ hsD hrD ownD hst.2
                    have hBn := hBD.setCell (p := ⟨pb, q, none⟩) (Nat.le_trans hSz hpb1) (.int .u8 (nv.toNat : Int))
                    have HST := Lib.hid hst.1
                    have HCL := Lib.hid hcl
                    have HBN := Lib.hid hBn
                    have HLD := Lib.hid (show n5 = (D.set q nv).length by rw [List.length_set]; exact hD.out)
                    rw [e9] at HST HCL HBN
                    clear hst hcl hBn hsD hrD ownD hBD hxv hnv hpb1 hpb2 hqD
                    go_wp2
                    go_roundw
                    case rel => exact ⟨q + 1, _, by omega, by first | go_num | simp, HLD, HST.out, HCL.out.1, HCL.out.2, HBN.out⟩
                    case measure => simp [intOf]; omega
                  · have hqI : ¬ (q : Int) < (n5 : Int) := by omega
                    obtain ⟨A2, c2, hLe⟩ := hLast _ hsD hrD hBD
                    have hn2 : n ≤ n + bn := by omega
                    have HLe := Lib.hid hLe
                    clear hLe hsD hrD ownD hBD hLast hSt
                    obtain ⟨hd, hhd⟩ : ∃ hd, hd = n - (At + r.1.1.length) := ⟨_, rfl⟩
                    have hh1 := held_n HLe.out.hS hd (Lib.hid (by rw [List.length_drop, ← HLe.out.hn]; exact hhd))
                    have hnb : n ≤ 4200000 := by have := hnkH.out; have := hbnk.out; omega
                    have hh2 := refheld HLe.out.hX HLe.out.hAt (by omega) hd hhd
                    have hN2 := Lib.hid (show n ≤ (k + 1) * 70000 from Nat.le_trans hnkH.out (Nat.mul_le_mul_right _ (Nat.le_succ k)))
                    clear hhd hnb hn2
                    go_wp2_with fail
                    refine hh1.mono ?_
                    clear hh1
                    rintro e wh ⟨rfl, rfl⟩
                    go_wp2_with fail
                    refine hh2.mono ?_
                    clear hh2
                    rintro e wh ⟨dh, rfl, rfl⟩
                    go_wp2
                    go_roundw
                    case rel => exact ⟨k + 1, r.2.1, (At + r.1.1.length), n, c2, A2, All, en, by omega, by omega, by first | go_num | simp, hN2.out, Lib.hid (HLe.out.below (bl_drewN _ _))⟩
                    case measure => simp [intOf]; omega
              · by_cases hk2 : ok = 2
                · subst hk2
                  have hend := end_anyX HL3.out.hS
                  go_wp2_with fail
                  refine hend.mono ?_
                  clear hend
                  rintro e w5 ⟨rfl, S5, hg5, hbn5⟩
                  have hHL := HL3.out
                  have X5 : RefAt w5 bx A n c At (At + left) en := Blk.kept hHL.hX hg5 (fun e => by injection e with e; exact hgb e.symm)
                  have kA : blk A ≠ some w.heap.size := fun e => by obtain ⟨cs, hcs⟩ := hHL.hS.blk; exact hHL.hA.ne_blk' hcs stream_ne e.symm
                  have A5o := hHL.hA.kept hg5 (.inr kA)
                  have hB5 := hHL.hB.trans (below_of hg5 (Nat.le_refl _) hHL.hB.size)
                  obtain ⟨cs3, sb3⟩ := hHL.hS.blk
                  have N5 : ∀ b, Go.Proofs.Ytgbcjimfpoeicaa.blk A = some b → BytesNot w5 w.heap.size b := fun b hb => hbn5 b (hHL.hN b hb)
                  have hend2 := refend X5
                  go_wp2_with fail
                  refine hend2.mono ?_
                  clear hend2
                  rintro e w6 ⟨rfl, X6, hg6⟩
                  have S6 := S5.otherK hg6 X5 ref_ne hgb
                  have kx2 : blk A ≠ some bx := fun e => A5o.ne_blk' X5 ref_ne e.symm
                  have a6 := A5o.kept hg6 (.inr kx2)
                  have hLe : LivesAt w w6 w.heap.size bx left At n c A All true := ⟨S6, X6, hHL.hn, a6, hHL.hAt, fun b hb => bn_grown hg6 S5.lt (fun e => by injection e with e; exact hgb e) (N5 b hb), hB5.trans (below_of hg6 (by omega) hB5.size)⟩
                  have hn2 : n ≤ n + bn := by omega
                  have HLe := Lib.hid hLe
                  clear hLe hg6 hg5 S5 S6 X5 X6 a6 A5o N5 kA kx2 hHL hB5 HL3 e0 e1 e2 obs3 B3 q0 q1 q2 sb3 hbn5
                  obtain ⟨hd, hhd⟩ : ∃ hd, hd = n - At := ⟨_, rfl⟩
                  have hh1 := held_n HLe.out.hS hd (Lib.hid (by rw [List.length_drop, ← HLe.out.hn]; exact hhd))
                  have hnb : n ≤ 4200000 := by have := hnkH.out; have := hbnk.out; omega
                  have hh2 := refheld HLe.out.hX HLe.out.hAt (by omega) hd hhd
                  have hN2 := Lib.hid (show n ≤ (k + 1) * 70000 from Nat.le_trans hnkH.out (Nat.mul_le_mul_right _ (Nat.le_succ k)))
                  clear hhd hnb hn2
                  go_wp2_with fail
                  refine hh1.mono ?_
                  clear hh1
                  rintro e wh ⟨rfl, rfl⟩
                  go_wp2_with fail
                  refine hh2.mono ?_
                  clear hh2
                  rintro e wh ⟨dh, rfl, rfl⟩
                  go_wp2
                  go_roundw
                  case rel => exact ⟨k + 1, left, At, n, c, A, All, true, by omega, by omega, by first | go_num | simp, hN2.out, Lib.hid (HLe.out.below (bl_drewN _ _))⟩
                  case measure => simp [intOf]; omega
                · skip
                  have HLe := HL3
                  have hn2 : n ≤ n + bn := by omega
                  clear HL3 obs3 B3
                  obtain ⟨hd, hhd⟩ : ∃ hd, hd = n - At := ⟨_, rfl⟩
                  have hh1 := held_n HLe.out.hS hd (Lib.hid (by rw [List.length_drop, ← HLe.out.hn]; exact hhd))
                  have hnb : n ≤ 4200000 := by have := hnkH.out; have := hbnk.out; omega
                  have hh2 := refheld HLe.out.hX HLe.out.hAt (by omega) hd hhd
                  have hN2 := Lib.hid (show n ≤ (k + 1) * 70000 from Nat.le_trans hnkH.out (Nat.mul_le_mul_right _ (Nat.le_succ k)))
                  clear hhd hnb hn2
                  go_wp2_with fail
                  refine hh1.mono ?_
                  clear hh1
                  rintro e wh ⟨rfl, rfl⟩
                  go_wp2_with fail
                  refine hh2.mono ?_
                  clear hh2
                  rintro e wh ⟨dh, rfl, rfl⟩
                  go_wp2
                  go_roundw
                  case rel => exact ⟨k + 1, left, At, n, c, A, All, en, by omega, by omega, by first | go_num | simp, hN2.out, Lib.hid (HLe.out.below (bl_drewN _ _))⟩
                  case measure => simp [intOf]; omega
      · have hk6I : ¬ (k : Int) < 60 := by omega
        go_wp2_with fail
        refine (alive_any _).mono ?_
        rintro e wz ⟨rfl, hbz⟩
        go_wp2
        go_ret
        exact ⟨rfl, bt HL.out.hB hbz⟩
    · have hklI : ¬ (k : Int) < (m : Int) := by omega
      go_wp2_with fail
      refine (alive_any _).mono ?_
      rintro e wz ⟨rfl, hbz⟩
      go_wp2
      go_ret
      exact ⟨rfl, bt HL.out.hB hbz⟩
end Go.Proofs.Ytgbcjimfpoeicaa
