/- Layer 1: the document's Split. -/
import Derived.Test.YtjeajglnoedkaaaJh
namespace Go.Proofs.Ytjeajglnoedkaaa
open Go.RowKit
set_option linter.unusedVariables false
set_option linter.unusedSimpArgs false

theorem bs_sub {w : World} {B b o : Nat} {l : List UInt8} (h : Bs w B (some ⟨b, o, none⟩) l) (k m : Nat) : Bs w B (some ⟨b, o + k, none⟩) ((l.drop k).take m) := fun hp => by
  rw [List.length_take, List.length_drop] at hp
  obtain ⟨b', o', e, h1, h2⟩ := h (by omega)
  cases e
  refine ⟨b, o + k, rfl, h1, fun i hi => ?_⟩
  rw [List.length_take, List.length_drop] at hi
  rw [List.getElem_take, List.getElem_drop, Nat.add_assoc]
  exact h2 _ _
theorem wpList_append_run {P : Program} {w : World} {ops : Array Oper} {rest : List Oper} {o : Oper} {a : Act} {Q : Exit → Act → World → Prop} (hgd : o.guard = none) (s x : Operand) (t : TypeId)
    (ho : o.op = .call { callee := .builtin .append, args := #[s, x], argTypes := #[t, t] }) (sv xv v : Value) (w' : World) (hs : a.eval s = sv) (hx : a.eval x = xv) (hrun : (Builtin.append_ #[t, t] o.type #[sv, xv]).run P w = .ok v w') (h : wpList P ops Q rest (a.put o.dst v) w') :
    wpList P ops Q (o :: rest) a w := by
  refine wpList_plain hgd fun _ hK => ?_
  unfold Oper.wp execOp
  simp only [ho, resolve, invoke, builtin, Sem.run_bind, Sem.run_pure, Result.andThen_ok, List.map_toArray, List.map_cons, List.map_nil, hs, hx, hrun]
  exact hK _ _ h
theorem runP_cons (x : Nat × List UInt8 × Bool) (t : List (Nat × List UInt8 × Bool)) (acc : List (List UInt8)) : runP (x :: t) acc = if x.2.2 = false then (([] : List (List UInt8)), (x.1 : Int), (11 : Int)) else if acc.length = 1000 then ([], 0, 2) else runP t (acc ++ [x.2.1]) := rfl

theorem refsplit_more {w wz w5 : World} {A4 A5 : Option Addr} {c4 c5 m nn : Nat} {ls : List (List UInt8)} {L : List UInt8} (hbrz : Below w.heap.size w wz) (hresz : Blk wz w.heap.size 36 #[.int .i64 0, .int .i64 0]) (hpaz : PartsAt wz (w.heap.size + 1) A4 c4 ls) (hszz : w.heap.size + 1 ≤ wz.heap.size)
    (own5 : Own w5 (w.heap.size + 1) 5 A5 c5 L) (hb5 : Below wz.heap.size wz w5) (hm : m = ls.length) (hl : m ≤ 1000) (hnn : nn = L.length) :
    ∃ A6 c6 w7, (Builtin.append_ #[31, 31] 31 #[.slice A4 m c4, .slice (some ⟨w5.heap.size, 0, none⟩) 1 1]).run Try.prog (w5.alloc (.cells #[.slice A5 nn c5] 23)) = .ok (.slice A6 (m + 1) c6) w7 ∧
      PartsAt w7 (w.heap.size + 1) A6 c6 (ls ++ [L]) ∧ Blk w7 w.heap.size 36 #[.int .i64 0, .int .i64 0] ∧ w.heap.size + 1 ≤ w7.heap.size ∧ Below w.heap.size w w7 := by
  have hnx := ba w5 (.cells #[.slice A5 nn c5] 23)
  have hsz6 : w.heap.size + 1 ≤ (w5.alloc (.cells #[.slice A5 nn c5] 23)).heap.size := Nat.le_trans (Nat.le_trans hszz hb5.size) hnx.size
  obtain ⟨A6, c6, w7, hrun7, hpa7, row7, hg7, hr7⟩ := parts_more ((hpaz.below hb5).below hnx) m hm hl A5 nn c5 w5.heap.size L hnn ((own5.fr (Nat.le_refl _)).below hnx) hsz6 ((Blk.new w5 23 #[.slice A5 nn c5]).cell 0)
  exact ⟨A6, c6, w7, hrun7, hpa7, ((hresz.below hb5 hresz.lt).below hnx (Nat.lt_of_lt_of_le hresz.lt hb5.size)).kept hg7 (fun e => by have := (hr7 _ e.symm).1; omega), Nat.le_trans hsz6 hg7.size,
    (bt hbrz (bt hb5 hnx)).grown hg7 (by omega) (fun r e => by have := (hr7 r e).1; omega)⟩

set_option maxRecDepth 100000 in
set_option maxHeartbeats 4000000 in
theorem refsplit_any (A : Option Addr) (data : List UInt8) (N c : Nat) (w : World) (hN : Hid (N = data.length)) (hcap : Hid (N ≤ c)) (hc2 : Hid (c ≤ 9223372036854775807)) (hm : Hid (N ≤ 100000000)) (hbs : Bs w w.heap.size A data) :
    Calls Try.prog 21 #[.slice A N c] w (SplitO w (splitR data)) := by
  obtain ⟨i0, hi, hz0, hz1, hz2⟩ := info_parts Try.infoU8j
  have HBS := Lib.hid hbs
  clear hbs
  obtain ⟨R, hR⟩ : ∃ R, R = splitR data := ⟨_, rfl⟩
  rw [← hR]
  have HR : Hid (R = runP (scanL N data 0) []) := Lib.hid (by rw [hR, hN.out]; rfl)
  clear hR
  go_enter Try.func21, Try.ntmps21
  go_wp2
  go_loopw [4, 5, 6, 7, 8] (fun s i v6 v7 v8 wr => ∃ (q k m c4 : Nat) (A4 : Option Addr) (ls : List (List UInt8)) (u6 u7 u8 : Value), u6 = v6 ∧ u7 = v7 ∧ u8 = v8 ∧ i = .int .i64 q ∧ s = .slice A4 m c4 ∧ Hid (m = ls.length ∧ ls.length ≤ 1000) ∧ Hid (R = runP (scanL k (data.drop q) q) ls) ∧ Hid (N ≤ q + k) ∧ q ≤ N ∧
      PartsAt wr (w.heap.size + 1) A4 c4 ls ∧ Blk wr w.heap.size 36 #[.int .i64 0, .int .i64 0] ∧ w.heap.size + 1 ≤ wr.heap.size ∧ Below w.heap.size w wr) (fun _ i _ _ _ _ => N - (intOf i).toNat)
  case atStart => exact ⟨0, N, 0, 0, none, [], _, _, _, rfl, rfl, rfl, rfl, rfl, Lib.hid ⟨rfl, by simp⟩, Lib.hid (by rw [HR.out]; rfl), Lib.hid (by omega), Nat.zero_le _, PartsAt.nil _ _, Blk.new _ _ _, by simp, ba _ _⟩
  case round =>
    obtain ⟨q, k, m, c4, A4, ls, u6, u7, u8, rfl, rfl, rfl, rfl, rfl, hml, hRk, hk, hq, hpa, hres, hsz, hbr⟩ := hrel
    have d30 := hres.cell 0
    have d31 := hres.cell 1
    have f30 := hres.frozen 0
    have f31 := hres.frozen 1
    simp only [List.getElem?_toArray, List.getElem?_cons_zero, List.getElem?_cons_succ] at d30 d31
    by_cases hlt : q < N
    · obtain ⟨k, rfl⟩ : ∃ k', k = k' + 1 := ⟨k - 1, by have := hk.out; omega⟩
      obtain ⟨b, o, rfl, hblt, hcs⟩ := HBS.out (by rw [← hN.out]; omega)
      have hL : (data.drop q).length = N - q := by rw [List.length_drop, hN.out]
      have hR2 := hRk.out
      rw [scanL, if_neg (by omega), runP_cons] at hR2
      simp only at hR2
      have hg : ∀ i, (hi : i < (data.drop q).length) → w.cell? ⟨b, o + q + i, none⟩ = some (.int .u8 (((data.drop q)[i]'hi).toNat : Int)) := fun i hi => by
        rw [List.getElem_drop, Nat.add_assoc]
        exact hcs _ _
      have hsub := fun k m => bs_sub HBS.out k m
      have Hsub := Lib.hid hsub
      generalize hr : data.drop q = r at hL hg hR2
      have Hr := Lib.hid hr
      clear hr hcs hsub
      have Hml := hml
      have hqI : (q : Int) < (N : Int) := by omega
      have Hfit := Lib.hid (And.intro hcap.out (And.intro hc2.out hm.out))
      rcases r with _ | ⟨x, _ | ⟨y, t⟩⟩
      · simp at hL; omega
      · obtain rfl : N = q + 1 := by simp at hL; omega
        have hR3 : R = ([], (q : Int), 11) := by rw [hR2]; rfl
        subst hR3
        clear hR2 hL hg hlt hq hRk HR
        have g1 : IntKind.i64.wrap ((q : Int) + 1 - (q : Int)) = 1 := by rw [show (q : Int) + 1 - (q : Int) = 1 by omega]; rfl
        have g2 : (q : Int) + 1 - (q : Int) = 1 := by omega
        go_wp2
        go_quiet (fail)
        obtain ⟨wq, hwq⟩ : ∃ wq, wq = wr.drewN nq := ⟨_, rfl⟩
        have hresq : Blk wq w.heap.size 36 #[.int .i64 0, .int .i64 0] := by rw [hwq]; exact hres
        have hbrq : Below w.heap.size w wq := by rw [hwq]; exact bt hbr (bl_drewN _ _)
        have hpaq : PartsAt wq (w.heap.size + 1) A4 c4 ls := by rw [hwq]; exact hpa.below (bl_drewN _ _)
        have hszq : w.heap.size + 1 ≤ wq.heap.size := by rw [hwq]; exact hsz
        rw [← hwq]
        clear hres hbr hpa hsz d30 d31 f30 f31 hwq
        have hres := hresq
        have hbr := hbrq
        have hpa := hpaq
        have hsz := hszq
        clear hresq hbrq hpaq hszq
        have d30 := hres.cell 0
        have d31 := hres.cell 1
        have f30 := hres.frozen 0
        have f31 := hres.frozen 1
        simp only [List.getElem?_toArray, List.getElem?_cons_zero, List.getElem?_cons_succ] at d30 d31
        have hr2 : Blk ((wq.setCell ⟨w.heap.size, 0, none⟩ (.int .i64 (q : Int))).setCell ⟨w.heap.size, 1, none⟩ (.int .i64 11)) w.heap.size 36 #[.int .i64 (q : Int), .int .i64 11] := by simpa using (hres.set_ 0 (.int .i64 (q : Int))).set_ 1 (.int .i64 11)
        have d0 := hr2.cell 0
        have d1 := hr2.cell 1
        simp only [List.getElem?_toArray, List.getElem?_cons_zero, List.getElem?_cons_succ] at d0 d1
        go_wp2
        exact bodyPost_ret (v := .tuple #[.slice none ([] : List (List UInt8)).length 0, .agg #[.int .i64 (q : Int), .int .i64 11]]) (by simp [results, Try.results21, go_sem, d0, d1]; try rfl) rfl ⟨none, 0, rfl, ListFrom.nil _ _ _, (hbr.setCell (Nat.le_refl _) _).setCell (Nat.le_refl _) _⟩
      · obtain rfl : N = q + (t.length + 2) := by simp at hL; omega
        have h0 := hg 0 (by simp)
        have h1 := hg 1 (by simp)
        simp only [List.getElem_cons_zero, List.getElem_cons_succ, Nat.add_zero] at h0 h1
        have k0 := (hbr.cell (p := ⟨b, o + q, none⟩) hblt).trans h0
        rw [Nat.add_assoc] at h1
        have k1 := (hbr.cell (p := ⟨b, o + (q + 1), none⟩) hblt).trans h1
        rw [pieceR_cons] at hR2
        have hx := x.toNat_lt
        have hy := y.toNat_lt
        obtain ⟨M, hM⟩ : ∃ M, M = num2 x y := ⟨_, rfl⟩
        rw [← hM] at hR2
        have hMI : 256 * (x.toNat : Int) + (y.toNat : Int) = (M : Int) := by rw [hM]; unfold num2; push_cast; rfl
        have HMI := Lib.hid hMI
        have HMl : Hid (M < 65536) := Lib.hid (by rw [hM]; exact num2_lt x y)
        have gq : (q : Int) + 1 < (q : Int) + ((t.length : Int) + 2) := by omega
        have gq0 : (q : Int) < (q : Int) + ((t.length : Int) + 2) := by omega
        have e0 : (q : Int) + ((t.length : Int) + 2) - (q : Int) = (t.length : Int) + 2 := by omega
        have e1 : IntKind.i64.wrap ((t.length : Int) + 2) = (t.length : Int) + 2 := IntWalk.i64_in _ (by have := hm.out; omega)
        have e2 : IntKind.i64.wrap ((q : Int) + 1) = (q : Int) + 1 := IntWalk.i64_in _ (by have := hm.out; omega)
        have e3 : ¬ (t.length : Int) + 2 < 2 := by omega
        have e4 : (0 : Int) ≤ (q : Int) + 1 := by omega
        have e5 : (1 : Int) < (t.length : Int) + 2 := by omega
        have e6 : (0 : Int) < (t.length : Int) + 2 := by omega
        have wx : IntKind.i64.wrap (x.toNat : Int) = (x.toNat : Int) := IntWalk.i64_in _ (by omega)
        have wy : IntKind.i64.wrap (y.toNat : Int) = (y.toNat : Int) := IntWalk.i64_in _ (by omega)
        have wm : IntKind.i64.wrap (256 * (x.toNat : Int)) = 256 * (x.toNat : Int) := IntWalk.i64_in _ (by omega)
        have ws : IntKind.i64.wrap (256 * (x.toNat : Int) + (y.toNat : Int)) = 256 * (x.toNat : Int) + (y.toNat : Int) := IntWalk.i64_in _ (by omega)
        have wt : IntKind.i64.wrap ((t.length : Int) + 2 - 2) = (t.length : Int) := by rw [show (t.length : Int) + 2 - 2 = (t.length : Int) by omega]; exact IntWalk.i64_in _ (by have := hm.out; omega)
        have wt2 : IntKind.i64.wrap (t.length : Int) = (t.length : Int) := IntWalk.i64_in _ (by have := hm.out; omega)
        clear hL hlt hq hRk HR h0 h1 hg hM
        by_cases hsh : t.length < M
        · rw [if_pos hsh] at hR2
          have hR3 : R = ([], (q : Int), 11) := by rw [hR2]; rfl
          subst hR3
          have hd : (t.length : Int) < 256 * (x.toNat : Int) + (y.toNat : Int) := by rw [hMI]; omega
          clear hR2 hsh hMI
          go_wp2
          go_quiet (fail)
          obtain ⟨wq, hwq⟩ : ∃ wq, wq = wr.drewN nq := ⟨_, rfl⟩
          have hresq : Blk wq w.heap.size 36 #[.int .i64 0, .int .i64 0] := by rw [hwq]; exact hres
          have hbrq : Below w.heap.size w wq := by rw [hwq]; exact bt hbr (bl_drewN _ _)
          have hpaq : PartsAt wq (w.heap.size + 1) A4 c4 ls := by rw [hwq]; exact hpa.below (bl_drewN _ _)
          have hszq : w.heap.size + 1 ≤ wq.heap.size := by rw [hwq]; exact hsz
          have l0 : wq.cell? ⟨b, o + q, none⟩ = some (.int .u8 (x.toNat : Int)) := by rw [hwq]; exact k0
          have l1 : wq.cell? ⟨b, o + (q + 1), none⟩ = some (.int .u8 (y.toNat : Int)) := by rw [hwq]; exact k1
          rw [← hwq]
          clear hres hbr hpa hsz d30 d31 f30 f31 k0 k1 hwq
          have hres := hresq
          have hbr := hbrq
          have hpa := hpaq
          have hsz := hszq
          clear hresq hbrq hpaq hszq
          have d30 := hres.cell 0
          have d31 := hres.cell 1
          have f30 := hres.frozen 0
          have f31 := hres.frozen 1
          simp only [List.getElem?_toArray, List.getElem?_cons_zero, List.getElem?_cons_succ] at d30 d31
          have hr2 : Blk ((wq.setCell ⟨w.heap.size, 0, none⟩ (.int .i64 (q : Int))).setCell ⟨w.heap.size, 1, none⟩ (.int .i64 11)) w.heap.size 36 #[.int .i64 (q : Int), .int .i64 11] := by simpa using (hres.set_ 0 (.int .i64 (q : Int))).set_ 1 (.int .i64 11)
          have d0 := hr2.cell 0
          have d1 := hr2.cell 1
          simp only [List.getElem?_toArray, List.getElem?_cons_zero, List.getElem?_cons_succ] at d0 d1
          clear hx hy gq gq0 e0 e1 e2 e4 e5 e6 wx wy wm ws wt wt2
          go_wp2
          exact bodyPost_ret (v := .tuple #[.slice none ([] : List (List UInt8)).length 0, .agg #[.int .i64 (q : Int), .int .i64 11]]) (by simp [results, Try.results21, go_sem, d0, d1]; try rfl) rfl ⟨none, 0, rfl, ListFrom.nil _ _ _, (hbr.setCell (Nat.le_refl _) _).setCell (Nat.le_refl _) _⟩
        · rw [if_neg hsh] at hR2
          have hd : ¬ (t.length : Int) < 256 * (x.toNat : Int) + (y.toNat : Int) := by rw [hMI]; omega
          have Hsh := Lib.hid hsh
          have HR2 := Lib.hid hR2
          clear hR2 hsh hMI
          go_wp2
          go_quiet (fail)
          obtain ⟨wq, hwq⟩ : ∃ wq, wq = wr.drewN nq := ⟨_, rfl⟩
          have hresq : Blk wq w.heap.size 36 #[.int .i64 0, .int .i64 0] := by rw [hwq]; exact hres
          have hbrq : Below w.heap.size w wq := by rw [hwq]; exact bt hbr (bl_drewN _ _)
          have hpaq : PartsAt wq (w.heap.size + 1) A4 c4 ls := by rw [hwq]; exact hpa.below (bl_drewN _ _)
          have hszq : w.heap.size + 1 ≤ wq.heap.size := by rw [hwq]; exact hsz
          have l0 : wq.cell? ⟨b, o + q, none⟩ = some (.int .u8 (x.toNat : Int)) := by rw [hwq]; exact k0
          have l1 : wq.cell? ⟨b, o + (q + 1), none⟩ = some (.int .u8 (y.toNat : Int)) := by rw [hwq]; exact k1
          rw [← hwq]
          clear hres hbr hpa hsz d30 d31 f30 f31 k0 k1 hwq
          have hres := hresq
          have hbr := hbrq
          have hpa := hpaq
          have hsz := hszq
          clear hresq hbrq hpaq hszq
          have d30 := hres.cell 0
          have d31 := hres.cell 1
          have f30 := hres.frozen 0
          have f31 := hres.frozen 1
          simp only [List.getElem?_toArray, List.getElem?_cons_zero, List.getElem?_cons_succ] at d30 d31
          by_cases h1000 : (m : Int) < 1000
          · go_wp2
            go_quiet (fail)
            rw [HMI.out]
            have hMt : M ≤ t.length := by have := Hsh.out; omega
            have htl : (t.take M).length = M := by rw [List.length_take]; omega
            obtain ⟨L, hLd⟩ : ∃ L, L = t.take M := ⟨_, rfl⟩
            rw [← hLd] at htl
            have hLsub : L = (data.drop (q + 2)).take M := by rw [hLd, show data.drop (q + 2) = (data.drop q).drop 2 from (List.drop_drop).symm, Hr.out]; rfl
            have hR5 : R = runP (scanL k (data.drop (q + 2 + M)) (q + 2 + M)) (ls ++ [L]) := by
              rw [HR2.out, if_neg (by simp), if_neg (by rw [← hml.out.1]; omega), if_pos trivial, ← hLd, htl, ← Hr.out, List.drop_drop, show q + (2 + M) = q + 2 + M by omega]
            have HR5 := Lib.hid hR5
            have HLd := Lib.hid hLd
            have HLs := Lib.hid hLsub
            have Htl := Lib.hid htl
            have hcf := Hfit.out
            have hbsL : ∀ wz, Below w.heap.size w wz → Bs wz wz.heap.size (some ⟨b, o + (q + 2), none⟩) L := fun wz h => by rw [HLs.out]; exact (Hsub.out (q + 2) M).bt h
            have HbsL := Lib.hid hbsL
            have hc0 : c = q + 2 → M = 0 := fun e => by omega
            have Hc0 := Lib.hid hc0
            have v1 : IntKind.i64.wrap ((q : Int) + 2) = (q : Int) + 2 := IntWalk.i64_in _ (by omega)
            have v2 : IntKind.i64.wrap ((q : Int) + 2 + (M : Int)) = (q : Int) + 2 + (M : Int) := IntWalk.i64_in _ (by omega)
            have v3 : (q : Int) + 2 + (M : Int) ≤ (c : Int) := by omega
            have v4 : (0 : Int) ≤ (q : Int) + 2 := by omega
            have v5 : (q : Int) + 2 ≤ (q : Int) + 2 + (M : Int) := by omega
            have HM100 : Hid (M ≤ 100000000) := Lib.hid (by omega)
            have Hq100 : Hid (q + 2 + M ≤ 100000000 ∧ q + (t.length + 2) ≤ q + 2 + M + k ∧ q + 2 + M ≤ q + (t.length + 2)) := Lib.hid (by have := hk.out; omega)
            clear hLd hLsub hR5 hbsL hc0 htl hMt hcf hx hy gq gq0 e0 e1 e2 e4 e5 e6 wx wy wm ws wt wt2 e3 hd l0 l1
            obtain ⟨wz, hwz⟩ : ∃ wz, wz = wq.drewN nq := ⟨_, rfl⟩
            have hresz : Blk wz w.heap.size 36 #[.int .i64 0, .int .i64 0] := by rw [hwz]; exact hres
            have hbrz : Below w.heap.size w wz := by rw [hwz]; exact bt hbr (bl_drewN _ _)
            have hpaz : PartsAt wz (w.heap.size + 1) A4 c4 ls := by rw [hwz]; exact hpa.below (bl_drewN _ _)
            have hszz : w.heap.size + 1 ≤ wz.heap.size := by rw [hwz]; exact hsz
            rw [← hwz]
            clear hres hbr hpa hsz d30 d31 f30 f31 hwz
            have t1 : ((q : Int) + 2 + (M : Int)).toNat = q + 2 + M := by omega
            have t2 : ((q : Int) + 2).toNat = q + 2 := by omega
            have t3 : q + 2 + M - (q + 2) = M := by omega
            have Hlt := Lib.hid h1000
            have Hm5 : Hid (m = ls.length) := Lib.hid hml.out.1
            have Hm6 : Hid (m ≤ 1000) := Lib.hid (by omega)
            have HLen : Hid (L.length ≤ 140737488355328) := Lib.hid (by have := HM100.out; have := Htl.out; omega)
            clear h1000
            by_cases hz : c = q + 2
            · obtain rfl : M = 0 := Hc0.out hz
              subst hz
              have Hnn : Hid (0 = L.length) := Lib.hid Htl.out.symm
              have Hbz : Hid (Bs wz wz.heap.size (some ⟨b, o, none⟩) L) := Lib.hid (by rw [List.eq_nil_of_length_eq_zero Htl.out]; exact Bs.nil)
              go_wp2_with (first
                | (at_builtin; refine wpList_append_nil _ rfl (.tmp 56) (.tmp 64) 23 rfl (w.heap.size + 1) 5 i0 _ Try.underlying23 hi hz0 hz1 hz2 rfl rfl wz.heap.size (some ⟨b, o, none⟩) 0 L 0 rfl Hnn.out Hbz.out HLen.out hszz ?_; intro A5 c5 w5 own5 hb5; obtain ⟨A6, c6, w7, hrun7, hpa7, hres7, hsz7, hb7⟩ := refsplit_more hbrz hresz hpaz hszz own5 hb5 Hm5.out Hm6.out Hnn.out; clear hresz hbrz hpaz hszz hb5 own5)
                | (at_builtin; refine wpList_append_run rfl (.tmp 66) (.tmp 68) 31 rfl _ _ _ w7 rfl rfl hrun7 ?_))
              clear hrun7
              go_roundw
              case rel => exact ⟨q + 2 + 0, k, m + 1, c6, A6, ls ++ [L], _, _, _, rfl, rfl, rfl, by first | rfl | (congr 1; push_cast; omega) | go_num, rfl, Lib.hid ⟨by have := Hm5.out; simp; omega, by have := Hm5.out; have := Hlt.out; simp; omega⟩, HR5, Lib.hid Hq100.out.2.1, Hq100.out.2.2, hpa7, hres7, hsz7, hb7⟩
              case measure => have := Hq100.out; simp [intOf]; omega
            · have Hnn : Hid (M = L.length) := Lib.hid Htl.out.symm
              have Hbz : Hid (Bs wz wz.heap.size (some ⟨b, o + (q + 2), none⟩) L) := Lib.hid (HbsL.out _ hbrz)
              go_wp2_with (first
                | (at_builtin; refine wpList_append_nil _ rfl (.tmp 56) (.tmp 64) 23 rfl (w.heap.size + 1) 5 i0 _ Try.underlying23 hi hz0 hz1 hz2 rfl rfl wz.heap.size (some ⟨b, o + (q + 2), none⟩) (c - (q + 2)) L M rfl Hnn.out Hbz.out HLen.out hszz ?_; intro A5 c5 w5 own5 hb5; obtain ⟨A6, c6, w7, hrun7, hpa7, hres7, hsz7, hb7⟩ := refsplit_more hbrz hresz hpaz hszz own5 hb5 Hm5.out Hm6.out Hnn.out; clear hresz hbrz hpaz hszz hb5 own5)
                | (at_builtin; refine wpList_append_run rfl (.tmp 66) (.tmp 68) 31 rfl _ _ _ w7 rfl rfl hrun7 ?_))
              clear hrun7
              go_roundw
              case rel => exact ⟨q + 2 + M, k, m + 1, c6, A6, ls ++ [L], _, _, _, rfl, rfl, rfl, by first | rfl | (congr 1; push_cast; omega) | go_num, rfl, Lib.hid ⟨by have := Hm5.out; simp; omega, by have := Hm5.out; have := Hlt.out; simp; omega⟩, HR5, Lib.hid Hq100.out.2.1, Hq100.out.2.2, hpa7, hres7, hsz7, hb7⟩
              case measure => have := Hq100.out; simp [intOf]; omega
          · have hm1 : m = 1000 := by have := hml.out; omega
            have hR3 : R = ([], 0, 2) := by rw [HR2.out, if_neg (by simp), if_pos (by rw [← hml.out.1]; exact hm1)]
            subst hR3
            have hr2 : Blk ((wq.setCell ⟨w.heap.size, 0, none⟩ (.int .i64 0)).setCell ⟨w.heap.size, 1, none⟩ (.int .i64 2)) w.heap.size 36 #[.int .i64 0, .int .i64 2] := by simpa using (hres.set_ 0 (.int .i64 0)).set_ 1 (.int .i64 2)
            have d0 := hr2.cell 0
            have d1 := hr2.cell 1
            simp only [List.getElem?_toArray, List.getElem?_cons_zero, List.getElem?_cons_succ] at d0 d1
            go_wp2
            exact bodyPost_ret (v := .tuple #[.slice none ([] : List (List UInt8)).length 0, .agg #[.int .i64 0, .int .i64 2]]) (by simp [results, Try.results21, go_sem, d0, d1]; try rfl) rfl ⟨none, 0, rfl, ListFrom.nil _ _ _, (hbr.setCell (Nat.le_refl _) _).setCell (Nat.le_refl _) _⟩
    · obtain rfl : q = N := by omega
      have hR3 : R = (ls, 0, 0) := by rw [hRk.out, scanL_nil _ _ _ (by rw [List.length_drop, ← hN.out]; omega)]; rfl
      subst hR3
      have hme := hml.out.1
      subst hme
      have hr2 : Blk ((wr.setCell ⟨w.heap.size, 0, none⟩ (.int .i64 0)).setCell ⟨w.heap.size, 1, none⟩ (.int .i64 0)) w.heap.size 36 #[.int .i64 0, .int .i64 0] := by simpa using (hres.set_ 0 (.int .i64 0)).set_ 1 (.int .i64 0)
      have d0 := hr2.cell 0
      have d1 := hr2.cell 1
      simp only [List.getElem?_toArray, List.getElem?_cons_zero, List.getElem?_cons_succ] at d0 d1
      go_wp2
      exact bodyPost_ret (v := .tuple #[.slice A4 ls.length c4, .agg #[.int .i64 0, .int .i64 0]]) (by simp [results, Try.results21, go_sem, d0, d1]; try rfl) rfl ⟨A4, c4, rfl, (((hpa.kept (gset wr w.heap.size 0 (.int .i64 0)) (fun r e => .inl (by cases e; omega))).kept (gset _ w.heap.size 1 (.int .i64 0)) (fun r e => .inl (by cases e; omega))).list).base (by omega), (hbr.setCell (Nat.le_refl _) _).setCell (Nat.le_refl _) _⟩
end Go.Proofs.Ytjeajglnoedkaaa
