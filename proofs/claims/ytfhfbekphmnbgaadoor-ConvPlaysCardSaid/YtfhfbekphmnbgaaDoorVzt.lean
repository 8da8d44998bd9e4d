/- Layer 10: the document's Do, row by row, on side 1. -/
import Derived.Test.YtfhfbekphmnbgaaDoorVz
namespace Go.Proofs.YtfhfbekphmnbgaaDoor
open Go.RowKit
set_option linter.unusedVariables false
set_option linter.unusedSimpArgs false
set_option maxRecDepth 100000 in
set_option maxHeartbeats 16000000 in
theorem refdo_go_t (l s0 : Int) (w0 : Bool) (s1 : Int) (t verb : Int) (w : World) (hrt : rightM (l, s0, w0, s1, false, t) = true) (h1 : 1 ≤ verb) (h2 : verb ≤ 13) : Calls Tryd.prog 18 #[.agg #[.int .i64 l, .int .i64 s0, .int .i64 s1, .bool w0, .bool false, .int .i64 t], .int .i64 1, .int .i64 verb] w fun e w' => e = .returned (.tuple #[rv (rowsDo (l, s0, w0, s1, false, t) true verb allRows).1, .int .i64 (rowsDo (l, s0, w0, s1, false, t) true verb allRows).2]) ∧ Below w.heap.size w w' := by
  have hr := fun w => refright_any l s0 w0 s1 false t w
  have hrows := fun w => rows_any w
  rw [hrt] at hr
  rw [rows_all] at hrows
  have g3 : decide (verb < 1) = false := decide_eq_false (by omega)
  have g4 : decide (verb > 13) = false := decide_eq_false (by omega)
  have g5 : decide (13 < verb) = false := g4
  clear hrt h1 h2
  obtain ⟨R, hR⟩ : ∃ R, R = rowsDo (l, s0, w0, s1, false, t) true verb allRows := ⟨_, rfl⟩
  rw [← hR]
  have HR := Lib.hid hR
  clear hR
  go_enter Tryd.func18, Tryd.ntmps18
  go_wp2_with fail
  refine (hr _).mono ?_
  rintro e wA ⟨rfl, hbA⟩
  have kb := Blk.below (g := w.heap.size) (t := 33) (cs := #[.int .i64 l, .int .i64 s0, .int .i64 s1, .bool w0, .bool false, .int .i64 t]) (by exact (Blk.new _ _ _).alloc _) hbA (by simp; omega)
  have kz := Blk.below (g := w.heap.size + 1) (t := 33) (cs := #[.int .i64 0, .int .i64 0, .int .i64 0, .bool false, .bool false, .int .i64 0]) (by exact Blk.new2 _ _ _ _) hbA (by simp)
  have hbA := bt (ba2 _ _ _) hbA
  go_wp2_with fail
  refine (hrows _).mono ?_
  rintro e wB ⟨v, rfl, hown, hb⟩
  obtain ⟨g, c, rfl, hrw⟩ := hown.at
  have kb0 := kb.below hb kb.lt
  have kz0 := kz.below hb kz.lt
  have hb0 := bt hbA hb
  clear kb kz hbA hb hown
  go_wp2_with fail
  go_loopw [9] (fun i wr => ∃ q : Nat, q ≤ 47 ∧ i = .int .i64 q ∧ Hid (∀ j r, allRows[j]? = some r → j < q → fits l s1 verb r = false) ∧ (Blk wr w.heap.size 33 #[.int .i64 l, .int .i64 s0, .int .i64 s1, .bool w0, .bool false, .int .i64 t] ∧ (Blk wr (w.heap.size + 1) 33 #[.int .i64 0, .int .i64 0, .int .i64 0, .bool false, .bool false, .int .i64 0] ∧ (RowsAt wr g ∧ Below w.heap.size w wr)))) (fun i _ => 47 - (intOf i).toNat)
  case atStart => exact ⟨0, Nat.zero_le _, rfl, Lib.hid (fun j r _ hj => absurd hj (by omega)), kb0, kz0, hrw, hb0⟩
  case round =>
    obtain ⟨q, hq, rfl, hall, kb, kz, hrw, hbw⟩ := hrel
    clear kb0 kz0 hb0
    by_cases hql : q < 47
    · have hqI : (q : Int) < 47 := by omega
      obtain ⟨⟨rv, rf, rl, rm, ri, rw, ro, rt⟩, hm⟩ : ∃ r, allRows[q]? = some r := ⟨allRows[q]'hql, List.getElem?_eq_getElem hql⟩
      have hcr : ∀ j, j < 8 → wr.cell? ⟨g, q * 8 + j, none⟩ = (rw8 (rv, rf, rl, rm, ri, rw, ro, rt))[j]? := fun j hj => by
        have hg := flat_get allRows q _ hm j hj
        obtain ⟨u, hu⟩ : ∃ u, (rw8 (rv, rf, rl, rm, ri, rw, ro, rt))[j]? = some u := ⟨_, List.getElem?_eq_getElem hj⟩
        rw [hu] at hg ⊢
        exact hrw.2 _ _ hg
      have z0 := hcr 0 (by decide)
      have z1 := hcr 1 (by decide)
      have z2 := hcr 2 (by decide)
      have z3 := hcr 3 (by decide)
      have z4 := hcr 4 (by decide)
      have z5 := hcr 5 (by decide)
      have z6 := hcr 6 (by decide)
      have z7 := hcr 7 (by decide)
      simp only [rw8, List.getElem?_cons_zero, List.getElem?_cons_succ, Nat.add_zero] at z0 z1 z2 z3 z4 z5 z6 z7
      have kR := Blk.new wr 59 #[.int .i64 rv, .int .i64 rf, .int .i64 rl, .int .i64 rm, .int .i64 ri, .bool rw, .int .i64 ro, .int .i64 rt]
      have kA := kb.alloc (.cells #[.int .i64 rv, .int .i64 rf, .int .i64 rl, .int .i64 rm, .int .i64 ri, .bool rw, .int .i64 ro, .int .i64 rt] 59)
      have kzA := kz.alloc (.cells #[.int .i64 rv, .int .i64 rf, .int .i64 rl, .int .i64 rm, .int .i64 ri, .bool rw, .int .i64 ro, .int .i64 rt] 59)
      have hbA := bt hbw (ba wr (.cells #[.int .i64 rv, .int .i64 rf, .int .i64 rl, .int .i64 rm, .int .i64 ri, .bool rw, .int .i64 ro, .int .i64 rt] 59))
      have hrA := hrw.bt (ba wr (.cells #[.int .i64 rv, .int .i64 rf, .int .i64 rl, .int .i64 rm, .int .i64 ri, .bool rw, .int .i64 ro, .int .i64 rt] 59))
      have x0 := kR.cell 0
      have x1 := kR.cell 1
      have x2 := kR.cell 2
      have x3 := kR.cell 3
      have x4 := kR.cell 4
      have x5 := kR.cell 5
      have x6 := kR.cell 6
      have x7 := kR.cell 7
      have y0 := kA.cell 0
      have y1 := kA.cell 1
      have y2 := kA.cell 2
      have y3 := kA.cell 3
      have y4 := kA.cell 4
      have y5 := kA.cell 5
      simp only [List.getElem?_toArray, List.getElem?_cons_zero, List.getElem?_cons_succ] at x0 x1 x2 x3 x4 x5 x6 x7 y0 y1 y2 y3 y4 y5
      have hnext : fits l s1 verb (rv, rf, rl, rm, ri, rw, ro, rt) = false → Hid (∀ j r, allRows[j]? = some r → j < q + 1 → fits l s1 verb r = false) := fun hh => Lib.hid fun j r hj hjq => by
        rcases Nat.lt_or_ge j q with h1 | h1
        · exact hall.out j r hj h1
        · obtain rfl : j = q := by omega
          rw [hm] at hj
          obtain rfl := Option.some.inj hj
          exact hh
      have b0 := kb.cell 0
      have b1 := kb.cell 1
      have b2 := kb.cell 2
      have b3 := kb.cell 3
      have b4 := kb.cell 4
      have b5 := kb.cell 5
      simp only [List.getElem?_toArray, List.getElem?_cons_zero, List.getElem?_cons_succ] at b0 b1 b2 b3 b4 b5
      have hm2 := Lib.hid hm
      have hall2 := hall
      clear hcr hm kb kz
      rcases f1 : (rv == verb) with _ | _
      · have hn2 := hnext (by simp [fits, f1])
        have f1' : (rv != verb) = true := by simpa using f1
        clear hnext
        go_wp2_with fail
        go_quiet (fail)
        go_wp2_with fail
        go_roundw
        case rel => exact ⟨q + 1, by omega, by go_num, hn2, kA, kzA, hrA.bt (below_drewN _ _), bt hbA (below_drewN _ _)⟩
        case measure => simp [intOf]; omega
      have f1' : (rv != verb) = false := by simpa using f1
      rcases f2 : (rf == s1) with _ | _
      · have hn2 := hnext (by simp [fits, f2])
        have f2' : (rf != s1) = true := by simpa using f2
        clear hnext
        go_wp2_with fail
        go_quiet (fail)
        go_wp2_with fail
        go_roundw
        case rel => exact ⟨q + 1, by omega, by go_num, hn2, kA, kzA, hrA.bt (below_drewN _ _), bt hbA (below_drewN _ _)⟩
        case measure => simp [intOf]; omega
      have f2' : (rf != s1) = false := by simpa using f2
      rcases f3 : decide (l < rl) with _ | _
      rotate_left
      · have hn2 := hnext (by have := of_decide_eq_true f3; have e : decide (rl ≤ l) = false := decide_eq_false (by omega); simp [fits, e])
        clear hnext
        go_wp2_with fail
        go_quiet (fail)
        go_wp2_with fail
        go_roundw
        case rel => exact ⟨q + 1, by omega, by go_num, hn2, kA, kzA, hrA.bt (below_drewN _ _), bt hbA (below_drewN _ _)⟩
        case measure => simp [intOf]; omega
      rcases f4 : decide (l > rm) with _ | _
      rotate_left
      · have hn2 := hnext (by have := of_decide_eq_true f4; have e : decide (l ≤ rm) = false := decide_eq_false (by omega); simp [fits, e])
        have f4' : decide (rm < l) = true := f4
        clear hnext
        go_wp2_with fail
        go_quiet (fail)
        go_wp2_with fail
        go_roundw
        case rel => exact ⟨q + 1, by omega, by go_num, hn2, kA, kzA, hrA.bt (below_drewN _ _), bt hbA (below_drewN _ _)⟩
        case measure => simp [intOf]; omega
      have f4' : decide (rm < l) = false := f4
      have hfit : fits l s1 verb (rv, rf, rl, rm, ri, rw, ro, rt) = true := by
        have e3 : decide (rl ≤ l) = true := decide_eq_true (by have := of_decide_eq_false f3; omega)
        have e4 : decide (l ≤ rm) = true := decide_eq_true (by have := of_decide_eq_false f4'; omega)
        simp [fits, f1, f2, e3, e4]
      have hfind := find_at (fits l s1 verb) allRows q _ hm2.out hfit hall2.out
      have HR2 : Hid (R = (applyM (l, s0, w0, s1, false, t) true (rv, rf, rl, rm, ri, rw, ro, rt), 0)) := Lib.hid (by
        rw [HR.out]
        unfold rowsDo
        have hst : stM (l, s0, w0, s1, false, t) true = s1 := rfl
        rw [hst]
        show (match allRows.find? (fits l s1 verb) with | some r => _ | none => _) = _
        rw [hfind])
      clear hfind hfit hnext hall hall2 hm2 HR
      go_wp2_with fail
      go_quiet (fail)
      have kA5 : Blk ((wr.alloc (.cells #[.int .i64 rv, .int .i64 rf, .int .i64 rl, .int .i64 rm, .int .i64 ri, .bool rw, .int .i64 ro, .int .i64 rt] 59)).drewN nq) w.heap.size 33 #[.int .i64 l, .int .i64 s0, .int .i64 s1, .bool w0, .bool false, .int .i64 t] := kA
      have kz5 : Blk ((wr.alloc (.cells #[.int .i64 rv, .int .i64 rf, .int .i64 rl, .int .i64 rm, .int .i64 ri, .bool rw, .int .i64 ro, .int .i64 rt] 59)).drewN nq) (w.heap.size + 1) 33 #[.int .i64 0, .int .i64 0, .int .i64 0, .bool false, .bool false, .int .i64 0] := kzA
      have kR5 : Blk ((wr.alloc (.cells #[.int .i64 rv, .int .i64 rf, .int .i64 rl, .int .i64 rm, .int .i64 ri, .bool rw, .int .i64 ro, .int .i64 rt] 59)).drewN nq) wr.heap.size 59 #[.int .i64 rv, .int .i64 rf, .int .i64 rl, .int .i64 rm, .int .i64 ri, .bool rw, .int .i64 ro, .int .i64 rt] := kR
      have hb5 := bt hbA (below_drewN _ nq)
      clear kA kzA kR hbA hrA x0 x1 x2 x3 x4 x5 x6 x7 y0 y1 y2 y3 y4 y5 z0 z1 z2 z3 z4 z5 z6 z7 b0 b1 b2 b3 b4 b5 hrw
      have gz := kR5.lt
      have gz2 := kz5.lt
      generalize (wr.alloc (.cells #[.int .i64 rv, .int .i64 rf, .int .i64 rl, .int .i64 rm, .int .i64 ri, .bool rw, .int .i64 ro, .int .i64 rt] 59)).drewN nq = w5 at *
      have x0 := kA5.cell 0
      have x5 := kA5.cell 5
      simp only [List.getElem?_toArray, List.getElem?_cons_zero, List.getElem?_cons_succ] at x0 x5
      go_wp2_with fail
      clear x0 x5
      have kA6 := kA5.alloc (.cells #[.int .i64 l, .int .i64 0, .int .i64 0, .bool false, .bool false, .int .i64 t] 33)
      have kz6 := kz5.alloc (.cells #[.int .i64 l, .int .i64 0, .int .i64 0, .bool false, .bool false, .int .i64 t] 33)
      have kR6 := kR5.alloc (.cells #[.int .i64 l, .int .i64 0, .int .i64 0, .bool false, .bool false, .int .i64 t] 33)
      have ko6 := Blk.new w5 33 #[.int .i64 l, .int .i64 0, .int .i64 0, .bool false, .bool false, .int .i64 t]
      have hb6 := bt hb5 (ba w5 (.cells #[.int .i64 l, .int .i64 0, .int .i64 0, .bool false, .bool false, .int .i64 t] 33))
      have hto1 := fun w => to_t l s0 w0 s1 false t ri w
      have hto2 := fun w => to_f l s0 w0 s1 false t ro w
      generalize hg5 : w5.heap.size = go at *
      clear hg5
      clear kA5 kz5 kR5 hb5
      refine wp_region_invT (F := ?FZ) (V := VTo (.agg #[.int .i64 l, .int .i64 s0, .int .i64 s1, .bool w0, .bool false, .int .i64 t]) wr.heap.size 1 0 ri ro (toM (l, s0, w0, s1, false, t) true ri) (toM (l, s0, w0, s1, false, t) false ro)) (dead := fun _ => none) (T := fun _ _ => True) (C := fun u' => ((Blk u' w.heap.size 33 #[.int .i64 l, .int .i64 s0, .int .i64 s1, .bool w0, .bool false, .int .i64 t] ∧ Blk u' wr.heap.size 59 #[.int .i64 rv, .int .i64 rf, .int .i64 rl, .int .i64 rm, .int .i64 ri, .bool rw, .int .i64 ro, .int .i64 rt]) ∧ (Blk u' (w.heap.size + 1) 33 #[.int .i64 0, .int .i64 0, .int .i64 0, .bool false, .bool false, .int .i64 0] ∧ Blk u' go 33 #[.int .i64 l, .int .i64 0, .int .i64 0, .bool false, .bool false, .int .i64 t])) ∧ Below w.heap.size w u') (E := fun _ _ _ => True) (by kernel_rfl) (by kernel_rfl) (by kernel_rfl) (fun x => ?hFZ) ?hmonoZ ?hTmZ ?hTZ ?hCZ ?stepZ ?finZ
      case hFZ => simp only [mkA, Act.put, List.setIfInBounds_toArray, List.set_cons_succ, List.set_cons_zero, Nat.reduceAdd, Nat.zero_add]; first | with_reducible rfl | rfl
      case hmonoZ => exact fun k i v u u' he hik hwt hdd hv => by unfold VTo at hv ⊢; split at hv <;> exact hv
      case hTmZ => exact fun _ _ _ _ _ _ _ _ => trivial
      case hTZ => exact fun j => trivial
      case hCZ => exact ⟨⟨⟨kA6, kR6⟩, kz6, ko6⟩, bt hb6 (below_drew _)⟩
      case stepZ =>
        refine AllOps.cons (fun x u hC hT hp K hK => ?_) ?_
        · clear hp hT
          have ca0 := hC.1.1.1.cell 0
          have ca1 := hC.1.1.1.cell 1
          have ca2 := hC.1.1.1.cell 2
          have ca3 := hC.1.1.1.cell 3
          have ca4 := hC.1.1.1.cell 4
          have ca5 := hC.1.1.1.cell 5
          simp only [List.getElem?_toArray, List.getElem?_cons_zero, List.getElem?_cons_succ] at ca0 ca1 ca2 ca3 ca4 ca5
          go_simp
          refine hK _ _ _ hC trivial (by exact rfl) ?_
          first | (simp only [Act.put, List.setIfInBounds_toArray, List.set_cons_succ, List.set_cons_zero]; done) | simp [Act.put]
        refine AllOps.cons (fun x u hC hT hp K hK => ?_) ?_
        · clear hp hT
          go_simp
          refine hK _ _ _ hC trivial (by exact rfl) ?_
          first | (simp only [Act.put, List.setIfInBounds_toArray, List.set_cons_succ, List.set_cons_zero]; done) | simp [Act.put]
        refine AllOps.cons (fun x u hC hT hp K hK => ?_) ?_
        · clear hp hT
          go_simp
          refine hK _ _ _ hC trivial (by exact rfl) ?_
          first | (simp only [Act.put, List.setIfInBounds_toArray, List.set_cons_succ, List.set_cons_zero]; done) | simp [Act.put]
        refine AllOps.cons (fun x u hC hT hp K hK => ?_) ?_
        · simp [KnownTill, Region.binds, VTo] at hp
          clear hT
          have ca := hC.1.1.2.cell 4
          simp at ca
          go_simp
          refine hK _ _ _ hC trivial (by exact rfl) ?_
          first | (simp only [Act.put, List.setIfInBounds_toArray, List.set_cons_succ, List.set_cons_zero, hp]; done) | simp [Act.put, hp]
        refine AllOps.cons (fun x u hC hT hp K hK => ?_) ?_
        · simp [KnownTill, Region.binds, VTo] at hp
          clear hT
          go_simp
          refine (hto1 u).mono ?_
          rintro e wA ⟨rfl, hbu⟩
          refine hK _ _ _ ⟨⟨⟨hC.1.1.1.below hbu hC.1.1.1.lt, hC.1.1.2.below hbu hC.1.1.2.lt⟩, hC.1.2.1.below hbu hC.1.2.1.lt, hC.1.2.2.below hbu hC.1.2.2.lt⟩, bt hC.2 hbu⟩ trivial (by exact rfl) ?_
          first | (simp only [Act.put, List.setIfInBounds_toArray, List.set_cons_succ, List.set_cons_zero, hp]; done) | simp [Act.put, hp]
        refine AllOps.cons (fun x u hC hT hp K hK => ?_) ?_
        · clear hp hT
          have ca0 := hC.1.1.1.cell 0
          have ca1 := hC.1.1.1.cell 1
          have ca2 := hC.1.1.1.cell 2
          have ca3 := hC.1.1.1.cell 3
          have ca4 := hC.1.1.1.cell 4
          have ca5 := hC.1.1.1.cell 5
          simp only [List.getElem?_toArray, List.getElem?_cons_zero, List.getElem?_cons_succ] at ca0 ca1 ca2 ca3 ca4 ca5
          go_simp
          refine hK _ _ _ hC trivial (by exact rfl) ?_
          first | (simp only [Act.put, List.setIfInBounds_toArray, List.set_cons_succ, List.set_cons_zero]; done) | simp [Act.put]
        refine AllOps.cons (fun x u hC hT hp K hK => ?_) ?_
        · clear hp hT
          go_simp
          refine hK _ _ _ hC trivial (by exact rfl) ?_
          first | (simp only [Act.put, List.setIfInBounds_toArray, List.set_cons_succ, List.set_cons_zero]; done) | simp [Act.put]
        refine AllOps.cons (fun x u hC hT hp K hK => ?_) ?_
        · simp [KnownTill, Region.binds, VTo] at hp
          clear hT
          go_simp
          refine hK _ _ _ hC trivial (by exact rfl) ?_
          first | (simp only [Act.put, List.setIfInBounds_toArray, List.set_cons_succ, List.set_cons_zero, hp, show IntKind.i64.wrap 0 = 0 from rfl]; done) | simp [Act.put, hp, show IntKind.i64.wrap 0 = 0 from rfl]
        refine AllOps.cons (fun x u hC hT hp K hK => ?_) ?_
        · clear hp hT
          go_simp
          refine hK _ _ _ hC trivial (by exact rfl) ?_
          first | (simp only [Act.put, List.setIfInBounds_toArray, List.set_cons_succ, List.set_cons_zero]; done) | simp [Act.put]
        refine AllOps.cons (fun x u hC hT hp K hK => ?_) ?_
        · simp [KnownTill, Region.binds, VTo] at hp
          clear hT
          have ca := hC.1.1.2.cell 6
          simp at ca
          go_simp
          refine hK _ _ _ hC trivial (by exact rfl) ?_
          first | (simp only [Act.put, List.setIfInBounds_toArray, List.set_cons_succ, List.set_cons_zero, hp]; done) | simp [Act.put, hp]
        refine AllOps.cons (fun x u hC hT hp K hK => ?_) ?_
        · simp [KnownTill, Region.binds, VTo] at hp
          clear hT
          go_simp
          refine (hto2 u).mono ?_
          rintro e wA ⟨rfl, hbu⟩
          refine hK _ _ _ ⟨⟨⟨hC.1.1.1.below hbu hC.1.1.1.lt, hC.1.1.2.below hbu hC.1.1.2.lt⟩, hC.1.2.1.below hbu hC.1.2.1.lt, hC.1.2.2.below hbu hC.1.2.2.lt⟩, bt hC.2 hbu⟩ trivial (by exact rfl) ?_
          first | (simp only [Act.put, List.setIfInBounds_toArray, List.set_cons_succ, List.set_cons_zero, hp]; done) | simp [Act.put, hp]
        refine AllOps.cons (fun x u hC hT hp K hK => ?_) ?_
        · simp [KnownTill, Region.binds, VTo] at hp
          clear hT
          go_simp
          refine hK _ _ _ hC trivial (by exact rfl) ?_
          first | (simp only [Act.put, List.setIfInBounds_toArray, List.set_cons_succ, List.set_cons_zero, hp]; done) | simp [Act.put, hp]
        refine AllOps.cons (fun x u hC hT hp K hK => ?_) ?_
        · simp [KnownTill, Region.binds, VTo] at hp
          clear hT
          go_simp
          refine hK _ _ _ hC trivial (by exact rfl) ?_
          first | (simp only [Act.put, List.setIfInBounds_toArray, List.set_cons_succ, List.set_cons_zero, hp]; done) | simp [Act.put, hp]
        exact AllOps.nil
      case finZ =>
        intro x u hC hV
        have hz11 : x 11 = .int .i64 (toM (l, s0, w0, s1, false, t) true ri) := hV 11 (by decide) rfl
        have hz12 : x 12 = .int .i64 (toM (l, s0, w0, s1, false, t) false ro) := hV 12 (by decide) rfl
        rw [hz11, hz12]
        obtain ⟨⟨⟨kA, kR⟩, kz, ko⟩, hbu⟩ := hC
        clear hV hz11 hz12 kA6 kz6 kR6 ko6 hb6 hto1 hto2
        have hgo1 : wr.heap.size ≠ go := by omega
        have hgo2 : w.heap.size + 1 ≠ go := by omega
        have hgo3 : w.heap.size ≤ go := by omega
        have oc1 := ko.cell 1
        have of1 := ko.frozen 1
        have o1 := ko.set_ 1 (.int .i64 (toM (l, s0, w0, s1, false, t) false ro))
        simp only [List.getElem?_toArray, List.getElem?_cons_zero, List.getElem?_cons_succ] at oc1
        simp only [List.setIfInBounds_toArray, List.set_cons_zero, List.set_cons_succ] at o1
        have R1 := kR.far (p := ⟨go, 1, none⟩) hgo1 (.int .i64 (toM (l, s0, w0, s1, false, t) false ro))
        have Z1 := kz.far (p := ⟨go, 1, none⟩) hgo2 (.int .i64 (toM (l, s0, w0, s1, false, t) false ro))
        have hbu1 := hbu.setCell (p := ⟨go, 1, none⟩) hgo3 (.int .i64 (toM (l, s0, w0, s1, false, t) false ro))
        generalize hW1 : (u.setCell ⟨go, 1, none⟩ (.int .i64 (toM (l, s0, w0, s1, false, t) false ro))) = W1 at *
        have oc2 := o1.cell 2
        have of2 := o1.frozen 2
        have o2 := o1.set_ 2 (.int .i64 (toM (l, s0, w0, s1, false, t) true ri))
        simp only [List.getElem?_toArray, List.getElem?_cons_zero, List.getElem?_cons_succ] at oc2
        simp only [List.setIfInBounds_toArray, List.set_cons_zero, List.set_cons_succ] at o2
        have R2 := R1.far (p := ⟨go, 2, none⟩) hgo1 (.int .i64 (toM (l, s0, w0, s1, false, t) true ri))
        have Z2 := Z1.far (p := ⟨go, 2, none⟩) hgo2 (.int .i64 (toM (l, s0, w0, s1, false, t) true ri))
        have hbu2 := hbu1.setCell (p := ⟨go, 2, none⟩) hgo3 (.int .i64 (toM (l, s0, w0, s1, false, t) true ri))
        generalize hW2 : (W1.setCell ⟨go, 2, none⟩ (.int .i64 (toM (l, s0, w0, s1, false, t) true ri))) = W2 at *
        have oc3 := o2.cell 3
        have of3 := o2.frozen 3
        have o3 := o2.set_ 3 (.bool false)
        simp only [List.getElem?_toArray, List.getElem?_cons_zero, List.getElem?_cons_succ] at oc3
        simp only [List.setIfInBounds_toArray, List.set_cons_zero, List.set_cons_succ] at o3
        have R3 := R2.far (p := ⟨go, 3, none⟩) hgo1 (.bool false)
        have Z3 := Z2.far (p := ⟨go, 3, none⟩) hgo2 (.bool false)
        have hbu3 := hbu2.setCell (p := ⟨go, 3, none⟩) hgo3 (.bool false)
        generalize hW3 : (W2.setCell ⟨go, 3, none⟩ (.bool false)) = W3 at *
        have oc4 := o3.cell 4
        have of4 := o3.frozen 4
        have o4 := o3.set_ 4 (.bool rw)
        simp only [List.getElem?_toArray, List.getElem?_cons_zero, List.getElem?_cons_succ] at oc4
        simp only [List.setIfInBounds_toArray, List.set_cons_zero, List.set_cons_succ] at o4
        have R4 := R3.far (p := ⟨go, 4, none⟩) hgo1 (.bool rw)
        have Z4 := Z3.far (p := ⟨go, 4, none⟩) hgo2 (.bool rw)
        have hbu4 := hbu3.setCell (p := ⟨go, 4, none⟩) hgo3 (.bool rw)
        generalize hW4 : (W3.setCell ⟨go, 4, none⟩ (.bool rw)) = W4 at *
        have rc5 := R2.cell 5
        have rc7 := R4.cell 7
        simp only [List.getElem?_toArray, List.getElem?_cons_zero, List.getElem?_cons_succ] at rc5 rc7
        have ot := o4.cell 5
        have otf := o4.frozen 5
        simp only [List.getElem?_toArray, List.getElem?_cons_zero, List.getElem?_cons_succ] at ot
        by_cases e1 : rt = 1
        · subst e1
          have HR3 : Hid (R = ((l, (toM (l, s0, w0, s1, false, t) false ro), false, (toM (l, s0, w0, s1, false, t) true ri), rw, 1), 0)) := Lib.hid (HR2.out.trans rfl)
          clear HR2
          have o5 := o4.set_ 5 (.int .i64 1)
          have Z5 := Z4.far (p := ⟨go, 5, none⟩) hgo2 (.int .i64 1)
          have hbu5 := hbu4.setCell (p := ⟨go, 5, none⟩) hgo3 (.int .i64 1)
          have R5 := R4.far (p := ⟨go, 5, none⟩) hgo1 (.int .i64 1)
          have rc7b := R5.cell 7
          simp only [List.getElem?_toArray, List.getElem?_cons_zero, List.getElem?_cons_succ] at rc7b
          simp only [List.setIfInBounds_toArray, List.set_cons_zero, List.set_cons_succ] at o5
          generalize hW5 : (W4.setCell ⟨go, 5, none⟩ (.int .i64 1)) = W5 at *
          have p0 := o5.cell 0
          have p1 := o5.cell 1
          have p2 := o5.cell 2
          have p3 := o5.cell 3
          have p4 := o5.cell 4
          have p5 := o5.cell 5
          simp only [List.getElem?_toArray, List.getElem?_cons_zero, List.getElem?_cons_succ] at p0 p1 p2 p3 p4 p5
          obtain ⟨c0, k0, c1, k1, c2, k2, c3, k3, c4, k4, c5, k5, r0, r1, r2, r3, r4, r5⟩ := Z5.set6 (.int .i64 l) (.int .i64 (toM (l, s0, w0, s1, false, t) false ro)) (.int .i64 (toM (l, s0, w0, s1, false, t) true ri)) (.bool false) (.bool rw) (.int .i64 1)
          have hbb := below_set6 (B := w.heap.size) (w := w) (g := w.heap.size + 1) hbu5 (by omega) (.int .i64 l) (.int .i64 (toM (l, s0, w0, s1, false, t) false ro)) (.int .i64 (toM (l, s0, w0, s1, false, t) true ri)) (.bool false) (.bool rw) (.int .i64 1)
          clear hgo1 hgo2 hgo3 o1 o2 o3 R1 R2 R3 R4 Z1 Z2 Z3 hbu hbu1 hbu2 hbu3 kA kR kz ko
          go_wp2
          refine bodyPost_ret (by simp [results, Tryd.results18, go_sem, r0, r1, r2, r3, r4, r5]; try rfl) rfl ?_
          exact ⟨by rw [HR3.out]; rfl, hbb⟩
        have q1 : (rt == 1) = false := by simpa using e1
        by_cases e2 : rt = 2
        · subst e2
          have HR3 : Hid (R = ((l, (toM (l, s0, w0, s1, false, t) false ro), false, (toM (l, s0, w0, s1, false, t) true ri), rw, 0), 0)) := Lib.hid (HR2.out.trans rfl)
          clear q1
          clear HR2
          have o5 := o4.set_ 5 (.int .i64 0)
          have Z5 := Z4.far (p := ⟨go, 5, none⟩) hgo2 (.int .i64 0)
          have hbu5 := hbu4.setCell (p := ⟨go, 5, none⟩) hgo3 (.int .i64 0)
          have R5 := R4.far (p := ⟨go, 5, none⟩) hgo1 (.int .i64 0)
          have rc7b := R5.cell 7
          simp only [List.getElem?_toArray, List.getElem?_cons_zero, List.getElem?_cons_succ] at rc7b
          simp only [List.setIfInBounds_toArray, List.set_cons_zero, List.set_cons_succ] at o5
          generalize hW5 : (W4.setCell ⟨go, 5, none⟩ (.int .i64 0)) = W5 at *
          have p0 := o5.cell 0
          have p1 := o5.cell 1
          have p2 := o5.cell 2
          have p3 := o5.cell 3
          have p4 := o5.cell 4
          have p5 := o5.cell 5
          simp only [List.getElem?_toArray, List.getElem?_cons_zero, List.getElem?_cons_succ] at p0 p1 p2 p3 p4 p5
          obtain ⟨c0, k0, c1, k1, c2, k2, c3, k3, c4, k4, c5, k5, r0, r1, r2, r3, r4, r5⟩ := Z5.set6 (.int .i64 l) (.int .i64 (toM (l, s0, w0, s1, false, t) false ro)) (.int .i64 (toM (l, s0, w0, s1, false, t) true ri)) (.bool false) (.bool rw) (.int .i64 0)
          have hbb := below_set6 (B := w.heap.size) (w := w) (g := w.heap.size + 1) hbu5 (by omega) (.int .i64 l) (.int .i64 (toM (l, s0, w0, s1, false, t) false ro)) (.int .i64 (toM (l, s0, w0, s1, false, t) true ri)) (.bool false) (.bool rw) (.int .i64 0)
          clear hgo1 hgo2 hgo3 o1 o2 o3 R1 R2 R3 R4 Z1 Z2 Z3 hbu hbu1 hbu2 hbu3 kA kR kz ko
          go_wp2
          refine bodyPost_ret (by simp [results, Tryd.results18, go_sem, r0, r1, r2, r3, r4, r5]; try rfl) rfl ?_
          exact ⟨by rw [HR3.out]; rfl, hbb⟩
        have q2 : (rt == 2) = false := by simpa using e2
        have HR3 : Hid (R = ((l, (toM (l, s0, w0, s1, false, t) false ro), false, (toM (l, s0, w0, s1, false, t) true ri), rw, t), 0)) := Lib.hid (HR2.out.trans (by unfold applyM; simp only [if_neg e1, if_neg e2]; rfl))
        clear HR2 e1 e2
        have p0 := o4.cell 0
        have p1 := o4.cell 1
        have p2 := o4.cell 2
        have p3 := o4.cell 3
        have p4 := o4.cell 4
        have p5 := o4.cell 5
        simp only [List.getElem?_toArray, List.getElem?_cons_zero, List.getElem?_cons_succ] at p0 p1 p2 p3 p4 p5
        obtain ⟨c0, k0, c1, k1, c2, k2, c3, k3, c4, k4, c5, k5, r0, r1, r2, r3, r4, r5⟩ := Z4.set6 (.int .i64 l) (.int .i64 (toM (l, s0, w0, s1, false, t) false ro)) (.int .i64 (toM (l, s0, w0, s1, false, t) true ri)) (.bool false) (.bool rw) (.int .i64 t)
        have hbb := below_set6 (B := w.heap.size) (w := w) (g := w.heap.size + 1) hbu4 (by omega) (.int .i64 l) (.int .i64 (toM (l, s0, w0, s1, false, t) false ro)) (.int .i64 (toM (l, s0, w0, s1, false, t) true ri)) (.bool false) (.bool rw) (.int .i64 t)
        clear hgo1 hgo2 hgo3 o1 o2 o3 R1 R2 R3 R4 Z1 Z2 Z3 hbu hbu1 hbu2 hbu3 kA kR kz ko
        go_wp2
        refine bodyPost_ret (by simp [results, Tryd.results18, go_sem, r0, r1, r2, r3, r4, r5]; try rfl) rfl ?_
        exact ⟨by rw [HR3.out]; rfl, hbb⟩
    · obtain rfl : q = 47 := by omega
      have hl47 : allRows.length = 47 := by decide +kernel
      have hfind := find_none (fits l s1 verb) allRows (fun j x hj hjl => hall.out j x hj (by omega))
      have HR2 : Hid (R = (zeroC, 7)) := Lib.hid (by
        rw [HR.out]
        unfold rowsDo
        have hst : stM (l, s0, w0, s1, false, t) true = s1 := rfl
        rw [hst]
        show (match allRows.find? (fits l s1 verb) with | some r => _ | none => _) = _
        rw [hfind])
      clear hfind hall HR hl47
      obtain ⟨c0, k0, c1, k1, c2, k2, c3, k3, c4, k4, c5, k5, r0, r1, r2, r3, r4, r5⟩ := kz.set6 (.int .i64 0) (.int .i64 0) (.int .i64 0) (.bool false) (.bool false) (.int .i64 0)
      have hbb := below_set6 (B := w.heap.size) (w := w) (g := w.heap.size + 1) hbw (by omega) (.int .i64 0) (.int .i64 0) (.int .i64 0) (.bool false) (.bool false) (.int .i64 0)
      have y0 := kb.cell 0
      have y1 := kb.cell 1
      have y2 := kb.cell 2
      have y3 := kb.cell 3
      have y4 := kb.cell 4
      have y5 := kb.cell 5
      simp only [List.getElem?_toArray, List.getElem?_cons_zero, List.getElem?_cons_succ] at y0 y1 y2 y3 y4 y5
      go_wp2
      refine bodyPost_ret (by simp [results, Tryd.results18, go_sem, r0, r1, r2, r3, r4, r5]; try rfl) rfl ?_
      exact ⟨by rw [HR2.out]; rfl, hbb⟩
end Go.Proofs.YtfhfbekphmnbgaaDoor
