/- Parts Ss of one proof. -/
import Derived.Test.YtlliaihmfimdoaaGreatMg32
namespace Go.Proofs.YtlliaihmfimdoaaGreat.Re
open Go.RowKit Go.Maps Go.Joins Go.Deep Go.Proofs.YtlliaihmfimdoaaGreat
set_option linter.unusedVariables false
set_option linter.unusedSimpArgs false

/-- Pairs of resources somewhere. -/
def InRp (w : World) (A : Option Addr) (P : List (Int × Nat)) : Prop := 0 < P.length → ∃ b o, A = some ⟨b, o, none⟩ ∧ b < w.heap.size ∧ ∀ i, (h : i < P.length) → w.cell? ⟨b, o + i * 2, none⟩ = some (.int .i64 (P[i]'h).1) ∧ w.cell? ⟨b, o + i * 2 + 1, none⟩ = some (.int .u64 ((P[i]'h).2 : Nat))
theorem InRp.below {w w' : World} {A : Option Addr} {P : List (Int × Nat)} (h : InRp w A P) (hb : Below w.heap.size w w') : InRp w' A P := fun hl => by
  obtain ⟨b, o, rfl, hlt, hc⟩ := h hl
  exact ⟨b, o, rfl, Nat.lt_of_lt_of_le hlt hb.size, fun i hi => ⟨(hb.cell (p := ⟨b, _, none⟩) hlt).trans (hc i hi).1, (hb.cell (p := ⟨b, _, none⟩) hlt).trans (hc i hi).2⟩⟩
theorem OwnRp.in_ {w : World} {B c : Nat} {A : Option Addr} {P : List (Int × Nat)} (h : OwnRp w B A c P) : InRp w A P := fun hl => by
  unfold OwnRp at h
  obtain ⟨b, e, _, hlt, _, hc⟩ := row_cells h hl
  exact ⟨b, 0, e, hlt, fun i hi => by rw [Nat.zero_add]; exact ⟨hc _ _ (prV_at P i hi).1, hc _ _ (prV_at P i hi).2⟩⟩
/-- As, under way. -/
structure AsAt (w wr : World) (gm gr go B : Nat) (A A' : Option Addr) (q c q' c' : Nat) (nx : Int) (A2 : Option Addr) (c2 : Nat) (P' : List (Int × Nat)) : Prop where
  be : Below w.heap.size w wr
  km : Blk wr gm 58 #[.slice A q c, .slice A' q' c', .int .i64 nx]
  kr : Blk wr gr 54 #[.slice none 0 0, .slice none 0 0, .int .i64 0]
  ko : Blk wr go 54 #[.slice A2 P'.length c2, .slice A' q' c', .int .i64 nx]
  own : OwnPr wr B A2 c2 P'
  lt : gm < B ∧ gr < B ∧ go < B ∧ B ≤ wr.heap.size
  ne : gm ≠ go ∧ gr ≠ go ∧ w.heap.size ≤ gr ∧ w.heap.size ≤ go ∧ w.heap.size ≤ B
theorem AsAt.below {w wr u : World} {gm gr go B : Nat} {A A' : Option Addr} {q c q' c' : Nat} {nx : Int} {A2 : Option Addr} {c2 : Nat} {P' : List (Int × Nat)} (h : AsAt w wr gm gr go B A A' q c q' c' nx A2 c2 P') (hb : Below wr.heap.size wr u) : AsAt w u gm gr go B A A' q c q' c' nx A2 c2 P' :=
  ⟨bt h.be hb, h.km.below hb h.km.lt, h.kr.below hb h.kr.lt, h.ko.below hb h.ko.lt, World.ownsRow.kept h.own (lbelow_grown hb none) (by rcases (Value.slice A2 P'.length c2).ownBlock with _ | k; exact .inl rfl; exact .inr (fun e => by cases e)), ⟨h.lt.1, h.lt.2.1, h.lt.2.2.1, Nat.le_trans h.lt.2.2.2 hb.size⟩, h.ne⟩
/-- A pair more. -/
theorem AsAt.more {w wr : World} {gm gr go B : Nat} {A A' : Option Addr} {q c q' c' : Nat} {nx : Int} {A2 : Option Addr} {c2 : Nat} {P' : List (Int × Nat)} (h : AsAt w wr gm gr go B A A' q c q' c' nx A2 c2 P') (hl : P'.length ≤ 1000) (k : Int) (v : Nat) :
    ∃ A3 c3 w3, (Builtin.append_ #[26, 26] 26 #[.slice A2 P'.length c2, .slice (some ⟨wr.heap.size, 0, none⟩) 1 1]).run Tryz.prog (wr.alloc (.cells #[.int .i64 k, .int .u64 (v : Nat)] 114)) = .ok (.slice A3 (P'.length + 1) c3) w3 ∧
      w3.cell? ⟨go, 0, none⟩ = some (.slice A2 P'.length c2) ∧ w3.frozen? ⟨go, 0, none⟩ = false ∧ AsAt w (w3.setCell ⟨go, 0, none⟩ (.slice A3 (P'.length + 1) c3)) gm gr go B A A' q c q' c' nx A3 c3 (P' ++ [(k, v)]) := by
  have h3 := h.below (ba wr (.cells #[.int .i64 k, .int .u64 (v : Nat)] 114))
  obtain ⟨A3, c3, w3, hrun, own3, g3⟩ := pr_more h3.own P'.length rfl hl k v wr.heap.size h3.lt.2.2.2 (Blk.new wr _ _)
  have hno : ∀ {r t cs}, Blk (wr.alloc (.cells #[.int .i64 k, .int .u64 (v : Nat)] 114)) r t cs → r < B → Blk w3 r t cs := fun hk hr => hk.kept g3 (fun e => by
    have := (World.ownsRow.lt h3.own _ (by rw [ownBlock_slice]; exact e.symm)).1; omega)
  have ko3 := hno h3.ko h3.lt.2.2.1
  have hgs := lgrown_set w3 ⟨go, 0, none⟩ (.slice A3 (P'.length + 1) c3)
  have hs := h.lt.2.2.2
  have hne := h.ne
  refine ⟨A3, c3, w3, hrun, ?_, ko3.frozen 0, ?_⟩
  · have := ko3.cell 0
    simpa using this
  · refine ⟨(h3.be.grown g3 (by have := h3.be.size; omega) (fun r e => by have := (World.ownsRow.lt h3.own r (by rw [ownBlock_slice]; exact e)).1; omega)).setCell (p := ⟨go, 0, none⟩) (by have := hne.2.2.2.1; exact this) _, (hno h3.km h3.lt.1).kept hgs (fun e => hne.1 (Option.some.inj e)), (hno h3.kr h3.lt.2.1).kept hgs (fun e => hne.2.1 (Option.some.inj e)), ?_, ?_, ⟨h.lt.1, h.lt.2.1, h.lt.2.2.1, ?_⟩, h.ne⟩
    · have := ko3.set_ 0 (.slice A3 (P'.length + 1) c3)
      rw [List.length_append]
      simpa using this
    · exact own_kept own3 ko3 (by decide) hgs
    · have := g3.size; have := h3.lt.2.2.2; rw [World.size_setCell]; omega
set_option maxRecDepth 100000 in
set_option maxHeartbeats 4000000 in
theorem as_any (A A' : Option Addr) (q c q' c' : Nat) (nx : Int) (P : List (Int × Nat)) (w : World) (hq : Hid (q = P.length)) (hm : q ≤ 1000) (hP : InRp w A P) :
    Calls Tryz.prog 17 #[.agg #[.slice A q c, .slice A' q' c', .int .i64 nx]] w fun e w' => ∃ A9 c9, e = .returned (.agg #[.slice A9 q c9, .slice A' q' c', .int .i64 nx]) ∧ Hid (OwnPr w' w.heap.size A9 c9 P ∧ Below w.heap.size w w') := by
  obtain ⟨w3, hw3⟩ : ∃ w3, w3 = ((w.alloc (.cells #[.slice A q c, .slice A' q' c', .int .i64 nx] 58)).alloc (.cells #[.slice none 0 0, .slice none 0 0, .int .i64 0] 54)).alloc (.cells #[.slice none 0 0, .slice A' q' c', .int .i64 nx] 54) := ⟨_, rfl⟩
  have h3 : AsAt w w3 w.heap.size (w.heap.size + 1) (w.heap.size + 1 + 1) w3.heap.size A A' q c q' c' nx none 0 [] := by
    have k1 := Blk.new w 58 #[.slice A q c, .slice A' q' c', .int .i64 nx]
    have k2 := Blk.new (w.alloc (.cells #[.slice A q c, .slice A' q' c', .int .i64 nx] 58)) 54 #[.slice none 0 0, .slice none 0 0, .int .i64 0]
    have k3 := Blk.new ((w.alloc (.cells #[.slice A q c, .slice A' q' c', .int .i64 nx] 58)).alloc (.cells #[.slice none 0 0, .slice none 0 0, .int .i64 0] 54)) 54 #[.slice none 0 0, .slice A' q' c', .int .i64 nx]
    have k1' := (k1.below (ba _ (.cells #[.slice none 0 0, .slice none 0 0, .int .i64 0] 54)) k1.lt)
    have k1'' := k1'.below (ba _ (.cells #[.slice none 0 0, .slice A' q' c', .int .i64 nx] 54)) k1'.lt
    have k2' := k2.below (ba _ (.cells #[.slice none 0 0, .slice A' q' c', .int .i64 nx] 54)) k2.lt
    rw [World.size_alloc] at k2' 
    rw [World.size_alloc, World.size_alloc] at k3
    rw [← hw3] at k1'' k2' k3
    have hs : w3.heap.size = w.heap.size + 1 + 1 + 1 := by rw [hw3]; simp
    exact ⟨by rw [hw3]; exact bt (bt (ba _ _) (ba _ _)) (ba _ _), k1'', k2', k3, World.ownsRow_nil _ _ _ _, by omega, by omega⟩
  obtain ⟨gm, hgm⟩ : ∃ gm, gm = w.heap.size := ⟨_, rfl⟩
  obtain ⟨gr, hgr⟩ : ∃ gr, gr = w.heap.size + 1 := ⟨_, rfl⟩
  obtain ⟨go, hgo⟩ : ∃ go, go = w.heap.size + 1 + 1 := ⟨_, rfl⟩
  rw [← hgo, ← hgr, ← hgm] at h3
  have H := Lib.hid hP
  have HW := Lib.hid hw3
  have HG := Lib.hid (And.intro hgm (And.intro hgr hgo))
  have HI : Hid (∃ A2 c2, AsAt w w3 gm gr go w3.heap.size A A' q c q' c' nx A2 c2 (P.take 0)) := Lib.hid ⟨none, 0, h3⟩
  obtain ⟨B, hB⟩ : ∃ B, B = w3.heap.size := ⟨_, rfl⟩
  rw [← hB] at HI
  clear h3 hP hw3 hgm hgr hgo hB
  go_enter Tryz.func17, Tryz.ntmps17
  go_wp2_with fail
  rw [← HW.out, ← HG.out.2.2, ← HG.out.2.1, ← HG.out.1]
  go_loopw [4] (fun iv wr => ∃ j : Nat, j ≤ q ∧ iv = .int .i64 j ∧ Hid (∃ A2 c2, AsAt w wr gm gr go B A A' q c q' c' nx A2 c2 (P.take j))) (fun iv _ => q - (intOf iv).toNat)
  case atStart => exact ⟨0, Nat.zero_le _, rfl, HI⟩
  case round =>
    clear HI
    obtain ⟨j, hj, rfl, HR⟩ := hrel
    obtain ⟨A2, c2, hr⟩ := HR.out
    have m0 := hr.km.cell 0
    simp only [List.getElem?_toArray, List.getElem?_cons_zero] at m0
    by_cases hjn : j < q
    · have hjI : (j : Int) < (q : Int) := by omega
      have hjL : j < P.length := by rw [← hq.out]; exact hjn
      obtain ⟨b, o, hA, hbl, hcs⟩ := (H.out.below hr.be) (by omega)
      obtain ⟨p0, p1⟩ := hcs j hjL
      have hsn : P.take (j + 1) = P.take j ++ [P[j]'hjL] := by rw [List.take_add_one, List.getElem?_eq_getElem hjL]; rfl
      generalize P[j]'hjL = y at p0 p1 hsn
      obtain ⟨yk, yv⟩ := y
      dsimp only at p0 p1
      have hjl : (P.take j).length = j := by rw [List.length_take]; omega
      have bW : Below wr.heap.size wr wr.drew := ⟨rfl, rfl, rfl, Nat.le_refl _, fun _ _ => rfl⟩
      have hrd := hr.below bW
      obtain ⟨A3, c3, w4, hrun, e3, f3, h4⟩ := hrd.more (by omega) yk yv
      rw [hjl] at hrun e3 h4
      have e0 := hr.ko.cell 0
      have e1 := hrd.ko.cell 0
      have e2 := (hrd.below (ba _ (.cells #[.int .i64 yk, .int .u64 (yv : Nat)] 114))).ko.cell 0
      have e4 := (hr.below (ba _ (.cells #[.int .i64 yk, .int .u64 (yv : Nat)] 114))).ko.cell 0
      have m1 := hrd.km.cell 0
      simp only [List.getElem?_toArray, List.getElem?_cons_zero] at e0 e1 e2 e4 m1
      rw [hjl] at e0 e1 e2 e4
      have p2 : wr.drew.cell? ⟨b, o + j * 2, none⟩ = some (.int .i64 yk) := p0
      have p3 : wr.drew.cell? ⟨b, o + j * 2 + 1, none⟩ = some (.int .u64 ((yv : Nat) : Int)) := p1
      have HX : Hid (∃ A2 c2, AsAt w (w4.setCell ⟨go, 0, none⟩ (.slice A3 (j + 1) c3)) gm gr go B A A' q c q' c' nx A2 c2 (P.take (j + 1))) := Lib.hid ⟨A3, c3, by rw [hsn]; exact h4⟩
      subst hA
      clear hjL hcs hsn hjl bW hrd hr h4 HR
      go_wp2_with fail
      go_region_law (refine step_append_run rfl (.tmp 18) (.tmp 32) 26 rfl _ _ _ w4 rfl rfl hrun ?_)
      all_goals
        go_wp2
        go_roundw
        case rel => exact ⟨j + 1, by omega, by go_num, HX⟩
        case measure => simp [intOf]; omega
    · have hjI : ¬ (j : Int) < (q : Int) := by omega
      have hjj : P.take j = P := List.take_of_length_le (by rw [← hq.out]; omega)
      rw [hjj] at hr
      have HF := Lib.hid hr
      have o0 := hr.ko.cell 0
      have o1 := hr.ko.cell 1
      have o2 := hr.ko.cell 2
      have g0 := hr.kr.cell 0
      have g1 := hr.kr.cell 1
      have g2 := hr.kr.cell 2
      have f3 := hr.kr.frozen
      simp only [List.getElem?_toArray, List.getElem?_cons_zero, List.getElem?_cons_succ] at o0 o1 o2 g0 g1 g2
      rw [← hq.out] at o0
      have kf := ((hr.kr.set_ 0 (.slice A2 q c2)).set_ 1 (.slice A' q' c')).set_ 2 (.int .i64 nx)
      have r0 := kf.cell 0
      have r1 := kf.cell 1
      have r2 := kf.cell 2
      simp only [List.setIfInBounds_toArray, List.set_cons_succ, List.set_cons_zero, List.getElem?_toArray, List.getElem?_cons_zero, List.getElem?_cons_succ] at r0 r1 r2
      have hg := ((lgrown_set wr ⟨gr, 0, none⟩ (.slice A2 q c2)).trans (lgrown_set _ ⟨gr, 1, none⟩ (.slice A' q' c'))).trans (lgrown_set _ ⟨gr, 2, none⟩ (.int .i64 nx))
      have HX := Lib.hid (And.intro (own_less (own_kept hr.own hr.kr (by decide) hg) hr.ne.2.2.2.2) (hr.be.grown hg hr.be.size (fun r e => by cases e; exact hr.ne.2.2.1)))
      clear hjj hr HF HR kf hg
      go_wp2
      refine bodyPost_ret (by simp [results, Tryz.results17, go_sem, r0, r1, r2]; try rfl) rfl ?_
      exact ⟨A2, c2, rfl, HX⟩
end Go.Proofs.YtlliaihmfimdoaaGreat.Re
