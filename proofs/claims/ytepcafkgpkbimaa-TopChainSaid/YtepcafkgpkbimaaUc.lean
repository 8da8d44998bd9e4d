/- Layer 16: right trees. -/
import Derived.Test.YtepcafkgpkbimaaUb
namespace Go.Proofs.Ytepcafkgpkbimaa
open Go Go.RowKit Go.Shelf
attribute [local go_sem] Oper.semAt_some
set_option linter.unusedVariables false
set_option linter.unusedSimpArgs false

def voteB (v : Int) : Bool := v == 1 || (v == 2 || v == 3)
def okN (x : NT) (c : Nat) : Bool := decide (x.d ≤ 8) && (decide (c ≤ 64) && voteB x.v)
def rightL : Nat → List NT → Bool
  | _, [] => true
  | c, x :: l => okN x (c + 1) && rightL (c + 1) l
def rightB (v : Int) (k : Fo) : Bool := rightL 0 (nodesL 1 (.cons v k .nil))
theorem rightL_snoc (l : List NT) (x : NT) : ∀ c, rightL c (l ++ [x]) = (rightL c l && okN x (c + l.length + 1)) := by
  induction l with
  | nil => intro c; simp [rightL]
  | cons y l ih => intro c; simp only [List.cons_append, rightL, ih, List.length_cons, Bool.and_assoc]; rw [show c + 1 + l.length + 1 = c + (l.length + 1) + 1 by omega]
theorem rightL_le (l : List NT) : ∀ c, rightL c l = true → c ≤ 64 → c + l.length ≤ 64 := by
  induction l with
  | nil => intro c _ h; simpa using h
  | cons y l ih =>
    intro c h hc
    simp only [rightL, Bool.and_eq_true, okN, decide_eq_true_eq] at h
    have := ih (c + 1) h.2 h.1.2.1
    simp only [List.length_cons]
    omega
theorem rightL_prefix {l m : List NT} (h : l <+: m) (c : Nat) (hl : rightL c l = false) : rightL c m = false := by
  obtain ⟨r, rfl⟩ := h
  induction l generalizing c with
  | nil => simp [rightL] at hl
  | cons y l ih =>
    simp only [List.cons_append, rightL] at hl ⊢
    rcases h1 : okN y (c + 1) with _ | _
    · rfl
    · rw [h1] at hl; simp only [Bool.true_and] at hl ⊢; exact ih _ hl

theorem isVote_any (v : Int) (b : Bool) (h : voteB v = b) (w : World) : Calls Try.prog 21 #[.int .i64 v] w fun e w' => e = .returned (.bool b) ∧ w = w' := by
  subst h
  unfold voteB
  rcases h1 : (v == 1) with _ | _
  · rcases h2 : (v == 2) with _ | _
    · rcases h3 : (v == 3) with _ | _
      all_goals
        go_enter Try.func21, Try.ntmps21
        go_wp2
        go_ret
        exact ⟨rfl, rfl⟩
    · go_enter Try.func21, Try.ntmps21
      go_wp2
      go_ret
      exact ⟨rfl, rfl⟩
  · go_enter Try.func21, Try.ntmps21
    go_wp2
    go_ret
    exact ⟨rfl, rfl⟩

theorem kpn_set {Off : Nat → World → Prop} (W : World) (p : Addr) (v : Value) (h : ∀ k, Off k W → k ≠ p.block) (hO : ∀ k, Off k W → Off k (W.setCell p v)) : KpN Off W (W.setCell p v) :=
  ⟨by rw [World.size_setCell]; exact Nat.le_refl _, fun k _ ho => ⟨hO k ho, fun o h1 _ => (Below.heap_setCell W p v k (h k ho)).trans h1⟩⟩

set_option maxRecDepth 100000 in
set_option maxHeartbeats 2000000 in
theorem right_any (v : Int) (A : Option Addr) (k : Fo) (c : Nat) (w : World) (hm : k.len ≤ maxLen) (hfo : FoAt w w.heap.size k A) :
    Calls Try.prog 11 #[.agg #[.int .i64 v, .slice A k.len c]] w fun e w' => e = .returned (.bool (rightB v k)) ∧ Below w.heap.size w w' := by
  refine (callsIn_wide (n := 9)).1 ?_
  refine callsIn_of_wp_marks Try.func11 rfl trivial ?_ rfl
  simp only [Try.ntmps11, List.size_toArray, List.length_cons, List.length_nil, Nat.reduceAdd, Nat.reduceSub, Array.replicate_succ, Array.replicate_zero, List.push_toArray, List.append_toArray, List.nil_append, List.cons_append]
  obtain ⟨m, hmm⟩ : ∃ m, m = k.len := ⟨_, rfl⟩
  rw [← hmm]
  have HM := Lib.hid (And.intro hmm (And.intro hm hfo))
  clear hmm hm hfo
  obtain ⟨W1, hW1⟩ : ∃ W1, W1 = w.alloc (.cells #[.int .i64 v, .slice A m c] 24) := ⟨_, rfl⟩
  have hs1 : W1.heap.size = w.heap.size + 1 := by rw [hW1]; simp
  have kt1 : Blk W1 w.heap.size 24 #[.int .i64 v, .slice A m c] := by rw [hW1]; exact Blk.new _ _ _
  have hb1 : Below w.heap.size w W1 := by rw [hW1]; exact ba _ _
  have HW1 := Lib.hid hW1
  clear hW1
  gi_wp2_with fail
  rw [← HW1.out]
  refine wpIn_scope_straight ?_
  have kk := (Blk.new W1 3 #[.int .i64 0]).alloc (.cells #[.bool false] 4)
  have y1 := kk.cell 0
  have f1 := kk.frozen 0
  have kk := Blk.new (W1.alloc (.cells #[.int .i64 0] 3)) 4 #[.bool false]
  have y2 := kk.cell 0
  have f2 := kk.frozen 0
  simp only [World.size_alloc] at y2 f2
  simp only [List.getElem?_toArray, List.getElem?_cons_zero] at y1 y2
  clear kk
  gi_wp2_with fail
  refine wpIn_label ?_
  clear y1 f1 y2 f2
  obtain ⟨W2, hW2⟩ : ∃ W2, W2 = (W1.alloc (.cells #[.int .i64 0] 3)).alloc (.cells #[.bool true] 4) := ⟨_, rfl⟩
  have kt2 : Blk W2 w.heap.size 24 #[.int .i64 v, .slice A m c] := by rw [hW2]; exact (kt1.alloc _).alloc _
  have kc2 : Blk W2 W1.heap.size 3 #[.int .i64 0] := by rw [hW2]; exact (Blk.new _ _ _).alloc _
  have kr2 : Blk W2 (W1.heap.size + 1) 4 #[.bool true] := by
    rw [hW2]
    have := Blk.new (W1.alloc (.cells #[.int .i64 0] 3)) 4 #[.bool true]
    rwa [World.size_alloc] at this
  have hb2 : Below w.heap.size w W2 := by rw [hW2]; exact (hb1.alloc (by omega) _).alloc (by simp; omega) _
  have hs2 : W2.heap.size = W1.heap.size + 2 := by rw [hW2]; simp
  have HW2 := Lib.hid hW2
  rw [← hW2]
  clear hW2
  rw [hs1] at kc2 kr2 hs2
  have c0 := kt2.cell 0
  have c1 := kt2.cell 1
  simp only [List.getElem?_toArray, List.getElem?_cons_zero, List.getElem?_cons_succ] at c0 c1
  gi_wp2_with fail
  refine ⟨trivial, (nodes_in Fence.wide 8 trivial rfl v A m c 1 W2).mono ?_⟩
  rintro e W5 ⟨rfl, hW5⟩
  have h5s : W5.heap.size = W2.heap.size + 2 := by rw [hW5]; simp
  have hst5 : Step (w.heap.size + 3) W2 W5 := by rw [hW5]; exact (Step.alloc (by omega) _).trans (Step.alloc (by simp; omega) _)
  have ktb5 : Blk W5 W2.heap.size 24 #[.int .i64 v, .slice A m c] := by rw [hW5]; exact (Blk.new _ _ _).alloc _
  have kdb5 : Blk W5 (W2.heap.size + 1) 3 #[.int .i64 1] := by
    rw [hW5]
    have := Blk.new (W2.alloc (.cells #[.int .i64 v, .slice A m c] 24)) 3 #[.int .i64 1]
    rwa [World.size_alloc] at this
  have kc5 := kc2.step hst5
  have kr5 := kr2.step hst5
  have hb5 := hb2.trans (hst5.bel.mono (by omega))
  have hfo5 := HM.out.2.2.below hb5
  rw [hs2] at ktb5 kdb5 h5s
  have HX := Lib.hid hW5
  clear hW5 kc2 kr2 hb2 kt2 c0 c1 kt1 hb1 hst5
  gi_wp2_with fail
  refine wpIn_rangeFunc_leaveN (F := Fence.wide) rfl (fun h => by cases h) (gf := 25) (lb := #[.pointer (some ⟨w.heap.size + 1 + 2 + 1, 0, none⟩), .pointer (some ⟨w.heap.size + 1 + 2, 0, none⟩)]) rfl trivial (enters_of Try.func25 (by kernel_rfl) rfl)
    (encs := encN) (fun _ => rfl) (KpN fun k _ => k ≠ w.heap.size + 1 ∧ k ≠ w.heap.size + 1 + 1)
    (fun xs Wx => rightL 0 (xs.map NV.t) = true ∧ Blk Wx (w.heap.size + 1) 3 #[.int .i64 xs.length] ∧ Blk Wx (w.heap.size + 1 + 1) 4 #[.bool true] ∧ Below w.heap.size w Wx ∧ W5.heap.size ≤ Wx.heap.size)
    (fun cd xs Wx => cd = .exit 0 ∧ rightL 0 (xs.map NV.t) = false ∧ Blk Wx (w.heap.size + 1 + 1) 4 #[.bool false] ∧ Below w.heap.size w Wx ∧ W5.heap.size ≤ Wx.heap.size)
    (fun y Wx => FoAt Wx w.heap.size y.k y.A ∧ SubOk (k.cnt + 1) y)
    (fun xs => xs.map NV.t = nodesL 1 (.cons v k .nil)) (fun xs => xs.map NV.t <+: nodesL 1 (.cons v k .nil)) (nodesL 1 (.cons v k .nil)).length
    KpN.trans (fun Wx l' o o' hl ho hc => ⟨by rw [World.putObj_size]; exact Nat.le_refl _, fun k hk hO => ⟨hO, fun ob h1 h2 => (Step.put (B := W5.heap.size) hl ho hc).cel k ob h1 h2⟩⟩)
    (fun xs Wa Wb hi hs => ⟨hi.1, hi.2.1.step hs, hi.2.2.1.step hs, hi.2.2.2.1.trans (hs.bel.mono (by omega)), Nat.le_trans hi.2.2.2.2 hs.bel.size⟩)
    (fun cd xs Wa Wb hi hs => ⟨hi.1, hi.2.1, hi.2.2.1.step hs, hi.2.2.2.1.trans (hs.bel.mono (by omega)), Nat.le_trans hi.2.2.2.2 hs.bel.size⟩)
    ⟨rfl, kc5, kr5, hb5, Nat.le_refl _⟩
    ?iter (fun y a' Wx => ∃ t7, Blk Wx t7 24 #[.int .i64 y.v, .slice y.A y.k.len y.c] ∧ t7 < Wx.heap.size ∧ W5.heap.size ≤ t7 ∧ a' = { tmps := #[.agg #[.int .i64 v, .slice A m c], .pointer (some ⟨w.heap.size, 0, none⟩), .bool false, .pointer (some ⟨w.heap.size + 1, 0, none⟩), .pointer (some ⟨w.heap.size + 1 + 1, 0, none⟩), .int .i64 y.d, .pointer (some ⟨t7, 0, none⟩), .agg #[.int .i64 v, .slice A m c], .func (.func 25) #[] #[.pointer (some ⟨w.heap.size + 1 + 2 + 1, 0, none⟩), .pointer (some ⟨w.heap.size + 1 + 2, 0, none⟩)], .int .i64 y.d, y.val, undef, undef, undef, undef, undef, undef, undef, undef, undef, undef, undef, undef], defers := [] })
    ?axput ?assign ?body ?done ?stop
  case axput =>
    rintro y a' Wx l' ob ob' ⟨t7, h1, h4, h5, rfl⟩ hl ho hc
    have hs : Step W5.heap.size Wx (Wx.putObj l' ob') := Step.put hl ho hc
    exact ⟨t7, h1.step hs, by rw [World.putObj_size]; exact h4, h5, rfl⟩
  case assign =>
    rintro lx xs y Wx K hi hpx hK
    simp only [encN, NV.val]
    gi_wp2_with fail
    have hsx : ∀ ob : Obj, Step W5.heap.size Wx (Wx.alloc ob) := fun ob => Step.alloc hi.2.2.2.2 ob
    refine hK _ _ (NK.of (KeepsOthers.alloc _ _)) ⟨(hsx _).bel.size, fun k hk hO => ⟨hO, fun ob h1 h2 => (hsx _).cel k ob h1 h2⟩⟩ ⟨hi.1, hi.2.1.step (hsx _), hi.2.2.1.step (hsx _), hi.2.2.2.1.trans ((hsx _).bel.mono (by omega)), by have := hi.2.2.2.2; simp; omega⟩ ⟨Wx.heap.size, Blk.new _ _ _, by simp, hi.2.2.2.2, ?_⟩
    rfl
  case iter =>
    intro lx W1x Z Yx hzNK hzStep hyStep hlx hW1s hst1 hI1 hz1 hyy
    have Hh : Host Fence.wide lx (W5.heap.size + 2) w.heap.size (nodesL 1 (.cons v k .nil)).length (k.cnt + 1) (fun xs Wx => (rightL 0 (xs.map NV.t) = true ∧ Blk Wx (w.heap.size + 1) 3 #[.int .i64 xs.length] ∧ Blk Wx (w.heap.size + 1 + 1) 4 #[.bool true] ∧ Below w.heap.size w Wx ∧ W5.heap.size ≤ Wx.heap.size) ∧ Z Wx) Yx (fun k _ => k ≠ w.heap.size + 1 ∧ k ≠ w.heap.size + 1 + 1) := {
      jStep := fun xs Wa Wb hi hs => ⟨⟨hi.1.1, hi.1.2.1.step hs, hi.1.2.2.1.step hs, hi.1.2.2.2.1.trans (hs.bel.mono (by omega)), Nat.le_trans hi.1.2.2.2.2 hs.bel.size⟩, hzStep _ _ hi.2 hs⟩
      yStep := hyStep
      oStep := fun k Wa Wb ho hs => ho
      oNew := fun s k Wa hi hk => by have := hi.1.2.2.2.2; constructor <;> omega
      oOld := fun s k Wa hi hk => by constructor <;> omega
      yld := fun m pre' y Wa hi hfo hsub hl => YieldAt.anyDepth rfl m (YieldAt.mono (hyy pre' y Wa hi.1 hi.2 ⟨hfo, hsub⟩ hl) fun e We h => by
        rcases h with ⟨h1, h2, h3, h4, h5⟩ | h
        · exact .inl ⟨h1, ⟨h2, h3⟩, h4.1, h4.2, h5⟩
        · exact .inr h) }
    have kt1 := ktb5.step hst1
    rw [HM.out.1] at kt1
    refine (nodes1_any Fence.wide rfl trivial trivial rfl w.heap.size v k lx (W5.heap.size + 2) _ _ _ _ _ Hh 8 1 [] W1x (w.heap.size + 1 + 2) (w.heap.size + 1 + 2 + 1) c A hlx (by omega) (by omega) HM.out.2.1 (Nat.le_refl _) kt1 (by constructor <;> omega) (kdb5.step hst1) (by constructor <;> omega) (hfo5.step hst1) ⟨hI1, hz1⟩ (by simp)).mono ?_
    rintro e We ⟨hv, (⟨xs, h1, h2⟩ | ⟨xs, h1, h2⟩)⟩
    · exact ⟨hv, .inl ⟨xs, h1, by simpa using h2.1, h2.2⟩⟩
    · exact ⟨hv, .inr ⟨xs, h1, by simpa using h2⟩⟩
  case body =>
    rintro lx xs y a' Wx hlx _ hi ⟨t7, k7, l7, g7, rfl⟩ hxl
    have hle : xs.length ≤ 64 := by have := rightL_le (xs.map NV.t) 0 hi.1 (by omega); simpa using this
    obtain ⟨q, hq⟩ : ∃ q, q = xs.length := ⟨_, rfl⟩
    have hok : rightL 0 ((xs ++ [y]).map NV.t) = okN y.t (q + 1) := by
      rw [List.map_append, List.map_cons, List.map_nil, rightL_snoc, hi.1, List.length_map, ← hq]; simp
    have kc := hi.2.1
    rw [← hq] at kc hle
    have hwq : IntKind.i64.wrap ((q : Int) + 1) = (q : Int) + 1 := IntWalk.i64_in _ (by omega)
    have e1 := kc.cell 0
    have f1 := kc.frozen 0
    obtain ⟨Wb, hWb⟩ : ∃ Wb, Wb = Wx.setCell ⟨w.heap.size + 1, 0, none⟩ (.int .i64 ((q : Int) + 1)) := ⟨_, rfl⟩
    have kcb : Blk Wb (w.heap.size + 1) 3 #[.int .i64 ((q : Int) + 1)] := by rw [hWb]; simpa using kc.set_ 0 (.int .i64 ((q : Int) + 1))
    have krb : Blk Wb (w.heap.size + 1 + 1) 4 #[.bool true] := by rw [hWb]; exact hi.2.2.1.far (by dsimp only; omega) _
    have k7b : Blk Wb t7 24 #[.int .i64 y.v, .slice y.A y.k.len y.c] := by rw [hWb]; exact k7.far (by dsimp only; omega) _
    have e2 := kcb.cell 0
    have e3 := krb.cell 0
    have f3 := krb.frozen 0
    have e4 := k7b.cell 0
    simp only [List.getElem?_toArray, List.getElem?_cons_zero] at e1 e2 e3 e4
    have kcF := kcb.far (p := ⟨w.heap.size + 1 + 1, 0, none⟩) (by dsimp only; omega) (.bool false)
    have krF : Blk (Wb.setCell ⟨w.heap.size + 1 + 1, 0, none⟩ (.bool false)) (w.heap.size + 1 + 1) 4 #[.bool false] := by simpa using krb.set_ 0 (.bool false)
    have nb : NK W5.heap.size Wx Wb := by rw [hWb]; exact NK.of (KeepsOthers.setCell _ _ _)
    have nF : NK W5.heap.size Wx (Wb.setCell ⟨w.heap.size + 1 + 1, 0, none⟩ (.bool false)) := nb.trans (NK.of (KeepsOthers.setCell _ _ _))
    have bb : Below w.heap.size w Wb := by rw [hWb]; exact hi.2.2.2.1.setCell (by dsimp only; omega) _
    have bF := bb.setCell (p := ⟨w.heap.size + 1 + 1, 0, none⟩) (by dsimp only; omega) (.bool false)
    have sb : W5.heap.size ≤ Wb.heap.size := by rw [hWb, World.size_setCell]; exact hi.2.2.2.2
    have sF : W5.heap.size ≤ (Wb.setCell ⟨w.heap.size + 1 + 1, 0, none⟩ (.bool false)).heap.size := by rw [World.size_setCell]; exact sb
    have kp : KpN (fun k _ => k ≠ w.heap.size + 1 ∧ k ≠ w.heap.size + 1 + 1) Wx Wb := by rw [hWb]; exact kpn_set _ _ _ (fun k h => h.1) (fun k h => h)
    have kcb' : Blk Wb (w.heap.size + 1) 3 #[.int .i64 (((xs ++ [y]).length : Nat) : Int)] := by rw [List.length_append, List.length_singleton, ← hq]; exact kcb
    have HN := Lib.hid (And.intro nb (And.intro kp (And.intro kcb' (And.intro krb (And.intro bb sb)))))
    have HF := Lib.hid (And.intro nF (And.intro krF (And.intro bF sF)))
    have HOK := Lib.hid hok
    rw [hWb] at e2 e3 f3 e4
    have HWB := Lib.hid hWb
    clear hi k7 l7 g7 hxl kc kcb krb k7b kcF krF nb nF bb bF sb sF kp hok hWb kcb' hq h5s
    by_cases hd8 : (8 : Int) < y.d
    · have hfalse : rightL 0 ((xs ++ [y]).map NV.t) = false := by
        rw [HOK.out]
        have h9 : ¬ y.d ≤ 8 := by omega
        simp [okN, NV.t, h9]
      have HZ := Lib.hid hfalse
      clear hfalse
      gi_wp2_with fail
      rw [← HWB.out]
      exact ⟨HF.out.1, rfl, HZ.out, HF.out.2.1, HF.out.2.2.1, HF.out.2.2.2⟩
    by_cases hc64 : (64 : Int) < (q : Int) + 1
    · have hfalse : rightL 0 ((xs ++ [y]).map NV.t) = false := by
        rw [HOK.out]
        have h9 : ¬ q + 1 ≤ 64 := by omega
        simp [okN, NV.t, h9]
      have HZ := Lib.hid hfalse
      clear hfalse
      gi_wp2_with fail
      rw [← HWB.out]
      exact ⟨HF.out.1, rfl, HZ.out, HF.out.2.1, HF.out.2.2.1, HF.out.2.2.2⟩
    rcases hvb : voteB y.v with _ | _
    · have hfalse : rightL 0 ((xs ++ [y]).map NV.t) = false := by rw [HOK.out]; simp [okN, NV.t, hvb]
      have HZ := Lib.hid hfalse
      have HV := Lib.hid hvb
      clear hfalse hvb
      gi_wp2_with fail
      refine ⟨trivial, (CallsIn.inRound lx ((callsIn_wide).2 (isVote_any y.v _ HV.out _))).mono ?_⟩
      rintro e W9 ⟨rfl, rfl⟩
      gi_wp2_with fail
      rw [← HWB.out]
      exact ⟨HF.out.1, rfl, HZ.out, HF.out.2.1, HF.out.2.2.1, HF.out.2.2.2⟩
    · have htrue : rightL 0 ((xs ++ [y]).map NV.t) = true := by
        rw [HOK.out]
        have h9 : q + 1 ≤ 64 := by omega
        have h8 : y.d ≤ 8 := by omega
        simp [okN, NV.t, h9, h8, hvb]
      have HZ := Lib.hid htrue
      have HV := Lib.hid hvb
      clear htrue hvb
      gi_wp2_with fail
      refine ⟨trivial, (CallsIn.inRound lx ((callsIn_wide).2 (isVote_any y.v _ HV.out _))).mono ?_⟩
      rintro e W9 ⟨rfl, rfl⟩
      gi_wp2_with fail
      rw [← HWB.out]
      exact ⟨HN.out.1, HN.out.2.1, HZ.out, HN.out.2.2.1, HN.out.2.2.2.1, HN.out.2.2.2.2.1, HN.out.2.2.2.2.2⟩
  case done =>
    rintro Dm xs Wx hD hS hI hDd
    have e3 := hI.2.2.1.cell 0
    simp only [List.getElem?_toArray, List.getElem?_cons_zero] at e3
    have hMd : MarksAt Wx (w.heap.size + 3) [Dm] := (MarksAt.nil Wx _).cons (by omega) hDd (fun E hE => by simp at hE)
    have hR : rightB v k = true := by rw [rightB, ← hS]; exact hI.1
    have HE := Lib.hid (And.intro hI.2.2.2.1 (And.intro hMd hR))
    clear hI hMd hR hS hDd
    gi_wp2_with fail
    refine leaves_marks [Dm] Wx HE.out.2.1 ⟨_, results_tmp rfl _ _ _, ?_⟩
    exact ⟨by rw [HE.out.2.2]; rfl, HE.out.1.trans (taken_below fun E hE => by have := (HE.out.2.1.1 E hE).1; omega)⟩
  case stop =>
    rintro Dm cd xs Wx hD hS ⟨rfl, hYx⟩ hDd
    have e3 := hYx.2.1.cell 0
    simp only [List.getElem?_toArray, List.getElem?_cons_zero] at e3
    have hMd : MarksAt Wx (w.heap.size + 3) [Dm] := (MarksAt.nil Wx _).cons (by omega) hDd (fun E hE => by simp at hE)
    have hR : rightB v k = false := rightL_prefix hS 0 hYx.1
    have HE := Lib.hid (And.intro hYx.2.2.1 (And.intro hMd hR))
    clear hYx hMd hR hS hDd
    refine wpIn_exit ?_
    gi_wp2_with fail
    refine leaves_marks [Dm] Wx HE.out.2.1 ⟨_, results_tmp rfl _ _ _, ?_⟩
    exact ⟨by rw [HE.out.2.2]; rfl, HE.out.1.trans (taken_below fun E hE => by have := (HE.out.2.1.1 E hE).1; omega)⟩
end Go.Proofs.Ytepcafkgpkbimaa
