/- Layer 16: the kids that are told. -/
import Derived.Test.YtepcafkgpkbimaaUf
import Derived.Test.YtepcafkgpkbimaaInvT
namespace Go.Proofs.Ytepcafkgpkbimaa
open Go Go.RowKit Go.Shelf
attribute [local go_sem] Oper.semAt_some
set_option linter.unusedVariables false
set_option linter.unusedSimpArgs false

def kstep (s : Nat × List Int) (x : NT) : Nat × List Int := if x.d == 1 then s else (s.1 + 1, if saysB x.v x.k == 2 then s.2 else s.2 ++ [((s.1 + 1 : Nat) : Int)])
def kfold (l : List NT) : Nat × List Int := l.foldl kstep (0, [])
def kidsM (v : Int) (k : Fo) : Nat × List Int := kfold (nodesL 1 (.cons v k .nil))
theorem kfold_snoc (l : List NT) (x : NT) : kfold (l ++ [x]) = kstep (kfold l) x := by simp [kfold]
theorem kfold_le (l : List NT) : (kfold l).1 ≤ l.length ∧ (kfold l).2.length ≤ (kfold l).1 := by
  induction l using snoc_ind with
  | h0 => simp [kfold]
  | h1 l x ih =>
    rw [kfold_snoc, List.length_append, List.length_singleton]
    unfold kstep
    split
    · omega
    · split <;> simp <;> omega
theorem Step.of {W W' : World} (h : Below W.heap.size W W') : Step W.heap.size W W' := ⟨h, fun k o ho _ => (h.block k (Array.getElem?_eq_some_iff.1 ho).1).trans ho⟩
theorem nk_below {B : Nat} {W W' : World} (h : Below W.heap.size W W') : NK B W W' := fun k o _ ho _ => (h.block k (Array.getElem?_eq_some_iff.1 ho).1).trans ho
def OffK (cl ca : Nat) (k : Nat) (W : World) : Prop := k ≠ ca ∧ OffL cl k W
theorem OffK.step {B cl ca k : Nat} {W W' : World} (h : OffK cl ca k W) (hs : Step B W W') : OffK cl ca k W' := ⟨h.1, h.2.step hs⟩
theorem kpk_step {B cl ca : Nat} {W W' : World} (hs : Step B W W') : KpN (OffK cl ca) W W' := ⟨hs.bel.size, fun k _ ho => ⟨ho.step hs, fun o h1 h2 => hs.cel k o h1 h2⟩⟩
theorem FoAt.more {w : World} {B B' : Nat} (hB : B ≤ B') : ∀ (f : Fo) (A : Option Addr), FoAt w B f A → FoAt w B' f A
  | .nil, _, _ => trivial
  | .cons v k r, _, ⟨b, o, A', c', e, h1, h2, h3, h4, h5, h6⟩ => ⟨b, o, A', c', e, by omega, h2, h3, h4, FoAt.more hB k _ h5, FoAt.more hB r _ h6⟩
theorem kpk_set {cl ca : Nat} (hne : cl ≠ ca) (W : World) (v : Value) : KpN (OffK cl ca) W (W.setCell ⟨ca, 0, none⟩ v) :=
  kpn_set W _ v (fun k h => h.1) (fun k h => by
    obtain ⟨h0, h1, A, n, c, h2, h3⟩ := h
    refine ⟨h0, h1, A, n, c, ?_, h3⟩
    rw [← h2]
    unfold World.cell?
    rw [Below.heap_setCell W ⟨ca, 0, none⟩ v cl (by dsimp only; exact hne)])
theorem kpk_lst {cl ca : Nat} {W W' : World} (h : KpN (OffL cl) W W') : KpN (OffK cl ca) W W' := ⟨h.1, fun k hk ho => ⟨⟨ho.1, (h.2 k hk ho.2).1⟩, (h.2 k hk ho.2).2⟩⟩
theorem LstAt.far {B cl ca : Nat} {zs : List Int} {W : World} (h : LstAt B cl zs W) (hne : cl ≠ ca) (hB : ca < B) (v : Value) : LstAt B cl zs (W.setCell ⟨ca, 0, none⟩ v) := by
  obtain ⟨A, c, h1, h2⟩ := h
  exact ⟨A, c, h1.far (by dsimp only; exact hne) v, h2.keptC fun r hr o h3 _ => (Below.heap_setCell W _ v r (by have := (h2.lt' r hr).1; dsimp only; omega)).trans h3⟩
theorem EndsAt.less {u : World} {B B' : Nat} {A : Option Addr} {c : Nat} {es : List Int} (h : EndsAt u B A c es) (hB : B' ≤ B) : EndsAt u B' A c es := by
  refine ⟨h.1, ?_⟩
  rcases h.2 with hn | ⟨g, cap, cur, e, hb, rest⟩
  · exact .inl hn
  · exact .inr ⟨g, cap, cur, e, by omega, rest⟩
def VKr (A : Option Addr) (n c q : Nat) (i : Nat) (v : Value) (w : World) : Prop :=
  match i with
  | 0 => v = .slice A n c
  | 1 => v = .int .i64 q
  | _ => True

theorem VKr.mono {A : Option Addr} {n c q i : Nat} {v : Value} {u u' : World} (hv : VKr A n c q i v u) : VKr A n c q i v u' := by
  unfold VKr at hv ⊢; split at hv <;> exact hv

set_option maxRecDepth 100000 in
set_option maxHeartbeats 2000000 in
theorem kids_any (v : Int) (A : Option Addr) (k : Fo) (c : Nat) (w : World) (hm : k.len ≤ maxLen) (hfo : FoAt w w.heap.size k A) (hN : (nodesL 1 (.cons v k .nil)).length ≤ 1000000) :
    Calls Try.prog 13 #[.agg #[.int .i64 v, .slice A k.len c]] w fun e w' => (∃ A2 c2, e = .returned (.tuple #[.slice A2 (kidsM v k).2.length c2, .int .i64 (kidsM v k).1]) ∧ EndsAt w' w.heap.size A2 c2 (kidsM v k).2) ∧ Below w.heap.size w w' := by
  refine (callsIn_wide (n := 9)).1 ?_
  refine callsIn_of_wp_marks Try.func13 rfl trivial ?_ rfl
  simp only [Try.ntmps13, List.size_toArray, List.length_cons, List.length_nil, Nat.reduceAdd, Nat.reduceSub, Array.replicate_succ, Array.replicate_zero, List.push_toArray, List.append_toArray, List.nil_append, List.cons_append]
  obtain ⟨m, hmm⟩ : ∃ m, m = k.len := ⟨_, rfl⟩
  rw [← hmm]
  have HM := Lib.hid (And.intro hmm (And.intro hm (And.intro hfo hN)))
  clear hmm hm hfo hN
  obtain ⟨W2, hW2⟩ : ∃ W2, W2 = ((w.alloc (.cells #[.int .i64 v, .slice A m c] 24)).alloc (.cells #[.slice none 0 0] 29)).alloc (.cells #[.int .i64 0] 3) := ⟨_, rfl⟩
  have hs2 : W2.heap.size = w.heap.size + 3 := by rw [hW2]; simp
  have kt2 : Blk W2 w.heap.size 24 #[.int .i64 v, .slice A m c] := by rw [hW2]; exact ((Blk.new _ _ _).alloc _).alloc _
  have kl2 : Blk W2 (w.heap.size + 1) 29 #[.slice none 0 0] := by
    rw [hW2]
    have := Blk.new (w.alloc (.cells #[.int .i64 v, .slice A m c] 24)) 29 #[.slice none 0 0]
    rw [World.size_alloc] at this
    exact this.alloc _
  have ka2 : Blk W2 (w.heap.size + 2) 3 #[.int .i64 0] := by
    rw [hW2]
    have := Blk.new ((w.alloc (.cells #[.int .i64 v, .slice A m c] 24)).alloc (.cells #[.slice none 0 0] 29)) 3 #[.int .i64 0]
    rwa [World.size_alloc, World.size_alloc] at this
  have hb2 : Below w.heap.size w W2 := by rw [hW2]; exact bt (bt (ba _ _) (ba _ _)) (ba _ _)
  have c0 := kt2.cell 0
  have c1 := kt2.cell 1
  simp only [List.getElem?_toArray, List.getElem?_cons_zero, List.getElem?_cons_succ] at c0 c1
  have HW2 := Lib.hid hW2
  rw [hW2] at c0 c1
  clear hW2
  gi_wp2_with fail
  rw [← HW2.out]
  clear c0 c1
  refine ⟨trivial, (nodes_in Fence.wide 8 trivial rfl v A m c 1 W2).mono ?_⟩
  rintro e W5 ⟨rfl, hW5⟩
  have h5s : W5.heap.size = W2.heap.size + 2 := by rw [hW5]; simp
  have hst5 : Step (w.heap.size + 3) W2 W5 := by rw [hW5]; exact (Step.alloc (by omega) _).trans (Step.alloc (by simp; omega) _)
  have ktb5 : Blk W5 W2.heap.size 24 #[.int .i64 v, .slice A m c] := by rw [hW5]; exact (Blk.new _ _ _).alloc _
  have kdb5 : Blk W5 (W2.heap.size + 1) 3 #[.int .i64 1] := by
    rw [hW5]
    have := Blk.new (W2.alloc (.cells #[.int .i64 v, .slice A m c] 24)) 3 #[.int .i64 1]
    rwa [World.size_alloc] at this
  have hl5 : LstAt (w.heap.size + 5) (w.heap.size + 1) [] W5 := ⟨none, 0, kl2.step hst5, EndsAt.nil _ _⟩
  have hb5 := hb2.trans (hst5.bel.mono (by omega))
  have hfo5 := HM.out.2.2.1.below hb5
  rw [hs2] at ktb5 kdb5 h5s
  have ka5 := ka2.step hst5
  clear hW5 kl2 hb2 kt2 hst5 ka2
  gi_wp2_with fail
  refine wpIn_rangeFunc_leaveN (F := Fence.wide) rfl (fun h => by cases h) (gf := 25) (lb := #[.pointer (some ⟨w.heap.size + 3 + 1, 0, none⟩), .pointer (some ⟨w.heap.size + 3, 0, none⟩)]) rfl trivial (enters_of Try.func25 (by kernel_rfl) rfl)
    (encs := encN) (fun _ => rfl) (KpN (OffK (w.heap.size + 1) (w.heap.size + 2)))
    (fun xs Wx => LstAt (w.heap.size + 5) (w.heap.size + 1) (kfold (xs.map NV.t)).2 Wx ∧ Blk Wx (w.heap.size + 2) 3 #[.int .i64 (kfold (xs.map NV.t)).1] ∧ Below w.heap.size w Wx ∧ W5.heap.size ≤ Wx.heap.size)
    (fun cd xs Wx => False)
    (fun y Wx => FoAt Wx w.heap.size y.k y.A ∧ SubOk (k.cnt + 1) y)
    (fun xs => xs.map NV.t = nodesL 1 (.cons v k .nil)) (fun xs => xs.map NV.t <+: nodesL 1 (.cons v k .nil)) (nodesL 1 (.cons v k .nil)).length
    KpN.trans (fun Wx l' o o' hl ho hc => kpk_step (Step.put (B := W5.heap.size) hl ho hc))
    (fun xs Wa Wb hi hs => ⟨hi.1.step hs, hi.2.1.step hs, hi.2.2.1.trans (hs.bel.mono (by omega)), Nat.le_trans hi.2.2.2 hs.bel.size⟩)
    (fun cd xs Wa Wb hi hs => hi)
    ⟨hl5, ka5, hb5, Nat.le_refl _⟩
    ?iter (fun y a' Wx => ∃ t7, Blk Wx t7 24 #[.int .i64 y.v, .slice y.A y.k.len y.c] ∧ t7 < Wx.heap.size ∧ W5.heap.size ≤ t7 ∧ (FoAt Wx w.heap.size y.k y.A ∧ SubOk (k.cnt + 1) y) ∧ a' = { tmps := #[.agg #[.int .i64 v, .slice A m c], .pointer (some ⟨w.heap.size, 0, none⟩), .pointer (some ⟨w.heap.size + 1, 0, none⟩), .pointer (some ⟨w.heap.size + 2, 0, none⟩), .int .i64 y.d, .pointer (some ⟨t7, 0, none⟩), .agg #[.int .i64 v, .slice A m c], .func (.func 25) #[] #[.pointer (some ⟨w.heap.size + 3 + 1, 0, none⟩), .pointer (some ⟨w.heap.size + 3, 0, none⟩)], .int .i64 y.d, y.val, undef, undef, undef, undef, undef, undef, undef, undef, undef, undef, undef, undef, undef], defers := [] })
    ?axput ?assign ?body ?done ?stop
  case axput =>
    rintro y a' Wx l' ob ob' ⟨t7, h1, h4, h5, h6, rfl⟩ hl ho hc
    have hs : Step W5.heap.size Wx (Wx.putObj l' ob') := Step.put hl ho hc
    exact ⟨t7, h1.step hs, by rw [World.putObj_size]; exact h4, h5, ⟨h6.1.step hs, h6.2⟩, rfl⟩
  case assign =>
    rintro lx xs y Wx K hi hpx hK
    simp only [encN, NV.val]
    gi_wp2_with fail
    have hsx : ∀ ob : Obj, Step W5.heap.size Wx (Wx.alloc ob) := fun ob => Step.alloc hi.2.2.2 ob
    refine hK _ _ (NK.of (KeepsOthers.alloc _ _)) (kpk_step (hsx _)) ⟨hi.1.step (hsx _), hi.2.1.step (hsx _), hi.2.2.1.trans ((hsx _).bel.mono (by omega)), by have := hi.2.2.2; simp; omega⟩ ⟨Wx.heap.size, Blk.new _ _ _, by simp, hi.2.2.2, ⟨hpx.1.step (hsx _), hpx.2⟩, ?_⟩
    rfl
  case iter =>
    intro lx W1x Z Yx hzNK hzStep hyStep hlx hW1s hst1 hI1 hz1 hyy
    have Hh : Host Fence.wide lx (W5.heap.size + 2) w.heap.size (nodesL 1 (.cons v k .nil)).length (k.cnt + 1) (fun xs Wx => (LstAt (w.heap.size + 5) (w.heap.size + 1) (kfold (xs.map NV.t)).2 Wx ∧ Blk Wx (w.heap.size + 2) 3 #[.int .i64 (kfold (xs.map NV.t)).1] ∧ Below w.heap.size w Wx ∧ W5.heap.size ≤ Wx.heap.size) ∧ Z Wx) Yx (OffK (w.heap.size + 1) (w.heap.size + 2)) := {
      jStep := fun xs Wa Wb hi hs => ⟨⟨hi.1.1.step hs, hi.1.2.1.step hs, hi.1.2.2.1.trans (hs.bel.mono (by omega)), Nat.le_trans hi.1.2.2.2 hs.bel.size⟩, hzStep _ _ hi.2 hs⟩
      yStep := hyStep
      oStep := fun k Wa Wb ho hs => ho.step hs
      oNew := fun s k Wa hi hk => ⟨by have := hi.1.2.1.lt; omega, hi.1.1.offNew hk⟩
      oOld := fun s k Wa hi hk => ⟨by omega, hi.1.1.offOld (by omega) (by omega)⟩
      yld := fun m pre' y Wa hi hfo hsub hl => YieldAt.anyDepth rfl m (YieldAt.mono (hyy pre' y Wa hi.1 hi.2 ⟨hfo, hsub⟩ hl) fun e We h => by
        rcases h with ⟨h1, h2, h3, h4, h5⟩ | h
        · exact .inl ⟨h1, ⟨h2, h3⟩, h4.1, h4.2, h5⟩
        · exact .inr h) }
    have kt1 := ktb5.step hst1
    rw [HM.out.1] at kt1
    refine (nodes1_any Fence.wide rfl trivial trivial rfl w.heap.size v k lx (W5.heap.size + 2) _ _ _ _ _ Hh 8 1 [] W1x (w.heap.size + 3) (w.heap.size + 3 + 1) c A hlx (by omega) (by omega) HM.out.2.1 (Nat.le_refl _) kt1 ⟨by omega, (hl5.step hst1).offOld (by omega) (by omega)⟩ (kdb5.step hst1) ⟨by omega, (hl5.step hst1).offOld (by omega) (by omega)⟩ (hfo5.step hst1) ⟨hI1, hz1⟩ (by simp)).mono ?_
    rintro e We ⟨hv, (⟨xs, h1, h2⟩ | ⟨xs, h1, h2⟩)⟩
    · exact ⟨hv, .inl ⟨xs, h1, by simpa using h2.1, h2.2⟩⟩
    · exact ⟨hv, .inr ⟨xs, h1, by simpa using h2⟩⟩
  case body =>
    rintro lx xs y a' Wx hlx _ hi ⟨t7, k7, l7, g7, h7, rfl⟩ hxl
    obtain ⟨q, tl, hqt⟩ : ∃ q tl, kfold (xs.map NV.t) = (q, tl) := ⟨_, _, rfl⟩
    have hle := kfold_le (xs.map NV.t)
    have hNN := HM.out.2.2.2
    rw [nodes_len] at hNN
    have hsn : kfold ((xs ++ [y]).map NV.t) = kstep (q, tl) y.t := by rw [List.map_append, List.map_cons, List.map_nil, kfold_snoc, hqt]
    rw [hqt] at hi hle
    simp only [List.length_map] at hi hle
    have hq : q ≤ 1000000 := by have := HM.out.2.2.2; omega
    have htq : tl.length ≤ 1000000 := by omega
    rcases hd1 : (y.d == 1) with _ | _
    case true =>
      have hst : kstep (q, tl) y.t = (q, tl) := by unfold kstep; rw [show y.t.d = y.d from rfl, hd1]; rfl
      have HF := Lib.hid hi
      have HS := Lib.hid (hsn.trans hst)
      clear hi hsn hst k7 l7 g7 h7 hxl hle hNN hqt
      gi_wp2_with fail
      refine ⟨NK.rfl', ⟨Nat.le_refl _, fun k _ ho => ⟨ho, fun o h _ => h⟩⟩, ?_⟩
      dsimp only
      rw [HS.out]
      exact HF.out
    have hwq : IntKind.i64.wrap ((q : Int) + 1) = (q : Int) + 1 := IntWalk.i64_in _ (by omega)
    have e1 := hi.2.1.cell 0
    have f1 := hi.2.1.frozen 0
    obtain ⟨Wb, hWb⟩ : ∃ Wb, Wb = Wx.setCell ⟨w.heap.size + 2, 0, none⟩ (.int .i64 ((q : Int) + 1)) := ⟨_, rfl⟩
    have kab : Blk Wb (w.heap.size + 2) 3 #[.int .i64 ((q : Int) + 1)] := by rw [hWb]; simpa using hi.2.1.set_ 0 (.int .i64 ((q : Int) + 1))
    have k7b : Blk Wb t7 24 #[.int .i64 y.v, .slice y.A y.k.len y.c] := by rw [hWb]; exact k7.far (by dsimp only; omega) _
    have llb : LstAt (w.heap.size + 5) (w.heap.size + 1) tl Wb := by rw [hWb]; exact hi.1.far (by omega) (by omega) _
    have hfb : FoAt Wb w.heap.size y.k y.A := by
      rw [hWb]
      exact h7.1.keep fun b hb o ho _ => (Below.heap_setCell Wx _ _ b (by dsimp only; omega)).trans ho
    have hbb : Below w.heap.size w Wb := by rw [hWb]; exact hi.2.2.1.setCell (by dsimp only; omega) _
    have hsb : Wb.heap.size = Wx.heap.size := by rw [hWb, World.size_setCell]
    have nkb : NK W5.heap.size Wx Wb := by rw [hWb]; exact NK.of (KeepsOthers.setCell _ _ _)
    have kpb : KpN (OffK (w.heap.size + 1) (w.heap.size + 2)) Wx Wb := by rw [hWb]; exact kpk_set (by omega) _ _
    obtain ⟨m7, hm7⟩ : ∃ m7, m7 = y.k.len := ⟨_, rfl⟩
    rw [← hm7] at k7b
    have e2 := k7b.cell 0
    have e3 := k7b.cell 1
    simp only [List.getElem?_toArray, List.getElem?_cons_zero, List.getElem?_cons_succ] at e1 e2 e3
    have hsy := says_any y.v y.A y.k y.c Wb h7.2.1 (FoAt.more (by have := hbb.size; omega) _ _ hfb) (by rw [nodes_len]; have := h7.2.2; omega)
    rw [← hm7] at hsy
    obtain ⟨s, hs⟩ : ∃ s, s = saysB y.v y.k := ⟨_, rfl⟩
    rw [← hs] at hsy
    have HS := Lib.hid (And.intro hs (And.intro hsn hd1))
    have HY := Lib.hid hsy
    have HP := Lib.hid (And.intro kab (And.intro llb (And.intro hbb (And.intro nkb (And.intro kpb (show W5.heap.size ≤ Wb.heap.size by omega))))))
    have HQ := Lib.hid (And.intro hq htq)
    rw [hWb] at e2 e3
    have HWB := Lib.hid hWb
    clear hi k7 l7 g7 h7 hxl hle hNN hqt kab k7b llb hfb hbb hsb nkb kpb hm7 hsy hs hsn hWb hq htq
    gi_wp2_with fail
    rw [← HWB.out]
    refine ⟨trivial, (CallsIn.inRound lx ((callsIn_wide).2 HY.out)).mono ?_⟩
    rintro e W8 ⟨rfl, hb8⟩
    obtain ⟨kab, llb, hbb, nkb, kpb, ssb⟩ := HP.out
    have st8 := Step.of hb8
    have ka8 := kab.step st8
    have ll8 := llb.step st8
    have hb8w := hbb.trans (hb8.mono hbb.size)
    have nk8 := nkb.trans (nk_below (B := W5.heap.size) hb8)
    have kp8 := kpb.trans (kpk_step st8)
    have ss8 := Nat.le_trans ssb hb8.size
    clear e1 f1 e2 e3 kab llb hbb nkb kpb ssb st8 hb8
    rcases hs2 : (s == 2) with _ | _
    · obtain ⟨n, hn⟩ : ∃ n, n = tl.length := ⟨_, rfl⟩
      obtain ⟨Aq, cq, A2, c2, W9, h1, hrun, h8, hfin⟩ := ll8.more n hn (by rw [hn]; exact HQ.out.2) ((q : Int) + 1) (by omega) (by omega)
      have e1 := h1.cell 0
      have e2 := ka8.cell 0
      have e3 := h8.cell 0
      have f3 := h8.frozen 0
      simp only [List.getElem?_toArray, List.getElem?_cons_zero] at e1 e2 e3
      obtain ⟨g1, g2, g3, g4, g5, g6, g7'⟩ := hfin _ rfl
      have hst : kfold ((xs ++ [y]).map NV.t) = (q + 1, tl ++ [(q : Int) + 1]) := by
        rw [HS.out.2.1]; unfold kstep
        rw [show y.t.d = y.d from rfl, HS.out.2.2, show y.t.v = y.v from rfl, show y.t.k = y.k from rfl, ← HS.out.1, hs2]; rfl
      have HF := Lib.hid (And.intro (nk8.trans (NK.of g3)) (And.intro (kp8.trans (kpk_lst g2)) (And.intro g1 (And.intro (show Blk _ (w.heap.size + 2) 3 #[.int .i64 ((q + 1 : Nat) : Int)] from (g4 (w.heap.size + 2) (by omega) (by omega)).trans ka8) (And.intro (show Below w.heap.size w _ from ⟨g5.trans hb8w.os, g6.trans hb8w.tape, g7'.trans hb8w.output, Nat.le_trans hb8w.size g2.1, fun b hb => (g4 b (by omega) (by omega)).trans (hb8w.block b hb)⟩) (show W5.heap.size ≤ _ from Nat.le_trans ss8 g2.1))))))
      have HST := Lib.hid hst
      clear hfin g1 g2 g3 g4 g5 g6 g7' h1 h8 hn nk8 kp8 ll8 ka8 hb8w ss8 hst h5s
      gi_wp2_with (gi_at_builtin; refine wpListIn_append_run (fun _ => trivial) rfl (.tmp 17) (.tmp 19) 29 rfl _ _ _ W9 rfl rfl hrun ?_)
      refine ⟨HF.out.1, HF.out.2.1, ?_⟩
      dsimp only
      rw [HST.out]
      exact ⟨HF.out.2.2.1, HF.out.2.2.2.1, HF.out.2.2.2.2.1, HF.out.2.2.2.2.2⟩
    · have hst : kfold ((xs ++ [y]).map NV.t) = (q + 1, tl) := by
        rw [HS.out.2.1]; unfold kstep
        rw [show y.t.d = y.d from rfl, HS.out.2.2, show y.t.v = y.v from rfl, show y.t.k = y.k from rfl, ← HS.out.1, hs2]; rfl
      have HF := Lib.hid (And.intro nk8 (And.intro kp8 (And.intro ll8 (And.intro (show Blk W8 (w.heap.size + 2) 3 #[.int .i64 ((q + 1 : Nat) : Int)] from ka8) (And.intro hb8w ss8)))))
      have HST := Lib.hid hst
      clear nk8 kp8 ll8 ka8 hb8w ss8 hst h5s
      gi_wp2_with fail
      refine ⟨HF.out.1, HF.out.2.1, ?_⟩
      dsimp only
      rw [HST.out]
      exact ⟨HF.out.2.2.1, HF.out.2.2.2.1, HF.out.2.2.2.2.1, HF.out.2.2.2.2.2⟩
  case done =>
    rintro Dm xs Wx hD hS hI hDd
    have hk : kfold (xs.map NV.t) = kidsM v k := by rw [hS]; rfl
    rw [hk] at hI
    obtain ⟨q, tl, hqt⟩ : ∃ q tl, kidsM v k = (q, tl) := ⟨_, _, rfl⟩
    rw [hqt] at hI
    obtain ⟨n, hn⟩ : ∃ n, n = tl.length := ⟨_, rfl⟩
    obtain ⟨Aq, cq, h1, h2⟩ := hI.1
    dsimp only at h1 h2
    rw [← hn] at h1
    have HQ := Lib.hid (And.intro hqt hn)
    have hMd : MarksAt Wx (w.heap.size + 3) [Dm] := (MarksAt.nil Wx _).cons (by omega) hDd (fun E hE => by simp at hE)
    clear hk hqt hS hDd hn
    gi_wp2_with fail
    refine (wpIn_wide).2 ?_
    refine wp_region_invT (F := ?FK) (V := VKr Aq n cq q) (dead := fun _ => none) (T := fun _ _ => True) (C := fun u => ((Blk u (w.heap.size + 1) 29 #[.slice Aq n cq] ∧ Blk u (w.heap.size + 2) 3 #[.int .i64 q]) ∧ EndsAt u (w.heap.size + 5) Aq cq tl ∧ Below w.heap.size w u ∧ MarksAt u (w.heap.size + 3) [Dm])) (E := fun _ _ _ => True) (by kernel_rfl) (by kernel_rfl) (by kernel_rfl) (fun x => ?hFK) ?hmonoK ?hTmK ?hTK ?hCK ?stepK ?finK
    case hFK => simp only [mkA, Act.put, List.setIfInBounds_toArray, List.set_cons_succ, List.set_cons_zero, Nat.reduceAdd, Nat.zero_add]; first | with_reducible rfl | rfl
    case hmonoK => exact fun q' i v u u' he hik hwt hdd hv => VKr.mono hv
    case hTmK => exact fun _ _ _ _ _ _ _ _ => trivial
    case hTK => exact fun j => trivial
    case hCK => exact ⟨⟨h1, hI.2.1⟩, h2, hI.2.2.1.drew, hMd⟩
    case stepK =>
      refine AllOps.cons (fun x u hC hT hp K hK => ?_) ?_
      · clear hp hT
        have cc := hC.1.1.cell 0
        simp only [List.getElem?_toArray, List.getElem?_cons_zero] at cc
        go_simp
        refine hK _ _ _ hC trivial (by exact rfl) ?_
        first | (simp only [Act.put, List.setIfInBounds_toArray, List.set_cons_succ, List.set_cons_zero]; done) | simp [Act.put]
      refine AllOps.cons (fun x u hC hT hp K hK => ?_) ?_
      · clear hp hT
        have cc := hC.1.2.cell 0
        simp only [List.getElem?_toArray, List.getElem?_cons_zero] at cc
        go_simp
        refine hK _ _ _ hC trivial (by exact rfl) ?_
        first | (simp only [Act.put, List.setIfInBounds_toArray, List.set_cons_succ, List.set_cons_zero]; done) | simp [Act.put]
      refine AllOps.cons (fun x u hC hT hp K hK => ?_) ?_
      · simp [KnownTill, Region.binds, VKr] at hp
        clear hT
        have kk := hC.1.1
        have cc := kk.cell 0
        have ff := kk.frozen 0
        simp only [List.getElem?_toArray, List.getElem?_cons_zero] at cc
        have hn2 : (Blk (u.setCell ⟨w.heap.size + 1, 0, none⟩ (.slice Aq n cq)) (w.heap.size + 1) 29 #[.slice Aq n cq] ∧ Blk (u.setCell ⟨w.heap.size + 1, 0, none⟩ (.slice Aq n cq)) (w.heap.size + 2) 3 #[.int .i64 q]) ∧ EndsAt (u.setCell ⟨w.heap.size + 1, 0, none⟩ (.slice Aq n cq)) (w.heap.size + 5) Aq cq tl ∧ Below w.heap.size w (u.setCell ⟨w.heap.size + 1, 0, none⟩ (.slice Aq n cq)) ∧ MarksAt (u.setCell ⟨w.heap.size + 1, 0, none⟩ (.slice Aq n cq)) (w.heap.size + 3) [Dm] := ⟨⟨(by simpa using kk.set_ 0 (.slice Aq n cq)), (hC.1.2.far (p := ⟨w.heap.size + 1, 0, none⟩) (by dsimp only; omega) (.slice Aq n cq))⟩, hC.2.1.keptC (fun r hr o h3 _ => (Below.heap_setCell u _ _ r (by have := (hC.2.1.lt' r hr).1; dsimp only; omega)).trans h3), hC.2.2.1.setCell (by dsimp only; omega) _, hC.2.2.2.keep (KeepsOthers.setCell _ _ _)⟩
        clear hC kk
        go_simp
        refine hK undef _ _ hn2 trivial trivial ?_
        first | (simp only [Act.put, List.setIfInBounds_toArray, List.set_cons_succ, List.set_cons_zero, hp]; done) | simp [Act.put, hp]
      refine AllOps.cons (fun x u hC hT hp K hK => ?_) ?_
      · simp [KnownTill, Region.binds, VKr] at hp
        clear hT
        have kk := hC.1.2
        have cc := kk.cell 0
        have ff := kk.frozen 0
        simp only [List.getElem?_toArray, List.getElem?_cons_zero] at cc
        have hn2 : (Blk (u.setCell ⟨w.heap.size + 2, 0, none⟩ (.int .i64 q)) (w.heap.size + 1) 29 #[.slice Aq n cq] ∧ Blk (u.setCell ⟨w.heap.size + 2, 0, none⟩ (.int .i64 q)) (w.heap.size + 2) 3 #[.int .i64 q]) ∧ EndsAt (u.setCell ⟨w.heap.size + 2, 0, none⟩ (.int .i64 q)) (w.heap.size + 5) Aq cq tl ∧ Below w.heap.size w (u.setCell ⟨w.heap.size + 2, 0, none⟩ (.int .i64 q)) ∧ MarksAt (u.setCell ⟨w.heap.size + 2, 0, none⟩ (.int .i64 q)) (w.heap.size + 3) [Dm] := ⟨⟨(hC.1.1.far (p := ⟨w.heap.size + 2, 0, none⟩) (by dsimp only; omega) (.int .i64 q)), (by simpa using kk.set_ 0 (.int .i64 q))⟩, hC.2.1.keptC (fun r hr o h3 _ => (Below.heap_setCell u _ _ r (by have := (hC.2.1.lt' r hr).1; dsimp only; omega)).trans h3), hC.2.2.1.setCell (by dsimp only; omega) _, hC.2.2.2.keep (KeepsOthers.setCell _ _ _)⟩
        clear hC kk
        go_simp
        refine hK undef _ _ hn2 trivial trivial ?_
        first | (simp only [Act.put, List.setIfInBounds_toArray, List.set_cons_succ, List.set_cons_zero, hp]; done) | simp [Act.put, hp]
      exact AllOps.nil
    case finK =>
      intro x u hC hV
      obtain ⟨⟨k1, k2⟩, k3, k4, k5⟩ := hC
      clear hV
      have z1 := taken_cell? k5 ((k1.cell 0).trans (by rfl))
      have z2 := taken_cell? k5 ((k2.cell 0).trans (by rfl))
      have HE := Lib.hid (And.intro k3 (And.intro k4 k5))
      clear k1 k2 k3 k4 k5
      gi_wp2_with fail
      refine leaves_marks [Dm] u HE.out.2.2 ⟨_, (by simp [results, Try.results13, go_sem, z1, z2]; try rfl), ?_⟩
      refine ⟨⟨Aq, cq, ?_, ?_⟩, HE.out.2.1.trans (taken_below fun E hE => by have := (HE.out.2.2.1 E hE).1; omega)⟩
      · rw [HQ.out.1]; dsimp only; rw [← HQ.out.2]
      · rw [HQ.out.1]; exact (HE.out.1.step (taken_step HE.out.2.2 (Nat.le_refl _))).less (by omega)
  case stop =>
    rintro Dm cd xs Wx hD hS hYx hDd
    exact hYx.elim
end Go.Proofs.Ytepcafkgpkbimaa
