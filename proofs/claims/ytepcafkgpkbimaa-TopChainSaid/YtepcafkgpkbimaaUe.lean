/- Layer 16: what a tree says. -/
import Derived.Test.YtepcafkgpkbimaaUd
namespace Go.Proofs.Ytepcafkgpkbimaa
open Go Go.RowKit Go.Shelf
attribute [local go_sem] Oper.semAt_some
set_option linter.unusedVariables false
set_option linter.unusedSimpArgs false

def votesL (v : Int) (k : Fo) : List Int := (nodesL 1 (.cons v k .nil)).map NT.v
def saysB (v : Int) (k : Fo) : Int := says3L (votesL v k)
/-- Not the list's cell, nor its row. -/
def OffL (cb : Nat) (k : Nat) (W : World) : Prop := k ≠ cb ∧ ∃ A n c, W.cell? ⟨cb, 0, none⟩ = some (.slice A n c) ∧ ∀ r, blk A = some r → k ≠ r
/-- The list. -/
def LstAt (B cb : Nat) (zs : List Int) (W : World) : Prop := ∃ A c, Blk W cb 29 #[.slice A zs.length c] ∧ EndsAt W B A c zs
theorem EndsAt.keptC {u u' : World} {B : Nat} {A : Option Addr} {c : Nat} {es : List Int} (h : EndsAt u B A c es) (hk : ∀ r, blk A = some r → ∀ o : Obj, u.heap[r]? = some o → o.isCells = true → u'.heap[r]? = some o) : EndsAt u' B A c es := by
  refine ⟨h.1, ?_⟩
  rcases h.2 with hn | ⟨g, cap, cur, e, hb, hgg, rest⟩
  · exact .inl hn
  · exact .inr ⟨g, cap, cur, e, hb, hk g (by cases e; rfl) _ hgg rfl, rest⟩
theorem EndsAt.step {u u' : World} {B B' : Nat} {A : Option Addr} {c : Nat} {es : List Int} (h : EndsAt u B A c es) (hs : Step B' u u') : EndsAt u' B A c es := h.keptC fun r _ o h1 h2 => hs.cel r o h1 h2
theorem LstAt.step {B B' cb : Nat} {zs : List Int} {W W' : World} (h : LstAt B cb zs W) (hs : Step B' W W') : LstAt B cb zs W' := by
  obtain ⟨A, c, h1, h2⟩ := h
  exact ⟨A, c, h1.step hs, h2.step hs⟩
theorem cell_step {B : Nat} {W W' : World} {p : Addr} {v : Value} (h : W.cell? p = some v) (hs : Step B W W') : W'.cell? p = some v := by
  have h1 := h
  unfold World.cell? at h
  rcases h2 : W.heap[p.block]? with _ | o
  · rw [h2] at h; simp at h
  · have h3 : o.isCells = true := by rw [h2] at h; cases o <;> simp at h; rfl
    rw [← h1]
    unfold World.cell?
    rw [hs.cel _ o h2 h3, h2]
theorem OffL.step {B cb k : Nat} {W W' : World} (h : OffL cb k W) (hs : Step B W W') : OffL cb k W' := by
  obtain ⟨h1, A, n, c, h2, h3⟩ := h
  exact ⟨h1, A, n, c, cell_step h2 hs, h3⟩
theorem LstAt.offNew {B cb k : Nat} {zs : List Int} {W : World} (h : LstAt B cb zs W) (hk : W.heap.size ≤ k) : OffL cb k W := by
  obtain ⟨A, c, h1, h2⟩ := h
  exact ⟨by have := h1.lt; omega, A, _, c, h1.cell 0, fun r hr => by have := (h2.lt' r hr).2; omega⟩
theorem LstAt.offOld {B cb k : Nat} {zs : List Int} {W : World} (h : LstAt B cb zs W) (hk : k < B) (hc : k ≠ cb) : OffL cb k W := by
  obtain ⟨A, c, h1, h2⟩ := h
  exact ⟨hc, A, _, c, h1.cell 0, fun r hr => by have := (h2.lt' r hr).1; omega⟩
/-- One more. -/
theorem LstAt.more {B cb : Nat} {zs : List Int} {W : World} (h : LstAt B cb zs W) (n : Nat) (hn : n = zs.length) (hl : n ≤ 1000000) (x : Int) (hB : B ≤ W.heap.size) (hcB : cb < B) :
    ∃ A c A2 c2 W8, Blk W cb 29 #[.slice A n c] ∧ (Builtin.append_ #[29, 29] 29 #[.slice A n c, .slice (some ⟨W.heap.size, 0, none⟩) 1 1]).run Try.prog (W.alloc (.cells #[.int .i64 x] 3)) = .ok (.slice A2 (n + 1) c2) W8 ∧
      Blk W8 cb 29 #[.slice A n c] ∧
      ∀ W9, W9 = W8.setCell ⟨cb, 0, none⟩ (.slice A2 (n + 1 : Nat) c2) → LstAt B cb (zs ++ [x]) W9 ∧ KpN (OffL cb) W W9 ∧ KeepsOthers W W9 ∧ (∀ b, b < B → b ≠ cb → W9.heap[b]? = W.heap[b]?) ∧ W9.os = W.os ∧ W9.tape = W.tape ∧ W9.output = W.output := by
  obtain ⟨A, c, h1, h2⟩ := h
  obtain ⟨W7, hW7⟩ : ∃ W7, W7 = W.alloc (.cells #[.int .i64 x] 3) := ⟨_, rfl⟩
  have hs7 : W7.heap.size = W.heap.size + 1 := by rw [hW7]; simp
  have st7 : Step W.heap.size W W7 := by rw [hW7]; exact Step.alloc (Nat.le_refl _) _
  have k7 : Blk W7 W.heap.size 3 #[.int .i64 x] := by rw [hW7]; exact Blk.new _ _ _
  have q7 := k7.cell 0
  simp only [List.getElem?_toArray, List.getElem?_cons_zero] at q7
  obtain ⟨A2, c2, W8, hrun, h8, hg8, hr8⟩ := ends_more (h2.step st7) n hn hl x W.heap.size (by omega) q7
  have hcb : Blk W8 cb 29 #[.slice A n c] := by
    rw [hn]
    exact (h1.step st7).kept hg8 (fun e => by have := (h2.lt' cb e.symm).1; omega)
  refine ⟨A, c, A2, c2, W8, by rw [hn]; exact h1, by rw [← hW7]; exact hrun, hcb, fun W9 h9 => ?_⟩
  have hblk : ∀ b : Nat, b < W.heap.size → b ≠ cb → (∀ r, blk A = some r → b ≠ r) → W9.heap[b]? = W.heap[b]? := fun b hb hc hr => by
    rw [h9]
    refine (Below.heap_setCell W8 _ _ b hc).trans ((hg8.block b (by omega) (fun e => hr b e.symm rfl)).trans (st7.bel.block b hb))
  have hsz : W.heap.size ≤ W9.heap.size := by rw [h9, World.size_setCell]; have := hg8.size; omega
  have h9c : Blk W9 cb 29 #[.slice A2 (n + 1) c2] := by rw [h9]; simpa using hcb.set_ 0 (.slice A2 (n + 1) c2)
  have hE9 : EndsAt W9 B A2 c2 (zs ++ [x]) := h8.keptC fun r hr o h3 _ => by
    rw [h9]
    exact (Below.heap_setCell W8 _ _ r (fun e => by have := (h8.lt' r hr).1; dsimp only at e; omega)).trans h3
  refine ⟨⟨A2, c2, by rw [List.length_append, List.length_singleton, ← hn]; exact h9c, hE9⟩, ⟨hsz, fun k hk ho => ?_⟩, ?_, ?_, ?_⟩
  · obtain ⟨o1, A', n', c', o2, o3⟩ := ho
    have e := h1.cell 0
    rw [o2] at e
    simp only [List.getElem?_toArray, List.getElem?_cons_zero, Option.some.injEq, Value.slice.injEq] at e
    obtain ⟨rfl, _, _⟩ := e
    have hkk := hblk k hk o1 o3
    refine ⟨⟨o1, A2, _, c2, h9c.cell 0, fun r hr => ?_⟩, fun o h3 _ => hkk.trans h3⟩
    rcases hr8 r hr with h4 | h4
    · exact o3 r h4
    · omega
  · refine ⟨hsz, fun k o ho hc => ?_⟩
    have hk := (Array.getElem?_eq_some_iff.1 ho).1
    refine (hblk k hk (fun e => ?_) (fun r hr e => ?_)).trans ho
    · subst e; unfold Blk at h1; rw [h1] at ho; cases ho; cases hc
    · subst e
      obtain ⟨cs, fz, h5⟩ := h2.kind k hr
      rw [h5] at ho; cases ho; cases hc
  · exact fun b hb hc => hblk b (by omega) hc (fun r hr => by have := (h2.lt' r hr).1; omega)
  · exact ⟨by rw [h9]; exact hg8.os.trans st7.bel.os, by rw [h9]; exact hg8.tape.trans st7.bel.tape, by rw [h9]; exact hg8.output.trans st7.bel.output⟩

set_option maxRecDepth 100000 in
set_option maxHeartbeats 2000000 in
theorem says_any (v : Int) (A : Option Addr) (k : Fo) (c : Nat) (w : World) (hm : k.len ≤ maxLen) (hfo : FoAt w w.heap.size k A) (hN : (nodesL 1 (.cons v k .nil)).length ≤ 1000000) :
    Calls Try.prog 12 #[.agg #[.int .i64 v, .slice A k.len c]] w fun e w' => e = .returned (.int .i64 (saysB v k)) ∧ Below w.heap.size w w' := by
  refine (callsIn_wide (n := 9)).1 ?_
  refine callsIn_of_wp_marks Try.func12 rfl trivial ?_ rfl
  simp only [Try.ntmps12, List.size_toArray, List.length_cons, List.length_nil, Nat.reduceAdd, Nat.reduceSub, Array.replicate_succ, Array.replicate_zero, List.push_toArray, List.append_toArray, List.nil_append, List.cons_append]
  obtain ⟨m, hmm⟩ : ∃ m, m = k.len := ⟨_, rfl⟩
  rw [← hmm]
  have HM := Lib.hid (And.intro hmm (And.intro hm (And.intro hfo hN)))
  clear hmm hm hfo hN
  obtain ⟨W2, hW2⟩ : ∃ W2, W2 = (w.alloc (.cells #[.int .i64 v, .slice A m c] 24)).alloc (.cells #[.slice none 0 0] 29) := ⟨_, rfl⟩
  have hs2 : W2.heap.size = w.heap.size + 2 := by rw [hW2]; simp
  have kt2 : Blk W2 w.heap.size 24 #[.int .i64 v, .slice A m c] := by rw [hW2]; exact (Blk.new _ _ _).alloc _
  have kl2 : Blk W2 (w.heap.size + 1) 29 #[.slice none 0 0] := by
    rw [hW2]
    have := Blk.new (w.alloc (.cells #[.int .i64 v, .slice A m c] 24)) 29 #[.slice none 0 0]
    rwa [World.size_alloc] at this
  have hb2 : Below w.heap.size w W2 := by rw [hW2]; exact bt (ba _ _) (ba _ _)
  have c0 := kt2.cell 0
  have c1 := kt2.cell 1
  simp only [List.getElem?_toArray, List.getElem?_cons_zero, List.getElem?_cons_succ] at c0 c1
  have HW2 := Lib.hid hW2
  rw [hW2] at c0 c1
  clear hW2
  gi_wp2_with fail
  rw [← HW2.out]
  clear c0 c1
  refine ⟨trivial, (nodes_in Fence.wide 8 trivial rfl v A m c 1 W2).mono ?_⟩
  rintro e W5 ⟨rfl, hW5⟩
  have h5s : W5.heap.size = W2.heap.size + 2 := by rw [hW5]; simp
  have hst5 : Step (w.heap.size + 2) W2 W5 := by rw [hW5]; exact (Step.alloc (by omega) _).trans (Step.alloc (by simp; omega) _)
  have ktb5 : Blk W5 W2.heap.size 24 #[.int .i64 v, .slice A m c] := by rw [hW5]; exact (Blk.new _ _ _).alloc _
  have kdb5 : Blk W5 (W2.heap.size + 1) 3 #[.int .i64 1] := by
    rw [hW5]
    have := Blk.new (W2.alloc (.cells #[.int .i64 v, .slice A m c] 24)) 3 #[.int .i64 1]
    rwa [World.size_alloc] at this
  have hl5 : LstAt (w.heap.size + 4) (w.heap.size + 1) [] W5 := ⟨none, 0, kl2.step hst5, EndsAt.nil _ _⟩
  have hb5 := hb2.trans (hst5.bel.mono (by omega))
  have hfo5 := HM.out.2.2.1.below hb5
  rw [hs2] at ktb5 kdb5 h5s
  clear hW5 kl2 hb2 kt2 hst5
  gi_wp2_with fail
  refine wpIn_rangeFunc_leaveN (F := Fence.wide) rfl (fun h => by cases h) (gf := 25) (lb := #[.pointer (some ⟨w.heap.size + 2 + 1, 0, none⟩), .pointer (some ⟨w.heap.size + 2, 0, none⟩)]) rfl trivial (enters_of Try.func25 (by kernel_rfl) rfl)
    (encs := encN) (fun _ => rfl) (KpN (OffL (w.heap.size + 1)))
    (fun xs Wx => LstAt (w.heap.size + 4) (w.heap.size + 1) (xs.map NV.v) Wx ∧ Below w.heap.size w Wx ∧ W5.heap.size ≤ Wx.heap.size)
    (fun cd xs Wx => False)
    (fun y Wx => FoAt Wx w.heap.size y.k y.A ∧ SubOk (k.cnt + 1) y)
    (fun xs => xs.map NV.t = nodesL 1 (.cons v k .nil)) (fun xs => xs.map NV.t <+: nodesL 1 (.cons v k .nil)) (nodesL 1 (.cons v k .nil)).length
    KpN.trans (fun Wx l' o o' hl ho hc => ⟨by rw [World.putObj_size]; exact Nat.le_refl _, fun k hk hO => ⟨hO.step (Step.put (B := W5.heap.size) hl ho hc), fun ob h1 h2 => (Step.put (B := W5.heap.size) hl ho hc).cel k ob h1 h2⟩⟩)
    (fun xs Wa Wb hi hs => ⟨hi.1.step hs, hi.2.1.trans (hs.bel.mono (by omega)), Nat.le_trans hi.2.2 hs.bel.size⟩)
    (fun cd xs Wa Wb hi hs => hi)
    ⟨hl5, hb5, Nat.le_refl _⟩
    ?iter (fun y a' Wx => ∃ t7, Blk Wx t7 24 #[.int .i64 y.v, .slice y.A y.k.len y.c] ∧ t7 < Wx.heap.size ∧ W5.heap.size ≤ t7 ∧ a' = { tmps := #[.agg #[.int .i64 v, .slice A m c], .pointer (some ⟨w.heap.size, 0, none⟩), .int .i64 0, .pointer (some ⟨w.heap.size + 1, 0, none⟩), undef, .pointer (some ⟨t7, 0, none⟩), .agg #[.int .i64 v, .slice A m c], .func (.func 25) #[] #[.pointer (some ⟨w.heap.size + 2 + 1, 0, none⟩), .pointer (some ⟨w.heap.size + 2, 0, none⟩)], .int .i64 y.d, y.val, undef, undef, undef, undef, undef, undef, undef], defers := [] })
    ?axput ?assign ?body ?done ?stop
  case axput =>
    rintro y a' Wx l' ob ob' ⟨t7, h1, h4, h5, rfl⟩ hl ho hc
    have hs : Step W5.heap.size Wx (Wx.putObj l' ob') := Step.put hl ho hc
    exact ⟨t7, h1.step hs, by rw [World.putObj_size]; exact h4, h5, rfl⟩
  case assign =>
    rintro lx xs y Wx K hi hpx hK
    simp only [encN, NV.val]
    gi_wp2_with fail
    have hsx : ∀ ob : Obj, Step W5.heap.size Wx (Wx.alloc ob) := fun ob => Step.alloc hi.2.2 ob
    refine hK _ _ (NK.of (KeepsOthers.alloc _ _)) ⟨(hsx _).bel.size, fun k hk hO => ⟨hO.step (hsx _), fun ob h1 h2 => (hsx _).cel k ob h1 h2⟩⟩ ⟨hi.1.step (hsx _), hi.2.1.trans ((hsx _).bel.mono (by omega)), by have := hi.2.2; simp; omega⟩ ⟨Wx.heap.size, Blk.new _ _ _, by simp, hi.2.2, ?_⟩
    rfl
  case iter =>
    intro lx W1x Z Yx hzNK hzStep hyStep hlx hW1s hst1 hI1 hz1 hyy
    have Hh : Host Fence.wide lx (W5.heap.size + 2) w.heap.size (nodesL 1 (.cons v k .nil)).length (k.cnt + 1) (fun xs Wx => (LstAt (w.heap.size + 4) (w.heap.size + 1) (xs.map NV.v) Wx ∧ Below w.heap.size w Wx ∧ W5.heap.size ≤ Wx.heap.size) ∧ Z Wx) Yx (OffL (w.heap.size + 1)) := {
      jStep := fun xs Wa Wb hi hs => ⟨⟨hi.1.1.step hs, hi.1.2.1.trans (hs.bel.mono (by omega)), Nat.le_trans hi.1.2.2 hs.bel.size⟩, hzStep _ _ hi.2 hs⟩
      yStep := hyStep
      oStep := fun k Wa Wb ho hs => ho.step hs
      oNew := fun s k Wa hi hk => hi.1.1.offNew hk
      oOld := fun s k Wa hi hk => hi.1.1.offOld (by omega) (by omega)
      yld := fun m pre' y Wa hi hfo hsub hl => YieldAt.anyDepth rfl m (YieldAt.mono (hyy pre' y Wa hi.1 hi.2 ⟨hfo, hsub⟩ hl) fun e We h => by
        rcases h with ⟨h1, h2, h3, h4, h5⟩ | h
        · exact .inl ⟨h1, ⟨h2, h3⟩, h4.1, h4.2, h5⟩
        · exact .inr h) }
    have kt1 := ktb5.step hst1
    rw [HM.out.1] at kt1
    refine (nodes1_any Fence.wide rfl trivial trivial rfl w.heap.size v k lx (W5.heap.size + 2) _ _ _ _ _ Hh 8 1 [] W1x (w.heap.size + 2) (w.heap.size + 2 + 1) c A hlx (by omega) (by omega) HM.out.2.1 (Nat.le_refl _) kt1 ((hl5.step hst1).offOld (by omega) (by omega)) (kdb5.step hst1) ((hl5.step hst1).offOld (by omega) (by omega)) (hfo5.step hst1) ⟨hI1, hz1⟩ (by simp)).mono ?_
    rintro e We ⟨hv, (⟨xs, h1, h2⟩ | ⟨xs, h1, h2⟩)⟩
    · exact ⟨hv, .inl ⟨xs, h1, by simpa using h2.1, h2.2⟩⟩
    · exact ⟨hv, .inr ⟨xs, h1, by simpa using h2⟩⟩
  case body =>
    rintro lx xs y a' Wx hlx _ hi ⟨t7, k7, l7, g7, rfl⟩ hxl
    have hle : xs.length ≤ 1000000 := by have := HM.out.2.2.2; omega
    obtain ⟨q, hq⟩ : ∃ q, q = (xs.map NV.v).length := ⟨_, rfl⟩
    obtain ⟨Aq, cq, A2, c2, W8, h1, hrun, h8, hfin⟩ := hi.1.more q hq (by rw [hq, List.length_map]; exact hle) y.v (by omega) (by omega)
    have e1 := h1.cell 0
    have e2 := k7.cell 0
    have e3 := h8.cell 0
    have f3 := h8.frozen 0
    simp only [List.getElem?_toArray, List.getElem?_cons_zero] at e1 e2 e3
    obtain ⟨g1, g2, g3, g4, g5, g6, g7'⟩ := hfin _ rfl
    have hmap : (xs ++ [y]).map NV.v = xs.map NV.v ++ [y.v] := by simp
    have hbF : Below w.heap.size w (W8.setCell ⟨w.heap.size + 1, 0, none⟩ (.slice A2 (q + 1 : Nat) c2)) := ⟨g5.trans hi.2.1.os, g6.trans hi.2.1.tape, g7'.trans hi.2.1.output, Nat.le_trans hi.2.1.size g2.1, fun b hb => (g4 b (by omega) (by omega)).trans (hi.2.1.block b hb)⟩
    have HF := Lib.hid (And.intro g1 (And.intro g2 (And.intro g3 (And.intro hbF (show W5.heap.size ≤ _ from Nat.le_trans hi.2.2 g2.1)))))
    rw [← hmap] at HF
    clear hfin g1 g2 g3 g4 g5 g6 g7' hbF hmap hi h1 h8 k7 l7 g7 hxl hle hq h5s
    gi_wp2_with (gi_at_builtin; refine wpListIn_append_run (fun _ => trivial) rfl (.tmp 10) (.tmp 13) 29 rfl _ _ _ W8 rfl rfl hrun ?_)
    exact ⟨NK.of HF.out.2.2.1, HF.out.2.1, HF.out.1, HF.out.2.2.2.1, HF.out.2.2.2.2⟩
  case done =>
    rintro Dm xs Wx hD hS hI hDd
    obtain ⟨Aq, cq, h1, h2⟩ := hI.1
    have e3 := h1.cell 0
    simp only [List.getElem?_toArray, List.getElem?_cons_zero] at e3
    have hzs : xs.map NV.v = votesL v k := by unfold votesL; rw [← hS, List.map_map]; rfl
    have hMd : MarksAt Wx (w.heap.size + 2) [Dm] := (MarksAt.nil Wx _).cons (by omega) hDd (fun E hE => by simp at hE)
    obtain ⟨q, hq⟩ : ∃ q, q = (xs.map NV.v).length := ⟨_, rfl⟩
    rw [← hq] at e3
    have hql : q ≤ 1000000 := by rw [hq, hzs]; unfold votesL; rw [List.length_map]; exact HM.out.2.2.2
    have hcall := says3_any Aq (xs.map NV.v) q cq (Lib.hid hq) hql Wx h2.nums
    rw [hzs] at hcall
    have HC := Lib.hid hcall
    have HE := Lib.hid (And.intro hI.2.1 hMd)
    clear hI hMd hS hDd h1 h2 hcall hzs hq hql h5s
    gi_wp2_with fail
    refine ⟨trivial, ((callsIn_wide).2 HC.out).mono ?_⟩
    rintro e W9 ⟨rfl, rfl⟩
    gi_wp2_with fail
    refine leaves_marks [Dm] Wx HE.out.2 ⟨_, results_tmp rfl _ _ _, ?_⟩
    exact ⟨rfl, HE.out.1.trans (taken_below fun E hE => by have := (HE.out.2.1 E hE).1; omega)⟩
  case stop =>
    rintro Dm cd xs Wx hD hS hYx hDd
    exact hYx.elim
end Go.Proofs.Ytepcafkgpkbimaa
