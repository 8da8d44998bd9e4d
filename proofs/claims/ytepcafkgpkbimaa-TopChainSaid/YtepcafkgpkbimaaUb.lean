/- Layer 16: the nodes of a tree, as they are yielded. -/
import Derived.Test.YtepcafkgpkbimaaUa
namespace Go.Proofs.Ytepcafkgpkbimaa
open Go Go.RowKit Go.Shelf
attribute [local go_sem] Oper.semAt_some
set_option linter.unusedVariables false
set_option linter.unusedSimpArgs false

/-- What one who ranges over the nodes owes. -/
structure Host (F : Fence) (l B Bt N M : Nat) (J Y : List NV → World → Prop) (Off : Nat → World → Prop) : Prop where
  jStep : ∀ s W W', J s W → Step B W W' → J s W'
  yStep : ∀ s W W', Y s W → Step B W W' → Y s W'
  oStep : ∀ k W W', Off k W → Step B W W' → Off k W'
  oNew : ∀ s k W, J s W → W.heap.size ≤ k → Off k W
  oOld : ∀ s k W, J s W → k < Bt → Off k W
  yld : ∀ m pre x W, J pre W → FoAt W Bt x.k x.A → SubOk M x → pre.length < N → YieldAt F m Try.prog l (encN x) W fun e W' =>
    (e = .returned (.bool true) ∧ J (pre ++ [x]) W' ∧ W.heap.size ≤ W'.heap.size ∧ (∀ k, k < W.heap.size → Off k W → Off k W' ∧ ∀ o : Obj, W.heap[k]? = some o → o.isCells = true → W'.heap[k]? = some o) ∧ NK B W W') ∨
    (e = .returned (.bool false) ∧ Y (pre ++ [x]) W' ∧ NK B W W')
/-- What the iterator does for a tree of this vote and these kids. -/
def NodesOk (F : Fence) (Bt : Nat) (v : Int) (k : Fo) : Prop :=
  ∀ (l B N M : Nat) (J Y : List NV → World → Prop) (Off : Nat → World → Prop), Host F l B Bt N M J Y Off →
  ∀ (n : Nat) (d : Int) (pre : List NV) (W : World) (tb db c : Nat) (A : Option Addr), l < B → B ≤ W.heap.size → Bt ≤ B → k.len ≤ maxLen → k.cnt + 1 ≤ M → Blk W tb 24 #[.int .i64 v, .slice A k.len c] → Off tb W → Blk W db 3 #[.int .i64 d] → Off db W →
  FoAt W Bt k A → J pre W → pre.length + (nodesL d (.cons v k .nil)).length ≤ N →
  CallsIn F n Try.prog 25 #[.func (.yield l) #[] #[], .pointer (some ⟨db, 0, none⟩), .pointer (some ⟨tb, 0, none⟩)] W fun e W' =>
    (∃ u, e = .returned u) ∧ ((∃ xs : List NV, xs.map NV.t = nodesL d (.cons v k .nil) ∧ J (pre ++ xs) W') ∨ (∃ xs : List NV, xs.map NV.t <+: nodesL d (.cons v k .nil) ∧ Y (pre ++ xs) W'))
def AllOk (F : Fence) (Bt : Nat) : Fo → Prop
  | .nil => True
  | .cons v k r => NodesOk F Bt v k ∧ AllOk F Bt r
theorem RoundIn.anyDepth {F : Fence} (hd : F.depth = none) {m m' : Nat} {P : Program} {l : Nat} {f : FuncId} {tmps : Array Value} {assign body : Code} {w : World} {R : Ending → World → Prop}
    (h : RoundIn F m P l f tmps assign body w R) : RoundIn F m' P l f tmps assign body w R := ⟨h.1, fun c cs _ => h.2 c cs (fun d h => by rw [hd] at h; cases h)⟩
theorem YieldAt.anyDepth {F : Fence} (hd : F.depth = none) {m : Nat} (m' : Nat) {P : Program} {l : Nat} {args : Array Value} {W : World} {R : Ending → World → Prop} (h : YieldAt F m P l args W R) : YieldAt F m' P l args W R := by
  obtain ⟨fn, tmps, assign, body, hy, hR⟩ := h
  exact ⟨fn, tmps, assign, body, hy, RoundIn.anyDepth hd hR⟩
theorem room_of_none {F : Fence} (hd : F.depth = none) (k : Nat) : F.room k := fun d h => by rw [hd] at h; cases h
theorem Blk.keptC {W W' : World} {g : Nat} {t : TypeId} {cs : Array Value} (h : Blk W g t cs) (hk : ∀ o : Obj, W.heap[g]? = some o → o.isCells = true → W'.heap[g]? = some o) : Blk W' g t cs := hk _ h rfl
theorem Blk.step {B : Nat} {W W' : World} {g : Nat} {t : TypeId} {cs : Array Value} (h : Blk W g t cs) (hs : Step B W W') : Blk W' g t cs := hs.cel _ _ h rfl
theorem taken_step {B lo : Nat} {W : World} {Ds : List Nat} (h : MarksAt W lo Ds) (hB : B ≤ lo) : Step B W (taken W Ds) :=
  ⟨taken_below fun D hD => by have := (h.1 D hD).1; omega, fun k o ho hc => taken_cells h ho hc⟩

theorem MarksAt.step {B lo : Nat} {W W' : World} {Ds : List Nat} (h : MarksAt W lo Ds) (hl : ∀ D ∈ Ds, D < B) (hs : Step B W W') : MarksAt W' lo Ds := ⟨fun D hD => ⟨(h.1 D hD).1, (hs.bel.block D (hl D hD)).trans (h.1 D hD).2⟩, h.2⟩
theorem MarksAt.nk {B lo : Nat} {W W' : World} {Ds : List Nat} (h : MarksAt W lo Ds) (hl : B ≤ lo) (hs : NK B W W') : MarksAt W' lo Ds := ⟨fun D hD => ⟨(h.1 D hD).1, hs D _ (by have := (h.1 D hD).1; omega) (h.1 D hD).2 rfl⟩, h.2⟩
/-- What a round keeps. -/
def KpN (Off : Nat → World → Prop) (W W' : World) : Prop := W.heap.size ≤ W'.heap.size ∧ ∀ k, k < W.heap.size → Off k W → Off k W' ∧ ∀ o : Obj, W.heap[k]? = some o → o.isCells = true → W'.heap[k]? = some o
theorem KpN.trans {Off : Nat → World → Prop} {A C D : World} (h : KpN Off A C) (h' : KpN Off C D) : KpN Off A D :=
  ⟨Nat.le_trans h.1 h'.1, fun k hk ho => ⟨(h'.2 k (Nat.lt_of_lt_of_le hk h.1) (h.2 k hk ho).1).1, fun o h1 h2 => (h'.2 k (Nat.lt_of_lt_of_le hk h.1) (h.2 k hk ho).1).2 o ((h.2 k hk ho).2 o h1 h2) h2⟩⟩
theorem Host.kstep {F : Fence} {l B Bt N M : Nat} {J Y : List NV → World → Prop} {Off : Nat → World → Prop} (H : Host F l B Bt N M J Y Off) {W W' : World} (hs : Step B W W') : KpN Off W W' :=
  ⟨hs.bel.size, fun k _ ho => ⟨H.oStep k _ _ ho hs, fun o h1 h2 => hs.cel k o h1 h2⟩⟩
theorem map_add0 (A : Option Addr) : A.map (fun a => a.add 0) = A := by
  cases A with
  | none => rfl
  | some a => cases a; simp [Addr.add]
/-- The loop's frame. -/
def NFrame (l tb db yb : Nat) (A : Option Addr) (n c i : Nat) (Ds : List Nat) (a : Act) : Prop :=
  ∃ u4 u5 u6 u7 u8 u9 u10 u11 u12 u13 u17 u18 u19 u20 u21 u22 u23 u24 u25 u26 u27 u28 u29 u30 u31 : Value, a = { tmps := #[.func (.yield l) #[] #[], .pointer (some ⟨db, 0, none⟩), .pointer (some ⟨tb, 0, none⟩), .pointer (some ⟨yb, 0, none⟩), u4, u5, u6, u7, u8, u9, u10, u11, u12, u13, .slice A n c, .int .i64 n, .int .i64 i, u17, u18, u19, u20, u21, u22, u23, u24, u25, u26, u27, u28, u29, u30, u31], defers := mk Ds }

set_option maxRecDepth 100000 in
set_option maxHeartbeats 2000000 in
theorem nodes1_tree (F : Fence) (hd : F.depth = none) (hf0 : F.fn 20) (hf1 : F.fn 25) (hround : F.round = none) (Bt : Nat) (v : Int) (k : Fo) (hall : AllOk F Bt k) : NodesOk F Bt v k := by
  intro l B N M J Y Off H n d pre W tb db c A hlB hBW hBtB hkm hkc ktb otb kdb odb hfo hJ hN
  refine callsIn_of_wp_marks Try.func25 rfl hf1 ?_ hround
  simp only [Try.ntmps25, List.size_toArray, List.length_cons, List.length_nil, Nat.reduceAdd, Nat.reduceSub, Array.replicate_succ, Array.replicate_zero, List.push_toArray, List.append_toArray, List.nil_append, List.cons_append]
  obtain ⟨x, hx⟩ : ∃ x : NV, x = ⟨d, v, A, c, k⟩ := ⟨_, rfl⟩
  obtain ⟨W1, hW1⟩ : ∃ W1, W1 = W.alloc (.cells #[.func (.yield l) #[] #[]] 65) := ⟨_, rfl⟩
  have hst : Step B W W1 := by rw [hW1]; exact Step.alloc hBW _
  have kyb : Blk W1 W.heap.size 65 #[.func (.yield l) #[] #[]] := by rw [hW1]; exact Blk.new _ _ _
  have oyb : Off W.heap.size W1 := H.oStep _ _ _ (H.oNew _ _ _ hJ (Nat.le_refl _)) hst
  have hlt : W1.heap.size = W.heap.size + 1 := by rw [hW1]; simp
  obtain ⟨fn, tmps, assign, body, hy, hR⟩ := H.yld (n - 1) pre x W1 (H.jStep _ _ _ hJ hst) (by rw [hx]; exact hfo.step hst) (by rw [hx]; exact ⟨hkm, hkc⟩) (by simp [nodesL] at hN; omega)
  have hen : encN x = #[.int .i64 d, .agg #[.int .i64 v, .slice A k.len c]] := by rw [hx]; rfl
  rw [hen] at hy
  have ktb1 := ktb.step hst
  have kdb1 := kdb.step hst
  have otb1 := H.oStep _ _ _ otb hst
  have odb1 := H.oStep _ _ _ odb hst
  have y0 := kyb.cell 0
  have t0 := ktb1.cell 0
  have t1 := ktb1.cell 1
  have e0 := kdb1.cell 0
  simp only [List.getElem?_toArray, List.getElem?_cons_zero, List.getElem?_cons_succ] at y0 t0 t1 e0
  have HA := Lib.hid (And.intro hJ (And.intro hfo (And.intro hN (And.intro hkm hall))))
  have ltb := ktb1.lt
  have ldb := kdb1.lt
  clear hJ hfo hN hkm hall ktb otb kdb odb hen
  have hxt : x.t = ⟨d, v, k⟩ := by rw [hx]; rfl
  clear hx
  have HW1 := Lib.hid hW1
  rw [hW1] at y0 t0 t1 e0 hy hR
  clear hW1
  gi_wp2
  refine hR.mono ?_
  clear hR hy y0 t0 t1 e0
  rintro e W2 (⟨rfl, hJ2, hsz2, hkp2, hnk2⟩ | ⟨rfl, hY2, hnk2⟩)
  case inr =>
    gi_wp2_with fail
    refine leaves_marks [] W2 (MarksAt.nil _ 0) ⟨_, results_none rfl _ _ _, ?_⟩
    exact ⟨⟨_, rfl⟩, .inr ⟨[x], by simp [nodesL, hxt], hY2⟩⟩
  rw [← HW1.out] at hsz2 hkp2 hnk2
  have kyb2 := kyb.keptC (hkp2 _ kyb.lt oyb).2
  have oyb2 := (hkp2 _ kyb.lt oyb).1
  have ktb2 := ktb1.keptC (hkp2 _ ltb otb1).2
  have otb2 := (hkp2 _ ltb otb1).1
  have kdb2 := kdb1.keptC (hkp2 _ ldb odb1).2
  have odb2 := (hkp2 _ ldb odb1).1
  have hJ1 := H.jStep _ _ _ HA.out.1 hst
  have hfo2 : FoAt W2 Bt k A := (HA.out.2.1.step hst).keep fun b hb o ho hc => (hkp2 b (by omega) (H.oOld _ _ _ hJ1 hb)).2 o ho hc
  have t1 := ktb2.cell 1
  simp only [List.getElem?_toArray, List.getElem?_cons_zero, List.getElem?_cons_succ] at t1
  have HI := Lib.hid (And.intro hJ2 (And.intro hfo2 (And.intro kyb2 (And.intro oyb2 (And.intro kdb2 odb2)))))
  have HB2 := Lib.hid (show B ≤ W2.heap.size by omega)
  clear hJ1 hfo2 kyb2 oyb2 kdb2 odb2 hkp2 hnk2 hJ2 ktb1 kdb1 otb1 odb1 ktb2 otb2 ltb ldb kyb oyb hst
  obtain ⟨m, hm⟩ : ∃ m, m = k.len := ⟨_, rfl⟩
  rw [← hm] at t1
  have Hm := Lib.hid hm
  clear hm
  obtain ⟨b0, o0, hA0⟩ : ∃ b0 o0, Hid (0 < k.len → A = some ⟨b0, o0, none⟩) := by
    have h := HI.out.2.1
    cases k with
    | nil => exact ⟨0, 0, Lib.hid (fun h => by simp [Fo.len] at h)⟩
    | cons v0 k0 r0 =>
      obtain ⟨b, o, _, _, e, _⟩ := h
      exact ⟨b, o, Lib.hid (fun _ => e)⟩
  gi_wp2_with fail
  refine wpIn_loop (fun a Wr => ∃ (i : Nat) (r : Fo) (ys : List NV) (Ds : List Nat), i + r.len = m ∧ FoAt Wr Bt r (some ⟨b0, o0 + i * 2, none⟩) ∧ AllOk F Bt r ∧ r.cnt ≤ k.cnt ∧ Hid (ys.map NV.t ++ nodesL (wrap64 (d + 1)) r = nodesL (wrap64 (d + 1)) k) ∧
      J (pre ++ x :: ys) Wr ∧ Blk Wr W.heap.size 65 #[.func (.yield l) #[] #[]] ∧ Off W.heap.size Wr ∧ Blk Wr db 3 #[.int .i64 d] ∧ Off db Wr ∧ B ≤ Wr.heap.size ∧ NFrame l tb db W.heap.size A m c i Ds a ∧ MarksAt Wr B Ds)
    (fun a _ => m - (intOf (a.tmps.getD 16 undef)).toNat) ?h0 ?round
  case h0 => exact ⟨0, k, [], [], by rw [Hm.out]; omega, by
    have h := HI.out.2.1
    cases k with
    | nil => trivial
    | cons v0 k0 r0 => rw [hA0.out (by simp [Fo.len])] at h; simpa using h, HA.out.2.2.2.2, Nat.le_refl _, Lib.hid (by simp), HI.out.1, HI.out.2.2.1, HI.out.2.2.2.1, HI.out.2.2.2.2.1, HI.out.2.2.2.2.2, HB2.out, ⟨_, _, _, _, _, _, _, _, _, _, _, _, _, _, _, _, _, _, _, _, _, _, _, _, _, rfl⟩, MarksAt.nil _ _⟩
  case round =>
    clear t1 HI
    rintro a Wr ⟨i, r, ys, Ds, hir, hfr, har, hrc, hys, hJr, kyb, oyb, kdb, odb, hBr, ⟨u4, u5, u6, u7, u8, u9, u10, u11, u12, u13, u17, u18, u19, u20, u21, u22, u23, u24, u25, u26, u27, u28, u29, u30, u31, rfl⟩, hMk⟩
    cases r with
    | nil =>
      simp only [Fo.len, Nat.add_zero] at hir
      subst hir
      have hno : ¬ (i : Int) < (i : Int) := by omega
      have HF := Lib.hid (And.intro hJr (And.intro hMk hBr))
      clear hJr hMk kyb oyb kdb odb hfr
      gi_wp2_with fail
      refine leaves_marks Ds Wr HF.out.2.1 ⟨_, results_none rfl _ _ _, ?_⟩
      refine ⟨⟨_, rfl⟩, .inl ⟨x :: ys, ?_, H.jStep _ _ _ HF.out.1 (taken_step HF.out.2.1 (Nat.le_refl _))⟩⟩
      have h := hys.out
      simp only [nodesL, List.append_nil] at h
      simp [nodesL, hxt, h]
    | cons v2 k2 r2 =>
      obtain ⟨b, o, A2, c2, hAe, hbB, q0, q1, hk2m, hf2, hfr2⟩ := hfr
      obtain ⟨rfl, rfl⟩ : b0 = b ∧ o0 + i * 2 = o := by cases hAe; exact ⟨rfl, rfl⟩
      obtain rfl : A = some ⟨b0, o0, none⟩ := hA0.out (by rw [← Hm.out]; simp only [Fo.len] at hir; omega)
      obtain ⟨m2, hm2⟩ : ∃ m2, m2 = k2.len := ⟨_, rfl⟩
      rw [← hm2] at q1
      have him : i < m := by simp only [Fo.len] at hir; omega
      have himI : (i : Int) < (m : Int) := by omega
      have d0 := kdb.cell 0
      simp only [List.getElem?_toArray, List.getElem?_cons_zero] at d0
      obtain ⟨W3, hW3⟩ : ∃ W3, W3 = Wr.alloc (.cells #[.int .i64 v2, .slice A2 m2 c2] 24) := ⟨_, rfl⟩
      have hst3 : Step B Wr W3 := by rw [hW3]; exact Step.alloc hBr _
      have k30 : Blk W3 Wr.heap.size 24 #[.int .i64 v2, .slice A2 m2 c2] := by rw [hW3]; exact Blk.new _ _ _
      have e3 := (kdb.step hst3).cell 0
      have e30 := k30.cell 0
      have e31 := k30.cell 1
      simp only [List.getElem?_toArray, List.getElem?_cons_zero, List.getElem?_cons_succ] at e3 e30 e31
      rw [hW3] at e3 e30 e31
      have HR := Lib.hid (And.intro hJr (And.intro hf2 (And.intro hfr2 (And.intro kyb (And.intro oyb (And.intro kdb (And.intro odb (And.intro hMk (And.intro hBr (And.intro hst3 (And.intro hm2 (And.intro hk2m (And.intro hW3 (And.intro har hir))))))))))))))
      clear hJr hf2 hfr2 kyb oyb kdb odb hMk hBr hst3 hm2 hk2m har hir k30 hW3 him hAe hbB
      gi_wp2_with fail
      refine (nodes_in F (n - 1) hf0 hround v2 A2 m2 c2 _ _).mono ?_
      rintro e W5 ⟨rfl, hW5⟩
      rw [← HR.out.2.2.2.2.2.2.2.2.2.2.2.2.1] at hW5
      obtain ⟨hJr, hf2, hfr2, kyb, oyb, kdb, odb, hMk, hBr, hst3, hm2, hk2m, hW3, har, hir⟩ := HR.out
      have h3s : W3.heap.size = Wr.heap.size + 1 := by rw [hW3]; simp
      have hB3 : B ≤ W3.heap.size := by omega
      have h5s : W5.heap.size = W3.heap.size + 2 := by rw [hW5]; simp
      have hst5 : Step B Wr W5 := by rw [hW5]; exact hst3.trans ((Step.alloc hB3 _).trans (Step.alloc (by simp; omega) _))
      have ktb5 : Blk W5 W3.heap.size 24 #[.int .i64 v2, .slice A2 m2 c2] := by rw [hW5]; exact (Blk.new _ _ _).alloc _
      have kdb5 : Blk W5 (W3.heap.size + 1) 3 #[.int .i64 (wrap64 (d + 1))] := by
        rw [hW5]
        have := Blk.new (W3.alloc (.cells #[.int .i64 v2, .slice A2 m2 c2] 24)) 3 #[.int .i64 (wrap64 (d + 1))]
        rwa [World.size_alloc] at this
      have otb5 : Off W3.heap.size W5 := H.oStep _ _ _ (H.oNew _ _ _ hJr (by omega)) hst5
      have odb5 : Off (W3.heap.size + 1) W5 := H.oStep _ _ _ (H.oNew _ _ _ hJr (by omega)) hst5
      have hDs : ∀ D ∈ Ds, D < Wr.heap.size := fun D hD => (Array.getElem?_eq_some_iff.1 (hMk.1 D hD).2).1
      have hMk5 : MarksAt W5 B Ds := hMk.step hDs (by rw [hW5, hW3]; exact (Step.alloc (Nat.le_refl _) _).trans ((Step.alloc (by simp) _).trans (Step.alloc (by simp; omega) _)))
      have hB5 : B ≤ W5.heap.size := by omega
      have hlen := congrArg List.length hys.out
      simp only [List.length_append, List.length_map, nodesL, List.length_cons] at hlen
      have hN2 : pre.length + 1 + (nodesL (wrap64 (d + 1)) k).length ≤ N := by have := HA.out.2.2.1; simp only [nodesL, List.length_cons, List.append_nil] at this; omega
      have HX := Lib.hid (And.intro hm2 (And.intro hW3 hW5))
      clear hm2 hW3 hW5 HR
      gi_wp2_with fail
      refine wpIn_rangeFunc_leaveN hround (fun h => by rw [hd] at h; cases h) (gf := 25) (lb := #[.pointer (some ⟨W3.heap.size + 1, 0, none⟩), .pointer (some ⟨W3.heap.size, 0, none⟩)]) ?hgv hf1 (enters_of Try.func25 (by kernel_rfl) rfl)
        (encs := encN) (fun _ => rfl) (KpN Off)
        (fun xs Wx => J (pre ++ x :: ys ++ xs) Wx ∧ Blk Wx W.heap.size 65 #[.func (.yield l) #[] #[]] ∧ Off W.heap.size Wx ∧ Blk Wx db 3 #[.int .i64 d] ∧ Off db Wx ∧ MarksAt Wx B Ds ∧ FoAt Wx Bt r2 (some ⟨b0, o0 + i * 2 + 2, none⟩) ∧ W5.heap.size ≤ Wx.heap.size)
        (fun cd xs Wx => cd = .ret ∧ Y (pre ++ x :: ys ++ xs) Wx ∧ MarksAt Wx B Ds)
        (fun y Wx => FoAt Wx Bt y.k y.A ∧ SubOk M y)
        (fun xs => xs.map NV.t = nodesL (wrap64 (d + 1)) (.cons v2 k2 .nil)) (fun xs => xs.map NV.t <+: nodesL (wrap64 (d + 1)) (.cons v2 k2 .nil)) (N - (pre.length + 1 + ys.length))
        KpN.trans (fun Wx l' o o' hl ho hc => H.kstep (Step.put (by omega) ho hc))
        (fun xs Wa Wb hi hs => ⟨H.jStep _ _ _ hi.1 (hs.less hB5), hi.2.1.step hs, H.oStep _ _ _ hi.2.2.1 (hs.less hB5), hi.2.2.2.1.step hs, H.oStep _ _ _ hi.2.2.2.2.1 (hs.less hB5), hi.2.2.2.2.2.1.step (fun D hD => by have := hDs D hD; omega) hs, hi.2.2.2.2.2.2.1.step hs, Nat.le_trans hi.2.2.2.2.2.2.2 hs.bel.size⟩)
        (fun cd xs Wa Wb hi hs => ⟨hi.1, H.yStep _ _ _ hi.2.1 (hs.less hB5), hi.2.2.step (fun D hD => by have := hDs D hD; omega) hs⟩)
        ⟨by simpa using H.jStep _ _ _ hJr hst5, kyb.step hst5, H.oStep _ _ _ oyb hst5, kdb.step hst5, H.oStep _ _ _ odb hst5, hMk5, hfr2.step hst5, Nat.le_refl _⟩
        ?iter (fun y a' Wx => ∃ t7, Blk Wx t7 24 #[.int .i64 y.v, .slice y.A y.k.len y.c] ∧ Off t7 Wx ∧ (FoAt Wx Bt y.k y.A ∧ SubOk M y) ∧ t7 < Wx.heap.size ∧ a' = { tmps := #[.func (.yield l) #[] #[], .pointer (some ⟨db, 0, none⟩), .pointer (some ⟨tb, 0, none⟩), .pointer (some ⟨W.heap.size, 0, none⟩), u4, .pointer (some ⟨Wr.heap.size, 0, none⟩), .int .i64 y.d, .pointer (some ⟨t7, 0, none⟩), u8, u9, u10, u11, u12, u13, .slice (some ⟨b0, o0, none⟩) m c, .int .i64 m, .int .i64 i, .bool true, .pointer (some ⟨b0, o0 + i * 2, none⟩), .agg #[.int .i64 v2, .slice A2 m2 c2], .agg #[.int .i64 v2, .slice A2 m2 c2], .int .i64 d, .int .i64 (wrap64 (d + 1)), .func (.func 25) #[] #[.pointer (some ⟨Wr.heap.size + 1 + 1, 0, none⟩), .pointer (some ⟨Wr.heap.size + 1, 0, none⟩)], .int .i64 y.d, y.val, u26, u27, u28, u29, u30, u31], defers := [] })
        ?axput ?assign ?body ?done ?stop
      case hgv => rw [h3s]; rfl
      case axput =>
        rintro y a' Wx l' ob ob' ⟨t7, h1, h2, h3, h4, rfl⟩ hl ho hc
        have hs : Step B Wx (Wx.putObj l' ob') := Step.put (by omega) ho hc
        exact ⟨t7, h1.step hs, H.oStep _ _ _ h2 hs, ⟨h3.1.step hs, h3.2⟩, by rw [World.putObj_size]; exact h4, rfl⟩
      case assign =>
        rintro lx xs y Wx K hi hpx hK
        simp only [encN, NV.val]
        gi_wp2_with fail
        have hBx : B ≤ Wx.heap.size := by have := hi.2.2.2.2.2.2.2; omega
        have hsx : ∀ ob : Obj, Step B Wx (Wx.alloc ob) := fun ob => Step.alloc hBx ob
        refine hK _ _ (NK.of (KeepsOthers.alloc _ _)) (H.kstep (hsx _)) ⟨H.jStep _ _ _ hi.1 (hsx _), hi.2.1.step (hsx _), H.oStep _ _ _ hi.2.2.1 (hsx _), hi.2.2.2.1.step (hsx _), H.oStep _ _ _ hi.2.2.2.2.1 (hsx _), hi.2.2.2.2.2.1.keep (KeepsOthers.alloc _ _), hi.2.2.2.2.2.2.1.step (hsx _), by have := hi.2.2.2.2.2.2.2; simp; omega⟩ ⟨Wx.heap.size, Blk.new _ _ _, H.oStep _ _ _ (H.oNew _ _ _ hi.1 (Nat.le_refl _)) (hsx _), ⟨hpx.1.step (hsx _), hpx.2⟩, by simp, ?_⟩
        rfl
      case body =>
        rintro lx xs y a' Wx hlx _ hi ⟨t7, k7, o7, hfy, l7, rfl⟩ hxl
        obtain ⟨fn, tmps, assign, body, hy, hR⟩ := H.yld (n - 1 - 1 - 1) (pre ++ x :: ys ++ xs) y Wx hi.1 hfy.1 hfy.2 (by simp; omega)
        simp only [encN, NV.val] at hy
        have c1 := hi.2.1.cell 0
        have c2 := k7.cell 0
        have c3 := k7.cell 1
        simp only [List.getElem?_toArray, List.getElem?_cons_zero, List.getElem?_cons_succ] at c1 c2 c3
        have HH := Lib.hid (And.intro hi (And.intro k7 (And.intro o7 (And.intro hfy l7))))
        clear hi k7 o7 hfy l7 hxl
        gi_wp2
        refine hR.mono ?_
        clear hR hy c1 c2 c3
        rintro e W7 (⟨rfl, hJ7, hs7, hkp7, hnk7⟩ | ⟨rfl, hY7, hnk7⟩)
        · obtain ⟨hi, k7, o7, hfy, l7⟩ := HH.out
          have hkN : KpN Off Wx W7 := ⟨hs7, hkp7⟩
          have z1 := hkp7 _ hi.2.1.lt hi.2.2.1
          have z2 := hkp7 _ hi.2.2.2.1.lt hi.2.2.2.2.1
          have z3 : FoAt W7 Bt r2 (some ⟨b0, o0 + i * 2 + 2, none⟩) := hi.2.2.2.2.2.2.1.keep fun b hb o ho hc => by
            rcases Nat.lt_or_ge b Wx.heap.size with hlt | hge
            · exact (hkp7 b hlt (H.oOld _ _ _ hi.1 hb)).2 o ho hc
            · rw [Array.getElem?_eq_none hge] at ho; cases ho
          have z4 : (pre ++ x :: ys ++ (xs ++ [y])) = pre ++ x :: ys ++ xs ++ [y] := by simp
          have HF := Lib.hid (show NK W5.heap.size Wx W7 ∧ KpN Off Wx W7 ∧ (J (pre ++ x :: ys ++ (xs ++ [y])) W7 ∧ Blk W7 W.heap.size 65 #[.func (.yield l) #[] #[]] ∧ Off W.heap.size W7 ∧ Blk W7 db 3 #[.int .i64 d] ∧ Off db W7 ∧ MarksAt W7 B Ds ∧ FoAt W7 Bt r2 (some ⟨b0, o0 + i * 2 + 2, none⟩) ∧ W5.heap.size ≤ W7.heap.size) from
            ⟨hnk7.more hB5, hkN, by rw [z4]; exact hJ7, hi.2.1.keptC z1.2, z1.1, hi.2.2.2.1.keptC z2.2, z2.1, hi.2.2.2.2.2.1.nk (Nat.le_refl _) hnk7, z3, by have := hi.2.2.2.2.2.2.2; omega⟩)
          clear hi k7 o7 hfy l7 hkN z1 z2 z3 z4 hJ7 hs7 hkp7 hnk7
          gi_wp2_with fail
          exact HF.out
        · obtain ⟨hi, k7, o7, hfy, l7⟩ := HH.out
          have z4 : (pre ++ x :: ys ++ (xs ++ [y])) = pre ++ x :: ys ++ xs ++ [y] := by simp
          have HF := Lib.hid (show NK W5.heap.size Wx W7 ∧ (Code.ret = Code.ret ∧ Y (pre ++ x :: ys ++ (xs ++ [y])) W7 ∧ MarksAt W7 B Ds) from ⟨hnk7.more hB5, rfl, by rw [z4]; exact hY7, hi.2.2.2.2.2.1.nk (Nat.le_refl _) hnk7⟩)
          clear hi k7 o7 hfy l7 z4 hY7 hnk7
          gi_wp2_with fail
          exact ⟨HF.out.1, rfl, HF.out.2.2.1, HF.out.2.2.2⟩
      case iter =>
        intro lx W1x Z Yx hzNK hzStep hyStep hlx hW1s hst1 hI1 hz1 hyy
        have Hh : Host F lx (W5.heap.size + 2) Bt (N - (pre.length + 1 + ys.length)) M (fun xs Wx => (J (pre ++ x :: ys ++ xs) Wx ∧ Blk Wx W.heap.size 65 #[.func (.yield l) #[] #[]] ∧ Off W.heap.size Wx ∧ Blk Wx db 3 #[.int .i64 d] ∧ Off db Wx ∧ MarksAt Wx B Ds ∧ FoAt Wx Bt r2 (some ⟨b0, o0 + i * 2 + 2, none⟩) ∧ W5.heap.size ≤ Wx.heap.size) ∧ Z Wx) Yx Off := {
          jStep := fun xs Wa Wb hi hs => ⟨⟨H.jStep _ _ _ hi.1.1 (hs.less (by omega)), hi.1.2.1.step hs, H.oStep _ _ _ hi.1.2.2.1 (hs.less (by omega)), hi.1.2.2.2.1.step hs, H.oStep _ _ _ hi.1.2.2.2.2.1 (hs.less (by omega)), hi.1.2.2.2.2.2.1.step (fun D hD => by have := hDs D hD; omega) hs, hi.1.2.2.2.2.2.2.1.step hs, Nat.le_trans hi.1.2.2.2.2.2.2.2 hs.bel.size⟩, hzStep _ _ hi.2 hs⟩
          yStep := hyStep
          oStep := fun k Wa Wb ho hs => H.oStep _ _ _ ho (hs.less (by omega))
          oNew := fun s k Wa hi hk => H.oNew _ _ _ hi.1.1 hk
          oOld := fun s k Wa hi hk => H.oOld _ _ _ hi.1.1 hk
          yld := fun m pre' y Wa hi hfo hsub hl => YieldAt.anyDepth hd m (YieldAt.mono (hyy pre' y Wa hi.1 hi.2 ⟨hfo, hsub⟩ hl) fun e We h => by
            rcases h with ⟨h1, h2, h3, h4, h5⟩ | h
            · exact .inl ⟨h1, ⟨h2, h3⟩, h4.1, h4.2, h5⟩
            · exact .inr h) }
        have kt1 := ktb5.step hst1
        rw [HX.out.1] at kt1
        refine (har.1 lx (W5.heap.size + 2) _ M _ _ Off Hh (n - 1) (wrap64 (d + 1)) [] W1x W3.heap.size (W3.heap.size + 1) c2 A2 hlx (by omega) (by omega) hk2m (by simp only [Fo.cnt] at hrc; omega) kt1 (H.oStep _ _ _ otb5 (hst1.less hB5)) (kdb5.step hst1) (H.oStep _ _ _ odb5 (hst1.less hB5)) ((hf2.step hst5).step hst1) ⟨by simpa using hI1, hz1⟩ (by simp [nodesL]; omega)).mono ?_
        rintro e We ⟨hv, (⟨xs, h1, h2⟩ | ⟨xs, h1, h2⟩)⟩
        · exact ⟨hv, .inl ⟨xs, h1, by simpa using h2.1, h2.2⟩⟩
        · exact ⟨hv, .inr ⟨xs, h1, by simpa using h2⟩⟩
      case done =>
        rintro Dm xs Wx hD hS hI hDd
        have hmm : m ≤ maxLen := by rw [Hm.out]; exact HA.out.2.2.2.1
        have hwi : IntKind.i64.wrap ((i : Int) + 1) = ((i + 1 : Nat) : Int) := by rw [IntWalk.i64_in _ (by unfold maxLen at hmm; omega)]; omega
        have hMd : MarksAt Wx B (Dm :: Ds) := hI.2.2.2.2.2.1.cons (by omega) hDd (fun E hE => by have := hDs E hE; omega)
        have hys2 : Hid ((ys ++ xs).map NV.t ++ nodesL (wrap64 (d + 1)) r2 = nodesL (wrap64 (d + 1)) k) := Lib.hid (by
          rw [← hys.out, List.map_append, hS]; simp [nodesL])
        have hJx : J (pre ++ x :: (ys ++ xs)) Wx := by have h := hI.1; simpa using h
        have hfx : FoAt Wx Bt r2 (some ⟨b0, o0 + (i + 1) * 2, none⟩) := by rw [show o0 + (i + 1) * 2 = o0 + i * 2 + 2 by omega]; exact hI.2.2.2.2.2.2.1
        have hir2 : i + 1 + r2.len = m := by simp only [Fo.len] at hir; omega
        have HE := Lib.hid (And.intro hJx (And.intro hI (And.intro hMd (And.intro hfx (And.intro hir2 hS)))))
        clear hMd hJx hfx hir2 hI hS hmm
        gi_wp2_with fail
        obtain ⟨hJx, hI, hMd, hfx, hir2, hS⟩ := HE.out
        refine ⟨⟨i + 1, r2, ys ++ xs, Dm :: Ds, hir2, hfx, har.2, by simp only [Fo.cnt] at hrc; omega, hys2, hJx, hI.2.1, hI.2.2.1, hI.2.2.2.1, hI.2.2.2.2.1, by have := hI.2.2.2.2.2.2.2; omega, ⟨_, _, _, _, _, _, _, _, _, _, _, _, _, _, _, _, _, _, _, _, _, _, _, _, _, rfl⟩, hMd⟩, ?_⟩
        simp [intOf]
        omega
      case stop =>
        rintro Dm cd xs Wx hD hS ⟨rfl, hYx, hMx⟩ hDd
        have hMd : MarksAt Wx B (Dm :: Ds) := hMx.cons (by omega) hDd (fun E hE => by have := hDs E hE; omega)
        gi_wp2_with fail
        refine leaves_marks (Dm :: Ds) Wx hMd ⟨_, results_none rfl _ _ _, ?_⟩
        refine ⟨⟨_, rfl⟩, .inr ⟨x :: (ys ++ xs), ?_, by simpa using H.yStep _ _ _ hYx (taken_step hMd (Nat.le_refl _))⟩⟩
        have h := hys.out
        obtain ⟨rest, hr⟩ := hS
        refine ⟨rest ++ nodesL (wrap64 (d + 1)) r2, ?_⟩
        simp only [nodesL, List.append_nil] at h hr ⊢
        rw [List.map_cons, List.map_append, hxt, ← h]
        have h2 := congrArg (· ++ nodesL (wrap64 (d + 1)) r2) hr
        simp only [List.cons_append, List.append_assoc] at h2 ⊢
        rw [h2]
theorem allOk (F : Fence) (hd : F.depth = none) (hf0 : F.fn 20) (hf1 : F.fn 25) (hround : F.round = none) (Bt : Nat) (k : Fo) : AllOk F Bt k := by
  induction k with
  | nil => trivial
  | cons v k r ih1 ih2 => exact ⟨nodes1_tree F hd hf0 hf1 hround Bt v k ih1, ih2⟩
/-- **The nodes of any tree.** -/
theorem nodes1_any (F : Fence) (hd : F.depth = none) (hf0 : F.fn 20) (hf1 : F.fn 25) (hround : F.round = none) (Bt : Nat) (v : Int) (k : Fo) : NodesOk F Bt v k :=
  nodes1_tree F hd hf0 hf1 hround Bt v k (allOk F hd hf0 hf1 hround Bt k)
end Go.Proofs.Ytepcafkgpkbimaa
