/- Layer 8: lay, and Take of a packet. -/
import Derived.Test.YtkfmhkpmlncjgaaPb
import Derived.Test.YtkfmhkpmlncjgaaInvU
import Derived.ArgAppend
import Derived.Great.Walk
import Derived.Lib.SliceRun
import Derived.Laws.CopyOwn
namespace Go.Proofs.Ytkfmhkpmlncjgaa
open Go.RowKit
set_option linter.unusedVariables false
set_option linter.unusedSimpArgs false

theorem Try.infoSl : (Try.prog.info? 29).map (fun i => (i.zero, i.size, i.bytes)) = some (some (.slice none 0 0), 1, 24) := by kernel_rfl
theorem grown_setRow (w : World) (g : Nat) (cs : Array Value) : w.grownBy (w.setRow g cs) (some g) := ⟨rfl, rfl, rfl, by simp [World.setRow], fun k _ hne => setRow_other w g k cs (fun e => hne (by rw [e]))⟩
theorem setCells_blk {g : Nat} {t : TypeId} : ∀ (vs : List Value) (o : Nat) (w : World) (cs : Array Value), Blk w g t cs → ∃ cs', Blk (w.setCells g o vs) g t cs' ∧ cs'.size = cs.size ∧ (∀ i, (i < o ∨ o + vs.length ≤ i) → cs'[i]? = cs[i]?) ∧ w.grownBy (w.setCells g o vs) (some g)
  | [], _, w, cs, h => ⟨cs, h, rfl, fun _ _ => rfl, World.grownBy.refl w _⟩
  | v :: r, o, w, cs, h => by
    obtain ⟨cs', h1, h2, h3, h4⟩ := setCells_blk r (o + 1) (w.setCell ⟨g, o, none⟩ v) _ (h.set_ o v)
    refine ⟨cs', h1, by rw [h2, Array.size_setIfInBounds], fun i hi => ?_, grownBy_trans (grown_set w ⟨g, o, none⟩ v) h4⟩
    rw [h3 i (by simp at hi; omega), Array.getElem?_setIfInBounds_ne (by simp at hi; omega)]
theorem zero_sl : ∀ w, (zeroValue 29).run Try.prog w = .ok (.slice none 0 0) w := by
  obtain ⟨i0, hi, hz0, hz1, hz2⟩ := info_parts Try.infoSl
  intro w
  simp only [zeroValue, typeInfo]
  simp [hi, hz0]
theorem step_clear {P : Program} {w : World} {ops : Array Oper} {o : Oper} {a : Act} {K : Act → World → Prop} {Q : Exit → Act → World → Prop} {E : Prop} (hgd : o.guard = none) (s : Operand) (t : TypeId)
    (ho : o.op = .call { callee := .builtin .clear, args := #[s], argTypes := #[t] }) (x v : Value) (w' : World) (hs : a.eval s = x) (hrun : (Builtin.clear_ #[t] o.type #[x]).run P w = .ok v w') (h : K (a.put o.dst v) w') :
    if Region.wanted o (yielded ops a.tmps) = true then Oper.wp P o a w K Q else E := by
  have hw : Region.wanted o (yielded ops a.tmps) = true := by simp [Region.wanted, hgd]
  rw [if_pos hw]
  unfold Oper.wp execOp
  simp only [ho, resolve, invoke, builtin, Sem.run_bind, Sem.run_pure, Result.andThen_ok, List.map_toArray, List.map_cons, List.map_nil, hs, hrun]
  exact h
/-- What lay leaves. -/
def Laid (w : World) (g m : Nat) (vals : List Value) (u : World) : Prop := ∃ cs' : Array Value, Blk u g 46 cs' ∧ cs'.size = 257 ∧ cs'[256]? = some (.int .i64 (m : Nat)) ∧ (∀ i, i < m → cs'[i]? = vals[i]?) ∧ w.grownBy u (some g)
theorem Laid.drew {w u : World} {g m : Nat} {vals : List Value} (h : Laid w g m vals u) : Laid w g m vals u.drew := by
  obtain ⟨cs', h1, h2, h3, h4, h5⟩ := h
  exact ⟨cs', h1, h2, h3, h4, grownBy_trans h5 (grown_of (below_drew u) _)⟩

def VLy (g m om k : Nat) (i : Nat) (v : Value) (w : World) : Prop :=
  match i with
  | 0 => v = .pointer (some ⟨g, 0, none⟩)
  | 1 => v = .pointer (some ⟨g, 0, none⟩)
  | 2 => v = .pointer (some ⟨g, 0, none⟩)
  | 3 => v = .pointer (some ⟨g, 0, none⟩)
  | 4 => v = .pointer (some ⟨g, 0, none⟩)
  | 5 => v = .pointer (some ⟨g, 256, none⟩)
  | 6 => v = .int .i64 m
  | 7 => v = .slice (some ⟨g, om, none⟩) k k
  | _ => True
theorem VLy.mono {g m om k : Nat} {i : Nat} {v : Value} {u u' : World} (hv : VLy g m om k i v u) : VLy g m om k i v u' := by
  unfold VLy at hv ⊢; split at hv <;> exact hv

set_option maxRecDepth 100000 in
set_option maxHeartbeats 2000000 in
theorem lay_part {w : World} {g : Nat} {cs : Array Value} (hb : Blk w g 46 cs) (hsz : Hid (cs.size = 257)) (m : Nat) (hm : m < 256) (b o c : Nat) (vals : List Value) (hv : Hid (vals.length = m)) (hc : ∀ j u, vals[j]? = some u → w.cell? ((⟨b, o, none⟩ : Addr).add j) = some u) (hone : ∀ v ∈ vals, v.oneCell' = true) : Calls Try.prog 26 #[(.pointer (some ⟨g, 0, none⟩)), .slice (some ⟨b, o, none⟩) m c] w fun e w' => (∃ v, e = .returned v) ∧ Laid w g m vals w' := by
  obtain ⟨i0, hi, hz0, hz1, hz2⟩ := info_parts Try.infoSl
  have hsi : (Try.prog.info? 29).map (·.size) = some 1 := by rw [hi]; simp [hz1]
  have hmI : (m : Int) ≤ 256 := by omega
  have hmn : ¬ (256 = m) := by omega
  have hmz : 0 < 256 - m := by omega
  have Hm := Lib.hid hm
  clear hm
  have hbh : w.heap[g]? = some (.cells cs 46 (0, 0)) := hb
  obtain ⟨NW, hNW0⟩ : ∃ NW, (cs.toList.take 0 ++ (vals ++ cs.toList.drop (0 + vals.length))).toArray = NW := ⟨_, rfl⟩
  have kb1 : Blk (w.setRow g NW) g 46 NW := setRow_heap w g cs NW 46 (0, 0) hb
  have hg1 := grown_setRow w g NW
  have hNs : Hid (NW.size = 257) := Lib.hid (by
    rw [← hNW0]
    have h1 := hv.out
    have h2 := hsz.out
    have h3 := Hm.out
    simp only [List.size_toArray, List.length_append, List.length_take, List.length_drop, Array.length_toList, h1, h2]
    omega)
  have hNv : Hid (∀ i, i < m → NW[i]? = vals[i]?) := Lib.hid (fun i hi => by
    rw [← hNW0, List.getElem?_toArray, List.take_zero, List.nil_append, List.getElem?_append_left (by rw [hv.out]; exact hi)])
  obtain ⟨v0, hv0⟩ : ∃ v0, NW[256]? = some v0 := ⟨NW[256]'(by rw [hNs.out]; omega), Array.getElem?_eq_getElem _⟩
  have c256 := kb1.cell 256
  rw [hv0] at c256
  have f256 := kb1.frozen 256
  obtain ⟨w1, hw10⟩ : ∃ w1, w.setRow g NW = w1 := ⟨_, rfl⟩
  rw [hw10] at kb1 hg1 c256 f256
  have hNW := Lib.hid hNW0
  have hw1 := Lib.hid hw10
  clear hNW0 hw10 hv0
  go_enter Try.func26, Try.ntmps26
  go_wp2_with (with_reducible refine wpList_copy_own rfl (.tmp 8) (.tmp 9) 26 26 rfl 29 Try.underlying26 hsi g 0 256 256 ⟨b, o, none⟩ m c rfl rfl cs 46 hbh vals (by rw [hv.out]; exact (Nat.min_eq_left (by have := Hm.out; omega)).symm) hc (by rw [hv.out, hsz.out]; have := Hm.out; omega) hone ?_; rw [hNW.out, hw1.out, hv.out])
  have kb2 := kb1.set_ 256 (.int .i64 (m : Nat))
  have hg2 := grownBy_trans hg1 (grown_set w1 ⟨g, 256, none⟩ (.int .i64 (m : Nat)))
  have hL : Laid w g m vals (w1.setCell ⟨g, 256, none⟩ (.int .i64 (m : Nat))) := ⟨_, kb2, by rw [Array.size_setIfInBounds]; exact hNs.out, by rw [Array.getElem?_setIfInBounds_self_of_lt (by rw [hNs.out]; omega)], fun i hi => by rw [Array.getElem?_setIfInBounds_ne (by have := Hm.out; omega)]; exact hNv.out i hi, hg2⟩
  generalize hwe : (w1.setCell ⟨g, 256, none⟩ (.int .i64 (m : Int))) = w2 at *
  clear kb1 kb2 hg1 hg2 hwe c256 f256 hb hc
  refine wp_region_invU (F := ?FL) (V := VLy g m m (256 - m)) (dead := fun _ => none) (T := fun _ _ => True) (C := fun u' => Laid w g m vals u') (E := fun _ u u' => True) (by kernel_rfl) (by kernel_rfl) (by kernel_rfl) (fun x => ?hFL) ?hmonoL ?hTmL ?hTL ?hCL ?stepL ?finL
  case hFL => simp only [mkA, Act.put, List.setIfInBounds_toArray, List.set_cons_succ, List.set_cons_zero, Nat.reduceAdd, Nat.zero_add]; first | with_reducible rfl | rfl
  case hmonoL => exact fun q i v u u' he hik hwt hdd hv => VLy.mono hv
  case hTmL => exact fun _ _ _ _ _ _ _ _ => trivial
  case hTL => exact fun j => trivial
  case hCL => exact hL.drew
  case stepL =>
    refine AllOps.cons (fun x u hC hT hp K hK => ?_) ?_
    · clear hp hT
      go_simp
      refine hK _ _ _ hC trivial (by exact rfl) ?_
      first | (simp only [Act.put, List.setIfInBounds_toArray, List.set_cons_succ, List.set_cons_zero]; done) | simp [Act.put]
    refine AllOps.cons (fun x u hC hT hp K hK => ?_) ?_
    · simp [KnownTill, Region.binds, VLy] at hp
      clear hT
      go_simp
      refine hK _ _ _ hC trivial (by exact rfl) ?_
      first | (simp only [Act.put, List.setIfInBounds_toArray, List.set_cons_succ, List.set_cons_zero, hp]; done) | simp [Act.put, hp]
    refine AllOps.cons (fun x u hC hT hp K hK => ?_) ?_
    · simp [KnownTill, Region.binds, VLy] at hp
      clear hT
      go_simp
      refine hK _ _ _ hC trivial (by exact rfl) ?_
      first | (simp only [Act.put, List.setIfInBounds_toArray, List.set_cons_succ, List.set_cons_zero, hp]; done) | simp [Act.put, hp]
    refine AllOps.cons (fun x u hC hT hp K hK => ?_) ?_
    · clear hp hT
      go_simp
      refine hK _ _ _ hC trivial (by exact rfl) ?_
      first | (simp only [Act.put, List.setIfInBounds_toArray, List.set_cons_succ, List.set_cons_zero]; done) | simp [Act.put]
    refine AllOps.cons (fun x u hC hT hp K hK => ?_) ?_
    · simp [KnownTill, Region.binds, VLy] at hp
      clear hT
      go_simp
      refine hK _ _ _ hC trivial (by exact rfl) ?_
      first | (simp only [Act.put, List.setIfInBounds_toArray, List.set_cons_succ, List.set_cons_zero, hp]; done) | simp [Act.put, hp]
    refine AllOps.cons (fun x u hC hT hp K hK => ?_) ?_
    · simp [KnownTill, Region.binds, VLy] at hp
      clear hT
      go_simp
      refine hK _ _ _ hC trivial (by exact rfl) ?_
      first | (simp only [Act.put, List.setIfInBounds_toArray, List.set_cons_succ, List.set_cons_zero, hp]; done) | simp [Act.put, hp]
    refine AllOps.cons (fun x u hC hT hp K hK => ?_) ?_
    · simp [KnownTill, Region.binds, VLy] at hp
      clear hT
      obtain ⟨cs6, k6, s6, n6, q6, g6⟩ := hC
      have c6 := k6.cell 256
      rw [n6] at c6
      have hC2 : Laid w g m vals u := ⟨cs6, k6, s6, n6, q6, g6⟩
      clear k6 s6 n6 q6 g6
      go_simp
      refine hK _ _ _ hC2 trivial (by exact rfl) ?_
      first | (simp only [Act.put, List.setIfInBounds_toArray, List.set_cons_succ, List.set_cons_zero, hp]; done) | simp [Act.put, hp]
    refine AllOps.cons (fun x u hC hT hp K hK => ?_) ?_
    · simp [KnownTill, Region.binds, VLy] at hp
      clear hT
      obtain ⟨h2, h6⟩ : x 2 = .pointer (some ⟨g, 0, none⟩) ∧ x 6 = .int .i64 m := by first | exact ⟨hp.1, hp.2⟩ | exact ⟨hp.2, hp.1⟩ | exact ⟨hp.1, hp.2.1⟩ | simp_all
      clear hp
      go_simp
      refine hK _ _ _ hC trivial (by exact rfl) ?_
      first | (simp only [Act.put, List.setIfInBounds_toArray, List.set_cons_succ, List.set_cons_zero, h2, h6]; done) | simp [Act.put, h2, h6]
    refine AllOps.cons (fun x u hC hT hp K hK => ?_) ?_
    · simp [KnownTill, Region.binds, VLy] at hp
      clear hT
      have h7 : x 7 = .slice (some ⟨g, m, none⟩) (256 - m) (256 - m) := by first | exact hp | exact hp.1
      obtain ⟨cs6, k6, s6, n6, q6, g6⟩ := hC
      obtain ⟨cs7, k7, s7, n7, g7⟩ := setCells_blk (List.replicate (256 - m) (.slice none 0 0)) m u cs6 k6
      refine step_clear rfl _ 26 rfl (.slice (some ⟨g, m, none⟩) (256 - m) (256 - m)) (.tuple #[]) (u.setCells g m (List.replicate (256 - m) (.slice none 0 0))) (by simp [mkA, Act.eval, h7]) (Lib.run_clear_slice u 26 29 _ (.slice none 0 0) Try.underlying26 zero_sl rfl rfl g m (256 - m) (256 - m) hmz (fun j hj => by rw [k6.cell (m + j), Array.getElem?_eq_getElem (by rw [s6]; omega)]; rfl) (fun j _ => k6.frozen (m + j))) ?_
      refine hK _ _ _ ⟨cs7, k7, by rw [s7]; exact s6, ?_, fun i hi => ?_, grownBy_trans g6 g7⟩ trivial trivial rfl
      · rw [n7 256 (.inr (by rw [List.length_replicate]; have := Hm.out; omega))]; exact n6
      · rw [n7 i (.inl hi)]; exact q6 i hi
    exact AllOps.nil
  case finL =>
    intro x u hC hV
    clear hV
    go_wp2
    refine Go.Great.bodyPost_end0 rfl rfl ?_
    exact ⟨⟨_, rfl⟩, hC⟩

theorem step_append_run {P : Program} {w : World} {ops : Array Oper} {o : Oper} {a : Act} {K : Act → World → Prop} {Q : Exit → Act → World → Prop} {E : Prop} (hgd : o.guard = none) (s x : Operand) (t : TypeId)
    (ho : o.op = .call { callee := .builtin .append, args := #[s, x], argTypes := #[t, t] }) (sv xv v : Value) (w' : World) (hs : a.eval s = sv) (hx : a.eval x = xv) (hrun : (Builtin.append_ #[t, t] o.type #[sv, xv]).run P w = .ok v w') (h : K (a.put o.dst v) w') :
    if Region.wanted o (yielded ops a.tmps) = true then Oper.wp P o a w K Q else E := by
  have hw : Region.wanted o (yielded ops a.tmps) = true := by simp [Region.wanted, hgd]
  rw [if_pos hw]
  unfold Oper.wp execOp
  simp only [ho, resolve, invoke, builtin, Sem.run_bind, Sem.run_pure, Result.andThen_ok, List.map_toArray, List.map_cons, List.map_nil, hs, hx, hrun]
  exact h
theorem Laid.bt {w u u' : World} {g m : Nat} {vals : List Value} (h : Laid w g m vals u) (hb : Below u.heap.size u u') : Laid w g m vals u' := by
  obtain ⟨cs', h1, h2, h3, h4, h5⟩ := h
  exact ⟨cs', h1.below hb h1.lt, h2, h3, h4, grownBy_trans h5 (grown_of hb _)⟩
theorem sl_hm (g i : Nat) (hi : i ≤ 256) (u : World) : (Instr.sliceAt 44 (.pointer (some ⟨g, 0, none⟩)) none (some (.int .i64 (i : Int))) (some (.int .i64 (i : Int)))).run Try.prog u = .ok (.slice (some ⟨g, 0, none⟩) i i) u := by
  have hal : Try.prog.arrayLen 44 = 256 := by kernel_rfl
  have hsz : Try.prog.elem 44 = 29 := by kernel_rfl
  refine (run_sliceAt_array_hm (P := Try.prog) u 44 ⟨g, 0, none⟩ (by kernel_rfl) .i64 .i64 (i : Int) (i : Int) (by omega) (by omega) (by rw [hal]; omega)).trans ?_
  rw [hsz]
  go_simp
theorem sl_lh (g i n : Nat) (h1 : i + 1 ≤ n) (h2 : n ≤ 256) (u : World) : ∃ X, (Instr.sliceAt 44 (.pointer (some ⟨g, 0, none⟩)) (some (.int .i64 ((i : Int) + 1))) (some (.int .i64 (n : Int))) none).run Try.prog u = .ok (.slice X (n - (i + 1)) (256 - (i + 1))) u ∧ (i + 1 < n → X = some ⟨g, i + 1, none⟩) := by
  have hal : Try.prog.arrayLen 44 = 256 := by kernel_rfl
  have hsz : Try.prog.elem 44 = 29 := by kernel_rfl
  have e1 : ((i : Int) + 1).toNat = i + 1 := by omega
  have hr := run_sliceAt_array_lh (P := Try.prog) u 44 ⟨g, 0, none⟩ (by kernel_rfl) .i64 .i64 ((i : Int) + 1) (n : Int) (by omega) (by omega) (by rw [hal]; omega)
  rw [hal, hsz, e1, Int.toNat_natCast] at hr
  by_cases hne : 256 = i + 1
  · refine ⟨some ⟨g, 0, none⟩, hr.trans ?_, fun h => by omega⟩
    unfold slicedAt
    simp only [if_pos hne]
    go_simp
  · refine ⟨some ⟨g, i + 1, none⟩, hr.trans ?_, fun _ => rfl⟩
    unfold slicedAt
    simp only [if_neg hne]
    go_simp
def IsLst (w : World) (v : Value) (vals : List Value) (m : Nat) : Prop := ∃ b o c, v = .slice (some ⟨b, o, none⟩) m c ∧ ∀ j u, vals[j]? = some u → w.cell? ((⟨b, o, none⟩ : Addr).add j) = some u
def VTk (W : World) (g i n m : Nat) (vals : List Value) (q : Nat) (v : Value) (w : World) : Prop :=
  match q with
  | 0 => v = .pointer (some ⟨g, 0, none⟩)
  | 1 => v = .pointer (some ⟨g, 0, none⟩)
  | 2 => v = .pointer (some ⟨g, 0, none⟩)
  | 3 => v = .pointer (some ⟨g, 0, none⟩)
  | 4 => v = .int .i64 i
  | 5 => v = .int .i64 i
  | 6 => v = .slice (some ⟨g, 0, none⟩) i i
  | 7 => v = .pointer (some ⟨g, 0, none⟩)
  | 8 => v = .pointer (some ⟨g, 0, none⟩)
  | 9 => v = .pointer (some ⟨g, 0, none⟩)
  | 10 => v = .int .i64 i
  | 11 => v = .int .i64 ((i : Int) + 1)
  | 12 => v = .pointer (some ⟨g, 0, none⟩)
  | 13 => v = .pointer (some ⟨g, 0, none⟩)
  | 14 => v = .pointer (some ⟨g, 256, none⟩)
  | 15 => v = .int .i64 n
  | 16 => ∃ X, v = .slice X (n - (i + 1)) (256 - (i + 1)) ∧ (i + 1 < n → X = some ⟨g, i + 1, none⟩)
  | 17 => IsLst w v vals m
  | 18 => Laid W g m vals w
  | _ => True
def ETk (k : Nat) (u u' : World) : Prop := match k with
  | 17 => Below u.heap.size u u'
  | 18 => True
  | _ => u' = u
def TTk (W : World) (g : Nat) (cs : Array Value) (j : Nat) (u : World) : Prop := match j with
  | 15 => Blk u g 46 cs
  | 17 => Blk u g 46 cs ∧ Below W.heap.size W u
  | 18 => Blk u g 46 cs ∧ Below W.heap.size W u
  | _ => True
theorem VTk.mono {W : World} {g i n m : Nat} {vals : List Value} {k q : Nat} {v : Value} {u u' : World} (he : ETk k u u') (hik : q ≠ k) (h17 : q = 17 ∧ k = 18 → False) (hv : VTk W g i n m vals q v u) : VTk W g i n m vals q v u' := by
  unfold ETk at he
  split at he
  · unfold VTk at hv ⊢
    split at hv <;> first | with_reducible exact hv | exact absurd rfl hik | exact Laid.bt hv he
  · unfold VTk at hv ⊢
    split at hv <;> first | with_reducible exact hv | exact absurd rfl hik | exact absurd ⟨rfl, rfl⟩ h17
  · rw [he]; exact hv
theorem TTk.mono {W : World} {g : Nat} {cs : Array Value} {k j : Nat} {u u' : World} (he : ETk k u u') (hkj : k ≠ j) (h18 : (j = 15 ∨ j = 17) ∧ k = 18 → False) (hv : TTk W g cs j u) : TTk W g cs j u' := by
  unfold ETk at he
  split at he
  · unfold TTk at hv ⊢
    split at hv <;> first | exact Blk.below hv he (Blk.lt hv) | exact absurd rfl hkj | exact ⟨Blk.below hv.1 he (Blk.lt hv.1), Go.Proofs.Ytkfmhkpmlncjgaa.bt hv.2 he⟩ | trivial
  · unfold TTk at hv ⊢
    split at hv <;> first | exact absurd rfl hkj | exact absurd ⟨.inl rfl, rfl⟩ h18 | exact absurd ⟨.inr rfl, rfl⟩ h18 | trivial
  · rw [he]; exact hv
theorem TTk.of {W : World} {g : Nat} {cs : Array Value} {u : World} (h : Blk u g 46 cs) (hb : Below W.heap.size W u) (j : Nat) : TTk W g cs j u := by
  unfold TTk; split <;> first | exact h | exact ⟨h, hb⟩ | trivial
def TakeO (w : World) (g : Nat) (l : List UInt8) (ls' : List (List UInt8)) (e : Ending) (w' : World) : Prop := ∃ A' c' J, e = .returned (.tuple #[.slice A' J c', .int .i64 0]) ∧ Hid (J = l.length) ∧ Own w' w.heap.size 5 A' c' l ∧ (∃ cs', PathAt w' g ls' cs') ∧ w.grownBy w' (some g)

theorem take_some {α : Type} {L : List α} {k j : Nat} {u : α} (h : (L.take k)[j]? = some u) : L[j]? = some u := by
  rw [List.getElem?_take] at h
  split at h
  · exact h
  · cases h
theorem own_row_cell {w : World} {base n g' cap : Nat} {e : TypeId} {v : Value} {xs : List Value} (h : w.ownsRow base e 1 v n xs) (hv : v = .slice (some ⟨g', 0, none⟩) n cap) {j : Nat} {u : Value} (hj : xs[j]? = some u) : w.cell? ⟨g', j, none⟩ = some u := by
  subst hv
  rw [World.ownsRow.cellAt h j (by have h1 := h.1; have := (List.getElem?_eq_some_iff.1 hj).1; omega), hj]

set_option maxRecDepth 100000 in
set_option maxHeartbeats 4000000 in
theorem take_mid {w : World} {g : Nat} {ls : List (List UInt8)} {cs : Array Value} (h : PathAt w g ls cs) (i : Nat) (hi : i < ls.length) (hlast : i + 1 < ls.length) : Calls Try.prog 13 #[(.pointer (some ⟨g, 0, none⟩)), .int .i64 i] w (TakeO w g ls[i] (ls.eraseIdx i)) := by
  have hf := find_any h i true
  rw [show fd ls.length i = 0 from if_pos (by omega)] at hf
  obtain ⟨A, c, hc, hd⟩ := h.at_ i hi
  have ck := h.blk.cell i
  rw [hc] at ck
  have hlen := h.len
  have hsm := h.sm _ (List.getElem_mem hi)
  have hcl := clone_all A ls[i] _ c w (Lib.hid rfl) (Lib.hid (by omega)) hd.bs
  have hi2 : (i : Int) < 256 := by omega
  obtain ⟨l, hl⟩ : ∃ l, l = ls[i] := ⟨_, rfl⟩
  rw [← hl] at hcl ck hsm ⊢
  have HP := Lib.hid h
  have Hhi := Lib.hid hi
  have Hi256 : Hid (i ≤ 256) := Lib.hid (by omega)
  obtain ⟨n, hnl⟩ : ∃ n, n = ls.length := ⟨_, rfl⟩
  have HN := Lib.hid hnl
  have hcnt : Hid (cs[256]? = some (.int .i64 (n : Nat))) := Lib.hid (by rw [hnl]; exact h.cnt)
  have hsz : Hid (cs.size = 257) := Lib.hid h.size
  obtain ⟨m, hm0⟩ : ∃ m, m = n - 1 := ⟨_, rfl⟩
  have hmv : Hid (i + (n - (i + 1)) = m) := Lib.hid (by omega)
  have hm256 : Hid (m < 256) := Lib.hid (by omega)
  obtain ⟨vals, hvals⟩ : ∃ vals : List Value, vals = cs.toList.take i ++ ((cs.toList.drop (i + 1)).take (n - (i + 1))) := ⟨_, rfl⟩
  have hvl : Hid (vals.length = m) := Lib.hid (by
    rw [hvals]
    have h2 := hsz.out
    simp only [List.length_append, List.length_take, List.length_drop, Array.length_toList, h2]
    omega)
  have hvj : Hid (∀ j, j < m → vals[j]? = if j < i then cs[j]? else cs[j + 1]?) := Lib.hid (fun j hj => by
    have h2 := hsz.out
    rw [hvals]
    by_cases hji : j < i
    · rw [if_pos hji, List.getElem?_append_left (by simp only [List.length_take, Array.length_toList, h2]; omega), List.getElem?_take, if_pos hji, Array.getElem?_toList]
    · rw [if_neg hji, List.getElem?_append_right (by simp only [List.length_take, Array.length_toList, h2]; omega)]
      simp only [List.length_take, Array.length_toList, h2]
      rw [show min i 257 = i by omega, List.getElem?_take, if_pos (by omega), List.getElem?_drop, Array.getElem?_toList]
      congr 1
      omega)
  have hone : Hid (∀ v ∈ vals, v.oneCell' = true) := Lib.hid (fun v hv => by
    obtain ⟨j, hj, rfl⟩ := List.getElem_of_mem hv
    have hjm : j < m := by rw [← hvl.out]; exact hj
    have h3 := hvj.out j hjm
    rw [List.getElem?_eq_getElem hj] at h3
    by_cases hji : j < i
    · rw [if_pos hji] at h3
      obtain ⟨A', c', h4, _⟩ := HP.out.at_ j (by omega)
      rw [h4] at h3; injection h3 with h3; rw [h3]; rfl
    · rw [if_neg hji] at h3
      obtain ⟨A', c', h4, _⟩ := HP.out.at_ (j + 1) (by omega)
      rw [h4] at h3; injection h3 with h3; rw [h3]; rfl)
  have hn1 : (i : Int) + 1 ≤ (n : Int) := by omega
  have hn2 : (n : Int) ≤ 256 := by omega
  have ei : IntKind.i64.wrap ((i : Int) + 1) = (i : Int) + 1 := IntWalk.i64_in _ (by omega)
  obtain ⟨i0, hi0, hz0, hz1, hz2⟩ := info_parts Try.infoSl
  have HV := Lib.hid hvals
  have HL := Lib.hid hl
  have Hlast := Lib.hid hlast
  have Hlen : Hid (n ≤ 256) := Lib.hid (by omega)
  clear hvals h hd hc hl hlen hsm hnl hm0 hlast
  go_enter Try.func13, Try.ntmps13
  go_wp2_with fail
  refine hf.mono ?_
  rintro e w1 ⟨rfl, rfl⟩
  go_wp2_with fail
  refine hcl.mono ?_
  rintro e W ⟨A2, c2, rfl, own2, hb2⟩
  have P2 := HP.out.bt hb2
  have kb := P2.blk
  clear hf hcl ck
  go_wp2_with fail
  refine wp_region_invU (F := ?FK) (V := VTk W g i n m vals) (dead := fun q => if q = 17 then some 18 else none) (T := TTk W g cs) (C := fun u' => W.grownBy u' (some g)) (E := ETk) (by kernel_rfl) (by kernel_rfl) (by kernel_rfl) (fun x => ?hFK) ?hmonoK ?hTmK ?hTK ?hCK ?stepK ?finK
  case hFK => simp only [mkA, Act.put, List.setIfInBounds_toArray, List.set_cons_succ, List.set_cons_zero, Nat.reduceAdd, Nat.zero_add]; first | with_reducible rfl | rfl
  case hmonoK => exact fun q j v u u' he hik hwt hdd hv => VTk.mono he hik (fun h => hdd (by rw [h.1, h.2]; rfl)) hv
  case hTmK => exact fun q j u u' he hkj hwt hv => TTk.mono he hkj (fun h => by obtain ⟨h1 | h1, h2⟩ := h <;> exact ltf hwt (by rw [h1, h2]; kernel_rfl)) hv
  case hTK => exact fun j => TTk.of (u := W.drew) (show Blk W.drew g _ cs from kb) (below_drew _) j
  case hCK => exact grown_of (below_drew W) _
  case stepK =>
    refine AllOps.cons (fun x u hC hT hp K hK => ?_) ?_
    · clear hp hT
      go_simp
      refine hK _ _ _ hC (by rfl) (by exact rfl) ?_
      first | (simp only [Act.put, List.setIfInBounds_toArray, List.set_cons_succ, List.set_cons_zero]; done) | simp [Act.put]
    refine AllOps.cons (fun x u hC hT hp K hK => ?_) ?_
    · clear hp hT
      go_simp
      refine hK _ _ _ hC (by rfl) (by exact rfl) ?_
      first | (simp only [Act.put, List.setIfInBounds_toArray, List.set_cons_succ, List.set_cons_zero]; done) | simp [Act.put]
    refine AllOps.cons (fun x u hC hT hp K hK => ?_) ?_
    · simp [KnownTill, Region.binds, VTk] at hp
      clear hT
      go_simp
      refine hK _ _ _ hC (by rfl) (by exact rfl) ?_
      first | (simp only [Act.put, List.setIfInBounds_toArray, List.set_cons_succ, List.set_cons_zero, hp]; done) | simp [Act.put, hp]
    refine AllOps.cons (fun x u hC hT hp K hK => ?_) ?_
    · simp [KnownTill, Region.binds, VTk] at hp
      clear hT
      go_simp
      refine hK _ _ _ hC (by rfl) (by exact rfl) ?_
      first | (simp only [Act.put, List.setIfInBounds_toArray, List.set_cons_succ, List.set_cons_zero, hp]; done) | simp [Act.put, hp]
    refine AllOps.cons (fun x u hC hT hp K hK => ?_) ?_
    · clear hp hT
      go_simp
      refine hK _ _ _ hC (by rfl) (by exact rfl) ?_
      first | (simp only [Act.put, List.setIfInBounds_toArray, List.set_cons_succ, List.set_cons_zero]; done) | simp [Act.put]
    refine AllOps.cons (fun x u hC hT hp K hK => ?_) ?_
    · clear hp hT
      go_simp
      refine hK _ _ _ hC (by rfl) (by exact rfl) ?_
      first | (simp only [Act.put, List.setIfInBounds_toArray, List.set_cons_succ, List.set_cons_zero]; done) | simp [Act.put]
    refine AllOps.cons (fun x u hC hT hp K hK => ?_) ?_
    · simp [KnownTill, Region.binds, VTk] at hp
      clear hT
      obtain ⟨h3, h4, h5⟩ : x 3 = .pointer (some ⟨g, 0, none⟩) ∧ x 4 = .int .i64 i ∧ x 5 = .int .i64 i := by simp_all
      clear hp
      have sl6 := sl_hm g i Hi256.out u
      go_simp
      refine hK _ _ _ hC (by rfl) (by exact rfl) ?_
      first | (simp only [Act.put, List.setIfInBounds_toArray, List.set_cons_succ, List.set_cons_zero, h3, h4, h5]; done) | simp [Act.put, h3, h4, h5]
    refine AllOps.cons (fun x u hC hT hp K hK => ?_) ?_
    · clear hp hT
      go_simp
      refine hK _ _ _ hC (by rfl) (by exact rfl) ?_
      first | (simp only [Act.put, List.setIfInBounds_toArray, List.set_cons_succ, List.set_cons_zero]; done) | simp [Act.put]
    refine AllOps.cons (fun x u hC hT hp K hK => ?_) ?_
    · simp [KnownTill, Region.binds, VTk] at hp
      clear hT
      go_simp
      refine hK _ _ _ hC (by rfl) (by exact rfl) ?_
      first | (simp only [Act.put, List.setIfInBounds_toArray, List.set_cons_succ, List.set_cons_zero, hp]; done) | simp [Act.put, hp]
    refine AllOps.cons (fun x u hC hT hp K hK => ?_) ?_
    · simp [KnownTill, Region.binds, VTk] at hp
      clear hT
      go_simp
      refine hK _ _ _ hC (by rfl) (by exact rfl) ?_
      first | (simp only [Act.put, List.setIfInBounds_toArray, List.set_cons_succ, List.set_cons_zero, hp]; done) | simp [Act.put, hp]
    refine AllOps.cons (fun x u hC hT hp K hK => ?_) ?_
    · clear hp hT
      go_simp
      refine hK _ _ _ hC (by rfl) (by exact rfl) ?_
      first | (simp only [Act.put, List.setIfInBounds_toArray, List.set_cons_succ, List.set_cons_zero]; done) | simp [Act.put]
    refine AllOps.cons (fun x u hC hT hp K hK => ?_) ?_
    · simp [KnownTill, Region.binds, VTk] at hp
      clear hT
      go_simp
      refine hK _ _ _ hC (by rfl) (by exact rfl) ?_
      first | (simp only [Act.put, List.setIfInBounds_toArray, List.set_cons_succ, List.set_cons_zero, hp]; done) | simp [Act.put, hp]
    refine AllOps.cons (fun x u hC hT hp K hK => ?_) ?_
    · clear hp hT
      go_simp
      refine hK _ _ _ hC (by rfl) (by exact rfl) ?_
      first | (simp only [Act.put, List.setIfInBounds_toArray, List.set_cons_succ, List.set_cons_zero]; done) | simp [Act.put]
    refine AllOps.cons (fun x u hC hT hp K hK => ?_) ?_
    · simp [KnownTill, Region.binds, VTk] at hp
      clear hT
      go_simp
      refine hK _ _ _ hC (by rfl) (by exact rfl) ?_
      first | (simp only [Act.put, List.setIfInBounds_toArray, List.set_cons_succ, List.set_cons_zero, hp]; done) | simp [Act.put, hp]
    refine AllOps.cons (fun x u hC hT hp K hK => ?_) ?_
    · simp [KnownTill, Region.binds, VTk] at hp
      clear hT
      go_simp
      refine hK _ _ _ hC (by rfl) (by exact rfl) ?_
      first | (simp only [Act.put, List.setIfInBounds_toArray, List.set_cons_succ, List.set_cons_zero, hp]; done) | simp [Act.put, hp]
    refine AllOps.cons (fun x u hC hT hp K hK => ?_) ?_
    · simp [KnownTill, Region.binds, VTk] at hp
      have kb5 : Blk u g 46 cs := hT
      have c256 := kb5.cell 256
      rw [hcnt.out] at c256
      clear kb5 hT
      go_simp
      refine hK _ _ _ hC (by rfl) (by exact rfl) ?_
      first | (simp only [Act.put, List.setIfInBounds_toArray, List.set_cons_succ, List.set_cons_zero, hp]; done) | simp [Act.put, hp]
    refine AllOps.cons (fun x u hC hT hp K hK => ?_) ?_
    · simp [KnownTill, Region.binds, VTk] at hp
      clear hT
      obtain ⟨h9, h11, h15⟩ : x 9 = .pointer (some ⟨g, 0, none⟩) ∧ x 11 = .int .i64 ((i : Int) + 1) ∧ x 15 = .int .i64 n := by simp_all
      clear hp
      have q256 : ¬ (256 = i + 1) := by have := Hlast.out; have := HN.out; have := Hlen.out; omega
      obtain ⟨X, sl16, hX⟩ := sl_lh g i n (by have := Hhi.out; have := HN.out; omega) Hlen.out u
      go_simp
      refine hK _ _ _ hC (by rfl) (by exact ⟨X, rfl, hX⟩) ?_
      first | (simp only [Act.put, List.setIfInBounds_toArray, List.set_cons_succ, List.set_cons_zero, h9, h11, h15]; done) | simp [Act.put, h9, h11, h15]
    refine AllOps.cons (fun x u hC hT hp K hK => ?_) ?_
    · simp [KnownTill, Region.binds, VTk] at hp
      obtain ⟨h6, X, h16, hX⟩ : x 6 = .slice (some ⟨g, 0, none⟩) i i ∧ ∃ X, x 16 = .slice X (n - (i + 1)) (256 - (i + 1)) ∧ (i + 1 < n → X = some ⟨g, i + 1, none⟩) := by first | exact ⟨hp.1, hp.2⟩ | exact ⟨hp.2, hp.1⟩ | exact ⟨hp.1, hp.2.1⟩ | (refine ⟨by first | exact hp.1 | exact hp.2, ?_⟩; simpa using (by first | exact hp.2 | exact hp.1))
      clear hp
      obtain ⟨kb7, hb7⟩ : Blk u g 46 cs ∧ Below W.heap.size W u := hT
      have hlt : i + 1 < n := by have := Hlast.out; have := HN.out; omega
      rw [hX hlt] at h16
      obtain ⟨v', w', hrun, hown, hgr⟩ := run_append_arg_grows (P := Try.prog) u 26 26 29 i0 (.slice none 0 0) 1 24 Try.underlying26 hi0 hz0 hz1 hz2 rfl (by omega) ⟨g, 0, none⟩ i i (cs.toList.take i) (by have := hsz.out; simp only [List.length_take, Array.length_toList, this]; omega) (fun j u2 hj => by rw [Addr.add_lit, Nat.zero_add, kb7.cell j, ← Array.getElem?_toList]; exact take_some hj) ⟨g, i + 1, none⟩ (n - (i + 1)) (256 - (i + 1)) ((cs.toList.drop (i + 1)).take (n - (i + 1))) (by have := hsz.out; have := Hlen.out; simp only [List.length_take, List.length_drop, Array.length_toList, hsz.out]; omega) (fun j u2 hj => by rw [Addr.add_lit, kb7.cell (i + 1 + j), ← Array.getElem?_toList, ← List.getElem?_drop]; exact take_some hj) (by omega) (by have := Hlen.out; simp only [maxLen]; omega) (by have := Hlen.out; omega)
      rw [← HV.out, hmv.out] at hown
      have hbw' := below_none hgr
      have hv' : IsLst w' v' vals m := by
        rcases hown.2 with ⟨e1, e2⟩ | ⟨g', cap, cur, e1, _, _, _⟩
        · have := hmv.out; omega
        · exact ⟨g', 0, cap, e1, fun j u2 hj => by rw [Addr.add_lit, Nat.zero_add]; exact own_row_cell hown e1 hj⟩
      refine step_append_run rfl _ _ 26 rfl _ _ v' w' (by simp [mkA, Act.eval, h6]) (by simp [mkA, Act.eval, h16]) hrun ?_
      exact hK v' _ w' (grownBy_trans hC (grown_of hbw' _)) hbw' hv' rfl
    refine AllOps.cons (fun x u hC hT hp K hK => ?_) ?_
    · simp [KnownTill, Region.binds, VTk] at hp
      obtain ⟨h0, b, o', c', h17, hcs⟩ : x 0 = .pointer (some ⟨g, 0, none⟩) ∧ IsLst u (x 17) vals m := by first | exact ⟨hp.1, hp.2⟩ | exact ⟨hp.2, hp.1⟩ | exact ⟨hp.1, hp.2.1⟩
      clear hp
      obtain ⟨kb8, hb8⟩ : Blk u g 46 cs ∧ Below W.heap.size W u := hT
      have hly := lay_part kb8 hsz m hm256.out b o' c' vals hvl hcs hone.out
      clear kb8 hcs
      go_simp
      refine hly.mono ?_
      rintro e wA ⟨⟨v9, rfl⟩, csA, k1, k2, k3, k4, k5⟩
      refine hK v9 _ wA (grownBy_trans hC k5) trivial ⟨csA, k1, k2, k3, k4, grownBy_trans hC k5⟩ ?_
      first | (simp only [Act.put, List.setIfInBounds_toArray, List.set_cons_succ, List.set_cons_zero, h0, h17]; done) | simp [Act.put, h0, h17]
    exact AllOps.nil
  case finK =>
    intro x u hC hV
    obtain ⟨cs', k1, k2, k3, k4, k5⟩ : Laid W g m vals u := hV 18 (by decide) rfl
    clear hV
    have hgr := grownBy_trans (grown_of hb2 (some g)) k5
    have own3 := own2.kept k5 (.inr (fun e => own2.ne_blk kb path_ne e.symm))
    have K1 := Lib.hid k1
    have K4 := Lib.hid k4
    clear k1 k4 k5 kb hC hb2 own2
    go_wp2
    go_ret2
    refine ⟨A2, c2, _, rfl, Lib.hid rfl, own3, ⟨cs', K1.out, k2, ?_, ?_, ?_, ?_⟩, hgr⟩
    · rw [List.length_eraseIdx_of_lt Hhi.out, ← HN.out, k3]; congr 2; have := hmv.out; have := HN.out; have := Hhi.out; omega
    · rw [List.length_eraseIdx_of_lt Hhi.out]; have := HP.out.len; omega
    · intro z hz
      exact HP.out.sm z (List.mem_of_mem_eraseIdx hz)
    · intro j hj
      have hjm : j < m := by rw [List.length_eraseIdx_of_lt Hhi.out] at hj; have := hmv.out; have := HN.out; have := Hhi.out; omega
      rw [K4.out j hjm, hvj.out j hjm]
      have hnn := HN.out
      have hmm := hmv.out
      have hh := Hhi.out
      rw [List.getElem_eraseIdx]
      split
      · rename_i hji
        obtain ⟨A', c', h4, h5⟩ := HP.out.at_ j (by omega)
        exact ⟨A', c', h4, h5.grown hgr (.inl rfl)⟩
      · rename_i hji
        obtain ⟨A', c', h4, h5⟩ := HP.out.at_ (j + 1) (by omega)
        exact ⟨A', c', h4, h5.grown hgr (.inl rfl)⟩

set_option maxRecDepth 100000 in
set_option maxHeartbeats 4000000 in
theorem take_last {w : World} {g : Nat} {ls : List (List UInt8)} {cs : Array Value} (h : PathAt w g ls cs) (i : Nat) (hi : i < ls.length) (hlast : ls.length = i + 1) : Calls Try.prog 13 #[(.pointer (some ⟨g, 0, none⟩)), .int .i64 i] w (TakeO w g ls[i] (ls.eraseIdx i)) := by
  have hf := find_any h i true
  rw [show fd ls.length i = 0 from if_pos (by omega)] at hf
  obtain ⟨A, c, hc, hd⟩ := h.at_ i hi
  have ck := h.blk.cell i
  rw [hc] at ck
  have hlen := h.len
  have hsm := h.sm _ (List.getElem_mem hi)
  have hcl := clone_all A ls[i] _ c w (Lib.hid rfl) (Lib.hid (by omega)) hd.bs
  have hi2 : (i : Int) < 256 := by omega
  obtain ⟨l, hl⟩ : ∃ l, l = ls[i] := ⟨_, rfl⟩
  rw [← hl] at hcl ck hsm ⊢
  have HP := Lib.hid h
  have Hhi := Lib.hid hi
  have Hi256 : Hid (i ≤ 256) := Lib.hid (by omega)
  obtain ⟨n, hnl⟩ : ∃ n, n = ls.length := ⟨_, rfl⟩
  have HN := Lib.hid hnl
  have hcnt : Hid (cs[256]? = some (.int .i64 (n : Nat))) := Lib.hid (by rw [hnl]; exact h.cnt)
  have hsz : Hid (cs.size = 257) := Lib.hid h.size
  obtain ⟨m, hm0⟩ : ∃ m, m = n - 1 := ⟨_, rfl⟩
  have hmv : Hid (i + (n - (i + 1)) = m) := Lib.hid (by omega)
  have hm256 : Hid (m < 256) := Lib.hid (by omega)
  obtain ⟨vals, hvals⟩ : ∃ vals : List Value, vals = cs.toList.take i ++ ((cs.toList.drop (i + 1)).take (n - (i + 1))) := ⟨_, rfl⟩
  have hvl : Hid (vals.length = m) := Lib.hid (by
    rw [hvals]
    have h2 := hsz.out
    simp only [List.length_append, List.length_take, List.length_drop, Array.length_toList, h2]
    omega)
  have hvj : Hid (∀ j, j < m → vals[j]? = if j < i then cs[j]? else cs[j + 1]?) := Lib.hid (fun j hj => by
    have h2 := hsz.out
    rw [hvals]
    by_cases hji : j < i
    · rw [if_pos hji, List.getElem?_append_left (by simp only [List.length_take, Array.length_toList, h2]; omega), List.getElem?_take, if_pos hji, Array.getElem?_toList]
    · rw [if_neg hji, List.getElem?_append_right (by simp only [List.length_take, Array.length_toList, h2]; omega)]
      simp only [List.length_take, Array.length_toList, h2]
      rw [show min i 257 = i by omega, List.getElem?_take, if_pos (by omega), List.getElem?_drop, Array.getElem?_toList]
      congr 1
      omega)
  have hone : Hid (∀ v ∈ vals, v.oneCell' = true) := Lib.hid (fun v hv => by
    obtain ⟨j, hj, rfl⟩ := List.getElem_of_mem hv
    have hjm : j < m := by rw [← hvl.out]; exact hj
    have h3 := hvj.out j hjm
    rw [List.getElem?_eq_getElem hj] at h3
    by_cases hji : j < i
    · rw [if_pos hji] at h3
      obtain ⟨A', c', h4, _⟩ := HP.out.at_ j (by omega)
      rw [h4] at h3; injection h3 with h3; rw [h3]; rfl
    · rw [if_neg hji] at h3
      obtain ⟨A', c', h4, _⟩ := HP.out.at_ (j + 1) (by omega)
      rw [h4] at h3; injection h3 with h3; rw [h3]; rfl)
  have hn1 : (i : Int) + 1 ≤ (n : Int) := by omega
  have hn2 : (n : Int) ≤ 256 := by omega
  have ei : IntKind.i64.wrap ((i : Int) + 1) = (i : Int) + 1 := IntWalk.i64_in _ (by omega)
  obtain ⟨i0, hi0, hz0, hz1, hz2⟩ := info_parts Try.infoSl
  have HV := Lib.hid hvals
  have HL := Lib.hid hl
  have Hlast := Lib.hid hlast
  have Hlen : Hid (n ≤ 256) := Lib.hid (by omega)
  clear hvals h hd hc hl hlen hsm hnl hm0 hlast
  go_enter Try.func13, Try.ntmps13
  go_wp2_with fail
  refine hf.mono ?_
  rintro e w1 ⟨rfl, rfl⟩
  go_wp2_with fail
  refine hcl.mono ?_
  rintro e W ⟨A2, c2, rfl, own2, hb2⟩
  have P2 := HP.out.bt hb2
  have kb := P2.blk
  clear hf hcl ck
  go_wp2_with fail
  refine wp_region_invU (F := ?FK) (V := VTk W g i n m vals) (dead := fun q => if q = 17 then some 18 else none) (T := TTk W g cs) (C := fun u' => W.grownBy u' (some g)) (E := ETk) (by kernel_rfl) (by kernel_rfl) (by kernel_rfl) (fun x => ?hFK) ?hmonoK ?hTmK ?hTK ?hCK ?stepK ?finK
  case hFK => simp only [mkA, Act.put, List.setIfInBounds_toArray, List.set_cons_succ, List.set_cons_zero, Nat.reduceAdd, Nat.zero_add]; first | with_reducible rfl | rfl
  case hmonoK => exact fun q j v u u' he hik hwt hdd hv => VTk.mono he hik (fun h => hdd (by rw [h.1, h.2]; rfl)) hv
  case hTmK => exact fun q j u u' he hkj hwt hv => TTk.mono he hkj (fun h => by obtain ⟨h1 | h1, h2⟩ := h <;> exact ltf hwt (by rw [h1, h2]; kernel_rfl)) hv
  case hTK => exact fun j => TTk.of (u := W.drew) (show Blk W.drew g _ cs from kb) (below_drew _) j
  case hCK => exact grown_of (below_drew W) _
  case stepK =>
    refine AllOps.cons (fun x u hC hT hp K hK => ?_) ?_
    · clear hp hT
      go_simp
      refine hK _ _ _ hC (by rfl) (by exact rfl) ?_
      first | (simp only [Act.put, List.setIfInBounds_toArray, List.set_cons_succ, List.set_cons_zero]; done) | simp [Act.put]
    refine AllOps.cons (fun x u hC hT hp K hK => ?_) ?_
    · clear hp hT
      go_simp
      refine hK _ _ _ hC (by rfl) (by exact rfl) ?_
      first | (simp only [Act.put, List.setIfInBounds_toArray, List.set_cons_succ, List.set_cons_zero]; done) | simp [Act.put]
    refine AllOps.cons (fun x u hC hT hp K hK => ?_) ?_
    · simp [KnownTill, Region.binds, VTk] at hp
      clear hT
      go_simp
      refine hK _ _ _ hC (by rfl) (by exact rfl) ?_
      first | (simp only [Act.put, List.setIfInBounds_toArray, List.set_cons_succ, List.set_cons_zero, hp]; done) | simp [Act.put, hp]
    refine AllOps.cons (fun x u hC hT hp K hK => ?_) ?_
    · simp [KnownTill, Region.binds, VTk] at hp
      clear hT
      go_simp
      refine hK _ _ _ hC (by rfl) (by exact rfl) ?_
      first | (simp only [Act.put, List.setIfInBounds_toArray, List.set_cons_succ, List.set_cons_zero, hp]; done) | simp [Act.put, hp]
    refine AllOps.cons (fun x u hC hT hp K hK => ?_) ?_
    · clear hp hT
      go_simp
      refine hK _ _ _ hC (by rfl) (by exact rfl) ?_
      first | (simp only [Act.put, List.setIfInBounds_toArray, List.set_cons_succ, List.set_cons_zero]; done) | simp [Act.put]
    refine AllOps.cons (fun x u hC hT hp K hK => ?_) ?_
    · clear hp hT
      go_simp
      refine hK _ _ _ hC (by rfl) (by exact rfl) ?_
      first | (simp only [Act.put, List.setIfInBounds_toArray, List.set_cons_succ, List.set_cons_zero]; done) | simp [Act.put]
    refine AllOps.cons (fun x u hC hT hp K hK => ?_) ?_
    · simp [KnownTill, Region.binds, VTk] at hp
      clear hT
      obtain ⟨h3, h4, h5⟩ : x 3 = .pointer (some ⟨g, 0, none⟩) ∧ x 4 = .int .i64 i ∧ x 5 = .int .i64 i := by simp_all
      clear hp
      have sl6 := sl_hm g i Hi256.out u
      go_simp
      refine hK _ _ _ hC (by rfl) (by exact rfl) ?_
      first | (simp only [Act.put, List.setIfInBounds_toArray, List.set_cons_succ, List.set_cons_zero, h3, h4, h5]; done) | simp [Act.put, h3, h4, h5]
    refine AllOps.cons (fun x u hC hT hp K hK => ?_) ?_
    · clear hp hT
      go_simp
      refine hK _ _ _ hC (by rfl) (by exact rfl) ?_
      first | (simp only [Act.put, List.setIfInBounds_toArray, List.set_cons_succ, List.set_cons_zero]; done) | simp [Act.put]
    refine AllOps.cons (fun x u hC hT hp K hK => ?_) ?_
    · simp [KnownTill, Region.binds, VTk] at hp
      clear hT
      go_simp
      refine hK _ _ _ hC (by rfl) (by exact rfl) ?_
      first | (simp only [Act.put, List.setIfInBounds_toArray, List.set_cons_succ, List.set_cons_zero, hp]; done) | simp [Act.put, hp]
    refine AllOps.cons (fun x u hC hT hp K hK => ?_) ?_
    · simp [KnownTill, Region.binds, VTk] at hp
      clear hT
      go_simp
      refine hK _ _ _ hC (by rfl) (by exact rfl) ?_
      first | (simp only [Act.put, List.setIfInBounds_toArray, List.set_cons_succ, List.set_cons_zero, hp]; done) | simp [Act.put, hp]
    refine AllOps.cons (fun x u hC hT hp K hK => ?_) ?_
    · clear hp hT
      go_simp
      refine hK _ _ _ hC (by rfl) (by exact rfl) ?_
      first | (simp only [Act.put, List.setIfInBounds_toArray, List.set_cons_succ, List.set_cons_zero]; done) | simp [Act.put]
    refine AllOps.cons (fun x u hC hT hp K hK => ?_) ?_
    · simp [KnownTill, Region.binds, VTk] at hp
      clear hT
      go_simp
      refine hK _ _ _ hC (by rfl) (by exact rfl) ?_
      first | (simp only [Act.put, List.setIfInBounds_toArray, List.set_cons_succ, List.set_cons_zero, hp]; done) | simp [Act.put, hp]
    refine AllOps.cons (fun x u hC hT hp K hK => ?_) ?_
    · clear hp hT
      go_simp
      refine hK _ _ _ hC (by rfl) (by exact rfl) ?_
      first | (simp only [Act.put, List.setIfInBounds_toArray, List.set_cons_succ, List.set_cons_zero]; done) | simp [Act.put]
    refine AllOps.cons (fun x u hC hT hp K hK => ?_) ?_
    · simp [KnownTill, Region.binds, VTk] at hp
      clear hT
      go_simp
      refine hK _ _ _ hC (by rfl) (by exact rfl) ?_
      first | (simp only [Act.put, List.setIfInBounds_toArray, List.set_cons_succ, List.set_cons_zero, hp]; done) | simp [Act.put, hp]
    refine AllOps.cons (fun x u hC hT hp K hK => ?_) ?_
    · simp [KnownTill, Region.binds, VTk] at hp
      clear hT
      go_simp
      refine hK _ _ _ hC (by rfl) (by exact rfl) ?_
      first | (simp only [Act.put, List.setIfInBounds_toArray, List.set_cons_succ, List.set_cons_zero, hp]; done) | simp [Act.put, hp]
    refine AllOps.cons (fun x u hC hT hp K hK => ?_) ?_
    · simp [KnownTill, Region.binds, VTk] at hp
      have kb5 : Blk u g 46 cs := hT
      have c256 := kb5.cell 256
      rw [hcnt.out] at c256
      clear kb5 hT
      go_simp
      refine hK _ _ _ hC (by rfl) (by exact rfl) ?_
      first | (simp only [Act.put, List.setIfInBounds_toArray, List.set_cons_succ, List.set_cons_zero, hp]; done) | simp [Act.put, hp]
    refine AllOps.cons (fun x u hC hT hp K hK => ?_) ?_
    · simp [KnownTill, Region.binds, VTk] at hp
      clear hT
      obtain ⟨h9, h11, h15⟩ : x 9 = .pointer (some ⟨g, 0, none⟩) ∧ x 11 = .int .i64 ((i : Int) + 1) ∧ x 15 = .int .i64 n := by simp_all
      clear hp
      obtain ⟨X, sl16, hX⟩ := sl_lh g i n (by have := Hhi.out; have := HN.out; omega) Hlen.out u
      go_simp
      refine hK _ _ _ hC (by rfl) (by exact ⟨X, rfl, hX⟩) ?_
      first | (simp only [Act.put, List.setIfInBounds_toArray, List.set_cons_succ, List.set_cons_zero, h9, h11, h15]; done) | simp [Act.put, h9, h11, h15]
    refine AllOps.cons (fun x u hC hT hp K hK => ?_) ?_
    · simp [KnownTill, Region.binds, VTk] at hp
      obtain ⟨h6, X, h16, hX⟩ : x 6 = .slice (some ⟨g, 0, none⟩) i i ∧ ∃ X, x 16 = .slice X (n - (i + 1)) (256 - (i + 1)) ∧ (i + 1 < n → X = some ⟨g, i + 1, none⟩) := by first | exact ⟨hp.1, hp.2⟩ | exact ⟨hp.2, hp.1⟩ | exact ⟨hp.1, hp.2.1⟩ | (refine ⟨by first | exact hp.1 | exact hp.2, ?_⟩; simpa using (by first | exact hp.2 | exact hp.1))
      clear hp
      obtain ⟨kb7, hb7⟩ : Blk u g 46 cs ∧ Below W.heap.size W u := hT
      have hn0 : n - (i + 1) = 0 := by have := Hlast.out; have := HN.out; omega
      rw [hn0] at h16
      have him : i = m := by have := hmv.out; omega
      have hv' : IsLst u (.slice (some ⟨g, 0, none⟩) i i) vals m := ⟨g, 0, i, by rw [him], fun j u2 hj => by
        have hjm : j < m := by rw [← hvl.out]; exact (List.getElem?_eq_some_iff.1 hj).1
        rw [hvj.out j hjm, if_pos (by omega)] at hj
        rw [Addr.add_lit, Nat.zero_add, kb7.cell j]; exact hj⟩
      refine step_append_run rfl _ _ 26 rfl (.slice (some ⟨g, 0, none⟩) i i) (.slice X 0 (256 - (i + 1))) (.slice (some ⟨g, 0, none⟩) i i) u (by simp [mkA, Act.eval, h6]) (by simp [mkA, Act.eval, h16]) (by cases X <;> simp [Builtin.append_, run_underlying Try.underlying26, sizeOf, typeInfo, hi0, Builtin.lenOf, Builtin.firstCells, storeCells, loadCells, loadCellsFrom]) ?_
      exact hK _ _ _ hC (Below.refl _ _) hv' rfl
    refine AllOps.cons (fun x u hC hT hp K hK => ?_) ?_
    · simp [KnownTill, Region.binds, VTk] at hp
      obtain ⟨h0, b, o', c', h17, hcs⟩ : x 0 = .pointer (some ⟨g, 0, none⟩) ∧ IsLst u (x 17) vals m := by first | exact ⟨hp.1, hp.2⟩ | exact ⟨hp.2, hp.1⟩ | exact ⟨hp.1, hp.2.1⟩
      clear hp
      obtain ⟨kb8, hb8⟩ : Blk u g 46 cs ∧ Below W.heap.size W u := hT
      have hly := lay_part kb8 hsz m hm256.out b o' c' vals hvl hcs hone.out
      clear kb8 hcs
      go_simp
      refine hly.mono ?_
      rintro e wA ⟨⟨v9, rfl⟩, csA, k1, k2, k3, k4, k5⟩
      refine hK v9 _ wA (grownBy_trans hC k5) trivial ⟨csA, k1, k2, k3, k4, grownBy_trans hC k5⟩ ?_
      first | (simp only [Act.put, List.setIfInBounds_toArray, List.set_cons_succ, List.set_cons_zero, h0, h17]; done) | simp [Act.put, h0, h17]
    exact AllOps.nil
  case finK =>
    intro x u hC hV
    obtain ⟨cs', k1, k2, k3, k4, k5⟩ : Laid W g m vals u := hV 18 (by decide) rfl
    clear hV
    have hgr := grownBy_trans (grown_of hb2 (some g)) k5
    have own3 := own2.kept k5 (.inr (fun e => own2.ne_blk kb path_ne e.symm))
    have K1 := Lib.hid k1
    have K4 := Lib.hid k4
    clear k1 k4 k5 kb hC hb2 own2
    go_wp2
    go_ret2
    refine ⟨A2, c2, _, rfl, Lib.hid rfl, own3, ⟨cs', K1.out, k2, ?_, ?_, ?_, ?_⟩, hgr⟩
    · rw [List.length_eraseIdx_of_lt Hhi.out, ← HN.out, k3]; congr 2; have := hmv.out; have := HN.out; have := Hhi.out; omega
    · rw [List.length_eraseIdx_of_lt Hhi.out]; have := HP.out.len; omega
    · intro z hz
      exact HP.out.sm z (List.mem_of_mem_eraseIdx hz)
    · intro j hj
      have hjm : j < m := by rw [List.length_eraseIdx_of_lt Hhi.out] at hj; have := hmv.out; have := HN.out; have := Hhi.out; omega
      rw [K4.out j hjm, hvj.out j hjm]
      have hnn := HN.out
      have hmm := hmv.out
      have hh := Hhi.out
      rw [List.getElem_eraseIdx]
      split
      · rename_i hji
        obtain ⟨A', c', h4, h5⟩ := HP.out.at_ j (by omega)
        exact ⟨A', c', h4, h5.grown hgr (.inl rfl)⟩
      · rename_i hji
        obtain ⟨A', c', h4, h5⟩ := HP.out.at_ (j + 1) (by omega)
        exact ⟨A', c', h4, h5.grown hgr (.inl rfl)⟩

end Go.Proofs.Ytkfmhkpmlncjgaa
