/- Layer 8: Turn that turns nothing, Clear. -/
import Derived.Test.YtkfmhkpmlncjgaaPd
namespace Go.Proofs.Ytkfmhkpmlncjgaa
open Go.RowKit
set_option linter.unusedVariables false
set_option linter.unusedSimpArgs false

theorem turn_none {w : World} {g : Nat} {ls : List (List UInt8)} {cs : Array Value} (h : PathAt w g ls cs) (i at_ : Int) (y : UInt8) (hi : ¬ (0 ≤ i ∧ i < ls.length)) : Calls Try.prog 17 #[(.pointer (some ⟨g, 0, none⟩)), .int .i64 i, .int .i64 at_, .int .u8 (y.toNat : Int)] w fun e w' => e = .returned (.int .i64 4) ∧ w = w' := by
  have hf := find_any h i true
  rw [show fd ls.length i = 4 from if_neg hi] at hf
  go_enter Try.func17, Try.ntmps17
  go_wp2_with fail
  refine hf.mono ?_
  rintro e w1 ⟨rfl, rfl⟩
  go_wp2
  go_ret
  exact ⟨rfl, rfl⟩
theorem turn_arg {w : World} {g : Nat} {ls : List (List UInt8)} {cs : Array Value} (h : PathAt w g ls cs) (i : Nat) (at_ : Int) (y : UInt8) (hi : i < ls.length) (ha : ¬ (0 ≤ at_ ∧ at_ < (ls[i]).length)) : Calls Try.prog 17 #[(.pointer (some ⟨g, 0, none⟩)), .int .i64 i, .int .i64 at_, .int .u8 (y.toNat : Int)] w fun e w' => e = .returned (.int .i64 1) ∧ Below w.heap.size w w' := by
  have hf := find_any h i true
  rw [show fd ls.length i = 0 from if_pos (by omega)] at hf
  obtain ⟨A, c, hc, hd⟩ := h.at_ i hi
  have ck := h.blk.cell i
  rw [hc] at ck
  have hlen := h.len
  have hsm := h.sm _ (List.getElem_mem hi)
  have hcl := clone_all A ls[i] _ c w (Lib.hid rfl) (Lib.hid (by omega)) hd.bs
  have hi2 : (i : Int) < 256 := by omega
  obtain ⟨n, hnl⟩ : ∃ n, n = (ls[i]).length := ⟨_, rfl⟩
  rw [← hnl] at hcl ck ha
  clear h hd hc hlen hsm hnl
  go_enter Try.func17, Try.ntmps17
  go_wp2_with fail
  refine hf.mono ?_
  rintro e w1 ⟨rfl, rfl⟩
  go_wp2_with fail
  refine hcl.mono ?_
  rintro e w2 ⟨A2, c2, rfl, own2, hb2⟩
  clear own2 hcl hf ck
  by_cases h0 : at_ < 0
  · go_wp2
    go_ret
    exact ⟨rfl, hb2⟩
  · have h1 : (n : Int) ≤ at_ := by omega
    go_wp2
    go_ret
    exact ⟨rfl, hb2⟩
theorem wpList_copy_run {P : Program} {w : World} {ops : Array Oper} {rest : List Oper} {o : Oper} {a : Act} {Q : Exit → Act → World → Prop} (hgd : o.guard = none) (s x : Operand) (t : TypeId)
    (ho : o.op = .call { callee := .builtin .copy, args := #[s, x], argTypes := #[t, t] }) (sv xv v : Value) (w' : World) (hs : a.eval s = sv) (hx : a.eval x = xv) (hrun : (Builtin.copy_ #[t, t] o.type #[sv, xv]).run P w = .ok v w') (h : wpList P ops Q rest (a.put o.dst v) w') :
    wpList P ops Q (o :: rest) a w := by
  refine wpList_plain hgd fun _ hK => ?_
  unfold Oper.wp execOp
  simp only [ho, resolve, invoke, builtin, Sem.run_bind, Sem.run_pure, Result.andThen_ok, List.map_toArray, List.map_cons, List.map_nil, hs, hx, hrun]
  exact hK _ _ h
set_option maxRecDepth 100000 in
set_option maxHeartbeats 2000000 in
theorem lay_nil {w : World} {g : Nat} {cs : Array Value} (hb : Blk w g 46 cs) (hsz : Hid (cs.size = 257)) : Calls Try.prog 26 #[(.pointer (some ⟨g, 0, none⟩)), .slice none 0 0] w fun e w' => (∃ v, e = .returned v) ∧ Laid w g 0 [] w' := by
  obtain ⟨i0, hi, hz0, hz1, hz2⟩ := info_parts Try.infoSl
  have hsi : (Try.prog.info? 29).map (·.size) = some 1 := by rw [hi]; simp [hz1]
  obtain ⟨v0, hv0⟩ : ∃ v0, cs[256]? = some v0 := ⟨cs[256]'(by rw [hsz.out]; omega), Array.getElem?_eq_getElem _⟩
  have c256 := hb.cell 256
  rw [hv0] at c256
  have f256 := hb.frozen 256
  clear hv0
  have hrun : (Builtin.copy_ #[26, 26] 3 #[.slice (some ⟨g, 0, none⟩) 256 256, .slice none 0 0]).run Try.prog w = .ok (.int .i64 0) w := by
    simp [Builtin.copy_, run_underlying Try.underlying26, sizeOf, typeInfo, hi, Builtin.lenOf, Builtin.firstCells, storeCells, loadCells, loadCellsFrom]
    rfl
  go_enter Try.func26, Try.ntmps26
  go_wp2_with (with_reducible refine wpList_copy_run rfl (.tmp 8) (.tmp 9) 26 rfl (.slice (some ⟨g, 0, none⟩) 256 256) (.slice none 0 0) (.int .i64 0) w rfl rfl hrun ?_)
  have kb2 := hb.set_ 256 (.int .i64 0)
  have hg2 := grown_set w ⟨g, 256, none⟩ (.int .i64 0)
  have hL : Laid w g 0 [] (w.setCell ⟨g, 256, none⟩ (.int .i64 0)) := ⟨_, kb2, by rw [Array.size_setIfInBounds]; exact hsz.out, by rw [Array.getElem?_setIfInBounds_self_of_lt (by rw [hsz.out]; omega)]; rfl, fun i hi => absurd hi (by omega), hg2⟩
  generalize hwe : (w.setCell ⟨g, 256, none⟩ (.int .i64 0)) = w2 at *
  clear kb2 hg2 hwe c256 f256 hb
  refine wp_region_invU (F := ?FL) (V := VLy g 0 0 256) (dead := fun _ => none) (T := fun _ _ => True) (C := fun u' => Laid w g 0 [] u') (E := fun _ u u' => True) (by kernel_rfl) (by kernel_rfl) (by kernel_rfl) (fun x => ?hFL) ?hmonoL ?hTmL ?hTL ?hCL ?stepL ?finL
  case hFL => simp only [mkA, Act.put, List.setIfInBounds_toArray, List.set_cons_succ, List.set_cons_zero, Nat.reduceAdd, Nat.zero_add]; first | with_reducible rfl | rfl
  case hmonoL => exact fun q i v u u' he hik hwt hdd hv => VLy.mono hv
  case hTmL => exact fun _ _ _ _ _ _ _ _ => trivial
  case hTL => exact fun j => trivial
  case hCL => exact hL.drew
  case stepL =>
    refine AllOps.cons (fun x u hC hT hp K hK => ?_) ?_
    · clear hp hT
      go_simp
      refine hK _ _ _ hC trivial (by exact rfl) ?_
      first | (simp only [Act.put, List.setIfInBounds_toArray, List.set_cons_succ, List.set_cons_zero]; done) | simp [Act.put]
    refine AllOps.cons (fun x u hC hT hp K hK => ?_) ?_
    · simp [KnownTill, Region.binds, VLy] at hp
      clear hT
      go_simp
      refine hK _ _ _ hC trivial (by exact rfl) ?_
      first | (simp only [Act.put, List.setIfInBounds_toArray, List.set_cons_succ, List.set_cons_zero, hp]; done) | simp [Act.put, hp]
    refine AllOps.cons (fun x u hC hT hp K hK => ?_) ?_
    · simp [KnownTill, Region.binds, VLy] at hp
      clear hT
      go_simp
      refine hK _ _ _ hC trivial (by exact rfl) ?_
      first | (simp only [Act.put, List.setIfInBounds_toArray, List.set_cons_succ, List.set_cons_zero, hp]; done) | simp [Act.put, hp]
    refine AllOps.cons (fun x u hC hT hp K hK => ?_) ?_
    · clear hp hT
      go_simp
      refine hK _ _ _ hC trivial (by exact rfl) ?_
      first | (simp only [Act.put, List.setIfInBounds_toArray, List.set_cons_succ, List.set_cons_zero]; done) | simp [Act.put]
    refine AllOps.cons (fun x u hC hT hp K hK => ?_) ?_
    · simp [KnownTill, Region.binds, VLy] at hp
      clear hT
      go_simp
      refine hK _ _ _ hC trivial (by exact rfl) ?_
      first | (simp only [Act.put, List.setIfInBounds_toArray, List.set_cons_succ, List.set_cons_zero, hp]; done) | simp [Act.put, hp]
    refine AllOps.cons (fun x u hC hT hp K hK => ?_) ?_
    · simp [KnownTill, Region.binds, VLy] at hp
      clear hT
      go_simp
      refine hK _ _ _ hC trivial (by exact rfl) ?_
      first | (simp only [Act.put, List.setIfInBounds_toArray, List.set_cons_succ, List.set_cons_zero, hp]; done) | simp [Act.put, hp]
    refine AllOps.cons (fun x u hC hT hp K hK => ?_) ?_
    · simp [KnownTill, Region.binds, VLy] at hp
      clear hT
      obtain ⟨cs6, k6, s6, n6, q6, g6⟩ := hC
      have c6 := k6.cell 256
      rw [n6] at c6
      have hC2 : Laid w g 0 [] u := ⟨cs6, k6, s6, n6, q6, g6⟩
      clear k6 s6 n6 q6 g6
      go_simp
      refine hK _ _ _ hC2 trivial (by exact rfl) ?_
      first | (simp only [Act.put, List.setIfInBounds_toArray, List.set_cons_succ, List.set_cons_zero, hp]; done) | simp [Act.put, hp]
    refine AllOps.cons (fun x u hC hT hp K hK => ?_) ?_
    · simp [KnownTill, Region.binds, VLy] at hp
      clear hT
      obtain ⟨h2, h6⟩ : x 2 = .pointer (some ⟨g, 0, none⟩) ∧ x 6 = .int .i64 0 := by first | exact ⟨hp.1, hp.2⟩ | exact ⟨hp.2, hp.1⟩ | exact ⟨hp.1, hp.2.1⟩ | simp_all
      clear hp
      go_simp
      refine hK _ _ _ hC trivial (by exact rfl) ?_
      first | (simp only [Act.put, List.setIfInBounds_toArray, List.set_cons_succ, List.set_cons_zero, h2, h6]; done) | simp [Act.put, h2, h6]
    refine AllOps.cons (fun x u hC hT hp K hK => ?_) ?_
    · simp [KnownTill, Region.binds, VLy] at hp
      clear hT
      have h7 : x 7 = .slice (some ⟨g, 0, none⟩) 256 256 := by first | exact hp | exact hp.1
      obtain ⟨cs6, k6, s6, n6, q6, g6⟩ := hC
      obtain ⟨cs7, k7, s7, n7, g7⟩ := setCells_blk (List.replicate 256 (.slice none 0 0)) 0 u cs6 k6
      refine step_clear rfl _ 26 rfl (.slice (some ⟨g, 0, none⟩) 256 256) (.tuple #[]) (u.setCells g 0 (List.replicate 256 (.slice none 0 0))) (by simp [mkA, Act.eval, h7]) (Lib.run_clear_slice u 26 29 _ (.slice none 0 0) Try.underlying26 zero_sl rfl rfl g 0 256 256 (by omega) (fun j hj => by rw [k6.cell (0 + j), Array.getElem?_eq_getElem (by rw [s6]; omega)]; rfl) (fun j _ => k6.frozen (0 + j))) ?_
      refine hK _ _ _ ⟨cs7, k7, by rw [s7]; exact s6, ?_, fun i hi => absurd hi (by omega), grownBy_trans g6 g7⟩ trivial trivial rfl
      rw [n7 256 (.inr (by rw [List.length_replicate]; omega))]; exact n6
    exact AllOps.nil
  case finL =>
    intro x u hC hV
    clear hV
    go_wp2
    refine Go.Great.bodyPost_end0 rfl rfl ?_
    exact ⟨⟨_, rfl⟩, hC⟩

theorem clear_any {w : World} {g : Nat} {ls : List (List UInt8)} {cs : Array Value} (h : PathAt w g ls cs) : Calls Try.prog 19 #[(.pointer (some ⟨g, 0, none⟩))] w fun e w' => e = .returned (.int .i64 0) ∧ (∃ cs', PathAt w' g [] cs') ∧ w.grownBy w' (some g) := by
  have hl := lay_nil h.blk (Lib.hid h.size)
  clear h
  go_enter Try.func19, Try.ntmps19
  go_wp2_with fail
  refine hl.mono ?_
  rintro e w1 ⟨⟨v, rfl⟩, cs1, k1, s1, n1, _, g1⟩
  go_wp2
  go_ret
  exact ⟨rfl, ⟨cs1, k1, s1, n1, by simp, by simp, fun i hi => absurd hi (by simp)⟩, g1⟩
end Go.Proofs.Ytkfmhkpmlncjgaa
