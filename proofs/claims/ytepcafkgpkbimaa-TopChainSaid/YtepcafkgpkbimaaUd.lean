/- Layer 16: lists of numbers of one's own; what votes say together. -/
import Derived.Test.YtepcafkgpkbimaaUc
import Derived.Lib.OwnKind
import Derived.Lib.SmallJoins
namespace Go.Proofs.Ytepcafkgpkbimaa
open Go Go.RowKit Go.Shelf
attribute [local go_sem] Oper.semAt_some
set_option linter.unusedVariables false
set_option linter.unusedSimpArgs false

theorem Try.infoInt : (Try.prog.info? 3).map (fun i => (i.zero, i.size, i.bytes)) = some (some (.int .i64 0), 1, 8) := by kernel_rfl
/-- A list of numbers of its own. -/
def EndsAt (u : World) (B : Nat) (A : Option Addr) (c : Nat) (es : List Int) : Prop := u.ownsRow B 3 1 (.slice A es.length c) es.length (es.map (Value.int .i64))
section
variable {u u' : World} {B : Nat} {A : Option Addr} {c : Nat} {es : List Int}
theorem EndsAt.nil (u : World) (B : Nat) : EndsAt u B none 0 [] := World.ownsRow_nil u _ _ _
theorem EndsAt.kind (h : EndsAt u B A c es) : ∀ r, blk A = some r → ∃ cs fz, u.heap[r]? = some (.cells cs 3 fz) := fun r e => Lib.ownsRow_kind h r (by rw [ownBlock_slice]; exact e)
theorem EndsAt.lt' (h : EndsAt u B A c es) : ∀ r, blk A = some r → B ≤ r ∧ r < u.heap.size := fun r e => World.ownsRow.lt h r (by rw [ownBlock_slice]; exact e)
theorem EndsAt.kept {row : Option Nat} (h : EndsAt u B A c es) (hg : u.grownBy u' row) (hr : ∀ r, row = some r → r < B ∨ ∃ cs fz, u.heap[r]? = some (.cells cs 5 fz)) : EndsAt u' B A c es := by
  refine World.ownsRow.kept h hg ?_
  rcases hb : (Value.slice A es.length c).ownBlock with _ | k
  · exact .inl rfl
  · refine .inr (fun e => ?_)
    rcases hr k e.symm with h3 | ⟨cs, fz, h3⟩
    · have := (h.lt k hb).1; omega
    · obtain ⟨cs2, fz2, h5⟩ := Lib.ownsRow_kind h k hb
      rw [h5] at h3; cases h3
theorem ends_more (h : EndsAt u B A c es) (n : Nat) (hn : n = es.length) (hl : n ≤ 1000000) (x : Int) (q : Nat) (hBu : B ≤ u.heap.size) (hq0 : u.cell? ⟨q, 0, none⟩ = some (.int .i64 x)) :
    ∃ A2 c2 u', (Builtin.append_ #[29, 29] 29 #[.slice A n c, .slice (some ⟨q, 0, none⟩) 1 1]).run Try.prog u = .ok (.slice A2 (n + 1) c2) u' ∧
      EndsAt u' B A2 c2 (es ++ [x]) ∧ u.grownBy u' (blk A) ∧ (∀ r, blk A2 = some r → blk A = some r ∨ r = u.heap.size) := by
  subst hn
  obtain ⟨i0, hi, hz0, hz1, hz2⟩ := info_parts Try.infoInt
  obtain ⟨v', w', hrun, hown, hgr, _, hob⟩ := run_append_own_at (P := Try.prog) u B 29 29 3 i0 _ 1 8 Try.underlying29 hi hz0 hz1 hz2 rfl (by omega) (.slice A es.length c) es.length (es.map (Value.int .i64)) h ⟨q, 0, none⟩ 1 1 [.int .i64 x] rfl
    (fun j u hu => by
      match j, hu with
      | 0, hu => cases hu; exact hq0)
    (fun u hu => by simp at hu; subst hu; rfl) (by simp only [maxLen]; omega) (by omega) hBu
  obtain ⟨g2, c2, rfl⟩ := Joins.ownsRow_form hown (by omega)
  rw [ownBlock_slice] at hgr
  rw [ownBlock_slice, ownBlock_slice] at hob
  refine ⟨some ⟨g2, 0, none⟩, c2, w', hrun, ?_, hgr, fun r hr => by rcases hob with h | h; exact .inl (by rw [← h]; exact hr); rw [hr] at h; cases h; exact .inr rfl⟩
  unfold EndsAt
  rw [List.length_append, List.map_append]
  exact hown
theorem EndsAt.cell (h : EndsAt u B A c es) (i : Nat) (hi : i < es.length) : ∃ g, A = some ⟨g, 0, none⟩ ∧ u.cell? ⟨g, i, none⟩ = some (.int .i64 (es[i]'hi)) := by
  obtain ⟨g, cap, e⟩ := Joins.ownsRow_form h (by omega)
  cases e
  refine ⟨g, rfl, ?_⟩
  rw [World.ownsRow.cellAt h i (by omega), List.getElem?_map, List.getElem?_eq_getElem hi]
  rfl
end

theorem wpListIn_append_run {Fc : Fence} {n : Nat} {P : Program} (hFn : ∀ f, Fc.fn f) {w : World} {ops : Array Oper} {rest : List Oper} {o : Oper} {a : Act} {Q : Exit → Act → World → Prop} (hgd : o.guard = none) (s x : Operand) (t : TypeId)
    (ho : o.op = .call { callee := .builtin .append, args := #[s, x], argTypes := #[t, t] }) (sv xv v : Value) (w' : World) (hs : a.eval s = sv) (hx : a.eval x = xv) (hrun : (Builtin.append_ #[t, t] o.type #[sv, xv]).run P w = .ok v w') (h : wpListIn Fc n P ops Q rest (a.put o.dst v) w') :
    wpListIn Fc n P ops Q (o :: rest) a w := by
  refine wpListIn_plain hgd fun _ hK => ?_
  unfold Oper.wpIn
  refine ⟨fun f _ => hFn f, ?_⟩
  rw [Oper.semAt_eq _ _ _ (by intro c; rw [ho]; simp)]
  unfold execOp
  simp only [ho, resolve, invoke, builtin, Sem.run_bind, Sem.run_pure, Result.andThen_ok, List.map_toArray, List.map_cons, List.map_nil, hs, hx, hrun]
  exact hK _ _ h
def says3L (l : List Int) : Int := if l.all (fun v => v == 1 || v == 2) then (if l.any (fun v => v == 1) then 1 else 2) else 3
/-- Numbers in memory. -/
def NumsAt (w : World) (A : Option Addr) (zs : List Int) : Prop := 0 < zs.length → ∃ b o, A = some ⟨b, o, none⟩ ∧ ∀ i, (h : i < zs.length) → w.cell? ⟨b, o + i, none⟩ = some (.int .i64 (zs[i]'h))
theorem EndsAt.nums {u : World} {B : Nat} {A : Option Addr} {c : Nat} {es : List Int} (h : EndsAt u B A c es) : NumsAt u A es := fun hl => by
  obtain ⟨g, e, _⟩ := h.cell 0 hl
  refine ⟨g, 0, e, fun i hi => ?_⟩
  obtain ⟨g2, e2, h2⟩ := h.cell i hi
  rw [e] at e2; cases e2
  rw [Nat.zero_add]; exact h2
set_option maxHeartbeats 1000000 in
theorem says3_any (A : Option Addr) (zs : List Int) (n c : Nat) (hn : Hid (n = zs.length)) (hm : n ≤ 1000000) (w : World) (h : NumsAt w A zs) : Calls Try.prog 22 #[.slice A n c] w fun e w' => e = .returned (.int .i64 (says3L zs)) ∧ w = w' := by
  have HH := Lib.hid h
  clear h
  go_enter Try.func22, Try.ntmps22
  go_wp2_with fail
  go_loopw [3, 8] (fun s i wr => ∃ (i0 : Nat) (sv : Int), i0 ≤ n ∧ i = .int .i64 i0 ∧ s = .int .i64 sv ∧ Hid (sv = if (zs.take i0).any (fun v => v == 1) then 1 else 2) ∧ Hid ((zs.take i0).all (fun v => v == 1 || v == 2) = true) ∧ wr = w) (fun s i _ => n - (intOf i).toNat)
  case atStart => exact ⟨0, 2, Nat.zero_le _, rfl, rfl, Lib.hid (by simp), Lib.hid (by simp), rfl⟩
  case round =>
    obtain ⟨i0, sv, him, rfl, rfl, hsv, hall, rfl⟩ := hrel
    by_cases hi0 : i0 < n
    · have hiI : (i0 : Int) < (n : Int) := by omega
      have hiz : i0 < zs.length := by rw [← hn.out]; exact hi0
      obtain ⟨b, o, rfl, hcell⟩ := HH.out (by omega)
      have cc := hcell i0 hiz
      have htk := take_snoc zs i0 hiz
      obtain ⟨z, hz⟩ : ∃ z, z = zs[i0]'hiz := ⟨_, rfl⟩
      rw [← hz] at cc htk
      have HT := Lib.hid htk
      have HZ := Lib.hid (show z ∈ zs by rw [hz]; exact List.getElem_mem hiz)
      clear hcell htk hz hiz
      rcases h2 : (z == 2) with _ | _
      · rcases h1 : (z == 1) with _ | _
        · go_wp2
          go_ret
          refine ⟨?_, rfl⟩
          have hna : zs.all (fun v => v == 1 || v == 2) = false := by
            rw [List.all_eq_false]
            exact ⟨z, HZ.out, by simp [h1, h2]⟩
          unfold says3L
          rw [hna]
          rfl
        · have hs2 : Hid ((1 : Int) = if (zs.take (i0 + 1)).any (fun v => v == 1) then 1 else 2) := Lib.hid (by rw [HT.out, List.any_append]; simp [h1])
          have ha2 : Hid ((zs.take (i0 + 1)).all (fun v => v == 1 || v == 2) = true) := Lib.hid (by rw [HT.out, List.all_append, hall.out]; simp [h1])
          go_wp2
          go_roundw
          case rel => exact ⟨i0 + 1, 1, by omega, by go_num, rfl, hs2, ha2, trivial⟩
          case measure => simp [intOf]; omega
      · have h1 : (z == 1) = false := by
          have : z = 2 := by simpa using h2
          subst this; rfl
        have hs2 : Hid (sv = if (zs.take (i0 + 1)).any (fun v => v == 1) then 1 else 2) := Lib.hid (by rw [HT.out, List.any_append, hsv.out]; simp [h1])
        have ha2 : Hid ((zs.take (i0 + 1)).all (fun v => v == 1 || v == 2) = true) := Lib.hid (by rw [HT.out, List.all_append, hall.out]; simp [h2])
        go_wp2
        go_roundw
        case rel => exact ⟨i0 + 1, sv, by omega, by go_num, rfl, hs2, ha2, trivial⟩
        case measure => simp [intOf]; omega
    · obtain rfl : i0 = n := by omega
      have hiI : ¬ (i0 : Int) < (i0 : Int) := by omega
      have hF : Hid (says3L zs = sv) := Lib.hid (by
        have hl : zs.take i0 = zs := List.take_of_length_le (by rw [← hn.out]; exact Nat.le_refl _)
        have h1 := hall.out
        have h2 := hsv.out
        rw [hl] at h1 h2
        unfold says3L
        rw [h1, if_pos rfl]
        exact h2.symm)
      go_wp2
      go_ret
      exact ⟨by rw [hF.out]; rfl, rfl⟩
end Go.Proofs.Ytepcafkgpkbimaa
