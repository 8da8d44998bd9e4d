/- Parts Cf Cg Ch of one proof. -/
import Derived.Test.YtihchfjdgeehoaaMg20
namespace Go.Proofs.Ytihchfjdgeehoaa
open Go.RowKit Go.Maps Go.Joins Go.Deep
set_option linter.unusedVariables false
set_option linter.unusedSimpArgs false

/-- A call that tells no list. -/
theorem StepO.mk0 {w w1 w' : World} {B x : Nat} {o : OpV} {S S' : KS} {ws ws' : List WI} {P' : List (Int × Nat)} {v : Nat} {t : Bool} {er : Int} (hb : Below w.heap.size w w1) (hM : callM S o = ((v, t, [], er), S')) (hR : RAt w' B x P' ws' S'.L) (hr : Rel S' P' ws') (hl : ws'.length ≤ ws.length + 1) (hg : RG B w1 w' x (fun r => ∃ y ∈ ws, blk y.A = some r))
    (hA : ∀ y ∈ ws', ∀ r, blk y.A = some r → (∃ y ∈ ws, blk y.A = some r) ∨ w1.heap.size ≤ r) : StepO w B x o S ws (.returned (.tuple #[.int .u64 (v : Nat), .bool t, .slice none 0 0, .int .i64 er])) w' := by
  refine ⟨none, 0, 0, P', ws', ?_, ?_, ?_, ?_, ?_, hl, (RG.of (lbelow_grown hb (some x))).trans hg (fun _ _ h => h), fun y hy r e => (hA y hy r e).imp id (Nat.le_trans hb.size)⟩
  · rw [hM]
  · rw [hM]; rfl
  · rw [hM]; exact OwnC.nil _ _
  · rw [hM]; exact hR
  · rw [hM]; exact hr
theorem noS {B : Nat} {w1 w' : World} {x : Nat} {ws : List WI} (h : RG B w1 w' x (fun _ => False)) : RG B w1 w' x (fun r => ∃ y ∈ ws, blk y.A = some r) := h.weak fun _ hf => hf.elim
theorem Rel.drop {S : KS} {P : List (Int × Nat)} {ws : List WI} (h : Rel S P ws) (n : Int) : Rel (dropM S n) P (othersW ws n) := by
  unfold dropM
  exact h.others n h.V h.P (updW_self _ _ _) (fun m hm => updW_ne _ _ _ hm)
set_option maxHeartbeats 1000000 in
theorem mdl_step {w w' : World} {B x : Nat} {P : List (Int × Nat)} {ws : List WI} {S : KS} {o : OpV} {e : Ending} (hr : Rel S P ws) (ho : OpOk o) (h : MdlO w B x P ws S.L o e w') : StepO w B x o S ws e w' := by
  obtain ⟨w1, v, t, A, q, c, er, hb, rfl, h⟩ := h
  have hmem : ∀ y ∈ ws, ∀ r, blk y.A = some r → (∃ y ∈ ws, blk y.A = some r) ∨ w1.heap.size ≤ r := fun y hy r e => .inl ⟨y, hy, e⟩
  have hmemO : ∀ y ∈ othersW ws o.n, ∀ r, blk y.A = some r → (∃ y ∈ ws, blk y.A = some r) ∨ w1.heap.size ≤ r := fun y hy r e => .inl ⟨y, (List.mem_filter.1 hy).1, e⟩
  by_cases k3 : o.k = 3
  · rw [if_pos k3] at h
    obtain ⟨rfl, rfl, A', q', c', he, hq, hown, hR, hg⟩ := h
    injection he with he
    injection he with he
    have he := congrArg Array.toList he
    simp only [List.cons.injEq, Value.slice.injEq, Value.int.injEq, true_and, and_true] at he
    obtain ⟨⟨rfl, rfl, rfl⟩, rfl⟩ := he
    have hM : callM S o = ((0, false, (prepM S o.n).1.1, (prepM S o.n).1.2), (prepM S o.n).2) := by
      unfold callM
      rw [if_neg (by omega), if_neg (by omega), if_neg (by omega), if_pos k3]
    have hkey : (prepM S o.n).1 = (prepR ws S.L o.n).1 ∧ (prepM S o.n).2.L = (prepR ws S.L o.n).2.2 ∧ Rel (prepM S o.n).2 P (prepR ws S.L o.n).2.1 ∧ (prepR ws S.L o.n).2.1.length ≤ ws.length + 1 ∧ ∀ y ∈ (prepR ws S.L o.n).2.1, ∀ r, blk y.A = some r → (∃ y ∈ ws, blk y.A = some r) ∨ w1.heap.size ≤ r := by
      by_cases hn : o.n < 1
      · have e1 : prepM S o.n = (([], 1), S) := by unfold prepM; rw [if_pos hn]
        have e2 : prepR ws S.L o.n = (([], 1), ws, S.L) := by unfold prepR; rw [if_pos hn]
        rw [e1, e2]; exact ⟨rfl, rfl, hr, by simp, hmem⟩
      · rcases hf : findW ws o.n with _ | z
        · have e1 : prepM S o.n = (([], 0), { S with L := dropL S.L o.n }) := by unfold prepM; rw [if_neg hn, hr.cur0 hf, (hr.no _ hf).1]; rfl
          have e2 : prepR ws S.L o.n = (([], 0), othersW ws o.n, dropL S.L o.n) := by unfold prepR; rw [if_neg hn, hf]
          rw [e1, e2]
          exact ⟨rfl, rfl, hr.others o.n hr.V hr.P (hr.no _ hf).1 (fun m hm => rfl), Nat.le_trans (othersW_len _ _) (Nat.le_succ _), hmemO⟩
        · by_cases hp : z.p = true
          · have e1 : prepM S o.n = (([], 7), S) := by unfold prepM; rw [if_neg hn, hr.cur hf, if_pos hp]
            have e2 : prepR ws S.L o.n = (([], 7), ws, S.L) := by unfold prepR; rw [if_neg hn, hf]; dsimp only; rw [if_pos hp]
            rw [e1, e2]; exact ⟨rfl, rfl, hr, by simp, hmem⟩
          · by_cases hl : z.l = []
            · have hw := ((hr.yes _ _ hf).1 hl).1
              have e1 : prepM S o.n = (([], 0), { S with L := dropL S.L o.n }) := by unfold prepM; rw [if_neg hn, hr.cur hf, if_neg hp, hw]; rfl
              have e2 : prepR ws S.L o.n = (([], 0), othersW ws o.n, dropL S.L o.n) := by unfold prepR; rw [if_neg hn, hf]; dsimp only; rw [if_neg hp, if_pos (by rw [hl]; rfl)]
              rw [e1, e2]
              exact ⟨rfl, rfl, hr.others o.n hr.V hr.P hw (fun m hm => rfl), Nat.le_trans (othersW_len _ _) (Nat.le_succ _), hmemO⟩
            · have hw := (hr.yes _ _ hf).2 hl
              have e1 : prepM S o.n = ((z.l, 0), { S with W := updW S.W o.n (some (z.l, true)) }) := by unfold prepM; rw [if_neg hn, hr.cur hf, if_neg hp, hw]; rfl
              have e2 : prepR ws S.L o.n = ((z.l, 0), turnW ws { z with p := true }, S.L) := by unfold prepR; rw [if_neg hn, hf]; dsimp only; rw [if_neg hp, if_neg (fun e => hl (List.eq_nil_of_length_eq_zero e))]
              rw [e1, e2]
              rw [e2] at hR
              refine ⟨rfl, rfl, hr.turned (z' := { z with p := true }) hR.pair hf rfl (findW_mem hf).2 hl (hr.ll z (findW_mem hf).1), by unfold turnW; simp, fun y hy r e => ?_⟩
              unfold turnW at hy
              obtain ⟨y0, hy0, rfl⟩ := List.mem_map.1 hy
              split at e
              · exact .inl ⟨z, (findW_mem hf).1, e⟩
              · exact .inl ⟨y0, hy0, e⟩
    obtain ⟨h1, h2, h3, h4, h5⟩ := hkey
    refine ⟨A, q, c, P, (prepR ws S.L o.n).2.1, ?_, ?_, ?_, ?_, ?_, h4, (RG.of (lbelow_grown hb (some x))).trans (noS hg) (fun _ _ h => h), fun y hy r e => (h5 y hy r e).imp id (Nat.le_trans hb.size)⟩
    · rw [hM, h1]
    · rw [hM, h1]; exact hq
    · rw [hM, h1]; exact hown.less hb.size
    · rw [hM, h2]; exact hR
    · rw [hM]; exact h3
  rw [if_neg k3] at h
  obtain ⟨rfl, rfl, rfl, h⟩ := h
  by_cases k0 : o.k = 0
  · rw [if_pos k0] at h
    obtain ⟨q, hq, he, hR, hg⟩ := h
    obtain ⟨t1, t2, t3, t4, t5⟩ := hr.touch o.n o.y false q ho.n
    injection he with he
    injection he with he
    have he := congrArg Array.toList he
    simp only [List.cons.injEq, Value.int.injEq, Value.bool.injEq, true_and, and_true] at he
    obtain ⟨h1, rfl, rfl⟩ := he
    obtain rfl : v = (getR P (touchM ws S.L o.n o.y false q) o.n o.y).1 := by omega
    have hG : getM S o.n o.y = (getR P (touchM ws S.L o.n o.y false q) o.n o.y, (openM S o.n o.y false).2) := by
      unfold getM getR
      by_cases h0 : (openM S o.n o.y false).1 = 0
      · rw [if_pos h0, if_pos (by rw [← t1]; exact h0)]
        obtain ⟨z, hfz, _⟩ := touch_found (ws := ws) (L := S.L) (n := o.n) (y := o.y) (al := false) (q := q) (by rw [← t1]; exact h0)
        rw [hfz]
        dsimp only
        have hcz := t3.cur hfz
        have hcu : curW (openM S o.n o.y false).2 o.n = curW S o.n := by unfold curW; rw [(openM_W S o.n o.y false).1]
        rw [hcu] at hcz
        have hzl : (curW S o.n).1 = z.l := by rw [hcz]
        obtain ⟨p1, p2⟩ := pos_chg (curW S o.n).1 o.y
        unfold getZ
        split
        · rename_i hlt
          have := p1 hlt
          rw [← hzl, this]
        · rename_i hlt
          have := p2 hlt
          rw [← hzl, this]
          dsimp only
          rw [hr.val]
      · rw [if_neg h0, if_neg (by rw [← t1]; exact h0), t1]
    refine StepO.mk0 hb (S' := (openM S o.n o.y false).2) (by unfold callM; rw [if_pos k0, hG]) (by rw [t2]; exact hR) t3 t4 (noS hg) (fun y hy r e => ?_)
    rcases t5 y hy with h | ⟨_, h⟩
    · exact .inl ⟨y, h, e⟩
    · rw [h] at e; cases e
  rw [if_neg k0] at h
  obtain ⟨rfl, rfl, h⟩ := h
  by_cases k1 : o.k = 1
  · rw [if_pos k1] at h
    obtain ⟨rfl, ws', h1, h2, h3, h4, h5⟩ := change_step hr ho.n rfl h
    exact StepO.mk0 hb (by unfold callM; rw [if_neg k0, if_pos k1]) h1 h2 h3 h4 h5
  rw [if_neg k1] at h
  by_cases k2 : o.k = 2
  · rw [if_pos k2] at h
    obtain ⟨rfl, ws', h1, h2, h3, h4, h5⟩ := change_step hr ho.n rfl h
    exact StepO.mk0 hb (by unfold callM; rw [if_neg k0, if_neg k1, if_pos k2]) h1 h2 h3 h4 h5
  rw [if_neg k2] at h
  by_cases k4 : o.k = 4
  · rw [if_pos k4] at h
    obtain ⟨rfl, hR, hg⟩ := h
    by_cases hn : o.n < 1
    · have e1 : commitM S o.n = (1, S) := by unfold commitM; rw [if_pos hn]
      have e2 : commitR P ws S.L o.n = (1, P, ws, S.L) := by unfold commitR; rw [if_pos hn]
      rw [e2] at hR ⊢
      exact StepO.mk0 hb (by unfold callM; rw [if_neg k0, if_neg k1, if_neg k2, if_neg k3, if_pos k4, e1]) hR hr (by simp) (RG.of hg) hmem
    · have e1 : commitM S o.n = (0, dropM { S with V := (curW S o.n).1.foldl setV S.V } o.n) := by unfold commitM; rw [if_neg hn]
      have e2 : commitR P ws S.L o.n = (0, (listW ws o.n).foldl setPr P, othersW ws o.n, dropL S.L o.n) := by unfold commitR; rw [if_neg hn]
      rw [e2] at hR ⊢
      obtain ⟨hc, hcR⟩ := hr.cur_list o.n
      have hrel : Rel (dropM { S with V := (curW S o.n).1.foldl setV S.V } o.n) ((listW ws o.n).foldl setPr P) (othersW ws o.n) := by
        rw [hc]
        unfold dropM
        exact hr.others o.n (fold_val _ _ _ hr.V hcR.1) (POk.fold _ _ hr.P (fun c hc => (hcR.1 c hc).2)) (updW_self _ _ _) (fun m hm => updW_ne _ _ _ hm)
      exact StepO.mk0 hb (by unfold callM; rw [if_neg k0, if_neg k1, if_neg k2, if_neg k3, if_pos k4, e1]) hR hrel (Nat.le_trans (othersW_len _ _) (Nat.le_succ _)) (RG.of hg) hmemO
  rw [if_neg k4] at h
  by_cases k5 : o.k = 5
  · rw [if_pos k5] at h
    obtain ⟨rfl, hR, hg⟩ := h
    by_cases hn : o.n < 1
    · have e1 : backoutM S o.n = (1, S) := by unfold backoutM; rw [if_pos hn]
      have e2 : backR ws S.L o.n = (1, ws, S.L) := by unfold backR; rw [if_pos hn]
      rw [e2] at hR ⊢
      exact StepO.mk0 hb (by unfold callM; rw [if_neg k0, if_neg k1, if_neg k2, if_neg k3, if_neg k4, if_pos k5, e1]) hR hr (by simp) (RG.of hg) hmem
    · have e1 : backoutM S o.n = (0, dropM S o.n) := by unfold backoutM; rw [if_neg hn]
      have e2 : backR ws S.L o.n = (0, othersW ws o.n, dropL S.L o.n) := by unfold backR; rw [if_neg hn]
      rw [e2] at hR ⊢
      exact StepO.mk0 hb (by unfold callM; rw [if_neg k0, if_neg k1, if_neg k2, if_neg k3, if_neg k4, if_pos k5, e1]) hR (hr.drop o.n) (Nat.le_trans (othersW_len _ _) (Nat.le_succ _)) (RG.of hg) hmemO
  rw [if_neg k5] at h
  by_cases k6 : o.k = 6
  · rw [if_pos k6] at h
    obtain ⟨he, hg, h⟩ := h
    have he : er = restE ws S.L o.n o.l := by injection he with he; injection he
    subst he
    have hM : callM S o = ((0, false, [], (restoreM S o.n o.l).1), (restoreM S o.n o.l).2) := by unfold callM; rw [if_neg k0, if_neg k1, if_neg k2, if_neg k3, if_neg k4, if_neg k5, if_pos k6]
    have hbusy := hr.busy o.n
    rcases h with ⟨h1, hR⟩ | ⟨hn, ha, hf, h⟩
    · have hMr : restoreM S o.n o.l = (restE ws S.L o.n o.l, S) := by
        unfold restoreM restE
        by_cases hn : o.n < 1
        · rw [if_pos hn, if_pos hn]
        · rw [if_neg hn, if_neg hn]
          rcases ha : areB (fun _ => false) o.l with _ | _
          · rw [if_pos rfl, if_pos rfl]
          · rw [if_neg (show ¬ (true = false) by decide), if_neg (show ¬ (true = false) by decide), hbusy]
            rcases h1 with h1 | h1 | h1
            · exact absurd h1 hn
            · rw [ha] at h1; cases h1
            · rw [if_pos h1, if_pos h1]
      exact StepO.mk0 hb (by rw [hM, hMr]) hR hr (by omega) (noS hg) hmem
    · have hn' : ¬ o.n < 1 := by omega
      have hE : restE ws S.L o.n o.l = (takeAll S.L o.n o.l).1 := by unfold restE; rw [if_neg hn', ha, if_neg (by simp), hf, if_neg (by simp)]
      have hW := hr.no _ hf
      have hks := areB_keys _ _ ha
      have htk := takeAll_ok o.l S.L o.n hr.ok hr.nc ho.n hks
      rcases h with ⟨h1, hR⟩ | ⟨h0, hl, q, A, c, hq, hR, hA⟩
      · have hMr : restoreM S o.n o.l = ((takeAll S.L o.n o.l).1, { S with L := (takeAll S.L o.n o.l).2 }) := by
          unfold restoreM
          rw [if_neg hn', if_neg (by rw [ha]; simp), if_neg (by rw [hbusy, hf]; simp)]
          by_cases h0 : (takeAll S.L o.n o.l).1 = 0
          · rw [if_pos h0]
            have : o.l = [] := by rcases h1 with h1 | h1; exact absurd h0 h1; exact h1
            unfold restW
            rw [if_pos this, h0]
          · rw [if_neg h0]
        rw [hE]
        refine StepO.mk0 hb (S' := { S with L := (takeAll S.L o.n o.l).2 }) (by rw [hM, hMr]) hR ⟨hr.V, hr.P, htk.1, htk.2, fun m hm => ?_, fun m y hm => ?_, hr.ll⟩ (by omega) (noS hg) hmem
        · dsimp only
          rw [hasL_takeAll]
          refine ⟨(hr.no m hm).1, ?_⟩
          by_cases e : m = o.n
          · rw [if_pos e, hW.2]
            split
            · rename_i h0
              rcases h1 with h1 | h1
              · exact absurd h0 h1
              · rw [h1]; rfl
            · rfl
          · rw [if_neg e]; exact (hr.no m hm).2
        · dsimp only
          rw [hasL_takeAll, if_neg (fun e => by rw [e, hf] at hm; cases hm)]
          exact hr.yes m y hm
      · have hMr : restoreM S o.n o.l = (0, { S with L := (takeAll S.L o.n o.l).2, W := updW S.W o.n (some (o.l, true)) }) := by
          unfold restoreM
          rw [if_neg hn', if_neg (by rw [ha]; simp), if_neg (by rw [hbusy, hf]; simp), if_pos h0]
          unfold restW
          rw [if_neg hl]
        rw [hE, h0]
        refine StepO.mk0 hb (S' := { S with L := (takeAll S.L o.n o.l).2, W := updW S.W o.n (some (o.l, true)) }) (by rw [hM, hMr]) hR ⟨hr.V, hr.P, htk.1, htk.2, fun m hm => ?_, fun m y hm => ?_, fun y hy => ?_⟩ (by simp) (noS hg) (fun y hy r e => ?_)
        · dsimp only
          rw [findW_snoc] at hm
          rw [hasL_takeAll]
          rcases hm2 : findW ws m with _ | y2
          · rw [hm2] at hm
            have e : ¬ m = o.n := fun e => by subst e; simp at hm
            rw [if_neg e, updW_ne _ _ _ e]
            exact hr.no m hm2
          · rw [hm2] at hm; simp at hm
        · dsimp only
          rw [findW_snoc] at hm
          rw [hasL_takeAll]
          rcases hm2 : findW ws m with _ | y2
          · rw [hm2] at hm
            by_cases e : o.n = m
            · simp [e] at hm
              subst hm
              rw [e, updW_self]
              exact ⟨fun e => absurd e hl, fun _ => rfl⟩
            · simp [e] at hm
          · rw [hm2] at hm
            simp at hm
            subst hm
            have e : ¬ m = o.n := fun e => by rw [e, hf] at hm2; cases hm2
            rw [if_neg e, updW_ne _ _ _ e]
            exact hr.yes m y2 hm2
        · rcases List.mem_append.1 hy with hy | hy
          · exact hr.ll y hy
          · simp at hy; subst hy; exact are_iff.1 ha
        · rcases List.mem_append.1 hy with hy | hy
          · exact .inl ⟨y, hy, e⟩
          · simp at hy; subst hy; exact .inr (hA r e)
  rw [if_neg k6] at h
  obtain ⟨rfl, hR, hg⟩ := h
  exact StepO.mk0 hb (by unfold callM; rw [if_neg k0, if_neg k1, if_neg k2, if_neg k3, if_neg k4, if_neg k5, if_neg k6]) hR hr (by omega) (RG.of hg) hmem
end Go.Proofs.Ytihchfjdgeehoaa

namespace Go.Proofs.Ytihchfjdgeehoaa
open Go.RowKit Go.Maps Go.Joins Go.Deep
set_option linter.unusedVariables false
set_option linter.unusedSimpArgs false

theorem RG.kind {B0 : Nat} {w w' : World} {x k : Nat} {T : Nat → Prop} {o : Obj} (hg : RG B0 w w' x T) (hk : k ≠ x) (ho : w.heap[k]? = some o) (h : ∀ cs t fz, o = .cells cs t fz → t ≠ 44 ∧ t ≠ 86 ∧ (t = 47 → ¬ T k)) : w'.heap[k]? = w.heap[k]? := by
  rcases hg.block k (Array.getElem?_eq_some_iff.1 ho).1 hk with e | ⟨cs, fz, e⟩ | ⟨cs, fz, e⟩ | ⟨⟨cs, fz, e⟩, hT⟩
  · exact e
  · rw [e] at ho; injection ho with ho; exact absurd rfl (h _ _ _ ho.symm).1
  · rw [e] at ho; injection ho with ho; exact absurd rfl (h _ _ _ ho.symm).2.1
  · rw [e] at ho; injection ho with ho; exact absurd hT ((h _ _ _ ho.symm).2.2 rfl)
theorem own_rg {B0 : Nat} {w w' : World} {H : Type} {P : Program} {k : TypeId} {R : Value → Option (DataW H × List MemPlace)} {b n x : Nat} {D : DataW H} {T : Nat → Prop} {t : TypeId} {cs : Array Value} (h : w.ownsMap P k R b n D) (hg : RG B0 w w' x T) (hx : Blk w x t cs) : w'.ownsMap P k R b n D := by
  obtain ⟨es, clock, hb, F, hs, hD⟩ := h
  refine ⟨es, clock, (hg.kind (fun e => ?_) hb (fun cs t fz e => by cases e)).trans hb, F, hs, hD⟩
  subst e
  unfold Blk at hx
  rw [hx] at hb
  cases hb
theorem ChAt.rg {B0 : Nat} {w w' : World} {B T : Nat → Prop} {x : Nat} {A : Option Addr} {l : List Ch} {cs : Array Value} (h : ChAt w B A l) (hg : RG B0 w w' x T) (hx : Blk w x 32 cs) (hT : ∀ b, B b → ¬ T b) : ChAt w' B A l := fun hl => by
  obtain ⟨b, o, rfl, ⟨hB, cs, fz, hb⟩, hc⟩ := h hl
  have e : w'.heap[b]? = w.heap[b]? := hg.kind (fun e => by
    subst e
    unfold Blk at hx
    rw [hx] at hb
    injection hb with hb
    injection hb with _ hb _
    exact absurd hb (by decide)) hb (fun cs t fz e => by
    injection e with _ e _
    subst e
    exact ⟨by decide, by decide, fun _ => hT b hB⟩)
  have hcell : ∀ i, w'.cell? ⟨b, i, none⟩ = w.cell? ⟨b, i, none⟩ := fun i => by unfold World.cell?; rw [e]
  exact ⟨b, o, rfl, ⟨hB, cs, fz, by rw [e]; exact hb⟩, fun i hi => by rw [hcell, hcell, hcell]; exact hc i hi⟩
/-- The program's store under a call of the document's. -/
theorem KvAt.rg {B0 : Nat} {w w' : World} {g N x : Nat} {cs csx : Array Value} {S : KS} {T : Nat → Prop} (h : KvAt w g 59 cs S N) (hg : RG B0 w w' x T) (hx : Blk w x 32 csx) (hT : ∀ b, S.B b → ¬ T b) : KvAt w' g 59 cs S N := by
  obtain ⟨h1, h2, h3, ⟨m, G, h4, h5, h6⟩, ⟨h7, m2, h8, h9⟩, h10⟩ := h
  refine ⟨?_, h2, h3, ⟨m, G, h4, ?_, h6.same fun A l hc => hc.rg hg hx hT⟩, ⟨h7, m2, h8, ?_⟩, h10⟩
  · exact hg.blk h1 (fun e => h1.ne hx (by decide) e) (by decide) (by decide) (fun e => absurd e (by decide))
  · rcases h5 with h | ⟨b, D, e, h, h'⟩
    · exact .inl h
    · exact .inr ⟨b, D, e, own_rg h hg hx, h'⟩
  · rcases h9 with h | ⟨b, D, e, h, h'⟩
    · exact .inl h
    · exact .inr ⟨b, D, e, own_rg h hg hx, h'⟩
/-- The document's store under a call that writes in one block, of another kind. -/
theorem RAt.other {w w' : World} {B x g : Nat} {P : List (Int × Nat)} {ws : List WI} {L : List LRow} {tt : TypeId} {cs : Array Value} (h : RAt w B x P ws L) (hg : w.grownBy w' (some g)) (hk : Blk w g tt cs)
    (h1 : tt ≠ 32) (h2 : tt ≠ 86) (h3 : tt ≠ 44) (h4 : tt ≠ 88) (h5 : tt ≠ 116) (h6 : tt = 47 → ∀ y ∈ ws, blk y.A ≠ some g) : RAt w' B x P ws L := by
  obtain ⟨AP, nP, cP, AW, nW, cW, AL, nL, cL, hx, hnP, hnW, hnL, hpr, hpt, hl⟩ := h.ex
  refine ⟨⟨AP, nP, cP, AW, nW, cW, AL, nL, cL, hx.kept hg (fun e => hx.ne hk (fun e => h1 e.symm) (by injection e)), hnP, hnW, hnL, own_kept hpr hk (fun e => h4 e.symm) hg, own_kept hpt hk (fun e => h3 e.symm) hg, hl.kept hg fun r e => by cases e; exact .inr ⟨_, _, h5, hk⟩⟩, fun y hy => ?_, h.ds, h.sm⟩
  obtain ⟨a1, a2, a3⟩ := h.wk y hy
  refine ⟨a1, a2.kept hg (fun e => a2.ne hk (fun e => h2 e.symm) (by injection e)), ?_⟩
  by_cases e : tt = 47
  · refine World.ownsRow.kept a3 hg ?_
    rcases hb : (Value.slice y.A y.l.length y.c).ownBlock with _ | k
    · exact .inl rfl
    · refine .inr (fun e2 => ?_)
      rw [ownBlock_slice] at hb
      exact h6 e y hy (hb.trans e2)
  · exact own_kept a3 hk (fun e2 => e e2.symm) hg
/-- A document's store that no call made. -/
theorem RAt.zero (w : World) (B : Nat) : RAt (w.alloc (.cells #[.slice none 0 0, .slice none 0 0, .slice none 0 0] 32)) B w.heap.size [] [] [] :=
  ⟨⟨none, 0, 0, none, 0, 0, none, 0, 0, Blk.new _ _ _, rfl, rfl, rfl, World.ownsRow_nil _ _ _ _, World.ownsRow_nil _ _ _ _, LRows.empty _ _⟩, (fun y hy => nomatch hy), List.Pairwise.nil, ⟨by decide, by decide, by decide, fun y hy => nomatch hy⟩⟩
theorem Rel.zero (B : Nat → Prop) : Rel (KS.zero B) [] [] :=
  ⟨fun k _ => rfl, ⟨(fun x hx => nomatch hx), List.Pairwise.nil⟩, LOk.nil, (fun x hx => nomatch hx), fun n _ => ⟨rfl, rfl⟩, (fun n y h => by unfold findW at h; cases h), fun y hy => nomatch hy⟩
end Go.Proofs.Ytihchfjdgeehoaa

namespace Go.Proofs.Ytihchfjdgeehoaa
open Go.RowKit Go.Maps Go.Joins Go.Deep
set_option linter.unusedVariables false
set_option linter.unusedSimpArgs false

theorem chV_set_v {l : List Ch} {i : Nat} {x : Ch} {hi : i < l.length} {z : Nat} (hx : x = l[i]'hi) : (chV l).set (i * 3 + 2) (.int .u64 (z : Nat)) = chV (l.set i ⟨x.k, x.y, z⟩) := by
  obtain ⟨a1, a2, a3⟩ := chV_at l i hi
  rw [← chV_set]
  congr 1
  have e1 : (chV l).set (i * 3) (.int .i64 x.k) = chV l := by
    refine List.ext_getElem? fun j => ?_
    by_cases hj : j = i * 3
    · subst hj; rw [List.getElem?_set_self (by rw [chV_len]; omega), a1, hx]
    · rw [List.getElem?_set_ne (fun e => hj e.symm)]
  have e2 : (chV l).set (i * 3 + 1) (.int .i64 x.y) = chV l := by
    refine List.ext_getElem? fun j => ?_
    by_cases hj : j = i * 3 + 1
    · subst hj; rw [List.getElem?_set_self (by rw [chV_len]; omega), a2, hx]
    · rw [List.getElem?_set_ne (fun e => hj e.symm)]
  rw [e1, e2]
set_option maxRecDepth 100000 in
set_option maxHeartbeats 4000000 in
theorem call_nil (o : OpV) (w : World) (hk0 : 0 ≤ o.k) (hk6 : o.k ≤ 6) (hl : o.l.length ≤ 30) (hL : InL w o.A o.l) :
    Calls Try.prog 12 #[.pointer none, o.val] w fun e w' => e = .returned (.tuple #[.int .u64 ((0 : Nat) : Nat), .bool false, .slice none 0 0, .int .i64 6]) ∧ Below w.heap.size w w' := by
  obtain ⟨k, n, y, v, A, l, c⟩ := o
  dsimp only at hk0 hk6 hl hL
  show Calls Try.prog _ #[.pointer none, .agg #[.int .i64 k, .int .i64 n, .int .i64 y, .int .u64 (v : Nat), .slice A l.length c]] w _
  obtain ⟨q, hq⟩ : ∃ q, q = l.length := ⟨_, rfl⟩
  rw [← hq]
  obtain ⟨w1, hw1⟩ : ∃ w1, w1 = w.alloc (.cells #[.int .i64 k, .int .i64 n, .int .i64 y, .int .u64 (v : Nat), .slice A q c] 36) := ⟨_, rfl⟩
  have b1 : Below w.heap.size w w1 := by rw [hw1]; exact ba _ _
  have k1 : Blk w1 w.heap.size 36 #[.int .i64 k, .int .i64 n, .int .i64 y, .int .u64 (v : Nat), .slice A q c] := by rw [hw1]; exact Blk.new _ _ _
  have d0 := k1.cell 0
  have d1 := k1.cell 1
  have d2 := k1.cell 2
  have d3 := k1.cell 3
  have d4 := k1.cell 4
  simp only [List.getElem?_toArray, List.getElem?_cons_zero, List.getElem?_cons_succ] at d0 d1 d2 d3 d4
  have HB1 := Lib.hid b1
  have HW := Lib.hid hw1
  have HN : ∀ w2, Below w1.heap.size w1 w2 → Below w.heap.size w w2 := fun w2 h => bt b1 h
  have HNN := Lib.hid HN
  clear HN
  rw [hw1] at d0 d1 d2 d3 d4
  rcases e0 : (k == 0) with _ | _
  · rcases e1 : (k == 1) with _ | _
    · rcases e2 : (k == 2) with _ | _
      · rcases e3 : (k == 3) with _ | _
        · rcases e4 : (k == 4) with _ | _
          · rcases e5 : (k == 5) with _ | _
            · rcases e6 : (k == 6) with _ | _
              · have n0 : k ≠ 0 := by simpa using e0
                have n1 : k ≠ 1 := by simpa using e1
                have n2 : k ≠ 2 := by simpa using e2
                have n3 : k ≠ 3 := by simpa using e3
                have n4 : k ≠ 4 := by simpa using e4
                have n5 : k ≠ 5 := by simpa using e5
                have n6 : k ≠ 6 := by simpa using e6
                omega
              · obtain rfl : k = 6 := by simpa using e6
                obtain ⟨A2, c2, w2, hrun, own2, g2, hat2⟩ := ch_app (OwnC.nil w1 w1.heap.size) A c l 0 q rfl hq (fun b o e i hi => by
                  obtain ⟨b', o', e', _, hc⟩ := hL.below b1 (by omega)
                  cases e; cases e'; exact hc i hi) (fun hp => by obtain ⟨b', o', e', _⟩ := hL.below b1 hp; exact ⟨b', o', e'⟩) (Nat.le_refl _) (by simp; omega) (Nat.le_refl _)
                rw [Nat.zero_add] at hrun
                rw [List.nil_append] at own2
                have b2 : Below w1.heap.size w1 w2 := ⟨g2.os, g2.tape, g2.output, g2.size, fun k hk => g2.block k hk (by simp [blk])⟩
                have hqm : q ≤ 9223372036854775807 := by omega
                have k2 := k1.below b2 k1.lt
                have e1' := k2.cell 1
                simp only [List.getElem?_toArray, List.getElem?_cons_zero, List.getElem?_cons_succ] at e1'
                have HI : Hid (l.length = q ∧ OwnC w2 w1.heap.size A2 c2 l ∧ Below w.heap.size w w2) := Lib.hid ⟨hq.symm, own2, HNN.out w2 b2⟩
                have HS := Lib.hid b1.size
                rw [hw1] at hrun
                clear hL hl hq hw1 b1 k1 own2 g2 hat2 b2 k2
                go_enter Try.func12, Try.ntmps12
                go_wp2_with (at_builtin; refine wpList_append_run rfl (.tmp 76) (.tmp 78) 34 rfl _ _ _ w2 rfl rfl hrun ?_)
                refine (restore_nil n A2 q c2 w2).mono ?_
                rintro e w3 ⟨rfl, rfl⟩
                clear d0 d1 d2 d3 d4 e1' hrun
                go_wp2_with fail
                go_loopw [15] (fun i wr => ∃ (i0 : Nat) (l' : List Ch), i0 ≤ q ∧ i = .int .i64 i0 ∧ Hid (l'.length = q ∧ OwnC wr w1.heap.size A2 c2 l' ∧ Below w.heap.size w wr)) (fun i _ => q - (intOf i).toNat)
                case atStart => exact ⟨0, l, Nat.zero_le _, rfl, HI⟩
                case round =>
                  clear HI
                  obtain ⟨i0, l', hi, rfl, HR⟩ := hrel
                  by_cases hiq : i0 < q
                  · have hiI : (i0 : Int) < (q : Int) := by omega
                    obtain ⟨hlq, own, hgw⟩ := HR.out
                    obtain ⟨ob, cap, e⟩ := Joins.ownsRow_form own (by omega)
                    cases e
                    unfold OwnC at own
                    rw [hlq] at own
                    obtain ⟨hoB, hol⟩ := own.lt ob rfl
                    obtain ⟨a1, a2, a3⟩ := chV_at l' i0 (by omega)
                    have c1 := (own.cellAt (i0 * 3 + 2) (by omega)).trans a3
                    have f1 := own.frozenAt (i0 * 3 + 2)
                    obtain ⟨x, hx⟩ : ∃ x, x = l'[i0]'(by omega) := ⟨_, rfl⟩
                    rw [← hx] at c1
                    obtain ⟨z, hz⟩ : ∃ z, z = (x.v + 1) % 18446744073709551616 := ⟨_, rfl⟩
                    have hwz : IntKind.u64.wrap ((x.v : Int) + 1) = (z : Int) := by rw [hz]; simp [IntKind.wrap, IntKind.bits, IntKind.signed]
                    have st := own.stored (i0 * 3 + 2) (.int .u64 (z : Nat))
                    have hset : (chV l').set (i0 * 3 + 2) (.int .u64 (z : Nat)) = chV (l'.set i0 ⟨x.k, x.y, z⟩) := chV_set_v hx
                    rw [hset] at st
                    have HN : Hid ((l'.set i0 ⟨x.k, x.y, z⟩).length = q ∧ OwnC (wr.setCell ⟨ob, i0 * 3 + 2, none⟩ (.int .u64 (z : Nat))) w1.heap.size (some ⟨ob, 0, none⟩) c2 (l'.set i0 ⟨x.k, x.y, z⟩) ∧ Below w.heap.size w (wr.setCell ⟨ob, i0 * 3 + 2, none⟩ (.int .u64 (z : Nat)))) := Lib.hid
                      ⟨by rw [List.length_set, hlq], by unfold OwnC; rw [List.length_set, hlq]; exact st.1, hgw.setCell (p := ⟨ob, _, none⟩) (Nat.le_trans HS.out hoB) _⟩
                    clear hlq own hgw hoB hol a1 a2 a3 st hset hx hz HR
                    go_wp2
                    go_roundw
                    case rel => exact ⟨i0 + 1, _, by omega, by go_num, HN⟩
                    case measure => simp [intOf]; omega
                  · obtain rfl : i0 = q := by omega
                    have hiI : ¬ (i0 : Int) < (i0 : Int) := by omega
                    have HF : Hid (Below w.heap.size w wr) := Lib.hid HR.out.2.2
                    clear HR
                    go_wp2
                    go_returns
                    exact ⟨rfl, HF.out⟩
            · obtain rfl : k = 5 := by simpa using e5
              clear hL hl hq hw1 b1 k1
              go_enter Try.func12, Try.ntmps12
              go_wp2_with fail
              rw [← HW.out]
              refine (backout_nil n w1).mono ?_
              rintro e w2 ⟨rfl, rfl⟩
              have HX := HB1
              go_wp2
              go_returns
              exact ⟨rfl, HX.out⟩
          · obtain rfl : k = 4 := by simpa using e4
            clear hL hl hq hw1 b1 k1
            go_enter Try.func12, Try.ntmps12
            go_wp2_with fail
            rw [← HW.out]
            refine (commit_nil n w1).mono ?_
            rintro e w2 ⟨rfl, rfl⟩
            have HX := HB1
            go_wp2
            go_returns
            exact ⟨rfl, HX.out⟩
        · obtain rfl : k = 3 := by simpa using e3
          clear hL hl hq hw1 b1 k1
          go_enter Try.func12, Try.ntmps12
          go_wp2_with fail
          rw [← HW.out]
          refine (prep_nil n w1).mono ?_
          rintro e w2 ⟨rfl, rfl⟩
          have HX := HB1
          go_wp2
          go_returns
          exact ⟨rfl, HX.out⟩
      · obtain rfl : k = 2 := by simpa using e2
        clear hL hl hq hw1 b1 k1
        go_enter Try.func12, Try.ntmps12
        go_wp2_with fail
        rw [← HW.out]
        refine (del_nil n y w1).mono ?_
        rintro e w2 ⟨rfl, hb2⟩
        have HX := Lib.hid (HNN.out w2 hb2)
        clear hb2
        go_wp2
        go_returns
        exact ⟨rfl, HX.out⟩
    · obtain rfl : k = 1 := by simpa using e1
      clear hL hl hq hw1 b1 k1
      go_enter Try.func12, Try.ntmps12
      go_wp2_with fail
      rw [← HW.out]
      refine (put_nil n y v w1).mono ?_
      rintro e w2 ⟨rfl, hb2⟩
      have HX := Lib.hid (HNN.out w2 hb2)
      clear hb2
      go_wp2
      go_returns
      exact ⟨rfl, HX.out⟩
  · obtain rfl : k = 0 := by simpa using e0
    clear hL hl hq hw1 b1 k1
    go_enter Try.func12, Try.ntmps12
    go_wp2_with fail
    rw [← HW.out]
    refine (get_nil n y w1).mono ?_
    rintro e w2 ⟨rfl, rfl⟩
    have HX := HB1
    go_wp2
    go_returns
    exact ⟨rfl, HX.out⟩
end Go.Proofs.Ytihchfjdgeehoaa
