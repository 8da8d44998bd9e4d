/- Layer 9: leave. -/
import Derived.Test.YtkhnhidckiopnaaEe
import Derived.Test.YtkhnhidckiopnaaInvU
import Derived.Great.Walk
import Derived.Lib.SliceRun
import Derived.Laws.CopyOwn
namespace Go.Proofs.Ytkhnhidckiopnaa
open Go.RowKit
set_option linter.unusedVariables false
set_option linter.unusedSimpArgs false

theorem Try.infoSl : (Try.prog.info? 31).map (fun i => (i.zero, i.size, i.bytes)) = some (some (.slice none 0 0), 1, 24) := by kernel_rfl
theorem grown_setRow (w : World) (g : Nat) (cs : Array Value) : w.grownBy (w.setRow g cs) (some g) := ⟨rfl, rfl, rfl, by simp [World.setRow], fun k _ hne => setRow_other w g k cs (fun e => hne (by rw [e]))⟩
theorem setCells_blk {g : Nat} {t : TypeId} : ∀ (vs : List Value) (o : Nat) (w : World) (cs : Array Value), Blk w g t cs → ∃ cs', Blk (w.setCells g o vs) g t cs' ∧ cs'.size = cs.size ∧ (∀ i, (i < o ∨ o + vs.length ≤ i) → cs'[i]? = cs[i]?) ∧ w.grownBy (w.setCells g o vs) (some g)
  | [], _, w, cs, h => ⟨cs, h, rfl, fun _ _ => rfl, World.grownBy.refl w _⟩
  | v :: r, o, w, cs, h => by
    obtain ⟨cs', h1, h2, h3, h4⟩ := setCells_blk r (o + 1) (w.setCell ⟨g, o, none⟩ v) _ (h.set_ o v)
    refine ⟨cs', h1, by rw [h2, Array.size_setIfInBounds], fun i hi => ?_, grownBy_trans (grown_set w ⟨g, o, none⟩ v) h4⟩
    rw [h3 i (by simp at hi; omega), Array.getElem?_setIfInBounds_ne (by simp at hi; omega)]
theorem zero_sl : ∀ w, (zeroValue 31).run Try.prog w = .ok (.slice none 0 0) w := by
  obtain ⟨i0, hi, hz0, hz1, hz2⟩ := info_parts Try.infoSl
  intro w
  simp only [zeroValue, typeInfo]
  simp [hi, hz0]
theorem step_clear {P : Program} {w : World} {ops : Array Oper} {o : Oper} {a : Act} {K : Act → World → Prop} {Q : Exit → Act → World → Prop} {E : Prop} (hgd : o.guard = none) (s : Operand) (t : TypeId)
    (ho : o.op = .call { callee := .builtin .clear, args := #[s], argTypes := #[t] }) (x v : Value) (w' : World) (hs : a.eval s = x) (hrun : (Builtin.clear_ #[t] o.type #[x]).run P w = .ok v w') (h : K (a.put o.dst v) w') :
    if Region.wanted o (yielded ops a.tmps) = true then Oper.wp P o a w K Q else E := by
  have hw : Region.wanted o (yielded ops a.tmps) = true := by simp [Region.wanted, hgd]
  rw [if_pos hw]
  unfold Oper.wp execOp
  simp only [ho, resolve, invoke, builtin, Sem.run_bind, Sem.run_pure, Result.andThen_ok, List.map_toArray, List.map_cons, List.map_nil, hs, hrun]
  exact h
theorem step_copy {P : Program} {w : World} {ops : Array Oper} {o : Oper} {a : Act} {K : Act → World → Prop} {Q : Exit → Act → World → Prop} {E : Prop} (hgd : o.guard = none) (s x : Operand) (t : TypeId)
    (ho : o.op = .call { callee := .builtin .copy, args := #[s, x], argTypes := #[t, t] }) (sv xv v : Value) (w' : World) (hs : a.eval s = sv) (hx : a.eval x = xv) (hrun : (Builtin.copy_ #[t, t] o.type #[sv, xv]).run P w = .ok v w') (h : K (a.put o.dst v) w') :
    if Region.wanted o (yielded ops a.tmps) = true then Oper.wp P o a w K Q else E := by
  have hw : Region.wanted o (yielded ops a.tmps) = true := by simp [Region.wanted, hgd]
  rw [if_pos hw]
  unfold Oper.wp execOp
  simp only [ho, resolve, invoke, builtin, Sem.run_bind, Sem.run_pure, Result.andThen_ok, List.map_toArray, List.map_cons, List.map_nil, hs, hx, hrun]
  exact h
theorem run_copy_leave {u : World} {g n k m so : Nat} {cs : Array Value} (h : Blk u g 51 cs) (hs : cs.size = 69) (hk : n + m = k) (hso : m ≠ 0 → so = n) (hk2 : k ≤ 64) (h1 : ∀ i, i < k → ∃ A m c, cs[2 + i]? = some (.slice A m c)) : ∃ u' cs', (Builtin.copy_ #[54, 54] 3 #[.slice (some ⟨g, 2, none⟩) 64 64, .slice (some ⟨g, 2 + so, none⟩) m (64 - n)]).run Try.prog u = .ok (.int .i64 (m : Nat)) u' ∧ Blk u' g 51 cs' ∧ u.grownBy u' (some g) ∧ cs'.size = 69 ∧ (∀ i, i < m → cs'[2 + i]? = cs[2 + n + i]?) ∧ ∀ i, (i < 2 ∨ 66 ≤ i) → cs'[i]? = cs[i]? := by
  obtain ⟨i0, hi, hz0, hz1, hz2⟩ := info_parts Try.infoSl
  have hsi : (Try.prog.info? 31).map (·.size) = some 1 := by rw [hi]; simp [hz1]
  obtain ⟨vals, hv⟩ : ∃ vals, vals = (cs.toList.drop (2 + n)).take m := ⟨_, rfl⟩
  have hl : vals.length = m := by rw [hv]; simp; omega
  have hg : ∀ i, i < m → vals[i]? = cs[2 + n + i]? := by
    intro i hi
    rw [hv, List.getElem?_take_of_lt hi, List.getElem?_drop, Array.getElem?_toList]
  have e2 : (cs.toList.take 2).length = 2 := by simp; omega
  have hrun := run_copy_row Try.prog u 54 54 3 31 g 2 64 64 ⟨g, 2 + so, none⟩ m (64 - n) cs 51 vals Try.underlying54 hsi h (by rw [hl]; exact (Nat.min_eq_left (by omega)).symm)
    (fun j v hj => by
      have hjm : j < m := by rw [← hl]; exact (List.getElem?_eq_some_iff.1 hj).1
      have hso2 := hso (by omega)
      subst hso2
      have hadd : (⟨g, 2 + so, none⟩ : Addr).add j = ⟨g, 2 + so + j, none⟩ := by unfold Addr.add; split <;> simp_all
      rw [hadd, h.cell, ← hg j hjm, hj])
    (by rw [hl, hs]; omega)
    (fun v hvm => by
      obtain ⟨j, hj⟩ := List.getElem?_of_mem hvm
      have hjm : j < m := by rw [← hl]; exact (List.getElem?_eq_some_iff.1 hj).1
      obtain ⟨A, m1, c, e⟩ := h1 (n + j) (by omega)
      rw [hg j hjm, Nat.add_assoc, e] at hj
      cases hj
      rfl)
  rw [hl] at hrun
  refine ⟨_, _, hrun, setRow_heap u g cs _ 51 (0, 0) h, grown_setRow _ _ _, ?_, ?_, ?_⟩
  · simp [hl]; omega
  · intro i hi
    rw [List.getElem?_toArray, List.append_assoc, List.getElem?_append_right (by rw [e2]; omega), e2, List.getElem?_append_left (by omega), show 2 + i - 2 = i by omega, hg i hi]
  · intro i hi
    rw [List.getElem?_toArray, List.append_assoc]
    rcases hi with hi | hi
    · rw [List.getElem?_append_left (by rw [e2]; omega), List.getElem?_take_of_lt hi, Array.getElem?_toList]
    · rw [List.getElem?_append_right (by rw [e2]; omega), e2, List.getElem?_append_right (by omega), List.getElem?_drop, hl, show 2 + m + (i - 2 - m) = i by omega, Array.getElem?_toList]
/-- What the copy leaves; 66: whether the count is laid too. -/
def Cop (w : World) (g n m : Nat) (cs : Array Value) (u : World) : Prop := ∃ cs1 : Array Value, Blk u g 51 cs1 ∧ cs1.size = 69 ∧ (∀ i, i < m → cs1[2 + i]? = cs[2 + n + i]?) ∧ (∀ i, (i < 2 ∨ 67 ≤ i) → cs1[i]? = cs[i]?) ∧ w.grownBy u (some g)
def Mid (w : World) (g n m : Nat) (cs : Array Value) (u : World) : Prop := ∃ cs1 : Array Value, Blk u g 51 cs1 ∧ cs1.size = 69 ∧ (∀ i, i < m → cs1[2 + i]? = cs[2 + n + i]?) ∧ (∀ i, (i < 2 ∨ 67 ≤ i) → cs1[i]? = cs[i]?) ∧ w.grownBy u (some g) ∧ cs1[66]? = some (.int .i64 (m : Nat))
theorem Cop.set {w u : World} {g n m : Nat} {cs : Array Value} (h : Cop w g n m cs u) (hm : m ≤ 64) (t : Value) : Cop w g n m cs (u.setCell ⟨g, 66, none⟩ t) := by
  obtain ⟨cs1, h1, h2, h3, h4, h5⟩ := h
  exact ⟨_, h1.set_ 66 t, by rw [Array.size_setIfInBounds]; exact h2, fun i hi => by rw [Array.getElem?_setIfInBounds_ne (by omega)]; exact h3 i hi, fun i hi => by rw [Array.getElem?_setIfInBounds_ne (by omega)]; exact h4 i hi, grownBy_trans h5 (grown_set u ⟨g, 66, none⟩ t)⟩
theorem Cop.mid {w u : World} {g n m : Nat} {cs : Array Value} (h : Cop w g n m cs u) (hm : m ≤ 64) : Mid w g n m cs (u.setCell ⟨g, 66, none⟩ (.int .i64 (m : Nat))) := by
  obtain ⟨cs1, h1, h2, h3, h4, h5⟩ := h
  exact ⟨_, h1.set_ 66 _, by rw [Array.size_setIfInBounds]; exact h2, fun i hi => by rw [Array.getElem?_setIfInBounds_ne (by omega)]; exact h3 i hi, fun i hi => by rw [Array.getElem?_setIfInBounds_ne (by omega)]; exact h4 i hi, grownBy_trans h5 (grown_set u ⟨g, 66, none⟩ _), by rw [Array.getElem?_setIfInBounds_self_of_lt (by rw [h2]; omega)]⟩
theorem Mid.drew {w u : World} {g n m : Nat} {cs : Array Value} (h : Mid w g n m cs u) : Mid w g n m cs u.drew := by
  obtain ⟨cs', h1, h2, h3, h4, h5, h6⟩ := h
  exact ⟨cs', h1, h2, h3, h4, grownBy_trans h5 (grown_of (below_drew u) _), h6⟩

def VLv (w0 : World) (g n k m so : Nat) (cs : Array Value) (i : Nat) (v : Value) (w : World) : Prop :=
  match i with
  | 0 => v = .pointer (some ⟨g, 0, none⟩)
  | 1 => v = .pointer (some ⟨g, 0, none⟩)
  | 2 => v = .pointer (some ⟨g, 0, none⟩)
  | 3 => v = .pointer (some ⟨g, 2, none⟩)
  | 4 => v = .slice (some ⟨g, 2, none⟩) 64 64
  | 5 => v = .pointer (some ⟨g, 0, none⟩)
  | 6 => v = .pointer (some ⟨g, 0, none⟩)
  | 7 => v = .pointer (some ⟨g, 2, none⟩)
  | 8 => v = .int .i64 n
  | 9 => v = .pointer (some ⟨g, 0, none⟩)
  | 10 => v = .pointer (some ⟨g, 0, none⟩)
  | 11 => v = .pointer (some ⟨g, 66, none⟩)
  | 12 => v = .int .i64 k
  | 13 => v = .slice (some ⟨g, 2 + so, none⟩) m (64 - n)
  | 14 => v = .int .i64 (m : Nat) ∧ Cop w0 g n m cs w
  | 15 => v = .pointer (some ⟨g, 0, none⟩)
  | 16 => v = .pointer (some ⟨g, 66, none⟩)
  | 17 => Mid w0 g n m cs w
  | _ => True

def ELv (g : Nat) (q : Nat) (u u' : World) : Prop := match q with
  | 14 => True
  | 17 => ∃ t, u' = u.setCell ⟨g, 66, none⟩ t
  | _ => u' = u
def TLv (g : Nat) (cs : Array Value) (j : Nat) (u : World) : Prop := match j with
  | 12 => Blk u g 51 cs
  | 14 => Blk u g 51 cs
  | _ => True
theorem VLv.mono {w0 : World} {g n k m so : Nat} {cs : Array Value} {q i : Nat} {v : Value} {u u' : World} (hm : m ≤ 64) (he : ELv g q u u') (hik : i ≠ q) (h17 : i = 17 ∧ q = 14 → False) (hv : VLv w0 g n k m so cs i v u) : VLv w0 g n k m so cs i v u' := by
  unfold ELv at he
  split at he
  · unfold VLv at hv ⊢
    split at hv <;> first | with_reducible exact hv | exact absurd rfl hik | exact absurd ⟨rfl, rfl⟩ h17
  · obtain ⟨t, rfl⟩ := he
    unfold VLv at hv ⊢
    split at hv <;> first | with_reducible exact hv | exact absurd rfl hik | exact ⟨hv.1, hv.2.set hm t⟩
  · rw [he]; exact hv
theorem TLv.mono {g : Nat} {cs : Array Value} {q j : Nat} {u u' : World} (he : ELv g q u u') (hqj : q ≠ j) (h : (j = 12 ∧ q = 14) ∨ ((j = 12 ∨ j = 14) ∧ q = 17) → False) (hv : TLv g cs j u) : TLv g cs j u' := by
  unfold ELv at he
  split at he
  · unfold TLv at hv ⊢
    split at hv <;> first | exact absurd rfl hqj | exact absurd (.inl ⟨rfl, rfl⟩) h | trivial
  · unfold TLv at hv ⊢
    split at hv <;> first | exact absurd rfl hqj | exact absurd (.inr ⟨.inl rfl, rfl⟩) h | exact absurd (.inr ⟨.inr rfl, rfl⟩) h | trivial
  · rw [he]; exact hv
theorem TLv.of {g : Nat} {cs : Array Value} {u : World} (h : Blk u g 51 cs) (j : Nat) : TLv g cs j u := by
  unfold TLv; split <;> first | exact h | trivial

def VLc (g m : Nat) (i : Nat) (v : Value) (w : World) : Prop :=
  match i with
  | 0 => v = .pointer (some ⟨g, 0, none⟩)
  | 1 => v = .pointer (some ⟨g, 0, none⟩)
  | 2 => v = .pointer (some ⟨g, 2, none⟩)
  | 3 => v = .pointer (some ⟨g, 0, none⟩)
  | 4 => v = .pointer (some ⟨g, 0, none⟩)
  | 5 => v = .pointer (some ⟨g, 66, none⟩)
  | 6 => v = .int .i64 m
  | 7 => v = .slice (some ⟨g, 2 + m, none⟩) (64 - m) (64 - m)
  | _ => True

theorem VLc.mono {g m i : Nat} {v : Value} {u u' : World} (hv : VLc g m i v u) : VLc g m i v u' := by
  unfold VLc at hv ⊢; split at hv <;> exact hv
theorem leave_end {w w' : World} {g S W f x a n m k : Nat} {q : List (List UInt8)} {cs cs1 : Array Value} (h : EndAt w g S W q f x cs) (hk : k = q.length) (hm : n + m = k) (hn : a = f + n) (hb : Blk w' g 51 (cs1.setIfInBounds 67 (.int .i64 (a : Nat)))) (hs : cs1.size = 69) (h1 : ∀ i, i < m → cs1[2 + i]? = cs[2 + n + i]?) (h2 : ∀ i, (i < 2 ∨ 67 ≤ i) → cs1[i]? = cs[i]?) (h3 : cs1[66]? = some (.int .i64 (m : Nat))) (hg : w.grownBy w' (some g)) : EndAt w' g S W (q.drop n) a x (cs1.setIfInBounds 67 (.int .i64 (a : Nat))) := by
  have hl : (q.drop n).length = m := by rw [List.length_drop]; omega
  have hql := h.ql
  refine ⟨hb, by rw [Array.size_setIfInBounds]; exact hs, ?_, ?_, ?_, ?_, ?_, h.s0, h.w1, h.w2, by omega, fun d hd => h.qs d (List.mem_of_mem_drop hd), by have := h.fq; omega, h.xl, fun i hi => ?_⟩
  · rw [Array.getElem?_setIfInBounds_ne (by omega), h2 0 (by omega)]; exact h.c0
  · rw [Array.getElem?_setIfInBounds_ne (by omega), h2 1 (by omega)]; exact h.c1
  · rw [Array.getElem?_setIfInBounds_ne (by omega), h3, hl]
  · rw [Array.getElem?_setIfInBounds_self_of_lt (by omega)]
  · rw [Array.getElem?_setIfInBounds_ne (by omega), h2 68 (by omega)]; exact h.c68
  · obtain ⟨A, c, e, hd⟩ := h.at_ (n + i) (by omega)
    have e1 : (q.drop n)[i]'hi = q[n + i]'(by omega) := by rw [List.getElem_drop]
    refine ⟨A, c, ?_, ?_⟩
    · rw [Array.getElem?_setIfInBounds_ne (by omega), h1 i (by omega), Nat.add_assoc, e, e1]
    · rw [e1]; exact hd.grown hg (.inl rfl)
theorem leave_old {w : World} {g S W f x : Nat} {q : List (List UInt8)} {cs : Array Value} (h : EndAt w g S W q f x cs) (a : Nat) (ha : a ≤ f) :
    Calls Try.prog 30 #[.pointer (some ⟨g, 0, none⟩), .int .i64 a] w fun e w' => (∃ v, e = .returned v) ∧ w = w' := by
  have c67 := (h.blk.cell 67).trans h.c67
  have hfq := h.fq
  have hw : IntKind.i64.wrap ((a : Int) - (f : Int)) = (a : Int) - (f : Int) := IntWalk.i64_in _ (by omega)
  have hle : (a : Int) - (f : Int) ≤ 0 := by omega
  have hle2 : (a : Int) ≤ (f : Int) := by omega
  clear h hfq
  go_enter Try.func30, Try.ntmps30
  go_wp2
  refine bodyPost_ret (results_none (by rfl) _ _ _) rfl ?_
  exact ⟨⟨_, rfl⟩, rfl⟩
set_option maxRecDepth 100000 in
set_option maxHeartbeats 4000000 in
theorem leave_some {w : World} {g S W f x : Nat} {q : List (List UInt8)} {cs : Array Value} (h : EndAt w g S W q f x cs) (a n : Nat) (hn : a = f + n) (hn0 : 0 < n) (hnq : n ≤ q.length) :
    Calls Try.prog 30 #[.pointer (some ⟨g, 0, none⟩), .int .i64 a] w fun e w' => (∃ v, e = .returned v) ∧ (∃ cs', EndAt w' g S W (q.drop n) a x cs') ∧ w.grownBy w' (some g) := by
  have c67 := (h.blk.cell 67).trans h.c67
  have hfq := h.fq
  have hw : IntKind.i64.wrap ((a : Int) - (f : Int)) = (n : Int) := by
    have := IntWalk.i64_in ((a : Int) - (f : Int)) (by omega)
    rw [this]; omega
  have hle : ¬ (n : Int) ≤ 0 := by omega
  obtain ⟨k, hk⟩ : ∃ k, k = q.length := ⟨_, rfl⟩
  obtain ⟨m, hm⟩ : ∃ m, n + m = k := ⟨k - n, by omega⟩
  have hcnt : Hid (cs[66]? = some (.int .i64 (k : Nat))) := Lib.hid (by rw [hk]; exact h.c66)
  have hk64 : k ≤ 64 := by rw [hk]; exact h.ql
  have hsz : Hid (cs.size = 69) := Lib.hid h.size
  have Hat : Hid (∀ i, i < k → ∃ A m c, cs[2 + i]? = some (.slice A m c)) := Lib.hid (fun i hi => by obtain ⟨A, c, e, _⟩ := h.at_ i (by omega); exact ⟨A, _, c, e⟩)
  have hb0 := h.blk
  have hgl := h.blk.lt
  have HX := Lib.hid (And.intro h (And.intro hk (And.intro hm (And.intro hn hfq))))
  have hnk : (n : Int) ≤ (k : Int) := by omega
  have hkI : (k : Int) ≤ 64 := by omega
  have hmI : (m : Int) ≤ 64 := by omega
  have hm64 : m < 64 := by omega
  obtain ⟨so, hso⟩ : ∃ so, Hid ((if 64 = n then (⟨g, 2, none⟩ : Addr) else ⟨g, 2 + n, none⟩) = ⟨g, 2 + so, none⟩ ∧ (m ≠ 0 → so = n)) := by
    by_cases h64 : 64 = n
    · exact ⟨0, Lib.hid ⟨if_pos h64, fun h => by omega⟩⟩
    · exact ⟨n, Lib.hid ⟨if_neg h64, fun _ => rfl⟩⟩
  clear h hk hn hfq hnq
  go_enter Try.func30, Try.ntmps30
  go_wp2_with fail
  refine wp_region_invT (F := ?FL) (V := VLv w g n k m so cs) (dead := fun _ => none) (T := TLv g cs) (C := fun u' => w.grownBy u' (some g)) (E := ELv g) (by kernel_rfl) (by kernel_rfl) (by kernel_rfl) (fun x => ?hFL) ?hmonoL ?hTmL ?hTL ?hCL ?stepL ?finL
  case hFL => simp only [mkA, Act.put, List.setIfInBounds_toArray, List.set_cons_succ, List.set_cons_zero, Nat.reduceAdd, Nat.zero_add]; first | with_reducible rfl | rfl
  case hmonoL => exact fun q' i v u u' he hik hwt hdd hv => VLv.mono (by omega) he hik (fun h => by obtain ⟨h1, h2⟩ := h; exact ltf hwt (by rw [h1, h2]; kernel_rfl)) hv
  case hTmL => exact fun q' j u u' he hkj hwt hv => TLv.mono he hkj (fun h => by rcases h with ⟨h1, h2⟩ | ⟨h1 | h1, h2⟩ <;> exact ltf hwt (by rw [h1, h2]; kernel_rfl)) hv
  case hTL => exact fun j => TLv.of (u := w.drew) (show Blk w.drew g _ cs from hb0) j
  case hCL => exact grown_of (below_drew w) _
  case stepL =>
    refine AllOps.cons (fun x u hC hT hp K hK => ?_) ?_
    · clear hp hT
      go_simp
      refine hK _ _ _ hC (by rfl) (by exact rfl) ?_
      first | (simp only [Act.put, List.setIfInBounds_toArray, List.set_cons_succ, List.set_cons_zero]; done) | simp [Act.put]
    refine AllOps.cons (fun x u hC hT hp K hK => ?_) ?_
    · clear hp hT
      go_simp
      refine hK _ _ _ hC (by rfl) (by exact rfl) ?_
      first | (simp only [Act.put, List.setIfInBounds_toArray, List.set_cons_succ, List.set_cons_zero]; done) | simp [Act.put]
    refine AllOps.cons (fun x u hC hT hp K hK => ?_) ?_
    · simp [KnownTill, Region.binds, VLv] at hp
      clear hT
      go_simp
      refine hK _ _ _ hC (by rfl) (by exact rfl) ?_
      first | (simp only [Act.put, List.setIfInBounds_toArray, List.set_cons_succ, List.set_cons_zero, hp]; done) | simp [Act.put, hp]
    refine AllOps.cons (fun x u hC hT hp K hK => ?_) ?_
    · simp [KnownTill, Region.binds, VLv] at hp
      clear hT
      go_simp
      refine hK _ _ _ hC (by rfl) (by exact rfl) ?_
      first | (simp only [Act.put, List.setIfInBounds_toArray, List.set_cons_succ, List.set_cons_zero, hp]; done) | simp [Act.put, hp]
    refine AllOps.cons (fun x u hC hT hp K hK => ?_) ?_
    · simp [KnownTill, Region.binds, VLv] at hp
      clear hT
      go_simp
      refine hK _ _ _ hC (by rfl) (by exact rfl) ?_
      first | (simp only [Act.put, List.setIfInBounds_toArray, List.set_cons_succ, List.set_cons_zero, hp]; done) | simp [Act.put, hp]
    refine AllOps.cons (fun x u hC hT hp K hK => ?_) ?_
    · clear hp hT
      go_simp
      refine hK _ _ _ hC (by rfl) (by exact rfl) ?_
      first | (simp only [Act.put, List.setIfInBounds_toArray, List.set_cons_succ, List.set_cons_zero]; done) | simp [Act.put]
    refine AllOps.cons (fun x u hC hT hp K hK => ?_) ?_
    · simp [KnownTill, Region.binds, VLv] at hp
      clear hT
      go_simp
      refine hK _ _ _ hC (by rfl) (by exact rfl) ?_
      first | (simp only [Act.put, List.setIfInBounds_toArray, List.set_cons_succ, List.set_cons_zero, hp]; done) | simp [Act.put, hp]
    refine AllOps.cons (fun x u hC hT hp K hK => ?_) ?_
    · simp [KnownTill, Region.binds, VLv] at hp
      clear hT
      go_simp
      refine hK _ _ _ hC (by rfl) (by exact rfl) ?_
      first | (simp only [Act.put, List.setIfInBounds_toArray, List.set_cons_succ, List.set_cons_zero, hp]; done) | simp [Act.put, hp]
    refine AllOps.cons (fun x u hC hT hp K hK => ?_) ?_
    · clear hp hT
      go_simp
      refine hK _ _ _ hC (by rfl) (by exact rfl) ?_
      first | (simp only [Act.put, List.setIfInBounds_toArray, List.set_cons_succ, List.set_cons_zero]; done) | simp [Act.put]
    refine AllOps.cons (fun x u hC hT hp K hK => ?_) ?_
    · clear hp hT
      go_simp
      refine hK _ _ _ hC (by rfl) (by exact rfl) ?_
      first | (simp only [Act.put, List.setIfInBounds_toArray, List.set_cons_succ, List.set_cons_zero]; done) | simp [Act.put]
    refine AllOps.cons (fun x u hC hT hp K hK => ?_) ?_
    · simp [KnownTill, Region.binds, VLv] at hp
      clear hT
      go_simp
      refine hK _ _ _ hC (by rfl) (by exact rfl) ?_
      first | (simp only [Act.put, List.setIfInBounds_toArray, List.set_cons_succ, List.set_cons_zero, hp]; done) | simp [Act.put, hp]
    refine AllOps.cons (fun x u hC hT hp K hK => ?_) ?_
    · simp [KnownTill, Region.binds, VLv] at hp
      clear hT
      go_simp
      refine hK _ _ _ hC (by rfl) (by exact rfl) ?_
      first | (simp only [Act.put, List.setIfInBounds_toArray, List.set_cons_succ, List.set_cons_zero, hp]; done) | simp [Act.put, hp]
    refine AllOps.cons (fun x u hC hT hp K hK => ?_) ?_
    · simp [KnownTill, Region.binds, VLv] at hp
      have kb : Blk u g 51 cs := hT
      have c66 := kb.cell 66
      rw [hcnt.out] at c66
      clear kb hT
      go_simp
      refine hK _ _ _ hC (by rfl) (by exact rfl) ?_
      first | (simp only [Act.put, List.setIfInBounds_toArray, List.set_cons_succ, List.set_cons_zero, hp]; done) | simp [Act.put, hp]
    refine AllOps.cons (fun x u hC hT hp K hK => ?_) ?_
    · simp [KnownTill, Region.binds, VLv] at hp
      clear hT
      have h7 : x 7 = .pointer (some ⟨g, 2, none⟩) := by first | exact hp.1 | exact hp.2.1 | exact hp.2.2
      have h8 : x 8 = .int .i64 n := by first | exact hp.1 | exact hp.2.1 | exact hp.2.2
      have h12 : x 12 = .int .i64 k := by first | exact hp.1 | exact hp.2.1 | exact hp.2.2
      clear hp
      go_simp
      refine hK (.slice (some ⟨g, 2 + so, none⟩) m (64 - n)) _ _ hC (by rfl) (by exact rfl) ?_
      have hkm : k - n = m := by omega
      have hso1 := hso.out.1
      simp [Act.put, h7, h8, h12, hkm, hso1]
    refine AllOps.cons (fun x u hC hT hp K hK => ?_) ?_
    · simp [KnownTill, Region.binds, VLv] at hp
      have h4 : x 4 = .slice (some ⟨g, 2, none⟩) 64 64 := by first | exact hp.1 | exact hp.2.1 | exact hp.2
      have h13 : x 13 = .slice (some ⟨g, 2 + so, none⟩) m (64 - n) := by first | exact hp.1 | exact hp.2.1 | exact hp.2
      obtain ⟨u1, cs1, hrun, p1, p2, p3, p4, p5⟩ := run_copy_leave (u := u) (show Blk u g 51 cs from hT) hsz.out HX.out.2.2.1 hso.out.2 hk64 Hat.out
      refine step_copy rfl (.tmp 17) (.tmp 26) 54 rfl (.slice (some ⟨g, 2, none⟩) 64 64) (.slice (some ⟨g, 2 + so, none⟩) m (64 - n)) _ u1 (by simp [mkA, Act.eval, h4]) (by simp [mkA, Act.eval, h13]) hrun ?_
      refine hK _ _ _ (grownBy_trans hC p2) trivial ⟨rfl, cs1, p1, p3, p4, fun i hi => p5 i (by omega), grownBy_trans hC p2⟩ ?_
      simp [Act.put, h4, h13]
    refine AllOps.cons (fun x u hC hT hp K hK => ?_) ?_
    · simp [KnownTill, Region.binds, VLv] at hp
      clear hT
      go_simp
      refine hK _ _ _ hC (by rfl) (by exact rfl) ?_
      first | (simp only [Act.put, List.setIfInBounds_toArray, List.set_cons_succ, List.set_cons_zero, hp]; done) | simp [Act.put, hp]
    refine AllOps.cons (fun x u hC hT hp K hK => ?_) ?_
    · simp [KnownTill, Region.binds, VLv] at hp
      clear hT
      go_simp
      refine hK _ _ _ hC (by rfl) (by exact rfl) ?_
      first | (simp only [Act.put, List.setIfInBounds_toArray, List.set_cons_succ, List.set_cons_zero, hp]; done) | simp [Act.put, hp]
    refine AllOps.cons (fun x u hC hT hp K hK => ?_) ?_
    · simp [KnownTill, Region.binds, VLv] at hp
      clear hT
      have h16 : x 16 = .pointer (some ⟨g, 66, none⟩) := by first | exact hp.1 | exact hp.2.1 | exact hp.2 | exact hp.2.2
      have h14 : x 14 = .int .i64 (m : Nat) ∧ Cop w g n m cs u := by first | exact hp.2.1 | exact hp.1 | exact hp.2 | exact hp.2.2 | exact ⟨hp.1, hp.2.1⟩ | exact ⟨hp.2.1, hp.2.2⟩
      obtain ⟨h14, hcop⟩ := h14
      have hmid := hcop.mid (by omega : m ≤ 64)
      obtain ⟨cs1, k1, s1, _, _, _⟩ := hcop
      obtain ⟨z, hz⟩ : ∃ z, cs1[66]? = some z := ⟨_, Array.getElem?_eq_getElem (by omega)⟩
      have y := (k1.cell 66).trans hz
      have fz := k1.frozen 66
      have gs := grownBy_trans hC (grown_set u ⟨g, 66, none⟩ (.int .i64 (m : Nat)))
      have HM := Lib.hid (And.intro hmid gs)
      clear hmid k1 s1 hz gs hp
      go_simp
      refine hK undef _ _ HM.out.2 ⟨_, rfl⟩ HM.out.1 ?_
      simp [Act.put, h14, h16]
    exact AllOps.nil
  case finL =>
    intro x2 u2 hC hV
    have hmid : Mid w g n m cs u2 := hV 17 (by decide) rfl
    clear hV hC hb0 c67
    go_wp2_with fail
    refine wp_region_invU (F := ?FC) (V := VLc g m) (dead := fun _ => none) (T := fun _ _ => True) (C := fun u' => Mid w g n m cs u') (E := fun _ u u' => True) (by kernel_rfl) (by kernel_rfl) (by kernel_rfl) (fun x => ?hFC) ?hmonoC ?hTmC ?hTC ?hCC ?stepC ?finC
    case hFC => simp only [mkA, Act.put, List.setIfInBounds_toArray, List.set_cons_succ, List.set_cons_zero, Nat.reduceAdd, Nat.zero_add]; first | with_reducible rfl | rfl
    case hmonoC => exact fun q' i v u u' he hik hwt hdd hv => VLc.mono hv
    case hTmC => exact fun _ _ _ _ _ _ _ _ => trivial
    case hTC => exact fun j => trivial
    case hCC => exact hmid.drew
    case stepC =>
      refine AllOps.cons (fun x u hC hT hp K hK => ?_) ?_
      · clear hp hT
        go_simp
        refine hK _ _ _ hC trivial (by exact rfl) ?_
        first | (simp only [Act.put, List.setIfInBounds_toArray, List.set_cons_succ, List.set_cons_zero]; done) | simp [Act.put]
      refine AllOps.cons (fun x u hC hT hp K hK => ?_) ?_
      · simp [KnownTill, Region.binds, VLc] at hp
        clear hT
        go_simp
        refine hK _ _ _ hC trivial (by exact rfl) ?_
        first | (simp only [Act.put, List.setIfInBounds_toArray, List.set_cons_succ, List.set_cons_zero, hp]; done) | simp [Act.put, hp]
      refine AllOps.cons (fun x u hC hT hp K hK => ?_) ?_
      · simp [KnownTill, Region.binds, VLc] at hp
        clear hT
        go_simp
        refine hK _ _ _ hC trivial (by exact rfl) ?_
        first | (simp only [Act.put, List.setIfInBounds_toArray, List.set_cons_succ, List.set_cons_zero, hp]; done) | simp [Act.put, hp]
      refine AllOps.cons (fun x u hC hT hp K hK => ?_) ?_
      · clear hp hT
        go_simp
        refine hK _ _ _ hC trivial (by exact rfl) ?_
        first | (simp only [Act.put, List.setIfInBounds_toArray, List.set_cons_succ, List.set_cons_zero]; done) | simp [Act.put]
      refine AllOps.cons (fun x u hC hT hp K hK => ?_) ?_
      · simp [KnownTill, Region.binds, VLc] at hp
        clear hT
        go_simp
        refine hK _ _ _ hC trivial (by exact rfl) ?_
        first | (simp only [Act.put, List.setIfInBounds_toArray, List.set_cons_succ, List.set_cons_zero, hp]; done) | simp [Act.put, hp]
      refine AllOps.cons (fun x u hC hT hp K hK => ?_) ?_
      · simp [KnownTill, Region.binds, VLc] at hp
        clear hT
        go_simp
        refine hK _ _ _ hC trivial (by exact rfl) ?_
        first | (simp only [Act.put, List.setIfInBounds_toArray, List.set_cons_succ, List.set_cons_zero, hp]; done) | simp [Act.put, hp]
      refine AllOps.cons (fun x u hC hT hp K hK => ?_) ?_
      · simp [KnownTill, Region.binds, VLc] at hp
        clear hT
        have hC2 := hC
        obtain ⟨cs6, k6, s6, n6, q6, g6, m6⟩ := hC
        have c6 := (k6.cell 66).trans m6
        clear k6 s6 n6 q6 g6 m6
        go_simp
        refine hK _ _ _ hC2 trivial (by exact rfl) ?_
        first | (simp only [Act.put, List.setIfInBounds_toArray, List.set_cons_succ, List.set_cons_zero, hp]; done) | simp [Act.put, hp]
      refine AllOps.cons (fun x u hC hT hp K hK => ?_) ?_
      · simp [KnownTill, Region.binds, VLc] at hp
        clear hT
        obtain ⟨h2, h6⟩ : x 2 = .pointer (some ⟨g, 2, none⟩) ∧ x 6 = .int .i64 m := by first | exact ⟨hp.1, hp.2⟩ | exact ⟨hp.2, hp.1⟩ | exact ⟨hp.1, hp.2.1⟩ | simp_all
        clear hp
        go_simp
        refine hK _ _ _ hC trivial (by exact rfl) ?_
        first | (simp only [Act.put, List.setIfInBounds_toArray, List.set_cons_succ, List.set_cons_zero, h2, h6]; done) | (simp [Act.put, h2, h6]; omega)
      refine AllOps.cons (fun x u hC hT hp K hK => ?_) ?_
      · simp [KnownTill, Region.binds, VLc] at hp
        clear hT
        have h7 : x 7 = .slice (some ⟨g, 2 + m, none⟩) (64 - m) (64 - m) := by first | exact hp | exact hp.1
        obtain ⟨cs6, k6, s6, n6, q6, g6, m6⟩ := hC
        obtain ⟨cs7, k7, s7, n7, g7⟩ := setCells_blk (List.replicate (64 - m) (.slice none 0 0)) (2 + m) u cs6 k6
        refine step_clear rfl _ 54 rfl (.slice (some ⟨g, 2 + m, none⟩) (64 - m) (64 - m)) (.tuple #[]) (u.setCells g (2 + m) (List.replicate (64 - m) (.slice none 0 0))) (by simp [mkA, Act.eval, h7]) (Lib.run_clear_slice u 54 31 _ (.slice none 0 0) Try.underlying54 zero_sl rfl rfl g (2 + m) (64 - m) (64 - m) (by omega) (fun j hj => by rw [k6.cell (2 + m + j), Array.getElem?_eq_getElem (by rw [s6]; omega)]; rfl) (fun j _ => k6.frozen (2 + m + j))) ?_
        have nz : ∀ i, (i < 2 + m ∨ 66 ≤ i) → cs7[i]? = cs6[i]? := fun i hi => n7 i (by rw [List.length_replicate]; omega)
        refine hK _ _ _ ⟨cs7, k7, by rw [s7]; exact s6, fun i hi => (nz _ (by omega)).trans (n6 i hi), fun i hi => (nz i (by omega)).trans (q6 i hi), grownBy_trans g6 g7, (nz 66 (by omega)).trans m6⟩ trivial trivial rfl
      exact AllOps.nil
    case finC =>
      intro x3 u3 hC hV
      clear hV hmid
      obtain ⟨cs6, k6, s6, n6, q6, g6, m6⟩ := hC
      obtain ⟨h, hk, hm, hn, hfq⟩ := HX.out
      have c67 := (k6.cell 67).trans ((q6 67 (by omega)).trans h.c67)
      have fz := k6.frozen 67
      have k7 := k6.set_ 67 (.int .i64 (a : Nat))
      have g7 := grownBy_trans g6 (grown_set u3 ⟨g, 67, none⟩ (.int .i64 (a : Nat)))
      have HZ := Lib.hid (And.intro k7 g7)
      clear k6 k7 g7 g6 h hk hm hn hfq
      go_wp2
      refine Go.Great.bodyPost_end0 rfl rfl ?_
      refine ⟨⟨_, rfl⟩, ⟨_, leave_end HX.out.1 HX.out.2.1 HX.out.2.2.1 HX.out.2.2.2.1 HZ.out.1 s6 n6 q6 m6 HZ.out.2⟩, HZ.out.2⟩
end Go.Proofs.Ytkhnhidckiopnaa
