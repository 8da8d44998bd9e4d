/- Layer 8: paths in memory; find, put, Send, Double, Turn. -/
import Derived.Test.YtkfmhkpmlncjgaaPa0
import Derived.Test.YtkfmhkpmlncjgaaInvT
import Derived.Laws.Cover3
import Derived.Lib.OwnKind
namespace Go.Proofs.Ytkfmhkpmlncjgaa
open Go.RowKit
set_option linter.unusedVariables false
set_option linter.unusedSimpArgs false

theorem Try.infoU8 : (Try.prog.info? 5).map (fun i => (i.zero, i.size, i.bytes)) = some (some (.int .u8 0), 1, 1) := by kernel_rfl
theorem below_drew (w : World) : Below w.heap.size w w.drew := (Below.refl _ _).drew
theorem ltf {a : Bool} (h : a = false) (h2 : a = true) : False := by rw [h] at h2; cases h2
/-- Bytes that lie in a block other than g. -/
def DAt (w : World) (g : Option Nat) (A : Option Addr) (d : List UInt8) : Prop :=
  0 < d.length → ∃ b o, A = some ⟨b, o, none⟩ ∧ some b ≠ g ∧ b < w.heap.size ∧ (∃ cs fz, w.heap[b]? = some (.cells cs 5 fz)) ∧ ∀ i, (h : i < d.length) → w.cell? ⟨b, o + i, none⟩ = some (.int .u8 ((d[i]'h).toNat : Int))
theorem DAt.bs {w : World} {g : Option Nat} {A : Option Addr} {d : List UInt8} (h : DAt w g A d) : Bs w w.heap.size A d := fun hn => by
  obtain ⟨b, o, e, _, h2, _, h3⟩ := h hn; exact ⟨b, o, e, h2, h3⟩
theorem cell_grown {w w' : World} {row : Option Nat} (hg : w.grownBy w' row) {p : Addr} (hp : p.block < w.heap.size) (hr : some p.block ≠ row) : w'.cell? p = w.cell? p := by
  unfold World.cell?
  rw [hg.block p.block hp hr]
theorem DAt.grown {w w' : World} {g g' : Option Nat} {A : Option Addr} {d : List UInt8} (h : DAt w g A d) (hg : w.grownBy w' g) (hg' : g' = g ∨ g' = some w.heap.size) : DAt w' g' A d := fun hn => by
  obtain ⟨b, o, e, h1, h2, ⟨cq, fq, hq⟩, h3⟩ := h hn
  refine ⟨b, o, e, ?_, Nat.lt_of_lt_of_le h2 hg.size, ⟨cq, fq, (hg.block b h2 h1).trans hq⟩, fun i hi => (cell_grown hg h2 h1).trans (h3 i hi)⟩
  rcases hg' with rfl | rfl
  · exact h1
  · intro e; cases e; omega
theorem DAt.below {w w' : World} {g : Option Nat} {A : Option Addr} {d : List UInt8} (h : DAt w g A d) (hb : Below w.heap.size w w') : DAt w' g A d := fun hn => by
  obtain ⟨b, o, e, h1, h2, ⟨cq, fq, hq⟩, h3⟩ := h hn
  exact ⟨b, o, e, h1, Nat.lt_of_lt_of_le h2 hb.size, ⟨cq, fq, (hb.block b h2).trans hq⟩, fun i hi => (hb.cell (p := ⟨b, o + i, none⟩) h2).trans (h3 i hi)⟩


theorem grownBy_trans {w w1 w2 : World} {r : Option Nat} (h : w.grownBy w1 r) (k : w1.grownBy w2 r) : w.grownBy w2 r :=
  ⟨k.os.trans h.os, k.tape.trans h.tape, k.output.trans h.output, Nat.le_trans h.size k.size, fun i hi hne => (k.block i (Nat.lt_of_lt_of_le hi h.size) hne).trans (h.block i hi hne)⟩
theorem grown_of {w w' : World} (hb : Below w.heap.size w w') (r : Option Nat) : w.grownBy w' r := ⟨hb.os, hb.tape, hb.output, hb.size, fun i hi _ => hb.block i hi⟩
theorem below_of {w w' : World} {g B : Nat} (h : w.grownBy w' (some g)) (hB : B ≤ g) (hs : B ≤ w.heap.size) : Below B w w' := ⟨h.os, h.tape, h.output, h.size, fun i hi => h.block i (by omega) (fun e => by injection e with e; omega)⟩
theorem grown_set (w : World) (p : Addr) (u : Value) : w.grownBy (w.setCell p u) (some p.block) := by
  have h := (Below.refl 0 w).setCell (p := p) (Nat.zero_le _) u
  exact ⟨h.os, h.tape, h.output, h.size, fun k _ hne => Below.heap_setCell w p u k (fun e => hne (by rw [e]))⟩
theorem DAt.of_own {w : World} {base g c : Nat} {A : Option Addr} {l : List UInt8} (h : Own w base 5 A c l) (hg : g < base) : DAt w (some g) A l := fun hn => by
  obtain ⟨b, e, h1, h2, _⟩ := h.form hn
  subst e
  refine ⟨b, 0, rfl, fun e => by injection e with e; omega, h2, Lib.ownsRow_kind h b rfl, fun i hi => ?_⟩
  rw [Nat.zero_add]
  exact h.cell i hi

theorem Own.ne_blk {w : World} {base : Nat} {e t : TypeId} {A : Option Addr} {c g : Nat} {l : List UInt8} {cs : Array Value} (h : Own w base e A c l) (hb : Blk w g t cs) (hne : t ≠ e) : some g ≠ blk A := by
  rcases h.2 with ⟨h1, h2⟩ | ⟨g', cap, cur, h1, _, hg, _⟩
  · simp only [Value.slice.injEq] at h1
    obtain ⟨rfl, _, _⟩ := h1
    simp [blk]
  · simp only [Value.slice.injEq] at h1
    obtain ⟨rfl, _, _⟩ := h1
    intro e'
    simp [blk] at e'
    subst e'
    unfold Blk at hb
    rw [hb] at hg
    injection hg with hg
    injection hg with _ ht
    exact hne ht
/-- A path in block g: its packets; they lie elsewhere. -/
structure PathAt (w : World) (g : Nat) (ls : List (List UInt8)) (cs : Array Value) : Prop where
  blk : Blk w g 46 cs
  size : cs.size = 257
  cnt : cs[256]? = some (.int .i64 (ls.length : Nat))
  len : ls.length ≤ 256
  sm : ∀ x ∈ ls, x.length ≤ 512
  at_ : ∀ i, (h : i < ls.length) → ∃ A c, cs[i]? = some (.slice A (ls[i]'h).length c) ∧ DAt w (some g) A (ls[i]'h)
theorem PathAt.bt {w w' : World} {g : Nat} {ls : List (List UInt8)} {cs : Array Value} (h : PathAt w g ls cs) (hb : Below w.heap.size w w') : PathAt w' g ls cs :=
  ⟨h.blk.below hb h.blk.lt, h.size, h.cnt, h.len, h.sm, fun i hi => by obtain ⟨A, c, h1, h2⟩ := h.at_ i hi; exact ⟨A, c, h1, h2.below hb⟩⟩
theorem PathAt.new {w w' : World} {e : Ending} (h : NewO w e w') : ∃ cs, e = .returned (.pointer (some ⟨w.heap.size, 0, none⟩)) ∧ PathAt w' w.heap.size [] cs ∧ Below w.heap.size w w' := by
  obtain ⟨cs, h1, h2, h3, h4, h5⟩ := h
  subst h2
  exact ⟨cs, h1, ⟨Blk.new _ _ _, h3, h4, by simp, by simp, fun i hi => absurd hi (by simp)⟩, ba _ _⟩

def fd (n : Nat) (i : Int) : Int := if 0 ≤ i ∧ i < n then 0 else 4
theorem find_nil (i : Int) (w : World) : Calls Try.prog 24 #[.pointer none, .int .i64 i] w fun e w' => e = .returned (.int .i64 6) ∧ w = w' := by
  go_enter Try.func24, Try.ntmps24
  go_wp2
  go_ret
  exact ⟨rfl, rfl⟩
theorem find_any {w : World} {g : Nat} {ls : List (List UInt8)} {cs : Array Value} (h : PathAt w g ls cs) (i : Int) (hs : Bool) : Calls Try.prog 24 #[(.pointer (some ⟨g, 0, none⟩)), .int .i64 i] w fun e w' => e = .returned (.int .i64 (fd ls.length i)) ∧ w = w' := by
  have hc := h.blk.cell 256
  rw [h.cnt] at hc
  generalize ls.length = n at *
  unfold fd
  by_cases h0 : i < 0
  · rw [if_neg (by omega)]
    go_enter Try.func24, Try.ntmps24
    go_wp2
    go_ret
    exact ⟨rfl, rfl⟩
  · by_cases h1 : (n : Int) ≤ i
    · rw [if_neg (by omega)]
      go_enter Try.func24, Try.ntmps24
      go_wp2
      go_ret
      exact ⟨rfl, rfl⟩
    · rw [if_pos (by omega)]
      go_enter Try.func24, Try.ntmps24
      go_wp2
      go_ret
      exact ⟨rfl, rfl⟩

theorem clone_all (A : Option Addr) (l : List UInt8) (n c : Nat) (w : World) (hn : Hid (n = l.length)) (hm : Hid (l.length ≤ 140737488355328)) (h : Bs w w.heap.size A l) : Calls Try.prog 25 #[.slice A n c] w fun e w' => ∃ A2 c2, e = .returned (.slice A2 n c2) ∧ Own w' w.heap.size 5 A2 c2 l ∧ Below w.heap.size w w' := by
  cases A with
  | none =>
    have hl : l = [] := by
      cases l with
      | nil => rfl
      | cons x t => obtain ⟨b, o, e, _⟩ := h (by simp); cases e
    subst hl
    obtain rfl : n = 0 := hn.out
    have hnl : ∀ w, (binOp .eql 29 (.slice none 0 c) (.slice none 0 0)).run Try.prog w = .ok (.bool true) w := fun w => by simp [binOp, Go.run_equal_slice_nil w 29 5 none 0 c Try.underlying29]
    go_enter Try.func25, Try.ntmps25
    go_wp2
    go_ret
    exact ⟨none, 0, rfl, Own.nil, Below.refl _ _⟩
  | some a =>
    obtain ⟨i0, hi, hz0, hz1, hz2⟩ := info_parts Try.infoU8
    have ow : Own (w.alloc (.cells #[] 5)) w.heap.size 5 (some ⟨w.heap.size, 0, none⟩) 0 [] := by
      have hr : Raw (w.alloc (.cells #[] 5)) w.heap.size 5 [] := heap_alloc_new w _
      exact hr.own (Nat.le_refl _) (by simp [maxLen])
    have hbw := ba w (.cells #[] 5)
    have hb2 := h.bt hbw
    have hs := hbw.size
    have hnl : ∀ w, (binOp .eql 29 (.slice (some a) n c) (.slice none 0 0)).run Try.prog w = .ok (.bool false) w := fun w => by simp [binOp, Go.run_equal_slice_nil w 29 5 (some a) n c Try.underlying29]
    go_enter Try.func25, Try.ntmps25
    go_wp2_with (at_builtin; refine wpList_append_bs _ rfl _ _ 29 rfl w.heap.size 5 i0 _ Try.underlying29 hi hz0 hz1 hz2 rfl (some ⟨w.heap.size, 0, none⟩) 0 [] 0 rfl rfl ow _ (some a) c l n rfl hn.out hb2 (by have := hm.out; simpa using this) hs ?_; intro A4 cA4 w4 own4 hg4 _)
    go_ret
    rw [List.nil_append] at own4
    exact ⟨A4, cA4, rfl, own4, hbw.grown hg4 hs (fun k e => (ow.lt _ e).1)⟩

theorem put_full {w : World} {g : Nat} {ls : List (List UInt8)} {cs : Array Value} (h : PathAt w g ls cs) (hf : ls.length = 256) (v : Value) : Calls Try.prog 23 #[(.pointer (some ⟨g, 0, none⟩)), v] w fun e w' => e = .returned (.int .i64 5) ∧ w = w' := by
  have hc := h.blk.cell 256
  rw [h.cnt, hf] at hc
  go_enter Try.func23, Try.ntmps23
  go_wp2
  go_ret
  exact ⟨rfl, rfl⟩

def IsOwnN (w : World) (s : Nat) (v : Value) (D : List UInt8) (N : Nat) : Prop := ∃ A c, v = .slice A N c ∧ Own w s 5 A c D
theorem IsOwnN.bt {w w' : World} {s : Nat} {v : Value} {D : List UInt8} {N : Nat} (h : IsOwnN w s v D N) (he : Below w.heap.size w w') : IsOwnN w' s v D N := by obtain ⟨A, c, e, h⟩ := h; exact ⟨A, c, e, h.below he (Nat.le_refl _)⟩
theorem path_ne : (46 : TypeId) ≠ 5 := by decide
def PutHeld (w : World) (g s k : Nat) (cs : Array Value) (D : List UInt8) (N : Nat) : Prop := ∃ A c, Blk w g 46 (cs.setIfInBounds k (.slice A N c)) ∧ Own w s 5 A c D
theorem PutHeld.bt {w w' : World} {g s k : Nat} {cs : Array Value} {D : List UInt8} {N : Nat} (h : PutHeld w g s k cs D N) (he : Below w.heap.size w w') : PutHeld w' g s k cs D N := by obtain ⟨A, c, e, h⟩ := h; exact ⟨A, c, e.below he e.lt, h.below he (Nat.le_refl _)⟩
def VPp (s g k n : Nat) (A0 : Option Addr) (c0 : Nat) (cs : Array Value) (D : List UInt8) (i : Nat) (v : Value) (w : World) : Prop :=
  match i with
  | 0 => v = .pointer (some ⟨g, 0, none⟩)
  | 1 => v = .pointer (some ⟨g, 0, none⟩)
  | 2 => v = .pointer (some ⟨g, 0, none⟩)
  | 3 => v = .pointer (some ⟨g, 256, none⟩)
  | 4 => v = .int .i64 k
  | 5 => v = .slice A0 n c0
  | 6 => IsOwnN w s v D n
  | 7 => v = .pointer (some ⟨g, 0, none⟩)
  | 8 => v = .pointer (some ⟨g, 0, none⟩)
  | 9 => v = .pointer (some ⟨g, k, none⟩)
  | 10 => PutHeld w g s k cs D n
  | _ => True
def EPp (g kk k : Nat) (u u' : World) : Prop := match k with
  | 6 => Below u.heap.size u u'
  | 10 => ∃ cs', Blk u g 46 cs' ∧ ∃ t, u' = u.setCell ⟨g, kk, none⟩ t
  | _ => u' = u
def TPp (w0 : World) (g : Nat) (cs : Array Value) (j : Nat) (u : World) : Prop := match j with
  | 6 => Below w0.heap.size w0 u
  | 4 => Blk u g 46 cs
  | 10 => Blk u g 46 cs
  | _ => True
theorem VPp.mono {s g k n : Nat} {A0 : Option Addr} {c0 : Nat} {cs : Array Value} {D : List UInt8} {q i : Nat} {v : Value} {u u' : World} (he : EPp g k q u u') (hik : i ≠ q) (hv : VPp s g k n A0 c0 cs D i v u) : VPp s g k n A0 c0 cs D i v u' := by
  unfold EPp at he
  split at he
  · unfold VPp at hv ⊢
    split at hv <;> first | with_reducible exact hv | exact absurd rfl hik | exact IsOwnN.bt hv he | exact PutHeld.bt hv he
  · obtain ⟨cs', hb, t, rfl⟩ := he
    unfold VPp at hv ⊢
    split at hv <;> first | with_reducible exact hv | exact absurd rfl hik | (obtain ⟨A, c, e, h⟩ := hv; exact ⟨A, c, e, h.kept (grown_set _ _ _) (.inr (fun e => h.ne_blk hb path_ne e.symm))⟩)
  · rw [he]; exact hv
theorem TPp.mono {w0 : World} {g kk : Nat} {cs : Array Value} {q j : Nat} {u u' : World} (he : EPp g kk q u u') (hkj : q ≠ j) (h4 : (j = 4 ∨ j = 6) ∧ q = 10 → False) (h6 : ∀ u : World, Below w0.heap.size w0 u → w0.heap.size ≤ u.heap.size) (hv : TPp w0 g cs j u) : TPp w0 g cs j u' := by
  unfold EPp at he
  split at he
  · unfold TPp at hv ⊢
    split at hv <;> first | exact Blk.below hv he (Blk.lt hv) | exact absurd rfl hkj | exact Go.Proofs.Ytkfmhkpmlncjgaa.bt hv he | trivial
  · unfold TPp at hv ⊢
    split at hv <;> first | exact absurd rfl hkj | exact absurd ⟨.inl rfl, rfl⟩ h4 | exact absurd ⟨.inr rfl, rfl⟩ h4 | trivial
  · rw [he]; exact hv
theorem TPp.of {w0 : World} {g : Nat} {cs : Array Value} {u : World} (h : Blk u g 46 cs) (hb : Below w0.heap.size w0 u) (j : Nat) : TPp w0 g cs j u := by
  unfold TPp; split <;> first | exact h | exact hb | trivial
set_option maxHeartbeats 2000000 in
theorem put_ok {w : World} {g : Nat} {ls : List (List UInt8)} {cs : Array Value} (h : PathAt w g ls cs) (hlt : ls.length < 256) (A : Option Addr) (l : List UInt8) (n c : Nat) (hn : Hid (n = l.length)) (hl : Hid (l.length ≤ 512)) (hbs : Bs w w.heap.size A l) : Calls Try.prog 23 #[(.pointer (some ⟨g, 0, none⟩)), .slice A n c] w fun e w' => e = .returned (.int .i64 0) ∧ (∃ cs', PathAt w' g (ls ++ [l]) cs') ∧ w.grownBy w' (some g) := by
  have HP := Lib.hid h
  have hb0 := h.blk
  have hcc := h.blk.cell 256
  rw [h.cnt] at hcc
  have hgl := h.blk.lt
  obtain ⟨k, hk⟩ : ∃ k, k = ls.length := ⟨_, rfl⟩
  rw [← hk] at hcc hlt
  have HK := Lib.hid hk
  have hkI : (k : Int) < 256 := by omega
  have hk256 : ¬ (k : Int) = 256 := by omega
  have hkb : ((k : Int) == 256) = false := beq_eq_false_iff_ne.2 hk256
  have hkn : ¬ k = 256 := by omega
  have hcnt : Hid (cs[256]? = some (.int .i64 (k : Nat))) := Lib.hid (by rw [HK.out]; exact h.cnt)
  have hsz : Hid (cs.size = 257) := Lib.hid h.size
  have hcl := fun (u : World) (hu : Below w.heap.size w u) => clone_all A l n c u hn (Lib.hid (by have := hl.out; omega)) ((hbs.below hu).more hu.size)
  have Hcl := Lib.hid hcl
  clear hcl h hk hbs
  go_enter Try.func23, Try.ntmps23
  go_wp2_with fail
  clear hcc hkb hk256
  refine wp_region_invT (F := ?FP) (V := VPp w.heap.size g k n A c cs l) (dead := fun _ => none) (T := TPp w g cs) (C := fun u' => w.grownBy u' (some g)) (E := EPp g k) (by kernel_rfl) (by kernel_rfl) (by kernel_rfl) (fun x => ?hFP) ?hmonoP ?hTmP ?hTP ?hCP ?stepP ?finP
  case hFP => simp only [mkA, Act.put, List.setIfInBounds_toArray, List.set_cons_succ, List.set_cons_zero, Nat.reduceAdd, Nat.zero_add]; first | with_reducible rfl | rfl
  case hmonoP => exact fun q i v u u' he hik hwt hdd hv => VPp.mono he hik hv
  case hTmP => exact fun q j u u' he hkj hwt hv => TPp.mono he hkj (fun h => by obtain ⟨h1 | h1, h2⟩ := h <;> exact ltf hwt (by rw [h1, h2]; kernel_rfl)) (fun u hu => hu.size) hv
  case hTP => exact fun j => TPp.of (u := w.drew) (show Blk w.drew g _ cs from hb0) (below_drew _) j
  case hCP => exact grown_of (below_drew w) _
  case stepP =>
    refine AllOps.cons (fun x u hC hT hp K hK => ?_) ?_
    · clear hp hT
      go_simp
      refine hK _ _ _ hC (by rfl) (by exact rfl) ?_
      first | (simp only [Act.put, List.setIfInBounds_toArray, List.set_cons_succ, List.set_cons_zero]; done) | simp [Act.put]
    refine AllOps.cons (fun x u hC hT hp K hK => ?_) ?_
    · clear hp hT
      go_simp
      refine hK _ _ _ hC (by rfl) (by exact rfl) ?_
      first | (simp only [Act.put, List.setIfInBounds_toArray, List.set_cons_succ, List.set_cons_zero]; done) | simp [Act.put]
    refine AllOps.cons (fun x u hC hT hp K hK => ?_) ?_
    · simp [KnownTill, Region.binds, VPp] at hp
      clear hT
      go_simp
      refine hK _ _ _ hC (by rfl) (by exact rfl) ?_
      first | (simp only [Act.put, List.setIfInBounds_toArray, List.set_cons_succ, List.set_cons_zero, hp]; done) | simp [Act.put, hp]
    refine AllOps.cons (fun x u hC hT hp K hK => ?_) ?_
    · simp [KnownTill, Region.binds, VPp] at hp
      clear hT
      go_simp
      refine hK _ _ _ hC (by rfl) (by exact rfl) ?_
      first | (simp only [Act.put, List.setIfInBounds_toArray, List.set_cons_succ, List.set_cons_zero, hp]; done) | simp [Act.put, hp]
    refine AllOps.cons (fun x u hC hT hp K hK => ?_) ?_
    · simp [KnownTill, Region.binds, VPp] at hp
      have kb : Blk u g 46 cs := hT
      have c256 := kb.cell 256
      rw [hcnt.out] at c256
      clear kb hT
      go_simp
      refine hK _ _ _ hC (by rfl) (by exact rfl) ?_
      first | (simp only [Act.put, List.setIfInBounds_toArray, List.set_cons_succ, List.set_cons_zero, hp]; done) | simp [Act.put, hp]
    refine AllOps.cons (fun x u hC hT hp K hK => ?_) ?_
    · clear hp hT
      go_simp
      refine hK _ _ _ hC (by rfl) (by exact rfl) ?_
      first | (simp only [Act.put, List.setIfInBounds_toArray, List.set_cons_succ, List.set_cons_zero]; done) | simp [Act.put]
    refine AllOps.cons (fun x u hC hT hp K hK => ?_) ?_
    · simp [KnownTill, Region.binds, VPp] at hp
      have h5 : x 5 = .slice A n c := by first | exact hp | exact hp.1
      clear hp
      have hbu : Below w.heap.size w u := hT
      go_simp
      refine (Hcl.out u hbu).mono ?_
      rintro e wA ⟨A6, c6, rfl, own6, hbA⟩
      refine hK _ _ _ (grownBy_trans hC (grown_of hbA _)) hbA ⟨A6, c6, rfl, own6.base_le hbu.size⟩ ?_
      simp [Act.put, h5]
    refine AllOps.cons (fun x u hC hT hp K hK => ?_) ?_
    · simp [KnownTill, Region.binds, VPp] at hp
      clear hT
      go_simp
      refine hK _ _ _ hC (by rfl) (by exact rfl) ?_
      first | (simp only [Act.put, List.setIfInBounds_toArray, List.set_cons_succ, List.set_cons_zero, hp]; done) | simp [Act.put, hp]
    refine AllOps.cons (fun x u hC hT hp K hK => ?_) ?_
    · simp [KnownTill, Region.binds, VPp] at hp
      clear hT
      go_simp
      refine hK _ _ _ hC (by rfl) (by exact rfl) ?_
      first | (simp only [Act.put, List.setIfInBounds_toArray, List.set_cons_succ, List.set_cons_zero, hp]; done) | simp [Act.put, hp]
    refine AllOps.cons (fun x u hC hT hp K hK => ?_) ?_
    · simp [KnownTill, Region.binds, VPp] at hp
      clear hT
      go_simp
      refine hK _ _ _ hC (by rfl) (by exact rfl) ?_
      first | (simp only [Act.put, List.setIfInBounds_toArray, List.set_cons_succ, List.set_cons_zero, hp]; done) | simp [Act.put, hp]
    refine AllOps.cons (fun x u hC hT hp K hK => ?_) ?_
    · simp [KnownTill, Region.binds, VPp] at hp
      obtain ⟨h9, A6, c6, h6, own6⟩ : x 9 = .pointer (some ⟨g, k, none⟩) ∧ IsOwnN u w.heap.size (x 6) l n := by first | exact ⟨hp.1, hp.2⟩ | exact ⟨hp.2, hp.1⟩ | exact ⟨hp.1, hp.2.1⟩ | exact ⟨hp.2.1, hp.1⟩ | exact ⟨hp.2.2, hp.1⟩
      clear hp
      have kb : Blk u g 46 cs := hT
      obtain ⟨v0, hv0⟩ : ∃ v0, cs[k]? = some v0 := ⟨cs[k]'(by rw [hsz.out]; omega), Array.getElem?_eq_getElem _⟩
      have ck := kb.cell k
      rw [hv0] at ck
      have fk := kb.frozen k
      have kc := kb.set_ k (.slice A6 n c6)
      have own7 := own6.kept (grown_set u ⟨g, k, none⟩ (.slice A6 n c6)) (.inr (fun e => own6.ne_blk kb path_ne e.symm))
      have KB := Lib.hid kb
      clear kb hT hv0
      go_simp
      refine hK undef _ (u.setCell ⟨g, k, none⟩ (.slice A6 n c6)) (grownBy_trans hC (grown_set _ _ _)) ⟨cs, KB.out, _, rfl⟩ ⟨A6, c6, kc, own7⟩ ?_
      simp [Act.put, h6, h9]
    exact AllOps.nil
  case finP =>
    intro x u hC hV
    obtain ⟨A6, c6, k10, own10⟩ : PutHeld u g w.heap.size k cs l n := hV 10 (by decide) rfl
    clear hV
    have c256 := k10.cell 256
    rw [Array.getElem?_setIfInBounds_ne hkn, hcnt.out] at c256
    have f256 := k10.frozen 256
    have e1 : IntKind.i64.wrap ((k : Int) + 1) = (k : Int) + 1 := IntWalk.i64_in _ (by omega)
    have k11 := k10.set_ 256 (.int .i64 ((k : Int) + 1))
    have hgr := grownBy_trans hC (grown_set u ⟨g, 256, none⟩ (.int .i64 ((k : Int) + 1)))
    have own11 := own10.kept (grown_set u ⟨g, 256, none⟩ (.int .i64 ((k : Int) + 1))) (.inr (fun e => own10.ne_blk k10 path_ne e.symm))
    have K11 := Lib.hid k11
    clear hC k10 own10 k11 hb0
    go_wp2
    go_ret
    refine ⟨rfl, ⟨_, K11.out, ?_, ?_, ?_, ?_, ?_⟩, hgr⟩
    · rw [Array.size_setIfInBounds, Array.size_setIfInBounds, hsz.out]
    · rw [Array.getElem?_setIfInBounds_self_of_lt (by rw [Array.size_setIfInBounds, hsz.out]; omega), List.length_append, ← HK.out]; rfl
    · rw [List.length_append, ← HK.out]; simp; omega
    · intro x hx
      rcases List.mem_append.1 hx with hx | hx
      · exact HP.out.sm x hx
      · rw [List.mem_singleton.1 hx]; exact hl.out
    · intro i hi
      rw [List.length_append, ← HK.out, List.length_singleton] at hi
      rw [Array.getElem?_setIfInBounds_ne (by omega)]
      by_cases hik : i < k
      · obtain ⟨A', c', h1, h2⟩ := HP.out.at_ i (by rw [← HK.out]; exact hik)
        rw [Array.getElem?_setIfInBounds_ne (by omega), List.getElem_append_left (by rw [← HK.out]; exact hik)]
        exact ⟨A', c', h1, h2.grown hgr (.inl rfl)⟩
      · obtain rfl : i = k := by omega
        rw [Array.getElem?_setIfInBounds_self_of_lt (by rw [hsz.out]; omega), List.getElem_append_right (by rw [← HK.out]; omega)]
        simp only [← HK.out, Nat.sub_self, List.getElem_singleton]
        exact ⟨A6, c6, by rw [hn.out], DAt.of_own own11 hgl⟩
end Go.Proofs.Ytkfmhkpmlncjgaa
