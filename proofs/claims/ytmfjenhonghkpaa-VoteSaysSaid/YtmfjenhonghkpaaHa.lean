/- Layer 16: a tree as the document's. -/
import Derived.Test.YtmfjenhonghkpaaVg
namespace Go.Proofs.Ytmfjenhonghkpaa
open Go Go.RowKit
set_option linter.unusedVariables false
set_option linter.unusedSimpArgs false

/-- The forest lies from the slice's beginning on, in blocks of a set. -/
def FoX (w : World) (S : Nat → Prop) : Fo → Option Addr → Prop
  | .nil, _ => True
  | .cons v k r, A => ∃ (b o : Nat) (A' : Option Addr) (c' : Nat), A = some ⟨b, o, none⟩ ∧ S b ∧ w.cell? ⟨b, o, none⟩ = some (.int .i64 v) ∧ w.cell? ⟨b, o + 1, none⟩ = some (.slice A' k.len c') ∧ k.len ≤ maxLen ∧ FoX w S k A' ∧ FoX w S r (some ⟨b, o + 2, none⟩)
theorem FoX.keep {w w' : World} {S S' : Nat → Prop} (hS : ∀ b, S b → S' b ∧ w'.heap[b]? = w.heap[b]?) : ∀ {f : Fo} {A : Option Addr}, FoX w S f A → FoX w' S' f A := by
  have hc : ∀ {p : Addr} {v : Value}, S p.block → w.cell? p = some v → w'.cell? p = some v := by
    intro p v hp h
    rw [← h]
    unfold World.cell?
    rw [(hS _ hp).2]
  intro f
  induction f with
  | nil => intro A _; trivial
  | cons v k r ih1 ih2 =>
    rintro A ⟨b, o, A', c', e, hb, h1, h2, hm, h3, h4⟩
    exact ⟨b, o, A', c', e, (hS b hb).1, hc hb h1, hc hb h2, hm, ih1 h3, ih2 h4⟩
theorem FoX.grown {w w' : World} {S : Nat → Prop} {row : Option Nat} {f : Fo} {A : Option Addr} (h : FoX w S f A) (hg : w.grownBy w' row) (hS : ∀ b, S b → b < w.heap.size ∧ some b ≠ row) : FoX w' S f A :=
  h.keep fun b hb => ⟨hb, hg.block b (hS b hb).1 (hS b hb).2⟩
theorem FoX.more {w : World} {S S' : Nat → Prop} {f : Fo} {A : Option Addr} (h : FoX w S f A) (hS : ∀ b, S b → S' b) : FoX w S' f A := h.keep fun b hb => ⟨hS b hb, rfl⟩
theorem FoX.at_ {w : World} {B : Nat} : ∀ {f : Fo} {A : Option Addr}, FoX w (fun b => b < B) f A → FoAt w B f A
  | .nil, _, _ => trivial
  | .cons v k r, _, ⟨b, o, A', c', e, hb, h1, h2, hm, h3, h4⟩ => ⟨b, o, A', c', e, hb, h1, h2, hm, h3.at_, h4.at_⟩
theorem FoX.of {w : World} {B : Nat} : ∀ {f : Fo} {A : Option Addr}, FoAt w B f A → FoX w (fun b => b < B) f A
  | .nil, _, _ => trivial
  | .cons v k r, _, ⟨b, o, A', c', e, hb, h1, h2, hm, h3, h4⟩ => ⟨b, o, A', c', e, hb, h1, h2, hm, FoX.of h3, FoX.of h4⟩

/-- What is copied of a forest while so many nodes are left, and how many are left behind it. -/
def asK : Fo → Nat → Fo × Nat
  | .nil, l => (.nil, l)
  | .cons v k r, l => if l = 0 then (.nil, 0) else (.cons v (asK k (l - 1)).1 (asK r (asK k (l - 1)).2).1, (asK r (asK k (l - 1)).2).2)
theorem asK_le : ∀ (f : Fo) (l : Nat), (asK f l).2 ≤ l
  | .nil, l => Nat.le_refl _
  | .cons v k r, l => by
    simp only [asK]
    split
    · exact Nat.zero_le _
    · have h1 := asK_le k (l - 1)
      have h2 := asK_le r (asK k (l - 1)).2
      dsimp only
      omega
theorem asK_zero : ∀ f : Fo, asK f 0 = (.nil, 0)
  | .nil => rfl
  | .cons v k r => by simp [asK]
theorem asK_all : ∀ (f : Fo) (l : Nat), f.cnt ≤ l → asK f l = (f, l - f.cnt)
  | .nil, l, _ => by simp [asK, Fo.cnt]
  | .cons v k r, l, h => by
    simp only [Fo.cnt] at h
    simp only [asK]
    rw [if_neg (by omega), asK_all k (l - 1) (by omega)]
    dsimp only
    rw [asK_all r (l - 1 - k.cnt) (by omega)]
    simp only [Fo.cnt]
    congr 1
    omega
theorem asK_cnt : ∀ (f : Fo) (l : Nat), (asK f l).1.cnt + (asK f l).2 = l ∧ (l ≤ f.cnt → (asK f l).2 = 0)
  | .nil, l => ⟨by simp [asK, Fo.cnt], fun h => by simp [Fo.cnt] at h; simp [asK, h]⟩
  | .cons v k r, l => by
    simp only [asK]
    by_cases h0 : l = 0
    · subst h0; simp [Fo.cnt]
    · rw [if_neg h0]
      have hk := asK_cnt k (l - 1)
      have hr := asK_cnt r (asK k (l - 1)).2
      dsimp only [Fo.cnt]
      refine ⟨by omega, fun h => ?_⟩
      by_cases hkl : l - 1 ≤ k.cnt
      · rw [hk.2 hkl, asK_zero]
      · have := asK_all k (l - 1) (by omega)
        rw [this] at hr ⊢
        exact hr.2 (by dsimp only; omega)
theorem asK_right (v : Int) (k : Fo) : rightB v (asK k 199).1 = rightB v k := by
  by_cases h : k.cnt ≤ 199
  · rw [asK_all k 199 h]
  · have h1 := asK_cnt k 199
    have h2 := h1.2 (by omega)
    have e1 : rightB v (asK k 199).1 = false := by
      rcases hb : rightB v (asK k 199).1 with _ | _
      · rfl
      · have := right_cnt hb; omega
    have e2 : rightB v k = false := by
      rcases hb : rightB v k with _ | _
      · rfl
      · have := right_cnt hb; omega
    rw [e1, e2]
theorem asK_same {v : Int} {k : Fo} (h : rightB v k = true) : (asK k 199).1 = k := by rw [asK_all k 199 (by have := right_cnt h; omega)]

def appF : Fo → Fo → Fo
  | .nil, g => g
  | .cons v k r, g => .cons v k (appF r g)
theorem appF_nil : ∀ f : Fo, appF f .nil = f
  | .nil => rfl
  | .cons v k r => by simp only [appF, appF_nil r]
theorem foN_snoc : ∀ (L : List NR) (x : NR) (g : Fo), appF (foN (L ++ [x])) g = appF (foN L) (.cons x.v x.k g)
  | [], x, g => rfl
  | y :: L, x, g => by simp only [List.cons_append, foN, appF, foN_snoc L x g]

theorem Try.infoRefNode : (Try.prog.info? 28).map (fun i => (i.zero, i.size, i.bytes)) = some (some (.agg #[.int .i64 0, .slice none 0 0]), 2, 32) := by kernel_rfl
/-- The document's list of nodes of one's own. -/
def OwnR (w : World) (B : Nat) (A : Option Addr) (c : Nat) (l : List NR) : Prop := w.ownsRow B 28 2 (.slice A l.length c) l.length (valsN l)
section
variable {u u' : World} {B : Nat} {A : Option Addr} {c : Nat} {l : List NR}
theorem OwnR.nil (w : World) (B : Nat) : OwnR w B none 0 [] := World.ownsRow_nil w _ _ _
theorem OwnR.lt' (h : OwnR u B A c l) : ∀ r, blk A = some r → B ≤ r ∧ r < u.heap.size := fun r e => World.ownsRow.lt h r (by rw [ownBlock_slice]; exact e)
theorem OwnR.kept {row : Option Nat} (h : OwnR u B A c l) (hg : u.grownBy u' row) (hr : ∀ r, row = some r → r < B) : OwnR u' B A c l := by
  refine World.ownsRow.kept h hg ?_
  rcases hb : (Value.slice A l.length c).ownBlock with _ | k
  · exact .inl rfl
  · exact .inr (fun e => by have := (h.lt k hb).1; have := hr k e.symm; omega)
theorem OwnR.row (h : OwnR u B A c l) (hl : 0 < l.length) : ∃ g, A = some ⟨g, 0, none⟩ ∧ B ≤ g ∧ g < u.heap.size ∧ RowN u g 0 l := by
  rcases h.2 with ⟨h1, h2⟩ | ⟨g, cap, cur, h1, hb, hg, hn, hm, hc, ht⟩
  · omega
  · injection h1 with e1 e2 e3
    refine ⟨g, e1, hb, (Array.getElem?_eq_some_iff.1 hg).1, rowN_of l 0 fun j x hx => ?_⟩
    rw [Nat.zero_add, cell_of_row u g j cur _ (0, 0) hg]
    rw [← ht] at hx
    rw [List.getElem?_take] at hx
    split at hx
    · simpa using hx
    · cases hx
theorem refnode_more (h : OwnR u B A c l) (n : Nat) (hn : n = l.length) (hl : n ≤ 100000) (x : NR) (q : Nat) (hBu : B ≤ u.heap.size) (hq0 : u.cell? ⟨q, 0, none⟩ = some (.int .i64 x.v)) (hq1 : u.cell? ⟨q, 1, none⟩ = some (.slice x.A x.k.len x.c)) :
    ∃ A2 c2 u', (Builtin.append_ #[26, 26] 26 #[.slice A n c, .slice (some ⟨q, 0, none⟩) 1 1]).run Try.prog u = .ok (.slice A2 (n + 1) c2) u' ∧
      OwnR u' B A2 c2 (l ++ [x]) ∧ u.grownBy u' (blk A) ∧ (∀ r, blk A2 = some r → blk A = some r ∨ r = u.heap.size) := by
  subst hn
  obtain ⟨i0, hi, hz0, hz1, hz2⟩ := info_parts Try.infoRefNode
  obtain ⟨v', w', hrun, hown, hgr, _, hob⟩ := run_append_own_at (P := Try.prog) u B 26 26 28 i0 _ 2 32 Try.underlying26 hi hz0 hz1 hz2 rfl (by omega) (.slice A l.length c) l.length (valsN l) h ⟨q, 0, none⟩ 1 1 (valsN [x]) rfl
    (fun j y hy => by
      have e : valsN [x] = [.int .i64 x.v, .slice x.A x.k.len x.c] := by simp [valsN]
      rw [e] at hy
      match j, hy with
      | 0, hy => cases hy; exact hq0
      | 1, hy => cases hy; exact hq1)
    (valsN_one _) (by simp only [maxLen]; omega) (by omega) hBu
  obtain ⟨g2, c2, rfl⟩ := Joins.ownsRow_form hown (by omega)
  rw [ownBlock_slice] at hgr
  rw [ownBlock_slice, ownBlock_slice] at hob
  refine ⟨some ⟨g2, 0, none⟩, c2, w', hrun, ?_, hgr, fun r hr => by rcases hob with h | h; exact .inl (by rw [← h]; exact hr); rw [hr] at h; cases h; exact .inr rfl⟩
  unfold OwnR
  rw [List.length_append, valsN_app]
  exact hown
theorem foX_of {w : World} {S : Nat → Prop} {b : Nat} (hb : S b) : ∀ (l : List NR) (o : Nat), RowN w b o l → (∀ x ∈ l, x.k.len ≤ maxLen ∧ FoX w S x.k x.A) → FoX w S (foN l) (some ⟨b, o, none⟩)
  | [], _, _, _ => trivial
  | x :: l, o, ⟨h1, h2, h3⟩, h => ⟨b, o, x.A, x.c, rfl, hb, h1, h2, (h x (by simp)).1, (h x (by simp)).2, foX_of hb l (o + 2) h3 (fun y hy => h y (by simp [hy]))⟩
end

theorem grown_new {a w w' : World} {row row' : Option Nat} (h : a.grownBy w row) (k : w.grownBy w' row') (hr : ∀ r, row' = some r → a.heap.size ≤ r ∨ row = some r) : a.grownBy w' row :=
  ⟨k.os.trans h.os, k.tape.trans h.tape, k.output.trans h.output, Nat.le_trans h.size k.size, fun i hi hne => (k.block i (Nat.lt_of_lt_of_le hi h.size) (fun e => by rcases hr i e.symm with h1 | h1; omega; exact hne h1.symm)).trans (h.block i hi hne)⟩

def AsOk (k : Fo) : Prop := ∀ (v : Int) (A : Option Addr) (m c bl l : Nat) (hm : Hid (m = k.len)) (w : World) (hml : m ≤ maxLen) (ht : FoX w (fun b => b < w.heap.size ∧ b ≠ bl) k A) (hbl : Blk w bl 3 #[.int .i64 (l : Nat)]) (hl1 : 1 ≤ l) (hl2 : l ≤ 200), Calls Try.prog 9 #[.agg #[.int .i64 v, .slice A m c], .pointer (some ⟨bl, 0, none⟩)] w fun e w' => (∃ A' n c', e = .returned (.agg #[.int .i64 v, .slice A' n c']) ∧ n = (asK k (l - 1)).1.len ∧ n ≤ 200 ∧ FoX w' (fun b => w.heap.size ≤ b ∧ b < w'.heap.size) (asK k (l - 1)).1 A') ∧ Blk w' bl 3 #[.int .i64 ((asK k (l - 1)).2 : Nat)] ∧ w.grownBy w' (some bl)
def AllAs : Fo → Prop
  | .nil => True
  | .cons _ k r => AsOk k ∧ AllAs r
set_option maxRecDepth 100000 in
set_option maxHeartbeats 2000000 in
theorem as_tree (k : Fo) (hall : AllAs k) : AsOk k := by
  intro v A m c bl l hm w hml ht hbl hl1 hl2
  obtain ⟨b0, o0, hA0⟩ : ∃ b0 o0, Hid (0 < k.len → A = some ⟨b0, o0, none⟩) := by
    have h := ht
    cases k with
    | nil => exact ⟨0, 0, Lib.hid (fun h => by simp [Fo.len] at h)⟩
    | cons v0 k0 r0 =>
      obtain ⟨b, o, _, _, e, _⟩ := h
      exact ⟨b, o, Lib.hid (fun _ => e)⟩
  obtain ⟨l0, hl0⟩ : ∃ l0, l = l0 + 1 := ⟨l - 1, by omega⟩
  subst hl0
  have hsub : IntKind.i64.wrap (((l0 + 1 : Nat) : Int) - 1) = (l0 : Int) := by rw [IntWalk.i64_in _ (by omega)]; omega
  obtain ⟨W3, hW3⟩ : ∃ W3, W3 = ((w.alloc (.cells #[.int .i64 v, .slice A m c] 24)).alloc (.cells #[.int .i64 0, .slice none 0 0] 28)).alloc (.cells #[.int .i64 v, .slice none 0 0] 28) := ⟨_, rfl⟩
  have kt3 : Blk W3 w.heap.size 24 #[.int .i64 v, .slice A m c] := by rw [hW3]; exact ((Blk.new _ _ _).alloc _).alloc _
  have kr3 : Blk W3 (w.heap.size + 1) 28 #[.int .i64 0, .slice none 0 0] := by
    rw [hW3]
    have := (Blk.new (w.alloc (.cells #[.int .i64 v, .slice A m c] 24)) 28 #[.int .i64 0, .slice none 0 0]).alloc (.cells #[.int .i64 v, .slice none 0 0] 28)
    rwa [World.size_alloc] at this
  have ko3 : Blk W3 (w.heap.size + 2) 28 #[.int .i64 v, .slice none 0 0] := by
    rw [hW3]
    have := Blk.new ((w.alloc (.cells #[.int .i64 v, .slice A m c] 24)).alloc (.cells #[.int .i64 0, .slice none 0 0] 28)) 28 #[.int .i64 v, .slice none 0 0]
    rwa [World.size_alloc, World.size_alloc] at this
  have s3 : W3.heap.size = w.heap.size + 3 := by rw [hW3]; simp
  have b3 : Below w.heap.size w W3 := by rw [hW3]; exact bt (bt (ba _ _) (ba _ _)) (ba _ _)
  have kb3 := hbl.below b3 hbl.lt
  have hltb := hbl.lt
  have hcb := kb3.cell 0
  have hfb := kb3.frozen 0
  simp only [List.getElem?_toArray, List.getElem?_cons_zero, List.getElem?_cons_succ] at hcb
  obtain ⟨W4, hW4⟩ : ∃ W4, W4 = W3.setCell ⟨bl, 0, none⟩ (.int .i64 l0) := ⟨_, rfl⟩
  have g34 : W3.grownBy W4 (some bl) := by rw [hW4]; exact grown_setN _ _ _ _
  have g4 : w.grownBy W4 (some bl) := ⟨g34.os.trans b3.os, g34.tape.trans b3.tape, g34.output.trans b3.output, Nat.le_trans b3.size g34.size, fun k hk hne => (g34.block k (by omega) hne).trans (b3.block k hk)⟩
  have kt4 := kt3.kept g34 (by simp; omega)
  have kr4 := kr3.kept g34 (by simp; omega)
  have ko4 := ko3.kept g34 (by simp; omega)
  have kb4 : Blk W4 bl 3 #[.int .i64 l0] := by rw [hW4]; simpa using kb3.set_ 0 (.int .i64 l0)
  have hw4 : W4.heap.size = w.heap.size + 3 := by rw [hW4, World.size_setCell, s3]
  have ht4 := ht.grown g4 (fun b hb => ⟨hb.1, by simp; exact hb.2⟩)
  have HK := Lib.hid (And.intro kt4 (And.intro kr4 (And.intro ko4 (And.intro kb4 (And.intro hw4 (And.intro ht4 (And.intro g4 hall)))))))
  have HW := Lib.hid hW4
  rw [hW3] at hcb hfb
  rw [hW3] at HW
  clear hW3 hW4 kt3 kr3 ko3 s3 b3 kb3 g34 g4 kt4 kr4 ko4 kb4 hw4 ht4 ht hbl hall
  go_enter Try.func9, Try.ntmps9
  go_wp2_with fail
  rw [← HW.out]
  clear hcb hfb
  go_loopw [6] (fun i wr => ∃ (i0 q lft : Nat) (r : Fo) (A3 : Option Addr) (c3 : Nat) (L : List NR), i0 + r.len = m ∧ i = .int .i64 i0 ∧ Hid (q = L.length ∧ q + lft ≤ l0 ∧ OwnR wr (w.heap.size + 3) A3 c3 L ∧ (∀ x ∈ L, x.k.len ≤ maxLen ∧ FoX wr (fun b => w.heap.size + 3 ≤ b ∧ b < wr.heap.size ∧ blk A3 ≠ some b) x.k x.A) ∧ appF (foN L) (asK r lft).1 = (asK k l0).1 ∧ (asK r lft).2 = (asK k l0).2 ∧ Blk wr w.heap.size 24 #[.int .i64 v, .slice A m c] ∧ Blk wr (w.heap.size + 1) 28 #[.int .i64 0, .slice none 0 0] ∧ Blk wr (w.heap.size + 2) 28 #[.int .i64 v, .slice A3 q c3] ∧ Blk wr bl 3 #[.int .i64 lft] ∧ w.grownBy wr (some bl) ∧ FoX wr (fun b => b < w.heap.size ∧ b ≠ bl) r (some ⟨b0, o0 + i0 * 2, none⟩) ∧ AllAs r)) (fun i _ => m - (intOf i).toNat)
  case atStart =>
    refine ⟨0, 0, l0, k, none, 0, [], by rw [hm.out]; omega, rfl, Lib.hid ⟨rfl, by omega, OwnR.nil _ _, fun x hx => by simp at hx, rfl, rfl, HK.out.1, HK.out.2.1, HK.out.2.2.1, HK.out.2.2.2.1, HK.out.2.2.2.2.2.2.1, ?_, HK.out.2.2.2.2.2.2.2⟩⟩
    have h := HK.out.2.2.2.2.2.1
    cases k with
    | nil => trivial
    | cons v0 k0 r0 => rw [hA0.out (by simp [Fo.len])] at h; simpa using h
  case round =>
    obtain ⟨i0, q, lft, r, A3, c3, L, hir, rfl, HR⟩ := hrel
    have ct1 := HR.out.2.2.2.2.2.2.1.cell 1
    have co0 := HR.out.2.2.2.2.2.2.2.2.1.cell 0
    have co1 := HR.out.2.2.2.2.2.2.2.2.1.cell 1
    have cb := HR.out.2.2.2.2.2.2.2.2.2.1.cell 0
    have cr0 := HR.out.2.2.2.2.2.2.2.1.cell 0
    have cr1 := HR.out.2.2.2.2.2.2.2.1.cell 1
    have fr0 := HR.out.2.2.2.2.2.2.2.1.frozen 0
    have fr1 := HR.out.2.2.2.2.2.2.2.1.frozen 1
    simp only [List.getElem?_toArray, List.getElem?_cons_zero, List.getElem?_cons_succ] at ct1 co0 co1 cb cr0 cr1
    have co0 : wr.cell? ⟨w.heap.size + 1 + 1, 0, none⟩ = some (.int .i64 v) := co0
    have co1 : wr.cell? ⟨w.heap.size + 1 + 1, 1, none⟩ = some (.slice A3 q c3) := co1
    have hlr := HR.out.2.2.2.2.2.2.2.1.lt
    obtain ⟨WE, hWE⟩ : ∃ WE, WE = (wr.setCell ⟨w.heap.size + 1, 0, none⟩ (.int .i64 v)).setCell ⟨w.heap.size + 1, 1, none⟩ (.slice A3 q c3) := ⟨_, rfl⟩
    have kE0 := HR.out.2.2.2.2.2.2.2.1.set_ 0 (.int .i64 v)
    have kE : Blk WE (w.heap.size + 1) 28 #[.int .i64 v, .slice A3 q c3] := by rw [hWE]; simpa using kE0.set_ 1 (.slice A3 q c3)
    have ce1 := kE0.cell 1
    have fe1 := kE0.frozen 1
    simp only [List.setIfInBounds_toArray, List.set_cons_zero, List.getElem?_toArray, List.getElem?_cons_zero, List.getElem?_cons_succ] at ce1
    have gE0 := grown_setN wr (w.heap.size + 1) 0 (.int .i64 v)
    have gE1 := grown_setN (wr.setCell ⟨w.heap.size + 1, 0, none⟩ (.int .i64 v)) (w.heap.size + 1) 1 (.slice A3 q c3)
    rw [← hWE] at gE1
    have gE : wr.grownBy WE (some (w.heap.size + 1)) := gE0.trans gE1
    have kf0 := kE.cell 0
    have kf1 := kE.cell 1
    simp only [List.getElem?_toArray, List.getElem?_cons_zero, List.getElem?_cons_succ] at kf0 kf1
    have gEw := grown_new HR.out.2.2.2.2.2.2.2.2.2.2.1 gE (fun r e => by cases e; exact .inl (Nat.le_succ _))
    have kEb := HR.out.2.2.2.2.2.2.2.2.2.1.kept gE (by have := hltb; simp; omega)
    have hfin : (asK r lft).1 = .nil → (∃ A' n c', (Value.agg #[.int .i64 v, .slice A3 q c3]) = .agg #[.int .i64 v, .slice A' n c'] ∧ n = (asK k l0).1.len ∧ n ≤ 200 ∧ FoX WE (fun b => w.heap.size ≤ b ∧ b < WE.heap.size) (asK k l0).1 A') := by
      intro hn
      obtain ⟨hq, hql, hL, hxs, hap, _⟩ := HR.out
      rw [hn, appF_nil] at hap
      have hLE := hL.kept gE (fun r e => by cases e; omega)
      refine ⟨A3, q, c3, rfl, by rw [← hap, foN_len]; exact hq, by omega, ?_⟩
      rw [← hap]
      rcases Nat.eq_zero_or_pos L.length with h0 | h0
      · rw [List.eq_nil_of_length_eq_zero h0]; trivial
      · obtain ⟨g, rfl, h1, h2, h3⟩ := hLE.row h0
        refine foX_of (by omega) L 0 h3 fun x hx => ⟨(hxs x hx).1, ((hxs x hx).2.grown gE (fun b hb => ⟨hb.2.1, by simp; omega⟩)).more (fun b hb => by have := gE.size; omega)⟩
    have HWE := Lib.hid hWE
    have HF := Lib.hid (And.intro kEb (And.intro gEw hfin))
    clear hWE kE0 kE gE0 gE1 gE gEw kEb hfin
    cases r with
    | nil =>
      simp only [Fo.len, Nat.add_zero] at hir
      subst hir
      have hiI : ¬ (i0 : Int) < (i0 : Int) := by omega
      go_wp2
      rw [← HWE.out]
      refine bodyPost_ret (by simp [results, Try.results9, go_sem, kf0, kf1]; try rfl) rfl ?_
      have hl := HR.out.2.2.2.2.2.1
      exact ⟨(by obtain ⟨A', n, c', e, h⟩ := HF.out.2.2 rfl; exact ⟨A', n, ⟨c', by rw [e]⟩, h⟩), by rw [← hl]; exact HF.out.1, HF.out.2.1⟩
    | cons v2 k2 r2 =>
      have him : i0 < m := by simp only [Fo.len] at hir; omega
      have hiI : (i0 : Int) < (m : Int) := by omega
      cases lft with
      | zero =>
        have hz : ¬ (0 : Int) < ((0 : Nat) : Int) := by omega
        go_wp2
        rw [← HWE.out]
        refine bodyPost_ret (by simp [results, Try.results9, go_sem, kf0, kf1]; try rfl) rfl ?_
        have hl := HR.out.2.2.2.2.2.1
        simp only [asK_zero] at hl
        exact ⟨(by obtain ⟨A', n, c', e, h⟩ := HF.out.2.2 (by simp only [asK_zero]); exact ⟨A', n, ⟨c', by rw [e]⟩, h⟩), by rw [← hl]; exact HF.out.1, HF.out.2.1⟩
      | succ lf =>
        have hz : (0 : Int) < ((lf + 1 : Nat) : Int) := by omega
        clear HF HWE ce1 fe1 kf0 kf1 cr0 cr1 fr0 fr1 WE
        obtain ⟨hq, hql, hL, hxs, hap, hap2, kt, kr, ko, kb, gw, hfr, har⟩ := HR.out
        obtain ⟨b, o, A4, c4, hAe, hbB, q0, q1, hk2m, hf2, hfr2⟩ := hfr
        obtain ⟨rfl, rfl⟩ : b0 = b ∧ o0 + i0 * 2 = o := by cases hAe; exact ⟨rfl, rfl⟩
        obtain rfl : A = some ⟨b0, o0, none⟩ := hA0.out (by rw [← hm.out]; simp only [Fo.len] at hir; omega)
        obtain ⟨m2, hm2⟩ : ∃ m2, m2 = k2.len := ⟨_, rfl⟩
        rw [← hm2] at q1 hk2m
        have hmm : m ≤ 9223372036854775807 := by have := hml; unfold maxLen at this; omega
        have hmI : ((i0 : Int) + 1) ≤ 9223372036854775807 := by omega
        have hcall := har.1 v2 A4 m2 c4 bl (lf + 1) (Lib.hid hm2) wr hk2m (hf2.more fun b hb => ⟨Nat.lt_of_lt_of_le hb.1 gw.size, hb.2⟩) kb (by omega) (by omega)
        rw [show lf + 1 - 1 = lf by omega] at hcall
        have HC := Lib.hid hcall
        have hle := asK_le k2 lf
        simp only [asK, Nat.add_sub_cancel] at hap hap2
        rw [if_neg (by omega)] at hap hap2
        obtain ⟨k2', lf', hkl⟩ : ∃ k2' lf', asK k2 lf = (k2', lf') := ⟨_, _, rfl⟩
        rw [hkl] at hap hap2 HC hle
        dsimp only at hap hap2 HC hle
        have hir2 : i0 + 1 + r2.len = m := by simp only [Fo.len] at hir; omega
        have HS := Lib.hid (And.intro hq (And.intro hql (And.intro hL (And.intro hxs (And.intro hap (And.intro hap2 (And.intro kt (And.intro kr (And.intro ko (And.intro gw (And.intro hfr2 (And.intro har.2 (And.intro hir2 hle)))))))))))))
        clear hcall hkl HR hq hql hL hxs hap hap2 kt kr ko kb gw hAe hbB hfr2 har hir hir2 hle hf2 hmm hm2
        go_wp2_with fail
        refine HC.out.mono ?_
        rintro e w2 ⟨⟨A5, n5, c5, rfl, hn5, hn52, hf5⟩, kb2, g2⟩
        -- t7, and the list that is put behind
        obtain ⟨hq, hql, hL, hxs, hap, hap2, kt, kr, ko, gw, hfr2, har, hir2, hle⟩ := HS.out
        obtain ⟨W5, hW5⟩ : ∃ W5, W5 = w2.alloc (.cells #[.int .i64 v2, .slice A5 n5 c5] 28) := ⟨_, rfl⟩
        obtain ⟨W6, hW6⟩ : ∃ W6, W6 = W5.alloc (.cells #[.int .i64 v2, .slice A5 n5 c5] 28) := ⟨_, rfl⟩
        have g5 : w2.grownBy W5 none := by rw [hW5]; exact World.grownBy_alloc _ _ _
        have g6 : W5.grownBy W6 none := by rw [hW6]; exact World.grownBy_alloc _ _ _
        have s5 : W5.heap.size = w2.heap.size + 1 := by rw [hW5]; simp
        have s6 : W6.heap.size = w2.heap.size + 2 := by rw [hW6]; simp [s5]
        have k75 : Blk W5 w2.heap.size 28 #[.int .i64 v2, .slice A5 n5 c5] := by rw [hW5]; exact Blk.new _ _ _
        have k86 : Blk W6 (w2.heap.size + 1) 28 #[.int .i64 v2, .slice A5 n5 c5] := by rw [hW6, ← s5]; exact Blk.new _ _ _
        have gr2 := g2.size
        have hwl := kr.lt
        have hol := ko.lt
        have ko2 := ko.kept g2 (by simp; omega)
        have ko5 := ko2.kept g5 (by simp)
        have ko6 := ko5.kept g6 (by simp)
        have kt6 := ((kt.kept g2 (by simp; omega)).kept g5 (by simp)).kept g6 (by simp)
        have kr6 := ((kr.kept g2 (by simp; omega)).kept g5 (by simp)).kept g6 (by simp)
        have kb6 := (kb2.kept g5 (by simp)).kept g6 (by simp)
        have hL6 := ((hL.kept g2 (fun r e => by cases e; omega)).kept g5 (fun r e => by cases e)).kept g6 (fun r e => by cases e)
        obtain ⟨A6, c6, w7, hrun, own7, g7, hat⟩ := refnode_more hL6 q hq (by omega) ⟨v2, A5, c5, k2'⟩ (w2.heap.size + 1) (by omega) ((k86.cell 0).trans rfl) ((k86.cell 1).trans (by rw [hn5]; rfl))
        have hblA : ∀ r, blk A3 = some r → w.heap.size + 3 ≤ r ∧ r < wr.heap.size := hL.lt'
        have ko7 := ko6.kept g7 (fun e => by have := hblA _ e.symm; omega)
        have kt7 := kt6.kept g7 (fun e => by have := hblA _ e.symm; omega)
        have kr7 := kr6.kept g7 (fun e => by have := hblA _ e.symm; omega)
        have kb7 := kb6.kept g7 (fun e => by have := hblA _ e.symm; omega)
        obtain ⟨W8, hW8⟩ : ∃ W8, W8 = w7.setCell ⟨w.heap.size + 2, 1, none⟩ (.slice A6 (q + 1 : Nat) c6) := ⟨_, rfl⟩
        have g8 : w7.grownBy W8 (some (w.heap.size + 2)) := by rw [hW8]; exact grown_setN _ _ _ _
        have ko8 : Blk W8 (w.heap.size + 2) 28 #[.int .i64 v, .slice A6 (q + 1) c6] := by rw [hW8]; simpa using ko7.set_ 1 (.slice A6 (q + 1 : Nat) c6)
        have kt8 := kt7.kept g8 (by simp)
        have kr8 := kr7.kept g8 (by simp)
        have kb8 := kb7.kept g8 (by simp; omega)
        have own8 := own7.kept g8 (fun r e => by cases e; omega)
        have gw6 : w.grownBy W6 (some bl) := grown_new (grown_new (gw.trans g2) g5 (fun r e => by cases e)) g6 (fun r e => by cases e)
        have gw8 : w.grownBy W8 (some bl) := grown_new (grown_new gw6 g7 (fun r e => by have := hblA r e; exact .inl (by omega))) g8 (fun r e => by cases e; exact .inl (by omega))
        have hfr8 : FoX W8 (fun b => b < w.heap.size ∧ b ≠ bl) r2 (some ⟨b0, o0 + i0 * 2 + 2, none⟩) := by
          have h1 := hfr2.grown g2 (fun b hb => ⟨Nat.lt_of_lt_of_le hb.1 gw.size, by simp; exact hb.2⟩)
          have h2 := (h1.grown g5 (fun b hb => ⟨by have := hb.1; omega, by simp⟩)).grown g6 (fun b hb => ⟨by have := hb.1; omega, by simp⟩)
          have h3 := h2.grown g7 (fun b hb => ⟨by have := hb.1; omega, fun e => by have := hblA b e.symm; have := hb.1; omega⟩)
          exact h3.grown g8 (fun b hb => ⟨by have := hb.1; have := g7.size; omega, by simp; have := hb.1; omega⟩)
        have hxs8 : ∀ x ∈ L ++ [(⟨v2, A5, c5, k2'⟩ : NR)], x.k.len ≤ maxLen ∧ FoX W8 (fun b => w.heap.size + 3 ≤ b ∧ b < W8.heap.size ∧ blk A6 ≠ some b) x.k x.A := by
          have key : ∀ (f : Fo) (Aq : Option Addr), FoX W6 (fun b => w.heap.size + 3 ≤ b ∧ b < w2.heap.size ∧ blk A3 ≠ some b) f Aq → FoX W8 (fun b => w.heap.size + 3 ≤ b ∧ b < W8.heap.size ∧ blk A6 ≠ some b) f Aq := fun f Aq h => by
            have h1 := h.grown g7 (fun b hb => ⟨by have := hb.2.1; omega, fun e => hb.2.2 e.symm⟩)
            have h2 := h1.grown g8 (fun b hb => ⟨by have := hb.2.1; have := g7.size; omega, by simp; have := hb.1; omega⟩)
            exact h2.more fun b hb => ⟨hb.1, by have := hb.2.1; have := g7.size; have := g8.size; omega, fun e => by rcases hat b e with h | h; exact hb.2.2 h; have := hb.2.1; omega⟩
          intro x hx
          rcases List.mem_append.1 hx with hx | hx
          · obtain ⟨h0, h1⟩ := hxs x hx
            refine ⟨h0, key _ _ ?_⟩
            have h2 := h1.grown g2 (fun b hb => ⟨hb.2.1, by simp; have := hb.1; omega⟩)
            have h3 := (h2.grown g5 (fun b hb => ⟨by have := hb.2.1; omega, by simp⟩)).grown g6 (fun b hb => ⟨by have := hb.2.1; omega, by simp⟩)
            exact h3.more fun b hb => ⟨hb.1, by have := hb.2.1; omega, hb.2.2⟩
          · simp only [List.mem_cons, List.not_mem_nil, or_false] at hx
            subst hx
            refine ⟨by dsimp only; rw [← hn5]; unfold maxLen; omega, key _ _ ?_⟩
            have h3 := (hf5.grown g5 (fun b hb => ⟨hb.2, by simp⟩)).grown g6 (fun b hb => ⟨by have := hb.2; omega, by simp⟩)
            exact h3.more fun b hb => ⟨by have := hb.1; omega, hb.2, fun e => by have := hblA b e; have := hb.1; omega⟩
        have hap8 : appF (foN (L ++ [(⟨v2, A5, c5, k2'⟩ : NR)])) (asK r2 lf').1 = (asK k l0).1 := by rw [foN_snoc]; exact hap
        have HN := Lib.hid (And.intro own8 (And.intro hxs8 (And.intro hap8 (And.intro hap2 (And.intro kt8 (And.intro kr8 (And.intro ko8 (And.intro kb8 (And.intro gw8 (And.intro hfr8 (And.intro har (And.intro hir2 (And.intro hq (And.intro hql hle))))))))))))))
        have HW8 := Lib.hid hW8
        have cc0 := k75.cell 0
        have cc1 := k75.cell 1
        have cd : W5.cell? ⟨w.heap.size + 1 + 1, 1, none⟩ = _ := ko5.cell 1
        have ce : w7.cell? ⟨w.heap.size + 1 + 1, 1, none⟩ = _ := ko7.cell 1
        have cf : w7.frozen? ⟨w.heap.size + 1 + 1, 1, none⟩ = _ := ko7.frozen 1
        simp only [List.getElem?_toArray, List.getElem?_cons_zero, List.getElem?_cons_succ] at cc0 cc1 cd ce
        rw [hW5] at cc0 cc1 cd
        rw [hW6, hW5] at hrun
        clear hq hql hL hxs hap hap2 kt kr ko gw hfr2 har hir2 hle hW5 hW6 g5 g6 s5 s6 k75 k86 gr2 hwl hol ko2 ko5 ko6 kt6 kr6 kb6 hL6 own7 g7 hat hblA ko7 kt7 kr7 kb7 hW8 g8 ko8 kt8 kr8 kb8 own8 gw6 gw8 hfr8 hxs8 hap8 hn5 hn52 hf5 kb2 g2 ct1 co0 co1 cb q0 q1
        go_wp2_with (at_builtin; refine wpList_append_run rfl (.tmp 38) (.tmp 40) 26 rfl _ _ _ w7 rfl rfl hrun ?_)
        have HW9 : w7.setCell ⟨w.heap.size + 1 + 1, 1, none⟩ (.slice A6 (q + 1) c6) = W8 := HW8.out.symm
        rw [HW9]
        clear hrun cc0 cc1 cd ce cf HW9
        go_roundw
        case rel =>
          obtain ⟨h1, h2, h3, h4, h5, h6, h7, h8, h9, h10, h11, h12, h13, h14, h15⟩ := HN.out
          exact ⟨i0 + 1, q + 1, lf', r2, A6, c6, _, h12, by go_num, Lib.hid ⟨by rw [List.length_append, List.length_singleton, h13], by omega, h1, h2, h3, h4, h5, h6, h7, h8, h9, by rw [show o0 + (i0 + 1) * 2 = o0 + i0 * 2 + 2 by omega]; exact h10, h11⟩⟩
        case measure => simp [intOf]; omega
theorem as_all : ∀ k : Fo, AllAs k
  | .nil => trivial
  | .cons v k r => ⟨as_tree k (as_all k), as_all r⟩
theorem as_any (k : Fo) : AsOk k := as_tree k (as_all k)
end Go.Proofs.Ytmfjenhonghkpaa
