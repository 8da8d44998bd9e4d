/- Parts Bi InvJ Bj of one proof. -/
import Derived.Test.YtihchfjdgeehoaaMg09
import Derived.Test.YtihchfjdgeehoaaMg05
namespace Go.Proofs.Ytihchfjdgeehoaa
open Go.RowKit Go.Maps
set_option linter.unusedVariables false
set_option linter.unusedSimpArgs false

def dropM (S : KS) (n : Int) : KS := { S with W := updW S.W n none, L := dropL S.L n }
/-- The works have turned. -/
theorem KvAt.worked {w w' : World} {g N : Nat} {tt : TypeId} {cs : Array Value} {S : KS} {W' : Int → Option (List Ch × Bool)} (h : KvAt w g tt cs S N) (hg : w.grownBy w' (some g)) {m' : Option Nat} {G' : Int → Option Value} (hb : Blk w' g tt (cs.setIfInBounds 32 (.map m'))) (hs : FSrc isWork w' m' N G') (hr : WRel w' S.B G' W') (hle : ∀ k l p, W' k = some (l, p) → l.length ≤ N ∧ ∀ x ∈ l, keyB x.y = true) : KvAt w' g tt (cs.setIfInBounds 32 (.map m')) { S with W := W' } N := by
  obtain ⟨h1, h2, h3, ⟨mw, G, h4, h5, h6⟩, ⟨h7, m2, h8, h9⟩, h10⟩ := h
  refine ⟨hb, h2, fun k hk => ?_, ⟨m', G', set_at h4, hs, hr⟩, ⟨h7, m2, ?_, h9.kept hg h1⟩, hle⟩
  · rw [Array.getElem?_setIfInBounds_ne (by omega), Array.getElem?_setIfInBounds_ne (by omega)]; exact h3 k hk
  · rw [Array.getElem?_setIfInBounds_ne (by omega)]; exact h8
set_option maxRecDepth 100000 in
set_option maxHeartbeats 2000000 in
theorem kdrop_any (g : Nat) (tt : TypeId) (cs : Array Value) (S : KS) (N : Nat) (n : Int) (w : World) (h : KvAt w g tt cs S N) (hn : i64ok n) :
    Calls Try.prog 38 #[.pointer (some ⟨g, 0, none⟩), .int .i64 n] w fun e w' => e = .returned (.tuple #[]) ∧ KvO w g tt cs (dropM S n) N w' := by
  have hkey := keyOf_i n hn
  obtain ⟨mw, G, h4, h5, h6⟩ := h.wk
  have c32 := (h.bk.cell 32).trans h4
  have HC := Lib.hid h5.cloned
  have H := Lib.hid (And.intro h (And.intro h6 (And.intro hn h4)))
  have hle : Hid (∀ k l p, updW S.W n none k = some (l, p) → l.length ≤ N ∧ ∀ x ∈ l, keyB x.y = true) := Lib.hid (fun k l p e => by
    unfold updW at e
    split at e
    · cases e
    · exact h.le k l p e)
  clear h h4 h5 h6 hn
  go_enter Try.func38, Try.ntmps38
  go_wp2_with fail
  refine HC.out.mono ?_
  rintro e w1 ⟨⟨m', rfl, hs1, hlt⟩, b1⟩
  obtain ⟨h, h6, hn, h4⟩ := H.out
  have h1 := h.below b1
  have hg1 := h1.bk
  have h61 := h6.same (w' := w1) fun A l hc => hc.below b1
  have hgl := h.lt
  have d0 := (hg1.cell 32).trans h4
  have f0 := hg1.frozen 32
  rcases hs1 with ⟨rfl, rfl⟩ | ⟨b, D, rfl, hown, hR⟩
  · have hdn := fun (u : World) ty => Maps.drop_nil (P := Try.prog) (w := u) lawI Try.underlying54 hkey ty
    obtain ⟨w2, hw2⟩ : ∃ w2, w2 = w1.setCell ⟨g, 32, none⟩ (.map none) := ⟨_, rfl⟩
    have g2 : w1.grownBy w2 (some g) := by rw [hw2]; exact lgrown_set _ _ _
    have kk2 : KvAt w2 g tt (cs.setIfInBounds 32 (.map none)) { S with W := updW S.W n none } N := h1.worked g2 (by rw [hw2]; exact hg1.set_ 32 _) (.inl ⟨rfl, rfl⟩) (by
      have := (h61.del n).same (w' := w2) fun A l hc => hc.kept g2 hg1 h1.ty
      have e : delG (fun _ => none) n = fun _ => none := by funext j; unfold delG; split <;> rfl
      rwa [e] at this) hle.out
    have HD := Lib.hid (drop_any g 33 tt _ S.L n w2 kk2.tab hn)
    have HK := Lib.hid (And.intro kk2 ((lbelow_grown b1 (some g)).trans g2))
    have HW := Lib.hid hw2
    clear h h6 h4 h1 hg1 h61 g2 kk2 hw2 c32
    go_wp2_with fail
    rw [← HW.out]
    refine HD.out.mono ?_
    rintro e w3 ⟨rfl, ht, hg3⟩
    obtain ⟨cs', hk', hkp⟩ := HK.out.1.locked hg3 ht
    have HF := Lib.hid (KvO.from (Keep.set cs 32 (by omega) (.map none)) HK.out.2 ⟨⟨cs', hk', hkp⟩, hg3⟩)
    clear ht hg3 hk' hkp d0 f0
    go_wp2
    go_end0
    exact ⟨rfl, HF.out⟩
  · have hbl := hlt b rfl
    have hgb : g ≠ b := by omega
    have Hlt := Lib.hid (And.intro hbl hgb)
    clear c32 d0 f0 hlt
    go_wp2_with (at_delete; refine wpList_delete_own _ rfl _ _ 54 3 rfl 81 lawI Try.underlying54 _ b _ _ rfl hown _ _ rfl hkey ?_; intro w2 hown2 hturn; go_frame; have hg2 := hturn.grown; have k2 := hg1.kept hg2 (fun e => hgb (Option.some.inj e)); have d0 := (k2.cell 32).trans h4; have f0 := k2.frozen 32)
    obtain ⟨w3, hw3⟩ : ∃ w3, w3 = w2.setCell ⟨g, 32, none⟩ (.map (some b)) := ⟨_, rfl⟩
    have gg2 : w.grownBy w2 none := by
      refine ⟨hg2.os.trans b1.os, hg2.tape.trans b1.tape, hg2.output.trans b1.output, Nat.le_trans b1.size hg2.size, fun i hi _ => ?_⟩
      exact (hg2.block i (Nat.lt_of_lt_of_le hi b1.size) (fun e => by have := Option.some.inj e; omega)).trans (b1.block i hi)
    have hh2 := h.below (lgrown_below gg2)
    have g3 : w2.grownBy w3 (some g) := by rw [hw3]; exact lgrown_set _ _ _
    have kk3 : KvAt w3 g tt (cs.setIfInBounds 32 (.map (some b))) { S with W := updW S.W n none } N := hh2.worked g3 (by rw [hw3]; exact k2.set_ 32 _) (.inr ⟨b, _, rfl, hown2.kept g3 (fun e => hgb (Option.some.inj e).symm), hR.del n⟩) (by
      have := ((h6.same (w' := w2) fun A l hc => hc.below (lgrown_below gg2)).del n).same (w' := w3) fun A l hc => hc.kept g3 k2 h.ty
      exact this) hle.out
    have HD := Lib.hid (drop_any g 33 tt _ S.L n w3 kk3.tab hn)
    have HK := Lib.hid (And.intro kk3 ((gg2.but (some g)).trans g3))
    have HW := Lib.hid hw3
    clear h h6 h4 h1 hg1 h61 g3 kk3 hw3 hown2 hturn hg2 k2 gg2 hh2 hown hbl hR
    go_wp2_with fail
    rw [← HW.out]
    refine HD.out.mono ?_
    rintro e w4 ⟨rfl, ht, hg3⟩
    obtain ⟨cs', hk', hkp⟩ := HK.out.1.locked hg3 ht
    have HF := Lib.hid (KvO.from (Keep.set cs 32 (by omega) (.map (some b))) HK.out.2 ⟨⟨cs', hk', hkp⟩, hg3⟩)
    clear ht hg3 hk' hkp d0 f0
    go_wp2
    go_end0
    exact ⟨rfl, HF.out⟩
theorem backout_nil (n : Int) (w : World) : Calls Try.prog 21 #[.pointer none, .int .i64 n] w fun e w' => e = .returned (.int .i64 6) ∧ w = w' := by
  go_enter Try.func21, Try.ntmps21
  go_wp2_with fail
  refine (names_nil n w).mono ?_
  rintro e w1 ⟨rfl, rfl⟩
  go_wp2
  go_ret
  exact ⟨rfl, rfl⟩
def backoutM (S : KS) (n : Int) : Int × KS := if n < 1 then (1, S) else (0, dropM S n)
theorem backout_any (g : Nat) (tt : TypeId) (cs : Array Value) (S : KS) (N : Nat) (n : Int) (w : World) (h : KvAt w g tt cs S N) (hn : i64ok n) :
    Calls Try.prog 21 #[.pointer (some ⟨g, 0, none⟩), .int .i64 n] w fun e w' => e = .returned (.int .i64 (backoutM S n).1) ∧ KvO w g tt cs (backoutM S n).2 N w' := by
  have HN := Lib.hid (names_any g n w)
  by_cases h1 : n < 1
  · have hM : backoutM S n = (1, S) := if_pos h1
    rw [hM]
    have HF := Lib.hid (KvO.same h (Below.refl _ _))
    have hE : namesE n = 1 := if_pos h1
    rw [hE] at HN
    clear h hM hE
    go_enter Try.func21, Try.ntmps21
    go_wp2_with fail
    refine HN.out.mono ?_
    rintro e w1 ⟨rfl, rfl⟩
    go_wp2
    go_ret
    exact ⟨rfl, HF.out⟩
  · have hM : backoutM S n = (0, dropM S n) := if_neg h1
    rw [hM]
    have HD := Lib.hid (kdrop_any g tt cs S N n w h hn)
    have hE : namesE n = 0 := if_neg h1
    rw [hE] at HN
    clear h hM hE
    go_enter Try.func21, Try.ntmps21
    go_wp2_with fail
    refine HN.out.mono ?_
    rintro e w1 ⟨rfl, rfl⟩
    go_wp2_with fail
    refine HD.out.mono ?_
    rintro e w2 ⟨rfl, hk⟩
    have HF := Lib.hid hk
    clear hk
    go_wp2
    go_ret
    exact ⟨rfl, HF.out⟩
/-- A work is prepared: its changes, the error, the store. -/
def prepM (S : KS) (n : Int) : (List Ch × Int) × KS :=
  if n < 1 then (([], 1), S) else if (curW S n).2 = true then (([], 7), S) else if (S.W n).isSome = false then (([], 0), { S with L := dropL S.L n }) else (((curW S n).1, 0), { S with W := updW S.W n (some ((curW S n).1, true)) })
theorem prep_nil (n : Int) (w : World) : Calls Try.prog 24 #[.pointer none, .int .i64 n] w fun e w' => e = .returned (.tuple #[.slice none 0 0, .int .i64 6]) ∧ w = w' := by
  go_enter Try.func24, Try.ntmps24
  go_wp2_with fail
  refine (names_nil n w).mono ?_
  rintro e w1 ⟨rfl, rfl⟩
  go_wp2
  go_ret2
  exact ⟨rfl, rfl⟩
set_option maxRecDepth 100000 in
set_option maxHeartbeats 2000000 in
theorem prep_any (g : Nat) (tt : TypeId) (cs : Array Value) (S : KS) (N : Nat) (n : Int) (w : World) (h : KvAt w g tt cs S N) (hN : N < 300000) (hn : i64ok n) :
    Calls Try.prog 24 #[.pointer (some ⟨g, 0, none⟩), .int .i64 n] w fun e w' => (∃ A q c, e = .returned (.tuple #[.slice A q c, .int .i64 (prepM S n).1.2]) ∧ q = (prepM S n).1.1.length ∧ OwnC w' w.heap.size A c (prepM S n).1.1) ∧ KvO w g tt cs (prepM S n).2 (N + 1) w' := by
  have HN := Lib.hid (names_any g n w)
  by_cases h1 : n < 1
  · have hM : prepM S n = (([], 1), S) := if_pos h1
    rw [hM]
    have HF := Lib.hid (KvO.same (h.more (Nat.le_succ N)) (Below.refl _ _))
    have hE : namesE n = 1 := if_pos h1
    rw [hE] at HN
    clear h hM hE
    go_enter Try.func24, Try.ntmps24
    go_wp2_with fail
    refine HN.out.mono ?_
    rintro e w1 ⟨rfl, rfl⟩
    go_wp2
    go_ret2
    exact ⟨⟨none, 0, 0, rfl, rfl, OwnC.nil _ _⟩, HF.out⟩
  have hE : namesE n = 0 := if_neg h1
  rw [hE] at HN
  obtain ⟨m, A, q, c, h32, hq, hc, _, r2⟩ := h.look hn
  have hlen : (curW S n).1.length ≤ N := by
    unfold curW
    rcases hW : S.W n with _ | ⟨l, p⟩
    · exact Nat.zero_le _
    · exact (h.le n l p hW).1
  have hkl : ∀ x ∈ (curW S n).1, keyB x.y = true := by
    unfold curW
    rcases hW : S.W n with _ | ⟨l, p⟩
    · intro x hx; simp at hx
    · exact (h.le n l p hW).2
  have c32 := (h.bk.cell 32).trans h32
  obtain ⟨w3, hw3⟩ : ∃ w3, w3 = w.alloc (.cells #[.slice A q c, .bool (curW S n).2] 81) := ⟨_, rfl⟩
  have b3 : Below w.heap.size w w3 := by rw [hw3]; exact ba _ _
  have kw : Blk w3 w.heap.size 81 #[.slice A q c, .bool (curW S n).2] := by rw [hw3]; exact Blk.new _ _ _
  have d0 := kw.cell 0
  have d1 := kw.cell 1
  have f1 := kw.frozen 1
  simp only [List.getElem?_toArray, List.getElem?_cons_zero, List.getElem?_cons_succ] at d0 d1
  have hgl := h.lt
  have Hc := Lib.hid hc
  have H3 := Lib.hid (And.intro (h.below b3) (And.intro b3 (And.intro kw (And.intro (hc.below b3) (And.intro hq (And.intro hgl (And.intro hlen (And.intro hkl hn))))))))
  have HW3 := Lib.hid hw3
  rw [hw3] at d0 d1 f1
  clear hw3 b3 kw hc hq h32 hlen hkl hgl hE
  rcases hp : (curW S n).2 with _ | _
  · rcases hs : (S.W n).isSome with _ | _
    · have hM : prepM S n = (([], 0), { S with L := dropL S.L n }) := by unfold prepM; rw [if_neg h1, if_neg (by simp [hp]), if_pos hs]
      rw [hM]
      rw [hp, hs] at r2
      rw [hp] at d0 d1 f1 H3 HW3
      have HD := Lib.hid (drop_any g 33 tt cs S.L n w3 H3.out.1.tab hn)
      clear h hM hs hp
      go_enter Try.func24, Try.ntmps24
      go_wp2_with fail
      refine HN.out.mono ?_
      rintro e w1 ⟨rfl, rfl⟩
      go_wp2_with fail
      rw [← HW3.out]
      refine HD.out.mono ?_
      rintro e w4 ⟨rfl, ht, hg⟩
      have HF := Lib.hid (KvO.from (cs := cs) Keep.rfl' (lbelow_grown H3.out.2.1 (some g)) ⟨((H3.out.1.more (Nat.le_succ N)).locked hg ht), hg⟩)
      clear ht hg d0 d1 f1
      go_wp2
      go_ret2
      exact ⟨⟨none, 0, 0, rfl, rfl, OwnC.nil _ _⟩, HF.out⟩
    · have hM : prepM S n = (((curW S n).1, 0), { S with W := updW S.W n (some ((curW S n).1, true)) }) := by unfold prepM; rw [if_neg h1, if_neg (by simp [hp]), if_neg (by simp [hs])]
      rw [hM]
      rw [hp, hs] at r2
      rw [hp] at d0 d1 f1 H3 HW3
      obtain ⟨l, hl⟩ : ∃ l, l = (curW S n).1 := ⟨_, rfl⟩
      rw [← hl] at H3 ⊢
      obtain ⟨w4, hw4⟩ : ∃ w4, w4 = w.alloc (.cells #[.slice A q c, .bool true] 81) := ⟨_, rfl⟩
      obtain ⟨_, _, _, _, hq, hgl, hlen, hkl, hnn⟩ := H3.out
      have b4 : Below w.heap.size w w4 := by rw [hw4]; exact ba _ _
      have kw4 : Blk w4 w.heap.size 81 #[.slice A q c, .bool true] := by rw [hw4]; exact Blk.new _ _ _
      have hk4 := h.below b4
      have hc4 : ChAt w4 S.B A l := by rw [hl]; exact Hc.out.below b4
      have HL := Lib.hid (lay_any g tt cs S N n A l q c true w4 hk4 (by omega) hn hq (by omega) hkl hc4)
      have p0 := kw4.cell 0
      have p1 := kw4.cell 1
      simp only [List.getElem?_toArray, List.getElem?_cons_zero, List.getElem?_cons_succ] at p0 p1
      have H4 := Lib.hid (And.intro kw4 (And.intro b4 (And.intro hc4 (And.intro hk4.bk (And.intro hk4.ty hgl)))))
      have HW4 := Lib.hid hw4
      rw [HW4.out] at p0 p1
      clear h hM hs hp hl hgl hkl hnn hk4 hc4 kw4 b4 hw4 H3 HW3
      have Hq := Lib.hid (And.intro hq hlen)
      clear hq hlen
      go_enter Try.func24, Try.ntmps24
      go_wp2_with fail
      refine HN.out.mono ?_
      rintro e w1 ⟨rfl, rfl⟩
      go_wp2_with fail
      rw [← HW4.out]
      refine HL.out.mono ?_
      rintro e w5 ⟨rfl, ⟨cs5, hk5, hkp5⟩, hg5⟩
      obtain ⟨kw4, b4, hc4, hbk, hty, hgl⟩ := H4.out
      have kw5 := kw4.kept hg5 (fun e => by have := Option.some.inj e; omega)
      have HCl := Lib.hid (cclone_any A l q c w5 (Lib.hid Hq.out.1) (Lib.hid (by have := Hq.out; omega)) (hc4.kept hg5 hbk hty))
      have p0' := kw5.cell 0
      simp only [List.getElem?_toArray, List.getElem?_cons_zero, List.getElem?_cons_succ] at p0'
      have H5 := Lib.hid (And.intro hk5 (And.intro hkp5 ((lbelow_grown b4 (some g)).trans hg5)))
      clear d0 d1 f1 p0 p1 kw4 b4 hc4 hbk hty hk5 hkp5 hg5 kw5 hgl
      go_wp2_with fail
      refine HCl.out.mono ?_
      rintro e w6 ⟨A6, c6, rfl, own6, b6⟩
      have HF := Lib.hid (And.intro own6 (And.intro (H5.out.1.below b6) (H5.out.2.2.trans (lbelow_grown b6 (some g)))))
      clear own6 b6 p0'
      go_wp2
      go_ret2
      exact ⟨⟨A6, q, c6, rfl, Hq.out.1, HF.out.1.less (by have := H5.out.2.2.size; exact this)⟩, ⟨cs5, HF.out.2.1, H5.out.2.1⟩, HF.out.2.2⟩
  · have hM : prepM S n = (([], 7), S) := by unfold prepM; rw [if_neg h1, if_pos hp]
    rw [hM]
    rw [hp] at r2 d0 d1 f1 HW3
    have HF := Lib.hid (KvO.same (h.more (Nat.le_succ N)) H3.out.2.1)
    clear h hM hp H3
    generalize (S.W n).isSome = sb at r2
    go_enter Try.func24, Try.ntmps24
    go_wp2_with fail
    refine HN.out.mono ?_
    rintro e w1 ⟨rfl, rfl⟩
    go_wp2
    rw [← HW3.out]
    go_ret2
    exact ⟨⟨none, 0, 0, rfl, rfl, OwnC.nil _ _⟩, HF.out⟩
end Go.Proofs.Ytihchfjdgeehoaa

namespace Go.Proofs.Ytihchfjdgeehoaa
open Go Go.RowKit
set_option linter.unusedVariables false

def updB (ls : Nat → Bool) (i : Nat) : Nat → Bool := fun j => if j = i then true else ls j
theorem updB_same (ls : Nat → Bool) (i : Nat) : updB ls i i = true := if_pos rfl
theorem updB_other {ls : Nat → Bool} {i j : Nat} (h : j ≠ i) : updB ls i j = ls j := if_neg h
theorem upd_other {x : Nat → Value} {i j : Nat} {v : Value} (h : j ≠ i) : upd x i v j = x j := if_neg h
theorem upd_same {x : Nat → Value} {i : Nat} {v : Value} : upd x i v i = v := if_pos rfl
section
variable {P : Program} {Q : Exit → Act → World → Prop}

/-- **A region by what its operations yield, and by which have come up.** V i: what operation i has put, whatever the world; C: the worlds, by which operations have come up and what they have put. -/
theorem wp_region_invJ {id : Nat} {l : List Oper} {a : Act} {w : World} {F : (Nat → Value) → Act} (V : Nat → Value → Prop) (C : (Nat → Bool) → (Nat → Value) → World → Prop)
    (hm : P.follows .mixedOrders = true) (hd : dstsApart l = true) (hx : lexOk l.toArray = true) (hF : ∀ x, mkA l 0 x a = F x)
    (hC : ∀ x, C (fun _ => false) x w.drew)
    (step : AllOps (fun i o => ∀ ls x w, C ls x w → ls i = false → KnownTill (fun j v _ => ls j = true ∧ V j v) (fun _ => none) i x w o.after.toList → ∀ K : Act → World → Prop, (∀ v a' w', C (updB ls i) (upd x i v) w' → V i v → a' = (F x).put o.dst v → K a' w') → if Region.wanted o (yielded l.toArray (F x).tmps) = true then Oper.wp P o (F x) w K Q else K ((F x).put o.dst undef) w) 0 l)
    (fin : ∀ ls x w', C ls x w' → (∀ i, i < l.length → ls i = true ∧ V i (x i)) → Q .normal (F x) w') : (Code.region id l.toArray true).wp P Q a w := by
  refine wp_region_any hm ?_
  have h0 : a = F fun i => (((l[i]?).bind (·.dst)).map fun t => a.tmps.getD t undef).getD undef := by
    rw [← hF, mkA_own]
    intro i o ho
    rw [Nat.zero_add, ho]
    rfl
  refine wpAny_inv (fun ls b u => ∃ x, b = F x ∧ C (fun i => ls.getD i false) x u ∧ ∀ i, i < l.length → ls.getD i false = true → V i (x i)) ?_ ?_ _ _ _ _ (by simp) ?_ ⟨_, h0, ?_, fun i _ hi => ?_⟩
  · rintro ls b u i hs ⟨x, rfl, hc, hv⟩ hi
    obtain ⟨hl, o, ho, hall⟩ := mem_ready.1 hi
    refine wpOp_want ho ?_
    have ho' : l[i]? = some o := by simpa using ho
    have hon : ∀ j, ls.getD j false = true → j < l.length := fun j hj => by
      rcases Nat.lt_or_ge j ls.size with h' | h'
      · simpa [hs] using h'
      · rw [Array.getD_eq_getD_getElem?, Array.getElem?_eq_none h'] at hj; simp at hj
    have hsz : i < ls.size := by
      rcases Nat.lt_or_ge i ls.size with h' | h'
      · exact h'
      · rw [Array.getD_eq_getD_getElem?, Array.getElem?_eq_none h'] at hl; simp at hl
    have hlf : ls.getD i false = false := by
      rw [Array.getD_eq_getD_getElem?, Array.getElem?_eq_getElem hsz] at hl ⊢
      simpa using hl
    have hst := allOps_at _ _ _ _ step ho'
    rw [Nat.zero_add] at hst
    refine hst _ x u hc hlf (knownTill_of _ fun e he hb _ => ?_) _ ?_
    · have h1 := hall e (by simpa using he) hb
      exact ⟨h1, hv _ (hon e.on h1) h1⟩
    rintro v _ u' hc' hvi rfl
    have hput : (F x).put o.dst v = F (upd x i v) := by
      rw [← hF, ← hF]
      have := mkA_upd (v := v) l 0 i x a hd ho'
      rw [Nat.zero_add] at this
      exact this.symm
    have hls : (fun j => (ls.setIfInBounds i true).getD j false) = updB (fun j => ls.getD j false) i := by
      funext j
      unfold updB
      by_cases hji : j = i
      · subst hji
        rw [if_pos rfl, Array.getD_eq_getD_getElem?, Array.getElem?_setIfInBounds_self_of_lt hsz]; rfl
      · rw [if_neg hji]; exact getD_set_ne false (Ne.symm hji)
    refine ⟨upd x i v, hput, by rw [hls]; exact hc', fun j hjl hj => ?_⟩
    by_cases hji : j = i
    · subst hji
      rw [upd_same]; exact hvi
    · rw [upd_other hji]
      rw [getD_set_ne false (Ne.symm hji)] at hj
      exact hv j hjl hj
  · rintro ls b u hs ⟨x, rfl, hc, hv⟩ hr
    refine fin _ x u hc fun i hi => ?_
    have hi' : i < l.toArray.size := by simpa using hi
    have h1 := ready_all hs hx hr i hi'
    have h2 : ls.getD i false = true := by
      rw [Array.getD_eq_getD_getElem?, Array.getElem?_eq_getElem (show i < ls.size by omega)] at h1 ⊢
      simpa using h1
    exact ⟨h2, hv i hi h2⟩
  · unfold unlisted
    rw [Array.toList_replicate]
    exact Nat.le_trans List.countP_le_length (by simp)
  · have he : (fun i => (Array.replicate l.toArray.size false).getD i false) = fun _ => false := by
      funext i
      rw [Array.getD_eq_getD_getElem?, Array.getElem?_replicate]
      split <;> rfl
    rw [he]; exact hC _
  · rw [Array.getD_eq_getD_getElem?, Array.getElem?_replicate] at hi
    split at hi <;> simp at hi
end
end Go.Proofs.Ytihchfjdgeehoaa

namespace Go.Proofs.Ytihchfjdgeehoaa
open Go.RowKit Go.Maps
set_option linter.unusedVariables false
set_option linter.unusedSimpArgs false

def setV (V : Nat → Nat × Bool) (x : Ch) : Nat → Nat × Bool := fun k => if k = x.y.toNat then (x.v, x.k == 1) else V k
/-- A value has turned. -/
theorem KvAt.valued {w : World} {g N : Nat} {tt : TypeId} {cs : Array Value} {S : KS} (h : KvAt w g tt cs S N) (k : Nat) (hk : k < 16) (x : Ch) (hx : x.y = (k : Int)) :
    ∃ cs', KvAt ((w.setCell ⟨g, k * 2, none⟩ (.int .u64 (x.v : Nat))).setCell ⟨g, k * 2 + 1, none⟩ (.bool (x.k == 1))) g tt cs' { S with V := setV S.V x } N ∧ Keep cs cs' := by
  obtain ⟨h1, h2, h3, ⟨mw, G, h4, h5, h6⟩, ⟨h7, m2, h8, h9⟩, h10⟩ := h
  have ge := (lgrown_set w ⟨g, k * 2, none⟩ (.int .u64 (x.v : Nat))).trans (lgrown_set (w.setCell ⟨g, k * 2, none⟩ (.int .u64 (x.v : Nat))) ⟨g, k * 2 + 1, none⟩ (.bool (x.k == 1)))
  have hkx : x.y.toNat = k := by rw [hx]; simp
  refine ⟨_, ⟨(h1.set_ (k * 2) _).set_ (k * 2 + 1) _, h2, fun j hj => ?_, ⟨mw, G, ?_, h5.kept ge h1, h6.same fun A l hc => hc.kept ge h1 h2⟩, ⟨h7, m2, ?_, h9.kept ge h1⟩, h10⟩, (Keep.set _ _ (by omega) _).trans (Keep.set _ _ (by omega) _)⟩
  · have hv := h3 j hj
    show _ = some (Value.int .u64 ((setV S.V x j).1 : Nat)) ∧ _ = some (Value.bool (setV S.V x j).2)
    unfold setV
    rw [hkx]
    have h0 := h3 k hk
    have hs1 : 2 * k < cs.size := (Array.getElem?_eq_some_iff.1 h0.1).1
    have hs2 : 2 * k + 1 < cs.size := (Array.getElem?_eq_some_iff.1 h0.2).1
    by_cases e : j = k
    · subst e
      rw [if_pos rfl]
      constructor
      · rw [Array.getElem?_setIfInBounds_ne (by omega), Nat.mul_comm, Array.getElem?_setIfInBounds_self_of_lt (by omega)]
      · rw [Nat.mul_comm j 2, Array.getElem?_setIfInBounds_self_of_lt (by simp; omega)]
    · rw [if_neg e]
      constructor
      · rw [Array.getElem?_setIfInBounds_ne (by omega), Array.getElem?_setIfInBounds_ne (by omega)]; exact hv.1
      · rw [Array.getElem?_setIfInBounds_ne (by omega), Array.getElem?_setIfInBounds_ne (by omega)]; exact hv.2
  · rw [Array.getElem?_setIfInBounds_ne (by omega), Array.getElem?_setIfInBounds_ne (by omega)]; exact h4
  · rw [Array.getElem?_setIfInBounds_ne (by omega), Array.getElem?_setIfInBounds_ne (by omega)]; exact h8
def VCm (g tb k v : Nat) (kd : Int) (th : Bool) (i : Nat) (v_ : Value) : Prop :=
  match i with
  | 0 => v_ = .pointer (some ⟨g, 0, none⟩)
  | 1 => v_ = .pointer (some ⟨tb, 1, none⟩)
  | 2 => v_ = .int .i64 (k : Nat)
  | 3 => v_ = .pointer (some ⟨tb, 2, none⟩)
  | 4 => v_ = .int .u64 (v : Nat)
  | 5 => v_ = .pointer (some ⟨tb, 0, none⟩)
  | 6 => v_ = .int .i64 kd
  | 7 => v_ = .bool th
  | 8 => v_ = .agg #[.int .u64 (v : Nat), .bool th]
  | 9 => v_ = .pointer (some ⟨g, 0, none⟩)
  | 10 => v_ = .pointer (some ⟨g, 0, none⟩)
  | 11 => v_ = .pointer (some ⟨g, k * 2, none⟩)
  | _ => True
structure CCm (wA : World) (g tb k v : Nat) (kd y : Int) (th : Bool) (ls : Nat → Bool) (x : Nat → Value) (u : World) : Prop where
  b : Blk u tb 47 #[.int .i64 kd, .int .i64 y, .int .u64 (v : Nat)]
  n : ls 12 = false → u = wA.drew
  s : ls 12 = true → u = (wA.drew.setCell ⟨g, k * 2, none⟩ (.int .u64 (v : Nat))).setCell ⟨g, k * 2 + 1, none⟩ (.bool th)
theorem CCm.pure {wA : World} {g tb k v : Nat} {kd y : Int} {th : Bool} {ls : Nat → Bool} {x : Nat → Value} {u : World} {i : Nat} {z : Value} (hi : i ≠ 12) (h : CCm wA g tb k v kd y th ls x u) : CCm wA g tb k v kd y th (updB ls i) (upd x i z) u := by
  obtain ⟨h1, h2, h3⟩ := h
  exact ⟨h1, by rw [updB_other hi.symm]; exact h2, by rw [updB_other hi.symm]; exact h3⟩
def commitM (S : KS) (n : Int) : Int × KS := if n < 1 then (1, S) else (0, dropM { S with V := (curW S n).1.foldl setV S.V } n)
theorem commit_nil (n : Int) (w : World) : Calls Try.prog 23 #[.pointer none, .int .i64 n] w fun e w' => e = .returned (.int .i64 6) ∧ w = w' := by
  go_enter Try.func23, Try.ntmps23
  go_wp2_with fail
  refine (names_nil n w).mono ?_
  rintro e w1 ⟨rfl, rfl⟩
  go_wp2
  go_ret
  exact ⟨rfl, rfl⟩
set_option maxRecDepth 100000 in
set_option maxHeartbeats 4000000 in
theorem commit_any (g : Nat) (tt : TypeId) (cs : Array Value) (S : KS) (N : Nat) (n : Int) (w : World) (h : KvAt w g tt cs S N) (hN : N < 300000) (hn : i64ok n) :
    Calls Try.prog 23 #[.pointer (some ⟨g, 0, none⟩), .int .i64 n] w fun e w' => e = .returned (.int .i64 (commitM S n).1) ∧ KvO w g tt cs (commitM S n).2 N w' := by
  have HN := Lib.hid (names_any g n w)
  by_cases h1 : n < 1
  · have hM : commitM S n = (1, S) := if_pos h1
    rw [hM]
    have HF := Lib.hid (KvO.same h (Below.refl _ _))
    have hE : namesE n = 1 := if_pos h1
    rw [hE] at HN
    clear h hM hE
    go_enter Try.func23, Try.ntmps23
    go_wp2_with fail
    refine HN.out.mono ?_
    rintro e w1 ⟨rfl, rfl⟩
    go_wp2
    go_ret
    exact ⟨rfl, HF.out⟩
  have hM : commitM S n = (0, dropM { S with V := (curW S n).1.foldl setV S.V } n) := if_neg h1
  rw [hM]
  have hE : namesE n = 0 := if_neg h1
  rw [hE] at HN
  obtain ⟨m, A, q, c, h32, hq, hc, r1, _⟩ := h.look hn
  have hlen : (curW S n).1.length ≤ N := by
    unfold curW
    rcases hW : S.W n with _ | ⟨l, p⟩
    · exact Nat.zero_le _
    · exact (h.le n l p hW).1
  have hkl : ∀ x ∈ (curW S n).1, keyB x.y = true := by
    unfold curW
    rcases hW : S.W n with _ | ⟨l, p⟩
    · intro x hx; simp at hx
    · exact (h.le n l p hW).2
  have c32 := (h.bk.cell 32).trans h32
  obtain ⟨cl, hcl⟩ : ∃ cl, cl = curW S n := ⟨_, rfl⟩
  rw [← hcl] at hq hc r1 hlen hkl ⊢
  obtain ⟨l, pr⟩ := cl
  dsimp only at hq hc r1 hlen hkl ⊢
  have hf0 := fieldW0 A q c pr
  have hf1 := fieldC0 A q c
  have H := Lib.hid (And.intro h (And.intro hn (And.intro hq (And.intro hkl hc))))
  have hqm : q ≤ 9223372036854775807 := by omega
  clear h hM hE hn hq hkl hc h32 hlen hcl
  go_enter Try.func23, Try.ntmps23
  go_wp2_with fail
  refine HN.out.mono ?_
  rintro e w1 ⟨rfl, rfl⟩
  go_wp2_with fail
  clear c32 r1 hf0 hf1
  go_loopw [23] (fun i wr => ∃ (i0 : Nat), i0 ≤ q ∧ i = .int .i64 i0 ∧ Hid (∃ cs', KvAt wr g tt cs' { S with V := (l.take i0).foldl setV S.V } N ∧ Keep cs cs' ∧ w.grownBy wr (some g) ∧ ChAt wr S.B A l)) (fun i _ => q - (intOf i).toNat)
  case atStart => exact ⟨0, Nat.zero_le _, rfl, Lib.hid ⟨cs, H.out.1, Keep.rfl', ⟨rfl, rfl, rfl, Nat.le_refl _, fun _ _ _ => rfl⟩, H.out.2.2.2.2⟩⟩
  case round =>
    obtain ⟨i0, hi, rfl, HR⟩ := hrel
    by_cases hiq : i0 < q
    · have hiI : (i0 : Int) < (q : Int) := by omega
      obtain ⟨cs', hk, hkp, hg, hc⟩ := HR.out
      have hil : i0 < l.length := by rw [← H.out.2.2.1]; exact hiq
      obtain ⟨b, o, rfl, hbk, hcs⟩ := hc (by omega)
      obtain ⟨q0, q1, q2⟩ := hcs i0 hil
      obtain ⟨x, hx⟩ : ∃ x, x = l[i0]'hil := ⟨_, rfl⟩
      rw [← hx] at q0 q1 q2
      obtain ⟨k, hk16, hxy⟩ := keyB_nat (H.out.2.2.2.1 x (by rw [hx]; exact List.getElem_mem hil))
      have HX : Hid ((l.take (i0 + 1)).foldl setV S.V = setV ((l.take i0).foldl setV S.V) x) := Lib.hid (by
        rw [List.take_add_one, List.getElem?_eq_getElem hil, List.foldl_append, hx]; rfl)
      obtain ⟨kd, y, v⟩ := x
      dsimp only at q0 q1 q2 hxy
      subst hxy
      have hkI : (k : Int) < 16 := by omega
      obtain ⟨wA, hwA⟩ : ∃ wA, wA = wr.alloc (.cells #[.int .i64 kd, .int .i64 (k : Nat), .int .u64 (v : Nat)] 47) := ⟨_, rfl⟩
      have bA : Below wr.heap.size wr wA := by rw [hwA]; exact ba _ _
      have kA : Blk wA wr.heap.size 47 #[.int .i64 kd, .int .i64 (k : Nat), .int .u64 (v : Nat)] := by rw [hwA]; exact Blk.new _ _ _
      obtain ⟨th, hth⟩ : ∃ th, (kd == 1) = th := ⟨_, rfl⟩
      have HA := Lib.hid (And.intro (hk.below bA) (And.intro hkp (And.intro (hg.trans (lbelow_grown bA (some g))) (And.intro (hc.below bA) (And.intro kA (And.intro hk16 (show g ≠ wr.heap.size by have := hk.lt; omega)))))))
      have HWA := Lib.hid hwA
      clear hk hkp hg hc hbk hcs hx hil HR hwA bA kA
      go_wp2_with fail
      rw [← HWA.out]
      clear q0 q1 q2
      obtain ⟨tb, htb⟩ : ∃ tb, tb = wr.heap.size := ⟨_, rfl⟩
      rw [← htb] at HA ⊢
      have Hth := Lib.hid hth
      clear htb HWA
      refine wp_region_invJ (F := ?FM) (V := (VCm g tb k v kd th)) (C := (CCm wA g tb k v kd (k : Nat) th)) (by kernel_rfl) (by kernel_rfl) (by kernel_rfl) (fun x => ?hFM) ?hCM ?stepM ?finM
      case hFM => simp only [mkA, Act.put, List.setIfInBounds_toArray, List.set_cons_succ, List.set_cons_zero, Nat.reduceAdd, Nat.zero_add]; first | with_reducible rfl | rfl
      case hCM => exact fun x => ⟨HA.out.2.2.2.2.1, fun _ => rfl, fun e => by simp at e⟩
      case stepM =>
        refine AllOps.cons (fun ls x u hC hl hp K hK => ?_) ?_
        · clear hp
          go_simp
          refine hK _ _ _ (CCm.pure (by decide) hC) (by exact rfl) ?_
          first | (simp only [Act.put, List.setIfInBounds_toArray, List.set_cons_succ, List.set_cons_zero]; done) | simp [Act.put]
        refine AllOps.cons (fun ls x u hC hl hp K hK => ?_) ?_
        · clear hp
          go_simp
          refine hK _ _ _ (CCm.pure (by decide) hC) (by exact rfl) ?_
          first | (simp only [Act.put, List.setIfInBounds_toArray, List.set_cons_succ, List.set_cons_zero]; done) | simp [Act.put]
        refine AllOps.cons (fun ls x u hC hl hp K hK => ?_) ?_
        · simp [KnownTill, Region.binds, VCm] at hp
          have cc := hC.b.cell 1
          simp only [List.getElem?_toArray, List.getElem?_cons_zero, List.getElem?_cons_succ] at cc
          go_simp
          refine hK _ _ _ (CCm.pure (by decide) hC) (by exact rfl) ?_
          first | (simp only [Act.put, List.setIfInBounds_toArray, List.set_cons_succ, List.set_cons_zero, hp]; done) | simp [Act.put, hp]
        refine AllOps.cons (fun ls x u hC hl hp K hK => ?_) ?_
        · clear hp
          go_simp
          refine hK _ _ _ (CCm.pure (by decide) hC) (by exact rfl) ?_
          first | (simp only [Act.put, List.setIfInBounds_toArray, List.set_cons_succ, List.set_cons_zero]; done) | simp [Act.put]
        refine AllOps.cons (fun ls x u hC hl hp K hK => ?_) ?_
        · simp [KnownTill, Region.binds, VCm] at hp
          have cc := hC.b.cell 2
          simp only [List.getElem?_toArray, List.getElem?_cons_zero, List.getElem?_cons_succ] at cc
          go_simp
          refine hK _ _ _ (CCm.pure (by decide) hC) (by exact rfl) ?_
          first | (simp only [Act.put, List.setIfInBounds_toArray, List.set_cons_succ, List.set_cons_zero, hp]; done) | simp [Act.put, hp]
        refine AllOps.cons (fun ls x u hC hl hp K hK => ?_) ?_
        · clear hp
          go_simp
          refine hK _ _ _ (CCm.pure (by decide) hC) (by exact rfl) ?_
          first | (simp only [Act.put, List.setIfInBounds_toArray, List.set_cons_succ, List.set_cons_zero]; done) | simp [Act.put]
        refine AllOps.cons (fun ls x u hC hl hp K hK => ?_) ?_
        · simp [KnownTill, Region.binds, VCm] at hp
          have cc := hC.b.cell 0
          simp only [List.getElem?_toArray, List.getElem?_cons_zero, List.getElem?_cons_succ] at cc
          go_simp
          refine hK _ _ _ (CCm.pure (by decide) hC) (by exact rfl) ?_
          first | (simp only [Act.put, List.setIfInBounds_toArray, List.set_cons_succ, List.set_cons_zero, hp]; done) | simp [Act.put, hp]
        refine AllOps.cons (fun ls x u hC hl hp K hK => ?_) ?_
        · simp [KnownTill, Region.binds, VCm] at hp
          go_simp
          refine hK _ _ _ (CCm.pure (by decide) hC) (by exact rfl) ?_
          first | (simp only [Act.put, List.setIfInBounds_toArray, List.set_cons_succ, List.set_cons_zero, hp]; done) | simp [Act.put, hp]
        refine AllOps.cons (fun ls x u hC hl hp K hK => ?_) ?_
        · simp [KnownTill, Region.binds, VCm] at hp
          go_simp
          refine hK _ _ _ (CCm.pure (by decide) hC) (by exact rfl) ?_
          first | (simp only [Act.put, List.setIfInBounds_toArray, List.set_cons_succ, List.set_cons_zero, hp]; done) | simp [Act.put, hp]
        refine AllOps.cons (fun ls x u hC hl hp K hK => ?_) ?_
        · simp [KnownTill, Region.binds, VCm] at hp
          go_simp
          refine hK _ _ _ (CCm.pure (by decide) hC) (by exact rfl) ?_
          first | (simp only [Act.put, List.setIfInBounds_toArray, List.set_cons_succ, List.set_cons_zero, hp]; done) | simp [Act.put, hp]
        refine AllOps.cons (fun ls x u hC hl hp K hK => ?_) ?_
        · simp [KnownTill, Region.binds, VCm] at hp
          go_simp
          refine hK _ _ _ (CCm.pure (by decide) hC) (by exact rfl) ?_
          first | (simp only [Act.put, List.setIfInBounds_toArray, List.set_cons_succ, List.set_cons_zero, hp]; done) | simp [Act.put, hp]
        refine AllOps.cons (fun ls x u hC hl hp K hK => ?_) ?_
        · simp [KnownTill, Region.binds, VCm] at hp
          go_simp
          refine hK _ _ _ (CCm.pure (by decide) hC) (by exact rfl) ?_
          first | (simp only [Act.put, List.setIfInBounds_toArray, List.set_cons_succ, List.set_cons_zero, hp]; done) | simp [Act.put, hp]
        refine AllOps.cons (fun ls x u hC hl hp K hK => ?_) ?_
        · simp [KnownTill, Region.binds, VCm] at hp
          have hu := hC.n hl
          have hkd : KvAt u g tt cs' { S with V := (l.take i0).foldl setV S.V } N := by rw [hu]; exact HA.out.1.below ⟨rfl, rfl, rfl, Nat.le_refl _, fun _ _ => rfl⟩
          obtain ⟨e0, e1⟩ := hkd.vs k HA.out.2.2.2.2.2.1
          rw [Nat.mul_comm 2 k] at e0 e1
          have s0 := (hkd.bk.cell (k * 2)).trans e0
          have g0 := hkd.bk.frozen (k * 2)
          have hb1 := hkd.bk.set_ (k * 2) (.int .u64 (v : Nat))
          have s1 := (hb1.cell (k * 2 + 1)).trans ((Array.getElem?_setIfInBounds_ne (by omega)).trans e1)
          have g1 := hb1.frozen (k * 2 + 1)
          have nC : CCm wA g tb k v kd (k : Nat) th (updB ls 12) (upd x 12 undef) ((u.setCell ⟨g, k * 2, none⟩ (.int .u64 (v : Nat))).setCell ⟨g, k * 2 + 1, none⟩ (.bool th)) := ⟨(hC.b.far (by have := HA.out.2.2.2.2.2.2; dsimp only; omega) _).far (by have := HA.out.2.2.2.2.2.2; dsimp only; omega) _, (fun e => by rw [updB_same] at e; cases e), (fun _ => by rw [hu])⟩
          clear hb1 e0 e1 hkd hC hu
          go_simp
          refine hK undef _ _ nC trivial ?_
          first | (simp only [Act.put, List.setIfInBounds_toArray, List.set_cons_succ, List.set_cons_zero, hp]; done) | simp [Act.put, hp]
        exact AllOps.nil
      case finM =>
        intro ls x u hC hV
        have hu := hC.s (hV 12 (by decide)).1
        have hkd : KvAt wA.drew g tt cs' { S with V := (l.take i0).foldl setV S.V } N := HA.out.1.below ⟨rfl, rfl, rfl, Nat.le_refl _, fun _ _ => rfl⟩
        obtain ⟨cs2, hk2, hkp2⟩ := hkd.valued k HA.out.2.2.2.2.2.1 ⟨kd, (k : Int), v⟩ rfl
        have hk2' : KvAt u g tt cs2 { S with V := setV ((l.take i0).foldl setV S.V) ⟨kd, (k : Int), v⟩ } N := by rw [hu, ← Hth.out]; exact hk2
        have gu : wA.grownBy u (some g) := by rw [hu]; exact ((show wA.grownBy wA.drew (some g) from ⟨rfl, rfl, rfl, Nat.le_refl _, fun _ _ _ => rfl⟩).trans (lgrown_set _ ⟨g, k * 2, none⟩ _)).trans (lgrown_set _ ⟨g, k * 2 + 1, none⟩ _)
        have HF : Hid (∃ cs', KvAt u g tt cs' { S with V := (l.take (i0 + 1)).foldl setV S.V } N ∧ Keep cs cs' ∧ w.grownBy u (some g) ∧ ChAt u S.B (some ⟨b, o, none⟩) l) := Lib.hid ⟨cs2, by rw [HX.out]; exact hk2', HA.out.2.1.trans hkp2, HA.out.2.2.1.trans gu, HA.out.2.2.2.1.kept gu HA.out.1.bk HA.out.1.ty⟩
        clear hC hV hu hkd hk2 hkp2 hk2' gu
        go_wp2
        go_roundw
        case rel => exact ⟨i0 + 1, by omega, by go_num, HF⟩
        case measure => simp [intOf]; omega
    · obtain rfl : i0 = q := by omega
      have hiI : ¬ (i0 : Int) < (i0 : Int) := by omega
      obtain ⟨cs', hk, hkp, hg, _⟩ := HR.out
      have ht : l.take i0 = l := List.take_of_length_le (by rw [H.out.2.2.1]; exact Nat.le_refl _)
      rw [ht] at hk
      have HD := Lib.hid (kdrop_any g tt cs' _ N n wr hk H.out.2.1)
      have HK := Lib.hid (And.intro hkp hg)
      clear hk hkp hg HR ht
      go_wp2_with fail
      refine HD.out.mono ?_
      rintro e w2 ⟨rfl, hd⟩
      have HF := Lib.hid (KvO.from HK.out.1 HK.out.2 hd)
      clear hd
      go_wp2
      go_ret
      exact ⟨rfl, HF.out⟩
end Go.Proofs.Ytihchfjdgeehoaa
