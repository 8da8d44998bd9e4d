/- Layer 13: a work is dropped, backed out, prepared. -/
import Derived.Test.YtnpoicgincndkaaBh
namespace Go.Proofs.Ytnpoicgincndkaa
open Go.RowKit Go.Maps
set_option linter.unusedVariables false
set_option linter.unusedSimpArgs false

def dropM (S : KS) (n : Int) : KS := { S with W := updW S.W n none, L := dropL S.L n }
/-- The works have turned. -/
theorem KvAt.worked {w w' : World} {g N : Nat} {tt : TypeId} {cs : Array Value} {S : KS} {W' : Int → Option (List Ch × Bool)} (h : KvAt w g tt cs S N) (hg : w.grownBy w' (some g)) {m' : Option Nat} {G' : Int → Option Value} (hb : Blk w' g tt (cs.setIfInBounds 32 (.map m'))) (hs : FSrc isWork w' m' N G') (hr : WRel w' S.B G' W') (hle : ∀ k l p, W' k = some (l, p) → l.length ≤ N ∧ ∀ x ∈ l, keyB x.y = true) : KvAt w' g tt (cs.setIfInBounds 32 (.map m')) { S with W := W' } N := by
  obtain ⟨h1, h2, h3, ⟨mw, G, h4, h5, h6⟩, ⟨h7, m2, h8, h9⟩, h10⟩ := h
  refine ⟨hb, h2, fun k hk => ?_, ⟨m', G', set_at h4, hs, hr⟩, ⟨h7, m2, ?_, h9.kept hg h1⟩, hle⟩
  · rw [Array.getElem?_setIfInBounds_ne (by omega), Array.getElem?_setIfInBounds_ne (by omega)]; exact h3 k hk
  · rw [Array.getElem?_setIfInBounds_ne (by omega)]; exact h8
set_option maxRecDepth 100000 in
set_option maxHeartbeats 2000000 in
theorem kdrop_any (g : Nat) (tt : TypeId) (cs : Array Value) (S : KS) (N : Nat) (n : Int) (w : World) (h : KvAt w g tt cs S N) (hn : i64ok n) :
    Calls Try.prog 38 #[.pointer (some ⟨g, 0, none⟩), .int .i64 n] w fun e w' => e = .returned (.tuple #[]) ∧ KvO w g tt cs (dropM S n) N w' := by
  have hkey := keyOf_i n hn
  obtain ⟨mw, G, h4, h5, h6⟩ := h.wk
  have c32 := (h.bk.cell 32).trans h4
  have HC := Lib.hid h5.cloned
  have H := Lib.hid (And.intro h (And.intro h6 (And.intro hn h4)))
  have hle : Hid (∀ k l p, updW S.W n none k = some (l, p) → l.length ≤ N ∧ ∀ x ∈ l, keyB x.y = true) := Lib.hid (fun k l p e => by
    unfold updW at e
    split at e
    · cases e
    · exact h.le k l p e)
  clear h h4 h5 h6 hn
  go_enter Try.func38, Try.ntmps38
  go_wp2_with fail
  refine HC.out.mono ?_
  rintro e w1 ⟨⟨m', rfl, hs1, hlt⟩, b1⟩
  obtain ⟨h, h6, hn, h4⟩ := H.out
  have h1 := h.below b1
  have hg1 := h1.bk
  have h61 := h6.same (w' := w1) fun A l hc => hc.below b1
  have hgl := h.lt
  have d0 := (hg1.cell 32).trans h4
  have f0 := hg1.frozen 32
  rcases hs1 with ⟨rfl, rfl⟩ | ⟨b, D, rfl, hown, hR⟩
  · have hdn := fun (u : World) ty => Maps.drop_nil (P := Try.prog) (w := u) lawI Try.underlying54 hkey ty
    obtain ⟨w2, hw2⟩ : ∃ w2, w2 = w1.setCell ⟨g, 32, none⟩ (.map none) := ⟨_, rfl⟩
    have g2 : w1.grownBy w2 (some g) := by rw [hw2]; exact lgrown_set _ _ _
    have kk2 : KvAt w2 g tt (cs.setIfInBounds 32 (.map none)) { S with W := updW S.W n none } N := h1.worked g2 (by rw [hw2]; exact hg1.set_ 32 _) (.inl ⟨rfl, rfl⟩) (by
      have := (h61.del n).same (w' := w2) fun A l hc => hc.kept g2 hg1 h1.ty
      have e : delG (fun _ => none) n = fun _ => none := by funext j; unfold delG; split <;> rfl
      rwa [e] at this) hle.out
    have HD := Lib.hid (drop_any g 33 tt _ S.L n w2 kk2.tab hn)
    have HK := Lib.hid (And.intro kk2 ((lbelow_grown b1 (some g)).trans g2))
    have HW := Lib.hid hw2
    clear h h6 h4 h1 hg1 h61 g2 kk2 hw2 c32
    go_wp2_with fail
    rw [← HW.out]
    refine HD.out.mono ?_
    rintro e w3 ⟨rfl, ht, hg3⟩
    obtain ⟨cs', hk', hkp⟩ := HK.out.1.locked hg3 ht
    have HF := Lib.hid (KvO.from (Keep.set cs 32 (by omega) (.map none)) HK.out.2 ⟨⟨cs', hk', hkp⟩, hg3⟩)
    clear ht hg3 hk' hkp d0 f0
    go_wp2
    go_end0
    exact ⟨rfl, HF.out⟩
  · have hbl := hlt b rfl
    have hgb : g ≠ b := by omega
    have Hlt := Lib.hid (And.intro hbl hgb)
    clear c32 d0 f0 hlt
    go_wp2_with (at_delete; refine wpList_delete_own _ rfl _ _ 54 3 rfl 81 lawI Try.underlying54 _ b _ _ rfl hown _ _ rfl hkey ?_; intro w2 hown2 hturn; go_frame; have hg2 := hturn.grown; have k2 := hg1.kept hg2 (fun e => hgb (Option.some.inj e)); have d0 := (k2.cell 32).trans h4; have f0 := k2.frozen 32)
    obtain ⟨w3, hw3⟩ : ∃ w3, w3 = w2.setCell ⟨g, 32, none⟩ (.map (some b)) := ⟨_, rfl⟩
    have gg2 : w.grownBy w2 none := by
      refine ⟨hg2.os.trans b1.os, hg2.tape.trans b1.tape, hg2.output.trans b1.output, Nat.le_trans b1.size hg2.size, fun i hi _ => ?_⟩
      exact (hg2.block i (Nat.lt_of_lt_of_le hi b1.size) (fun e => by have := Option.some.inj e; omega)).trans (b1.block i hi)
    have hh2 := h.below (lgrown_below gg2)
    have g3 : w2.grownBy w3 (some g) := by rw [hw3]; exact lgrown_set _ _ _
    have kk3 : KvAt w3 g tt (cs.setIfInBounds 32 (.map (some b))) { S with W := updW S.W n none } N := hh2.worked g3 (by rw [hw3]; exact k2.set_ 32 _) (.inr ⟨b, _, rfl, hown2.kept g3 (fun e => hgb (Option.some.inj e).symm), hR.del n⟩) (by
      have := ((h6.same (w' := w2) fun A l hc => hc.below (lgrown_below gg2)).del n).same (w' := w3) fun A l hc => hc.kept g3 k2 h.ty
      exact this) hle.out
    have HD := Lib.hid (drop_any g 33 tt _ S.L n w3 kk3.tab hn)
    have HK := Lib.hid (And.intro kk3 ((gg2.but (some g)).trans g3))
    have HW := Lib.hid hw3
    clear h h6 h4 h1 hg1 h61 g3 kk3 hw3 hown2 hturn hg2 k2 gg2 hh2 hown hbl hR
    go_wp2_with fail
    rw [← HW.out]
    refine HD.out.mono ?_
    rintro e w4 ⟨rfl, ht, hg3⟩
    obtain ⟨cs', hk', hkp⟩ := HK.out.1.locked hg3 ht
    have HF := Lib.hid (KvO.from (Keep.set cs 32 (by omega) (.map (some b))) HK.out.2 ⟨⟨cs', hk', hkp⟩, hg3⟩)
    clear ht hg3 hk' hkp d0 f0
    go_wp2
    go_end0
    exact ⟨rfl, HF.out⟩
theorem backout_nil (n : Int) (w : World) : Calls Try.prog 21 #[.pointer none, .int .i64 n] w fun e w' => e = .returned (.int .i64 6) ∧ w = w' := by
  go_enter Try.func21, Try.ntmps21
  go_wp2_with fail
  refine (names_nil n w).mono ?_
  rintro e w1 ⟨rfl, rfl⟩
  go_wp2
  go_ret
  exact ⟨rfl, rfl⟩
def backoutM (S : KS) (n : Int) : Int × KS := if n < 1 then (1, S) else (0, dropM S n)
theorem backout_any (g : Nat) (tt : TypeId) (cs : Array Value) (S : KS) (N : Nat) (n : Int) (w : World) (h : KvAt w g tt cs S N) (hn : i64ok n) :
    Calls Try.prog 21 #[.pointer (some ⟨g, 0, none⟩), .int .i64 n] w fun e w' => e = .returned (.int .i64 (backoutM S n).1) ∧ KvO w g tt cs (backoutM S n).2 N w' := by
  have HN := Lib.hid (names_any g n w)
  by_cases h1 : n < 1
  · have hM : backoutM S n = (1, S) := if_pos h1
    rw [hM]
    have HF := Lib.hid (KvO.same h (Below.refl _ _))
    have hE : namesE n = 1 := if_pos h1
    rw [hE] at HN
    clear h hM hE
    go_enter Try.func21, Try.ntmps21
    go_wp2_with fail
    refine HN.out.mono ?_
    rintro e w1 ⟨rfl, rfl⟩
    go_wp2
    go_ret
    exact ⟨rfl, HF.out⟩
  · have hM : backoutM S n = (0, dropM S n) := if_neg h1
    rw [hM]
    have HD := Lib.hid (kdrop_any g tt cs S N n w h hn)
    have hE : namesE n = 0 := if_neg h1
    rw [hE] at HN
    clear h hM hE
    go_enter Try.func21, Try.ntmps21
    go_wp2_with fail
    refine HN.out.mono ?_
    rintro e w1 ⟨rfl, rfl⟩
    go_wp2_with fail
    refine HD.out.mono ?_
    rintro e w2 ⟨rfl, hk⟩
    have HF := Lib.hid hk
    clear hk
    go_wp2
    go_ret
    exact ⟨rfl, HF.out⟩
/-- A work is prepared: its changes, the error, the store. -/
def prepM (S : KS) (n : Int) : (List Ch × Int) × KS :=
  if n < 1 then (([], 1), S) else if (curW S n).2 = true then (([], 7), S) else if (S.W n).isSome = false then (([], 0), { S with L := dropL S.L n }) else (((curW S n).1, 0), { S with W := updW S.W n (some ((curW S n).1, true)) })
theorem prep_nil (n : Int) (w : World) : Calls Try.prog 24 #[.pointer none, .int .i64 n] w fun e w' => e = .returned (.tuple #[.slice none 0 0, .int .i64 6]) ∧ w = w' := by
  go_enter Try.func24, Try.ntmps24
  go_wp2_with fail
  refine (names_nil n w).mono ?_
  rintro e w1 ⟨rfl, rfl⟩
  go_wp2
  go_ret2
  exact ⟨rfl, rfl⟩
set_option maxRecDepth 100000 in
set_option maxHeartbeats 2000000 in
theorem prep_any (g : Nat) (tt : TypeId) (cs : Array Value) (S : KS) (N : Nat) (n : Int) (w : World) (h : KvAt w g tt cs S N) (hN : N < 300000) (hn : i64ok n) :
    Calls Try.prog 24 #[.pointer (some ⟨g, 0, none⟩), .int .i64 n] w fun e w' => (∃ A q c, e = .returned (.tuple #[.slice A q c, .int .i64 (prepM S n).1.2]) ∧ q = (prepM S n).1.1.length ∧ OwnC w' w.heap.size A c (prepM S n).1.1) ∧ KvO w g tt cs (prepM S n).2 (N + 1) w' := by
  have HN := Lib.hid (names_any g n w)
  by_cases h1 : n < 1
  · have hM : prepM S n = (([], 1), S) := if_pos h1
    rw [hM]
    have HF := Lib.hid (KvO.same (h.more (Nat.le_succ N)) (Below.refl _ _))
    have hE : namesE n = 1 := if_pos h1
    rw [hE] at HN
    clear h hM hE
    go_enter Try.func24, Try.ntmps24
    go_wp2_with fail
    refine HN.out.mono ?_
    rintro e w1 ⟨rfl, rfl⟩
    go_wp2
    go_ret2
    exact ⟨⟨none, 0, 0, rfl, rfl, OwnC.nil _ _⟩, HF.out⟩
  have hE : namesE n = 0 := if_neg h1
  rw [hE] at HN
  obtain ⟨m, A, q, c, h32, hq, hc, _, r2⟩ := h.look hn
  have hlen : (curW S n).1.length ≤ N := by
    unfold curW
    rcases hW : S.W n with _ | ⟨l, p⟩
    · exact Nat.zero_le _
    · exact (h.le n l p hW).1
  have hkl : ∀ x ∈ (curW S n).1, keyB x.y = true := by
    unfold curW
    rcases hW : S.W n with _ | ⟨l, p⟩
    · intro x hx; simp at hx
    · exact (h.le n l p hW).2
  have c32 := (h.bk.cell 32).trans h32
  obtain ⟨w3, hw3⟩ : ∃ w3, w3 = w.alloc (.cells #[.slice A q c, .bool (curW S n).2] 81) := ⟨_, rfl⟩
  have b3 : Below w.heap.size w w3 := by rw [hw3]; exact ba _ _
  have kw : Blk w3 w.heap.size 81 #[.slice A q c, .bool (curW S n).2] := by rw [hw3]; exact Blk.new _ _ _
  have d0 := kw.cell 0
  have d1 := kw.cell 1
  have f1 := kw.frozen 1
  simp only [List.getElem?_toArray, List.getElem?_cons_zero, List.getElem?_cons_succ] at d0 d1
  have hgl := h.lt
  have Hc := Lib.hid hc
  have H3 := Lib.hid (And.intro (h.below b3) (And.intro b3 (And.intro kw (And.intro (hc.below b3) (And.intro hq (And.intro hgl (And.intro hlen (And.intro hkl hn))))))))
  have HW3 := Lib.hid hw3
  rw [hw3] at d0 d1 f1
  clear hw3 b3 kw hc hq h32 hlen hkl hgl hE
  rcases hp : (curW S n).2 with _ | _
  · rcases hs : (S.W n).isSome with _ | _
    · have hM : prepM S n = (([], 0), { S with L := dropL S.L n }) := by unfold prepM; rw [if_neg h1, if_neg (by simp [hp]), if_pos hs]
      rw [hM]
      rw [hp, hs] at r2
      rw [hp] at d0 d1 f1 H3 HW3
      have HD := Lib.hid (drop_any g 33 tt cs S.L n w3 H3.out.1.tab hn)
      clear h hM hs hp
      go_enter Try.func24, Try.ntmps24
      go_wp2_with fail
      refine HN.out.mono ?_
      rintro e w1 ⟨rfl, rfl⟩
      go_wp2_with fail
      rw [← HW3.out]
      refine HD.out.mono ?_
      rintro e w4 ⟨rfl, ht, hg⟩
      have HF := Lib.hid (KvO.from (cs := cs) Keep.rfl' (lbelow_grown H3.out.2.1 (some g)) ⟨((H3.out.1.more (Nat.le_succ N)).locked hg ht), hg⟩)
      clear ht hg d0 d1 f1
      go_wp2
      go_ret2
      exact ⟨⟨none, 0, 0, rfl, rfl, OwnC.nil _ _⟩, HF.out⟩
    · have hM : prepM S n = (((curW S n).1, 0), { S with W := updW S.W n (some ((curW S n).1, true)) }) := by unfold prepM; rw [if_neg h1, if_neg (by simp [hp]), if_neg (by simp [hs])]
      rw [hM]
      rw [hp, hs] at r2
      rw [hp] at d0 d1 f1 H3 HW3
      obtain ⟨l, hl⟩ : ∃ l, l = (curW S n).1 := ⟨_, rfl⟩
      rw [← hl] at H3 ⊢
      obtain ⟨w4, hw4⟩ : ∃ w4, w4 = w.alloc (.cells #[.slice A q c, .bool true] 81) := ⟨_, rfl⟩
      obtain ⟨_, _, _, _, hq, hgl, hlen, hkl, hnn⟩ := H3.out
      have b4 : Below w.heap.size w w4 := by rw [hw4]; exact ba _ _
      have kw4 : Blk w4 w.heap.size 81 #[.slice A q c, .bool true] := by rw [hw4]; exact Blk.new _ _ _
      have hk4 := h.below b4
      have hc4 : ChAt w4 S.B A l := by rw [hl]; exact Hc.out.below b4
      have HL := Lib.hid (lay_any g tt cs S N n A l q c true w4 hk4 (by omega) hn hq (by omega) hkl hc4)
      have p0 := kw4.cell 0
      have p1 := kw4.cell 1
      simp only [List.getElem?_toArray, List.getElem?_cons_zero, List.getElem?_cons_succ] at p0 p1
      have H4 := Lib.hid (And.intro kw4 (And.intro b4 (And.intro hc4 (And.intro hk4.bk (And.intro hk4.ty hgl)))))
      have HW4 := Lib.hid hw4
      rw [HW4.out] at p0 p1
      clear h hM hs hp hl hgl hkl hnn hk4 hc4 kw4 b4 hw4 H3 HW3
      have Hq := Lib.hid (And.intro hq hlen)
      clear hq hlen
      go_enter Try.func24, Try.ntmps24
      go_wp2_with fail
      refine HN.out.mono ?_
      rintro e w1 ⟨rfl, rfl⟩
      go_wp2_with fail
      rw [← HW4.out]
      refine HL.out.mono ?_
      rintro e w5 ⟨rfl, ⟨cs5, hk5, hkp5⟩, hg5⟩
      obtain ⟨kw4, b4, hc4, hbk, hty, hgl⟩ := H4.out
      have kw5 := kw4.kept hg5 (fun e => by have := Option.some.inj e; omega)
      have HCl := Lib.hid (cclone_any A l q c w5 (Lib.hid Hq.out.1) (Lib.hid (by have := Hq.out; omega)) (hc4.kept hg5 hbk hty))
      have p0' := kw5.cell 0
      simp only [List.getElem?_toArray, List.getElem?_cons_zero, List.getElem?_cons_succ] at p0'
      have H5 := Lib.hid (And.intro hk5 (And.intro hkp5 ((lbelow_grown b4 (some g)).trans hg5)))
      clear d0 d1 f1 p0 p1 kw4 b4 hc4 hbk hty hk5 hkp5 hg5 kw5 hgl
      go_wp2_with fail
      refine HCl.out.mono ?_
      rintro e w6 ⟨A6, c6, rfl, own6, b6⟩
      have HF := Lib.hid (And.intro own6 (And.intro (H5.out.1.below b6) (H5.out.2.2.trans (lbelow_grown b6 (some g)))))
      clear own6 b6 p0'
      go_wp2
      go_ret2
      exact ⟨⟨A6, q, c6, rfl, Hq.out.1, HF.out.1.less (by have := H5.out.2.2.size; exact this)⟩, ⟨cs5, HF.out.2.1, H5.out.2.1⟩, HF.out.2.2⟩
  · have hM : prepM S n = (([], 7), S) := by unfold prepM; rw [if_neg h1, if_pos hp]
    rw [hM]
    rw [hp] at r2 d0 d1 f1 HW3
    have HF := Lib.hid (KvO.same (h.more (Nat.le_succ N)) H3.out.2.1)
    clear h hM hp H3
    generalize (S.W n).isSome = sb at r2
    go_enter Try.func24, Try.ntmps24
    go_wp2_with fail
    refine HN.out.mono ?_
    rintro e w1 ⟨rfl, rfl⟩
    go_wp2
    rw [← HW3.out]
    go_ret2
    exact ⟨⟨none, 0, 0, rfl, rfl, OwnC.nil _ _⟩, HF.out⟩
end Go.Proofs.Ytnpoicgincndkaa
