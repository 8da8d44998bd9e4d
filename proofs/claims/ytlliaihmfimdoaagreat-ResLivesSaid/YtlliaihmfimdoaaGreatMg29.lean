/- Parts Sa of one proof. -/
import Derived.Test.YtlliaihmfimdoaaGreatMg14
import Derived.Test.YtlliaihmfimdoaaGreatMg26
namespace Go.Proofs.YtlliaihmfimdoaaGreat.Re
open Go.RowKit Go.Maps Go.Deep Go.Proofs.YtlliaihmfimdoaaGreat
set_option linter.unusedVariables false
set_option linter.unusedSimpArgs false
def IntAt (w : World) (A : Option Addr) (zs : List Int) : Prop := 0 < zs.length → ∃ b o, A = some ⟨b, o, none⟩ ∧ (∃ cs fz, w.heap[b]? = some (.cells cs 3 fz)) ∧ ∀ i, (h : i < zs.length) → w.cell? ⟨b, o + i, none⟩ = some (.int .i64 (zs[i]'h))
theorem IntAt.below {w w' : World} {A : Option Addr} {zs : List Int} (h : IntAt w A zs) (hb : Below w.heap.size w w') : IntAt w' A zs := fun hl => by
 obtain ⟨b, o, rfl, ⟨cs, fz, hc⟩, hi⟩ := h hl
 have hlt := (Array.getElem?_eq_some_iff.1 hc).1
 exact ⟨b, o, rfl, ⟨cs, fz, (hb.block b hlt).trans hc⟩, fun i h => (hb.cell (p := ⟨b, o + i, none⟩) hlt).trans (hi i h)⟩
theorem IntAt.kept {w w' : World} {A : Option Addr} {zs : List Int} {g : Nat} {t : TypeId} {cs : Array Value} (h : IntAt w A zs) (hg : w.grownBy w' (some g)) (hk : Blk w g t cs) (ht : t ≠ 3) : IntAt w' A zs := fun hl => by
 obtain ⟨b, o, rfl, ⟨cs, fz, hc⟩, hi⟩ := h hl
 have hlt := (Array.getElem?_eq_some_iff.1 hc).1
 have hne : b ≠ g := fun e => by
  subst e
  unfold Blk at hk
  rw [hk] at hc
  injection hc with hc
  injection hc with _ hc _
  exact ht hc
 have e := hg.block b hlt (fun e => hne (by injection e))
 have hcell : ∀ i, w'.cell? ⟨b, i, none⟩ = w.cell? ⟨b, i, none⟩ := fun i => by unfold World.cell?; rw [e]
 exact ⟨b, o, rfl, ⟨cs, fz, e.trans hc⟩, fun i h => (hcell _).trans (hi i h)⟩
structure RS where
 K : KS
 Q : Qu.QS
 pr : List Int
def RS.zero (B : Nat → Prop) : RS := ⟨KS.zero B, Qu.QS.zero B, []⟩
structure ResAt (w : World) (g : Nat) (cs : Array Value) (S : RS) (N : Nat) : Prop where
 kv : KvAt w g 102 cs S.K N
 qu : Qu.QAt w g 34 102 cs S.Q N
 pr : ∃ A n c, cs[37]? = some (.slice A n c) ∧ n = S.pr.length ∧ n ≤ c ∧ c ≤ 9223372036854775807 ∧ IntAt w A S.pr
 ln : S.pr.length ≤ N
theorem ResAt.below {w w' : World} {g N : Nat} {cs : Array Value} {S : RS} (h : ResAt w g cs S N) (hb : Below w.heap.size w w') : ResAt w' g cs S N := by
 obtain ⟨A, n, c, h1, h2, h3, h4, h5⟩ := h.pr
 exact ⟨h.kv.below hb, h.qu.below hb, ⟨A, n, c, h1, h2, h3, h4, h5.below hb⟩, h.ln⟩
theorem ResAt.more {w : World} {g N N' : Nat} {cs : Array Value} {S : RS} (h : ResAt w g cs S N) (hN : N ≤ N') : ResAt w g cs S N' := ⟨h.kv.more hN, h.qu.more hN, h.pr, Nat.le_trans h.ln hN⟩
theorem ResAt.lt {w : World} {g N : Nat} {cs : Array Value} {S : RS} (h : ResAt w g cs S N) : g < w.heap.size := h.kv.lt
theorem qpart {w w' : World} {g of N : Nat} {tt : TypeId} {cs cs' : Array Value} {S : Qu.QS} (h : Qu.QAt w g of tt cs S N) (hg : w.grownBy w' (some g)) (hb : Blk w' g tt cs') (hk : ∀ i, of ≤ i → i ≤ of + 2 → cs'[i]? = cs[i]?) : Qu.QAt w' g of tt cs' S N := by
 obtain ⟨h1, h2, ⟨A, n, c, a1, a2, a3, a4, a5⟩, h3, ⟨m, G, h4, h5, h6⟩, h7, h8, h9⟩ := h
 exact ⟨hb, h2, ⟨A, n, c, (hk of (Nat.le_refl _) (by omega)).trans a1, a2, a3, a4, a5.kept hg h1 h2.2⟩, (hk (of + 1) (by omega) (by omega)).trans h3, ⟨m, G, (hk (of + 2) (by omega) (by omega)).trans h4, h5.kept hg h1, h6.same fun A l hc => hc.kept hg h1 h2.1⟩, h7, h8, h9⟩
theorem kpart {w w' : World} {g N : Nat} {tt : TypeId} {cs cs' : Array Value} {S : KS} (h : KvAt w g tt cs S N) (hg : w.grownBy w' (some g)) (hb : Blk w' g tt cs') (hk : ∀ i, i < 34 → cs'[i]? = cs[i]?) : KvAt w' g tt cs' S N := by
 obtain ⟨h1, h2, h3, ⟨m, G, h4, h5, h6⟩, ⟨h7, m2, h8, h9⟩, h10⟩ := h
 exact ⟨hb, h2, fun k hkk => ⟨(hk _ (by omega)).trans (h3 k hkk).1, (hk _ (by omega)).trans (h3 k hkk).2⟩, ⟨m, G, (hk 32 (by omega)).trans h4, h5.kept hg h1, h6.same fun A l hc => hc.kept hg h1 h2⟩, ⟨h7, m2, (hk 33 (by omega)).trans h8, h9.kept hg h1⟩, h10⟩
def ResO (w : World) (g : Nat) (S : RS) (N : Nat) (w' : World) : Prop := (∃ cs', ResAt w' g cs' S N) ∧ w.grownBy w' (some g)
theorem ResO.same {w w' : World} {g N : Nat} {cs : Array Value} {S : RS} (h : ResAt w g cs S N) (hb : Below w.heap.size w w') : ResO w g S N w' := ⟨⟨cs, h.below hb⟩, lbelow_grown hb _⟩
theorem ResO.from {a w w' : World} {g N : Nat} {S : RS} (hg : a.grownBy w (some g)) (h : ResO w g S N w') : ResO a g S N w' := ⟨h.1, hg.trans h.2⟩
theorem ResAt.kturn {w w' : World} {g N N' : Nat} {cs : Array Value} {S : RS} {K' : KS} (h : ResAt w g cs S N) (hk : KvO w g 102 cs K' N' w') (hN : N ≤ N') : ResO w g { S with K := K' } N' w' := by
 obtain ⟨⟨cs', hk', hkeep⟩, hg⟩ := hk
 obtain ⟨A, n, c, h1, h2, h3, h4, h5⟩ := h.pr
 exact ⟨⟨cs', hk', (qpart h.qu hg hk'.bk (fun i hi _ => hkeep.2 i hi)).more hN, ⟨A, n, c, (hkeep.2 37 (by omega)).trans h1, h2, h3, h4, h5.kept hg h.kv.bk (by decide)⟩, Nat.le_trans h.ln hN⟩, hg⟩
theorem ResAt.qturn {w w' : World} {g N N' : Nat} {cs : Array Value} {S : RS} {Q' : Qu.QS} (h : ResAt w g cs S N) (hk : Qu.QO w g 34 102 cs Q' N' w') (hN : N ≤ N') : ResO w g { S with Q := Q' } N' w' := by
 obtain ⟨⟨cs', hk', hkeep⟩, hg⟩ := hk
 obtain ⟨A, n, c, h1, h2, h3, h4, h5⟩ := h.pr
 exact ⟨⟨cs', (kpart h.kv hg hk'.bk (fun i hi => hkeep.2 i (by omega) (by omega) (by omega))).more hN, hk', ⟨A, n, c, (hkeep.2 37 (by omega) (by omega) (by omega)).trans h1, h2, h3, h4, h5.kept hg h.kv.bk (by decide)⟩, Nat.le_trans h.ln hN⟩, hg⟩
set_option maxRecDepth 100000 in
theorem ResAt.zero (B : Nat → Prop) (w : World) : ResAt (w.alloc (.cells #[.int .u64 0, .bool false, .int .u64 0, .bool false, .int .u64 0, .bool false, .int .u64 0, .bool false, .int .u64 0, .bool false, .int .u64 0, .bool false, .int .u64 0, .bool false, .int .u64 0, .bool false, .int .u64 0, .bool false, .int .u64 0, .bool false, .int .u64 0, .bool false, .int .u64 0, .bool false, .int .u64 0, .bool false, .int .u64 0, .bool false, .int .u64 0, .bool false, .int .u64 0, .bool false, .map none, .map none, .slice none 0 0, .int .i64 0, .map none, .slice none 0 0] 102)) w.heap.size #[.int .u64 0, .bool false, .int .u64 0, .bool false, .int .u64 0, .bool false, .int .u64 0, .bool false, .int .u64 0, .bool false, .int .u64 0, .bool false, .int .u64 0, .bool false, .int .u64 0, .bool false, .int .u64 0, .bool false, .int .u64 0, .bool false, .int .u64 0, .bool false, .int .u64 0, .bool false, .int .u64 0, .bool false, .int .u64 0, .bool false, .int .u64 0, .bool false, .int .u64 0, .bool false, .map none, .map none, .slice none 0 0, .int .i64 0, .map none, .slice none 0 0] (RS.zero B) 0 where
 kv := ⟨Blk.new _ _ _, by decide, fun k hk => by
  have : k = 0 ∨ k = 1 ∨ k = 2 ∨ k = 3 ∨ k = 4 ∨ k = 5 ∨ k = 6 ∨ k = 7 ∨ k = 8 ∨ k = 9 ∨ k = 10 ∨ k = 11 ∨ k = 12 ∨ k = 13 ∨ k = 14 ∨ k = 15 := by omega
  rcases this with rfl | rfl | rfl | rfl | rfl | rfl | rfl | rfl | rfl | rfl | rfl | rfl | rfl | rfl | rfl | rfl <;> exact ⟨rfl, rfl⟩, ⟨none, fun _ => none, rfl, .inl ⟨rfl, rfl⟩, fun k => ⟨fun _ => rfl, fun l p e => by cases e⟩⟩, ⟨Nat.zero_le _, none, rfl, .inl ⟨rfl, rfl⟩⟩, fun k l p e => by cases e⟩
 qu := ⟨Blk.new _ _ _, ⟨by decide, by decide⟩, ⟨none, 0, 0, rfl, rfl, Nat.le_refl _, by omega, fun h => by simp [RS.zero, Qu.QS.zero] at h⟩, rfl, ⟨none, fun _ => none, rfl, .inl ⟨rfl, rfl⟩, fun k => ⟨fun _ => rfl, fun l p e => by simp [Qu.lookQ, Qu.findQ, RS.zero, Qu.QS.zero] at e⟩⟩, List.Pairwise.nil, (fun y hy => nomatch hy), (Qu.QOk.zero B).inv⟩
 pr := ⟨none, 0, 0, rfl, rfl, Nat.le_refl _, by omega, fun h => by simp [RS.zero] at h⟩
 ln := Nat.le_refl _
theorem newres_any (B : Nat → Prop) (w : World) : Calls Tryz.prog 9 #[] w fun e w' => e = .returned (.pointer (some ⟨w.heap.size, 0, none⟩)) ∧ (∃ cs, ResAt w' w.heap.size cs (RS.zero B) 0) ∧ Below w.heap.size w w' := by
 have HZ := Lib.hid (ResAt.zero B w)
 have HB := Lib.hid (ba w (.cells #[.int .u64 0, .bool false, .int .u64 0, .bool false, .int .u64 0, .bool false, .int .u64 0, .bool false, .int .u64 0, .bool false, .int .u64 0, .bool false, .int .u64 0, .bool false, .int .u64 0, .bool false, .int .u64 0, .bool false, .int .u64 0, .bool false, .int .u64 0, .bool false, .int .u64 0, .bool false, .int .u64 0, .bool false, .int .u64 0, .bool false, .int .u64 0, .bool false, .int .u64 0, .bool false, .map none, .map none, .slice none 0 0, .int .i64 0, .map none, .slice none 0 0] 102))
 go_enter Tryz.func9, Tryz.ntmps9
 go_wp2
 go_ret
 exact ⟨rfl, ⟨_, HZ.out⟩, HB.out⟩
theorem resnames_any (g : Nat) (n : Int) (w : World) : Calls Tryz.prog 66 #[.pointer (some ⟨g, 0, none⟩), .int .i64 n] w fun e w' => e = .returned (.int .i64 (if n < 1 then 1 else 0)) ∧ w = w' := by
 by_cases h : n < 1
 ·rw [if_pos h]
  go_enter Tryz.func66, Tryz.ntmps66
  go_wp2
  go_ret
  exact ⟨rfl, rfl⟩
 ·rw [if_neg h]
  go_enter Tryz.func66, Tryz.ntmps66
  go_wp2
  go_ret
  exact ⟨rfl, rfl⟩
def FoundI (k x : Int) (zs : List Int) : Prop := decide (0 ≤ k) = decide (x ∈ zs)
set_option maxRecDepth 100000 in
set_option maxHeartbeats 1000000 in
theorem iindex_any (A : Option Addr) (zs : List Int) (n c : Nat) (x : Int) (w : World) (hn : Hid (n = zs.length)) (hm : n ≤ 1000000) (h : IntAt w A zs) :
  Calls Tryz.prog 140 #[.slice A n c, .int .i64 x] w fun e w' => (∃ k : Int, e = .returned (.int .i64 k) ∧ FoundI k x zs) ∧ w = w' := by
 have HI : Hid (∀ i, (h : i < zs.length) → i < 0 → zs[i]'h ≠ x) := Lib.hid fun i _ hi => by omega
 have H := Lib.hid h
 clear h
 go_enter Tryz.func140, Tryz.ntmps140
 go_wp2_with fail
 go_loopw [8] (fun iv wr => ∃ i : Nat, i ≤ n ∧ iv = .int .i64 i ∧ Hid (∀ j, (h : j < zs.length) → j < i → zs[j]'h ≠ x) ∧ w = wr) (fun iv _ => n - (intOf iv).toNat)
 case atStart => exact ⟨0, Nat.zero_le _, rfl, HI, rfl⟩
 case round =>
  clear HI
  obtain ⟨i, hi, rfl, HR, rfl⟩ := hrel
  by_cases hin : i < n
  ·have hiI : (i : Int) < (n : Int) := by omega
   have hil : i < zs.length := by rw [← hn.out]; exact hin
   obtain ⟨b, o, rfl, _, hc⟩ := H.out (by omega)
   have c0 := hc i hil
   obtain ⟨z, hz⟩ : ∃ z, z = zs[i]'hil := ⟨_, rfl⟩
   rw [← hz] at c0
   have Hz := Lib.hid (show ∃ hil : i < zs.length, z = zs[i]'hil from ⟨hil, hz⟩)
   clear hc hz hil
   by_cases e : x = z
   ·have HF : FoundI (i : Int) x zs := (by
     unfold FoundI
     obtain ⟨hil, hz⟩ := Hz.out
     have : x ∈ zs := by rw [e, hz]; exact List.getElem_mem hil
     simp [this])
    subst e
    go_wp2
    go_ret
    exact ⟨⟨_, rfl, HF⟩, rfl⟩
   ·have HN : Hid (∀ j, (h : j < zs.length) → j < i + 1 → zs[j]'h ≠ x) := Lib.hid fun j h hj => by
     by_cases ej : j = i
     ·subst ej
      obtain ⟨_, hz⟩ := Hz.out
      rw [← hz]; exact fun e2 => e e2.symm
     ·exact HR.out j h (by omega)
    have eb : (x == z) = false := by simpa using e
    go_wp2
    go_roundw
    case rel => exact ⟨i + 1, by omega, by go_num, HN, by first | rfl | trivial⟩
    case measure => simp [intOf]; omega
  ·have hiI : ¬ (i : Int) < (n : Int) := by omega
   have HF : FoundI (-1) x zs := (by
    unfold FoundI
    have : x ∉ zs := fun hx => by
     obtain ⟨j, hj, e⟩ := List.mem_iff_getElem.1 hx
     exact HR.out j hj (by have := hn.out; omega) e
    simp [this])
   clear HR
   go_wp2
   go_ret
   exact ⟨⟨_, rfl, HF⟩, rfl⟩
set_option maxRecDepth 100000 in
set_option maxHeartbeats 1000000 in
theorem contains_any (A : Option Addr) (zs : List Int) (n c : Nat) (x : Int) (w : World) (hn : Hid (n = zs.length)) (hm : n ≤ 1000000) (h : IntAt w A zs) :
  Calls Tryz.prog 101 #[.slice A n c, .int .i64 x] w fun e w' => e = .returned (.bool (decide (x ∈ zs))) ∧ w = w' := by
 have HC := Lib.hid (iindex_any A zs n c x w hn hm h)
 clear h
 go_enter Tryz.func101, Tryz.ntmps101
 go_wp2_with fail
 refine HC.out.mono ?_
 rintro e w1 ⟨⟨k, rfl, hk⟩, rfl⟩
 go_wp2
 go_ret
 exact ⟨by unfold FoundI at hk; rw [← hk]; rfl, rfl⟩
def openR (S : RS) (n : Int) : Int := if n < 1 then 1 else if n ∈ S.pr then 7 else 0
set_option maxRecDepth 100000 in
set_option maxHeartbeats 1000000 in
theorem resopen_any (g : Nat) (cs : Array Value) (S : RS) (N : Nat) (n : Int) (w : World) (h : ResAt w g cs S N) (hN : N ≤ 1000000) :
  Calls Tryz.prog 61 #[.pointer (some ⟨g, 0, none⟩), .int .i64 n] w fun e w' => e = .returned (.int .i64 (openR S n)) ∧ w = w' := by
 have HNm := Lib.hid (resnames_any g n w)
 obtain ⟨A, q, c, h1, h2, h3, h4, h5⟩ := h.pr
 have c37 := (h.kv.bk.cell 37).trans h1
 have HC := Lib.hid (contains_any A S.pr q c n w (Lib.hid h2) (by have := h.ln; omega) h5)
 by_cases hn : n < 1
 ·have hM : openR S n = 1 := if_pos hn
  rw [hM]
  rw [if_pos hn] at HNm
  clear h h1 h2 h5 HC hM
  go_enter Tryz.func61, Tryz.ntmps61
  go_wp2_with fail
  refine HNm.out.mono ?_
  rintro e w1 ⟨rfl, rfl⟩
  go_wp2
  go_ret
  exact ⟨rfl, rfl⟩
 ·rw [if_neg hn] at HNm
  have hM : openR S n = if n ∈ S.pr then 7 else 0 := if_neg hn
  rw [hM]
  rcases hb : decide (n ∈ S.pr) with _ | _
  ·rw [hb] at HC
   rw [if_neg (of_decide_eq_false hb)]
   clear h h1 h2 h5 hM hb
   go_enter Tryz.func61, Tryz.ntmps61
   go_wp2_with fail
   refine HNm.out.mono ?_
   rintro e w1 ⟨rfl, rfl⟩
   go_wp2_with fail
   refine HC.out.mono ?_
   rintro e w1 ⟨rfl, rfl⟩
   go_wp2
   go_ret
   exact ⟨rfl, rfl⟩
  ·rw [hb] at HC
   rw [if_pos (of_decide_eq_true hb)]
   clear h h1 h2 h5 hM hb
   go_enter Tryz.func61, Tryz.ntmps61
   go_wp2_with fail
   refine HNm.out.mono ?_
   rintro e w1 ⟨rfl, rfl⟩
   go_wp2_with fail
   refine HC.out.mono ?_
   rintro e w1 ⟨rfl, rfl⟩
   go_wp2
   go_ret
   exact ⟨rfl, rfl⟩
end Go.Proofs.YtlliaihmfimdoaaGreat.Re

