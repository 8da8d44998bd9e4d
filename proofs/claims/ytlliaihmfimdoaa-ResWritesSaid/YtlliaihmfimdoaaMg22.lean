/- Parts Sa Sb Sc of one proof. -/
import Derived.Test.YtlliaihmfimdoaaMg12
import Derived.Test.YtlliaihmfimdoaaMg21
import Derived.Laws.Cover3
import Derived.Lib.AppendZeros
import Derived.Lib.Hide
namespace Go.Proofs.Ytlliaihmfimdoaa.Re
open Go.RowKit Go.Maps Go.Deep Go.Proofs.Ytlliaihmfimdoaa
set_option linter.unusedVariables false
set_option linter.unusedSimpArgs false

/-- Numbers somewhere. -/
def IntAt (w : World) (A : Option Addr) (zs : List Int) : Prop := 0 < zs.length → ∃ b o, A = some ⟨b, o, none⟩ ∧ (∃ cs fz, w.heap[b]? = some (.cells cs 3 fz)) ∧ ∀ i, (h : i < zs.length) → w.cell? ⟨b, o + i, none⟩ = some (.int .i64 (zs[i]'h))
theorem IntAt.below {w w' : World} {A : Option Addr} {zs : List Int} (h : IntAt w A zs) (hb : Below w.heap.size w w') : IntAt w' A zs := fun hl => by
  obtain ⟨b, o, rfl, ⟨cs, fz, hc⟩, hi⟩ := h hl
  have hlt := (Array.getElem?_eq_some_iff.1 hc).1
  exact ⟨b, o, rfl, ⟨cs, fz, (hb.block b hlt).trans hc⟩, fun i h => (hb.cell (p := ⟨b, o + i, none⟩) hlt).trans (hi i h)⟩
theorem IntAt.kept {w w' : World} {A : Option Addr} {zs : List Int} {g : Nat} {t : TypeId} {cs : Array Value} (h : IntAt w A zs) (hg : w.grownBy w' (some g)) (hk : Blk w g t cs) (ht : t ≠ 3) : IntAt w' A zs := fun hl => by
  obtain ⟨b, o, rfl, ⟨cs, fz, hc⟩, hi⟩ := h hl
  have hlt := (Array.getElem?_eq_some_iff.1 hc).1
  have hne : b ≠ g := fun e => by
    subst e
    unfold Blk at hk
    rw [hk] at hc
    injection hc with hc
    injection hc with _ hc _
    exact ht hc
  have e := hg.block b hlt (fun e => hne (by injection e))
  have hcell : ∀ i, w'.cell? ⟨b, i, none⟩ = w.cell? ⟨b, i, none⟩ := fun i => by unfold World.cell?; rw [e]
  exact ⟨b, o, rfl, ⟨cs, fz, e.trans hc⟩, fun i h => (hcell _).trans (hi i h)⟩
theorem IntAt.off {w w' : World} {A : Option Addr} {zs : List Int} {g : Nat} (h : IntAt w A zs) (hg : w.grownBy w' (some g)) (hne : blk A ≠ some g) : IntAt w' A zs := fun hl => by
  obtain ⟨b, o, rfl, ⟨cs, fz, hc⟩, hi⟩ := h hl
  have hlt := (Array.getElem?_eq_some_iff.1 hc).1
  have e := hg.block b hlt (fun e => hne (by rw [← e]; rfl))
  have hcell : ∀ i, w'.cell? ⟨b, i, none⟩ = w.cell? ⟨b, i, none⟩ := fun i => by unfold World.cell?; rw [e]
  exact ⟨b, o, rfl, ⟨cs, fz, e.trans hc⟩, fun i h => (hcell _).trans (hi i h)⟩
/-- Resources: the store, the queue, the works that are prepared. -/
structure RS where
  K : KS
  Q : Qu.QS
  pr : List Int
def RS.zero (B : Nat → Prop) : RS := ⟨KS.zero B, Qu.QS.zero B, []⟩
structure ResAt (w : World) (g : Nat) (cs : Array Value) (S : RS) (N : Nat) : Prop where
  kv : KvAt w g 66 cs S.K N
  qu : Qu.QAt w g 34 66 cs S.Q N
  pr : ∃ A n c, cs[37]? = some (.slice A n c) ∧ n = S.pr.length ∧ n ≤ c ∧ c ≤ 9223372036854775807 ∧ IntAt w A S.pr
  ln : S.pr.length ≤ N
theorem ResAt.below {w w' : World} {g N : Nat} {cs : Array Value} {S : RS} (h : ResAt w g cs S N) (hb : Below w.heap.size w w') : ResAt w' g cs S N := by
  obtain ⟨A, n, c, h1, h2, h3, h4, h5⟩ := h.pr
  exact ⟨h.kv.below hb, h.qu.below hb, ⟨A, n, c, h1, h2, h3, h4, h5.below hb⟩, h.ln⟩
theorem ResAt.more {w : World} {g N N' : Nat} {cs : Array Value} {S : RS} (h : ResAt w g cs S N) (hN : N ≤ N') : ResAt w g cs S N' := ⟨h.kv.more hN, h.qu.more hN, h.pr, Nat.le_trans h.ln hN⟩
theorem ResAt.lt {w : World} {g N : Nat} {cs : Array Value} {S : RS} (h : ResAt w g cs S N) : g < w.heap.size := h.kv.lt
/-- The queue's part, where the store's turns. -/
theorem qpart {w w' : World} {g of N : Nat} {tt : TypeId} {cs cs' : Array Value} {S : Qu.QS} (h : Qu.QAt w g of tt cs S N) (hg : w.grownBy w' (some g)) (hb : Blk w' g tt cs') (hk : ∀ i, of ≤ i → i ≤ of + 2 → cs'[i]? = cs[i]?) : Qu.QAt w' g of tt cs' S N := by
  obtain ⟨h1, h2, ⟨A, n, c, a1, a2, a3, a4, a5⟩, h3, ⟨m, G, h4, h5, h6⟩, h7, h8, h9⟩ := h
  exact ⟨hb, h2, ⟨A, n, c, (hk of (Nat.le_refl _) (by omega)).trans a1, a2, a3, a4, a5.kept hg h1 h2.2⟩, (hk (of + 1) (by omega) (by omega)).trans h3, ⟨m, G, (hk (of + 2) (by omega) (by omega)).trans h4, h5.kept hg h1, h6.same fun A l hc => hc.kept hg h1 h2.1⟩, h7, h8, h9⟩
/-- The store's part, where the queue's turns. -/
theorem kpart {w w' : World} {g N : Nat} {tt : TypeId} {cs cs' : Array Value} {S : KS} (h : KvAt w g tt cs S N) (hg : w.grownBy w' (some g)) (hb : Blk w' g tt cs') (hk : ∀ i, i < 34 → cs'[i]? = cs[i]?) : KvAt w' g tt cs' S N := by
  obtain ⟨h1, h2, h3, ⟨m, G, h4, h5, h6⟩, ⟨h7, m2, h8, h9⟩, h10⟩ := h
  exact ⟨hb, h2, fun k hkk => ⟨(hk _ (by omega)).trans (h3 k hkk).1, (hk _ (by omega)).trans (h3 k hkk).2⟩, ⟨m, G, (hk 32 (by omega)).trans h4, h5.kept hg h1, h6.same fun A l hc => hc.kept hg h1 h2⟩, ⟨h7, m2, (hk 33 (by omega)).trans h8, h9.kept hg h1⟩, h10⟩
/-- What a call leaves. -/
def ResO (w : World) (g : Nat) (S : RS) (N : Nat) (w' : World) : Prop := (∃ cs', ResAt w' g cs' S N) ∧ w.grownBy w' (some g)
theorem ResO.same {w w' : World} {g N : Nat} {cs : Array Value} {S : RS} (h : ResAt w g cs S N) (hb : Below w.heap.size w w') : ResO w g S N w' := ⟨⟨cs, h.below hb⟩, lbelow_grown hb _⟩
theorem ResO.from {a w w' : World} {g N : Nat} {S : RS} (hg : a.grownBy w (some g)) (h : ResO w g S N w') : ResO a g S N w' := ⟨h.1, hg.trans h.2⟩
/-- The store has turned. -/
theorem ResAt.kturn {w w' : World} {g N N' : Nat} {cs : Array Value} {S : RS} {K' : KS} (h : ResAt w g cs S N) (hk : KvO w g 66 cs K' N' w') (hN : N ≤ N') : ResO w g { S with K := K' } N' w' := by
  obtain ⟨⟨cs', hk', hkeep⟩, hg⟩ := hk
  obtain ⟨A, n, c, h1, h2, h3, h4, h5⟩ := h.pr
  exact ⟨⟨cs', hk', (qpart h.qu hg hk'.bk (fun i hi _ => hkeep.2 i hi)).more hN, ⟨A, n, c, (hkeep.2 37 (by omega)).trans h1, h2, h3, h4, h5.kept hg h.kv.bk (by decide)⟩, Nat.le_trans h.ln hN⟩, hg⟩
/-- The queue has turned. -/
theorem ResAt.qturn {w w' : World} {g N N' : Nat} {cs : Array Value} {S : RS} {Q' : Qu.QS} (h : ResAt w g cs S N) (hk : Qu.QO w g 34 66 cs Q' N' w') (hN : N ≤ N') : ResO w g { S with Q := Q' } N' w' := by
  obtain ⟨⟨cs', hk', hkeep⟩, hg⟩ := hk
  obtain ⟨A, n, c, h1, h2, h3, h4, h5⟩ := h.pr
  exact ⟨⟨cs', (kpart h.kv hg hk'.bk (fun i hi => hkeep.2 i (by omega) (by omega) (by omega))).more hN, hk', ⟨A, n, c, (hkeep.2 37 (by omega) (by omega) (by omega)).trans h1, h2, h3, h4, h5.kept hg h.kv.bk (by decide)⟩, Nat.le_trans h.ln hN⟩, hg⟩
theorem res_size {w : World} {g : Nat} {cs : Array Value} (h : Blk w g 66 cs) : True := trivial
set_option maxRecDepth 100000 in
theorem ResAt.zero (B : Nat → Prop) (w : World) : ResAt (w.alloc (.cells #[.int .u64 0, .bool false, .int .u64 0, .bool false, .int .u64 0, .bool false, .int .u64 0, .bool false, .int .u64 0, .bool false, .int .u64 0, .bool false, .int .u64 0, .bool false, .int .u64 0, .bool false, .int .u64 0, .bool false, .int .u64 0, .bool false, .int .u64 0, .bool false, .int .u64 0, .bool false, .int .u64 0, .bool false, .int .u64 0, .bool false, .int .u64 0, .bool false, .int .u64 0, .bool false, .map none, .map none, .slice none 0 0, .int .i64 0, .map none, .slice none 0 0] 66)) w.heap.size #[.int .u64 0, .bool false, .int .u64 0, .bool false, .int .u64 0, .bool false, .int .u64 0, .bool false, .int .u64 0, .bool false, .int .u64 0, .bool false, .int .u64 0, .bool false, .int .u64 0, .bool false, .int .u64 0, .bool false, .int .u64 0, .bool false, .int .u64 0, .bool false, .int .u64 0, .bool false, .int .u64 0, .bool false, .int .u64 0, .bool false, .int .u64 0, .bool false, .int .u64 0, .bool false, .map none, .map none, .slice none 0 0, .int .i64 0, .map none, .slice none 0 0] (RS.zero B) 0 where
  kv := ⟨Blk.new _ _ _, by decide, fun k hk => by
    have : k = 0 ∨ k = 1 ∨ k = 2 ∨ k = 3 ∨ k = 4 ∨ k = 5 ∨ k = 6 ∨ k = 7 ∨ k = 8 ∨ k = 9 ∨ k = 10 ∨ k = 11 ∨ k = 12 ∨ k = 13 ∨ k = 14 ∨ k = 15 := by omega
    rcases this with rfl | rfl | rfl | rfl | rfl | rfl | rfl | rfl | rfl | rfl | rfl | rfl | rfl | rfl | rfl | rfl <;> exact ⟨rfl, rfl⟩, ⟨none, fun _ => none, rfl, .inl ⟨rfl, rfl⟩, fun k => ⟨fun _ => rfl, fun l p e => by cases e⟩⟩, ⟨Nat.zero_le _, none, rfl, .inl ⟨rfl, rfl⟩⟩, fun k l p e => by cases e⟩
  qu := ⟨Blk.new _ _ _, ⟨by decide, by decide⟩, ⟨none, 0, 0, rfl, rfl, Nat.le_refl _, by omega, fun h => by simp [RS.zero, Qu.QS.zero] at h⟩, rfl, ⟨none, fun _ => none, rfl, .inl ⟨rfl, rfl⟩, fun k => ⟨fun _ => rfl, fun l p e => by simp [Qu.lookQ, Qu.findQ, RS.zero, Qu.QS.zero] at e⟩⟩, List.Pairwise.nil, (fun y hy => nomatch hy), (Qu.QOk.zero B).inv⟩
  pr := ⟨none, 0, 0, rfl, rfl, Nat.le_refl _, by omega, fun h => by simp [RS.zero] at h⟩
  ln := Nat.le_refl _
theorem newres_any (B : Nat → Prop) (w : World) : Calls Try.prog 10 #[] w fun e w' => e = .returned (.pointer (some ⟨w.heap.size, 0, none⟩)) ∧ (∃ cs, ResAt w' w.heap.size cs (RS.zero B) 0) ∧ Below w.heap.size w w' := by
  have HZ := Lib.hid (ResAt.zero B w)
  have HB := Lib.hid (ba w (.cells #[.int .u64 0, .bool false, .int .u64 0, .bool false, .int .u64 0, .bool false, .int .u64 0, .bool false, .int .u64 0, .bool false, .int .u64 0, .bool false, .int .u64 0, .bool false, .int .u64 0, .bool false, .int .u64 0, .bool false, .int .u64 0, .bool false, .int .u64 0, .bool false, .int .u64 0, .bool false, .int .u64 0, .bool false, .int .u64 0, .bool false, .int .u64 0, .bool false, .int .u64 0, .bool false, .map none, .map none, .slice none 0 0, .int .i64 0, .map none, .slice none 0 0] 66))
  go_enter Try.func10, Try.ntmps10
  go_wp2
  go_ret
  exact ⟨rfl, ⟨_, HZ.out⟩, HB.out⟩
theorem resnames_nil (n : Int) (w : World) : Calls Try.prog 32 #[.pointer none, .int .i64 n] w fun e w' => e = .returned (.int .i64 6) ∧ w = w' := by
  go_enter Try.func32, Try.ntmps32
  go_wp2
  go_ret
  exact ⟨rfl, rfl⟩
theorem resnames_any (g : Nat) (n : Int) (w : World) : Calls Try.prog 32 #[.pointer (some ⟨g, 0, none⟩), .int .i64 n] w fun e w' => e = .returned (.int .i64 (if n < 1 then 1 else 0)) ∧ w = w' := by
  by_cases h : n < 1
  · rw [if_pos h]
    go_enter Try.func32, Try.ntmps32
    go_wp2
    go_ret
    exact ⟨rfl, rfl⟩
  · rw [if_neg h]
    go_enter Try.func32, Try.ntmps32
    go_wp2
    go_ret
    exact ⟨rfl, rfl⟩
def FoundI (k x : Int) (zs : List Int) : Prop := decide (0 ≤ k) = decide (x ∈ zs)
set_option maxRecDepth 100000 in
set_option maxHeartbeats 1000000 in
theorem iindex_any (A : Option Addr) (zs : List Int) (n c : Nat) (x : Int) (w : World) (hn : Hid (n = zs.length)) (hm : n ≤ 1000000) (h : IntAt w A zs) :
    Calls Try.prog 45 #[.slice A n c, .int .i64 x] w fun e w' => (∃ k : Int, e = .returned (.int .i64 k) ∧ FoundI k x zs) ∧ w = w' := by
  have HI : Hid (∀ i, (h : i < zs.length) → i < 0 → zs[i]'h ≠ x) := Lib.hid fun i _ hi => by omega
  have H := Lib.hid h
  clear h
  go_enter Try.func45, Try.ntmps45
  go_wp2_with fail
  go_loopw [8] (fun iv wr => ∃ i : Nat, i ≤ n ∧ iv = .int .i64 i ∧ Hid (∀ j, (h : j < zs.length) → j < i → zs[j]'h ≠ x) ∧ w = wr) (fun iv _ => n - (intOf iv).toNat)
  case atStart => exact ⟨0, Nat.zero_le _, rfl, HI, rfl⟩
  case round =>
    clear HI
    obtain ⟨i, hi, rfl, HR, rfl⟩ := hrel
    by_cases hin : i < n
    · have hiI : (i : Int) < (n : Int) := by omega
      have hil : i < zs.length := by rw [← hn.out]; exact hin
      obtain ⟨b, o, rfl, _, hc⟩ := H.out (by omega)
      have c0 := hc i hil
      obtain ⟨z, hz⟩ : ∃ z, z = zs[i]'hil := ⟨_, rfl⟩
      rw [← hz] at c0
      have Hz := Lib.hid (show ∃ hil : i < zs.length, z = zs[i]'hil from ⟨hil, hz⟩)
      clear hc hz hil
      by_cases e : x = z
      · have HF : FoundI (i : Int) x zs := (by
          unfold FoundI
          obtain ⟨hil, hz⟩ := Hz.out
          have : x ∈ zs := by rw [e, hz]; exact List.getElem_mem hil
          simp [this])
        subst e
        go_wp2
        go_ret
        exact ⟨⟨_, rfl, HF⟩, rfl⟩
      · have HN : Hid (∀ j, (h : j < zs.length) → j < i + 1 → zs[j]'h ≠ x) := Lib.hid fun j h hj => by
          by_cases ej : j = i
          · subst ej
            obtain ⟨_, hz⟩ := Hz.out
            rw [← hz]; exact fun e2 => e e2.symm
          · exact HR.out j h (by omega)
        have eb : (x == z) = false := by simpa using e
        go_wp2
        go_roundw
        case rel => exact ⟨i + 1, by omega, by go_num, HN, by first | rfl | trivial⟩
        case measure => simp [intOf]; omega
    · have hiI : ¬ (i : Int) < (n : Int) := by omega
      have HF : FoundI (-1) x zs := (by
        unfold FoundI
        have : x ∉ zs := fun hx => by
          obtain ⟨j, hj, e⟩ := List.mem_iff_getElem.1 hx
          exact HR.out j hj (by have := hn.out; omega) e
        simp [this])
      clear HR
      go_wp2
      go_ret
      exact ⟨⟨_, rfl, HF⟩, rfl⟩
set_option maxRecDepth 100000 in
set_option maxHeartbeats 1000000 in
theorem contains_any (A : Option Addr) (zs : List Int) (n c : Nat) (x : Int) (w : World) (hn : Hid (n = zs.length)) (hm : n ≤ 1000000) (h : IntAt w A zs) :
    Calls Try.prog 33 #[.slice A n c, .int .i64 x] w fun e w' => e = .returned (.bool (decide (x ∈ zs))) ∧ w = w' := by
  have HC := Lib.hid (iindex_any A zs n c x w hn hm h)
  clear h
  go_enter Try.func33, Try.ntmps33
  go_wp2_with fail
  refine HC.out.mono ?_
  rintro e w1 ⟨⟨k, rfl, hk⟩, rfl⟩
  go_wp2
  go_ret
  exact ⟨by unfold FoundI at hk; rw [← hk]; rfl, rfl⟩
def openR (S : RS) (n : Int) : Int := if n < 1 then 1 else if n ∈ S.pr then 7 else 0
set_option maxRecDepth 100000 in
set_option maxHeartbeats 1000000 in
theorem resopen_any (g : Nat) (cs : Array Value) (S : RS) (N : Nat) (n : Int) (w : World) (h : ResAt w g cs S N) (hN : N ≤ 1000000) :
    Calls Try.prog 21 #[.pointer (some ⟨g, 0, none⟩), .int .i64 n] w fun e w' => e = .returned (.int .i64 (openR S n)) ∧ w = w' := by
  have HNm := Lib.hid (resnames_any g n w)
  obtain ⟨A, q, c, h1, h2, h3, h4, h5⟩ := h.pr
  have c37 := (h.kv.bk.cell 37).trans h1
  have HC := Lib.hid (contains_any A S.pr q c n w (Lib.hid h2) (by have := h.ln; omega) h5)
  by_cases hn : n < 1
  · have hM : openR S n = 1 := if_pos hn
    rw [hM]
    rw [if_pos hn] at HNm
    clear h h1 h2 h5 HC hM
    go_enter Try.func21, Try.ntmps21
    go_wp2_with fail
    refine HNm.out.mono ?_
    rintro e w1 ⟨rfl, rfl⟩
    go_wp2
    go_ret
    exact ⟨rfl, rfl⟩
  · rw [if_neg hn] at HNm
    have hM : openR S n = if n ∈ S.pr then 7 else 0 := if_neg hn
    rw [hM]
    rcases hb : decide (n ∈ S.pr) with _ | _
    · rw [hb] at HC
      rw [if_neg (of_decide_eq_false hb)]
      clear h h1 h2 h5 hM hb
      go_enter Try.func21, Try.ntmps21
      go_wp2_with fail
      refine HNm.out.mono ?_
      rintro e w1 ⟨rfl, rfl⟩
      go_wp2_with fail
      refine HC.out.mono ?_
      rintro e w1 ⟨rfl, rfl⟩
      go_wp2
      go_ret
      exact ⟨rfl, rfl⟩
    · rw [hb] at HC
      rw [if_pos (of_decide_eq_true hb)]
      clear h h1 h2 h5 hM hb
      go_enter Try.func21, Try.ntmps21
      go_wp2_with fail
      refine HNm.out.mono ?_
      rintro e w1 ⟨rfl, rfl⟩
      go_wp2_with fail
      refine HC.out.mono ?_
      rintro e w1 ⟨rfl, rfl⟩
      go_wp2
      go_ret
      exact ⟨rfl, rfl⟩
theorem resopen_nil (n : Int) (w : World) : Calls Try.prog 21 #[.pointer none, .int .i64 n] w fun e w' => e = .returned (.int .i64 6) ∧ w = w' := by
  go_enter Try.func21, Try.ntmps21
  go_wp2_with fail
  refine (resnames_nil n w).mono ?_
  rintro e w1 ⟨rfl, rfl⟩
  go_wp2
  go_ret
  exact ⟨rfl, rfl⟩
end Go.Proofs.Ytlliaihmfimdoaa.Re

namespace Go.Proofs.Ytlliaihmfimdoaa.Re
open Go.RowKit Go.Maps Go.Deep Go.Proofs.Ytlliaihmfimdoaa
set_option linter.unusedVariables false
set_option linter.unusedSimpArgs false

theorem grow_zero (w : World) : Calls Try.prog 43 #[.slice none 0 0, .int .i64 0] w fun e w' => e = .returned (.slice none 0 0) ∧ w = w' := by
  go_enter Try.func43, Try.ntmps43
  go_wp2
  go_ret
  exact ⟨rfl, rfl⟩
theorem cown_empty (w : World) (cs : Array Value) (c : Nat) (hs : cs.size = c * 3) (hc : c ≤ maxLen) : OwnC (w.alloc (.cells cs 39)) w.heap.size (some ⟨w.heap.size, 0, none⟩) c [] :=
  ⟨by simp [chV], .inr ⟨w.heap.size, c, cs, rfl, Nat.le_refl _, heap_alloc_new w _, Nat.zero_le _, hc, hs, by simp [chV]⟩⟩
theorem zc_size (n m : Nat) : (Builtin.zeroCells (Value.agg #[.int .i64 0, .int .i64 0, .int .u64 0]).cells n ++ Builtin.zeroCells (Value.agg #[.int .i64 0, .int .i64 0, .int .u64 0]).cells m).size = (n + m) * 3 := by
  simp [Builtin.zeroCells, Value.cells]
  try omega
set_option maxRecDepth 100000 in
theorem grow_pos (n : Nat) (w : World) (h0 : 0 < n) (hm : n ≤ 1000000) : Calls Try.prog 43 #[.slice none 0 0, .int .i64 n] w fun e w' => ∃ A c, e = .returned (.slice A 0 c) ∧ OwnC w' w.heap.size A c [] ∧ Below w.heap.size w w' := by
  obtain ⟨i0, hi, hz0, hz1, hz2⟩ := info_parts Try.infoCh
  have e1 : IntKind.i64.wrap (n : Int) = (n : Int) := IntWalk.i64_in _ (by omega)
  have hap := fun ty => Lib.run_append_nil_zeros (P := Try.prog) w 22 3 ty 39 i0 _ .i64 .i64 Try.underlying22 Try.underlying3 hi hz0 n h0 (by omega) (by omega) (by rw [hz2]; omega)
  have hge := grownCap_ge w n 0 39
  have hle := grownCap_le_maxLen w n 0 39 (by simp only [maxLen]; omega)
  obtain ⟨C, hC0⟩ : ∃ C, C = grownCap w n 0 39 := ⟨_, rfl⟩
  rw [← hC0] at hap hge hle
  have how := cown_empty w.drew (Builtin.zeroCells (Value.agg #[.int .i64 0, .int .i64 0, .int .u64 0]).cells n ++ Builtin.zeroCells (Value.agg #[.int .i64 0, .int .i64 0, .int .u64 0]).cells (C - n)) C (by rw [zc_size, Nat.add_sub_cancel' hge]) hle
  have hb : Below w.heap.size w (w.drew.alloc (.cells (Builtin.zeroCells (Value.agg #[.int .i64 0, .int .i64 0, .int .u64 0]).cells n ++ Builtin.zeroCells (Value.agg #[.int .i64 0, .int .i64 0, .int .u64 0]).cells (C - n)) 39)) := (Below.refl _ _).drew.alloc (Nat.le_refl _) _
  generalize hwv : w.drew.alloc (.cells (Builtin.zeroCells (Value.agg #[.int .i64 0, .int .i64 0, .int .u64 0]).cells n ++ Builtin.zeroCells (Value.agg #[.int .i64 0, .int .i64 0, .int .u64 0]).cells (C - n)) 39) = w2 at *
  have how' : OwnC w2 w.heap.size (some ⟨w.heap.size, 0, none⟩) C [] := how
  clear hwv how hC0
  have hC : (C : Int) ≤ 9223372036854775807 := by simp only [maxLen] at hle; omega
  go_enter Try.func43, Try.ntmps43
  go_wp2_with (at_builtin; refine Lib.wpList_append_run _ rfl (.tmp 20) (.tmp 21) 22 3 rfl _ _ rfl rfl _ _ (hap _) ?_)
  go_ret
  exact ⟨_, _, rfl, how', hb⟩
theorem grow_any (n : Nat) (w : World) (hm : n ≤ 1000000) : Calls Try.prog 43 #[.slice none 0 0, .int .i64 n] w fun e w' => ∃ A c, e = .returned (.slice A 0 c) ∧ OwnC w' w.heap.size A c [] ∧ Below w.heap.size w w' := by
  rcases Nat.eq_zero_or_pos n with rfl | h
  · refine (grow_zero w).mono ?_
    rintro e w' ⟨rfl, rfl⟩
    exact ⟨none, 0, rfl, OwnC.nil _ _, Below.refl _ _⟩
  · exact grow_pos n w h hm
def csz (n1 n2 k : Nat) : Nat := match k with | 0 => 0 | 1 => n1 | _ => n1 + n2
def cpart (l1 l2 : List Ch) (k : Nat) : List Ch := match k with | 0 => [] | 1 => l1 | _ => l1 ++ l2
theorem inl_app {u : World} {B c : Nat} {A : Option Addr} {l : List Ch} (h : OwnC u B A c l) (n : Nat) (hn : n = l.length) (A' : Option Addr) (c' : Nat) (m : List Ch) (n' : Nat) (hn' : n' = m.length) (hm : InL u A' m) (hl : l.length + m.length ≤ 1000000) (hB : B ≤ u.heap.size) :
    ∃ A2 c2 u', (Builtin.append_ #[22, 22] 22 #[.slice A n c, .slice A' n' c']).run Try.prog u = .ok (.slice A2 (n + n') c2) u' ∧ OwnC u' B A2 c2 (l ++ m) ∧ u.grownBy u' (blk A) := by
  obtain ⟨A2, c2, u', h1, h2, h3, _⟩ := ch_app h A' c' m n n' hn hn' (fun b o e i hi => by
    obtain ⟨b', o', e', _, hc⟩ := hm (by omega)
    rw [e] at e'
    cases e'
    exact hc i hi) (fun hp => by obtain ⟨b', o', e', _⟩ := hm hp; exact ⟨b', o', e'⟩) (by have := h.cap; omega) hl hB
  exact ⟨A2, c2, u', h1, h2, h3⟩
set_option maxHeartbeats 1000000 in
set_option maxRecDepth 100000 in
theorem concat2 (b : Nat) (A1 A2 : Option Addr) (l1 l2 : List Ch) (n1 n2 c1 c2 : Nat) (hn1 : Hid (n1 = l1.length)) (hn2 : Hid (n2 = l2.length)) (w : World) (hlt : b < w.heap.size) (h0 : w.cell? ⟨b, 0, none⟩ = some (.slice A1 n1 c1)) (h1 : w.cell? ⟨b, 1, none⟩ = some (.slice A2 n2 c2))
    (hb1 : InL w A1 l1) (hb2 : InL w A2 l2) (hm : Hid (l1.length + l2.length ≤ 1000000)) :
    Calls Try.prog 26 #[.slice (some ⟨b, 0, none⟩) 2 2] w fun e w' => ∃ A c, e = .returned (.slice A (n1 + n2) c) ∧ OwnC w' w.heap.size A c (l1 ++ l2) ∧ Below w.heap.size w w' := by
  have hN : Hid (n1 + n2 ≤ 1000000) := Lib.hid (by have := hn1.out; have := hn2.out; have := hm.out; omega)
  have g1 : IntKind.i64.wrap (n1 : Int) = (n1 : Int) := IntWalk.i64_in _ (by have := hN.out; omega)
  have g2 : IntKind.i64.wrap ((n1 : Int) + (n2 : Int)) = (n1 : Int) + (n2 : Int) := IntWalk.i64_in _ (by have := hN.out; omega)
  have d1 : decide ((n1 : Int) < 0) = false := by simp
  have d2 : decide ((n1 : Int) + (n2 : Int) < 0) = false := by simp; omega
  go_enter Try.func26, Try.ntmps26
  go_wp2_with fail
  go_loopw [3, 5, 11] (fun s p i wr => ∃ (k : Nat) (v : Value), v = p ∧ k ≤ 2 ∧ i = .int .i64 k ∧ s = .int .i64 (csz n1 n2 k) ∧ wr = w) (fun _ _ i _ => 2 - (intOf i).toNat)
  case atStart => exact ⟨0, _, rfl, by omega, rfl, rfl, rfl⟩
  case round =>
    obtain ⟨k, v, rfl, hk, rfl, rfl, hww⟩ := hrel
    have hww' := hww.symm
    subst hww'
    clear hww
    have hk3 : k = 0 ∨ k = 1 ∨ k = 2 := by omega
    rcases hk3 with rfl | rfl | rfl
    · simp only [csz]
      go_wp2
      go_roundw
      case rel => exact ⟨1, _, rfl, by omega, by first | go_num | simp, by first | go_num | (simp [csz]; try omega), by first | trivial | rfl⟩
      case measure => simp [intOf]
    · simp only [csz]
      go_wp2
      go_roundw
      case rel => exact ⟨2, _, rfl, by omega, by first | go_num | simp, by first | go_num | (simp [csz]; try omega), by first | trivial | rfl⟩
      case measure => simp [intOf]
    · simp only [csz]
      go_wp2_with fail
      refine (grow_any (n1 + n2) _ (by have := hN.out; omega)).mono ?_
      rintro e w1 ⟨A, c, rfl, own1, hbw1⟩
      have H0 := Lib.hid h0
      have H1 := Lib.hid h1
      have HB1 := Lib.hid hb1
      have HB2 := Lib.hid hb2
      clear h0 h1 hb1 hb2
      go_wp2_with fail
      go_loopw [6, 8, 27] (fun s p i wz => ∃ (k : Nat) (v : Value) (A' : Option Addr) (c' n' : Nat), v = p ∧ k ≤ 2 ∧ i = .int .i64 k ∧ s = .slice A' n' c' ∧ Hid (n' = csz n1 n2 k) ∧ Hid (n' = (cpart l1 l2 k).length) ∧ OwnC wz w.heap.size A' c' (cpart l1 l2 k) ∧ Below w.heap.size w wz) (fun _ _ i _ => 2 - (intOf i).toNat)
      case atStart => exact ⟨0, _, _, _, 0, rfl, by omega, rfl, rfl, Lib.hid rfl, Lib.hid rfl, own1, hbw1⟩
      case round =>
        clear own1 hbw1
        obtain ⟨k, v2, A', c', n', rfl, hk, rfl, rfl, hn', hl', own2, hbw2⟩ := hrel
        have z0 := (hbw2.cell (p := ⟨b, 0, none⟩) hlt).trans H0.out
        have z1 := (hbw2.cell (p := ⟨b, 1, none⟩) hlt).trans H1.out
        have hk3 : k = 0 ∨ k = 1 ∨ k = 2 := by omega
        rcases hk3 with rfl | rfl | rfl
        · simp only [cpart] at own2 hl'
          obtain ⟨A3, c3, w3, hrun, own3, hg3⟩ := inl_app own2 n' hl'.out A1 c1 l1 n1 hn1.out (HB1.out.below hbw2) (by have := hm.out; simp; omega) hbw2.size
          have HX : Hid (n' + n1 = csz n1 n2 1 ∧ n' + n1 = (cpart l1 l2 1).length ∧ OwnC w3 w.heap.size A3 c3 (cpart l1 l2 1) ∧ Below w.heap.size w w3) := Lib.hid ⟨by have := hn'.out; simp [csz] at *; omega, by have := hl'.out; have := hn1.out; simp [cpart] at *; omega, by simpa [cpart] using own3, hbw2.grown hg3 hbw2.size (fun r e => (own2.lt' r e).1)⟩
          clear own2 own3 hg3 hbw2
          go_wp2_with (at_builtin; refine wpList_append_run rfl (.tmp 31) (.tmp 32) 22 rfl _ _ _ w3 rfl rfl hrun ?_)
          go_roundw
          case rel => exact ⟨1, _, A3, c3, n' + n1, rfl, by omega, by first | go_num | simp, by first | rfl | simp, Lib.hid HX.out.1, Lib.hid HX.out.2.1, HX.out.2.2⟩
          case measure => simp [intOf]
        · simp only [cpart] at own2 hl'
          obtain ⟨A3, c3, w3, hrun, own3, hg3⟩ := inl_app own2 n' hl'.out A2 c2 l2 n2 hn2.out (HB2.out.below hbw2) (by have := hm.out; omega) hbw2.size
          have HX : Hid (n' + n2 = csz n1 n2 2 ∧ n' + n2 = (cpart l1 l2 2).length ∧ OwnC w3 w.heap.size A3 c3 (cpart l1 l2 2) ∧ Below w.heap.size w w3) := Lib.hid ⟨by have := hn'.out; simp [csz] at *; omega, by have := hl'.out; have := hn2.out; simp [cpart] at *; omega, by simpa [cpart] using own3, hbw2.grown hg3 hbw2.size (fun r e => (own2.lt' r e).1)⟩
          clear own2 own3 hg3 hbw2
          go_wp2_with (at_builtin; refine wpList_append_run rfl (.tmp 31) (.tmp 32) 22 rfl _ _ _ w3 rfl rfl hrun ?_)
          go_roundw
          case rel => exact ⟨2, _, A3, c3, n' + n2, rfl, by omega, by first | go_num | simp, by first | rfl | simp, Lib.hid HX.out.1, Lib.hid HX.out.2.1, HX.out.2.2⟩
          case measure => simp [intOf]
        · simp only [cpart] at own2 hl'
          obtain rfl : n' = n1 + n2 := hn'.out
          go_wp2
          go_ret
          exact ⟨_, _, rfl, own2, hbw2⟩
/-- Numbers of one's own. -/
def zV (zs : List Int) : List Value := zs.map fun z => .int .i64 z
def OwnZ (w : World) (B : Nat) (A : Option Addr) (c : Nat) (zs : List Int) : Prop := w.ownsRow B 3 1 (.slice A zs.length c) zs.length (zV zs)
theorem Try.infoZ : (Try.prog.info? 3).map (fun i => (i.zero, i.size, i.bytes)) = some (some (.int .i64 0), 1, 8) := by kernel_rfl
theorem OwnZ.nil (w : World) (B : Nat) : OwnZ w B none 0 [] := World.ownsRow_nil w _ _ _
theorem OwnZ.lt' {u : World} {B : Nat} {A : Option Addr} {c : Nat} {l : List Int} (h : OwnZ u B A c l) : ∀ r, blk A = some r → B ≤ r ∧ r < u.heap.size := fun r e => World.ownsRow.lt h r (by rw [ownBlock_slice]; exact e)
theorem OwnZ.at_ {w : World} {B : Nat} {A : Option Addr} {c : Nat} {l : List Int} (h : OwnZ w B A c l) : IntAt w A l := fun hl => by
  rcases h.2 with ⟨h1, h2⟩ | ⟨g, cap, cur, h1, hb, hg, hn, hm, hc, ht⟩
  · omega
  · injection h1 with e1 e2 e3
    refine ⟨g, 0, e1, ⟨cur, _, hg⟩, fun j hj => ?_⟩
    have hcell : w.cell? ⟨g, 0 + j, none⟩ = cur[0 + j]? := cell_of_row w g (0 + j) cur _ (0, 0) hg
    rw [hcell, Nat.zero_add]
    have hv : (zV l)[j]? = some (.int .i64 (l[j]'hj)) := by unfold zV; simp [hj]
    rw [← ht, List.getElem?_take] at hv
    split at hv
    · simpa using hv
    · cases hv
theorem OwnZ.cap {w : World} {B : Nat} {A : Option Addr} {c : Nat} {l : List Int} (h : OwnZ w B A c l) : l.length ≤ c ∧ c ≤ 9223372036854775807 := by
  rcases h.2 with ⟨h1, h2⟩ | ⟨g, cap, cur, h1, hb, hg, hn, hm, hc, ht⟩
  · injection h1 with e1 e2 e3; omega
  · injection h1 with e1 e2 e3
    unfold maxLen at hm
    omega
theorem z_app {u : World} {B c : Nat} {A : Option Addr} {P : List Int} (h : OwnZ u B A c P) (n : Nat) (hn : n = P.length) (hl : n ≤ 1000000) (b o m c' : Nat) (zs : List Int) (hm : m = zs.length) (hml : m ≤ 1000000) (hBu : B ≤ u.heap.size) (hq : ∀ i, (h : i < zs.length) → u.cell? ⟨b, o + i, none⟩ = some (.int .i64 (zs[i]'h))) :
    ∃ v' u', (Builtin.append_ #[64, 64] 64 #[.slice A n c, .slice (some ⟨b, o, none⟩) m c']).run Try.prog u = .ok v' u' ∧
      u'.ownsRow B 3 1 v' (n + m) (zV (P ++ zs)) ∧ u.grownBy u' (blk A) ∧ (v' = .slice none 0 0 ↔ Value.slice A n c = .slice none 0 0 ∧ m = 0) := by
  subst hn hm
  obtain ⟨i0, hi, hz0, hz1, hz2⟩ := info_parts Try.infoZ
  obtain ⟨v', w', hrun, hown, hgr, hnil, _⟩ := run_append_own_at (P := Try.prog) u B 64 64 3 i0 _ 1 8 Try.underlying64 hi hz0 hz1 hz2 rfl (by omega) (.slice A P.length c) P.length (zV P) h ⟨b, o, none⟩ zs.length c' (zV zs) (by unfold zV; simp)
    (fun j v hv => by
      rw [Addr.add_lit]
      unfold zV at hv
      rw [List.getElem?_map] at hv
      rcases hz : zs[j]? with _ | z
      · rw [hz] at hv; cases hv
      · rw [hz] at hv
        cases hv
        obtain ⟨hj, e⟩ := List.getElem?_eq_some_iff.1 hz
        rw [← e]
        exact hq j hj)
    (fun v hv => by unfold zV at hv; obtain ⟨z, _, rfl⟩ := List.mem_map.1 hv; rfl) (by simp only [maxLen]; omega) (by omega) hBu
  rw [ownBlock_slice] at hgr
  exact ⟨v', w', hrun, by unfold zV at hown ⊢; rw [List.map_append]; exact hown, hgr, hnil⟩
end Go.Proofs.Ytlliaihmfimdoaa.Re

namespace Go.Proofs.Ytlliaihmfimdoaa.Re
open Go.RowKit Go.Maps Go.Deep Go.Proofs.Ytlliaihmfimdoaa
set_option linter.unusedVariables false
set_option linter.unusedSimpArgs false

set_option maxRecDepth 100000 in
set_option maxHeartbeats 1000000 in
theorem zclone_any (A : Option Addr) (zs : List Int) (n c : Nat) (w : World) (hn : Hid (n = zs.length)) (hm : n ≤ 1000000) (h : IntAt w A zs) :
    Calls Try.prog 44 #[.slice A n c] w fun e w' => ∃ A2 c2, e = .returned (.slice A2 n c2) ∧ OwnZ w' w.heap.size A2 c2 zs ∧ Below w.heap.size w w' := by
  cases A with
  | none =>
    have hl : zs = [] := by
      cases zs with
      | nil => rfl
      | cons x t => obtain ⟨b, o, e, _⟩ := h (by simp); cases e
    subst hl
    obtain rfl : n = 0 := hn.out
    have hnl : ∀ w, (binOp .eql 64 (.slice none 0 c) (.slice none 0 0)).run Try.prog w = .ok (.bool true) w := fun w => by simp [binOp, Go.run_equal_slice_nil w 64 3 none 0 c Try.underlying64]
    go_enter Try.func44, Try.ntmps44
    go_wp2
    go_ret
    exact ⟨none, 0, rfl, OwnZ.nil _ _, Below.refl _ _⟩
  | some a =>
    obtain ⟨ab, ao, af⟩ := a
    have haf : 0 < zs.length → af = none := fun hl => by
      obtain ⟨b, o, e, _⟩ := h hl
      cases e; rfl
    have ow : OwnZ (w.alloc (.cells #[] 3)) w.heap.size (some ⟨w.heap.size, 0, none⟩) 0 [] :=
      ⟨by simp [zV], .inr ⟨w.heap.size, 0, #[], rfl, Nat.le_refl _, heap_alloc_new w _, Nat.zero_le _, by simp [maxLen], by simp, by simp [zV]⟩⟩
    have hbw := ba w (.cells #[] 3)
    have hnl : ∀ w, (binOp .eql 64 (.slice (some ⟨ab, ao, af⟩) n c) (.slice none 0 0)).run Try.prog w = .ok (.bool false) w := fun w => by simp [binOp, Go.run_equal_slice_nil w 64 3 (some ⟨ab, ao, af⟩) n c Try.underlying64]
    obtain ⟨w2, hw2⟩ : ∃ w2, w2 = w.alloc (.cells #[] 3) := ⟨_, rfl⟩
    rw [← hw2] at ow hbw
    have hat := h.below hbw
    obtain ⟨A3, c3, w3, hrun, hx, hg⟩ : ∃ A3 c3 w3, (Builtin.append_ #[64, 64] 64 #[.slice (some ⟨w.heap.size, 0, none⟩) 0 0, .slice (some ⟨ab, ao, af⟩) n c]).run Try.prog w2 = .ok (.slice A3 n c3) w3 ∧ OwnZ w3 w.heap.size A3 c3 zs ∧ w2.grownBy w3 (blk (some (⟨w.heap.size, 0, none⟩ : Addr))) := by
      rcases Nat.eq_zero_or_pos zs.length with h0 | h0
      · have hz : zs = [] := List.eq_nil_of_length_eq_zero h0
        subst hz
        obtain rfl : n = 0 := hn.out
        obtain ⟨i0, hi, hz0, hz1, hz2⟩ := info_parts Try.infoZ
        refine ⟨some ⟨w.heap.size, 0, none⟩, 0, w2, ?_, ow, ⟨rfl, rfl, rfl, Nat.le_refl _, fun _ _ _ => rfl⟩⟩
        exact run_append_nothing w2 64 64 64 3 i0 Try.underlying64 hi (some ⟨w.heap.size, 0, none⟩) 0 0 (Nat.le_refl _) (.slice (some ⟨ab, ao, af⟩) 0 c) ⟨.inl ⟨_, Try.underlying64⟩, fun _ => rfl, run_firstCells_some w2 i0.size 0 ⟨ab, ao, af⟩ 0 c [] (by simp) (by simp), run_firstCells_some w2.drew i0.size 0 ⟨ab, ao, af⟩ 0 c [] (by simp) (by simp), by simp, by simp⟩
      · obtain rfl := haf h0
        obtain ⟨b, o, e, _, hc⟩ := hat h0
        cases e
        obtain ⟨v', w3, hrun, hown, hg, hnil⟩ := z_app ow 0 rfl (by omega) ab ao n c zs hn.out hm hbw.size hc
        rw [List.nil_append, Nat.zero_add] at hown
        obtain ⟨g2, c2, rfl⟩ := Joins.ownsRow_form hown (by have := hn.out; omega)
        have hn' := hn.out
        refine ⟨some ⟨g2, 0, none⟩, c2, w3, hrun, ?_, hg⟩
        unfold OwnZ
        rw [← hn']
        exact hown
    have HX : Hid (OwnZ w3 w.heap.size A3 c3 zs ∧ Below w.heap.size w w3) := Lib.hid ⟨hx, hbw.grown hg hbw.size (fun r e => by cases e; exact Nat.le_refl _)⟩
    rw [hw2] at hrun
    clear h haf ow hbw hw2 hat hx hg
    go_enter Try.func44, Try.ntmps44
    go_wp2_with (at_builtin; refine wpList_append_run rfl (.tmp 5) (.tmp 6) 64 rfl _ _ _ w3 rfl rfl hrun ?_)
    go_ret
    exact ⟨A3, c3, rfl, HX.out⟩
/-- The works that are prepared have turned. -/
theorem ResAt.pturn {w w' : World} {g N N' : Nat} {cs : Array Value} {S : RS} {pr' : List Int} (h : ResAt w g cs S N) (hg : w.grownBy w' (some g)) {A : Option Addr} {n c : Nat} (hb : Blk w' g 66 (cs.setIfInBounds 37 (.slice A n c))) (hn : n = pr'.length) (hc : n ≤ c ∧ c ≤ 9223372036854775807) (hat : IntAt w' A pr') (hs : 37 < cs.size) (hN : N ≤ N' ∧ pr'.length ≤ N') : ResO w g { S with pr := pr' } N' w' := by
  have hne : ∀ i, i ≠ 37 → (cs.setIfInBounds 37 (.slice A n c))[i]? = cs[i]? := fun i hi => Array.getElem?_setIfInBounds_ne (fun e => hi e.symm)
  refine ⟨⟨_, (kpart h.kv hg hb (fun i hi => hne i (by omega))).more hN.1, (qpart h.qu hg hb (fun i h1 h2 => hne i (by omega))).more hN.1, ⟨A, n, c, ?_, hn, hc.1, hc.2, hat⟩, hN.2⟩, hg⟩
  rw [Array.getElem?_setIfInBounds_self_of_lt hs]
def holdR (S : RS) (n : Int) (q : Nat) : RS := if 0 < q then { S with pr := S.pr ++ [n] } else S
set_option maxRecDepth 100000 in
set_option maxHeartbeats 1000000 in
theorem hold_any (g : Nat) (cs : Array Value) (S : RS) (N : Nat) (n : Int) (A : Option Addr) (q c : Nat) (w : World) (h : ResAt w g cs S N) (hN : N < 300000) :
    Calls Try.prog 27 #[.pointer (some ⟨g, 0, none⟩), .int .i64 n, .slice A q c] w fun e w' => e = .returned (.tuple #[]) ∧ ResO w g (holdR S n q) (N + 1) w' := by
  by_cases hq : 0 < q
  · have hqI : (0 : Int) < (q : Int) := by omega
    unfold holdR
    rw [if_pos hq]
    obtain ⟨PA, pn, pc, h1, h2, h3, h4, h5⟩ := h.pr
    have hsz : 37 < cs.size := by
      rcases Nat.lt_or_ge 37 cs.size with h | h
      · exact h
      · rw [Array.getElem?_eq_none h] at h1; cases h1
    have c37 := (h.kv.bk.cell 37).trans h1
    have hpn : pn ≤ 300000 := by have := h.ln; omega
    have HC := Lib.hid (zclone_any PA S.pr pn pc w (Lib.hid h2) (by omega) h5)
    have H := Lib.hid (And.intro h (And.intro h2 hsz))
    clear h h1 h2 h3 h4 h5 hsz hq
    go_enter Try.func27, Try.ntmps27
    go_wp2_with fail
    refine HC.out.mono ?_
    rintro e w1 ⟨A2, c2, rfl, own, b1⟩
    obtain ⟨h, h2, hsz⟩ := H.out
    have hgl := h.lt
    have bz := ba w1 (.cells #[.int .i64 n] 3)
    have own2 : OwnZ (w1.alloc (.cells #[.int .i64 n] 3)) w.heap.size A2 c2 S.pr := World.ownsRow.kept own (lbelow_grown bz none) (by rcases (Value.slice A2 S.pr.length c2).ownBlock with _ | r; exact .inl rfl; exact .inr (fun e => by cases e))
    have hs1 := b1.size
    have hs2 := bz.size
    obtain ⟨v', w3, hrun, hown, hg3, _⟩ := z_app own2 pn h2 (by omega) w1.heap.size 0 1 1 [n] rfl (by omega) (by omega) (fun i hi => by
      obtain rfl : i = 0 := by simpa using hi
      exact (Blk.new w1 3 #[.int .i64 n]).cell 0)
    obtain ⟨g3, c3, rfl⟩ := Joins.ownsRow_form hown (by omega)
    have hown3 : OwnZ w3 w.heap.size (some ⟨g3, 0, none⟩) c3 (S.pr ++ [n]) := by
      unfold OwnZ
      rw [List.length_append, ← h2]
      exact hown
    have bel3 : Below w.heap.size w w3 := (bt b1 bz).grown hg3 (by omega) (fun r e => (own2.lt' r e).1)
    have h3 := h.below bel3
    have e37 : w3.cell? ⟨g, 37, none⟩ = some (.slice PA pn pc) := (bel3.cell (p := ⟨g, 37, none⟩) hgl).trans c37
    have f37 := h3.kv.bk.frozen 37
    have hgs := lgrown_set w3 ⟨g, 37, none⟩ (.slice (some ⟨g3, 0, none⟩) (pn + 1) c3)
    have hcap := hown3.cap
    have hln : (S.pr ++ [n]).length = pn + 1 := by rw [List.length_append, ← h2]; rfl
    have hO := h3.pturn (pr' := S.pr ++ [n]) (N' := N + 1) hgs (A := some ⟨g3, 0, none⟩) (n := pn + 1) (c := c3) (h3.kv.bk.set_ 37 _) hln.symm ⟨by rw [← hln]; exact hcap.1, hcap.2⟩ (hown3.at_.kept hgs h3.kv.bk (by decide)) hsz ⟨by omega, by rw [hln]; have := h.ln; omega⟩
    have HX : Hid (ResO w g { S with pr := S.pr ++ [n] } (N + 1) (w3.setCell ⟨g, 37, none⟩ (.slice (some ⟨g3, 0, none⟩) (pn + 1) c3))) := Lib.hid (ResO.from (lbelow_grown bel3 _) hO)
    clear h h2 hsz own own2 bz hown hown3 hg3 bel3 h3 hgs hcap hln hO b1 hs1 hs2
    go_wp2_with (at_builtin; refine wpList_append_run rfl (.tmp 14) (.tmp 16) 64 rfl _ _ _ w3 rfl rfl hrun ?_)
    go_end0
    exact ⟨rfl, HX.out⟩
  · have hqI : ¬ (0 : Int) < (q : Int) := by omega
    unfold holdR
    rw [if_neg hq]
    have HX := Lib.hid (ResO.same (h.more (Nat.le_succ _)) (Below.refl _ _))
    clear h hq
    go_enter Try.func27, Try.ntmps27
    go_wp2
    go_end0
    exact ⟨rfl, HX.out⟩
def putR (S : RS) (n y : Int) (v : Nat) : Int × RS := if openR S n ≠ 0 then (openR S n, S) else ((changeM S.K n ⟨1, y, v⟩).1, { S with K := (changeM S.K n ⟨1, y, v⟩).2 })
set_option maxRecDepth 100000 in
set_option maxHeartbeats 1000000 in
theorem resput_any (g : Nat) (cs : Array Value) (S : RS) (N : Nat) (n y : Int) (v : Nat) (w : World) (h : ResAt w g cs S N) (hN : N < 300000) (hn : i64ok n) (hy : i64ok y) (hB : ∀ b, w.heap.size ≤ b → S.K.B b) :
    Calls Try.prog 11 #[.pointer (some ⟨g, 0, none⟩), .int .i64 n, .int .i64 y, .int .u64 (v : Nat)] w fun e w' => e = .returned (.int .i64 (putR S n y v).1) ∧ ResO w g (putR S n y v).2 (N + 1) w' := by
  have HO := Lib.hid (resopen_any g cs S N n w h (by omega))
  have HP := Lib.hid (kput_any g 66 cs S.K N n y v w h.kv hN hn hy hB)
  have H := Lib.hid h
  obtain ⟨er, her⟩ : ∃ er, er = openR S n := ⟨_, rfl⟩
  rw [← her] at HO
  by_cases h0 : er = 0
  · have hM : putR S n y v = ((changeM S.K n ⟨1, y, v⟩).1, { S with K := (changeM S.K n ⟨1, y, v⟩).2 }) := by unfold putR; rw [if_neg (by rw [← her, h0]; simp)]
    rw [hM]
    subst h0
    obtain ⟨⟨re, rK⟩, hR⟩ : ∃ R, R = changeM S.K n ⟨1, y, v⟩ := ⟨_, rfl⟩
    rw [← hR] at HP ⊢
    dsimp only at HP ⊢
    clear h hB hM hR her hn hy
    go_enter Try.func11, Try.ntmps11
    go_wp2_with fail
    refine HO.out.mono ?_
    rintro e w1 ⟨rfl, rfl⟩
    go_wp2_with fail
    refine HP.out.mono ?_
    rintro e w1 ⟨rfl, hk⟩
    have HX := Lib.hid (H.out.kturn hk (Nat.le_succ _))
    clear hk
    go_wp2
    go_ret
    exact ⟨rfl, HX.out⟩
  · have hM : putR S n y v = (er, S) := by unfold putR; rw [if_pos (by rw [← her]; exact h0), her]
    rw [hM]
    have hb : (er != 0) = true := by simpa using h0
    have HX := Lib.hid (ResO.same (h.more (Nat.le_succ _)) (Below.refl _ _))
    clear h hB hM her hn hy h0
    go_enter Try.func11, Try.ntmps11
    go_wp2_with fail
    refine HO.out.mono ?_
    rintro e w1 ⟨rfl, rfl⟩
    go_wp2
    go_ret
    exact ⟨rfl, HX.out⟩
def pushR (S : RS) (n : Int) (v : Nat) : Int × RS := if openR S n ≠ 0 then (openR S n, S) else ((Qu.putM S.Q n v).1, { S with Q := (Qu.putM S.Q n v).2 })
set_option maxRecDepth 100000 in
set_option maxHeartbeats 1000000 in
theorem respush_any (g : Nat) (cs : Array Value) (S : RS) (N : Nat) (n : Int) (v : Nat) (w : World) (h : ResAt w g cs S N) (hN : N < 300000) (hn : i64ok n) (hB : ∀ b, w.heap.size ≤ b → S.Q.B b) :
    Calls Try.prog 12 #[.pointer (some ⟨g, 0, none⟩), .int .i64 n, .int .u64 (v : Nat)] w fun e w' => e = .returned (.int .i64 (pushR S n v).1) ∧ ResO w g (pushR S n v).2 (N + 1) w' := by
  have HO := Lib.hid (resopen_any g cs S N n w h (by omega))
  have HP := Lib.hid (Qu.put_any g 34 66 cs S.Q N n v w h.qu hN hn hB)
  have H := Lib.hid h
  obtain ⟨er, her⟩ : ∃ er, er = openR S n := ⟨_, rfl⟩
  rw [← her] at HO
  by_cases h0 : er = 0
  · have hM : pushR S n v = ((Qu.putM S.Q n v).1, { S with Q := (Qu.putM S.Q n v).2 }) := by unfold pushR; rw [if_neg (by rw [← her, h0]; simp)]
    rw [hM]
    subst h0
    obtain ⟨⟨re, rQ⟩, hR⟩ : ∃ R, R = Qu.putM S.Q n v := ⟨_, rfl⟩
    rw [← hR] at HP ⊢
    dsimp only at HP ⊢
    clear h hB hM hR her hn
    go_enter Try.func12, Try.ntmps12
    go_wp2_with fail
    refine HO.out.mono ?_
    rintro e w1 ⟨rfl, rfl⟩
    go_wp2_with fail
    refine HP.out.mono ?_
    rintro e w1 ⟨rfl, hk⟩
    have HX := Lib.hid (H.out.qturn hk (Nat.le_succ _))
    clear hk
    go_wp2
    go_ret
    exact ⟨rfl, HX.out⟩
  · have hM : pushR S n v = (er, S) := by unfold pushR; rw [if_pos (by rw [← her]; exact h0), her]
    rw [hM]
    have hb : (er != 0) = true := by simpa using h0
    have HX := Lib.hid (ResO.same (h.more (Nat.le_succ _)) (Below.refl _ _))
    clear h hB hM her hn h0
    go_enter Try.func12, Try.ntmps12
    go_wp2_with fail
    refine HO.out.mono ?_
    rintro e w1 ⟨rfl, rfl⟩
    go_wp2
    go_ret
    exact ⟨rfl, HX.out⟩
end Go.Proofs.Ytlliaihmfimdoaa.Re
