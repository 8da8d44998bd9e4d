/- Layer 13: a store is opened; a change. -/
import Derived.Test.YtnpoicgincndkaaBf
namespace Go.Proofs.Ytnpoicgincndkaa
open Go.RowKit Go.Maps
set_option linter.unusedVariables false
set_option linter.unusedSimpArgs false

theorem fieldW1 (A : Option Addr) (q c : Nat) (p : Bool) (w : World) : (Instr.field 81 (.agg #[.slice A q c, .bool p]) 1).run Try.prog w = .ok (.bool p) w := by kernel_rfl
theorem fieldW0 (A : Option Addr) (q c : Nat) (p : Bool) (w : World) : (Instr.field 81 (.agg #[.slice A q c, .bool p]) 0).run Try.prog w = .ok (.agg #[.slice A q c]) w := by kernel_rfl
theorem fieldC0 (A : Option Addr) (q c : Nat) (w : World) : (Instr.field 79 (.agg #[.slice A q c]) 0).run Try.prog w = .ok (.slice A q c) w := by kernel_rfl
/-- A store behind a call. -/
def KvO (w : World) (g : Nat) (tt : TypeId) (cs : Array Value) (S : KS) (N : Nat) (w' : World) : Prop := (∃ cs', KvAt w' g tt cs' S N ∧ Keep cs cs') ∧ w.grownBy w' (some g)
theorem KvO.same {w w' : World} {g : Nat} {tt : TypeId} {cs : Array Value} {S : KS} {N : Nat} (h : KvAt w g tt cs S N) (hb : Below w.heap.size w w') : KvO w g tt cs S N w' := ⟨⟨cs, h.below hb, Keep.rfl'⟩, lbelow_grown hb _⟩
theorem KvO.from {a w w' : World} {g : Nat} {tt : TypeId} {cs cs1 : Array Value} {S : KS} {N : Nat} (hk : Keep cs cs1) (hg : a.grownBy w (some g)) (h : KvO w g tt cs1 S N w') : KvO a g tt cs S N w' := by
  obtain ⟨⟨cs', h1, h2⟩, h3⟩ := h
  exact ⟨⟨cs', h1, hk.trans h2⟩, hg.trans h3⟩
def openM (S : KS) (n y : Int) (a : Bool) : Int × KS :=
  if n < 1 ∨ keyB y = false then (1, S) else if (curW S n).2 = true then (7, S) else ((takeL S.L n y a).1, { S with L := (takeL S.L n y a).2 })
theorem open_nil (n y : Int) (a : Bool) (w : World) : Calls Try.prog 45 #[.pointer none, .int .i64 n, .int .i64 y, .bool a] w fun e w' => e = .returned (.int .i64 6) ∧ w = w' := by
  go_enter Try.func45, Try.ntmps45
  go_wp2
  go_ret
  exact ⟨rfl, rfl⟩
set_option maxRecDepth 100000 in
set_option maxHeartbeats 1000000 in
theorem open_any (g : Nat) (tt : TypeId) (cs : Array Value) (S : KS) (N : Nat) (n y : Int) (a : Bool) (w : World) (h : KvAt w g tt cs S N) (hn : i64ok n) (hy : i64ok y) :
    Calls Try.prog 45 #[.pointer (some ⟨g, 0, none⟩), .int .i64 n, .int .i64 y, .bool a] w fun e w' => e = .returned (.int .i64 (openM S n y a).1) ∧ KvO w g tt cs (openM S n y a).2 N w' := by
  by_cases h1 : n < 1
  · have hM : openM S n y a = (1, S) := by unfold openM; rw [if_pos (.inl h1)]
    rw [hM]
    have HF := Lib.hid (KvO.same h (Below.refl _ _))
    clear h hM
    go_enter Try.func45, Try.ntmps45
    go_wp2
    go_ret
    exact ⟨rfl, HF.out⟩
  · rcases hk : keyB y with _ | _
    · have hM : openM S n y a = (1, S) := by unfold openM; rw [if_pos (.inr hk)]
      rw [hM]
      have HF := Lib.hid (KvO.same h (Below.refl _ _))
      have HK := Lib.hid hk
      clear h hM hk
      go_enter Try.func45, Try.ntmps45
      go_wp2_with fail
      refine (kisKey_any y false HK.out w).mono ?_
      rintro e w1 ⟨rfl, rfl⟩
      go_wp2
      go_ret
      exact ⟨rfl, HF.out⟩
    · obtain ⟨m, A, q, c, h32, hq, hc, r1, r2⟩ := h.look hn
      have c32 := (h.bk.cell 32).trans h32
      have HK := Lib.hid hk
      rcases hp : (curW S n).2 with _ | _
      · have hM : openM S n y a = ((takeL S.L n y a).1, { S with L := (takeL S.L n y a).2 }) := by
          unfold openM; rw [if_neg (by simp [h1, hk]), if_neg (by simp [hp])]
        rw [hM]
        rw [hp] at r1
        have hf1 := fieldW1 A q c false
        have HT := Lib.hid (take_any g 33 tt cs S.L n y a w h.tab hy hn)
        have HS := Lib.hid h
        clear h hM hk hp hq hc r2 h32
        go_enter Try.func45, Try.ntmps45
        go_wp2_with fail
        refine (kisKey_any y true HK.out w).mono ?_
        rintro e w1 ⟨rfl, rfl⟩
        go_wp2_with fail
        refine HT.out.mono ?_
        rintro e w1 ⟨rfl, ht, hg⟩
        have HF := Lib.hid (And.intro (HS.out.locked hg ht) hg)
        clear ht hg
        go_wp2
        go_ret
        exact ⟨rfl, HF.out⟩
      · have hM : openM S n y a = (7, S) := by unfold openM; rw [if_neg (by simp [h1, hk]), if_pos hp]
        rw [hM]
        rw [hp] at r1
        have hf1 := fieldW1 A q c true
        have HF := Lib.hid (KvO.same h (Below.refl _ _))
        clear h hM hk hp hq hc r2 h32
        go_enter Try.func45, Try.ntmps45
        go_wp2_with fail
        refine (kisKey_any y true HK.out w).mono ?_
        rintro e w1 ⟨rfl, rfl⟩
        go_wp2
        go_ret
        exact ⟨rfl, HF.out⟩
/-- A change of a work. -/
def changeM (S : KS) (n : Int) (x : Ch) : Int × KS :=
  if (openM S n x.y true).1 = 0 then (0, { (openM S n x.y true).2 with W := updW S.W n (some (withL (curW S n).1 x, false)) }) else openM S n x.y true
theorem openM_B (S : KS) (n y : Int) (a : Bool) : (openM S n y a).2.B = S.B := by
  unfold openM; split
  · rfl
  · split <;> rfl
theorem openM_W (S : KS) (n y : Int) (a : Bool) : (openM S n y a).2.W = S.W ∧ (openM S n y a).2.V = S.V := by
  unfold openM; split
  · exact ⟨rfl, rfl⟩
  · split <;> exact ⟨rfl, rfl⟩
theorem takeL_err (L : List LRow) (o k : Int) (a : Bool) : (takeL L o k a).1 = 0 ∨ (takeL L o k a).1 = 120 ∨ (takeL L o k a).1 = 5 := by
  unfold takeL; split
  · exact .inr (.inl rfl)
  · split
    · exact .inr (.inr rfl)
    · exact .inl rfl
theorem openM_err (S : KS) (n y : Int) (a : Bool) : (openM S n y a).1 = 0 ∨ (openM S n y a).1 = 1 ∨ (openM S n y a).1 = 7 ∨ (openM S n y a).1 = 120 ∨ (openM S n y a).1 = 5 := by
  unfold openM; split
  · exact .inr (.inl rfl)
  · split
    · exact .inr (.inr (.inl rfl))
    · rcases takeL_err S.L n y a with h | h | h <;> simp [h]
theorem openM_ok {S : KS} {n y : Int} {a : Bool} (h : (openM S n y a).1 = 0) : (curW S n).2 = false ∧ 1 ≤ n ∧ keyB y = true := by
  unfold openM at h
  split at h
  · cases h
  · rename_i h1
    split at h
    · cases h
    · rename_i h2
      refine ⟨by simpa using h2, by omega, ?_⟩
      rcases hk : keyB y with _ | _
      · exact absurd (.inr hk) h1
      · rfl
theorem change_nil (n : Int) (x : Ch) (w : World) : Calls Try.prog 39 #[.pointer none, .int .i64 n, .agg #[.int .i64 x.k, .int .i64 x.y, .int .u64 (x.v : Nat)]] w fun e w' => e = .returned (.int .i64 6) ∧ Below w.heap.size w w' := by
  have hb := ba w (.cells #[.int .i64 x.k, .int .i64 x.y, .int .u64 (x.v : Nat)] 47)
  have kb := Blk.new w 47 #[.int .i64 x.k, .int .i64 x.y, .int .u64 (x.v : Nat)]
  have c1 := kb.cell 1
  simp only [List.getElem?_toArray, List.getElem?_cons_zero, List.getElem?_cons_succ] at c1
  go_enter Try.func39, Try.ntmps39
  go_wp2_with fail
  refine (open_nil n x.y true _).mono ?_
  rintro e w1 ⟨rfl, rfl⟩
  go_wp2
  go_ret
  exact ⟨rfl, hb⟩
set_option maxRecDepth 100000 in
set_option maxHeartbeats 2000000 in
theorem change_any (g : Nat) (tt : TypeId) (cs : Array Value) (S : KS) (N : Nat) (n : Int) (x : Ch) (w : World) (h : KvAt w g tt cs S N) (hN : N < 300000) (hn : i64ok n) (hy : i64ok x.y) (hB : ∀ b, w.heap.size ≤ b → S.B b) :
    Calls Try.prog 39 #[.pointer (some ⟨g, 0, none⟩), .int .i64 n, .agg #[.int .i64 x.k, .int .i64 x.y, .int .u64 (x.v : Nat)]] w fun e w' => e = .returned (.int .i64 (changeM S n x).1) ∧ KvO w g tt cs (changeM S n x).2 (N + 1) w' := by
  obtain ⟨w1, hw1⟩ : ∃ w1, w1 = w.alloc (.cells #[.int .i64 x.k, .int .i64 x.y, .int .u64 (x.v : Nat)] 47) := ⟨_, rfl⟩
  have b1 : Below w.heap.size w w1 := by rw [hw1]; exact ba _ _
  have k1 : Blk w1 w.heap.size 47 #[.int .i64 x.k, .int .i64 x.y, .int .u64 (x.v : Nat)] := by rw [hw1]; exact Blk.new _ _ _
  have h1 := h.below b1
  have c1 := k1.cell 1
  simp only [List.getElem?_toArray, List.getElem?_cons_zero, List.getElem?_cons_succ] at c1
  have hgl := h.lt
  have HO := Lib.hid (open_any g tt cs S N n x.y true w1 h1 hn hy)
  have HW := Lib.hid hw1
  have HK := Lib.hid (And.intro k1 (And.intro b1 (And.intro hn hgl)))
  rw [hw1] at c1
  clear hw1 b1 k1 h1 h hgl hn
  rcases he : ((openM S n x.y true).1 == 0) with _ | _
  · have he' : (openM S n x.y true).1 ≠ 0 := by simpa using he
    have hM : changeM S n x = openM S n x.y true := by unfold changeM; rw [if_neg he']
    rw [hM]
    obtain ⟨e0, he0⟩ : ∃ e0, e0 = (openM S n x.y true).1 := ⟨_, rfl⟩
    rw [← he0] at HO he ⊢
    have hne : (e0 != 0) = true := by simp [bne, he]
    clear he' hM he0 hB
    go_enter Try.func39, Try.ntmps39
    go_wp2_with fail
    rw [← HW.out]
    refine HO.out.mono ?_
    rintro e w2 ⟨rfl, ⟨⟨cs', hk, hkp⟩, hg⟩⟩
    have HF := Lib.hid (KvO.from (a := w) (cs := cs) Keep.rfl' (lbelow_grown HK.out.2.1 (some g)) ⟨⟨cs', hk.more (Nat.le_succ N), hkp⟩, hg⟩)
    clear hk hkp hg c1
    go_wp2
    go_ret
    exact ⟨rfl, HF.out⟩
  · have he' : (openM S n x.y true).1 = 0 := by simpa using he
    have hM : changeM S n x = (0, { (openM S n x.y true).2 with W := updW S.W n (some (withL (curW S n).1 x, false)) }) := by unfold changeM; rw [if_pos he']
    rw [hM]
    have hok := openM_ok he'
    have hW := openM_W S n x.y true
    rw [he'] at HO
    obtain ⟨S1, hS1⟩ : ∃ S1, S1 = (openM S n x.y true).2 := ⟨_, rfl⟩
    rw [← hS1] at HO hW ⊢
    have hcur : curW S1 n = curW S n := by unfold curW; rw [hW.1]
    have HC := Lib.hid (And.intro hcur (And.intro hok hW))
    have HBB : Hid (S1.B = S.B ∧ ∀ b, w.heap.size ≤ b → S.B b) := Lib.hid ⟨by rw [hS1]; exact openM_B S n x.y true, hB⟩
    clear he he' hM hok hW hS1 hcur hB
    go_enter Try.func39, Try.ntmps39
    go_wp2_with fail
    rw [← HW.out]
    refine HO.out.mono ?_
    rintro e w2 ⟨rfl, ⟨⟨cs1, hk1, hkp⟩, hg2⟩⟩
    clear c1
    -- what is looked up
    obtain ⟨m, A, q, c, h32, hq, hc, r1, _⟩ := hk1.look HK.out.2.2.1
    rw [HC.out.1] at hq hc r1
    rw [HC.out.2.1.1] at r1
    have c32 := (hk1.bk.cell 32).trans h32
    have hql : q ≤ N := by
      rw [hq]
      unfold curW
      rcases hW : S.W n with _ | ⟨l, p⟩
      · exact Nat.zero_le _
      · exact (hk1.le n l p (by rw [HC.out.2.2.1]; exact hW)).1
    have k2 := HK.out.1.kept hg2 (fun e => by have := Option.some.inj e; have := HK.out.2.2.2; omega)
    obtain ⟨w3, hw3⟩ : ∃ w3, w3 = w2.alloc (.cells #[.slice A q c, .bool false] 81) := ⟨_, rfl⟩
    have b3 : Below w2.heap.size w2 w3 := by rw [hw3]; exact ba _ _
    have kw : Blk w3 w2.heap.size 81 #[.slice A q c, .bool false] := by rw [hw3]; exact Blk.new _ _ _
    have k3 := k2.below b3 k2.lt
    have HWi := Lib.hid (with_any A (curW S n).1 q c x (Lib.hid hq) (by omega) w3 (hc.below b3))
    have d0 := kw.cell 0
    have e0 := k3.cell 0
    have e1 := k3.cell 1
    have e2 := k3.cell 2
    simp only [List.getElem?_toArray, List.getElem?_cons_zero, List.getElem?_cons_succ] at d0 e0 e1 e2
    have H3 := Lib.hid (And.intro (hk1.below b3) (And.intro hkp (And.intro (show w.grownBy w3 (some g) from ((lbelow_grown HK.out.2.1 (some g)).trans hg2).trans (lbelow_grown b3 _)) (And.intro kw (And.intro (show g ≠ w2.heap.size by have := hk1.lt; omega) (And.intro hql (And.intro hq (And.intro (show w.heap.size ≤ w2.heap.size from Nat.le_trans HK.out.2.1.size hg2.size) b3.size))))))))
    have HW3 := Lib.hid hw3
    rw [hw3] at d0 e0 e1 e2
    clear hw3 b3 kw k3 k2 hk1 hkp hg2 hq hc h32 hql
    go_wp2_with fail
    rw [← HW3.out]
    refine HWi.out.mono ?_
    rintro e w4 ⟨⟨A4, q4, c4, rfl, hq4, hc4⟩, b4⟩
    clear d0 e0 e1 e2 r1 c32
    obtain ⟨hk3, hkp, hg3, kw, hgne, hql, hq, hsz, hsz3⟩ := H3.out
    have kw4 := kw.below b4 kw.lt
    obtain ⟨w5, hw5⟩ : ∃ w5, w5 = w4.setCell ⟨w2.heap.size, 0, none⟩ (.slice A4 q4 c4) := ⟨_, rfl⟩
    have kw5 : Blk w5 w2.heap.size 81 #[.slice A4 q4 c4, .bool false] := by rw [hw5]; simpa using kw4.set_ 0 (.slice A4 q4 c4)
    have g5 : w4.grownBy w5 (some w2.heap.size) := by rw [hw5]; exact lgrown_set _ _ _
    have hk5 := (hk3.below b4).far g5 hgne kw4 (of_decide_eq_true (by kernel_rfl))
    have hc5 := hc4.kept g5 kw4 (of_decide_eq_true (by kernel_rfl))
    have hl4 := withL_len (curW S n).1 x
    have HL := Lib.hid (lay_any g tt cs1 S1 N n A4 (withL (curW S n).1 x) q4 c4 false w5 hk5 (by omega) HK.out.2.2.1 hq4 (by omega) (fun z hz => by
      have h0 : ∀ z ∈ (curW S n).1, keyB z.y = true := by
        unfold curW
        rcases hW : S.W n with _ | ⟨l, p⟩
        · intro z hz; simp at hz
        · exact (hk5.le n l p (by rw [HC.out.2.2.1]; exact hW)).2
      unfold withL at hz
      split at hz
      · rcases List.mem_or_eq_of_mem_set hz with h | rfl
        · exact h0 z h
        · exact HC.out.2.1.2.2
      · rcases List.mem_append.1 hz with h | h
        · exact h0 z h
        · rw [List.mem_singleton] at h; subst h; exact HC.out.2.1.2.2) (hc5.mono fun b hb _ => by rw [HBB.out.1]; exact HBB.out.2 b (by omega)))
    have f0 := kw4.frozen 0
    have d0 := kw4.cell 0
    have e0 := kw5.cell 0
    have e1 := kw5.cell 1
    simp only [List.getElem?_toArray, List.getElem?_cons_zero, List.getElem?_cons_succ] at d0 e0 e1
    have gw5 : w.grownBy w5 (some g) := by
      have h4 := hg3.trans (lbelow_grown b4 (some g))
      exact h4.andThen g5 (fun j e => by cases e; exact .inl hsz)
    have HG := Lib.hid (And.intro gw5 hkp)
    have HW5 := Lib.hid hw5
    rw [hw5] at e0 e1
    clear hw5 kw5 g5 hk5 hc5 kw4 hk3 hkp hg3 kw hgne hql hq hsz hsz3 b4 hq4 hc4 hl4 gw5
    go_wp2_with fail
    rw [← HW5.out]
    refine HL.out.mono ?_
    rintro e w6 ⟨rfl, ⟨cs6, hk6, hkp6⟩, hg6⟩
    have HF := Lib.hid (KvO.from HG.out.2 HG.out.1 ⟨⟨cs6, hk6, hkp6⟩, hg6⟩)
    have e9 : ({ S1 with W := updW S1.W n (some (withL (curW S n).1 x, false)) } : KS) = { S1 with W := updW S.W n (some (withL (curW S n).1 x, false)) } := by rw [HC.out.2.2.1]
    rw [e9] at HF
    clear hk6 hkp6 hg6 d0 f0 e0 e1
    go_wp2
    go_ret
    exact ⟨rfl, HF.out⟩
end Go.Proofs.Ytnpoicgincndkaa
