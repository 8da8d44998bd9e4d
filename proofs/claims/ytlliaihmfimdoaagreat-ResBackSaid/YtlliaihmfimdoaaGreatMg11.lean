/- Parts Bg Bh Bi InvJ of one proof. -/
import Derived.Test.YtlliaihmfimdoaaGreatMg10
import Derived.Test.YtlliaihmfimdoaaGreatMg06
namespace Go.Proofs.YtlliaihmfimdoaaGreat
open Go.RowKit Go.Maps
set_option linter.unusedVariables false
set_option linter.unusedSimpArgs false

theorem fieldW1 (A : Option Addr) (q c : Nat) (p : Bool) (w : World) : (Instr.field 138 (.agg #[.slice A q c, .bool p]) 1).run Tryz.prog w = .ok (.bool p) w := by kernel_rfl
theorem fieldW0 (A : Option Addr) (q c : Nat) (p : Bool) (w : World) : (Instr.field 138 (.agg #[.slice A q c, .bool p]) 0).run Tryz.prog w = .ok (.agg #[.slice A q c]) w := by kernel_rfl
theorem fieldC0 (A : Option Addr) (q c : Nat) (w : World) : (Instr.field 136 (.agg #[.slice A q c]) 0).run Tryz.prog w = .ok (.slice A q c) w := by kernel_rfl
/-- A store behind a call. -/
def KvO (w : World) (g : Nat) (tt : TypeId) (cs : Array Value) (S : KS) (N : Nat) (w' : World) : Prop := (∃ cs', KvAt w' g tt cs' S N ∧ Keep cs cs') ∧ w.grownBy w' (some g)
theorem KvO.same {w w' : World} {g : Nat} {tt : TypeId} {cs : Array Value} {S : KS} {N : Nat} (h : KvAt w g tt cs S N) (hb : Below w.heap.size w w') : KvO w g tt cs S N w' := ⟨⟨cs, h.below hb, Keep.rfl'⟩, lbelow_grown hb _⟩
theorem KvO.from {a w w' : World} {g : Nat} {tt : TypeId} {cs cs1 : Array Value} {S : KS} {N : Nat} (hk : Keep cs cs1) (hg : a.grownBy w (some g)) (h : KvO w g tt cs1 S N w') : KvO a g tt cs S N w' := by
  obtain ⟨⟨cs', h1, h2⟩, h3⟩ := h
  exact ⟨⟨cs', h1, hk.trans h2⟩, hg.trans h3⟩
def openM (S : KS) (n y : Int) (a : Bool) : Int × KS :=
  if n < 1 ∨ keyB y = false then (1, S) else if (curW S n).2 = true then (7, S) else ((takeL S.L n y a).1, { S with L := (takeL S.L n y a).2 })
theorem open_nil (n y : Int) (a : Bool) (w : World) : Calls Tryz.prog 124 #[.pointer none, .int .i64 n, .int .i64 y, .bool a] w fun e w' => e = .returned (.int .i64 6) ∧ w = w' := by
  go_enter Tryz.func124, Tryz.ntmps124
  go_wp2
  go_ret
  exact ⟨rfl, rfl⟩
set_option maxRecDepth 100000 in
set_option maxHeartbeats 1000000 in
theorem open_any (g : Nat) (tt : TypeId) (cs : Array Value) (S : KS) (N : Nat) (n y : Int) (a : Bool) (w : World) (h : KvAt w g tt cs S N) (hn : i64ok n) (hy : i64ok y) :
    Calls Tryz.prog 124 #[.pointer (some ⟨g, 0, none⟩), .int .i64 n, .int .i64 y, .bool a] w fun e w' => e = .returned (.int .i64 (openM S n y a).1) ∧ KvO w g tt cs (openM S n y a).2 N w' := by
  by_cases h1 : n < 1
  · have hM : openM S n y a = (1, S) := by unfold openM; rw [if_pos (.inl h1)]
    rw [hM]
    have HF := Lib.hid (KvO.same h (Below.refl _ _))
    clear h hM
    go_enter Tryz.func124, Tryz.ntmps124
    go_wp2
    go_ret
    exact ⟨rfl, HF.out⟩
  · rcases hk : keyB y with _ | _
    · have hM : openM S n y a = (1, S) := by unfold openM; rw [if_pos (.inr hk)]
      rw [hM]
      have HF := Lib.hid (KvO.same h (Below.refl _ _))
      have HK := Lib.hid hk
      clear h hM hk
      go_enter Tryz.func124, Tryz.ntmps124
      go_wp2_with fail
      refine (kisKey_any y false HK.out w).mono ?_
      rintro e w1 ⟨rfl, rfl⟩
      go_wp2
      go_ret
      exact ⟨rfl, HF.out⟩
    · obtain ⟨m, A, q, c, h32, hq, hc, r1, r2⟩ := h.look hn
      have c32 := (h.bk.cell 32).trans h32
      have HK := Lib.hid hk
      rcases hp : (curW S n).2 with _ | _
      · have hM : openM S n y a = ((takeL S.L n y a).1, { S with L := (takeL S.L n y a).2 }) := by
          unfold openM; rw [if_neg (by simp [h1, hk]), if_neg (by simp [hp])]
        rw [hM]
        rw [hp] at r1
        have hf1 := fieldW1 A q c false
        have HT := Lib.hid (take_any g 33 tt cs S.L n y a w h.tab hy hn)
        have HS := Lib.hid h
        clear h hM hk hp hq hc r2 h32
        go_enter Tryz.func124, Tryz.ntmps124
        go_wp2_with fail
        refine (kisKey_any y true HK.out w).mono ?_
        rintro e w1 ⟨rfl, rfl⟩
        go_wp2_with fail
        refine HT.out.mono ?_
        rintro e w1 ⟨rfl, ht, hg⟩
        have HF := Lib.hid (And.intro (HS.out.locked hg ht) hg)
        clear ht hg
        go_wp2
        go_ret
        exact ⟨rfl, HF.out⟩
      · have hM : openM S n y a = (7, S) := by unfold openM; rw [if_neg (by simp [h1, hk]), if_pos hp]
        rw [hM]
        rw [hp] at r1
        have hf1 := fieldW1 A q c true
        have HF := Lib.hid (KvO.same h (Below.refl _ _))
        clear h hM hk hp hq hc r2 h32
        go_enter Tryz.func124, Tryz.ntmps124
        go_wp2_with fail
        refine (kisKey_any y true HK.out w).mono ?_
        rintro e w1 ⟨rfl, rfl⟩
        go_wp2
        go_ret
        exact ⟨rfl, HF.out⟩
/-- A change of a work. -/
def changeM (S : KS) (n : Int) (x : Ch) : Int × KS :=
  if (openM S n x.y true).1 = 0 then (0, { (openM S n x.y true).2 with W := updW S.W n (some (withL (curW S n).1 x, false)) }) else openM S n x.y true
theorem openM_B (S : KS) (n y : Int) (a : Bool) : (openM S n y a).2.B = S.B := by
  unfold openM; split
  · rfl
  · split <;> rfl
theorem openM_W (S : KS) (n y : Int) (a : Bool) : (openM S n y a).2.W = S.W ∧ (openM S n y a).2.V = S.V := by
  unfold openM; split
  · exact ⟨rfl, rfl⟩
  · split <;> exact ⟨rfl, rfl⟩
theorem takeL_err (L : List LRow) (o k : Int) (a : Bool) : (takeL L o k a).1 = 0 ∨ (takeL L o k a).1 = 120 ∨ (takeL L o k a).1 = 5 := by
  unfold takeL; split
  · exact .inr (.inl rfl)
  · split
    · exact .inr (.inr rfl)
    · exact .inl rfl
theorem openM_err (S : KS) (n y : Int) (a : Bool) : (openM S n y a).1 = 0 ∨ (openM S n y a).1 = 1 ∨ (openM S n y a).1 = 7 ∨ (openM S n y a).1 = 120 ∨ (openM S n y a).1 = 5 := by
  unfold openM; split
  · exact .inr (.inl rfl)
  · split
    · exact .inr (.inr (.inl rfl))
    · rcases takeL_err S.L n y a with h | h | h <;> simp [h]
theorem openM_ok {S : KS} {n y : Int} {a : Bool} (h : (openM S n y a).1 = 0) : (curW S n).2 = false ∧ 1 ≤ n ∧ keyB y = true := by
  unfold openM at h
  split at h
  · cases h
  · rename_i h1
    split at h
    · cases h
    · rename_i h2
      refine ⟨by simpa using h2, by omega, ?_⟩
      rcases hk : keyB y with _ | _
      · exact absurd (.inr hk) h1
      · rfl
theorem change_nil (n : Int) (x : Ch) (w : World) : Calls Tryz.prog 122 #[.pointer none, .int .i64 n, .agg #[.int .i64 x.k, .int .i64 x.y, .int .u64 (x.v : Nat)]] w fun e w' => e = .returned (.int .i64 6) ∧ Below w.heap.size w w' := by
  have hb := ba w (.cells #[.int .i64 x.k, .int .i64 x.y, .int .u64 (x.v : Nat)] 74)
  have kb := Blk.new w 74 #[.int .i64 x.k, .int .i64 x.y, .int .u64 (x.v : Nat)]
  have c1 := kb.cell 1
  simp only [List.getElem?_toArray, List.getElem?_cons_zero, List.getElem?_cons_succ] at c1
  go_enter Tryz.func122, Tryz.ntmps122
  go_wp2_with fail
  refine (open_nil n x.y true _).mono ?_
  rintro e w1 ⟨rfl, rfl⟩
  go_wp2
  go_ret
  exact ⟨rfl, hb⟩
set_option maxRecDepth 100000 in
set_option maxHeartbeats 2000000 in
theorem change_any (g : Nat) (tt : TypeId) (cs : Array Value) (S : KS) (N : Nat) (n : Int) (x : Ch) (w : World) (h : KvAt w g tt cs S N) (hN : N < 300000) (hn : i64ok n) (hy : i64ok x.y) (hB : ∀ b, w.heap.size ≤ b → S.B b) :
    Calls Tryz.prog 122 #[.pointer (some ⟨g, 0, none⟩), .int .i64 n, .agg #[.int .i64 x.k, .int .i64 x.y, .int .u64 (x.v : Nat)]] w fun e w' => e = .returned (.int .i64 (changeM S n x).1) ∧ KvO w g tt cs (changeM S n x).2 (N + 1) w' := by
  obtain ⟨w1, hw1⟩ : ∃ w1, w1 = w.alloc (.cells #[.int .i64 x.k, .int .i64 x.y, .int .u64 (x.v : Nat)] 74) := ⟨_, rfl⟩
  have b1 : Below w.heap.size w w1 := by rw [hw1]; exact ba _ _
  have k1 : Blk w1 w.heap.size 74 #[.int .i64 x.k, .int .i64 x.y, .int .u64 (x.v : Nat)] := by rw [hw1]; exact Blk.new _ _ _
  have h1 := h.below b1
  have c1 := k1.cell 1
  simp only [List.getElem?_toArray, List.getElem?_cons_zero, List.getElem?_cons_succ] at c1
  have hgl := h.lt
  have HO := Lib.hid (open_any g tt cs S N n x.y true w1 h1 hn hy)
  have HW := Lib.hid hw1
  have HK := Lib.hid (And.intro k1 (And.intro b1 (And.intro hn hgl)))
  rw [hw1] at c1
  clear hw1 b1 k1 h1 h hgl hn
  rcases he : ((openM S n x.y true).1 == 0) with _ | _
  · have he' : (openM S n x.y true).1 ≠ 0 := by simpa using he
    have hM : changeM S n x = openM S n x.y true := by unfold changeM; rw [if_neg he']
    rw [hM]
    obtain ⟨e0, he0⟩ : ∃ e0, e0 = (openM S n x.y true).1 := ⟨_, rfl⟩
    rw [← he0] at HO he ⊢
    have hne : (e0 != 0) = true := by simp [bne, he]
    clear he' hM he0 hB
    go_enter Tryz.func122, Tryz.ntmps122
    go_wp2_with fail
    rw [← HW.out]
    refine HO.out.mono ?_
    rintro e w2 ⟨rfl, ⟨⟨cs', hk, hkp⟩, hg⟩⟩
    have HF := Lib.hid (KvO.from (a := w) (cs := cs) Keep.rfl' (lbelow_grown HK.out.2.1 (some g)) ⟨⟨cs', hk.more (Nat.le_succ N), hkp⟩, hg⟩)
    clear hk hkp hg c1
    go_wp2
    go_ret
    exact ⟨rfl, HF.out⟩
  · have he' : (openM S n x.y true).1 = 0 := by simpa using he
    have hM : changeM S n x = (0, { (openM S n x.y true).2 with W := updW S.W n (some (withL (curW S n).1 x, false)) }) := by unfold changeM; rw [if_pos he']
    rw [hM]
    have hok := openM_ok he'
    have hW := openM_W S n x.y true
    rw [he'] at HO
    obtain ⟨S1, hS1⟩ : ∃ S1, S1 = (openM S n x.y true).2 := ⟨_, rfl⟩
    rw [← hS1] at HO hW ⊢
    have hcur : curW S1 n = curW S n := by unfold curW; rw [hW.1]
    have HC := Lib.hid (And.intro hcur (And.intro hok hW))
    have HBB : Hid (S1.B = S.B ∧ ∀ b, w.heap.size ≤ b → S.B b) := Lib.hid ⟨by rw [hS1]; exact openM_B S n x.y true, hB⟩
    clear he he' hM hok hW hS1 hcur hB
    go_enter Tryz.func122, Tryz.ntmps122
    go_wp2_with fail
    rw [← HW.out]
    refine HO.out.mono ?_
    rintro e w2 ⟨rfl, ⟨⟨cs1, hk1, hkp⟩, hg2⟩⟩
    clear c1
    -- what is looked up
    obtain ⟨m, A, q, c, h32, hq, hc, r1, _⟩ := hk1.look HK.out.2.2.1
    rw [HC.out.1] at hq hc r1
    rw [HC.out.2.1.1] at r1
    have c32 := (hk1.bk.cell 32).trans h32
    have hql : q ≤ N := by
      rw [hq]
      unfold curW
      rcases hW : S.W n with _ | ⟨l, p⟩
      · exact Nat.zero_le _
      · exact (hk1.le n l p (by rw [HC.out.2.2.1]; exact hW)).1
    have k2 := HK.out.1.kept hg2 (fun e => by have := Option.some.inj e; have := HK.out.2.2.2; omega)
    obtain ⟨w3, hw3⟩ : ∃ w3, w3 = w2.alloc (.cells #[.slice A q c, .bool false] 138) := ⟨_, rfl⟩
    have b3 : Below w2.heap.size w2 w3 := by rw [hw3]; exact ba _ _
    have kw : Blk w3 w2.heap.size 138 #[.slice A q c, .bool false] := by rw [hw3]; exact Blk.new _ _ _
    have k3 := k2.below b3 k2.lt
    have HWi := Lib.hid (with_any A (curW S n).1 q c x (Lib.hid hq) (by omega) w3 (hc.below b3))
    have d0 := kw.cell 0
    have e0 := k3.cell 0
    have e1 := k3.cell 1
    have e2 := k3.cell 2
    simp only [List.getElem?_toArray, List.getElem?_cons_zero, List.getElem?_cons_succ] at d0 e0 e1 e2
    have H3 := Lib.hid (And.intro (hk1.below b3) (And.intro hkp (And.intro (show w.grownBy w3 (some g) from ((lbelow_grown HK.out.2.1 (some g)).trans hg2).trans (lbelow_grown b3 _)) (And.intro kw (And.intro (show g ≠ w2.heap.size by have := hk1.lt; omega) (And.intro hql (And.intro hq (And.intro (show w.heap.size ≤ w2.heap.size from Nat.le_trans HK.out.2.1.size hg2.size) b3.size))))))))
    have HW3 := Lib.hid hw3
    rw [hw3] at d0 e0 e1 e2
    clear hw3 b3 kw k3 k2 hk1 hkp hg2 hq hc h32 hql
    go_wp2_with fail
    rw [← HW3.out]
    refine HWi.out.mono ?_
    rintro e w4 ⟨⟨A4, q4, c4, rfl, hq4, hc4⟩, b4⟩
    clear d0 e0 e1 e2 r1 c32
    obtain ⟨hk3, hkp, hg3, kw, hgne, hql, hq, hsz, hsz3⟩ := H3.out
    have kw4 := kw.below b4 kw.lt
    obtain ⟨w5, hw5⟩ : ∃ w5, w5 = w4.setCell ⟨w2.heap.size, 0, none⟩ (.slice A4 q4 c4) := ⟨_, rfl⟩
    have kw5 : Blk w5 w2.heap.size 138 #[.slice A4 q4 c4, .bool false] := by rw [hw5]; simpa using kw4.set_ 0 (.slice A4 q4 c4)
    have g5 : w4.grownBy w5 (some w2.heap.size) := by rw [hw5]; exact lgrown_set _ _ _
    have hk5 := (hk3.below b4).far g5 hgne kw4 (of_decide_eq_true (by kernel_rfl))
    have hc5 := hc4.kept g5 kw4 (of_decide_eq_true (by kernel_rfl))
    have hl4 := withL_len (curW S n).1 x
    have HL := Lib.hid (lay_any g tt cs1 S1 N n A4 (withL (curW S n).1 x) q4 c4 false w5 hk5 (by omega) HK.out.2.2.1 hq4 (by omega) (fun z hz => by
      have h0 : ∀ z ∈ (curW S n).1, keyB z.y = true := by
        unfold curW
        rcases hW : S.W n with _ | ⟨l, p⟩
        · intro z hz; simp at hz
        · exact (hk5.le n l p (by rw [HC.out.2.2.1]; exact hW)).2
      unfold withL at hz
      split at hz
      · rcases List.mem_or_eq_of_mem_set hz with h | rfl
        · exact h0 z h
        · exact HC.out.2.1.2.2
      · rcases List.mem_append.1 hz with h | h
        · exact h0 z h
        · rw [List.mem_singleton] at h; subst h; exact HC.out.2.1.2.2) (hc5.mono fun b hb _ => by rw [HBB.out.1]; exact HBB.out.2 b (by omega)))
    have f0 := kw4.frozen 0
    have d0 := kw4.cell 0
    have e0 := kw5.cell 0
    have e1 := kw5.cell 1
    simp only [List.getElem?_toArray, List.getElem?_cons_zero, List.getElem?_cons_succ] at d0 e0 e1
    have gw5 : w.grownBy w5 (some g) := by
      have h4 := hg3.trans (lbelow_grown b4 (some g))
      exact h4.andThen g5 (fun j e => by cases e; exact .inl hsz)
    have HG := Lib.hid (And.intro gw5 hkp)
    have HW5 := Lib.hid hw5
    rw [hw5] at e0 e1
    clear hw5 kw5 g5 hk5 hc5 kw4 hk3 hkp hg3 kw hgne hql hq hsz hsz3 b4 hq4 hc4 hl4 gw5
    go_wp2_with fail
    rw [← HW5.out]
    refine HL.out.mono ?_
    rintro e w6 ⟨rfl, ⟨cs6, hk6, hkp6⟩, hg6⟩
    have HF := Lib.hid (KvO.from HG.out.2 HG.out.1 ⟨⟨cs6, hk6, hkp6⟩, hg6⟩)
    have e9 : ({ S1 with W := updW S1.W n (some (withL (curW S n).1 x, false)) } : KS) = { S1 with W := updW S.W n (some (withL (curW S n).1 x, false)) } := by rw [HC.out.2.2.1]
    rw [e9] at HF
    clear hk6 hkp6 hg6 d0 f0 e0 e1
    go_wp2
    go_ret
    exact ⟨rfl, HF.out⟩
end Go.Proofs.YtlliaihmfimdoaaGreat

namespace Go.Proofs.YtlliaihmfimdoaaGreat
open Go.RowKit Go.Maps
set_option linter.unusedVariables false
set_option linter.unusedSimpArgs false

theorem KvAt.zero (B : Nat → Prop) (w : World) : KvAt (w.alloc (.cells #[.int .u64 0, .bool false, .int .u64 0, .bool false, .int .u64 0, .bool false, .int .u64 0, .bool false, .int .u64 0, .bool false, .int .u64 0, .bool false, .int .u64 0, .bool false, .int .u64 0, .bool false, .int .u64 0, .bool false, .int .u64 0, .bool false, .int .u64 0, .bool false, .int .u64 0, .bool false, .int .u64 0, .bool false, .int .u64 0, .bool false, .int .u64 0, .bool false, .int .u64 0, .bool false, .map none, .map none] 95)) w.heap.size 95 #[.int .u64 0, .bool false, .int .u64 0, .bool false, .int .u64 0, .bool false, .int .u64 0, .bool false, .int .u64 0, .bool false, .int .u64 0, .bool false, .int .u64 0, .bool false, .int .u64 0, .bool false, .int .u64 0, .bool false, .int .u64 0, .bool false, .int .u64 0, .bool false, .int .u64 0, .bool false, .int .u64 0, .bool false, .int .u64 0, .bool false, .int .u64 0, .bool false, .int .u64 0, .bool false, .map none, .map none] (KS.zero B) 0 :=
  ⟨Blk.new _ _ _, of_decide_eq_true (by kernel_rfl), fun k hk => match k, hk with | 0, _ => ⟨rfl, rfl⟩ | 1, _ => ⟨rfl, rfl⟩ | 2, _ => ⟨rfl, rfl⟩ | 3, _ => ⟨rfl, rfl⟩ | 4, _ => ⟨rfl, rfl⟩ | 5, _ => ⟨rfl, rfl⟩ | 6, _ => ⟨rfl, rfl⟩ | 7, _ => ⟨rfl, rfl⟩ | 8, _ => ⟨rfl, rfl⟩ | 9, _ => ⟨rfl, rfl⟩ | 10, _ => ⟨rfl, rfl⟩ | 11, _ => ⟨rfl, rfl⟩ | 12, _ => ⟨rfl, rfl⟩ | 13, _ => ⟨rfl, rfl⟩ | 14, _ => ⟨rfl, rfl⟩ | 15, _ => ⟨rfl, rfl⟩ | _ + 16, hk => absurd hk (by omega), ⟨none, fun _ => none, rfl, .inl ⟨rfl, rfl⟩, fun k => ⟨fun _ => rfl, fun l p h => by cases h⟩⟩, ⟨by simp [KS.zero], none, rfl, .inl ⟨rfl, rfl⟩⟩, fun k l p h => by cases h⟩
theorem names_nil (n : Int) (w : World) : Calls Tryz.prog 102 #[.pointer none, .int .i64 n] w fun e w' => e = .returned (.int .i64 6) ∧ w = w' := by
  go_enter Tryz.func102, Tryz.ntmps102
  go_wp2
  go_ret
  exact ⟨rfl, rfl⟩
def namesE (n : Int) : Int := if n < 1 then 1 else 0
theorem names_any (g : Nat) (n : Int) (w : World) : Calls Tryz.prog 102 #[.pointer (some ⟨g, 0, none⟩), .int .i64 n] w fun e w' => e = .returned (.int .i64 (namesE n)) ∧ w = w' := by
  by_cases h : n < 1
  · have hE : Hid (namesE n = 1) := Lib.hid (if_pos h)
    go_enter Tryz.func102, Tryz.ntmps102
    go_wp2
    go_ret
    exact ⟨by rw [hE.out]; rfl, rfl⟩
  · have hE : Hid (namesE n = 0) := Lib.hid (if_neg h)
    go_enter Tryz.func102, Tryz.ntmps102
    go_wp2
    go_ret
    exact ⟨by rw [hE.out]; rfl, rfl⟩
theorem put_nil (n y : Int) (v : Nat) (w : World) : Calls Tryz.prog 75 #[.pointer none, .int .i64 n, .int .i64 y, .int .u64 (v : Nat)] w fun e w' => e = .returned (.int .i64 6) ∧ Below w.heap.size w w' := by
  go_enter Tryz.func75, Tryz.ntmps75
  go_wp2_with fail
  refine (change_nil n ⟨1, y, v⟩ w).mono ?_
  rintro e w1 ⟨rfl, hb⟩
  go_wp2
  go_ret
  exact ⟨rfl, hb⟩
theorem del_nil (n y : Int) (w : World) : Calls Tryz.prog 79 #[.pointer none, .int .i64 n, .int .i64 y] w fun e w' => e = .returned (.int .i64 6) ∧ Below w.heap.size w w' := by
  go_enter Tryz.func79, Tryz.ntmps79
  go_wp2_with fail
  refine (change_nil n ⟨2, y, 0⟩ w).mono ?_
  rintro e w1 ⟨rfl, hb⟩
  go_wp2
  go_ret
  exact ⟨rfl, hb⟩
theorem kput_any (g : Nat) (tt : TypeId) (cs : Array Value) (S : KS) (N : Nat) (n y : Int) (v : Nat) (w : World) (h : KvAt w g tt cs S N) (hN : N < 300000) (hn : i64ok n) (hy : i64ok y) (hB : ∀ b, w.heap.size ≤ b → S.B b) :
    Calls Tryz.prog 75 #[.pointer (some ⟨g, 0, none⟩), .int .i64 n, .int .i64 y, .int .u64 (v : Nat)] w fun e w' => e = .returned (.int .i64 (changeM S n ⟨1, y, v⟩).1) ∧ KvO w g tt cs (changeM S n ⟨1, y, v⟩).2 (N + 1) w' := by
  have HC := Lib.hid (change_any g tt cs S N n ⟨1, y, v⟩ w h hN hn hy hB)
  clear h hB
  go_enter Tryz.func75, Tryz.ntmps75
  go_wp2_with fail
  refine HC.out.mono ?_
  rintro e w1 ⟨rfl, hk⟩
  have HF := Lib.hid hk
  clear hk
  go_wp2
  go_ret
  exact ⟨rfl, HF.out⟩
theorem kdel_any (g : Nat) (tt : TypeId) (cs : Array Value) (S : KS) (N : Nat) (n y : Int) (w : World) (h : KvAt w g tt cs S N) (hN : N < 300000) (hn : i64ok n) (hy : i64ok y) (hB : ∀ b, w.heap.size ≤ b → S.B b) :
    Calls Tryz.prog 79 #[.pointer (some ⟨g, 0, none⟩), .int .i64 n, .int .i64 y] w fun e w' => e = .returned (.int .i64 (changeM S n ⟨2, y, 0⟩).1) ∧ KvO w g tt cs (changeM S n ⟨2, y, 0⟩).2 (N + 1) w' := by
  have HC := Lib.hid (change_any g tt cs S N n ⟨2, y, 0⟩ w h hN hn hy hB)
  clear h hB
  go_enter Tryz.func79, Tryz.ntmps79
  go_wp2_with fail
  refine HC.out.mono ?_
  rintro e w1 ⟨rfl, hk⟩
  have HF := Lib.hid hk
  clear hk
  go_wp2
  go_ret
  exact ⟨rfl, HF.out⟩
def valM (S : KS) (y : Int) : Nat × Bool := if keyB y = true then S.V y.toNat else (0, false)
theorem value_nil (y : Int) (w : World) : Calls Tryz.prog 48 #[.pointer none, .int .i64 y] w fun e w' => e = .returned (.tuple #[.int .u64 0, .bool false]) ∧ w = w' := by
  go_enter Tryz.func48, Tryz.ntmps48
  go_wp2
  go_ret2
  exact ⟨rfl, rfl⟩
theorem keyB_nat {y : Int} (h : keyB y = true) : ∃ k : Nat, k < 16 ∧ y = (k : Int) := by
  unfold keyB at h; simp at h; exact ⟨y.toNat, by omega, by omega⟩
set_option maxRecDepth 100000 in
theorem value_any (g : Nat) (tt : TypeId) (cs : Array Value) (S : KS) (N : Nat) (y : Int) (w : World) (h : KvAt w g tt cs S N) :
    Calls Tryz.prog 48 #[.pointer (some ⟨g, 0, none⟩), .int .i64 y] w fun e w' => e = .returned (.tuple #[.int .u64 ((valM S y).1 : Nat), .bool (valM S y).2]) ∧ Below w.heap.size w w' := by
  rcases hk : keyB y with _ | _
  · have hV : valM S y = (0, false) := by unfold valM; rw [hk]; rfl
    rw [hV]
    have HK := Lib.hid hk
    clear hk h hV
    go_enter Tryz.func48, Tryz.ntmps48
    go_wp2_with fail
    refine (kisKey_any y false HK.out w).mono ?_
    rintro e w1 ⟨rfl, rfl⟩
    go_wp2
    go_ret2
    exact ⟨rfl, Below.refl _ _⟩
  · obtain ⟨k, hk16, rfl⟩ := keyB_nat hk
    have hV : valM S (k : Int) = S.V k := by unfold valM; rw [if_pos hk]; simp
    rw [hV]
    obtain ⟨e0, e1⟩ := h.vs k hk16
    have c0 := fun m : Nat => (show (w.drewN m).cell? ⟨g, k * 2, none⟩ = some (.int .u64 ((S.V k).1 : Nat)) from (h.bk.cell (k * 2)).trans (by rw [Nat.mul_comm k 2]; exact e0))
    have c1 := fun m : Nat => (show (w.drewN m).cell? ⟨g, k * 2 + 1, none⟩ = some (.bool (S.V k).2) from (h.bk.cell (k * 2 + 1)).trans (by rw [Nat.mul_comm k 2]; exact e1))
    have HK := Lib.hid hk
    have hkI : (k : Int) < 16 := by omega
    generalize S.V k = z at *
    obtain ⟨za, zb⟩ := z
    clear hk h hV e0 e1
    go_enter Tryz.func48, Tryz.ntmps48
    go_wp2_with fail
    refine (kisKey_any (k : Int) true HK.out w).mono ?_
    rintro e w1 ⟨rfl, rfl⟩
    go_wp2_with fail
    go_quiet (fail)
    have hb : Below w.heap.size w (w.drewN nq) := ⟨rfl, rfl, rfl, Nat.le_refl _, fun _ _ => rfl⟩
    clear c0 c1
    go_wp2
    go_ret2
    exact ⟨rfl, hb⟩
/-- A work sees a key. -/
def getM (S : KS) (n y : Int) : (Nat × Bool × Int) × KS :=
  if (openM S n y false).1 = 0 then
    (if h : posN (curW S n).1 y < (curW S n).1.length then ((((curW S n).1[posN (curW S n).1 y]'h).v, (((curW S n).1[posN (curW S n).1 y]'h).k == 1), 0), (openM S n y false).2)
     else (((valM S y).1, (valM S y).2, 0), (openM S n y false).2))
  else ((0, false, (openM S n y false).1), (openM S n y false).2)
theorem get_nil (n y : Int) (w : World) : Calls Tryz.prog 78 #[.pointer none, .int .i64 n, .int .i64 y] w fun e w' => e = .returned (.tuple #[.int .u64 0, .bool false, .int .i64 6]) ∧ w = w' := by
  go_enter Tryz.func78, Tryz.ntmps78
  go_wp2_with fail
  refine (open_nil n y false w).mono ?_
  rintro e w1 ⟨rfl, rfl⟩
  go_wp2
  go_returns
  exact ⟨rfl, rfl⟩
set_option maxRecDepth 100000 in
set_option maxHeartbeats 2000000 in
theorem get_any (g : Nat) (tt : TypeId) (cs : Array Value) (S : KS) (N : Nat) (n y : Int) (w : World) (h : KvAt w g tt cs S N) (hN : N < 300000) (hn : i64ok n) (hy : i64ok y) :
    Calls Tryz.prog 78 #[.pointer (some ⟨g, 0, none⟩), .int .i64 n, .int .i64 y] w fun e w' => e = .returned (.tuple #[.int .u64 ((getM S n y).1.1 : Nat), .bool (getM S n y).1.2.1, .int .i64 (getM S n y).1.2.2]) ∧ KvO w g tt cs (getM S n y).2 N w' := by
  have HO := Lib.hid (open_any g tt cs S N n y false w h hn hy)
  have Hn := Lib.hid hn
  rcases he : ((openM S n y false).1 == 0) with _ | _
  · have he' : (openM S n y false).1 ≠ 0 := by simpa using he
    have hM : getM S n y = ((0, false, (openM S n y false).1), (openM S n y false).2) := by unfold getM; rw [if_neg he']
    rw [hM]
    obtain ⟨e0, he0⟩ : ∃ e0, e0 = (openM S n y false).1 := ⟨_, rfl⟩
    rw [← he0] at HO he ⊢
    have hne : (e0 != 0) = true := by simp [bne, he]
    clear he' hM he0 h
    go_enter Tryz.func78, Tryz.ntmps78
    go_wp2_with fail
    refine HO.out.mono ?_
    rintro e w2 ⟨rfl, hk⟩
    have HF := Lib.hid hk
    clear hk
    go_wp2
    go_returns
    exact ⟨rfl, HF.out⟩
  have he' : (openM S n y false).1 = 0 := by simpa using he
  have hM : getM S n y = (if h : posN (curW S n).1 y < (curW S n).1.length then ((((curW S n).1[posN (curW S n).1 y]'h).v, (((curW S n).1[posN (curW S n).1 y]'h).k == 1), 0), (openM S n y false).2)
     else (((valM S y).1, (valM S y).2, 0), (openM S n y false).2)) := by unfold getM; rw [if_pos he']
  rw [hM]
  have hok := openM_ok he'
  have hW := openM_W S n y false
  rw [he'] at HO
  obtain ⟨S1, hS1⟩ : ∃ S1, S1 = (openM S n y false).2 := ⟨_, rfl⟩
  rw [← hS1] at HO hW ⊢
  have hcur : curW S1 n = curW S n := by unfold curW; rw [hW.1]
  have hval : valM S1 y = valM S y := by unfold valM; rw [hW.2]
  rw [← hcur, ← hval]
  have HC := Lib.hid (And.intro hcur (And.intro hok hW))
  obtain ⟨cl, hcl⟩ : ∃ cl, cl = curW S1 n := ⟨_, rfl⟩
  have hpr : cl.2 = false := by rw [hcl, hcur]; exact hok.1
  rw [← hcl]
  obtain ⟨l, pp⟩ := cl
  have HCL := Lib.hid (And.intro hcl hpr)
  dsimp only
  clear he he' hM hok hW hS1 hcur hval h hcl hpr
  by_cases hp : posN l y < l.length
  · rw [dif_pos hp]
    have hpI : posI l y = (posN l y : Int) := by unfold posI; rw [if_pos hp]
    obtain ⟨p, hpp⟩ : ∃ p, p = posN l y := ⟨_, rfl⟩
    have hx : l[posN l y]'hp = l[p]'(by rw [hpp]; exact hp) := by simp only [hpp]
    rw [← hpp] at hpI
    have hpl : p < l.length := by rw [hpp]; exact hp
    obtain ⟨x, hxx⟩ : ∃ x, x = l[p]'hpl := ⟨_, rfl⟩
    rw [hx, ← hxx]
    obtain ⟨tb, htb⟩ : ∃ tb, (x.k == 1) = tb := ⟨_, rfl⟩
    rw [htb]
    have HX := Lib.hid (And.intro hpI hxx)
    clear hpI hx hpp hxx hp
    go_enter Tryz.func78, Tryz.ntmps78
    go_wp2_with fail
    refine HO.out.mono ?_
    rintro e w2 ⟨rfl, ⟨⟨cs1, hk1, hkp⟩, hg2⟩⟩
    obtain ⟨m, A, q, c, h32, hq, hc, r1, _⟩ := hk1.look Hn.out
    have hlen : (curW S1 n).1.length ≤ N := by
      unfold curW
      rcases hW : S1.W n with _ | ⟨l, p⟩
      · exact Nat.zero_le _
      · exact (hk1.le n l p hW).1
    rw [← HCL.out.1] at hq hc r1 hlen
    rw [HCL.out.2] at r1
    have c32 := (hk1.bk.cell 32).trans h32
    dsimp only at hq hc hlen
    obtain ⟨w3, hw3⟩ : ∃ w3, w3 = w2.alloc (.cells #[.slice A q c, .bool false] 138) := ⟨_, rfl⟩
    have b3 : Below w2.heap.size w2 w3 := by rw [hw3]; exact ba _ _
    have kw : Blk w3 w2.heap.size 138 #[.slice A q c, .bool false] := by rw [hw3]; exact Blk.new _ _ _
    have HP := Lib.hid (kplace_any A l q c y (Lib.hid hq) (by omega) w3 (hc.below b3))
    have d0 := kw.cell 0
    simp only [List.getElem?_toArray, List.getElem?_cons_zero, List.getElem?_cons_succ] at d0
    have H3 := Lib.hid (And.intro (hk1.below b3) (And.intro hkp (And.intro (hg2.trans (lbelow_grown b3 _)) (And.intro kw (And.intro (hc.below b3) hq)))))
    have HW3 := Lib.hid hw3
    rw [hw3] at d0
    clear hw3 b3 kw hk1 hkp hg2 hc h32 hlen hq
    go_wp2_with fail
    rw [← HW3.out]
    refine HP.out.mono ?_
    rintro e w4 ⟨rfl, b4⟩
    clear d0 r1 c32
    obtain ⟨hk3, hkp, hg3, kw, hc3, hq⟩ := H3.out
    have hk4 := hk3.below b4
    have hg4 := hg3.trans (lbelow_grown b4 (some g))
    have kw4 := kw.below b4 kw.lt
    have hc4 := hc3.below b4
    rw [HX.out.1]
    obtain ⟨b, o, rfl, hbk, hcs⟩ := hc4 (by omega)
    obtain ⟨q0, q1, q2⟩ := hcs p hpl
    rw [← HX.out.2] at q0 q1 q2
    have p0 := fun m : Nat => (show (w4.drewN m).cell? ⟨b, o + p * 3, none⟩ = _ from q0)
    have p2 := fun m : Nat => (show (w4.drewN m).cell? ⟨b, o + p * 3 + 2, none⟩ = _ from q2)
    have d0 := fun m : Nat => (show (w4.drewN m).cell? ⟨w2.heap.size, 0, none⟩ = some (.slice (some ⟨b, o, none⟩) q c) from (kw4.cell 0).trans rfl)
    have hpq : (p : Int) < (q : Int) := by omega
    have HF := Lib.hid (And.intro hk4 (And.intro hkp hg4))
    clear hk3 hkp hg3 kw hc3 hq hk4 hg4 kw4 hc4 hcs q0 q1 q2 hbk b4
    go_wp2_with fail
    go_quiet (fail)
    have hb : Below w4.heap.size w4 (w4.drewN nq) := ⟨rfl, rfl, rfl, Nat.le_refl _, fun _ _ => rfl⟩
    have HG := Lib.hid (And.intro (HF.out.1.below hb) (HF.out.2.2.trans (lbelow_grown hb (some g))))
    clear p0 p2 d0 hb
    go_wp2
    go_returns
    exact ⟨rfl, ⟨cs1, HG.out.1, HF.out.2.1⟩, HG.out.2⟩
  · rw [dif_neg hp]
    have hpI : Hid (posI l y = -1) := Lib.hid (by unfold posI; rw [if_neg hp])
    obtain ⟨vv, hvv⟩ : ∃ vv, vv = valM S1 y := ⟨_, rfl⟩
    rw [← hvv]
    have HVV := Lib.hid hvv
    obtain ⟨va, vb⟩ := vv
    clear hp hvv
    go_enter Tryz.func78, Tryz.ntmps78
    go_wp2_with fail
    refine HO.out.mono ?_
    rintro e w2 ⟨rfl, ⟨⟨cs1, hk1, hkp⟩, hg2⟩⟩
    obtain ⟨m, A, q, c, h32, hq, hc, r1, _⟩ := hk1.look Hn.out
    have hlen : (curW S1 n).1.length ≤ N := by
      unfold curW
      rcases hW : S1.W n with _ | ⟨l, p⟩
      · exact Nat.zero_le _
      · exact (hk1.le n l p hW).1
    rw [← HCL.out.1] at hq hc r1 hlen
    rw [HCL.out.2] at r1
    have c32 := (hk1.bk.cell 32).trans h32
    dsimp only at hq hc hlen
    obtain ⟨w3, hw3⟩ : ∃ w3, w3 = w2.alloc (.cells #[.slice A q c, .bool false] 138) := ⟨_, rfl⟩
    have b3 : Below w2.heap.size w2 w3 := by rw [hw3]; exact ba _ _
    have kw : Blk w3 w2.heap.size 138 #[.slice A q c, .bool false] := by rw [hw3]; exact Blk.new _ _ _
    have HP := Lib.hid (kplace_any A l q c y (Lib.hid hq) (by omega) w3 (hc.below b3))
    have d0 := kw.cell 0
    simp only [List.getElem?_toArray, List.getElem?_cons_zero, List.getElem?_cons_succ] at d0
    have H3 := Lib.hid (And.intro (hk1.below b3) (And.intro hkp (And.intro (hg2.trans (lbelow_grown b3 _)) (And.intro kw (And.intro (hc.below b3) hq)))))
    have HW3 := Lib.hid hw3
    rw [hw3] at d0
    clear hw3 b3 kw hk1 hkp hg2 hc h32 hlen hq
    go_wp2_with fail
    rw [← HW3.out]
    refine HP.out.mono ?_
    rintro e w4 ⟨rfl, b4⟩
    clear d0 r1 c32
    obtain ⟨hk3, hkp, hg3, kw, hc3, hq⟩ := H3.out
    have hk4 := hk3.below b4
    have hg4 := hg3.trans (lbelow_grown b4 (some g))
    have kw4 := kw.below b4 kw.lt
    have hc4 := hc3.below b4
    rw [hpI.out]
    have hv := value_any g tt cs1 S1 N y w4 hk4
    rw [← HVV.out] at hv
    have HV := Lib.hid hv
    have HF := Lib.hid (And.intro hk4 (And.intro hkp hg4))
    clear hk3 hkp hg3 kw hc3 hq hk4 hg4 kw4 hc4 b4 hv
    go_wp2_with fail
    refine HV.out.mono ?_
    rintro e w5 ⟨rfl, b5⟩
    have HG := Lib.hid (And.intro (HF.out.1.below b5) (HF.out.2.2.trans (lbelow_grown b5 (some g))))
    clear b5
    go_wp2
    go_returns
    exact ⟨rfl, ⟨cs1, HG.out.1, HF.out.2.1⟩, HG.out.2⟩
end Go.Proofs.YtlliaihmfimdoaaGreat

namespace Go.Proofs.YtlliaihmfimdoaaGreat
open Go.RowKit Go.Maps
set_option linter.unusedVariables false
set_option linter.unusedSimpArgs false

def dropM (S : KS) (n : Int) : KS := { S with W := updW S.W n none, L := dropL S.L n }
/-- The works have turned. -/
theorem KvAt.worked {w w' : World} {g N : Nat} {tt : TypeId} {cs : Array Value} {S : KS} {W' : Int → Option (List Ch × Bool)} (h : KvAt w g tt cs S N) (hg : w.grownBy w' (some g)) {m' : Option Nat} {G' : Int → Option Value} (hb : Blk w' g tt (cs.setIfInBounds 32 (.map m'))) (hs : FSrc isWork w' m' N G') (hr : WRel w' S.B G' W') (hle : ∀ k l p, W' k = some (l, p) → l.length ≤ N ∧ ∀ x ∈ l, keyB x.y = true) : KvAt w' g tt (cs.setIfInBounds 32 (.map m')) { S with W := W' } N := by
  obtain ⟨h1, h2, h3, ⟨mw, G, h4, h5, h6⟩, ⟨h7, m2, h8, h9⟩, h10⟩ := h
  refine ⟨hb, h2, fun k hk => ?_, ⟨m', G', set_at h4, hs, hr⟩, ⟨h7, m2, ?_, h9.kept hg h1⟩, hle⟩
  · rw [Array.getElem?_setIfInBounds_ne (by omega), Array.getElem?_setIfInBounds_ne (by omega)]; exact h3 k hk
  · rw [Array.getElem?_setIfInBounds_ne (by omega)]; exact h8
set_option maxRecDepth 100000 in
set_option maxHeartbeats 2000000 in
theorem kdrop_any (g : Nat) (tt : TypeId) (cs : Array Value) (S : KS) (N : Nat) (n : Int) (w : World) (h : KvAt w g tt cs S N) (hn : i64ok n) :
    Calls Tryz.prog 110 #[.pointer (some ⟨g, 0, none⟩), .int .i64 n] w fun e w' => e = .returned (.tuple #[]) ∧ KvO w g tt cs (dropM S n) N w' := by
  have hkey := keyOf_i n hn
  obtain ⟨mw, G, h4, h5, h6⟩ := h.wk
  have c32 := (h.bk.cell 32).trans h4
  have HC := Lib.hid h5.cloned
  have H := Lib.hid (And.intro h (And.intro h6 (And.intro hn h4)))
  have hle : Hid (∀ k l p, updW S.W n none k = some (l, p) → l.length ≤ N ∧ ∀ x ∈ l, keyB x.y = true) := Lib.hid (fun k l p e => by
    unfold updW at e
    split at e
    · cases e
    · exact h.le k l p e)
  clear h h4 h5 h6 hn
  go_enter Tryz.func110, Tryz.ntmps110
  go_wp2_with fail
  refine HC.out.mono ?_
  rintro e w1 ⟨⟨m', rfl, hs1, hlt⟩, b1⟩
  obtain ⟨h, h6, hn, h4⟩ := H.out
  have h1 := h.below b1
  have hg1 := h1.bk
  have h61 := h6.same (w' := w1) fun A l hc => hc.below b1
  have hgl := h.lt
  have d0 := (hg1.cell 32).trans h4
  have f0 := hg1.frozen 32
  rcases hs1 with ⟨rfl, rfl⟩ | ⟨b, D, rfl, hown, hR⟩
  · have hdn := fun (u : World) ty => Maps.drop_nil (P := Tryz.prog) (w := u) lawI Tryz.underlying90 hkey ty
    obtain ⟨w2, hw2⟩ : ∃ w2, w2 = w1.setCell ⟨g, 32, none⟩ (.map none) := ⟨_, rfl⟩
    have g2 : w1.grownBy w2 (some g) := by rw [hw2]; exact lgrown_set _ _ _
    have kk2 : KvAt w2 g tt (cs.setIfInBounds 32 (.map none)) { S with W := updW S.W n none } N := h1.worked g2 (by rw [hw2]; exact hg1.set_ 32 _) (.inl ⟨rfl, rfl⟩) (by
      have := (h61.del n).same (w' := w2) fun A l hc => hc.kept g2 hg1 h1.ty
      have e : delG (fun _ => none) n = fun _ => none := by funext j; unfold delG; split <;> rfl
      rwa [e] at this) hle.out
    have HD := Lib.hid (drop_any g 33 tt _ S.L n w2 kk2.tab hn)
    have HK := Lib.hid (And.intro kk2 ((lbelow_grown b1 (some g)).trans g2))
    have HW := Lib.hid hw2
    clear h h6 h4 h1 hg1 h61 g2 kk2 hw2 c32
    go_wp2_with fail
    rw [← HW.out]
    refine HD.out.mono ?_
    rintro e w3 ⟨rfl, ht, hg3⟩
    obtain ⟨cs', hk', hkp⟩ := HK.out.1.locked hg3 ht
    have HF := Lib.hid (KvO.from (Keep.set cs 32 (by omega) (.map none)) HK.out.2 ⟨⟨cs', hk', hkp⟩, hg3⟩)
    clear ht hg3 hk' hkp d0 f0
    go_wp2
    go_end0
    exact ⟨rfl, HF.out⟩
  · have hbl := hlt b rfl
    have hgb : g ≠ b := by omega
    have Hlt := Lib.hid (And.intro hbl hgb)
    clear c32 d0 f0 hlt
    go_wp2_with (at_delete; refine wpList_delete_own _ rfl _ _ 90 3 rfl 138 lawI Tryz.underlying90 _ b _ _ rfl hown _ _ rfl hkey ?_; intro w2 hown2 hturn; go_frame; have hg2 := hturn.grown; have k2 := hg1.kept hg2 (fun e => hgb (Option.some.inj e)); have d0 := (k2.cell 32).trans h4; have f0 := k2.frozen 32)
    obtain ⟨w3, hw3⟩ : ∃ w3, w3 = w2.setCell ⟨g, 32, none⟩ (.map (some b)) := ⟨_, rfl⟩
    have gg2 : w.grownBy w2 none := by
      refine ⟨hg2.os.trans b1.os, hg2.tape.trans b1.tape, hg2.output.trans b1.output, Nat.le_trans b1.size hg2.size, fun i hi _ => ?_⟩
      exact (hg2.block i (Nat.lt_of_lt_of_le hi b1.size) (fun e => by have := Option.some.inj e; omega)).trans (b1.block i hi)
    have hh2 := h.below (lgrown_below gg2)
    have g3 : w2.grownBy w3 (some g) := by rw [hw3]; exact lgrown_set _ _ _
    have kk3 : KvAt w3 g tt (cs.setIfInBounds 32 (.map (some b))) { S with W := updW S.W n none } N := hh2.worked g3 (by rw [hw3]; exact k2.set_ 32 _) (.inr ⟨b, _, rfl, hown2.kept g3 (fun e => hgb (Option.some.inj e).symm), hR.del n⟩) (by
      have := ((h6.same (w' := w2) fun A l hc => hc.below (lgrown_below gg2)).del n).same (w' := w3) fun A l hc => hc.kept g3 k2 h.ty
      exact this) hle.out
    have HD := Lib.hid (drop_any g 33 tt _ S.L n w3 kk3.tab hn)
    have HK := Lib.hid (And.intro kk3 ((gg2.but (some g)).trans g3))
    have HW := Lib.hid hw3
    clear h h6 h4 h1 hg1 h61 g3 kk3 hw3 hown2 hturn hg2 k2 gg2 hh2 hown hbl hR
    go_wp2_with fail
    rw [← HW.out]
    refine HD.out.mono ?_
    rintro e w4 ⟨rfl, ht, hg3⟩
    obtain ⟨cs', hk', hkp⟩ := HK.out.1.locked hg3 ht
    have HF := Lib.hid (KvO.from (Keep.set cs 32 (by omega) (.map (some b))) HK.out.2 ⟨⟨cs', hk', hkp⟩, hg3⟩)
    clear ht hg3 hk' hkp d0 f0
    go_wp2
    go_end0
    exact ⟨rfl, HF.out⟩
theorem backout_nil (n : Int) (w : World) : Calls Tryz.prog 74 #[.pointer none, .int .i64 n] w fun e w' => e = .returned (.int .i64 6) ∧ w = w' := by
  go_enter Tryz.func74, Tryz.ntmps74
  go_wp2_with fail
  refine (names_nil n w).mono ?_
  rintro e w1 ⟨rfl, rfl⟩
  go_wp2
  go_ret
  exact ⟨rfl, rfl⟩
def backoutM (S : KS) (n : Int) : Int × KS := if n < 1 then (1, S) else (0, dropM S n)
theorem backout_any (g : Nat) (tt : TypeId) (cs : Array Value) (S : KS) (N : Nat) (n : Int) (w : World) (h : KvAt w g tt cs S N) (hn : i64ok n) :
    Calls Tryz.prog 74 #[.pointer (some ⟨g, 0, none⟩), .int .i64 n] w fun e w' => e = .returned (.int .i64 (backoutM S n).1) ∧ KvO w g tt cs (backoutM S n).2 N w' := by
  have HN := Lib.hid (names_any g n w)
  by_cases h1 : n < 1
  · have hM : backoutM S n = (1, S) := if_pos h1
    rw [hM]
    have HF := Lib.hid (KvO.same h (Below.refl _ _))
    have hE : namesE n = 1 := if_pos h1
    rw [hE] at HN
    clear h hM hE
    go_enter Tryz.func74, Tryz.ntmps74
    go_wp2_with fail
    refine HN.out.mono ?_
    rintro e w1 ⟨rfl, rfl⟩
    go_wp2
    go_ret
    exact ⟨rfl, HF.out⟩
  · have hM : backoutM S n = (0, dropM S n) := if_neg h1
    rw [hM]
    have HD := Lib.hid (kdrop_any g tt cs S N n w h hn)
    have hE : namesE n = 0 := if_neg h1
    rw [hE] at HN
    clear h hM hE
    go_enter Tryz.func74, Tryz.ntmps74
    go_wp2_with fail
    refine HN.out.mono ?_
    rintro e w1 ⟨rfl, rfl⟩
    go_wp2_with fail
    refine HD.out.mono ?_
    rintro e w2 ⟨rfl, hk⟩
    have HF := Lib.hid hk
    clear hk
    go_wp2
    go_ret
    exact ⟨rfl, HF.out⟩
/-- A work is prepared: its changes, the error, the store. -/
def prepM (S : KS) (n : Int) : (List Ch × Int) × KS :=
  if n < 1 then (([], 1), S) else if (curW S n).2 = true then (([], 7), S) else if (S.W n).isSome = false then (([], 0), { S with L := dropL S.L n }) else (((curW S n).1, 0), { S with W := updW S.W n (some ((curW S n).1, true)) })
theorem prep_nil (n : Int) (w : World) : Calls Tryz.prog 62 #[.pointer none, .int .i64 n] w fun e w' => e = .returned (.tuple #[.slice none 0 0, .int .i64 6]) ∧ w = w' := by
  go_enter Tryz.func62, Tryz.ntmps62
  go_wp2_with fail
  refine (names_nil n w).mono ?_
  rintro e w1 ⟨rfl, rfl⟩
  go_wp2
  go_ret2
  exact ⟨rfl, rfl⟩
set_option maxRecDepth 100000 in
set_option maxHeartbeats 2000000 in
theorem prep_any (g : Nat) (tt : TypeId) (cs : Array Value) (S : KS) (N : Nat) (n : Int) (w : World) (h : KvAt w g tt cs S N) (hN : N < 300000) (hn : i64ok n) :
    Calls Tryz.prog 62 #[.pointer (some ⟨g, 0, none⟩), .int .i64 n] w fun e w' => (∃ A q c, e = .returned (.tuple #[.slice A q c, .int .i64 (prepM S n).1.2]) ∧ q = (prepM S n).1.1.length ∧ OwnC w' w.heap.size A c (prepM S n).1.1) ∧ KvO w g tt cs (prepM S n).2 (N + 1) w' := by
  have HN := Lib.hid (names_any g n w)
  by_cases h1 : n < 1
  · have hM : prepM S n = (([], 1), S) := if_pos h1
    rw [hM]
    have HF := Lib.hid (KvO.same (h.more (Nat.le_succ N)) (Below.refl _ _))
    have hE : namesE n = 1 := if_pos h1
    rw [hE] at HN
    clear h hM hE
    go_enter Tryz.func62, Tryz.ntmps62
    go_wp2_with fail
    refine HN.out.mono ?_
    rintro e w1 ⟨rfl, rfl⟩
    go_wp2
    go_ret2
    exact ⟨⟨none, 0, 0, rfl, rfl, OwnC.nil _ _⟩, HF.out⟩
  have hE : namesE n = 0 := if_neg h1
  rw [hE] at HN
  obtain ⟨m, A, q, c, h32, hq, hc, _, r2⟩ := h.look hn
  have hlen : (curW S n).1.length ≤ N := by
    unfold curW
    rcases hW : S.W n with _ | ⟨l, p⟩
    · exact Nat.zero_le _
    · exact (h.le n l p hW).1
  have hkl : ∀ x ∈ (curW S n).1, keyB x.y = true := by
    unfold curW
    rcases hW : S.W n with _ | ⟨l, p⟩
    · intro x hx; simp at hx
    · exact (h.le n l p hW).2
  have c32 := (h.bk.cell 32).trans h32
  obtain ⟨w3, hw3⟩ : ∃ w3, w3 = w.alloc (.cells #[.slice A q c, .bool (curW S n).2] 138) := ⟨_, rfl⟩
  have b3 : Below w.heap.size w w3 := by rw [hw3]; exact ba _ _
  have kw : Blk w3 w.heap.size 138 #[.slice A q c, .bool (curW S n).2] := by rw [hw3]; exact Blk.new _ _ _
  have d0 := kw.cell 0
  have d1 := kw.cell 1
  have f1 := kw.frozen 1
  simp only [List.getElem?_toArray, List.getElem?_cons_zero, List.getElem?_cons_succ] at d0 d1
  have hgl := h.lt
  have Hc := Lib.hid hc
  have H3 := Lib.hid (And.intro (h.below b3) (And.intro b3 (And.intro kw (And.intro (hc.below b3) (And.intro hq (And.intro hgl (And.intro hlen (And.intro hkl hn))))))))
  have HW3 := Lib.hid hw3
  rw [hw3] at d0 d1 f1
  clear hw3 b3 kw hc hq h32 hlen hkl hgl hE
  rcases hp : (curW S n).2 with _ | _
  · rcases hs : (S.W n).isSome with _ | _
    · have hM : prepM S n = (([], 0), { S with L := dropL S.L n }) := by unfold prepM; rw [if_neg h1, if_neg (by simp [hp]), if_pos hs]
      rw [hM]
      rw [hp, hs] at r2
      rw [hp] at d0 d1 f1 H3 HW3
      have HD := Lib.hid (drop_any g 33 tt cs S.L n w3 H3.out.1.tab hn)
      clear h hM hs hp
      go_enter Tryz.func62, Tryz.ntmps62
      go_wp2_with fail
      refine HN.out.mono ?_
      rintro e w1 ⟨rfl, rfl⟩
      go_wp2_with fail
      rw [← HW3.out]
      refine HD.out.mono ?_
      rintro e w4 ⟨rfl, ht, hg⟩
      have HF := Lib.hid (KvO.from (cs := cs) Keep.rfl' (lbelow_grown H3.out.2.1 (some g)) ⟨((H3.out.1.more (Nat.le_succ N)).locked hg ht), hg⟩)
      clear ht hg d0 d1 f1
      go_wp2
      go_ret2
      exact ⟨⟨none, 0, 0, rfl, rfl, OwnC.nil _ _⟩, HF.out⟩
    · have hM : prepM S n = (((curW S n).1, 0), { S with W := updW S.W n (some ((curW S n).1, true)) }) := by unfold prepM; rw [if_neg h1, if_neg (by simp [hp]), if_neg (by simp [hs])]
      rw [hM]
      rw [hp, hs] at r2
      rw [hp] at d0 d1 f1 H3 HW3
      obtain ⟨l, hl⟩ : ∃ l, l = (curW S n).1 := ⟨_, rfl⟩
      rw [← hl] at H3 ⊢
      obtain ⟨w4, hw4⟩ : ∃ w4, w4 = w.alloc (.cells #[.slice A q c, .bool true] 138) := ⟨_, rfl⟩
      obtain ⟨_, _, _, _, hq, hgl, hlen, hkl, hnn⟩ := H3.out
      have b4 : Below w.heap.size w w4 := by rw [hw4]; exact ba _ _
      have kw4 : Blk w4 w.heap.size 138 #[.slice A q c, .bool true] := by rw [hw4]; exact Blk.new _ _ _
      have hk4 := h.below b4
      have hc4 : ChAt w4 S.B A l := by rw [hl]; exact Hc.out.below b4
      have HL := Lib.hid (lay_any g tt cs S N n A l q c true w4 hk4 (by omega) hn hq (by omega) hkl hc4)
      have p0 := kw4.cell 0
      have p1 := kw4.cell 1
      simp only [List.getElem?_toArray, List.getElem?_cons_zero, List.getElem?_cons_succ] at p0 p1
      have H4 := Lib.hid (And.intro kw4 (And.intro b4 (And.intro hc4 (And.intro hk4.bk (And.intro hk4.ty hgl)))))
      have HW4 := Lib.hid hw4
      rw [HW4.out] at p0 p1
      clear h hM hs hp hl hgl hkl hnn hk4 hc4 kw4 b4 hw4 H3 HW3
      have Hq := Lib.hid (And.intro hq hlen)
      clear hq hlen
      go_enter Tryz.func62, Tryz.ntmps62
      go_wp2_with fail
      refine HN.out.mono ?_
      rintro e w1 ⟨rfl, rfl⟩
      go_wp2_with fail
      rw [← HW4.out]
      refine HL.out.mono ?_
      rintro e w5 ⟨rfl, ⟨cs5, hk5, hkp5⟩, hg5⟩
      obtain ⟨kw4, b4, hc4, hbk, hty, hgl⟩ := H4.out
      have kw5 := kw4.kept hg5 (fun e => by have := Option.some.inj e; omega)
      have HCl := Lib.hid (cclone_any A l q c w5 (Lib.hid Hq.out.1) (Lib.hid (by have := Hq.out; omega)) (hc4.kept hg5 hbk hty))
      have p0' := kw5.cell 0
      simp only [List.getElem?_toArray, List.getElem?_cons_zero, List.getElem?_cons_succ] at p0'
      have H5 := Lib.hid (And.intro hk5 (And.intro hkp5 ((lbelow_grown b4 (some g)).trans hg5)))
      clear d0 d1 f1 p0 p1 kw4 b4 hc4 hbk hty hk5 hkp5 hg5 kw5 hgl
      go_wp2_with fail
      refine HCl.out.mono ?_
      rintro e w6 ⟨A6, c6, rfl, own6, b6⟩
      have HF := Lib.hid (And.intro own6 (And.intro (H5.out.1.below b6) (H5.out.2.2.trans (lbelow_grown b6 (some g)))))
      clear own6 b6 p0'
      go_wp2
      go_ret2
      exact ⟨⟨A6, q, c6, rfl, Hq.out.1, HF.out.1.less (by have := H5.out.2.2.size; exact this)⟩, ⟨cs5, HF.out.2.1, H5.out.2.1⟩, HF.out.2.2⟩
  · have hM : prepM S n = (([], 7), S) := by unfold prepM; rw [if_neg h1, if_pos hp]
    rw [hM]
    rw [hp] at r2 d0 d1 f1 HW3
    have HF := Lib.hid (KvO.same (h.more (Nat.le_succ N)) H3.out.2.1)
    clear h hM hp H3
    generalize (S.W n).isSome = sb at r2
    go_enter Tryz.func62, Tryz.ntmps62
    go_wp2_with fail
    refine HN.out.mono ?_
    rintro e w1 ⟨rfl, rfl⟩
    go_wp2
    rw [← HW3.out]
    go_ret2
    exact ⟨⟨none, 0, 0, rfl, rfl, OwnC.nil _ _⟩, HF.out⟩
end Go.Proofs.YtlliaihmfimdoaaGreat

namespace Go.Proofs.YtlliaihmfimdoaaGreat
open Go Go.RowKit
set_option linter.unusedVariables false

def updB (ls : Nat → Bool) (i : Nat) : Nat → Bool := fun j => if j = i then true else ls j
theorem updB_same (ls : Nat → Bool) (i : Nat) : updB ls i i = true := if_pos rfl
theorem updB_other {ls : Nat → Bool} {i j : Nat} (h : j ≠ i) : updB ls i j = ls j := if_neg h
theorem upd_other {x : Nat → Value} {i j : Nat} {v : Value} (h : j ≠ i) : upd x i v j = x j := if_neg h
theorem upd_same {x : Nat → Value} {i : Nat} {v : Value} : upd x i v i = v := if_pos rfl
section
variable {P : Program} {Q : Exit → Act → World → Prop}

/-- **A region by what its operations yield, and by which have come up.** V i: what operation i has put, whatever the world; C: the worlds, by which operations have come up and what they have put. -/
theorem wp_region_invJ {id : Nat} {l : List Oper} {a : Act} {w : World} {F : (Nat → Value) → Act} (V : Nat → Value → Prop) (C : (Nat → Bool) → (Nat → Value) → World → Prop)
    (hm : P.follows .mixedOrders = true) (hd : dstsApart l = true) (hx : lexOk l.toArray = true) (hF : ∀ x, mkA l 0 x a = F x)
    (hC : ∀ x, C (fun _ => false) x w.drew)
    (step : AllOps (fun i o => ∀ ls x w, C ls x w → ls i = false → KnownTill (fun j v _ => ls j = true ∧ V j v) (fun _ => none) i x w o.after.toList → ∀ K : Act → World → Prop, (∀ v a' w', C (updB ls i) (upd x i v) w' → V i v → a' = (F x).put o.dst v → K a' w') → if Region.wanted o (yielded l.toArray (F x).tmps) = true then Oper.wp P o (F x) w K Q else K ((F x).put o.dst undef) w) 0 l)
    (fin : ∀ ls x w', C ls x w' → (∀ i, i < l.length → ls i = true ∧ V i (x i)) → Q .normal (F x) w') : (Code.region id l.toArray true).wp P Q a w := by
  refine wp_region_any hm ?_
  have h0 : a = F fun i => (((l[i]?).bind (·.dst)).map fun t => a.tmps.getD t undef).getD undef := by
    rw [← hF, mkA_own]
    intro i o ho
    rw [Nat.zero_add, ho]
    rfl
  refine wpAny_inv (fun ls b u => ∃ x, b = F x ∧ C (fun i => ls.getD i false) x u ∧ ∀ i, i < l.length → ls.getD i false = true → V i (x i)) ?_ ?_ _ _ _ _ (by simp) ?_ ⟨_, h0, ?_, fun i _ hi => ?_⟩
  · rintro ls b u i hs ⟨x, rfl, hc, hv⟩ hi
    obtain ⟨hl, o, ho, hall⟩ := mem_ready.1 hi
    refine wpOp_want ho ?_
    have ho' : l[i]? = some o := by simpa using ho
    have hon : ∀ j, ls.getD j false = true → j < l.length := fun j hj => by
      rcases Nat.lt_or_ge j ls.size with h' | h'
      · simpa [hs] using h'
      · rw [Array.getD_eq_getD_getElem?, Array.getElem?_eq_none h'] at hj; simp at hj
    have hsz : i < ls.size := by
      rcases Nat.lt_or_ge i ls.size with h' | h'
      · exact h'
      · rw [Array.getD_eq_getD_getElem?, Array.getElem?_eq_none h'] at hl; simp at hl
    have hlf : ls.getD i false = false := by
      rw [Array.getD_eq_getD_getElem?, Array.getElem?_eq_getElem hsz] at hl ⊢
      simpa using hl
    have hst := allOps_at _ _ _ _ step ho'
    rw [Nat.zero_add] at hst
    refine hst _ x u hc hlf (knownTill_of _ fun e he hb _ => ?_) _ ?_
    · have h1 := hall e (by simpa using he) hb
      exact ⟨h1, hv _ (hon e.on h1) h1⟩
    rintro v _ u' hc' hvi rfl
    have hput : (F x).put o.dst v = F (upd x i v) := by
      rw [← hF, ← hF]
      have := mkA_upd (v := v) l 0 i x a hd ho'
      rw [Nat.zero_add] at this
      exact this.symm
    have hls : (fun j => (ls.setIfInBounds i true).getD j false) = updB (fun j => ls.getD j false) i := by
      funext j
      unfold updB
      by_cases hji : j = i
      · subst hji
        rw [if_pos rfl, Array.getD_eq_getD_getElem?, Array.getElem?_setIfInBounds_self_of_lt hsz]; rfl
      · rw [if_neg hji]; exact getD_set_ne false (Ne.symm hji)
    refine ⟨upd x i v, hput, by rw [hls]; exact hc', fun j hjl hj => ?_⟩
    by_cases hji : j = i
    · subst hji
      rw [upd_same]; exact hvi
    · rw [upd_other hji]
      rw [getD_set_ne false (Ne.symm hji)] at hj
      exact hv j hjl hj
  · rintro ls b u hs ⟨x, rfl, hc, hv⟩ hr
    refine fin _ x u hc fun i hi => ?_
    have hi' : i < l.toArray.size := by simpa using hi
    have h1 := ready_all hs hx hr i hi'
    have h2 : ls.getD i false = true := by
      rw [Array.getD_eq_getD_getElem?, Array.getElem?_eq_getElem (show i < ls.size by omega)] at h1 ⊢
      simpa using h1
    exact ⟨h2, hv i hi h2⟩
  · unfold unlisted
    rw [Array.toList_replicate]
    exact Nat.le_trans List.countP_le_length (by simp)
  · have he : (fun i => (Array.replicate l.toArray.size false).getD i false) = fun _ => false := by
      funext i
      rw [Array.getD_eq_getD_getElem?, Array.getElem?_replicate]
      split <;> rfl
    rw [he]; exact hC _
  · rw [Array.getD_eq_getD_getElem?, Array.getElem?_replicate] at hi
    split at hi <;> simp at hi
end
end Go.Proofs.YtlliaihmfimdoaaGreat
