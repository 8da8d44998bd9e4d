/- Layer 13: New, names, Put, Del, Value, Get, drop, Backout, Prepare. -/
import Derived.Test.YtnpoicgincndkaaBg
namespace Go.Proofs.Ytnpoicgincndkaa
open Go.RowKit Go.Maps
set_option linter.unusedVariables false
set_option linter.unusedSimpArgs false

theorem KvAt.zero (B : Nat → Prop) (w : World) : KvAt (w.alloc (.cells #[.int .u64 0, .bool false, .int .u64 0, .bool false, .int .u64 0, .bool false, .int .u64 0, .bool false, .int .u64 0, .bool false, .int .u64 0, .bool false, .int .u64 0, .bool false, .int .u64 0, .bool false, .int .u64 0, .bool false, .int .u64 0, .bool false, .int .u64 0, .bool false, .int .u64 0, .bool false, .int .u64 0, .bool false, .int .u64 0, .bool false, .int .u64 0, .bool false, .int .u64 0, .bool false, .map none, .map none] 59)) w.heap.size 59 #[.int .u64 0, .bool false, .int .u64 0, .bool false, .int .u64 0, .bool false, .int .u64 0, .bool false, .int .u64 0, .bool false, .int .u64 0, .bool false, .int .u64 0, .bool false, .int .u64 0, .bool false, .int .u64 0, .bool false, .int .u64 0, .bool false, .int .u64 0, .bool false, .int .u64 0, .bool false, .int .u64 0, .bool false, .int .u64 0, .bool false, .int .u64 0, .bool false, .int .u64 0, .bool false, .map none, .map none] (KS.zero B) 0 :=
  ⟨Blk.new _ _ _, of_decide_eq_true (by kernel_rfl), fun k hk => match k, hk with | 0, _ => ⟨rfl, rfl⟩ | 1, _ => ⟨rfl, rfl⟩ | 2, _ => ⟨rfl, rfl⟩ | 3, _ => ⟨rfl, rfl⟩ | 4, _ => ⟨rfl, rfl⟩ | 5, _ => ⟨rfl, rfl⟩ | 6, _ => ⟨rfl, rfl⟩ | 7, _ => ⟨rfl, rfl⟩ | 8, _ => ⟨rfl, rfl⟩ | 9, _ => ⟨rfl, rfl⟩ | 10, _ => ⟨rfl, rfl⟩ | 11, _ => ⟨rfl, rfl⟩ | 12, _ => ⟨rfl, rfl⟩ | 13, _ => ⟨rfl, rfl⟩ | 14, _ => ⟨rfl, rfl⟩ | 15, _ => ⟨rfl, rfl⟩ | _ + 16, hk => absurd hk (by omega), ⟨none, fun _ => none, rfl, .inl ⟨rfl, rfl⟩, fun k => ⟨fun _ => rfl, fun l p h => by cases h⟩⟩, ⟨by simp [KS.zero], none, rfl, .inl ⟨rfl, rfl⟩⟩, fun k l p h => by cases h⟩
set_option maxRecDepth 100000 in
theorem knew_any (B : Nat → Prop) (w : World) : Calls Try.prog 10 #[] w fun e w' => e = .returned (.pointer (some ⟨w.heap.size, 0, none⟩)) ∧ (∃ cs, KvAt w' w.heap.size 59 cs (KS.zero B) 0) ∧ Below w.heap.size w w' := by
  have hk := KvAt.zero B w
  go_enter Try.func10, Try.ntmps10
  go_wp2
  go_ret
  exact ⟨rfl, ⟨_, hk⟩, ba _ _⟩
theorem names_nil (n : Int) (w : World) : Calls Try.prog 37 #[.pointer none, .int .i64 n] w fun e w' => e = .returned (.int .i64 6) ∧ w = w' := by
  go_enter Try.func37, Try.ntmps37
  go_wp2
  go_ret
  exact ⟨rfl, rfl⟩
def namesE (n : Int) : Int := if n < 1 then 1 else 0
theorem names_any (g : Nat) (n : Int) (w : World) : Calls Try.prog 37 #[.pointer (some ⟨g, 0, none⟩), .int .i64 n] w fun e w' => e = .returned (.int .i64 (namesE n)) ∧ w = w' := by
  by_cases h : n < 1
  · have hE : Hid (namesE n = 1) := Lib.hid (if_pos h)
    go_enter Try.func37, Try.ntmps37
    go_wp2
    go_ret
    exact ⟨by rw [hE.out]; rfl, rfl⟩
  · have hE : Hid (namesE n = 0) := Lib.hid (if_neg h)
    go_enter Try.func37, Try.ntmps37
    go_wp2
    go_ret
    exact ⟨by rw [hE.out]; rfl, rfl⟩
theorem put_nil (n y : Int) (v : Nat) (w : World) : Calls Try.prog 22 #[.pointer none, .int .i64 n, .int .i64 y, .int .u64 (v : Nat)] w fun e w' => e = .returned (.int .i64 6) ∧ Below w.heap.size w w' := by
  go_enter Try.func22, Try.ntmps22
  go_wp2_with fail
  refine (change_nil n ⟨1, y, v⟩ w).mono ?_
  rintro e w1 ⟨rfl, hb⟩
  go_wp2
  go_ret
  exact ⟨rfl, hb⟩
theorem del_nil (n y : Int) (w : World) : Calls Try.prog 26 #[.pointer none, .int .i64 n, .int .i64 y] w fun e w' => e = .returned (.int .i64 6) ∧ Below w.heap.size w w' := by
  go_enter Try.func26, Try.ntmps26
  go_wp2_with fail
  refine (change_nil n ⟨2, y, 0⟩ w).mono ?_
  rintro e w1 ⟨rfl, hb⟩
  go_wp2
  go_ret
  exact ⟨rfl, hb⟩
theorem kput_any (g : Nat) (tt : TypeId) (cs : Array Value) (S : KS) (N : Nat) (n y : Int) (v : Nat) (w : World) (h : KvAt w g tt cs S N) (hN : N < 300000) (hn : i64ok n) (hy : i64ok y) (hB : ∀ b, w.heap.size ≤ b → S.B b) :
    Calls Try.prog 22 #[.pointer (some ⟨g, 0, none⟩), .int .i64 n, .int .i64 y, .int .u64 (v : Nat)] w fun e w' => e = .returned (.int .i64 (changeM S n ⟨1, y, v⟩).1) ∧ KvO w g tt cs (changeM S n ⟨1, y, v⟩).2 (N + 1) w' := by
  have HC := Lib.hid (change_any g tt cs S N n ⟨1, y, v⟩ w h hN hn hy hB)
  clear h hB
  go_enter Try.func22, Try.ntmps22
  go_wp2_with fail
  refine HC.out.mono ?_
  rintro e w1 ⟨rfl, hk⟩
  have HF := Lib.hid hk
  clear hk
  go_wp2
  go_ret
  exact ⟨rfl, HF.out⟩
theorem kdel_any (g : Nat) (tt : TypeId) (cs : Array Value) (S : KS) (N : Nat) (n y : Int) (w : World) (h : KvAt w g tt cs S N) (hN : N < 300000) (hn : i64ok n) (hy : i64ok y) (hB : ∀ b, w.heap.size ≤ b → S.B b) :
    Calls Try.prog 26 #[.pointer (some ⟨g, 0, none⟩), .int .i64 n, .int .i64 y] w fun e w' => e = .returned (.int .i64 (changeM S n ⟨2, y, 0⟩).1) ∧ KvO w g tt cs (changeM S n ⟨2, y, 0⟩).2 (N + 1) w' := by
  have HC := Lib.hid (change_any g tt cs S N n ⟨2, y, 0⟩ w h hN hn hy hB)
  clear h hB
  go_enter Try.func26, Try.ntmps26
  go_wp2_with fail
  refine HC.out.mono ?_
  rintro e w1 ⟨rfl, hk⟩
  have HF := Lib.hid hk
  clear hk
  go_wp2
  go_ret
  exact ⟨rfl, HF.out⟩
def valM (S : KS) (y : Int) : Nat × Bool := if keyB y = true then S.V y.toNat else (0, false)
theorem value_nil (y : Int) (w : World) : Calls Try.prog 17 #[.pointer none, .int .i64 y] w fun e w' => e = .returned (.tuple #[.int .u64 0, .bool false]) ∧ w = w' := by
  go_enter Try.func17, Try.ntmps17
  go_wp2
  go_ret2
  exact ⟨rfl, rfl⟩
theorem keyB_nat {y : Int} (h : keyB y = true) : ∃ k : Nat, k < 16 ∧ y = (k : Int) := by
  unfold keyB at h; simp at h; exact ⟨y.toNat, by omega, by omega⟩
set_option maxRecDepth 100000 in
theorem value_any (g : Nat) (tt : TypeId) (cs : Array Value) (S : KS) (N : Nat) (y : Int) (w : World) (h : KvAt w g tt cs S N) :
    Calls Try.prog 17 #[.pointer (some ⟨g, 0, none⟩), .int .i64 y] w fun e w' => e = .returned (.tuple #[.int .u64 ((valM S y).1 : Nat), .bool (valM S y).2]) ∧ Below w.heap.size w w' := by
  rcases hk : keyB y with _ | _
  · have hV : valM S y = (0, false) := by unfold valM; rw [hk]; rfl
    rw [hV]
    have HK := Lib.hid hk
    clear hk h hV
    go_enter Try.func17, Try.ntmps17
    go_wp2_with fail
    refine (kisKey_any y false HK.out w).mono ?_
    rintro e w1 ⟨rfl, rfl⟩
    go_wp2
    go_ret2
    exact ⟨rfl, Below.refl _ _⟩
  · obtain ⟨k, hk16, rfl⟩ := keyB_nat hk
    have hV : valM S (k : Int) = S.V k := by unfold valM; rw [if_pos hk]; simp
    rw [hV]
    obtain ⟨e0, e1⟩ := h.vs k hk16
    have c0 := fun m : Nat => (show (w.drewN m).cell? ⟨g, k * 2, none⟩ = some (.int .u64 ((S.V k).1 : Nat)) from (h.bk.cell (k * 2)).trans (by rw [Nat.mul_comm k 2]; exact e0))
    have c1 := fun m : Nat => (show (w.drewN m).cell? ⟨g, k * 2 + 1, none⟩ = some (.bool (S.V k).2) from (h.bk.cell (k * 2 + 1)).trans (by rw [Nat.mul_comm k 2]; exact e1))
    have HK := Lib.hid hk
    have hkI : (k : Int) < 16 := by omega
    generalize S.V k = z at *
    obtain ⟨za, zb⟩ := z
    clear hk h hV e0 e1
    go_enter Try.func17, Try.ntmps17
    go_wp2_with fail
    refine (kisKey_any (k : Int) true HK.out w).mono ?_
    rintro e w1 ⟨rfl, rfl⟩
    go_wp2_with fail
    go_quiet (fail)
    have hb : Below w.heap.size w (w.drewN nq) := ⟨rfl, rfl, rfl, Nat.le_refl _, fun _ _ => rfl⟩
    clear c0 c1
    go_wp2
    go_ret2
    exact ⟨rfl, hb⟩
/-- A work sees a key. -/
def getM (S : KS) (n y : Int) : (Nat × Bool × Int) × KS :=
  if (openM S n y false).1 = 0 then
    (if h : posN (curW S n).1 y < (curW S n).1.length then ((((curW S n).1[posN (curW S n).1 y]'h).v, (((curW S n).1[posN (curW S n).1 y]'h).k == 1), 0), (openM S n y false).2)
     else (((valM S y).1, (valM S y).2, 0), (openM S n y false).2))
  else ((0, false, (openM S n y false).1), (openM S n y false).2)
theorem get_nil (n y : Int) (w : World) : Calls Try.prog 27 #[.pointer none, .int .i64 n, .int .i64 y] w fun e w' => e = .returned (.tuple #[.int .u64 0, .bool false, .int .i64 6]) ∧ w = w' := by
  go_enter Try.func27, Try.ntmps27
  go_wp2_with fail
  refine (open_nil n y false w).mono ?_
  rintro e w1 ⟨rfl, rfl⟩
  go_wp2
  go_returns
  exact ⟨rfl, rfl⟩
set_option maxRecDepth 100000 in
set_option maxHeartbeats 2000000 in
theorem get_any (g : Nat) (tt : TypeId) (cs : Array Value) (S : KS) (N : Nat) (n y : Int) (w : World) (h : KvAt w g tt cs S N) (hN : N < 300000) (hn : i64ok n) (hy : i64ok y) :
    Calls Try.prog 27 #[.pointer (some ⟨g, 0, none⟩), .int .i64 n, .int .i64 y] w fun e w' => e = .returned (.tuple #[.int .u64 ((getM S n y).1.1 : Nat), .bool (getM S n y).1.2.1, .int .i64 (getM S n y).1.2.2]) ∧ KvO w g tt cs (getM S n y).2 N w' := by
  have HO := Lib.hid (open_any g tt cs S N n y false w h hn hy)
  have Hn := Lib.hid hn
  rcases he : ((openM S n y false).1 == 0) with _ | _
  · have he' : (openM S n y false).1 ≠ 0 := by simpa using he
    have hM : getM S n y = ((0, false, (openM S n y false).1), (openM S n y false).2) := by unfold getM; rw [if_neg he']
    rw [hM]
    obtain ⟨e0, he0⟩ : ∃ e0, e0 = (openM S n y false).1 := ⟨_, rfl⟩
    rw [← he0] at HO he ⊢
    have hne : (e0 != 0) = true := by simp [bne, he]
    clear he' hM he0 h
    go_enter Try.func27, Try.ntmps27
    go_wp2_with fail
    refine HO.out.mono ?_
    rintro e w2 ⟨rfl, hk⟩
    have HF := Lib.hid hk
    clear hk
    go_wp2
    go_returns
    exact ⟨rfl, HF.out⟩
  have he' : (openM S n y false).1 = 0 := by simpa using he
  have hM : getM S n y = (if h : posN (curW S n).1 y < (curW S n).1.length then ((((curW S n).1[posN (curW S n).1 y]'h).v, (((curW S n).1[posN (curW S n).1 y]'h).k == 1), 0), (openM S n y false).2)
     else (((valM S y).1, (valM S y).2, 0), (openM S n y false).2)) := by unfold getM; rw [if_pos he']
  rw [hM]
  have hok := openM_ok he'
  have hW := openM_W S n y false
  rw [he'] at HO
  obtain ⟨S1, hS1⟩ : ∃ S1, S1 = (openM S n y false).2 := ⟨_, rfl⟩
  rw [← hS1] at HO hW ⊢
  have hcur : curW S1 n = curW S n := by unfold curW; rw [hW.1]
  have hval : valM S1 y = valM S y := by unfold valM; rw [hW.2]
  rw [← hcur, ← hval]
  have HC := Lib.hid (And.intro hcur (And.intro hok hW))
  obtain ⟨cl, hcl⟩ : ∃ cl, cl = curW S1 n := ⟨_, rfl⟩
  have hpr : cl.2 = false := by rw [hcl, hcur]; exact hok.1
  rw [← hcl]
  obtain ⟨l, pp⟩ := cl
  have HCL := Lib.hid (And.intro hcl hpr)
  dsimp only
  clear he he' hM hok hW hS1 hcur hval h hcl hpr
  by_cases hp : posN l y < l.length
  · rw [dif_pos hp]
    have hpI : posI l y = (posN l y : Int) := by unfold posI; rw [if_pos hp]
    obtain ⟨p, hpp⟩ : ∃ p, p = posN l y := ⟨_, rfl⟩
    have hx : l[posN l y]'hp = l[p]'(by rw [hpp]; exact hp) := by simp only [hpp]
    rw [← hpp] at hpI
    have hpl : p < l.length := by rw [hpp]; exact hp
    obtain ⟨x, hxx⟩ : ∃ x, x = l[p]'hpl := ⟨_, rfl⟩
    rw [hx, ← hxx]
    obtain ⟨tb, htb⟩ : ∃ tb, (x.k == 1) = tb := ⟨_, rfl⟩
    rw [htb]
    have HX := Lib.hid (And.intro hpI hxx)
    clear hpI hx hpp hxx hp
    go_enter Try.func27, Try.ntmps27
    go_wp2_with fail
    refine HO.out.mono ?_
    rintro e w2 ⟨rfl, ⟨⟨cs1, hk1, hkp⟩, hg2⟩⟩
    obtain ⟨m, A, q, c, h32, hq, hc, r1, _⟩ := hk1.look Hn.out
    have hlen : (curW S1 n).1.length ≤ N := by
      unfold curW
      rcases hW : S1.W n with _ | ⟨l, p⟩
      · exact Nat.zero_le _
      · exact (hk1.le n l p hW).1
    rw [← HCL.out.1] at hq hc r1 hlen
    rw [HCL.out.2] at r1
    have c32 := (hk1.bk.cell 32).trans h32
    dsimp only at hq hc hlen
    obtain ⟨w3, hw3⟩ : ∃ w3, w3 = w2.alloc (.cells #[.slice A q c, .bool false] 81) := ⟨_, rfl⟩
    have b3 : Below w2.heap.size w2 w3 := by rw [hw3]; exact ba _ _
    have kw : Blk w3 w2.heap.size 81 #[.slice A q c, .bool false] := by rw [hw3]; exact Blk.new _ _ _
    have HP := Lib.hid (kplace_any A l q c y (Lib.hid hq) (by omega) w3 (hc.below b3))
    have d0 := kw.cell 0
    simp only [List.getElem?_toArray, List.getElem?_cons_zero, List.getElem?_cons_succ] at d0
    have H3 := Lib.hid (And.intro (hk1.below b3) (And.intro hkp (And.intro (hg2.trans (lbelow_grown b3 _)) (And.intro kw (And.intro (hc.below b3) hq)))))
    have HW3 := Lib.hid hw3
    rw [hw3] at d0
    clear hw3 b3 kw hk1 hkp hg2 hc h32 hlen hq
    go_wp2_with fail
    rw [← HW3.out]
    refine HP.out.mono ?_
    rintro e w4 ⟨rfl, b4⟩
    clear d0 r1 c32
    obtain ⟨hk3, hkp, hg3, kw, hc3, hq⟩ := H3.out
    have hk4 := hk3.below b4
    have hg4 := hg3.trans (lbelow_grown b4 (some g))
    have kw4 := kw.below b4 kw.lt
    have hc4 := hc3.below b4
    rw [HX.out.1]
    obtain ⟨b, o, rfl, hbk, hcs⟩ := hc4 (by omega)
    obtain ⟨q0, q1, q2⟩ := hcs p hpl
    rw [← HX.out.2] at q0 q1 q2
    have p0 := fun m : Nat => (show (w4.drewN m).cell? ⟨b, o + p * 3, none⟩ = _ from q0)
    have p2 := fun m : Nat => (show (w4.drewN m).cell? ⟨b, o + p * 3 + 2, none⟩ = _ from q2)
    have d0 := fun m : Nat => (show (w4.drewN m).cell? ⟨w2.heap.size, 0, none⟩ = some (.slice (some ⟨b, o, none⟩) q c) from (kw4.cell 0).trans rfl)
    have hpq : (p : Int) < (q : Int) := by omega
    have HF := Lib.hid (And.intro hk4 (And.intro hkp hg4))
    clear hk3 hkp hg3 kw hc3 hq hk4 hg4 kw4 hc4 hcs q0 q1 q2 hbk b4
    go_wp2_with fail
    go_quiet (fail)
    have hb : Below w4.heap.size w4 (w4.drewN nq) := ⟨rfl, rfl, rfl, Nat.le_refl _, fun _ _ => rfl⟩
    have HG := Lib.hid (And.intro (HF.out.1.below hb) (HF.out.2.2.trans (lbelow_grown hb (some g))))
    clear p0 p2 d0 hb
    go_wp2
    go_returns
    exact ⟨rfl, ⟨cs1, HG.out.1, HF.out.2.1⟩, HG.out.2⟩
  · rw [dif_neg hp]
    have hpI : Hid (posI l y = -1) := Lib.hid (by unfold posI; rw [if_neg hp])
    obtain ⟨vv, hvv⟩ : ∃ vv, vv = valM S1 y := ⟨_, rfl⟩
    rw [← hvv]
    have HVV := Lib.hid hvv
    obtain ⟨va, vb⟩ := vv
    clear hp hvv
    go_enter Try.func27, Try.ntmps27
    go_wp2_with fail
    refine HO.out.mono ?_
    rintro e w2 ⟨rfl, ⟨⟨cs1, hk1, hkp⟩, hg2⟩⟩
    obtain ⟨m, A, q, c, h32, hq, hc, r1, _⟩ := hk1.look Hn.out
    have hlen : (curW S1 n).1.length ≤ N := by
      unfold curW
      rcases hW : S1.W n with _ | ⟨l, p⟩
      · exact Nat.zero_le _
      · exact (hk1.le n l p hW).1
    rw [← HCL.out.1] at hq hc r1 hlen
    rw [HCL.out.2] at r1
    have c32 := (hk1.bk.cell 32).trans h32
    dsimp only at hq hc hlen
    obtain ⟨w3, hw3⟩ : ∃ w3, w3 = w2.alloc (.cells #[.slice A q c, .bool false] 81) := ⟨_, rfl⟩
    have b3 : Below w2.heap.size w2 w3 := by rw [hw3]; exact ba _ _
    have kw : Blk w3 w2.heap.size 81 #[.slice A q c, .bool false] := by rw [hw3]; exact Blk.new _ _ _
    have HP := Lib.hid (kplace_any A l q c y (Lib.hid hq) (by omega) w3 (hc.below b3))
    have d0 := kw.cell 0
    simp only [List.getElem?_toArray, List.getElem?_cons_zero, List.getElem?_cons_succ] at d0
    have H3 := Lib.hid (And.intro (hk1.below b3) (And.intro hkp (And.intro (hg2.trans (lbelow_grown b3 _)) (And.intro kw (And.intro (hc.below b3) hq)))))
    have HW3 := Lib.hid hw3
    rw [hw3] at d0
    clear hw3 b3 kw hk1 hkp hg2 hc h32 hlen hq
    go_wp2_with fail
    rw [← HW3.out]
    refine HP.out.mono ?_
    rintro e w4 ⟨rfl, b4⟩
    clear d0 r1 c32
    obtain ⟨hk3, hkp, hg3, kw, hc3, hq⟩ := H3.out
    have hk4 := hk3.below b4
    have hg4 := hg3.trans (lbelow_grown b4 (some g))
    have kw4 := kw.below b4 kw.lt
    have hc4 := hc3.below b4
    rw [hpI.out]
    have hv := value_any g tt cs1 S1 N y w4 hk4
    rw [← HVV.out] at hv
    have HV := Lib.hid hv
    have HF := Lib.hid (And.intro hk4 (And.intro hkp hg4))
    clear hk3 hkp hg3 kw hc3 hq hk4 hg4 kw4 hc4 b4 hv
    go_wp2_with fail
    refine HV.out.mono ?_
    rintro e w5 ⟨rfl, b5⟩
    have HG := Lib.hid (And.intro (HF.out.1.below b5) (HF.out.2.2.trans (lbelow_grown b5 (some g))))
    clear b5
    go_wp2
    go_returns
    exact ⟨rfl, ⟨cs1, HG.out.1, HF.out.2.1⟩, HG.out.2⟩
end Go.Proofs.Ytnpoicgincndkaa
