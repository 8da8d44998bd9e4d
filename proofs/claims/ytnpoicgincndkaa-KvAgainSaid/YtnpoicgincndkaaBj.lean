/- Layer 13: a work is committed; is a work there? -/
import Derived.Test.YtnpoicgincndkaaBi
import Derived.Test.YtnpoicgincndkaaInvJ
namespace Go.Proofs.Ytnpoicgincndkaa
open Go.RowKit Go.Maps
set_option linter.unusedVariables false
set_option linter.unusedSimpArgs false

def setV (V : Nat → Nat × Bool) (x : Ch) : Nat → Nat × Bool := fun k => if k = x.y.toNat then (x.v, x.k == 1) else V k
/-- A value has turned. -/
theorem KvAt.valued {w : World} {g N : Nat} {tt : TypeId} {cs : Array Value} {S : KS} (h : KvAt w g tt cs S N) (k : Nat) (hk : k < 16) (x : Ch) (hx : x.y = (k : Int)) :
    ∃ cs', KvAt ((w.setCell ⟨g, k * 2, none⟩ (.int .u64 (x.v : Nat))).setCell ⟨g, k * 2 + 1, none⟩ (.bool (x.k == 1))) g tt cs' { S with V := setV S.V x } N ∧ Keep cs cs' := by
  obtain ⟨h1, h2, h3, ⟨mw, G, h4, h5, h6⟩, ⟨h7, m2, h8, h9⟩, h10⟩ := h
  have ge := (lgrown_set w ⟨g, k * 2, none⟩ (.int .u64 (x.v : Nat))).trans (lgrown_set (w.setCell ⟨g, k * 2, none⟩ (.int .u64 (x.v : Nat))) ⟨g, k * 2 + 1, none⟩ (.bool (x.k == 1)))
  have hkx : x.y.toNat = k := by rw [hx]; simp
  refine ⟨_, ⟨(h1.set_ (k * 2) _).set_ (k * 2 + 1) _, h2, fun j hj => ?_, ⟨mw, G, ?_, h5.kept ge h1, h6.same fun A l hc => hc.kept ge h1 h2⟩, ⟨h7, m2, ?_, h9.kept ge h1⟩, h10⟩, (Keep.set _ _ (by omega) _).trans (Keep.set _ _ (by omega) _)⟩
  · have hv := h3 j hj
    show _ = some (Value.int .u64 ((setV S.V x j).1 : Nat)) ∧ _ = some (Value.bool (setV S.V x j).2)
    unfold setV
    rw [hkx]
    have h0 := h3 k hk
    have hs1 : 2 * k < cs.size := (Array.getElem?_eq_some_iff.1 h0.1).1
    have hs2 : 2 * k + 1 < cs.size := (Array.getElem?_eq_some_iff.1 h0.2).1
    by_cases e : j = k
    · subst e
      rw [if_pos rfl]
      constructor
      · rw [Array.getElem?_setIfInBounds_ne (by omega), Nat.mul_comm, Array.getElem?_setIfInBounds_self_of_lt (by omega)]
      · rw [Nat.mul_comm j 2, Array.getElem?_setIfInBounds_self_of_lt (by simp; omega)]
    · rw [if_neg e]
      constructor
      · rw [Array.getElem?_setIfInBounds_ne (by omega), Array.getElem?_setIfInBounds_ne (by omega)]; exact hv.1
      · rw [Array.getElem?_setIfInBounds_ne (by omega), Array.getElem?_setIfInBounds_ne (by omega)]; exact hv.2
  · rw [Array.getElem?_setIfInBounds_ne (by omega), Array.getElem?_setIfInBounds_ne (by omega)]; exact h4
  · rw [Array.getElem?_setIfInBounds_ne (by omega), Array.getElem?_setIfInBounds_ne (by omega)]; exact h8
def VCm (g tb k v : Nat) (kd : Int) (th : Bool) (i : Nat) (v_ : Value) : Prop :=
  match i with
  | 0 => v_ = .pointer (some ⟨g, 0, none⟩)
  | 1 => v_ = .pointer (some ⟨tb, 1, none⟩)
  | 2 => v_ = .int .i64 (k : Nat)
  | 3 => v_ = .pointer (some ⟨tb, 2, none⟩)
  | 4 => v_ = .int .u64 (v : Nat)
  | 5 => v_ = .pointer (some ⟨tb, 0, none⟩)
  | 6 => v_ = .int .i64 kd
  | 7 => v_ = .bool th
  | 8 => v_ = .agg #[.int .u64 (v : Nat), .bool th]
  | 9 => v_ = .pointer (some ⟨g, 0, none⟩)
  | 10 => v_ = .pointer (some ⟨g, 0, none⟩)
  | 11 => v_ = .pointer (some ⟨g, k * 2, none⟩)
  | _ => True
structure CCm (wA : World) (g tb k v : Nat) (kd y : Int) (th : Bool) (ls : Nat → Bool) (x : Nat → Value) (u : World) : Prop where
  b : Blk u tb 47 #[.int .i64 kd, .int .i64 y, .int .u64 (v : Nat)]
  n : ls 12 = false → u = wA.drew
  s : ls 12 = true → u = (wA.drew.setCell ⟨g, k * 2, none⟩ (.int .u64 (v : Nat))).setCell ⟨g, k * 2 + 1, none⟩ (.bool th)
theorem CCm.pure {wA : World} {g tb k v : Nat} {kd y : Int} {th : Bool} {ls : Nat → Bool} {x : Nat → Value} {u : World} {i : Nat} {z : Value} (hi : i ≠ 12) (h : CCm wA g tb k v kd y th ls x u) : CCm wA g tb k v kd y th (updB ls i) (upd x i z) u := by
  obtain ⟨h1, h2, h3⟩ := h
  exact ⟨h1, by rw [updB_other hi.symm]; exact h2, by rw [updB_other hi.symm]; exact h3⟩
def commitM (S : KS) (n : Int) : Int × KS := if n < 1 then (1, S) else (0, dropM { S with V := (curW S n).1.foldl setV S.V } n)
theorem commit_nil (n : Int) (w : World) : Calls Try.prog 23 #[.pointer none, .int .i64 n] w fun e w' => e = .returned (.int .i64 6) ∧ w = w' := by
  go_enter Try.func23, Try.ntmps23
  go_wp2_with fail
  refine (names_nil n w).mono ?_
  rintro e w1 ⟨rfl, rfl⟩
  go_wp2
  go_ret
  exact ⟨rfl, rfl⟩
set_option maxRecDepth 100000 in
set_option maxHeartbeats 4000000 in
theorem commit_any (g : Nat) (tt : TypeId) (cs : Array Value) (S : KS) (N : Nat) (n : Int) (w : World) (h : KvAt w g tt cs S N) (hN : N < 300000) (hn : i64ok n) :
    Calls Try.prog 23 #[.pointer (some ⟨g, 0, none⟩), .int .i64 n] w fun e w' => e = .returned (.int .i64 (commitM S n).1) ∧ KvO w g tt cs (commitM S n).2 N w' := by
  have HN := Lib.hid (names_any g n w)
  by_cases h1 : n < 1
  · have hM : commitM S n = (1, S) := if_pos h1
    rw [hM]
    have HF := Lib.hid (KvO.same h (Below.refl _ _))
    have hE : namesE n = 1 := if_pos h1
    rw [hE] at HN
    clear h hM hE
    go_enter Try.func23, Try.ntmps23
    go_wp2_with fail
    refine HN.out.mono ?_
    rintro e w1 ⟨rfl, rfl⟩
    go_wp2
    go_ret
    exact ⟨rfl, HF.out⟩
  have hM : commitM S n = (0, dropM { S with V := (curW S n).1.foldl setV S.V } n) := if_neg h1
  rw [hM]
  have hE : namesE n = 0 := if_neg h1
  rw [hE] at HN
  obtain ⟨m, A, q, c, h32, hq, hc, r1, _⟩ := h.look hn
  have hlen : (curW S n).1.length ≤ N := by
    unfold curW
    rcases hW : S.W n with _ | ⟨l, p⟩
    · exact Nat.zero_le _
    · exact (h.le n l p hW).1
  have hkl : ∀ x ∈ (curW S n).1, keyB x.y = true := by
    unfold curW
    rcases hW : S.W n with _ | ⟨l, p⟩
    · intro x hx; simp at hx
    · exact (h.le n l p hW).2
  have c32 := (h.bk.cell 32).trans h32
  obtain ⟨cl, hcl⟩ : ∃ cl, cl = curW S n := ⟨_, rfl⟩
  rw [← hcl] at hq hc r1 hlen hkl ⊢
  obtain ⟨l, pr⟩ := cl
  dsimp only at hq hc r1 hlen hkl ⊢
  have hf0 := fieldW0 A q c pr
  have hf1 := fieldC0 A q c
  have H := Lib.hid (And.intro h (And.intro hn (And.intro hq (And.intro hkl hc))))
  have hqm : q ≤ 9223372036854775807 := by omega
  clear h hM hE hn hq hkl hc h32 hlen hcl
  go_enter Try.func23, Try.ntmps23
  go_wp2_with fail
  refine HN.out.mono ?_
  rintro e w1 ⟨rfl, rfl⟩
  go_wp2_with fail
  clear c32 r1 hf0 hf1
  go_loopw [23] (fun i wr => ∃ (i0 : Nat), i0 ≤ q ∧ i = .int .i64 i0 ∧ Hid (∃ cs', KvAt wr g tt cs' { S with V := (l.take i0).foldl setV S.V } N ∧ Keep cs cs' ∧ w.grownBy wr (some g) ∧ ChAt wr S.B A l)) (fun i _ => q - (intOf i).toNat)
  case atStart => exact ⟨0, Nat.zero_le _, rfl, Lib.hid ⟨cs, H.out.1, Keep.rfl', ⟨rfl, rfl, rfl, Nat.le_refl _, fun _ _ _ => rfl⟩, H.out.2.2.2.2⟩⟩
  case round =>
    obtain ⟨i0, hi, rfl, HR⟩ := hrel
    by_cases hiq : i0 < q
    · have hiI : (i0 : Int) < (q : Int) := by omega
      obtain ⟨cs', hk, hkp, hg, hc⟩ := HR.out
      have hil : i0 < l.length := by rw [← H.out.2.2.1]; exact hiq
      obtain ⟨b, o, rfl, hbk, hcs⟩ := hc (by omega)
      obtain ⟨q0, q1, q2⟩ := hcs i0 hil
      obtain ⟨x, hx⟩ : ∃ x, x = l[i0]'hil := ⟨_, rfl⟩
      rw [← hx] at q0 q1 q2
      obtain ⟨k, hk16, hxy⟩ := keyB_nat (H.out.2.2.2.1 x (by rw [hx]; exact List.getElem_mem hil))
      have HX : Hid ((l.take (i0 + 1)).foldl setV S.V = setV ((l.take i0).foldl setV S.V) x) := Lib.hid (by
        rw [List.take_add_one, List.getElem?_eq_getElem hil, List.foldl_append, hx]; rfl)
      obtain ⟨kd, y, v⟩ := x
      dsimp only at q0 q1 q2 hxy
      subst hxy
      have hkI : (k : Int) < 16 := by omega
      obtain ⟨wA, hwA⟩ : ∃ wA, wA = wr.alloc (.cells #[.int .i64 kd, .int .i64 (k : Nat), .int .u64 (v : Nat)] 47) := ⟨_, rfl⟩
      have bA : Below wr.heap.size wr wA := by rw [hwA]; exact ba _ _
      have kA : Blk wA wr.heap.size 47 #[.int .i64 kd, .int .i64 (k : Nat), .int .u64 (v : Nat)] := by rw [hwA]; exact Blk.new _ _ _
      obtain ⟨th, hth⟩ : ∃ th, (kd == 1) = th := ⟨_, rfl⟩
      have HA := Lib.hid (And.intro (hk.below bA) (And.intro hkp (And.intro (hg.trans (lbelow_grown bA (some g))) (And.intro (hc.below bA) (And.intro kA (And.intro hk16 (show g ≠ wr.heap.size by have := hk.lt; omega)))))))
      have HWA := Lib.hid hwA
      clear hk hkp hg hc hbk hcs hx hil HR hwA bA kA
      go_wp2_with fail
      rw [← HWA.out]
      clear q0 q1 q2
      obtain ⟨tb, htb⟩ : ∃ tb, tb = wr.heap.size := ⟨_, rfl⟩
      rw [← htb] at HA ⊢
      have Hth := Lib.hid hth
      clear htb HWA
      refine wp_region_invJ (F := ?FM) (V := (VCm g tb k v kd th)) (C := (CCm wA g tb k v kd (k : Nat) th)) (by kernel_rfl) (by kernel_rfl) (by kernel_rfl) (fun x => ?hFM) ?hCM ?stepM ?finM
      case hFM => simp only [mkA, Act.put, List.setIfInBounds_toArray, List.set_cons_succ, List.set_cons_zero, Nat.reduceAdd, Nat.zero_add]; first | with_reducible rfl | rfl
      case hCM => exact fun x => ⟨HA.out.2.2.2.2.1, fun _ => rfl, fun e => by simp at e⟩
      case stepM =>
        refine AllOps.cons (fun ls x u hC hl hp K hK => ?_) ?_
        · clear hp
          go_simp
          refine hK _ _ _ (CCm.pure (by decide) hC) (by exact rfl) ?_
          first | (simp only [Act.put, List.setIfInBounds_toArray, List.set_cons_succ, List.set_cons_zero]; done) | simp [Act.put]
        refine AllOps.cons (fun ls x u hC hl hp K hK => ?_) ?_
        · clear hp
          go_simp
          refine hK _ _ _ (CCm.pure (by decide) hC) (by exact rfl) ?_
          first | (simp only [Act.put, List.setIfInBounds_toArray, List.set_cons_succ, List.set_cons_zero]; done) | simp [Act.put]
        refine AllOps.cons (fun ls x u hC hl hp K hK => ?_) ?_
        · simp [KnownTill, Region.binds, VCm] at hp
          have cc := hC.b.cell 1
          simp only [List.getElem?_toArray, List.getElem?_cons_zero, List.getElem?_cons_succ] at cc
          go_simp
          refine hK _ _ _ (CCm.pure (by decide) hC) (by exact rfl) ?_
          first | (simp only [Act.put, List.setIfInBounds_toArray, List.set_cons_succ, List.set_cons_zero, hp]; done) | simp [Act.put, hp]
        refine AllOps.cons (fun ls x u hC hl hp K hK => ?_) ?_
        · clear hp
          go_simp
          refine hK _ _ _ (CCm.pure (by decide) hC) (by exact rfl) ?_
          first | (simp only [Act.put, List.setIfInBounds_toArray, List.set_cons_succ, List.set_cons_zero]; done) | simp [Act.put]
        refine AllOps.cons (fun ls x u hC hl hp K hK => ?_) ?_
        · simp [KnownTill, Region.binds, VCm] at hp
          have cc := hC.b.cell 2
          simp only [List.getElem?_toArray, List.getElem?_cons_zero, List.getElem?_cons_succ] at cc
          go_simp
          refine hK _ _ _ (CCm.pure (by decide) hC) (by exact rfl) ?_
          first | (simp only [Act.put, List.setIfInBounds_toArray, List.set_cons_succ, List.set_cons_zero, hp]; done) | simp [Act.put, hp]
        refine AllOps.cons (fun ls x u hC hl hp K hK => ?_) ?_
        · clear hp
          go_simp
          refine hK _ _ _ (CCm.pure (by decide) hC) (by exact rfl) ?_
          first | (simp only [Act.put, List.setIfInBounds_toArray, List.set_cons_succ, List.set_cons_zero]; done) | simp [Act.put]
        refine AllOps.cons (fun ls x u hC hl hp K hK => ?_) ?_
        · simp [KnownTill, Region.binds, VCm] at hp
          have cc := hC.b.cell 0
          simp only [List.getElem?_toArray, List.getElem?_cons_zero, List.getElem?_cons_succ] at cc
          go_simp
          refine hK _ _ _ (CCm.pure (by decide) hC) (by exact rfl) ?_
          first | (simp only [Act.put, List.setIfInBounds_toArray, List.set_cons_succ, List.set_cons_zero, hp]; done) | simp [Act.put, hp]
        refine AllOps.cons (fun ls x u hC hl hp K hK => ?_) ?_
        · simp [KnownTill, Region.binds, VCm] at hp
          go_simp
          refine hK _ _ _ (CCm.pure (by decide) hC) (by exact rfl) ?_
          first | (simp only [Act.put, List.setIfInBounds_toArray, List.set_cons_succ, List.set_cons_zero, hp]; done) | simp [Act.put, hp]
        refine AllOps.cons (fun ls x u hC hl hp K hK => ?_) ?_
        · simp [KnownTill, Region.binds, VCm] at hp
          go_simp
          refine hK _ _ _ (CCm.pure (by decide) hC) (by exact rfl) ?_
          first | (simp only [Act.put, List.setIfInBounds_toArray, List.set_cons_succ, List.set_cons_zero, hp]; done) | simp [Act.put, hp]
        refine AllOps.cons (fun ls x u hC hl hp K hK => ?_) ?_
        · simp [KnownTill, Region.binds, VCm] at hp
          go_simp
          refine hK _ _ _ (CCm.pure (by decide) hC) (by exact rfl) ?_
          first | (simp only [Act.put, List.setIfInBounds_toArray, List.set_cons_succ, List.set_cons_zero, hp]; done) | simp [Act.put, hp]
        refine AllOps.cons (fun ls x u hC hl hp K hK => ?_) ?_
        · simp [KnownTill, Region.binds, VCm] at hp
          go_simp
          refine hK _ _ _ (CCm.pure (by decide) hC) (by exact rfl) ?_
          first | (simp only [Act.put, List.setIfInBounds_toArray, List.set_cons_succ, List.set_cons_zero, hp]; done) | simp [Act.put, hp]
        refine AllOps.cons (fun ls x u hC hl hp K hK => ?_) ?_
        · simp [KnownTill, Region.binds, VCm] at hp
          go_simp
          refine hK _ _ _ (CCm.pure (by decide) hC) (by exact rfl) ?_
          first | (simp only [Act.put, List.setIfInBounds_toArray, List.set_cons_succ, List.set_cons_zero, hp]; done) | simp [Act.put, hp]
        refine AllOps.cons (fun ls x u hC hl hp K hK => ?_) ?_
        · simp [KnownTill, Region.binds, VCm] at hp
          have hu := hC.n hl
          have hkd : KvAt u g tt cs' { S with V := (l.take i0).foldl setV S.V } N := by rw [hu]; exact HA.out.1.below ⟨rfl, rfl, rfl, Nat.le_refl _, fun _ _ => rfl⟩
          obtain ⟨e0, e1⟩ := hkd.vs k HA.out.2.2.2.2.2.1
          rw [Nat.mul_comm 2 k] at e0 e1
          have s0 := (hkd.bk.cell (k * 2)).trans e0
          have g0 := hkd.bk.frozen (k * 2)
          have hb1 := hkd.bk.set_ (k * 2) (.int .u64 (v : Nat))
          have s1 := (hb1.cell (k * 2 + 1)).trans ((Array.getElem?_setIfInBounds_ne (by omega)).trans e1)
          have g1 := hb1.frozen (k * 2 + 1)
          have nC : CCm wA g tb k v kd (k : Nat) th (updB ls 12) (upd x 12 undef) ((u.setCell ⟨g, k * 2, none⟩ (.int .u64 (v : Nat))).setCell ⟨g, k * 2 + 1, none⟩ (.bool th)) := ⟨(hC.b.far (by have := HA.out.2.2.2.2.2.2; dsimp only; omega) _).far (by have := HA.out.2.2.2.2.2.2; dsimp only; omega) _, (fun e => by rw [updB_same] at e; cases e), (fun _ => by rw [hu])⟩
          clear hb1 e0 e1 hkd hC hu
          go_simp
          refine hK undef _ _ nC trivial ?_
          first | (simp only [Act.put, List.setIfInBounds_toArray, List.set_cons_succ, List.set_cons_zero, hp]; done) | simp [Act.put, hp]
        exact AllOps.nil
      case finM =>
        intro ls x u hC hV
        have hu := hC.s (hV 12 (by decide)).1
        have hkd : KvAt wA.drew g tt cs' { S with V := (l.take i0).foldl setV S.V } N := HA.out.1.below ⟨rfl, rfl, rfl, Nat.le_refl _, fun _ _ => rfl⟩
        obtain ⟨cs2, hk2, hkp2⟩ := hkd.valued k HA.out.2.2.2.2.2.1 ⟨kd, (k : Int), v⟩ rfl
        have hk2' : KvAt u g tt cs2 { S with V := setV ((l.take i0).foldl setV S.V) ⟨kd, (k : Int), v⟩ } N := by rw [hu, ← Hth.out]; exact hk2
        have gu : wA.grownBy u (some g) := by rw [hu]; exact ((show wA.grownBy wA.drew (some g) from ⟨rfl, rfl, rfl, Nat.le_refl _, fun _ _ _ => rfl⟩).trans (lgrown_set _ ⟨g, k * 2, none⟩ _)).trans (lgrown_set _ ⟨g, k * 2 + 1, none⟩ _)
        have HF : Hid (∃ cs', KvAt u g tt cs' { S with V := (l.take (i0 + 1)).foldl setV S.V } N ∧ Keep cs cs' ∧ w.grownBy u (some g) ∧ ChAt u S.B (some ⟨b, o, none⟩) l) := Lib.hid ⟨cs2, by rw [HX.out]; exact hk2', HA.out.2.1.trans hkp2, HA.out.2.2.1.trans gu, HA.out.2.2.2.1.kept gu HA.out.1.bk HA.out.1.ty⟩
        clear hC hV hu hkd hk2 hkp2 hk2' gu
        go_wp2
        go_roundw
        case rel => exact ⟨i0 + 1, by omega, by go_num, HF⟩
        case measure => simp [intOf]; omega
    · obtain rfl : i0 = q := by omega
      have hiI : ¬ (i0 : Int) < (i0 : Int) := by omega
      obtain ⟨cs', hk, hkp, hg, _⟩ := HR.out
      have ht : l.take i0 = l := List.take_of_length_le (by rw [H.out.2.2.1]; exact Nat.le_refl _)
      rw [ht] at hk
      have HD := Lib.hid (kdrop_any g tt cs' _ N n wr hk H.out.2.1)
      have HK := Lib.hid (And.intro hkp hg)
      clear hk hkp hg HR ht
      go_wp2_with fail
      refine HD.out.mono ?_
      rintro e w2 ⟨rfl, hd⟩
      have HF := Lib.hid (KvO.from HK.out.1 HK.out.2 hd)
      clear hd
      go_wp2
      go_ret
      exact ⟨rfl, HF.out⟩
end Go.Proofs.Ytnpoicgincndkaa
