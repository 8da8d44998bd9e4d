/- Parts Bj Bk Bl of one proof. -/
import Derived.Test.YtlliaihmfimdoaaGreatMg11
namespace Go.Proofs.YtlliaihmfimdoaaGreat
open Go.RowKit Go.Maps
set_option linter.unusedVariables false
set_option linter.unusedSimpArgs false

def setV (V : Nat → Nat × Bool) (x : Ch) : Nat → Nat × Bool := fun k => if k = x.y.toNat then (x.v, x.k == 1) else V k
/-- A value has turned. -/
theorem KvAt.valued {w : World} {g N : Nat} {tt : TypeId} {cs : Array Value} {S : KS} (h : KvAt w g tt cs S N) (k : Nat) (hk : k < 16) (x : Ch) (hx : x.y = (k : Int)) :
    ∃ cs', KvAt ((w.setCell ⟨g, k * 2, none⟩ (.int .u64 (x.v : Nat))).setCell ⟨g, k * 2 + 1, none⟩ (.bool (x.k == 1))) g tt cs' { S with V := setV S.V x } N ∧ Keep cs cs' := by
  obtain ⟨h1, h2, h3, ⟨mw, G, h4, h5, h6⟩, ⟨h7, m2, h8, h9⟩, h10⟩ := h
  have ge := (lgrown_set w ⟨g, k * 2, none⟩ (.int .u64 (x.v : Nat))).trans (lgrown_set (w.setCell ⟨g, k * 2, none⟩ (.int .u64 (x.v : Nat))) ⟨g, k * 2 + 1, none⟩ (.bool (x.k == 1)))
  have hkx : x.y.toNat = k := by rw [hx]; simp
  refine ⟨_, ⟨(h1.set_ (k * 2) _).set_ (k * 2 + 1) _, h2, fun j hj => ?_, ⟨mw, G, ?_, h5.kept ge h1, h6.same fun A l hc => hc.kept ge h1 h2⟩, ⟨h7, m2, ?_, h9.kept ge h1⟩, h10⟩, (Keep.set _ _ (by omega) _).trans (Keep.set _ _ (by omega) _)⟩
  · have hv := h3 j hj
    show _ = some (Value.int .u64 ((setV S.V x j).1 : Nat)) ∧ _ = some (Value.bool (setV S.V x j).2)
    unfold setV
    rw [hkx]
    have h0 := h3 k hk
    have hs1 : 2 * k < cs.size := (Array.getElem?_eq_some_iff.1 h0.1).1
    have hs2 : 2 * k + 1 < cs.size := (Array.getElem?_eq_some_iff.1 h0.2).1
    by_cases e : j = k
    · subst e
      rw [if_pos rfl]
      constructor
      · rw [Array.getElem?_setIfInBounds_ne (by omega), Nat.mul_comm, Array.getElem?_setIfInBounds_self_of_lt (by omega)]
      · rw [Nat.mul_comm j 2, Array.getElem?_setIfInBounds_self_of_lt (by simp; omega)]
    · rw [if_neg e]
      constructor
      · rw [Array.getElem?_setIfInBounds_ne (by omega), Array.getElem?_setIfInBounds_ne (by omega)]; exact hv.1
      · rw [Array.getElem?_setIfInBounds_ne (by omega), Array.getElem?_setIfInBounds_ne (by omega)]; exact hv.2
  · rw [Array.getElem?_setIfInBounds_ne (by omega), Array.getElem?_setIfInBounds_ne (by omega)]; exact h4
  · rw [Array.getElem?_setIfInBounds_ne (by omega), Array.getElem?_setIfInBounds_ne (by omega)]; exact h8
def VCm (g tb k v : Nat) (kd : Int) (th : Bool) (i : Nat) (v_ : Value) : Prop :=
  match i with
  | 0 => v_ = .pointer (some ⟨g, 0, none⟩)
  | 1 => v_ = .pointer (some ⟨tb, 1, none⟩)
  | 2 => v_ = .int .i64 (k : Nat)
  | 3 => v_ = .pointer (some ⟨tb, 2, none⟩)
  | 4 => v_ = .int .u64 (v : Nat)
  | 5 => v_ = .pointer (some ⟨tb, 0, none⟩)
  | 6 => v_ = .int .i64 kd
  | 7 => v_ = .bool th
  | 8 => v_ = .agg #[.int .u64 (v : Nat), .bool th]
  | 9 => v_ = .pointer (some ⟨g, 0, none⟩)
  | 10 => v_ = .pointer (some ⟨g, 0, none⟩)
  | 11 => v_ = .pointer (some ⟨g, k * 2, none⟩)
  | _ => True
structure CCm (wA : World) (g tb k v : Nat) (kd y : Int) (th : Bool) (ls : Nat → Bool) (x : Nat → Value) (u : World) : Prop where
  b : Blk u tb 74 #[.int .i64 kd, .int .i64 y, .int .u64 (v : Nat)]
  n : ls 12 = false → u = wA.drew
  s : ls 12 = true → u = (wA.drew.setCell ⟨g, k * 2, none⟩ (.int .u64 (v : Nat))).setCell ⟨g, k * 2 + 1, none⟩ (.bool th)
theorem CCm.pure {wA : World} {g tb k v : Nat} {kd y : Int} {th : Bool} {ls : Nat → Bool} {x : Nat → Value} {u : World} {i : Nat} {z : Value} (hi : i ≠ 12) (h : CCm wA g tb k v kd y th ls x u) : CCm wA g tb k v kd y th (updB ls i) (upd x i z) u := by
  obtain ⟨h1, h2, h3⟩ := h
  exact ⟨h1, by rw [updB_other hi.symm]; exact h2, by rw [updB_other hi.symm]; exact h3⟩
def commitM (S : KS) (n : Int) : Int × KS := if n < 1 then (1, S) else (0, dropM { S with V := (curW S n).1.foldl setV S.V } n)
theorem commit_nil (n : Int) (w : World) : Calls Tryz.prog 67 #[.pointer none, .int .i64 n] w fun e w' => e = .returned (.int .i64 6) ∧ w = w' := by
  go_enter Tryz.func67, Tryz.ntmps67
  go_wp2_with fail
  refine (names_nil n w).mono ?_
  rintro e w1 ⟨rfl, rfl⟩
  go_wp2
  go_ret
  exact ⟨rfl, rfl⟩
set_option maxRecDepth 100000 in
set_option maxHeartbeats 4000000 in
theorem commit_any (g : Nat) (tt : TypeId) (cs : Array Value) (S : KS) (N : Nat) (n : Int) (w : World) (h : KvAt w g tt cs S N) (hN : N < 300000) (hn : i64ok n) :
    Calls Tryz.prog 67 #[.pointer (some ⟨g, 0, none⟩), .int .i64 n] w fun e w' => e = .returned (.int .i64 (commitM S n).1) ∧ KvO w g tt cs (commitM S n).2 N w' := by
  have HN := Lib.hid (names_any g n w)
  by_cases h1 : n < 1
  · have hM : commitM S n = (1, S) := if_pos h1
    rw [hM]
    have HF := Lib.hid (KvO.same h (Below.refl _ _))
    have hE : namesE n = 1 := if_pos h1
    rw [hE] at HN
    clear h hM hE
    go_enter Tryz.func67, Tryz.ntmps67
    go_wp2_with fail
    refine HN.out.mono ?_
    rintro e w1 ⟨rfl, rfl⟩
    go_wp2
    go_ret
    exact ⟨rfl, HF.out⟩
  have hM : commitM S n = (0, dropM { S with V := (curW S n).1.foldl setV S.V } n) := if_neg h1
  rw [hM]
  have hE : namesE n = 0 := if_neg h1
  rw [hE] at HN
  obtain ⟨m, A, q, c, h32, hq, hc, r1, _⟩ := h.look hn
  have hlen : (curW S n).1.length ≤ N := by
    unfold curW
    rcases hW : S.W n with _ | ⟨l, p⟩
    · exact Nat.zero_le _
    · exact (h.le n l p hW).1
  have hkl : ∀ x ∈ (curW S n).1, keyB x.y = true := by
    unfold curW
    rcases hW : S.W n with _ | ⟨l, p⟩
    · intro x hx; simp at hx
    · exact (h.le n l p hW).2
  have c32 := (h.bk.cell 32).trans h32
  obtain ⟨cl, hcl⟩ : ∃ cl, cl = curW S n := ⟨_, rfl⟩
  rw [← hcl] at hq hc r1 hlen hkl ⊢
  obtain ⟨l, pr⟩ := cl
  dsimp only at hq hc r1 hlen hkl ⊢
  have hf0 := fieldW0 A q c pr
  have hf1 := fieldC0 A q c
  have H := Lib.hid (And.intro h (And.intro hn (And.intro hq (And.intro hkl hc))))
  have hqm : q ≤ 9223372036854775807 := by omega
  clear h hM hE hn hq hkl hc h32 hlen hcl
  go_enter Tryz.func67, Tryz.ntmps67
  go_wp2_with fail
  refine HN.out.mono ?_
  rintro e w1 ⟨rfl, rfl⟩
  go_wp2_with fail
  clear c32 r1 hf0 hf1
  go_loopw [23] (fun i wr => ∃ (i0 : Nat), i0 ≤ q ∧ i = .int .i64 i0 ∧ Hid (∃ cs', KvAt wr g tt cs' { S with V := (l.take i0).foldl setV S.V } N ∧ Keep cs cs' ∧ w.grownBy wr (some g) ∧ ChAt wr S.B A l)) (fun i _ => q - (intOf i).toNat)
  case atStart => exact ⟨0, Nat.zero_le _, rfl, Lib.hid ⟨cs, H.out.1, Keep.rfl', ⟨rfl, rfl, rfl, Nat.le_refl _, fun _ _ _ => rfl⟩, H.out.2.2.2.2⟩⟩
  case round =>
    obtain ⟨i0, hi, rfl, HR⟩ := hrel
    by_cases hiq : i0 < q
    · have hiI : (i0 : Int) < (q : Int) := by omega
      obtain ⟨cs', hk, hkp, hg, hc⟩ := HR.out
      have hil : i0 < l.length := by rw [← H.out.2.2.1]; exact hiq
      obtain ⟨b, o, rfl, hbk, hcs⟩ := hc (by omega)
      obtain ⟨q0, q1, q2⟩ := hcs i0 hil
      obtain ⟨x, hx⟩ : ∃ x, x = l[i0]'hil := ⟨_, rfl⟩
      rw [← hx] at q0 q1 q2
      obtain ⟨k, hk16, hxy⟩ := keyB_nat (H.out.2.2.2.1 x (by rw [hx]; exact List.getElem_mem hil))
      have HX : Hid ((l.take (i0 + 1)).foldl setV S.V = setV ((l.take i0).foldl setV S.V) x) := Lib.hid (by
        rw [List.take_add_one, List.getElem?_eq_getElem hil, List.foldl_append, hx]; rfl)
      obtain ⟨kd, y, v⟩ := x
      dsimp only at q0 q1 q2 hxy
      subst hxy
      have hkI : (k : Int) < 16 := by omega
      obtain ⟨wA, hwA⟩ : ∃ wA, wA = wr.alloc (.cells #[.int .i64 kd, .int .i64 (k : Nat), .int .u64 (v : Nat)] 74) := ⟨_, rfl⟩
      have bA : Below wr.heap.size wr wA := by rw [hwA]; exact ba _ _
      have kA : Blk wA wr.heap.size 74 #[.int .i64 kd, .int .i64 (k : Nat), .int .u64 (v : Nat)] := by rw [hwA]; exact Blk.new _ _ _
      obtain ⟨th, hth⟩ : ∃ th, (kd == 1) = th := ⟨_, rfl⟩
      have HA := Lib.hid (And.intro (hk.below bA) (And.intro hkp (And.intro (hg.trans (lbelow_grown bA (some g))) (And.intro (hc.below bA) (And.intro kA (And.intro hk16 (show g ≠ wr.heap.size by have := hk.lt; omega)))))))
      have HWA := Lib.hid hwA
      clear hk hkp hg hc hbk hcs hx hil HR hwA bA kA
      go_wp2_with fail
      rw [← HWA.out]
      clear q0 q1 q2
      obtain ⟨tb, htb⟩ : ∃ tb, tb = wr.heap.size := ⟨_, rfl⟩
      rw [← htb] at HA ⊢
      have Hth := Lib.hid hth
      clear htb HWA
      refine wp_region_invJ (F := ?FM) (V := (VCm g tb k v kd th)) (C := (CCm wA g tb k v kd (k : Nat) th)) (by kernel_rfl) (by kernel_rfl) (by kernel_rfl) (fun x => ?hFM) ?hCM ?stepM ?finM
      case hFM => simp only [mkA, Act.put, List.setIfInBounds_toArray, List.set_cons_succ, List.set_cons_zero, Nat.reduceAdd, Nat.zero_add]; first | with_reducible rfl | rfl
      case hCM => exact fun x => ⟨HA.out.2.2.2.2.1, fun _ => rfl, fun e => by simp at e⟩
      case stepM =>
        refine AllOps.cons (fun ls x u hC hl hp K hK => ?_) ?_
        · clear hp
          go_simp
          refine hK _ _ _ (CCm.pure (by decide) hC) (by exact rfl) ?_
          first | (simp only [Act.put, List.setIfInBounds_toArray, List.set_cons_succ, List.set_cons_zero]; done) | simp [Act.put]
        refine AllOps.cons (fun ls x u hC hl hp K hK => ?_) ?_
        · clear hp
          go_simp
          refine hK _ _ _ (CCm.pure (by decide) hC) (by exact rfl) ?_
          first | (simp only [Act.put, List.setIfInBounds_toArray, List.set_cons_succ, List.set_cons_zero]; done) | simp [Act.put]
        refine AllOps.cons (fun ls x u hC hl hp K hK => ?_) ?_
        · simp [KnownTill, Region.binds, VCm] at hp
          have cc := hC.b.cell 1
          simp only [List.getElem?_toArray, List.getElem?_cons_zero, List.getElem?_cons_succ] at cc
          go_simp
          refine hK _ _ _ (CCm.pure (by decide) hC) (by exact rfl) ?_
          first | (simp only [Act.put, List.setIfInBounds_toArray, List.set_cons_succ, List.set_cons_zero, hp]; done) | simp [Act.put, hp]
        refine AllOps.cons (fun ls x u hC hl hp K hK => ?_) ?_
        · clear hp
          go_simp
          refine hK _ _ _ (CCm.pure (by decide) hC) (by exact rfl) ?_
          first | (simp only [Act.put, List.setIfInBounds_toArray, List.set_cons_succ, List.set_cons_zero]; done) | simp [Act.put]
        refine AllOps.cons (fun ls x u hC hl hp K hK => ?_) ?_
        · simp [KnownTill, Region.binds, VCm] at hp
          have cc := hC.b.cell 2
          simp only [List.getElem?_toArray, List.getElem?_cons_zero, List.getElem?_cons_succ] at cc
          go_simp
          refine hK _ _ _ (CCm.pure (by decide) hC) (by exact rfl) ?_
          first | (simp only [Act.put, List.setIfInBounds_toArray, List.set_cons_succ, List.set_cons_zero, hp]; done) | simp [Act.put, hp]
        refine AllOps.cons (fun ls x u hC hl hp K hK => ?_) ?_
        · clear hp
          go_simp
          refine hK _ _ _ (CCm.pure (by decide) hC) (by exact rfl) ?_
          first | (simp only [Act.put, List.setIfInBounds_toArray, List.set_cons_succ, List.set_cons_zero]; done) | simp [Act.put]
        refine AllOps.cons (fun ls x u hC hl hp K hK => ?_) ?_
        · simp [KnownTill, Region.binds, VCm] at hp
          have cc := hC.b.cell 0
          simp only [List.getElem?_toArray, List.getElem?_cons_zero, List.getElem?_cons_succ] at cc
          go_simp
          refine hK _ _ _ (CCm.pure (by decide) hC) (by exact rfl) ?_
          first | (simp only [Act.put, List.setIfInBounds_toArray, List.set_cons_succ, List.set_cons_zero, hp]; done) | simp [Act.put, hp]
        refine AllOps.cons (fun ls x u hC hl hp K hK => ?_) ?_
        · simp [KnownTill, Region.binds, VCm] at hp
          go_simp
          refine hK _ _ _ (CCm.pure (by decide) hC) (by exact rfl) ?_
          first | (simp only [Act.put, List.setIfInBounds_toArray, List.set_cons_succ, List.set_cons_zero, hp]; done) | simp [Act.put, hp]
        refine AllOps.cons (fun ls x u hC hl hp K hK => ?_) ?_
        · simp [KnownTill, Region.binds, VCm] at hp
          go_simp
          refine hK _ _ _ (CCm.pure (by decide) hC) (by exact rfl) ?_
          first | (simp only [Act.put, List.setIfInBounds_toArray, List.set_cons_succ, List.set_cons_zero, hp]; done) | simp [Act.put, hp]
        refine AllOps.cons (fun ls x u hC hl hp K hK => ?_) ?_
        · simp [KnownTill, Region.binds, VCm] at hp
          go_simp
          refine hK _ _ _ (CCm.pure (by decide) hC) (by exact rfl) ?_
          first | (simp only [Act.put, List.setIfInBounds_toArray, List.set_cons_succ, List.set_cons_zero, hp]; done) | simp [Act.put, hp]
        refine AllOps.cons (fun ls x u hC hl hp K hK => ?_) ?_
        · simp [KnownTill, Region.binds, VCm] at hp
          go_simp
          refine hK _ _ _ (CCm.pure (by decide) hC) (by exact rfl) ?_
          first | (simp only [Act.put, List.setIfInBounds_toArray, List.set_cons_succ, List.set_cons_zero, hp]; done) | simp [Act.put, hp]
        refine AllOps.cons (fun ls x u hC hl hp K hK => ?_) ?_
        · simp [KnownTill, Region.binds, VCm] at hp
          go_simp
          refine hK _ _ _ (CCm.pure (by decide) hC) (by exact rfl) ?_
          first | (simp only [Act.put, List.setIfInBounds_toArray, List.set_cons_succ, List.set_cons_zero, hp]; done) | simp [Act.put, hp]
        refine AllOps.cons (fun ls x u hC hl hp K hK => ?_) ?_
        · simp [KnownTill, Region.binds, VCm] at hp
          have hu := hC.n hl
          have hkd : KvAt u g tt cs' { S with V := (l.take i0).foldl setV S.V } N := by rw [hu]; exact HA.out.1.below ⟨rfl, rfl, rfl, Nat.le_refl _, fun _ _ => rfl⟩
          obtain ⟨e0, e1⟩ := hkd.vs k HA.out.2.2.2.2.2.1
          rw [Nat.mul_comm 2 k] at e0 e1
          have s0 := (hkd.bk.cell (k * 2)).trans e0
          have g0 := hkd.bk.frozen (k * 2)
          have hb1 := hkd.bk.set_ (k * 2) (.int .u64 (v : Nat))
          have s1 := (hb1.cell (k * 2 + 1)).trans ((Array.getElem?_setIfInBounds_ne (by omega)).trans e1)
          have g1 := hb1.frozen (k * 2 + 1)
          have nC : CCm wA g tb k v kd (k : Nat) th (updB ls 12) (upd x 12 undef) ((u.setCell ⟨g, k * 2, none⟩ (.int .u64 (v : Nat))).setCell ⟨g, k * 2 + 1, none⟩ (.bool th)) := ⟨(hC.b.far (by have := HA.out.2.2.2.2.2.2; dsimp only; omega) _).far (by have := HA.out.2.2.2.2.2.2; dsimp only; omega) _, (fun e => by rw [updB_same] at e; cases e), (fun _ => by rw [hu])⟩
          clear hb1 e0 e1 hkd hC hu
          go_simp
          refine hK undef _ _ nC trivial ?_
          first | (simp only [Act.put, List.setIfInBounds_toArray, List.set_cons_succ, List.set_cons_zero, hp]; done) | simp [Act.put, hp]
        exact AllOps.nil
      case finM =>
        intro ls x u hC hV
        have hu := hC.s (hV 12 (by decide)).1
        have hkd : KvAt wA.drew g tt cs' { S with V := (l.take i0).foldl setV S.V } N := HA.out.1.below ⟨rfl, rfl, rfl, Nat.le_refl _, fun _ _ => rfl⟩
        obtain ⟨cs2, hk2, hkp2⟩ := hkd.valued k HA.out.2.2.2.2.2.1 ⟨kd, (k : Int), v⟩ rfl
        have hk2' : KvAt u g tt cs2 { S with V := setV ((l.take i0).foldl setV S.V) ⟨kd, (k : Int), v⟩ } N := by rw [hu, ← Hth.out]; exact hk2
        have gu : wA.grownBy u (some g) := by rw [hu]; exact ((show wA.grownBy wA.drew (some g) from ⟨rfl, rfl, rfl, Nat.le_refl _, fun _ _ _ => rfl⟩).trans (lgrown_set _ ⟨g, k * 2, none⟩ _)).trans (lgrown_set _ ⟨g, k * 2 + 1, none⟩ _)
        have HF : Hid (∃ cs', KvAt u g tt cs' { S with V := (l.take (i0 + 1)).foldl setV S.V } N ∧ Keep cs cs' ∧ w.grownBy u (some g) ∧ ChAt u S.B (some ⟨b, o, none⟩) l) := Lib.hid ⟨cs2, by rw [HX.out]; exact hk2', HA.out.2.1.trans hkp2, HA.out.2.2.1.trans gu, HA.out.2.2.2.1.kept gu HA.out.1.bk HA.out.1.ty⟩
        clear hC hV hu hkd hk2 hkp2 hk2' gu
        go_wp2
        go_roundw
        case rel => exact ⟨i0 + 1, by omega, by go_num, HF⟩
        case measure => simp [intOf]; omega
    · obtain rfl : i0 = q := by omega
      have hiI : ¬ (i0 : Int) < (i0 : Int) := by omega
      obtain ⟨cs', hk, hkp, hg, _⟩ := HR.out
      have ht : l.take i0 = l := List.take_of_length_le (by rw [H.out.2.2.1]; exact Nat.le_refl _)
      rw [ht] at hk
      have HD := Lib.hid (kdrop_any g tt cs' _ N n wr hk H.out.2.1)
      have HK := Lib.hid (And.intro hkp hg)
      clear hk hkp hg HR ht
      go_wp2_with fail
      refine HD.out.mono ?_
      rintro e w2 ⟨rfl, hd⟩
      have HF := Lib.hid (KvO.from HK.out.1 HK.out.2 hd)
      clear hd
      go_wp2
      go_ret
      exact ⟨rfl, HF.out⟩
end Go.Proofs.YtlliaihmfimdoaaGreat

namespace Go.Proofs.YtlliaihmfimdoaaGreat
open Go.RowKit Go.Maps
set_option linter.unusedVariables false
set_option linter.unusedSimpArgs false

def hasL (L : List LRow) (o : Int) : Bool := L.any fun x => decide (x.2.1 = o)
theorem HeldKs.pos {L : List LRow} {o : Int} {ys : List Int} (h : HeldKs L o ys) : (0 < ys.length) ↔ hasL L o = true := by
  unfold hasL
  rw [List.any_eq_true]
  constructor
  · intro hp
    obtain ⟨y, hy⟩ := List.exists_mem_of_length_pos hp
    obtain ⟨x, hx, _, h2⟩ := held_iff.1 ((h.mem y).1 hy)
    exact ⟨x, hx, by simpa using h2⟩
  · rintro ⟨x, hx, h2⟩
    exact List.length_pos_of_mem ((h.mem x.1).2 (held_iff.2 ⟨x, hx, rfl, by simpa using h2⟩))
def busyB (S : KS) (n : Int) : Bool := (S.W n).isSome || hasL S.L n
theorem busy_nil (n : Int) (w : World) : Calls Tryz.prog 43 #[.pointer none, .int .i64 n] w fun e w' => e = .returned (.bool false) ∧ w = w' := by
  go_enter Tryz.func43, Tryz.ntmps43
  go_wp2
  go_ret
  exact ⟨rfl, rfl⟩
set_option maxRecDepth 100000 in
set_option maxHeartbeats 2000000 in
theorem busy_any (g : Nat) (tt : TypeId) (cs : Array Value) (S : KS) (N : Nat) (n : Int) (w : World) (h : KvAt w g tt cs S N) (hn : i64ok n) :
    Calls Tryz.prog 43 #[.pointer (some ⟨g, 0, none⟩), .int .i64 n] w fun e w' => e = .returned (.bool (busyB S n)) ∧ Below w.heap.size w w' := by
  obtain ⟨m, A, q, c, h32, hq, hc, _, r2⟩ := h.look hn
  have c32 := (h.bk.cell 32).trans h32
  generalize (curW S n).2 = pr at r2
  obtain ⟨w3, hw3⟩ : ∃ w3, w3 = w.alloc (.cells #[.slice A q c, .bool pr] 138) := ⟨_, rfl⟩
  have b3 : Below w.heap.size w w3 := by rw [hw3]; exact ba _ _
  have HH := Lib.hid (held_any g 33 tt cs S.L n w3 (h.below b3).tab)
  have HB := Lib.hid b3
  have HW3 := Lib.hid hw3
  rcases hs : (S.W n).isSome with _ | _
  · have hM : busyB S n = hasL S.L n := by unfold busyB; rw [hs]; rfl
    rw [hM]
    rw [hs] at r2
    clear h hq hc h32 hs hM hw3 b3
    go_enter Tryz.func43, Tryz.ntmps43
    go_wp2_with fail
    rw [← HW3.out]
    refine HH.out.mono ?_
    rintro e w4 ⟨A4, c4, ys, rfl, _, hks, b4⟩
    have hp := hks.pos
    have HF := Lib.hid (bt HB.out b4)
    obtain ⟨yl, hyl⟩ : ∃ yl, yl = ys.length := ⟨_, rfl⟩
    rw [← hyl] at hp ⊢
    rcases hb : hasL S.L n with _ | _
    · rw [hb] at hp
      have hI : ¬ (0 : Int) < (yl : Int) := by
        intro h; have := hp.1 (by omega); cases this
      have hD := Lib.hid (show decide (0 < yl) = false by simp; omega)
      have HBB := Lib.hid hb
      clear hp hks b4 c32 r2 hb hyl
      go_wp2
      go_ret
      exact ⟨by rw [HBB.out]; show Ending.returned (.bool (decide (0 < yl))) = _; rw [hD.out], HF.out⟩
    · have hI : (0 : Int) < (yl : Int) := by have := hp.2 hb; omega
      have hD := Lib.hid (show decide (0 < yl) = true by simp; omega)
      have HBB := Lib.hid hb
      clear hp hks b4 c32 r2 hb hyl
      go_wp2
      go_ret
      exact ⟨by rw [HBB.out]; show Ending.returned (.bool (decide (0 < yl))) = _; rw [hD.out], HF.out⟩
  · have hM : busyB S n = true := by unfold busyB; rw [hs]; rfl
    rw [hM]
    rw [hs] at r2
    clear h hq hc h32 hs hM hw3 b3
    go_enter Tryz.func43, Tryz.ntmps43
    go_wp2
    rw [← HW3.out]
    go_ret
    exact ⟨rfl, HB.out⟩

/-! ### may changes be a work's? -/
/-- A row of bools, whole. -/
def ArrB (w : World) (g : Nat) (M : Nat → Bool) : Prop := ∃ cs : Array Value, Blk w g 191 cs ∧ cs.size = 16 ∧ ∀ i, i < 16 → cs[i]? = some (.bool (M i))
theorem ArrB.cell {w : World} {g : Nat} {M : Nat → Bool} (h : ArrB w g M) (i : Nat) (hi : i < 16) : w.cell? ⟨g, i, none⟩ = some (.bool (M i)) := by
  obtain ⟨cs, h1, h2, h3⟩ := h
  rw [h1.cell, h3 i hi]
theorem ArrB.frozen {w : World} {g : Nat} {M : Nat → Bool} (h : ArrB w g M) (i : Nat) : w.frozen? ⟨g, i, none⟩ = false := by
  obtain ⟨cs, h1, h2, h3⟩ := h; exact h1.frozen i
theorem ArrB.below {w w' : World} {g : Nat} {M : Nat → Bool} (h : ArrB w g M) (hb : Below w.heap.size w w') : ArrB w' g M := by
  obtain ⟨cs, h1, h2, h3⟩ := h; exact ⟨cs, h1.below hb h1.lt, h2, h3⟩
def updS (M : Nat → Bool) (k : Nat) : Nat → Bool := fun j => if j = k then true else M j
theorem ArrB.set_ {w : World} {g : Nat} {M : Nat → Bool} (h : ArrB w g M) (i : Nat) (hi : i < 16) : ArrB (w.setCell ⟨g, i, none⟩ (.bool true)) g (updS M i) := by
  obtain ⟨cs, h1, h2, h3⟩ := h
  refine ⟨_, h1.set_ i _, by simp [h2], fun j hj => ?_⟩
  unfold updS
  by_cases hji : j = i
  · subst hji; rw [if_pos rfl, Array.getElem?_setIfInBounds_self_of_lt (by omega)]
  · rw [if_neg hji, Array.getElem?_setIfInBounds_ne (fun e => hji e.symm), h3 j hj]
theorem ArrB.lt {w : World} {g : Nat} {M : Nat → Bool} (h : ArrB w g M) : g < w.heap.size := h.choose_spec.1.lt
def kindB (x : Ch) : Bool := (x.k == 1) || (x.k == 2 && x.v == 0)
def areB : (Nat → Bool) → List Ch → Bool
  | _, [] => true
  | s, x :: l => kindB x && (keyB x.y && (!s x.y.toNat && areB (updS s x.y.toNat) l))
set_option maxRecDepth 100000 in
set_option maxHeartbeats 4000000 in
theorem are_any (A : Option Addr) (l : List Ch) (n c : Nat) (w : World) (hn : Hid (n = l.length)) (hm : n ≤ 1000000) {B : Nat → Prop} (h : ChAt w B A l) :
    Calls Tryz.prog 116 #[.slice A n c] w fun e w' => e = .returned (.bool (areB (fun _ => false) l)) ∧ Below w.heap.size w w' := by
  obtain ⟨w1, hw1⟩ : ∃ w1, w1 = w.alloc (.cells #[.bool false, .bool false, .bool false, .bool false, .bool false, .bool false, .bool false, .bool false, .bool false, .bool false, .bool false, .bool false, .bool false, .bool false, .bool false, .bool false] 191) := ⟨_, rfl⟩
  have b1 : Below w.heap.size w w1 := by rw [hw1]; exact ba _ _
  obtain ⟨gs, hgs⟩ : ∃ gs, gs = w.heap.size := ⟨_, rfl⟩
  have a1 : ArrB w1 gs (fun _ => false) := by
    rw [hw1, hgs]
    exact ⟨_, Blk.new _ _ _, rfl, fun i hi => match i, hi with | 0, _ => rfl | 1, _ => rfl | 2, _ => rfl | 3, _ => rfl | 4, _ => rfl | 5, _ => rfl | 6, _ => rfl | 7, _ => rfl | 8, _ => rfl | 9, _ => rfl | 10, _ => rfl | 11, _ => rfl | 12, _ => rfl | 13, _ => rfl | 14, _ => rfl | 15, _ => rfl | _ + 16, hi => absurd hi (by omega)⟩
  have H1 := Lib.hid (And.intro a1 (And.intro b1 (h.below b1)))
  have HW1 := Lib.hid hw1
  clear a1 b1 h hw1
  go_enter Tryz.func116, Tryz.ntmps116
  go_wp2_with fail
  rw [← HW1.out]
  rw [← hgs]
  have Hgs := Lib.hid hgs
  clear hgs HW1
  go_loopw [8] (fun i wr => ∃ (i0 : Nat) (M : Nat → Bool), i0 ≤ n ∧ i = .int .i64 i0 ∧ Hid (areB (fun _ => false) l = areB M (l.drop i0) ∧ ArrB wr gs M ∧ Below w.heap.size w wr ∧ ChAt wr B A l)) (fun i _ => n - (intOf i).toNat)
  case atStart => exact ⟨0, _, Nat.zero_le _, rfl, Lib.hid ⟨rfl, H1.out⟩⟩
  case round =>
    obtain ⟨i0, M, hi, rfl, HR⟩ := hrel
    by_cases hin : i0 < n
    · have hiI : (i0 : Int) < (n : Int) := by omega
      obtain ⟨hE, hM, hb, hc⟩ := HR.out
      have hil : i0 < l.length := by rw [← hn.out]; exact hin
      obtain ⟨b, o, rfl, hbk, hcs⟩ := hc (by omega)
      obtain ⟨q0, q1, q2⟩ := hcs i0 hil
      rw [List.drop_eq_getElem_cons hil] at hE
      obtain ⟨x, hx⟩ : ∃ x, x = l[i0]'hil := ⟨_, rfl⟩
      rw [← hx] at q0 q1 q2 hE
      obtain ⟨kd, y, v⟩ := x
      dsimp only at q0 q1 q2
      obtain ⟨wA, hwA⟩ : ∃ wA, wA = wr.alloc (.cells #[.int .i64 kd, .int .i64 y, .int .u64 (v : Nat)] 74) := ⟨_, rfl⟩
      have bA : Below wr.heap.size wr wA := by rw [hwA]; exact ba _ _
      have kA : Blk wA wr.heap.size 74 #[.int .i64 kd, .int .i64 y, .int .u64 (v : Nat)] := by rw [hwA]; exact Blk.new _ _ _
      have e0 := kA.cell 0
      have e1 := kA.cell 1
      have e2 := kA.cell 2
      simp only [List.getElem?_toArray, List.getElem?_cons_zero, List.getElem?_cons_succ] at e0 e1 e2
      have mA := hM.below bA
      have HA := Lib.hid (And.intro hE (And.intro mA (And.intro (bt hb bA) (hc.below bA))))
      have HWA := Lib.hid hwA
      have hgsl := mA.lt
      rw [hwA] at e0 e1 e2
      have hno : kindB ⟨kd, y, v⟩ = false → areB (fun _ => false) l = false := fun h => by rw [hE]; simp only [areB, h, Bool.false_and]
      have Hno := Lib.hid hno
      clear hE hM hb hc hbk hcs hx hil HR hwA bA kA mA hno
      have fin : Hid (Below w.heap.size w wA) := Lib.hid HA.out.2.2.1
      rcases k1 : (kd == 1) with _ | _
      · have k1n : (kd != 1) = true := by simp [bne, k1]
        rcases k2 : (kd == 2) with _ | _
        · have k2n : (kd != 2) = true := by simp [bne, k2]
          have hF : Hid (areB (fun _ => false) l = false) := Lib.hid (Hno.out (by unfold kindB; simp only [k1, k2]; rfl))
          go_wp2
          rw [← HWA.out]
          go_ret
          exact ⟨by rw [hF.out]; rfl, fin.out⟩
        · have k2n : (kd != 2) = false := by simp [bne, k2]
          rcases v0 : ((v : Int) != 0) with _ | _
          · have hk : Hid (kindB ⟨kd, y, v⟩ = true) := Lib.hid (by
              have : v = 0 := by simpa using v0
              unfold kindB; simp only [k1, k2, this]; rfl)
            rcases ky : keyB y with _ | _
            · have hF : Hid (areB (fun _ => false) l = false) := Lib.hid (by rw [HA.out.1]; simp only [areB, ky, Bool.false_and, Bool.and_false])
              go_wp2_with fail
              rw [← HWA.out]
              refine (kisKey_any y false ky wA).mono ?_
              rintro e u ⟨rfl, rfl⟩
              go_wp2
              go_ret
              exact ⟨by rw [hF.out]; rfl, fin.out⟩
            · obtain ⟨k, hk16, rfl⟩ := keyB_nat ky
              have hkI : (k : Int) < 16 := by omega
              have cM := HA.out.2.1.cell k hk16
              have fM := HA.out.2.1.frozen k
              rw [HWA.out] at cM fM
              rcases hs : M k with _ | _
              · rw [hs] at cM
                have hE2 : Hid (areB (fun _ => false) l = areB (updS M k) (l.drop (i0 + 1))) := Lib.hid (by
                  rw [HA.out.1]
                  simp only [areB, hk.out, ky, Int.toNat_natCast, hs, Bool.true_and, Bool.not_false])
                have HX : Hid (areB (fun _ => false) l = areB (updS M k) (l.drop (i0 + 1)) ∧ ArrB (wA.setCell ⟨gs, k, none⟩ (.bool true)) gs (updS M k) ∧ Below w.heap.size w (wA.setCell ⟨gs, k, none⟩ (.bool true)) ∧ ChAt (wA.setCell ⟨gs, k, none⟩ (.bool true)) B (some ⟨b, o, none⟩) l) := Lib.hid ⟨hE2.out, HA.out.2.1.set_ k hk16, HA.out.2.2.1.setCell (by have := Hgs.out; dsimp only; omega) _, HA.out.2.2.2.kept (lgrown_set _ ⟨gs, k, none⟩ _) HA.out.2.1.choose_spec.1 (of_decide_eq_true (by kernel_rfl))⟩
                rw [HWA.out] at HX
                go_wp2_with fail
                refine (kisKey_any (k : Int) true ky _).mono ?_
                rintro e u ⟨rfl, rfl⟩
                go_wp2
                go_roundw
                case rel => exact ⟨i0 + 1, _, by omega, by go_num, HX⟩
                case measure => simp [intOf]; omega
              · rw [hs] at cM
                have hF : Hid (areB (fun _ => false) l = false) := Lib.hid (by rw [HA.out.1]; simp only [areB, Int.toNat_natCast, hs, Bool.not_true, Bool.false_and, Bool.and_false])
                go_wp2_with fail
                refine (kisKey_any (k : Int) true ky _).mono ?_
                rintro e u ⟨rfl, rfl⟩
                go_wp2
                rw [← HWA.out]
                go_ret
                exact ⟨by rw [hF.out]; rfl, fin.out⟩
          · have hF : Hid (areB (fun _ => false) l = false) := Lib.hid (Hno.out (by
              have : (v == 0) = false := by simpa using v0
              unfold kindB; simp only [k1, k2, this]; rfl))
            go_wp2
            rw [← HWA.out]
            go_ret
            exact ⟨by rw [hF.out]; rfl, fin.out⟩
      · have k1n : (kd != 1) = false := by simp [bne, k1]
        have k2 : (kd == 2) = false := by
          have : kd = 1 := by simpa using k1
          subst this; rfl
        have hk : Hid (kindB ⟨kd, y, v⟩ = true) := Lib.hid (by unfold kindB; simp only [k1]; rfl)
        rcases ky : keyB y with _ | _
        · have hF : Hid (areB (fun _ => false) l = false) := Lib.hid (by rw [HA.out.1]; simp only [areB, ky, Bool.false_and, Bool.and_false])
          go_wp2_with fail
          rw [← HWA.out]
          refine (kisKey_any y false ky wA).mono ?_
          rintro e u ⟨rfl, rfl⟩
          go_wp2
          go_ret
          exact ⟨by rw [hF.out]; rfl, fin.out⟩
        · obtain ⟨k, hk16, rfl⟩ := keyB_nat ky
          have hkI : (k : Int) < 16 := by omega
          have cM := HA.out.2.1.cell k hk16
          have fM := HA.out.2.1.frozen k
          rw [HWA.out] at cM fM
          rcases hs : M k with _ | _
          · rw [hs] at cM
            have hE2 : Hid (areB (fun _ => false) l = areB (updS M k) (l.drop (i0 + 1))) := Lib.hid (by
              rw [HA.out.1]
              simp only [areB, hk.out, ky, Int.toNat_natCast, hs, Bool.true_and, Bool.not_false])
            have HX : Hid (areB (fun _ => false) l = areB (updS M k) (l.drop (i0 + 1)) ∧ ArrB (wA.setCell ⟨gs, k, none⟩ (.bool true)) gs (updS M k) ∧ Below w.heap.size w (wA.setCell ⟨gs, k, none⟩ (.bool true)) ∧ ChAt (wA.setCell ⟨gs, k, none⟩ (.bool true)) B (some ⟨b, o, none⟩) l) := Lib.hid ⟨hE2.out, HA.out.2.1.set_ k hk16, HA.out.2.2.1.setCell (by have := Hgs.out; dsimp only; omega) _, HA.out.2.2.2.kept (lgrown_set _ ⟨gs, k, none⟩ _) HA.out.2.1.choose_spec.1 (of_decide_eq_true (by kernel_rfl))⟩
            rw [HWA.out] at HX
            go_wp2_with fail
            refine (kisKey_any (k : Int) true ky _).mono ?_
            rintro e u ⟨rfl, rfl⟩
            go_wp2
            go_roundw
            case rel => exact ⟨i0 + 1, _, by omega, by go_num, HX⟩
            case measure => simp [intOf]; omega
          · rw [hs] at cM
            have hF : Hid (areB (fun _ => false) l = false) := Lib.hid (by rw [HA.out.1]; simp only [areB, Int.toNat_natCast, hs, Bool.not_true, Bool.false_and, Bool.and_false])
            go_wp2_with fail
            refine (kisKey_any (k : Int) true ky _).mono ?_
            rintro e u ⟨rfl, rfl⟩
            go_wp2
            rw [← HWA.out]
            go_ret
            exact ⟨by rw [hF.out]; rfl, fin.out⟩
    · obtain rfl : i0 = n := by omega
      have hiI : ¬ (i0 : Int) < (i0 : Int) := by omega
      have hT : Hid (areB (fun _ => false) l = true) := Lib.hid (by
        rw [HR.out.1, List.drop_of_length_le (by rw [hn.out]; exact Nat.le_refl _)]; rfl)
      have hF := Lib.hid HR.out.2.2.1
      clear HR
      go_wp2
      go_ret
      exact ⟨by rw [hT.out]; rfl, hF.out⟩
end Go.Proofs.YtlliaihmfimdoaaGreat

namespace Go.Proofs.YtlliaihmfimdoaaGreat
open Go.RowKit Go.Maps
set_option linter.unusedVariables false
set_option linter.unusedSimpArgs false

/-- The locks of all changes are taken, or none. -/
def takeAll (L : List LRow) (n : Int) : List Ch → Int × List LRow
  | [] => (0, L)
  | x :: r => if (takeL L n x.y true).1 = 0 then takeAll (takeL L n x.y true).2 n r else ((takeL L n x.y true).1, dropL (takeL L n x.y true).2 n)
theorem areB_keys : ∀ (l : List Ch) (s : Nat → Bool), areB s l = true → ∀ x ∈ l, keyB x.y = true
  | [], _, _, x, hx => by cases hx
  | y :: l, s, h, x, hx => by
    simp only [areB, Bool.and_eq_true] at h
    rcases List.mem_cons.1 hx with rfl | hx
    · exact h.2.1
    · exact areB_keys l _ h.2.2.2 x hx
theorem keyB_ok {y : Int} (h : keyB y = true) : i64ok y := by
  obtain ⟨k, hk, rfl⟩ := keyB_nat h; unfold i64ok; omega
def restW (S : KS) (n : Int) (l : List Ch) : Int → Option (List Ch × Bool) := if l = [] then S.W else updW S.W n (some (l, true))
def restoreM (S : KS) (n : Int) (l : List Ch) : Int × KS :=
  if n < 1 then (1, S) else if areB (fun _ => false) l = false then (1, S) else if busyB S n = true then (7, S)
  else if (takeAll S.L n l).1 = 0 then (0, { S with L := (takeAll S.L n l).2, W := restW S n l })
  else ((takeAll S.L n l).1, { S with L := (takeAll S.L n l).2 })
theorem takeAll_len : ∀ (l : List Ch) (L : List LRow) (n : Int), L.length ≤ 64 → (takeAll L n l).2.length ≤ 64
  | [], L, n, h => h
  | x :: r, L, n, h => by
    simp only [takeAll]
    have h2 := takeL_len h n x.y true
    split
    · exact takeAll_len r _ n h2
    · exact Nat.le_trans (dropL_len _ _) h2
def VRs (g tb : Nat) (n y er : Int) (i : Nat) (v_ : Value) : Prop :=
  match i with
  | 0 => v_ = .pointer (some ⟨g, 0, none⟩)
  | 1 => v_ = .pointer (some ⟨g, 0, none⟩)
  | 2 => v_ = .pointer (some ⟨g, 33, none⟩)
  | 3 => v_ = .int .i64 n
  | 4 => v_ = .pointer (some ⟨tb, 1, none⟩)
  | 5 => v_ = .int .i64 y
  | 6 => v_ = .int .i64 er
  | 7 => v_ = .int .i64 er
  | _ => True
structure CRs (wA : World) (g tb : Nat) (kd y : Int) (v : Nat) (P : World → Prop) (ls : Nat → Bool) (x : Nat → Value) (u : World) : Prop where
  b : Blk u tb 74 #[.int .i64 kd, .int .i64 y, .int .u64 (v : Nat)]
  n : ls 6 = false → u = wA.drew
  s : ls 6 = true → P u
theorem CRs.pure {wA : World} {g tb : Nat} {kd y : Int} {v : Nat} {P : World → Prop} {ls : Nat → Bool} {x : Nat → Value} {u : World} {i : Nat} {z : Value} (hi : i ≠ 6) (h : CRs wA g tb kd y v P ls x u) : CRs wA g tb kd y v P (updB ls i) (upd x i z) u := by
  obtain ⟨h1, h2, h3⟩ := h
  exact ⟨h1, by rw [updB_other hi.symm]; exact h2, by rw [updB_other hi.symm]; exact h3⟩
theorem restore_nil (n : Int) (A : Option Addr) (q c : Nat) (w : World) : Calls Tryz.prog 72 #[.pointer none, .int .i64 n, .slice A q c] w fun e w' => e = .returned (.int .i64 6) ∧ w = w' := by
  go_enter Tryz.func72, Tryz.ntmps72
  go_wp2_with fail
  refine (names_nil n w).mono ?_
  rintro e w1 ⟨rfl, rfl⟩
  go_wp2
  go_ret
  exact ⟨rfl, rfl⟩
set_option maxRecDepth 100000 in
set_option maxHeartbeats 4000000 in
theorem restore_any (g : Nat) (tt : TypeId) (cs : Array Value) (S : KS) (N : Nat) (n : Int) (A : Option Addr) (l : List Ch) (q c : Nat) (w : World) (h : KvAt w g tt cs S N) (hN : N < 300000) (hn : i64ok n) (hq : Hid (q = l.length)) (hqN : q ≤ N + 1) {B : Nat → Prop} (hc : ChAt w B A l) (hB : ∀ b, w.heap.size ≤ b → S.B b) :
    Calls Tryz.prog 72 #[.pointer (some ⟨g, 0, none⟩), .int .i64 n, .slice A q c] w fun e w' => e = .returned (.int .i64 (restoreM S n l).1) ∧ KvO w g tt cs (restoreM S n l).2 (N + 1) w' := by
  have HN := Lib.hid (names_any g n w)
  by_cases h1 : n < 1
  · have hM : restoreM S n l = (1, S) := if_pos h1
    rw [hM]
    have HF := Lib.hid (KvO.same (h.more (Nat.le_succ N)) (Below.refl _ _))
    have hE : namesE n = 1 := if_pos h1
    rw [hE] at HN
    clear h hM hE hc hB
    go_enter Tryz.func72, Tryz.ntmps72
    go_wp2_with fail
    refine HN.out.mono ?_
    rintro e w1 ⟨rfl, rfl⟩
    go_wp2
    go_ret
    exact ⟨rfl, HF.out⟩
  have hE : namesE n = 0 := if_neg h1
  rw [hE] at HN
  have HA := Lib.hid (are_any A l q c w hq (by omega) hc)
  have HR : restoreM S n l = if areB (fun _ => false) l = false then (1, S) else if busyB S n = true then (7, S) else if (takeAll S.L n l).1 = 0 then (0, { S with L := (takeAll S.L n l).2, W := restW S n l }) else ((takeAll S.L n l).1, { S with L := (takeAll S.L n l).2 }) := if_neg h1
  rw [HR]
  have H := Lib.hid (And.intro h (And.intro hn hc))
  have HBB := Lib.hid hB
  clear HR hE h hn hc hB
  rcases ha : areB (fun _ => false) l with _ | _
  · rw [if_pos rfl]
    rw [ha] at HA
    clear ha
    go_enter Tryz.func72, Tryz.ntmps72
    go_wp2_with fail
    refine HN.out.mono ?_
    rintro e w1 ⟨rfl, rfl⟩
    go_wp2_with fail
    refine HA.out.mono ?_
    rintro e w2 ⟨rfl, b2⟩
    have HF := Lib.hid (KvO.same (H.out.1.more (Nat.le_succ N)) b2)
    clear b2
    go_wp2
    go_ret
    exact ⟨rfl, HF.out⟩
  rw [if_neg (by simp)]
  rw [ha] at HA
  have Hkeys := Lib.hid (areB_keys l _ ha)
  clear ha
  have hbz := fun (u : World) (hb : Below w.heap.size w u) => busy_any g tt cs S N n u (H.out.1.below hb) H.out.2.1
  rcases hbs : busyB S n with _ | _
  · rw [if_neg (by simp)]
    rw [hbs] at hbz
    have HB := Lib.hid hbz
    clear hbz hbs
    obtain ⟨R, hR⟩ : ∃ R, R = takeAll S.L n l := ⟨_, rfl⟩
    rw [← hR]
    have HRR := Lib.hid hR
    obtain ⟨re, rL⟩ := R
    dsimp only
    rcases hre : (re == 0) with _ | _
    · have hre' : re ≠ 0 := by simpa using hre
      rw [if_neg hre']
      clear hR hre'
      go_enter Tryz.func72, Tryz.ntmps72
      go_wp2_with fail
      refine HN.out.mono ?_
      rintro e w1 ⟨rfl, rfl⟩
      go_wp2_with fail
      refine HA.out.mono ?_
      rintro e w2 ⟨rfl, b2⟩
      go_wp2_with fail
      refine (HB.out w2 b2).mono ?_
      rintro e w3 ⟨rfl, b3⟩
      have H3 := Lib.hid (And.intro (H.out.1.below (bt b2 b3)) (And.intro (H.out.2.2.below (bt b2 b3)) (bt b2 b3)))
      clear b2 b3 HA HB HN
      have hqm : q ≤ 9223372036854775807 := by omega
      go_wp2_with fail
      go_loopw [27] (fun i wr => ∃ (i0 : Nat) (L0 : List LRow), i0 ≤ q ∧ i = .int .i64 i0 ∧ Hid (takeAll S.L n l = takeAll L0 n (l.drop i0) ∧ (∃ cs', KvAt wr g tt cs' { S with L := L0 } N ∧ Keep cs cs') ∧ w.grownBy wr (some g) ∧ ChAt wr B A l)) (fun i _ => q - (intOf i).toNat)
      case atStart => exact ⟨0, S.L, Nat.zero_le _, rfl, Lib.hid ⟨rfl, ⟨cs, H3.out.1, Keep.rfl'⟩, lbelow_grown H3.out.2.2 _, H3.out.2.1⟩⟩
      case round =>
        clear H3
        obtain ⟨i0, L0, hi, rfl, HR⟩ := hrel
        by_cases hiq : i0 < q
        · have hiI : (i0 : Int) < (q : Int) := by omega
          obtain ⟨hE, ⟨cs', hk, hkp⟩, hg, hc⟩ := HR.out
          have hil : i0 < l.length := by rw [← hq.out]; exact hiq
          obtain ⟨b, o, rfl, hbk, hcs⟩ := hc (by omega)
          obtain ⟨q0, q1, q2⟩ := hcs i0 hil
          rw [List.drop_eq_getElem_cons hil] at hE
          obtain ⟨x, hx⟩ : ∃ x, x = l[i0]'hil := ⟨_, rfl⟩
          have hxk := Hkeys.out x (by rw [hx]; exact List.getElem_mem hil)
          rw [← hx] at q0 q1 q2 hE
          obtain ⟨kd, y, v⟩ := x
          dsimp only at q0 q1 q2 hxk
          have Hyo := Lib.hid (keyB_ok hxk)
          obtain ⟨TL, hTL⟩ : ∃ TL, TL = takeL L0 n y true := ⟨_, rfl⟩
          obtain ⟨er, her⟩ : ∃ er, er = TL.1 := ⟨_, rfl⟩
          simp only [takeAll, ← hTL, ← her] at hE
          have HTL := Lib.hid hTL
          have Her : Hid (Value.int .i64 (takeL L0 n y true).1 = Value.int .i64 er) := Lib.hid (by rw [← hTL, her])
          obtain ⟨wA, hwA⟩ : ∃ wA, wA = wr.alloc (.cells #[.int .i64 kd, .int .i64 y, .int .u64 (v : Nat)] 74) := ⟨_, rfl⟩
          have bA : Below wr.heap.size wr wA := by rw [hwA]; exact ba _ _
          have kA : Blk wA wr.heap.size 74 #[.int .i64 kd, .int .i64 y, .int .u64 (v : Nat)] := by rw [hwA]; exact Blk.new _ _ _
          have HA2 := Lib.hid (And.intro (hk.below bA) (And.intro hkp (And.intro (hg.trans (lbelow_grown bA (some g))) (And.intro (hc.below bA) (And.intro kA (And.intro hE (show g ≠ wr.heap.size by have := hk.lt; omega)))))))
          have HWA := Lib.hid hwA
          clear hk hkp hg hc hbk hcs hx hil HR hwA bA kA hE hxk hTL
          go_wp2_with fail
          rw [← HWA.out]
          clear q0 q1 q2
          obtain ⟨tb, htb⟩ : ∃ tb, tb = wr.heap.size := ⟨_, rfl⟩
          rw [← htb] at HA2 ⊢
          have HER := Lib.hid her
          clear htb HWA her
          refine wp_region_invJ (F := ?FR1) (V := (VRs g tb n y er)) (C := (CRs wA g tb kd y v (fun u => (∃ cs2, KvAt u g tt cs2 { S with L := TL.2 } N ∧ Keep cs' cs2) ∧ wA.grownBy u (some g)))) (by kernel_rfl) (by kernel_rfl) (by kernel_rfl) (fun x => ?hFR1) ?hCR1 ?stepR1 ?finR1
          case hFR1 => simp only [mkA, Act.put, List.setIfInBounds_toArray, List.set_cons_succ, List.set_cons_zero, Nat.reduceAdd, Nat.zero_add]; first | with_reducible rfl | rfl
          case hCR1 => exact fun x => ⟨HA2.out.2.2.2.2.1, fun _ => rfl, fun e => by simp at e⟩
          case stepR1 =>
            refine AllOps.cons (fun ls x u hC hl hp K hK => ?_) ?_
            · clear hp
              go_simp
              refine hK _ _ _ (CRs.pure (by decide) hC) (by exact rfl) ?_
              first | (simp only [Act.put, List.setIfInBounds_toArray, List.set_cons_succ, List.set_cons_zero]; done) | simp [Act.put]
            refine AllOps.cons (fun ls x u hC hl hp K hK => ?_) ?_
            · simp [KnownTill, Region.binds, VRs] at hp
              go_simp
              refine hK _ _ _ (CRs.pure (by decide) hC) (by exact rfl) ?_
              first | (simp only [Act.put, List.setIfInBounds_toArray, List.set_cons_succ, List.set_cons_zero, hp]; done) | simp [Act.put, hp]
            refine AllOps.cons (fun ls x u hC hl hp K hK => ?_) ?_
            · simp [KnownTill, Region.binds, VRs] at hp
              go_simp
              refine hK _ _ _ (CRs.pure (by decide) hC) (by exact rfl) ?_
              first | (simp only [Act.put, List.setIfInBounds_toArray, List.set_cons_succ, List.set_cons_zero, hp]; done) | simp [Act.put, hp]
            refine AllOps.cons (fun ls x u hC hl hp K hK => ?_) ?_
            · clear hp
              go_simp
              refine hK _ _ _ (CRs.pure (by decide) hC) (by exact rfl) ?_
              first | (simp only [Act.put, List.setIfInBounds_toArray, List.set_cons_succ, List.set_cons_zero]; done) | simp [Act.put]
            refine AllOps.cons (fun ls x u hC hl hp K hK => ?_) ?_
            · clear hp
              go_simp
              refine hK _ _ _ (CRs.pure (by decide) hC) (by exact rfl) ?_
              first | (simp only [Act.put, List.setIfInBounds_toArray, List.set_cons_succ, List.set_cons_zero]; done) | simp [Act.put]
            refine AllOps.cons (fun ls x u hC hl hp K hK => ?_) ?_
            · simp [KnownTill, Region.binds, VRs] at hp
              have cc := hC.b.cell 1
              simp only [List.getElem?_toArray, List.getElem?_cons_zero, List.getElem?_cons_succ] at cc
              go_simp
              refine hK _ _ _ (CRs.pure (by decide) hC) (by exact rfl) ?_
              first | (simp only [Act.put, List.setIfInBounds_toArray, List.set_cons_succ, List.set_cons_zero, hp]; done) | simp [Act.put, hp]
            refine AllOps.cons (fun ls x u hC hl hp K hK => ?_) ?_
            · simp [KnownTill, Region.binds, VRs] at hp
              have hu := hC.n hl
              have hku : KvAt u g tt cs' { S with L := L0 } N := by rw [hu]; exact HA2.out.1.below ⟨rfl, rfl, rfl, Nat.le_refl _, fun _ _ => rfl⟩
              have hgu : wA.grownBy u (some g) := by rw [hu]; exact ⟨rfl, rfl, rfl, Nat.le_refl _, fun _ _ _ => rfl⟩
              have HTk := Lib.hid (take_any g 33 tt cs' L0 n y true u hku.tab Hyo.out H.out.2.1)
              clear hu
              go_simp
              refine HTk.out.mono ?_
              rintro e u2 ⟨rfl, ht, hg2⟩
              have hlk := hku.locked hg2 ht
              refine hK _ _ _ ⟨hC.b.kept hg2 (fun e => HA2.out.2.2.2.2.2.2 (Option.some.inj e).symm), (fun e => by rw [updB_same] at e; cases e), (fun _ => ⟨by rw [HTL.out]; exact hlk, hgu.trans hg2⟩)⟩ (by exact Her.out) ?_
              first | (simp only [Act.put, List.setIfInBounds_toArray, List.set_cons_succ, List.set_cons_zero, hp, Her.out]; done) | simp [Act.put, hp, Her.out]
            refine AllOps.cons (fun ls x u hC hl hp K hK => ?_) ?_
            · simp [KnownTill, Region.binds, VRs] at hp
              go_simp
              refine hK _ _ _ (CRs.pure (by decide) hC) (by exact rfl) ?_
              first | (simp only [Act.put, List.setIfInBounds_toArray, List.set_cons_succ, List.set_cons_zero, hp]; done) | simp [Act.put, hp]
            exact AllOps.nil
          case finR1 =>
            intro ls x u hC hV
            have hs6 := (hV 6 (by decide)).1
            have e7 : x 7 = .int .i64 er := (hV 7 (by decide)).2
            rw [e7]
            obtain ⟨⟨cs2, hk2, hkp2⟩, hg2⟩ := hC.s hs6
            have hgw := HA2.out.2.2.1.trans hg2
            have hc2 := HA2.out.2.2.2.1.kept hg2 HA2.out.1.bk HA2.out.1.ty
            rcases her0 : (er == 0) with _ | _
            · have hne : (er != 0) = true := by simp [bne, her0]
              have hne2 : er ≠ 0 := by simpa using her0
              have hE := HA2.out.2.2.2.2.2.1
              rw [if_neg hne2, ← HRR.out] at hE
              injection hE with hE1 hE2
              have hlen2 : TL.2.length ≤ 64 := hk2.lk.1
              have HD := Lib.hid (drop_any g 33 tt cs2 TL.2 n u hk2.tab H.out.2.1)
              have HK := Lib.hid (And.intro hk2 (And.intro (HA2.out.2.1.trans hkp2) hgw))
              have Hre := Lib.hid (And.intro hE1 hE2)
              clear hC hV hk2 hkp2 hg2 hgw hc2 hs6 e7 hE1 hE2 hlen2 hne2
              go_wp2_with fail
              refine HD.out.mono ?_
              rintro e u2 ⟨rfl, ht, hg3⟩
              have HF : Hid (KvO w g tt cs { S with L := rL } (N + 1) u2) := Lib.hid (by
                obtain ⟨cs3, hk3, hkp3⟩ := (HK.out.1.more (Nat.le_succ N)).locked hg3 ht
                rw [Hre.out.2]
                exact KvO.from HK.out.2.1 HK.out.2.2 ⟨⟨cs3, hk3, hkp3⟩, hg3⟩)
              clear ht hg3
              go_wp2
              go_ret
              exact ⟨by rw [Hre.out.1]; rfl, HF.out⟩
            · have hne : (er != 0) = false := by simp [bne, her0]
              have hne2 : er = 0 := by simpa using her0
              have HN2 : Hid (takeAll S.L n l = takeAll TL.2 n (l.drop (i0 + 1)) ∧ (∃ cs', KvAt u g tt cs' { S with L := TL.2 } N ∧ Keep cs cs') ∧ w.grownBy u (some g) ∧ ChAt u B (some ⟨b, o, none⟩) l) := Lib.hid ⟨by have hE := HA2.out.2.2.2.2.2.1; rw [if_pos hne2] at hE; exact hE, ⟨cs2, hk2, HA2.out.2.1.trans hkp2⟩, hgw, hc2⟩
              clear hC hV hk2 hkp2 hg2 hgw hc2 hs6 e7 hne2
              go_wp2
              go_roundw
              case rel => exact ⟨i0 + 1, TL.2, by omega, by go_num, HN2⟩
              case measure => simp [intOf]; omega
        · obtain rfl : i0 = q := by omega
          have hiI : ¬ (i0 : Int) < (i0 : Int) := by omega
          obtain ⟨hE, ⟨cs', hk, hkp⟩, hg, hc⟩ := HR.out
          rw [List.drop_of_length_le (by rw [hq.out]; exact Nat.le_refl _)] at hE
          rw [show takeAll L0 n [] = (0, L0) from rfl, ← HRR.out] at hE
          injection hE with hE1 hE2
          subst hE1
          simp at hre
    · obtain rfl : re = 0 := by simpa using hre
      rw [if_pos rfl]
      clear hR hre
      go_enter Tryz.func72, Tryz.ntmps72
      go_wp2_with fail
      refine HN.out.mono ?_
      rintro e w1 ⟨rfl, rfl⟩
      go_wp2_with fail
      refine HA.out.mono ?_
      rintro e w2 ⟨rfl, b2⟩
      go_wp2_with fail
      refine (HB.out w2 b2).mono ?_
      rintro e w3 ⟨rfl, b3⟩
      have H3 := Lib.hid (And.intro (H.out.1.below (bt b2 b3)) (And.intro (H.out.2.2.below (bt b2 b3)) (bt b2 b3)))
      clear b2 b3 HA HB HN
      have hqm : q ≤ 9223372036854775807 := by omega
      go_wp2_with fail
      go_loopw [27] (fun i wr => ∃ (i0 : Nat) (L0 : List LRow), i0 ≤ q ∧ i = .int .i64 i0 ∧ Hid (takeAll S.L n l = takeAll L0 n (l.drop i0) ∧ (∃ cs', KvAt wr g tt cs' { S with L := L0 } N ∧ Keep cs cs') ∧ w.grownBy wr (some g) ∧ ChAt wr B A l)) (fun i _ => q - (intOf i).toNat)
      case atStart => exact ⟨0, S.L, Nat.zero_le _, rfl, Lib.hid ⟨rfl, ⟨cs, H3.out.1, Keep.rfl'⟩, lbelow_grown H3.out.2.2 _, H3.out.2.1⟩⟩
      case round =>
        clear H3
        obtain ⟨i0, L0, hi, rfl, HR⟩ := hrel
        by_cases hiq : i0 < q
        · have hiI : (i0 : Int) < (q : Int) := by omega
          obtain ⟨hE, ⟨cs', hk, hkp⟩, hg, hc⟩ := HR.out
          have hil : i0 < l.length := by rw [← hq.out]; exact hiq
          obtain ⟨b, o, rfl, hbk, hcs⟩ := hc (by omega)
          obtain ⟨q0, q1, q2⟩ := hcs i0 hil
          rw [List.drop_eq_getElem_cons hil] at hE
          obtain ⟨x, hx⟩ : ∃ x, x = l[i0]'hil := ⟨_, rfl⟩
          have hxk := Hkeys.out x (by rw [hx]; exact List.getElem_mem hil)
          rw [← hx] at q0 q1 q2 hE
          obtain ⟨kd, y, v⟩ := x
          dsimp only at q0 q1 q2 hxk
          have Hyo := Lib.hid (keyB_ok hxk)
          obtain ⟨TL, hTL⟩ : ∃ TL, TL = takeL L0 n y true := ⟨_, rfl⟩
          obtain ⟨er, her⟩ : ∃ er, er = TL.1 := ⟨_, rfl⟩
          simp only [takeAll, ← hTL, ← her] at hE
          have HTL := Lib.hid hTL
          have Her : Hid (Value.int .i64 (takeL L0 n y true).1 = Value.int .i64 er) := Lib.hid (by rw [← hTL, her])
          obtain ⟨wA, hwA⟩ : ∃ wA, wA = wr.alloc (.cells #[.int .i64 kd, .int .i64 y, .int .u64 (v : Nat)] 74) := ⟨_, rfl⟩
          have bA : Below wr.heap.size wr wA := by rw [hwA]; exact ba _ _
          have kA : Blk wA wr.heap.size 74 #[.int .i64 kd, .int .i64 y, .int .u64 (v : Nat)] := by rw [hwA]; exact Blk.new _ _ _
          have HA2 := Lib.hid (And.intro (hk.below bA) (And.intro hkp (And.intro (hg.trans (lbelow_grown bA (some g))) (And.intro (hc.below bA) (And.intro kA (And.intro hE (show g ≠ wr.heap.size by have := hk.lt; omega)))))))
          have HWA := Lib.hid hwA
          clear hk hkp hg hc hbk hcs hx hil HR hwA bA kA hE hxk hTL
          go_wp2_with fail
          rw [← HWA.out]
          clear q0 q1 q2
          obtain ⟨tb, htb⟩ : ∃ tb, tb = wr.heap.size := ⟨_, rfl⟩
          rw [← htb] at HA2 ⊢
          have HER := Lib.hid her
          clear htb HWA her
          refine wp_region_invJ (F := ?FR2) (V := (VRs g tb n y er)) (C := (CRs wA g tb kd y v (fun u => (∃ cs2, KvAt u g tt cs2 { S with L := TL.2 } N ∧ Keep cs' cs2) ∧ wA.grownBy u (some g)))) (by kernel_rfl) (by kernel_rfl) (by kernel_rfl) (fun x => ?hFR2) ?hCR2 ?stepR2 ?finR2
          case hFR2 => simp only [mkA, Act.put, List.setIfInBounds_toArray, List.set_cons_succ, List.set_cons_zero, Nat.reduceAdd, Nat.zero_add]; first | with_reducible rfl | rfl
          case hCR2 => exact fun x => ⟨HA2.out.2.2.2.2.1, fun _ => rfl, fun e => by simp at e⟩
          case stepR2 =>
            refine AllOps.cons (fun ls x u hC hl hp K hK => ?_) ?_
            · clear hp
              go_simp
              refine hK _ _ _ (CRs.pure (by decide) hC) (by exact rfl) ?_
              first | (simp only [Act.put, List.setIfInBounds_toArray, List.set_cons_succ, List.set_cons_zero]; done) | simp [Act.put]
            refine AllOps.cons (fun ls x u hC hl hp K hK => ?_) ?_
            · simp [KnownTill, Region.binds, VRs] at hp
              go_simp
              refine hK _ _ _ (CRs.pure (by decide) hC) (by exact rfl) ?_
              first | (simp only [Act.put, List.setIfInBounds_toArray, List.set_cons_succ, List.set_cons_zero, hp]; done) | simp [Act.put, hp]
            refine AllOps.cons (fun ls x u hC hl hp K hK => ?_) ?_
            · simp [KnownTill, Region.binds, VRs] at hp
              go_simp
              refine hK _ _ _ (CRs.pure (by decide) hC) (by exact rfl) ?_
              first | (simp only [Act.put, List.setIfInBounds_toArray, List.set_cons_succ, List.set_cons_zero, hp]; done) | simp [Act.put, hp]
            refine AllOps.cons (fun ls x u hC hl hp K hK => ?_) ?_
            · clear hp
              go_simp
              refine hK _ _ _ (CRs.pure (by decide) hC) (by exact rfl) ?_
              first | (simp only [Act.put, List.setIfInBounds_toArray, List.set_cons_succ, List.set_cons_zero]; done) | simp [Act.put]
            refine AllOps.cons (fun ls x u hC hl hp K hK => ?_) ?_
            · clear hp
              go_simp
              refine hK _ _ _ (CRs.pure (by decide) hC) (by exact rfl) ?_
              first | (simp only [Act.put, List.setIfInBounds_toArray, List.set_cons_succ, List.set_cons_zero]; done) | simp [Act.put]
            refine AllOps.cons (fun ls x u hC hl hp K hK => ?_) ?_
            · simp [KnownTill, Region.binds, VRs] at hp
              have cc := hC.b.cell 1
              simp only [List.getElem?_toArray, List.getElem?_cons_zero, List.getElem?_cons_succ] at cc
              go_simp
              refine hK _ _ _ (CRs.pure (by decide) hC) (by exact rfl) ?_
              first | (simp only [Act.put, List.setIfInBounds_toArray, List.set_cons_succ, List.set_cons_zero, hp]; done) | simp [Act.put, hp]
            refine AllOps.cons (fun ls x u hC hl hp K hK => ?_) ?_
            · simp [KnownTill, Region.binds, VRs] at hp
              have hu := hC.n hl
              have hku : KvAt u g tt cs' { S with L := L0 } N := by rw [hu]; exact HA2.out.1.below ⟨rfl, rfl, rfl, Nat.le_refl _, fun _ _ => rfl⟩
              have hgu : wA.grownBy u (some g) := by rw [hu]; exact ⟨rfl, rfl, rfl, Nat.le_refl _, fun _ _ _ => rfl⟩
              have HTk := Lib.hid (take_any g 33 tt cs' L0 n y true u hku.tab Hyo.out H.out.2.1)
              clear hu
              go_simp
              refine HTk.out.mono ?_
              rintro e u2 ⟨rfl, ht, hg2⟩
              have hlk := hku.locked hg2 ht
              refine hK _ _ _ ⟨hC.b.kept hg2 (fun e => HA2.out.2.2.2.2.2.2 (Option.some.inj e).symm), (fun e => by rw [updB_same] at e; cases e), (fun _ => ⟨by rw [HTL.out]; exact hlk, hgu.trans hg2⟩)⟩ (by exact Her.out) ?_
              first | (simp only [Act.put, List.setIfInBounds_toArray, List.set_cons_succ, List.set_cons_zero, hp, Her.out]; done) | simp [Act.put, hp, Her.out]
            refine AllOps.cons (fun ls x u hC hl hp K hK => ?_) ?_
            · simp [KnownTill, Region.binds, VRs] at hp
              go_simp
              refine hK _ _ _ (CRs.pure (by decide) hC) (by exact rfl) ?_
              first | (simp only [Act.put, List.setIfInBounds_toArray, List.set_cons_succ, List.set_cons_zero, hp]; done) | simp [Act.put, hp]
            exact AllOps.nil
          case finR2 =>
            intro ls x u hC hV
            have hs6 := (hV 6 (by decide)).1
            have e7 : x 7 = .int .i64 er := (hV 7 (by decide)).2
            rw [e7]
            obtain ⟨⟨cs2, hk2, hkp2⟩, hg2⟩ := hC.s hs6
            have hgw := HA2.out.2.2.1.trans hg2
            have hc2 := HA2.out.2.2.2.1.kept hg2 HA2.out.1.bk HA2.out.1.ty
            rcases her0 : (er == 0) with _ | _
            · have hne : (er != 0) = true := by simp [bne, her0]
              have hne2 : er ≠ 0 := by simpa using her0
              have hE := HA2.out.2.2.2.2.2.1
              rw [if_neg hne2, ← HRR.out] at hE
              injection hE with hE1 hE2
              exact absurd hE1.symm hne2
            · have hne : (er != 0) = false := by simp [bne, her0]
              have hne2 : er = 0 := by simpa using her0
              have HN2 : Hid (takeAll S.L n l = takeAll TL.2 n (l.drop (i0 + 1)) ∧ (∃ cs', KvAt u g tt cs' { S with L := TL.2 } N ∧ Keep cs cs') ∧ w.grownBy u (some g) ∧ ChAt u B (some ⟨b, o, none⟩) l) := Lib.hid ⟨by have hE := HA2.out.2.2.2.2.2.1; rw [if_pos hne2] at hE; exact hE, ⟨cs2, hk2, HA2.out.2.1.trans hkp2⟩, hgw, hc2⟩
              clear hC hV hk2 hkp2 hg2 hgw hc2 hs6 e7 hne2
              go_wp2
              go_roundw
              case rel => exact ⟨i0 + 1, TL.2, by omega, by go_num, HN2⟩
              case measure => simp [intOf]; omega
        · obtain rfl : i0 = q := by omega
          have hiI : ¬ (i0 : Int) < (i0 : Int) := by omega
          obtain ⟨hE, ⟨cs', hk, hkp⟩, hg, hc⟩ := HR.out
          rw [List.drop_of_length_le (by rw [hq.out]; exact Nat.le_refl _)] at hE
          rw [show takeAll L0 n [] = (0, L0) from rfl, ← HRR.out] at hE
          injection hE with _ hE2
          subst hE2
          by_cases hl0 : i0 = 0
          · subst hl0
            have hl : l = [] := List.eq_nil_of_length_eq_zero hq.out.symm
            have HF : Hid (KvO w g tt cs { S with L := rL, W := restW S n l } (N + 1) wr) := Lib.hid (by
              unfold restW; rw [if_pos hl]; exact ⟨⟨cs', hk.more (Nat.le_succ N), hkp⟩, hg⟩)
            clear hk hkp hg hc HR hl
            go_wp2
            go_ret
            exact ⟨rfl, HF.out⟩
          · have hl : l ≠ [] := fun e => hl0 (by rw [hq.out, e]; rfl)
            have hl0I : (0 : Int) < (i0 : Int) := by omega
            have HCl := Lib.hid (cclone_any A l i0 c wr (Lib.hid hq.out) (Lib.hid (by omega)) hc)
            have HK := Lib.hid (And.intro hk (And.intro hkp (And.intro hg hl)))
            clear hk hkp hg hc HR hl
            go_wp2_with fail
            refine HCl.out.mono ?_
            rintro e w4 ⟨A4, c4, rfl, own4, b4⟩
            have HL := Lib.hid (lay_any g tt cs' { S with L := rL } N n A4 l i0 c4 true w4 (HK.out.1.below b4) (by omega) H.out.2.1 hq.out (by rw [← hq.out]; exact hqN) Hkeys.out (own4.at_.mono fun b hb _ => HBB.out b (Nat.le_trans HK.out.2.2.1.size hb)))
            have HG := Lib.hid (HK.out.2.2.1.trans (lbelow_grown b4 (some g)))
            clear own4 b4
            go_wp2_with fail
            refine HL.out.mono ?_
            rintro e w5 ⟨rfl, hk5, hg5⟩
            have HF : Hid (KvO w g tt cs { S with L := rL, W := restW S n l } (N + 1) w5) := Lib.hid (by
              unfold restW; rw [if_neg HK.out.2.2.2]; exact KvO.from HK.out.2.1 HG.out ⟨hk5, hg5⟩)
            clear hk5 hg5
            go_wp2
            go_ret
            exact ⟨rfl, HF.out⟩
  · rw [if_pos rfl]
    rw [hbs] at hbz
    have HB := Lib.hid hbz
    clear hbz hbs
    go_enter Tryz.func72, Tryz.ntmps72
    go_wp2_with fail
    refine HN.out.mono ?_
    rintro e w1 ⟨rfl, rfl⟩
    go_wp2_with fail
    refine HA.out.mono ?_
    rintro e w2 ⟨rfl, b2⟩
    go_wp2_with fail
    refine (HB.out w2 b2).mono ?_
    rintro e w3 ⟨rfl, b3⟩
    have HF := Lib.hid (KvO.same (H.out.1.more (Nat.le_succ N)) (bt b2 b3))
    clear b2 b3
    go_wp2
    go_ret
    exact ⟨rfl, HF.out⟩
end Go.Proofs.YtlliaihmfimdoaaGreat
