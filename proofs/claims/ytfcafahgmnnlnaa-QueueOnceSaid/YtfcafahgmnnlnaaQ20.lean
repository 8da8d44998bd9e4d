/- Layer 14: Load. -/
import Derived.Test.YtfcafahgmnnlnaaQ19
namespace Go.Proofs.Ytfcafahgmnnlnaa.Qu
open Go.RowKit Go.Maps Go.Deep
open Go.WideElems (Fit rg rd_key rg_of)
set_option linter.unusedVariables false
set_option linter.unusedSimpArgs false

/-- How long a map of works is: nothing just where nothing is read. -/
theorem FSrc.len_ex {f : Value → Bool} {w : World} {m : Option Nat} {n : Nat} {G : Int → Option Value} (h : FSrc f w m n G) (t e : TypeId) (ht : Try.prog.underlying t = some (.map 3 e)) : ∃ q : Nat, q ≤ n ∧ (∀ ty, (Builtin.len_ #[t] ty #[.map m]).run Try.prog w = .ok (.int .i64 q) w) ∧ (q = 0 ↔ ∀ k, i64ok k → G k = none) := by
  rcases h with ⟨rfl, rfl⟩ | ⟨b, D, rfl, h2, h3⟩
  · exact ⟨0, Nat.zero_le _, fun ty => Maps.len_nil ht ty, by simp⟩
  · refine ⟨Maps.size D, h2.size_le, fun ty => h2.len ht ty, ?_⟩
    obtain ⟨es, clock, hb, F, hs, rfl⟩ := h2
    constructor
    · intro h0 k hk
      have hh := h3.has k hk
      rw [size_eq] at h0
      rw [List.eq_nil_of_length_eq_zero h0] at hh
      rcases hG : G k with _ | u
      · rfl
      · rw [hG] at hh; cases hh
    · intro hn
      rw [size_eq]
      apply Classical.byContradiction
      intro h0
      obtain ⟨p, hp⟩ := List.exists_mem_of_length_pos (Nat.pos_of_ne_zero h0)
      obtain ⟨x, hx, e1⟩ := List.mem_map.1 (mem_sorted.1 hp)
      obtain ⟨y, hy⟩ := F.reads x hx
      have hk := rd_key hy
      rw [← rg_of hy, e1] at hk
      obtain ⟨k, _, hok, e2⟩ := keyOf_i_inv hk
      have hh := h3.has k hok
      rw [hn k hok, has_eq] at hh
      have : List.any (List.foldr DataW.insert [] (es.toList.map (rg Try.prog 3 (asIf f)))) (fun p => p.1.sameKey (litI k)) = true := List.any_eq_true.2 ⟨p, hp, by rw [e2]; exact WideAt.sameKey_self (show WideAt.IsKeyLit (litI k) from trivial)⟩
      rw [this] at hh
      cases hh
theorem WRel.none_iff {w : World} {B : Nat → Prop} {G : Int → Option Value} {ws : List WQ} (h : WRel w B G (lookQ ws)) (hok : ∀ y ∈ ws, i64ok y.n) : (∀ k, i64ok k → G k = none) ↔ ws = [] := by
  constructor
  · intro hn
    cases ws with
    | nil => rfl
    | cons y r =>
      have e : lookQ (y :: r) y.n = some (y.l, y.p) := by unfold lookQ; rw [findQ_cons, if_pos rfl]; rfl
      obtain ⟨A, n, c, h1, _⟩ := (h y.n).2 _ _ e
      rw [hn y.n (hok y (List.mem_cons_self ..))] at h1
      cases h1
  · rintro rfl k _
    exact (h k).1 rfl
/-- Values that came in. -/
def UAt (w : World) (A : Option Addr) (zs : List Nat) : Prop := 0 < zs.length → ∃ b o, A = some ⟨b, o, none⟩ ∧ b < w.heap.size ∧ ∀ i, (h : i < zs.length) → w.cell? ⟨b, o + i, none⟩ = some (.int .u64 ((zs[i]'h : Nat) : Int))
theorem UAt.below {w w' : World} {A : Option Addr} {zs : List Nat} (h : UAt w A zs) (hb : Below w.heap.size w w') : UAt w' A zs := fun hl => by
  obtain ⟨b, o, e, hlt, hc⟩ := h hl
  exact ⟨b, o, e, Nat.lt_of_lt_of_le hlt hb.size, fun i hi => by
    have := hc i hi
    unfold World.cell? at this ⊢
    rw [hb.block b hlt]; exact this⟩
theorem OwnU.at_ {w : World} {B : Nat} {A : Option Addr} {c : Nat} {l : List Nat} (h : OwnU w B A c l) : UAt w A l := fun hl => by
  rcases h.2 with ⟨h1, h2⟩ | ⟨g, cap, cur, h1, hb, hg, hn, hm, hc, ht⟩
  · omega
  · injection h1 with e1 e2 e3
    refine ⟨g, 0, e1, (Array.getElem?_eq_some_iff.1 hg).1, fun i hi => ?_⟩
    have hv : (uV l)[i]? = some (.int .u64 ((l[i]'hi : Nat) : Int)) := by unfold uV; rw [List.getElem?_map, List.getElem?_eq_getElem hi]; rfl
    rw [Nat.zero_add, cell_of_row w g i cur _ (0, 0) hg]
    rw [← ht, List.getElem?_take] at hv
    split at hv
    · simpa using hv
    · cases hv
/-- The items that are laid. -/
def loadF : Int → List Nat → List IT
  | _, [] => []
  | k, v :: r => ⟨k, v, 0⟩ :: loadF (k + 1) r
theorem loadF_len : ∀ (l : List Nat) (k : Int), (loadF k l).length = l.length
  | [], _ => rfl
  | v :: r, k => by simp [loadF, loadF_len r]
theorem loadF_snoc : ∀ (l : List Nat) (k : Int) (v : Nat), loadF k (l ++ [v]) = loadF k l ++ [⟨k + (l.length : Nat), v, 0⟩]
  | [], k, v => by simp [loadF]
  | x :: r, k, v => by
    simp only [List.cons_append, loadF, loadF_snoc r, List.length_cons]
    congr 4
    push_cast
    omega
theorem take_one (L : List Nat) (i : Nat) (h : i < L.length) : L.take (i + 1) = L.take i ++ [L[i]'h] := by
  rw [List.take_add_one, List.getElem?_eq_getElem h]; rfl
def loadM (S : QS) (vals : List Nat) (next : Int) : Int × QS :=
  if S.I ≠ [] ∨ S.ws ≠ [] then (7, S) else if 16 < vals.length ∨ next ≤ vals.length ∨ 4611686018427387904 < next then (1, S)
  else (0, { S with I := loadF (next - vals.length) vals, g := next - 1 })
theorem load_nil (A : Option Addr) (n c : Nat) (next : Int) (w : World) : Calls Try.prog 28 #[.pointer none, .slice A n c, .int .i64 next] w fun e w' => e = .returned (.int .i64 6) ∧ w = w' := by
  go_enter Try.func28, Try.ntmps28
  go_wp2
  go_ret
  exact ⟨rfl, rfl⟩
set_option maxRecDepth 100000 in
set_option maxHeartbeats 4000000 in
theorem load_any (g of : Nat) (tt : TypeId) (cs : Array Value) (S : QS) (N : Nat) (A : Option Addr) (zs : List Nat) (n c : Nat) (next : Int) (w : World) (h : QAt w g of tt cs S N) (hn : Hid (n = zs.length)) (hz : UAt w A zs) :
    Calls Try.prog 28 #[.pointer (some ⟨g, of, none⟩), .slice A n c, .int .i64 next] w fun e w' => e = .returned (.int .i64 (loadM S zs next).1) ∧ QO w g of tt cs (loadM S zs next).2 N w' := by
  obtain ⟨A0, n0, cp0, a1, a2, a3, a4, a5⟩ := h.it
  obtain ⟨m, G, h4, h5, h6⟩ := h.wk
  obtain ⟨q, hq, hlen, hq0⟩ := FSrc.len_ex h5 52 75 Try.underlying52
  have hq1 : q = 0 ↔ S.ws = [] := hq0.trans (h6.none_iff fun y hy => (h.le y hy).2)
  have hI : n0 = 0 ↔ S.I = [] := by rw [a2]; exact List.length_eq_zero_iff
  have d0 := (h.bk.cell of).trans a1
  have d2 := (h.bk.cell (of + 2)).trans h4
  have hgl := h.lt
  have d1 := (h.bk.cell (of + 1)).trans h.la
  have f0 := h.bk.frozen of
  have f1 := h.bk.frozen (of + 1)
  have H := Lib.hid (And.intro h (And.intro hz (And.intro a1 (And.intro h.la hgl))))
  have HS := Lib.hid (QO.same h (Below.refl _ _))
  clear h5 h6 hq0 a1 a2 a3 a4 a5 h4 hq h hz
  by_cases hi : n0 = 0
  · by_cases hw : q = 0
    · have hI0 := hI.1 hi
      have hW0 := hq1.1 hw
      subst hi hw
      by_cases hb : 16 < n ∨ next ≤ (n : Int) ∨ 4611686018427387904 < next
      · have hM : loadM S zs next = (1, S) := by unfold loadM; rw [if_neg (by simp [hI0, hW0]), if_pos (by rw [← hn.out]; exact hb)]
        rw [hM]
        clear hM hI hq1 hI0 hW0
        by_cases hb1 : 16 < n
        · have b1 : (16 : Int) < (n : Int) := by omega
          clear hb
          go_enter Try.func28, Try.ntmps28
          go_wp2
          go_ret
          exact ⟨rfl, HS.out⟩
        · have b1 : ¬ (16 : Int) < (n : Int) := by omega
          by_cases hb2 : next ≤ (n : Int)
          · clear hb hb1
            go_enter Try.func28, Try.ntmps28
            go_wp2
            go_ret
            exact ⟨rfl, HS.out⟩
          · have hb3 : 4611686018427387904 < next := by omega
            clear hb hb1
            go_enter Try.func28, Try.ntmps28
            go_wp2
            go_ret
            exact ⟨rfl, HS.out⟩
      · have hM : loadM S zs next = (0, { S with I := loadF (next - zs.length) zs, g := next - 1 }) := by unfold loadM; rw [if_neg (by simp [hI0, hW0]), if_neg (by rw [← hn.out]; exact hb)]
        rw [hM]
        have b1 : ¬ (16 : Int) < (n : Int) := by omega
        have b2 : ¬ next ≤ (n : Int) := by omega
        have b3 : ¬ 4611686018427387904 < next := by omega
        obtain ⟨k0, hk0⟩ : ∃ k0, k0 = next - (n : Int) := ⟨_, rfl⟩
        have hwr : IntKind.i64.wrap (next - (n : Int)) = k0 := by rw [hk0]; exact IntWalk.i64_in _ (by omega)
        have hwr1 : IntKind.i64.wrap (next - 1) = next - 1 := IntWalk.i64_in _ (by omega)
        have hiv : QInv { S with I := loadF k0 zs, g := next - 1 } := by
          refine ⟨?_, ?_, ?_⟩
          · dsimp only; rw [loadF_len, hW0, ← hn.out]; show n + 0 ≤ 48; omega
          · dsimp only; omega
          · dsimp only; rw [hW0]; show next - 1 + 1 + ((0 : Nat) : Int) ≤ 4611686018427387952; omega
        rw [← hn.out, ← hk0]
        have HK := Lib.hid (And.intro hk0 (And.intro hiv (And.intro b1 (And.intro b2 b3))))
        have Hb1 : n ≤ 16 := by omega
        clear hM hI hq1 hI0 hW0 hb hk0 hiv HS d1 f0 f1
        go_enter Try.func28, Try.ntmps28
        go_wp2_with fail
        go_loopw [7, 44] (fun v i wr => ∃ (j n2 c2 : Nat) (A2 : Option Addr) (K : List IT), v = .slice A2 n2 c2 ∧ Hid (n2 = K.length) ∧ n2 = j ∧ j ≤ n ∧ i = .int .i64 j ∧ OwnI wr w.heap.size A2 c2 K ∧ Hid (K = loadF k0 (zs.take j)) ∧ Below w.heap.size w wr) (fun _ i _ => n - (intOf i).toNat)
        case atStart => exact ⟨0, 0, 0, none, [], rfl, rfl, rfl, Nat.zero_le _, rfl, OwnI.nil _ _, rfl, Below.refl _ _⟩
        case round =>
          obtain ⟨j, n2, c2, A2, K, rfl, hn2, rfl, hj, rfl, hown, hK, hbw⟩ := hrel
          by_cases hjn : n2 < n
          · have hjI : (n2 : Int) < (n : Int) := by omega
            have hjz : n2 < zs.length := by rw [← hn.out]; exact hjn
            obtain ⟨b, o, rfl, hbl, hc⟩ := H.out.2.1.below hbw (by omega)
            have q0 := hc n2 hjz
            have hstep : K ++ [⟨k0 + (n2 : Int), zs[n2]'hjz, 0⟩] = loadF k0 (zs.take (n2 + 1)) := by
              rw [take_one zs n2 hjz, loadF_snoc, hK.out, List.length_take, Nat.min_eq_left (by omega)]
            generalize zs[n2]'hjz = zv at q0 hstep
            obtain ⟨kz, hkz⟩ : ∃ kz, kz = k0 + (n2 : Int) := ⟨_, rfl⟩
            have hwr2 : IntKind.i64.wrap (k0 + (n2 : Int)) = kz := by rw [hkz]; exact IntWalk.i64_in _ (by have := HK.out.1; have := HK.out.2.2; omega)
            rw [← hkz] at hstep
            have hb3 := ba wr (.cells #[.int .i64 kz, .int .u64 (zv : Nat), .int .i64 0] 71)
            have hown3 := hown.kept (lbelow_grown hb3 none) (fun r e => by cases e)
            obtain ⟨A5, c5, w5, hrun, hE5, hg5⟩ := it_one hown3 ⟨kz, zv, 0⟩ wr.heap.size n2 (Blk.new wr _ _) hn2.out (by omega) (by have := hbw.size; have := hb3.size; omega)
            have hB5 := (bt hbw hb3).grown hg5 (by have := hbw.size; have := hb3.size; omega) (fun r e => (hown3.lt' r e).1)
            have HE5 := Lib.hid (And.intro hE5 (And.intro hB5 (And.intro hstep (show n2 + 1 = (K ++ [(⟨kz, zv, 0⟩ : IT)]).length by rw [List.length_append, ← hn2.out]; rfl))))
            clear hstep hE5 hB5 hown3 hb3 hg5 hc hK hbl hkz hn2 hown hbw
            go_wp2_with (first
              | (at_builtin; refine wpList_append_run rfl (.tmp 49) (.tmp 58) 51 rfl _ _ _ w5 rfl rfl hrun ?_)
              | go_in)
            go_roundw
            case rel => exact ⟨n2 + 1, n2 + 1, c5, A5, _, rfl, Lib.hid HE5.out.2.2.2, rfl, by omega, by go_num, HE5.out.1, Lib.hid HE5.out.2.2.1, HE5.out.2.1⟩
            case measure => simp [intOf]; omega
          · obtain rfl : n2 = n := by omega
            have hjI : ¬ (n2 : Int) < (n2 : Int) := by omega
            have hKK : K = loadF k0 zs := by rw [hK.out, List.take_of_length_le (by have := hn.out; omega)]
            subst hKK
            have h1 := H.out.1.below hbw
            obtain ⟨A1, m1, cp1, x1, x2, x3, x4, x5⟩ := h1.it
            obtain ⟨mm, G1, y4, y5, y6⟩ := h1.wk
            obtain ⟨w3, hw3⟩ : ∃ w3, w3 = wr.setCell ⟨g, of, none⟩ (.slice A2 n2 c2) := ⟨_, rfl⟩
            have g3 : wr.grownBy w3 (some g) := by rw [hw3]; exact lgrown_set _ _ _
            have k3 : Blk w3 g tt (cs.setIfInBounds of (.slice A2 n2 c2)) := by rw [hw3]; exact h1.bk.set_ of _
            obtain ⟨w4, hw4⟩ : ∃ w4, w4 = w3.setCell ⟨g, of + 1, none⟩ (.int .i64 (next - 1)) := ⟨_, rfl⟩
            have g4 : w3.grownBy w4 (some g) := by rw [hw4]; exact lgrown_set _ _ _
            have k4 : Blk w4 g tt ((cs.setIfInBounds of (.slice A2 n2 c2)).setIfInBounds (of + 1) (.int .i64 (next - 1))) := by rw [hw4]; exact k3.set_ (of + 1) _
            have g34 := g3.trans g4
            have e2 : ((cs.setIfInBounds of (.slice A2 n2 c2)).setIfInBounds (of + 1) (.int .i64 (next - 1)))[of + 2]? = cs[of + 2]? := by
              rw [Array.getElem?_setIfInBounds_ne (by omega), Array.getElem?_setIfInBounds_ne (by omega)]
            have e0 : ((cs.setIfInBounds of (.slice A2 n2 c2)).setIfInBounds (of + 1) (.int .i64 (next - 1)))[of]? = some (.slice A2 n2 c2) := by
              rw [Array.getElem?_setIfInBounds_ne (by omega)]; exact set_at H.out.2.2.1
            have e1 : ((cs.setIfInBounds of (.slice A2 n2 c2)).setIfInBounds (of + 1) (.int .i64 (next - 1)))[of + 1]? = some (.int .i64 (next - 1)) := set_at ((Array.getElem?_setIfInBounds_ne (by omega)).trans H.out.2.2.2.1)
            have hfin : QAt w4 g of tt ((cs.setIfInBounds of (.slice A2 n2 c2)).setIfInBounds (of + 1) (.int .i64 (next - 1))) { S with I := loadF k0 zs, g := next - 1 } N := by
              refine ⟨k4, h1.ty, ⟨A2, n2, c2, e0, hn2.out, by rw [hn2.out]; exact hown.cap, ?_, ?_⟩, e1, ⟨mm, G1, e2.trans y4, y5.kept g34 h1.bk, y6.same fun A l hc => hc.kept g34 h1.bk h1.ty.1⟩, h1.nd, h1.le, HK.out.2.1⟩
              · have := hown.capB; omega
              · exact (hown.at_.mono fun _ _ _ => trivial).kept g34 h1.bk h1.ty.2
            have c30 := (h1.bk.cell of).trans x1
            have f30 := h1.bk.frozen of
            have c31 := (k3.cell (of + 1)).trans ((Array.getElem?_setIfInBounds_ne (by omega)).trans h1.la)
            have f31 := k3.frozen (of + 1)
            have HF : Hid (QO w g of tt cs { S with I := loadF k0 zs, g := next - 1 } N w4) := Lib.hid ⟨⟨_, hfin, (Keep3.set cs of (by omega) _).trans (Keep3.set _ (of + 1) (by omega) _)⟩, (lbelow_grown hbw (some g)).trans g34⟩
            rw [hw3] at c31 f31
            have HW : Hid (w4 = (wr.setCell ⟨g, of, none⟩ (.slice A2 n2 c2)).setCell ⟨g, of + 1, none⟩ (.int .i64 (next - 1))) := Lib.hid (by rw [hw4, hw3])
            clear hfin k3 k4 g3 g4 g34 e0 e1 e2 x1 x2 x3 x4 x5 y4 y5 y6 h1 hw3 hw4 hown hK hn2 hbw
            go_wp2
            rw [← HW.out]
            go_ret
            exact ⟨rfl, HF.out⟩
    · have hM : loadM S zs next = (7, S) := if_pos (.inr fun e => hw (hq1.2 e))
      rw [hM]
      subst hi
      have hqp : (0 : Int) < (q : Int) := by omega
      clear hM hI hq1 hw
      go_enter Try.func28, Try.ntmps28
      go_wp2
      go_ret
      exact ⟨rfl, HS.out⟩
  · have hM : loadM S zs next = (7, S) := if_pos (.inl fun e => hi (hI.2 e))
    rw [hM]
    have hip : (0 : Int) < (n0 : Int) := by omega
    clear hM hI hq1 hi
    go_enter Try.func28, Try.ntmps28
    go_wp2
    go_ret
    exact ⟨rfl, HS.out⟩
end Go.Proofs.Ytfcafahgmnnlnaa.Qu
