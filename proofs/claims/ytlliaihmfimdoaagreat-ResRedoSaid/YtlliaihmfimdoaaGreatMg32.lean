/- Parts Iy Iz Bv Sq of one proof. -/
import Derived.Test.YtlliaihmfimdoaaGreatMg31
import Derived.Test.YtlliaihmfimdoaaGreatMg29
namespace Go.Proofs.YtlliaihmfimdoaaGreat
open Go.RowKit Go.Maps Go.Joins Go.Deep
set_option linter.unusedVariables false
set_option linter.unusedSimpArgs false

theorem touch_found {ws : List WI} {L : List LRow} {n y : Int} {al : Bool} {q : Nat} (h : (touchM ws L n y al q).1 = 0) : ∃ z, findW (touchM ws L n y al q).2.1 n = some z ∧ z ∈ (touchM ws L n y al q).2.1 ∧ z.n = n ∧ z.p = false := by
  have key : ∀ ws' : List WI, ∀ z, findW ws' n = some z → z ∈ ws' ∧ z.n = n := fun ws' z hz => ⟨List.mem_of_find?_eq_some hz, by have := List.find?_some hz; simpa using this⟩
  unfold touchM at h ⊢
  split at h
  · cases h
  · rename_i hb
    rw [if_neg hb]
    split at h
    · rename_i z hz
      split at h
      · cases h
      · rename_i hp
        rw [if_neg hp]
        exact ⟨z, hz, (key ws z hz).1, (key ws z hz).2, by simpa using hp⟩
    · rename_i hz
      dsimp only at h ⊢
      rw [if_pos h]
      have hf : findW (ws ++ [⟨q, n, none, 0, [], false⟩]) n = some ⟨q, n, none, 0, [], false⟩ := by
        unfold findW at hz ⊢
        rw [List.find?_append, hz]
        simp
      exact ⟨_, hf, (key _ _ hf).1, rfl, rfl⟩
def chgOf (l : List Ch) (y : Int) : Option Ch := l.find? fun c => decide (c.y = y)
theorem chgOf_at {l : List Ch} {y : Int} {j : Nat} (hj : j < l.length) (hno : ∀ i, (h : i < l.length) → i < j → (l[i]'h).y ≠ y) (h : (l[j]'hj).y = y) : chgOf l y = some (l[j]'hj) := by
  unfold chgOf
  rw [List.find?_eq_some_iff_getElem]
  exact ⟨by simpa using h, j, hj, rfl, fun i hi => by simpa using hno i (by omega) hi⟩
theorem chgOf_none {l : List Ch} {y : Int} (hno : ∀ i, (h : i < l.length) → (l[i]'h).y ≠ y) : chgOf l y = none := by
  unfold chgOf
  rw [List.find?_eq_none]
  intro y hy
  obtain ⟨i, hi, rfl⟩ := List.mem_iff_getElem.1 hy
  simpa using hno i hi
def getZ (P : List (Int × Nat)) (l : List Ch) (y : Int) : Nat × Bool := match chgOf l y with | some c => (c.v, c.k == 1) | none => valP P y
def getR (P : List (Int × Nat)) (T : Int × List WI × List LRow) (n y : Int) : Nat × Bool × Int :=
  if T.1 = 0 then (match findW T.2.1 n with | some z => ((getZ P z.l y).1, (getZ P z.l y).2, 0) | none => (0, false, 0)) else (0, false, T.1)
def GetO (w : World) (B x : Nat) (P : List (Int × Nat)) (ws : List WI) (L : List LRow) (n y : Int) (e : Ending) (w' : World) : Prop :=
  ∃ q, w.heap.size ≤ q ∧ e = .returned (.tuple #[.int .u64 ((getR P (touchM ws L n y false q) n y).1 : Nat), .bool (getR P (touchM ws L n y false q) n y).2.1, .int .i64 (getR P (touchM ws L n y false q) n y).2.2]) ∧ RAt w' B x P (touchM ws L n y false q).2.1 (touchM ws L n y false q).2.2 ∧ RG B w w' x (fun _ => False)
theorem RG.bel {B0 : Nat} {a b c : World} {x : Nat} {S : Nat → Prop} (h : RG B0 a b x S) (k : Below b.heap.size b c) : RG B0 a c x S := h.trans (RG.of (lbelow_grown k (some x))) (fun _ _ h => h) (S' := S)
set_option maxRecDepth 100000 in
set_option maxHeartbeats 4000000 in
theorem rget_any (B x : Nat) (P : List (Int × Nat)) (ws : List WI) (L : List LRow) (n y : Int) (w : World) (h : RAt w B x P ws L) (hB : B ≤ w.heap.size) (hl : ws.length < 100) (hok : LOk L) (hnc : NoClash L) :
    Calls Tryz.prog 82 #[.pointer (some ⟨x, 0, none⟩), .int .i64 n, .int .i64 y] w (GetO w B x P ws L n y) := by
  have HT := Lib.hid (touch_any B x P ws L n y false w h hB hl hok hnc)
  clear h hl hok hnc
  go_enter Tryz.func82, Tryz.ntmps82
  go_wp2_with fail
  refine HT.out.mono ?_
  rintro e w1 ⟨q, hq, rfl, hR, hG⟩
  have hfound := touch_found (ws := ws) (L := L) (n := n) (y := y) (al := false) (q := q)
  have hfin : ∀ (w2 : World) (v : Nat) (t : Bool) (er : Int), getR P (touchM ws L n y false q) n y = (v, t, er) → Below w1.heap.size w1 w2 → GetO w B x P ws L n y (.returned (.tuple #[.int .u64 (v : Nat), .bool t, .int .i64 er])) w2 := fun w2 v t er e hb => ⟨q, hq, by rw [e], hR.below hb, hG.bel hb⟩
  obtain ⟨T, hTd⟩ : ∃ T, T = touchM ws L n y false q := ⟨_, rfl⟩
  rw [← hTd] at hR hfound hfin ⊢
  obtain ⟨er, ws', L'⟩ := T
  dsimp only at hR hfound hfin ⊢
  rcases he : (er != 0) with _ | _
  · obtain rfl : er = 0 := by simpa using he
    obtain ⟨z, hfz, hzm, hzn, hzp⟩ := hfound rfl
    have hgz : getR P (0, ws', L') n y = ((getZ P z.l y).1, (getZ P z.l y).2, 0) := by unfold getR; rw [if_pos rfl]; dsimp only; rw [hfz]
    have HF := Lib.hid (find_any B x P ws' L' n w1 hR)
    rw [hfz] at HF
    have hz := hR.wk _ hzm
    have hsm := hR.sm.2.2.2 _ hzm
    have HV := fun (u : World) (hu : Below w1.heap.size w1 u) => rvalue_any B x P ws' L' y u (hR.below hu)
    have HVV := Lib.hid HV
    obtain ⟨zq, zn, zA, zc, zl, zp⟩ := z
    dsimp only at hgz hz hsm
    obtain ⟨nl, hnl⟩ : ∃ nl, nl = zl.length := ⟨_, rfl⟩
    rw [← hnl] at hz hsm
    have z1 := fun m : Nat => (show (w1.drewN m).cell? ⟨zq, 1, none⟩ = some (.slice zA nl zc) from hz.2.1.cell 1)
    have z10 : w1.cell? ⟨zq, 1, none⟩ = some (.slice zA nl zc) := hz.2.1.cell 1
    have hown := hz.2.2
    have hq6 : (nl : Int) ≤ 100 := by omega
    have HN := Lib.hid (And.intro hnl hown)
    have HG := Lib.hid (And.intro hfin hgz)
    clear hR hG hTd hfound hfz hzm hzn hzp hz hnl hown HV hfin hgz HT
    go_wp2_with fail
    refine HF.out.mono ?_
    rintro e w2 ⟨rfl, rfl⟩
    dsimp only [Option.map_some]
    go_wp2_with fail
    go_loopw [11] (fun i wr => ∃ j : Nat, j ≤ nl ∧ i = .int .i64 j ∧ Hid (∀ i, (h : i < zl.length) → i < j → (zl[i]'h).y ≠ y) ∧ w1 = wr) (fun i _ => nl - (intOf i).toNat)
    case atStart => exact ⟨0, Nat.zero_le _, rfl, Lib.hid (fun i h h2 => by omega), rfl⟩
    case round =>
      obtain ⟨j, hj, rfl, hno, rfl⟩ := hrel
      by_cases hjn : j < nl
      · have hjI : (j : Int) < (nl : Int) := by omega
        have hjL : j < zl.length := by rw [← HN.out.1]; exact hjn
        obtain ⟨b, o, rfl, _, hcs⟩ := HN.out.2.at_ (by omega)
        obtain ⟨r0, r1, r2⟩ := hcs j hjL
        have hyes : Hid ((zl[j]'hjL).y = y → chgOf zl y = some (zl[j]'hjL)) := Lib.hid (fun e => chgOf_at hjL hno.out e)
        have hstep : Hid (¬ (zl[j]'hjL).y = y → ∀ i, (h : i < zl.length) → i < j + 1 → (zl[i]'h).y ≠ y) := Lib.hid (fun h1 i hi hij => by
          by_cases e : i = j
          · subst e; exact h1
          · exact hno.out i hi (by omega))
        generalize zl[j]'hjL = z at r0 r1 r2 hyes hstep
        obtain ⟨ck, cy, cv⟩ := z
        dsimp only at r0 r1 r2 hyes hstep
        clear hcs hno hjL
        by_cases h1 : cy = y
        · have HP : Hid (getR P (0, ws', L') n y = (cv, ck == 1, 0)) := Lib.hid (by rw [HG.out.2]; unfold getZ; rw [hyes.out h1])
          subst h1
          have s0 := fun m : Nat => cell_drew r0 m
          have s2 := fun m : Nat => cell_drew r2 m
          clear hyes hstep
          go_wp2_with fail
          go_quiet (fail)
          have hdr : Below w1.heap.size w1 (w1.drewN nq) := ⟨rfl, rfl, rfl, Nat.le_refl _, fun _ _ => rfl⟩
          have HX := Lib.hid (HG.out.1 (w1.drewN nq) cv (ck == 1) 0 HP.out hdr)
          clear s0 s2 z1 z10 r0 r1 r2 hdr
          go_wp2
          go_returns
          exact HX.out
        · have hno2 : Hid (∀ i, (h : i < zl.length) → i < j + 1 → (zl[i]'h).y ≠ y) := Lib.hid (hstep.out h1)
          have e1 : (cy == y) = false := by simp [h1]
          clear hyes hstep r0 r2
          go_wp2
          go_roundw
          case rel => exact ⟨j + 1, by omega, by go_num, hno2, by first | rfl | trivial⟩
          case measure => simp [intOf]; omega
      · have hjI : ¬ (j : Int) < (nl : Int) := by omega
        have HP : Hid (getR P (0, ws', L') n y = ((valP P y).1, (valP P y).2, 0)) := Lib.hid (by
          rw [HG.out.2]; unfold getZ; rw [chgOf_none fun i hi => hno.out i hi (by have := HN.out.1; omega)])
        have HV1 := Lib.hid (HVV.out w1 (Below.refl _ _))
        clear hno HVV
        go_wp2_with fail
        refine HV1.out.mono ?_
        rintro e w3 ⟨rfl, rfl⟩
        have HX := Lib.hid (HG.out.1 w1 _ _ 0 HP.out (Below.refl _ _))
        clear z1 z10
        go_wp2
        go_returns
        exact HX.out
  · have hne : er ≠ 0 := by simpa using he
    have HX : Hid (GetO w B x P ws L n y (.returned (.tuple #[.int .u64 (0 : Nat), .bool false, .int .i64 er])) w1) := Lib.hid (hfin w1 0 false er (by unfold getR; rw [if_neg hne]) (Below.refl _ _))
    clear hR hG hTd hfound hfin HT
    go_wp2
    go_returns
    exact HX.out
end Go.Proofs.YtlliaihmfimdoaaGreat

namespace Go.Proofs.YtlliaihmfimdoaaGreat
open Go.RowKit Go.Maps Go.Joins Go.Deep
set_option linter.unusedVariables false
set_option linter.unusedSimpArgs false

theorem own_same {u u' : World} {B k n c m : Nat} {t : TypeId} {A : Option Addr} {vs : List Value} (h : u.ownsRow B t k (.slice A n c) m vs) (hs : ∀ r, r < u.heap.size → (∃ cs fz, u.heap[r]? = some (.cells cs t fz)) → blk A = some r → u'.heap[r]? = u.heap[r]?) : u'.ownsRow B t k (.slice A n c) m vs := by
  obtain ⟨h1, h2⟩ := h
  refine ⟨h1, ?_⟩
  rcases h2 with h2 | ⟨g, cap, cur, hv, hb, hg, hrest⟩
  · exact .inl h2
  · refine .inr ⟨g, cap, cur, hv, hb, ?_, hrest⟩
    injection hv with e1 _ _
    rw [hs g (Array.getElem?_eq_some_iff.1 hg).1 ⟨_, _, hg⟩ (by rw [e1]; rfl)]
    exact hg
theorem q_same {ws : List WI} (hd : ws.Pairwise fun a b => a.q ≠ b.q ∧ ∀ r, blk a.A = some r → blk b.A ≠ some r) {a b : WI} (ha : a ∈ ws) (hb : b ∈ ws) (e : a.q = b.q) : a = b := by
  obtain ⟨i, hi, rfl⟩ := List.mem_iff_getElem.1 ha
  obtain ⟨j, hj, rfl⟩ := List.mem_iff_getElem.1 hb
  rcases Nat.lt_trichotomy i j with h | h | h
  · exact absurd e (List.pairwise_iff_getElem.1 hd i j hi hj h).1
  · subst h; rfl
  · exact absurd e.symm (List.pairwise_iff_getElem.1 hd j i hj hi h).1
theorem A_apart {ws : List WI} (hd : ws.Pairwise fun a b => a.q ≠ b.q ∧ ∀ r, blk a.A = some r → blk b.A ≠ some r) {a b : WI} (ha : a ∈ ws) (hb : b ∈ ws) (e : a.q ≠ b.q) (r : Nat) (h1 : blk a.A = some r) : blk b.A ≠ some r := by
  obtain ⟨i, hi, rfl⟩ := List.mem_iff_getElem.1 ha
  obtain ⟨j, hj, rfl⟩ := List.mem_iff_getElem.1 hb
  rcases Nat.lt_trichotomy i j with h | h | h
  · exact (List.pairwise_iff_getElem.1 hd i j hi hj h).2 r h1
  · subst h; exact absurd rfl e
  · intro h2
    exact (List.pairwise_iff_getElem.1 hd j i hj hi h).2 r h2 h1
def turnW (ws : List WI) (z : WI) : List WI := ws.map fun y => if y.q = z.q then z else y
/-- A work turns. -/
theorem RAt.upd {w w' : World} {B x : Nat} {P : List (Int × Nat)} {ws : List WI} {L : List LRow} (h : RAt w B x P ws L) {z z' : WI} (hz : z ∈ ws) (hq : z'.q = z.q)
    (hs : w.heap.size ≤ w'.heap.size) (hg : ∀ k, k < w.heap.size → k ≠ z.q → blk z.A ≠ some k → w'.heap[k]? = w.heap[k]?)
    (hb : Blk w' z.q 147 #[.int .i64 z'.n, .slice z'.A z'.l.length z'.c, .bool z'.p]) (ho : OwnC w' B z'.A z'.c z'.l) (hA : ∀ r, blk z'.A = some r → blk z.A = some r ∨ w.heap.size ≤ r) (hl : z'.l.length ≤ 100) : RAt w' B x P (turnW ws z') L := by
  obtain ⟨AP, nP, cP, AW, nW, cW, AL, nL, cL, hk, hnP, hnW, hnL, hpr, hpt, hll⟩ := h.ex
  obtain ⟨z1, z2, z3⟩ := h.wk z hz
  have zA : ∀ r, blk z.A = some r → ∃ cs fz, w.heap[r]? = some (.cells cs 74 fz) := fun r e => by
    rcases z3.2 with ⟨h1, h2⟩ | ⟨g, cap, cur, hv, hb, hg, hrest⟩
    · injection h1 with e1 _ _; rw [e1] at e; cases e
    · injection hv with e1 _ _
      rw [e1] at e
      injection e with e
      have e : g = r := e
      subst e
      exact ⟨_, _, hg⟩
  have keep : ∀ {k : Nat} {cs : Array Value} {t : TypeId} {fz : Nat × Nat}, w.heap[k]? = some (.cells cs t fz) → t ≠ 147 → t ≠ 74 → w'.heap[k]? = w.heap[k]? := fun {k cs t fz} e h1 h2 => by
    refine hg k (Array.getElem?_eq_some_iff.1 e).1 (fun e2 => ?_) (fun e2 => ?_)
    · subst e2
      unfold Blk at z2
      rw [z2] at e
      injection e with e
      injection e with _ e _
      exact h1 e.symm
    · obtain ⟨cs2, fz2, e3⟩ := zA k e2
      rw [e3] at e
      injection e with e
      injection e with _ e _
      exact h2 e.symm
  refine ⟨⟨AP, nP, cP, AW, nW, cW, AL, nL, cL, ?_, hnP, by unfold turnW; rw [List.length_map]; exact hnW, hnL, ?_, ?_, ?_⟩, ?_, ?_, h.sm.1, by unfold turnW; rw [List.length_map]; exact h.sm.2.1, h.sm.2.2.1, ?_⟩
  · unfold Blk at hk ⊢
    rw [keep hk (by decide) (by decide)]
    exact hk
  · exact own_same hpr fun r _ ⟨cs, fz, e⟩ _ => keep e (by decide) (by decide)
  · have e : (turnW ws z').map WI.q = ws.map WI.q := by
      unfold turnW
      rw [List.map_map]
      refine List.map_congr_left fun y _ => ?_
      show (if y.q = z'.q then z' else y).q = y.q
      split
      · rename_i e; exact e.symm
      · rfl
    rw [e]
    exact own_same hpt fun r _ ⟨cs, fz, e⟩ _ => keep e (by decide) (by decide)
  · refine ⟨hll.nil, fun hn => ?_⟩
    obtain ⟨b, cs, e, hbB, hkb, hc⟩ := hll.at_ hn
    refine ⟨b, cs, e, hbB, ?_, hc⟩
    unfold Blk at hkb ⊢
    rw [keep hkb (by decide) (by decide)]
    exact hkb
  · intro y hy
    obtain ⟨y0, hy0, rfl⟩ := List.mem_map.1 hy
    by_cases e : y0.q = z'.q
    · rw [if_pos e]
      rw [hq]
      exact ⟨z1, hb, ho⟩
    · rw [if_neg e]
      obtain ⟨y1, y2, y3⟩ := h.wk y0 hy0
      have hne : y0.q ≠ z.q := fun e2 => e (e2.trans hq.symm)
      refine ⟨y1, ?_, own_same y3 fun r hr ⟨cs, fz, e2⟩ e3 => hg r hr (fun e4 => ?_) (fun e4 => A_apart h.ds hz hy0 (fun e => hne e.symm) r e4 e3)⟩
      · unfold Blk at y2 ⊢
        rw [hg y0.q (Array.getElem?_eq_some_iff.1 y2).1 hne (fun e4 => by
          obtain ⟨cs2, fz2, e5⟩ := zA _ e4
          rw [e5] at y2
          injection y2 with y2
          injection y2 with _ y2 _
          exact absurd y2 (by decide))]
        exact y2
      · subst e4
        unfold Blk at z2
        rw [z2] at e2
        injection e2 with e2
        injection e2 with _ e2 _
        exact absurd e2 (by decide)
  · unfold turnW
    rw [List.pairwise_map]
    refine List.Pairwise.imp_of_mem ?_ h.ds
    intro a b ha hb' hab
    have hlt : ∀ y ∈ ws, ∀ r, blk y.A = some r → r < w.heap.size := fun y hy r e => ((h.wk y hy).2.2.lt' r e).2
    by_cases ea : a.q = z'.q
    · have haz : a = z := q_same h.ds ha hz (ea.trans hq)
      have eb : b.q ≠ z'.q := fun e => hab.1 (ea.trans e.symm)
      rw [if_pos ea, if_neg eb]
      refine ⟨fun e => eb e.symm, fun r hr hr2 => ?_⟩
      rcases hA r hr with h1 | h1
      · exact hab.2 r (by rw [haz]; exact h1) hr2
      · have := hlt b hb' r hr2; omega
    · by_cases eb : b.q = z'.q
      · have hbz : b = z := q_same h.ds hb' hz (eb.trans hq)
        rw [if_neg ea, if_pos eb]
        refine ⟨ea, fun r hr hr2 => ?_⟩
        rcases hA r hr2 with h1 | h1
        · exact hab.2 r hr (by rw [hbz]; exact h1)
        · have := hlt a ha r hr; omega
      · rw [if_neg ea, if_neg eb]
        exact hab
  · intro y hy
    obtain ⟨y0, hy0, rfl⟩ := List.mem_map.1 hy
    split
    · exact hl
    · exact h.sm.2.2.2 y0 hy0
def prepR (ws : List WI) (L : List LRow) (n : Int) : (List Ch × Int) × List WI × List LRow :=
  if n < 1 then (([], 1), ws, L) else match findW ws n with
    | some z => if z.p = true then (([], 7), ws, L) else if z.l.length = 0 then (([], 0), othersW ws n, dropL L n) else ((z.l, 0), turnW ws { z with p := true }, L)
    | none => (([], 0), othersW ws n, dropL L n)
def RPrepO (w : World) (B x : Nat) (P : List (Int × Nat)) (R : (List Ch × Int) × List WI × List LRow) (e : Ending) (w' : World) : Prop :=
  ∃ A q c, e = .returned (.tuple #[.slice A q c, .int .i64 R.1.2]) ∧ q = R.1.1.length ∧ OwnC w' w.heap.size A c R.1.1 ∧ RAt w' B x P R.2.1 R.2.2 ∧ RG B w w' x (fun _ => False)
set_option maxRecDepth 100000 in
set_option maxHeartbeats 4000000 in
theorem rprep_any (B x : Nat) (P : List (Int × Nat)) (ws : List WI) (L : List LRow) (n : Int) (w : World) (h : RAt w B x P ws L) (hB : B ≤ w.heap.size) :
    Calls Tryz.prog 86 #[.pointer (some ⟨x, 0, none⟩), .int .i64 n] w (RPrepO w B x P (prepR ws L n)) := by
  have HD := Lib.hid (rsdrop_any B x P ws L n w h hB)
  have HF := Lib.hid (find_any B x P ws L n w h)
  have hnil : ∀ (er : Int), prepR ws L n = (([], er), ws, L) → RPrepO w B x P (prepR ws L n) (.returned (.tuple #[.slice none 0 0, .int .i64 er])) w := fun er e => ⟨none, 0, 0, by rw [e], by rw [e]; rfl, by rw [e]; exact OwnC.nil _ _, by rw [e]; exact h, RG.of (lbelow_grown (Below.refl _ _) _)⟩
  have hdrop : prepR ws L n = (([], 0), othersW ws n, dropL L n) → ∀ w', RAt w' B x P (othersW ws n) (dropL L n) → w.grownBy w' (some x) → RPrepO w B x P (prepR ws L n) (.returned (.tuple #[.slice none 0 0, .int .i64 0])) w' := fun e w' h1 h2 => ⟨none, 0, 0, by rw [e], by rw [e]; rfl, by rw [e]; exact OwnC.nil _ _, by rw [e]; exact h1, RG.of h2⟩
  have HN := Lib.hid (And.intro hnil hdrop)
  clear hnil hdrop
  rcases a1 : decide (n < 1) with _ | _
  · have p1 : ¬ n < 1 := of_decide_eq_false a1
    rcases hf : findW ws n with _ | z
    · have hM : prepR ws L n = (([], 0), othersW ws n, dropL L n) := by unfold prepR; rw [if_neg p1, hf]
      have HM := Lib.hid hM
      rw [hf] at HF
      clear h hM hf
      go_enter Tryz.func86, Tryz.ntmps86
      go_wp2_with fail
      refine HF.out.mono ?_
      rintro e w1 ⟨rfl, rfl⟩
      dsimp only [Option.map_none]
      go_wp2_with fail
      refine HD.out.mono ?_
      rintro e w2 ⟨rfl, hr, hg⟩
      have HX := Lib.hid (HN.out.2 HM.out w2 hr hg)
      clear hr hg
      go_wp2
      go_returns
      exact HX.out
    · have hzm : z ∈ ws := List.mem_of_find?_eq_some hf
      have hz := h.wk z hzm
      have hlen := h.sm.2.2.2 z hzm
      rw [hf] at HF
      have hM0 : prepR ws L n = if z.p = true then (([], 7), ws, L) else if z.l.length = 0 then (([], 0), othersW ws n, dropL L n) else ((z.l, 0), turnW ws { z with p := true }, L) := by unfold prepR; rw [if_neg p1, hf]
      have hupd := fun (w' : World) (hs) (hg) (hb) => h.upd (w' := w') hzm (z' := { z with p := true }) rfl hs hg hb
      obtain ⟨zq, zn, zA, zc, zl, zp⟩ := z
      dsimp only at hz hM0 hlen hupd
      obtain ⟨nl, hnl⟩ : ∃ nl, nl = zl.length := ⟨_, rfl⟩
      rw [← hnl] at hz hM0 hlen hupd
      have z1 : w.cell? ⟨zq, 1, none⟩ = some (.slice zA nl zc) := hz.2.1.cell 1
      have z2 : w.cell? ⟨zq, 2, none⟩ = some (.bool zp) := hz.2.1.cell 2
      rcases zp with _ | _
      · rw [if_neg (by simp)] at hM0
        by_cases h0 : nl = 0
        · rw [if_pos h0] at hM0
          have HM := Lib.hid hM0
          subst h0
          clear h hM0 hf hz hzm hupd hnl
          go_enter Tryz.func86, Tryz.ntmps86
          go_wp2_with fail
          refine HF.out.mono ?_
          rintro e w1 ⟨rfl, rfl⟩
          dsimp only [Option.map_some]
          go_wp2_with fail
          refine HD.out.mono ?_
          rintro e w2 ⟨rfl, hr, hg⟩
          have HX := Lib.hid (HN.out.2 HM.out w2 hr hg)
          clear hr hg z1 z2
          go_wp2
          go_returns
          exact HX.out
        · rw [if_neg h0] at hM0
          have hne : ((nl : Int) == 0) = false := by simp; omega
          have f2 := hz.2.1.frozen 2
          have ks := hz.2.1.set_ 2 (.bool true)
          have gs := lgrown_set w ⟨zq, 2, none⟩ (.bool true)
          obtain ⟨w1, hw1⟩ : ∃ w1, w1 = w.setCell ⟨zq, 2, none⟩ (.bool true) := ⟨_, rfl⟩
          have hk1 : Blk w1 zq 147 #[.int .i64 zn, .slice zA nl zc, .bool true] := by rw [hw1]; exact ks
          have gs1 : w.grownBy w1 (some zq) := by rw [hw1]; exact gs
          have ho1 : OwnC w1 B zA zc zl := own_kept hz.2.2 hz.2.1 (by decide) gs1
          have hR1 := hupd w1 gs1.size (fun k hk hne _ => gs1.block k hk (fun e => hne (by injection e))) hk1 ho1 (fun r e => .inl e) (by omega)
          have hcs := ho1.at_
          obtain ⟨A2, c2, w2, hrun, own2, g2, hat2⟩ := ch_app (OwnC.nil w1 w1.heap.size) zA zc zl 0 nl rfl hnl (fun b o e i hi => by
            obtain ⟨b', o', e', _, hc⟩ := hcs (by omega)
            rw [e] at e'
            cases e'
            exact hc i hi) (fun hp => by obtain ⟨b', o', e', _⟩ := hcs hp; exact ⟨b', o', e'⟩) (Nat.le_refl _) (by simp; omega) (Nat.le_refl _)
          rw [Nat.zero_add] at hrun
          rw [List.nil_append] at own2
          have b2 : Below w1.heap.size w1 w2 := ⟨g2.os, g2.tape, g2.output, g2.size, fun k hk => g2.block k hk (by simp [blk])⟩
          have hrg : RG B w w1 x (fun _ => False) := ⟨gs1.os, gs1.tape, gs1.output, gs1.size, fun k hb hk hx => gs1.block k hk (fun e2 => by injection e2 with e2; have := hz.1; omega), fun k hk hx => by
            by_cases e : k = zq
            · subst e; exact .inr (.inr (.inl ⟨_, _, hz.2.1⟩))
            · exact .inl (gs1.block k hk (fun e2 => e (by injection e2)))⟩
          have HX : Hid (RPrepO w B x P (prepR ws L n) (.returned (.tuple #[.slice A2 nl c2, .int .i64 0])) w2) := Lib.hid ⟨A2, nl, c2, by rw [hM0], by rw [hM0]; exact hnl, by rw [hM0]; exact own_less own2 gs1.size, by rw [hM0]; exact hR1.below b2, hrg.bel b2⟩
          have d1 : w1.cell? ⟨zq, 1, none⟩ = some (.slice zA nl zc) := hk1.cell 1
          have HW1 := Lib.hid hw1
          rw [hw1] at hrun d1
          clear h hM0 hf hz hzm hupd hnl ks gs hk1 gs1 ho1 hR1 hcs own2 g2 hat2 b2 hrg hw1
          go_enter Tryz.func86, Tryz.ntmps86
          go_wp2_with fail
          refine HF.out.mono ?_
          rintro e w3 ⟨rfl, rfl⟩
          dsimp only [Option.map_some]
          go_wp2_with (at_builtin; refine wpList_append_run rfl (.tmp 37) (.tmp 41) 40 rfl _ _ _ w2 rfl rfl hrun ?_)
          go_returns
          exact HX.out
      · rw [if_pos rfl] at hM0
        have HX := Lib.hid (HN.out.1 7 hM0)
        clear h hM0 hf hz hzm hupd hnl
        go_enter Tryz.func86, Tryz.ntmps86
        go_wp2_with fail
        refine HF.out.mono ?_
        rintro e w1 ⟨rfl, rfl⟩
        dsimp only [Option.map_some]
        go_wp2
        go_returns
        exact HX.out
  · have p1 : n < 1 := of_decide_eq_true a1
    have HX := Lib.hid (HN.out.1 1 (by unfold prepR; rw [if_pos p1]))
    clear h
    go_enter Tryz.func86, Tryz.ntmps86
    go_wp2
    go_returns
    exact HX.out
end Go.Proofs.YtlliaihmfimdoaaGreat

namespace Go.Proofs.YtlliaihmfimdoaaGreat
open Go.RowKit Go.Maps Go.Joins Go.Deep
set_option linter.unusedVariables false
set_option linter.unusedSimpArgs false

theorem Tryz.infoPr : (Tryz.prog.info? 114).map (fun i => (i.zero, i.size, i.bytes)) = some (some (.agg #[.int .i64 0, .int .u64 0]), 2, 16) := by kernel_rfl
theorem pr_more {u : World} {B c : Nat} {A : Option Addr} {P : List (Int × Nat)} (h : OwnPr u B A c P) (n : Nat) (hn : n = P.length) (hl : n ≤ 1000) (k : Int) (v : Nat) (q : Nat) (hBu : B ≤ u.heap.size)
    (hq : Blk u q 114 #[.int .i64 k, .int .u64 (v : Nat)]) :
    ∃ A2 c2 u', (Builtin.append_ #[26, 26] 26 #[.slice A n c, .slice (some ⟨q, 0, none⟩) 1 1]).run Tryz.prog u = .ok (.slice A2 (n + 1) c2) u' ∧
      OwnPr u' B A2 c2 (P ++ [(k, v)]) ∧ u.grownBy u' (blk A) := by
  subst hn
  obtain ⟨i0, hi, hz0, hz1, hz2⟩ := info_parts Tryz.infoPr
  have hlen : ∀ P : List (Int × Nat), (prV P).length = P.length * 2 := fun P => by
    induction P with
    | nil => rfl
    | cons o P ih => unfold prV at ih ⊢; rw [List.flatMap_cons, List.length_append, ih]; simp; omega
  obtain ⟨v', w', hrun, hown, hgr, _, _⟩ := run_append_own_at (P := Tryz.prog) u B 26 26 114 i0 _ 2 16 Tryz.underlying26 hi hz0 hz1 hz2 rfl (by omega) (.slice A P.length c) P.length (prV P) h ⟨q, 0, none⟩ 1 1 [.int .i64 k, .int .u64 (v : Nat)] rfl
    (fun j v hv => by
      have := hq.cell j
      have e : (⟨q, 0, none⟩ : Addr).add j = ⟨q, j, none⟩ := by
        simp [Addr.add]
        try omega
      rw [e, this]
      rw [List.getElem?_toArray]; exact hv)
    (fun v hv => by simp at hv; rcases hv with rfl | rfl <;> rfl) (by simp only [maxLen]; omega) (by omega) hBu
  obtain ⟨g2, c2, rfl⟩ := Joins.ownsRow_form hown (by omega)
  rw [ownBlock_slice] at hgr
  refine ⟨some ⟨g2, 0, none⟩, c2, w', hrun, ?_, hgr⟩
  unfold OwnPr
  rw [List.length_append, show prV (P ++ [(k, v)]) = prV P ++ [.int .i64 k, .int .u64 (v : Nat)] by unfold prV; simp]
  exact hown
/-- Other pairs. -/
theorem RAt.rpr {w : World} {B B' x : Nat} {P P' : List (Int × Nat)} {ws : List WI} {L : List LRow} (h : RAt w B x P ws L) {A : Option Addr} {c n : Nat} (hn : n = P'.length) (ho : OwnPr w B' A c P') (hB : B ≤ B') (hl : P'.length ≤ 100) : RAt (w.setCell ⟨x, 0, none⟩ (.slice A n c)) B x P' ws L := by
  obtain ⟨AP, nP, cP, AW, nW, cW, AL, nL, cL, hk, hnP, hnW, hnL, hpr, hpt, hll⟩ := h.ex
  have hgs := lgrown_set w ⟨x, 0, none⟩ (.slice A n c)
  have ks := hk.set_ 0 (.slice A n c)
  exact ⟨⟨A, n, c, AW, nW, cW, AL, nL, cL, ks, hn, hnW, hnL, own_kept (own_less ho hB) hk (by decide) hgs, own_kept hpt hk (by decide) hgs, hll.kept hgs fun r e => by cases e; exact .inr ⟨_, _, by decide, hk⟩⟩, wk_kept h.wk hk hgs, h.ds, hl, h.sm.2⟩
def othersP (P : List (Int × Nat)) (y : Int) : List (Int × Nat) := P.filter fun x => decide (x.1 ≠ y)
def setPr (P : List (Int × Nat)) (c : Ch) : List (Int × Nat) := if c.k = 1 then othersP P c.y ++ [(c.y, c.v)] else othersP P c.y
theorem othersP_snoc {P : List (Int × Nat)} {n : Int} {j : Nat} (hj : j < P.length) : othersP (P.take (j + 1)) n = if (P[j]'hj).1 = n then othersP (P.take j) n else othersP (P.take j) n ++ [P[j]'hj] := by
  unfold othersP
  rw [List.take_add_one, List.getElem?_eq_getElem hj, List.filter_append]
  split
  · rename_i h; simp [h]
  · rename_i h; simp [h]
set_option maxRecDepth 100000 in
set_option maxHeartbeats 4000000 in
theorem rset_any (B x : Nat) (P : List (Int × Nat)) (ws : List WI) (L : List LRow) (ch : Ch) (w : World) (h : RAt w B x P ws L) (hB : B ≤ w.heap.size) (hP : P.length < 100) :
    Calls Tryz.prog 133 #[.pointer (some ⟨x, 0, none⟩), .agg #[.int .i64 ch.k, .int .i64 ch.y, .int .u64 (ch.v : Nat)]] w fun e w' => e = .returned (.tuple #[]) ∧ RAt w' B x (setPr P ch) ws L ∧ w.grownBy w' (some x) := by
  obtain ⟨ck, cy, cv⟩ := ch
  dsimp only
  obtain ⟨w1, hw1⟩ : ∃ w1, w1 = w.alloc (.cells #[.int .i64 ck, .int .i64 cy, .int .u64 (cv : Nat)] 74) := ⟨_, rfl⟩
  have b1 : Below w.heap.size w w1 := by rw [hw1]; exact ba _ _
  have k1 : Blk w1 w.heap.size 74 #[.int .i64 ck, .int .i64 cy, .int .u64 (cv : Nat)] := by rw [hw1]; exact Blk.new _ _ _
  obtain ⟨gc, hgc⟩ : ∃ gc, gc = w.heap.size := ⟨_, rfl⟩
  rw [← hgc] at k1
  have hR1 := h.below b1
  obtain ⟨AP, nP, cP, AW, nW, cW, AL, nL, cL, hk, hnP, _, _, hpr, _, _⟩ := hR1.ex
  have H1 := Lib.hid (And.intro hR1 (And.intro b1 (And.intro (Nat.le_trans hB b1.size) (And.intro k1 (And.intro hk hpr)))))
  have HN := Lib.hid hnP
  have hn1 : nP < 100 := by rw [hnP]; exact hP
  have HW1 := Lib.hid hw1
  have Hgc := Lib.hid hgc
  clear h hR1 hk hpr hnP b1 k1 hP hB hw1
  go_enter Tryz.func133, Tryz.ntmps133
  go_wp2_with fail
  rw [← HW1.out, ← hgc]
  clear hgc
  go_loopw [4, 5] (fun v i wr => ∃ (j n2 c2 : Nat) (A2 : Option Addr), v = .slice A2 n2 c2 ∧ j ≤ nP ∧ n2 ≤ j ∧ i = .int .i64 j ∧ Hid (n2 = (othersP (P.take j) cy).length ∧ OwnPr wr w1.heap.size A2 c2 (othersP (P.take j) cy) ∧ Below w1.heap.size w1 wr)) (fun _ i _ => nP - (intOf i).toNat)
  case atStart => exact ⟨0, 0, 0, none, rfl, Nat.zero_le _, Nat.le_refl _, rfl, Lib.hid ⟨rfl, World.ownsRow_nil _ _ _ _, Below.refl _ _⟩⟩
  case round =>
    obtain ⟨j, n2, c2, A2, rfl, hj, hn2j, rfl, HR⟩ := hrel
    by_cases hjn : j < nP
    · have hjI : (j : Int) < (nP : Int) := by omega
      have hjL : j < P.length := by rw [← HN.out]; exact hjn
      obtain ⟨hn2, hown, hb⟩ := HR.out
      have hkr := H1.out.2.2.2.2.1.below hb H1.out.2.2.2.2.1.lt
      have hkc := H1.out.2.2.2.1.below hb H1.out.2.2.2.1.lt
      have c0 : wr.cell? ⟨x, 0, none⟩ = some (.slice AP nP cP) := hkr.cell 0
      have hpt := H1.out.2.2.2.2.2
      unfold OwnPr at hpt
      obtain ⟨b, rfl, _, hbl, _, hc⟩ := row_cells hpt (by omega)
      have q0 := (hb.cell (p := ⟨b, j * 2, none⟩) hbl).trans (hc (j * 2) _ (prV_at P j hjL).1)
      have q1 := (hb.cell (p := ⟨b, j * 2 + 1, none⟩) hbl).trans (hc (j * 2 + 1) _ (prV_at P j hjL).2)
      have hsn := othersP_snoc (n := cy) hjL
      generalize P[j]'hjL = y at q0 q1 hsn
      obtain ⟨yk, yv⟩ := y
      dsimp only at q0 q1 hsn
      have d0 := fun m : Nat => cell_drew c0 m
      have d1 := fun m : Nat => cell_drew q0 m
      have d2 := fun m : Nat => (show (wr.drewN m).cell? ⟨gc, 1, none⟩ = some (.int .i64 cy) from hkc.cell 1)
      have hdr : ∀ m : Nat, Below wr.heap.size wr (wr.drewN m) := fun m => ⟨rfl, rfl, rfl, Nat.le_refl _, fun _ _ => rfl⟩
      by_cases h1 : yk = cy
      · rw [if_pos h1] at hsn
        have HX : Hid (∀ m : Nat, n2 = (othersP (P.take (j + 1)) cy).length ∧ OwnPr (wr.drewN m) w1.heap.size A2 c2 (othersP (P.take (j + 1)) cy) ∧ Below w1.heap.size w1 (wr.drewN m)) := Lib.hid (fun m => by rw [hsn]; exact ⟨hn2, own_same hown (fun r _ _ _ => rfl), bt hb (hdr m)⟩)
        have e1 : (yk != cy) = false := by simp [h1]
        clear hpt hc hkr hkc hown hb hbl hsn HR hjL hn2 hdr q0 q1
        go_wp2_with fail
        go_quiet (fail)
        have HX2 := Lib.hid (HX.out nq)
        clear d0 d1 d2 HX c0
        go_wp2
        go_roundw
        case rel => exact ⟨j + 1, n2, c2, A2, rfl, by omega, by omega, by go_num, HX2⟩
        case measure => simp [intOf]; omega
      · rw [if_neg h1] at hsn
        have e1 : (yk != cy) = true := by simp [h1]
        have HY := Lib.hid (And.intro hn2 (And.intro hown hb))
        have HS := Lib.hid hsn
        clear hpt hc hkr hkc hown hb hbl hsn HR hjL hn2 hdr q0
        go_wp2_with fail
        go_quiet (fail)
        obtain ⟨wd, hwd⟩ : ∃ wd, wd = wr.drewN nq := ⟨_, rfl⟩
        obtain ⟨hn2, hown, hb⟩ : n2 = (othersP (P.take j) cy).length ∧ OwnPr wd w1.heap.size A2 c2 (othersP (P.take j) cy) ∧ Below w1.heap.size w1 wd := by rw [hwd]; exact ⟨HY.out.1, own_same HY.out.2.1 (fun r _ _ _ => rfl), bt HY.out.2.2 ⟨rfl, rfl, rfl, Nat.le_refl _, fun _ _ => rfl⟩⟩
        have g0 : wd.cell? ⟨x, 0, none⟩ = some (.slice (some ⟨b, 0, none⟩) nP cP) := by rw [hwd]; exact d0 nq
        have g1 : wd.cell? ⟨b, j * 2, none⟩ = some (.int .i64 yk) := by rw [hwd]; exact d1 nq
        have g2 : wd.cell? ⟨b, j * 2 + 1, none⟩ = some (.int .u64 (yv : Nat)) := by rw [hwd]; exact q1
        rw [← hwd]
        clear d0 d1 d2 q1 hwd c0
        have hb3 := ba wd (.cells #[.int .i64 yk, .int .u64 (yv : Nat)] 114)
        have own3 : OwnPr (wd.alloc (.cells #[.int .i64 yk, .int .u64 (yv : Nat)] 114)) w1.heap.size A2 c2 (othersP (P.take j) cy) := World.ownsRow.kept hown (lbelow_grown hb3 none) (by rcases (Value.slice A2 (othersP (P.take j) cy).length c2).ownBlock with _ | k; exact .inl rfl; exact .inr (fun e => by cases e))
        obtain ⟨A5, c5, w5, hrun, hE5, hg5⟩ := pr_more own3 n2 hn2 (by omega) yk yv wd.heap.size (by have := hb.size; have := hb3.size; omega) (Blk.new wd _ _)
        have hB5 := (bt hb hb3).grown hg5 (by have := hb.size; have := hb3.size; omega) (fun r e => (World.ownsRow.lt own3 r (by rw [ownBlock_slice]; exact e)).1)
        have HX : Hid (n2 + 1 = (othersP (P.take (j + 1)) cy).length ∧ OwnPr w5 w1.heap.size A5 c5 (othersP (P.take (j + 1)) cy) ∧ Below w1.heap.size w1 w5) := Lib.hid (by rw [HS.out, List.length_append, ← hn2]; exact ⟨rfl, hE5, hB5⟩)
        clear hown hb hn2 hb3 own3 hE5 hg5 hB5
        go_wp2_with (at_builtin; refine wpList_append_run rfl (.tmp 26) (.tmp 34) 26 rfl _ _ _ w5 rfl rfl hrun ?_)
        go_roundw
        case rel => exact ⟨j + 1, n2 + 1, c5, A5, rfl, by omega, by omega, by go_num, HX⟩
        case measure => simp [intOf]; omega
    · have hjI : ¬ (j : Int) < (nP : Int) := by omega
      have hjj : P.take j = P := List.take_of_length_le (by have := HN.out; omega)
      obtain ⟨hn2, hown, hb⟩ := HR.out
      rw [hjj] at hn2 hown
      have hkr := H1.out.2.2.2.2.1.below hb H1.out.2.2.2.2.1.lt
      have hkc := H1.out.2.2.2.1.below hb H1.out.2.2.2.1.lt
      have c0 : wr.cell? ⟨x, 0, none⟩ = some (.slice AP nP cP) := hkr.cell 0
      have f0 := hkr.frozen 0
      have d0 : wr.cell? ⟨gc, 0, none⟩ = some (.int .i64 ck) := hkc.cell 0
      have d1 : wr.cell? ⟨gc, 1, none⟩ = some (.int .i64 cy) := hkc.cell 1
      have d2 : wr.cell? ⟨gc, 2, none⟩ = some (.int .u64 (cv : Nat)) := hkc.cell 2
      have hol : (othersP P cy).length ≤ P.length := List.length_filter_le _ _
      have hbw := bt H1.out.2.1 hb
      by_cases hk1 : ck = 1
      · subst hk1
        have hset : setPr P ⟨1, cy, cv⟩ = othersP P cy ++ [(cy, cv)] := if_pos rfl
        have hb3 := ba wr (.cells #[.int .i64 cy, .int .u64 (cv : Nat)] 114)
        have own3 : OwnPr (wr.alloc (.cells #[.int .i64 cy, .int .u64 (cv : Nat)] 114)) w1.heap.size A2 c2 (othersP P cy) := World.ownsRow.kept hown (lbelow_grown hb3 none) (by rcases (Value.slice A2 (othersP P cy).length c2).ownBlock with _ | k; exact .inl rfl; exact .inr (fun e => by cases e))
        obtain ⟨A5, c5, w5, hrun, hE5, hg5⟩ := pr_more own3 n2 hn2 (by omega) cy cv wr.heap.size (by have := hb.size; have := hb3.size; omega) (Blk.new wr _ _)
        have hB5 := (bt hb hb3).grown hg5 (by have := hb.size; have := hb3.size; omega) (fun r e => (World.ownsRow.lt own3 r (by rw [ownBlock_slice]; exact e)).1)
        have hkr5 := H1.out.2.2.2.2.1.below hB5 H1.out.2.2.2.2.1.lt
        have g0 := hkr5.frozen 0
        have g1 : w5.cell? ⟨x, 0, none⟩ = some (.slice AP nP cP) := hkr5.cell 0
        have HX : Hid (RAt (w5.setCell ⟨x, 0, none⟩ (.slice A5 (n2 + 1) c5)) B x (setPr P ⟨1, cy, cv⟩) ws L ∧ w.grownBy (w5.setCell ⟨x, 0, none⟩ (.slice A5 (n2 + 1) c5)) (some x)) := Lib.hid (by
          rw [hset]
          exact ⟨(H1.out.1.below hB5).rpr (by rw [List.length_append, ← hn2]; rfl) hE5 H1.out.2.2.1 (by rw [List.length_append]; have := HN.out; simp; omega), (lbelow_grown (bt H1.out.2.1 hB5) (some x)).trans (lgrown_set w5 ⟨x, 0, none⟩ _)⟩)
        clear hn2 hown hb hkr hkc HR hjj hol hbw hset hb3 own3 hE5 hg5 hB5 hkr5
        go_wp2_with (at_builtin; refine wpList_append_run rfl (.tmp 39) (.tmp 45) 26 rfl _ _ _ w5 rfl rfl hrun ?_)
        go_end0
        exact ⟨rfl, HX.out⟩
      · have e1 : (ck == 1) = false := by simp [hk1]
        have HX : Hid (RAt (wr.setCell ⟨x, 0, none⟩ (.slice A2 n2 c2)) B x (setPr P ⟨ck, cy, cv⟩) ws L ∧ w.grownBy (wr.setCell ⟨x, 0, none⟩ (.slice A2 n2 c2)) (some x)) := Lib.hid (by
          rw [show setPr P ⟨ck, cy, cv⟩ = othersP P cy from if_neg hk1]
          exact ⟨(H1.out.1.below hb).rpr hn2 hown H1.out.2.2.1 (by have := HN.out; omega), (lbelow_grown hbw (some x)).trans (lgrown_set wr ⟨x, 0, none⟩ _)⟩)
        clear hn2 hown hb hkr hkc HR hjj hol hbw
        go_wp2
        go_end0
        exact ⟨rfl, HX.out⟩
end Go.Proofs.YtlliaihmfimdoaaGreat

namespace Go.Proofs.YtlliaihmfimdoaaGreat.Re
open Go.RowKit Go.Maps Go.Joins Go.Deep Go.Proofs.YtlliaihmfimdoaaGreat
set_option linter.unusedVariables false
set_option linter.unusedSimpArgs false

def busyR (S : RS) (n : Int) : Bool := busyB S.K n || (Qu.lookQ S.Q.ws n).isSome
theorem resbusy_any (g : Nat) (cs : Array Value) (S : RS) (N : Nat) (n : Int) (w : World) (h : ResAt w g cs S N) (hn : i64ok n) :
    Calls Tryz.prog 14 #[.pointer (some ⟨g, 0, none⟩), .int .i64 n] w fun e w' => e = .returned (.bool (busyR S n)) ∧ Below w.heap.size w w' := by
  have HK := Lib.hid (busy_any g _ cs S.K N n w h.kv hn)
  have HQ : Hid (∀ u, Below w.heap.size w u → Calls Tryz.prog 44 #[.pointer (some ⟨g, 34, none⟩), .int .i64 n] u fun e w' => e = .returned (.bool (Qu.lookQ S.Q.ws n).isSome) ∧ Below u.heap.size u w') := Lib.hid (fun u hb => Qu.busy_any g 34 _ cs S.Q N n u (h.qu.below hb) hn)
  unfold busyR
  generalize (Qu.lookQ S.Q.ws n).isSome = bq at HQ ⊢
  clear h
  rcases hk : busyB S.K n with _ | _
  · rw [hk] at HK
    clear hk
    go_enter Tryz.func14, Tryz.ntmps14
    go_wp2_with fail
    refine HK.out.mono ?_
    rintro e w1 ⟨rfl, b1⟩
    have HB := Lib.hid b1
    have hq := Lib.hid (HQ.out w1 b1)
    clear b1
    go_wp2_with fail
    refine hq.out.mono ?_
    rintro e w2 ⟨rfl, b2⟩
    have HX := Lib.hid (bt HB.out b2)
    clear b2
    go_wp2
    go_ret
    exact ⟨by simp, HX.out⟩
  · rw [hk] at HK
    clear hk
    go_enter Tryz.func14, Tryz.ntmps14
    go_wp2_with fail
    refine HK.out.mono ?_
    rintro e w1 ⟨rfl, b1⟩
    have HX := Lib.hid b1
    clear b1
    go_wp2
    go_ret
    exact ⟨by simp, HX.out⟩
/-- Pairs of resources, of one's own. -/
def OwnRp (u : World) (B : Nat) (A : Option Addr) (c : Nat) (P : List (Int × Nat)) : Prop := u.ownsRow B 85 2 (.slice A P.length c) P.length (prV P)
theorem Tryz.infoRp : (Tryz.prog.info? 85).map (fun i => (i.zero, i.size, i.bytes)) = some (some (.agg #[.int .i64 0, .int .u64 0]), 2, 16) := by kernel_rfl
theorem OwnRp.grown {u u' : World} {B : Nat} {A : Option Addr} {c : Nat} {l : List (Int × Nat)} {row : Option Nat} (h : OwnRp u B A c l) (hg : u.grownBy u' row) (hr : ∀ r, row = some r → blk A ≠ some r) : OwnRp u' B A c l := by
  refine World.ownsRow.kept h hg ?_
  rcases hb : (Value.slice A l.length c).ownBlock with _ | k
  · exact .inl rfl
  · rw [ownBlock_slice] at hb
    exact .inr (fun e => hr k e.symm hb)
theorem rp_more {u : World} {B c : Nat} {A : Option Addr} {P : List (Int × Nat)} (h : OwnRp u B A c P) (n : Nat) (hn : n = P.length) (hl : n ≤ 1000) (k : Int) (v : Nat) (q : Nat) (hBu : B ≤ u.heap.size)
    (hq : Blk u q 85 #[.int .i64 k, .int .u64 (v : Nat)]) :
    ∃ A2 c2 u', (Builtin.append_ #[56, 56] 56 #[.slice A n c, .slice (some ⟨q, 0, none⟩) 1 1]).run Tryz.prog u = .ok (.slice A2 (n + 1) c2) u' ∧
      OwnRp u' B A2 c2 (P ++ [(k, v)]) ∧ u.grownBy u' (blk A) := by
  subst hn
  obtain ⟨i0, hi, hz0, hz1, hz2⟩ := info_parts Tryz.infoRp
  obtain ⟨v', w', hrun, hown, hgr, _, _⟩ := run_append_own_at (P := Tryz.prog) u B 56 56 85 i0 _ 2 16 Tryz.underlying56 hi hz0 hz1 hz2 rfl (by omega) (.slice A P.length c) P.length (prV P) h ⟨q, 0, none⟩ 1 1 [.int .i64 k, .int .u64 (v : Nat)] rfl
    (fun j v hv => by
      have := hq.cell j
      have e : (⟨q, 0, none⟩ : Addr).add j = ⟨q, j, none⟩ := by
        simp [Addr.add]
        try omega
      rw [e, this]
      rw [List.getElem?_toArray]; exact hv)
    (fun v hv => by simp at hv; rcases hv with rfl | rfl <;> rfl) (by simp only [maxLen]; omega) (by omega) hBu
  obtain ⟨g2, c2, rfl⟩ := Joins.ownsRow_form hown (by omega)
  rw [ownBlock_slice] at hgr
  refine ⟨some ⟨g2, 0, none⟩, c2, w', hrun, ?_, hgr⟩
  unfold OwnRp
  rw [List.length_append, show prV (P ++ [(k, v)]) = prV P ++ [.int .i64 k, .int .u64 (v : Nat)] by unfold prV; simp]
  exact hown
theorem image_end {w w1 u w2 : World} {gi c2 c3 : Nat} {A2 A3 : Option Addr} {P : List (Int × Nat)} {vs : List Nat} (b1 : Below w.heap.size w w1) (hgi : gi = w.heap.size) (hs : gi + 1 ≤ w1.heap.size) (bu : Below w1.heap.size w1 u) (b3 : Below u.heap.size u w2) (own : OwnRp u w1.heap.size A2 c2 P) (own3 : Qu.OwnU w2 u.heap.size A3 c3 vs) (v0 v1 v2 : Value) :
    OwnRp (((w2.setCell ⟨gi, 0, none⟩ v0).setCell ⟨gi, 1, none⟩ v1).setCell ⟨gi, 2, none⟩ v2) w.heap.size A2 c2 P ∧ Qu.OwnU (((w2.setCell ⟨gi, 0, none⟩ v0).setCell ⟨gi, 1, none⟩ v1).setCell ⟨gi, 2, none⟩ v2) w.heap.size A3 c3 vs ∧ Below w.heap.size w (((w2.setCell ⟨gi, 0, none⟩ v0).setCell ⟨gi, 1, none⟩ v1).setCell ⟨gi, 2, none⟩ v2) := by
  have hg : w2.grownBy (((w2.setCell ⟨gi, 0, none⟩ v0).setCell ⟨gi, 1, none⟩ v1).setCell ⟨gi, 2, none⟩ v2) (some gi) := ((lgrown_set w2 ⟨gi, 0, none⟩ v0).trans (lgrown_set _ ⟨gi, 1, none⟩ v1)).trans (lgrown_set _ ⟨gi, 2, none⟩ v2)
  have h1 := b1.size
  have h2 := bu.size
  have own2 := own.grown (lbelow_grown b3 none) (fun r e => by cases e)
  refine ⟨own_less (own2.grown hg (fun r e e2 => ?_)) h1, (own3.grown hg (fun r e e2 => ?_)).less (Nat.le_trans h1 h2), (bt (bt b1 bu) b3).grown hg (Nat.le_trans h1 (Nat.le_trans h2 b3.size)) (fun r e => by cases e; omega)⟩
  · cases e
    have := (World.ownsRow.lt own2 gi (by rw [ownBlock_slice]; exact e2)).1
    omega
  · cases e
    have := (own3.lt' gi e2).1
    omega
/-- The pairs below a key. -/
def imP (S : KS) : Nat → List (Int × Nat)
  | 0 => []
  | k + 1 => imP S k ++ if (valM S k).2 = true then [((k : Int), (valM S k).1)] else []
theorem imP_len (S : KS) : ∀ k, (imP S k).length ≤ k
  | 0 => Nat.le_refl _
  | k + 1 => by
    have := imP_len S k
    unfold imP
    rw [List.length_append]
    split
    · simp; omega
    · simp; omega
set_option maxRecDepth 100000 in
set_option maxHeartbeats 4000000 in
theorem resimage_any (g : Nat) (cs : Array Value) (S : RS) (N : Nat) (w : World) (h : ResAt w g cs S N) :
    Calls Tryz.prog 18 #[.pointer (some ⟨g, 0, none⟩)] w fun e w' => ∃ A q c A' q' c', e = .returned (.agg #[.slice A q c, .slice A' q' c', .int .i64 (S.Q.g + 1)]) ∧ Hid (q = (imP S.K 16).length ∧ q' = S.Q.I.length ∧ OwnRp w' w.heap.size A c (imP S.K 16) ∧ Qu.OwnU w' w.heap.size A' c' (S.Q.I.map Qu.IT.v) ∧ Below w.heap.size w w') := by
  obtain ⟨w1, hw1⟩ : ∃ w1, w1 = w.alloc (.cells #[.slice none 0 0, .slice none 0 0, .int .i64 0] 58) := ⟨_, rfl⟩
  have b1 : Below w.heap.size w w1 := by rw [hw1]; exact ba _ _
  obtain ⟨gi, hgi⟩ : ∃ gi, gi = w.heap.size := ⟨_, rfl⟩
  have k1 : Blk w1 gi 58 #[.slice none 0 0, .slice none 0 0, .int .i64 0] := by rw [hw1, hgi]; exact Blk.new _ _ _
  have hs1 : gi + 1 ≤ w1.heap.size := by rw [hw1, hgi]; simp
  have H := Lib.hid (And.intro h (And.intro b1 (And.intro k1 hs1)))
  have HG := Lib.hid hgi
  have HV : Hid (∀ (k : Nat) u, Below w1.heap.size w1 u → Calls Tryz.prog 48 #[.pointer (some ⟨g, 0, none⟩), .int .i64 k] u fun e w' => e = .returned (.tuple #[.int .u64 ((valM S.K k).1 : Nat), .bool (valM S.K k).2]) ∧ Below u.heap.size u w') := Lib.hid fun k u hb => value_any g _ cs S.K N k u ((h.kv.below b1).below hb)
  have HVals : Hid (∀ u, Below w1.heap.size w1 u → Calls Tryz.prog 49 #[.pointer (some ⟨g, 34, none⟩)] u fun e w' => ∃ A c, e = .returned (.slice A S.Q.I.length c) ∧ Qu.OwnU w' u.heap.size A c (S.Q.I.map Qu.IT.v) ∧ Below u.heap.size u w') := Lib.hid fun u hb => Qu.values_any g 34 _ cs S.Q N u ((h.qu.below b1).below hb)
  have HNx : Hid (∀ u, Below w1.heap.size w1 u → Calls Tryz.prog 50 #[.pointer (some ⟨g, 34, none⟩)] u fun e w' => e = .returned (.int .i64 (S.Q.g + 1)) ∧ u = w') := Lib.hid fun u hb => Qu.next_any g 34 _ cs S.Q N u ((h.qu.below b1).below hb)
  have HW1 := Lib.hid hw1
  have HI : Hid ((0 : Nat) = (imP S.K 0).length ∧ OwnRp w1 w1.heap.size none 0 (imP S.K 0) ∧ Below w1.heap.size w1 w1) := Lib.hid ⟨rfl, World.ownsRow_nil _ _ _ _, Below.refl _ _⟩
  clear h b1 k1 hs1 hw1
  go_enter Tryz.func18, Tryz.ntmps18
  go_wp2_with fail
  rw [← HW1.out, ← hgi]
  clear hgi
  go_loopw [3, 10] (fun pv iv wr => ∃ (j n2 c2 : Nat) (A2 : Option Addr), pv = .slice A2 n2 c2 ∧ j ≤ 16 ∧ n2 ≤ j ∧ iv = .int .i64 j ∧ Hid (n2 = (imP S.K j).length ∧ OwnRp wr w1.heap.size A2 c2 (imP S.K j) ∧ Below w1.heap.size w1 wr)) (fun _ i _ => 16 - (intOf i).toNat)
  case atStart => exact ⟨0, 0, 0, none, rfl, by omega, Nat.le_refl _, rfl, HI⟩
  case round =>
    clear HI
    obtain ⟨j, n2, c2, A2, rfl, hj, hn2j, rfl, HR⟩ := hrel
    by_cases hjn : j < 16
    · have hjI : (j : Int) < 16 := by omega
      have hV := Lib.hid (HV.out j wr HR.out.2.2)
      obtain ⟨xv, hxv⟩ : ∃ xv, xv = valM S.K j := ⟨_, rfl⟩
      have HS : Hid (imP S.K (j + 1) = imP S.K j ++ if xv.2 = true then [((j : Int), xv.1)] else []) := Lib.hid (by rw [hxv]; rfl)
      rw [← hxv] at hV
      clear hxv
      obtain ⟨yv, yt⟩ := xv
      dsimp only at hV HS
      go_wp2_with fail
      refine hV.out.mono ?_
      rintro e w2 ⟨rfl, b2⟩
      have HR2 : Hid (n2 = (imP S.K j).length ∧ OwnRp w2 w1.heap.size A2 c2 (imP S.K j) ∧ Below w1.heap.size w1 w2) := Lib.hid ⟨HR.out.1, HR.out.2.1.grown (lbelow_grown b2 none) (fun r e => by cases e), bt HR.out.2.2 b2⟩
      clear b2 HR hV
      cases yt with
      | false =>
        have HX : Hid (n2 = (imP S.K (j + 1)).length ∧ OwnRp w2 w1.heap.size A2 c2 (imP S.K (j + 1)) ∧ Below w1.heap.size w1 w2) := Lib.hid (by rw [HS.out]; simpa using HR2.out)
        go_wp2
        go_roundw
        case rel => exact ⟨j + 1, n2, c2, A2, rfl, by omega, by omega, by go_num, HX⟩
        case measure => simp [intOf]; omega
      | true =>
        obtain ⟨hn2, hown, hb⟩ := HR2.out
        have hb3 := ba w2 (.cells #[.int .i64 j, .int .u64 (yv : Nat)] 85)
        have own3 := hown.grown (lbelow_grown hb3 none) (fun r e => by cases e)
        obtain ⟨A5, c5, w5, hrun, hE5, hg5⟩ := rp_more own3 n2 hn2 (by omega) j yv w2.heap.size (by have := hb.size; have := hb3.size; omega) (Blk.new w2 _ _)
        have hB5 := (bt hb hb3).grown hg5 (by have := hb.size; have := hb3.size; omega) (fun r e => (World.ownsRow.lt own3 r (by rw [ownBlock_slice]; exact e)).1)
        have HX : Hid (n2 + 1 = (imP S.K (j + 1)).length ∧ OwnRp w5 w1.heap.size A5 c5 (imP S.K (j + 1)) ∧ Below w1.heap.size w1 w5) := Lib.hid (by rw [HS.out, if_pos rfl, List.length_append, ← hn2]; exact ⟨rfl, hE5, hB5⟩)
        clear hown hb hn2 hb3 own3 hE5 hg5 hB5 HR2
        go_wp2_with (at_builtin; refine wpList_append_run rfl (.tmp 22) (.tmp 26) 56 rfl _ _ _ w5 rfl rfl hrun ?_)
        go_roundw
        case rel => exact ⟨j + 1, n2 + 1, c5, A5, rfl, by omega, by omega, by go_num, HX⟩
        case measure => simp [intOf]; omega
    · have hjI : ¬ (j : Int) < 16 := by omega
      have hj16 : j = 16 := by omega
      subst hj16
      go_wp2_with fail
      go_region_with (first
        | (go_simp; go_at_call 49; refine (HVals.out _ (by first | exact HR.out.2.2 | exact HR.out.2.2.drew)).mono ?_; rintro e w2 ⟨A3, c3, rfl, own3, b3⟩; have bz := bt (by first | exact HR.out.2.2 | exact HR.out.2.2.drew) b3; have kg := H.out.2.2.1.below bz H.out.2.2.1.lt; have g0 := kg.cell 0; have g1 := kg.cell 1; have g2 := kg.cell 2; simp only [List.getElem?_toArray, List.getElem?_cons_zero, List.getElem?_cons_succ] at g0 g1 g2; have f3 := kg.frozen)
        | (go_simp; go_at_call 50; refine (HNx.out _ (by first | exact HR.out.2.2 | exact HR.out.2.2.drew | exact bz | exact bz.drew | exact bt HR.out.2.2 b3 | exact (bt HR.out.2.2 b3).drew | exact bt HR.out.2.2.drew b3 | exact (bt HR.out.2.2.drew b3).drew)).mono ?_; rintro e w3 ⟨rfl, rfl⟩))
      all_goals
        have HF := Lib.hid (image_end H.out.2.1 HG.out H.out.2.2.2 (by first | exact HR.out.2.2 | exact HR.out.2.2.drew) b3 (by first | exact HR.out.2.1 | exact own_same HR.out.2.1 (fun r _ _ => rfl)) own3 (.slice A2 n2 c2) (.slice A3 S.Q.I.length c3) (.int .i64 (S.Q.g + 1)))
        have kf := ((kg.set_ 0 (.slice A2 n2 c2)).set_ 1 (.slice A3 S.Q.I.length c3)).set_ 2 (.int .i64 (S.Q.g + 1))
        have r0 := kf.cell 0
        have r1 := kf.cell 1
        have r2 := kf.cell 2
        simp only [List.setIfInBounds_toArray, List.set_cons_succ, List.set_cons_zero, List.getElem?_toArray, List.getElem?_cons_zero, List.getElem?_cons_succ] at r0 r1 r2
        clear kf kg g0 g1 g2 f3 bz b3 own3
        go_wp2
        refine bodyPost_ret (by simp [results, Tryz.results18, go_sem, r0, r1, r2]; try rfl) rfl ?_
        exact ⟨A2, n2, c2, A3, _, c3, rfl, Lib.hid ⟨HR.out.1, rfl, HF.out⟩⟩
end Go.Proofs.YtlliaihmfimdoaaGreat.Re
