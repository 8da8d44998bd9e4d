/- Parts R14 R15 Q23 OpenQ of one proof. -/
import Derived.Test.YtfcafahgmnnlnaaMg13
import Derived.Test.YtfcafahgmnnlnaaMg10
import Derived.Test.YtfcafahgmnnlnaaMg01
import Derived.Lib.SmallJoins
import Derived.Deep.Slices
namespace Go.Proofs.Ytfcafahgmnnlnaa.Qu
open Go.RowKit Go.Maps Go.Joins Go.Deep
set_option linter.unusedVariables false
set_option linter.unusedSimpArgs false

/-- What a call of the document's queue may write, its items too. -/
structure RH (B0 : Nat) (u u' : World) (x : Nat) (S : Nat → Prop) : Prop where
  os : u'.os = u.os
  tape : u'.tape = u.tape
  output : u'.output = u.output
  size : u.heap.size ≤ u'.heap.size
  low : ∀ k, k < B0 → k < u.heap.size → k ≠ x → u'.heap[k]? = u.heap[k]?
  block : ∀ k, k < u.heap.size → k ≠ x → u'.heap[k]? = u.heap[k]? ∨ (∃ cs fz, u.heap[k]? = some (.cells cs 46 fz)) ∨ (∃ cs fz, u.heap[k]? = some (.cells cs 78 fz)) ∨ (∃ cs fz, u.heap[k]? = some (.cells cs 73 fz)) ∨ ((∃ cs fz, u.heap[k]? = some (.cells cs 49 fz)) ∧ S k)
theorem RG.rh {B0 : Nat} {u u' : World} {x : Nat} {S : Nat → Prop} (h : RG B0 u u' x S) : RH B0 u u' x S := ⟨h.os, h.tape, h.output, h.size, h.low, fun k hk hx => by
  rcases h.block k hk hx with e | e | e | e
  · exact .inl e
  · exact .inr (.inl e)
  · exact .inr (.inr (.inl e))
  · exact .inr (.inr (.inr (.inr e)))⟩
theorem RH.of {B0 : Nat} {u u' : World} {x : Nat} {S : Nat → Prop} (h : u.grownBy u' (some x)) : RH B0 u u' x S := (RG.of h).rh
theorem RH.trans {B0 : Nat} {a b c : World} {x : Nat} {S S' : Nat → Prop} (h : RH B0 a b x S) (k : RH B0 b c x S') (hS : ∀ r, r < a.heap.size → S' r → S r) : RH B0 a c x S := by
  refine ⟨k.os.trans h.os, k.tape.trans h.tape, k.output.trans h.output, Nat.le_trans h.size k.size, fun r hb hr hx => (k.low r hb (Nat.lt_of_lt_of_le hr h.size) hx).trans (h.low r hb hr hx), fun r hr hx => ?_⟩
  rcases h.block r hr hx with e | e | e | e | e
  · have := k.block r (Nat.lt_of_lt_of_le hr h.size) hx
    rw [e] at this
    rcases this with e | e | e | e | ⟨e, e2⟩
    · exact .inl e
    · exact .inr (.inl e)
    · exact .inr (.inr (.inl e))
    · exact .inr (.inr (.inr (.inl e)))
    · exact .inr (.inr (.inr (.inr ⟨e, hS r hr e2⟩)))
  · exact .inr (.inl e)
  · exact .inr (.inr (.inl e))
  · exact .inr (.inr (.inr (.inl e)))
  · exact .inr (.inr (.inr (.inr e)))
/-- An item is put behind the others. -/
theorem RQ.papp {w : World} {B x : Nat} {P : List (Int × Nat)} {ws : List WI} {gv : Int} (h : RQ w B x P ws gv) (hB : B ≤ w.heap.size) (k : Int) (v : Nat) (hl : P.length < 48) :
    ∃ AP nP cP A3 c3 w3, nP = P.length ∧ w.cell? ⟨x, 0, none⟩ = some (.slice AP nP cP) ∧ (w.alloc (.cells #[.int .i64 k, .int .u64 (v : Nat)] 73)).cell? ⟨x, 0, none⟩ = some (.slice AP nP cP) ∧
      (Builtin.append_ #[26, 26] 26 #[.slice AP nP cP, .slice (some ⟨w.heap.size, 0, none⟩) 1 1]).run Try.prog (w.alloc (.cells #[.int .i64 k, .int .u64 (v : Nat)] 73)) = .ok (.slice A3 (nP + 1) c3) w3 ∧
      w3.cell? ⟨x, 0, none⟩ = some (.slice AP nP cP) ∧ w3.frozen? ⟨x, 0, none⟩ = false ∧
      RQ (w3.setCell ⟨x, 0, none⟩ (.slice A3 (nP + 1) c3)) B x (P ++ [(k, v)]) ws gv ∧ RH B w (w3.setCell ⟨x, 0, none⟩ (.slice A3 (nP + 1) c3)) x (fun _ => False) := by
  obtain ⟨AP, nP, cP, AW, nW, cW, hk, hnP, hnW, hpr, hpt⟩ := h.ex
  obtain ⟨w2, hw2⟩ : ∃ w2, w2 = w.alloc (.cells #[.int .i64 k, .int .u64 (v : Nat)] 73) := ⟨_, rfl⟩
  have b12 : Below w.heap.size w w2 := by rw [hw2]; exact ba _ _
  have kp : Blk w2 w.heap.size 73 #[.int .i64 k, .int .u64 (v : Nat)] := by rw [hw2]; exact Blk.new _ _ _
  rw [← hw2]
  have h2 := h.below b12
  obtain ⟨hwk, hds, hsm⟩ := And.intro h2.wk (And.intro h2.ds h2.sm)
  have hk2 := hk.below b12 hk.lt
  have hg12 := lbelow_grown b12 (some x)
  have hpt2 : OwnPt w2 B AW cW (ws.map WI.q) := own_kept hpt hk (by decide) hg12
  have hpr2 : OwnPr w2 B AP cP P := own_kept hpr hk (by decide) hg12
  have hs2 := b12.size
  obtain ⟨A3, c3, w3, hrun, own3, hg3⟩ := pr_more hpr2 nP hnP (by omega) k v w.heap.size (by omega) kp
  have hxne : blk AP ≠ some x := own_ne hpr2 hk2 (by decide)
  have hk3 : Blk w3 x 29 #[.slice AP nP cP, .slice AW nW cW, .int .i64 gv] := hk2.kept hg3 (fun e => hxne e.symm)
  have hgs := lgrown_set w3 ⟨x, 0, none⟩ (.slice A3 (nP + 1) c3)
  have hnb : ∀ {t : TypeId} {g : Nat} {cs : Array Value}, Blk w2 g t cs → 73 ≠ t → some g ≠ blk AP := fun hb ht e => own_ne hpr2 hb ht e.symm
  have hpb : ∀ r, blk AP = some r → ∃ cs fz, w2.heap[r]? = some (.cells cs 73 fz) := fun r e => by
    rcases hpr2.2 with ⟨h1, h2⟩ | ⟨g', cap', cur', h1, hbb', hg', _⟩
    · injection h1 with e1 _ _
      rw [e1] at e
      cases e
    · injection h1 with e1 _ _
      rw [e1] at e
      injection e with e
      have e : g' = r := e
      subst e
      exact ⟨_, _, hg'⟩
  have hok : ∀ {k n c m : Nat} {t : TypeId} {A : Option Addr} {vs : List Value}, w2.ownsRow B t k (.slice A n c) m vs → t ≠ 73 → w3.ownsRow B t k (.slice A n c) m vs := fun {k n c m t A vs} ho ht =>
    own_same ho fun r hr ⟨cs, fz, e⟩ _ => hg3.block r hr (fun e2 => by
      obtain ⟨cs2, fz2, e3⟩ := hpb r e2.symm
      rw [e3] at e
      injection e with e
      injection e with _ e _
      exact ht e.symm)
  refine ⟨AP, nP, cP, A3, c3, w3, hnP, hk.cell 0, hk2.cell 0, hrun, hk3.cell 0, hk3.frozen 0, ?_, ?_⟩
  · have hwk3 : ∀ y ∈ ws, B ≤ y.q ∧ Blk w3 y.q 78 #[.int .i64 y.n, .slice y.A y.l.length y.c, .bool y.p] ∧ OwnC w3 B y.A y.c y.l := fun y hy => by
      obtain ⟨g1, g2, g3⟩ := hwk y hy
      exact ⟨g1, g2.kept hg3 (hnb g2 (by decide)), hok g3 (by decide)⟩
    have ks := hk3.set_ 0 (.slice A3 (nP + 1) c3)
    refine ⟨⟨A3, nP + 1, c3, AW, nW, cW, ks, by rw [List.length_append, hnP]; rfl, hnW, ?_, own_kept (hok hpt2 (by decide)) hk3 (by decide) hgs⟩, wk_kept hwk3 hk3 hgs, hds, ?_, hsm.2⟩
    · have := own3
      unfold OwnPr at this ⊢
      exact own_kept this hk3 (by decide) hgs
    · rw [List.length_append]; simp; omega
  · have r12 : RH B w w2 x (fun _ => False) := RH.of hg12
    refine (r12.trans (⟨hg3.os, hg3.tape, hg3.output, hg3.size, fun k hb hk' hx => hg3.block k hk' (fun e => by have := (World.ownsRow.lt hpr2 k (by rw [ownBlock_slice]; exact e.symm)).1; omega), fun k hk' hx => ?_⟩ : RH B w2 w3 x (fun _ => False)) (fun _ _ h => h)).trans (RH.of hgs) (fun _ _ h => h)
    by_cases e : blk AP = some k
    · exact .inr (.inr (.inr (.inl (hpb k e))))
    · exact .inl (hg3.block k hk' (fun e' => e e'.symm))
def loadR (P : List (Int × Nat)) (ws : List WI) (gv : Int) (vals : List Nat) (next : Int) : Int × List (Int × Nat) × Int :=
  if P ≠ [] ∨ ws ≠ [] then (7, P, gv) else if 16 < vals.length ∨ next ≤ vals.length ∨ 4611686018427387904 < next then (1, P, gv)
  else (0, prI (loadF (next - vals.length) vals), next - 1)
theorem UAt.cell {w : World} {A : Option Addr} {zs : List Nat} (h : UAt w A zs) {b o : Nat} (hA : A = some ⟨b, o, none⟩) (i : Nat) (hi : i < zs.length) : w.cell? ⟨b, o + i, none⟩ = some (.int .u64 ((zs[i]'hi : Nat) : Int)) := by
  obtain ⟨b', o', e, _, hc⟩ := h (by omega)
  rw [hA] at e
  cases e
  exact hc i hi
theorem prL_snoc (k : Int) (zs : List Nat) (j : Nat) (h : j < zs.length) : prI (loadF k (zs.take (j + 1))) = prI (loadF k (zs.take j)) ++ [(k + (j : Nat), zs[j]'h)] := by
  rw [take_one zs j h, loadF_snoc]
  unfold prI
  rw [List.map_append, List.length_take, Nat.min_eq_left (Nat.le_of_lt h)]
  rfl
set_option maxRecDepth 100000 in
set_option maxHeartbeats 1000000 in
theorem rload_any (B x : Nat) (P : List (Int × Nat)) (ws : List WI) (gv : Int) (A : Option Addr) (zs : List Nat) (n c : Nat) (next : Int) (w : World) (h : RQ w B x P ws gv) (hB : B ≤ w.heap.size) (hn : Hid (n = zs.length)) (hz : ∀ u, RH B w u x (fun _ => False) → UAt u A zs) :
    Calls Try.prog 37 #[.pointer (some ⟨x, 0, none⟩), .slice A n c, .int .i64 next] w fun e w' => e = .returned (.int .i64 (loadR P ws gv zs next).1) ∧ RQ w' B x (loadR P ws gv zs next).2.1 ws (loadR P ws gv zs next).2.2 ∧ RH B w w' x (fun _ => False) := by
  obtain ⟨AP, nP, cP, AW, nW, cW, hk, hnP, hnW, _, _⟩ := id h.ex
  have hI : nP = 0 ↔ P = [] := by rw [hnP]; exact List.length_eq_zero_iff
  have hW : nW = 0 ↔ ws = [] := by rw [hnW]; exact List.length_eq_zero_iff
  have d0 := hk.cell 0
  have d1 := hk.cell 1
  simp only [List.getElem?_toArray, List.getElem?_cons_zero, List.getElem?_cons_succ] at d0 d1
  have H := Lib.hid (And.intro h (And.intro hB hz))
  have HS : Hid (RH B w w x (fun _ => False)) := Lib.hid (RH.of (lbelow_grown (Below.refl _ _) _))
  have hn1 : nP ≤ 48 := by rw [hnP]; exact h.sm.1
  clear hk hnP hnW h hB hz
  by_cases hi : nP = 0
  · by_cases hw : nW = 0
    · have hI0 := hI.1 hi
      have hW0 := hW.1 hw
      subst hi hw
      by_cases hb : 16 < n ∨ next ≤ (n : Int) ∨ 4611686018427387904 < next
      · have hM : loadR P ws gv zs next = (1, P, gv) := by unfold loadR; rw [if_neg (by simp [hI0, hW0]), if_pos (by rw [← hn.out]; exact hb)]
        rw [hM]
        clear hM hI hW hI0 hW0
        by_cases hb1 : 16 < n
        · have b1 : (16 : Int) < (n : Int) := by omega
          clear hb
          go_enter Try.func37, Try.ntmps37
          go_wp2
          go_ret
          exact ⟨rfl, H.out.1, HS.out⟩
        · have b1 : ¬ (16 : Int) < (n : Int) := by omega
          by_cases hb2 : next ≤ (n : Int)
          · clear hb hb1
            go_enter Try.func37, Try.ntmps37
            go_wp2
            go_ret
            exact ⟨rfl, H.out.1, HS.out⟩
          · have hb3 : 4611686018427387904 < next := by omega
            clear hb hb1
            go_enter Try.func37, Try.ntmps37
            go_wp2
            go_ret
            exact ⟨rfl, H.out.1, HS.out⟩
      · have hM : loadR P ws gv zs next = (0, prI (loadF (next - n) zs), next - 1) := by unfold loadR; rw [if_neg (by simp [hI0, hW0]), if_neg (by rw [← hn.out]; exact hb), ← hn.out]
        rw [hM]
        have b1 : ¬ (16 : Int) < (n : Int) := by omega
        have hn16 : n ≤ 16 := by omega
        have b2 : ¬ next ≤ (n : Int) := by omega
        have b3 : ¬ (4611686018427387904 : Int) < next := by omega
        obtain ⟨k0, hk0⟩ : ∃ k0 : Int, k0 = next - n := ⟨_, rfl⟩
        obtain ⟨g9, hg9⟩ : ∃ g9 : Int, g9 = next - 1 := ⟨_, rfl⟩
        rw [← hk0, ← hg9]
        have hk0b : 1 ≤ k0 ∧ k0 ≤ 4611686018427387904 := by omega
        have swr0 : IntKind.i64.wrap (next - (n : Int)) = k0 := by rw [hk0]; exact IntWalk.i64_in _ (by omega)
        have swr9 : IntKind.i64.wrap (next - 1) = g9 := by rw [hg9]; exact IntWalk.i64_in _ (by omega)
        have HK := Lib.hid hk0b
        have HI : Hid (RQ w B x (prI (loadF k0 (zs.take 0))) ws gv ∧ RH B w w x (fun _ => False)) := Lib.hid ⟨by have := H.out.1; rw [hI0] at this; exact this, HS.out⟩
        clear hM hI hW hI0 hW0 hb hk0 hg9 hk0b HS
        go_enter Try.func37, Try.ntmps37
        go_wp2_with fail
        clear d0 d1
        go_loopw [7] (fun iv wr => ∃ j : Nat, j ≤ n ∧ iv = .int .i64 j ∧ Hid (RQ wr B x (prI (loadF k0 (zs.take j))) ws gv ∧ RH B w wr x (fun _ => False))) (fun iv _ => n - (intOf iv).toNat)
        case atStart => exact ⟨0, Nat.zero_le _, rfl, HI⟩
        case round =>
          clear HI
          obtain ⟨j, hj, rfl, HR⟩ := hrel
          by_cases hjn : j < n
          · have hjI : (j : Int) < (n : Int) := by omega
            have hjL : j < zs.length := by rw [← hn.out]; exact hjn
            have hu := H.out.2.2 wr HR.out.2
            obtain ⟨b, o, hA, hbl, hcs⟩ := hu (by omega)
            have p0 := hcs j hjL
            have hst := prL_snoc k0 zs j hjL
            generalize zs[j]'hjL = v at p0 hst
            obtain ⟨kj, hkj⟩ : ∃ kj : Int, kj = k0 + (j : Nat) := ⟨_, rfl⟩
            have swr1 : IntKind.i64.wrap (k0 + (j : Int)) = kj := by rw [hkj]; exact IntWalk.i64_in _ (by have := HK.out; omega)
            rw [← hkj] at hst
            have bW : Below wr.heap.size wr wr.drew := ⟨rfl, rfl, rfl, Nat.le_refl _, fun _ _ => rfl⟩
            have hlt : (prI (loadF k0 (zs.take j))).length < 48 := by unfold prI; rw [List.length_map, loadF_len, List.length_take]; omega
            obtain ⟨AP, nP, cP, A3, c3, w3, hnP, e1, e2, hrun, e3, f3, hR3, hH3⟩ := (HR.out.1.below bW).papp (Nat.le_trans H.out.2.1 HR.out.2.size) kj v hlt
            have e0 : wr.cell? ⟨x, 0, none⟩ = some (.slice AP nP cP) := e1
            have e4 : (wr.alloc (.cells #[.int .i64 kj, .int .u64 (v : Nat)] 73)).cell? ⟨x, 0, none⟩ = some (.slice AP nP cP) := ((ba wr (.cells #[.int .i64 kj, .int .u64 (v : Nat)] 73)).cell (p := ⟨x, 0, none⟩) (World.block_lt_of_cell? _ _ e0)).trans e0
            have p1 : wr.drew.cell? ⟨b, o + j, none⟩ = some (.int .u64 ((v : Nat) : Int)) := p0
            have hnP2 : nP ≤ 48 := by omega
            have HX : Hid (RQ (w3.setCell ⟨x, 0, none⟩ (.slice A3 (nP + 1) c3)) B x (prI (loadF k0 (zs.take (j + 1)))) ws gv ∧ RH B w (w3.setCell ⟨x, 0, none⟩ (.slice A3 (nP + 1) c3)) x (fun _ => False)) := Lib.hid ⟨by rw [hst]; exact hR3, (HR.out.2.trans (RH.of (lbelow_grown bW _)) (fun _ _ h => h)).trans hH3 (fun _ _ h => h)⟩
            subst hA
            clear hjL hu hcs hst hkj bW hlt hnP hR3 hH3 HR
            go_wp2_with fail
            go_region_law (refine step_append_run rfl (.tmp 45) (.tmp 57) 26 rfl _ _ _ w3 rfl rfl hrun ?_)
            all_goals
              go_wp2
              go_roundw
              case rel => exact ⟨j + 1, by omega, by go_num, HX⟩
              case measure => simp [intOf]; omega
          · have hjI : ¬ (j : Int) < (n : Int) := by omega
            have hjj : zs.take j = zs := List.take_of_length_le (by rw [← hn.out]; omega)
            have hR := HR.out
            rw [hjj] at hR
            obtain ⟨AP, nP, cP, AW, nW, cW, hk, _⟩ := id hR.1.ex
            have c2 := hk.cell 2
            have f2 := hk.frozen 2
            simp only [List.getElem?_toArray, List.getElem?_cons_zero, List.getElem?_cons_succ] at c2
            have HX : Hid (RQ (wr.setCell ⟨x, 2, none⟩ (.int .i64 g9)) B x (prI (loadF k0 zs)) ws g9 ∧ RH B w (wr.setCell ⟨x, 2, none⟩ (.int .i64 g9)) x (fun _ => False)) := Lib.hid ⟨hR.1.rgv g9, hR.2.trans (RH.of (lgrown_set _ _ _)) (fun _ _ h => h)⟩
            clear hjj hR hk HR
            go_wp2
            go_ret
            exact ⟨rfl, HX.out⟩
    · have hM : loadR P ws gv zs next = (7, P, gv) := if_pos (.inr fun e => hw (hW.2 e))
      rw [hM]
      have hwI : (0 : Int) < (nW : Int) := by omega
      subst hi
      clear hM hI hW hw
      go_enter Try.func37, Try.ntmps37
      go_wp2
      go_ret
      exact ⟨rfl, H.out.1, HS.out⟩
  · have hM : loadR P ws gv zs next = (7, P, gv) := if_pos (.inl fun e => hi (hI.2 e))
    rw [hM]
    have hiI : (0 : Int) < (nP : Int) := by omega
    clear hM hI hW hi
    go_enter Try.func37, Try.ntmps37
    go_wp2
    go_ret
    exact ⟨rfl, H.out.1, HS.out⟩
end Go.Proofs.Ytfcafahgmnnlnaa.Qu

namespace Go.Proofs.Ytfcafahgmnnlnaa.Qu
open Go.RowKit Go.Maps Go.Joins Go.Deep
set_option linter.unusedVariables false
set_option linter.unusedSimpArgs false

theorem RTakeO.shape {w : World} {B x : Nat} {P : List (Int × Nat)} {ws : List WI} {gv n : Int} {e : Ending} {w' : World} (h : RTakeO w B x P ws gv n e w') : ∃ (v : Nat) (er : Int), e = .returned (.tuple #[.int .u64 (v : Nat), .int .i64 er]) := by
  rcases h with ⟨_, rfl, _⟩ | ⟨_, _, rfl, _⟩ | ⟨_, y, _, ⟨_, rfl, _⟩ | ⟨_, rfl, _⟩⟩
  · exact ⟨0, _, rfl⟩
  · exact ⟨0, _, rfl⟩
  · exact ⟨0, _, rfl⟩
  · exact ⟨_, _, rfl⟩
theorem RPutO.shape {w : World} {B x : Nat} {P : List (Int × Nat)} {ws : List WI} {gv n : Int} {v : Nat} {e : Ending} {w' : World} (h : RPutO w B x P ws gv n v e w') : ∃ er : Int, e = .returned (.int .i64 er) := by
  rcases h with ⟨_, rfl, _⟩ | ⟨_, _, rfl, _⟩ | ⟨_, _, rfl, _⟩ <;> exact ⟨_, rfl⟩
/-- What comes of a call of the document's queue. -/
def MdlO (w : World) (B x : Nat) (P : List (Int × Nat)) (ws : List WI) (gv : Int) (o : OpV) (e : Ending) (w' : World) : Prop :=
  ∃ w1 v A q c er, Below w.heap.size w w1 ∧ e = .returned (.tuple #[.int .u64 (v : Nat), .slice A q c, .int .i64 er]) ∧
    (if o.k = 2 then v = 0 ∧ RPrepO w1 B x P ws gv o.n (.returned (.tuple #[.slice A q c, .int .i64 er])) w'
     else A = none ∧ q = 0 ∧ c = 0 ∧
      (if o.k = 1 then RTakeO w1 B x P ws gv o.n (.returned (.tuple #[.int .u64 (v : Nat), .int .i64 er])) w'
       else v = 0 ∧
        (if o.k = 0 then RPutO w1 B x P ws gv o.n o.v (.returned (.int .i64 er)) w'
         else if o.k = 3 then er = (commitR P ws gv o.n).1 ∧ RQ w' B x (commitR P ws gv o.n).2.1 (commitR P ws gv o.n).2.2.1 (commitR P ws gv o.n).2.2.2 ∧ w1.grownBy w' (some x)
         else if o.k = 4 then er = (backR ws o.n).1 ∧ RQ w' B x P (backR ws o.n).2 gv ∧ w1.grownBy w' (some x)
         else if o.k = 5 then RRestO w1 B x P ws gv o.n o.l (.returned (.int .i64 er)) w'
         else if o.k = 6 then er = (loadR P ws gv o.vs o.x).1 ∧ RQ w' B x (loadR P ws gv o.vs o.x).2.1 ws (loadR P ws gv o.vs o.x).2.2 ∧ RH B w1 w' x (fun _ => False)
         else er = 0 ∧ RQ w' B x P ws gv ∧ w1.grownBy w' (some x))))
set_option maxRecDepth 100000 in
set_option maxHeartbeats 1000000 in
theorem model_any (B x : Nat) (P : List (Int × Nat)) (ws : List WI) (gv : Int) (o : OpV) (w : World) (h : RQ w B x P ws gv) (hB : B ≤ w.heap.size) (hg : 0 ≤ gv ∧ gv ≤ 4611686018427387904) (hl : ws.length < 100) (hls : ∀ y ∈ ws, y.l.length < 300) (hp : ∀ n z, findW ws n = some z → P.length + putsL z.l ≤ 48 ∧ gv + (putsL z.l : Nat) ≤ 4611686018427387904) (hol : o.l.length ≤ 300) (hat : InL w o.A o.l) (hz : ∀ u : World, RH B w u x (fun _ => False) → UAt u o.VA o.vs) :
    Calls Try.prog 14 #[.pointer (some ⟨x, 0, none⟩), o.val] w (MdlO w B x P ws gv o) := by
  obtain ⟨k, n, y, v, A, l, c, VA, vs, vc⟩ := o
  dsimp only at hol hat hz
  show Calls Try.prog _ #[.pointer (some ⟨x, 0, none⟩), .agg #[.int .i64 k, .int .i64 n, .int .i64 y, .int .u64 (v : Nat), .slice A l.length c, .slice VA vs.length vc]] w _
  obtain ⟨q, hq⟩ : ∃ q, q = l.length := ⟨_, rfl⟩
  obtain ⟨vq, hvq⟩ : ∃ vq, vq = vs.length := ⟨_, rfl⟩
  rw [← hq, ← hvq]
  obtain ⟨w1, hw1⟩ : ∃ w1, w1 = w.alloc (.cells #[.int .i64 k, .int .i64 n, .int .i64 y, .int .u64 (v : Nat), .slice A q c, .slice VA vq vc] 35) := ⟨_, rfl⟩
  have b1 : Below w.heap.size w w1 := by rw [hw1]; exact ba _ _
  have k1 : Blk w1 w.heap.size 35 #[.int .i64 k, .int .i64 n, .int .i64 y, .int .u64 (v : Nat), .slice A q c, .slice VA vq vc] := by rw [hw1]; exact Blk.new _ _ _
  have d0 := k1.cell 0
  have d1 := k1.cell 1
  have d2 := k1.cell 2
  have d3 := k1.cell 3
  have d4 := k1.cell 4
  have d5 := k1.cell 5
  simp only [List.getElem?_toArray, List.getElem?_cons_zero, List.getElem?_cons_succ] at d0 d1 d2 d3 d4 d5
  have h1 := h.below b1
  have hB1 := Nat.le_trans hB b1.size
  have HB1 := Lib.hid (And.intro b1 h1)
  have HW := Lib.hid hw1
  have G0 := Lib.hid (rput_any B x P ws gv n v w1 h1 hg hB1 hl hls)
  have G1 := Lib.hid (rtake_any B x P ws gv n w1 h1 hB1 hl hls)
  have G2 := Lib.hid (rprep_any B x P ws gv n w1 h1)
  have G3 := Lib.hid (rcommit_any B x P ws gv n w1 h1 hB1 hg.1 (hp n))
  have G4 := Lib.hid (rback_any B x P ws gv n w1 h1 hB1)
  have G5 := Lib.hid (rrest_any B x P ws gv n A l q c w1 h1 hg hB1 hl (Lib.hid hq) (by omega) (hat.below b1))
  have G6 := Lib.hid (rload_any B x P ws gv VA vs vq vc y w1 h1 hB1 (Lib.hid hvq) (fun u hu => hz u ((RH.of (lbelow_grown b1 (some x))).trans hu (fun _ _ h => h))))
  rw [hw1] at d0 d1 d2 d3 d4 d5
  clear h hB hg hl hls hp hol hat hz hq hvq hw1 b1 k1 h1 hB1
  rcases e0 : (k == 0) with _ | _
  · skip
    rcases e1 : (k == 1) with _ | _
    · skip
      rcases e2 : (k == 2) with _ | _
      · skip
        rcases e3 : (k == 3) with _ | _
        · skip
          rcases e4 : (k == 4) with _ | _
          · skip
            rcases e5 : (k == 5) with _ | _
            · skip
              rcases e6 : (k == 6) with _ | _
              · skip
                have n0 : k ≠ 0 := by simpa using e0
                have n1 : k ≠ 1 := by simpa using e1
                have n2 : k ≠ 2 := by simpa using e2
                have n3 : k ≠ 3 := by simpa using e3
                have n4 : k ≠ 4 := by simpa using e4
                have n5 : k ≠ 5 := by simpa using e5
                have n6 : k ≠ 6 := by simpa using e6
                have HX : Hid (MdlO w B x P ws gv ⟨k, n, y, v, A, l, c, VA, vs, vc⟩ (.returned (.tuple #[.int .u64 (0 : Nat), .slice none 0 0, .int .i64 0])) w1) := Lib.hid ⟨w1, 0, none, 0, 0, 0, HB1.out.1, rfl, by
                  dsimp only
                  rw [if_neg n2, if_neg n1, if_neg n0, if_neg n3, if_neg n4, if_neg n5, if_neg n6]
                  exact ⟨rfl, rfl, rfl, rfl, rfl, HB1.out.2, lbelow_grown (Below.refl _ _) _⟩⟩
                clear n0 n1 n2 n3 n4 n5 n6
                go_enter Try.func14, Try.ntmps14
                go_wp2_with fail
                rw [← HW.out]
                go_returns
                exact HX.out
              · obtain rfl : k = 6 := by simpa using e6
                clear G0 G1 G2 G3 G4 G5
                go_enter Try.func14, Try.ntmps14
                go_wp2_with fail
                rw [← HW.out]
                refine G6.out.mono ?_
                rintro e w2 hx
                obtain ⟨rfl, hr⟩ := hx
                have HX : Hid (MdlO w B x P ws gv ⟨6, n, y, v, A, l, c, VA, vs, vc⟩ (.returned (.tuple #[.int .u64 (0 : Nat), .slice none 0 0, .int .i64 ((loadR P ws gv vs y).1)])) w2) := Lib.hid ⟨w1, 0, none, 0, 0, _, HB1.out.1, rfl, by
                  dsimp only
                  rw [if_neg (by decide), if_neg (by decide), if_neg (by decide), if_neg (by decide), if_neg (by decide), if_neg (by decide), if_pos rfl]
                  exact ⟨rfl, rfl, rfl, rfl, ⟨rfl, hr⟩⟩⟩
                clear hr d0 d1 d2 d3 d4 d5
                go_wp2
                go_returns
                exact HX.out
            · obtain rfl : k = 5 := by simpa using e5
              clear G0 G1 G2 G3 G4 G6
              go_enter Try.func14, Try.ntmps14
              go_wp2_with fail
              rw [← HW.out]
              refine G5.out.mono ?_
              rintro e w2 hx
              obtain ⟨rfl, hr⟩ := hx
              have HX : Hid (MdlO w B x P ws gv ⟨5, n, y, v, A, l, c, VA, vs, vc⟩ (.returned (.tuple #[.int .u64 (0 : Nat), .slice none 0 0, .int .i64 (restR P ws gv n l)])) w2) := Lib.hid ⟨w1, 0, none, 0, 0, _, HB1.out.1, rfl, by
                dsimp only
                rw [if_neg (by decide), if_neg (by decide), if_neg (by decide), if_neg (by decide), if_neg (by decide), if_pos rfl]
                exact ⟨rfl, rfl, rfl, rfl, ⟨rfl, hr⟩⟩⟩
              clear hr d0 d1 d2 d3 d4 d5
              go_wp2
              go_returns
              exact HX.out
          · obtain rfl : k = 4 := by simpa using e4
            clear G0 G1 G2 G3 G5 G6
            go_enter Try.func14, Try.ntmps14
            go_wp2_with fail
            rw [← HW.out]
            refine G4.out.mono ?_
            rintro e w2 hx
            obtain ⟨rfl, hr⟩ := hx
            have HX : Hid (MdlO w B x P ws gv ⟨4, n, y, v, A, l, c, VA, vs, vc⟩ (.returned (.tuple #[.int .u64 (0 : Nat), .slice none 0 0, .int .i64 ((backR ws n).1)])) w2) := Lib.hid ⟨w1, 0, none, 0, 0, _, HB1.out.1, rfl, by
              dsimp only
              rw [if_neg (by decide), if_neg (by decide), if_neg (by decide), if_neg (by decide), if_pos rfl]
              exact ⟨rfl, rfl, rfl, rfl, ⟨rfl, hr⟩⟩⟩
            clear hr d0 d1 d2 d3 d4 d5
            go_wp2
            go_returns
            exact HX.out
        · obtain rfl : k = 3 := by simpa using e3
          clear G0 G1 G2 G4 G5 G6
          go_enter Try.func14, Try.ntmps14
          go_wp2_with fail
          rw [← HW.out]
          refine G3.out.mono ?_
          rintro e w2 hx
          obtain ⟨rfl, hr⟩ := hx
          have HX : Hid (MdlO w B x P ws gv ⟨3, n, y, v, A, l, c, VA, vs, vc⟩ (.returned (.tuple #[.int .u64 (0 : Nat), .slice none 0 0, .int .i64 ((commitR P ws gv n).1)])) w2) := Lib.hid ⟨w1, 0, none, 0, 0, _, HB1.out.1, rfl, by
            dsimp only
            rw [if_neg (by decide), if_neg (by decide), if_neg (by decide), if_pos rfl]
            exact ⟨rfl, rfl, rfl, rfl, ⟨rfl, hr⟩⟩⟩
          clear hr d0 d1 d2 d3 d4 d5
          go_wp2
          go_returns
          exact HX.out
      · obtain rfl : k = 2 := by simpa using e2
        clear G0 G1 G3 G4 G5 G6
        go_enter Try.func14, Try.ntmps14
        go_wp2_with fail
        rw [← HW.out]
        refine G2.out.mono ?_
        rintro e w2 hx
        obtain ⟨A3, q3, c3, rfl, hr⟩ := hx
        have HX : Hid (MdlO w B x P ws gv ⟨2, n, y, v, A, l, c, VA, vs, vc⟩ (.returned (.tuple #[.int .u64 (0 : Nat), .slice A3 q3 c3, .int .i64 ((prepR ws n).1.2)])) w2) := Lib.hid ⟨w1, 0, A3, q3, c3, _, HB1.out.1, rfl, by
          dsimp only
          rw [if_pos rfl]
          exact ⟨rfl, A3, q3, c3, rfl, hr⟩⟩
        clear hr d0 d1 d2 d3 d4 d5
        go_wp2
        go_returns
        exact HX.out
    · obtain rfl : k = 1 := by simpa using e1
      clear G0 G2 G3 G4 G5 G6
      go_enter Try.func14, Try.ntmps14
      go_wp2_with fail
      rw [← HW.out]
      refine G1.out.mono ?_
      rintro e w2 hx
      obtain ⟨rv, er, rfl⟩ := hx.shape
      have HX : Hid (MdlO w B x P ws gv ⟨1, n, y, v, A, l, c, VA, vs, vc⟩ (.returned (.tuple #[.int .u64 (rv : Nat), .slice none 0 0, .int .i64 er])) w2) := Lib.hid ⟨w1, rv, none, 0, 0, er, HB1.out.1, rfl, by
        dsimp only
        rw [if_neg (by decide), if_pos rfl]
        exact ⟨rfl, rfl, rfl, hx⟩⟩
      clear hx d0 d1 d2 d3 d4 d5
      go_wp2
      go_returns
      exact HX.out
  · obtain rfl : k = 0 := by simpa using e0
    clear G1 G2 G3 G4 G5 G6
    go_enter Try.func14, Try.ntmps14
    go_wp2_with fail
    rw [← HW.out]
    refine G0.out.mono ?_
    rintro e w2 hx
    obtain ⟨er, rfl⟩ := hx.shape
    have HX : Hid (MdlO w B x P ws gv ⟨0, n, y, v, A, l, c, VA, vs, vc⟩ (.returned (.tuple #[.int .u64 (0 : Nat), .slice none 0 0, .int .i64 er])) w2) := Lib.hid ⟨w1, 0, none, 0, 0, er, HB1.out.1, rfl, by
      dsimp only
      rw [if_neg (by decide), if_neg (by decide), if_pos rfl]
      exact ⟨rfl, rfl, rfl, rfl, hx⟩⟩
    clear hx d0 d1 d2 d3 d4 d5
    go_wp2
    go_returns
    exact HX.out
end Go.Proofs.Ytfcafahgmnnlnaa.Qu

namespace Go.Proofs.Ytfcafahgmnnlnaa.Qu
open Go.RowKit Go.Maps Go.Deep
set_option linter.unusedVariables false
set_option linter.unusedSimpArgs false

def OpIn (w : World) (o : OpV) : Prop := i64ok o.n ∧ (o.l.length ≤ maxLen ∧ InL w o.A o.l) ∧ o.vs.length ≤ maxLen ∧ UAt w o.VA o.vs
theorem OpIn.below {w w' : World} {o : OpV} (h : OpIn w o) (hb : Below w.heap.size w w') : OpIn w' o := ⟨h.1, ⟨h.2.1.1, h.2.1.2.below hb⟩, h.2.2.1, h.2.2.2.below hb⟩
/-- Ops in memory. -/
def OpsAt (w : World) (A : Option Addr) (ops : List OpV) : Prop :=
  ops.length ≤ maxLen ∧ (∀ o ∈ ops, OpIn w o) ∧ (0 < ops.length → ∃ b o, A = some ⟨b, o, none⟩ ∧ b < w.heap.size ∧ ∀ i, (h : i < ops.length) →
    w.cell? ⟨b, o + i * 6, none⟩ = some (.int .i64 (ops[i]'h).k) ∧ w.cell? ⟨b, o + i * 6 + 1, none⟩ = some (.int .i64 (ops[i]'h).n) ∧
    w.cell? ⟨b, o + i * 6 + 2, none⟩ = some (.int .i64 (ops[i]'h).x) ∧ w.cell? ⟨b, o + i * 6 + 3, none⟩ = some (.int .u64 ((ops[i]'h).v : Nat)) ∧ w.cell? ⟨b, o + i * 6 + 4, none⟩ = some (.slice (ops[i]'h).A (ops[i]'h).l.length (ops[i]'h).c) ∧
    w.cell? ⟨b, o + i * 6 + 5, none⟩ = some (.slice (ops[i]'h).VA (ops[i]'h).vs.length (ops[i]'h).vc))
theorem OpsAt.below {w w' : World} {A : Option Addr} {ops : List OpV} (h : OpsAt w A ops) (hb : Below w.heap.size w w') : OpsAt w' A ops := by
  refine ⟨h.1, fun o ho => (h.2.1 o ho).below hb, fun hl => ?_⟩
  obtain ⟨b, o, rfl, hlt, hc⟩ := h.2.2 hl
  refine ⟨b, o, rfl, Nat.lt_of_lt_of_le hlt hb.size, fun i hi => ?_⟩
  obtain ⟨h1, h2, h3, h4, h5, h6⟩ := hc i hi
  exact ⟨(hb.cell (p := ⟨b, _, none⟩) hlt).trans h1, (hb.cell (p := ⟨b, _, none⟩) hlt).trans h2, (hb.cell (p := ⟨b, _, none⟩) hlt).trans h3, (hb.cell (p := ⟨b, _, none⟩) hlt).trans h4, (hb.cell (p := ⟨b, _, none⟩) hlt).trans h5, (hb.cell (p := ⟨b, _, none⟩) hlt).trans h6⟩
theorem inl_offg {w wr u : World} {A : Option Addr} {l : List Ch} {g : Nat} (h : InL w A l) (hb : Below w.heap.size w wr) (hle : w.heap.size ≤ g) (hg : wr.grownBy u (some g)) : InL u A l :=
  h.below (hb.grown hg hb.size (fun r e => by cases e; exact hle))
def stepQ (S : QS) (o : OpV) : QS := if longB o = true then S else { (callM S o).2 with B := anyB }
def playQ (ops : List OpV) : QS := (ops.take 60).foldl stepQ (QS.zero anyB)
theorem stepQ_B {S : QS} (h : S.B = anyB) (o : OpV) : (stepQ S o).B = anyB := by unfold stepQ; split; exact h; rfl
theorem QOk.rebase {S : QS} {B : Nat → Prop} (h : QOk S) : QOk { S with B := B } := ⟨h.room, h.g0, h.last⟩
theorem stepQ_ok {S : QS} (h : QOk S) (hd : S.ws.Pairwise fun a b => a.n ≠ b.n) (o : OpV) : QOk (stepQ S o) := by
  unfold stepQ; split; exact h; exact (h.call hd o).rebase
set_option maxRecDepth 100000 in
set_option maxHeartbeats 2000000 in
theorem played_any (A : Option Addr) (ops : List OpV) (n c : Nat) (w : World) (hn : Hid (n = ops.length)) (h : OpsAt w A ops) : Calls Try.prog 22 #[.slice A n c] w fun e w' => (∃ g cs, e = .returned (.pointer (some ⟨g, 0, none⟩)) ∧ QAt w' g 0 54 cs (playQ ops) 200 ∧ QOk (playQ ops) ∧ (playQ ops).B = anyB ∧ w.heap.size ≤ g) ∧ Below w.heap.size w w' := by
  have H := Lib.hid h
  have hnl : n ≤ 9223372036854775807 := by have := h.1; rw [hn.out]; unfold maxLen at this; omega
  obtain ⟨g, hg⟩ : ∃ g, g = w.heap.size := ⟨_, rfl⟩
  have HG := Lib.hid hg
  clear h
  go_enter Try.func22, Try.ntmps22
  go_wp2_with fail
  refine (new_any anyB w).mono ?_
  rintro e w1 ⟨rfl, ⟨cs, hk⟩, b1⟩
  rw [← hg] at hk ⊢
  have H1 : Hid (∃ cs, QAt w1 g 0 54 cs (QS.zero anyB) (50 + 0) ∧ Below w.heap.size w w1) := Lib.hid ⟨cs, hk.more (by omega), b1⟩
  clear hg hk b1
  go_wp2_with fail
  go_loopw [4] (fun i wr => ∃ (j : Nat), j ≤ n ∧ j ≤ 60 ∧ i = .int .i64 j ∧ Hid ((QOk ((ops.take j).foldl stepQ (QS.zero anyB)) ∧ ((ops.take j).foldl stepQ (QS.zero anyB)).B = anyB) ∧ ∃ cs, QAt wr g 0 54 cs ((ops.take j).foldl stepQ (QS.zero anyB)) (50 + j) ∧ Below w.heap.size w wr)) (fun i _ => n - (intOf i).toNat)
  case atStart => exact ⟨0, Nat.zero_le _, by omega, rfl, Lib.hid ⟨⟨by simpa using QOk.zero anyB, rfl⟩, by simpa using H1.out⟩⟩
  case round =>
    clear H1
    obtain ⟨j, hj, hj60, rfl, HR⟩ := hrel
    have hfin : Hid (j = n ∨ j = 60 → ((∃ cs, QAt wr g 0 54 cs (playQ ops) 200) ∧ QOk (playQ ops) ∧ (playQ ops).B = anyB) ∧ w.heap.size ≤ g ∧ Below w.heap.size w wr) := Lib.hid (fun hje => by
      obtain ⟨⟨hok, hB⟩, cs', hk, hb⟩ := HR.out
      have e : ops.take j = ops.take 60 := by
        rcases hje with rfl | rfl
        · rw [hn.out, List.take_of_length_le (Nat.le_refl _), List.take_of_length_le (by rw [← hn.out]; exact hj60)]
        · rfl
      rw [e] at hk hok hB
      exact ⟨⟨⟨cs', hk.more (by omega)⟩, hok, hB⟩, by have := HG.out; omega, hb⟩)
    by_cases hjn : j < n
    · have hjI : (j : Int) < (n : Int) := by omega
      by_cases hj6 : j < 60
      · have hj6I : (j : Int) < 60 := by omega
        obtain ⟨⟨hSok, hSB⟩, cs', hk, hb⟩ := HR.out
        have hjo : j < ops.length := by rw [← hn.out]; exact hjn
        obtain ⟨b, o, rfl, hlt, hcs⟩ := H.out.2.2 (by omega)
        obtain ⟨q0, q1, q2, q3, q4, q5⟩ := hcs j hjo
        have hin := H.out.2.1 _ (List.getElem_mem hjo)
        obtain ⟨op, hop⟩ : ∃ op, op = ops[j] := ⟨_, rfl⟩
        rw [← hop] at q0 q1 q2 q3 q4 q5 hin
        have p0 := (hb.cell (p := ⟨b, o + j * 6, none⟩) hlt).trans q0
        have p1 := (hb.cell (p := ⟨b, o + j * 6 + 1, none⟩) hlt).trans q1
        have p2 := (hb.cell (p := ⟨b, o + j * 6 + 2, none⟩) hlt).trans q2
        have p3 := (hb.cell (p := ⟨b, o + j * 6 + 3, none⟩) hlt).trans q3
        have p4 := (hb.cell (p := ⟨b, o + j * 6 + 4, none⟩) hlt).trans q4
        have p5 := (hb.cell (p := ⟨b, o + j * 6 + 5, none⟩) hlt).trans q5
        have hstep : (ops.take (j + 1)).foldl stepQ (QS.zero anyB) = stepQ ((ops.take j).foldl stepQ (QS.zero anyB)) op := by
          rw [List.take_add_one, List.getElem?_eq_getElem hjo, List.foldl_append, hop]; rfl
        obtain ⟨Sj, hSj⟩ : ∃ Sj, Sj = (ops.take j).foldl stepQ (QS.zero anyB) := ⟨_, rfl⟩
        rw [← hSj] at hk hSB hSok hstep
        have HS := Lib.hid hstep
        have HC := Lib.hid (fun u (hu : Below wr.heap.size wr u) (hl : longB op = false) => call_any g _ cs' Sj (50 + j) op u (hk.below hu) hSok (by omega) hin.1 (fun _ => by unfold longB at hl; simp at hl; omega) (fun _ u2 hu2 => inl_offg hin.2.1.2 (bt hb hu) (by have := HG.out; omega) hu2) (fun _ => hin.2.2.2.below (bt hb hu)) (fun b _ => by rw [hSB]; trivial))
        have HLo := Lib.hid (fun u => long_any op u)
        have HB := Lib.hid (And.intro hk (And.intro hb (And.intro hSB hSok)))
        have HVal : Hid (op.val = .agg #[.int .i64 op.k, .int .i64 op.n, .int .i64 op.x, .int .u64 (op.v : Nat), .slice op.A op.l.length op.c, .slice op.VA op.vs.length op.vc]) := Lib.hid rfl
        obtain ⟨lb, hlb⟩ : ∃ lb, lb = longB op := ⟨_, rfl⟩
        rw [← hlb] at HLo HC
        have HLb := Lib.hid hlb
        unfold OpV.val at HC HLo
        obtain ⟨ok, on, ox, ov, oA, ol, oc, oVA, ovs, ovc⟩ := op
        dsimp only at p0 p1 p2 p3 p4 p5 HC HLo
        obtain ⟨m, hm⟩ : ∃ m, m = ol.length := ⟨_, rfl⟩
        obtain ⟨vm, hvm⟩ : ∃ vm, vm = ovs.length := ⟨_, rfl⟩
        rw [← hm] at p4
        rw [← hvm] at p5
        rw [← hm, ← hvm] at HC HLo
        clear q0 q1 q2 q3 q4 q5 hcs hop hk hb hSB hSok hSj hstep hin hjo HVal hm hvm hlb
        go_wp2_with fail
        refine (HLo.out wr).mono ?_
        rintro e w2 ⟨rfl, b2⟩
        have hb2 := bt HB.out.2.1 b2
        have r0 := (b2.cell (p := ⟨b, o + j * 6, none⟩) (Nat.lt_of_lt_of_le hlt HB.out.2.1.size)).trans p0
        have r1 := (b2.cell (p := ⟨b, o + j * 6 + 1, none⟩) (Nat.lt_of_lt_of_le hlt HB.out.2.1.size)).trans p1
        have r2 := (b2.cell (p := ⟨b, o + j * 6 + 2, none⟩) (Nat.lt_of_lt_of_le hlt HB.out.2.1.size)).trans p2
        have r3 := (b2.cell (p := ⟨b, o + j * 6 + 3, none⟩) (Nat.lt_of_lt_of_le hlt HB.out.2.1.size)).trans p3
        have r4 := (b2.cell (p := ⟨b, o + j * 6 + 4, none⟩) (Nat.lt_of_lt_of_le hlt HB.out.2.1.size)).trans p4
        have r5 := (b2.cell (p := ⟨b, o + j * 6 + 5, none⟩) (Nat.lt_of_lt_of_le hlt HB.out.2.1.size)).trans p5
        have HB2 := Lib.hid (And.intro b2 hb2)
        clear p0 p1 p2 p3 p4 p5 b2 hb2
        cases lb with
        | false =>
          go_wp2_with fail
          refine (HC.out w2 HB2.out.1 trivial).mono ?_
          rintro e w3 ⟨A2, q2, c2, rfl, _, _, ⟨⟨cs2, hk2, _⟩, hg2⟩⟩
          have hb3 := HB2.out.2.grown hg2 HB2.out.2.size (fun r e => by cases e; have := HG.out; omega)
          have HN : Hid ((QOk ((ops.take (j + 1)).foldl stepQ (QS.zero anyB)) ∧ ((ops.take (j + 1)).foldl stepQ (QS.zero anyB)).B = anyB) ∧ ∃ cs, QAt w3 g 0 54 cs ((ops.take (j + 1)).foldl stepQ (QS.zero anyB)) (50 + (j + 1)) ∧ Below w.heap.size w w3) := Lib.hid (by
            rw [HS.out]
            refine ⟨⟨stepQ_ok HB.out.2.2.2 HB.out.1.nd _, stepQ_B HB.out.2.2.1 _⟩, cs2, ?_, hb3⟩
            unfold stepQ
            rw [← HLb.out, if_neg (by simp)]
            exact (hk2.more (by omega)).rebase fun _ _ _ => trivial)
          clear hk2 hg2 hb3 r0 r1 r2 r3 r4 r5
          go_wp2
          go_roundw
          case rel => exact ⟨j + 1, by omega, by omega, by go_num, HN⟩
          case measure => simp [intOf]; omega
        | true =>
          have HN : Hid ((QOk ((ops.take (j + 1)).foldl stepQ (QS.zero anyB)) ∧ ((ops.take (j + 1)).foldl stepQ (QS.zero anyB)).B = anyB) ∧ ∃ cs, QAt w2 g 0 54 cs ((ops.take (j + 1)).foldl stepQ (QS.zero anyB)) (50 + (j + 1)) ∧ Below w.heap.size w w2) := Lib.hid (by
            rw [HS.out]
            refine ⟨⟨stepQ_ok HB.out.2.2.2 HB.out.1.nd _, stepQ_B HB.out.2.2.1 _⟩, cs', ?_, HB2.out.2⟩
            unfold stepQ
            rw [← HLb.out, if_pos rfl]
            exact (HB.out.1.below HB2.out.1).more (by omega))
          clear r0 r1 r2 r3 r4 r5
          go_wp2
          go_roundw
          case rel => exact ⟨j + 1, by omega, by omega, by go_num, HN⟩
          case measure => simp [intOf]; omega
      · have hj6I : ¬ (j : Int) < 60 := by omega
        have hf := Lib.hid (hfin.out (.inr (by omega)))
        clear HR hfin
        go_wp2
        go_ret
        obtain ⟨⟨⟨csf, hkf⟩, hok, hB⟩, hgf, hbf⟩ := hf.out
        exact ⟨⟨g, rfl, ⟨csf, hkf⟩, hok, hB, hgf⟩, hbf⟩
    · have hjI : ¬ (j : Int) < (n : Int) := by omega
      have hf := Lib.hid (hfin.out (.inl (by omega)))
      clear HR hfin
      go_wp2
      go_ret
      obtain ⟨⟨⟨csf, hkf⟩, hok, hB⟩, hgf, hbf⟩ := hf.out
      exact ⟨⟨g, rfl, ⟨csf, hkf⟩, hok, hB, hgf⟩, hbf⟩
end Go.Proofs.Ytfcafahgmnnlnaa.Qu

namespace Go.Proofs.Ytfcafahgmnnlnaa.Qu
open Go.RowKit Go.ChangeShapes Go.WideShapes Go.Joins Go.Deep Go.Maps
set_option linter.unusedVariables false

theorem add_spotB {w : World} {a : Addr} {v : Value} (h : w.cell? a = some v) : ∃ b o, a = ⟨b, o, none⟩ ∧ b < w.heap.size := by
  have hs := World.cell?_spot h
  have hl := World.block_lt_of_cell? _ _ h
  obtain ⟨b, o, s⟩ := a
  simp only at hs hl
  subst hs
  exact ⟨b, o, rfl, hl⟩
section
variable {H : Type} {enc : TypeId × Value → H} {P : Program} {W : World} {base : Nat} {spare : Nat → Bool} {held : Bool}
theorem i64_trodB {t : TypeId} {n : Nat} {v : Value} {y : DataW H × List MemPlace} (ht : P.underlying t = some (.int .i64)) (h : DataW.trod enc P W base spare held n t [v] = some y) :
    ∃ a : Int, v = .int .i64 a ∧ -9223372036854775808 ≤ a ∧ a ≤ 9223372036854775807 := by
  obtain ⟨a, e, _, hw⟩ := DataW.trod_int ht h
  simp at e
  exact ⟨a, e, i64_bd hw⟩
theorem u64_trodB {t : TypeId} {n : Nat} {v : Value} {y : DataW H × List MemPlace} (ht : P.underlying t = some (.int .u64)) (h : DataW.trod enc P W base spare held n t [v] = some y) :
    ∃ a : Nat, v = .int .u64 (a : Nat) ∧ a < 18446744073709551616 := by
  obtain ⟨a, e, _, hw⟩ := DataW.trod_int ht h
  simp at e
  obtain ⟨n, rfl, hn⟩ := u64_nat hw
  exact ⟨n, e, hn⟩
theorem u32_trodB {t : TypeId} {n : Nat} {v : Value} {y : DataW H × List MemPlace} (ht : P.underlying t = some (.int .u32)) (h : DataW.trod enc P W base spare held n t [v] = some y) :
    ∃ a : Nat, v = .int .u32 (a : Nat) ∧ a < 4294967296 := by
  obtain ⟨a, e, _, hw⟩ := DataW.trod_int ht h
  simp at e
  obtain ⟨n, rfl, hn⟩ := u32_nat hw
  exact ⟨n, e, hn⟩
theorem bool_trodB {t : TypeId} {n : Nat} {v : Value} {y : DataW H × List MemPlace} (ht : P.underlying t = some .bool) (h : DataW.trod enc P W base spare held n t [v] = some y) :
    ∃ a : Bool, v = .bool a := by
  obtain ⟨a, e, _⟩ := DataW.trod_bool ht h
  simp at e
  exact ⟨a, e⟩
end
def InLs (w : World) (A : Option Addr) (l : List Ch) : Prop := l.length ≤ maxLen ∧ InL w A l
section
variable {H : Type} {enc : TypeId × Value → H} {W : World}
set_option maxRecDepth 1000000 in
theorem ch_trod {fuel : Nat} {v : Value} {y : DataW H × List MemPlace} (hf : DataW.trod enc Try.prog W 0 (fun _ => true) true fuel 32 [v] = some y) :
    ∃ A ops c, v = .slice A (List.length ops) c ∧ InLs W A ops := by
  have hC : Try.prog.cellsOf 49 = 3 := by kernel_rfl
  rcases open_slice Try.underlying32 hf with ⟨hcs, _⟩ | ⟨x, len, cap, m, n, D, Pl, hcs, _, hl, hm, hmm, _, hi⟩
  · simp at hcs
    subst hcs
    exact ⟨none, [], 0, rfl, by simp [maxLen], fun h => absurd h (by simp)⟩
  · simp at hcs
    subst hcs
    simp only [if_true] at hmm
    subst hmm
    have each : ∀ i, i < m → ∃ o : Ch, W.cell? (x.add (i * 3)) = some (.int .i64 o.k) ∧ W.cell? ((x.add (i * 3)).add 1) = some (.int .i64 o.y) ∧ W.cell? ((x.add (i * 3)).add 2) = some (.int .u64 (o.v : Nat)) := by
      intro i him
      obtain ⟨cs', hc, ht⟩ := hi i him
      rw [hC] at hc
      obtain ⟨_, hcl, hat⟩ := World.cells?_some hc
      obtain ⟨xs, n', _, _, _, hxl, hf'⟩ := DataW.trod_struct Try.underlying49 ht
      match cs', hcl with
      | [c0, c1, c2], _ =>
        match xs, hxl with
        | [y0, y1, y2], _ =>
          have g0 := hf' 0 _ rfl
          have g1 := hf' 1 _ rfl
          have g2 := hf' 2 _ rfl
          have e_0 : Try.prog.cellsOf 3 = 1 := by kernel_rfl
          have e_1 : Try.prog.cellsOf 31 = 1 := by kernel_rfl
          simp [e_0, e_1] at g0 g1 g2
          obtain ⟨z0, rfl, b0, d0⟩ := i64_trodB Try.underlying3 g0
          obtain ⟨z1, rfl, b1, d1⟩ := i64_trodB Try.underlying3 g1
          obtain ⟨z2, rfl, b2⟩ := u64_trodB Try.underlying31 g2
          have a0 := hat 0 (by omega)
          have a1 := hat 1 (by omega)
          have a2 := hat 2 (by omega)
          have ez : (x.add (i * 3)).add 0 = x.add (i * 3) := by simp [Addr.add]
          rw [ez] at a0
          exact ⟨⟨z0, z1, z2⟩, a0, a1, a2⟩
    let f : Nat → Ch := fun i => if h : i < m then (each i h).choose else ⟨0, 0, 0⟩
    have hf1 : ∀ i, (h : i < m) → W.cell? (x.add (i * 3)) = some (.int .i64 (f i).k) ∧ W.cell? ((x.add (i * 3)).add 1) = some (.int .i64 (f i).y) ∧ W.cell? ((x.add (i * 3)).add 2) = some (.int .u64 ((f i).v : Nat)) := by
      intro i h
      have := (each i h).choose_spec
      simp only [f, dif_pos h]
      exact this
    refine ⟨some x, (List.range len).map f, _, by simp; rfl, by simp; omega, fun hpos => ?_⟩
    · have hpos' : 0 < len := by simpa using hpos
      have h00 := (hf1 0 (by omega)).1
      have ez : x.add (0 * 3) = x := by simp [Addr.add]
      rw [ez] at h00
      obtain ⟨b, o, rfl, hlt⟩ := add_spotB h00
      refine ⟨b, o, rfl, hlt, fun i hi' => ?_⟩
      have hi2 : i < len := by simpa using hi'
      have := (hf1 i (by omega))
      simp only [Addr.add_lit] at this
      simpa using this
end
def UAts (w : World) (A : Option Addr) (zs : List Nat) : Prop := zs.length ≤ maxLen ∧ UAt w A zs
section
variable {H : Type} {enc : TypeId × Value → H} {W : World}
set_option maxRecDepth 1000000 in
theorem u64s_trod {fuel : Nat} {v : Value} {y : DataW H × List MemPlace} (hf : DataW.trod enc Try.prog W 0 (fun _ => true) true fuel 33 [v] = some y) :
    ∃ A zs c, v = .slice A (List.length zs) c ∧ UAts W A zs := by
  rcases open_ints Try.underlying33 Try.underlying31 (by kernel_rfl) hf with ⟨hcs, _⟩ | ⟨x, l, c, zs, hcs, _, hl, hm, hz, _, hcell, hwz⟩
  · simp at hcs
    subst hcs
    exact ⟨none, [], 0, rfl, by simp [maxLen], fun h => absurd h (by simp)⟩
  · simp at hcs
    subst hcs
    simp at hz
    refine ⟨some x, (zs.take l).map Int.toNat, c, by simp; omega, by simp; omega, fun hn => ?_⟩
    have hn' : 0 < l := by simp at hn; omega
    have h0 := hcell 0 (by omega)
    obtain ⟨b, o, e0, hlt⟩ := add_spotB h0
    obtain ⟨xb, xo, xs⟩ := x
    simp [Addr.add] at e0
    obtain ⟨rfl, e1, e2⟩ := e0
    subst e2
    refine ⟨xb, xo, rfl, hlt, fun i hi => ?_⟩
    have hi' : i < l := by simp at hi; omega
    have hil : i < zs.length := by omega
    have hci := hcell i (by omega)
    rw [Addr.add_lit] at hci
    rw [hci]
    have hw := hwz (zs[i]'hil) (List.getElem_mem hil)
    obtain ⟨nn, hnn, _⟩ := u64_nat hw
    simp [List.getD, List.getElem?_eq_getElem hil]
    rw [hnn]; simp
theorem open_u64s {r : Reach} {b0 : Nat} {v : Value} {d : DataW H} {p : List MemPlace} (hval : Value.okWide Try.prog W r b0 33 v) (h : DataW.Trod enc Try.prog W 0 (fun _ => true) true 33 v d p) :
    ∃ A zs c, v = .slice A (List.length zs) c ∧ UAts W A zs := by
  obtain ⟨a, len, cap, rfl⟩ := okWide_slice Try.underlying33 hval
  obtain ⟨fuel, hf⟩ := h
  exact u64s_trod hf
end
section
variable {H : Type} {enc : TypeId × Value → H} {W : World}
set_option maxRecDepth 1000000 in
theorem ops_trod {fuel : Nat} {v : Value} {y : DataW H × List MemPlace} (hf : DataW.trod enc Try.prog W 0 (fun _ => true) true fuel 22 [v] = some y) :
    ∃ A ops c, v = .slice A (List.length ops) c ∧ OpsAt W A ops := by
  have hC : Try.prog.cellsOf 35 = 6 := by kernel_rfl
  rcases open_slice Try.underlying22 hf with ⟨hcs, _⟩ | ⟨x, len, cap, m, n, D, Pl, hcs, _, hl, hm, hmm, _, hi⟩
  · simp at hcs
    subst hcs
    exact ⟨none, [], 0, rfl, by simp [maxLen], by simp, fun h => absurd h (by simp)⟩
  · simp at hcs
    subst hcs
    simp only [if_true] at hmm
    subst hmm
    have each : ∀ i, i < m → ∃ o : OpV, OpIn W o ∧ W.cell? (x.add (i * 6)) = some (.int .i64 o.k) ∧ W.cell? ((x.add (i * 6)).add 1) = some (.int .i64 o.n) ∧ W.cell? ((x.add (i * 6)).add 2) = some (.int .i64 o.x) ∧ W.cell? ((x.add (i * 6)).add 3) = some (.int .u64 (o.v : Nat)) ∧ W.cell? ((x.add (i * 6)).add 4) = some (.slice o.A o.l.length o.c) ∧ W.cell? ((x.add (i * 6)).add 5) = some (.slice o.VA o.vs.length o.vc) := by
      intro i him
      obtain ⟨cs', hc, ht⟩ := hi i him
      rw [hC] at hc
      obtain ⟨_, hcl, hat⟩ := World.cells?_some hc
      obtain ⟨xs, n', _, _, _, hxl, hf'⟩ := DataW.trod_struct Try.underlying35 ht
      match cs', hcl with
      | [c0, c1, c2, c3, c4, c5], _ =>
        match xs, hxl with
        | [y0, y1, y2, y3, y4, y5], _ =>
          have g0 := hf' 0 _ rfl
          have g1 := hf' 1 _ rfl
          have g2 := hf' 2 _ rfl
          have g3 := hf' 3 _ rfl
          have g4 := hf' 4 _ rfl
          have g5 := hf' 5 _ rfl
          have e_0 : Try.prog.cellsOf 3 = 1 := by kernel_rfl
          have e_1 : Try.prog.cellsOf 31 = 1 := by kernel_rfl
          have e_2 : Try.prog.cellsOf 32 = 1 := by kernel_rfl
          have e_3 : Try.prog.cellsOf 33 = 1 := by kernel_rfl
          simp [e_0, e_1, e_2, e_3] at g0 g1 g2 g3 g4 g5
          obtain ⟨z0, rfl, b0, d0⟩ := i64_trodB Try.underlying3 g0
          obtain ⟨z1, rfl, b1, d1⟩ := i64_trodB Try.underlying3 g1
          obtain ⟨z2, rfl, b2, d2⟩ := i64_trodB Try.underlying3 g2
          obtain ⟨z3, rfl, b3⟩ := u64_trodB Try.underlying31 g3
          obtain ⟨A4, l4, c4', rfl, b4⟩ := ch_trod g4
          obtain ⟨A5, l5, c5', rfl, b5⟩ := u64s_trod g5
          have a0 := hat 0 (by omega)
          have a1 := hat 1 (by omega)
          have a2 := hat 2 (by omega)
          have a3 := hat 3 (by omega)
          have a4 := hat 4 (by omega)
          have a5 := hat 5 (by omega)
          have ez : (x.add (i * 6)).add 0 = x.add (i * 6) := by simp [Addr.add]
          rw [ez] at a0
          exact ⟨⟨z0, z1, z2, z3, A4, l4, c4', A5, l5, c5'⟩, ⟨⟨b1, d1⟩, ⟨b4.1, b4.2⟩, b5.1, b5.2⟩, a0, a1, a2, a3, a4, a5⟩
    let f : Nat → OpV := fun i => if h : i < m then (each i h).choose else ⟨0, 0, 0, 0, none, [], 0, none, [], 0⟩
    have hf1 : ∀ i, (h : i < m) → OpIn W (f i) ∧ W.cell? (x.add (i * 6)) = some (.int .i64 (f i).k) ∧ W.cell? ((x.add (i * 6)).add 1) = some (.int .i64 (f i).n) ∧ W.cell? ((x.add (i * 6)).add 2) = some (.int .i64 (f i).x) ∧ W.cell? ((x.add (i * 6)).add 3) = some (.int .u64 ((f i).v : Nat)) ∧ W.cell? ((x.add (i * 6)).add 4) = some (.slice (f i).A (f i).l.length (f i).c) ∧ W.cell? ((x.add (i * 6)).add 5) = some (.slice (f i).VA (f i).vs.length (f i).vc) := by
      intro i h
      have := (each i h).choose_spec
      simp only [f, dif_pos h]
      exact this
    refine ⟨some x, (List.range len).map f, _, by simp; rfl, by simp; omega, fun o ho => ?_, fun hpos => ?_⟩
    · obtain ⟨i, hi', rfl⟩ := List.mem_map.1 ho
      exact (hf1 i (by have := List.mem_range.1 hi'; omega)).1
    · have hpos' : 0 < len := by simpa using hpos
      have h00 := (hf1 0 (by omega)).2.1
      have ez : x.add (0 * 6) = x := by simp [Addr.add]
      rw [ez] at h00
      obtain ⟨b, o, rfl, hlt⟩ := add_spotB h00
      refine ⟨b, o, rfl, hlt, fun i hi' => ?_⟩
      have hi2 : i < len := by simpa using hi'
      have := (hf1 i (by omega)).2
      simp only [Addr.add_lit] at this
      simpa using this
end
section
variable {H : Type} {enc : TypeId × Value → H} {W : World}
set_option maxRecDepth 1000000 in
theorem open_ops {r : Reach} {b0 : Nat} {v : Value} {d : DataW H} {p : List MemPlace} (hval : Value.okWide Try.prog W r b0 22 v) (h : DataW.Trod enc Try.prog W 0 (fun _ => true) true 22 v d p) :
    ∃ A ops c, v = .slice A (List.length ops) c ∧ OpsAt W A ops := by
  obtain ⟨a, len, cap, rfl⟩ := okWide_slice Try.underlying22 hval
  obtain ⟨fuel, hf⟩ := h
  exact ops_trod hf
end
theorem array6 {α : Type} {cs : Array α} (h : cs.size = 6) : ∃ c0 c1 c2 c3 c4 c5, cs = #[c0, c1, c2, c3, c4, c5] := by
  obtain ⟨l⟩ := cs
  match l, h with
  | [c0, c1, c2, c3, c4, c5], _ => exact ⟨c0, c1, c2, c3, c4, c5, rfl⟩
section
variable {H : Type} {enc : TypeId × Value → H} {W : World}
set_option maxRecDepth 1000000 in
theorem open_op14 {r : Reach} {b0 : Nat} {v : Value} {d : DataW H} {p : List MemPlace} (hval : Value.okWide Try.prog W r b0 35 v) (h : DataW.Trod enc Try.prog W 0 (fun _ => true) true 35 v d p) :
    ∃ o : OpV, v = o.val ∧ OpIn W o := by
  have hC : Try.prog.cellsOf 35 = 6 := by kernel_rfl
  obtain ⟨cs, rfl, hsz⟩ := okWide_struct Try.underlying35 hval
  obtain ⟨c0, c1, c2, c3, c4, c5, rfl⟩ := array6 (hsz.trans hC)
  obtain ⟨fuel, hf⟩ := h
  obtain ⟨xs, n', _, _, _, hxl, hf'⟩ := DataW.trod_struct Try.underlying35 hf
  match xs, hxl with
  | [y0, y1, y2, y3, y4, y5], _ =>
    have g0 := hf' 0 _ rfl
    have g1 := hf' 1 _ rfl
    have g2 := hf' 2 _ rfl
    have g3 := hf' 3 _ rfl
    have g4 := hf' 4 _ rfl
    have g5 := hf' 5 _ rfl
    have e_0 : Try.prog.cellsOf 3 = 1 := by kernel_rfl
    have e_1 : Try.prog.cellsOf 31 = 1 := by kernel_rfl
    have e_2 : Try.prog.cellsOf 32 = 1 := by kernel_rfl
    have e_3 : Try.prog.cellsOf 33 = 1 := by kernel_rfl
    simp [Value.cells, e_0, e_1, e_2, e_3] at g0 g1 g2 g3 g4 g5
    obtain ⟨z0, rfl, b0, d0⟩ := i64_trodB Try.underlying3 g0
    obtain ⟨z1, rfl, b1, d1⟩ := i64_trodB Try.underlying3 g1
    obtain ⟨z2, rfl, b2, d2⟩ := i64_trodB Try.underlying3 g2
    obtain ⟨z3, rfl, b3⟩ := u64_trodB Try.underlying31 g3
    obtain ⟨A4, l4, c4', rfl, b4⟩ := ch_trod g4
    obtain ⟨A5, l5, c5', rfl, b5⟩ := u64s_trod g5
    exact ⟨⟨z0, z1, z2, z3, A4, l4, c4', A5, l5, c5'⟩, rfl, ⟨b1, d1⟩, ⟨b4.1, b4.2⟩, b5.1, b5.2⟩
end
end Go.Proofs.Ytfcafahgmnnlnaa.Qu
