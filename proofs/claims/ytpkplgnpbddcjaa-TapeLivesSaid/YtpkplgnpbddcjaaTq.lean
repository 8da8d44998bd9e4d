/- Layer 2: the law that a tape has what the document says. -/
import Derived.Test.YtpkplgnpbddcjaaTp
import Derived.Test.YtpkplgnpbddcjaaTAlive
import Derived.Test.YtpkplgnpbddcjaaOpenT
import Derived.Test.YtpkplgnpbddcjaaInvX
namespace Go.Proofs.Ytpkplgnpbddcjaa
open Go.RowKit
set_option linter.unusedVariables false
set_option linter.unusedSimpArgs false

theorem ltf {a : Bool} (h : a = false) (h2 : a = true) : False := by rw [h] at h2; cases h2
def IsB (w : World) (n : Nat) (L : List UInt8) (v : Value) : Prop := ∃ A c, v = .slice A n c ∧ Bs w w.heap.size A L
theorem IsB.below {w w' : World} {n : Nat} {L : List UInt8} {v : Value} (h : IsB w n L v) (hb : Below w.heap.size w w') : IsB w' n L v := by
  obtain ⟨A, c, e, h⟩ := h; exact ⟨A, c, e, h.bt hb⟩
theorem conv_n (A : Option Addr) (L : List UInt8) (n c : Nat) (hn : n = L.length) (w : World) (B : Nat) (h : Bs w B A L) : (convert 30 9 (.slice A n c)).run Try.prog w = .ok (.string ⟨L.toArray⟩) w := by
  subst hn; exact conv_bytes Try.underlying30 Try.underlying5 Try.underlying9 h c
theorem Raw.seven {w : World} {g : Nat} {L : List UInt8} (h : Raw w g 5 L) (j : Nat) : Raw (w.setCell ⟨g, j, none⟩ (.int .u8 7)) g 5 (L.set j 7) := by
  have := h.stored j 7
  simpa using this
def VTa (p x b o j n c bn c2 B room : Nat) (k m r : Int) (A : Option Addr) (O N O' N' : List UInt8) (i : Nat) (v p5 : Value) (w : World) : Prop :=
  match i with
  | 0 => v = .pointer (some ⟨p, 0, none⟩)
  | 1 => v = .slice (some ⟨b, o, none⟩) n c
  | 2 => v = .int .i64 j
  | 3 => v = .pointer (some ⟨b, o + j * 3, none⟩)
  | 4 => v = .agg #[.int .i64 k, .int .i64 m, .slice A bn c2]
  | 5 => v = .int .i64 r ∧ Mid2 w B p x room O N (O' ++ N') O'.length
  | 6 => v = .pointer (some ⟨x, 0, none⟩)
  | 7 => v = .slice (some ⟨b, o, none⟩) n c
  | 8 => v = .int .i64 j
  | 9 => v = .pointer (some ⟨b, o + j * 3, none⟩)
  | 10 => v = .agg #[.int .i64 k, .int .i64 m, .slice A bn c2]
  | 11 => v = .int .i64 r ∧ p5 = .int .i64 r ∧ Two2 w B p x room O' N'
  | 12 => v = .bool false
  | _ => True
def ETa (k : Nat) (u u' : World) : Prop := match k with
  | 5 => True
  | 11 => True
  | _ => Below u.heap.size u u'
def TTa (B p x room : Nat) (O N : List UInt8) (j : Nat) (u : World) : Prop := match j with
  | 5 => Two2 u B p x room O N
  | _ => True
theorem VTa.mono {p x b o j n c bn c2 B room : Nat} {k m r : Int} {A : Option Addr} {O N O' N' : List UInt8} {q i : Nat} {v p5 : Value} {u u' : World} (he : ETa q u u') (hiq : i ≠ q) (h1 : i = 5 ∧ q = 11 → False) (h2 : i = 11 ∧ q = 5 → False) (h : VTa p x b o j n c bn c2 B room k m r A O N O' N' i v p5 u) : VTa p x b o j n c bn c2 B room k m r A O N O' N' i v p5 u' := by
  unfold VTa at h ⊢
  split at h
  case h_6 =>
    refine ⟨h.1, ?_⟩
    unfold ETa at he
    split at he
    · exact absurd rfl hiq
    · exact (h1 ⟨rfl, rfl⟩).elim
    · exact h.2.below he
  case h_12 =>
    refine ⟨h.1, h.2.1, ?_⟩
    unfold ETa at he
    split at he
    · exact (h2 ⟨rfl, rfl⟩).elim
    · exact absurd rfl hiq
    · exact h.2.2.below he
  all_goals exact h
theorem TTa.mono {B p x room : Nat} {O N : List UInt8} {k j : Nat} {u u' : World} (he : ETa k u u') (hkj : k ≠ j) (h : j = 5 ∧ k = 11 → False) (hv : TTa B p x room O N j u) : TTa B p x room O N j u' := by
  unfold TTa at hv ⊢
  split at hv
  · unfold ETa at he
    split at he
    · exact absurd rfl hkj
    · exact (h ⟨rfl, rfl⟩).elim
    · exact hv.below he
  · trivial
def VTb (p x gb tl no room co : Nat) (Ao : Option Addr) (L : List UInt8) (i : Nat) (v : Value) (w : World) : Prop :=
  match i with
  | 0 => v = .slice (some ⟨gb, 0, none⟩) tl tl
  | 1 => v = .string ⟨L.toArray⟩
  | 2 => v = .pointer (some ⟨x, 0, none⟩)
  | 3 => IsB w tl L v
  | 4 => v = .string ⟨L.toArray⟩
  | 5 => v = .bool false
  | 6 => v = .bool false
  | 7 => v = .pointer (some ⟨p, 0, none⟩)
  | 8 => v = .int .i64 tl
  | 9 => v = .slice (some ⟨gb, 0, none⟩) tl tl
  | 10 => v = .int .i64 tl
  | 11 => v = .bool false
  | 12 => v = .bool false
  | 13 => v = .bool false
  | 14 => v = .pointer (some ⟨p, 0, none⟩)
  | 15 => v = .int .i64 no
  | 16 => v = .pointer (some ⟨x, 0, none⟩)
  | 17 => v = .pointer (some ⟨x, 0, none⟩)
  | 18 => v = .pointer (some ⟨x, 1, none⟩)
  | 19 => v = .slice Ao no co
  | 20 => v = .int .i64 no
  | 21 => v = .bool false
  | 22 => v = .bool false
  | 23 => v = .bool false
  | 24 => v = .pointer (some ⟨p, 0, none⟩)
  | 25 => v = .int .i64 room
  | 26 => v = .int .i64 room
  | 27 => v = .bool false
  | 28 => v = .bool false
  | _ => True
theorem VTb.mono {p x gb tl no room co : Nat} {Ao : Option Addr} {L : List UInt8} {q i : Nat} {v : Value} {u u' : World} (he : Below u.heap.size u u') (h : VTb p x gb tl no room co Ao L i v u) : VTb p x gb tl no room co Ao L i v u' := by
  unfold VTb at h ⊢
  split at h <;> first | with_reducible exact h | exact IsB.below h he

set_option maxRecDepth 100000 in
set_option maxHeartbeats 8000000 in
theorem tl_ok (room : Nat) (A : Option Addr) (ops : List OpV) (c : Nat) (w : World) (h : OpsAt w A ops) (hre : ∀ o ∈ ops, o.b.length ≤ 140737488355328) (h1 : 1 ≤ room) (h2 : room ≤ 65536) :
    Calls Try.prog 3 #[.int .i64 room, .slice A ops.length c] w fun e w' => e = .returned (.bool true) ∧ Below w.heap.size w w' := by
  have hlen := h.1
  unfold maxLen at hlen
  obtain ⟨n, hn⟩ : ∃ n, n = ops.length := ⟨_, rfl⟩
  rw [← hn] at hlen ⊢
  have HN := Lib.hid hn
  have HO := Lib.hid (And.intro h hre)
  have Hn1 := Lib.hid (new_ok room w h1 h2)
  have Hn2 := Lib.hid (fun u => rnew_ok room w.heap.size u h1 h2)
  have HR := Lib.hid h2
  clear h hn hre h1 h2
  go_enter Try.func3, Try.ntmps3
  go_wp2_with fail
  refine Hn1.out.mono ?_
  clear Hn1
  rintro e w1 ⟨rfl, hT1, hb1⟩
  go_wp2_with fail
  refine (Hn2.out w1).mono ?_
  clear Hn2
  rintro e w2 ⟨rfl, hX2, hb2⟩
  have hT2 := hT1.below hb2
  have hB2 := bt hb1 hb2
  have hwx : w.heap.size ≤ w1.heap.size := hb1.size
  generalize w1.heap.size = xb at *
  have h2 : Two2 w2 w.heap.size w.heap.size xb room [] [] := ⟨hT2, ⟨none, hX2, fun k e => by cases e⟩, by simp, HR.out⟩
  clear hT1 hb1 hX2 hT2 hb2
  go_wp2_with fail
  go_loopw [9] (fun i wr => ∃ (j : Nat) (O N : List UInt8), j ≤ n ∧ j ≤ 30 ∧ i = .int .i64 j ∧ Two2 wr w.heap.size w.heap.size xb room O N ∧ Below w.heap.size w wr) (fun i _ => 30 - (intOf i).toNat)
  case atStart => exact ⟨0, [], [], Nat.zero_le _, by omega, rfl, h2, hB2⟩
  case round =>
    clear h2 hB2
    obtain ⟨j, O, N, hj, hj1, rfl, h2, hb⟩ := hrel
    by_cases hjn : j < n
    · by_cases hj3 : j < 30
      · have hjI : (j : Int) < (n : Int) := by omega
        have hj3I : (j : Int) < 30 := by omega
        obtain ⟨b, o, rfl, hlt, hcs⟩ := HO.out.1.2.2 (by have := HN.out; omega)
        have hjo : j < ops.length := by have := HN.out; omega
        obtain ⟨q0, q1, q2⟩ := hcs j hjo
        have hok := HO.out.1.2.1 _ (List.getElem_mem hjo)
        have hrl := HO.out.2 _ (List.getElem_mem hjo)
        obtain ⟨op, hop⟩ : ∃ op, op = ops[j] := ⟨_, rfl⟩
        rw [← hop] at q0 q1 q2 hok hrl
        clear hop hcs hjo
        obtain ⟨ok, on, oA, ob, oc⟩ := op
        simp only at q0 q1 q2 hrl
        obtain ⟨bn, hbn⟩ : ∃ bn, bn = ob.length := ⟨_, rfl⟩
        rw [← hbn] at q2 hrl
        obtain ⟨R, hM⟩ : ∃ R, R = modelR room ok on ob O N := ⟨_, rfl⟩
        obtain ⟨r, O', N'⟩ := R
        have hst := model_step room ok on ob O N h2.l
        rw [← hM] at hst
        simp only at hst
        have HCall : Hid (∀ u, Below w.heap.size w u → Two2 u w.heap.size w.heap.size xb room O N → Calls Try.prog 7 #[.pointer (some ⟨w.heap.size, 0, none⟩), .agg #[.int .i64 ok, .int .i64 on, .slice oA bn oc]] u fun e w' => e = .returned (.int .i64 r) ∧ Mid2 w' w.heap.size w.heap.size xb room O N (O' ++ N') O'.length ∧ u.grownBy w' (some w.heap.size)) := Lib.hid (fun u hu h2u => by
          have hc := call_tape ok on oA ob oc w.heap.size room (O ++ N) O.length u h2u.t (hok.bs.bt hu) (by omega) hok.n1 hok.n2
          rw [hst, ← hbn] at hc
          refine hc.mono ?_
          intro e w' hco
          exact h2u.call hco)
        have HModel : Hid (∀ u An, Below w.heap.size w u → RT u w.heap.size xb room O N An → Calls Try.prog 8 #[.pointer (some ⟨xb, 0, none⟩), .agg #[.int .i64 ok, .int .i64 on, .slice oA bn oc]] u (RO u w.heap.size xb room (r, O', N') An)) := Lib.hid (fun u An hu hx => by
          have hc := model_any hx h2.l h2.r hu.size ok on oA ob bn oc hbn hrl (hok.bs.bt hu) hok.n1 hok.n2
          rw [← hM] at hc
          exact hc)
        have p0 := (hb.cell (p := ⟨b, o + j * 3, none⟩) hlt).trans q0
        have p1 := (hb.cell (p := ⟨b, o + j * 3 + 1, none⟩) hlt).trans q1
        have p2 := (hb.cell (p := ⟨b, o + j * 3 + 2, none⟩) hlt).trans q2
        clear hst hM hok hbn
        by_cases h5 : 500 < bn
        · have h5I : (500 : Int) < (bn : Int) := by omega
          by_cases h6 : bn ≤ 65536
          · have h6I : (bn : Int) ≤ 65536 := by omega
            go_wp2_with fail
            refine (alive_any _).mono ?_
            rintro e w5 ⟨rfl, hb5⟩
            have hB5 := bt hb hb5
            go_wp2
            go_ret
            exact ⟨rfl, hB5⟩
          · have h6I : ¬ (bn : Int) ≤ 65536 := by omega
            clear h5 h6 hrl
            go_wp2_with fail
            clear p0 p1 p2
            refine wp_region_invX (F := ?FA1) (V := VTa w.heap.size xb b o j n c bn oc w.heap.size room ok on r oA O N O' N') (par := fun i => if i = 11 then 5 else i) (dead := fun i => if i = 5 then some 11 else none) (T := TTa w.heap.size w.heap.size xb room O N) (C := fun u => Below w.heap.size w u) (E := ETa) (by kernel_rfl) (by kernel_rfl) (by kernel_rfl) (fun x => ?hFA1) (fun i _ => by by_cases h : i = 11; (subst h; exact .inr (by kernel_rfl)); exact .inl (if_neg h)) ?hmonoA1 ?hTmA1 ?hTA1 ?hCA1 ?stepA1 ?finA1
            case hFA1 => simp only [mkA, Act.put, List.setIfInBounds_toArray, List.set_cons_succ, List.set_cons_zero, Nat.reduceAdd, Nat.zero_add]; first | with_reducible rfl | rfl
            case hmonoA1 => exact fun q' i v p5 u u' he hik hwt hdd hv => VTa.mono he hik (fun hh => hdd (by rw [hh.1, hh.2]; rfl)) (fun hh => ltf hwt (by rw [hh.1, hh.2]; kernel_rfl)) hv
            case hTmA1 => exact fun q j' u u' he hkj hwt hv => TTa.mono he hkj (fun hh => ltf hwt (by rw [hh.1, hh.2]; kernel_rfl)) hv
            case hTA1 => exact fun j' => by unfold TTa; split <;> first | exact h2.below ((Below.refl _ _).drew) | trivial
            case hCA1 => exact hb.drew
            case stepA1 =>
              refine AllOps.cons (fun x u hC hT hp K hK => ?_) ?_
              · clear hp hT
                go_simp
                refine hK _ _ _ hC (Below.refl _ _) (by exact rfl) ?_
                first | (simp only [Act.put, List.setIfInBounds_toArray, List.set_cons_succ, List.set_cons_zero]; done) | simp [Act.put]
              refine AllOps.cons (fun x u hC hT hp K hK => ?_) ?_
              · clear hp hT
                go_simp
                refine hK _ _ _ hC (Below.refl _ _) (by exact rfl) ?_
                first | (simp only [Act.put, List.setIfInBounds_toArray, List.set_cons_succ, List.set_cons_zero]; done) | simp [Act.put]
              refine AllOps.cons (fun x u hC hT hp K hK => ?_) ?_
              · clear hp hT
                go_simp
                refine hK _ _ _ hC (Below.refl _ _) (by exact rfl) ?_
                first | (simp only [Act.put, List.setIfInBounds_toArray, List.set_cons_succ, List.set_cons_zero]; done) | simp [Act.put]
              refine AllOps.cons (fun x u hC hT hp K hK => ?_) ?_
              · simp [KnownTill, Region.binds, VTa] at hp
                clear hT
                go_simp
                refine hK _ _ _ hC (Below.refl _ _) (by exact rfl) ?_
                first | (simp only [Act.put, List.setIfInBounds_toArray, List.set_cons_succ, List.set_cons_zero, hp]; done) | simp [Act.put, hp]
              refine AllOps.cons (fun x u hC hT hp K hK => ?_) ?_
              · simp [KnownTill, Region.binds, VTa] at hp
                clear hT
                have p0 := (hC.cell (p := ⟨b, o + j * 3, none⟩) hlt).trans q0
                have p1 := (hC.cell (p := ⟨b, o + j * 3 + 1, none⟩) hlt).trans q1
                have p2 := (hC.cell (p := ⟨b, o + j * 3 + 2, none⟩) hlt).trans q2
                go_simp
                refine hK _ _ _ hC (Below.refl _ _) (by exact rfl) ?_
                first | (simp only [Act.put, List.setIfInBounds_toArray, List.set_cons_succ, List.set_cons_zero, hp]; done) | simp [Act.put, hp]
              refine AllOps.cons (fun x u hC hT hp K hK => ?_) ?_
              · simp [KnownTill, Region.binds, VTa] at hp
                have hT2 : Two2 u w.heap.size w.heap.size xb room O N := hT
                go_simp
                refine (HCall.out u hC hT2).mono ?_
                rintro e uA ⟨rfl, p1, p2⟩
                refine hK _ _ _ (hC.grown p2 hC.size (fun k e => by cases e; exact Nat.le_refl _)) trivial ⟨rfl, p1⟩ ?_
                first | (simp only [Act.put, List.setIfInBounds_toArray, List.set_cons_succ, List.set_cons_zero, hp]; done) | simp [Act.put, hp]
              refine AllOps.cons (fun x u hC hT hp K hK => ?_) ?_
              · clear hp hT
                go_simp
                refine hK _ _ _ hC (Below.refl _ _) (by exact rfl) ?_
                first | (simp only [Act.put, List.setIfInBounds_toArray, List.set_cons_succ, List.set_cons_zero]; done) | simp [Act.put]
              refine AllOps.cons (fun x u hC hT hp K hK => ?_) ?_
              · clear hp hT
                go_simp
                refine hK _ _ _ hC (Below.refl _ _) (by exact rfl) ?_
                first | (simp only [Act.put, List.setIfInBounds_toArray, List.set_cons_succ, List.set_cons_zero]; done) | simp [Act.put]
              refine AllOps.cons (fun x u hC hT hp K hK => ?_) ?_
              · clear hp hT
                go_simp
                refine hK _ _ _ hC (Below.refl _ _) (by exact rfl) ?_
                first | (simp only [Act.put, List.setIfInBounds_toArray, List.set_cons_succ, List.set_cons_zero]; done) | simp [Act.put]
              refine AllOps.cons (fun x u hC hT hp K hK => ?_) ?_
              · simp [KnownTill, Region.binds, VTa] at hp
                clear hT
                go_simp
                refine hK _ _ _ hC (Below.refl _ _) (by exact rfl) ?_
                first | (simp only [Act.put, List.setIfInBounds_toArray, List.set_cons_succ, List.set_cons_zero, hp]; done) | simp [Act.put, hp]
              refine AllOps.cons (fun x u hC hT hp K hK => ?_) ?_
              · simp [KnownTill, Region.binds, VTa] at hp
                clear hT
                have p0 := (hC.cell (p := ⟨b, o + j * 3, none⟩) hlt).trans q0
                have p1 := (hC.cell (p := ⟨b, o + j * 3 + 1, none⟩) hlt).trans q1
                have p2 := (hC.cell (p := ⟨b, o + j * 3 + 2, none⟩) hlt).trans q2
                go_simp
                refine hK _ _ _ hC (Below.refl _ _) (by exact rfl) ?_
                first | (simp only [Act.put, List.setIfInBounds_toArray, List.set_cons_succ, List.set_cons_zero, hp]; done) | simp [Act.put, hp]
              refine AllOps.cons (fun x u hC hT hp K hK => ?_) ?_
              · simp [KnownTill, Region.binds, VTa] at hp
                clear hT
                obtain ⟨e5, ht5, An, hx5, hn5⟩ : x 5 = .int .i64 r ∧ Mid2 u w.heap.size w.heap.size xb room O N (O' ++ N') O'.length := by first | exact hp.1 | exact hp.2.1 | exact hp.2 | exact hp.2.2 | exact hp.2.2.1 | exact hp.2.2.2 | exact hp.2.2.2.1
                go_simp
                refine (HModel.out u An hC hx5).mono ?_
                rintro e uA hR
                obtain ⟨rfl, p1, p2⟩ := Mid2.model ht5 hx5 hn5 hC.size hR rfl rfl
                refine hK _ _ _ (p2 w hC hwx) trivial ⟨rfl, e5, p1⟩ ?_
                first | (simp only [Act.put, List.setIfInBounds_toArray, List.set_cons_succ, List.set_cons_zero, hp]; done) | simp [Act.put, hp]
              refine AllOps.cons (fun x u hC hT hp K hK => ?_) ?_
              · simp [KnownTill, Region.binds, VTa] at hp
                clear hT
                go_simp
                refine hK _ _ _ hC (Below.refl _ _) (by exact (by first | exact rfl | simp)) ?_
                first | (simp only [Act.put, List.setIfInBounds_toArray, List.set_cons_succ, List.set_cons_zero, hp]; done) | simp [Act.put, hp]
              exact AllOps.nil
            case finA1 =>
              intro x u9 hC hV
              obtain ⟨_, _, h2'⟩ : x 11 = .int .i64 r ∧ x 5 = .int .i64 r ∧ Two2 u9 w.heap.size w.heap.size xb room O' N' := hV 11 (by decide) rfl
              have e12 : x 12 = .bool false := hV 12 (by decide) rfl
              rw [e12]
              have hb' := hC
              clear hV e12 HCall HModel h2 hb hC
              have h2 := h2'
              have hb := hb'
              clear h2' hb'
              have hBy := tapeBytes _ _ _ _ u9 h2.t
              obtain ⟨tl, htl⟩ : ∃ tl, tl = (O' ++ N').length := ⟨_, rfl⟩
              rw [← htl] at hBy
              have HTl := Lib.hid htl
              clear htl
              go_wp2_with fail
              refine hBy.mono ?_
              clear hBy
              rintro e wq ⟨rfl, hraw, hbq⟩
              have h3 := h2.below hbq
              have hBq := bt hb hbq
              obtain ⟨An, ⟨Ao, no, co, nn, cn, e1, e2, kx, k4, k5, k6⟩, hbn⟩ := h3.x
              have HXB := Lib.hid (fun u (hu : Below wq.heap.size wq u) => rbytes (h3.x.choose_spec.1.below hu) (by have := h3.l; have := h3.r; omega) tl (HTl.out.trans (List.length_append)))
              have HTL : Hid (∀ u, Below wq.heap.size wq u → Calls Try.prog 11 #[.pointer (some ⟨w.heap.size, 0, none⟩)] u fun e w' => e = .returned (.int .i64 tl) ∧ u = w') := Lib.hid (fun u hu => HTl.out ▸ tapeLen _ _ _ _ u (h3.t.below hu))
              have HTF : Hid (∀ u, Below wq.heap.size wq u → Calls Try.prog 12 #[.pointer (some ⟨w.heap.size, 0, none⟩)] u fun e w' => e = .returned (.int .i64 no) ∧ u = w') := Lib.hid (fun u hu => e1.out ▸ tapeForced _ _ _ _ u (h3.t.below hu))
              have HTR : Hid (∀ u, Below wq.heap.size wq u → Calls Try.prog 13 #[.pointer (some ⟨w.heap.size, 0, none⟩)] u fun e w' => e = .returned (.int .i64 room) ∧ u = w') := Lib.hid (fun u hu => tapeRoom _ _ _ _ u (h3.t.below hu))
              obtain ⟨gb, hgb⟩ : ∃ gb, gb = u9.heap.size := ⟨_, rfl⟩
              rw [← hgb] at hraw ⊢
              have Hgb := Lib.hid hgb
              have H2 := Lib.hid (And.intro h2 hb)
              have HL : Hid (tl ≤ 65536) := Lib.hid (by have := h2.l; have := h2.r; have := HTl.out; rw [List.length_append] at this; omega)
              obtain ⟨L, hL⟩ : ∃ L, L = O' ++ N' := ⟨_, rfl⟩
              rw [← hL] at hraw HXB HTl
              clear hL hgb k4 k5 k6 hbn h2 hb h3 e2
              go_wp2_with fail
              refine wp_region_invT (F := ?FB1) (V := VTb w.heap.size xb gb tl no room co Ao L) (dead := fun _ => none) (T := fun _ _ => True) (C := fun u => Below wq.heap.size wq u) (E := fun _ u u' => Below u.heap.size u u') (by kernel_rfl) (by kernel_rfl) (by kernel_rfl) (fun x => ?hFB1) ?hmonoB1 ?hTmB1 ?hTB1 ?hCB1 ?stepB1 ?finB1
              case hFB1 => simp only [mkA, Act.put, List.setIfInBounds_toArray, List.set_cons_succ, List.set_cons_zero, Nat.reduceAdd, Nat.zero_add]; first | with_reducible rfl | rfl
              case hmonoB1 => exact fun q' i v u u' he hik hwt hdd hv => VTb.mono (q := q') he hv
              case hTmB1 => exact fun _ _ _ _ _ _ _ _ => trivial
              case hTB1 => exact fun j => trivial
              case hCB1 => exact (Below.refl _ _).drew
              case stepB1 =>
                refine AllOps.cons (fun x u hC hT hp K hK => ?_) ?_
                · clear hp hT
                  go_simp
                  refine hK _ _ _ hC (Below.refl _ _) (by exact rfl) ?_
                  first | (simp only [Act.put, List.setIfInBounds_toArray, List.set_cons_succ, List.set_cons_zero]; done) | simp [Act.put]
                refine AllOps.cons (fun x u hC hT hp K hK => ?_) ?_
                · simp [KnownTill, Region.binds, VTb] at hp
                  clear hT
                  have hcv := conv_n (some ⟨gb, 0, none⟩) L tl tl HTl.out u _ ((hraw.below hC hraw.lt).bs (B := u.heap.size) (by have := hraw.lt; have := hC.size; omega))
                  go_simp
                  refine hK _ _ _ hC (Below.refl _ _) (by exact (by first | exact rfl | simp)) ?_
                  first | (simp only [Act.put, List.setIfInBounds_toArray, List.set_cons_succ, List.set_cons_zero, hp]; done) | simp [Act.put, hp]
                refine AllOps.cons (fun x u hC hT hp K hK => ?_) ?_
                · clear hp hT
                  go_simp
                  refine hK _ _ _ hC (Below.refl _ _) (by exact rfl) ?_
                  first | (simp only [Act.put, List.setIfInBounds_toArray, List.set_cons_succ, List.set_cons_zero]; done) | simp [Act.put]
                refine AllOps.cons (fun x u hC hT hp K hK => ?_) ?_
                · simp [KnownTill, Region.binds, VTb] at hp
                  clear hT
                  go_simp
                  refine (HXB.out u hC).mono ?_
                  rintro e wA ⟨A1, c1, rfl, hO1, hbA⟩
                  refine hK _ _ _ (bt hC hbA) hbA ⟨A1, c1, rfl, hO1.bs⟩ ?_
                  first | (simp only [Act.put, List.setIfInBounds_toArray, List.set_cons_succ, List.set_cons_zero, hp]; done) | simp [Act.put, hp]
                refine AllOps.cons (fun x u hC hT hp K hK => ?_) ?_
                · simp [KnownTill, Region.binds, VTb] at hp
                  clear hT
                  obtain ⟨A1, c1, e1, i1⟩ : IsB u tl L (x 3) := by first | exact hp | exact hp.1 | exact hp.2
                  have hcv := conv_n A1 L tl c1 HTl.out u _ i1
                  simp only [e1]
                  go_simp
                  refine hK _ _ _ hC (Below.refl _ _) (by exact rfl) ?_
                  simp [Act.put, e1]
                refine AllOps.cons (fun x u hC hT hp K hK => ?_) ?_
                · simp [KnownTill, Region.binds, VTb] at hp
                  clear hT
                  go_simp
                  refine hK _ _ _ hC (Below.refl _ _) (by exact (by first | exact rfl | simp)) ?_
                  first | (simp only [Act.put, List.setIfInBounds_toArray, List.set_cons_succ, List.set_cons_zero, hp]; done) | simp [Act.put, hp]
                refine AllOps.cons (fun x u hC hT hp K hK => ?_) ?_
                · simp [KnownTill, Region.binds, VTb] at hp
                  clear hT
                  go_simp
                  refine hK _ _ _ hC (Below.refl _ _) (by exact rfl) ?_
                  first | (simp only [Act.put, List.setIfInBounds_toArray, List.set_cons_succ, List.set_cons_zero, hp]; done) | simp [Act.put, hp]
                refine AllOps.cons (fun x u hC hT hp K hK => ?_) ?_
                · simp [KnownTill, Region.binds, VTb] at hp
                  clear hT
                  go_simp
                  refine hK _ _ _ hC (Below.refl _ _) (by exact rfl) ?_
                  first | (simp only [Act.put, List.setIfInBounds_toArray, List.set_cons_succ, List.set_cons_zero, hp]; done) | simp [Act.put, hp]
                refine AllOps.cons (fun x u hC hT hp K hK => ?_) ?_
                · simp [KnownTill, Region.binds, VTb] at hp
                  clear hT
                  go_simp
                  refine (HTL.out u hC).mono ?_
                  rintro e wA ⟨rfl, rfl⟩
                  refine hK _ _ _ hC (Below.refl _ _) (by exact rfl) ?_
                  first | (simp only [Act.put, List.setIfInBounds_toArray, List.set_cons_succ, List.set_cons_zero, hp]; done) | simp [Act.put, hp]
                refine AllOps.cons (fun x u hC hT hp K hK => ?_) ?_
                · simp [KnownTill, Region.binds, VTb] at hp
                  clear hT
                  go_simp
                  refine hK _ _ _ hC (Below.refl _ _) (by exact rfl) ?_
                  first | (simp only [Act.put, List.setIfInBounds_toArray, List.set_cons_succ, List.set_cons_zero, hp]; done) | simp [Act.put, hp]
                refine AllOps.cons (fun x u hC hT hp K hK => ?_) ?_
                · simp [KnownTill, Region.binds, VTb] at hp
                  clear hT
                  go_simp
                  refine hK _ _ _ hC (Below.refl _ _) (by exact rfl) ?_
                  first | (simp only [Act.put, List.setIfInBounds_toArray, List.set_cons_succ, List.set_cons_zero, hp]; done) | simp [Act.put, hp]
                refine AllOps.cons (fun x u hC hT hp K hK => ?_) ?_
                · simp [KnownTill, Region.binds, VTb] at hp
                  clear hT
                  go_simp
                  refine hK _ _ _ hC (Below.refl _ _) (by exact (by first | exact rfl | simp)) ?_
                  first | (simp only [Act.put, List.setIfInBounds_toArray, List.set_cons_succ, List.set_cons_zero, hp]; done) | simp [Act.put, hp]
                refine AllOps.cons (fun x u hC hT hp K hK => ?_) ?_
                · simp [KnownTill, Region.binds, VTb] at hp
                  clear hT
                  go_simp
                  refine hK _ _ _ hC (Below.refl _ _) (by exact rfl) ?_
                  first | (simp only [Act.put, List.setIfInBounds_toArray, List.set_cons_succ, List.set_cons_zero, hp]; done) | simp [Act.put, hp]
                refine AllOps.cons (fun x u hC hT hp K hK => ?_) ?_
                · simp [KnownTill, Region.binds, VTb] at hp
                  clear hT
                  go_simp
                  refine hK _ _ _ hC (Below.refl _ _) (by exact rfl) ?_
                  first | (simp only [Act.put, List.setIfInBounds_toArray, List.set_cons_succ, List.set_cons_zero, hp]; done) | simp [Act.put, hp]
                refine AllOps.cons (fun x u hC hT hp K hK => ?_) ?_
                · simp [KnownTill, Region.binds, VTb] at hp
                  clear hT
                  go_simp
                  refine hK _ _ _ hC (Below.refl _ _) (by exact rfl) ?_
                  first | (simp only [Act.put, List.setIfInBounds_toArray, List.set_cons_succ, List.set_cons_zero, hp]; done) | simp [Act.put, hp]
                refine AllOps.cons (fun x u hC hT hp K hK => ?_) ?_
                · simp [KnownTill, Region.binds, VTb] at hp
                  clear hT
                  go_simp
                  refine (HTF.out u hC).mono ?_
                  rintro e wA ⟨rfl, rfl⟩
                  refine hK _ _ _ hC (Below.refl _ _) (by exact rfl) ?_
                  first | (simp only [Act.put, List.setIfInBounds_toArray, List.set_cons_succ, List.set_cons_zero, hp]; done) | simp [Act.put, hp]
                refine AllOps.cons (fun x u hC hT hp K hK => ?_) ?_
                · simp [KnownTill, Region.binds, VTb] at hp
                  clear hT
                  go_simp
                  refine hK _ _ _ hC (Below.refl _ _) (by exact rfl) ?_
                  first | (simp only [Act.put, List.setIfInBounds_toArray, List.set_cons_succ, List.set_cons_zero, hp]; done) | simp [Act.put, hp]
                refine AllOps.cons (fun x u hC hT hp K hK => ?_) ?_
                · simp [KnownTill, Region.binds, VTb] at hp
                  clear hT
                  go_simp
                  refine hK _ _ _ hC (Below.refl _ _) (by exact rfl) ?_
                  first | (simp only [Act.put, List.setIfInBounds_toArray, List.set_cons_succ, List.set_cons_zero, hp]; done) | simp [Act.put, hp]
                refine AllOps.cons (fun x u hC hT hp K hK => ?_) ?_
                · simp [KnownTill, Region.binds, VTb] at hp
                  clear hT
                  go_simp
                  refine hK _ _ _ hC (Below.refl _ _) (by exact rfl) ?_
                  first | (simp only [Act.put, List.setIfInBounds_toArray, List.set_cons_succ, List.set_cons_zero, hp]; done) | simp [Act.put, hp]
                refine AllOps.cons (fun x u hC hT hp K hK => ?_) ?_
                · simp [KnownTill, Region.binds, VTb] at hp
                  clear hT
                  have kq := kx.below (hC : Below _ _ u) kx.lt
                  have qq := kq.cell 1
                  simp only [List.getElem?_toArray, List.getElem?_cons_zero, List.getElem?_cons_succ] at qq
                  go_simp
                  refine hK _ _ _ hC (Below.refl _ _) (by exact rfl) ?_
                  first | (simp only [Act.put, List.setIfInBounds_toArray, List.set_cons_succ, List.set_cons_zero, hp]; done) | simp [Act.put, hp]
                refine AllOps.cons (fun x u hC hT hp K hK => ?_) ?_
                · simp [KnownTill, Region.binds, VTb] at hp
                  clear hT
                  go_simp
                  refine hK _ _ _ hC (Below.refl _ _) (by exact rfl) ?_
                  first | (simp only [Act.put, List.setIfInBounds_toArray, List.set_cons_succ, List.set_cons_zero, hp]; done) | simp [Act.put, hp]
                refine AllOps.cons (fun x u hC hT hp K hK => ?_) ?_
                · simp [KnownTill, Region.binds, VTb] at hp
                  clear hT
                  go_simp
                  refine hK _ _ _ hC (Below.refl _ _) (by exact (by first | exact rfl | simp)) ?_
                  first | (simp only [Act.put, List.setIfInBounds_toArray, List.set_cons_succ, List.set_cons_zero, hp]; done) | simp [Act.put, hp]
                refine AllOps.cons (fun x u hC hT hp K hK => ?_) ?_
                · simp [KnownTill, Region.binds, VTb] at hp
                  clear hT
                  go_simp
                  refine hK _ _ _ hC (Below.refl _ _) (by exact rfl) ?_
                  first | (simp only [Act.put, List.setIfInBounds_toArray, List.set_cons_succ, List.set_cons_zero, hp]; done) | simp [Act.put, hp]
                refine AllOps.cons (fun x u hC hT hp K hK => ?_) ?_
                · simp [KnownTill, Region.binds, VTb] at hp
                  clear hT
                  go_simp
                  refine hK _ _ _ hC (Below.refl _ _) (by exact rfl) ?_
                  first | (simp only [Act.put, List.setIfInBounds_toArray, List.set_cons_succ, List.set_cons_zero, hp]; done) | simp [Act.put, hp]
                refine AllOps.cons (fun x u hC hT hp K hK => ?_) ?_
                · simp [KnownTill, Region.binds, VTb] at hp
                  clear hT
                  go_simp
                  refine hK _ _ _ hC (Below.refl _ _) (by exact rfl) ?_
                  first | (simp only [Act.put, List.setIfInBounds_toArray, List.set_cons_succ, List.set_cons_zero, hp]; done) | simp [Act.put, hp]
                refine AllOps.cons (fun x u hC hT hp K hK => ?_) ?_
                · simp [KnownTill, Region.binds, VTb] at hp
                  clear hT
                  go_simp
                  refine (HTR.out u hC).mono ?_
                  rintro e wA ⟨rfl, rfl⟩
                  refine hK _ _ _ hC (Below.refl _ _) (by exact rfl) ?_
                  first | (simp only [Act.put, List.setIfInBounds_toArray, List.set_cons_succ, List.set_cons_zero, hp]; done) | simp [Act.put, hp]
                refine AllOps.cons (fun x u hC hT hp K hK => ?_) ?_
                · simp [KnownTill, Region.binds, VTb] at hp
                  clear hT
                  go_simp
                  refine hK _ _ _ hC (Below.refl _ _) (by exact rfl) ?_
                  first | (simp only [Act.put, List.setIfInBounds_toArray, List.set_cons_succ, List.set_cons_zero, hp]; done) | simp [Act.put, hp]
                refine AllOps.cons (fun x u hC hT hp K hK => ?_) ?_
                · simp [KnownTill, Region.binds, VTb] at hp
                  clear hT
                  go_simp
                  refine hK _ _ _ hC (Below.refl _ _) (by exact (by first | exact rfl | simp)) ?_
                  first | (simp only [Act.put, List.setIfInBounds_toArray, List.set_cons_succ, List.set_cons_zero, hp]; done) | simp [Act.put, hp]
                refine AllOps.cons (fun x u hC hT hp K hK => ?_) ?_
                · simp [KnownTill, Region.binds, VTb] at hp
                  clear hT
                  go_simp
                  refine hK _ _ _ hC (Below.refl _ _) (by exact rfl) ?_
                  first | (simp only [Act.put, List.setIfInBounds_toArray, List.set_cons_succ, List.set_cons_zero, hp]; done) | simp [Act.put, hp]
                exact AllOps.nil
              case finB1 =>
                intro x u10 hC hV
                have e106 : x 28 = .bool false := hV 28 (by decide) rfl
                rw [e106]
                clear e106
                clear hV
                have hraw3 := hraw.below hC hraw.lt
                have hbq3 := bt hbq hC
                clear hC hraw hbq HXB HTL HTF HTR kx
                go_wp2_with fail
                go_loopw [11] (fun i wr => ∃ (m : Nat) (L : List UInt8), m ≤ tl ∧ i = .int .i64 m ∧ Hid (L.length = tl) ∧ Raw wr gb 5 L ∧ Below u9.heap.size u9 wr) (fun i _ => tl - (intOf i).toNat)
                case atStart => exact ⟨0, _, Nat.zero_le _, rfl, Lib.hid HTl.out.symm, hraw3, hbq3⟩
                case round =>
                  clear hraw3 hbq3
                  obtain ⟨m, L, hm, rfl, hLl, hraw, hbr⟩ := hrel
                  by_cases hmt : m < tl
                  · have hmI : (m : Int) < (tl : Int) := by omega
                    have cc := hraw.cell m (by rw [hLl.out]; exact hmt)
                    have ff := hraw.frozen m
                    have hset := Lib.hid (And.intro (hraw.seven m) (hbr.setCell (p := ⟨gb, m, none⟩) (Nat.le_of_eq Hgb.out.symm) (.int .u8 7)))
                    have hLl2 : Hid ((L.set m 7).length = tl) := Lib.hid (by rw [List.length_set]; exact hLl.out)
                    have htb := HL.out
                    generalize (L[m]'(by rw [hLl.out]; exact hmt)) = zz at cc
                    clear hraw hbr
                    go_wp2
                    go_roundw
                    case rel => exact ⟨m + 1, _, by omega, by go_num, hLl2, hset.out.1, hset.out.2⟩
                    case measure => simp [intOf]; omega
                  · have hmI : ¬ (m : Int) < (tl : Int) := by omega
                    have h4 := H2.out.1.below hbr
                    have hB4 := bt H2.out.2 hbr
                    clear hraw hbr
                    go_wp2
                    go_roundw
                    case rel => exact ⟨j + 1, O', N', by omega, by omega, by go_num, h4, hB4⟩
                    case measure => simp [intOf]; omega
        · have h5I : ¬ (500 : Int) < (bn : Int) := by omega
          clear h5 hrl
          go_wp2_with fail
          clear p0 p1 p2
          refine wp_region_invX (F := ?FA2) (V := VTa w.heap.size xb b o j n c bn oc w.heap.size room ok on r oA O N O' N') (par := fun i => if i = 11 then 5 else i) (dead := fun i => if i = 5 then some 11 else none) (T := TTa w.heap.size w.heap.size xb room O N) (C := fun u => Below w.heap.size w u) (E := ETa) (by kernel_rfl) (by kernel_rfl) (by kernel_rfl) (fun x => ?hFA2) (fun i _ => by by_cases h : i = 11; (subst h; exact .inr (by kernel_rfl)); exact .inl (if_neg h)) ?hmonoA2 ?hTmA2 ?hTA2 ?hCA2 ?stepA2 ?finA2
          case hFA2 => simp only [mkA, Act.put, List.setIfInBounds_toArray, List.set_cons_succ, List.set_cons_zero, Nat.reduceAdd, Nat.zero_add]; first | with_reducible rfl | rfl
          case hmonoA2 => exact fun q' i v p5 u u' he hik hwt hdd hv => VTa.mono he hik (fun hh => hdd (by rw [hh.1, hh.2]; rfl)) (fun hh => ltf hwt (by rw [hh.1, hh.2]; kernel_rfl)) hv
          case hTmA2 => exact fun q j' u u' he hkj hwt hv => TTa.mono he hkj (fun hh => ltf hwt (by rw [hh.1, hh.2]; kernel_rfl)) hv
          case hTA2 => exact fun j' => by unfold TTa; split <;> first | exact h2.below ((Below.refl _ _).drew) | trivial
          case hCA2 => exact hb.drew
          case stepA2 =>
            refine AllOps.cons (fun x u hC hT hp K hK => ?_) ?_
            · clear hp hT
              go_simp
              refine hK _ _ _ hC (Below.refl _ _) (by exact rfl) ?_
              first | (simp only [Act.put, List.setIfInBounds_toArray, List.set_cons_succ, List.set_cons_zero]; done) | simp [Act.put]
            refine AllOps.cons (fun x u hC hT hp K hK => ?_) ?_
            · clear hp hT
              go_simp
              refine hK _ _ _ hC (Below.refl _ _) (by exact rfl) ?_
              first | (simp only [Act.put, List.setIfInBounds_toArray, List.set_cons_succ, List.set_cons_zero]; done) | simp [Act.put]
            refine AllOps.cons (fun x u hC hT hp K hK => ?_) ?_
            · clear hp hT
              go_simp
              refine hK _ _ _ hC (Below.refl _ _) (by exact rfl) ?_
              first | (simp only [Act.put, List.setIfInBounds_toArray, List.set_cons_succ, List.set_cons_zero]; done) | simp [Act.put]
            refine AllOps.cons (fun x u hC hT hp K hK => ?_) ?_
            · simp [KnownTill, Region.binds, VTa] at hp
              clear hT
              go_simp
              refine hK _ _ _ hC (Below.refl _ _) (by exact rfl) ?_
              first | (simp only [Act.put, List.setIfInBounds_toArray, List.set_cons_succ, List.set_cons_zero, hp]; done) | simp [Act.put, hp]
            refine AllOps.cons (fun x u hC hT hp K hK => ?_) ?_
            · simp [KnownTill, Region.binds, VTa] at hp
              clear hT
              have p0 := (hC.cell (p := ⟨b, o + j * 3, none⟩) hlt).trans q0
              have p1 := (hC.cell (p := ⟨b, o + j * 3 + 1, none⟩) hlt).trans q1
              have p2 := (hC.cell (p := ⟨b, o + j * 3 + 2, none⟩) hlt).trans q2
              go_simp
              refine hK _ _ _ hC (Below.refl _ _) (by exact rfl) ?_
              first | (simp only [Act.put, List.setIfInBounds_toArray, List.set_cons_succ, List.set_cons_zero, hp]; done) | simp [Act.put, hp]
            refine AllOps.cons (fun x u hC hT hp K hK => ?_) ?_
            · simp [KnownTill, Region.binds, VTa] at hp
              have hT2 : Two2 u w.heap.size w.heap.size xb room O N := hT
              go_simp
              refine (HCall.out u hC hT2).mono ?_
              rintro e uA ⟨rfl, p1, p2⟩
              refine hK _ _ _ (hC.grown p2 hC.size (fun k e => by cases e; exact Nat.le_refl _)) trivial ⟨rfl, p1⟩ ?_
              first | (simp only [Act.put, List.setIfInBounds_toArray, List.set_cons_succ, List.set_cons_zero, hp]; done) | simp [Act.put, hp]
            refine AllOps.cons (fun x u hC hT hp K hK => ?_) ?_
            · clear hp hT
              go_simp
              refine hK _ _ _ hC (Below.refl _ _) (by exact rfl) ?_
              first | (simp only [Act.put, List.setIfInBounds_toArray, List.set_cons_succ, List.set_cons_zero]; done) | simp [Act.put]
            refine AllOps.cons (fun x u hC hT hp K hK => ?_) ?_
            · clear hp hT
              go_simp
              refine hK _ _ _ hC (Below.refl _ _) (by exact rfl) ?_
              first | (simp only [Act.put, List.setIfInBounds_toArray, List.set_cons_succ, List.set_cons_zero]; done) | simp [Act.put]
            refine AllOps.cons (fun x u hC hT hp K hK => ?_) ?_
            · clear hp hT
              go_simp
              refine hK _ _ _ hC (Below.refl _ _) (by exact rfl) ?_
              first | (simp only [Act.put, List.setIfInBounds_toArray, List.set_cons_succ, List.set_cons_zero]; done) | simp [Act.put]
            refine AllOps.cons (fun x u hC hT hp K hK => ?_) ?_
            · simp [KnownTill, Region.binds, VTa] at hp
              clear hT
              go_simp
              refine hK _ _ _ hC (Below.refl _ _) (by exact rfl) ?_
              first | (simp only [Act.put, List.setIfInBounds_toArray, List.set_cons_succ, List.set_cons_zero, hp]; done) | simp [Act.put, hp]
            refine AllOps.cons (fun x u hC hT hp K hK => ?_) ?_
            · simp [KnownTill, Region.binds, VTa] at hp
              clear hT
              have p0 := (hC.cell (p := ⟨b, o + j * 3, none⟩) hlt).trans q0
              have p1 := (hC.cell (p := ⟨b, o + j * 3 + 1, none⟩) hlt).trans q1
              have p2 := (hC.cell (p := ⟨b, o + j * 3 + 2, none⟩) hlt).trans q2
              go_simp
              refine hK _ _ _ hC (Below.refl _ _) (by exact rfl) ?_
              first | (simp only [Act.put, List.setIfInBounds_toArray, List.set_cons_succ, List.set_cons_zero, hp]; done) | simp [Act.put, hp]
            refine AllOps.cons (fun x u hC hT hp K hK => ?_) ?_
            · simp [KnownTill, Region.binds, VTa] at hp
              clear hT
              obtain ⟨e5, ht5, An, hx5, hn5⟩ : x 5 = .int .i64 r ∧ Mid2 u w.heap.size w.heap.size xb room O N (O' ++ N') O'.length := by first | exact hp.1 | exact hp.2.1 | exact hp.2 | exact hp.2.2 | exact hp.2.2.1 | exact hp.2.2.2 | exact hp.2.2.2.1
              go_simp
              refine (HModel.out u An hC hx5).mono ?_
              rintro e uA hR
              obtain ⟨rfl, p1, p2⟩ := Mid2.model ht5 hx5 hn5 hC.size hR rfl rfl
              refine hK _ _ _ (p2 w hC hwx) trivial ⟨rfl, e5, p1⟩ ?_
              first | (simp only [Act.put, List.setIfInBounds_toArray, List.set_cons_succ, List.set_cons_zero, hp]; done) | simp [Act.put, hp]
            refine AllOps.cons (fun x u hC hT hp K hK => ?_) ?_
            · simp [KnownTill, Region.binds, VTa] at hp
              clear hT
              go_simp
              refine hK _ _ _ hC (Below.refl _ _) (by exact (by first | exact rfl | simp)) ?_
              first | (simp only [Act.put, List.setIfInBounds_toArray, List.set_cons_succ, List.set_cons_zero, hp]; done) | simp [Act.put, hp]
            exact AllOps.nil
          case finA2 =>
            intro x u9 hC hV
            obtain ⟨_, _, h2'⟩ : x 11 = .int .i64 r ∧ x 5 = .int .i64 r ∧ Two2 u9 w.heap.size w.heap.size xb room O' N' := hV 11 (by decide) rfl
            have e12 : x 12 = .bool false := hV 12 (by decide) rfl
            rw [e12]
            have hb' := hC
            clear hV e12 HCall HModel h2 hb hC
            have h2 := h2'
            have hb := hb'
            clear h2' hb'
            have hBy := tapeBytes _ _ _ _ u9 h2.t
            obtain ⟨tl, htl⟩ : ∃ tl, tl = (O' ++ N').length := ⟨_, rfl⟩
            rw [← htl] at hBy
            have HTl := Lib.hid htl
            clear htl
            go_wp2_with fail
            refine hBy.mono ?_
            clear hBy
            rintro e wq ⟨rfl, hraw, hbq⟩
            have h3 := h2.below hbq
            have hBq := bt hb hbq
            obtain ⟨An, ⟨Ao, no, co, nn, cn, e1, e2, kx, k4, k5, k6⟩, hbn⟩ := h3.x
            have HXB := Lib.hid (fun u (hu : Below wq.heap.size wq u) => rbytes (h3.x.choose_spec.1.below hu) (by have := h3.l; have := h3.r; omega) tl (HTl.out.trans (List.length_append)))
            have HTL : Hid (∀ u, Below wq.heap.size wq u → Calls Try.prog 11 #[.pointer (some ⟨w.heap.size, 0, none⟩)] u fun e w' => e = .returned (.int .i64 tl) ∧ u = w') := Lib.hid (fun u hu => HTl.out ▸ tapeLen _ _ _ _ u (h3.t.below hu))
            have HTF : Hid (∀ u, Below wq.heap.size wq u → Calls Try.prog 12 #[.pointer (some ⟨w.heap.size, 0, none⟩)] u fun e w' => e = .returned (.int .i64 no) ∧ u = w') := Lib.hid (fun u hu => e1.out ▸ tapeForced _ _ _ _ u (h3.t.below hu))
            have HTR : Hid (∀ u, Below wq.heap.size wq u → Calls Try.prog 13 #[.pointer (some ⟨w.heap.size, 0, none⟩)] u fun e w' => e = .returned (.int .i64 room) ∧ u = w') := Lib.hid (fun u hu => tapeRoom _ _ _ _ u (h3.t.below hu))
            obtain ⟨gb, hgb⟩ : ∃ gb, gb = u9.heap.size := ⟨_, rfl⟩
            rw [← hgb] at hraw ⊢
            have Hgb := Lib.hid hgb
            have H2 := Lib.hid (And.intro h2 hb)
            have HL : Hid (tl ≤ 65536) := Lib.hid (by have := h2.l; have := h2.r; have := HTl.out; rw [List.length_append] at this; omega)
            obtain ⟨L, hL⟩ : ∃ L, L = O' ++ N' := ⟨_, rfl⟩
            rw [← hL] at hraw HXB HTl
            clear hL hgb k4 k5 k6 hbn h2 hb h3 e2
            go_wp2_with fail
            refine wp_region_invT (F := ?FB2) (V := VTb w.heap.size xb gb tl no room co Ao L) (dead := fun _ => none) (T := fun _ _ => True) (C := fun u => Below wq.heap.size wq u) (E := fun _ u u' => Below u.heap.size u u') (by kernel_rfl) (by kernel_rfl) (by kernel_rfl) (fun x => ?hFB2) ?hmonoB2 ?hTmB2 ?hTB2 ?hCB2 ?stepB2 ?finB2
            case hFB2 => simp only [mkA, Act.put, List.setIfInBounds_toArray, List.set_cons_succ, List.set_cons_zero, Nat.reduceAdd, Nat.zero_add]; first | with_reducible rfl | rfl
            case hmonoB2 => exact fun q' i v u u' he hik hwt hdd hv => VTb.mono (q := q') he hv
            case hTmB2 => exact fun _ _ _ _ _ _ _ _ => trivial
            case hTB2 => exact fun j => trivial
            case hCB2 => exact (Below.refl _ _).drew
            case stepB2 =>
              refine AllOps.cons (fun x u hC hT hp K hK => ?_) ?_
              · clear hp hT
                go_simp
                refine hK _ _ _ hC (Below.refl _ _) (by exact rfl) ?_
                first | (simp only [Act.put, List.setIfInBounds_toArray, List.set_cons_succ, List.set_cons_zero]; done) | simp [Act.put]
              refine AllOps.cons (fun x u hC hT hp K hK => ?_) ?_
              · simp [KnownTill, Region.binds, VTb] at hp
                clear hT
                have hcv := conv_n (some ⟨gb, 0, none⟩) L tl tl HTl.out u _ ((hraw.below hC hraw.lt).bs (B := u.heap.size) (by have := hraw.lt; have := hC.size; omega))
                go_simp
                refine hK _ _ _ hC (Below.refl _ _) (by exact (by first | exact rfl | simp)) ?_
                first | (simp only [Act.put, List.setIfInBounds_toArray, List.set_cons_succ, List.set_cons_zero, hp]; done) | simp [Act.put, hp]
              refine AllOps.cons (fun x u hC hT hp K hK => ?_) ?_
              · clear hp hT
                go_simp
                refine hK _ _ _ hC (Below.refl _ _) (by exact rfl) ?_
                first | (simp only [Act.put, List.setIfInBounds_toArray, List.set_cons_succ, List.set_cons_zero]; done) | simp [Act.put]
              refine AllOps.cons (fun x u hC hT hp K hK => ?_) ?_
              · simp [KnownTill, Region.binds, VTb] at hp
                clear hT
                go_simp
                refine (HXB.out u hC).mono ?_
                rintro e wA ⟨A1, c1, rfl, hO1, hbA⟩
                refine hK _ _ _ (bt hC hbA) hbA ⟨A1, c1, rfl, hO1.bs⟩ ?_
                first | (simp only [Act.put, List.setIfInBounds_toArray, List.set_cons_succ, List.set_cons_zero, hp]; done) | simp [Act.put, hp]
              refine AllOps.cons (fun x u hC hT hp K hK => ?_) ?_
              · simp [KnownTill, Region.binds, VTb] at hp
                clear hT
                obtain ⟨A1, c1, e1, i1⟩ : IsB u tl L (x 3) := by first | exact hp | exact hp.1 | exact hp.2
                have hcv := conv_n A1 L tl c1 HTl.out u _ i1
                simp only [e1]
                go_simp
                refine hK _ _ _ hC (Below.refl _ _) (by exact rfl) ?_
                simp [Act.put, e1]
              refine AllOps.cons (fun x u hC hT hp K hK => ?_) ?_
              · simp [KnownTill, Region.binds, VTb] at hp
                clear hT
                go_simp
                refine hK _ _ _ hC (Below.refl _ _) (by exact (by first | exact rfl | simp)) ?_
                first | (simp only [Act.put, List.setIfInBounds_toArray, List.set_cons_succ, List.set_cons_zero, hp]; done) | simp [Act.put, hp]
              refine AllOps.cons (fun x u hC hT hp K hK => ?_) ?_
              · simp [KnownTill, Region.binds, VTb] at hp
                clear hT
                go_simp
                refine hK _ _ _ hC (Below.refl _ _) (by exact rfl) ?_
                first | (simp only [Act.put, List.setIfInBounds_toArray, List.set_cons_succ, List.set_cons_zero, hp]; done) | simp [Act.put, hp]
              refine AllOps.cons (fun x u hC hT hp K hK => ?_) ?_
              · simp [KnownTill, Region.binds, VTb] at hp
                clear hT
                go_simp
                refine hK _ _ _ hC (Below.refl _ _) (by exact rfl) ?_
                first | (simp only [Act.put, List.setIfInBounds_toArray, List.set_cons_succ, List.set_cons_zero, hp]; done) | simp [Act.put, hp]
              refine AllOps.cons (fun x u hC hT hp K hK => ?_) ?_
              · simp [KnownTill, Region.binds, VTb] at hp
                clear hT
                go_simp
                refine (HTL.out u hC).mono ?_
                rintro e wA ⟨rfl, rfl⟩
                refine hK _ _ _ hC (Below.refl _ _) (by exact rfl) ?_
                first | (simp only [Act.put, List.setIfInBounds_toArray, List.set_cons_succ, List.set_cons_zero, hp]; done) | simp [Act.put, hp]
              refine AllOps.cons (fun x u hC hT hp K hK => ?_) ?_
              · simp [KnownTill, Region.binds, VTb] at hp
                clear hT
                go_simp
                refine hK _ _ _ hC (Below.refl _ _) (by exact rfl) ?_
                first | (simp only [Act.put, List.setIfInBounds_toArray, List.set_cons_succ, List.set_cons_zero, hp]; done) | simp [Act.put, hp]
              refine AllOps.cons (fun x u hC hT hp K hK => ?_) ?_
              · simp [KnownTill, Region.binds, VTb] at hp
                clear hT
                go_simp
                refine hK _ _ _ hC (Below.refl _ _) (by exact rfl) ?_
                first | (simp only [Act.put, List.setIfInBounds_toArray, List.set_cons_succ, List.set_cons_zero, hp]; done) | simp [Act.put, hp]
              refine AllOps.cons (fun x u hC hT hp K hK => ?_) ?_
              · simp [KnownTill, Region.binds, VTb] at hp
                clear hT
                go_simp
                refine hK _ _ _ hC (Below.refl _ _) (by exact (by first | exact rfl | simp)) ?_
                first | (simp only [Act.put, List.setIfInBounds_toArray, List.set_cons_succ, List.set_cons_zero, hp]; done) | simp [Act.put, hp]
              refine AllOps.cons (fun x u hC hT hp K hK => ?_) ?_
              · simp [KnownTill, Region.binds, VTb] at hp
                clear hT
                go_simp
                refine hK _ _ _ hC (Below.refl _ _) (by exact rfl) ?_
                first | (simp only [Act.put, List.setIfInBounds_toArray, List.set_cons_succ, List.set_cons_zero, hp]; done) | simp [Act.put, hp]
              refine AllOps.cons (fun x u hC hT hp K hK => ?_) ?_
              · simp [KnownTill, Region.binds, VTb] at hp
                clear hT
                go_simp
                refine hK _ _ _ hC (Below.refl _ _) (by exact rfl) ?_
                first | (simp only [Act.put, List.setIfInBounds_toArray, List.set_cons_succ, List.set_cons_zero, hp]; done) | simp [Act.put, hp]
              refine AllOps.cons (fun x u hC hT hp K hK => ?_) ?_
              · simp [KnownTill, Region.binds, VTb] at hp
                clear hT
                go_simp
                refine hK _ _ _ hC (Below.refl _ _) (by exact rfl) ?_
                first | (simp only [Act.put, List.setIfInBounds_toArray, List.set_cons_succ, List.set_cons_zero, hp]; done) | simp [Act.put, hp]
              refine AllOps.cons (fun x u hC hT hp K hK => ?_) ?_
              · simp [KnownTill, Region.binds, VTb] at hp
                clear hT
                go_simp
                refine (HTF.out u hC).mono ?_
                rintro e wA ⟨rfl, rfl⟩
                refine hK _ _ _ hC (Below.refl _ _) (by exact rfl) ?_
                first | (simp only [Act.put, List.setIfInBounds_toArray, List.set_cons_succ, List.set_cons_zero, hp]; done) | simp [Act.put, hp]
              refine AllOps.cons (fun x u hC hT hp K hK => ?_) ?_
              · simp [KnownTill, Region.binds, VTb] at hp
                clear hT
                go_simp
                refine hK _ _ _ hC (Below.refl _ _) (by exact rfl) ?_
                first | (simp only [Act.put, List.setIfInBounds_toArray, List.set_cons_succ, List.set_cons_zero, hp]; done) | simp [Act.put, hp]
              refine AllOps.cons (fun x u hC hT hp K hK => ?_) ?_
              · simp [KnownTill, Region.binds, VTb] at hp
                clear hT
                go_simp
                refine hK _ _ _ hC (Below.refl _ _) (by exact rfl) ?_
                first | (simp only [Act.put, List.setIfInBounds_toArray, List.set_cons_succ, List.set_cons_zero, hp]; done) | simp [Act.put, hp]
              refine AllOps.cons (fun x u hC hT hp K hK => ?_) ?_
              · simp [KnownTill, Region.binds, VTb] at hp
                clear hT
                go_simp
                refine hK _ _ _ hC (Below.refl _ _) (by exact rfl) ?_
                first | (simp only [Act.put, List.setIfInBounds_toArray, List.set_cons_succ, List.set_cons_zero, hp]; done) | simp [Act.put, hp]
              refine AllOps.cons (fun x u hC hT hp K hK => ?_) ?_
              · simp [KnownTill, Region.binds, VTb] at hp
                clear hT
                have kq := kx.below (hC : Below _ _ u) kx.lt
                have qq := kq.cell 1
                simp only [List.getElem?_toArray, List.getElem?_cons_zero, List.getElem?_cons_succ] at qq
                go_simp
                refine hK _ _ _ hC (Below.refl _ _) (by exact rfl) ?_
                first | (simp only [Act.put, List.setIfInBounds_toArray, List.set_cons_succ, List.set_cons_zero, hp]; done) | simp [Act.put, hp]
              refine AllOps.cons (fun x u hC hT hp K hK => ?_) ?_
              · simp [KnownTill, Region.binds, VTb] at hp
                clear hT
                go_simp
                refine hK _ _ _ hC (Below.refl _ _) (by exact rfl) ?_
                first | (simp only [Act.put, List.setIfInBounds_toArray, List.set_cons_succ, List.set_cons_zero, hp]; done) | simp [Act.put, hp]
              refine AllOps.cons (fun x u hC hT hp K hK => ?_) ?_
              · simp [KnownTill, Region.binds, VTb] at hp
                clear hT
                go_simp
                refine hK _ _ _ hC (Below.refl _ _) (by exact (by first | exact rfl | simp)) ?_
                first | (simp only [Act.put, List.setIfInBounds_toArray, List.set_cons_succ, List.set_cons_zero, hp]; done) | simp [Act.put, hp]
              refine AllOps.cons (fun x u hC hT hp K hK => ?_) ?_
              · simp [KnownTill, Region.binds, VTb] at hp
                clear hT
                go_simp
                refine hK _ _ _ hC (Below.refl _ _) (by exact rfl) ?_
                first | (simp only [Act.put, List.setIfInBounds_toArray, List.set_cons_succ, List.set_cons_zero, hp]; done) | simp [Act.put, hp]
              refine AllOps.cons (fun x u hC hT hp K hK => ?_) ?_
              · simp [KnownTill, Region.binds, VTb] at hp
                clear hT
                go_simp
                refine hK _ _ _ hC (Below.refl _ _) (by exact rfl) ?_
                first | (simp only [Act.put, List.setIfInBounds_toArray, List.set_cons_succ, List.set_cons_zero, hp]; done) | simp [Act.put, hp]
              refine AllOps.cons (fun x u hC hT hp K hK => ?_) ?_
              · simp [KnownTill, Region.binds, VTb] at hp
                clear hT
                go_simp
                refine hK _ _ _ hC (Below.refl _ _) (by exact rfl) ?_
                first | (simp only [Act.put, List.setIfInBounds_toArray, List.set_cons_succ, List.set_cons_zero, hp]; done) | simp [Act.put, hp]
              refine AllOps.cons (fun x u hC hT hp K hK => ?_) ?_
              · simp [KnownTill, Region.binds, VTb] at hp
                clear hT
                go_simp
                refine (HTR.out u hC).mono ?_
                rintro e wA ⟨rfl, rfl⟩
                refine hK _ _ _ hC (Below.refl _ _) (by exact rfl) ?_
                first | (simp only [Act.put, List.setIfInBounds_toArray, List.set_cons_succ, List.set_cons_zero, hp]; done) | simp [Act.put, hp]
              refine AllOps.cons (fun x u hC hT hp K hK => ?_) ?_
              · simp [KnownTill, Region.binds, VTb] at hp
                clear hT
                go_simp
                refine hK _ _ _ hC (Below.refl _ _) (by exact rfl) ?_
                first | (simp only [Act.put, List.setIfInBounds_toArray, List.set_cons_succ, List.set_cons_zero, hp]; done) | simp [Act.put, hp]
              refine AllOps.cons (fun x u hC hT hp K hK => ?_) ?_
              · simp [KnownTill, Region.binds, VTb] at hp
                clear hT
                go_simp
                refine hK _ _ _ hC (Below.refl _ _) (by exact (by first | exact rfl | simp)) ?_
                first | (simp only [Act.put, List.setIfInBounds_toArray, List.set_cons_succ, List.set_cons_zero, hp]; done) | simp [Act.put, hp]
              refine AllOps.cons (fun x u hC hT hp K hK => ?_) ?_
              · simp [KnownTill, Region.binds, VTb] at hp
                clear hT
                go_simp
                refine hK _ _ _ hC (Below.refl _ _) (by exact rfl) ?_
                first | (simp only [Act.put, List.setIfInBounds_toArray, List.set_cons_succ, List.set_cons_zero, hp]; done) | simp [Act.put, hp]
              exact AllOps.nil
            case finB2 =>
              intro x u10 hC hV
              have e106 : x 28 = .bool false := hV 28 (by decide) rfl
              rw [e106]
              clear e106
              clear hV
              have hraw3 := hraw.below hC hraw.lt
              have hbq3 := bt hbq hC
              clear hC hraw hbq HXB HTL HTF HTR kx
              go_wp2_with fail
              go_loopw [11] (fun i wr => ∃ (m : Nat) (L : List UInt8), m ≤ tl ∧ i = .int .i64 m ∧ Hid (L.length = tl) ∧ Raw wr gb 5 L ∧ Below u9.heap.size u9 wr) (fun i _ => tl - (intOf i).toNat)
              case atStart => exact ⟨0, _, Nat.zero_le _, rfl, Lib.hid HTl.out.symm, hraw3, hbq3⟩
              case round =>
                clear hraw3 hbq3
                obtain ⟨m, L, hm, rfl, hLl, hraw, hbr⟩ := hrel
                by_cases hmt : m < tl
                · have hmI : (m : Int) < (tl : Int) := by omega
                  have cc := hraw.cell m (by rw [hLl.out]; exact hmt)
                  have ff := hraw.frozen m
                  have hset := Lib.hid (And.intro (hraw.seven m) (hbr.setCell (p := ⟨gb, m, none⟩) (Nat.le_of_eq Hgb.out.symm) (.int .u8 7)))
                  have hLl2 : Hid ((L.set m 7).length = tl) := Lib.hid (by rw [List.length_set]; exact hLl.out)
                  have htb := HL.out
                  generalize (L[m]'(by rw [hLl.out]; exact hmt)) = zz at cc
                  clear hraw hbr
                  go_wp2
                  go_roundw
                  case rel => exact ⟨m + 1, _, by omega, by go_num, hLl2, hset.out.1, hset.out.2⟩
                  case measure => simp [intOf]; omega
                · have hmI : ¬ (m : Int) < (tl : Int) := by omega
                  have h4 := H2.out.1.below hbr
                  have hB4 := bt H2.out.2 hbr
                  clear hraw hbr
                  go_wp2
                  go_roundw
                  case rel => exact ⟨j + 1, O', N', by omega, by omega, by go_num, h4, hB4⟩
                  case measure => simp [intOf]; omega
      · have hj3I : ¬ (j : Int) < 30 := by omega
        have hjI : (j : Int) < (n : Int) := by omega
        go_wp2_with fail
        refine (alive_any _).mono ?_
        rintro e w5 ⟨rfl, hb5⟩
        have hB5 := bt hb hb5
        go_wp2
        go_ret
        exact ⟨rfl, hB5⟩
    · have hjI : ¬ (j : Int) < (n : Int) := by omega
      go_wp2_with fail
      refine (alive_any _).mono ?_
      rintro e w5 ⟨rfl, hb5⟩
      have hB5 := bt hb hb5
      go_wp2
      go_ret
      exact ⟨rfl, hB5⟩
set_option maxRecDepth 100000 in
set_option maxHeartbeats 2000000 in
theorem tapeLives_walk (room : Int) (A : Option Addr) (ops : List OpV) (c : Nat) (w : World) (g1 : -9223372036854775808 ≤ room) (g2 : room ≤ 9223372036854775807) (h : OpsAt w A ops) (hre : ∀ o ∈ ops, o.b.length ≤ 140737488355328) :
    Calls Try.prog 3 #[.int .i64 room, .slice A ops.length c] w fun e w' => e = .returned (.bool true) ∧ Below w.heap.size w w' := by
  by_cases hr : 1 ≤ room ∧ room ≤ 65536
  · obtain ⟨n, rfl⟩ := Int.eq_ofNat_of_zero_le (show 0 ≤ room by omega)
    exact tl_ok n A ops c w h hre (by omega) (by omega)
  · have Hb1 := Lib.hid (new_bad room w (by omega))
    have Hb2 := Lib.hid (rnew_bad room w (by omega))
    generalize ops.length = n
    clear h hre
    go_enter Try.func3, Try.ntmps3
    go_wp2_with fail
    refine Hb1.out.mono ?_
    rintro e w1 ⟨rfl, rfl⟩
    go_wp2_with fail
    refine Hb2.out.mono ?_
    rintro e w1 ⟨rfl, rfl⟩
    go_wp2_with fail
    refine wp_loop_rounds 1 ?_
    rw [rounds_succ]
    rcases Nat.eq_zero_or_pos n with h0 | h0
    · subst h0
      go_wp2_with fail
      refine (alive_any _).mono ?_
      rintro e w5 ⟨rfl, hb5⟩
      have hB5 := hb5
      go_wp2
      go_ret
      exact ⟨rfl, hB5⟩
    · have h0I : (0 : Int) < (n : Int) := by omega
      go_wp2_with fail
      refine (alive_any _).mono ?_
      rintro e w5 ⟨rfl, hb5⟩
      have hB5 := hb5
      go_wp2
      go_ret
      exact ⟨rfl, hB5⟩
end Go.Proofs.Ytpkplgnpbddcjaa
