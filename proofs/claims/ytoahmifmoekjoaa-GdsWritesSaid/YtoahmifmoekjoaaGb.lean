/- Layer 4: the variable at a text's front. -/
import Derived.Test.YtoahmifmoekjoaaGa
import Derived.Test.YtoahmifmoekjoaaBlk
import Derived.WalkMore
import Derived.ScopeJumps
namespace Go.Proofs.Ytoahmifmoekjoaa
open Go.RowKit
set_option linter.unusedVariables false
set_option linter.unusedSimpArgs false

/-- The ID that a variable's bytes begin with. -/
def idOf : List UInt8 → Nat
  | x :: y :: _ => num2 x y
  | _ => 0
/-- The rest of a variable: so many segments more; where it stands; its bytes so far. What comes: ID, data, bytes taken, error. -/
def nextGo (b : List UInt8) : Nat → Nat → List UInt8 → Nat → Nat × List UInt8 × Nat × Int
  | 0, _, _, _ => (0, [], 0, 5)
  | k + 1, at_, body, least =>
    if (frontR (b.drop at_) least).2.2 = 0 then
      (if 2050 < (body ++ (frontR (b.drop at_) least).1).length then (0, [], 0, 40)
       else if (frontR (b.drop at_) least).2.1 = true then (idOf (body ++ (frontR (b.drop at_) least).1), (body ++ (frontR (b.drop at_) least).1).drop 2, at_ + (2 + (frontR (b.drop at_) least).1.length), 0)
       else nextGo b k (at_ + (2 + (frontR (b.drop at_) least).1.length)) (body ++ (frontR (b.drop at_) least).1) 2)
    else (0, [], 0, (frontR (b.drop at_) least).2.2)
def nextR (b : List UInt8) := nextGo b 64 0 [] 4

/-- The slice (A, n) holds l, in blocks from base on. -/
def NewBs (w : World) (base : Nat) (A : Option Addr) (l : List UInt8) : Prop :=
  0 < l.length → ∃ b o, A = some ⟨b, o, none⟩ ∧ base ≤ b ∧ b < w.heap.size ∧ ∀ i, (h : i < l.length) → w.cell? ⟨b, o + i, none⟩ = some (.int .u8 ((l[i]'h).toNat : Int))
theorem NewBs.bs {w : World} {base : Nat} {A : Option Addr} {l : List UInt8} (h : NewBs w base A l) : Bs w w.heap.size A l := fun hn => by
  obtain ⟨b, o, e, _, h1, h2⟩ := h hn; exact ⟨b, o, e, h1, h2⟩

def NextOut (w : World) (r : Nat × List UInt8 × Nat × Int) (e : Ending) (w' : World) : Prop :=
  ∃ A c, e = .returned (.tuple #[.agg #[.int .i64 r.1, .slice A r.2.1.length c], .int .i64 r.2.2.1, .int .i64 r.2.2.2]) ∧ NewBs w' w.heap.size A r.2.1 ∧ Below w.heap.size w w' ∧ r.2.1.length ≤ c ∧ c ≤ 9223372036854775807

structure NextJ (A : Option Addr) (b : List UInt8) (c : Nat) (w : World) (R : Nat × List UInt8 × Nat × Int) (a' : Act) (w' : World) (k at_ cnt least : Nat) (body : List UInt8) (Ab : Option Addr) (cb : Nat) : Prop where
  hk : k + cnt = 64
  k1 : 1 ≤ k
  hat : at_ ≤ b.length
  hl : least = 4 ∧ body = [] ∨ least = 2 ∧ 2 ≤ body.length
  hbl : body.length ≤ 2050
  hR : R = nextGo b k at_ body least
  own : Own w' (w.heap.size + 1) 5 Ab cb body
  res : Blk w' w.heap.size 24 #[.int .i64 0, .slice none 0 0]
  bel : Below w.heap.size w w'
  frame : ∃ (bn : Nat) (ai ci : Int) (u1 u9 u10 u11 u12 u13 u14 u15 u16 u17 u18 u19 u20 u21 u22 u23 u24 u25 u26 u27 u28 u29 u30 u31 u32 u33 u34 u35 u36 u37 u38 u39 u40 u41 u42 u43 u44 u45 u46 u47 u48 u49 u50 u51 u52 : Value), bn = body.length ∧ ai = (at_ : Int) ∧ ci = (cnt : Int) ∧ a' = { tmps := #[.slice A b.length c, u1, .pointer (some ⟨w.heap.size, 0, none⟩), .int .i64 0, .int .i64 0, .slice Ab bn cb, .int .i64 ai, .int .i64 ci, .int .i64 least, u9, u10, u11, u12, u13, u14, u15, u16, u17, u18, u19, u20, u21, u22, u23, u24, u25, u26, u27, u28, u29, u30, u31, u32, u33, u34, u35, u36, u37, u38, u39, u40, u41, u42, u43, u44, u45, u46, u47, u48, u49, u50, u51, u52], defers := [] }

/-- The result's cells hold the variable. -/
def VarIn (w : World) (R base : Nat) (idv : Nat) (D : List UInt8) : Prop := ∃ A3 c3, Blk w R 24 #[.int .i64 idv, .slice A3 D.length c3] ∧ NewBs w base A3 D ∧ D.length ≤ c3 ∧ c3 ≤ 9223372036854775807
def VN (R base : Nat) (Ab : Option Addr) (bn cb idv : Nat) (ai : Int) (D : List UInt8) (i : Nat) (v : Value) (w : World) : Prop :=
  match i with
  | 0 => v = .slice Ab bn cb
  | 1 => v = .int .i64 idv
  | 2 => v = .slice Ab bn cb
  | 3 => ∃ A3 c3, v = .slice A3 D.length c3 ∧ NewBs w base A3 D ∧ D.length ≤ c3 ∧ c3 ≤ 9223372036854775807
  | 4 => ∃ A3 c3, v = .agg #[.int .i64 idv, .slice A3 D.length c3] ∧ NewBs w base A3 D ∧ D.length ≤ c3 ∧ c3 ≤ 9223372036854775807
  | 6 => VarIn w R base idv D
  | 8 => v = .int .i64 0
  | _ => v = .int .i64 ai
theorem NewBs.kept {w w' : World} {base R : Nat} {A : Option Addr} {l : List UInt8} (h : NewBs w base A l) (hg : w.grownBy w' (some R)) (hR : R < base) : NewBs w' base A l := fun hn => by
  obtain ⟨b, o, e, h1, h2, h3⟩ := h hn
  refine ⟨b, o, e, h1, Nat.lt_of_lt_of_le h2 hg.size, fun i hi => ?_⟩
  have hb := hg.block b h2 (by simp; omega)
  rw [← h3 i hi]
  unfold World.cell?
  simp only [hb]

theorem wp_scope_loop {P : Program} {a : Act} {w : World} {Q : Exit → Act → World → Prop} {c rest : Code} (l : Nat) (J : Act → World → Prop) (μ : Act → World → Nat) (hf : findLabel c l = some (Code.skip.seq rest))
    (init : ∀ Q' : Exit → Act → World → Prop, (∀ a w, J a w → rest.wp P Q' a w) → c.wp P Q' a w)
    (pass : ∀ a w, J a w → rest.wp P (Exit.jump l (fun a' w' => J a' w' ∧ μ a' w' < μ a w) Q) a w) : (Code.scope c).wp P Q a w :=
  wp_scope_jumps l J μ hf (init _ fun a w hJ => Go.wp_mono (pass a w hJ) fun e a w h => by
    cases e <;> first | exact h | exact ⟨h.1, h.2.1⟩) (fun a w hJ => wp_seq (wp_skip (pass a w hJ)))

theorem front_at (A : Option Addr) (l : List UInt8) (n c least : Nat) (w : World) (hn : n = l.length) (hle : n ≤ c) (hm : c ≤ 9223372036854775807) (hs : Bs w w.heap.size A l) (h2 : 2 ≤ least) (h3 : least ≤ 4) :
    Calls Try.prog 23 #[.slice A n c, .int .i64 least] w (FrontOut w w.heap.size (frontR l least)) := by
  subst hn; exact front_any A l c least w hle hm hs h2 h3
theorem bs_dropM {w : World} {B : Nat} {A : Option Addr} {l : List UInt8} (h : Bs w B A l) (n : Nat) : Bs w B (A.map fun x => x.add n) (l.drop n) := fun hn => by
  rw [List.length_drop] at hn
  obtain ⟨b, o, e, hb⟩ := bs_drop h n (by omega)
  subst e
  rw [Option.map_some, Addr.add_lit]
  exact hb (by rw [List.length_drop]; omega)
theorem frontR_err (l : List UInt8) (least : Nat) : (frontR l least).2.2 = 0 ∨ (frontR l least).2.2 = 11 ∨ (frontR l least).2.2 = 40 := by
  rcases l with _ | ⟨x, _ | ⟨y, t⟩⟩
  · exact .inr (.inl rfl)
  · exact .inr (.inl rfl)
  · rw [frontR_cons]; split
    · exact .inr (.inr rfl)
    · split
      · exact .inr (.inl rfl)
      · exact .inl rfl
theorem frontR_len (l : List UInt8) (least : Nat) (h : (frontR l least).2.2 = 0) (h2 : 2 ≤ least) : (frontR l least).1.length + 2 ≤ l.length ∧ least ≤ (frontR l least).1.length + 2 ∧ (frontR l least).1.length < 32768 := by
  rcases l with _ | ⟨x, _ | ⟨y, t⟩⟩
  · cases h
  · cases h
  · rw [frontR_cons] at h ⊢
    split at h
    · cases h
    · split at h
      · cases h
      · rename_i g1 g2
        rw [if_neg g1, if_neg g2]
        simp only [List.length_drop, List.length_take]
        omega

theorem number_at (A : Option Addr) (x y : UInt8) (l : List UInt8) (n c : Nat) (w : World) (hn : n = (x :: y :: l).length) (hm : (x :: y :: l).length ≤ 9223372036854775807) (h : Bs w w.heap.size A (x :: y :: l)) :
    Calls Try.prog 24 #[.slice A n c] w fun e w' => e = .returned (.int .i64 (num2 x y)) ∧ ∃ n, w' = w.drewN n := by
  subst hn; exact number_any A x y l c w hm h
theorem gset (w : World) (p i : Nat) (v : Value) : w.grownBy (w.setCell ⟨p, i, none⟩ v) (some p) :=
  ⟨rfl, rfl, rfl, by simp [World.setCell], fun k _ hk => Below.heap_setCell w _ v k (fun e => hk (by simp [e]))⟩
theorem gtrans {a b c : World} {row : Option Nat} (h : a.grownBy b row) (k : b.grownBy c row) : a.grownBy c row :=
  ⟨k.os.trans h.os, k.tape.trans h.tape, k.output.trans h.output, Nat.le_trans h.size k.size, fun i hi hn => (k.block i (Nat.lt_of_lt_of_le hi h.size) hn).trans (h.block i hi hn)⟩
theorem own_new {w : World} {base : Nat} {e : TypeId} {g c : Nat} {L : List UInt8} (h : Own w base e (some ⟨g, 0, none⟩) c L) : NewBs w base (some ⟨g, 2, none⟩) (L.drop 2) := fun hn => by
  rw [List.length_drop] at hn
  refine ⟨g, 2, rfl, (h.lt g rfl).1, (h.lt g rfl).2, fun i hi => ?_⟩
  rw [List.length_drop] at hi
  rw [h.cell (2 + i) (by omega), List.getElem_drop]
def CN (w : World) (A : Option Addr) (c : Nat) (L : List UInt8) (u : World) : Prop := Below w.heap.size w u ∧ Own u (w.heap.size + 1) 5 A c L ∧ ∃ c0 c1, Blk u w.heap.size 24 #[c0, c1]
def EN (R base idv : Nat) (D : List UInt8) (u u' : World) : Prop := u.grownBy u' (some R) ∧ (VarIn u R base idv D → VarIn u' R base idv D)
theorem VN.mono {R : Nat} {Ab : Option Addr} {bn cb idv : Nat} {ai : Int} {D : List UInt8} {i : Nat} {v : Value} {u u' : World} (he : EN R (R + 1) idv D u u') (hv : VN R (R + 1) Ab bn cb idv ai D i v u) : VN R (R + 1) Ab bn cb idv ai D i v u' := by
  unfold VN at hv ⊢
  split at hv <;> first
    | exact hv
    | (obtain ⟨A, c, e, hr, h1⟩ := hv; exact ⟨A, c, e, hr.kept he.1 (by omega), h1⟩)
    | exact he.2 hv

set_option maxHeartbeats 1000000 in
theorem next_any (A : Option Addr) (b : List UInt8) (c : Nat) (w : World) (hle : b.length ≤ c) (hm : c ≤ 9223372036854775807) (hs : Bs w w.heap.size A b) :
    Calls Try.prog 15 #[.slice A b.length c] w (NextOut w (nextR b)) := by
  obtain ⟨R, hR⟩ : ∃ R, R = nextR b := ⟨_, rfl⟩
  rw [← hR]
  have HR := Lib.hid hR
  clear hR
  go_enter Try.func15, Try.ntmps15
  go_wp2
  refine wp_scope_loop 0 (fun a' w' => ∃ k at_ cnt least body Ab cb, NextJ A b c w R a' w' k at_ cnt least body Ab cb) (fun a' _ => 64 - (intOf (a'.tmps.getD 7 undef)).toNat) rfl ?_ ?_
  · intro Q' hQ
    go_wp2
    go_step3
    rename_i K hK
    refine hK _ _ (hQ _ _ ⟨64, 0, 0, 4, [], none, 0, ⟨rfl, by omega, Nat.zero_le _, .inl ⟨rfl, rfl⟩, by simp, HR.out, Own.nil, Blk.new _ _ _, ba _ _, ?_⟩⟩)
    repeat (apply Exists.intro)
    exact ⟨rfl, rfl, rfl, rfl⟩
  · rintro a' w' ⟨k, at_, cnt, least, body, Ab, cb, hJ⟩
    obtain ⟨hk, k1, hat, hl, hbl, hR, own, res, bel, hfr⟩ := hJ
    obtain ⟨bn, ai, ci, u1, u9, u10, u11, u12, u13, u14, u15, u16, u17, u18, u19, u20, u21, u22, u23, u24, u25, u26, u27, u28, u29, u30, u31, u32, u33, u34, u35, u36, u37, u38, u39, u40, u41, u42, u43, u44, u45, u46, u47, u48, u49, u50, u51, u52, rfl, rfl, rfl, rfl⟩ := hfr
    obtain ⟨k, rfl⟩ : ∃ q, k = q + 1 := ⟨k - 1, by omega⟩
    have hbd := (hs.below bel).more bel.size
    obtain ⟨l2, l4⟩ : 2 ≤ least ∧ least ≤ 4 := by rcases hl with ⟨h, _⟩ | ⟨h, _⟩ <;> omega
    have he := frontR_err (b.drop at_) least
    have hp := frontR_len (b.drop at_) least
    obtain ⟨r, hr⟩ : ∃ r, r = frontR (b.drop at_) least := ⟨_, rfl⟩
    have hcall := fun (A1 : Option Addr) (n c1 : Nat) (h1 : n = (b.drop at_).length) (h2 : n ≤ c1) (h3 : c1 ≤ 9223372036854775807) (h4 : Bs w' w'.heap.size A1 (b.drop at_)) => front_at A1 (b.drop at_) n c1 least w' h1 h2 h3 h4 l2 l4
    rw [nextGo] at hR
    rw [← hr] at he hp hR hcall
    clear hr
    have hbl0 : (b.drop at_).length = b.length - at_ := List.length_drop
    have Hbl0 := Lib.hid hbl0
    have hdd := bs_dropM hbd at_
    have hd0 : b.length - at_ = 0 → Bs w' w'.heap.size A (b.drop at_) := fun h => by rw [List.eq_nil_of_length_eq_zero (hbl0.trans h)]; exact Bs.nil
    rw [hbl0] at hp
    have Hp := Lib.hid hp
    have Hd0 := Lib.hid hd0
    clear hp hbl0 hd0
    obtain ⟨p, last, e0⟩ := r
    simp only at he hR
    have HR1 := Lib.hid hR
    have Hcall := Lib.hid hcall
    have Hl := Lib.hid hl
    clear hR HR hcall hl
    by_cases h0 : e0 = 0
    · subst h0
      have HR2 : Hid (R = if 2050 < (body ++ p).length then (0, [], 0, 40) else if last = true then (idOf (body ++ p), (body ++ p).drop 2, at_ + (2 + p.length), 0) else nextGo b k (at_ + (2 + p.length)) (body ++ p) 2) := Lib.hid (by rw [HR1.out, if_pos rfl])
      obtain ⟨hp1, hp2, hp3⟩ := Hp.out rfl l2
      have hca : ¬ c = at_ := by omega
      obtain ⟨i0, hi, hz0, hz1, hz2⟩ := info_parts Try.infoU8
      clear HR1 Hp he
      by_cases hbig : 2050 < body.length + p.length
      · have Heq : Hid (R = (0, [], 0, 40)) := Lib.hid (by rw [HR2.out, if_pos (by simpa using hbig)])
        clear HR2
        go_wp2_with fail
        refine (Hcall.out (A.map fun x => x.add at_) (b.length - at_) (c - at_) Hbl0.out.symm (by omega) (by omega) hdd).mono ?_
        rintro e w1 ⟨A1, c1, rfl, hbs1, hb1⟩
        have hres1 := (res.below hb1 res.lt).alloc (.cells #[.slice A1 p.length c1, .bool last] 51)
        have r0 := hres1.cell 0
        have r1 := hres1.cell 1
        have f0 := hres1.frozen 0
        have f1 := hres1.frozen 1
        simp only [List.getElem?_toArray, List.getElem?_cons_zero, List.getElem?_cons_succ] at r0 r1
        have hbel1 := (bt bel hb1).alloc (bt bel hb1).size (.cells #[.slice A1 p.length c1, .bool last] 51)
        have own2 := (own.below hb1 (Nat.le_refl _)).alloc (.cells #[.slice A1 p.length c1, .bool last] 51)
        have hbs2 := hbs1.below ((ba w1 (.cells #[.slice A1 p.length c1, .bool last] 51)).mono hb1.size)
        have hseg1 := Blk.new w1 51 #[.slice A1 p.length c1, .bool last]
        go_wp2_with (at_builtin; refine wpList_append_bs _ rfl (.tmp 23) (.tmp 25) 22 rfl (w.heap.size + 1) 5 i0 _ Try.underlying22 hi hz0 hz1 hz2 rfl Ab cb body body.length rfl rfl own2 _ A1 c1 p p.length rfl rfl hbs2 (by omega) (by have := bel.size; have := hb1.size; have := res.lt; simp; omega) ?_; intro Ab2 cb2 w2 own3 hg2 hblk2; have hres2 := hres1.kept hg2 (fun e => by have := (own.lt _ e.symm).1; omega); have hseg2 := hseg1.kept hg2 (fun e => by have := (own.lt _ e.symm).2; have := hb1.size; omega); have hbel2 := hbel1.grown hg2 hbel1.size (fun k e => by have := (own.lt _ e).1; omega); clear r0 r1 f0 f1; have r0 := hres2.cell 0; have r1 := hres2.cell 1; have f0 := hres2.frozen 0; have f1 := hres2.frozen 1; have s0 := hseg2.cell 0; have s1 := hseg2.cell 1; simp only [List.getElem?_toArray, List.getElem?_cons_zero, List.getElem?_cons_succ] at r0 r1 s0 s1; clear hres1 hseg1 hbel1 own2 hbs2)
        have hfin := (hres2.set_ 0 (.int .i64 0)).set_ 1 (.slice none 0 0)
        have q0 := hfin.cell 0
        have q1 := hfin.cell 1
        simp at q0 q1
        try simp only [Exit.jump]

        refine bodyPost_ret (by simp [results, Try.results15, go_sem, q0, q1]; rfl) rfl ?_
        refine ⟨none, 0, by rw [Heq.out]; rfl, fun h => absurd h (by rw [Heq.out]; simp), ?_, by rw [Heq.out]; simp, by omega⟩
        exact (hbel2.setCell (Nat.le_refl _) _).setCell (Nat.le_refl _) _
      · have hbig' : ¬ 2050 < (body ++ p).length := by simpa using hbig
        by_cases hla : last = true
        · subst hla
          have Heq : Hid (R = (idOf (body ++ p), (body ++ p).drop 2, at_ + (2 + p.length), 0)) := Lib.hid (by rw [HR2.out, if_neg hbig', if_pos rfl])
          clear HR2
          go_wp2_with fail
          refine (Hcall.out (A.map fun x => x.add at_) (b.length - at_) (c - at_) Hbl0.out.symm (by omega) (by omega) hdd).mono ?_
          rintro e w1 ⟨A1, c1, rfl, hbs1, hb1⟩
          have hres1 := (res.below hb1 res.lt).alloc (.cells #[.slice A1 p.length c1, .bool true] 51)
          have r0 := hres1.cell 0
          have r1 := hres1.cell 1
          have f0 := hres1.frozen 0
          have f1 := hres1.frozen 1
          simp only [List.getElem?_toArray, List.getElem?_cons_zero, List.getElem?_cons_succ] at r0 r1
          have hbel1 := (bt bel hb1).alloc (bt bel hb1).size (.cells #[.slice A1 p.length c1, .bool true] 51)
          have own2 := (own.below hb1 (Nat.le_refl _)).alloc (.cells #[.slice A1 p.length c1, .bool true] 51)
          have hbs2 := hbs1.below ((ba w1 (.cells #[.slice A1 p.length c1, .bool true] 51)).mono hb1.size)
          have hseg1 := Blk.new w1 51 #[.slice A1 p.length c1, .bool true]
          go_wp2_with (first
            | (at_builtin; refine wpList_append_bs _ rfl (.tmp 23) (.tmp 25) 22 rfl (w.heap.size + 1) 5 i0 _ Try.underlying22 hi hz0 hz1 hz2 rfl Ab cb body body.length rfl rfl own2 _ A1 c1 p p.length rfl rfl hbs2 (by omega) (by have := bel.size; have := hb1.size; have := res.lt; simp; omega) ?_
               intro Ab2 cb2 w2 own3 hg2 hblk2
               have hres2 := hres1.kept hg2 (fun e => by have := (own.lt _ e.symm).1; omega)
               have hseg2 := hseg1.kept hg2 (fun e => by have := (own.lt _ e.symm).2; have := hb1.size; omega)
               have hbel2 := hbel1.grown hg2 hbel1.size (fun k e => by have := (own.lt _ e).1; omega)
               clear r0 r1 f0 f1
               have r0 := hres2.cell 0
               have r1 := hres2.cell 1
               have f0 := hres2.frozen 0
               have f1 := hres2.frozen 1
               have s0 := hseg2.cell 0
               have s1 := hseg2.cell 1
               simp only [List.getElem?_toArray, List.getElem?_cons_zero, List.getElem?_cons_succ] at r0 r1 s0 s1
               clear hres1 hseg1 hbel1 own2 hbs2)
            | fail)
          have hlen2 : 2 ≤ (body ++ p).length := by
            rcases Hl.out with ⟨h1, h2⟩ | ⟨h1, h2⟩
            · simp only [List.length_append]; omega
            · simp only [List.length_append]; omega
          obtain ⟨g, rfl, hg1, hg3, hg4, hg5⟩ := own3.form (by omega)
          obtain ⟨x0, y0, t0, hxy⟩ : ∃ x y t, body ++ p = x :: y :: t := by
            rcases hL : body ++ p with _ | ⟨x, _ | ⟨y, t⟩⟩
            · rw [hL] at hlen2; simp at hlen2
            · rw [hL] at hlen2; simp at hlen2
            · exact ⟨x, y, t, rfl⟩
          have hidv : idOf (body ++ p) = num2 x0 y0 := by rw [hxy]; rfl
          have Hxy := Lib.hid hxy
          have Hidv := Lib.hid hidv
          rw [List.length_append] at hg4 hlen2
          unfold maxLen at hg5
          clear hxy hidv
          refine wp_region_inv (F := ?F) (V := VN w.heap.size (w.heap.size + 1) (some ⟨g, 0, none⟩) (body.length + p.length) cb2 (idOf (body ++ p)) ((at_ : Int) + (2 + p.length)) ((body ++ p).drop 2)) (C := fun u => CN w (some ⟨g, 0, none⟩) cb2 (body ++ p) u) (E := EN w.heap.size (w.heap.size + 1) (idOf (body ++ p)) ((body ++ p).drop 2)) (by kernel_rfl) (by kernel_rfl) (by kernel_rfl) (fun x => ?hF) ?hmono ?hC ?step ?fin
          case hF => simp only [mkA, Act.put, List.setIfInBounds_toArray, List.set_cons_succ, List.set_cons_zero, Nat.reduceAdd, Nat.zero_add]; with_reducible rfl
          case hmono =>
            exact fun i v u u' he hv => VN.mono he hv
          case hC => exact ⟨bt hbel2 (gr_drew _), own3.drew, _, _, hres2⟩
          case step =>
            refine AllOps.cons (fun x u hC hp K hK => ?_) ?_
            · simp [Known, Region.binds, VN] at hp
              go_simp
              refine hK _ _ _ hC ⟨World.grownBy.refl _ _, fun h => h⟩ (by exact rfl) ?_
              simp only [Act.put, List.setIfInBounds_toArray, List.set_cons_succ, List.set_cons_zero, hp]
            refine AllOps.cons (fun x u hC hp K hK => ?_) ?_
            · simp [Known, Region.binds, VN] at hp
              go_simp
              refine (number_at _ x0 y0 t0 _ _ u (by rw [← List.length_append, Hxy.out]) (by rw [← Hxy.out]; simp; omega) (by rw [← Hxy.out]; exact hC.2.1.bs)).mono ?_
              rintro e wA ⟨rfl, nq, rfl⟩
              refine hK _ _ _ ⟨bt hC.1 (bl_drewN _ nq), hC.2.1.drewN nq, hC.2.2⟩ ⟨⟨rfl, rfl, rfl, Nat.le_refl _, fun _ _ _ => rfl⟩, fun h => h⟩ (by show _ = _; rw [Hidv.out]) ?_
              simp only [Act.put, List.setIfInBounds_toArray, List.set_cons_succ, List.set_cons_zero, hp, Hidv.out]
            refine AllOps.cons (fun x u hC hp K hK => ?_) ?_
            · simp [Known, Region.binds, VN] at hp
              go_simp
              refine hK _ _ _ hC ⟨World.grownBy.refl _ _, fun h => h⟩ (by exact rfl) ?_
              simp only [Act.put, List.setIfInBounds_toArray, List.set_cons_succ, List.set_cons_zero, hp]
            refine AllOps.cons (fun x u hC hp K hK => ?_) ?_
            · simp [Known, Region.binds, VN] at hp
              have hDl : ((body ++ p).drop 2).length = body.length + p.length - 2 := by simp
              have HDl := Lib.hid hDl
              clear hDl
              have hl2 : (2 : Int) ≤ (body.length : Int) + (p.length : Int) := by omega
              by_cases hc2 : cb2 = 2
              · subst hc2
                have h20 : body.length + p.length - 2 = 0 := by omega
                have H20 := Lib.hid h20
                clear h20
                go_simp
                refine hK (.slice (some ⟨g, 0, none⟩) 0 0) _ _ hC ⟨World.grownBy.refl _ _, fun h => h⟩ ⟨_, 0, by rw [HDl.out, H20.out], fun h => absurd h (by rw [HDl.out, H20.out]; simp), by rw [HDl.out, H20.out]; omega, by omega⟩ ?_
                simp [Act.put, hp]
              · go_simp
                refine hK (.slice (some ⟨g, 2, none⟩) (body.length + p.length - 2) (cb2 - 2)) _ _ hC ⟨World.grownBy.refl _ _, fun h => h⟩ ⟨_, _, by rw [HDl.out], own_new hC.2.1, by rw [HDl.out]; omega, by omega⟩ ?_
                simp [Act.put, hp]
            refine AllOps.cons (fun x u hC hp K hK => ?_) ?_
            · simp [Known, Region.binds, VN] at hp
              obtain ⟨h1, A3, c3, h3, hn3, hl3, hm3⟩ := hp
              go_simp
              refine hK (.agg #[.int .i64 (idOf (body ++ p)), .slice A3 ((body ++ p).drop 2).length c3]) _ _ hC ⟨World.grownBy.refl _ _, fun h => h⟩ ⟨A3, c3, rfl, hn3, by simp; omega, hm3⟩ ?_
              simp [Act.put, h1, h3]
            refine AllOps.cons (fun x u hC hp K hK => ?_) ?_
            · clear hp
              go_simp
              refine hK _ _ _ hC ⟨World.grownBy.refl _ _, fun h => h⟩ (by exact rfl) ?_
              simp only [Act.put, List.setIfInBounds_toArray, List.set_cons_succ, List.set_cons_zero]
            refine AllOps.cons (fun x u hC hp K hK => ?_) ?_
            · obtain ⟨A3, c3, h4, hn3, hl3, hm3⟩ := hp.1 rfl
              clear hp
              obtain ⟨hC1, hC2, d0, d1, hblk⟩ := hC
              have r0 := hblk.cell 0
              have r1 := hblk.cell 1
              have f0 := hblk.frozen 0
              have f1 := hblk.frozen 1
              simp only [List.getElem?_toArray, List.getElem?_cons_zero, List.getElem?_cons_succ] at r0 r1
              have hDl : ((body ++ p).drop 2).length = body.length + p.length - 2 := by simp
              have hgr := gtrans (gset u w.heap.size 0 (.int .i64 (idOf (body ++ p)))) (gset _ w.heap.size 1 (.slice A3 (body.length + p.length - 2) c3))
              have hbl2 : Blk ((u.setCell ⟨w.heap.size, 0, none⟩ (.int .i64 (idOf (body ++ p)))).setCell ⟨w.heap.size, 1, none⟩ (.slice A3 (body.length + p.length - 2) c3)) w.heap.size 24 #[.int .i64 (idOf (body ++ p)), .slice A3 (body.length + p.length - 2) c3] := by
                simpa using (hblk.set_ 0 (.int .i64 (idOf (body ++ p)))).set_ 1 (.slice A3 (body.length + p.length - 2) c3)
              have hvar : VarIn ((u.setCell ⟨w.heap.size, 0, none⟩ (.int .i64 (idOf (body ++ p)))).setCell ⟨w.heap.size, 1, none⟩ (.slice A3 (body.length + p.length - 2) c3)) w.heap.size (w.heap.size + 1) (idOf (body ++ p)) ((body ++ p).drop 2) :=
                ⟨A3, c3, by rw [hDl]; exact hbl2, hn3.kept hgr (by omega), hl3, hm3⟩
              clear hDl
              go_simp
              refine hK undef _ _ ⟨(hC1.setCell (Nat.le_refl _) _).setCell (Nat.le_refl _) _, hC2.kept hgr (.inr (fun e => by simp only [blk, Option.map_some, Option.some.injEq] at e; omega)), _, _, hbl2⟩ ⟨hgr, fun _ => hvar⟩ hvar ?_
              simp [Act.put, h4]
            refine AllOps.cons (fun x u hC hp K hK => ?_) ?_
            · have h5 : x 5 = .int .i64 ((at_ : Int) + (2 + p.length)) := hp.1 rfl
              clear hp
              go_simp
              refine hK _ _ _ hC ⟨World.grownBy.refl _ _, fun h => h⟩ (by exact rfl) ?_
              simp only [Act.put, List.setIfInBounds_toArray, List.set_cons_succ, List.set_cons_zero, h5]
            refine AllOps.cons (fun x u hC hp K hK => ?_) ?_
            · clear hp
              go_simp
              refine hK _ _ _ hC ⟨World.grownBy.refl _ _, fun h => h⟩ (by exact rfl) ?_
              simp only [Act.put, List.setIfInBounds_toArray, List.set_cons_succ, List.set_cons_zero]
            exact AllOps.nil
          case fin =>
            intro x u hC hV
            have h6 : VarIn u w.heap.size (w.heap.size + 1) (idOf (body ++ p)) ((body ++ p).drop 2) := allV_at hV 6 (by decide)
            have h7 : x 7 = .int .i64 ((at_ : Int) + (2 + p.length)) := allV_at hV 7 (by decide)
            have h8 : x 8 = .int .i64 0 := allV_at hV 8 (by decide)
            rw [h7, h8]
            clear hV h7 h8
            obtain ⟨A3, c3, hblk, hn3, hl3, hm3⟩ := h6
            have q0 := hblk.cell 0
            have q1 := hblk.cell 1
            simp only [List.getElem?_toArray, List.getElem?_cons_zero, List.getElem?_cons_succ] at q0 q1
            go_wp2
            try simp only [Exit.jump]
            refine bodyPost_ret (by simp [results, Try.results15, go_sem, q0, q1]; rfl) rfl ?_
            refine ⟨A3, c3, by rw [Heq.out]; simp, ?_, hC.1, by rw [Heq.out]; exact hl3, hm3⟩
            rw [Heq.out]
            exact fun hn => by obtain ⟨b, o, e, h1, h2⟩ := hn3 hn; exact ⟨b, o, e, by omega, h2⟩
        · have hlf : last = false := by simpa using hla
          subst hlf
          have HR3 : Hid (R = nextGo b k (at_ + (2 + p.length)) (body ++ p) 2) := Lib.hid (by rw [HR2.out, if_neg hbig', if_neg (by simp)])
          clear HR2
          by_cases hk0 : k = 0
          · subst hk0
            have Heq : Hid (R = (0, [], 0, 5)) := Lib.hid (by rw [HR3.out]; rfl)
            have hc64 : (((cnt : Int) + 1) == 64) = true := beq_iff_eq.2 (by omega)
            clear HR3
            go_wp2_with fail
            refine (Hcall.out (A.map fun x => x.add at_) (b.length - at_) (c - at_) Hbl0.out.symm (by omega) (by omega) hdd).mono ?_
            rintro e w1 ⟨A1, c1, rfl, hbs1, hb1⟩
            have hres1 := (res.below hb1 res.lt).alloc (.cells #[.slice A1 p.length c1, .bool false] 51)
            have r0 := hres1.cell 0
            have r1 := hres1.cell 1
            have f0 := hres1.frozen 0
            have f1 := hres1.frozen 1
            simp only [List.getElem?_toArray, List.getElem?_cons_zero, List.getElem?_cons_succ] at r0 r1
            have hbel1 := (bt bel hb1).alloc (bt bel hb1).size (.cells #[.slice A1 p.length c1, .bool false] 51)
            have own2 := (own.below hb1 (Nat.le_refl _)).alloc (.cells #[.slice A1 p.length c1, .bool false] 51)
            have hbs2 := hbs1.below ((ba w1 (.cells #[.slice A1 p.length c1, .bool false] 51)).mono hb1.size)
            have hseg1 := Blk.new w1 51 #[.slice A1 p.length c1, .bool false]
            go_wp2_with (first
              | (at_builtin; refine wpList_append_bs _ rfl (.tmp 23) (.tmp 25) 22 rfl (w.heap.size + 1) 5 i0 _ Try.underlying22 hi hz0 hz1 hz2 rfl Ab cb body body.length rfl rfl own2 _ A1 c1 p p.length rfl rfl hbs2 (by omega) (by have := bel.size; have := hb1.size; have := res.lt; simp; omega) ?_
                 intro Ab2 cb2 w2 own3 hg2 hblk2
                 have hres2 := hres1.kept hg2 (fun e => by have := (own.lt _ e.symm).1; omega)
                 have hseg2 := hseg1.kept hg2 (fun e => by have := (own.lt _ e.symm).2; have := hb1.size; omega)
                 have hbel2 := hbel1.grown hg2 hbel1.size (fun k e => by have := (own.lt _ e).1; omega)
                 clear r0 r1 f0 f1
                 have r0 := hres2.cell 0
                 have r1 := hres2.cell 1
                 have f0 := hres2.frozen 0
                 have f1 := hres2.frozen 1
                 have s0 := hseg2.cell 0
                 have s1 := hseg2.cell 1
                 simp only [List.getElem?_toArray, List.getElem?_cons_zero, List.getElem?_cons_succ] at r0 r1 s0 s1
                 clear hres1 hseg1 hbel1 own2 hbs2)
              | fail)
            have hfin := (hres2.set_ 0 (.int .i64 0)).set_ 1 (.slice none 0 0)
            have q0 := hfin.cell 0
            have q1 := hfin.cell 1
            simp at q0 q1
            try simp only [Exit.jump]
            refine bodyPost_ret (by simp [results, Try.results15, go_sem, q0, q1]; rfl) rfl ?_
            refine ⟨none, 0, by rw [Heq.out]; rfl, fun h => absurd h (by rw [Heq.out]; simp), ?_, by rw [Heq.out]; simp, by omega⟩
            exact (hbel2.setCell (Nat.le_refl _) _).setCell (Nat.le_refl _) _
          · have hc64 : (((cnt : Int) + 1) == 64) = false := beq_eq_false_iff_ne.2 (by omega)
            go_wp2_with fail
            refine (Hcall.out (A.map fun x => x.add at_) (b.length - at_) (c - at_) Hbl0.out.symm (by omega) (by omega) hdd).mono ?_
            rintro e w1 ⟨A1, c1, rfl, hbs1, hb1⟩
            have hres1 := (res.below hb1 res.lt).alloc (.cells #[.slice A1 p.length c1, .bool false] 51)
            have r0 := hres1.cell 0
            have r1 := hres1.cell 1
            have f0 := hres1.frozen 0
            have f1 := hres1.frozen 1
            simp only [List.getElem?_toArray, List.getElem?_cons_zero, List.getElem?_cons_succ] at r0 r1
            have hbel1 := (bt bel hb1).alloc (bt bel hb1).size (.cells #[.slice A1 p.length c1, .bool false] 51)
            have own2 := (own.below hb1 (Nat.le_refl _)).alloc (.cells #[.slice A1 p.length c1, .bool false] 51)
            have hbs2 := hbs1.below ((ba w1 (.cells #[.slice A1 p.length c1, .bool false] 51)).mono hb1.size)
            have hseg1 := Blk.new w1 51 #[.slice A1 p.length c1, .bool false]
            go_wp2_with (first
              | (at_builtin; refine wpList_append_bs _ rfl (.tmp 23) (.tmp 25) 22 rfl (w.heap.size + 1) 5 i0 _ Try.underlying22 hi hz0 hz1 hz2 rfl Ab cb body body.length rfl rfl own2 _ A1 c1 p p.length rfl rfl hbs2 (by omega) (by have := bel.size; have := hb1.size; have := res.lt; simp; omega) ?_
                 intro Ab2 cb2 w2 own3 hg2 hblk2
                 have hres2 := hres1.kept hg2 (fun e => by have := (own.lt _ e.symm).1; omega)
                 have hseg2 := hseg1.kept hg2 (fun e => by have := (own.lt _ e.symm).2; have := hb1.size; omega)
                 have hbel2 := hbel1.grown hg2 hbel1.size (fun k e => by have := (own.lt _ e).1; omega)
                 clear r0 r1 f0 f1
                 have r0 := hres2.cell 0
                 have r1 := hres2.cell 1
                 have f0 := hres2.frozen 0
                 have f1 := hres2.frozen 1
                 have s0 := hseg2.cell 0
                 have s1 := hseg2.cell 1
                 simp only [List.getElem?_toArray, List.getElem?_cons_zero, List.getElem?_cons_succ] at r0 r1 s0 s1
                 clear hres1 hseg1 hbel1 own2 hbs2)
              | fail)
            go_step3
            refine ⟨rfl, ⟨k, at_ + (2 + p.length), cnt + 1, 2, body ++ p, Ab2, cb2, ⟨by omega, by omega, by omega, .inr ⟨rfl, ?_⟩, by simp; omega, HR3.out, own3, hres2, hbel2, ?_⟩⟩, ?_⟩
            · rcases Hl.out with ⟨h1, h2⟩ | ⟨h1, h2⟩
              · simp only [List.length_append]; omega
              · simp only [List.length_append]; omega
            · repeat (apply Exists.intro)
              exact ⟨by rw [List.length_append], by simp, by simp, rfl⟩
            · simp [intOf]; omega
    · have hne : (e0 != 0) = true := bne_iff_ne.2 h0
      have heq : R = (0, [], 0, e0) := by rw [HR1.out, if_neg h0]
      have Heq := Lib.hid heq
      clear heq HR1 Hp h0 he
      by_cases hca : c = at_
      · have had : Bs w' w'.heap.size A (b.drop at_) := Hd0.out (by omega)
        subst hca
        go_wp2_with fail
        refine (Hcall.out A 0 0 (by have := Hbl0.out; omega) (by omega) (by omega) had).mono ?_
        rintro e w1 ⟨A1, c1, rfl, hbs1, hb1⟩
        have hres1 := (res.below hb1 res.lt).alloc (.cells #[.slice A1 p.length c1, .bool last] 51)
        have r0 := hres1.cell 0
        have r1 := hres1.cell 1
        have f0 := hres1.frozen 0
        have f1 := hres1.frozen 1
        simp only [List.getElem?_toArray, List.getElem?_cons_zero, List.getElem?_cons_succ] at r0 r1
        have hbel1 := (bt bel hb1).alloc (bt bel hb1).size (.cells #[.slice A1 p.length c1, .bool last] 51)
        go_wp2
        have hfin := (hres1.set_ 0 (.int .i64 0)).set_ 1 (.slice none 0 0)
        have q0 := hfin.cell 0
        have q1 := hfin.cell 1
        simp at q0 q1
        try simp only [Exit.jump]

        refine bodyPost_ret (by simp [results, Try.results15, go_sem, q0, q1]; rfl) rfl ?_
        refine ⟨none, 0, by rw [Heq.out]; rfl, fun h => absurd h (by rw [Heq.out]; simp), ?_, by rw [Heq.out]; simp, by omega⟩
        exact (hbel1.setCell (Nat.le_refl _) _).setCell (Nat.le_refl _) _
      · skip
        go_wp2_with fail
        refine (Hcall.out (A.map fun x => x.add at_) (b.length - at_) (c - at_) Hbl0.out.symm (by omega) (by omega) hdd).mono ?_
        rintro e w1 ⟨A1, c1, rfl, hbs1, hb1⟩
        have hres1 := (res.below hb1 res.lt).alloc (.cells #[.slice A1 p.length c1, .bool last] 51)
        have r0 := hres1.cell 0
        have r1 := hres1.cell 1
        have f0 := hres1.frozen 0
        have f1 := hres1.frozen 1
        simp only [List.getElem?_toArray, List.getElem?_cons_zero, List.getElem?_cons_succ] at r0 r1
        have hbel1 := (bt bel hb1).alloc (bt bel hb1).size (.cells #[.slice A1 p.length c1, .bool last] 51)
        go_wp2
        have hfin := (hres1.set_ 0 (.int .i64 0)).set_ 1 (.slice none 0 0)
        have q0 := hfin.cell 0
        have q1 := hfin.cell 1
        simp at q0 q1
        try simp only [Exit.jump]

        refine bodyPost_ret (by simp [results, Try.results15, go_sem, q0, q1]; rfl) rfl ?_
        refine ⟨none, 0, by rw [Heq.out]; rfl, fun h => absurd h (by rw [Heq.out]; simp), ?_, by rw [Heq.out]; simp, by omega⟩
        exact (hbel1.setCell (Nat.le_refl _) _).setCell (Nat.le_refl _) _
end Go.Proofs.Ytoahmifmoekjoaa
