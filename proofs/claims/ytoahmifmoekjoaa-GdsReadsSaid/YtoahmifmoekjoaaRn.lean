/- Layer 4: the document's Next. -/
import Derived.Test.YtoahmifmoekjoaaRnS
import Derived.StillTailTactics
namespace Go.Proofs.Ytoahmifmoekjoaa
open Go.RowKit
set_option linter.unusedVariables false
set_option linter.unusedSimpArgs false

theorem own_newbs {w : World} {base base' : Nat} {e : TypeId} {A : Option Addr} {c : Nat} {l : List UInt8} (h : Own w base e A c l) (hb : base' ≤ base) : NewBs w base' A l := fun hn => by
  obtain ⟨g, rfl, hg, hgs, _, _⟩ := h.form hn
  refine ⟨g, 0, rfl, by omega, hgs, fun i hi => ?_⟩
  rw [Nat.zero_add]; exact h.cell i hi
theorem own_capG {w : World} {base : Nat} {e : TypeId} {A : Option Addr} {c : Nat} {l : List UInt8} (h : Own w base e A c l) : l.length ≤ c ∧ c ≤ 9223372036854775807 := by
  rcases h.2 with ⟨h1, h2⟩ | ⟨g, cap, cur, h1, _, _, hn, hm, _⟩
  · simp only [Value.slice.injEq] at h1
    obtain ⟨_, h3, rfl⟩ := h1
    omega
  · simp only [Value.slice.injEq] at h1
    obtain ⟨_, _, rfl⟩ := h1
    unfold maxLen at hm
    omega
theorem tf {x : Bool} {P : Prop} (h : x = false) (h' : x = true) : P := by rw [h] at h'; cases h'

def VRn (s : Nat) (Aw : Value) (Ao : Option Addr) (co : Nat) (D : List UInt8) (S7 : Value) (fr a q aq : Int) (idv : Nat) (D' : List UInt8) (i : Nat) (v : Value) (w : World) : Prop :=
  match i with
  | 0 => v = .pointer (some ⟨s + 1, 1, none⟩)
  | 1 => v = .slice Ao D.length co
  | 2 => v = Aw
  | 3 => v = .int .i64 fr
  | 4 => v = .int .i64 a
  | 5 => v = .int .i64 q
  | 6 => v = .int .i64 aq
  | 7 => v = S7
  | 8 => ∃ A2 c2, v = .slice A2 D'.length c2 ∧ Own w (s + 2) 5 A2 c2 D'
  | 9 => v = .pointer (some ⟨s + 1, 1, none⟩)
  | 10 => ∃ A2 c2, Blk w (s + 1) 24 #[.int .i64 idv, .slice A2 D'.length c2] ∧ Own w (s + 2) 5 A2 c2 D'
  | _ => True
def TRn (s idv : Nat) (Ao : Option Addr) (co : Nat) (D : List UInt8) (j : Nat) (w : World) : Prop :=
  match j with
  | 1 => Blk w (s + 1) 24 #[.int .i64 idv, .slice Ao D.length co]
  | 8 => Own w (s + 2) 5 Ao co D
  | _ => True
def ERn (s k : Nat) (u u' : World) : Prop :=
  match k with
  | 8 => True
  | 10 => ∃ z, u' = u.setCell ⟨s + 1, 1, none⟩ z
  | _ => u' = u
theorem TRn.of {s idv : Nat} {Ao : Option Addr} {co : Nat} {D : List UInt8} {w : World} (hv : Blk w (s + 1) 24 #[.int .i64 idv, .slice Ao D.length co]) (hO : Own w (s + 2) 5 Ao co D) (j : Nat) : TRn s idv Ao co D j w.drew := by
  unfold TRn; split
  · exact hv
  · exact hO
  · trivial
theorem TRn.mono {s idv : Nat} {Ao : Option Addr} {co : Nat} {D : List UInt8} {k j : Nat} {u u' : World} (h1 : k = 8 ∧ j = 1 → False) (h2 : k = 10 ∧ j = 1 → False) (h3 : k = 10 ∧ j = 8 → False) (hkj : k ≠ j) (he : ERn s k u u') (hv : TRn s idv Ao co D j u) : TRn s idv Ao co D j u' := by
  unfold ERn at he
  split at he
  · unfold TRn at hv ⊢; split at hv <;> first | exact absurd ⟨rfl, rfl⟩ h1 | exact absurd rfl hkj | trivial
  · unfold TRn at hv ⊢; split at hv <;> first | exact absurd ⟨rfl, rfl⟩ h2 | exact absurd ⟨rfl, rfl⟩ h3 | trivial
  · subst he; exact hv
theorem VRn.mono {s : Nat} {Aw : Value} {Ao : Option Addr} {co : Nat} {D : List UInt8} {S7 : Value} {fr a q aq : Int} {idv : Nat} {D' : List UInt8} {k i : Nat} {v : Value} {u u' : World} (h1 : i = 10 ∧ k = 8 → False) (hik : i ≠ k) (he : ERn s k u u')
    (hv : VRn s Aw Ao co D S7 fr a q aq idv D' i v u) : VRn s Aw Ao co D S7 fr a q aq idv D' i v u' := by
  unfold ERn at he
  split at he
  · unfold VRn at hv ⊢
    split at hv <;> first | exact hv | exact absurd rfl hik | exact absurd ⟨rfl, rfl⟩ h1
  · obtain ⟨z, rfl⟩ := he
    unfold VRn at hv ⊢
    split at hv <;> first | exact hv | exact absurd rfl hik | skip
    · obtain ⟨A2, c2, e, hO⟩ := hv
      exact ⟨A2, c2, e, hO.kept (gset u (s + 1) 1 _) (.inr (fun e => by have := (hO.lt _ e).1; omega))⟩
  · subst he; exact hv

def RnW (w : World) (idv : Nat) (D : List UInt8) (Ao : Option Addr) (co : Nat) (wr : World) : Prop :=
  Blk wr w.heap.size 24 #[.int .i64 0, .slice none 0 0] ∧ Blk wr (w.heap.size + 1) 24 #[.int .i64 idv, .slice Ao D.length co] ∧ Own wr (w.heap.size + 2) 5 Ao co D ∧ Below w.heap.size w wr

set_option maxRecDepth 100000 in
set_option maxHeartbeats 2000000 in
theorem refnext_any (A : Option Addr) (b : List UInt8) (c : Nat) (w : World) (hle : b.length ≤ c) (hm : c ≤ 9223372036854775807) (hb : b.length ≤ 1000000000) (hs : Bs w w.heap.size A b) :
    Calls Try.prog 16 #[.slice A b.length c] w (NextOut w (nextR b)) := by
  obtain ⟨R, hR⟩ : ∃ R, R = nextR b := ⟨_, rfl⟩
  rw [← hR]
  have HR := Lib.hid hR
  clear hR
  obtain ⟨i0, hi, hz0, hz1, hz2⟩ := info_parts Try.infoU8
  go_enter Try.func16, Try.ntmps16
  go_wp2
  go_loopw [6, 7] (fun at_ i wr => ∃ (k j a least idv : Nat) (body D : List UInt8) (Ao : Option Addr) (co : Nat), k + j = 64 ∧ a ≤ b.length ∧ at_ = .int .i64 a ∧ i = .int .i64 ((j : Int) + 1) ∧ Hid (NSt j a least body D idv) ∧ D.length ≤ 2048 ∧ Hid (R = nextGo b k a body least) ∧ RnW w idv D Ao co wr)
    (fun _ i _ => 65 - (intOf i).toNat)
  case atStart =>
    refine ⟨64, 0, 0, 4, 0, [], [], none, 0, rfl, Nat.zero_le _, rfl, rfl, Lib.hid (.inl ⟨rfl, rfl, rfl, rfl, rfl, rfl⟩), by simp, HR, ?_⟩
    have h1 := Blk.new w 24 #[.int .i64 0, .slice none 0 0]
    have h2 := Blk.new (w.alloc (.cells #[.int .i64 0, .slice none 0 0] 24)) 24 #[.int .i64 0, .slice none 0 0]
    rw [show (w.alloc (.cells #[.int .i64 0, .slice none 0 0] 24)).heap.size = w.heap.size + 1 by simp only [World.alloc, Array.size_push]] at h2
    exact ⟨h1.alloc _, h2, Own.nil, (ba _ _).alloc (ba _ _).size _⟩
  case round =>
    obtain ⟨k, j, a, least, idv, body, D, Ao, co, hk, ha, rfl, rfl, hst, hDl, hRk, hres, hv, hO, hbel⟩ := hrel
    have r0 := hres.cell 0
    have r1 := hres.cell 1
    have f0 := hres.frozen 0
    have f1 := hres.frozen 1
    simp only [List.getElem?_toArray, List.getElem?_cons_zero, List.getElem?_cons_succ] at r0 r1
    have hfin := (hres.set_ 0 (.int .i64 0)).set_ 1 (.slice none 0 0)
    have q0 := hfin.cell 0
    have q1 := hfin.cell 1
    simp at q0 q1
    have Q0 := Lib.hid q0
    have Q1 := Lib.hid q1
    clear q0 q1 hfin
    rcases k with _ | k
    · have Heq : Hid (R = (0, [], 0, 5)) := Lib.hid (by rw [hRk.out]; rfl)
      go_wp2
      try simp only [Exit.jump]
      have q0 := Q0.out
      have q1 := Q1.out
      refine bodyPost_ret (by simp [results, Try.results16, go_sem, q0, q1]; rfl) rfl ?_
      refine ⟨none, 0, by rw [Heq.out]; rfl, fun h => absurd h (by rw [Heq.out]; simp), ?_, by rw [Heq.out]; simp, by omega⟩
      exact (hbel.setCell (Nat.le_refl _) _).setCell (Nat.le_refl _) _
    rcases Nat.lt_or_ge b.length (a + 2) with h2 | h2
    · have Heq : Hid (R = (0, [], 0, 11)) := Lib.hid (by rw [hRk.out]; exact nst_short h2)
      go_wp2
      try simp only [Exit.jump]
      have q0 := Q0.out
      have q1 := Q1.out
      refine bodyPost_ret (by simp [results, Try.results16, go_sem, q0, q1]; rfl) rfl ?_
      refine ⟨none, 0, by rw [Heq.out]; rfl, fun h => absurd h (by rw [Heq.out]; simp), ?_, by rw [Heq.out]; simp, by omega⟩
      exact (hbel.setCell (Nat.le_refl _) _).setCell (Nat.le_refl _) _
    · obtain ⟨n, hn⟩ : ∃ n, n = num2 b[a] b[a + 1] := ⟨_, rfl⟩
      have hnI : 256 * (b[a].toNat : Int) + (b[a + 1].toNat : Int) = (n : Int) := by rw [hn]; unfold num2; omega
      have hn16 : n < 65536 := by rw [hn]; exact num2_lt _ _
      have hlb := hst.out
      have hl24 : least = 4 ∨ least = 2 := by rcases hlb with h | h <;> omega
      have Hn := Lib.hid hn
      clear hn hlb
      obtain ⟨B, o, rfl, hB, hc⟩ := hs (by omega)
      have hc0 := hbel.cell (p := ⟨B, o + a, none⟩) hB
      have hc1 := hbel.cell (p := ⟨B, o + (a + 1), none⟩) hB
      rw [hc a (by omega)] at hc0
      rw [hc (a + 1) (by omega)] at hc1
      have hx := (b[a]).toNat_lt
      have hy := (b[a + 1]).toNat_lt
      obtain ⟨x, hxe⟩ : ∃ x, x = b[a].toNat := ⟨_, rfl⟩
      obtain ⟨y, hye⟩ : ∃ y, y = b[a + 1].toNat := ⟨_, rfl⟩
      rw [← hxe] at hc0 hx hnI
      rw [← hye] at hc1 hy hnI
      have d0 : decide ((a : Int) < (b.length : Int)) = true := by simp; omega
      have d1 : decide ((a : Int) + 1 < (b.length : Int)) = true := by simp; omega
      clear hc hxe hye
      have hd64 : decide ((j : Int) + 1 ≤ 64) = true := by simp; omega
      have hd2 : decide ((b.length : Int) < (a : Int) + 2) = false := by simp; omega
      go_wp2
      go_quiet (fail)
      clear hnI hx hy
      clear r0 r1 f0 f1 hc0 hc1
      have hres : Blk (wr.drewN nq) w.heap.size 24 #[.int .i64 0, .slice none 0 0] := hres
      have hv : Blk (wr.drewN nq) (w.heap.size + 1) 24 #[.int .i64 idv, .slice Ao D.length co] := hv
      have hO := hO.drewN nq
      have hbel := bt hbel (bl_drewN _ nq)
      clear Q0 Q1
      have r0 := hres.cell 0
      have r1 := hres.cell 1
      have f0 := hres.frozen 0
      have f1 := hres.frozen 1
      simp only [List.getElem?_toArray, List.getElem?_cons_zero, List.getElem?_cons_succ] at r0 r1
      have hfin := (hres.set_ 0 (.int .i64 0)).set_ 1 (.slice none 0 0)
      have q0 := hfin.cell 0
      have q1 := hfin.cell 1
      simp at q0 q1
      have Q0 := Lib.hid q0
      have Q1 := Lib.hid q1
      clear q0 q1 hfin
      by_cases hl : n < 32768
      · have hqm : n % 32768 = n := Nat.mod_eq_of_lt hl
        have hlb : decide ((n : Int) < 32768) = true := by simp; omega
        have Hl := Lib.hid hl
        have hn17 : n ≤ 100000000 := by omega
        clear hl hn16
        have Hqm := Lib.hid hqm
        clear hqm hl24
        by_cases hj0 : j = 0
        · have hlst : least = 4 := by rcases hst.out with h | h <;> omega
          subst hlst
          have hjb : (((j : Int) + 1) == 1) = true := beq_iff_eq.2 (by omega)
          rcases Nat.lt_or_ge n 4 with h3 | h3
          · have Heq : Hid (R = (0, [], 0, 40)) := Lib.hid (by rw [hRk.out]; exact nst_gds h2 Hn.out (by rw [Hqm.out]; exact h3))
            have k1 : decide ((a : Int) + (n : Int) < (a : Int) + 4) = true := by simp; omega
            have k2 : decide ((n : Int) < 4) = true := by simp; omega
            clear h3
            go_wp2
            try simp only [Exit.jump]
            have q0 := Q0.out
            have q1 := Q1.out
            refine bodyPost_ret (by simp [results, Try.results16, go_sem, q0, q1]; rfl) rfl ?_
            refine ⟨none, 0, by rw [Heq.out]; rfl, fun h => absurd h (by rw [Heq.out]; simp), ?_, by rw [Heq.out]; simp, by omega⟩
            exact (hbel.setCell (Nat.le_refl _) _).setCell (Nat.le_refl _) _
          have k1 : decide ((a : Int) + (n : Int) < (a : Int) + 4) = false := by simp; omega
          have k2 : decide ((n : Int) < 4) = false := by simp; omega
          have H3 := Lib.hid h3
          clear h3
          rcases Nat.lt_or_ge b.length (a + n) with h4 | h4
          · have Heq : Hid (R = (0, [], 0, 11)) := Lib.hid (by rw [hRk.out]; exact nst_cut h2 Hn.out (by rw [Hqm.out]; have := H3.out; omega) (by rw [Hqm.out]; exact h4))
            have k3 : decide ((b.length : Int) < (a : Int) + (n : Int)) = true := by simp; omega
            clear h4
            go_wp2
            try simp only [Exit.jump]
            have q0 := Q0.out
            have q1 := Q1.out
            refine bodyPost_ret (by simp [results, Try.results16, go_sem, q0, q1]; rfl) rfl ?_
            refine ⟨none, 0, by rw [Heq.out]; rfl, fun h => absurd h (by rw [Heq.out]; simp), ?_, by rw [Heq.out]; simp, by omega⟩
            exact (hbel.setCell (Nat.le_refl _) _).setCell (Nat.le_refl _) _
          have k3 : decide ((b.length : Int) < (a : Int) + (n : Int)) = false := by simp; omega
          have H4 := Lib.hid h4
          have h3 := H3.out
          have ha0 : a = 0 := by rcases hst.out with h | h <;> omega
          have h4b : 4 ≤ b.length := by omega
          have e2 := hbel.cell (p := ⟨B, o + 2, none⟩) hB
          have e3 := hbel.cell (p := ⟨B, o + 3, none⟩) hB
          obtain ⟨hcA, hcB⟩ : w.cell? ⟨B, o + 2, none⟩ = some (.int .u8 ((b[2]'(by omega)).toNat : Int)) ∧ w.cell? ⟨B, o + 3, none⟩ = some (.int .u8 ((b[3]'(by omega)).toNat : Int)) := by
            obtain ⟨B', o', eB, _, hcc⟩ := hs (by omega)
            cases eB
            exact ⟨hcc 2 (by omega), hcc 3 (by omega)⟩
          rw [hcA] at e2
          rw [hcB] at e3
          have hx2 := (b[2]'(by omega)).toNat_lt
          have hx3 := (b[3]'(by omega)).toNat_lt
          obtain ⟨id', hid'⟩ : ∃ i, i = num2 (b[2]'(by omega)) (b[3]'(by omega)) := ⟨_, rfl⟩
          have hidI : (256 : Int) * ((b[2]'(by omega)).toNat : Int) + ((b[3]'(by omega)).toNat : Int) = (id' : Int) := by rw [hid']; unfold num2; omega
          obtain ⟨x2, hxe2⟩ : ∃ x, x = (b[2]'(by omega)).toNat := ⟨_, rfl⟩
          obtain ⟨x3, hxe3⟩ : ∃ x, x = (b[3]'(by omega)).toNat := ⟨_, rfl⟩
          rw [← hxe2] at e2 hx2 hidI
          rw [← hxe3] at e3 hx3 hidI
          have HA0 := Lib.hid ha0
          have Hid' : Hid (∃ h4 : 4 ≤ b.length, id' = num2 b[2] b[3]) := Lib.hid ⟨h4b, hid'⟩
          clear hxe2 hxe3 hcA hcB ha0 hid' h3 h4
          have hidn : id' < 65536 := by omega
          have w1' : IntKind.i64.wrap (x2 : Int) = (x2 : Int) := IntWalk.i64_in _ (by omega)
          have w2' : IntKind.i64.wrap (x3 : Int) = (x3 : Int) := IntWalk.i64_in _ (by omega)
          have w3' : IntKind.i64.wrap (256 * (x2 : Int)) = 256 * (x2 : Int) := IntWalk.i64_in _ (by omega)
          have w4' : IntKind.i64.wrap (256 * (x2 : Int) + (x3 : Int)) = (id' : Int) := by rw [hidI]; exact IntWalk.i64_in _ (by omega)
          have d2b : (2 : Int) < (b.length : Int) := by omega
          have d3b : (3 : Int) < (b.length : Int) := by omega
          skip
          have s0 := hv.cell 0
          have s1 := hv.cell 1
          have g0 := hv.frozen 0
          have g1 := hv.frozen 1
          simp only [List.getElem?_toArray, List.getElem?_cons_zero, List.getElem?_cons_succ] at s0 s1
          go_wp2_with fail
          generalize wr.drewN nq = W at *
          have e2d : W.drew.cell? ⟨B, o + 2, none⟩ = some (.int .u8 (x2 : Int)) := e2
          have e3d : W.drew.cell? ⟨B, o + 3, none⟩ = some (.int .u8 (x3 : Int)) := e3
          go_still_tail 11, (by kernel_rfl)
          change wpList _ _ _ _ _ W.drew
          have s0d : W.drew.cell? ⟨w.heap.size + 1, 0, none⟩ = _ := s0
          have g0d : W.drew.frozen? ⟨w.heap.size + 1, 0, none⟩ = _ := g0
          clear e2 e3 s0 s1 g0 g1 e2d e3d
          have hv1 : Blk (W.setCell ⟨w.heap.size + 1, 0, none⟩ (.int .i64 id')) (w.heap.size + 1) 24 #[.int .i64 id', .slice Ao D.length co] := by have := hv.set_ 0 (.int .i64 id'); simpa using this
          have hres1 : Blk (W.setCell ⟨w.heap.size + 1, 0, none⟩ (.int .i64 id')) w.heap.size 24 #[.int .i64 0, .slice none 0 0] := hres.far (by show w.heap.size ≠ w.heap.size + 1; omega) _
          have hO1 : Own (W.setCell ⟨w.heap.size + 1, 0, none⟩ (.int .i64 id')) (w.heap.size + 2) 5 Ao co D := hO.kept (gset W (w.heap.size + 1) 0 _) (.inr (fun e => by have := (hO.lt _ e).1; omega))
          have hbel1 : Below w.heap.size w (W.setCell ⟨w.heap.size + 1, 0, none⟩ (.int .i64 id')) := hbel.setCell (by show w.heap.size ≤ w.heap.size + 1; omega) _
          clear r0 r1 f0 f1 hv hres hO hbel
          go_wp2_with fail
          clear s0d g0d w1' w2' w3' w4' d2b d3b hidI hx2 hx3
          generalize W.setCell ⟨w.heap.size + 1, 0, none⟩ (.int .i64 id') = W0 at *
          have hv : Blk W0.drew (w.heap.size + 1) 24 #[.int .i64 id', .slice Ao D.length co] := hv1
          have hres : Blk W0.drew w.heap.size 24 #[.int .i64 0, .slice none 0 0] := hres1
          have hO := hO1.drew
          have hbel := bt hbel1 (gr_drew W0)
          clear hv1 hres1 hO1 hbel1
          generalize W0.drew = W1 at *
          have r0 := hres.cell 0
          have r1 := hres.cell 1
          have f0 := hres.frozen 0
          have f1 := hres.frozen 1
          simp only [List.getElem?_toArray, List.getElem?_cons_zero, List.getElem?_cons_succ] at r0 r1
          have h3 := H3.out
          have h4 := H4.out
          obtain ⟨p, hp⟩ : ∃ p, p = (b.drop (a + 4)).take (n - 4) := ⟨_, rfl⟩
          have hpl : p.length = n - 4 := by rw [hp, List.length_take, List.length_drop]; omega
          have hbp : ∀ u : World, Below w.heap.size w u → Bs u w.heap.size (some ⟨B, o + (a + 4), none⟩) p := fun u hu => by rw [hp]; exact bs_take (bs_dropM (hs.below hu) (a + 4)) _
          obtain ⟨A7, c7, hS⟩ : ∃ (A7 : Option Addr) (c7 : Nat), (c = a + 4 ∧ A7 = some ⟨B, o, none⟩ ∧ c7 = 0) ∨ (c ≠ a + 4 ∧ A7 = some ⟨B, o + (a + 4), none⟩ ∧ c7 = c - (a + 4)) := by by_cases h : c = a + 4; exact ⟨_, _, .inl ⟨h, rfl, rfl⟩⟩; exact ⟨_, _, .inr ⟨h, rfl, rfl⟩⟩
          have hB7 : ∀ u : World, Below w.heap.size w u → Bs u w.heap.size A7 p := fun u hu => by
            rcases hS with ⟨h, _, _⟩ | ⟨_, h, _⟩
            · exact fun h0 => absurd h0 (by omega)
            · rw [h]; exact hbp u hu
          clear hbp
          have HS := Lib.hid hS
          have Hp := Lib.hid hp
          clear hp hS
          obtain ⟨D', hD'⟩ : ∃ D', D' = D ++ p := ⟨_, rfl⟩
          have hDl' : D'.length = D.length + p.length := by rw [hD', List.length_append]
          have HD' := Lib.hid hD'
          clear hD'
          try simp only [hd64, hd2]
          have hwr : IntKind.i64.wrap ((a : Int) + (n : Int)) = (a : Int) + (n : Int) := IntWalk.i64_in _ (by omega)
          have Hpl := Lib.hid hpl
          have HDl' := Lib.hid hDl'
          clear hpl hDl'
          refine wp_region_invT (F := ?Fn1) (V := VRn w.heap.size (.slice (some ⟨B, o, none⟩) b.length c) Ao co D (.slice A7 p.length c7) ((a : Int) + 4) a n ((a : Int) + n) id' D') (dead := fun _ => none) (T := TRn w.heap.size id' Ao co D) (C := fun u => Blk u w.heap.size 24 #[.int .i64 0, .slice none 0 0] ∧ (∃ z, Blk u (w.heap.size + 1) 24 #[.int .i64 (id' : Nat), z]) ∧ Below w.heap.size w u) (E := ERn w.heap.size) (by kernel_rfl) (by kernel_rfl) (by kernel_rfl) (fun x => ?hFn1) ?hmonon1 ?hTmn1 ?hTn1 ?hCn1 ?stepn1 ?finn1
          case hFn1 => simp only [mkA, Act.put, List.setIfInBounds_toArray, List.set_cons_succ, List.set_cons_zero, Nat.reduceAdd, Nat.zero_add]; first | with_reducible rfl | rfl
          case hmonon1 => exact fun k i v u u' he hik hwt _ hv => VRn.mono (fun h => tf hwt (by rw [h.1, h.2]; kernel_rfl)) hik he hv
          case hTmn1 => exact fun k j u u' he hkj hwt hv => TRn.mono (fun h => tf hwt (by rw [h.1, h.2]; kernel_rfl)) (fun h => tf hwt (by rw [h.1, h.2]; kernel_rfl)) (fun h => tf hwt (by rw [h.1, h.2]; kernel_rfl)) hkj he hv
          case hTn1 => exact fun j => TRn.of hv hO j
          case hCn1 => exact ⟨hres, ⟨_, hv⟩, bt hbel (gr_drew _)⟩
          case stepn1 =>
            refine AllOps.cons (fun x u hC hT hp K hK => ?_) ?_
            · clear hp hT
              go_simp
              refine hK _ _ _ hC (by rfl) (by exact rfl) ?_
              simp only [Act.put, List.setIfInBounds_toArray, List.set_cons_succ, List.set_cons_zero]
            refine AllOps.cons (fun x u hC hT hp K hK => ?_) ?_
            · simp [KnownTill, Region.binds, VRn] at hp
              have hT1 : Blk u (w.heap.size + 1) 24 #[.int .i64 (id' : Nat), .slice Ao D.length co] := hT
              have s1 := hT1.cell 1
              simp only [List.getElem?_toArray, List.getElem?_cons_zero, List.getElem?_cons_succ] at s1
              clear hT
              go_simp
              refine hK _ _ _ hC (by rfl) (by exact rfl) ?_
              simp only [Act.put, List.setIfInBounds_toArray, List.set_cons_succ, List.set_cons_zero, hp]
            refine AllOps.cons (fun x u hC hT hp K hK => ?_) ?_
            · clear hp hT
              go_simp
              refine hK _ _ _ hC (by rfl) (by exact rfl) ?_
              simp only [Act.put, List.setIfInBounds_toArray, List.set_cons_succ, List.set_cons_zero]
            refine AllOps.cons (fun x u hC hT hp K hK => ?_) ?_
            · clear hp hT
              go_simp
              refine hK _ _ _ hC (by rfl) (by exact rfl) ?_
              simp only [Act.put, List.setIfInBounds_toArray, List.set_cons_succ, List.set_cons_zero]
            refine AllOps.cons (fun x u hC hT hp K hK => ?_) ?_
            · clear hp hT
              go_simp
              refine hK _ _ _ hC (by rfl) (by exact rfl) ?_
              simp only [Act.put, List.setIfInBounds_toArray, List.set_cons_succ, List.set_cons_zero]
            refine AllOps.cons (fun x u hC hT hp K hK => ?_) ?_
            · clear hp hT
              go_simp
              refine hK _ _ _ hC (by rfl) (by exact rfl) ?_
              simp only [Act.put, List.setIfInBounds_toArray, List.set_cons_succ, List.set_cons_zero]
            refine AllOps.cons (fun x u hC hT hp K hK => ?_) ?_
            · simp [KnownTill, Region.binds, VRn] at hp
              clear hT
              go_simp
              refine hK _ _ _ hC (by rfl) (by exact rfl) ?_
              first | (simp only [Act.put, List.setIfInBounds_toArray, List.set_cons_succ, List.set_cons_zero, hp]; done) | simp [Act.put, hp]
            refine AllOps.cons (fun x u hC hT hp K hK => ?_) ?_
            · simp [KnownTill, Region.binds, VRn] at hp
              clear hT
              have i1 : (0 : Int) ≤ (a : Int) + (n : Int) ∧ (a : Int) + (n : Int) ≤ (c : Int) := by omega
              have i2 : (0 : Int) ≤ (a : Int) + 4 ∧ (a : Int) + 4 ≤ max ((a : Int) + (n : Int)) 0 := by omega
              have i3 : (4 : Int) ≤ (n : Int) := by omega
              have t1 : ((a : Int) + 4).toNat = a + 4 := by omega
              have t2 : ((a : Int) + (n : Int)).toNat = a + n := by omega
              have t3 : a + n - (a + 4) = n - 4 := by omega
              rcases HS.out with ⟨h1, h2, h3⟩ | ⟨h1, h2, h3⟩
              · have h0 : p.length = 0 := by have := Hpl.out; omega
                have hz : n = 4 := by omega
                have H0 := Lib.hid h0
                have Hz := Lib.hid hz
                have H2 := Lib.hid h2
                have H3 := Lib.hid h3
                have i4 : (n : Int) ≤ 4 := by omega
                clear h0 h2 h3 hz
                go_simp
                try simp only [if_pos i1, if_pos i2, t1, t2, t3]
                try rw [if_pos h1]
                try go_simp
                have hz1 : n - 4 = 0 := by have := Hz.out; omega
                have hz2 : c - (a + 4) = 0 := by omega
                try simp only [hz1, hz2]
                refine hK (.slice (some ⟨B, o, none⟩) 0 0) _ _ hC (by rfl) (by show _ = _; rw [H0.out, H2.out, H3.out]) ?_
                simp [Act.put, hp]
                try omega
              · have H2 := Lib.hid h2
                have H3 := Lib.hid h3
                clear h2 h3
                go_simp
                try simp only [if_pos i1, if_pos i2, t1, t2, t3]
                try rw [if_neg h1]
                try go_simp
                refine hK (.slice (some ⟨B, o + (a + 4), none⟩) (n - 4) (c - (a + 4))) _ _ hC (by rfl) (by show _ = _; rw [H2.out, H3.out, Hpl.out]) ?_
                simp [Act.put, hp]
            refine AllOps.cons (fun x u hC hT hp K hK => ?_) ?_
            · simp [KnownTill, Region.binds, VRn] at hp
              have hO1 : Own u (w.heap.size + 2) 5 Ao co D := hT
              clear hT
              obtain ⟨hC1, ⟨z, hC2⟩, hC3⟩ := hC
              refine step_append_bs u rfl (.tmp 73) (.tmp 79) 22 rfl (w.heap.size + 2) 5 i0 _ Try.underlying22 hi hz0 hz1 hz2 rfl Ao co D D.length (by simp [Act.eval, hp]) rfl hO1 w.heap.size A7 c7 p p.length (by simp [Act.eval, hp]) rfl (hB7 u hC3) (by have := Hpl.out; omega) (by have := hC2.lt; omega) ?_
              intro A2 c2 u2 own2 hg2 hblk2
              refine hK (.slice A2 (D.length + p.length) c2) _ _ ⟨hC1.kept hg2 (fun e => by have := (hO1.lt _ e.symm).1; omega), ⟨z, hC2.kept hg2 (fun e => by have := (hO1.lt _ e.symm).1; omega)⟩, hC3.grown hg2 hC3.size (fun k e => by have := (hO1.lt _ e).1; omega)⟩ trivial ⟨A2, c2, by rw [HDl'.out], by rw [HD'.out]; exact own2⟩ ?_
              simp [Act.put, hp]
            refine AllOps.cons (fun x u hC hT hp K hK => ?_) ?_
            · clear hp hT
              go_simp
              refine hK _ _ _ hC (by rfl) (by exact rfl) ?_
              simp only [Act.put, List.setIfInBounds_toArray, List.set_cons_succ, List.set_cons_zero]
            refine AllOps.cons (fun x u hC hT hp K hK => ?_) ?_
            · simp [KnownTill, Region.binds, VRn] at hp
              clear hT
              obtain ⟨h9, ⟨A2, c2, h8, hO2⟩, hrest⟩ := hp
              clear hrest
              obtain ⟨hC1, ⟨z, hC2⟩, hC3⟩ := hC
              have s0 := hC2.cell 0
              have s1 := hC2.cell 1
              have g1 := hC2.frozen 1
              simp only [List.getElem?_toArray, List.getElem?_cons_zero, List.getElem?_cons_succ] at s0 s1
              have hbl2 := hC2.set_ 1 (.slice A2 D'.length c2)
              simp at hbl2
              go_simp
              refine hK undef _ (u.setCell ⟨w.heap.size + 1, 1, none⟩ (.slice A2 D'.length c2)) ⟨hC1.far (by show w.heap.size ≠ w.heap.size + 1; omega) _, ⟨_, hbl2⟩, hC3.setCell (by show w.heap.size ≤ w.heap.size + 1; omega) _⟩ ⟨_, rfl⟩ ⟨A2, c2, hbl2, hO2.kept (gset u (w.heap.size + 1) 1 _) (.inr (fun e => ?_))⟩ ?_
              · have := (hO2.lt _ e).1; omega
              · simp [Act.put, h8, h9]
            exact AllOps.nil
          case finn1 =>
            intro x u hC hV
            obtain ⟨A2, c2, hv2, hO2⟩ := hV 10 (by decide) rfl
            obtain ⟨hres2, _, hbel2⟩ := hC
            clear hV hv hO hres hbel
            have hpl := Hpl.out
            have hDl' := HDl'.out
            have hstp := nst_step (k := k) hst.out h2 Hn.out (by rw [Hqm.out]; omega) (by rw [Hqm.out]; omega) D' (by rw [HD'.out, Hp.out, Hqm.out]) id' (.inl ⟨hj0, Hid'.out⟩)
            rw [Hqm.out, ← hRk.out] at hstp
            obtain ⟨body', hst', hRn⟩ := hstp
            have HSt := Lib.hid hst'
            have HRn := Lib.hid hRn
            clear hst' hRn r0 r1 f0 f1 Q0 Q1
            have r0 := hres2.cell 0
            have r1 := hres2.cell 1
            have f0 := hres2.frozen 0
            have f1 := hres2.frozen 1
            simp only [List.getElem?_toArray, List.getElem?_cons_zero, List.getElem?_cons_succ] at r0 r1
            have hfin := (hres2.set_ 0 (.int .i64 0)).set_ 1 (.slice none 0 0)
            have q0 := hfin.cell 0
            have q1 := hfin.cell 1
            simp at q0 q1
            have Q0 := Lib.hid q0
            have Q1 := Lib.hid q1
            clear q0 q1 hfin
            have s0 := hv2.cell 0
            have s1 := hv2.cell 1
            have g0 := hv2.frozen 0
            have g1 := hv2.frozen 1
            simp only [List.getElem?_toArray, List.getElem?_cons_zero, List.getElem?_cons_succ] at s0 s1
            have hDm : D'.length ≤ 200000000 := by omega
            have HDl' := Lib.hid hDl'
            clear hDl'
            by_cases hbig : 2048 < D'.length
            · have Heq : Hid (R = (0, [], 0, 40)) := Lib.hid (by rw [HRn.out, if_pos hbig])
              have hbb : decide ((2048 : Int) < (D'.length : Int)) = true := by simp; omega
              clear hbig
              go_wp2
              try simp only [Exit.jump]
              have q0 := Q0.out
              have q1 := Q1.out
              refine bodyPost_ret (by simp [results, Try.results16, go_sem, q0, q1]; rfl) rfl ?_
              refine ⟨none, 0, by rw [Heq.out]; rfl, fun h => absurd h (by rw [Heq.out]; simp), ?_, by rw [Heq.out]; simp, by omega⟩
              exact (hbel2.setCell (Nat.le_refl _) _).setCell (Nat.le_refl _) _
            · have Heq : Hid (R = (id', D', a + n, 0)) := Lib.hid (by rw [HRn.out, if_neg hbig, if_pos Hl.out])
              have hbb : decide ((2048 : Int) < (D'.length : Int)) = false := by simp; omega
              have Hbig := Lib.hid hbig
              clear hbig
              have ownk := ((hO2.kept (gset u w.heap.size 0 (.int .i64 (id' : Nat))) (.inr (fun e => by have := (hO2.lt _ e).1; omega))).kept (gset _ w.heap.size 1 (.slice A2 D'.length c2)) (.inr (fun e => by have := (hO2.lt _ e).1; omega)))
              have hrs := hres2.set_ 0 (.int .i64 (id' : Nat))
              have ee0 := hrs.cell 0
              have ee1 := (hrs.set_ 1 (.slice A2 D'.length c2)).cell 1
              simp at ee0 ee1
              have HO := Lib.hid ownk
              have hcap := own_capG hO2
              have Hcap := Lib.hid hcap
              clear hrs ownk hcap
              go_wp2
              try simp only [Exit.jump]
              refine bodyPost_ret (by simp [results, Try.results16, go_sem, ee0, ee1]; try rfl) rfl ?_
              refine ⟨A2, c2, by rw [Heq.out]; rfl, by rw [Heq.out]; exact own_newbs HO.out (by omega), (hbel2.setCell (Nat.le_refl _) _).setCell (Nat.le_refl _) _, by rw [Heq.out]; exact Hcap.out.1, Hcap.out.2⟩
        · have hlst : least = 2 := by rcases hst.out with h | h <;> omega
          subst hlst
          have hjb : (((j : Int) + 1) == 1) = false := beq_eq_false_iff_ne.2 (by omega)
          rcases Nat.lt_or_ge n 2 with h3 | h3
          · have Heq : Hid (R = (0, [], 0, 40)) := Lib.hid (by rw [hRk.out]; exact nst_gds h2 Hn.out (by rw [Hqm.out]; exact h3))
            have k1 : decide ((a : Int) + (n : Int) < (a : Int) + 2) = true := by simp; omega
            have k2 : decide ((n : Int) < 2) = true := by simp; omega
            clear h3
            go_wp2
            try simp only [Exit.jump]
            have q0 := Q0.out
            have q1 := Q1.out
            refine bodyPost_ret (by simp [results, Try.results16, go_sem, q0, q1]; rfl) rfl ?_
            refine ⟨none, 0, by rw [Heq.out]; rfl, fun h => absurd h (by rw [Heq.out]; simp), ?_, by rw [Heq.out]; simp, by omega⟩
            exact (hbel.setCell (Nat.le_refl _) _).setCell (Nat.le_refl _) _
          have k1 : decide ((a : Int) + (n : Int) < (a : Int) + 2) = false := by simp; omega
          have k2 : decide ((n : Int) < 2) = false := by simp; omega
          have H3 := Lib.hid h3
          clear h3
          rcases Nat.lt_or_ge b.length (a + n) with h4 | h4
          · have Heq : Hid (R = (0, [], 0, 11)) := Lib.hid (by rw [hRk.out]; exact nst_cut h2 Hn.out (by rw [Hqm.out]; have := H3.out; omega) (by rw [Hqm.out]; exact h4))
            have k3 : decide ((b.length : Int) < (a : Int) + (n : Int)) = true := by simp; omega
            clear h4
            go_wp2
            try simp only [Exit.jump]
            have q0 := Q0.out
            have q1 := Q1.out
            refine bodyPost_ret (by simp [results, Try.results16, go_sem, q0, q1]; rfl) rfl ?_
            refine ⟨none, 0, by rw [Heq.out]; rfl, fun h => absurd h (by rw [Heq.out]; simp), ?_, by rw [Heq.out]; simp, by omega⟩
            exact (hbel.setCell (Nat.le_refl _) _).setCell (Nat.le_refl _) _
          have k3 : decide ((b.length : Int) < (a : Int) + (n : Int)) = false := by simp; omega
          have H4 := Lib.hid h4
          clear h4
          go_wp2_with fail
          have h3 := H3.out
          have h4 := H4.out
          obtain ⟨p, hp⟩ : ∃ p, p = (b.drop (a + 2)).take (n - 2) := ⟨_, rfl⟩
          have hpl : p.length = n - 2 := by rw [hp, List.length_take, List.length_drop]; omega
          have hbp : ∀ u : World, Below w.heap.size w u → Bs u w.heap.size (some ⟨B, o + (a + 2), none⟩) p := fun u hu => by rw [hp]; exact bs_take (bs_dropM (hs.below hu) (a + 2)) _
          obtain ⟨A7, c7, hS⟩ : ∃ (A7 : Option Addr) (c7 : Nat), (c = a + 2 ∧ A7 = some ⟨B, o, none⟩ ∧ c7 = 0) ∨ (c ≠ a + 2 ∧ A7 = some ⟨B, o + (a + 2), none⟩ ∧ c7 = c - (a + 2)) := by by_cases h : c = a + 2; exact ⟨_, _, .inl ⟨h, rfl, rfl⟩⟩; exact ⟨_, _, .inr ⟨h, rfl, rfl⟩⟩
          have hB7 : ∀ u : World, Below w.heap.size w u → Bs u w.heap.size A7 p := fun u hu => by
            rcases hS with ⟨h, _, _⟩ | ⟨_, h, _⟩
            · exact fun h0 => absurd h0 (by omega)
            · rw [h]; exact hbp u hu
          clear hbp
          have HS := Lib.hid hS
          have Hp := Lib.hid hp
          clear hp hS
          obtain ⟨D', hD'⟩ : ∃ D', D' = D ++ p := ⟨_, rfl⟩
          have hDl' : D'.length = D.length + p.length := by rw [hD', List.length_append]
          have HD' := Lib.hid hD'
          clear hD'
          try simp only [hd64, hd2]
          have hwr : IntKind.i64.wrap ((a : Int) + (n : Int)) = (a : Int) + (n : Int) := IntWalk.i64_in _ (by omega)
          have Hpl := Lib.hid hpl
          have HDl' := Lib.hid hDl'
          clear hpl hDl'
          refine wp_region_invT (F := ?Fn2) (V := VRn w.heap.size (.slice (some ⟨B, o, none⟩) b.length c) Ao co D (.slice A7 p.length c7) ((a : Int) + 2) a n ((a : Int) + n) idv D') (dead := fun _ => none) (T := TRn w.heap.size idv Ao co D) (C := fun u => Blk u w.heap.size 24 #[.int .i64 0, .slice none 0 0] ∧ (∃ z, Blk u (w.heap.size + 1) 24 #[.int .i64 (idv : Nat), z]) ∧ Below w.heap.size w u) (E := ERn w.heap.size) (by kernel_rfl) (by kernel_rfl) (by kernel_rfl) (fun x => ?hFn2) ?hmonon2 ?hTmn2 ?hTn2 ?hCn2 ?stepn2 ?finn2
          case hFn2 => simp only [mkA, Act.put, List.setIfInBounds_toArray, List.set_cons_succ, List.set_cons_zero, Nat.reduceAdd, Nat.zero_add]; first | with_reducible rfl | rfl
          case hmonon2 => exact fun k i v u u' he hik hwt _ hv => VRn.mono (fun h => tf hwt (by rw [h.1, h.2]; kernel_rfl)) hik he hv
          case hTmn2 => exact fun k j u u' he hkj hwt hv => TRn.mono (fun h => tf hwt (by rw [h.1, h.2]; kernel_rfl)) (fun h => tf hwt (by rw [h.1, h.2]; kernel_rfl)) (fun h => tf hwt (by rw [h.1, h.2]; kernel_rfl)) hkj he hv
          case hTn2 => exact fun j => TRn.of hv hO j
          case hCn2 => exact ⟨hres, ⟨_, hv⟩, bt hbel (gr_drew _)⟩
          case stepn2 =>
            refine AllOps.cons (fun x u hC hT hp K hK => ?_) ?_
            · clear hp hT
              go_simp
              refine hK _ _ _ hC (by rfl) (by exact rfl) ?_
              simp only [Act.put, List.setIfInBounds_toArray, List.set_cons_succ, List.set_cons_zero]
            refine AllOps.cons (fun x u hC hT hp K hK => ?_) ?_
            · simp [KnownTill, Region.binds, VRn] at hp
              have hT1 : Blk u (w.heap.size + 1) 24 #[.int .i64 (idv : Nat), .slice Ao D.length co] := hT
              have s1 := hT1.cell 1
              simp only [List.getElem?_toArray, List.getElem?_cons_zero, List.getElem?_cons_succ] at s1
              clear hT
              go_simp
              refine hK _ _ _ hC (by rfl) (by exact rfl) ?_
              simp only [Act.put, List.setIfInBounds_toArray, List.set_cons_succ, List.set_cons_zero, hp]
            refine AllOps.cons (fun x u hC hT hp K hK => ?_) ?_
            · clear hp hT
              go_simp
              refine hK _ _ _ hC (by rfl) (by exact rfl) ?_
              simp only [Act.put, List.setIfInBounds_toArray, List.set_cons_succ, List.set_cons_zero]
            refine AllOps.cons (fun x u hC hT hp K hK => ?_) ?_
            · clear hp hT
              go_simp
              refine hK _ _ _ hC (by rfl) (by exact rfl) ?_
              simp only [Act.put, List.setIfInBounds_toArray, List.set_cons_succ, List.set_cons_zero]
            refine AllOps.cons (fun x u hC hT hp K hK => ?_) ?_
            · clear hp hT
              go_simp
              refine hK _ _ _ hC (by rfl) (by exact rfl) ?_
              simp only [Act.put, List.setIfInBounds_toArray, List.set_cons_succ, List.set_cons_zero]
            refine AllOps.cons (fun x u hC hT hp K hK => ?_) ?_
            · clear hp hT
              go_simp
              refine hK _ _ _ hC (by rfl) (by exact rfl) ?_
              simp only [Act.put, List.setIfInBounds_toArray, List.set_cons_succ, List.set_cons_zero]
            refine AllOps.cons (fun x u hC hT hp K hK => ?_) ?_
            · simp [KnownTill, Region.binds, VRn] at hp
              clear hT
              go_simp
              refine hK _ _ _ hC (by rfl) (by exact rfl) ?_
              first | (simp only [Act.put, List.setIfInBounds_toArray, List.set_cons_succ, List.set_cons_zero, hp]; done) | simp [Act.put, hp]
            refine AllOps.cons (fun x u hC hT hp K hK => ?_) ?_
            · simp [KnownTill, Region.binds, VRn] at hp
              clear hT
              have i1 : (0 : Int) ≤ (a : Int) + (n : Int) ∧ (a : Int) + (n : Int) ≤ (c : Int) := by omega
              have i2 : (0 : Int) ≤ (a : Int) + 2 ∧ (a : Int) + 2 ≤ max ((a : Int) + (n : Int)) 0 := by omega
              have i3 : (2 : Int) ≤ (n : Int) := by omega
              have t1 : ((a : Int) + 2).toNat = a + 2 := by omega
              have t2 : ((a : Int) + (n : Int)).toNat = a + n := by omega
              have t3 : a + n - (a + 2) = n - 2 := by omega
              rcases HS.out with ⟨h1, h2, h3⟩ | ⟨h1, h2, h3⟩
              · have h0 : p.length = 0 := by have := Hpl.out; omega
                have hz : n = 2 := by omega
                have H0 := Lib.hid h0
                have Hz := Lib.hid hz
                have H2 := Lib.hid h2
                have H3 := Lib.hid h3
                have i4 : (n : Int) ≤ 2 := by omega
                clear h0 h2 h3 hz
                go_simp
                try simp only [if_pos i1, if_pos i2, t1, t2, t3]
                try rw [if_pos h1]
                try go_simp
                have hz1 : n - 2 = 0 := by have := Hz.out; omega
                have hz2 : c - (a + 2) = 0 := by omega
                try simp only [hz1, hz2]
                refine hK (.slice (some ⟨B, o, none⟩) 0 0) _ _ hC (by rfl) (by show _ = _; rw [H0.out, H2.out, H3.out]) ?_
                simp [Act.put, hp]
                try omega
              · have H2 := Lib.hid h2
                have H3 := Lib.hid h3
                clear h2 h3
                go_simp
                try simp only [if_pos i1, if_pos i2, t1, t2, t3]
                try rw [if_neg h1]
                try go_simp
                refine hK (.slice (some ⟨B, o + (a + 2), none⟩) (n - 2) (c - (a + 2))) _ _ hC (by rfl) (by show _ = _; rw [H2.out, H3.out, Hpl.out]) ?_
                simp [Act.put, hp]
            refine AllOps.cons (fun x u hC hT hp K hK => ?_) ?_
            · simp [KnownTill, Region.binds, VRn] at hp
              have hO1 : Own u (w.heap.size + 2) 5 Ao co D := hT
              clear hT
              obtain ⟨hC1, ⟨z, hC2⟩, hC3⟩ := hC
              refine step_append_bs u rfl (.tmp 73) (.tmp 79) 22 rfl (w.heap.size + 2) 5 i0 _ Try.underlying22 hi hz0 hz1 hz2 rfl Ao co D D.length (by simp [Act.eval, hp]) rfl hO1 w.heap.size A7 c7 p p.length (by simp [Act.eval, hp]) rfl (hB7 u hC3) (by have := Hpl.out; omega) (by have := hC2.lt; omega) ?_
              intro A2 c2 u2 own2 hg2 hblk2
              refine hK (.slice A2 (D.length + p.length) c2) _ _ ⟨hC1.kept hg2 (fun e => by have := (hO1.lt _ e.symm).1; omega), ⟨z, hC2.kept hg2 (fun e => by have := (hO1.lt _ e.symm).1; omega)⟩, hC3.grown hg2 hC3.size (fun k e => by have := (hO1.lt _ e).1; omega)⟩ trivial ⟨A2, c2, by rw [HDl'.out], by rw [HD'.out]; exact own2⟩ ?_
              simp [Act.put, hp]
            refine AllOps.cons (fun x u hC hT hp K hK => ?_) ?_
            · clear hp hT
              go_simp
              refine hK _ _ _ hC (by rfl) (by exact rfl) ?_
              simp only [Act.put, List.setIfInBounds_toArray, List.set_cons_succ, List.set_cons_zero]
            refine AllOps.cons (fun x u hC hT hp K hK => ?_) ?_
            · simp [KnownTill, Region.binds, VRn] at hp
              clear hT
              obtain ⟨h9, ⟨A2, c2, h8, hO2⟩, hrest⟩ := hp
              clear hrest
              obtain ⟨hC1, ⟨z, hC2⟩, hC3⟩ := hC
              have s0 := hC2.cell 0
              have s1 := hC2.cell 1
              have g1 := hC2.frozen 1
              simp only [List.getElem?_toArray, List.getElem?_cons_zero, List.getElem?_cons_succ] at s0 s1
              have hbl2 := hC2.set_ 1 (.slice A2 D'.length c2)
              simp at hbl2
              go_simp
              refine hK undef _ (u.setCell ⟨w.heap.size + 1, 1, none⟩ (.slice A2 D'.length c2)) ⟨hC1.far (by show w.heap.size ≠ w.heap.size + 1; omega) _, ⟨_, hbl2⟩, hC3.setCell (by show w.heap.size ≤ w.heap.size + 1; omega) _⟩ ⟨_, rfl⟩ ⟨A2, c2, hbl2, hO2.kept (gset u (w.heap.size + 1) 1 _) (.inr (fun e => ?_))⟩ ?_
              · have := (hO2.lt _ e).1; omega
              · simp [Act.put, h8, h9]
            exact AllOps.nil
          case finn2 =>
            intro x u hC hV
            obtain ⟨A2, c2, hv2, hO2⟩ := hV 10 (by decide) rfl
            obtain ⟨hres2, _, hbel2⟩ := hC
            clear hV hv hO hres hbel
            have hpl := Hpl.out
            have hDl' := HDl'.out
            have hstp := nst_step (k := k) hst.out h2 Hn.out (by rw [Hqm.out]; omega) (by rw [Hqm.out]; omega) D' (by rw [HD'.out, Hp.out, Hqm.out]) idv (.inr ⟨by rcases hst.out with h | h <;> omega, rfl⟩)
            rw [Hqm.out, ← hRk.out] at hstp
            obtain ⟨body', hst', hRn⟩ := hstp
            have HSt := Lib.hid hst'
            have HRn := Lib.hid hRn
            clear hst' hRn r0 r1 f0 f1 Q0 Q1
            have r0 := hres2.cell 0
            have r1 := hres2.cell 1
            have f0 := hres2.frozen 0
            have f1 := hres2.frozen 1
            simp only [List.getElem?_toArray, List.getElem?_cons_zero, List.getElem?_cons_succ] at r0 r1
            have hfin := (hres2.set_ 0 (.int .i64 0)).set_ 1 (.slice none 0 0)
            have q0 := hfin.cell 0
            have q1 := hfin.cell 1
            simp at q0 q1
            have Q0 := Lib.hid q0
            have Q1 := Lib.hid q1
            clear q0 q1 hfin
            have s0 := hv2.cell 0
            have s1 := hv2.cell 1
            have g0 := hv2.frozen 0
            have g1 := hv2.frozen 1
            simp only [List.getElem?_toArray, List.getElem?_cons_zero, List.getElem?_cons_succ] at s0 s1
            have hDm : D'.length ≤ 200000000 := by omega
            have HDl' := Lib.hid hDl'
            clear hDl'
            by_cases hbig : 2048 < D'.length
            · have Heq : Hid (R = (0, [], 0, 40)) := Lib.hid (by rw [HRn.out, if_pos hbig])
              have hbb : decide ((2048 : Int) < (D'.length : Int)) = true := by simp; omega
              clear hbig
              go_wp2
              try simp only [Exit.jump]
              have q0 := Q0.out
              have q1 := Q1.out
              refine bodyPost_ret (by simp [results, Try.results16, go_sem, q0, q1]; rfl) rfl ?_
              refine ⟨none, 0, by rw [Heq.out]; rfl, fun h => absurd h (by rw [Heq.out]; simp), ?_, by rw [Heq.out]; simp, by omega⟩
              exact (hbel2.setCell (Nat.le_refl _) _).setCell (Nat.le_refl _) _
            · have Heq : Hid (R = (idv, D', a + n, 0)) := Lib.hid (by rw [HRn.out, if_neg hbig, if_pos Hl.out])
              have hbb : decide ((2048 : Int) < (D'.length : Int)) = false := by simp; omega
              have Hbig := Lib.hid hbig
              clear hbig
              have ownk := ((hO2.kept (gset u w.heap.size 0 (.int .i64 (idv : Nat))) (.inr (fun e => by have := (hO2.lt _ e).1; omega))).kept (gset _ w.heap.size 1 (.slice A2 D'.length c2)) (.inr (fun e => by have := (hO2.lt _ e).1; omega)))
              have hrs := hres2.set_ 0 (.int .i64 (idv : Nat))
              have ee0 := hrs.cell 0
              have ee1 := (hrs.set_ 1 (.slice A2 D'.length c2)).cell 1
              simp at ee0 ee1
              have HO := Lib.hid ownk
              have hcap := own_capG hO2
              have Hcap := Lib.hid hcap
              clear hrs ownk hcap
              go_wp2
              try simp only [Exit.jump]
              refine bodyPost_ret (by simp [results, Try.results16, go_sem, ee0, ee1]; try rfl) rfl ?_
              refine ⟨A2, c2, by rw [Heq.out]; rfl, by rw [Heq.out]; exact own_newbs HO.out (by omega), (hbel2.setCell (Nat.le_refl _) _).setCell (Nat.le_refl _) _, by rw [Heq.out]; exact Hcap.out.1, Hcap.out.2⟩
      · obtain ⟨q, hq⟩ : ∃ q, q = n - 32768 := ⟨_, rfl⟩
        have hqm : n % 32768 = q := by omega
        have hqI : (n : Int) - 32768 = (q : Int) := by omega
        have hq15 : q < 32768 := by omega
        clear hq
        have hlb : decide ((n : Int) < 32768) = false := by simp; omega
        have Hl := Lib.hid hl
        have hn17 : q ≤ 100000000 := by omega
        clear hl hn16 hq15
        have Hqm := Lib.hid hqm
        clear hqm hl24
        by_cases hj0 : j = 0
        · have hlst : least = 4 := by rcases hst.out with h | h <;> omega
          subst hlst
          have hjb : (((j : Int) + 1) == 1) = true := beq_iff_eq.2 (by omega)
          rcases Nat.lt_or_ge q 4 with h3 | h3
          · have Heq : Hid (R = (0, [], 0, 40)) := Lib.hid (by rw [hRk.out]; exact nst_gds h2 Hn.out (by rw [Hqm.out]; exact h3))
            have k1 : decide ((a : Int) + (q : Int) < (a : Int) + 4) = true := by simp; omega
            have k2 : decide ((q : Int) < 4) = true := by simp; omega
            clear h3
            go_wp2
            try simp only [Exit.jump]
            have q0 := Q0.out
            have q1 := Q1.out
            refine bodyPost_ret (by simp [results, Try.results16, go_sem, q0, q1]; rfl) rfl ?_
            refine ⟨none, 0, by rw [Heq.out]; rfl, fun h => absurd h (by rw [Heq.out]; simp), ?_, by rw [Heq.out]; simp, by omega⟩
            exact (hbel.setCell (Nat.le_refl _) _).setCell (Nat.le_refl _) _
          have k1 : decide ((a : Int) + (q : Int) < (a : Int) + 4) = false := by simp; omega
          have k2 : decide ((q : Int) < 4) = false := by simp; omega
          have H3 := Lib.hid h3
          clear h3
          rcases Nat.lt_or_ge b.length (a + q) with h4 | h4
          · have Heq : Hid (R = (0, [], 0, 11)) := Lib.hid (by rw [hRk.out]; exact nst_cut h2 Hn.out (by rw [Hqm.out]; have := H3.out; omega) (by rw [Hqm.out]; exact h4))
            have k3 : decide ((b.length : Int) < (a : Int) + (q : Int)) = true := by simp; omega
            clear h4
            go_wp2
            try simp only [Exit.jump]
            have q0 := Q0.out
            have q1 := Q1.out
            refine bodyPost_ret (by simp [results, Try.results16, go_sem, q0, q1]; rfl) rfl ?_
            refine ⟨none, 0, by rw [Heq.out]; rfl, fun h => absurd h (by rw [Heq.out]; simp), ?_, by rw [Heq.out]; simp, by omega⟩
            exact (hbel.setCell (Nat.le_refl _) _).setCell (Nat.le_refl _) _
          have k3 : decide ((b.length : Int) < (a : Int) + (q : Int)) = false := by simp; omega
          have H4 := Lib.hid h4
          have h3 := H3.out
          have ha0 : a = 0 := by rcases hst.out with h | h <;> omega
          have h4b : 4 ≤ b.length := by omega
          have e2 := hbel.cell (p := ⟨B, o + 2, none⟩) hB
          have e3 := hbel.cell (p := ⟨B, o + 3, none⟩) hB
          obtain ⟨hcA, hcB⟩ : w.cell? ⟨B, o + 2, none⟩ = some (.int .u8 ((b[2]'(by omega)).toNat : Int)) ∧ w.cell? ⟨B, o + 3, none⟩ = some (.int .u8 ((b[3]'(by omega)).toNat : Int)) := by
            obtain ⟨B', o', eB, _, hcc⟩ := hs (by omega)
            cases eB
            exact ⟨hcc 2 (by omega), hcc 3 (by omega)⟩
          rw [hcA] at e2
          rw [hcB] at e3
          have hx2 := (b[2]'(by omega)).toNat_lt
          have hx3 := (b[3]'(by omega)).toNat_lt
          obtain ⟨id', hid'⟩ : ∃ i, i = num2 (b[2]'(by omega)) (b[3]'(by omega)) := ⟨_, rfl⟩
          have hidI : (256 : Int) * ((b[2]'(by omega)).toNat : Int) + ((b[3]'(by omega)).toNat : Int) = (id' : Int) := by rw [hid']; unfold num2; omega
          obtain ⟨x2, hxe2⟩ : ∃ x, x = (b[2]'(by omega)).toNat := ⟨_, rfl⟩
          obtain ⟨x3, hxe3⟩ : ∃ x, x = (b[3]'(by omega)).toNat := ⟨_, rfl⟩
          rw [← hxe2] at e2 hx2 hidI
          rw [← hxe3] at e3 hx3 hidI
          have HA0 := Lib.hid ha0
          have Hid' : Hid (∃ h4 : 4 ≤ b.length, id' = num2 b[2] b[3]) := Lib.hid ⟨h4b, hid'⟩
          clear hxe2 hxe3 hcA hcB ha0 hid' h3 h4
          have hidn : id' < 65536 := by omega
          have w1' : IntKind.i64.wrap (x2 : Int) = (x2 : Int) := IntWalk.i64_in _ (by omega)
          have w2' : IntKind.i64.wrap (x3 : Int) = (x3 : Int) := IntWalk.i64_in _ (by omega)
          have w3' : IntKind.i64.wrap (256 * (x2 : Int)) = 256 * (x2 : Int) := IntWalk.i64_in _ (by omega)
          have w4' : IntKind.i64.wrap (256 * (x2 : Int) + (x3 : Int)) = (id' : Int) := by rw [hidI]; exact IntWalk.i64_in _ (by omega)
          have d2b : (2 : Int) < (b.length : Int) := by omega
          have d3b : (3 : Int) < (b.length : Int) := by omega
          skip
          have s0 := hv.cell 0
          have s1 := hv.cell 1
          have g0 := hv.frozen 0
          have g1 := hv.frozen 1
          simp only [List.getElem?_toArray, List.getElem?_cons_zero, List.getElem?_cons_succ] at s0 s1
          go_wp2_with fail
          generalize wr.drewN nq = W at *
          have e2d : W.drew.cell? ⟨B, o + 2, none⟩ = some (.int .u8 (x2 : Int)) := e2
          have e3d : W.drew.cell? ⟨B, o + 3, none⟩ = some (.int .u8 (x3 : Int)) := e3
          go_still_tail 11, (by kernel_rfl)
          change wpList _ _ _ _ _ W.drew
          have s0d : W.drew.cell? ⟨w.heap.size + 1, 0, none⟩ = _ := s0
          have g0d : W.drew.frozen? ⟨w.heap.size + 1, 0, none⟩ = _ := g0
          clear e2 e3 s0 s1 g0 g1 e2d e3d
          have hv1 : Blk (W.setCell ⟨w.heap.size + 1, 0, none⟩ (.int .i64 id')) (w.heap.size + 1) 24 #[.int .i64 id', .slice Ao D.length co] := by have := hv.set_ 0 (.int .i64 id'); simpa using this
          have hres1 : Blk (W.setCell ⟨w.heap.size + 1, 0, none⟩ (.int .i64 id')) w.heap.size 24 #[.int .i64 0, .slice none 0 0] := hres.far (by show w.heap.size ≠ w.heap.size + 1; omega) _
          have hO1 : Own (W.setCell ⟨w.heap.size + 1, 0, none⟩ (.int .i64 id')) (w.heap.size + 2) 5 Ao co D := hO.kept (gset W (w.heap.size + 1) 0 _) (.inr (fun e => by have := (hO.lt _ e).1; omega))
          have hbel1 : Below w.heap.size w (W.setCell ⟨w.heap.size + 1, 0, none⟩ (.int .i64 id')) := hbel.setCell (by show w.heap.size ≤ w.heap.size + 1; omega) _
          clear r0 r1 f0 f1 hv hres hO hbel
          go_wp2_with fail
          clear s0d g0d w1' w2' w3' w4' d2b d3b hidI hx2 hx3
          generalize W.setCell ⟨w.heap.size + 1, 0, none⟩ (.int .i64 id') = W0 at *
          have hv : Blk W0.drew (w.heap.size + 1) 24 #[.int .i64 id', .slice Ao D.length co] := hv1
          have hres : Blk W0.drew w.heap.size 24 #[.int .i64 0, .slice none 0 0] := hres1
          have hO := hO1.drew
          have hbel := bt hbel1 (gr_drew W0)
          clear hv1 hres1 hO1 hbel1
          generalize W0.drew = W1 at *
          have r0 := hres.cell 0
          have r1 := hres.cell 1
          have f0 := hres.frozen 0
          have f1 := hres.frozen 1
          simp only [List.getElem?_toArray, List.getElem?_cons_zero, List.getElem?_cons_succ] at r0 r1
          have h3 := H3.out
          have h4 := H4.out
          obtain ⟨p, hp⟩ : ∃ p, p = (b.drop (a + 4)).take (q - 4) := ⟨_, rfl⟩
          have hpl : p.length = q - 4 := by rw [hp, List.length_take, List.length_drop]; omega
          have hbp : ∀ u : World, Below w.heap.size w u → Bs u w.heap.size (some ⟨B, o + (a + 4), none⟩) p := fun u hu => by rw [hp]; exact bs_take (bs_dropM (hs.below hu) (a + 4)) _
          obtain ⟨A7, c7, hS⟩ : ∃ (A7 : Option Addr) (c7 : Nat), (c = a + 4 ∧ A7 = some ⟨B, o, none⟩ ∧ c7 = 0) ∨ (c ≠ a + 4 ∧ A7 = some ⟨B, o + (a + 4), none⟩ ∧ c7 = c - (a + 4)) := by by_cases h : c = a + 4; exact ⟨_, _, .inl ⟨h, rfl, rfl⟩⟩; exact ⟨_, _, .inr ⟨h, rfl, rfl⟩⟩
          have hB7 : ∀ u : World, Below w.heap.size w u → Bs u w.heap.size A7 p := fun u hu => by
            rcases hS with ⟨h, _, _⟩ | ⟨_, h, _⟩
            · exact fun h0 => absurd h0 (by omega)
            · rw [h]; exact hbp u hu
          clear hbp
          have HS := Lib.hid hS
          have Hp := Lib.hid hp
          clear hp hS
          obtain ⟨D', hD'⟩ : ∃ D', D' = D ++ p := ⟨_, rfl⟩
          have hDl' : D'.length = D.length + p.length := by rw [hD', List.length_append]
          have HD' := Lib.hid hD'
          clear hD'
          try simp only [hd64, hd2]
          have hwr : IntKind.i64.wrap ((a : Int) + (q : Int)) = (a : Int) + (q : Int) := IntWalk.i64_in _ (by omega)
          have Hpl := Lib.hid hpl
          have HDl' := Lib.hid hDl'
          clear hpl hDl'
          refine wp_region_invT (F := ?Fq1) (V := VRn w.heap.size (.slice (some ⟨B, o, none⟩) b.length c) Ao co D (.slice A7 p.length c7) ((a : Int) + 4) a q ((a : Int) + q) id' D') (dead := fun _ => none) (T := TRn w.heap.size id' Ao co D) (C := fun u => Blk u w.heap.size 24 #[.int .i64 0, .slice none 0 0] ∧ (∃ z, Blk u (w.heap.size + 1) 24 #[.int .i64 (id' : Nat), z]) ∧ Below w.heap.size w u) (E := ERn w.heap.size) (by kernel_rfl) (by kernel_rfl) (by kernel_rfl) (fun x => ?hFq1) ?hmonoq1 ?hTmq1 ?hTq1 ?hCq1 ?stepq1 ?finq1
          case hFq1 => simp only [mkA, Act.put, List.setIfInBounds_toArray, List.set_cons_succ, List.set_cons_zero, Nat.reduceAdd, Nat.zero_add]; first | with_reducible rfl | rfl
          case hmonoq1 => exact fun k i v u u' he hik hwt _ hv => VRn.mono (fun h => tf hwt (by rw [h.1, h.2]; kernel_rfl)) hik he hv
          case hTmq1 => exact fun k j u u' he hkj hwt hv => TRn.mono (fun h => tf hwt (by rw [h.1, h.2]; kernel_rfl)) (fun h => tf hwt (by rw [h.1, h.2]; kernel_rfl)) (fun h => tf hwt (by rw [h.1, h.2]; kernel_rfl)) hkj he hv
          case hTq1 => exact fun j => TRn.of hv hO j
          case hCq1 => exact ⟨hres, ⟨_, hv⟩, bt hbel (gr_drew _)⟩
          case stepq1 =>
            refine AllOps.cons (fun x u hC hT hp K hK => ?_) ?_
            · clear hp hT
              go_simp
              refine hK _ _ _ hC (by rfl) (by exact rfl) ?_
              simp only [Act.put, List.setIfInBounds_toArray, List.set_cons_succ, List.set_cons_zero]
            refine AllOps.cons (fun x u hC hT hp K hK => ?_) ?_
            · simp [KnownTill, Region.binds, VRn] at hp
              have hT1 : Blk u (w.heap.size + 1) 24 #[.int .i64 (id' : Nat), .slice Ao D.length co] := hT
              have s1 := hT1.cell 1
              simp only [List.getElem?_toArray, List.getElem?_cons_zero, List.getElem?_cons_succ] at s1
              clear hT
              go_simp
              refine hK _ _ _ hC (by rfl) (by exact rfl) ?_
              simp only [Act.put, List.setIfInBounds_toArray, List.set_cons_succ, List.set_cons_zero, hp]
            refine AllOps.cons (fun x u hC hT hp K hK => ?_) ?_
            · clear hp hT
              go_simp
              refine hK _ _ _ hC (by rfl) (by exact rfl) ?_
              simp only [Act.put, List.setIfInBounds_toArray, List.set_cons_succ, List.set_cons_zero]
            refine AllOps.cons (fun x u hC hT hp K hK => ?_) ?_
            · clear hp hT
              go_simp
              refine hK _ _ _ hC (by rfl) (by exact rfl) ?_
              simp only [Act.put, List.setIfInBounds_toArray, List.set_cons_succ, List.set_cons_zero]
            refine AllOps.cons (fun x u hC hT hp K hK => ?_) ?_
            · clear hp hT
              go_simp
              refine hK _ _ _ hC (by rfl) (by exact rfl) ?_
              simp only [Act.put, List.setIfInBounds_toArray, List.set_cons_succ, List.set_cons_zero]
            refine AllOps.cons (fun x u hC hT hp K hK => ?_) ?_
            · clear hp hT
              go_simp
              refine hK _ _ _ hC (by rfl) (by exact rfl) ?_
              simp only [Act.put, List.setIfInBounds_toArray, List.set_cons_succ, List.set_cons_zero]
            refine AllOps.cons (fun x u hC hT hp K hK => ?_) ?_
            · simp [KnownTill, Region.binds, VRn] at hp
              clear hT
              go_simp
              refine hK _ _ _ hC (by rfl) (by exact rfl) ?_
              first | (simp only [Act.put, List.setIfInBounds_toArray, List.set_cons_succ, List.set_cons_zero, hp]; done) | simp [Act.put, hp]
            refine AllOps.cons (fun x u hC hT hp K hK => ?_) ?_
            · simp [KnownTill, Region.binds, VRn] at hp
              clear hT
              have i1 : (0 : Int) ≤ (a : Int) + (q : Int) ∧ (a : Int) + (q : Int) ≤ (c : Int) := by omega
              have i2 : (0 : Int) ≤ (a : Int) + 4 ∧ (a : Int) + 4 ≤ max ((a : Int) + (q : Int)) 0 := by omega
              have i3 : (4 : Int) ≤ (q : Int) := by omega
              have t1 : ((a : Int) + 4).toNat = a + 4 := by omega
              have t2 : ((a : Int) + (q : Int)).toNat = a + q := by omega
              have t3 : a + q - (a + 4) = q - 4 := by omega
              rcases HS.out with ⟨h1, h2, h3⟩ | ⟨h1, h2, h3⟩
              · have h0 : p.length = 0 := by have := Hpl.out; omega
                have hz : q = 4 := by omega
                have H0 := Lib.hid h0
                have Hz := Lib.hid hz
                have H2 := Lib.hid h2
                have H3 := Lib.hid h3
                have i4 : (q : Int) ≤ 4 := by omega
                clear h0 h2 h3 hz
                go_simp
                try simp only [if_pos i1, if_pos i2, t1, t2, t3]
                try rw [if_pos h1]
                try go_simp
                have hz1 : q - 4 = 0 := by have := Hz.out; omega
                have hz2 : c - (a + 4) = 0 := by omega
                try simp only [hz1, hz2]
                refine hK (.slice (some ⟨B, o, none⟩) 0 0) _ _ hC (by rfl) (by show _ = _; rw [H0.out, H2.out, H3.out]) ?_
                simp [Act.put, hp]
                try omega
              · have H2 := Lib.hid h2
                have H3 := Lib.hid h3
                clear h2 h3
                go_simp
                try simp only [if_pos i1, if_pos i2, t1, t2, t3]
                try rw [if_neg h1]
                try go_simp
                refine hK (.slice (some ⟨B, o + (a + 4), none⟩) (q - 4) (c - (a + 4))) _ _ hC (by rfl) (by show _ = _; rw [H2.out, H3.out, Hpl.out]) ?_
                simp [Act.put, hp]
            refine AllOps.cons (fun x u hC hT hp K hK => ?_) ?_
            · simp [KnownTill, Region.binds, VRn] at hp
              have hO1 : Own u (w.heap.size + 2) 5 Ao co D := hT
              clear hT
              obtain ⟨hC1, ⟨z, hC2⟩, hC3⟩ := hC
              refine step_append_bs u rfl (.tmp 73) (.tmp 79) 22 rfl (w.heap.size + 2) 5 i0 _ Try.underlying22 hi hz0 hz1 hz2 rfl Ao co D D.length (by simp [Act.eval, hp]) rfl hO1 w.heap.size A7 c7 p p.length (by simp [Act.eval, hp]) rfl (hB7 u hC3) (by have := Hpl.out; omega) (by have := hC2.lt; omega) ?_
              intro A2 c2 u2 own2 hg2 hblk2
              refine hK (.slice A2 (D.length + p.length) c2) _ _ ⟨hC1.kept hg2 (fun e => by have := (hO1.lt _ e.symm).1; omega), ⟨z, hC2.kept hg2 (fun e => by have := (hO1.lt _ e.symm).1; omega)⟩, hC3.grown hg2 hC3.size (fun k e => by have := (hO1.lt _ e).1; omega)⟩ trivial ⟨A2, c2, by rw [HDl'.out], by rw [HD'.out]; exact own2⟩ ?_
              simp [Act.put, hp]
            refine AllOps.cons (fun x u hC hT hp K hK => ?_) ?_
            · clear hp hT
              go_simp
              refine hK _ _ _ hC (by rfl) (by exact rfl) ?_
              simp only [Act.put, List.setIfInBounds_toArray, List.set_cons_succ, List.set_cons_zero]
            refine AllOps.cons (fun x u hC hT hp K hK => ?_) ?_
            · simp [KnownTill, Region.binds, VRn] at hp
              clear hT
              obtain ⟨h9, ⟨A2, c2, h8, hO2⟩, hrest⟩ := hp
              clear hrest
              obtain ⟨hC1, ⟨z, hC2⟩, hC3⟩ := hC
              have s0 := hC2.cell 0
              have s1 := hC2.cell 1
              have g1 := hC2.frozen 1
              simp only [List.getElem?_toArray, List.getElem?_cons_zero, List.getElem?_cons_succ] at s0 s1
              have hbl2 := hC2.set_ 1 (.slice A2 D'.length c2)
              simp at hbl2
              go_simp
              refine hK undef _ (u.setCell ⟨w.heap.size + 1, 1, none⟩ (.slice A2 D'.length c2)) ⟨hC1.far (by show w.heap.size ≠ w.heap.size + 1; omega) _, ⟨_, hbl2⟩, hC3.setCell (by show w.heap.size ≤ w.heap.size + 1; omega) _⟩ ⟨_, rfl⟩ ⟨A2, c2, hbl2, hO2.kept (gset u (w.heap.size + 1) 1 _) (.inr (fun e => ?_))⟩ ?_
              · have := (hO2.lt _ e).1; omega
              · simp [Act.put, h8, h9]
            exact AllOps.nil
          case finq1 =>
            intro x u hC hV
            obtain ⟨A2, c2, hv2, hO2⟩ := hV 10 (by decide) rfl
            obtain ⟨hres2, _, hbel2⟩ := hC
            clear hV hv hO hres hbel
            have hpl := Hpl.out
            have hDl' := HDl'.out
            have hstp := nst_step (k := k) hst.out h2 Hn.out (by rw [Hqm.out]; omega) (by rw [Hqm.out]; omega) D' (by rw [HD'.out, Hp.out, Hqm.out]) id' (.inl ⟨hj0, Hid'.out⟩)
            rw [Hqm.out, ← hRk.out] at hstp
            obtain ⟨body', hst', hRn⟩ := hstp
            have HSt := Lib.hid hst'
            have HRn := Lib.hid hRn
            clear hst' hRn r0 r1 f0 f1 Q0 Q1
            have r0 := hres2.cell 0
            have r1 := hres2.cell 1
            have f0 := hres2.frozen 0
            have f1 := hres2.frozen 1
            simp only [List.getElem?_toArray, List.getElem?_cons_zero, List.getElem?_cons_succ] at r0 r1
            have hfin := (hres2.set_ 0 (.int .i64 0)).set_ 1 (.slice none 0 0)
            have q0 := hfin.cell 0
            have q1 := hfin.cell 1
            simp at q0 q1
            have Q0 := Lib.hid q0
            have Q1 := Lib.hid q1
            clear q0 q1 hfin
            have s0 := hv2.cell 0
            have s1 := hv2.cell 1
            have g0 := hv2.frozen 0
            have g1 := hv2.frozen 1
            simp only [List.getElem?_toArray, List.getElem?_cons_zero, List.getElem?_cons_succ] at s0 s1
            have hDm : D'.length ≤ 200000000 := by omega
            have HDl' := Lib.hid hDl'
            clear hDl'
            by_cases hbig : 2048 < D'.length
            · have Heq : Hid (R = (0, [], 0, 40)) := Lib.hid (by rw [HRn.out, if_pos hbig])
              have hbb : decide ((2048 : Int) < (D'.length : Int)) = true := by simp; omega
              clear hbig
              go_wp2
              try simp only [Exit.jump]
              have q0 := Q0.out
              have q1 := Q1.out
              refine bodyPost_ret (by simp [results, Try.results16, go_sem, q0, q1]; rfl) rfl ?_
              refine ⟨none, 0, by rw [Heq.out]; rfl, fun h => absurd h (by rw [Heq.out]; simp), ?_, by rw [Heq.out]; simp, by omega⟩
              exact (hbel2.setCell (Nat.le_refl _) _).setCell (Nat.le_refl _) _
            · have Heq : Hid (R = nextGo b k (a + q) body' 2) := Lib.hid (by rw [HRn.out, if_neg hbig, if_neg Hl.out])
              have hbb : decide ((2048 : Int) < (D'.length : Int)) = false := by simp; omega
              have Hbig := Lib.hid hbig
              clear hbig
              go_wp2
              go_roundw
              case rel => exact ⟨k, j + 1, a + q, 2, id', body', D', A2, c2, by omega, h4, by go_num, by go_num, HSt, by have := Hbig.out; omega, Heq, hres2, hv2, hO2, hbel2⟩
              case measure => simp [intOf]; omega
        · have hlst : least = 2 := by rcases hst.out with h | h <;> omega
          subst hlst
          have hjb : (((j : Int) + 1) == 1) = false := beq_eq_false_iff_ne.2 (by omega)
          rcases Nat.lt_or_ge q 2 with h3 | h3
          · have Heq : Hid (R = (0, [], 0, 40)) := Lib.hid (by rw [hRk.out]; exact nst_gds h2 Hn.out (by rw [Hqm.out]; exact h3))
            have k1 : decide ((a : Int) + (q : Int) < (a : Int) + 2) = true := by simp; omega
            have k2 : decide ((q : Int) < 2) = true := by simp; omega
            clear h3
            go_wp2
            try simp only [Exit.jump]
            have q0 := Q0.out
            have q1 := Q1.out
            refine bodyPost_ret (by simp [results, Try.results16, go_sem, q0, q1]; rfl) rfl ?_
            refine ⟨none, 0, by rw [Heq.out]; rfl, fun h => absurd h (by rw [Heq.out]; simp), ?_, by rw [Heq.out]; simp, by omega⟩
            exact (hbel.setCell (Nat.le_refl _) _).setCell (Nat.le_refl _) _
          have k1 : decide ((a : Int) + (q : Int) < (a : Int) + 2) = false := by simp; omega
          have k2 : decide ((q : Int) < 2) = false := by simp; omega
          have H3 := Lib.hid h3
          clear h3
          rcases Nat.lt_or_ge b.length (a + q) with h4 | h4
          · have Heq : Hid (R = (0, [], 0, 11)) := Lib.hid (by rw [hRk.out]; exact nst_cut h2 Hn.out (by rw [Hqm.out]; have := H3.out; omega) (by rw [Hqm.out]; exact h4))
            have k3 : decide ((b.length : Int) < (a : Int) + (q : Int)) = true := by simp; omega
            clear h4
            go_wp2
            try simp only [Exit.jump]
            have q0 := Q0.out
            have q1 := Q1.out
            refine bodyPost_ret (by simp [results, Try.results16, go_sem, q0, q1]; rfl) rfl ?_
            refine ⟨none, 0, by rw [Heq.out]; rfl, fun h => absurd h (by rw [Heq.out]; simp), ?_, by rw [Heq.out]; simp, by omega⟩
            exact (hbel.setCell (Nat.le_refl _) _).setCell (Nat.le_refl _) _
          have k3 : decide ((b.length : Int) < (a : Int) + (q : Int)) = false := by simp; omega
          have H4 := Lib.hid h4
          clear h4
          go_wp2_with fail
          have h3 := H3.out
          have h4 := H4.out
          obtain ⟨p, hp⟩ : ∃ p, p = (b.drop (a + 2)).take (q - 2) := ⟨_, rfl⟩
          have hpl : p.length = q - 2 := by rw [hp, List.length_take, List.length_drop]; omega
          have hbp : ∀ u : World, Below w.heap.size w u → Bs u w.heap.size (some ⟨B, o + (a + 2), none⟩) p := fun u hu => by rw [hp]; exact bs_take (bs_dropM (hs.below hu) (a + 2)) _
          obtain ⟨A7, c7, hS⟩ : ∃ (A7 : Option Addr) (c7 : Nat), (c = a + 2 ∧ A7 = some ⟨B, o, none⟩ ∧ c7 = 0) ∨ (c ≠ a + 2 ∧ A7 = some ⟨B, o + (a + 2), none⟩ ∧ c7 = c - (a + 2)) := by by_cases h : c = a + 2; exact ⟨_, _, .inl ⟨h, rfl, rfl⟩⟩; exact ⟨_, _, .inr ⟨h, rfl, rfl⟩⟩
          have hB7 : ∀ u : World, Below w.heap.size w u → Bs u w.heap.size A7 p := fun u hu => by
            rcases hS with ⟨h, _, _⟩ | ⟨_, h, _⟩
            · exact fun h0 => absurd h0 (by omega)
            · rw [h]; exact hbp u hu
          clear hbp
          have HS := Lib.hid hS
          have Hp := Lib.hid hp
          clear hp hS
          obtain ⟨D', hD'⟩ : ∃ D', D' = D ++ p := ⟨_, rfl⟩
          have hDl' : D'.length = D.length + p.length := by rw [hD', List.length_append]
          have HD' := Lib.hid hD'
          clear hD'
          try simp only [hd64, hd2]
          have hwr : IntKind.i64.wrap ((a : Int) + (q : Int)) = (a : Int) + (q : Int) := IntWalk.i64_in _ (by omega)
          have Hpl := Lib.hid hpl
          have HDl' := Lib.hid hDl'
          clear hpl hDl'
          refine wp_region_invT (F := ?Fq2) (V := VRn w.heap.size (.slice (some ⟨B, o, none⟩) b.length c) Ao co D (.slice A7 p.length c7) ((a : Int) + 2) a q ((a : Int) + q) idv D') (dead := fun _ => none) (T := TRn w.heap.size idv Ao co D) (C := fun u => Blk u w.heap.size 24 #[.int .i64 0, .slice none 0 0] ∧ (∃ z, Blk u (w.heap.size + 1) 24 #[.int .i64 (idv : Nat), z]) ∧ Below w.heap.size w u) (E := ERn w.heap.size) (by kernel_rfl) (by kernel_rfl) (by kernel_rfl) (fun x => ?hFq2) ?hmonoq2 ?hTmq2 ?hTq2 ?hCq2 ?stepq2 ?finq2
          case hFq2 => simp only [mkA, Act.put, List.setIfInBounds_toArray, List.set_cons_succ, List.set_cons_zero, Nat.reduceAdd, Nat.zero_add]; first | with_reducible rfl | rfl
          case hmonoq2 => exact fun k i v u u' he hik hwt _ hv => VRn.mono (fun h => tf hwt (by rw [h.1, h.2]; kernel_rfl)) hik he hv
          case hTmq2 => exact fun k j u u' he hkj hwt hv => TRn.mono (fun h => tf hwt (by rw [h.1, h.2]; kernel_rfl)) (fun h => tf hwt (by rw [h.1, h.2]; kernel_rfl)) (fun h => tf hwt (by rw [h.1, h.2]; kernel_rfl)) hkj he hv
          case hTq2 => exact fun j => TRn.of hv hO j
          case hCq2 => exact ⟨hres, ⟨_, hv⟩, bt hbel (gr_drew _)⟩
          case stepq2 =>
            refine AllOps.cons (fun x u hC hT hp K hK => ?_) ?_
            · clear hp hT
              go_simp
              refine hK _ _ _ hC (by rfl) (by exact rfl) ?_
              simp only [Act.put, List.setIfInBounds_toArray, List.set_cons_succ, List.set_cons_zero]
            refine AllOps.cons (fun x u hC hT hp K hK => ?_) ?_
            · simp [KnownTill, Region.binds, VRn] at hp
              have hT1 : Blk u (w.heap.size + 1) 24 #[.int .i64 (idv : Nat), .slice Ao D.length co] := hT
              have s1 := hT1.cell 1
              simp only [List.getElem?_toArray, List.getElem?_cons_zero, List.getElem?_cons_succ] at s1
              clear hT
              go_simp
              refine hK _ _ _ hC (by rfl) (by exact rfl) ?_
              simp only [Act.put, List.setIfInBounds_toArray, List.set_cons_succ, List.set_cons_zero, hp]
            refine AllOps.cons (fun x u hC hT hp K hK => ?_) ?_
            · clear hp hT
              go_simp
              refine hK _ _ _ hC (by rfl) (by exact rfl) ?_
              simp only [Act.put, List.setIfInBounds_toArray, List.set_cons_succ, List.set_cons_zero]
            refine AllOps.cons (fun x u hC hT hp K hK => ?_) ?_
            · clear hp hT
              go_simp
              refine hK _ _ _ hC (by rfl) (by exact rfl) ?_
              simp only [Act.put, List.setIfInBounds_toArray, List.set_cons_succ, List.set_cons_zero]
            refine AllOps.cons (fun x u hC hT hp K hK => ?_) ?_
            · clear hp hT
              go_simp
              refine hK _ _ _ hC (by rfl) (by exact rfl) ?_
              simp only [Act.put, List.setIfInBounds_toArray, List.set_cons_succ, List.set_cons_zero]
            refine AllOps.cons (fun x u hC hT hp K hK => ?_) ?_
            · clear hp hT
              go_simp
              refine hK _ _ _ hC (by rfl) (by exact rfl) ?_
              simp only [Act.put, List.setIfInBounds_toArray, List.set_cons_succ, List.set_cons_zero]
            refine AllOps.cons (fun x u hC hT hp K hK => ?_) ?_
            · simp [KnownTill, Region.binds, VRn] at hp
              clear hT
              go_simp
              refine hK _ _ _ hC (by rfl) (by exact rfl) ?_
              first | (simp only [Act.put, List.setIfInBounds_toArray, List.set_cons_succ, List.set_cons_zero, hp]; done) | simp [Act.put, hp]
            refine AllOps.cons (fun x u hC hT hp K hK => ?_) ?_
            · simp [KnownTill, Region.binds, VRn] at hp
              clear hT
              have i1 : (0 : Int) ≤ (a : Int) + (q : Int) ∧ (a : Int) + (q : Int) ≤ (c : Int) := by omega
              have i2 : (0 : Int) ≤ (a : Int) + 2 ∧ (a : Int) + 2 ≤ max ((a : Int) + (q : Int)) 0 := by omega
              have i3 : (2 : Int) ≤ (q : Int) := by omega
              have t1 : ((a : Int) + 2).toNat = a + 2 := by omega
              have t2 : ((a : Int) + (q : Int)).toNat = a + q := by omega
              have t3 : a + q - (a + 2) = q - 2 := by omega
              rcases HS.out with ⟨h1, h2, h3⟩ | ⟨h1, h2, h3⟩
              · have h0 : p.length = 0 := by have := Hpl.out; omega
                have hz : q = 2 := by omega
                have H0 := Lib.hid h0
                have Hz := Lib.hid hz
                have H2 := Lib.hid h2
                have H3 := Lib.hid h3
                have i4 : (q : Int) ≤ 2 := by omega
                clear h0 h2 h3 hz
                go_simp
                try simp only [if_pos i1, if_pos i2, t1, t2, t3]
                try rw [if_pos h1]
                try go_simp
                have hz1 : q - 2 = 0 := by have := Hz.out; omega
                have hz2 : c - (a + 2) = 0 := by omega
                try simp only [hz1, hz2]
                refine hK (.slice (some ⟨B, o, none⟩) 0 0) _ _ hC (by rfl) (by show _ = _; rw [H0.out, H2.out, H3.out]) ?_
                simp [Act.put, hp]
                try omega
              · have H2 := Lib.hid h2
                have H3 := Lib.hid h3
                clear h2 h3
                go_simp
                try simp only [if_pos i1, if_pos i2, t1, t2, t3]
                try rw [if_neg h1]
                try go_simp
                refine hK (.slice (some ⟨B, o + (a + 2), none⟩) (q - 2) (c - (a + 2))) _ _ hC (by rfl) (by show _ = _; rw [H2.out, H3.out, Hpl.out]) ?_
                simp [Act.put, hp]
            refine AllOps.cons (fun x u hC hT hp K hK => ?_) ?_
            · simp [KnownTill, Region.binds, VRn] at hp
              have hO1 : Own u (w.heap.size + 2) 5 Ao co D := hT
              clear hT
              obtain ⟨hC1, ⟨z, hC2⟩, hC3⟩ := hC
              refine step_append_bs u rfl (.tmp 73) (.tmp 79) 22 rfl (w.heap.size + 2) 5 i0 _ Try.underlying22 hi hz0 hz1 hz2 rfl Ao co D D.length (by simp [Act.eval, hp]) rfl hO1 w.heap.size A7 c7 p p.length (by simp [Act.eval, hp]) rfl (hB7 u hC3) (by have := Hpl.out; omega) (by have := hC2.lt; omega) ?_
              intro A2 c2 u2 own2 hg2 hblk2
              refine hK (.slice A2 (D.length + p.length) c2) _ _ ⟨hC1.kept hg2 (fun e => by have := (hO1.lt _ e.symm).1; omega), ⟨z, hC2.kept hg2 (fun e => by have := (hO1.lt _ e.symm).1; omega)⟩, hC3.grown hg2 hC3.size (fun k e => by have := (hO1.lt _ e).1; omega)⟩ trivial ⟨A2, c2, by rw [HDl'.out], by rw [HD'.out]; exact own2⟩ ?_
              simp [Act.put, hp]
            refine AllOps.cons (fun x u hC hT hp K hK => ?_) ?_
            · clear hp hT
              go_simp
              refine hK _ _ _ hC (by rfl) (by exact rfl) ?_
              simp only [Act.put, List.setIfInBounds_toArray, List.set_cons_succ, List.set_cons_zero]
            refine AllOps.cons (fun x u hC hT hp K hK => ?_) ?_
            · simp [KnownTill, Region.binds, VRn] at hp
              clear hT
              obtain ⟨h9, ⟨A2, c2, h8, hO2⟩, hrest⟩ := hp
              clear hrest
              obtain ⟨hC1, ⟨z, hC2⟩, hC3⟩ := hC
              have s0 := hC2.cell 0
              have s1 := hC2.cell 1
              have g1 := hC2.frozen 1
              simp only [List.getElem?_toArray, List.getElem?_cons_zero, List.getElem?_cons_succ] at s0 s1
              have hbl2 := hC2.set_ 1 (.slice A2 D'.length c2)
              simp at hbl2
              go_simp
              refine hK undef _ (u.setCell ⟨w.heap.size + 1, 1, none⟩ (.slice A2 D'.length c2)) ⟨hC1.far (by show w.heap.size ≠ w.heap.size + 1; omega) _, ⟨_, hbl2⟩, hC3.setCell (by show w.heap.size ≤ w.heap.size + 1; omega) _⟩ ⟨_, rfl⟩ ⟨A2, c2, hbl2, hO2.kept (gset u (w.heap.size + 1) 1 _) (.inr (fun e => ?_))⟩ ?_
              · have := (hO2.lt _ e).1; omega
              · simp [Act.put, h8, h9]
            exact AllOps.nil
          case finq2 =>
            intro x u hC hV
            obtain ⟨A2, c2, hv2, hO2⟩ := hV 10 (by decide) rfl
            obtain ⟨hres2, _, hbel2⟩ := hC
            clear hV hv hO hres hbel
            have hpl := Hpl.out
            have hDl' := HDl'.out
            have hstp := nst_step (k := k) hst.out h2 Hn.out (by rw [Hqm.out]; omega) (by rw [Hqm.out]; omega) D' (by rw [HD'.out, Hp.out, Hqm.out]) idv (.inr ⟨by rcases hst.out with h | h <;> omega, rfl⟩)
            rw [Hqm.out, ← hRk.out] at hstp
            obtain ⟨body', hst', hRn⟩ := hstp
            have HSt := Lib.hid hst'
            have HRn := Lib.hid hRn
            clear hst' hRn r0 r1 f0 f1 Q0 Q1
            have r0 := hres2.cell 0
            have r1 := hres2.cell 1
            have f0 := hres2.frozen 0
            have f1 := hres2.frozen 1
            simp only [List.getElem?_toArray, List.getElem?_cons_zero, List.getElem?_cons_succ] at r0 r1
            have hfin := (hres2.set_ 0 (.int .i64 0)).set_ 1 (.slice none 0 0)
            have q0 := hfin.cell 0
            have q1 := hfin.cell 1
            simp at q0 q1
            have Q0 := Lib.hid q0
            have Q1 := Lib.hid q1
            clear q0 q1 hfin
            have s0 := hv2.cell 0
            have s1 := hv2.cell 1
            have g0 := hv2.frozen 0
            have g1 := hv2.frozen 1
            simp only [List.getElem?_toArray, List.getElem?_cons_zero, List.getElem?_cons_succ] at s0 s1
            have hDm : D'.length ≤ 200000000 := by omega
            have HDl' := Lib.hid hDl'
            clear hDl'
            by_cases hbig : 2048 < D'.length
            · have Heq : Hid (R = (0, [], 0, 40)) := Lib.hid (by rw [HRn.out, if_pos hbig])
              have hbb : decide ((2048 : Int) < (D'.length : Int)) = true := by simp; omega
              clear hbig
              go_wp2
              try simp only [Exit.jump]
              have q0 := Q0.out
              have q1 := Q1.out
              refine bodyPost_ret (by simp [results, Try.results16, go_sem, q0, q1]; rfl) rfl ?_
              refine ⟨none, 0, by rw [Heq.out]; rfl, fun h => absurd h (by rw [Heq.out]; simp), ?_, by rw [Heq.out]; simp, by omega⟩
              exact (hbel2.setCell (Nat.le_refl _) _).setCell (Nat.le_refl _) _
            · have Heq : Hid (R = nextGo b k (a + q) body' 2) := Lib.hid (by rw [HRn.out, if_neg hbig, if_neg Hl.out])
              have hbb : decide ((2048 : Int) < (D'.length : Int)) = false := by simp; omega
              have Hbig := Lib.hid hbig
              clear hbig
              go_wp2
              go_roundw
              case rel => exact ⟨k, j + 1, a + q, 2, idv, body', D', A2, c2, by omega, h4, by go_num, by go_num, HSt, by have := Hbig.out; omega, Heq, hres2, hv2, hO2, hbel2⟩
              case measure => simp [intOf]; omega

end Go.Proofs.Ytoahmifmoekjoaa
