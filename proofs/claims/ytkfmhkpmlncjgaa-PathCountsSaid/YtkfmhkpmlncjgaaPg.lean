/- Layer 8: the laws' calls, opened; is a text among some? -/
import Derived.Test.YtkfmhkpmlncjgaaPd
import Derived.Test.YtkfmhkpmlncjgaaPe
namespace Go.Proofs.Ytkfmhkpmlncjgaa
open Go.RowKit Go.ChangeShapes Go.WideShapes Go.Joins Go.Deep
set_option linter.unusedVariables false
set_option linter.unusedSimpArgs false

structure OpV where
  k : Int
  i : Int
  t : Int
  A : Option Addr
  b : List UInt8
  c : Nat
  y : UInt8
/-- The values of an Op: its bytes lie in memory. -/
structure OpOk (w : World) (o : OpV) : Prop where
  k1 : -9223372036854775808 ≤ o.k
  k2 : o.k ≤ 9223372036854775807
  i1 : -9223372036854775808 ≤ o.i
  i2 : o.i ≤ 9223372036854775807
  t1 : -9223372036854775808 ≤ o.t
  t2 : o.t ≤ 9223372036854775807
  bs : Bs w w.heap.size o.A o.b
  len : o.b.length ≤ o.c
  cap : o.c ≤ 9223372036854775807
/-- A list of Ops in memory. -/
def OpsAt (w : World) (A : Option Addr) (ops : List OpV) : Prop :=
  ops.length ≤ maxLen ∧ (∀ o ∈ ops, OpOk w o) ∧ (0 < ops.length → ∃ b o, A = some ⟨b, o, none⟩ ∧ b < w.heap.size ∧ ∀ i, (h : i < ops.length) →
    w.cell? ⟨b, o + i * 5, none⟩ = some (.int .i64 (ops[i]'h).k) ∧ w.cell? ⟨b, o + i * 5 + 1, none⟩ = some (.int .i64 (ops[i]'h).i) ∧ w.cell? ⟨b, o + i * 5 + 2, none⟩ = some (.int .i64 (ops[i]'h).t) ∧
    w.cell? ⟨b, o + i * 5 + 3, none⟩ = some (.slice (ops[i]'h).A (ops[i]'h).b.length (ops[i]'h).c) ∧ w.cell? ⟨b, o + i * 5 + 4, none⟩ = some (.int .u8 ((ops[i]'h).y.toNat : Int)))
theorem OpOk.below {w w' : World} {o : OpV} (h : OpOk w o) (hb : Below w.heap.size w w') : OpOk w' o := ⟨h.k1, h.k2, h.i1, h.i2, h.t1, h.t2, h.bs.bt hb, h.len, h.cap⟩
theorem OpsAt.below {w w' : World} {A : Option Addr} {ops : List OpV} (h : OpsAt w A ops) (hb : Below w.heap.size w w') : OpsAt w' A ops := by
  refine ⟨h.1, fun o ho => (h.2.1 o ho).below hb, fun hl => ?_⟩
  obtain ⟨b, o, rfl, hlt, hc⟩ := h.2.2 hl
  refine ⟨b, o, rfl, Nat.lt_of_lt_of_le hlt hb.size, fun i hi => ?_⟩
  obtain ⟨h1, h2, h3, h4, h5⟩ := hc i hi
  exact ⟨(hb.cell (p := ⟨b, _, none⟩) hlt).trans h1, (hb.cell (p := ⟨b, _, none⟩) hlt).trans h2, (hb.cell (p := ⟨b, _, none⟩) hlt).trans h3, (hb.cell (p := ⟨b, _, none⟩) hlt).trans h4, (hb.cell (p := ⟨b, _, none⟩) hlt).trans h5⟩
section
variable {H : Type} {enc : TypeId × Value → H} {P : Program} {W : World} {base : Nat} {spare : Nat → Bool} {held : Bool}
theorem int_trod {t : TypeId} {n : Nat} {v : Value} {y : DataW H × List MemPlace} (ht : P.underlying t = some (.int .i64)) (h : DataW.trod enc P W base spare held n t [v] = some y) :
    ∃ a : Int, v = .int .i64 a ∧ -9223372036854775808 ≤ a ∧ a ≤ 9223372036854775807 := by
  obtain ⟨a, e, _, hw⟩ := DataW.trod_int ht h
  simp at e
  exact ⟨a, e, i64_bd hw⟩
theorem byte_trod {t : TypeId} {n : Nat} {v : Value} {y : DataW H × List MemPlace} (ht : P.underlying t = some (.int .u8)) (h : DataW.trod enc P W base spare held n t [v] = some y) :
    ∃ a : UInt8, v = .int .u8 (a.toNat : Int) := by
  obtain ⟨a, e, _, hw⟩ := DataW.trod_int ht h
  simp at e
  obtain ⟨x, rfl⟩ := u8_byte hw
  exact ⟨x, e⟩
end
section
variable {H : Type} {enc : TypeId × Value → H} {W : World}
theorem open_ops {r : Reach} {b0 : Nat} {v : Value} {d : DataW H} {p : List MemPlace} (hval : Value.okWide Try.prog W r b0 22 v) (h : DataW.Trod enc Try.prog W 0 (fun _ => true) true 22 v d p) :
    ∃ A ops c, v = .slice A (List.length ops) c ∧ OpsAt W A ops := by
  obtain ⟨a, len, cap, rfl⟩ := okWide_slice Try.underlying22 hval
  obtain ⟨fuel, hf⟩ := h
  have hC : Try.prog.cellsOf 31 = 5 := by kernel_rfl
  rcases open_slice Try.underlying22 hf with ⟨hcs, _⟩ | ⟨x, l, c, m, n, D, Pl, hcs, _, hl, hm, hmm, _, hi⟩
  · simp [Value.cells] at hcs
    obtain ⟨rfl, rfl, rfl⟩ := hcs
    exact ⟨none, [], 0, rfl, by simp [maxLen], by simp, fun h => absurd h (by simp)⟩
  · simp [Value.cells] at hcs
    obtain ⟨rfl, rfl, rfl⟩ := hcs
    simp only [if_true] at hmm
    subst hmm
    have each : ∀ i, i < m → ∃ o : OpV, OpOk W o ∧ W.cell? (x.add (i * 5)) = some (.int .i64 o.k) ∧ W.cell? ((x.add (i * 5)).add 1) = some (.int .i64 o.i) ∧ W.cell? ((x.add (i * 5)).add 2) = some (.int .i64 o.t) ∧ W.cell? ((x.add (i * 5)).add 3) = some (.slice o.A o.b.length o.c) ∧ W.cell? ((x.add (i * 5)).add 4) = some (.int .u8 (o.y.toNat : Int)) := by
      intro i him
      obtain ⟨cs', hc, ht⟩ := hi i him
      rw [hC] at hc
      obtain ⟨_, hcl, hat⟩ := World.cells?_some hc
      obtain ⟨xs, n', _, _, _, hxl, hf'⟩ := DataW.trod_struct Try.underlying31 ht
      match cs', hcl with
      | [c0, c1, c2, c3, c4], _ =>
        match xs, hxl with
        | [y0, y1, y2, y3, y4], _ =>
          have g0 := hf' 0 _ rfl
          have g1 := hf' 1 _ rfl
          have g2 := hf' 2 _ rfl
          have g3 := hf' 3 _ rfl
          have g4 := hf' 4 _ rfl
          have e3 : Try.prog.cellsOf 3 = 1 := by kernel_rfl
          have e30 : Try.prog.cellsOf 29 = 1 := by kernel_rfl
          have e8 : Try.prog.cellsOf 5 = 1 := by kernel_rfl
          simp [e3, e30, e8] at g0 g1 g2 g3 g4
          obtain ⟨k, rfl, k1, k2⟩ := int_trod Try.underlying3 g0
          obtain ⟨q, rfl, n1, n2⟩ := int_trod Try.underlying3 g1
          obtain ⟨r, rfl, m1, m2⟩ := int_trod Try.underlying3 g2
          obtain ⟨A, l, c, rfl, hb, hl', hcap⟩ := bsc_trod Try.underlying29 Try.underlying5 (by kernel_rfl) g3
          obtain ⟨y, rfl⟩ := byte_trod Try.underlying5 g4
          have a0 := hat 0 (by omega)
          have a1 := hat 1 (by omega)
          have a2 := hat 2 (by omega)
          have a3 := hat 3 (by omega)
          have a4 := hat 4 (by omega)
          have ez : (x.add (i * 5)).add 0 = x.add (i * 5) := by simp [Addr.add]
          rw [ez] at a0
          exact ⟨⟨k, q, r, A, l, c, y⟩, ⟨k1, k2, n1, n2, m1, m2, hb, hl', hcap⟩, a0, a1, a2, a3, a4⟩
    let f : Nat → OpV := fun i => if h : i < m then (each i h).choose else ⟨0, 0, 0, none, [], 0, 0⟩
    have hf1 : ∀ i, (h : i < m) → OpOk W (f i) ∧ W.cell? (x.add (i * 5)) = some (.int .i64 (f i).k) ∧ W.cell? ((x.add (i * 5)).add 1) = some (.int .i64 (f i).i) ∧ W.cell? ((x.add (i * 5)).add 2) = some (.int .i64 (f i).t) ∧ W.cell? ((x.add (i * 5)).add 3) = some (.slice (f i).A (f i).b.length (f i).c) ∧ W.cell? ((x.add (i * 5)).add 4) = some (.int .u8 ((f i).y.toNat : Int)) := by
      intro i h
      have := (each i h).choose_spec
      simp only [f, dif_pos h]
      exact this
    refine ⟨some x, (List.range len).map f, m, by simp, ⟨by simp; omega, fun o ho => ?_, fun hpos => ?_⟩⟩
    · obtain ⟨i, hi', rfl⟩ := List.mem_map.1 ho
      exact (hf1 i (by have := List.mem_range.1 hi'; omega)).1
    · have hpos' : 0 < len := by simpa using hpos
      have h00 := (hf1 0 (by omega)).2.1
      have ez : x.add (0 * 5) = x := by simp [Addr.add]
      rw [ez] at h00
      obtain ⟨b, o, rfl, hlt⟩ := add_spot h00
      refine ⟨b, o, rfl, hlt, fun i hi' => ?_⟩
      have hi2 : i < len := by simpa using hi'
      have := (hf1 i (by omega)).2
      simp only [Addr.add_lit] at this
      simpa using this
end

def VIn (Ab : Option Addr) (nb cb : Nat) (l m : List UInt8) (b o n c k : Nat) (Ai : Option Addr) (ci : Nat) (i : Nat) (v : Value) (w : World) : Prop :=
  match i with
  | 0 => v = .slice (some ⟨b, o, none⟩) n c
  | 1 => v = .int .i64 k
  | 2 => v = .pointer (some ⟨b, o + k, none⟩)
  | 3 => v = .slice Ai l.length ci
  | 4 => v = .string ⟨l.toArray⟩
  | 5 => v = .slice Ab nb cb
  | 6 => v = .string ⟨m.toArray⟩
  | 7 => v = .bool (decide (l = m))
  | _ => True
theorem VIn.mono {Ab : Option Addr} {nb cb : Nat} {l m : List UInt8} {b o n c k : Nat} {Ai : Option Addr} {ci : Nat} {i : Nat} {v : Value} {u u' : World} (hv : VIn Ab nb cb l m b o n c k Ai ci i v u) : VIn Ab nb cb l m b o n c k Ai ci i v u' := by
  unfold VIn at hv ⊢; split at hv <;> exact hv
theorem eqlm (l m : List UInt8) : (l == m) = decide (l = m) := by by_cases h : l = m <;> simp [h]
theorem str_eq (l m : List UInt8) : ((⟨l.toArray⟩ : ByteArray) = ⟨m.toArray⟩) ↔ l = m := by
  constructor
  · intro h; injection h with h; simpa using h
  · rintro rfl; rfl
set_option maxRecDepth 100000 in
set_option maxHeartbeats 4000000 in
theorem in_any (A : Option Addr) (ls : List (List UInt8)) (n c : Nat) (hn : Hid (n = ls.length)) (Ab : Option Addr) (m : List UInt8) (nb cb : Nat) (hnb : Hid (nb = m.length)) (w : World) (hls : ListAt w w.heap.size A ls) (hn1 : n ≤ 1000000) (hbs : Bs w w.heap.size Ab m) : Calls Try.prog 22 #[.slice A n c, .slice Ab nb cb] w fun e w' => e = .returned (.bool (decide (m ∈ ls))) ∧ Below w.heap.size w w' := by
  have HLS := Lib.hid hls
  have HN1 := Lib.hid hn1
  obtain ⟨R, hR⟩ : ∃ R, R = decide (m ∈ ls) := ⟨_, rfl⟩
  rw [← hR]
  have HR := Lib.hid hR
  clear hls hR
  go_enter Try.func22, Try.ntmps22
  go_wp2
  go_loopw [5] (fun i wr => ∃ k : Nat, k ≤ n ∧ i = .int .i64 k ∧ Hid (∀ j, (h : j < ls.length) → j < k → ls[j] ≠ m) ∧ Below w.heap.size w wr) (fun i _ => n - (intOf i).toNat)
  case atStart => exact ⟨0, Nat.zero_le _, rfl, Lib.hid (fun j _ hj => absurd hj (by omega)), Below.refl _ _⟩
  case round =>
    obtain ⟨k, hk, rfl, hno, hbr⟩ := hrel
    by_cases hlt : k < n
    · have hkl : k < ls.length := by rw [← hn.out]; exact hlt
      obtain ⟨b, o, rfl, hblt, hcs⟩ := (HLS.out.bt hbr) (by omega)
      obtain ⟨Ai, ci, hcl, hbs2⟩ := hcs k hkl
      obtain ⟨l, hl⟩ : ∃ l, l = ls[k] := ⟨_, rfl⟩
      rw [← hl] at hcl hbs2
      have Hl : Hid (l = ls[k]'hkl) := Lib.hid hl
      have hkI : (k : Int) < (n : Int) := by omega
      have hbs3 := hbs.bt hbr
      clear hl hcs
      go_wp2_with fail

      refine wp_region_invT (F := ?FF) (V := VIn Ab nb cb l m b o n c k Ai ci) (dead := fun _ => none) (T := fun _ _ => True) (C := fun u' => Below wr.heap.size wr u') (E := fun _ u u' => u' = u) (by kernel_rfl) (by kernel_rfl) (by kernel_rfl) (fun x => ?hFF) ?hmonoF ?hTmF ?hTF ?hCF ?stepF ?finF
      case hFF => simp only [mkA, Act.put, List.setIfInBounds_toArray, List.set_cons_succ, List.set_cons_zero, Nat.reduceAdd, Nat.zero_add]; first | with_reducible rfl | rfl
      case hmonoF => exact fun q2 j v u u' he hik hwt hdd hv => VIn.mono hv
      case hTmF => exact fun _ _ _ _ _ _ _ _ => trivial
      case hTF => exact fun j => trivial
      case hCF => exact below_drew _
      case stepF =>
        refine AllOps.cons (fun x u hC hT hp K hK => ?_) ?_
        · clear hp hT
          go_simp
          refine hK _ _ _ hC (by rfl) (by exact rfl) ?_
          first | (simp only [Act.put, List.setIfInBounds_toArray, List.set_cons_succ, List.set_cons_zero]; done) | simp [Act.put]
        refine AllOps.cons (fun x u hC hT hp K hK => ?_) ?_
        · simp [KnownTill, Region.binds, VIn] at hp
          clear hT
          go_simp
          refine hK _ _ _ hC (by rfl) (by exact rfl) ?_
          first | (simp only [Act.put, List.setIfInBounds_toArray, List.set_cons_succ, List.set_cons_zero, hp]; done) | simp [Act.put, hp]
        refine AllOps.cons (fun x u hC hT hp K hK => ?_) ?_
        · simp [KnownTill, Region.binds, VIn] at hp
          clear hT
          have hpp := hp
          go_simp
          refine hK _ _ _ hC (by rfl) (by exact rfl) ?_
          first | (simp only [Act.put, List.setIfInBounds_toArray, List.set_cons_succ, List.set_cons_zero, hpp]; done) | simp [Act.put, hpp]
        refine AllOps.cons (fun x u hC hT hp K hK => ?_) ?_
        · simp [KnownTill, Region.binds, VIn] at hp
          clear hT
          have cl : u.cell? ⟨b, o + k, none⟩ = some (.slice Ai l.length ci) := (hC.cell (p := ⟨b, o + k, none⟩) hblt).trans hcl
          go_simp
          refine hK _ _ _ hC (by rfl) (by exact rfl) ?_
          first | (simp only [Act.put, List.setIfInBounds_toArray, List.set_cons_succ, List.set_cons_zero, hp]; done) | simp [Act.put, hp]
        refine AllOps.cons (fun x u hC hT hp K hK => ?_) ?_
        · simp [KnownTill, Region.binds, VIn] at hp
          clear hT
          have cv := conv_n Ai l l.length ci (Lib.hid rfl) u _ (hbs2.bt hC)
          go_simp
          refine hK _ _ _ hC (by rfl) (by exact rfl) ?_
          first | (simp only [Act.put, List.setIfInBounds_toArray, List.set_cons_succ, List.set_cons_zero, hp]; done) | simp [Act.put, hp]
        refine AllOps.cons (fun x u hC hT hp K hK => ?_) ?_
        · simp [KnownTill, Region.binds, VIn] at hp
          clear hT
          go_simp
          refine hK _ _ _ hC (by rfl) (by exact rfl) ?_
          first | (simp only [Act.put, List.setIfInBounds_toArray, List.set_cons_succ, List.set_cons_zero, hp]; done) | simp [Act.put, hp]
        refine AllOps.cons (fun x u hC hT hp K hK => ?_) ?_
        · simp [KnownTill, Region.binds, VIn] at hp
          clear hT
          have cv := conv_n Ab m nb cb hnb u _ (hbs3.bt hC)
          go_simp
          refine hK _ _ _ hC (by rfl) (by exact rfl) ?_
          first | (simp only [Act.put, List.setIfInBounds_toArray, List.set_cons_succ, List.set_cons_zero, hp]; done) | simp [Act.put, hp]
        refine AllOps.cons (fun x u hC hT hp K hK => ?_) ?_
        · simp [KnownTill, Region.binds, VIn] at hp
          clear hT
          go_simp
          refine hK _ _ _ hC (by rfl) (by exact rfl) ?_
          first | (simp only [Act.put, List.setIfInBounds_toArray, List.set_cons_succ, List.set_cons_zero, hp, eqlm]; done) | simp [Act.put, hp, eqlm]
        exact AllOps.nil
      case finF =>
        intro x u hC hV
        have hz : x 7 = .bool (decide (l = m)) := hV 7 (by decide) rfl
        rw [hz]
        clear hV hz
        have hb4 := bt hbr hC
        clear hC
        by_cases hlm : l = m
        · have hd : decide (l = m) = true := decide_eq_true hlm
          rw [hd]
          have hR2 : R = true := by rw [HR.out]; exact decide_eq_true (by rw [← hlm, Hl.out]; exact List.getElem_mem _)
          clear hd hlm HR
          go_wp2
          go_ret
          exact ⟨by rw [hR2]; rfl, hb4⟩
        · have hd : decide (l = m) = false := decide_eq_false hlm
          rw [hd]
          have hno2 : Hid (∀ j, (h : j < ls.length) → j < k + 1 → ls[j] ≠ m) := Lib.hid (fun j h hj => by
          rcases Nat.lt_or_ge j k with h2 | h2
          · exact hno.out j h h2
          · obtain rfl : j = k := by omega
            rw [← Hl.out]; exact hlm)
          clear hd hlm hno
          go_wp2
          go_roundw
          case rel => exact ⟨k + 1, by omega, by have := HN1.out; go_num, hno2, hb4⟩
          case measure => have := HN1.out; simp [intOf]; omega

    · obtain rfl : k = n := by omega
      have hR2 : R = false := by
        rw [HR.out]
        refine decide_eq_false (fun hm => ?_)
        obtain ⟨j, hj, e⟩ := List.getElem_of_mem hm
        exact hno.out j hj (by rw [hn.out]; exact hj) e
      clear HR hlt hk
      go_wp2
      go_ret
      exact ⟨by rw [hR2]; rfl, hbr⟩
end Go.Proofs.Ytkfmhkpmlncjgaa
