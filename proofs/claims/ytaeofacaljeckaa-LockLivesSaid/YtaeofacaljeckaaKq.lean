/- Layer 12: the law that who dropped all of theirs is in nobody's way. -/
import Derived.Test.YtaeofacaljeckaaKp
import Derived.SizedLaws
namespace Go.Proofs.Ytaeofacaljeckaa
open Go.RowKit Go.Maps Go.ChangeShapes Go.WideShapes Go.Joins Go.Deep
set_option linter.unusedVariables false
set_option linter.unusedSimpArgs false

theorem Try.bytesOp : Try.prog.bytesOf 30 = 32 := by kernel_rfl
theorem Try.infoOp : (Try.prog.info? 30).map (fun i => (i.zero, i.size, i.bytes)) = some (some (.agg #[.int .i64 0, .int .i64 0, .int .i64 0, .bool false]), 4, 32) := by kernel_rfl
section
variable {H : Type} {enc : TypeId × Value → H} {W : World}
theorem ops_datum {A : Option Addr} {len c : Nat} {d : DataW H} {p : List MemPlace} (h : DataW.Trod enc Try.prog W 0 (fun _ => true) true 22 (.slice A len c) d p) :
    len = 0 ∨ ∃ el sp, d = .slice el sp ∧ el.length = len := by
  obtain ⟨fuel, hf⟩ := h
  rcases open_slice Try.underlying22 hf with ⟨hcs, _⟩ | ⟨x, l, c, m, n, D, Pl, hcs, _, hl, hm, hmm, hd, hi⟩
  · simp [Value.cells] at hcs
    exact .inl hcs.2.1
  · simp [Value.cells] at hcs
    obtain ⟨rfl, rfl, rfl⟩ := hcs
    injection hd with hd _
    exact .inr ⟨_, _, hd, by simp⟩
theorem ops_reach {len : Nat} {d0 d1 d2 d3 d4 : DataW H} {t1 t2 t3 t4 : TypeId} (hd : len = 0 ∨ ∃ el sp, d0 = .slice el sp ∧ el.length = len)
    (hsz : (DataW.weightsEach Try.prog [22, t1, t2, t3, t4] [d0, d1, d2, d3, d4]).all (· ≤ reachBytes) = true) : len * 32 ≤ 140737488355328 := by
  rcases hd with h | ⟨el, sp, rfl, h⟩
  · omega
  · have := List.all_eq_true.1 hsz ((el.length + sp.length) * Try.prog.bytesOf 30) (DataW.weights_mem_each (j := 0) (t := 22) rfl rfl _ (by simp [DataW.weights, DataW.weightsEach, Try.underlying22]))
    rw [Try.bytesOp] at this
    simp [reachBytes] at this
    have := of_decide_eq_true this
    omega
end
def flat (ops : List OpV) : List Value := ops.flatMap fun o => [.int .i64 o.k, .int .i64 o.o, .int .i64 o.y, .bool o.a]
theorem flat_len (ops : List OpV) : (flat ops).length = ops.length * 4 := by
  induction ops with
  | nil => rfl
  | cons o ops ih => unfold flat at ih ⊢; rw [List.flatMap_cons, List.length_append, ih]; simp; omega
theorem flat_at : ∀ (ops : List OpV) (i : Nat) (h : i < ops.length), (flat ops)[i * 4]? = some (.int .i64 ops[i].k) ∧ (flat ops)[i * 4 + 1]? = some (.int .i64 ops[i].o) ∧ (flat ops)[i * 4 + 2]? = some (.int .i64 ops[i].y) ∧ (flat ops)[i * 4 + 3]? = some (.bool ops[i].a)
  | o :: ops, 0, _ => by unfold flat; simp
  | o :: ops, i + 1, h => by
    have := flat_at ops i (by simpa using h)
    have e : flat (o :: ops) = [.int .i64 o.k, .int .i64 o.o, .int .i64 o.y, .bool o.a] ++ flat ops := by unfold flat; rw [List.flatMap_cons]
    rw [e]
    have hs : ∀ j, ([.int .i64 o.k, .int .i64 o.o, .int .i64 o.y, .bool o.a] ++ flat ops)[(i + 1) * 4 + j]? = (flat ops)[i * 4 + j]? := by
      intro j
      rw [List.getElem?_append_right (by simp; omega)]
      congr 1
      simp
      omega
    refine ⟨(hs 0).trans this.1, (hs 1).trans this.2.1, (hs 2).trans this.2.2.1, (hs 3).trans this.2.2.2⟩
/-- A list of Ops of its own. -/
def OwnOps (u : World) (B : Nat) (A : Option Addr) (c : Nat) (ops : List OpV) : Prop := u.ownsRow B 30 4 (.slice A ops.length c) ops.length (flat ops)
theorem OwnOps.ops {u : World} {B c : Nat} {A : Option Addr} {ops : List OpV} (h : OwnOps u B A c ops) (hl : ops.length ≤ maxLen) (hok : ∀ o ∈ ops, OpOk o) : OpsAt u A ops := by
  refine ⟨hl, hok, fun hp => ?_⟩
  obtain ⟨g, cap, e⟩ := Joins.ownsRow_form h hp
  cases e
  refine ⟨g, 0, rfl, (World.ownsRow.lt h g rfl).2, fun i hi => ?_⟩
  obtain ⟨h1, h2, h3, h4⟩ := flat_at ops i hi
  have hc : ∀ j v, j < 4 → (flat ops)[i * 4 + j]? = some v → u.cell? ⟨g, 0 + (i * 4 + j), none⟩ = some v := fun j v hj hv => by
    rw [Nat.zero_add, World.ownsRow.cellAt h (i * 4 + j) (by omega), hv]
  have h0' := hc 0 _ (by omega) h1
  have h1' := hc 1 _ (by omega) h2
  have h2' := hc 2 _ (by omega) h3
  have h3' := hc 3 _ (by omega) h4
  rw [← Nat.add_assoc] at h0' h1' h2' h3'
  exact ⟨h0', h1', h2', h3'⟩
theorem ops_more {u : World} {B c : Nat} {A : Option Addr} {ops : List OpV} (h : OwnOps u B A c ops) (n : Nat) (hn : n = ops.length) (hl : (n + 1) * 32 ≤ 140737488355328) (x : OpV) (q : Nat) (hBu : B ≤ u.heap.size)
    (hq : Blk u q 30 #[.int .i64 x.k, .int .i64 x.o, .int .i64 x.y, .bool x.a]) :
    ∃ A2 c2 u', (Builtin.append_ #[22, 22] 22 #[.slice A n c, .slice (some ⟨q, 0, none⟩) 1 1]).run Try.prog u = .ok (.slice A2 (n + 1) c2) u' ∧
      OwnOps u' B A2 c2 (ops ++ [x]) ∧ u.grownBy u' (blk A) := by
  subst hn
  obtain ⟨i0, hi, hz0, hz1, hz2⟩ := info_parts Try.infoOp
  obtain ⟨v', w', hrun, hown, hgr, _, _⟩ := run_append_own_at (P := Try.prog) u B 22 22 30 i0 _ 4 32 Try.underlying22 hi hz0 hz1 hz2 rfl (by omega) (.slice A ops.length c) ops.length (flat ops) h ⟨q, 0, none⟩ 1 1 [.int .i64 x.k, .int .i64 x.o, .int .i64 x.y, .bool x.a] rfl
    (fun j v hv => by
      have := hq.cell j
      have e : (⟨q, 0, none⟩ : Addr).add j = ⟨q, j, none⟩ := by
        simp [Addr.add]
        omega
      rw [e, this]
      rw [List.getElem?_toArray]; exact hv)
    (fun v hv => by simp at hv; rcases hv with rfl | rfl | rfl | rfl <;> rfl) (by simp only [maxLen]; omega) (by omega) hBu
  obtain ⟨g2, c2, rfl⟩ := Joins.ownsRow_form hown (by omega)
  rw [ownBlock_slice] at hgr
  refine ⟨some ⟨g2, 0, none⟩, c2, w', hrun, ?_, hgr⟩
  unfold OwnOps
  have e : flat (ops ++ [x]) = flat ops ++ [.int .i64 x.k, .int .i64 x.o, .int .i64 x.y, .bool x.a] := by unfold flat; simp
  rw [List.length_append, e]
  exact hown
theorem OwnOps.kept {u u' : World} {B c : Nat} {A : Option Addr} {ops : List OpV} {row : Option Nat} (h : OwnOps u B A c ops) (hg : u.grownBy u' row) (hr : ∀ r, row = some r → r < B) : OwnOps u' B A c ops := by
  refine World.ownsRow.kept h hg ?_
  rcases hb : (Value.slice A ops.length c).ownBlock with _ | k
  · exact .inl rfl
  · refine .inr (fun e => ?_)
    have h2 := World.ownsRow.lt h k hb
    have := hr k e.symm
    omega

def OwnersL (p q : Int) (L : List LRow) : Prop := ∀ x ∈ L, x.2.1 = p ∨ x.2.1 = q
theorem owners_step {p q : Int} {L : List LRow} (h : OwnersL p q L) {op : OpV} (ho : op.o = p ∨ op.o = q) : OwnersL p q (stepL L op) := by
  unfold stepL
  split
  · rcases take_cases L op.o op.y op.a with ⟨_, e⟩ | ⟨_, _, _, e⟩ | ⟨_, e⟩
    · rw [e]; exact h
    · rw [e]; exact h
    · rw [e]
      intro x hx
      rcases put_mem hx with rfl | ⟨h1, _⟩
      · exact ho
      · exact h x h1
  · exact fun x hx => h x (List.mem_filter.1 hx).1
theorem owners_steps {p q : Int} : ∀ (ops : List OpV) (L : List LRow), OwnersL p q L → (∀ o ∈ ops, o.o = p ∨ o.o = q) → OwnersL p q (ops.foldl stepL L)
  | [], L, h, _ => h
  | op :: ops, L, h, ho => owners_steps ops _ (owners_step h (ho op (by simp))) (fun o hm => ho o (by simp [hm]))
theorem owners_play {p q : Int} (ops : List OpV) (ho : ∀ o ∈ ops, o.o = p ∨ o.o = q) : OwnersL p q (playL ops) :=
  owners_steps _ _ (fun x hx => by cases hx) (fun o hm => ho o (List.mem_of_mem_take hm))
theorem frees_facts {p q key r : Int} {a : Bool} {L L2 : List LRow} (h : OwnersL p q L) (hpq : p ≠ q) (ht : takeL (dropL L p) q key a = (r, L2)) :
    ((r = 0 ∧ heldL L2 key q = true) ∨ r = 5) ∧ heldL L2 key p = false ∧ aloneL L2 key p = false ∧ HeldKs L2 p [] := by
  have h1 : ∀ x ∈ dropL L p, x.2.1 = q := fun x hx => by
    have hm := List.mem_filter.1 hx
    have hne : x.2.1 ≠ p := by simpa using hm.2
    exact (h x hm.1).resolve_left hne
  have hc : clashL (dropL L p) key q a = false := by
    unfold clashL
    rw [List.any_eq_false]
    intro x hx
    rw [h1 x hx]
    simp
  have h2 : ∀ x ∈ L2, x.2.1 = q := by
    rcases take_cases (dropL L p) q key a with ⟨e0, e⟩ | ⟨_, _, _, e⟩ | ⟨_, e⟩
    · rw [hc] at e0; cases e0
    · rw [e] at ht; cases ht; exact h1
    · rw [e] at ht; cases ht
      intro x hx
      rcases put_mem hx with rfl | ⟨h3, _⟩
      · rfl
      · exact h1 x h3
  have hno : ∀ k, heldL L2 k p = false := fun k => by
    cases hh : heldL L2 k p with
    | false => rfl
    | true =>
      obtain ⟨x, hx, _, e2⟩ := held_iff.1 hh
      exact absurd (e2.symm.trans (h2 x hx)) hpq
  refine ⟨?_, hno key, ?_, ⟨List.Pairwise.nil, fun k => by rw [hno k]; simp⟩⟩
  · rcases take_cases (dropL L p) q key a with ⟨e0, e⟩ | ⟨_, _, _, e⟩ | ⟨_, e⟩
    · rw [hc] at e0; cases e0
    · rw [e] at ht; cases ht; exact .inr rfl
    · rw [e] at ht; cases ht
      exact .inl ⟨rfl, held_iff.2 ⟨_, put_new _ _ _ _, rfl, rfl⟩⟩
  · cases hh : aloneL L2 key p with
    | false => rfl
    | true =>
      obtain ⟨x, hx, _, e2, _⟩ := alone_iff.1 hh
      exact absurd (e2.symm.trans (h2 x hx)) hpq

set_option maxRecDepth 100000 in
set_option maxHeartbeats 4000000 in
theorem lockFrees_walk (A : Option Addr) (ops : List OpV) (c : Nat) (one two key : Int) (al : Bool) (w : World) (h : OpsAt w A ops) (hsz : ops.length * 32 ≤ 140737488355328)
    (ho1 : -9223372036854775808 ≤ one) (ho2 : one ≤ 9223372036854775807) (hp1 : -9223372036854775808 ≤ two) (hp2 : two ≤ 9223372036854775807) (hk1 : -9223372036854775808 ≤ key) (hk2 : key ≤ 9223372036854775807) :
    Calls Try.prog 6 #[.slice A ops.length c, .int .i64 one, .int .i64 two, .int .i64 key, .bool al] w fun e w' => e = .returned (.bool true) ∧ Below w.heap.size w w' := by
  have ho : i64ok one := ⟨ho1, ho2⟩
  have hp : i64ok two := ⟨hp1, hp2⟩
  have hk : i64ok key := ⟨hk1, hk2⟩
  obtain ⟨n, hn⟩ : ∃ n, n = ops.length := ⟨_, rfl⟩
  have Hn := Lib.hid hn
  rw [← hn] at hsz ⊢
  have HO := Lib.hid h
  clear h hn
  go_enter Try.func6, Try.ntmps6
  go_wp2_with fail
  go_loopw [11, 12] (fun v i wr => ∃ (j n2 c2 : Nat) (A2 : Option Addr) (own : List OpV), v = .slice A2 n2 c2 ∧ Hid (n2 = own.length) ∧ n2 ≤ j ∧ j ≤ n ∧ i = .int .i64 j ∧ OwnOps wr w.heap.size A2 c2 own ∧ Hid (∀ x ∈ own, OpOk x ∧ (x.o = one ∨ x.o = two)) ∧ Below w.heap.size w wr) (fun _ i _ => n - (intOf i).toNat)
  case atStart => exact ⟨0, 0, 0, none, [], rfl, rfl, Nat.le_refl _, Nat.zero_le _, rfl, World.ownsRow_nil _ _ _ _, Lib.hid (by intro x hx; cases hx), Below.refl _ _⟩
  case round =>
    obtain ⟨j, n2, c2, A2, own, rfl, hn2, hnj, hj, rfl, hown, hall, hb⟩ := hrel
    by_cases hjn : j < n
    · have hjI : (j : Int) < (n : Int) := by omega
      obtain ⟨b, o, rfl, hlt, hcs⟩ := (HO.out.below hb).2.2 (by have := Hn.out; omega)
      have hjo : j < ops.length := by have := Hn.out; omega
      obtain ⟨q0, q1, q2, q3⟩ := hcs j hjo
      have hok := HO.out.2.1 _ (List.getElem_mem hjo)
      obtain ⟨op, hop⟩ : ∃ op, op = ops[j] := ⟨_, rfl⟩
      rw [← hop] at q0 q1 q2 q3 hok
      clear hop hcs hjo
      obtain ⟨ok, oo, oy, oa⟩ := op
      simp only at q0 q1 q2 q3
      have hb3 := ba wr (.cells #[.int .i64 ok, .int .i64 oo, .int .i64 oy, .bool oa] 30)
      have hown3 := hown.kept (lbelow_grown hb3 none) (fun r e => by cases e)
      obtain ⟨A5, c5, w5, hrun, hE5, hg5⟩ := ops_more hown3 n2 hn2.out (by omega) (OpV.mk ok oo oy oa) wr.heap.size (by have := hb.size; have := hb3.size; omega) (Blk.new wr _ _)
      have hB5 := (bt hb hb3).grown hg5 (by have := hb.size; have := hb3.size; omega) (fun r e => (World.ownsRow.lt hown3 r (by rw [ownBlock_slice]; exact e)).1)
      have Hn5 : Hid (n2 + 1 = (own ++ [OpV.mk ok oo oy oa]).length) := Lib.hid (by rw [List.length_append, ← hn2.out]; rfl)
      have Ha5 : oo = one ∨ oo = two → Hid (∀ x ∈ own ++ [OpV.mk ok oo oy oa], OpOk x ∧ (x.o = one ∨ x.o = two)) := fun hh => Lib.hid (by
        intro x hx
        rcases List.mem_append.1 hx with h1 | h1
        · exact hall.out x h1
        · rw [List.mem_singleton] at h1; subst h1; exact ⟨hok, hh⟩)
      have HE5 := Lib.hid (And.intro hE5 hB5)
      have HA5 := Lib.hid Ha5
      clear hE5 hB5 Ha5 hown3 hb3 hg5 hok
      by_cases h1 : oo = one
      · subst h1
        go_wp2_with (first
          | (at_builtin; refine wpList_append_run rfl (.tmp 41) (.tmp 46) 22 rfl _ _ _ w5 rfl rfl hrun ?_)
          | go_in)
        go_roundw
        case rel => exact ⟨j + 1, n2 + 1, c5, A5, _, rfl, Hn5, by omega, by omega, by go_num, HE5.out.1, HA5.out (.inl rfl), HE5.out.2⟩
        case measure => simp [intOf]; omega
      · by_cases h2 : oo = two
        · subst h2
          go_wp2_with (first
            | (at_builtin; refine wpList_append_run rfl (.tmp 41) (.tmp 46) 22 rfl _ _ _ w5 rfl rfl hrun ?_)
            | go_in)
          go_roundw
          case rel => exact ⟨j + 1, n2 + 1, c5, A5, _, rfl, Hn5, by omega, by omega, by go_num, HE5.out.1, HA5.out (.inr rfl), HE5.out.2⟩
          case measure => simp [intOf]; omega
        · have e1 : (oo == one) = false := by simp [h1]
          have e2 : (oo == two) = false := by simp [h2]
          go_wp2
          go_roundw
          case rel => exact ⟨j + 1, n2, c2, A2, own, rfl, hn2, by omega, by omega, by go_num, hown, hall, hb⟩
          case measure => simp [intOf]; omega
    · have hjI : ¬ (j : Int) < (n : Int) := by omega
      have hO2 := hown.ops (by have := hn2.out; simp only [maxLen]; omega) (fun x hx => (hall.out x hx).1)
      have hplay := played_any A2 own c2 wr hO2
      have hown' := owners_play own (fun x hx => (hall.out x hx).2)
      rw [← hn2.out] at hplay
      generalize playL own = L at hplay hown'
      obtain ⟨tg, htg⟩ : ∃ tg, tg = wr.heap.size := ⟨_, rfl⟩
      have hwt : w.heap.size ≤ tg := by rw [htg]; exact hb.size
      rw [← htg] at hplay
      have Hplay := Lib.hid hplay
      have Htg := Lib.hid htg
      have How := Lib.hid hown'
      clear hplay hO2 hown hall hn2 htg hown'
      go_wp2_with fail
      refine Hplay.out.mono ?_
      clear Hplay
      rintro e w1 ⟨rfl, t1, b1⟩
      have B1 : Below w.heap.size w w1 := bt hb (Htg.out ▸ b1)
      clear b1 hb
      by_cases h12 : one = two
      · subst h12
        go_wp2_with fail
        refine (alive_any _).mono ?_
        rintro e w3 ⟨rfl, hb3⟩
        have b3 := bt B1 hb3
        go_wp2
        go_ret
        exact ⟨rfl, b3⟩
      · have hdr := drop_is tg L _ one _ w1 t1 ho rfl rfl
        have Hdr := Lib.hid hdr
        obtain ⟨r, hr⟩ : ∃ r, r = takeL (dropL L one) two key al := ⟨_, rfl⟩
        obtain ⟨rz, L2⟩ := r
        obtain ⟨f1, f2, f3, f4⟩ := frees_facts How.out h12 hr.symm
        have Htk := Lib.hid (fun u (t : Tab u tg (dropL L one)) => take_is _ _ _ _ _ _ _ u t hk hp hr.symm)
        have Hh1 := Lib.hid (fun u (t : Tab u tg L2) => holds_any _ _ one key u t hk ho)
        have Hh2 := Lib.hid (fun u (t : Tab u tg L2) => holds_any _ _ two key u t hk hp)
        have Hhd := Lib.hid (fun u (t : Tab u tg L2) => held_is _ _ one [] 0 rfl u t f4)
        rw [f2, f3] at Hh1
        have F1 := Lib.hid f1
        clear hdr hr f1 f2 f3 f4 t1 How
        go_wp2_with fail
        refine Hdr.out.mono ?_
        clear Hdr
        rintro e w2 ⟨rfl, t2, g2⟩
        have B2 := B1.grown g2 B1.size (fun k e => by cases e; exact hwt)
        clear B1 g2
        go_wp2_with fail
        refine (Htk.out _ t2).mono ?_
        clear Htk
        rintro e w3 ⟨rfl, t3, g3⟩
        have B3 := B2.grown g3 B2.size (fun k e => by cases e; exact hwt)
        clear B2 g3 t2
        go_wp2_with fail
        refine (Hh1.out _ t3).mono ?_
        clear Hh1
        rintro e w4 ⟨rfl, b4⟩
        have t4 := t3.below b4
        have B4 := bt B3 b4
        clear B3 b4 t3
        generalize heldL L2 key two = hv at F1 Hh2
        generalize aloneL L2 key two = av at Hh2
        go_wp2_with fail
        refine (Hh2.out _ t4).mono ?_
        clear Hh2
        rintro e w5 ⟨rfl, b5⟩
        have t5 := t4.below b5
        have B5 := bt B4 b5
        clear B4 b5 t4
        go_wp2_with fail
        refine (alive_any _).mono ?_
        rintro e w6 ⟨rfl, b6⟩
        have t6 := t5.below b6
        have B6 := bt B5 b6
        clear B5 b6 t5
        rcases F1.out with ⟨rfl, rfl⟩ | rfl
        · go_wp2_with fail
          refine (Hhd.out _ t6).mono ?_
          rintro e w7 ⟨v, rfl, ⟨A7, c7, rfl, _⟩, b7⟩
          have B7 := bt B6 b7
          go_wp2
          go_ret
          exact ⟨rfl, B7⟩
        · go_wp2_with fail
          refine (Hhd.out _ t6).mono ?_
          rintro e w7 ⟨v, rfl, ⟨A7, c7, rfl, _⟩, b7⟩
          have B7 := bt B6 b7
          go_wp2
          go_ret
          exact ⟨rfl, B7⟩
end Go.Proofs.Ytaeofacaljeckaa
