/- Layer 12: no two clash; the law that who holds alone takes again. -/
import Derived.Test.YtaeofacaljeckaaKk
namespace Go.Proofs.Ytaeofacaljeckaa
open Go.RowKit Go.Maps
set_option linter.unusedVariables false
set_option linter.unusedSimpArgs false

theorem held_iff {L : List LRow} {k o : Int} : heldL L k o = true ↔ ∃ x ∈ L, x.1 = k ∧ x.2.1 = o := by
  unfold heldL; rw [List.any_eq_true]; exact ⟨fun ⟨x, h, e⟩ => ⟨x, h, atB_iff.1 e⟩, fun ⟨x, h, e⟩ => ⟨x, h, atB_iff.2 e⟩⟩
theorem alone_iff {L : List LRow} {k o : Int} : aloneL L k o = true ↔ ∃ x ∈ L, x.1 = k ∧ x.2.1 = o ∧ x.2.2 = true := by
  unfold aloneL; rw [List.any_eq_true]
  constructor
  · rintro ⟨x, h, e⟩
    rw [Bool.and_eq_true, atB_iff] at e
    exact ⟨x, h, e.1.1, e.1.2, e.2⟩
  · rintro ⟨x, h, e1, e2, e3⟩
    exact ⟨x, h, by rw [Bool.and_eq_true, atB_iff]; exact ⟨⟨e1, e2⟩, e3⟩⟩
theorem clash_no {L : List LRow} {k o : Int} {a : Bool} (h : clashL L k o a = false) {x : LRow} (hx : x ∈ L) (h1 : x.1 = k) (h2 : x.2.1 ≠ o) : a = false ∧ x.2.2 = false := by
  unfold clashL at h
  have := (List.any_eq_false.1 h) x hx
  simpa [h1, h2] using this
theorem clash_yes {L : List LRow} {k o : Int} {a : Bool} {x : LRow} (hx : x ∈ L) (h1 : x.1 = k) (h2 : x.2.1 ≠ o) (h3 : x.2.2 = true) : clashL L k o a = true := by
  unfold clashL
  exact List.any_eq_true.2 ⟨x, hx, by simp [h1, h2, h3]⟩
theorem put_mem {L : List LRow} {k o : Int} {a : Bool} {x : LRow} (h : x ∈ putL L k o a) : x = (k, o, a) ∨ (x ∈ L ∧ ¬ (x.1 = k ∧ x.2.1 = o)) := by
  unfold putL at h
  split at h
  · obtain ⟨y, hy, rfl⟩ := List.mem_map.1 h
    by_cases hb : atB k o y = true
    · rw [if_pos hb]; exact .inl rfl
    · rw [if_neg hb]; exact .inr ⟨hy, fun e => hb (atB_iff.2 e)⟩
  · rename_i hn
    rcases List.mem_append.1 h with h1 | h1
    · exact .inr ⟨h1, fun e => hn (held_iff.2 ⟨x, h1, e⟩)⟩
    · exact .inl (List.mem_singleton.1 h1)
theorem put_new (L : List LRow) (k o : Int) (a : Bool) : (k, o, a) ∈ putL L k o a := by
  unfold putL
  split
  · rename_i h
    obtain ⟨x, hx, e⟩ := held_iff.1 h
    exact List.mem_map.2 ⟨x, hx, by rw [if_pos (atB_iff.2 e)]⟩
  · simp
theorem put_old {L : List LRow} {k o : Int} {a : Bool} {x : LRow} (hx : x ∈ L) (hn : ¬ (x.1 = k ∧ x.2.1 = o)) : x ∈ putL L k o a := by
  unfold putL
  split
  · exact List.mem_map.2 ⟨x, hx, by rw [if_neg (fun e => hn (atB_iff.1 e))]⟩
  · exact List.mem_append.2 (.inl hx)
theorem take_cases (L : List LRow) (o k : Int) (a : Bool) : (clashL L k o a = true ∧ takeL L o k a = (120, L)) ∨ (clashL L k o a = false ∧ heldL L k o = false ∧ L.length = 64 ∧ takeL L o k a = (5, L)) ∨
    (clashL L k o a = false ∧ takeL L o k a = (0, putL L k o (aloneL L k o || a))) := by
  unfold takeL
  split
  · rename_i h; exact .inl ⟨h, rfl⟩
  · rename_i h
    have h := Bool.eq_false_iff.2 h
    split
    · rename_i h2; exact .inr (.inl ⟨h, h2.1, h2.2, rfl⟩)
    · exact .inr (.inr ⟨h, rfl⟩)
theorem take_ok {L L' : List LRow} {o k r : Int} {a : Bool} (h : takeL L o k a = (r, L')) (hr : r = 0) : clashL L k o a = false ∧ L' = putL L k o (aloneL L k o || a) := by
  rcases take_cases L o k a with ⟨_, e⟩ | ⟨_, _, _, e⟩ | ⟨hc, e⟩
  · rw [e] at h; cases h; cases hr
  · rw [e] at h; cases h; cases hr
  · rw [e] at h; cases h; exact ⟨hc, rfl⟩
theorem take_not {L L' : List LRow} {o k r : Int} {a : Bool} (h : takeL L o k a = (r, L')) (hr : r ≠ 0) : L' = L ∧ (r = 120 ∨ r = 5 ∧ L.length = 64) := by
  rcases take_cases L o k a with ⟨_, e⟩ | ⟨_, _, hl, e⟩ | ⟨hc, e⟩
  · rw [e] at h; cases h; exact ⟨rfl, .inl rfl⟩
  · rw [e] at h; cases h; exact ⟨rfl, .inr ⟨rfl, hl⟩⟩
  · rw [e] at h; cases h; exact absurd rfl hr
/-- No two clash. -/
def NoClash (L : List LRow) : Prop := ∀ x ∈ L, ∀ y ∈ L, x.1 = y.1 → x.2.1 ≠ y.2.1 → x.2.2 = false
theorem NoClash.put {L : List LRow} (h : NoClash L) {k o : Int} {a : Bool} (hc : clashL L k o a = false) : NoClash (putL L k o (aloneL L k o || a)) := by
  intro x hx y hy e1 e2
  rcases put_mem hx with rfl | ⟨hx1, hx2⟩
  · rcases put_mem hy with rfl | ⟨hy1, hy2⟩
    · exact absurd rfl e2
    · have hn := clash_no hc hy1 e1.symm (fun e => e2 e.symm)
      show (aloneL L k o || a) = false
      rw [hn.1, Bool.or_false]
      cases hal : aloneL L k o with
      | false => rfl
      | true =>
        obtain ⟨z, hz, z1, z2, z3⟩ := alone_iff.1 hal
        have := h z hz y hy1 (z1.trans e1) (by rw [z2]; exact e2)
        rw [z3] at this; exact this
  · rcases put_mem hy with rfl | ⟨hy1, hy2⟩
    · exact (clash_no hc hx1 e1 e2).2
    · exact h x hx1 y hy1 e1 e2
theorem NoClash.take {L : List LRow} (h : NoClash L) (o k : Int) (a : Bool) : NoClash (takeL L o k a).2 := by
  rcases take_cases L o k a with ⟨_, e⟩ | ⟨_, _, _, e⟩ | ⟨hc, e⟩
  · rw [e]; exact h
  · rw [e]; exact h
  · rw [e]; exact h.put hc
theorem NoClash.drop {L : List LRow} (h : NoClash L) (o : Int) : NoClash (dropL L o) :=
  fun x hx y hy => h x (List.mem_filter.1 hx).1 y (List.mem_filter.1 hy).1
theorem NoClash.steps : ∀ (ops : List OpV) (L : List LRow), NoClash L → NoClash (ops.foldl stepL L)
  | [], L, h => h
  | op :: ops, L, h => NoClash.steps ops _ (by unfold stepL; split; exact h.take _ _ _; exact h.drop _)
theorem noClash_play (ops : List OpV) : NoClash (playL ops) := NoClash.steps _ _ (by intro x hx; cases hx)
theorem put_same {M : List LRow} {k o : Int} {b : Bool} (hh : heldL M k o = true) (h : ∀ x ∈ M, atB k o x = true → x = (k, o, b)) : putL M k o b = M := by
  unfold putL
  rw [if_pos hh]
  have : ∀ x ∈ M, (if atB k o x then (k, o, b) else x) = x := by
    intro x hx
    split
    · rename_i hb; exact (h x hx hb).symm
    · rfl
  rw [List.map_congr_left this, List.map_id']
/-- What an owner holds alone. -/
theorem twice_facts {L L' : List LRow} {o k r : Int} (h : takeL L o k true = (r, L')) (hr : r = 0) :
    (∀ a, takeL L' o k a = (0, L')) ∧ heldL L' k o = true ∧ aloneL L' k o = true ∧ ∀ o', o' ≠ o → ∀ a, takeL L' o' k a = (120, L') := by
  obtain ⟨hc, rfl⟩ := take_ok h hr
  rw [Bool.or_true]
  have hal : aloneL (putL L k o true) k o = true := alone_iff.2 ⟨_, put_new L k o true, rfl, rfl, rfl⟩
  have hhd : heldL (putL L k o true) k o = true := held_iff.2 ⟨_, put_new L k o true, rfl, rfl⟩
  have hput : putL (putL L k o true) k o true = putL L k o true := by
    refine put_same hhd fun x hx hb => ?_
    rcases put_mem hx with rfl | ⟨_, h2⟩
    · rfl
    · exact absurd (atB_iff.1 hb) h2
  refine ⟨fun a => ?_, hhd, hal, fun o' ho a => ?_⟩
  · have hnc : clashL (putL L k o true) k o a = false := by
      cases hcc : clashL (putL L k o true) k o a with
      | false => rfl
      | true =>
        unfold clashL at hcc
        obtain ⟨x, hx, hb⟩ := List.any_eq_true.1 hcc
        simp only [Bool.and_eq_true, Bool.not_eq_true', decide_eq_true_eq, decide_eq_false_iff_not] at hb
        rcases put_mem hx with rfl | ⟨h1, h2⟩
        · exact absurd rfl hb.1.2
        · exact absurd (clash_no hc h1 hb.1.1 hb.1.2).1 (by simp)
    unfold takeL
    rw [hnc, hhd, hal]
    simp only [Bool.false_eq_true, if_false, false_and, Bool.true_or, Bool.true_eq_false]
    rw [hput]
  · unfold takeL
    rw [if_pos (clash_yes (put_new L k o true) rfl (fun e => ho e.symm) rfl)]

set_option maxHeartbeats 2000000 in
theorem lockTwice_walk (A : Option Addr) (ops : List OpV) (c : Nat) (ow ot key : Int) (al : Bool) (w : World) (h : OpsAt w A ops)
    (ho1 : -9223372036854775808 ≤ ow) (ho2 : ow ≤ 9223372036854775807) (hp1 : -9223372036854775808 ≤ ot) (hp2 : ot ≤ 9223372036854775807) (hk1 : -9223372036854775808 ≤ key) (hk2 : key ≤ 9223372036854775807) :
    Calls Try.prog 8 #[.slice A ops.length c, .int .i64 ow, .int .i64 ot, .int .i64 key, .bool al] w fun e w' => e = .returned (.bool true) ∧ Below w.heap.size w w' := by
  have ho : i64ok ow := ⟨ho1, ho2⟩
  have hp : i64ok ot := ⟨hp1, hp2⟩
  have hk : i64ok key := ⟨hk1, hk2⟩
  have hplay := played_any A ops c w h
  generalize playL ops = L at hplay
  generalize ops.length = n at hplay ⊢
  have Hplay := Lib.hid hplay
  clear hplay h
  go_enter Try.func8, Try.ntmps8
  go_wp2_with fail
  refine Hplay.out.mono ?_
  clear Hplay
  rintro e w1 ⟨rfl, t1, b1⟩
  obtain ⟨r, hr⟩ : ∃ r, r = takeL L ow key true := ⟨_, rfl⟩
  obtain ⟨rz, L1⟩ := r
  have htk := take_is _ _ _ _ _ _ _ w1 t1 hk ho hr.symm
  have HF := Lib.hid (fun h => twice_facts hr.symm h)
  have Htk := Lib.hid htk
  clear htk hr t1
  go_wp2_with fail
  refine Htk.out.mono ?_
  clear Htk
  rintro e w2 ⟨rfl, t2, g2⟩
  have b2 := b1.grown g2 b1.size (fun k e => by cases e; exact Nat.le_refl _)
  clear b1 g2
  by_cases hr0 : rz = 0
  · obtain ⟨f1, f2, f3, f4⟩ := HF.out hr0
    clear HF
    subst hr0
    have F4 := Lib.hid f4
    clear f4
    by_cases hoo : ow = ot
    · subst hoo
      go_wp2_with fail
      refine (alive_any _).mono ?_
      rintro e w3 ⟨rfl, hb3⟩
      have b3 := bt b2 hb3
      go_wp2
      go_ret
      exact ⟨rfl, b3⟩
    · have f4 := F4.out ot (fun e => hoo e.symm) al
      have Ht3 := Lib.hid (fun w' (t : Tab w' w.heap.size L1) => take_is _ _ _ _ _ _ _ w' t hk ho (f1 al))
      have Ht4 := Lib.hid (fun w' (t : Tab w' w.heap.size L1) => take_is _ _ _ _ _ _ _ w' t hk hp f4)
      have Hho := Lib.hid (fun w' (t : Tab w' w.heap.size L1) => holds_any _ _ ow key w' t hk ho)
      rw [f2, f3] at Hho
      clear F4 f4 f1 f2 f3
      generalize hL1 : L1.length = nn
      have HL1 := Lib.hid hL1
      clear hL1
      go_wp2_with fail
      refine (tlen_any _ _ w2 t2).mono ?_
      rintro e w3 ⟨rfl, rfl⟩
      go_wp2_with fail
      refine (Ht3.out _ t2).mono ?_
      rintro e w3 ⟨rfl, t3, g3⟩
      have b3 := b2.grown g3 b2.size (fun k e => by cases e; exact Nat.le_refl _)
      clear t2 b2 g3
      go_wp2_with fail
      refine (Hho.out _ t3).mono ?_
      rintro e w4 ⟨rfl, hb4⟩
      have t4 := t3.below hb4
      have b4 := bt b3 hb4
      clear t3 b3 hb4
      go_wp2_with fail
      refine (alive_any _).mono ?_
      rintro e w5 ⟨rfl, hb5⟩
      have t5 := t4.below hb5
      have b5 := bt b4 hb5
      clear t4 b4 hb5
      go_wp2_with fail
      refine (tlen_any _ _ w5 t5).mono ?_
      rintro e w6 ⟨rfl, rfl⟩
      go_wp2_with fail
      refine (Ht4.out _ t5).mono ?_
      rintro e w6 ⟨rfl, t6, g6⟩
      have b6 := b5.grown g6 b5.size (fun k e => by cases e; exact Nat.le_refl _)
      clear t5 b5 g6
      go_wp2_with fail
      refine (tlen_any _ _ w6 t6).mono ?_
      rintro e w7 ⟨rfl, rfl⟩
      go_wp2
      go_ret
      exact ⟨rfl, b6⟩
  · clear HF
    go_wp2_with fail
    refine (alive_any _).mono ?_
    rintro e w3 ⟨rfl, hb3⟩
    have b3 := bt b2 hb3
    go_wp2
    go_ret
    exact ⟨rfl, b3⟩
end Go.Proofs.Ytaeofacaljeckaa
