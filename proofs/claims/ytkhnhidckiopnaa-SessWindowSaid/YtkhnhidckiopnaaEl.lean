/- Layer 9: the window. -/
import Derived.Test.YtkhnhidckiopnaaEk
import Derived.Test.YtkhnhidckiopnaaInvT
import Derived.Test.YtkhnhidckiopnaaOpenI
namespace Go.Proofs.Ytkhnhidckiopnaa
open Go.RowKit
set_option linter.unusedVariables false
set_option linter.unusedSimpArgs false

theorem on_any {w : World} {g S W f x : Nat} {q : List (List UInt8)} {cs : Array Value} (h : EndAt w g S W q f x cs) (ak : Int) :
    Calls Try.prog 15 #[.pointer (some ⟨g, 0, none⟩), .agg #[.int .u32 S, .int .i64 0, .int .i64 ak, .slice none 0 0]] w fun e w' => (∃ v, e = .returned v) ∧ (∃ q' f' cs', EndAt w' g S W q' f' x cs') ∧ w.grownBy w' (some g) := by
  by_cases hk : ak < 0 ∨ ((f + q.length : Nat) : Int) < ak
  · refine (on_ack_bad h 0 0 0 ak none hk).mono ?_
    rintro e w' ⟨h1, h2⟩
    exact ⟨⟨_, h1⟩, ⟨q, f, cs, h.bt h2⟩, grown_of h2 _⟩
  · obtain ⟨a, rfl⟩ : ∃ a : Nat, ak = a := ⟨ak.toNat, by omega⟩
    refine (on_ack h 0 a 0 none (by omega)).mono ?_
    rintro e w' ⟨h1, ⟨cs', h2⟩, h3⟩
    exact ⟨⟨_, h1⟩, ⟨_, _, cs', h2⟩, h3⟩
/-- What the window's law asks of the frames. -/
def SeqAt (w : World) (fb m s0 : Nat) : Prop := ∃ cs, Blk w fb 33 cs ∧ ∀ i, i < m → cs[i * 4 + 1]? = some (.int .i64 ((s0 + i : Nat) : Int))
theorem frames_seq {w : World} {g S W f x : Nat} {q : List (List UInt8)} {cs : Array Value} (h : EndAt w g S W q f x cs) :
    Calls Try.prog 17 #[.pointer (some ⟨g, 0, none⟩)] w fun e w' => ∃ fb m s0 : Nat, e = .returned (.slice (some ⟨fb, 0, none⟩) m m) ∧ 1 ≤ m ∧ m ≤ W ∧ (0 < q.length → m ≤ q.length) ∧ m ≤ 64 ∧ s0 ≤ 65535 ∧ SeqAt w' fb m s0 ∧ Below w.heap.size w w' := by
  have hw := h.w1
  have hf := h.fq
  by_cases hq : q = []
  · subst hq
    refine (frames_none h).mono ?_
    rintro e w' ⟨fb, h1, ⟨cs, _, hb, hc⟩, h2⟩
    refine ⟨fb, 1, 0, h1, by omega, by omega, fun hl => by simp at hl, by omega, by omega, ⟨cs, hb, fun i hi => ?_⟩, h2⟩
    obtain rfl : i = 0 := by omega
    have := (hc 0 (by simp [framesL])).2.1
    simpa [framesL] using this
  · refine (frames_some h hq _ rfl).mono ?_
    rintro e w' ⟨fb, h1, ⟨cs, _, hb, hc⟩, h2⟩
    have hl := List.length_pos_iff.2 hq
    have hql := h.ql
    refine ⟨fb, min W q.length, f, h1, by omega, by omega, fun _ => by omega, by omega, by omega, ⟨cs, hb, fun i hi => ?_⟩, h2⟩
    have hi2 : i < (framesL W q f).length := by simp [framesL, hq]; omega
    have := (hc i hi2).2.1
    simpa [framesL, hq] using this

def VWn (fb m k1 s0 : Nat) (i : Nat) (v : Value) (w : World) : Prop :=
  match i with
  | 0 => v = .slice (some ⟨fb, 0, none⟩) m m
  | 1 => v = .int .i64 ((k1 + 1 : Nat) : Int)
  | 2 => v = .pointer (some ⟨fb, (k1 + 1) * 4, none⟩)
  | 3 => v = .pointer (some ⟨fb, (k1 + 1) * 4 + 1, none⟩)
  | 4 => v = .int .i64 ((s0 + (k1 + 1) : Nat) : Int)
  | 5 => v = .slice (some ⟨fb, 0, none⟩) m m
  | 6 => v = .int .i64 ((k1 + 1 : Nat) : Int)
  | 7 => v = .int .i64 (k1 : Nat)
  | 8 => v = .pointer (some ⟨fb, k1 * 4, none⟩)
  | 9 => v = .pointer (some ⟨fb, k1 * 4 + 1, none⟩)
  | 10 => v = .int .i64 ((s0 + k1 : Nat) : Int)
  | 11 => v = .int .i64 ((s0 + (k1 + 1) : Nat) : Int)
  | 12 => v = .bool false
  | _ => True

theorem VWn.mono {fb m k1 s0 i : Nat} {v : Value} {u u' : World} (hv : VWn fb m k1 s0 i v u) : VWn fb m k1 s0 i v u' := by
  unfold VWn at hv ⊢; split at hv <;> exact hv
/-- The end, what lies below, the texts, the numbers. -/
def WinI (w0 : World) (ga S W : Nat) (q : List (List UInt8)) (f : Nat) (u : World) : Prop := (∃ cs, EndAt u ga S W q f 0 cs) ∧ Below w0.heap.size w0 u
theorem WinI.below {w0 u u' : World} {ga S W f : Nat} {q : List (List UInt8)} (h : WinI w0 ga S W q f u) (hb : Below u.heap.size u u') : WinI w0 ga S W q f u' := by
  obtain ⟨⟨cs, h1⟩, h4⟩ := h
  exact ⟨⟨cs, h1.bt hb⟩, bt h4 hb⟩
theorem WinI.turn {w0 u u' : World} {ga S W f f' : Nat} {q q' : List (List UInt8)} {cs' : Array Value} (h : WinI w0 ga S W q f u) (hga : w0.heap.size ≤ ga) (he : EndAt u' ga S W q' f' 0 cs') (hg : u.grownBy u' (some ga)) : WinI w0 ga S W q' f' u' := by
  obtain ⟨_, h4⟩ := h
  exact ⟨⟨cs', he⟩, h4.grown hg h4.size (fun k e => by cases e; omega)⟩
theorem SeqAt.cellN {w : World} {fb m s0 : Nat} (h : SeqAt w fb m s0) (i : Nat) (hi : i < m) : w.cell? ⟨fb, i * 4 + 1, none⟩ = some (.int .i64 ((s0 + i : Nat) : Int)) := by
  obtain ⟨cs, hb, hc⟩ := h
  exact (hb.cell _).trans (hc i hi)
theorem SeqAt.drew {w : World} {fb m s0 : Nat} (h : SeqAt w fb m s0) : SeqAt w.drew fb m s0 := h

set_option maxRecDepth 100000 in
set_option maxHeartbeats 8000000 in
theorem sessWindow_walk (S : Nat) (W : Int) (A : Option Addr) (ls : List (List UInt8)) (c : Nat) (A2 : Option Addr) (zs : List Int) (c2 : Nat) (w : World) (bS : S < 4294967296) (bW1 : -9223372036854775808 ≤ W) (bW2 : W ≤ 9223372036854775807) (b2 : ls.length ≤ maxLen) (e2 : ListAt w w.heap.size A ls) (h3 : IsAt w A2 zs) (h4 : zs.length ≤ maxLen) :
    Calls Try.prog 8 #[.int .u32 S, .int .i64 W, .slice A ls.length c, .slice A2 zs.length c2] w fun e w' => e = .returned (.bool true) ∧ Below w.heap.size w w' := by
  obtain ⟨n, hn⟩ : ∃ n, n = ls.length := ⟨_, rfl⟩
  obtain ⟨na, hna⟩ : ∃ na, na = zs.length := ⟨_, rfl⟩
  rw [← hn, ← hna]
  have Hn := Lib.hid hn
  have Hna := Lib.hid hna
  have HB := Lib.hid (And.intro e2 h3)
  clear hn hna b2 e2 bS bW1 bW2 h3 h4
  by_cases hbad : S = 0 ∨ W < 1 ∨ 16 < W
  · have hbb := Lib.hid hbad
    clear hbad
    go_enter Try.func8, Try.ntmps8
    go_wp2_with fail
    refine (both_bad S W _ hbb.out).mono ?_
    rintro e w1 ⟨rfl, rfl⟩
    go_wp2_with fail
    refine (alive_any _).mono ?_
    rintro e w2 ⟨rfl, b2⟩
    go_wp2
    go_ret
    exact ⟨rfl, b2⟩
  obtain ⟨Wn, rfl⟩ : ∃ Wn : Nat, W = Wn := ⟨W.toNat, by omega⟩
  have hok := Lib.hid (both_ok S Wn w (by omega) (by omega) (by omega))
  clear hbad
  go_enter Try.func8, Try.ntmps8
  go_wp2_with fail
  refine hok.out.mono ?_
  rintro e w1 ⟨p, ga, gb, rfl, ⟨q1, q2, q3, q4, q5, q6⟩, b1⟩
  have hli := HB.out.1.bt b1
  have cp := q6.cell 0
  simp at cp
  have HI := Lib.hid (And.intro (⟨q4, b1⟩ : WinI w ga S Wn [] 0 w1) (And.intro b1 hli))
  have hga := Lib.hid q1
  clear q1 q2 q3 q4 q5 q6 hli b1 hok
  go_wp2_with fail
  refine (long_any A ls n c Hn w1 HI.out.2.2).mono ?_
  rintro e w2 ⟨⟨b, rfl, hb⟩, rfl⟩
  cases b
  case true =>
    go_wp2_with fail
    refine (alive_any _).mono ?_
    rintro e w2 ⟨rfl, b2⟩
    go_wp2
    go_ret
    exact ⟨rfl, bt HI.out.2.1 b2⟩
  have hb80 := (hb rfl).1
  clear hb
  by_cases h80 : 80 < na
  · have h80I : (80 : Int) < (na : Int) := by omega
    go_wp2_with fail
    refine (alive_any _).mono ?_
    rintro e w2 ⟨rfl, b2⟩
    go_wp2
    go_ret
    exact ⟨rfl, bt HI.out.2.1 b2⟩
  have h80I : ¬ (80 : Int) < (na : Int) := by omega
  go_wp2_with fail
  have HO := Lib.hid HI.out.1
  clear HI cp
  go_loopw [11] (fun i wr => ∃ (i0 : Nat) (qq : List (List UInt8)) (ff : Nat), i0 ≤ n ∧ i = .int .i64 i0 ∧ Hid (WinI w ga S Wn qq ff wr)) (fun i _ => n - (intOf i).toNat)
  case atStart => exact ⟨0, [], 0, Nat.zero_le _, rfl, HO⟩
  case round =>
    obtain ⟨i0, qq, ff, him, rfl, hq⟩ := hrel
    clear HO
    by_cases hi0 : i0 < n
    · have hiI : (i0 : Int) < (n : Int) := by omega
      have hiq : i0 < ls.length := by rw [← Hn.out]; exact hi0
      obtain ⟨b, o, rfl, hbl, hcell⟩ := HB.out.1 (by omega)
      obtain ⟨Ai, ci, hci, hbs⟩ := hcell i0 hiq
      obtain ⟨d, hd⟩ : ∃ d, d = (ls[i0]'hiq).length := ⟨_, rfl⟩
      rw [← hd] at hci
      have hO := hq.out
      obtain ⟨⟨cs7, k7⟩, d7⟩ := hO
      have cc := (d7.cell (p := ⟨b, o + i0, none⟩) hbl).trans hci
      have hput := Lib.hid (put_any k7 Ai _ d ci hd (hbs.bt d7))
      clear hcell hci hbs hd hbl k7 d7
      go_wp2_with fail
      refine hput.out.mono ?_
      rintro e u1 ⟨⟨v, rfl⟩, ⟨q8, cs8, k8⟩, g8⟩
      have HW := Lib.hid (hq.out.turn hga.out k8 g8)
      clear k8 g8 hput hq cc
      by_cases hia : i0 < na
      · have hiaI : (i0 : Int) < (na : Int) := by omega
        have hiz : i0 < zs.length := by rw [← Hna.out]; exact hia
        obtain ⟨b', o', rfl, hbl', hcell'⟩ := HB.out.2.2 (by omega)
        have cc := (HW.out.2.cell (p := ⟨b', o' + i0, none⟩) hbl').trans (hcell' i0 hiz)
        obtain ⟨ak, hak⟩ : ∃ ak, ak = zs[i0]'hiz := ⟨_, rfl⟩
        rw [← hak] at cc
        clear hak hcell' hbl' hiz
        have hon := Lib.hid (on_any HW.out.1.choose_spec ak)
        go_wp2_with fail
        refine hon.out.mono ?_
        rintro e u2 ⟨⟨v2, rfl⟩, ⟨q9, f9, cs10, k10⟩, g10⟩
        have HX := Lib.hid (HW.out.turn hga.out k10 g10)
        clear k10 g10 hon cc HW
        have hfr := Lib.hid (frames_seq HX.out.1.choose_spec)
        go_wp2_with fail
        refine hfr.out.mono ?_
        rintro e u3 ⟨fb, m, s0, rfl, m1, mW, mq, m64, s64, hsq, b3⟩
        have HY := Lib.hid (HX.out.below b3)
        have HS := Lib.hid hsq
        obtain ⟨nq, hnq⟩ : ∃ k, k = List.length q9 := ⟨_, rfl⟩
        have hwt := Lib.hid (waiting_any HY.out.1.choose_spec nq hnq)
        rw [← hnq] at mq
        have hS64 := Lib.hid s64
        clear hfr HX b3 hsq hnq s64
        have g1 : decide ((Wn : Int) < (m : Int)) = false := decide_eq_false (by omega)
        have g2 : decide ((m : Int) < (1 : Int)) = false := decide_eq_false (by omega)
        have g1N : decide (Wn < m) = false := decide_eq_false (by omega)
        by_cases hq0 : 0 < nq
        · have g3 : decide ((0 : Int) < (nq : Int)) = true := decide_eq_true (by omega)
          have g3N : decide (0 < nq) = true := decide_eq_true hq0
          have g4 : decide ((nq : Int) < (m : Int)) = false := decide_eq_false (by have := mq hq0; omega)
          have g4N : decide (nq < m) = false := decide_eq_false (by have := mq hq0; omega)
          clear mq hq0 mW
          go_wp2_with fail
          refine hwt.out.mono ?_
          rintro e w5 ⟨rfl, rfl⟩
          go_wp2_with fail
          refine hwt.out.mono ?_
          rintro e w5 ⟨rfl, rfl⟩
          go_wp2_with fail
          clear hwt g1 g2 g3 g1N g3N g4 g4N
          go_loopw [13] (fun k wr => ∃ (k1 : Nat), k1 + 1 ≤ m ∧ k = .int .i64 ((k1 + 1 : Nat) : Int) ∧ Hid (WinI w ga S Wn q9 f9 wr) ∧ Hid (SeqAt wr fb m s0)) (fun k _ => m - (intOf k).toNat)
          case atStart => exact ⟨0, m1, rfl, HY, HS⟩
          case round =>
            obtain ⟨k1, hk1, rfl, hY2, hS2⟩ := hrel
            clear HY HS
            by_cases hkm : k1 + 1 < m
            · have hkI : ((k1 : Int) + 1) < (m : Int) := by omega
              have hkN : ((k1 + 1 : Nat) : Int) < (m : Int) := by omega
              have hk1I : (k1 : Int) < (m : Int) := by omega
              have hwr : IntKind.i64.wrap (k1 : Int) = (k1 : Int) := IntWalk.i64_in _ (by omega)
              have hws : IntKind.i64.wrap ((s0 : Int) + (k1 : Int) + 1) = (s0 : Int) + ((k1 : Int) + 1) := by rw [IntWalk.i64_in _ (by have := hS64.out; omega)]; omega
              go_wp2_with fail
              refine wp_region_invT (F := ?FWa0) (V := VWn fb m k1 s0) (dead := fun _ => none) (T := fun _ _ => True) (C := fun u' => (SeqAt u' fb m s0 ∧ WinI w ga S Wn q9 f9 u')) (E := fun _ _ _ => True) (by kernel_rfl) (by kernel_rfl) (by kernel_rfl) (fun x => ?hFWa0) ?hmonoWa0 ?hTmWa0 ?hTWa0 ?hCWa0 ?stepWa0 ?finWa0
              case hFWa0 => simp only [mkA, Act.put, List.setIfInBounds_toArray, List.set_cons_succ, List.set_cons_zero, Nat.reduceAdd, Nat.zero_add]; first | with_reducible rfl | rfl
              case hmonoWa0 => exact fun q' i v u u' he hik hwt hdd hv => VWn.mono hv
              case hTmWa0 => exact fun _ _ _ _ _ _ _ _ => trivial
              case hTWa0 => exact fun j => trivial
              case hCWa0 => exact ⟨hS2.out.drew, hY2.out.below (below_drew _)⟩
              case stepWa0 =>
                refine AllOps.cons (fun x u hC hT hp K hK => ?_) ?_
                · clear hp hT
                  go_simp
                  refine hK _ _ _ hC trivial (by exact rfl) ?_
                  first | (simp only [Act.put, List.setIfInBounds_toArray, List.set_cons_succ, List.set_cons_zero]; done) | simp [Act.put]
                refine AllOps.cons (fun x u hC hT hp K hK => ?_) ?_
                · clear hp hT
                  go_simp
                  refine hK _ _ _ hC trivial (by exact rfl) ?_
                  first | (simp only [Act.put, List.setIfInBounds_toArray, List.set_cons_succ, List.set_cons_zero]; done) | simp [Act.put]
                refine AllOps.cons (fun x u hC hT hp K hK => ?_) ?_
                · simp [KnownTill, Region.binds, VWn] at hp
                  clear hT
                  go_simp
                  refine hK _ _ _ hC trivial (by exact (by first | rfl | simp)) ?_
                  first | (simp only [Act.put, List.setIfInBounds_toArray, List.set_cons_succ, List.set_cons_zero, hp]; done) | simp [Act.put, hp]
                refine AllOps.cons (fun x u hC hT hp K hK => ?_) ?_
                · simp [KnownTill, Region.binds, VWn] at hp
                  clear hT
                  go_simp
                  refine hK _ _ _ hC trivial (by exact (by first | rfl | simp)) ?_
                  first | (simp only [Act.put, List.setIfInBounds_toArray, List.set_cons_succ, List.set_cons_zero, hp]; done) | simp [Act.put, hp]
                refine AllOps.cons (fun x u hC hT hp K hK => ?_) ?_
                · simp [KnownTill, Region.binds, VWn] at hp
                  clear hT
                  have cc := hC.1.cellN (k1 + 1) hkm
                  go_simp
                  refine hK _ _ _ hC trivial (by exact rfl) ?_
                  first | (simp only [Act.put, List.setIfInBounds_toArray, List.set_cons_succ, List.set_cons_zero, hp]; done) | simp [Act.put, hp]
                refine AllOps.cons (fun x u hC hT hp K hK => ?_) ?_
                · clear hp hT
                  go_simp
                  refine hK _ _ _ hC trivial (by exact rfl) ?_
                  first | (simp only [Act.put, List.setIfInBounds_toArray, List.set_cons_succ, List.set_cons_zero]; done) | simp [Act.put]
                refine AllOps.cons (fun x u hC hT hp K hK => ?_) ?_
                · clear hp hT
                  go_simp
                  refine hK _ _ _ hC trivial (by exact rfl) ?_
                  first | (simp only [Act.put, List.setIfInBounds_toArray, List.set_cons_succ, List.set_cons_zero]; done) | simp [Act.put]
                refine AllOps.cons (fun x u hC hT hp K hK => ?_) ?_
                · simp [KnownTill, Region.binds, VWn] at hp
                  clear hT
                  go_simp
                  refine hK _ _ _ hC trivial (by exact (by first | rfl | (simp; done))) ?_
                  first | (simp only [Act.put, List.setIfInBounds_toArray, List.set_cons_succ, List.set_cons_zero, hp, hwr]; done) | simp [Act.put, hp, hwr]
                refine AllOps.cons (fun x u hC hT hp K hK => ?_) ?_
                · simp [KnownTill, Region.binds, VWn] at hp
                  clear hT
                  go_simp
                  refine hK _ _ _ hC trivial (by exact (by first | rfl | simp)) ?_
                  first | (simp only [Act.put, List.setIfInBounds_toArray, List.set_cons_succ, List.set_cons_zero, hp]; done) | simp [Act.put, hp]
                refine AllOps.cons (fun x u hC hT hp K hK => ?_) ?_
                · simp [KnownTill, Region.binds, VWn] at hp
                  clear hT
                  go_simp
                  refine hK _ _ _ hC trivial (by exact (by first | rfl | simp)) ?_
                  first | (simp only [Act.put, List.setIfInBounds_toArray, List.set_cons_succ, List.set_cons_zero, hp]; done) | simp [Act.put, hp]
                refine AllOps.cons (fun x u hC hT hp K hK => ?_) ?_
                · simp [KnownTill, Region.binds, VWn] at hp
                  clear hT
                  have cc := hC.1.cellN k1 (by omega)
                  go_simp
                  refine hK _ _ _ hC trivial (by exact rfl) ?_
                  first | (simp only [Act.put, List.setIfInBounds_toArray, List.set_cons_succ, List.set_cons_zero, hp]; done) | simp [Act.put, hp]
                refine AllOps.cons (fun x u hC hT hp K hK => ?_) ?_
                · simp [KnownTill, Region.binds, VWn] at hp
                  clear hT
                  go_simp
                  refine hK _ _ _ hC trivial (by exact (by first | rfl | (simp; done))) ?_
                  first | (simp only [Act.put, List.setIfInBounds_toArray, List.set_cons_succ, List.set_cons_zero, hp, hws]; done) | simp [Act.put, hp, hws]
                refine AllOps.cons (fun x u hC hT hp K hK => ?_) ?_
                · simp [KnownTill, Region.binds, VWn] at hp
                  clear hT
                  go_simp
                  refine hK _ _ _ hC trivial (by exact (by first | rfl | simp)) ?_
                  first | (simp only [Act.put, List.setIfInBounds_toArray, List.set_cons_succ, List.set_cons_zero, hp]; done) | simp [Act.put, hp]
                exact AllOps.nil
              case finWa0 =>
                intro x9 u9 hC hV
                have h12 : x9 12 = .bool false := hV 12 (by decide) rfl
                simp only [h12]
                clear hV h12
                have HY9 := Lib.hid hC.2
                have HS9 := Lib.hid hC.1
                clear hC hY2 hS2
                go_wp2
                go_roundw
                case rel => exact ⟨k1 + 1, by omega, by go_num, HY9, HS9⟩
                case measure => simp [intOf]; omega
            · obtain rfl : k1 + 1 = m := by omega
              have hkI : ¬ ((k1 : Int) + 1) < ((k1 : Int) + 1) := by omega
              go_wp2
              go_roundw
              case rel => exact ⟨i0 + 1, _, _, by omega, by go_num, hY2⟩
              case measure => simp [intOf]; omega
        · have g3 : decide ((0 : Int) < (nq : Int)) = false := decide_eq_false (by omega)
          have g3N : decide (0 < nq) = false := decide_eq_false hq0
          clear mq hq0 mW
          go_wp2_with fail
          refine hwt.out.mono ?_
          rintro e w5 ⟨rfl, rfl⟩
          go_wp2_with fail
          clear hwt g1 g2 g3 g1N g3N
          go_loopw [13] (fun k wr => ∃ (k1 : Nat), k1 + 1 ≤ m ∧ k = .int .i64 ((k1 + 1 : Nat) : Int) ∧ Hid (WinI w ga S Wn q9 f9 wr) ∧ Hid (SeqAt wr fb m s0)) (fun k _ => m - (intOf k).toNat)
          case atStart => exact ⟨0, m1, rfl, HY, HS⟩
          case round =>
            obtain ⟨k1, hk1, rfl, hY2, hS2⟩ := hrel
            clear HY HS
            by_cases hkm : k1 + 1 < m
            · have hkI : ((k1 : Int) + 1) < (m : Int) := by omega
              have hkN : ((k1 + 1 : Nat) : Int) < (m : Int) := by omega
              have hk1I : (k1 : Int) < (m : Int) := by omega
              have hwr : IntKind.i64.wrap (k1 : Int) = (k1 : Int) := IntWalk.i64_in _ (by omega)
              have hws : IntKind.i64.wrap ((s0 : Int) + (k1 : Int) + 1) = (s0 : Int) + ((k1 : Int) + 1) := by rw [IntWalk.i64_in _ (by have := hS64.out; omega)]; omega
              go_wp2_with fail
              refine wp_region_invT (F := ?FWa1) (V := VWn fb m k1 s0) (dead := fun _ => none) (T := fun _ _ => True) (C := fun u' => (SeqAt u' fb m s0 ∧ WinI w ga S Wn q9 f9 u')) (E := fun _ _ _ => True) (by kernel_rfl) (by kernel_rfl) (by kernel_rfl) (fun x => ?hFWa1) ?hmonoWa1 ?hTmWa1 ?hTWa1 ?hCWa1 ?stepWa1 ?finWa1
              case hFWa1 => simp only [mkA, Act.put, List.setIfInBounds_toArray, List.set_cons_succ, List.set_cons_zero, Nat.reduceAdd, Nat.zero_add]; first | with_reducible rfl | rfl
              case hmonoWa1 => exact fun q' i v u u' he hik hwt hdd hv => VWn.mono hv
              case hTmWa1 => exact fun _ _ _ _ _ _ _ _ => trivial
              case hTWa1 => exact fun j => trivial
              case hCWa1 => exact ⟨hS2.out.drew, hY2.out.below (below_drew _)⟩
              case stepWa1 =>
                refine AllOps.cons (fun x u hC hT hp K hK => ?_) ?_
                · clear hp hT
                  go_simp
                  refine hK _ _ _ hC trivial (by exact rfl) ?_
                  first | (simp only [Act.put, List.setIfInBounds_toArray, List.set_cons_succ, List.set_cons_zero]; done) | simp [Act.put]
                refine AllOps.cons (fun x u hC hT hp K hK => ?_) ?_
                · clear hp hT
                  go_simp
                  refine hK _ _ _ hC trivial (by exact rfl) ?_
                  first | (simp only [Act.put, List.setIfInBounds_toArray, List.set_cons_succ, List.set_cons_zero]; done) | simp [Act.put]
                refine AllOps.cons (fun x u hC hT hp K hK => ?_) ?_
                · simp [KnownTill, Region.binds, VWn] at hp
                  clear hT
                  go_simp
                  refine hK _ _ _ hC trivial (by exact (by first | rfl | simp)) ?_
                  first | (simp only [Act.put, List.setIfInBounds_toArray, List.set_cons_succ, List.set_cons_zero, hp]; done) | simp [Act.put, hp]
                refine AllOps.cons (fun x u hC hT hp K hK => ?_) ?_
                · simp [KnownTill, Region.binds, VWn] at hp
                  clear hT
                  go_simp
                  refine hK _ _ _ hC trivial (by exact (by first | rfl | simp)) ?_
                  first | (simp only [Act.put, List.setIfInBounds_toArray, List.set_cons_succ, List.set_cons_zero, hp]; done) | simp [Act.put, hp]
                refine AllOps.cons (fun x u hC hT hp K hK => ?_) ?_
                · simp [KnownTill, Region.binds, VWn] at hp
                  clear hT
                  have cc := hC.1.cellN (k1 + 1) hkm
                  go_simp
                  refine hK _ _ _ hC trivial (by exact rfl) ?_
                  first | (simp only [Act.put, List.setIfInBounds_toArray, List.set_cons_succ, List.set_cons_zero, hp]; done) | simp [Act.put, hp]
                refine AllOps.cons (fun x u hC hT hp K hK => ?_) ?_
                · clear hp hT
                  go_simp
                  refine hK _ _ _ hC trivial (by exact rfl) ?_
                  first | (simp only [Act.put, List.setIfInBounds_toArray, List.set_cons_succ, List.set_cons_zero]; done) | simp [Act.put]
                refine AllOps.cons (fun x u hC hT hp K hK => ?_) ?_
                · clear hp hT
                  go_simp
                  refine hK _ _ _ hC trivial (by exact rfl) ?_
                  first | (simp only [Act.put, List.setIfInBounds_toArray, List.set_cons_succ, List.set_cons_zero]; done) | simp [Act.put]
                refine AllOps.cons (fun x u hC hT hp K hK => ?_) ?_
                · simp [KnownTill, Region.binds, VWn] at hp
                  clear hT
                  go_simp
                  refine hK _ _ _ hC trivial (by exact (by first | rfl | (simp; done))) ?_
                  first | (simp only [Act.put, List.setIfInBounds_toArray, List.set_cons_succ, List.set_cons_zero, hp, hwr]; done) | simp [Act.put, hp, hwr]
                refine AllOps.cons (fun x u hC hT hp K hK => ?_) ?_
                · simp [KnownTill, Region.binds, VWn] at hp
                  clear hT
                  go_simp
                  refine hK _ _ _ hC trivial (by exact (by first | rfl | simp)) ?_
                  first | (simp only [Act.put, List.setIfInBounds_toArray, List.set_cons_succ, List.set_cons_zero, hp]; done) | simp [Act.put, hp]
                refine AllOps.cons (fun x u hC hT hp K hK => ?_) ?_
                · simp [KnownTill, Region.binds, VWn] at hp
                  clear hT
                  go_simp
                  refine hK _ _ _ hC trivial (by exact (by first | rfl | simp)) ?_
                  first | (simp only [Act.put, List.setIfInBounds_toArray, List.set_cons_succ, List.set_cons_zero, hp]; done) | simp [Act.put, hp]
                refine AllOps.cons (fun x u hC hT hp K hK => ?_) ?_
                · simp [KnownTill, Region.binds, VWn] at hp
                  clear hT
                  have cc := hC.1.cellN k1 (by omega)
                  go_simp
                  refine hK _ _ _ hC trivial (by exact rfl) ?_
                  first | (simp only [Act.put, List.setIfInBounds_toArray, List.set_cons_succ, List.set_cons_zero, hp]; done) | simp [Act.put, hp]
                refine AllOps.cons (fun x u hC hT hp K hK => ?_) ?_
                · simp [KnownTill, Region.binds, VWn] at hp
                  clear hT
                  go_simp
                  refine hK _ _ _ hC trivial (by exact (by first | rfl | (simp; done))) ?_
                  first | (simp only [Act.put, List.setIfInBounds_toArray, List.set_cons_succ, List.set_cons_zero, hp, hws]; done) | simp [Act.put, hp, hws]
                refine AllOps.cons (fun x u hC hT hp K hK => ?_) ?_
                · simp [KnownTill, Region.binds, VWn] at hp
                  clear hT
                  go_simp
                  refine hK _ _ _ hC trivial (by exact (by first | rfl | simp)) ?_
                  first | (simp only [Act.put, List.setIfInBounds_toArray, List.set_cons_succ, List.set_cons_zero, hp]; done) | simp [Act.put, hp]
                exact AllOps.nil
              case finWa1 =>
                intro x9 u9 hC hV
                have h12 : x9 12 = .bool false := hV 12 (by decide) rfl
                simp only [h12]
                clear hV h12
                have HY9 := Lib.hid hC.2
                have HS9 := Lib.hid hC.1
                clear hC hY2 hS2
                go_wp2
                go_roundw
                case rel => exact ⟨k1 + 1, by omega, by go_num, HY9, HS9⟩
                case measure => simp [intOf]; omega
            · obtain rfl : k1 + 1 = m := by omega
              have hkI : ¬ ((k1 : Int) + 1) < ((k1 : Int) + 1) := by omega
              go_wp2
              go_roundw
              case rel => exact ⟨i0 + 1, _, _, by omega, by go_num, hY2⟩
              case measure => simp [intOf]; omega
      · have hiaI : ¬ (i0 : Int) < (na : Int) := by omega
        have HX := HW
        clear HW
        have hfr := Lib.hid (frames_seq HX.out.1.choose_spec)
        go_wp2_with fail
        refine hfr.out.mono ?_
        rintro e u3 ⟨fb, m, s0, rfl, m1, mW, mq, m64, s64, hsq, b3⟩
        have HY := Lib.hid (HX.out.below b3)
        have HS := Lib.hid hsq
        obtain ⟨nq, hnq⟩ : ∃ k, k = List.length q8 := ⟨_, rfl⟩
        have hwt := Lib.hid (waiting_any HY.out.1.choose_spec nq hnq)
        rw [← hnq] at mq
        have hS64 := Lib.hid s64
        clear hfr HX b3 hsq hnq s64
        have g1 : decide ((Wn : Int) < (m : Int)) = false := decide_eq_false (by omega)
        have g2 : decide ((m : Int) < (1 : Int)) = false := decide_eq_false (by omega)
        have g1N : decide (Wn < m) = false := decide_eq_false (by omega)
        by_cases hq0 : 0 < nq
        · have g3 : decide ((0 : Int) < (nq : Int)) = true := decide_eq_true (by omega)
          have g3N : decide (0 < nq) = true := decide_eq_true hq0
          have g4 : decide ((nq : Int) < (m : Int)) = false := decide_eq_false (by have := mq hq0; omega)
          have g4N : decide (nq < m) = false := decide_eq_false (by have := mq hq0; omega)
          clear mq hq0 mW
          go_wp2_with fail
          refine hwt.out.mono ?_
          rintro e w5 ⟨rfl, rfl⟩
          go_wp2_with fail
          refine hwt.out.mono ?_
          rintro e w5 ⟨rfl, rfl⟩
          go_wp2_with fail
          clear hwt g1 g2 g3 g1N g3N g4 g4N
          go_loopw [13] (fun k wr => ∃ (k1 : Nat), k1 + 1 ≤ m ∧ k = .int .i64 ((k1 + 1 : Nat) : Int) ∧ Hid (WinI w ga S Wn q8 ff wr) ∧ Hid (SeqAt wr fb m s0)) (fun k _ => m - (intOf k).toNat)
          case atStart => exact ⟨0, m1, rfl, HY, HS⟩
          case round =>
            obtain ⟨k1, hk1, rfl, hY2, hS2⟩ := hrel
            clear HY HS
            by_cases hkm : k1 + 1 < m
            · have hkI : ((k1 : Int) + 1) < (m : Int) := by omega
              have hkN : ((k1 + 1 : Nat) : Int) < (m : Int) := by omega
              have hk1I : (k1 : Int) < (m : Int) := by omega
              have hwr : IntKind.i64.wrap (k1 : Int) = (k1 : Int) := IntWalk.i64_in _ (by omega)
              have hws : IntKind.i64.wrap ((s0 : Int) + (k1 : Int) + 1) = (s0 : Int) + ((k1 : Int) + 1) := by rw [IntWalk.i64_in _ (by have := hS64.out; omega)]; omega
              go_wp2_with fail
              refine wp_region_invT (F := ?FWb0) (V := VWn fb m k1 s0) (dead := fun _ => none) (T := fun _ _ => True) (C := fun u' => (SeqAt u' fb m s0 ∧ WinI w ga S Wn q8 ff u')) (E := fun _ _ _ => True) (by kernel_rfl) (by kernel_rfl) (by kernel_rfl) (fun x => ?hFWb0) ?hmonoWb0 ?hTmWb0 ?hTWb0 ?hCWb0 ?stepWb0 ?finWb0
              case hFWb0 => simp only [mkA, Act.put, List.setIfInBounds_toArray, List.set_cons_succ, List.set_cons_zero, Nat.reduceAdd, Nat.zero_add]; first | with_reducible rfl | rfl
              case hmonoWb0 => exact fun q' i v u u' he hik hwt hdd hv => VWn.mono hv
              case hTmWb0 => exact fun _ _ _ _ _ _ _ _ => trivial
              case hTWb0 => exact fun j => trivial
              case hCWb0 => exact ⟨hS2.out.drew, hY2.out.below (below_drew _)⟩
              case stepWb0 =>
                refine AllOps.cons (fun x u hC hT hp K hK => ?_) ?_
                · clear hp hT
                  go_simp
                  refine hK _ _ _ hC trivial (by exact rfl) ?_
                  first | (simp only [Act.put, List.setIfInBounds_toArray, List.set_cons_succ, List.set_cons_zero]; done) | simp [Act.put]
                refine AllOps.cons (fun x u hC hT hp K hK => ?_) ?_
                · clear hp hT
                  go_simp
                  refine hK _ _ _ hC trivial (by exact rfl) ?_
                  first | (simp only [Act.put, List.setIfInBounds_toArray, List.set_cons_succ, List.set_cons_zero]; done) | simp [Act.put]
                refine AllOps.cons (fun x u hC hT hp K hK => ?_) ?_
                · simp [KnownTill, Region.binds, VWn] at hp
                  clear hT
                  go_simp
                  refine hK _ _ _ hC trivial (by exact (by first | rfl | simp)) ?_
                  first | (simp only [Act.put, List.setIfInBounds_toArray, List.set_cons_succ, List.set_cons_zero, hp]; done) | simp [Act.put, hp]
                refine AllOps.cons (fun x u hC hT hp K hK => ?_) ?_
                · simp [KnownTill, Region.binds, VWn] at hp
                  clear hT
                  go_simp
                  refine hK _ _ _ hC trivial (by exact (by first | rfl | simp)) ?_
                  first | (simp only [Act.put, List.setIfInBounds_toArray, List.set_cons_succ, List.set_cons_zero, hp]; done) | simp [Act.put, hp]
                refine AllOps.cons (fun x u hC hT hp K hK => ?_) ?_
                · simp [KnownTill, Region.binds, VWn] at hp
                  clear hT
                  have cc := hC.1.cellN (k1 + 1) hkm
                  go_simp
                  refine hK _ _ _ hC trivial (by exact rfl) ?_
                  first | (simp only [Act.put, List.setIfInBounds_toArray, List.set_cons_succ, List.set_cons_zero, hp]; done) | simp [Act.put, hp]
                refine AllOps.cons (fun x u hC hT hp K hK => ?_) ?_
                · clear hp hT
                  go_simp
                  refine hK _ _ _ hC trivial (by exact rfl) ?_
                  first | (simp only [Act.put, List.setIfInBounds_toArray, List.set_cons_succ, List.set_cons_zero]; done) | simp [Act.put]
                refine AllOps.cons (fun x u hC hT hp K hK => ?_) ?_
                · clear hp hT
                  go_simp
                  refine hK _ _ _ hC trivial (by exact rfl) ?_
                  first | (simp only [Act.put, List.setIfInBounds_toArray, List.set_cons_succ, List.set_cons_zero]; done) | simp [Act.put]
                refine AllOps.cons (fun x u hC hT hp K hK => ?_) ?_
                · simp [KnownTill, Region.binds, VWn] at hp
                  clear hT
                  go_simp
                  refine hK _ _ _ hC trivial (by exact (by first | rfl | (simp; done))) ?_
                  first | (simp only [Act.put, List.setIfInBounds_toArray, List.set_cons_succ, List.set_cons_zero, hp, hwr]; done) | simp [Act.put, hp, hwr]
                refine AllOps.cons (fun x u hC hT hp K hK => ?_) ?_
                · simp [KnownTill, Region.binds, VWn] at hp
                  clear hT
                  go_simp
                  refine hK _ _ _ hC trivial (by exact (by first | rfl | simp)) ?_
                  first | (simp only [Act.put, List.setIfInBounds_toArray, List.set_cons_succ, List.set_cons_zero, hp]; done) | simp [Act.put, hp]
                refine AllOps.cons (fun x u hC hT hp K hK => ?_) ?_
                · simp [KnownTill, Region.binds, VWn] at hp
                  clear hT
                  go_simp
                  refine hK _ _ _ hC trivial (by exact (by first | rfl | simp)) ?_
                  first | (simp only [Act.put, List.setIfInBounds_toArray, List.set_cons_succ, List.set_cons_zero, hp]; done) | simp [Act.put, hp]
                refine AllOps.cons (fun x u hC hT hp K hK => ?_) ?_
                · simp [KnownTill, Region.binds, VWn] at hp
                  clear hT
                  have cc := hC.1.cellN k1 (by omega)
                  go_simp
                  refine hK _ _ _ hC trivial (by exact rfl) ?_
                  first | (simp only [Act.put, List.setIfInBounds_toArray, List.set_cons_succ, List.set_cons_zero, hp]; done) | simp [Act.put, hp]
                refine AllOps.cons (fun x u hC hT hp K hK => ?_) ?_
                · simp [KnownTill, Region.binds, VWn] at hp
                  clear hT
                  go_simp
                  refine hK _ _ _ hC trivial (by exact (by first | rfl | (simp; done))) ?_
                  first | (simp only [Act.put, List.setIfInBounds_toArray, List.set_cons_succ, List.set_cons_zero, hp, hws]; done) | simp [Act.put, hp, hws]
                refine AllOps.cons (fun x u hC hT hp K hK => ?_) ?_
                · simp [KnownTill, Region.binds, VWn] at hp
                  clear hT
                  go_simp
                  refine hK _ _ _ hC trivial (by exact (by first | rfl | simp)) ?_
                  first | (simp only [Act.put, List.setIfInBounds_toArray, List.set_cons_succ, List.set_cons_zero, hp]; done) | simp [Act.put, hp]
                exact AllOps.nil
              case finWb0 =>
                intro x9 u9 hC hV
                have h12 : x9 12 = .bool false := hV 12 (by decide) rfl
                simp only [h12]
                clear hV h12
                have HY9 := Lib.hid hC.2
                have HS9 := Lib.hid hC.1
                clear hC hY2 hS2
                go_wp2
                go_roundw
                case rel => exact ⟨k1 + 1, by omega, by go_num, HY9, HS9⟩
                case measure => simp [intOf]; omega
            · obtain rfl : k1 + 1 = m := by omega
              have hkI : ¬ ((k1 : Int) + 1) < ((k1 : Int) + 1) := by omega
              go_wp2
              go_roundw
              case rel => exact ⟨i0 + 1, _, _, by omega, by go_num, hY2⟩
              case measure => simp [intOf]; omega
        · have g3 : decide ((0 : Int) < (nq : Int)) = false := decide_eq_false (by omega)
          have g3N : decide (0 < nq) = false := decide_eq_false hq0
          clear mq hq0 mW
          go_wp2_with fail
          refine hwt.out.mono ?_
          rintro e w5 ⟨rfl, rfl⟩
          go_wp2_with fail
          clear hwt g1 g2 g3 g1N g3N
          go_loopw [13] (fun k wr => ∃ (k1 : Nat), k1 + 1 ≤ m ∧ k = .int .i64 ((k1 + 1 : Nat) : Int) ∧ Hid (WinI w ga S Wn q8 ff wr) ∧ Hid (SeqAt wr fb m s0)) (fun k _ => m - (intOf k).toNat)
          case atStart => exact ⟨0, m1, rfl, HY, HS⟩
          case round =>
            obtain ⟨k1, hk1, rfl, hY2, hS2⟩ := hrel
            clear HY HS
            by_cases hkm : k1 + 1 < m
            · have hkI : ((k1 : Int) + 1) < (m : Int) := by omega
              have hkN : ((k1 + 1 : Nat) : Int) < (m : Int) := by omega
              have hk1I : (k1 : Int) < (m : Int) := by omega
              have hwr : IntKind.i64.wrap (k1 : Int) = (k1 : Int) := IntWalk.i64_in _ (by omega)
              have hws : IntKind.i64.wrap ((s0 : Int) + (k1 : Int) + 1) = (s0 : Int) + ((k1 : Int) + 1) := by rw [IntWalk.i64_in _ (by have := hS64.out; omega)]; omega
              go_wp2_with fail
              refine wp_region_invT (F := ?FWb1) (V := VWn fb m k1 s0) (dead := fun _ => none) (T := fun _ _ => True) (C := fun u' => (SeqAt u' fb m s0 ∧ WinI w ga S Wn q8 ff u')) (E := fun _ _ _ => True) (by kernel_rfl) (by kernel_rfl) (by kernel_rfl) (fun x => ?hFWb1) ?hmonoWb1 ?hTmWb1 ?hTWb1 ?hCWb1 ?stepWb1 ?finWb1
              case hFWb1 => simp only [mkA, Act.put, List.setIfInBounds_toArray, List.set_cons_succ, List.set_cons_zero, Nat.reduceAdd, Nat.zero_add]; first | with_reducible rfl | rfl
              case hmonoWb1 => exact fun q' i v u u' he hik hwt hdd hv => VWn.mono hv
              case hTmWb1 => exact fun _ _ _ _ _ _ _ _ => trivial
              case hTWb1 => exact fun j => trivial
              case hCWb1 => exact ⟨hS2.out.drew, hY2.out.below (below_drew _)⟩
              case stepWb1 =>
                refine AllOps.cons (fun x u hC hT hp K hK => ?_) ?_
                · clear hp hT
                  go_simp
                  refine hK _ _ _ hC trivial (by exact rfl) ?_
                  first | (simp only [Act.put, List.setIfInBounds_toArray, List.set_cons_succ, List.set_cons_zero]; done) | simp [Act.put]
                refine AllOps.cons (fun x u hC hT hp K hK => ?_) ?_
                · clear hp hT
                  go_simp
                  refine hK _ _ _ hC trivial (by exact rfl) ?_
                  first | (simp only [Act.put, List.setIfInBounds_toArray, List.set_cons_succ, List.set_cons_zero]; done) | simp [Act.put]
                refine AllOps.cons (fun x u hC hT hp K hK => ?_) ?_
                · simp [KnownTill, Region.binds, VWn] at hp
                  clear hT
                  go_simp
                  refine hK _ _ _ hC trivial (by exact (by first | rfl | simp)) ?_
                  first | (simp only [Act.put, List.setIfInBounds_toArray, List.set_cons_succ, List.set_cons_zero, hp]; done) | simp [Act.put, hp]
                refine AllOps.cons (fun x u hC hT hp K hK => ?_) ?_
                · simp [KnownTill, Region.binds, VWn] at hp
                  clear hT
                  go_simp
                  refine hK _ _ _ hC trivial (by exact (by first | rfl | simp)) ?_
                  first | (simp only [Act.put, List.setIfInBounds_toArray, List.set_cons_succ, List.set_cons_zero, hp]; done) | simp [Act.put, hp]
                refine AllOps.cons (fun x u hC hT hp K hK => ?_) ?_
                · simp [KnownTill, Region.binds, VWn] at hp
                  clear hT
                  have cc := hC.1.cellN (k1 + 1) hkm
                  go_simp
                  refine hK _ _ _ hC trivial (by exact rfl) ?_
                  first | (simp only [Act.put, List.setIfInBounds_toArray, List.set_cons_succ, List.set_cons_zero, hp]; done) | simp [Act.put, hp]
                refine AllOps.cons (fun x u hC hT hp K hK => ?_) ?_
                · clear hp hT
                  go_simp
                  refine hK _ _ _ hC trivial (by exact rfl) ?_
                  first | (simp only [Act.put, List.setIfInBounds_toArray, List.set_cons_succ, List.set_cons_zero]; done) | simp [Act.put]
                refine AllOps.cons (fun x u hC hT hp K hK => ?_) ?_
                · clear hp hT
                  go_simp
                  refine hK _ _ _ hC trivial (by exact rfl) ?_
                  first | (simp only [Act.put, List.setIfInBounds_toArray, List.set_cons_succ, List.set_cons_zero]; done) | simp [Act.put]
                refine AllOps.cons (fun x u hC hT hp K hK => ?_) ?_
                · simp [KnownTill, Region.binds, VWn] at hp
                  clear hT
                  go_simp
                  refine hK _ _ _ hC trivial (by exact (by first | rfl | (simp; done))) ?_
                  first | (simp only [Act.put, List.setIfInBounds_toArray, List.set_cons_succ, List.set_cons_zero, hp, hwr]; done) | simp [Act.put, hp, hwr]
                refine AllOps.cons (fun x u hC hT hp K hK => ?_) ?_
                · simp [KnownTill, Region.binds, VWn] at hp
                  clear hT
                  go_simp
                  refine hK _ _ _ hC trivial (by exact (by first | rfl | simp)) ?_
                  first | (simp only [Act.put, List.setIfInBounds_toArray, List.set_cons_succ, List.set_cons_zero, hp]; done) | simp [Act.put, hp]
                refine AllOps.cons (fun x u hC hT hp K hK => ?_) ?_
                · simp [KnownTill, Region.binds, VWn] at hp
                  clear hT
                  go_simp
                  refine hK _ _ _ hC trivial (by exact (by first | rfl | simp)) ?_
                  first | (simp only [Act.put, List.setIfInBounds_toArray, List.set_cons_succ, List.set_cons_zero, hp]; done) | simp [Act.put, hp]
                refine AllOps.cons (fun x u hC hT hp K hK => ?_) ?_
                · simp [KnownTill, Region.binds, VWn] at hp
                  clear hT
                  have cc := hC.1.cellN k1 (by omega)
                  go_simp
                  refine hK _ _ _ hC trivial (by exact rfl) ?_
                  first | (simp only [Act.put, List.setIfInBounds_toArray, List.set_cons_succ, List.set_cons_zero, hp]; done) | simp [Act.put, hp]
                refine AllOps.cons (fun x u hC hT hp K hK => ?_) ?_
                · simp [KnownTill, Region.binds, VWn] at hp
                  clear hT
                  go_simp
                  refine hK _ _ _ hC trivial (by exact (by first | rfl | (simp; done))) ?_
                  first | (simp only [Act.put, List.setIfInBounds_toArray, List.set_cons_succ, List.set_cons_zero, hp, hws]; done) | simp [Act.put, hp, hws]
                refine AllOps.cons (fun x u hC hT hp K hK => ?_) ?_
                · simp [KnownTill, Region.binds, VWn] at hp
                  clear hT
                  go_simp
                  refine hK _ _ _ hC trivial (by exact (by first | rfl | simp)) ?_
                  first | (simp only [Act.put, List.setIfInBounds_toArray, List.set_cons_succ, List.set_cons_zero, hp]; done) | simp [Act.put, hp]
                exact AllOps.nil
              case finWb1 =>
                intro x9 u9 hC hV
                have h12 : x9 12 = .bool false := hV 12 (by decide) rfl
                simp only [h12]
                clear hV h12
                have HY9 := Lib.hid hC.2
                have HS9 := Lib.hid hC.1
                clear hC hY2 hS2
                go_wp2
                go_roundw
                case rel => exact ⟨k1 + 1, by omega, by go_num, HY9, HS9⟩
                case measure => simp [intOf]; omega
            · obtain rfl : k1 + 1 = m := by omega
              have hkI : ¬ ((k1 : Int) + 1) < ((k1 : Int) + 1) := by omega
              go_wp2
              go_roundw
              case rel => exact ⟨i0 + 1, _, _, by omega, by go_num, hY2⟩
              case measure => simp [intOf]; omega
    · obtain rfl : i0 = n := by omega
      have hiI : ¬ (i0 : Int) < (i0 : Int) := by omega
      go_wp2_with fail
      refine (alive_any _).mono ?_
      rintro e w8 ⟨rfl, b8⟩
      have HF := Lib.hid (bt hq.out.2 b8)
      go_wp2
      go_ret
      exact ⟨rfl, HF.out⟩

end Go.Proofs.Ytkhnhidckiopnaa
