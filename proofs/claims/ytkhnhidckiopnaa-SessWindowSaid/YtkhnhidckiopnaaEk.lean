/- Layer 9: frames of another session. -/
import Derived.Test.YtkhnhidckiopnaaEj
import Derived.Test.YtkhnhidckiopnaaInvU
namespace Go.Proofs.Ytkhnhidckiopnaa
open Go.RowKit
set_option linter.unusedVariables false
set_option linter.unusedSimpArgs false

theorem put_any {w : World} {g S W f x : Nat} {q : List (List UInt8)} {cs : Array Value} (h : EndAt w g S W q f x cs) (A : Option Addr) (l : List UInt8) (n c : Nat) (hn : n = l.length) (hbs : Bs w w.heap.size A l) :
    Calls Try.prog 13 #[.pointer (some ⟨g, 0, none⟩), .slice A n c] w fun e w' => (∃ v, e = .returned v) ∧ (∃ q' cs', EndAt w' g S W q' f x cs') ∧ w.grownBy w' (some g) := by
  by_cases h0 : putE q f n = 0
  · refine (put_ok h A l n c (Lib.hid hn) hbs h0).mono ?_
    rintro e w' ⟨h1, ⟨cs', h2⟩, h3⟩
    exact ⟨⟨_, h1⟩, ⟨_, cs', h2⟩, h3⟩
  · refine (put_bad h A n c _ rfl h0).mono ?_
    rintro e w' ⟨h1, h2⟩
    exact ⟨⟨_, h1⟩, ⟨q, cs, h.bt h2⟩, grown_of h2 _⟩
theorem ListAt.bt {w w' : World} {A : Option Addr} {ls : List (List UInt8)} (h : ListAt w w.heap.size A ls) (hb : Below w.heap.size w w') : ListAt w' w'.heap.size A ls := fun hn => by
  obtain ⟨b, o, e, h1, h2⟩ := h hn
  refine ⟨b, o, e, Nat.lt_of_lt_of_le h1 hb.size, fun i hi => ?_⟩
  obtain ⟨Ai, ci, h3, h4⟩ := h2 i hi
  exact ⟨Ai, ci, (hb.cell (p := ⟨b, o + i, none⟩) h1).trans h3, h4.bt hb⟩
theorem frames_len {w : World} {g S W f x : Nat} {q : List (List UInt8)} {cs : Array Value} (h : EndAt w g S W q f x cs) :
    Calls Try.prog 17 #[.pointer (some ⟨g, 0, none⟩)] w fun e w' => ∃ fb m : Nat, e = .returned (.slice (some ⟨fb, 0, none⟩) m m) ∧ 0 < m ∧ Below w.heap.size w w' := by
  by_cases hq : q = []
  · subst hq
    refine (frames_none h).mono ?_
    rintro e w' ⟨fb, h1, _, h2⟩
    exact ⟨fb, 1, h1, by omega, h2⟩
  · refine (frames_some h hq _ rfl).mono ?_
    rintro e w' ⟨fb, h1, _, h2⟩
    have := List.length_pos_iff.2 hq
    have := h.w1
    exact ⟨fb, _, h1, by omega, h2⟩
/-- The pair's block, the box, the end. -/
def OthInv (w0 : World) (p ga gb S W : Nat) (bx : Array Value) (q : List (List UInt8)) (u : World) : Prop := (∃ cs, EndAt u ga S W q 0 0 cs) ∧ Blk u p 64 #[.pointer (some ⟨ga, 0, none⟩), .pointer (some ⟨gb, 0, none⟩), .slice none 0 0, .slice none 0 0, .slice none 0 0, .slice none 0 0, .slice none 0 0, .slice none 0 0] ∧ Blk u w0.heap.size 33 bx ∧ Below w0.heap.size w0 u
theorem OthInv.below {w0 u u' : World} {p ga gb S W : Nat} {bx : Array Value} {q : List (List UInt8)} (h : OthInv w0 p ga gb S W bx q u) (hb : Below u.heap.size u u') : OthInv w0 p ga gb S W bx q u' := by
  obtain ⟨⟨cs, h1⟩, h2, h3, h4⟩ := h
  exact ⟨⟨cs, h1.bt hb⟩, h2.below hb h2.lt, h3.below hb h3.lt, bt h4 hb⟩
theorem OthInv.put {w0 u u' : World} {p ga gb S W : Nat} {bx : Array Value} {q q' : List (List UInt8)} {cs' : Array Value} (h : OthInv w0 p ga gb S W bx q u) (hga : w0.heap.size < ga) (hp : ga < p) (he : EndAt u' ga S W q' 0 0 cs') (hg : u.grownBy u' (some ga)) : OthInv w0 p ga gb S W bx q' u' := by
  obtain ⟨⟨cs, h1⟩, h2, h3, h4⟩ := h
  exact ⟨⟨cs', he⟩, h2.kept hg (fun e => by injection e with e; omega), h3.kept hg (fun e => by injection e with e; omega), h4.grown hg h4.size (fun k e => by cases e; omega)⟩

def VOp (p ga n i0 b o d : Nat) (c ci : Nat) (Ai : Option Addr) (i : Nat) (v : Value) (w : World) : Prop :=
  match i with
  | 0 => v = .pointer (some ⟨p, 0, none⟩)
  | 1 => v = .pointer (some ⟨p, 0, none⟩)
  | 2 => v = .pointer (some ⟨p, 0, none⟩)
  | 3 => v = .pointer (some ⟨p, 0, none⟩)
  | 4 => v = .pointer (some ⟨ga, 0, none⟩)
  | 5 => v = .slice (some ⟨b, o, none⟩) n c
  | 6 => v = .int .i64 i0
  | 7 => v = .pointer (some ⟨b, o + i0, none⟩)
  | 8 => v = .slice Ai d ci
  | _ => True

theorem VOp.mono {p ga n i0 b o d c ci i : Nat} {Ai : Option Addr} {v : Value} {u u' : World} (hv : VOp p ga n i0 b o d c ci Ai i v u) : VOp p ga n i0 b o d c ci Ai i v u' := by
  unfold VOp at hv ⊢; split at hv <;> exact hv

def VOn (p ga s : Nat) (q a : Int) (A1 : Option Addr) (n1 c1 : Nat) (i : Nat) (v : Value) (w : World) : Prop :=
  match i with
  | 0 => v = .pointer (some ⟨p, 0, none⟩)
  | 1 => v = .pointer (some ⟨p, 0, none⟩)
  | 2 => v = .pointer (some ⟨p, 0, none⟩)
  | 3 => v = .pointer (some ⟨p, 0, none⟩)
  | 4 => v = .pointer (some ⟨ga, 0, none⟩)
  | 5 => v = .agg #[.int .u32 s, .int .i64 q, .int .i64 a, .slice A1 n1 c1]
  | 6 => v = .tuple #[.slice none 0 0, .int .i64 90]
  | 7 => v = .tuple #[.slice none 0 0, .int .i64 90]
  | 8 => v = .slice none 0 0
  | 9 => v = .int .i64 90
  | 10 => v = .slice none 0 0
  | 11 => v = .int .i64 90
  | _ => True

theorem VOn.mono {p ga s n1 c1 i : Nat} {q a : Int} {A1 : Option Addr} {v : Value} {u u' : World} (hv : VOn p ga s q a A1 n1 c1 i v u) : VOn p ga s q a A1 n1 c1 i v u' := by
  unfold VOn at hv ⊢; split at hv <;> exact hv
set_option maxRecDepth 100000 in
set_option maxHeartbeats 8000000 in
theorem sessOther_walk (S : Nat) (W : Int) (A : Option Addr) (ls : List (List UInt8)) (c : Nat) (o : FrmV) (w : World) (bS : S < 4294967296) (bW1 : -9223372036854775808 ≤ W) (bW2 : W ≤ 9223372036854775807) (b2 : ls.length ≤ maxLen) (e2 : ListAt w w.heap.size A ls) (ho : FrmOk w o) :
    Calls Try.prog 7 #[.int .u32 S, .int .i64 W, .slice A ls.length c, o.val] w fun e w' => e = .returned (.bool true) ∧ Below w.heap.size w w' := by
  obtain ⟨s, q, a, A1, l1, c1⟩ := o
  obtain ⟨n, hn⟩ : ∃ n, n = ls.length := ⟨_, rfl⟩
  obtain ⟨n1, hn1⟩ : ∃ n1, n1 = l1.length := ⟨_, rfl⟩
  unfold FrmV.val
  rw [← hn]
  show Calls Try.prog 7 #[.int .u32 S, .int .i64 W, .slice A n c, .agg #[.int .u32 s, .int .i64 q, .int .i64 a, .slice A1 l1.length c1]] w _
  rw [← hn1]
  have Hn := Lib.hid hn
  have hbw := ba w (.cells #[.int .u32 (s : Nat), .int .i64 q, .int .i64 a, .slice A1 n1 c1] 33)
  have kbx : Blk _ _ 33 _ := Blk.new w 33 #[.int .u32 (s : Nat), .int .i64 q, .int .i64 a, .slice A1 n1 c1]
  have HB := Lib.hid (And.intro hbw (And.intro kbx e2))
  clear hn hn1 b2 e2 ho hbw kbx bS bW1 bW2
  by_cases hbad : S = 0 ∨ W < 1 ∨ 16 < W
  · have hbb := Lib.hid hbad
    clear hbad
    go_enter Try.func7, Try.ntmps7
    go_wp2_with fail
    refine (both_bad S W _ hbb.out).mono ?_
    rintro e w1 ⟨rfl, rfl⟩
    go_wp2_with fail
    refine (alive_any _).mono ?_
    rintro e w2 ⟨rfl, b2⟩
    go_wp2
    go_ret
    exact ⟨rfl, bt HB.out.1 b2⟩
  obtain ⟨Wn, rfl⟩ : ∃ Wn : Nat, W = Wn := ⟨W.toNat, by omega⟩
  have hok := Lib.hid (both_ok S Wn (w.alloc (.cells #[.int .u32 (s : Nat), .int .i64 q, .int .i64 a, .slice A1 n1 c1] 33)) (by omega) (by omega) (by omega))
  have hs1 : (w.alloc (.cells #[.int .u32 (s : Nat), .int .i64 q, .int .i64 a, .slice A1 n1 c1] 33)).heap.size = w.heap.size + 1 := by simp
  clear hbad
  go_enter Try.func7, Try.ntmps7
  go_wp2_with fail
  refine hok.out.mono ?_
  rintro e w1 ⟨p, ga, gb, rfl, ⟨q1, q2, q3, q4, q5, q6⟩, b1⟩
  rw [hs1] at q1
  have kbx := HB.out.2.1.below b1 HB.out.2.1.lt
  have d1 := bt HB.out.1 b1
  have hli := HB.out.2.2.bt d1
  have y0 := kbx.cell 0
  have y3 := kbx.cell 3
  simp at y0 y3
  have hinv : OthInv w p ga gb S Wn #[.int .u32 (s : Nat), .int .i64 q, .int .i64 a, .slice A1 n1 c1] [] w1 := ⟨q4, q6, kbx, d1⟩
  have HI := Lib.hid (And.intro hinv (And.intro d1 hli))
  have hga : w.heap.size < ga := by omega
  have hpp : ga < p := by omega
  clear q1 q2 q3 q4 q5 q6 kbx d1 hli hinv b1 hok
  go_wp2_with fail
  refine (long_any A ls n c Hn w1 HI.out.2.2).mono ?_
  rintro e w2 ⟨⟨b, rfl, hb⟩, rfl⟩
  cases b
  case true =>
    go_wp2_with fail
    refine (alive_any _).mono ?_
    rintro e w2 ⟨rfl, b2⟩
    go_wp2
    go_ret
    exact ⟨rfl, bt HI.out.2.1 b2⟩
  have hb80 := (hb rfl).1
  have hb3 := Lib.hid (hb rfl).2
  clear hb
  by_cases h1000 : 1000 < n1
  · have h1000I : (1000 : Int) < (n1 : Int) := by omega
    go_wp2_with fail
    refine (alive_any _).mono ?_
    rintro e w2 ⟨rfl, b2⟩
    go_wp2
    go_ret
    exact ⟨rfl, bt HI.out.2.1 b2⟩
  have h1000I : ¬ (1000 : Int) < (n1 : Int) := by omega
  by_cases hsS : s = S
  · have eS : ((s : Int) == (S : Int)) = true := by simp; omega
    go_wp2_with fail
    refine (alive_any _).mono ?_
    rintro e w2 ⟨rfl, b2⟩
    go_wp2
    go_ret
    exact ⟨rfl, bt HI.out.2.1 b2⟩
  have eS : ((s : Int) == (S : Int)) = false := by simp; omega
  go_wp2_with fail
  have HO := Lib.hid HI.out.1
  have HLL := Lib.hid HB.out.2.2
  clear y0 y3 HI
  go_loopw [10] (fun i wr => ∃ (i0 : Nat) (qq : List (List UInt8)), i0 ≤ n ∧ i = .int .i64 i0 ∧ Hid (OthInv w p ga gb S Wn #[.int .u32 (s : Nat), .int .i64 q, .int .i64 a, .slice A1 n1 c1] qq wr)) (fun i _ => n - (intOf i).toNat)
  case atStart => exact ⟨0, [], Nat.zero_le _, rfl, HO⟩
  case round =>
    obtain ⟨i0, qq, him, rfl, hq⟩ := hrel
    clear HO
    by_cases hi0 : i0 < n
    · have hiI : (i0 : Int) < (n : Int) := by omega
      have hiq : i0 < ls.length := by rw [← Hn.out]; exact hi0
      have hli := HLL.out
      obtain ⟨b, o, rfl, _, hcell⟩ := hli (by omega)
      obtain ⟨Ai, ci, hci, hbs⟩ := hcell i0 hiq
      obtain ⟨d, hd⟩ : ∃ d, d = (ls[i0]'hiq).length := ⟨_, rfl⟩
      rw [← hd] at hci
      have HC := Lib.hid (And.intro hci (And.intro hbs hd))
      clear hcell hli hci hbs hd
      go_wp2_with fail
      refine wp_region_invU (F := ?FP) (V := VOp p ga n i0 b o d c ci Ai) (dead := fun _ => none) (T := fun _ _ => True) (C := fun u' => ∃ qq, OthInv w p ga gb S Wn #[.int .u32 (s : Nat), .int .i64 q, .int .i64 a, .slice A1 n1 c1] qq u') (E := fun _ u u' => True) (by kernel_rfl) (by kernel_rfl) (by kernel_rfl) (fun x => ?hFP) ?hmonoP ?hTmP ?hTP ?hCP ?stepP ?finP
      case hFP => simp only [mkA, Act.put, List.setIfInBounds_toArray, List.set_cons_succ, List.set_cons_zero, Nat.reduceAdd, Nat.zero_add]; first | with_reducible rfl | rfl
      case hmonoP => exact fun q' i v u u' he hik hwt hdd hv => VOp.mono hv
      case hTmP => exact fun _ _ _ _ _ _ _ _ => trivial
      case hTP => exact fun j => trivial
      case hCP => exact ⟨qq, hq.out.below (below_drew _)⟩
      case stepP =>
        refine AllOps.cons (fun x u hC hT hp K hK => ?_) ?_
        · clear hp hT
          go_simp
          refine hK _ _ _ hC trivial (by exact rfl) ?_
          first | (simp only [Act.put, List.setIfInBounds_toArray, List.set_cons_succ, List.set_cons_zero]; done) | simp [Act.put]
        refine AllOps.cons (fun x u hC hT hp K hK => ?_) ?_
        · simp [KnownTill, Region.binds, VOp] at hp
          clear hT
          go_simp
          refine hK _ _ _ hC trivial (by exact rfl) ?_
          first | (simp only [Act.put, List.setIfInBounds_toArray, List.set_cons_succ, List.set_cons_zero, hp]; done) | simp [Act.put, hp]
        refine AllOps.cons (fun x u hC hT hp K hK => ?_) ?_
        · simp [KnownTill, Region.binds, VOp] at hp
          clear hT
          go_simp
          refine hK _ _ _ hC trivial (by exact rfl) ?_
          first | (simp only [Act.put, List.setIfInBounds_toArray, List.set_cons_succ, List.set_cons_zero, hp]; done) | simp [Act.put, hp]
        refine AllOps.cons (fun x u hC hT hp K hK => ?_) ?_
        · simp [KnownTill, Region.binds, VOp] at hp
          clear hT
          go_simp
          refine hK _ _ _ hC trivial (by exact rfl) ?_
          first | (simp only [Act.put, List.setIfInBounds_toArray, List.set_cons_succ, List.set_cons_zero, hp]; done) | simp [Act.put, hp]
        refine AllOps.cons (fun x u hC hT hp K hK => ?_) ?_
        · simp [KnownTill, Region.binds, VOp] at hp
          clear hT
          have hC2 := hC
          obtain ⟨q7, _, hpb, _, _⟩ := hC
          have cc := hpb.cell 0
          simp at cc
          clear hpb
          go_simp
          refine hK _ _ _ hC2 trivial (by exact rfl) ?_
          first | (simp only [Act.put, List.setIfInBounds_toArray, List.set_cons_succ, List.set_cons_zero, hp]; done) | simp [Act.put, hp]
        refine AllOps.cons (fun x u hC hT hp K hK => ?_) ?_
        · clear hp hT
          go_simp
          refine hK _ _ _ hC trivial (by exact rfl) ?_
          first | (simp only [Act.put, List.setIfInBounds_toArray, List.set_cons_succ, List.set_cons_zero]; done) | simp [Act.put]
        refine AllOps.cons (fun x u hC hT hp K hK => ?_) ?_
        · clear hp hT
          go_simp
          refine hK _ _ _ hC trivial (by exact rfl) ?_
          first | (simp only [Act.put, List.setIfInBounds_toArray, List.set_cons_succ, List.set_cons_zero]; done) | simp [Act.put]
        refine AllOps.cons (fun x u hC hT hp K hK => ?_) ?_
        · simp [KnownTill, Region.binds, VOp] at hp
          clear hT
          go_simp
          refine hK _ _ _ hC trivial (by exact rfl) ?_
          first | (simp only [Act.put, List.setIfInBounds_toArray, List.set_cons_succ, List.set_cons_zero, hp]; done) | simp [Act.put, hp]
        refine AllOps.cons (fun x u hC hT hp K hK => ?_) ?_
        · simp [KnownTill, Region.binds, VOp] at hp
          clear hT
          have hC2 := hC
          obtain ⟨q7, _, _, _, hbl⟩ := hC
          have cc : u.cell? ⟨b, o + i0, none⟩ = some (.slice Ai d ci) := (hbl.cell (p := ⟨b, o + i0, none⟩) (World.block_lt_of_cell? _ _ HC.out.1)).trans HC.out.1
          clear hbl
          go_simp
          refine hK _ _ _ hC2 trivial (by exact rfl) ?_
          first | (simp only [Act.put, List.setIfInBounds_toArray, List.set_cons_succ, List.set_cons_zero, hp]; done) | simp [Act.put, hp]
        refine AllOps.cons (fun x u hC hT hp K hK => ?_) ?_
        · simp [KnownTill, Region.binds, VOp] at hp
          clear hT
          have h4 : x 4 = .pointer (some ⟨ga, 0, none⟩) := by first | exact hp.1 | exact hp.2
          have h8 : x 8 = .slice Ai d ci := by first | exact hp.1 | exact hp.2
          clear hp
          obtain ⟨q7, hO⟩ := hC
          have hO2 := hO
          obtain ⟨⟨cs7, k7⟩, _, _, d7⟩ := hO
          have hcall := put_any k7 Ai _ d ci HC.out.2.2 (HC.out.2.1.bt d7)
          clear k7 d7
          go_simp
          refine hcall.mono ?_
          rintro e u1 ⟨⟨v, rfl⟩, ⟨q8, cs8, k8⟩, g8⟩
          refine hK v _ _ ⟨q8, hO2.put hga hpp k8 g8⟩ trivial trivial ?_
          first | (simp only [Act.put, List.setIfInBounds_toArray, List.set_cons_succ, List.set_cons_zero, h4, h8]; done) | simp [Act.put, h4, h8]
        exact AllOps.nil
      case finP =>
        intro x9 u9 hC hV
        clear hV HC
        obtain ⟨q9, hO9⟩ := hC
        have HO9 := Lib.hid hO9
        clear hO9 hq
        go_wp2
        go_roundw
        case rel => exact ⟨i0 + 1, q9, by omega, by go_num, HO9⟩
        case measure => simp [intOf]; omega
    · obtain rfl : i0 = n := by omega
      have hiI : ¬ (i0 : Int) < (i0 : Int) := by omega
      obtain ⟨nq0, hnq⟩ : ∃ k, k = qq.length := ⟨_, rfl⟩
      have hO := hq.out
      obtain ⟨⟨csq, kq⟩, kp, _, _⟩ := hO
      have cp := kp.cell 0
      simp at cp
      have Hw := Lib.hid (fun m : Nat => (waiting_any (kq.drewN m) nq0 hnq).mono fun _ _ h => (⟨h.1, h.2.symm⟩ : _ ∧ _))
      have Hcm := Lib.hid (fun m : Nat => (came_any (kq.drewN m)).mono fun _ _ h => (⟨h.1, h.2.symm⟩ : _ ∧ _))
      clear kq kp
      go_wp2_with fail
      go_quiet (first | (go_at_call 20; exact Calls.quiet_of_same (Hw.out _)) | (go_at_call 21; exact Calls.quiet_of_same (Hcm.out _)))
      have hO2 : OthInv w p ga gb S Wn #[.int .u32 (s : Nat), .int .i64 q, .int .i64 a, .slice A1 n1 c1] qq (wr.drewN nq) := hq.out.below (below_drewN (Below.refl _ _) nq)
      clear cp Hw Hcm hq csq
      generalize wr.drewN nq = wv at hO2 ⊢
      have hsS2 := Lib.hid hsS
      have HNQ := Lib.hid hnq
      clear hnq
      go_wp2_with fail
      refine wp_region_invU (F := ?FN) (V := VOn p ga s q a A1 n1 c1) (dead := fun _ => none) (T := fun _ _ => True) (C := fun u' => OthInv w p ga gb S Wn #[.int .u32 (s : Nat), .int .i64 q, .int .i64 a, .slice A1 n1 c1] qq u') (E := fun _ u u' => True) (by kernel_rfl) (by kernel_rfl) (by kernel_rfl) (fun x => ?hFN) ?hmonoN ?hTmN ?hTN ?hCN ?stepN ?finN
      case hFN => simp only [mkA, Act.put, List.setIfInBounds_toArray, List.set_cons_succ, List.set_cons_zero, Nat.reduceAdd, Nat.zero_add]; first | with_reducible rfl | rfl
      case hmonoN => exact fun q' i v u u' he hik hwt hdd hv => VOn.mono hv
      case hTmN => exact fun _ _ _ _ _ _ _ _ => trivial
      case hTN => exact fun j => trivial
      case hCN => exact hO2.below (below_drew _)
      case stepN =>
        refine AllOps.cons (fun x u hC hT hp K hK => ?_) ?_
        · clear hp hT
          go_simp
          refine hK _ _ _ hC trivial (by exact rfl) ?_
          first | (simp only [Act.put, List.setIfInBounds_toArray, List.set_cons_succ, List.set_cons_zero]; done) | simp [Act.put]
        refine AllOps.cons (fun x u hC hT hp K hK => ?_) ?_
        · simp [KnownTill, Region.binds, VOn] at hp
          clear hT
          go_simp
          refine hK _ _ _ hC trivial (by exact rfl) ?_
          first | (simp only [Act.put, List.setIfInBounds_toArray, List.set_cons_succ, List.set_cons_zero, hp]; done) | simp [Act.put, hp]
        refine AllOps.cons (fun x u hC hT hp K hK => ?_) ?_
        · simp [KnownTill, Region.binds, VOn] at hp
          clear hT
          go_simp
          refine hK _ _ _ hC trivial (by exact rfl) ?_
          first | (simp only [Act.put, List.setIfInBounds_toArray, List.set_cons_succ, List.set_cons_zero, hp]; done) | simp [Act.put, hp]
        refine AllOps.cons (fun x u hC hT hp K hK => ?_) ?_
        · simp [KnownTill, Region.binds, VOn] at hp
          clear hT
          go_simp
          refine hK _ _ _ hC trivial (by exact rfl) ?_
          first | (simp only [Act.put, List.setIfInBounds_toArray, List.set_cons_succ, List.set_cons_zero, hp]; done) | simp [Act.put, hp]
        refine AllOps.cons (fun x u hC hT hp K hK => ?_) ?_
        · simp [KnownTill, Region.binds, VOn] at hp
          clear hT
          have hC2 := hC
          obtain ⟨_, hpb, _, _⟩ := hC
          have cc := hpb.cell 0
          simp at cc
          clear hpb
          go_simp
          refine hK _ _ _ hC2 trivial (by exact rfl) ?_
          first | (simp only [Act.put, List.setIfInBounds_toArray, List.set_cons_succ, List.set_cons_zero, hp]; done) | simp [Act.put, hp]
        refine AllOps.cons (fun x u hC hT hp K hK => ?_) ?_
        · clear hp hT
          have hC2 := hC
          obtain ⟨_, _, hbx, _⟩ := hC
          have y0 := hbx.cell 0
          have y1 := hbx.cell 1
          have y2 := hbx.cell 2
          have y3 := hbx.cell 3
          simp at y0 y1 y2 y3
          clear hbx
          go_simp
          refine hK _ _ _ hC2 trivial (by exact rfl) ?_
          first | (simp only [Act.put, List.setIfInBounds_toArray, List.set_cons_succ, List.set_cons_zero]; done) | simp [Act.put]
        refine AllOps.cons (fun x u hC hT hp K hK => ?_) ?_
        · simp [KnownTill, Region.binds, VOn] at hp
          clear hT
          have h4 : x 4 = .pointer (some ⟨ga, 0, none⟩) := by first | exact hp.1 | exact hp.2
          have h5 : x 5 = .agg #[.int .u32 s, .int .i64 q, .int .i64 a, .slice A1 n1 c1] := by first | exact hp.1 | exact hp.2
          clear hp
          have hC2 := hC
          obtain ⟨⟨cs7, k7⟩, _, _, d7⟩ := hC
          have hcall := on_other k7 s n1 c1 q a A1 hsS2.out
          clear k7 d7
          go_simp
          refine hcall.mono ?_
          rintro e u1 ⟨rfl, g8⟩
          refine hK _ _ _ (hC2.below g8) trivial (by exact rfl) ?_
          first | (simp only [Act.put, List.setIfInBounds_toArray, List.set_cons_succ, List.set_cons_zero, h4, h5]; done) | simp [Act.put, h4, h5]
        refine AllOps.cons (fun x u hC hT hp K hK => ?_) ?_
        · simp [KnownTill, Region.binds, VOn] at hp
          clear hT
          go_simp
          refine hK _ _ _ hC trivial (by exact rfl) ?_
          first | (simp only [Act.put, List.setIfInBounds_toArray, List.set_cons_succ, List.set_cons_zero, hp]; done) | simp [Act.put, hp]
        refine AllOps.cons (fun x u hC hT hp K hK => ?_) ?_
        · simp [KnownTill, Region.binds, VOn] at hp
          clear hT
          go_simp
          refine hK _ _ _ hC trivial (by exact rfl) ?_
          first | (simp only [Act.put, List.setIfInBounds_toArray, List.set_cons_succ, List.set_cons_zero, hp]; done) | simp [Act.put, hp]
        refine AllOps.cons (fun x u hC hT hp K hK => ?_) ?_
        · simp [KnownTill, Region.binds, VOn] at hp
          clear hT
          go_simp
          refine hK _ _ _ hC trivial (by exact rfl) ?_
          first | (simp only [Act.put, List.setIfInBounds_toArray, List.set_cons_succ, List.set_cons_zero, hp]; done) | simp [Act.put, hp]
        refine AllOps.cons (fun x u hC hT hp K hK => ?_) ?_
        · simp [KnownTill, Region.binds, VOn] at hp
          clear hT
          go_simp
          refine hK _ _ _ hC trivial (by exact rfl) ?_
          first | (simp only [Act.put, List.setIfInBounds_toArray, List.set_cons_succ, List.set_cons_zero, hp]; done) | simp [Act.put, hp]
        refine AllOps.cons (fun x u hC hT hp K hK => ?_) ?_
        · simp [KnownTill, Region.binds, VOn] at hp
          clear hT
          go_simp
          refine hK _ _ _ hC trivial (by exact rfl) ?_
          first | (simp only [Act.put, List.setIfInBounds_toArray, List.set_cons_succ, List.set_cons_zero, hp]; done) | simp [Act.put, hp]
        exact AllOps.nil
      case finN =>
        intro x9 u9 hC hV
        have h10 : x9 10 = .slice none 0 0 := hV 10 (by decide) rfl
        have h11 : x9 11 = .int .i64 90 := hV 11 (by decide) rfl
        have HO9 := Lib.hid hC
        clear hV hC hO2
        simp only [h10, h11]
        go_wp2_with fail
        refine (alive_any _).mono ?_
        rintro e w8 ⟨rfl, b8⟩
        have hO8 := HO9.out.below b8
        have HO8 := Lib.hid hO8
        obtain ⟨⟨cs8, k8⟩, kp8, _, d8⟩ := hO8
        have cp := kp8.cell 0
        simp at cp
        have Hw := Lib.hid (waiting_any k8 nq0 HNQ.out)
        have Hcm := Lib.hid (came_any k8)
        have Hfr := Lib.hid (frames_len k8)
        clear k8 kp8 d8 b8
        go_wp2_with fail
        refine Hw.out.mono ?_
        rintro e u ⟨rfl, rfl⟩
        go_wp2_with fail
        refine Hcm.out.mono ?_
        rintro e u ⟨rfl, rfl⟩
        go_wp2_with fail
        refine Hfr.out.mono ?_
        rintro e u2 ⟨fb, m, rfl, hm0, bq⟩
        have hm0I : (0 : Int) < (m : Int) := by omega
        have HF := Lib.hid (bt HO8.out.2.2.2 bq)
        clear bq
        go_wp2
        go_ret
        exact ⟨rfl, HF.out⟩
end Go.Proofs.Ytkhnhidckiopnaa
