/- Parts Bd Be Bf of one proof. -/
import Derived.Test.YtlliaihmfimdoaaGreatMg04
import Derived.Test.YtlliaihmfimdoaaGreatMg08
import Derived.Test.YtlliaihmfimdoaaGreatMg09
namespace Go.Proofs.YtlliaihmfimdoaaGreat
open Go.RowKit
set_option linter.unusedVariables false
set_option linter.unusedSimpArgs false

def keyB (y : Int) : Bool := decide (0 ≤ y) && decide (y < 16)
theorem kisKey_any (y : Int) (b : Bool) (h : keyB y = b) (w : World) : Calls Tryz.prog 95 #[.int .i64 y] w fun e w' => e = .returned (.bool b) ∧ w = w' := by
  unfold keyB at h
  rcases h1 : decide (0 ≤ y) with _ | _
  · rw [h1] at h
    subst h
    go_enter Tryz.func95, Tryz.ntmps95
    go_wp2
    go_ret
    exact ⟨rfl, rfl⟩
  · rw [h1] at h
    rcases h2 : decide (y < 16) with _ | _
    all_goals
      rw [h2] at h
      subst h
      go_enter Tryz.func95, Tryz.ntmps95
      go_wp2
      go_ret
      exact ⟨rfl, rfl⟩
theorem place1_any (x : Ch) (p : Nat) (y : Int) (b : Bool) (hb : (x.y == y) = b) (w : World) (hp : w.cell? ⟨p, 0, none⟩ = some (.int .i64 y)) : Calls Tryz.prog 151 #[.agg #[.int .i64 x.k, .int .i64 x.y, .int .u64 (x.v : Nat)], .pointer (some ⟨p, 0, none⟩)] w fun e w' => e = .returned (.bool b) ∧ Below w.heap.size w w' := by
  have hlt := World.block_lt_of_cell? _ _ hp
  have hbw := ba w (.cells #[.int .i64 x.k, .int .i64 x.y, .int .u64 (x.v : Nat)] 74)
  have kb := Blk.new w 74 #[.int .i64 x.k, .int .i64 x.y, .int .u64 (x.v : Nat)]
  have c1 := kb.cell 1
  simp only [List.getElem?_toArray, List.getElem?_cons_zero, List.getElem?_cons_succ] at c1
  have cp := (hbw.cell (p := ⟨p, 0, none⟩) hlt).trans hp
  go_enter Tryz.func151, Tryz.ntmps151
  go_wp2
  go_ret
  exact ⟨rfl, hbw⟩
set_option maxHeartbeats 1000000 in
theorem index_any (A : Option Addr) (l : List Ch) (n c p : Nat) (y : Int) (hn : Hid (n = l.length)) (hm : n ≤ 1000000) (w : World) {B : Nat → Prop} (h : ChAt w B A l) (hp : w.cell? ⟨p, 0, none⟩ = some (.int .i64 y)) :
    Calls Tryz.prog 97 #[.slice A n c, .func (.func 151) #[] #[.pointer (some ⟨p, 0, none⟩)]] w fun e w' => e = .returned (.int .i64 (posI l y)) ∧ Below w.heap.size w w' := by
  have H := Lib.hid h
  have hlt := World.block_lt_of_cell? _ _ hp
  have HP := Lib.hid (And.intro hp hlt)
  clear h hp hlt
  go_enter Tryz.func97, Tryz.ntmps97
  go_wp2_with fail
  go_loopw [8] (fun i wr => ∃ (j : Nat), j ≤ n ∧ i = .int .i64 j ∧ Hid (∀ q, q < j → ∀ hq : q < l.length, (l[q]'hq).y ≠ y) ∧ Below w.heap.size w wr) (fun i _ => n - (intOf i).toNat)
  case atStart => exact ⟨0, Nat.zero_le _, rfl, Lib.hid (fun q hq => by omega), Below.refl _ _⟩
  case round =>
    obtain ⟨j, hj, rfl, hno, hb⟩ := hrel
    by_cases hjn : j < n
    · have hjI : (j : Int) < (n : Int) := by omega
      have hjl : j < l.length := by rw [← hn.out]; exact hjn
      obtain ⟨b, o, rfl, hbk, hcs⟩ := H.out (by omega)
      obtain ⟨q0, q1, q2⟩ := hcs j hjl
      have hbl : b < w.heap.size := by obtain ⟨_, cs, fz, hh⟩ := hbk; exact (Array.getElem?_eq_some_iff.1 hh).1
      have p0 := (hb.cell (p := ⟨b, o + j * 3, none⟩) hbl).trans q0
      have p1 := (hb.cell (p := ⟨b, o + j * 3 + 1, none⟩) hbl).trans q1
      have p2 := (hb.cell (p := ⟨b, o + j * 3 + 2, none⟩) hbl).trans q2
      have hcp := (hb.cell (p := ⟨p, 0, none⟩) HP.out.2).trans HP.out.1
      obtain ⟨x, hx⟩ : ∃ x, x = l[j]'hjl := ⟨_, rfl⟩
      rw [← hx] at p0 p1 p2
      have HX := Lib.hid hx
      have hc := fun b' (hb' : (x.y == y) = b') => place1_any x p y b' hb' wr hcp
      clear hcs q0 q1 q2 hbk hx hcp
      rcases hxy : (x.y == y) with _ | _
      · have HC := Lib.hid (hc _ hxy)
        have hno2 : Hid (∀ q, q < j + 1 → ∀ hq : q < l.length, (l[q]'hq).y ≠ y) := Lib.hid fun q hq hql => by
          by_cases e : q = j
          · subst e; rw [← HX.out]; simpa using hxy
          · exact hno.out q (by omega) hql
        clear hc
        go_wp2_with fail
        refine HC.out.mono ?_
        rintro e w2 ⟨rfl, b2⟩
        have hb2 := bt hb b2
        clear b2 p0 p1 p2
        go_wp2
        go_roundw
        case rel => exact ⟨j + 1, by omega, by go_num, hno2, hb2⟩
        case measure => simp [intOf]; omega
      · have HC := Lib.hid (hc _ hxy)
        have hpos : Hid (posI l y = (j : Int)) := Lib.hid (by
          have e : posN l y = j := by
            unfold posN
            rw [List.findIdx_eq hjl]
            refine ⟨by rw [← HX.out]; simpa using hxy, fun q hq => by simpa using hno.out q hq (by omega)⟩
          unfold posI
          rw [e, if_pos hjl])
        clear hc
        go_wp2_with fail
        refine HC.out.mono ?_
        rintro e w2 ⟨rfl, b2⟩
        have hb2 := bt hb b2
        clear b2 p0 p1 p2
        go_wp2
        go_ret
        exact ⟨by rw [hpos.out]; rfl, hb2⟩
    · obtain rfl : j = n := by omega
      have hjI : ¬ (j : Int) < (j : Int) := by omega
      have hpos : Hid (posI l y = -1) := Lib.hid (by
        have e : posN l y = l.length := by
          unfold posN
          rw [List.findIdx_eq_length]
          intro x hx
          obtain ⟨q, hq, rfl⟩ := List.mem_iff_getElem.1 hx
          simpa using hno.out q (by rw [hn.out]; exact hq) hq
        unfold posI
        rw [e, if_neg (by omega)])
      go_wp2
      go_ret
      exact ⟨by rw [hpos.out]; rfl, hb⟩
theorem kplace_any (A : Option Addr) (l : List Ch) (n c : Nat) (y : Int) (hn : Hid (n = l.length)) (hm : n ≤ 1000000) (w : World) {B : Nat → Prop} (h : ChAt w B A l) :
    Calls Tryz.prog 125 #[.agg #[.slice A n c], .int .i64 y] w fun e w' => e = .returned (.int .i64 (posI l y)) ∧ Below w.heap.size w w' := by
  obtain ⟨W2, hW2⟩ : ∃ W2, W2 = (w.alloc (.cells #[.slice A n c] 136)).alloc (.cells #[.int .i64 y] 3) := ⟨_, rfl⟩
  have k1 : Blk W2 w.heap.size 136 #[.slice A n c] := by rw [hW2]; exact (Blk.new _ _ _).alloc _
  have k2 : Blk W2 (w.heap.size + 1) 3 #[.int .i64 y] := by
    rw [hW2]; have := Blk.new (w.alloc (.cells #[.slice A n c] 136)) 3 #[.int .i64 y]; rwa [World.size_alloc] at this
  have b2 : Below w.heap.size w W2 := by rw [hW2]; exact bt (ba _ _) (ba _ _)
  have c0 := k1.cell 0
  simp only [List.getElem?_toArray, List.getElem?_cons_zero] at c0
  have HI := Lib.hid (index_any A l n c (w.heap.size + 1) y hn hm W2 (h.below b2) ((k2.cell 0).trans rfl))
  have HB := Lib.hid b2
  have HW := Lib.hid hW2
  rw [hW2] at c0
  clear hW2 k1 k2 b2 h
  go_enter Tryz.func125, Tryz.ntmps125
  go_wp2_with fail
  rw [← HW.out]
  refine HI.out.mono ?_
  rintro e w3 ⟨rfl, b3⟩
  have hF := bt HB.out b3
  clear b3 c0
  go_wp2
  go_ret
  exact ⟨rfl, hF⟩
end Go.Proofs.YtlliaihmfimdoaaGreat

namespace Go.Proofs.YtlliaihmfimdoaaGreat
open Go.RowKit
set_option linter.unusedVariables false
set_option linter.unusedSimpArgs false

def withL (l : List Ch) (x : Ch) : List Ch := if posN l x.y < l.length then l.set (posN l x.y) x else l ++ [x]
theorem withL_len (l : List Ch) (x : Ch) : (withL l x).length ≤ l.length + 1 := by
  unfold withL; split <;> simp
set_option maxRecDepth 100000 in
set_option maxHeartbeats 2000000 in
theorem with_any (A : Option Addr) (l : List Ch) (n c : Nat) (x : Ch) (hn : Hid (n = l.length)) (hm : n ≤ 400000) (w : World) {B : Nat → Prop} (h : ChAt w B A l) :
    Calls Tryz.prog 150 #[.agg #[.slice A n c], .agg #[.int .i64 x.k, .int .i64 x.y, .int .u64 (x.v : Nat)]] w fun e w' => (∃ A' n' c', e = .returned (.agg #[.slice A' n' c']) ∧ n' = (withL l x).length ∧ ChAt w' (fun b => w.heap.size ≤ b) A' (withL l x)) ∧ Below w.heap.size w w' := by
  obtain ⟨W3, hW3⟩ : ∃ W3, W3 = ((w.alloc (.cells #[.slice A n c] 136)).alloc (.cells #[.int .i64 x.k, .int .i64 x.y, .int .u64 (x.v : Nat)] 74)).alloc (.cells #[.slice none 0 0] 136) := ⟨_, rfl⟩
  have k1 : Blk W3 w.heap.size 136 #[.slice A n c] := by rw [hW3]; exact ((Blk.new _ _ _).alloc _).alloc _
  have k2 : Blk W3 (w.heap.size + 1) 74 #[.int .i64 x.k, .int .i64 x.y, .int .u64 (x.v : Nat)] := by
    rw [hW3]; have := (Blk.new (w.alloc (.cells #[.slice A n c] 136)) 74 #[.int .i64 x.k, .int .i64 x.y, .int .u64 (x.v : Nat)]).alloc (.cells #[.slice none 0 0] 136); rwa [World.size_alloc] at this
  have k3 : Blk W3 (w.heap.size + 2) 136 #[.slice none 0 0] := by
    rw [hW3]; have := Blk.new ((w.alloc (.cells #[.slice A n c] 136)).alloc (.cells #[.int .i64 x.k, .int .i64 x.y, .int .u64 (x.v : Nat)] 74)) 136 #[.slice none 0 0]; rwa [World.size_alloc, World.size_alloc] at this
  have b3 : Below w.heap.size w W3 := by rw [hW3]; exact bt (bt (ba _ _) (ba _ _)) (ba _ _)
  have s3 : W3.heap.size = w.heap.size + 3 := by rw [hW3]; simp
  have c0 := k1.cell 0
  simp only [List.getElem?_toArray, List.getElem?_cons_zero] at c0
  have HC := Lib.hid (cclone_any A l n c W3 hn (Lib.hid (by omega)) (h.below b3))
  have HK := Lib.hid (And.intro k1 (And.intro k2 (And.intro k3 (And.intro b3 (And.intro s3 (h.below b3))))))
  have HW := Lib.hid hW3
  rw [hW3] at c0
  clear hW3 k1 k2 k3 b3 s3 h
  go_enter Tryz.func150, Tryz.ntmps150
  go_wp2_with fail
  rw [← HW.out]
  refine HC.out.mono ?_
  rintro e w4 ⟨A2, c2, rfl, own4, b4⟩
  clear c0
  obtain ⟨k1, k2, k3, b3, s3, hat⟩ := HK.out
  have j1 := k1.below b4 k1.lt
  have j2 := k2.below b4 k2.lt
  have j3 := k3.below b4 k3.lt
  have HP := Lib.hid (kplace_any A l n c x.y hn (by omega) w4 (hat.below b4))
  have c0 := j1.cell 0
  have d1 := j2.cell 1
  simp only [List.getElem?_toArray, List.getElem?_cons_zero, List.getElem?_cons_succ] at c0 d1
  have H4 := Lib.hid (And.intro own4 (And.intro j2 (And.intro j3 (And.intro (bt b3 b4) (And.intro s3 b4.size)))))
  clear own4 b4 k1 k2 k3 b3 s3 hat j1 j2 j3
  go_wp2_with fail
  refine HP.out.mono ?_
  rintro e w5 ⟨rfl, b5⟩
  clear c0 d1
  obtain ⟨own4, j2, j3, b4, s3, s4⟩ := H4.out
  have own5 : OwnC w5 W3.heap.size A2 c2 l := own4.kept (lbelow_grown b5 none) (fun r e => by cases e)
  have i2 := j2.below b5 j2.lt
  have i3 := j3.below b5 j3.lt
  have b45 := bt b4 b5
  have hs5 := b5.size
  have d0 := i2.cell 0
  have d1 := i2.cell 1
  have d2 := i2.cell 2
  simp only [List.getElem?_toArray, List.getElem?_cons_zero, List.getElem?_cons_succ] at d0 d1 d2
  by_cases hpos : posN l x.y < l.length
  · obtain ⟨q, hq⟩ : ∃ q, q = posN l x.y := ⟨_, rfl⟩
    have hqI : posI l x.y = (q : Int) := by unfold posI; rw [if_pos hpos, hq]
    rw [hqI]
    have hqn : q < n := by rw [hn.out, hq]; exact hpos
    have hqI2 : (q : Int) < (n : Int) := by omega
    obtain ⟨g, cap, e⟩ := Joins.ownsRow_form own5 (by omega)
    cases e
    unfold OwnC at own5
    rw [← hn.out] at own5
    obtain ⟨hgB, hgl⟩ := own5.lt g rfl
    have st1 := own5.stored (q * 3) (.int .i64 x.k)
    obtain ⟨V1, hV1⟩ : ∃ V1, w5.setCell ⟨g, q * 3, none⟩ (.int .i64 x.k) = V1 := ⟨_, rfl⟩
    rw [hV1] at st1
    have st2 := st1.1.stored (q * 3 + 1) (.int .i64 x.y)
    obtain ⟨V2, hV2⟩ : ∃ V2, V1.setCell ⟨g, q * 3 + 1, none⟩ (.int .i64 x.y) = V2 := ⟨_, rfl⟩
    rw [hV2] at st2
    have st3 := st2.1.stored (q * 3 + 2) (.int .u64 (x.v : Nat))
    obtain ⟨V3, hV3⟩ : ∃ V3, V2.setCell ⟨g, q * 3 + 2, none⟩ (.int .u64 (x.v : Nat)) = V3 := ⟨_, rfl⟩
    rw [hV3] at st3
    have hlen : (chV l).length = n * 3 := by rw [chV_len, hn.out]
    obtain ⟨u1, e1⟩ : ∃ u1, w5.cell? ⟨g, q * 3, none⟩ = some u1 := by rw [own5.cellAt (q * 3) (by omega)]; exact ⟨_, List.getElem?_eq_getElem (by omega)⟩
    obtain ⟨u2, e2⟩ : ∃ u2, V1.cell? ⟨g, q * 3 + 1, none⟩ = some u2 := by rw [st1.1.cellAt (q * 3 + 1) (by omega)]; exact ⟨_, List.getElem?_eq_getElem (by rw [List.length_set]; omega)⟩
    obtain ⟨u3, e3⟩ : ∃ u3, V2.cell? ⟨g, q * 3 + 2, none⟩ = some u3 := by rw [st2.1.cellAt (q * 3 + 2) (by omega)]; exact ⟨_, List.getElem?_eq_getElem (by rw [List.length_set, List.length_set]; omega)⟩
    have f1 := own5.frozenAt (q * 3)
    have f2 := st1.1.frozenAt (q * 3 + 1)
    have f3 := st2.1.frozenAt (q * 3 + 2)
    have gr := (st1.2.trans st2.2).trans st3.2
    have ownF : OwnC V3 W3.heap.size (some ⟨g, 0, none⟩) c2 (withL l x) := by
      have hl : (withL l x).length = n := by unfold withL; rw [if_pos hpos, List.length_set, hn.out]
      unfold OwnC
      rw [hl]
      have := st3.1
      rw [chV_set] at this
      unfold withL
      rw [if_pos hpos, ← hq]
      exact this
    have hl : Hid (n = (withL l x).length) := Lib.hid (by unfold withL; rw [if_pos hpos, List.length_set, hn.out])
    have i3' := i3.kept gr (fun e => by have := Option.some.inj e; omega)
    have bF := b45.grown gr (by omega) (fun r e => by cases e; omega)
    obtain ⟨V4, hV4⟩ : ∃ V4, V3.setCell ⟨w.heap.size + 1 + 1, 0, none⟩ (.slice (some ⟨g, 0, none⟩) n c2) = V4 := ⟨_, rfl⟩
    have cr : V3.cell? ⟨w.heap.size + 1 + 1, 0, none⟩ = some (.slice none 0 0) := i3'.cell 0
    have fr : V3.frozen? ⟨w.heap.size + 1 + 1, 0, none⟩ = false := i3'.frozen 0
    have cr2 : V4.cell? ⟨w.heap.size + 1 + 1, 0, none⟩ = some (.slice (some ⟨g, 0, none⟩) n c2) := by
      rw [← hV4]
      have := (i3'.set_ 0 (.slice (some ⟨g, 0, none⟩) n c2)).cell 0
      simpa using this
    have ownG : OwnC V4 W3.heap.size (some ⟨g, 0, none⟩) c2 (withL l x) := by
      rw [← hV4]; exact ownF.kept (lgrown_set _ _ _) (fun r e => by cases e; show w.heap.size + 1 + 1 < _; omega)
    have bG : Below w.heap.size w V4 := by rw [← hV4]; exact bF.setCell (by show w.heap.size ≤ w.heap.size + 1 + 1; omega) _
    have HF := Lib.hid (And.intro ownG.at_ bG)
    clear own4 j2 j3 b4 s3 s4 own5 i2 i3 b45 hs5 st1 st2 st3 gr ownF i3' bF ownG bG hgB hgl hlen hpos hq
    go_wp2
    refine bodyPost_ret (by simp [results, Tryz.results150, go_sem, cr2]; try rfl) rfl ?_
    exact ⟨⟨_, n, _, rfl, hl.out, HF.out.1.mono (fun b hb _ => Nat.le_trans HK.out.2.2.2.1.size hb)⟩, HF.out.2⟩
  · have hqI : posI l x.y = -1 := by unfold posI; rw [if_neg hpos]
    rw [hqI]
    obtain ⟨W6, hW6⟩ : ∃ W6, W6 = w5.alloc (.cells #[.int .i64 x.k, .int .i64 x.y, .int .u64 (x.v : Nat)] 74) := ⟨_, rfl⟩
    have b6 : Below w5.heap.size w5 W6 := by rw [hW6]; exact ba _ _
    have kq : Blk W6 w5.heap.size 74 #[.int .i64 x.k, .int .i64 x.y, .int .u64 (x.v : Nat)] := by rw [hW6]; exact Blk.new _ _ _
    have own6 : OwnC W6 W3.heap.size A2 c2 l := own5.kept (lbelow_grown b6 none) (fun r e => by cases e)
    obtain ⟨A3, c3, w7, hrun, own7, g7, hat7⟩ := ch_app own6 (some ⟨w5.heap.size, 0, none⟩) 1 [x] n 1 hn.out rfl (fun b o e i hi => by
      cases e
      have : i = 0 := by simp at hi; omega
      subst this
      exact ⟨(kq.cell 0).trans rfl, (kq.cell 1).trans rfl, (kq.cell 2).trans rfl⟩) (fun _ => ⟨_, _, rfl⟩) (by rw [hn.out]; exact own6.cap) (by rw [← hn.out]; simp; omega) (by have := b6.size; omega)
    have hl : Hid (n + 1 = (withL l x).length) := Lib.hid (by unfold withL; rw [if_neg hpos, List.length_append, hn.out]; rfl)
    have ownF : OwnC w7 W3.heap.size A3 c3 (withL l x) := by unfold withL; rw [if_neg hpos]; exact own7
    have i3' := (i3.below b6 i3.lt).kept g7 (fun e => by have := own6.lt' _ e.symm; omega)
    have bF := (bt b45 b6).grown g7 (by have := b6.size; omega) (fun r e => by have := own6.lt' r e; omega)
    obtain ⟨V4, hV4⟩ : ∃ V4, w7.setCell ⟨w.heap.size + 1 + 1, 0, none⟩ (.slice A3 (n + 1 : Nat) c3) = V4 := ⟨_, rfl⟩
    have cr : w7.cell? ⟨w.heap.size + 1 + 1, 0, none⟩ = some (.slice none 0 0) := i3'.cell 0
    have fr : w7.frozen? ⟨w.heap.size + 1 + 1, 0, none⟩ = false := i3'.frozen 0
    have cr2 : V4.cell? ⟨w.heap.size + 1 + 1, 0, none⟩ = some (.slice A3 (n + 1 : Nat) c3) := by
      rw [← hV4]
      have := (i3'.set_ 0 (.slice A3 (n + 1 : Nat) c3)).cell 0
      simpa using this
    have ownG : OwnC V4 W3.heap.size A3 c3 (withL l x) := by
      rw [← hV4]; exact ownF.kept (lgrown_set _ _ _) (fun r e => by cases e; show w.heap.size + 1 + 1 < _; omega)
    have bG : Below w.heap.size w V4 := by rw [← hV4]; exact bF.setCell (by show w.heap.size ≤ w.heap.size + 1 + 1; omega) _
    have HF := Lib.hid (And.intro ownG.at_ bG)
    rw [hW6] at hrun
    clear own4 j2 j3 b4 s3 s4 own5 i2 i3 b45 hs5 hW6 b6 kq own6 own7 g7 hat7 ownF i3' bF ownG bG hpos
    go_wp2_with (at_builtin; refine wpList_append_run rfl (.tmp 20) (.tmp 22) 40 rfl _ _ _ w7 rfl rfl hrun ?_)
    refine bodyPost_ret (by simp [results, Tryz.results150, go_sem, cr2]; try rfl) rfl ?_
    exact ⟨⟨_, n + 1, _, rfl, hl.out, HF.out.1.mono (fun b hb _ => Nat.le_trans HK.out.2.2.2.1.size hb)⟩, HF.out.2⟩
end Go.Proofs.YtlliaihmfimdoaaGreat

namespace Go.Proofs.YtlliaihmfimdoaaGreat
open Go.RowKit Go.Maps
set_option linter.unusedVariables false
set_option linter.unusedSimpArgs false

/-- Values by keys, works, locks. -/
structure KS where
  B : Nat → Prop
  V : Nat → Nat × Bool
  W : Int → Option (List Ch × Bool)
  L : List LRow
def KS.zero (B : Nat → Prop) : KS := ⟨B, fun _ => (0, false), fun _ => none, []⟩
def updW (W : Int → Option (List Ch × Bool)) (n : Int) (x : Option (List Ch × Bool)) : Int → Option (List Ch × Bool) := fun j => if j = n then x else W j
/-- The works' map is these works. -/
def WRel (w : World) (B : Nat → Prop) (G : Int → Option Value) (W : Int → Option (List Ch × Bool)) : Prop := ∀ k, (W k = none → G k = none) ∧ (∀ l p, W k = some (l, p) → ∃ A n c, G k = some (.agg #[.slice A n c, .bool p]) ∧ n = l.length ∧ ChAt w B A l)
theorem WRel.same {w w' : World} {B B' : Nat → Prop} {G : Int → Option Value} {W : Int → Option (List Ch × Bool)} (h : WRel w B G W) (hs : ∀ A l, ChAt w B A l → ChAt w' B' A l) : WRel w' B' G W := fun k => ⟨(h k).1, fun l p e => by
  obtain ⟨A, n, c, h1, h2, h3⟩ := (h k).2 l p e
  exact ⟨A, n, c, h1, h2, hs _ _ h3⟩⟩
theorem WRel.put {w : World} {B : Nat → Prop} {G : Int → Option Value} {W : Int → Option (List Ch × Bool)} (h : WRel w B G W) (k : Int) (A : Option Addr) (n c : Nat) (l : List Ch) (p : Bool) (hn : n = l.length) (hc : ChAt w B A l) : WRel w B (putG G k (.agg #[.slice A n c, .bool p])) (updW W k (some (l, p))) := fun j => by
  unfold putG updW
  by_cases e : j = k
  · rw [if_pos e, if_pos e]
    exact ⟨(fun h => by cases h), (fun l' p' h => by cases h; exact ⟨A, n, c, rfl, hn, hc⟩)⟩
  · rw [if_neg e, if_neg e]; exact h j
theorem WRel.del {w : World} {B : Nat → Prop} {G : Int → Option Value} {W : Int → Option (List Ch × Bool)} (h : WRel w B G W) (k : Int) : WRel w B (delG G k) (updW W k none) := fun j => by
  unfold delG updW
  by_cases e : j = k
  · rw [if_pos e, if_pos e]
    exact ⟨(fun _ => rfl), (fun l' p' h => by cases h)⟩
  · rw [if_neg e, if_neg e]; exact h j
/-- Two rows of cells are the same behind a store's. -/
def Keep (cs cs' : Array Value) : Prop := cs'.size = cs.size ∧ ∀ i, 34 ≤ i → cs'[i]? = cs[i]?
theorem Keep.rfl' {cs : Array Value} : Keep cs cs := ⟨rfl, fun _ _ => rfl⟩
theorem Keep.trans {a b c : Array Value} (h : Keep a b) (k : Keep b c) : Keep a c := ⟨k.1.trans h.1, fun i hi => (k.2 i hi).trans (h.2 i hi)⟩
theorem Keep.set (cs : Array Value) (j : Nat) (hj : j < 34) (v : Value) : Keep cs (cs.setIfInBounds j v) := ⟨by simp, fun i hi => Array.getElem?_setIfInBounds_ne (by omega)⟩
/-- A store at the front of block g. -/
structure KvAt (w : World) (g : Nat) (tt : TypeId) (cs : Array Value) (S : KS) (N : Nat) : Prop where
  bk : Blk w g tt cs
  ty : tt ≠ 74
  vs : ∀ k, k < 16 → cs[2 * k]? = some (.int .u64 ((S.V k).1 : Nat)) ∧ cs[2 * k + 1]? = some (.bool (S.V k).2)
  wk : ∃ m G, cs[32]? = some (.map m) ∧ FSrc isWork w m N G ∧ WRel w S.B G S.W
  lk : S.L.length ≤ 64 ∧ ∃ m, cs[33]? = some (.map m) ∧ Src w m S.L
  le : ∀ k l p, S.W k = some (l, p) → l.length ≤ N ∧ ∀ x ∈ l, keyB x.y = true
section
variable {w w' : World} {g N : Nat} {tt : TypeId} {cs : Array Value} {S : KS}
theorem KvAt.below (h : KvAt w g tt cs S N) (hb : Below w.heap.size w w') : KvAt w' g tt cs S N := by
  obtain ⟨h1, h2, h3, ⟨m, G, h4, h5, h6⟩, ⟨h7, m2, h8, h9⟩, h10⟩ := h
  exact ⟨h1.below hb h1.lt, h2, h3, ⟨m, G, h4, h5.below hb, h6.same fun A l hc => hc.below hb⟩, ⟨h7, m2, h8, h9.below hb⟩, h10⟩
theorem KvAt.far {g' : Nat} {t' : TypeId} {cs' : Array Value} (h : KvAt w g tt cs S N) (hg : w.grownBy w' (some g')) (hne : g ≠ g') (hk : Blk w g' t' cs') (ht : t' ≠ 74) : KvAt w' g tt cs S N := by
  obtain ⟨h1, h2, h3, ⟨m, G, h4, h5, h6⟩, ⟨h7, m2, h8, h9⟩, h10⟩ := h
  exact ⟨h1.kept hg (by simpa using hne), h2, h3, ⟨m, G, h4, h5.kept hg hk, h6.same fun A l hc => hc.kept hg hk ht⟩, ⟨h7, m2, h8, h9.kept hg hk⟩, h10⟩
theorem KvAt.more {N' : Nat} (h : KvAt w g tt cs S N) (hN : N ≤ N') : KvAt w g tt cs S N' := by
  obtain ⟨h1, h2, h3, ⟨m, G, h4, h5, h6⟩, h7, h10⟩ := h
  exact ⟨h1, h2, h3, ⟨m, G, h4, h5.more hN, h6⟩, h7, fun k l p e => ⟨Nat.le_trans (h10 k l p e).1 hN, (h10 k l p e).2⟩⟩
theorem KvAt.lt (h : KvAt w g tt cs S N) : g < w.heap.size := h.bk.lt
theorem KvAt.tab (h : KvAt w g tt cs S N) : TabO w g 33 tt cs S.L := by
  obtain ⟨h7, m2, h8, h9⟩ := h.lk
  exact ⟨h7, m2, h.bk, h8, h9⟩
/-- The locks have turned. -/
theorem KvAt.locked {L' : List LRow} (h : KvAt w g tt cs S N) (hg : w.grownBy w' (some g)) (ht : ∃ m, TabO w' g 33 tt (cs.setIfInBounds 33 (.map m)) L') : ∃ cs', KvAt w' g tt cs' { S with L := L' } N ∧ Keep cs cs' := by
  obtain ⟨m, h7, m2, hb, hc, hs⟩ := ht
  obtain ⟨h1, h2, h3, ⟨mw, G, h4, h5, h6⟩, _, h10⟩ := h
  refine ⟨_, ⟨hb, h2, fun k hk => ?_, ⟨mw, G, ?_, h5.kept hg h1, h6.same fun A l hc => hc.kept hg h1 h2⟩, ⟨h7, m2, hc, hs⟩, h10⟩, Keep.set _ _ (by omega) _⟩
  · rw [Array.getElem?_setIfInBounds_ne (by omega), Array.getElem?_setIfInBounds_ne (by omega)]; exact h3 k hk
  · rw [Array.getElem?_setIfInBounds_ne (by omega)]; exact h4
end
def curW (S : KS) (n : Int) : List Ch × Bool := (S.W n).getD ([], false)
/-- What is looked up of a work. -/
theorem KvAt.look {w : World} {g N : Nat} {tt : TypeId} {cs : Array Value} {S : KS} (h : KvAt w g tt cs S N) {n : Int} (hn : i64ok n) : ∃ m A q c, cs[32]? = some (.map m) ∧ q = (curW S n).1.length ∧ ChAt w S.B A (curW S n).1 ∧
    (Instr.lookup 90 (.map m) (.int .i64 n) false).run Tryz.prog w = .ok (.agg #[.slice A q c, .bool (curW S n).2]) w ∧ (Instr.lookup 90 (.map m) (.int .i64 n) true).run Tryz.prog w = .ok (.tuple #[.agg #[.slice A q c, .bool (curW S n).2], .bool (S.W n).isSome]) w := by
  obtain ⟨m, G, h4, h5, h6⟩ := h.wk
  have r1 := h5.look 90 138 Tryz.underlying90 (z := .agg #[.slice none 0 0, .bool false]) rfl (Tryz.zeroValue138 w) hn
  have r2 := h5.look_ok 90 138 Tryz.underlying90 (z := .agg #[.slice none 0 0, .bool false]) rfl (Tryz.zeroValue138 w) hn
  unfold curW
  rcases hW : S.W n with _ | ⟨l, p⟩
  · have hG := (h6 n).1 hW
    rw [hG] at r1 r2
    exact ⟨m, none, 0, 0, h4, rfl, fun hl => by simp at hl, r1, r2⟩
  · obtain ⟨A, q, c, hG, hq, hc⟩ := (h6 n).2 l p hW
    rw [hG] at r1 r2
    exact ⟨m, A, q, c, h4, hq, hc, r1, r2⟩

set_option maxRecDepth 100000 in
set_option maxHeartbeats 1000000 in
theorem lay_any (g : Nat) (tt : TypeId) (cs : Array Value) (S : KS) (N : Nat) (n : Int) (A : Option Addr) (l : List Ch) (m c : Nat) (p : Bool) (w : World) (h : KvAt w g tt cs S N) (hN : N < 900000) (hn : i64ok n) (hm : m = l.length) (hl : l.length ≤ N + 1) (hkl : ∀ x ∈ l, keyB x.y = true) (hc : ChAt w S.B A l) :
    Calls Tryz.prog 104 #[.pointer (some ⟨g, 0, none⟩), .int .i64 n, .agg #[.slice A m c, .bool p]] w fun e w' => e = .returned (.tuple #[]) ∧ (∃ cs', KvAt w' g tt cs' { S with W := updW S.W n (some (l, p)) } (N + 1) ∧ Keep cs cs') ∧ w.grownBy w' (some g) := by
  have hkey := keyOf_i n hn
  have hmk : ∀ (q : Int) (u : World), (Instr.makeMap 90 (some (.int .i64 q))).run Tryz.prog u = .ok (.map (some u.heap.size)) (u.alloc (.map #[] 0)) := fun q u => by
    simp [Instr.makeMap, run_underlying Tryz.underlying90, asInt, go_sem, Result.andThen]
  obtain ⟨w1, hw1⟩ : ∃ w1, w1 = w.alloc (.cells #[.slice A m c, .bool p] 138) := ⟨_, rfl⟩
  have hb1 : Below w.heap.size w w1 := by rw [hw1]; exact ba _ _
  have hs1 : w1.heap.size = w.heap.size + 1 := by rw [hw1]; simp
  have k1 : Blk w1 w.heap.size 138 #[.slice A m c, .bool p] := by rw [hw1]; exact Blk.new _ _ _
  have h1 := h.below hb1
  obtain ⟨mw, G, h4, h5, h6⟩ := h1.wk
  obtain ⟨q, hq, hln⟩ := h5.len_run 90 138 Tryz.underlying90 3
  have c0 := (h1.bk.cell 32).trans h4
  have hb2 := ba w1 (.map #[] 0)
  have hmade : (w1.alloc (.map #[] 0)).ownsMap Tryz.prog 3 (asIf isWork) w1.heap.size 0 (.map []) := World.ownsMap_made (H := Value) w1 Tryz.prog 3 (asIf isWork)
  have hmlt : mw ≠ some w1.heap.size := fun e => by
    rcases h5 with ⟨e1, _⟩ | ⟨b, D, e1, e2, _⟩
    · rw [e1] at e; cases e
    · rw [e1] at e; have := e2.lt; have := Option.some.inj e; omega
  obtain ⟨D, hR, hcp⟩ := (h5.below hb2).copied (by omega) _ hmade hmlt
  have hg2 := h1.bk.below hb2 h1.bk.lt
  have c2 := (hg2.cell 32).trans h4
  have k12 := k1.below hb2 k1.lt
  generalize hbm : w1.heap.size = bm at *
  have hb12 := bt hb1 (hbm ▸ hb2)
  have hglt := h.lt
  rw [hw1] at c0 hln hcp c2
  have HW1 := Lib.hid hw1
  have Hst := Lib.hid (And.intro hR (And.intro h (And.intro hc (And.intro hm (And.intro hl (And.intro hn (And.intro h6 h4)))))))
  have Hb2 : Hid (Below w1.heap.size w1 (w1.alloc (.map #[] 0))) := Lib.hid (ba _ _)
  have hqb : IntKind.i64.wrap ((q : Int) + 1) = (q : Int) + 1 := by rw [IntWalk.i64_in _ (by omega)]
  clear hw1 h5 hmade hmlt hb1 k1 hb2 hR hc hm hl hn h6 h1 h4 h hq
  go_enter Tryz.func104, Tryz.ntmps104
  go_wp2_with fail
  have hbm1 : w.heap.size + 1 = bm := hs1.symm
  rw [hbm1]
  refine hcp.mono ?_
  rintro e w3 ⟨rfl, hown3, hg3⟩
  rw [← HW1.out] at hg3
  have hgm : g ≠ bm := by omega
  have g3 := hg2.kept hg3 (fun e => hgm (Option.some.inj e))
  have k13 := k12.kept hg3 (fun e => by have := Option.some.inj e; omega)
  have e0 := k13.cell 0
  have e1 := k13.cell 1
  simp only [List.getElem?_toArray, List.getElem?_cons_zero, List.getElem?_cons_succ] at e0 e1
  have Hbs := Lib.hid hs1
  clear hcp c0 c2 hln hg2 k12 hs1 hbm1
  have hnl : N < maxLen := by unfold maxLen; omega
  go_wp2_with (first
    | (at_mapUpdate; refine wpList_mapUpdate_own _ rfl _ _ _ 90 rfl 3 138 lawI Tryz.underlying90 _ bm _ _ rfl hown3 hnl _ _ _ rfl rfl hkey _ [] (asIf_mk (isWork_val ⟨A, m, c, p⟩)) ?_; intro w4 hown4 hg4; go_frame; have g4 := g3.kept hg4 (fun e => hgm (Option.some.inj e)); have d0 := (g4.cell 32).trans Hst.out.2.2.2.2.2.2.2; have f0 := g4.frozen 32)
    | go_in)
  go_wp2
  go_end0
  obtain ⟨hR, h, hc, hm, hl, hn, h6, h4⟩ := Hst.out
  have hbs := Hbs.out
  have hR4 := hR.put hown3.isMap n (.agg #[.slice A m c, .bool p])
  have q1 : w.grownBy w4 none := by
    refine ⟨hg4.os.trans (hg3.os.trans hb12.os), hg4.tape.trans (hg3.tape.trans hb12.tape), hg4.output.trans (hg3.output.trans hb12.output), Nat.le_trans hb12.size (Nat.le_trans hg3.size hg4.size), fun i hi _ => ?_⟩
    have hi2 := Nat.lt_of_lt_of_le hi hb12.size
    have hni : some i ≠ some bm := fun e => by have := Option.some.inj e; omega
    exact (hg4.block i (Nat.lt_of_lt_of_le hi2 hg3.size) hni).trans ((hg3.block i hi2 hni).trans (hb12.block i hi))
  have hh := h.below (lgrown_below q1)
  have hgs := lgrown_set w4 ⟨g, 32, none⟩ (.map (some bm))
  refine ⟨rfl, ⟨cs.setIfInBounds 32 (.map (some bm)), ⟨g4.set_ 32 _, h.ty, fun k hk => ?_, ⟨some bm, _, set_at h4, .inr ⟨bm, _, rfl, hown4.setCell (a := ⟨g, 32, none⟩) (fun e => hgm e.symm) _, hR4⟩, ?_⟩, ⟨h.lk.1, ?_⟩, fun k l' p' e => ?_⟩, Keep.set _ _ (by omega) _⟩, ?_⟩
  · rw [Array.getElem?_setIfInBounds_ne (by omega), Array.getElem?_setIfInBounds_ne (by omega)]; exact h.vs k hk
  · have q2 : Below w1.heap.size w1 w4 := by
      refine ⟨hg4.os.trans (hg3.os.trans Hb2.out.os), hg4.tape.trans (hg3.tape.trans Hb2.out.tape), hg4.output.trans (hg3.output.trans Hb2.out.output), Nat.le_trans Hb2.out.size (Nat.le_trans hg3.size hg4.size), fun i hi => ?_⟩
      have hi2 := Nat.lt_of_lt_of_le hi Hb2.out.size
      have hni : some i ≠ some bm := fun e => by have := Option.some.inj e; have := HW1.out; rw [this] at hi; simp at hi; omega
      exact (hg4.block i (Nat.lt_of_lt_of_le hi2 hg3.size) hni).trans ((hg3.block i hi2 hni).trans (Hb2.out.block i hi))
    exact ((h6.same fun A l hc => hc.below q2).put n A m c l p hm (hc.below (lgrown_below q1))).same fun A l hc => hc.kept hgs g4 h.ty
  · obtain ⟨h7, m2, h8, h9⟩ := hh.lk
    exact ⟨m2, by rw [Array.getElem?_setIfInBounds_ne (by omega)]; exact h8, h9.kept hgs g4⟩
  · have e : updW S.W n (some (l, p)) k = some (l', p') := e
    unfold updW at e
    split at e
    · cases e; exact ⟨hl, hkl⟩
    · have := h.le k l' p' e; exact ⟨by omega, this.2⟩
  · exact (q1.but (some g)).andThen hgs (fun j h => by cases h; exact .inr rfl)
end Go.Proofs.YtlliaihmfimdoaaGreat
