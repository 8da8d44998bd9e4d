/- Layer 13: changes and one more. -/
import Derived.Test.YtnpoicgincndkaaBd
namespace Go.Proofs.Ytnpoicgincndkaa
open Go.RowKit
set_option linter.unusedVariables false
set_option linter.unusedSimpArgs false

def withL (l : List Ch) (x : Ch) : List Ch := if posN l x.y < l.length then l.set (posN l x.y) x else l ++ [x]
theorem withL_len (l : List Ch) (x : Ch) : (withL l x).length ≤ l.length + 1 := by
  unfold withL; split <;> simp
theorem grown_below {B : Nat} {a w w' : World} {row : Option Nat} (h : Below B a w) (hg : w.grownBy w' row) (hB : B ≤ w.heap.size) (hr : ∀ r, row = some r → B ≤ r) : Below B a w' := h.grown hg hB hr
set_option maxRecDepth 100000 in
set_option maxHeartbeats 2000000 in
theorem with_any (A : Option Addr) (l : List Ch) (n c : Nat) (x : Ch) (hn : Hid (n = l.length)) (hm : n ≤ 400000) (w : World) {B : Nat → Prop} (h : ChAt w B A l) :
    Calls Try.prog 54 #[.agg #[.slice A n c], .agg #[.int .i64 x.k, .int .i64 x.y, .int .u64 (x.v : Nat)]] w fun e w' => (∃ A' n' c', e = .returned (.agg #[.slice A' n' c']) ∧ n' = (withL l x).length ∧ ChAt w' (fun b => w.heap.size ≤ b) A' (withL l x)) ∧ Below w.heap.size w w' := by
  obtain ⟨W3, hW3⟩ : ∃ W3, W3 = ((w.alloc (.cells #[.slice A n c] 79)).alloc (.cells #[.int .i64 x.k, .int .i64 x.y, .int .u64 (x.v : Nat)] 47)).alloc (.cells #[.slice none 0 0] 79) := ⟨_, rfl⟩
  have k1 : Blk W3 w.heap.size 79 #[.slice A n c] := by rw [hW3]; exact ((Blk.new _ _ _).alloc _).alloc _
  have k2 : Blk W3 (w.heap.size + 1) 47 #[.int .i64 x.k, .int .i64 x.y, .int .u64 (x.v : Nat)] := by
    rw [hW3]; have := (Blk.new (w.alloc (.cells #[.slice A n c] 79)) 47 #[.int .i64 x.k, .int .i64 x.y, .int .u64 (x.v : Nat)]).alloc (.cells #[.slice none 0 0] 79); rwa [World.size_alloc] at this
  have k3 : Blk W3 (w.heap.size + 2) 79 #[.slice none 0 0] := by
    rw [hW3]; have := Blk.new ((w.alloc (.cells #[.slice A n c] 79)).alloc (.cells #[.int .i64 x.k, .int .i64 x.y, .int .u64 (x.v : Nat)] 47)) 79 #[.slice none 0 0]; rwa [World.size_alloc, World.size_alloc] at this
  have b3 : Below w.heap.size w W3 := by rw [hW3]; exact bt (bt (ba _ _) (ba _ _)) (ba _ _)
  have s3 : W3.heap.size = w.heap.size + 3 := by rw [hW3]; simp
  have c0 := k1.cell 0
  simp only [List.getElem?_toArray, List.getElem?_cons_zero] at c0
  have HC := Lib.hid (cclone_any A l n c W3 hn (Lib.hid (by omega)) (h.below b3))
  have HK := Lib.hid (And.intro k1 (And.intro k2 (And.intro k3 (And.intro b3 (And.intro s3 (h.below b3))))))
  have HW := Lib.hid hW3
  rw [hW3] at c0
  clear hW3 k1 k2 k3 b3 s3 h
  go_enter Try.func54, Try.ntmps54
  go_wp2_with fail
  rw [← HW.out]
  refine HC.out.mono ?_
  rintro e w4 ⟨A2, c2, rfl, own4, b4⟩
  clear c0
  obtain ⟨k1, k2, k3, b3, s3, hat⟩ := HK.out
  have j1 := k1.below b4 k1.lt
  have j2 := k2.below b4 k2.lt
  have j3 := k3.below b4 k3.lt
  have HP := Lib.hid (kplace_any A l n c x.y hn (by omega) w4 (hat.below b4))
  have c0 := j1.cell 0
  have d1 := j2.cell 1
  simp only [List.getElem?_toArray, List.getElem?_cons_zero, List.getElem?_cons_succ] at c0 d1
  have H4 := Lib.hid (And.intro own4 (And.intro j2 (And.intro j3 (And.intro (bt b3 b4) (And.intro s3 b4.size)))))
  clear own4 b4 k1 k2 k3 b3 s3 hat j1 j2 j3
  go_wp2_with fail
  refine HP.out.mono ?_
  rintro e w5 ⟨rfl, b5⟩
  clear c0 d1
  obtain ⟨own4, j2, j3, b4, s3, s4⟩ := H4.out
  have own5 : OwnC w5 W3.heap.size A2 c2 l := own4.kept (lbelow_grown b5 none) (fun r e => by cases e)
  have i2 := j2.below b5 j2.lt
  have i3 := j3.below b5 j3.lt
  have b45 := bt b4 b5
  have hs5 := b5.size
  have d0 := i2.cell 0
  have d1 := i2.cell 1
  have d2 := i2.cell 2
  simp only [List.getElem?_toArray, List.getElem?_cons_zero, List.getElem?_cons_succ] at d0 d1 d2
  by_cases hpos : posN l x.y < l.length
  · obtain ⟨q, hq⟩ : ∃ q, q = posN l x.y := ⟨_, rfl⟩
    have hqI : posI l x.y = (q : Int) := by unfold posI; rw [if_pos hpos, hq]
    rw [hqI]
    have hqn : q < n := by rw [hn.out, hq]; exact hpos
    have hqI2 : (q : Int) < (n : Int) := by omega
    obtain ⟨g, cap, e⟩ := Joins.ownsRow_form own5 (by omega)
    cases e
    unfold OwnC at own5
    rw [← hn.out] at own5
    obtain ⟨hgB, hgl⟩ := own5.lt g rfl
    have st1 := own5.stored (q * 3) (.int .i64 x.k)
    obtain ⟨V1, hV1⟩ : ∃ V1, w5.setCell ⟨g, q * 3, none⟩ (.int .i64 x.k) = V1 := ⟨_, rfl⟩
    rw [hV1] at st1
    have st2 := st1.1.stored (q * 3 + 1) (.int .i64 x.y)
    obtain ⟨V2, hV2⟩ : ∃ V2, V1.setCell ⟨g, q * 3 + 1, none⟩ (.int .i64 x.y) = V2 := ⟨_, rfl⟩
    rw [hV2] at st2
    have st3 := st2.1.stored (q * 3 + 2) (.int .u64 (x.v : Nat))
    obtain ⟨V3, hV3⟩ : ∃ V3, V2.setCell ⟨g, q * 3 + 2, none⟩ (.int .u64 (x.v : Nat)) = V3 := ⟨_, rfl⟩
    rw [hV3] at st3
    have hlen : (chV l).length = n * 3 := by rw [chV_len, hn.out]
    obtain ⟨u1, e1⟩ : ∃ u1, w5.cell? ⟨g, q * 3, none⟩ = some u1 := by rw [own5.cellAt (q * 3) (by omega)]; exact ⟨_, List.getElem?_eq_getElem (by omega)⟩
    obtain ⟨u2, e2⟩ : ∃ u2, V1.cell? ⟨g, q * 3 + 1, none⟩ = some u2 := by rw [st1.1.cellAt (q * 3 + 1) (by omega)]; exact ⟨_, List.getElem?_eq_getElem (by rw [List.length_set]; omega)⟩
    obtain ⟨u3, e3⟩ : ∃ u3, V2.cell? ⟨g, q * 3 + 2, none⟩ = some u3 := by rw [st2.1.cellAt (q * 3 + 2) (by omega)]; exact ⟨_, List.getElem?_eq_getElem (by rw [List.length_set, List.length_set]; omega)⟩
    have f1 := own5.frozenAt (q * 3)
    have f2 := st1.1.frozenAt (q * 3 + 1)
    have f3 := st2.1.frozenAt (q * 3 + 2)
    have gr := (st1.2.trans st2.2).trans st3.2
    have ownF : OwnC V3 W3.heap.size (some ⟨g, 0, none⟩) c2 (withL l x) := by
      have hl : (withL l x).length = n := by unfold withL; rw [if_pos hpos, List.length_set, hn.out]
      unfold OwnC
      rw [hl]
      have := st3.1
      rw [chV_set] at this
      unfold withL
      rw [if_pos hpos, ← hq]
      exact this
    have hl : Hid (n = (withL l x).length) := Lib.hid (by unfold withL; rw [if_pos hpos, List.length_set, hn.out])
    have i3' := i3.kept gr (fun e => by have := Option.some.inj e; omega)
    have bF := b45.grown gr (by omega) (fun r e => by cases e; omega)
    obtain ⟨V4, hV4⟩ : ∃ V4, V3.setCell ⟨w.heap.size + 1 + 1, 0, none⟩ (.slice (some ⟨g, 0, none⟩) n c2) = V4 := ⟨_, rfl⟩
    have cr : V3.cell? ⟨w.heap.size + 1 + 1, 0, none⟩ = some (.slice none 0 0) := i3'.cell 0
    have fr : V3.frozen? ⟨w.heap.size + 1 + 1, 0, none⟩ = false := i3'.frozen 0
    have cr2 : V4.cell? ⟨w.heap.size + 1 + 1, 0, none⟩ = some (.slice (some ⟨g, 0, none⟩) n c2) := by
      rw [← hV4]
      have := (i3'.set_ 0 (.slice (some ⟨g, 0, none⟩) n c2)).cell 0
      simpa using this
    have ownG : OwnC V4 W3.heap.size (some ⟨g, 0, none⟩) c2 (withL l x) := by
      rw [← hV4]; exact ownF.kept (lgrown_set _ _ _) (fun r e => by cases e; show w.heap.size + 1 + 1 < _; omega)
    have bG : Below w.heap.size w V4 := by rw [← hV4]; exact bF.setCell (by show w.heap.size ≤ w.heap.size + 1 + 1; omega) _
    have HF := Lib.hid (And.intro ownG.at_ bG)
    clear own4 j2 j3 b4 s3 s4 own5 i2 i3 b45 hs5 st1 st2 st3 gr ownF i3' bF ownG bG hgB hgl hlen hpos hq
    go_wp2
    refine bodyPost_ret (by simp [results, Try.results54, go_sem, cr2]; try rfl) rfl ?_
    exact ⟨⟨_, n, _, rfl, hl.out, HF.out.1.mono (fun b hb _ => Nat.le_trans HK.out.2.2.2.1.size hb)⟩, HF.out.2⟩
  · have hqI : posI l x.y = -1 := by unfold posI; rw [if_neg hpos]
    rw [hqI]
    obtain ⟨W6, hW6⟩ : ∃ W6, W6 = w5.alloc (.cells #[.int .i64 x.k, .int .i64 x.y, .int .u64 (x.v : Nat)] 47) := ⟨_, rfl⟩
    have b6 : Below w5.heap.size w5 W6 := by rw [hW6]; exact ba _ _
    have kq : Blk W6 w5.heap.size 47 #[.int .i64 x.k, .int .i64 x.y, .int .u64 (x.v : Nat)] := by rw [hW6]; exact Blk.new _ _ _
    have own6 : OwnC W6 W3.heap.size A2 c2 l := own5.kept (lbelow_grown b6 none) (fun r e => by cases e)
    obtain ⟨A3, c3, w7, hrun, own7, g7, hat7⟩ := ch_app own6 (some ⟨w5.heap.size, 0, none⟩) 1 [x] n 1 hn.out rfl (fun b o e i hi => by
      cases e
      have : i = 0 := by simp at hi; omega
      subst this
      exact ⟨(kq.cell 0).trans rfl, (kq.cell 1).trans rfl, (kq.cell 2).trans rfl⟩) (fun _ => ⟨_, _, rfl⟩) (by rw [hn.out]; exact own6.cap) (by rw [← hn.out]; simp; omega) (by have := b6.size; omega)
    have hl : Hid (n + 1 = (withL l x).length) := Lib.hid (by unfold withL; rw [if_neg hpos, List.length_append, hn.out]; rfl)
    have ownF : OwnC w7 W3.heap.size A3 c3 (withL l x) := by unfold withL; rw [if_neg hpos]; exact own7
    have i3' := (i3.below b6 i3.lt).kept g7 (fun e => by have := own6.lt' _ e.symm; omega)
    have bF := (bt b45 b6).grown g7 (by have := b6.size; omega) (fun r e => by have := own6.lt' r e; omega)
    obtain ⟨V4, hV4⟩ : ∃ V4, w7.setCell ⟨w.heap.size + 1 + 1, 0, none⟩ (.slice A3 (n + 1 : Nat) c3) = V4 := ⟨_, rfl⟩
    have cr : w7.cell? ⟨w.heap.size + 1 + 1, 0, none⟩ = some (.slice none 0 0) := i3'.cell 0
    have fr : w7.frozen? ⟨w.heap.size + 1 + 1, 0, none⟩ = false := i3'.frozen 0
    have cr2 : V4.cell? ⟨w.heap.size + 1 + 1, 0, none⟩ = some (.slice A3 (n + 1 : Nat) c3) := by
      rw [← hV4]
      have := (i3'.set_ 0 (.slice A3 (n + 1 : Nat) c3)).cell 0
      simpa using this
    have ownG : OwnC V4 W3.heap.size A3 c3 (withL l x) := by
      rw [← hV4]; exact ownF.kept (lgrown_set _ _ _) (fun r e => by cases e; show w.heap.size + 1 + 1 < _; omega)
    have bG : Below w.heap.size w V4 := by rw [← hV4]; exact bF.setCell (by show w.heap.size ≤ w.heap.size + 1 + 1; omega) _
    have HF := Lib.hid (And.intro ownG.at_ bG)
    rw [hW6] at hrun
    clear own4 j2 j3 b4 s3 s4 own5 i2 i3 b45 hs5 hW6 b6 kq own6 own7 g7 hat7 ownF i3' bF ownG bG hpos
    go_wp2_with (at_builtin; refine wpList_append_run rfl (.tmp 20) (.tmp 22) 34 rfl _ _ _ w7 rfl rfl hrun ?_)
    refine bodyPost_ret (by simp [results, Try.results54, go_sem, cr2]; try rfl) rfl ?_
    exact ⟨⟨_, n + 1, _, rfl, hl.out, HF.out.1.mono (fun b hb _ => Nat.le_trans HK.out.2.2.2.1.size hb)⟩, HF.out.2⟩
end Go.Proofs.Ytnpoicgincndkaa
