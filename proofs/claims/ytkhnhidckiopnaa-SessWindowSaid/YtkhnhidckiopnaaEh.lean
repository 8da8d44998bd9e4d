/- Layer 9: alive. -/
import Derived.Test.YtkhnhidckiopnaaEg
import Derived.Lib.SlBytesConst
namespace Go.Proofs.Ytkhnhidckiopnaa
open Go.RowKit
set_option linter.unusedVariables false
set_option linter.unusedSimpArgs false

theorem FrsAt.grown {w w' : World} {B fb S x g : Nat} {fs : List (Nat × List UInt8)} (h : FrsAt w B fb S x fs) (hg : w.grownBy w' (some g)) (hgB : g < B) : FrsAt w' B fb S x fs := by
  obtain ⟨cs, h1, h2, h3⟩ := h
  refine ⟨cs, h1, h2.kept hg (fun e => by injection e with e; omega), fun i hi => ?_⟩
  obtain ⟨p0, p1, p2, A, c, p3, s, hs, ho⟩ := h3 i hi
  exact ⟨p0, p1, p2, A, c, p3, s, hs, ho.kept hg (.inr (fun e => by have := (ho.lt _ e).1; omega))⟩
theorem put_lit {u : World} {g S W f x : Nat} {q : List (List UInt8)} {cs : Array Value} (h : EndAt u g S W q f x cs) (b : UInt8) (n : Int) (hn : n = (b.toNat : Int)) (hq : putE q f 1 = 0) (fr : Nat × Nat) :
    Calls Try.prog 13 #[.pointer (some ⟨g, 0, none⟩), .slice (some ⟨u.heap.size, 0, none⟩) 1 1] (u.alloc (.cells #[.int .u8 n] 5 fr)) fun e w' => e = .returned (.int .i64 0) ∧ (∃ cs', EndAt w' g S W (q ++ [[b]]) f x cs') ∧ u.grownBy w' (some g) := by
  refine (put_ok (h.bt (ba u _)) (some ⟨u.heap.size, 0, none⟩) [b] 1 1 (Lib.hid rfl) (Bs.lit' rfl (by rw [hn]; rfl)) hq).mono ?_
  rintro e w' ⟨h1, h2, h3⟩
  exact ⟨h1, h2, grownBy_trans (grown_of (ba u _) _) h3⟩
theorem conv_n (A : Option Addr) (l : List UInt8) (n c : Nat) (hn : Hid (n = l.length)) (w : World) (B : Nat) (h : Bs w B A l) : (convert 31 9 (.slice A n c)).run Try.prog w = .ok (.string ⟨l.toArray⟩) w := by
  rw [hn.out]; exact conv_bytes Try.underlying31 Try.underlying5 Try.underlying9 h _

set_option maxRecDepth 100000 in
set_option maxHeartbeats 4000000 in
theorem alive_any (w : World) : Calls Try.prog 11 #[] w fun e w' => e = .returned (.bool true) ∧ Below w.heap.size w w' := by
  have kc := fun (w : World) (C : Array Value) (n c : Nat) => Lib.run_convert_bytes_const (P := Try.prog) w 31 5 C n c Try.underlying31 Try.underlying5
  have hn := new_ok 1 2 w (by omega) (by omega) (by omega)
  go_enter Try.func11, Try.ntmps11
  go_wp2_with fail
  refine hn.mono ?_
  rintro e w1 ⟨rfl, ⟨cs1, h1⟩, b1⟩
  have hb := new_bad 0 2 w1 (.inl rfl)
  go_wp2_with fail
  refine hb.mono ?_
  rintro e w2 ⟨rfl, rfl⟩
  have hp := put_lit h1 97 97 rfl rfl
  go_wp2_with fail
  refine (hp _).mono ?_
  rintro e w2 ⟨rfl, ⟨cs2, h2⟩, g2⟩
  have hp2 := put_lit h2 98 98 rfl rfl
  clear hp h1
  go_wp2_with fail
  refine (hp2 _).mono ?_
  rintro e w3 ⟨rfl, ⟨cs3, h3⟩, g3⟩
  have hp3 := put_lit h3 99 99 rfl rfl
  clear hp2 h2
  go_wp2_with fail
  refine (hp3 _).mono ?_
  rintro e w4 ⟨rfl, ⟨cs4, h4⟩, g4⟩
  have hf := frames_some h4 (by simp) 2 rfl
  clear hp3 h3
  go_wp2_with fail
  refine hf.mono ?_
  rintro e w5 ⟨fb, rfl, hfr, b5⟩
  have h5 := h4.bt b5
  have ho := on_ack h5 0 1 0 none (by simp)
  clear hf
  go_wp2_with fail
  refine ho.mono ?_
  rintro e w6 ⟨rfl, ⟨cs6, h6⟩, g6⟩
  have ho2 := on_other h6 2 0 0 0 0 none (by omega)
  clear ho h5
  go_wp2_with fail
  refine ho2.mono ?_
  rintro e w7 ⟨rfl, b7⟩
  have h7 := h6.bt b7
  have hwt := waiting_any h7 2 (by rfl)
  have hgl := h4.blk.lt
  have hfr7 := (hfr.grown g6 hgl).grown (grown_of b7 _) hgl
  have el : framesL 2 ([] ++ [[97]] ++ [[98]] ++ [[99]]) 0 = [(0, [97]), (1, [98])] := by rfl
  rw [el] at hfr7
  obtain ⟨cf, _, kf, hall⟩ := hfr7
  obtain ⟨_, p1, _, A, c, p3, s, _, ho7⟩ := hall 1 (by decide)
  have c5 : w7.cell? ⟨fb, 5, none⟩ = some (.int .i64 1) := (kf.cell 5).trans p1
  have c7 : w7.cell? ⟨fb, 7, none⟩ = some (.slice A 1 c) := (kf.cell 7).trans p3
  have hcv := conv_n A [98] 1 c (Lib.hid rfl) w7 w7.heap.size ho7.bs
  have d2 := b1.grown g2 b1.size (fun k e => by cases e; exact Nat.le_refl _)
  have d3 := d2.grown g3 d2.size (fun k e => by cases e; exact Nat.le_refl _)
  have d4 := d3.grown g4 d3.size (fun k e => by cases e; exact Nat.le_refl _)
  have d5 := bt d4 b5
  have d6 := d5.grown g6 d5.size (fun k e => by cases e; exact Nat.le_refl _)
  have d7 := bt d6 b7
  have HD := Lib.hid d7
  clear hall p1 p3 kf hfr el ho7 d2 d3 d4 d5 d6 d7 b1 b5 b7 g2 g3 g4 g6
  clear ho2 h6 h4
  go_wp2_with fail
  refine hwt.mono ?_
  rintro e w8 ⟨rfl, rfl⟩
  go_wp2
  go_ret
  exact ⟨rfl, HD.out⟩
end Go.Proofs.Ytkhnhidckiopnaa
