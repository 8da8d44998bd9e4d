/- Layer 10: the laws' arguments, opened: a conversation; the table that lies in a package's variable. -/
import Derived.Test.YtfhfbekphmnbgaaDoorOpen
import Derived.Test.YtfhfbekphmnbgaaDoorVh
import Derived.Test.YtfhfbekphmnbgaaDoorRows
import Derived.MakeChecks
import Derived.LaidMore
import Derived.Lib.SmallJoins
import Derived.WideShapes
namespace Go.Proofs.YtfhfbekphmnbgaaDoor
open Go.RowKit Go.ChangeShapes Go.WideShapes Go.Joins Go.ChangeAt Go.WideMaps Go.WideElems
set_option linter.unusedVariables false
set_option linter.unusedSimpArgs false

theorem list10 {α : Type} (l : List α) (h : l.length = 10) : ∃ a b c d e f g h i j, l = [a, b, c, d, e, f, g, h, i, j] := by
  match l, h with
  | [a, b, c, d, e, f, g, h, i, j], _ => exact ⟨a, b, c, d, e, f, g, h, i, j, rfl⟩
theorem list6 {α : Type} (l : List α) (h : l.length = 6) : ∃ a b c d e f, l = [a, b, c, d, e, f] := by
  match l, h with
  | [a, b, c, d, e, f], _ => exact ⟨a, b, c, d, e, f, rfl⟩
theorem list3 {α : Type} (l : List α) (h : l.length = 3) : ∃ a b c, l = [a, b, c] := by
  match l, h with
  | [a, b, c], _ => exact ⟨a, b, c, rfl⟩
theorem list2 {α : Type} (l : List α) (h : l.length = 2) : ∃ a b, l = [a, b] := by
  match l, h with
  | [a, b], _ => exact ⟨a, b, rfl⟩
theorem list5 {α : Type} (l : List α) (h : l.length = 5) : ∃ a b c d e, l = [a, b, c, d, e] := by
  match l, h with
  | [a, b, c, d, e], _ => exact ⟨a, b, c, d, e, rfl⟩

section
variable {H : Type} {enc : TypeId × Value → H} {W : World} {base : Nat} {spare : Nat → Bool} {held : Bool}
theorem int_cell {n : Nat} {v : Value} {y : DataW H × List MemPlace} (h : DataW.trod enc Tryd.prog W base spare held n 3 [v] = some y) : ∃ k : Int, v = .int .i64 k ∧ y.1 = .lit (.int .i64 k) := by
  obtain ⟨k, e1, e2, _⟩ := DataW.trod_int Tryd.underlying3 h
  simp at e1
  exact ⟨k, e1, by rw [e2]⟩
theorem bool_cell {n : Nat} {v : Value} {y : DataW H × List MemPlace} (h : DataW.trod enc Tryd.prog W base spare held n 4 [v] = some y) : ∃ b : Bool, v = .bool b ∧ y.1 = .lit (.bool b) := by
  obtain ⟨b, e1, e2⟩ := DataW.trod_bool Tryd.underlying4 h
  simp at e1
  exact ⟨b, e1, by rw [e2]⟩
theorem side_cells {n : Nat} {c0 c1 : Value} {y : DataW H × List MemPlace} (h : DataW.trod enc Tryd.prog W base spare held n 23 [c0, c1] = some y) : ∃ (a : Int) (x : Bool), c0 = .int .i64 a ∧ c1 = .bool x ∧ y.1 = .agg [.lit (.int .i64 a), .lit (.bool x)] := by
  obtain ⟨xs, n', _, rfl, _, hxl, hf⟩ := DataW.trod_struct Tryd.underlying23 h
  obtain ⟨y0, y1, rfl⟩ := list2 xs hxl
  have e3 : Tryd.prog.cellsOf 3 = 1 := by kernel_rfl
  have eB : Tryd.prog.cellsOf 4 = 1 := by kernel_rfl
  have g0 := hf 0 _ rfl
  have g1 := hf 1 _ rfl
  simp [e3, eB] at g0 g1
  obtain ⟨a, rfl, h0⟩ := int_cell g0
  obtain ⟨x, rfl, h1⟩ := bool_cell g1
  exact ⟨a, x, rfl, rfl, by simp [h0, h1]⟩
theorem sides_cells {n : Nat} {c0 c1 c2 c3 : Value} {y : DataW H × List MemPlace} (h : DataW.trod enc Tryd.prog W base spare held n 24 [c0, c1, c2, c3] = some y) : ∃ (a : Int) (x : Bool) (b : Int) (z : Bool), c0 = .int .i64 a ∧ c1 = .bool x ∧ c2 = .int .i64 b ∧ c3 = .bool z ∧ y.1 = .agg [.agg [.lit (.int .i64 a), .lit (.bool x)], .agg [.lit (.int .i64 b), .lit (.bool z)]] := by
  obtain ⟨xs, m1, _, rfl, _, hn3, hel⟩ := DataW.trod_array Tryd.underlying24 h
  obtain ⟨y0, y1, rfl⟩ := list2 xs hn3
  have eS : Tryd.prog.cellsOf 23 = 2 := by kernel_rfl
  have g0 := hel 0 (by decide)
  have g1 := hel 1 (by decide)
  simp [eS] at g0 g1
  obtain ⟨a, x, rfl, rfl, h0⟩ := side_cells g0
  obtain ⟨b, z, rfl, rfl, h1⟩ := side_cells g1
  exact ⟨a, x, b, z, rfl, rfl, rfl, rfl, by simp [h0, h1]⟩
theorem meeting_cells {n : Nat} {c0 c1 c2 c3 c4 : Value} {y : DataW H × List MemPlace} (h : DataW.trod enc Tryd.prog W base spare held n 63 [c0, c1, c2, c3, c4] = some y) {a : Int} {x : Bool} {b : Int} {z : Bool} {m : Int}
    (hy : y.1 = .agg [.agg [.agg [.lit (.int .i64 a), .lit (.bool x)], .agg [.lit (.int .i64 b), .lit (.bool z)]], .lit (.int .i64 m)]) : [c0, c1, c2, c3, c4] = [.int .i64 a, .bool x, .int .i64 b, .bool z, .int .i64 m] := by
  obtain ⟨xs, n', _, rfl, _, hxl, hf⟩ := DataW.trod_struct Tryd.underlying63 h
  obtain ⟨y0, y1, rfl⟩ := list2 xs hxl
  have e3 : Tryd.prog.cellsOf 3 = 1 := by kernel_rfl
  have eS : Tryd.prog.cellsOf 24 = 4 := by kernel_rfl
  have g0 := hf 0 _ rfl
  have g1 := hf 1 _ rfl
  simp [e3, eS] at g0 g1
  obtain ⟨a', x', b', z', rfl, rfl, rfl, rfl, h0⟩ := sides_cells g0
  obtain ⟨m', rfl, h1⟩ := int_cell g1
  simp [h0, h1] at hy
  obtain ⟨⟨⟨rfl, rfl⟩, rfl, rfl⟩, rfl⟩ := hy
  rfl
theorem open_conv {r : Reach} {b0 : Nat} {v : Value} {d : DataW H} {p : List MemPlace} (hval : Value.okWide Tryd.prog W r b0 26 v) (h : DataW.Trod enc Tryd.prog W 0 (fun _ => true) true 26 v d p) :
    ∃ (l s0 : Int) (w0 : Bool) (s1 : Int) (w1 : Bool) (t : Int), v = cv (l, s0, w0, s1, w1, t) := by
  obtain ⟨cs, rfl, hsz⟩ := okWide_struct Tryd.underlying26 hval
  have hC : Tryd.prog.cellsOf 26 = 6 := by kernel_rfl
  rw [hC] at hsz
  obtain ⟨fuel, ht⟩ := h
  have hcs : (Value.agg cs).cells.toList = cs.toList := rfl
  obtain ⟨c0, c1, c2, c3, c4, c5, hl⟩ := list6 cs.toList (by simpa using hsz)
  rw [hcs, hl] at ht
  obtain ⟨xs, n', _, _, _, hxl, hf⟩ := DataW.trod_struct Tryd.underlying26 ht
  obtain ⟨y0, y1, y2, rfl⟩ := list3 xs hxl
  have e3 : Tryd.prog.cellsOf 3 = 1 := by kernel_rfl
  have eS : Tryd.prog.cellsOf 24 = 4 := by kernel_rfl
  have g0 := hf 0 _ rfl
  have g1 := hf 1 _ rfl
  have g2 := hf 2 _ rfl
  simp [e3, eS] at g0 g1 g2
  obtain ⟨l, rfl, _⟩ := int_cell g0
  obtain ⟨a, x, b, z, rfl, rfl, rfl, rfl, _⟩ := sides_cells g1
  obtain ⟨t, rfl, _⟩ := int_cell g2
  exact ⟨l, a, x, b, z, t, by unfold cv; congr 1; exact Array.toList_inj.1 hl⟩
end

theorem gM : Tryd.prog.globalNamed "troth/conv.meetings" = some 0 := by kernel_rfl
theorem tM : (Tryd.prog.globals[0]?).map (·.type) = some 64 := by kernel_rfl
set_option maxRecDepth 100000 in
theorem of_laid {W : World} (h : laidMetH Tryd.prog [("troth/conv.meetings", Rows.laid_troth_conv_meetings)] W) : Meets W := by
  rw [MakeChecks.laidMetH_plain _ _ _ (by kernel_rfl)] at h
  obtain ⟨ps, ⟨g0, t0, cs0, f0, p0, q0, hg0, ht0, hv0, hd0, _, _⟩, _, _⟩ := h
  obtain rfl := Option.some.inj (gM.symm.trans hg0)
  obtain rfl := Option.some.inj (tM.symm.trans ht0)
  obtain ⟨xs, m1, _, hx, hlen, hn3, hel⟩ := DataW.trod_array Tryd.underlying64 hd0
  obtain ⟨x0, x1, x2, x3, x4, x5, x6, x7, x8, x9, rfl⟩ := list10 xs hn3
  have h50 : Tryd.prog.cellsOf 64 = 50 := by kernel_rfl
  have h5 : Tryd.prog.cellsOf 63 = 5 := by kernel_rfl
  rw [h50] at hlen
  rw [h5] at hel
  simp only [Rows.laid_troth_conv_meetings, List.map_cons, List.map_nil, Prod.mk.injEq, DataW.agg.injEq, List.cons.injEq] at hx
  obtain ⟨⟨e0, e1, e2, e3, e4, e5, e6, e7, e8, e9, _⟩, _⟩ := hx
  have hcell : ∀ k, W.cell? ⟨0, k, none⟩ = cs0[k]? := fun k => World.var?_cell hg0 hv0 k
  have hcl : ∀ k : Nat, cs0[k]? = cs0.toList[k]? := fun k => (Array.getElem?_toList ..).symm
  generalize cs0.toList = L at *
  clear hd0 hv0
  have B0 : (L.drop 0).take 5 = [.int .i64 1, .bool false, .int .i64 2, .bool false, .int .i64 0] := by
    obtain ⟨c0, c1, c2, c3, c4, hb⟩ := list5 ((L.drop 0).take 5) (by simp [hlen])
    have g := hel 0 (by decide)
    rw [show 0 * 5 = 0 from rfl, hb] at g
    rw [hb]
    exact meeting_cells g e0.symm
  have B1 : (L.drop 5).take 5 = [.int .i64 1, .bool true, .int .i64 3, .bool false, .int .i64 1] := by
    obtain ⟨c0, c1, c2, c3, c4, hb⟩ := list5 ((L.drop 5).take 5) (by simp [hlen])
    have g := hel 1 (by decide)
    rw [show 1 * 5 = 5 from rfl, hb] at g
    rw [hb]
    exact meeting_cells g e1.symm
  have B2 : (L.drop 10).take 5 = [.int .i64 1, .bool true, .int .i64 4, .bool false, .int .i64 1] := by
    obtain ⟨c0, c1, c2, c3, c4, hb⟩ := list5 ((L.drop 10).take 5) (by simp [hlen])
    have g := hel 2 (by decide)
    rw [show 2 * 5 = 10 from rfl, hb] at g
    rw [hb]
    exact meeting_cells g e2.symm
  have B3 : (L.drop 15).take 5 = [.int .i64 1, .bool true, .int .i64 5, .bool false, .int .i64 1] := by
    obtain ⟨c0, c1, c2, c3, c4, hb⟩ := list5 ((L.drop 15).take 5) (by simp [hlen])
    have g := hel 3 (by decide)
    rw [show 3 * 5 = 15 from rfl, hb] at g
    rw [hb]
    exact meeting_cells g e3.symm
  have B4 : (L.drop 20).take 5 = [.int .i64 10, .bool false, .int .i64 2, .bool false, .int .i64 2] := by
    obtain ⟨c0, c1, c2, c3, c4, hb⟩ := list5 ((L.drop 20).take 5) (by simp [hlen])
    have g := hel 4 (by decide)
    rw [show 4 * 5 = 20 from rfl, hb] at g
    rw [hb]
    exact meeting_cells g e4.symm
  have B5 : (L.drop 25).take 5 = [.int .i64 11, .bool false, .int .i64 2, .bool false, .int .i64 2] := by
    obtain ⟨c0, c1, c2, c3, c4, hb⟩ := list5 ((L.drop 25).take 5) (by simp [hlen])
    have g := hel 5 (by decide)
    rw [show 5 * 5 = 25 from rfl, hb] at g
    rw [hb]
    exact meeting_cells g e5.symm
  have B6 : (L.drop 30).take 5 = [.int .i64 1, .bool true, .int .i64 6, .bool false, .int .i64 2] := by
    obtain ⟨c0, c1, c2, c3, c4, hb⟩ := list5 ((L.drop 30).take 5) (by simp [hlen])
    have g := hel 6 (by decide)
    rw [show 6 * 5 = 30 from rfl, hb] at g
    rw [hb]
    exact meeting_cells g e6.symm
  have B7 : (L.drop 35).take 5 = [.int .i64 10, .bool true, .int .i64 7, .bool false, .int .i64 2] := by
    obtain ⟨c0, c1, c2, c3, c4, hb⟩ := list5 ((L.drop 35).take 5) (by simp [hlen])
    have g := hel 7 (by decide)
    rw [show 7 * 5 = 35 from rfl, hb] at g
    rw [hb]
    exact meeting_cells g e7.symm
  have B8 : (L.drop 40).take 5 = [.int .i64 11, .bool true, .int .i64 8, .bool false, .int .i64 2] := by
    obtain ⟨c0, c1, c2, c3, c4, hb⟩ := list5 ((L.drop 40).take 5) (by simp [hlen])
    have g := hel 8 (by decide)
    rw [show 8 * 5 = 40 from rfl, hb] at g
    rw [hb]
    exact meeting_cells g e8.symm
  have B9 : (L.drop 45).take 5 = [.int .i64 12, .bool false, .int .i64 12, .bool false, .int .i64 0] := by
    obtain ⟨c0, c1, c2, c3, c4, hb⟩ := list5 ((L.drop 45).take 5) (by simp [hlen])
    have g := hel 9 (by decide)
    rw [show 9 * 5 = 45 from rfl, hb] at g
    rw [hb]
    exact meeting_cells g e9.symm
  have step : ∀ n, L.drop n = (L.drop n).take 5 ++ L.drop (n + 5) := fun n => by
    conv => lhs; rw [← List.take_append_drop 5 (L.drop n)]
    rw [List.drop_drop]
  have d10 : L.drop 50 = [] := List.drop_eq_nil_of_le (by omega)
  have d9 : L.drop 45 = [.int .i64 12, .bool false, .int .i64 12, .bool false, .int .i64 0] ++ [] := by rw [step 45, B9]; simp only [Nat.reduceAdd, Nat.zero_add]; rw [d10]
  have d8 : L.drop 40 = [.int .i64 11, .bool true, .int .i64 8, .bool false, .int .i64 2] ++ ([.int .i64 12, .bool false, .int .i64 12, .bool false, .int .i64 0] ++ []) := by rw [step 40, B8]; simp only [Nat.reduceAdd, Nat.zero_add]; rw [d9]
  have d7 : L.drop 35 = [.int .i64 10, .bool true, .int .i64 7, .bool false, .int .i64 2] ++ ([.int .i64 11, .bool true, .int .i64 8, .bool false, .int .i64 2] ++ ([.int .i64 12, .bool false, .int .i64 12, .bool false, .int .i64 0] ++ [])) := by rw [step 35, B7]; simp only [Nat.reduceAdd, Nat.zero_add]; rw [d8]
  have d6 : L.drop 30 = [.int .i64 1, .bool true, .int .i64 6, .bool false, .int .i64 2] ++ ([.int .i64 10, .bool true, .int .i64 7, .bool false, .int .i64 2] ++ ([.int .i64 11, .bool true, .int .i64 8, .bool false, .int .i64 2] ++ ([.int .i64 12, .bool false, .int .i64 12, .bool false, .int .i64 0] ++ []))) := by rw [step 30, B6]; simp only [Nat.reduceAdd, Nat.zero_add]; rw [d7]
  have d5 : L.drop 25 = [.int .i64 11, .bool false, .int .i64 2, .bool false, .int .i64 2] ++ ([.int .i64 1, .bool true, .int .i64 6, .bool false, .int .i64 2] ++ ([.int .i64 10, .bool true, .int .i64 7, .bool false, .int .i64 2] ++ ([.int .i64 11, .bool true, .int .i64 8, .bool false, .int .i64 2] ++ ([.int .i64 12, .bool false, .int .i64 12, .bool false, .int .i64 0] ++ [])))) := by rw [step 25, B5]; simp only [Nat.reduceAdd, Nat.zero_add]; rw [d6]
  have d4 : L.drop 20 = [.int .i64 10, .bool false, .int .i64 2, .bool false, .int .i64 2] ++ ([.int .i64 11, .bool false, .int .i64 2, .bool false, .int .i64 2] ++ ([.int .i64 1, .bool true, .int .i64 6, .bool false, .int .i64 2] ++ ([.int .i64 10, .bool true, .int .i64 7, .bool false, .int .i64 2] ++ ([.int .i64 11, .bool true, .int .i64 8, .bool false, .int .i64 2] ++ ([.int .i64 12, .bool false, .int .i64 12, .bool false, .int .i64 0] ++ []))))) := by rw [step 20, B4]; simp only [Nat.reduceAdd, Nat.zero_add]; rw [d5]
  have d3 : L.drop 15 = [.int .i64 1, .bool true, .int .i64 5, .bool false, .int .i64 1] ++ ([.int .i64 10, .bool false, .int .i64 2, .bool false, .int .i64 2] ++ ([.int .i64 11, .bool false, .int .i64 2, .bool false, .int .i64 2] ++ ([.int .i64 1, .bool true, .int .i64 6, .bool false, .int .i64 2] ++ ([.int .i64 10, .bool true, .int .i64 7, .bool false, .int .i64 2] ++ ([.int .i64 11, .bool true, .int .i64 8, .bool false, .int .i64 2] ++ ([.int .i64 12, .bool false, .int .i64 12, .bool false, .int .i64 0] ++ [])))))) := by rw [step 15, B3]; simp only [Nat.reduceAdd, Nat.zero_add]; rw [d4]
  have d2 : L.drop 10 = [.int .i64 1, .bool true, .int .i64 4, .bool false, .int .i64 1] ++ ([.int .i64 1, .bool true, .int .i64 5, .bool false, .int .i64 1] ++ ([.int .i64 10, .bool false, .int .i64 2, .bool false, .int .i64 2] ++ ([.int .i64 11, .bool false, .int .i64 2, .bool false, .int .i64 2] ++ ([.int .i64 1, .bool true, .int .i64 6, .bool false, .int .i64 2] ++ ([.int .i64 10, .bool true, .int .i64 7, .bool false, .int .i64 2] ++ ([.int .i64 11, .bool true, .int .i64 8, .bool false, .int .i64 2] ++ ([.int .i64 12, .bool false, .int .i64 12, .bool false, .int .i64 0] ++ []))))))) := by rw [step 10, B2]; simp only [Nat.reduceAdd, Nat.zero_add]; rw [d3]
  have d1 : L.drop 5 = [.int .i64 1, .bool true, .int .i64 3, .bool false, .int .i64 1] ++ ([.int .i64 1, .bool true, .int .i64 4, .bool false, .int .i64 1] ++ ([.int .i64 1, .bool true, .int .i64 5, .bool false, .int .i64 1] ++ ([.int .i64 10, .bool false, .int .i64 2, .bool false, .int .i64 2] ++ ([.int .i64 11, .bool false, .int .i64 2, .bool false, .int .i64 2] ++ ([.int .i64 1, .bool true, .int .i64 6, .bool false, .int .i64 2] ++ ([.int .i64 10, .bool true, .int .i64 7, .bool false, .int .i64 2] ++ ([.int .i64 11, .bool true, .int .i64 8, .bool false, .int .i64 2] ++ ([.int .i64 12, .bool false, .int .i64 12, .bool false, .int .i64 0] ++ [])))))))) := by rw [step 5, B1]; simp only [Nat.reduceAdd, Nat.zero_add]; rw [d2]
  have d0 : L.drop 0 = [.int .i64 1, .bool false, .int .i64 2, .bool false, .int .i64 0] ++ ([.int .i64 1, .bool true, .int .i64 3, .bool false, .int .i64 1] ++ ([.int .i64 1, .bool true, .int .i64 4, .bool false, .int .i64 1] ++ ([.int .i64 1, .bool true, .int .i64 5, .bool false, .int .i64 1] ++ ([.int .i64 10, .bool false, .int .i64 2, .bool false, .int .i64 2] ++ ([.int .i64 11, .bool false, .int .i64 2, .bool false, .int .i64 2] ++ ([.int .i64 1, .bool true, .int .i64 6, .bool false, .int .i64 2] ++ ([.int .i64 10, .bool true, .int .i64 7, .bool false, .int .i64 2] ++ ([.int .i64 11, .bool true, .int .i64 8, .bool false, .int .i64 2] ++ ([.int .i64 12, .bool false, .int .i64 12, .bool false, .int .i64 0] ++ []))))))))) := by rw [step 0, B0]; simp only [Nat.reduceAdd, Nat.zero_add]; rw [d1]
  have hL : L = mL := by
    have := d0
    rw [List.drop_zero] at this
    rw [this]
    rfl
  refine ⟨?_, fun k v hk => ?_⟩
  · have h0 : W.cell? ⟨0, 0, none⟩ = some (.int .i64 1) := by rw [hcell, hcl, hL]; rfl
    exact Nat.lt_of_le_of_lt (Nat.zero_le _) (World.block_lt_of_cell? _ _ h0)
  · rw [hcell, hcl, hL]
    exact hk
end Go.Proofs.YtfhfbekphmnbgaaDoor
