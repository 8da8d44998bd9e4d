/- Layer 4: the law on Write, with the form's reach. -/
import Derived.Test.YtoahmifmoekjoaaGv
import Derived.Test.YtoahmifmoekjoaaOpenG
import Derived.SizedLaws
namespace Go.Proofs.Ytoahmifmoekjoaa
open Go.RowKit Go.ChangeShapes Go.WideShapes Go.Joins Go.Deep
set_option linter.unusedVariables false
set_option linter.unusedSimpArgs false

theorem Try.bytesU8 : Try.prog.bytesOf 5 = 1 := by kernel_rfl
section
variable {H : Type} {enc : TypeId × Value → H} {W : World}
theorem open_var_d {r : Reach} {b0 : Nat} {v : Value} {d : DataW H} {p : List MemPlace} (hval : Value.okWide Try.prog W r b0 24 v) (h : DataW.Trod enc Try.prog W 0 (fun _ => true) true 24 v d p) :
    ∃ o : VarV, v = o.val ∧ VarOk W o ∧ (o.l = [] ∨ ∃ y0 el sp, d = .agg [y0, .slice el sp] ∧ o.l.length ≤ el.length + sp.length) := by
  obtain ⟨v0, v1, y0, y1, n, rfl, hd, _, h0, h1⟩ := open_agg2 Try.underlying24 (by kernel_rfl) (by kernel_rfl) hval h
  obtain ⟨k, rfl, k1, k2⟩ := int_trod Try.underlying3 h0
  rcases open_ints Try.underlying22 Try.underlying5 (by kernel_rfl) h1 with ⟨hcs, _⟩ | ⟨x, l, c, zs, hcs, _, hl, hm, hz, hy, hcell, hwz⟩
  · simp at hcs
    subst hcs
    exact ⟨⟨k, none, [], 0⟩, rfl, ⟨k1, k2, Bs.nil, by simp, by simp⟩, .inl rfl⟩
  · simp at hcs
    subst hcs
    have hz' : zs.length = c := by simpa using hz
    obtain ⟨m, rfl, hm'⟩ := bs_of_ints hl hz' hcell hwz
    refine ⟨⟨k, _, m, c⟩, rfl, ⟨k1, k2, hm', hl, by unfold maxLen at hm; simp only; omega⟩, .inr ⟨y0.1, lits IntKind.u8 (List.take m.length zs), lits IntKind.u8 (List.drop m.length zs), ?_, ?_⟩⟩
    · rw [hd, hy]
    · simp [lits, hz']
      omega
/-- What the form's reach says of a variable's bytes. -/
theorem var_reach {d0 d1 : DataW H} {o : VarV} {t1 : TypeId} (hd : o.l = [] ∨ ∃ y0 el sp, d0 = .agg [y0, .slice el sp] ∧ o.l.length ≤ el.length + sp.length)
    (hsz : (DataW.weightsEach Try.prog [24, t1] [d0, d1]).all (· ≤ reachBytes) = true) : o.l.length ≤ 140737488355328 := by
  rcases hd with h | ⟨y0, el, sp, rfl, h⟩
  · rw [h]; simp
  · have := List.all_eq_true.1 hsz ((el.length + sp.length) * Try.prog.bytesOf 5) (DataW.weights_mem_each (j := 0) (t := 24) rfl rfl _ (by simp [DataW.weights, DataW.weightsEach, Try.underlying24, Try.underlying22]))
    rw [Try.bytesU8] at this
    simp [reachBytes] at this
    omega
end
theorem gdsWrites_walk (o : VarV) (seg : Int) (w : World) (ho : VarOk w o) (hr : o.l.length ≤ 140737488355328) (g1 : -9223372036854775808 ≤ seg) (g2 : seg ≤ 9223372036854775807) :
    Calls Try.prog 3 #[o.val, .int .i64 seg] w fun e w' => e = .returned (.bool true) ∧ Below w.heap.size w w' := by
  obtain ⟨id, A, l, c⟩ := o
  obtain ⟨_, _, hbs, hle, hcm⟩ := ho
  simp only at hbs hle hcm hr
  unfold VarV.val
  by_cases h1 : (400 : Int) < (l.length : Int) ∧ (l.length : Int) ≤ 2048
  · exact gwrites_mid id A _ c seg w h1.1 h1.2
  · exact gwrites_all id A l _ c seg (Lib.hid rfl) (Lib.hid hle) (Lib.hid hcm) (Lib.hid g1) (Lib.hid g2) (Lib.hid hr) w hbs (fun h2 h3 => h1 ⟨h2, h3⟩)
end Go.Proofs.Ytoahmifmoekjoaa
