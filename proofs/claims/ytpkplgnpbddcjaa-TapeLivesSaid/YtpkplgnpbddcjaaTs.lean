/- Layer 2: what the form's reach says of the bytes of a list of Ops. -/
import Derived.Test.YtpkplgnpbddcjaaTq
import Derived.SizedLaws
import Derived.Deep.Slices
import Derived.Lib.SmallJoins
namespace Go.Proofs.Ytpkplgnpbddcjaa
open Go.RowKit Go.ChangeShapes Go.WideShapes Go.Joins Go.Deep
set_option linter.unusedVariables false
set_option linter.unusedSimpArgs false

theorem Try.bytesU8 : Try.prog.bytesOf 5 = 1 := by kernel_rfl
section
variable {H : Type} {enc : TypeId × Value → H} {W : World}
theorem weights_all {e : TypeId} : ∀ {l : List (DataW H)} {d : DataW H}, d ∈ l → ∀ n ∈ d.weights Try.prog e, n ∈ DataW.weightsAll Try.prog e l
  | x :: l, d, hd, n, hn => by
    unfold DataW.weightsAll
    rcases List.mem_cons.1 hd with rfl | hd
    · exact List.mem_append.2 (.inl hn)
    · exact List.mem_append.2 (.inr (weights_all hd n hn))
theorem ops_len {A : Option Addr} {ops : List OpV} {c : Nat} {d0 d : DataW H} {p : List MemPlace} {t0 : TypeId} (h : DataW.Trod enc Try.prog W 0 (fun _ => true) true 22 (.slice A ops.length c) d p) (hA : OpsAt W A ops)
    (hsz : (DataW.weightsEach Try.prog [t0, 22] [d0, d]).all (· ≤ reachBytes) = true) : ∀ o ∈ ops, o.b.length ≤ 140737488355328 := by
  obtain ⟨fuel, hf⟩ := h
  have hC : Try.prog.cellsOf 32 = 3 := by kernel_rfl
  rcases open_slice Try.underlying22 hf with ⟨hcs, _⟩ | ⟨x, l, cc, m, n, D, Pl, hcs, _, hl, hm, hmm, hd, hi⟩
  · simp [Value.cells] at hcs
    intro o ho
    rw [hcs.2.1] at ho
    cases ho
  · simp [Value.cells] at hcs
    obtain ⟨rfl, rfl, rfl⟩ := hcs
    injection hd with hd _
    simp only [if_true] at hmm
    subst hmm
    intro o ho
    obtain ⟨i, hio, rfl⟩ := List.mem_iff_getElem.1 ho
    obtain ⟨b, of, eA, hlt, hat⟩ := hA.2.2 (by omega)
    injection eA with eA
    subst eA
    obtain ⟨_, _, hc2⟩ := hat i hio
    obtain ⟨cs', hc, ht⟩ := hi i (by omega)
    rw [hC] at hc
    obtain ⟨_, hcl, hcat⟩ := World.cells?_some hc
    obtain ⟨xs, n', _, hD, _, hxl, hf'⟩ := DataW.trod_struct Try.underlying32 ht
    have g2 := hf' 2 _ rfl
    have e3 : Try.prog.cellsOf 30 = 1 := by kernel_rfl
    match cs', hcl with
    | [c0, c1, c2], _ =>
      match xs, hxl with
      | [y0, y1, y2], _ =>
        simp [e3] at g2
        have a2 := hcat 2 (by omega)
        have ea : ((⟨b, of, none⟩ : Addr).add (i * 3)).add 2 = ⟨b, of + i * 3 + 2, none⟩ := by simp only [Addr.add_lit]
        rw [ea, hc2] at a2
        simp at a2
        subst a2
        rcases open_ints Try.underlying30 Try.underlying5 (by kernel_rfl) g2 with ⟨hcs, _⟩ | ⟨x, l, c, zs, hcs, _, hl2, hm2, hz, hy, _, _⟩
        · simp at hcs
          rw [hcs.2.1]; simp
        · simp at hcs
          obtain ⟨e1, e2, e4⟩ := hcs
          simp only [Prod.mk.injEq] at hD
          have hDi : D i = .agg [y0.1, y1.1, y2.1] := by simpa using hD.1
          have hmem : D i ∈ (List.range ops.length).map D := List.mem_map.2 ⟨i, List.mem_range.2 hio, rfl⟩
          have hw : ((zs.take l).length + (zs.drop l).length) * Try.prog.bytesOf 5 ∈ DataW.weights Try.prog 22 d := by
            rw [hd]
            unfold DataW.weights
            simp only [Try.underlying22]
            refine List.mem_cons_of_mem _ (List.mem_append.2 (.inl (weights_all hmem _ ?_)))
            rw [hDi, hy]
            simp [DataW.weights, DataW.weightsEach, Try.underlying32, Try.underlying30, lits]
          have := List.all_eq_true.1 hsz _ (DataW.weights_mem_each (j := 1) (t := 22) rfl rfl _ hw)
          rw [Try.bytesU8] at this
          have := of_decide_eq_true this
          simp [reachBytes] at this
          have hz' : zs.length = c := by simpa using hz
          omega
end
end Go.Proofs.Ytpkplgnpbddcjaa
