/- Layer 16: what the document tells is what is told. -/
import Derived.Test.YtmfjenhonghkpaaVd
namespace Go.Proofs.Ytmfjenhonghkpaa
open Go Go.RowKit
set_option linter.unusedVariables false
set_option linter.unusedSimpArgs false

theorem votesF_nodes : ∀ (f : Fo) (d : Int), (nodesL d f).map NT.v = votesF f
  | .nil, _ => rfl
  | .cons v k r, d => by simp only [nodesL, votesF, List.map_cons, List.map_append, votesF_nodes k, votesF_nodes r]
theorem votesL_doc (v : Int) (k : Fo) : votesL v k = v :: votesF k := by
  unfold votesL
  rw [votesF_nodes]
  simp [votesF]
theorem saysB_doc (v : Int) (k : Fo) : saysB v k = says3L (v :: votesF k) := by unfold saysB; rw [votesL_doc]
theorem told_fold_doc : ∀ (f : Fo) (d : Int) (a : Nat) (L : List Int), (∀ x ∈ nodesL d f, 2 ≤ x.d) → (nodesL d f).foldl kstep (a, L) = (a + f.cnt, L ++ tolF (a + 1) f)
  | .nil, d, a, L, _ => by simp [nodesL, tolF, Fo.cnt]
  | .cons v k r, d, a, L, h => by
    simp only [nodesL, List.mem_cons, List.mem_append] at h
    have hd : (d == 1) = false := by have := h _ (.inl rfl); simp only at this; simp; omega
    simp only [nodesL, List.foldl_cons, List.foldl_append]
    have hs : kstep (a, L) ⟨d, v, k⟩ = (a + 1, L ++ (if says3L (v :: votesF k) = 2 then [] else [((a + 1 : Nat) : Int)])) := by
      unfold kstep
      simp only [hd, saysB_doc]
      by_cases h2 : says3L (v :: votesF k) = 2
      · simp [h2]
      · simp [h2]
    rw [hs, told_fold_doc k _ _ _ (fun x hx => h x (.inr (.inl hx))), told_fold_doc r _ _ _ (fun x hx => h x (.inr (.inr hx)))]
    simp only [tolF, Fo.cnt, List.append_assoc, Prod.mk.injEq]
    refine ⟨by omega, ?_⟩
    rw [show a + 1 + k.cnt + 1 = a + 1 + (k.cnt + 1) by omega]
theorem told_doc {v : Int} {k : Fo} (h : rightB v k = true) : (kidsM v k).2 = tolF 1 k := by
  rw [kidsM_eq, told_fold_doc k 2 0 [] (kids_depth h)]
  simp
end Go.Proofs.Ytmfjenhonghkpaa
