/- Layer 16: the mathematics of trees. -/
import Derived.Test.YtmfjenhonghkpaaUg
namespace Go.Proofs.Ytmfjenhonghkpaa
open Go Go.RowKit
set_option linter.unusedVariables false
set_option linter.unusedSimpArgs false

def votesF : Fo → List Int
  | .nil => []
  | .cons v k r => v :: (votesF k ++ votesF r)
theorem nodesL_votes : ∀ (f : Fo) (d : Int), (nodesL d f).map NT.v = votesF f
  | .nil, _ => rfl
  | .cons v k r, d => by simp only [nodesL, List.map_cons, List.map_append, nodesL_votes k, nodesL_votes r, votesF]
theorem votesL_eq (v : Int) (k : Fo) : votesL v k = v :: votesF k := by unfold votesL; rw [nodesL_votes]; simp [votesF]
theorem nodes_sub : ∀ (f : Fo) (d : Int) (x : NT), x ∈ nodesL d f → x.v ∈ votesF f ∧ ∀ z ∈ votesF x.k, z ∈ votesF f
  | .nil, d, x, h => by simp [nodesL] at h
  | .cons v k r, d, x, h => by
    simp only [nodesL, List.mem_cons, List.mem_append] at h
    simp only [votesF, List.mem_cons, List.mem_append]
    rcases h with rfl | h | h
    · exact ⟨.inl rfl, fun z hz => .inr (.inl hz)⟩
    · have := nodes_sub k _ x h
      exact ⟨.inr (.inl this.1), fun z hz => .inr (.inl (this.2 z hz))⟩
    · have := nodes_sub r _ x h
      exact ⟨.inr (.inr this.1), fun z hz => .inr (.inr (this.2 z hz))⟩
theorem rightL_all : ∀ (l : List NT) (c : Nat), rightL c l = true → ∀ x ∈ l, x.d ≤ 8 ∧ voteB x.v = true
  | [], _, _, x, hx => by simp at hx
  | y :: l, c, h, x, hx => by
    simp only [rightL, Bool.and_eq_true, okN, decide_eq_true_eq] at h
    rcases List.mem_cons.1 hx with rfl | hx
    · exact ⟨h.1.1, h.1.2.2⟩
    · exact rightL_all l _ h.2 x hx
theorem right_votes {v : Int} {k : Fo} (h : rightB v k = true) : ∀ z ∈ votesL v k, z = 1 ∨ z = 2 ∨ z = 3 := by
  intro z hz
  unfold votesL at hz
  obtain ⟨x, hx, rfl⟩ := List.mem_map.1 hz
  have := (rightL_all _ _ h x hx).2
  simpa [voteB] using this
/-- Is a vote No? -/
def noF (f : Fo) : Bool := (votesF f).any (fun z => z == 3)
theorem says_no3 {v : Int} {k : Fo} (h : rightB v k = true) : (saysB v k != 3) = !(v == 3 || noF k) := by
  have hv := right_votes h
  have hany : (v == 3 || noF k) = (votesL v k).any (fun z => z == 3) := by rw [votesL_eq]; simp [noF]
  rw [hany]
  unfold saysB says3L
  rcases ha : (votesL v k).any (fun z => z == 3) with _ | _
  · have hall : (votesL v k).all (fun v => v == 1 || v == 2) = true := by
      rw [List.all_eq_true]
      intro z hz
      rw [List.any_eq_false] at ha
      have h3 := ha z hz
      rcases hv z hz with rfl | rfl | rfl <;> simp at h3 ⊢
    rw [hall]
    simp only [if_true]
    split <;> rfl
  · have hall : (votesL v k).all (fun v => v == 1 || v == 2) = false := by
      rw [List.all_eq_false]
      rw [List.any_eq_true] at ha
      obtain ⟨z, hz, h3⟩ := ha
      refine ⟨z, hz, ?_⟩
      have : z = 3 := by simpa using h3
      subst this
      simp
    rw [hall]
    rfl
theorem depth_ok : ∀ (f : Fo) (d : Int), 2 ≤ d → d ≤ 9 → (∀ x ∈ nodesL d f, x.d ≤ 8) → ∀ x ∈ nodesL d f, 2 ≤ x.d
  | .nil, _, _, _, _, x, hx => by simp [nodesL] at hx
  | .cons v k r, d, h1, h2, hall, x, hx => by
    simp only [nodesL, List.mem_cons, List.mem_append] at hx hall
    have hd8 : d ≤ 8 := hall ⟨d, v, k⟩ (.inl rfl)
    have hw : wrap64 (d + 1) = d + 1 := by unfold wrap64; omega
    rcases hx with rfl | hx | hx
    · exact h1
    · rw [hw] at hx hall
      exact depth_ok k (d + 1) (by omega) (by omega) (fun y hy => hall y (.inr (.inl hy))) x hx
    · exact depth_ok r d h1 h2 (fun y hy => hall y (.inr (.inr hy))) x hx
theorem kids_depth {v : Int} {k : Fo} (h : rightB v k = true) : ∀ x ∈ nodesL 2 k, 2 ≤ x.d := by
  have hr := rightL_all _ _ h
  have hw : wrap64 ((1 : Int) + 1) = 2 := by unfold wrap64; omega
  simp only [nodesL, hw, List.append_nil, List.mem_cons] at hr
  exact depth_ok k 2 (by omega) (by omega) (fun x hx => (hr x (.inr hx)).1)
theorem kfold_from (l : List NT) (hl : ∀ x ∈ l, 2 ≤ x.d) : ∀ s : Nat × List Int, (l.foldl kstep s).1 = s.1 + l.length := by
  induction l with
  | nil => intro s; rfl
  | cons y l ih =>
    intro s
    have hy : (y.d == 1) = false := by have := hl y (by simp); simp; omega
    simp only [List.foldl_cons, List.length_cons]
    rw [ih (fun x hx => hl x (by simp [hx]))]
    unfold kstep
    rw [hy]
    simp
    omega
theorem kidsM_eq (v : Int) (k : Fo) : kidsM v k = (nodesL 2 k).foldl kstep (0, []) := by
  unfold kidsM kfold
  have hw : wrap64 ((1 : Int) + 1) = 2 := by unfold wrap64; omega
  simp only [nodesL, hw, List.append_nil, List.foldl_cons]
  rfl
theorem kids_all {v : Int} {k : Fo} (h : rightB v k = true) : (kidsM v k).1 = k.cnt := by
  rw [kidsM_eq, kfold_from _ (kids_depth h), nodesL_cnt]
  simp
theorem kfold_none (l : List NT) (hl : ∀ x ∈ l, saysB x.v x.k = 2) : ∀ s : Nat × List Int, (l.foldl kstep s).2 = s.2 := by
  induction l with
  | nil => intro s; rfl
  | cons y l ih =>
    intro s
    simp only [List.foldl_cons]
    rw [ih (fun x hx => hl x (by simp [hx]))]
    unfold kstep
    rw [hl y (by simp)]
    split <;> rfl
theorem says3_two {l : List Int} (h : says3L l = 2) : ∀ z ∈ l, z = 2 := by
  intro z hz
  unfold says3L at h
  rcases ha : l.all (fun v => v == 1 || v == 2) with _ | _
  · rw [ha] at h; simp at h
  · rw [ha] at h
    rcases hb : l.any (fun v => v == 1) with _ | _
    · rw [List.all_eq_true] at ha
      rw [List.any_eq_false] at hb
      have h1 := ha z hz
      have h2 := hb z hz
      simp at h1 h2
      omega
    · rw [hb] at h; simp at h
theorem says3_of_two {l : List Int} (h : ∀ z ∈ l, z = 2) : says3L l = 2 := by
  unfold says3L
  have ha : l.all (fun v => v == 1 || v == 2) = true := by rw [List.all_eq_true]; intro z hz; rw [h z hz]; rfl
  have hb : l.any (fun v => v == 1) = false := by rw [List.any_eq_false]; intro z hz; rw [h z hz]; decide
  rw [ha, hb]
  rfl
theorem kids_none {v : Int} {k : Fo} (h : saysB v k = 2) : (kidsM v k).2 = [] := by
  have h2 := says3_two h
  rw [votesL_eq] at h2
  rw [kidsM_eq, kfold_none]
  intro x hx
  have hs := nodes_sub k 2 x hx
  unfold saysB
  refine says3_of_two fun z hz => ?_
  rw [votesL_eq] at hz
  rcases List.mem_cons.1 hz with rfl | hz
  · exact h2 _ (by simp [hs.1])
  · exact h2 z (by simp [hs.2 z hz])
theorem kfold_rising (l : List NT) : (kfold l).2.Pairwise (· < ·) ∧ ∀ z ∈ (kfold l).2, z ≤ ((kfold l).1 : Int) := by
  induction l using snoc_ind with
  | h0 => simp [kfold]
  | h1 l x ih =>
    rw [kfold_snoc]
    unfold kstep
    split
    · exact ih
    · split
      · exact ⟨ih.1, fun z hz => by have := ih.2 z hz; simp only; omega⟩
      · refine ⟨List.pairwise_append.2 ⟨ih.1, by simp, fun a ha b hb => ?_⟩, fun z hz => ?_⟩
        · have := ih.2 a ha
          simp at hb
          omega
        · rcases List.mem_append.1 hz with hz | hz
          · have := ih.2 z hz; simp only; omega
          · simp at hz; simp only; omega
end Go.Proofs.Ytmfjenhonghkpaa
