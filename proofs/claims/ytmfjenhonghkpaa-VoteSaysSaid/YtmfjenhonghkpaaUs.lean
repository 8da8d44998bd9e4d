/- Layer 16: right trees by their parts; what is told, counted. -/
import Derived.Test.YtmfjenhonghkpaaUq
namespace Go.Proofs.Ytmfjenhonghkpaa
open Go Go.RowKit
set_option linter.unusedVariables false
set_option linter.unusedSimpArgs false

/-- So many levels are enough. -/
def okD : Nat → Fo → Bool
  | _, .nil => true
  | n, .cons _ k r => decide (1 ≤ n) && (okD (n - 1) k && okD n r)
theorem okD_mono : ∀ (f : Fo) (n : Nat), okD n f = true → okD (n + 1) f = true
  | .nil, _, _ => rfl
  | .cons v k r, n, h => by
    simp only [okD, Bool.and_eq_true, decide_eq_true_eq] at h ⊢
    refine ⟨by omega, ?_, okD_mono r n h.2.2⟩
    have := okD_mono k (n - 1) h.2.1
    rwa [show n - 1 + 1 = n by omega] at this
theorem depth_iff : ∀ (f : Fo) (n : Nat), n ≤ 8 → ((∀ x ∈ nodesL (9 - (n : Int)) f, x.d ≤ 8) ↔ okD n f = true)
  | .nil, n, _ => by simp [nodesL, okD]
  | .cons v k r, n, hn => by
    have h2 := depth_iff r n hn
    simp only [nodesL, List.mem_cons, List.mem_append, okD, Bool.and_eq_true, decide_eq_true_eq]
    rcases Nat.eq_zero_or_pos n with h0 | h0
    · subst h0
      constructor
      · intro h
        have := h _ (.inl rfl)
        simp at this
      · rintro ⟨h, _⟩; omega
    · have hw : wrap64 (9 - (n : Int) + 1) = 9 - ((n - 1 : Nat) : Int) := by unfold wrap64; omega
      rw [hw]
      have h1 := depth_iff k (n - 1) (by omega)
      constructor
      · intro h
        exact ⟨h0, h1.1 fun x hx => h x (.inr (.inl hx)), h2.1 fun x hx => h x (.inr (.inr hx))⟩
      · rintro ⟨_, hk, hr⟩ x (rfl | hx | hx)
        · simp only; omega
        · exact h1.2 hk x hx
        · exact h2.2 hr x hx
theorem rightL_iff : ∀ (l : List NT) (c : Nat), c ≤ 64 → (rightL c l = true ↔ (∀ x ∈ l, x.d ≤ 8 ∧ voteB x.v = true) ∧ c + l.length ≤ 64)
  | [], c, hc => by simp [rightL, hc]
  | y :: l, c, hc => by
    simp only [rightL, okN, Bool.and_eq_true, decide_eq_true_eq, List.mem_cons, List.length_cons]
    constructor
    · rintro ⟨⟨h1, h2, h3⟩, h4⟩
      have := (rightL_iff l (c + 1) h2).1 h4
      exact ⟨fun x hx => by rcases hx with rfl | hx; exact ⟨h1, h3⟩; exact this.1 x hx, by omega⟩
    · rintro ⟨h1, h2⟩
      have hy := h1 y (.inl rfl)
      exact ⟨⟨hy.1, by omega, hy.2⟩, (rightL_iff l (c + 1) (by omega)).2 ⟨fun x hx => h1 x (.inr hx), by omega⟩⟩
/-- A right tree, by its parts. -/
theorem right_iff (v : Int) (k : Fo) : rightB v k = true ↔ voteB v = true ∧ okD 7 k = true ∧ (∀ z ∈ votesF k, voteB z = true) ∧ k.cnt + 1 ≤ 64 := by
  have hw : wrap64 ((1 : Int) + 1) = 2 := by unfold wrap64; omega
  have hd := depth_iff k 7 (by omega)
  rw [show (9 - ((7 : Nat) : Int)) = 2 by omega] at hd
  unfold rightB
  rw [rightL_iff _ 0 (by omega), nodes_len]
  simp only [nodesL, hw, List.append_nil, List.mem_cons]
  constructor
  · rintro ⟨h1, h2⟩
    have h0 := h1 _ (.inl rfl)
    refine ⟨h0.2, hd.1 fun x hx => (h1 x (.inr hx)).1, fun z hz => ?_, by omega⟩
    rw [← nodesL_votes k 2] at hz
    obtain ⟨x, hx, rfl⟩ := List.mem_map.1 hz
    exact (h1 x (.inr hx)).2
  · rintro ⟨h1, h2, h3, h4⟩
    refine ⟨fun x hx => ?_, by omega⟩
    rcases hx with rfl | hx
    · exact ⟨by simp only; omega, h1⟩
    · refine ⟨hd.2 h2 x hx, h3 _ ?_⟩
      rw [← nodesL_votes k 2]
      exact List.mem_map.2 ⟨x, hx, rfl⟩
theorem okD_foN (n : Nat) : ∀ l : List NR, okD n (foN l) = l.all (fun x => decide (1 ≤ n) && okD (n - 1) x.k)
  | [] => rfl
  | x :: l => by simp only [foN, okD, okD_foN n l, List.all_cons, Bool.and_assoc]
theorem votes_foN : ∀ l : List NR, votesF (foN l) = l.flatMap (fun x => x.v :: votesF x.k)
  | [] => rfl
  | x :: l => by simp only [foN, votesF, votes_foN l, List.flatMap_cons, List.cons_append]
theorem cnt_foN : ∀ l : List NR, (foN l).cnt = (l.map fun x => x.k.cnt + 1).sum
  | [] => rfl
  | x :: l => by simp only [foN, Fo.cnt, cnt_foN l, List.map_cons, List.sum_cons]; omega
/-- A kid of a right tree is one. -/
theorem right_kid {v : Int} {l : List NR} (h : rightB v (foN l) = true) {x : NR} (hx : x ∈ l) : rightB x.v x.k = true := by
  obtain ⟨h1, h2, h3, h4⟩ := (right_iff _ _).1 h
  rw [okD_foN, List.all_eq_true] at h2
  have h5 := h2 x hx
  simp only [Bool.and_eq_true, decide_eq_true_eq] at h5
  rw [votes_foN] at h3
  rw [cnt_foN] at h4
  refine (right_iff _ _).2 ⟨h3 _ (List.mem_flatMap.2 ⟨x, hx, by simp⟩), okD_mono _ 6 h5.2, fun z hz => h3 z (List.mem_flatMap.2 ⟨x, hx, by simp [hz]⟩), ?_⟩
  have h6 : x.k.cnt + 1 ≤ (l.map fun x => x.k.cnt + 1).sum := by
    clear h h2 h3 h4 h5
    induction l with
    | nil => simp at hx
    | cons y l ih =>
      simp only [List.map_cons, List.sum_cons]
      rcases List.mem_cons.1 hx with rfl | hx
      · omega
      · have := ih hx; omega
  omega
/-- A right tree with other kids of the same sort. -/
theorem right_of {v : Int} {l l2 : List NR} (h : rightB v (foN l) = true) (hs : ∀ x ∈ l2, x ∈ l) (hc : (foN l2).cnt ≤ (foN l).cnt) : rightB v (foN l2) = true := by
  obtain ⟨h1, h2, h3, h4⟩ := (right_iff _ _).1 h
  rw [okD_foN, List.all_eq_true] at h2
  rw [votes_foN] at h3
  refine (right_iff _ _).2 ⟨h1, by rw [okD_foN, List.all_eq_true]; exact fun x hx => h2 x (hs x hx), fun z hz => ?_, by omega⟩
  rw [votes_foN] at hz
  obtain ⟨x, hx, hz2⟩ := List.mem_flatMap.1 hz
  exact h3 z (List.mem_flatMap.2 ⟨x, hs x hx, hz2⟩)
/-- How many are told. -/
def toldC : Fo → Nat
  | .nil => 0
  | .cons v k r => (if saysB v k == 2 then 0 else 1) + (toldC k + toldC r)
theorem told_fold : ∀ (f : Fo) (d : Int), (∀ x ∈ nodesL d f, 2 ≤ x.d) → ∀ s : Nat × List Int, ((nodesL d f).foldl kstep s).2.length = s.2.length + toldC f
  | .nil, d, _, s => by simp [nodesL, toldC]
  | .cons v k r, d, hall, s => by
    simp only [nodesL, List.mem_cons, List.mem_append] at hall
    simp only [nodesL, List.foldl_cons, List.foldl_append, toldC]
    rw [told_fold r d (fun x hx => hall x (.inr (.inr hx))), told_fold k _ (fun x hx => hall x (.inr (.inl hx)))]
    have hy : ((⟨d, v, k⟩ : NT).d == 1) = false := by have := hall _ (.inl rfl); simp only at this; simp; omega
    unfold kstep
    rw [hy]
    simp only [Bool.false_eq_true, if_false]
    split <;> simp <;> omega
theorem told_count {v : Int} {k : Fo} (h : rightB v k = true) : (kidsM v k).2.length = toldC k := by
  rw [kidsM_eq, told_fold k 2 (kids_depth h)]
  simp
theorem flows_count {v : Int} {k : Fo} (h : rightB v k = true) : flowsM v k = 2 * k.cnt + 3 * toldC k := by
  unfold flowsM
  rw [kids_all h, told_count h]
theorem toldC_foN : ∀ l : List NR, toldC (foN l) = (l.map fun x => (if saysB x.v x.k == 2 then 0 else 1) + toldC x.k).sum
  | [] => rfl
  | x :: l => by simp only [foN, toldC, toldC_foN l, List.map_cons, List.sum_cons]; omega
theorem toldC_two {v : Int} {k : Fo} (h : saysB v k = 2) : toldC k = 0 := by
  have h2 := says3_two h
  rw [votesL_eq] at h2
  suffices hs : ∀ f : Fo, (∀ z ∈ votesF f, z = 2) → toldC f = 0 from hs k fun z hz => h2 z (by simp [hz])
  intro f
  induction f with
  | nil => intro _; rfl
  | cons v k r ih1 ih2 =>
    intro hv
    simp only [votesF, List.mem_cons, List.mem_append] at hv
    have hs : saysB v k = 2 := by
      unfold saysB
      refine says3_of_two fun z hz => ?_
      rw [votesL_eq] at hz
      rcases List.mem_cons.1 hz with rfl | hz
      · exact hv _ (.inl rfl)
      · exact hv z (.inr (.inl hz))
    simp only [toldC, hs, ih1 fun z hz => hv z (.inr (.inl hz)), ih2 fun z hz => hv z (.inr (.inr hz))]
    rfl
end Go.Proofs.Ytmfjenhonghkpaa
