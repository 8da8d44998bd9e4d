/- Parts To of one proof. -/
import Derived.Test.YtlliaihmfimdoaaGreatMg36
import Derived.Test.YtlliaihmfimdoaaGreatMg38
namespace Go.Proofs.YtlliaihmfimdoaaGreat.Re
open Go.RowKit Go.Maps Go.Joins Go.Deep Go.Proofs.YtlliaihmfimdoaaGreat
set_option linter.unusedVariables false
set_option linter.unusedSimpArgs false

/-- An image's value: these pairs, these items, this next number. -/
def IsIm (P : List (Int × Nat)) (vs : List Nat) (nx : Int) (q m : Nat) (v : Value) (u : World) : Prop := ∃ A c A' c', v = .agg #[.slice A q c, .slice A' m c', .int .i64 nx] ∧ InRp u A P ∧ Qu.UAt u A' vs
/-- How many they are. -/
def ImL (P : List (Int × Nat)) (vs : List Nat) (q m : Nat) : Prop := q = P.length ∧ m = vs.length ∧ q ≤ 1000 ∧ m ≤ 1000
section
variable {P : List (Int × Nat)} {vs : List Nat} {nx : Int} {q m : Nat} {v v' : Value} {u u' : World}
theorem IsIm.below (h : IsIm P vs nx q m v u) (hb : Below u.heap.size u u') : IsIm P vs nx q m v u' := by
  obtain ⟨A, c, A', c', h1, h2, h3⟩ := h
  exact ⟨A, c, A', c', h1, h2.below hb, h3.below hb⟩
theorem ImgAt.is {B c c' : Nat} {A A' : Option Addr} (h : ImgAt u B A q c A' m c' P vs) (nx : Int) : IsIm P vs nx q m (.agg #[.slice A q c, .slice A' m c', .int .i64 nx]) u := ⟨A, c, A', c', rfl, h.pin, h.uin⟩
theorem image_is (g : Nat) (cs : Array Value) (S : RS) (N : Nat) (w : World) (h : ResAt w g cs S N) (hP : imP S.K 16 = P) (hv : S.Q.I.map Qu.IT.v = vs) (hn : S.Q.g + 1 = nx) (hl : Hid (ImL P vs q m)) :
    Calls Tryz.prog 18 #[.pointer (some ⟨g, 0, none⟩)] w fun e w' => ∃ v, e = .returned v ∧ IsIm P vs nx q m v w' ∧ Below w.heap.size w w' := by
  refine (image_img g cs S N w h).mono ?_
  rintro e w' ⟨A, q2, c, A', q2', c', rfl, HX⟩
  obtain ⟨h1, h2⟩ := HX.out
  have e1 : q2 = q := by rw [h1.q, hP]; exact hl.out.1.symm
  have e2 : q2' = m := by rw [h1.q', hv]; exact hl.out.2.1.symm
  subst e1 e2
  rw [hP, hv] at h1
  rw [hn]
  exact ⟨_, rfl, h1.is nx, h2⟩
theorem isim_as (hl : Hid (ImL P vs q m)) (h : IsIm P vs nx q m v u) : Calls Tryz.prog 17 #[v] u fun e w' => ∃ v', e = .returned v' ∧ IsIm P vs nx q m v' w' ∧ Below u.heap.size u w' := by
  obtain ⟨A, c, A', c', rfl, h2, h3⟩ := h
  refine (as_any A A' q c m c' nx P u (Lib.hid hl.out.1) hl.out.2.2.1 h2).mono ?_
  rintro e w' ⟨A9, c9, rfl, HX⟩
  exact ⟨_, rfl, ⟨A9, c9, A', c', rfl, OwnPr.in_ HX.out.1, h3.below HX.out.2⟩, HX.out.2⟩
theorem isim_same (hl : Hid (ImL P vs q m)) (h : IsIm P vs nx q m v u) (h' : IsIm P vs nx q m v' u) : Calls Tryz.prog 16 #[v, v'] u fun e w' => e = .returned (.bool true) ∧ Below u.heap.size u w' := by
  obtain ⟨A, c, A', c', rfl, h2, h3⟩ := h
  obtain ⟨A9, c9, A9', c9', rfl, h4, h5⟩ := h'
  exact refsame_any A A9 A' A9' q c c9 m c' c9' nx P vs u (Lib.hid hl.out.1) (Lib.hid hl.out.2.1) hl.out.2.2.1 (by have := hl.out.2.2.2; omega) h2 h4 h3 h5
end
theorem imL_of {S : RS} (hok : Qu.QOk S.Q) : ImL (imP S.K 16) (S.Q.I.map Qu.IT.v) (imP S.K 16).length (S.Q.I.map Qu.IT.v).length :=
  ⟨rfl, rfl, by have := imP_len S.K 16; omega, by have := hok.room; rw [List.length_map]; omega⟩
theorem pushR_ok {S : RS} (h : Qu.QOk S.Q) (hd : S.Q.ws.Pairwise fun a b => a.n ≠ b.n) (n : Int) (v : Nat) : Qu.QOk (pushR S n v).2.Q := by
  unfold pushR; split
  · exact h
  · exact h.put hd n v
theorem prepR_ok {S : RS} (h : Qu.QOk S.Q) (hd : S.Q.ws.Pairwise fun a b => a.n ≠ b.n) (n : Int) : Qu.QOk (prepR S n).2.Q := by
  rw [prepR_Q]; split
  · exact h
  · exact h.prep hd n
/-- The resources have turned: what was there else stays. -/
theorem Blk.off {w w' : World} {b g : Nat} {t : TypeId} {cs : Array Value} (h : Blk w b t cs) (hg : w.grownBy w' (some g)) (hne : b ≠ g) : Blk w' b t cs := h.kept hg (fun e => hne (Option.some.inj e))
end Go.Proofs.YtlliaihmfimdoaaGreat.Re
