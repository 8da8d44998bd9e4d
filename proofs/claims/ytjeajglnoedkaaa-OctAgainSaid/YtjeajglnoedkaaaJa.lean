/- Layer 1: lists of texts, joined: the document's Join. -/
import Derived.Test.YtjeajglnoedkaaaBlk
import Derived.Test.YtjeajglnoedkaaaProg
namespace Go.Proofs.Ytjeajglnoedkaaa
open Go.RowKit
set_option linter.unusedVariables false
set_option linter.unusedSimpArgs false

theorem Try.infoU8j : (Try.prog.info? 5).map (fun i => (i.zero, i.size, i.bytes)) = some (some (.int .u8 0), 1, 1) := by kernel_rfl

/-- A list of texts in memory. -/
def ListAt (w : World) (B : Nat) (A : Option Addr) (ls : List (List UInt8)) : Prop :=
  0 < ls.length → ∃ b o, A = some ⟨b, o, none⟩ ∧ b < B ∧ ∀ i, (h : i < ls.length) → ∃ Ai ci, w.cell? ⟨b, o + i, none⟩ = some (.slice Ai (ls[i]'h).length ci) ∧ Bs w B Ai (ls[i]'h)
theorem ListAt.bt {w w' : World} {A : Option Addr} {ls : List (List UInt8)} (h : ListAt w w.heap.size A ls) (hb : Below w.heap.size w w') : ListAt w' w'.heap.size A ls := fun hn => by
  obtain ⟨b, o, e, h1, h2⟩ := h hn
  refine ⟨b, o, e, Nat.lt_of_lt_of_le h1 hb.size, fun i hi => ?_⟩
  obtain ⟨Ai, ci, h3, h4⟩ := h2 i hi
  exact ⟨Ai, ci, (hb.cell (p := ⟨b, o + i, none⟩) h1).trans h3, h4.bt hb⟩

/-- A part, behind its length. -/
def partL (p : List UInt8) : List UInt8 := UInt8.ofNat (p.length / 256) :: UInt8.ofNat (p.length % 256) :: p
theorem partL_length (p : List UInt8) : (partL p).length = p.length + 2 := rfl
def joinL (ls : List (List UInt8)) : List UInt8 := ls.flatMap partL
theorem joinL_snoc (ls : List (List UInt8)) (p : List UInt8) : joinL (ls ++ [p]) = joinL ls ++ partL p := by simp [joinL]
theorem joinL_cons (ls : List (List UInt8)) (p : List UInt8) : joinL (p :: ls) = partL p ++ joinL ls := by simp [joinL]
theorem joinL_short (ls : List (List UInt8)) (h : ∀ p ∈ ls, p.length ≤ 65535) : (joinL ls).length ≤ 65537 * ls.length := by
  induction ls with
  | nil => simp [joinL]
  | cons p ls ih =>
    rw [joinL_cons, List.length_append, partL_length]
    have h1 := ih (fun q hq => h q (by simp [hq]))
    have h2 := h p (by simp)
    simp only [List.length_cons]
    omega
/-- What Join answers. -/
def joinR (ls : List (List UInt8)) : List UInt8 × Int := if ls.length ≤ 1000 ∧ ∀ p ∈ ls, p.length ≤ 65535 then (joinL ls, 0) else ([], 2)
def JoinO (w : World) (ls : List (List UInt8)) (e : Ending) (w' : World) : Prop :=
  ∃ A2 c2, e = .returned (.tuple #[.slice A2 (joinR ls).1.length c2, .int .i64 (joinR ls).2]) ∧ Bs w' w'.heap.size A2 (joinR ls).1 ∧ Below w.heap.size w w' ∧ (joinR ls).1.length ≤ c2 ∧ c2 ≤ 9223372036854775807
theorem Own.cap {w : World} {base : Nat} {e : TypeId} {A : Option Addr} {c : Nat} {l : List UInt8} (h : Own w base e A c l) : l.length ≤ c ∧ c ≤ 9223372036854775807 := by
  rcases h.2 with ⟨h1, h2⟩ | ⟨g, cap, cur, h1, hb, hg, hn, hm, _⟩
  · simp only [Value.slice.injEq] at h1
    obtain ⟨_, h3, rfl⟩ := h1
    omega
  · simp only [Value.slice.injEq] at h1
    obtain ⟨_, _, rfl⟩ := h1
    unfold maxLen at hm
    omega
theorem joinR_bad {ls : List (List UInt8)} {k : Nat} (hk : k < ls.length) (h : ¬ ls[k].length ≤ 65535) : joinR ls = ([], 2) := by
  unfold joinR; rw [if_neg]; rintro ⟨_, h2⟩; exact h (h2 _ (List.getElem_mem hk))
theorem joinR_long {ls : List (List UInt8)} (h : ¬ ls.length ≤ 1000) : joinR ls = ([], 2) := by
  unfold joinR; rw [if_neg]; rintro ⟨h1, _⟩; exact h h1
theorem joinR_ok {ls : List (List UInt8)} (h : ls.length ≤ 1000) (h2 : ∀ p ∈ ls, p.length ≤ 65535) : joinR ls = (joinL ls, 0) := by
  unfold joinR; rw [if_pos ⟨h, h2⟩]
theorem len_hi (n : Nat) (h : n ≤ 65535) : (n : Int) / 256 = ((UInt8.ofNat (n / 256)).toNat : Int) := by simp only [UInt8.toNat_ofNat']; omega
theorem len_lo (n : Nat) : (n : Int) % 256 = ((UInt8.ofNat (n % 256)).toNat : Int) := by simp

set_option maxHeartbeats 2000000 in
theorem refjoin_any (A : Option Addr) (ls : List (List UInt8)) (n c : Nat) (w : World) (hn : Hid (n = ls.length)) (hm : n ≤ maxLen) (hls : ListAt w w.heap.size A ls) :
    Calls Try.prog 18 #[.slice A n c] w (JoinO w ls) := by
  unfold maxLen at hm
  obtain ⟨i0, hi, hz0, hz1, hz2⟩ := info_parts Try.infoU8j
  have HLS := Lib.hid hls
  clear hls
  by_cases h1000 : (1000 : Int) < (n : Int)
  · have hR : joinR ls = ([], 2) := joinR_long (by have := hn.out; omega)
    unfold JoinO
    rw [hR]
    go_enter Try.func18, Try.ntmps18
    go_wp2
    go_ret2
    exact ⟨none, 0, rfl, Bs.nil, Below.refl _ _, by simp, by omega⟩
  · have HM := Lib.hid hm
    clear hm
    go_enter Try.func18, Try.ntmps18
    go_wp2
    go_loopw [4, 5, 6] (fun s i v wr => ∃ (k : Nat) (A' : Option Addr) (c' m : Nat) (u : Value), u = v ∧ k ≤ n ∧ Hid (∀ p ∈ ls.take k, p.length ≤ 65535) ∧ i = .int .i64 k ∧ s = .slice A' m c' ∧ Hid (m = (joinL (ls.take k)).length) ∧ Own wr w.heap.size 5 A' c' (joinL (ls.take k)) ∧ Below w.heap.size w wr)
      (fun _ i _ _ => n - (intOf i).toNat)
    case atStart => exact ⟨0, none, 0, 0, _, rfl, Nat.zero_le _, Lib.hid (by simp), rfl, rfl, Lib.hid rfl, Own.nil, Below.refl _ _⟩
    case round =>
      obtain ⟨k, A', c', m, u, rfl, hk, hall, rfl, rfl, hml, own1, hbr⟩ := hrel
      by_cases hlt : k < n
      · have hkl : k < ls.length := by rw [← hn.out]; exact hlt
        obtain ⟨b, o, rfl, hblt, hcs⟩ := HLS.out (by omega)
        obtain ⟨Ai, ci, hcl, hbs⟩ := hcs k hkl
        have hbad := fun h => joinR_bad (ls := ls) hkl h
        have htk := take_snoc ls k hkl
        obtain ⟨l, hl⟩ : ∃ l, l = ls[k] := ⟨_, rfl⟩
        rw [← hl] at hcl hbs hbad htk
        have HT := Lib.hid htk
        have Hbad := Lib.hid hbad
        have hkI : (k : Int) < (n : Int) := by omega
        clear hl hcs htk hbad
        have HCL := Lib.hid hcl
        have hbs0 := hbs
        replace hcl := (hbr.cell (p := ⟨b, o + k, none⟩) hblt).trans hcl
        by_cases hbig : (65535 : Int) < (l.length : Int)
        · have hR : joinR ls = ([], 2) := Hbad.out (by omega)
          unfold JoinO
          rw [hR]
          go_wp2
          go_ret2
          exact ⟨none, 0, rfl, Bs.nil, hbr, by simp, by omega⟩
        · have hb1 : l.length ≤ 65535 := by omega
          have hall2 : Hid (∀ p ∈ ls.take (k + 1), p.length ≤ 65535) := Lib.hid (by
            rw [HT.out]; intro p hp
            rcases List.mem_append.1 hp with h | h
            · exact hall.out p h
            · simp at h; subst h; exact hb1)
          have hsz : Hid ((joinL (ls.take (k + 1))).length ≤ 65537 * 1000) := Lib.hid (by
            have h1 := joinL_short _ hall2.out
            have h2 : (ls.take (k + 1)).length ≤ 1000 := by rw [List.length_take]; omega
            have h3 := Nat.mul_le_mul_left 65537 h2
            omega)
          have hJ : joinL (ls.take (k + 1)) = (joinL (ls.take k) ++ [UInt8.ofNat (l.length / 256), UInt8.ofNat (l.length % 256)]) ++ l := by rw [HT.out, joinL_snoc]; simp [partL]
          have HJ := Lib.hid hJ
          have hsum : Hid ((joinL (ls.take k)).length + 2 + l.length ≤ 65537 * 1000) := Lib.hid (by
            have h1 := hsz.out; rw [hJ] at h1; simp at h1; omega)
          have e1 : (l.length : Int).tdiv 256 = (l.length : Int) / 256 := by rw [Int.tdiv_eq_ediv_of_nonneg (by omega)]
          have e2 : (l.length : Int).tmod 256 = (l.length : Int) % 256 := IntWalk.rem_in _ _ (by omega)
          clear hJ
          go_wp2_with (first
            | (at_builtin; refine wpList_append_bs _ rfl (.tmp 23) (.tmp 30) 23 rfl w.heap.size 5 i0 _ Try.underlying23 hi hz0 hz1 hz2 rfl A' c' (joinL (ls.take k)) m rfl hml.out (own1.alloc _) _ _ _ [UInt8.ofNat (l.length / 256), UInt8.ofNat (l.length % 256)] 2 rfl rfl (Bs.two (len_hi _ hb1) (len_lo _)) (by have := hsum.out; simp; omega) (by have := hbr.size; simp; omega) ?_; intro A3 c3 w3 ho3 hg3 _; have hb3 : Below w.heap.size w w3 := (hbr.alloc hbr.size _).grown hg3 (by have := hbr.size; simp; omega) (fun k hk => (own1.lt k hk).1); clear hcl; have hcl3 := (hb3.cell (p := ⟨b, o + k, none⟩) hblt).trans HCL.out)
            | (at_builtin; refine wpList_append_bs _ rfl (.tmp 32) (.tmp 36) 23 rfl w.heap.size 5 i0 _ Try.underlying23 hi hz0 hz1 hz2 rfl A3 c3 _ _ rfl (by have := hml.out; simp; omega) ho3 _ Ai ci l l.length rfl rfl (hbs0.below hb3) (by have := hsum.out; simp; omega) hb3.size ?_; intro A4 c4 w4 ho4 hg4 _))
          have hb4 := hb3.grown hg4 hb3.size (fun k hk => (ho3.lt k hk).1)
          rw [← HJ.out] at ho4
          go_roundw
          case rel => exact ⟨k + 1, A4, c4, m + 2 + l.length, _, rfl, by omega, hall2, by go_num, rfl, Lib.hid (by rw [HJ.out, hml.out]; simp; omega), ho4, hb4⟩
          case measure => simp [intOf]; omega
      · obtain rfl : k = n := by omega
        have hR : joinR ls = (joinL ls, 0) := joinR_ok (by have := hn.out; omega) (by have h1 := hall.out; rw [hn.out, List.take_length] at h1; exact h1)
        have hT : ls.take k = ls := by rw [hn.out, List.take_length]
        rw [hT] at own1 hml
        have hme := hml.out
        subst hme
        unfold JoinO
        rw [hR]
        go_wp2
        go_ret2
        exact ⟨A', c', by rw [hR]; rfl, by rw [hR]; exact own1.bs, hbr, by rw [hR]; exact own1.cap.1, own1.cap.2⟩
end Go.Proofs.Ytjeajglnoedkaaa
