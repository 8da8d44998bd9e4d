/- Layer 1: lists of texts, joined: the program's Join. -/
import Derived.Test.YtjeajglnoedkaaaJa
namespace Go.Proofs.Ytjeajglnoedkaaa
open Go.RowKit
set_option linter.unusedVariables false
set_option linter.unusedSimpArgs false

/-- Is a part too long? -/
def bigL (ls : List (List UInt8)) : Bool := ls.any fun p => decide (65535 < p.length)
theorem bigL_take {ls : List (List UInt8)} {k : Nat} (hk : k < ls.length) : bigL (ls.take (k + 1)) = (bigL (ls.take k) || decide (65535 < ls[k].length)) := by
  unfold bigL; rw [take_snoc ls k hk, List.any_append]; simp only [List.any_cons, List.any_nil, Bool.or_false]
theorem bigL_false {ls : List (List UInt8)} (h : bigL ls = false) : ∀ p ∈ ls, p.length ≤ 65535 := by
  simp [bigL] at h; exact h
theorem bigL_true {ls : List (List UInt8)} (h : bigL ls = true) : joinR ls = ([], 2) := by
  simp [bigL] at h
  obtain ⟨p, hp, h1⟩ := h
  unfold joinR; rw [if_neg]; rintro ⟨_, h2⟩; have := h2 p hp; omega

set_option maxHeartbeats 400000 in
theorem longer1_any (A : Option Addr) (n c g : Nat) (w : World) (hc : w.cell? ⟨g, 0, none⟩ = some (.int .i64 65535)) :
    Calls Try.prog 40 #[.slice A n c, .pointer (some ⟨g, 0, none⟩)] w fun e w' => e = .returned (.bool (decide ((65535 : Int) < (n : Int)))) ∧ w = w' := by
  go_enter Try.func40, Try.ntmps40
  go_wp2
  go_ret
  exact ⟨rfl, rfl⟩

set_option maxHeartbeats 400000 in
theorem longer_any (w : World) :
    Calls Try.prog 32 #[.int .i64 65535] w fun e w' => e = .returned (.func (.func 40) #[] #[.pointer (some ⟨w.heap.size, 0, none⟩)]) ∧ w'.cell? ⟨w.heap.size, 0, none⟩ = some (.int .i64 65535) ∧ Below w.heap.size w w' := by
  go_enter Try.func32, Try.ntmps32
  go_wp2
  go_ret
  refine ⟨rfl, ?_, ba _ _⟩
  have := (Blk.new w 3 #[.int .i64 65535]).cell 0
  rw [this]; rfl

set_option maxHeartbeats 1000000 in
theorem indexf_any (A : Option Addr) (ls : List (List UInt8)) (n c g : Nat) (w : World) (hn : Hid (n = ls.length)) (hm : n ≤ 1000) (hls : ListAt w w.heap.size A ls) (hc : w.cell? ⟨g, 0, none⟩ = some (.int .i64 65535)) :
    Calls Try.prog 39 #[.slice A n c, .func (.func 40) #[] #[.pointer (some ⟨g, 0, none⟩)]] w fun e w' => (∃ r : Int, e = .returned (.int .i64 r) ∧ Hid (decide (0 ≤ r) = bigL ls)) ∧ w = w' := by
  have HLS := Lib.hid hls
  have HM := Lib.hid hm
  clear hls
  go_enter Try.func39, Try.ntmps39
  go_wp2
  go_loopw [5, 8] (fun v i wr => ∃ (k : Nat) (u : Value), u = v ∧ k ≤ n ∧ i = .int .i64 k ∧ Hid (bigL (ls.take k) = false) ∧ wr = w) (fun _ i _ => n - (intOf i).toNat)
  case atStart => exact ⟨0, _, rfl, Nat.zero_le _, rfl, Lib.hid (by simp [bigL]), rfl⟩
  case round =>
    obtain ⟨k, u, rfl, hk, rfl, hbig, hww⟩ := hrel
    have hww' := hww.symm
    subst hww'
    clear hww
    by_cases hlt : k < n
    · have hkl : k < ls.length := by rw [← hn.out]; exact hlt
      obtain ⟨b, o, rfl, hblt, hcs⟩ := HLS.out (by omega)
      obtain ⟨Ai, ci, hcl, hbs⟩ := hcs k hkl
      have htk := bigL_take hkl
      rw [hbig.out, Bool.false_or] at htk
      obtain ⟨l, hl⟩ : ∃ l, l = ls[k] := ⟨_, rfl⟩
      rw [← hl] at hcl hbs htk
      have HT := Lib.hid htk
      have hkI : (k : Int) < (n : Int) := by omega
      clear hl hcs htk
      go_wp2_with fail
      refine (longer1_any Ai l.length ci g _ hc).mono ?_
      rintro e w1 ⟨rfl, rfl⟩
      by_cases hb : (65535 : Int) < (l.length : Int)
      · rw [decide_eq_true hb]
        go_wp2
        go_ret
        refine ⟨⟨_, rfl, Lib.hid ?_⟩, rfl⟩
        rw [decide_eq_true (by omega)] at HT
        have h1 : bigL ls = true := by
          have h2 := HT.out
          unfold bigL at h2 ⊢
          rw [List.any_eq_true] at h2 ⊢
          obtain ⟨p, hp, hq⟩ := h2
          exact ⟨p, List.mem_of_mem_take hp, hq⟩
        rw [h1]; simp
      · rw [decide_eq_false (by omega)] at HT
        rw [decide_eq_false hb]
        go_wp2
        go_roundw
        case rel => exact ⟨k + 1, _, rfl, by omega, by go_num, HT, by first | trivial | rfl⟩
        case measure => simp [intOf]; omega
    · obtain rfl : k = n := by omega
      go_wp2
      go_ret
      refine ⟨⟨-1, rfl, Lib.hid ?_⟩, rfl⟩
      have h1 := hbig.out
      rw [hn.out, List.take_length] at h1
      rw [h1]; simp

set_option maxHeartbeats 400000 in
theorem containsf_any (A : Option Addr) (ls : List (List UInt8)) (n c g : Nat) (w : World) (hn : Hid (n = ls.length)) (hm : n ≤ 1000) (hls : ListAt w w.heap.size A ls) (hc : w.cell? ⟨g, 0, none⟩ = some (.int .i64 65535)) :
    Calls Try.prog 31 #[.slice A n c, .func (.func 40) #[] #[.pointer (some ⟨g, 0, none⟩)]] w fun e w' => e = .returned (.bool (bigL ls)) ∧ w = w' := by
  have hI := indexf_any A ls n c g w hn hm hls hc
  obtain ⟨R, hR⟩ : ∃ R, R = bigL ls := ⟨_, rfl⟩
  rw [← hR] at hI ⊢
  clear hR
  go_enter Try.func31, Try.ntmps31
  go_wp2_with fail
  refine hI.mono ?_
  rintro e w1 ⟨⟨r, rfl, hr⟩, rfl⟩
  have hr2 := hr.out
  clear hI hr
  cases R
  · have h0 : ¬ 0 ≤ r := of_decide_eq_false hr2
    clear hr2
    go_wp2
    go_ret
    exact ⟨by first | rfl | simp [h0], rfl⟩
  · have h0 : 0 ≤ r := of_decide_eq_true hr2
    clear hr2
    go_wp2
    go_ret
    exact ⟨by first | rfl | simp [h0], rfl⟩
end Go.Proofs.Ytjeajglnoedkaaa
