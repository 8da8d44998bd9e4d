/- A name out of a text: the program's Parse. -/
import Derived.Test.YtmdogmmmjopibaaLb
import Derived.ScopeJumps
namespace Go.Proofs.Ytmdogmmmjopibaa
open Go.RowKit
set_option linter.unusedVariables false
set_option linter.unusedSimpArgs false

/-- A character of a text. -/
def chr (s : ByteArray) (k : Nat) : UInt8 := if h : k < s.size then s[k] else 0
theorem index_chr (s : ByteArray) (k : Nat) (hk : k < s.size) (w : World) :
    (Instr.index 9 (.string s) (.int .i64 (k : Int))).run Try.prog w = .ok (.int .u8 ((chr s k).toNat : Int)) w := by
  rw [run_index_string _ _ _ _ _ Try.underlying9, dif_pos (by omega)]
  simp [chr, hk]
/-- A text's bytes. -/
def sl (s : ByteArray) : List UInt8 := s.data.toList
theorem sl_length (s : ByteArray) : (sl s).length = s.size := by unfold sl; rw [Array.length_toList]; rfl
theorem sl_get (s : ByteArray) (k : Nat) (h : k < (sl s).length) : (sl s)[k] = chr s k := by
  have h' : k < s.size := by rw [sl_length] at h; exact h
  unfold chr
  rw [dif_pos h']
  simp [sl]
  rfl
theorem sl_eq (s : ByteArray) : (⟨(sl s).toArray⟩ : ByteArray) = s := by unfold sl; rw [Array.toArray_toList]

/-- Digits at a place of a text, as the program answers. -/
def DgRes (w : World) (d : List UInt8) (a : Nat) (e : Ending) (w' : World) : Prop := w = w' ∧
  ((numOk d ∧ e = .returned (.tuple #[.int .u32 (dv d), .int .i64 ((a + d.length : Nat)), .bool true])) ∨
   (¬ numOk d ∧ e = .returned (.tuple #[.int .u32 0, .int .i64 0, .bool false])))

theorem drop_chr (s : ByteArray) (a k : Nat) (h : k < (ds ((sl s).drop a)).length) : a + k < s.size ∧ (ds ((sl s).drop a))[k] = chr s (a + k) := by
  have h1 : k < ((sl s).drop a).length := Nat.lt_of_lt_of_le h (ds_le _)
  have h2 : a + k < (sl s).length := by rw [List.length_drop] at h1; omega
  refine ⟨by rw [← sl_length]; exact h2, ?_⟩
  rw [ds_get _ k h, List.getElem_drop, sl_get s (a + k) h2]
theorem drop_stop (s : ByteArray) (a : Nat) (h : a + (ds ((sl s).drop a)).length < s.size) : ¬ isN (chr s (a + (ds ((sl s).drop a)).length)) := by
  have h0 : a + (ds ((sl s).drop a)).length < (sl s).length := by rw [sl_length]; exact h
  have h1 : (ds ((sl s).drop a)).length < ((sl s).drop a).length := by rw [List.length_drop]; omega
  have := ds_stop _ h1
  rw [List.getElem_drop, sl_get s _ h0] at this
  exact this

set_option maxHeartbeats 1000000 in
theorem digits_any (s : ByteArray) (a : Nat) (w : World) (hs : s.size ≤ 1000000) (ha : a ≤ s.size) :
    Calls Try.prog 28 #[.string s, .int .i64 a] w (DgRes w (ds ((sl s).drop a)) a) := by
  obtain ⟨d, hd⟩ : ∃ d, d = ds ((sl s).drop a) := ⟨_, rfl⟩
  have hall := ds_all ((sl s).drop a)
  have hle := ds_le ((sl s).drop a)
  have hch := drop_chr s a
  have hst := drop_stop s a
  rw [← hd]
  rw [List.length_drop, sl_length] at hle
  rw [← hd] at hall hle hch hst
  have Hall := Lib.hid hall
  have Hch := Lib.hid hch
  have Hst := Lib.hid hst
  clear hall hch hst hd
  have hvt := dv_take_le d
  have Hvt := Lib.hid hvt
  clear hvt
  go_enter Try.func28, Try.ntmps28
  go_wp2
  go_loop [1, 8] (fun i v => ∃ k : Nat, k ≤ d.length ∧ i = .int .i64 ((a + k : Nat) : Int) ∧ v = .int .u64 (dv (d.take k)) ∧ dv (d.take k) ≤ 4294967295) (fun i _ => s.size - (intOf i).toNat)
  case atStart => exact ⟨0, by omega, rfl, rfl, by simp [dv]⟩
  case round =>
    obtain ⟨k, hk, rfl, rfl, hv⟩ := hrel
    by_cases hlt : k < d.length
    · obtain ⟨hks, hkc⟩ := Hch.out k hlt
      have hN := Hall.out _ (List.getElem_mem hlt)
      rw [hkc] at hN
      unfold isN at hN
      obtain ⟨hN1, hN2⟩ := hN
      have i1 := index_chr s (a + k) hks
      have hxl := (chr s (a + k)).toNat_lt
      have hsn : dv (d.take (k + 1)) = 10 * dv (d.take k) + ((chr s (a + k)).toNat - 48) := by rw [take_snoc d k hlt, dv_snoc, hkc]
      have hle1 := Hvt.out (k + 1)
      have Hsn := Lib.hid hsn
      generalize (chr s (a + k)).toNat = x at *
      generalize dv (d.take k) = V at *
      have t1 : decide ((a + k : Nat) < s.size) = true := by simp; omega
      clear hsn hkc
      push_cast at i1
      by_cases hbig : 10 * V + (x - 48) ≤ 4294967295
      · go_wp2
        go_round
        case rel => exact ⟨k + 1, by omega, by go_num, by rw [Hsn.out]; congr 1; omega, by rw [Hsn.out]; exact hbig⟩
        case measure => simp [intOf]; omega
      · go_wp2
        go_returns
        exact ⟨rfl, .inr ⟨fun h => by have := h.2.2; have := Hsn.out; omega, rfl⟩⟩
    · obtain rfl : k = d.length := by omega
      rw [List.take_length] at hv ⊢
      have hex : a + d.length = s.size ∨ (a + d.length < s.size ∧ (chr s (a + d.length)).toNat < 48) ∨ (a + d.length < s.size ∧ 57 < (chr s (a + d.length)).toNat) := by
        rcases Nat.lt_or_ge (a + d.length) s.size with h | h
        · have := Hst.out h
          unfold isN at this
          omega
        · omega
      have hds : d.length = 0 ∨ (1 < d.length ∧ (chr s a).toNat = 48) ∨ d.length = 1 ∨ (1 < d.length ∧ (chr s a).toNat ≠ 48) := by omega
      have hhead : 0 < d.length → d.head? = some (chr s a) ∧ a < s.size := fun h => by
        obtain ⟨h1, h2⟩ := Hch.out 0 h
        rw [Nat.add_zero] at h1 h2
        exact ⟨by rw [List.head?_eq_getElem?, List.getElem?_eq_getElem h, h2], h1⟩
      have Hhead := Lib.hid hhead
      have Hex := Lib.hid hex
      have Hds := Lib.hid hds
      clear hhead hex hds
      obtain ⟨V, hV⟩ : ∃ V, V = dv d := ⟨_, rfl⟩
      rw [← hV] at hv ⊢
      have HV := Lib.hid hV
      clear hV
      have hno : ∀ h : d.length = 0 ∨ (1 < d.length ∧ (chr s a).toNat = 48), ¬ numOk d := fun h hn => by
        rcases h with h | ⟨h, h2⟩
        · have := hn.1; omega
        · have h3 := (Hhead.out (by omega)).1
          have := hn.2.1 (by rw [h3]; congr 1; exact UInt8.toNat_inj.1 h2)
          omega
      have hyes : ∀ h : d.length = 1 ∨ (1 < d.length ∧ (chr s a).toNat ≠ 48), numOk d := fun h => by
        refine ⟨by omega, fun h2 => ?_, by rw [← HV.out]; exact hv⟩
        rcases h with h | ⟨h, h4⟩
        · exact h
        · rw [(Hhead.out (by omega)).1] at h2
          injection h2 with h2
          rw [h2] at h4
          exact absurd rfl h4
      have hpost : ∀ e, ((numOk d ∧ e = .returned (.tuple #[.int .u32 V, .int .i64 ((a + d.length : Nat)), .bool true])) ∨ (¬ numOk d ∧ e = .returned (.tuple #[.int .u32 0, .int .i64 0, .bool false]))) → DgRes w d a e w := fun e h => ⟨rfl, by rw [← HV.out]; exact h⟩
      have Hno := Lib.hid hno
      have Hyes := Lib.hid hyes
      have Hpost := Lib.hid hpost
      have hhs : 0 < d.length → a < s.size := fun h => (Hhead.out h).2
      have Hhs := Lib.hid hhs
      clear hno hyes hpost hhs Hhead HV Hall Hch Hst Hvt hlt hk
      generalize DgRes w d a = post at *
      generalize numOk d = ok at *
      generalize d.length = D at *
      rcases Hds.out with h0 | ⟨h1, h48⟩ | h1 | ⟨h1, h48⟩
      · subst h0
        have H1 := Hno.out (.inl rfl)
        clear Hds Hno Hyes
        rcases Hex.out with hx | ⟨hx, hc⟩ | ⟨hx, hc⟩
        · skip
          have Hx := Lib.hid hx
          have hx' : s.size ≤ a := by omega
          clear hx
          go_wp2
          try go_returns
          exact Hpost.out _ (.inr ⟨H1, rfl⟩)
        · skip
          simp only [Nat.add_zero] at hx hc
          have i1 := index_chr s a hx
          try push_cast at i1
          generalize (chr s a).toNat = x at i1 hc
          go_wp2
          try go_returns
          exact Hpost.out _ (.inr ⟨H1, rfl⟩)
        · skip
          simp only [Nat.add_zero] at hx hc
          have i1 := index_chr s a hx
          try push_cast at i1
          generalize (chr s a).toNat = x at i1 hc
          go_wp2
          try go_returns
          exact Hpost.out _ (.inr ⟨H1, rfl⟩)
      · have H1 := Hno.out (.inr ⟨h1, h48⟩)
        have i0 := index_chr s a (Hhs.out (by omega))
        have h48' : ((chr s a).toNat : Int) = 48 := by omega
        rw [h48'] at i0
        clear Hds Hno Hyes h48 h48'
        rcases Hex.out with hx | ⟨hx, hc⟩ | ⟨hx, hc⟩
        · skip
          have Hx := Lib.hid hx
          have hx' : s.size ≤ a + D := by omega
          clear hx
          go_wp2
          try go_returns
          exact Hpost.out _ (.inr ⟨H1, rfl⟩)
        · skip
          have i1 := index_chr s (a + D) hx
          try push_cast at i1
          generalize (chr s (a + D)).toNat = x at i1 hc
          go_wp2
          try go_returns
          exact Hpost.out _ (.inr ⟨H1, rfl⟩)
        · skip
          have i1 := index_chr s (a + D) hx
          try push_cast at i1
          generalize (chr s (a + D)).toNat = x at i1 hc
          go_wp2
          try go_returns
          exact Hpost.out _ (.inr ⟨H1, rfl⟩)
      · subst h1
        have H1 := Hyes.out (.inl rfl)
        clear Hds Hno Hyes
        rcases Hex.out with hx | ⟨hx, hc⟩ | ⟨hx, hc⟩
        · skip
          have Hx := Lib.hid hx
          have hx' : s.size ≤ a + 1 := by omega
          clear hx
          go_wp2
          try go_returns
          exact Hpost.out _ (.inl ⟨H1, rfl⟩)
        · skip
          have i1 := index_chr s (a + 1) hx
          try push_cast at i1
          generalize (chr s (a + 1)).toNat = x at i1 hc
          go_wp2
          try go_returns
          exact Hpost.out _ (.inl ⟨H1, rfl⟩)
        · skip
          have i1 := index_chr s (a + 1) hx
          try push_cast at i1
          generalize (chr s (a + 1)).toNat = x at i1 hc
          go_wp2
          try go_returns
          exact Hpost.out _ (.inl ⟨H1, rfl⟩)
      · have H1 := Hyes.out (.inr ⟨h1, h48⟩)
        have i0 := index_chr s a (Hhs.out (by omega))
        have h48' : (((chr s a).toNat : Int) == 48) = false := beq_eq_false_iff_ne.2 (by omega)
        generalize (chr s a).toNat = y at i0 h48'
        clear Hds Hno Hyes h48
        rcases Hex.out with hx | ⟨hx, hc⟩ | ⟨hx, hc⟩
        · skip
          have Hx := Lib.hid hx
          have hx' : s.size ≤ a + D := by omega
          clear hx
          go_wp2
          try go_returns
          exact Hpost.out _ (.inl ⟨H1, rfl⟩)
        · skip
          have i1 := index_chr s (a + D) hx
          try push_cast at i1
          generalize (chr s (a + D)).toNat = x at i1 hc
          go_wp2
          try go_returns
          exact Hpost.out _ (.inl ⟨H1, rfl⟩)
        · skip
          have i1 := index_chr s (a + D) hx
          try push_cast at i1
          generalize (chr s (a + D)).toNat = x at i1 hc
          go_wp2
          try go_returns
          exact Hpost.out _ (.inl ⟨H1, rfl⟩)
end Go.Proofs.Ytmdogmmmjopibaa
