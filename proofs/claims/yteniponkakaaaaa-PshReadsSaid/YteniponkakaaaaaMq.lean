/- Layer 6: message for any variable; bytes.Equal. -/
import Derived.Test.YteniponkakaaaaaMp
import Derived.Test.YteniponkakaaaaaMg
namespace Go.Proofs.Yteniponkakaaaaa
open Go.RowKit
set_option linter.unusedVariables false
set_option linter.unusedSimpArgs false

/-- What a variable seems to say. -/
def messageM (id : Nat) (D : List UInt8) : MsgV :=
  if (1 ≤ (id : Int) - 4864 ∧ (id : Int) - 4864 ≤ 11) ∧ D.length = 10 then ⟨(id : Int) - 4864, (rdL (D.take 9)).1.1, (rdL (D.take 9)).1.2.1, (rdL (D.take 9)).1.2.2, decide ((id : Int) - 4864 = 9) && (((D.getD 9 0).toNat : Int) == 1), 0, 0⟩
  else if (id : Int) - 4864 = 12 ∧ D.length = 8 then ⟨12, 0, 0, 0, false, num (D.take 4), num (D.drop 4)⟩
  else ⟨(id : Int) - 4864, 0, 0, 0, false, 0, 0⟩

theorem fv_luw (k : Int) (h : 1 ≤ k ∧ k ≤ 11) : fv (fKn k) (fLu k) (fMi k) (fNa k) = fv true true (decide (k = 9)) false := by
  unfold fKn fLu fMi fNa
  rw [decide_eq_true h.1, decide_eq_true (show k ≤ 13 by omega), decide_eq_true h.2, decide_eq_false (show ¬ k = 12 by omega)]
  rfl
theorem fv_12 : fv (fKn 12) (fLu 12) (fMi 12) (fNa 12) = fv true false false true := rfl
theorem fv_13 : fv (fKn 13) (fLu 13) (fMi 13) (fNa 13) = fv true false false false := rfl

theorem message_any (id : Nat) (A : Option Addr) (D : List UInt8) (c : Nat) (w : World) (h1 : id < 65536) (hc : D.length ≤ c) (hcm : c ≤ 9223372036854775807) (hbs : Bs w w.heap.size A D) : Calls Try.prog 27 #[.agg #[.int .i64 id, .slice A D.length c]] w fun e w' => e = .returned (messageM id D).val ∧ Below w.heap.size w w' := by
  by_cases hl : 1 ≤ (id : Int) - 4864 ∧ (id : Int) - 4864 ≤ 11
  · by_cases h10 : D.length = 10
    · unfold messageM
      rw [if_pos ⟨hl, h10⟩]
      have hfl := fv_luw _ hl
      rcases h9 : decide ((id : Int) - 4864 = 9) with _ | _
      · rw [h9] at hfl
        have := message_luw_false id _ A D c w (by omega) (by omega) rfl hfl h10 (by omega) hcm hbs _ (Lib.hid rfl) _ (Lib.hid rfl)
        rw [h10]
        exact this
      · rw [h9] at hfl
        have := message_luw_true id _ A D c w (by omega) (by omega) rfl hfl h10 (by omega) hcm hbs _ (Lib.hid rfl) _ (Lib.hid rfl)
        rw [h10]
        exact this
    · unfold messageM
      rw [if_neg (by omega), if_neg (by omega)]
      exact message_l id _ A _ c w (by omega) (by omega) rfl _ (fv_luw _ hl) h10
  · by_cases h12 : (id : Int) - 4864 = 12
    · by_cases h8 : D.length = 8
      · unfold messageM
        rw [if_neg (by omega), if_pos ⟨h12, h8⟩, h8]
        exact message_names id 12 A D c w (by omega) (by omega) h12.symm fv_12 h8 (by omega) hbs
      · unfold messageM
        rw [if_neg (by omega), if_neg (by omega)]
        exact message_n id _ A _ c w (by omega) (by omega) rfl (by rw [h12]; exact fv_12) h8
    · unfold messageM
      rw [if_neg (by omega), if_neg (by omega)]
      by_cases h13 : (id : Int) - 4864 = 13
      · exact message_13 id _ A _ c w (by omega) (by omega) rfl (by rw [h13]; exact fv_13)
      · exact message_none id A _ c w (by omega) (by omega) (by omega)

theorem putL_four (n : Nat) : ∃ a b c d, putL n 4 = [a, b, c, d] := ⟨_, _, _, _, rfl⟩
theorem okM_mx (m : MsgV) (h : okM m = true) (hk : m.k ≤ 11) : m.mx = true → m.k = 9 := by
  intro hx
  unfold okM at h
  split at h
  · cases h
  · first | rw [if_pos hk, hx] at h | rw [hx] at h
    simp only [Bool.and_eq_true, Bool.or_eq_true, beq_iff_eq] at h
    rcases h.2.1 with h | h
    · exact h
    · cases h
/-- What is written says what it was. -/
theorem messageM_data (m : MsgV) (hm : MsgOk m) (h : okM m = true) : messageM (4864 + m.k).toNat (dataM m) = m := by
  have hk := okM_kind m h
  have hr := okM_rest m h
  have hx := okM_mx m h
  obtain ⟨_, _, _, _, ha, hq, hmi, hyo⟩ := hm
  clear h
  obtain ⟨k, u, a, q, mx, mi, yo⟩ := m
  simp only at *
  have hid : (((4864 + k).toNat : Nat) : Int) - 4864 = k := by omega
  have na : num (putL a 4) = a := by rw [pnum_putL]; exact Nat.mod_eq_of_lt ha
  have nq : num (putL q 4) = q := by rw [pnum_putL]; exact Nat.mod_eq_of_lt hq
  have nmi : num (putL mi 4) = mi := by rw [pnum_putL]; exact Nat.mod_eq_of_lt hmi
  have nyo : num (putL yo 4) = yo := by rw [pnum_putL]; exact Nat.mod_eq_of_lt hyo
  unfold messageM dataM
  rw [hid]
  by_cases h11 : k ≤ 11
  · simp only [if_pos h11]
    obtain ⟨a1, a2, a3, a4, ea⟩ := putL_four a
    obtain ⟨q1, q2, q3, q4, eq⟩ := putL_four q
    obtain ⟨e1, e2⟩ := hr.1 h11
    have hok := hk.2.2 h11
    have hu : 0 ≤ u ∧ u ≤ 5 := by
      have hok' := hok
      unfold okL at hok'
      simp only [Bool.and_eq_true, decide_eq_true_eq] at hok'
      omega
    have hun : ((UInt8.ofNat u.toNat).toNat : Int) = u := by simp only [UInt8.toNat_ofNat']; omega
    rw [ea] at na
    rw [eq] at nq
    rw [ea, eq, if_pos ⟨⟨hk.1, h11⟩, rfl⟩]
    have hrd : rdL (List.take 9 (UInt8.ofNat u.toNat :: ([a1, a2, a3, a4] ++ [q1, q2, q3, q4]) ++ [if mx = true then 1 else 0])) = ((u, a, q), 0) := by
      show rdL [UInt8.ofNat u.toNat, a1, a2, a3, a4, q1, q2, q3, q4] = _
      unfold rdL
      rw [if_neg (by simp), if_neg (by simp)]
      show (if okL ((UInt8.ofNat u.toNat).toNat : Int) (num [q1, q2, q3, q4]) = true then ((((UInt8.ofNat u.toNat).toNat : Int), num [a1, a2, a3, a4], num [q1, q2, q3, q4]), (0 : Int)) else ((0, 0, 0), 50)) = _
      rw [hun, na, nq, if_pos hok]
    rw [hrd, e1, e2]
    have hmx : (decide (k = 9) && ((((UInt8.ofNat u.toNat :: ([a1, a2, a3, a4] ++ [q1, q2, q3, q4]) ++ [if mx = true then 1 else 0]).getD 9 0).toNat : Int) == 1)) = mx := by
      show (decide (k = 9) && ((((if mx = true then 1 else 0 : UInt8)).toNat : Int) == 1)) = mx
      cases mx with
      | false => simp
      | true => rw [decide_eq_true (hx h11 rfl)]; rfl
    rw [hmx]
  · obtain ⟨e1, e2, e3, e4⟩ := hr.2.1 (by omega)
    subst e1 e2 e3 e4
    simp only [if_neg h11]
    by_cases h12 : k = 12
    · subst h12
      obtain ⟨a1, a2, a3, a4, ea⟩ := putL_four mi
      obtain ⟨q1, q2, q3, q4, eq⟩ := putL_four yo
      rw [ea] at nmi
      rw [eq] at nyo
      rw [if_pos rfl, ea, eq, if_neg (by simp), if_pos ⟨rfl, rfl⟩]
      show (⟨12, 0, 0, 0, false, num [a1, a2, a3, a4], num [q1, q2, q3, q4]⟩ : MsgV) = _
      rw [nmi, nyo]
    · obtain ⟨e5, e6⟩ := hr.2.2 (by omega)
      subst e5 e6
      rw [if_neg h12, if_neg (by simp), if_neg (by simp)]

theorem equal_same (A1 A2 : Option Addr) (l : List UInt8) (n c1 c2 : Nat) (w : World) (hn : Hid (n = l.length)) (h1 : Bs w w.heap.size A1 l) (h2 : Bs w w.heap.size A2 l) : Calls Try.prog 28 #[.slice A1 n c1, .slice A2 n c2] w fun e w' => e = .returned (.bool true) ∧ w = w' := by
  have cv1 : (convert 27 9 (.slice A1 n c1)).run Try.prog w = .ok (.string ⟨l.toArray⟩) w := by rw [hn.out]; exact conv_bytes Try.underlying27 Try.underlying5 Try.underlying9 h1 _
  have cv2 : (convert 27 9 (.slice A2 n c2)).run Try.prog w = .ok (.string ⟨l.toArray⟩) w := by rw [hn.out]; exact conv_bytes Try.underlying27 Try.underlying5 Try.underlying9 h2 _
  clear h1 h2
  go_enter Try.func28, Try.ntmps28
  go_wp2
  go_ret
  exact ⟨by simp, rfl⟩
theorem equal_diff (A1 A2 : Option Addr) (l m : List UInt8) (n1 n2 c1 c2 : Nat) (w : World) (hn1 : Hid (n1 = l.length)) (hn2 : Hid (n2 = m.length)) (h1 : Bs w w.heap.size A1 l) (h2 : Bs w w.heap.size A2 m) (hne : Hid (l ≠ m)) : Calls Try.prog 28 #[.slice A1 n1 c1, .slice A2 n2 c2] w fun e w' => e = .returned (.bool false) ∧ w = w' := by
  have cv1 : (convert 27 9 (.slice A1 n1 c1)).run Try.prog w = .ok (.string ⟨l.toArray⟩) w := by rw [hn1.out]; exact conv_bytes Try.underlying27 Try.underlying5 Try.underlying9 h1 _
  have cv2 : (convert 27 9 (.slice A2 n2 c2)).run Try.prog w = .ok (.string ⟨m.toArray⟩) w := by rw [hn2.out]; exact conv_bytes Try.underlying27 Try.underlying5 Try.underlying9 h2 _
  clear h1 h2
  go_enter Try.func28, Try.ntmps28
  go_wp2
  go_ret
  exact ⟨by simp [hne.out], rfl⟩
end Go.Proofs.Yteniponkakaaaaa
