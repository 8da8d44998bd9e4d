/- Layer 8: what is taken was sent. -/
import Derived.Test.YtkfmhkpmlncjgaaPg
namespace Go.Proofs.Ytkfmhkpmlncjgaa
open Go.RowKit
set_option linter.unusedVariables false
set_option linter.unusedSimpArgs false

theorem double_full {w : World} {g : Nat} {ls : List (List UInt8)} {cs : Array Value} (h : PathAt w g ls cs) (hf : ls.length = 256) (i : Nat) (hi : i < ls.length) : Calls Try.prog 15 #[(.pointer (some ⟨g, 0, none⟩)), .int .i64 i] w fun e w' => e = .returned (.int .i64 5) ∧ w = w' := by
  have hfi := find_any h i true
  rw [show fd ls.length i = 0 from if_pos ⟨by omega, by omega⟩] at hfi
  obtain ⟨A, c, hcs, hd⟩ := h.at_ i hi
  have hcl := h.blk.cell i
  rw [hcs] at hcl
  have hp := put_full h hf (.slice A (ls[i]).length c)
  have h256 : (i : Int) < 256 := by omega
  clear h hcs hd
  go_enter Try.func15, Try.ntmps15
  go_wp2_with fail
  refine hfi.mono ?_
  rintro e w1 ⟨rfl, rfl⟩
  go_wp2_with fail
  refine hp.mono ?_
  rintro e w1 ⟨rfl, rfl⟩
  go_wp2
  go_ret
  exact ⟨rfl, rfl⟩
theorem PathAt.kept {w w' : World} {g : Nat} {ls : List (List UInt8)} {cs : Array Value} {row : Option Nat} {t : TypeId} (h : PathAt w g ls cs) (hg : w.grownBy w' row) (hr : ∀ r, row = some r → ∃ cs fz, w.heap[r]? = some (.cells cs t fz)) (h1 : t ≠ 46) (h2 : t ≠ 5) : PathAt w' g ls cs := by
  have ne : ∀ (b : Nat) (t' : TypeId) cs fz, w.heap[b]? = some (.cells cs t' fz) → t ≠ t' → some b ≠ row := by
    intro b t' cs fz hb hne e
    obtain ⟨cs2, fz2, h3⟩ := hr b e.symm
    rw [hb] at h3
    injection h3 with h3
    injection h3 with _ h4
    exact hne h4.symm
  refine ⟨h.blk.kept hg (ne g _ _ _ h.blk h1), h.size, h.cnt, h.len, h.sm, fun i hi => ?_⟩
  obtain ⟨A, c, e1, e2⟩ := h.at_ i hi
  refine ⟨A, c, e1, fun hn => ?_⟩
  obtain ⟨b, o, e, q1, q2, ⟨cq, fq, hq⟩, q3⟩ := e2 hn
  have hne := ne b _ _ _ hq h2
  exact ⟨b, o, e, q1, Nat.lt_of_lt_of_le q2 hg.size, ⟨cq, fq, (hg.block b q2 hne).trans hq⟩, fun j hj => (cell_grown hg q2 hne).trans (q3 j hj)⟩
/-- What was sent: a list of its own that points to the given bytes. -/
def SentAt (w0 w : World) (A : Option Addr) (c : Nat) (T : List (List UInt8)) : Prop :=
  ∃ vs : List Value, w.ownsRow (w0.heap.size + 1) 29 1 (.slice A T.length c) T.length vs ∧ ∀ i, (h : i < T.length) → ∃ Ai ci, vs[i]? = some (.slice Ai (T[i]'h).length ci) ∧ Bs w0 w0.heap.size Ai (T[i]'h)
theorem SentAt.nil (w0 w : World) : SentAt w0 w none 0 [] := ⟨[], World.ownsRow_nil w _ _ _, fun i h => absurd h (by simp)⟩
theorem SentAt.kept {w0 w w' : World} {A : Option Addr} {c : Nat} {T : List (List UInt8)} (h : SentAt w0 w A c T) (hg : w.grownBy w' (some w0.heap.size)) : SentAt w0 w' A c T := by
  obtain ⟨vs, h1, h2⟩ := h
  refine ⟨vs, h1.kept hg ?_, h2⟩
  rcases hb : (Value.slice A T.length c).ownBlock with _ | k
  · exact .inl rfl
  · refine .inr (fun e => ?_)
    have := (h1.lt k hb).1
    cases e
    omega
theorem SentAt.bt {w0 w w' : World} {A : Option Addr} {c : Nat} {T : List (List UInt8)} (h : SentAt w0 w A c T) (hb : Below w.heap.size w w') : SentAt w0 w' A c T := h.kept (grown_of hb _)
theorem SentAt.list {w0 w : World} {A : Option Addr} {c : Nat} {T : List (List UInt8)} (h : SentAt w0 w A c T) (hb : Below w0.heap.size w0 w) : ListAt w w.heap.size A T := fun hn => by
  obtain ⟨vs, h1, h2⟩ := h
  obtain ⟨g, cap, e⟩ := Joins.ownsRow_form h1 hn
  cases e
  have hlt := (h1.lt g rfl).2
  refine ⟨g, 0, rfl, hlt, fun i hi => ?_⟩
  obtain ⟨Ai, ci, h3, h4⟩ := h2 i hi
  exact ⟨Ai, ci, by rw [Nat.zero_add, World.ownsRow.cellAt h1 i (by omega), h3], h4.bt hb⟩
theorem wpList_append_run {P : Program} {w : World} {ops : Array Oper} {rest : List Oper} {o : Oper} {a : Act} {Q : Exit → Act → World → Prop} (hgd : o.guard = none) (s x : Operand) (t : TypeId)
    (ho : o.op = .call { callee := .builtin .append, args := #[s, x], argTypes := #[t, t] }) (sv xv v : Value) (w' : World) (hs : a.eval s = sv) (hx : a.eval x = xv) (hrun : (Builtin.append_ #[t, t] o.type #[sv, xv]).run P w = .ok v w') (h : wpList P ops Q rest (a.put o.dst v) w') :
    wpList P ops Q (o :: rest) a w := by
  refine wpList_plain hgd fun _ hK => ?_
  unfold Oper.wp execOp
  simp only [ho, resolve, invoke, builtin, Sem.run_bind, Sem.run_pure, Result.andThen_ok, List.map_toArray, List.map_cons, List.map_nil, hs, hx, hrun]
  exact hK _ _ h
/-- One more was sent. -/
theorem sent_more {w0 w : World} {A : Option Addr} {c m : Nat} {T ls : List (List UInt8)} {cs : Array Value} (h : SentAt w0 w A c T) (hm : m = T.length) (hm2 : m ≤ 1000) (hP : PathAt w w0.heap.size ls cs) (hb : Below w0.heap.size w0 w) (Ab : Option Addr) (bs : List UInt8) (cb : Nat) (hbs : Bs w0 w0.heap.size Ab bs) :
    ∃ A2 c2 w', (Builtin.append_ #[26, 26] 26 #[.slice A m c, .slice (some ⟨w.heap.size, 0, none⟩) 1 1]).run Try.prog (w.alloc (.cells #[.slice Ab bs.length cb] 29)) = .ok (.slice A2 (m + 1) c2) w' ∧ SentAt w0 w' A2 c2 (T ++ [bs]) ∧ PathAt w' w0.heap.size ls cs ∧ Below w0.heap.size w0 w' := by
  subst hm
  obtain ⟨i0, hi, hz0, hz1, hz2⟩ := info_parts Try.infoSl
  have hba := ba w (.cells #[.slice Ab bs.length cb] 29)
  have P2 := hP.bt hba
  have hb2 := bt hb hba
  have hsz : w0.heap.size < w.heap.size := hP.blk.lt
  obtain ⟨vs, h1, h2⟩ := h.bt hba
  have hvl := h1.1
  rw [Nat.mul_one] at hvl
  have hcell : (w.alloc (.cells #[.slice Ab bs.length cb] 29)).cell? ⟨w.heap.size, 0, none⟩ = some (.slice Ab bs.length cb) := (Blk.new w 29 #[.slice Ab bs.length cb]).cell 0
  obtain ⟨v', w', hrun, hown, hgr, _, _⟩ := run_append_own_at (P := Try.prog) (w.alloc (.cells #[.slice Ab bs.length cb] 29)) (w0.heap.size + 1) 26 26 29 i0 (.slice none 0 0) 1 24 Try.underlying26 hi hz0 hz1 hz2 rfl (by omega) (.slice A T.length c) T.length vs h1 ⟨w.heap.size, 0, none⟩ 1 1 [.slice Ab bs.length cb] rfl
    (fun j u hu => by
      match j, hu with
      | 0, hu => cases hu; exact hcell)
    (fun u hu => by simp at hu; subst hu; rfl) (by simp only [maxLen]; omega) (by omega) (by simp; omega)
  obtain ⟨g2, c2, rfl⟩ := Joins.ownsRow_form hown (by omega)
  refine ⟨some ⟨g2, 0, none⟩, c2, w', hrun, ⟨vs ++ [.slice Ab bs.length cb], ?_, fun i hi2 => ?_⟩, P2.kept hgr (Lib.ownsRow_kind h1) (by decide) (by decide), ?_⟩
  · rw [List.length_append]
    exact hown
  · rcases Nat.lt_or_ge i T.length with h3 | h3
    · obtain ⟨Ai, ci, h4, h5⟩ := h2 i h3
      refine ⟨Ai, ci, ?_, ?_⟩
      · rw [List.getElem?_append_left (by omega), h4, List.getElem_append_left h3]
      · rw [List.getElem_append_left h3]; exact h5
    · rw [List.length_append, List.length_singleton] at hi2
      obtain rfl : i = T.length := by omega
      refine ⟨Ab, cb, ?_, ?_⟩
      · rw [List.getElem?_append_right (by omega), hvl]; simp
      · simpa using hbs
  · refine hb2.grown hgr hb2.size (fun k e => ?_)
    have := (h1.lt k e).1
    omega

set_option maxRecDepth 100000 in
set_option maxHeartbeats 8000000 in
theorem sent_all (A : Option Addr) (ops : List OpV) (n c : Nat) (hn : Hid (n = ops.length)) (w : World) (hls : OpsAt w A ops) : Calls Try.prog 5 #[.slice A n c] w fun e w' => e = .returned (.bool true) ∧ Below w.heap.size w w' := by
  have HLS := Lib.hid hls
  have hmax : n ≤ maxLen := by rw [hn.out]; exact hls.1
  unfold maxLen at hmax
  clear hls
  go_enter Try.func5, Try.ntmps5
  go_wp2_with fail
  refine (new_any _).mono ?_
  intro e w1 hnew
  obtain ⟨cs, rfl, P1, hb1⟩ := PathAt.new hnew
  clear hnew
  go_wp2
  go_loopw [4, 5] (fun s i wr => ∃ (k : Nat) (T ls : List (List UInt8)) (cs : Array Value) (As : Option Addr) (ca m : Nat), k ≤ n ∧ k ≤ 100 ∧ i = .int .i64 k ∧ s = .slice As m ca ∧ Hid (m = T.length ∧ m ≤ k) ∧ Hid (∀ x ∈ ls, x ∈ T) ∧ SentAt w wr As ca T ∧ PathAt wr w.heap.size ls cs ∧ Below w.heap.size w wr) (fun s i _ => n - (intOf i).toNat)
  case atStart => exact ⟨0, [], [], cs, none, 0, 0, Nat.zero_le _, by omega, rfl, rfl, Lib.hid ⟨rfl, Nat.le_refl _⟩, Lib.hid (by simp), SentAt.nil _ _, P1, hb1⟩
  case round =>
    obtain ⟨k, T, ls, cs1, As, ca, m, hk, hk1, rfl, rfl, hm, hin, hS, P, hbr⟩ := hrel
    clear P1 hb1
    by_cases hlt : k < n
    · by_cases hlt2 : k < 100
      · have hkl : k < ops.length := by rw [← hn.out]; exact hlt
        have hok0 := HLS.out.2.1 _ (List.getElem_mem hkl)
        obtain ⟨b, o, rfl, hblt, hcs⟩ := (HLS.out.below hbr).2.2 (by omega)
        obtain ⟨q0, q1, q2, q3, q4⟩ := hcs k hkl
        obtain ⟨op, hop⟩ : ∃ op, op = ops[k] := ⟨_, rfl⟩
        rw [← hop] at q0 q1 q2 q3 q4 hok0
        obtain ⟨K, I, t, Ab, bs, cb, y⟩ := op
        have hbs0 := hok0.bs
        have HI := Lib.hid (And.intro hok0.i1 hok0.i2)
        simp only at q0 q1 q2 q3 q4 hbs0 HI
        have hkI : (k : Int) < (n : Int) := by omega
        have hkI2 : (k : Int) < 100 := by omega
        have hba := ba wr (.cells #[.int .i64 K, .int .i64 I, .int .i64 t, .slice Ab bs.length cb, .int .u8 (y.toNat : Int)] 31)
        have P2 := P.bt hba
        have S2 := hS.bt hba
        have hb2 := bt hbr hba
        have hbs2 := hbs0.bt hb2
        have kb := Blk.new wr 31 #[.int .i64 K, .int .i64 I, .int .i64 t, .slice Ab bs.length cb, .int .u8 (y.toNat : Int)]
        have hwr : w.heap.size < wr.heap.size := P.blk.lt
        have HB0 := Lib.hid hbs0
        clear hop hcs hok0 P hS hbr hba hbs0
        by_cases hbig : (1000 : Int) < (bs.length : Int)
        · clear P2 S2 kb
          go_wp2_with fail
          refine (alive_any _).mono ?_
          rintro e w3 ⟨rfl, hb3⟩
          go_wp2
          go_ret
          exact ⟨rfl, bt hb2 hb3⟩
        · rcases h0 : (K == 0) with _ | _
          · rcases h1 : (K == 1) with _ | _
            · rcases h2 : (K == 2) with _ | _
              · clear kb
                go_wp2
                go_roundw
                case rel => exact ⟨k + 1, T, ls, _, As, ca, m, by omega, by omega, by go_num, rfl, Lib.hid ⟨hm.out.1, Nat.le_succ_of_le hm.out.2⟩, hin, S2, P2, hb2⟩
                case measure => simp [intOf]; omega
              · by_cases hI : 0 ≤ I ∧ I < ls.length
                · obtain ⟨j, rfl⟩ := Int.eq_ofNat_of_zero_le hI.1
                  have hj : j < ls.length := by omega
                  by_cases hf : ls.length = 256
                  · have hd := double_full P2 hf j hj
                    clear hI
                    go_wp2_with fail
                    refine hd.mono ?_
                    clear hd
                    rintro e w3 ⟨rfl, rfl⟩
                    go_wp2
                    go_roundw
                    case rel => exact ⟨k + 1, T, ls, _, As, ca, m, by omega, by omega, by go_num, rfl, Lib.hid ⟨hm.out.1, Nat.le_succ_of_le hm.out.2⟩, hin, S2, P2, hb2⟩
                    case measure => simp [intOf]; omega
                  · have hd := double_ok P2 (by have := P2.len; omega) j hj
                    clear hI P2
                    go_wp2_with fail
                    refine hd.mono ?_
                    clear hd
                    rintro e w3 ⟨rfl, ⟨cs3, P3⟩, hg3⟩
                    have S3 := S2.kept hg3
                    have hb3 := hb2.trans (below_of hg3 (Nat.le_refl _) hb2.size)
                    have hin3 : Hid (∀ x ∈ ls ++ [ls[j]], x ∈ T) := Lib.hid (fun x hx => by
                      rcases List.mem_append.1 hx with h | h
                      · exact hin.out x h
                      · rw [List.mem_singleton.1 h]; exact hin.out _ (List.getElem_mem hj))
                    clear S2 hg3 kb hb2
                    go_wp2
                    go_roundw
                    case rel => exact ⟨k + 1, T, _, _, As, ca, m, by omega, by omega, by go_num, rfl, Lib.hid ⟨hm.out.1, Nat.le_succ_of_le hm.out.2⟩, hin3, S3, P3, hb3⟩
                    case measure => simp [intOf]; omega
                · have hd := double_none P2 I hI
                  clear hI
                  go_wp2_with fail
                  refine hd.mono ?_
                  clear hd
                  rintro e w3 ⟨rfl, rfl⟩
                  go_wp2
                  go_roundw
                  case rel => exact ⟨k + 1, T, ls, _, As, ca, m, by omega, by omega, by go_num, rfl, Lib.hid ⟨hm.out.1, Nat.le_succ_of_le hm.out.2⟩, hin, S2, P2, hb2⟩
                  case measure => simp [intOf]; omega
            · by_cases hI : 0 ≤ I ∧ I < ls.length
              · obtain ⟨j, rfl⟩ := Int.eq_ofNat_of_zero_le hI.1
                have hj : j < ls.length := by omega
                have ht : Calls Try.prog 13 #[.pointer (some ⟨w.heap.size, 0, none⟩), .int .i64 j] (wr.alloc (.cells #[.int .i64 K, .int .i64 (j : Nat), .int .i64 t, .slice Ab bs.length cb, .int .u8 (y.toNat : Int)] 31)) (TakeO (wr.alloc (.cells #[.int .i64 K, .int .i64 (j : Nat), .int .i64 t, .slice Ab bs.length cb, .int .u8 (y.toNat : Int)] 31)) w.heap.size ls[j] (ls.eraseIdx j)) := by
                  by_cases hlast : ls.length = j + 1
                  · exact take_last P2 j hj hlast
                  · exact take_mid P2 j hj (by omega)
                obtain ⟨l, hl⟩ : ∃ l, l = ls[j] := ⟨_, rfl⟩
                have hlT : l ∈ T := by rw [hl]; exact hin.out _ (List.getElem_mem hj)
                rw [← hl] at ht
                clear hI P2 hl
                go_wp2_with fail
                refine ht.mono ?_
                clear ht
                rintro e w3 ⟨A6, c6, J6, rfl, hJ6, own6, ⟨cs3, P3⟩, hg3⟩
                have S3 := S2.kept hg3
                have hb3 := hb2.trans (below_of hg3 (Nat.le_refl _) hb2.size)
                have hin3 : Hid (∀ x ∈ ls.eraseIdx j, x ∈ T) := Lib.hid (fun x hx => hin.out x (List.mem_of_mem_eraseIdx hx))
                have hi := in_any As T m ca (Lib.hid hm.out.1) A6 l J6 c6 hJ6 w3 (S3.list hb3) (by have := hm.out.2; omega) own6.bs
                rw [decide_eq_true hlT] at hi
                clear S2 hg3 kb hb2 hlT own6
                go_wp2_with fail
                refine hi.mono ?_
                clear hi
                rintro e w4 ⟨rfl, hb4⟩
                have S4 := S3.bt hb4
                have P4 := P3.bt hb4
                have hbw4 := bt hb3 hb4
                clear S3 P3 hb3 hb4
                go_wp2
                go_roundw
                case rel => exact ⟨k + 1, T, _, _, As, ca, m, by omega, by omega, by go_num, rfl, Lib.hid ⟨hm.out.1, Nat.le_succ_of_le hm.out.2⟩, hin3, S4, P4, hbw4⟩
                case measure => simp [intOf]; omega
              · have hd := take_none P2 I hI
                clear hI
                go_wp2_with fail
                refine hd.mono ?_
                clear hd
                rintro e w3 ⟨rfl, rfl⟩
                go_wp2
                go_roundw
                case rel => exact ⟨k + 1, T, ls, _, As, ca, m, by omega, by omega, by go_num, rfl, Lib.hid ⟨hm.out.1, Nat.le_succ_of_le hm.out.2⟩, hin, S2, P2, hb2⟩
                case measure => simp [intOf]; omega
          · by_cases hlong : (512 : Int) < (bs.length : Int)
            · have hd := send_long w.heap.size Ab bs.length cb (wr.alloc (.cells #[.int .i64 K, .int .i64 I, .int .i64 t, .slice Ab bs.length cb, .int .u8 (y.toNat : Int)] 31)) (decide_eq_true hlong)
              go_wp2_with fail
              refine hd.mono ?_
              clear hd
              rintro e w3 ⟨rfl, rfl⟩
              go_wp2
              go_roundw
              case rel => exact ⟨k + 1, T, ls, _, As, ca, m, by omega, by omega, by go_num, rfl, Lib.hid ⟨hm.out.1, Nat.le_succ_of_le hm.out.2⟩, hin, S2, P2, hb2⟩
              case measure => simp [intOf]; omega
            · by_cases hf : ls.length = 256
              · have hd := send_full P2 hf Ab bs.length cb (decide_eq_false hlong)
                go_wp2_with fail
                refine hd.mono ?_
                clear hd
                rintro e w3 ⟨rfl, rfl⟩
                go_wp2
                go_roundw
                case rel => exact ⟨k + 1, T, ls, _, As, ca, m, by omega, by omega, by go_num, rfl, Lib.hid ⟨hm.out.1, Nat.le_succ_of_le hm.out.2⟩, hin, S2, P2, hb2⟩
                case measure => simp [intOf]; omega
              · have hd := send_ok P2 (by have := P2.len; omega) Ab bs bs.length cb (Lib.hid rfl) (decide_eq_false hlong) hbs2
                clear P2
                go_wp2_with fail
                refine hd.mono ?_
                clear hd
                rintro e w3 ⟨rfl, ⟨cs3, P3⟩, hg3⟩
                have S3 := S2.kept hg3
                have hb3 := hb2.trans (below_of hg3 (Nat.le_refl _) hb2.size)
                have kb3 := kb.kept hg3 (fun e => by injection e with e; omega)
                have hc3 : w3.cell? ⟨wr.heap.size, 3, none⟩ = some (.slice Ab bs.length cb) := kb3.cell 3
                obtain ⟨A7, c7, w5, hrun, S5, P5, hb5⟩ := sent_more S3 hm.out.1 (by have := hm.out.2; omega) P3 hb3 Ab bs cb HB0.out
                have hin3 : Hid (∀ x ∈ ls ++ [bs], x ∈ T ++ [bs]) := Lib.hid (fun x hx => by
                      rcases List.mem_append.1 hx with h | h
                      · exact List.mem_append_left _ (hin.out x h)
                      · exact List.mem_append_right _ h)
                have hm3 : Hid (m + 1 = (T ++ [bs]).length ∧ m + 1 ≤ k + 1) := Lib.hid ⟨by rw [List.length_append, ← hm.out.1]; rfl, by have := hm.out.2; omega⟩
                clear S2 hg3 kb hb2 kb3 S3 P3 hb3 hbs2
                go_wp2_with (at_builtin; refine wpList_append_run rfl (.tmp 42) (.tmp 45) 26 rfl (.slice As m ca) (.slice (some ⟨w3.heap.size, 0, none⟩) 1 1) _ w5 rfl rfl hrun ?_)
                clear hrun
                go_wp2
                go_roundw
                case rel => exact ⟨k + 1, _, _, _, A7, c7, (m+1), by omega, by omega, by go_num, rfl, hm3, hin3, S5, P5, hb5⟩
                case measure => simp [intOf]; omega
      · obtain rfl : k = 100 := by omega
        have hall := all_any P
        go_wp2_with fail
        refine hall.mono ?_
        clear hall
        rintro e w2 ⟨A9, c9, n9, rfl, hn9, hL9, hb2⟩
        have S2 := hS.bt hb2
        have hbw2 := bt hbr hb2
        have hn9m : n9 ≤ 256 := by rw [hn9.out]; exact P.len
        have HL9 := Lib.hid hL9
        clear hL9 P hS hbr hb2
        go_wp2
        go_loopw [10] (fun i wq => ∃ q : Nat, q ≤ n9 ∧ i = .int .i64 q ∧ Below w2.heap.size w2 wq) (fun i _ => n9 - (intOf i).toNat)
        case atStart => exact ⟨0, Nat.zero_le _, rfl, Below.refl _ _⟩
        case round =>
          obtain ⟨q, hq, rfl, hbq⟩ := hrel
          by_cases hql : q < n9
          · have hqk : q < ls.length := by rw [← hn9.out]; exact hql
            obtain ⟨b9, o9, rfl, hb9, hc9⟩ := (HL9.out.bt hbq) (by omega)
            obtain ⟨Ai, ci, hcl, hbs9⟩ := hc9 q hqk
            have hinq : ls[q] ∈ T := hin.out _ (List.getElem_mem hqk)
            obtain ⟨l, hl⟩ : ∃ l, l = ls[q] := ⟨_, rfl⟩
            rw [← hl] at hcl hbs9 hinq
            have S3 := S2.bt hbq
            have hi := in_any As T m ca (Lib.hid hm.out.1) Ai l l.length ci (Lib.hid rfl) _ (S3.list (bt hbw2 hbq)) (by have := hm.out.2; omega) hbs9
            rw [decide_eq_true hinq] at hi
            have hqI : (q : Int) < (n9 : Int) := by omega
            clear hl hc9 hbs9 hinq S3
            go_wp2_with fail
            refine hi.mono ?_
            clear hi
            rintro e w4 ⟨rfl, hb4⟩
            have hb5 := bt hbq hb4
            clear hb4 hcl
            go_wp2
            go_roundw
            case rel => exact ⟨q + 1, by omega, by go_num, hb5⟩
            case measure => simp [intOf]; omega
          · obtain rfl : q = n9 := by omega
            go_wp2_with fail
            refine (alive_any _).mono ?_
            rintro e w4 ⟨rfl, hb4⟩
            go_wp2
            go_ret
            exact ⟨rfl, bt (bt hbw2 hbq) hb4⟩
    · obtain rfl : k = n := by omega
      have hall := all_any P
      go_wp2_with fail
      refine hall.mono ?_
      clear hall
      rintro e w2 ⟨A9, c9, n9, rfl, hn9, hL9, hb2⟩
      have S2 := hS.bt hb2
      have hbw2 := bt hbr hb2
      have hn9m : n9 ≤ 256 := by rw [hn9.out]; exact P.len
      have HL9 := Lib.hid hL9
      clear hL9 P hS hbr hb2
      go_wp2
      go_loopw [10] (fun i wq => ∃ q : Nat, q ≤ n9 ∧ i = .int .i64 q ∧ Below w2.heap.size w2 wq) (fun i _ => n9 - (intOf i).toNat)
      case atStart => exact ⟨0, Nat.zero_le _, rfl, Below.refl _ _⟩
      case round =>
        obtain ⟨q, hq, rfl, hbq⟩ := hrel
        by_cases hql : q < n9
        · have hqk : q < ls.length := by rw [← hn9.out]; exact hql
          obtain ⟨b9, o9, rfl, hb9, hc9⟩ := (HL9.out.bt hbq) (by omega)
          obtain ⟨Ai, ci, hcl, hbs9⟩ := hc9 q hqk
          have hinq : ls[q] ∈ T := hin.out _ (List.getElem_mem hqk)
          obtain ⟨l, hl⟩ : ∃ l, l = ls[q] := ⟨_, rfl⟩
          rw [← hl] at hcl hbs9 hinq
          have S3 := S2.bt hbq
          have hi := in_any As T m ca (Lib.hid hm.out.1) Ai l l.length ci (Lib.hid rfl) _ (S3.list (bt hbw2 hbq)) (by have := hm.out.2; omega) hbs9
          rw [decide_eq_true hinq] at hi
          have hqI : (q : Int) < (n9 : Int) := by omega
          clear hl hc9 hbs9 hinq S3
          go_wp2_with fail
          refine hi.mono ?_
          clear hi
          rintro e w4 ⟨rfl, hb4⟩
          have hb5 := bt hbq hb4
          clear hb4 hcl
          go_wp2
          go_roundw
          case rel => exact ⟨q + 1, by omega, by go_num, hb5⟩
          case measure => simp [intOf]; omega
        · obtain rfl : q = n9 := by omega
          go_wp2_with fail
          refine (alive_any _).mono ?_
          rintro e w4 ⟨rfl, hb4⟩
          go_wp2
          go_ret
          exact ⟨rfl, bt (bt hbw2 hbq) hb4⟩
theorem pathSent_walk (A : Option Addr) (ops : List OpV) (c : Nat) (w : World) (hls : OpsAt w A ops) : Calls Try.prog 5 #[.slice A ops.length c] w fun e w' => e = .returned (.bool true) ∧ Below w.heap.size w w' := sent_all A ops _ c (Lib.hid rfl) w hls
end Go.Proofs.Ytkfmhkpmlncjgaa
