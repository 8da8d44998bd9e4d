/- Parts Bq Br Bs of one proof. -/
import Derived.Test.YtlliaihmfimdoaaGreatMg27
namespace Go.Proofs.YtlliaihmfimdoaaGreat
open Go.RowKit Go.Maps
set_option linter.unusedVariables false
set_option linter.unusedSimpArgs false

theorem playK_B (ops : List OpV) : (playK ops).B = anyB := by
  unfold playK
  generalize ops.take 60 = l
  have : ∀ (l : List OpV) (S : KS), S.B = anyB → (l.foldl stepK S).B = anyB := by
    intro l
    induction l with
    | nil => intro S h; exact h
    | cons o l ih => intro S h; exact ih _ (stepK_B h o)
  exact this l _ rfl
theorem backout_V (S : KS) (n : Int) : (backoutM S n).2.V = S.V := by unfold backoutM; split <;> rfl
theorem backout_busy {S : KS} {n : Int} (h : 1 ≤ n) : busyB (backoutM S n).2 n = false := by unfold backoutM; rw [if_neg (by omega)]; exact busy_drop S n
end Go.Proofs.YtlliaihmfimdoaaGreat

namespace Go.Proofs.YtlliaihmfimdoaaGreat
open Go.RowKit Go.Maps
set_option linter.unusedVariables false
set_option linter.unusedSimpArgs false

def RightL (l : List Ch) : Prop := (∀ x ∈ l, kindB x = true ∧ keyB x.y = true) ∧ l.Pairwise (fun a b => a.y ≠ b.y)
theorem RightL.nil : RightL [] := ⟨(fun x hx => by cases hx), List.Pairwise.nil⟩
theorem RightL.with_ {l : List Ch} (h : RightL l) {x : Ch} (h1 : kindB x = true) (h2 : keyB x.y = true) : RightL (withL l x) := by
  unfold withL
  split
  · rename_i hlt
    refine ⟨fun z hz => ?_, ?_⟩
    · rcases List.mem_or_eq_of_mem_set hz with hz | rfl
      · exact h.1 z hz
      · exact ⟨h1, h2⟩
    · have hp : (l[posN l x.y]'hlt).y = x.y := by
        have := List.findIdx_getElem (p := fun z : Ch => decide (z.y = x.y)) (xs := l) (w := hlt)
        unfold posN
        simpa using this
      have hw := List.pairwise_iff_getElem.1 h.2
      rw [List.pairwise_iff_getElem]
      intro i j hi hj hij
      rw [List.length_set] at hi hj
      rw [List.getElem_set, List.getElem_set]
      split
      · rename_i e
        subst e
        rw [if_neg (by omega)]
        have := hw _ j hi hj hij
        rw [hp] at this
        exact this
      · split
        · rename_i e
          subst e
          have := hw i _ hi hj hij
          rw [hp] at this
          exact this
        · exact hw i j hi hj hij
  · rename_i hge
    refine ⟨fun z hz => ?_, ?_⟩
    · rcases List.mem_append.1 hz with hz | hz
      · exact h.1 z hz
      · obtain rfl := List.mem_singleton.1 hz
        exact ⟨h1, h2⟩
    · rw [List.pairwise_append]
      refine ⟨h.2, List.pairwise_singleton _ _, fun a ha b hb => ?_⟩
      obtain rfl := List.mem_singleton.1 hb
      intro e
      exact hge (List.findIdx_lt_length_of_exists ⟨a, ha, by simpa using e⟩)
theorem are_right : ∀ (l : List Ch) (s : Nat → Bool), areB s l = true → (∀ x ∈ l, s x.y.toNat = false) ∧ RightL l
  | [], s, _ => ⟨(fun x hx => by cases hx), RightL.nil⟩
  | x :: l, s, h => by
    unfold areB at h
    simp only [Bool.and_eq_true, Bool.not_eq_true'] at h
    obtain ⟨h1, h2, h3, h4⟩ := h
    obtain ⟨i1, i2⟩ := are_right l _ h4
    have hn : ∀ z ∈ l, z.y.toNat ≠ x.y.toNat := fun z hz e => by
      have := i1 z hz
      unfold updS at this
      rw [if_pos e] at this
      cases this
    refine ⟨fun z hz => ?_, fun z hz => ?_, ?_⟩
    · rcases List.mem_cons.1 hz with rfl | hz
      · exact h3
      · have := i1 z hz
        unfold updS at this
        rw [if_neg (hn z hz)] at this
        exact this
    · rcases List.mem_cons.1 hz with rfl | hz
      · exact ⟨h1, h2⟩
      · exact i2.1 z hz
    · exact List.pairwise_cons.2 ⟨fun z hz e => hn z hz (by rw [e]), i2.2⟩
theorem fold_not : ∀ (l : List Ch) (V : Nat → Nat × Bool) (k : Nat), (∀ z ∈ l, z.y.toNat ≠ k) → (l.foldl setV V) k = V k
  | [], V, k, _ => rfl
  | x :: l, V, k, h => by
    rw [List.foldl_cons, fold_not l _ k (fun z hz => h z (List.mem_cons_of_mem _ hz))]
    exact if_neg (fun e => h x (List.mem_cons_self ..) e.symm)
theorem key_bd {y : Int} (h : keyB y = true) : 0 ≤ y ∧ y < 16 := by
  unfold keyB at h
  simpa using h
theorem fold_right : ∀ (l : List Ch) (V : Nat → Nat × Bool), RightL l → ∀ x ∈ l, (l.foldl setV V) x.y.toNat = (x.v, x.k == 1)
  | a :: l, V, h, x, hx => by
    have hp := List.pairwise_cons.1 h.2
    have hr : RightL l := ⟨fun z hz => h.1 z (List.mem_cons_of_mem _ hz), hp.2⟩
    rw [List.foldl_cons]
    rcases List.mem_cons.1 hx with rfl | hx
    · rw [fold_not]
      · exact if_pos rfl
      · intro z hz e
        have h1 := key_bd (hr.1 z hz).2
        have h2 := key_bd (h.1 x (List.mem_cons_self ..)).2
        exact hp.1 z hz (by omega)
    · exact fold_right l _ hr x hx
def InvR (S : KS) : Prop := ∀ n l p, S.W n = some (l, p) → RightL l
theorem InvR.cur {S : KS} (h : InvR S) (n : Int) : RightL (curW S n).1 := by
  unfold curW
  rcases hw : S.W n with _ | ⟨l, p⟩
  · exact RightL.nil
  · exact h n l p hw
theorem InvR.up {S : KS} (h : InvR S) {W : Int → Option (List Ch × Bool)} {n : Int} {o : Option (List Ch × Bool)} (ho : ∀ l p, o = some (l, p) → RightL l) (hW : W = updW S.W n o) {V B L} : InvR ⟨B, V, W, L⟩ := fun m l p e => by
  have e : W m = some (l, p) := e
  rw [hW] at e
  unfold updW at e
  split at e
  · exact ho l p e
  · exact h m l p e
theorem InvR.same {S S' : KS} (h : InvR S) (e : S'.W = S.W) : InvR S' := fun m l p h' => h m l p (by rw [← e]; exact h')
theorem InvR.change {S : KS} (h : InvR S) (n : Int) (x : Ch) (h1 : kindB x = true) : InvR (changeM S n x).2 := by
  unfold changeM
  split
  · rename_i h0
    refine InvR.up (S := S) h (o := some (withL (curW S n).1 x, false)) (n := n) ?_ rfl
    rintro l p e
    injection e with e
    injection e with e _
    rw [← e]
    exact (h.cur n).with_ h1 (openM_ok h0).2.2
  · exact h.same (openM_W S n x.y true).1
theorem InvR.drop {S : KS} (h : InvR S) (n : Int) : InvR (dropM S n) := InvR.up (S := S) h (o := none) (n := n) (fun l p e => by cases e) rfl
theorem InvR.step {S : KS} (h : InvR S) (o : OpV) : InvR (stepK S o) := by
  unfold stepK
  split
  · refine InvR.same (S := (callM S o).2) ?_ rfl
    unfold callM
    split
    · show InvR (getM S o.n o.y).2
      unfold getM
      split
      · split <;> exact h.same (openM_W _ _ _ _).1
      · exact h.same (openM_W _ _ _ _).1
    · split
      · exact h.change _ _ rfl
      · split
        · exact h.change _ _ rfl
        · split
          · show InvR (prepM S o.n).2
            unfold prepM
            split
            · exact h
            · split
              · exact h
              · split
                · exact h.same rfl
                · refine InvR.up (S := S) h (o := some ((curW S o.n).1, true)) (n := o.n) ?_ rfl
                  rintro l p e
                  injection e with e
                  injection e with e _
                  rw [← e]
                  exact h.cur _
          · split
            · show InvR (commitM S o.n).2
              unfold commitM
              split
              · exact h
              · exact InvR.drop (h.same rfl) _
            · split
              · show InvR (backoutM S o.n).2
                unfold backoutM
                split
                · exact h
                · exact h.drop _
              · split
                · show InvR (restoreM S o.n o.l).2
                  unfold restoreM
                  split
                  · exact h
                  · split
                    · exact h
                    · rename_i ha
                      split
                      · exact h
                      · split
                        · show InvR ⟨S.B, S.V, restW S o.n o.l, (takeAll S.L o.n o.l).2⟩
                          unfold restW
                          split
                          · exact h
                          · refine InvR.up (S := S) h (o := some (o.l, true)) (n := o.n) ?_ rfl
                            rintro l p e
                            injection e with e
                            injection e with e _
                            rw [← e]
                            exact (are_right o.l _ (by simpa using ha)).2
                        · exact h.same rfl
                · exact h
  · exact h
theorem InvR.play (ops : List OpV) : InvR (playK ops) := by
  unfold playK
  generalize ops.take 60 = l
  have : ∀ (l : List OpV) (S : KS), InvR S → InvR (l.foldl stepK S) := by
    intro l
    induction l with
    | nil => intro S h; exact h
    | cons o l ih => intro S h; exact ih _ (h.step o)
  exact this l _ (fun n l p e => by cases e)
/-- What a work that is prepared tells. -/
theorem prep_facts {S S1 : KS} {n : Int} {l : List Ch} (hS : InvR S) (h : prepM S n = ((l, 0), S1)) (hl : 0 < l.length) : RightL l ∧ 1 ≤ n ∧ S1 = { S with W := updW S.W n (some (l, true)) } := by
  have hc := hS.cur n
  unfold prepM at h
  split at h
  · injection h with h1 _; injection h1 with h1 h2; cases h2
  · split at h
    · injection h with h1 _; injection h1 with h1 h2; cases h2
    · split at h
      · injection h with h1 _; injection h1 with h1 h2; rw [← h1] at hl; exact absurd hl (by simp)
      · injection h with h1 h2
        injection h1 with h1 _
        rw [h1] at h2 hc
        exact ⟨hc, by omega, h2.symm⟩
theorem prepared_open {S : KS} {n : Int} {l : List Ch} (hn : 1 ≤ n) (y : Int) (al : Bool) (h : S.W n = some (l, true)) : openM S n y al = (if keyB y then 7 else 1, S) := by
  unfold openM curW
  rw [h]
  rcases hk : keyB y with _ | _
  · rw [if_pos (.inr rfl)]; rfl
  · rw [if_neg (by rintro (h | h); omega; cases h)]; rfl
theorem prepared_change {S : KS} {n : Int} {l : List Ch} (hn : 1 ≤ n) (x : Ch) (h : S.W n = some (l, true)) : changeM S n x = (if keyB x.y then 7 else 1, S) := by
  unfold changeM
  rw [prepared_open hn x.y true h]
  rw [if_neg]
  dsimp only
  split <;> decide
theorem prepared_get {S : KS} {n : Int} {l : List Ch} (hn : 1 ≤ n) (y : Int) (h : S.W n = some (l, true)) : getM S n y = ((0, false, if keyB y then 7 else 1), S) := by
  unfold getM
  rw [prepared_open hn y false h]
  rw [if_neg]
  dsimp only
  split <;> decide
theorem prepared_prep {S : KS} {n : Int} {l : List Ch} (hn : 1 ≤ n) (h : S.W n = some (l, true)) : prepM S n = (([], 7), S) := by
  unfold prepM curW
  rw [h, if_neg (by omega)]
  rfl
theorem prepared_busy {S : KS} {n : Int} {l : List Ch} (h : S.W n = some (l, true)) : busyB S n = true := by
  unfold busyB; rw [h]; rfl
theorem prepared_commit {S : KS} {n : Int} {l : List Ch} (hn : 1 ≤ n) (h : S.W n = some (l, true)) : (commitM S n).2.V = l.foldl setV S.V ∧ busyB (commitM S n).2 n = false := by
  unfold commitM curW
  rw [h, if_neg (by omega)]
  exact ⟨rfl, busy_drop _ _⟩
end Go.Proofs.YtlliaihmfimdoaaGreat

namespace Go.Proofs.YtlliaihmfimdoaaGreat
open Go.RowKit Go.Maps
set_option linter.unusedVariables false
set_option linter.unusedSimpArgs false

theorem cell_drew {w : World} {a : Addr} {v : Value} (h : w.cell? a = some v) (m : Nat) : (w.drewN m).cell? a = some v := h
set_option maxRecDepth 100000 in
set_option maxHeartbeats 4000000 in
theorem right_any (A : Option Addr) (l : List Ch) (n c : Nat) (w : World) (hn : Hid (n = l.length)) (hm : n ≤ 1000000) {B : Nat → Prop} (h : ChAt w B A l) (hR : RightL l) :
    Calls Tryz.prog 135 #[.slice A n c] w fun e w' => e = .returned (.bool true) ∧ Below w.heap.size w w' := by
  have HI : Hid (Below w.heap.size w w ∧ ChAt w B A l) := Lib.hid ⟨Below.refl _ _, h⟩
  have HR := Lib.hid hR
  clear h hR
  go_enter Tryz.func135, Tryz.ntmps135
  go_wp2_with fail
  go_loopw [3] (fun i wr => ∃ (i0 : Nat), i0 ≤ n ∧ i = .int .i64 i0 ∧ Hid (Below w.heap.size w wr ∧ ChAt wr B A l)) (fun i _ => n - (intOf i).toNat)
  case atStart => exact ⟨0, Nat.zero_le _, rfl, HI⟩
  case round =>
    clear HI
    obtain ⟨i0, hi, rfl, HW⟩ := hrel
    by_cases hin : i0 < n
    · have hiI : (i0 : Int) < (n : Int) := by omega
      obtain ⟨hb, hc⟩ := HW.out
      have hil : i0 < l.length := by rw [← hn.out]; exact hin
      obtain ⟨b, o, rfl, hbk, hcs⟩ := hc (by omega)
      obtain ⟨q0, q1, q2⟩ := hcs i0 hil
      have hri := HR.out.1 _ (List.getElem_mem hil)
      have hne : ∀ (j : Nat) (z : Ch), j < i0 → l[j]? = some z → (z.y == (l[i0]'hil).y) = false := fun j z hj hz => by
        obtain ⟨hjl, rfl⟩ := List.getElem?_eq_some_iff.1 hz
        have := List.pairwise_iff_getElem.1 HR.out.2 j i0 hjl hil hj
        simpa using this
      obtain ⟨x, hx⟩ : ∃ x, x = l[i0]'hil := ⟨_, rfl⟩
      rw [← hx] at q0 q1 q2 hri hne
      obtain ⟨kd, y, v⟩ := x
      dsimp only at q0 q1 q2 hri hne
      obtain ⟨wA, hwA⟩ : ∃ wA, wA = wr.alloc (.cells #[.int .i64 kd, .int .i64 y, .int .u64 (v : Nat)] 74) := ⟨_, rfl⟩
      have bA : Below wr.heap.size wr wA := by rw [hwA]; exact ba _ _
      have kA : Blk wA wr.heap.size 74 #[.int .i64 kd, .int .i64 y, .int .u64 (v : Nat)] := by rw [hwA]; exact Blk.new _ _ _
      have e0 := kA.cell 0
      have e1 := kA.cell 1
      have e2 := kA.cell 2
      simp only [List.getElem?_toArray, List.getElem?_cons_zero, List.getElem?_cons_succ] at e0 e1 e2
      have HWA := Lib.hid hwA
      have HA : Hid (Below w.heap.size w wA ∧ ChAt wA B (some ⟨b, o, none⟩) l ∧ wA.cell? ⟨wr.heap.size, 1, none⟩ = some (.int .i64 y)) := Lib.hid ⟨bt hb bA, hc.below bA, e1⟩
      rw [hwA] at e0 e1 e2 HA
      have hy := key_bd hri.2
      have y0 : decide (y < 0) = false := decide_eq_false (by omega)
      have y15 : decide (15 < y) = false := decide_eq_false (by omega)
      have y0P : ¬ y < 0 := by omega
      have y15P : ¬ 15 < y := by omega
      have hkd : (kd = 1) ∨ (kd = 2 ∧ v = 0) := by
        have := hri.1
        unfold kindB at this
        simpa using this
      have k1 : decide (kd < 1) = false := decide_eq_false (by omega)
      have k2 : decide (2 < kd) = false := decide_eq_false (by omega)
      have k1P : ¬ kd < 1 := by omega
      have k2P : ¬ 2 < kd := by omega
      have HNE := Lib.hid hne
      obtain ⟨gA, hgA⟩ : ∃ gA, gA = wr.heap.size := ⟨_, rfl⟩
      have HgA := Lib.hid hgA
      clear hb hc hbk hcs hx hil HW hwA bA kA hri hne hgA
      rcases hkd with rfl | ⟨rfl, rfl⟩
      · go_wp2_with fail
        go_loopw [5] (fun jv wv => ∃ (j : Nat), j ≤ i0 ∧ jv = .int .i64 j ∧ Hid (Below w.heap.size w wv ∧ ChAt wv B (some ⟨b, o, none⟩) l ∧ wv.cell? ⟨wr.heap.size, 1, none⟩ = some (.int .i64 y))) (fun jv _ => i0 - (intOf jv).toNat)
        case atStart => exact ⟨0, Nat.zero_le _, rfl, HA⟩
        case round => 
          clear HA e0 e1 e2
          obtain ⟨j, hj, rfl, HV⟩ := hrel
          by_cases hji : j < i0
          · have hjI : (j : Int) < (i0 : Int) := by omega
            have hjn : (j : Int) < (n : Int) := by omega
            have hjl : j < l.length := by rw [← hn.out]; omega
            obtain ⟨hb, hc, p1⟩ := HV.out
            obtain ⟨b', o', he, _, hcs⟩ := hc (by omega)
            cases he
            obtain ⟨zz1, q1', zz2⟩ := hcs j hjl
            have hd := HNE.out j _ hji (List.getElem?_eq_getElem hjl)
            obtain ⟨y2, hy2⟩ : ∃ y2, y2 = (l[j]'hjl).y := ⟨_, rfl⟩
            rw [← hy2] at q1' hd
            have d1 := fun m : Nat => cell_drew q1' m
            have d2 := fun m : Nat => cell_drew p1 m
            clear hb hc hcs zz1 zz2 hy2 hjl q0 q1 q2 q1' p1
            go_wp2_with fail
            go_quiet (fail)
            have hdr : Below wr.heap.size wr (wr.drewN nq) := ⟨rfl, rfl, rfl, Nat.le_refl _, fun _ _ => rfl⟩
            have HX : Hid (Below w.heap.size w (wr.drewN nq) ∧ ChAt (wr.drewN nq) B (some ⟨b, o, none⟩) l ∧ (wr.drewN nq).cell? ⟨gA, 1, none⟩ = some (.int .i64 y)) := Lib.hid ⟨bt HV.out.1 hdr, HV.out.2.1.below hdr, by rw [HgA.out]; exact HV.out.2.2⟩
            rw [HgA.out] at HX
            clear d1 d2 hdr
            go_wp2
            go_roundw
            case rel => exact ⟨j + 1, by omega, by go_num, HX⟩
            case measure => simp [intOf]; omega
          · obtain rfl : j = i0 := by omega
            have hjI : ¬ (j : Int) < (j : Int) := by omega
            have HX : Hid (Below w.heap.size w wr ∧ ChAt wr B (some ⟨b, o, none⟩) l) := Lib.hid ⟨HV.out.1, HV.out.2.1⟩
            clear HV q0 q1 q2
            go_wp2
            go_roundw
            case rel => exact ⟨j + 1, by omega, by go_num, HX⟩
            case measure => simp [intOf]; omega
      · go_wp2_with fail
        go_loopw [5] (fun jv wv => ∃ (j : Nat), j ≤ i0 ∧ jv = .int .i64 j ∧ Hid (Below w.heap.size w wv ∧ ChAt wv B (some ⟨b, o, none⟩) l ∧ wv.cell? ⟨wr.heap.size, 1, none⟩ = some (.int .i64 y))) (fun jv _ => i0 - (intOf jv).toNat)
        case atStart => exact ⟨0, Nat.zero_le _, rfl, HA⟩
        case round => 
          clear HA e0 e1 e2
          obtain ⟨j, hj, rfl, HV⟩ := hrel
          by_cases hji : j < i0
          · have hjI : (j : Int) < (i0 : Int) := by omega
            have hjn : (j : Int) < (n : Int) := by omega
            have hjl : j < l.length := by rw [← hn.out]; omega
            obtain ⟨hb, hc, p1⟩ := HV.out
            obtain ⟨b', o', he, _, hcs⟩ := hc (by omega)
            cases he
            obtain ⟨zz1, q1', zz2⟩ := hcs j hjl
            have hd := HNE.out j _ hji (List.getElem?_eq_getElem hjl)
            obtain ⟨y2, hy2⟩ : ∃ y2, y2 = (l[j]'hjl).y := ⟨_, rfl⟩
            rw [← hy2] at q1' hd
            have d1 := fun m : Nat => cell_drew q1' m
            have d2 := fun m : Nat => cell_drew p1 m
            clear hb hc hcs zz1 zz2 hy2 hjl q0 q1 q2 q1' p1
            go_wp2_with fail
            go_quiet (fail)
            have hdr : Below wr.heap.size wr (wr.drewN nq) := ⟨rfl, rfl, rfl, Nat.le_refl _, fun _ _ => rfl⟩
            have HX : Hid (Below w.heap.size w (wr.drewN nq) ∧ ChAt (wr.drewN nq) B (some ⟨b, o, none⟩) l ∧ (wr.drewN nq).cell? ⟨gA, 1, none⟩ = some (.int .i64 y)) := Lib.hid ⟨bt HV.out.1 hdr, HV.out.2.1.below hdr, by rw [HgA.out]; exact HV.out.2.2⟩
            rw [HgA.out] at HX
            clear d1 d2 hdr
            go_wp2
            go_roundw
            case rel => exact ⟨j + 1, by omega, by go_num, HX⟩
            case measure => simp [intOf]; omega
          · obtain rfl : j = i0 := by omega
            have hjI : ¬ (j : Int) < (j : Int) := by omega
            have HX : Hid (Below w.heap.size w wr ∧ ChAt wr B (some ⟨b, o, none⟩) l) := Lib.hid ⟨HV.out.1, HV.out.2.1⟩
            clear HV q0 q1 q2
            go_wp2
            go_roundw
            case rel => exact ⟨j + 1, by omega, by go_num, HX⟩
            case measure => simp [intOf]; omega
    · have hiI : ¬ (i0 : Int) < (n : Int) := by omega
      have hF := Lib.hid HW.out.1
      clear HW
      go_wp2
      go_ret
      exact ⟨rfl, hF.out⟩
/-- A store and a list of one's own by it. -/
def KK (a : World) (g base : Nat) (A : Option Addr) (c : Nat) (l : List Ch) (S : KS) (N : Nat) (w : World) : Prop :=
  ∃ cs, KvAt w g 95 cs S N ∧ OwnC w base A c l ∧ Below a.heap.size a w ∧ a.heap.size ≤ g ∧ g < base
theorem KK.step {a w w' : World} {g base c N N' : Nat} {A : Option Addr} {l : List Ch} {S S' : KS} (h : KK a g base A c l S N w) {cs cs' : Array Value} (hk : KvAt w' g 95 cs' S' N' ∧ Keep cs cs') (hg : w.grownBy w' (some g)) : KK a g base A c l S' N' w' := by
  obtain ⟨_, _, h2, h3, h4, h5⟩ := h
  exact ⟨_, hk.1, h2.kept hg (fun r e => by cases e; exact h5), h3.grown hg h3.size (fun r e => by cases e; exact h4), h4, h5⟩
theorem KK.below {a w w' : World} {g base c N : Nat} {A : Option Addr} {l : List Ch} {S : KS} (h : KK a g base A c l S N w) (hb : Below w.heap.size w w') : KK a g base A c l S N w' := by
  obtain ⟨cs, h1, h2, h3, h4, h5⟩ := h
  exact ⟨cs, h1.below hb, h2.kept (lbelow_grown hb (some g)) (fun r e => by cases e; exact h5), bt h3 hb, h4, h5⟩
end Go.Proofs.YtlliaihmfimdoaaGreat
