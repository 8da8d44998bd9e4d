/- Layer 13: KvKept. -/
import Derived.Test.YtnpoicgincndkaaBr
namespace Go.Proofs.Ytnpoicgincndkaa
open Go.RowKit Go.Maps
set_option linter.unusedVariables false
set_option linter.unusedSimpArgs false

theorem cell_drew {w : World} {a : Addr} {v : Value} (h : w.cell? a = some v) (m : Nat) : (w.drewN m).cell? a = some v := h
set_option maxRecDepth 100000 in
set_option maxHeartbeats 4000000 in
theorem right_any (A : Option Addr) (l : List Ch) (n c : Nat) (w : World) (hn : Hid (n = l.length)) (hm : n ≤ 1000000) {B : Nat → Prop} (h : ChAt w B A l) (hR : RightL l) :
    Calls Try.prog 28 #[.slice A n c] w fun e w' => e = .returned (.bool true) ∧ Below w.heap.size w w' := by
  have HI : Hid (Below w.heap.size w w ∧ ChAt w B A l) := Lib.hid ⟨Below.refl _ _, h⟩
  have HR := Lib.hid hR
  clear h hR
  go_enter Try.func28, Try.ntmps28
  go_wp2_with fail
  go_loopw [3] (fun i wr => ∃ (i0 : Nat), i0 ≤ n ∧ i = .int .i64 i0 ∧ Hid (Below w.heap.size w wr ∧ ChAt wr B A l)) (fun i _ => n - (intOf i).toNat)
  case atStart => exact ⟨0, Nat.zero_le _, rfl, HI⟩
  case round =>
    clear HI
    obtain ⟨i0, hi, rfl, HW⟩ := hrel
    by_cases hin : i0 < n
    · have hiI : (i0 : Int) < (n : Int) := by omega
      obtain ⟨hb, hc⟩ := HW.out
      have hil : i0 < l.length := by rw [← hn.out]; exact hin
      obtain ⟨b, o, rfl, hbk, hcs⟩ := hc (by omega)
      obtain ⟨q0, q1, q2⟩ := hcs i0 hil
      have hri := HR.out.1 _ (List.getElem_mem hil)
      have hne : ∀ (j : Nat) (z : Ch), j < i0 → l[j]? = some z → (z.y == (l[i0]'hil).y) = false := fun j z hj hz => by
        obtain ⟨hjl, rfl⟩ := List.getElem?_eq_some_iff.1 hz
        have := List.pairwise_iff_getElem.1 HR.out.2 j i0 hjl hil hj
        simpa using this
      obtain ⟨x, hx⟩ : ∃ x, x = l[i0]'hil := ⟨_, rfl⟩
      rw [← hx] at q0 q1 q2 hri hne
      obtain ⟨kd, y, v⟩ := x
      dsimp only at q0 q1 q2 hri hne
      obtain ⟨wA, hwA⟩ : ∃ wA, wA = wr.alloc (.cells #[.int .i64 kd, .int .i64 y, .int .u64 (v : Nat)] 47) := ⟨_, rfl⟩
      have bA : Below wr.heap.size wr wA := by rw [hwA]; exact ba _ _
      have kA : Blk wA wr.heap.size 47 #[.int .i64 kd, .int .i64 y, .int .u64 (v : Nat)] := by rw [hwA]; exact Blk.new _ _ _
      have e0 := kA.cell 0
      have e1 := kA.cell 1
      have e2 := kA.cell 2
      simp only [List.getElem?_toArray, List.getElem?_cons_zero, List.getElem?_cons_succ] at e0 e1 e2
      have HWA := Lib.hid hwA
      have HA : Hid (Below w.heap.size w wA ∧ ChAt wA B (some ⟨b, o, none⟩) l ∧ wA.cell? ⟨wr.heap.size, 1, none⟩ = some (.int .i64 y)) := Lib.hid ⟨bt hb bA, hc.below bA, e1⟩
      rw [hwA] at e0 e1 e2 HA
      have hy := key_bd hri.2
      have y0 : decide (y < 0) = false := decide_eq_false (by omega)
      have y15 : decide (15 < y) = false := decide_eq_false (by omega)
      have y0P : ¬ y < 0 := by omega
      have y15P : ¬ 15 < y := by omega
      have hkd : (kd = 1) ∨ (kd = 2 ∧ v = 0) := by
        have := hri.1
        unfold kindB at this
        simpa using this
      have k1 : decide (kd < 1) = false := decide_eq_false (by omega)
      have k2 : decide (2 < kd) = false := decide_eq_false (by omega)
      have k1P : ¬ kd < 1 := by omega
      have k2P : ¬ 2 < kd := by omega
      have HNE := Lib.hid hne
      obtain ⟨gA, hgA⟩ : ∃ gA, gA = wr.heap.size := ⟨_, rfl⟩
      have HgA := Lib.hid hgA
      clear hb hc hbk hcs hx hil HW hwA bA kA hri hne hgA
      rcases hkd with rfl | ⟨rfl, rfl⟩
      · go_wp2_with fail
        go_loopw [5] (fun jv wv => ∃ (j : Nat), j ≤ i0 ∧ jv = .int .i64 j ∧ Hid (Below w.heap.size w wv ∧ ChAt wv B (some ⟨b, o, none⟩) l ∧ wv.cell? ⟨wr.heap.size, 1, none⟩ = some (.int .i64 y))) (fun jv _ => i0 - (intOf jv).toNat)
        case atStart => exact ⟨0, Nat.zero_le _, rfl, HA⟩
        case round => 
          clear HA e0 e1 e2
          obtain ⟨j, hj, rfl, HV⟩ := hrel
          by_cases hji : j < i0
          · have hjI : (j : Int) < (i0 : Int) := by omega
            have hjn : (j : Int) < (n : Int) := by omega
            have hjl : j < l.length := by rw [← hn.out]; omega
            obtain ⟨hb, hc, p1⟩ := HV.out
            obtain ⟨b', o', he, _, hcs⟩ := hc (by omega)
            cases he
            obtain ⟨zz1, q1', zz2⟩ := hcs j hjl
            have hd := HNE.out j _ hji (List.getElem?_eq_getElem hjl)
            obtain ⟨y2, hy2⟩ : ∃ y2, y2 = (l[j]'hjl).y := ⟨_, rfl⟩
            rw [← hy2] at q1' hd
            have d1 := fun m : Nat => cell_drew q1' m
            have d2 := fun m : Nat => cell_drew p1 m
            clear hb hc hcs zz1 zz2 hy2 hjl q0 q1 q2 q1' p1
            go_wp2_with fail
            go_quiet (fail)
            have hdr : Below wr.heap.size wr (wr.drewN nq) := ⟨rfl, rfl, rfl, Nat.le_refl _, fun _ _ => rfl⟩
            have HX : Hid (Below w.heap.size w (wr.drewN nq) ∧ ChAt (wr.drewN nq) B (some ⟨b, o, none⟩) l ∧ (wr.drewN nq).cell? ⟨gA, 1, none⟩ = some (.int .i64 y)) := Lib.hid ⟨bt HV.out.1 hdr, HV.out.2.1.below hdr, by rw [HgA.out]; exact HV.out.2.2⟩
            rw [HgA.out] at HX
            clear d1 d2 hdr
            go_wp2
            go_roundw
            case rel => exact ⟨j + 1, by omega, by go_num, HX⟩
            case measure => simp [intOf]; omega
          · obtain rfl : j = i0 := by omega
            have hjI : ¬ (j : Int) < (j : Int) := by omega
            have HX : Hid (Below w.heap.size w wr ∧ ChAt wr B (some ⟨b, o, none⟩) l) := Lib.hid ⟨HV.out.1, HV.out.2.1⟩
            clear HV q0 q1 q2
            go_wp2
            go_roundw
            case rel => exact ⟨j + 1, by omega, by go_num, HX⟩
            case measure => simp [intOf]; omega
      · go_wp2_with fail
        go_loopw [5] (fun jv wv => ∃ (j : Nat), j ≤ i0 ∧ jv = .int .i64 j ∧ Hid (Below w.heap.size w wv ∧ ChAt wv B (some ⟨b, o, none⟩) l ∧ wv.cell? ⟨wr.heap.size, 1, none⟩ = some (.int .i64 y))) (fun jv _ => i0 - (intOf jv).toNat)
        case atStart => exact ⟨0, Nat.zero_le _, rfl, HA⟩
        case round => 
          clear HA e0 e1 e2
          obtain ⟨j, hj, rfl, HV⟩ := hrel
          by_cases hji : j < i0
          · have hjI : (j : Int) < (i0 : Int) := by omega
            have hjn : (j : Int) < (n : Int) := by omega
            have hjl : j < l.length := by rw [← hn.out]; omega
            obtain ⟨hb, hc, p1⟩ := HV.out
            obtain ⟨b', o', he, _, hcs⟩ := hc (by omega)
            cases he
            obtain ⟨zz1, q1', zz2⟩ := hcs j hjl
            have hd := HNE.out j _ hji (List.getElem?_eq_getElem hjl)
            obtain ⟨y2, hy2⟩ : ∃ y2, y2 = (l[j]'hjl).y := ⟨_, rfl⟩
            rw [← hy2] at q1' hd
            have d1 := fun m : Nat => cell_drew q1' m
            have d2 := fun m : Nat => cell_drew p1 m
            clear hb hc hcs zz1 zz2 hy2 hjl q0 q1 q2 q1' p1
            go_wp2_with fail
            go_quiet (fail)
            have hdr : Below wr.heap.size wr (wr.drewN nq) := ⟨rfl, rfl, rfl, Nat.le_refl _, fun _ _ => rfl⟩
            have HX : Hid (Below w.heap.size w (wr.drewN nq) ∧ ChAt (wr.drewN nq) B (some ⟨b, o, none⟩) l ∧ (wr.drewN nq).cell? ⟨gA, 1, none⟩ = some (.int .i64 y)) := Lib.hid ⟨bt HV.out.1 hdr, HV.out.2.1.below hdr, by rw [HgA.out]; exact HV.out.2.2⟩
            rw [HgA.out] at HX
            clear d1 d2 hdr
            go_wp2
            go_roundw
            case rel => exact ⟨j + 1, by omega, by go_num, HX⟩
            case measure => simp [intOf]; omega
          · obtain rfl : j = i0 := by omega
            have hjI : ¬ (j : Int) < (j : Int) := by omega
            have HX : Hid (Below w.heap.size w wr ∧ ChAt wr B (some ⟨b, o, none⟩) l) := Lib.hid ⟨HV.out.1, HV.out.2.1⟩
            clear HV q0 q1 q2
            go_wp2
            go_roundw
            case rel => exact ⟨j + 1, by omega, by go_num, HX⟩
            case measure => simp [intOf]; omega
    · have hiI : ¬ (i0 : Int) < (n : Int) := by omega
      have hF := Lib.hid HW.out.1
      clear HW
      go_wp2
      go_ret
      exact ⟨rfl, hF.out⟩
/-- A store and a list of one's own by it. -/
def KK (a : World) (g base : Nat) (A : Option Addr) (c : Nat) (l : List Ch) (S : KS) (N : Nat) (w : World) : Prop :=
  ∃ cs, KvAt w g 59 cs S N ∧ OwnC w base A c l ∧ Below a.heap.size a w ∧ a.heap.size ≤ g ∧ g < base
theorem KK.step {a w w' : World} {g base c N N' : Nat} {A : Option Addr} {l : List Ch} {S S' : KS} (h : KK a g base A c l S N w) {cs cs' : Array Value} (hk : KvAt w' g 59 cs' S' N' ∧ Keep cs cs') (hg : w.grownBy w' (some g)) : KK a g base A c l S' N' w' := by
  obtain ⟨_, _, h2, h3, h4, h5⟩ := h
  exact ⟨_, hk.1, h2.kept hg (fun r e => by cases e; exact h5), h3.grown hg h3.size (fun r e => by cases e; exact h4), h4, h5⟩
theorem KK.below {a w w' : World} {g base c N : Nat} {A : Option Addr} {l : List Ch} {S : KS} (h : KK a g base A c l S N w) (hb : Below w.heap.size w w') : KK a g base A c l S N w' := by
  obtain ⟨cs, h1, h2, h3, h4, h5⟩ := h
  exact ⟨cs, h1.below hb, h2.kept (lbelow_grown hb (some g)) (fun r e => by cases e; exact h5), bt h3 hb, h4, h5⟩
set_option maxRecDepth 100000 in
set_option maxHeartbeats 4000000 in
theorem kvKept_walk (A : Option Addr) (ops : List OpV) (c : Nat) (n key : Int) (v : Nat) (w : World) (h : OpsAt w A ops) (n1 : -9223372036854775808 ≤ n) (n2 : n ≤ 9223372036854775807) (y1 : -9223372036854775808 ≤ key) (y2 : key ≤ 9223372036854775807) (hv : v < 18446744073709551616) :
    Calls Try.prog 8 #[.slice A ops.length c, .int .i64 n, .int .i64 key, .int .u64 (v : Nat)] w fun e w' => e = .returned (.bool true) ∧ Below w.heap.size w w' := by
  obtain ⟨m, hm⟩ : ∃ m, m = ops.length := ⟨_, rfl⟩
  rw [← hm]
  have Hn : Hid (i64ok n) := Lib.hid ⟨n1, n2⟩
  have Hy : Hid (i64ok key) := Lib.hid ⟨y1, y2⟩
  have HP := Lib.hid (played_any A ops m c w (Lib.hid hm) h)
  obtain ⟨S, hS⟩ : ∃ S, S = playK ops := ⟨_, rfl⟩
  have hSB := playK_B ops
  have hIn := InvR.play ops
  rw [← hS] at HP hSB hIn
  have HSB := Lib.hid (And.intro hSB hIn)
  clear h n1 n2 y1 y2 hv hS hSB hm hIn
  go_enter Try.func8, Try.ntmps8
  go_wp2_with fail
  refine HP.out.mono ?_
  rintro e w1 ⟨⟨g, cs, rfl, hk, hg0⟩, b1⟩
  have hr := prep_any g _ cs S 2000 n w1 hk (by omega) Hn.out
  have H1 := Lib.hid (And.intro hk.lt (And.intro b1 hg0))
  obtain ⟨R, hR⟩ : ∃ R, R = prepM S n := ⟨_, rfl⟩
  rw [← hR] at hr
  have HR := Lib.hid hR
  obtain ⟨⟨lst, er⟩, S1⟩ := R
  dsimp only at hr
  have HC := Lib.hid hr
  clear hk b1 hg0 HP hr hR
  go_wp2_with fail
  refine HC.out.mono ?_
  rintro e w2 ⟨⟨A1, q1, c1, rfl, hq, hown⟩, ⟨⟨cs2, hk2, _⟩, hg2⟩⟩
  have HK2 : Hid (KK w g w1.heap.size A1 c1 lst S1 2001 w2) := Lib.hid ⟨cs2, hk2, hown, H1.out.2.1.grown hg2 H1.out.2.1.size (fun r e => by cases e; exact H1.out.2.2), H1.out.2.2, H1.out.1⟩
  have Hq := Lib.hid hq
  clear hk2 hg2 hown hq HC
  rcases he : (er != 0) with _ | _
  · obtain rfl : er = 0 := by simpa using he
    by_cases hq0 : 0 < q1
    · have hqe : ((q1 : Int) == 0) = false := by simp; omega
      have hl : 0 < lst.length := by rw [← Hq.out]; exact hq0
      obtain ⟨hRt, hn1, hS1⟩ := prep_facts HSB.out.2 HR.out.symm hl
      have hW1 : S1.W n = some (lst, true) := by rw [hS1]; simp [updW]
      have hB1 : S1.B = anyB := by rw [hS1]; exact HSB.out.1
      obtain ⟨cs3, hk3, hown, _⟩ := HK2.out
      have hq6 : q1 ≤ 1000000 := by have := (hk3.le n lst true hW1).1; rw [Hq.out]; omega
      obtain ⟨b, o, rfl, _, hcs⟩ := hown.at_ hl
      obtain ⟨zz1, p1, zz2⟩ := hcs 0 hl
      have hk0 := (hRt.1 _ (List.getElem_mem hl)).2
      obtain ⟨yz, hyz⟩ : ∃ yz, yz = (lst[0]'hl).y := ⟨_, rfl⟩
      rw [← hyz] at p1 hk0
      have hyzb := key_bd hk0
      have hr := get_any g _ cs3 S1 2001 n yz w2 hk3 (by omega) Hn.out ⟨by omega, by omega⟩
      rw [prepared_get hn1 yz hW1, hk0, if_pos rfl] at hr
      have HC3 := Lib.hid hr
      have HF := Lib.hid (And.intro hRt (And.intro hn1 (And.intro hW1 (And.intro hB1 hq6))))
      clear hr hk3 hown hcs zz1 zz2 hyz hyzb hk0 hRt hn1 hW1 hB1 hq6 hl hS1
      have hq1I : (0 : Int) < (q1 : Int) := by omega
      go_wp2_with fail
      refine HC3.out.mono ?_
      rintro e w3 ⟨rfl, hk3, hg3⟩
      obtain ⟨cs3', hk3⟩ := hk3
      have HK3 := Lib.hid (HK2.out.step hk3 hg3)
      clear hk3 hg3 HC3
      obtain ⟨cs4, hk4, _⟩ := HK3.out
      have hr := prep_any g _ cs4 S1 2001 n w3 hk4 (by omega) Hn.out
      rw [prepared_prep HF.out.2.1 HF.out.2.2.1] at hr
      have HC4 := Lib.hid hr
      clear hr hk4
      go_wp2_with fail
      refine HC4.out.mono ?_
      rintro e w4 ⟨⟨A4, q4, c4, rfl, _, _⟩, ⟨⟨cs4', hk4⟩, hg4⟩⟩
      have HK4 := Lib.hid (HK3.out.step hk4 hg4)
      clear hk4 hg4 HC4
      obtain ⟨cs5, hk5, _⟩ := HK4.out
      have hr := kput_any g _ cs5 S1 _ n key v w4 hk5 (by omega) Hn.out Hy.out (fun _ _ => by rw [HF.out.2.2.2.1]; trivial)
      rw [prepared_change HF.out.2.1 _ HF.out.2.2.1] at hr
      dsimp only at hr
      obtain ⟨er1, her1⟩ : ∃ er1 : Int, er1 = if keyB key = true then 7 else 1 := ⟨_, rfl⟩
      rw [← her1] at hr
      have hne1 : (er1 == 0) = false := by rw [her1]; split <;> rfl
      have HC5 := Lib.hid hr
      clear hr hk5 
      have Her := Lib.hid her1
      clear her1
      go_wp2_with fail
      refine HC5.out.mono ?_
      rintro e w5 ⟨rfl, ⟨⟨cs5', hk5⟩, hg5⟩⟩
      have HK5 := Lib.hid (HK4.out.step hk5 hg5)
      clear hk5 hg5 HC5
      obtain ⟨cs6, hk6, _⟩ := HK5.out
      have hr := kdel_any g _ cs6 S1 _ n key w5 hk6 (by omega) Hn.out Hy.out (fun _ _ => by rw [HF.out.2.2.2.1]; trivial)
      rw [prepared_change HF.out.2.1 _ HF.out.2.2.1] at hr
      dsimp only at hr
      rw [← Her.out] at hr
      have HC6 := Lib.hid hr
      clear hr hk6
      go_wp2_with fail
      refine HC6.out.mono ?_
      rintro e w6 ⟨rfl, ⟨⟨cs6', hk6⟩, hg6⟩⟩
      have HK6 := Lib.hid (HK5.out.step hk6 hg6)
      clear hk6 hg6 HC6
      obtain ⟨cs7, hk7, _⟩ := HK6.out
      have hr := busy_any g _ cs7 S1 _ n w6 hk7 Hn.out
      rw [prepared_busy HF.out.2.2.1] at hr
      have HC7 := Lib.hid hr
      clear hr hk7
      go_wp2_with fail
      refine HC7.out.mono ?_
      rintro e w7 ⟨rfl, b7⟩
      have HK7 := Lib.hid (HK6.out.below b7)
      clear b7 HC7
      obtain ⟨cs8, _, hown, _⟩ := HK7.out
      have HC8 := Lib.hid (right_any (some ⟨b, o, none⟩) lst q1 c1 w7 Hq HF.out.2.2.2.2 hown.at_ HF.out.1)
      clear hown
      go_wp2_with fail
      refine HC8.out.mono ?_
      rintro e w8 ⟨rfl, b8⟩
      have HK8 := Lib.hid (HK7.out.below b8)
      clear b8 HC8
      obtain ⟨cs9, hk9, _⟩ := HK8.out
      have hr := commit_any g _ cs9 S1 _ n w8 hk9 (by omega) Hn.out
      have hpc := prepared_commit HF.out.2.1 HF.out.2.2.1
      obtain ⟨S2, hS2⟩ : ∃ S2, S2 = (commitM S1 n).2 := ⟨_, rfl⟩
      rw [← hS2] at hr hpc
      have HC9 := Lib.hid hr
      have HV := Lib.hid hpc
      clear hr hk9 hS2 hpc
      go_wp2_with fail
      refine HC9.out.mono ?_
      rintro e w9 ⟨rfl, ⟨⟨cs9', hk9⟩, hg9⟩⟩
      have HK9 : Hid (∃ N, KK w g w1.heap.size (some ⟨b, o, none⟩) c1 lst S2 N w9) := Lib.hid ⟨_, HK8.out.step hk9 hg9⟩
      clear hk9 hg9 HC9 HK2 HK3 HK4 HK5 HK6 HK7 HK8 p1
      go_wp2_with fail
      go_loopw [17] (fun i wr => ∃ (j : Nat), j ≤ q1 ∧ i = .int .i64 j ∧ Hid (∃ N, KK w g w1.heap.size (some ⟨b, o, none⟩) c1 lst S2 N wr)) (fun i _ => q1 - (intOf i).toNat)
      case atStart => exact ⟨0, Nat.zero_le _, rfl, HK9⟩
      case round =>
        clear HK9
        obtain ⟨j, hj, rfl, HKr⟩ := hrel
        by_cases hjn : j < q1
        · have hjI : (j : Int) < (q1 : Int) := by omega
          have hjl : j < lst.length := by rw [← Hq.out]; exact hjn
          have hq6 : (q1 : Int) ≤ 9223372036854775807 := by have := HF.out.2.2.2.2; omega
          obtain ⟨N, hKK⟩ := HKr.out
          have HK0 := Lib.hid hKK
          obtain ⟨csr, hkr, hown, _⟩ := hKK
          obtain ⟨b', o', hbo, _, hcs⟩ := hown.at_ (by omega)
          cases hbo
          obtain ⟨p0, p1, p2⟩ := hcs j hjl
          have hrx := HF.out.1.1 _ (List.getElem_mem hjl)
          have hfx := fold_right lst S1.V HF.out.1 _ (List.getElem_mem hjl)
          have hxx : lst[j]? = some (lst[j]'hjl) := List.getElem?_eq_getElem hjl
          obtain ⟨x, hx⟩ : ∃ x, x = lst[j]'hjl := ⟨_, rfl⟩
          rw [← hx] at p0 p1 p2 hrx hfx hxx
          obtain ⟨xk, xy, xv⟩ := x
          dsimp only at p0 p1 p2 hrx hfx
          have hr := value_any g _ csr S2 N xy wr hkr
          rw [show valM S2 xy = (xv, xk == 1) by unfold valM; rw [if_pos hrx.2, HV.out.1]; exact hfx] at hr
          have HCv := Lib.hid hr
          have HX := Lib.hid hxx
          clear hr hkr hown hcs hrx hfx hx hxx hjl p0 p2 HKr
          have hjq : (j : Int) < (q1 : Int) := by omega
          go_wp2_with fail
          refine HCv.out.mono ?_
          rintro e wv ⟨rfl, bv⟩
          have HKu : Hid (∃ N, KK w g w1.heap.size (some ⟨b, o, none⟩) c1 lst S2 N wv) := Lib.hid ⟨N, HK0.out.below bv⟩
          obtain ⟨_, _, hown, _⟩ := HK0.out.below bv
          have hjl : j < lst.length := by rw [← Hq.out]; exact hjn
          obtain ⟨b', o', hbo, _, hcs⟩ := hown.at_ (by omega)
          cases hbo
          obtain ⟨p0, p1', p2⟩ := hcs j hjl
          obtain ⟨_, hxe⟩ := List.getElem?_eq_some_iff.1 HX.out
          rw [hxe] at p0 p1' p2
          dsimp only at p0 p1' p2
          rcases hkb : (xk == 1) with _ | _
          · have hvv : ((xv : Int) != (xv : Int)) = false := by simp
            clear p1 p1' hown hcs hjl HCv HK0 hxe bv
            go_wp2
            go_roundw
            case rel => exact ⟨j + 1, by omega, by go_num, HKu⟩
            case measure => simp [intOf]; omega
          · have hvv : ((xv : Int) != (xv : Int)) = false := by simp
            clear p1 p1' hown hcs hjl HCv HK0 hxe bv
            go_wp2
            go_roundw
            case rel => exact ⟨j + 1, by omega, by go_num, HKu⟩
            case measure => simp [intOf]; omega
        · have hjI : ¬ (j : Int) < (q1 : Int) := by omega
          obtain ⟨N, hKK⟩ := HKr.out
          obtain ⟨csr, hkr, _, hbr, _⟩ := hKK
          have H9 := Lib.hid (And.intro hkr hbr)
          clear hkr hbr HKr
          go_wp2_with fail
          refine (alive_any wr).mono ?_
          rintro e wv ⟨rfl, bv⟩
          have hr := busy_any g _ csr S2 N n wv (H9.out.1.below bv) Hn.out
          rw [HV.out.2] at hr
          have HCb := Lib.hid hr
          have HBv := Lib.hid (bt H9.out.2 bv)
          clear hr bv
          go_wp2_with fail
          refine HCb.out.mono ?_
          rintro e wz ⟨rfl, bz⟩
          have hF := Lib.hid (bt HBv.out bz)
          clear bz HCb
          go_wp2
          go_ret
          exact ⟨rfl, hF.out⟩
    · have hqe : ((q1 : Int) == 0) = true := by simp; omega
      have hbb : Below w.heap.size w w2 := by obtain ⟨_, _, _, h, _⟩ := HK2.out; exact h
      go_wp2_with fail
      refine (alive_any w2).mono ?_
      rintro e w3 ⟨rfl, b3⟩
      have hF := Lib.hid (bt hbb b3)
      clear b3
      go_wp2
      go_ret
      exact ⟨rfl, hF.out⟩
  · have hbb : Below w.heap.size w w2 := by obtain ⟨_, _, _, h, _⟩ := HK2.out; exact h
    go_wp2_with fail
    refine (alive_any w2).mono ?_
    rintro e w3 ⟨rfl, b3⟩
    have hF := Lib.hid (bt hbb b3)
    clear b3
    go_wp2
    go_ret
    exact ⟨rfl, hF.out⟩

end Go.Proofs.Ytnpoicgincndkaa
