/- Parts Bs Iu Iv of one proof. -/
import Derived.Test.YtihchfjdgeehoaaMg14
namespace Go.Proofs.Ytihchfjdgeehoaa
open Go.RowKit Go.Maps
set_option linter.unusedVariables false
set_option linter.unusedSimpArgs false

theorem cell_drew {w : World} {a : Addr} {v : Value} (h : w.cell? a = some v) (m : Nat) : (w.drewN m).cell? a = some v := h
set_option maxRecDepth 100000 in
set_option maxHeartbeats 4000000 in
theorem right_any (A : Option Addr) (l : List Ch) (n c : Nat) (w : World) (hn : Hid (n = l.length)) (hm : n ≤ 1000000) {B : Nat → Prop} (h : ChAt w B A l) (hR : RightL l) :
    Calls Try.prog 28 #[.slice A n c] w fun e w' => e = .returned (.bool true) ∧ Below w.heap.size w w' := by
  have HI : Hid (Below w.heap.size w w ∧ ChAt w B A l) := Lib.hid ⟨Below.refl _ _, h⟩
  have HR := Lib.hid hR
  clear h hR
  go_enter Try.func28, Try.ntmps28
  go_wp2_with fail
  go_loopw [3] (fun i wr => ∃ (i0 : Nat), i0 ≤ n ∧ i = .int .i64 i0 ∧ Hid (Below w.heap.size w wr ∧ ChAt wr B A l)) (fun i _ => n - (intOf i).toNat)
  case atStart => exact ⟨0, Nat.zero_le _, rfl, HI⟩
  case round =>
    clear HI
    obtain ⟨i0, hi, rfl, HW⟩ := hrel
    by_cases hin : i0 < n
    · have hiI : (i0 : Int) < (n : Int) := by omega
      obtain ⟨hb, hc⟩ := HW.out
      have hil : i0 < l.length := by rw [← hn.out]; exact hin
      obtain ⟨b, o, rfl, hbk, hcs⟩ := hc (by omega)
      obtain ⟨q0, q1, q2⟩ := hcs i0 hil
      have hri := HR.out.1 _ (List.getElem_mem hil)
      have hne : ∀ (j : Nat) (z : Ch), j < i0 → l[j]? = some z → (z.y == (l[i0]'hil).y) = false := fun j z hj hz => by
        obtain ⟨hjl, rfl⟩ := List.getElem?_eq_some_iff.1 hz
        have := List.pairwise_iff_getElem.1 HR.out.2 j i0 hjl hil hj
        simpa using this
      obtain ⟨x, hx⟩ : ∃ x, x = l[i0]'hil := ⟨_, rfl⟩
      rw [← hx] at q0 q1 q2 hri hne
      obtain ⟨kd, y, v⟩ := x
      dsimp only at q0 q1 q2 hri hne
      obtain ⟨wA, hwA⟩ : ∃ wA, wA = wr.alloc (.cells #[.int .i64 kd, .int .i64 y, .int .u64 (v : Nat)] 47) := ⟨_, rfl⟩
      have bA : Below wr.heap.size wr wA := by rw [hwA]; exact ba _ _
      have kA : Blk wA wr.heap.size 47 #[.int .i64 kd, .int .i64 y, .int .u64 (v : Nat)] := by rw [hwA]; exact Blk.new _ _ _
      have e0 := kA.cell 0
      have e1 := kA.cell 1
      have e2 := kA.cell 2
      simp only [List.getElem?_toArray, List.getElem?_cons_zero, List.getElem?_cons_succ] at e0 e1 e2
      have HWA := Lib.hid hwA
      have HA : Hid (Below w.heap.size w wA ∧ ChAt wA B (some ⟨b, o, none⟩) l ∧ wA.cell? ⟨wr.heap.size, 1, none⟩ = some (.int .i64 y)) := Lib.hid ⟨bt hb bA, hc.below bA, e1⟩
      rw [hwA] at e0 e1 e2 HA
      have hy := key_bd hri.2
      have y0 : decide (y < 0) = false := decide_eq_false (by omega)
      have y15 : decide (15 < y) = false := decide_eq_false (by omega)
      have y0P : ¬ y < 0 := by omega
      have y15P : ¬ 15 < y := by omega
      have hkd : (kd = 1) ∨ (kd = 2 ∧ v = 0) := by
        have := hri.1
        unfold kindB at this
        simpa using this
      have k1 : decide (kd < 1) = false := decide_eq_false (by omega)
      have k2 : decide (2 < kd) = false := decide_eq_false (by omega)
      have k1P : ¬ kd < 1 := by omega
      have k2P : ¬ 2 < kd := by omega
      have HNE := Lib.hid hne
      obtain ⟨gA, hgA⟩ : ∃ gA, gA = wr.heap.size := ⟨_, rfl⟩
      have HgA := Lib.hid hgA
      clear hb hc hbk hcs hx hil HW hwA bA kA hri hne hgA
      rcases hkd with rfl | ⟨rfl, rfl⟩
      · go_wp2_with fail
        go_loopw [5] (fun jv wv => ∃ (j : Nat), j ≤ i0 ∧ jv = .int .i64 j ∧ Hid (Below w.heap.size w wv ∧ ChAt wv B (some ⟨b, o, none⟩) l ∧ wv.cell? ⟨wr.heap.size, 1, none⟩ = some (.int .i64 y))) (fun jv _ => i0 - (intOf jv).toNat)
        case atStart => exact ⟨0, Nat.zero_le _, rfl, HA⟩
        case round => 
          clear HA e0 e1 e2
          obtain ⟨j, hj, rfl, HV⟩ := hrel
          by_cases hji : j < i0
          · have hjI : (j : Int) < (i0 : Int) := by omega
            have hjn : (j : Int) < (n : Int) := by omega
            have hjl : j < l.length := by rw [← hn.out]; omega
            obtain ⟨hb, hc, p1⟩ := HV.out
            obtain ⟨b', o', he, _, hcs⟩ := hc (by omega)
            cases he
            obtain ⟨zz1, q1', zz2⟩ := hcs j hjl
            have hd := HNE.out j _ hji (List.getElem?_eq_getElem hjl)
            obtain ⟨y2, hy2⟩ : ∃ y2, y2 = (l[j]'hjl).y := ⟨_, rfl⟩
            rw [← hy2] at q1' hd
            have d1 := fun m : Nat => cell_drew q1' m
            have d2 := fun m : Nat => cell_drew p1 m
            clear hb hc hcs zz1 zz2 hy2 hjl q0 q1 q2 q1' p1
            go_wp2_with fail
            go_quiet (fail)
            have hdr : Below wr.heap.size wr (wr.drewN nq) := ⟨rfl, rfl, rfl, Nat.le_refl _, fun _ _ => rfl⟩
            have HX : Hid (Below w.heap.size w (wr.drewN nq) ∧ ChAt (wr.drewN nq) B (some ⟨b, o, none⟩) l ∧ (wr.drewN nq).cell? ⟨gA, 1, none⟩ = some (.int .i64 y)) := Lib.hid ⟨bt HV.out.1 hdr, HV.out.2.1.below hdr, by rw [HgA.out]; exact HV.out.2.2⟩
            rw [HgA.out] at HX
            clear d1 d2 hdr
            go_wp2
            go_roundw
            case rel => exact ⟨j + 1, by omega, by go_num, HX⟩
            case measure => simp [intOf]; omega
          · obtain rfl : j = i0 := by omega
            have hjI : ¬ (j : Int) < (j : Int) := by omega
            have HX : Hid (Below w.heap.size w wr ∧ ChAt wr B (some ⟨b, o, none⟩) l) := Lib.hid ⟨HV.out.1, HV.out.2.1⟩
            clear HV q0 q1 q2
            go_wp2
            go_roundw
            case rel => exact ⟨j + 1, by omega, by go_num, HX⟩
            case measure => simp [intOf]; omega
      · go_wp2_with fail
        go_loopw [5] (fun jv wv => ∃ (j : Nat), j ≤ i0 ∧ jv = .int .i64 j ∧ Hid (Below w.heap.size w wv ∧ ChAt wv B (some ⟨b, o, none⟩) l ∧ wv.cell? ⟨wr.heap.size, 1, none⟩ = some (.int .i64 y))) (fun jv _ => i0 - (intOf jv).toNat)
        case atStart => exact ⟨0, Nat.zero_le _, rfl, HA⟩
        case round => 
          clear HA e0 e1 e2
          obtain ⟨j, hj, rfl, HV⟩ := hrel
          by_cases hji : j < i0
          · have hjI : (j : Int) < (i0 : Int) := by omega
            have hjn : (j : Int) < (n : Int) := by omega
            have hjl : j < l.length := by rw [← hn.out]; omega
            obtain ⟨hb, hc, p1⟩ := HV.out
            obtain ⟨b', o', he, _, hcs⟩ := hc (by omega)
            cases he
            obtain ⟨zz1, q1', zz2⟩ := hcs j hjl
            have hd := HNE.out j _ hji (List.getElem?_eq_getElem hjl)
            obtain ⟨y2, hy2⟩ : ∃ y2, y2 = (l[j]'hjl).y := ⟨_, rfl⟩
            rw [← hy2] at q1' hd
            have d1 := fun m : Nat => cell_drew q1' m
            have d2 := fun m : Nat => cell_drew p1 m
            clear hb hc hcs zz1 zz2 hy2 hjl q0 q1 q2 q1' p1
            go_wp2_with fail
            go_quiet (fail)
            have hdr : Below wr.heap.size wr (wr.drewN nq) := ⟨rfl, rfl, rfl, Nat.le_refl _, fun _ _ => rfl⟩
            have HX : Hid (Below w.heap.size w (wr.drewN nq) ∧ ChAt (wr.drewN nq) B (some ⟨b, o, none⟩) l ∧ (wr.drewN nq).cell? ⟨gA, 1, none⟩ = some (.int .i64 y)) := Lib.hid ⟨bt HV.out.1 hdr, HV.out.2.1.below hdr, by rw [HgA.out]; exact HV.out.2.2⟩
            rw [HgA.out] at HX
            clear d1 d2 hdr
            go_wp2
            go_roundw
            case rel => exact ⟨j + 1, by omega, by go_num, HX⟩
            case measure => simp [intOf]; omega
          · obtain rfl : j = i0 := by omega
            have hjI : ¬ (j : Int) < (j : Int) := by omega
            have HX : Hid (Below w.heap.size w wr ∧ ChAt wr B (some ⟨b, o, none⟩) l) := Lib.hid ⟨HV.out.1, HV.out.2.1⟩
            clear HV q0 q1 q2
            go_wp2
            go_roundw
            case rel => exact ⟨j + 1, by omega, by go_num, HX⟩
            case measure => simp [intOf]; omega
    · have hiI : ¬ (i0 : Int) < (n : Int) := by omega
      have hF := Lib.hid HW.out.1
      clear HW
      go_wp2
      go_ret
      exact ⟨rfl, hF.out⟩
/-- A store and a list of one's own by it. -/
def KK (a : World) (g base : Nat) (A : Option Addr) (c : Nat) (l : List Ch) (S : KS) (N : Nat) (w : World) : Prop :=
  ∃ cs, KvAt w g 59 cs S N ∧ OwnC w base A c l ∧ Below a.heap.size a w ∧ a.heap.size ≤ g ∧ g < base
theorem KK.step {a w w' : World} {g base c N N' : Nat} {A : Option Addr} {l : List Ch} {S S' : KS} (h : KK a g base A c l S N w) {cs cs' : Array Value} (hk : KvAt w' g 59 cs' S' N' ∧ Keep cs cs') (hg : w.grownBy w' (some g)) : KK a g base A c l S' N' w' := by
  obtain ⟨_, _, h2, h3, h4, h5⟩ := h
  exact ⟨_, hk.1, h2.kept hg (fun r e => by cases e; exact h5), h3.grown hg h3.size (fun r e => by cases e; exact h4), h4, h5⟩
theorem KK.below {a w w' : World} {g base c N : Nat} {A : Option Addr} {l : List Ch} {S : KS} (h : KK a g base A c l S N w) (hb : Below w.heap.size w w') : KK a g base A c l S N w' := by
  obtain ⟨cs, h1, h2, h3, h4, h5⟩ := h
  exact ⟨cs, h1.below hb, h2.kept (lbelow_grown hb (some g)) (fun r e => by cases e; exact h5), bt h3 hb, h4, h5⟩
set_option maxRecDepth 100000 in
set_option maxHeartbeats 4000000 in
theorem kvKept_walk (A : Option Addr) (ops : List OpV) (c : Nat) (n key : Int) (v : Nat) (w : World) (h : OpsAt w A ops) (n1 : -9223372036854775808 ≤ n) (n2 : n ≤ 9223372036854775807) (y1 : -9223372036854775808 ≤ key) (y2 : key ≤ 9223372036854775807) (hv : v < 18446744073709551616) :
    Calls Try.prog 8 #[.slice A ops.length c, .int .i64 n, .int .i64 key, .int .u64 (v : Nat)] w fun e w' => e = .returned (.bool true) ∧ Below w.heap.size w w' := by
  obtain ⟨m, hm⟩ : ∃ m, m = ops.length := ⟨_, rfl⟩
  rw [← hm]
  have Hn : Hid (i64ok n) := Lib.hid ⟨n1, n2⟩
  have Hy : Hid (i64ok key) := Lib.hid ⟨y1, y2⟩
  have HP := Lib.hid (played_any A ops m c w (Lib.hid hm) h)
  obtain ⟨S, hS⟩ : ∃ S, S = playK ops := ⟨_, rfl⟩
  have hSB := playK_B ops
  have hIn := InvR.play ops
  rw [← hS] at HP hSB hIn
  have HSB := Lib.hid (And.intro hSB hIn)
  clear h n1 n2 y1 y2 hv hS hSB hm hIn
  go_enter Try.func8, Try.ntmps8
  go_wp2_with fail
  refine HP.out.mono ?_
  rintro e w1 ⟨⟨g, cs, rfl, hk, hg0⟩, b1⟩
  have hr := prep_any g _ cs S 2000 n w1 hk (by omega) Hn.out
  have H1 := Lib.hid (And.intro hk.lt (And.intro b1 hg0))
  obtain ⟨R, hR⟩ : ∃ R, R = prepM S n := ⟨_, rfl⟩
  rw [← hR] at hr
  have HR := Lib.hid hR
  obtain ⟨⟨lst, er⟩, S1⟩ := R
  dsimp only at hr
  have HC := Lib.hid hr
  clear hk b1 hg0 HP hr hR
  go_wp2_with fail
  refine HC.out.mono ?_
  rintro e w2 ⟨⟨A1, q1, c1, rfl, hq, hown⟩, ⟨⟨cs2, hk2, _⟩, hg2⟩⟩
  have HK2 : Hid (KK w g w1.heap.size A1 c1 lst S1 2001 w2) := Lib.hid ⟨cs2, hk2, hown, H1.out.2.1.grown hg2 H1.out.2.1.size (fun r e => by cases e; exact H1.out.2.2), H1.out.2.2, H1.out.1⟩
  have Hq := Lib.hid hq
  clear hk2 hg2 hown hq HC
  rcases he : (er != 0) with _ | _
  · obtain rfl : er = 0 := by simpa using he
    by_cases hq0 : 0 < q1
    · have hqe : ((q1 : Int) == 0) = false := by simp; omega
      have hl : 0 < lst.length := by rw [← Hq.out]; exact hq0
      obtain ⟨hRt, hn1, hS1⟩ := prep_facts HSB.out.2 HR.out.symm hl
      have hW1 : S1.W n = some (lst, true) := by rw [hS1]; simp [updW]
      have hB1 : S1.B = anyB := by rw [hS1]; exact HSB.out.1
      obtain ⟨cs3, hk3, hown, _⟩ := HK2.out
      have hq6 : q1 ≤ 1000000 := by have := (hk3.le n lst true hW1).1; rw [Hq.out]; omega
      obtain ⟨b, o, rfl, _, hcs⟩ := hown.at_ hl
      obtain ⟨zz1, p1, zz2⟩ := hcs 0 hl
      have hk0 := (hRt.1 _ (List.getElem_mem hl)).2
      obtain ⟨yz, hyz⟩ : ∃ yz, yz = (lst[0]'hl).y := ⟨_, rfl⟩
      rw [← hyz] at p1 hk0
      have hyzb := key_bd hk0
      have hr := get_any g _ cs3 S1 2001 n yz w2 hk3 (by omega) Hn.out ⟨by omega, by omega⟩
      rw [prepared_get hn1 yz hW1, hk0, if_pos rfl] at hr
      have HC3 := Lib.hid hr
      have HF := Lib.hid (And.intro hRt (And.intro hn1 (And.intro hW1 (And.intro hB1 hq6))))
      clear hr hk3 hown hcs zz1 zz2 hyz hyzb hk0 hRt hn1 hW1 hB1 hq6 hl hS1
      have hq1I : (0 : Int) < (q1 : Int) := by omega
      go_wp2_with fail
      refine HC3.out.mono ?_
      rintro e w3 ⟨rfl, hk3, hg3⟩
      obtain ⟨cs3', hk3⟩ := hk3
      have HK3 := Lib.hid (HK2.out.step hk3 hg3)
      clear hk3 hg3 HC3
      obtain ⟨cs4, hk4, _⟩ := HK3.out
      have hr := prep_any g _ cs4 S1 2001 n w3 hk4 (by omega) Hn.out
      rw [prepared_prep HF.out.2.1 HF.out.2.2.1] at hr
      have HC4 := Lib.hid hr
      clear hr hk4
      go_wp2_with fail
      refine HC4.out.mono ?_
      rintro e w4 ⟨⟨A4, q4, c4, rfl, _, _⟩, ⟨⟨cs4', hk4⟩, hg4⟩⟩
      have HK4 := Lib.hid (HK3.out.step hk4 hg4)
      clear hk4 hg4 HC4
      obtain ⟨cs5, hk5, _⟩ := HK4.out
      have hr := kput_any g _ cs5 S1 _ n key v w4 hk5 (by omega) Hn.out Hy.out (fun _ _ => by rw [HF.out.2.2.2.1]; trivial)
      rw [prepared_change HF.out.2.1 _ HF.out.2.2.1] at hr
      dsimp only at hr
      obtain ⟨er1, her1⟩ : ∃ er1 : Int, er1 = if keyB key = true then 7 else 1 := ⟨_, rfl⟩
      rw [← her1] at hr
      have hne1 : (er1 == 0) = false := by rw [her1]; split <;> rfl
      have HC5 := Lib.hid hr
      clear hr hk5 
      have Her := Lib.hid her1
      clear her1
      go_wp2_with fail
      refine HC5.out.mono ?_
      rintro e w5 ⟨rfl, ⟨⟨cs5', hk5⟩, hg5⟩⟩
      have HK5 := Lib.hid (HK4.out.step hk5 hg5)
      clear hk5 hg5 HC5
      obtain ⟨cs6, hk6, _⟩ := HK5.out
      have hr := kdel_any g _ cs6 S1 _ n key w5 hk6 (by omega) Hn.out Hy.out (fun _ _ => by rw [HF.out.2.2.2.1]; trivial)
      rw [prepared_change HF.out.2.1 _ HF.out.2.2.1] at hr
      dsimp only at hr
      rw [← Her.out] at hr
      have HC6 := Lib.hid hr
      clear hr hk6
      go_wp2_with fail
      refine HC6.out.mono ?_
      rintro e w6 ⟨rfl, ⟨⟨cs6', hk6⟩, hg6⟩⟩
      have HK6 := Lib.hid (HK5.out.step hk6 hg6)
      clear hk6 hg6 HC6
      obtain ⟨cs7, hk7, _⟩ := HK6.out
      have hr := busy_any g _ cs7 S1 _ n w6 hk7 Hn.out
      rw [prepared_busy HF.out.2.2.1] at hr
      have HC7 := Lib.hid hr
      clear hr hk7
      go_wp2_with fail
      refine HC7.out.mono ?_
      rintro e w7 ⟨rfl, b7⟩
      have HK7 := Lib.hid (HK6.out.below b7)
      clear b7 HC7
      obtain ⟨cs8, _, hown, _⟩ := HK7.out
      have HC8 := Lib.hid (right_any (some ⟨b, o, none⟩) lst q1 c1 w7 Hq HF.out.2.2.2.2 hown.at_ HF.out.1)
      clear hown
      go_wp2_with fail
      refine HC8.out.mono ?_
      rintro e w8 ⟨rfl, b8⟩
      have HK8 := Lib.hid (HK7.out.below b8)
      clear b8 HC8
      obtain ⟨cs9, hk9, _⟩ := HK8.out
      have hr := commit_any g _ cs9 S1 _ n w8 hk9 (by omega) Hn.out
      have hpc := prepared_commit HF.out.2.1 HF.out.2.2.1
      obtain ⟨S2, hS2⟩ : ∃ S2, S2 = (commitM S1 n).2 := ⟨_, rfl⟩
      rw [← hS2] at hr hpc
      have HC9 := Lib.hid hr
      have HV := Lib.hid hpc
      clear hr hk9 hS2 hpc
      go_wp2_with fail
      refine HC9.out.mono ?_
      rintro e w9 ⟨rfl, ⟨⟨cs9', hk9⟩, hg9⟩⟩
      have HK9 : Hid (∃ N, KK w g w1.heap.size (some ⟨b, o, none⟩) c1 lst S2 N w9) := Lib.hid ⟨_, HK8.out.step hk9 hg9⟩
      clear hk9 hg9 HC9 HK2 HK3 HK4 HK5 HK6 HK7 HK8 p1
      go_wp2_with fail
      go_loopw [17] (fun i wr => ∃ (j : Nat), j ≤ q1 ∧ i = .int .i64 j ∧ Hid (∃ N, KK w g w1.heap.size (some ⟨b, o, none⟩) c1 lst S2 N wr)) (fun i _ => q1 - (intOf i).toNat)
      case atStart => exact ⟨0, Nat.zero_le _, rfl, HK9⟩
      case round =>
        clear HK9
        obtain ⟨j, hj, rfl, HKr⟩ := hrel
        by_cases hjn : j < q1
        · have hjI : (j : Int) < (q1 : Int) := by omega
          have hjl : j < lst.length := by rw [← Hq.out]; exact hjn
          have hq6 : (q1 : Int) ≤ 9223372036854775807 := by have := HF.out.2.2.2.2; omega
          obtain ⟨N, hKK⟩ := HKr.out
          have HK0 := Lib.hid hKK
          obtain ⟨csr, hkr, hown, _⟩ := hKK
          obtain ⟨b', o', hbo, _, hcs⟩ := hown.at_ (by omega)
          cases hbo
          obtain ⟨p0, p1, p2⟩ := hcs j hjl
          have hrx := HF.out.1.1 _ (List.getElem_mem hjl)
          have hfx := fold_right lst S1.V HF.out.1 _ (List.getElem_mem hjl)
          have hxx : lst[j]? = some (lst[j]'hjl) := List.getElem?_eq_getElem hjl
          obtain ⟨x, hx⟩ : ∃ x, x = lst[j]'hjl := ⟨_, rfl⟩
          rw [← hx] at p0 p1 p2 hrx hfx hxx
          obtain ⟨xk, xy, xv⟩ := x
          dsimp only at p0 p1 p2 hrx hfx
          have hr := value_any g _ csr S2 N xy wr hkr
          rw [show valM S2 xy = (xv, xk == 1) by unfold valM; rw [if_pos hrx.2, HV.out.1]; exact hfx] at hr
          have HCv := Lib.hid hr
          have HX := Lib.hid hxx
          clear hr hkr hown hcs hrx hfx hx hxx hjl p0 p2 HKr
          have hjq : (j : Int) < (q1 : Int) := by omega
          go_wp2_with fail
          refine HCv.out.mono ?_
          rintro e wv ⟨rfl, bv⟩
          have HKu : Hid (∃ N, KK w g w1.heap.size (some ⟨b, o, none⟩) c1 lst S2 N wv) := Lib.hid ⟨N, HK0.out.below bv⟩
          obtain ⟨_, _, hown, _⟩ := HK0.out.below bv
          have hjl : j < lst.length := by rw [← Hq.out]; exact hjn
          obtain ⟨b', o', hbo, _, hcs⟩ := hown.at_ (by omega)
          cases hbo
          obtain ⟨p0, p1', p2⟩ := hcs j hjl
          obtain ⟨_, hxe⟩ := List.getElem?_eq_some_iff.1 HX.out
          rw [hxe] at p0 p1' p2
          dsimp only at p0 p1' p2
          rcases hkb : (xk == 1) with _ | _
          · have hvv : ((xv : Int) != (xv : Int)) = false := by simp
            clear p1 p1' hown hcs hjl HCv HK0 hxe bv
            go_wp2
            go_roundw
            case rel => exact ⟨j + 1, by omega, by go_num, HKu⟩
            case measure => simp [intOf]; omega
          · have hvv : ((xv : Int) != (xv : Int)) = false := by simp
            clear p1 p1' hown hcs hjl HCv HK0 hxe bv
            go_wp2
            go_roundw
            case rel => exact ⟨j + 1, by omega, by go_num, HKu⟩
            case measure => simp [intOf]; omega
        · have hjI : ¬ (j : Int) < (q1 : Int) := by omega
          obtain ⟨N, hKK⟩ := HKr.out
          obtain ⟨csr, hkr, _, hbr, _⟩ := hKK
          have H9 := Lib.hid (And.intro hkr hbr)
          clear hkr hbr HKr
          go_wp2_with fail
          refine (alive_any wr).mono ?_
          rintro e wv ⟨rfl, bv⟩
          have hr := busy_any g _ csr S2 N n wv (H9.out.1.below bv) Hn.out
          rw [HV.out.2] at hr
          have HCb := Lib.hid hr
          have HBv := Lib.hid (bt H9.out.2 bv)
          clear hr bv
          go_wp2_with fail
          refine HCb.out.mono ?_
          rintro e wz ⟨rfl, bz⟩
          have hF := Lib.hid (bt HBv.out bz)
          clear bz HCb
          go_wp2
          go_ret
          exact ⟨rfl, hF.out⟩
    · have hqe : ((q1 : Int) == 0) = true := by simp; omega
      have hbb : Below w.heap.size w w2 := by obtain ⟨_, _, _, h, _⟩ := HK2.out; exact h
      go_wp2_with fail
      refine (alive_any w2).mono ?_
      rintro e w3 ⟨rfl, b3⟩
      have hF := Lib.hid (bt hbb b3)
      clear b3
      go_wp2
      go_ret
      exact ⟨rfl, hF.out⟩
  · have hbb : Below w.heap.size w w2 := by obtain ⟨_, _, _, h, _⟩ := HK2.out; exact h
    go_wp2_with fail
    refine (alive_any w2).mono ?_
    rintro e w3 ⟨rfl, b3⟩
    have hF := Lib.hid (bt hbb b3)
    clear b3
    go_wp2
    go_ret
    exact ⟨rfl, hF.out⟩

end Go.Proofs.Ytihchfjdgeehoaa

namespace Go.Proofs.Ytihchfjdgeehoaa
open Go.RowKit Go.Maps Go.Joins Go.Deep
set_option linter.unusedVariables false
set_option linter.unusedSimpArgs false

/-- A work of the document's store, with the places where it lies. -/
structure WI where
  q : Nat
  n : Int
  A : Option Addr
  c : Nat
  l : List Ch
  p : Bool
def ptV (qs : List Nat) : List Value := qs.map fun q => .pointer (some ⟨q, 0, none⟩)
def OwnPt (u : World) (B : Nat) (A : Option Addr) (c : Nat) (qs : List Nat) : Prop := u.ownsRow B 44 1 (.slice A qs.length c) qs.length (ptV qs)
def prV (P : List (Int × Nat)) : List Value := P.flatMap fun x => [.int .i64 x.1, .int .u64 (x.2 : Nat)]
def OwnPr (u : World) (B : Nat) (A : Option Addr) (c : Nat) (P : List (Int × Nat)) : Prop := u.ownsRow B 88 2 (.slice A P.length c) P.length (prV P)
theorem prV_at : ∀ (P : List (Int × Nat)) (i : Nat) (h : i < P.length), (prV P)[i * 2]? = some (.int .i64 (P[i]'h).1) ∧ (prV P)[i * 2 + 1]? = some (.int .u64 ((P[i]'h).2 : Nat))
  | x :: P, 0, _ => by unfold prV; simp
  | x :: P, i + 1, h => by
    have := prV_at P i (by simpa using h)
    have e : prV (x :: P) = [.int .i64 x.1, .int .u64 (x.2 : Nat)] ++ prV P := by unfold prV; rw [List.flatMap_cons]
    rw [e]
    have hs : ∀ j, ([.int .i64 x.1, .int .u64 (x.2 : Nat)] ++ prV P)[(i + 1) * 2 + j]? = (prV P)[i * 2 + j]? := by
      intro j
      rw [List.getElem?_append_right (by simp; omega)]
      congr 1
      simp
      omega
    exact ⟨(hs 0).trans this.1, (hs 1).trans this.2⟩
theorem row_cells {u : World} {B k n c : Nat} {t : TypeId} {A : Option Addr} {vs : List Value} (h : u.ownsRow B t k (.slice A n c) n vs) (hp : 0 < n) : ∃ b, A = some ⟨b, 0, none⟩ ∧ B ≤ b ∧ b < u.heap.size ∧ (∃ cs fz, u.heap[b]? = some (.cells cs t fz)) ∧ ∀ j v, vs[j]? = some v → u.cell? ⟨b, j, none⟩ = some v := by
  rcases h.2 with ⟨h1, h2⟩ | ⟨g, cap, cur, h1, hb, hg, hn, hm, hc, ht⟩
  · omega
  · injection h1 with e1 e2 e3
    refine ⟨g, e1, hb, (Array.getElem?_eq_some_iff.1 hg).1, ⟨cur, _, hg⟩, fun j v hv => ?_⟩
    have hcell : u.cell? ⟨g, j, none⟩ = cur[j]? := cell_of_row u g j cur _ (0, 0) hg
    rw [hcell]
    rw [← ht, List.getElem?_take] at hv
    split at hv
    · simpa using hv
    · cases hv
/-- The document's store: its pairs, works, locks. -/
structure RAt (u : World) (B x : Nat) (P : List (Int × Nat)) (ws : List WI) (L : List LRow) : Prop where
  ex : ∃ AP nP cP AW nW cW AL nL cL, Blk u x 32 #[.slice AP nP cP, .slice AW nW cW, .slice AL nL cL] ∧ nP = P.length ∧ nW = ws.length ∧ nL = L.length ∧ OwnPr u B AP cP P ∧ OwnPt u B AW cW (ws.map WI.q) ∧ LRows u B AL cL L
  wk : ∀ y ∈ ws, B ≤ y.q ∧ Blk u y.q 86 #[.int .i64 y.n, .slice y.A y.l.length y.c, .bool y.p] ∧ OwnC u B y.A y.c y.l
  ds : ws.Pairwise fun a b => a.q ≠ b.q ∧ ∀ r, blk a.A = some r → blk b.A ≠ some r
  sm : P.length ≤ 100 ∧ ws.length ≤ 100 ∧ L.length ≤ 64 ∧ ∀ y ∈ ws, y.l.length ≤ 100
def findW (ws : List WI) (n : Int) : Option WI := ws.find? fun y => decide (y.n = n)
theorem findW_at {ws : List WI} {n : Int} {j : Nat} (hj : j < ws.length) (hno : ∀ i, (h : i < ws.length) → i < j → (ws[i]'h).n ≠ n) (h : (ws[j]'hj).n = n) : findW ws n = some (ws[j]'hj) := by
  unfold findW
  rw [List.find?_eq_some_iff_getElem]
  exact ⟨by simpa using h, j, hj, rfl, fun i hi => by simpa using hno i (by omega) hi⟩
theorem findW_none {ws : List WI} {n : Int} (hno : ∀ i, (h : i < ws.length) → (ws[i]'h).n ≠ n) : findW ws n = none := by
  unfold findW
  rw [List.find?_eq_none]
  intro y hy
  obtain ⟨i, hi, rfl⟩ := List.mem_iff_getElem.1 hy
  simpa using hno i hi
set_option maxRecDepth 100000 in
set_option maxHeartbeats 2000000 in
theorem find_any (B x : Nat) (P : List (Int × Nat)) (ws : List WI) (L : List LRow) (n : Int) (w : World) (h : RAt w B x P ws L) :
    Calls Try.prog 16 #[.pointer (some ⟨x, 0, none⟩), .int .i64 n] w fun e w' => e = .returned (.pointer ((findW ws n).map fun y => ⟨y.q, 0, none⟩)) ∧ w = w' := by
  obtain ⟨AP, nP, cP, AW, nW, cW, AL, nL, cL, hk, _, hnW, _, _, hpt, _⟩ := h.ex
  have c1 := hk.cell 1
  simp only [List.getElem?_toArray, List.getElem?_cons_zero, List.getElem?_cons_succ] at c1
  have hn1 : nW ≤ 100 := by rw [hnW]; exact h.sm.2.1
  have HN := Lib.hid hnW
  have H := Lib.hid (And.intro hpt h.wk)
  clear hk hpt h hnW
  go_enter Try.func16, Try.ntmps16
  go_wp2_with fail
  go_loopw [5] (fun i wr => ∃ j : Nat, j ≤ nW ∧ i = .int .i64 j ∧ Hid (∀ i, (h : i < ws.length) → i < j → (ws[i]'h).n ≠ n) ∧ w = wr) (fun i _ => nW - (intOf i).toNat)
  case atStart => exact ⟨0, Nat.zero_le _, rfl, Lib.hid (fun i h h2 => by omega), rfl⟩
  case round =>
    obtain ⟨j, hj, rfl, hno, rfl⟩ := hrel
    by_cases hjn : j < nW
    · have hjI : (j : Int) < (nW : Int) := by omega
      have hjL : j < ws.length := by rw [← HN.out]; exact hjn
      have hpt := H.out.1
      unfold OwnPt at hpt
      rw [List.length_map] at hpt
      obtain ⟨b, rfl, _, _, _, hc⟩ := row_cells hpt (by omega)
      have q0 := hc j (.pointer (some ⟨(ws[j]'hjL).q, 0, none⟩)) (by unfold ptV; simp [hjL])
      have q1 := (H.out.2 _ (List.getElem_mem hjL)).2.1.cell 0
      simp only [List.getElem?_toArray, List.getElem?_cons_zero, List.getElem?_cons_succ] at q1
      have hyes : Hid ((ws[j]'hjL).n = n → findW ws n = some (ws[j]'hjL)) := Lib.hid (fun e => findW_at hjL hno.out e)
      have hstep : Hid (¬ (ws[j]'hjL).n = n → ∀ i, (h : i < ws.length) → i < j + 1 → (ws[i]'h).n ≠ n) := Lib.hid (fun h1 i hi hij => by
        by_cases e : i = j
        · subst e; exact h1
        · exact hno.out i hi (by omega))
      generalize ws[j]'hjL = y at q0 q1 hyes hstep
      obtain ⟨yq, yn, yA, yc, yl, yp⟩ := y
      dsimp only at q0 q1 hyes hstep
      clear hpt hc hno hjL
      by_cases h1 : yn = n
      · have HP : Hid (findW ws n = some ⟨yq, yn, yA, yc, yl, yp⟩) := Lib.hid (hyes.out h1)
        subst h1
        clear hyes hstep
        go_wp2
        go_ret
        exact ⟨by rw [HP.out]; rfl, rfl⟩
      · have hno2 : Hid (∀ i, (h : i < ws.length) → i < j + 1 → (ws[i]'h).n ≠ n) := Lib.hid (hstep.out h1)
        have e1 : (yn == n) = false := by simp [h1]
        clear hyes hstep
        go_wp2
        go_roundw
        case rel => exact ⟨j + 1, by omega, by go_num, hno2, by first | rfl | trivial⟩
        case measure => simp [intOf]; omega
    · have hjI : ¬ (j : Int) < (nW : Int) := by omega
      have HP : Hid (findW ws n = none) := Lib.hid (findW_none fun i hi => hno.out i hi (by have := HN.out; omega))
      clear hno
      go_wp2
      go_ret
      exact ⟨by rw [HP.out]; rfl, rfl⟩
def valP (P : List (Int × Nat)) (y : Int) : Nat × Bool := match P.find? (fun x => decide (x.1 = y)) with | some x => (x.2, true) | none => (0, false)
theorem valP_at {P : List (Int × Nat)} {n : Int} {j : Nat} (hj : j < P.length) (hno : ∀ i, (h : i < P.length) → i < j → (P[i]'h).1 ≠ n) (h : (P[j]'hj).1 = n) : valP P n = ((P[j]'hj).2, true) := by
  unfold valP
  have : P.find? (fun x => decide (x.1 = n)) = some (P[j]'hj) := by
    rw [List.find?_eq_some_iff_getElem]
    exact ⟨by simpa using h, j, hj, rfl, fun i hi => by simpa using hno i (by omega) hi⟩
  rw [this]
theorem valP_none {P : List (Int × Nat)} {n : Int} (hno : ∀ i, (h : i < P.length) → (P[i]'h).1 ≠ n) : valP P n = (0, false) := by
  unfold valP
  have : P.find? (fun x => decide (x.1 = n)) = none := by
    rw [List.find?_eq_none]
    intro y hy
    obtain ⟨i, hi, rfl⟩ := List.mem_iff_getElem.1 hy
    simpa using hno i hi
  rw [this]
set_option maxRecDepth 100000 in
set_option maxHeartbeats 2000000 in
theorem rvalue_any (B x : Nat) (P : List (Int × Nat)) (ws : List WI) (L : List LRow) (n : Int) (w : World) (h : RAt w B x P ws L) :
    Calls Try.prog 18 #[.pointer (some ⟨x, 0, none⟩), .int .i64 n] w fun e w' => e = .returned (.tuple #[.int .u64 ((valP P n).1 : Nat), .bool (valP P n).2]) ∧ w = w' := by
  obtain ⟨AP, nP, cP, AW, nW, cW, AL, nL, cL, hk, hnP, _, _, hpr, _, _⟩ := h.ex
  have c1 := hk.cell 0
  simp only [List.getElem?_toArray, List.getElem?_cons_zero, List.getElem?_cons_succ] at c1
  have hn1 : nP ≤ 100 := by rw [hnP]; exact h.sm.1
  have HN := Lib.hid hnP
  have H := Lib.hid hpr
  clear hk hpr h hnP
  go_enter Try.func18, Try.ntmps18
  go_wp2_with fail
  go_loopw [6] (fun i wr => ∃ j : Nat, j ≤ nP ∧ i = .int .i64 j ∧ Hid (∀ i, (h : i < P.length) → i < j → (P[i]'h).1 ≠ n) ∧ w = wr) (fun i _ => nP - (intOf i).toNat)
  case atStart => exact ⟨0, Nat.zero_le _, rfl, Lib.hid (fun i h h2 => by omega), rfl⟩
  case round =>
    obtain ⟨j, hj, rfl, hno, rfl⟩ := hrel
    by_cases hjn : j < nP
    · have hjI : (j : Int) < (nP : Int) := by omega
      have hjL : j < P.length := by rw [← HN.out]; exact hjn
      have hpt := H.out
      unfold OwnPr at hpt
      obtain ⟨b, rfl, _, _, _, hc⟩ := row_cells hpt (by omega)
      have q0 := hc (j * 2) _ (prV_at P j hjL).1
      have q1 := hc (j * 2 + 1) _ (prV_at P j hjL).2
      have hyes : Hid ((P[j]'hjL).1 = n → valP P n = ((P[j]'hjL).2, true)) := Lib.hid (fun e => valP_at hjL hno.out e)
      have hstep : Hid (¬ (P[j]'hjL).1 = n → ∀ i, (h : i < P.length) → i < j + 1 → (P[i]'h).1 ≠ n) := Lib.hid (fun h1 i hi hij => by
        by_cases e : i = j
        · subst e; exact h1
        · exact hno.out i hi (by omega))
      generalize P[j]'hjL = y at q0 q1 hyes hstep
      obtain ⟨yk, yv⟩ := y
      dsimp only at q0 q1 hyes hstep
      clear hpt hc hno hjL
      by_cases h1 : yk = n
      · have HP : Hid (valP P n = (yv, true)) := Lib.hid (hyes.out h1)
        subst h1
        clear hyes hstep
        go_wp2
        go_ret2
        exact ⟨by rw [HP.out]; rfl, rfl⟩
      · have hno2 : Hid (∀ i, (h : i < P.length) → i < j + 1 → (P[i]'h).1 ≠ n) := Lib.hid (hstep.out h1)
        have e1 : (yk == n) = false := by simp [h1]
        clear hyes hstep
        go_wp2
        go_roundw
        case rel => exact ⟨j + 1, by omega, by go_num, hno2, by first | rfl | trivial⟩
        case measure => simp [intOf]; omega
    · have hjI : ¬ (j : Int) < (nP : Int) := by omega
      have HP : Hid (valP P n = (0, false)) := Lib.hid (valP_none fun i hi => hno.out i hi (by have := HN.out; omega))
      clear hno
      go_wp2
      go_ret2
      exact ⟨by rw [HP.out]; rfl, rfl⟩
end Go.Proofs.Ytihchfjdgeehoaa

namespace Go.Proofs.Ytihchfjdgeehoaa
open Go.RowKit Go.Maps Go.Joins Go.Deep
set_option linter.unusedVariables false
set_option linter.unusedSimpArgs false

theorem Try.infoPt : (Try.prog.info? 44).map (fun i => (i.zero, i.size, i.bytes)) = some (some (.pointer none), 1, 8) := by kernel_rfl
theorem own_ne {u : World} {B k n c m x : Nat} {t tt : TypeId} {A : Option Addr} {vs : List Value} {cs : Array Value} (h : u.ownsRow B t k (.slice A n c) m vs) (hx : Blk u x tt cs) (ht : t ≠ tt) : blk A ≠ some x := by
  rcases h.2 with ⟨h1, h2⟩ | ⟨g, cap, cur, h1, hb, hg, hn, hm, hc, ht'⟩
  · cases h1
    simp [blk]
  · injection h1 with e1 e2 e3
    intro e
    rw [e1] at e
    injection e with e
    have e : g = x := e
    subst e
    unfold Blk at hx
    rw [hx] at hg
    injection hg with hg
    injection hg with _ hg _
    exact ht hg.symm
theorem own_kept {u u' : World} {B k n c m x : Nat} {t tt : TypeId} {A : Option Addr} {vs : List Value} {cs : Array Value} (h : u.ownsRow B t k (.slice A n c) m vs) (hx : Blk u x tt cs) (ht : t ≠ tt) (hg : u.grownBy u' (some x)) : u'.ownsRow B t k (.slice A n c) m vs := by
  refine World.ownsRow.kept h hg ?_
  rcases hb : (Value.slice A n c).ownBlock with _ | k
  · exact .inl rfl
  · refine .inr (fun e => ?_)
    rw [ownBlock_slice] at hb
    exact own_ne h hx ht (hb.trans e)
theorem wk_kept {u u' : World} {B x : Nat} {ws : List WI} {cs : Array Value} (hw : ∀ y ∈ ws, B ≤ y.q ∧ Blk u y.q 86 #[.int .i64 y.n, .slice y.A y.l.length y.c, .bool y.p] ∧ OwnC u B y.A y.c y.l) (hx : Blk u x 32 cs) (hg : u.grownBy u' (some x)) :
    ∀ y ∈ ws, B ≤ y.q ∧ Blk u' y.q 86 #[.int .i64 y.n, .slice y.A y.l.length y.c, .bool y.p] ∧ OwnC u' B y.A y.c y.l := fun y hy => by
  obtain ⟨h1, h2, h3⟩ := hw y hy
  exact ⟨h1, h2.kept hg (fun e => h2.ne hx (by decide) (by injection e)), own_kept h3 hx (by decide) hg⟩
/-- The locks turn. -/
theorem RAt.rof {w : World} {B x : Nat} {P : List (Int × Nat)} {ws : List WI} {L : List LRow} (h : RAt w B x P ws L) : ∃ cs, ROf w B x 2 32 cs L ∧ ∀ w' v L', ROf w' B x 2 32 (cs.setIfInBounds 2 v) L' → L'.length ≤ 64 → w.grownBy w' (some x) → RAt w' B x P ws L' := by
  obtain ⟨AP, nP, cP, AW, nW, cW, AL, nL, cL, hk, hnP, hnW, hnL, hpr, hpt, hl⟩ := h.ex
  refine ⟨_, ⟨AL, nL, cL, Lib.hid hnL, hk, rfl, hl⟩, fun w' v L' h' hl' hg => ?_⟩
  obtain ⟨A', n', c', hn', hk', hcs', hl2⟩ := h'
  have hv : v = .slice A' n' c' := by simpa using hcs'
  subst hv
  exact ⟨⟨AP, nP, cP, AW, nW, cW, A', n', c', hk', hnP, hnW, hn'.out, own_kept hpr hk (by decide) hg, own_kept hpt hk (by decide) hg, hl2⟩, wk_kept h.wk hk hg, h.ds, h.sm.1, h.sm.2.1, hl', h.sm.2.2.2⟩
theorem RAt.below {w w' : World} {B x : Nat} {P : List (Int × Nat)} {ws : List WI} {L : List LRow} (h : RAt w B x P ws L) (hb : Below w.heap.size w w') : RAt w' B x P ws L := by
  obtain ⟨AP, nP, cP, AW, nW, cW, AL, nL, cL, hk, hnP, hnW, hnL, hpr, hpt, hl⟩ := h.ex
  have hg := lbelow_grown hb (some x)
  exact ⟨⟨AP, nP, cP, AW, nW, cW, AL, nL, cL, hk.below hb hk.lt, hnP, hnW, hnL, own_kept hpr hk (by decide) hg, own_kept hpt hk (by decide) hg, hl.below hb⟩, wk_kept h.wk hk hg, h.ds, h.sm⟩
/-- What a call of the document's store may write: its own block, blocks of its works and of their pointers, and lists of its works. -/
structure RG (B0 : Nat) (u u' : World) (x : Nat) (S : Nat → Prop) : Prop where
  os : u'.os = u.os
  tape : u'.tape = u.tape
  output : u'.output = u.output
  size : u.heap.size ≤ u'.heap.size
  low : ∀ k, k < B0 → k < u.heap.size → k ≠ x → u'.heap[k]? = u.heap[k]?
  block : ∀ k, k < u.heap.size → k ≠ x → u'.heap[k]? = u.heap[k]? ∨ (∃ cs fz, u.heap[k]? = some (.cells cs 44 fz)) ∨ (∃ cs fz, u.heap[k]? = some (.cells cs 86 fz)) ∨ ((∃ cs fz, u.heap[k]? = some (.cells cs 47 fz)) ∧ S k)
theorem RG.of {B0 : Nat} {u u' : World} {x : Nat} {S : Nat → Prop} (h : u.grownBy u' (some x)) : RG B0 u u' x S :=
  ⟨h.os, h.tape, h.output, h.size, fun k _ hk hx => h.block k hk (fun e => hx (by injection e)), fun k hk hx => .inl (h.block k hk (fun e => hx (by injection e)))⟩
theorem RG.trans {B0 : Nat} {a b c : World} {x : Nat} {S S' : Nat → Prop} (h : RG B0 a b x S) (k : RG B0 b c x S') (hS : ∀ r, r < a.heap.size → S' r → S r) : RG B0 a c x S := by
  refine ⟨k.os.trans h.os, k.tape.trans h.tape, k.output.trans h.output, Nat.le_trans h.size k.size, fun r hb hr hx => (k.low r hb (Nat.lt_of_lt_of_le hr h.size) hx).trans (h.low r hb hr hx), fun r hr hx => ?_⟩
  rcases h.block r hr hx with e | e | e | e
  · have := k.block r (Nat.lt_of_lt_of_le hr h.size) hx
    rw [e] at this
    rcases this with e | e | e | ⟨e, e2⟩
    · exact .inl e
    · exact .inr (.inl e)
    · exact .inr (.inr (.inl e))
    · exact .inr (.inr (.inr ⟨e, hS r hr e2⟩))
  · exact .inr (.inl e)
  · exact .inr (.inr (.inl e))
  · exact .inr (.inr (.inr e))
theorem pt_more {u : World} {B c : Nat} {A : Option Addr} {qs : List Nat} (h : OwnPt u B A c qs) (n : Nat) (hn : n = qs.length) (hl : n ≤ 1000000) (q b : Nat) (hBu : B ≤ u.heap.size) (hq0 : u.cell? ⟨b, 0, none⟩ = some (.pointer (some ⟨q, 0, none⟩))) :
    ∃ A2 c2 u', (Builtin.append_ #[27, 27] 27 #[.slice A n c, .slice (some ⟨b, 0, none⟩) 1 1]).run Try.prog u = .ok (.slice A2 (n + 1) c2) u' ∧
      OwnPt u' B A2 c2 (qs ++ [q]) ∧ u.grownBy u' (blk A) := by
  subst hn
  obtain ⟨i0, hi, hz0, hz1, hz2⟩ := info_parts Try.infoPt
  obtain ⟨v', w', hrun, hown, hgr, _, _⟩ := run_append_own_at (P := Try.prog) u B 27 27 44 i0 _ 1 8 Try.underlying27 hi hz0 hz1 hz2 rfl (by omega) (.slice A qs.length c) qs.length (ptV qs) h ⟨b, 0, none⟩ 1 1 [.pointer (some ⟨q, 0, none⟩)] rfl
    (fun j u hu => by
      match j, hu with
      | 0, hu => cases hu; exact hq0)
    (fun u hu => by simp at hu; subst hu; rfl) (by simp only [maxLen]; omega) (by omega) hBu
  obtain ⟨g2, c2, rfl⟩ := Joins.ownsRow_form hown (by omega)
  rw [ownBlock_slice] at hgr
  refine ⟨some ⟨g2, 0, none⟩, c2, w', hrun, ?_, hgr⟩
  unfold OwnPt ptV
  rw [List.length_append, List.map_append]
  exact hown
/-- A work is put behind the others. -/
theorem RAt.add {w : World} {B x : Nat} {P : List (Int × Nat)} {ws : List WI} {L : List LRow} (h : RAt w B x P ws L) (hB : B ≤ w.heap.size) (n : Int) (hl : ws.length < 100) :
    ∃ AW nW cW A3 c3 w3, (Blk w x 32 #[(w.cell? ⟨x, 0, none⟩).getD undef, .slice AW nW cW, (w.cell? ⟨x, 2, none⟩).getD undef]) ∧ nW ≤ 100 ∧
      (Builtin.append_ #[27, 27] 27 #[.slice AW nW cW, .slice (some ⟨w.heap.size + 1, 0, none⟩) 1 1]).run Try.prog ((w.alloc (.cells #[.int .i64 n, .slice none 0 0, .bool false] 86)).alloc (.cells #[.pointer (some ⟨w.heap.size, 0, none⟩)] 44)) = .ok (.slice A3 (nW + 1) c3) w3 ∧
      Blk w3 x 32 #[(w.cell? ⟨x, 0, none⟩).getD undef, .slice AW nW cW, (w.cell? ⟨x, 2, none⟩).getD undef] ∧
      RAt (w3.setCell ⟨x, 1, none⟩ (.slice A3 (nW + 1) c3)) B x P (ws ++ [⟨w.heap.size, n, none, 0, [], false⟩]) L ∧ RG B w (w3.setCell ⟨x, 1, none⟩ (.slice A3 (nW + 1) c3)) x (fun _ => False) := by
  obtain ⟨AP, nP, cP, AW, nW, cW, AL, nL, cL, hk, hnP, hnW, hnL, hpr, hpt, hll⟩ := h.ex
  obtain ⟨w1, hw1⟩ : ∃ w1, w1 = w.alloc (.cells #[.int .i64 n, .slice none 0 0, .bool false] 86) := ⟨_, rfl⟩
  have b1 : Below w.heap.size w w1 := by rw [hw1]; exact ba _ _
  have kn : Blk w1 w.heap.size 86 #[.int .i64 n, .slice none 0 0, .bool false] := by rw [hw1]; exact Blk.new _ _ _
  rw [← hw1]
  obtain ⟨w2, hw2⟩ : ∃ w2, w2 = w1.alloc (.cells #[.pointer (some ⟨w.heap.size, 0, none⟩)] 44) := ⟨_, rfl⟩
  have b2 : Below w1.heap.size w1 w2 := by rw [hw2]; exact ba _ _
  have kp : Blk w2 w1.heap.size 44 #[.pointer (some ⟨w.heap.size, 0, none⟩)] := by rw [hw2]; exact Blk.new _ _ _
  rw [← hw2]
  have b12 := bt b1 b2
  have h2 := h.below b12
  obtain ⟨hwk, hds, hsm⟩ := And.intro h2.wk (And.intro h2.ds h2.sm)
  have hk2 := hk.below b12 hk.lt
  have hg12 := lbelow_grown b12 (some x)
  have hpt2 : OwnPt w2 B AW cW (ws.map WI.q) := own_kept hpt hk (by decide) hg12
  have hpr2 : OwnPr w2 B AP cP P := own_kept hpr hk (by decide) hg12
  have kn2 := kn.below b2 kn.lt
  have hs1 := b1.size
  have hs2 := b2.size
  have hkn := kn.lt
  obtain ⟨A3, c3, w3, hrun, own3, hg3⟩ := pt_more hpt2 nW (by rw [List.length_map]; exact hnW) (by omega) w.heap.size w1.heap.size (by omega) (by have := kp.cell 0; simpa using this)
  have hsz : w1.heap.size = w.heap.size + 1 := by rw [hw1]; first | rfl | exact Array.size_push _ | simp
  rw [hsz] at hrun
  have hxne : blk AW ≠ some x := own_ne hpt2 hk2 (by decide)
  have hk3 : Blk w3 x 32 #[.slice AP nP cP, .slice AW nW cW, .slice AL nL cL] := hk2.kept hg3 (fun e => hxne e.symm)
  have hgs := lgrown_set w3 ⟨x, 1, none⟩ (.slice A3 (nW + 1) c3)
  have e0 : (w.cell? ⟨x, 0, none⟩).getD undef = .slice AP nP cP := by rw [hk.cell 0]; rfl
  have e2 : (w.cell? ⟨x, 2, none⟩).getD undef = .slice AL nL cL := by rw [hk.cell 2]; rfl
  rw [e0, e2]
  have hnb : ∀ {t : TypeId} {g : Nat} {cs : Array Value}, Blk w2 g t cs → 44 ≠ t → some g ≠ blk AW := fun hb ht e => own_ne hpt2 hb ht e.symm
  have hok : ∀ {k n c m : Nat} {t : TypeId} {A : Option Addr} {vs : List Value}, w2.ownsRow B t k (.slice A n c) m vs → t ≠ 44 → w3.ownsRow B t k (.slice A n c) m vs := fun {k n c m t A vs} ho ht => by
    refine World.ownsRow.kept ho hg3 ?_
    rcases hb : (Value.slice A n c).ownBlock with _ | r
    · exact .inl rfl
    · refine .inr (fun e => ?_)
      rw [ownBlock_slice] at hb
      rcases ho.2 with ⟨h1, h2⟩ | ⟨g, cap, cur, h1, hbb, hg, hn, hm, hc, ht'⟩
      · cases h1; cases hb
      · injection h1 with e1 e2 e3
        rw [e1] at hb
        injection hb with hb
        have hb : g = r := hb
        subst hb
        rcases hpt2.2 with ⟨h1, h2⟩ | ⟨g', cap', cur', h1, hbb', hg', _⟩
        · injection h1 with e1 _ _
          rw [e1] at e
          cases e
        · injection h1 with e1 _ _
          rw [e1] at e
          injection e with e
          have e : g = g' := e
          subst e
          rw [hg] at hg'
          injection hg' with hg'
          injection hg' with _ hg' _
          exact ht hg'
  refine ⟨AW, nW, cW, A3, c3, w3, hk, by omega, hrun, hk3, ?_, ?_⟩
  · have hq : w.heap.size ≠ x := by have := hk.lt; omega
    have kn3 : Blk w3 w.heap.size 86 #[.int .i64 n, .slice none 0 0, .bool false] := kn2.kept hg3 (hnb kn2 (by decide))
    have hwk3 : ∀ y ∈ ws ++ [⟨w.heap.size, n, none, 0, [], false⟩], B ≤ y.q ∧ Blk w3 y.q 86 #[.int .i64 y.n, .slice y.A y.l.length y.c, .bool y.p] ∧ OwnC w3 B y.A y.c y.l := fun y hy => by
      rcases List.mem_append.1 hy with hy | hy
      · obtain ⟨g1, g2, g3⟩ := hwk y hy
        exact ⟨g1, g2.kept hg3 (hnb g2 (by decide)), hok g3 (by decide)⟩
      · obtain rfl := List.mem_singleton.1 hy
        exact ⟨hB, kn3, OwnC.nil _ _⟩
    have own3' : OwnPt w3 B A3 c3 ((ws ++ [(⟨w.heap.size, n, none, 0, [], false⟩ : WI)]).map WI.q) := by rw [List.map_append]; exact own3
    have hll3 : LRows w3 B AL cL L := (hll.below b12).kept hg3 fun r e => .inr (by
      rcases hpt2.2 with ⟨h1, h2⟩ | ⟨g', cap', cur', h1, hbb', hg', _⟩
      · injection h1 with e1 _ _
        rw [e1] at e
        cases e
      · injection h1 with e1 _ _
        rw [e1] at e
        injection e with e
        have e : g' = r := e
        subst e
        exact ⟨_, _, by decide, hg'⟩)
    have ks := hk3.set_ 1 (.slice A3 (nW + 1) c3)
    refine ⟨⟨AP, nP, cP, A3, nW + 1, c3, AL, nL, cL, ks, hnP, by rw [List.length_append, hnW]; rfl, hnL, own_kept (hok hpr2 (by decide)) hk3 (by decide) hgs, ?_, ?_⟩, wk_kept hwk3 hk3 hgs, ?_, hsm.1, ?_, hsm.2.2.1, ?_⟩
    · have := own3'
      unfold OwnPt at this ⊢
      exact own_kept this hk3 (by decide) hgs
    · exact hll3.kept hgs fun r e => by cases e; exact .inr ⟨_, _, by decide, hk3⟩
    · rw [List.pairwise_append]
      refine ⟨hds, List.pairwise_singleton _ _, fun a ha b hb => ?_⟩
      obtain rfl := List.mem_singleton.1 hb
      have := (h.wk a ha).2.1.lt
      exact ⟨by show a.q ≠ w.heap.size; omega, fun r _ => by simp [blk]⟩
    · rw [List.length_append]; simp; omega
    · intro y hy
      rcases List.mem_append.1 hy with hy | hy
      · exact hsm.2.2.2 y hy
      · obtain rfl := List.mem_singleton.1 hy
        simp
  · have r12 : RG B w w2 x (fun _ => False) := RG.of hg12
    refine (r12.trans (⟨hg3.os, hg3.tape, hg3.output, hg3.size, fun k hb hk' hx => hg3.block k hk' (fun e => by have := (World.ownsRow.lt hpt2 k (by rw [ownBlock_slice]; exact e.symm)).1; omega), fun k hk' hx => ?_⟩ : RG B w2 w3 x (fun _ => False)) (fun _ _ h => h)).trans (RG.of hgs) (fun _ _ h => h)
    by_cases e : blk AW = some k
    · refine .inr (.inl ?_)
      rcases hpt2.2 with ⟨h1, h2⟩ | ⟨g', cap', cur', h1, hbb', hg', _⟩
      · injection h1 with e1 _ _
        rw [e1] at e
        cases e
      · injection h1 with e1 _ _
        rw [e1] at e
        injection e with e
        have e : g' = k := e
        subst e
        exact ⟨_, _, hg'⟩
    · exact .inl (hg3.block k hk' (fun e' => e e'.symm))
end Go.Proofs.Ytihchfjdgeehoaa
