/- Parts Tt Tu Tv Tw of one proof. -/
import Derived.Test.YtlliaihmfimdoaaGreatMg02
import Derived.Test.YtlliaihmfimdoaaGreatMg25
import Derived.Test.YtlliaihmfimdoaaGreatMg15
import Derived.Test.YtlliaihmfimdoaaGreatMg16
import Derived.Shelf.Abstract
import Derived.Shelf.RegionOpen
import Derived.WalkKit
import Derived.OwnWalkIn
import Derived.TacticsInMore
import Derived.LoopNIn
import Derived.LoopIn
import Derived.Deep.QuietTactic
import Derived.BigQuiet
import Derived.Test.YtlliaihmfimdoaaGreatMg17
namespace Go.Proofs.YtlliaihmfimdoaaGreat.Re
open Go.RowKit Go.Maps Go.Deep Go.Proofs.YtlliaihmfimdoaaGreat
set_option linter.unusedVariables false
set_option linter.unusedSimpArgs false

/-- A change as bytes; changes as bytes. -/
def recB (x : Ch) : List UInt8 := Oc.putL x.k.toNat 1 ++ (Oc.putL x.y.toNat 8 ++ Oc.putL x.v 8)
theorem recB_len (x : Ch) : (recB x).length = 17 := by unfold recB; simp [Oc.putL_length]
def bytesC (l : List Ch) : List UInt8 := l.flatMap recB
theorem bytesC_snoc (l : List Ch) (x : Ch) : bytesC (l ++ [x]) = bytesC l ++ recB x := by unfold bytesC; simp
theorem bytesC_len (l : List Ch) : (bytesC l).length = 17 * l.length := by
  induction l with
  | nil => rfl
  | cons x l ih =>
    have : bytesC (x :: l) = recB x ++ bytesC l := rfl
    rw [this, List.length_append, recB_len, ih, List.length_cons]
    omega
/-- A change that is not written. -/
def badC (x : Ch) : Bool := decide (x.k < 1) || (decide (4 < x.k) || decide (x.y < 0))
/-- What Write answers. -/
def writeC (l : List Ch) : List UInt8 × Int := if 48 < l.length then ([], 2) else if l.any badC = true then ([], 30) else (bytesC l, 0)
theorem cannot_any (k y : Int) (v : Nat) (w : World) : Calls Tryz.prog 57 #[.agg #[.int .i64 k, .int .i64 y, .int .u64 (v : Nat)]] w fun e w' => e = .returned (.bool (badC ⟨k, y, v⟩)) ∧ Below w.heap.size w w' := by
  have hb := ba w (.cells #[.int .i64 k, .int .i64 y, .int .u64 (v : Nat)] 74)
  have HB := Lib.hid hb
  clear hb
  by_cases h1 : k < 1
  · have hR : Hid (badC ⟨k, y, v⟩ = true) := Lib.hid (by unfold badC; simp [h1])
    go_enter Tryz.func57, Tryz.ntmps57
    go_wp2
    go_ret
    exact ⟨by rw [hR.out]; rfl, HB.out⟩
  · by_cases h2 : 4 < k
    · have hR : Hid (badC ⟨k, y, v⟩ = true) := Lib.hid (by unfold badC; simp [h2])
      go_enter Tryz.func57, Tryz.ntmps57
      go_wp2
      go_ret
      exact ⟨by rw [hR.out]; rfl, HB.out⟩
    · have hR : Hid (badC ⟨k, y, v⟩ = decide (y < 0)) := Lib.hid (by unfold badC; simp [h1, h2])
      go_enter Tryz.func57, Tryz.ntmps57
      go_wp2
      go_ret
      exact ⟨by rw [hR.out]; rfl, HB.out⟩
set_option maxRecDepth 100000 in
set_option maxHeartbeats 1000000 in
theorem indexb_any (A : Option Addr) (l : List Ch) (n c : Nat) (hn : Hid (n = l.length)) (hm : n ≤ 1000000) (w : World) (h : InL w A l) :
    Calls Tryz.prog 97 #[.slice A n c, .func (.func 57) #[] #[]] w fun e w' => e = .returned (.int .i64 (posD badC l)) ∧ Below w.heap.size w w' := by
  have H := Lib.hid h
  clear h
  go_enter Tryz.func97, Tryz.ntmps97
  go_wp2_with fail
  go_loopw [8] (fun i wr => ∃ (j : Nat), j ≤ n ∧ i = .int .i64 j ∧ Hid (∀ q, q < j → ∀ hq : q < l.length, badC (l[q]'hq) = false) ∧ Hid (Below w.heap.size w wr)) (fun i _ => n - (intOf i).toNat)
  case atStart => exact ⟨0, Nat.zero_le _, rfl, Lib.hid (fun q hq => by omega), Lib.hid (Below.refl _ _)⟩
  case round =>
    obtain ⟨j, hj, rfl, hno, hb⟩ := hrel
    by_cases hjn : j < n
    · have hjI : (j : Int) < (n : Int) := by omega
      have hjl : j < l.length := by rw [← hn.out]; exact hjn
      obtain ⟨b, o, rfl, _, hcs⟩ := (H.out.below hb.out) (by omega)
      obtain ⟨q0, q1, q2⟩ := hcs j hjl
      obtain ⟨x, hx⟩ : ∃ x, x = l[j]'hjl := ⟨_, rfl⟩
      rw [← hx] at q0 q1 q2
      have HX := Lib.hid (show ∃ hjl : j < l.length, x = l[j]'hjl from ⟨hjl, hx⟩)
      obtain ⟨xk, xy, xv⟩ := x
      dsimp only at q0 q1 q2
      have hC := cannot_any xk xy xv wr
      obtain ⟨r, hr⟩ : ∃ r, r = badC ⟨xk, xy, xv⟩ := ⟨_, rfl⟩
      have hC2 : Calls Tryz.prog 57 #[.agg #[.int .i64 xk, .int .i64 xy, .int .u64 (xv : Nat)]] wr fun e w' => e = .returned (.bool r) ∧ Below wr.heap.size wr w' := by rw [hr]; exact hC
      have HC := Lib.hid hC2
      have HRr := Lib.hid hr
      clear hcs hx hjl hC hC2 hr
      rcases r with _ | _
      · have hno2 : Hid (∀ q, q < j + 1 → ∀ hq : q < l.length, badC (l[q]'hq) = false) := Lib.hid fun q hq hql => by
          by_cases e : q = j
          · subst e
            obtain ⟨_, hx⟩ := HX.out
            rw [← hx, ← HRr.out]
          · exact hno.out q (by omega) hql
        go_wp2_with fail
        refine HC.out.mono ?_
        rintro e w2 ⟨rfl, b2⟩
        have hb2 := Lib.hid (bt hb.out b2)
        clear b2 q0 q1 q2
        go_wp2
        go_roundw
        case rel => exact ⟨j + 1, by omega, by go_num, hno2, hb2⟩
        case measure => simp [intOf]; omega
      · have hpos : Hid (posD badC l = (j : Int)) := Lib.hid (by
          obtain ⟨hjl, hx⟩ := HX.out
          have e : posC badC l = j := by
            unfold posC
            rw [List.findIdx_eq hjl]
            exact ⟨by rw [← hx]; exact HRr.out.symm, fun q hq => hno.out q hq (by omega)⟩
          unfold posD
          rw [e, if_pos hjl])
        go_wp2_with fail
        refine HC.out.mono ?_
        rintro e w2 ⟨rfl, b2⟩
        have hb2 := Lib.hid (bt hb.out b2)
        clear b2 q0 q1 q2
        go_wp2
        go_ret
        exact ⟨by rw [hpos.out]; rfl, hb2.out⟩
    · obtain rfl : j = n := by omega
      have hjI : ¬ (j : Int) < (j : Int) := by omega
      have hpos : Hid (posD badC l = -1) := Lib.hid (by
        have e : posC badC l = l.length := by
          unfold posC
          rw [List.findIdx_eq_length]
          intro x hx
          obtain ⟨q, hq, rfl⟩ := List.mem_iff_getElem.1 hx
          exact hno.out q (by rw [hn.out]; exact hq) hq
        unfold posD
        rw [e, if_neg (by omega)])
      go_wp2
      go_ret
      exact ⟨by rw [hpos.out]; rfl, hb.out⟩
theorem containsb_any (A : Option Addr) (l : List Ch) (n c : Nat) (hn : Hid (n = l.length)) (hm : n ≤ 1000000) (w : World) (h : InL w A l) :
    Calls Tryz.prog 56 #[.slice A n c, .func (.func 57) #[] #[]] w fun e w' => e = .returned (.bool (l.any badC)) ∧ Below w.heap.size w w' := by
  have HX := Lib.hid (indexb_any A l n c hn hm w h)
  clear h
  by_cases hp : posC badC l < l.length
  · have hR : Hid (l.any badC = true) := Lib.hid (by
      rw [List.any_eq_true]
      exact ⟨_, List.getElem_mem hp, List.findIdx_getElem (p := badC) (xs := l) (w := hp)⟩)
    have hD : posD badC l = (posC badC l : Nat) := if_pos hp
    rw [hD] at HX
    generalize posC badC l = j at HX hp
    go_enter Tryz.func56, Tryz.ntmps56
    go_wp2_with fail
    refine HX.out.mono ?_
    rintro e w1 ⟨rfl, b1⟩
    have HB := Lib.hid b1
    clear b1
    go_wp2
    go_ret
    exact ⟨by rw [hR.out]; simp, HB.out⟩
  · have hR : Hid (l.any badC = false) := Lib.hid (by
      rw [List.any_eq_false]
      intro x hx hb
      exact hp (List.findIdx_lt_length_of_exists ⟨x, hx, hb⟩))
    have hD : posD badC l = -1 := if_neg hp
    rw [hD] at HX
    go_enter Tryz.func56, Tryz.ntmps56
    go_wp2_with fail
    refine HX.out.mono ?_
    rintro e w1 ⟨rfl, b1⟩
    have HB := Lib.hid b1
    clear b1
    go_wp2
    go_ret
    exact ⟨by rw [hR.out]; rfl, HB.out⟩
theorem own_ne {w : World} {base : Nat} {e t : TypeId} {A : Option Addr} {c g : Nat} {l : List UInt8} {cs : Array Value} (h : Own w base e A c l) (hb : Blk w g t cs) (hne : t ≠ e) : some g ≠ blk A := by
  rcases h.2 with ⟨h1, h2⟩ | ⟨g', cap, cur, h1, _, hg, _⟩
  · simp only [Value.slice.injEq] at h1
    obtain ⟨rfl, _, _⟩ := h1
    simp [blk]
  · simp only [Value.slice.injEq] at h1
    obtain ⟨rfl, _, _⟩ := h1
    intro e'
    simp [blk] at e'
    subst e'
    unfold Blk at hb
    rw [hb] at hg
    injection hg with hg
    injection hg with _ ht
    exact hne ht
set_option maxHeartbeats 1000000 in
theorem number_any (B : Nat) (A : Option Addr) (l : List UInt8) (L c v m : Nat) (mi : Int) (hmi : mi = (m : Nat)) (w : World) (hL : Hid (L = l.length)) (h1 : 1 ≤ m) (h8 : m ≤ 8) (hv : v < 18446744073709551616) (hf : v / 256 ^ m = 0) (own : Own w B 5 A c l) (hB : B ≤ w.heap.size) (hl : L ≤ 1000000) :
    Calls Tryz.prog 58 #[.slice A L c, .int .u64 (v : Nat), .int .i64 mi] w fun e w' => ∃ A2 c2 J, e = .returned (.slice A2 J c2) ∧ Hid (J = L + m ∧ Own w' B 5 A2 c2 (l ++ Oc.putL v m) ∧ w.grownBy w' (blk A)) := by
  subst hmi
  obtain ⟨i0, hi, hz0, hz1, hz2⟩ := info_parts Oc.Tryz.infoU8
  have HP := Lib.hid (Oc.put_fits v m w hv h1 h8 hf)
  have HM : Hid (m = (Oc.putL v m).length) := Lib.hid (Oc.putL_length _ _).symm
  have HO := Lib.hid own
  have hlen : Hid (l.length + (Oc.putL v m).length ≤ 140737488355328) := Lib.hid (by rw [← hL.out, Oc.putL_length]; omega)
  clear own hv hf
  go_enter Tryz.func58, Tryz.ntmps58
  go_wp2_with fail
  refine HP.out.mono ?_
  rintro e w1 ⟨A3, c3, rfl, own3, b1⟩
  have own1 := HO.out.below b1 (Nat.le_refl _)
  have hB1 : B ≤ w1.heap.size := Nat.le_trans hB b1.size
  have hg1 := lbelow_grown b1 (blk A)
  simp only [← HM.out]
  clear b1
  go_wp2_with (at_builtin; refine wpList_append_bs _ rfl _ _ 68 rfl B 5 i0 _ Tryz.underlying68 hi hz0 hz1 hz2 rfl A c l L rfl hL.out own1 _ A3 c3 (Oc.putL v m) m rfl HM.out own3.bs hlen.out hB1 ?_; intro A4 c4 w4 own4 hg4 _)
  go_ret
  exact ⟨A4, c4, L + m, rfl, Lib.hid ⟨rfl, own4, hg1.trans hg4⟩⟩
/-- What Write hands out. -/
def WrO (w : World) (r : List UInt8 × Int) (e : Ending) (w' : World) : Prop :=
  ∃ A q c, e = .returned (.tuple #[.slice A q c, .int .i64 r.2]) ∧ Hid (q = r.1.length ∧ Own w' w.heap.size 5 A c r.1 ∧ Below w.heap.size w w')
theorem k_fits {k : Int} (h1 : 1 ≤ k) (h4 : k ≤ 4) : k.toNat < 18446744073709551616 ∧ k.toNat / 256 ^ 1 = 0 := by
  refine ⟨by omega, ?_⟩
  rw [Nat.pow_one]
  omega
theorem y_fits {y : Nat} (h : y < 18446744073709551616) : y / 256 ^ 8 = 0 := by
  have : (256 : Nat) ^ 8 = 18446744073709551616 := by decide
  rw [this]
  exact Nat.div_eq_of_lt h
set_option maxRecDepth 100000 in
set_option maxHeartbeats 4000000 in
theorem write_any (A : Option Addr) (l : List Ch) (n c : Nat) (hn : Hid (n = l.length)) (hm : n ≤ 1000000) (w : World) (h : InL w A l) (hv : ∀ x ∈ l, x.v < 18446744073709551616 ∧ x.y ≤ 9223372036854775807) :
    Calls Tryz.prog 22 #[.slice A n c] w (WrO w (writeC l)) := by
  have HL := Lib.hid h
  have HV := Lib.hid hv
  by_cases h48 : 48 < n
  · have h48I : (48 : Int) < (n : Int) := by omega
    have hR : writeC l = ([], 2) := if_pos (by rw [← hn.out]; exact h48)
    rw [hR]
    clear h hv
    go_enter Tryz.func22, Tryz.ntmps22
    go_wp2
    go_ret2
    exact ⟨none, 0, 0, rfl, Lib.hid ⟨rfl, Own.nil, Below.refl _ _⟩⟩
  · have h48I : ¬ (48 : Int) < (n : Int) := by omega
    have HC := Lib.hid (containsb_any A l n c hn hm w h)
    obtain ⟨bd, hbd⟩ : ∃ bd, bd = l.any badC := ⟨_, rfl⟩
    rw [← hbd] at HC
    obtain ⟨R, hR⟩ : ∃ R, R = writeC l := ⟨_, rfl⟩
    rw [← hR]
    have HR := Lib.hid hR
    have HBd := Lib.hid hbd
    clear h hv hR hbd
    rcases bd with _ | _
    · have HR2 : Hid (R = (bytesC l, 0)) := Lib.hid (by rw [HR.out]; unfold writeC; rw [if_neg (by rw [← hn.out]; exact h48), ← HBd.out, if_neg (by simp)])
      obtain ⟨base, hbase⟩ : ∃ base, base = w.heap.size := ⟨_, rfl⟩
      have HBs := Lib.hid hbase
      go_enter Tryz.func22, Tryz.ntmps22
      go_wp2_with fail
      refine HC.out.mono ?_
      rintro e w1 ⟨rfl, b1⟩
      have H0 : Hid (Own w1 base 5 none 0 (bytesC (l.take 0)) ∧ Below base w w1 ∧ 0 = (bytesC (l.take 0)).length) := Lib.hid ⟨Own.nil, by rw [hbase]; exact b1, rfl⟩
      have hs1 : base ≤ w1.heap.size := by rw [hbase]; exact b1.size
      clear b1 HC hbase
      go_wp2_with fail
      go_loopw [4, 16] (fun bv iv wr => ∃ (j J : Nat) (A2 : Option Addr) (c2 : Nat), j ≤ n ∧ iv = .int .i64 j ∧ bv = .slice A2 J c2 ∧ Hid (Own wr base 5 A2 c2 (bytesC (l.take j)) ∧ Below base w wr ∧ J = (bytesC (l.take j)).length)) (fun _ iv _ => n - (intOf iv).toNat)
      case atStart => exact ⟨0, 0, none, 0, Nat.zero_le _, rfl, rfl, H0⟩
      case round =>
        obtain ⟨j, J, A2, c2, hj, rfl, rfl, HI⟩ := hrel
        by_cases hjn : j < n
        · have hjI : (j : Int) < (n : Int) := by omega
          have hjl : j < l.length := by rw [← hn.out]; exact hjn
          obtain ⟨own, hb, hJ⟩ := HI.out
          have hbw : Below w.heap.size w wr := by rw [← HBs.out]; exact hb
          obtain ⟨b, o, rfl, _, hcs⟩ := (HL.out.below hbw) (by omega)
          obtain ⟨q0, q1, q2⟩ := hcs j hjl
          obtain ⟨x, hx⟩ : ∃ x, x = l[j]'hjl := ⟨_, rfl⟩
          have hbx : badC x = false := by
            have := HBd.out.symm
            rw [List.any_eq_false] at this
            have h2 := this x (by rw [hx]; exact List.getElem_mem hjl)
            simpa using h2
          have hvx := HV.out x (by rw [hx]; exact List.getElem_mem hjl)
          have htk : bytesC (l.take (j + 1)) = bytesC (l.take j) ++ recB x := by rw [List.take_add_one, List.getElem?_eq_getElem hjl, ← hx]; exact bytesC_snoc _ _
          rw [← hx] at q0 q1 q2
          obtain ⟨xk, xy, xv⟩ := x
          dsimp only at q0 q1 q2 hvx
          unfold badC at hbx
          simp at hbx
          obtain ⟨k, rfl⟩ := Int.eq_ofNat_of_zero_le (show 0 ≤ xk by omega)
          obtain ⟨y, rfl⟩ := Int.eq_ofNat_of_zero_le (show 0 ≤ xy by omega)
          have hJ17 : J ≤ 17 * 48 := by
            have h2 := bytesC_len (l.take j)
            rw [List.length_take] at h2
            omega
          have hkf := k_fits (k := (k : Int)) (by omega) (by omega)
          rw [Int.toNat_natCast] at hkf
          have hyf : y < 18446744073709551616 := by omega
          have hyf2 := y_fits hyf
          have hvf2 := y_fits hvx.1
          unfold recB at htk
          dsimp only at htk
          rw [Int.toNat_natCast, Int.toNat_natCast, ← List.append_assoc, ← List.append_assoc] at htk
          have c1 : IntKind.u64.wrap (k : Int) = (k : Int) := IntWalk.u64_in _ (by omega)
          have c2' : IntKind.u64.wrap (y : Int) = (y : Int) := IntWalk.u64_in _ (by omega)
          have HTk := Lib.hid htk
          have HO := Lib.hid own
          have HB := Lib.hid hb
          have HJ := Lib.hid hJ
          obtain ⟨wa, hwa⟩ : ∃ wa, wa = wr.alloc (.cells #[.int .i64 (k : Int), .int .i64 (y : Int), .int .u64 (xv : Nat)] 74) := ⟨_, rfl⟩
          have ka : Blk wa wr.heap.size 74 #[.int .i64 (k : Int), .int .i64 (y : Int), .int .u64 (xv : Nat)] := by rw [hwa]; exact Blk.new _ _ _
          have hsz : base ≤ wr.heap.size := by rw [HBs.out]; exact hb.size
          have ba1 : Below wr.heap.size wr wa := by rw [hwa]; exact ba _ _
          have own1 := own.below ba1 (Nat.le_refl _)
          have hs1' := Nat.le_trans hsz ba1.size
          have hb1 : Below base w wa := hb.trans (ba1.mono hsz)
          have HN1 := Lib.hid (number_any base A2 _ J c2 k 1 1 rfl wa (Lib.hid hJ) (by omega) (by omega) hkf.1 hkf.2 own1 hs1' (by omega))
          have H1 := Lib.hid (And.intro ka (And.intro own1 (And.intro hs1' hb1)))
          have HWa := Lib.hid hwa
          have HF3 := Lib.hid (And.intro hyf (And.intro hyf2 (And.intro hvx.1 hvf2)))
          have p0 := ka.cell 0
          simp only [List.getElem?_toArray, List.getElem?_cons_zero, List.getElem?_cons_succ] at p0
          rw [hwa] at p0
          clear own hb hJ HI hbw hcs hx hbx hvx htk hkf hyf hyf2 hvf2 ka hwa hsz ba1 own1 hs1' hb1
          go_wp2_with fail
          rw [← HWa.out]
          refine HN1.out.mono ?_
          rintro e w3 ⟨A3, c3, J3, rfl, HX3⟩
          have k3 := H1.out.1.kept HX3.out.2.2 (own_ne H1.out.2.1 H1.out.1 (by decide))
          have hs3 : base ≤ w3.heap.size := Nat.le_trans H1.out.2.2.1 HX3.out.2.2.size
          have hb3 : Below base w w3 := H1.out.2.2.2.grown HX3.out.2.2 H1.out.2.2.1 (fun k e => (H1.out.2.1.lt _ e).1)
          have HN3 := Lib.hid (number_any base A3 _ J3 c3 y 8 8 rfl w3 (Lib.hid (by rw [HX3.out.1, List.length_append, Oc.putL_length, ← HJ.out])) (by omega) (by omega) HF3.out.1 HF3.out.2.1 HX3.out.2.1 hs3 (by have := HX3.out.1; omega))
          have H3 := Lib.hid (And.intro k3 (And.intro hs3 hb3))
          have p1 := k3.cell 1
          simp only [List.getElem?_toArray, List.getElem?_cons_zero, List.getElem?_cons_succ] at p1
          clear k3 hs3 hb3 p0 q0 q1 q2 HN1
          go_wp2_with fail
          refine HN3.out.mono ?_
          rintro e w5 ⟨A5, c5, J5, rfl, HX5⟩
          have k5 := H3.out.1.kept HX5.out.2.2 (own_ne HX3.out.2.1 H3.out.1 (by decide))
          have hs5 : base ≤ w5.heap.size := Nat.le_trans H3.out.2.1 HX5.out.2.2.size
          have hb5 : Below base w w5 := H3.out.2.2.grown HX5.out.2.2 H3.out.2.1 (fun k e => (HX3.out.2.1.lt _ e).1)
          have HN5 := Lib.hid (number_any base A5 _ J5 c5 xv 8 8 rfl w5 (Lib.hid (by rw [HX5.out.1, HX3.out.1, List.length_append, List.length_append, Oc.putL_length, Oc.putL_length, ← HJ.out])) (by omega) (by omega) HF3.out.2.2.1 HF3.out.2.2.2 HX5.out.2.1 hs5 (by have := HX3.out.1; have := HX5.out.1; omega))
          have H5 := Lib.hid (And.intro k5 (And.intro hs5 hb5))
          have p2 := k5.cell 2
          simp only [List.getElem?_toArray, List.getElem?_cons_zero, List.getElem?_cons_succ] at p2
          clear k5 hs5 hb5 p1 HN3
          go_wp2_with fail
          refine HN5.out.mono ?_
          rintro e w7 ⟨A7, c7, J7, rfl, HX7⟩
          have hb7 : Below base w w7 := H5.out.2.2.grown HX7.out.2.2 H5.out.2.1 (fun k e => (HX5.out.2.1.lt _ e).1)
          have HN : Hid (Own w7 base 5 A7 c7 (bytesC (l.take (j + 1))) ∧ Below base w w7 ∧ J7 = (bytesC (l.take (j + 1))).length) := Lib.hid (by
            have hl := bytesC_len (l.take (j + 1))
            refine ⟨by rw [HTk.out]; exact HX7.out.2.1, hb7, ?_⟩
            rw [HTk.out, List.length_append, List.length_append, List.length_append, Oc.putL_length, Oc.putL_length, Oc.putL_length, ← HJ.out, HX7.out.1, HX5.out.1, HX3.out.1])
          clear hb7 p2 HN5 HX3 HX5 HX7 H1 H3 H5
          go_wp2
          go_roundw
          case rel => exact ⟨j + 1, J7, A7, c7, by omega, by go_num, rfl, HN⟩
          case measure => simp [intOf]; omega
        · obtain rfl : j = n := by omega
          have hjI : ¬ (j : Int) < (j : Int) := by omega
          obtain ⟨own, hb, hJ⟩ := HI.out
          rw [List.take_of_length_le (by rw [← hn.out]; exact Nat.le_refl _)] at own hJ
          have HF := Lib.hid (And.intro own (And.intro hb hJ))
          clear own hb hJ HI
          go_wp2
          go_ret2
          rw [HR2.out]
          exact ⟨A2, J, c2, rfl, Lib.hid ⟨HF.out.2.2, by rw [← HBs.out]; exact HF.out.1, by rw [← HBs.out]; exact HF.out.2.1⟩⟩
    · have HR2 : Hid (R = ([], 30)) := Lib.hid (by rw [HR.out]; unfold writeC; rw [if_neg (by rw [← hn.out]; exact h48), ← HBd.out, if_pos rfl])
      go_enter Tryz.func22, Tryz.ntmps22
      go_wp2_with fail
      refine HC.out.mono ?_
      rintro e w1 ⟨rfl, b1⟩
      have HB := Lib.hid b1
      clear b1
      go_wp2
      go_ret2
      rw [HR2.out]
      exact ⟨none, 0, 0, rfl, Lib.hid ⟨rfl, Own.nil, HB.out⟩⟩
end Go.Proofs.YtlliaihmfimdoaaGreat.Re

namespace Go.Proofs.YtlliaihmfimdoaaGreat.Re
open Go.RowKit Go.Shelf Go.Maps Go.Deep Go.Proofs.YtlliaihmfimdoaaGreat
attribute [local go_sem] Oper.semAt_some
set_option linter.unusedVariables false
set_option linter.unusedSimpArgs false

/-- What 17 bytes say. -/
def chg (bs : List UInt8) : Ch × Int :=
  if Oc.num (bs.take 1) < 1 ∨ 4 < Oc.num (bs.take 1) ∨ 4611686018427387904 < Oc.num ((bs.drop 1).take 8) then (⟨0, 0, 0⟩, 30)
  else (⟨(Oc.num (bs.take 1) : Nat), (Oc.num ((bs.drop 1).take 8) : Nat), Oc.num (bs.drop 9)⟩, 0)
theorem bs_at {w : World} {B b o : Nat} {l : List UInt8} (h : Bs w B (some ⟨b, o, none⟩) l) (k m : Nat) : Bs w B (some ⟨b, o + k, none⟩) ((l.drop k).take m) := fun hp => by
  rw [List.length_take, List.length_drop] at hp
  obtain ⟨b', o', e, h1, h2⟩ := h (by omega)
  cases e
  refine ⟨b, o + k, rfl, h1, fun i hi => ?_⟩
  rw [List.length_take, List.length_drop] at hi
  rw [List.getElem_take, List.getElem_drop, Nat.add_assoc]
  exact h2 _ _
theorem bs_below {w w' : World} {A : Option Addr} {l : List UInt8} (h : Bs w w.heap.size A l) (hb : Below w.heap.size w w') : Bs w' w'.heap.size A l := fun hp => by
  obtain ⟨b, o, e, h1, h2⟩ := h hp
  refine ⟨b, o, e, Nat.lt_of_lt_of_le h1 hb.size, fun i hi => ?_⟩
  have := h2 i hi
  exact (hb.cell (p := ⟨b, o + i, none⟩) h1).trans this
theorem get_n (A : Option Addr) (l : List UInt8) (n c : Nat) (w : World) (hn : n = l.length) (h1 : 1 ≤ n) (h8 : n ≤ 8) (h : Bs w w.heap.size A l) :
    Calls Tryz.prog 100 #[.slice A n c] w fun e w' => e = .returned (.tuple #[.int .u64 (Oc.num l : Nat), .int .i64 0]) ∧ w = w' := by
  have hg : Oc.getR l = (Oc.num l, 0) := if_pos (by omega)
  have := Oc.get_any A l c w (by omega) h
  rw [hg, ← hn] at this
  exact this
set_option maxRecDepth 100000 in
set_option maxHeartbeats 2000000 in
theorem change_any (A : Option Addr) (bs : List UInt8) (w : World) (hl : bs.length = 17) (h : Bs w w.heap.size A bs) :
    Calls Tryz.prog 60 #[.slice A 17 17] w fun e w' => e = .returned (.tuple #[(chg bs).1.val, .int .i64 (chg bs).2]) ∧ Below w.heap.size w w' := by
  obtain ⟨b, o, rfl, hlt, hc⟩ := h (by omega)
  obtain ⟨wa, hwa⟩ : ∃ wa, wa = w.alloc (.cells #[.int .i64 0, .int .i64 0, .int .u64 0] 74) := ⟨_, rfl⟩
  have b1 : Below w.heap.size w wa := by rw [hwa]; exact ba _ _
  have h1 := bs_below h b1
  have l1 : 1 = ((bs.drop 0).take 1).length := by rw [List.length_take, List.length_drop]; omega
  have l2 : 8 = ((bs.drop 1).take 8).length := by rw [List.length_take, List.length_drop]; omega
  have l3 : 8 = ((bs.drop 9).take 8).length := by rw [List.length_take, List.length_drop]; omega
  have G1 := Lib.hid (fun c => get_n (some ⟨b, o, none⟩) ((bs.drop 0).take 1) 1 c wa l1 (by omega) (by omega) (bs_at h1 0 1))
  have G2 := Lib.hid (fun c => get_n (some ⟨b, o + 1, none⟩) ((bs.drop 1).take 8) 8 c wa l2 (by omega) (by omega) (bs_at h1 1 8))
  have G3 := Lib.hid (fun c => get_n (some ⟨b, o + 9, none⟩) ((bs.drop 9).take 8) 8 c wa l3 (by omega) (by omega) (bs_at h1 9 8))
  have t9 : (bs.drop 9).take 8 = bs.drop 9 := List.take_of_length_le (by rw [List.length_drop]; omega)
  rw [t9] at G3
  rw [List.drop_zero] at G1
  have n1 := Oc.num_lt (bs.take 1)
  have n2 := Oc.num_lt64 ((bs.drop 1).take 8) (by omega)
  have n3 := Oc.num_lt64 (bs.drop 9) (by rw [List.length_drop]; omega)
  rw [List.drop_zero] at l1
  rw [← l1] at n1
  have n1' : Oc.num (bs.take 1) < 256 := by simpa using n1
  obtain ⟨K, hK⟩ : ∃ K, K = Oc.num (bs.take 1) := ⟨_, rfl⟩
  obtain ⟨Y, hY⟩ : ∃ Y, Y = Oc.num ((bs.drop 1).take 8) := ⟨_, rfl⟩
  obtain ⟨V, hV⟩ : ∃ V, V = Oc.num (bs.drop 9) := ⟨_, rfl⟩
  have hR : chg bs = if K < 1 ∨ 4 < K ∨ 4611686018427387904 < Y then (⟨0, 0, 0⟩, 30) else (⟨(K : Nat), (Y : Nat), V⟩, 0) := by rw [hK, hY, hV]; rfl
  rw [← hK] at G1 n1'
  rw [← hY] at G2 n2
  rw [← hV] at G3 n3
  rw [hR]
  have k1 : Blk wa w.heap.size 74 #[.int .i64 0, .int .i64 0, .int .u64 0] := by rw [hwa]; exact Blk.new _ _ _
  have HW := Lib.hid hwa
  have H1 := Lib.hid (And.intro b1 k1)
  have c0 := k1.cell 0
  have c1 := k1.cell 1
  have c2 := k1.cell 2
  have f0 := k1.frozen 0
  have f1 := k1.frozen 1
  have f2 := k1.frozen 2
  simp only [List.getElem?_toArray, List.getElem?_cons_zero, List.getElem?_cons_succ] at c0 c1 c2
  clear h hc b1 h1 l1 l2 l3 t9 n1 hK hY hV hR k1 hwa hl
  have hset : ∀ x y z : Value, Below w.heap.size w (((wa.setCell ⟨w.heap.size, 0, none⟩ x).setCell ⟨w.heap.size, 1, none⟩ y).setCell ⟨w.heap.size, 2, none⟩ z) ∧ Blk (((wa.setCell ⟨w.heap.size, 0, none⟩ x).setCell ⟨w.heap.size, 1, none⟩ y).setCell ⟨w.heap.size, 2, none⟩ z) w.heap.size 74 #[x, y, z] := fun x y z =>
    ⟨((H1.out.1.setCell (p := ⟨w.heap.size, 0, none⟩) (Nat.le_refl _) x).setCell (p := ⟨w.heap.size, 1, none⟩) (Nat.le_refl _) y).setCell (p := ⟨w.heap.size, 2, none⟩) (Nat.le_refl _) z, by simpa using ((H1.out.2.set_ 0 x).set_ 1 y).set_ 2 z⟩
  have HS := Lib.hid hset
  clear hset
  obtain ⟨rb, hrb⟩ : ∃ rb, rb = w.heap.size := ⟨_, rfl⟩
  rw [← hrb] at c0 c1 c2 f0 f1 f2 HS
  have HRb := Lib.hid hrb
  clear hrb
  by_cases h1 : K < 1
  · have h1I : (K : Int) < 1 := by omega
    rw [if_pos (.inl h1)]
    go_enter Tryz.func60, Tryz.ntmps60
    go_wp2_with fail
    rw [← HW.out, ← HRb.out]
    refine (G1.out _).mono ?_
    rintro e w1 ⟨rfl, rfl⟩
    go_wp2_with fail
    refine (G2.out _).mono ?_
    rintro e w1 ⟨rfl, rfl⟩
    go_wp2_with fail
    refine (G3.out _).mono ?_
    rintro e w1 ⟨rfl, rfl⟩
    go_wp2
    obtain ⟨hb, kk⟩ := HS.out (.int .i64 0) (.int .i64 0) (.int .u64 0)
    have r0 := kk.cell 0
    have r1 := kk.cell 1
    have r2 := kk.cell 2
    simp only [List.getElem?_toArray, List.getElem?_cons_zero, List.getElem?_cons_succ] at r0 r1 r2
    refine bodyPost_ret (by simp [results, Tryz.results60, go_sem, r0, r1, r2]; try rfl) rfl ?_
    exact ⟨rfl, hb.mono (Nat.le_of_eq HRb.out.symm)⟩
  · have h1I : ¬ (K : Int) < 1 := by omega
    by_cases h2 : 4 < K
    · have h2I : (4 : Int) < (K : Int) := by omega
      rw [if_pos (.inr (.inl h2))]
      go_enter Tryz.func60, Tryz.ntmps60
      go_wp2_with fail
      rw [← HW.out, ← HRb.out]
      refine (G1.out _).mono ?_
      rintro e w1 ⟨rfl, rfl⟩
      go_wp2_with fail
      refine (G2.out _).mono ?_
      rintro e w1 ⟨rfl, rfl⟩
      go_wp2_with fail
      refine (G3.out _).mono ?_
      rintro e w1 ⟨rfl, rfl⟩
      go_wp2
      obtain ⟨hb, kk⟩ := HS.out (.int .i64 0) (.int .i64 0) (.int .u64 0)
      have r0 := kk.cell 0
      have r1 := kk.cell 1
      have r2 := kk.cell 2
      simp only [List.getElem?_toArray, List.getElem?_cons_zero, List.getElem?_cons_succ] at r0 r1 r2
      refine bodyPost_ret (by simp [results, Tryz.results60, go_sem, r0, r1, r2]; try rfl) rfl ?_
      exact ⟨rfl, hb.mono (Nat.le_of_eq HRb.out.symm)⟩
    · have h2I : ¬ (4 : Int) < (K : Int) := by omega
      by_cases h3 : 4611686018427387904 < Y
      · have h3I : (4611686018427387904 : Int) < (Y : Int) := by omega
        rw [if_pos (.inr (.inr h3))]
        go_enter Tryz.func60, Tryz.ntmps60
        go_wp2_with fail
        rw [← HW.out, ← HRb.out]
        refine (G1.out _).mono ?_
        rintro e w1 ⟨rfl, rfl⟩
        go_wp2_with fail
        refine (G2.out _).mono ?_
        rintro e w1 ⟨rfl, rfl⟩
        go_wp2_with fail
        refine (G3.out _).mono ?_
        rintro e w1 ⟨rfl, rfl⟩
        go_wp2
        obtain ⟨hb, kk⟩ := HS.out (.int .i64 0) (.int .i64 0) (.int .u64 0)
        have r0 := kk.cell 0
        have r1 := kk.cell 1
        have r2 := kk.cell 2
        simp only [List.getElem?_toArray, List.getElem?_cons_zero, List.getElem?_cons_succ] at r0 r1 r2
        refine bodyPost_ret (by simp [results, Tryz.results60, go_sem, r0, r1, r2]; try rfl) rfl ?_
        exact ⟨rfl, hb.mono (Nat.le_of_eq HRb.out.symm)⟩
      · have h3I : ¬ (4611686018427387904 : Int) < (Y : Int) := by omega
        rw [if_neg (by omega)]
        go_enter Tryz.func60, Tryz.ntmps60
        go_wp2_with fail
        rw [← HW.out, ← HRb.out]
        refine (G1.out _).mono ?_
        rintro e w1 ⟨rfl, rfl⟩
        go_wp2_with fail
        refine (G2.out _).mono ?_
        rintro e w1 ⟨rfl, rfl⟩
        go_wp2_with fail
        refine (G3.out _).mono ?_
        rintro e w1 ⟨rfl, rfl⟩
        have cK : IntKind.i64.wrap (K : Int) = (K : Int) := IntWalk.i64_in _ (by omega)
        have cY : IntKind.i64.wrap (Y : Int) = (Y : Int) := IntWalk.i64_in _ (by omega)
        go_wp2
        obtain ⟨hb, kk⟩ := HS.out (.int .i64 (K : Nat)) (.int .i64 (Y : Nat)) (.int .u64 (V : Nat))
        have r0 := kk.cell 0
        have r1 := kk.cell 1
        have r2 := kk.cell 2
        simp only [List.getElem?_toArray, List.getElem?_cons_zero, List.getElem?_cons_succ] at r0 r1 r2
        refine bodyPost_ret (by simp [results, Tryz.results60, go_sem, r0, r1, r2]; try rfl) rfl ?_
        exact ⟨rfl, hb.mono (Nat.le_of_eq HRb.out.symm)⟩
theorem chunk_any (A : Option Addr) (n c : Nat) (w : World) :
    Calls Tryz.prog 59 #[.slice A n c, .int .i64 17] w fun e w' => e = .returned (.func (.func 99) #[] #[.pointer (some ⟨w.heap.size, 0, none⟩), .pointer (some ⟨w.heap.size + 1, 0, none⟩)]) ∧ Blk w' w.heap.size 68 #[.slice A n c] ∧ Blk w' (w.heap.size + 1) 3 #[.int .i64 17] ∧ Below w.heap.size w w' ∧ w'.heap.size = w.heap.size + 2 := by
  have k0 := (Blk.new w 68 #[.slice A n c]).alloc (.cells #[.int .i64 17] 3)
  have k1 := Blk.new (w.alloc (.cells #[.slice A n c] 68)) 3 #[.int .i64 17]
  rw [World.size_alloc] at k1
  have b2 : Below w.heap.size w ((w.alloc (.cells #[.slice A n c] 68)).alloc (.cells #[.int .i64 17] 3)) := bt (ba _ _) (ba _ _)
  have H := Lib.hid (And.intro k0 (And.intro k1 b2))
  clear k0 k1 b2
  go_enter Tryz.func59, Tryz.ntmps59
  go_wp2
  go_ret
  exact ⟨rfl, H.out.1, H.out.2.1, H.out.2.2, by simp⟩
end Go.Proofs.YtlliaihmfimdoaaGreat.Re

namespace Go.Proofs.YtlliaihmfimdoaaGreat.Re
open Go.RowKit Go.Shelf Go.Maps Go.Deep Go.Proofs.YtlliaihmfimdoaaGreat
attribute [local go_sem] Oper.semAt_some
set_option linter.unusedVariables false
set_option linter.unusedSimpArgs false

theorem cell_drw {w : World} {a : Addr} {v : Value} (h : w.cell? a = some v) (m : Nat) : (w.drewN m).cell? a = some v := h
def encC (b o : Nat) {m : Nat} (i : Fin m) : Array Value := #[.slice (some ⟨b, o + 17 * i.1, none⟩) 17 17]
/-- What a round keeps. -/
def KpC (B D0 D1 : Nat) (W W' : World) : Prop := W'.heap[D0]? = W.heap[D0]? ∧ W'.heap[D1]? = W.heap[D1]? ∧ Below B W W'
theorem range_next {m : Nat} {pre : List (Fin m)} (h : pre.map Fin.val = List.range pre.length) (hl : pre.length < m) : (pre ++ [(⟨pre.length, hl⟩ : Fin m)]).map Fin.val = List.range (pre ++ [(⟨pre.length, hl⟩ : Fin m)]).length := by
  rw [List.map_append, h, List.length_append, List.length_singleton, List.range_succ]; rfl
set_option maxRecDepth 100000 in
set_option maxHeartbeats 2000000 in
theorem chunk1_in (n : Nat) (hn : 2 ≤ n) (l D0 D1 B : Nat) (A : Option Addr) (b o m N c : Nat) (hA : 0 < m → A = some ⟨b, o, none⟩) (hN : N = 17 * m) (hcap : N ≤ c) (hc2 : c ≤ 9223372036854775807) (hm : m ≤ 1000)
    (J : List (Fin m) → World → Prop) (Y : List (Fin m) → World → Prop) (hJ : ∀ s W W', Below W.heap.size W W' → J s W → J s W')
    (hY : ∀ pre x W, J pre W → pre.length < m → YieldAt Fence.wide (n - 1) Tryz.prog l (encC b o x) W fun e W' => (e = .returned (.bool true) ∧ J (pre ++ [x]) W' ∧ KpC B D0 D1 W W') ∨ (e = .returned (.bool false) ∧ Y (pre ++ [x]) W'))
    (W : World) (hD0 : Blk W D0 68 #[.slice A N c]) (hD1 : Blk W D1 3 #[.int .i64 17]) (h0 : J [] W) :
    CallsIn Fence.wide n Tryz.prog 99 #[.func (.yield l) #[] #[], .pointer (some ⟨D0, 0, none⟩), .pointer (some ⟨D1, 0, none⟩)] W fun e W' => (∃ v, e = .returned v) ∧ ((∃ xs, (xs.map Fin.val = List.range m) ∧ J xs W') ∨ (∃ xs, (xs.map Fin.val <+: List.range m) ∧ Y xs W')) := by
  refine callsIn_of_wp Tryz.func99 rfl trivial ?_ rfl
  simp only [Tryz.ntmps99, List.size_toArray, List.length_cons, List.length_nil, Nat.reduceAdd, Nat.reduceSub, Array.replicate_succ, Array.replicate_zero, List.push_toArray, List.append_toArray, List.nil_append, List.cons_append]
  have HA := Lib.hid hA
  have HN := Lib.hid hN
  clear hA hN
  gi_wp2
  gi_loopw [4, 5] (fun iv ev wr => ∃ (pre : List (Fin m)) (q : Nat) (u : Value), u = ev ∧ iv = .int .i64 (q : Nat) ∧ Hid (q = 17 * pre.length ∧ pre.map Fin.val = List.range pre.length ∧ pre.length ≤ m) ∧ q ≤ N ∧
      Blk wr D0 68 #[.slice A N c] ∧ Blk wr D1 3 #[.int .i64 17] ∧ J pre wr)
    (fun iv _ _ => N - (intOf iv).toNat)
  case atStart => exact ⟨[], 0, _, rfl, rfl, Lib.hid ⟨rfl, rfl, Nat.zero_le _⟩, Nat.zero_le _, hD0, hD1, h0⟩
  case round =>
    obtain ⟨pre, q, u, rfl, rfl, hpre, hq, hD0, hD1, hJ1⟩ := hrel
    have c0 := hD0.cell 0
    have c1 := hD1.cell 0
    simp only [List.getElem?_toArray, List.getElem?_cons_zero] at c0 c1
    by_cases hlt : q < N
    · have hqI : (q : Int) < (N : Int) := by omega
      have hjm : pre.length < m := by have := HN.out; have := hpre.out.1; omega
      obtain rfl := HA.out (by omega)
      have h17 : q + 17 ≤ N := by have := HN.out; have := hpre.out.1; omega
      have e0 := fun k : Nat => cell_drw c0 k
      have e1 := fun k : Nat => cell_drw c1 k
      have q1 : (q : Int) ≤ (N : Int) := by omega
      have q2 : (q : Int) ≤ (c : Int) := by omega
      have q3 : (0 : Int) ≤ (q : Int) := by omega
      have q4 : (17 : Int) ≤ ((N - q : Nat) : Int) := by omega
      have HX : Hid (∀ k : Nat, Blk (wr.drewN k) D0 68 #[.slice (some ⟨b, o, none⟩) N c] ∧ Blk (wr.drewN k) D1 3 #[.int .i64 17] ∧ J pre (wr.drewN k)) := Lib.hid fun k => ⟨hD0, hD1, hJ pre wr (wr.drewN k) (show Below wr.heap.size wr (wr.drewN k) from ⟨rfl, rfl, rfl, Nat.le_refl _, fun _ _ => rfl⟩) hJ1⟩
      clear hD0 hD1 hJ1
      gi_wp2_with fail
      refine (wpIn_wide).2 ?_
      go_quiet (fail)
      have hmin : min 17 (((N - q : Nat)) : Int) = 17 := by omega
      rw [hmin]
      obtain ⟨hD0, hD1, hJ1⟩ := HX.out nq
      obtain ⟨w1, hw1⟩ : ∃ w1, w1 = wr.drewN nq := ⟨_, rfl⟩
      rw [← hw1] at hD0 hD1 hJ1 ⊢
      have c0 := hD0.cell 0
      have c1 := hD1.cell 0
      simp only [List.getElem?_toArray, List.getElem?_cons_zero] at c0 c1
      have p1 : IntKind.i64.wrap ((q : Int) + 17) = ((q + 17 : Nat) : Int) := by rw [IntWalk.i64_in _ (by omega)]; push_cast; rfl
      have p2 : ((q + 17 : Nat) : Int) ≤ (c : Int) := by omega
      have p3 : (q : Int) ≤ ((q + 17 : Nat) : Int) := by omega
      have p4 : (q : Int) + 17 ≤ (c : Int) := by omega
      obtain ⟨x, hx⟩ : ∃ x : Fin m, x = ⟨pre.length, hjm⟩ := ⟨_, rfl⟩
      have henc : encC b o x = #[.slice (some ⟨b, o + q, none⟩) 17 17] := by unfold encC; rw [hx, hpre.out.1]
      obtain ⟨fn, tmps, assign, body, hy, hR⟩ := hY pre x w1 hJ1 (by omega)
      rw [henc] at hy
      have HX2 := Lib.hid (And.intro hD0 (And.intro hD1 hx))
      clear e0 e1 hD0 hD1 hJ1 henc hx HX hw1
      gi_wp2
      refine ⟨fun _ => by omega, hR.mono ?_⟩
      have HPre : Hid ((pre ++ [x]).map Fin.val = List.range (pre ++ [x]).length ∧ (pre ++ [x]).length = pre.length + 1) := Lib.hid ⟨by rw [HX2.out.2.2]; exact range_next hpre.out.2.1 hjm, by simp⟩
      rintro e W3 (⟨rfl, hJ3, hk3⟩ | ⟨rfl, hY3⟩)
      · have hD0' : Blk W3 D0 68 #[.slice (some ⟨b, o, none⟩) N c] := hk3.1.trans HX2.out.1
        have hD1' : Blk W3 D1 3 #[.int .i64 17] := hk3.2.1.trans HX2.out.2.1
        have d0 := hD0'.cell 0
        have d1 := hD1'.cell 0
        simp only [List.getElem?_toArray, List.getElem?_cons_zero] at d0 d1
        have HN3 : Hid (q + 17 = 17 * (pre ++ [x]).length ∧ (pre ++ [x]).map Fin.val = List.range (pre ++ [x]).length ∧ (pre ++ [x]).length ≤ m) := Lib.hid ⟨by rw [HPre.out.2]; have := hpre.out.1; omega, HPre.out.1, by rw [HPre.out.2]; omega⟩
        clear hy hR c0 c1 p2 p3 p4 hmin hk3
        gi_wp2
        go_roundw
        case rel => exact ⟨pre ++ [x], q + 17, _, rfl, by first | rfl | (congr 1; push_cast; omega) | go_num, HN3, h17, hD0', hD1', hJ3⟩
        case measure => simp [intOf]; omega
      · clear hy hR c0 c1 p2 p3 p4 hmin
        gi_wp2
        (try simp only [Exit.inBlock, Exit.then]); refine bodyPost_ret (results_none rfl _ _ _) rfl ?_
        refine ⟨⟨_, rfl⟩, .inr ⟨pre ++ [x], ?_, hY3⟩⟩
        rw [HPre.out.1, HPre.out.2, List.prefix_iff_eq_take, List.length_range, List.take_range]
        congr 1
        omega
    · obtain rfl : q = N := by omega
      have hqI : ¬ (q : Int) < (q : Int) := by omega
      gi_wp2
      go_end0
      refine ⟨⟨_, rfl⟩, .inl ⟨pre, ?_, hJ1⟩⟩
      have := HN.out
      have h2 := hpre.out
      rw [h2.2.1]
      congr 1
      omega
end Go.Proofs.YtlliaihmfimdoaaGreat.Re

namespace Go.Proofs.YtlliaihmfimdoaaGreat.Re
open Go.RowKit Go.Shelf Go.Maps Go.Deep Go.Proofs.YtlliaihmfimdoaaGreat
attribute [local go_sem] Oper.semAt_some
set_option linter.unusedVariables false
set_option linter.unusedSimpArgs false

/-- The pieces of bytes; what Read answers. -/
def pcC (bs : List UInt8) (i : Nat) : List UInt8 := (bs.drop (17 * i)).take 17
def chsC (bs : List UInt8) (xs : List Nat) : List Ch := xs.map fun i => (chg (pcC bs i)).1
def readC (bs : List UInt8) : List Ch × Int :=
  if bs.length % 17 ≠ 0 then ([], 11) else if 48 < bs.length / 17 then ([], 2)
  else if (List.range (bs.length / 17)).all (fun i => (chg (pcC bs i)).2 == 0) = true then (chsC bs (List.range (bs.length / 17)), 0) else ([], 30)
theorem gput (W : World) (r : Nat) (o' : Obj) : W.grownBy (W.putObj r o') (some r) := ⟨rfl, rfl, rfl, by simp [World.putObj], fun k _ hk => World.putObj_heap_other (fun e => hk (by rw [e]))⟩
theorem blk_put {w : World} {g : Nat} {t : TypeId} {cs : Array Value} (h : Blk w g t cs) {r : Nat} (o' : Obj) (hne : g ≠ r) : Blk (w.putObj r o') g t cs := (World.putObj_heap_other hne).trans h
theorem ownC_grown {u u' : World} {B : Nat} {A : Option Addr} {c : Nat} {l : List Ch} {row : Option Nat} (h : OwnC u B A c l) (hg : u.grownBy u' row) (hr : ∀ r, row = some r → blk A ≠ some r) : OwnC u' B A c l := by
  refine World.ownsRow.kept h hg ?_
  rcases hb : (Value.slice A l.length c).ownBlock with _ | k
  · exact .inl rfl
  · rw [ownBlock_slice] at hb
    exact .inr (fun e => hr k e.symm hb)
theorem ownC_cells {u : World} {B : Nat} {A : Option Addr} {c : Nat} {l : List Ch} (h : OwnC u B A c l) {r : Nat} {o : Obj} (hr : u.heap[r]? = some o) (ho : o.isCells = false) : blk A ≠ some r := by
  intro e
  rcases h.2 with ⟨h1, h2⟩ | ⟨g, cap, cur, h1, hb, hg, _⟩
  · injection h1 with e1 e2 e3
    subst e1
    cases e
  · injection h1 with e1 e2 e3
    subst e1
    cases e
    rw [hg] at hr
    cases hr
    cases ho
/-- What Read has, while it goes on. -/
structure RdI (bs : List UInt8) (w : World) (B : Nat) (xs : List Nat) (W : World) : Prop where
  bel : Below w.heap.size w W
  size : B ≤ W.heap.size
  rA : Blk W w.heap.size 40 #[.slice none 0 0]
  rE : Blk W (w.heap.size + 1) 45 #[.int .i64 0]
  lst : ∃ A c, Blk W (w.heap.size + 2) 40 #[.slice A xs.length c] ∧ OwnC W B A c (chsC bs xs)
  ok : ∀ x ∈ xs, (chg (pcC bs x)).2 = 0
/-- What a round leaves that goes away. -/
structure RdX (bs : List UInt8) (w : World) (B : Nat) (xs : List Nat) (W : World) : Prop where
  bel : Below w.heap.size w W
  rA : Blk W w.heap.size 40 #[.slice none 0 0]
  rE : Blk W (w.heap.size + 1) 45 #[.int .i64 30]
  bad : ∃ x ∈ xs, (chg (pcC bs x)).2 ≠ 0
section
variable {bs : List UInt8} {w W W' : World} {B : Nat} {xs : List Nat}
theorem RdI.below (h : RdI bs w B xs W) (hb : Below W.heap.size W W') : RdI bs w B xs W' := by
  obtain ⟨A, c, h1, h2⟩ := h.lst
  exact ⟨bt h.bel hb, Nat.le_trans h.size hb.size, h.rA.below hb h.rA.lt, h.rE.below hb h.rE.lt, ⟨A, c, h1.below hb h1.lt, ownC_grown h2 (lbelow_grown hb none) (fun r e => by cases e)⟩, h.ok⟩
theorem RdI.put (h : RdI bs w B xs W) (hw : w.heap.size + 3 ≤ B) {r : Nat} {o : Obj} (o' : Obj) (hr : W.heap[r]? = some o) (ho : o.isCells = false) (hB : B ≤ r) : RdI bs w B xs (W.putObj r o') := by
  obtain ⟨A, c, h1, h2⟩ := h.lst
  exact ⟨h.bel.grown (gput W r o') h.bel.size (fun k e => by cases e; omega), by rw [World.putObj_size]; exact h.size, blk_put h.rA _ (by omega), blk_put h.rE _ (by omega), ⟨A, c, blk_put h1 _ (by omega), ownC_grown h2 (gput W r o') (fun k e => by cases e; exact ownC_cells h2 hr ho)⟩, h.ok⟩
theorem RdX.put (h : RdX bs w B xs W) (hw : w.heap.size + 3 ≤ B) {r : Nat} {o : Obj} (o' : Obj) (hr : W.heap[r]? = some o) (ho : o.isCells = false) (hB : B ≤ r) : RdX bs w B xs (W.putObj r o') :=
  ⟨h.bel.grown (gput W r o') h.bel.size (fun k e => by cases e; omega), blk_put h.rA _ (by omega), blk_put h.rE _ (by omega), h.bad⟩
end
/-- What Read hands out. -/
def RdO (w : World) (r : List Ch × Int) (e : Ending) (w' : World) : Prop :=
  ∃ A q c, e = .returned (.tuple #[.slice A q c, .int .i64 r.2]) ∧ Hid (q = r.1.length ∧ OwnC w' w.heap.size A c r.1 ∧ Below w.heap.size w w')
set_option maxRecDepth 100000 in
set_option maxHeartbeats 4000000 in
theorem read_any (A : Option Addr) (bs : List UInt8) (N c : Nat) (w : World) (hN : Hid (N = bs.length)) (hcap : Hid (N ≤ c)) (hc2 : Hid (c ≤ 9223372036854775807)) (hbs : Bs w w.heap.size A bs) :
    Calls Tryz.prog 23 #[.slice A N c] w (RdO w (readC bs)) := by
  have HBS := Lib.hid hbs
  clear hbs
  obtain ⟨R, hR⟩ : ∃ R, R = readC bs := ⟨_, rfl⟩
  rw [← hR]
  have HR := Lib.hid hR
  clear hR
  have hNm : (N : Int) ≤ 9223372036854775807 := by have := hcap.out; have := hc2.out; omega
  obtain ⟨m, hm⟩ : ∃ m, m = N / 17 := ⟨_, rfl⟩
  have hrem : (N : Int).tmod 17 = ((N % 17 : Nat) : Int) := by rw [Int.tmod_eq_emod_of_nonneg (by omega)]; omega
  have hquo : (N : Int).tdiv 17 = (m : Int) := by rw [Int.tdiv_eq_ediv_of_nonneg (by omega)]; omega
  have HM := Lib.hid hm
  clear hm
  by_cases h17 : N % 17 = 0
  · rw [h17] at hrem
    have hNe : N = 17 * m := by have := HM.out; omega
    by_cases h48 : 48 < m
    · have h48I : (48 : Int) < (m : Int) := by omega
      have hRR : R = ([], 2) := by rw [HR.out]; unfold readC; rw [if_neg (by rw [← hN.out, h17]; simp), if_pos (by rw [← hN.out, ← HM.out]; exact h48)]
      rw [hRR]
      go_enter Tryz.func23, Tryz.ntmps23
      go_wp2
      have k0 := (Blk.new w 40 #[.slice none 0 0]).alloc (.cells #[.int .i64 2] 45)
      have k1 := Blk.new (w.alloc (.cells #[.slice none 0 0] 40)) 45 #[.int .i64 2]
      rw [World.size_alloc] at k1
      have r0 := k0.cell 0
      have r1 := k1.cell 0
      simp only [List.getElem?_toArray, List.getElem?_cons_zero] at r0 r1
      refine bodyPost_ret (by simp [results, Tryz.results23, go_sem, r0, r1]; try rfl) rfl ?_
      exact ⟨none, 0, 0, rfl, Lib.hid ⟨rfl, OwnC.nil _ _, bt (ba _ _) (ba _ _)⟩⟩
    · have h48I : ¬ (48 : Int) < (m : Int) := by omega
      refine (callsIn_wide (n := 9)).1 ?_
      refine callsIn_of_wp_marks Tryz.func23 rfl trivial ?_ rfl
      simp only [Tryz.ntmps23, List.size_toArray, List.length_cons, List.length_nil, Nat.reduceAdd, Nat.reduceSub, Array.replicate_succ, Array.replicate_zero, List.push_toArray, List.append_toArray, List.nil_append, List.cons_append]
      have hRR : R = if (List.range m).all (fun i => (chg (pcC bs i)).2 == 0) = true then (chsC bs (List.range m), 0) else ([], 30) := by
        rw [HR.out]; unfold readC; rw [if_neg (by rw [← hN.out, h17]; simp), if_neg (by rw [← hN.out, ← HM.out]; exact h48), ← hN.out, ← HM.out]
      have HRR := Lib.hid hRR
      have HNe := Lib.hid hNe
      have hmm : m ≤ 48 := by omega
      obtain ⟨b, o, hA⟩ : ∃ b o, 0 < m → A = some ⟨b, o, none⟩ := by
        by_cases h0 : 0 < m
        · obtain ⟨b, o, e, _⟩ := HBS.out (by rw [← hN.out]; omega)
          exact ⟨b, o, fun _ => e⟩
        · exact ⟨0, 0, fun h => absurd h h0⟩
      have HA := Lib.hid hA
      have HH := Lib.hid h17
      clear hNe hRR hA h48 HR h17
      gi_wp2_with fail
      obtain ⟨W0, hW0⟩ : ∃ W0, W0 = ((w.alloc (.cells #[.slice none 0 0] 40)).alloc (.cells #[.int .i64 0] 45)).alloc (.cells #[.slice none 0 0] 40) := ⟨_, rfl⟩
      rw [← hW0]
      have z0 : W0.heap.size = w.heap.size + 3 := by rw [hW0]; simp
      have r2 : Blk W0 w.heap.size 40 #[.slice none 0 0] := by rw [hW0]; exact ((Blk.new _ _ _).alloc _).alloc _
      have r3 : Blk W0 (w.heap.size + 1) 45 #[.int .i64 0] := by
        rw [hW0]; have := Blk.new (w.alloc (.cells #[.slice none 0 0] 40)) 45 #[.int .i64 0]; rw [World.size_alloc] at this; exact this.alloc _
      have r4 : Blk W0 (w.heap.size + 1 + 1) 40 #[.slice none 0 0] := by
        rw [hW0]; have := Blk.new ((w.alloc (.cells #[.slice none 0 0] 40)).alloc (.cells #[.int .i64 0] 45)) 40 #[.slice none 0 0]; rwa [World.size_alloc, World.size_alloc] at this
      have bW0 : Below w.heap.size w W0 := by rw [hW0]; exact bt (ba _ _) (bt (ba _ _) (ba _ _))
      clear hW0
      refine ⟨trivial, ((callsIn_wide).2 (chunk_any A N c W0)).mono ?_⟩
      rintro e w3 ⟨rfl, hD0, hD1, hb3, hz3⟩
      rw [z0] at hD0 hD1 hz3 ⊢
      have q2 := r2.below hb3 r2.lt
      have q3 := r3.below hb3 r3.lt
      have q4 := r4.below hb3 r4.lt
      have bw3 := bt bW0 hb3
      have hI0 : RdI bs w w3.heap.size [] w3 := ⟨bw3, Nat.le_refl _, q2, q3, ⟨none, 0, q4, OwnC.nil _ _⟩, fun x hx => by cases hx⟩
      clear r2 r3 r4 bW0 hb3 z0 q2 q3 q4
      gi_wp2_with fail
      refine wpIn_rangeFunc_leave (F := Fence.wide) rfl (by omega) (gf := 99) (lb := #[.pointer (some ⟨w.heap.size + 3, 0, none⟩), .pointer (some ⟨w.heap.size + 3 + 1, 0, none⟩)]) rfl trivial (enters_of Tryz.func99 (by kernel_rfl) rfl)
        (encs := encC b o (m := m)) (fun _ => rfl) (KpC w.heap.size (w.heap.size + 3) (w.heap.size + 3 + 1)) (fun pre W => RdI bs w w3.heap.size (pre.map Fin.val) W) (fun cd xs W => cd = .ret ∧ RdX bs w w3.heap.size (xs.map Fin.val) W)
        (fun xs => xs.map Fin.val = List.range m) (fun xs => xs.map Fin.val <+: List.range m) m
        (fun h k => ⟨k.1.trans h.1, k.2.1.trans h.2.1, RowKit.Below.trans h.2.2 k.2.2⟩)
        (fun W l o o' hl ho hoc => ⟨World.putObj_heap_other (by omega), World.putObj_heap_other (by omega), (Below.refl w.heap.size W).grown (gput W l o') (by have := (Array.getElem?_eq_some_iff.1 ho).1; omega) (fun k e => by cases e; omega)⟩)
        (fun s W l o o' hi hl ho hoc => hi.put (by omega) o' ho hoc hl)
        (fun cd s W l o o' hi hl ho hoc => ⟨hi.1, hi.2.put (by omega) o' ho hoc hl⟩)
        (fun o o' => (hI0.below (ba w3 o)).below (ba _ o'))
        ?iter (fun x a' W => a' = { tmps := #[.slice A N c, undef, .pointer (some ⟨w.heap.size, 0, none⟩), .pointer (some ⟨w.heap.size + 1, 0, none⟩), .pointer (some ⟨w.heap.size + 1 + 1, 0, none⟩), .slice (some ⟨b, o + 17 * x.1, none⟩) 17 17, undef, undef, .bool false, .slice A N c, .int .i64 N, .int .i64 0, .bool false, .bool false, .slice A N c, .int .i64 N, .int .i64 m, .bool false, .slice A N c, .func (.func 99) #[] #[.pointer (some ⟨w.heap.size + 3, 0, none⟩), .pointer (some ⟨w.heap.size + 3 + 1, 0, none⟩)], .slice (some ⟨b, o + 17 * x.1, none⟩) 17 17, undef, undef, undef, undef, undef, undef, undef, undef, undef, undef, undef, undef, undef], defers := [] })
        (fun x a' W l o o' h hl ho hoc => h) ?assign ?body ?done ?stop
      case iter =>
        intro l W1 Z Y hZ hbW1 hi hz hY
        have hstep := chunk1_in 8 (by omega) l (w.heap.size + 3) (w.heap.size + 3 + 1) w.heap.size A b o m N c HA.out HNe.out hcap.out hc2.out (by omega)
          (fun s W => RdI bs w w3.heap.size (s.map Fin.val) W ∧ Z W) Y
          (fun s W W' hb h => ⟨h.1.below hb, hZ _ _ ⟨hb.size, fun k o hk _ => (hb.block k (Array.getElem?_eq_some_iff.1 hk).1).trans hk⟩ h.2⟩)
          (fun pre x W hJ hl => (hY pre x W hJ.1 hJ.2 hl).mono fun e w' h => h.imp (fun h => ⟨h.1, ⟨h.2.1, h.2.2.1⟩, h.2.2.2⟩) id)
          W1 (hD0.below hbW1 hD0.lt) (hD1.below hbW1 hD1.lt) ⟨hi, hz⟩
        exact hstep.mono fun e W' h => ⟨h.1, h.2.imp (fun ⟨xs, h1, h2⟩ => ⟨xs, h1, h2.1, h2.2⟩) id⟩
      case assign =>
        intro l pre x W K hI hK
        simp [encC]
        gi_wp2
        exact hK _ _ (KeepsOthers.refl _) ⟨rfl, rfl, Below.refl _ _⟩ hI rfl
      case body =>
        intro l pre x a' W hl hr hI hAx hlen
        subst hAx
        have hxm := x.2
        have hmap : (pre ++ [x]).map Fin.val = pre.map Fin.val ++ [x.1] := by rw [List.map_append]; rfl
        have hpl : (pre.map Fin.val).length = pre.length := List.length_map ..
        obtain ⟨xi, hxi⟩ : ∃ xi, xi = x.1 := ⟨_, rfl⟩
        rw [← hxi] at hmap hxm ⊢
        obtain ⟨P, hP⟩ : ∃ P, P = pre.map Fin.val := ⟨_, rfl⟩
        rw [← hP] at hmap hpl
        have hI' : RdI bs w w3.heap.size P W := by rw [hP]; exact hI
        have Hmap := Lib.hid hmap
        clear hmap hP hI hxi
        obtain ⟨bel, hsz, hrA, hrE, ⟨Al, cl, hk4, own⟩, hok⟩ := hI'
        have hA' := HA.out (by omega)
        have hbsW := bs_below HBS.out bel
        rw [hA'] at hbsW
        have hpc : (pcC bs xi).length = 17 := by
          unfold pcC
          rw [List.length_take, List.length_drop, ← hN.out, HNe.out]
          omega
        have hch := change_any (some ⟨b, o + 17 * xi, none⟩) (pcC bs xi) W hpc (bs_at hbsW (17 * xi) 17)
        have hce : (chg (pcC bs xi)).2 = 0 ∨ (chg (pcC bs xi)).2 = 30 := by
          unfold chg
          split
          · exact .inr rfl
          · exact .inl rfl
        obtain ⟨C, hC⟩ : ∃ C, C = chg (pcC bs xi) := ⟨_, rfl⟩
        have HC := Lib.hid hC
        rw [← hC] at hch hce
        clear hC hbsW hpc hA'
        obtain ⟨⟨ck, cy, cv⟩, ce⟩ := C
        unfold Ch.val at hch
        dsimp only at hch hce
        have HCh := Lib.hid hch
        obtain ⟨pl, hplq⟩ : ∃ pl, pl = P.length := ⟨_, rfl⟩
        rw [← hplq] at hk4 hpl
        have hplb : pl < m := by omega
        clear hpl
        have HPl := Lib.hid hplq
        have H0 := Lib.hid (And.intro bel (And.intro hsz (And.intro hrA (And.intro hrE (And.intro hk4 (And.intro own hok))))))
        clear hch hplq bel hsz hrA hrE hk4 own hok
        gi_wp2_with fail
        refine ⟨trivial, (CallsIn.inRound l ((callsIn_wide).2 HCh.out)).mono ?_⟩
        rintro e w5 ⟨rfl, hb5⟩
        obtain ⟨bel, hsz, hrA, hrE, hk4, own, hok⟩ := H0.out
        obtain ⟨W6, hW6⟩ : ∃ W6, W6 = w5.alloc (.cells #[.int .i64 ck, .int .i64 cy, .int .u64 (cv : Nat)] 74) := ⟨_, rfl⟩
        have b56 : Below w5.heap.size w5 W6 := by rw [hW6]; exact ba _ _
        have b6 : Below W.heap.size W W6 := bt hb5 b56
        have k6 : Blk W6 w5.heap.size 74 #[.int .i64 ck, .int .i64 cy, .int .u64 (cv : Nat)] := by rw [hW6]; exact Blk.new _ _ _
        have hrA6 := hrA.below b6 hrA.lt
        have hrE6 := hrE.below b6 hrE.lt
        have hk6 := hk4.below b6 hk4.lt
        have own6 := ownC_grown own (lbelow_grown b6 none) (fun r e => by cases e)
        have bw6 := bt bel b6
        have ko6 : KeepsOthers W W6 := ⟨b6.size, fun k o hk _ => (b6.block k (Array.getElem?_eq_some_iff.1 hk).1).trans hk⟩
        rcases hce with rfl | rfl
        · have hs6 : w3.heap.size ≤ W6.heap.size := Nat.le_trans hsz b6.size
          obtain ⟨W7, hW7⟩ : ∃ W7, W7 = W6.alloc (.cells #[.int .i64 ck, .int .i64 cy, .int .u64 (cv : Nat)] 74) := ⟨_, rfl⟩
          have b67 : Below W6.heap.size W6 W7 := by rw [hW7]; exact ba _ _
          have kx : Blk W7 W6.heap.size 74 #[.int .i64 ck, .int .i64 cy, .int .u64 (cv : Nat)] := by rw [hW7]; exact Blk.new _ _ _
          have own7 := ownC_grown own6 (lbelow_grown b67 none) (fun r e => by cases e)
          obtain ⟨A8, c8, w8, hrun, own8, g8, _⟩ := ch_app own7 (some ⟨W6.heap.size, 0, none⟩) 1 [⟨ck, cy, cv⟩] pl 1 (by rw [HPl.out]; unfold chsC; rw [List.length_map]) rfl (fun b o e i hi => by cases e; have hi0 : i = 0 := (by simpa using hi); subst hi0; exact ⟨kx.cell 0, kx.cell 1, kx.cell 2⟩) (fun _ => ⟨_, _, rfl⟩) (by have := own7.cap; unfold chsC at this; rw [List.length_map, ← HPl.out] at this; exact this) (by unfold chsC; rw [List.length_map, ← HPl.out]; simp; omega) (Nat.le_trans hs6 b67.size)
          have kv8 := (hk6.below b67 hk6.lt).kept g8 (fun e => by have h9 := (own7.lt' _ e.symm).1; omega)
          have hA8 := (hrA6.below b67 hrA6.lt).kept g8 (fun e => by have h9 := (own7.lt' _ e.symm).1; omega)
          have hE8 := (hrE6.below b67 hrE6.lt).kept g8 (fun e => by have h9 := (own7.lt' _ e.symm).1; omega)
          have e4 := hk6.cell 0
          have s0 := k6.cell 0
          have s1 := k6.cell 1
          have s2 := k6.cell 2
          have e8 := kv8.cell 0
          have f8 := kv8.frozen 0
          simp only [List.getElem?_toArray, List.getElem?_cons_zero, List.getElem?_cons_succ] at e4 s0 s1 s2 e8
          have hsw : w.heap.size ≤ W7.heap.size := Nat.le_trans (bt bel b6).size b67.size
          have hWD : w.heap.size + 5 ≤ W.heap.size := by omega
          have hch2 : chsC bs (P ++ [xi]) = chsC bs P ++ [⟨ck, cy, cv⟩] := by unfold chsC; rw [List.map_append, List.map_cons, List.map_nil, ← HC.out]
          have hb8 : Below w.heap.size w w8 := (bt bw6 b67).grown g8 hsw (fun r e => by have h9 := (own7.lt' r e).1; omega)
          have hbW8 : Below w.heap.size W w8 := ((bt b6 b67).mono bel.size).grown g8 hsw (fun r e => by have h9 := (own7.lt' r e).1; omega)
          have hD : ∀ D, D = w.heap.size + 3 ∨ D = w.heap.size + 3 + 1 → (w8.setCell ⟨w.heap.size + 1 + 1, 0, none⟩ (.slice A8 (pl + 1) c8)).heap[D]? = W.heap[D]? := fun D hD => by
            refine (Below.heap_setCell w8 ⟨w.heap.size + 1 + 1, 0, none⟩ _ D (by dsimp only; omega)).trans ?_
            refine (g8.block D (by have := b67.size; have := b6.size; omega) (fun e => by have h9 := (own7.lt' _ e.symm).1; omega)).trans ?_
            exact (bt b6 b67).block D (by omega)
          have hfin : Hid (RdI bs w w3.heap.size (P ++ [xi]) (w8.setCell ⟨w.heap.size + 1 + 1, 0, none⟩ (.slice A8 (pl + 1) c8)) ∧ KeepsOthers W (w8.setCell ⟨w.heap.size + 1 + 1, 0, none⟩ (.slice A8 (pl + 1) c8)) ∧ KpC w.heap.size (w.heap.size + 3) (w.heap.size + 3 + 1) W (w8.setCell ⟨w.heap.size + 1 + 1, 0, none⟩ (.slice A8 (pl + 1) c8))) := Lib.hid (by
            refine ⟨⟨hb8.setCell (p := ⟨w.heap.size + 1 + 1, 0, none⟩) (by dsimp only; omega) _, ?_, ?_, ?_, ⟨A8, c8, ?_, ?_⟩, ?_⟩, ?_, hD _ (.inl rfl), hD _ (.inr rfl), hbW8.setCell (p := ⟨w.heap.size + 1 + 1, 0, none⟩) (by dsimp only; omega) _⟩
            · have := b67.size; have := g8.size; rw [World.size_setCell]; omega
            · exact hA8.far (p := ⟨w.heap.size + 1 + 1, 0, none⟩) (by dsimp only; omega) _
            · exact hE8.far (p := ⟨w.heap.size + 1 + 1, 0, none⟩) (by dsimp only; omega) _
            · have := kv8.set_ 0 (.slice A8 (pl + 1) c8)
              rw [List.length_append, List.length_singleton, ← HPl.out]
              simpa using this
            · rw [hch2]
              exact ownC_grown own8 (lgrown_set w8 ⟨w.heap.size + 1 + 1, 0, none⟩ (.slice A8 (pl + 1) c8)) (fun r e e2 => by cases e; have h9 := (own8.lt' _ e2).1; dsimp only at h9; omega)
            · intro z hz
              rcases List.mem_append.1 hz with hz | hz
              · exact hok z hz
              · obtain rfl := List.mem_singleton.1 hz
                rw [← HC.out]
            · refine (KeepsOthers.trans ⟨(bt b6 b67).size, fun k o hk _ => ((bt b6 b67).block k (Array.getElem?_eq_some_iff.1 hk).1).trans hk⟩ (KeepsOthers.of_grownBy g8 fun j ob hj hob => ?_)).trans (KeepsOthers.setCell _ _ _)
              rcases hbc : ob.isCells with _ | _
              · exact absurd hj (ownC_cells own7 hob hbc)
              · rfl)
          have h65 : W6.heap.size = w5.heap.size + 1 := by rw [hW6, World.size_alloc]
          rw [h65] at hrun
          rw [hW7, hW6] at hrun
          rw [hW6] at e4 s0 s1 s2
          clear hD hbW8 hb8 hch2 hE8 hA8 kv8 own8 g8 own7 kx b67 hW7 hs6 ko6 bw6 own6 hk6 hrE6 hrA6 k6 b6 b56 hW6 hok own hk4 hrE hrA hsz bel h65
          gi_wp2_with (gi_at_builtin; refine Qu.wpListIn_append_run (fun _ => trivial) rfl (.tmp 29) (.tmp 31) 40 rfl _ _ _ w8 rfl rfl hrun ?_)
          refine ⟨hfin.out.2.1, hfin.out.2.2, ?_⟩
          show RdI _ _ _ _ _
          rw [Hmap.out]
          exact hfin.out.1
        · have c2 := hrA6.cell 0
          have f2 := hrA6.frozen 0
          have hE7 : Blk (W6.setCell ⟨w.heap.size, 0, none⟩ (.slice none 0 0)) (w.heap.size + 1) 45 #[.int .i64 0] := hrE6.far (p := ⟨w.heap.size, 0, none⟩) (by dsimp only; omega) _
          have hA7 : Blk (W6.setCell ⟨w.heap.size, 0, none⟩ (.slice none 0 0)) w.heap.size 40 #[.slice none 0 0] := by simpa using hrA6.set_ 0 (.slice none 0 0)
          have c3 := hE7.cell 0
          have f3 := hE7.frozen 0
          simp only [List.getElem?_toArray, List.getElem?_cons_zero, List.getElem?_cons_succ] at c2 c3
          have hfin : Hid (RdX bs w w3.heap.size (P ++ [xi]) ((W6.setCell ⟨w.heap.size, 0, none⟩ (.slice none 0 0)).setCell ⟨w.heap.size + 1, 0, none⟩ (.int .i64 30)) ∧ KeepsOthers W ((W6.setCell ⟨w.heap.size, 0, none⟩ (.slice none 0 0)).setCell ⟨w.heap.size + 1, 0, none⟩ (.int .i64 30))) := Lib.hid (by
            refine ⟨⟨(bw6.setCell (p := ⟨w.heap.size, 0, none⟩) (Nat.le_refl _) _).setCell (p := ⟨w.heap.size + 1, 0, none⟩) (by dsimp only; omega) _, hA7.far (p := ⟨w.heap.size + 1, 0, none⟩) (by dsimp only; omega) _, by simpa using hE7.set_ 0 (.int .i64 30), xi, List.mem_append.2 (.inr (List.mem_singleton.2 rfl)), ?_⟩, (ko6.trans (KeepsOthers.setCell _ _ _)).trans (KeepsOthers.setCell _ _ _)⟩
            rw [← HC.out]
            simp)
          rw [hW6] at c2 f2 c3 f3 hfin
          clear hE7 hA7 ko6 bw6 own6 hk6 hrE6 hrA6 k6 b6 b56 hW6 hok own hk4 hrE hrA hsz bel
          gi_wp2
          refine ⟨hfin.out.2, rfl, ?_⟩
          rw [Hmap.out]
          exact hfin.out.1
      case done =>
        intro D xs W hD hS hi hK
        have hi2 : RdI bs w w3.heap.size (List.range m) W := by rw [← hS]; exact hi
        obtain ⟨bel, hsz, hrA, hrE, ⟨Al, cl, hk4, own⟩, hok⟩ := hi2
        have hRR : R = (chsC bs (List.range m), 0) := by
          rw [HRR.out, if_pos]
          rw [List.all_eq_true]
          intro z hz
          rw [hok z hz]; rfl
        subst hRR
        rw [List.length_range] at hk4
        have c4 := hk4.cell 0
        have c2 := hrA.cell 0
        have f2 := hrA.frozen 0
        have hE7 : Blk (W.setCell ⟨w.heap.size, 0, none⟩ (.slice Al m cl)) (w.heap.size + 1) 45 #[.int .i64 0] := hrE.far (p := ⟨w.heap.size, 0, none⟩) (by dsimp only; omega) _
        have hA7 : Blk (W.setCell ⟨w.heap.size, 0, none⟩ (.slice Al m cl)) w.heap.size 40 #[.slice Al m cl] := by simpa using hrA.set_ 0 (.slice Al m cl)
        have c3 := hE7.cell 0
        have f3 := hE7.frozen 0
        simp only [List.getElem?_toArray, List.getElem?_cons_zero, List.getElem?_cons_succ] at c4 c2 c3
        have hK2 : ((W.setCell ⟨w.heap.size, 0, none⟩ (.slice Al m cl)).setCell ⟨w.heap.size + 1, 0, none⟩ (.int .i64 0)).heap[D]? = some (.deferred (some [])) := (Below.heap_setCell _ ⟨w.heap.size + 1, 0, none⟩ _ D (by dsimp only; omega)).trans ((Below.heap_setCell _ ⟨w.heap.size, 0, none⟩ _ D (by dsimp only; omega)).trans hK)
        have own7 := ownC_grown (ownC_grown own (lgrown_set W ⟨w.heap.size, 0, none⟩ (.slice Al m cl)) (fun r e e2 => by cases e; have h9 := (own.lt' _ e2).1; dsimp only at h9; omega)) (lgrown_set _ ⟨w.heap.size + 1, 0, none⟩ (.int .i64 0)) (fun r e e2 => by cases e; have h9 := (own.lt' _ e2).1; dsimp only at h9; omega)
        have HF := Lib.hid (And.intro hK2 (And.intro own7 (And.intro (hA7.far (p := ⟨w.heap.size + 1, 0, none⟩) (by dsimp only; omega) (.int .i64 0)) (And.intro (show Blk ((W.setCell ⟨w.heap.size, 0, none⟩ (.slice Al m cl)).setCell ⟨w.heap.size + 1, 0, none⟩ (.int .i64 0)) (w.heap.size + 1) 45 #[.int .i64 0] by simpa using hE7.set_ 0 (.int .i64 0)) ((bel.setCell (p := ⟨w.heap.size, 0, none⟩) (Nat.le_refl _) (.slice Al m cl)).setCell (p := ⟨w.heap.size + 1, 0, none⟩) (by dsimp only; omega) (.int .i64 0))))))
        clear hK2 own7 hA7 hE7 own hok hk4 hrE hrA hsz bel hi hS HRR
        gi_wp2
        refine ⟨by simp, .inl ⟨_, _, rfl, run_takeDeferred HF.out.1, ?_⟩⟩
        have e0 := (blk_put HF.out.2.2.1 (r := D) (.deferred none) (by omega)).cell 0
        have e1 := (blk_put HF.out.2.2.2.1 (r := D) (.deferred none) (by omega)).cell 0
        simp only [List.getElem?_toArray, List.getElem?_cons_zero, List.getElem?_cons_succ] at e0 e1
        refine ⟨.tuple #[.slice Al m cl, .int .i64 0], by simp [results, Tryz.results23, go_sem, e0, e1]; try rfl, Al, m, cl, rfl, Lib.hid ⟨by unfold chsC; rw [List.length_map, List.length_range], ?_, ?_⟩⟩
        · exact (ownC_grown HF.out.2.1 (gput _ D _) (fun r e => by cases e; exact ownC_cells HF.out.2.1 HF.out.1 rfl)).less (by omega)
        · exact HF.out.2.2.2.2.grown (gput _ D _) HF.out.2.2.2.2.size (fun k e => by cases e; omega)
      case stop =>
        intro D cd xs W hD hS hi hK
        obtain ⟨rfl, hi⟩ := hi
        obtain ⟨bel, hrA, hrE, x, hx, hbad⟩ := hi
        have hRR : R = ([], 30) := by
          rw [HRR.out, if_neg]
          intro h
          rw [List.all_eq_true] at h
          have := h x (hS.subset hx)
          exact hbad (by simpa using this)
        subst hRR
        clear hS hbad hx HRR
        gi_wp2
        refine ⟨by simp, .inl ⟨_, _, rfl, run_takeDeferred hK, ?_⟩⟩
        have e0 := (blk_put hrA (r := D) (.deferred none) (by omega)).cell 0
        have e1 := (blk_put hrE (r := D) (.deferred none) (by omega)).cell 0
        simp only [List.getElem?_toArray, List.getElem?_cons_zero, List.getElem?_cons_succ] at e0 e1
        refine ⟨.tuple #[.slice none 0 0, .int .i64 30], by simp [results, Tryz.results23, go_sem, e0, e1]; try rfl, none, 0, 0, rfl, Lib.hid ⟨rfl, OwnC.nil _ _, ?_⟩⟩
        exact bel.grown (gput _ D _) bel.size (fun k e => by cases e; omega)
  · have hrem2 : (((N % 17 : Nat) : Int) != 0) = true := by rw [bne_iff_ne]; omega
    have hRR : R = ([], 11) := by rw [HR.out]; unfold readC; rw [if_pos (by rw [← hN.out]; exact h17)]
    rw [hRR]
    go_enter Tryz.func23, Tryz.ntmps23
    go_wp2
    have k0 := (Blk.new w 40 #[.slice none 0 0]).alloc (.cells #[.int .i64 11] 45)
    have k1 := Blk.new (w.alloc (.cells #[.slice none 0 0] 40)) 45 #[.int .i64 11]
    rw [World.size_alloc] at k1
    have r0 := k0.cell 0
    have r1 := k1.cell 0
    simp only [List.getElem?_toArray, List.getElem?_cons_zero] at r0 r1
    refine bodyPost_ret (by simp [results, Tryz.results23, go_sem, r0, r1]; try rfl) rfl ?_
    exact ⟨none, 0, 0, rfl, Lib.hid ⟨rfl, OwnC.nil _ _, bt (ba _ _) (ba _ _)⟩⟩
end Go.Proofs.YtlliaihmfimdoaaGreat.Re
