/- Parts T4 T5 T6 of one proof. -/
import Derived.Test.YtlliaihmfimdoaaMg02
import Derived.Test.YtlliaihmfimdoaaMg27
namespace Go.Proofs.Ytlliaihmfimdoaa.Oc
set_option maxRecDepth 100000
open Go.RowKit Go.Proofs.Ytlliaihmfimdoaa
set_option linter.unusedVariables false
theorem refput_bad (v : Nat) (n : Int) (w : World) (hn : n < 1 ∨ 8 < n) : Calls Try.prog 17 #[.int .u64 v, .int .i64 n] w (OutB w ([], 1)) := by
  rcases hn with hn | hn
  all_goals
    go_enter Try.func17, Try.ntmps17
    go_wp2
    go_ret2
    exact ⟨none, 0, rfl, Own.nil, Below.refl _ _⟩
theorem refput_ok (v m : Nat) (w : World) (hv : v < 18446744073709551616) (h1 : 1 ≤ m) (h8 : m ≤ 8) (R : List UInt8 × Int)
    (hR : Hid (R = if v / 256 ^ m = 0 then (putL v m, 0) else ([], 10))) : Calls Try.prog 17 #[.int .u64 v, .int .i64 m] w (OutB w R) := by
  obtain ⟨i0, hi, hz0, hz1, hz2⟩ := info_parts Try.infoU8
  go_enter Try.func17, Try.ntmps17
  go_wp2
  go_loopw [0, 6, 8] (fun x b i wr => ∃ j y : Nat, j ≤ m ∧ i = .int .i64 j ∧ x = .int .u64 y ∧ Hid (y = v / 256 ^ j) ∧ (∃ A c, b = .slice A j c ∧ Own wr w.heap.size 5 A c (putL v j).reverse) ∧ Below w.heap.size w wr)
    (fun _ _ i _ => m - (intOf i).toNat)
  case atStart => exact ⟨0, v, Nat.zero_le _, rfl, rfl, by simp [Hid], ⟨none, 0, rfl, Own.nil⟩, Below.refl _ _⟩
  case round =>
    obtain ⟨j, y, hj, rfl, rfl, hy, ⟨A, c, rfl, ho⟩, hb⟩ := hrel
    have hyl : y < 18446744073709551616 := by rw [hy.out]; exact Nat.lt_of_le_of_lt (Nat.div_le_self _ _) hv
    by_cases hlt : j < m
    · have Hl : Hid (j = (putL v j).reverse.length) := Lib.hid (by rw [List.length_reverse, putL_length])
      go_wp2_with (at_builtin; refine wpList_append_one _ rfl _ _ 23 rfl w.heap.size 5 i0 _ Try.underlying23 hi hz0 hz1 hz2 rfl A c (putL v j).reverse j rfl Hl.out (ho.alloc _) _ _ _ rfl (UInt8.ofNat (y % 256)) (cell_new1' _ _ _ _ (by simp)) (by omega) (by have := hb.size; simp; omega) ?_; intro A2 c2 w1 ho1 hg1 _)
      go_roundw
      case rel =>
        refine ⟨j + 1, y / 256, by omega, by go_num, by go_num, ?_, ⟨A2, c2, rfl, ?_⟩, ?_⟩
        · rw [hy.out, Nat.pow_succ, ← Nat.div_div_eq_div_mul]; rfl
        · rw [putL_rev_snoc, ← hy.out]; exact ho1
        · exact ((hb.alloc hb.size _).grown hg1 (by have := hb.size; simp; omega) (fun k hk => (ho.lt k hk).1))
      case measure => simp [intOf]; omega
    · obtain rfl : j = m := by omega
      rcases Nat.eq_zero_or_pos y with h0 | h0
      · have hR' : R = (putL v j, 0) := by rw [hR.out, if_pos (by rw [← hy.out]; exact h0)]
        subst hR'
        have hy0 : decide (0 < y) = false := by simp; omega
        clear h0
        clear hR hy
        go_wp2
        clear hy0
        have hbs := ho.bs
        generalize hW : wr.heap.size = B at hbs
        have hBw : w.heap.size ≤ B := hW ▸ hb.size
        have HW := Lib.hid hW
        clear hW
        have hlr : (putL v j).reverse.length = j := by rw [List.length_reverse, putL_length]
        have Hlr := Lib.hid hlr
        clear hlr
        go_loopw [7, 9] (fun b i wq => ∃ k q : Nat, k + q = j ∧ i = .int .i64 ((k : Int) - 1) ∧ (∃ A2 c2, b = .slice A2 q c2 ∧ Own wq B 5 A2 c2 ((putL v j).take q)) ∧ Below B wr wq ∧ B ≤ wq.heap.size)
          (fun _ i _ => (intOf i + 1).toNat)
        case atStart => exact ⟨j, 0, rfl, rfl, ⟨none, 0, rfl, Own.nil⟩, Below.refl _ _, by rw [HW.out]; exact Nat.le_refl _⟩
        case round =>
          obtain ⟨k, q, hkq, rfl, ⟨A2, c2, rfl, ho2⟩, hb2, hB2⟩ := hrel
          rcases Nat.eq_zero_or_pos k with rfl | hk
          · obtain rfl : q = j := by omega
            go_wp2
            go_ret2
            have ho2' := ho2.base_le hBw
            rw [List.take_of_length_le (by rw [putL_length]; omega)] at ho2'
            exact ⟨A2, c2, by rw [putL_length]; rfl, ho2', hb.trans (hb2.mono hBw)⟩
          · obtain ⟨k, rfl⟩ : ∃ z, k = z + 1 := ⟨k - 1, by omega⟩
            rw [show ((k + 1 : Nat) : Int) - 1 = (k : Int) by omega]
            obtain ⟨bb, oo, rfl, hbb, hcc⟩ := (hbs.below hb2) (by rw [Hlr.out]; omega)
            have hck := hcc k (by rw [Hlr.out]; omega)
            have Hl : Hid (q = ((putL v j).take q).length) := Lib.hid (by rw [List.length_take, putL_length]; omega)
            clear hcc
            go_wp2_with (at_builtin; refine wpList_append_one _ rfl _ _ 23 rfl B 5 i0 _ Try.underlying23 hi hz0 hz1 hz2 rfl A2 c2 ((putL v j).take q) q rfl Hl.out (ho2.alloc _) _ _ _ rfl _ (cell_new1 _ _ _) (by omega) (by simp; omega) ?_; intro A3 c3 w3 ho3 hg3 _)
            go_roundw
            case rel =>
              refine ⟨k, q + 1, by omega, rfl, ⟨A3, c3, rfl, ?_⟩, (hb2.alloc hB2 _).grown hg3 (by simp; omega) (fun k hk => (ho2.lt k hk).1), Nat.le_trans hB2 (Nat.le_trans (by simp) hg3.size)⟩
              rw [take_snoc _ q (by rw [putL_length]; omega)]
              have e : (putL v j).length - 1 - k = q := by rw [putL_length]; omega
              simp only [e] at ho3
              exact ho3
            case measure => simp [intOf]
      · have hR' : R = ([], 10) := by rw [hR.out, if_neg (by rw [← hy.out]; omega)]
        subst hR'
        clear hR hy
        go_wp2
        go_ret2
        exact ⟨none, 0, rfl, Own.nil, hb⟩
theorem refput_any (v : Nat) (n : Int) (w : World) (hv : v < 18446744073709551616) :
    Calls Try.prog 17 #[.int .u64 v, .int .i64 n] w (OutB w (putR v n)) := by
  by_cases hn : 1 ≤ n ∧ n ≤ 8
  · obtain ⟨m, rfl⟩ := Int.eq_ofNat_of_zero_le (show 0 ≤ n by omega)
    exact refput_ok v m w hv (by omega) (by omega) _ (Lib.hid (by unfold putR; rw [if_pos hn, Int.toNat_natCast]))
  · rw [show putR v n = ([], 1) from if_neg hn]
    exact refput_bad v n w (by omega)
theorem refget_any (A : Option Addr) (l : List UInt8) (c : Nat) (w : World) (hm : l.length ≤ 9223372036854775807) (h : Bs w w.heap.size A l) :
    Calls Try.prog 20 #[.slice A l.length c] w fun e w' => e = .returned (.tuple #[.int .u64 (getR l).1, .int .i64 (getR l).2]) ∧ w = w' := by
  by_cases h1 : 1 ≤ l.length
  · by_cases h8 : l.length ≤ 8
    · have hr : getR l = (num l, 0) := if_pos ⟨h1, h8⟩
      obtain ⟨b, o, rfl, hb, hc⟩ := h (by omega)
      rw [hr]; clear hr
      have hne : ((l.length : Int) == 0) = false := beq_eq_false_iff_ne.2 (by omega)
      go_enter Try.func20, Try.ntmps20
      go_wp2
      go_loop [4, 5] (fun v i => ∃ k : Nat, k ≤ l.length ∧ i = .int .i64 k ∧ v = .int .u64 (num (l.take k))) (fun _ i => l.length - (intOf i).toNat)
      case atStart => exact ⟨0, Nat.zero_le _, rfl, by simp [num]⟩
      case round =>
        obtain ⟨k, hk, rfl, rfl⟩ := hrel
        by_cases hlt : k < l.length
        · have hck := hc k hlt
          have hx := (l[k]).toNat_lt
          have hv := num_take_lt l k h8 hlt
          go_wp2
          go_round
          case rel => exact ⟨k + 1, by omega, by go_num, by rw [take_snoc l k hlt, num_snoc]; go_num⟩
          case measure => simp [intOf]; omega
        · go_wp2
          go_ret2
          exact ⟨by rw [List.take_of_length_le (by omega)]; rfl, rfl⟩
    · rw [show getR l = (0, 1) from if_neg (by omega)]
      have hne : ((l.length : Int) == 0) = false := beq_eq_false_iff_ne.2 (by omega)
      go_enter Try.func20, Try.ntmps20
      go_wp2
      go_ret2
      exact ⟨rfl, rfl⟩
  · rw [show getR l = (0, 1) from if_neg (by omega)]
    have hne : ((l.length : Int) == 0) = true := beq_iff_eq.2 (by omega)
    go_enter Try.func20, Try.ntmps20
    go_wp2
    go_ret2
    exact ⟨rfl, rfl⟩
end Go.Proofs.Ytlliaihmfimdoaa.Oc

namespace Go.Proofs.Ytlliaihmfimdoaa.Re
open Go.RowKit Go.Maps Go.Deep Go.Proofs.Ytlliaihmfimdoaa
set_option linter.unusedVariables false
set_option linter.unusedSimpArgs false

theorem rput8 (v : Nat) (w : World) (hv : v < 18446744073709551616) :
    Calls Try.prog 17 #[.int .u64 (v : Nat), .int .i64 8] w fun e w' => ∃ A c, e = .returned (.tuple #[.slice A 8 c, .int .i64 0]) ∧ Own w' w.heap.size 5 A c (Oc.putL v 8) ∧ Below w.heap.size w w' := by
  have hr : Oc.putR v 8 = (Oc.putL v 8, 0) := by
    unfold Oc.putR
    rw [if_pos (by omega)]
    show (if v / 256 ^ 8 = 0 then (Oc.putL v 8, 0) else ([], 10)) = _
    rw [if_pos (y_fits hv)]
  refine (Oc.refput_any v 8 w hv).mono ?_
  rintro e w' ⟨A, c, rfl, h1, h2⟩
  rw [hr] at h1
  refine ⟨A, c, ?_, h1, h2⟩
  rw [hr]
  dsimp only
  rw [Oc.putL_length]
theorem own_off {w w' : World} {B c : Nat} {t : TypeId} {A A2 : Option Addr} {l : List UInt8} (h : Own w B t A c l) (hg : w.grownBy w' (blk A2)) (hne : ∀ r, blk A = some r → blk A2 ≠ some r) : Own w' B t A c l := by
  refine h.kept hg ?_
  rcases hb : blk A with _ | r
  · exact .inl rfl
  · exact .inr (fun e => hne r hb e.symm)
theorem bs_one (W : World) (k : Nat) (h4 : k ≤ 4) : Bs (W.alloc (.cells #[.int .u8 (k : Nat)] 5)) (W.alloc (.cells #[.int .u8 (k : Nat)] 5)).heap.size (some ⟨W.heap.size, 0, none⟩) (Oc.putL k 1) := fun hp => by
  refine ⟨W.heap.size, 0, rfl, by rw [World.size_alloc]; omega, fun i hi => ?_⟩
  have hl : (Oc.putL k 1).length = 1 := Oc.putL_length _ _
  have hi0 : i = 0 := by omega
  subst hi0
  have hc := (Blk.new W 5 #[.int .u8 (k : Nat)]).cell 0
  rw [Nat.add_zero]
  refine hc.trans ?_
  have e : (Oc.putL k 1)[0]'hi = UInt8.ofNat (k % 256) := by simp [Oc.putL]
  rw [e]
  have hk : k % 256 = k := Nat.mod_eq_of_lt (by omega)
  simp
  omega
/-- Behind the first of three appends. -/
theorem write_more {w wD w4 : World} {base na nb c2 ca cb : Nat} {A2 Aa Ab A4 : Option Addr} {L0 La Lb : List UInt8} {t : TypeId} {Q : Prop} {WA WB : Nat}
    (h : Own wD base t A2 c2 L0 ∧ Own wD na t Aa ca La ∧ Own wD nb t Ab cb Lb ∧ (∀ r, blk Aa = some r → blk A2 ≠ some r) ∧ (∀ r, blk Ab = some r → blk A2 ≠ some r) ∧ (∀ r, blk Aa = some r → na ≤ r ∧ r < WA) ∧ (∀ r, blk Ab = some r → nb ≤ r ∧ r < WB) ∧ base ≤ wD.heap.size ∧ Below base w wD ∧ Q)
    (hl : (∀ r, blk Ab = some r → r < wD.heap.size) ∧ ∀ r, blk Aa = some r → r < wD.heap.size) (hg : wD.grownBy w4 (blk A2)) (h4 : blk A4 = blk A2 ∨ blk A4 = some wD.heap.size) :
    Own w4 na t Aa ca La ∧ Own w4 nb t Ab cb Lb ∧ base ≤ w4.heap.size ∧ Below base w w4 ∧ ∀ r, blk Ab = some r → blk A4 ≠ some r := by
  obtain ⟨o2, oa, ob, na', nb', _, _, hb, hw, _⟩ := h
  refine ⟨own_off oa hg na', own_off ob hg nb', Nat.le_trans hb hg.size, hw.grown hg hb (fun r e => (o2.lt r e).1), fun r e e4 => ?_⟩
  rcases h4 with h4 | h4
  · rw [h4] at e4; exact nb' r e e4
  · rw [h4] at e4
    injection e4 with e4
    have := hl.1 r e
    omega
set_option maxRecDepth 100000 in
set_option maxHeartbeats 4000000 in
theorem rwrite_any (A : Option Addr) (l : List Ch) (n c : Nat) (hn : Hid (n = l.length)) (hm : n ≤ 1000000) (w : World) (h : InL w A l) (hv : ∀ x ∈ l, x.v < 18446744073709551616 ∧ x.y ≤ 9223372036854775807) :
    Calls Try.prog 6 #[.slice A n c] w (WrO w (writeC l)) := by
  have HL := Lib.hid h
  have HV := Lib.hid hv
  by_cases h48 : 48 < n
  · have h48I : (48 : Int) < (n : Int) := by omega
    have hR : writeC l = ([], 2) := if_pos (by rw [← hn.out]; exact h48)
    rw [hR]
    clear h hv
    go_enter Try.func6, Try.ntmps6
    go_wp2
    go_ret2
    exact ⟨none, 0, 0, rfl, Lib.hid ⟨rfl, Own.nil, Below.refl _ _⟩⟩
  · have h48I : ¬ (48 : Int) < (n : Int) := by omega
    obtain ⟨R, hR⟩ : ∃ R, R = writeC l := ⟨_, rfl⟩
    rw [← hR]
    have hRR : R = if l.any badC = true then ([], 30) else (bytesC l, 0) := by rw [hR]; unfold writeC; rw [if_neg (by rw [← hn.out]; exact h48)]
    have HR := Lib.hid hRR
    obtain ⟨base, hbase⟩ : ∃ base, base = w.heap.size := ⟨_, rfl⟩
    have HBs := Lib.hid hbase
    have H0 : Hid (Own w base 5 none 0 (bytesC (l.take 0)) ∧ Below base w w ∧ 0 = (bytesC (l.take 0)).length ∧ (l.take 0).any badC = false) := Lib.hid ⟨Own.nil, Below.refl _ _, rfl, rfl⟩
    obtain ⟨i0, hi, hz0, hz1, hz2⟩ := info_parts Oc.Try.infoU8
    clear h hv hR hRR hbase
    go_enter Try.func6, Try.ntmps6
    go_wp2_with fail
    go_loopw [4, 5] (fun bv iv wr => ∃ (j J : Nat) (A2 : Option Addr) (c2 : Nat), j ≤ n ∧ iv = .int .i64 j ∧ bv = .slice A2 J c2 ∧ Hid (Own wr base 5 A2 c2 (bytesC (l.take j)) ∧ Below base w wr ∧ J = (bytesC (l.take j)).length ∧ (l.take j).any badC = false)) (fun _ iv _ => n - (intOf iv).toNat)
    case atStart => exact ⟨0, 0, none, 0, Nat.zero_le _, rfl, rfl, H0⟩
    case round =>
      clear H0
      obtain ⟨j, J, A2, c2, hj, rfl, rfl, HI⟩ := hrel
      by_cases hjn : j < n
      · have hjI : (j : Int) < (n : Int) := by omega
        have hjl : j < l.length := by rw [← hn.out]; exact hjn
        obtain ⟨own, hb, hJ, hnob⟩ := HI.out
        have hbw : Below w.heap.size w wr := by rw [← HBs.out]; exact hb
        obtain ⟨b, o, rfl, _, hcs⟩ := (HL.out.below hbw) (by omega)
        obtain ⟨q0, q1, q2⟩ := hcs j hjl
        obtain ⟨x, hx⟩ : ∃ x, x = l[j]'hjl := ⟨_, rfl⟩
        have hvx := HV.out x (by rw [hx]; exact List.getElem_mem hjl)
        have hmem : x ∈ l := by rw [hx]; exact List.getElem_mem hjl
        have htk : l.take (j + 1) = l.take j ++ [x] := by rw [List.take_add_one, List.getElem?_eq_getElem hjl, ← hx]; rfl
        rw [← hx] at q0 q1 q2
        obtain ⟨bx, hbx⟩ : ∃ bx, bx = badC x := ⟨_, rfl⟩
        rcases bx with _ | _
        · have hb2 := hbx.symm
          have hJ17 : J ≤ 17 * 48 := by
            have h2 := bytesC_len (l.take j)
            rw [List.length_take] at h2
            omega
          obtain ⟨xk, xy, xv⟩ := x
          dsimp only at q0 q1 q2 hvx
          unfold badC at hb2
          simp at hb2
          obtain ⟨k, rfl⟩ := Int.eq_ofNat_of_zero_le (show 0 ≤ xk by omega)
          obtain ⟨y, rfl⟩ := Int.eq_ofNat_of_zero_le (show 0 ≤ xy by omega)
          have hyf : y < 18446744073709551616 := by omega
          have c1 : IntKind.u64.wrap (y : Int) = (y : Int) := IntWalk.u64_in _ (by omega)
          have c3 : IntKind.u8.wrap (k : Int) = (k : Int) := IntWalk.u8_in _ (by omega)
          have k1 : ¬ (k : Int) < 1 := by omega
          have k4 : ¬ (4 : Int) < (k : Int) := by omega
          have k0 : ¬ (y : Int) < 0 := by omega
          obtain ⟨wa, hwa⟩ : ∃ wa, wa = wr.alloc (.cells #[.int .i64 (k : Int), .int .i64 (y : Int), .int .u64 (xv : Nat)] 39) := ⟨_, rfl⟩
          have ka : Blk wa wr.heap.size 39 #[.int .i64 (k : Int), .int .i64 (y : Int), .int .u64 (xv : Nat)] := by rw [hwa]; exact Blk.new _ _ _
          have hsz : base ≤ wr.heap.size := by rw [HBs.out]; exact hb.size
          have ba1 : Below wr.heap.size wr wa := by rw [hwa]; exact ba _ _
          have p0 := ka.cell 0
          have p1 := ka.cell 1
          have p2 := ka.cell 2
          simp only [List.getElem?_toArray, List.getElem?_cons_zero, List.getElem?_cons_succ] at p0 p1 p2
          rw [hwa] at p0 p1 p2
          have HP1 := Lib.hid (rput8 y wa hyf)
          have HWa := Lib.hid hwa
          have H1 := Lib.hid (And.intro ka (And.intro (own.below ba1 (Nat.le_refl _)) (And.intro hsz (And.intro ba1 (And.intro (hb.trans (ba1.mono hsz)) (And.intro hJ (And.intro hnob (And.intro htk (And.intro hbx (And.intro hvx.1 (own.lt)))))))))))
          clear own hb hJ hnob HI hbw hcs hx hbx hvx htk hmem ka hwa hsz ba1 hb2 hyf
          go_wp2_with fail
          rw [← HWa.out]
          refine HP1.out.mono ?_
          rintro e wB ⟨Aa, ca, rfl, owna, bB⟩
          obtain ⟨ka, own, hsz, ba1, hb, hJ, hnob, htk, hbx, hv64, hol⟩ := H1.out
          have kB := ka.below bB ka.lt
          have r2 := kB.cell 2
          simp only [List.getElem?_toArray, List.getElem?_cons_zero, List.getElem?_cons_succ] at r2
          have HP2 := Lib.hid (rput8 xv wB hv64)
          have H2 := Lib.hid (And.intro kB (And.intro owna bB))
          clear ka own hsz ba1 hb hJ hnob htk hbx hv64 hol kB owna bB p0 p1 p2 q0 q1 q2
          go_wp2_with fail
          refine HP2.out.mono ?_
          rintro e wC ⟨Ab, cb, rfl, ownb, bC⟩
          obtain ⟨ka, own, hsz, ba1, hb, hJ, hnob, htk, hbx, hv64, hol⟩ := H1.out
          obtain ⟨kB, owna, bB⟩ := H2.out
          have kC := kB.below bC kB.lt
          have r0 := kC.cell 0
          simp only [List.getElem?_toArray, List.getElem?_cons_zero, List.getElem?_cons_succ] at r0
          have bD := ba wC (.cells #[.int .u8 (k : Nat)] 5)
          have hbs1 := bs_one wC k (by omega)
          have hza := ba1.size
          have hzB := bB.size
          have hzC := bC.size
          have hzD := bD.size
          have ownD := ((own.below bB (Nat.le_refl _)).below bC (Nat.le_refl _)).below bD (Nat.le_refl _)
          have aD := (owna.below bC (Nat.le_refl _)).below bD (Nat.le_refl _)
          have bD2 := ownb.below bD (Nat.le_refl _)
          have hneA : ∀ r, blk Aa = some r → blk A2 ≠ some r := fun r e e2 => by have h1 := (owna.lt r e).1; have h2 := (hol r e2).2; omega
          have hneB : ∀ r, blk Ab = some r → blk A2 ≠ some r := fun r e e2 => by have h1 := (ownb.lt r e).1; have h2 := (hol r e2).2; omega
          have hltA := owna.lt
          have hltB := ownb.lt
          have hbD : base ≤ (wC.alloc (.cells #[.int .u8 (k : Nat)] 5)).heap.size := by omega
          have hwD : Below base w (wC.alloc (.cells #[.int .u8 (k : Nat)] 5)) := ((hb.trans (bB.mono (by omega))).trans (bC.mono (by omega))).trans (bD.mono (by omega))
          have HM1 : Hid (1 = (Oc.putL k 1).length) := Lib.hid (Oc.putL_length _ _).symm
          have HM8 : ∀ z, Hid (8 = (Oc.putL z 8).length) := fun z => Lib.hid (Oc.putL_length _ _).symm
          have HJ0 := Lib.hid hJ
          have HJ4 : Hid (J + 1 = (bytesC (l.take j) ++ Oc.putL k 1).length) := Lib.hid (by rw [List.length_append, Oc.putL_length, ← hJ])
          have HJ5 : Hid (J + 1 + 8 = ((bytesC (l.take j) ++ Oc.putL k 1) ++ Oc.putL y 8).length) := Lib.hid (by rw [List.length_append, Oc.putL_length, ← HJ4.out])
          have HJ6 : Hid (J + 1 + 8 + 8 = (((bytesC (l.take j) ++ Oc.putL k 1) ++ Oc.putL y 8) ++ Oc.putL xv 8).length) := Lib.hid (by rw [List.length_append, Oc.putL_length, ← HJ5.out])
          have hl1 : Hid ((bytesC (l.take j)).length + (Oc.putL k 1).length ≤ 140737488355328) := Lib.hid (by rw [← hJ, Oc.putL_length]; omega)
          have hl2 : Hid ((bytesC (l.take j) ++ Oc.putL k 1).length + (Oc.putL y 8).length ≤ 140737488355328) := Lib.hid (by rw [← HJ4.out, Oc.putL_length]; omega)
          have hl3 : Hid (((bytesC (l.take j) ++ Oc.putL k 1) ++ Oc.putL y 8).length + (Oc.putL xv 8).length ≤ 140737488355328) := Lib.hid (by rw [← HJ5.out, Oc.putL_length]; omega)
          have HTk : Hid (bytesC (l.take (j + 1)) = ((bytesC (l.take j) ++ Oc.putL k 1) ++ Oc.putL y 8) ++ Oc.putL xv 8 ∧ (l.take (j + 1)).any badC = false) := Lib.hid ⟨by
            rw [htk, bytesC_snoc]
            unfold recB
            dsimp only
            rw [Int.toNat_natCast, Int.toNat_natCast, List.append_assoc, List.append_assoc], by rw [htk, List.any_append, hnob]; simp [← hbx]⟩
          have HD := Lib.hid (And.intro ownD (And.intro aD (And.intro bD2 (And.intro hneA (And.intro hneB (And.intro hltA (And.intro hltB (And.intro hbD (And.intro hwD hbs1)))))))))
          have hAC : ∀ r, blk Ab = some r → r < (wC.alloc (.cells #[.int .u8 (k : Nat)] 5)).heap.size := fun r e => by have := (hltB r e).2; omega
          have hAB : ∀ r, blk Aa = some r → r < (wC.alloc (.cells #[.int .u8 (k : Nat)] 5)).heap.size := fun r e => by have := (hltA r e).2; omega
          have HAC := Lib.hid (And.intro hAC hAB)
          generalize bytesC (l.take j) = L0 at *
          clear ka own hsz ba1 hb hJ hnob htk hbx hv64 hol kB owna bB r2 kC ownb bC bD hza hzB hzC hzD ownD aD bD2 hneA hneB hltA hltB hbD hwD hbs1 hAC hAB H1 H2
          go_wp2_with (first
            | (at_builtin; refine wpList_append_bs _ rfl _ _ 23 rfl base 5 i0 _ Try.underlying23 hi hz0 hz1 hz2 rfl A2 c2 L0 J rfl HJ0.out HD.out.1 _ (some ⟨wC.heap.size, 0, none⟩) 1 (Oc.putL k 1) 1 rfl HM1.out HD.out.2.2.2.2.2.2.2.2.2 hl1.out HD.out.2.2.2.2.2.2.2.1 ?_; intro A4 c4 w4 own4 hg4 h4; have hx4 := write_more HD.out HAC.out hg4 h4; have HX4 := Lib.hid (And.intro own4 hx4); clear own4 hg4 h4 hx4)
            | (at_builtin; refine wpList_append_bs _ rfl _ _ 23 rfl base 5 i0 _ Try.underlying23 hi hz0 hz1 hz2 rfl A4 c4 _ (J + 1) rfl HJ4.out HX4.out.1 _ Aa ca (Oc.putL y 8) 8 rfl (HM8 y).out HX4.out.2.1.bs hl2.out HX4.out.2.2.2.1 ?_; intro A5 c5 w5 own5 hg5 h5; have HX5 := Lib.hid (And.intro own5 (And.intro hg5 h5)); clear own5 hg5 h5)
            | (at_builtin; refine wpList_append_bs _ rfl _ _ 23 rfl base 5 i0 _ Try.underlying23 hi hz0 hz1 hz2 rfl A5 c5 _ (J + 1 + 8) rfl HJ5.out HX5.out.1 _ Ab cb (Oc.putL xv 8) 8 rfl (HM8 xv).out (own_off HX4.out.2.2.1 HX5.out.2.1 HX4.out.2.2.2.2.2).bs hl3.out (Nat.le_trans HX4.out.2.2.2.1 HX5.out.2.1.size) ?_; intro A6 c6 w6 own6 hg6 h6; have HX6 := Lib.hid (And.intro own6 hg6); clear own6 hg6 h6))
          have HN : Hid (Own w6 base 5 A6 c6 (bytesC (l.take (j + 1))) ∧ Below base w w6 ∧ J + 1 + 8 + 8 = (bytesC (l.take (j + 1))).length ∧ (l.take (j + 1)).any badC = false) := Lib.hid (by
            refine ⟨by rw [HTk.out.1]; exact HX6.out.1, ?_, by rw [HTk.out.1]; exact HJ6.out, HTk.out.2⟩
            have hb5 := HX4.out.2.2.2.2.1.grown HX5.out.2.1 HX4.out.2.2.2.1 (fun r e => (HX4.out.1.lt r e).1)
            exact hb5.grown HX6.out.2 (Nat.le_trans HX4.out.2.2.2.1 HX5.out.2.1.size) (fun r e => (HX5.out.1.lt r e).1))
          clear HD HAC HX4 HX5 HX6 HJ0 HJ4 HJ5 HJ6 hl1 hl2 hl3 HM1 HM8 HTk r0
          go_roundw
          case rel => exact ⟨j + 1, J + 1 + 8 + 8, A6, c6, by omega, by go_num, rfl, HN⟩
          case measure => simp [intOf]; omega
        · have hR2 : R = ([], 30) := by rw [HR.out, if_pos (List.any_eq_true.2 ⟨x, hmem, hbx.symm⟩)]
          have HR2 := Lib.hid hR2
          have hbt := hbx.symm
          obtain ⟨xk, xy, xv⟩ := x
          dsimp only at q0 q1 q2
          unfold badC at hbt
          have HF : Hid (Below w.heap.size w (wr.alloc (.cells #[.int .i64 xk, .int .i64 xy, .int .u64 (xv : Nat)] 39))) := Lib.hid (bt hbw (ba _ _))
          clear own hb hJ hnob HI hbw hcs hx hbx hvx htk hmem hR2
          by_cases k1 : xk < 1
          · clear hbt
            go_wp2
            go_ret2
            rw [HR2.out]
            exact ⟨none, 0, 0, rfl, Lib.hid ⟨rfl, Own.nil, HF.out⟩⟩
          · by_cases k4 : 4 < xk
            · clear hbt
              go_wp2
              go_ret2
              rw [HR2.out]
              exact ⟨none, 0, 0, rfl, Lib.hid ⟨rfl, Own.nil, HF.out⟩⟩
            · have k0 : xy < 0 := by simp [k1, k4] at hbt; exact hbt
              clear hbt
              go_wp2
              go_ret2
              rw [HR2.out]
              exact ⟨none, 0, 0, rfl, Lib.hid ⟨rfl, Own.nil, HF.out⟩⟩
      · obtain rfl : j = n := by omega
        have hjI : ¬ (j : Int) < (j : Int) := by omega
        obtain ⟨own, hb, hJ, hnob⟩ := HI.out
        rw [List.take_of_length_le (by rw [← hn.out]; exact Nat.le_refl _)] at own hJ hnob
        have HF := Lib.hid (And.intro own (And.intro hb (And.intro hJ hnob)))
        clear own hb hJ hnob HI
        go_wp2
        go_ret2
        have hR2 : R = (bytesC l, 0) := by rw [HR.out, HF.out.2.2.2, if_neg (by simp)]
        rw [hR2]
        exact ⟨A2, J, c2, rfl, Lib.hid ⟨HF.out.2.2.1, by rw [← HBs.out]; exact HF.out.1, by rw [← HBs.out]; exact HF.out.2.1⟩⟩
end Go.Proofs.Ytlliaihmfimdoaa.Re

namespace Go.Proofs.Ytlliaihmfimdoaa.Re
open Go.RowKit Go.Maps Go.Deep Go.Proofs.Ytlliaihmfimdoaa
set_option linter.unusedVariables false
set_option linter.unusedSimpArgs false

theorem rget_n (A : Option Addr) (l : List UInt8) (n c : Nat) (w : World) (hn : n = l.length) (h1 : 1 ≤ n) (h8 : n ≤ 8) (h : Bs w w.heap.size A l) :
    Calls Try.prog 20 #[.slice A n c] w fun e w' => e = .returned (.tuple #[.int .u64 (Oc.num l : Nat), .int .i64 0]) ∧ w = w' := by
  have hg : Oc.getR l = (Oc.num l, 0) := if_pos (by omega)
  have := Oc.refget_any A l c w (by omega) h
  rw [hg, ← hn] at this
  exact this
theorem pc_parts (bs : List UInt8) (j : Nat) (h : 17 * j + 17 ≤ bs.length) : Oc.num ((pcC bs j).take 1) = (bs[17 * j]'(by omega)).toNat ∧ ((pcC bs j).drop 1).take 8 = (bs.drop (17 * j + 1)).take 8 ∧ (pcC bs j).drop 9 = (bs.drop (17 * j + 9)).take 8 := by
  unfold pcC
  refine ⟨?_, ?_, ?_⟩
  · have e : ((bs.drop (17 * j)).take 17).take 1 = [bs[17 * j]'(by omega)] := by
      rw [List.take_take, Nat.min_eq_left (by omega), List.drop_eq_getElem_cons (by omega)]; rfl
    rw [e]
    simp [Oc.num]
  · rw [List.drop_take, List.drop_drop, List.take_take, Nat.min_eq_left (by omega)]
  · rw [List.drop_take, List.drop_drop]
theorem chg_of {bs : List UInt8} {j k Y V : Nat} (h : 17 * j + 17 ≤ bs.length) (hk : k = (bs[17 * j]'(by omega)).toNat) (hY : Y = Oc.num ((bs.drop (17 * j + 1)).take 8)) (hV : V = Oc.num ((bs.drop (17 * j + 9)).take 8)) :
    chg (pcC bs j) = if k < 1 ∨ 4 < k ∨ 4611686018427387904 < Y then (⟨0, 0, 0⟩, 30) else (⟨(k : Nat), (Y : Nat), V⟩, 0) := by
  obtain ⟨p1, p2, p3⟩ := pc_parts bs j h
  unfold chg
  rw [p1, p2, p3, ← hk, ← hY, ← hV]
theorem readC_bad {bs : List UInt8} {m j : Nat} (hm : bs.length = 17 * m) (h48 : m ≤ 48) (hj : j < m) (hb : (chg (pcC bs j)).2 = 30) : readC bs = ([], 30) := by
  unfold readC
  rw [if_neg (by omega), if_neg (by omega), if_neg]
  intro hall
  rw [List.all_eq_true] at hall
  have := hall j (List.mem_range.2 (by omega))
  rw [hb] at this
  simp at this
theorem readC_good {bs : List UInt8} {m : Nat} (hm : bs.length = 17 * m) (h48 : m ≤ 48) (hb : ∀ i, i < m → (chg (pcC bs i)).2 = 0) : readC bs = (chsC bs (List.range m), 0) := by
  have e : bs.length / 17 = m := by omega
  unfold readC
  rw [if_neg (by omega), if_neg (by omega), e, if_pos]
  rw [List.all_eq_true]
  intro i hi
  rw [hb i (List.mem_range.1 hi)]; rfl
theorem chsC_snoc (bs : List UInt8) (j : Nat) : chsC bs (List.range (j + 1)) = chsC bs (List.range j) ++ [(chg (pcC bs j)).1] := by
  unfold chsC
  rw [List.range_succ, List.map_append]; rfl
theorem chsC_len (bs : List UInt8) (j : Nat) : (chsC bs (List.range j)).length = j := by unfold chsC; rw [List.length_map, List.length_range]
/-- What the document's Read has, while it goes on. -/
def RdJ (bs : List UInt8) (m base : Nat) (w : World) (q j : Nat) (A2 : Option Addr) (c2 : Nat) (wr : World) : Prop := q = 17 * j ∧ j ≤ m ∧ OwnC wr base A2 c2 (chsC bs (List.range j)) ∧ Below base w wr ∧ ∀ i, i < j → (chg (pcC bs i)).2 = 0
set_option maxRecDepth 100000 in
set_option maxHeartbeats 4000000 in
theorem rread_any (A : Option Addr) (bs : List UInt8) (N c : Nat) (w : World) (hN : Hid (N = bs.length)) (hcap : Hid (N ≤ c)) (hc2 : Hid (c ≤ 9223372036854775807)) (hbs : Bs w w.heap.size A bs) :
    Calls Try.prog 8 #[.slice A N c] w (RdO w (readC bs)) := by
  have HBS := Lib.hid hbs
  clear hbs
  obtain ⟨R, hR⟩ : ∃ R, R = readC bs := ⟨_, rfl⟩
  rw [← hR]
  have HR := Lib.hid hR
  clear hR
  have hNm : (N : Int) ≤ 9223372036854775807 := by have := hcap.out; have := hc2.out; omega
  obtain ⟨m, hm⟩ : ∃ m, m = N / 17 := ⟨_, rfl⟩
  have hrem : (N : Int).tmod 17 = ((N % 17 : Nat) : Int) := by rw [Int.tmod_eq_emod_of_nonneg (by omega)]; omega
  have hquo : (N : Int).tdiv 17 = (m : Int) := by rw [Int.tdiv_eq_ediv_of_nonneg (by omega)]; omega
  have hmb : (m : Int) ≤ 9223372036854775807 := by omega
  have HM := Lib.hid hm
  clear hm
  by_cases h17 : N % 17 = 0
  · rw [h17] at hrem
    have hrem : (N : Int).tmod 17 = 0 := hrem
    have hNe : N = 17 * m := by have := HM.out; omega
    by_cases h48 : 48 < m
    · have h48I : (48 : Int) < (m : Int) := by omega
      have hRR : R = ([], 2) := by rw [HR.out]; unfold readC; rw [if_neg (by rw [← hN.out, h17]; simp), if_pos (by rw [← hN.out, ← HM.out]; exact h48)]
      rw [hRR]
      clear hNe
      go_enter Try.func8, Try.ntmps8
      go_wp2
      go_ret2
      exact ⟨none, 0, 0, rfl, Lib.hid ⟨rfl, OwnC.nil _ _, Below.refl _ _⟩⟩
    · have h48I : ¬ (48 : Int) < (m : Int) := by omega
      have HNe := Lib.hid (And.intro (show bs.length = 17 * m by rw [← hN.out]; exact hNe) (show m ≤ 48 by omega))
      have hN17 : Hid (N = 17 * m) := Lib.hid hNe
      obtain ⟨base, hbase⟩ : ∃ base, base = w.heap.size := ⟨_, rfl⟩
      have HBs := Lib.hid hbase
      have H0 : Hid (RdJ bs m base w 0 0 none 0 w) := Lib.hid ⟨rfl, Nat.zero_le _, OwnC.nil _ _, Below.refl _ _, fun i hi => by omega⟩
      clear hNe hbase h48
      go_enter Try.func8, Try.ntmps8
      go_wp2_with fail
      go_loopw [4, 5] (fun ov iv wr => ∃ (j q : Nat) (A2 : Option Addr) (c2 : Nat), q ≤ N ∧ iv = .int .i64 q ∧ ov = .slice A2 j c2 ∧ Hid (RdJ bs m base w q j A2 c2 wr)) (fun _ iv _ => N - (intOf iv).toNat)
      case atStart => exact ⟨0, 0, none, 0, Nat.zero_le _, rfl, rfl, H0⟩
      case round =>
        clear H0
        obtain ⟨j, q, A2, c2, hqN, rfl, rfl, HI⟩ := hrel
        by_cases hlt : q < N
        · have hqI : (q : Int) < (N : Int) := by omega
          obtain ⟨hq, hjm, own, hb, hok⟩ := HI.out
          have hlen : 17 * j + 17 ≤ bs.length := by rw [HNe.out.1]; have := hN17.out; omega
          have hjm2 : j < m := by have := hN17.out; omega
          have hbw : Below w.heap.size w wr := by rw [← HBs.out]; exact hb
          have hbsW := bs_below HBS.out hbw
          obtain ⟨b, o, rfl, _, hcs⟩ := hbsW (by omega)
          have hcell := hcs q (by omega)
          have hl1 : 8 = ((bs.drop (q + 1)).take 8).length := by rw [List.length_take, List.length_drop]; omega
          have hl2 : 8 = ((bs.drop (q + 9)).take 8).length := by rw [List.length_take, List.length_drop]; omega
          have g1 := fun cx => rget_n (some ⟨b, o + (q + 1), none⟩) ((bs.drop (q + 1)).take 8) 8 cx wr hl1 (by omega) (by omega) (bs_at hbsW (q + 1) 8)
          have g2 := fun cx => rget_n (some ⟨b, o + (q + 9), none⟩) ((bs.drop (q + 9)).take 8) 8 cx wr hl2 (by omega) (by omega) (bs_at hbsW (q + 9) 8)
          have n1 := Oc.num_lt64 ((bs.drop (q + 1)).take 8) (by omega)
          have n2 := Oc.num_lt64 ((bs.drop (q + 9)).take 8) (by omega)
          have hchg := chg_of hlen rfl rfl rfl
          have hq0 : q = 17 * j := hq
          have hk8 : (bs[17 * j]'(by omega)).toNat < 256 := UInt8.toNat_lt _
          simp only [hq0] at hcell g1 g2 n1 n2
          obtain ⟨Y, hY⟩ : ∃ Y, Y = Oc.num ((bs.drop (17 * j + 1)).take 8) := ⟨_, rfl⟩
          obtain ⟨V, hV⟩ : ∃ V, V = Oc.num ((bs.drop (17 * j + 9)).take 8) := ⟨_, rfl⟩
          obtain ⟨k, hk⟩ : ∃ k, k = (bs[17 * j]'(by omega)).toNat := ⟨_, rfl⟩
          rw [← hY] at g1 n1 hchg
          rw [← hV] at g2 n2 hchg
          rw [← hk] at hcell hk8 hchg
          rw [← hq0] at hcell g1 g2
          have G1 := Lib.hid g1
          have G2 := Lib.hid g2
          have q1 : IntKind.i64.wrap ((q : Int) + 1) = ((q + 1 : Nat) : Int) := by rw [IntWalk.i64_in _ (by omega)]; push_cast; rfl
          have q9 : IntKind.i64.wrap ((q : Int) + 9) = ((q + 9 : Nat) : Int) := by rw [IntWalk.i64_in _ (by omega)]; push_cast; rfl
          have q17 : IntKind.i64.wrap ((q : Int) + 17) = ((q + 17 : Nat) : Int) := by rw [IntWalk.i64_in _ (by omega)]; push_cast; rfl
          have hqc : q + 17 ≤ c := by have := hcap.out; omega
          have m1 : ((q + 9 : Nat) : Int) ≤ (c : Int) := by omega
          have m2 : ((q + 17 : Nat) : Int) ≤ (c : Int) := by omega
          have m3 : ((q + 1 : Nat) : Int) ≤ ((q + 9 : Nat) : Int) := by omega
          have m4 : ((q + 9 : Nat) : Int) ≤ ((q + 17 : Nat) : Int) := by omega
          have HI2 := Lib.hid (And.intro hq (And.intro hjm2 (And.intro own (And.intro hb (And.intro hok (And.intro hchg hbw))))))
          clear hlen hjm2 hjm own hb hok hbw hbsW hcs hl1 hl2 g1 g2 hchg hY hV hk hq0 hq HI
          go_wp2_with fail
          refine (G1.out _).mono ?_
          rintro e w1 ⟨rfl, rfl⟩
          go_wp2_with fail
          refine (G2.out _).mono ?_
          rintro e w1 ⟨rfl, rfl⟩
          clear G1 G2 m1 m2 m3 m4 q1 q9
          by_cases k0 : k = 0
          · have k0I : ((k : Int) == 0) = true := by rw [beq_iff_eq]; omega
            have hRR : R = ([], 30) := by rw [HR.out]; exact readC_bad HNe.out.1 HNe.out.2 HI2.out.2.1 (by rw [HI2.out.2.2.2.2.2.1, if_pos (.inl (by omega))])
            have HF := Lib.hid HI2.out.2.2.2.2.2.2
            clear HI2
            go_wp2
            go_ret2
            try rw [hRR]
            exact ⟨none, 0, 0, rfl, Lib.hid ⟨rfl, OwnC.nil _ _, HF.out⟩⟩
          · have k0I : ((k : Int) == 0) = false := by rw [beq_eq_false_iff_ne]; omega
            by_cases k4 : 4 < k
            · have k4I : (4 : Int) < (k : Int) := by omega
              have hRR : R = ([], 30) := by rw [HR.out]; exact readC_bad HNe.out.1 HNe.out.2 HI2.out.2.1 (by rw [HI2.out.2.2.2.2.2.1, if_pos (.inr (.inl k4))])
              have HF := Lib.hid HI2.out.2.2.2.2.2.2
              clear HI2
              go_wp2
              go_ret2
              try rw [hRR]
              exact ⟨none, 0, 0, rfl, Lib.hid ⟨rfl, OwnC.nil _ _, HF.out⟩⟩
            · have k4I : ¬ (4 : Int) < (k : Int) := by omega
              by_cases kY : 4611686018427387904 < Y
              · have kYI : (4611686018427387904 : Int) < (Y : Int) := by omega
                have hRR : R = ([], 30) := by rw [HR.out]; exact readC_bad HNe.out.1 HNe.out.2 HI2.out.2.1 (by rw [HI2.out.2.2.2.2.2.1, if_pos (.inr (.inr kY))])
                have HF := Lib.hid HI2.out.2.2.2.2.2.2
                clear HI2
                go_wp2
                go_ret2
                try rw [hRR]
                exact ⟨none, 0, 0, rfl, Lib.hid ⟨rfl, OwnC.nil _ _, HF.out⟩⟩
              · have kYI : ¬ (4611686018427387904 : Int) < (Y : Int) := by omega
                obtain ⟨hq, hjm2, own, hb, hok, hchg, hbw⟩ := HI2.out
                rw [if_neg (by omega)] at hchg
                have cK : IntKind.i64.wrap (k : Int) = (k : Int) := IntWalk.i64_in _ (by omega)
                have cY : IntKind.i64.wrap (Y : Int) = (Y : Int) := IntWalk.i64_in _ (by omega)
                obtain ⟨W7, hW7⟩ : ∃ W7, W7 = wr.alloc (.cells #[.int .i64 (k : Int), .int .i64 (Y : Int), .int .u64 (V : Nat)] 39) := ⟨_, rfl⟩
                have b7 : Below wr.heap.size wr W7 := by rw [hW7]; exact ba _ _
                have kx : Blk W7 wr.heap.size 39 #[.int .i64 (k : Int), .int .i64 (Y : Int), .int .u64 (V : Nat)] := by rw [hW7]; exact Blk.new _ _ _
                have own7 := ownC_grown own (lbelow_grown b7 none) (fun r e => by cases e)
                have hsz : base ≤ W7.heap.size := by have := hb.size; have := b7.size; have := HBs.out; omega
                have hcj : j ≤ c2 := by have := own7.cap; rw [chsC_len] at this; exact this
                obtain ⟨A8, c8, w8, hrun, own8, g8, _⟩ := ch_app own7 (some ⟨wr.heap.size, 0, none⟩) 1 [⟨(k : Int), (Y : Int), V⟩] j 1 (chsC_len bs j).symm rfl (fun b o e i hi => by cases e; have hi0 : i = 0 := (by simpa using hi); subst hi0; exact ⟨kx.cell 0, kx.cell 1, kx.cell 2⟩) (fun _ => ⟨_, _, rfl⟩) hcj (by rw [chsC_len]; simp; have := HNe.out.2; omega) hsz
                have hb8 : Below base w w8 := (hb.trans (b7.mono (by have := hb.size; have := HBs.out; omega))).grown g8 hsz (fun r e => (own7.lt' r e).1)
                have HN : Hid (RdJ bs m base w (q + 17) (j + 1) A8 c8 w8) := Lib.hid ⟨by omega, by omega, by rw [chsC_snoc, hchg]; exact own8, hb8, fun i hi => by
                  by_cases e : i = j
                  · rw [e, hchg]
                  · exact hok i (by omega)⟩
                have hqn : q + 17 ≤ N := by have := hN17.out; have := hq; omega
                rw [hW7] at hrun
                clear hq hjm2 own hb hok hchg hbw b7 kx own7 hsz hcj own8 g8 hb8 hW7 HI2
                go_wp2_with (at_builtin; refine wpList_append_run rfl (.tmp 60) (.tmp 70) 22 rfl _ _ _ w8 rfl rfl hrun ?_)
                go_roundw
                case rel => exact ⟨j + 1, q + 17, A8, c8, hqn, by first | rfl | go_num, by first | rfl | (congr 1), HN⟩
                case measure => simp [intOf]; omega
        · obtain rfl : q = N := by omega
          have hqI : ¬ (q : Int) < (q : Int) := by omega
          obtain ⟨hq, hjm, own, hb, hok⟩ := HI.out
          have hj : j = m := by have := hN17.out; omega
          subst hj
          have hRR : R = (chsC bs (List.range j), 0) := by rw [HR.out]; exact readC_good HNe.out.1 HNe.out.2 hok
          have HF := Lib.hid (And.intro own hb)
          clear own hb hok hq hjm HI
          go_wp2
          go_ret2
          try rw [hRR]
          exact ⟨A2, j, c2, rfl, Lib.hid ⟨(chsC_len bs j).symm, by rw [← HBs.out]; exact HF.out.1, by rw [← HBs.out]; exact HF.out.2⟩⟩
  · have hrem2 : (0 : Int) < ((N % 17 : Nat) : Int) := by omega
    have hRR : R = ([], 11) := by rw [HR.out]; unfold readC; rw [if_pos (by rw [← hN.out]; exact h17)]
    rw [hRR]
    go_enter Try.func8, Try.ntmps8
    go_wp2
    go_ret2
    exact ⟨none, 0, 0, rfl, Lib.hid ⟨rfl, OwnC.nil _ _, Below.refl _ _⟩⟩
end Go.Proofs.Ytlliaihmfimdoaa.Re
