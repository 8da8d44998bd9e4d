/- Layer 4: the document's Write. -/
import Derived.Test.YtoahmifmoekjoaaGe
namespace Go.Proofs.Ytoahmifmoekjoaa
open Go.RowKit
set_option linter.unusedVariables false
set_option linter.unusedSimpArgs false

theorem refput_two (n : Nat) (w : World) (h : n < 65536) : Calls Try.prog 21 #[.int .u64 n, .int .i64 2] w (OutB w (putL n 2, 0)) := by
  have := refput_any n 2 w (by omega)
  rwa [show putR n 2 = (putL n 2, 0) by unfold putR; rw [if_pos (by omega), if_pos (by show n / 256 ^ 2 = 0; omega)]; rfl] at this

set_option maxHeartbeats 400000 in
theorem length_any (n : Nat) (last : Bool) (w : World) (h : n < 32768) :
    Calls Try.prog 22 #[.int .i64 n, .bool last] w fun e w' => ∃ A c, e = .returned (.slice A 2 c) ∧ Own w' w.heap.size 5 A c (putL (n + (if last = true then 0 else 32768)) 2) ∧ Below w.heap.size w w' := by
  cases last
  · have hc := refput_two (n + 32768) w (by omega)
    go_enter Try.func22, Try.ntmps22
    go_wp2_with fail
    rw [Int.natCast_add] at hc
    refine hc.mono ?_
    rintro e w1 ⟨A, c, rfl, ho, hb⟩
    go_wp2
    go_ret
    exact ⟨A, c, rfl, ho, hb⟩
  · have hc := refput_two n w (by omega)
    go_enter Try.func22, Try.ntmps22
    go_wp2_with fail
    refine hc.mono ?_
    rintro e w1 ⟨A, c, rfl, ho, hb⟩
    go_wp2
    go_ret
    exact ⟨A, c, rfl, ho, hb⟩

/-- How many pieces. -/
def cnt (n seg : Nat) : Nat := if (n + seg - 1) / seg = 0 then 1 else (n + seg - 1) / seg
theorem cnt_spec (n seg : Nat) (h : 1 ≤ seg) : 1 ≤ cnt n seg ∧ n ≤ cnt n seg * seg ∧ (∀ i, i + 1 < cnt n seg → (i + 1) * seg < n) := by
  have hd := Nat.div_add_mod (n + seg - 1) seg
  have hm := Nat.mod_lt (n + seg - 1) (show 0 < seg by omega)
  unfold cnt
  generalize (n + seg - 1) / seg = q at *
  generalize (n + seg - 1) % seg = r at *
  by_cases h0 : q = 0
  · rw [if_pos h0]
    subst h0
    refine ⟨Nat.le_refl _, by simp at hd; omega, fun i hi => by omega⟩
  · rw [if_neg h0]
    refine ⟨Nat.pos_of_ne_zero h0, by rw [Nat.mul_comm]; omega, fun i hi => ?_⟩
    have h1 : (i + 2) * seg ≤ q * seg := Nat.mul_le_mul_right seg (by omega)
    rw [Nat.mul_comm q seg] at h1
    have h2 : (i + 2) * seg = (i + 1) * seg + seg := by rw [show i + 2 = (i + 1) + 1 by omega, Nat.succ_mul]
    omega
theorem cnt_le (n seg m : Nat) (h : 1 ≤ seg) (hm : 1 ≤ m) : cnt n seg ≤ m ↔ n ≤ seg * m := by
  obtain ⟨h1, h2, h3⟩ := cnt_spec n seg h
  constructor
  · intro hc
    have : cnt n seg * seg ≤ m * seg := Nat.mul_le_mul_right seg hc
    rw [Nat.mul_comm seg m]; omega
  · intro hn
    rcases Nat.lt_or_ge m (cnt n seg) with hlt | hge
    · obtain ⟨q, rfl⟩ : ∃ q, m = q + 1 := ⟨m - 1, by omega⟩
      have := h3 q hlt
      rw [Nat.mul_comm] at hn
      omega
    · exact hge
/-- One piece more. -/
theorem pieces_step (seg i : Nat) (data : List UInt8) (h : 1 ≤ seg) (hi : i < cnt data.length seg) (k : Nat) (hk : data.length ≤ k + i) :
    piecesL seg k (data.drop (i * seg)) = ((data.drop (i * seg)).take seg, decide (i + 1 = cnt data.length seg)) :: (if i + 1 = cnt data.length seg then [] else piecesL seg (k - 1) (data.drop ((i + 1) * seg))) := by
  obtain ⟨h1, h2, h3⟩ := cnt_spec data.length seg h
  have e1 : (i + 1) * seg = i * seg + seg := Nat.succ_mul i seg
  by_cases hl : i + 1 = cnt data.length seg
  · have : ¬ seg < (data.drop (i * seg)).length := by
      rw [List.length_drop]
      rw [← hl] at h2
      omega
    rw [piecesL_last this, if_pos hl]
    rw [List.take_of_length_le (by omega)]
    simp [hl]
  · have h4 := h3 i (by omega)
    have hgt : seg < (data.drop (i * seg)).length := by rw [List.length_drop]; omega
    have hk1 : 1 ≤ k := by
      rw [List.length_drop] at hgt
      have : i ≤ i * seg := Nat.le_mul_of_pos_right i (by omega)
      omega
    obtain ⟨q, rfl⟩ : ∃ q, k = q + 1 := ⟨k - 1, by omega⟩
    rw [piecesL, if_pos hgt, if_neg hl, List.drop_drop, ← e1]
    simp [hl]
theorem length_at (x : Int) (n : Nat) (last : Bool) (w : World) (hx : x = n) (h : n < 32768) :
    Calls Try.prog 22 #[.int .i64 x, .bool last] w fun e w' => ∃ A c, e = .returned (.slice A 2 c) ∧ Own w' w.heap.size 5 A c (putL (n + (if last = true then 0 else 32768)) 2) ∧ Below w.heap.size w w' := by
  subst hx; exact length_any n last w h
/-- Bytes that lie below the slice that grew. -/
theorem Bs.grow {w w' : World} {B base : Nat} {e : TypeId} {A A' : Option Addr} {c : Nat} {l m : List UInt8} (h : Bs w B A' m) (hB : B ≤ base) (hg : w.grownBy w' (blk A)) (ho : Own w base e A c l) (hs : base ≤ w.heap.size) : Bs w' B A' m := h.keep fun p hp => by
  have hb := hg.block p.block (by omega) (fun e => by have := (ho.lt _ e.symm).1; omega)
  unfold World.cell?
  rw [hb]
/-- What is written when k pieces are. -/
def RestOf (hd data : List UInt8) (seg k : Nat) : List UInt8 := if k < cnt data.length seg then segsL (if k = 0 then hd else []) (piecesL seg (data.length - k) (data.drop (k * seg))) else []
theorem RestOf_step (hd data : List UInt8) (seg k : Nat) (h : 1 ≤ seg) (hk : k < cnt data.length seg) : RestOf hd data seg k = segOf (if k = 0 then hd else []) ((data.drop (k * seg)).take seg) (decide (k + 1 = cnt data.length seg)) ++ RestOf hd data seg (k + 1) := by
  unfold RestOf
  rw [if_pos hk, pieces_step seg k data h hk (data.length - k) (by omega)]
  simp only [segsL]
  congr 1
  by_cases hl : k + 1 = cnt data.length seg
  · rw [if_pos hl, if_neg (by omega)]; rfl
  · rw [if_neg hl, if_pos (by omega), if_neg (by omega), show data.length - k - 1 = data.length - (k + 1) by omega]

set_option maxRecDepth 100000 in
set_option maxHeartbeats 4000000 in
theorem refwrite_ok (id : Nat) (A : Option Addr) (data : List UInt8) (c seg : Nat) (w : World) (hid : id < 65536) (hdl : data.length ≤ 2048) (s1 : 1 ≤ seg) (s2 : seg ≤ 2048) (hfit : data.length ≤ seg * 64) (hle : data.length ≤ c) (hc : c ≤ 9223372036854775807)
    (hbs : Bs w w.heap.size A data) (R : List UInt8) (hR : Hid (R = segsL (putL id 2) (piecesL seg data.length data))) :
    Calls Try.prog 12 #[.agg #[.int .i64 id, .slice A data.length c], .int .i64 seg] w (OutB w (R, 0)) := by
  have hB0 := Blk.new w 24 #[.int .i64 id, .slice A data.length c]
  have v0 := hB0.cell 0
  have v1 := hB0.cell 1
  simp only [List.getElem?_toArray, List.getElem?_cons_zero, List.getElem?_cons_succ] at v0 v1
  obtain ⟨c1, c2, c3⟩ := cnt_spec data.length seg s1
  have hc64 : cnt data.length seg ≤ 64 := (cnt_le _ _ _ s1 (by omega)).2 hfit
  have hdiv : ((data.length : Int) + (seg : Int) - 1) / (seg : Int) = (((data.length + seg - 1) / seg : Nat) : Int) := by
    rw [show (data.length : Int) + (seg : Int) - 1 = ((data.length + seg - 1 : Nat) : Int) by omega]; simp
  obtain ⟨q, hq⟩ : ∃ q, q = (data.length + seg - 1) / seg := ⟨_, rfl⟩
  have hcq : cnt data.length seg = if q = 0 then 1 else q := by rw [hq]; rfl
  rw [← hq] at hdiv
  have Hcq := Lib.hid hcq
  have C2 := Lib.hid c2
  have C3 := Lib.hid c3
  have hR0 : R = [] ++ RestOf (putL id 2) data seg 0 := by
    rw [hR.out]; unfold RestOf; rw [if_pos (by omega)]; simp
  have HR0 := Lib.hid hR0
  obtain ⟨cn, hcn⟩ : ∃ cn, cn = cnt data.length seg := ⟨_, rfl⟩
  have Hcn := Lib.hid hcn
  rw [← hcn] at c1 hc64
  have hq1 : q = 0 → data.length = 0 := fun h => by
    have h1 := Nat.div_add_mod (data.length + seg - 1) seg
    have h2 := Nat.mod_lt (data.length + seg - 1) (show 0 < seg by omega)
    rw [← hq, h] at h1
    simp at h1; omega
  have hq2 : q ≠ 0 → 1 ≤ data.length := fun h => by
    rcases Nat.eq_zero_or_pos data.length with h1 | h1
    · exact absurd (by rw [hq, h1]; exact Nat.div_eq_of_lt (by omega)) h
    · exact h1
  clear hR hR0 hcq c2 c3 hq hcn hfit
  obtain ⟨i0, hi, hz0, hz1, hz2⟩ := info_parts Try.infoU8
  by_cases hq0 : q = 0
  · have hqb : ((q : Int) == 0) = true := by simp [hq0]
    obtain rfl : cn = 1 := by rw [Hcn.out, Hcq.out, if_pos hq0]
    have Hq0 := Lib.hid hq0
    have Hq1 := Lib.hid hq1
    have Hq2 := Lib.hid hq2
    clear hq0 hq1 hq2
    go_enter Try.func12, Try.ntmps12
    go_wp2_with fail
    refine (refput_two id _ (by omega)).mono ?_
    rintro e w1 ⟨Ai, ci, rfl, hoi, hb1⟩
    have hB1 := hB0.below hb1 hB0.lt
    have hb1w := bt (ba w (.cells #[.int .i64 id, .slice A data.length c] 24)) hb1
    have hoib := hoi.bs
    have hidl : (putL id 2).length = 2 := putL_length _ _
    have Hidl := Lib.hid hidl
    simp only [putL_length]
    clear v0 v1 hidl
    go_wp2_with fail
    go_loopw [7, 10] (fun out i wr => ∃ (k : Nat) (Ao : Option Addr) (co : Nat) (O : List UInt8), k ≤ 1 ∧ i = .int .i64 k ∧ out = .slice Ao O.length co ∧ Own wr w1.heap.size 5 Ao co O ∧ Hid (R = O ++ RestOf (putL id 2) data seg k) ∧ O.length ≤ k * 2052 ∧ Below w1.heap.size w1 wr)
      (fun _ i _ => 1 - (intOf i).toNat)
    case atStart => exact ⟨0, none, 0, [], by omega, rfl, rfl, Own.nil, HR0, by simp, Below.refl _ _⟩
    case round =>
      obtain ⟨k, Ao, co, O, hk, rfl, rfl, hO, hRk, hOl, hbk⟩ := hrel
      by_cases hlt : k < 1
      · have hk2 : k ≤ 63 := by omega
        have hkcn : k < cnt data.length seg := by rw [← Hcn.out]; omega
        have hstep := RestOf_step (putL id 2) data seg k s1 hkcn
        obtain ⟨T, hT⟩ : ∃ T, T = (k + 1) * seg := ⟨_, rfl⟩
        obtain ⟨K, hK⟩ : ∃ K, K = k * seg := ⟨_, rfl⟩
        have hKT : T = K + seg := by rw [hT, hK]; exact Nat.succ_mul k seg
        have hKb : K ≤ 63 * 2048 := by rw [hK]; exact Nat.mul_le_mul hk2 s2
        have hK0 : k = 0 ∨ K < data.length := by
          rcases Nat.eq_zero_or_pos k with h | h
          · exact .inl h
          · obtain ⟨j, rfl⟩ : ∃ j, k = j + 1 := ⟨k - 1, by omega⟩
            exact .inr (by rw [hK]; exact C3.out j hkcn)
        have hKle : K ≤ data.length := by
          rcases hK0 with h | h
          · rw [hK, h]; simp
          · omega
        have hlastT : (k + 1 = cnt data.length seg) ↔ data.length ≤ T := by
          rw [hT]
          constructor
          · intro h; rw [h]; exact C2.out
          · intro h
            rcases Nat.lt_or_ge (k + 1) (cnt data.length seg) with h1 | h1
            · have := C3.out k h1; omega
            · omega
        have hK00 : k = 0 → K = 0 := fun h => by rw [hK, h]; simp
        have HK00 := Lib.hid hK00
        clear hK00
        have eK : (k : Int) * (seg : Int) = (K : Int) := by rw [hK]; simp
        have eT : ((k : Int) + 1) * (seg : Int) = (T : Int) := by rw [hT]; simp
        rw [← hK] at hstep
        rw [hstep] at hRk
        have hpl : ((data.drop K).take seg).length = min seg (data.length - K) := by simp
        obtain ⟨hd, hhd⟩ : ∃ hd, hd = if k = 0 then putL id 2 else [] := ⟨_, rfl⟩
        rw [← hhd] at hRk
        obtain ⟨p, hp⟩ : ∃ p, p = (data.drop K).take seg := ⟨_, rfl⟩
        rw [← hp] at hRk hpl
        have Hhd := Lib.hid hhd
        have Hp := Lib.hid hp
        have Hpl := Lib.hid hpl
        have HlT := Lib.hid hlastT
        clear hstep hT hK hhd hp hpl hlastT hkcn
        have hBr := hB1.below hbk hB1.lt
        have v0 := hBr.cell 0
        have v1 := hBr.cell 1
        simp only [List.getElem?_toArray, List.getElem?_cons_zero, List.getElem?_cons_succ] at v0 v1
        have hbr := hbs.below (bt hb1w hbk)
        have Hd0 := Lib.hid (Hq1.out Hq0.out)
        have hk0 : k = 0 := by omega
        have hgt : data.length < T := by have := Hd0.out; omega
        by_cases hcK : c = K
        · have hkb : ((k : Int) == 0) = true := by simp [hk0]
          have Hdl : Hid (hd = putL id 2) := Lib.hid (by rw [Hhd.out, if_pos hk0])
          have hlb : (((k : Int) + 1) == (1 : Int)) = true := by have := HlT.out.2 (by omega); rw [← Hcn.out] at this; exact beq_iff_eq.2 (by omega)
          have hpn : data.length - K = p.length := by have := Hpl.out; omega
          have hdec : decide (k + 1 = cnt data.length seg) = true := by exact decide_eq_true (HlT.out.2 (by omega))
          rw [hdec] at hRk
          have Hpn := Lib.hid hpn
          have hbp : Bs wr w.heap.size A p := by rw [Hp.out]; exact bs_take (by rw [List.drop_eq_nil_of_le (by omega)]; exact Bs.nil) seg
          have HRk := Lib.hid hRk.out
          subst hcK
          clear hk0
          clear hpn hdec hRk
          go_wp2_with fail
          refine (length_at _ (2 + p.length + 2) true wr (by have := Hpn.out; omega) (by have := Hpl.out; omega)).mono ?_
          rintro e w2 ⟨A5, c5, rfl, ho5, hb2⟩
          have hO2 := hO.below hb2 (Nat.le_refl _)
          have hb2' := RowKit.Below.trans hbk (hb2.mono hbk.size)
          have ho5b := ho5.bs
          have hoi2 := (hoib.below hbk).below (hb2.mono hbk.size)
          have hbp2 := hbp.below (hb2.mono (Nat.le_trans hb1w.size hbk.size))
          clear hO hbk hbp ho5 hbr
          go_wp2_with (first | (at_builtin; refine wpList_append_bs _ rfl (.tmp 84) (.tmp 90) 22 rfl w1.heap.size 5 i0 _ Try.underlying22 hi hz0 hz1 hz2 rfl Ao co O O.length rfl rfl hO2 _ A5 c5 (putL (2 + p.length + 2 + (if true = true then 0 else 32768)) 2) 2 rfl (by rw [putL_length]) ho5b (by rw [putL_length]; omega) hb2'.size ?_; intro A6 c6 w3 own3 hg3 _; have hb3 := hb2'.grown hg3 hb2'.size (fun k e => (hO2.lt k e).1); have hoi3 := hoi2.grow (Nat.le_refl _) hg3 hO2 hb2'.size; have hbp3 := hbp2.grow hb1w.size hg3 hO2 hb2'.size; clear hO2 hb2') | (at_builtin; refine wpList_append_bs _ rfl (.tmp 94) (.tmp 95) 22 rfl w1.heap.size 5 i0 _ Try.underlying22 hi hz0 hz1 hz2 rfl A6 c6 (O ++ putL (2 + p.length + 2 + (if true = true then 0 else 32768)) 2) (O.length + 2) rfl (by rw [List.length_append, putL_length]) own3 _ Ai ci (putL id 2) 2 rfl (by rw [putL_length]) hoi3 (by rw [List.length_append, putL_length, putL_length]; omega) hb3.size ?_; intro A7 c7 w4 own4 hg4 _; have hb4 := hb3.grown hg4 hb3.size (fun k e => (own3.lt k e).1); have hbp4 := hbp3.grow hb1w.size hg4 own3 hb3.size; clear own3 hb3) | (at_builtin; refine wpList_append_bs _ rfl (.tmp 97) (.tmp 98) 22 rfl w1.heap.size 5 i0 _ Try.underlying22 hi hz0 hz1 hz2 rfl A7 c7 ((O ++ putL (2 + p.length + 2 + (if true = true then 0 else 32768)) 2) ++ putL id 2) (O.length + 2 + 2) rfl (by simp only [List.length_append, putL_length]) own4 _ A 0 p 0 rfl (by have := Hpn.out; omega) hbp4 (by simp only [List.length_append, putL_length]; have := Hpl.out; omega) hb4.size ?_; intro A8 c8 w5 own5 hg5 _; have hb5 := hb4.grown hg5 hb4.size (fun k e => (own4.lt k e).1); clear own4 hb4))
          go_roundw
          case rel =>
            refine ⟨k + 1, A8, c8, ((O ++ putL (2 + p.length + 2 + (if true = true then 0 else 32768)) 2) ++ putL id 2) ++ p, by omega, by go_num, ?_, own5, Lib.hid ?_, ?_, hb5⟩
            · have := Hpn.out; simp only [List.length_append, putL_length]; congr 1; omega
            · rw [HRk.out, Hdl.out]; simp only [segOf, List.append_assoc]; rw [show 2 + (putL id 2).length + p.length = 2 + p.length + 2 by rw [putL_length]; omega]
            · simp only [List.length_append, putL_length]; have := Hpl.out; omega
          case measure => simp [intOf]; omega
        · have hkb : ((k : Int) == 0) = true := by simp [hk0]
          have Hdl : Hid (hd = putL id 2) := Lib.hid (by rw [Hhd.out, if_pos hk0])
          have hlb : (((k : Int) + 1) == (1 : Int)) = true := by have := HlT.out.2 (by omega); rw [← Hcn.out] at this; exact beq_iff_eq.2 (by omega)
          have hpn : data.length - K = p.length := by have := Hpl.out; omega
          have hdec : decide (k + 1 = cnt data.length seg) = true := by exact decide_eq_true (HlT.out.2 (by omega))
          rw [hdec] at hRk
          have Hpn := Lib.hid hpn
          have hbp : Bs wr w.heap.size (A.map fun x => x.add K) p := by rw [Hp.out]; exact bs_take (bs_dropM hbr K) seg
          have HRk := Lib.hid hRk.out
          have hca : ¬ c = K := hcK
          clear hk0
          clear hpn hdec hRk
          go_wp2_with fail
          refine (length_at _ (2 + p.length + 2) true wr (by have := Hpn.out; omega) (by have := Hpl.out; omega)).mono ?_
          rintro e w2 ⟨A5, c5, rfl, ho5, hb2⟩
          have hO2 := hO.below hb2 (Nat.le_refl _)
          have hb2' := RowKit.Below.trans hbk (hb2.mono hbk.size)
          have ho5b := ho5.bs
          have hoi2 := (hoib.below hbk).below (hb2.mono hbk.size)
          have hbp2 := hbp.below (hb2.mono (Nat.le_trans hb1w.size hbk.size))
          clear hO hbk hbp ho5 hbr
          go_wp2_with (first | (at_builtin; refine wpList_append_bs _ rfl (.tmp 84) (.tmp 90) 22 rfl w1.heap.size 5 i0 _ Try.underlying22 hi hz0 hz1 hz2 rfl Ao co O O.length rfl rfl hO2 _ A5 c5 (putL (2 + p.length + 2 + (if true = true then 0 else 32768)) 2) 2 rfl (by rw [putL_length]) ho5b (by rw [putL_length]; omega) hb2'.size ?_; intro A6 c6 w3 own3 hg3 _; have hb3 := hb2'.grown hg3 hb2'.size (fun k e => (hO2.lt k e).1); have hoi3 := hoi2.grow (Nat.le_refl _) hg3 hO2 hb2'.size; have hbp3 := hbp2.grow hb1w.size hg3 hO2 hb2'.size; clear hO2 hb2') | (at_builtin; refine wpList_append_bs _ rfl (.tmp 94) (.tmp 95) 22 rfl w1.heap.size 5 i0 _ Try.underlying22 hi hz0 hz1 hz2 rfl A6 c6 (O ++ putL (2 + p.length + 2 + (if true = true then 0 else 32768)) 2) (O.length + 2) rfl (by rw [List.length_append, putL_length]) own3 _ Ai ci (putL id 2) 2 rfl (by rw [putL_length]) hoi3 (by rw [List.length_append, putL_length, putL_length]; omega) hb3.size ?_; intro A7 c7 w4 own4 hg4 _; have hb4 := hb3.grown hg4 hb3.size (fun k e => (own3.lt k e).1); have hbp4 := hbp3.grow hb1w.size hg4 own3 hb3.size; clear own3 hb3) | (at_builtin; refine wpList_append_bs _ rfl (.tmp 97) (.tmp 98) 22 rfl w1.heap.size 5 i0 _ Try.underlying22 hi hz0 hz1 hz2 rfl A7 c7 ((O ++ putL (2 + p.length + 2 + (if true = true then 0 else 32768)) 2) ++ putL id 2) (O.length + 2 + 2) rfl (by simp only [List.length_append, putL_length]) own4 _ (A.map fun x => x.add K) (c - K) p (data.length - K) rfl (by have := Hpn.out; omega) hbp4 (by simp only [List.length_append, putL_length]; have := Hpl.out; omega) hb4.size ?_; intro A8 c8 w5 own5 hg5 _; have hb5 := hb4.grown hg5 hb4.size (fun k e => (own4.lt k e).1); clear own4 hb4))
          go_roundw
          case rel =>
            refine ⟨k + 1, A8, c8, ((O ++ putL (2 + p.length + 2 + (if true = true then 0 else 32768)) 2) ++ putL id 2) ++ p, by omega, by go_num, ?_, own5, Lib.hid ?_, ?_, hb5⟩
            · have := Hpn.out; simp only [List.length_append, putL_length]; congr 1; omega
            · rw [HRk.out, Hdl.out]; simp only [segOf, List.append_assoc]; rw [show 2 + (putL id 2).length + p.length = 2 + p.length + 2 by rw [putL_length]; omega]
            · simp only [List.length_append, putL_length]; have := Hpl.out; omega
          case measure => simp [intOf]; omega
      · obtain rfl : k = 1 := by omega
        have hRO : R = O := by rw [hRk.out]; unfold RestOf; rw [if_neg (by rw [← Hcn.out]; omega)]; simp
        go_wp2
        go_ret2
        exact ⟨Ao, co, by rw [hRO]; rfl, by rw [hRO]; exact hO.base_le hb1w.size, bt hb1w hbk⟩
  · have hqb : ((q : Int) == 0) = false := by simp [hq0]
    obtain rfl : cn = q := by rw [Hcn.out, Hcq.out, if_neg hq0]
    have Hq0 := Lib.hid hq0
    have Hq1 := Lib.hid hq1
    have Hq2 := Lib.hid hq2
    clear hq0 hq1 hq2
    go_enter Try.func12, Try.ntmps12
    go_wp2_with fail
    refine (refput_two id _ (by omega)).mono ?_
    rintro e w1 ⟨Ai, ci, rfl, hoi, hb1⟩
    have hB1 := hB0.below hb1 hB0.lt
    have hb1w := bt (ba w (.cells #[.int .i64 id, .slice A data.length c] 24)) hb1
    have hoib := hoi.bs
    have hidl : (putL id 2).length = 2 := putL_length _ _
    have Hidl := Lib.hid hidl
    simp only [putL_length]
    clear v0 v1 hidl
    go_wp2_with fail
    go_loopw [7, 10] (fun out i wr => ∃ (k : Nat) (Ao : Option Addr) (co : Nat) (O : List UInt8), k ≤ cn ∧ i = .int .i64 k ∧ out = .slice Ao O.length co ∧ Own wr w1.heap.size 5 Ao co O ∧ Hid (R = O ++ RestOf (putL id 2) data seg k) ∧ O.length ≤ k * 2052 ∧ Below w1.heap.size w1 wr)
      (fun _ i _ => cn - (intOf i).toNat)
    case atStart => exact ⟨0, none, 0, [], by omega, rfl, rfl, Own.nil, HR0, by simp, Below.refl _ _⟩
    case round =>
      obtain ⟨k, Ao, co, O, hk, rfl, rfl, hO, hRk, hOl, hbk⟩ := hrel
      by_cases hlt : k < cn
      · have hk2 : k ≤ 63 := by omega
        have hkcn : k < cnt data.length seg := by rw [← Hcn.out]; omega
        have hstep := RestOf_step (putL id 2) data seg k s1 hkcn
        obtain ⟨T, hT⟩ : ∃ T, T = (k + 1) * seg := ⟨_, rfl⟩
        obtain ⟨K, hK⟩ : ∃ K, K = k * seg := ⟨_, rfl⟩
        have hKT : T = K + seg := by rw [hT, hK]; exact Nat.succ_mul k seg
        have hKb : K ≤ 63 * 2048 := by rw [hK]; exact Nat.mul_le_mul hk2 s2
        have hK0 : k = 0 ∨ K < data.length := by
          rcases Nat.eq_zero_or_pos k with h | h
          · exact .inl h
          · obtain ⟨j, rfl⟩ : ∃ j, k = j + 1 := ⟨k - 1, by omega⟩
            exact .inr (by rw [hK]; exact C3.out j hkcn)
        have hKle : K ≤ data.length := by
          rcases hK0 with h | h
          · rw [hK, h]; simp
          · omega
        have hlastT : (k + 1 = cnt data.length seg) ↔ data.length ≤ T := by
          rw [hT]
          constructor
          · intro h; rw [h]; exact C2.out
          · intro h
            rcases Nat.lt_or_ge (k + 1) (cnt data.length seg) with h1 | h1
            · have := C3.out k h1; omega
            · omega
        have hK00 : k = 0 → K = 0 := fun h => by rw [hK, h]; simp
        have HK00 := Lib.hid hK00
        clear hK00
        have eK : (k : Int) * (seg : Int) = (K : Int) := by rw [hK]; simp
        have eT : ((k : Int) + 1) * (seg : Int) = (T : Int) := by rw [hT]; simp
        rw [← hK] at hstep
        rw [hstep] at hRk
        have hpl : ((data.drop K).take seg).length = min seg (data.length - K) := by simp
        obtain ⟨hd, hhd⟩ : ∃ hd, hd = if k = 0 then putL id 2 else [] := ⟨_, rfl⟩
        rw [← hhd] at hRk
        obtain ⟨p, hp⟩ : ∃ p, p = (data.drop K).take seg := ⟨_, rfl⟩
        rw [← hp] at hRk hpl
        have Hhd := Lib.hid hhd
        have Hp := Lib.hid hp
        have Hpl := Lib.hid hpl
        have HlT := Lib.hid hlastT
        clear hstep hT hK hhd hp hpl hlastT hkcn
        have hBr := hB1.below hbk hB1.lt
        have v0 := hBr.cell 0
        have v1 := hBr.cell 1
        simp only [List.getElem?_toArray, List.getElem?_cons_zero, List.getElem?_cons_succ] at v0 v1
        have hbr := hbs.below (bt hb1w hbk)
        have hd1 := Hq2.out Hq0.out
        by_cases hgt : data.length < T
        · by_cases hk0 : k = 0
          · have hkb : ((k : Int) == 0) = true := by simp [hk0]
            have Hdl : Hid (hd = putL id 2) := Lib.hid (by rw [Hhd.out, if_pos hk0])
            have hlb : (((k : Int) + 1) == (cn : Int)) = true := by have := HlT.out.2 (by omega); rw [← Hcn.out] at this; exact beq_iff_eq.2 (by omega)
            have hpn : data.length - K = p.length := by have := Hpl.out; omega
            have hdec : decide (k + 1 = cnt data.length seg) = true := by exact decide_eq_true (HlT.out.2 (by omega))
            rw [hdec] at hRk
            have Hpn := Lib.hid hpn
            have hbp : Bs wr w.heap.size (A.map fun x => x.add K) p := by rw [Hp.out]; exact bs_take (bs_dropM hbr K) seg
            have HRk := Lib.hid hRk.out
            have hca : ¬ c = K := by have := HK00.out; omega
            clear hk0
            clear hpn hdec hRk
            go_wp2_with fail
            refine (length_at _ (2 + p.length + 2) true wr (by have := Hpn.out; omega) (by have := Hpl.out; omega)).mono ?_
            rintro e w2 ⟨A5, c5, rfl, ho5, hb2⟩
            have hO2 := hO.below hb2 (Nat.le_refl _)
            have hb2' := RowKit.Below.trans hbk (hb2.mono hbk.size)
            have ho5b := ho5.bs
            have hoi2 := (hoib.below hbk).below (hb2.mono hbk.size)
            have hbp2 := hbp.below (hb2.mono (Nat.le_trans hb1w.size hbk.size))
            clear hO hbk hbp ho5 hbr
            go_wp2_with (first | (at_builtin; refine wpList_append_bs _ rfl (.tmp 84) (.tmp 90) 22 rfl w1.heap.size 5 i0 _ Try.underlying22 hi hz0 hz1 hz2 rfl Ao co O O.length rfl rfl hO2 _ A5 c5 (putL (2 + p.length + 2 + (if true = true then 0 else 32768)) 2) 2 rfl (by rw [putL_length]) ho5b (by rw [putL_length]; omega) hb2'.size ?_; intro A6 c6 w3 own3 hg3 _; have hb3 := hb2'.grown hg3 hb2'.size (fun k e => (hO2.lt k e).1); have hoi3 := hoi2.grow (Nat.le_refl _) hg3 hO2 hb2'.size; have hbp3 := hbp2.grow hb1w.size hg3 hO2 hb2'.size; clear hO2 hb2') | (at_builtin; refine wpList_append_bs _ rfl (.tmp 94) (.tmp 95) 22 rfl w1.heap.size 5 i0 _ Try.underlying22 hi hz0 hz1 hz2 rfl A6 c6 (O ++ putL (2 + p.length + 2 + (if true = true then 0 else 32768)) 2) (O.length + 2) rfl (by rw [List.length_append, putL_length]) own3 _ Ai ci (putL id 2) 2 rfl (by rw [putL_length]) hoi3 (by rw [List.length_append, putL_length, putL_length]; omega) hb3.size ?_; intro A7 c7 w4 own4 hg4 _; have hb4 := hb3.grown hg4 hb3.size (fun k e => (own3.lt k e).1); have hbp4 := hbp3.grow hb1w.size hg4 own3 hb3.size; clear own3 hb3) | (at_builtin; refine wpList_append_bs _ rfl (.tmp 97) (.tmp 98) 22 rfl w1.heap.size 5 i0 _ Try.underlying22 hi hz0 hz1 hz2 rfl A7 c7 ((O ++ putL (2 + p.length + 2 + (if true = true then 0 else 32768)) 2) ++ putL id 2) (O.length + 2 + 2) rfl (by simp only [List.length_append, putL_length]) own4 _ (A.map fun x => x.add K) (c - K) p (data.length - K) rfl (by have := Hpn.out; omega) hbp4 (by simp only [List.length_append, putL_length]; have := Hpl.out; omega) hb4.size ?_; intro A8 c8 w5 own5 hg5 _; have hb5 := hb4.grown hg5 hb4.size (fun k e => (own4.lt k e).1); clear own4 hb4))
            go_roundw
            case rel =>
              refine ⟨k + 1, A8, c8, ((O ++ putL (2 + p.length + 2 + (if true = true then 0 else 32768)) 2) ++ putL id 2) ++ p, by omega, by go_num, ?_, own5, Lib.hid ?_, ?_, hb5⟩
              · have := Hpn.out; simp only [List.length_append, putL_length]; congr 1; omega
              · rw [HRk.out, Hdl.out]; simp only [segOf, List.append_assoc]; rw [show 2 + (putL id 2).length + p.length = 2 + p.length + 2 by rw [putL_length]; omega]
              · simp only [List.length_append, putL_length]; have := Hpl.out; omega
            case measure => simp [intOf]; omega
          · have hkb : ((k : Int) == 0) = false := by simp [hk0]
            have Hdl : Hid (hd = []) := Lib.hid (by rw [Hhd.out, if_neg hk0])
            have hlb : (((k : Int) + 1) == (cn : Int)) = true := by have := HlT.out.2 (by omega); rw [← Hcn.out] at this; exact beq_iff_eq.2 (by omega)
            have hpn : data.length - K = p.length := by have := Hpl.out; omega
            have hdec : decide (k + 1 = cnt data.length seg) = true := by exact decide_eq_true (HlT.out.2 (by omega))
            rw [hdec] at hRk
            have Hpn := Lib.hid hpn
            have hbp : Bs wr w.heap.size (A.map fun x => x.add K) p := by rw [Hp.out]; exact bs_take (bs_dropM hbr K) seg
            have HRk := Lib.hid hRk.out
            have hca : ¬ c = K := by have := HK00.out; omega
            clear hpn hdec hRk
            go_wp2_with fail
            refine (length_at _ (2 + p.length) true wr (by have := Hpn.out; omega) (by have := Hpl.out; omega)).mono ?_
            rintro e w2 ⟨A5, c5, rfl, ho5, hb2⟩
            have hO2 := hO.below hb2 (Nat.le_refl _)
            have hb2' := RowKit.Below.trans hbk (hb2.mono hbk.size)
            have ho5b := ho5.bs
            have hoi2 := (hoib.below hbk).below (hb2.mono hbk.size)
            have hbp2 := hbp.below (hb2.mono (Nat.le_trans hb1w.size hbk.size))
            clear hO hbk hbp ho5 hbr
            go_wp2_with (first | (at_builtin; refine wpList_append_bs _ rfl (.tmp 84) (.tmp 90) 22 rfl w1.heap.size 5 i0 _ Try.underlying22 hi hz0 hz1 hz2 rfl Ao co O O.length rfl rfl hO2 _ A5 c5 (putL (2 + p.length + (if true = true then 0 else 32768)) 2) 2 rfl (by rw [putL_length]) ho5b (by rw [putL_length]; omega) hb2'.size ?_; intro A6 c6 w3 own3 hg3 _; have hb3 := hb2'.grown hg3 hb2'.size (fun k e => (hO2.lt k e).1); have hoi3 := hoi2.grow (Nat.le_refl _) hg3 hO2 hb2'.size; have hbp3 := hbp2.grow hb1w.size hg3 hO2 hb2'.size; clear hO2 hb2') | (at_builtin; refine wpList_append_bs _ rfl (.tmp 97) (.tmp 98) 22 rfl w1.heap.size 5 i0 _ Try.underlying22 hi hz0 hz1 hz2 rfl A6 c6 (O ++ putL (2 + p.length + (if true = true then 0 else 32768)) 2) (O.length + 2) rfl (by simp only [List.length_append, putL_length]) own3 _ (A.map fun x => x.add K) (c - K) p (data.length - K) rfl (by have := Hpn.out; omega) hbp3 (by simp only [List.length_append, putL_length]; have := Hpl.out; omega) hb3.size ?_; intro A8 c8 w5 own5 hg5 _; have hb5 := hb3.grown hg5 hb3.size (fun k e => (own3.lt k e).1); clear own3 hb3))
            go_roundw
            case rel =>
              refine ⟨k + 1, A8, c8, (O ++ putL (2 + p.length + (if true = true then 0 else 32768)) 2) ++ p, by omega, by go_num, ?_, own5, Lib.hid ?_, ?_, hb5⟩
              · have := Hpn.out; simp only [List.length_append, putL_length]; congr 1; omega
              · rw [HRk.out, Hdl.out]; simp only [segOf, List.append_assoc]; simp
              · simp only [List.length_append, putL_length]; have := Hpl.out; omega
            case measure => simp [intOf]; omega
        · by_cases hge : T < data.length
          · by_cases hk0 : k = 0
            · have hkb : ((k : Int) == 0) = true := by simp [hk0]
              have Hdl : Hid (hd = putL id 2) := Lib.hid (by rw [Hhd.out, if_pos hk0])
              have hlb : (((k : Int) + 1) == (cn : Int)) = false := by (have h1 : ¬ (k + 1 = cnt data.length seg) := fun h => (by have := HlT.out.1 h; omega); rw [← Hcn.out] at h1; exact beq_eq_false_iff_ne.2 (by omega))
              have hpn : T - K = p.length := by have := Hpl.out; omega
              have hdec : decide (k + 1 = cnt data.length seg) = false := by exact decide_eq_false (fun h => by have := HlT.out.1 h; omega)
              rw [hdec] at hRk
              have Hpn := Lib.hid hpn
              have hbp : Bs wr w.heap.size (A.map fun x => x.add K) p := by rw [Hp.out]; exact bs_take (bs_dropM hbr K) seg
              have HRk := Lib.hid hRk.out
              have hca : ¬ c = K := by have := HK00.out; omega
              clear hk0
              clear hpn hdec hRk
              go_wp2_with fail
              refine (length_at _ (2 + p.length + 2) false wr (by have := Hpn.out; omega) (by have := Hpl.out; omega)).mono ?_
              rintro e w2 ⟨A5, c5, rfl, ho5, hb2⟩
              have hO2 := hO.below hb2 (Nat.le_refl _)
              have hb2' := RowKit.Below.trans hbk (hb2.mono hbk.size)
              have ho5b := ho5.bs
              have hoi2 := (hoib.below hbk).below (hb2.mono hbk.size)
              have hbp2 := hbp.below (hb2.mono (Nat.le_trans hb1w.size hbk.size))
              clear hO hbk hbp ho5 hbr
              go_wp2_with (first | (at_builtin; refine wpList_append_bs _ rfl (.tmp 84) (.tmp 90) 22 rfl w1.heap.size 5 i0 _ Try.underlying22 hi hz0 hz1 hz2 rfl Ao co O O.length rfl rfl hO2 _ A5 c5 (putL (2 + p.length + 2 + (if false = true then 0 else 32768)) 2) 2 rfl (by rw [putL_length]) ho5b (by rw [putL_length]; omega) hb2'.size ?_; intro A6 c6 w3 own3 hg3 _; have hb3 := hb2'.grown hg3 hb2'.size (fun k e => (hO2.lt k e).1); have hoi3 := hoi2.grow (Nat.le_refl _) hg3 hO2 hb2'.size; have hbp3 := hbp2.grow hb1w.size hg3 hO2 hb2'.size; clear hO2 hb2') | (at_builtin; refine wpList_append_bs _ rfl (.tmp 94) (.tmp 95) 22 rfl w1.heap.size 5 i0 _ Try.underlying22 hi hz0 hz1 hz2 rfl A6 c6 (O ++ putL (2 + p.length + 2 + (if false = true then 0 else 32768)) 2) (O.length + 2) rfl (by rw [List.length_append, putL_length]) own3 _ Ai ci (putL id 2) 2 rfl (by rw [putL_length]) hoi3 (by rw [List.length_append, putL_length, putL_length]; omega) hb3.size ?_; intro A7 c7 w4 own4 hg4 _; have hb4 := hb3.grown hg4 hb3.size (fun k e => (own3.lt k e).1); have hbp4 := hbp3.grow hb1w.size hg4 own3 hb3.size; clear own3 hb3) | (at_builtin; refine wpList_append_bs _ rfl (.tmp 97) (.tmp 98) 22 rfl w1.heap.size 5 i0 _ Try.underlying22 hi hz0 hz1 hz2 rfl A7 c7 ((O ++ putL (2 + p.length + 2 + (if false = true then 0 else 32768)) 2) ++ putL id 2) (O.length + 2 + 2) rfl (by simp only [List.length_append, putL_length]) own4 _ (A.map fun x => x.add K) (c - K) p seg rfl (by have := Hpn.out; omega) hbp4 (by simp only [List.length_append, putL_length]; have := Hpl.out; omega) hb4.size ?_; intro A8 c8 w5 own5 hg5 _; have hb5 := hb4.grown hg5 hb4.size (fun k e => (own4.lt k e).1); clear own4 hb4))
              go_roundw
              case rel =>
                refine ⟨k + 1, A8, c8, ((O ++ putL (2 + p.length + 2 + (if false = true then 0 else 32768)) 2) ++ putL id 2) ++ p, by omega, by go_num, ?_, own5, Lib.hid ?_, ?_, hb5⟩
                · have := Hpn.out; simp only [List.length_append, putL_length]; congr 1; omega
                · rw [HRk.out, Hdl.out]; simp only [segOf, List.append_assoc]; rw [show 2 + (putL id 2).length + p.length = 2 + p.length + 2 by rw [putL_length]; omega]
                · simp only [List.length_append, putL_length]; have := Hpl.out; omega
              case measure => simp [intOf]; omega
            · have hkb : ((k : Int) == 0) = false := by simp [hk0]
              have Hdl : Hid (hd = []) := Lib.hid (by rw [Hhd.out, if_neg hk0])
              have hlb : (((k : Int) + 1) == (cn : Int)) = false := by (have h1 : ¬ (k + 1 = cnt data.length seg) := fun h => (by have := HlT.out.1 h; omega); rw [← Hcn.out] at h1; exact beq_eq_false_iff_ne.2 (by omega))
              have hpn : T - K = p.length := by have := Hpl.out; omega
              have hdec : decide (k + 1 = cnt data.length seg) = false := by exact decide_eq_false (fun h => by have := HlT.out.1 h; omega)
              rw [hdec] at hRk
              have Hpn := Lib.hid hpn
              have hbp : Bs wr w.heap.size (A.map fun x => x.add K) p := by rw [Hp.out]; exact bs_take (bs_dropM hbr K) seg
              have HRk := Lib.hid hRk.out
              have hca : ¬ c = K := by have := HK00.out; omega
              clear hpn hdec hRk
              go_wp2_with fail
              refine (length_at _ (2 + p.length) false wr (by have := Hpn.out; omega) (by have := Hpl.out; omega)).mono ?_
              rintro e w2 ⟨A5, c5, rfl, ho5, hb2⟩
              have hO2 := hO.below hb2 (Nat.le_refl _)
              have hb2' := RowKit.Below.trans hbk (hb2.mono hbk.size)
              have ho5b := ho5.bs
              have hoi2 := (hoib.below hbk).below (hb2.mono hbk.size)
              have hbp2 := hbp.below (hb2.mono (Nat.le_trans hb1w.size hbk.size))
              clear hO hbk hbp ho5 hbr
              go_wp2_with (first | (at_builtin; refine wpList_append_bs _ rfl (.tmp 84) (.tmp 90) 22 rfl w1.heap.size 5 i0 _ Try.underlying22 hi hz0 hz1 hz2 rfl Ao co O O.length rfl rfl hO2 _ A5 c5 (putL (2 + p.length + (if false = true then 0 else 32768)) 2) 2 rfl (by rw [putL_length]) ho5b (by rw [putL_length]; omega) hb2'.size ?_; intro A6 c6 w3 own3 hg3 _; have hb3 := hb2'.grown hg3 hb2'.size (fun k e => (hO2.lt k e).1); have hoi3 := hoi2.grow (Nat.le_refl _) hg3 hO2 hb2'.size; have hbp3 := hbp2.grow hb1w.size hg3 hO2 hb2'.size; clear hO2 hb2') | (at_builtin; refine wpList_append_bs _ rfl (.tmp 97) (.tmp 98) 22 rfl w1.heap.size 5 i0 _ Try.underlying22 hi hz0 hz1 hz2 rfl A6 c6 (O ++ putL (2 + p.length + (if false = true then 0 else 32768)) 2) (O.length + 2) rfl (by simp only [List.length_append, putL_length]) own3 _ (A.map fun x => x.add K) (c - K) p seg rfl (by have := Hpn.out; omega) hbp3 (by simp only [List.length_append, putL_length]; have := Hpl.out; omega) hb3.size ?_; intro A8 c8 w5 own5 hg5 _; have hb5 := hb3.grown hg5 hb3.size (fun k e => (own3.lt k e).1); clear own3 hb3))
              go_roundw
              case rel =>
                refine ⟨k + 1, A8, c8, (O ++ putL (2 + p.length + (if false = true then 0 else 32768)) 2) ++ p, by omega, by go_num, ?_, own5, Lib.hid ?_, ?_, hb5⟩
                · have := Hpn.out; simp only [List.length_append, putL_length]; congr 1; omega
                · rw [HRk.out, Hdl.out]; simp only [segOf, List.append_assoc]; simp
                · simp only [List.length_append, putL_length]; have := Hpl.out; omega
              case measure => simp [intOf]; omega
          · have hTe : T = data.length := by omega
            by_cases hk0 : k = 0
            · have hkb : ((k : Int) == 0) = true := by simp [hk0]
              have Hdl : Hid (hd = putL id 2) := Lib.hid (by rw [Hhd.out, if_pos hk0])
              have hlb : (((k : Int) + 1) == (cn : Int)) = true := by have := HlT.out.2 (by omega); rw [← Hcn.out] at this; exact beq_iff_eq.2 (by omega)
              have hpn : T - K = p.length := by have := Hpl.out; omega
              have hdec : decide (k + 1 = cnt data.length seg) = true := by exact decide_eq_true (HlT.out.2 (by omega))
              rw [hdec] at hRk
              have Hpn := Lib.hid hpn
              have hbp : Bs wr w.heap.size (A.map fun x => x.add K) p := by rw [Hp.out]; exact bs_take (bs_dropM hbr K) seg
              have HRk := Lib.hid hRk.out
              have hca : ¬ c = K := by have := HK00.out; omega
              clear hk0
              clear hpn hdec hRk
              go_wp2_with fail
              refine (length_at _ (2 + p.length + 2) true wr (by have := Hpn.out; omega) (by have := Hpl.out; omega)).mono ?_
              rintro e w2 ⟨A5, c5, rfl, ho5, hb2⟩
              have hO2 := hO.below hb2 (Nat.le_refl _)
              have hb2' := RowKit.Below.trans hbk (hb2.mono hbk.size)
              have ho5b := ho5.bs
              have hoi2 := (hoib.below hbk).below (hb2.mono hbk.size)
              have hbp2 := hbp.below (hb2.mono (Nat.le_trans hb1w.size hbk.size))
              clear hO hbk hbp ho5 hbr
              go_wp2_with (first | (at_builtin; refine wpList_append_bs _ rfl (.tmp 84) (.tmp 90) 22 rfl w1.heap.size 5 i0 _ Try.underlying22 hi hz0 hz1 hz2 rfl Ao co O O.length rfl rfl hO2 _ A5 c5 (putL (2 + p.length + 2 + (if true = true then 0 else 32768)) 2) 2 rfl (by rw [putL_length]) ho5b (by rw [putL_length]; omega) hb2'.size ?_; intro A6 c6 w3 own3 hg3 _; have hb3 := hb2'.grown hg3 hb2'.size (fun k e => (hO2.lt k e).1); have hoi3 := hoi2.grow (Nat.le_refl _) hg3 hO2 hb2'.size; have hbp3 := hbp2.grow hb1w.size hg3 hO2 hb2'.size; clear hO2 hb2') | (at_builtin; refine wpList_append_bs _ rfl (.tmp 94) (.tmp 95) 22 rfl w1.heap.size 5 i0 _ Try.underlying22 hi hz0 hz1 hz2 rfl A6 c6 (O ++ putL (2 + p.length + 2 + (if true = true then 0 else 32768)) 2) (O.length + 2) rfl (by rw [List.length_append, putL_length]) own3 _ Ai ci (putL id 2) 2 rfl (by rw [putL_length]) hoi3 (by rw [List.length_append, putL_length, putL_length]; omega) hb3.size ?_; intro A7 c7 w4 own4 hg4 _; have hb4 := hb3.grown hg4 hb3.size (fun k e => (own3.lt k e).1); have hbp4 := hbp3.grow hb1w.size hg4 own3 hb3.size; clear own3 hb3) | (at_builtin; refine wpList_append_bs _ rfl (.tmp 97) (.tmp 98) 22 rfl w1.heap.size 5 i0 _ Try.underlying22 hi hz0 hz1 hz2 rfl A7 c7 ((O ++ putL (2 + p.length + 2 + (if true = true then 0 else 32768)) 2) ++ putL id 2) (O.length + 2 + 2) rfl (by simp only [List.length_append, putL_length]) own4 _ (A.map fun x => x.add K) (c - K) p seg rfl (by have := Hpn.out; omega) hbp4 (by simp only [List.length_append, putL_length]; have := Hpl.out; omega) hb4.size ?_; intro A8 c8 w5 own5 hg5 _; have hb5 := hb4.grown hg5 hb4.size (fun k e => (own4.lt k e).1); clear own4 hb4))
              go_roundw
              case rel =>
                refine ⟨k + 1, A8, c8, ((O ++ putL (2 + p.length + 2 + (if true = true then 0 else 32768)) 2) ++ putL id 2) ++ p, by omega, by go_num, ?_, own5, Lib.hid ?_, ?_, hb5⟩
                · have := Hpn.out; simp only [List.length_append, putL_length]; congr 1; omega
                · rw [HRk.out, Hdl.out]; simp only [segOf, List.append_assoc]; rw [show 2 + (putL id 2).length + p.length = 2 + p.length + 2 by rw [putL_length]; omega]
                · simp only [List.length_append, putL_length]; have := Hpl.out; omega
              case measure => simp [intOf]; omega
            · have hkb : ((k : Int) == 0) = false := by simp [hk0]
              have Hdl : Hid (hd = []) := Lib.hid (by rw [Hhd.out, if_neg hk0])
              have hlb : (((k : Int) + 1) == (cn : Int)) = true := by have := HlT.out.2 (by omega); rw [← Hcn.out] at this; exact beq_iff_eq.2 (by omega)
              have hpn : T - K = p.length := by have := Hpl.out; omega
              have hdec : decide (k + 1 = cnt data.length seg) = true := by exact decide_eq_true (HlT.out.2 (by omega))
              rw [hdec] at hRk
              have Hpn := Lib.hid hpn
              have hbp : Bs wr w.heap.size (A.map fun x => x.add K) p := by rw [Hp.out]; exact bs_take (bs_dropM hbr K) seg
              have HRk := Lib.hid hRk.out
              have hca : ¬ c = K := by have := HK00.out; omega
              clear hpn hdec hRk
              go_wp2_with fail
              refine (length_at _ (2 + p.length) true wr (by have := Hpn.out; omega) (by have := Hpl.out; omega)).mono ?_
              rintro e w2 ⟨A5, c5, rfl, ho5, hb2⟩
              have hO2 := hO.below hb2 (Nat.le_refl _)
              have hb2' := RowKit.Below.trans hbk (hb2.mono hbk.size)
              have ho5b := ho5.bs
              have hoi2 := (hoib.below hbk).below (hb2.mono hbk.size)
              have hbp2 := hbp.below (hb2.mono (Nat.le_trans hb1w.size hbk.size))
              clear hO hbk hbp ho5 hbr
              go_wp2_with (first | (at_builtin; refine wpList_append_bs _ rfl (.tmp 84) (.tmp 90) 22 rfl w1.heap.size 5 i0 _ Try.underlying22 hi hz0 hz1 hz2 rfl Ao co O O.length rfl rfl hO2 _ A5 c5 (putL (2 + p.length + (if true = true then 0 else 32768)) 2) 2 rfl (by rw [putL_length]) ho5b (by rw [putL_length]; omega) hb2'.size ?_; intro A6 c6 w3 own3 hg3 _; have hb3 := hb2'.grown hg3 hb2'.size (fun k e => (hO2.lt k e).1); have hoi3 := hoi2.grow (Nat.le_refl _) hg3 hO2 hb2'.size; have hbp3 := hbp2.grow hb1w.size hg3 hO2 hb2'.size; clear hO2 hb2') | (at_builtin; refine wpList_append_bs _ rfl (.tmp 97) (.tmp 98) 22 rfl w1.heap.size 5 i0 _ Try.underlying22 hi hz0 hz1 hz2 rfl A6 c6 (O ++ putL (2 + p.length + (if true = true then 0 else 32768)) 2) (O.length + 2) rfl (by simp only [List.length_append, putL_length]) own3 _ (A.map fun x => x.add K) (c - K) p seg rfl (by have := Hpn.out; omega) hbp3 (by simp only [List.length_append, putL_length]; have := Hpl.out; omega) hb3.size ?_; intro A8 c8 w5 own5 hg5 _; have hb5 := hb3.grown hg5 hb3.size (fun k e => (own3.lt k e).1); clear own3 hb3))
              go_roundw
              case rel =>
                refine ⟨k + 1, A8, c8, (O ++ putL (2 + p.length + (if true = true then 0 else 32768)) 2) ++ p, by omega, by go_num, ?_, own5, Lib.hid ?_, ?_, hb5⟩
                · have := Hpn.out; simp only [List.length_append, putL_length]; congr 1; omega
                · rw [HRk.out, Hdl.out]; simp only [segOf, List.append_assoc]; simp
                · simp only [List.length_append, putL_length]; have := Hpl.out; omega
              case measure => simp [intOf]; omega
      · obtain rfl : k = cn := by omega
        have hRO : R = O := by rw [hRk.out]; unfold RestOf; rw [if_neg (by rw [← Hcn.out]; omega)]; simp
        go_wp2
        go_ret2
        exact ⟨Ao, co, by rw [hRO]; rfl, by rw [hRO]; exact hO.base_le hb1w.size, bt hb1w hbk⟩
end Go.Proofs.Ytoahmifmoekjoaa
