/- A name out of a text: the program's Parse. -/
import Derived.Test.YtmdogmmmjopibaaLf
import Derived.Test.YtmdogmmmjopibaaLe
namespace Go.Proofs.Ytmdogmmmjopibaa
open Go.RowKit
set_option linter.unusedVariables false
set_option linter.unusedSimpArgs false

def noName (l : List UInt8) : Prop := ∀ u a q, okL u q = true → a < 4294967296 → q < 4294967296 → l ≠ prL u a q
def ParseOut (w : World) (l : List UInt8) (e : Ending) (w' : World) : Prop := ∃ u a q err, ParseIs l u a q err ∧ e = lvE ((u, a, q), err) ∧ Below w.heap.size w w'
theorem ParseOut.no {w w' : World} {l : List UInt8} (h : noName l) (hb : Below w.heap.size w w') : ParseOut w l (lvE ((0, 0, 0), 50)) w' := ⟨0, 0, 0, 50, .inr ⟨rfl, rfl, rfl, rfl, h⟩, rfl, hb⟩
theorem ParseOut.yes {w w' : World} {l : List UInt8} {u : Int} {a q : Nat} (h1 : okL u q = true) (h2 : a < 4294967296) (h3 : q < 4294967296) (h : l = prL u a q) (hb : Below w.heap.size w w') : ParseOut w l (lvE ((u, a, q), 0)) w' :=
  ⟨u, a, q, 0, .inl ⟨rfl, h1, h2, h3, h⟩, rfl, hb⟩

section
variable (s : ByteArray)
def d1 : List UInt8 := ds ((sl s).drop 1)
def d2 : List UInt8 := ds ((sl s).drop (1 + (d1 s).length + 1))
theorem chr_of (k : Nat) (x : UInt8) (h : (sl s)[k]? = some x) : k < s.size ∧ chr s k = x := by
  obtain ⟨h1, h2⟩ := List.getElem?_eq_some_iff.1 h
  exact ⟨by rw [← sl_length]; exact h1, by rw [← sl_get s k h1]; exact h2⟩
theorem name_parts {u : Int} {a q : Nat} (h : sl s = prL u a q) : 0 < s.size ∧ d1 s = dig a ∧ 1 + (d1 s).length < s.size ∧ chr s (1 + (d1 s).length) = 46 ∧ d2 s = dig q ∧ 1 + (d1 s).length + 1 + (d2 s).length = s.size ∧ chr s 0 = UInt8.ofNat (97 + u).toNat := by
  have e1 : d1 s = dig a := by
    unfold d1
    rw [h]
    exact ds_app (dig a) (46 :: dig q) (dig_all a) (fun x t e => by injection e with e _; subst e; exact not46)
  have e2 : d2 s = dig q := by
    unfold d2
    rw [e1, h]
    have : (prL u a q).drop (1 + (dig a).length + 1) = dig q := by
      unfold prL
      rw [show 1 + (dig a).length + 1 = ((dig a).length + 1) + 1 by omega, List.drop_succ_cons, ← List.drop_drop, List.drop_left]
      rfl
    rw [this]
    have := ds_app (dig q) [] (dig_all q) (fun x t e => by cases e)
    simpa using this
  have hl : s.size = 2 + (dig a).length + (dig q).length := by rw [← sl_length, h, prL_length]
  have h46 : (sl s)[1 + (dig a).length]? = some 46 := by
    rw [h]; unfold prL
    rw [Nat.add_comm, List.getElem?_cons_succ, List.getElem?_append_right (Nat.le_refl _), Nat.sub_self]; rfl
  have h0 : (sl s)[0]? = some (UInt8.ofNat (97 + u).toNat) := by rw [h]; rfl
  rw [e1, e2]
  exact ⟨by omega, rfl, by omega, (chr_of s _ _ h46).2, rfl, by omega, (chr_of s _ _ h0).2⟩
theorem no1 (h : s.size = 0) : noName (sl s) := fun u a q h1 h2 h3 e => by have := (name_parts s e).1; omega
theorem no2 (h : ¬ numOk (d1 s)) : noName (sl s) := fun u a q h1 h2 h3 e => h (by rw [(name_parts s e).2.1]; exact numOk_dig a h2)
theorem no3 (h : 1 + (d1 s).length = s.size) : noName (sl s) := fun u a q h1 h2 h3 e => by have := (name_parts s e).2.2.1; omega
theorem no4 (h : chr s (1 + (d1 s).length) ≠ 46) : noName (sl s) := fun u a q h1 h2 h3 e => h (name_parts s e).2.2.2.1
theorem no5 (h : ¬ numOk (d2 s)) : noName (sl s) := fun u a q h1 h2 h3 e => h (by rw [(name_parts s e).2.2.2.2.1]; exact numOk_dig q h3)
theorem no6 (h : 1 + (d1 s).length + 1 + (d2 s).length ≠ s.size) : noName (sl s) := fun u a q h1 h2 h3 e => h (name_parts s e).2.2.2.2.2.1
theorem no7 (h : okL (((chr s 0).toNat : Int) - 97) (dv (d2 s)) = false) : noName (sl s) := fun u a q h1 h2 h3 e => by
  obtain ⟨_, _, _, _, e2, _, e0⟩ := name_parts s e
  rw [e2, dv_dig, e0] at h
  obtain ⟨g1, g2, g3⟩ := (okL_iff u q).1 h1
  have : ((UInt8.ofNat (97 + u).toNat).toNat : Int) - 97 = u := by simp; omega
  rw [this, h1] at h
  cases h
theorem isName (h0 : 0 < s.size) (h1 : numOk (d1 s)) (h2 : 1 + (d1 s).length < s.size) (h3 : chr s (1 + (d1 s).length) = 46) (h4 : numOk (d2 s)) (h5 : 1 + (d1 s).length + 1 + (d2 s).length = s.size) (h6 : 97 ≤ (chr s 0).toNat) :
    sl s = prL (((chr s 0).toNat : Int) - 97) (dv (d1 s)) (dv (d2 s)) := by
  rw [← prL_of h1 h4 (ds_all _) (ds_all _) h6]
  have hl := sl_length s
  match hs : sl s, hl with
  | [], hl => simp at hl; omega
  | x :: t, hl =>
    have e0 : x = chr s 0 := by rw [← (chr_of s 0 x (by rw [hs]; rfl)).2]
    have et : (sl s).drop 1 = t := by rw [hs]; rfl
    have p1 : d1 s ++ t.drop (d1 s).length = t := by have := ds_pre t; unfold d1; rw [et]; exact this
    have hlen : t.length + 1 = s.size := by simpa using hl
    have e3 : t[(d1 s).length]? = some 46 := by
      have : (sl s)[1 + (d1 s).length]? = some (chr s (1 + (d1 s).length)) := by
        rw [List.getElem?_eq_getElem (by rw [sl_length]; exact h2), sl_get]
      rw [hs, Nat.add_comm, List.getElem?_cons_succ] at this
      rw [this, Nat.add_comm, h3]
    have e4 : t.drop (d1 s).length = 46 :: t.drop ((d1 s).length + 1) := by
      obtain ⟨g1, g2⟩ := List.getElem?_eq_some_iff.1 e3
      rw [List.drop_eq_getElem_cons g1, g2]
    have e5 : (sl s).drop (1 + (d1 s).length + 1) = t.drop ((d1 s).length + 1) := by
      rw [hs, show 1 + (d1 s).length + 1 = ((d1 s).length + 1) + 1 by omega, List.drop_succ_cons]
    have e6 : d2 s = t.drop ((d1 s).length + 1) := by
      have p2 := ds_pre ((sl s).drop (1 + (d1 s).length + 1))
      have l2 : (ds ((sl s).drop (1 + (d1 s).length + 1))).length = (t.drop ((d1 s).length + 1)).length := by
        show (d2 s).length = _
        rw [List.length_drop]; omega
      rw [e5] at p2 l2
      have hz : (t.drop ((d1 s).length + 1)).drop (ds (t.drop ((d1 s).length + 1))).length = [] := by rw [l2]; exact List.drop_length
      rw [hz, List.append_nil] at p2
      show ds ((sl s).drop (1 + (d1 s).length + 1)) = _
      rw [e5]; exact p2
    rw [e0, e6, ← e4, p1]
end

def ParseJ (w : World) (s : ByteArray) (a' : Act) (w' : World) : Prop :=
  noName (sl s) ∧ Blk w' w.heap.size 24 #[.int .i64 0, .int .u32 0, .int .u32 0] ∧ Below w.heap.size w w' ∧ ∃ u1 u3 u4 u5 u6 u7 u8 u9 u10 u11 u12 u13 u14 u15 u16 u17 u18 u19 u20 u21 u22 u23 u24 u25 u26 u27 u28 u29 u30 u31 u32 u33 u34 u35 u36 u37 u38 u39 u40 u41 u42 u43 u44 u45 u46 u47 u48 u49 u50 u51 u52 u53 u54 u55, a' = { tmps := #[.string s, u1, .pointer (some ⟨w.heap.size, 0, none⟩), u3, u4, u5, u6, u7, u8, u9, u10, u11, u12, u13, u14, u15, u16, u17, u18, u19, u20, u21, u22, u23, u24, u25, u26, u27, u28, u29, u30, u31, u32, u33, u34, u35, u36, u37, u38, u39, u40, u41, u42, u43, u44, u45, u46, u47, u48, u49, u50, u51, u52, u53, u54, u55], defers := [] }

set_option maxHeartbeats 2000000 in
set_option maxRecDepth 100000 in
theorem parse_any (s : ByteArray) (w : World) (hs : s.size ≤ 1000000) : Calls Try.prog 16 #[.string s] w (ParseOut w (sl s)) := by
  go_enter Try.func16, Try.ntmps16
  go_wp2
  refine wp_scope_jumps 0 (ParseJ w s) (fun _ _ => 0) rfl ?first ?pass
  case pass =>
    rintro a' w' ⟨hno, k1, hb, u1, u3, u4, u5, u6, u7, u8, u9, u10, u11, u12, u13, u14, u15, u16, u17, u18, u19, u20, u21, u22, u23, u24, u25, u26, u27, u28, u29, u30, u31, u32, u33, u34, u35, u36, u37, u38, u39, u40, u41, u42, u43, u44, u45, u46, u47, u48, u49, u50, u51, u52, u53, u54, u55, rfl⟩
    have hbf := below_set3 hb (g := w.heap.size) (by omega) (.int .i64 0) (.int .u32 0) (.int .u32 0)
    have e0 := k1.set3_0 (x := .int .i64 0)
    have e1 := k1.set3_1 (x := .int .i64 0) (y := .int .u32 0)
    have e2 := k1.set3_2 (x := .int .i64 0) (y := .int .u32 0) (z := .int .u32 0)
    have d0 := k1.cell 0
    have d1 := k1.cell 1
    have d2 := k1.cell 2
    have f0 := k1.frozen 0
    have f1 := k1.frozen 1
    have f2 := k1.frozen 2
    simp at d0 d1 d2
    go_wp2
    change bodyPost Try.prog Try.f16 (ParseOut w (sl s)) Exit.ret _ _
    refine bodyPost_ret (by simp [results, Try.results16, go_sem, e0, e1, e2]; try rfl) rfl ?_
    exact ParseOut.no hno hbf
  case first =>
    have kr := (Blk.new w 24 #[.int .i64 0, .int .u32 0, .int .u32 0])
    have kl := (Blk.new (w.alloc (.cells #[.int .i64 0, .int .u32 0, .int .u32 0] 24)) 24 #[.int .i64 0, .int .u32 0, .int .u32 0])
    have kr2 := kr.alloc (.cells #[.int .i64 0, .int .u32 0, .int .u32 0] 24)
    have hb2 := ba2 w (.cells #[.int .i64 0, .int .u32 0, .int .u32 0] 24) (.cells #[.int .i64 0, .int .u32 0, .int .u32 0] 24)
    rw [show (w.alloc (.cells #[.int .i64 0, .int .u32 0, .int .u32 0] 24)).heap.size = w.heap.size + 1 by simp] at kl
    by_cases h0 : s.size = 0
    · have hn := no1 s h0
      have hem : s.toList.isEmpty = true := by
        rw [← decide_eq_emptyBytes s]
        refine decide_eq_true ?_
        obtain ⟨d⟩ := s
        have : d = #[] := Array.eq_empty_of_size_eq_zero h0
        subst this; rfl
      go_wp2
      go_step3
      refine ⟨rfl, hn, ?_, ?_, ?_⟩
      · exact (Blk.new w _ _).alloc _
      · exact ba2 _ _ _
      · repeat (apply Exists.intro)
        exact rfl
    · have h0' : 0 < s.size := by omega
      have hem : s.toList.isEmpty = false := by
        rw [← decide_eq_emptyBytes s]
        exact decide_eq_false (fun e => h0 (by rw [e]; rfl))
      have i0 : ∀ w, (Instr.index 9 (.string s) (.int .i64 0)).run Try.prog w = .ok (.int .u8 ((chr s 0).toNat : Int)) w := index_chr s 0 h0'
      have hx := (chr s 0).toNat_lt
      have N2 := Lib.hid (no2 s)
      have N3 := Lib.hid (no3 s)
      have N4 := Lib.hid (no4 s)
      have N5 := Lib.hid (no5 s)
      have N6 := Lib.hid (no6 s)
      have N7 := Lib.hid (no7 s)
      have NY := Lib.hid (isName s h0')
      have hple : 1 + (d1 s).length ≤ s.size := by
        have := ds_le ((sl s).drop 1)
        rw [List.length_drop, sl_length] at this
        unfold d1; omega
      have D1 : Hid (∀ w, Calls Try.prog 28 #[.string s, .int .i64 1] w (DgRes w (d1 s) 1)) := Lib.hid (fun w => digits_any s 1 w hs (by omega))
      have D2 : Hid (1 + (d1 s).length < s.size → ∀ w, Calls Try.prog 28 #[.string s, .int .i64 (((1 + (d1 s).length : Nat) : Int) + 1)] w (DgRes w (d2 s) (1 + (d1 s).length + 1))) := Lib.hid (fun h w => digits_any s (1 + (d1 s).length + 1) w hs (by omega))
      have V1 : Hid (numOk (d1 s) → dv (d1 s) < 4294967296) := Lib.hid (fun h => by have := h.2.2; omega)
      have V2 : Hid (numOk (d2 s) → dv (d2 s) < 4294967296) := Lib.hid (fun h => by have := h.2.2; omega)
      have I1 : Hid (1 + (d1 s).length < s.size → ∀ w, (Instr.index 9 (.string s) (.int .i64 ((1 + (d1 s).length : Nat) : Int))).run Try.prog w = .ok (.int .u8 ((chr s (1 + (d1 s).length)).toNat : Int)) w) := Lib.hid (fun h => index_chr s _ h)
      unfold DgRes at D1 D2
      generalize numOk (d1 s) = ok1 at *
      generalize numOk (d2 s) = ok2 at *
      generalize dv (d1 s) = a at *
      generalize dv (d2 s) = q at *
      generalize 1 + (d1 s).length = p at *
      generalize p + 1 + (d2 s).length = p2 at *
      generalize chr s p = y at *
      generalize (chr s 0).toNat = x at *
      have Hem := Lib.hid hem
      clear h0 kr kl kr2 hb2
      go_wp2_with fail
      refine (D1.out _).mono ?_
      rintro e w1 ⟨rfl, ⟨ho1, rfl⟩ | ⟨ho1, rfl⟩⟩
      · have ha := V1.out ho1
        by_cases h3 : p = s.size
        · have hn := N3.out h3
          go_wp2
          go_step3
          refine ⟨rfl, hn, ?_, ?_, ?_⟩
          · exact (Blk.new w _ _).alloc _
          · exact ba2 _ _ _
          · repeat (apply Exists.intro)
            exact rfl
        · have h3' : p < s.size := by omega
          have i1 := I1.out h3'
          by_cases h4 : y = 46
          · subst h4
            go_wp2_with fail
            refine (D2.out h3' _).mono ?_
            rintro e w2 ⟨rfl, ⟨ho2, rfl⟩ | ⟨ho2, rfl⟩⟩
            · have hq := V2.out ho2
              by_cases h6 : p2 = s.size
              · have h6' : ((p2 : Int) != (s.size : Int)) = false := by simp; omega
                have hr := fun w => right_any ((x : Int) - 97) a q w
                unfold lv at hr
                have Hy : Hid (okL ((x : Int) - 97) q = true → sl s = prL ((x : Int) - 97) a q) := Lib.hid (fun hk => NY.out ho1 h3' (by trivial) ho2 h6 (by have := (okL_iff _ _).1 hk; omega))
                have H6 := Lib.hid h6
                clear h6
                have N7' := N7.out
                have N8 := Lib.hid N7'
                clear N7'
                rcases hk : okL ((x : Int) - 97) q with _ | _
                · have hn := N8.out hk
                  rw [hk] at hr
                  clear hk
                  have kr0 := (Blk.new w 24 #[.int .i64 0, .int .u32 0, .int .u32 0]).alloc (.cells #[.int .i64 ((x : Int) - 97), .int .u32 a, .int .u32 q] 24)
                  have kl0 := (Blk.new (w.alloc (.cells #[.int .i64 0, .int .u32 0, .int .u32 0] 24)) 24 #[.int .i64 ((x : Int) - 97), .int .u32 a, .int .u32 q])
                  rw [show (w.alloc (.cells #[.int .i64 0, .int .u32 0, .int .u32 0] 24)).heap.size = w.heap.size + 1 by simp] at kl0
                  go_wp2_with fail
                  refine (hr _).mono ?_
                  rintro e w3 ⟨rfl, hb3⟩
                  have kr3 := kr0.below hb3 kr0.lt
                  have kl3 := kl0.below hb3 kl0.lt
                  have hbw := bt (ba2 w _ _) hb3
                  clear kr0 kl0 hb3
                  go_wp2
                  go_step3
                  refine ⟨rfl, hn, ?_, ?_, ?_⟩
                  · exact kr3
                  · exact hbw
                  · repeat (apply Exists.intro)
                    exact rfl
                · have hy := Hy.out hk
                  have Hk := Lib.hid hk
                  have Hyy := Lib.hid hy
                  rw [hk] at hr
                  clear hk hy
                  have kr0 := (Blk.new w 24 #[.int .i64 0, .int .u32 0, .int .u32 0]).alloc (.cells #[.int .i64 ((x : Int) - 97), .int .u32 a, .int .u32 q] 24)
                  have kl0 := (Blk.new (w.alloc (.cells #[.int .i64 0, .int .u32 0, .int .u32 0] 24)) 24 #[.int .i64 ((x : Int) - 97), .int .u32 a, .int .u32 q])
                  rw [show (w.alloc (.cells #[.int .i64 0, .int .u32 0, .int .u32 0] 24)).heap.size = w.heap.size + 1 by simp] at kl0
                  go_wp2_with fail
                  refine (hr _).mono ?_
                  rintro e w3 ⟨rfl, hb3⟩
                  have kr3 := kr0.below hb3 kr0.lt
                  have kl3 := kl0.below hb3 kl0.lt
                  have hbw := bt (ba2 w _ _) hb3
                  clear kr0 kl0 hb3
                  have c0 := kl3.cell 0
                  have c1 := kl3.cell 1
                  have c2 := kl3.cell 2
                  have d0 := kr3.cell 0
                  have d1 := kr3.cell 1
                  have d2 := kr3.cell 2
                  have f0 := kr3.frozen 0
                  have f1 := kr3.frozen 1
                  have f2 := kr3.frozen 2
                  simp at c0 c1 c2 d0 d1 d2
                  have e0 := kr3.set3_0 (x := .int .i64 ((x : Int) - 97))
                  have e1 := kr3.set3_1 (x := .int .i64 ((x : Int) - 97)) (y := .int .u32 a)
                  have e2 := kr3.set3_2 (x := .int .i64 ((x : Int) - 97)) (y := .int .u32 a) (z := .int .u32 q)
                  have hbf := below_set3 hbw (g := w.heap.size) (by omega) (.int .i64 ((x : Int) - 97)) (.int .u32 a) (.int .u32 q)
                  clear kr3 kl3 hbw
                  go_wp2
                  change bodyPost Try.prog Try.f16 (ParseOut w (sl s)) Exit.ret _ _
                  refine bodyPost_ret (by simp [results, Try.results16, go_sem, e0, e1, e2]; try rfl) rfl ?_
                  exact ParseOut.yes Hk.out ha hq Hyy.out hbf
              · have hn := N6.out h6
                have h6' : ((p2 : Int) != (s.size : Int)) = true := by simp; omega
                clear h6
                go_wp2
                go_step3
                refine ⟨rfl, hn, ?_, ?_, ?_⟩
                · exact (Blk.new w _ _).alloc _
                · exact ba2 _ _ _
                · repeat (apply Exists.intro)
                  exact rfl
            · have hn := N5.out ho2
              go_wp2
              go_step3
              refine ⟨rfl, hn, ?_, ?_, ?_⟩
              · exact (Blk.new w _ _).alloc _
              · exact ba2 _ _ _
              · repeat (apply Exists.intro)
                exact rfl
          · have hn := N4.out h4
            have hy : ((y.toNat : Int) != 46) = true := by simp; intro e; exact h4 (UInt8.toNat_inj.1 (by show y.toNat = 46; omega))
            clear h4
            go_wp2
            go_step3
            refine ⟨rfl, hn, ?_, ?_, ?_⟩
            · exact (Blk.new w _ _).alloc _
            · exact ba2 _ _ _
            · repeat (apply Exists.intro)
              exact rfl
      · have hn := N2.out ho1
        go_wp2
        go_step3
        refine ⟨rfl, hn, ?_, ?_, ?_⟩
        · exact (Blk.new w _ _).alloc _
        · exact ba2 _ _ _
        · repeat (apply Exists.intro)
          exact rfl
end Go.Proofs.Ytmdogmmmjopibaa
