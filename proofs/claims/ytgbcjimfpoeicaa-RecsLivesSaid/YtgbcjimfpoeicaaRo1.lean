/- Layer 11: whatever comes, is taken, and ended: the parts. -/
import Derived.Test.YtgbcjimfpoeicaaRn2
import Derived.Test.YtgbcjimfpoeicaaRl
import Derived.Test.YtgbcjimfpoeicaaOpenR
namespace Go.Proofs.Ytgbcjimfpoeicaa
open Go.RowKit
set_option linter.unusedVariables false
set_option linter.unusedSimpArgs false

theorem op_ne : (30 : TypeId) ≠ 5 := by decide
theorem op_ne2 : (30 : TypeId) ≠ 45 := by decide
theorem op_ne3 : (30 : TypeId) ≠ 28 := by decide
theorem sput_any {w : World} {g left : Nat} {l : List UInt8} {en : Bool} (h : StrAt w g left l en) (A' : Option Addr) (m : List UInt8) (n' c' : Nat) (hn' : Hid (n' = m.length)) (hbs : Bs w w.heap.size A' m) (q : Nat) (hq : q = l.length) :
    Calls Try.prog 11 #[.pointer (some ⟨g, 0, none⟩), .slice A' n' c'] w fun e w' => e = .returned (.int .i64 (putE q n' en)) ∧ StrAt w' g left (if putE q n' en = 0 then l ++ m else l) en ∧ w.grownBy w' (some g) ∧ ∀ y, y < w.heap.size → BytesNot w g y → BytesNot w' g y := by
  subst hq
  cases en
  · by_cases hf : 65536 < l.length + n'
    · rw [show putE l.length n' false = 5 by simp [putE, hf]]
      refine (put_full h A' n' c' hf).mono ?_
      rintro e w' ⟨rfl, rfl⟩
      exact ⟨rfl, by simpa using h, grown_refl _ _, fun _ _ hy => hy⟩
    · rw [show putE l.length n' false = 0 by simp [putE, hf]]
      refine (put_okX h A' m n' c' hn' hbs (by omega)).mono ?_
      rintro e w' ⟨rfl, h1, h2, h3⟩
      exact ⟨rfl, by simpa using h1, h2, fun y hy _ => h3 y hy⟩
  · rw [show putE l.length n' true = 110 by simp [putE]]
    refine (put_ended h _).mono ?_
    rintro e w' ⟨rfl, rfl⟩
    exact ⟨rfl, by simpa using h, grown_refl _ _, fun _ _ hy => hy⟩

theorem StrAt.otherK {w w' : World} {g left g2 : Nat} {l : List UInt8} {en : Bool} {t : TypeId} {cs : Array Value} (h : StrAt w g left l en) (hg : w.grownBy w' (some g2)) (hk : Blk w g2 t cs) (ht : t ≠ 5) (hne : g ≠ g2) : StrAt w' g left l en := by
  obtain ⟨A, n, c, h1, h2, h3, h4⟩ := h.at_
  exact ⟨h.hleft, h.hlen, A, n, c, h1.kept hg (fun e => by injection e with e; exact hne e), h2, h3.kept hg hk ht, h4⟩

/-- The program's stream; none of its bytes lie where those of Ao do. -/
def SPp (g left : Nat) (L : List UInt8) (en : Bool) (Ao : Option Addr) (u : World) : Prop := StrAt u g left L en ∧ ∀ y, Go.Proofs.Ytgbcjimfpoeicaa.blk Ao = some y → BytesNot u g y
/-- The document's stream: its bytes lie apart from the program's stream's, and from Ao's. -/
def RXp (g bx base n At left : Nat) (All : List UInt8) (en : Bool) (Ao : Option Addr) (u : World) : Prop :=
  ∃ A c, RefAt u bx A n c At (At + left) en ∧ Own u base 5 A c All ∧ n = All.length ∧ (∀ b, Go.Proofs.Ytgbcjimfpoeicaa.blk A = some b → BytesNot u g b) ∧ ∀ b, Go.Proofs.Ytgbcjimfpoeicaa.blk A = some b → Go.Proofs.Ytgbcjimfpoeicaa.blk Ao ≠ some b
def COp (oB s : Nat) (Ao : Option Addr) (co : Nat) (ob : List UInt8) (cs : Array Value) (u : World) : Prop := Own u s 5 Ao co ob ∧ Blk u oB 30 cs
def ESp (g : Nat) (u u' : World) : Prop := u.grownBy u' (some g) ∧ (∃ cs, Blk u g 45 cs) ∧ ∀ y, y < u.heap.size → BytesNot u g y → BytesNot u' g y
theorem RXp.sput {g bx base n At left : Nat} {All : List UInt8} {en : Bool} {Ao : Option Addr} {u u' : World} (hne : bx ≠ g) (he : ESp g u u') (h : RXp g bx base n At left All en Ao u) : RXp g bx base n At left All en Ao u' := by
  obtain ⟨A, c, h1, h2, h3, h4, h5⟩ := h
  obtain ⟨e1, ⟨cs, e2⟩, e3⟩ := he
  have hk : blk A ≠ some g := fun e => h2.ne_blk' e2 stream_ne e.symm
  exact ⟨A, c, Blk.kept h1 e1 (fun e => by injection e with e; exact hne e), h2.kept e1 (.inr hk), h3, fun b hb => e3 b (h2.lt b hb).2 (h4 b hb), h5⟩
theorem SPp.two {g bx left : Nat} {L : List UInt8} {en : Bool} {Ao A : Option Addr} {u u' : World} (hne : g ≠ bx) (h : SPp g left L en Ao u) (ht : Two u u' (blk A) bx) (hA : ∀ b, blk A = some b → BytesNot u g b) (hk : blk A ≠ some g) : SPp g left L en Ao u' ∧ ∀ y, BytesNot u g y → BytesNot u' g y := by
  obtain ⟨w1, t1, ⟨cs, t2⟩, t3⟩ := ht
  have hg := h.1.lt
  have S1 : StrAt w1 g left L en := by
    cases hAb : blk A with
    | none => exact h.1.apart (x := u.heap.size) t1 (.inl hAb) (bn_far h.1 (Nat.le_refl _)) (by omega)
    | some x => exact h.1.apart (x := x) t1 (.inr hAb) (hA x hAb) (fun e => hk (by rw [hAb, e]))
  have S2 := S1.otherK t3 t2 ref_ne hne
  have hbn : ∀ y, BytesNot u g y → BytesNot u' g y := fun y hy => bn_grown t3 S1.lt (fun e => by injection e with e; exact hne e) (bn_grown t1 hg (fun e => hk e.symm) hy)
  exact ⟨⟨S2, fun y hy => hbn y (h.2 y hy)⟩, hbn⟩
theorem COp.two {oB s bx : Nat} {Ao A : Option Addr} {co : Nat} {ob : List UInt8} {cs : Array Value} {u u' : World} {base c : Nat} {All : List UInt8} (h : COp oB s Ao co ob cs u) (ht : Two u u' (blk A) bx) (hA : ∀ b, blk A = some b → blk Ao ≠ some b) (hown : Own u base 5 A c All) (hox : oB ≠ bx) : COp oB s Ao co ob cs u' := by
  obtain ⟨w1, t1, ⟨cs1, t2⟩, t3⟩ := ht
  have o1 : Own w1 s 5 Ao co ob := h.1.kept t1 (by
    cases hb : blk Ao with
    | none => exact .inl rfl
    | some y => exact .inr (fun e => hA y e.symm hb))
  have b1 := h.2.kept t1 (hown.ne_blk' h.2 op_ne)
  exact ⟨o1.kept t3 (.inr (fun e => o1.ne_blk' t2 ref_ne e.symm)), b1.kept t3 (fun e => by injection e with e; exact hox e)⟩
def VPut (Ao oA : Option Addr) (g bx oB bn co oc : Nat) (z : Int) (SP RX : World → Prop) (i : Nat) (v : Value) (w : World) : Prop :=
  match i with
  | 0 => v = .pointer (some ⟨g, 0, none⟩)
  | 1 => v = .slice Ao bn co
  | 2 => v = .int .i64 z ∧ SP w
  | 3 => v = .pointer (some ⟨bx, 0, none⟩)
  | 4 => v = .pointer (some ⟨oB, 2, none⟩)
  | 5 => v = .slice oA bn oc
  | 6 => v = .int .i64 z ∧ RX w
  | 7 => v = .bool false
  | _ => True
def EPut (SP R0 : World → Prop) (k : Nat) (u u' : World) : Prop := match k with
  | 2 => R0 u → R0 u'
  | 6 => SP u → SP u'
  | _ => u' = u
def TPut (S0 R0 : World → Prop) (j : Nat) (u : World) : Prop := match j with
  | 2 => S0 u
  | 6 => R0 u
  | _ => True
theorem VPut.mono {Ao oA : Option Addr} {g bx oB bn co oc : Nat} {z : Int} {SP RX R0 : World → Prop} {k j : Nat} {v : Value} {u u' : World} (he : EPut SP R0 k u u') (hjk : j ≠ k) (h : j = 6 ∧ k = 2 → False) (hv : VPut Ao oA g bx oB bn co oc z SP RX j v u) : VPut Ao oA g bx oB bn co oc z SP RX j v u' := by
  unfold VPut at hv ⊢
  split at hv
  case h_3 =>
    refine ⟨hv.1, ?_⟩
    unfold EPut at he
    split at he
    · exact (hjk rfl).elim
    · exact he hv.2
    · rw [he]; exact hv.2
  case h_7 =>
    refine ⟨hv.1, ?_⟩
    unfold EPut at he
    split at he
    · exact (h ⟨rfl, rfl⟩).elim
    · exact (hjk rfl).elim
    · rw [he]; exact hv.2
  all_goals exact hv
theorem TPut.mono {SP S0 R0 : World → Prop} {k j : Nat} {u u' : World} (he : EPut SP R0 k u u') (hkj : k ≠ j) (h : j = 2 ∧ k = 6 → False) (hv : TPut S0 R0 j u) : TPut S0 R0 j u' := by
  unfold TPut at hv ⊢
  split at hv
  · unfold EPut at he
    split at he
    · exact (hkj rfl).elim
    · exact (h ⟨rfl, rfl⟩).elim
    · rw [he]; exact hv
  · unfold EPut at he
    split at he
    · exact he hv
    · exact (hkj rfl).elim
    · rw [he]; exact hv
  · trivial
theorem SPp.own {g left : Nat} {L : List UInt8} {en : Bool} {Ao : Option Addr} {u u' : World} {base c : Nat} {D : List UInt8} (h : SPp g left L en Ao u) (hA : Own u base 5 Ao c D) (hg : u.grownBy u' (blk Ao)) : SPp g left L en Ao u' := by
  have hgo : some g ≠ blk Ao := by obtain ⟨cs, hcs⟩ := h.1.blk; exact hA.ne_blk' hcs stream_ne
  refine ⟨?_, fun y hy => bn_grown hg h.1.lt hgo (h.2 y hy)⟩
  cases hAb : blk Ao with
  | none => exact h.1.apart (x := u.heap.size) hg (.inl hAb) (bn_far h.1 (Nat.le_refl _)) (by have := h.1.lt; omega)
  | some x => exact h.1.apart (x := x) hg (.inr hAb) (h.2 x hAb) (fun e => hgo (by rw [hAb, e]))
theorem RXp.own {g bx base0 n At left : Nat} {All : List UInt8} {en : Bool} {Ao : Option Addr} {u u' : World} {base c left' : Nat} {D L : List UInt8} (h : RXp g bx base0 n At left All en Ao u) (hS : StrAt u g left' L en) (hA : Own u base 5 Ao c D) (hg : u.grownBy u' (blk Ao)) : RXp g bx base0 n At left All en Ao u' := by
  obtain ⟨A, c1, h1, h2, h3, h4, h5⟩ := h
  have hgo : some g ≠ blk Ao := by obtain ⟨cs, hcs⟩ := hS.blk; exact hA.ne_blk' hcs stream_ne
  refine ⟨A, c1, Blk.kept h1 hg (hA.ne_blk' h1 ref_ne), h2.kept hg ?_, h3, fun b hb => bn_grown hg hS.lt hgo (h4 b hb), h5⟩
  cases hb : blk A with
  | none => exact .inl rfl
  | some y => exact .inr (fun e => h5 y hb e.symm)
theorem end_anyX {w : World} {g left : Nat} {l : List UInt8} {en : Bool} (h : StrAt w g left l en) : Calls Try.prog 15 #[.pointer (some ⟨g, 0, none⟩)] w fun e w' => e = .returned (.int .i64 (endE en)) ∧ StrAt w' g left l true ∧ w.grownBy w' (some g) ∧ ∀ y, BytesNot w g y → BytesNot w' g y := by
  obtain ⟨A, n, c, hb, hn, hk, hc⟩ := h.at_
  have c2 := hb.cell 2
  simp only [List.getElem?_toArray, List.getElem?_cons_zero, List.getElem?_cons_succ] at c2
  have z2 := hb.frozen 2
  cases en
  · go_enter Try.func15, Try.ntmps15
    go_wp2
    go_ret
    exact ⟨rfl, ⟨h.hleft, h.hlen, A, n, c, hb.set_ 2 _, hn, hk.kept (grown_set _ _ _) hb stream_ne, hc⟩, grown_set _ _ _, fun y hy => bn_new (hb.set_ 2 _) (fun h0 => hy _ _ _ _ _ hb h0)⟩
  · go_enter Try.func15, Try.ntmps15
    go_wp2
    go_ret
    exact ⟨rfl, h, grown_refl _ _, fun _ hy => hy⟩
theorem xor_u8 (x y : UInt8) : bits .xor .u8 (x.toNat : Int) (y.toNat : Int) = ((x ^^^ y).toNat : Int) := by
  rw [u8_xor_nat _ _ x.toNat_lt y.toNat_lt, UInt8.toNat_xor]
theorem xor_255 (x : UInt8) : bits .xor .u8 (x.toNat : Int) 255 = ((x ^^^ 255).toNat : Int) := xor_u8 x 255
theorem getM_left {left : Nat} {l : List UInt8} {en : Bool} {m : Int} (h : left ≤ 32767) : (getM left l en m).2.1 ≤ 32767 := by
  by_cases h0 : (getM left l en m).1.2.2 = 0
  · unfold getM takeM at h0 ⊢
    split
    · exact h
    · split
      · split
        · rename_i h3
          have := (lenM_ok h3).2.1
          split <;> simp only <;> omega
        · exact h
      · split <;> simp only <;> omega
  · rw [getM_err h0]; exact h
theorem getM_drop {left : Nat} {l : List UInt8} {en : Bool} {m : Int} : (getM left l en m).2.2 = l.drop (getM left l en m).1.1.length ∧ (getM left l en m).1.1.length ≤ l.length := by
  by_cases h0 : (getM left l en m).1.2.2 = 0
  · obtain ⟨_, h2⟩ := getM_ok h0
    generalize getM left l en m = r at *
    refine ⟨?_, ?_⟩
    · rw [h2]
      simp
    · have := congrArg List.length h2
      rw [List.length_append] at this
      omega
  · rw [getM_err h0]; simp
theorem ltf {a : Bool} (h : a = false) (h2 : a = true) : False := by rw [h] at h2; cases h2
end Go.Proofs.Ytgbcjimfpoeicaa
