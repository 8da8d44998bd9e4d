/- Layer 4: two bytes of a number, there and back; the length of a segment. -/
import Derived.Test.YtoahmifmoekjoaaBase2
import Derived.Test.YtoahmifmoekjoaaPutR
import Derived.Test.YtoahmifmoekjoaaInv
import Derived.Deep.QuietTactic
import Derived.BigQuiet
namespace Go.Proofs.Ytoahmifmoekjoaa
open Go.RowKit
set_option linter.unusedVariables false
set_option linter.unusedSimpArgs false

/-- The number that two bytes stand for. -/
def num2 (x y : UInt8) : Nat := 256 * x.toNat + y.toNat
theorem num2_lt (x y : UInt8) : num2 x y < 65536 := by have := x.toNat_lt; have := y.toNat_lt; unfold num2; omega
theorem putL_two (n : Nat) : putL n 2 = [UInt8.ofNat (n / 256 % 256), UInt8.ofNat (n % 256)] := rfl
theorem num2_putL (n : Nat) (h : n < 65536) : num2 (UInt8.ofNat (n / 256 % 256)) (UInt8.ofNat (n % 256)) = n := by
  unfold num2; simp only [UInt8.toNat_ofNat']; omega

theorem un_drewA {a b : World} (h : Below a.drew.heap.size a.drew b) : Below a.heap.size a b := ⟨h.os, h.tape, h.output, h.size, h.block⟩
theorem gr_drew (w : World) : Below w.heap.size w w.drew := ⟨rfl, rfl, rfl, Nat.le_refl _, fun _ _ => rfl⟩
theorem bl_drewN (w : World) (n : Nat) : Below w.heap.size w (w.drewN n) := ⟨rfl, rfl, rfl, Nat.le_refl _, fun _ _ => rfl⟩

theorem or8_i64 (v x : Nat) (hv : v < 256) (hx : x < 256) : bits .or .i64 ((v : Int) * 256) (x : Int) = ((256 * v + x : Nat) : Int) := by
  have : ((v : Int) * 256) = ((2 ^ 8 * v : Nat) : Int) := by omega
  rw [this]
  have e : (2 ^ 8 * v) ||| x = 256 * v + x := by rw [← Nat.two_pow_add_eq_or_of_lt hx]
  show IntKind.i64.wrap ((BitVec.ofInt 64 ((2 ^ 8 * v : Nat) : Int) ||| BitVec.ofInt 64 (x : Int)).toNat : Int) = _
  rw [BitVec.toNat_or, ofInt_u64 _ (by omega), ofInt_u64 _ (by omega), e]
  exact IntWalk.i64_in _ (by omega)
set_option maxHeartbeats 400000 in
theorem pair_any (n : Nat) (w : World) (h : n < 65536) : Calls Try.prog 19 #[.int .i64 n] w fun e w' => e = .returned (.slice (some ⟨w.heap.size, 0, none⟩) 2 2) ∧ Raw w' w.heap.size 5 (putL n 2) ∧ Below w.heap.size w w' := by
  go_enter Try.func19, Try.ntmps19
  go_wp2
  go_ret
  refine ⟨rfl, ?_, ba _ _⟩
  show _ = _
  rw [heap_alloc_new, putL_two]
  have e1 : ((UInt8.ofNat (n % 256)).toNat : Int) = (n : Int) % 256 := by simp only [UInt8.toNat_ofNat']; omega
  have e2 : ((UInt8.ofNat (n / 256 % 256)).toNat : Int) = (n : Int) / 256 := by simp only [UInt8.toNat_ofNat']; omega
  simp only [bv, List.map_cons, List.map_nil, e1, e2]

set_option maxHeartbeats 400000 in
theorem number_any (A : Option Addr) (x y : UInt8) (l : List UInt8) (c : Nat) (w : World) (hm : (x :: y :: l).length ≤ 9223372036854775807) (h : Bs w w.heap.size A (x :: y :: l)) :
    Calls Try.prog 24 #[.slice A (x :: y :: l).length c] w fun e w' => e = .returned (.int .i64 (num2 x y)) ∧ ∃ n, w' = w.drewN n := by
  obtain ⟨b, o, rfl, hb, hc⟩ := h (by simp)
  have h0 := hc 0 (by simp)
  have h1 := hc 1 (by simp)
  simp only [List.getElem_cons_zero, List.getElem_cons_succ, Nat.add_zero] at h0 h1
  have hlen : (x :: y :: l).length = l.length + 2 := rfl
  rw [hlen] at hm ⊢
  have d0 : decide ((0 : Int) < ((l.length + 2 : Nat) : Int)) = true := by simp; omega
  have d1 : decide ((1 : Int) < ((l.length + 2 : Nat) : Int)) = true := by simp; omega
  have hx := x.toNat_lt
  have hy := y.toNat_lt
  clear hc hlen
  go_enter Try.func24, Try.ntmps24
  go_wp2
  go_quiet (fail)
  go_wp2
  go_ret
  exact ⟨by rw [or8_i64 _ _ hx hy]; rfl, _, rfl⟩

/-- What stands at the front of l, as a segment of at least this many bytes: its bytes behind the length, and whether it is the last one; or the error. -/
def frontR (l : List UInt8) (least : Nat) : List UInt8 × Bool × Int :=
  match l with
  | x :: y :: t => if num2 x y % 32768 < least then ([], false, 40) else if l.length < num2 x y % 32768 then ([], false, 11) else ((l.take (num2 x y % 32768)).drop 2, decide (num2 x y < 32768), 0)
  | _ => ([], false, 11)

theorem frontR_cons (x y : UInt8) (t : List UInt8) (least : Nat) : frontR (x :: y :: t) least = if num2 x y % 32768 < least then ([], false, 40) else if (x :: y :: t).length < num2 x y % 32768 then ([], false, 11) else (((x :: y :: t).take (num2 x y % 32768)).drop 2, decide (num2 x y < 32768), 0) := rfl

theorem bs_drop {w : World} {B : Nat} {A : Option Addr} {l : List UInt8} (h : Bs w B A l) (n : Nat) (hn : n < l.length) : ∃ b o, A = some ⟨b, o, none⟩ ∧ Bs w B (some ⟨b, o + n, none⟩) (l.drop n) := by
  obtain ⟨b, o, rfl, hb, hc⟩ := h (by omega)
  refine ⟨b, o, rfl, fun _ => ⟨b, o + n, rfl, hb, fun i hi => ?_⟩⟩
  rw [List.length_drop] at hi
  rw [List.getElem_drop, Nat.add_assoc]
  exact hc (n + i) (by omega)
theorem bs_take {w : World} {B : Nat} {A : Option Addr} {l : List UInt8} (h : Bs w B A l) (m : Nat) : Bs w B A (l.take m) := fun hn => by
  rw [List.length_take] at hn
  obtain ⟨b, o, e, hb, hc⟩ := h (by omega)
  refine ⟨b, o, e, hb, fun i hi => ?_⟩
  rw [List.length_take] at hi
  rw [List.getElem_take]
  exact hc i (by omega)

theorem bs_mid {w : World} {B : Nat} {A : Option Addr} {l : List UInt8} (h : Bs w B A l) (m : Nat) : Bs w B (A.map fun x => { block := x.block, off := x.off + 2 }) ((l.take m).drop 2) := fun hn => by
  rw [List.length_drop] at hn
  obtain ⟨b, o, e, hb⟩ := bs_drop (bs_take h m) 2 (by omega)
  subst e
  exact hb (by rw [List.length_drop]; omega)

/-- What front hands out. -/
def FrontOut (w : World) (B : Nat) (r : List UInt8 × Bool × Int) (e : Ending) (w' : World) : Prop :=
  ∃ A c, e = .returned (.tuple #[.agg #[.slice A r.1.length c, .bool r.2.1], .int .i64 r.2.2]) ∧ Bs w' B A r.1 ∧ Below w.heap.size w w'

set_option maxHeartbeats 1000000 in
theorem front_any (A : Option Addr) (l : List UInt8) (c least : Nat) (w : World) (hle : l.length ≤ c) (hm : c ≤ 9223372036854775807) (hs : Bs w w.heap.size A l) (h2 : 2 ≤ least) (h3 : least ≤ 4) :
    Calls Try.prog 23 #[.slice A l.length c, .int .i64 least] w (FrontOut w w.heap.size (frontR l least)) := by
  rcases l with _ | ⟨x, _ | ⟨y, t⟩⟩
  · go_enter Try.func23, Try.ntmps23
    go_wp2
    exact bodyPost_ret (v := .tuple #[.agg #[.slice none 0 0, .bool false], .int .i64 11]) (by simp [results, Try.results23, go_sem]) rfl ⟨none, 0, rfl, Bs.nil, ba _ _⟩
  · go_enter Try.func23, Try.ntmps23
    go_wp2
    exact bodyPost_ret (v := .tuple #[.agg #[.slice none 0 0, .bool false], .int .i64 11]) (by simp [results, Try.results23, go_sem]) rfl ⟨none, 0, rfl, Bs.nil, ba _ _⟩
  · obtain ⟨R, hR⟩ : ∃ R, R = frontR (x :: y :: t) least := ⟨_, rfl⟩
    rw [← hR]
    rw [frontR_cons] at hR
    have hnum := fun w (h : Bs w w.heap.size A (x :: y :: t)) => number_any A x y t c w (by omega) h
    have hlt := num2_lt x y
    obtain ⟨n, hn⟩ : ∃ n, n = num2 x y := ⟨_, rfl⟩
    rw [← hn] at hR hlt
    simp only [← hn] at hnum
    have Hn := Lib.hid hn
    clear hn
    obtain ⟨L, hL⟩ : ∃ L, L = x :: y :: t := ⟨_, rfl⟩
    rw [← hL] at hs hle hnum hR ⊢
    have hl2 : 2 ≤ L.length := by rw [hL]; simp
    have HL := Lib.hid hL
    clear hL
    have HR := Lib.hid hR
    clear hR
    have hbw := hs.bt (ba w (.cells #[.slice none 0 0, .bool false] 51))
    by_cases g1 : n % 32768 < least
    · have hR' : R = ([], false, 40) := by rw [HR.out, if_pos g1]
      subst hR'
      clear HR
      go_enter Try.func23, Try.ntmps23
      go_wp2_with fail
      refine (hnum _ hbw).mono ?_
      rintro e w' ⟨rfl, nq, rfl⟩
      go_wp2
      exact bodyPost_ret (v := .tuple #[.agg #[.slice none 0 0, .bool false], .int .i64 40]) (by simp [results, Try.results23, go_sem]) rfl ⟨none, 0, rfl, Bs.nil, ((bt (ba _ _) (bl_drewN _ nq)).setCell (Nat.le_refl _) _).setCell (Nat.le_refl _) _⟩
    · by_cases g2 : L.length < n % 32768
      · have hR' : R = ([], false, 11) := by rw [HR.out, if_neg g1, if_pos g2]
        subst hR'
        clear HR
        go_enter Try.func23, Try.ntmps23
        go_wp2_with fail
        refine (hnum _ hbw).mono ?_
        rintro e w' ⟨rfl, nq, rfl⟩
        go_wp2
        exact bodyPost_ret (v := .tuple #[.agg #[.slice none 0 0, .bool false], .int .i64 11]) (by simp [results, Try.results23, go_sem]) rfl ⟨none, 0, rfl, Bs.nil, ((bt (ba _ _) (bl_drewN _ nq)).setCell (Nat.le_refl _) _).setCell (Nat.le_refl _) _⟩
      · have hR' : R = ((L.take (n % 32768)).drop 2, decide (n < 32768), 0) := by rw [HR.out, if_neg g1, if_neg g2]
        subst hR'
        clear HR
        have hlen : ((L.take (n % 32768)).drop 2).length = n % 32768 - 2 := by simp; omega
        have hdec : decide (n < 32768) = decide ((n : Int) < 32768) := decide_eq_decide.2 (by omega)
        have Hlen := Lib.hid hlen
        have Hdec := Lib.hid hdec
        clear hlen hdec
        go_enter Try.func23, Try.ntmps23
        go_wp2_with fail
        refine (hnum _ hbw).mono ?_
        rintro e w' ⟨rfl, nq, rfl⟩
        go_wp2
        all_goals
          have hbel := fun (u v : Value) => ((bt (ba w (.cells #[.slice none 0 0, .bool false] 51)) (bl_drewN _ nq)).setCell (p := ⟨w.heap.size, 0, none⟩) (Nat.le_refl _) u).setCell (p := ⟨w.heap.size, 1, none⟩) (Nat.le_refl _) v
          refine bodyPost_ret (by simp [results, Try.results23, go_sem]; rfl) rfl ⟨_, _, by rw [Hlen.out, Hdec.out], ?_, hbel _ _⟩
          first
          | exact (bs_mid hs _).below (hbel _ _)
          | (intro hpos; simp only [Hlen.out] at hpos; omega)
end Go.Proofs.Ytoahmifmoekjoaa
