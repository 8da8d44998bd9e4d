/- Layer 3: the record at the front, as it is handed to a loop. -/
import Derived.Test.YthaamnkihnbgaaaZa
import Derived.Test.YthaamnkihnbgaaaSeqX
import Derived.Test.YthaamnkihnbgaaaScopeIn
import Derived.Shelf.Abstract
import Derived.Shelf.RegionOpen
import Derived.WalkKit
import Derived.OwnWalkIn
import Derived.TacticsInMore
import Derived.LoopNIn
import Derived.LoopIn
import Derived.Deep.QuietTactic
import Derived.BigQuiet
namespace Go.Proofs.Ythaamnkihnbgaaa
open Go.RowKit Go.Shelf
attribute [local go_sem] Oper.semAt_some
set_option linter.unusedVariables false
set_option linter.unusedSimpArgs false

theorem bs_sub {w : World} {B b o : Nat} {l : List UInt8} (h : Bs w B (some ⟨b, o, none⟩) l) (k m : Nat) : Bs w B (some ⟨b, o + k, none⟩) ((l.drop k).take m) := fun hp => by
  rw [List.length_take, List.length_drop] at hp
  obtain ⟨b', o', e, h1, h2⟩ := h (by omega)
  cases e
  refine ⟨b, o + k, rfl, h1, fun i hi => ?_⟩
  rw [List.length_take, List.length_drop] at hi
  rw [List.getElem_take, List.getElem_drop, Nat.add_assoc]
  exact h2 _ _
theorem bs_front {w : World} {B b o : Nat} {l : List UInt8} (h : Bs w B (some ⟨b, o, none⟩) l) (m : Nat) : Bs w B (some ⟨b, o, none⟩) (l.take m) := by
  have := bs_sub h 0 m
  simpa using this
theorem bl_drewN (w : World) (n : Nat) : Below w.heap.size w (w.drewN n) := ⟨rfl, rfl, rfl, Nat.le_refl _, fun _ _ => rfl⟩

def kindOf (b : List UInt8) : Nat := num ((b.drop 2).take 1)
def endOf (b : List UInt8) : Nat := 3 + num (b.take 2)
/-- The record that b begins with: kind, body, how many bytes it takes. -/
def frontR (b : List UInt8) : Option (Nat × List UInt8 × Nat) :=
  if b.length < 7 then none
  else if kindOf b < 1 ∨ 1027 < endOf b ∨ b.length < endOf b + 4 then none
  else if num ((b.drop (endOf b)).take 4) ≠ sumR (b.take (endOf b)) then none
  else some (kindOf b, (b.take (endOf b)).drop 3, endOf b + 4)

/-- A record that is handed on. -/
structure RV where
  k : Nat
  g : Nat
  d : List UInt8
  size : Nat
def encR (x : RV) : Array Value := #[.agg #[.int .i64 x.k, .slice (some ⟨x.g, 0, none⟩) x.d.length x.d.length], .int .i64 x.size]
def conR (x : RV) : Nat × List UInt8 × Nat := (x.k, x.d, x.size)
theorem keepsOthers_below {W W' : World} (h : Below W.heap.size W W') : KeepsOthers W W' := ⟨h.size, fun k o hk _ => (h.block k (Array.getElem?_eq_some_iff.1 hk).1).trans hk⟩

inductive PickG (b o K M : Nat) : Option Addr → Nat → Nat → Prop
  | k : PickG b o K M (some ⟨b, o + 2, none⟩) 1 K
  | e : PickG b o K M (some ⟨b, o, none⟩) 2 M
theorem frontR_kind {b : List UInt8} {K M : Nat} (h7 : 7 ≤ b.length) (hK : K = num ((b.drop 2).take 1)) (hM : M = num (b.take 2)) (h : K < 1 ∨ 1027 < 3 + M ∨ b.length < 3 + M + 4) : frontR b = none := by
  unfold frontR; rw [if_neg (by omega), if_pos (by unfold kindOf endOf; rw [← hK, ← hM]; exact h)]
theorem frontR_sum {b : List UInt8} {K M : Nat} (h7 : 7 ≤ b.length) (hK : K = num ((b.drop 2).take 1)) (hM : M = num (b.take 2)) (h : ¬ (K < 1 ∨ 1027 < 3 + M ∨ b.length < 3 + M + 4)) :
    frontR b = if num ((b.drop (3 + M)).take 4) ≠ sumR (b.take (3 + M)) then none else some (K, (b.take (3 + M)).drop 3, 3 + M + 4) := by
  unfold frontR; rw [if_neg (by omega), if_neg (by unfold kindOf endOf; rw [← hK, ← hM]; exact h)]; unfold kindOf endOf; rw [← hK, ← hM]

set_option maxRecDepth 100000 in
set_option maxHeartbeats 4000000 in
theorem front1_in (n : Nat) (hn : 3 ≤ n) (l D0 : Nat) (A : Option Addr) (data : List UInt8) (N c : Nat) (w : World) (hN : Hid (N = data.length)) (hcap : Hid (N ≤ c)) (hc2 : Hid (c ≤ 9223372036854775807)) (hm : Hid (N ≤ 100000000))
    (J : World → Prop) (Y : RV → World → Prop) (B0 : Nat) (hJ : ∀ W W', Below W.heap.size W W' → J W → J W')
    (hY : ∀ x W, J W → Raw W x.g 5 x.d → B0 ≤ x.g → frontR data = some (conR x) → YieldAt Fence.wide (n - 1) Try.prog l (encR x) W fun e W' => e = .returned (.bool false) ∧ Y x W')
    (W : World) (hbs : Bs W W.heap.size A data) (hD : Blk W D0 22 #[.slice A N c]) (hB0 : B0 ≤ W.heap.size) (h0 : J W) :
    CallsIn Fence.wide n Try.prog 55 #[.func (.yield l) #[] #[], .pointer (some ⟨D0, 0, none⟩)] W fun e W' => (∃ v, e = .returned v) ∧ ((frontR data = none ∧ J W') ∨ (∃ x, frontR data = some (conR x) ∧ B0 ≤ x.g ∧ Y x W')) := by
  refine callsIn_of_wp Try.func55 rfl trivial ?_ rfl
  simp only [Try.ntmps55, List.size_toArray, List.length_cons, List.length_nil, Nat.reduceAdd, Nat.reduceSub, Array.replicate_succ, Array.replicate_zero, List.push_toArray, List.append_toArray, List.nil_append, List.cons_append]
  have c0 := hD.cell 0
  simp only [List.getElem?_toArray, List.getElem?_cons_zero] at c0
  by_cases h7 : (N : Int) < 7
  · have hf : frontR data = none := if_pos (by rw [← hN.out]; omega)
    gi_wp2
    (try simp only [Exit.inBlock, Exit.then]); refine bodyPost_ret (results_none rfl _ _ _) rfl ?_
    exact ⟨⟨_, rfl⟩, .inl ⟨hf, h0⟩⟩
  · obtain ⟨b, o, rfl, _⟩ := hbs (by rw [← hN.out]; omega)
    have hl2 : ((data.drop 2).take 1).length = 1 := by rw [List.length_take, List.length_drop, ← hN.out]; omega
    have hl0 : (data.take 2).length = 2 := by rw [List.length_take, ← hN.out]; omega
    have hk := fun (nq : Nat) (cx : Nat) => wget (some ⟨b, o + 2, none⟩) ((data.drop 2).take 1) 1 cx (W.drewN nq) hl2.symm (by omega) (by omega) (bs_sub (hbs.drewN nq) 2 1)
    have he := fun (nq : Nat) (cx : Nat) => wget (some ⟨b, o, none⟩) (data.take 2) 2 cx (W.drewN nq) hl0.symm (by omega) (by omega) (bs_front (hbs.drewN nq) 2)
    have hks := num_small ((data.drop 2).take 1) (by omega)
    have hes := num_small (data.take 2) (by omega)
    obtain ⟨K, hK⟩ : ∃ K, K = num ((data.drop 2).take 1) := ⟨_, rfl⟩
    obtain ⟨M, hM⟩ : ∃ M, M = num (data.take 2) := ⟨_, rfl⟩
    rw [← hK] at hk hks
    rw [← hM] at he hes
    have w3 : IntKind.i64.wrap (3 + (M : Int)) = 3 + (M : Int) := IntWalk.i64_in _ (by omega)
    have hc7 : 7 ≤ c := by have := hcap.out; omega
    have hc7I : (7 : Int) ≤ (c : Int) := by omega
    have hne2 : ¬ c = 2 := by omega
    have q1 : (3 : Int) ≤ (c : Int) := by omega
    have q2 : (2 : Int) ≤ (c : Int) := by omega
    have q3 : 3 ≤ c := by omega
    have q4 : 2 ≤ c := by omega
    have q5 : decide ((3 : Int) ≤ (c : Int)) = true := by simp; omega
    have q6 : decide ((2 : Int) ≤ (c : Int)) = true := by simp; omega
    have hg : ∀ (A' : Option Addr) (n' v' c' nq : Nat), PickG b o K M A' n' v' → Calls Try.prog 56 #[.slice A' n' c'] (W.drewN nq) fun e w' => e = .returned (.int .i64 v') ∧ w' = W.drewN nq := fun A' n' v' c' nq h => by
      cases h
      · exact (hk nq c').mono fun e w' h => ⟨h.1, h.2.symm⟩
      · exact (he nq c').mono fun e w' h => ⟨h.1, h.2.symm⟩
    have Hg := Lib.hid hg
    have HK := Lib.hid hK
    have HMm := Lib.hid hM
    clear hk he hg hK hM
    gi_wp2
    refine (wpIn_wide).2 ?_
    go_quiet (first | (go_at_call 56; exact Calls.quiet_of_same (Hg.out _ _ K _ _ PickG.k)) | (go_at_call 56; exact Calls.quiet_of_same (Hg.out _ _ M _ _ PickG.e)))
    obtain ⟨W1, hW1⟩ : ∃ W1, W1 = W.drewN nq := ⟨_, rfl⟩
    have hbs1 : Bs W1 W1.heap.size (some ⟨b, o, none⟩) data := by rw [hW1]; exact hbs.drewN nq
    have hD1 : Blk W1 D0 22 #[.slice (some ⟨b, o, none⟩) N c] := by rw [hW1]; exact hD
    have hJ1 : J W1 := by rw [hW1]; exact hJ _ _ (bl_drewN W nq) h0
    have hB1 : B0 ≤ W1.heap.size := by rw [hW1]; exact hB0
    rw [← hW1]
    clear hbs hD h0 hB0 hW1 c0 Hg q1 q2 q3 q4 q5 q6 hne2 hl2 hl0
    have c0 := hD1.cell 0
    simp only [List.getElem?_toArray, List.getElem?_cons_zero] at c0
    have h7N : 7 ≤ data.length := by rw [← hN.out]; omega
    by_cases k1 : (K : Int) < 1
    · have hf : frontR data = none := frontR_kind h7N HK.out HMm.out (.inl (by omega))
      gi_wp2
      (try simp only [Exit.inBlock, Exit.then]); refine bodyPost_ret (results_none rfl _ _ _) rfl ?_
      first | exact And.intro ⟨_, rfl⟩ (Or.inl ⟨hf, hJ1⟩) | exact And.intro ⟨_, rfl⟩ hJ1
    by_cases k2 : (1027 : Int) < 3 + (M : Int)
    · have hf : frontR data = none := frontR_kind h7N HK.out HMm.out (.inr (.inl (by omega)))
      gi_wp2
      (try simp only [Exit.inBlock, Exit.then]); refine bodyPost_ret (results_none rfl _ _ _) rfl ?_
      first | exact And.intro ⟨_, rfl⟩ (Or.inl ⟨hf, hJ1⟩) | exact And.intro ⟨_, rfl⟩ hJ1
    have w4 : IntKind.i64.wrap (3 + (M : Int) + 4) = 3 + (M : Int) + 4 := IntWalk.i64_in _ (by omega)
    by_cases k3 : (N : Int) < 3 + (M : Int) + 4
    · have hf : frontR data = none := frontR_kind h7N HK.out HMm.out (.inr (.inr (by rw [← hN.out]; omega)))
      gi_wp2
      (try simp only [Exit.inBlock, Exit.then]); refine bodyPost_ret (results_none rfl _ _ _) rfl ?_
      first | exact And.intro ⟨_, rfl⟩ (Or.inl ⟨hf, hJ1⟩) | exact And.intro ⟨_, rfl⟩ hJ1
    have hfr := frontR_sum h7N HK.out HMm.out (by rw [← hN.out]; omega)
    have hM1 : M ≤ 1024 := by omega
    have hNM : 3 + M + 4 ≤ N := by omega
    have hcM : 3 + M + 4 ≤ c := by have := hcap.out; omega
    have l4 : ((data.drop (3 + M)).take 4).length = 4 := by rw [List.length_take, List.length_drop, ← hN.out]; omega
    have lE : (data.take (3 + M)).length = 3 + M := by rw [List.length_take, ← hN.out]; omega
    have hg4 := fun (nq : Nat) (cx : Nat) => wget (some ⟨b, o + (3 + M), none⟩) ((data.drop (3 + M)).take 4) 4 cx (W1.drewN nq) l4.symm (by omega) (by omega) (bs_sub (hbs1.drewN nq) (3 + M) 4)
    have hs4 := fun (nq : Nat) (cx : Nat) => sum_any (some ⟨b, o, none⟩) (data.take (3 + M)) cx (W1.drewN nq) (by omega) (bs_front (hbs1.drewN nq) (3 + M))
    rw [lE] at hs4
    obtain ⟨S4, hS4⟩ : ∃ S4, S4 = num ((data.drop (3 + M)).take 4) := ⟨_, rfl⟩
    obtain ⟨SE, hSE⟩ : ∃ SE, SE = sumR (data.take (3 + M)) := ⟨_, rfl⟩
    have hSl := sumR_lt (data.take (3 + M))
    rw [← hS4] at hg4 hfr
    rw [← hSE] at hs4 hfr hSl
    have Hg4 := Lib.hid (fun nq cx => (hg4 nq cx).mono fun e w' h => And.intro h.1 h.2.symm)
    have Hs4 := Lib.hid (fun nq cx => (hs4 nq cx).mono fun e w' h => And.intro h.1 h.2.symm)
    have Hfr := Lib.hid hfr
    have wS : IntKind.i64.wrap (SE : Int) = (SE : Int) := IntWalk.i64_in _ (by omega)
    have t1 : (3 + (M : Int)).toNat = 3 + M := by omega
    have t2 : (3 + (M : Int) + 4).toNat = 3 + M + 4 := by omega
    have t3 : 3 + M + 4 - (3 + M) = 4 := by omega
    have t4 : ¬ c = 3 + M := by omega
    have t5 : 3 + (M : Int) + 4 ≤ (c : Int) := by omega
    have t6 : 3 + (M : Int) ≤ 3 + (M : Int) + 4 := by omega
    have t7 : (0 : Int) ≤ 3 + (M : Int) := by omega
    have t8 : 3 + (M : Int) ≤ (c : Int) := by omega
    have t9 : 3 + M + 4 ≤ c := hcM
    have t10 : 3 + M ≤ c := by omega
    clear hg4 hs4 hfr l4 lE hS4 hSE hSl
    gi_wp2
    refine (wpIn_wide).2 ?_
    go_quiet (first | (go_at_call 56; exact Calls.quiet_of_same (Hg4.out _ _)) | (go_at_call 39; exact Calls.quiet_of_same (Hs4.out _ _)))
    obtain ⟨W2, hW2⟩ : ∃ W2, W2 = W1.drewN nq := ⟨_, rfl⟩
    have hbs2 : Bs W2 W2.heap.size (some ⟨b, o, none⟩) data := by rw [hW2]; exact hbs1.drewN nq
    have hD2 : Blk W2 D0 22 #[.slice (some ⟨b, o, none⟩) N c] := by rw [hW2]; exact hD1
    have hJ2 : J W2 := by rw [hW2]; exact hJ _ _ (bl_drewN W1 nq) hJ1
    have hB2 : B0 ≤ W2.heap.size := by rw [hW2]; exact hB1
    rw [← hW2]
    clear hbs1 hD1 hJ1 hB1 hW2 c0 Hg4 Hs4
    have c0 := hD2.cell 0
    simp only [List.getElem?_toArray, List.getElem?_cons_zero] at c0
    by_cases hS : S4 = SE
    · have hf : frontR data = some (K, (data.take (3 + M)).drop 3, 3 + M + 4) := by rw [Hfr.out, if_neg (by rw [hS]; simp)]
      have hB : ((S4 : Int) != (SE : Int)) = false := by rw [hS]; simp
      have hdd : (data.take (3 + M)).drop 3 = (data.drop 3).take M := by rw [List.drop_take]; congr 1; omega
      have hdl : ((data.drop 3).take M).length = M := by rw [List.length_take, List.length_drop, ← hN.out]; omega
      rw [hdd] at hf
      obtain ⟨d, hd⟩ : ∃ d, d = (data.drop 3).take M := ⟨_, rfl⟩
      have hfresh := fresh_any (some ⟨b, o + 3, none⟩) ((data.drop 3).take M) M (c - 3) W2 hdl.symm (by omega) (bs_sub hbs2 3 M)
      rw [← hd] at hf hdl hfresh
      have Hd := Lib.hid hdl
      have Hf := Lib.hid hf
      have Hfresh := Lib.hid hfresh
      have u1 : 3 + M - 3 = M := by omega
      have u2 : ¬ c = 3 := by omega
      have u3 : (3 : Int) ≤ 3 + (M : Int) := by omega
      have u4 : (3 : Int) ≤ (c : Int) := by omega
      have u5 : 3 ≤ 3 + M := by omega
      clear hdd hdl hd hf hfresh hS hbs2
      gi_wp2_with fail
      refine ⟨trivial, fun _ => by omega, ((callsIn_wide).2 Hfresh.out).mono ?_⟩
      rintro e W3 ⟨rfl, hr3, hb3⟩
      have hJ3 := hJ _ _ hb3 hJ2
      obtain ⟨fn, tmps, assign, body, hy, hR⟩ := hY ⟨K, W2.heap.size, d, 3 + M + 4⟩ W3 hJ3 hr3 hB2 Hf.out
      have henc : encR ⟨K, W2.heap.size, d, 3 + M + 4⟩ = #[.agg #[.int .i64 K, .slice (some ⟨W2.heap.size, 0, none⟩) M M], .int .i64 (3 + (M : Int) + 4)] := by unfold encR; simp only [Hd.out]; push_cast; rfl
      rw [henc] at hy
      clear c0 hb3 henc
      gi_wp2
      refine ⟨fun _ => by omega, hR.mono ?_⟩
      rintro e W4 ⟨rfl, hY4⟩
      gi_wp2
      go_end0
      exact And.intro ⟨_, rfl⟩ (Or.inr ⟨⟨K, W2.heap.size, d, 3 + M + 4⟩, Hf.out, hB2, hY4⟩)
    · have hf : frontR data = none := by rw [Hfr.out, if_pos hS]
      have hB : ((S4 : Int) != (SE : Int)) = true := by simp; omega
      gi_wp2
      (try simp only [Exit.inBlock, Exit.then]); refine bodyPost_ret (results_none rfl _ _ _) rfl ?_
      exact And.intro ⟨_, rfl⟩ (Or.inl ⟨hf, hJ2⟩)

set_option maxHeartbeats 400000 in
theorem front_any (A : Option Addr) (n c : Nat) (w : World) :
    Calls Try.prog 42 #[.slice A n c] w fun e w' => e = .returned (.func (.func 55) #[] #[.pointer (some ⟨w.heap.size, 0, none⟩)]) ∧
      Blk w' w.heap.size 22 #[.slice A n c] ∧ Below w.heap.size w w' ∧ w'.heap.size = w.heap.size + 1 := by
  go_enter Try.func42, Try.ntmps42
  go_wp2
  go_ret
  exact ⟨rfl, Blk.new _ _ _, ba _ _, by simp⟩
end Go.Proofs.Ythaamnkihnbgaaa
