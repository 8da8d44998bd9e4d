/- Layer 10: conversations as six values; the program's small functions. -/
import Derived.Test.YtfhfbekphmnbgaaDoorBlk
import Derived.Test.YtfhfbekphmnbgaaDoorProg
namespace Go.Proofs.YtfhfbekphmnbgaaDoor
open Go.RowKit
set_option linter.unusedVariables false
set_option linter.unusedSimpArgs false

/-- A conversation: level, state and waiting of the sides, turn. -/
def cv : Int × Int × Bool × Int × Bool × Int → Value
  | (l, s0, w0, s1, w1, t) => .agg #[.int .i64 l, .int .i64 s0, .bool w0, .int .i64 s1, .bool w1, .int .i64 t]
def bi (b : Bool) : Int := if b then 1 else 0
def stM (c : Int × Int × Bool × Int × Bool × Int) (it : Bool) : Int := match c with | (_, s0, _, s1, _, _) => if it then s1 else s0
def wtM (c : Int × Int × Bool × Int × Bool × Int) (it : Bool) : Bool := match c with | (_, _, w0, _, w1, _) => if it then w1 else w0
def setT (c : Int × Int × Bool × Int × Bool × Int) (u : Int) : Int × Int × Bool × Int × Bool × Int := match c with | (l, s0, w0, s1, w1, _) => (l, s0, w0, s1, w1, u)
def setS (c : Int × Int × Bool × Int × Bool × Int) (it : Bool) (s : Int) : Int × Int × Bool × Int × Bool × Int := match c with | (l, s0, w0, s1, w1, t) => if it then (l, s0, w0, s, w1, t) else (l, s, w0, s1, w1, t)
def speakM (c : Int × Int × Bool × Int × Bool × Int) (it : Bool) : Int × Int × Bool × Int × Bool × Int := match c with | (l, _, _, _, _, t) => if it then (l, 2, false, 1, false, t) else (l, 1, false, 2, false, t)
def askM (c : Int × Int × Bool × Int × Bool × Int) (it : Bool) (o : Int) : Int × Int × Bool × Int × Bool × Int := match c with | (l, s0, _, s1, _, t) => if it then (l, o, false, s1, true, t) else (l, s0, true, o, false, t)
def endM (c : Int × Int × Bool × Int × Bool × Int) : Int × Int × Bool × Int × Bool × Int := match c with | (l, _, _, _, _, t) => (l, 12, false, 12, false, t)
def baseM (c : Int × Int × Bool × Int × Bool × Int) (it : Bool) : Int := match c with | (_, _, _, _, _, t) => if t = bi it then 1 else 2
def agreeM (c : Int × Int × Bool × Int × Bool × Int) (it : Bool) : Int × Int × Bool × Int × Bool × Int :=
  if stM c it = 6 then speakM (setT c (bi !it)) (!it) else if stM c it = 3 then speakM c (!it) else if stM c it = 7 then speakM (setT c (bi it)) it else if stM c it = 4 then speakM c it else endM c
def syncM (c : Int × Int × Bool × Int × Bool × Int) (it : Bool) : Int × Int × Bool × Int × Bool × Int :=
  if stM c it = 1 then askM c it 6 else if stM c it = 10 then askM c it 7 else if stM c it = 11 then askM c it 8 else agreeM c it
def backM (c : Int × Int × Bool × Int × Bool × Int) (it tb : Bool) : Int × Int × Bool × Int × Bool × Int :=
  if stM c it = 9 then speakM c tb else askM (setS c it (baseM c it)) it 9

theorem isLevel_any (n : Int) (w : World) : Calls Tryd.prog 20 #[.int .i64 n] w fun e w' => e = .returned (.bool (decide (0 ≤ n) && decide (n ≤ 2))) ∧ w = w' := by
  rcases h1 : decide (0 ≤ n) with _ | _
  · go_enter Tryd.func20, Tryd.ntmps20
    go_wp2
    go_ret
    exact ⟨rfl, rfl⟩
  · rcases h2 : decide (n ≤ 2) with _ | _
    all_goals
      go_enter Tryd.func20, Tryd.ntmps20
      go_wp2
      go_ret
      exact ⟨rfl, rfl⟩
theorem isSide_any (n : Int) (w : World) : Calls Tryd.prog 22 #[.int .i64 n] w fun e w' => e = .returned (.bool ((n == 0) || (n == 1))) ∧ w = w' := by
  rcases h1 : (n == 0) with _ | _
  · rcases h2 : (n == 1) with _ | _
    all_goals
      go_enter Tryd.func22, Tryd.ntmps22
      go_wp2
      go_ret
      exact ⟨rfl, rfl⟩
  · go_enter Tryd.func22, Tryd.ntmps22
    go_wp2
    go_ret
    exact ⟨rfl, rfl⟩
theorem other_any (it : Bool) (w : World) : Calls Tryd.prog 30 #[.int .i64 (bi it)] w fun e w' => e = .returned (.int .i64 (bi !it)) ∧ w = w' := by
  have h : wrap64 (1 - bi it) = bi !it := by cases it <;> (simp [bi, wrap64]; try rfl)
  go_enter Tryd.func30, Tryd.ntmps30
  go_wp2
  go_ret
  exact ⟨by rw [← h]; rfl, rfl⟩
section
variable (l s0 : Int) (w0 : Bool) (s1 : Int) (w1 : Bool) (t : Int) (w : World)
theorem base_any (it : Bool) : Calls Tryd.prog 31 #[cv (l, s0, w0, s1, w1, t), .int .i64 (bi it)] w fun e w' => e = .returned (.int .i64 (baseM (l, s0, w0, s1, w1, t) it)) ∧ Below w.heap.size w w' := by
  unfold cv baseM
  by_cases h : t = bi it
  · subst h
    have g : (bi it == bi it) = true := by simp
    generalize bi it = z at *
    go_enter Tryd.func31, Tryd.ntmps31
    go_wp2
    go_ret
    exact ⟨by simp, ba _ _⟩
  · have g : (t == bi it) = false := by simpa using h
    simp only [if_neg h]
    generalize bi it = z at *
    clear h
    go_enter Tryd.func31, Tryd.ntmps31
    go_wp2
    go_ret
    exact ⟨rfl, ba _ _⟩
set_option maxHeartbeats 800000 in
theorem end_any : Calls Tryd.prog 35 #[cv (l, s0, w0, s1, w1, t)] w fun e w' => e = .returned (cv (endM (l, s0, w0, s1, w1, t))) ∧ Below w.heap.size w w' := by
  unfold cv endM
  go_enter Tryd.func35, Tryd.ntmps35
  go_wp2
  refine bodyPost_ret (by simp [results, Tryd.results35, go_sem]; try rfl) rfl ?_
  exact ⟨rfl, bt (ba _ _) (ba _ _)⟩
end
end Go.Proofs.YtfhfbekphmnbgaaDoor
