/-
  No cell of these rows narrows 'for every input' (looked for: loops, veiled, ifaces, maps, wideKeys, modest, calm, conditions, laid).
  DERIVED. THE GIVEN ROWS OF THIS SEAT. 6 by the template 'for every input the law returns true; each argument reads behind the call as it read before'; 0 by the template 'total and deterministic' (their statements: YtlliaihmfimdoaaGreatTotals.lean).
  GIVEN WITH THE SEED: the statements are not yours to turn. If you find one false, say at which input.
  Laid BY PROGRAM, IN A SANDBOX (cutbox-rows.mjs): the forced cells as the released guide's own fill.sh prints them over the translation 67e23ebd71ea057b… (all of the seat's roots in one cut). By AI agents, Wed Nov 11 2026. No macro, syntax, notation, axiom, sorry.
-/
import Derived.Test.YtlliaihmfimdoaaGreatChecked
import GoSem.Claim
import GoSem.ClaimJoined
import GoSem.ClaimMapViews
import Derived.JoinedTies
import Derived.KernelRfl
namespace Go.Proofs.YtlliaihmfimdoaaGreat
/- THE CELL 'sum', in the pinned program and in every row, IS THE sha256 OF THE DUMP (.gsa) THAT YtlliaihmfimdoaaGreatProg.lean LOADS. Nothing in Lean hashes anything: it is a label: what it is worth is what the hold of that sum in a sandbox is worth. -/
noncomputable def Tryz.pinned : Pinned := { name := "ytlliaihmfimdoaagreat", sum := "67e23ebd71ea057bb4c4b66e699d16074ce39fceef4ae3b7a4d681c670d641bc", checked := Tryz.checked }
namespace Rows
def none {H : Type} : Left H := { results := [], args := [] }

/-- 'trothlaw15.ResLives': WHATEVER THE INPUT: true; the input reads as it did. -/
def resLivesSpec : ChangeSpec := { name := "resLives", fn := fun _ => fun
  | [d] => { results := [.lit (.bool true)], args := [d] }
  | _ => none }
def resLivesRow : OpenClaim := { program := "ytlliaihmfimdoaagreat", sum := "67e23ebd71ea057bb4c4b66e699d16074ce39fceef4ae3b7a4d681c670d641bc", func := "troth/trothlaw15.ResLives", spec := "resLives", inPlace := ["maps.clone"], unfollowed := true, recurses := true, plainKeys := false, apart := false }
def ResLivesSaid : Prop := resLivesRow.holds Tryz.pinned (OpenSpec.ofChange resLivesSpec)

/-- ITS FALSE NEIGHBOUR: 'it returns false'. Refute it at one input. -/
def resLivesWrong : ChangeSpec := { name := "resLives", fn := fun _ => fun
  | [d] => { results := [.lit (.bool false)], args := [d] }
  | _ => none }
def ResLivesWrongFalsely : Prop := resLivesRow.holds Tryz.pinned (OpenSpec.ofChange resLivesWrong)

/-- 'trothlaw15.ResLoads': WHATEVER THE INPUT: true; the input reads as it did. -/
def resLoadsSpec : ChangeSpec := { name := "resLoads", fn := fun _ => fun
  | [d1, d2] => { results := [.lit (.bool true)], args := [d1, d2] }
  | _ => none }
def resLoadsRow : OpenClaim := { program := "ytlliaihmfimdoaagreat", sum := "67e23ebd71ea057bb4c4b66e699d16074ce39fceef4ae3b7a4d681c670d641bc", func := "troth/trothlaw15.ResLoads", spec := "resLoads", inPlace := ["maps.clone"], unfollowed := true, recurses := true, plainKeys := false, apart := false }
def ResLoadsSaid : Prop := resLoadsRow.holds Tryz.pinned (OpenSpec.ofChange resLoadsSpec)

/-- ITS FALSE NEIGHBOUR: 'it returns false'. Refute it at one input. -/
def resLoadsWrong : ChangeSpec := { name := "resLoads", fn := fun _ => fun
  | [d1, d2] => { results := [.lit (.bool false)], args := [d1, d2] }
  | _ => none }
def ResLoadsWrongFalsely : Prop := resLoadsRow.holds Tryz.pinned (OpenSpec.ofChange resLoadsWrong)

/-- 'trothlaw15.ResNobody': WHATEVER THE INPUT: true; the input reads as it did. -/
def resNobodySpec : ChangeSpec := { name := "resNobody", fn := fun _ => fun
  | [d] => { results := [.lit (.bool true)], args := [d] }
  | _ => none }
def resNobodyRow : OpenClaim := { program := "ytlliaihmfimdoaagreat", sum := "67e23ebd71ea057bb4c4b66e699d16074ce39fceef4ae3b7a4d681c670d641bc", func := "troth/trothlaw15.ResNobody", spec := "resNobody", inPlace := ["maps.clone"], unfollowed := true, recurses := true, plainKeys := false, apart := false }
def ResNobodySaid : Prop := resNobodyRow.holds Tryz.pinned (OpenSpec.ofChange resNobodySpec)

/-- ITS FALSE NEIGHBOUR: 'it returns false'. Refute it at one input. -/
def resNobodyWrong : ChangeSpec := { name := "resNobody", fn := fun _ => fun
  | [d] => { results := [.lit (.bool false)], args := [d] }
  | _ => none }
def ResNobodyWrongFalsely : Prop := resNobodyRow.holds Tryz.pinned (OpenSpec.ofChange resNobodyWrong)

/-- 'trothlaw15.ResBack': WHATEVER THE INPUT: true; the input reads as it did. -/
def resBackSpec : ChangeSpec := { name := "resBack", fn := fun _ => fun
  | [d1, d2] => { results := [.lit (.bool true)], args := [d1, d2] }
  | _ => none }
def resBackRow : OpenClaim := { program := "ytlliaihmfimdoaagreat", sum := "67e23ebd71ea057bb4c4b66e699d16074ce39fceef4ae3b7a4d681c670d641bc", func := "troth/trothlaw15.ResBack", spec := "resBack", inPlace := ["maps.clone"], unfollowed := true, recurses := true, plainKeys := false, apart := false }
def ResBackSaid : Prop := resBackRow.holds Tryz.pinned (OpenSpec.ofChange resBackSpec)

/-- ITS FALSE NEIGHBOUR: 'it returns false'. Refute it at one input. -/
def resBackWrong : ChangeSpec := { name := "resBack", fn := fun _ => fun
  | [d1, d2] => { results := [.lit (.bool false)], args := [d1, d2] }
  | _ => none }
def ResBackWrongFalsely : Prop := resBackRow.holds Tryz.pinned (OpenSpec.ofChange resBackWrong)

/-- 'trothlaw15.ResRedo': WHATEVER THE INPUT: true; the input reads as it did. -/
def resRedoSpec : ChangeSpec := { name := "resRedo", fn := fun _ => fun
  | [d1, d2] => { results := [.lit (.bool true)], args := [d1, d2] }
  | _ => none }
def resRedoRow : OpenClaim := { program := "ytlliaihmfimdoaagreat", sum := "67e23ebd71ea057bb4c4b66e699d16074ce39fceef4ae3b7a4d681c670d641bc", func := "troth/trothlaw15.ResRedo", spec := "resRedo", inPlace := ["maps.clone"], unfollowed := true, recurses := true, plainKeys := false, apart := false }
def ResRedoSaid : Prop := resRedoRow.holds Tryz.pinned (OpenSpec.ofChange resRedoSpec)

/-- ITS FALSE NEIGHBOUR: 'it returns false'. Refute it at one input. -/
def resRedoWrong : ChangeSpec := { name := "resRedo", fn := fun _ => fun
  | [d1, d2] => { results := [.lit (.bool false)], args := [d1, d2] }
  | _ => none }
def ResRedoWrongFalsely : Prop := resRedoRow.holds Tryz.pinned (OpenSpec.ofChange resRedoWrong)

/-- 'trothlaw15.ResBoth': WHATEVER THE INPUT: true; the input reads as it did. -/
def resBothSpec : ChangeSpec := { name := "resBoth", fn := fun _ => fun
  | [d1, d2, d3, d4, d5] => { results := [.lit (.bool true)], args := [d1, d2, d3, d4, d5] }
  | _ => none }
def resBothRow : OpenClaim := { program := "ytlliaihmfimdoaagreat", sum := "67e23ebd71ea057bb4c4b66e699d16074ce39fceef4ae3b7a4d681c670d641bc", func := "troth/trothlaw15.ResBoth", spec := "resBoth", inPlace := ["maps.clone"], unfollowed := true, recurses := true, plainKeys := false, apart := false }
def ResBothSaid : Prop := resBothRow.holds Tryz.pinned (OpenSpec.ofChange resBothSpec)

/-- ITS FALSE NEIGHBOUR: 'it returns false'. Refute it at one input. -/
def resBothWrong : ChangeSpec := { name := "resBoth", fn := fun _ => fun
  | [d1, d2, d3, d4, d5] => { results := [.lit (.bool false)], args := [d1, d2, d3, d4, d5] }
  | _ => none }
def ResBothWrongFalsely : Prop := resBothRow.holds Tryz.pinned (OpenSpec.ofChange resBothWrong)

/- THE SECOND FORM. 'bulk': how many values and letters a reading holds, each counted each time it is reached (what is shared counts as often as it is met; a slice's spare places count too). A statement '..UptoSaid' is the law's where the arguments, and the package variables that the reading takes, are together of bulk at most 1048576: NARROWER than '..Said'. Prove '..Said' where nothing that the law and all that it calls make is longer than what came in: it says more and counts as full. Else prove '..UptoSaid'. A law counts once. -/
mutual
def uptoBulk {H : Type} : DataW H → Nat
  | .lit (.string bytes) => bytes.length + 1
  | .lit _ => 1
  | .nil => 1
  | .ptr d => uptoBulk d + 1
  | .slice elems spare => uptoBulkAll elems + uptoBulkAll spare + 1
  | .agg parts => uptoBulkAll parts + 1
  | .iface _ d => uptoBulk d + 1
  | .map entries => uptoBulkEntries entries + 1
  | .held _ => 1
def uptoBulkAll {H : Type} : List (DataW H) → Nat
  | [] => 0
  | d :: r => uptoBulk d + uptoBulkAll r
def uptoBulkEntries {H : Type} : List (Lit × DataW H) → Nat
  | [] => 0
  | x :: r => uptoBulkEntry x + uptoBulkEntries r
def uptoBulkEntry {H : Type} : Lit × DataW H → Nat
  | (.string bytes, d) => bytes.length + uptoBulk d + 1
  | (_, d) => uptoBulk d + 1
 end
def uptoSmall : (H : Type) → List (DataW H) → Bool := fun _ ds => decide (uptoBulkAll ds ≤ 1048576)
def OpenSpec.upto (s : _root_.Go.ChangeSpec) : _root_.Go.OpenSpec := { _root_.Go.OpenSpec.ofChange s with cond := some uptoSmall }

/-- 'trothlaw15.ResLives', WHERE WHAT IT READS IS OF BULK AT MOST 1048576: true; the input reads as it did. -/
def resLivesUptoRow : OpenClaim := { program := "ytlliaihmfimdoaagreat", sum := "67e23ebd71ea057bb4c4b66e699d16074ce39fceef4ae3b7a4d681c670d641bc", func := "troth/trothlaw15.ResLives", spec := "resLives", inPlace := ["maps.clone"], unfollowed := true, recurses := true, plainKeys := false, apart := false, narrowed := true }
def ResLivesUptoSaid : Prop := resLivesUptoRow.holds Tryz.pinned (OpenSpec.upto resLivesSpec)

/-- 'trothlaw15.ResLoads', WHERE WHAT IT READS IS OF BULK AT MOST 1048576: true; the input reads as it did. -/
def resLoadsUptoRow : OpenClaim := { program := "ytlliaihmfimdoaagreat", sum := "67e23ebd71ea057bb4c4b66e699d16074ce39fceef4ae3b7a4d681c670d641bc", func := "troth/trothlaw15.ResLoads", spec := "resLoads", inPlace := ["maps.clone"], unfollowed := true, recurses := true, plainKeys := false, apart := false, narrowed := true }
def ResLoadsUptoSaid : Prop := resLoadsUptoRow.holds Tryz.pinned (OpenSpec.upto resLoadsSpec)

/-- 'trothlaw15.ResNobody', WHERE WHAT IT READS IS OF BULK AT MOST 1048576: true; the input reads as it did. -/
def resNobodyUptoRow : OpenClaim := { program := "ytlliaihmfimdoaagreat", sum := "67e23ebd71ea057bb4c4b66e699d16074ce39fceef4ae3b7a4d681c670d641bc", func := "troth/trothlaw15.ResNobody", spec := "resNobody", inPlace := ["maps.clone"], unfollowed := true, recurses := true, plainKeys := false, apart := false, narrowed := true }
def ResNobodyUptoSaid : Prop := resNobodyUptoRow.holds Tryz.pinned (OpenSpec.upto resNobodySpec)

/-- 'trothlaw15.ResBack', WHERE WHAT IT READS IS OF BULK AT MOST 1048576: true; the input reads as it did. -/
def resBackUptoRow : OpenClaim := { program := "ytlliaihmfimdoaagreat", sum := "67e23ebd71ea057bb4c4b66e699d16074ce39fceef4ae3b7a4d681c670d641bc", func := "troth/trothlaw15.ResBack", spec := "resBack", inPlace := ["maps.clone"], unfollowed := true, recurses := true, plainKeys := false, apart := false, narrowed := true }
def ResBackUptoSaid : Prop := resBackUptoRow.holds Tryz.pinned (OpenSpec.upto resBackSpec)

/-- 'trothlaw15.ResRedo', WHERE WHAT IT READS IS OF BULK AT MOST 1048576: true; the input reads as it did. -/
def resRedoUptoRow : OpenClaim := { program := "ytlliaihmfimdoaagreat", sum := "67e23ebd71ea057bb4c4b66e699d16074ce39fceef4ae3b7a4d681c670d641bc", func := "troth/trothlaw15.ResRedo", spec := "resRedo", inPlace := ["maps.clone"], unfollowed := true, recurses := true, plainKeys := false, apart := false, narrowed := true }
def ResRedoUptoSaid : Prop := resRedoUptoRow.holds Tryz.pinned (OpenSpec.upto resRedoSpec)

/-- 'trothlaw15.ResBoth', WHERE WHAT IT READS IS OF BULK AT MOST 1048576: true; the input reads as it did. -/
def resBothUptoRow : OpenClaim := { program := "ytlliaihmfimdoaagreat", sum := "67e23ebd71ea057bb4c4b66e699d16074ce39fceef4ae3b7a4d681c670d641bc", func := "troth/trothlaw15.ResBoth", spec := "resBoth", inPlace := ["maps.clone"], unfollowed := true, recurses := true, plainKeys := false, apart := false, narrowed := true }
def ResBothUptoSaid : Prop := resBothUptoRow.holds Tryz.pinned (OpenSpec.upto resBothSpec)

end Rows
end Go.Proofs.YtlliaihmfimdoaaGreat
