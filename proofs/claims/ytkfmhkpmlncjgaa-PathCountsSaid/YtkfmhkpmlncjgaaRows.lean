/-
  No cell of these rows narrows 'for every input' (looked for: loops, veiled, ifaces, maps, wideKeys, modest, calm, conditions, laid).
  DERIVED. THE GIVEN ROWS OF THIS SEAT. 5 by the template 'for every input the law returns true; each argument reads behind the call as it read before'; 0 by the template 'total and deterministic' (their statements: YtkfmhkpmlncjgaaTotals.lean).
  GIVEN WITH THE SEED: the statements are not yours to turn. If you find one false, say at which input.
  Laid BY PROGRAM, IN A SANDBOX (cutbox-rows.mjs): the forced cells as the released guide's own fill.sh prints them over the translation 88a0c3fa3fc9ff4a… (all of the seat's roots in one cut). By AI agents, Wed Nov 11 2026. No macro, syntax, notation, axiom, sorry.
-/
import Derived.Test.YtkfmhkpmlncjgaaChecked
import GoSem.Claim
import GoSem.ClaimJoined
import GoSem.ClaimMapViews
import Derived.JoinedTies
import Derived.KernelRfl
namespace Go.Proofs.Ytkfmhkpmlncjgaa
/- THE CELL 'sum', in the pinned program and in every row, IS THE sha256 OF THE DUMP (.gsa) THAT YtkfmhkpmlncjgaaProg.lean LOADS. Nothing in Lean hashes anything: it is a label: what it is worth is what the hold of that sum in a sandbox is worth. -/
noncomputable def Try.pinned : Pinned := { name := "ytkfmhkpmlncjgaa", sum := "88a0c3fa3fc9ff4a219686fb28908c5a9f268f2a289da44089194e7b5f846a7e", checked := Try.checked }
namespace Rows
def none {H : Type} : Left H := { results := [], args := [] }

/-- 'trothlaw08.PathLives': WHATEVER THE INPUT: true; the input reads as it did. -/
def pathLivesSpec : ChangeSpec := { name := "pathLives", fn := fun _ => fun
  | [d] => { results := [.lit (.bool true)], args := [d] }
  | _ => none }
def pathLivesRow : OpenClaim := { program := "ytkfmhkpmlncjgaa", sum := "88a0c3fa3fc9ff4a219686fb28908c5a9f268f2a289da44089194e7b5f846a7e", func := "troth/trothlaw08.PathLives", spec := "pathLives", apart := false }
def PathLivesSaid : Prop := pathLivesRow.holds Try.pinned (OpenSpec.ofChange pathLivesSpec)

/-- ITS FALSE NEIGHBOUR: 'it returns false'. Refute it at one input. -/
def pathLivesWrong : ChangeSpec := { name := "pathLives", fn := fun _ => fun
  | [d] => { results := [.lit (.bool false)], args := [d] }
  | _ => none }
def PathLivesWrongFalsely : Prop := pathLivesRow.holds Try.pinned (OpenSpec.ofChange pathLivesWrong)

/-- 'trothlaw08.PathNobody': WHATEVER THE INPUT: true; the input reads as it did. -/
def pathNobodySpec : ChangeSpec := { name := "pathNobody", fn := fun _ => fun
  | [d1, d2] => { results := [.lit (.bool true)], args := [d1, d2] }
  | _ => none }
def pathNobodyRow : OpenClaim := { program := "ytkfmhkpmlncjgaa", sum := "88a0c3fa3fc9ff4a219686fb28908c5a9f268f2a289da44089194e7b5f846a7e", func := "troth/trothlaw08.PathNobody", spec := "pathNobody", apart := false }
def PathNobodySaid : Prop := pathNobodyRow.holds Try.pinned (OpenSpec.ofChange pathNobodySpec)

/-- ITS FALSE NEIGHBOUR: 'it returns false'. Refute it at one input. -/
def pathNobodyWrong : ChangeSpec := { name := "pathNobody", fn := fun _ => fun
  | [d1, d2] => { results := [.lit (.bool false)], args := [d1, d2] }
  | _ => none }
def PathNobodyWrongFalsely : Prop := pathNobodyRow.holds Try.pinned (OpenSpec.ofChange pathNobodyWrong)

/-- 'trothlaw08.PathSent': WHATEVER THE INPUT: true; the input reads as it did. -/
def pathSentSpec : ChangeSpec := { name := "pathSent", fn := fun _ => fun
  | [d] => { results := [.lit (.bool true)], args := [d] }
  | _ => none }
def pathSentRow : OpenClaim := { program := "ytkfmhkpmlncjgaa", sum := "88a0c3fa3fc9ff4a219686fb28908c5a9f268f2a289da44089194e7b5f846a7e", func := "troth/trothlaw08.PathSent", spec := "pathSent", apart := false }
def PathSentSaid : Prop := pathSentRow.holds Try.pinned (OpenSpec.ofChange pathSentSpec)

/-- ITS FALSE NEIGHBOUR: 'it returns false'. Refute it at one input. -/
def pathSentWrong : ChangeSpec := { name := "pathSent", fn := fun _ => fun
  | [d] => { results := [.lit (.bool false)], args := [d] }
  | _ => none }
def PathSentWrongFalsely : Prop := pathSentRow.holds Try.pinned (OpenSpec.ofChange pathSentWrong)

/-- 'trothlaw08.PathCounts': WHATEVER THE INPUT: true; the input reads as it did. -/
def pathCountsSpec : ChangeSpec := { name := "pathCounts", fn := fun _ => fun
  | [d] => { results := [.lit (.bool true)], args := [d] }
  | _ => none }
def pathCountsRow : OpenClaim := { program := "ytkfmhkpmlncjgaa", sum := "88a0c3fa3fc9ff4a219686fb28908c5a9f268f2a289da44089194e7b5f846a7e", func := "troth/trothlaw08.PathCounts", spec := "pathCounts", apart := false }
def PathCountsSaid : Prop := pathCountsRow.holds Try.pinned (OpenSpec.ofChange pathCountsSpec)

/-- ITS FALSE NEIGHBOUR: 'it returns false'. Refute it at one input. -/
def pathCountsWrong : ChangeSpec := { name := "pathCounts", fn := fun _ => fun
  | [d] => { results := [.lit (.bool false)], args := [d] }
  | _ => none }
def PathCountsWrongFalsely : Prop := pathCountsRow.holds Try.pinned (OpenSpec.ofChange pathCountsWrong)

/-- 'trothlaw08.PathFirst': WHATEVER THE INPUT: true; the input reads as it did. -/
def pathFirstSpec : ChangeSpec := { name := "pathFirst", fn := fun _ => fun
  | [d] => { results := [.lit (.bool true)], args := [d] }
  | _ => none }
def pathFirstRow : OpenClaim := { program := "ytkfmhkpmlncjgaa", sum := "88a0c3fa3fc9ff4a219686fb28908c5a9f268f2a289da44089194e7b5f846a7e", func := "troth/trothlaw08.PathFirst", spec := "pathFirst", apart := false }
def PathFirstSaid : Prop := pathFirstRow.holds Try.pinned (OpenSpec.ofChange pathFirstSpec)

/-- ITS FALSE NEIGHBOUR: 'it returns false'. Refute it at one input. -/
def pathFirstWrong : ChangeSpec := { name := "pathFirst", fn := fun _ => fun
  | [d] => { results := [.lit (.bool false)], args := [d] }
  | _ => none }
def PathFirstWrongFalsely : Prop := pathFirstRow.holds Try.pinned (OpenSpec.ofChange pathFirstWrong)

/- THE SECOND FORM. 'bulk': how many values and letters a reading holds, each counted each time it is reached (what is shared counts as often as it is met; a slice's spare places count too). A statement '..UptoSaid' is the law's where the arguments, and the package variables that the reading takes, are together of bulk at most 1048576: NARROWER than '..Said'. Prove '..Said' where nothing that the law and all that it calls make is longer than what came in: it says more and counts as full. Else prove '..UptoSaid'. A law counts once. -/
mutual
def uptoBulk {H : Type} : DataW H → Nat
  | .lit (.string bytes) => bytes.length + 1
  | .lit _ => 1
  | .nil => 1
  | .ptr d => uptoBulk d + 1
  | .slice elems spare => uptoBulkAll elems + uptoBulkAll spare + 1
  | .agg parts => uptoBulkAll parts + 1
  | .iface _ d => uptoBulk d + 1
  | .map entries => uptoBulkEntries entries + 1
  | .held _ => 1
def uptoBulkAll {H : Type} : List (DataW H) → Nat
  | [] => 0
  | d :: r => uptoBulk d + uptoBulkAll r
def uptoBulkEntries {H : Type} : List (Lit × DataW H) → Nat
  | [] => 0
  | x :: r => uptoBulkEntry x + uptoBulkEntries r
def uptoBulkEntry {H : Type} : Lit × DataW H → Nat
  | (.string bytes, d) => bytes.length + uptoBulk d + 1
  | (_, d) => uptoBulk d + 1
 end
def uptoSmall : (H : Type) → List (DataW H) → Bool := fun _ ds => decide (uptoBulkAll ds ≤ 1048576)
def OpenSpec.upto (s : _root_.Go.ChangeSpec) : _root_.Go.OpenSpec := { _root_.Go.OpenSpec.ofChange s with cond := some uptoSmall }

/-- 'trothlaw08.PathLives', WHERE WHAT IT READS IS OF BULK AT MOST 1048576: true; the input reads as it did. -/
def pathLivesUptoRow : OpenClaim := { program := "ytkfmhkpmlncjgaa", sum := "88a0c3fa3fc9ff4a219686fb28908c5a9f268f2a289da44089194e7b5f846a7e", func := "troth/trothlaw08.PathLives", spec := "pathLives", apart := false, narrowed := true }
def PathLivesUptoSaid : Prop := pathLivesUptoRow.holds Try.pinned (OpenSpec.upto pathLivesSpec)

/-- 'trothlaw08.PathNobody', WHERE WHAT IT READS IS OF BULK AT MOST 1048576: true; the input reads as it did. -/
def pathNobodyUptoRow : OpenClaim := { program := "ytkfmhkpmlncjgaa", sum := "88a0c3fa3fc9ff4a219686fb28908c5a9f268f2a289da44089194e7b5f846a7e", func := "troth/trothlaw08.PathNobody", spec := "pathNobody", apart := false, narrowed := true }
def PathNobodyUptoSaid : Prop := pathNobodyUptoRow.holds Try.pinned (OpenSpec.upto pathNobodySpec)

/-- 'trothlaw08.PathSent', WHERE WHAT IT READS IS OF BULK AT MOST 1048576: true; the input reads as it did. -/
def pathSentUptoRow : OpenClaim := { program := "ytkfmhkpmlncjgaa", sum := "88a0c3fa3fc9ff4a219686fb28908c5a9f268f2a289da44089194e7b5f846a7e", func := "troth/trothlaw08.PathSent", spec := "pathSent", apart := false, narrowed := true }
def PathSentUptoSaid : Prop := pathSentUptoRow.holds Try.pinned (OpenSpec.upto pathSentSpec)

/-- 'trothlaw08.PathCounts', WHERE WHAT IT READS IS OF BULK AT MOST 1048576: true; the input reads as it did. -/
def pathCountsUptoRow : OpenClaim := { program := "ytkfmhkpmlncjgaa", sum := "88a0c3fa3fc9ff4a219686fb28908c5a9f268f2a289da44089194e7b5f846a7e", func := "troth/trothlaw08.PathCounts", spec := "pathCounts", apart := false, narrowed := true }
def PathCountsUptoSaid : Prop := pathCountsUptoRow.holds Try.pinned (OpenSpec.upto pathCountsSpec)

/-- 'trothlaw08.PathFirst', WHERE WHAT IT READS IS OF BULK AT MOST 1048576: true; the input reads as it did. -/
def pathFirstUptoRow : OpenClaim := { program := "ytkfmhkpmlncjgaa", sum := "88a0c3fa3fc9ff4a219686fb28908c5a9f268f2a289da44089194e7b5f846a7e", func := "troth/trothlaw08.PathFirst", spec := "pathFirst", apart := false, narrowed := true }
def PathFirstUptoSaid : Prop := pathFirstUptoRow.holds Try.pinned (OpenSpec.upto pathFirstSpec)

end Rows
end Go.Proofs.Ytkfmhkpmlncjgaa
