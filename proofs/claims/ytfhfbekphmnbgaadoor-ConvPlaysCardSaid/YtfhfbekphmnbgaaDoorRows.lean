/-
  NARROWER THAN 'FOR EVERY INPUT', by the rows' own cells (each row's printed sentence says how): ConvBegins: laid · ConvDoes: laid · ConvPlays: laid · ConvHalf: laid · ConvCanEnd: laid · ConvSyncs: laid · ConvAlike: laid · ConvTalks: laid.
  DERIVED. THE GIVEN ROWS OF THIS SEAT. 8 by the template 'for every input the law returns true; each argument reads behind the call as it read before'; 0 by the template 'total and deterministic' (their statements: YtfhfbekphmnbgaaDoorTotals.lean).
  GIVEN WITH THE SEED: the statements are not yours to turn. If you find one false, say at which input.
  Laid BY PROGRAM, IN A SANDBOX (cutbox-rows.mjs): the forced cells as the released guide's own fill.sh prints them over the translation 7f883bea68052a13… (all of the seat's roots in one cut). By AI agents, Wed Nov 11 2026. No macro, syntax, notation, axiom, sorry.
-/
import Derived.Test.YtfhfbekphmnbgaaDoorChecked
import GoSem.Claim
import GoSem.ClaimJoined
import GoSem.ClaimMapViews
import Derived.JoinedTies
import Derived.KernelRfl
namespace Go.Proofs.YtfhfbekphmnbgaaDoor
/- THE CELL 'sum', in the pinned program and in every row, IS THE sha256 OF THE DUMP (.gsa) THAT YtfhfbekphmnbgaaDoorProg.lean LOADS. Nothing in Lean hashes anything: it is a label: what it is worth is what the hold of that sum in a sandbox is worth. -/
noncomputable def Tryd.pinned : Pinned := { name := "ytfhfbekphmnbgaadoor", sum := "7f883bea68052a13a92622c646b3381c72ec02e2fb693f5114c0b6219868bf7c", checked := Tryd.checked }
namespace Rows
def none {H : Type} : Left H := { results := [], args := [] }

/- WHAT THE LISTED PACKAGE-LEVEL VARIABLES READ AS WHEN THE CALL BEGINS. Each datum BY PROGRAM (the guide's laid-datum.mjs) off the statement by which the dump's own 'gosem.cut.vars' lays the variable. In a bare row this is a premise. The card (YtfhfbekphmnbgaaDoorCards.lean) ties it to the program's text. -/
def laid_troth_conv_meetings {H : Type} : DataW H := .agg [.agg [.agg [.agg [.lit (.int .i64 1), .lit (.bool false)], .agg [.lit (.int .i64 2), .lit (.bool false)]], .lit (.int .i64 0)], .agg [.agg [.agg [.lit (.int .i64 1), .lit (.bool true)], .agg [.lit (.int .i64 3), .lit (.bool false)]], .lit (.int .i64 1)], .agg [.agg [.agg [.lit (.int .i64 1), .lit (.bool true)], .agg [.lit (.int .i64 4), .lit (.bool false)]], .lit (.int .i64 1)], .agg [.agg [.agg [.lit (.int .i64 1), .lit (.bool true)], .agg [.lit (.int .i64 5), .lit (.bool false)]], .lit (.int .i64 1)], .agg [.agg [.agg [.lit (.int .i64 10), .lit (.bool false)], .agg [.lit (.int .i64 2), .lit (.bool false)]], .lit (.int .i64 2)], .agg [.agg [.agg [.lit (.int .i64 11), .lit (.bool false)], .agg [.lit (.int .i64 2), .lit (.bool false)]], .lit (.int .i64 2)], .agg [.agg [.agg [.lit (.int .i64 1), .lit (.bool true)], .agg [.lit (.int .i64 6), .lit (.bool false)]], .lit (.int .i64 2)], .agg [.agg [.agg [.lit (.int .i64 10), .lit (.bool true)], .agg [.lit (.int .i64 7), .lit (.bool false)]], .lit (.int .i64 2)], .agg [.agg [.agg [.lit (.int .i64 11), .lit (.bool true)], .agg [.lit (.int .i64 8), .lit (.bool false)]], .lit (.int .i64 2)], .agg [.agg [.agg [.lit (.int .i64 12), .lit (.bool false)], .agg [.lit (.int .i64 12), .lit (.bool false)]], .lit (.int .i64 0)]]

/-- 'trothlaw10.ConvBegins': WHATEVER THE INPUT: true; the input reads as it did. -/
def convBeginsSpec : ChangeSpec := { name := "convBegins", fn := fun _ => fun
  | [d1, d2] => { results := [.lit (.bool true)], args := [d1, d2] }
  | _ => none }
def convBeginsRow : OpenClaim := { program := "ytfhfbekphmnbgaadoor", sum := "7f883bea68052a13a92622c646b3381c72ec02e2fb693f5114c0b6219868bf7c", func := "troth/trothlaw10.ConvBegins", spec := "convBegins", named := ["troth/conv.meetings"], apart := false, laid := [("troth/conv.meetings", laid_troth_conv_meetings)] }
def ConvBeginsSaid : Prop := convBeginsRow.holds Tryd.pinned (OpenSpec.ofChange convBeginsSpec)

/-- ITS FALSE NEIGHBOUR: 'it returns false'. Refute it at one input. -/
def convBeginsWrong : ChangeSpec := { name := "convBegins", fn := fun _ => fun
  | [d1, d2] => { results := [.lit (.bool false)], args := [d1, d2] }
  | _ => none }
def ConvBeginsWrongFalsely : Prop := convBeginsRow.holds Tryd.pinned (OpenSpec.ofChange convBeginsWrong)

/-- 'trothlaw10.ConvDoes': WHATEVER THE INPUT: true; the input reads as it did. -/
def convDoesSpec : ChangeSpec := { name := "convDoes", fn := fun _ => fun
  | [d1, d2, d3] => { results := [.lit (.bool true)], args := [d1, d2, d3] }
  | _ => none }
def convDoesRow : OpenClaim := { program := "ytfhfbekphmnbgaadoor", sum := "7f883bea68052a13a92622c646b3381c72ec02e2fb693f5114c0b6219868bf7c", func := "troth/trothlaw10.ConvDoes", spec := "convDoes", named := ["troth/conv.meetings"], apart := false, laid := [("troth/conv.meetings", laid_troth_conv_meetings)] }
def ConvDoesSaid : Prop := convDoesRow.holds Tryd.pinned (OpenSpec.ofChange convDoesSpec)

/-- ITS FALSE NEIGHBOUR: 'it returns false'. Refute it at one input. -/
def convDoesWrong : ChangeSpec := { name := "convDoes", fn := fun _ => fun
  | [d1, d2, d3] => { results := [.lit (.bool false)], args := [d1, d2, d3] }
  | _ => none }
def ConvDoesWrongFalsely : Prop := convDoesRow.holds Tryd.pinned (OpenSpec.ofChange convDoesWrong)

/-- 'trothlaw10.ConvPlays': WHATEVER THE INPUT: true; the input reads as it did. -/
def convPlaysSpec : ChangeSpec := { name := "convPlays", fn := fun _ => fun
  | [d1, d2] => { results := [.lit (.bool true)], args := [d1, d2] }
  | _ => none }
def convPlaysRow : OpenClaim := { program := "ytfhfbekphmnbgaadoor", sum := "7f883bea68052a13a92622c646b3381c72ec02e2fb693f5114c0b6219868bf7c", func := "troth/trothlaw10.ConvPlays", spec := "convPlays", named := ["troth/conv.meetings"], apart := false, laid := [("troth/conv.meetings", laid_troth_conv_meetings)] }
def ConvPlaysSaid : Prop := convPlaysRow.holds Tryd.pinned (OpenSpec.ofChange convPlaysSpec)

/-- ITS FALSE NEIGHBOUR: 'it returns false'. Refute it at one input. -/
def convPlaysWrong : ChangeSpec := { name := "convPlays", fn := fun _ => fun
  | [d1, d2] => { results := [.lit (.bool false)], args := [d1, d2] }
  | _ => none }
def ConvPlaysWrongFalsely : Prop := convPlaysRow.holds Tryd.pinned (OpenSpec.ofChange convPlaysWrong)

/-- 'trothlaw10.ConvHalf': WHATEVER THE INPUT: true; the input reads as it did. -/
def convHalfSpec : ChangeSpec := { name := "convHalf", fn := fun _ => fun
  | [d1, d2, d3] => { results := [.lit (.bool true)], args := [d1, d2, d3] }
  | _ => none }
def convHalfRow : OpenClaim := { program := "ytfhfbekphmnbgaadoor", sum := "7f883bea68052a13a92622c646b3381c72ec02e2fb693f5114c0b6219868bf7c", func := "troth/trothlaw10.ConvHalf", spec := "convHalf", named := ["troth/conv.meetings"], apart := false, laid := [("troth/conv.meetings", laid_troth_conv_meetings)] }
def ConvHalfSaid : Prop := convHalfRow.holds Tryd.pinned (OpenSpec.ofChange convHalfSpec)

/-- ITS FALSE NEIGHBOUR: 'it returns false'. Refute it at one input. -/
def convHalfWrong : ChangeSpec := { name := "convHalf", fn := fun _ => fun
  | [d1, d2, d3] => { results := [.lit (.bool false)], args := [d1, d2, d3] }
  | _ => none }
def ConvHalfWrongFalsely : Prop := convHalfRow.holds Tryd.pinned (OpenSpec.ofChange convHalfWrong)

/-- 'trothlaw10.ConvCanEnd': WHATEVER THE INPUT: true; the input reads as it did. -/
def convCanEndSpec : ChangeSpec := { name := "convCanEnd", fn := fun _ => fun
  | [d1, d2, d3] => { results := [.lit (.bool true)], args := [d1, d2, d3] }
  | _ => none }
def convCanEndRow : OpenClaim := { program := "ytfhfbekphmnbgaadoor", sum := "7f883bea68052a13a92622c646b3381c72ec02e2fb693f5114c0b6219868bf7c", func := "troth/trothlaw10.ConvCanEnd", spec := "convCanEnd", named := ["troth/conv.meetings"], apart := false, laid := [("troth/conv.meetings", laid_troth_conv_meetings)] }
def ConvCanEndSaid : Prop := convCanEndRow.holds Tryd.pinned (OpenSpec.ofChange convCanEndSpec)

/-- ITS FALSE NEIGHBOUR: 'it returns false'. Refute it at one input. -/
def convCanEndWrong : ChangeSpec := { name := "convCanEnd", fn := fun _ => fun
  | [d1, d2, d3] => { results := [.lit (.bool false)], args := [d1, d2, d3] }
  | _ => none }
def ConvCanEndWrongFalsely : Prop := convCanEndRow.holds Tryd.pinned (OpenSpec.ofChange convCanEndWrong)

/-- 'trothlaw10.ConvSyncs': WHATEVER THE INPUT: true; the input reads as it did. -/
def convSyncsSpec : ChangeSpec := { name := "convSyncs", fn := fun _ => fun
  | [d1, d2] => { results := [.lit (.bool true)], args := [d1, d2] }
  | _ => none }
def convSyncsRow : OpenClaim := { program := "ytfhfbekphmnbgaadoor", sum := "7f883bea68052a13a92622c646b3381c72ec02e2fb693f5114c0b6219868bf7c", func := "troth/trothlaw10.ConvSyncs", spec := "convSyncs", named := ["troth/conv.meetings"], apart := false, laid := [("troth/conv.meetings", laid_troth_conv_meetings)] }
def ConvSyncsSaid : Prop := convSyncsRow.holds Tryd.pinned (OpenSpec.ofChange convSyncsSpec)

/-- ITS FALSE NEIGHBOUR: 'it returns false'. Refute it at one input. -/
def convSyncsWrong : ChangeSpec := { name := "convSyncs", fn := fun _ => fun
  | [d1, d2] => { results := [.lit (.bool false)], args := [d1, d2] }
  | _ => none }
def ConvSyncsWrongFalsely : Prop := convSyncsRow.holds Tryd.pinned (OpenSpec.ofChange convSyncsWrong)

/-- 'trothlaw10.ConvAlike': WHATEVER THE INPUT: true; the input reads as it did. -/
def convAlikeSpec : ChangeSpec := { name := "convAlike", fn := fun _ => fun
  | [d1, d2, d3] => { results := [.lit (.bool true)], args := [d1, d2, d3] }
  | _ => none }
def convAlikeRow : OpenClaim := { program := "ytfhfbekphmnbgaadoor", sum := "7f883bea68052a13a92622c646b3381c72ec02e2fb693f5114c0b6219868bf7c", func := "troth/trothlaw10.ConvAlike", spec := "convAlike", named := ["troth/conv.meetings"], apart := false, laid := [("troth/conv.meetings", laid_troth_conv_meetings)] }
def ConvAlikeSaid : Prop := convAlikeRow.holds Tryd.pinned (OpenSpec.ofChange convAlikeSpec)

/-- ITS FALSE NEIGHBOUR: 'it returns false'. Refute it at one input. -/
def convAlikeWrong : ChangeSpec := { name := "convAlike", fn := fun _ => fun
  | [d1, d2, d3] => { results := [.lit (.bool false)], args := [d1, d2, d3] }
  | _ => none }
def ConvAlikeWrongFalsely : Prop := convAlikeRow.holds Tryd.pinned (OpenSpec.ofChange convAlikeWrong)

/-- 'trothlaw10.ConvTalks': WHATEVER THE INPUT: true; the input reads as it did. -/
def convTalksSpec : ChangeSpec := { name := "convTalks", fn := fun _ => fun
  | [d1, d2] => { results := [.lit (.bool true)], args := [d1, d2] }
  | _ => none }
def convTalksRow : OpenClaim := { program := "ytfhfbekphmnbgaadoor", sum := "7f883bea68052a13a92622c646b3381c72ec02e2fb693f5114c0b6219868bf7c", func := "troth/trothlaw10.ConvTalks", spec := "convTalks", named := ["troth/conv.meetings"], apart := false, laid := [("troth/conv.meetings", laid_troth_conv_meetings)] }
def ConvTalksSaid : Prop := convTalksRow.holds Tryd.pinned (OpenSpec.ofChange convTalksSpec)

/-- ITS FALSE NEIGHBOUR: 'it returns false'. Refute it at one input. -/
def convTalksWrong : ChangeSpec := { name := "convTalks", fn := fun _ => fun
  | [d1, d2] => { results := [.lit (.bool false)], args := [d1, d2] }
  | _ => none }
def ConvTalksWrongFalsely : Prop := convTalksRow.holds Tryd.pinned (OpenSpec.ofChange convTalksWrong)

/- THE SECOND FORM. 'bulk': how many values and letters a reading holds, each counted each time it is reached (what is shared counts as often as it is met; a slice's spare places count too). A statement '..UptoSaid' is the law's where the arguments, and the package variables that the reading takes, are together of bulk at most 1048576: NARROWER than '..Said'. Prove '..Said' where nothing that the law and all that it calls make is longer than what came in: it says more and counts as full. Else prove '..UptoSaid'. A law counts once. -/
mutual
def uptoBulk {H : Type} : DataW H → Nat
  | .lit (.string bytes) => bytes.length + 1
  | .lit _ => 1
  | .nil => 1
  | .ptr d => uptoBulk d + 1
  | .slice elems spare => uptoBulkAll elems + uptoBulkAll spare + 1
  | .agg parts => uptoBulkAll parts + 1
  | .iface _ d => uptoBulk d + 1
  | .map entries => uptoBulkEntries entries + 1
  | .held _ => 1
def uptoBulkAll {H : Type} : List (DataW H) → Nat
  | [] => 0
  | d :: r => uptoBulk d + uptoBulkAll r
def uptoBulkEntries {H : Type} : List (Lit × DataW H) → Nat
  | [] => 0
  | x :: r => uptoBulkEntry x + uptoBulkEntries r
def uptoBulkEntry {H : Type} : Lit × DataW H → Nat
  | (.string bytes, d) => bytes.length + uptoBulk d + 1
  | (_, d) => uptoBulk d + 1
 end
def uptoSmall : (H : Type) → List (DataW H) → Bool := fun _ ds => decide (uptoBulkAll ds ≤ 1048576)
def OpenSpec.upto (s : _root_.Go.ChangeSpec) : _root_.Go.OpenSpec := { _root_.Go.OpenSpec.ofChange s with cond := some uptoSmall }

/-- 'trothlaw10.ConvBegins', WHERE WHAT IT READS IS OF BULK AT MOST 1048576: true; the input reads as it did. -/
def convBeginsUptoRow : OpenClaim := { program := "ytfhfbekphmnbgaadoor", sum := "7f883bea68052a13a92622c646b3381c72ec02e2fb693f5114c0b6219868bf7c", func := "troth/trothlaw10.ConvBegins", spec := "convBegins", named := ["troth/conv.meetings"], apart := false, laid := [("troth/conv.meetings", laid_troth_conv_meetings)], narrowed := true }
def ConvBeginsUptoSaid : Prop := convBeginsUptoRow.holds Tryd.pinned (OpenSpec.upto convBeginsSpec)

/-- 'trothlaw10.ConvDoes', WHERE WHAT IT READS IS OF BULK AT MOST 1048576: true; the input reads as it did. -/
def convDoesUptoRow : OpenClaim := { program := "ytfhfbekphmnbgaadoor", sum := "7f883bea68052a13a92622c646b3381c72ec02e2fb693f5114c0b6219868bf7c", func := "troth/trothlaw10.ConvDoes", spec := "convDoes", named := ["troth/conv.meetings"], apart := false, laid := [("troth/conv.meetings", laid_troth_conv_meetings)], narrowed := true }
def ConvDoesUptoSaid : Prop := convDoesUptoRow.holds Tryd.pinned (OpenSpec.upto convDoesSpec)

/-- 'trothlaw10.ConvPlays', WHERE WHAT IT READS IS OF BULK AT MOST 1048576: true; the input reads as it did. -/
def convPlaysUptoRow : OpenClaim := { program := "ytfhfbekphmnbgaadoor", sum := "7f883bea68052a13a92622c646b3381c72ec02e2fb693f5114c0b6219868bf7c", func := "troth/trothlaw10.ConvPlays", spec := "convPlays", named := ["troth/conv.meetings"], apart := false, laid := [("troth/conv.meetings", laid_troth_conv_meetings)], narrowed := true }
def ConvPlaysUptoSaid : Prop := convPlaysUptoRow.holds Tryd.pinned (OpenSpec.upto convPlaysSpec)

/-- 'trothlaw10.ConvHalf', WHERE WHAT IT READS IS OF BULK AT MOST 1048576: true; the input reads as it did. -/
def convHalfUptoRow : OpenClaim := { program := "ytfhfbekphmnbgaadoor", sum := "7f883bea68052a13a92622c646b3381c72ec02e2fb693f5114c0b6219868bf7c", func := "troth/trothlaw10.ConvHalf", spec := "convHalf", named := ["troth/conv.meetings"], apart := false, laid := [("troth/conv.meetings", laid_troth_conv_meetings)], narrowed := true }
def ConvHalfUptoSaid : Prop := convHalfUptoRow.holds Tryd.pinned (OpenSpec.upto convHalfSpec)

/-- 'trothlaw10.ConvCanEnd', WHERE WHAT IT READS IS OF BULK AT MOST 1048576: true; the input reads as it did. -/
def convCanEndUptoRow : OpenClaim := { program := "ytfhfbekphmnbgaadoor", sum := "7f883bea68052a13a92622c646b3381c72ec02e2fb693f5114c0b6219868bf7c", func := "troth/trothlaw10.ConvCanEnd", spec := "convCanEnd", named := ["troth/conv.meetings"], apart := false, laid := [("troth/conv.meetings", laid_troth_conv_meetings)], narrowed := true }
def ConvCanEndUptoSaid : Prop := convCanEndUptoRow.holds Tryd.pinned (OpenSpec.upto convCanEndSpec)

/-- 'trothlaw10.ConvSyncs', WHERE WHAT IT READS IS OF BULK AT MOST 1048576: true; the input reads as it did. -/
def convSyncsUptoRow : OpenClaim := { program := "ytfhfbekphmnbgaadoor", sum := "7f883bea68052a13a92622c646b3381c72ec02e2fb693f5114c0b6219868bf7c", func := "troth/trothlaw10.ConvSyncs", spec := "convSyncs", named := ["troth/conv.meetings"], apart := false, laid := [("troth/conv.meetings", laid_troth_conv_meetings)], narrowed := true }
def ConvSyncsUptoSaid : Prop := convSyncsUptoRow.holds Tryd.pinned (OpenSpec.upto convSyncsSpec)

/-- 'trothlaw10.ConvAlike', WHERE WHAT IT READS IS OF BULK AT MOST 1048576: true; the input reads as it did. -/
def convAlikeUptoRow : OpenClaim := { program := "ytfhfbekphmnbgaadoor", sum := "7f883bea68052a13a92622c646b3381c72ec02e2fb693f5114c0b6219868bf7c", func := "troth/trothlaw10.ConvAlike", spec := "convAlike", named := ["troth/conv.meetings"], apart := false, laid := [("troth/conv.meetings", laid_troth_conv_meetings)], narrowed := true }
def ConvAlikeUptoSaid : Prop := convAlikeUptoRow.holds Tryd.pinned (OpenSpec.upto convAlikeSpec)

/-- 'trothlaw10.ConvTalks', WHERE WHAT IT READS IS OF BULK AT MOST 1048576: true; the input reads as it did. -/
def convTalksUptoRow : OpenClaim := { program := "ytfhfbekphmnbgaadoor", sum := "7f883bea68052a13a92622c646b3381c72ec02e2fb693f5114c0b6219868bf7c", func := "troth/trothlaw10.ConvTalks", spec := "convTalks", named := ["troth/conv.meetings"], apart := false, laid := [("troth/conv.meetings", laid_troth_conv_meetings)], narrowed := true }
def ConvTalksUptoSaid : Prop := convTalksUptoRow.holds Tryd.pinned (OpenSpec.upto convTalksSpec)

end Rows
end Go.Proofs.YtfhfbekphmnbgaaDoor
