/-
  DERIVED. GIVEN WITH THE SEED: THE CARDS: each row of YtfhfbekphmnbgaaDoorRows.lean that lists a variable, with what it lists TIED to the program's text (the seventh form; the later family's looks); each row that meets fmt, with fmt's text TOLD by the authors' own Lean function (tested against real Go, not proved from fmt's source: count such statements apart). THE CARD IS WHAT COUNTS. Prove the row's statement (the work); the ties are given (YtfhfbekphmnbgaaDoorTie.lean); close each card by the builder's one call (the guide's Derived/Test/ToyasCard.lean, 'card_holds'). Laid BY PROGRAM, IN A SANDBOX (cutbox-door.mjs). By AI agents, Wed Nov 11 2026. No macro, syntax, notation, axiom, sorry.
-/
import Derived.Test.YtfhfbekphmnbgaaDoorRows
import GoSem.ClaimSeven
namespace Go.Proofs.YtfhfbekphmnbgaaDoor
namespace Rows

/-- THE TIED CARD OF 'trothlaw10.ConvBegins'. -/
def convBeginsCard : Claim7 := { stood := { row := convBeginsRow, standIns := [], harness := (true, "53f9bff90b2e4e7a21d38ed4cd04d4530d9d0728bfa1007bdc23dfe420acde9b"), looks := false }, kinds := [], alts := [], laidByText := true, laidKinds := [.data], laidTests := true, laidLooks := .later }
def ConvBeginsCardSaid : Prop := Claim7.holds Tryd.pinned (.plain (OpenSpec.ofChange convBeginsSpec)) convBeginsCard

/-- THE TIED CARD OF 'trothlaw10.ConvDoes'. -/
def convDoesCard : Claim7 := { stood := { row := convDoesRow, standIns := [], harness := (true, "53f9bff90b2e4e7a21d38ed4cd04d4530d9d0728bfa1007bdc23dfe420acde9b"), looks := false }, kinds := [], alts := [], laidByText := true, laidKinds := [.data], laidTests := true, laidLooks := .later }
def ConvDoesCardSaid : Prop := Claim7.holds Tryd.pinned (.plain (OpenSpec.ofChange convDoesSpec)) convDoesCard

/-- THE TIED CARD OF 'trothlaw10.ConvPlays'. -/
def convPlaysCard : Claim7 := { stood := { row := convPlaysRow, standIns := [], harness := (true, "53f9bff90b2e4e7a21d38ed4cd04d4530d9d0728bfa1007bdc23dfe420acde9b"), looks := false }, kinds := [], alts := [], laidByText := true, laidKinds := [.data], laidTests := true, laidLooks := .later }
def ConvPlaysCardSaid : Prop := Claim7.holds Tryd.pinned (.plain (OpenSpec.ofChange convPlaysSpec)) convPlaysCard

/-- THE TIED CARD OF 'trothlaw10.ConvHalf'. -/
def convHalfCard : Claim7 := { stood := { row := convHalfRow, standIns := [], harness := (true, "53f9bff90b2e4e7a21d38ed4cd04d4530d9d0728bfa1007bdc23dfe420acde9b"), looks := false }, kinds := [], alts := [], laidByText := true, laidKinds := [.data], laidTests := true, laidLooks := .later }
def ConvHalfCardSaid : Prop := Claim7.holds Tryd.pinned (.plain (OpenSpec.ofChange convHalfSpec)) convHalfCard

/-- THE TIED CARD OF 'trothlaw10.ConvCanEnd'. -/
def convCanEndCard : Claim7 := { stood := { row := convCanEndRow, standIns := [], harness := (true, "53f9bff90b2e4e7a21d38ed4cd04d4530d9d0728bfa1007bdc23dfe420acde9b"), looks := false }, kinds := [], alts := [], laidByText := true, laidKinds := [.data], laidTests := true, laidLooks := .later }
def ConvCanEndCardSaid : Prop := Claim7.holds Tryd.pinned (.plain (OpenSpec.ofChange convCanEndSpec)) convCanEndCard

/-- THE TIED CARD OF 'trothlaw10.ConvSyncs'. -/
def convSyncsCard : Claim7 := { stood := { row := convSyncsRow, standIns := [], harness := (true, "53f9bff90b2e4e7a21d38ed4cd04d4530d9d0728bfa1007bdc23dfe420acde9b"), looks := false }, kinds := [], alts := [], laidByText := true, laidKinds := [.data], laidTests := true, laidLooks := .later }
def ConvSyncsCardSaid : Prop := Claim7.holds Tryd.pinned (.plain (OpenSpec.ofChange convSyncsSpec)) convSyncsCard

/-- THE TIED CARD OF 'trothlaw10.ConvAlike'. -/
def convAlikeCard : Claim7 := { stood := { row := convAlikeRow, standIns := [], harness := (true, "53f9bff90b2e4e7a21d38ed4cd04d4530d9d0728bfa1007bdc23dfe420acde9b"), looks := false }, kinds := [], alts := [], laidByText := true, laidKinds := [.data], laidTests := true, laidLooks := .later }
def ConvAlikeCardSaid : Prop := Claim7.holds Tryd.pinned (.plain (OpenSpec.ofChange convAlikeSpec)) convAlikeCard

/-- THE TIED CARD OF 'trothlaw10.ConvTalks'. -/
def convTalksCard : Claim7 := { stood := { row := convTalksRow, standIns := [], harness := (true, "53f9bff90b2e4e7a21d38ed4cd04d4530d9d0728bfa1007bdc23dfe420acde9b"), looks := false }, kinds := [], alts := [], laidByText := true, laidKinds := [.data], laidTests := true, laidLooks := .later }
def ConvTalksCardSaid : Prop := Claim7.holds Tryd.pinned (.plain (OpenSpec.ofChange convTalksSpec)) convTalksCard

/-- THE SECOND FORM's CARD OF 'trothlaw10.ConvBegins'. -/
def convBeginsUptoCard : Claim7 := { stood := { row := convBeginsUptoRow, standIns := [], harness := (true, "53f9bff90b2e4e7a21d38ed4cd04d4530d9d0728bfa1007bdc23dfe420acde9b"), looks := false }, kinds := [], alts := [], laidByText := true, laidKinds := [.data], laidTests := true, laidLooks := .later }
def ConvBeginsUptoCardSaid : Prop := Claim7.holds Tryd.pinned (.plain (OpenSpec.upto convBeginsSpec)) convBeginsUptoCard

/-- THE SECOND FORM's CARD OF 'trothlaw10.ConvDoes'. -/
def convDoesUptoCard : Claim7 := { stood := { row := convDoesUptoRow, standIns := [], harness := (true, "53f9bff90b2e4e7a21d38ed4cd04d4530d9d0728bfa1007bdc23dfe420acde9b"), looks := false }, kinds := [], alts := [], laidByText := true, laidKinds := [.data], laidTests := true, laidLooks := .later }
def ConvDoesUptoCardSaid : Prop := Claim7.holds Tryd.pinned (.plain (OpenSpec.upto convDoesSpec)) convDoesUptoCard

/-- THE SECOND FORM's CARD OF 'trothlaw10.ConvPlays'. -/
def convPlaysUptoCard : Claim7 := { stood := { row := convPlaysUptoRow, standIns := [], harness := (true, "53f9bff90b2e4e7a21d38ed4cd04d4530d9d0728bfa1007bdc23dfe420acde9b"), looks := false }, kinds := [], alts := [], laidByText := true, laidKinds := [.data], laidTests := true, laidLooks := .later }
def ConvPlaysUptoCardSaid : Prop := Claim7.holds Tryd.pinned (.plain (OpenSpec.upto convPlaysSpec)) convPlaysUptoCard

/-- THE SECOND FORM's CARD OF 'trothlaw10.ConvHalf'. -/
def convHalfUptoCard : Claim7 := { stood := { row := convHalfUptoRow, standIns := [], harness := (true, "53f9bff90b2e4e7a21d38ed4cd04d4530d9d0728bfa1007bdc23dfe420acde9b"), looks := false }, kinds := [], alts := [], laidByText := true, laidKinds := [.data], laidTests := true, laidLooks := .later }
def ConvHalfUptoCardSaid : Prop := Claim7.holds Tryd.pinned (.plain (OpenSpec.upto convHalfSpec)) convHalfUptoCard

/-- THE SECOND FORM's CARD OF 'trothlaw10.ConvCanEnd'. -/
def convCanEndUptoCard : Claim7 := { stood := { row := convCanEndUptoRow, standIns := [], harness := (true, "53f9bff90b2e4e7a21d38ed4cd04d4530d9d0728bfa1007bdc23dfe420acde9b"), looks := false }, kinds := [], alts := [], laidByText := true, laidKinds := [.data], laidTests := true, laidLooks := .later }
def ConvCanEndUptoCardSaid : Prop := Claim7.holds Tryd.pinned (.plain (OpenSpec.upto convCanEndSpec)) convCanEndUptoCard

/-- THE SECOND FORM's CARD OF 'trothlaw10.ConvSyncs'. -/
def convSyncsUptoCard : Claim7 := { stood := { row := convSyncsUptoRow, standIns := [], harness := (true, "53f9bff90b2e4e7a21d38ed4cd04d4530d9d0728bfa1007bdc23dfe420acde9b"), looks := false }, kinds := [], alts := [], laidByText := true, laidKinds := [.data], laidTests := true, laidLooks := .later }
def ConvSyncsUptoCardSaid : Prop := Claim7.holds Tryd.pinned (.plain (OpenSpec.upto convSyncsSpec)) convSyncsUptoCard

/-- THE SECOND FORM's CARD OF 'trothlaw10.ConvAlike'. -/
def convAlikeUptoCard : Claim7 := { stood := { row := convAlikeUptoRow, standIns := [], harness := (true, "53f9bff90b2e4e7a21d38ed4cd04d4530d9d0728bfa1007bdc23dfe420acde9b"), looks := false }, kinds := [], alts := [], laidByText := true, laidKinds := [.data], laidTests := true, laidLooks := .later }
def ConvAlikeUptoCardSaid : Prop := Claim7.holds Tryd.pinned (.plain (OpenSpec.upto convAlikeSpec)) convAlikeUptoCard

/-- THE SECOND FORM's CARD OF 'trothlaw10.ConvTalks'. -/
def convTalksUptoCard : Claim7 := { stood := { row := convTalksUptoRow, standIns := [], harness := (true, "53f9bff90b2e4e7a21d38ed4cd04d4530d9d0728bfa1007bdc23dfe420acde9b"), looks := false }, kinds := [], alts := [], laidByText := true, laidKinds := [.data], laidTests := true, laidLooks := .later }
def ConvTalksUptoCardSaid : Prop := Claim7.holds Tryd.pinned (.plain (OpenSpec.upto convTalksSpec)) convTalksUptoCard
end Rows
end Go.Proofs.YtfhfbekphmnbgaaDoor
