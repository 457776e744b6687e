/-
  DERIVED. GIVEN WITH THE SEED: THE CARDS: each row of YtfjdaafckiefdaaGreatDoorRows.lean that lists a variable, with what it lists TIED to the program's text (the seventh form; the later family's looks); each row that meets fmt, with fmt's text TOLD by the authors' own Lean function (tested against real Go, not proved from fmt's source: count such statements apart). THE CARD IS WHAT COUNTS. Prove the row's statement (the work); the ties are given (YtfjdaafckiefdaaGreatDoorTie.lean); close each card by the builder's one call (the guide's Derived/Test/ToyasCard.lean, 'card_holds'). Laid BY PROGRAM, IN A SANDBOX (cutbox-door.mjs). By AI agents, Wed Nov 11 2026. No macro, syntax, notation, axiom, sorry.
-/
import Derived.Test.YtfjdaafckiefdaaGreatDoorRows
import GoSem.ClaimSeven
namespace Go.Proofs.YtfjdaafckiefdaaGreatDoor
namespace Rows

/-- THE TIED CARD OF 'locketlaw15.SealedEncodes'. -/
def sealedEncodesCard : Claim7 := { stood := { row := sealedEncodesRow, standIns := [], harness := (true, "8386959c4b06da1552466aa8f9a2672e11b70765a5ebcd4c4095bc6d77e3d3ae"), looks := true }, kinds := [], alts := [], laidByText := true, laidKinds := [.data], laidTests := true, laidLooks := .later }
def SealedEncodesCardSaid : Prop := Claim7.holds Tryz.pinned (.plain (OpenSpec.ofChange sealedEncodesSpec)) sealedEncodesCard

/-- THE TIED CARD OF 'locketlaw15.SealedDecodes'. -/
def sealedDecodesCard : Claim7 := { stood := { row := sealedDecodesRow, standIns := [], harness := (true, "8386959c4b06da1552466aa8f9a2672e11b70765a5ebcd4c4095bc6d77e3d3ae"), looks := true }, kinds := [], alts := [], laidByText := true, laidKinds := [.data], laidTests := true, laidLooks := .later }
def SealedDecodesCardSaid : Prop := Claim7.holds Tryz.pinned (.plain (OpenSpec.ofChange sealedDecodesSpec)) sealedDecodesCard

/-- THE TIED CARD OF 'locketlaw15.SealedPlays'. -/
def sealedPlaysCard : Claim7 := { stood := { row := sealedPlaysRow, standIns := [], harness := (true, "8386959c4b06da1552466aa8f9a2672e11b70765a5ebcd4c4095bc6d77e3d3ae"), looks := true }, kinds := [], alts := [], laidByText := true, laidKinds := [.data], laidTests := true, laidLooks := .later }
def SealedPlaysCardSaid : Prop := Claim7.holds Tryz.pinned (.plain (OpenSpec.ofChange sealedPlaysSpec)) sealedPlaysCard

/-- THE TIED CARD OF 'locketlaw15.SealedHides'. -/
def sealedHidesCard : Claim7 := { stood := { row := sealedHidesRow, standIns := [], harness := (true, "8386959c4b06da1552466aa8f9a2672e11b70765a5ebcd4c4095bc6d77e3d3ae"), looks := true }, kinds := [], alts := [], laidByText := true, laidKinds := [.data], laidTests := true, laidLooks := .later }
def SealedHidesCardSaid : Prop := Claim7.holds Tryz.pinned (.plain (OpenSpec.ofChange sealedHidesSpec)) sealedHidesCard

/-- THE TIED CARD OF 'locketlaw15.SealedMarks'. -/
def sealedMarksCard : Claim7 := { stood := { row := sealedMarksRow, standIns := [], harness := (true, "8386959c4b06da1552466aa8f9a2672e11b70765a5ebcd4c4095bc6d77e3d3ae"), looks := true }, kinds := [], alts := [], laidByText := true, laidKinds := [.data], laidTests := true, laidLooks := .later }
def SealedMarksCardSaid : Prop := Claim7.holds Tryz.pinned (.plain (OpenSpec.ofChange sealedMarksSpec)) sealedMarksCard

/-- THE TIED CARD OF 'locketlaw15.SealedReal'. -/
def sealedRealCard : Claim7 := { stood := { row := sealedRealRow, standIns := [], harness := (true, "8386959c4b06da1552466aa8f9a2672e11b70765a5ebcd4c4095bc6d77e3d3ae"), looks := true }, kinds := [], alts := [], laidByText := true, laidKinds := [.data], laidTests := true, laidLooks := .later }
def SealedRealCardSaid : Prop := Claim7.holds Tryz.pinned (.plain (OpenSpec.ofChange sealedRealSpec)) sealedRealCard

/-- THE SECOND FORM's CARD OF 'locketlaw15.SealedEncodes'. -/
def sealedEncodesUptoCard : Claim7 := { stood := { row := sealedEncodesUptoRow, standIns := [], harness := (true, "8386959c4b06da1552466aa8f9a2672e11b70765a5ebcd4c4095bc6d77e3d3ae"), looks := true }, kinds := [], alts := [], laidByText := true, laidKinds := [.data], laidTests := true, laidLooks := .later }
def SealedEncodesUptoCardSaid : Prop := Claim7.holds Tryz.pinned (.plain (OpenSpec.upto sealedEncodesSpec)) sealedEncodesUptoCard

/-- THE SECOND FORM's CARD OF 'locketlaw15.SealedDecodes'. -/
def sealedDecodesUptoCard : Claim7 := { stood := { row := sealedDecodesUptoRow, standIns := [], harness := (true, "8386959c4b06da1552466aa8f9a2672e11b70765a5ebcd4c4095bc6d77e3d3ae"), looks := true }, kinds := [], alts := [], laidByText := true, laidKinds := [.data], laidTests := true, laidLooks := .later }
def SealedDecodesUptoCardSaid : Prop := Claim7.holds Tryz.pinned (.plain (OpenSpec.upto sealedDecodesSpec)) sealedDecodesUptoCard

/-- THE SECOND FORM's CARD OF 'locketlaw15.SealedPlays'. -/
def sealedPlaysUptoCard : Claim7 := { stood := { row := sealedPlaysUptoRow, standIns := [], harness := (true, "8386959c4b06da1552466aa8f9a2672e11b70765a5ebcd4c4095bc6d77e3d3ae"), looks := true }, kinds := [], alts := [], laidByText := true, laidKinds := [.data], laidTests := true, laidLooks := .later }
def SealedPlaysUptoCardSaid : Prop := Claim7.holds Tryz.pinned (.plain (OpenSpec.upto sealedPlaysSpec)) sealedPlaysUptoCard

/-- THE SECOND FORM's CARD OF 'locketlaw15.SealedHides'. -/
def sealedHidesUptoCard : Claim7 := { stood := { row := sealedHidesUptoRow, standIns := [], harness := (true, "8386959c4b06da1552466aa8f9a2672e11b70765a5ebcd4c4095bc6d77e3d3ae"), looks := true }, kinds := [], alts := [], laidByText := true, laidKinds := [.data], laidTests := true, laidLooks := .later }
def SealedHidesUptoCardSaid : Prop := Claim7.holds Tryz.pinned (.plain (OpenSpec.upto sealedHidesSpec)) sealedHidesUptoCard

/-- THE SECOND FORM's CARD OF 'locketlaw15.SealedMarks'. -/
def sealedMarksUptoCard : Claim7 := { stood := { row := sealedMarksUptoRow, standIns := [], harness := (true, "8386959c4b06da1552466aa8f9a2672e11b70765a5ebcd4c4095bc6d77e3d3ae"), looks := true }, kinds := [], alts := [], laidByText := true, laidKinds := [.data], laidTests := true, laidLooks := .later }
def SealedMarksUptoCardSaid : Prop := Claim7.holds Tryz.pinned (.plain (OpenSpec.upto sealedMarksSpec)) sealedMarksUptoCard

/-- THE SECOND FORM's CARD OF 'locketlaw15.SealedReal'. -/
def sealedRealUptoCard : Claim7 := { stood := { row := sealedRealUptoRow, standIns := [], harness := (true, "8386959c4b06da1552466aa8f9a2672e11b70765a5ebcd4c4095bc6d77e3d3ae"), looks := true }, kinds := [], alts := [], laidByText := true, laidKinds := [.data], laidTests := true, laidLooks := .later }
def SealedRealUptoCardSaid : Prop := Claim7.holds Tryz.pinned (.plain (OpenSpec.upto sealedRealSpec)) sealedRealUptoCard
end Rows
end Go.Proofs.YtfjdaafckiefdaaGreatDoor
