/-
  DERIVED. GIVEN WITH THE SEED: THE CARDS: each row of YtfjdaafckiefdabGreatDoorRows.lean that lists a variable, with what it lists TIED to the program's text (the seventh form; the later family's looks); each row that meets fmt, with fmt's text TOLD by the authors' own Lean function (tested against real Go, not proved from fmt's source: count such statements apart). THE CARD IS WHAT COUNTS. Prove the row's statement (the work); the ties are given (YtfjdaafckiefdabGreatDoorTie.lean); close each card by the builder's one call (the guide's Derived/Test/ToyasCard.lean, 'card_holds'). Laid BY PROGRAM, IN A SANDBOX (cutbox-door.mjs). By AI agents, Wed Nov 11 2026. No macro, syntax, notation, axiom, sorry.
-/
import Derived.Test.YtfjdaafckiefdabGreatDoorRows
import GoSem.ClaimSeven
namespace Go.Proofs.YtfjdaafckiefdabGreatDoor
namespace Rows

/-- THE TIED CARD OF 'locketlaw15.SealedCuts'. -/
def sealedCutsCard : Claim7 := { stood := { row := sealedCutsRow, standIns := [], harness := (true, "d4d225bc67b7a4d6dd972e31f75dbdee4d7a72513d000ed8eb30adc30eabfbb3"), looks := true }, kinds := [], alts := [], laidByText := true, laidKinds := [.data], laidTests := true, laidLooks := .later }
def SealedCutsCardSaid : Prop := Claim7.holds Tryz.pinned (.plain (OpenSpec.ofChange sealedCutsSpec)) sealedCutsCard

/-- THE SECOND FORM's CARD OF 'locketlaw15.SealedCuts'. -/
def sealedCutsUptoCard : Claim7 := { stood := { row := sealedCutsUptoRow, standIns := [], harness := (true, "d4d225bc67b7a4d6dd972e31f75dbdee4d7a72513d000ed8eb30adc30eabfbb3"), looks := true }, kinds := [], alts := [], laidByText := true, laidKinds := [.data], laidTests := true, laidLooks := .later }
def SealedCutsUptoCardSaid : Prop := Claim7.holds Tryz.pinned (.plain (OpenSpec.upto sealedCutsSpec)) sealedCutsUptoCard
end Rows
end Go.Proofs.YtfjdaafckiefdabGreatDoor
