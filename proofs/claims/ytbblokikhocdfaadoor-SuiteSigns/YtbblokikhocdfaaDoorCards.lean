/-
  DERIVED. GIVEN WITH THE SEED: THE CARDS: each row of YtbblokikhocdfaaDoorRows.lean that lists a variable, with what it lists TIED to the program's text (the seventh form; the later family's looks); each row that meets fmt, with fmt's text TOLD by the authors' own Lean function (tested against real Go, not proved from fmt's source: count such statements apart). THE CARD IS WHAT COUNTS. Prove the row's statement (the work); the ties are given (YtbblokikhocdfaaDoorTie.lean); close each card by the builder's one call (the guide's Derived/Test/ToyasCard.lean, 'card_holds'). Laid BY PROGRAM, IN A SANDBOX (cutbox-door.mjs). By AI agents, Wed Nov 11 2026. No macro, syntax, notation, axiom, sorry.
-/
import Derived.Test.YtbblokikhocdfaaDoorRows
import GoSem.ClaimSeven
namespace Go.Proofs.YtbblokikhocdfaaDoor
namespace Rows

/-- THE TIED CARD OF 'locketlaw07.SuiteSigns'. -/
def suiteSignsCard : Claim7 := { stood := { row := suiteSignsRow, standIns := [], harness := (true, "5e6139c62498bc60345357d0efa3ccd6acd3c8232b8d52afa1d1135c85890d22"), looks := false }, kinds := [], alts := [], laidByText := true, laidKinds := [.data], laidTests := true, laidLooks := .later }
def SuiteSignsCardSaid : Prop := Claim7.holds Tryd.pinned (.plain (OpenSpec.ofChange suiteSignsSpec)) suiteSignsCard

/-- THE TIED CARD OF 'locketlaw07.SuiteReal'. -/
def suiteRealCard : Claim7 := { stood := { row := suiteRealRow, standIns := [], harness := (true, "5e6139c62498bc60345357d0efa3ccd6acd3c8232b8d52afa1d1135c85890d22"), looks := false }, kinds := [], alts := [], laidByText := true, laidKinds := [.data], laidTests := true, laidLooks := .later }
def SuiteRealCardSaid : Prop := Claim7.holds Tryd.pinned (.plain (OpenSpec.ofChange suiteRealSpec)) suiteRealCard

/-- THE TIED CARD OF 'locketlaw07.SuiteApart'. -/
def suiteApartCard : Claim7 := { stood := { row := suiteApartRow, standIns := [], harness := (true, "5e6139c62498bc60345357d0efa3ccd6acd3c8232b8d52afa1d1135c85890d22"), looks := false }, kinds := [], alts := [], laidByText := true, laidKinds := [.data], laidTests := true, laidLooks := .later }
def SuiteApartCardSaid : Prop := Claim7.holds Tryd.pinned (.plain (OpenSpec.ofChange suiteApartSpec)) suiteApartCard

/-- THE TIED CARD OF 'locketlaw07.SuiteHides'. -/
def suiteHidesCard : Claim7 := { stood := { row := suiteHidesRow, standIns := [], harness := (true, "5e6139c62498bc60345357d0efa3ccd6acd3c8232b8d52afa1d1135c85890d22"), looks := false }, kinds := [], alts := [], laidByText := true, laidKinds := [.data], laidTests := true, laidLooks := .later }
def SuiteHidesCardSaid : Prop := Claim7.holds Tryd.pinned (.plain (OpenSpec.ofChange suiteHidesSpec)) suiteHidesCard

/-- THE TIED CARD OF 'locketlaw07.SuiteOpens'. -/
def suiteOpensCard : Claim7 := { stood := { row := suiteOpensRow, standIns := [], harness := (true, "5e6139c62498bc60345357d0efa3ccd6acd3c8232b8d52afa1d1135c85890d22"), looks := false }, kinds := [], alts := [], laidByText := true, laidKinds := [.data], laidTests := true, laidLooks := .later }
def SuiteOpensCardSaid : Prop := Claim7.holds Tryd.pinned (.plain (OpenSpec.ofChange suiteOpensSpec)) suiteOpensCard

/-- THE TIED CARD OF 'locketlaw07.SuiteOnce'. -/
def suiteOnceCard : Claim7 := { stood := { row := suiteOnceRow, standIns := [], harness := (true, "5e6139c62498bc60345357d0efa3ccd6acd3c8232b8d52afa1d1135c85890d22"), looks := false }, kinds := [], alts := [], laidByText := true, laidKinds := [.data], laidTests := true, laidLooks := .later }
def SuiteOnceCardSaid : Prop := Claim7.holds Tryd.pinned (.plain (OpenSpec.ofChange suiteOnceSpec)) suiteOnceCard

/-- THE TIED CARD OF 'locketlaw07.SuiteTwo'. -/
def suiteTwoCard : Claim7 := { stood := { row := suiteTwoRow, standIns := [], harness := (true, "5e6139c62498bc60345357d0efa3ccd6acd3c8232b8d52afa1d1135c85890d22"), looks := false }, kinds := [], alts := [], laidByText := true, laidKinds := [.data], laidTests := true, laidLooks := .later }
def SuiteTwoCardSaid : Prop := Claim7.holds Tryd.pinned (.plain (OpenSpec.ofChange suiteTwoSpec)) suiteTwoCard

/-- THE SECOND FORM's CARD OF 'locketlaw07.SuiteSigns'. -/
def suiteSignsUptoCard : Claim7 := { stood := { row := suiteSignsUptoRow, standIns := [], harness := (true, "5e6139c62498bc60345357d0efa3ccd6acd3c8232b8d52afa1d1135c85890d22"), looks := false }, kinds := [], alts := [], laidByText := true, laidKinds := [.data], laidTests := true, laidLooks := .later }
def SuiteSignsUptoCardSaid : Prop := Claim7.holds Tryd.pinned (.plain (OpenSpec.upto suiteSignsSpec)) suiteSignsUptoCard

/-- THE SECOND FORM's CARD OF 'locketlaw07.SuiteReal'. -/
def suiteRealUptoCard : Claim7 := { stood := { row := suiteRealUptoRow, standIns := [], harness := (true, "5e6139c62498bc60345357d0efa3ccd6acd3c8232b8d52afa1d1135c85890d22"), looks := false }, kinds := [], alts := [], laidByText := true, laidKinds := [.data], laidTests := true, laidLooks := .later }
def SuiteRealUptoCardSaid : Prop := Claim7.holds Tryd.pinned (.plain (OpenSpec.upto suiteRealSpec)) suiteRealUptoCard

/-- THE SECOND FORM's CARD OF 'locketlaw07.SuiteApart'. -/
def suiteApartUptoCard : Claim7 := { stood := { row := suiteApartUptoRow, standIns := [], harness := (true, "5e6139c62498bc60345357d0efa3ccd6acd3c8232b8d52afa1d1135c85890d22"), looks := false }, kinds := [], alts := [], laidByText := true, laidKinds := [.data], laidTests := true, laidLooks := .later }
def SuiteApartUptoCardSaid : Prop := Claim7.holds Tryd.pinned (.plain (OpenSpec.upto suiteApartSpec)) suiteApartUptoCard

/-- THE SECOND FORM's CARD OF 'locketlaw07.SuiteHides'. -/
def suiteHidesUptoCard : Claim7 := { stood := { row := suiteHidesUptoRow, standIns := [], harness := (true, "5e6139c62498bc60345357d0efa3ccd6acd3c8232b8d52afa1d1135c85890d22"), looks := false }, kinds := [], alts := [], laidByText := true, laidKinds := [.data], laidTests := true, laidLooks := .later }
def SuiteHidesUptoCardSaid : Prop := Claim7.holds Tryd.pinned (.plain (OpenSpec.upto suiteHidesSpec)) suiteHidesUptoCard

/-- THE SECOND FORM's CARD OF 'locketlaw07.SuiteOpens'. -/
def suiteOpensUptoCard : Claim7 := { stood := { row := suiteOpensUptoRow, standIns := [], harness := (true, "5e6139c62498bc60345357d0efa3ccd6acd3c8232b8d52afa1d1135c85890d22"), looks := false }, kinds := [], alts := [], laidByText := true, laidKinds := [.data], laidTests := true, laidLooks := .later }
def SuiteOpensUptoCardSaid : Prop := Claim7.holds Tryd.pinned (.plain (OpenSpec.upto suiteOpensSpec)) suiteOpensUptoCard

/-- THE SECOND FORM's CARD OF 'locketlaw07.SuiteOnce'. -/
def suiteOnceUptoCard : Claim7 := { stood := { row := suiteOnceUptoRow, standIns := [], harness := (true, "5e6139c62498bc60345357d0efa3ccd6acd3c8232b8d52afa1d1135c85890d22"), looks := false }, kinds := [], alts := [], laidByText := true, laidKinds := [.data], laidTests := true, laidLooks := .later }
def SuiteOnceUptoCardSaid : Prop := Claim7.holds Tryd.pinned (.plain (OpenSpec.upto suiteOnceSpec)) suiteOnceUptoCard

/-- THE SECOND FORM's CARD OF 'locketlaw07.SuiteTwo'. -/
def suiteTwoUptoCard : Claim7 := { stood := { row := suiteTwoUptoRow, standIns := [], harness := (true, "5e6139c62498bc60345357d0efa3ccd6acd3c8232b8d52afa1d1135c85890d22"), looks := false }, kinds := [], alts := [], laidByText := true, laidKinds := [.data], laidTests := true, laidLooks := .later }
def SuiteTwoUptoCardSaid : Prop := Claim7.holds Tryd.pinned (.plain (OpenSpec.upto suiteTwoSpec)) suiteTwoUptoCard
end Rows
end Go.Proofs.YtbblokikhocdfaaDoor
