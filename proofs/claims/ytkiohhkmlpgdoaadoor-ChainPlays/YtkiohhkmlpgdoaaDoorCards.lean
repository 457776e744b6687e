/-
  DERIVED. GIVEN WITH THE SEED: THE CARDS: each row of YtkiohhkmlpgdoaaDoorRows.lean that lists a variable, with what it lists TIED to the program's text (the seventh form; the later family's looks); each row that meets fmt, with fmt's text TOLD by the authors' own Lean function (tested against real Go, not proved from fmt's source: count such statements apart). THE CARD IS WHAT COUNTS. Prove the row's statement (the work); the ties are given (YtkiohhkmlpgdoaaDoorTie.lean); close each card by the builder's one call (the guide's Derived/Test/ToyasCard.lean, 'card_holds'). Laid BY PROGRAM, IN A SANDBOX (cutbox-door.mjs). By AI agents, Wed Nov 11 2026. No macro, syntax, notation, axiom, sorry.
-/
import Derived.Test.YtkiohhkmlpgdoaaDoorRows
import GoSem.ClaimSeven
namespace Go.Proofs.YtkiohhkmlpgdoaaDoor
namespace Rows

/-- THE TIED CARD OF 'locketlaw12.ChainPlays'. -/
def chainPlaysCard : Claim7 := { stood := { row := chainPlaysRow, standIns := [], harness := (true, "607e3e66f653d3c09b41960612553d41bb3e3c156cb3da1c1a06b6deba2339b0"), looks := true }, kinds := [], alts := [], laidByText := true, laidKinds := [.data], laidTests := true, laidLooks := .later }
def ChainPlaysCardSaid : Prop := Claim7.holds Tryd.pinned (.plain (OpenSpec.ofChange chainPlaysSpec)) chainPlaysCard

/-- THE TIED CARD OF 'locketlaw12.ChainReal'. -/
def chainRealCard : Claim7 := { stood := { row := chainRealRow, standIns := [], harness := (true, "607e3e66f653d3c09b41960612553d41bb3e3c156cb3da1c1a06b6deba2339b0"), looks := true }, kinds := [], alts := [], laidByText := true, laidKinds := [.data], laidTests := true, laidLooks := .later }
def ChainRealCardSaid : Prop := Claim7.holds Tryd.pinned (.plain (OpenSpec.ofChange chainRealSpec)) chainRealCard

/-- THE TIED CARD OF 'locketlaw12.ChainForks'. -/
def chainForksCard : Claim7 := { stood := { row := chainForksRow, standIns := [], harness := (true, "607e3e66f653d3c09b41960612553d41bb3e3c156cb3da1c1a06b6deba2339b0"), looks := true }, kinds := [], alts := [], laidByText := true, laidKinds := [.data], laidTests := true, laidLooks := .later }
def ChainForksCardSaid : Prop := Claim7.holds Tryd.pinned (.plain (OpenSpec.ofChange chainForksSpec)) chainForksCard

/-- THE TIED CARD OF 'locketlaw12.ChainOwn'. -/
def chainOwnCard : Claim7 := { stood := { row := chainOwnRow, standIns := [], harness := (true, "607e3e66f653d3c09b41960612553d41bb3e3c156cb3da1c1a06b6deba2339b0"), looks := true }, kinds := [], alts := [], laidByText := true, laidKinds := [.data], laidTests := true, laidLooks := .later }
def ChainOwnCardSaid : Prop := Claim7.holds Tryd.pinned (.plain (OpenSpec.ofChange chainOwnSpec)) chainOwnCard

/-- THE TIED CARD OF 'locketlaw12.ChainGrows'. -/
def chainGrowsCard : Claim7 := { stood := { row := chainGrowsRow, standIns := [], harness := (true, "607e3e66f653d3c09b41960612553d41bb3e3c156cb3da1c1a06b6deba2339b0"), looks := true }, kinds := [], alts := [], laidByText := true, laidKinds := [.data], laidTests := true, laidLooks := .later }
def ChainGrowsCardSaid : Prop := Claim7.holds Tryd.pinned (.plain (OpenSpec.ofChange chainGrowsSpec)) chainGrowsCard

/-- THE TIED CARD OF 'locketlaw12.ChainFull'. -/
def chainFullCard : Claim7 := { stood := { row := chainFullRow, standIns := [], harness := (true, "607e3e66f653d3c09b41960612553d41bb3e3c156cb3da1c1a06b6deba2339b0"), looks := true }, kinds := [], alts := [], laidByText := true, laidKinds := [.data], laidTests := true, laidLooks := .later }
def ChainFullCardSaid : Prop := Claim7.holds Tryd.pinned (.plain (OpenSpec.ofChange chainFullSpec)) chainFullCard

/-- THE SECOND FORM's CARD OF 'locketlaw12.ChainPlays'. -/
def chainPlaysUptoCard : Claim7 := { stood := { row := chainPlaysUptoRow, standIns := [], harness := (true, "607e3e66f653d3c09b41960612553d41bb3e3c156cb3da1c1a06b6deba2339b0"), looks := true }, kinds := [], alts := [], laidByText := true, laidKinds := [.data], laidTests := true, laidLooks := .later }
def ChainPlaysUptoCardSaid : Prop := Claim7.holds Tryd.pinned (.plain (OpenSpec.upto chainPlaysSpec)) chainPlaysUptoCard

/-- THE SECOND FORM's CARD OF 'locketlaw12.ChainReal'. -/
def chainRealUptoCard : Claim7 := { stood := { row := chainRealUptoRow, standIns := [], harness := (true, "607e3e66f653d3c09b41960612553d41bb3e3c156cb3da1c1a06b6deba2339b0"), looks := true }, kinds := [], alts := [], laidByText := true, laidKinds := [.data], laidTests := true, laidLooks := .later }
def ChainRealUptoCardSaid : Prop := Claim7.holds Tryd.pinned (.plain (OpenSpec.upto chainRealSpec)) chainRealUptoCard

/-- THE SECOND FORM's CARD OF 'locketlaw12.ChainForks'. -/
def chainForksUptoCard : Claim7 := { stood := { row := chainForksUptoRow, standIns := [], harness := (true, "607e3e66f653d3c09b41960612553d41bb3e3c156cb3da1c1a06b6deba2339b0"), looks := true }, kinds := [], alts := [], laidByText := true, laidKinds := [.data], laidTests := true, laidLooks := .later }
def ChainForksUptoCardSaid : Prop := Claim7.holds Tryd.pinned (.plain (OpenSpec.upto chainForksSpec)) chainForksUptoCard

/-- THE SECOND FORM's CARD OF 'locketlaw12.ChainOwn'. -/
def chainOwnUptoCard : Claim7 := { stood := { row := chainOwnUptoRow, standIns := [], harness := (true, "607e3e66f653d3c09b41960612553d41bb3e3c156cb3da1c1a06b6deba2339b0"), looks := true }, kinds := [], alts := [], laidByText := true, laidKinds := [.data], laidTests := true, laidLooks := .later }
def ChainOwnUptoCardSaid : Prop := Claim7.holds Tryd.pinned (.plain (OpenSpec.upto chainOwnSpec)) chainOwnUptoCard

/-- THE SECOND FORM's CARD OF 'locketlaw12.ChainGrows'. -/
def chainGrowsUptoCard : Claim7 := { stood := { row := chainGrowsUptoRow, standIns := [], harness := (true, "607e3e66f653d3c09b41960612553d41bb3e3c156cb3da1c1a06b6deba2339b0"), looks := true }, kinds := [], alts := [], laidByText := true, laidKinds := [.data], laidTests := true, laidLooks := .later }
def ChainGrowsUptoCardSaid : Prop := Claim7.holds Tryd.pinned (.plain (OpenSpec.upto chainGrowsSpec)) chainGrowsUptoCard

/-- THE SECOND FORM's CARD OF 'locketlaw12.ChainFull'. -/
def chainFullUptoCard : Claim7 := { stood := { row := chainFullUptoRow, standIns := [], harness := (true, "607e3e66f653d3c09b41960612553d41bb3e3c156cb3da1c1a06b6deba2339b0"), looks := true }, kinds := [], alts := [], laidByText := true, laidKinds := [.data], laidTests := true, laidLooks := .later }
def ChainFullUptoCardSaid : Prop := Claim7.holds Tryd.pinned (.plain (OpenSpec.upto chainFullSpec)) chainFullUptoCard
end Rows
end Go.Proofs.YtkiohhkmlpgdoaaDoor
