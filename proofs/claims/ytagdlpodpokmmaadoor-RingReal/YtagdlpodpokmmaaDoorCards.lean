/-
  DERIVED. GIVEN WITH THE SEED: THE CARDS: each row of YtagdlpodpokmmaaDoorRows.lean that lists a variable, with what it lists TIED to the program's text (the seventh form; the later family's looks); each row that meets fmt, with fmt's text TOLD by the authors' own Lean function (tested against real Go, not proved from fmt's source: count such statements apart). THE CARD IS WHAT COUNTS. Prove the row's statement (the work); the ties are given (YtagdlpodpokmmaaDoorTie.lean); close each card by the builder's one call (the guide's Derived/Test/ToyasCard.lean, 'card_holds'). Laid BY PROGRAM, IN A SANDBOX (cutbox-door.mjs). By AI agents, Wed Nov 11 2026. No macro, syntax, notation, axiom, sorry.
-/
import Derived.Test.YtagdlpodpokmmaaDoorRows
import GoSem.ClaimSeven
namespace Go.Proofs.YtagdlpodpokmmaaDoor
namespace Rows

/-- THE TIED CARD OF 'locketlaw14.RingReal'. -/
def ringRealCard : Claim7 := { stood := { row := ringRealRow, standIns := [], harness := (true, "1f0b80fd408a3bd0df9dbae9fec29faadb8ba6897efec90101bcd1c8e27f604f"), looks := true }, kinds := [], alts := [], laidByText := true, laidKinds := [.data], laidTests := true, laidLooks := .later }
def RingRealCardSaid : Prop := Claim7.holds Tryd.pinned (.plain (OpenSpec.ofChange ringRealSpec)) ringRealCard

/-- THE TIED CARD OF 'locketlaw14.RingNonces'. -/
def ringNoncesCard : Claim7 := { stood := { row := ringNoncesRow, standIns := [], harness := (true, "1f0b80fd408a3bd0df9dbae9fec29faadb8ba6897efec90101bcd1c8e27f604f"), looks := true }, kinds := [], alts := [], laidByText := true, laidKinds := [.data], laidTests := true, laidLooks := .later }
def RingNoncesCardSaid : Prop := Claim7.holds Tryd.pinned (.plain (OpenSpec.ofChange ringNoncesSpec)) ringNoncesCard

/-- THE TIED CARD OF 'locketlaw14.RingWraps'. -/
def ringWrapsCard : Claim7 := { stood := { row := ringWrapsRow, standIns := [], harness := (true, "1f0b80fd408a3bd0df9dbae9fec29faadb8ba6897efec90101bcd1c8e27f604f"), looks := true }, kinds := [], alts := [], laidByText := true, laidKinds := [.data], laidTests := true, laidLooks := .later }
def RingWrapsCardSaid : Prop := Claim7.holds Tryd.pinned (.plain (OpenSpec.ofChange ringWrapsSpec)) ringWrapsCard

/-- THE TIED CARD OF 'locketlaw14.RingLearns'. -/
def ringLearnsCard : Claim7 := { stood := { row := ringLearnsRow, standIns := [], harness := (true, "1f0b80fd408a3bd0df9dbae9fec29faadb8ba6897efec90101bcd1c8e27f604f"), looks := true }, kinds := [], alts := [], laidByText := true, laidKinds := [.data], laidTests := true, laidLooks := .later }
def RingLearnsCardSaid : Prop := Claim7.holds Tryd.pinned (.plain (OpenSpec.ofChange ringLearnsSpec)) ringLearnsCard

/-- THE TIED CARD OF 'locketlaw14.RingUses'. -/
def ringUsesCard : Claim7 := { stood := { row := ringUsesRow, standIns := [], harness := (true, "1f0b80fd408a3bd0df9dbae9fec29faadb8ba6897efec90101bcd1c8e27f604f"), looks := true }, kinds := [], alts := [], laidByText := true, laidKinds := [.data], laidTests := true, laidLooks := .later }
def RingUsesCardSaid : Prop := Claim7.holds Tryd.pinned (.plain (OpenSpec.ofChange ringUsesSpec)) ringUsesCard

/-- THE SECOND FORM's CARD OF 'locketlaw14.RingReal'. -/
def ringRealUptoCard : Claim7 := { stood := { row := ringRealUptoRow, standIns := [], harness := (true, "1f0b80fd408a3bd0df9dbae9fec29faadb8ba6897efec90101bcd1c8e27f604f"), looks := true }, kinds := [], alts := [], laidByText := true, laidKinds := [.data], laidTests := true, laidLooks := .later }
def RingRealUptoCardSaid : Prop := Claim7.holds Tryd.pinned (.plain (OpenSpec.upto ringRealSpec)) ringRealUptoCard

/-- THE SECOND FORM's CARD OF 'locketlaw14.RingNonces'. -/
def ringNoncesUptoCard : Claim7 := { stood := { row := ringNoncesUptoRow, standIns := [], harness := (true, "1f0b80fd408a3bd0df9dbae9fec29faadb8ba6897efec90101bcd1c8e27f604f"), looks := true }, kinds := [], alts := [], laidByText := true, laidKinds := [.data], laidTests := true, laidLooks := .later }
def RingNoncesUptoCardSaid : Prop := Claim7.holds Tryd.pinned (.plain (OpenSpec.upto ringNoncesSpec)) ringNoncesUptoCard

/-- THE SECOND FORM's CARD OF 'locketlaw14.RingWraps'. -/
def ringWrapsUptoCard : Claim7 := { stood := { row := ringWrapsUptoRow, standIns := [], harness := (true, "1f0b80fd408a3bd0df9dbae9fec29faadb8ba6897efec90101bcd1c8e27f604f"), looks := true }, kinds := [], alts := [], laidByText := true, laidKinds := [.data], laidTests := true, laidLooks := .later }
def RingWrapsUptoCardSaid : Prop := Claim7.holds Tryd.pinned (.plain (OpenSpec.upto ringWrapsSpec)) ringWrapsUptoCard

/-- THE SECOND FORM's CARD OF 'locketlaw14.RingLearns'. -/
def ringLearnsUptoCard : Claim7 := { stood := { row := ringLearnsUptoRow, standIns := [], harness := (true, "1f0b80fd408a3bd0df9dbae9fec29faadb8ba6897efec90101bcd1c8e27f604f"), looks := true }, kinds := [], alts := [], laidByText := true, laidKinds := [.data], laidTests := true, laidLooks := .later }
def RingLearnsUptoCardSaid : Prop := Claim7.holds Tryd.pinned (.plain (OpenSpec.upto ringLearnsSpec)) ringLearnsUptoCard

/-- THE SECOND FORM's CARD OF 'locketlaw14.RingUses'. -/
def ringUsesUptoCard : Claim7 := { stood := { row := ringUsesUptoRow, standIns := [], harness := (true, "1f0b80fd408a3bd0df9dbae9fec29faadb8ba6897efec90101bcd1c8e27f604f"), looks := true }, kinds := [], alts := [], laidByText := true, laidKinds := [.data], laidTests := true, laidLooks := .later }
def RingUsesUptoCardSaid : Prop := Claim7.holds Tryd.pinned (.plain (OpenSpec.upto ringUsesSpec)) ringUsesUptoCard
end Rows
end Go.Proofs.YtagdlpodpokmmaaDoor
