/-
  DERIVED. GIVEN WITH THE SEED: THE CARDS: each row of YtkbgmppbkllnmaaDoorRows.lean that lists a variable, with what it lists TIED to the program's text (the seventh form; the later family's looks); each row that meets fmt, with fmt's text TOLD by the authors' own Lean function (tested against real Go, not proved from fmt's source: count such statements apart). THE CARD IS WHAT COUNTS. Prove the row's statement (the work); the ties are given (YtkbgmppbkllnmaaDoorTie.lean); close each card by the builder's one call (the guide's Derived/Test/ToyasCard.lean, 'card_holds'). Laid BY PROGRAM, IN A SANDBOX (cutbox-door.mjs). By AI agents, Wed Nov 11 2026. No macro, syntax, notation, axiom, sorry.
-/
import Derived.Test.YtkbgmppbkllnmaaDoorRows
import GoSem.ClaimSeven
namespace Go.Proofs.YtkbgmppbkllnmaaDoor
namespace Rows

/-- THE TIED CARD OF 'roebucklaw23.TrapEnters'. -/
def trapEntersCard : Claim7 := { stood := { row := trapEntersRow, standIns := [], harness := (true, "ae9bd532ffd39b25706aeb3b0a40ec14c905bdde4a0b7f6a85350b6a3a4b1f40"), looks := false }, kinds := [], alts := [], laidByText := true, laidKinds := [.data, .data], laidTests := true, laidLooks := .later }
def TrapEntersCardSaid : Prop := Claim7.holds Tryd.pinned (.plain (OpenSpec.ofChange trapEntersSpec)) trapEntersCard

/-- THE TIED CARD OF 'roebucklaw23.TrapBack'. -/
def trapBackCard : Claim7 := { stood := { row := trapBackRow, standIns := [], harness := (true, "ae9bd532ffd39b25706aeb3b0a40ec14c905bdde4a0b7f6a85350b6a3a4b1f40"), looks := false }, kinds := [], alts := [], laidByText := true, laidKinds := [.data, .data], laidTests := true, laidLooks := .later }
def TrapBackCardSaid : Prop := Claim7.holds Tryd.pinned (.plain (OpenSpec.ofChange trapBackSpec)) trapBackCard

/-- THE TIED CARD OF 'roebucklaw24.IrqNext'. -/
def irqNextCard : Claim7 := { stood := { row := irqNextRow, standIns := [], harness := (true, "ae9bd532ffd39b25706aeb3b0a40ec14c905bdde4a0b7f6a85350b6a3a4b1f40"), looks := false }, kinds := [], alts := [], laidByText := true, laidKinds := [.data, .data, .data], laidTests := true, laidLooks := .later }
def IrqNextCardSaid : Prop := Claim7.holds Tryd.pinned (.plain (OpenSpec.ofChange irqNextSpec)) irqNextCard

/-- THE TIED CARD OF 'roebucklaw24.IrqRises'. -/
def irqRisesCard : Claim7 := { stood := { row := irqRisesRow, standIns := [], harness := (true, "ae9bd532ffd39b25706aeb3b0a40ec14c905bdde4a0b7f6a85350b6a3a4b1f40"), looks := false }, kinds := [], alts := [], laidByText := true, laidKinds := [.data, .data, .data], laidTests := true, laidLooks := .later }
def IrqRisesCardSaid : Prop := Claim7.holds Tryd.pinned (.plain (OpenSpec.ofChange irqRisesSpec)) irqRisesCard

/-- THE TIED CARD OF 'roebucktop.TopApart'. -/
def topApartCard : Claim7 := { stood := { row := topApartRow, standIns := [], harness := (true, "ae9bd532ffd39b25706aeb3b0a40ec14c905bdde4a0b7f6a85350b6a3a4b1f40"), looks := false }, kinds := [], alts := [], laidByText := true, laidKinds := [.data, .data, .data], laidTests := true, laidLooks := .later }
def TopApartCardSaid : Prop := Claim7.holds Tryd.pinned (.plain (OpenSpec.ofChange topApartSpec)) topApartCard

/-- THE SECOND FORM's CARD OF 'roebucklaw23.TrapEnters'. -/
def trapEntersUptoCard : Claim7 := { stood := { row := trapEntersUptoRow, standIns := [], harness := (true, "ae9bd532ffd39b25706aeb3b0a40ec14c905bdde4a0b7f6a85350b6a3a4b1f40"), looks := false }, kinds := [], alts := [], laidByText := true, laidKinds := [.data, .data], laidTests := true, laidLooks := .later }
def TrapEntersUptoCardSaid : Prop := Claim7.holds Tryd.pinned (.plain (OpenSpec.upto trapEntersSpec)) trapEntersUptoCard

/-- THE SECOND FORM's CARD OF 'roebucklaw23.TrapBack'. -/
def trapBackUptoCard : Claim7 := { stood := { row := trapBackUptoRow, standIns := [], harness := (true, "ae9bd532ffd39b25706aeb3b0a40ec14c905bdde4a0b7f6a85350b6a3a4b1f40"), looks := false }, kinds := [], alts := [], laidByText := true, laidKinds := [.data, .data], laidTests := true, laidLooks := .later }
def TrapBackUptoCardSaid : Prop := Claim7.holds Tryd.pinned (.plain (OpenSpec.upto trapBackSpec)) trapBackUptoCard

/-- THE SECOND FORM's CARD OF 'roebucklaw24.IrqNext'. -/
def irqNextUptoCard : Claim7 := { stood := { row := irqNextUptoRow, standIns := [], harness := (true, "ae9bd532ffd39b25706aeb3b0a40ec14c905bdde4a0b7f6a85350b6a3a4b1f40"), looks := false }, kinds := [], alts := [], laidByText := true, laidKinds := [.data, .data, .data], laidTests := true, laidLooks := .later }
def IrqNextUptoCardSaid : Prop := Claim7.holds Tryd.pinned (.plain (OpenSpec.upto irqNextSpec)) irqNextUptoCard

/-- THE SECOND FORM's CARD OF 'roebucklaw24.IrqRises'. -/
def irqRisesUptoCard : Claim7 := { stood := { row := irqRisesUptoRow, standIns := [], harness := (true, "ae9bd532ffd39b25706aeb3b0a40ec14c905bdde4a0b7f6a85350b6a3a4b1f40"), looks := false }, kinds := [], alts := [], laidByText := true, laidKinds := [.data, .data, .data], laidTests := true, laidLooks := .later }
def IrqRisesUptoCardSaid : Prop := Claim7.holds Tryd.pinned (.plain (OpenSpec.upto irqRisesSpec)) irqRisesUptoCard

/-- THE SECOND FORM's CARD OF 'roebucktop.TopApart'. -/
def topApartUptoCard : Claim7 := { stood := { row := topApartUptoRow, standIns := [], harness := (true, "ae9bd532ffd39b25706aeb3b0a40ec14c905bdde4a0b7f6a85350b6a3a4b1f40"), looks := false }, kinds := [], alts := [], laidByText := true, laidKinds := [.data, .data, .data], laidTests := true, laidLooks := .later }
def TopApartUptoCardSaid : Prop := Claim7.holds Tryd.pinned (.plain (OpenSpec.upto topApartSpec)) topApartUptoCard
end Rows
end Go.Proofs.YtkbgmppbkllnmaaDoor
