/-
  DERIVED. GIVEN WITH THE SEED: THE CARDS: each row of YteknlcigfjdmdaaDoorRows.lean that lists a variable, with what it lists TIED to the program's text (the seventh form; the later family's looks); each row that meets fmt, with fmt's text TOLD by the authors' own Lean function (tested against real Go, not proved from fmt's source: count such statements apart). THE CARD IS WHAT COUNTS. Prove the row's statement (the work); the ties are given (YteknlcigfjdmdaaDoorTie.lean); close each card by the builder's one call (the guide's Derived/Test/ToyasCard.lean, 'card_holds'). Laid BY PROGRAM, IN A SANDBOX (cutbox-door.mjs). By AI agents, Wed Nov 11 2026. No macro, syntax, notation, axiom, sorry.
-/
import Derived.Test.YteknlcigfjdmdaaDoorRows
import GoSem.ClaimSeven
namespace Go.Proofs.YteknlcigfjdmdaaDoor
namespace Rows

/-- THE TIED CARD OF 'roebucklaw03.InsnDecodes'. -/
def insnDecodesCard : Claim7 := { stood := { row := insnDecodesRow, standIns := [], harness := (true, "5f3e6af12528dc9e32afeaa222f566613ce91b37a0933cbab953297b610e18d4"), looks := false }, kinds := [], alts := [], laidByText := true, laidKinds := [.data, .data], laidTests := true, laidLooks := .later }
def InsnDecodesCardSaid : Prop := Claim7.holds Tryd.pinned (.plain (OpenSpec.ofChange insnDecodesSpec)) insnDecodesCard

/-- THE TIED CARD OF 'roebucklaw03.InsnEncodes'. -/
def insnEncodesCard : Claim7 := { stood := { row := insnEncodesRow, standIns := [], harness := (true, "5f3e6af12528dc9e32afeaa222f566613ce91b37a0933cbab953297b610e18d4"), looks := false }, kinds := [], alts := [], laidByText := true, laidKinds := [.data, .data], laidTests := true, laidLooks := .later }
def InsnEncodesCardSaid : Prop := Claim7.holds Tryd.pinned (.plain (OpenSpec.ofChange insnEncodesSpec)) insnEncodesCard

/-- THE TIED CARD OF 'roebucklaw03.InsnBack'. -/
def insnBackCard : Claim7 := { stood := { row := insnBackRow, standIns := [], harness := (true, "5f3e6af12528dc9e32afeaa222f566613ce91b37a0933cbab953297b610e18d4"), looks := false }, kinds := [], alts := [], laidByText := true, laidKinds := [.data, .data], laidTests := true, laidLooks := .later }
def InsnBackCardSaid : Prop := Claim7.holds Tryd.pinned (.plain (OpenSpec.ofChange insnBackSpec)) insnBackCard

/-- THE SECOND FORM's CARD OF 'roebucklaw03.InsnDecodes'. -/
def insnDecodesUptoCard : Claim7 := { stood := { row := insnDecodesUptoRow, standIns := [], harness := (true, "5f3e6af12528dc9e32afeaa222f566613ce91b37a0933cbab953297b610e18d4"), looks := false }, kinds := [], alts := [], laidByText := true, laidKinds := [.data, .data], laidTests := true, laidLooks := .later }
def InsnDecodesUptoCardSaid : Prop := Claim7.holds Tryd.pinned (.plain (OpenSpec.upto insnDecodesSpec)) insnDecodesUptoCard

/-- THE SECOND FORM's CARD OF 'roebucklaw03.InsnEncodes'. -/
def insnEncodesUptoCard : Claim7 := { stood := { row := insnEncodesUptoRow, standIns := [], harness := (true, "5f3e6af12528dc9e32afeaa222f566613ce91b37a0933cbab953297b610e18d4"), looks := false }, kinds := [], alts := [], laidByText := true, laidKinds := [.data, .data], laidTests := true, laidLooks := .later }
def InsnEncodesUptoCardSaid : Prop := Claim7.holds Tryd.pinned (.plain (OpenSpec.upto insnEncodesSpec)) insnEncodesUptoCard

/-- THE SECOND FORM's CARD OF 'roebucklaw03.InsnBack'. -/
def insnBackUptoCard : Claim7 := { stood := { row := insnBackUptoRow, standIns := [], harness := (true, "5f3e6af12528dc9e32afeaa222f566613ce91b37a0933cbab953297b610e18d4"), looks := false }, kinds := [], alts := [], laidByText := true, laidKinds := [.data, .data], laidTests := true, laidLooks := .later }
def InsnBackUptoCardSaid : Prop := Claim7.holds Tryd.pinned (.plain (OpenSpec.upto insnBackSpec)) insnBackUptoCard
end Rows
end Go.Proofs.YteknlcigfjdmdaaDoor
