/-
  DERIVED. GIVEN WITH THE SEED: THE CARDS: each row of YtfjdalepaacmgaaDoorRows.lean that lists a variable, with what it lists TIED to the program's text (the seventh form; the later family's looks); each row that meets fmt, with fmt's text TOLD by the authors' own Lean function (tested against real Go, not proved from fmt's source: count such statements apart). THE CARD IS WHAT COUNTS. Prove the row's statement (the work); the ties are given (YtfjdalepaacmgaaDoorTie.lean); close each card by the builder's one call (the guide's Derived/Test/ToyasCard.lean, 'card_holds'). Laid BY PROGRAM, IN A SANDBOX (cutbox-door.mjs). By AI agents, Wed Nov 11 2026. No macro, syntax, notation, axiom, sorry.
-/
import Derived.Test.YtfjdalepaacmgaaDoorRows
import GoSem.ClaimSeven
namespace Go.Proofs.YtfjdalepaacmgaaDoor
namespace Rows

/-- THE TIED CARD OF 'roebucklaw21.CauseNames'. -/
def causeNamesCard : Claim7 := { stood := { row := causeNamesRow, standIns := [], harness := (true, "6e537fa5d69d637fbcae9e9e3778c97e7d3503d2f82954ca71a3e76f7eb1d638"), looks := false }, kinds := [], alts := [], laidByText := true, laidKinds := [.data, .data], laidTests := true, laidLooks := .later }
def CauseNamesCardSaid : Prop := Claim7.holds Tryd.pinned (.plain (OpenSpec.ofChange causeNamesSpec)) causeNamesCard

/-- THE TIED CARD OF 'roebucklaw21.CauseTakes'. -/
def causeTakesCard : Claim7 := { stood := { row := causeTakesRow, standIns := [], harness := (true, "6e537fa5d69d637fbcae9e9e3778c97e7d3503d2f82954ca71a3e76f7eb1d638"), looks := false }, kinds := [], alts := [], laidByText := true, laidKinds := [.data], laidTests := true, laidLooks := .later }
def CauseTakesCardSaid : Prop := Claim7.holds Tryd.pinned (.plain (OpenSpec.ofChange causeTakesSpec)) causeTakesCard

/-- THE TIED CARD OF 'roebucklaw21.CauseFirst'. -/
def causeFirstCard : Claim7 := { stood := { row := causeFirstRow, standIns := [], harness := (true, "6e537fa5d69d637fbcae9e9e3778c97e7d3503d2f82954ca71a3e76f7eb1d638"), looks := false }, kinds := [], alts := [], laidByText := true, laidKinds := [.data], laidTests := true, laidLooks := .later }
def CauseFirstCardSaid : Prop := Claim7.holds Tryd.pinned (.plain (OpenSpec.ofChange causeFirstSpec)) causeFirstCard

/-- THE TIED CARD OF 'roebucklaw22.CsrfilePlays'. -/
def csrfilePlaysCard : Claim7 := { stood := { row := csrfilePlaysRow, standIns := [], harness := (true, "6e537fa5d69d637fbcae9e9e3778c97e7d3503d2f82954ca71a3e76f7eb1d638"), looks := false }, kinds := [], alts := [], laidByText := true, laidKinds := [.data, .data], laidTests := true, laidLooks := .later }
def CsrfilePlaysCardSaid : Prop := Claim7.holds Tryd.pinned (.plain (OpenSpec.ofChange csrfilePlaysSpec)) csrfilePlaysCard

/-- THE TIED CARD OF 'roebucklaw22.CsrfileMays'. -/
def csrfileMaysCard : Claim7 := { stood := { row := csrfileMaysRow, standIns := [], harness := (true, "6e537fa5d69d637fbcae9e9e3778c97e7d3503d2f82954ca71a3e76f7eb1d638"), looks := false }, kinds := [], alts := [], laidByText := true, laidKinds := [.data, .data], laidTests := true, laidLooks := .later }
def CsrfileMaysCardSaid : Prop := Claim7.holds Tryd.pinned (.plain (OpenSpec.ofChange csrfileMaysSpec)) csrfileMaysCard

/-- THE TIED CARD OF 'roebucklaw22.CsrfileHides'. -/
def csrfileHidesCard : Claim7 := { stood := { row := csrfileHidesRow, standIns := [], harness := (true, "6e537fa5d69d637fbcae9e9e3778c97e7d3503d2f82954ca71a3e76f7eb1d638"), looks := false }, kinds := [], alts := [], laidByText := true, laidKinds := [.data, .data], laidTests := true, laidLooks := .later }
def CsrfileHidesCardSaid : Prop := Claim7.holds Tryd.pinned (.plain (OpenSpec.ofChange csrfileHidesSpec)) csrfileHidesCard

/-- THE SECOND FORM's CARD OF 'roebucklaw21.CauseNames'. -/
def causeNamesUptoCard : Claim7 := { stood := { row := causeNamesUptoRow, standIns := [], harness := (true, "6e537fa5d69d637fbcae9e9e3778c97e7d3503d2f82954ca71a3e76f7eb1d638"), looks := false }, kinds := [], alts := [], laidByText := true, laidKinds := [.data, .data], laidTests := true, laidLooks := .later }
def CauseNamesUptoCardSaid : Prop := Claim7.holds Tryd.pinned (.plain (OpenSpec.upto causeNamesSpec)) causeNamesUptoCard

/-- THE SECOND FORM's CARD OF 'roebucklaw21.CauseTakes'. -/
def causeTakesUptoCard : Claim7 := { stood := { row := causeTakesUptoRow, standIns := [], harness := (true, "6e537fa5d69d637fbcae9e9e3778c97e7d3503d2f82954ca71a3e76f7eb1d638"), looks := false }, kinds := [], alts := [], laidByText := true, laidKinds := [.data], laidTests := true, laidLooks := .later }
def CauseTakesUptoCardSaid : Prop := Claim7.holds Tryd.pinned (.plain (OpenSpec.upto causeTakesSpec)) causeTakesUptoCard

/-- THE SECOND FORM's CARD OF 'roebucklaw21.CauseFirst'. -/
def causeFirstUptoCard : Claim7 := { stood := { row := causeFirstUptoRow, standIns := [], harness := (true, "6e537fa5d69d637fbcae9e9e3778c97e7d3503d2f82954ca71a3e76f7eb1d638"), looks := false }, kinds := [], alts := [], laidByText := true, laidKinds := [.data], laidTests := true, laidLooks := .later }
def CauseFirstUptoCardSaid : Prop := Claim7.holds Tryd.pinned (.plain (OpenSpec.upto causeFirstSpec)) causeFirstUptoCard

/-- THE SECOND FORM's CARD OF 'roebucklaw22.CsrfilePlays'. -/
def csrfilePlaysUptoCard : Claim7 := { stood := { row := csrfilePlaysUptoRow, standIns := [], harness := (true, "6e537fa5d69d637fbcae9e9e3778c97e7d3503d2f82954ca71a3e76f7eb1d638"), looks := false }, kinds := [], alts := [], laidByText := true, laidKinds := [.data, .data], laidTests := true, laidLooks := .later }
def CsrfilePlaysUptoCardSaid : Prop := Claim7.holds Tryd.pinned (.plain (OpenSpec.upto csrfilePlaysSpec)) csrfilePlaysUptoCard

/-- THE SECOND FORM's CARD OF 'roebucklaw22.CsrfileMays'. -/
def csrfileMaysUptoCard : Claim7 := { stood := { row := csrfileMaysUptoRow, standIns := [], harness := (true, "6e537fa5d69d637fbcae9e9e3778c97e7d3503d2f82954ca71a3e76f7eb1d638"), looks := false }, kinds := [], alts := [], laidByText := true, laidKinds := [.data, .data], laidTests := true, laidLooks := .later }
def CsrfileMaysUptoCardSaid : Prop := Claim7.holds Tryd.pinned (.plain (OpenSpec.upto csrfileMaysSpec)) csrfileMaysUptoCard

/-- THE SECOND FORM's CARD OF 'roebucklaw22.CsrfileHides'. -/
def csrfileHidesUptoCard : Claim7 := { stood := { row := csrfileHidesUptoRow, standIns := [], harness := (true, "6e537fa5d69d637fbcae9e9e3778c97e7d3503d2f82954ca71a3e76f7eb1d638"), looks := false }, kinds := [], alts := [], laidByText := true, laidKinds := [.data, .data], laidTests := true, laidLooks := .later }
def CsrfileHidesUptoCardSaid : Prop := Claim7.holds Tryd.pinned (.plain (OpenSpec.upto csrfileHidesSpec)) csrfileHidesUptoCard
end Rows
end Go.Proofs.YtfjdalepaacmgaaDoor
