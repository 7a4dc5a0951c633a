/-
  DERIVED. GIVEN WITH THE SEED: THE CARDS: each row of YtkknfhbaldeigaaDoorRows.lean that lists a variable, with what it lists TIED to the program's text (the seventh form; the later family's looks); each row that meets fmt, with fmt's text TOLD by the authors' own Lean function (tested against real Go, not proved from fmt's source: count such statements apart). THE CARD IS WHAT COUNTS. Prove the row's statement (the work); the ties are given (YtkknfhbaldeigaaDoorTie.lean); close each card by the builder's one call (the guide's Derived/Test/ToyasCard.lean, 'card_holds'). Laid BY PROGRAM, IN A SANDBOX (cutbox-door.mjs). By AI agents, Wed Nov 11 2026. No macro, syntax, notation, axiom, sorry.
-/
import Derived.Test.YtkknfhbaldeigaaDoorRows
import GoSem.ClaimSeven
namespace Go.Proofs.YtkknfhbaldeigaaDoor
namespace Rows

/-- THE TIED CARD OF 'roebucklaw19.CsrTells'. -/
def csrTellsCard : Claim7 := { stood := { row := csrTellsRow, standIns := [], harness := (true, "b2ba034f053d3713b841ec873e032e7100c2f2a89335bbd3640f480c536aa82a"), looks := false }, kinds := [], alts := [], laidByText := true, laidKinds := [.data], laidTests := true, laidLooks := .later }
def CsrTellsCardSaid : Prop := Claim7.holds Tryd.pinned (.plain (OpenSpec.ofChange csrTellsSpec)) csrTellsCard

/-- THE TIED CARD OF 'roebucklaw19.CsrAll'. -/
def csrAllCard : Claim7 := { stood := { row := csrAllRow, standIns := [], harness := (true, "b2ba034f053d3713b841ec873e032e7100c2f2a89335bbd3640f480c536aa82a"), looks := false }, kinds := [], alts := [], laidByText := true, laidKinds := [.data], laidTests := true, laidLooks := .later }
def CsrAllCardSaid : Prop := Claim7.holds Tryd.pinned (.plain (OpenSpec.ofChange csrAllSpec)) csrAllCard

/-- THE TIED CARD OF 'roebucklaw19.CsrBecomes'. -/
def csrBecomesCard : Claim7 := { stood := { row := csrBecomesRow, standIns := [], harness := (true, "b2ba034f053d3713b841ec873e032e7100c2f2a89335bbd3640f480c536aa82a"), looks := false }, kinds := [], alts := [], laidByText := true, laidKinds := [.data], laidTests := true, laidLooks := .later }
def CsrBecomesCardSaid : Prop := Claim7.holds Tryd.pinned (.plain (OpenSpec.ofChange csrBecomesSpec)) csrBecomesCard

/-- THE TIED CARD OF 'roebucklaw20.StatusViews'. -/
def statusViewsCard : Claim7 := { stood := { row := statusViewsRow, standIns := [], harness := (true, "b2ba034f053d3713b841ec873e032e7100c2f2a89335bbd3640f480c536aa82a"), looks := false }, kinds := [], alts := [], laidByText := true, laidKinds := [.data], laidTests := true, laidLooks := .later }
def StatusViewsCardSaid : Prop := Claim7.holds Tryd.pinned (.plain (OpenSpec.ofChange statusViewsSpec)) statusViewsCard

/-- THE TIED CARD OF 'roebucklaw20.StatusBack'. -/
def statusBackCard : Claim7 := { stood := { row := statusBackRow, standIns := [], harness := (true, "b2ba034f053d3713b841ec873e032e7100c2f2a89335bbd3640f480c536aa82a"), looks := false }, kinds := [], alts := [], laidByText := true, laidKinds := [.data], laidTests := true, laidLooks := .later }
def StatusBackCardSaid : Prop := Claim7.holds Tryd.pinned (.plain (OpenSpec.ofChange statusBackSpec)) statusBackCard

/-- THE SECOND FORM's CARD OF 'roebucklaw19.CsrTells'. -/
def csrTellsUptoCard : Claim7 := { stood := { row := csrTellsUptoRow, standIns := [], harness := (true, "b2ba034f053d3713b841ec873e032e7100c2f2a89335bbd3640f480c536aa82a"), looks := false }, kinds := [], alts := [], laidByText := true, laidKinds := [.data], laidTests := true, laidLooks := .later }
def CsrTellsUptoCardSaid : Prop := Claim7.holds Tryd.pinned (.plain (OpenSpec.upto csrTellsSpec)) csrTellsUptoCard

/-- THE SECOND FORM's CARD OF 'roebucklaw19.CsrAll'. -/
def csrAllUptoCard : Claim7 := { stood := { row := csrAllUptoRow, standIns := [], harness := (true, "b2ba034f053d3713b841ec873e032e7100c2f2a89335bbd3640f480c536aa82a"), looks := false }, kinds := [], alts := [], laidByText := true, laidKinds := [.data], laidTests := true, laidLooks := .later }
def CsrAllUptoCardSaid : Prop := Claim7.holds Tryd.pinned (.plain (OpenSpec.upto csrAllSpec)) csrAllUptoCard

/-- THE SECOND FORM's CARD OF 'roebucklaw19.CsrBecomes'. -/
def csrBecomesUptoCard : Claim7 := { stood := { row := csrBecomesUptoRow, standIns := [], harness := (true, "b2ba034f053d3713b841ec873e032e7100c2f2a89335bbd3640f480c536aa82a"), looks := false }, kinds := [], alts := [], laidByText := true, laidKinds := [.data], laidTests := true, laidLooks := .later }
def CsrBecomesUptoCardSaid : Prop := Claim7.holds Tryd.pinned (.plain (OpenSpec.upto csrBecomesSpec)) csrBecomesUptoCard

/-- THE SECOND FORM's CARD OF 'roebucklaw20.StatusViews'. -/
def statusViewsUptoCard : Claim7 := { stood := { row := statusViewsUptoRow, standIns := [], harness := (true, "b2ba034f053d3713b841ec873e032e7100c2f2a89335bbd3640f480c536aa82a"), looks := false }, kinds := [], alts := [], laidByText := true, laidKinds := [.data], laidTests := true, laidLooks := .later }
def StatusViewsUptoCardSaid : Prop := Claim7.holds Tryd.pinned (.plain (OpenSpec.upto statusViewsSpec)) statusViewsUptoCard

/-- THE SECOND FORM's CARD OF 'roebucklaw20.StatusBack'. -/
def statusBackUptoCard : Claim7 := { stood := { row := statusBackUptoRow, standIns := [], harness := (true, "b2ba034f053d3713b841ec873e032e7100c2f2a89335bbd3640f480c536aa82a"), looks := false }, kinds := [], alts := [], laidByText := true, laidKinds := [.data], laidTests := true, laidLooks := .later }
def StatusBackUptoCardSaid : Prop := Claim7.holds Tryd.pinned (.plain (OpenSpec.upto statusBackSpec)) statusBackUptoCard
end Rows
end Go.Proofs.YtkknfhbaldeigaaDoor
