/-
  DERIVED. GIVEN WITH THE SEED: THE CARDS: each row of YtmieabafiijfjaaDoorRows.lean that lists a variable, with what it lists TIED to the program's text (the seventh form; the later family's looks); each row that meets fmt, with fmt's text TOLD by the authors' own Lean function (tested against real Go, not proved from fmt's source: count such statements apart). THE CARD IS WHAT COUNTS. Prove the row's statement (the work); the ties are given (YtmieabafiijfjaaDoorTie.lean); close each card by the builder's one call (the guide's Derived/Test/ToyasCard.lean, 'card_holds'). Laid BY PROGRAM, IN A SANDBOX (cutbox-door.mjs). By AI agents, Wed Nov 11 2026. No macro, syntax, notation, axiom, sorry.
-/
import Derived.Test.YtmieabafiijfjaaDoorRows
import GoSem.ClaimSeven
namespace Go.Proofs.YtmieabafiijfjaaDoor
namespace Rows

/-- THE TIED CARD OF 'roebucklaw25.PteLets'. -/
def pteLetsCard : Claim7 := { stood := { row := pteLetsRow, standIns := [], harness := (true, "b1b3708a5ed70c21f8e8b6c7c17423493204fa1bfa8bc5c80b5f2b93448a94ef"), looks := false }, kinds := [], alts := [], laidByText := true, laidKinds := [.data], laidTests := true, laidLooks := .later }
def PteLetsCardSaid : Prop := Claim7.holds Tryd.pinned (.plain (OpenSpec.ofChange pteLetsSpec)) pteLetsCard

/-- THE TIED CARD OF 'roebucklaw25.PteMarks'. -/
def pteMarksCard : Claim7 := { stood := { row := pteMarksRow, standIns := [], harness := (true, "b1b3708a5ed70c21f8e8b6c7c17423493204fa1bfa8bc5c80b5f2b93448a94ef"), looks := false }, kinds := [], alts := [], laidByText := true, laidKinds := [.data], laidTests := true, laidLooks := .later }
def PteMarksCardSaid : Prop := Claim7.holds Tryd.pinned (.plain (OpenSpec.ofChange pteMarksSpec)) pteMarksCard

/-- THE SECOND FORM's CARD OF 'roebucklaw25.PteLets'. -/
def pteLetsUptoCard : Claim7 := { stood := { row := pteLetsUptoRow, standIns := [], harness := (true, "b1b3708a5ed70c21f8e8b6c7c17423493204fa1bfa8bc5c80b5f2b93448a94ef"), looks := false }, kinds := [], alts := [], laidByText := true, laidKinds := [.data], laidTests := true, laidLooks := .later }
def PteLetsUptoCardSaid : Prop := Claim7.holds Tryd.pinned (.plain (OpenSpec.upto pteLetsSpec)) pteLetsUptoCard

/-- THE SECOND FORM's CARD OF 'roebucklaw25.PteMarks'. -/
def pteMarksUptoCard : Claim7 := { stood := { row := pteMarksUptoRow, standIns := [], harness := (true, "b1b3708a5ed70c21f8e8b6c7c17423493204fa1bfa8bc5c80b5f2b93448a94ef"), looks := false }, kinds := [], alts := [], laidByText := true, laidKinds := [.data], laidTests := true, laidLooks := .later }
def PteMarksUptoCardSaid : Prop := Claim7.holds Tryd.pinned (.plain (OpenSpec.upto pteMarksSpec)) pteMarksUptoCard
end Rows
end Go.Proofs.YtmieabafiijfjaaDoor
