/-
  DERIVED. GIVEN WITH THE SEED: THE CARDS: each row of YtmaooljlkpfkoaaDoorRows.lean that lists a variable, with what it lists TIED to the program's text (the seventh form; the later family's looks); each row that meets fmt, with fmt's text TOLD by the authors' own Lean function (tested against real Go, not proved from fmt's source: count such statements apart). THE CARD IS WHAT COUNTS. Prove the row's statement (the work); the ties are given (YtmaooljlkpfkoaaDoorTie.lean); close each card by the builder's one call (the guide's Derived/Test/ToyasCard.lean, 'card_holds'). Laid BY PROGRAM, IN A SANDBOX (cutbox-door.mjs). By AI agents, Wed Nov 11 2026. No macro, syntax, notation, axiom, sorry.
-/
import Derived.Test.YtmaooljlkpfkoaaDoorRows
import GoSem.ClaimSeven
namespace Go.Proofs.YtmaooljlkpfkoaaDoor
namespace Rows

/-- THE TIED CARD OF 'roebucklaw03.InsnDecodes'. -/
def insnDecodesCard : Claim7 := { stood := { row := insnDecodesRow, standIns := [], harness := (true, "0fd1df86aa2a5e013af31ab2f32dd25aeeb7b18199ec8f0d498165745923e009"), looks := false }, kinds := [], alts := [], laidByText := true, laidKinds := [.data, .data], laidTests := true, laidLooks := .later }
def InsnDecodesCardSaid : Prop := Claim7.holds Tryd.pinned (.plain (OpenSpec.ofChange insnDecodesSpec)) insnDecodesCard

/-- THE TIED CARD OF 'roebucklaw03.InsnEncodes'. -/
def insnEncodesCard : Claim7 := { stood := { row := insnEncodesRow, standIns := [], harness := (true, "0fd1df86aa2a5e013af31ab2f32dd25aeeb7b18199ec8f0d498165745923e009"), looks := false }, kinds := [], alts := [], laidByText := true, laidKinds := [.data, .data], laidTests := true, laidLooks := .later }
def InsnEncodesCardSaid : Prop := Claim7.holds Tryd.pinned (.plain (OpenSpec.ofChange insnEncodesSpec)) insnEncodesCard

/-- THE TIED CARD OF 'roebucklaw03.InsnImms'. -/
def insnImmsCard : Claim7 := { stood := { row := insnImmsRow, standIns := [], harness := (true, "0fd1df86aa2a5e013af31ab2f32dd25aeeb7b18199ec8f0d498165745923e009"), looks := false }, kinds := [], alts := [], laidByText := true, laidKinds := [.data, .data], laidTests := true, laidLooks := .later }
def InsnImmsCardSaid : Prop := Claim7.holds Tryd.pinned (.plain (OpenSpec.ofChange insnImmsSpec)) insnImmsCard

/-- THE TIED CARD OF 'roebucklaw03.InsnBack'. -/
def insnBackCard : Claim7 := { stood := { row := insnBackRow, standIns := [], harness := (true, "0fd1df86aa2a5e013af31ab2f32dd25aeeb7b18199ec8f0d498165745923e009"), looks := false }, kinds := [], alts := [], laidByText := true, laidKinds := [.data, .data], laidTests := true, laidLooks := .later }
def InsnBackCardSaid : Prop := Claim7.holds Tryd.pinned (.plain (OpenSpec.ofChange insnBackSpec)) insnBackCard

/-- THE TIED CARD OF 'roebucklaw03.InsnApart'. -/
def insnApartCard : Claim7 := { stood := { row := insnApartRow, standIns := [], harness := (true, "0fd1df86aa2a5e013af31ab2f32dd25aeeb7b18199ec8f0d498165745923e009"), looks := false }, kinds := [], alts := [], laidByText := true, laidKinds := [.data, .data], laidTests := true, laidLooks := .later }
def InsnApartCardSaid : Prop := Claim7.holds Tryd.pinned (.plain (OpenSpec.ofChange insnApartSpec)) insnApartCard

/-- THE SECOND FORM's CARD OF 'roebucklaw03.InsnDecodes'. -/
def insnDecodesUptoCard : Claim7 := { stood := { row := insnDecodesUptoRow, standIns := [], harness := (true, "0fd1df86aa2a5e013af31ab2f32dd25aeeb7b18199ec8f0d498165745923e009"), looks := false }, kinds := [], alts := [], laidByText := true, laidKinds := [.data, .data], laidTests := true, laidLooks := .later }
def InsnDecodesUptoCardSaid : Prop := Claim7.holds Tryd.pinned (.plain (OpenSpec.upto insnDecodesSpec)) insnDecodesUptoCard

/-- THE SECOND FORM's CARD OF 'roebucklaw03.InsnEncodes'. -/
def insnEncodesUptoCard : Claim7 := { stood := { row := insnEncodesUptoRow, standIns := [], harness := (true, "0fd1df86aa2a5e013af31ab2f32dd25aeeb7b18199ec8f0d498165745923e009"), looks := false }, kinds := [], alts := [], laidByText := true, laidKinds := [.data, .data], laidTests := true, laidLooks := .later }
def InsnEncodesUptoCardSaid : Prop := Claim7.holds Tryd.pinned (.plain (OpenSpec.upto insnEncodesSpec)) insnEncodesUptoCard

/-- THE SECOND FORM's CARD OF 'roebucklaw03.InsnImms'. -/
def insnImmsUptoCard : Claim7 := { stood := { row := insnImmsUptoRow, standIns := [], harness := (true, "0fd1df86aa2a5e013af31ab2f32dd25aeeb7b18199ec8f0d498165745923e009"), looks := false }, kinds := [], alts := [], laidByText := true, laidKinds := [.data, .data], laidTests := true, laidLooks := .later }
def InsnImmsUptoCardSaid : Prop := Claim7.holds Tryd.pinned (.plain (OpenSpec.upto insnImmsSpec)) insnImmsUptoCard

/-- THE SECOND FORM's CARD OF 'roebucklaw03.InsnBack'. -/
def insnBackUptoCard : Claim7 := { stood := { row := insnBackUptoRow, standIns := [], harness := (true, "0fd1df86aa2a5e013af31ab2f32dd25aeeb7b18199ec8f0d498165745923e009"), looks := false }, kinds := [], alts := [], laidByText := true, laidKinds := [.data, .data], laidTests := true, laidLooks := .later }
def InsnBackUptoCardSaid : Prop := Claim7.holds Tryd.pinned (.plain (OpenSpec.upto insnBackSpec)) insnBackUptoCard

/-- THE SECOND FORM's CARD OF 'roebucklaw03.InsnApart'. -/
def insnApartUptoCard : Claim7 := { stood := { row := insnApartUptoRow, standIns := [], harness := (true, "0fd1df86aa2a5e013af31ab2f32dd25aeeb7b18199ec8f0d498165745923e009"), looks := false }, kinds := [], alts := [], laidByText := true, laidKinds := [.data, .data], laidTests := true, laidLooks := .later }
def InsnApartUptoCardSaid : Prop := Claim7.holds Tryd.pinned (.plain (OpenSpec.upto insnApartSpec)) insnApartUptoCard
end Rows
end Go.Proofs.YtmaooljlkpfkoaaDoor
