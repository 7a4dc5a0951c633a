/-
  DERIVED. GIVEN WITH THE SEED: THE PROGRAM's TIES (one call each: nine closed facts by the kernel) AND EACH ROW's TIE, after the 31st guide's Derived/Test/Toyas{Tie, Card}.lean. No idea stands in it: it is a product of the set-up. Laid BY PROGRAM, IN A SANDBOX (cutbox-door.mjs). By AI agents, Wed Nov 11 2026. No macro, syntax, notation, axiom, sorry.
-/
import Derived.Test.YtfjdalepaacmgaaDoorRows
import Derived.LaidByTextLater
import Derived.SevenTiedAt
import Derived.LaidSub
import Derived.LaidOnce
namespace Go.Proofs.YtfjdalepaacmgaaDoor
open Go
set_option maxRecDepth 100000
theorem seatTie1 : Tryd.prog.laidByTextLater [("roebuck/cause.causes", Rows.laid_roebuck_cause_causes), ("roebuck/cause.order", Rows.laid_roebuck_cause_order), ("roebuck/csr.rows", Rows.laid_roebuck_csr_rows), ("roebuck/csrfile.kept", Rows.laid_roebuck_csrfile_kept)] [.data, .data, .data, .data] true :=
  Program.laidByTextLater_by_one 103 8 103 (by kernel_rfl) (by kernel_rfl) (by kernel_rfl) (by kernel_rfl) (by kernel_rfl) (by kernel_rfl) (fun _ _ => by kernel_rfl)
theorem noOwnUnsafe : Tryd.pinned.checked.prog.headLifts.contains "ownunsafe" = false := by kernel_rfl
theorem tie : Tryd.prog.laidByTextLater [("roebuck/cause.causes", Rows.laid_roebuck_cause_causes), ("roebuck/cause.order", Rows.laid_roebuck_cause_order)] [.data, .data] true :=
  Program.laidByTextLater.sub seatTie1 ["roebuck/cause.causes", "roebuck/cause.order"] (by kernel_rfl) (by kernel_rfl)
theorem causeNames_row_tie : Rows.causeNamesRow.laidByTextAt .later Tryd.pinned [.data, .data] true :=
  OpenClaim.laidByTextAt_later rfl rfl tie noOwnUnsafe
theorem tie2 : Tryd.prog.laidByTextLater [("roebuck/cause.order", Rows.laid_roebuck_cause_order)] [.data] true :=
  Program.laidByTextLater.sub seatTie1 ["roebuck/cause.order"] (by kernel_rfl) (by kernel_rfl)
theorem causeTakes_row_tie : Rows.causeTakesRow.laidByTextAt .later Tryd.pinned [.data] true :=
  OpenClaim.laidByTextAt_later rfl rfl tie2 noOwnUnsafe
theorem causeFirst_row_tie : Rows.causeFirstRow.laidByTextAt .later Tryd.pinned [.data] true :=
  OpenClaim.laidByTextAt_later rfl rfl tie2 noOwnUnsafe
theorem tie3 : Tryd.prog.laidByTextLater [("roebuck/csr.rows", Rows.laid_roebuck_csr_rows), ("roebuck/csrfile.kept", Rows.laid_roebuck_csrfile_kept)] [.data, .data] true :=
  Program.laidByTextLater.sub seatTie1 ["roebuck/csr.rows", "roebuck/csrfile.kept"] (by kernel_rfl) (by kernel_rfl)
theorem csrfilePlays_row_tie : Rows.csrfilePlaysRow.laidByTextAt .later Tryd.pinned [.data, .data] true :=
  OpenClaim.laidByTextAt_later rfl rfl tie3 noOwnUnsafe
theorem csrfileMays_row_tie : Rows.csrfileMaysRow.laidByTextAt .later Tryd.pinned [.data, .data] true :=
  OpenClaim.laidByTextAt_later rfl rfl tie3 noOwnUnsafe
theorem csrfileHides_row_tie : Rows.csrfileHidesRow.laidByTextAt .later Tryd.pinned [.data, .data] true :=
  OpenClaim.laidByTextAt_later rfl rfl tie3 noOwnUnsafe
theorem causeNamesUpto_row_tie : Rows.causeNamesUptoRow.laidByTextAt .later Tryd.pinned [.data, .data] true :=
  OpenClaim.laidByTextAt_later rfl rfl tie noOwnUnsafe
theorem causeTakesUpto_row_tie : Rows.causeTakesUptoRow.laidByTextAt .later Tryd.pinned [.data] true :=
  OpenClaim.laidByTextAt_later rfl rfl tie2 noOwnUnsafe
theorem causeFirstUpto_row_tie : Rows.causeFirstUptoRow.laidByTextAt .later Tryd.pinned [.data] true :=
  OpenClaim.laidByTextAt_later rfl rfl tie2 noOwnUnsafe
theorem csrfilePlaysUpto_row_tie : Rows.csrfilePlaysUptoRow.laidByTextAt .later Tryd.pinned [.data, .data] true :=
  OpenClaim.laidByTextAt_later rfl rfl tie3 noOwnUnsafe
theorem csrfileMaysUpto_row_tie : Rows.csrfileMaysUptoRow.laidByTextAt .later Tryd.pinned [.data, .data] true :=
  OpenClaim.laidByTextAt_later rfl rfl tie3 noOwnUnsafe
theorem csrfileHidesUpto_row_tie : Rows.csrfileHidesUptoRow.laidByTextAt .later Tryd.pinned [.data, .data] true :=
  OpenClaim.laidByTextAt_later rfl rfl tie3 noOwnUnsafe
end Go.Proofs.YtfjdalepaacmgaaDoor
