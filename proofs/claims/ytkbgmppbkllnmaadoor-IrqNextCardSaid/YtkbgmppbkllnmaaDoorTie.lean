/-
  DERIVED. GIVEN WITH THE SEED: THE PROGRAM's TIES (one call each: nine closed facts by the kernel) AND EACH ROW's TIE, after the 31st guide's Derived/Test/Toyas{Tie, Card}.lean. No idea stands in it: it is a product of the set-up. Laid BY PROGRAM, IN A SANDBOX (cutbox-door.mjs). By AI agents, Wed Nov 11 2026. No macro, syntax, notation, axiom, sorry.
-/
import Derived.Test.YtkbgmppbkllnmaaDoorRows
import Derived.LaidByTextLater
import Derived.SevenTiedAt
import Derived.LaidSub
import Derived.LaidOnce
namespace Go.Proofs.YtkbgmppbkllnmaaDoor
open Go
set_option maxRecDepth 100000
theorem seatTie1 : Tryd.prog.laidByTextLater [("roebuck/cause.order", Rows.laid_roebuck_cause_order), ("roebuck/csr.rows", Rows.laid_roebuck_csr_rows), ("roebuck/csrfile.kept", Rows.laid_roebuck_csrfile_kept)] [.data, .data, .data] true :=
  Program.laidByTextLater_by_one 58 8 103 (by kernel_rfl) (by kernel_rfl) (by kernel_rfl) (by kernel_rfl) (by kernel_rfl) (by kernel_rfl) (fun _ _ => by kernel_rfl)
theorem noOwnUnsafe : Tryd.pinned.checked.prog.headLifts.contains "ownunsafe" = false := by kernel_rfl
theorem tie : Tryd.prog.laidByTextLater [("roebuck/csr.rows", Rows.laid_roebuck_csr_rows), ("roebuck/csrfile.kept", Rows.laid_roebuck_csrfile_kept)] [.data, .data] true :=
  Program.laidByTextLater.sub seatTie1 ["roebuck/csr.rows", "roebuck/csrfile.kept"] (by kernel_rfl) (by kernel_rfl)
theorem trapEnters_row_tie : Rows.trapEntersRow.laidByTextAt .later Tryd.pinned [.data, .data] true :=
  OpenClaim.laidByTextAt_later rfl rfl tie noOwnUnsafe
theorem trapBack_row_tie : Rows.trapBackRow.laidByTextAt .later Tryd.pinned [.data, .data] true :=
  OpenClaim.laidByTextAt_later rfl rfl tie noOwnUnsafe
theorem tie2 : Tryd.prog.laidByTextLater [("roebuck/cause.order", Rows.laid_roebuck_cause_order), ("roebuck/csr.rows", Rows.laid_roebuck_csr_rows), ("roebuck/csrfile.kept", Rows.laid_roebuck_csrfile_kept)] [.data, .data, .data] true :=
  Program.laidByTextLater.sub seatTie1 ["roebuck/cause.order", "roebuck/csr.rows", "roebuck/csrfile.kept"] (by kernel_rfl) (by kernel_rfl)
theorem irqNext_row_tie : Rows.irqNextRow.laidByTextAt .later Tryd.pinned [.data, .data, .data] true :=
  OpenClaim.laidByTextAt_later rfl rfl tie2 noOwnUnsafe
theorem irqRises_row_tie : Rows.irqRisesRow.laidByTextAt .later Tryd.pinned [.data, .data, .data] true :=
  OpenClaim.laidByTextAt_later rfl rfl tie2 noOwnUnsafe
theorem topApart_row_tie : Rows.topApartRow.laidByTextAt .later Tryd.pinned [.data, .data, .data] true :=
  OpenClaim.laidByTextAt_later rfl rfl tie2 noOwnUnsafe
theorem trapEntersUpto_row_tie : Rows.trapEntersUptoRow.laidByTextAt .later Tryd.pinned [.data, .data] true :=
  OpenClaim.laidByTextAt_later rfl rfl tie noOwnUnsafe
theorem trapBackUpto_row_tie : Rows.trapBackUptoRow.laidByTextAt .later Tryd.pinned [.data, .data] true :=
  OpenClaim.laidByTextAt_later rfl rfl tie noOwnUnsafe
theorem irqNextUpto_row_tie : Rows.irqNextUptoRow.laidByTextAt .later Tryd.pinned [.data, .data, .data] true :=
  OpenClaim.laidByTextAt_later rfl rfl tie2 noOwnUnsafe
theorem irqRisesUpto_row_tie : Rows.irqRisesUptoRow.laidByTextAt .later Tryd.pinned [.data, .data, .data] true :=
  OpenClaim.laidByTextAt_later rfl rfl tie2 noOwnUnsafe
theorem topApartUpto_row_tie : Rows.topApartUptoRow.laidByTextAt .later Tryd.pinned [.data, .data, .data] true :=
  OpenClaim.laidByTextAt_later rfl rfl tie2 noOwnUnsafe
end Go.Proofs.YtkbgmppbkllnmaaDoor
