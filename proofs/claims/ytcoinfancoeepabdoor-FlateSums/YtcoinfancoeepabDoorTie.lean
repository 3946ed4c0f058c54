/-
  DERIVED. GIVEN WITH THE SEED: THE PROGRAM's TIES (one call each: nine closed facts by the kernel) AND EACH ROW's TIE, after the 31st guide's Derived/Test/Toyas{Tie, Card}.lean. No idea stands in it: it is a product of the set-up. Laid BY PROGRAM, IN A SANDBOX (cutbox-door.mjs). By AI agents, Wed Nov 11 2026. No macro, syntax, notation, axiom, sorry.
-/
import Derived.Test.YtcoinfancoeepabDoorRows
import Derived.LaidByTextLater
import Derived.SevenTiedAt
import Derived.LaidSub
import Derived.LaidOnce
namespace Go.Proofs.YtcoinfancoeepabDoor
open Go
set_option maxRecDepth 100000
theorem seatTie1 : Tryd.prog.laidByTextLater [("errors.errorType", Rows.laid_errors_errorType), ("strata/flate.lengthSpans", Rows.laid_strata_flate_lengthSpans), ("strata/flate.distanceSpans", Rows.laid_strata_flate_distanceSpans), ("strata/flate.crcSteps", Rows.laid_strata_flate_crcSteps), ("strata/flate.sizeOrder", Rows.laid_strata_flate_sizeOrder), ("strata/flate.repeatSpans", Rows.laid_strata_flate_repeatSpans)] [.handle, .data, .data, .data, .data, .data] true :=
  Program.laidByTextLater_by_one 103 8 61 (by kernel_rfl) (by kernel_rfl) (by kernel_rfl) (by kernel_rfl) (by kernel_rfl) (by kernel_rfl) (fun _ _ => by kernel_rfl)
theorem noOwnUnsafe : Tryd.pinned.checked.prog.headLifts.contains "ownunsafe" = false := by kernel_rfl
theorem tie : Tryd.prog.laidByTextLater [("errors.errorType", Rows.laid_errors_errorType), ("strata/flate.lengthSpans", Rows.laid_strata_flate_lengthSpans), ("strata/flate.distanceSpans", Rows.laid_strata_flate_distanceSpans), ("strata/flate.crcSteps", Rows.laid_strata_flate_crcSteps), ("strata/flate.sizeOrder", Rows.laid_strata_flate_sizeOrder), ("strata/flate.repeatSpans", Rows.laid_strata_flate_repeatSpans)] [.handle, .data, .data, .data, .data, .data] true :=
  Program.laidByTextLater.sub seatTie1 ["errors.errorType", "strata/flate.lengthSpans", "strata/flate.distanceSpans", "strata/flate.crcSteps", "strata/flate.sizeOrder", "strata/flate.repeatSpans"] (by kernel_rfl) (by kernel_rfl)
theorem flateCut_row_tie : Rows.flateCutRow.laidByTextAt .later Tryd.pinned [.handle, .data, .data, .data, .data, .data] true :=
  OpenClaim.laidByTextAt_later rfl rfl tie noOwnUnsafe
theorem flateTells_row_tie : Rows.flateTellsRow.laidByTextAt .later Tryd.pinned [.handle, .data, .data, .data, .data, .data] true :=
  OpenClaim.laidByTextAt_later rfl rfl tie noOwnUnsafe
theorem tie2 : Tryd.prog.laidByTextLater [("strata/flate.lengthSpans", Rows.laid_strata_flate_lengthSpans), ("strata/flate.distanceSpans", Rows.laid_strata_flate_distanceSpans), ("strata/flate.crcSteps", Rows.laid_strata_flate_crcSteps), ("strata/flate.sizeOrder", Rows.laid_strata_flate_sizeOrder), ("strata/flate.repeatSpans", Rows.laid_strata_flate_repeatSpans)] [.data, .data, .data, .data, .data] true :=
  Program.laidByTextLater.sub seatTie1 ["strata/flate.lengthSpans", "strata/flate.distanceSpans", "strata/flate.crcSteps", "strata/flate.sizeOrder", "strata/flate.repeatSpans"] (by kernel_rfl) (by kernel_rfl)
theorem flateSmall_row_tie : Rows.flateSmallRow.laidByTextAt .later Tryd.pinned [.data, .data, .data, .data, .data] true :=
  OpenClaim.laidByTextAt_later rfl rfl tie2 noOwnUnsafe
theorem flateSums_row_tie : Rows.flateSumsRow.laidByTextAt .later Tryd.pinned [.data, .data, .data, .data, .data] true :=
  OpenClaim.laidByTextAt_later rfl rfl tie2 noOwnUnsafe
theorem flateCutUpto_row_tie : Rows.flateCutUptoRow.laidByTextAt .later Tryd.pinned [.handle, .data, .data, .data, .data, .data] true :=
  OpenClaim.laidByTextAt_later rfl rfl tie noOwnUnsafe
theorem flateSmallUpto_row_tie : Rows.flateSmallUptoRow.laidByTextAt .later Tryd.pinned [.data, .data, .data, .data, .data] true :=
  OpenClaim.laidByTextAt_later rfl rfl tie2 noOwnUnsafe
theorem flateSumsUpto_row_tie : Rows.flateSumsUptoRow.laidByTextAt .later Tryd.pinned [.data, .data, .data, .data, .data] true :=
  OpenClaim.laidByTextAt_later rfl rfl tie2 noOwnUnsafe
theorem flateTellsUpto_row_tie : Rows.flateTellsUptoRow.laidByTextAt .later Tryd.pinned [.handle, .data, .data, .data, .data, .data] true :=
  OpenClaim.laidByTextAt_later rfl rfl tie noOwnUnsafe
end Go.Proofs.YtcoinfancoeepabDoor
