/-
  DERIVED. GIVEN WITH THE SEED: THE PROGRAM's TIES (one call each: nine closed facts by the kernel) AND EACH ROW's TIE, after the 31st guide's Derived/Test/Toyas{Tie, Card}.lean. No idea stands in it: it is a product of the set-up. Laid BY PROGRAM, IN A SANDBOX (cutbox-door.mjs). By AI agents, Wed Nov 11 2026. No macro, syntax, notation, axiom, sorry.
-/
import Derived.Test.YtgcdddkebehajaaDoorRows
import Derived.LaidByTextLater
import Derived.SevenTiedAt
import Derived.LaidSub
import Derived.LaidOnce
namespace Go.Proofs.YtgcdddkebehajaaDoor
open Go
set_option maxRecDepth 100000
theorem seatTie1 : Tryd.prog.laidByTextLater [("errors.errorType", Rows.laid_errors_errorType), ("unicode.White_Space", Rows.laid_unicode_White_Space), ("strings.asciiSpace", Rows.laid_strings_asciiSpace), ("courier/stamp.monthDays", Rows.laid_courier_stamp_monthDays), ("courier/types.tables", Rows.laid_courier_types_tables), ("courier/setup.common", Rows.laid_courier_setup_common)] [.handle, .listed, .data, .data, .data, .data] true :=
  Program.laidByTextLater_by_one 64 8 257 (by kernel_rfl) (by kernel_rfl) (by kernel_rfl) (by kernel_rfl) (by kernel_rfl) (by kernel_rfl) (fun _ _ => by kernel_rfl)
theorem noOwnUnsafe : Tryd.pinned.checked.prog.headLifts.contains "ownunsafe" = false := by kernel_rfl
theorem tie : Tryd.prog.laidByTextLater [("errors.errorType", Rows.laid_errors_errorType), ("unicode.White_Space", Rows.laid_unicode_White_Space), ("strings.asciiSpace", Rows.laid_strings_asciiSpace), ("courier/stamp.monthDays", Rows.laid_courier_stamp_monthDays), ("courier/types.tables", Rows.laid_courier_types_tables), ("courier/setup.common", Rows.laid_courier_setup_common)] [.handle, .listed, .data, .data, .data, .data] true :=
  Program.laidByTextLater.sub seatTie1 ["errors.errorType", "unicode.White_Space", "strings.asciiSpace", "courier/stamp.monthDays", "courier/types.tables", "courier/setup.common"] (by kernel_rfl) (by kernel_rfl)
theorem setupDefaults_row_tie : Rows.setupDefaultsRow.laidByTextAt .later Tryd.pinned [.handle, .listed, .data, .data, .data, .data] true :=
  OpenClaim.laidByTextAt_later rfl rfl tie noOwnUnsafe
theorem setupDefaultsUpto_row_tie : Rows.setupDefaultsUptoRow.laidByTextAt .later Tryd.pinned [.handle, .listed, .data, .data, .data, .data] true :=
  OpenClaim.laidByTextAt_later rfl rfl tie noOwnUnsafe
end Go.Proofs.YtgcdddkebehajaaDoor
