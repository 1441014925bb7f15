/-
  DERIVED. GIVEN WITH THE SEED: THE PROGRAM's TIES (one call each: nine closed facts by the kernel) AND EACH ROW's TIE, after the 31st guide's Derived/Test/Toyas{Tie, Card}.lean. No idea stands in it: it is a product of the set-up. Laid BY PROGRAM, IN A SANDBOX (cutbox-door.mjs). By AI agents, Wed Nov 11 2026. No macro, syntax, notation, axiom, sorry.
-/
import Derived.Test.YthhbpebihgjpjaaDoorRows
import Derived.LaidByTextLater
import Derived.SevenTiedAt
import Derived.LaidSub
import Derived.LaidOnce
namespace Go.Proofs.YthhbpebihgjpjaaDoor
open Go
set_option maxRecDepth 100000
theorem seatTie1 : Tryd.prog.laidByTextLater [("errors.errorType", Rows.laid_errors_errorType), ("builder/builder.ErrName", Rows.laid_builder_builder_ErrName), ("builder/builder.ErrNone", Rows.laid_builder_builder_ErrNone), ("builder/builder.ErrRoom", Rows.laid_builder_builder_ErrRoom), ("builder/builder.ErrDown", Rows.laid_builder_builder_ErrDown), ("builder/builder.ErrSyntax", Rows.laid_builder_builder_ErrSyntax), ("builder/builder.ErrRule", Rows.laid_builder_builder_ErrRule), ("builder/builder.ErrTwice", Rows.laid_builder_builder_ErrTwice), ("builder/builder.ErrCycle", Rows.laid_builder_builder_ErrCycle), ("builder/builder.ErrTarget", Rows.laid_builder_builder_ErrTarget)] [.handle, .sentinel, .sentinel, .sentinel, .sentinel, .sentinel, .sentinel, .sentinel, .sentinel, .sentinel] true :=
  Program.laidByTextLater_by_one 202 8 65 (by kernel_rfl) (by kernel_rfl) (by kernel_rfl) (by kernel_rfl) (by kernel_rfl) (by kernel_rfl) (fun _ _ => by kernel_rfl)
theorem noOwnUnsafe : Tryd.pinned.checked.prog.headLifts.contains "ownunsafe" = false := by kernel_rfl
theorem tie : Tryd.prog.laidByTextLater [("errors.errorType", Rows.laid_errors_errorType), ("builder/builder.ErrName", Rows.laid_builder_builder_ErrName), ("builder/builder.ErrNone", Rows.laid_builder_builder_ErrNone), ("builder/builder.ErrRoom", Rows.laid_builder_builder_ErrRoom), ("builder/builder.ErrDown", Rows.laid_builder_builder_ErrDown), ("builder/builder.ErrSyntax", Rows.laid_builder_builder_ErrSyntax), ("builder/builder.ErrRule", Rows.laid_builder_builder_ErrRule), ("builder/builder.ErrTwice", Rows.laid_builder_builder_ErrTwice), ("builder/builder.ErrCycle", Rows.laid_builder_builder_ErrCycle), ("builder/builder.ErrTarget", Rows.laid_builder_builder_ErrTarget)] [.handle, .sentinel, .sentinel, .sentinel, .sentinel, .sentinel, .sentinel, .sentinel, .sentinel, .sentinel] true :=
  Program.laidByTextLater.sub seatTie1 ["errors.errorType", "builder/builder.ErrName", "builder/builder.ErrNone", "builder/builder.ErrRoom", "builder/builder.ErrDown", "builder/builder.ErrSyntax", "builder/builder.ErrRule", "builder/builder.ErrTwice", "builder/builder.ErrCycle", "builder/builder.ErrTarget"] (by kernel_rfl) (by kernel_rfl)
theorem names_row_tie : Rows.namesRow.laidByTextAt .later Tryd.pinned [.handle, .sentinel, .sentinel, .sentinel, .sentinel, .sentinel, .sentinel, .sentinel, .sentinel, .sentinel] true :=
  OpenClaim.laidByTextAt_later rfl rfl tie noOwnUnsafe
theorem namesUpto_row_tie : Rows.namesUptoRow.laidByTextAt .later Tryd.pinned [.handle, .sentinel, .sentinel, .sentinel, .sentinel, .sentinel, .sentinel, .sentinel, .sentinel, .sentinel] true :=
  OpenClaim.laidByTextAt_later rfl rfl tie noOwnUnsafe
end Go.Proofs.YthhbpebihgjpjaaDoor
