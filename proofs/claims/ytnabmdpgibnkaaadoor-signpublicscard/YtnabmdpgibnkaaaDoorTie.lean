/-
  DERIVED. GIVEN WITH THE SEED: THE PROGRAM's TIES (one call each: nine closed facts by the kernel) AND EACH ROW's TIE, after the 31st guide's Derived/Test/Toyas{Tie, Card}.lean. No idea stands in it: it is a product of the set-up. Laid BY PROGRAM, IN A SANDBOX (cutbox-door.mjs). By AI agents, Wed Nov 11 2026. No macro, syntax, notation, axiom, sorry.
-/
import Derived.Test.YtnabmdpgibnkaaaDoorRows
import Derived.LaidByTextLater
import Derived.SevenTiedAt
import Derived.LaidSub
import Derived.LaidOnce
namespace Go.Proofs.YtnabmdpgibnkaaaDoor
open Go
set_option maxRecDepth 100000
theorem seatTie1 : Tryd.prog.laidByTextLater [("chancery/curve.order", Rows.laid_chancery_curve_order), ("chancery/curve.baseX", Rows.laid_chancery_curve_baseX), ("chancery/curve.baseY", Rows.laid_chancery_curve_baseY), ("chancery/curve.one", Rows.laid_chancery_curve_one), ("chancery/curve.lift", Rows.laid_chancery_curve_lift), ("chancery/curve.coefficient", Rows.laid_chancery_curve_coefficient)] [.data, .data, .data, .data, .data, .data] true :=
  Program.laidByTextLater_by_one 39 8 5 (by kernel_rfl) (by kernel_rfl) (by kernel_rfl) (by kernel_rfl) (by kernel_rfl) (by kernel_rfl) (fun _ _ => by kernel_rfl)
theorem noOwnUnsafe : Tryd.pinned.checked.prog.headLifts.contains "ownunsafe" = false := by kernel_rfl
theorem tie : Tryd.prog.laidByTextLater [("chancery/curve.order", Rows.laid_chancery_curve_order), ("chancery/curve.baseX", Rows.laid_chancery_curve_baseX), ("chancery/curve.baseY", Rows.laid_chancery_curve_baseY), ("chancery/curve.one", Rows.laid_chancery_curve_one), ("chancery/curve.lift", Rows.laid_chancery_curve_lift), ("chancery/curve.coefficient", Rows.laid_chancery_curve_coefficient)] [.data, .data, .data, .data, .data, .data] true :=
  Program.laidByTextLater.sub seatTie1 ["chancery/curve.order", "chancery/curve.baseX", "chancery/curve.baseY", "chancery/curve.one", "chancery/curve.lift", "chancery/curve.coefficient"] (by kernel_rfl) (by kernel_rfl)
theorem signPublics_row_tie : Rows.signPublicsRow.laidByTextAt .later Tryd.pinned [.data, .data, .data, .data, .data, .data] true :=
  OpenClaim.laidByTextAt_later rfl rfl tie noOwnUnsafe
theorem tie2 : Tryd.prog.laidByTextLater [("chancery/curve.order", Rows.laid_chancery_curve_order)] [.data] true :=
  Program.laidByTextLater.sub seatTie1 ["chancery/curve.order"] (by kernel_rfl) (by kernel_rfl)
theorem signCodes_row_tie : Rows.signCodesRow.laidByTextAt .later Tryd.pinned [.data] true :=
  OpenClaim.laidByTextAt_later rfl rfl tie2 noOwnUnsafe
theorem signPublicsUpto_row_tie : Rows.signPublicsUptoRow.laidByTextAt .later Tryd.pinned [.data, .data, .data, .data, .data, .data] true :=
  OpenClaim.laidByTextAt_later rfl rfl tie noOwnUnsafe
theorem signCodesUpto_row_tie : Rows.signCodesUptoRow.laidByTextAt .later Tryd.pinned [.data] true :=
  OpenClaim.laidByTextAt_later rfl rfl tie2 noOwnUnsafe
end Go.Proofs.YtnabmdpgibnkaaaDoor
