/-
  DERIVED. GIVEN WITH THE SEED: THE PROGRAM's TIES (one call each: nine closed facts by the kernel) AND EACH ROW's TIE, after the 31st guide's Derived/Test/Toyas{Tie, Card}.lean. No idea stands in it: it is a product of the set-up. Laid BY PROGRAM, IN A SANDBOX (cutbox-door.mjs). By AI agents, Wed Nov 11 2026. No macro, syntax, notation, axiom, sorry.
-/
import Derived.Test.YtcijjmncilciiaaDoorRows
import Derived.LaidByTextLater
import Derived.SevenTiedAt
import Derived.LaidSub
import Derived.LaidOnce
namespace Go.Proofs.YtcijjmncilciiaaDoor
open Go
set_option maxRecDepth 100000
theorem seatTie1 : Tryd.prog.laidByTextLater [("unicode/utf8.acceptRanges", Rows.laid_unicode_utf8_acceptRanges), ("chancery/curve.order", Rows.laid_chancery_curve_order), ("chancery/curve.baseX", Rows.laid_chancery_curve_baseX), ("chancery/curve.baseY", Rows.laid_chancery_curve_baseY), ("chancery/curve.one", Rows.laid_chancery_curve_one), ("chancery/curve.lift", Rows.laid_chancery_curve_lift), ("chancery/curve.coefficient", Rows.laid_chancery_curve_coefficient)] [.data, .data, .data, .data, .data, .data, .data] true :=
  Program.laidByTextLater_by_one 49 8 33 (by kernel_rfl) (by kernel_rfl) (by kernel_rfl) (by kernel_rfl) (by kernel_rfl) (by kernel_rfl) (fun _ _ => by kernel_rfl)
theorem pin_laid_unicode_utf8_first : Tryd.pinned.checked.prog.pinnedFits "unicode/utf8.first" = true := by kernel_rfl
theorem noOwnUnsafe : Tryd.pinned.checked.prog.headLifts.contains "ownunsafe" = false := by kernel_rfl
theorem tie : Tryd.prog.laidByTextLater [("chancery/curve.order", Rows.laid_chancery_curve_order), ("chancery/curve.baseX", Rows.laid_chancery_curve_baseX), ("chancery/curve.baseY", Rows.laid_chancery_curve_baseY), ("chancery/curve.one", Rows.laid_chancery_curve_one), ("chancery/curve.lift", Rows.laid_chancery_curve_lift), ("chancery/curve.coefficient", Rows.laid_chancery_curve_coefficient)] [.data, .data, .data, .data, .data, .data] true :=
  Program.laidByTextLater.sub seatTie1 ["chancery/curve.order", "chancery/curve.baseX", "chancery/curve.baseY", "chancery/curve.one", "chancery/curve.lift", "chancery/curve.coefficient"] (by kernel_rfl) (by kernel_rfl)
theorem curveAdds_row_tie : Rows.curveAddsRow.laidByTextAt .later Tryd.pinned [.data, .data, .data, .data, .data, .data] true :=
  OpenClaim.laidByTextAt_later rfl rfl tie noOwnUnsafe
theorem curveMuls_row_tie : Rows.curveMulsRow.laidByTextAt .later Tryd.pinned [.data, .data, .data, .data, .data, .data] true :=
  OpenClaim.laidByTextAt_later rfl rfl tie noOwnUnsafe
theorem curveCodes_row_tie : Rows.curveCodesRow.laidByTextAt .later Tryd.pinned [.data, .data, .data, .data, .data, .data] true :=
  OpenClaim.laidByTextAt_later rfl rfl tie noOwnUnsafe
theorem fits2 : Tryd.pinned.checked.prog.listedFits [("unicode/utf8.acceptRanges", Rows.laid_unicode_utf8_acceptRanges), ("chancery/curve.order", Rows.laid_chancery_curve_order), ("chancery/curve.baseX", Rows.laid_chancery_curve_baseX), ("chancery/curve.baseY", Rows.laid_chancery_curve_baseY), ("chancery/curve.one", Rows.laid_chancery_curve_one), ("chancery/curve.lift", Rows.laid_chancery_curve_lift), ("chancery/curve.coefficient", Rows.laid_chancery_curve_coefficient), ("unicode/utf8.first", Rows.laid_unicode_utf8_first)] = true := by
  unfold Program.listedFits
  rw [noOwnUnsafe]
  kernel_rfl
theorem tie2 : Tryd.prog.laidByTextLater [("unicode/utf8.acceptRanges", Rows.laid_unicode_utf8_acceptRanges), ("chancery/curve.order", Rows.laid_chancery_curve_order), ("chancery/curve.baseX", Rows.laid_chancery_curve_baseX), ("chancery/curve.baseY", Rows.laid_chancery_curve_baseY), ("chancery/curve.one", Rows.laid_chancery_curve_one), ("chancery/curve.lift", Rows.laid_chancery_curve_lift), ("chancery/curve.coefficient", Rows.laid_chancery_curve_coefficient)] [.data, .data, .data, .data, .data, .data, .data] true :=
  Program.laidByTextLater.sub seatTie1 ["unicode/utf8.acceptRanges", "chancery/curve.order", "chancery/curve.baseX", "chancery/curve.baseY", "chancery/curve.one", "chancery/curve.lift", "chancery/curve.coefficient"] (by kernel_rfl) (by kernel_rfl)
theorem curveGroup_row_tie : Rows.curveGroupRow.laidByTextAt .later Tryd.pinned [.data, .data, .data, .data, .data, .data, .data, .pinned] true :=
  OpenClaim.laidByTextAt_pinned rfl rfl tie2 rfl rfl rfl rfl (fun y hy _e => by
    simp only [Rows.curveGroupRow, List.zip_cons_cons, List.zip_nil_right, List.mem_cons, List.mem_nil_iff, or_false] at hy
    rcases hy with rfl | rfl | rfl | rfl | rfl | rfl | rfl | rfl
    · cases _e
    · cases _e
    · cases _e
    · cases _e
    · cases _e
    · cases _e
    · cases _e
    · exact ⟨pin_laid_unicode_utf8_first, by kernel_rfl⟩) fits2
theorem tie3 : Tryd.prog.laidByTextLater [("chancery/curve.baseX", Rows.laid_chancery_curve_baseX), ("chancery/curve.baseY", Rows.laid_chancery_curve_baseY), ("chancery/curve.one", Rows.laid_chancery_curve_one), ("chancery/curve.lift", Rows.laid_chancery_curve_lift), ("chancery/curve.coefficient", Rows.laid_chancery_curve_coefficient)] [.data, .data, .data, .data, .data] true :=
  Program.laidByTextLater.sub seatTie1 ["chancery/curve.baseX", "chancery/curve.baseY", "chancery/curve.one", "chancery/curve.lift", "chancery/curve.coefficient"] (by kernel_rfl) (by kernel_rfl)
theorem curveBrackets_row_tie : Rows.curveBracketsRow.laidByTextAt .later Tryd.pinned [.data, .data, .data, .data, .data] true :=
  OpenClaim.laidByTextAt_later rfl rfl tie3 noOwnUnsafe
theorem curveAddsUpto_row_tie : Rows.curveAddsUptoRow.laidByTextAt .later Tryd.pinned [.data, .data, .data, .data, .data, .data] true :=
  OpenClaim.laidByTextAt_later rfl rfl tie noOwnUnsafe
theorem curveMulsUpto_row_tie : Rows.curveMulsUptoRow.laidByTextAt .later Tryd.pinned [.data, .data, .data, .data, .data, .data] true :=
  OpenClaim.laidByTextAt_later rfl rfl tie noOwnUnsafe
theorem curveGroupUpto_row_tie : Rows.curveGroupUptoRow.laidByTextAt .later Tryd.pinned [.data, .data, .data, .data, .data, .data, .data, .pinned] true :=
  OpenClaim.laidByTextAt_pinned rfl rfl tie2 rfl rfl rfl rfl (fun y hy _e => by
    simp only [Rows.curveGroupUptoRow, List.zip_cons_cons, List.zip_nil_right, List.mem_cons, List.mem_nil_iff, or_false] at hy
    rcases hy with rfl | rfl | rfl | rfl | rfl | rfl | rfl | rfl
    · cases _e
    · cases _e
    · cases _e
    · cases _e
    · cases _e
    · cases _e
    · cases _e
    · exact ⟨pin_laid_unicode_utf8_first, by kernel_rfl⟩) fits2
theorem curveBracketsUpto_row_tie : Rows.curveBracketsUptoRow.laidByTextAt .later Tryd.pinned [.data, .data, .data, .data, .data] true :=
  OpenClaim.laidByTextAt_later rfl rfl tie3 noOwnUnsafe
theorem curveCodesUpto_row_tie : Rows.curveCodesUptoRow.laidByTextAt .later Tryd.pinned [.data, .data, .data, .data, .data, .data] true :=
  OpenClaim.laidByTextAt_later rfl rfl tie noOwnUnsafe
end Go.Proofs.YtcijjmncilciiaaDoor
