/-
  The table of the months' days, out of a row's list.
-/
import Derived.Test.YtnpimjfdidbdfaaDoorRows
import Derived.Test.YtnpimjfdidbdfaaDoorCBase
import Derived.ProofKit
import Derived.OpenShut
import Derived.ShutString
import Derived.ChangeOld
import Derived.Below
import Derived.LaidMore
import Derived.LaidHandle
import Derived.Lib.LaidTab
import Derived.SevenTiedAt
namespace Go.Proofs.YtnpimjfdidbdfaaDoor
open Go.ChangeShapes Go.WideShapes Go.ChangeAt Go.RowKit

theorem Tryd.ownC : ownKnob Tryd.prog.godebug = none := by kernel_rfl
theorem gTab : Tryd.prog.globalNamed "chancery/clock.monthDays" = some 0 := by kernel_rfl
theorem tTab : (Tryd.prog.globals[0]?).map (·.type) = some 60 := by kernel_rfl
theorem dTab : (Rows.laid_chancery_clock_monthDays : DataW Unit) = Lib.tabData .i64 tabL := by kernel_rfl

theorem tab_of_laid {W : World} (h : laidMetH Tryd.prog [("chancery/clock.monthDays", Rows.laid_chancery_clock_monthDays)] W) : Tab W := by
  have h' : laidMet Tryd.prog [("chancery/clock.monthDays", Rows.laid_chancery_clock_monthDays)] W := h
  rw [dTab] at h'
  have hT := Lib.tabIs_of_head gTab tTab Tryd.underlying60 Tryd.underlying3 (by kernel_rfl) (by kernel_rfl) h'
  intro i hi
  exact hT.cell gTab i (by simpa [tabL] using hi)

end Go.Proofs.YtnpimjfdidbdfaaDoor
