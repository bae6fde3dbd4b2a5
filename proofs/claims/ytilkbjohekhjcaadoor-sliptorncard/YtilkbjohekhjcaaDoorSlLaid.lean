/-
  The table of package slip, out of a row's list.
-/
import Derived.Test.YtilkbjohekhjcaaDoorRows
import Derived.Test.YtilkbjohekhjcaaDoorSlMov
import Derived.Test.YtilkbjohekhjcaaDoorOpen
import Derived.LaidMore
import Derived.LaidHandle
import Derived.Lib.LaidTab
namespace Go.Proofs.YtilkbjohekhjcaaDoor
open Go.ChangeShapes Go.WideShapes Go.ChangeAt Go.RowKit

theorem gFallen : Tryd.prog.globalNamed "chancery/slip.fallen" = some 0 := by kernel_rfl
theorem tFallen : (Tryd.prog.globals[0]?).map (·.type) = some 54 := by kernel_rfl
theorem dFallen : (Rows.laid_chancery_slip_fallen : DataW Unit) = Lib.tabData .u32 tabL := by kernel_rfl

theorem range_of_tab {W : World} {name : String} {g : Nat} {zs : List Int} (hg : Tryd.prog.globalNamed name = some g) (h : Lib.TabIs Tryd.prog W name .u32 zs) : W.rangeAt g 0 (zs.map (Value.int .u32)) := by
  intro j v hv
  have hj : j < zs.length := by have := (List.getElem?_eq_some_iff.1 hv).1; simpa using this
  have := h.cell hg j hj
  rw [Nat.zero_add, this]
  simp [List.getElem?_eq_getElem hj] at hv
  subst hv
  simp [List.getD, hj]

theorem tab_of_laid {W : World} (h : laidMetH Tryd.prog [("chancery/slip.fallen", Rows.laid_chancery_slip_fallen)] W) : Tab W := by
  have h1 : laidMet Tryd.prog [("chancery/slip.fallen", Rows.laid_chancery_slip_fallen)] W := h
  rw [dFallen] at h1
  have hF := Lib.tabIs_of_head gFallen tFallen Tryd.underlying54 Tryd.underlying40 (by kernel_rfl) (by kernel_rfl) h1
  exact range_of_tab gFallen hF

end Go.Proofs.YtilkbjohekhjcaaDoor
