/-
  The tables of package curve, out of a row's list.
-/
import Derived.Test.YtejfbamijjddgaaDoorRows
import Derived.Test.YtejfbamijjddgaaDoorCvNam
import Derived.Test.YtejfbamijjddgaaDoorOpen
import Derived.LaidMore
import Derived.LaidHandle
import Derived.LaidSub
import Derived.Lib.LaidTab
namespace Go.Proofs.YtejfbamijjddgaaDoor
open Go.ChangeShapes Go.WideShapes Go.ChangeAt Go.RowKit

theorem range_of_tab {W : World} {name : String} {g : Nat} {zs : List Int} (hg : Tryd.prog.globalNamed name = some g) (h : Lib.TabIs Tryd.prog W name .u64 zs) : W.rangeAt g 0 (zs.map (Value.int .u64)) := by
  intro j v hv
  have hj : j < zs.length := by have := (List.getElem?_eq_some_iff.1 hv).1; simpa using this
  have := h.cell hg j hj
  rw [Nat.zero_add, this]
  simp [List.getElem?_eq_getElem hj] at hv
  subst hv
  simp [List.getD, hj]

theorem tab_order {W : World} {l : List (String × DataW Unit)} (h : laidMetH Tryd.prog l W) (e : l.filter (fun x => x.1 == "chancery/curve.order") = [("chancery/curve.order", Rows.laid_chancery_curve_order)]) : W.rangeAt 2 0 ([17562291160714782033, 13611842547513532036, 18446744073709551615, 18446744069414584320].map (Value.int .u64)) := by
  have h1 := h.filter (fun x => x.1 == "chancery/curve.order")
  rw [e] at h1
  have h2 : laidMet Tryd.prog [("chancery/curve.order", Lib.tabData .u64 [17562291160714782033, 13611842547513532036, 18446744073709551615, 18446744069414584320])] W := h1
  exact range_of_tab (by kernel_rfl) (Lib.tabIs_of_head (g := 2) (t := 104) (by kernel_rfl) (by kernel_rfl) Tryd.underlying104 Tryd.underlying66 (by kernel_rfl) (by kernel_rfl) h2)

theorem tab_baseX {W : World} {l : List (String × DataW Unit)} (h : laidMetH Tryd.prog l W) (e : l.filter (fun x => x.1 == "chancery/curve.baseX") = [("chancery/curve.baseX", Rows.laid_chancery_curve_baseX)]) : W.rangeAt 0 0 ([17627433388654248598, 8575836109218198432, 17923454489921339634, 7716867327612699207].map (Value.int .u64)) := by
  have h1 := h.filter (fun x => x.1 == "chancery/curve.baseX")
  rw [e] at h1
  have h2 : laidMet Tryd.prog [("chancery/curve.baseX", Lib.tabData .u64 [17627433388654248598, 8575836109218198432, 17923454489921339634, 7716867327612699207])] W := h1
  exact range_of_tab (by kernel_rfl) (Lib.tabIs_of_head (g := 0) (t := 104) (by kernel_rfl) (by kernel_rfl) Tryd.underlying104 Tryd.underlying66 (by kernel_rfl) (by kernel_rfl) h2)

theorem tab_baseY {W : World} {l : List (String × DataW Unit)} (h : laidMetH Tryd.prog l W) (e : l.filter (fun x => x.1 == "chancery/curve.baseY") = [("chancery/curve.baseY", Rows.laid_chancery_curve_baseY)]) : W.rangeAt 1 0 ([14678990851816772085, 3156516839386865358, 10297457778147434006, 5756518291402817435].map (Value.int .u64)) := by
  have h1 := h.filter (fun x => x.1 == "chancery/curve.baseY")
  rw [e] at h1
  have h2 : laidMet Tryd.prog [("chancery/curve.baseY", Lib.tabData .u64 [14678990851816772085, 3156516839386865358, 10297457778147434006, 5756518291402817435])] W := h1
  exact range_of_tab (by kernel_rfl) (Lib.tabIs_of_head (g := 1) (t := 104) (by kernel_rfl) (by kernel_rfl) Tryd.underlying104 Tryd.underlying66 (by kernel_rfl) (by kernel_rfl) h2)

theorem tab_coefficient {W : World} {l : List (String × DataW Unit)} (h : laidMetH Tryd.prog l W) (e : l.filter (fun x => x.1 == "chancery/curve.coefficient") = [("chancery/curve.coefficient", Rows.laid_chancery_curve_coefficient)]) : W.rangeAt 3 0 ([4309448131093880907, 7285987128567378166, 12964664127075681980, 6540974713487397863].map (Value.int .u64)) := by
  have h1 := h.filter (fun x => x.1 == "chancery/curve.coefficient")
  rw [e] at h1
  have h2 : laidMet Tryd.prog [("chancery/curve.coefficient", Lib.tabData .u64 [4309448131093880907, 7285987128567378166, 12964664127075681980, 6540974713487397863])] W := h1
  exact range_of_tab (by kernel_rfl) (Lib.tabIs_of_head (g := 3) (t := 104) (by kernel_rfl) (by kernel_rfl) Tryd.underlying104 Tryd.underlying66 (by kernel_rfl) (by kernel_rfl) h2)

theorem tab_one {W : World} {l : List (String × DataW Unit)} (h : laidMetH Tryd.prog l W) (e : l.filter (fun x => x.1 == "chancery/curve.one") = [("chancery/curve.one", Rows.laid_chancery_curve_one)]) : W.rangeAt 4 0 ([1, 18446744069414584320, 18446744073709551615, 4294967294].map (Value.int .u64)) := by
  have h1 := h.filter (fun x => x.1 == "chancery/curve.one")
  rw [e] at h1
  have h2 : laidMet Tryd.prog [("chancery/curve.one", Lib.tabData .u64 [1, 18446744069414584320, 18446744073709551615, 4294967294])] W := h1
  exact range_of_tab (by kernel_rfl) (Lib.tabIs_of_head (g := 4) (t := 84) (by kernel_rfl) (by kernel_rfl) Tryd.underlying84 Tryd.underlying66 (by kernel_rfl) (by kernel_rfl) h2)

theorem tab_lift {W : World} {l : List (String × DataW Unit)} (h : laidMetH Tryd.prog l W) (e : l.filter (fun x => x.1 == "chancery/curve.lift") = [("chancery/curve.lift", Rows.laid_chancery_curve_lift)]) : W.rangeAt 5 0 ([3, 18446744056529682431, 18446744073709551614, 21474836477].map (Value.int .u64)) := by
  have h1 := h.filter (fun x => x.1 == "chancery/curve.lift")
  rw [e] at h1
  have h2 : laidMet Tryd.prog [("chancery/curve.lift", Lib.tabData .u64 [3, 18446744056529682431, 18446744073709551614, 21474836477])] W := h1
  exact range_of_tab (by kernel_rfl) (Lib.tabIs_of_head (g := 5) (t := 84) (by kernel_rfl) (by kernel_rfl) Tryd.underlying84 Tryd.underlying66 (by kernel_rfl) (by kernel_rfl) h2)

end Go.Proofs.YtejfbamijjddgaaDoor
