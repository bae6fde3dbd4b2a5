/-
  The two tables of package sha, out of a row's list.
-/
import Derived.Test.YtgajejomibnghaaDoorRows
import Derived.Test.YtgajejomibnghaaDoorSaMix
import Derived.Test.YtgajejomibnghaaDoorOpenB8
import Derived.LaidMore
import Derived.LaidHandle
import Derived.Lib.LaidTab
namespace Go.Proofs.YtgajejomibnghaaDoor
open Go.ChangeShapes Go.WideShapes Go.ChangeAt Go.RowKit

theorem gFirst : Tryd.prog.globalNamed "chancery/sha.firstWords" = some 0 := by kernel_rfl
theorem tFirst : (Tryd.prog.globals[0]?).map (·.type) = some 70 := by kernel_rfl
theorem dFirst : (Rows.laid_chancery_sha_firstWords : DataW Unit) = Lib.tabData .u32 hL := by kernel_rfl
theorem gRound : Tryd.prog.globalNamed "chancery/sha.roundWords" = some 1 := by kernel_rfl
theorem tRound : (Tryd.prog.globals[1]?).map (·.type) = some 92 := by kernel_rfl
theorem dRound : (Rows.laid_chancery_sha_roundWords : DataW Unit) = Lib.tabData .u32 kL := by kernel_rfl

theorem range_of_tab {W : World} {name : String} {g : Nat} {zs : List Int} (hg : Tryd.prog.globalNamed name = some g) (h : Lib.TabIs Tryd.prog W name .u32 zs) : W.rangeAt g 0 (zs.map (Value.int .u32)) := by
  intro j v hv
  have hj : j < zs.length := by have := (List.getElem?_eq_some_iff.1 hv).1; simpa using this
  have := h.cell hg j hj
  rw [Nat.zero_add, this]
  simp [List.getElem?_eq_getElem hj] at hv
  subst hv
  simp [List.getD, hj]

theorem tabs_of_laid {W : World} (h : laidMetH Tryd.prog [("chancery/sha.firstWords", Rows.laid_chancery_sha_firstWords), ("chancery/sha.roundWords", Rows.laid_chancery_sha_roundWords)] W) : Tabs W := by
  have h' : laidMet Tryd.prog [("chancery/sha.firstWords", Rows.laid_chancery_sha_firstWords), ("chancery/sha.roundWords", Rows.laid_chancery_sha_roundWords)] W := h
  have h1 := h'
  rw [dFirst] at h1
  have hF := Lib.tabIs_of_head gFirst tFirst Tryd.underlying70 Tryd.underlying65 (by kernel_rfl) (by kernel_rfl) h1
  obtain ⟨ps, ⟨_, _, _, _, _, _, _, _, _, _, ⟨g', t', cs, fuel, p, q, hg', ht', hvar, hd, _, _⟩, _⟩, _⟩ := h'
  rw [dRound] at hd
  obtain rfl := Option.some.inj (gRound.symm.trans hg')
  obtain rfl := Option.some.inj (tRound.symm.trans ht')
  have hR : Lib.TabIs Tryd.prog W "chancery/sha.roundWords" .u32 kL := by
    unfold Lib.TabIs
    rw [hvar, ← Lib.cells_of_tab Tryd.underlying92 Tryd.underlying65 (by kernel_rfl) (by kernel_rfl) hd]
  exact ⟨range_of_tab gRound hR, range_of_tab gFirst hF⟩

end Go.Proofs.YtgajejomibnghaaDoor
