/-
  How a row's argument of type Spoil is opened into what the walks are told of it.
-/
import Derived.Test.YtogemhoempkjoaaDoorSlOpen
namespace Go.Proofs.YtogemhoempkjoaaDoor
open Go.ChangeShapes Go.WideShapes Go.ChangeAt Go.RowKit Go.Joins

theorem Tryd.cellsP : Tryd.prog.cellsOf 59 = 2 := by kernel_rfl

set_option maxRecDepth 100000 in
theorem open_spoil {H : Type} {enc : TypeId × Value → H} {W : World} {r : Reach} {b0 : Nat} {v : Value} {d : DataW H} {p : List MemPlace}
    (hv : Value.okWide Tryd.prog W r b0 59 v) (h : DataW.Trod enc Tryd.prog W 0 (fun _ => true) true 59 v d p) :
    ∃ t u, v = .agg #[.int .i64 t, .int .u32 u] ∧ (-9223372036854775808 ≤ t ∧ t ≤ 9223372036854775807) ∧ (0 ≤ u ∧ u < 4294967296) := by
  obtain ⟨v0, v1, y0, y1, m, rfl, rfl, rfl, hy0, hy1⟩ := open_agg2 Tryd.underlying59 (by kernel_rfl) Tryd.cellsP hv h
  obtain ⟨t, e0, hy, hwf⟩ := DataW.trod_int Tryd.underlying3 hy0
  simp only [List.cons.injEq, and_true] at e0
  subst e0
  obtain ⟨u, e1, hu, hwf2⟩ := DataW.trod_int Tryd.underlying24 hy1
  simp only [List.cons.injEq, and_true] at e1
  subst e1
  have hb := bounds_u32 hwf2
  exact ⟨t, u, rfl, bounds_i64 hwf, by omega⟩

end Go.Proofs.YtogemhoempkjoaaDoor
