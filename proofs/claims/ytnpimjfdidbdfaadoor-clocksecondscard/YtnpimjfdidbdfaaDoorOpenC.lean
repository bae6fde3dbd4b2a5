/-
  How a row's argument of type Civil is opened: six integers.
-/
import Derived.Test.YtnpimjfdidbdfaaDoorCLaid
import Derived.Test.YtnpimjfdidbdfaaDoorCSix
import Derived.Lib.SmallJoins
namespace Go.Proofs.YtnpimjfdidbdfaaDoor
open Go.ChangeShapes Go.WideShapes Go.ChangeAt Go.RowKit Go.Joins

theorem Tryd.laidOutC : laidOutB Tryd.prog = true := by kernel_rfl
theorem Tryd.cellsC : Tryd.prog.cellsOf 23 = 6 := by kernel_rfl
theorem Tryd.cellsI : Tryd.prog.cellsOf 3 = 1 := by kernel_rfl

theorem array6 {α : Type} {a : Array α} (h : a.size = 6) : ∃ c0 c1 c2 c3 c4 c5, a = #[c0, c1, c2, c3, c4, c5] := by
  obtain ⟨l⟩ := a
  match l, h with
  | [c0, c1, c2, c3, c4, c5], _ => exact ⟨c0, c1, c2, c3, c4, c5, rfl⟩

set_option maxRecDepth 100000 in
theorem open_civ {H : Type} {enc : TypeId × Value → H} {W : World} {r : Reach} {b0 : Nat} {v : Value} {d : DataW H} {p : List MemPlace}
    (hv : Value.okWide Tryd.prog W r b0 23 v) (h : DataW.Trod enc Tryd.prog W 0 (fun _ => true) true 23 v d p) :
    ∃ a b c e f g, v = agg6 a b c e f g := by
  have hs := Tryd.underlying23
  obtain ⟨cs, rfl, hsz⟩ := okWide_struct hs hv
  obtain ⟨c0, c1, c2, c3, c4, c5, rfl⟩ := array6 (hsz.trans Tryd.cellsC)
  obtain ⟨fuel, hf⟩ := h
  obtain ⟨xs, n, _, _, hl, hlen, hfs⟩ := DataW.trod_struct hs hf
  have g0 := hfs 0 _ rfl
  have g1 := hfs 1 _ rfl
  have g2 := hfs 2 _ rfl
  have g3 := hfs 3 _ rfl
  have g4 := hfs 4 _ rfl
  have g5 := hfs 5 _ rfl
  simp only [Value.cells] at g0 g1 g2 g3 g4 g5
  match xs, hlen with
  | [y0, y1, y2, y3, y4, y5], _ =>
    have k0 : DataW.trod enc Tryd.prog W 0 (fun _ => true) true n 3 [c0] = some y0 := by simpa [Tryd.cellsI] using g0
    have k1 : DataW.trod enc Tryd.prog W 0 (fun _ => true) true n 3 [c1] = some y1 := by simpa [Tryd.cellsI] using g1
    have k2 : DataW.trod enc Tryd.prog W 0 (fun _ => true) true n 3 [c2] = some y2 := by simpa [Tryd.cellsI] using g2
    have k3 : DataW.trod enc Tryd.prog W 0 (fun _ => true) true n 3 [c3] = some y3 := by simpa [Tryd.cellsI] using g3
    have k4 : DataW.trod enc Tryd.prog W 0 (fun _ => true) true n 3 [c4] = some y4 := by simpa [Tryd.cellsI] using g4
    have k5 : DataW.trod enc Tryd.prog W 0 (fun _ => true) true n 3 [c5] = some y5 := by simpa [Tryd.cellsI] using g5
    obtain ⟨a, e0, _, _⟩ := DataW.trod_int Tryd.underlying3 k0
    obtain ⟨b, e1, _, _⟩ := DataW.trod_int Tryd.underlying3 k1
    obtain ⟨c, e2, _, _⟩ := DataW.trod_int Tryd.underlying3 k2
    obtain ⟨e, e3, _, _⟩ := DataW.trod_int Tryd.underlying3 k3
    obtain ⟨f, e4, _, _⟩ := DataW.trod_int Tryd.underlying3 k4
    obtain ⟨g, e5, _, _⟩ := DataW.trod_int Tryd.underlying3 k5
    simp only [List.cons.injEq, and_true] at e0 e1 e2 e3 e4 e5
    subst e0 e1 e2 e3 e4 e5
    exact ⟨a, b, c, e, f, g, rfl⟩

end Go.Proofs.YtnpimjfdidbdfaaDoor
