/-
  How a row's argument of type Slip is opened into what the walks are told of it.
-/
import Derived.Test.YtilkbjohekhjcaaDoorOpen
import Derived.Lib.SmallJoins
namespace Go.Proofs.YtilkbjohekhjcaaDoor
open Go.ChangeShapes Go.WideShapes Go.ChangeAt Go.RowKit Go.Joins

theorem Tryd.cellsE : Tryd.prog.cellsOf 30 = 2 := by kernel_rfl

/-- What the data's reading says of their length. -/
def ReadsB {H : Type} (d : DataW H) (len cap : Nat) : Prop := (d = .nil ∧ len = 0 ∧ cap = 0) ∨ ∃ el sp, d = .slice el sp ∧ el.length + sp.length = cap

set_option maxRecDepth 100000 in
theorem open_slip {H : Type} {enc : TypeId × Value → H} {W : World} {r : Reach} {b0 : Nat} {v : Value} {d : DataW H} {p : List MemPlace}
    (hv : Value.okWide Tryd.prog W r b0 30 v) (h : DataW.Trod enc Tryd.prog W 0 (fun _ => true) true 30 v d p) :
    ∃ t a n c xs d1, v = .agg #[.int .i64 t, .slice a n c] ∧ Src W a n c xs ∧ d = .agg [.lit (.int .i64 t), d1] ∧ ReadsB d1 n c ∧ (-9223372036854775808 ≤ t ∧ t ≤ 9223372036854775807) := by
  obtain ⟨v0, v1, y0, y1, m, rfl, rfl, rfl, hy0, hy1⟩ := open_agg2 Tryd.underlying30 (by kernel_rfl) Tryd.cellsE hv h
  obtain ⟨t, e0, hy, hwf⟩ := DataW.trod_int Tryd.underlying3 hy0
  simp only [List.cons.injEq, and_true] at e0
  subst e0
  have hs : ∃ a n c, v1 = .slice a n c := by
    rcases open_ints Tryd.underlying24 Tryd.underlying5 Tryd.cellsB hy1 with ⟨hcs, _⟩ | ⟨x, l, c, zs, hcs, _⟩
    · simp at hcs; exact ⟨_, _, _, hcs⟩
    · simp at hcs; exact ⟨_, _, _, hcs⟩
  obtain ⟨a, n, c, rfl⟩ := hs
  have h1 : DataW.Trod enc Tryd.prog W 0 (fun _ => true) true 24 (.slice a n c) y1.1 y1.2 := ⟨m, hy1⟩
  obtain ⟨xs, hsrc, hrd⟩ := open_bytes h1
  exact ⟨t, a, n, c, xs, y1.1, rfl, hsrc, by rw [hy], hrd, bounds_i64 hwf⟩

end Go.Proofs.YtilkbjohekhjcaaDoor
