/-
  The statement SlipTakes: its walk.
-/
import Derived.Test.YtilkbjohekhjcaaDoorSlPuts
import Derived.Test.YtilkbjohekhjcaaDoorSlRTake
namespace Go.Proofs.YtilkbjohekhjcaaDoor
open Go.RowKit Go.IntWalk

theorem grown_drew {w w' : World} {r : Option Nat} (h : w.grownBy w' r) : w.grownBy w'.drew r := ⟨h.os, h.tape, h.output, h.size, h.block⟩

theorem slipD_bd (xs : List Int) (hb : ∀ x ∈ xs, 0 ≤ x ∧ x < 256) : ∀ x ∈ slipD xs, 0 ≤ x ∧ x < 256 := by
  unfold slipD dataOf
  split
  · intro x hx
    exact hb x (List.mem_of_mem_take (List.mem_of_mem_take (List.mem_of_mem_drop hx)))
  · simp

end Go.Proofs.YtilkbjohekhjcaaDoor
