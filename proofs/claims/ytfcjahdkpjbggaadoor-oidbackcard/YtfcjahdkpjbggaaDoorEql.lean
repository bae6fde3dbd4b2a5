/-
  slices.Equal, oid.Compare, oid.Begins, the document's Begins, and the statements' own 'same', 'kept', 'names', over any lists of numbers.
-/
import Derived.Test.YtfcjahdkpjbggaaDoorCmp
import Derived.Test.YtfcjahdkpjbggaaDoorKept3
namespace Go.Proofs.YtfcjahdkpjbggaaDoor
open Go.RowKit Go.IntWalk

theorem eq_of_drops {xs ys : List Int} (k : Nat) (h : xs.take k = ys.take k) (hx : xs.length ≤ k) (hy : ys.length ≤ k) : xs = ys := by
  rwa [List.take_of_length_le hx, List.take_of_length_le hy] at h

theorem take_next {xs ys : List Int} (k : Nat) (h : xs.take k = ys.take k) (hx : k < xs.length) (hy : k < ys.length) (he : xs.getD k 0 = ys.getD k 0) : xs.take (k + 1) = ys.take (k + 1) := by
  rw [List.take_add_one, List.take_add_one, h]
  rw [List.getD, List.getD, List.getElem?_eq_getElem hx, List.getElem?_eq_getElem hy] at he
  rw [List.getElem?_eq_getElem hx, List.getElem?_eq_getElem hy]
  simp at he
  simp [he]

theorem oidCmp_any (a1 : Option Addr) (n1 c1 : Nat) (xs : List Int) (a2 : Option Addr) (n2 c2 : Nat) (ys : List Int) (w : World) (h1 : SrcI w a1 n1 c1 xs) (h2 : SrcI w a2 n2 c2 ys) :
    Calls Tryd.prog 10 #[.slice a1 n1 c1, .slice a2 n2 c2] w fun e w' => e = .returned (.int .i64 (cmpS xs ys)) ∧ w' = w := by
  go_enter Tryd.func10, Tryd.ntmps10
  go_wp2_with fail
  refine (slicesCmp_any a1 n1 c1 xs a2 n2 c2 ys _ h1 h2).mono ?_
  rintro e w1 ⟨rfl, rfl⟩
  go_wp2
  go_ret
  exact ⟨rfl, rfl⟩

/-- Does a begin with all of b? -/
def begS (xs ys : List Int) : Bool := decide (ys.length ≤ xs.length) && decide (xs.take ys.length = ys)

end Go.Proofs.YtfcjahdkpjbggaaDoor
