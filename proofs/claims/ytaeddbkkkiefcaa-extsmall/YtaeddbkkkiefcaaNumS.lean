/-
  Contents of integers that are shortest already. Plain facts.
-/
import Derived.Test.YtaeddbkkkiefcaaToInt
import Derived.Test.YtaeddbkkkiefcaaShort
namespace Go.Proofs.Ytaeddbkkkiefcaa
open Go.RowKit

theorem shortS_fix (x : Int) (r : List Int) (h : isIntS (x :: r) = true) : shortS (x :: r) = x :: r := by
  cases r with
  | nil => rfl
  | cons y r =>
    unfold isIntS at h
    unfold shortS
    rw [if_neg (by simpa using h)]

theorem shortS_ext (x : Int) (r : List Int) (h0 : 0 ≤ x) (h1 : x < 256) (h : isIntS (x :: r) = true) : ∀ k : Nat, shortS (List.replicate k (if 128 ≤ x then 255 else 0) ++ x :: r) = x :: r
  | 0 => shortS_fix x r h
  | 1 => by
    show shortS ((if 128 ≤ x then 255 else 0) :: x :: r) = _
    rw [shortS, if_pos (by unfold idleS; split <;> simp <;> omega), shortS_fix x r h]
  | k + 2 => by
    have ih := shortS_ext x r h0 h1 h (k + 1)
    rw [List.replicate_succ, List.cons_append] at ih ⊢
    rw [List.replicate_succ, List.cons_append, shortS, if_pos (by unfold idleS; split <;> simp)]
    exact ih

end Go.Proofs.Ytaeddbkkkiefcaa
