/-
  nat.addTimes and nat.subTimes: a number times a limb, added to a row of limbs or taken from it; what is carried, or borrowed, is answered.
-/
import Derived.Test.YtekhobmjjoegpaaDoorNTrim
import Derived.Test.YtekhobmjjoegpaaDoorShelfAll
import Derived.Shelf.Spec.BitsCarry
namespace Go.Proofs.YtekhobmjjoegpaaDoor
open Go.RowKit Go.IntWalk

theorem mul_max (x y : Int) (hx : 0 ≤ x) (hy : 0 ≤ y) (hx1 : x < 18446744073709551616) (hy1 : y < 18446744073709551616) : 0 ≤ x * y ∧ x * y ≤ 340282366920938463426481119284349108225 := by
  refine ⟨Int.mul_nonneg hx hy, ?_⟩
  have := Int.mul_le_mul (show x ≤ 18446744073709551615 by omega) (show y ≤ 18446744073709551615 by omega) hy (by omega : (0 : Int) ≤ 18446744073709551615)
  simpa using this

/-- One limb of a sum. -/
theorem add_limb (p c r hi lo s1 o1 s2 o2 : Int) (hp : 0 ≤ p ∧ p ≤ 340282366920938463426481119284349108225) (hc : 0 ≤ c ∧ c < 18446744073709551616) (hr : 0 ≤ r ∧ r < 18446744073709551616) (h1 : hi = p / 18446744073709551616) (h2 : lo = p % 18446744073709551616) (h3 : s1 = (lo + c) % 18446744073709551616) (h4 : o1 = (lo + c) / 18446744073709551616) (h5 : s2 = (r + s1) % 18446744073709551616) (h6 : o2 = (r + s1) / 18446744073709551616) :
    s2 + 18446744073709551616 * (hi + o1 + o2) = r + p + c ∧ 0 ≤ hi + o1 ∧ hi + o1 < 18446744073709551616 ∧ 0 ≤ hi + o1 + o2 ∧ hi + o1 + o2 < 18446744073709551616 ∧ 0 ≤ s2 ∧ s2 < 18446744073709551616 := by omega

/-- One limb of a difference. -/
theorem sub_limb (p c r hi lo s1 o1 s2 o2 : Int) (hp : 0 ≤ p ∧ p ≤ 340282366920938463426481119284349108225) (hc : 0 ≤ c ∧ c < 18446744073709551616) (hr : 0 ≤ r ∧ r < 18446744073709551616) (h1 : hi = p / 18446744073709551616) (h2 : lo = p % 18446744073709551616) (h3 : s1 = (lo + c) % 18446744073709551616) (h4 : o1 = (lo + c) / 18446744073709551616) (h5 : s2 = (r - s1) % 18446744073709551616) (h6 : o2 = if r < s1 then 1 else 0) :
    s2 - 18446744073709551616 * (hi + o1 + o2) = r - p - c ∧ 0 ≤ hi + o1 ∧ hi + o1 < 18446744073709551616 ∧ 0 ≤ hi + o1 + o2 ∧ hi + o1 + o2 < 18446744073709551616 ∧ 0 ≤ s2 ∧ s2 < 18446744073709551616 := by split at h6 <;> omega

theorem sum_step (b s r c' y x C Z X P K V Q : Int) (hQ : Q = P * K) (H : s + b * c' = r + y * x + C) (IH : Z + Q * C = X + P * (x * V)) : Z + (s - r) * Q + b * Q * c' = X + P * (x * (V + y * K)) := by
  have e : Z + (s - r) * Q + b * Q * c' = Z + Q * C + Q * (s + b * c' - r - C) := by grind
  rw [e, IH, H, hQ]
  grind

theorem dif_step (b s r c' y x C Z X P K V Q : Int) (hQ : Q = P * K) (H : s - b * c' = r - y * x - C) (IH : Z - Q * C = X - P * (x * V)) : Z + (s - r) * Q - b * Q * c' = X - P * (x * (V + y * K)) := by
  have e : Z + (s - r) * Q - b * Q * c' = Z - Q * C + Q * (s - b * c' - r + C) := by grind
  rw [e, IH, H, hQ]
  grind

theorem drop_next {Z xs : List Int} {i : Nat} (h : Z.drop i = xs.drop i) (u : Int) : (Z.set i u).drop (i + 1) = xs.drop (i + 1) := by
  rw [List.drop_set_of_lt (by omega), ← List.drop_drop, ← List.drop_drop, h]


end Go.Proofs.YtekhobmjjoegpaaDoor
