/-
  The document's Compare, Add and Sub.
-/
import Derived.Test.YtekhobmjjoegpaaDoorNRefLimbs
namespace Go.Proofs.YtekhobmjjoegpaaDoor
open Go.RowKit Go.IntWalk

theorem sumD_step (b O P d c x y C T U : Int) (h : x + y + C = b * c + d) (hi : O + P * C = T + U) : O + P * d + b * P * c = T + x * P + (U + y * P) := by
  have e : O + P * d + b * P * c = O + P * (b * c + d) := by grind
  rw [e, ← h]
  grind

theorem difD_step (b O P d c x y C T U : Int) (h : x - y - C = d - b * c) (hi : O - P * C = T - U) : O + P * d - b * P * c = T + x * P - (U + y * P) := by
  have e : O + P * d - b * P * c = O + P * (d - b * c) := by grind
  rw [e, ← h]
  grind

theorem no_borrowD (P Z k s : Int) (hP : 0 < P) (hZ : Z < P) (hk : 0 ≤ k) (h : Z - P * k = s) (hs : 0 ≤ s) : k = 0 := by
  rcases Int.lt_or_le 0 k with h1 | h1
  · exfalso
    have := Int.mul_le_mul_of_nonneg_left (show 1 ≤ k by omega) (show 0 ≤ P by omega)
    omega
  · omega


end Go.Proofs.YtekhobmjjoegpaaDoor
