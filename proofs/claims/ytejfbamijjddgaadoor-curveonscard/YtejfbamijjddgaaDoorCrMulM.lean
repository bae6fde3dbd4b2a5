/-
  The words of the document's Mul: plain facts.
-/
import Derived.Test.YtejfbamijjddgaaDoorCrAdd
namespace Go.Proofs.YtejfbamijjddgaaDoor
open Go.RowKit Go.IntWalk

theorem prod_bd {a b : Int} (ha : 0 ≤ a ∧ a < 4294967296) (hb : 0 ≤ b ∧ b < 4294967296) : 0 ≤ a * b ∧ a * b ≤ 18446744065119617025 := by
  refine ⟨Int.mul_nonneg ha.1 hb.1, ?_⟩
  have := Int.mul_le_mul (show a ≤ 4294967295 by omega) (show b ≤ 4294967295 by omega) hb.1 (by omega : (0 : Int) ≤ 4294967295)
  simpa using this

theorem mul_word {z p c : Int} (hz : 0 ≤ z ∧ z < 4294967296) (hp : 0 ≤ p ∧ p ≤ 18446744065119617025) (hc : 0 ≤ c ∧ c < 4294967296) :
    IntKind.u64.wrap p = p ∧ IntKind.u64.wrap (z + p) = z + p ∧ IntKind.u64.wrap (z + p + c) = z + p + c ∧ 0 ≤ z + p + c ∧ (0 ≤ (z + p + c) % 4294967296 ∧ (z + p + c) % 4294967296 < 4294967296) ∧ (0 ≤ (z + p + c) / 4294967296 ∧ (z + p + c) / 4294967296 < 4294967296) ∧ (z + p + c) % 4294967296 = z + p + c - 4294967296 * ((z + p + c) / 4294967296) := by
  rw [IntKind.wrap_u64, IntKind.wrap_u64, IntKind.wrap_u64]
  omega

theorem carry_word {z c : Int} (hz : 0 ≤ z ∧ z < 4294967296) (hc : 0 ≤ c ∧ c < 4294967296) :
    IntKind.u64.wrap (z + c) = z + c ∧ 0 ≤ z + c ∧ (0 ≤ (z + c) % 4294967296 ∧ (z + c) % 4294967296 < 4294967296) ∧ (0 ≤ (z + c) / 4294967296 ∧ (z + c) / 4294967296 ≤ 1) ∧ (z + c) % 4294967296 = z + c - 4294967296 * ((z + c) / 4294967296) := by
  rw [IntKind.wrap_u64]
  omega

/-- One word of the first inner loop. -/
theorem in1_step (vZ vZ0 vA z a b c u d P : Int) (h : vZ + c * P = vZ0 + vA * b) (hu : u = z + a * b + c - 4294967296 * d) : vZ + u * P + d * (4294967296 * P) = vZ0 + z * P + (vA + a * P) * b := by
  subst hu
  grind

theorem in3_step (vZ vT vM t m by' c u d P : Int) (h : 4294967296 * vZ + c * (4294967296 * P) = vT + by' * vM) (hu : u = t + m * by' + c - 4294967296 * d) : 4294967296 * (vZ + u * P) + d * (4294967296 * (4294967296 * P)) = vT + t * (4294967296 * P) + by' * (vM + m * (4294967296 * P)) := by
  subst hu
  grind

theorem row9 (Z : List Int) : val 4294967296 (Z.take 9) = val 4294967296 (Z.take 8) + Z.getD 8 0 * pw 4294967296 8 := val_take_succ 4294967296 Z 8

/-- The whole of a round. -/
theorem mul_key {S x b l S' : Int} (h : 4294967296 * S' = S + x * b + PP * l) (hS : S < 2 * PP) (hx : x < PP) (hb : 0 ≤ b ∧ b < 4294967296) (hl : 0 ≤ l ∧ l < 4294967296) : S' < 2 * PP := by
  have h1 : x * b ≤ (PP - 1) * 4294967295 := Int.mul_le_mul (by omega) (by omega) hb.1 (by unfold PP; omega)
  have h2 : PP * l ≤ PP * 4294967295 := Int.mul_le_mul_of_nonneg_left (by omega) (by unfold PP; omega)
  generalize x * b = q at *
  generalize PP * l = r at *
  unfold PP at *
  omega

theorem mul_inv {S x b l S' M m P : Int} (h : 4294967296 * S' = S + x * b + PP * l) (hi : S * P = x * M + PP * m) : S' * (4294967296 * P) = x * (M + b * P) + PP * (m + l * P) := by
  have : S' * (4294967296 * P) = (4294967296 * S') * P := by grind
  rw [this, h]
  grind

/-- The row behind the first inner loop, and its two words above. -/
theorem top_words {S vZ vZ0 xb z8' c e f P8 : Int} (h : vZ + c * P8 = vZ0 + xb) (hS : S = vZ0 + z8' * P8) (he : e = z8' + c - 4294967296 * f) : vZ + e * P8 + f * (4294967296 * P8) = S + xb := by
  subst hS he
  grind

theorem low_words {vZ7 c vT8 by' vT t8 t9 x u d P7 : Int} (h : 4294967296 * vZ7 + c * (4294967296 * P7) = vT8 + by' * PP) (hT : vT = vT8 + t8 * (4294967296 * P7) + t9 * (4294967296 * (4294967296 * P7))) (hx : x = t8 + c) (hu : u = x - 4294967296 * d) : 4294967296 * (vZ7 + u * P7 + (t9 + d) * (4294967296 * P7)) = vT + by' * PP := by
  subst hx hu hT
  grind

end Go.Proofs.YtejfbamijjddgaaDoor
