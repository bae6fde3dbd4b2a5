/-
  The arithmetic of a division of two limbs by one, by halves; and of the guess of a limb. Plain facts.
-/
import Derived.Test.YtobdpcmafjhnlaaNMul
namespace Go.Proofs.Ytobdpcmafjhnlaa

/-- A digit to the base 2^32 of a quotient. -/
def dq (u c y : Int) : Int := (u * 4294967296 + c) / y

theorem dq_le {u c y q : Int} (hy : 0 < y) (h : q * y ≤ u * 4294967296 + c) : q ≤ dq u c y := by
  unfold dq
  exact (Int.le_ediv_iff_mul_le hy).2 h

theorem dq_lt {u c y q : Int} (hy : 0 < y) (h : u * 4294967296 + c < q * y) : dq u c y < q := by
  unfold dq
  exact Int.ediv_lt_of_lt_mul hy h

/-- What is known of y: its halves. -/
structure Hv (y y1 y0 : Int) : Prop where
  e : y = y1 * 4294967296 + y0
  a1 : 2147483648 ≤ y1
  b1 : y1 < 4294967296
  a0 : 0 ≤ y0
  b0 : y0 < 4294967296

theorem hv_of (y : Int) (h0 : 9223372036854775808 ≤ y) (h1 : y < 18446744073709551616) : Hv y (y / 4294967296) (y % 4294967296) := ⟨by omega, by omega, by omega, by omega, by omega⟩

theorem dq_mul {y y1 y0 : Int} (q : Int) (h : Hv y y1 y0) : q * y = q * y1 * 4294967296 + q * y0 := by rw [h.e]; grind

theorem dq_small {y y1 y0 u c : Int} (h : Hv y y1 y0) (hu : u < y) (hc : c < 4294967296) : dq u c y < 4294967296 := by
  have := h.a1; have := h.a0; have := h.e
  exact dq_lt (by omega) (by omega)

theorem dq_no {y y1 y0 u c q r : Int} (h : Hv y y1 y0) (hr : q * y1 + r = u) (ht : q * y0 ≤ 4294967296 * r + c) (hq : dq u c y ≤ q) : q = dq u c y := by
  have h1 := dq_mul q h
  have := h.a1; have := h.a0; have := h.e
  have := dq_le (u := u) (c := c) (y := y) (q := q) (by omega) (by omega)
  omega

theorem dq_yes {y y1 y0 u c q r : Int} (h : Hv y y1 y0) (hu : u < y) (hc : c < 4294967296) (hr : q * y1 + r = u) (ht : 4294967296 ≤ q ∨ 4294967296 * r + c < q * y0) : dq u c y ≤ q - 1 := by
  rcases ht with ht | ht
  · have := dq_small h hu hc
    omega
  · have h1 := dq_mul q h
    have := h.a1; have := h.a0; have := h.e
    have := dq_lt (u := u) (c := c) (y := y) (q := q) (by omega) (by omega)
    omega

theorem dq_break {y y1 y0 u c q r : Int} (h : Hv y y1 y0) (hu : u < y) (hc : 0 ≤ c) (hr : q * y1 + r = u) (hb : 4294967296 ≤ r) (hq : dq u c y ≤ q) (hq0 : 0 ≤ q) : q = dq u c y := by
  have a1 := h.a1; have b1 := h.b1; have a0 := h.a0; have b0 := h.b0; have e := h.e
  have hqH : q < 4294967296 := by
    rcases Int.lt_or_le q 4294967296 with h' | h'
    · exact h'
    · exfalso
      have := Int.mul_le_mul_of_nonneg_right h' (show 0 ≤ y1 by omega)
      omega
  refine dq_no h hr ?_ hq
  have := Int.mul_le_mul (show q ≤ 4294967295 by omega) (show y0 ≤ 4294967295 by omega) a0 (by omega : (0 : Int) ≤ 4294967295)
  omega

/-- The first guess of a digit. -/
theorem dq_first {y y1 y0 u c : Int} (h : Hv y y1 y0) (hu0 : 0 ≤ u) (hc : c < 4294967296) (hc0 : 0 ≤ c) :
    u / y1 * y1 + (u - u / y1 * y1) = u ∧ 0 ≤ u - u / y1 * y1 ∧ u - u / y1 * y1 < y1 ∧ dq u c y ≤ u / y1 ∧ 0 ≤ u / y1 ∧ u / y1 * y1 ≤ u ∧ 0 ≤ u / y1 * y1 := by
  have a1 := h.a1; have a0 := h.a0; have e := h.e
  have h1 := Int.emod_nonneg u (show y1 ≠ 0 by omega)
  have h2 := Int.emod_lt_of_pos u (show 0 < y1 by omega)
  have h3 := Int.mul_ediv_add_emod u y1
  have h5 := Int.mul_comm y1 (u / y1)
  have h6 := Int.ediv_nonneg hu0 (show 0 ≤ y1 by omega)
  have h7 := Int.mul_nonneg h6 (show 0 ≤ y1 by omega)
  refine ⟨by omega, by omega, by omega, ?_, h6, by omega, h7⟩
  have h4 : dq u c y < u / y1 + 1 := by
    refine dq_lt (by omega) ?_
    rw [dq_mul _ h]
    have h8 : (u / y1 + 1) * y1 = u / y1 * y1 + y1 := by grind
    have h9 := Int.mul_nonneg (show 0 ≤ u / y1 + 1 by omega) a0
    rw [h8]
    omega
  omega

/-- What is left, and the two digits together. -/
theorem dq_rest {y u c : Int} (hy : 0 < y) : 0 ≤ u * 4294967296 + c - dq u c y * y ∧ u * 4294967296 + c - dq u c y * y < y := by
  unfold dq
  have h1 := Int.emod_nonneg (u * 4294967296 + c) (show y ≠ 0 by omega)
  have h2 := Int.emod_lt_of_pos (u * 4294967296 + c) hy
  have h3 := Int.mul_ediv_add_emod (u * 4294967296 + c) y
  have h4 := Int.mul_comm y ((u * 4294967296 + c) / y)
  omega

theorem dq_nonneg {y u c : Int} (hy : 0 < y) (hu : 0 ≤ u) (hc : 0 ≤ c) : 0 ≤ dq u c y := by
  unfold dq
  exact Int.ediv_nonneg (by omega) (by omega)

theorem dq_two {y u lo : Int} (hy : 0 < y) : dq u (lo / 4294967296) y * 4294967296 + dq (u * 4294967296 + lo / 4294967296 - dq u (lo / 4294967296) y * y) (lo % 4294967296) y = (u * 18446744073709551616 + lo) / y := by
  obtain ⟨Q, hQ⟩ : ∃ Q, dq u (lo / 4294967296) y = Q := ⟨_, rfl⟩
  rw [hQ]
  unfold dq
  have e : u * 18446744073709551616 + lo = ((u * 4294967296 + lo / 4294967296 - Q * y) * 4294967296 + lo % 4294967296) + (Q * 4294967296) * y := by
    have h1 : Q * 4294967296 * y = Q * y * 4294967296 := by grind
    rw [h1]
    omega
  rw [e, Int.add_mul_ediv_right _ _ (show y ≠ 0 by omega)]
  omega

/-- The guess of a limb by the highest limbs is no less than the limb itself: R a row, V a number, of n limbs below their highest ones. -/
theorem guess_ge (P R V hi lo t RL VL q : Int) (hP : 0 < P) (hR : R = (hi * 18446744073709551616 + lo) * P + RL) (hV : V = t * P + VL) (hRL : RL < P) (hVL : 0 ≤ VL) (ht : 0 < t) (hq : q = (hi * 18446744073709551616 + lo) / t) (hq0 : 0 ≤ q) : R < (q + 1) * V := by
  have h1 : hi * 18446744073709551616 + lo < (q + 1) * t := by
    rw [hq]
    have h2 := Int.emod_lt_of_pos (hi * 18446744073709551616 + lo) ht
    have h3 := Int.mul_ediv_add_emod (hi * 18446744073709551616 + lo) t
    have h4 : ((hi * 18446744073709551616 + lo) / t + 1) * t = t * ((hi * 18446744073709551616 + lo) / t) + t := by grind
    omega
  have h5 := Int.mul_le_mul_of_nonneg_right (show hi * 18446744073709551616 + lo + 1 ≤ (q + 1) * t by omega) (show 0 ≤ P by omega)
  have h6 : (hi * 18446744073709551616 + lo + 1) * P = (hi * 18446744073709551616 + lo) * P + P := by grind
  have h7 := Int.mul_nonneg (show 0 ≤ q + 1 by omega) hVL
  have h8 : (q + 1) * V = (q + 1) * t * P + (q + 1) * VL := by rw [hV]; grind
  omega

end Go.Proofs.Ytobdpcmafjhnlaa
