/-
  Plain facts on the bytes of a length: the digits of a number below 2^24 to the base 256, and the one form of a length. No Go, no program.
-/
namespace Go.Proofs.Ytaeddbkkkiefcaa

/-- The digits to the base 256 of a number below 2^24, the greatest first; none of 0. -/
def digs (n : Nat) : List Int :=
  if n = 0 then [] else if n < 256 then [(n : Int)] else if n < 65536 then [((n / 256 : Nat) : Int), ((n % 256 : Nat) : Int)]
  else [((n / 65536 : Nat) : Int), ((n / 256 % 256 : Nat) : Int), ((n % 256 : Nat) : Int)]

theorem digs_zero : digs 0 = [] := rfl

theorem digs_step (m : Nat) (h0 : 0 < m) (h : m < 16777216) : digs m = digs (m / 256) ++ [((m % 256 : Nat) : Int)] := by
  unfold digs
  by_cases h1 : m < 256
  · have e : m / 256 = 0 := by omega
    have e2 : m % 256 = m := by omega
    simp [e, e2, h1, show m ≠ 0 by omega]
  · by_cases h2 : m < 65536
    · have e : m / 256 < 256 := by omega
      simp [h1, h2, e, show m ≠ 0 by omega, show m / 256 ≠ 0 by omega]
    · have e : m / 256 < 65536 := by omega
      have e1 : ¬ m / 256 < 256 := by omega
      have e3 : m / 256 / 256 = m / 65536 := by omega
      simp [h1, h2, e, e1, e3, show m ≠ 0 by omega, show m / 256 ≠ 0 by omega]

theorem digs_len (m : Nat) : (digs m).length ≤ 3 := by
  unfold digs
  split
  · simp
  · split
    · simp
    · split <;> simp

theorem digs_byte (m : Nat) (h : m < 16777216) : ∀ x ∈ digs m, 0 ≤ x ∧ x < 256 := by
  intro x hx
  unfold digs at hx
  split at hx
  · simp at hx
  · split at hx
    · simp at hx; omega
    · split at hx
      · simp at hx; omega
      · simp at hx; omega

/-- The bytes of a length. -/
def lenB (n : Nat) : List Int := if n < 128 then [(n : Int)] else (128 + ((digs n).length : Int)) :: digs n

theorem lenB_len4 (n : Nat) : (lenB n).length ≤ 4 := by
  unfold lenB; split
  · simp
  · have := digs_len n; simp; omega

/-- How many bytes stand ahead of a content of n bytes. -/
def sizeN (n : Int) : Int := if n < 0 ∨ 16777215 < n then 0 else if n ≤ 127 then 2 else if n < 256 then 3 else if n < 65536 then 4 else 5

theorem sizeN_eq (n : Nat) (h : n < 16777216) : sizeN n = 1 + ((lenB n).length : Int) := by
  unfold sizeN lenB digs
  rw [if_neg (by omega)]
  by_cases h1 : n < 128
  · simp [h1, show (n : Int) ≤ 127 by omega]
  · by_cases h2 : n < 256
    · simp [h1, h2, show ¬ (n : Int) ≤ 127 by omega, show (n : Int) < 256 by omega, show n ≠ 0 by omega]
    · by_cases h3 : n < 65536
      · simp [h1, h2, h3, show ¬ (n : Int) ≤ 127 by omega, show ¬ (n : Int) < 256 by omega, show (n : Int) < 65536 by omega, show n ≠ 0 by omega]
      · simp [h1, h2, h3, show ¬ (n : Int) ≤ 127 by omega, show ¬ (n : Int) < 256 by omega, show ¬ (n : Int) < 65536 by omega, show n ≠ 0 by omega]

end Go.Proofs.Ytaeddbkkkiefcaa
