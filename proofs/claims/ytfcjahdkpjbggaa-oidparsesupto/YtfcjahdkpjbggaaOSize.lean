/-
  oid.size: how many digits to the base 128 a number has (sizeS); with math/bits.Len, whose text is walked.
-/
import Derived.Test.YtfcjahdkpjbggaaMoreI
import Derived.Lib.Tables
namespace Go.Proofs.Ytfcjahdkpjbggaa
open Go.RowKit Go.IntWalk

theorem fold_len : ({ data := (([0, 1, 2, 2, 3, 3, 3, 3, 4, 4, 4, 4, 4, 4, 4, 4, 5, 5, 5, 5, 5, 5, 5, 5, 5, 5, 5, 5, 5, 5, 5, 5, 6, 6, 6, 6, 6, 6, 6, 6, 6, 6, 6, 6, 6, 6, 6, 6, 6, 6, 6, 6, 6, 6, 6, 6, 6, 6, 6, 6, 6, 6, 6, 6].append [7, 7, 7, 7, 7, 7, 7, 7, 7, 7, 7, 7, 7, 7, 7, 7, 7, 7, 7, 7, 7, 7, 7, 7, 7, 7, 7, 7, 7, 7, 7, 7, 7, 7, 7, 7, 7, 7, 7, 7, 7, 7, 7, 7, 7, 7, 7, 7, 7, 7, 7, 7, 7, 7, 7, 7, 7, 7, 7, 7, 7, 7, 7, 7]).append ([8, 8, 8, 8, 8, 8, 8, 8, 8, 8, 8, 8, 8, 8, 8, 8, 8, 8, 8, 8, 8, 8, 8, 8, 8, 8, 8, 8, 8, 8, 8, 8, 8, 8, 8, 8, 8, 8, 8, 8, 8, 8, 8, 8, 8, 8, 8, 8, 8, 8, 8, 8, 8, 8, 8, 8, 8, 8, 8, 8, 8, 8, 8, 8].append [8, 8, 8, 8, 8, 8, 8, 8, 8, 8, 8, 8, 8, 8, 8, 8, 8, 8, 8, 8, 8, 8, 8, 8, 8, 8, 8, 8, 8, 8, 8, 8, 8, 8, 8, 8, 8, 8, 8, 8, 8, 8, 8, 8, 8, 8, 8, 8, 8, 8, 8, 8, 8, 8, 8, 8, 8, 8, 8, 8, 8, 8, 8, 8])).toArray } : ByteArray) = Go.Lib.len8tab := by decide +kernel
attribute [local go_sem ↓] fold_len

theorem len8_thr : ∀ b : Nat, b < 256 → (1 ≤ Go.Lib.len8 b ↔ 1 ≤ b) ∧ (Go.Lib.len8 b ≤ 4 ↔ b < 16) ∧ (Go.Lib.len8 b ≤ 5 ↔ b < 32) ∧ (Go.Lib.len8 b ≤ 6 ↔ b < 64) ∧ (Go.Lib.len8 b ≤ 7 ↔ b < 128) ∧ 0 ≤ Go.Lib.len8 b ∧ Go.Lib.len8 b ≤ 8 := by decide +kernel

theorem len8_t (x : Int) (h0 : 0 ≤ x) (h1 : x < 256) : (1 ≤ Go.Lib.len8 x ↔ 1 ≤ x) ∧ (Go.Lib.len8 x ≤ 4 ↔ x < 16) ∧ (Go.Lib.len8 x ≤ 5 ↔ x < 32) ∧ (Go.Lib.len8 x ≤ 6 ↔ x < 64) ∧ (Go.Lib.len8 x ≤ 7 ↔ x < 128) ∧ 0 ≤ Go.Lib.len8 x ∧ Go.Lib.len8 x ≤ 8 := by
  obtain ⟨n, rfl⟩ := Int.eq_ofNat_of_zero_le h0
  have := len8_thr n (by omega)
  omega

/-- How many bits a number below 2^32 has. -/
def lenW (n : Int) : Int := if 65536 ≤ n then (if 16777216 ≤ n then 24 + Go.Lib.len8 (n / 65536 / 256) else 16 + Go.Lib.len8 (n / 65536)) else (if 256 ≤ n then 8 + Go.Lib.len8 (n / 256) else Go.Lib.len8 n)

/-- How many digits to the base 128 it has. -/
def sizeS (n : Int) : Int := if n < 128 then 1 else if n < 16384 then 2 else if n < 2097152 then 3 else if n < 268435456 then 4 else 5

theorem size_len (n : Int) (h0 : 0 ≤ n) (h1 : n < 4294967296) : max 1 ((lenW n + 6) / 7) = sizeS n ∧ 0 ≤ lenW n ∧ lenW n ≤ 32 := by
  unfold lenW sizeS
  by_cases h2 : 65536 ≤ n
  · rw [if_pos h2]
    by_cases h3 : 16777216 ≤ n
    · rw [if_pos h3]
      have := len8_t (n / 65536 / 256) (by omega) (by omega)
      split <;> omega
    · rw [if_neg h3]
      have := len8_t (n / 65536) (by omega) (by omega)
      split <;> omega
  · rw [if_neg h2]
    by_cases h3 : 256 ≤ n
    · rw [if_pos h3]
      have := len8_t (n / 256) (by omega) (by omega)
      split <;> omega
    · rw [if_neg h3]
      have := len8_t n h0 (by omega)
      split <;> omega

end Go.Proofs.Ytfcjahdkpjbggaa
