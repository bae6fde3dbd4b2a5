/-
  A number's bytes (numB), as oid.put lays them behind others, and as the document's Number says.
-/
import Derived.Test.YtfcjahdkpjbggaaOSize
import Derived.Test.YtfcjahdkpjbggaaMore
namespace Go.Proofs.Ytfcjahdkpjbggaa
open Go.RowKit Go.IntWalk

/-- The digits to the base 128 above the lowest, k of them, the highest first, each with 128 more. -/
def hiB (n : Int) : Nat → List Int
  | 0 => []
  | k + 1 => (n / ((128 ^ (k + 1) : Nat) : Int) % 128 + 128) :: hiB n k

/-- A number's bytes. -/
def numB (n : Int) : List Int := hiB n (sizeS n - 1).toNat ++ [n % 128]

theorem hiB_len (n : Int) : ∀ k : Nat, (hiB n k).length = k
  | 0 => rfl
  | k + 1 => by rw [hiB, List.length_cons, hiB_len n k]

theorem hiB_byte (n : Int) : ∀ k : Nat, ∀ x ∈ hiB n k, 0 ≤ x ∧ x < 256
  | 0 => by simp [hiB]
  | k + 1 => by
    intro x hx
    rw [hiB] at hx
    rcases List.mem_cons.1 hx with rfl | hx
    · omega
    · exact hiB_byte n k x hx

theorem numB_byte (n : Int) : ∀ x ∈ numB n, 0 ≤ x ∧ x < 256 := by
  intro x hx
  unfold numB at hx
  rcases List.mem_append.1 hx with hx | hx
  · exact hiB_byte n _ x hx
  · simp at hx; omega

theorem sizeS_in (n : Int) : 1 ≤ sizeS n ∧ sizeS n ≤ 5 := by unfold sizeS; (repeat' split) <;> omega

theorem numB_len (n : Int) : ((numB n).length : Int) = sizeS n := by
  have := sizeS_in n
  unfold numB
  rw [List.length_append, hiB_len]
  simp
  omega

theorem or128 (x : Int) : bits .or .u8 (x % 256) 128 = x % 128 + 128 := by
  obtain ⟨A, hA⟩ := Int.eq_ofNat_of_zero_le (show 0 ≤ x % 256 by omega)
  have key : ∀ a : Nat, a < 256 → (bits .or .u8 (a : Int) 128) = (a : Int) % 128 + 128 := by decide +kernel
  rw [hA, key A (by omega)]
  omega

/-- What has been laid when the digits above number k stand. -/
theorem hiB_take (n : Int) (k j : Nat) (h : j < k) : (hiB n k).take (j + 1) = (hiB n k).take j ++ [n / ((128 ^ (k - j) : Nat) : Int) % 128 + 128] := by
  induction k generalizing j with
  | zero => omega
  | succ k ih =>
    rw [hiB]
    cases j with
    | zero => simp
    | succ j =>
      rw [List.take_succ_cons, List.take_succ_cons, ih j (by omega), show k + 1 - (j + 1) = k - j by omega]
      rfl

theorem ownShape {w : World} {base : Nat} {v : Value} {xs : List Int} (h : OwnB w base v xs) : ∃ ao c, v = .slice ao xs.length c := by
  rcases h.split with ⟨rfl, rfl⟩ | ⟨g, c, rfl, _⟩
  · exact ⟨none, 0, rfl⟩
  · exact ⟨_, c, rfl⟩

/-- No fewer than j + 1 digits. -/
theorem size_of (n : Int) (h0 : 0 ≤ n) (h1 : n < 4294967296) (j : Nat) (hj : j ≤ 4) (hz : n / ((128 ^ (j + 1) : Nat) : Int) = 0) (hp : j = 0 ∨ 0 < n / ((128 ^ j : Nat) : Int)) : (sizeS n - 1).toNat = j := by
  rcases (show j = 0 ∨ j = 1 ∨ j = 2 ∨ j = 3 ∨ j = 4 by omega) with rfl | rfl | rfl | rfl | rfl <;> simp at hz hp <;> unfold sizeS <;> (repeat' split) <;> omega

theorem pow_four (n : Int) (h0 : 0 ≤ n) (h1 : n < 4294967296) (i : Nat) (h : 0 < n / ((128 ^ i : Nat) : Int)) : i ≤ 4 := by
  rcases Nat.lt_or_ge 4 i with h4 | h4
  · exfalso
    have hp : (34359738368 : Nat) ≤ 128 ^ i := by
      have := Nat.pow_le_pow_right (show 0 < 128 by omega) (show 5 ≤ i by omega)
      simpa using this
    have : n / ((128 ^ i : Nat) : Int) = 0 := Int.ediv_eq_zero_of_lt h0 (by omega)
    omega
  · exact h4

end Go.Proofs.Ytfcjahdkpjbggaa
