/-
  The reference's ToFlags tells of any bytes what the plain functions say.
-/
import Derived.Test.YtodhlmnjfkbocaaToFlags
import Derived.Test.YtodhlmnjfkbocaaRRead2
import Derived.Deep.DeepCutAuto
namespace Go.Proofs.Ytodhlmnjfkbocaa
open Go.RowKit Go.IntWalk

/-- Flag number k of two bytes. -/
def bitAt (y z : Int) (k : Nat) : Int := if k < 8 then y / ((2 ^ (7 - k) : Nat) : Int) % 2 else z / ((2 ^ (15 - k) : Nat) : Int) % 2
/-- The flags below number k. -/
def setAt (y z : Int) : Nat → Int
  | 0 => 0
  | k + 1 => setAt y z k + bitAt y z k * ((2 ^ k : Nat) : Int)

theorem bitAt_in (y z : Int) (k : Nat) : bitAt y z k = 0 ∨ bitAt y z k = 1 := by
  unfold bitAt
  split <;> omega

theorem setAt_in (y z : Int) : ∀ k : Nat, 0 ≤ setAt y z k ∧ setAt y z k < ((2 ^ k : Nat) : Int)
  | 0 => by simp [setAt]
  | k + 1 => by
    have ih := setAt_in y z k
    rw [setAt, Nat.pow_succ]
    generalize 2 ^ k = P at ih ⊢
    rcases bitAt_in y z k with h | h <;> rw [h] <;> omega

theorem setAt_yes (y z : Int) (k : Nat) (h : bitAt y z k = 1) : setAt y z (k + 1) = setAt y z k + ((2 ^ k : Nat) : Int) := by rw [setAt, h]; simp
theorem setAt_no (y z : Int) (k : Nat) (h : ¬ bitAt y z k = 1) : setAt y z (k + 1) = setAt y z k := by
  rcases bitAt_in y z k with h' | h'
  · rw [setAt, h']; simp
  · exact absurd h' h

/-- One byte's bits, turned round. -/
def sumAt (a : Nat) : Nat → Int
  | 0 => 0
  | i + 1 => sumAt a i + ((a / 2 ^ (7 - i) % 2 * 2 ^ i : Nat) : Int)

theorem byte_sum : ∀ a : Nat, a < 256 → ∀ i : Nat, i < 9 → a % 2 ^ (8 - i) = 0 → sumAt a i = Go.Lib.rev8 a := by decide +kernel

theorem setAt_low (y : Nat) (z : Int) : ∀ k : Nat, k ≤ 8 → setAt y z k = sumAt y k
  | 0, _ => rfl
  | k + 1, h => by
    rw [setAt, sumAt, setAt_low y z k (by omega), bitAt, if_pos (by omega)]
    congr 1

theorem setAt_high (y z : Nat) : ∀ j : Nat, setAt y z (8 + j) = sumAt y 8 + 256 * sumAt z j
  | 0 => by rw [setAt_low y z 8 (by omega)]; simp [sumAt]
  | j + 1 => by
    have e1 : sumAt z (j + 1) = sumAt z j + ((z / 2 ^ (7 - j) % 2 * 2 ^ j : Nat) : Int) := rfl
    rw [show 8 + (j + 1) = (8 + j) + 1 by omega, setAt, setAt_high y z j, e1, bitAt, if_neg (by omega), show 15 - (8 + j) = 7 - j by omega, Nat.pow_add]
    have e0 : ((z : Int) / ((2 ^ (7 - j) : Nat) : Int) % 2) = ((z / 2 ^ (7 - j) % 2 : Nat) : Int) := rfl
    rw [e0]
    have hB : z / 2 ^ (7 - j) % 2 = 0 ∨ z / 2 ^ (7 - j) % 2 = 1 := by omega
    generalize z / 2 ^ (7 - j) % 2 = B at hB ⊢
    generalize 2 ^ j = P
    generalize sumAt y 8 = A
    rcases hB with rfl | rfl <;> omega

theorem or_pow (S : Int) (k : Nat) (hk : k < 16) (h0 : 0 ≤ S) (h1 : S < ((2 ^ k : Nat) : Int)) : bits .or .u16 S ((2 ^ k : Nat) : Int) = S + ((2 ^ k : Nat) : Int) := by
  obtain ⟨A, rfl⟩ := Int.eq_ofNat_of_zero_le h0
  have h1' : A < 2 ^ k := by omega
  have hp : 2 ^ k ≤ 2 ^ 15 := Nat.pow_le_pow_right (by decide) (by omega)
  have ka : (BitVec.ofInt 16 (A : Int)).toNat = A := by rw [BitVec.ofInt_natCast, BitVec.toNat_ofNat]; omega
  have kb : (BitVec.ofInt 16 ((2 ^ k : Nat) : Int)).toNat = 2 ^ k := by rw [BitVec.ofInt_natCast, BitVec.toNat_ofNat]; omega
  have key : (BitVec.ofInt 16 (A : Int) ||| BitVec.ofInt 16 ((2 ^ k : Nat) : Int)).toNat = A + 2 ^ k := by
    rw [BitVec.toNat_or, ka, kb, Nat.or_comm]
    have := Nat.two_pow_add_eq_or_of_lt h1' 1
    simp at this
    omega
  show IntKind.u16.wrap ((BitVec.ofInt 16 (A : Int) ||| BitVec.ofInt 16 ((2 ^ k : Nat) : Int)).toNat : Nat) = _
  rw [key, IntKind.wrap_u16]
  omega

/-- What the flags come to, of no byte, one byte, two bytes. -/
theorem set_zero (x : Int) (hb : bitsB [] x = true) : x = 0 := by
  unfold bitsB at hb
  simp at hb
  exact hb.2

theorem set_one (x y : Int) (hy : 0 ≤ y ∧ y < 256) (hb : bitsB [y] x = true) (K : Nat) (hK : (K : Int) = 8 - x) : setAt y 0 K = revS (y * 256 + 0) := by
  have hx := bits_in _ _ hb
  obtain ⟨Y, rfl⟩ := Int.eq_ofNat_of_zero_le hy.1
  unfold bitsB at hb
  simp at hb
  rw [setAt_low Y 0 K (by omega), byte_sum Y (by omega) K (by omega) (by have e : 8 - K = x.toNat := (by omega); rw [e]; exact_mod_cast hb.2)]
  unfold revS
  rw [show ((Y : Int) * 256 + 0) % 256 = 0 by omega, show ((Y : Int) * 256 + 0) / 256 = (Y : Int) by omega]
  have : Go.Lib.rev8 0 = 0 := by decide +kernel
  rw [this]
  omega

theorem set_two (x y z : Int) (hy : 0 ≤ y ∧ y < 256) (hz : 0 ≤ z ∧ z < 256) (hb : bitsB [y, z] x = true) (K : Nat) (hK : (K : Int) = 16 - x) : setAt y z K = revS (y * 256 + z) := by
  have hx := bits_in _ _ hb
  obtain ⟨Y, rfl⟩ := Int.eq_ofNat_of_zero_le hy.1
  obtain ⟨Z, rfl⟩ := Int.eq_ofNat_of_zero_le hz.1
  unfold bitsB at hb
  simp at hb
  obtain ⟨j, rfl⟩ : ∃ j, K = 8 + j := ⟨K - 8, by omega⟩
  rw [setAt_high Y Z j, byte_sum Y (by omega) 8 (by omega) (Nat.mod_one _), byte_sum Z (by omega) j (by omega) (by have e : 8 - j = x.toNat := (by omega); rw [e]; exact_mod_cast hb.2)]
  unfold revS
  rw [show ((Y : Int) * 256 + Z) % 256 = Z by omega, show ((Y : Int) * 256 + Z) / 256 = (Y : Int) by omega]
  omega

end Go.Proofs.Ytodhlmnjfkbocaa
