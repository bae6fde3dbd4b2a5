/-
  The content of a set of flags, bit by bit, is the one that num.Flags lays. Plain numbers; no program.
-/
import Derived.Test.YtaeddbkkkiefcaaFlags
namespace Go.Proofs.Ytaeddbkkkiefcaa
open Go.RowKit Go.IntWalk

/-- The last bit below i that is 1, or -1. -/
def lastAt (s : Nat) : Nat → Int
  | 0 => -1
  | i + 1 => if s / 2 ^ i % 2 = 1 then i else lastAt s i

/-- The bytes behind so many rounds. -/
def rowAt (s : Nat) : Nat → List Int
  | 0 => []
  | i + 1 =>
    let b := if i % 8 = 0 then rowAt s i ++ [0] else rowAt s i
    if s / 2 ^ i % 2 = 1 then b.set (i / 8) (bits .or .u8 (b.getD (i / 8) 0) (128 / 2 ^ (i % 8) : Nat)) else b

theorem lastAt_le (s : Nat) : ∀ i : Nat, -1 ≤ lastAt s i ∧ lastAt s i < (i : Int)
  | 0 => by unfold lastAt; omega
  | i + 1 => by
    unfold lastAt
    have := lastAt_le s i
    split <;> omega

theorem lastAt_yes (s i : Nat) (h : s / 2 ^ i % 2 = 1) : lastAt s (i + 1) = i := by rw [lastAt, if_pos h]
theorem lastAt_no (s i : Nat) (h : ¬ s / 2 ^ i % 2 = 1) : lastAt s (i + 1) = lastAt s i := by rw [lastAt, if_neg h]

theorem rowAt_len (s : Nat) : ∀ i : Nat, (rowAt s i).length = (i + 7) / 8
  | 0 => rfl
  | i + 1 => by
    have := rowAt_len s i
    simp only [rowAt]
    split <;> split <;> simp [this] <;> omega

theorem rowAt_yes (s i : Nat) (h : s / 2 ^ i % 2 = 1) (h8 : ¬ i % 8 = 0) : rowAt s (i + 1) = (rowAt s i).set (i / 8) (bits .or .u8 ((rowAt s i).getD (i / 8) 0) (128 / 2 ^ (i % 8) : Nat)) := by
  simp only [rowAt]; rw [if_pos h, if_neg h8]
theorem rowAt_no (s i : Nat) (h : ¬ s / 2 ^ i % 2 = 1) (h8 : ¬ i % 8 = 0) : rowAt s (i + 1) = rowAt s i := by
  simp only [rowAt]; rw [if_neg h, if_neg h8]
theorem rowAt_yes8 (s i : Nat) (h : s / 2 ^ i % 2 = 1) (h8 : i % 8 = 0) : rowAt s (i + 1) = (rowAt s i ++ [0]).set (i / 8) (bits .or .u8 ((rowAt s i ++ [0]).getD (i / 8) 0) (128 / 2 ^ (i % 8) : Nat)) := by
  simp only [rowAt]; rw [if_pos h, if_pos h8]
theorem rowAt_no8 (s i : Nat) (h : ¬ s / 2 ^ i % 2 = 1) (h8 : i % 8 = 0) : rowAt s (i + 1) = rowAt s i ++ [0] := by
  simp only [rowAt]; rw [if_neg h, if_pos h8]

/-- One byte's bits, turned round, behind so many rounds. -/
def fAt (a : Nat) : Nat → Int
  | 0 => 0
  | i + 1 => if a / 2 ^ i % 2 = 1 then bits .or .u8 (fAt a i) (128 / 2 ^ i : Nat) else fAt a i

theorem bit_low (s i : Nat) (h : i < 8) : s / 2 ^ i % 2 = s % 256 / 2 ^ i % 2 := by
  rcases (show i = 0 ∨ i = 1 ∨ i = 2 ∨ i = 3 ∨ i = 4 ∨ i = 5 ∨ i = 6 ∨ i = 7 by omega) with rfl | rfl | rfl | rfl | rfl | rfl | rfl | rfl <;> omega

theorem bit_high (s j : Nat) : s / 2 ^ (8 + j) % 2 = s / 256 / 2 ^ j % 2 := by
  rw [Nat.pow_add, Nat.div_div_eq_div_mul]

theorem lastAt_low (s : Nat) : ∀ i : Nat, i ≤ 8 → lastAt s i = lastAt (s % 256) i
  | 0, _ => rfl
  | i + 1, h => by
    rw [lastAt, lastAt, bit_low s i (by omega), lastAt_low s i (by omega)]

theorem lastAt_high (s : Nat) : ∀ j : Nat, lastAt s (8 + j) = if lastAt (s / 256) j = -1 then lastAt s 8 else 8 + lastAt (s / 256) j
  | 0 => by rw [if_pos (by rfl)]
  | j + 1 => by
    have ih := lastAt_high s j
    rw [show 8 + (j + 1) = (8 + j) + 1 by omega, lastAt, bit_high, ih]
    conv => rhs; rw [lastAt]
    split
    · rw [if_neg (by omega)]; omega
    · rfl

theorem byte_last : ∀ a : Nat, a < 256 → lastAt a 8 = Go.Lib.len8 a - 1 ∧ (lastAt a 8 = -1 ↔ a = 0) ∧ a < 2 ^ (Go.Lib.len8 a).toNat := by decide +kernel

theorem byte_rev : ∀ a : Nat, a < 256 → ∀ i : Nat, i < 9 → a < 2 ^ i → fAt a i = Go.Lib.rev8 a := by decide +kernel

theorem lastAt_len (s : Nat) (h : s < 65536) : lastAt s 16 = lenS s - 1 := by
  rw [show (16 : Nat) = 8 + 8 from rfl, lastAt_high]
  unfold lenS
  by_cases hs : 256 ≤ s
  · obtain ⟨h1, h2, _⟩ := byte_last (s / 256) (by omega)
    rw [if_neg (by rw [h2]; omega), if_pos (by omega), h1]
    rw [show ((s / 256 : Nat) : Int) = (s : Int) / 256 by omega]
    omega
  · obtain ⟨h1, h2, _⟩ := byte_last (s / 256) (by omega)
    obtain ⟨h3, _⟩ := byte_last (s % 256) (by omega)
    rw [if_pos (by rw [h2]; omega), if_neg (by omega), lastAt_low s 8 (by omega), h3, show s % 256 = s by omega]

theorem fAt_yes (a i : Nat) (h : a / 2 ^ i % 2 = 1) : fAt a (i + 1) = bits .or .u8 (fAt a i) (128 / 2 ^ i : Nat) := by rw [fAt, if_pos h]
theorem fAt_no (a i : Nat) (h : ¬ a / 2 ^ i % 2 = 1) : fAt a (i + 1) = fAt a i := by rw [fAt, if_neg h]

theorem rowAt_low (s : Nat) : ∀ i : Nat, i < 8 → rowAt s (i + 1) = [fAt (s % 256) (i + 1)]
  | 0, _ => by
    have e := bit_low s 0 (by omega)
    by_cases hb : s / 2 ^ 0 % 2 = 1
    · rw [rowAt_yes8 s 0 hb (by omega), fAt_yes _ 0 (by rw [← e]; exact hb)]
      rfl
    · rw [rowAt_no8 s 0 hb (by omega), fAt_no _ 0 (by rw [← e]; exact hb)]
      rfl
  | i + 1, h => by
    have ih := rowAt_low s i (by omega)
    have e := bit_low s (i + 1) (by omega)
    by_cases hb : s / 2 ^ (i + 1) % 2 = 1
    · rw [rowAt_yes s (i + 1) hb (by omega), fAt_yes _ (i + 1) (by rw [← e]; exact hb), ih]
      rw [show (i + 1) / 8 = 0 by omega, show (i + 1) % 8 = i + 1 by omega]
      rfl
    · rw [rowAt_no s (i + 1) hb (by omega), fAt_no _ (i + 1) (by rw [← e]; exact hb), ih]

theorem rowAt_high (s : Nat) : ∀ j : Nat, j < 8 → rowAt s (8 + (j + 1)) = [fAt (s % 256) 8, fAt (s / 256) (j + 1)]
  | 0, _ => by
    have ih := rowAt_low s 7 (by omega)
    have e := bit_high s 0
    by_cases hb : s / 2 ^ (8 + 0) % 2 = 1
    · rw [show 8 + (0 + 1) = (8 + 0) + 1 from rfl, rowAt_yes8 s (8 + 0) hb (by omega), fAt_yes _ 0 (by rw [← e]; exact hb), show rowAt s (8 + 0) = [fAt (s % 256) 8] from ih]
      rfl
    · rw [show 8 + (0 + 1) = (8 + 0) + 1 from rfl, rowAt_no8 s (8 + 0) hb (by omega), fAt_no _ 0 (by rw [← e]; exact hb), show rowAt s (8 + 0) = [fAt (s % 256) 8] from ih]
      rfl
  | j + 1, h => by
    have ih := rowAt_high s j (by omega)
    have e := bit_high s (j + 1)
    by_cases hb : s / 2 ^ (8 + (j + 1)) % 2 = 1
    · rw [show 8 + (j + 1 + 1) = 8 + (j + 1) + 1 by omega, rowAt_yes s (8 + (j + 1)) hb (by omega), fAt_yes _ (j + 1) (by rw [← e]; exact hb), ih]
      rw [show (8 + (j + 1)) / 8 = 1 by omega, show (8 + (j + 1)) % 8 = j + 1 by omega]
      rfl
    · rw [show 8 + (j + 1 + 1) = 8 + (j + 1) + 1 by omega, rowAt_no s (8 + (j + 1)) hb (by omega), fAt_no _ (j + 1) (by rw [← e]; exact hb), ih]

theorem flags_eq (s k : Nat) (h : s < 65536) (hk : (k : Int) = lastAt s 16 + 1) : flagsS s = (if k = 0 then 0 else 7 - ((k : Int) - 1) % 8) :: rowAt s k := by
  rw [lastAt_len s h] at hk
  have hk' : lenS s = (k : Int) := by omega
  unfold flagsS sizeS
  rw [hk']
  have e1 : (((k : Int) + 7) / 8).toNat = (k + 7) / 8 := by omega
  rw [e1]
  have hr := rev8_in ((s : Int) % 256) (by omega) (by omega)
  have hr' := rev8_in ((s : Int) / 256) (by omega) (by omega)
  have e2 : revS s / 256 = Go.Lib.rev8 ((s : Int) % 256) := by unfold revS; omega
  have e3 : revS s % 256 = Go.Lib.rev8 ((s : Int) / 256) := by unfold revS; omega
  rw [e2, e3, show (s : Int) % 256 = ((s % 256 : Nat) : Int) by omega, show (s : Int) / 256 = ((s / 256 : Nat) : Int) by omega]
  have hl16 := lenS_in s (by omega) (by omega)
  unfold lenS at hk'
  by_cases h0 : k = 0
  · subst h0
    simp [rowAt]
  · rw [if_neg h0]
    congr 1
    · omega
    · by_cases h8 : k ≤ 8
      · obtain ⟨i, rfl⟩ : ∃ i, k = i + 1 := ⟨k - 1, by omega⟩
        rw [rowAt_low s i (by omega), show (i + 1 + 7) / 8 = 1 by omega]
        have hs : s < 256 := by
          rcases Nat.lt_or_ge s 256 with h' | h'
          · exact h'
          · exfalso
            rw [if_pos (by omega)] at hk'
            obtain ⟨h1, h2, _⟩ := byte_last (s / 256) (by omega)
            have := lastAt_le (s / 256) 8
            rw [show (s : Int) / 256 = ((s / 256 : Nat) : Int) by omega] at hk'
            have : lastAt (s / 256) 8 ≠ -1 := by rw [Ne, h2]; omega
            omega
        rw [if_neg (by omega)] at hk'
        obtain ⟨_, _, h3⟩ := byte_last s hs
        rw [hk'] at h3
        have := byte_rev (s % 256) (by omega) (i + 1) (by omega) (by rw [show s % 256 = s by omega]; exact h3)
        rw [this]
        rfl
      · obtain ⟨i, rfl⟩ : ∃ i, k = 8 + (i + 1) := ⟨k - 9, by omega⟩
        rw [rowAt_high s i (by omega), show (8 + (i + 1) + 7) / 8 = 2 by omega]
        have hs : 256 ≤ s := by
          rcases Nat.lt_or_ge s 256 with h' | h'
          · exfalso
            rw [if_neg (by omega)] at hk'
            have := len8_in (s : Int) (by omega) (by omega)
            omega
          · exact h'
        rw [if_pos (by omega), show (s : Int) / 256 = ((s / 256 : Nat) : Int) by omega] at hk'
        obtain ⟨_, _, h3⟩ := byte_last (s / 256) (by omega)
        rw [show Go.Lib.len8 ((s / 256 : Nat) : Int) = ((i + 1 : Nat) : Int) by omega] at h3
        have := byte_rev (s / 256) (by omega) (i + 1) (by omega) h3
        rw [this, byte_rev (s % 256) (by omega) 8 (by omega) (by omega)]
        rfl

theorem flagsS_byte (s : Int) (h0 : 0 ≤ s) (h1 : s < 65536) : ∀ x ∈ flagsS s, 0 ≤ x ∧ x < 256 := by
  have hr := rev8_in (s % 256) (by omega) (by omega)
  have hr' := rev8_in (s / 256) (by omega) (by omega)
  have hl := lenS_in s h0 h1
  intro x hx
  unfold flagsS sizeS at hx
  rcases List.mem_cons.1 hx with rfl | hx
  · omega
  · have := List.mem_of_mem_take hx
    simp at this
    unfold revS at this
    rcases this with rfl | rfl <;> omega

theorem flagsS_len (s : Int) : (flagsS s).length ≤ 3 := by
  unfold flagsS
  simp
  omega

end Go.Proofs.Ytaeddbkkkiefcaa
