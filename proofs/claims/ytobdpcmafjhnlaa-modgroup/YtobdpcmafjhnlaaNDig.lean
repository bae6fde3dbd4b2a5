/-
  The digits of a number to a base whose power is a limb's; how many bits it has. Plain facts.
-/
import Derived.Test.YtobdpcmafjhnlaaNSum
import Derived.Lib.ItoaNum
namespace Go.Proofs.Ytobdpcmafjhnlaa

theorem pw_eq (b : Int) : ∀ i, pw b i = b ^ i
  | 0 => by simp [pw]
  | i + 1 => by rw [pw, pw_eq b i, Int.pow_succ, Int.mul_comm]

theorem val_dropAt (b : Int) (xs : List Int) (m : Nat) : val b (xs.drop m) = xs.getD m 0 + b * val b (xs.drop (m + 1)) := by
  rcases Nat.lt_or_ge m xs.length with h | h
  · rw [List.drop_eq_getElem_cons h, val]
    simp [List.getD, h]
  · rw [List.drop_eq_nil_of_le h, List.drop_eq_nil_of_le (by omega)]
    simp [val, List.getD, h]

theorem val_div {b : Int} (hb : 0 < b) {xs : List Int} (hx : Dg b xs) (q : Nat) : val b xs / pw b q = val b (xs.drop q) := by
  have hp := pw_pos hb q
  rcases Nat.le_total q xs.length with h | h
  · have h1 := val_lt hb (hx.take q)
    rw [List.length_take, Nat.min_eq_left h] at h1
    rw [val_split b xs q h, Int.add_mul_ediv_left _ _ (by omega), Int.ediv_eq_zero_of_lt (val_nonneg hb (hx.take q)) h1, Int.zero_add]
  · have h1 := val_lt hb hx
    have h2 := pw_mono (show 1 ≤ b by omega) _ _ h
    rw [List.drop_eq_nil_of_le h, Int.ediv_eq_zero_of_lt (val_nonneg hb hx) (by omega)]
    rfl

/-- A digit to a lesser base is in one limb. -/
theorem dig_at (β : Int) (hβ : 1 < β) (m : Nat) (hm : pw β m = 18446744073709551616) {X : List Int} (hX : Dg 18446744073709551616 X) (q t : Nat) (ht : t < m) : val 18446744073709551616 X / (pw 18446744073709551616 q * pw β t) % β = X.getD q 0 / pw β t % β := by
  have hp := pw_pos (b := 18446744073709551616) (by decide) q
  have hq := pw_pos (b := β) (by omega) t
  rw [← Int.ediv_ediv_of_nonneg (by omega), val_div (by decide) hX, val_dropAt]
  obtain ⟨k, hk⟩ : ∃ k, m = t + (k + 1) := ⟨m - t - 1, by omega⟩
  have e : (18446744073709551616 : Int) = pw β t * (β * pw β k) := by rw [← hm, hk, pw_add]; rfl
  have e2 : (18446744073709551616 : Int) * val 18446744073709551616 (X.drop (q + 1)) = pw β t * (β * (pw β k * val 18446744073709551616 (X.drop (q + 1)))) := by
    generalize val 18446744073709551616 (X.drop (q + 1)) = V
    rw [e, Int.mul_assoc, Int.mul_assoc]
  rw [e2, Int.add_mul_ediv_left _ _ (by omega), Int.add_mul_emod_self_left]

/-- How many bits a number has. -/
def BL (x : Int) (S : Nat) : Prop := (x = 0 ∧ S = 0) ∨ (0 < x ∧ 1 ≤ S ∧ pw 2 (S - 1) ≤ x ∧ x < pw 2 S)

theorem BL.lt {x : Int} {S : Nat} (h : BL x S) : x < pw 2 S := by
  rcases h with ⟨rfl, rfl⟩ | h
  · decide
  · exact h.2.2.2

theorem BL.nonneg {x : Int} {S : Nat} (h : BL x S) : 0 ≤ x := by
  rcases h with ⟨rfl, rfl⟩ | h
  · decide
  · omega

theorem bl_unique {x : Int} {S T : Nat} (h : BL x S) (k : BL x T) : S = T := by
  rcases h with ⟨rfl, rfl⟩ | ⟨h0, h1, h2, h3⟩
  · rcases k with ⟨_, rfl⟩ | k
    · rfl
    · omega
  · rcases k with ⟨rfl, rfl⟩ | ⟨k0, k1, k2, k3⟩
    · omega
    · rcases Nat.lt_trichotomy S T with h | h | h
      · have := pw_mono (b := 2) (by decide) S (T - 1) (by omega)
        omega
      · exact h
      · have := pw_mono (b := 2) (by decide) T (S - 1) (by omega)
        omega

theorem pw_64 (i : Nat) : pw 2 (64 * i) = pw 18446744073709551616 i := by
  induction i with
  | zero => rfl
  | succ i ih =>
    rw [show 64 * (i + 1) = 64 * i + 64 by omega, pw_add, ih, show pw 2 64 = 18446744073709551616 by decide, show pw 18446744073709551616 (i + 1) = 18446744073709551616 * pw 18446744073709551616 i from rfl, Int.mul_comm]

theorem pw_8 (i : Nat) : pw 256 (8 * i) = pw 18446744073709551616 i := by
  induction i with
  | zero => rfl
  | succ i ih =>
    rw [show 8 * (i + 1) = 8 * i + 8 by omega, pw_add, ih, show pw 256 8 = 18446744073709551616 by decide, show pw 18446744073709551616 (i + 1) = 18446744073709551616 * pw 18446744073709551616 i from rfl, Int.mul_comm]

theorem pw_b (i : Nat) : pw 2 (8 * i) = pw 256 i := by
  induction i with
  | zero => rfl
  | succ i ih =>
    rw [show 8 * (i + 1) = 8 * i + 8 by omega, pw_add, ih, show pw 2 8 = 256 by decide, show pw 256 (i + 1) = 256 * pw 256 i from rfl, Int.mul_comm]

theorem top_split2 {ys : List Int} (m : Nat) (hy : Dg 18446744073709551616 ys) (hl : ys.length = m + 1) : val 18446744073709551616 ys < (ys.getD m 0 + 1) * pw 18446744073709551616 m ∧ ys.getD m 0 * pw 18446744073709551616 m ≤ val 18446744073709551616 ys := by
  have h1 := val_take_succ 18446744073709551616 ys m
  rw [List.take_of_length_le (by omega)] at h1
  have h2 := val_lt (b := 18446744073709551616) (by decide) (hy.take m)
  rw [List.length_take, Nat.min_eq_left (by omega)] at h2
  have h3 := val_nonneg (b := 18446744073709551616) (by decide) (hy.take m)
  have h4 : (ys.getD m 0 + 1) * pw 18446744073709551616 m = ys.getD m 0 * pw 18446744073709551616 m + pw 18446744073709551616 m := by rw [Int.add_mul, Int.one_mul]
  omega

theorem bitLen_pw (y : Int) (h0 : 0 < y) (h1 : y < 18446744073709551616) : ∃ L : Nat, Lib.bitLen y.toNat = L ∧ 1 ≤ L ∧ L ≤ 64 ∧ pw 2 (L - 1) ≤ y ∧ y < pw 2 L := by
  obtain ⟨Y, rfl⟩ := Int.eq_ofNat_of_zero_le (show 0 ≤ y by omega)
  simp only [Int.toNat_natCast]
  unfold Lib.bitLen
  obtain ⟨a, b, c⟩ := Lib.bitLenAux_bounds 64 Y (by omega) (by omega)
  refine ⟨_, rfl, a, ?_, ?_, ?_⟩
  · rcases Nat.lt_or_ge 64 (Lib.bitLenAux 64 Y) with h | h
    · exfalso
      have := Nat.pow_le_pow_right (show 0 < 2 by omega) (show 64 ≤ Lib.bitLenAux 64 Y - 1 by omega)
      omega
    · exact h
  · have : ((2 ^ (Lib.bitLenAux 64 Y - 1) : Nat) : Int) ≤ (Y : Int) := by omega
    rwa [Int.natCast_pow, show ((2 : Nat) : Int) = 2 from rfl, ← pw_eq] at this
  · have : (Y : Int) < ((2 ^ Lib.bitLenAux 64 Y : Nat) : Int) := by omega
    rwa [Int.natCast_pow, show ((2 : Nat) : Int) = 2 from rfl, ← pw_eq] at this

/-- The bits of a number by its highest limb. -/
theorem bl_of_top {X : List Int} (m : Nat) (hX : Dg 18446744073709551616 X) (hl : X.length = m + 1) (L : Nat) (l1 : 1 ≤ L) (h1 : pw 2 (L - 1) ≤ X.getD m 0) (h2 : X.getD m 0 < pw 2 L) : BL (val 18446744073709551616 X) (64 * m + L) := by
  obtain ⟨t1, t2⟩ := top_split2 m hX hl
  have hp := pw_pos (b := 18446744073709551616) (by decide) m
  have q1 := Int.mul_le_mul_of_nonneg_right h1 (show 0 ≤ pw 18446744073709551616 m by omega)
  have q2 := Int.mul_le_mul_of_nonneg_right (show X.getD m 0 + 1 ≤ pw 2 L by omega) (show 0 ≤ pw 18446744073709551616 m by omega)
  have q3 := pw_pos (b := 2) (by decide) (L - 1)
  have e1 : pw 2 (64 * m + L) = pw 2 L * pw 18446744073709551616 m := by rw [pw_add, pw_64, Int.mul_comm]
  have e2 : pw 2 (64 * m + L - 1) = pw 2 (L - 1) * pw 18446744073709551616 m := by rw [show 64 * m + L - 1 = 64 * m + (L - 1) by omega, pw_add, pw_64, Int.mul_comm]
  have q4 := Int.mul_pos q3 hp
  exact .inr ⟨by omega, by omega, by rw [e2]; omega, by rw [e1]; omega⟩

/-- The bytes that so many bits fill. -/
theorem bl_bytes {x : Int} {S : Nat} (h : BL x S) : x < pw 256 ((S + 7) / 8) ∧ (0 < (S + 7) / 8 → pw 256 ((S + 7) / 8 - 1) ≤ x) := by
  have h1 := h.lt
  have h2 := pw_mono (b := 2) (by decide) S (8 * ((S + 7) / 8)) (by omega)
  rw [pw_b] at h2
  refine ⟨by omega, fun hp => ?_⟩
  rcases h with ⟨rfl, rfl⟩ | ⟨k0, k1, k2, k3⟩
  · simp at hp
  · have h3 := pw_mono (b := 2) (by decide) (8 * ((S + 7) / 8 - 1)) (S - 1) (by omega)
    rw [pw_b] at h3
    omega

end Go.Proofs.Ytobdpcmafjhnlaa
