/-
  What is found of any bytes, put again, is those bytes; all places, one behind the other, are the bytes. No Go, no program.
-/
import Derived.Test.YtodhlmnjfkbocaaRound
import Derived.Test.YtodhlmnjfkbocaaAllBase
import Derived.Test.YtodhlmnjfkbocaaPut
namespace Go.Proofs.Ytodhlmnjfkbocaa

theorem cons_take1 (ys : List Int) (h : 0 < ys.length) : ys = ys.getD 0 0 :: ys.drop 1 := by
  cases ys with
  | nil => simp at h
  | cons a r => simp

theorem digs_of1 (a : Int) (h0 : 0 < a) (h1 : a < 256) : digs (numOf [a]).toNat = [a] := by
  obtain ⟨A, rfl⟩ := Int.eq_ofNat_of_zero_le (show 0 ≤ a by omega)
  have e : (numOf [(A : Int)]).toNat = A := by simp [numOf]
  rw [e]
  unfold digs
  rw [if_neg (by omega), if_pos (by omega)]

theorem digs_of2 (a b : Int) (h0 : 0 < a) (h1 : a < 256) (h2 : 0 ≤ b) (h3 : b < 256) : digs (numOf [a, b]).toNat = [a, b] := by
  obtain ⟨A, rfl⟩ := Int.eq_ofNat_of_zero_le (show 0 ≤ a by omega)
  obtain ⟨B, rfl⟩ := Int.eq_ofNat_of_zero_le h2
  have e : (numOf [(A : Int), (B : Int)]).toNat = A * 256 + B := by simp [numOf]; omega
  rw [e]
  unfold digs
  rw [if_neg (by omega), if_neg (by omega), if_pos (by omega), show (A * 256 + B) / 256 = A by omega, show (A * 256 + B) % 256 = B by omega]

theorem digs_of3 (a b c : Int) (h0 : 0 < a) (h1 : a < 256) (h2 : 0 ≤ b) (h3 : b < 256) (h4 : 0 ≤ c) (h5 : c < 256) : digs (numOf [a, b, c]).toNat = [a, b, c] := by
  obtain ⟨A, rfl⟩ := Int.eq_ofNat_of_zero_le (show 0 ≤ a by omega)
  obtain ⟨B, rfl⟩ := Int.eq_ofNat_of_zero_le h2
  obtain ⟨C, rfl⟩ := Int.eq_ofNat_of_zero_le h4
  have e : (numOf [(A : Int), (B : Int), (C : Int)]).toNat = (A * 256 + B) * 256 + C := by simp [numOf]; omega
  rw [e]
  unfold digs
  rw [if_neg (by omega), if_neg (by omega), if_neg (by omega), show ((A * 256 + B) * 256 + C) / 65536 = A by omega, show ((A * 256 + B) * 256 + C) / 256 % 256 = B by omega, show ((A * 256 + B) * 256 + C) % 256 = C by omega]

/-- The length that is taken has just these bytes. -/
theorem lenB_take (zs : List Int) (hz : 0 < zs.length) (hb : ∀ x ∈ zs, 0 ≤ x ∧ x < 256) (he : (takeLenS zs).2.2 = 0) : lenB (takeLenS zs).1.toNat = zs.take (takeLenS zs).2.1.toNat := by
  have h0 : 0 ≤ zs.getD 0 0 ∧ zs.getD 0 0 < 256 := by
    rw [List.getD, List.getElem?_eq_getElem hz]; exact hb _ (List.getElem_mem _)
  have hc := cons_take1 zs hz
  revert he
  unfold takeLenS
  by_cases h1 : zs.getD 0 0 ≤ 127
  · rw [if_pos h1]
    intro _
    simp only [Int.toNat_one]
    unfold lenB
    rw [if_pos (by omega), Int.toNat_of_nonneg h0.1]
    conv => rhs; rw [hc]
    simp
  · rw [if_neg h1]
    by_cases h2 : zs.getD 0 0 = 128 ∨ 131 < zs.getD 0 0
    · rw [if_pos h2]; intro h; simp at h
    · rw [if_neg h2]
      by_cases h3 : 1 < zs.length ∧ zs.getD 1 0 = 0
      · rw [if_pos h3]; intro h; simp at h
      · rw [if_neg h3]
        by_cases h4 : (zs.length : Int) < 1 + (zs.getD 0 0 - 128)
        · rw [if_pos h4]; intro h; simp at h
        · rw [if_neg h4]
          by_cases h5 : numOf ((zs.drop 1).take (zs.getD 0 0 - 128).toNat) ≤ 127
          · rw [if_pos h5]; intro h; simp at h
          · rw [if_neg h5]
            intro _
            simp only []
            generalize hf : zs.getD 0 0 = f at *
            obtain ⟨k, hk⟩ : ∃ k : Nat, (f - 128).toNat = k := ⟨_, rfl⟩
            rw [hk] at h5 ⊢
            rw [show (1 + (f - 128)).toNat = k + 1 by omega]
            rw [hc, List.take_succ_cons]
            simp only [List.drop_succ_cons, List.drop_zero] at h5 ⊢
            generalize hr : zs.drop 1 = r at *
            have hrl : k ≤ r.length := by rw [← hr]; simp; omega
            have hrb : ∀ x ∈ r, 0 ≤ x ∧ x < 256 := by rw [← hr]; exact fun x hx => hb x (List.mem_of_mem_drop hx)
            have hr0 : ∀ a q, r = a :: q → 0 < a := by
              intro a q ha
              have : zs.getD 1 0 = a := by rw [hc, ha]; simp
              have h' := (hrb a (by rw [ha]; simp)).1
              have hl : 1 < zs.length := by rw [hc, ha]; simp
              have : zs.getD 1 0 ≠ 0 := fun h => h3 ⟨hl, h⟩
              omega
            have key : digs (numOf (r.take k)).toNat = r.take k := by
              match k, r, hrl, hrb, hr0 with
              | 1, a :: q, _, hrb, hr0 =>
                simp only [List.take_succ_cons, List.take_zero]
                exact digs_of1 a (hr0 a q rfl) (hrb a (by simp)).2
              | 2, a :: b :: q, _, hrb, hr0 =>
                simp only [List.take_succ_cons, List.take_zero]
                exact digs_of2 a b (hr0 a _ rfl) (hrb a (by simp)).2 (hrb b (by simp)).1 (hrb b (by simp)).2
              | 3, a :: b :: c :: q, _, hrb, hr0 =>
                simp only [List.take_succ_cons, List.take_zero]
                exact digs_of3 a b c (hr0 a _ rfl) (hrb a (by simp)).2 (hrb b (by simp)).1 (hrb b (by simp)).2 (hrb c (by simp)).1 (hrb c (by simp)).2
              | 0, _, _, _, _ => exfalso; omega
              | k + 4, _, _, _, _ => exfalso; omega
              | 1, [], hrl, _, _ => simp at hrl
              | 2, [], hrl, _, _ => simp at hrl
              | 2, [_], hrl, _, _ => simp at hrl
              | 3, [], hrl, _, _ => simp at hrl
              | 3, [_], hrl, _, _ => simp at hrl
              | 3, [_, _], hrl, _, _ => simp at hrl
            unfold lenB
            rw [if_neg (by omega), key]
            congr 1
            rw [List.length_take, Nat.min_eq_left hrl]
            omega

end Go.Proofs.Ytodhlmnjfkbocaa
