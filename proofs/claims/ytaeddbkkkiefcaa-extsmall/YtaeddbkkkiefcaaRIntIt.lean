/-
  The reference's Int lays the same bytes as num.Int: the lowest k bytes, k the least that holds the number.
-/
import Derived.Test.YtaeddbkkkiefcaaRInt
namespace Go.Proofs.Ytaeddbkkkiefcaa
open Go.RowKit Go.IntWalk

theorem lowS_int (n : Int) (k : Nat) (h0 : -(128 * 256 ^ k) ≤ n) (h1 : n < 128 * 256 ^ k) (h8 : k + 1 ≤ 8) (hi : isIntS (lowS n (k + 1)) = true) : lowS n (k + 1) = intS n := by
  have hv := valS_low k n h0 h1
  have := int_once (lowS n (k + 1)) (lowS_byte _ _) hi (by rw [lowS_len]; exact h8)
  rw [hv] at this
  exact this.symm

theorem isInt_low (n : Int) (k : Nat) (h : idleS (n / 256 ^ (k + 1) % 256) (n / 256 ^ k % 256) = false) : isIntS (lowS n (k + 2)) = true := by
  rw [lowS_cons (k + 1), lowS_cons k]
  unfold isIntS
  simp [h]

theorem fits0 (n : Int) (h0 : -32768 ≤ n) (h1 : n < 32768) (h2 : ¬ (-128 ≤ n ∧ n < 128)) : lowS n (0 + 2) = intS n := by
  refine lowS_int n (0 + 1) (by simp; omega) (by simp; omega) (by omega) (isInt_low n 0 ?_)
  unfold idleS
  simp
  omega
theorem fits1 (n : Int) (h0 : -8388608 ≤ n) (h1 : n < 8388608) (h2 : ¬ (-32768 ≤ n ∧ n < 32768)) : lowS n (1 + 2) = intS n := by
  refine lowS_int n (1 + 1) (by simp; omega) (by simp; omega) (by omega) (isInt_low n 1 ?_)
  unfold idleS
  simp
  omega
theorem fits2 (n : Int) (h0 : -2147483648 ≤ n) (h1 : n < 2147483648) (h2 : ¬ (-8388608 ≤ n ∧ n < 8388608)) : lowS n (2 + 2) = intS n := by
  refine lowS_int n (2 + 1) (by simp; omega) (by simp; omega) (by omega) (isInt_low n 2 ?_)
  unfold idleS
  simp
  omega
theorem fits3 (n : Int) (h0 : -549755813888 ≤ n) (h1 : n < 549755813888) (h2 : ¬ (-2147483648 ≤ n ∧ n < 2147483648)) : lowS n (3 + 2) = intS n := by
  refine lowS_int n (3 + 1) (by simp; omega) (by simp; omega) (by omega) (isInt_low n 3 ?_)
  unfold idleS
  simp
  omega
theorem fits4 (n : Int) (h0 : -140737488355328 ≤ n) (h1 : n < 140737488355328) (h2 : ¬ (-549755813888 ≤ n ∧ n < 549755813888)) : lowS n (4 + 2) = intS n := by
  refine lowS_int n (4 + 1) (by simp; omega) (by simp; omega) (by omega) (isInt_low n 4 ?_)
  unfold idleS
  simp
  omega
theorem fits5 (n : Int) (h0 : -36028797018963968 ≤ n) (h1 : n < 36028797018963968) (h2 : ¬ (-140737488355328 ≤ n ∧ n < 140737488355328)) : lowS n (5 + 2) = intS n := by
  refine lowS_int n (5 + 1) (by simp; omega) (by simp; omega) (by omega) (isInt_low n 5 ?_)
  unfold idleS
  simp
  omega
theorem fits6 (n : Int) (h0 : -9223372036854775808 ≤ n) (h1 : n < 9223372036854775808) (h2 : ¬ (-36028797018963968 ≤ n ∧ n < 36028797018963968)) : lowS n (6 + 2) = intS n := by
  refine lowS_int n (6 + 1) (by simp; omega) (by simp; omega) (by omega) (isInt_low n 6 ?_)
  unfold idleS
  simp
  omega

theorem fits_one (n : Int) (h0 : -128 ≤ n) (h1 : n < 128) : lowS n 1 = intS n := lowS_int n 0 (by simp; omega) (by simp; omega) (by omega) rfl

/-- No fewer than k bytes hold n. -/
def notIn (k : Nat) (n : Int) : Prop := ∀ j : Nat, j + 1 < k → ¬ (-(128 * 256 ^ j) ≤ n ∧ n < 128 * 256 ^ j)

theorem notIn_next {k : Nat} {n : Int} (h : notIn (k + 1) n) (hn : ¬ (-(128 * 256 ^ k) ≤ n ∧ n < 128 * 256 ^ k)) : notIn (k + 2) n := by
  intro j hj
  rcases (show j = k ∨ j + 1 < k + 1 by omega) with rfl | hj
  · exact hn
  · exact h j hj

set_option maxRecDepth 100000 in
set_option maxHeartbeats 1000000 in
theorem refInt_any (n : Int) (h0 : -9223372036854775808 ≤ n) (h1 : n < 9223372036854775808) (w : World) :
    Calls Try.prog 37 #[.int .i64 n] w fun e w' => ∃ ao m c', e = .returned (.slice ao m c') ∧ OwnB w' w.heap.size (.slice ao m c') (intS n) ∧ Below w.heap.size w w' := by
  go_enter Try.func37, Try.ntmps37
  go_wp2
  go_loop [3, 4] (fun i _ => ∃ k : Nat, 1 ≤ k ∧ k ≤ 8 ∧ i = .int .i64 k ∧ notIn k n) (fun i _ => 8 - (intOf i).toNat)
  case atStart => exact ⟨1, by omega, by omega, rfl, fun j hj => by omega⟩
  case round =>
    obtain ⟨k, hk1, hk, rfl, hN⟩ := hrel
    rcases (show k = 1 ∨ k = 2 ∨ k = 3 ∨ k = 4 ∨ k = 5 ∨ k = 6 ∨ k = 7 ∨ k = 8 by omega) with rfl | rfl | rfl | rfl | rfl | rfl | rfl | rfl
    · by_cases hfit : -128 ≤ n ∧ n < 128
      · have HF := hide (fits_one n hfit.1 hfit.2)
        obtain ⟨hf1, hf2⟩ := hfit
        clear hk hN
        go_wp2_with (go_at_call 68; refine (low_any n 1 (by decide) (by decide) _).mono ?_; rintro e w1 ⟨ao, c, rfl, ho, hb⟩)
        go_ret
        exact ⟨ao, _, c, rfl, by have := HF.out; rw [this] at ho; exact ho, hb⟩
      · have HX := hide (notIn_next (k := 0) hN (by simp; omega))
        by_cases hf1 : -128 ≤ n
        · have hf2 : ¬ n < 128 := by omega
          clear hk hN hfit
          go_wp2
          go_round
          case rel => exact ⟨1 + 1, by omega, by omega, by go_num, HX.out⟩
          case measure => simp [intOf]
        · clear hk hN hfit
          go_wp2
          go_round
          case rel => exact ⟨1 + 1, by omega, by omega, by go_num, HX.out⟩
          case measure => simp [intOf]
    · by_cases hfit : -32768 ≤ n ∧ n < 32768
      · have HF := hide (fits0 n hfit.1 hfit.2 (hN 0 (by omega)))
        obtain ⟨hf1, hf2⟩ := hfit
        clear hk hN
        go_wp2_with (go_at_call 68; refine (low_any n 2 (by decide) (by decide) _).mono ?_; rintro e w1 ⟨ao, c, rfl, ho, hb⟩)
        go_ret
        exact ⟨ao, _, c, rfl, by have := HF.out; rw [this] at ho; exact ho, hb⟩
      · have HX := hide (notIn_next (k := 1) hN (by simp; omega))
        by_cases hf1 : -32768 ≤ n
        · have hf2 : ¬ n < 32768 := by omega
          clear hk hN hfit
          go_wp2
          go_round
          case rel => exact ⟨2 + 1, by omega, by omega, by go_num, HX.out⟩
          case measure => simp [intOf]
        · clear hk hN hfit
          go_wp2
          go_round
          case rel => exact ⟨2 + 1, by omega, by omega, by go_num, HX.out⟩
          case measure => simp [intOf]
    · by_cases hfit : -8388608 ≤ n ∧ n < 8388608
      · have HF := hide (fits1 n hfit.1 hfit.2 (hN 1 (by omega)))
        obtain ⟨hf1, hf2⟩ := hfit
        clear hk hN
        go_wp2_with (go_at_call 68; refine (low_any n 3 (by decide) (by decide) _).mono ?_; rintro e w1 ⟨ao, c, rfl, ho, hb⟩)
        go_ret
        exact ⟨ao, _, c, rfl, by have := HF.out; rw [this] at ho; exact ho, hb⟩
      · have HX := hide (notIn_next (k := 2) hN (by simp; omega))
        by_cases hf1 : -8388608 ≤ n
        · have hf2 : ¬ n < 8388608 := by omega
          clear hk hN hfit
          go_wp2
          go_round
          case rel => exact ⟨3 + 1, by omega, by omega, by go_num, HX.out⟩
          case measure => simp [intOf]
        · clear hk hN hfit
          go_wp2
          go_round
          case rel => exact ⟨3 + 1, by omega, by omega, by go_num, HX.out⟩
          case measure => simp [intOf]
    · by_cases hfit : -2147483648 ≤ n ∧ n < 2147483648
      · have HF := hide (fits2 n hfit.1 hfit.2 (hN 2 (by omega)))
        obtain ⟨hf1, hf2⟩ := hfit
        clear hk hN
        go_wp2_with (go_at_call 68; refine (low_any n 4 (by decide) (by decide) _).mono ?_; rintro e w1 ⟨ao, c, rfl, ho, hb⟩)
        go_ret
        exact ⟨ao, _, c, rfl, by have := HF.out; rw [this] at ho; exact ho, hb⟩
      · have HX := hide (notIn_next (k := 3) hN (by simp; omega))
        by_cases hf1 : -2147483648 ≤ n
        · have hf2 : ¬ n < 2147483648 := by omega
          clear hk hN hfit
          go_wp2
          go_round
          case rel => exact ⟨4 + 1, by omega, by omega, by go_num, HX.out⟩
          case measure => simp [intOf]
        · clear hk hN hfit
          go_wp2
          go_round
          case rel => exact ⟨4 + 1, by omega, by omega, by go_num, HX.out⟩
          case measure => simp [intOf]
    · by_cases hfit : -549755813888 ≤ n ∧ n < 549755813888
      · have HF := hide (fits3 n hfit.1 hfit.2 (hN 3 (by omega)))
        obtain ⟨hf1, hf2⟩ := hfit
        clear hk hN
        go_wp2_with (go_at_call 68; refine (low_any n 5 (by decide) (by decide) _).mono ?_; rintro e w1 ⟨ao, c, rfl, ho, hb⟩)
        go_ret
        exact ⟨ao, _, c, rfl, by have := HF.out; rw [this] at ho; exact ho, hb⟩
      · have HX := hide (notIn_next (k := 4) hN (by simp; omega))
        by_cases hf1 : -549755813888 ≤ n
        · have hf2 : ¬ n < 549755813888 := by omega
          clear hk hN hfit
          go_wp2
          go_round
          case rel => exact ⟨5 + 1, by omega, by omega, by go_num, HX.out⟩
          case measure => simp [intOf]
        · clear hk hN hfit
          go_wp2
          go_round
          case rel => exact ⟨5 + 1, by omega, by omega, by go_num, HX.out⟩
          case measure => simp [intOf]
    · by_cases hfit : -140737488355328 ≤ n ∧ n < 140737488355328
      · have HF := hide (fits4 n hfit.1 hfit.2 (hN 4 (by omega)))
        obtain ⟨hf1, hf2⟩ := hfit
        clear hk hN
        go_wp2_with (go_at_call 68; refine (low_any n 6 (by decide) (by decide) _).mono ?_; rintro e w1 ⟨ao, c, rfl, ho, hb⟩)
        go_ret
        exact ⟨ao, _, c, rfl, by have := HF.out; rw [this] at ho; exact ho, hb⟩
      · have HX := hide (notIn_next (k := 5) hN (by simp; omega))
        by_cases hf1 : -140737488355328 ≤ n
        · have hf2 : ¬ n < 140737488355328 := by omega
          clear hk hN hfit
          go_wp2
          go_round
          case rel => exact ⟨6 + 1, by omega, by omega, by go_num, HX.out⟩
          case measure => simp [intOf]
        · clear hk hN hfit
          go_wp2
          go_round
          case rel => exact ⟨6 + 1, by omega, by omega, by go_num, HX.out⟩
          case measure => simp [intOf]
    · by_cases hfit : -36028797018963968 ≤ n ∧ n < 36028797018963968
      · have HF := hide (fits5 n hfit.1 hfit.2 (hN 5 (by omega)))
        obtain ⟨hf1, hf2⟩ := hfit
        clear hk hN
        go_wp2_with (go_at_call 68; refine (low_any n 7 (by decide) (by decide) _).mono ?_; rintro e w1 ⟨ao, c, rfl, ho, hb⟩)
        go_ret
        exact ⟨ao, _, c, rfl, by have := HF.out; rw [this] at ho; exact ho, hb⟩
      · have HX := hide (notIn_next (k := 6) hN (by simp; omega))
        by_cases hf1 : -36028797018963968 ≤ n
        · have hf2 : ¬ n < 36028797018963968 := by omega
          clear hk hN hfit
          go_wp2
          go_round
          case rel => exact ⟨7 + 1, by omega, by omega, by go_num, HX.out⟩
          case measure => simp [intOf]
        · clear hk hN hfit
          go_wp2
          go_round
          case rel => exact ⟨7 + 1, by omega, by omega, by go_num, HX.out⟩
          case measure => simp [intOf]
    · have HF := hide (fits6 n h0 h1 (hN 6 (by omega)))
      clear hk hN
      go_wp2_with (go_at_call 68; refine (low_any n 8 (by decide) (by decide) _).mono ?_; rintro e w1 ⟨ao, c, rfl, ho, hb⟩)
      go_ret
      exact ⟨ao, _, c, rfl, by have := HF.out; rw [this] at ho; exact ho, hb⟩

end Go.Proofs.Ytaeddbkkkiefcaa
