/-
  oid.size: how many digits to the base 128 a number has (sizeS); with math/bits.Len, whose text is walked.
-/
import Derived.Test.YtgbbgfjamneioaaDoorZMoreIToKept3
import Derived.Lib.Tables
namespace Go.Proofs.YtgbbgfjamneioaaDoor
open Go.RowKit Go.IntWalk

theorem foldO_len : ({ data := (([0, 1, 2, 2, 3, 3, 3, 3, 4, 4, 4, 4, 4, 4, 4, 4, 5, 5, 5, 5, 5, 5, 5, 5, 5, 5, 5, 5, 5, 5, 5, 5, 6, 6, 6, 6, 6, 6, 6, 6, 6, 6, 6, 6, 6, 6, 6, 6, 6, 6, 6, 6, 6, 6, 6, 6, 6, 6, 6, 6, 6, 6, 6, 6].append [7, 7, 7, 7, 7, 7, 7, 7, 7, 7, 7, 7, 7, 7, 7, 7, 7, 7, 7, 7, 7, 7, 7, 7, 7, 7, 7, 7, 7, 7, 7, 7, 7, 7, 7, 7, 7, 7, 7, 7, 7, 7, 7, 7, 7, 7, 7, 7, 7, 7, 7, 7, 7, 7, 7, 7, 7, 7, 7, 7, 7, 7, 7, 7]).append ([8, 8, 8, 8, 8, 8, 8, 8, 8, 8, 8, 8, 8, 8, 8, 8, 8, 8, 8, 8, 8, 8, 8, 8, 8, 8, 8, 8, 8, 8, 8, 8, 8, 8, 8, 8, 8, 8, 8, 8, 8, 8, 8, 8, 8, 8, 8, 8, 8, 8, 8, 8, 8, 8, 8, 8, 8, 8, 8, 8, 8, 8, 8, 8].append [8, 8, 8, 8, 8, 8, 8, 8, 8, 8, 8, 8, 8, 8, 8, 8, 8, 8, 8, 8, 8, 8, 8, 8, 8, 8, 8, 8, 8, 8, 8, 8, 8, 8, 8, 8, 8, 8, 8, 8, 8, 8, 8, 8, 8, 8, 8, 8, 8, 8, 8, 8, 8, 8, 8, 8, 8, 8, 8, 8, 8, 8, 8, 8])).toArray } : ByteArray) = Go.Lib.len8tab := by decide +kernel
attribute [local go_sem ↓] foldO_len

theorem len8_thr : ∀ b : Nat, b < 256 → (1 ≤ Go.Lib.len8 b ↔ 1 ≤ b) ∧ (Go.Lib.len8 b ≤ 4 ↔ b < 16) ∧ (Go.Lib.len8 b ≤ 5 ↔ b < 32) ∧ (Go.Lib.len8 b ≤ 6 ↔ b < 64) ∧ (Go.Lib.len8 b ≤ 7 ↔ b < 128) ∧ 0 ≤ Go.Lib.len8 b ∧ Go.Lib.len8 b ≤ 8 := by decide +kernel

theorem len8_t (x : Int) (h0 : 0 ≤ x) (h1 : x < 256) : (1 ≤ Go.Lib.len8 x ↔ 1 ≤ x) ∧ (Go.Lib.len8 x ≤ 4 ↔ x < 16) ∧ (Go.Lib.len8 x ≤ 5 ↔ x < 32) ∧ (Go.Lib.len8 x ≤ 6 ↔ x < 64) ∧ (Go.Lib.len8 x ≤ 7 ↔ x < 128) ∧ 0 ≤ Go.Lib.len8 x ∧ Go.Lib.len8 x ≤ 8 := by
  obtain ⟨n, rfl⟩ := Int.eq_ofNat_of_zero_le h0
  have := len8_thr n (by omega)
  omega

/-- How many bits a number below 2^32 has. -/
def lenW (n : Int) : Int := if 65536 ≤ n then (if 16777216 ≤ n then 24 + Go.Lib.len8 (n / 65536 / 256) else 16 + Go.Lib.len8 (n / 65536)) else (if 256 ≤ n then 8 + Go.Lib.len8 (n / 256) else Go.Lib.len8 n)

/-- How many digits to the base 128 it has. -/
def sizeS (n : Int) : Int := if n < 128 then 1 else if n < 16384 then 2 else if n < 2097152 then 3 else if n < 268435456 then 4 else 5

theorem sizeO_len (n : Int) (h0 : 0 ≤ n) (h1 : n < 4294967296) : max 1 ((lenW n + 6) / 7) = sizeS n ∧ 0 ≤ lenW n ∧ lenW n ≤ 32 := by
  unfold lenW sizeS
  by_cases h2 : 65536 ≤ n
  · rw [if_pos h2]
    by_cases h3 : 16777216 ≤ n
    · rw [if_pos h3]
      have := len8_t (n / 65536 / 256) (by omega) (by omega)
      split <;> omega
    · rw [if_neg h3]
      have := len8_t (n / 65536) (by omega) (by omega)
      split <;> omega
  · rw [if_neg h2]
    by_cases h3 : 256 ≤ n
    · rw [if_pos h3]
      have := len8_t (n / 256) (by omega) (by omega)
      split <;> omega
    · rw [if_neg h3]
      have := len8_t n h0 (by omega)
      split <;> omega

set_option maxRecDepth 100000 in
set_option maxHeartbeats 1000000 in
theorem len64_any (n : Int) (h0 : 0 ≤ n) (h1 : n < 4294967296) (w : World) :
    Calls Tryd.prog 112 #[.int .u64 n] w fun e w' => e = .returned (.int .i64 (lenW n)) ∧ w' = w := by
  have g0 : ¬ 4294967296 ≤ n := by omega
  by_cases h2 : 65536 ≤ n
  · have d0 : 0 ≤ n / 65536 := by omega
    have d1 : n / 65536 < 65536 := by omega
    by_cases h3 : 16777216 ≤ n
    · have h4 : 256 ≤ n / 65536 := by omega
      have e1 := hide (show lenW n = 24 + Go.Lib.len8 (n / 65536 / 256) by unfold lenW; rw [if_pos h2, if_pos h3])
      have d2 : 0 ≤ n / 65536 / 256 := by omega
      have d3 : n / 65536 / 256 ≤ 255 := by omega
      have d4 := len8_t (n / 65536 / 256) d2 (by omega)
      obtain ⟨_, _, _, _, _, p0, p1⟩ := d4
      go_enter Tryd.func112, Tryd.ntmps112
      go_wp2
      go_ret
      rw [e1.out]
      exact ⟨by first | rfl | (simp; done), rfl⟩
    · have h4 : ¬ 256 ≤ n / 65536 := by omega
      have e1 := hide (show lenW n = 16 + Go.Lib.len8 (n / 65536) by unfold lenW; rw [if_pos h2, if_neg h3])
      have d3 : n / 65536 ≤ 255 := by omega
      have d4 := len8_t (n / 65536) d0 (by omega)
      obtain ⟨_, _, _, _, _, p0, p1⟩ := d4
      go_enter Tryd.func112, Tryd.ntmps112
      go_wp2
      go_ret
      rw [e1.out]
      exact ⟨by first | rfl | (simp; done), rfl⟩
  · by_cases h3 : 256 ≤ n
    · have e1 := hide (show lenW n = 8 + Go.Lib.len8 (n / 256) by unfold lenW; rw [if_neg h2, if_pos h3])
      have d2 : 0 ≤ n / 256 := by omega
      have d3 : n / 256 ≤ 255 := by omega
      have d4 := len8_t (n / 256) d2 (by omega)
      obtain ⟨_, _, _, _, _, p0, p1⟩ := d4
      go_enter Tryd.func112, Tryd.ntmps112
      go_wp2
      go_ret
      rw [e1.out]
      exact ⟨by first | rfl | (simp; done), rfl⟩
    · have e1 := hide (show lenW n = Go.Lib.len8 n by unfold lenW; rw [if_neg h2, if_neg h3])
      have d3 : n ≤ 255 := by omega
      have d4 := len8_t n h0 (by omega)
      obtain ⟨_, _, _, _, _, p0, p1⟩ := d4
      go_enter Tryd.func112, Tryd.ntmps112
      go_wp2
      go_ret
      rw [e1.out]
      exact ⟨by first | rfl | (simp; done), rfl⟩

theorem len_any (n : Int) (h0 : 0 ≤ n) (h1 : n < 4294967296) (w : World) :
    Calls Tryd.prog 101 #[.int .u64 n] w fun e w' => e = .returned (.int .i64 (lenW n)) ∧ w' = w := by
  go_enter Tryd.func101, Tryd.ntmps101
  go_wp2_with (go_at_call 112; refine (len64_any n h0 h1 _).mono ?_; rintro e w1 ⟨rfl, hw⟩; have hw2 := hw.symm; subst hw2)
  go_ret
  exact ⟨rfl, rfl⟩

set_option maxRecDepth 100000 in
set_option maxHeartbeats 1000000 in
theorem osize_any (n : Int) (h0 : 0 ≤ n) (h1 : n < 4294967296) (w : World) :
    Calls Tryd.prog 90 #[.int .i64 n] w fun e w' => e = .returned (.int .i64 (sizeS n)) ∧ w' = w := by
  obtain ⟨e1, e2, e3⟩ := sizeO_len n h0 h1
  have HE := hide e1
  have hq : Int.tdiv (lenW n + 6) 7 = (lenW n + 6) / 7 := Int.tdiv_eq_ediv_of_nonneg (by omega)
  clear e1
  have hu : IntKind.u64.wrap n = n := by rw [IntKind.wrap_u64]; omega
  obtain ⟨L, hL⟩ : ∃ L, lenW n = L := ⟨_, rfl⟩
  rw [hL] at HE e2 e3 hq
  have HL := hide hL
  clear hL
  go_enter Tryd.func90, Tryd.ntmps90
  go_wp2_with (first | (go_at_call 101; refine (len_any n h0 h1 _).mono ?_; rintro e w1 ⟨rfl, hw⟩; have hw2 := hw.symm; subst hw2; rw [HL.out]))
  all_goals (go_ret; rw [← HE.out]; refine ⟨congrArg Ending.returned (congrArg (Value.int IntKind.i64) ?_), rfl⟩; omega)

end Go.Proofs.YtgbbgfjamneioaaDoor
