/-
  clock.Seconds and its parts.
-/
import Derived.Test.YtnpimjfdidbdfaaDoorCYear
import Derived.Test.YtnpimjfdidbdfaaDoorCEq
import Derived.Deep.QuietTactic
import Derived.BigQuiet
import Derived.Deep.RegionHeld3
namespace Go.Proofs.YtnpimjfdidbdfaaDoor
open Go.RowKit

/-- The number from low to high that is nearest to n. -/
def btw (n lo hi : Int) : Int := if hi < (if n < lo then lo else n) then hi else (if n < lo then lo else n)

theorem btw_eq {n lo hi : Int} (h : lo ≤ hi) : n = btw n lo hi ↔ lo ≤ n ∧ n ≤ hi := by
  unfold btw
  split <;> split <;> omega

theorem btw_in {n lo hi : Int} (h : lo ≤ hi) : lo ≤ btw n lo hi ∧ btw n lo hi ≤ hi := by
  unfold btw
  split <;> split <;> omega

set_option maxRecDepth 100000 in
set_option maxHeartbeats 1000000 in
theorem between_any (n lo hi : Int) (w : World) :
    Calls Tryd.prog 45 #[.int .i64 n, .int .i64 lo, .int .i64 hi] w fun e w' => e = .returned (.int .i64 (btw n lo hi)) ∧ w' = w := by
  have E : Hid (btw n lo hi = if hi < (if n < lo then lo else n) then hi else (if n < lo then lo else n)) := rfl
  by_cases h1 : n < lo
  · rw [if_pos h1] at E
    by_cases h2 : hi < lo
    · rw [if_pos h2] at E
      go_enter Tryd.func45, Tryd.ntmps45
      go_wp2
      go_ret
      rw [unhide E]
      exact ⟨rfl, rfl⟩
    · rw [if_neg h2] at E
      go_enter Tryd.func45, Tryd.ntmps45
      go_wp2
      go_ret
      rw [unhide E]
      exact ⟨rfl, rfl⟩
  · rw [if_neg h1] at E
    by_cases h2 : hi < n
    · rw [if_pos h2] at E
      go_enter Tryd.func45, Tryd.ntmps45
      go_wp2
      go_ret
      rw [unhide E]
      exact ⟨rfl, rfl⟩
    · rw [if_neg h2] at E
      go_enter Tryd.func45, Tryd.ntmps45
      go_wp2
      go_ret
      rw [unhide E]
      exact ⟨rfl, rfl⟩

set_option maxRecDepth 100000 in
set_option maxHeartbeats 1000000 in
theorem yearBegin_any (y : Int) (h1 : 1950 ≤ y) (h2 : y ≤ 9999) (w : World) :
    Calls Tryd.prog 35 #[.int .i64 y] w fun e w' => e = .returned (.int .i64 (dby y)) ∧ w' = w := by
  have hc := dby_cycles 1950 ((y - 1950) / 400)
  rw [dby_1950] at hc
  have HC := hide hc
  clear hc
  go_enter Tryd.func35, Tryd.ntmps35
  go_wp2
  go_loop [4, 5] (fun a b => ∃ Y : Int, 1950 ≤ Y ∧ Y ≤ y ∧ b = .int .i64 Y ∧ a = .int .i64 (dby Y)) (fun _ b => (y - intOf b).toNat)
  case atStart => exact ⟨1950 + 400 * ((y - 1950) / 400), by omega, by omega, by congr 1; omega, by rw [HC.out]; congr 1; omega⟩
  case round =>
    obtain ⟨Y, k1, k2, rfl, rfl⟩ := hrel
    have s := hide (dby_succ Y)
    have l := lp_01 Y
    have b3 := dby_in Y k1 (by omega)
    by_cases hY : Y < y
    · go_wp2_with (go_at_call 43; refine (daysOf_any _ _).mono ?_; rintro e w' ⟨rfl, rfl⟩)
      go_round
      case rel => exact ⟨Y + 1, by omega, by omega, rfl, by congr 1; rw [s.out]; omega⟩
      case measure => simp [intOf]; omega
    · obtain rfl : Y = y := by omega
      go_wp2
      go_ret
      exact ⟨rfl, rfl⟩

set_option maxRecDepth 100000 in
set_option maxHeartbeats 1000000 in
theorem monthBegin_any (y m : Int) (h1 : 1 ≤ m) (h2 : m ≤ 12) (w : World) (ht : Tab w) :
    Calls Tryd.prog 36 #[.int .i64 y, .int .i64 m] w fun e w' => e = .returned (.int .i64 (cum y m)) ∧ w' = w := by
  have HT := hide ht
  clear ht
  go_enter Tryd.func36, Tryd.ntmps36
  go_wp2
  go_loop [5, 6] (fun a b => ∃ M : Int, 1 ≤ M ∧ M ≤ m ∧ b = .int .i64 M ∧ a = .int .i64 (cum y M)) (fun _ b => (m - intOf b).toNat)
  case atStart => exact ⟨1, by omega, by omega, rfl, rfl⟩
  case round =>
    obtain ⟨M, k1, k2, rfl, rfl⟩ := hrel
    have s := hide (cum_succ y M k1 (by omega))
    have l := dim_in y M k1 (by omega)
    have b3 := cum_in y M k1 (by omega)
    by_cases hY : M < m
    · go_wp2_with (go_at_call 21; refine (days_any _ _ _ HT.out).mono ?_; rintro e w' ⟨rfl, rfl⟩)
      go_round
      case rel => exact ⟨M + 1, by omega, by omega, rfl, by congr 1; rw [s.out]⟩
      case measure => simp [intOf]; omega
    · obtain rfl : M = m := by omega
      go_wp2
      go_ret
      exact ⟨rfl, rfl⟩

end Go.Proofs.YtnpimjfdidbdfaaDoor
