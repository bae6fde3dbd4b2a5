/-
  clock's parts: whether a number is a time, a time's day, the year and the month in which a day lies.
-/
import Derived.Test.YtnpimjfdidbdfabDoorCBase
import Derived.WalkMore
namespace Go.Proofs.YtnpimjfdidbdfabDoor
open Go.RowKit

theorem ret_int2 {a b c d : Int} (h : a = b) (k : c = d) : Ending.returned (.tuple #[.int .i64 a, .int .i64 c]) = .returned (.tuple #[.int .i64 b, .int .i64 d]) := by rw [h, k]

theorem isTime_yes (t : Int) (h1 : -631152000 ≤ t) (h2 : t ≤ 253402300799) (w : World) :
    Calls Tryd.prog 19 #[.int .i64 t] w fun e w' => e = .returned (.bool true) ∧ w' = w := by
  go_enter Tryd.func19, Tryd.ntmps19
  go_wp2
  go_ret
  exact ⟨rfl, rfl⟩

theorem isTime_no (t : Int) (h : t < -631152000 ∨ 253402300799 < t) (w : World) :
    Calls Tryd.prog 19 #[.int .i64 t] w fun e w' => e = .returned (.bool false) ∧ w' = w := by
  rcases h with h | h
  · go_enter Tryd.func19, Tryd.ntmps19
    go_wp2
    go_ret
    exact ⟨rfl, rfl⟩
  · have hd : decide (t ≤ 253402300799) = false := by simp; omega
    go_enter Tryd.func19, Tryd.ntmps19
    go_wp2
    go_ret
    exact ⟨rfl, rfl⟩

theorem split_any (t : Int) (h1 : -631152000 ≤ t) (h2 : t ≤ 253402300799) (w : World) :
    Calls Tryd.prog 20 #[.int .i64 t] w fun e w' => e = .returned (.tuple #[.int .i64 ((t + 631152000) / 86400), .int .i64 ((t + 631152000) % 86400)]) ∧ w' = w := by
  go_enter Tryd.func20, Tryd.ntmps20
  go_wp2
  go_ret2
  exact ⟨ret_int2 (by omega) (by omega), rfl⟩

theorem daysOf_any (y : Int) (w : World) :
    Calls Tryd.prog 29 #[.int .i64 y] w fun e w' => e = .returned (.int .i64 (365 + lp y)) ∧ w' = w := by
  cases hl : leapB y with
  | true =>
    rw [lp_true hl]
    go_enter Tryd.func29, Tryd.ntmps29
    go_wp2_with (go_at_call 7; refine (leap_any _ _).mono ?_; rintro e w' ⟨rfl, rfl⟩)
    go_ret
    exact ⟨rfl, rfl⟩
  | false =>
    rw [lp_false hl]
    go_enter Tryd.func29, Tryd.ntmps29
    go_wp2_with (go_at_call 7; refine (leap_any _ _).mono ?_; rintro e w' ⟨rfl, rfl⟩)
    go_ret
    exact ⟨rfl, rfl⟩

set_option maxRecDepth 100000 in
set_option maxHeartbeats 1000000 in
theorem yearOf_at (d y : Int) (h1 : 1950 ≤ y) (h2 : y ≤ 9999) (h3 : dby y ≤ d) (h4 : d < dby (y + 1)) (w : World) :
    Calls Tryd.prog 21 #[.int .i64 d] w fun e w' => e = .returned (.tuple #[.int .i64 y, .int .i64 (d - dby y)]) ∧ w' = w := by
  have b1 := dby_in y h1 (by omega)
  have b2 := dby_in (y + 1) (by omega) (by omega)
  have hc := dby_cycles 1950 (d / 146097)
  rw [dby_1950] at hc
  have hs : 1950 + 400 * (d / 146097) ≤ y := by
    by_cases h : y < 1950 + 400 * (d / 146097)
    · have := dby_mono (y + 1) (1950 + 400 * (d / 146097)) (by omega); omega
    · omega
  have HC := hide hc
  clear hc
  have H4 := hide h4
  clear h4
  go_enter Tryd.func21, Tryd.ntmps21
  go_wp2
  go_step3
  go_wp2
  go_step3
  go_wp2
  go_loop [2, 3] (fun a b => ∃ Y : Int, 1950 ≤ Y ∧ Y ≤ y ∧ a = .int .i64 Y ∧ b = .int .i64 (d - dby Y)) (fun a _ => (y - intOf a).toNat)
  case atStart => exact ⟨1950 + 400 * (d / 146097), by omega, by omega, by congr 1; omega, by congr 1; rw [HC.out]; omega⟩
  case round =>
    obtain ⟨Y, k1, k2, rfl, rfl⟩ := hrel
    have s := hide (dby_succ Y)
    have l := lp_01 Y
    have b3 := dby_in Y k1 (by omega)
    by_cases hY : Y = y
    · subst hY
      have hlt : d - dby Y < 365 + lp Y := by have := H4.out; rw [s.out] at this; omega
      go_wp2_with (go_at_call 29; refine (daysOf_any _ _).mono ?_; rintro e w' ⟨rfl, rfl⟩)
      simp only [Exit.noGoto_ret]
      go_ret2
      exact ⟨rfl, rfl⟩
    · have m := dby_mono (Y + 1) y (by omega)
      have hlt : ¬ d - dby Y < 365 + lp Y := by rw [s.out] at m; omega
      clear m
      go_wp2_with (go_at_call 29; refine (daysOf_any _ _).mono ?_; rintro e w' ⟨rfl, rfl⟩)
      go_round
      case rel => exact ⟨Y + 1, by omega, by omega, rfl, by congr 1; rw [s.out]; omega⟩
      case measure => simp [intOf]; omega

set_option maxRecDepth 100000 in
set_option maxHeartbeats 1000000 in
theorem monthOf_at (y r m : Int) (h1 : 1 ≤ m) (h2 : m ≤ 12) (h3 : cum y m ≤ r) (h4 : r < cum y (m + 1)) (w : World) (ht : Tab w) :
    Calls Tryd.prog 22 #[.int .i64 y, .int .i64 r] w fun e w' => e = .returned (.tuple #[.int .i64 m, .int .i64 (r - cum y m)]) ∧ w' = w := by
  have b1 := cum_in y m h1 (by omega)
  have b2 := cum_in y (m + 1) (by omega) (by omega)
  have HT := hide ht
  have H4 := hide h4
  have hr : r ≤ 366 := by omega
  clear h4 ht
  go_enter Tryd.func22, Tryd.ntmps22
  go_wp2
  go_loop [4, 5] (fun a b => ∃ M : Int, 1 ≤ M ∧ M ≤ m ∧ a = .int .i64 M ∧ b = .int .i64 (r - cum y M)) (fun a _ => (m - intOf a).toNat)
  case atStart => exact ⟨1, by omega, by omega, rfl, by rw [cum_one]; congr 1; omega⟩
  case round =>
    obtain ⟨M, k1, k2, rfl, rfl⟩ := hrel
    have s := hide (cum_succ y M k1 (by omega))
    have l := dim_in y M k1 (by omega)
    have b3 := cum_in y M k1 (by omega)
    by_cases hY : M = m
    · subst hY
      have hlt : ¬ dim y M ≤ r - cum y M := by have := H4.out; rw [s.out] at this; omega
      go_wp2_with (go_at_call 23; refine (days_any _ _ _ HT.out).mono ?_; rintro e w' ⟨rfl, rfl⟩)
      go_ret2
      exact ⟨rfl, rfl⟩
    · have mm := cum_mono y (M + 1) m (by omega) (by omega) (by omega)
      have hlt : dim y M ≤ r - cum y M := by rw [s.out] at mm; omega
      clear mm
      go_wp2_with (go_at_call 23; refine (days_any _ _ _ HT.out).mono ?_; rintro e w' ⟨rfl, rfl⟩)
      go_round
      case rel => exact ⟨M + 1, by omega, by omega, rfl, by congr 1; rw [s.out]; omega⟩
      case measure => simp [intOf]; omega

end Go.Proofs.YtnpimjfdidbdfabDoor
