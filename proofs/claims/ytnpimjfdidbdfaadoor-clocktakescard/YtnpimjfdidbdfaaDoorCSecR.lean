/-
  The document's Day and Seconds.
-/
import Derived.Test.YtnpimjfdidbdfaaDoorCRef
import Derived.Test.YtnpimjfdidbdfaaDoorCSix
import Derived.Test.YtnpimjfdidbdfaaDoorCYear
import Derived.Deep.QuietTactic
import Derived.BigQuiet
namespace Go.Proofs.YtnpimjfdidbdfaaDoor
open Go.RowKit
attribute [local go_sem] setCell_dN alloc_dN

set_option maxRecDepth 100000 in
set_option maxHeartbeats 2000000 in
theorem refDay_any (y m q : Int) (y1 : 1950 ≤ y) (y2 : y ≤ 9999) (m1 : 1 ≤ m) (m2 : m ≤ 12) (q1 : 1 ≤ q) (q2 : q ≤ 31) (w : World) :
    Calls Tryd.prog 37 #[.int .i64 y, .int .i64 m, .int .i64 q] w fun e w' => e = .returned (.int .i64 (dby y + cum y m + q - 1 - 7305)) ∧ w' = w := by
  have E : Hid (∀ V, V = dby y - 7305 + cum y m + q - 1 → V = dby y + cum y m + q - 1 - 7305) := by intro V h; omega
  go_enter Tryd.func37, Tryd.ntmps37
  go_wp2
  go_loop [7, 8] (fun a b => ∃ Y : Int, 1970 ≤ Y ∧ (Y ≤ y ∨ (Y = 1970 ∧ y < 1970)) ∧ b = .int .i64 Y ∧ a = .int .i64 (dby Y - 7305)) (fun _ b => (y - intOf b).toNat)
  case atStart => exact ⟨1970, by omega, by omega, rfl, by rw [dby_1970]; rfl⟩
  case round =>
    obtain ⟨Y, k1, k2, rfl, rfl⟩ := hrel
    have s := hide (dby_succ Y)
    have b3 := dby_in Y (by omega) (by omega)
    by_cases hY : Y < y
    · cases hl : leapB Y with
      | true =>
        have e1 := hide (lp_true hl)
        have HL := hide hl
        clear hl
        go_wp2_with (go_at_call 20; refine (refLeap_any _ _).mono ?_; rintro e w' ⟨rfl, rfl⟩; rw [HL.out])
        go_round
        case rel => exact ⟨Y + 1, by omega, by omega, rfl, by congr 1; rw [s.out, e1.out]; omega⟩
        case measure => simp [intOf]; omega
      | false =>
        have e1 := hide (lp_false hl)
        have HL := hide hl
        clear hl
        go_wp2_with (go_at_call 20; refine (refLeap_any _ _).mono ?_; rintro e w' ⟨rfl, rfl⟩; rw [HL.out])
        go_round
        case rel => exact ⟨Y + 1, by omega, by omega, rfl, by congr 1; rw [s.out, e1.out]; omega⟩
        case measure => simp [intOf]; omega
    · have HY : Hid (1970 ≤ y → Y = y) := by intro h; omega
      have HY2 : Hid (y < 1970 → Y = 1970) := by intro h; omega
      go_wp2
      go_loop [7, 9] (fun a b => ∃ Z : Int, y ≤ Z ∧ (Z ≤ 1970 ∨ Z = y) ∧ b = .int .i64 Z ∧ a = .int .i64 (dby Y - 7305 - (dby Z - dby y))) (fun _ b => (1970 - intOf b).toNat)
      case atStart => exact ⟨y, by omega, by omega, rfl, by congr 1; omega⟩
      case round =>
        obtain ⟨Z, z1, z2, rfl, rfl⟩ := hrel
        have sz := hide (dby_succ Z)
        have b4 := dby_in Z (by omega) (by omega)
        have b5 := dby_in y y1 (by omega)
        have b6 := dby_mono y Z z1
        by_cases hZ : Z < 1970
        · cases hl : leapB Z with
          | true =>
            have e1 := hide (lp_true hl)
            have HL := hide hl
            clear hl
            go_wp2_with (go_at_call 20; refine (refLeap_any _ _).mono ?_; rintro e w' ⟨rfl, rfl⟩; rw [HL.out])
            go_round
            case rel => exact ⟨Z + 1, by omega, by omega, rfl, by congr 1; rw [sz.out, e1.out]; omega⟩
            case measure => simp [intOf]; omega
          | false =>
            have e1 := hide (lp_false hl)
            have HL := hide hl
            clear hl
            go_wp2_with (go_at_call 20; refine (refLeap_any _ _).mono ?_; rintro e w' ⟨rfl, rfl⟩; rw [HL.out])
            go_round
            case rel => exact ⟨Z + 1, by omega, by omega, rfl, by congr 1; rw [sz.out, e1.out]; omega⟩
            case measure => simp [intOf]; omega
        · have hV : dby Y - 7305 - (dby Z - dby y) = dby y - 7305 := by
            by_cases h : 1970 ≤ y
            · have h1 := HY.out h
              have h2 : Z = y := by omega
              rw [h1, h2]
              omega
            · have h1 := HY2.out (by omega)
              have h2 : Z = 1970 := by omega
              rw [h1, h2]
              omega
          rw [hV]
          clear hV HY HY2 b6 b4 sz b3 s
          generalize hA : dby y = A at *
          have HA := hide hA
          clear hA
          go_wp2
          go_loop [7, 10] (fun a b => ∃ M : Int, 1 ≤ M ∧ M ≤ m ∧ b = .int .i64 M ∧ a = .int .i64 (A - 7305 + cum y M)) (fun _ b => (m - intOf b).toNat)
          case atStart => exact ⟨1, by omega, by omega, rfl, by rw [cum_one]; congr 1; omega⟩
          case round =>
            obtain ⟨M, k3, k4, rfl, rfl⟩ := hrel
            have s := hide (cum_succ y M k3 (by omega))
            have l := dim_in y M k3 (by omega)
            have b7 := cum_in y M k3 (by omega)
            by_cases hM : M < m
            · go_wp2_with (go_at_call 22; refine (refDays_any _ _ _).mono ?_; rintro e w' ⟨rfl, rfl⟩)
              go_round
              case rel => exact ⟨M + 1, by omega, by omega, rfl, by congr 1; rw [s.out]; omega⟩
              case measure => simp [intOf]; omega
            · obtain rfl : M = m := by omega
              go_wp2
              go_ret
              exact ⟨by rw [E.out _ rfl, HA.out]; rfl, rfl⟩


def secW (y m q h i s : Int) : Int := 86400 * (dby y + cum y m + q - 1 - 7305) + 3600 * h + 60 * i + s

set_option maxRecDepth 100000 in
set_option maxHeartbeats 800000 in
theorem refSeconds_a (y m q h i s : Int) (a0 : y < 1950) (w : World) :
    Calls Tryd.prog 19 #[agg6 y m q h i s] w fun e w' => e = .returned (.tuple #[.int .i64 0, .int .i64 40]) ∧ Below w.heap.size w w' := by
  unfold agg6
  skip
  go_enter Tryd.func19, Tryd.ntmps19
  go_wp2
  go_quiet ((go_at_call 22; exact Calls.quiet_of_same (refDays_any _ _ _)))
  go_wp2
  go_ret2
  exact ⟨rfl, belowN ((Below.refl _ _).alloc (Nat.le_refl _) _) _⟩
set_option maxRecDepth 100000 in
set_option maxHeartbeats 800000 in
theorem refSeconds_b (y m q h i s : Int) (a0 : ¬ y < 1950) (a1 : 9999 < y) (w : World) :
    Calls Tryd.prog 19 #[agg6 y m q h i s] w fun e w' => e = .returned (.tuple #[.int .i64 0, .int .i64 40]) ∧ Below w.heap.size w w' := by
  unfold agg6
  have b0 : decide (y < 1950) = false := (by simpa using a0)
  go_enter Tryd.func19, Tryd.ntmps19
  go_wp2
  go_quiet ((go_at_call 22; exact Calls.quiet_of_same (refDays_any _ _ _)))
  go_wp2
  go_ret2
  exact ⟨rfl, belowN ((Below.refl _ _).alloc (Nat.le_refl _) _) _⟩
set_option maxRecDepth 100000 in
set_option maxHeartbeats 800000 in
theorem refSeconds_c (y m q h i s : Int) (a0 : ¬ y < 1950) (a1 : ¬ 9999 < y) (a2 : m < 1) (w : World) :
    Calls Tryd.prog 19 #[agg6 y m q h i s] w fun e w' => e = .returned (.tuple #[.int .i64 0, .int .i64 40]) ∧ Below w.heap.size w w' := by
  unfold agg6
  have b0 : decide (y < 1950) = false := (by simpa using a0); have b1 : decide (9999 < y) = false := (by simpa using a1)
  go_enter Tryd.func19, Tryd.ntmps19
  go_wp2
  go_quiet ((go_at_call 22; exact Calls.quiet_of_same (refDays_any _ _ _)))
  go_wp2
  go_ret2
  exact ⟨rfl, belowN ((Below.refl _ _).alloc (Nat.le_refl _) _) _⟩
set_option maxRecDepth 100000 in
set_option maxHeartbeats 800000 in
theorem refSeconds_d (y m q h i s : Int) (a0 : ¬ y < 1950) (a1 : ¬ 9999 < y) (a2 : ¬ m < 1) (a3 : 12 < m) (w : World) :
    Calls Tryd.prog 19 #[agg6 y m q h i s] w fun e w' => e = .returned (.tuple #[.int .i64 0, .int .i64 40]) ∧ Below w.heap.size w w' := by
  unfold agg6
  have b0 : decide (y < 1950) = false := (by simpa using a0); have b1 : decide (9999 < y) = false := (by simpa using a1); have b2 : decide (m < 1) = false := (by simpa using a2)
  go_enter Tryd.func19, Tryd.ntmps19
  go_wp2
  go_quiet ((go_at_call 22; exact Calls.quiet_of_same (refDays_any _ _ _)))
  go_wp2
  go_ret2
  exact ⟨rfl, belowN ((Below.refl _ _).alloc (Nat.le_refl _) _) _⟩
set_option maxRecDepth 100000 in
set_option maxHeartbeats 800000 in
theorem refSeconds_e (y m q h i s : Int) (a0 : ¬ y < 1950) (a1 : ¬ 9999 < y) (a2 : ¬ m < 1) (a3 : ¬ 12 < m) (a4 : q < 1) (w : World) :
    Calls Tryd.prog 19 #[agg6 y m q h i s] w fun e w' => e = .returned (.tuple #[.int .i64 0, .int .i64 40]) ∧ Below w.heap.size w w' := by
  unfold agg6
  have b0 : decide (y < 1950) = false := (by simpa using a0); have b1 : decide (9999 < y) = false := (by simpa using a1); have b2 : decide (m < 1) = false := (by simpa using a2); have b3 : decide (12 < m) = false := (by simpa using a3)
  go_enter Tryd.func19, Tryd.ntmps19
  go_wp2
  go_quiet ((go_at_call 22; exact Calls.quiet_of_same (refDays_any _ _ _)))
  go_wp2
  go_ret2
  exact ⟨rfl, belowN ((Below.refl _ _).alloc (Nat.le_refl _) _) _⟩
set_option maxRecDepth 100000 in
set_option maxHeartbeats 800000 in
theorem refSeconds_f (y m q h i s : Int) (a0 : ¬ y < 1950) (a1 : ¬ 9999 < y) (a2 : ¬ m < 1) (a3 : ¬ 12 < m) (a4 : ¬ q < 1) (a5 : dim y m < q) (w : World) :
    Calls Tryd.prog 19 #[agg6 y m q h i s] w fun e w' => e = .returned (.tuple #[.int .i64 0, .int .i64 40]) ∧ Below w.heap.size w w' := by
  unfold agg6
  have b0 : decide (y < 1950) = false := (by simpa using a0); have b1 : decide (9999 < y) = false := (by simpa using a1); have b2 : decide (m < 1) = false := (by simpa using a2); have b3 : decide (12 < m) = false := (by simpa using a3); have b4 : decide (q < 1) = false := (by simpa using a4)
  go_enter Tryd.func19, Tryd.ntmps19
  go_wp2
  go_quiet ((go_at_call 22; exact Calls.quiet_of_same (refDays_any _ _ _)))
  go_wp2
  go_ret2
  exact ⟨rfl, belowN ((Below.refl _ _).alloc (Nat.le_refl _) _) _⟩
set_option maxRecDepth 100000 in
set_option maxHeartbeats 800000 in
theorem refSeconds_g (y m q h i s : Int) (a0 : ¬ y < 1950) (a1 : ¬ 9999 < y) (a2 : ¬ m < 1) (a3 : ¬ 12 < m) (a4 : ¬ q < 1) (a5 : ¬ dim y m < q) (a6 : h < 0) (w : World) :
    Calls Tryd.prog 19 #[agg6 y m q h i s] w fun e w' => e = .returned (.tuple #[.int .i64 0, .int .i64 40]) ∧ Below w.heap.size w w' := by
  unfold agg6
  have b0 : decide (y < 1950) = false := (by simpa using a0); have b1 : decide (9999 < y) = false := (by simpa using a1); have b2 : decide (m < 1) = false := (by simpa using a2); have b3 : decide (12 < m) = false := (by simpa using a3); have b4 : decide (q < 1) = false := (by simpa using a4); have b5 : decide (dim y m < q) = false := (by simpa using a5)
  go_enter Tryd.func19, Tryd.ntmps19
  go_wp2
  go_quiet ((go_at_call 22; exact Calls.quiet_of_same (refDays_any _ _ _)))
  go_wp2
  go_ret2
  exact ⟨rfl, belowN ((Below.refl _ _).alloc (Nat.le_refl _) _) _⟩
set_option maxRecDepth 100000 in
set_option maxHeartbeats 800000 in
theorem refSeconds_h (y m q h i s : Int) (a0 : ¬ y < 1950) (a1 : ¬ 9999 < y) (a2 : ¬ m < 1) (a3 : ¬ 12 < m) (a4 : ¬ q < 1) (a5 : ¬ dim y m < q) (a6 : ¬ h < 0) (a7 : 24 ≤ h) (w : World) :
    Calls Tryd.prog 19 #[agg6 y m q h i s] w fun e w' => e = .returned (.tuple #[.int .i64 0, .int .i64 40]) ∧ Below w.heap.size w w' := by
  unfold agg6
  have b0 : decide (y < 1950) = false := (by simpa using a0); have b1 : decide (9999 < y) = false := (by simpa using a1); have b2 : decide (m < 1) = false := (by simpa using a2); have b3 : decide (12 < m) = false := (by simpa using a3); have b4 : decide (q < 1) = false := (by simpa using a4); have b5 : decide (dim y m < q) = false := (by simpa using a5); have b6 : decide (h < 0) = false := (by simpa using a6)
  go_enter Tryd.func19, Tryd.ntmps19
  go_wp2
  go_quiet ((go_at_call 22; exact Calls.quiet_of_same (refDays_any _ _ _)))
  go_wp2
  go_ret2
  exact ⟨rfl, belowN ((Below.refl _ _).alloc (Nat.le_refl _) _) _⟩
set_option maxRecDepth 100000 in
set_option maxHeartbeats 800000 in
theorem refSeconds_i (y m q h i s : Int) (a0 : ¬ y < 1950) (a1 : ¬ 9999 < y) (a2 : ¬ m < 1) (a3 : ¬ 12 < m) (a4 : ¬ q < 1) (a5 : ¬ dim y m < q) (a6 : ¬ h < 0) (a7 : ¬ 24 ≤ h) (a8 : i < 0) (w : World) :
    Calls Tryd.prog 19 #[agg6 y m q h i s] w fun e w' => e = .returned (.tuple #[.int .i64 0, .int .i64 40]) ∧ Below w.heap.size w w' := by
  unfold agg6
  have b0 : decide (y < 1950) = false := (by simpa using a0); have b1 : decide (9999 < y) = false := (by simpa using a1); have b2 : decide (m < 1) = false := (by simpa using a2); have b3 : decide (12 < m) = false := (by simpa using a3); have b4 : decide (q < 1) = false := (by simpa using a4); have b5 : decide (dim y m < q) = false := (by simpa using a5); have b6 : decide (h < 0) = false := (by simpa using a6); have b7 : decide (24 ≤ h) = false := (by simpa using a7)
  go_enter Tryd.func19, Tryd.ntmps19
  go_wp2
  go_quiet ((go_at_call 22; exact Calls.quiet_of_same (refDays_any _ _ _)))
  go_wp2
  go_ret2
  exact ⟨rfl, belowN ((Below.refl _ _).alloc (Nat.le_refl _) _) _⟩
set_option maxRecDepth 100000 in
set_option maxHeartbeats 800000 in
theorem refSeconds_j (y m q h i s : Int) (a0 : ¬ y < 1950) (a1 : ¬ 9999 < y) (a2 : ¬ m < 1) (a3 : ¬ 12 < m) (a4 : ¬ q < 1) (a5 : ¬ dim y m < q) (a6 : ¬ h < 0) (a7 : ¬ 24 ≤ h) (a8 : ¬ i < 0) (a9 : 60 ≤ i) (w : World) :
    Calls Tryd.prog 19 #[agg6 y m q h i s] w fun e w' => e = .returned (.tuple #[.int .i64 0, .int .i64 40]) ∧ Below w.heap.size w w' := by
  unfold agg6
  have b0 : decide (y < 1950) = false := (by simpa using a0); have b1 : decide (9999 < y) = false := (by simpa using a1); have b2 : decide (m < 1) = false := (by simpa using a2); have b3 : decide (12 < m) = false := (by simpa using a3); have b4 : decide (q < 1) = false := (by simpa using a4); have b5 : decide (dim y m < q) = false := (by simpa using a5); have b6 : decide (h < 0) = false := (by simpa using a6); have b7 : decide (24 ≤ h) = false := (by simpa using a7); have b8 : decide (i < 0) = false := (by simpa using a8)
  go_enter Tryd.func19, Tryd.ntmps19
  go_wp2
  go_quiet ((go_at_call 22; exact Calls.quiet_of_same (refDays_any _ _ _)))
  go_wp2
  go_ret2
  exact ⟨rfl, belowN ((Below.refl _ _).alloc (Nat.le_refl _) _) _⟩
set_option maxRecDepth 100000 in
set_option maxHeartbeats 800000 in
theorem refSeconds_k (y m q h i s : Int) (a0 : ¬ y < 1950) (a1 : ¬ 9999 < y) (a2 : ¬ m < 1) (a3 : ¬ 12 < m) (a4 : ¬ q < 1) (a5 : ¬ dim y m < q) (a6 : ¬ h < 0) (a7 : ¬ 24 ≤ h) (a8 : ¬ i < 0) (a9 : ¬ 60 ≤ i) (a10 : s < 0) (w : World) :
    Calls Tryd.prog 19 #[agg6 y m q h i s] w fun e w' => e = .returned (.tuple #[.int .i64 0, .int .i64 40]) ∧ Below w.heap.size w w' := by
  unfold agg6
  have b0 : decide (y < 1950) = false := (by simpa using a0); have b1 : decide (9999 < y) = false := (by simpa using a1); have b2 : decide (m < 1) = false := (by simpa using a2); have b3 : decide (12 < m) = false := (by simpa using a3); have b4 : decide (q < 1) = false := (by simpa using a4); have b5 : decide (dim y m < q) = false := (by simpa using a5); have b6 : decide (h < 0) = false := (by simpa using a6); have b7 : decide (24 ≤ h) = false := (by simpa using a7); have b8 : decide (i < 0) = false := (by simpa using a8); have b9 : decide (60 ≤ i) = false := (by simpa using a9)
  go_enter Tryd.func19, Tryd.ntmps19
  go_wp2
  go_quiet ((go_at_call 22; exact Calls.quiet_of_same (refDays_any _ _ _)))
  go_wp2
  go_ret2
  exact ⟨rfl, belowN ((Below.refl _ _).alloc (Nat.le_refl _) _) _⟩
set_option maxRecDepth 100000 in
set_option maxHeartbeats 800000 in
theorem refSeconds_l (y m q h i s : Int) (a0 : ¬ y < 1950) (a1 : ¬ 9999 < y) (a2 : ¬ m < 1) (a3 : ¬ 12 < m) (a4 : ¬ q < 1) (a5 : ¬ dim y m < q) (a6 : ¬ h < 0) (a7 : ¬ 24 ≤ h) (a8 : ¬ i < 0) (a9 : ¬ 60 ≤ i) (a10 : ¬ s < 0) (a11 : 60 ≤ s) (w : World) :
    Calls Tryd.prog 19 #[agg6 y m q h i s] w fun e w' => e = .returned (.tuple #[.int .i64 0, .int .i64 40]) ∧ Below w.heap.size w w' := by
  unfold agg6
  have b0 : decide (y < 1950) = false := (by simpa using a0); have b1 : decide (9999 < y) = false := (by simpa using a1); have b2 : decide (m < 1) = false := (by simpa using a2); have b3 : decide (12 < m) = false := (by simpa using a3); have b4 : decide (q < 1) = false := (by simpa using a4); have b5 : decide (dim y m < q) = false := (by simpa using a5); have b6 : decide (h < 0) = false := (by simpa using a6); have b7 : decide (24 ≤ h) = false := (by simpa using a7); have b8 : decide (i < 0) = false := (by simpa using a8); have b9 : decide (60 ≤ i) = false := (by simpa using a9); have b10 : decide (s < 0) = false := (by simpa using a10)
  go_enter Tryd.func19, Tryd.ntmps19
  go_wp2
  go_quiet ((go_at_call 22; exact Calls.quiet_of_same (refDays_any _ _ _)))
  go_wp2
  go_ret2
  exact ⟨rfl, belowN ((Below.refl _ _).alloc (Nat.le_refl _) _) _⟩

set_option maxRecDepth 100000 in
set_option maxHeartbeats 2000000 in
theorem refSeconds_ok (y m q h i s : Int) (ok : Okc y m q h i s) (w : World) :
    Calls Tryd.prog 19 #[agg6 y m q h i s] w fun e w' => e = .returned (.tuple #[.int .i64 (secW y m q h i s), .int .i64 0]) ∧ Below w.heap.size w w' := by
  obtain ⟨y1, y2, m1, m2, q1, q2, h1, h2, i1, i2, s1, s2⟩ := ok
  have d1 := dim_in y m m1 m2
  have d2 := cum_in y m m1 (by omega)
  have d3 := dby_in y y1 (by omega)
  have cd := hide (fun W => refDay_any y m q y1 y2 m1 m2 q1 (by omega) W)
  have E : Hid (secW y m q h i s = 86400 * (dby y + cum y m + q - 1 - 7305) + 3600 * h + 60 * i + s) := rfl
  have dv : -10000 ≤ dby y + cum y m + q - 1 - 7305 ∧ dby y + cum y m + q - 1 - 7305 ≤ 10000000 := by omega
  generalize secW y m q h i s = V at *
  generalize dby y + cum y m + q - 1 - 7305 = D at *
  clear d2 d3
  have gw1 : IntKind.i64.wrap (86400 * D) = 86400 * D := i64_in7 _ (by omega)
  have gw2 : IntKind.i64.wrap (3600 * h) = 3600 * h := i64_in7 _ (by omega)
  have gw3 : IntKind.i64.wrap (86400 * D + 3600 * h) = 86400 * D + 3600 * h := i64_in7 _ (by omega)
  have gw4 : IntKind.i64.wrap (60 * i) = 60 * i := i64_in7 _ (by omega)
  have gw5 : IntKind.i64.wrap (86400 * D + 3600 * h + 60 * i) = 86400 * D + 3600 * h + 60 * i := i64_in7 _ (by omega)
  have gw6 : IntKind.i64.wrap (86400 * D + 3600 * h + 60 * i + s) = 86400 * D + 3600 * h + 60 * i + s := i64_in7 _ (by omega)
  have b0 : decide (y < 1950) = false := by simp; omega
  have b1 : decide (9999 < y) = false := by simp; omega
  have b2 : decide (m < 1) = false := by simp; omega
  have b3 : decide (12 < m) = false := by simp; omega
  have b4 : decide (q < 1) = false := by simp; omega
  have b5 : decide (dim y m < q) = false := by simp; omega
  unfold agg6
  go_enter Tryd.func19, Tryd.ntmps19
  go_wp2
  go_quiet ((go_at_call 22; exact Calls.quiet_of_same (refDays_any _ _ _)))
  go_wp2
  have K1 := Six.new w 27 y m q h i s rfl
  have BW : Hid (Below w.heap.size w ((w.alloc (.cells #[.int .i64 y, .int .i64 m, .int .i64 q, .int .i64 h, .int .i64 i, .int .i64 s] 27)).drewN nq)) := belowN ((Below.refl _ _).alloc (Nat.le_refl _) _) _
  have K2 : Six ((w.alloc (.cells #[.int .i64 y, .int .i64 m, .int .i64 q, .int .i64 h, .int .i64 i, .int .i64 s] 27)).drewN nq) w.heap.size y m q h i s := K1
  clear K1
  generalize (w.alloc (.cells #[.int .i64 y, .int .i64 m, .int .i64 q, .int .i64 h, .int .i64 i, .int .i64 s] 27)).drewN nq = W at *
  obtain ⟨c0, c1, c2, c3, c4, c5⟩ := K2
  go_quiet ((go_at_call 37; exact Calls.quiet_of_same (cd.out _)))
  go_wp2
  go_ret2
  exact ⟨ret_int2 (by rw [E.out]) rfl, belowN BW.out _⟩

theorem refSeconds_no (y m q h i s : Int) (no : ¬ Okc y m q h i s) (w : World) :
    Calls Tryd.prog 19 #[agg6 y m q h i s] w fun e w' => e = .returned (.tuple #[.int .i64 0, .int .i64 40]) ∧ Below w.heap.size w w' := by
  by_cases a0 : y < 1950
  · exact refSeconds_a y m q h i s a0 w
  by_cases a1 : 9999 < y
  · exact refSeconds_b y m q h i s a0 a1 w
  by_cases a2 : m < 1
  · exact refSeconds_c y m q h i s a0 a1 a2 w
  by_cases a3 : 12 < m
  · exact refSeconds_d y m q h i s a0 a1 a2 a3 w
  by_cases a4 : q < 1
  · exact refSeconds_e y m q h i s a0 a1 a2 a3 a4 w
  by_cases a5 : dim y m < q
  · exact refSeconds_f y m q h i s a0 a1 a2 a3 a4 a5 w
  by_cases a6 : h < 0
  · exact refSeconds_g y m q h i s a0 a1 a2 a3 a4 a5 a6 w
  by_cases a7 : 24 ≤ h
  · exact refSeconds_h y m q h i s a0 a1 a2 a3 a4 a5 a6 a7 w
  by_cases a8 : i < 0
  · exact refSeconds_i y m q h i s a0 a1 a2 a3 a4 a5 a6 a7 a8 w
  by_cases a9 : 60 ≤ i
  · exact refSeconds_j y m q h i s a0 a1 a2 a3 a4 a5 a6 a7 a8 a9 w
  by_cases a10 : s < 0
  · exact refSeconds_k y m q h i s a0 a1 a2 a3 a4 a5 a6 a7 a8 a9 a10 w
  by_cases a11 : 60 ≤ s
  · exact refSeconds_l y m q h i s a0 a1 a2 a3 a4 a5 a6 a7 a8 a9 a10 a11 w
  exact absurd ⟨by omega, by omega, by omega, by omega, by omega, by omega, by omega, by omega, by omega, by omega, by omega, by omega⟩ no

end Go.Proofs.YtnpimjfdidbdfaaDoor
