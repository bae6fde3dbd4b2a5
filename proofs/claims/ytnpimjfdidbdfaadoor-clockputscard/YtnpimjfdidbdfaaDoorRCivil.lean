/-
  The document's IsTime, ToCivil and Weekday; the statements' own 'same'.
-/
import Derived.Test.YtnpimjfdidbdfaaDoorCRef
import Derived.Test.YtnpimjfdidbdfaaDoorCCivil
import Derived.Test.YtnpimjfdidbdfaaDoorCSix
namespace Go.Proofs.YtnpimjfdidbdfaaDoor
open Go.RowKit

theorem refIsTime_yes (t : Int) (h1 : -631152000 ≤ t) (h2 : t ≤ 253402300799) (w : World) :
    Calls Tryd.prog 31 #[.int .i64 t] w fun e w' => e = .returned (.bool true) ∧ w' = w := by
  go_enter Tryd.func31, Tryd.ntmps31
  go_wp2
  go_ret
  exact ⟨rfl, rfl⟩

theorem refIsTime_no (t : Int) (h : t < -631152000 ∨ 253402300799 < t) (w : World) :
    Calls Tryd.prog 31 #[.int .i64 t] w fun e w' => e = .returned (.bool false) ∧ w' = w := by
  rcases h with h | h
  · go_enter Tryd.func31, Tryd.ntmps31
    go_wp2
    go_ret
    exact ⟨rfl, rfl⟩
  · have hd : decide (t ≤ 253402300799) = false := by simp; omega
    go_enter Tryd.func31, Tryd.ntmps31
    go_wp2
    go_ret
    exact ⟨rfl, rfl⟩

set_option maxRecDepth 100000 in
theorem toCivil_no (t : Int) (h : ¬ isT t) (w : World) :
    Calls Tryd.prog 10 #[.int .i64 t] w fun e w' => e = .returned (.tuple #[civ0, .int .i64 40]) ∧ Below w.heap.size w w' := by
  have h' : t < -631152000 ∨ 253402300799 < t := by unfold isT at h; omega
  go_enter Tryd.func10, Tryd.ntmps10
  go_wp2_with (go_at_call 31; refine (refIsTime_no _ h' _).mono ?_; rintro e w' ⟨rfl, rfl⟩)
  exact bodyPost_ret (v := .tuple #[civ0, .int .i64 40]) (by simp [results, Tryd.results10, go_sem, civ0]) rfl ⟨rfl, (Below.refl _ _).alloc (Nat.le_refl _) _⟩

set_option maxRecDepth 100000 in
set_option maxHeartbeats 2000000 in
theorem toCivil_at (t : Int) (h : isT t) (y m q : Int) (ha : AtDay (dayOf t) y m q) (w : World) :
    Calls Tryd.prog 10 #[.int .i64 t] w fun e w' => e = .returned (.tuple #[civA y m q (secOf t), .int .i64 0]) ∧ Below w.heap.size w w' := by
  have hY := hide ha.year
  have e1 := hide ha.eq
  have e2 := hide (cum_succ y m ha.m1 ha.m2)
  have hD := dayOf_in h
  obtain ⟨y1, y2, m1, m2, q1, q2, heq⟩ := ha
  clear heq
  have c1 := cum_in y m m1 (by omega)
  have d1 := dim_in y m m1 m2
  have hr : Hid (cum y m ≤ dayOf t - dby y ∧ dayOf t - dby y < cum y (m + 1)) := ⟨by rw [e1.out]; omega, by rw [e2.out]; have := e1.out; omega⟩
  have e3 : Hid (dayOf t - dby y - cum y m + 1 = q) := by unfold Hid; have := e1.out; omega
  have b1 : 0 ≤ secOf t ∧ secOf t < 86400 := by unfold secOf; omega
  have F1 : Hid ((t + 631152000) / 86400 = dayOf t) := rfl
  have F2 : Hid ((t + 631152000) % 86400 = secOf t) := rfl
  unfold isT at h
  generalize dayOf t = D at *
  generalize secOf t = R at *
  have hR : Hid (R % 3600 / 60 = R / 60 % 60) := by unfold Hid; omega
  go_enter Tryd.func10, Tryd.ntmps10
  go_wp2_with (go_at_call 31; refine (refIsTime_yes _ h.1 h.2 _).mono ?_; rintro e w' ⟨rfl, rfl⟩)
  rw [F1.out, F2.out]
  generalize hMi : (t + 631152000) % 3600 / 60 = Mi
  generalize hSe : (t + 631152000) % 60 = Se
  have HM : Hid (Mi = R / 60 % 60 ∧ Se = R % 60) := by unfold Hid; have := F2.out; omega
  clear hMi hSe
  go_loopw [4] (fun a wr => ∃ Y : Int, 1950 ≤ Y ∧ Y ≤ y ∧ a = .int .i64 (D - dby Y) ∧ wr = (w.alloc (.cells #[.int .i64 0, .int .i64 0, .int .i64 0, .int .i64 0, .int .i64 0, .int .i64 0] 27)).alloc (.cells #[.int .i64 Y, .int .i64 1, .int .i64 1, .int .i64 (R / 3600), .int .i64 Mi, .int .i64 Se] 27)) (fun a _ => (intOf a).toNat)
  case atStart => exact ⟨1950, by omega, by omega, by rw [dby_1950]; congr 1; omega, rfl⟩
  case round =>
    obtain ⟨Y, k1, k2, rfl, rfl⟩ := hrel
    have s := hide (dby_succ Y)
    have b3 := dby_in Y k1 (by omega)
    by_cases hY' : Y = y
    · subst hY'
      have hlt : Hid (D - dby Y < 365 + lp Y) := by unfold Hid; have := hY.out.2; rw [s.out] at this; omega
      have H0 : 0 ≤ D - dby Y := by have := hY.out.1; omega
      cases hl : leapB Y with
      | true =>
        have HL := hide hl
        have hlt : D - dby Y < 366 := by have := hlt.out; rw [lp_true hl] at this; omega
        clear hl
        go_wp2_with (go_at_call 20; refine (refLeap_any _ _).mono ?_; rintro e w' ⟨rfl, rfl⟩; rw [HL.out])
        go_loopw [4] (fun a wr => ∃ M : Int, 1 ≤ M ∧ M ≤ m ∧ a = .int .i64 (D - dby Y - cum Y M) ∧ wr = (w.alloc (.cells #[.int .i64 0, .int .i64 0, .int .i64 0, .int .i64 0, .int .i64 0, .int .i64 0] 27)).alloc (.cells #[.int .i64 Y, .int .i64 M, .int .i64 1, .int .i64 (R / 3600), .int .i64 Mi, .int .i64 Se] 27)) (fun a _ => (intOf a).toNat)
        case atStart => exact ⟨1, by omega, by omega, by rw [cum_one]; congr 1; omega, rfl⟩
        case round =>
          obtain ⟨M, n1, n2, rfl, rfl⟩ := hrel
          have s2 := hide (cum_succ Y M n1 (by omega))
          have l := dim_in Y M n1 (by omega)
          have b4 := cum_in Y M n1 (by omega)
          by_cases hM' : M = m
          · subst hM'
            have hlt2 : ¬ dim Y M ≤ D - dby Y - cum Y M := by have := hr.out.2; rw [s2.out] at this; omega
            have g1 : 0 ≤ D - dby Y - cum Y M := by have := hr.out.1; omega
            go_wp2_with (go_at_call 22; refine (refDays_any _ _ _).mono ?_; rintro e w' ⟨rfl, rfl⟩)
            exact bodyPost_ret (v := .tuple #[civA Y M q R, .int .i64 0]) (by simp [results, Tryd.results10, go_sem, civA, e3.out, HM.out.1, HM.out.2]) rfl ⟨rfl, ((Below.refl _ _).alloc (Nat.le_refl _) _).alloc (by simp) _⟩
          · have mm := cum_mono Y (M + 1) m (by omega) (by omega) (by omega)
            have hlt2 : dim Y M ≤ D - dby Y - cum Y M := by have := hr.out.1; rw [s2.out] at mm; omega
            clear mm
            go_wp2_with (go_at_call 22; refine (refDays_any _ _ _).mono ?_; rintro e w' ⟨rfl, rfl⟩)
            go_roundw
            case rel => exact ⟨M + 1, by omega, by omega, by congr 1; rw [s2.out]; omega, rfl⟩
            case measure => simp [intOf]; omega
      | false =>
        have HL := hide hl
        have hlt : D - dby Y < 365 := by have := hlt.out; rw [lp_false hl] at this; omega
        clear hl
        go_wp2_with (go_at_call 20; refine (refLeap_any _ _).mono ?_; rintro e w' ⟨rfl, rfl⟩; rw [HL.out])
        go_loopw [4] (fun a wr => ∃ M : Int, 1 ≤ M ∧ M ≤ m ∧ a = .int .i64 (D - dby Y - cum Y M) ∧ wr = (w.alloc (.cells #[.int .i64 0, .int .i64 0, .int .i64 0, .int .i64 0, .int .i64 0, .int .i64 0] 27)).alloc (.cells #[.int .i64 Y, .int .i64 M, .int .i64 1, .int .i64 (R / 3600), .int .i64 Mi, .int .i64 Se] 27)) (fun a _ => (intOf a).toNat)
        case atStart => exact ⟨1, by omega, by omega, by rw [cum_one]; congr 1; omega, rfl⟩
        case round =>
          obtain ⟨M, n1, n2, rfl, rfl⟩ := hrel
          have s2 := hide (cum_succ Y M n1 (by omega))
          have l := dim_in Y M n1 (by omega)
          have b4 := cum_in Y M n1 (by omega)
          by_cases hM' : M = m
          · subst hM'
            have hlt2 : ¬ dim Y M ≤ D - dby Y - cum Y M := by have := hr.out.2; rw [s2.out] at this; omega
            have g1 : 0 ≤ D - dby Y - cum Y M := by have := hr.out.1; omega
            go_wp2_with (go_at_call 22; refine (refDays_any _ _ _).mono ?_; rintro e w' ⟨rfl, rfl⟩)
            exact bodyPost_ret (v := .tuple #[civA Y M q R, .int .i64 0]) (by simp [results, Tryd.results10, go_sem, civA, e3.out, HM.out.1, HM.out.2]) rfl ⟨rfl, ((Below.refl _ _).alloc (Nat.le_refl _) _).alloc (by simp) _⟩
          · have mm := cum_mono Y (M + 1) m (by omega) (by omega) (by omega)
            have hlt2 : dim Y M ≤ D - dby Y - cum Y M := by have := hr.out.1; rw [s2.out] at mm; omega
            clear mm
            go_wp2_with (go_at_call 22; refine (refDays_any _ _ _).mono ?_; rintro e w' ⟨rfl, rfl⟩)
            go_roundw
            case rel => exact ⟨M + 1, by omega, by omega, by congr 1; rw [s2.out]; omega, rfl⟩
            case measure => simp [intOf]; omega
    · have mm := dby_mono (Y + 1) y (by omega)
      have hlt : Hid (¬ D - dby Y < 365 + lp Y) := by unfold Hid; have := hY.out.1; rw [s.out] at mm; omega
      clear mm
      cases hl : leapB Y with
      | true =>
        have e4 := hide (lp_true hl)
        have HL := hide hl
        have hlt : ¬ D - dby Y < 366 := by have := hlt.out; rw [lp_true hl] at this; omega
        clear hl
        go_wp2_with (go_at_call 20; refine (refLeap_any _ _).mono ?_; rintro e w' ⟨rfl, rfl⟩; rw [HL.out])
        go_roundw
        case rel => exact ⟨Y + 1, by omega, by omega, by congr 1; rw [s.out, e4.out]; omega, rfl⟩
        case measure => simp [intOf]; omega
      | false =>
        have e4 := hide (lp_false hl)
        have HL := hide hl
        have hlt : ¬ D - dby Y < 365 := by have := hlt.out; rw [lp_false hl] at this; omega
        clear hl
        go_wp2_with (go_at_call 20; refine (refLeap_any _ _).mono ?_; rintro e w' ⟨rfl, rfl⟩; rw [HL.out])
        go_roundw
        case rel => exact ⟨Y + 1, by omega, by omega, by congr 1; rw [s.out, e4.out]; omega, rfl⟩
        case measure => simp [intOf]; omega

end Go.Proofs.YtnpimjfdidbdfaaDoor
