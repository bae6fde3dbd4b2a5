/-
  clock.Civil and clock.Weekday.
-/
import Derived.Test.YtnpimjfdidbdfabDoorCYear
namespace Go.Proofs.YtnpimjfdidbdfabDoor
open Go.RowKit

def dayOf (t : Int) : Int := (t + 631152000) / 86400
def secOf (t : Int) : Int := (t + 631152000) % 86400

/-- A time in the calendar as a value: its day, and the second of that day. -/
def civA (y m q R : Int) : Value := .agg #[.int .i64 y, .int .i64 m, .int .i64 q, .int .i64 (R / 3600), .int .i64 (R / 60 % 60), .int .i64 (R % 60)]
def civ0 : Value := .agg #[.int .i64 0, .int .i64 0, .int .i64 0, .int .i64 0, .int .i64 0, .int .i64 0]

def isT (t : Int) : Prop := -631152000 ≤ t ∧ t ≤ 253402300799

theorem dayOf_in {t : Int} (h : isT t) : 0 ≤ dayOf t ∧ dayOf t < 2940202 := by
  unfold isT at h
  unfold dayOf
  omega

theorem at_ex {t : Int} (h : isT t) : ∃ y m q, AtDay (dayOf t) y m q := day_ex _ (dayOf_in h).1 (dayOf_in h).2

set_option maxRecDepth 100000 in
theorem civil_no (t : Int) (h : ¬ isT t) (w : World) :
    Calls Tryd.prog 10 #[.int .i64 t] w fun e w' => e = .returned (.tuple #[civ0, .int .i64 40]) ∧ Below w.heap.size w w' := by
  have h' : t < -631152000 ∨ 253402300799 < t := by unfold isT at h; omega
  go_enter Tryd.func10, Tryd.ntmps10
  go_wp2_with (go_at_call 19; refine (isTime_no _ h' _).mono ?_; rintro e w' ⟨rfl, rfl⟩)
  exact bodyPost_ret (v := .tuple #[civ0, .int .i64 40]) (by simp [results, Tryd.results10, go_sem, civ0]) rfl ⟨rfl, (Below.refl _ _).alloc (Nat.le_refl _) _⟩

set_option maxRecDepth 100000 in
set_option maxHeartbeats 1000000 in
theorem civil_at (t : Int) (h : isT t) (y m q : Int) (ha : AtDay (dayOf t) y m q) (w : World) (ht : Tab w) :
    Calls Tryd.prog 10 #[.int .i64 t] w fun e w' => e = .returned (.tuple #[civA y m q (secOf t), .int .i64 0]) ∧ Below w.heap.size w w' := by
  have HT : Hid (∀ o, Tab (w.alloc o)) := fun o => ht.below ((Below.refl _ _).alloc (Nat.le_refl _) _)
  clear ht
  have hY := hide ha.year
  have e1 := hide ha.eq
  have e2 := hide (cum_succ y m ha.m1 ha.m2)
  obtain ⟨y1, y2, m1, m2, q1, q2, heq⟩ := ha
  clear heq
  have c1 := cum_in y m m1 (by omega)
  have d1 := dim_in y m m1 m2
  have hr : Hid (cum y m ≤ dayOf t - dby y ∧ dayOf t - dby y < cum y (m + 1)) := ⟨by rw [e1.out]; omega, by rw [e2.out]; have := e1.out; omega⟩
  have e3 : Hid (dayOf t - dby y - cum y m + 1 = q) := by unfold Hid; have := e1.out; omega
  have hs1 := hide (split_any t h.1 h.2)
  have b0 : Hid (0 ≤ dayOf t - dby y - cum y m ∧ dayOf t - dby y - cum y m ≤ 31) := by unfold Hid; have := e1.out; omega
  have b1 : 0 ≤ secOf t ∧ secOf t < 86400 := by unfold secOf; omega
  have f1 : (t + 631152000) / 86400 = dayOf t := rfl
  have f2 : (t + 631152000) % 86400 = secOf t := rfl
  rw [f1, f2] at hs1
  clear f1 f2
  unfold isT at h
  generalize dayOf t = D at *
  generalize secOf t = R at *
  have hy := hide (fun W => yearOf_at D y y1 y2 hY.out.1 hY.out.2 W)
  have hm := hide (fun W hT => monthOf_at y (D - dby y) m m1 m2 hr.out.1 hr.out.2 W hT)
  generalize dby y = A at *
  generalize D - A = r at *
  generalize r - cum y m = x at *
  have b2 := b0.out
  go_enter Tryd.func10, Tryd.ntmps10
  go_wp2_with (first
    | (go_at_call 19; refine (isTime_yes _ h.1 h.2 _).mono ?_; rintro e w' ⟨rfl, rfl⟩)
    | (go_at_call 20; refine (hs1.out _).mono ?_; rintro e w' ⟨rfl, rfl⟩)
    | (go_at_call 21; refine (hy.out _).mono ?_; rintro e w' ⟨rfl, rfl⟩)
    | (go_at_call 22; refine (hm.out _ (HT.out _)).mono ?_; rintro e w' ⟨rfl, rfl⟩))
  exact bodyPost_ret (v := .tuple #[civA y m q R, .int .i64 0]) (by simp [results, Tryd.results10, go_sem, civA, e3.out]) rfl ⟨rfl, (Below.refl _ _).alloc (Nat.le_refl _) _⟩

set_option maxRecDepth 100000 in
theorem weekday_no (t : Int) (h : ¬ isT t) (w : World) :
    Calls Tryd.prog 11 #[.int .i64 t] w fun e w' => e = .returned (.tuple #[.int .i64 0, .int .i64 40]) ∧ w' = w := by
  have h' : t < -631152000 ∨ 253402300799 < t := by unfold isT at h; omega
  go_enter Tryd.func11, Tryd.ntmps11
  go_wp2_with (go_at_call 19; refine (isTime_no _ h' _).mono ?_; rintro e w' ⟨rfl, rfl⟩)
  go_ret2
  exact ⟨rfl, rfl⟩

set_option maxRecDepth 100000 in
theorem weekday_at (t : Int) (h : isT t) (w : World) :
    Calls Tryd.prog 11 #[.int .i64 t] w fun e w' => e = .returned (.tuple #[.int .i64 (dayOf t % 7), .int .i64 0]) ∧ w' = w := by
  have hd := dayOf_in h
  have hs1 := hide (split_any t h.1 h.2)
  have f1 : (t + 631152000) / 86400 = dayOf t := rfl
  rw [f1] at hs1
  clear f1
  unfold isT at h
  generalize dayOf t = D at *
  go_enter Tryd.func11, Tryd.ntmps11
  go_wp2_with (first
    | (go_at_call 19; refine (isTime_yes _ h.1 h.2 _).mono ?_; rintro e w' ⟨rfl, rfl⟩)
    | (go_at_call 20; refine (hs1.out _).mono ?_; rintro e w' ⟨rfl, rfl⟩))
  go_ret2
  exact ⟨rfl, rfl⟩

end Go.Proofs.YtnpimjfdidbdfabDoor
