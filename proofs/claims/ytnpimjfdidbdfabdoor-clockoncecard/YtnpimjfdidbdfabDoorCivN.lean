/-
  A time in the calendar by natural numbers; clock.Civil and clock.Text told so.
-/
import Derived.Test.YtnpimjfdidbdfabDoorCText
namespace Go.Proofs.YtnpimjfdidbdfabDoor
open Go.RowKit

/-- A time's place in the calendar, by natural numbers. -/
structure CivN (t : Int) (y m q h i s : Nat) : Prop where
  at_ : AtDay (dayOf t) y m q
  h_ : (h : Int) = secOf t / 3600
  i_ : (i : Int) = secOf t / 60 % 60
  s_ : (s : Int) = secOf t % 60

theorem sec_in (t : Int) : 0 ≤ secOf t ∧ secOf t < 86400 := by unfold secOf; omega

theorem civN_ex {t : Int} (h : isT t) : ∃ y m q h i s : Nat, CivN t y m q h i s := by
  obtain ⟨y, m, q, ha⟩ := at_ex h
  have hr := sec_in t
  obtain ⟨Y, rfl⟩ := Int.eq_ofNat_of_zero_le (show 0 ≤ y by have := ha.y1; omega)
  obtain ⟨M, rfl⟩ := Int.eq_ofNat_of_zero_le (show 0 ≤ m by have := ha.m1; omega)
  obtain ⟨Q, rfl⟩ := Int.eq_ofNat_of_zero_le (show 0 ≤ q by have := ha.q1; omega)
  exact ⟨Y, M, Q, (secOf t / 3600).toNat, (secOf t / 60 % 60).toNat, (secOf t % 60).toNat, ha, by omega, by omega, by omega⟩

theorem CivN.bd {t : Int} {y m q h i s : Nat} (c : CivN t y m q h i s) : 1950 ≤ y ∧ y ≤ 9999 ∧ 1 ≤ m ∧ m ≤ 12 ∧ 1 ≤ q ∧ q ≤ 31 ∧ h < 24 ∧ i < 60 ∧ s < 60 := by
  have a := c.at_
  have hr := sec_in t
  have h1 := c.h_
  have h2 := c.i_
  have h3 := c.s_
  have d := dim_in y m a.m1 a.m2
  obtain ⟨y1, y2, m1, m2, q1, q2, _⟩ := a
  omega

theorem CivN.big {t : Int} {y m q h i s : Nat} (c : CivN t y m q h i s) : y ≤ 100000 ∧ m ≤ 100000 ∧ q ≤ 100000 ∧ h ≤ 100000 ∧ i ≤ 100000 ∧ s ≤ 100000 := by
  have := c.bd
  omega

theorem CivN.agg {t : Int} {y m q h i s : Nat} (c : CivN t y m q h i s) : civA y m q (secOf t) = agg6 y m q h i s := by
  unfold civA agg6
  rw [c.h_, c.i_, c.s_]

theorem civil_N {t : Int} (ht : isT t) {y m q h i s : Nat} (c : CivN t y m q h i s) (w : World) (hw : Tab w) :
    Calls Tryd.prog 10 #[.int .i64 t] w fun e w' => e = .returned (.tuple #[agg6 y m q h i s, .int .i64 0]) ∧ Below w.heap.size w w' := by
  rw [← c.agg]
  exact civil_at t ht y m q c.at_ w hw

theorem text_N {t : Int} (ht : isT t) {y m q h i s : Nat} (c : CivN t y m q h i s) (w : World) (hw : Tab w) :
    Calls Tryd.prog 9 #[.int .i64 t] w fun e w' => e = .returned (.tuple #[.string (strOfNums (txtV y m q h i s)), .int .i64 0]) ∧ Below w.heap.size w w' :=
  text_gen t y m q h i s c.big w (civil_N ht c w hw)

set_option maxRecDepth 100000 in
theorem text_no (t : Int) (h : ¬ isT t) (w : World) :
    Calls Tryd.prog 9 #[.int .i64 t] w fun e w' => e = .returned (.tuple #[.string ⟨#[]⟩, .int .i64 40]) ∧ Below w.heap.size w w' := by
  have C1 := hide (civil_no t h)
  unfold civ0 at C1
  go_enter Tryd.func9, Tryd.ntmps9
  go_wp2_with fail
  refine (C1.out _).mono ?_
  rintro e w1 ⟨rfl, B1⟩
  go_wp2
  go_ret2
  exact ⟨rfl, B1.alloc B1.size _⟩

end Go.Proofs.YtnpimjfdidbdfabDoor
