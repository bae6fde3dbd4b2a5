/-
  Leap years and the days of a month: both sides answer the plain functions. The table of the months' days lies as it was laid.
-/
import Derived.Test.YtnpimjfdidbdfabDoorChecked
import Derived.Test.YtnpimjfdidbdfabDoorBase
import Derived.Test.YtnpimjfdidbdfabDoorCal
namespace Go.Proofs.YtnpimjfdidbdfabDoor
open Go.RowKit

def tabL : List Int := [31, 28, 31, 30, 31, 30, 31, 31, 30, 31, 30, 31]

/-- The table of the months' days lies as it was laid. -/
def Tab (w : World) : Prop := ∀ i : Nat, i < 12 → w.cell? ⟨0, i, none⟩ = some (.int .i64 (tabL.getD i 0))

theorem Tab.pos {w : World} (h : Tab w) : 0 < w.heap.size := by
  have := h 0 (by omega)
  unfold World.cell? at this
  rcases Nat.lt_or_ge 0 w.heap.size with h1 | h1
  · exact h1
  · simp [Array.getElem?_eq_none h1] at this

theorem Tab.below {w w' : World} (h : Tab w) (hb : Below w.heap.size w w') : Tab w' :=
  fun i hi => (hb.cell (p := ⟨0, i, none⟩) h.pos).trans (h i hi)

theorem Tab.heap {w w' : World} (h : Tab w) (e : w'.heap = w.heap) : Tab w' := by
  intro i hi
  have := h i hi
  unfold World.cell? at this ⊢
  rw [e]
  exact this

set_option maxRecDepth 100000 in
set_option maxHeartbeats 1000000 in
theorem leap_any (y : Int) (w : World) :
    Calls Tryd.prog 7 #[.int .i64 y] w fun e w' => e = .returned (.bool (leapB y)) ∧ w' = w := by
  cases h4 : (y.tmod 4 == 0) <;> cases h100 : (y.tmod 100 != 0) <;> cases h400 : (y.tmod 400 == 0) <;>
  · have E : Hid (leapB y = ((y.tmod 4 == 0 && y.tmod 100 != 0) || y.tmod 400 == 0)) := rfl
    rw [h4, h100, h400] at E
    go_enter Tryd.func7, Tryd.ntmps7
    go_wp2
    go_ret
    rw [unhide E]
    exact ⟨rfl, rfl⟩


theorem tab_dim (y : Int) (k : Nat) (hk : k < 12) (h : k ≠ 1) : tabL.getD k 0 = dim y (k + 1) := by
  have hc : k = 0 ∨ k = 2 ∨ k = 3 ∨ k = 4 ∨ k = 5 ∨ k = 6 ∨ k = 7 ∨ k = 8 ∨ k = 9 ∨ k = 10 ∨ k = 11 := by omega
  rcases hc with rfl | rfl | rfl | rfl | rfl | rfl | rfl | rfl | rfl | rfl | rfl <;> rfl

set_option maxRecDepth 100000 in
set_option maxHeartbeats 1000000 in
theorem days_any (y m : Int) (w : World) (ht : Tab w) :
    Calls Tryd.prog 23 #[.int .i64 y, .int .i64 m] w fun e w' => e = .returned (.int .i64 (dim y m)) ∧ w' = w := by
  by_cases h1 : m < 1
  · have E := hide (dim_out y m (.inl h1))
    go_enter Tryd.func23, Tryd.ntmps23
    go_wp2
    go_ret
    rw [unhide E]
    exact ⟨rfl, rfl⟩
  · by_cases h2 : 12 < m
    · have E := hide (dim_out y m (.inr h2))
      go_enter Tryd.func23, Tryd.ntmps23
      go_wp2
      go_ret
      rw [unhide E]
      exact ⟨rfl, rfl⟩
    · obtain ⟨k, rfl⟩ : ∃ k : Nat, m = (k : Int) + 1 := ⟨(m - 1).toNat, by omega⟩
      have hk : k < 12 := by omega
      by_cases hk1 : k = 1
      · subst hk1
        have E : Hid (dim y (((1 : Nat) : Int) + 1) = 28 + lp y) := rfl
        have hc : w.cell? ⟨0, 1, none⟩ = some (.int .i64 28) := ht 1 (by omega)
        cases hl : leapB y with
        | true =>
          rw [lp_true hl] at E
          go_enter Tryd.func23, Tryd.ntmps23
          go_wp2_with (go_at_call 7; refine (leap_any _ _).mono ?_; rintro e w' ⟨rfl, rfl⟩)
          go_ret
          rw [unhide E]
          exact ⟨rfl, rfl⟩
        | false =>
          rw [lp_false hl] at E
          go_enter Tryd.func23, Tryd.ntmps23
          go_wp2_with (go_at_call 7; refine (leap_any _ _).mono ?_; rintro e w' ⟨rfl, rfl⟩)
          go_ret
          rw [unhide E]
          exact ⟨rfl, rfl⟩
      · have E := hide (tab_dim y k hk hk1)
        have hc := ht k hk
        have hne : ((k : Int) + 1 == 2) = false := by simp; omega
        generalize tabL.getD k 0 = z at hc E
        go_enter Tryd.func23, Tryd.ntmps23
        go_wp2_with (go_at_call 7; refine (leap_any _ _).mono ?_; rintro e w' ⟨rfl, rfl⟩)
        go_ret
        rw [← unhide E]
        exact ⟨rfl, rfl⟩

end Go.Proofs.YtnpimjfdidbdfabDoor
