/-
  oid.May says of any list of numbers whether it is an object identifier (mayS); it writes nothing.
-/
import Derived.Test.YtgbbgfjamneioaaDoorZMoreIToKept3
namespace Go.Proofs.YtgbbgfjamneioaaDoor
open Go.RowKit Go.IntWalk

/-- Is one arc within its bounds? -/
def arcB (x : Int) : Bool := decide (0 ≤ x) && decide (x ≤ 2147483647)

/-- Is the second arc within its bounds under the first? -/
def pairB (x y : Int) : Bool := if x < 2 then decide (y ≤ 39) else if x = 2 then decide (y ≤ 2147483567) else false

/-- Are these arcs an object identifier? -/
def mayS (xs : List Int) : Bool := decide (2 ≤ xs.length) && decide (xs.length ≤ 20) && xs.all arcB && pairB (xs.getD 0 0) (xs.getD 1 0)

theorem all_next {xs : List Int} (k : Nat) (h : (xs.take k).all arcB = true) (hk : k < xs.length) (hx : arcB (xs.getD k 0) = true) : (xs.take (k + 1)).all arcB = true := by
  rw [List.take_add_one, List.all_append, h]
  rw [List.getD, List.getElem?_eq_getElem hk] at hx
  rw [List.getElem?_eq_getElem hk]
  simpa using hx

theorem all_not {xs : List Int} (k : Nat) (hk : k < xs.length) (hx : arcB (xs.getD k 0) = false) : xs.all arcB = false := by
  rw [List.getD, List.getElem?_eq_getElem hk] at hx
  rw [List.all_eq_false]
  exact ⟨xs[k], List.getElem_mem _, by simpa using hx⟩

theorem mayS_not {xs : List Int} (h : xs.all arcB = false) : mayS xs = false := by unfold mayS; rw [h]; simp

set_option maxRecDepth 100000 in
set_option maxHeartbeats 1000000 in
theorem mayI_any (ao : Option Addr) (n cap : Nat) (xs : List Int) (w : World) (hs : SrcI w ao n cap xs) :
    Calls Tryd.prog 70 #[.slice ao n cap] w fun e w' => e = .returned (.bool (mayS xs)) ∧ Drawn w w' := by
  have HL := hide hs.hlen
  by_cases h2 : n < 2
  · have HV := hide (show mayS xs = false by unfold mayS; rw [HL.out, decide_eq_false (by omega)]; rfl)
    go_enter Tryd.func70, Tryd.ntmps70
    go_wp2
    go_ret
    exact ⟨by rw [HV.out]; rfl, Drawn.refl _⟩
  by_cases h20 : 20 < n
  · have HV := hide (show mayS xs = false by unfold mayS; rw [HL.out, decide_eq_false (show ¬ n ≤ 20 by omega)]; simp)
    obtain ⟨m1, _⟩ := hs.lenI
    have hI : (20 : Int) < (n : Int) := by omega
    go_enter Tryd.func70, Tryd.ntmps70
    go_wp2
    go_ret
    exact ⟨by rw [HV.out]; rfl, Drawn.refl _⟩
  have hI : ¬ (20 : Int) < (n : Int) := by omega
  have hJ : ¬ (n : Int) < (2 : Int) := by omega
  go_enter Tryd.func70, Tryd.ntmps70
  go_wp2
  go_loop [4, 17] (fun _ i => ∃ k : Nat, k ≤ n ∧ i = .int .i64 k ∧ (xs.take k).all arcB = true) (fun _ i => n - (intOf i).toNat)
  case atStart => exact ⟨0, Nat.zero_le _, rfl, by simp⟩
  case round =>
    obtain ⟨k, hk1, rfl, he⟩ := hrel
    have HE := hide he
    clear he
    by_cases hx : k < n
    · obtain ⟨b, o, rfl, e1⟩ := hs.at k hx
      by_cases ha : arcB (xs.getD k 0) = true
      · have HV := hide (all_next k HE.out (by rw [HL.out]; exact hx) ha)
        generalize xs.getD k 0 = x at e1 ha
        unfold arcB at ha
        simp at ha
        obtain ⟨ha1, ha2⟩ := ha
        have hb1 : ¬ x < 0 := by omega
        have hb2 : ¬ 2147483647 < x := by omega
        go_wp2
        go_round
        case rel => exact ⟨k + 1, by omega, by go_num, HV.out⟩
        case measure => simp [intOf]; omega
      · have HV := hide (mayS_not (all_not k (by rw [HL.out]; exact hx) (by simpa using ha)))
        generalize xs.getD k 0 = x at e1 ha
        unfold arcB at ha
        simp at ha
        by_cases hb1 : x < 0
        · clear ha
          go_wp2
          go_ret
          exact ⟨by rw [HV.out]; rfl, Drawn.refl _⟩
        · have hb2 : 2147483647 < x := by have := ha (by omega); omega
          clear ha
          go_wp2
          go_ret
          exact ⟨by rw [HV.out]; rfl, Drawn.refl _⟩
    · obtain ⟨b, o, rfl, e1⟩ := hs.at 0 (by omega)
      obtain ⟨b', o', hbo, e2⟩ := hs.at 1 (by omega)
      simp at hbo
      obtain ⟨rfl, rfl⟩ := hbo
      rw [Nat.add_zero] at e1
      have HV := hide (show mayS xs = pairB (xs.getD 0 0) (xs.getD 1 0) by
        unfold mayS
        have h1 := HE.out
        rw [List.take_of_length_le (by rw [HL.out]; omega)] at h1
        rw [h1, HL.out, decide_eq_true (by omega), decide_eq_true (show n ≤ 20 by omega)]
        rfl)
      generalize xs.getD 0 0 = x at e1 HV
      generalize xs.getD 1 0 = y at e2 HV
      have hn2 : (1 : Int) < (n : Int) := by omega
      have hn1 : (0 : Int) < (n : Int) := by omega
      rcases (show x < 2 ∨ x = 2 ∨ 2 < x by omega) with hx2 | hx2 | hx2
      · have HW := hide (show pairB x y = decide (y ≤ 39) by unfold pairB; rw [if_pos hx2])
        go_wp2_with fail
        go_quiet (fail)
        go_wp2
        go_ret
        exact ⟨by rw [HV.out, HW.out]; rfl, by first | exact Drawn.refl _ | exact (Drawn.refl _).more _⟩
      · have HW := hide (show pairB x y = decide (y ≤ 2147483567) by unfold pairB; rw [if_neg (by omega), if_pos hx2])
        subst hx2
        go_wp2_with fail
        go_quiet (fail)
        go_wp2
        go_ret
        exact ⟨by rw [HV.out, HW.out]; rfl, by first | exact Drawn.refl _ | exact (Drawn.refl _).more _⟩
      · have HW := hide (show pairB x y = false by unfold pairB; rw [if_neg (by omega), if_neg (by omega)])
        have hb : (x == 2) = false := by simp; omega
        have hb' : ¬ x < 2 := by omega
        go_wp2_with fail
        go_quiet (fail)
        go_wp2
        go_ret
        exact ⟨by rw [HV.out, HW.out]; rfl, by first | exact Drawn.refl _ | exact (Drawn.refl _).more _⟩

theorem mayI_12 (w : World) (g : Nat) (hs : SrcI w (some ⟨g, 0, none⟩) 2 2 [1, 2]) : Calls Tryd.prog 70 #[.slice (some ⟨g, 0, none⟩) 2 2] w fun e w' => e = .returned (.bool true) ∧ Drawn w w' :=
  (mayI_any _ _ _ [1, 2] w hs).mono fun _ _ h => h

end Go.Proofs.YtgbbgfjamneioaaDoor
