/-
  The document's May says of any list of numbers whether it is an object identifier (mayS); it writes nothing.
-/
import Derived.Test.YtgbbgfjamneioaaDoorZMay
namespace Go.Proofs.YtgbbgfjamneioaaDoor
open Go.RowKit Go.IntWalk

set_option maxRecDepth 100000 in
set_option maxHeartbeats 1000000 in
theorem refMayI_any (ao : Option Addr) (n cap : Nat) (xs : List Int) (w : World) (hs : SrcI w ao n cap xs) :
    Calls Tryd.prog 48 #[.slice ao n cap] w fun e w' => e = .returned (.bool (mayS xs)) ∧ Drawn w w' := by
  have HL := hide hs.hlen
  by_cases h2 : n < 2
  · have HV := hide (show mayS xs = false by unfold mayS; rw [HL.out, decide_eq_false (by omega)]; rfl)
    go_enter Tryd.func48, Tryd.ntmps48
    go_wp2
    go_ret
    exact ⟨by rw [HV.out]; rfl, Drawn.refl _⟩
  by_cases h20 : 20 < n
  · have HV := hide (show mayS xs = false by unfold mayS; rw [HL.out, decide_eq_false (show ¬ n ≤ 20 by omega)]; simp)
    obtain ⟨m1, _⟩ := hs.lenI
    have hI : (20 : Int) < (n : Int) := by omega
    go_enter Tryd.func48, Tryd.ntmps48
    go_wp2
    go_ret
    exact ⟨by rw [HV.out]; rfl, Drawn.refl _⟩
  have hI : ¬ (20 : Int) < (n : Int) := by omega
  have hJ : ¬ (n : Int) < (2 : Int) := by omega
  go_enter Tryd.func48, Tryd.ntmps48
  go_wp2
  go_loopw [3] (fun i wr => ∃ k : Nat, k ≤ n ∧ i = .int .i64 k ∧ (xs.take k).all arcB = true ∧ Drawn w wr) (fun i _ => n - (intOf i).toNat)
  case atStart => exact ⟨0, Nat.zero_le _, rfl, by simp, Drawn.refl _⟩
  case round =>
    obtain ⟨k, hk1, rfl, he, hD⟩ := hrel
    have HE := hide he
    clear he
    have hs := hD.src hs
    by_cases hx : k < n
    · obtain ⟨b, o, rfl, e1⟩ := hs.at k hx
      by_cases ha : arcB (xs.getD k 0) = true
      · have HV := hide (all_next k HE.out (by rw [HL.out]; exact hx) ha)
        generalize xs.getD k 0 = x at e1 ha
        unfold arcB at ha
        simp at ha
        obtain ⟨ha1, ha2⟩ := ha
        have hb1 : decide (x < 0) = false := decide_eq_false (by omega)
        have hb2 : ¬ 2147483647 < x := by omega
        go_wp2_with fail
        try go_quiet (fail)
        go_wp2
        go_roundw
        case rel => exact ⟨k + 1, by omega, by go_num, HV.out, by first | exact hD | exact hD.more _⟩
        case measure => simp [intOf]; omega
      · have HV := hide (mayS_not (all_not k (by rw [HL.out]; exact hx) (by simpa using ha)))
        generalize xs.getD k 0 = x at e1 ha
        unfold arcB at ha
        simp at ha
        by_cases hb1 : x < 0
        · clear ha
          have hb1' : decide (x < 0) = true := decide_eq_true hb1
          go_wp2_with fail
          try go_quiet (fail)
          go_wp2
          go_ret
          exact ⟨by rw [HV.out]; rfl, by first | exact hD | exact hD.more _⟩
        · have hb2 : 2147483647 < x := by have := ha (by omega); omega
          have hb1' : decide (x < 0) = false := decide_eq_false hb1
          clear ha
          go_wp2_with fail
          try go_quiet (fail)
          go_wp2
          go_ret
          exact ⟨by rw [HV.out]; rfl, by first | exact hD | exact hD.more _⟩
    · obtain ⟨b, o, rfl, e1⟩ := hs.at 0 (by omega)
      obtain ⟨b', o', hbo, e2⟩ := hs.at 1 (by omega)
      simp at hbo
      obtain ⟨rfl, rfl⟩ := hbo
      rw [Nat.add_zero] at e1
      have HV := hide (show mayS xs = pairB (xs.getD 0 0) (xs.getD 1 0) by
        unfold mayS
        have h1 := HE.out
        rw [List.take_of_length_le (by rw [HL.out]; omega)] at h1
        rw [h1, HL.out, decide_eq_true (by omega), decide_eq_true (show n ≤ 20 by omega)]
        rfl)
      generalize xs.getD 0 0 = x at e1 HV
      generalize xs.getD 1 0 = y at e2 HV
      have hn2 : (1 : Int) < (n : Int) := by omega
      have hn1 : (0 : Int) < (n : Int) := by omega
      rcases (show x < 2 ∨ x = 2 ∨ 2 < x by omega) with hx2 | hx2 | hx2
      · have HW := hide (show pairB x y = decide (y ≤ 39) by unfold pairB; rw [if_pos hx2])
        have hx3 : ¬ 2 < x := by omega
        go_wp2
        go_ret
        exact ⟨by rw [HV.out, HW.out]; rfl, hD⟩
      · have HW := hide (show pairB x y = decide (y ≤ 2147483567) by unfold pairB; rw [if_neg (by omega), if_pos hx2])
        subst hx2
        go_wp2
        go_ret
        exact ⟨by rw [HV.out, HW.out]; rfl, hD⟩
      · have HW := hide (show pairB x y = false by unfold pairB; rw [if_neg (by omega), if_neg (by omega)])
        go_wp2
        go_ret
        exact ⟨by rw [HV.out, HW.out]; rfl, hD⟩

end Go.Proofs.YtgbbgfjamneioaaDoor
