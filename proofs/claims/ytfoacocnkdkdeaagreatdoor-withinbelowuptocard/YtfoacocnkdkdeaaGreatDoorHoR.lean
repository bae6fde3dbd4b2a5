/-
  The document's host: letters, digits, labels, host's names.
-/
import Derived.Test.YtfoacocnkdkdeaaGreatDoorHoL
import Derived.Test.YtfoacocnkdkdeaaGreatDoorTxS
namespace Go.Proofs.YtfoacocnkdkdeaaGreatDoor
open Go.RowKit Go.IntWalk

def ltN (n : Nat) : Bool := decide (97 ≤ n ∧ n ≤ 122) || decide (65 ≤ n ∧ n ≤ 90)
theorem plN_split (n : Nat) : plN n = (ltN n || digN n) := by unfold plN ltN; cases digN n <;> simp [Bool.or_comm]


-- digit: the function; digN: what it answers; decide (48 ≤ b ∧ b ≤ 57): the same written out
set_option maxRecDepth 100000 in
set_option maxHeartbeats 1000000 in
theorem digit_any (b : Nat) (w : World) :
    Calls Tryz.prog 64 #[.int .u8 b] w fun e w' => e = .returned (.bool (digN b)) ∧ w' = w := by
  have hP : Hid (digN b = (decide (48 ≤ b ∧ b ≤ 57))) := rfl
  generalize digN b = R at hP ⊢
  go_enter Tryz.func64, Tryz.ntmps64
  go_wp2
  all_goals go_ret
  all_goals refine ⟨?_, rfl⟩
  all_goals rw [hP.out]
  all_goals show Ending.returned (Value.bool _) = Ending.returned (Value.bool _)
  all_goals congr 1
  all_goals congr 1
  all_goals rw [Bool.eq_iff_iff]
  all_goals simp
  all_goals omega

-- letter: the function; ltN: what it answers; decide (97 ≤ b ∧ b ≤ 122) || decide (65 ≤ b ∧ b ≤ 90): the same written out
set_option maxRecDepth 100000 in
set_option maxHeartbeats 1000000 in
theorem letter_any (b : Nat) (w : World) :
    Calls Tryz.prog 66 #[.int .u8 b] w fun e w' => e = .returned (.bool (ltN b)) ∧ w' = w := by
  have hP : Hid (ltN b = (decide (97 ≤ b ∧ b ≤ 122) || decide (65 ≤ b ∧ b ≤ 90))) := rfl
  generalize ltN b = R at hP ⊢
  go_enter Tryz.func66, Tryz.ntmps66
  go_wp2
  all_goals go_ret
  all_goals refine ⟨?_, rfl⟩
  all_goals rw [hP.out]
  all_goals show Ending.returned (Value.bool _) = Ending.returned (Value.bool _)
  all_goals congr 1
  all_goals congr 1
  all_goals rw [Bool.eq_iff_iff]
  all_goals simp
  all_goals omega

set_option maxRecDepth 100000 in
set_option maxHeartbeats 4000000 in
theorem refIsLabel_any (s : ByteArray) (hs : s.size ≤ 140737488355328) (w : World) :
    Calls Tryz.prog 63 #[.string s] w fun e w' => e = .returned (.bool (labL s.data.toList)) ∧ w' = w := by
  have hsl := size_len s
  by_cases h0 : s.size = 0
  · have hP : Hid (labL s.data.toList = false) := by unfold Hid labL; rw [hsl, h0]; rfl
    have h0I : (s.size : Int) < 1 := by omega
    replace h0 := hide h0
    go_enter Tryz.func63, Tryz.ntmps63
    go_wp2
    go_ret
    exact ⟨by rw [hP.out]; rfl, rfl⟩
  have h0I : ¬ (s.size : Int) < 1 := by omega
  by_cases h1 : s.size ≤ 63
  · have h1I : ¬ (63 : Int) < (s.size : Int) := by omega
    have hR : Hid (labL s.data.toList = allP (labP s.size) 0 s.data.toList) := by unfold Hid labL; rw [hsl, decide_eq_true (by omega), decide_eq_true h1]; rfl
    have HE : Hid (∀ k : Nat, s.size ≤ k → allP (labP s.size) k (s.data.toList.drop k) = true) := fun k hk => by rw [List.drop_eq_nil_of_le (by rw [size_len]; omega)]; rfl
    have HS : Hid (∀ (k : Nat) (hk : k < s.size), allP (labP s.size) k (s.data.toList.drop k) = (labP s.size k (s[k]'hk).toNat && allP (labP s.size) (k + 1) (s.data.toList.drop (k + 1)))) := fun k hk => by
      rw [allP_at _ _ k (by rw [size_len]; exact hk), get_list s k hk]
    clear hsl
    go_enter Tryz.func63, Tryz.ntmps63
    go_wp2
    go_loop [3] (fun i => ∃ k : Nat, i = .int .i64 k ∧ k ≤ s.size ∧ Hid (allP (labP s.size) 0 s.data.toList = allP (labP s.size) k (s.data.toList.drop k))) (fun i => s.size - (intOf i).toNat)
    case atStart => exact ⟨0, rfl, Nat.zero_le _, rfl⟩
    case round =>
      obtain ⟨k, rfl, hk, hE⟩ := hrel
      by_cases hlt : k < s.size
      · have hltI : (k : Int) < (s.size : Int) := by omega
        have hlt0 := hide (fun W => letter_any (s[k]'hlt).toNat W)
        have hdg := hide (fun W => digit_any (s[k]'hlt).toNat W)
        have hpl : labP s.size k (s[k]'hlt).toNat = ((ltN (s[k]'hlt).toNat || digN (s[k]'hlt).toNat) || (decide ((s[k]'hlt).toNat = 45) && (decide (0 < k) && decide (k + 1 < s.size)))) := by unfold labP; rw [plN_split]
        generalize ltN (s[k]'hlt).toNat = L at hlt0 hpl
        generalize digN (s[k]'hlt).toNat = G at hdg hpl
        cases L with
        | true =>
          have hq : Hid (labP s.size k (s[k]'hlt).toNat = true) := by unfold Hid; rw [hpl]; simp
          clear hpl
          have hF : Hid (allP (labP s.size) 0 s.data.toList = allP (labP s.size) (k + 1) (s.data.toList.drop (k + 1))) := by unfold Hid; rw [hE.out, HS.out k hlt, hq.out, Bool.true_and]
          replace hq := True.intro
          go_wp2_with (first | (go_at_call 66; refine (hlt0.out _).mono ?_; rintro e w1 ⟨rfl, hw1⟩; subst hw1) | (go_at_call 64; refine (hdg.out _).mono ?_; rintro e w2 ⟨rfl, hw2⟩; subst hw2))
          go_round
          case rel => exact ⟨k + 1, by simp, by omega, hF⟩
          case measure => simp [intOf]; omega
        | false =>
          cases G with
          | true =>
            have hq : Hid (labP s.size k (s[k]'hlt).toNat = true) := by unfold Hid; rw [hpl]; simp
            clear hpl
            have hF : Hid (allP (labP s.size) 0 s.data.toList = allP (labP s.size) (k + 1) (s.data.toList.drop (k + 1))) := by unfold Hid; rw [hE.out, HS.out k hlt, hq.out, Bool.true_and]
            replace hq := True.intro
            go_wp2_with (first | (go_at_call 66; refine (hlt0.out _).mono ?_; rintro e w1 ⟨rfl, hw1⟩; subst hw1) | (go_at_call 64; refine (hdg.out _).mono ?_; rintro e w2 ⟨rfl, hw2⟩; subst hw2))
            go_round
            case rel => exact ⟨k + 1, by simp, by omega, hF⟩
            case measure => simp [intOf]; omega
          | false =>
            by_cases h45 : (s[k]'hlt).toNat = 45
            · have h45' : (((s[k]'hlt).toNat : Int) != 45) = false := by simp; omega
              by_cases hk0 : k = 0
              · have hk0' : ((k : Int) == 0) = true := by simp; omega
                have hq : Hid (labP s.size k (s[k]'hlt).toNat = false) := by unfold Hid; rw [hpl, decide_eq_false (show ¬ 0 < k by omega)]; simp
                clear hpl h45 hk0
                have hF : Hid (allP (labP s.size) 0 s.data.toList = false) := by unfold Hid; rw [hE.out, HS.out k hlt, hq.out]; rfl
                replace hq := True.intro
                go_wp2_with (first | (go_at_call 66; refine (hlt0.out _).mono ?_; rintro e w1 ⟨rfl, hw1⟩; subst hw1) | (go_at_call 64; refine (hdg.out _).mono ?_; rintro e w2 ⟨rfl, hw2⟩; subst hw2))
                go_ret
                exact ⟨by rw [hR.out, hF.out]; rfl, rfl⟩
              · have hk0' : ((k : Int) == 0) = false := by simp; omega
                by_cases hk1 : k + 1 = s.size
                · have hk1' : ((k : Int) == (s.size : Int) - 1) = true := by simp; omega
                  have hq : Hid (labP s.size k (s[k]'hlt).toNat = false) := by unfold Hid; rw [hpl, decide_eq_false (show ¬ k + 1 < s.size by omega)]; simp
                  clear hpl h45 hk0
                  replace hk1 := hide hk1
                  have hF : Hid (allP (labP s.size) 0 s.data.toList = false) := by unfold Hid; rw [hE.out, HS.out k hlt, hq.out]; rfl
                  replace hq := True.intro
                  go_wp2_with (first | (go_at_call 66; refine (hlt0.out _).mono ?_; rintro e w1 ⟨rfl, hw1⟩; subst hw1) | (go_at_call 64; refine (hdg.out _).mono ?_; rintro e w2 ⟨rfl, hw2⟩; subst hw2))
                  go_ret
                  exact ⟨by rw [hR.out, hF.out]; rfl, rfl⟩
                · have hk1' : ((k : Int) == (s.size : Int) - 1) = false := by simp; omega
                  have hq : Hid (labP s.size k (s[k]'hlt).toNat = true) := by unfold Hid; rw [hpl, decide_eq_true (show k + 1 < s.size by omega), decide_eq_true (show 0 < k by omega), decide_eq_true h45]; rfl
                  clear hpl h45 hk0 hk1
                  have hF : Hid (allP (labP s.size) 0 s.data.toList = allP (labP s.size) (k + 1) (s.data.toList.drop (k + 1))) := by unfold Hid; rw [hE.out, HS.out k hlt, hq.out, Bool.true_and]
                  replace hq := True.intro
                  go_wp2_with (first | (go_at_call 66; refine (hlt0.out _).mono ?_; rintro e w1 ⟨rfl, hw1⟩; subst hw1) | (go_at_call 64; refine (hdg.out _).mono ?_; rintro e w2 ⟨rfl, hw2⟩; subst hw2))
                  go_round
                  case rel => exact ⟨k + 1, by simp, by omega, hF⟩
                  case measure => simp [intOf]; omega
            · have h45' : (((s[k]'hlt).toNat : Int) != 45) = true := by simp; omega
              have hq : Hid (labP s.size k (s[k]'hlt).toNat = false) := by unfold Hid; rw [hpl, decide_eq_false h45]; rfl
              clear hpl h45
              have hF : Hid (allP (labP s.size) 0 s.data.toList = false) := by unfold Hid; rw [hE.out, HS.out k hlt, hq.out]; rfl
              replace hq := True.intro
              go_wp2_with (first | (go_at_call 66; refine (hlt0.out _).mono ?_; rintro e w1 ⟨rfl, hw1⟩; subst hw1) | (go_at_call 64; refine (hdg.out _).mono ?_; rintro e w2 ⟨rfl, hw2⟩; subst hw2))
              go_ret
              exact ⟨by rw [hR.out, hF.out]; rfl, rfl⟩
      · have hltI : ¬ (k : Int) < (s.size : Int) := by omega
        have hF : Hid (allP (labP s.size) 0 s.data.toList = true) := by unfold Hid; rw [hE.out, HE.out k (by omega)]
        go_wp2
        go_ret
        exact ⟨by rw [hR.out, hF.out]; rfl, rfl⟩
  · have h1I : (63 : Int) < (s.size : Int) := by omega
    have hP : Hid (labL s.data.toList = false) := by unfold Hid labL; rw [hsl, decide_eq_false h1, Bool.false_and, Bool.and_false]
    go_enter Tryz.func63, Tryz.ntmps63
    go_wp2
    go_ret
    exact ⟨by rw [hP.out]; rfl, rfl⟩

end Go.Proofs.YtfoacocnkdkdeaaGreatDoor
