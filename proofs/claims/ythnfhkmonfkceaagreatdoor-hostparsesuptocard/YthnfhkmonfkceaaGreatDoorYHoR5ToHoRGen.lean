/-
  The document's host: mail addresses, as a call.
  The document's host: Match.
  The document's value and rest.
  The document's May of a general name, as a call.
-/
import Derived.Test.YthnfhkmonfkceaaGreatDoorYHoSh3ToHoR4
import Derived.Test.YthnfhkmonfkceaaGreatDoorYHoR3ToHoSm
import Derived.Test.YthnfhkmonfkceaaGreatDoorYHoMtToWiHMay
import Derived.Test.YthnfhkmonfkceaaGreatDoorYHoNmToHoShM
import Derived.Test.YthnfhkmonfkceaaGreatDoorYNmRDcToNmDec
namespace Go.Proofs.YthnfhkmonfkceaaGreatDoor
open Go.RowKit Go.IntWalk

/-- What the document's Email has found of a local part of k bytes, i of them gone over. -/
def MRel (s : ByteArray) (k i : Nat) : Prop := ∃ p, locS true (s.data.toList.take k) = locS p ((s.data.toList.take k).drop i) ∧ (p = true → ∀ h : i < s.size, i < k → (s[i]'h) ≠ 46) ∧ (i = k → p = false)
theorem mrel_start (s : ByteArray) (k : Nat) (hk : 0 < k) (h0 : ∀ h : 0 < s.size, (s[0]'h) ≠ 46) : MRel s k 0 := ⟨true, rfl, fun _ h _ => h0 h, fun e => by omega⟩
theorem take_at (s : ByteArray) (k i : Nat) (hk : k ≤ s.size) (hi : i < k) : ∃ h : i < (s.data.toList.take k).length, (s.data.toList.take k)[i]'h = s[i]'(by omega) := by
  have hl : i < (s.data.toList.take k).length := by rw [List.length_take, sizeH_len]; omega
  refine ⟨hl, ?_⟩
  rw [List.getElem_take, getH_list s i (by omega)]
theorem mrel_step (s : ByteArray) (k i : Nat) (hk : k ≤ s.size) (hi : i < k) (h : MRel s k i) (hc : (s[i]'(by omega)) ≠ 46) (hn : locN (s[i]'(by omega)).toNat = true) : MRel s k (i + 1) := by
  obtain ⟨p, h1, h2, h3⟩ := h
  obtain ⟨hl, he⟩ := take_at s k i hk hi
  rw [locS_at p _ i hl, he, if_neg hc, hn, Bool.true_and] at h1
  exact ⟨false, h1, fun e => (by cases e), fun _ => rfl⟩
theorem mrel_bad (s : ByteArray) (k i : Nat) (hk : k ≤ s.size) (hi : i < k) (h : MRel s k i) (hc : (s[i]'(by omega)) ≠ 46) (hn : locN (s[i]'(by omega)).toNat = false) : locS true (s.data.toList.take k) = false := by
  obtain ⟨p, h1, h2, h3⟩ := h
  obtain ⟨hl, he⟩ := take_at s k i hk hi
  rw [locS_at p _ i hl, he, if_neg hc, hn, Bool.false_and] at h1
  exact h1
theorem mrel_dot (s : ByteArray) (k i : Nat) (hk : k < s.size) (hi : i < k) (h : MRel s k i) (hc : (s[i]'(by omega)) = 46) (hl1 : (s[k - 1]'(by omega)) ≠ 46) (hd : (s[i + 1]'(by omega)) ≠ 46) : MRel s k (i + 1) := by
  obtain ⟨p, h1, h2, h3⟩ := h
  obtain ⟨hl, he⟩ := take_at s k i (by omega) hi
  have hp : p = false := by
    cases p with
    | false => rfl
    | true => exact absurd hc (h2 rfl (by omega) hi)
  subst hp
  rw [locS_at false _ i hl, he, if_pos hc] at h1
  refine ⟨true, h1, fun _ h _ => hd, fun e => ?_⟩
  exfalso
  apply hl1
  rw [← hc]
  congr 1
  omega
theorem mrel_dots (s : ByteArray) (k i : Nat) (hk : k < s.size) (hi : i < k) (h : MRel s k i) (hc : (s[i]'(by omega)) = 46) (ha : (s[k]'hk) = 64) (hd : (s[i + 1]'(by omega)) = 46) : locS true (s.data.toList.take k) = false := by
  obtain ⟨p, h1, h2, h3⟩ := h
  obtain ⟨hl, he⟩ := take_at s k i (by omega) hi
  have hi1 : i + 1 < k := by
    rcases Nat.lt_or_ge (i + 1) k with h | h
    · exact h
    · exfalso
      have e : i + 1 = k := by omega
      have e2 : (s[i + 1]'(by omega)) = (s[k]'hk) := by congr 1
      rw [hd, ha] at e2
      exact absurd e2 (by decide)
  obtain ⟨hl2, he2⟩ := take_at s k (i + 1) (by omega) hi1
  rw [locS_at p _ i hl, he, if_pos hc, locS_at true _ (i + 1) hl2, he2, if_pos hd] at h1
  rw [h1]; simp
theorem mrel_end (s : ByteArray) (k : Nat) (h : MRel s k k) : locS true (s.data.toList.take k) = true := by
  obtain ⟨p, h1, h2, h3⟩ := h
  rw [h1, h3 rfl, List.drop_eq_nil_of_le (by rw [List.length_take]; omega)]
  rfl

theorem mail_none (s : ByteArray) (h : ∀ (i : Nat) (hi : i < s.size), (s[i]'hi) ≠ 64) : mailL s.data.toList = false := by
  unfold mailL
  rw [cutD_none 64 _ (fun i hi => by rw [getH_list s i (by rw [← sizeH_len]; exact hi)]; exact h i _), dnsL_nil, Bool.and_false]
theorem mail_at (s : ByteArray) (k : Nat) (hk : k < s.size) (h : ∀ (i : Nat) (hi : i < s.size), i < k → (s[i]'hi) ≠ 64) (ha : (s[k]'hk) = 64) : mailL s.data.toList = ((decide (k ≤ 64) && locS true (s.data.toList.take k)) && dnsL (s.data.toList.drop (k + 1))) := by
  have hl : k < s.data.toList.length := by rw [sizeH_len]; exact hk
  obtain ⟨h1, h2⟩ := cutD_at 64 s.data.toList k (fun i hi hik => by rw [getH_list s i (by omega)]; exact h i _ hik) hl (by rw [getH_list s k hk]; exact ha)
  unfold mailL
  rw [locL_S, h1, h2, List.length_take, Nat.min_eq_left (by omega)]

theorem ne_num (x y : UInt8) (h : x ≠ y) : ((x.toNat : Int) == (y.toNat : Int)) = false := by
  rw [beq_eq_false_iff_ne]
  intro e
  exact h (UInt8.toNat_inj.1 (by omega))

set_option maxRecDepth 100000 in
set_option maxHeartbeats 8000000 in
theorem refEmail_any (s : ByteArray) (hs : s.size ≤ 1048576) (w : World) : Calls Tryz.prog 18 #[.string s] w fun e w' => e = .returned (.bool (mailL s.data.toList)) ∧ Below w.heap.size w w' := by
  go_enter Tryz.func18, Tryz.ntmps18
  go_wp2
  go_loop [3] (fun i => ∃ k : Nat, i = .int .i64 k ∧ k ≤ s.size ∧ Hid (∀ (i : Nat) (hi : i < s.size), i < k → (s[i]'hi) ≠ 64)) (fun i => s.size - (intOf i).toNat)
  case atStart => exact ⟨0, rfl, Nat.zero_le _, fun _ _ h => by omega⟩
  case round =>
    obtain ⟨k, rfl, hk, HK⟩ := hrel
    by_cases hlt : k < s.size
    · have hltI : (k : Int) < (s.size : Int) := by omega
      by_cases hat : (s[k]'hlt) = 64
      · have hat' : (((s[k]'hlt).toNat : Int) != 64) = false := by rw [hat]; rfl
        have HML := hide (mail_at s k hlt HK.out hat)
        have hke : ((k : Int) == (s.size : Int)) = false := by simp; omega
        by_cases hk1 : k < 1
        · have hk1I : (k : Int) < 1 := by omega
          have ht0 : s.data.toList.take k = [] := by rw [show k = 0 by omega]; rfl
          have hF : Hid (mailL s.data.toList = false) := by unfold Hid; rw [HML.out, ht0, show locS true [] = false from rfl]; simp
          clear HK
          go_wp2
          go_ret
          exact ⟨by rw [hF.out]; rfl, Below.refl _ _⟩
        have hk1I : ¬ (k : Int) < 1 := by omega
        by_cases hk64 : 64 < k
        · have hk64I : (64 : Int) < (k : Int) := by omega
          have hF : Hid (mailL s.data.toList = false) := by unfold Hid; rw [HML.out, decide_eq_false (show ¬ k ≤ 64 by omega)]; simp
          clear HK
          go_wp2
          go_ret
          exact ⟨by rw [hF.out]; rfl, Below.refl _ _⟩
        have hk64I : ¬ (64 : Int) < (k : Int) := by omega
        have h0s : 0 < s.size := by omega
        have h0sI : (0 : Int) < (s.size : Int) := by omega
        by_cases hz0 : (s[0]'h0s) = 46
        · have hz0' : (((s[0]'h0s).toNat : Int) == 46) = true := by rw [hz0]; rfl
          obtain ⟨ht1, ht2⟩ := take_at s k 0 (by omega) (by omega)
          have hl0 : locS true (s.data.toList.take k) = false := by
            have h := locS_at true (s.data.toList.take k) 0 ht1
            rw [ht2, if_pos hz0] at h
            exact h
          have hF : Hid (mailL s.data.toList = false) := by unfold Hid; rw [HML.out, hl0]; simp
          clear HK
          go_wp2
          go_ret
          exact ⟨by rw [hF.out]; rfl, Below.refl _ _⟩
        have hz0' : (((s[0]'h0s).toNat : Int) == 46) = false := ne_num _ 46 hz0
        have hkm : k - 1 < s.size := by omega
        have hkmI : (k : Int) - 1 < (s.size : Int) := by omega
        have hkmJ : (0 : Int) ≤ (k : Int) - 1 := by omega
        by_cases hz1 : (s[k - 1]'hkm) = 46
        · have hz1' : (((s[k - 1]'hkm).toNat : Int) == 46) = true := by rw [hz1]; rfl
          have hl0 : locS true (s.data.toList.take k) = false := by
            cases hq : locS true (s.data.toList.take k) with
            | false => rfl
            | true =>
              exfalso
              obtain ⟨ht1, ht2⟩ := take_at s k (k - 1) (by omega) (by omega)
              have hlen : (s.data.toList.take k).length = k := by rw [List.length_take, sizeH_len]; omega
              refine locS_last _ _ hq (by rw [hlen]; omega) ?_
              rw [← hz1, ← ht2]
              congr 1
              omega
          have hF : Hid (mailL s.data.toList = false) := by unfold Hid; rw [HML.out, hl0]; simp
          clear HK
          go_wp2
          go_ret
          exact ⟨by rw [hF.out]; rfl, Below.refl _ _⟩
        have hz1' : (((s[k - 1]'hkm).toNat : Int) == 46) = false := ne_num _ 46 hz1
        have hr0 := hide (mrel_start s k (by omega) (fun _ => hz0))
        replace HML : Hid (mailL s.data.toList = (locS true (s.data.toList.take k) && dnsL (s.data.toList.drop (k + 1)))) := by unfold Hid; rw [HML.out, decide_eq_true (show k ≤ 64 by omega), Bool.true_and]
        have Hz1 := hide hz1
        have Hat := hide hat
        clear hz1 hz0 hat HK
        go_wp2
        go_loop [4] (fun j => ∃ i : Nat, j = .int .i64 i ∧ i ≤ k ∧ Hid (MRel s k i)) (fun j => k - (intOf j).toNat)
        case atStart => exact ⟨0, rfl, Nat.zero_le _, hr0⟩
        case round =>
          obtain ⟨i, rfl, hi, HM⟩ := hrel
          by_cases hik : i < k
          · have hikI : (i : Int) < (k : Int) := by omega
            have his : i < s.size := by omega
            have hisI : (i : Int) < (s.size : Int) := by omega
            have hlt0 := hide (fun W => letter_any (s[i]'his).toNat W)
            have hdg := hide (fun W => digit_any (s[i]'his).toNat W)
            by_cases hc46 : (s[i]'his) = 46
            · have hc46' : (((s[i]'his).toNat : Int) == 46) = true := by rw [hc46]; rfl
              have hc46n : (((s[i]'his).toNat : Int) != 46) = false := by rw [hc46]; rfl
              have e1 : ltN (s[i]'his).toNat = false := by rw [hc46]; decide
              have e2 : digN (s[i]'his).toNat = false := by rw [hc46]; decide
              rw [e1] at hlt0
              rw [e2] at hdg
              have hi1s : i + 1 < s.size := by omega
              have hi1I : (i : Int) + 1 < (s.size : Int) := by omega
              by_cases hd : (s[i + 1]'hi1s) = 46
              · have hd' : (((s[i + 1]'hi1s).toNat : Int) == 46) = true := by rw [hd]; rfl
                have hF : Hid (mailL s.data.toList = false) := by unfold Hid; rw [HML.out, mrel_dots s k i hlt hik HM.out hc46 Hat.out hd]; simp
                clear hc46 hd e1 e2
                go_wp2_with (first | (go_at_call 42; refine (hlt0.out _).mono ?_; rintro e w1 ⟨rfl, hw1⟩; subst hw1) | (go_at_call 43; refine (hdg.out _).mono ?_; rintro e w2 ⟨rfl, hw2⟩; subst hw2))
                go_ret
                exact ⟨by rw [hF.out]; rfl, Below.refl _ _⟩
              · have hd' : (((s[i + 1]'hi1s).toNat : Int) == 46) = false := ne_num _ 46 hd
                have hM := hide (mrel_dot s k i hlt hik HM.out hc46 Hz1.out hd)
                clear hc46 hd e1 e2
                go_wp2_with (first | (go_at_call 42; refine (hlt0.out _).mono ?_; rintro e w1 ⟨rfl, hw1⟩; subst hw1) | (go_at_call 43; refine (hdg.out _).mono ?_; rintro e w2 ⟨rfl, hw2⟩; subst hw2))
                go_round
                case rel => exact ⟨i + 1, by simp, by omega, hM⟩
                case measure => simp [intOf]; omega
            · have hc46' : (((s[i]'his).toNat : Int) == 46) = false := ne_num _ 46 hc46
              have hc46n : (((s[i]'his).toNat : Int) != 46) = true := by unfold bne; rw [hc46']; rfl
              have hsp := locN_split (s[i]'his).toNat
              generalize ltN (s[i]'his).toNat = L at hlt0 hsp
              generalize digN (s[i]'his).toNat = G at hdg hsp
              cases L with
              | true =>
                have hn : locN (s[i]'his).toNat = true := by rw [hsp]; simp
                clear hsp
                have hM := hide (mrel_step s k i (by omega) hik HM.out hc46 hn)
                clear hn hc46
                go_wp2_with (first | (go_at_call 42; refine (hlt0.out _).mono ?_; rintro e w1 ⟨rfl, hw1⟩; subst hw1) | (go_at_call 43; refine (hdg.out _).mono ?_; rintro e w2 ⟨rfl, hw2⟩; subst hw2))
                go_round
                case rel => exact ⟨i + 1, by simp, by omega, hM⟩
                case measure => simp [intOf]; omega
              | false =>
                cases G with
                | true =>
                  have hn : locN (s[i]'his).toNat = true := by rw [hsp]; simp
                  clear hsp
                  have hM := hide (mrel_step s k i (by omega) hik HM.out hc46 hn)
                  clear hn hc46
                  go_wp2_with (first | (go_at_call 42; refine (hlt0.out _).mono ?_; rintro e w1 ⟨rfl, hw1⟩; subst hw1) | (go_at_call 43; refine (hdg.out _).mono ?_; rintro e w2 ⟨rfl, hw2⟩; subst hw2))
                  go_round
                  case rel => exact ⟨i + 1, by simp, by omega, hM⟩
                  case measure => simp [intOf]; omega
                | false =>
                  by_cases h95 : (s[i]'his).toNat = 95
                  · have h95n : (((s[i]'his).toNat : Int) != 95) = false := by rw [h95]; rfl
                    have hn : locN (s[i]'his).toNat = true := by rw [hsp, decide_eq_true h95]; rfl
                    clear hsp h95
                    have hM := hide (mrel_step s k i (by omega) hik HM.out hc46 hn)
                    clear hn hc46
                    go_wp2_with (first | (go_at_call 42; refine (hlt0.out _).mono ?_; rintro e w1 ⟨rfl, hw1⟩; subst hw1) | (go_at_call 43; refine (hdg.out _).mono ?_; rintro e w2 ⟨rfl, hw2⟩; subst hw2))
                    go_round
                    case rel => exact ⟨i + 1, by simp, by omega, hM⟩
                    case measure => simp [intOf]; omega
                  have h95n : (((s[i]'his).toNat : Int) != 95) = true := by simp; omega
                  by_cases h43 : (s[i]'his).toNat = 43
                  · have h43n : (((s[i]'his).toNat : Int) != 43) = false := by rw [h43]; rfl
                    have hn : locN (s[i]'his).toNat = true := by rw [hsp, decide_eq_true h43]; simp
                    clear hsp h43 h95
                    have hM := hide (mrel_step s k i (by omega) hik HM.out hc46 hn)
                    clear hn hc46
                    go_wp2_with (first | (go_at_call 42; refine (hlt0.out _).mono ?_; rintro e w1 ⟨rfl, hw1⟩; subst hw1) | (go_at_call 43; refine (hdg.out _).mono ?_; rintro e w2 ⟨rfl, hw2⟩; subst hw2))
                    go_round
                    case rel => exact ⟨i + 1, by simp, by omega, hM⟩
                    case measure => simp [intOf]; omega
                  have h43n : (((s[i]'his).toNat : Int) != 43) = true := by simp; omega
                  by_cases h45 : (s[i]'his).toNat = 45
                  · have h45n : (((s[i]'his).toNat : Int) != 45) = false := by rw [h45]; rfl
                    have hn : locN (s[i]'his).toNat = true := by rw [hsp, decide_eq_true h45]; simp
                    clear hsp h43 h95 h45
                    have hM := hide (mrel_step s k i (by omega) hik HM.out hc46 hn)
                    clear hn hc46
                    go_wp2_with (first | (go_at_call 42; refine (hlt0.out _).mono ?_; rintro e w1 ⟨rfl, hw1⟩; subst hw1) | (go_at_call 43; refine (hdg.out _).mono ?_; rintro e w2 ⟨rfl, hw2⟩; subst hw2))
                    go_round
                    case rel => exact ⟨i + 1, by simp, by omega, hM⟩
                    case measure => simp [intOf]; omega
                  · have h45n : (((s[i]'his).toNat : Int) != 45) = true := by simp; omega
                    have hn : locN (s[i]'his).toNat = false := by rw [hsp, decide_eq_false h95, decide_eq_false h43, decide_eq_false h45]; rfl
                    clear hsp h43 h95 h45
                    have hF : Hid (mailL s.data.toList = false) := by unfold Hid; rw [HML.out, mrel_bad s k i (by omega) hik HM.out hc46 hn]; simp
                    clear hn hc46
                    go_wp2_with (first | (go_at_call 42; refine (hlt0.out _).mono ?_; rintro e w1 ⟨rfl, hw1⟩; subst hw1) | (go_at_call 43; refine (hdg.out _).mono ?_; rintro e w2 ⟨rfl, hw2⟩; subst hw2))
                    go_ret
                    exact ⟨by rw [hF.out]; rfl, Below.refl _ _⟩
          · obtain rfl : i = k := by omega
            have hikI : ¬ (i : Int) < (i : Int) := by omega
            have hdl : (s.data.toList.drop (i + 1)).length ≤ s.size := by rw [List.length_drop, sizeH_len]; omega
            have hD := hide (fun W => refDNS_any (tx (s.data.toList.drop (i + 1))) (by rw [tx_size]; omega) W)
            rw [tx_list] at hD
            have hF : Hid (mailL s.data.toList = dnsL (s.data.toList.drop (i + 1))) := by unfold Hid; rw [HML.out, mrel_end s i HM.out, Bool.true_and]
            have hi1I : (i : Int) + 1 ≤ (s.size : Int) := by omega
            have sl2 : ∀ X, (Instr.slice 9 (.string s) (some (.int .i64 ((i : Int) + 1))) none none).run Tryz.prog X = .ok (.string (tx (s.data.toList.drop (i + 1)))) X := fun X => by
              have h := run_slice_string_from_if (P := Tryz.prog) (w := X) 9 s .i64 ((i : Int) + 1) Tryz.underlying9
              rw [h, if_pos (by omega), show ((i : Int) + 1).toNat = i + 1 by omega, cut_textH]
              unfold cutH
              rw [List.take_of_length_le (by rw [sizeH_len]; exact Nat.le_refl _)]
            generalize s.data.toList.drop (i + 1) = t at hD hF sl2
            clear hdl
            go_wp2_with (go_at_call 19; refine (hD.out _).mono ?_; rintro e w3 ⟨rfl, B3⟩)
            go_ret
            exact ⟨by rw [hF.out]; rfl, B3⟩
      · have hat0 : (((s[k]'hlt).toNat : Int) == 64) = false := ne_num _ 64 hat
        have hat' : (((s[k]'hlt).toNat : Int) != 64) = true := by unfold bne; rw [hat0]; rfl
        clear hat0
        have HK2 : Hid (∀ (i : Nat) (hi : i < s.size), i < k + 1 → (s[i]'hi) ≠ 64) := fun i hi hik => by
          by_cases h : i = k
          · subst h; exact hat
          · exact HK.out i hi (by omega)
        clear hat HK
        go_wp2
        go_round
        case rel => exact ⟨k + 1, by simp, by omega, HK2⟩
        case measure => simp [intOf]; omega
    · obtain rfl : k = s.size := by omega
      have hltI : ¬ (s.size : Int) < (s.size : Int) := by omega
      have hke : ((s.size : Int) == (s.size : Int)) = true := by simp
      have hF : Hid (mailL s.data.toList = false) := mail_none s (fun i hi => HK.out i hi hi)
      clear HK
      go_wp2
      go_ret
      exact ⟨by rw [hF.out]; rfl, Below.refl _ _⟩

end Go.Proofs.YthnfhkmonfkceaaGreatDoor

namespace Go.Proofs.YthnfhkmonfkceaaGreatDoor
open Go.RowKit Go.IntWalk

theorem eq_toList (a b : List UInt8) : ((tx a).toList == (tx b).toList) = decide (a = b) := by
  rw [Lib.toList_data, Lib.toList_data, tx_list, tx_list]
  rw [Bool.eq_iff_iff]
  simp

end Go.Proofs.YthnfhkmonfkceaaGreatDoor

namespace Go.Proofs.YthnfhkmonfkceaaGreatDoor
open Go.RowKit Go.IntWalk Go.Shelf

set_option maxRecDepth 100000 in
theorem nib_cases (n : Nat) (h : n < 256) : nib (UInt8.ofNat n) = if 48 ≤ n ∧ n ≤ 57 then (n : Int) - 48 else if 97 ≤ n ∧ n ≤ 102 then (n : Int) - 97 + 10 else -1 :=
  (show ∀ k : Fin 256, nib (UInt8.ofNat k.val) = if 48 ≤ k.val ∧ k.val ≤ 57 then (k.val : Int) - 48 else if 97 ≤ k.val ∧ k.val ≤ 102 then (k.val : Int) - 97 + 10 else -1 by decide +kernel) ⟨n, h⟩
theorem nib_at (x : UInt8) : nib x = if 48 ≤ x.toNat ∧ x.toNat ≤ 57 then (x.toNat : Int) - 48 else if 97 ≤ x.toNat ∧ x.toNat ≤ 102 then (x.toNat : Int) - 97 + 10 else -1 := by
  have h := nib_cases x.toNat x.toNat_lt
  rw [show UInt8.ofNat x.toNat = x by simp] at h
  exact h
theorem nib_range (x : UInt8) : -1 ≤ nib x ∧ nib x ≤ 15 := by
  rw [nib_at]
  split
  · omega
  · split <;> omega

set_option maxRecDepth 100000 in
set_option maxHeartbeats 1000000 in
theorem value_any (x : UInt8) (w : World) :
    Calls Tryz.prog 33 #[.int .u8 x.toNat] w fun e w' => e = .returned (.int .i64 (nib x)) ∧ w' = w := by
  have hP : Hid (nib x = _) := nib_at x
  have hx := x.toNat_lt
  have hD := hide (digit_any x.toNat)
  generalize nib x = R at *
  generalize x.toNat = n at *
  unfold digN at hD
  by_cases h1 : 48 ≤ n ∧ n ≤ 57
  · have hR : Hid (R = (n : Int) - 48) := by unfold Hid; rw [hP.out, if_pos h1]
    rw [decide_eq_true h1] at hD
    have hr : Hid (-48 ≤ (n : Int) - 48 ∧ (n : Int) - 48 < 256) := by unfold Hid; omega
    go_enter Tryz.func33, Tryz.ntmps33
    go_wp2_with (go_at_call 43; refine (hD.out _).mono ?_; rintro e w' ⟨rfl, hw⟩; subst hw)
    go_ret
    exact ⟨by rw [hR.out]; rfl, rfl⟩
  · rw [decide_eq_false h1] at hD
    by_cases h2 : 97 ≤ n ∧ n ≤ 102
    · have hR : Hid (R = (n : Int) - 97 + 10) := by unfold Hid; rw [hP.out, if_neg h1, if_pos h2]
      have q1 : (97 : Int) ≤ (n : Int) := by omega
      have q2 : (n : Int) ≤ 102 := by omega
      go_enter Tryz.func33, Tryz.ntmps33
      go_wp2_with (go_at_call 43; refine (hD.out _).mono ?_; rintro e w' ⟨rfl, hw⟩; subst hw)
      go_ret
      exact ⟨by rw [hR.out]; rfl, rfl⟩
    · have hR : Hid (R = -1) := by unfold Hid; rw [hP.out, if_neg h1, if_neg h2]
      by_cases q1 : (97 : Int) ≤ (n : Int)
      · have q2 : ¬ (n : Int) ≤ 102 := by omega
        go_enter Tryz.func33, Tryz.ntmps33
        go_wp2_with (go_at_call 43; refine (hD.out _).mono ?_; rintro e w' ⟨rfl, hw⟩; subst hw)
        go_ret
        exact ⟨by rw [hR.out]; rfl, rfl⟩
      · go_enter Tryz.func33, Tryz.ntmps33
        go_wp2_with (go_at_call 43; refine (hD.out _).mono ?_; rintro e w' ⟨rfl, hw⟩; subst hw)
        go_ret
        exact ⟨by rw [hR.out]; rfl, rfl⟩

/-- What stands behind a head, and whether it is there. -/
def restL (s h : List UInt8) : List UInt8 := if hdB h s then s.drop h.length else []
theorem hdB_short {s h : List UInt8} (hl : s.length < h.length) : hdB h s = false := by
  cases e : hdB h s with
  | false => rfl
  | true =>
    have := List.IsPrefix.length_le (List.isPrefixOf_iff_prefix.1 e)
    omega
theorem hdB_take (s h : List UInt8) : hdB h s = decide (s.take h.length = h) := by
  unfold hdB
  rw [Bool.eq_iff_iff, List.isPrefixOf_iff_prefix, decide_eq_true_eq]
  constructor
  · intro e
    exact (List.prefix_iff_eq_take.1 e).symm
  · intro e
    rw [← e]
    exact List.take_prefix _ _
theorem txS_beq (a b : List UInt8) : ((tx a).toList == (tx b).toList) = decide (a = b) := by
  rw [ByteArray.toList_eq, ByteArray.toList_eq]
  show (a == b) = _
  by_cases h : a = b
  · subst h; simp
  · rw [decide_eq_false h]; exact beq_eq_false_iff_ne.2 h
theorem slS_lo (b : List UInt8) (h : Nat) (hh : h ≤ b.length) (X : World) : (Instr.slice 9 (.string (tx b)) (some (.int .i64 (h : Int))) none none).run Tryz.prog X = .ok (.string (tx (b.drop h))) X := by
  have h1 := run_slice_string_l (P := Tryz.prog) X 9 (tx b) Tryz.underlying9 .i64 (h : Int) (by omega) (by rw [tx_size]; omega)
  have e : cutH (tx b).data.toList h (tx b).size = b.drop h := by unfold cutH; rw [tx_list, tx_size, List.take_of_length_le (Nat.le_refl _)]
  rw [h1, ← e, ← cut_textH]; simp
theorem slS_hi (b : List UInt8) (h : Nat) (hh : h ≤ b.length) (X : World) : (Instr.slice 9 (.string (tx b)) none (some (.int .i64 (h : Int))) none).run Tryz.prog X = .ok (.string (tx (b.take h))) X := by
  have h1 := run_slice_string_h (P := Tryz.prog) X 9 (tx b) Tryz.underlying9 .i64 (h : Int) (by omega) (by rw [tx_size]; omega)
  have e : cutH (tx b).data.toList 0 h = b.take h := by unfold cutH; rw [tx_list]; rfl
  rw [h1, ← e, ← cut_textH]; simp

set_option maxRecDepth 100000 in
set_option maxHeartbeats 2000000 in
theorem rest_any (s h : List UInt8) (w : World) :
    Calls Tryz.prog 30 #[.string (tx s), .string (tx h)] w fun e w' => e = .returned (.tuple #[.string (tx (restL s h)), .bool (hdB h s)]) ∧ w' = w := by
  have z1 : ((tx s).size : Int) = (s.length : Int) := by rw [tx_size]
  have z2 : ((tx h).size : Int) = (h.length : Int) := by rw [tx_size]
  by_cases hl : s.length < h.length
  · have hI : (s.length : Int) < (h.length : Int) := by omega
    have e1 := hdB_short hl
    have e2 : Hid (restL s h = []) := by unfold Hid restL; rw [e1]; rfl
    have E1 := hide e1
    clear e1
    generalize restL s h = R at *
    generalize hdB h s = B at *
    generalize tx s = S at *
    generalize tx h = H at *
    go_enter Tryz.func30, Tryz.ntmps30
    go_wp2
    refine bodyPost_ret (v := .tuple #[.string (tx []), .bool false]) (by simp [results, Tryz.results30, go_sem]; rfl) rfl ⟨by rw [e2.out, E1.out], rfl⟩
  · have hI : ¬ (s.length : Int) < (h.length : Int) := by omega
    have s1 := slS_hi s h.length (by omega)
    have s2 := slS_lo s h.length (by omega)
    have b1 := txS_beq (s.take h.length) h
    have e1 := hdB_take s h
    by_cases ht : s.take h.length = h
    · rw [decide_eq_true ht] at b1 e1
      have e2 : Hid (restL s h = s.drop h.length) := by unfold Hid restL; rw [e1]; rfl
      have E1 := hide e1
      clear e1 ht
      generalize restL s h = R at *
      generalize hdB h s = B at *
      generalize s.take h.length = T at *
      generalize s.drop h.length = D at *
      generalize tx T = TT at *
      generalize tx s = S at *
      generalize tx h = H at *
      go_enter Tryz.func30, Tryz.ntmps30
      go_wp2
      refine bodyPost_ret (v := .tuple #[.string (tx D), .bool true]) (by simp [results, Tryz.results30, go_sem]) rfl ⟨by rw [e2.out, E1.out], rfl⟩
    · rw [decide_eq_false ht] at b1 e1
      have e2 : Hid (restL s h = []) := by unfold Hid restL; rw [e1]; rfl
      have E1 := hide e1
      clear e1 ht
      generalize restL s h = R at *
      generalize hdB h s = B at *
      generalize s.take h.length = T at *
      generalize s.drop h.length = D at *
      generalize tx T = TT at *
      generalize tx s = S at *
      generalize tx h = H at *
      go_enter Tryz.func30, Tryz.ntmps30
      go_wp2
      refine bodyPost_ret (v := .tuple #[.string (tx []), .bool false]) (by simp [results, Tryz.results30, go_sem]; rfl) rfl ⟨by rw [e2.out, E1.out], rfl⟩

end Go.Proofs.YthnfhkmonfkceaaGreatDoor

namespace Go.Proofs.YthnfhkmonfkceaaGreatDoor
open Go.RowKit Go.Shelf Go.IntWalk

def genP (k : Int) (b : List UInt8) (w : World) : Prop := Calls Tryz.prog 9 #[.agg #[.int .i64 k, .string (tx b)]] w fun e w' => e = .returned (.bool (mayG k b)) ∧ Below w.heap.size w w'
set_option maxRecDepth 100000 in
theorem rgen_mail (b : List UInt8) (hb : b.length ≤ 1048576) (w : World) : genP 1 b w := by
  have d1 := hide (fun W => refEmail_any (tx b) (by rw [tx_size]; exact hb) W)
  rw [tx_list] at d1
  have hF : Hid (mayG 1 b = mailL b) := rfl
  generalize mailL b = D at *
  unfold genP
  have BX := nbelowW w (.cells #[.int .i64 1, .string (tx b)] 23)
  have c1 : (w.alloc (.cells #[.int .i64 1, .string (tx b)] 23)).cell? ⟨w.heap.size, 1, none⟩ = some (.string (tx b)) := by simp
  go_enter Tryz.func9, Tryz.ntmps9
  go_wp2_with fail
  refine (d1.out _).mono ?_
  rintro e w1 ⟨rfl, B1⟩
  go_wp2
  go_ret
  exact ⟨by rw [hF.out]; rfl, BX.trans (B1.mono BX.size)⟩
set_option maxRecDepth 100000 in
theorem rgen_dns (b : List UInt8) (hb : b.length ≤ 1048576) (w : World) : genP 2 b w := by
  have d1 := hide (fun W => refDNS_any (tx b) (by rw [tx_size]; exact hb) W)
  have d2 := hide (fun W => refWild_any b hb W)
  rw [tx_list] at d1
  have hF : mayG 2 b = (dnsL b || wildL b) := rfl
  generalize wildL b = D at *
  cases hm : dnsL b with
  | true =>
    rw [hm] at d1 hF
    have HF := hide hF
    clear hF hm d2
    unfold genP
    have BX := nbelowW w (.cells #[.int .i64 2, .string (tx b)] 23)
    have c1 : (w.alloc (.cells #[.int .i64 2, .string (tx b)] 23)).cell? ⟨w.heap.size, 1, none⟩ = some (.string (tx b)) := by simp
    go_enter Tryz.func9, Tryz.ntmps9
    go_wp2_with fail
    refine (d1.out _).mono ?_
    rintro e w1 ⟨rfl, B1⟩
    go_wp2
    go_ret
    exact ⟨by rw [HF.out]; rfl, BX.trans (B1.mono BX.size)⟩
  | false =>
    rw [hm] at d1 hF
    have HF := hide hF
    clear hF hm
    unfold genP
    have BX := nbelowW w (.cells #[.int .i64 2, .string (tx b)] 23)
    have c1 : (w.alloc (.cells #[.int .i64 2, .string (tx b)] 23)).cell? ⟨w.heap.size, 1, none⟩ = some (.string (tx b)) := by simp
    go_enter Tryz.func9, Tryz.ntmps9
    go_wp2_with fail
    refine (d1.out _).mono ?_
    rintro e w1 ⟨rfl, B1⟩
    have k1 := (B1.cell (p := ⟨w.heap.size, 1, none⟩) (lt_of_cell c1)).trans c1
    go_wp2_with fail
    refine (d2.out _).mono ?_
    rintro e w2 ⟨rfl, B2⟩
    go_wp2
    go_ret
    exact ⟨by rw [HF.out]; rfl, (BX.trans (B1.mono BX.size)).trans (B2.mono (BX.trans (B1.mono BX.size)).size)⟩
set_option maxRecDepth 100000 in
theorem rgen_name (b : List UInt8) (hb : b.length ≤ 1048576) (w : World) : genP 4 b w := by
  obtain ⟨cap, w1, hcv, s1, B1⟩ := conv_any (tx b) (by rw [tx_size]; exact hb) (w.alloc (.cells #[.int .i64 4, .string (tx b)] 23))
  have hz : (w.alloc (.cells #[.int .i64 4, .string (tx b)] 23)).heap.size = w.heap.size + 1 := by simp
  rw [hz] at hcv s1
  have d1 := hide (rdecode_any _ _ _ _ w1 s1 (by rw [tx_size]; exact hb))
  rw [tx_list] at d1
  have HW : Hid (mayG 4 b = decide (ansE (nums b) = 0)) := rfl
  have HB := hide ((nbelowW w (.cells #[.int .i64 4, .string (tx b)] 23)).trans (B1.mono (nbelowW w (.cells #[.int .i64 4, .string (tx b)] 23)).size))
  clear B1 s1
  generalize ansE (nums b) = E at *
  generalize ansN (nums b) = A at *
  unfold genP
  have BX := nbelowW w (.cells #[.int .i64 4, .string (tx b)] 23)
  have c1 : (w.alloc (.cells #[.int .i64 4, .string (tx b)] 23)).cell? ⟨w.heap.size, 1, none⟩ = some (.string (tx b)) := by simp
  go_enter Tryz.func9, Tryz.ntmps9
  go_wp2_with fail
  refine d1.out.mono ?_
  rintro e w2 ⟨a2, m2, c2, rfl, _, B2⟩
  have hq : (E == 0) = decide (E = 0) := by by_cases h : E = 0 <;> simp [h]
  have HB2 := hide (HB.out.trans (B2.mono HB.out.size))
  clear d1 B2 HB
  go_wp2
  go_ret
  exact ⟨by rw [HW.out, ← hq]; rfl, HB2.out⟩
set_option maxRecDepth 100000 in
theorem rgen_ip (b : List UInt8) (w : World) : genP 7 b w := by
  have d1 := hide (fun W => refIP_any b W)
  have hF : Hid (mayG 7 b = ipL b) := rfl
  generalize ipL b = D at *
  unfold genP
  have BX := nbelowW w (.cells #[.int .i64 7, .string (tx b)] 23)
  have c1 : (w.alloc (.cells #[.int .i64 7, .string (tx b)] 23)).cell? ⟨w.heap.size, 1, none⟩ = some (.string (tx b)) := by simp
  go_enter Tryz.func9, Tryz.ntmps9
  go_wp2_with fail
  refine (d1.out _).mono ?_
  rintro e w1 ⟨rfl, rfl⟩
  go_wp2
  go_ret
  exact ⟨by rw [hF.out]; rfl, BX⟩
set_option maxRecDepth 100000 in
theorem rgen_else {k : Int} (h1 : k ≠ 1) (h2 : k ≠ 2) (h3 : k ≠ 4) (h4 : k ≠ 7) (b : List UInt8) (w : World) : genP k b w := by
  have hF : Hid (mayG k b = false) := by unfold Hid mayG hmay; rw [if_neg h1, if_neg h2, if_neg h3, if_neg h4]
  have e1 : (k == 1) = false := by simpa using h1
  have e2 : (k == 2) = false := by simpa using h2
  have e3 : (k == 4) = false := by simpa using h3
  have e4 : (k == 7) = false := by simpa using h4
  unfold genP
  have BX := nbelowW w (.cells #[.int .i64 k, .string (tx b)] 23)
  have c1 : (w.alloc (.cells #[.int .i64 k, .string (tx b)] 23)).cell? ⟨w.heap.size, 1, none⟩ = some (.string (tx b)) := by simp
  go_enter Tryz.func9, Tryz.ntmps9
  go_wp2
  go_ret
  exact ⟨by rw [hF.out]; rfl, BX⟩
theorem rgen_any (k : Int) (b : List UInt8) (hb : b.length ≤ 1048576) (w : World) : genP k b w := by
  by_cases h1 : k = 1
  · subst h1; exact rgen_mail b hb w
  by_cases h2 : k = 2
  · subst h2; exact rgen_dns b hb w
  by_cases h3 : k = 4
  · subst h3; exact rgen_name b hb w
  by_cases h4 : k = 7
  · subst h4; exact rgen_ip b w
  exact rgen_else h1 h2 h3 h4 b w

end Go.Proofs.YthnfhkmonfkceaaGreatDoor
