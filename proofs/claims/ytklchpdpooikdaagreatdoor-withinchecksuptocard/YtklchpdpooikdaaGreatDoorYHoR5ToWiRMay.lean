/-
  The document's host: mail addresses, as a call.
  The document's May of a subtree, as a call.
-/
import Derived.Test.YtklchpdpooikdaaGreatDoorYWiRBitToHoR4
import Derived.Test.YtklchpdpooikdaaGreatDoorYNmGueToNmDec
import Derived.Test.YtklchpdpooikdaaGreatDoorYHoNmToWiChkW
namespace Go.Proofs.YtklchpdpooikdaaGreatDoor
open Go.RowKit Go.IntWalk

def MRel (s : ByteArray) (k i : Nat) : Prop := ∃ p, locS true (s.data.toList.take k) = locS p ((s.data.toList.take k).drop i) ∧ (p = true → ∀ h : i < s.size, i < k → (s[i]'h) ≠ 46) ∧ (i = k → p = false)
theorem mrel_start (s : ByteArray) (k : Nat) (hk : 0 < k) (h0 : ∀ h : 0 < s.size, (s[0]'h) ≠ 46) : MRel s k 0 := ⟨true, rfl, fun _ h _ => h0 h, fun e => by omega⟩
theorem take_at (s : ByteArray) (k i : Nat) (hk : k ≤ s.size) (hi : i < k) : ∃ h : i < (s.data.toList.take k).length, (s.data.toList.take k)[i]'h = s[i]'(by omega) := by
  have hl : i < (s.data.toList.take k).length := by rw [List.length_take, sizeH_len]; omega
  refine ⟨hl, ?_⟩
  rw [List.getElem_take, getH_list s i (by omega)]
theorem mrel_step (s : ByteArray) (k i : Nat) (hk : k ≤ s.size) (hi : i < k) (h : MRel s k i) (hc : (s[i]'(by omega)) ≠ 46) (hn : locN (s[i]'(by omega)).toNat = true) : MRel s k (i + 1) := by
  obtain ⟨p, h1, h2, h3⟩ := h
  obtain ⟨hl, he⟩ := take_at s k i hk hi
  rw [locS_at p _ i hl, he, if_neg hc, hn, Bool.true_and] at h1
  exact ⟨false, h1, fun e => (by cases e), fun _ => rfl⟩
theorem mrel_bad (s : ByteArray) (k i : Nat) (hk : k ≤ s.size) (hi : i < k) (h : MRel s k i) (hc : (s[i]'(by omega)) ≠ 46) (hn : locN (s[i]'(by omega)).toNat = false) : locS true (s.data.toList.take k) = false := by
  obtain ⟨p, h1, h2, h3⟩ := h
  obtain ⟨hl, he⟩ := take_at s k i hk hi
  rw [locS_at p _ i hl, he, if_neg hc, hn, Bool.false_and] at h1
  exact h1
theorem mrel_dot (s : ByteArray) (k i : Nat) (hk : k < s.size) (hi : i < k) (h : MRel s k i) (hc : (s[i]'(by omega)) = 46) (hl1 : (s[k - 1]'(by omega)) ≠ 46) (hd : (s[i + 1]'(by omega)) ≠ 46) : MRel s k (i + 1) := by
  obtain ⟨p, h1, h2, h3⟩ := h
  obtain ⟨hl, he⟩ := take_at s k i (by omega) hi
  have hp : p = false := by
    cases p with
    | false => rfl
    | true => exact absurd hc (h2 rfl (by omega) hi)
  subst hp
  rw [locS_at false _ i hl, he, if_pos hc] at h1
  refine ⟨true, h1, fun _ h _ => hd, fun e => ?_⟩
  exfalso
  apply hl1
  rw [← hc]
  congr 1
  omega
theorem mrel_dots (s : ByteArray) (k i : Nat) (hk : k < s.size) (hi : i < k) (h : MRel s k i) (hc : (s[i]'(by omega)) = 46) (ha : (s[k]'hk) = 64) (hd : (s[i + 1]'(by omega)) = 46) : locS true (s.data.toList.take k) = false := by
  obtain ⟨p, h1, h2, h3⟩ := h
  obtain ⟨hl, he⟩ := take_at s k i (by omega) hi
  have hi1 : i + 1 < k := by
    rcases Nat.lt_or_ge (i + 1) k with h | h
    · exact h
    · exfalso
      have e : i + 1 = k := by omega
      have e2 : (s[i + 1]'(by omega)) = (s[k]'hk) := by congr 1
      rw [hd, ha] at e2
      exact absurd e2 (by decide)
  obtain ⟨hl2, he2⟩ := take_at s k (i + 1) (by omega) hi1
  rw [locS_at p _ i hl, he, if_pos hc, locS_at true _ (i + 1) hl2, he2, if_pos hd] at h1
  rw [h1]; simp
theorem mrel_end (s : ByteArray) (k : Nat) (h : MRel s k k) : locS true (s.data.toList.take k) = true := by
  obtain ⟨p, h1, h2, h3⟩ := h
  rw [h1, h3 rfl, List.drop_eq_nil_of_le (by rw [List.length_take]; omega)]
  rfl

theorem mail_none (s : ByteArray) (h : ∀ (i : Nat) (hi : i < s.size), (s[i]'hi) ≠ 64) : mailL s.data.toList = false := by
  unfold mailL
  rw [cutD_none 64 _ (fun i hi => by rw [getH_list s i (by rw [← sizeH_len]; exact hi)]; exact h i _), dnsL_nil, Bool.and_false]
theorem mail_at (s : ByteArray) (k : Nat) (hk : k < s.size) (h : ∀ (i : Nat) (hi : i < s.size), i < k → (s[i]'hi) ≠ 64) (ha : (s[k]'hk) = 64) : mailL s.data.toList = ((decide (k ≤ 64) && locS true (s.data.toList.take k)) && dnsL (s.data.toList.drop (k + 1))) := by
  have hl : k < s.data.toList.length := by rw [sizeH_len]; exact hk
  obtain ⟨h1, h2⟩ := cutD_at 64 s.data.toList k (fun i hi hik => by rw [getH_list s i (by omega)]; exact h i _ hik) hl (by rw [getH_list s k hk]; exact ha)
  unfold mailL
  rw [locL_S, h1, h2, List.length_take, Nat.min_eq_left (by omega)]

theorem ne_num (x y : UInt8) (h : x ≠ y) : ((x.toNat : Int) == (y.toNat : Int)) = false := by
  rw [beq_eq_false_iff_ne]
  intro e
  exact h (UInt8.toNat_inj.1 (by omega))

set_option maxRecDepth 100000 in
set_option maxHeartbeats 8000000 in
theorem refEmail_any (s : ByteArray) (hs : s.size ≤ 1048576) (w : World) : Calls Tryz.prog 34 #[.string s] w fun e w' => e = .returned (.bool (mailL s.data.toList)) ∧ Below w.heap.size w w' := by
  go_enter Tryz.func34, Tryz.ntmps34
  go_wp2
  go_loop [3] (fun i => ∃ k : Nat, i = .int .i64 k ∧ k ≤ s.size ∧ Hid (∀ (i : Nat) (hi : i < s.size), i < k → (s[i]'hi) ≠ 64)) (fun i => s.size - (intOf i).toNat)
  case atStart => exact ⟨0, rfl, Nat.zero_le _, fun _ _ h => by omega⟩
  case round =>
    obtain ⟨k, rfl, hk, HK⟩ := hrel
    by_cases hlt : k < s.size
    · have hltI : (k : Int) < (s.size : Int) := by omega
      by_cases hat : (s[k]'hlt) = 64
      · have hat' : (((s[k]'hlt).toNat : Int) != 64) = false := by rw [hat]; rfl
        have HML := hide (mail_at s k hlt HK.out hat)
        have hke : ((k : Int) == (s.size : Int)) = false := by simp; omega
        by_cases hk1 : k < 1
        · have hk1I : (k : Int) < 1 := by omega
          have ht0 : s.data.toList.take k = [] := by rw [show k = 0 by omega]; rfl
          have hF : Hid (mailL s.data.toList = false) := by unfold Hid; rw [HML.out, ht0, show locS true [] = false from rfl]; simp
          clear HK
          go_wp2
          go_ret
          exact ⟨by rw [hF.out]; rfl, Below.refl _ _⟩
        have hk1I : ¬ (k : Int) < 1 := by omega
        by_cases hk64 : 64 < k
        · have hk64I : (64 : Int) < (k : Int) := by omega
          have hF : Hid (mailL s.data.toList = false) := by unfold Hid; rw [HML.out, decide_eq_false (show ¬ k ≤ 64 by omega)]; simp
          clear HK
          go_wp2
          go_ret
          exact ⟨by rw [hF.out]; rfl, Below.refl _ _⟩
        have hk64I : ¬ (64 : Int) < (k : Int) := by omega
        have h0s : 0 < s.size := by omega
        have h0sI : (0 : Int) < (s.size : Int) := by omega
        by_cases hz0 : (s[0]'h0s) = 46
        · have hz0' : (((s[0]'h0s).toNat : Int) == 46) = true := by rw [hz0]; rfl
          obtain ⟨ht1, ht2⟩ := take_at s k 0 (by omega) (by omega)
          have hl0 : locS true (s.data.toList.take k) = false := by
            have h := locS_at true (s.data.toList.take k) 0 ht1
            rw [ht2, if_pos hz0] at h
            exact h
          have hF : Hid (mailL s.data.toList = false) := by unfold Hid; rw [HML.out, hl0]; simp
          clear HK
          go_wp2
          go_ret
          exact ⟨by rw [hF.out]; rfl, Below.refl _ _⟩
        have hz0' : (((s[0]'h0s).toNat : Int) == 46) = false := ne_num _ 46 hz0
        have hkm : k - 1 < s.size := by omega
        have hkmI : (k : Int) - 1 < (s.size : Int) := by omega
        have hkmJ : (0 : Int) ≤ (k : Int) - 1 := by omega
        by_cases hz1 : (s[k - 1]'hkm) = 46
        · have hz1' : (((s[k - 1]'hkm).toNat : Int) == 46) = true := by rw [hz1]; rfl
          have hl0 : locS true (s.data.toList.take k) = false := by
            cases hq : locS true (s.data.toList.take k) with
            | false => rfl
            | true =>
              exfalso
              obtain ⟨ht1, ht2⟩ := take_at s k (k - 1) (by omega) (by omega)
              have hlen : (s.data.toList.take k).length = k := by rw [List.length_take, sizeH_len]; omega
              refine locS_last _ _ hq (by rw [hlen]; omega) ?_
              rw [← hz1, ← ht2]
              congr 1
              omega
          have hF : Hid (mailL s.data.toList = false) := by unfold Hid; rw [HML.out, hl0]; simp
          clear HK
          go_wp2
          go_ret
          exact ⟨by rw [hF.out]; rfl, Below.refl _ _⟩
        have hz1' : (((s[k - 1]'hkm).toNat : Int) == 46) = false := ne_num _ 46 hz1
        have hr0 := hide (mrel_start s k (by omega) (fun _ => hz0))
        replace HML : Hid (mailL s.data.toList = (locS true (s.data.toList.take k) && dnsL (s.data.toList.drop (k + 1)))) := by unfold Hid; rw [HML.out, decide_eq_true (show k ≤ 64 by omega), Bool.true_and]
        have Hz1 := hide hz1
        have Hat := hide hat
        clear hz1 hz0 hat HK
        go_wp2
        go_loop [4] (fun j => ∃ i : Nat, j = .int .i64 i ∧ i ≤ k ∧ Hid (MRel s k i)) (fun j => k - (intOf j).toNat)
        case atStart => exact ⟨0, rfl, Nat.zero_le _, hr0⟩
        case round =>
          obtain ⟨i, rfl, hi, HM⟩ := hrel
          by_cases hik : i < k
          · have hikI : (i : Int) < (k : Int) := by omega
            have his : i < s.size := by omega
            have hisI : (i : Int) < (s.size : Int) := by omega
            have hlt0 := hide (fun W => letter_any (s[i]'his).toNat W)
            have hdg := hide (fun W => digit_any (s[i]'his).toNat W)
            by_cases hc46 : (s[i]'his) = 46
            · have hc46' : (((s[i]'his).toNat : Int) == 46) = true := by rw [hc46]; rfl
              have hc46n : (((s[i]'his).toNat : Int) != 46) = false := by rw [hc46]; rfl
              have e1 : ltN (s[i]'his).toNat = false := by rw [hc46]; decide
              have e2 : digN (s[i]'his).toNat = false := by rw [hc46]; decide
              rw [e1] at hlt0
              rw [e2] at hdg
              have hi1s : i + 1 < s.size := by omega
              have hi1I : (i : Int) + 1 < (s.size : Int) := by omega
              by_cases hd : (s[i + 1]'hi1s) = 46
              · have hd' : (((s[i + 1]'hi1s).toNat : Int) == 46) = true := by rw [hd]; rfl
                have hF : Hid (mailL s.data.toList = false) := by unfold Hid; rw [HML.out, mrel_dots s k i hlt hik HM.out hc46 Hat.out hd]; simp
                clear hc46 hd e1 e2
                go_wp2_with (first | (go_at_call 54; refine (hlt0.out _).mono ?_; rintro e w1 ⟨rfl, hw1⟩; subst hw1) | (go_at_call 55; refine (hdg.out _).mono ?_; rintro e w2 ⟨rfl, hw2⟩; subst hw2))
                go_ret
                exact ⟨by rw [hF.out]; rfl, Below.refl _ _⟩
              · have hd' : (((s[i + 1]'hi1s).toNat : Int) == 46) = false := ne_num _ 46 hd
                have hM := hide (mrel_dot s k i hlt hik HM.out hc46 Hz1.out hd)
                clear hc46 hd e1 e2
                go_wp2_with (first | (go_at_call 54; refine (hlt0.out _).mono ?_; rintro e w1 ⟨rfl, hw1⟩; subst hw1) | (go_at_call 55; refine (hdg.out _).mono ?_; rintro e w2 ⟨rfl, hw2⟩; subst hw2))
                go_round
                case rel => exact ⟨i + 1, by simp, by omega, hM⟩
                case measure => simp [intOf]; omega
            · have hc46' : (((s[i]'his).toNat : Int) == 46) = false := ne_num _ 46 hc46
              have hc46n : (((s[i]'his).toNat : Int) != 46) = true := by unfold bne; rw [hc46']; rfl
              have hsp := locN_split (s[i]'his).toNat
              generalize ltN (s[i]'his).toNat = L at hlt0 hsp
              generalize digN (s[i]'his).toNat = G at hdg hsp
              cases L with
              | true =>
                have hn : locN (s[i]'his).toNat = true := by rw [hsp]; simp
                clear hsp
                have hM := hide (mrel_step s k i (by omega) hik HM.out hc46 hn)
                clear hn hc46
                go_wp2_with (first | (go_at_call 54; refine (hlt0.out _).mono ?_; rintro e w1 ⟨rfl, hw1⟩; subst hw1) | (go_at_call 55; refine (hdg.out _).mono ?_; rintro e w2 ⟨rfl, hw2⟩; subst hw2))
                go_round
                case rel => exact ⟨i + 1, by simp, by omega, hM⟩
                case measure => simp [intOf]; omega
              | false =>
                cases G with
                | true =>
                  have hn : locN (s[i]'his).toNat = true := by rw [hsp]; simp
                  clear hsp
                  have hM := hide (mrel_step s k i (by omega) hik HM.out hc46 hn)
                  clear hn hc46
                  go_wp2_with (first | (go_at_call 54; refine (hlt0.out _).mono ?_; rintro e w1 ⟨rfl, hw1⟩; subst hw1) | (go_at_call 55; refine (hdg.out _).mono ?_; rintro e w2 ⟨rfl, hw2⟩; subst hw2))
                  go_round
                  case rel => exact ⟨i + 1, by simp, by omega, hM⟩
                  case measure => simp [intOf]; omega
                | false =>
                  by_cases h95 : (s[i]'his).toNat = 95
                  · have h95n : (((s[i]'his).toNat : Int) != 95) = false := by rw [h95]; rfl
                    have hn : locN (s[i]'his).toNat = true := by rw [hsp, decide_eq_true h95]; rfl
                    clear hsp h95
                    have hM := hide (mrel_step s k i (by omega) hik HM.out hc46 hn)
                    clear hn hc46
                    go_wp2_with (first | (go_at_call 54; refine (hlt0.out _).mono ?_; rintro e w1 ⟨rfl, hw1⟩; subst hw1) | (go_at_call 55; refine (hdg.out _).mono ?_; rintro e w2 ⟨rfl, hw2⟩; subst hw2))
                    go_round
                    case rel => exact ⟨i + 1, by simp, by omega, hM⟩
                    case measure => simp [intOf]; omega
                  have h95n : (((s[i]'his).toNat : Int) != 95) = true := by simp; omega
                  by_cases h43 : (s[i]'his).toNat = 43
                  · have h43n : (((s[i]'his).toNat : Int) != 43) = false := by rw [h43]; rfl
                    have hn : locN (s[i]'his).toNat = true := by rw [hsp, decide_eq_true h43]; simp
                    clear hsp h43 h95
                    have hM := hide (mrel_step s k i (by omega) hik HM.out hc46 hn)
                    clear hn hc46
                    go_wp2_with (first | (go_at_call 54; refine (hlt0.out _).mono ?_; rintro e w1 ⟨rfl, hw1⟩; subst hw1) | (go_at_call 55; refine (hdg.out _).mono ?_; rintro e w2 ⟨rfl, hw2⟩; subst hw2))
                    go_round
                    case rel => exact ⟨i + 1, by simp, by omega, hM⟩
                    case measure => simp [intOf]; omega
                  have h43n : (((s[i]'his).toNat : Int) != 43) = true := by simp; omega
                  by_cases h45 : (s[i]'his).toNat = 45
                  · have h45n : (((s[i]'his).toNat : Int) != 45) = false := by rw [h45]; rfl
                    have hn : locN (s[i]'his).toNat = true := by rw [hsp, decide_eq_true h45]; simp
                    clear hsp h43 h95 h45
                    have hM := hide (mrel_step s k i (by omega) hik HM.out hc46 hn)
                    clear hn hc46
                    go_wp2_with (first | (go_at_call 54; refine (hlt0.out _).mono ?_; rintro e w1 ⟨rfl, hw1⟩; subst hw1) | (go_at_call 55; refine (hdg.out _).mono ?_; rintro e w2 ⟨rfl, hw2⟩; subst hw2))
                    go_round
                    case rel => exact ⟨i + 1, by simp, by omega, hM⟩
                    case measure => simp [intOf]; omega
                  · have h45n : (((s[i]'his).toNat : Int) != 45) = true := by simp; omega
                    have hn : locN (s[i]'his).toNat = false := by rw [hsp, decide_eq_false h95, decide_eq_false h43, decide_eq_false h45]; rfl
                    clear hsp h43 h95 h45
                    have hF : Hid (mailL s.data.toList = false) := by unfold Hid; rw [HML.out, mrel_bad s k i (by omega) hik HM.out hc46 hn]; simp
                    clear hn hc46
                    go_wp2_with (first | (go_at_call 54; refine (hlt0.out _).mono ?_; rintro e w1 ⟨rfl, hw1⟩; subst hw1) | (go_at_call 55; refine (hdg.out _).mono ?_; rintro e w2 ⟨rfl, hw2⟩; subst hw2))
                    go_ret
                    exact ⟨by rw [hF.out]; rfl, Below.refl _ _⟩
          · obtain rfl : i = k := by omega
            have hikI : ¬ (i : Int) < (i : Int) := by omega
            have hdl : (s.data.toList.drop (i + 1)).length ≤ s.size := by rw [List.length_drop, sizeH_len]; omega
            have hD := hide (fun W => refDNS_any (tx (s.data.toList.drop (i + 1))) (by rw [tx_size]; omega) W)
            rw [tx_list] at hD
            have hF : Hid (mailL s.data.toList = dnsL (s.data.toList.drop (i + 1))) := by unfold Hid; rw [HML.out, mrel_end s i HM.out, Bool.true_and]
            have hi1I : (i : Int) + 1 ≤ (s.size : Int) := by omega
            have sl2 : ∀ X, (Instr.slice 9 (.string s) (some (.int .i64 ((i : Int) + 1))) none none).run Tryz.prog X = .ok (.string (tx (s.data.toList.drop (i + 1)))) X := fun X => by
              have h := run_slice_string_from_if (P := Tryz.prog) (w := X) 9 s .i64 ((i : Int) + 1) Tryz.underlying9
              rw [h, if_pos (by omega), show ((i : Int) + 1).toNat = i + 1 by omega, cut_textH]
              unfold cutH
              rw [List.take_of_length_le (by rw [sizeH_len]; exact Nat.le_refl _)]
            generalize s.data.toList.drop (i + 1) = t at hD hF sl2
            clear hdl
            go_wp2_with (go_at_call 35; refine (hD.out _).mono ?_; rintro e w3 ⟨rfl, B3⟩)
            go_ret
            exact ⟨by rw [hF.out]; rfl, B3⟩
      · have hat0 : (((s[k]'hlt).toNat : Int) == 64) = false := ne_num _ 64 hat
        have hat' : (((s[k]'hlt).toNat : Int) != 64) = true := by unfold bne; rw [hat0]; rfl
        clear hat0
        have HK2 : Hid (∀ (i : Nat) (hi : i < s.size), i < k + 1 → (s[i]'hi) ≠ 64) := fun i hi hik => by
          by_cases h : i = k
          · subst h; exact hat
          · exact HK.out i hi (by omega)
        clear hat HK
        go_wp2
        go_round
        case rel => exact ⟨k + 1, by simp, by omega, HK2⟩
        case measure => simp [intOf]; omega
    · obtain rfl : k = s.size := by omega
      have hltI : ¬ (s.size : Int) < (s.size : Int) := by omega
      have hke : ((s.size : Int) == (s.size : Int)) = true := by simp
      have hF : Hid (mailL s.data.toList = false) := mail_none s (fun i hi => HK.out i hi hi)
      clear HK
      go_wp2
      go_ret
      exact ⟨by rw [hF.out]; rfl, Below.refl _ _⟩

end Go.Proofs.YtklchpdpooikdaaGreatDoor

namespace Go.Proofs.YtklchpdpooikdaaGreatDoor
open Go.RowKit Go.Shelf Go.IntWalk

theorem mayW_seven (b : List UInt8) : mayW 7 b = isNetL b := rfl
theorem mayW_else {k : Int} (h1 : k ≠ 1) (h2 : k ≠ 2) (h3 : k ≠ 4) (h4 : k ≠ 7) (b : List UInt8) : mayW k b = false := by
  have h : ¬ rAt k < 4 := by unfold rAt; rw [if_neg h1, if_neg h2, if_neg h3, if_neg h4]; decide
  unfold mayW
  rw [decide_eq_false h]; rfl
theorem sl_tx (b : List UInt8) (h : Nat) (hh : h ≤ b.length) (X : World) : (Instr.slice 9 (.string (tx b)) (some (.int .i64 (h : Int))) none none).run Tryz.prog X = .ok (.string (tx (b.drop h))) X := by
  have h1 := run_slice_string_l (P := Tryz.prog) X 9 (tx b) Tryz.underlying9 .i64 (h : Int) (by omega) (by rw [tx_size]; omega)
  have e : cutH (tx b).data.toList h (tx b).size = b.drop h := by unfold cutH; rw [tx_list, tx_size, List.take_of_length_le (Nat.le_refl _)]
  rw [h1, ← e, ← cut_textH]; simp

def mayP (k : Int) (b : List UInt8) (w : World) : Prop := Calls Tryz.prog 25 #[.agg #[.int .i64 k, .string (tx b)]] w fun e w' => e = .returned (.bool (mayW k b)) ∧ Below w.heap.size w w'
set_option maxRecDepth 100000 in
theorem rmay_dot (b r : List UInt8) (hbr : b = 46 :: r) (hb : b.length ≤ 1048576) (w : World) : mayP 1 b w := by
  have hl : b.length = r.length + 1 := by rw [hbr]; rfl
  have d1 := hide (fun W => refDNS_any (tx r) (by rw [tx_size]; omega) W)
  rw [tx_list] at d1
  have s1 : ∀ X, (Instr.slice 9 (.string (tx b)) (some (.int .i64 1)) none none).run Tryz.prog X = .ok (.string (tx r)) X := fun X => by
    have h := sl_tx b 1 (by omega) X
    rw [show b.drop 1 = r by rw [hbr]; rfl] at h
    exact h
  have hF : Hid (mayW 1 b = dnsL r) := by rw [hbr]; exact isMail_dot r
  have hx0 : 0 < (tx b).size := by rw [tx_size]; omega
  have hxe : ((((tx b)[0]'hx0).toNat : Int) == 46) = true := by
    have e : ((tx b)[0]'hx0) = b.getD 0 0 := get_tx b 0 hx0
    rw [e, hbr]
    rfl
  have hxI : (0 : Int) < ((tx b).size : Int) := by omega
  generalize dnsL r = D at *
  clear hbr hl
  unfold mayP
  have BX := nbelowW w (.cells #[.int .i64 1, .string (tx b)] 36)
  have c1 : (w.alloc (.cells #[.int .i64 1, .string (tx b)] 36)).cell? ⟨w.heap.size, 1, none⟩ = some (.string (tx b)) := by simp
  go_enter Tryz.func25, Tryz.ntmps25
  go_wp2_with fail
  refine (d1.out _).mono ?_
  rintro e w1 ⟨rfl, B1⟩
  go_wp2
  go_ret
  exact ⟨by rw [hF.out]; rfl, BX.trans (B1.mono BX.size)⟩
set_option maxRecDepth 100000 in
theorem rmay_mail (b : List UInt8) (hb : b.length ≤ 1048576) (h46 : ∀ r, b ≠ 46 :: r) (w : World) : mayP 1 b w := by
  have d1 := hide (fun W => refEmail_any (tx b) (by rw [tx_size]; exact hb) W)
  have d2 := hide (fun W => refDNS_any (tx b) (by rw [tx_size]; exact hb) W)
  rw [tx_list] at d1 d2
  have hF : mayW 1 b = (mailL b || dnsL b) := isMail_not h46
  by_cases h0 : b.length = 0
  · have hxI : ¬ (0 : Int) < ((tx b).size : Int) := by rw [tx_size]; omega
    clear h46 h0
    cases hm : mailL b with
    | true =>
      rw [hm] at d1 hF
      have HF := hide hF
      clear hF hm
      unfold mayP
      have BX := nbelowW w (.cells #[.int .i64 1, .string (tx b)] 36)
      have c1 : (w.alloc (.cells #[.int .i64 1, .string (tx b)] 36)).cell? ⟨w.heap.size, 1, none⟩ = some (.string (tx b)) := by simp
      go_enter Tryz.func25, Tryz.ntmps25
      go_wp2_with fail
      refine (d1.out _).mono ?_
      rintro e w1 ⟨rfl, B1⟩
      go_wp2
      go_ret
      exact ⟨by rw [HF.out]; rfl, BX.trans (B1.mono BX.size)⟩
    | false =>
      rw [hm] at d1 hF
      have HF := hide hF
      clear hF hm
      generalize dnsL b = D at *
      unfold mayP
      have BX := nbelowW w (.cells #[.int .i64 1, .string (tx b)] 36)
      have c1 : (w.alloc (.cells #[.int .i64 1, .string (tx b)] 36)).cell? ⟨w.heap.size, 1, none⟩ = some (.string (tx b)) := by simp
      go_enter Tryz.func25, Tryz.ntmps25
      go_wp2_with fail
      refine (d1.out _).mono ?_
      rintro e w1 ⟨rfl, B1⟩
      have k1 := (B1.cell (p := ⟨w.heap.size, 1, none⟩) (lt_of_cell c1)).trans c1
      go_wp2_with fail
      refine (d2.out _).mono ?_
      rintro e w2 ⟨rfl, B2⟩
      go_wp2
      go_ret
      exact ⟨by rw [HF.out]; rfl, (BX.trans (B1.mono BX.size)).trans (B2.mono (BX.trans (B1.mono BX.size)).size)⟩
  · have hx0 : 0 < (tx b).size := by rw [tx_size]; omega
    have hxI : (0 : Int) < ((tx b).size : Int) := by omega
    have hxe : ((((tx b)[0]'hx0).toNat : Int) == 46) = false := by
      cases b with
      | nil => exact absurd rfl h0
      | cons x r =>
        refine beq_eq_false_iff_ne.2 (fun e => h46 r ?_)
        have e2 : x.toNat = 46 := by
          have e4 : ((tx (x :: r))[0]'hx0) = (x :: r).getD 0 0 := get_tx (x :: r) 0 hx0
          have e3 : ((tx (x :: r))[0]'hx0).toNat = x.toNat := by rw [e4]; rfl
          omega
        rw [show x = 46 from UInt8.toNat_inj.1 e2]
    clear h46 h0
    cases hm : mailL b with
    | true =>
      rw [hm] at d1 hF
      have HF := hide hF
      clear hF hm
      unfold mayP
      have BX := nbelowW w (.cells #[.int .i64 1, .string (tx b)] 36)
      have c1 : (w.alloc (.cells #[.int .i64 1, .string (tx b)] 36)).cell? ⟨w.heap.size, 1, none⟩ = some (.string (tx b)) := by simp
      go_enter Tryz.func25, Tryz.ntmps25
      go_wp2_with fail
      refine (d1.out _).mono ?_
      rintro e w1 ⟨rfl, B1⟩
      go_wp2
      go_ret
      exact ⟨by rw [HF.out]; rfl, BX.trans (B1.mono BX.size)⟩
    | false =>
      rw [hm] at d1 hF
      have HF := hide hF
      clear hF hm
      generalize dnsL b = D at *
      unfold mayP
      have BX := nbelowW w (.cells #[.int .i64 1, .string (tx b)] 36)
      have c1 : (w.alloc (.cells #[.int .i64 1, .string (tx b)] 36)).cell? ⟨w.heap.size, 1, none⟩ = some (.string (tx b)) := by simp
      go_enter Tryz.func25, Tryz.ntmps25
      go_wp2_with fail
      refine (d1.out _).mono ?_
      rintro e w1 ⟨rfl, B1⟩
      have k1 := (B1.cell (p := ⟨w.heap.size, 1, none⟩) (lt_of_cell c1)).trans c1
      go_wp2_with fail
      refine (d2.out _).mono ?_
      rintro e w2 ⟨rfl, B2⟩
      go_wp2
      go_ret
      exact ⟨by rw [HF.out]; rfl, (BX.trans (B1.mono BX.size)).trans (B2.mono (BX.trans (B1.mono BX.size)).size)⟩
set_option maxRecDepth 100000 in
theorem rmay_dns (b : List UInt8) (hb : b.length ≤ 1048576) (w : World) : mayP 2 b w := by
  have d2 := hide (fun W => refDNS_any (tx b) (by rw [tx_size]; exact hb) W)
  rw [tx_list] at d2
  have hF : Hid (mayW 2 b = dnsL b) := rfl
  generalize dnsL b = D at *
  unfold mayP
  have BX := nbelowW w (.cells #[.int .i64 2, .string (tx b)] 36)
  have c1 : (w.alloc (.cells #[.int .i64 2, .string (tx b)] 36)).cell? ⟨w.heap.size, 1, none⟩ = some (.string (tx b)) := by simp
  go_enter Tryz.func25, Tryz.ntmps25
  go_wp2_with fail
  refine (d2.out _).mono ?_
  rintro e w2 ⟨rfl, B2⟩
  go_wp2
  go_ret
  exact ⟨by rw [hF.out]; rfl, BX.trans (B2.mono BX.size)⟩
set_option maxRecDepth 100000 in
theorem rmay_name (b : List UInt8) (hb : b.length ≤ 1048576) (w : World) : mayP 4 b w := by
  obtain ⟨cap, w1, hcv, s1, B1⟩ := conv_any (tx b) (by rw [tx_size]; exact hb) (w.alloc (.cells #[.int .i64 4, .string (tx b)] 36))
  have hz : (w.alloc (.cells #[.int .i64 4, .string (tx b)] 36)).heap.size = w.heap.size + 1 := by simp
  rw [hz] at hcv s1
  have d1 := hide (rdecode_any _ _ _ _ w1 s1 (by rw [tx_size]; exact hb))
  rw [tx_list] at d1
  have HW : Hid (mayW 4 b = decide (ansE (nums b) = 0)) := rfl
  have HB := hide ((nbelowW w (.cells #[.int .i64 4, .string (tx b)] 36)).trans (B1.mono (nbelowW w (.cells #[.int .i64 4, .string (tx b)] 36)).size))
  clear B1 s1
  generalize ansE (nums b) = E at *
  generalize ansN (nums b) = A at *
  unfold mayP
  have BX := nbelowW w (.cells #[.int .i64 4, .string (tx b)] 36)
  have c1 : (w.alloc (.cells #[.int .i64 4, .string (tx b)] 36)).cell? ⟨w.heap.size, 1, none⟩ = some (.string (tx b)) := by simp
  go_enter Tryz.func25, Tryz.ntmps25
  go_wp2_with fail
  refine d1.out.mono ?_
  rintro e w2 ⟨a2, m2, c2, rfl, _, B2⟩
  have hq : (E == 0) = decide (E = 0) := by by_cases h : E = 0 <;> simp [h]
  have HB2 := hide (HB.out.trans (B2.mono HB.out.size))
  clear d1 B2 HB
  go_wp2
  go_ret
  exact ⟨by rw [HW.out, ← hq]; rfl, HB2.out⟩
theorem net_len {b : List UInt8} (h : isNetL b = true) : b.length = 8 ∨ b.length = 32 := by
  unfold isNetL at h
  rw [Bool.and_eq_true, Bool.and_eq_true, decide_eq_true_eq] at h
  obtain ⟨h1, h2, _⟩ := h
  rw [List.length_drop, List.length_take] at h2
  unfold ipL at h1
  rw [Bool.or_eq_true, decide_eq_true_eq, decide_eq_true_eq, List.length_take] at h1
  omega
theorem net_loop {b : List UInt8} {h : Nat} (hl : b.length = 2 * h) (h4 : h = 4 ∨ h = 16) : isNetL b = netG (b.take h) (b.drop h) 0 (8 * h) := by
  have e : b.length / 2 = h := by omega
  unfold isNetL ipL
  rw [e, List.length_drop, List.length_take, show min h b.length = h by omega, show b.length - h = h by omega]
  rcases h4 with rfl | rfl <;> simp
theorem bitN_on {l : List UInt8} {i : Nat} (h : bitB l i = true) : bitN l i = 1 := by unfold bitN; rw [if_pos h]
theorem bitN_off {l : List UInt8} {i : Nat} (h : bitB l i = false) : bitN l i = 0 := by unfold bitN; rw [if_neg (by rw [h]; decide)]
set_option maxRecDepth 100000 in
set_option maxHeartbeats 1000000 in
theorem rmay_net (b : List UInt8) (hb : b.length ≤ 1048576) (w : World) : mayP 7 b w := by
  by_cases h8 : b.length = 8
  · have hRn : Hid (isNetL b = netG (b.take 4) (b.drop 4) 0 (8 * 4)) := net_loop (by omega) (by decide)
    have hMl : (b.drop 4).length = 4 := by rw [List.length_drop]; omega
    have hF : Hid (mayW 7 b = isNetL b) := rfl
    have s1 : ∀ X, (Instr.slice 9 (.string (tx b)) (some (.int .i64 4)) none none).run Tryz.prog X = .ok (.string (tx (b.drop 4))) X := fun X => sl_tx b 4 (by omega) X
    have zi : ((tx b).size : Int) = 8 := by rw [tx_size]; omega
    have hbt : Hid (∀ i, i < 8 * 4 → bitB (b.take 4) i = bitB b i) := fun i hi => bit_take b 4 i hi
    generalize isNetL b = R at *
    generalize hM : b.drop 4 = M at *
    generalize hA : b.take 4 = A at *
    clear hM hA
    unfold mayP
    have BX := nbelowW w (.cells #[.int .i64 7, .string (tx b)] 36)
    have c1 : (w.alloc (.cells #[.int .i64 7, .string (tx b)] 36)).cell? ⟨w.heap.size, 1, none⟩ = some (.string (tx b)) := by simp
    go_enter Tryz.func25, Tryz.ntmps25
    go_wp2
    go_loop [6] (fun i => ∃ k : Nat, i = .int .i64 k ∧ k ≤ 8 * 4 ∧ Hid (R = netG A M k (8 * 4 - k))) (fun i => 8 * 4 - (intOf i).toNat)
    case atStart => exact ⟨0, rfl, Nat.zero_le _, hRn⟩
    case round =>
      obtain ⟨k, rfl, hk, hE⟩ := hrel
      by_cases hlt : k < 8 * 4
      · have ltI : (k : Int) < 8 * 4 := by omega
        have hst : netG A M k (8 * 4 - k) = (okB A M k && netG A M (k + 1) (8 * 4 - (k + 1))) := by
          rw [show 8 * 4 - k = (8 * 4 - (k + 1)) + 1 by omega, netG]
        have hEk := hE.out
        rw [hst, bad_ok, badB, hbt.out k hlt] at hEk
        have d1 := hide (fun W => rbit_any M k (by rw [hMl]; exact hlt) (by omega) W)
        have d3 := hide (fun W => rbit_any b k (by omega) hb W)
        clear hst hE
        cases hmk : bitB M k with
        | true =>
          rw [bitN_on hmk] at d1
          rw [hmk] at hEk
          by_cases hk0 : 0 < k
          · have k0I : (0 : Int) < (k : Int) := by omega
            have hkc : ((k - 1 : Nat) : Int) = (k : Int) - 1 := by omega
            have d2 := hide (fun W => rbit_any M (k - 1) (by rw [hMl]; omega) (by omega) W)
            unfold Hid at d2
            rw [hkc] at d2
            rw [decide_eq_true hk0] at hEk
            cases hmp : bitB M (k - 1) with
            | true =>
              rw [hmp] at hEk
              simp only [bitN_on hmp] at d2
              have D2 := hide d2
              have hE2 : Hid (R = netG A M (k + 1) (8 * 4 - (k + 1))) := by unfold Hid; rw [hEk]; rfl
              clear d2 hEk hmk hmp hkc
              go_wp2_with fail
              refine (d1.out _).mono ?_
              rintro e w2 ⟨rfl, rfl⟩
              go_wp2_with fail
              refine (D2.out _).mono ?_
              rintro e w2 ⟨rfl, rfl⟩
              go_wp2
              go_round
              case rel => exact ⟨k + 1, by go_num, by omega, hE2⟩
              case measure => simp [intOf]; omega
            | false =>
              rw [hmp] at hEk
              simp only [bitN_off hmp] at d2
              have D2 := hide d2
              have hE2 : Hid (R = false) := by unfold Hid; rw [hEk]; rfl
              clear d2 hEk hmk hmp hkc
              go_wp2_with fail
              refine (d1.out _).mono ?_
              rintro e w2 ⟨rfl, rfl⟩
              go_wp2_with fail
              refine (D2.out _).mono ?_
              rintro e w2 ⟨rfl, rfl⟩
              go_wp2
              go_ret
              exact ⟨by rw [hF.out, hE2.out]; rfl, BX⟩
          · have k0I : ¬ (0 : Int) < (k : Int) := by omega
            rw [decide_eq_false hk0] at hEk
            have hE2 : Hid (R = netG A M (k + 1) (8 * 4 - (k + 1))) := by unfold Hid; rw [hEk]; rfl
            clear hEk hmk
            go_wp2_with fail
            refine (d1.out _).mono ?_
            rintro e w2 ⟨rfl, rfl⟩
            go_wp2
            go_round
            case rel => exact ⟨k + 1, by go_num, by omega, hE2⟩
            case measure => simp [intOf]; omega
        | false =>
          rw [bitN_off hmk] at d1
          rw [hmk] at hEk
          cases hbk : bitB b k with
          | true =>
            rw [hbk] at hEk
            rw [bitN_on hbk] at d3
            have hE2 : Hid (R = false) := by unfold Hid; rw [hEk]; rfl
            clear hEk hmk hbk
            go_wp2_with fail
            refine (d1.out _).mono ?_
            rintro e w2 ⟨rfl, rfl⟩
            go_wp2_with fail
            refine (d3.out _).mono ?_
            rintro e w2 ⟨rfl, rfl⟩
            go_wp2
            go_ret
            exact ⟨by rw [hF.out, hE2.out]; rfl, BX⟩
          | false =>
            rw [hbk] at hEk
            rw [bitN_off hbk] at d3
            have hE2 : Hid (R = netG A M (k + 1) (8 * 4 - (k + 1))) := by unfold Hid; rw [hEk]; rfl
            clear hEk hmk hbk
            go_wp2_with fail
            refine (d1.out _).mono ?_
            rintro e w2 ⟨rfl, rfl⟩
            go_wp2_with fail
            refine (d3.out _).mono ?_
            rintro e w2 ⟨rfl, rfl⟩
            go_wp2
            go_round
            case rel => exact ⟨k + 1, by go_num, by omega, hE2⟩
            case measure => simp [intOf]; omega
      · have ltI : ¬ (k : Int) < 8 * 4 := by omega
        have hE2 : Hid (R = true) := by unfold Hid; rw [hE.out, show 8 * 4 - k = 0 by omega, netG]
        clear hE
        go_wp2
        go_ret
        exact ⟨by rw [hF.out, hE2.out]; rfl, BX⟩
  by_cases h32 : b.length = 32
  · have hRn : Hid (isNetL b = netG (b.take 16) (b.drop 16) 0 (8 * 16)) := net_loop (by omega) (by decide)
    have hMl : (b.drop 16).length = 16 := by rw [List.length_drop]; omega
    have hF : Hid (mayW 7 b = isNetL b) := rfl
    have s1 : ∀ X, (Instr.slice 9 (.string (tx b)) (some (.int .i64 16)) none none).run Tryz.prog X = .ok (.string (tx (b.drop 16))) X := fun X => sl_tx b 16 (by omega) X
    have zi : ((tx b).size : Int) = 32 := by rw [tx_size]; omega
    have hbt : Hid (∀ i, i < 8 * 16 → bitB (b.take 16) i = bitB b i) := fun i hi => bit_take b 16 i hi
    generalize isNetL b = R at *
    generalize hM : b.drop 16 = M at *
    generalize hA : b.take 16 = A at *
    clear hM hA
    unfold mayP
    have BX := nbelowW w (.cells #[.int .i64 7, .string (tx b)] 36)
    have c1 : (w.alloc (.cells #[.int .i64 7, .string (tx b)] 36)).cell? ⟨w.heap.size, 1, none⟩ = some (.string (tx b)) := by simp
    go_enter Tryz.func25, Tryz.ntmps25
    go_wp2
    go_loop [6] (fun i => ∃ k : Nat, i = .int .i64 k ∧ k ≤ 8 * 16 ∧ Hid (R = netG A M k (8 * 16 - k))) (fun i => 8 * 16 - (intOf i).toNat)
    case atStart => exact ⟨0, rfl, Nat.zero_le _, hRn⟩
    case round =>
      obtain ⟨k, rfl, hk, hE⟩ := hrel
      by_cases hlt : k < 8 * 16
      · have ltI : (k : Int) < 8 * 16 := by omega
        have hst : netG A M k (8 * 16 - k) = (okB A M k && netG A M (k + 1) (8 * 16 - (k + 1))) := by
          rw [show 8 * 16 - k = (8 * 16 - (k + 1)) + 1 by omega, netG]
        have hEk := hE.out
        rw [hst, bad_ok, badB, hbt.out k hlt] at hEk
        have d1 := hide (fun W => rbit_any M k (by rw [hMl]; exact hlt) (by omega) W)
        have d3 := hide (fun W => rbit_any b k (by omega) hb W)
        clear hst hE
        cases hmk : bitB M k with
        | true =>
          rw [bitN_on hmk] at d1
          rw [hmk] at hEk
          by_cases hk0 : 0 < k
          · have k0I : (0 : Int) < (k : Int) := by omega
            have hkc : ((k - 1 : Nat) : Int) = (k : Int) - 1 := by omega
            have d2 := hide (fun W => rbit_any M (k - 1) (by rw [hMl]; omega) (by omega) W)
            unfold Hid at d2
            rw [hkc] at d2
            rw [decide_eq_true hk0] at hEk
            cases hmp : bitB M (k - 1) with
            | true =>
              rw [hmp] at hEk
              simp only [bitN_on hmp] at d2
              have D2 := hide d2
              have hE2 : Hid (R = netG A M (k + 1) (8 * 16 - (k + 1))) := by unfold Hid; rw [hEk]; rfl
              clear d2 hEk hmk hmp hkc
              go_wp2_with fail
              refine (d1.out _).mono ?_
              rintro e w2 ⟨rfl, rfl⟩
              go_wp2_with fail
              refine (D2.out _).mono ?_
              rintro e w2 ⟨rfl, rfl⟩
              go_wp2
              go_round
              case rel => exact ⟨k + 1, by go_num, by omega, hE2⟩
              case measure => simp [intOf]; omega
            | false =>
              rw [hmp] at hEk
              simp only [bitN_off hmp] at d2
              have D2 := hide d2
              have hE2 : Hid (R = false) := by unfold Hid; rw [hEk]; rfl
              clear d2 hEk hmk hmp hkc
              go_wp2_with fail
              refine (d1.out _).mono ?_
              rintro e w2 ⟨rfl, rfl⟩
              go_wp2_with fail
              refine (D2.out _).mono ?_
              rintro e w2 ⟨rfl, rfl⟩
              go_wp2
              go_ret
              exact ⟨by rw [hF.out, hE2.out]; rfl, BX⟩
          · have k0I : ¬ (0 : Int) < (k : Int) := by omega
            rw [decide_eq_false hk0] at hEk
            have hE2 : Hid (R = netG A M (k + 1) (8 * 16 - (k + 1))) := by unfold Hid; rw [hEk]; rfl
            clear hEk hmk
            go_wp2_with fail
            refine (d1.out _).mono ?_
            rintro e w2 ⟨rfl, rfl⟩
            go_wp2
            go_round
            case rel => exact ⟨k + 1, by go_num, by omega, hE2⟩
            case measure => simp [intOf]; omega
        | false =>
          rw [bitN_off hmk] at d1
          rw [hmk] at hEk
          cases hbk : bitB b k with
          | true =>
            rw [hbk] at hEk
            rw [bitN_on hbk] at d3
            have hE2 : Hid (R = false) := by unfold Hid; rw [hEk]; rfl
            clear hEk hmk hbk
            go_wp2_with fail
            refine (d1.out _).mono ?_
            rintro e w2 ⟨rfl, rfl⟩
            go_wp2_with fail
            refine (d3.out _).mono ?_
            rintro e w2 ⟨rfl, rfl⟩
            go_wp2
            go_ret
            exact ⟨by rw [hF.out, hE2.out]; rfl, BX⟩
          | false =>
            rw [hbk] at hEk
            rw [bitN_off hbk] at d3
            have hE2 : Hid (R = netG A M (k + 1) (8 * 16 - (k + 1))) := by unfold Hid; rw [hEk]; rfl
            clear hEk hmk hbk
            go_wp2_with fail
            refine (d1.out _).mono ?_
            rintro e w2 ⟨rfl, rfl⟩
            go_wp2_with fail
            refine (d3.out _).mono ?_
            rintro e w2 ⟨rfl, rfl⟩
            go_wp2
            go_round
            case rel => exact ⟨k + 1, by go_num, by omega, hE2⟩
            case measure => simp [intOf]; omega
      · have ltI : ¬ (k : Int) < 8 * 16 := by omega
        have hE2 : Hid (R = true) := by unfold Hid; rw [hE.out, show 8 * 16 - k = 0 by omega, netG]
        clear hE
        go_wp2
        go_ret
        exact ⟨by rw [hF.out, hE2.out]; rfl, BX⟩
  have hF : Hid (mayW 7 b = false) := by
    unfold Hid
    rw [mayW_seven]
    cases h : isNetL b with
    | false => rfl
    | true => rcases net_len h with h | h <;> omega
  have y8 : ¬ ((tx b).size : Int) = 8 := by rw [tx_size]; omega
  have y32 : ¬ ((tx b).size : Int) = 32 := by rw [tx_size]; omega
  have z8 : (((tx b).size : Int) != 8) = true := by simpa using y8
  have z32 : (((tx b).size : Int) != 32) = true := by simpa using y32
  unfold mayP
  have BX := nbelowW w (.cells #[.int .i64 7, .string (tx b)] 36)
  have c1 : (w.alloc (.cells #[.int .i64 7, .string (tx b)] 36)).cell? ⟨w.heap.size, 1, none⟩ = some (.string (tx b)) := by simp
  go_enter Tryz.func25, Tryz.ntmps25
  go_wp2
  go_ret
  exact ⟨by rw [hF.out]; rfl, BX⟩
set_option maxRecDepth 100000 in
theorem rmay_else {k : Int} (h1 : k ≠ 1) (h2 : k ≠ 2) (h3 : k ≠ 4) (h4 : k ≠ 7) (b : List UInt8) (w : World) : mayP k b w := by
  have hF := hide (mayW_else h1 h2 h3 h4 b)
  have e1 : (k == 1) = false := by simpa using h1
  have e2 : (k == 2) = false := by simpa using h2
  have e3 : (k == 4) = false := by simpa using h3
  have e4 : (k == 7) = false := by simpa using h4
  unfold mayP
  have BX := nbelowW w (.cells #[.int .i64 k, .string (tx b)] 36)
  have c1 : (w.alloc (.cells #[.int .i64 k, .string (tx b)] 36)).cell? ⟨w.heap.size, 1, none⟩ = some (.string (tx b)) := by simp
  go_enter Tryz.func25, Tryz.ntmps25
  go_wp2
  go_ret
  exact ⟨by rw [hF.out]; rfl, BX⟩

theorem rmayT_any (k : Int) (b : List UInt8) (hb : b.length ≤ 1048576) (w : World) : mayP k b w := by
  by_cases h1 : k = 1
  · subst h1
    by_cases h : ∃ r, b = 46 :: r
    · obtain ⟨r, hr⟩ := h
      exact rmay_dot b r hr hb w
    · exact rmay_mail b hb (fun r hr => h ⟨r, hr⟩) w
  by_cases h2 : k = 2
  · subst h2; exact rmay_dns b hb w
  by_cases h3 : k = 4
  · subst h3; exact rmay_name b hb w
  by_cases h4 : k = 7
  · subst h4; exact rmay_net b hb w
  exact rmay_else h1 h2 h3 h4 b w

end Go.Proofs.YtklchpdpooikdaaGreatDoor
