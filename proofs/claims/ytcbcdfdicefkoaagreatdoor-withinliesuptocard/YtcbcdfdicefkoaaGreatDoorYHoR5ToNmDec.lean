/-
  The document's host: mail addresses, as a call.
  name.Decode: memory while it ranges.
-/
import Derived.Test.YtcbcdfdicefkoaaGreatDoorYHoSmToHoR4
import Derived.Test.YtcbcdfdicefkoaaGreatDoorYEachJ
import Derived.Test.YtcbcdfdicefkoaaGreatDoorYHoBToBoxSt
import Derived.Test.YtcbcdfdicefkoaaGreatDoorYLentToTxV1
import Derived.Test.YtcbcdfdicefkoaaGreatDoorYNmRDcToHoR3
namespace Go.Proofs.YtcbcdfdicefkoaaGreatDoor
open Go.RowKit Go.IntWalk

/-- What the document's Email has found of a local part of k bytes, i of them gone over. -/
def MRel (s : ByteArray) (k i : Nat) : Prop := ∃ p, locS true (s.data.toList.take k) = locS p ((s.data.toList.take k).drop i) ∧ (p = true → ∀ h : i < s.size, i < k → (s[i]'h) ≠ 46) ∧ (i = k → p = false)
theorem mrel_start (s : ByteArray) (k : Nat) (hk : 0 < k) (h0 : ∀ h : 0 < s.size, (s[0]'h) ≠ 46) : MRel s k 0 := ⟨true, rfl, fun _ h _ => h0 h, fun e => by omega⟩
theorem take_at (s : ByteArray) (k i : Nat) (hk : k ≤ s.size) (hi : i < k) : ∃ h : i < (s.data.toList.take k).length, (s.data.toList.take k)[i]'h = s[i]'(by omega) := by
  have hl : i < (s.data.toList.take k).length := by rw [List.length_take, sizeH_len]; omega
  refine ⟨hl, ?_⟩
  rw [List.getElem_take, getH_list s i (by omega)]
theorem mrel_step (s : ByteArray) (k i : Nat) (hk : k ≤ s.size) (hi : i < k) (h : MRel s k i) (hc : (s[i]'(by omega)) ≠ 46) (hn : locN (s[i]'(by omega)).toNat = true) : MRel s k (i + 1) := by
  obtain ⟨p, h1, h2, h3⟩ := h
  obtain ⟨hl, he⟩ := take_at s k i hk hi
  rw [locS_at p _ i hl, he, if_neg hc, hn, Bool.true_and] at h1
  exact ⟨false, h1, fun e => (by cases e), fun _ => rfl⟩
theorem mrel_bad (s : ByteArray) (k i : Nat) (hk : k ≤ s.size) (hi : i < k) (h : MRel s k i) (hc : (s[i]'(by omega)) ≠ 46) (hn : locN (s[i]'(by omega)).toNat = false) : locS true (s.data.toList.take k) = false := by
  obtain ⟨p, h1, h2, h3⟩ := h
  obtain ⟨hl, he⟩ := take_at s k i hk hi
  rw [locS_at p _ i hl, he, if_neg hc, hn, Bool.false_and] at h1
  exact h1
theorem mrel_dot (s : ByteArray) (k i : Nat) (hk : k < s.size) (hi : i < k) (h : MRel s k i) (hc : (s[i]'(by omega)) = 46) (hl1 : (s[k - 1]'(by omega)) ≠ 46) (hd : (s[i + 1]'(by omega)) ≠ 46) : MRel s k (i + 1) := by
  obtain ⟨p, h1, h2, h3⟩ := h
  obtain ⟨hl, he⟩ := take_at s k i (by omega) hi
  have hp : p = false := by
    cases p with
    | false => rfl
    | true => exact absurd hc (h2 rfl (by omega) hi)
  subst hp
  rw [locS_at false _ i hl, he, if_pos hc] at h1
  refine ⟨true, h1, fun _ h _ => hd, fun e => ?_⟩
  exfalso
  apply hl1
  rw [← hc]
  congr 1
  omega
theorem mrel_dots (s : ByteArray) (k i : Nat) (hk : k < s.size) (hi : i < k) (h : MRel s k i) (hc : (s[i]'(by omega)) = 46) (ha : (s[k]'hk) = 64) (hd : (s[i + 1]'(by omega)) = 46) : locS true (s.data.toList.take k) = false := by
  obtain ⟨p, h1, h2, h3⟩ := h
  obtain ⟨hl, he⟩ := take_at s k i (by omega) hi
  have hi1 : i + 1 < k := by
    rcases Nat.lt_or_ge (i + 1) k with h | h
    · exact h
    · exfalso
      have e : i + 1 = k := by omega
      have e2 : (s[i + 1]'(by omega)) = (s[k]'hk) := by congr 1
      rw [hd, ha] at e2
      exact absurd e2 (by decide)
  obtain ⟨hl2, he2⟩ := take_at s k (i + 1) (by omega) hi1
  rw [locS_at p _ i hl, he, if_pos hc, locS_at true _ (i + 1) hl2, he2, if_pos hd] at h1
  rw [h1]; simp
theorem mrel_end (s : ByteArray) (k : Nat) (h : MRel s k k) : locS true (s.data.toList.take k) = true := by
  obtain ⟨p, h1, h2, h3⟩ := h
  rw [h1, h3 rfl, List.drop_eq_nil_of_le (by rw [List.length_take]; omega)]
  rfl

theorem mail_none (s : ByteArray) (h : ∀ (i : Nat) (hi : i < s.size), (s[i]'hi) ≠ 64) : mailL s.data.toList = false := by
  unfold mailL
  rw [cutD_none 64 _ (fun i hi => by rw [getH_list s i (by rw [← sizeH_len]; exact hi)]; exact h i _), dnsL_nil, Bool.and_false]
theorem mail_at (s : ByteArray) (k : Nat) (hk : k < s.size) (h : ∀ (i : Nat) (hi : i < s.size), i < k → (s[i]'hi) ≠ 64) (ha : (s[k]'hk) = 64) : mailL s.data.toList = ((decide (k ≤ 64) && locS true (s.data.toList.take k)) && dnsL (s.data.toList.drop (k + 1))) := by
  have hl : k < s.data.toList.length := by rw [sizeH_len]; exact hk
  obtain ⟨h1, h2⟩ := cutD_at 64 s.data.toList k (fun i hi hik => by rw [getH_list s i (by omega)]; exact h i _ hik) hl (by rw [getH_list s k hk]; exact ha)
  unfold mailL
  rw [locL_S, h1, h2, List.length_take, Nat.min_eq_left (by omega)]

theorem ne_num (x y : UInt8) (h : x ≠ y) : ((x.toNat : Int) == (y.toNat : Int)) = false := by
  rw [beq_eq_false_iff_ne]
  intro e
  exact h (UInt8.toNat_inj.1 (by omega))

set_option maxRecDepth 100000 in
set_option maxHeartbeats 8000000 in
theorem refEmail_any (s : ByteArray) (hs : s.size ≤ 1048576) (w : World) : Calls Tryz.prog 33 #[.string s] w fun e w' => e = .returned (.bool (mailL s.data.toList)) ∧ Below w.heap.size w w' := by
  go_enter Tryz.func33, Tryz.ntmps33
  go_wp2
  go_loop [3] (fun i => ∃ k : Nat, i = .int .i64 k ∧ k ≤ s.size ∧ Hid (∀ (i : Nat) (hi : i < s.size), i < k → (s[i]'hi) ≠ 64)) (fun i => s.size - (intOf i).toNat)
  case atStart => exact ⟨0, rfl, Nat.zero_le _, fun _ _ h => by omega⟩
  case round =>
    obtain ⟨k, rfl, hk, HK⟩ := hrel
    by_cases hlt : k < s.size
    · have hltI : (k : Int) < (s.size : Int) := by omega
      by_cases hat : (s[k]'hlt) = 64
      · have hat' : (((s[k]'hlt).toNat : Int) != 64) = false := by rw [hat]; rfl
        have HML := hide (mail_at s k hlt HK.out hat)
        have hke : ((k : Int) == (s.size : Int)) = false := by simp; omega
        by_cases hk1 : k < 1
        · have hk1I : (k : Int) < 1 := by omega
          have ht0 : s.data.toList.take k = [] := by rw [show k = 0 by omega]; rfl
          have hF : Hid (mailL s.data.toList = false) := by unfold Hid; rw [HML.out, ht0, show locS true [] = false from rfl]; simp
          clear HK
          go_wp2
          go_ret
          exact ⟨by rw [hF.out]; rfl, Below.refl _ _⟩
        have hk1I : ¬ (k : Int) < 1 := by omega
        by_cases hk64 : 64 < k
        · have hk64I : (64 : Int) < (k : Int) := by omega
          have hF : Hid (mailL s.data.toList = false) := by unfold Hid; rw [HML.out, decide_eq_false (show ¬ k ≤ 64 by omega)]; simp
          clear HK
          go_wp2
          go_ret
          exact ⟨by rw [hF.out]; rfl, Below.refl _ _⟩
        have hk64I : ¬ (64 : Int) < (k : Int) := by omega
        have h0s : 0 < s.size := by omega
        have h0sI : (0 : Int) < (s.size : Int) := by omega
        by_cases hz0 : (s[0]'h0s) = 46
        · have hz0' : (((s[0]'h0s).toNat : Int) == 46) = true := by rw [hz0]; rfl
          obtain ⟨ht1, ht2⟩ := take_at s k 0 (by omega) (by omega)
          have hl0 : locS true (s.data.toList.take k) = false := by
            have h := locS_at true (s.data.toList.take k) 0 ht1
            rw [ht2, if_pos hz0] at h
            exact h
          have hF : Hid (mailL s.data.toList = false) := by unfold Hid; rw [HML.out, hl0]; simp
          clear HK
          go_wp2
          go_ret
          exact ⟨by rw [hF.out]; rfl, Below.refl _ _⟩
        have hz0' : (((s[0]'h0s).toNat : Int) == 46) = false := ne_num _ 46 hz0
        have hkm : k - 1 < s.size := by omega
        have hkmI : (k : Int) - 1 < (s.size : Int) := by omega
        have hkmJ : (0 : Int) ≤ (k : Int) - 1 := by omega
        by_cases hz1 : (s[k - 1]'hkm) = 46
        · have hz1' : (((s[k - 1]'hkm).toNat : Int) == 46) = true := by rw [hz1]; rfl
          have hl0 : locS true (s.data.toList.take k) = false := by
            cases hq : locS true (s.data.toList.take k) with
            | false => rfl
            | true =>
              exfalso
              obtain ⟨ht1, ht2⟩ := take_at s k (k - 1) (by omega) (by omega)
              have hlen : (s.data.toList.take k).length = k := by rw [List.length_take, sizeH_len]; omega
              refine locS_last _ _ hq (by rw [hlen]; omega) ?_
              rw [← hz1, ← ht2]
              congr 1
              omega
          have hF : Hid (mailL s.data.toList = false) := by unfold Hid; rw [HML.out, hl0]; simp
          clear HK
          go_wp2
          go_ret
          exact ⟨by rw [hF.out]; rfl, Below.refl _ _⟩
        have hz1' : (((s[k - 1]'hkm).toNat : Int) == 46) = false := ne_num _ 46 hz1
        have hr0 := hide (mrel_start s k (by omega) (fun _ => hz0))
        replace HML : Hid (mailL s.data.toList = (locS true (s.data.toList.take k) && dnsL (s.data.toList.drop (k + 1)))) := by unfold Hid; rw [HML.out, decide_eq_true (show k ≤ 64 by omega), Bool.true_and]
        have Hz1 := hide hz1
        have Hat := hide hat
        clear hz1 hz0 hat HK
        go_wp2
        go_loop [4] (fun j => ∃ i : Nat, j = .int .i64 i ∧ i ≤ k ∧ Hid (MRel s k i)) (fun j => k - (intOf j).toNat)
        case atStart => exact ⟨0, rfl, Nat.zero_le _, hr0⟩
        case round =>
          obtain ⟨i, rfl, hi, HM⟩ := hrel
          by_cases hik : i < k
          · have hikI : (i : Int) < (k : Int) := by omega
            have his : i < s.size := by omega
            have hisI : (i : Int) < (s.size : Int) := by omega
            have hlt0 := hide (fun W => letter_any (s[i]'his).toNat W)
            have hdg := hide (fun W => digit_any (s[i]'his).toNat W)
            by_cases hc46 : (s[i]'his) = 46
            · have hc46' : (((s[i]'his).toNat : Int) == 46) = true := by rw [hc46]; rfl
              have hc46n : (((s[i]'his).toNat : Int) != 46) = false := by rw [hc46]; rfl
              have e1 : ltN (s[i]'his).toNat = false := by rw [hc46]; decide
              have e2 : digN (s[i]'his).toNat = false := by rw [hc46]; decide
              rw [e1] at hlt0
              rw [e2] at hdg
              have hi1s : i + 1 < s.size := by omega
              have hi1I : (i : Int) + 1 < (s.size : Int) := by omega
              by_cases hd : (s[i + 1]'hi1s) = 46
              · have hd' : (((s[i + 1]'hi1s).toNat : Int) == 46) = true := by rw [hd]; rfl
                have hF : Hid (mailL s.data.toList = false) := by unfold Hid; rw [HML.out, mrel_dots s k i hlt hik HM.out hc46 Hat.out hd]; simp
                clear hc46 hd e1 e2
                go_wp2_with (first | (go_at_call 66; refine (hlt0.out _).mono ?_; rintro e w1 ⟨rfl, hw1⟩; subst hw1) | (go_at_call 64; refine (hdg.out _).mono ?_; rintro e w2 ⟨rfl, hw2⟩; subst hw2))
                go_ret
                exact ⟨by rw [hF.out]; rfl, Below.refl _ _⟩
              · have hd' : (((s[i + 1]'hi1s).toNat : Int) == 46) = false := ne_num _ 46 hd
                have hM := hide (mrel_dot s k i hlt hik HM.out hc46 Hz1.out hd)
                clear hc46 hd e1 e2
                go_wp2_with (first | (go_at_call 66; refine (hlt0.out _).mono ?_; rintro e w1 ⟨rfl, hw1⟩; subst hw1) | (go_at_call 64; refine (hdg.out _).mono ?_; rintro e w2 ⟨rfl, hw2⟩; subst hw2))
                go_round
                case rel => exact ⟨i + 1, by simp, by omega, hM⟩
                case measure => simp [intOf]; omega
            · have hc46' : (((s[i]'his).toNat : Int) == 46) = false := ne_num _ 46 hc46
              have hc46n : (((s[i]'his).toNat : Int) != 46) = true := by unfold bne; rw [hc46']; rfl
              have hsp := locN_split (s[i]'his).toNat
              generalize ltN (s[i]'his).toNat = L at hlt0 hsp
              generalize digN (s[i]'his).toNat = G at hdg hsp
              cases L with
              | true =>
                have hn : locN (s[i]'his).toNat = true := by rw [hsp]; simp
                clear hsp
                have hM := hide (mrel_step s k i (by omega) hik HM.out hc46 hn)
                clear hn hc46
                go_wp2_with (first | (go_at_call 66; refine (hlt0.out _).mono ?_; rintro e w1 ⟨rfl, hw1⟩; subst hw1) | (go_at_call 64; refine (hdg.out _).mono ?_; rintro e w2 ⟨rfl, hw2⟩; subst hw2))
                go_round
                case rel => exact ⟨i + 1, by simp, by omega, hM⟩
                case measure => simp [intOf]; omega
              | false =>
                cases G with
                | true =>
                  have hn : locN (s[i]'his).toNat = true := by rw [hsp]; simp
                  clear hsp
                  have hM := hide (mrel_step s k i (by omega) hik HM.out hc46 hn)
                  clear hn hc46
                  go_wp2_with (first | (go_at_call 66; refine (hlt0.out _).mono ?_; rintro e w1 ⟨rfl, hw1⟩; subst hw1) | (go_at_call 64; refine (hdg.out _).mono ?_; rintro e w2 ⟨rfl, hw2⟩; subst hw2))
                  go_round
                  case rel => exact ⟨i + 1, by simp, by omega, hM⟩
                  case measure => simp [intOf]; omega
                | false =>
                  by_cases h95 : (s[i]'his).toNat = 95
                  · have h95n : (((s[i]'his).toNat : Int) != 95) = false := by rw [h95]; rfl
                    have hn : locN (s[i]'his).toNat = true := by rw [hsp, decide_eq_true h95]; rfl
                    clear hsp h95
                    have hM := hide (mrel_step s k i (by omega) hik HM.out hc46 hn)
                    clear hn hc46
                    go_wp2_with (first | (go_at_call 66; refine (hlt0.out _).mono ?_; rintro e w1 ⟨rfl, hw1⟩; subst hw1) | (go_at_call 64; refine (hdg.out _).mono ?_; rintro e w2 ⟨rfl, hw2⟩; subst hw2))
                    go_round
                    case rel => exact ⟨i + 1, by simp, by omega, hM⟩
                    case measure => simp [intOf]; omega
                  have h95n : (((s[i]'his).toNat : Int) != 95) = true := by simp; omega
                  by_cases h43 : (s[i]'his).toNat = 43
                  · have h43n : (((s[i]'his).toNat : Int) != 43) = false := by rw [h43]; rfl
                    have hn : locN (s[i]'his).toNat = true := by rw [hsp, decide_eq_true h43]; simp
                    clear hsp h43 h95
                    have hM := hide (mrel_step s k i (by omega) hik HM.out hc46 hn)
                    clear hn hc46
                    go_wp2_with (first | (go_at_call 66; refine (hlt0.out _).mono ?_; rintro e w1 ⟨rfl, hw1⟩; subst hw1) | (go_at_call 64; refine (hdg.out _).mono ?_; rintro e w2 ⟨rfl, hw2⟩; subst hw2))
                    go_round
                    case rel => exact ⟨i + 1, by simp, by omega, hM⟩
                    case measure => simp [intOf]; omega
                  have h43n : (((s[i]'his).toNat : Int) != 43) = true := by simp; omega
                  by_cases h45 : (s[i]'his).toNat = 45
                  · have h45n : (((s[i]'his).toNat : Int) != 45) = false := by rw [h45]; rfl
                    have hn : locN (s[i]'his).toNat = true := by rw [hsp, decide_eq_true h45]; simp
                    clear hsp h43 h95 h45
                    have hM := hide (mrel_step s k i (by omega) hik HM.out hc46 hn)
                    clear hn hc46
                    go_wp2_with (first | (go_at_call 66; refine (hlt0.out _).mono ?_; rintro e w1 ⟨rfl, hw1⟩; subst hw1) | (go_at_call 64; refine (hdg.out _).mono ?_; rintro e w2 ⟨rfl, hw2⟩; subst hw2))
                    go_round
                    case rel => exact ⟨i + 1, by simp, by omega, hM⟩
                    case measure => simp [intOf]; omega
                  · have h45n : (((s[i]'his).toNat : Int) != 45) = true := by simp; omega
                    have hn : locN (s[i]'his).toNat = false := by rw [hsp, decide_eq_false h95, decide_eq_false h43, decide_eq_false h45]; rfl
                    clear hsp h43 h95 h45
                    have hF : Hid (mailL s.data.toList = false) := by unfold Hid; rw [HML.out, mrel_bad s k i (by omega) hik HM.out hc46 hn]; simp
                    clear hn hc46
                    go_wp2_with (first | (go_at_call 66; refine (hlt0.out _).mono ?_; rintro e w1 ⟨rfl, hw1⟩; subst hw1) | (go_at_call 64; refine (hdg.out _).mono ?_; rintro e w2 ⟨rfl, hw2⟩; subst hw2))
                    go_ret
                    exact ⟨by rw [hF.out]; rfl, Below.refl _ _⟩
          · obtain rfl : i = k := by omega
            have hikI : ¬ (i : Int) < (i : Int) := by omega
            have hdl : (s.data.toList.drop (i + 1)).length ≤ s.size := by rw [List.length_drop, sizeH_len]; omega
            have hD := hide (fun W => refDNS_any (tx (s.data.toList.drop (i + 1))) (by rw [tx_size]; omega) W)
            rw [tx_list] at hD
            have hF : Hid (mailL s.data.toList = dnsL (s.data.toList.drop (i + 1))) := by unfold Hid; rw [HML.out, mrel_end s i HM.out, Bool.true_and]
            have hi1I : (i : Int) + 1 ≤ (s.size : Int) := by omega
            have sl2 : ∀ X, (Instr.slice 9 (.string s) (some (.int .i64 ((i : Int) + 1))) none none).run Tryz.prog X = .ok (.string (tx (s.data.toList.drop (i + 1)))) X := fun X => by
              have h := run_slice_string_from_if (P := Tryz.prog) (w := X) 9 s .i64 ((i : Int) + 1) Tryz.underlying9
              rw [h, if_pos (by omega), show ((i : Int) + 1).toNat = i + 1 by omega, cut_textH]
              unfold cutH
              rw [List.take_of_length_le (by rw [sizeH_len]; exact Nat.le_refl _)]
            generalize s.data.toList.drop (i + 1) = t at hD hF sl2
            clear hdl
            go_wp2_with (go_at_call 28; refine (hD.out _).mono ?_; rintro e w3 ⟨rfl, B3⟩)
            go_ret
            exact ⟨by rw [hF.out]; rfl, B3⟩
      · have hat0 : (((s[k]'hlt).toNat : Int) == 64) = false := ne_num _ 64 hat
        have hat' : (((s[k]'hlt).toNat : Int) != 64) = true := by unfold bne; rw [hat0]; rfl
        clear hat0
        have HK2 : Hid (∀ (i : Nat) (hi : i < s.size), i < k + 1 → (s[i]'hi) ≠ 64) := fun i hi hik => by
          by_cases h : i = k
          · subst h; exact hat
          · exact HK.out i hi (by omega)
        clear hat HK
        go_wp2
        go_round
        case rel => exact ⟨k + 1, by simp, by omega, HK2⟩
        case measure => simp [intOf]; omega
    · obtain rfl : k = s.size := by omega
      have hltI : ¬ (s.size : Int) < (s.size : Int) := by omega
      have hke : ((s.size : Int) == (s.size : Int)) = true := by simp
      have hF : Hid (mailL s.data.toList = false) := mail_none s (fun i hi => HK.out i hi hi)
      clear HK
      go_wp2
      go_ret
      exact ⟨by rw [hF.out]; rfl, Below.refl _ _⟩

end Go.Proofs.YtcbcdfdicefkoaaGreatDoor

namespace Go.Proofs.YtcbcdfdicefkoaaGreatDoor
open Go.RowKit Go.Shelf Go.IntWalk
attribute [local go_sem] Oper.semAt_some

theorem eachN_enters : ∀ args w, (callFunc 161 args).run Tryz.prog w = .ok (.enter 161 args) w := enters_of Tryz.func161 (by kernel_rfl) rfl
/-- A range over der.Each's function. -/
theorem eachN_enter {g : Operand} {ps : Array Tmp} {assign body : Code} {Q : Exit → Act → World → Prop} {a : Act} {w : World} {B : Nat} (hg : a.eval g = .func (.func 161) #[] #[.pointer (some ⟨B, 0, none⟩)])
    (h : ∀ fn, Fence.wide.fn fn → CallsIn Fence.wide 7 Tryz.prog 161 #[.func (.yield (w.heap.size + 1)) #[] #[], .pointer (some ⟨B, 0, none⟩)] ((w.alloc (.deferred (some []))).alloc (.loop (recOf fn a.tmps ps assign body w.heap.size .ready none)))
      (rangePost Fence.wide 8 Tryz.prog (w.heap.size + 1) Q { a with defers := { target := .collected w.heap.size, args := #[] } :: a.defers })) :
    (Code.rangeFunc g ps assign body).wp Tryz.prog Q a w :=
  wpIn_wide.1 (range_enter (n := 8) rfl (by decide) hg trivial eachN_enters h)

theorem BSt.mk2 {w W : World} {a0 a1 : Nat} {t0 t1 : TypeId} {v0 v1 : Value} (h0 : Boxed W a0 t0 v0) (h1 : Boxed W a1 t1 v1) (o : w.heap.size ≤ a0 ∧ a0 < a1) (hb : Below w.heap.size w W) : BSt w [(a0, t0, v0), (a1, t1, v1)] [] W := by
  obtain ⟨o0, o1⟩ := o
  refine ⟨fun i x hx => ?_, fun i j x y hx hy he => ?_, fun D hD => (by cases hD), hb⟩
  · match i, hx with
    | 0, hx => cases hx; exact ⟨o0, h0⟩
    | 1, hx => cases hx; exact ⟨by simp only; omega, h1⟩
    | i + 2, hx => simp at hx
  · match i, j, hx, hy with
    | 0, 0, _, _ => rfl
    | 1, 1, _, _ => rfl
    | 0, 1, hx, hy | 1, 0, hx, hy => cases hx; cases hy; simp only at he; omega
    | i + 2, _, hx, _ => simp at hx
    | _, j + 2, _, hy => simp at hy

/-- A row of attributes stays as a block of another make turns. -/
theorem OwnA.put {W : World} {base : Nat} {v : Value} {xs : List (Int × ByteArray)} (h : OwnA W base v xs) {k : Nat} {x : Obj} (hk : W.heap[k]? = some x) (hx : x.isCells = false) (o : Obj) : OwnA (W.putObj k o) base v xs :=
  row_kept h (grownBy_putObj' W k o) (fun r e c hc => by cases e; rw [hk] at hc; cases hc; cases hx)
theorem OwnA.setBox {W : World} {base : Nat} {v : Value} {xs : List (Int × ByteArray)} (h : OwnA W base v xs) {k : Nat} {t : TypeId} {u : Value} (hk : Boxed W k t u) (ht : t ≠ 118) (y : Value) : OwnA (W.setCell ⟨k, 0, none⟩ y) base v xs :=
  row_kept h (grownBy_setCell' W k y) (fun r e c hc => by cases e; rw [show W.heap[k]? = _ from hk] at hc; cases hc; exact ht rfl)
theorem LSt.grownA {w A C : World} {bx : List (Nat × TypeId × Value)} {ds : List Nat} {l : Nat} {r : Loop} (h : LSt w bx ds l r A) {v : Value} {xs : List (Int × ByteArray)} (ho : OwnA A w.heap.size v xs) (hg : A.grownBy C v.ownBlock) (ht : ∀ x ∈ bx, x.2.1 ≠ 118) : LSt w bx ds l r C := by
  have key : ∀ (k : Nat) (o : Obj), A.heap[k]? = some o → (∀ c, o ≠ .cells c 118 (0, 0)) → C.heap[k]? = A.heap[k]? := fun k o hk hn =>
    hg.block k (Array.getElem?_eq_some_iff.1 hk).1 (fun e => by
      obtain ⟨c, hc⟩ := row_type ho k e.symm
      rw [hk] at hc
      cases hc
      exact hn c rfl)
  refine ⟨⟨fun i x hx => ?_, h.st.nd, fun D hD => ?_, h.st.bel.grown hg h.st.bel.size (fun k hk => (World.ownsRow.lt ho k hk).1)⟩, ?_, h.ol⟩
  · have h1 := h.st.box i x hx
    refine ⟨h1.1, (key x.1 _ h1.2 (fun c e => ?_)).trans h1.2⟩
    injection e with e1 e2 e3
    exact ht x (List.mem_of_getElem? hx) e2
  · have h1 := h.st.dfr D hD
    exact ⟨h1.1, (key D _ h1.2 (fun c e => by cases e)).trans h1.2⟩
  · exact (key l _ h.loop (fun c e => by cases e)).trans h.loop

/-- What was read so far. -/
def dlN (C : List Int) (pre : List (Pl C)) : List (Int × ByteArray) := pre.map (fun x => dcA (contS (C.drop x.1)))
theorem dlN_snoc (C : List Int) (pre : List (Pl C)) (x : Pl C) : dlN C (pre ++ [x]) = dlN C pre ++ [dcA (contS (C.drop x.1))] := by unfold dlN; rw [List.map_append]; rfl
theorem dlN_len (C : List Int) (pre : List (Pl C)) : (dlN C pre).length = pre.length := by unfold dlN; rw [List.length_map]
theorem dlN_map (C : List Int) (pre : List (Pl C)) : dlN C pre = (pre.map (·.1)).map (fun p => dcA (contS (C.drop p))) := by unfold dlN; rw [List.map_map]; rfl
theorem dlN_size (C : List Int) (pre : List (Pl C)) : ∀ x ∈ dlN C pre, x.2.size ≤ C.length := by
  intro x hx
  unfold dlN at hx
  obtain ⟨y, _, rfl⟩ := List.mem_map.1 hx
  have h1 := dcA_len (contS (C.drop y.1))
  have h2 := cont_len (C.drop y.1)
  rw [List.length_drop] at h2
  omega
theorem dlN_all {xs C : List Int} (hC : (oneS xs).2.1 = C) {ys : List (Pl C)} (h : ys.map (·.1) = placesS C 0) (hl : ys.length ≤ 16) : dlN C ys = decN xs := by
  unfold decN
  rw [hC, dlN_map, h, List.take_of_length_le]
  rw [List.length_map, ← h, List.length_map]
  omega
theorem dlN_pre {xs C : List Int} (hC : (oneS xs).2.1 = C) {ys : List (Pl C)} (h : ys.map (·.1) <+: placesS C 0) (hl : ys.length = 17) : dlN C ys = decN xs := by
  obtain ⟨t, ht⟩ := h
  unfold decN
  rw [hC, dlN_map, ← ht, List.map_append, List.take_left' (by rw [List.length_map, List.length_map]; exact hl)]

/-- The two boxes while it ranges. -/
def decBx (Nb B : Nat) (n k : Value) : List (Nat × TypeId × Value) := [(Nb, 57, n), (B, 60, k)]
/-- What the round reads. -/
structure DecJ (w : World) (Nb B D N0 E : Nat) (aK : Option Addr) (m cK : Nat) (C : List Int) (r : Loop) (l : Nat) (ns : List (Int × ByteArray)) (W : World) (aN : Option Addr) (mN cN : Nat) : Prop where
  st : LSt w (decBx Nb B (.slice aN mN cN) (.slice aK m cK)) [D] l r W
  row : OwnA W w.heap.size (.slice aN mN cN) ns
  far : ∀ g, (Value.slice aN mN cN).ownBlock = some g → N0 + 4 ≤ g
  src : OwnB W E (.slice aK m cK) C
theorem DecJ.below {w : World} {Nb B D N0 E : Nat} {aK : Option Addr} {m cK : Nat} {C : List Int} {r : Loop} {l : Nat} {ns : List (Int × ByteArray)} {W W' : World} {aN : Option Addr} {mN cN : Nat} (h : DecJ w Nb B D N0 E aK m cK C r l ns W aN mN cN) (hb : Below W.heap.size W W') : DecJ w Nb B D N0 E aK m cK C r l ns W' aN mN cN :=
  ⟨h.st.below hb, h.row.below hb, h.far, row_below h.src hb⟩
/-- A block that is no cells, above all that stood at the call, turns. -/
theorem DecJ.put {w : World} {Nb B D N0 E : Nat} {aK : Option Addr} {m cK : Nat} {C : List Int} {r : Loop} {l : Nat} {ns : List (Int × ByteArray)} {W : World} {aN : Option Addr} {mN cN : Nat} (h : DecJ w Nb B D N0 E aK m cK C r l ns W aN mN cN) {k : Nat} {x : Obj} (hk : W.heap[k]? = some x) (hx : x.isCells = false) (o : Obj) (h0 : N0 ≤ k) (hn : Nb < N0) (hB : B < N0) (hD : D < N0) (hl : l < N0) (hw : w.heap.size ≤ N0) : DecJ w Nb B D N0 E aK m cK C r l ns (W.putObj k o) aN mN cN := by
  refine ⟨h.st.belowN (N := N0) (belowPut h0) ?_ (by intro y hy; simp at hy; omega) hl hw, h.row.put hk hx o, h.far, row_kept h.src (grownBy_putObj' W k o) (fun r e c hc => by cases e; rw [hk] at hc; cases hc; cases hx)⟩
  intro y hy
  simp only [decBx, List.mem_cons, List.not_mem_nil, or_false] at hy
  rcases hy with rfl | rfl <;> (simp only; omega)
/-- The loop's record turns. -/
theorem DecJ.turn {w : World} {Nb B D N0 E : Nat} {aK : Option Addr} {m cK : Nat} {C : List Int} {r : Loop} {l : Nat} {ns : List (Int × ByteArray)} {W : World} {aN : Option Addr} {mN cN : Nat} (h : DecJ w Nb B D N0 E aK m cK C r l ns W aN mN cN) (r' : Loop) : DecJ w Nb B D N0 E aK m cK C r' l ns (W.putObj l (.loop r')) aN mN cN :=
  ⟨h.st.put r', h.row.put h.st.loop rfl _, h.far, row_kept h.src (grownBy_putObj' W l _) (fun r e c hc => by cases e; rw [h.st.loop] at hc; cases hc)⟩
/-- The row has grown, and its box was written. -/
theorem DecJ.grow {w : World} {Nb B D N0 E : Nat} {aK : Option Addr} {m cK : Nat} {C : List Int} {r : Loop} {l : Nat} {ns ns' : List (Int × ByteArray)} {A X : World} {aN : Option Addr} {mN cN : Nat} (h : DecJ w Nb B D N0 E aK m cK C r l ns A aN mN cN) {g k c : Nat} (hg : A.grownBy X (Value.slice aN mN cN).ownBlock) (ho : OwnA X w.heap.size (.slice (some ⟨g, 0, none⟩) k c) ns') (hf : N0 + 4 ≤ g) : DecJ w Nb B D N0 E aK m cK C r l ns' (X.setCell ⟨Nb, 0, none⟩ (.slice (some ⟨g, 0, none⟩) k c)) (some ⟨g, 0, none⟩) k c := by
  have h1 := h.st.grownA h.row hg (by intro y hy; simp only [decBx, List.mem_cons, List.not_mem_nil, or_false] at hy; rcases hy with rfl | rfl; exact (by decide : (57 : TypeId) ≠ 118); exact (by decide : (60 : TypeId) ≠ 118))
  have hb := h1.st.get 0 (b := Nb) (t := 57) rfl
  refine ⟨h1.set 0 rfl _, ho.setBox hb (by decide) _, fun q hq => by simp [Value.ownBlock] at hq; omega, ?_⟩
  have h2 : OwnB X E (.slice aK m cK) C := row_apart h.src h.row (by decide) hg
  exact row_kept h2 (grownBy_setCell' X Nb _) (fun r e c hc => by cases e; rw [show X.heap[Nb]? = _ from hb] at hc; cases hc)

/-- Which blocks a round writes. -/
def SdN (Nb l : Nat) (v : Value) (q : Nat) : Prop := q = Nb ∨ q = l ∨ v.ownBlock = some q
theorem KJe.of {w : World} {Nb B D N0 E : Nat} {aK : Option Addr} {m cK : Nat} {C : List Int} {r : Loop} {l : Nat} {ns : List (Int × ByteArray)} {A Z : World} {aN : Option Addr} {mN cN : Nat} (h : DecJ w Nb B D N0 E aK m cK C r l ns A aN mN cN) (hg : GB (SdN Nb l (.slice aN mN cN)) A Z) (hz : N0 + 4 ≤ A.heap.size) (hn : Nb < N0) (hl : l < N0) : KJe N0 A Z := by
  have hb := h.st.st.get 0 (b := Nb) (t := 57) rfl
  refine ⟨fun k c hc => (hg.same k (Array.getElem?_eq_some_iff.1 hc).1 ?_).trans hc, fun k h1 h2 => hg.same k (by omega) ?_⟩
  · rintro (rfl | rfl | e)
    · rw [show A.heap[k]? = _ from hb] at hc; cases hc
    · rw [h.st.loop] at hc; cases hc
    · obtain ⟨c', h3⟩ := row_type h.row k e
      rw [hc] at h3
      cases h3
  · rintro (rfl | rfl | e)
    · omega
    · omega
    · have := h.far k e; omega

set_option maxRecDepth 100000 in
theorem decN_leave (w W : World) (tmps : Array Value) (D : Nat) (bx : List (Nat × TypeId × Value)) (h : BSt w bx [D] W) (a : Option Addr) (m c : Nat) (er : Int) (ns : List (Int × ByteArray)) (ho : OwnA W w.heap.size (.slice a m c) ns) (h2 : tmps[2]? = some (.slice a m c)) (h3 : tmps[3]? = some (.int .i64 er)) :
    LeavesInM Fence.wide 8 Tryz.prog Tryz.f115 tmps (fun e w' => ∃ a m c, e = .returned (.tuple #[.slice a m c, .int .i64 er]) ∧ OwnA w' w.heap.size (.slice a m c) ns ∧ Below w.heap.size w w') [{ target := .collected D, args := #[] }] .returning W := by
  have h1 := (h.dfr D (by simp)).2
  have h5 := h.take (by simp)
  refine ⟨by simp, .inl ⟨_, _, rfl, run_takeDeferred h1, ?_⟩⟩
  exact ⟨.tuple #[.slice a m c, .int .i64 er], by simp [results, Tryz.results115, go_sem, h2, h3, Array.getD_eq_getD_getElem?], a, m, c, rfl, ho.put h1 rfl _, h5.bel⟩

end Go.Proofs.YtcbcdfdicefkoaaGreatDoor
