/-
  The document's host: mail addresses, as a call.
-/
import Derived.Test.YtpdomfifoplbnaaHoR4
namespace Go.Proofs.Ytpdomfifoplbnaa
open Go.RowKit Go.IntWalk

/-- What the document's Email has found of a local part of k bytes, i of them gone over. -/
def MRel (s : ByteArray) (k i : Nat) : Prop := ∃ p, locS true (s.data.toList.take k) = locS p ((s.data.toList.take k).drop i) ∧ (p = true → ∀ h : i < s.size, i < k → (s[i]'h) ≠ 46) ∧ (i = k → p = false)
theorem mrel_start (s : ByteArray) (k : Nat) (hk : 0 < k) (h0 : ∀ h : 0 < s.size, (s[0]'h) ≠ 46) : MRel s k 0 := ⟨true, rfl, fun _ h _ => h0 h, fun e => by omega⟩
theorem take_at (s : ByteArray) (k i : Nat) (hk : k ≤ s.size) (hi : i < k) : ∃ h : i < (s.data.toList.take k).length, (s.data.toList.take k)[i]'h = s[i]'(by omega) := by
  have hl : i < (s.data.toList.take k).length := by rw [List.length_take, size_len]; omega
  refine ⟨hl, ?_⟩
  rw [List.getElem_take, get_list s i (by omega)]
theorem mrel_step (s : ByteArray) (k i : Nat) (hk : k ≤ s.size) (hi : i < k) (h : MRel s k i) (hc : (s[i]'(by omega)) ≠ 46) (hn : locN (s[i]'(by omega)).toNat = true) : MRel s k (i + 1) := by
  obtain ⟨p, h1, h2, h3⟩ := h
  obtain ⟨hl, he⟩ := take_at s k i hk hi
  rw [locS_at p _ i hl, he, if_neg hc, hn, Bool.true_and] at h1
  exact ⟨false, h1, fun e => (by cases e), fun _ => rfl⟩
theorem mrel_bad (s : ByteArray) (k i : Nat) (hk : k ≤ s.size) (hi : i < k) (h : MRel s k i) (hc : (s[i]'(by omega)) ≠ 46) (hn : locN (s[i]'(by omega)).toNat = false) : locS true (s.data.toList.take k) = false := by
  obtain ⟨p, h1, h2, h3⟩ := h
  obtain ⟨hl, he⟩ := take_at s k i hk hi
  rw [locS_at p _ i hl, he, if_neg hc, hn, Bool.false_and] at h1
  exact h1
theorem mrel_dot (s : ByteArray) (k i : Nat) (hk : k < s.size) (hi : i < k) (h : MRel s k i) (hc : (s[i]'(by omega)) = 46) (hl1 : (s[k - 1]'(by omega)) ≠ 46) (hd : (s[i + 1]'(by omega)) ≠ 46) : MRel s k (i + 1) := by
  obtain ⟨p, h1, h2, h3⟩ := h
  obtain ⟨hl, he⟩ := take_at s k i (by omega) hi
  have hp : p = false := by
    cases p with
    | false => rfl
    | true => exact absurd hc (h2 rfl (by omega) hi)
  subst hp
  rw [locS_at false _ i hl, he, if_pos hc] at h1
  refine ⟨true, h1, fun _ h _ => hd, fun e => ?_⟩
  exfalso
  apply hl1
  rw [← hc]
  congr 1
  omega
theorem mrel_dots (s : ByteArray) (k i : Nat) (hk : k < s.size) (hi : i < k) (h : MRel s k i) (hc : (s[i]'(by omega)) = 46) (ha : (s[k]'hk) = 64) (hd : (s[i + 1]'(by omega)) = 46) : locS true (s.data.toList.take k) = false := by
  obtain ⟨p, h1, h2, h3⟩ := h
  obtain ⟨hl, he⟩ := take_at s k i (by omega) hi
  have hi1 : i + 1 < k := by
    rcases Nat.lt_or_ge (i + 1) k with h | h
    · exact h
    · exfalso
      have e : i + 1 = k := by omega
      have e2 : (s[i + 1]'(by omega)) = (s[k]'hk) := by congr 1
      rw [hd, ha] at e2
      exact absurd e2 (by decide)
  obtain ⟨hl2, he2⟩ := take_at s k (i + 1) (by omega) hi1
  rw [locS_at p _ i hl, he, if_pos hc, locS_at true _ (i + 1) hl2, he2, if_pos hd] at h1
  rw [h1]; simp
theorem mrel_end (s : ByteArray) (k : Nat) (h : MRel s k k) : locS true (s.data.toList.take k) = true := by
  obtain ⟨p, h1, h2, h3⟩ := h
  rw [h1, h3 rfl, List.drop_eq_nil_of_le (by rw [List.length_take]; omega)]
  rfl

theorem mail_none (s : ByteArray) (h : ∀ (i : Nat) (hi : i < s.size), (s[i]'hi) ≠ 64) : mailL s.data.toList = false := by
  unfold mailL
  rw [cutD_none 64 _ (fun i hi => by rw [get_list s i (by rw [← size_len]; exact hi)]; exact h i _), dnsL_nil, Bool.and_false]
theorem mail_at (s : ByteArray) (k : Nat) (hk : k < s.size) (h : ∀ (i : Nat) (hi : i < s.size), i < k → (s[i]'hi) ≠ 64) (ha : (s[k]'hk) = 64) : mailL s.data.toList = ((decide (k ≤ 64) && locS true (s.data.toList.take k)) && dnsL (s.data.toList.drop (k + 1))) := by
  have hl : k < s.data.toList.length := by rw [size_len]; exact hk
  obtain ⟨h1, h2⟩ := cutD_at 64 s.data.toList k (fun i hi hik => by rw [get_list s i (by omega)]; exact h i _ hik) hl (by rw [get_list s k hk]; exact ha)
  unfold mailL
  rw [locL_S, h1, h2, List.length_take, Nat.min_eq_left (by omega)]

theorem ne_num (x y : UInt8) (h : x ≠ y) : ((x.toNat : Int) == (y.toNat : Int)) = false := by
  rw [beq_eq_false_iff_ne]
  intro e
  exact h (UInt8.toNat_inj.1 (by omega))

set_option maxRecDepth 100000 in
set_option maxHeartbeats 8000000 in
theorem refEmail_any (s : ByteArray) (hs : s.size ≤ 1048576) (w : World) : Calls Try.prog 10 #[.string s] w fun e w' => e = .returned (.bool (mailL s.data.toList)) ∧ Below w.heap.size w w' := by
  go_enter Try.func10, Try.ntmps10
  go_wp2
  go_loop [3] (fun i => ∃ k : Nat, i = .int .i64 k ∧ k ≤ s.size ∧ Hid (∀ (i : Nat) (hi : i < s.size), i < k → (s[i]'hi) ≠ 64)) (fun i => s.size - (intOf i).toNat)
  case atStart => exact ⟨0, rfl, Nat.zero_le _, fun _ _ h => by omega⟩
  case round =>
    obtain ⟨k, rfl, hk, HK⟩ := hrel
    by_cases hlt : k < s.size
    · have hltI : (k : Int) < (s.size : Int) := by omega
      by_cases hat : (s[k]'hlt) = 64
      · have hat' : (((s[k]'hlt).toNat : Int) != 64) = false := by rw [hat]; rfl
        have HML := hide (mail_at s k hlt HK.out hat)
        have hke : ((k : Int) == (s.size : Int)) = false := by simp; omega
        by_cases hk1 : k < 1
        · have hk1I : (k : Int) < 1 := by omega
          have ht0 : s.data.toList.take k = [] := by rw [show k = 0 by omega]; rfl
          have hF : Hid (mailL s.data.toList = false) := by unfold Hid; rw [HML.out, ht0, show locS true [] = false from rfl]; simp
          clear HK
          go_wp2
          go_ret
          exact ⟨by rw [hF.out]; rfl, Below.refl _ _⟩
        have hk1I : ¬ (k : Int) < 1 := by omega
        by_cases hk64 : 64 < k
        · have hk64I : (64 : Int) < (k : Int) := by omega
          have hF : Hid (mailL s.data.toList = false) := by unfold Hid; rw [HML.out, decide_eq_false (show ¬ k ≤ 64 by omega)]; simp
          clear HK
          go_wp2
          go_ret
          exact ⟨by rw [hF.out]; rfl, Below.refl _ _⟩
        have hk64I : ¬ (64 : Int) < (k : Int) := by omega
        have h0s : 0 < s.size := by omega
        have h0sI : (0 : Int) < (s.size : Int) := by omega
        by_cases hz0 : (s[0]'h0s) = 46
        · have hz0' : (((s[0]'h0s).toNat : Int) == 46) = true := by rw [hz0]; rfl
          obtain ⟨ht1, ht2⟩ := take_at s k 0 (by omega) (by omega)
          have hl0 : locS true (s.data.toList.take k) = false := by
            have h := locS_at true (s.data.toList.take k) 0 ht1
            rw [ht2, if_pos hz0] at h
            exact h
          have hF : Hid (mailL s.data.toList = false) := by unfold Hid; rw [HML.out, hl0]; simp
          clear HK
          go_wp2
          go_ret
          exact ⟨by rw [hF.out]; rfl, Below.refl _ _⟩
        have hz0' : (((s[0]'h0s).toNat : Int) == 46) = false := ne_num _ 46 hz0
        have hkm : k - 1 < s.size := by omega
        have hkmI : (k : Int) - 1 < (s.size : Int) := by omega
        have hkmJ : (0 : Int) ≤ (k : Int) - 1 := by omega
        by_cases hz1 : (s[k - 1]'hkm) = 46
        · have hz1' : (((s[k - 1]'hkm).toNat : Int) == 46) = true := by rw [hz1]; rfl
          have hl0 : locS true (s.data.toList.take k) = false := by
            cases hq : locS true (s.data.toList.take k) with
            | false => rfl
            | true =>
              exfalso
              obtain ⟨ht1, ht2⟩ := take_at s k (k - 1) (by omega) (by omega)
              have hlen : (s.data.toList.take k).length = k := by rw [List.length_take, size_len]; omega
              refine locS_last _ _ hq (by rw [hlen]; omega) ?_
              rw [← hz1, ← ht2]
              congr 1
              omega
          have hF : Hid (mailL s.data.toList = false) := by unfold Hid; rw [HML.out, hl0]; simp
          clear HK
          go_wp2
          go_ret
          exact ⟨by rw [hF.out]; rfl, Below.refl _ _⟩
        have hz1' : (((s[k - 1]'hkm).toNat : Int) == 46) = false := ne_num _ 46 hz1
        have hr0 := hide (mrel_start s k (by omega) (fun _ => hz0))
        replace HML : Hid (mailL s.data.toList = (locS true (s.data.toList.take k) && dnsL (s.data.toList.drop (k + 1)))) := by unfold Hid; rw [HML.out, decide_eq_true (show k ≤ 64 by omega), Bool.true_and]
        have Hz1 := hide hz1
        have Hat := hide hat
        clear hz1 hz0 hat HK
        go_wp2
        go_loop [4] (fun j => ∃ i : Nat, j = .int .i64 i ∧ i ≤ k ∧ Hid (MRel s k i)) (fun j => k - (intOf j).toNat)
        case atStart => exact ⟨0, rfl, Nat.zero_le _, hr0⟩
        case round =>
          obtain ⟨i, rfl, hi, HM⟩ := hrel
          by_cases hik : i < k
          · have hikI : (i : Int) < (k : Int) := by omega
            have his : i < s.size := by omega
            have hisI : (i : Int) < (s.size : Int) := by omega
            have hlt0 := hide (fun W => letter_any (s[i]'his).toNat W)
            have hdg := hide (fun W => digit_any (s[i]'his).toNat W)
            by_cases hc46 : (s[i]'his) = 46
            · have hc46' : (((s[i]'his).toNat : Int) == 46) = true := by rw [hc46]; rfl
              have hc46n : (((s[i]'his).toNat : Int) != 46) = false := by rw [hc46]; rfl
              have e1 : ltN (s[i]'his).toNat = false := by rw [hc46]; decide
              have e2 : digN (s[i]'his).toNat = false := by rw [hc46]; decide
              rw [e1] at hlt0
              rw [e2] at hdg
              have hi1s : i + 1 < s.size := by omega
              have hi1I : (i : Int) + 1 < (s.size : Int) := by omega
              by_cases hd : (s[i + 1]'hi1s) = 46
              · have hd' : (((s[i + 1]'hi1s).toNat : Int) == 46) = true := by rw [hd]; rfl
                have hF : Hid (mailL s.data.toList = false) := by unfold Hid; rw [HML.out, mrel_dots s k i hlt hik HM.out hc46 Hat.out hd]; simp
                clear hc46 hd e1 e2
                go_wp2_with (first | (go_at_call 24; refine (hlt0.out _).mono ?_; rintro e w1 ⟨rfl, hw1⟩; subst hw1) | (go_at_call 19; refine (hdg.out _).mono ?_; rintro e w2 ⟨rfl, hw2⟩; subst hw2))
                go_ret
                exact ⟨by rw [hF.out]; rfl, Below.refl _ _⟩
              · have hd' : (((s[i + 1]'hi1s).toNat : Int) == 46) = false := ne_num _ 46 hd
                have hM := hide (mrel_dot s k i hlt hik HM.out hc46 Hz1.out hd)
                clear hc46 hd e1 e2
                go_wp2_with (first | (go_at_call 24; refine (hlt0.out _).mono ?_; rintro e w1 ⟨rfl, hw1⟩; subst hw1) | (go_at_call 19; refine (hdg.out _).mono ?_; rintro e w2 ⟨rfl, hw2⟩; subst hw2))
                go_round
                case rel => exact ⟨i + 1, by simp, by omega, hM⟩
                case measure => simp [intOf]; omega
            · have hc46' : (((s[i]'his).toNat : Int) == 46) = false := ne_num _ 46 hc46
              have hc46n : (((s[i]'his).toNat : Int) != 46) = true := by unfold bne; rw [hc46']; rfl
              have hsp := locN_split (s[i]'his).toNat
              generalize ltN (s[i]'his).toNat = L at hlt0 hsp
              generalize digN (s[i]'his).toNat = G at hdg hsp
              cases L with
              | true =>
                have hn : locN (s[i]'his).toNat = true := by rw [hsp]; simp
                clear hsp
                have hM := hide (mrel_step s k i (by omega) hik HM.out hc46 hn)
                clear hn hc46
                go_wp2_with (first | (go_at_call 24; refine (hlt0.out _).mono ?_; rintro e w1 ⟨rfl, hw1⟩; subst hw1) | (go_at_call 19; refine (hdg.out _).mono ?_; rintro e w2 ⟨rfl, hw2⟩; subst hw2))
                go_round
                case rel => exact ⟨i + 1, by simp, by omega, hM⟩
                case measure => simp [intOf]; omega
              | false =>
                cases G with
                | true =>
                  have hn : locN (s[i]'his).toNat = true := by rw [hsp]; simp
                  clear hsp
                  have hM := hide (mrel_step s k i (by omega) hik HM.out hc46 hn)
                  clear hn hc46
                  go_wp2_with (first | (go_at_call 24; refine (hlt0.out _).mono ?_; rintro e w1 ⟨rfl, hw1⟩; subst hw1) | (go_at_call 19; refine (hdg.out _).mono ?_; rintro e w2 ⟨rfl, hw2⟩; subst hw2))
                  go_round
                  case rel => exact ⟨i + 1, by simp, by omega, hM⟩
                  case measure => simp [intOf]; omega
                | false =>
                  by_cases h95 : (s[i]'his).toNat = 95
                  · have h95n : (((s[i]'his).toNat : Int) != 95) = false := by rw [h95]; rfl
                    have hn : locN (s[i]'his).toNat = true := by rw [hsp, decide_eq_true h95]; rfl
                    clear hsp h95
                    have hM := hide (mrel_step s k i (by omega) hik HM.out hc46 hn)
                    clear hn hc46
                    go_wp2_with (first | (go_at_call 24; refine (hlt0.out _).mono ?_; rintro e w1 ⟨rfl, hw1⟩; subst hw1) | (go_at_call 19; refine (hdg.out _).mono ?_; rintro e w2 ⟨rfl, hw2⟩; subst hw2))
                    go_round
                    case rel => exact ⟨i + 1, by simp, by omega, hM⟩
                    case measure => simp [intOf]; omega
                  have h95n : (((s[i]'his).toNat : Int) != 95) = true := by simp; omega
                  by_cases h43 : (s[i]'his).toNat = 43
                  · have h43n : (((s[i]'his).toNat : Int) != 43) = false := by rw [h43]; rfl
                    have hn : locN (s[i]'his).toNat = true := by rw [hsp, decide_eq_true h43]; simp
                    clear hsp h43 h95
                    have hM := hide (mrel_step s k i (by omega) hik HM.out hc46 hn)
                    clear hn hc46
                    go_wp2_with (first | (go_at_call 24; refine (hlt0.out _).mono ?_; rintro e w1 ⟨rfl, hw1⟩; subst hw1) | (go_at_call 19; refine (hdg.out _).mono ?_; rintro e w2 ⟨rfl, hw2⟩; subst hw2))
                    go_round
                    case rel => exact ⟨i + 1, by simp, by omega, hM⟩
                    case measure => simp [intOf]; omega
                  have h43n : (((s[i]'his).toNat : Int) != 43) = true := by simp; omega
                  by_cases h45 : (s[i]'his).toNat = 45
                  · have h45n : (((s[i]'his).toNat : Int) != 45) = false := by rw [h45]; rfl
                    have hn : locN (s[i]'his).toNat = true := by rw [hsp, decide_eq_true h45]; simp
                    clear hsp h43 h95 h45
                    have hM := hide (mrel_step s k i (by omega) hik HM.out hc46 hn)
                    clear hn hc46
                    go_wp2_with (first | (go_at_call 24; refine (hlt0.out _).mono ?_; rintro e w1 ⟨rfl, hw1⟩; subst hw1) | (go_at_call 19; refine (hdg.out _).mono ?_; rintro e w2 ⟨rfl, hw2⟩; subst hw2))
                    go_round
                    case rel => exact ⟨i + 1, by simp, by omega, hM⟩
                    case measure => simp [intOf]; omega
                  · have h45n : (((s[i]'his).toNat : Int) != 45) = true := by simp; omega
                    have hn : locN (s[i]'his).toNat = false := by rw [hsp, decide_eq_false h95, decide_eq_false h43, decide_eq_false h45]; rfl
                    clear hsp h43 h95 h45
                    have hF : Hid (mailL s.data.toList = false) := by unfold Hid; rw [HML.out, mrel_bad s k i (by omega) hik HM.out hc46 hn]; simp
                    clear hn hc46
                    go_wp2_with (first | (go_at_call 24; refine (hlt0.out _).mono ?_; rintro e w1 ⟨rfl, hw1⟩; subst hw1) | (go_at_call 19; refine (hdg.out _).mono ?_; rintro e w2 ⟨rfl, hw2⟩; subst hw2))
                    go_ret
                    exact ⟨by rw [hF.out]; rfl, Below.refl _ _⟩
          · obtain rfl : i = k := by omega
            have hikI : ¬ (i : Int) < (i : Int) := by omega
            have hdl : (s.data.toList.drop (i + 1)).length ≤ s.size := by rw [List.length_drop, size_len]; omega
            have hD := hide (fun W => refDNS_any (tx (s.data.toList.drop (i + 1))) (by rw [tx_size]; omega) W)
            rw [tx_list] at hD
            have hF : Hid (mailL s.data.toList = dnsL (s.data.toList.drop (i + 1))) := by unfold Hid; rw [HML.out, mrel_end s i HM.out, Bool.true_and]
            have hi1I : (i : Int) + 1 ≤ (s.size : Int) := by omega
            have sl2 : ∀ X, (Instr.slice 9 (.string s) (some (.int .i64 ((i : Int) + 1))) none none).run Try.prog X = .ok (.string (tx (s.data.toList.drop (i + 1)))) X := fun X => by
              have h := run_slice_string_from_if (P := Try.prog) (w := X) 9 s .i64 ((i : Int) + 1) Try.underlying9
              rw [h, if_pos (by omega), show ((i : Int) + 1).toNat = i + 1 by omega, cut_textH]
              unfold cutH
              rw [List.take_of_length_le (by rw [size_len]; exact Nat.le_refl _)]
            generalize s.data.toList.drop (i + 1) = t at hD hF sl2
            clear hdl
            go_wp2_with (go_at_call 6; refine (hD.out _).mono ?_; rintro e w3 ⟨rfl, B3⟩)
            go_ret
            exact ⟨by rw [hF.out]; rfl, B3⟩
      · have hat0 : (((s[k]'hlt).toNat : Int) == 64) = false := ne_num _ 64 hat
        have hat' : (((s[k]'hlt).toNat : Int) != 64) = true := by unfold bne; rw [hat0]; rfl
        clear hat0
        have HK2 : Hid (∀ (i : Nat) (hi : i < s.size), i < k + 1 → (s[i]'hi) ≠ 64) := fun i hi hik => by
          by_cases h : i = k
          · subst h; exact hat
          · exact HK.out i hi (by omega)
        clear hat HK
        go_wp2
        go_round
        case rel => exact ⟨k + 1, by simp, by omega, HK2⟩
        case measure => simp [intOf]; omega
    · obtain rfl : k = s.size := by omega
      have hltI : ¬ (s.size : Int) < (s.size : Int) := by omega
      have hke : ((s.size : Int) == (s.size : Int)) = true := by simp
      have hF : Hid (mailL s.data.toList = false) := mail_none s (fun i hi => HK.out i hi hi)
      clear HK
      go_wp2
      go_ret
      exact ⟨by rw [hF.out]; rfl, Below.refl _ _⟩

end Go.Proofs.Ytpdomfifoplbnaa
