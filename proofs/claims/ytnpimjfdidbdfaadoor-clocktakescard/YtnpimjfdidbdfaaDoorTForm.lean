/-
  clock.isForm.
-/
import Derived.Test.YtnpimjfdidbdfaaDoorTNum
namespace Go.Proofs.YtnpimjfdidbdfaaDoor
open Go.RowKit

theorem cut_one (xs : List Int) (n : Nat) (h : xs.length = n + 1) : (xs.take (n + 1)).drop n = [xs.getD n 0] := by
  rw [List.take_of_length_le (by omega), List.drop_eq_getElem_cons (by omega), List.drop_of_length_le (by omega)]
  simp [List.getD, h]

theorem cutA_0 (b off cap : Nat) (h : cap ≠ 0) : cutA (some ⟨b, off, none⟩) cap 0 = some ⟨b, off, none⟩ := by
  unfold cutA
  rw [if_neg h]
  simp [add_none]

theorem z_ne (z : Int) (h0 : 0 ≤ z ∧ z < 256) (h : z ≠ 90) : strOfNums [z] ≠ ⟨#[90]⟩ := by
  intro e
  have := congrArg (fun s : ByteArray => s.data.toList) e
  simp [strOfNums] at this
  have h1 := congrArg UInt8.toNat this
  rw [UInt8.toNat_ofNat'] at h1
  have : (90 : UInt8).toNat = 90 := rfl
  omega

set_option maxRecDepth 100000 in
set_option maxHeartbeats 2000000 in
theorem isForm_2 (ao : Option Addr) (n cap : Nat) (xs : List Int) (w : World) (hs : Src w ao n cap xs) (hm : n ≤ 140737488355328) :
    Calls Tryd.prog 39 #[.slice ao n cap, .int .i64 2] w fun e w' => e = .returned (.bool (formB 2 xs)) ∧ w' = w := by
  have HL := hide hs.hlen
  by_cases hn : n = 13
  · subst hn
    obtain ⟨b, off, rfl, hc0⟩ := hs.at 0 (by omega)
    clear hc0
    have HS := hide hs
    have hcap := hs.hcap
    have hmax := hs.hmax
    unfold maxLen at hmax
    have s1 : (Instr.slice 46 (.slice (some ⟨b, off, none⟩) 13 cap) (some (.int .i64 12)) none none).run Tryd.prog w = .ok (.slice (cutA (some ⟨b, off, none⟩) cap 12) 1 (cap - 12)) w := slice_lo w _ 13 cap 12 12 rfl (by omega)
    have u1 : (convert 46 9 (.slice (cutA (some ⟨b, off, none⟩) cap 12) 1 (cap - 12))).run Tryd.prog w = .ok (.string (strOfNums [xs.getD 12 0])) w := by
      have := (hs.cut 12 13 (by omega) (Nat.le_refl _)).text
      rw [cut_one xs 12 (by rw [HL.out])] at this
      exact this
    have s2 : (Instr.slice 46 (.slice (some ⟨b, off, none⟩) 13 cap) none (some (.int .i64 12)) none).run Tryd.prog w = .ok (.slice (some ⟨b, off, none⟩) 12 cap) w := by
      have := slice_hi w (some ⟨b, off, none⟩) 13 cap 12 12 rfl (by omega)
      rwa [cutA_0 b off cap (by omega)] at this
    have hzb : 0 ≤ xs.getD 12 0 ∧ xs.getD 12 0 < 256 := by
      rw [List.getD, List.getElem?_eq_getElem (by rw [HL.out]; omega)]
      exact hs.hbyt _ (List.getElem_mem _)
    clear hs
    generalize cutA (some ⟨b, off, none⟩) cap 12 = cA at s1 u1
    by_cases hz : xs.getD 12 0 = 90
    · have HZ := hide hz
      rw [hz] at u1
      have hstr : strOfNums [90] = ⟨#[90]⟩ := rfl
      rw [hstr] at u1
      clear hz hstr hzb
      go_enter Tryd.func39, Tryd.ntmps39
      go_wp2
      go_loop [26] (fun i => ∃ I : Nat, I ≤ 12 ∧ i = .int .i64 I ∧ Hid (∀ J, J < I → 48 ≤ xs.getD J 0 ∧ xs.getD J 0 ≤ 57)) (fun i => 12 - (intOf i).toNat)
      case atStart => exact ⟨0, Nat.zero_le _, rfl, fun J hJ => absurd hJ (by omega)⟩
      case round =>
        obtain ⟨I, hI, rfl, hA⟩ := hrel
        by_cases hlt : I < 12
        · obtain ⟨b', off', hA', hc⟩ := HS.out.at I (by omega)
          simp at hA'
          obtain ⟨rfl, rfl⟩ := hA'
          have kI : (I : Int) < 12 := by omega
          by_cases hd : 48 ≤ xs.getD I 0 ∧ xs.getD I 0 ≤ 57
          · have hnx : Hid (∀ J, J < I + 1 → 48 ≤ xs.getD J 0 ∧ xs.getD J 0 ≤ 57) := by
              intro J hJ
              by_cases e : J = I
              · rw [e]; exact hd
              · exact hA.out J (by omega)
            generalize xs.getD I 0 = x at hc hd
            have k1 : ¬ x < 48 := by omega
            have k2 : ¬ 57 < x := by omega
            go_wp2
            go_round
            case rel => exact ⟨I + 1, by omega, by go_num, hnx⟩
            case measure => simp [intOf]; omega
          · have hf := hide (formB_no3 (k := 2) I hlt HL.out hd)
            generalize xs.getD I 0 = x at hc hd
            by_cases k1 : x < 48
            · go_wp2
              go_ret
              exact ⟨by rw [hf.out]; rfl, rfl⟩
            · have k2 : 57 < x := by omega
              have k3 : decide (x < 48) = false := by simpa using k1
              go_wp2
              go_ret
              exact ⟨by rw [hf.out]; rfl, rfl⟩
        · have kI : ¬ (I : Int) < 12 := by omega
          have hf := hide (formB_yes (k := 2) HL.out HZ.out (fun J hJ => hA.out J (by omega)))
          go_wp2
          go_ret
          exact ⟨by rw [hf.out]; rfl, rfl⟩
    · have hf := hide (formB_no2 (k := 2) hz)
      have hne := z_ne _ hzb hz
      generalize xs.getD 12 0 = z at *
      generalize strOfNums [z] = ZS at *
      have hne2 : (ZS.toList == [90]) = false := by
        apply beq_eq_false_iff_ne.2
        intro e
        apply hne
        apply ByteArray.ext
        apply Array.toList_inj.1
        rw [← ByteArray.toList_eq, e]
      clear hz hzb
      go_enter Tryd.func39, Tryd.ntmps39
      go_wp2
      go_ret
      exact ⟨by rw [hf.out]; rfl, rfl⟩
  · have hf := hide (formB_no1 (k := 2) (by rw [HL.out]; exact hn))
    have hnn : ((n : Int) != 13) = true := by simp; omega
    have hm' : (n : Int) ≤ 140737488355328 := by omega
    clear hs hn
    go_enter Tryd.func39, Tryd.ntmps39
    go_wp2
    go_ret
    exact ⟨by rw [hf.out]; rfl, rfl⟩

set_option maxRecDepth 100000 in
set_option maxHeartbeats 2000000 in
theorem isForm_4 (ao : Option Addr) (n cap : Nat) (xs : List Int) (w : World) (hs : Src w ao n cap xs) (hm : n ≤ 140737488355328) :
    Calls Tryd.prog 39 #[.slice ao n cap, .int .i64 4] w fun e w' => e = .returned (.bool (formB 4 xs)) ∧ w' = w := by
  have HL := hide hs.hlen
  by_cases hn : n = 15
  · subst hn
    obtain ⟨b, off, rfl, hc0⟩ := hs.at 0 (by omega)
    clear hc0
    have HS := hide hs
    have hcap := hs.hcap
    have hmax := hs.hmax
    unfold maxLen at hmax
    have s1 : (Instr.slice 46 (.slice (some ⟨b, off, none⟩) 15 cap) (some (.int .i64 14)) none none).run Tryd.prog w = .ok (.slice (cutA (some ⟨b, off, none⟩) cap 14) 1 (cap - 14)) w := slice_lo w _ 15 cap 14 14 rfl (by omega)
    have u1 : (convert 46 9 (.slice (cutA (some ⟨b, off, none⟩) cap 14) 1 (cap - 14))).run Tryd.prog w = .ok (.string (strOfNums [xs.getD 14 0])) w := by
      have := (hs.cut 14 15 (by omega) (Nat.le_refl _)).text
      rw [cut_one xs 14 (by rw [HL.out])] at this
      exact this
    have s2 : (Instr.slice 46 (.slice (some ⟨b, off, none⟩) 15 cap) none (some (.int .i64 14)) none).run Tryd.prog w = .ok (.slice (some ⟨b, off, none⟩) 14 cap) w := by
      have := slice_hi w (some ⟨b, off, none⟩) 15 cap 14 14 rfl (by omega)
      rwa [cutA_0 b off cap (by omega)] at this
    have hzb : 0 ≤ xs.getD 14 0 ∧ xs.getD 14 0 < 256 := by
      rw [List.getD, List.getElem?_eq_getElem (by rw [HL.out]; omega)]
      exact hs.hbyt _ (List.getElem_mem _)
    clear hs
    generalize cutA (some ⟨b, off, none⟩) cap 14 = cA at s1 u1
    by_cases hz : xs.getD 14 0 = 90
    · have HZ := hide hz
      rw [hz] at u1
      have hstr : strOfNums [90] = ⟨#[90]⟩ := rfl
      rw [hstr] at u1
      clear hz hstr hzb
      go_enter Tryd.func39, Tryd.ntmps39
      go_wp2
      go_loop [26] (fun i => ∃ I : Nat, I ≤ 14 ∧ i = .int .i64 I ∧ Hid (∀ J, J < I → 48 ≤ xs.getD J 0 ∧ xs.getD J 0 ≤ 57)) (fun i => 14 - (intOf i).toNat)
      case atStart => exact ⟨0, Nat.zero_le _, rfl, fun J hJ => absurd hJ (by omega)⟩
      case round =>
        obtain ⟨I, hI, rfl, hA⟩ := hrel
        by_cases hlt : I < 14
        · obtain ⟨b', off', hA', hc⟩ := HS.out.at I (by omega)
          simp at hA'
          obtain ⟨rfl, rfl⟩ := hA'
          have kI : (I : Int) < 14 := by omega
          by_cases hd : 48 ≤ xs.getD I 0 ∧ xs.getD I 0 ≤ 57
          · have hnx : Hid (∀ J, J < I + 1 → 48 ≤ xs.getD J 0 ∧ xs.getD J 0 ≤ 57) := by
              intro J hJ
              by_cases e : J = I
              · rw [e]; exact hd
              · exact hA.out J (by omega)
            generalize xs.getD I 0 = x at hc hd
            have k1 : ¬ x < 48 := by omega
            have k2 : ¬ 57 < x := by omega
            go_wp2
            go_round
            case rel => exact ⟨I + 1, by omega, by go_num, hnx⟩
            case measure => simp [intOf]; omega
          · have hf := hide (formB_no3 (k := 4) I hlt HL.out hd)
            generalize xs.getD I 0 = x at hc hd
            by_cases k1 : x < 48
            · go_wp2
              go_ret
              exact ⟨by rw [hf.out]; rfl, rfl⟩
            · have k2 : 57 < x := by omega
              have k3 : decide (x < 48) = false := by simpa using k1
              go_wp2
              go_ret
              exact ⟨by rw [hf.out]; rfl, rfl⟩
        · have kI : ¬ (I : Int) < 14 := by omega
          have hf := hide (formB_yes (k := 4) HL.out HZ.out (fun J hJ => hA.out J (by omega)))
          go_wp2
          go_ret
          exact ⟨by rw [hf.out]; rfl, rfl⟩
    · have hf := hide (formB_no2 (k := 4) hz)
      have hne := z_ne _ hzb hz
      generalize xs.getD 14 0 = z at *
      generalize strOfNums [z] = ZS at *
      have hne2 : (ZS.toList == [90]) = false := by
        apply beq_eq_false_iff_ne.2
        intro e
        apply hne
        apply ByteArray.ext
        apply Array.toList_inj.1
        rw [← ByteArray.toList_eq, e]
      clear hz hzb
      go_enter Tryd.func39, Tryd.ntmps39
      go_wp2
      go_ret
      exact ⟨by rw [hf.out]; rfl, rfl⟩
  · have hf := hide (formB_no1 (k := 4) (by rw [HL.out]; exact hn))
    have hnn : ((n : Int) != 15) = true := by simp; omega
    have hm' : (n : Int) ≤ 140737488355328 := by omega
    clear hs hn
    go_enter Tryd.func39, Tryd.ntmps39
    go_wp2
    go_ret
    exact ⟨by rw [hf.out]; rfl, rfl⟩

end Go.Proofs.YtnpimjfdidbdfaaDoor
